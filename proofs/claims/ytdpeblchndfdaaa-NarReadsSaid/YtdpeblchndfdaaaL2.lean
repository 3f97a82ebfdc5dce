/- Plain facts on the document's way to read a number. -/
import Derived.Test.YtdpeblchndfdaaaL
namespace Go.Proofs.Ytdpeblchndfdaaa.Plain

def val (l : List UInt8) : Nat := l.foldl (fun n c => (128 * n + c.toNat % 128) % big) 0

theorem val_snoc (l : List UInt8) (c : UInt8) : val (l ++ [c]) = (128 * val l + c.toNat % 128) % big := by
  unfold val; rw [List.foldl_append]; rfl
theorem val_lt (l : List UInt8) : val l < big := by
  rcases List.eq_nil_or_concat l with rfl | ⟨p, c, rfl⟩
  · decide
  · rw [List.concat_eq_append, val_snoc]; exact Nat.mod_lt _ (by decide)

theorem val_hi (m : Nat) : m ≤ top → val (hi m) = m := by
  induction m using Nat.strongRecOn with
  | _ m ih =>
    intro hm
    have hb := big_top
    by_cases h0 : m = 0
    · subst h0; rw [hi_zero]; rfl
    · rw [hi_pos h0, val_snoc, ih (m / 128) (by omega) (by omega), toNat_of (by omega), Nat.mod_eq_of_lt (by omega)]
      omega

theorem val_row (n : Nat) (h : n < big) : val (row n) = n := by
  have hb := big_top
  unfold row
  rw [val_snoc, val_hi _ (by omega), toNat_of (by omega), Nat.mod_eq_of_lt (by omega)]
  omega

theorem row_get (n k : Nat) (h : k + 1 = (row n).length) : (∀ i, (hi' : i < k) → 128 ≤ ((row n)[i]'(by omega)).toNat) ∧ ((row n)[k]'(by omega)).toNat < 128 := by
  have hl : k = (hi (n / 128)).length := by
    have : (row n).length = (hi (n / 128)).length + 1 := by unfold row; simp
    omega
  constructor
  · intro i h'
    have : (row n)[i]'(by omega) = (hi (n / 128))[i]'(by omega) := by
      unfold row; exact List.getElem_append_left (by omega)
    rw [this]
    exact hi_all _ _ (List.getElem_mem _)
  · have : (row n)[k]'(by omega) = UInt8.ofNat (n % 128) := by
      unfold row
      subst hl
      simp
    rw [this, toNat_of (by omega)]; omega

/-- bytes that a number was read from, seen from the front -/
theorem cut_front {l : List UInt8} {n : Nat} {r : List UInt8} (h : cut l = some (n, r)) :
    ∃ k, ∃ hk : k < l.length, k ≤ 9 ∧ (∀ i, (h' : i < k) → 128 ≤ (l[i]'(by omega)).toNat) ∧ l[k].toNat < 128 ∧ l.take (k + 1) = row n ∧ r = l.drop (k + 1) := by
  obtain ⟨hl, hn⟩ := cut_back h
  have h1 := row_length_le n hn
  have h0 := row_length_pos n
  have hlen : l.length = (row n).length + r.length := by rw [hl]; simp
  obtain ⟨g1, g2⟩ := row_get n ((row n).length - 1) (by omega)
  refine ⟨(row n).length - 1, by omega, by omega, ?_, ?_, ?_, ?_⟩
  · intro i h'
    have : l[i]'(by omega) = (row n)[i]'(by omega) := by
      simp only [hl]; exact List.getElem_append_left (by omega)
    rw [this]; exact g1 i h'
  · have : l[(row n).length - 1]'(by omega) = (row n)[(row n).length - 1]'(by omega) := by
      simp only [hl]; exact List.getElem_append_left (by omega)
    rw [this]; exact g2
  · rw [show (row n).length - 1 + 1 = (row n).length by omega, hl]; simp
  · rw [show (row n).length - 1 + 1 = (row n).length by omega]
    conv => rhs; rw [hl]
    simp

theorem ref_none {l : List UInt8} {k : Nat} (hall : ∀ i, (h : i < k) → ∀ h2 : i < l.length, 128 ≤ (l[i]).toNat) (hk : l.length ≤ k ∨ 9 < k) : cut l = none := by
  cases h : cut l with
  | none => rfl
  | some x =>
    obtain ⟨n, r⟩ := x
    obtain ⟨j, hj, hj9, _, hj2, _⟩ := cut_front h
    have : j < k := by omega
    have := hall j this hj
    omega

theorem ref_some {l : List UInt8} {k : Nat} (hk : k < l.length) (hall : ∀ i, (h : i < k) → ∀ h2 : i < l.length, 128 ≤ (l[i]).toNat) (hlow : l[k].toNat < 128) :
    (row (val (l.take (k + 1))) = l.take (k + 1) → cut l = some (val (l.take (k + 1)), l.drop (k + 1))) ∧ (row (val (l.take (k + 1))) ≠ l.take (k + 1) → cut l = none) := by
  constructor
  · intro h
    have := cut_row (val (l.take (k + 1))) (val_lt _) (l.drop (k + 1))
    rw [h, List.take_append_drop] at this
    exact this
  · intro h
    cases hc : cut l with
    | none => rfl
    | some x =>
      exfalso
      obtain ⟨n, r⟩ := x
      obtain ⟨j, hj, hj9, hj1, hj2, hj3, _⟩ := cut_front hc
      have : j = k := by
        rcases Nat.lt_trichotomy j k with h1 | h1 | h1
        · have := hall j h1 hj; omega
        · exact h1
        · have := hj1 k h1; omega
      subst this
      apply h
      rw [hj3, val_row n (cut_back hc).2]
end Go.Proofs.Ytdpeblchndfdaaa.Plain
