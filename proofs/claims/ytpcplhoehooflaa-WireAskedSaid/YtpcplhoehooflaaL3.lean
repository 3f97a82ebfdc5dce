/- Rows of one length rise; a greater number has no shorter row. -/
import Derived.Test.YtpcplhoehooflaaL2
import Derived.WalkKit
namespace Go.Proofs.Ytpcplhoehooflaa.Plain

theorem less_snoc : ∀ (p q : List UInt8) (c d : UInt8), p.length = q.length → Op.bytesLess (p ++ [c]) (q ++ [d]) = (Op.bytesLess p q || (p == q && decide (c < d))) := by
  intro p
  induction p with
  | nil =>
    intro q c d h
    cases q with
    | nil => simp [Op.bytesLess]
    | cons b q => simp at h
  | cons a p ih =>
    intro q c d h
    cases q with
    | nil => simp at h
    | cons b q =>
      have := ih q c d (by simpa using h)
      simp only [List.cons_append, Op.bytesLess, this]
      by_cases h1 : a = b
      · subst h1; simp
      · have h2 : (a == b) = false := by simpa using h1
        have h3 : (a :: p == b :: q) = false := by simp [h1]
        simp [h2, h3]

theorem hi_length_pos {m : Nat} (h : m ≠ 0) : (hi m).length = (hi (m / 128)).length + 1 := by rw [hi_pos h]; simp
theorem hi_nil {m : Nat} (h : (hi m).length = 0) : m = 0 := by
  by_cases h0 : m = 0
  · exact h0
  · rw [hi_length_pos h0] at h; omega

theorem lt_of {a b : Nat} (ha : a < 256) (hb : b < 256) : (UInt8.ofNat a < UInt8.ofNat b) = (a < b) := by
  rw [UInt8.lt_iff_toNat_lt, toNat_of ha, toNat_of hb]

theorem hi_less (m : Nat) : ∀ m', (hi m).length = (hi m').length → Op.bytesLess (hi m) (hi m') = decide (m < m') ∧ (hi m = hi m' → m = m') := by
  induction m using Nat.strongRecOn with
  | _ m ih =>
    intro m' h
    by_cases h0 : m = 0
    · subst h0
      have : m' = 0 := hi_nil (by rw [← h, hi_zero]; rfl)
      subst this
      rw [hi_zero]
      exact ⟨by simp [Op.bytesLess], fun _ => rfl⟩
    · have h0' : m' ≠ 0 := by
        intro e; subst e
        rw [hi_length_pos h0, hi_zero] at h; simp at h
      rw [hi_length_pos h0, hi_length_pos h0'] at h
      have hl : (hi (m / 128)).length = (hi (m' / 128)).length := by omega
      obtain ⟨i1, i2⟩ := ih (m / 128) (by omega) (m' / 128) hl
      rw [hi_pos h0, hi_pos h0', less_snoc _ _ _ _ hl, i1]
      constructor
      · rw [Bool.eq_iff_iff]
        simp only [Bool.or_eq_true, decide_eq_true_eq, Bool.and_eq_true, beq_iff_eq, lt_of (show m % 128 + 128 < 256 by omega) (show m' % 128 + 128 < 256 by omega)]
        constructor
        · rintro (h1 | ⟨h1, h2⟩)
          · omega
          · have := i2 h1; omega
        · intro hlt
          by_cases e : m / 128 = m' / 128
          · right; rw [e]; exact ⟨rfl, by omega⟩
          · left; omega
      · intro e
        have e' := List.append_inj e hl
        have h1 := i2 e'.1
        have h2 : m % 128 + 128 = m' % 128 + 128 := by
          have := congrArg UInt8.toNat (by simpa using e'.2 : UInt8.ofNat (m % 128 + 128) = UInt8.ofNat (m' % 128 + 128))
          rwa [toNat_of (by omega), toNat_of (by omega)] at this
        omega

theorem row_length (n : Nat) : (row n).length = (hi (n / 128)).length + 1 := by unfold row; simp

theorem row_less (a b : Nat) (h : (row a).length = (row b).length) : Op.bytesLess (row a) (row b) = decide (a < b) := by
  rw [row_length, row_length] at h
  have hl : (hi (a / 128)).length = (hi (b / 128)).length := by omega
  obtain ⟨i1, i2⟩ := hi_less (a / 128) (b / 128) hl
  unfold row
  rw [less_snoc _ _ _ _ hl, i1, Bool.eq_iff_iff]
  simp only [Bool.or_eq_true, decide_eq_true_eq, Bool.and_eq_true, beq_iff_eq, lt_of (show a % 128 < 256 by omega) (show b % 128 < 256 by omega)]
  constructor
  · rintro (h1 | ⟨h1, h2⟩)
    · omega
    · have := i2 h1; omega
  · intro hlt
    by_cases e : a / 128 = b / 128
    · right; rw [e]; exact ⟨rfl, by omega⟩
    · left; omega

theorem hi_mono (m : Nat) : ∀ m', m ≤ m' → (hi m).length ≤ (hi m').length := by
  induction m using Nat.strongRecOn with
  | _ m ih =>
    intro m' h
    by_cases h0 : m = 0
    · subst h0; rw [hi_zero]; simp
    · rw [hi_length_pos h0, hi_length_pos (show m' ≠ 0 by omega)]
      have := ih (m / 128) (by omega) (m' / 128) (by omega)
      omega
theorem row_shorter {a b : Nat} (h : (row a).length < (row b).length) : a < b := by
  by_cases hlt : a < b
  · exact hlt
  · have := hi_mono (b / 128) (a / 128) (by omega)
    rw [row_length, row_length] at h
    omega
theorem row_times (a : Nat) (h : 0 < a) : (row (a * 128)).length = (row a).length + 1 := by
  rw [row_length, row_length, show a * 128 / 128 = a by omega, hi_length_pos (show a ≠ 0 by omega)]
end Go.Proofs.Ytpcplhoehooflaa.Plain
