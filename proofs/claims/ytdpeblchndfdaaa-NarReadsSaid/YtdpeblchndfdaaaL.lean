/- Plain facts on the bytes of numbers: what a row is, and what is read of it. -/
namespace Go.Proofs.Ytdpeblchndfdaaa.Plain

def top : Nat := 144115188075855871
def big : Nat := 18446744073709551616

/-- the digits ahead of the last one, each with 128 -/
def hi (m : Nat) : List UInt8 :=
  if h : m = 0 then [] else hi (m / 128) ++ [UInt8.ofNat (m % 128 + 128)]
termination_by m
decreasing_by omega

def row (n : Nat) : List UInt8 := hi (n / 128) ++ [UInt8.ofNat (n % 128)]

/-- what is read behind n -/
def num : List UInt8 → Nat → Option (Nat × List UInt8)
  | [], _ => none
  | c :: r, n => if top < n then none else
      if c.toNat < 128 then some (n * 128 + c.toNat, r) else num r (n * 128 + (c.toNat - 128))

def cut (l : List UInt8) : Option (Nat × List UInt8) :=
  if l.head? = some 128 then none else num l 0

theorem big_top : big = 128 * (top + 1) := by decide

theorem hi_zero : hi 0 = [] := by unfold hi; simp
theorem hi_pos {m : Nat} (h : m ≠ 0) : hi m = hi (m / 128) ++ [UInt8.ofNat (m % 128 + 128)] := by
  rw [hi]; simp [h]
theorem toNat_of {n : Nat} (h : n < 256) : (UInt8.ofNat n).toNat = n := by
  simp [UInt8.toNat_ofNat']; omega
theorem of_toNat (c : UInt8) : UInt8.ofNat c.toNat = c := UInt8.ofNat_toNat

theorem num_hi (m : Nat) : ∀ rest : List UInt8, m ≤ top → num (hi m ++ rest) 0 = num rest m := by
  induction m using Nat.strongRecOn with
  | _ m ih =>
    intro rest hm
    by_cases h0 : m = 0
    · subst h0; rw [hi_zero]; rfl
    · rw [hi_pos h0, List.append_assoc, ih (m / 128) (by omega) _ (by omega)]
      simp only [List.singleton_append, num]
      rw [toNat_of (by omega), if_neg (by omega), if_neg (by omega)]
      exact congrArg _ (by omega)

theorem num_row (n : Nat) (h : n < big) (r : List UInt8) : num (row n ++ r) 0 = some (n, r) := by
  unfold row
  have hb := big_top
  rw [List.append_assoc, num_hi _ _ (by omega)]
  simp only [List.singleton_append, num]
  rw [toNat_of (by omega), if_neg (by omega), if_pos (by omega)]
  exact congrArg (fun x => some (x, r)) (by omega)

theorem head_app {l r : List UInt8} (h : l ≠ []) : (l ++ r).head? = l.head? := by
  cases l with
  | nil => exact absurd rfl h
  | cons a l => rfl

theorem hi_head (m : Nat) : ∀ c, (hi m).head? = some c → c ≠ 128 := by
  induction m using Nat.strongRecOn with
  | _ m ih =>
    intro c hc
    by_cases h0 : m = 0
    · subst h0; rw [hi_zero] at hc; simp at hc
    · rw [hi_pos h0] at hc
      by_cases h1 : m / 128 = 0
      · rw [h1, hi_zero] at hc
        simp only [List.nil_append, List.head?_cons, Option.some.injEq] at hc
        intro h
        have := congrArg UInt8.toNat (hc.trans h)
        rw [toNat_of (by omega)] at this
        simp at this; omega
      · have hne : hi (m / 128) ≠ [] := by rw [hi_pos h1]; simp
        rw [head_app hne] at hc
        exact ih (m / 128) (by omega) c hc

theorem row_head (n : Nat) (r : List UInt8) : (row n ++ r).head? ≠ some 128 := by
  unfold row
  intro h
  by_cases h1 : n / 128 = 0
  · rw [h1, hi_zero] at h
    simp only [List.nil_append, List.singleton_append, List.head?_cons, Option.some.injEq] at h
    have := congrArg UInt8.toNat h
    rw [toNat_of (by omega)] at this
    simp at this; omega
  · have hne : hi (n / 128) ≠ [] := by rw [hi_pos h1]; simp
    rw [List.append_assoc, head_app hne] at h
    exact hi_head _ _ h rfl

theorem cut_row (n : Nat) (h : n < big) (r : List UInt8) : cut (row n ++ r) = some (n, r) := by
  unfold cut
  rw [if_neg (row_head n r), num_row n h]

theorem num_back : ∀ (l : List UInt8) (a n : Nat) (r : List UInt8), num l a = some (n, r) → (a ≠ 0 ∨ l.head? ≠ some 128) →
    hi a ++ l = row n ++ r ∧ n < big := by
  intro l
  induction l with
  | nil => intro a n r h; simp [num] at h
  | cons c l ih =>
    intro a n r h ha
    simp only [num] at h
    split at h
    · cases h
    · split at h
      · rename_i h1 h2
        simp only [Option.some.injEq, Prod.mk.injEq] at h
        obtain ⟨rfl, rfl⟩ := h
        have hb := big_top
        have hc : c.toNat < 256 := c.toNat_lt
        refine ⟨?_, by omega⟩
        unfold row
        rw [show (a * 128 + c.toNat) / 128 = a by omega, show (a * 128 + c.toNat) % 128 = c.toNat by omega, of_toNat]
        simp
      · rename_i h1 h2
        have hc : c.toNat < 256 := c.toNat_lt
        have hne : a * 128 + (c.toNat - 128) ≠ 0 := by
          rcases ha with ha | ha
          · omega
          · simp at ha
            intro h0
            apply ha
            apply UInt8.toNat_inj.1
            simp; omega
        have := ih _ n r h (.inl hne)
        rw [hi_pos hne] at this
        rw [show (a * 128 + (c.toNat - 128)) / 128 = a by omega, show (a * 128 + (c.toNat - 128)) % 128 + 128 = c.toNat by omega, of_toNat] at this
        simpa using this

theorem cut_back {l : List UInt8} {n : Nat} {r : List UInt8} (h : cut l = some (n, r)) : l = row n ++ r ∧ n < big := by
  unfold cut at h
  split at h
  · cases h
  · rename_i h1
    have := num_back l 0 n r h (.inr h1)
    rw [hi_zero] at this
    simpa using this

/-- a row's bytes: all but the last one are 128 at least, the last one is below -/
theorem hi_all (m : Nat) : ∀ c ∈ hi m, 128 ≤ c.toNat := by
  induction m using Nat.strongRecOn with
  | _ m ih =>
    intro c hc
    by_cases h0 : m = 0
    · subst h0; rw [hi_zero] at hc; simp at hc
    · rw [hi_pos h0] at hc
      simp only [List.mem_append, List.mem_singleton] at hc
      rcases hc with hc | rfl
      · exact ih _ (by omega) c hc
      · rw [toNat_of (by omega)]; omega

theorem hi_length (j : Nat) : ∀ m : Nat, m < 128 ^ j → (hi m).length ≤ j := by
  induction j with
  | zero => intro m hm; simp at hm; subst hm; rw [hi_zero]; simp
  | succ j ih =>
    intro m hm
    by_cases h0 : m = 0
    · subst h0; rw [hi_zero]; simp
    · rw [hi_pos h0]
      have := ih (m / 128) (by rw [Nat.pow_succ] at hm; omega)
      simp; omega

theorem row_length_le (n : Nat) (h : n < big) : (row n).length ≤ 10 := by
  have hb : big = 128 * 144115188075855872 := by decide
  have hp : 144115188075855872 ≤ 128 ^ 9 := by decide
  have := hi_length 9 (n / 128) (by omega)
  unfold row; simp; omega

theorem row_length_pos (n : Nat) : 0 < (row n).length := by unfold row; simp

end Go.Proofs.Ytdpeblchndfdaaa.Plain
