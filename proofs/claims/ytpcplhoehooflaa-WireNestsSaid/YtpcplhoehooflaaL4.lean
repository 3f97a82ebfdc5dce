/- Texts within texts. -/
import Derived.Test.YtpcplhoehooflaaL3
namespace Go.Proofs.Ytpcplhoehooflaa.Plain

def nest : List Nat → List UInt8 → List UInt8
  | [], core => core
  | n :: l, core => row n ++ (row (nest l core).length ++ nest l core)

theorem nest_length (core : List UInt8) : ∀ l : List Nat, (∀ n ∈ l, n < big) → l.length ≤ 30 → core.length ≤ 300 → (nest l core).length ≤ core.length + 20 * l.length := by
  intro l
  induction l with
  | nil => intro _ _ _; simp [nest]
  | cons n l ih =>
    intro hn hl hc
    have h1 := ih (fun m hm => hn m (List.mem_cons_of_mem _ hm)) (by simp at hl; omega) hc
    have h2 := row_length_le n (hn n List.mem_cons_self)
    simp at hl
    have h3 := row_length_le (nest l core).length (by unfold big; omega)
    simp [nest]; omega

theorem nest_drop (core : List UInt8) (l : List Nat) (i : Nat) (h : i < l.length) : nest (l.drop i) core = row l[i] ++ (row (nest (l.drop (i + 1)) core).length ++ nest (l.drop (i + 1)) core) := by
  rw [List.drop_eq_getElem_cons h]; rfl

theorem row_zero : row 0 = [0] := by
  unfold row; rw [show 0 / 128 = 0 by decide, hi_zero]; rfl

/-- one byte less: the number still stands there, the text doesn't -/
theorem nest_less (n : Nat) (hn : n < big) (t : List UInt8) (ht : t.length < big) :
    ∃ X, cut ((row n ++ (row t.length ++ t)).dropLast) = some (n, X) ∧ (cut X = none ∨ ∃ r, cut X = some (t.length, r) ∧ r.length < t.length) := by
  cases t with
  | nil =>
    refine ⟨[], ?_, .inl rfl⟩
    have := cut_row n hn []
    simpa [row_zero] using this
  | cons c t =>
    refine ⟨row (c :: t).length ++ (c :: t).dropLast, ?_, .inr ⟨(c :: t).dropLast, cut_row _ ht _, by simp⟩⟩
    rw [← cut_row n hn (row (c :: t).length ++ (c :: t).dropLast)]
    congr 1
    rw [List.dropLast_append_of_ne_nil (by simp), List.dropLast_append_of_ne_nil (by simp)]
end Go.Proofs.Ytpcplhoehooflaa.Plain
