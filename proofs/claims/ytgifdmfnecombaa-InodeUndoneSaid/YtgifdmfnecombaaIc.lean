/- What a table is asked: dir, Find, Up, Root. -/
import Derived.Test.YtgifdmfnecombaaIb
namespace Go.Proofs.Ytgifdmfnecombaa
open Go.RowKit
set_option maxRecDepth 100000
def isDirT (T : Tab) (k : Int) : Bool := match T.f k with
  | some i => i.kind == 2
  | none => false
theorem below_dr (W : World) : Below W.heap.size W W.drew := (Below.refl _ W).drew
theorem dir_any (base : Nat) (w : World) (tb : Nat) (T : Tab) (p : Place) (h : TabAt base w tb T p) (k : Int) (hk : (Lit.int .i64 k).wf = true) :
    Calls Try.prog 26 #[tabV tb, .int .i64 k] w fun e w' => e = .returned (.tuple #[ptrV (p.g k), .bool (isDirT T k)]) ∧ Below w.heap.size w w' := by
  have HH := Lib.hid h
  obtain ⟨R, hR⟩ : ∃ R, R = isDirT T k := ⟨_, rfl⟩
  rw [← hR]
  unfold isDirT at hR
  go_enter Try.func26, Try.ntmps26
  go_wp2_with fail
  refine (at_any base w tb T p HH.out k hk).mono ?_
  rintro e w1 ⟨rfl, rfl⟩
  have hs := h.s k
  cases hf : T.f k with
  | none =>
    rw [hf] at hs hR
    have hg : p.g k = none := by cases hq : p.g k with
      | none => rfl
      | some b => rw [hq] at hs; cases hs
    rw [hg]
    obtain rfl : R = false := hR
    simp only [ptrV, Option.isSome]
    clear hs h
    go_wp2_with fail
    go_quiet (fail)
    go_wp2
    (try simp only [Exit.inBlock, Exit.then])
    exact bodyPost_ret (results_tmp2 rfl _ _ _) rfl ⟨by rw [hg]; rfl, below_drewN' (Below.refl _ _) _⟩
  | some i =>
    rw [hf] at hs hR
    obtain ⟨b, hg⟩ : ∃ b, p.g k = some b := Option.isSome_iff_exists.mp hs
    have hi := h.o k b i hg hf
    have c0 := hi.a.cell 0 _ rfl
    rw [hg]
    simp only [ptrV, Option.isSome]
    have HR := Lib.hid hR
    clear hR hs h hi
    by_cases h2 : i.kind = 2
    · rw [h2] at c0
      go_wp2_with fail
      go_quiet (fail)
      go_wp2
      (try simp only [Exit.inBlock, Exit.then])
      refine bodyPost_ret (results_tmp2 rfl _ _ _) rfl ⟨?_, below_drewN' (Below.refl _ _) _⟩
      rw [HR.out, h2, hg]; rfl
    · have h2' : (i.kind == 2) = false := by simpa using h2
      go_wp2_with fail
      go_quiet (fail)
      go_wp2
      (try simp only [Exit.inBlock, Exit.then])
      refine bodyPost_ret (results_tmp2 rfl _ _ _) rfl ⟨?_, below_drewN' (Below.refl _ _) _⟩
      rw [HR.out, h2', hg]; rfl
end Go.Proofs.Ytgifdmfnecombaa
