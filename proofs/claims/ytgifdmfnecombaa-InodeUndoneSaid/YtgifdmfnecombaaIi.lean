/- isDir: its closures. -/
import Derived.Test.YtgifdmfnecombaaIh
import Derived.Shelf.Abstract
namespace Go.Proofs.Ytgifdmfnecombaa
open Go.RowKit
set_option maxRecDepth 100000
theorem isDir11_any (base : Nat) (w : World) (tb : Nat) (T : Tab) (p : Place) (h : TabAt base w tb T p) (k : Int) (hk : (Lit.int .i64 k).wf = true) (b1 b2 : Nat) (h1 : At w b1 26 [tabV tb]) (h2 : At w b2 3 [.int .i64 k]) :
    Calls Try.prog 60 #[.pointer (some ⟨b1, 0, none⟩), .pointer (some ⟨b2, 0, none⟩)] w fun e w' => e = .returned (.int .i64 (if isDirT T k = true then 0 else 8)) ∧ Below w.heap.size w w' := by
  have c1 := h1.cell 0 _ rfl
  have c2 := h2.cell 0 _ rfl
  have HH := Lib.hid h
  obtain ⟨r, hr⟩ : ∃ r : Int, r = if isDirT T k = true then 0 else 8 := ⟨_, rfl⟩
  rw [← hr]
  have HR := Lib.hid hr
  clear h h1 h2 hr
  go_enter Try.func60, Try.ntmps60
  go_wp2_with fail
  refine (dir_any base w tb T p HH.out k hk).mono ?_
  rintro e w1 ⟨rfl, b⟩
  have HB := Lib.hid b
  clear b
  go_wp2_with fail
  refine (unless_any (isDirT T k) 8 w1).mono ?_
  rintro e w2 ⟨rfl, rfl⟩
  rw [← HR.out]
  go_wp2_with fail
  go_ret
  exact ⟨rfl, HB.out⟩
def isDirE (T : Tab) (k : Int) : Int := if (T.f k).isSome = true then (if isDirT T k = true then 0 else 8) else 5
theorem enter_has1 : ∀ (args : Array Value) (w : World), (callFunc 67 args).run Try.prog w = .ok (.enter 67 args) w := enters_of Try.func67 (by kernel_rfl) rfl
theorem enter_isDir11 : ∀ (args : Array Value) (w : World), (callFunc 60 args).run Try.prog w = .ok (.enter 60 args) w := enters_of Try.func60 (by kernel_rfl) rfl
theorem isDir1_any (base : Nat) (w : World) (tb : Nat) (T : Tab) (p : Place) (h : TabAt base w tb T p) (k : Int) (hk : (Lit.int .i64 k).wf = true) (b1 b2 : Nat) (h1 : At w b1 26 [tabV tb]) (h2 : At w b2 3 [.int .i64 k]) :
    Calls Try.prog 59 #[.pointer (some ⟨b1, 0, none⟩), .pointer (some ⟨b2, 0, none⟩)] w fun e w' => e = .returned (.int .i64 (isDirE T k)) ∧ Below w.heap.size w w' := by
  have c1 := h1.cell 0 _ rfl
  have c2 := h2.cell 0 _ rfl
  have hmf := makes
  have HH := Lib.hid h
  have H1 := Lib.hid h1
  have H2 := Lib.hid h2
  obtain ⟨r, hr⟩ : ∃ r : Int, r = isDirE T k := ⟨_, rfl⟩
  rw [← hr]
  have HR := Lib.hid hr
  clear h h1 h2 hr
  go_enter Try.func59, Try.ntmps59
  go_wp2_with fail
  refine (has_mk tb k w).mono ?_
  rintro e w1 ⟨rfl, a1, a2, b⟩
  have A1 := Lib.hid a1
  have A2 := Lib.hid a2
  have HB := Lib.hid b
  clear a1 a2 b
  obtain ⟨x1, hx1⟩ : ∃ x1 : Need, x1 = ⟨67, #[], #[.pointer (some ⟨w.heap.size, 0, none⟩), .pointer (some ⟨w.heap.size + 1, 0, none⟩)], if (T.f k).isSome = true then 0 else 5⟩ := ⟨_, rfl⟩
  obtain ⟨x2, hx2⟩ : ∃ x2 : Need, x2 = ⟨60, #[], #[.pointer (some ⟨b1, 0, none⟩), .pointer (some ⟨b2, 0, none⟩)], if isDirT T k = true then 0 else 8⟩ := ⟨_, rfl⟩
  have X1 := Lib.hid hx1
  have X2 := Lib.hid hx2
  clear hx1 hx2
  go_wp2_with (refine list_val (op := { dst := some 9, op := _, type := _, pos := _, after := _, guard := _ }) rfl (v := .slice (some ⟨w1.heap.size, 0, none⟩) 2 2) (w' := w1.alloc (.cells #[x1.v, x2.v] 73)) (by rw [X1.out, X2.out]; kernel_rfl) ?_)
  have ba := (Below.refl _ w1).alloc (Nat.le_refl _) (.cells #[x1.v, x2.v] 73)
  have hA := At.new w1 #[x1.v, x2.v] 73
  have hall := HB.out.trans (ba.mono HB.out.size)
  have HALL := Lib.hid hall
  have BA := Lib.hid ba
  obtain ⟨B, hBB⟩ : ∃ B, B = w1.heap.size := ⟨_, rfl⟩
  rw [← hBB] at hA ⊢
  generalize w1.alloc (.cells #[x1.v, x2.v] 73) = w2 at *
  clear hall ba hBB
  refine (first_any B 2 [x1, x2] (by show 2 ≤ 1000; omega) w2 hA (fun j x hj hz => ?_)).mono ?_
  · match j, hj with
    | 0, hj =>
      cases hj
      rw [X1.out]
      exact ⟨enter_has1, fun w' b' => has1_any base w' tb T p (HH.out.below (HALL.out.trans (b'.mono HALL.out.size))) k hk _ _ ((A1.out.below BA.out A1.out.lt).below b' (by have := A1.out.lt; have := BA.out.size; omega)) ((A2.out.below BA.out A2.out.lt).below b' (by have := A2.out.lt; have := BA.out.size; omega))⟩
    | 1, hj =>
      cases hj
      rw [X2.out]
      have hb := fun (w' : World) (b' : Below w2.heap.size w2 w') => HALL.out.trans (b'.mono HALL.out.size)
      exact ⟨enter_isDir11, fun w' b' => isDir11_any base w' tb T p (HH.out.below (hb w' b')) k hk b1 b2 (H1.out.below (hb w' b') H1.out.lt) (H2.out.below (hb w' b') H2.out.lt)⟩
  · rintro e w3 ⟨rfl, b3⟩
    have HB3 := Lib.hid (HALL.out.trans (b3.mono HALL.out.size))
    have hf : firstR [x1, x2] = r := by
      rw [X1.out, X2.out, HR.out]
      unfold firstR firstR firstR isDirE
      cases (T.f k).isSome <;> cases isDirT T k <;> rfl
    rw [hf]
    clear b3 hf
    go_wp2_with fail
    go_ret
    exact ⟨rfl, HB3.out⟩
end Go.Proofs.Ytgifdmfnecombaa
