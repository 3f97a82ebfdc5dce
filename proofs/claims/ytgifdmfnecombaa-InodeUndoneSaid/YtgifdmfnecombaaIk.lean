/- A place. (Names of ASCII's bytes: what the library's contract of ContainsAny serves.) -/
import Derived.Test.YtgifdmfnecombaaIj
import Derived.Test.YtgifdmfnecombaaSh
namespace Go.Proofs.Ytgifdmfnecombaa
open Go.RowKit
set_option maxRecDepth 100000
def Asc (s : List UInt8) : Prop := ∀ (j : Nat) (b : UInt8), s[j]? = some b → b.toNat < 128
def nmOk (s : List UInt8) : Bool := !(s == []) && (!(s == [46]) && (!(s == [46, 46]) && !Lib.containsAny s [47, 0]))
theorem contAny_any (s : List UInt8) (hs : s.length ≤ 1000000) (ha : Asc s) (w : World) :
    Calls Try.prog 71 #[.string (bs s), .string ⟨#[47, 0]⟩] w fun e w' => e = .returned (.bool (Lib.containsAny s [47, 0])) ∧ Below w.heap.size w w' := by
  have hd : (bs s).data.toList = s := by simp [bs]
  have h := Try.strings_ContainsAny_laid (bs s) ⟨#[47, 0]⟩ w (by rw [bs_size]; omega) (by decide) (by rw [hd]; exact ha) (fun j b hj => by
    match j, hj with
    | 0, hj => cases hj; decide
    | 1, hj => cases hj; decide)
  rw [hd] at h
  exact h
theorem nameMayBe_any (s : List UInt8) (hs : s.length ≤ 1000000) (ha : Asc s) (w : World) :
    Calls Try.prog 53 #[.string (bs s)] w fun e w' => e = .returned (.bool (nmOk s)) ∧ Below w.heap.size w w' := by
  have HA := Lib.hid ha
  obtain ⟨R, hR⟩ : ∃ R, R = nmOk s := ⟨_, rfl⟩
  rw [← hR]
  unfold nmOk at hR
  have HR := Lib.hid hR
  clear hR ha
  go_enter Try.func53, Try.ntmps53
  by_cases h0 : s = []
  · subst h0
    go_wp2_with fail
    go_ret
    exact ⟨by rw [HR.out]; rfl, Below.refl _ _⟩
  by_cases h1 : s = [46]
  · subst h1
    go_wp2_with fail
    go_ret
    exact ⟨by rw [HR.out]; rfl, Below.refl _ _⟩
  by_cases h2 : s = [46, 46]
  · subst h2
    go_wp2_with fail
    go_ret
    exact ⟨by rw [HR.out]; rfl, Below.refl _ _⟩
  have e0 : (s == []) = false := by simpa using h0
  have e1 : (s == [46]) = false := by simpa using h1
  have e2 : (s == [46, 46]) = false := by simpa using h2
  have e0' : s.isEmpty = false := by simpa using h0
  have HR2 := Lib.hid (show R = !Lib.containsAny s [47, 0] by rw [HR.out, e0, e1, e2]; rfl)
  go_wp2_with fail
  refine (contAny_any s hs HA.out w).mono ?_
  rintro e w1 ⟨rfl, b⟩
  have HB := Lib.hid b
  obtain ⟨q, hq⟩ : ∃ q, q = Lib.containsAny s [47, 0] := ⟨_, rfl⟩
  rw [← hq]
  have HQ := Lib.hid hq
  clear b hq
  go_wp2_with fail
  go_ret
  exact ⟨by rw [HR2.out, ← HQ.out]; rfl, HB.out⟩
theorem place12_any (w : World) (s : List UInt8) (hs : s.length ≤ 1000000) (ha : Asc s) (b1 : Nat) (h1 : At w b1 9 [.string (bs s)]) :
    Calls Try.prog 52 #[.pointer (some ⟨b1, 0, none⟩)] w fun e w' => e = .returned (.int .i64 (if nmOk s = true then 0 else 2)) ∧ Below w.heap.size w w' := by
  have c1 := h1.cell 0 _ rfl
  have HA := Lib.hid ha
  obtain ⟨r, hr⟩ : ∃ r : Int, r = if nmOk s = true then 0 else 2 := ⟨_, rfl⟩
  rw [← hr]
  have HR := Lib.hid hr
  clear h1 hr ha
  go_enter Try.func52, Try.ntmps52
  go_wp2_with fail
  refine (nameMayBe_any s hs HA.out w).mono ?_
  rintro e w1 ⟨rfl, b⟩
  have HB := Lib.hid b
  clear b
  go_wp2_with fail
  refine (unless_any (nmOk s) 2 w1).mono ?_
  rintro e w2 ⟨rfl, rfl⟩
  rw [← HR.out]
  go_wp2_with fail
  go_ret
  exact ⟨rfl, HB.out⟩
def placeE (T : Tab) (k : Int) (s : List UInt8) : Int := if isDirE T k = 0 then (if s.length ≤ 56 then (if nmOk s = true then 0 else 2) else 3) else isDirE T k
theorem enter_isDir1 : ∀ (args : Array Value) (w : World), (callFunc 59 args).run Try.prog w = .ok (.enter 59 args) w := enters_of Try.func59 (by kernel_rfl) rfl
theorem enter_place11 : ∀ (args : Array Value) (w : World), (callFunc 51 args).run Try.prog w = .ok (.enter 51 args) w := enters_of Try.func51 (by kernel_rfl) rfl
theorem enter_place12 : ∀ (args : Array Value) (w : World), (callFunc 52 args).run Try.prog w = .ok (.enter 52 args) w := enters_of Try.func52 (by kernel_rfl) rfl
theorem place1_any (base : Nat) (w : World) (tb : Nat) (T : Tab) (p : Place) (h : TabAt base w tb T p) (k : Int) (hk : (Lit.int .i64 k).wf = true) (s : List UInt8) (hs : s.length ≤ 1000000) (ha : Asc s) (b0 b1 b2 : Nat) (h0 : At w b0 9 [.string (bs s)]) (h1 : At w b1 26 [tabV tb]) (h2 : At w b2 3 [.int .i64 k]) :
    Calls Try.prog 50 #[.pointer (some ⟨b0, 0, none⟩), .pointer (some ⟨b1, 0, none⟩), .pointer (some ⟨b2, 0, none⟩)] w fun e w' => e = .returned (.int .i64 (placeE T k s)) ∧ Below w.heap.size w w' := by
  have c1 := h1.cell 0 _ rfl
  have c2 := h2.cell 0 _ rfl
  have hmf := makes
  have HH := Lib.hid h
  have H0 := Lib.hid h0
  have HA := Lib.hid ha
  obtain ⟨r, hr⟩ : ∃ r : Int, r = placeE T k s := ⟨_, rfl⟩
  rw [← hr]
  have HR := Lib.hid hr
  clear h h0 h1 h2 hr ha
  go_enter Try.func50, Try.ntmps50
  go_wp2_with fail
  refine (isDir_mk tb k w).mono ?_
  rintro e w1 ⟨rfl, a1, a2, b⟩
  have A1 := Lib.hid a1
  have A2 := Lib.hid a2
  have HB := Lib.hid b
  clear a1 a2 b
  obtain ⟨x1, hx1⟩ : ∃ x1 : Need, x1 = ⟨59, #[], #[.pointer (some ⟨w.heap.size, 0, none⟩), .pointer (some ⟨w.heap.size + 1, 0, none⟩)], isDirE T k⟩ := ⟨_, rfl⟩
  obtain ⟨x2, hx2⟩ : ∃ x2 : Need, x2 = ⟨51, #[], #[.pointer (some ⟨b0, 0, none⟩)], if s.length ≤ 56 then 0 else 3⟩ := ⟨_, rfl⟩
  obtain ⟨x3, hx3⟩ : ∃ x3 : Need, x3 = ⟨52, #[], #[.pointer (some ⟨b0, 0, none⟩)], if nmOk s = true then 0 else 2⟩ := ⟨_, rfl⟩
  have X1 := Lib.hid hx1
  have X2 := Lib.hid hx2
  have X3 := Lib.hid hx3
  clear hx1 hx2 hx3
  go_wp2_with (refine list_val (op := { dst := some 13, op := _, type := _, pos := _, after := _, guard := _ }) rfl (v := .slice (some ⟨w1.heap.size, 0, none⟩) 3 3) (w' := w1.alloc (.cells #[x1.v, x2.v, x3.v] 73)) (by rw [X1.out, X2.out, X3.out]; kernel_rfl) ?_)
  have ba := (Below.refl _ w1).alloc (Nat.le_refl _) (.cells #[x1.v, x2.v, x3.v] 73)
  have hA := At.new w1 #[x1.v, x2.v, x3.v] 73
  have hall := HB.out.trans (ba.mono HB.out.size)
  have HALL := Lib.hid hall
  have BA := Lib.hid ba
  obtain ⟨B, hBB⟩ : ∃ B, B = w1.heap.size := ⟨_, rfl⟩
  rw [← hBB] at hA ⊢
  generalize w1.alloc (.cells #[x1.v, x2.v, x3.v] 73) = w2 at *
  clear hall ba hBB
  refine (first_any B 3 [x1, x2, x3] (by show 3 ≤ 1000; omega) w2 hA (fun j x hj hz => ?_)).mono ?_
  · have hb := fun (w' : World) (b' : Below w2.heap.size w2 w') => HALL.out.trans (b'.mono HALL.out.size)
    match j, hj with
    | 0, hj =>
      cases hj
      rw [X1.out]
      exact ⟨enter_isDir1, fun w' b' => isDir1_any base w' tb T p (HH.out.below (hb w' b')) k hk _ _ ((A1.out.below BA.out A1.out.lt).below b' (by have := A1.out.lt; have := BA.out.size; omega)) ((A2.out.below BA.out A2.out.lt).below b' (by have := A2.out.lt; have := BA.out.size; omega))⟩
    | 1, hj =>
      cases hj
      rw [X2.out]
      exact ⟨enter_place11, fun w' b' => place11_any w' s b0 (H0.out.below (hb w' b') H0.out.lt)⟩
    | 2, hj =>
      cases hj
      rw [X3.out]
      exact ⟨enter_place12, fun w' b' => place12_any w' s hs HA.out b0 (H0.out.below (hb w' b') H0.out.lt)⟩
  · rintro e w3 ⟨rfl, b3⟩
    have HB3 := Lib.hid (HALL.out.trans (b3.mono HALL.out.size))
    have hf : firstR [x1, x2, x3] = r := by
      rw [X1.out, X2.out, X3.out, HR.out]
      unfold firstR firstR firstR firstR placeE
      by_cases q1 : isDirE T k = 0 <;> by_cases q2 : s.length ≤ 56 <;> cases nmOk s <;> simp [q1, q2]
    rw [hf]
    clear b3 hf
    go_wp2_with fail
    go_ret
    exact ⟨rfl, HB3.out⟩
end Go.Proofs.Ytgifdmfnecombaa
