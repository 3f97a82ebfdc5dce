/- What an inode may be. -/
import Derived.Test.YtgifdmfnecombaaIk
namespace Go.Proofs.Ytgifdmfnecombaa
open Go.RowKit
set_option maxRecDepth 100000
def has0 (s : List UInt8) : Bool := decide (0 ≤ Lib.indexByte s 0)
def dataOk (k : Int) (s : List UInt8) : Bool := if k = 1 then true else if k = 2 then s == [] else if k = 3 then (!(s == []) && (decide (s.length ≤ 255) && !has0 s)) else false
theorem cont0_any (s : List UInt8) (w : World) : Calls Try.prog 72 #[.string (bs s), .string ⟨#[0]⟩] w fun e w' => e = .returned (.bool (has0 s)) ∧ w' = w := by
  have hd : (bs s).data.toList = s := by simp [bs]
  have h := Try.strings_Contains_one (bs s) 0 w
  rw [hd] at h
  exact h
theorem dataMayBe_any (k : Int) (s : List UInt8) (w : World) :
    Calls Try.prog 56 #[.int .i64 k, .string (bs s)] w fun e w' => e = .returned (.bool (dataOk k s)) ∧ w' = w := by
  obtain ⟨R, hR⟩ : ∃ R, R = dataOk k s := ⟨_, rfl⟩
  rw [← hR]
  unfold dataOk at hR
  have HR := Lib.hid hR
  clear hR
  go_enter Try.func56, Try.ntmps56
  by_cases h1 : k = 1
  · subst h1
    go_wp2_with fail
    go_ret
    exact ⟨by rw [HR.out]; rfl, rfl⟩
  have e1 : (k == 1) = false := by simpa using h1
  by_cases h2 : k = 2
  · subst h2
    have HR2 := Lib.hid (show R = (s == []) by rw [HR.out]; rfl)
    by_cases h0 : s = []
    · subst h0
      go_wp2_with fail
      go_ret
      exact ⟨by rw [HR2.out]; rfl, rfl⟩
    · have e0 : (s == []) = false := by simpa using h0
      have e0' : s.isEmpty = false := by simpa using h0
      go_wp2_with fail
      go_ret
      exact ⟨by rw [HR2.out, e0]; rfl, rfl⟩
  have e2 : (k == 2) = false := by simpa using h2
  by_cases h3 : k = 3
  · subst h3
    have HR2 := Lib.hid (show R = (!(s == []) && (decide (s.length ≤ 255) && !has0 s)) by rw [HR.out]; rfl)
    by_cases h0 : s = []
    · subst h0
      go_wp2_with fail
      go_ret
      exact ⟨by rw [HR2.out]; rfl, rfl⟩
    have e0 : (s == []) = false := by simpa using h0
    have e0' : s.isEmpty = false := by simpa using h0
    by_cases h5 : s.length ≤ 255
    · have h5' : (s.length : Int) ≤ 255 := by omega
      have HR3 := Lib.hid (show R = !has0 s by rw [HR2.out, e0, decide_eq_true h5]; rfl)
      go_wp2_with fail
      refine (cont0_any s w).mono ?_
      rintro e w1 ⟨rfl, rfl⟩
      obtain ⟨q, hq⟩ : ∃ q, q = has0 s := ⟨_, rfl⟩
      rw [← hq]
      have HQ := Lib.hid hq
      clear hq
      go_wp2_with fail
      go_ret
      exact ⟨by rw [HR3.out, ← HQ.out]; rfl, rfl⟩
    · have h5' : ¬ (s.length : Int) ≤ 255 := by omega
      have HR3 := Lib.hid (show R = false by rw [HR2.out, e0, decide_eq_false h5]; rfl)
      go_wp2_with fail
      go_ret
      exact ⟨by rw [HR3.out]; rfl, rfl⟩
  have e3 : (k == 3) = false := by simpa using h3
  have HR2 := Lib.hid (show R = false by rw [HR.out, if_neg h1, if_neg h2, if_neg h3])
  go_wp2_with fail
  go_ret
  exact ⟨by rw [HR2.out]; rfl, rfl⟩
theorem isInode11_any (w : World) (k : Int) (s : List UInt8) (b0 b1 : Nat) (h0 : At w b0 3 [.int .i64 k]) (h1 : At w b1 9 [.string (bs s)]) :
    Calls Try.prog 55 #[.pointer (some ⟨b0, 0, none⟩), .pointer (some ⟨b1, 0, none⟩)] w fun e w' => e = .returned (.int .i64 (if dataOk k s = true then 0 else 2)) ∧ Below w.heap.size w w' := by
  have c0 := h0.cell 0 _ rfl
  have c1 := h1.cell 0 _ rfl
  obtain ⟨r, hr⟩ : ∃ r : Int, r = if dataOk k s = true then 0 else 2 := ⟨_, rfl⟩
  rw [← hr]
  have HR := Lib.hid hr
  clear h0 h1 hr
  go_enter Try.func55, Try.ntmps55
  go_wp2_with fail
  refine (dataMayBe_any k s w).mono ?_
  rintro e w1 ⟨rfl, rfl⟩
  go_wp2_with fail
  refine (unless_any (dataOk k s) 2 w1).mono ?_
  rintro e w2 ⟨rfl, rfl⟩
  rw [← HR.out]
  go_wp2_with fail
  go_ret
  exact ⟨rfl, Below.refl _ _⟩
def inodeE (k m : Int) (s : List UInt8) : Int := if modeE m = 0 then (if dataOk k s = true then 0 else 2) else modeE m
theorem enter_isMode1 : ∀ (args : Array Value) (w : World), (callFunc 66 args).run Try.prog w = .ok (.enter 66 args) w := enters_of Try.func66 (by kernel_rfl) rfl
theorem enter_isInode11 : ∀ (args : Array Value) (w : World), (callFunc 55 args).run Try.prog w = .ok (.enter 55 args) w := enters_of Try.func55 (by kernel_rfl) rfl
theorem isInode1_any (w : World) (k m : Int) (s : List UInt8) (b0 b1 b2 : Nat) (h0 : At w b0 3 [.int .i64 k]) (h1 : At w b1 9 [.string (bs s)]) (h2 : At w b2 3 [.int .i64 m]) :
    Calls Try.prog 54 #[.pointer (some ⟨b0, 0, none⟩), .pointer (some ⟨b1, 0, none⟩), .pointer (some ⟨b2, 0, none⟩)] w fun e w' => e = .returned (.int .i64 (inodeE k m s)) ∧ Below w.heap.size w w' := by
  have c2 := h2.cell 0 _ rfl
  have hmf := makes
  have H0 := Lib.hid h0
  have H1 := Lib.hid h1
  obtain ⟨r, hr⟩ : ∃ r : Int, r = inodeE k m s := ⟨_, rfl⟩
  rw [← hr]
  have HR := Lib.hid hr
  clear h0 h1 h2 hr
  go_enter Try.func54, Try.ntmps54
  go_wp2_with fail
  refine (isMode_mk m w).mono ?_
  rintro e w1 ⟨rfl, a1, b⟩
  have A1 := Lib.hid a1
  have HB := Lib.hid b
  clear a1 b
  obtain ⟨x1, hx1⟩ : ∃ x1 : Need, x1 = ⟨66, #[], #[.pointer (some ⟨w.heap.size, 0, none⟩)], modeE m⟩ := ⟨_, rfl⟩
  obtain ⟨x2, hx2⟩ : ∃ x2 : Need, x2 = ⟨55, #[], #[.pointer (some ⟨b0, 0, none⟩), .pointer (some ⟨b1, 0, none⟩)], if dataOk k s = true then 0 else 2⟩ := ⟨_, rfl⟩
  have X1 := Lib.hid hx1
  have X2 := Lib.hid hx2
  clear hx1 hx2
  go_wp2_with (refine list_val (op := { dst := some 9, op := _, type := _, pos := _, after := _, guard := _ }) rfl (v := .slice (some ⟨w1.heap.size, 0, none⟩) 2 2) (w' := w1.alloc (.cells #[x1.v, x2.v] 73)) (by rw [X1.out, X2.out]; kernel_rfl) ?_)
  have ba := (Below.refl _ w1).alloc (Nat.le_refl _) (.cells #[x1.v, x2.v] 73)
  have hA := At.new w1 #[x1.v, x2.v] 73
  have hall := HB.out.trans (ba.mono HB.out.size)
  have HALL := Lib.hid hall
  have BA := Lib.hid ba
  obtain ⟨B, hBB⟩ : ∃ B, B = w1.heap.size := ⟨_, rfl⟩
  rw [← hBB] at hA ⊢
  generalize w1.alloc (.cells #[x1.v, x2.v] 73) = w2 at *
  clear hall ba hBB
  refine (first_any B 2 [x1, x2] (by show 2 ≤ 1000; omega) w2 hA (fun j x hj hz => ?_)).mono ?_
  · have hb := fun (w' : World) (b' : Below w2.heap.size w2 w') => HALL.out.trans (b'.mono HALL.out.size)
    match j, hj with
    | 0, hj =>
      cases hj
      rw [X1.out]
      exact ⟨enter_isMode1, fun w' b' => isMode1_any w' m _ ((A1.out.below BA.out A1.out.lt).below b' (by have := A1.out.lt; have := BA.out.size; omega))⟩
    | 1, hj =>
      cases hj
      rw [X2.out]
      exact ⟨enter_isInode11, fun w' b' => isInode11_any w' k s b0 b1 (H0.out.below (hb w' b') H0.out.lt) (H1.out.below (hb w' b') H1.out.lt)⟩
  · rintro e w3 ⟨rfl, b3⟩
    have HB3 := Lib.hid (HALL.out.trans (b3.mono HALL.out.size))
    have hf : firstR [x1, x2] = r := by
      rw [X1.out, X2.out, HR.out]
      unfold firstR firstR firstR inodeE
      by_cases q1 : modeE m = 0 <;> cases dataOk k s <;> simp [q1]
    rw [hf]
    clear b3 hf
    go_wp2_with fail
    go_ret
    exact ⟨rfl, HB3.out⟩
end Go.Proofs.Ytgifdmfnecombaa
