/- Entries that are there, or not; modes; lengths. -/
import Derived.Test.YtgifdmfnecombaaIi
namespace Go.Proofs.Ytgifdmfnecombaa
open Go.RowKit
set_option maxRecDepth 100000
theorem isFree1_any (base : Nat) (w : World) (tb : Nat) (T : Tab) (p : Place) (h : TabAt base w tb T p) (k : Int) (hk : (Lit.int .i64 k).wf = true) (s : List UInt8) (hs : s.length ≤ maxLen) (b1 b2 b3 : Nat) (h1 : At w b1 26 [tabV tb]) (h2 : At w b2 3 [.int .i64 k]) (h3 : At w b3 9 [.string (bs s)]) :
    Calls Try.prog 57 #[.pointer (some ⟨b1, 0, none⟩), .pointer (some ⟨b2, 0, none⟩), .pointer (some ⟨b3, 0, none⟩)] w fun e w' => e = .returned (.int .i64 (if (!(findT T k s).isSome) = true then 0 else 6)) ∧ Below w.heap.size w w' := by
  have c1 := h1.cell 0 _ rfl
  have c2 := h2.cell 0 _ rfl
  have c3 := h3.cell 0 _ rfl
  have HH := Lib.hid h
  obtain ⟨r, hr⟩ : ∃ r : Int, r = if (!(findT T k s).isSome) = true then 0 else 6 := ⟨_, rfl⟩
  rw [← hr]
  have HR := Lib.hid hr
  clear h h1 h2 h3 hr
  go_enter Try.func57, Try.ntmps57
  go_wp2_with fail
  refine (find_any base w tb T p HH.out k hk s hs).mono ?_
  rintro e w1 ⟨rfl, b⟩
  have HB := Lib.hid b
  obtain ⟨q, hq⟩ : ∃ q, q = (findT T k s).isSome := ⟨_, rfl⟩
  obtain ⟨v, hv⟩ : ∃ v, v = (findT T k s).getD 0 := ⟨_, rfl⟩
  rw [← hq, ← hv]
  have HQ := Lib.hid hq
  clear b hq hv
  go_wp2_with fail
  refine (unless_any (!q) 6 w1).mono ?_
  rintro e w2 ⟨rfl, rfl⟩
  rw [HQ.out, ← HR.out]
  go_wp2_with fail
  go_ret
  exact ⟨rfl, HB.out⟩
theorem hasEntry1_any (base : Nat) (w : World) (tb : Nat) (T : Tab) (p : Place) (h : TabAt base w tb T p) (k : Int) (hk : (Lit.int .i64 k).wf = true) (s : List UInt8) (hs : s.length ≤ maxLen) (b1 b2 b3 : Nat) (h1 : At w b1 26 [tabV tb]) (h2 : At w b2 3 [.int .i64 k]) (h3 : At w b3 9 [.string (bs s)]) :
    Calls Try.prog 61 #[.pointer (some ⟨b1, 0, none⟩), .pointer (some ⟨b2, 0, none⟩), .pointer (some ⟨b3, 0, none⟩)] w fun e w' => e = .returned (.int .i64 (if ((findT T k s).isSome) = true then 0 else 5)) ∧ Below w.heap.size w w' := by
  have c1 := h1.cell 0 _ rfl
  have c2 := h2.cell 0 _ rfl
  have c3 := h3.cell 0 _ rfl
  have HH := Lib.hid h
  obtain ⟨r, hr⟩ : ∃ r : Int, r = if ((findT T k s).isSome) = true then 0 else 5 := ⟨_, rfl⟩
  rw [← hr]
  have HR := Lib.hid hr
  clear h h1 h2 h3 hr
  go_enter Try.func61, Try.ntmps61
  go_wp2_with fail
  refine (find_any base w tb T p HH.out k hk s hs).mono ?_
  rintro e w1 ⟨rfl, b⟩
  have HB := Lib.hid b
  obtain ⟨q, hq⟩ : ∃ q, q = (findT T k s).isSome := ⟨_, rfl⟩
  obtain ⟨v, hv⟩ : ∃ v, v = (findT T k s).getD 0 := ⟨_, rfl⟩
  rw [← hq, ← hv]
  have HQ := Lib.hid hq
  clear b hq hv
  go_wp2_with fail
  refine (unless_any (q) 5 w1).mono ?_
  rintro e w2 ⟨rfl, rfl⟩
  rw [HQ.out, ← HR.out]
  go_wp2_with fail
  go_ret
  exact ⟨rfl, HB.out⟩
def modeE (m : Int) : Int := if 0 ≤ m ∧ m ≤ 511 then 0 else 2
theorem isMode1_any (w : World) (m : Int) (b1 : Nat) (h1 : At w b1 3 [.int .i64 m]) :
    Calls Try.prog 66 #[.pointer (some ⟨b1, 0, none⟩)] w fun e w' => e = .returned (.int .i64 (modeE m)) ∧ Below w.heap.size w w' := by
  have c1 := h1.cell 0 _ rfl
  obtain ⟨r, hr⟩ : ∃ r : Int, r = modeE m := ⟨_, rfl⟩
  rw [← hr]
  have HR := Lib.hid hr
  clear h1 hr
  go_enter Try.func66, Try.ntmps66
  by_cases h0 : 0 ≤ m
  · by_cases h5 : m ≤ 511
    · go_wp2_with fail
      refine (unless_any true 2 w).mono ?_
      rintro e w2 ⟨rfl, rfl⟩
      go_wp2_with fail
      go_ret
      exact ⟨by rw [HR.out, modeE, if_pos ⟨h0, h5⟩]; rfl, Below.refl _ _⟩
    · go_wp2_with fail
      refine (unless_any false 2 w).mono ?_
      rintro e w2 ⟨rfl, rfl⟩
      go_wp2_with fail
      go_ret
      exact ⟨by rw [HR.out, modeE, if_neg (by omega)]; rfl, Below.refl _ _⟩
  · go_wp2_with fail
    refine (unless_any false 2 w).mono ?_
    rintro e w2 ⟨rfl, rfl⟩
    go_wp2_with fail
    go_ret
    exact ⟨by rw [HR.out, modeE, if_neg (by omega)]; rfl, Below.refl _ _⟩
theorem place11_any (w : World) (s : List UInt8) (b1 : Nat) (h1 : At w b1 9 [.string (bs s)]) :
    Calls Try.prog 51 #[.pointer (some ⟨b1, 0, none⟩)] w fun e w' => e = .returned (.int .i64 (if s.length ≤ 56 then 0 else 3)) ∧ Below w.heap.size w w' := by
  have c1 := h1.cell 0 _ rfl
  obtain ⟨r, hr⟩ : ∃ r : Int, r = if s.length ≤ 56 then 0 else 3 := ⟨_, rfl⟩
  rw [← hr]
  have HR := Lib.hid hr
  clear h1 hr
  go_enter Try.func51, Try.ntmps51
  by_cases h5 : s.length ≤ 56
  · have h5' : (s.length : Int) ≤ 56 := by omega
    go_wp2_with fail
    refine (unless_any true 3 w).mono ?_
    rintro e w2 ⟨rfl, rfl⟩
    go_wp2_with fail
    go_ret
    exact ⟨by rw [HR.out, if_pos h5]; rfl, Below.refl _ _⟩
  · have h5' : ¬ (s.length : Int) ≤ 56 := by omega
    go_wp2_with fail
    refine (unless_any false 3 w).mono ?_
    rintro e w2 ⟨rfl, rfl⟩
    go_wp2_with fail
    go_ret
    exact ⟨by rw [HR.out, if_neg h5]; rfl, Below.refl _ _⟩
end Go.Proofs.Ytgifdmfnecombaa
