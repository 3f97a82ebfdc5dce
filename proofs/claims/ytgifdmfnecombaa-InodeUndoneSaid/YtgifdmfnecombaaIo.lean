/- isNotInUse: its closure. -/
import Derived.Test.YtgifdmfnecombaaIn
namespace Go.Proofs.Ytgifdmfnecombaa
open Go.RowKit
set_option maxRecDepth 100000
def usedE (i : Ino) : Int := if i.kind = 2 ∧ i.cnt ≠ 0 then 20 else 0
theorem isNotInUse1_any (base : Nat) (w : World) (tb : Nat) (T : Tab) (p : Place) (h : TabAt base w tb T p) (k : Int) (hk : (Lit.int .i64 k).wf = true) (s : List UInt8) (hs : s.length ≤ maxLen) (j : Int) (hj : findT T k s = some j) (hjw : (Lit.int .i64 j).wf = true) (i : Ino) (hi : T.f j = some i) (b1 b2 b3 : Nat) (h1 : At w b1 26 [tabV tb]) (h2 : At w b2 3 [.int .i64 k]) (h3 : At w b3 9 [.string (bs s)]) :
    Calls Try.prog 63 #[.pointer (some ⟨b1, 0, none⟩), .pointer (some ⟨b2, 0, none⟩), .pointer (some ⟨b3, 0, none⟩)] w fun e w' => e = .returned (.int .i64 (usedE i)) ∧ Below w.heap.size w w' := by
  have c1 := h1.cell 0 _ rfl
  have c2 := h2.cell 0 _ rfl
  have c3 := h3.cell 0 _ rfl
  have HH := Lib.hid h
  have H1 := Lib.hid h1
  have HJ := Lib.hid hj
  have HI := Lib.hid hi
  obtain ⟨r, hr⟩ : ∃ r : Int, r = usedE i := ⟨_, rfl⟩
  rw [← hr]
  unfold usedE at hr
  have HR := Lib.hid hr
  clear h h1 h2 h3 hr hj hi
  go_enter Try.func63, Try.ntmps63
  go_wp2_with fail
  refine (find_any base w tb T p HH.out k hk s hs).mono ?_
  rintro e w1 ⟨rfl, b⟩
  rw [HJ.out]
  have T1 := Lib.hid (HH.out.below b)
  have d1 := (H1.out.below b H1.out.lt).cell 0 _ rfl
  have c0 := T1.out.t.cell 0 _ rfl
  have hsm := T1.out.s j
  rw [HI.out] at hsm
  obtain ⟨c, hg⟩ : ∃ c, p.g j = some c := Option.isSome_iff_exists.mp hsm
  have hl := T1.out.i.get j hjw
  rw [hg] at hl
  have hIA := T1.out.o j c i hg HI.out
  have c5 := hIA.a.cell 5 _ rfl
  have HB := Lib.hid b
  unfold tabV at d1
  simp only [ptrV] at hl
  clear b hsm hg c1 c2 c3
  by_cases h2 : i.kind = 2
  · rw [if_pos h2] at c5
    have hlen := fun ty => (hIA.m h2).len ty
    have HR2 := Lib.hid (show r = if i.cnt ≠ 0 then 20 else 0 by rw [HR.out]; simp [h2])
    clear hIA h2
    by_cases h0 : i.cnt = 0
    · rw [h0] at hlen
      have HR3 := Lib.hid (show r = 0 by rw [HR2.out]; simp [h0])
      clear h0
      simp only [Option.getD, Option.isSome]
      go_wp2_with fail
      refine (unless_any true 20 w1).mono ?_
      rintro e w2 ⟨rfl, rfl⟩
      go_wp2_with fail
      go_ret
      exact ⟨by rw [HR3.out]; rfl, HB.out⟩
    · have HR3 := Lib.hid (show r = 20 by rw [HR2.out]; simp [h0])
      have h0' : ((i.cnt : Int) == 0) = false := by simp; omega
      clear h0
      simp only [Option.getD, Option.isSome]
      go_wp2_with fail
      refine (unless_any false 20 w1).mono ?_
      rintro e w2 ⟨rfl, rfl⟩
      go_wp2_with fail
      go_ret
      exact ⟨by rw [HR3.out]; rfl, HB.out⟩
  · rw [if_neg h2] at c5
    have hlen : ∀ ty, (Builtin.len_ #[61] ty #[.map none]).run Try.prog w1 = .ok (.int .i64 0) w1 := fun ty => Maps.len_nil Try.underlying61 ty
    have HR3 := Lib.hid (show r = 0 by rw [HR.out]; simp [h2])
    clear hIA h2
    simp only [Option.getD, Option.isSome]
    go_wp2_with fail
    refine (unless_any true 20 w1).mono ?_
    rintro e w2 ⟨rfl, rfl⟩
    go_wp2_with fail
    go_ret
    exact ⟨by rw [HR3.out]; rfl, HB.out⟩
end Go.Proofs.Ytgifdmfnecombaa
