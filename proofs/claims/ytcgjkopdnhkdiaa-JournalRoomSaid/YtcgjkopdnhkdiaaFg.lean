/- The document's disk: the walk of Flush, where the power holds. -/
import Derived.Test.YtcgjkopdnhkdiaaFf
import Derived.Test.YtcgjkopdnhkdiaaDg
namespace Go.Proofs.Ytcgjkopdnhkdiaa
open Go.RowKit
set_option maxRecDepth 100000
section
variable {w : World} {D : Nat} {fo ao : Option Addr} {fc cap n : Nat} {s : Dk}
theorem Dk.upto_all (s : Dk) : s.upto s.ws.length = { s with fl := s.nw } := by unfold Dk.upto Dk.nw; rw [List.take_length]
theorem refFlush_ok (h : RefAt w D fo fc ao cap n s) (ho : s.ops < 9223372036854775807) (hoff : s.tick.off = false) (hwl : s.ws.length ≤ 1000000) :
    Calls Try.prog 14 #[.pointer (some ⟨D, 0, none⟩)] w fun e w' => e = .returned (.int .i64 0) ∧ RefAt w' D fo fc none 0 n s.tick.flush ∧ Touch (D :: blk fo) w w' := by
  have hws : s.tick.ws = s.ws := by unfold Dk.tick; split <;> rfl
  have hwl1 : s.tick.ws.length ≤ 1000000 := by rw [hws]; exact hwl
  have c := refOp_any h ho
  rw [hoff] at c
  have C := Lib.hid c
  clear h hws c hoff
  generalize s.tick = s1 at *
  clear hwl ho
  go_enter Try.func14, Try.ntmps14
  go_wp2_with fail
  refine C.out.mono ?_
  rintro e w1 ⟨rfl, h1, t1⟩
  have ok := h1.ok
  have OK := Lib.hid ok
  have h2 : RefAt w1 D fo fc ao cap n (s1.upto 0) := by have e : s1.upto 0 = s1 := rfl; rw [e]; exact h1
  have H2 := Lib.hid h2
  have T1 := Lib.hid (t1.mono (ft2 := D :: blk fo) (by simp))
  clear h1 t1 h2 ok C
  go_wp2_with fail
  go_loopw [3] (fun y wx => ∃ i : Nat, i ≤ s1.ws.length ∧ y = .int .i64 i ∧ RefAt wx D fo fc ao cap n (s1.upto i) ∧ Touch (D :: blk fo) w wx) (fun y _ => s1.ws.length - (intOf y).toNat)
  case atStart => exact ⟨0, by omega, rfl, H2.out, T1.out⟩
  clear H2 T1
  case round =>
    obtain ⟨i, hi, rfl, hr, ht⟩ := hrel
    have HR := Lib.hid hr
    have HT := Lib.hid ht
    clear hr ht
    have d1 := HR.out.drew.d.cell 1 _ rfl
    have d0 := HR.out.drew.d.cell 0 _ rfl
    have d1' := HR.out.d.cell 1 _ rfl
    have hwe : (s1.upto i).ws = s1.ws := rfl
    have hfe : (s1.upto i).fl.length = n := HR.out.ok.fl
    rw [hwe] at d1 d1'
    rw [hfe] at d0
    by_cases hlt : i < s1.ws.length
    · obtain ⟨x, hx⟩ : ∃ x, s1.ws[i]? = some x := ⟨_, List.getElem?_eq_getElem hlt⟩
      have hxn := (OK.out.ws x (List.mem_of_getElem? hx)).1
      have hxn2 : (x.1 : Int) < n := by omega
      obtain ⟨x1, x2⟩ := rcells_at s1.ws i x hx
      obtain ⟨g2, cur2, hao, hA2, _, _⟩ := HR.out.drew.w.there (by rw [hwe]; omega)
      rw [hwe] at hA2
      obtain ⟨g, hfo, fg, ⟨v, cg⟩, hr2⟩ := HR.out.drew.text OK.out hx
      have hT2 := HT.out.drew.setCell ⟨g, x.1, none⟩ (tv x.2) (.inl (by rw [hfo]; simp [blk]))
      have HR2 := Lib.hid hr2
      have HT2 := Lib.hid hT2
      rw [hao] at d1 d1'
      rw [hfo] at d0
      have e1 := hA2.cell (i * 2) (.int .i64 (x.1 : Int)) (by rw [List.getElem?_append_left (List.getElem?_eq_some_iff.1 x1).1]; exact x1)
      have e2 := hA2.cell (i * 2 + 1) (tv x.2) (by rw [List.getElem?_append_left (List.getElem?_eq_some_iff.1 x2).1]; exact x2)
      unfold tv at e2 HR2 HT2
      have hlt' : (i : Int) < s1.ws.length := by omega
      clear hx x1 x2 hA2 hao hr2 hT2 hwe hfe hfo HR HT
      go_wp2_with fail
      go_still_tail 21, (by kernel_rfl)
      change wpList _ _ _ _ _ wr.drew
      go_wp2
      go_roundw
      case rel => exact ⟨i + 1, by omega, by go_num, HR2.out, HT2.out⟩
      case measure => simp [intOf]; omega
    · obtain rfl : i = s1.ws.length := by omega
      rw [Dk.upto_all] at HR
      have ok := OK.out
      have okf : (s1.flush).Ok n := ⟨ok.n1, ok.n2, ok.nw, ok.n128, fun x hx => by simp [Dk.flush] at hx, ok.f1, ok.f2⟩
      have hT : Touch [D] wr (wr.setCell ⟨D, 1, none⟩ (.slice none 0 0)) := (Touch.refl _ _).setCell _ _ (.inl (by simp))
      have hend : RefAt (wr.setCell ⟨D, 1, none⟩ (.slice none 0 0)) D fo fc none 0 n s1.flush := by
        refine ⟨HR.out.d.setCell 1 _, HR.out.f.touch hT (fun i hi => by simp; rintro rfl; exact HR.out.df hi), Own.nil _ _ _, okf⟩
      have f1 := HR.out.d.frozen 1
      have HE := Lib.hid hend
      have HT2 := Lib.hid (HT.out.setCell ⟨D, 1, none⟩ (.slice none 0 0) (.inl (by simp)))
      clear hT hend ok okf HT HR hwe hfe d0
      go_wp2
      go_ret
      exact ⟨rfl, HE.out, HT2.out⟩
end
end Go.Proofs.Ytcgjkopdnhkdiaa
