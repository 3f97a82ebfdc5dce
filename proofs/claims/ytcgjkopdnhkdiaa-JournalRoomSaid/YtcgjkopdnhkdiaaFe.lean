/- The document's disk: the walk of Read. -/
import Derived.Test.YtcgjkopdnhkdiaaFd
namespace Go.Proofs.Ytcgjkopdnhkdiaa
open Go.RowKit
set_option maxRecDepth 100000
section
variable {w : World} {D : Nat} {fo ao : Option Addr} {fc cap n : Nat} {s : Dk}
theorem refRead_bad (h : RefAt w D fo fc ao cap n s) (k : Int) (hk : k < 0 ∨ (n : Int) ≤ k) :
    Calls Try.prog 12 #[.pointer (some ⟨D, 0, none⟩), .int .i64 k] w fun e w' => e = .returned (.tuple #[.string (bs []), .int .i64 2]) ∧ RefAt w' D fo fc ao cap n s ∧ Touch [D] w w' := by
  have c0 := h.d.cell 0 _ rfl
  have hl := h.ok.fl
  rw [hl] at c0
  have H := Lib.hid h
  clear h
  by_cases h0 : k < 0
  · have k1 : decide (k < 0) = true := by simpa using h0
    go_enter Try.func12, Try.ntmps12
    go_wp2
    go_ret2
    exact ⟨rfl, H.out, Touch.refl _ _⟩
  · have k1 : decide (k < 0) = false := by simpa using h0
    have h1 : (n : Int) ≤ k := by omega
    have k2 : decide ((n : Int) ≤ k) = true := by simpa using h1
    go_enter Try.func12, Try.ntmps12
    go_wp2
    go_ret2
    exact ⟨rfl, H.out, Touch.refl _ _⟩
theorem refRead_off (h : RefAt w D fo fc ao cap n s) (k : Nat) (hk : k < n) (ho : s.ops < 9223372036854775807) (hoff : s.tick.off = true) :
    Calls Try.prog 12 #[.pointer (some ⟨D, 0, none⟩), .int .i64 (k : Int)] w fun e w' => e = .returned (.tuple #[.string (bs []), .int .i64 11]) ∧ RefAt w' D fo fc ao cap n s.tick ∧ Touch [D] w w' := by
  have c0 := h.d.cell 0 _ rfl
  have hl := h.ok.fl
  rw [hl] at c0
  have H := Lib.hid h
  have HO := Lib.hid hoff
  clear h hoff
  have k1 : decide ((k : Int) < 0) = false := by simp
  have k2 : decide ((n : Int) ≤ (k : Int)) = false := by simp; omega
  go_enter Try.func12, Try.ntmps12
  go_wp2_with fail
  refine (refOp_any H.out ho).mono ?_
  rintro e w1 ⟨rfl, h1, t1⟩
  rw [HO.out]
  go_wp2
  go_ret2
  exact ⟨rfl, h1, t1⟩
theorem refRead_ok (h : RefAt w D fo fc ao cap n s) (k : Nat) (hk : k < n) (ho : s.ops < 9223372036854775807) (hoff : s.tick.off = false) (hwl : s.ws.length ≤ 1000000) :
    Calls Try.prog 12 #[.pointer (some ⟨D, 0, none⟩), .int .i64 (k : Int)] w fun e w' => e = .returned (.tuple #[.string (bs (s.nw[k]?.getD [])), .int .i64 0]) ∧ RefAt w' D fo fc ao cap n s.tick ∧ Touch [D] w w' := by
  have c0 := h.d.cell 0 _ rfl
  have hl := h.ok.fl
  rw [hl] at c0
  have H := Lib.hid h
  have HO := Lib.hid hoff
  have HL := Lib.hid hl
  have hns : s.tick.nw = s.nw := by unfold Dk.tick; split <;> rfl
  have hfs : s.tick.fl = s.fl := by unfold Dk.tick; split <;> rfl
  have hws : s.tick.ws = s.ws := by unfold Dk.tick; split <;> rfl
  have hl1 : s.tick.fl.length = n := by rw [hfs]; exact hl
  have hwl1 : s.tick.ws.length ≤ 1000000 := by rw [hws]; exact hwl
  have c := refOp_any H.out ho
  rw [← hns]
  rw [hoff] at c
  have C := Lib.hid c
  clear h hl hns hfs hws c hoff HO HL H
  generalize s.tick = s1 at *
  clear hwl ho
  have HL1 := Lib.hid hl1
  have k1 : decide ((k : Int) < 0) = false := by simp
  have k2 : decide ((n : Int) ≤ (k : Int)) = false := by simp; omega
  have k3 : (k : Int) < n := by omega
  go_enter Try.func12, Try.ntmps12
  go_wp2_with fail
  refine C.out.mono ?_
  rintro e w1 ⟨rfl, h1, t1⟩
  obtain ⟨g, cur, hfo, hA, _, _⟩ := h1.f.there (by omega)
  have hl2 : k < s1.fl.length := by omega
  have ck := hA.cell k (tv (s1.fl[k]'hl2)) (by
    rw [List.getElem?_append_left (by rw [List.length_map]; omega), List.getElem?_map, List.getElem?_eq_getElem hl2]; rfl)
  have hs0 : s1.fl[k]'hl2 = seen s1 0 k := by unfold seen; rw [List.take_zero]; show _ = (s1.fl[k]?).getD []; rw [List.getElem?_eq_getElem hl2]; rfl
  rw [hs0] at ck
  unfold tv at ck
  have d0 := h1.d.cell 0 _ rfl
  rw [hl1, hfo] at d0
  have H1 := Lib.hid h1
  have T1 := Lib.hid t1
  clear h1 t1 hfo hA hl1 hl2 hs0 c0 C
  go_wp2_with fail
  have hkl : k < s1.fl.length := by rw [HL1.out]; exact hk
  go_loopw [6, 7] (fun y z wx => ∃ i : Nat, i ≤ s1.ws.length ∧ y = .string (bs (seen s1 i k)) ∧ z = .int .i64 i ∧ wx = w1) (fun _ z _ => s1.ws.length - (intOf z).toNat)
  case atStart => exact ⟨0, by omega, rfl, rfl, rfl⟩
  clear ck d0
  case round =>
    obtain ⟨i, hi, rfl, rfl, rfl⟩ := hrel
    have d1 := H1.out.d.cell 1 _ rfl
    by_cases hlt : i < s1.ws.length
    · obtain ⟨x, hx⟩ : ∃ x, s1.ws[i]? = some x := ⟨_, List.getElem?_eq_getElem hlt⟩
      obtain ⟨x1, x2⟩ := rcells_at s1.ws i x hx
      obtain ⟨g2, cur2, hao, hA2, _, _⟩ := H1.out.w.there (by omega)
      rw [hao] at d1
      have e1 := hA2.cell (i * 2) (.int .i64 (x.1 : Int)) (by rw [List.getElem?_append_left (List.getElem?_eq_some_iff.1 x1).1]; exact x1)
      have e2 := hA2.cell (i * 2 + 1) (tv x.2) (by rw [List.getElem?_append_left (List.getElem?_eq_some_iff.1 x2).1]; exact x2)
      unfold tv at e2
      have hlt' : (i : Int) < s1.ws.length := by omega
      have hn := seen_next s1 i k x hx hkl
      have SN := Lib.hid hn
      clear hn hx x1 x2 hA2 hao
      by_cases hxk : x.1 = k
      · rw [if_pos hxk] at SN
        have hb : ((x.1 : Int) == (k : Int)) = true := by simp [hxk]
        go_wp2
        go_roundw
        case rel => exact ⟨i + 1, by omega, by rw [SN.out], by go_num, by first | rfl | trivial⟩
        case measure => simp [intOf]; omega
      · rw [if_neg hxk] at SN
        have hb : ((x.1 : Int) == (k : Int)) = false := by simp; omega
        go_wp2
        go_roundw
        case rel => exact ⟨i + 1, by omega, by rw [SN.out], by go_num, by first | rfl | trivial⟩
        case measure => simp [intOf]; omega
    · obtain rfl : i = s1.ws.length := by omega
      rw [seen_all]
      go_wp2
      go_ret2
      exact ⟨rfl, H1.out, T1.out⟩
end
end Go.Proofs.Ytcgjkopdnhkdiaa
