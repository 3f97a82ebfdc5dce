import Derived.Test.YtpcplhoehooflaaWc
namespace Go.Proofs.Ytpcplhoehooflaa
open Go.RowKit

theorem cell_lt {w : World} {a : Addr} {v : Value} (h : w.cell? a = some v) : a.block < w.heap.size := by
  unfold World.cell? at h
  cases hb : w.heap[a.block]? with
  | none => rw [hb] at h; cases h
  | some o => exact (Array.getElem?_eq_some_iff.1 hb).1

/-- the questions: bytes in memory that was there -/
def Bytes (w : World) (a : Option Addr) (len : Nat) : Prop := ∀ i, i < len → ∃ x, a = some x ∧ ∃ z : Nat, z < 256 ∧ w.cell? (x.add i) = some (.int .u8 (z : Int))

/-- both readers: the program's, the document's -/
def Both (w : World) (b c : Nat) (l : List UInt8) (lost : Bool) : Prop := Rd w b l lost ∧ Rf w c l lost ∧ b ≠ c ∧ (lost = true → l = [])

theorem refNum_bs (b : Nat) (l : List UInt8) (lost : Bool) (w : World) (h : Rf w b l lost) (hs : l.length ≤ 1099511627776) (hlo : lost = true → l = []) :
    Calls Try.prog 16 #[.pointer (some ⟨b, 0, none⟩)] w fun e w' =>
      e = .returned (.int .u64 (rnum l lost).1) ∧ Rf w' b (rnum l lost).2.1 (rnum l lost).2.2 ∧ Only b w w' := by
  have := refNum_any b (bs l) lost w h (by rw [bs_size]; exact hs)
  rw [data_bs, rf_rnum l lost hlo] at this
  exact this
theorem refText_bs (b : Nat) (l : List UInt8) (lost : Bool) (w : World) (h : Rf w b l lost) (hs : l.length ≤ 1099511627776) (hlo : lost = true → l = []) :
    Calls Try.prog 18 #[.pointer (some ⟨b, 0, none⟩)] w fun e w' =>
      e = .returned (.string (bs (rtext l lost).1)) ∧ Rf w' b (rtext l lost).2.1 (rtext l lost).2.2 ∧ Only b w w' := by
  have := refText_any b l lost w h hs
  rw [rft_rtext l lost hlo] at this
  exact this

set_option maxRecDepth 100000 in
set_option maxHeartbeats 2000000 in
theorem wireAsked_walk (s : ByteArray) (a : Option Addr) (len cap : Nat) (w : World) (hs : s.size ≤ maxLen) (hlen : len ≤ maxLen) (hb : Bytes w a len) :
    Calls Try.prog 4 #[.string s, .slice a len cap] w fun e w' => e = .returned (.bool true) ∧ Below w.heap.size w w' := by
  unfold maxLen at hs hlen
  have HBY := Lib.hid hb
  clear hb
  go_enter Try.func4, Try.ntmps4
  go_wp2_with fail
  have h1 : (s.extract 0 (min (s.size : Int) 1500).toNat).size ≤ 1500 := cut_size s 1500
  generalize s.extract 0 (min (s.size : Int) 1500).toNat = s2 at h1 ⊢
  obtain ⟨l0, rfl⟩ := ex_bs s2
  rw [bs_size] at h1
  refine (newReader_bs _ _).mono ?_
  rintro e w1 ⟨rfl, _, rfl, r1, b1⟩
  have hB : Both (w1.alloc (.cells #[.string (bs l0), .bool false] 32)) w.heap.size w1.heap.size l0 false :=
    ⟨At.alloc r1 _, At.new w1 _ _, by have := At.lt r1; omega, by simp⟩
  have hbe : Below w.heap.size w (w1.alloc (.cells #[.string (bs l0), .bool false] 32)) := b1.alloc b1.size _
  have hsz : w.heap.size ≤ w1.heap.size := b1.size
  have HB := Lib.hid hB
  have HE := Lib.hid hbe
  clear hB hbe r1 b1
  go_wp2_with fail
  go_loopw [7] (fun k wr => ∃ (j : Nat) (l : List UInt8) (lost : Bool), k = .int .i64 j ∧ j ≤ len ∧ j ≤ 80 ∧ l.length ≤ 1500 ∧ Both wr w.heap.size w1.heap.size l lost ∧ Below w.heap.size w wr) (fun k _ => 80 - (intOf k).toNat)
  case atStart => exact ⟨0, l0, false, rfl, by omega, by omega, h1, HB.out, HE.out⟩
  case round =>
    obtain ⟨j, l, lost, rfl, hj, hj8, hl, hbo, hbel⟩ := hrel
    obtain ⟨hr, hf, hne, hlo⟩ := hbo
    have HR := Lib.hid hr
    have HF := Lib.hid hf
    have HN := Lib.hid hne
    have HL := Lib.hid hlo
    have HW := Lib.hid hbel
    clear hr hf hne hlo hbel HB HE h1
    by_cases hlt : j < len
    · by_cases h80 : (j : Int) < 80
      · obtain ⟨x, rfl, z, hz, hcell⟩ := HBY.out j hlt
        have hc := (HW.out.cell (cell_lt hcell)).trans hcell
        clear hcell
        by_cases hz2 : z % 2 = 0
        · have hzz : (z : Int) % 2 = 0 := by omega
          go_wp2_with fail
          refine (num_any _ _ _ _ HR.out (by unfold maxLen; omega)).mono ?_
          rintro e wa ⟨rfl, ra, ba⟩
          have FA := Lib.hid (At.only HF.out ba (fun e => HN.out e.symm))
          have RA := Lib.hid ra
          have WA := Lib.hid (Below.then HW.out ba (Nat.le_refl _))
          clear ra ba
          go_wp2_with fail
          refine (refNum_bs _ _ _ _ FA.out (by omega) HL.out).mono ?_
          rintro e wb ⟨rfl, fb, bb⟩
          have FB := Lib.hid fb
          have RB := Lib.hid (At.only RA.out bb HN.out)
          have WB := Lib.hid (Below.then WA.out bb hsz)
          have hl2 : (rnum l lost).2.1.length ≤ 1500 := Nat.le_trans (rnum_len l lost) hl
          have LB := Lib.hid (rnum_lost l lost HL.out)
          clear fb bb
          go_wp2_with fail
          refine (ok_any _ _ _ _ RB.out).mono ?_
          rintro e wc ⟨rfl, rfl⟩
          go_wp2_with fail
          refine (refOK_any _ _ _ _ FB.out).mono ?_
          rintro e wc ⟨rfl, rfl⟩
          go_wp2_with fail
          refine (end_any _ _ _ _ RB.out).mono ?_
          rintro e wc ⟨rfl, rfl⟩
          go_wp2_with fail
          refine (refEnd_any _ _ _ _ FB.out).mono ?_
          rintro e wc ⟨rfl, rfl⟩
          go_wp2
          go_roundw
          case rel => exact ⟨j + 1, _, _, by go_num, by omega, by omega, hl2, ⟨RB.out, FB.out, HN.out, LB.out⟩, WB.out⟩
          case measure => simp [intOf]; omega
        · have hzz : ((z : Int) % 2 == 0) = false := by
            rw [beq_eq_false_iff_ne]; omega
          go_wp2_with fail
          refine (text_any _ _ _ _ HR.out (by omega)).mono ?_
          rintro e wa ⟨rfl, ra, ba⟩
          have FA := Lib.hid (At.only HF.out ba (fun e => HN.out e.symm))
          have RA := Lib.hid ra
          have WA := Lib.hid (Below.then HW.out ba (Nat.le_refl _))
          clear ra ba
          go_wp2_with fail
          refine (refText_bs _ _ _ _ FA.out (by omega) HL.out).mono ?_
          rintro e wb ⟨rfl, fb, bb⟩
          have FB := Lib.hid fb
          have RB := Lib.hid (At.only RA.out bb HN.out)
          have WB := Lib.hid (Below.then WA.out bb hsz)
          have hl2 : (rtext l lost).2.1.length ≤ 1500 := Nat.le_trans (rtext_len l lost) hl
          have LB := Lib.hid (rtext_lost l lost HL.out)
          clear fb bb
          go_wp2_with fail
          refine (ok_any _ _ _ _ RB.out).mono ?_
          rintro e wc ⟨rfl, rfl⟩
          go_wp2_with fail
          refine (refOK_any _ _ _ _ FB.out).mono ?_
          rintro e wc ⟨rfl, rfl⟩
          go_wp2_with fail
          refine (end_any _ _ _ _ RB.out).mono ?_
          rintro e wc ⟨rfl, rfl⟩
          go_wp2_with fail
          refine (refEnd_any _ _ _ _ FB.out).mono ?_
          rintro e wc ⟨rfl, rfl⟩
          go_wp2
          go_roundw
          case rel => exact ⟨j + 1, _, _, by go_num, by omega, by omega, hl2, ⟨RB.out, FB.out, HN.out, LB.out⟩, WB.out⟩
          case measure => simp [intOf]; omega
      · go_wp2_with fail
        refine (works_any _).mono ?_
        rintro e wa ⟨rfl, ba⟩
        go_wp2
        go_ret
        exact ⟨rfl, HW.out.trans (ba.mono HW.out.size)⟩
    · go_wp2_with fail
      refine (works_any _).mono ?_
      rintro e wa ⟨rfl, ba⟩
      go_wp2
      go_ret
      exact ⟨rfl, HW.out.trans (ba.mono HW.out.size)⟩
end Go.Proofs.Ytpcplhoehooflaa
