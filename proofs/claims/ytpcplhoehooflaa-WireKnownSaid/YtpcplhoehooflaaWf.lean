import Derived.Test.YtpcplhoehooflaaWe
namespace Go.Proofs.Ytpcplhoehooflaa
open Go.RowKit

theorem row_of {n : Nat} {l : List UInt8} (h : Plain.cut l = some (n, [])) : Plain.row n = l := by
  have := (Plain.cut_back h).1
  simpa using this.symm

def kn : List Nat := [0, 127, 128, 300, 16383, 16384, 18446744073709551615]
def kb : List (List UInt8) := [[], [128, 5], [129], [128, 0], [130, 128, 128, 128, 128, 128, 128, 128, 128, 0], [129, 128, 128, 128, 128, 128, 128, 128, 128, 128, 0], [255, 255, 255, 255, 255, 255, 255, 255, 255, 255, 127]]
def ktab : List Value := [.int .u64 0, .string ⟨#[0]⟩, .int .u64 127, .string ⟨#[127]⟩, .int .u64 128, .string ⟨#[129, 0]⟩, .int .u64 300, .string ⟨#[130, 44]⟩, .int .u64 16383, .string ⟨#[255, 127]⟩, .int .u64 16384, .string ⟨#[129, 128, 0]⟩, .int .u64 18446744073709551615, .string ⟨#[129, 255, 255, 255, 255, 255, 255, 255, 255, 127]⟩]

theorem ktab_at (j : Nat) (h : j < 7) : ∃ n : Nat, n < Plain.big ∧ ktab[j * 2]? = some (.int .u64 (n : Int)) ∧ ktab[j * 2 + 1]? = some (.string (bs (Plain.row n))) := by
  match j, h with
  | 0, _ => exact ⟨0, by decide, rfl, by rw [row_of (n := 0) (l := [0]) (by decide +kernel)]; rfl⟩
  | 1, _ => exact ⟨127, by decide, rfl, by rw [row_of (n := 127) (l := [127]) (by decide +kernel)]; rfl⟩
  | 2, _ => exact ⟨128, by decide, rfl, by rw [row_of (n := 128) (l := [129, 0]) (by decide +kernel)]; rfl⟩
  | 3, _ => exact ⟨300, by decide, rfl, by rw [row_of (n := 300) (l := [130, 44]) (by decide +kernel)]; rfl⟩
  | 4, _ => exact ⟨16383, by decide, rfl, by rw [row_of (n := 16383) (l := [255, 127]) (by decide +kernel)]; rfl⟩
  | 5, _ => exact ⟨16384, by decide, rfl, by rw [row_of (n := 16384) (l := [129, 128, 0]) (by decide +kernel)]; rfl⟩
  | 6, _ => exact ⟨18446744073709551615, by decide, rfl, by rw [row_of (n := 18446744073709551615) (l := [129, 255, 255, 255, 255, 255, 255, 255, 255, 127]) (by decide +kernel)]; rfl⟩
theorem kbad_at (j : Nat) (h : j < 7) : ∃ l : List UInt8, l.length ≤ 20 ∧ Plain.cut l = none ∧ (kb.map fun l => Value.string (bs l))[j]? = some (.string (bs l)) := by
  match j, h with
  | 0, _ => exact ⟨kb.getD 0 [], by decide +kernel, by decide +kernel, rfl⟩
  | 1, _ => exact ⟨kb.getD 1 [], by decide +kernel, by decide +kernel, rfl⟩
  | 2, _ => exact ⟨kb.getD 2 [], by decide +kernel, by decide +kernel, rfl⟩
  | 3, _ => exact ⟨kb.getD 3 [], by decide +kernel, by decide +kernel, rfl⟩
  | 4, _ => exact ⟨kb.getD 4 [], by decide +kernel, by decide +kernel, rfl⟩
  | 5, _ => exact ⟨kb.getD 5 [], by decide +kernel, by decide +kernel, rfl⟩
  | 6, _ => exact ⟨kb.getD 6 [], by decide +kernel, by decide +kernel, rfl⟩

theorem keep2_below {W w1 : World} {p q : Addr} {u v : Value} (hS : W.cell? p = some u ∧ W.cell? q = some v) (h : Below W.heap.size W w1) : w1.cell? p = some u ∧ w1.cell? q = some v :=
  ⟨(h.cell (cell_lt hS.1)).trans hS.1, (h.cell (cell_lt hS.2)).trans hS.2⟩
theorem keep2_only {W w1 : World} {p q : Addr} {u v : Value} {b : Nat} (hS : W.cell? p = some u ∧ W.cell? q = some v) (h : Only b W w1) (hp : p.block ≠ b) (hq : q.block ≠ b) : w1.cell? p = some u ∧ w1.cell? q = some v :=
  ⟨cell_only hS.1 h hp, cell_only hS.2 h hq⟩
theorem putNum_q (n : Nat) (w : World) (hn : n < Plain.big) :
    Calls Try.prog 9 #[.string ⟨#[113]⟩, .int .u64 n] w fun e w' => e = .returned (.string (⟨#[113]⟩ ++ bs (Plain.row n))) ∧ Below w.heap.size w w' :=
  putNum_any ⟨#[113]⟩ n w (by decide) hn

theorem newReader_abc (w : World) :
    Calls Try.prog 14 #[.string ⟨#[4, 97, 98, 99]⟩] w fun e w' => e = .returned (.pointer (some ⟨w.heap.size, 0, none⟩)) ∧ Rd w' w.heap.size [4, 97, 98, 99] false ∧ Below w.heap.size w w' :=
  (newReader_any ⟨#[4, 97, 98, 99]⟩ w).mono fun e w' ⟨he, hw⟩ => ⟨he, by rw [hw]; exact At.new w _ _, by rw [hw]; exact (Below.refl _ _).alloc (Nat.le_refl _) _⟩
theorem putText_nil (w : World) :
    Calls Try.prog 11 #[.string ⟨#[]⟩, .string ⟨#[]⟩] w fun e w' => e = .returned (.string ⟨#[0]⟩) ∧ Below w.heap.size w w' :=
  (putText_any ⟨#[]⟩ ⟨#[]⟩ w (by decide) (by decide)).mono fun e w' ⟨he, hb⟩ => ⟨by
    rw [he, show (⟨#[]⟩ : ByteArray).size = 0 from rfl, Plain.row_zero]; rfl, hb⟩

set_option maxRecDepth 100000 in
set_option maxHeartbeats 2000000 in
theorem wireKnown_walk (w : World) :
    Calls Try.prog 8 #[] w fun e w' => e = .returned (.bool true) ∧ Below w.heap.size w w' := by
  go_enter Try.func8, Try.ntmps8
  go_wp2
  have hat : At (w.alloc (.cells ktab.toArray 40)) w.heap.size 40 ktab := At.new w _ _
  have hbe : Below w.heap.size w (w.alloc (.cells ktab.toArray 40)) := (Below.refl _ _).alloc (Nat.le_refl _) _
  have HA := Lib.hid hat
  have HB := Lib.hid hbe
  clear hat hbe
  go_loopw [1, 2, 3, 18] (fun _ _ _ k wr => ∃ j : Nat, k = .int .i64 j ∧ j ≤ 7 ∧ At wr w.heap.size 40 ktab ∧ Below w.heap.size w wr) (fun _ _ _ k _ => 7 - (intOf k).toNat)
  case atStart => exact ⟨0, rfl, by omega, HA.out, HB.out⟩
  case round =>
    obtain ⟨j, rfl, hj, hat, hbel⟩ := hrel
    have hlt0 := hat.lt
    have HT := Lib.hid hat
    have HW := Lib.hid hbel
    by_cases hlt : j < 7
    · obtain ⟨n, hn, g0, g1⟩ := ktab_at j hlt
      have hc0 := hat.cell _ _ g0
      have hc1 := hat.cell _ _ g1
      clear hat hbel g0 g1 HA HB hj
      go_wp2_with fail
      refine (newReader_bs _ _).mono ?_
      rintro e w1 ⟨rfl, _, rfl, r1, b1⟩
      have hat0 := At.new wr #[.int .u64 (n : Int), .string (bs (Plain.row n))] 40
      have hx0 := (b1.cell (p := ⟨wr.heap.size, 0, none⟩) (by simp)).trans (hat0.cell 0 _ rfl)
      have hx1 := (b1.cell (p := ⟨wr.heap.size, 1, none⟩) (by simp)).trans (hat0.cell 1 _ rfl)
      have hbW : Below w.heap.size w (wr.alloc (.cells #[.int .u64 (n : Int), .string (bs (Plain.row n))] 40)) := HW.out.alloc HW.out.size _
      have hatW := HT.out.alloc (.cells #[.int .u64 (n : Int), .string (bs (Plain.row n))] 40)
      have HW1 := Lib.hid (hbW.trans (b1.mono hbW.size))
      have HT1 := Lib.hid (hatW.below b1 hatW.lt)
      have hzx : (wr.alloc (.cells #[.int .u64 (n : Int), .string (bs (Plain.row n))] 40)).heap.size = wr.heap.size + 1 := by simp
      rw [hzx] at r1 ⊢
      have R1 := Lib.hid r1
      have hrl := Plain.row_length_le n hn
      have hcat : (⟨#[113]⟩ : ByteArray).size + (Plain.row n).length ≤ 9223372036854775807 := by
        rw [show (⟨#[113]⟩ : ByteArray).size = 1 from rfl]; omega
      have hcat1 : (9223372036854775807 < 1 + (Plain.row n).length) = False := eq_false (by omega)
      have HC := Lib.hid (Plain.cut_row n hn [])
      rw [List.append_nil] at HC
      have hszw := HW.out.size
      clear r1 b1 hbW hatW hat0 hc0 hc1 hzx
      go_wp2_with fail
      go_region_held3 (fun w' => w'.cell? ⟨wr.heap.size, 0, none⟩ = some (.int .u64 (n : Int)) ∧ w'.cell? ⟨wr.heap.size, 1, none⟩ = some (.string (bs (Plain.row n)))) (first | exact ⟨hx0, hx1⟩ | exact keep2_below (by assumption) (by assumption) | exact keep2_only (by assumption) (by assumption) (by simp) (by simp) | go_keep) (first | (go_at_call 9; refine (putNum_q n _ hn).mono ?_; rintro e w3 ⟨rfl, b3⟩) | (go_at_call 15; refine (num_some (wr.heap.size + 1) (Plain.row n) n [] (n : Int) _ (by exact At.below (w := w1.drew) R1.out b3 (At.lt R1.out)) (by unfold maxLen; omega) HC.out rfl).mono ?_; rintro e w4 ⟨rfl, r4, b4⟩) | (go_at_call 21; refine (end_any (wr.heap.size + 1) _ false _ (by exact r4)).mono ?_; rintro e w5 ⟨rfl, rfl⟩))
      have HW3 : Hid (Below w.heap.size w w3) := Lib.hid (Below.trans (b := w1.drew) ⟨HW1.out.os, HW1.out.tape, HW1.out.output, HW1.out.size, HW1.out.block⟩ (b3.mono HW1.out.size))
      have HW5 := Lib.hid (Below.then HW3.out b4 (by omega))
      have HT3 := Lib.hid (At.below (w := w1.drew) HT1.out b3 (At.lt HT1.out))
      have HT5 := Lib.hid (At.only HT3.out b4 (by omega))
      clear r4 b4 b3
      go_wp2
      go_roundw
      case rel => exact ⟨j + 1, by go_num, by omega, HT5.out, HW5.out⟩
      case measure => simp [intOf]; omega
    · obtain rfl : j = 7 := by omega
      clear hat hbel HA HB hj hlt
      go_wp2
      have hat : At (wr.alloc (.cells (kb.map fun l => Value.string (bs l)).toArray 9)) wr.heap.size 9 (kb.map fun l => Value.string (bs l)) := At.new wr _ _
      have hbe : Below w.heap.size w (wr.alloc (.cells (kb.map fun l => Value.string (bs l)).toArray 9)) := HW.out.alloc HW.out.size _
      have HA := Lib.hid hat
      have HB := Lib.hid hbe
      clear hat hbe
      go_loopw [4, 5, 6, 50] (fun _ _ _ k w2 => ∃ j : Nat, k = .int .i64 j ∧ j ≤ 7 ∧ At w2 wr.heap.size 9 (kb.map fun l => Value.string (bs l)) ∧ Below w.heap.size w w2) (fun _ _ _ k _ => 7 - (intOf k).toNat)
      case atStart => exact ⟨0, rfl, by omega, HA.out, HB.out⟩
      case round =>
        obtain ⟨j, rfl, hj, hat, hbel⟩ := hrel
        have HT2 := Lib.hid hat
        have HW2 := Lib.hid hbel
        by_cases hlt : j < 7
        · obtain ⟨l, hl, hn, g0⟩ := kbad_at j hlt
          have hc0 := hat.cell _ _ g0
          have hlt2 := hat.lt
          have hszw := hbel.size
          have HN := Lib.hid (rnum_none hn)
          clear hat hbel g0 HA HB hj hn
          go_wp2_with fail
          refine (newReader_bs _ _).mono ?_
          rintro e w1 ⟨rfl, _, rfl, r1, b1⟩
          have HW3 := Lib.hid (HW2.out.trans (b1.mono HW2.out.size))
          have HT3 := Lib.hid (HT2.out.below b1 hlt2)
          have R1 := Lib.hid r1
          clear r1 b1 hc0
          go_wp2_with fail
          refine (ok_any _ _ _ _ R1.out).mono ?_
          rintro e w3 ⟨rfl, rfl⟩
          go_wp2_with fail
          refine (num_any _ _ _ _ R1.out (by unfold maxLen; omega)).mono ?_
          rw [HN.out]
          rintro e w4 ⟨rfl, r4, b4⟩
          have HW4 := Lib.hid (Below.then HW3.out b4 hszw)
          have HT4 := Lib.hid (At.only HT3.out b4 (by omega))
          have R4 := Lib.hid r4
          clear r4 b4
          go_wp2_with fail
          refine (ok_any _ _ _ _ R4.out).mono ?_
          rintro e w5 ⟨rfl, rfl⟩
          go_wp2_with fail
          refine (end_any _ _ _ _ R4.out).mono ?_
          rintro e w6 ⟨rfl, rfl⟩
          go_wp2_with fail
          refine (num_any _ _ _ _ R4.out (by decide)).mono ?_
          rw [show rnum [] true = (0, [], true) from rfl]
          rintro e w7 ⟨rfl, r7, b7⟩
          have HW7 := Lib.hid (Below.then HW4.out b7 hszw)
          have HT7 := Lib.hid (At.only HT4.out b7 (by omega))
          have R7 := Lib.hid r7
          clear r7 b7
          go_wp2_with fail
          refine (text_any _ _ _ _ R7.out (by decide)).mono ?_
          rw [show rtext [] true = ([], [], true) from rfl]
          rintro e w8 ⟨rfl, r8, b8⟩
          have HW8 := Lib.hid (Below.then HW7.out b8 hszw)
          have HT8 := Lib.hid (At.only HT7.out b8 (by omega))
          clear r8 b8
          go_wp2
          go_roundw
          case rel => first | exact ⟨j + 1, by go_num, by omega, HT8.out, HW8.out⟩ | ((repeat apply Exists.intro); exact ⟨⟨j + 1, by go_num, by omega, HT8.out, HW8.out⟩, rfl⟩)
          case measure => simp [intOf]; omega
        · obtain rfl : j = 7 := by omega
          have hszw := hbel.size
          clear hat hbel HA HB hj hlt
          go_wp2_with fail
          refine (newReader_abc _).mono ?_
          rintro e w1 ⟨rfl, r1, b1⟩
          have HW1 := Lib.hid (HW2.out.trans (b1.mono HW2.out.size))
          have R1 := Lib.hid r1
          clear r1 b1
          go_wp2_with fail
          refine (text_any _ _ _ _ R1.out (by decide)).mono ?_
          rw [show rtext [4, 97, 98, 99] false = ([], [], true) by decide +kernel]
          rintro e w3 ⟨rfl, r3, b3⟩
          have HW3 := Lib.hid (Below.then HW1.out b3 hszw)
          have R3 := Lib.hid r3
          clear r3 b3
          go_wp2_with fail
          refine (ok_any _ _ _ _ R3.out).mono ?_
          rintro e w4 ⟨rfl, rfl⟩
          go_wp2_with fail
          refine (putText_nil _).mono ?_
          rintro e w5 ⟨rfl, b5⟩
          have HW5 := Lib.hid (HW3.out.trans (b5.mono HW3.out.size))
          clear b5
          go_wp2_with fail
          refine (num_nil' _).mono ?_
          rintro e w6 ⟨rfl, b6⟩
          have HW6 := Lib.hid (HW5.out.trans (b6.mono HW5.out.size))
          clear b6
          go_wp2_with fail
          refine (text_nil' _).mono ?_
          rintro e w7 ⟨rfl, b7⟩
          have HW7 := Lib.hid (HW6.out.trans (b7.mono HW6.out.size))
          clear b7
          go_wp2_with fail
          refine (ok_nil _).mono ?_
          rintro e w8 ⟨rfl, rfl⟩
          go_wp2_with fail
          refine (end_nil _).mono ?_
          rintro e w9 ⟨rfl, rfl⟩
          go_wp2_with fail
          refine (works_any _).mono ?_
          rintro e wa ⟨rfl, ba⟩
          go_wp2
          go_ret
          exact ⟨rfl, HW7.out.trans (ba.mono HW7.out.size)⟩
end Go.Proofs.Ytpcplhoehooflaa
