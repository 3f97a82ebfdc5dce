import Derived.Test.YtpcplhoehooflaaWb
import Derived.Test.YtpcplhoehooflaaL3
namespace Go.Proofs.Ytpcplhoehooflaa
open Go.RowKit

theorem mul128 (n : Nat) (hn : (n : Int) < 144115188075855872) : IntKind.u64.wrap ((n : Int) * 128) = ((n * 128 : Nat) : Int) := by
  simp only [IntKind.wrap, IntKind.bits, IntKind.signed]; simp; omega

theorem num_some (b : Nat) (l : List UInt8) (n : Nat) (r : List UInt8) (A : Int) (w : World) (h : Rd w b l false) (hl : l.length ≤ maxLen) (hc : Plain.cut l = some (n, r)) (hA : (n : Int) = A) :
    Calls Try.prog 15 #[.pointer (some ⟨b, 0, none⟩)] w fun e w' => e = .returned (.int .u64 A) ∧ Rd w' b r false ∧ Only b w w' := by
  have := num_any b l false w h hl
  rw [rnum_some hc] at this
  subst hA
  exact this

/-- how the lengths of two rows stand to each other, and to the numbers -/
def Len3 (a b : Nat) (X Y : List UInt8) : Prop :=
  (X.length = Y.length ∧ Op.bytesLess X Y = decide ((a : Int) < b)) ∨ (X.length < Y.length ∧ (a : Int) < b) ∨ Y.length < X.length
theorem len3 (a b : Nat) : Len3 a b (Plain.row a) (Plain.row b) := by
  rcases Nat.lt_trichotomy (Plain.row a).length (Plain.row b).length with h | h | h
  · exact .inr (.inl ⟨h, by have := Plain.row_shorter h; omega⟩)
  · exact .inl ⟨h, by rw [Plain.row_less a b h]; simp⟩
  · exact .inr (.inr h)

set_option maxRecDepth 100000 in
set_option maxHeartbeats 2000000 in
theorem wireGrows_walk (a b : Nat) (w : World) (ha : a < Plain.big) (hb : b < Plain.big) :
    Calls Try.prog 6 #[.int .u64 a, .int .u64 b] w fun e w' => e = .returned (.bool true) ∧ Below w.heap.size w w' := by
  have hq := quo128 a ha
  go_enter Try.func6, Try.ntmps6
  go_wp2_with fail
  refine (putNum_empty a _ ha).mono ?_
  rintro e w1 ⟨rfl, b1⟩
  go_wp2_with fail
  refine (putNum_empty b _ hb).mono ?_
  rintro e w2 ⟨rfl, b2⟩
  have HB2 := Lib.hid (b1.trans (b2.mono b1.size))
  have hla := Plain.row_length_le a ha
  have hlb := Plain.row_length_le b hb
  have HL := Lib.hid (len3 a b)
  have HC := Lib.hid (Plain.cut_row a ha (Plain.row b))
  have HC2 : Hid (Plain.cut (Plain.row b) = some (b, [])) := Lib.hid (by have := Plain.cut_row b hb []; simpa using this)
  have HT := Lib.hid (Plain.row_times a)
  have hinit : 1 + (Plain.hi (a / 128)).length = (Plain.row a).length := by rw [Plain.row_length]; omega
  clear b1 b2
  generalize Plain.row a = X at *
  generalize Plain.row b = Y at *
  have HI := Lib.hid hinit
  clear hinit
  go_wp2
  clear hq
  go_loopw [7, 8] (fun k n wr => ∃ (j m : Nat), k = .int .i64 j ∧ n = .int .u64 m ∧ m < Plain.big ∧ j + (Plain.hi m).length = X.length ∧ wr = w2) (fun _ n _ => (intOf n).toNat)
  case atStart => exact ⟨1, a / 128, rfl, by go_num, by omega, HI.out, rfl⟩
  case round =>
    obtain ⟨j, m, rfl, rfl, hm, hj, rfl⟩ := hrel
    by_cases h0 : m = 0
    · subst h0
      obtain rfl : j = X.length := by rw [Plain.hi_zero] at hj; simpa using hj
      clear hj HI
      have H3 := HL.out
      unfold Len3 at H3
      have hsum : X.length + Y.length ≤ 9223372036854775807 := by omega
      obtain ⟨n, hx⟩ : ∃ n, X.length = n := ⟨_, rfl⟩
      obtain ⟨n2, hy⟩ : ∃ n, Y.length = n := ⟨_, rfl⟩
      rw [hx] at hla hsum HT
      rw [hy] at hlb hsum
      rw [hx, hy] at H3
      have HX := Lib.hid hx
      have HY := Lib.hid hy
      rcases H3 with ⟨rfl, e2⟩ | ⟨e1, e2⟩ | e1
      all_goals
        by_cases ha0 : a = 0
        · subst ha0
          have HB9 := HB2
          go_wp2_with fail
          refine (newReader_bs _ _).mono ?_
          rintro e _ ⟨rfl, w3, rfl, r3, b3⟩
          have HB3 := Lib.hid (HB9.out.trans (b3.mono HB9.out.size))
          have hsz := HB9.out.size
          have R3 := Lib.hid r3
          clear b3 r3
          go_wp2_with fail
          refine (num_some _ _ _ _ _ _ R3.out (by rw [List.length_append, HX.out, HY.out]; unfold maxLen; omega) HC.out rfl).mono ?_
          rintro e w4 ⟨rfl, r4, b4⟩
          have HB4 := Lib.hid (Below.then HB3.out b4 hsz)
          have R4 := Lib.hid r4
          clear b4 r4
          go_wp2_with fail
          refine (num_any _ _ _ _ R4.out (by rw [HY.out]; unfold maxLen; omega)).mono ?_
          rw [rnum_some HC2.out]
          rintro e w5 ⟨rfl, r5, b5⟩
          have HB5 := Lib.hid (Below.then HB4.out b5 hsz)
          have R5 := Lib.hid r5
          clear b5 r5
          go_wp2_with fail
          refine (end_any _ _ _ _ R5.out).mono ?_
          rintro e w6 ⟨rfl, rfl⟩
          go_wp2_with fail
          refine (works_any _).mono ?_
          rintro e w7 ⟨rfl, b7⟩
          go_wp2
          go_ret
          exact ⟨rfl, HB5.out.trans (b7.mono HB5.out.size)⟩
        · by_cases ha57 : (a : Int) < 144115188075855872
          · have ha0' : (0 : Int) < a := by omega
            have hm1 := mul128 a ha57
            have hmb : a * 128 < Plain.big := by unfold Plain.big; omega
            have hlen := HT.out (by omega)
            have HM := Lib.hid hlen
            clear hlen ha0
            generalize hA : (a : Int) = A at *
            have HA := Lib.hid hA
            clear hA
            go_wp2_with fail
            refine (putNum_empty (a * 128) _ hmb).mono ?_
            rintro e w8 ⟨rfl, b8⟩
            have hlen := HM.out
            have HB9 := Lib.hid (HB2.out.trans (b8.mono HB2.out.size))
            clear b8
            go_wp2_with fail
            refine (newReader_bs _ _).mono ?_
            rintro e _ ⟨rfl, w3, rfl, r3, b3⟩
            have HB3 := Lib.hid (HB9.out.trans (b3.mono HB9.out.size))
            have hsz := HB9.out.size
            have R3 := Lib.hid r3
            clear b3 r3
            go_wp2_with fail
            refine (num_some _ _ _ _ _ _ R3.out (by rw [List.length_append, HX.out, HY.out]; unfold maxLen; omega) HC.out HA.out).mono ?_
            rintro e w4 ⟨rfl, r4, b4⟩
            have HB4 := Lib.hid (Below.then HB3.out b4 hsz)
            have R4 := Lib.hid r4
            clear b4 r4
            go_wp2_with fail
            refine (num_any _ _ _ _ R4.out (by rw [HY.out]; unfold maxLen; omega)).mono ?_
            rw [rnum_some HC2.out]
            rintro e w5 ⟨rfl, r5, b5⟩
            have HB5 := Lib.hid (Below.then HB4.out b5 hsz)
            have R5 := Lib.hid r5
            clear b5 r5
            go_wp2_with fail
            refine (end_any _ _ _ _ R5.out).mono ?_
            rintro e w6 ⟨rfl, rfl⟩
            go_wp2_with fail
            refine (works_any _).mono ?_
            rintro e w7 ⟨rfl, b7⟩
            go_wp2
            go_ret
            exact ⟨rfl, HB5.out.trans (b7.mono HB5.out.size)⟩
          · have ha0' : (0 : Int) < a := by omega
            have HB9 := HB2
            clear ha0
            generalize hA : (a : Int) = A at *
            have HA := Lib.hid hA
            clear hA
            go_wp2_with fail
            refine (newReader_bs _ _).mono ?_
            rintro e _ ⟨rfl, w3, rfl, r3, b3⟩
            have HB3 := Lib.hid (HB9.out.trans (b3.mono HB9.out.size))
            have hsz := HB9.out.size
            have R3 := Lib.hid r3
            clear b3 r3
            go_wp2_with fail
            refine (num_some _ _ _ _ _ _ R3.out (by rw [List.length_append, HX.out, HY.out]; unfold maxLen; omega) HC.out HA.out).mono ?_
            rintro e w4 ⟨rfl, r4, b4⟩
            have HB4 := Lib.hid (Below.then HB3.out b4 hsz)
            have R4 := Lib.hid r4
            clear b4 r4
            go_wp2_with fail
            refine (num_any _ _ _ _ R4.out (by rw [HY.out]; unfold maxLen; omega)).mono ?_
            rw [rnum_some HC2.out]
            rintro e w5 ⟨rfl, r5, b5⟩
            have HB5 := Lib.hid (Below.then HB4.out b5 hsz)
            have R5 := Lib.hid r5
            clear b5 r5
            go_wp2_with fail
            refine (end_any _ _ _ _ R5.out).mono ?_
            rintro e w6 ⟨rfl, rfl⟩
            go_wp2_with fail
            refine (works_any _).mono ?_
            rintro e w7 ⟨rfl, b7⟩
            go_wp2
            go_ret
            exact ⟨rfl, HB5.out.trans (b7.mono HB5.out.size)⟩
    · have hm0 : (0 : Int) < m := by omega
      have hq := quo128 m hm
      have hj2 : j + 1 + (Plain.hi (m / 128)).length = X.length := by rw [Plain.hi_length_pos h0] at hj; omega
      have HJ := Lib.hid hj2
      have hjx : j ≤ 10 := by omega
      clear hj hj2 h0
      go_wp2
      go_roundw
      case rel => exact ⟨j + 1, m / 128, by go_num, by go_num, by omega, HJ.out, by first | rfl | trivial⟩
      case measure => simp [intOf]; omega
end Go.Proofs.Ytpcplhoehooflaa
