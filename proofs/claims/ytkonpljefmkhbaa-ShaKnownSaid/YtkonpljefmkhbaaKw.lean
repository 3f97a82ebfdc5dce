/- The walk of ShaKnown. -/
import Derived.Test.YtkonpljefmkhbaaKc
namespace Go.Proofs.Ytkonpljefmkhbaa
open Go.RowKit
attribute [local go_sem] bs_size

theorem madeCells_rep (v : Value) (n : Nat) : (madeCells #[v] n).toList = List.replicate n v := by
  apply List.ext_getElem
  · simp [madeCells]
  · intro i h1 h2
    simp [madeCells, Nat.mod_one]
theorem rep_set (n i : Nat) (a b : Value) (h : i < n) : (List.replicate i a ++ List.replicate (n - i) b).set i a = List.replicate (i + 1) a ++ List.replicate (n - (i + 1)) b := by
  obtain ⟨k, hk⟩ : ∃ k, n - i = k + 1 := ⟨n - i - 1, by omega⟩
  rw [hk, show n - (i + 1) = k by omega, List.replicate_succ, List.set_append_right _ _ (by simp), List.length_replicate, Nat.sub_self, List.set_cons_zero, List.replicate_succ', List.append_assoc]
  rfl
theorem hex2_any (w : World) : Calls Try.prog 11 #[.string (bs (sha M2))] w fun e w' => e = .returned (.string (bs R2)) ∧ Below w.heap.size w w' := by
  have h := hex_any (sha M2) w (by rw [sha_len]; omega)
  rwa [sum_two] at h
theorem hex3_any (n : Nat) (hn : n = 1000000) (w : World) : Calls Try.prog 11 #[.string (bs (sha (List.replicate n 97)))] w fun e w' => e = .returned (.string (bs R3)) ∧ Below w.heap.size w w' := by
  subst hn
  have h := hex_any (sha (List.replicate 1000000 97)) w (by rw [sha_len]; omega)
  rwa [sum_million] at h

set_option maxRecDepth 100000 in
set_option maxHeartbeats 2000000 in
theorem shaKnown_any (w : World) : Calls Try.prog 7 #[] w fun e w' => e = .returned (.bool true) ∧ Below w.heap.size w w' := by
  obtain ⟨n, hn⟩ : ∃ n, n = 1000000 := ⟨_, rfl⟩
  obtain ⟨i5, hi5, hz0, hz1, hz2⟩ := info_parts info5
  have hmk : (Instr.makeSlice 27 (.int .i64 1000000) (.int .i64 1000000)).run Try.prog w = .ok (.slice (some ⟨w.heap.size, 0, none⟩) n n) (w.alloc (.cells (madeCells #[.int .u8 0] n) 5)) := by
    have := run_make (P := Try.prog) w 27 5 i5 (.int .u8 0) Try.underlying27 hi5 hz0 .i64 .i64 1000000 1000000 (by omega) (by omega) (by rw [hz2]; omega) (by omega)
    rw [this, hz1, Nat.mul_one, hn]; rfl
  clear hi5 hz0 hz1 hz2
  have q2 : ((bs R2).toList == [50, 52, 56, 100, 54, 97, 54, 49, 100, 50, 48, 54, 51, 56, 98, 56, 101, 53, 99, 48, 50, 54, 57, 51, 48, 99, 51, 101, 54, 48, 51, 57, 97, 51, 51, 99, 101, 52, 53, 57, 54, 52, 102, 102, 50, 49, 54, 55, 102, 54, 101, 99, 101, 100, 100, 52, 49, 57, 100, 98, 48, 54, 99, 49]) = true := by rw [ByteArray.toList_eq, data_bs]; decide +kernel
  have q3 : ((bs R3).toList == [99, 100, 99, 55, 54, 101, 53, 99, 57, 57, 49, 52, 102, 98, 57, 50, 56, 49, 97, 49, 99, 55, 101, 50, 56, 52, 100, 55, 51, 101, 54, 55, 102, 49, 56, 48, 57, 97, 52, 56, 97, 52, 57, 55, 50, 48, 48, 101, 48, 52, 54, 100, 51, 57, 99, 99, 99, 55, 49, 49, 50, 99, 100, 48]) = true := by rw [ByteArray.toList_eq, data_bs]; decide +kernel
  have s2 := fun w => sum_any M2 w (by decide)
  have s3 := fun w => sum_any (List.replicate n 97) w (by rw [List.length_replicate]; omega)
  have h3 := hex3_any n hn
  have hnm : n ≤ 1000000 := by omega
  have hB0 := At.new w (madeCells #[.int .u8 0] n) 5
  rw [madeCells_rep] at hB0
  have HB0 := Lib.hid hB0
  have S2 := Lib.hid s2
  have S3 := Lib.hid s3
  have H3 := Lib.hid h3
  have Q2 := Lib.hid q2
  have Q3 := Lib.hid q3
  clear hn hB0 s2 s3 h3 q2 q3
  go_enter Try.func7, Try.ntmps7
  go_wp2
  go_loopw [2] (fun s wx => ∃ i : Nat, i ≤ n ∧ s = .int .i64 i ∧ At wx w.heap.size 5 (List.replicate i (.int .u8 97) ++ List.replicate (n - i) (.int .u8 0)) ∧ Below w.heap.size w wx) (fun s _ => n - (intOf s).toNat)
  case atStart => exact ⟨0, by omega, rfl, by simpa using HB0.out, (Below.refl _ _).alloc (Nat.le_refl _) _⟩
  clear hmk HB0
  case round =>
    obtain ⟨i, hi, rfl, hA, hB⟩ := hrel
    have HA := Lib.hid hA
    have HB := Lib.hid hB
    clear hA hB
    by_cases hlt : i < n
    · have hc := HA.out.cell i (.int .u8 0) (by rw [List.getElem?_append_right (by simp), List.length_replicate, Nat.sub_self, List.getElem?_replicate_of_lt (by omega)])
      have hf := HA.out.frozen i
      go_wp2
      go_roundw
      case rel =>
        refine ⟨i + 1, by omega, by go_num, ?_, HB.out.setCell (p := ⟨_, _, none⟩) (by simp) _⟩
        have h := HA.out.setCell i (.int .u8 97)
        rw [rep_set n i _ _ hlt] at h
        exact h
      case measure => simp [intOf]; omega
    · obtain rfl : i = n := by omega
      have hR : Room wr w.heap.size 5 i ((List.replicate i (97 : UInt8)).map bv) := by
        refine ⟨by unfold maxLen; omega, [], ?_, by simp⟩
        have h := HA.out
        rw [Nat.sub_self] at h
        rw [List.map_replicate]
        exact h
      have HR := Lib.hid hR
      clear hR
      have q2 := Q2.out
      have q3 := Q3.out
      go_wp2_with fail
      refine (works_any _).mono ?_
      rintro e w1 ⟨rfl, b1⟩
      have B1 := Lib.hid b1
      clear b1
      go_wp2_with fail
      refine (S2.out _).mono ?_
      rintro e w2 ⟨rfl, b2⟩
      have B2 := Lib.hid b2
      clear b2
      go_wp2_with fail
      refine (hex2_any _).mono ?_
      rintro e w3 ⟨rfl, b3⟩
      have hb3 : Below wr.heap.size wr w3 := B1.out.trans ((B2.out.trans (b3.mono B2.out.size)).mono B1.out.size)
      have hcv := conv_room (P := Try.prog) 27 9 5 (List.replicate i 97) (HR.out.below hb3 HA.out.lt) Try.underlying27 Try.underlying5 Try.underlying9 i (by simp)
      have B3 := Lib.hid hb3
      clear b3 hb3
      go_wp2_with fail
      refine (S3.out _).mono ?_
      rintro e w4 ⟨rfl, b4⟩
      have B4 := Lib.hid b4
      clear b4 hcv
      go_wp2_with fail
      refine (H3.out _).mono ?_
      rintro e w5 ⟨rfl, b5⟩
      have hb5 : Below w.heap.size w w5 := HB.out.trans ((B3.out.trans ((B4.out.trans (b5.mono B4.out.size)).mono B3.out.size)).mono HB.out.size)
      have B5 := Lib.hid hb5
      clear b5 hb5
      go_wp2
      go_ret
      exact ⟨rfl, B5.out⟩
end Go.Proofs.Ytkonpljefmkhbaa
