import Derived.Test.YtdpeblchndfdaaaW1
namespace Go.Proofs.Ytdpeblchndfdaaa
open Go.RowKit
set_option maxRecDepth 100000

theorem Try.info5 : (Try.prog.info? 5).map (fun i => (i.zero, i.size, i.bytes)) = some (some (.int .u8 0), 1, 1) := by kernel_rfl

theorem and127 (n : Nat) (hn : n < Plain.big) : bits .and .u64 (n : Int) 127 = ((n % 128 : Nat) : Int) := by
  have hb : Plain.big = 18446744073709551616 := rfl
  rw [show (127 : Int) = ((127 : Nat) : Int) from rfl, u64_and_nat _ _ (by omega) (by omega)]
  rw [show (127 : Nat) = 2 ^ 7 - 1 from rfl, Nat.and_two_pow_sub_one_eq_mod]

/-- the ten places: k of them not yet written, then digits -/
def ten (k : Nat) (ds : List UInt8) : List Value := List.replicate k (.int .u8 0) ++ ds.map bv

theorem ten_set (k : Nat) (ds : List UInt8) (c : UInt8) : (ten (k + 1) ds).set k (bv c) = ten k (c :: ds) := by
  unfold ten
  rw [List.replicate_succ', List.append_assoc, List.set_append_right _ _ (by simp)]
  simp

theorem ten_get (k : Nat) (ds : List UInt8) : (ten (k + 1) ds)[k]? = some (.int .u8 0) := by
  unfold ten
  rw [List.getElem?_append_left (by simp)]
  simp

theorem sl_ten (B k : Nat) (hk : k ≤ 9) (W : World) : (Instr.sliceAt 107 (.pointer (some ⟨B, 0, none⟩)) (some (.int .i64 (k : Int))) none none).run Try.prog W = .ok (.slice (some ⟨B, k, none⟩) (10 - k) (10 - k)) W := by
  obtain ⟨i5, hi5, hz0, hz1, hz2⟩ := info_parts Try.info5
  have hw : IntKind.i64.wrap (k : Int) = k := by rw [IntKind.wrap_i64]; omega
  have h1 : (0 : Int) ≤ k ∧ (k : Int) ≤ 10 := by omega
  by_cases h0 : k = 0
  · subst h0
    simp [Instr.sliceAt, run_underlying Try.underlying107, Instr.sureAddr, Instr.sliceBounds, Instr.sliceBound, asIntOf, sizeOf, typeInfo, hi5, hz1, Addr.add]
  · have h10 : k ≠ 10 := by omega
    simp [Instr.sliceAt, run_underlying Try.underlying107, Instr.sureAddr, Instr.sliceBounds, Instr.sliceBound, asIntOf, sizeOf, typeInfo, hi5, hz1, Addr.add, h0, h1, hw]
    rw [if_pos (by omega), if_neg (by omega)]

theorem copy_ten (w : World) (B k : Nat) (ds : List UInt8) (hl : ds.length = 10 - k) (h : At w B 107 (ten k ds)) :
    (Builtin.copy_ #[37, 37] 3 #[.slice (some ⟨w.heap.size, 0, none⟩) (10 - k) (10 - k), .slice (some ⟨B, k, none⟩) (10 - k) (10 - k)]).run Try.prog (w.alloc (.cells (madeCells #[.int .u8 0] (10 - k)) 5)) =
      .ok (.int .i64 ((10 - k : Nat) : Int)) ((w.alloc (.cells (madeCells #[.int .u8 0] (10 - k)) 5)).setRow w.heap.size (ds.map bv).toArray) := by
  have h' := h.alloc (.cells (madeCells #[.int .u8 0] (10 - k)) 5)
  have := run_copy_row (P := Try.prog) (w.alloc (.cells (madeCells #[.int .u8 0] (10 - k)) 5)) 37 37 3 5 w.heap.size 0 (10 - k) (10 - k) ⟨B, k, none⟩ (10 - k) (10 - k) (madeCells #[.int .u8 0] (10 - k)) 5 (ds.map bv)
    Try.underlying37 (by kernel_rfl) (MapKept.heap_alloc w _).1 (by simp [hl]) (by
      intro j v hv
      have e : (⟨B, k, none⟩ : Addr).add j = ⟨B, k + j, none⟩ := by
        unfold Addr.add
        split
        · rename_i h0; simp [h0]
        · rfl
      rw [e]
      apply h'.cell
      unfold ten
      rw [List.getElem?_append_right (by simp)]
      simpa using hv) (by simp [size_madeCells, hl]) (bv_one ds)
  rw [this]
  have e : ((madeCells #[.int .u8 0] (10 - k)).toList.take 0 ++ ds.map bv ++ (madeCells #[.int .u8 0] (10 - k)).toList.drop (0 + (ds.map bv).length)) = ds.map bv := by
    rw [List.drop_of_length_le (by simp [size_madeCells, hl])]; simp
  rw [e]
  simp [goInt, hl]

theorem conv_ten (w : World) (B k : Nat) (ds : List UInt8) (hl : ds.length = 10 - k) :
    (convert 37 9 (.slice (some ⟨w.heap.size, 0, none⟩) (10 - k) (10 - k))).run Try.prog ((w.alloc (.cells (madeCells #[.int .u8 0] (10 - k)) 5)).setRow w.heap.size (ds.map bv).toArray) =
      .ok (.string (bs ds)) ((w.alloc (.cells (madeCells #[.int .u8 0] (10 - k)) 5)).setRow w.heap.size (ds.map bv).toArray) := by
  have h := (At.new w (madeCells #[.int .u8 0] (10 - k)) 5).setRow (ds.map bv).toArray
  rw [← hl]
  refine run_convert_bytes_back _ 37 9 5 ⟨w.heap.size, 0, none⟩ _ ds Try.underlying37 Try.underlying5 Try.underlying9 ?_
  intro j hj
  have e : (⟨w.heap.size, 0, none⟩ : Addr).add j = ⟨w.heap.size, j, none⟩ := by
    unfold Addr.add
    split
    · rename_i h0; simp [h0]
    · simp
  rw [e]
  rw [← hl] at h
  apply h.cell
  simp [bv, hj]

set_option maxHeartbeats 400000 in
theorem putNum_any (s : ByteArray) (n : Nat) (w : World) (hs : s.size ≤ 4611686018427387904) (hn : n < Plain.big) :
    Calls Try.prog 78 #[.string s, .int .u64 n] w fun e w' => e = .returned (.string (s ++ bs (Plain.row n))) ∧ Below w.heap.size w w' := by
  have ha := and127 n hn
  go_enter Try.func78, Try.ntmps78
  go_wp2
  clear ha
  have H0 : ten 9 [UInt8.ofNat (n % 128)] = [.int .u8 0, .int .u8 0, .int .u8 0, .int .u8 0, .int .u8 0, .int .u8 0, .int .u8 0, .int .u8 0, .int .u8 0, .int .u8 ((n : Int) % 128)] := by
    have e : ((UInt8.ofNat (n % 128)).toNat : Int) = (n : Int) % 128 := by rw [Plain.toNat_of (by omega)]; omega
    unfold ten
    simp only [List.map_cons, List.map_nil, bv, e]
    rfl
  have H1 := Lib.hid H0
  clear H0
  go_loopw [1, 6] (fun n' i wr => ∃ (k : Nat) (m : Nat) (ds : List UInt8), i = .int .i64 k ∧ n' = .int .u64 m ∧ k + ds.length = 10 ∧ k ≤ 9 ∧ m < Plain.big ∧ Plain.hi m ++ ds = Plain.row n ∧ At wr w.heap.size 107 (ten k ds) ∧ Below w.heap.size w wr) (fun i _ _ => (intOf i).toNat)
  case atStart =>
    refine ⟨9, n / 128, [UInt8.ofNat (n % 128)], rfl, by go_num, rfl, by omega, by omega, rfl, ?_, (Below.refl _ _).alloc (Nat.le_refl _) _⟩
    rw [H1.out]
    exact At.new w _ _
  case round =>
    obtain ⟨k, m, ds, rfl, rfl, hk, hk9, hm, hds, hat, hbe⟩ := hrel
    have hlen : (Plain.hi m).length + ds.length ≤ 10 := by
      have := Plain.row_length_le n hn
      rw [← hds] at this
      simpa using this
    by_cases h0 : m = 0
    · subst h0
      obtain ⟨i5, hi5, hz0, hz1, hz2⟩ := info_parts Try.info5
      have hmk : ∀ W : World, (Instr.makeSlice 37 (.int .i64 (10 - (k : Int))) (.int .i64 (10 - (k : Int)))).run Try.prog W = .ok (.slice (some ⟨W.heap.size, 0, none⟩) (10 - k) (10 - k)) (W.alloc (.cells (madeCells #[.int .u8 0] (10 - k)) 5)) := by
        intro W
        have := run_make (P := Try.prog) W 37 5 i5 (.int .u8 0) Try.underlying37 hi5 hz0 .i64 .i64 (10 - (k : Int)) (10 - (k : Int)) (by omega) (by omega) (by rw [hz2]; omega) (by omega)
        rw [this, hz1, show (10 - (k : Int)).toNat = 10 - k by omega, Nat.mul_one]
        rfl
      have hds' : ds = Plain.row n := by rw [Plain.hi_zero] at hds; simpa using hds
      have hln : ds.length = 10 - k := by omega
      have hsl : ∀ W : World, (Instr.sliceAt 107 (.pointer (some ⟨w.heap.size, 0, none⟩)) (some (.int .i64 (k : Int))) none none).run Try.prog W = .ok (.slice (some ⟨w.heap.size, k, none⟩) (10 - k) (10 - k)) W := sl_ten w.heap.size k hk9
      have hcp := copy_ten wr w.heap.size k ds hln hat
      have hcv := conv_ten wr w.heap.size k ds hln
      have hbe' : Below w.heap.size w ((wr.alloc (.cells (madeCells #[.int .u8 0] (10 - k)) 5)).setRow wr.heap.size (ds.map bv).toArray) :=
        below_setRow' (hbe.alloc hbe.size _) _ hbe.size _
      have hsz : s.size + (bs ds).size ≤ 9223372036854775807 := by rw [bs_size]; omega
      have HD := Lib.hid hds'
      have HB := Lib.hid hbe'
      clear hds hds' hat hln hbe hbe'
      go_wp2
      go_ret
      refine ⟨?_, HB.out⟩
      rw [← HD.out]; rfl
    · obtain ⟨j, rfl⟩ : ∃ j, k = j + 1 := by
        refine ⟨k - 1, ?_⟩
        have : (Plain.hi m).length ≠ 0 := by rw [Plain.hi_pos h0]; simp
        omega
      have hc := hat.cell j _ (ten_get j ds)
      have hf := hat.frozen j
      have ha := and127 m hm
      have hm0 : (0 : Int) < m := by omega
      have hw := hat.setCell j (bv (UInt8.ofNat (m % 128 + 128)))
      rw [ten_set] at hw
      have e : bv (UInt8.ofNat (m % 128 + 128)) = .int .u8 ((m : Int) % 128 + 128) := by
        unfold bv; rw [Plain.toNat_of (by omega)]; congr 1
      rw [e] at hw
      have hd2 : Plain.hi (m / 128) ++ UInt8.ofNat (m % 128 + 128) :: ds = Plain.row n := by
        rw [← hds, Plain.hi_pos h0]; simp
      have HD := Lib.hid hd2
      have HA := Lib.hid hw
      clear hds hat h0 hd2 hw e
      go_wp2
      go_roundw
      case rel =>
        exact ⟨j, m / 128, UInt8.ofNat (m % 128 + 128) :: ds, rfl, by go_num, by simp; omega, by omega, by omega, HD.out, HA.out, hbe.setCell (Nat.le_refl _) _⟩
      case measure => simp [intOf]; omega

set_option maxHeartbeats 400000 in
theorem putText_any (s t : ByteArray) (w : World) (hs : s.size ≤ 1152921504606846976) (ht : t.size ≤ 1152921504606846976) :
    Calls Try.prog 47 #[.string s, .string t] w fun e w' => e = .returned (.string (s ++ bs (Plain.row t.size) ++ t)) ∧ Below w.heap.size w w' := by
  have hb : t.size < Plain.big := by unfold Plain.big; omega
  have h10 := Plain.row_length_le t.size hb
  have hz : (bs (Plain.row t.size)).size ≤ 10 := by rw [bs_size]; exact h10
  have he : (⟨#[]⟩ : ByteArray) ++ bs (Plain.row t.size) = bs (Plain.row t.size) := by rw [bs_cons]; rfl
  have HE := Lib.hid he
  clear he h10
  go_enter Try.func47, Try.ntmps47
  go_wp2_with fail
  refine (putNum_any _ _ _ (by decide) hb).mono ?_
  rintro e w1 ⟨rfl, hb1⟩
  rw [HE.out]
  have hz2 : (s ++ bs (Plain.row t.size)).size ≤ s.size + 10 := by rw [ByteArray.size_append]; omega
  go_wp2
  go_ret
  exact ⟨rfl, hb1⟩

set_option maxHeartbeats 400000 in
theorem newReader_any (s : ByteArray) (w : World) :
    Calls Try.prog 52 #[.string s] w fun e w' => e = .returned (.pointer (some ⟨w.heap.size, 0, none⟩)) ∧ w' = w.alloc (.cells #[.string s, .bool false] 91) := by
  go_enter Try.func52, Try.ntmps52
  go_wp2
  go_ret
  exact ⟨rfl, rfl⟩

set_option maxHeartbeats 400000 in
theorem ok_any (b : Nat) (s : ByteArray) (lost : Bool) (w : World) (h : At w b 91 [.string s, .bool lost]) :
    Calls Try.prog 57 #[.pointer (some ⟨b, 0, none⟩)] w fun e w' => e = .returned (.bool !lost) ∧ w' = w := by
  have h1 := h.cell 1 _ rfl
  go_enter Try.func57, Try.ntmps57
  go_wp2
  go_ret
  exact ⟨rfl, rfl⟩

set_option maxHeartbeats 400000 in
theorem ok_nil (w : World) :
    Calls Try.prog 57 #[.pointer none] w fun e w' => e = .returned (.bool false) ∧ w' = w := by
  go_enter Try.func57, Try.ntmps57
  go_wp2
  go_ret
  exact ⟨rfl, rfl⟩

set_option maxHeartbeats 400000 in
theorem end_any (b : Nat) (s : ByteArray) (lost : Bool) (w : World) (h : At w b 91 [.string s, .bool lost]) :
    Calls Try.prog 33 #[.pointer (some ⟨b, 0, none⟩)] w fun e w' => e = .returned (.bool (!lost && s.toList.isEmpty)) ∧ w' = w := by
  have h0 := h.cell 0 _ rfl
  cases lost
  all_goals
    go_enter Try.func33, Try.ntmps33
    go_wp2_with fail
    refine (ok_any b s _ _ h).mono ?_
    rintro e w1 ⟨rfl, rfl⟩
    go_wp2
    go_ret
    exact ⟨rfl, rfl⟩

set_option maxHeartbeats 400000 in
theorem end_nil (w : World) :
    Calls Try.prog 33 #[.pointer none] w fun e w' => e = .returned (.bool false) ∧ w' = w := by
  go_enter Try.func33, Try.ntmps33
  go_wp2_with fail
  refine (ok_nil _).mono ?_
  rintro e w1 ⟨rfl, rfl⟩
  go_wp2
  go_ret
  exact ⟨rfl, rfl⟩
end Go.Proofs.Ytdpeblchndfdaaa
