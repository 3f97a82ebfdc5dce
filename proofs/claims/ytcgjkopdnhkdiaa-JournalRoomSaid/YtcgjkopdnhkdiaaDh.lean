/- The walks of Write. -/
import Derived.Test.YtcgjkopdnhkdiaaDg
import Derived.Test.YtcgjkopdnhkdiaaDn
import Derived.Lib.BufferWrite
namespace Go.Proofs.Ytcgjkopdnhkdiaa
open Go.RowKit
set_option maxRecDepth 100000

/-- s, and noughts behind it -/
def pad (l : List UInt8) : List UInt8 := l ++ List.replicate (128 - l.length) 0
theorem pad_len (l : List UInt8) (h : l.length ≤ 128) : (pad l).length = 128 := by unfold pad; rw [List.length_append, List.length_replicate]; omega
theorem build_write {o : Oper} {a : Act} {w : World} (x : Operand) (ho : o.op = .build 78 #[(0, x)]) (k : Nat) (hx : a.eval x = .int .i64 (k : Int)) (z : Nat × List UInt8) (hzz : z = (k, List.replicate 128 (0 : UInt8))) :
    (execOp a.eval o).run Try.prog w = .ok (.value (.agg (wcell z).toArray)) w := by
  have hz := zero_write w
  have e : zw.setIfInBounds 0 (.int .i64 (k : Int)) = (wcell z).toArray := by
    rw [hzz]
    unfold zw wcell
    rw [List.setIfInBounds_toArray, List.set_cons_zero]
  have h0 : zw ≠ #[] := fun h => by have := zw_len; rw [h] at this; cases this
  clear hzz
  unfold execOp
  simp only [ho, List.map_toArray, List.map_cons, List.map_nil, hx]
  simp [go_sem, hz, h0, e]
theorem info_write3 : (Try.prog.info? 78).map (fun i => (i.zero, i.size, i.bytes)) = some (some (.agg zw), 129, 136) := by kernel_rfl
theorem copy_cells (k : Nat) (l : List UInt8) (h : l.length ≤ 128) : (wcell (k, List.replicate 128 0)).take 1 ++ Lib.byteCells l ++ (wcell (k, List.replicate 128 0)).drop (1 + l.length) = wcell (k, pad l) := by
  unfold wcell pad
  rw [List.take_succ_cons, List.take_zero, Nat.add_comm, List.drop_succ_cons, ← List.map_drop, List.drop_replicate, List.map_append]
  rfl
section
variable {w : World} {D F N : Nat} {ao : Option Addr} {cap n : Nat} {s : Dk}
def Dk.put (s : Dk) (k : Nat) (l : List UInt8) : Dk := { s with ws := s.ws ++ [(k, pad l)] }
theorem put_done {w6 : World} {ao' : Option Addr} {cap' k : Nat} {l : List UInt8} (ok : s.Ok n) (hdf : D ≠ F) (hdn : D ≠ N) (hne : F ≠ N) (hk : k < n) (hl : l.length ≤ 128)
    (d6 : At w6 D 68 [.slice (some ⟨F, 0, none⟩) n n, .slice (some ⟨N, 0, none⟩) n n, .slice ao s.ws.length cap, .bool s.off, .int .i64 s.fuse, .int .u64 (s.ops : Int)])
    (f6 : At w6 F 74 (vals s.fl)) (n6 : At w6 N 74 (vals (s.nw.set k (pad l)))) (o6 : Own w6 78 129 ao' (s.ws.length + 1) cap' (wcells s.ws ++ wcell (k, pad l))) :
    DiskAt (w6.setCell ⟨D, 2, none⟩ (.slice ao' (s.ws.length + 1) cap')) D F N ao' cap' n (s.put k l) := by
  have hwl2 : (s.put k l).ws.length = s.ws.length + 1 := by simp [Dk.put]
  have hnw : (s.put k l).nw = s.nw.set k (pad l) := putAll_snoc s.fl s.ws (k, pad l)
  have hwc : wcells (s.put k l).ws = wcells s.ws ++ wcell (k, pad l) := by simp [Dk.put, wcells]
  have hT : Touch [D] w6 (w6.setCell ⟨D, 2, none⟩ (.slice ao' (s.ws.length + 1) cap')) := (Touch.refl _ _).setCell _ _ (.inl (by simp))
  have hDa : D ∉ blk ao' := o6.type d6 (by decide)
  have hok : (s.put k l).Ok n := ⟨ok.n1, ok.n2, ok.fl, ok.f128, fun x hx => by
    simp only [Dk.put, List.mem_append, List.mem_singleton] at hx
    rcases hx with hx | rfl
    · exact ok.ws x hx
    · exact ⟨hk, pad_len l hl⟩, ok.f1, ok.f2⟩
  refine ⟨?_, f6.touch hT (by simp [hdf.symm]), by rw [hnw]; exact n6.touch hT (by simp [hdn.symm]), ?_, hne, hok⟩
  · rw [hwl2]
    exact d6.setCell 2 _
  · rw [hwl2, hwc]
    exact o6.touch hT (fun i hi => by simp; rintro rfl; exact hDa hi)
set_option maxRecDepth 100000 in
set_option maxHeartbeats 4000000 in
theorem write1_any (h : DiskAt w D F N ao cap n s) (A B C TA TB TC : Nat) (k : Nat) (l : List UInt8) (hk : k < n) (hl : l.length ≤ 128) (hA : At w A TA [.int .i64 (k : Int)]) (hB : At w B TB [.string (bs l)]) (hC : At w C TC [.pointer (some ⟨D, 0, none⟩)])
    (hAf : A ∉ foot D F N ao) (hBf : B ∉ foot D F N ao) (hCf : C ∉ foot D F N ao) (hws : s.ws.length ≤ 1000000) :
    Calls Try.prog 46 #[.pointer (some ⟨A, 0, none⟩), .pointer (some ⟨B, 0, none⟩), .pointer (some ⟨C, 0, none⟩)] w fun e w' => e = .returned (.tuple #[]) ∧ ∃ ao' cap', DiskAt w' D F N ao' cap' n (s.put k l) ∧ Touch (foot D F N ao) w w' ∧ ∀ i, i ∈ blk ao' → i ∈ blk ao ∨ w.heap.size ≤ i := by
  have ca := hA.cell 0 _ rfl
  have H := Lib.hid h
  have HA := Lib.hid hA
  have HB := Lib.hid hB
  have HC := Lib.hid hC
  clear h hA hB hC
  go_enter Try.func46, Try.ntmps46
  obtain ⟨z, hz⟩ : ∃ z, z = (k, List.replicate 128 (0 : UInt8)) := ⟨_, rfl⟩
  have hz2 : z.2.length = 128 := by rw [hz]; simp
  have hwl := wcell_len z hz2
  obtain ⟨a2, t2⟩ := fill_new w zw 78 (wcell z) (by rw [zw_len, hwl])
  have hth := (At.new w zw 78).there 0 129 (by rw [zw_len]; omega)
  have hone := all_oneCell_toArray (wcell_one z)
  have hsz : (wcell z).toArray.size = 129 := by rw [List.size_toArray]; exact hwl
  have A2 := Lib.hid a2
  have T2 := Lib.hid t2
  have HW := Lib.hid hwl
  have HTH := Lib.hid hth
  have HN := Lib.hid hone
  have HZ := Lib.hid hsz
  have HE := Lib.hid hz
  clear a2 t2 hwl hth hone hsz hz hz2
  go_wp2_with (first | (with_reducible refine list_val rfl (v := .agg (wcell z).toArray) (build_write (.tmp 4) rfl k (by kernel_rfl) z HE.out) ?_) | (with_reducible refine alloc_agg rfl 78 rfl zw zero_write ?_) | (with_reducible refine wpList_store_mid rfl 78 (.tmp 3) (.tmp 5) rfl w.heap.size 0 (wcell z).toArray (by kernel_rfl) (by kernel_rfl) (by rw [HZ.out]; exact HTH.out) (by rw [HZ.out]; exact info_write) HN.out ?_))
  simp only [Act.put, List.setIfInBounds_toArray, List.set_cons_zero, List.set_cons_succ]
  generalize hb2 : w.heap.size = b2 at *
  generalize (w.alloc (.cells zw 78)).setCells b2 0 (wcell z) = w2 at *
  clear HTH HN ca
  have cb := (HB.out.touch T2.out (by simp)).cell 0 _ rfl
  refine wp_region_still_tail 3 (by kernel_rfl) (by kernel_rfl) ?_
  simp only [List.take_succ_cons, List.take_zero, List.drop_succ_cons, List.drop_zero]
  iterate 3 still_step
  refine wpStill_nil ?_
  change wpList _ _ _ _ _ w2.drew
  have hcp := Lib.run_copy_row_string (P := Try.prog) w2.drew 28 9 3 5 b2 1 128 128 (bs l) (wcell z).toArray 78 Try.underlying28 (by kernel_rfl) A2.out.drew (by rw [bs_size]; exact hl) (by rw [bs_size, HZ.out]; omega)
  have a3 := A2.out.drew.setRow ((wcell z).toArray.toList.take 1 ++ Lib.byteCells (bs l).data.toList ++ (wcell z).toArray.toList.drop (1 + (bs l).size)).toArray
  rw [List.toList_toArray, List.toList_toArray, data_bs, bs_size] at a3
  have e3 : (wcell z).take 1 ++ Lib.byteCells l ++ (wcell z).drop (1 + l.length) = wcell (k, pad l) := by rw [HE.out]; exact copy_cells k l hl
  rw [List.toList_toArray, data_bs, bs_size, e3] at hcp
  rw [e3] at a3
  have t3 : Touch [] w (w2.drew.setRow b2 (wcell (k, pad l)).toArray) := T2.out.drew.setRow _ _ (.inr (by omega))
  have A3 := Lib.hid a3
  have T3 := Lib.hid t3
  have HC3 := Lib.hid hcp
  clear a3 t3 hcp e3 cb
  go_wp2_with (with_reducible refine list_val rfl (run_copy_op (.tmp 7) (.tmp 8) 28 9 rfl _ _ (by kernel_rfl) (by kernel_rfl) HC3.out) ?_)
  have hpl : ((pad l).map bv).length = 128 := by rw [List.length_map, pad_len l hl]
  have HP := Lib.hid hpl
  generalize w2.drew.setRow b2 (wcell (k, pad l)).toArray = w3 at *
  have cw := T3.out.size
  have hlt := H.out.lt
  have alt := HA.out.lt
  have clt := HC.out.lt
  have ha3 := (HA.out.touch T3.out (by simp)).cell 0 _ rfl
  have hc3 := (HC.out.touch T3.out (by simp)).cell 0 _ rfl
  have H3 := Lib.hid (H.out.touch T3.out (by simp))
  have hd1 := H3.out.d.cell 1 _ rfl
  have hkn : (k : Int) < n := by omega
  have hx1 : w3.rangeAt b2 1 ((pad l).map bv) := by
    have := A3.out.range 1 128
    have e : seg (wcell (k, pad l)) 1 128 = (pad l).map bv := by
      unfold seg wcell
      rw [List.drop_succ_cons, List.drop_zero, List.take_of_length_le (by rw [List.length_map, pad_len l hl]; omega)]
    rwa [e] at this
  have HX := Lib.hid hx1
  clear hx1 hpl
  refine wp_region_still_tail 8 (by kernel_rfl) (by kernel_rfl) ?_
  simp only [List.take_succ_cons, List.take_zero, List.drop_succ_cons, List.drop_zero]
  iterate 6 still_step
  refine still_load rfl 74 (.tmp 15) rfl b2 1 (by kernel_rfl) ((pad l).map bv) _ HX.out Try.underlying74 rfl (by rw [HP.out]; exact info_sector) ?_
  still_step
  refine wpStill_nil ?_
  change wpList _ _ _ _ _ w3.drew
  have hth := H3.out.drew.v.there (k * 128) 128 (by rw [H3.out.vlen]; omega)
  have hone := all_oneCell_toArray (bv_one (pad l))
  have hsz2 : ((pad l).map bv).toArray.size = 128 := by rw [List.size_toArray]; exact HP.out
  have HZ2 := Lib.hid hsz2
  have HTH := Lib.hid hth
  have HN := Lib.hid hone
  have h4 := At.setCells ((pad l).map bv) (k * 128) _ _ H3.out.drew.v (by rw [H3.out.vlen, HP.out]; omega)
  rw [Nat.mul_comm, vals_splice _ H3.out.ok.n128 _ (by rw [H3.out.ok.nw]; exact hk) _ (pad_len l hl), Nat.mul_comm] at h4
  have t4 : Touch [N] w3 (w3.drew.setCells N (k * 128) ((pad l).map bv)) := Touch.setCells _ (.inl (by simp)) _ _ _ (Touch.refl _ _).drew
  have H4 := Lib.hid h4
  have T4 := Lib.hid t4
  clear hth hone hsz2 h4 t4 ha3 hc3 hd1
  go_wp2_with (with_reducible refine wpList_store_mid rfl 74 (.tmp 17) (.tmp 16) rfl N (k * 128) ((pad l).map bv).toArray (by kernel_rfl) (by kernel_rfl) (by rw [HZ2.out]; exact HTH.out) (by rw [HZ2.out]; exact info_sector) HN.out ?_)
  simp only [Act.put, List.setIfInBounds_toArray, List.set_cons_zero, List.set_cons_succ]
  have hz3 := T3.out.size
  generalize w3.drew.setCells N (k * 128) ((pad l).map bv) = w4 at *
  have hz4 := T4.out.size
  have hDlt := hlt D (by simp [foot])
  have hFlt := hlt F (by simp [foot])
  have hNlt := hlt N (by simp [foot])
  have hnb : b2 ∉ [N] := by simp; omega
  have a4 := A3.out.touch T4.out hnb
  have c4 := (HC.out.touch T3.out (by simp)).touch T4.out (by simp; rintro rfl; exact hCf (by simp [foot]))
  have d4 := H3.out.d.touch T4.out (by simp [H3.out.dn])
  have f4 := H3.out.f.touch T4.out (by simp [H3.out.ne])
  have o4 := H3.out.w.touch T4.out (fun i hi => by have := H3.out.na; simp; rintro rfl; exact this hi)
  clear HTH HN
  refine region_any (fun W => W.cell? ⟨C, 0, none⟩ = some (.pointer (some ⟨D, 0, none⟩)) ∧ W.cell? ⟨D, 2, none⟩ = some (.slice ao s.ws.length cap) ∧ W.rangeAt b2 0 (wcell (k, pad l))) 10 (by kernel_rfl) ?_
  have S0 : (w4.drew).cell? ⟨C, 0, none⟩ = some (.pointer (some ⟨D, 0, none⟩)) ∧ (w4.drew).cell? ⟨D, 2, none⟩ = some (.slice ao s.ws.length cap) ∧ (w4.drew).rangeAt b2 0 (wcell (k, pad l)) := ⟨c4.drew.cell 0 _ rfl, d4.drew.cell 2 _ rfl, a4.drew.range0⟩
  have hpl2 : (pad l).length = 128 := pad_len l hl
  refine wpAnyT_take (i := 0) rfl rfl (by kernel_rfl) (by kernel_rfl) (by kernel_rfl) (by kernel_rfl) (fun _ _ _ h => h) (.inl ⟨by kernel_rfl, fun W hS => run_load_one 23 (.tmp 2) rfl ⟨C, 0, none⟩ (by kernel_rfl) _ hS.1 _ Try.underlying23 rfl⟩) S0 ?_
  refine wpAnyT_take (i := 1) rfl rfl (by kernel_rfl) (by kernel_rfl) (by kernel_rfl) (by kernel_rfl) (fun _ _ _ h => h) (.inl ⟨by kernel_rfl, fun W hS => run_load_one 23 (.tmp 2) rfl ⟨C, 0, none⟩ (by kernel_rfl) _ hS.1 _ Try.underlying23 rfl⟩) S0 ?_
  refine wpAnyT_take (i := 2) rfl rfl (by kernel_rfl) (by kernel_rfl) (by kernel_rfl) (by kernel_rfl) (fun _ _ _ h => h) (.inl ⟨by kernel_rfl, fun W _ => rfl⟩) S0 ?_
  refine wpAnyT_take (i := 3) rfl rfl (by kernel_rfl) (by kernel_rfl) (by kernel_rfl) (by kernel_rfl) (fun _ _ _ h => h) (.inl ⟨by kernel_rfl, fun W _ => rfl⟩) S0 ?_
  have hwl := wcell_len (k, pad l) hpl2
  have hcs : (wcell (k, pad l)).toArray.size = 129 := by rw [List.size_toArray]; exact hwl
  obtain ⟨iw, hiw, hz0, hz1, hz2⟩ := info_parts info_write3
  refine wpAnyT_take (i := 4) rfl rfl (by kernel_rfl) (by kernel_rfl) (by kernel_rfl) (by kernel_rfl) (fun _ _ _ h => h) (.inl ⟨by kernel_rfl, fun W hS => run_load_one 66 (.tmp 21) rfl ⟨D, 2, none⟩ (by kernel_rfl) _ hS.2.1 _ Try.underlying66 rfl⟩) S0 ?_
  refine wpAnyT_take (i := 5) rfl rfl (by kernel_rfl) (by kernel_rfl) (by kernel_rfl) (by kernel_rfl) (fun _ _ _ h => h) (.inl ⟨by kernel_rfl, fun W hS => run_load_op 78 (.tmp 3) rfl b2 0 (by kernel_rfl) (wcell (k, pad l)) _ hS.2.2 Try.underlying78 rfl (by rw [hwl]; exact info_write)⟩) S0 ?_
  refine wpAnyT_all (rs := [6]) (by kernel_rfl) (by simp) ?_
  intro i hi
  obtain rfl : i = 6 := by simpa using hi
  refine wpOp_val rfl (by kernel_rfl) (run_build_op 66 (.tmp 23) rfl (.agg (wcell (k, pad l)).toArray) (by kernel_rfl) (build_one w4.drew 66 78 _ iw _ 129 Try.underlying66 hiw hz0 hz1 hcs (by omega) (by omega))) ⟨fun _ => ?_, ?_⟩
  · exact ⟨(c4.drew.alloc _).cell 0 _ rfl, (d4.drew.alloc _).cell 2 _ rfl, (a4.drew.alloc _).range0⟩
  have h5 := At.new w4.drew (wcell (k, pad l)).toArray 78
  have c5 := c4.drew.alloc (.cells (wcell (k, pad l)).toArray 78)
  have d5 := d4.drew.alloc (.cells (wcell (k, pad l)).toArray 78)
  have f5 := f4.drew.alloc (.cells (wcell (k, pad l)).toArray 78)
  have n5 := H4.out.drew.alloc (.cells (wcell (k, pad l)).toArray 78)
  have a5 := a4.drew.alloc (.cells (wcell (k, pad l)).toArray 78)
  have o5 := o4.touch ((Touch.refl [] w4).drew.alloc (.cells (wcell (k, pad l)).toArray 78)) (by simp)
  have T5 := Lib.hid ((Touch.refl (foot D F N ao) w4).drew.alloc (.cells (wcell (k, pad l)).toArray 78))
  have hz5 : (w4.drew.alloc (.cells (wcell (k, pad l)).toArray 78)).heap.size = w4.heap.size + 1 := by rw [World.size_alloc]; rfl
  have hb5 : w4.drew.heap.size = w4.heap.size := rfl
  rw [hb5] at h5
  generalize w4.drew.alloc (.cells (wcell (k, pad l)).toArray 78) = w5 at *
  obtain ⟨ao', cap', w6, hrun, o6, t6, hblk⟩ := run_append_any (P := Try.prog) w5 66 66 78 iw _ 129 136 Try.underlying66 hiw hz0 hz1 hz2 (by rw [← zw_len]; rfl) (by omega) ao s.ws.length cap _ o5 w4.heap.size 1 1 _ (by rw [List.toList_toArray] at h5; exact h5) hwl (wcell_one _) (by omega) (by unfold maxLen; omega) (by omega)
  refine wpAnyT_all (rs := [7]) (by kernel_rfl) (by simp) ?_
  intro i hi
  obtain rfl : i = 7 := by simpa using hi
  have hbo := H.out.w.lt
  have c6 := c5.touch t6 (fun hi => hCf (by simp [foot, hi]))
  have d6 := d5.touch t6 H3.out.da
  have f6 := f5.touch t6 H3.out.fa
  have n6 := n5.touch t6 H3.out.na
  have a6 := a5.touch t6 (fun hi => by have := hbo _ hi; omega)
  refine wpOp_val rfl (by kernel_rfl) (run_append_op (.tmp 22) (.tmp 24) 66 66 rfl (.slice ao s.ws.length cap) (.slice (some ⟨w4.heap.size, 0, none⟩) 1 1) (by kernel_rfl) (by kernel_rfl) hrun) ⟨fun _ => ?_, ?_⟩
  · exact ⟨c6.cell 0 _ rfl, d6.cell 2 _ rfl, a6.range0⟩
  refine wpAnyT_all (rs := [8]) (by kernel_rfl) (by simp) ?_
  intro i hi
  obtain rfl : i = 8 := by simpa using hi
  refine wpOp_val (w' := w6) (v := .pointer (some ⟨D, 0, none⟩)) rfl (by kernel_rfl) (by kernel_rfl) ⟨fun _ => ?_, ?_⟩
  · exact ⟨c6.cell 0 _ rfl, d6.cell 2 _ rfl, a6.range0⟩
  refine wpAnyT_all (rs := [9]) (by kernel_rfl) (by simp) ?_
  intro i hi
  obtain rfl : i = 9 := by simpa using hi
  refine wpOp_val (w' := w6) (v := .pointer (some ⟨D, 2, none⟩)) rfl (by kernel_rfl) (by kernel_rfl) ⟨fun _ => ?_, ?_⟩
  · exact ⟨c6.cell 0 _ rfl, d6.cell 2 _ rfl, a6.range0⟩
  refine wpAnyT_all (rs := [10]) (by kernel_rfl) (by simp) ?_
  intro i hi
  obtain rfl : i = 10 := by simpa using hi
  refine wpOp_skip rfl (by kernel_rfl) (run_store_slice 66 78 (.tmp 27) (.tmp 25) rfl D 2 (by kernel_rfl) ao' (s.ws.length + 1) cap' (by kernel_rfl) _ (d6.cell 2 _ rfl) (d6.frozen 2) Try.underlying66 (by kernel_rfl)) ⟨fun h => absurd rfl h, wpAnyT_done (by kernel_rfl) ?_ _⟩
  go_end0
  have T6 : Touch (foot D F N ao) w w6 := (((T3.out.mono (by simp)).step T4.out (by simp [foot])).step T5.out (fun i hi => .inl hi)).step t6 (fun i hi => .inl (by simp [foot, hi]))
  have hao' : ∀ i, i ∈ blk ao' → i ∈ blk ao ∨ w.heap.size ≤ i := fun i hi => by
    rcases hblk with h | ⟨g, h, hg⟩
    · rw [h] at hi; exact .inl hi
    · rw [h] at hi; simp at hi; right; omega
  exact ⟨rfl, ao', cap', put_done H3.out.ok H3.out.df H3.out.dn H3.out.ne hk hl d6 f6 n6 o6, T6.setCell _ _ (.inl (by simp [foot])), hao'⟩
end
end Go.Proofs.Ytcgjkopdnhkdiaa
