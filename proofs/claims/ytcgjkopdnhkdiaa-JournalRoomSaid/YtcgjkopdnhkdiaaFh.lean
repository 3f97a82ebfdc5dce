/- The document's disk: the walk of New. -/
import Derived.Test.YtcgjkopdnhkdiaaFg
import Derived.Test.YtcgjkopdnhkdiaaDn
namespace Go.Proofs.Ytcgjkopdnhkdiaa
open Go.RowKit
set_option maxRecDepth 100000
section
variable {P : Program}
/-- a slice of one value of one cell -/
theorem build_cell (w : World) (t e : TypeId) (v : Value) (ie : TypeInfo) (z : Value) (hu : P.underlying t = some (.slice e)) (hie : P.info? e = some ie) (hz : ie.zero = some z) (hn : ie.size = 1) (hv : v.cells = #[v]) :
    (Instr.buildSlice t 1 #[(0, v)]).run P w = .ok (.slice (some ⟨w.heap.size, 0, none⟩) 1 1) (w.alloc (.cells #[v] e)) := by
  refine run_buildSlice w t e 1 #[(0, v)] #[v] ie z hu hie hz (by rw [hn]; omega) (by rw [hn]; omega) ?_
  have hsz : ((Array.range (1 * ie.size)).map (z.cells[· % z.cells.size]!)).size = 1 := by rw [Array.size_map, Array.size_range, hn]
  generalize (Array.range (1 * ie.size)).map (z.cells[· % z.cells.size]!) = Z at *
  obtain ⟨x, rfl⟩ : ∃ x, Z = #[x] := Array.size_eq_one_iff.1 hsz
  simp [Instr.fill, hv, hn]
end
theorem info9 : (Try.prog.info? 9).map (fun i => (i.zero, i.size, i.bytes)) = some (some (.string ⟨#[]⟩), 1, 16) := by kernel_rfl
theorem zero_ref : ∀ w, (zeroValue 43).run Try.prog w = .ok (.agg #[.slice none 0 0, .slice none 0 0, .bool false, .int .i64 0, .int .u64 0]) w := fun _ => by kernel_rfl
theorem enter_noughts : ∀ (args : Array Value) (w : World), (callFunc 38 args).run Try.prog w = .ok (.enter 38 args) w := enters_of Try.func38 (by kernel_rfl) rfl
/-- so many empty sectors -/
def nfl (i : Nat) : List (List UInt8) := List.replicate i (List.replicate 128 0)
def Dk.part (i : Nat) : Dk := ⟨nfl i, [], false, 0, 0⟩
theorem refNew_bad (n : Int) (w : World) (h : n < 1 ∨ 4096 < n) : Calls Try.prog 9 #[.int .i64 n] w fun e w' => e = .returned (.pointer none) ∧ w' = w := by
  rcases h with h | h
  · go_enter Try.func9, Try.ntmps9
    go_wp2
    go_ret
    exact ⟨rfl, rfl⟩
  · have h2 : 1 ≤ n := by omega
    go_enter Try.func9, Try.ntmps9
    go_wp2
    go_ret
    exact ⟨rfl, rfl⟩
set_option maxHeartbeats 2000000 in
theorem refNew_any (n : Nat) (w : World) (h1 : 1 ≤ n) (h2 : n ≤ 4096) : Calls Try.prog 9 #[.int .i64 (n : Int)] w fun e w' => ∃ D fo fc, e = .returned (.pointer (some ⟨D, 0, none⟩)) ∧ RefAt w' D fo fc none 0 n (Dk.fresh n) ∧ Below w.heap.size w w' ∧ ∀ i, i ∈ rfoot D fo none → w.heap.size ≤ i := by
  have hzd := zero_ref
  have i1 : 1 ≤ (n : Int) := by omega
  have i2 : (n : Int) ≤ 4096 := by omega
  obtain ⟨iw, hiw, hz0, hz1, hz2⟩ := info_parts info9
  have HI := Lib.hid (And.intro hiw (And.intro hz0 (And.intro hz1 hz2)))
  clear hiw hz0 hz1 hz2
  have h0 := At.new w #[.slice none 0 0, .slice none 0 0, .bool true, .int .i64 0, .int .u64 0] 43
  have hB := (Below.refl _ w).alloc (Nat.le_refl _) (.cells #[.slice none 0 0, .slice none 0 0, .bool true, .int .i64 0, .int .u64 0] 43)
  have H0 := Lib.hid h0
  have HB := Lib.hid hB
  clear h0 hB
  go_enter Try.func9, Try.ntmps9
  go_wp2
  go_loopw [4] (fun y wx => ∃ (i : Nat) (fo : Option Addr) (fc : Nat), i ≤ n ∧ y = .int .i64 i ∧ At wx w.heap.size 43 (heads fo fc none 0 (Dk.part i)) ∧ Own wx 9 1 fo i fc ((nfl i).map tv) ∧ Below w.heap.size w wx ∧ ∀ k, k ∈ blk fo → w.heap.size ≤ k) (fun y _ => n - (intOf y).toNat)
  case atStart => exact ⟨0, none, 0, by omega, rfl, H0.out, Own.nil _ _ _, HB.out, by simp [blk]⟩
  clear H0 HB
  case round =>
    obtain ⟨i, fo, fc, hi, rfl, hd, ho, hb, hk⟩ := hrel
    have HD := Lib.hid hd
    have HO := Lib.hid ho
    have HB := Lib.hid hb
    have HK := Lib.hid hk
    clear hd ho hb hk
    by_cases hlt : i < n
    · have hlt' : (i : Int) < n := by omega
      go_wp2_with fail
      refine region_any (fun W => W.cell? ⟨w.heap.size, 0, none⟩ = some (.slice fo i fc)) 10 (by kernel_rfl) ?_
      have c0 : (heads fo fc none 0 (Dk.part i))[0]? = some (.slice fo i fc) := by unfold heads Dk.part nfl; rw [List.length_replicate]; rfl
      have S0 : (wr.drew).cell? ⟨w.heap.size, 0, none⟩ = some (.slice fo i fc) := HD.out.drew.cell 0 _ c0
      refine wpAnyT_take (i := 0) rfl rfl (by kernel_rfl) (by kernel_rfl) (by kernel_rfl) (by kernel_rfl) (fun _ _ _ h => h) (.inl ⟨by kernel_rfl, fun W _ => rfl⟩) S0 ?_
      refine wpAnyT_take (i := 1) rfl rfl (by kernel_rfl) (by kernel_rfl) (by kernel_rfl) (by kernel_rfl) (fun _ _ _ h => h) (.inl ⟨by kernel_rfl, fun W _ => rfl⟩) S0 ?_
      refine wpAnyT_take (i := 2) rfl rfl (by kernel_rfl) (by kernel_rfl) (by kernel_rfl) (by kernel_rfl) (fun _ _ _ h => h) (.inl ⟨by kernel_rfl, fun W _ => rfl⟩) S0 ?_
      refine wpAnyT_take (i := 3) rfl rfl (by kernel_rfl) (by kernel_rfl) (by kernel_rfl) (by kernel_rfl) (fun _ _ _ h => h) (.inl ⟨by kernel_rfl, fun W _ => rfl⟩) S0 ?_
      refine wpAnyT_take (i := 4) rfl rfl (by kernel_rfl) (by kernel_rfl) (by kernel_rfl) (by kernel_rfl) (fun _ _ _ h => h) (.inl ⟨by kernel_rfl, fun W hS => run_load_one 39 (.tmp 21) rfl ⟨w.heap.size, 0, none⟩ (by kernel_rfl) _ hS _ Try.underlying39 rfl⟩) S0 ?_
      refine wpAnyT_all (rs := [5]) (by kernel_rfl) (by simp) ?_
      intro q hq
      obtain rfl : q = 5 := by simpa using hq
      refine wpOp_call rfl (by kernel_rfl) 38 #[.int .i64 ((128 : Nat) : Int)] (run_call_func rfl enter_noughts _ (by kernel_rfl)) ((noughts_any 128 (by omega) _).mono ?_)
      rintro e w1 ⟨rfl, b1⟩
      have d1 := HD.out.drew.below b1 HD.out.lt
      have T1 := (Touch.refl (blk fo) wr).drew.step (Touch.of_below (ft := []) b1) (by simp)
      have o1 := HO.out.touch ((Touch.refl [] wr).drew.step (Touch.of_below (ft := []) b1) (by simp)) (by simp)
      refine ⟨_, rfl, fun _ => d1.cell 0 _ c0, ?_⟩
      refine wpAnyT_all (rs := [6]) (by kernel_rfl) (by simp) ?_
      intro q hq
      obtain rfl : q = 6 := by simpa using hq
      refine wpOp_val rfl (by kernel_rfl) (run_build_op 39 (.tmp 23) rfl (tv (List.replicate 128 0)) (by kernel_rfl) (build_cell w1 39 9 _ iw _ Try.underlying39 HI.out.1 HI.out.2.1 HI.out.2.2.1 rfl)) ⟨fun _ => (d1.alloc _).cell 0 _ c0, ?_⟩
      have d2 := d1.alloc (.cells #[tv (List.replicate 128 0)] 9)
      have a2 := At.new w1 #[tv (List.replicate 128 0)] 9
      have t2 : Touch [] wr (w1.alloc (.cells #[tv (List.replicate 128 0)] 9)) := ((Touch.refl [] wr).drew.step (Touch.of_below (ft := []) b1) (by simp)).alloc _
      have o2 := HO.out.touch t2 (by simp)
      have z2 : (w1.alloc (.cells #[tv (List.replicate 128 0)] 9)).heap.size = w1.heap.size + 1 := World.size_alloc _ _
      have z1 : wr.heap.size ≤ w1.heap.size := b1.size
      generalize w1.alloc (.cells #[tv (List.replicate 128 0)] 9) = w2 at *
      obtain ⟨ao', cap', w6, hrun, o6, t6, hblk⟩ := run_append_any (P := Try.prog) w2 39 39 9 iw _ 1 16 Try.underlying39 HI.out.1 HI.out.2.1 HI.out.2.2.1 HI.out.2.2.2 rfl (by omega) fo i fc _ o2 w1.heap.size 1 1 _ a2 rfl (by simp [tv, Value.oneCell']) (by omega) (by unfold maxLen; omega) (by omega)
      refine wpAnyT_all (rs := [7]) (by kernel_rfl) (by simp) ?_
      intro q hq
      obtain rfl : q = 7 := by simpa using hq
      have d6 := d2.touch t6 (HO.out.type HD.out (by decide))
      refine wpOp_val rfl (by kernel_rfl) (run_append_op (.tmp 22) (.tmp 24) 39 39 rfl (.slice fo i fc) (.slice (some ⟨w1.heap.size, 0, none⟩) 1 1) (by kernel_rfl) (by kernel_rfl) hrun) ⟨fun _ => d6.cell 0 _ c0, ?_⟩
      refine wpAnyT_all (rs := [8]) (by kernel_rfl) (by simp) ?_
      intro q hq
      obtain rfl : q = 8 := by simpa using hq
      refine wpOp_val (w' := w6) (v := .pointer (some ⟨w.heap.size, 0, none⟩)) rfl (by kernel_rfl) (by kernel_rfl) ⟨fun _ => d6.cell 0 _ c0, ?_⟩
      refine wpAnyT_all (rs := [9]) (by kernel_rfl) (by simp) ?_
      intro q hq
      obtain rfl : q = 9 := by simpa using hq
      refine wpOp_val (w' := w6) (v := .pointer (some ⟨w.heap.size, 0, none⟩)) rfl (by kernel_rfl) (by kernel_rfl) ⟨fun _ => d6.cell 0 _ c0, ?_⟩
      refine wpAnyT_all (rs := [10]) (by kernel_rfl) (by simp) ?_
      intro q hq
      obtain rfl : q = 10 := by simpa using hq
      refine wpOp_skip rfl (by kernel_rfl) (run_store_slice 39 9 (.tmp 27) (.tmp 25) rfl w.heap.size 0 (by kernel_rfl) ao' (i + 1) cap' (by kernel_rfl) _ (d6.cell 0 _ c0) (d6.frozen 0) Try.underlying39 (by kernel_rfl)) ⟨fun h => absurd rfl h, wpAnyT_done (by kernel_rfl) ?_ _⟩
      have hz := HB.out.size
      have hs : w.heap.size ∉ blk ao' := o6.type d6 (by decide)
      have hB6 := Below.setCell (Touch.below (Touch.below HB.out t2 (by simp) (Nat.le_refl _)) t6 (fun k hk => HK.out k hk) (Nat.le_refl _)) (p := ⟨w.heap.size, 0, none⟩) (Nat.le_refl _) (.slice ao' (i + 1) cap')
      have o7 : Own (w6.setCell ⟨w.heap.size, 0, none⟩ (.slice ao' (i + 1) cap')) 9 1 ao' (i + 1) cap' ((nfl (i + 1)).map tv) := by
        have := o6.touch ((Touch.refl [w.heap.size] w6).setCell ⟨w.heap.size, 0, none⟩ (.slice ao' (i + 1) cap') (.inl (by simp))) (fun k hk => by simp; rintro rfl; exact hs hk)
        have e : nfl (i + 1) = nfl i ++ [List.replicate 128 0] := List.replicate_succ'
        rw [e, List.map_append]
        exact this
      have d7 : At (w6.setCell ⟨w.heap.size, 0, none⟩ (.slice ao' (i + 1) cap')) w.heap.size 43 (heads ao' cap' none 0 (Dk.part (i + 1))) := by
        have := d6.setCell 0 (.slice ao' (i + 1) cap')
        have e : (heads fo fc none 0 (Dk.part i)).set 0 (.slice ao' (i + 1) cap') = heads ao' cap' none 0 (Dk.part (i + 1)) := by unfold heads Dk.part nfl; rw [List.length_replicate, List.length_replicate]; rfl
        rwa [e] at this
      have k7 : ∀ k, k ∈ blk ao' → w.heap.size ≤ k := fun k hk => by
        rcases hblk with h | ⟨g, h, hg⟩
        · rw [h] at hk; exact HK.out k hk
        · rw [h] at hk; simp at hk; omega
      go_wp2
      go_roundw
      case rel => exact ⟨i + 1, ao', cap', by omega, by go_num, d7, o7, hB6, k7⟩
      case measure => simp [intOf]; omega
    · obtain rfl : i = n := by omega
      go_wp2
      go_ret
      refine ⟨_, _, _, rfl, ⟨HD.out, ?_, Own.nil _ _ _, fresh_ok _ h1 h2⟩, HB.out, fun k hk => ?_⟩
      · have := HO.out
        unfold nfl at this
        unfold Dk.fresh blank
        rw [List.length_replicate]
        exact this
      · simp only [rfoot, blk, List.mem_cons, List.append_nil] at hk
        rcases hk with rfl | hk
        · exact Nat.le_refl _
        · exact HK.out k hk
end Go.Proofs.Ytcgjkopdnhkdiaa
