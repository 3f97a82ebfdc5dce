/- The walks of New and reads. -/
import Derived.Test.YtcgjkopdnhkdiaaDl
namespace Go.Proofs.Ytcgjkopdnhkdiaa
open Go.RowKit
set_option maxRecDepth 100000

theorem zero_disk : ∀ w, (zeroValue 68).run Try.prog w = .ok (.agg #[.slice none 0 0, .slice none 0 0, .slice none 0 0, .bool false, .int .i64 0, .int .u64 0]) w := fun _ => by kernel_rfl
theorem info_sector3 : (Try.prog.info? 74).map (fun i => (i.zero, i.size, i.bytes)) = some (some (.agg zs), 128, 128) := by kernel_rfl
def blank (n : Nat) : List (List UInt8) := List.replicate n (List.replicate 128 0)
def Dk.fresh (n : Nat) : Dk := ⟨blank n, [], false, 0, 0⟩
theorem rep_get (n : Nat) (v : Value) (hn : 0 < n) (j : Nat) : (List.replicate n v).toArray[j % (List.replicate n v).toArray.size]! = v := by
  have hz : (List.replicate n v).toArray.size = n := by rw [List.size_toArray, List.length_replicate]
  have hj : j % (List.replicate n v).toArray.size < (List.replicate n v).toArray.size := Nat.mod_lt _ (by omega)
  rw [getElem!_pos (List.replicate n v).toArray _ hj, List.getElem_toArray, List.getElem_replicate]
theorem zs_eq (n : Nat) : ((List.replicate n (0 : UInt8)).map bv).toArray = (List.replicate n (bv 0)).toArray := by rw [List.map_replicate]
theorem zs_get (j : Nat) : zs[j % zs.size]! = bv 0 := by
  have e : zs = (List.replicate 128 (bv 0)).toArray := zs_eq 128
  rw [e]
  exact rep_get 128 (bv 0) (by omega) j
theorem made_blank (n : Nat) : (madeCells zs (n * 128)).toList = vals (blank n) := by
  have h : vals (blank n) = List.replicate (n * 128) (bv 0) := by
    unfold vals blank
    rw [List.flatMap_replicate, List.map_replicate, List.flatten_replicate_replicate]
  rw [h]
  apply List.ext_getElem?
  intro j
  unfold madeCells
  by_cases hj : j < n * 128
  · rw [List.getElem?_replicate_of_lt hj]
    simp only [Array.toList_map, List.getElem?_map]
    rw [Array.getElem?_toList, Array.getElem?_range, if_pos hj]
    simp only [Option.map_some, zs_get]
  · rw [List.getElem?_eq_none (by simp; omega), List.getElem?_eq_none (by simp; omega)]
theorem fresh_ok (n : Nat) (h1 : 1 ≤ n) (h2 : n ≤ 4096) : (Dk.fresh n).Ok n :=
  ⟨h1, h2, by simp [Dk.fresh, blank], fun x hx => by
    have := List.eq_of_mem_replicate hx
    rw [this]; simp, by simp [Dk.fresh], by simp [Dk.fresh], by simp [Dk.fresh]⟩
theorem new_bad (n : Int) (w : World) (h : n < 1 ∨ 4096 < n) : Calls Try.prog 8 #[.int .i64 n] w fun e w' => e = .returned (.pointer none) ∧ w' = w := by
  rcases h with h | h
  · go_enter Try.func8, Try.ntmps8
    go_wp2
    go_ret
    exact ⟨rfl, rfl⟩
  · have h2 : 1 ≤ n := by omega
    go_enter Try.func8, Try.ntmps8
    go_wp2
    go_ret
    exact ⟨rfl, rfl⟩
/-- a disk newly made -/
def Made (w : World) (n : Nat) (e : Ending) (w' : World) : Prop := ∃ D F N, e = .returned (.pointer (some ⟨D, 0, none⟩)) ∧ DiskAt w' D F N none 0 n (Dk.fresh n) ∧ Below w.heap.size w w' ∧ w.heap.size ≤ D ∧ w.heap.size ≤ F ∧ w.heap.size ≤ N
theorem made_disk (w : World) (n : Nat) (h1 : 1 ≤ n) (h2 : n ≤ 4096) (F N : Nat) (hFN : (F = w.heap.size ∧ N = w.heap.size + 1) ∨ (F = w.heap.size + 1 ∧ N = w.heap.size)) (c : Array Value) (hc : c.toList = vals (blank n)) :
    DiskAt (((w.alloc (.cells c 74)).alloc (.cells c 74)).alloc (.cells #[.slice (some ⟨F, 0, none⟩) n n, .slice (some ⟨N, 0, none⟩) n n, .slice none 0 0, .bool false, .int .i64 0, .int .u64 0] 68)) (w.heap.size + 1 + 1) F N none 0 n (Dk.fresh n) ∧
    Below w.heap.size w (((w.alloc (.cells c 74)).alloc (.cells c 74)).alloc (.cells #[.slice (some ⟨F, 0, none⟩) n n, .slice (some ⟨N, 0, none⟩) n n, .slice none 0 0, .bool false, .int .i64 0, .int .u64 0] 68)) := by
  have a0 := ((At.new w c 74).alloc (.cells c 74)).alloc (.cells #[.slice (some ⟨F, 0, none⟩) n n, .slice (some ⟨N, 0, none⟩) n n, .slice none 0 0, .bool false, .int .i64 0, .int .u64 0] 68)
  have a1 := (At.new (w.alloc (.cells c 74)) c 74).alloc (.cells #[.slice (some ⟨F, 0, none⟩) n n, .slice (some ⟨N, 0, none⟩) n n, .slice none 0 0, .bool false, .int .i64 0, .int .u64 0] 68)
  have a2 := At.new ((w.alloc (.cells c 74)).alloc (.cells c 74)) #[.slice (some ⟨F, 0, none⟩) n n, .slice (some ⟨N, 0, none⟩) n n, .slice none 0 0, .bool false, .int .i64 0, .int .u64 0] 68
  rw [World.size_alloc] at a1
  rw [World.size_alloc, World.size_alloc] at a2
  rw [hc] at a0 a1
  refine ⟨?_, (((Below.refl _ w).alloc (Nat.le_refl _) _).alloc (by simp) _).alloc (by simp; omega) _⟩
  rcases hFN with ⟨rfl, rfl⟩ | ⟨rfl, rfl⟩
  · exact ⟨a2, a0, a1, Own.nil _ _ _, by omega, fresh_ok n h1 h2⟩
  · exact ⟨a2, a1, a0, Own.nil _ _ _, by omega, fresh_ok n h1 h2⟩
set_option maxHeartbeats 1000000 in
theorem new_any (n : Nat) (w : World) (h1 : 1 ≤ n) (h2 : n ≤ 4096) : Calls Try.prog 8 #[.int .i64 (n : Int)] w (Made w n) := by
  obtain ⟨iw, hiw, hz0, hz1, hz2⟩ := info_parts info_sector3
  have hmk : ∀ W : World, (Instr.makeSlice 65 (.int .i64 (n : Int)) (.int .i64 (n : Int))).run Try.prog W = .ok (.slice (some ⟨W.heap.size, 0, none⟩) n n) (W.alloc (.cells (madeCells zs (n * 128)) 74)) := fun W => by
    have := run_make_rowN (P := Try.prog) 65 74 iw _ Try.underlying65 hiw hz0 .i64 .i64 n n (Nat.le_refl _) (by rw [hz2]; omega) (by omega) W
    rw [hz1] at this
    exact this
  have hzd := zero_disk
  clear hiw hz0 hz1 hz2
  have i1 : 1 ≤ (n : Int) := by omega
  have i2 : (n : Int) ≤ 4096 := by omega
  go_enter Try.func8, Try.ntmps8
  go_wp2
  go_region
  · have hm := made_disk w n h1 h2 w.heap.size (w.heap.size + 1) (.inl ⟨rfl, rfl⟩) _ (made_blank n)
    have HM := Lib.hid hm
    clear hm
    go_wp2
    go_ret
    exact ⟨_, _, _, rfl, HM.out.1.drew, HM.out.2.drew, by omega, by omega, by omega⟩
  · have hm := made_disk w n h1 h2 (w.heap.size + 1) w.heap.size (.inr ⟨rfl, rfl⟩) _ (made_blank n)
    have HM := Lib.hid hm
    clear hm
    go_wp2
    go_ret
    exact ⟨_, _, _, rfl, HM.out.1.drew, HM.out.2.drew, by omega, by omega, by omega⟩
set_option maxHeartbeats 1000000 in
/-- reads: what is there is asked -/
theorem reads_ok {w : World} {D F N : Nat} {ao : Option Addr} {cap n : Nat} {s : Dk} (h : DiskAt w D F N ao cap n s) (k q : Nat) (a b : UInt8) (h1 : k < n) (hq : q ≤ 128) (ho : s.ops < 9223372036854775807) (hoff : s.tick.off = false) (hs : s.nw[k]? = some (List.replicate q a ++ List.replicate (128 - q) b)) :
    Calls Try.prog 39 #[.pointer (some ⟨D, 0, none⟩), .int .i64 (k : Int), .int .i64 (q : Int), .int .u8 (a.toNat : Int), .int .u8 (b.toNat : Int)] w fun e w' => e = .returned (.bool true) ∧ DiskAt w' D F N ao cap n s.tick ∧ Touch [D] w w' := by
  have H := Lib.hid h
  have HO := Lib.hid hoff
  have HS := Lib.hid hs
  clear h hoff hs
  go_enter Try.func39, Try.ntmps39
  go_wp2_with fail
  refine (read_ok H.out k h1 ho HO.out _ HS.out).mono ?_
  rintro e w1 ⟨rfl, h2, t2⟩
  have H2 := Lib.hid h2
  have T2 := Lib.hid t2
  clear h2 t2
  go_wp2_with fail
  refine (bytes_any (q : Int) a q (by omega) _).mono ?_
  rintro e w2 ⟨rfl, b2⟩
  have H3 := Lib.hid (H2.out.below b2)
  have T3 := Lib.hid (T2.out.step (Touch.of_below (ft := []) b2) (by simp))
  clear b2
  have e1 : IntKind.i64.wrap (128 - (q : Int)) = 128 - (q : Int) := by rw [IntKind.wrap_i64]; omega
  go_wp2_with fail
  refine (bytes_any (128 - (q : Int)) b (128 - q) (by omega) _).mono ?_
  rintro e w3 ⟨rfl, b3⟩
  have H4 := Lib.hid (H3.out.below b3)
  have T4 := Lib.hid (T3.out.step (Touch.of_below (ft := []) b3) (by simp))
  clear b3 e1
  have hsum : (List.replicate q a).length + (List.replicate (128 - q) b).length ≤ 9223372036854775807 := by rw [List.length_replicate, List.length_replicate]; omega
  generalize List.replicate q a = la at *
  generalize List.replicate (128 - q) b = lb at *
  go_wp2
  go_ret
  exact ⟨rfl, H4.out, T4.out⟩
end Go.Proofs.Ytcgjkopdnhkdiaa
