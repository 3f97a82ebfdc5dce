/- The walks of bytes, reads and New. -/
import Derived.Test.YtcgjkopdnhkdiaaDk
import Derived.RegionTactic
namespace Go.Proofs.Ytcgjkopdnhkdiaa
open Go.RowKit
set_option maxRecDepth 100000

theorem info5 : (Try.prog.info? 5).map (fun i => (i.zero, i.size, i.bytes)) = some (some (.int .u8 0), 1, 1) := by kernel_rfl
theorem made_one (z : Value) (n : Nat) : (madeCells #[z] n).toList = List.replicate n z := toList_madeCells_one z n
/-- so many bytes that are laid, of m -/
def rowOf (m k : Nat) (c : UInt8) : List Value := List.replicate k (bv c) ++ List.replicate (m - k) (bv 0)
theorem rowOf_set (m k : Nat) (c : UInt8) (h : k < m) : (rowOf m k c).set k (bv c) = rowOf m (k + 1) c := by
  unfold rowOf
  rw [List.set_append_right _ _ (by simp), List.length_replicate, Nat.sub_self]
  obtain ⟨d, hd⟩ : ∃ d, m - k = d + 1 := ⟨m - k - 1, by omega⟩
  rw [hd, List.replicate_succ, List.set_cons_zero, show m - (k + 1) = d by omega, List.replicate_succ']
  simp
set_option maxHeartbeats 1000000 in
theorem bytes_any (n : Int) (c : UInt8) (m : Nat) (hm : (m : Int) = min (max n 0) 200) (w : World) :
    Calls Try.prog 21 #[.int .i64 n, .int .u8 (c.toNat : Int)] w fun e w' => e = .returned (.string (bs (List.replicate m c))) ∧ Below w.heap.size w w' := by
  obtain ⟨i5, hi5, hz0, hz1, hz2⟩ := info_parts info5
  have hm2 : m ≤ 200 := by omega
  have hmk : ∀ W : World, (Instr.makeSlice 28 (.int .i64 (m : Int)) (.int .i64 (m : Int))).run Try.prog W = .ok (.slice (some ⟨W.heap.size, 0, none⟩) m m) (W.alloc (.cells (madeCells #[.int .u8 0] m) 5)) := fun W => by
    have := run_make_rowN (P := Try.prog) 28 5 i5 (.int .u8 0) Try.underlying28 hi5 hz0 .i64 .i64 m m (Nat.le_refl _) (by rw [hz2]; omega) (by omega) W
    rw [hz1, Nat.mul_one] at this
    exact this
  clear hi5 hz0 hz1 hz2
  have hmx : ∀ x : Int, x = (m : Int) → ∀ W : World, (Instr.makeSlice 28 (.int .i64 x) (.int .i64 x)).run Try.prog W = .ok (.slice (some ⟨W.heap.size, 0, none⟩) m m) (W.alloc (.cells (madeCells #[.int .u8 0] m) 5)) := fun x hx W => by rw [hx]; exact hmk W
  have hn : n < 0 ∨ (0 ≤ n ∧ n ≤ 200) ∨ (0 ≤ n ∧ 200 < n) := by omega
  clear hmk
  have hmk : (n < 0 ∧ ∀ W : World, (Instr.makeSlice 28 (.int .i64 0) (.int .i64 0)).run Try.prog W = .ok (.slice (some ⟨W.heap.size, 0, none⟩) m m) (W.alloc (.cells (madeCells #[.int .u8 0] m) 5))) ∨
      ((0 ≤ n ∧ n ≤ 200) ∧ ∀ W : World, (Instr.makeSlice 28 (.int .i64 n) (.int .i64 n)).run Try.prog W = .ok (.slice (some ⟨W.heap.size, 0, none⟩) m m) (W.alloc (.cells (madeCells #[.int .u8 0] m) 5))) ∨
      ((0 ≤ n ∧ 200 < n) ∧ ∀ W : World, (Instr.makeSlice 28 (.int .i64 200) (.int .i64 200)).run Try.prog W = .ok (.slice (some ⟨W.heap.size, 0, none⟩) m m) (W.alloc (.cells (madeCells #[.int .u8 0] m) 5))) := by
    rcases hn with h | h | h
    · exact .inl ⟨h, hmx 0 (by omega)⟩
    · exact .inr (.inl ⟨h, hmx n (by omega)⟩)
    · exact .inr (.inr ⟨h, hmx 200 (by omega)⟩)
  clear hmx hn hm
  have hA := At.new w (madeCells #[.int .u8 0] m) 5
  rw [made_one, show List.replicate m (Value.int .u8 0) = rowOf m 0 c by unfold rowOf; simp [bv]] at hA
  have hB := (Below.refl _ w).alloc (Nat.le_refl _) (.cells (madeCells #[.int .u8 0] m) 5)
  have HA := Lib.hid hA
  have HB := Lib.hid hB
  clear hA hB
  rcases hmk with ⟨h, hmk⟩ | ⟨⟨h, h2⟩, hmk⟩ | ⟨⟨h, h2⟩, hmk⟩
  all_goals
    go_enter Try.func21, Try.ntmps21
    go_wp2
    clear hmk
    generalize w.alloc (.cells (madeCells #[.int .u8 0] m) 5) = w1 at *
    go_loopw [6] (fun i wx => ∃ k : Nat, k ≤ m ∧ i = .int .i64 k ∧ At wx w.heap.size 5 (rowOf m k c) ∧ Below w.heap.size w wx) (fun i _ => m - (intOf i).toNat)
    case atStart => exact ⟨0, by omega, rfl, HA.out, HB.out⟩
    case round =>
      obtain ⟨k, hk, rfl, hAk, hBk⟩ := hrel
      have HAk := Lib.hid hAk
      have HBk := Lib.hid hBk
      clear hAk hBk
      by_cases hlt : k < m
      · have hc := HAk.out.cell k (bv 0) (by unfold rowOf; rw [List.getElem?_append_right (by simp), List.length_replicate, Nat.sub_self, List.getElem?_replicate_of_lt (by omega)])
        have hf := HAk.out.frozen k
        have hlt' : (k : Int) < m := by omega
        go_wp2
        go_roundw
        case rel =>
          refine ⟨k + 1, by omega, by go_num, ?_, HBk.out.setCell (p := ⟨_, _, none⟩) (by simp) _⟩
          rw [← rowOf_set m k c hlt]
          exact HAk.out.setCell k _
        case measure => simp [intOf]; omega
      · obtain rfl : k = m := by omega
        have hrow : rowOf k k c = (List.replicate k c).map bv := by unfold rowOf; rw [Nat.sub_self, List.replicate_zero, List.append_nil, List.map_replicate]
        have hcv : (convert 28 9 (.slice (some ⟨w.heap.size, 0, none⟩) k k)).run Try.prog wr = .ok (.string (bs (List.replicate k c))) wr := by
          have := run_convert_bytes_back (P := Try.prog) wr 28 9 5 ⟨w.heap.size, 0, none⟩ k (List.replicate k c) Try.underlying28 Try.underlying5 Try.underlying9 fun j hj => by
            rw [Addr.add0]
            refine HAk.out.cell j _ ?_
            rw [hrow, List.getElem?_map, List.getElem?_eq_getElem hj]; rfl
          rw [List.length_replicate] at this
          exact this
        go_wp2
        go_ret
        exact ⟨rfl, HBk.out⟩
end Go.Proofs.Ytcgjkopdnhkdiaa
