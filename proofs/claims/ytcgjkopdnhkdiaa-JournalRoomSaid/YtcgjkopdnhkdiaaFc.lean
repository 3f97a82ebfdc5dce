/- The document's disk: noughts. -/
import Derived.Test.YtcgjkopdnhkdiaaFb
import Derived.Test.YtcgjkopdnhkdiaaDl
namespace Go.Proofs.Ytcgjkopdnhkdiaa
open Go.RowKit
set_option maxRecDepth 100000
theorem noughts_any (m : Nat) (hm : m ≤ 200) (w : World) :
    Calls Try.prog 38 #[.int .i64 (m : Int)] w fun e w' => e = .returned (.string (bs (List.replicate m 0))) ∧ Below w.heap.size w w' := by
  obtain ⟨i5, hi5, hz0, hz1, hz2⟩ := info_parts info5
  have hmk : ∀ W : World, (Instr.makeSlice 28 (.int .i64 (m : Int)) (.int .i64 (m : Int))).run Try.prog W = .ok (.slice (some ⟨W.heap.size, 0, none⟩) m m) (W.alloc (.cells (madeCells #[.int .u8 0] m) 5)) := fun W => by
    have := run_make_rowN (P := Try.prog) 28 5 i5 (.int .u8 0) Try.underlying28 hi5 hz0 .i64 .i64 m m (Nat.le_refl _) (by rw [hz2]; omega) (by omega) W
    rw [hz1, Nat.mul_one] at this
    exact this
  clear hi5 hz0 hz1 hz2
  have hA := At.new w (madeCells #[.int .u8 0] m) 5
  rw [made_one] at hA
  have hB := (Below.refl _ w).alloc (Nat.le_refl _) (.cells (madeCells #[.int .u8 0] m) 5)
  have HA := Lib.hid hA
  have HB := Lib.hid hB
  clear hA hB
  have hcv : (convert 28 9 (.slice (some ⟨w.heap.size, 0, none⟩) m m)).run Try.prog (w.alloc (.cells (madeCells #[.int .u8 0] m) 5)) = .ok (.string (bs (List.replicate m 0))) (w.alloc (.cells (madeCells #[.int .u8 0] m) 5)) := by
    have := run_convert_bytes_back (P := Try.prog) (w.alloc (.cells (madeCells #[.int .u8 0] m) 5)) 28 9 5 ⟨w.heap.size, 0, none⟩ m (List.replicate m 0) Try.underlying28 Try.underlying5 Try.underlying9 fun j hj => by
      rw [Addr.add0]
      refine HA.out.cell j _ ?_
      rw [List.length_replicate] at hj
      rw [List.getElem?_replicate_of_lt hj, List.getElem_replicate]; rfl
    rw [List.length_replicate] at this
    exact this
  go_enter Try.func38, Try.ntmps38
  go_wp2
  go_ret
  exact ⟨rfl, HB.out⟩
end Go.Proofs.Ytcgjkopdnhkdiaa
