/- The walks of Read. -/
import Derived.Test.YtcgjkopdnhkdiaaDd
namespace Go.Proofs.Ytcgjkopdnhkdiaa
open Go.RowKit
set_option maxRecDepth 100000

theorem vals_len : ∀ (ss : List (List UInt8)), (∀ x ∈ ss, x.length = 128) → (vals ss).length = 128 * ss.length
  | [], _ => rfl
  | x :: r, h => by
    have hx := h x (by simp)
    have ih := vals_len r (fun y hy => h y (by simp [hy]))
    unfold vals at *
    rw [List.flatMap_cons, List.length_append, ih, List.length_map, hx, List.length_cons]; omega
theorem vals_split (ss : List (List UInt8)) (i : Nat) (x : List UInt8) (hi : ss[i]? = some x) : vals ss = vals (ss.take i) ++ (x.map bv ++ vals (ss.drop (i + 1))) := by
  obtain ⟨hl, rfl⟩ := List.getElem?_eq_some_iff.1 hi
  have : ss = ss.take i ++ ss[i] :: ss.drop (i + 1) := by rw [← List.drop_eq_getElem_cons hl, List.take_append_drop]
  conv => lhs; rw [this]
  unfold vals
  rw [List.flatMap_append, List.flatMap_cons]
theorem vals_seg (ss : List (List UInt8)) (h : ∀ x ∈ ss, x.length = 128) (i : Nat) (x : List UInt8) (hi : ss[i]? = some x) : seg (vals ss) (128 * i) 128 = x.map bv := by
  have hl := (List.getElem?_eq_some_iff.1 hi).1
  have hx : x.length = 128 := h x (List.mem_of_getElem? hi)
  have ht : (vals (ss.take i)).length = 128 * i := by
    rw [vals_len _ (fun y hy => h y (List.mem_of_mem_take hy)), List.length_take]; congr 1; omega
  rw [vals_split ss i x hi]
  unfold seg
  rw [List.drop_append_of_le_length (by omega), List.drop_eq_nil_of_le (by omega), List.nil_append, List.take_append_of_le_length (by simp; omega), List.take_of_length_le (by simp; omega)]
theorem vals_splice (ss : List (List UInt8)) (h : ∀ x ∈ ss, x.length = 128) (i : Nat) (hi : i < ss.length) (y : List UInt8) (hy : y.length = 128) : splice (vals ss) (128 * i) (y.map bv) = vals (ss.set i y) := by
  have hx : (ss[i]).length = 128 := h _ (by simp)
  have ht : (vals (ss.take i)).length = 128 * i := by
    rw [vals_len _ (fun y hy => h y (List.mem_of_mem_take hy)), List.length_take]; congr 1; omega
  rw [vals_split (ss.set i y) i y (by simp [hi]), vals_split ss i ss[i] (List.getElem?_eq_getElem hi), List.take_set, List.drop_set]
  unfold splice
  rw [List.take_append_of_le_length (by omega), List.take_of_length_le (by omega), List.length_map, hy, if_pos (by omega), List.set_eq_of_length_le (by simp; omega), ← List.append_assoc, ← List.append_assoc, List.drop_append, List.drop_eq_nil_of_le (i := 128 * i + 128) (by simp; omega), List.nil_append, List.length_append, List.length_map, ht, hx, show 128 * i + 128 - (128 * i + 128) = 0 by omega, List.drop_zero, List.append_assoc]

section
variable {w : World} {D F N : Nat} {ao : Option Addr} {cap n : Nat} {s : Dk}
theorem DiskAt.vlen (h : DiskAt w D F N ao cap n s) : (vals s.nw).length = 128 * n := by rw [vals_len _ h.ok.n128, h.ok.nw]
theorem DiskAt.flen (h : DiskAt w D F N ao cap n s) : (vals s.fl).length = 128 * n := by rw [vals_len _ h.ok.f128, h.ok.fl]
set_option maxHeartbeats 1000000 in
theorem read1_any (h : DiskAt w D F N ao cap n s) (A B C TA TB TC : Nat) (k : Nat) (sec : List UInt8) (v : Value) (hk : s.nw[k]? = some sec) (hA : At w A TA [.pointer (some ⟨D, 0, none⟩)]) (hB : At w B TB [.int .i64 (k : Int)]) (hC : At w C TC [v]) :
    Calls Try.prog 42 #[.pointer (some ⟨A, 0, none⟩), .pointer (some ⟨B, 0, none⟩), .pointer (some ⟨C, 0, none⟩)] w fun e w' => e = .returned (.tuple #[]) ∧ At w' C TC [.string (bs sec)] ∧ Touch [C] w w' := by
  have ca := hA.cell 0 _ rfl
  have cb := hB.cell 0 _ rfl
  have cc := hC.cell 0 _ rfl
  have fc := hC.frozen 0
  have c1 := h.d.cell 1 _ rfl
  have hkn : k < n := by have := (List.getElem?_eq_some_iff.1 hk).1; rw [h.ok.nw] at this; exact this
  have hr := h.v.range (128 * k) 128
  rw [vals_seg s.nw h.ok.n128 k sec hk] at hr
  have hsl : sec.length = 128 := h.ok.n128 _ (List.mem_of_getElem? hk)
  have hcv : (convert 28 9 (.slice (some ⟨N, k * 128, none⟩) 128 128)).run Try.prog { heap := w.heap, tape := w.tape, drawn := w.drawn + 1, os := w.os, output := w.output } = .ok (.string (bs sec)) { heap := w.heap, tape := w.tape, drawn := w.drawn + 1, os := w.os, output := w.output } := by
    have := run_convert_bytes_back (P := Try.prog) w.drew 28 9 5 ⟨N, k * 128, none⟩ 128 sec Try.underlying28 Try.underlying5 Try.underlying9 fun j hj => by
      rw [Addr.add_mid, Nat.mul_comm]
      exact hr j _ (by simp [List.getElem?_eq_getElem hj, bv])
    rw [hsl] at this
    exact this
  have HR := Lib.hid hr
  have H := Lib.hid h
  have HC := Lib.hid hC
  clear h hA hB hk hr hC
  have hkn' : (k : Int) < n := by omega
  go_enter Try.func42, Try.ntmps42
  go_wp2
  go_still_tail 8, (by kernel_rfl)
  refine still_val rfl (run_convert_op 28 9 _ rfl _ (by kernel_rfl) hcv) ?_
  refine wpStill_nil ?_
  change wpList _ _ _ _ _ w.drew
  go_wp2
  go_end0
  exact ⟨rfl, HC.out.drew.setCell 0 _, (Touch.refl _ _).drew.setCell _ _ (.inl (by simp))⟩
end
end Go.Proofs.Ytcgjkopdnhkdiaa
