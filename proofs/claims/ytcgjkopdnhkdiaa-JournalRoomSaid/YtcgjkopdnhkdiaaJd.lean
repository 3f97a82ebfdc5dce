/- Numbers as bytes, the highest first; back. -/
import Derived.Test.YtcgjkopdnhkdiaaJc
import Derived.Test.YtcgjkopdnhkdiaaDl
namespace Go.Proofs.Ytcgjkopdnhkdiaa
open Go.RowKit
set_option maxRecDepth 100000
/-- the lowest so many bytes of a number, the highest first -/
def beN (n : Nat) : Nat → List UInt8
  | 0 => []
  | k + 1 => UInt8.ofNat (n / 256 ^ k % 256) :: beN n k
theorem beN_len (n : Nat) : ∀ k, (beN n k).length = k
  | 0 => rfl
  | k + 1 => by rw [beN, List.length_cons, beN_len n k]
/-- a row of m, of which the lowest k are laid -/
def bePart (n m k : Nat) : List Value := List.replicate (m - k) (bv 0) ++ (beN n k).map bv
theorem bePart_set (n m k : Nat) (h : k < m) : (bePart n m k).set (m - 1 - k) (bv (UInt8.ofNat (n / 256 ^ k % 256))) = bePart n m (k + 1) := by
  unfold bePart
  obtain ⟨d, rfl⟩ : ∃ d, m = k + d + 1 := ⟨m - k - 1, by omega⟩
  rw [show k + d + 1 - k = d + 1 by omega, show k + d + 1 - (k + 1) = d by omega, show k + d + 1 - 1 - k = d by omega, List.replicate_succ', List.append_assoc, List.set_append_right _ _ (by simp), List.length_replicate, Nat.sub_self]
  rfl
theorem bePart_len (n m k : Nat) (h : k ≤ m) : (bePart n m k).length = m := by unfold bePart; simp [beN_len]; omega
theorem byte_val (n : Nat) (k : Nat) : IntKind.u8.wrap ((n / 256 ^ k : Nat) : Int) = ((UInt8.ofNat (n / 256 ^ k % 256)).toNat : Int) := by
  rw [UInt8.toNat_ofNat_of_lt' (by show n / 256 ^ k % 256 < 256; omega)]
  simp only [IntKind.wrap, IntKind.bits, IntKind.signed]
  simp
theorem byte_int (n k : Nat) : Value.int .u8 ((n : Int) / 2 ^ (k * 8) % 256) = bv (UInt8.ofNat (n / 256 ^ k % 256)) := by
  unfold bv
  rw [UInt8.toNat_ofNat_of_lt' (by show n / 256 ^ k % 256 < 256; omega)]
  have : (2 : Nat) ^ (k * 8) = 256 ^ k := by rw [Nat.mul_comm, Nat.pow_mul]
  rw [show ((2 : Int) ^ (k * 8)) = ((256 ^ k : Nat) : Int) by rw [← this]; simp]
  simp
theorem pow_byte (k : Nat) : (2 : Nat) ^ (k * 8) = 256 ^ k := by rw [Nat.mul_comm, Nat.pow_mul]
set_option maxHeartbeats 1000000 in
theorem rowOf_any (n m : Nat) (hm : m ≤ 8) (w : World) :
    Calls Try.prog 96 #[.int .u64 (n : Int), .int .i64 (m : Int)] w fun e w' => e = .returned (.slice (some ⟨w.heap.size, 0, none⟩) m m) ∧ At w' w.heap.size 5 ((beN n m).map bv) ∧ Below w.heap.size w w' ∧ w.heap.size < w'.heap.size := by
  obtain ⟨i5, hi5, hz0, hz1, hz2⟩ := info_parts info5
  have hmk : ∀ W : World, (Instr.makeSlice 28 (.int .i64 (m : Int)) (.int .i64 (m : Int))).run Try.prog W = .ok (.slice (some ⟨W.heap.size, 0, none⟩) m m) (W.alloc (.cells (madeCells #[.int .u8 0] m) 5)) := fun W => by
    have := run_make_rowN (P := Try.prog) 28 5 i5 (.int .u8 0) Try.underlying28 hi5 hz0 .i64 .i64 m m (Nat.le_refl _) (by rw [hz2]; omega) (by omega) W
    rw [hz1, Nat.mul_one] at this
    exact this
  clear hi5 hz0 hz1 hz2
  have hA := At.new w (madeCells #[.int .u8 0] m) 5
  rw [made_one, show List.replicate m (Value.int .u8 0) = bePart n m 0 by unfold bePart; simp [bv, beN]] at hA
  have hB := (Below.refl _ w).alloc (Nat.le_refl _) (.cells (madeCells #[.int .u8 0] m) 5)
  have HA := Lib.hid hA
  have HB := Lib.hid hB
  clear hA hB
  go_enter Try.func96, Try.ntmps96
  go_wp2
  clear hmk
  generalize w.alloc (.cells (madeCells #[.int .u8 0] m) 5) = w1 at *
  go_loopw [11] (fun i wx => ∃ k : Nat, k ≤ m ∧ i = .int .i64 k ∧ At wx w.heap.size 5 (bePart n m k) ∧ Below w.heap.size w wx) (fun i _ => m - (intOf i).toNat)
  case atStart => exact ⟨0, by omega, rfl, HA.out, HB.out⟩
  case round =>
    obtain ⟨k, hk, rfl, hAk, hBk⟩ := hrel
    have HAk := Lib.hid hAk
    have HBk := Lib.hid hBk
    clear hAk hBk
    by_cases hlt : k < m
    · have hlt' : (k : Int) < m := by omega
      have e1 : IntKind.i64.wrap ((m : Int) - 1) = (m : Int) - 1 := by rw [IntKind.wrap_i64]; omega
      have e2 : IntKind.i64.wrap ((m : Int) - 1 - k) = ((m - 1 - k : Nat) : Int) := by rw [IntKind.wrap_i64]; omega
      have e3 : IntKind.i64.wrap ((k : Int) * 8) = ((k * 8 : Nat) : Int) := by rw [IntKind.wrap_i64]; omega
      have hc := HAk.out.cell (m - 1 - k) ((bePart n m k)[m - 1 - k]'(by rw [bePart_len _ _ _ hk]; omega)) (List.getElem?_eq_getElem _)
      have hf := HAk.out.frozen (m - 1 - k)
      have hjm : ((m - 1 - k : Nat) : Int) < m := by omega
      have hjm2 : m - 1 - k < m := by omega
      go_wp2
      go_roundw
      case rel =>
        refine ⟨k + 1, by omega, by go_num, ?_, HBk.out.setCell (p := ⟨_, _, none⟩) (by simp) _⟩
        rw [← bePart_set n m k hlt, ← byte_int]
        exact HAk.out.setCell _ _
      case measure => simp [intOf]; omega
    · obtain rfl : k = m := by omega
      go_wp2
      go_ret
      have := HAk.out
      unfold bePart at this
      rw [Nat.sub_self, List.replicate_zero, List.nil_append] at this
      exact ⟨rfl, this, HBk.out, this.lt⟩
end Go.Proofs.Ytcgjkopdnhkdiaa
