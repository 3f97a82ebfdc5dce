/- A number out of its bytes. -/
import Derived.Test.YtcgjkopdnhkdiaaJd
import Derived.Test.YtcgjkopdnhkdiaaW1
namespace Go.Proofs.Ytcgjkopdnhkdiaa
open Go.RowKit
set_option maxRecDepth 100000
def numL (l : List UInt8) : Nat := l.foldl (fun n c => n * 256 + c.toNat) 0
theorem numL_snoc (l : List UInt8) (c : UInt8) : numL (l ++ [c]) = numL l * 256 + c.toNat := by unfold numL; rw [List.foldl_append]; rfl
theorem numL_from : ∀ (l : List UInt8) (a : Nat), l.foldl (fun n c => n * 256 + c.toNat) a < (a + 1) * 256 ^ l.length
  | [], a => by simp
  | c :: r, a => by
    have h := numL_from r (a * 256 + c.toNat)
    have h2 : c.toNat < 256 := c.toNat_lt
    rw [List.foldl_cons, List.length_cons, Nat.pow_succ]
    refine Nat.lt_of_lt_of_le h ?_
    rw [Nat.mul_comm (256 ^ r.length) 256, ← Nat.mul_assoc]
    exact Nat.mul_le_mul_right _ (by omega)
theorem numL_lt (l : List UInt8) : numL l < 256 ^ l.length := by
  have := numL_from l 0
  rwa [Nat.zero_add, Nat.one_mul] at this
theorem or_byte (m c : Nat) (hm : m < 72057594037927936) (hc : c < 256) : bits .or .u64 ((m : Int) * 256) (IntKind.u64.wrap (c : Int)) = ((m * 256 + c : Nat) : Int) := by
  have e2 : IntKind.u64.wrap (c : Int) = (c : Int) := by
    simp only [IntKind.wrap, IntKind.bits, IntKind.signed]; simp; omega
  rw [e2, show (m : Int) * 256 = ((m * 256 : Nat) : Int) by omega, u64_or_nat _ _ (by omega) (by omega)]
  rw [nat_join 8 (m * 256) c (by omega) (by omega)]
set_option maxHeartbeats 1000000 in
theorem numberOf_any (l : List UInt8) (hl : l.length ≤ 8) (w : World) :
    Calls Try.prog 93 #[.string (bs l)] w fun e w' => e = .returned (.int .u64 (numL l : Int)) ∧ w' = w := by
  go_enter Try.func93, Try.ntmps93
  go_wp2_with fail
  go_loopw [3, 7] (fun y i wx => ∃ k : Nat, k ≤ l.length ∧ i = .int .i64 k ∧ y = .int .u64 (numL (l.take k) : Int) ∧ wx = w) (fun _ i _ => l.length - (intOf i).toNat)
  case atStart => exact ⟨0, by omega, rfl, rfl, rfl⟩
  case round =>
    obtain ⟨k, hk, rfl, rfl, rfl⟩ := hrel
    by_cases hlt : k < l.length
    · have hlt' : (k : Int) < l.length := by omega
      have hb := numL_lt (l.take k)
      have htk : (l.take k).length = k := by rw [List.length_take]; omega
      have h7 : k ≤ 7 := by omega
      have hm : numL (l.take k) < 72057594037927936 := by
        rw [htk] at hb
        exact Nat.lt_of_lt_of_le hb (Nat.le_trans (Nat.pow_le_pow_right (by omega) h7) (by decide))
      have hn : numL (l.take (k + 1)) = numL (l.take k) * 256 + (l[k]'hlt).toNat := by
        rw [List.take_add_one, List.getElem?_eq_getElem hlt, Option.toList_some, numL_snoc]
      have hg : ∀ h, (bs l)[k]'h = l[k]'hlt := fun h => by rfl
      have HN := Lib.hid hn
      clear hn hb htk
      generalize numL (l.take k) = m at *
      go_wp2
      go_roundw
      case rel => exact ⟨k + 1, by omega, by go_num, by rw [HN.out, or_byte m _ hm (l[k]'hlt).toNat_lt], by first | rfl | trivial⟩
      case measure => simp [intOf]; omega
    · obtain rfl : k = l.length := by omega
      rw [List.take_length]
      go_wp2
      go_ret
      exact ⟨rfl, rfl⟩
end Go.Proofs.Ytcgjkopdnhkdiaa
