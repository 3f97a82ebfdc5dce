/- Parts of rows. -/
import Derived.Test.YtgifdmfnecombaaJk
namespace Go.Proofs.Ytgifdmfnecombaa
open Go.RowKit
set_option maxRecDepth 100000
section
variable {o : Oper} {a : Act} {w : World}
theorem sub5r_op (x y : Operand) (ho : o.op = .binOp .sub 5 x y 5) (m n r : Nat) (hm : m < 256) (hmn : n + r = m) (hx : a.eval x = .int .u8 (m : Int)) (hy : a.eval y = .int .u8 (n : Int)) :
    (execOp a.eval o).run Try.prog w = .ok (.value (.int .u8 (r : Int))) w := by
  have := sub5_op (w := w) x y ho m n hm (by omega) hx hy
  rw [show m - n = r by omega] at this
  exact this
theorem rowHi_op (p hi : Operand) (ho : o.op = .slice 38 p none (some hi) none) (x : Addr) (n c k : Nat) (hk : k ≤ c) (hp : a.eval p = .slice (some x) n c) (hhi : a.eval hi = .int .i64 (k : Int)) :
    (execOp a.eval o).run Try.prog w = .ok (.value (.slice (some x) k c)) w := by
  have h2 : (k : Int) ≤ c := by omega
  have hi : (Try.prog.info? 9).map (·.size) = some 1 := by kernel_rfl
  cases hq : Try.prog.info? 9 with
  | none => simp [hq] at hi
  | some i =>
    have hs : i.size = 1 := by simpa [hq] using hi
    unfold execOp
    simp only [ho, hp, hhi, Option.map_some, Option.map_none]
    simp [go_sem, run_underlying Try.underlying38, h2, hk, hq, hs, sizeOf, typeInfo, Addr.add]
def lowA (x : Addr) (k c : Nat) : Addr := if k < c then x.add k else x
theorem rowLo_op (p lo : Operand) (ho : o.op = .slice 38 p (some lo) none none) (x : Addr) (n c k : Nat) (hk : k ≤ n) (hn : n ≤ c) (hp : a.eval p = .slice (some x) n c) (hlo : a.eval lo = .int .i64 (k : Int)) :
    (execOp a.eval o).run Try.prog w = .ok (.value (.slice (some (lowA x k c)) (n - k) (c - k))) w := by
  have h2 : (k : Int) ≤ n := by omega
  have hi : (Try.prog.info? 9).map (·.size) = some 1 := by kernel_rfl
  cases hq : Try.prog.info? 9 with
  | none => simp [hq] at hi
  | some i =>
    have hs : i.size = 1 := by simpa [hq] using hi
    unfold execOp lowA
    simp only [ho, hp, hlo, Option.map_some, Option.map_none]
    simp [go_sem, run_underlying Try.underlying38, h2, hk, hq, hs, sizeOf, typeInfo, hn]
    by_cases e : c = k
    · rw [if_pos e, if_neg (by omega)]
    · rw [if_neg e, if_pos (by omega)]
end
end Go.Proofs.Ytgifdmfnecombaa
