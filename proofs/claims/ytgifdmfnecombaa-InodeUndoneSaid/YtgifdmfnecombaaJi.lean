/- Small numbers in a walk. -/
import Derived.Test.YtgifdmfnecombaaJf
namespace Go.Proofs.Ytgifdmfnecombaa
open Go.RowKit
set_option maxRecDepth 100000
def held (p : Prop) : Prop := p
/-- the walk is to stop ahead of the operation that fills this slot -/
theorem hold_at {P : Program} {ops : Array Oper} {rest : List Oper} {op : Oper} {a : Act} {w : World} {Q : Exit → Act → World → Prop} (k : Nat) (hd : op.dst = some k) (h : held (wpList P ops Q (op :: rest) a w)) : wpList P ops Q (op :: rest) a w := h
theorem hold_none {P : Program} {ops : Array Oper} {rest : List Oper} {op : Oper} {a : Act} {w : World} {Q : Exit → Act → World → Prop} (hd : op.dst = none) (h : held (wpList P ops Q (op :: rest) a w)) : wpList P ops Q (op :: rest) a w := h
def tv (l : List UInt8) : Value := .string (bs l)
section
variable {o : Oper} {a : Act} {w : World}
theorem run_min_op (x y : Operand) (ho : o.op = .call { callee := .builtin .min, args := #[x, y], argTypes := #[3, 3] }) (m n r : Int) (hx : a.eval x = .int .i64 m) (hy : a.eval y = .int .i64 n) (hr : (if n < m then n else m) = r) :
    (execOp a.eval o).run Try.prog w = .ok (.value (.int .i64 r)) w := by
  have h2 : (Builtin.min_ #[3, 3] o.type #[.int .i64 m, .int .i64 n]).run Try.prog w = .ok (.int .i64 r) w := by rw [run_min_int2, hr]
  unfold execOp
  simp [ho, resolve, invoke, builtin, hx, hy, h2, Result.andThen]
theorem hiS_op (p hi : Operand) (ho : o.op = .slice 9 p none (some hi) none) (s : List UInt8) (k : Nat) (hk : k ≤ s.length) (hp : a.eval p = .string (bs s)) (hhi : a.eval hi = .int .i64 (k : Int)) :
    (execOp a.eval o).run Try.prog w = .ok (.value (.string (bs (s.take k)))) w := by
  have h2 : (k : Int) ≤ s.length := by omega
  unfold execOp
  simp only [ho, hp, hhi, Option.map_some, Option.map_none]
  simp [go_sem, run_underlying Try.underlying9, h2, bs_size, bs_take_bs]
theorem rem5_op (x y : Operand) (ho : o.op = .binOp .rem 5 x y 5) (m n : Nat) (hm : m < 256) (hn : 0 < n) (hx : a.eval x = .int .u8 (m : Int)) (hy : a.eval y = .int .u8 (n : Int)) :
    (execOp a.eval o).run Try.prog w = .ok (.value (.int .u8 ((m % n : Nat) : Int))) w := by
  have h1 : ¬ (n : Int) = 0 := by omega
  have h2 : ((m : Int).tmod (n : Int)) = ((m % n : Nat) : Int) := by rw [Int.tmod_eq_emod_of_nonneg (by omega)]; rfl
  have h3 : m % n < 256 := Nat.lt_of_le_of_lt (Nat.mod_le _ _) hm
  have h4 : IntKind.u8.wrap ((m % n : Nat) : Int) = ((m % n : Nat) : Int) := by
    generalize m % n = z at h3
    simp only [IntKind.wrap, IntKind.bits, IntKind.signed]; simp; omega
  unfold execOp
  simp only [ho, hx, hy]
  simp [go_sem, run_underlying Try.underlying5, h1]
  first | done | (try simp only [h2] at *) <;> simp_all
theorem rem3_op (x y : Operand) (ho : o.op = .binOp .rem 3 x y 3) (m n : Nat) (hm : m < 1000000000000) (hn : 0 < n) (hx : a.eval x = .int .i64 (m : Int)) (hy : a.eval y = .int .i64 (n : Int)) :
    (execOp a.eval o).run Try.prog w = .ok (.value (.int .i64 ((m % n : Nat) : Int))) w := by
  have h1 : ¬ (n : Int) = 0 := by omega
  have h2 : ((m : Int).tmod (n : Int)) = ((m % n : Nat) : Int) := by rw [Int.tmod_eq_emod_of_nonneg (by omega)]; rfl
  have h3 : m % n < 1000000000000 := Nat.lt_of_le_of_lt (Nat.mod_le _ _) hm
  have h4 : IntKind.i64.wrap ((m % n : Nat) : Int) = ((m % n : Nat) : Int) := wrap_small (by omega) (by omega)
  unfold execOp
  simp only [ho, hx, hy]
  simp [go_sem, run_underlying Try.underlying3, h1]
  first | done | (try simp only [h2] at *) <;> simp_all
theorem add5_op (x y : Operand) (ho : o.op = .binOp .add 5 x y 5) (m n : Nat) (hm : m + n < 256) (hx : a.eval x = .int .u8 (m : Int)) (hy : a.eval y = .int .u8 (n : Int)) :
    (execOp a.eval o).run Try.prog w = .ok (.value (.int .u8 ((m + n : Nat) : Int))) w := by
  have h4 : IntKind.u8.wrap ((m : Int) + (n : Int)) = (m : Int) + (n : Int) := by
    simp only [IntKind.wrap, IntKind.bits, IntKind.signed]; simp; omega
  unfold execOp
  simp only [ho, hx, hy]
  simp [go_sem, run_underlying Try.underlying5, h4]
theorem sub5_op (x y : Operand) (ho : o.op = .binOp .sub 5 x y 5) (m n : Nat) (hm : m < 256) (hmn : n ≤ m) (hx : a.eval x = .int .u8 (m : Int)) (hy : a.eval y = .int .u8 (n : Int)) :
    (execOp a.eval o).run Try.prog w = .ok (.value (.int .u8 ((m - n : Nat) : Int))) w := by
  have h4 : IntKind.u8.wrap ((m : Int) - (n : Int)) = ((m - n : Nat) : Int) := by
    simp only [IntKind.wrap, IntKind.bits, IntKind.signed]; simp; omega
  unfold execOp
  simp only [ho, hx, hy]
  simp [go_sem, run_underlying Try.underlying5, h4]
theorem cv53_op (x : Operand) (ho : o.op = .convert 5 3 x) (n : Nat) (hn : n < 256) (hx : a.eval x = .int .u8 (n : Int)) :
    (execOp a.eval o).run Try.prog w = .ok (.value (.int .i64 (n : Int))) w := by
  have h4 : IntKind.i64.wrap (n : Int) = (n : Int) := wrap_small (by omega) (by omega)
  unfold execOp
  simp only [ho, hx]
  simp [go_sem, convert, run_underlying Try.underlying5, run_underlying Try.underlying3, h4]
theorem cv35_op (x : Operand) (ho : o.op = .convert 3 5 x) (n : Nat) (hn : n < 256) (hx : a.eval x = .int .i64 (n : Int)) :
    (execOp a.eval o).run Try.prog w = .ok (.value (.int .u8 (n : Int))) w := by
  have h4 : IntKind.u8.wrap (n : Int) = (n : Int) := by
    simp only [IntKind.wrap, IntKind.bits, IntKind.signed]; simp; omega
  unfold execOp
  simp only [ho, hx]
  simp [go_sem, convert, run_underlying Try.underlying5, run_underlying Try.underlying3, h4]
theorem addN_op (x y : Operand) (ho : o.op = .binOp .add 3 x y 3) (m n : Nat) (hm : m + n < 1000000000000) (hx : a.eval x = .int .i64 (m : Int)) (hy : a.eval y = .int .i64 (n : Int)) :
    (execOp a.eval o).run Try.prog w = .ok (.value (.int .i64 ((m + n : Nat) : Int))) w := by
  have h4 : IntKind.i64.wrap ((m : Int) + (n : Int)) = (m : Int) + (n : Int) := wrap_small (by omega) (by omega)
  unfold execOp
  simp only [ho, hx, hy]
  simp [go_sem, run_underlying Try.underlying3, h4]
theorem lss3_op (x y : Operand) (ho : o.op = .binOp .lss 3 x y 3) (m n : Int) (q : Bool) (hx : a.eval x = .int .i64 m) (hy : a.eval y = .int .i64 n) (hr : decide (m < n) = q) : (execOp a.eval o).run Try.prog w = .ok (.value (.bool q)) w := by
  subst hr
  unfold execOp
  simp only [ho, hx, hy]
  simp [go_sem, run_underlying Try.underlying3]
theorem eql3_op (x y : Operand) (ho : o.op = .binOp .eql 3 x y 3) (m n : Int) (q : Bool) (hx : a.eval x = .int .i64 m) (hy : a.eval y = .int .i64 n) (hr : decide (m = n) = q) : (execOp a.eval o).run Try.prog w = .ok (.value (.bool q)) w := by
  subst hr
  unfold execOp
  simp only [ho, hx, hy]
  simp [go_sem, run_underlying Try.underlying3]
  rfl
theorem eql5_op (x y : Operand) (ho : o.op = .binOp .eql 5 x y 5) (m n : Int) (q : Bool) (hx : a.eval x = .int .u8 m) (hy : a.eval y = .int .u8 n) (hr : decide (m = n) = q) : (execOp a.eval o).run Try.prog w = .ok (.value (.bool q)) w := by
  subst hr
  unfold execOp
  simp only [ho, hx, hy]
  simp [go_sem, run_underlying Try.underlying5]
  rfl
end
end Go.Proofs.Ytgifdmfnecombaa
