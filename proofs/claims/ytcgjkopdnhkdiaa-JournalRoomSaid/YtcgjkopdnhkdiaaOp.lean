/- Operations of a region that is walked by hand: what each answers. -/
import Derived.Test.YtcgjkopdnhkdiaaDn
import Derived.Test.YtcgjkopdnhkdiaaDb
namespace Go.Proofs.Ytcgjkopdnhkdiaa
open Go.RowKit
set_option maxRecDepth 100000
/-- the walk is to stop ahead of the operation that fills this slot -/
def held (p : Prop) : Prop := p
theorem hold_at {P : Program} {ops : Array Oper} {rest : List Oper} {op : Oper} {a : Act} {w : World} {Q : Exit → Act → World → Prop} (k : Nat) (hd : op.dst = some k) (h : held (wpList P ops Q (op :: rest) a w)) : wpList P ops Q (op :: rest) a w := h
section
variable {o : Oper} {a : Act} {w : World}
theorem run_len_str (x : Operand) (ho : o.op = .call { callee := .builtin .len, args := #[x], argTypes := #[9] }) (l : List UInt8) (hx : a.eval x = .string (bs l)) :
    (execOp a.eval o).run Try.prog w = .ok (.value (.int .i64 (l.length : Int))) w := by
  have hr : (Builtin.len_ #[9] o.type #[.string (bs l)]).run Try.prog w = .ok (.int .i64 (l.length : Int)) w := by simp [go_sem, Builtin.len_, bs_size]
  unfold execOp
  simp [ho, resolve, invoke, builtin, hx, hr, Result.andThen]
theorem run_sub_op (x y : Operand) (ho : o.op = .binOp .sub 3 x y 3) (m n r : Int) (hx : a.eval x = .int .i64 m) (hy : a.eval y = .int .i64 n) (hr : IntKind.i64.wrap (m - n) = r) :
    (execOp a.eval o).run Try.prog w = .ok (.value (.int .i64 r)) w := by
  unfold execOp
  simp only [ho, hx, hy]
  simp [go_sem, hr]
theorem run_add_op (x y : Operand) (ho : o.op = .binOp .add 3 x y 3) (m n r : Int) (hx : a.eval x = .int .i64 m) (hy : a.eval y = .int .i64 n) (hr : IntKind.i64.wrap (m + n) = r) :
    (execOp a.eval o).run Try.prog w = .ok (.value (.int .i64 r)) w := by
  unfold execOp
  simp only [ho, hx, hy]
  simp [go_sem, hr]
theorem run_cat_op (x y : Operand) (ho : o.op = .binOp .add 9 x y 9) (l r : List UInt8) (hx : a.eval x = .string (bs l)) (hy : a.eval y = .string (bs r)) (hl : l.length + r.length ≤ 1000000000) :
    (execOp a.eval o).run Try.prog w = .ok (.value (.string (bs (l ++ r)))) w := by
  have h : (9223372036854775807 < l.length + r.length) = False := by simp; omega
  unfold execOp
  simp only [ho, hx, hy]
  simp [go_sem, bs_size, bs_append, h]
theorem run_hi_op (p hi : Operand) (ho : o.op = .slice 9 p none (some hi) none) (s : List UInt8) (k : Nat) (hk : k ≤ s.length) (hp : a.eval p = .string (bs s)) (hhi : a.eval hi = .int .i64 (k : Int)) :
    (execOp a.eval o).run Try.prog w = .ok (.value (.string (bs (s.take k)))) w := by
  have h2 : (k : Int) ≤ s.length := by omega
  unfold execOp
  simp only [ho, hp, hhi, Option.map_some, Option.map_none]
  simp [go_sem, run_underlying Try.underlying9, h2, bs_size, bs_take_bs]
theorem run_lo_op (p lo : Operand) (ho : o.op = .slice 9 p (some lo) none none) (s : List UInt8) (k : Nat) (hk : k ≤ s.length) (hp : a.eval p = .string (bs s)) (hlo : a.eval lo = .int .i64 (k : Int)) :
    (execOp a.eval o).run Try.prog w = .ok (.value (.string (bs (s.drop k)))) w := by
  have h2 : (k : Int) ≤ s.length := by omega
  have h3 : (bs s).extract k s.length = bs (s.drop k) := by
    have := bs_drop_bs s k
    rwa [bs_size] at this
  unfold execOp
  simp only [ho, hp, hlo, Option.map_some, Option.map_none]
  simp [go_sem, run_underlying Try.underlying9, h2, bs_size, h3]
theorem run_store_str (x y : Operand) (ho : o.op = .store 9 x y) (p : Addr) (hx : a.eval x = .pointer (some p)) (l : List UInt8) (hy : a.eval y = .string (bs l)) (v : Value) (hc : w.cell? p = some v) (hf : w.frozen? p = false) :
    (execOp a.eval o).run Try.prog w = .ok .skip (w.setCell p (.string (bs l))) := by
  have hi : (Try.prog.info? 9).map (·.size) = some 1 := by kernel_rfl
  cases hq : Try.prog.info? 9 with
  | none => simp [hq] at hi
  | some i =>
    have hs : i.size = 1 := by simpa [hq] using hi
    unfold execOp
    simp only [ho, hx, hy]
    simp [go_sem, hc, hf, sizeOf, typeInfo, hq, hs]
theorem run_neq_op (x y : Operand) (ho : o.op = .binOp .neq 31 x y 31) (m : Int) (hx : a.eval x = .int .i64 m) (hy : a.eval y = .int .i64 m) :
    (execOp a.eval o).run Try.prog w = .ok (.value (.bool false)) w := by
  unfold execOp
  simp only [ho, hx, hy]
  simp [go_sem]
end
end Go.Proofs.Ytcgjkopdnhkdiaa
