/- A remainder and a turn of a byte, at an operation. -/
import Derived.Test.YtcgjkopdnhkdiaaDn
import Derived.Test.YtcgjkopdnhkdiaaDp
namespace Go.Proofs.Ytcgjkopdnhkdiaa
open Go.RowKit
set_option maxRecDepth 100000
/-- where S holds behind the last operation, too: t is none of them -/
theorem wpAnyT_takeN {P : Program} {md : Region.Mode} {ops : Array Oper} {Q : Exit → Act → World → Prop} {S : World → Prop} {t : Nat} {i : Nat} {oi : Oper} {v : Value} {fuel : Nat} {listed : Array Bool} {a : Act} {w : World} (hi : ops[i]? = some oi) (ht : ops.size ≤ t)
    (hs : Region.noSelect ops = true) (hf : Region.free md ops listed i = true) (hr : (Region.ready md ops listed).contains i = true)
    (hQ : ∀ c a w, Q (.panic c) (a.put oi.dst v) w → Q (.panic c) a w) (hy : YieldsIf P ops S oi v a) (hS : S w)
    (h : wpAnyT P md ops Q S t fuel (listed.setIfInBounds i true) (a.put oi.dst v) w) : wpAnyT P md ops Q S t (fuel + 1) listed a w := by
  have hlt : i < ops.size := (Array.getElem?_eq_some_iff.1 hi).1
  refine wpAnyT_first hi (by omega) (fun o ho => ?_) (Region.noSelect_spec hs) hQ fuel listed a w (Region.free_spec hi hf) (by simpa using hr) hy hS h
  have := (Array.getElem?_eq_some_iff.1 ho).1
  omega
theorem run_rem4 {o : Oper} {a : Act} {w : World} (x : Operand) (ty tt : TypeId) (hty : Try.prog.underlying ty = some (.int .u8)) (ho : o.op = .binOp .rem ty x (.const (.int .u8 4)) tt) (n : Nat) (hx : a.eval x = .int .u8 (n : Int)) :
    (execOp a.eval o).run Try.prog w = .ok (.value (.int .u8 ((n % 4 : Nat) : Int))) w := by
  have e : (n : Int).tmod 4 = ((n % 4 : Nat) : Int) := by rw [Int.tmod_eq_emod_of_nonneg (by omega)]; omega
  have e2 : IntKind.u8.wrap ((n % 4 : Nat) : Int) = ((n % 4 : Nat) : Int) := by simp only [IntKind.wrap, IntKind.bits, IntKind.signed]; simp; omega
  have hc : a.eval (.const (.int .u8 4)) = .int .u8 4 := rfl
  generalize ((n % 4 : Nat) : Int) = m at *
  unfold execOp
  simp only [ho, hx, hc]
  simp [go_sem, e, e2]
theorem run_cv {o : Oper} {a : Act} {w : World} (x : Operand) (ho : o.op = .convert 5 3 x) (n : Nat) (hn : n < 256) (hx : a.eval x = .int .u8 (n : Int)) :
    (execOp a.eval o).run Try.prog w = .ok (.value (.int .i64 (n : Int))) w := by
  have e2 : IntKind.i64.wrap (n : Int) = (n : Int) := by rw [IntKind.wrap_i64]; omega
  refine run_convert_op 5 3 x ho _ hx ?_
  generalize (n : Int) = m at *
  simp [go_sem, convert, run_underlying Try.underlying3, run_underlying Try.underlying5, e2]
end Go.Proofs.Ytcgjkopdnhkdiaa
