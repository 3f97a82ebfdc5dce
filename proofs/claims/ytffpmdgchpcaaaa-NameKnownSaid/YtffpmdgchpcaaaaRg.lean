/- Two operations, by themselves. -/
import Derived.Test.YtffpmdgchpcaaaaSf
import Derived.Test.YtffpmdgchpcaaaaSn
namespace Go.Proofs.Ytffpmdgchpcaaaa
open Go.RowKit
attribute [local go_sem] bs_size
theorem run_add64 {o : Oper} {a : Act} {w : World} (p q : Operand) (ho : o.op = .binOp .add 3 p q 3) (_ht : o.type = 3) (x y z : Int) (hx : a.eval p = .int .i64 x) (hy : a.eval q = .int .i64 y) (hw : IntKind.i64.wrap (x + y) = z) :
    (execOp a.eval o).run Try.prog w = .ok (.value (.int .i64 z)) w := by
  unfold execOp
  simp only [ho, hx, hy]
  simp [go_sem, hw]
theorem bs_cut (s : List UInt8) (i j : Nat) (_h : i ≤ j) : (bs s).extract i j = bs ((s.drop i).take (j - i)) := by
  apply ByteArray.ext
  rw [ByteArray.data_extract]
  unfold bs
  apply Array.ext'
  simp only [Array.toList_extract, List.extract_eq_take_drop]
theorem run_slice_str {o : Oper} {a : Act} {w : World} (p lo hi : Operand) (ho : o.op = .slice 9 p (some lo) (some hi) none) (s : List UInt8) (i j : Nat) (x y : Int) (hp : a.eval p = .string (bs s)) (hlo : a.eval lo = .int .i64 x) (hhi : a.eval hi = .int .i64 y) (ex : x = i) (ey : y = j) (hij : i ≤ j) (hj : j ≤ s.length) :
    (execOp a.eval o).run Try.prog w = .ok (.value (.string (bs ((s.drop i).take (j - i))))) w := by
  subst ex ey
  have h1 : (i : Int) ≤ j := by omega
  have h2 : (j : Int) ≤ s.length := by omega
  have h3 := bs_cut s i j hij
  unfold execOp
  simp only [ho, Option.map_some, Option.map_none, hp, hlo, hhi]
  simp [go_sem, h1, h2, h3]
end Go.Proofs.Ytffpmdgchpcaaaa
