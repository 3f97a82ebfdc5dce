/- Laws of operations on structs within an iterator's walk; the nodes told one by one. -/
import Derived.RangeFuncNested
import Derived.RangeFuncBound
import Derived.RangeFuncCalls
import Derived.RangeFuncLeaves
import Derived.RangeFuncFrom
import Derived.Shelf.Abstract
import Derived.Shelf.RegionOpen
import Derived.OwnWalkIn
import Derived.TacticsInMore
import Derived.LoopNIn
import Derived.LoopIn
import Derived.Test.YtdpeblchndfdaaaTl
namespace Go.Proofs.Ytdpeblchndfdaaa
open Go.RowKit Go.Shelf
attribute [local go_sem] Oper.semAt_some
set_option maxRecDepth 100000
section
variable {F : Fence} {n : Nat} {P : Program} {ops : Array Oper} {rest : List Oper} {op : Oper} {a : Act} {w : World} {Q : Exit → Act → World → Prop}
theorem in_val (hgd : op.guard = none) {v : Value} {w' : World} (hab : op.about P w a.eval = none) (hse : (op.semAt F.round a.eval) = execOp a.eval op) (hr : (execOp a.eval op).run P w = .ok (.value v) w')
    (h : wpListIn F n P ops Q rest (a.put op.dst v) w') : wpListIn F n P ops Q (op :: rest) a w := by
  refine wpListIn_plain hgd fun K hK => ?_
  unfold Oper.wpIn
  refine ⟨fun f hf => ?_, ?_⟩
  · rw [hab] at hf; cases hf
  · rw [hse, hr]
    exact hK _ _ h
theorem in_skip (hgd : op.guard = none) {w' : World} (hab : op.about P w a.eval = none) (hse : (op.semAt F.round a.eval) = execOp a.eval op) (hr : (execOp a.eval op).run P w = .ok .skip w')
    (h : wpListIn F n P ops Q rest (a.put op.dst undef) w') : wpListIn F n P ops Q (op :: rest) a w := by
  refine wpListIn_plain hgd fun K hK => ?_
  unfold Oper.wpIn
  refine ⟨fun f hf => ?_, ?_⟩
  · rw [hab] at hf; cases hf
  · rw [hse, hr]
    exact hK _ _ h
theorem box_in (hgd : op.guard = none) (ty : TypeId) (x : Operand) (ho : op.op = .box ty x) (cs : List Value) (hx : a.eval x = .agg cs.toArray)
    (h : ∀ u, At u w.heap.size ty cs → Below w.heap.size w u → u.heap.size = w.heap.size + 1 → wpListIn F n P ops Q rest (a.put op.dst (.pointer (some ⟨w.heap.size, 0, none⟩))) u) : wpListIn F n P ops Q (op :: rest) a w := by
  refine in_val hgd (v := .pointer (some ⟨w.heap.size, 0, none⟩)) (w' := w.alloc (.cells cs.toArray ty)) (by simp [Oper.about, ho]) (Oper.semAt_plain F _ _ (by rw [ho]; intro c hc; cases hc)) ?_ (h _ (At.new w _ _) ((Below.refl _ w).alloc (Nat.le_refl _) _) (by rw [World.size_alloc]))
  unfold execOp
  simp only [ho, hx]
  simp [go_sem, Value.cells]
theorem alloc_in (hgd : op.guard = none) (ty : TypeId) (ho : op.op = .alloc ty) (cs : List Value) (hz : ∀ w, (zeroValue ty).run P w = .ok (.agg cs.toArray) w)
    (h : ∀ u, At u w.heap.size ty cs → Below w.heap.size w u → u.heap.size = w.heap.size + 1 → wpListIn F n P ops Q rest (a.put op.dst (.pointer (some ⟨w.heap.size, 0, none⟩))) u) : wpListIn F n P ops Q (op :: rest) a w := by
  refine in_val hgd (v := .pointer (some ⟨w.heap.size, 0, none⟩)) (w' := w.alloc (.cells cs.toArray ty)) (by simp [Oper.about, ho]) (Oper.semAt_plain F _ _ (by rw [ho]; intro c hc; cases hc)) ?_ (h _ (At.new w _ _) ((Below.refl _ w).alloc (Nat.le_refl _) _) (by rw [World.size_alloc]))
  have hzw := hz
  unfold execOp
  simp [ho, hzw, go_sem]
theorem load_in (hgd : op.guard = none) (ty : TypeId) (x : Operand) (ho : op.op = .load ty x) (p : Addr) (hx : a.eval x = .pointer (some p)) (cs : List Value) (d : TypeDesc) (hc : ∀ j v, cs[j]? = some v → w.cell? (p.add j) = some v)
    (hu : P.underlying ty = some d) (hd : d.isRow = true) (hi : (P.info? ty).map (·.size) = some cs.length)
    (h : wpListIn F n P ops Q rest (a.put op.dst (.agg cs.toArray)) w) : wpListIn F n P ops Q (op :: rest) a w := by
  have hl : (loadCells p cs.length).run P w = .ok cs.toArray w := run_loadCells_list (P := P) w p cs hc
  refine in_val hgd (v := .agg cs.toArray) (w' := w) (by simp [Oper.about, ho]) (Oper.semAt_plain F _ _ (by rw [ho]; intro c hc; cases hc)) ?_ h
  cases hq : P.info? ty with
  | none => simp [hq] at hi
  | some i =>
    have hs : i.size = cs.length := by simpa [hq] using hi
    have hagg : (isAgg ty).run P w = .ok true w := by
      unfold isAgg
      rw [Sem.run_bind, run_underlying hu w]
      cases d <;> simp_all
    unfold execOp
    simp only [ho, hx, Instr.loadAt, Instr.sureAddr, Sem.run_bind, Sem.run_pure, Result.andThen_ok]
    simp [loadVar, Sem.run_bind, hagg, sizeOf, typeInfo, hq, hs, hl]
theorem store_in (hgd : op.guard = none) (ty : TypeId) (x y : Operand) (ho : op.op = .store ty x y) (B : Nat) (hx : a.eval x = .pointer (some ⟨B, 0, none⟩)) (cs : List Value) (hy : a.eval y = .agg cs.toArray) (old : List Value) (hB : At w B ty old) (hl : cs.length = old.length)
    (hi : (P.info? ty).map (·.size) = some cs.length) (h1 : ∀ v ∈ cs, v.oneCell' = true)
    (h : ∀ u, At u B ty cs → Touch [B] w u → wpListIn F n P ops Q rest (a.put op.dst undef) u) : wpListIn F n P ops Q (op :: rest) a w := by
  refine in_skip hgd (by simp [Oper.about, ho]) (Oper.semAt_plain F _ _ (by rw [ho]; intro c hc; cases hc)) (run_store_op ty x y ho B 0 cs.toArray hx hy (hB.there 0 _ (by simp; omega)) (by simpa using hi) (all_oneCell_toArray h1)) (h _ ?_ (Touch.setCells B (.inl (by simp)) _ _ _ (Touch.refl _ w)))
  have := hB.setCells cs 0 _ _ (by omega)
  rw [show splice old 0 cs = cs from ?_] at this
  · simpa using this
  · unfold splice
    simp [hl]
end
end Go.Proofs.Ytdpeblchndfdaaa
