/- Laws of operations on structs, which leave the world a variable; rows of nodes. -/
import Derived.Test.YtdpeblchndfdaaaTa
import Derived.Test.YtdpeblchndfdaaaRows
import Derived.WalkKit
import Derived.WalkSpells
import Derived.WalkLawsBesides
import Derived.Lib.Hide
import Derived.LoopTactic
import Derived.StillTailTactics
import Derived.Laws.ResultCell
namespace Go.Proofs.Ytdpeblchndfdaaa
open Go.RowKit
set_option maxRecDepth 100000
section
variable {P : Program} {ops : Array Oper} {rest : List Oper} {op : Oper} {a : Act} {w : World} {Q : Exit → Act → World → Prop}
theorem box_any (hgd : op.guard = none) (ty : TypeId) (x : Operand) (ho : op.op = .box ty x) (cs : List Value) (hx : a.eval x = .agg cs.toArray)
    (h : ∀ u, At u w.heap.size ty cs → Below w.heap.size w u → u.heap.size = w.heap.size + 1 → wpList P ops Q rest (a.put op.dst (.pointer (some ⟨w.heap.size, 0, none⟩))) u) : wpList P ops Q (op :: rest) a w := by
  refine list_val hgd (v := .pointer (some ⟨w.heap.size, 0, none⟩)) (w' := w.alloc (.cells cs.toArray ty)) ?_ (h _ (At.new w _ _) ((Below.refl _ w).alloc (Nat.le_refl _) _) (by rw [World.size_alloc]))
  unfold execOp
  simp only [ho, hx]
  simp [go_sem, Value.cells]
theorem alloc_any (hgd : op.guard = none) (ty : TypeId) (ho : op.op = .alloc ty) (cs : List Value) (hz : ∀ w, (zeroValue ty).run P w = .ok (.agg cs.toArray) w)
    (h : ∀ u, At u w.heap.size ty cs → Below w.heap.size w u → u.heap.size = w.heap.size + 1 → wpList P ops Q rest (a.put op.dst (.pointer (some ⟨w.heap.size, 0, none⟩))) u) : wpList P ops Q (op :: rest) a w :=
  alloc_agg hgd ty ho cs.toArray hz (h _ (At.new w _ _) ((Below.refl _ w).alloc (Nat.le_refl _) _) (by rw [World.size_alloc]))
theorem store_any (hgd : op.guard = none) (ty : TypeId) (x y : Operand) (ho : op.op = .store ty x y) (B : Nat) (hx : a.eval x = .pointer (some ⟨B, 0, none⟩)) (cs : List Value) (hy : a.eval y = .agg cs.toArray) (old : List Value) (hB : At w B ty old) (hl : cs.length = old.length)
    (hi : (P.info? ty).map (·.size) = some cs.length) (h1 : ∀ v ∈ cs, v.oneCell' = true)
    (h : ∀ u, At u B ty cs → Touch [B] w u → wpList P ops Q rest (a.put op.dst undef) u) : wpList P ops Q (op :: rest) a w := by
  refine wpList_store_mid hgd ty x y ho B 0 cs.toArray hx hy (hB.there 0 _ (by simp; omega)) (by simpa using hi) (all_oneCell_toArray h1) (h _ ?_ (Touch.setCells B (.inl (by simp)) _ _ _ (Touch.refl _ w)))
  have := hB.setCells cs 0 _ _ (by omega)
  rw [show splice old 0 cs = cs from ?_] at this
  · simpa using this
  · unfold splice
    simp [hl]
end
theorem nd_one (n : Nd) (ao : Option Addr) (cap : Nat) : ∀ v ∈ n.cells ao cap, v.oneCell' = true := by
  intro v hv
  unfold Nd.cells at hv
  simp only [List.mem_cons, List.not_mem_nil, or_false] at hv
  rcases hv with rfl | rfl | rfl | rfl | rfl <;> rfl
end Go.Proofs.Ytdpeblchndfdaaa
