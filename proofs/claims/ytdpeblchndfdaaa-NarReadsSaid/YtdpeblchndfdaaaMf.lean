/- What stands of tree's texts Te to Tk without the statements' functions of layer 6. -/
import Derived.Test.YtdpeblchndfdaaaTc
import Derived.Test.YtdpeblchndfdaaaSh
import Derived.Lib.IndexBytes
import Derived.Deep.Slices
import Derived.Lib.BufferMore
namespace Go.Proofs.Ytdpeblchndfdaaa
open Go.RowKit
set_option maxRecDepth 100000
section
variable {ops : Array Oper} {rest : List Oper} {op : Oper} {a : Act} {w : World} {Q : Exit → Act → World → Prop}
theorem list_skip {P : Program} {w' : World} (hgd : op.guard = none) (hr : (execOp a.eval op).run P w = .ok .skip w') (h : wpList P ops Q rest (a.put op.dst undef) w') : wpList P ops Q (op :: rest) a w :=
  wpList_plain hgd fun K hK => by
    unfold Oper.wp
    rw [hr]
    exact hK _ _ h
theorem run_min_op (x y : Operand) (ho : op.op = .call { callee := .builtin .min, args := #[x, y], argTypes := #[3, 3] }) (m n r : Int) (hx : a.eval x = .int .i64 m) (hy : a.eval y = .int .i64 n) (hr : (if n < m then n else m) = r) :
    (execOp a.eval op).run Try.prog w = .ok (.value (.int .i64 r)) w := by
  have h2 : (Builtin.min_ #[3, 3] op.type #[.int .i64 m, .int .i64 n]).run Try.prog w = .ok (.int .i64 r) w := by rw [run_min_int2, hr]
  unfold execOp
  simp [ho, resolve, invoke, builtin, hx, hy, h2, Result.andThen]
theorem run_hi_op (p hi : Operand) (ho : op.op = .slice 9 p none (some hi) none) (s : List UInt8) (k : Nat) (hk : k ≤ s.length) (hp : a.eval p = .string (bs s)) (hhi : a.eval hi = .int .i64 (k : Int)) :
    (execOp a.eval op).run Try.prog w = .ok (.value (.string (bs (s.take k)))) w := by
  have h2 : (k : Int) ≤ s.length := by omega
  unfold execOp
  simp only [ho, hp, hhi, Option.map_some, Option.map_none]
  simp [go_sem, run_underlying Try.underlying9, h2, bs_size, bs_take_bs]
theorem run_store_str (x y : Operand) (ho : op.op = .store 9 x y) (p : Addr) (hx : a.eval x = .pointer (some p)) (l : List UInt8) (hy : a.eval y = .string (bs l)) (v : Value) (hc : w.cell? p = some v) (hf : w.frozen? p = false) :
    (execOp a.eval op).run Try.prog w = .ok .skip (w.setCell p (.string (bs l))) := by
  have hi : (Try.prog.info? 9).map (·.size) = some 1 := by kernel_rfl
  cases hq : Try.prog.info? 9 with
  | none => simp [hq] at hi
  | some i =>
    have hs : i.size = 1 := by simpa [hq] using hi
    unfold execOp
    simp only [ho, hx, hy]
    simp [go_sem, hc, hf, sizeOf, typeInfo, hq, hs]
/-- a text is stored in a field of a block that is known whole -/
theorem store_str_any (hgd : op.guard = none) (x y : Operand) (ho : op.op = .store 9 x y) (B i : Nat) (hx : a.eval x = .pointer (some ⟨B, i, none⟩)) (l : List UInt8) (hy : a.eval y = .string (bs l)) {T : TypeId} (old new : List Value) (hB : At w B T old) (hi : i < old.length) (hnew : old.set i (.string (bs l)) = new)
    (h : ∀ u, At u B T new → Touch [B] w u → wpList Try.prog ops Q rest (a.put op.dst undef) u) : wpList Try.prog ops Q (op :: rest) a w :=
  list_skip hgd (run_store_str x y ho ⟨B, i, none⟩ hx l hy _ (hB.cell i _ (List.getElem?_eq_getElem hi)) (hB.frozen i)) (h _ (hnew ▸ hB.setCell i _) ((Touch.refl [B] w).setCell _ _ (.inl (by simp))))
/-- .. a slice -/
theorem store_slice_any (hgd : op.guard = none) (x y : Operand) (ho : op.op = .store 22 x y) (B i : Nat) (hx : a.eval x = .pointer (some ⟨B, i, none⟩)) (ao : Option Addr) (n c : Nat) (hy : a.eval y = .slice ao n c) {T : TypeId} (old new : List Value) (hB : At w B T old) (hi : i < old.length) (hnew : old.set i (.slice ao n c) = new)
    (h : ∀ u, At u B T new → Touch [B] w u → wpList Try.prog ops Q rest (a.put op.dst undef) u) : wpList Try.prog ops Q (op :: rest) a w :=
  list_skip hgd (run_store_slice 22 24 x y ho B i hx ao n c hy _ (hB.cell i _ (List.getElem?_eq_getElem hi)) (hB.frozen i) Try.underlying22 (by kernel_rfl)) (h _ (hnew ▸ hB.setCell i _) ((Touch.refl [B] w).setCell _ _ (.inl (by simp))))
/-- one node, as a row -/
theorem build_nd (hgd : op.guard = none) (x : Operand) (ho : op.op = .buildSlice 22 1 #[(0, x)]) (cs : List Value) (hx : a.eval x = .agg cs.toArray) (hl : cs.length = 5)
    (h : ∀ u, At u w.heap.size 24 cs → Below w.heap.size w u → u.heap.size = w.heap.size + 1 → wpList Try.prog ops Q rest (a.put op.dst (.slice (some ⟨w.heap.size, 0, none⟩) 1 1)) u) : wpList Try.prog ops Q (op :: rest) a w := by
  obtain ⟨i, z, hi, hz, h5, h72, hz5⟩ := info_22
  exact list_val hgd (run_build_op 22 x ho _ hx (build_one w 22 24 cs.toArray i z 5 Try.underlying22 hi hz h5 (by simpa using hl) (by omega) (by omega))) (h _ (At.new w _ _) ((Below.refl _ w).alloc (Nat.le_refl _) _) (by rw [World.size_alloc]))
end
/-- at most six kids of each, so many levels, names of thirty bytes, data of three hundred -/
def cutL : Nat → Nd → Nd
  | 0, n => ⟨n.name.take 30, n.kind, n.exec, n.data.take 300, []⟩
  | l + 1, n => ⟨n.name.take 30, n.kind, n.exec, n.data.take 300, (n.kids.take 6).map (cutL l)⟩
section
variable {ops : Array Oper} {rest : List Oper} {op : Oper} {a : Act} {w : World} {Q : Exit → Act → World → Prop}
theorem run_store_int (x y : Operand) (ho : op.op = .store 3 x y) (p : Addr) (hx : a.eval x = .pointer (some p)) (n : Int) (hy : a.eval y = .int .i64 n) (v : Value) (hc : w.cell? p = some v) (hf : w.frozen? p = false) :
    (execOp a.eval op).run Try.prog w = .ok .skip (w.setCell p (.int .i64 n)) := by
  have hi : (Try.prog.info? 3).map (·.size) = some 1 := by kernel_rfl
  cases hq : Try.prog.info? 3 with
  | none => simp [hq] at hi
  | some i =>
    have hs : i.size = 1 := by simpa [hq] using hi
    unfold execOp
    simp only [ho, hx, hy]
    simp [go_sem, hc, hf, sizeOf, typeInfo, hq, hs]
theorem store_int_any (hgd : op.guard = none) (x y : Operand) (ho : op.op = .store 3 x y) (B i : Nat) (hx : a.eval x = .pointer (some ⟨B, i, none⟩)) (n : Int) (hy : a.eval y = .int .i64 n) {T : TypeId} (old new : List Value) (hB : At w B T old) (hi : i < old.length) (hnew : old.set i (.int .i64 n) = new)
    (h : ∀ u, At u B T new → Touch [B] w u → wpList Try.prog ops Q rest (a.put op.dst undef) u) : wpList Try.prog ops Q (op :: rest) a w :=
  list_skip hgd (run_store_int x y ho ⟨B, i, none⟩ hx n hy _ (hB.cell i _ (List.getElem?_eq_getElem hi)) (hB.frozen i)) (h _ (hnew ▸ hB.setCell i _) ((Touch.refl [B] w).setCell _ _ (.inl (by simp))))
theorem alloc_int (hgd : op.guard = none) (ho : op.op = .alloc 3)
    (h : ∀ u, At u w.heap.size 3 [.int .i64 0] → Below w.heap.size w u → u.heap.size = w.heap.size + 1 → wpList Try.prog ops Q rest (a.put op.dst (.pointer (some ⟨w.heap.size, 0, none⟩))) u) : wpList Try.prog ops Q (op :: rest) a w := by
  refine list_val hgd (v := .pointer (some ⟨w.heap.size, 0, none⟩)) (w' := w.alloc (.cells #[.int .i64 0] 3)) ?_ (h _ (At.new w _ _) ((Below.refl _ w).alloc (Nat.le_refl _) _) (by rw [World.size_alloc]))
  have hz : (zeroValue 3).run Try.prog w = .ok (.int .i64 0) w := by kernel_rfl
  unfold execOp
  simp only [ho]
  simp [go_sem, hz, Value.cells]
end
/-- one more, in the same world -/
theorem KidsAt.append2 {base : Nat} {u : World} {h : Nat} {ps : List Tri} {ao : Option Addr} {cap : Nat} (K : KidsAt base u h ps ao cap) (p : Tri) (hM : Has (fun i => base ≤ i ∧ i ∉ blk ao) u h p.1 p.2.1) (hn : ps.length ≤ 1000000) (hb : base ≤ u.heap.size)
    {B T2 : Nat} {u1 : World} (b1 : Below u.heap.size u u1) (hB : At u1 B T2 p.cells) :
    ∃ ao' cap' w', (Builtin.append_ #[22, 22] 22 #[.slice ao ps.length cap, .slice (some ⟨B, 0, none⟩) 1 1]).run Try.prog u1 = .ok (.slice ao' (ps.length + 1) cap') w' ∧ KidsAt base w' h (ps ++ [p]) ao' cap' ∧ Touch (blk ao) u1 w' := by
  obtain ⟨i, z, hi, hz, h5, h72, hz5⟩ := info_22
  have K1 := K.below b1
  have hz2 := b1.size
  obtain ⟨ao', cap', w', hrun, hO, hT, hblk⟩ := run_append_any (P := Try.prog) u1 22 22 24 i z 5 72 Try.underlying22 hi hz h5 h72 hz5 (by omega) ao ps.length cap _ K1.own B 1 1 p.cells hB rfl (nd_one p.1 p.2.1 p.2.2) (by omega) (by unfold maxLen; omega) (by omega)
  refine ⟨ao', cap', w', hrun, ⟨?_, ?_, ?_⟩, hT⟩
  · rw [List.length_append, List.flatMap_append]
    simpa using hO
  · intro k hk
    rcases hblk with e | ⟨g, e, hg⟩
    · rw [e] at hk; exact K.new k hk
    · rw [e] at hk; simp at hk; omega
  · have keep : ∀ (m : Nd) (g : Option Addr), Has (fun i => base ≤ i ∧ i ∉ blk ao) u1 h m g → Has (fun i => base ≤ i ∧ i ∉ blk ao') w' h m g := fun m g hm => by
      refine Has.kept (fun i hi hl => ⟨hi.1, fun e => ?_⟩) (fun i hi hl => hT.block i hl hi.2) h m g hm
      rcases hblk with e2 | ⟨g2, e2, hg⟩
      · rw [e2] at e; exact hi.2 e
      · rw [e2] at e; simp at e; omega
    intro q hq
    rcases List.mem_append.mp hq with hq | hq
    · exact keep _ _ (K1.has q hq)
    · simp only [List.mem_singleton] at hq
      subst hq
      exact keep _ _ (hM.below b1)
/-- a node, as long as some are left -/
def fewerL : Nat → Nd → Nat → Nd × Nat
  | 0, n, left => (n, left)
  | h + 1, n, left =>
    let r := n.kids.foldl (fun (s : List Nd × Nat) k => if s.2 = 0 then s else (s.1 ++ [(fewerL h k (s.2 - 1)).1], (fewerL h k (s.2 - 1)).2)) ([], left)
    (⟨n.name, n.kind, n.exec, n.data, r.1⟩, r.2)
def fewStep (h : Nat) (s : List Nd × Nat) (k : Nd) : List Nd × Nat := if s.2 = 0 then s else (s.1 ++ [(fewerL h k (s.2 - 1)).1], (fewerL h k (s.2 - 1)).2)
theorem fewerL_succ (h : Nat) (n : Nd) (left : Nat) : fewerL (h + 1) n left = (⟨n.name, n.kind, n.exec, n.data, (n.kids.foldl (fewStep h) ([], left)).1⟩, (n.kids.foldl (fewStep h) ([], left)).2) := rfl
theorem fold_le (h : Nat) (hle : ∀ n left, (fewerL h n left).2 ≤ left) : ∀ (l : List Nd) (s : List Nd × Nat), (l.foldl (fewStep h) s).2 ≤ s.2
  | [], s => Nat.le_refl _
  | k :: r, s => by
    rw [List.foldl_cons]
    refine Nat.le_trans (fold_le h hle r _) ?_
    unfold fewStep
    split
    · exact Nat.le_refl _
    · have := hle k (s.2 - 1)
      show (fewerL h k (s.2 - 1)).2 ≤ _
      omega
theorem fewerL_le : ∀ (h : Nat) (n : Nd) (left : Nat), (fewerL h n left).2 ≤ left
  | 0, _, _ => Nat.le_refl _
  | h + 1, n, left => fold_le h (fewerL_le h) n.kids ([], left)
theorem fold_stop (h : Nat) : ∀ (l : List Nd) (s : List Nd × Nat), s.2 = 0 → l.foldl (fewStep h) s = s
  | [], _, _ => rfl
  | k :: r, s, e => by
    rw [List.foldl_cons, show fewStep h s k = s by unfold fewStep; rw [if_pos e]]
    exact fold_stop h r s e
theorem fold_here (h : Nat) (l : List Nd) (k : Nat) (s : List Nd × Nat) (e : ((l.take k).foldl (fewStep h) s).2 = 0) : l.foldl (fewStep h) s = (l.take k).foldl (fewStep h) s := by
  conv => lhs; rw [← List.take_append_drop k l, List.foldl_append]
  exact fold_stop h _ _ e
/-- as much of a node as has at most three hundred nodes -/
def smallL (n : Nd) : Nd := (fewerL 17 (cutL 16 n) 300).1
/-- the first of them that has this name -/
def idxL (nm : List UInt8) (ks : List Nd) : Int := match ks.findIdx? (fun k => k.name == nm) with | some i => (i : Int) | none => -1
theorem idx_none (nm : List UInt8) (ks : List Nd) (h : ∀ m ∈ ks, (m.name == nm) = false) : idxL nm ks = -1 := by
  unfold idxL
  rw [List.findIdx?_eq_none_iff.mpr (fun x hx => h x hx)]
theorem idx_at (nm : List UInt8) (ks : List Nd) (k : Nat) (m : Nd) (hm : ks[k]? = some m) (h1 : (m.name == nm) = true) (h : ∀ m ∈ ks.take k, (m.name == nm) = false) : idxL nm ks = k := by
  have hl := (List.getElem?_eq_some_iff.1 hm).1
  have : ks.findIdx? (fun k => k.name == nm) = some k := by
    rw [List.findIdx?_eq_some_iff_getElem]
    refine ⟨hl, by rw [(List.getElem?_eq_some_iff.1 hm).2]; exact h1, fun j hj => ?_⟩
    have := h (ks[j]'(by omega)) (List.mem_take_iff_getElem.mpr ⟨j, by omega, rfl⟩)
    rw [this]; decide
  unfold idxL
  rw [this]
def indexL (n : Nd) (nm : List UInt8) : Int := if n.kind ≠ 2 ∨ nm = [] then -1 else idxL nm n.kids
/-- the walk is to stop ahead of the operation that fills this slot -/
def held (p : Prop) : Prop := p
theorem hold_at {P : Program} {ops : Array Oper} {rest : List Oper} {op : Oper} {a : Act} {w : World} {Q : Exit → Act → World → Prop} (k : Nat) (hd : op.dst = some k) (h : held (wpList P ops Q (op :: rest) a w)) : wpList P ops Q (op :: rest) a w := h
theorem add_two (a : Addr) (i j : Nat) : (a.add i).add j = a.add (i + j) := Go.Deep.add_add a i j
/-- the rows of these -/
def Rowd (w : World) (ps : List Tri) (ao : Option Addr) : Prop := ∀ i p, ps[i]? = some p → ∃ a, ao = some a ∧ Kid w a i p.cells
theorem Kid.flat {w : World} {a : Addr} {ps : List Tri} (h : ∀ i p, ps[i]? = some p → Kid w a i p.cells) : ∀ j u, (ps.flatMap Tri.cells)[j]? = some u → w.cell? (a.add j) = some u := fun j u hj => by
  have hjl := (List.getElem?_eq_some_iff.1 hj).1
  rw [flat_len] at hjl
  obtain ⟨p, hp⟩ : ∃ p, ps[j / 5]? = some p := ⟨_, List.getElem?_eq_getElem (by omega)⟩
  have h5 : p.cells.length = 5 := rfl
  obtain ⟨v, hv⟩ : ∃ v, p.cells[j % 5]? = some v := ⟨_, List.getElem?_eq_getElem (by rw [h5]; omega)⟩
  have h1 := flat_get ps (j / 5) (j % 5) p v hp hv
  have e : j / 5 * 5 + j % 5 = j := by omega
  rw [e, hj] at h1
  cases h1
  have h2 := h _ p hp _ u hv
  rw [add_two, e] at h2
  exact h2
theorem flat_one (ps : List Tri) : ∀ u ∈ ps.flatMap Tri.cells, u.oneCell' = true := fun u hu => by
  obtain ⟨p, _, hp⟩ := List.mem_flatMap.mp hu
  exact nd_one p.1 p.2.1 p.2.2 u hp
theorem Has.tris {S : Nat → Prop} {w : World} {h : Nat} {n : Nd} {ao : Option Addr} (hH : Has S w (h + 1) n ao) : ∃ ps : List Tri, ps.map (·.1) = n.kids ∧ Rowd w ps ao ∧ ∀ p ∈ ps, Has S w h p.1 p.2.1 := by
  have hx : ∀ i : Fin n.kids.length, ∃ p : Tri, p.1 = n.kids[i] ∧ (∃ a, ao = some a ∧ Kid w a i.1 p.cells) ∧ Has S w h p.1 p.2.1 := fun i => by
    obtain ⟨a, g, c, e, _, hK, hM⟩ := hH.2 i.1 (n.kids[i]) (List.getElem?_eq_getElem i.2)
    exact ⟨(n.kids[i], g, c), rfl, ⟨a, e, hK⟩, hM⟩
  refine ⟨List.ofFn fun i => Classical.choose (hx i), ?_, fun i p hp => ?_, fun p hp => ?_⟩
  · apply List.ext_getElem
    · simp
    · intro i h1 h2
      simp only [List.getElem_map, List.getElem_ofFn]
      exact (Classical.choose_spec (hx ⟨i, h2⟩)).1
  · rw [List.getElem?_ofFn] at hp
    split at hp
    · rename_i hil
      cases hp
      exact (Classical.choose_spec (hx ⟨i, hil⟩)).2.1
    · cases hp
  · obtain ⟨i, rfl⟩ := List.mem_ofFn.mp hp
    exact (Classical.choose_spec (hx i)).2.2
/-- no more kids than can be copied -/
def Slim : Nat → Nd → Prop
  | 0, _ => True
  | h + 1, n => n.kids.length ≤ 1000000 ∧ ∀ m ∈ n.kids, Slim h m
/-- kids that were made since w0 are answered -/
def MadeK (w0 w' : World) (h : Nat) (n : Nd) (e : Ending) : Prop := ∃ ao cap, e = .returned (.slice ao n.kids.length cap) ∧ Has (fun i => w0.heap.size ≤ i) w' h n ao
theorem flat_set (qs : List Tri) (cur : List Value) (k : Nat) (p : Tri) (g : Option Addr) (c : Nat) (hk : qs[k]? = some p) : (qs.flatMap Tri.cells ++ cur).set (k * 5 + 4) (.slice g p.1.kids.length c) = (qs.set k (p.1, g, c)).flatMap Tri.cells ++ cur := by
  induction qs generalizing k with
  | nil => simp at hk
  | cons q r ih =>
    cases k with
    | zero =>
      simp only [List.getElem?_cons_zero, Option.some.injEq] at hk
      subst hk
      rfl
    | succ k =>
      have h5 : q.cells.length = 5 := rfl
      rw [List.flatMap_cons, List.append_assoc, List.set_append_right _ _ (by rw [h5]; omega), h5, show (k + 1) * 5 + 4 - 5 = k * 5 + 4 by omega, ih k (by simpa using hk)]
      rw [List.set_cons_succ, List.flatMap_cons, List.append_assoc]
theorem Own.other {w u : World} {e : TypeId} {size n cap g : Nat} {xs xs' cur : List Value} (h : Own w e size (some ⟨g, 0, none⟩) n cap xs) (hA : At w g e (xs ++ cur)) (hU : At u g e (xs' ++ cur)) (hl : xs'.length = xs.length) : Own u e size (some ⟨g, 0, none⟩) n cap xs' := by
  refine ⟨by rw [hl]; exact h.1, ?_⟩
  rcases h.2 with ⟨h0, _⟩ | ⟨g', cap', cur0, hv, hb, hg, r1, r2, r3, r4⟩
  · cases h0
  · cases hv
    refine .inr ⟨g, cap, (xs' ++ cur).toArray, rfl, hb, hU, r1, r2, ?_, ?_⟩
    · unfold At at hA
      rw [hg] at hA
      cases hA
      rw [← r3]
      simp [hl]
    · have h1 := h.1
      rw [← hl] at h1
      simp only []
      rw [← h1, List.take_left]
end Go.Proofs.Ytdpeblchndfdaaa
