/- The statements' helpers: file, link, dir; rows of two nodes, of three texts. -/
import Derived.Test.YtfflkpggmhlfpaaDoorTx
namespace Go.Proofs.YtfflkpggmhlfpaaDoor
open Go.RowKit
set_option maxRecDepth 100000
theorem build_leaf {o : Oper} {a : Act} {w : World} (x y : Operand) (k : Int) (ho : o.op = .build 24 #[(0, x), (1, .const (.int .i64 k)), (3, y)]) (s d : List UInt8) (hx : a.eval x = .string (bs s)) (hy : a.eval y = .string (bs d)) :
    (execOp a.eval o).run Tryd.prog w = .ok (.value (.agg (Nd.cells ⟨s, k, false, d, []⟩ none 0).toArray)) w := by
  have hz := zero_nd w
  have hk : a.eval (.const (.int .i64 k)) = .int .i64 k := rfl
  unfold execOp
  simp only [ho, List.map_toArray, List.map_cons, List.map_nil, hx, hy, hk]
  simp [go_sem, hz, Nd.cells, Nd.name, Nd.kind, Nd.exec, Nd.data, Nd.kids]
theorem build_dir {o : Oper} {a : Act} {w : World} (x y : Operand) (ho : o.op = .build 24 #[(0, x), (1, .const (.int .i64 2)), (4, y)]) (s : List UInt8) (ks : List Nd) (ao : Option Addr) (c : Nat) (hx : a.eval x = .string (bs s)) (hy : a.eval y = .slice ao ks.length c) :
    (execOp a.eval o).run Tryd.prog w = .ok (.value (.agg (Nd.cells ⟨s, 2, false, [], ks⟩ ao c).toArray)) w := by
  have hz := zero_nd w
  have hk : a.eval (.const (.int .i64 2)) = .int .i64 2 := rfl
  have hb : bs [] = ⟨#[]⟩ := rfl
  unfold execOp
  simp only [ho, List.map_toArray, List.map_cons, List.map_nil, hx, hy, hk]
  simp [go_sem, hz, hb, Nd.cells, Nd.name, Nd.kind, Nd.exec, Nd.data, Nd.kids]

theorem file_any (s d : List UInt8) (w : World) :
    Calls Tryd.prog 20 #[.string (bs s), .string (bs d)] w fun e w' => Below w.heap.size w w' ∧ e = .returned (Nd.v ⟨s, 1, false, d, []⟩ none 0) := by
  obtain ⟨n, hn⟩ : ∃ n : Nd, n = ⟨s, 1, false, d, []⟩ := ⟨_, rfl⟩
  rw [← hn]
  go_enter Tryd.func20, Tryd.ntmps20
  go_wp2_with (first
    | (with_reducible refine alloc_any rfl 24 rfl _ zero_nd ?_; intro u hu bu zu; have HU := Lib.hid hu; have BU := Lib.hid bu; clear hu bu)
    | (with_reducible refine list_val rfl (build_leaf (.tmp 5) (.tmp 6) 1 rfl s d rfl rfl) ?_; rw [← hn])
    | (refine store_any rfl 24 (.tmp 4) (.tmp 7) rfl w.heap.size rfl (n.cells none 0) rfl _ HU.out rfl info_nd (nd_one n none 0) ?_; intro u2 hu2 tu2; have HU2 := Lib.hid hu2; have HT2 := Lib.hid tu2; clear hu2 tu2))
  (try simp only [Exit.inBlock, Exit.then])
  refine bodyPost_ret (v := n.v none 0) ?_ rfl ⟨HT2.out.below BU.out (by simp) (Nat.le_refl _), rfl⟩
  exact results_cell_row (fn := Tryd.f20) (p := 4) (ty := 24) rfl _ _ w.heap.size 24 _ (0, 0) _ rfl HU2.out Tryd.underlying24 rfl info_nd

theorem link_any (s d : List UInt8) (w : World) :
    Calls Tryd.prog 23 #[.string (bs s), .string (bs d)] w fun e w' => Below w.heap.size w w' ∧ e = .returned (Nd.v ⟨s, 3, false, d, []⟩ none 0) := by
  obtain ⟨n, hn⟩ : ∃ n : Nd, n = ⟨s, 3, false, d, []⟩ := ⟨_, rfl⟩
  rw [← hn]
  go_enter Tryd.func23, Tryd.ntmps23
  go_wp2_with (first
    | (with_reducible refine alloc_any rfl 24 rfl _ zero_nd ?_; intro u hu bu zu; have HU := Lib.hid hu; have BU := Lib.hid bu; clear hu bu)
    | (with_reducible refine list_val rfl (build_leaf (.tmp 5) (.tmp 6) 3 rfl s d rfl rfl) ?_; rw [← hn])
    | (refine store_any rfl 24 (.tmp 4) (.tmp 7) rfl w.heap.size rfl (n.cells none 0) rfl _ HU.out rfl info_nd (nd_one n none 0) ?_; intro u2 hu2 tu2; have HU2 := Lib.hid hu2; have HT2 := Lib.hid tu2; clear hu2 tu2))
  (try simp only [Exit.inBlock, Exit.then])
  refine bodyPost_ret (v := n.v none 0) ?_ rfl ⟨HT2.out.below BU.out (by simp) (Nat.le_refl _), rfl⟩
  exact results_cell_row (fn := Tryd.f23) (p := 4) (ty := 24) rfl _ _ w.heap.size 24 _ (0, 0) _ rfl HU2.out Tryd.underlying24 rfl info_nd
section
variable {ops : Array Oper} {rest : List Oper} {op : Oper} {a : Act} {w : World} {Q : Exit → Act → World → Prop}

theorem dir_any (s : List UInt8) (ks : List Nd) (ao : Option Addr) (c : Nat) (w : World) :
    Calls Tryd.prog 22 #[.string (bs s), .slice ao ks.length c] w fun e w' => Below w.heap.size w w' ∧ e = .returned (Nd.v ⟨s, 2, false, [], ks⟩ ao c) := by
  obtain ⟨n, hn⟩ : ∃ n : Nd, n = ⟨s, 2, false, [], ks⟩ := ⟨_, rfl⟩
  rw [← hn]
  go_enter Tryd.func22, Tryd.ntmps22
  go_wp2_with (first
    | (with_reducible refine alloc_any rfl 24 rfl _ zero_nd ?_; intro u hu bu zu; have HU := Lib.hid hu; have BU := Lib.hid bu; clear hu bu)
    | (with_reducible refine list_val rfl (build_dir (.tmp 5) (.tmp 6) rfl s ks ao c rfl rfl) ?_; rw [← hn])
    | (refine store_any rfl 24 (.tmp 4) (.tmp 7) rfl w.heap.size rfl (n.cells ao c) rfl _ HU.out rfl info_nd (nd_one n ao c) ?_; intro u2 hu2 tu2; have HU2 := Lib.hid hu2; have HT2 := Lib.hid tu2; clear hu2 tu2))
  (try simp only [Exit.inBlock, Exit.then])
  refine bodyPost_ret (v := n.v ao c) ?_ rfl ⟨HT2.out.below BU.out (by simp) (Nat.le_refl _), rfl⟩
  exact results_cell_row (fn := Tryd.f22) (p := 4) (ty := 24) rfl _ _ w.heap.size 24 _ (0, 0) _ rfl HU2.out Tryd.underlying24 rfl info_nd
/-- a slice of two nodes -/
theorem build_two (w : World) (c1 c2 : List Value) (h1 : c1.length = 5) (h2 : c2.length = 5) :
    (Instr.buildSlice 22 2 #[(0, .agg c1.toArray), (1, .agg c2.toArray)]).run Tryd.prog w = .ok (.slice (some ⟨w.heap.size, 0, none⟩) 2 2) (w.alloc (.cells (c1 ++ c2).toArray 24)) := by
  obtain ⟨i, z, hi, hz, h5, h72, hz5⟩ := info_22
  refine run_buildSlice w 22 24 2 #[(0, .agg c1.toArray), (1, .agg c2.toArray)] (c1 ++ c2).toArray i z Tryd.underlying22 hi hz (by rw [h5]; omega) (by rw [h5]; omega) ?_
  have hsz : ((Array.range (2 * i.size)).map (z.cells[· % z.cells.size]!)).size = 10 := by rw [Array.size_map, Array.size_range, h5]
  generalize (Array.range (2 * i.size)).map (z.cells[· % z.cells.size]!) = Z at *
  obtain ⟨l, rfl⟩ : ∃ l : List Value, Z = l.toArray := ⟨Z.toList, by simp⟩
  match c1, c2, l, h1, h2, hsz with
  | [a0, a1, a2, a3, a4], [b0, b1, b2, b3, b4], [_, _, _, _, _, _, _, _, _, _], _, _, _ => simp [Instr.fill, Value.cells, h5]
theorem run_build2_op {o : Oper} {a : Act} {w : World} (x y : Operand) (ho : o.op = .buildSlice 22 2 #[(0, x), (1, y)]) (c1 c2 : List Value) (hx : a.eval x = .agg c1.toArray) (hy : a.eval y = .agg c2.toArray) (h1 : c1.length = 5) (h2 : c2.length = 5) :
    (execOp a.eval o).run Tryd.prog w = .ok (.value (.slice (some ⟨w.heap.size, 0, none⟩) 2 2)) (w.alloc (.cells (c1 ++ c2).toArray 24)) := by
  have hr := build_two w c1 c2 h1 h2
  unfold execOp
  simp only [ho, List.map_toArray, List.map_cons, List.map_nil, hx, hy, Sem.run_bind, hr, Result.andThen_ok]
  rfl
theorem build_nds (hgd : op.guard = none) (x y : Operand) (ho : op.op = .buildSlice 22 2 #[(0, x), (1, y)]) (c1 c2 : List Value) (hx : a.eval x = .agg c1.toArray) (hy : a.eval y = .agg c2.toArray) (h1 : c1.length = 5) (h2 : c2.length = 5)
    (h : ∀ u, At u w.heap.size 24 (c1 ++ c2) → Below w.heap.size w u → u.heap.size = w.heap.size + 1 → wpList Tryd.prog ops Q rest (a.put op.dst (.slice (some ⟨w.heap.size, 0, none⟩) 2 2)) u) : wpList Tryd.prog ops Q (op :: rest) a w :=
  list_val hgd (run_build2_op x y ho c1 c2 hx hy h1 h2) (h _ (At.new w _ _) ((Below.refl _ w).alloc (Nat.le_refl _) _) (by rw [World.size_alloc]))
end
/-- three texts -/
theorem run_texts3_op {o : Oper} {a : Act} {w : World} (x y z : Operand) (ho : o.op = .buildSlice 33 3 #[(0, x), (1, y), (2, z)]) (s t u : List UInt8) (hx : a.eval x = .string (bs s)) (hy : a.eval y = .string (bs t)) (hz : a.eval z = .string (bs u)) :
    (execOp a.eval o).run Tryd.prog w = .ok (.value (.slice (some ⟨w.heap.size, 0, none⟩) 3 3)) (w.alloc (.cells #[.string (bs s), .string (bs t), .string (bs u)] 9)) := by
  obtain ⟨i, zz, hi, hzz, h1, h16, hz1⟩ := info_9
  have hr : (Instr.buildSlice 33 3 #[(0, .string (bs s)), (1, .string (bs t)), (2, .string (bs u))]).run Tryd.prog w = .ok (.slice (some ⟨w.heap.size, 0, none⟩) 3 3) (w.alloc (.cells #[.string (bs s), .string (bs t), .string (bs u)] 9)) := by
    refine run_buildSlice w 33 9 3 #[(0, .string (bs s)), (1, .string (bs t)), (2, .string (bs u))] #[.string (bs s), .string (bs t), .string (bs u)] i zz Tryd.underlying33 hi hzz (by rw [h1]; omega) (by rw [h1]; omega) ?_
    have hsz : ((Array.range (3 * i.size)).map (zz.cells[· % zz.cells.size]!)).size = 3 := by rw [Array.size_map, Array.size_range, h1]
    generalize (Array.range (3 * i.size)).map (zz.cells[· % zz.cells.size]!) = Z at *
    obtain ⟨l, rfl⟩ : ∃ l : List Value, Z = l.toArray := ⟨Z.toList, by simp⟩
    match l, hsz with
    | [_, _, _], _ => simp [Instr.fill, Value.cells, h1]
  unfold execOp
  simp only [ho, List.map_toArray, List.map_cons, List.map_nil, hx, hy, hz, Sem.run_bind, hr, Result.andThen_ok]
  rfl
/-- nodes that lie in one block of their own, and what they have -/
theorem Has.rows {w : World} {S : Nat → Prop} {B : Nat} (n : Nd) (ps : List Tri) (h : Nat) (hn : n.kids = ps.map (·.1)) (hm : ps.length ≤ maxLen) (hS : S B) (hA : At w B 24 (ps.flatMap Tri.cells)) (hH : ∀ p ∈ ps, Has S w h p.1 p.2.1) : Has S w (h + 1) n (some ⟨B, 0, none⟩) := by
  refine ⟨by rw [hn, List.length_map]; exact hm, fun i m hi => ?_⟩
  rw [hn, List.getElem?_map] at hi
  obtain ⟨p, hp, rfl⟩ := Option.map_eq_some_iff.mp hi
  refine ⟨_, p.2.1, p.2.2, rfl, hS, fun j v hj => ?_, hH p (List.mem_of_getElem? hp)⟩
  rw [show ((⟨B, 0, none⟩ : Addr).add (i * 5)).add j = (⟨B, 0, none⟩ : Addr).add (i * 5 + j) from by simp [Go.Deep.add_add], Addr.add0]
  exact hA.cell _ _ (flat_get ps i j p v hp hj)
end Go.Proofs.YtfflkpggmhlfpaaDoor
