/- The statement TreeSame: the walk. -/
import Derived.Test.YtfflkpggmhlfpaaDoorUi
namespace Go.Proofs.YtfflkpggmhlfpaaDoor
open Go.RowKit
set_option maxRecDepth 100000
section
variable {ops : Array Oper} {rest : List Oper} {op : Oper} {a : Act} {w : World} {Q : Exit → Act → World → Prop}
theorem rem4_op (x : Operand) (ho : op.op = .binOp .rem 5 x (.const (.int .u8 4)) 5) (n : Nat) (hx : a.eval x = .int .u8 (n : Int)) :
    (execOp a.eval op).run Tryd.prog w = .ok (.value (.int .u8 ((n % 4 : Nat) : Int))) w := by
  have e : (n : Int).tmod 4 = ((n % 4 : Nat) : Int) := by rw [Int.tmod_eq_emod_of_nonneg (by omega)]; omega
  have e2 : IntKind.u8.wrap ((n % 4 : Nat) : Int) = ((n % 4 : Nat) : Int) := by simp only [IntKind.wrap, IntKind.bits, IntKind.signed]; simp; omega
  have hc : a.eval (.const (.int .u8 4)) = .int .u8 4 := rfl
  have hty : Tryd.prog.underlying 5 = some (.int .u8) := Tryd.underlying5
  generalize ((n % 4 : Nat) : Int) = m at *
  unfold execOp
  simp only [ho, hx, hc]
  simp [go_sem, e, e2, hty]
theorem run_store_bool (x y : Operand) (ho : op.op = .store 4 x y) (p : Addr) (hx : a.eval x = .pointer (some p)) (n : Bool) (hy : a.eval y = .bool n) (v : Value) (hc : w.cell? p = some v) (hf : w.frozen? p = false) :
    (execOp a.eval op).run Tryd.prog w = .ok .skip (w.setCell p (.bool n)) := by
  have hi : (Tryd.prog.info? 4).map (·.size) = some 1 := by kernel_rfl
  cases hq : Tryd.prog.info? 4 with
  | none => simp [hq] at hi
  | some i =>
    have hs : i.size = 1 := by simpa [hq] using hi
    unfold execOp
    simp only [ho, hx, hy]
    simp [go_sem, hc, hf, sizeOf, typeInfo, hq, hs]
theorem store_bool_any (hgd : op.guard = none) (x y : Operand) (ho : op.op = .store 4 x y) (B i : Nat) (hx : a.eval x = .pointer (some ⟨B, i, none⟩)) (n : Bool) (hy : a.eval y = .bool n) {T : TypeId} (old new : List Value) (hB : At w B T old) (hi : i < old.length) (hnew : old.set i (.bool n) = new)
    (h : ∀ u, At u B T new → Touch [B] w u → wpList Tryd.prog ops Q rest (a.put op.dst undef) u) : wpList Tryd.prog ops Q (op :: rest) a w :=
  list_skip hgd (run_store_bool x y ho ⟨B, i, none⟩ hx n hy _ (hB.cell i _ (List.getElem?_eq_getElem hi)) (hB.frozen i)) (h _ (hnew ▸ hB.setCell i _) ((Touch.refl [B] w).setCell _ _ (.inl (by simp))))
end
theorem run_append_none (w : World) (a : Addr) (c : Nat) : (Builtin.append_ #[22, 22] 22 #[.slice (some a) 0 0, .slice none 0 c]).run Tryd.prog w = .ok (.slice (some a) 0 0) w := by kernel_rfl
structure Wz (w : World) (p3 p8 : Nat) (R : Nd) (aR : Option Addr) (cR : Nat) (M : Nd) (aM : Option Addr) (cM : Nat) (ls : List (List UInt8)) (v : Value) (W : World) : Prop where
  a : At W p3 24 (R.cells aR cR)
  m : At W p8 24 (M.cells aM cM)
  t : Has (fun i => i ≠ p8) W 17 R aR
  u : Has any_ W 17 M aM
  s : Strs W v ls
  b : Below w.heap.size w W
theorem Wz.below {w : World} {p3 p8 : Nat} {R : Nd} {aR : Option Addr} {cR : Nat} {M : Nd} {aM : Option Addr} {cM : Nat} {ls : List (List UInt8)} {v : Value} {W W' : World} (h : Wz w p3 p8 R aR cR M aM cM ls v W) (b : Below W.heap.size W W') : Wz w p3 p8 R aR cR M aM cM ls v W' :=
  ⟨h.a.below b h.a.lt, h.m.below b h.m.lt, h.t.below b, h.u.below b, h.s.below b, h.b.trans (b.mono h.b.size)⟩
theorem Strs.touch {w w' : World} {x : Option Addr} {c p : Nat} {ts : List (List UInt8)} (h : Strs w (.slice x ts.length c) ts) (t : Touch [p] w w') (h2 : ∀ g, x = some g → ts ≠ [] → g.block ≠ p) : Strs w' (.slice x ts.length c) ts := by
  obtain ⟨ao, cap, e, hh⟩ := h
  cases e
  refine ⟨x, c, rfl, fun j s hj => ?_⟩
  obtain ⟨g, e2, hc⟩ := hh j s hj
  refine ⟨g, e2, ?_⟩
  rw [← hc]
  have hb := World.block_lt_of_cell? w _ hc
  refine World.cell?_of_block (w := w) (t.block _ hb ?_)
  rw [add_block]
  have := h2 g e2 (fun e => by rw [e] at hj; cases hj)
  simpa using this
/-- what a store in the second node's block leaves -/
theorem Wz.stored {w : World} {p3 p8 : Nat} {R : Nd} {aR : Option Addr} {cR : Nat} {M0 M : Nd} {a0 aM : Option Addr} {c0 cM : Nat} {ls : List (List UInt8)} {x : Option Addr} {c : Nat} {W W' : World} (h : Wz w p3 p8 R aR cR M0 a0 c0 ls (.slice x ls.length c) W) (t : Touch [p8] W W') (hm : At W' p8 24 (M.cells aM cM))
    (h3 : p3 ≠ p8) (hu : Has any_ W' 17 M aM) (h2 : ∀ g, x = some g → ls ≠ [] → g.block ≠ p8) (hp : w.heap.size ≤ p8) : Wz w p3 p8 R aR cR M aM cM ls (.slice x ls.length c) W' :=
  ⟨h.a.touch t (by simpa using h3), hm, Has.kept (fun _ h _ => h) (fun i hi hl => t.block i hl (by simpa using hi)) 17 R aR h.t, hu, h.s.touch t h2, t.below h.b (fun k hk => by rw [List.mem_singleton] at hk; omega) (Nat.le_refl _)⟩
theorem Has.alike {S : Nat → Prop} {w : World} {h : Nat} {a b : Nd} {ao : Option Addr} (hH : Has S w h a ao) (hk : b.kids = a.kids) : Has S w h b ao := by
  cases h with
  | zero => exact hH
  | succ h => exact ⟨by rw [hk]; exact hH.1, fun i m hm => hH.2 i m (by rw [← hk]; exact hm)⟩
theorem goodM {R M : Nd} (hc : ∀ k, Cut k R) (hk : ∀ m ∈ M.kids, m ∈ R.kids ∨ (m.kids = [] ∧ m.data = [])) (hd : M.data.length ≤ 301) : ∀ p ∈ nodesL 17 1 M, GoodN p := fun p hp => by
  unfold nodesL at hp
  split at hp
  · cases hp
  · rcases List.mem_cons.mp hp with rfl | hp
    · exact ⟨by show 1 ≤ 65536; omega, by show M.data.length ≤ 1000000; omega⟩
    · obtain ⟨m, hm, hp⟩ := List.mem_flatMap.mp hp
      rcases hk m hm with h | ⟨h1, h2⟩
      · have := Cut.good 16 2 m (Cut.kid hc h) p hp
        exact ⟨by omega, by omega⟩
      · unfold nodesL at hp
        split at hp
        · cases hp
        · rw [h1] at hp
          rcases List.mem_cons.mp hp with rfl | hp
          · exact ⟨by show 2 ≤ 65536; omega, by show m.data.length ≤ 1000000; rw [h2]; exact Nat.zero_le _⟩
          · cases hp
theorem has_trip {S : Nat → Prop} {w : World} {h : Nat} : ∀ (ks : List Nd) (ao : Option Addr), (∀ i m, ks[i]? = some m → ∃ a g c, ao = some a ∧ S a.block ∧ Kid w a i (m.cells g c) ∧ Has S w h m g) → ∃ ps : List Tri, ps.map (·.1) = ks ∧ Rowd w ps ao ∧ ∀ p ∈ ps, Has S w h p.1 p.2.1 := fun ks ao hk => by
  obtain ⟨ps, hl, hp⟩ := list_of_all (p := fun i (q : Tri) => ks[i]? = some q.1 ∧ (∃ a, ao = some a ∧ Kid w a i q.cells) ∧ Has S w h q.1 q.2.1) ks.length (fun i hi => by
    obtain ⟨a, g, c, e, _, hK, hH⟩ := hk i ks[i] (List.getElem?_eq_getElem hi)
    exact ⟨(ks[i], g, c), List.getElem?_eq_getElem hi, ⟨a, e, hK⟩, hH⟩)
  refine ⟨ps, ?_, fun i q hq => (hp i q hq).2.1, fun q hq => ?_⟩
  · refine List.ext_getElem? (fun i => ?_)
    rw [List.getElem?_map]
    by_cases hi : i < ps.length
    · rw [List.getElem?_eq_getElem hi]
      exact (hp i ps[i] (List.getElem?_eq_getElem hi)).1.symm
    · rw [List.getElem?_eq_none (by omega), List.getElem?_eq_none (by omega)]; rfl
  · obtain ⟨i, hi, e⟩ := List.mem_iff_getElem.mp hq
    exact (hp i q (by rw [← e]; exact List.getElem?_eq_getElem hi)).2.2
/-- a node whose kids lie in a row of the call's own -/
theorem own_node {w : World} {h : Nat} {ps : List Tri} {ao : Option Addr} {cap : Nat} (hO : Own w 24 5 ao ps.length cap (ps.flatMap Tri.cells)) (hP : ∀ p ∈ ps, Has any_ w h p.1 p.2.1) (n : Nd) (hn : n.kids = ps.map (·.1)) : Has any_ w (h + 1) n ao := by
  have hl : n.kids.length = ps.length := by rw [hn, List.length_map]
  refine ⟨by rw [hl]; exact Nat.le_trans hO.cap hO.max, fun i m hm => ?_⟩
  rw [hn, List.getElem?_map] at hm
  obtain ⟨p, hp, rfl⟩ := Option.map_eq_some_iff.mp hm
  have hil := (List.getElem?_eq_some_iff.1 hp).1
  obtain ⟨g, cur, rfl, hA, _, _⟩ := hO.there (by omega)
  refine ⟨_, p.2.1, p.2.2, rfl, trivial, fun j v hj => ?_, hP p (List.mem_of_getElem? hp)⟩
  rw [Addr.add0, Addr.add_mid]
  refine hA.cell _ _ ?_
  have := flat_get ps i j p v hp hj
  rw [List.getElem?_append_left (by have := (List.getElem?_eq_some_iff.1 this).1; exact this)]
  exact this
/-- the kids, copied to a row that was empty -/
theorem kids_copy (ps : List Tri) (ao : Option Addr) (cap : Nat) (w : World) (hR : Rowd w ps ao) (hl : ps.length ≤ 1000000) :
    ∃ ao' cap' w', (Builtin.append_ #[22, 22] 22 #[.slice (some ⟨w.heap.size, 0, none⟩) 0 0, .slice ao ps.length cap]).run Tryd.prog (w.alloc (.cells #[] 24)) = .ok (.slice ao' ps.length cap') w' ∧ Own w' 24 5 ao' ps.length cap' (ps.flatMap Tri.cells) ∧ (∀ i, i ∈ blk ao' → w.heap.size ≤ i) ∧ Below w.heap.size w w' := by
  have bu : Below w.heap.size w (w.alloc (.cells #[] 24)) := (Below.refl _ w).alloc (Nat.le_refl _) _
  have hown : (w.alloc (.cells #[] 24)).ownsRow w.heap.size 24 5 (.slice (some ⟨w.heap.size, 0, none⟩) 0 0) 0 [] := ⟨rfl, .inr ⟨w.heap.size, 0, #[], rfl, Nat.le_refl _, (MapKept.heap_alloc w _).1, Nat.le_refl _, Nat.zero_le _, rfl, rfl⟩⟩
  cases ao with
  | none =>
    have h0 : ps = [] := by
      cases ps with
      | nil => rfl
      | cons p r => obtain ⟨a, e, _⟩ := hR 0 p rfl; cases e
    subst h0
    refine ⟨_, _, _, run_append_none _ _ _, ?_, by simp [blk], bu⟩
    rcases hown.2 with ⟨h0, _⟩ | ⟨g, cap', cur, e, hb, r1, r2, r3, r4, r5⟩
    · cases h0
    · exact ⟨hown.1, .inr ⟨g, cap', cur, e, Nat.zero_le _, r1, r2, r3, r4, r5⟩⟩
  | some a =>
    obtain ⟨i, z, hi, hz, h5, h72, hz5⟩ := info_22
    have hkd : ∀ i p, ps[i]? = some p → Kid (w.alloc (.cells #[] 24)) a i p.cells := fun i p hp => by
      obtain ⟨a', e, hK⟩ := hR i p hp
      cases e
      exact hK.kept (bu.block a.block hK.lt)
    obtain ⟨v', w', hrun, ho, hgr, hnn⟩ := run_append_own (P := Tryd.prog) (w := w.alloc (.cells #[] 24)) w.heap.size 22 22 24 i z 5 72 Tryd.underlying22 hi hz h5 h72 hz5 (by omega) _ 0 [] hown a ps.length cap (ps.flatMap Tri.cells) (by rw [flat_len]; omega) (Kid.flat hkd) (flat_one ps) (by unfold maxLen; omega) (by omega) bu.size
    have hT : Touch [w.heap.size] (w.alloc (.cells #[] 24)) w' := ⟨hgr.os, hgr.tape, hgr.output, hgr.size, fun k hk hne => hgr.block k hk (fun e => hne (by cases e; simp))⟩
    rw [Nat.zero_add, List.nil_append] at ho
    rcases ho.2 with ⟨rfl, h0⟩ | ⟨g, cap', cur, rfl, hb, r1, r2, r3, r4, r5⟩
    · exact absurd (hnn.1 rfl).1 (by simp)
    · exact ⟨_, _, _, hrun, ⟨ho.1, .inr ⟨g, cap', cur, rfl, Nat.zero_le _, r1, r2, r3, r4, r5⟩⟩, by simp [blk]; exact hb, hT.below bu (by simp) (Nat.le_refl _)⟩
/-- one more behind -/
theorem kids_more (ps : List Tri) (ao : Option Addr) (cap : Nat) (w : World) (hO : Own w 24 5 ao ps.length cap (ps.flatMap Tri.cells)) (q : Tri) (hl : ps.length ≤ 1000000) :
    ∃ ao' cap' w', (Builtin.append_ #[22, 22] 22 #[.slice ao ps.length cap, .slice (some ⟨w.heap.size, 0, none⟩) 1 1]).run Tryd.prog (w.alloc (.cells q.cells.toArray 24)) = .ok (.slice ao' (ps ++ [q]).length cap') w' ∧ Own w' 24 5 ao' (ps ++ [q]).length cap' ((ps ++ [q]).flatMap Tri.cells) ∧ (∀ i, i ∈ blk ao' → i ∈ blk ao ∨ w.heap.size ≤ i) ∧ Touch (blk ao) w w' := by
  obtain ⟨i, z, hi, hz, h5, h72, hz5⟩ := info_22
  have bu : Below w.heap.size w (w.alloc (.cells q.cells.toArray 24)) := (Below.refl _ w).alloc (Nat.le_refl _) _
  have hA := At.new w q.cells.toArray 24
  obtain ⟨ao', cap', w', hrun, hO2, hT, hblk⟩ := run_append_any (P := Tryd.prog) (w.alloc (.cells q.cells.toArray 24)) 22 22 24 i z 5 72 Tryd.underlying22 hi hz h5 h72 hz5 (by omega) ao ps.length cap _ (hO.touch (ft := []) (Touch.of_below bu) (fun _ _ h => by cases h)) w.heap.size 1 1 q.cells hA rfl (nd_one q.1 q.2.1 q.2.2) (by omega) (by unfold maxLen; omega) (by omega)
  refine ⟨ao', cap', w', by rw [List.length_append]; exact hrun, by rw [List.length_append, List.flatMap_append]; simpa using hO2, fun k hk => ?_, ?_⟩
  · rcases hblk with e | ⟨g, e, hg⟩
    · rw [e] at hk; exact .inl hk
    · rw [e] at hk; rw [World.size_alloc] at hg; simp at hk; exact .inr (by omega)
  · exact ⟨bu.os.symm ▸ hT.os, bu.tape.symm ▸ hT.tape, bu.output.symm ▸ hT.output, Nat.le_trans bu.size hT.size, fun k hk hne => (hT.block k (Nat.lt_of_lt_of_le hk bu.size) hne).trans (bu.block k hk)⟩
theorem build_nd_op {o : Oper} {a : Act} {w : World} (x : Operand) (ho : o.op = .buildSlice 22 1 #[(0, x)]) (cs : List Value) (hx : a.eval x = .agg cs.toArray) (hl : cs.length = 5) :
    (execOp a.eval o).run Tryd.prog w = .ok (.value (.slice (some ⟨w.heap.size, 0, none⟩) 1 1)) (w.alloc (.cells cs.toArray 24)) := by
  obtain ⟨i, z, hi, hz, h5, h72, hz5⟩ := info_22
  exact run_build_op 22 x ho _ hx (build_one w 22 24 cs.toArray i z 5 Tryd.underlying22 hi hz h5 (by simpa using hl) (by omega) (by omega))
theorem bytesL_le (k : Nat) : ∀ l : List (Nat × Nd), (∀ p ∈ l, p.2.data.length ≤ k) → bytesL l ≤ k * l.length
  | [], _ => Nat.le_refl _
  | p :: r, h => by
    have h1 := h p (by simp)
    have h2 := bytesL_le k r (fun q hq => h q (by simp [hq]))
    rw [bytesL_cons, List.length_cons, Nat.mul_add]
    omega
theorem Strs.get {w : World} {x : Option Addr} {c : Nat} {ts : List (List UInt8)} (h : Strs w (.slice x ts.length c) ts) (j : Nat) (t : List UInt8) (hj : ts[j]? = some t) : ∃ g, x = some g ∧ w.cell? (g.add j) = some (.string (bs t)) := by
  obtain ⟨ao, cap, e, hh⟩ := h
  cases e
  exact hh j t hj
set_option maxHeartbeats 40000000 in
theorem tsame_any (h : Nat) (n : Nd) (ao : Option Addr) (cap : Nat) (a b : Nat) (ha : a < 256) (hb : b < 256) (w : World) (hH : Has any_ w h n ao) (hg : Glob w) :
    Calls Tryd.prog 5 #[n.v ao cap, .int .u8 (a : Int), .int .u8 (b : Int)] w fun e w' => e = .returned (.bool true) ∧ Below w.heap.size w w' := by
  have HH := Lib.hid hH
  have HG := Lib.hid hg
  clear hH hg
  go_enter Tryd.func5, Tryd.ntmps5
  go_wp2_with (with_reducible refine box_any rfl 24 (.tmp 0) rfl (n.cells ao cap) rfl ?_; intro u hu bu zu; have HU := Lib.hid hu; have BU := Lib.hid bu; clear hu bu zu)
  refine (works_any u (HG.out.below BU.out)).mono ?_
  rintro e w1 ⟨rfl, b1⟩
  have HU1 := Lib.hid (HU.out.below b1 HU.out.lt)
  have HB1 := Lib.hid (BU.out.trans (b1.mono BU.out.size))
  have H1 := Lib.hid (HH.out.below HB1.out)
  clear HU BU b1
  go_wp2_with (first | (refine load_any rfl 24 (.tmp 3) rfl ⟨w.heap.size, 0, none⟩ rfl (n.cells ao cap) _ (fun j v hj => by rw [Addr.add0]; exact HU1.out.cell j v hj) Tryd.underlying24 rfl info_nd ?_))
  refine (small_any h n ao cap w1 H1.out).mono ?_
  rintro e w2 ⟨b2, aR, cR, rfl, hR⟩
  have hcnt := small_cnt n
  obtain ⟨R, hRR⟩ : ∃ R, R = smallL n := ⟨_, rfl⟩
  rw [← hRR] at hR hcnt ⊢
  have HC := Lib.hid (show ∀ k, Cut k R by rw [hRR]; exact fun k => small_cut k n)
  have HR := Lib.hid hR
  have HU2 := Lib.hid (HU1.out.below b2 HU1.out.lt)
  have HB2 := Lib.hid (HB1.out.trans (b2.mono HB1.out.size))
  have hlt := HU1.out.lt
  clear hRR hR HU1 HB1 H1 b2
  go_wp2_with (first
    | (refine store_any rfl 24 (.tmp 3) (.tmp 16) rfl w.heap.size rfl (R.cells aR cR) rfl _ HU2.out rfl info_nd (nd_one R aR cR) ?_; intro w3 hu3 tu3; have L3 := hu3.lt; have Y3 := Lib.hid (Wy.mk (w := w) (aR := aR) (cR := cR) hu3 (Has.kept (S' := any_) (fun _ _ _ => trivial) (fun i (hi : w1.heap.size ≤ i) hl => tu3.block i hl (by simp; omega)) 17 R aR HR.out) (HG.out.below (tu3.below HB2.out (by simp) (Nat.le_refl _))) (tu3.below HB2.out (by simp) (Nat.le_refl _))); have YA3 := Lib.hid Y3.out.a; clear hu3 tu3)
    | (refine load_any rfl 24 (.tmp 3) rfl ⟨w.heap.size, 0, none⟩ rfl (R.cells aR cR) _ (fun j v hj => by rw [Addr.add0]; exact YA3.out.cell j v hj) Tryd.underlying24 rfl info_nd ?_))
  refine (shallow_any 17 R aR cR w3 Y3.out.t).mono ?_
  rintro e w4 ⟨rfl, b4⟩
  have Y4 := Lib.hid (Y3.out.below b4)
  have YA4 := Lib.hid Y4.out.a
  clear b4 YA3 Y3 HU2 HB2 HR HH HG
  obtain ⟨s, hs⟩ : ∃ s, s = shL 17 R := ⟨_, rfl⟩
  rw [← hs]
  cases s with
  | false =>
    have hsf := Lib.hid (show sameL 17 R R = false by rw [sameL_self, ← hs])
    clear hs
    go_wp2_with (first | (refine load_any rfl 24 (.tmp 3) rfl ⟨w.heap.size, 0, none⟩ rfl (R.cells aR cR) _ (fun j v hj => by rw [Addr.add0]; exact YA4.out.cell j v hj) Tryd.underlying24 rfl info_nd ?_))
    refine (same_wrap 17 17 R R aR aR cR cR w4 (by omega) Y4.out.t Y4.out.t).mono ?_
    rintro e w5 ⟨rfl, b5⟩
    have HB5 := Lib.hid (Y4.out.b.trans (b5.mono Y4.out.b.size))
    rw [hsf.out]
    clear b5
    go_wp2
    go_ret
    exact ⟨rfl, HB5.out⟩
  | true =>
    have F3 := Lib.hid (show sameL 17 R R = true by rw [sameL_self, ← hs])
    have hdR : depthL 14 R ≤ 12 := by
      have h := hs.symm
      unfold shL at h
      simp only [Bool.and_eq_true, decide_eq_true_eq] at h
      exact h.2
    clear hs
    go_wp2_with (first | (refine load_any rfl 24 (.tmp 3) rfl ⟨w.heap.size, 0, none⟩ rfl (R.cells aR cR) _ (fun j v hj => by rw [Addr.add0]; exact YA4.out.cell j v hj) Tryd.underlying24 rfl info_nd ?_))
    have hpl := pathsL_cnt 17 R []
    refine (each_any 17 R aR cR w4 Y4.out.t (HC.out 18).short (by omega) (by omega)).mono ?_
    rintro e w5 ⟨b5, v, rfl, hv⟩
    have hll : (eachL 17 R).length ≤ 1000 := by unfold eachL; split; exact Nat.zero_le _; omega
    have hF5 : eachL 17 R = [] ∨ checkL 17 R ≠ 0 ∨ ∀ t ∈ eachL 17 R, t ≠ [] := by
      by_cases hc : checkL 17 R = 0
      · exact .inr (.inr (eachL_ne hc))
      · exact .inr (.inl hc)
    obtain ⟨ls, hls⟩ : ∃ ls, ls = eachL 17 R := ⟨_, rfl⟩
    rw [← hls] at hv hll hF5
    obtain ⟨va, vc, rfl, hv2⟩ := id hv
    have hvb : ∀ g, va = some g → ls ≠ [] → g.block ≠ w5.heap.size := fun g e hne => by
      cases ls with
      | nil => exact absurd rfl hne
      | cons t r =>
        obtain ⟨g', e', hc⟩ := hv2 0 t rfl
        rw [e] at e'
        cases e'
        have := World.block_lt_of_cell? w5 _ hc
        rw [add_block] at this
        omega
    have hRb : Has (fun i => i ≠ w5.heap.size) w5 17 R aR := (Y4.out.t.below b5).mono (fun i _ hl => by omega)
    have HRB := Lib.hid hRb
    have S5 := Lib.hid hv
    have F5 := Lib.hid hF5
    have Y5 := Lib.hid (Y4.out.below b5)
    have YA5 := Lib.hid Y5.out.a
    clear b5 hv hv2 hF5 hls hpl YA4 Y4 hRb
    go_wp2_with (first
      | (with_reducible refine alloc_any rfl 24 rfl _ zero_nd ?_; intro u6 hu6 bu6 zu6; have HR6 := Lib.hid hu6; have BU6 := Lib.hid bu6; clear hu6 bu6 zu6)
      | (refine store_any rfl 24 (.tmp 8) (.tmp 26) rfl w5.heap.size rfl (R.cells aR cR) rfl _ HR6.out rfl info_nd (nd_one R aR cR) ?_; intro w6 hu6 tu6; have F8 := Lib.hid hu6; have BB6 := Lib.hid (tu6.below BU6.out (by simp) (Nat.le_refl _)); clear hu6 tu6; have Y6 := Lib.hid (Y5.out.below BB6.out); have YA6 := Lib.hid Y6.out.a; have S6 := Lib.hid (S5.out.below BB6.out); have HRB6 := Lib.hid (HRB.out.below BB6.out))
      | (refine load_any rfl 24 (.tmp 3) rfl ⟨w.heap.size, 0, none⟩ rfl (R.cells aR cR) _ (fun j v hj => by rw [Addr.add0]; exact YA5.out.cell j v hj) Tryd.underlying24 rfl info_nd ?_)
      | (refine load_any rfl 24 (.tmp 3) rfl ⟨w.heap.size, 0, none⟩ rfl (R.cells aR cR) _ (fun j v hj => by rw [Addr.add0]; exact YA6.out.cell j v hj) Tryd.underlying24 rfl info_nd ?_))
    obtain ⟨p8, hp8⟩ : ∃ p8, p8 = w5.heap.size := ⟨_, rfl⟩
    have hp38 : w.heap.size < p8 := by have := Y5.out.a.lt; omega
    rw [← hp8] at F8 HRB6 hvb ⊢
    have HVB := Lib.hid hvb
    clear hp8 HRB hvb BU6 HR6 BB6 YA5 Y5 S5
    have hN := nodesL_cnt 17 1 R
    have hYb := bytesL_le 300 (nodesL 17 1 R) (fun p hp => (Cut.good 17 1 R HC.out p hp).2)
    refine (size_any 17 R aR cR w6 (by omega) Y6.out.t (goodN_of (by omega) HC.out) (by omega)).mono ?_
    rintro e w7 ⟨rfl, b7⟩
    have Z7 := Lib.hid (Wz.mk (w := w) (p8 := p8) (M := R) (aM := aR) (cM := cR) (Y6.out.below b7).a (F8.out.below b7 F8.out.lt) (HRB6.out.below b7) (Y6.out.below b7).t (S6.out.below b7) (Y6.out.below b7).b)
    clear b7 F8 Y6 YA6 S6 HRB6
    obtain ⟨I, hI⟩ : ∃ I, I = (nodesL 17 1 R).length := ⟨_, rfl⟩
    obtain ⟨Y, hY⟩ : ∃ Y, Y = bytesL (nodesL 17 1 R) := ⟨_, rfl⟩
    rw [← hI] at hYb hN
    rw [← hY] at hYb
    rw [← hI, ← hY]
    have hI3 : I ≤ 301 := by omega
    have hY3 : Y ≤ 1000000 := by omega
    have HI := Lib.hid hI
    have HY := Lib.hid hY
    obtain ⟨P, hP⟩ : ∃ P, P = w.heap.size := ⟨_, rfl⟩
    rw [← hP] at Z7 hp38 ⊢
    have HP := Lib.hid hP
    clear hI hY hYb hN hP
    have hz7 := Z7.out.m.lt
    have ZA7 := Lib.hid Z7.out.a
    have ZM7 := Lib.hid Z7.out.m
    rcases (by omega : a % 4 = 0 ∨ a % 4 = 1 ∨ a % 4 = 2 ∨ a % 4 = 3) with hq | hq | hq | hq
    · have HQ := Lib.hid hq
      clear hq
      obtain ⟨M, hM⟩ : ∃ M : Nd, M = ⟨R.name, R.kind, !R.exec, R.data, R.kids⟩ := ⟨_, rfl⟩
      have c2 := ZA7.out.cell 2 _ rfl
      have HM := Lib.hid hM
      clear hM
      go_wp2_with (first
        | (with_reducible refine list_val rfl (rem4_op (.tmp 32) rfl a rfl) ?_; rw [HQ.out])
        | (refine store_bool_any rfl (.tmp 52) (.tmp 51) rfl p8 2 rfl (!R.exec) rfl _ (M.cells aR cR) ZM7.out (by simp [Nd.cells]) (by rw [HM.out]; rfl) ?_; intro w8 hu8 tu8; have Z8 := Lib.hid (Z7.out.stored tu8 hu8 (by omega) (Has.alike (Has.kept (S' := any_) (fun _ _ _ => trivial) (fun i hi hl => tu8.block i hl (by simpa using hi)) 17 R aR Z7.out.t) (by rw [HM.out]; rfl)) HVB.out (by have := HP.out; omega)); have ZM8 := Lib.hid Z8.out.m; clear hu8 tu8)
        | (refine load_any rfl 24 (.tmp 8) rfl ⟨p8, 0, none⟩ rfl (M.cells aR cR) _ (fun j v hj => by rw [Addr.add0]; exact ZM8.out.cell j v hj) Tryd.underlying24 rfl info_nd ?_))
      have FC1 := Lib.hid (show sameL 17 R M = false by rw [HM.out]; exact sameL_ne (.inr (.inl (by show R.exec ≠ !R.exec; cases R.exec <;> simp))))
      have FC2 := Lib.hid (show sameL 17 M R = false by rw [HM.out]; exact sameL_ne (.inr (.inl (by show (!R.exec) ≠ R.exec; cases R.exec <;> simp))))
      have hln : (nodesL 17 1 M).length = I := by rw [HI.out, HM.out]; exact nodesL_alike 17 1 _ _ rfl rfl
      have FD := Lib.hid (show 12 < depthL 14 M ∨ ((nodesL 17 1 M).length = I ∧ bytesL (nodesL 17 1 M) = Y) by
        by_cases hd : 12 < depthL 14 M
        · exact .inl hd
        · refine .inr ⟨hln, ?_⟩
          have e : depthL 14 M = depthL 14 R := by rw [HM.out]; exact depthL_alike 14 _ _ rfl rfl
          have h : bytesL (nodesL 17 1 M) + R.data.length = bytesL (nodesL 17 1 R) + M.data.length := bytesL_alike 16 1 M R (by rw [HM.out]; rfl) (by rw [HM.out]; rfl) (by omega)
          rw [show M.data = R.data by rw [HM.out]; rfl] at h
          rw [HY.out]; omega)
      have HGM := Lib.hid (show ∀ p ∈ nodesL 17 1 M, GoodN p from goodM HC.out (by rw [HM.out]; exact fun _ h => .inl h) (by rw [HM.out]; exact Nat.le_trans (HC.out 1).2.1 (by decide)))
      refine (size_any 17 M aR cR w8 (by omega) Z8.out.u HGM.out (by omega)).mono ?_
      rintro e w9 ⟨rfl, b9⟩
      have Z9 := Lib.hid (Z8.out.below b9)
      have ZA9 := Lib.hid Z9.out.a
      have ZM9 := Lib.hid Z9.out.m
      obtain ⟨C, hC⟩ : ∃ C, C = (nodesL 17 1 M).length := ⟨_, rfl⟩
      obtain ⟨D, hD⟩ : ∃ D, D = bytesL (nodesL 17 1 M) := ⟨_, rfl⟩
      have FD2 := FD.out
      rw [← hC, ← hD] at FD2
      rw [← hC, ← hD]
      have FE := Lib.hid FD2
      clear b9 hC hD hln FD2 FD Z8 ZM8 Z7 ZA7 ZM7
      go_wp2_with (first | (refine load_any rfl 24 (.tmp 3) rfl ⟨P, 0, none⟩ rfl (R.cells aR cR) _ (fun j v hj => by rw [Addr.add0]; exact ZA9.out.cell j v hj) Tryd.underlying24 rfl info_nd ?_) | (refine load_any rfl 24 (.tmp 8) rfl ⟨p8, 0, none⟩ rfl (M.cells aR cR) _ (fun j v hj => by rw [Addr.add0]; exact ZM9.out.cell j v hj) Tryd.underlying24 rfl info_nd ?_))
      refine (same_wrap 17 17 R M aR aR cR cR w9 (by omega) Z9.out.t.any Z9.out.u).mono ?_
      rintro e w10 ⟨rfl, b10⟩
      have Z10 := Lib.hid (Z9.out.below b10)
      have ZA10 := Lib.hid Z10.out.a
      have ZM10 := Lib.hid Z10.out.m
      obtain ⟨x10a, x10b, x10c, x10d, x10e⟩ := Z10.out.a.field
      obtain ⟨y10a, y10b, y10c, y10d, y10e⟩ := Z10.out.m.field
      clear b10
      rw [FC1.out]
      clear Z9 ZA9 ZM9
      go_wp2_with fail
      refine (same_wrap 17 17 M R aR aR cR cR w10 (by omega) Z10.out.u Z10.out.t.any).mono ?_
      rintro e w11 ⟨rfl, b11⟩
      have Z11 := Lib.hid (Z10.out.below b11)
      have ZA11 := Lib.hid Z11.out.a
      have ZM11 := Lib.hid Z11.out.m
      obtain ⟨x11a, x11b, x11c, x11d, x11e⟩ := Z11.out.a.field
      obtain ⟨y11a, y11b, y11c, y11d, y11e⟩ := Z11.out.m.field
      clear b11
      rw [FC2.out]
      clear Z10 ZA10 ZM10 x10a x10b x10c x10d x10e y10a y10b y10c y10d y10e
      go_wp2_with fail
      refine (same_wrap 17 17 R R aR aR cR cR w11 (by omega) Z11.out.t.any Z11.out.t.any).mono ?_
      rintro e w12 ⟨rfl, b12⟩
      have Z12 := Lib.hid (Z11.out.below b12)
      have ZA12 := Lib.hid Z12.out.a
      have ZM12 := Lib.hid Z12.out.m
      obtain ⟨x12a, x12b, x12c, x12d, x12e⟩ := Z12.out.a.field
      obtain ⟨y12a, y12b, y12c, y12d, y12e⟩ := Z12.out.m.field
      clear b12
      rw [F3.out]
      clear Z11 ZA11 ZM11 x11a x11b x11c x11d x11e y11a y11b y11c y11d y11e
      go_wp2_with fail
      refine (deep_any 17 M aR cR w12 Z12.out.u).mono ?_
      rintro e w13 ⟨rfl, b13⟩
      have Z13 := Lib.hid (Z12.out.below b13)
      have ZA13 := Lib.hid Z13.out.a
      have ZM13 := Lib.hid Z13.out.m
      obtain ⟨x13a, x13b, x13c, x13d, x13e⟩ := Z13.out.a.field
      obtain ⟨y13a, y13b, y13c, y13d, y13e⟩ := Z13.out.m.field
      clear b13
      clear Z12 ZA12 ZM12 x12a x12b x12c x12d x12e y12a y12b y12c y12d y12e
      have FE2 := FE.out
      obtain ⟨E, hE⟩ : ∃ E, E = depthL 14 M := ⟨_, rfl⟩
      rw [← hE] at FE2 ⊢
      clear hE FE
      have S13 := Lib.hid Z13.out.s
      by_cases hd : 12 < E
      · have hd' : (12 : Int) < E := by omega
        by_cases hl : ls = []
        · subst hl
          go_wp2_with fail
          go_ret
          exact ⟨rfl, Z13.out.b⟩
        · have hl1 : 0 < ls.length := List.length_pos_iff.mpr hl
          have hl0 : ((ls.length : Int) == 0) = false := by simp; omega
          go_wp2_with fail
          have hN2 := nodesL_cnt 17 1 R
          refine (check_any 17 R aR cR w13 (by omega) Z13.out.t.any (goodN_of (by omega) HC.out) (by omega)).mono ?_
          rintro e w14 ⟨rfl, b14⟩
          have hB14 := Lib.hid (Z13.out.below b14).b
          have S14 := Lib.hid (S13.out.below b14)
          have F6 := F5.out.resolve_left hl
          obtain ⟨K, hK⟩ : ∃ K, K = checkL 17 R := ⟨_, rfl⟩
          rw [← hK] at F6 ⊢
          clear hK b14 hN2
          by_cases hk : K = 0
          · subst hk
            obtain ⟨j, hj⟩ : ∃ j, j = b % ls.length := ⟨_, rfl⟩
            have hjl : j < ls.length := by rw [hj]; exact Nat.mod_lt _ hl1
            have hrem : (b : Int).tmod (ls.length : Int) = (j : Int) := by rw [hj]; rfl
            obtain ⟨t, ht⟩ : ∃ t, ls[j]? = some t := ⟨_, List.getElem?_eq_getElem hjl⟩
            have hne := (F6.resolve_left (fun h => h rfl)) t (List.mem_of_getElem? ht)
            obtain ⟨g, rfl, hc⟩ := S14.out.get j t ht
            have hne2 : (t == []) = false := by simpa using hne
            have hne3 : t.isEmpty = false := by simpa using hne
            have hj0 : (j : Int) < ls.length := by omega
            clear hj ht hne
            go_wp2_with fail
            go_ret
            exact ⟨rfl, hB14.out⟩
          · have hk2 : (K == 0) = false := by simpa using hk
            go_wp2_with fail
            go_ret
            exact ⟨rfl, hB14.out⟩
      · have hd' : ¬ (12 : Int) < E := by omega
        obtain ⟨hC, hD⟩ := FE2.resolve_left hd
        subst hC hD
        by_cases hl : ls = []
        · subst hl
          go_wp2_with fail
          go_ret
          exact ⟨rfl, Z13.out.b⟩
        · have hl1 : 0 < ls.length := List.length_pos_iff.mpr hl
          have hl0 : ((ls.length : Int) == 0) = false := by simp; omega
          go_wp2_with fail
          have hN2 := nodesL_cnt 17 1 R
          refine (check_any 17 R aR cR w13 (by omega) Z13.out.t.any (goodN_of (by omega) HC.out) (by omega)).mono ?_
          rintro e w14 ⟨rfl, b14⟩
          have hB14 := Lib.hid (Z13.out.below b14).b
          have S14 := Lib.hid (S13.out.below b14)
          have F6 := F5.out.resolve_left hl
          obtain ⟨K, hK⟩ : ∃ K, K = checkL 17 R := ⟨_, rfl⟩
          rw [← hK] at F6 ⊢
          clear hK b14 hN2
          by_cases hk : K = 0
          · subst hk
            obtain ⟨j, hj⟩ : ∃ j, j = b % ls.length := ⟨_, rfl⟩
            have hjl : j < ls.length := by rw [hj]; exact Nat.mod_lt _ hl1
            have hrem : (b : Int).tmod (ls.length : Int) = (j : Int) := by rw [hj]; rfl
            obtain ⟨t, ht⟩ : ∃ t, ls[j]? = some t := ⟨_, List.getElem?_eq_getElem hjl⟩
            have hne := (F6.resolve_left (fun h => h rfl)) t (List.mem_of_getElem? ht)
            obtain ⟨g, rfl, hc⟩ := S14.out.get j t ht
            have hne2 : (t == []) = false := by simpa using hne
            have hne3 : t.isEmpty = false := by simpa using hne
            have hj0 : (j : Int) < ls.length := by omega
            clear hj ht hne
            go_wp2_with fail
            go_ret
            exact ⟨rfl, hB14.out⟩
          · have hk2 : (K == 0) = false := by simpa using hk
            go_wp2_with fail
            go_ret
            exact ⟨rfl, hB14.out⟩
    · have HQ := Lib.hid hq
      clear hq
      obtain ⟨M, hM⟩ : ∃ M : Nd, M = ⟨R.name, R.kind, R.exec, R.data ++ [120], R.kids⟩ := ⟨_, rfl⟩
      have cf := ZA7.out.cell 3 _ rfl
      have hs : bs R.data ++ ({ data := #[120] } : ByteArray) = bs (R.data ++ [120]) := by rw [show ({ data := #[120] } : ByteArray) = bs [120] from rfl, bs_append]
      have hfl : R.data.length ≤ 300 := by have := (HC.out 1).2.1; omega
      have HM := Lib.hid hM
      have HS := Lib.hid hs
      clear hM hs
      go_wp2_with (first
        | (with_reducible refine list_val rfl (rem4_op (.tmp 32) rfl a rfl) ?_; rw [HQ.out])
        | (refine store_str_any rfl (.tmp 58) (.tmp 57) rfl p8 3 rfl (R.data ++ [120]) (congrArg Value.string HS.out) _ (M.cells aR cR) ZM7.out (by simp [Nd.cells]) (by rw [HM.out]; rfl) ?_; intro w8 hu8 tu8; have Z8 := Lib.hid (Z7.out.stored tu8 hu8 (by omega) (Has.alike (Has.kept (S' := any_) (fun _ _ _ => trivial) (fun i hi hl => tu8.block i hl (by simpa using hi)) 17 R aR Z7.out.t) (by rw [HM.out]; rfl)) HVB.out (by have := HP.out; omega)); have ZM8 := Lib.hid Z8.out.m; clear hu8 tu8)
        | (refine load_any rfl 24 (.tmp 8) rfl ⟨p8, 0, none⟩ rfl (M.cells aR cR) _ (fun j v hj => by rw [Addr.add0]; exact ZM8.out.cell j v hj) Tryd.underlying24 rfl info_nd ?_))
      have FC1 := Lib.hid (show sameL 17 R M = false by rw [HM.out]; exact sameL_ne (.inr (.inr (.inl (by show R.data ≠ R.data ++ [120]; simp)))))
      have FC2 := Lib.hid (show sameL 17 M R = false by rw [HM.out]; exact sameL_ne (.inr (.inr (.inl (by show R.data ++ [120] ≠ R.data; simp)))))
      have hdl : M.data.length = R.data.length + 1 := by rw [HM.out]; show (R.data ++ [120]).length = _; simp
      have hln : (nodesL 17 1 M).length = I := by rw [HI.out, HM.out]; exact nodesL_alike 17 1 _ _ rfl rfl
      have FD := Lib.hid (show 12 < depthL 14 M ∨ ((nodesL 17 1 M).length = I ∧ bytesL (nodesL 17 1 M) = Y + 1) by
        by_cases hd : 12 < depthL 14 M
        · exact .inl hd
        · refine .inr ⟨hln, ?_⟩
          have e : depthL 14 M = depthL 14 R := by rw [HM.out]; exact depthL_alike 14 _ _ rfl rfl
          have h : bytesL (nodesL 17 1 M) + R.data.length = bytesL (nodesL 17 1 R) + M.data.length := bytesL_alike 16 1 M R (by rw [HM.out]; rfl) (by rw [HM.out]; rfl) (by omega)
          rw [HY.out]; omega)
      have HGM := Lib.hid (show ∀ p ∈ nodesL 17 1 M, GoodN p from goodM HC.out (by rw [HM.out]; exact fun _ h => .inl h) (by have := (HC.out 1).2.1; omega))
      refine (size_any 17 M aR cR w8 (by omega) Z8.out.u HGM.out (by omega)).mono ?_
      rintro e w9 ⟨rfl, b9⟩
      have Z9 := Lib.hid (Z8.out.below b9)
      have ZA9 := Lib.hid Z9.out.a
      have ZM9 := Lib.hid Z9.out.m
      obtain ⟨C, hC⟩ : ∃ C, C = (nodesL 17 1 M).length := ⟨_, rfl⟩
      obtain ⟨D, hD⟩ : ∃ D, D = bytesL (nodesL 17 1 M) := ⟨_, rfl⟩
      have FD2 := FD.out
      rw [← hC, ← hD] at FD2
      rw [← hC, ← hD]
      have FE := Lib.hid FD2
      clear b9 hC hD hln FD2 FD Z8 ZM8 Z7 ZA7 ZM7
      go_wp2_with (first | (refine load_any rfl 24 (.tmp 3) rfl ⟨P, 0, none⟩ rfl (R.cells aR cR) _ (fun j v hj => by rw [Addr.add0]; exact ZA9.out.cell j v hj) Tryd.underlying24 rfl info_nd ?_) | (refine load_any rfl 24 (.tmp 8) rfl ⟨p8, 0, none⟩ rfl (M.cells aR cR) _ (fun j v hj => by rw [Addr.add0]; exact ZM9.out.cell j v hj) Tryd.underlying24 rfl info_nd ?_))
      refine (same_wrap 17 17 R M aR aR cR cR w9 (by omega) Z9.out.t.any Z9.out.u).mono ?_
      rintro e w10 ⟨rfl, b10⟩
      have Z10 := Lib.hid (Z9.out.below b10)
      have ZA10 := Lib.hid Z10.out.a
      have ZM10 := Lib.hid Z10.out.m
      obtain ⟨x10a, x10b, x10c, x10d, x10e⟩ := Z10.out.a.field
      obtain ⟨y10a, y10b, y10c, y10d, y10e⟩ := Z10.out.m.field
      clear b10
      rw [FC1.out]
      clear Z9 ZA9 ZM9
      go_wp2_with fail
      refine (same_wrap 17 17 M R aR aR cR cR w10 (by omega) Z10.out.u Z10.out.t.any).mono ?_
      rintro e w11 ⟨rfl, b11⟩
      have Z11 := Lib.hid (Z10.out.below b11)
      have ZA11 := Lib.hid Z11.out.a
      have ZM11 := Lib.hid Z11.out.m
      obtain ⟨x11a, x11b, x11c, x11d, x11e⟩ := Z11.out.a.field
      obtain ⟨y11a, y11b, y11c, y11d, y11e⟩ := Z11.out.m.field
      clear b11
      rw [FC2.out]
      clear Z10 ZA10 ZM10 x10a x10b x10c x10d x10e y10a y10b y10c y10d y10e
      go_wp2_with fail
      refine (same_wrap 17 17 R R aR aR cR cR w11 (by omega) Z11.out.t.any Z11.out.t.any).mono ?_
      rintro e w12 ⟨rfl, b12⟩
      have Z12 := Lib.hid (Z11.out.below b12)
      have ZA12 := Lib.hid Z12.out.a
      have ZM12 := Lib.hid Z12.out.m
      obtain ⟨x12a, x12b, x12c, x12d, x12e⟩ := Z12.out.a.field
      obtain ⟨y12a, y12b, y12c, y12d, y12e⟩ := Z12.out.m.field
      clear b12
      rw [F3.out]
      clear Z11 ZA11 ZM11 x11a x11b x11c x11d x11e y11a y11b y11c y11d y11e
      go_wp2_with fail
      refine (deep_any 17 M aR cR w12 Z12.out.u).mono ?_
      rintro e w13 ⟨rfl, b13⟩
      have Z13 := Lib.hid (Z12.out.below b13)
      have ZA13 := Lib.hid Z13.out.a
      have ZM13 := Lib.hid Z13.out.m
      obtain ⟨x13a, x13b, x13c, x13d, x13e⟩ := Z13.out.a.field
      obtain ⟨y13a, y13b, y13c, y13d, y13e⟩ := Z13.out.m.field
      clear b13
      clear Z12 ZA12 ZM12 x12a x12b x12c x12d x12e y12a y12b y12c y12d y12e
      have FE2 := FE.out
      obtain ⟨E, hE⟩ : ∃ E, E = depthL 14 M := ⟨_, rfl⟩
      rw [← hE] at FE2 ⊢
      clear hE FE
      have S13 := Lib.hid Z13.out.s
      by_cases hd : 12 < E
      · have hd' : (12 : Int) < E := by omega
        by_cases hl : ls = []
        · subst hl
          go_wp2_with fail
          go_ret
          exact ⟨rfl, Z13.out.b⟩
        · have hl1 : 0 < ls.length := List.length_pos_iff.mpr hl
          have hl0 : ((ls.length : Int) == 0) = false := by simp; omega
          go_wp2_with fail
          have hN2 := nodesL_cnt 17 1 R
          refine (check_any 17 R aR cR w13 (by omega) Z13.out.t.any (goodN_of (by omega) HC.out) (by omega)).mono ?_
          rintro e w14 ⟨rfl, b14⟩
          have hB14 := Lib.hid (Z13.out.below b14).b
          have S14 := Lib.hid (S13.out.below b14)
          have F6 := F5.out.resolve_left hl
          obtain ⟨K, hK⟩ : ∃ K, K = checkL 17 R := ⟨_, rfl⟩
          rw [← hK] at F6 ⊢
          clear hK b14 hN2
          by_cases hk : K = 0
          · subst hk
            obtain ⟨j, hj⟩ : ∃ j, j = b % ls.length := ⟨_, rfl⟩
            have hjl : j < ls.length := by rw [hj]; exact Nat.mod_lt _ hl1
            have hrem : (b : Int).tmod (ls.length : Int) = (j : Int) := by rw [hj]; rfl
            obtain ⟨t, ht⟩ : ∃ t, ls[j]? = some t := ⟨_, List.getElem?_eq_getElem hjl⟩
            have hne := (F6.resolve_left (fun h => h rfl)) t (List.mem_of_getElem? ht)
            obtain ⟨g, rfl, hc⟩ := S14.out.get j t ht
            have hne2 : (t == []) = false := by simpa using hne
            have hne3 : t.isEmpty = false := by simpa using hne
            have hj0 : (j : Int) < ls.length := by omega
            clear hj ht hne
            go_wp2_with fail
            go_ret
            exact ⟨rfl, hB14.out⟩
          · have hk2 : (K == 0) = false := by simpa using hk
            go_wp2_with fail
            go_ret
            exact ⟨rfl, hB14.out⟩
      · have hd' : ¬ (12 : Int) < E := by omega
        obtain ⟨hC, hD⟩ := FE2.resolve_left hd
        subst hC hD
        by_cases hl : ls = []
        · subst hl
          go_wp2_with fail
          go_ret
          exact ⟨rfl, Z13.out.b⟩
        · have hl1 : 0 < ls.length := List.length_pos_iff.mpr hl
          have hl0 : ((ls.length : Int) == 0) = false := by simp; omega
          go_wp2_with fail
          have hN2 := nodesL_cnt 17 1 R
          refine (check_any 17 R aR cR w13 (by omega) Z13.out.t.any (goodN_of (by omega) HC.out) (by omega)).mono ?_
          rintro e w14 ⟨rfl, b14⟩
          have hB14 := Lib.hid (Z13.out.below b14).b
          have S14 := Lib.hid (S13.out.below b14)
          have F6 := F5.out.resolve_left hl
          obtain ⟨K, hK⟩ : ∃ K, K = checkL 17 R := ⟨_, rfl⟩
          rw [← hK] at F6 ⊢
          clear hK b14 hN2
          by_cases hk : K = 0
          · subst hk
            obtain ⟨j, hj⟩ : ∃ j, j = b % ls.length := ⟨_, rfl⟩
            have hjl : j < ls.length := by rw [hj]; exact Nat.mod_lt _ hl1
            have hrem : (b : Int).tmod (ls.length : Int) = (j : Int) := by rw [hj]; rfl
            obtain ⟨t, ht⟩ : ∃ t, ls[j]? = some t := ⟨_, List.getElem?_eq_getElem hjl⟩
            have hne := (F6.resolve_left (fun h => h rfl)) t (List.mem_of_getElem? ht)
            obtain ⟨g, rfl, hc⟩ := S14.out.get j t ht
            have hne2 : (t == []) = false := by simpa using hne
            have hne3 : t.isEmpty = false := by simpa using hne
            have hj0 : (j : Int) < ls.length := by omega
            clear hj ht hne
            go_wp2_with fail
            go_ret
            exact ⟨rfl, hB14.out⟩
          · have hk2 : (K == 0) = false := by simpa using hk
            go_wp2_with fail
            go_ret
            exact ⟨rfl, hB14.out⟩
    · have HQ := Lib.hid hq
      clear hq
      obtain ⟨M, hM⟩ : ∃ M : Nd, M = ⟨R.name ++ [120], R.kind, R.exec, R.data, R.kids⟩ := ⟨_, rfl⟩
      have cf := ZA7.out.cell 0 _ rfl
      have hs : bs R.name ++ ({ data := #[120] } : ByteArray) = bs (R.name ++ [120]) := by rw [show ({ data := #[120] } : ByteArray) = bs [120] from rfl, bs_append]
      have hfl : R.name.length ≤ 300 := by have := (HC.out 1).1; omega
      have HM := Lib.hid hM
      have HS := Lib.hid hs
      clear hM hs
      go_wp2_with (first
        | (with_reducible refine list_val rfl (rem4_op (.tmp 32) rfl a rfl) ?_; rw [HQ.out])
        | (refine store_str_any rfl (.tmp 66) (.tmp 65) rfl p8 0 rfl (R.name ++ [120]) (congrArg Value.string HS.out) _ (M.cells aR cR) ZM7.out (by simp [Nd.cells]) (by rw [HM.out]; rfl) ?_; intro w8 hu8 tu8; have Z8 := Lib.hid (Z7.out.stored tu8 hu8 (by omega) (Has.alike (Has.kept (S' := any_) (fun _ _ _ => trivial) (fun i hi hl => tu8.block i hl (by simpa using hi)) 17 R aR Z7.out.t) (by rw [HM.out]; rfl)) HVB.out (by have := HP.out; omega)); have ZM8 := Lib.hid Z8.out.m; clear hu8 tu8)
        | (refine load_any rfl 24 (.tmp 8) rfl ⟨p8, 0, none⟩ rfl (M.cells aR cR) _ (fun j v hj => by rw [Addr.add0]; exact ZM8.out.cell j v hj) Tryd.underlying24 rfl info_nd ?_))
      have FC1 := Lib.hid (show sameL 17 R M = false by rw [HM.out]; exact sameL_ne (.inl (by show R.name ≠ R.name ++ [120]; simp)))
      have FC2 := Lib.hid (show sameL 17 M R = false by rw [HM.out]; exact sameL_ne (.inl (by show R.name ++ [120] ≠ R.name; simp)))
      have hdl : M.data.length = R.data.length := by rw [HM.out]; rfl
      have hln : (nodesL 17 1 M).length = I := by rw [HI.out, HM.out]; exact nodesL_alike 17 1 _ _ rfl rfl
      have FD := Lib.hid (show 12 < depthL 14 M ∨ ((nodesL 17 1 M).length = I ∧ bytesL (nodesL 17 1 M) = Y) by
        by_cases hd : 12 < depthL 14 M
        · exact .inl hd
        · refine .inr ⟨hln, ?_⟩
          have e : depthL 14 M = depthL 14 R := by rw [HM.out]; exact depthL_alike 14 _ _ rfl rfl
          have h : bytesL (nodesL 17 1 M) + R.data.length = bytesL (nodesL 17 1 R) + M.data.length := bytesL_alike 16 1 M R (by rw [HM.out]; rfl) (by rw [HM.out]; rfl) (by omega)
          rw [HY.out]; omega)
      have HGM := Lib.hid (show ∀ p ∈ nodesL 17 1 M, GoodN p from goodM HC.out (by rw [HM.out]; exact fun _ h => .inl h) (by have := (HC.out 1).2.1; omega))
      refine (size_any 17 M aR cR w8 (by omega) Z8.out.u HGM.out (by omega)).mono ?_
      rintro e w9 ⟨rfl, b9⟩
      have Z9 := Lib.hid (Z8.out.below b9)
      have ZA9 := Lib.hid Z9.out.a
      have ZM9 := Lib.hid Z9.out.m
      obtain ⟨C, hC⟩ : ∃ C, C = (nodesL 17 1 M).length := ⟨_, rfl⟩
      obtain ⟨D, hD⟩ : ∃ D, D = bytesL (nodesL 17 1 M) := ⟨_, rfl⟩
      have FD2 := FD.out
      rw [← hC, ← hD] at FD2
      rw [← hC, ← hD]
      have FE := Lib.hid FD2
      clear b9 hC hD hln FD2 FD Z8 ZM8 Z7 ZA7 ZM7
      go_wp2_with (first | (refine load_any rfl 24 (.tmp 3) rfl ⟨P, 0, none⟩ rfl (R.cells aR cR) _ (fun j v hj => by rw [Addr.add0]; exact ZA9.out.cell j v hj) Tryd.underlying24 rfl info_nd ?_) | (refine load_any rfl 24 (.tmp 8) rfl ⟨p8, 0, none⟩ rfl (M.cells aR cR) _ (fun j v hj => by rw [Addr.add0]; exact ZM9.out.cell j v hj) Tryd.underlying24 rfl info_nd ?_))
      refine (same_wrap 17 17 R M aR aR cR cR w9 (by omega) Z9.out.t.any Z9.out.u).mono ?_
      rintro e w10 ⟨rfl, b10⟩
      have Z10 := Lib.hid (Z9.out.below b10)
      have ZA10 := Lib.hid Z10.out.a
      have ZM10 := Lib.hid Z10.out.m
      obtain ⟨x10a, x10b, x10c, x10d, x10e⟩ := Z10.out.a.field
      obtain ⟨y10a, y10b, y10c, y10d, y10e⟩ := Z10.out.m.field
      clear b10
      rw [FC1.out]
      clear Z9 ZA9 ZM9
      go_wp2_with fail
      refine (same_wrap 17 17 M R aR aR cR cR w10 (by omega) Z10.out.u Z10.out.t.any).mono ?_
      rintro e w11 ⟨rfl, b11⟩
      have Z11 := Lib.hid (Z10.out.below b11)
      have ZA11 := Lib.hid Z11.out.a
      have ZM11 := Lib.hid Z11.out.m
      obtain ⟨x11a, x11b, x11c, x11d, x11e⟩ := Z11.out.a.field
      obtain ⟨y11a, y11b, y11c, y11d, y11e⟩ := Z11.out.m.field
      clear b11
      rw [FC2.out]
      clear Z10 ZA10 ZM10 x10a x10b x10c x10d x10e y10a y10b y10c y10d y10e
      go_wp2_with fail
      refine (same_wrap 17 17 R R aR aR cR cR w11 (by omega) Z11.out.t.any Z11.out.t.any).mono ?_
      rintro e w12 ⟨rfl, b12⟩
      have Z12 := Lib.hid (Z11.out.below b12)
      have ZA12 := Lib.hid Z12.out.a
      have ZM12 := Lib.hid Z12.out.m
      obtain ⟨x12a, x12b, x12c, x12d, x12e⟩ := Z12.out.a.field
      obtain ⟨y12a, y12b, y12c, y12d, y12e⟩ := Z12.out.m.field
      clear b12
      rw [F3.out]
      clear Z11 ZA11 ZM11 x11a x11b x11c x11d x11e y11a y11b y11c y11d y11e
      go_wp2_with fail
      refine (deep_any 17 M aR cR w12 Z12.out.u).mono ?_
      rintro e w13 ⟨rfl, b13⟩
      have Z13 := Lib.hid (Z12.out.below b13)
      have ZA13 := Lib.hid Z13.out.a
      have ZM13 := Lib.hid Z13.out.m
      obtain ⟨x13a, x13b, x13c, x13d, x13e⟩ := Z13.out.a.field
      obtain ⟨y13a, y13b, y13c, y13d, y13e⟩ := Z13.out.m.field
      clear b13
      clear Z12 ZA12 ZM12 x12a x12b x12c x12d x12e y12a y12b y12c y12d y12e
      have FE2 := FE.out
      obtain ⟨E, hE⟩ : ∃ E, E = depthL 14 M := ⟨_, rfl⟩
      rw [← hE] at FE2 ⊢
      clear hE FE
      have S13 := Lib.hid Z13.out.s
      by_cases hd : 12 < E
      · have hd' : (12 : Int) < E := by omega
        by_cases hl : ls = []
        · subst hl
          go_wp2_with fail
          go_ret
          exact ⟨rfl, Z13.out.b⟩
        · have hl1 : 0 < ls.length := List.length_pos_iff.mpr hl
          have hl0 : ((ls.length : Int) == 0) = false := by simp; omega
          go_wp2_with fail
          have hN2 := nodesL_cnt 17 1 R
          refine (check_any 17 R aR cR w13 (by omega) Z13.out.t.any (goodN_of (by omega) HC.out) (by omega)).mono ?_
          rintro e w14 ⟨rfl, b14⟩
          have hB14 := Lib.hid (Z13.out.below b14).b
          have S14 := Lib.hid (S13.out.below b14)
          have F6 := F5.out.resolve_left hl
          obtain ⟨K, hK⟩ : ∃ K, K = checkL 17 R := ⟨_, rfl⟩
          rw [← hK] at F6 ⊢
          clear hK b14 hN2
          by_cases hk : K = 0
          · subst hk
            obtain ⟨j, hj⟩ : ∃ j, j = b % ls.length := ⟨_, rfl⟩
            have hjl : j < ls.length := by rw [hj]; exact Nat.mod_lt _ hl1
            have hrem : (b : Int).tmod (ls.length : Int) = (j : Int) := by rw [hj]; rfl
            obtain ⟨t, ht⟩ : ∃ t, ls[j]? = some t := ⟨_, List.getElem?_eq_getElem hjl⟩
            have hne := (F6.resolve_left (fun h => h rfl)) t (List.mem_of_getElem? ht)
            obtain ⟨g, rfl, hc⟩ := S14.out.get j t ht
            have hne2 : (t == []) = false := by simpa using hne
            have hne3 : t.isEmpty = false := by simpa using hne
            have hj0 : (j : Int) < ls.length := by omega
            clear hj ht hne
            go_wp2_with fail
            go_ret
            exact ⟨rfl, hB14.out⟩
          · have hk2 : (K == 0) = false := by simpa using hk
            go_wp2_with fail
            go_ret
            exact ⟨rfl, hB14.out⟩
      · have hd' : ¬ (12 : Int) < E := by omega
        obtain ⟨hC, hD⟩ := FE2.resolve_left hd
        subst hC hD
        by_cases hl : ls = []
        · subst hl
          go_wp2_with fail
          go_ret
          exact ⟨rfl, Z13.out.b⟩
        · have hl1 : 0 < ls.length := List.length_pos_iff.mpr hl
          have hl0 : ((ls.length : Int) == 0) = false := by simp; omega
          go_wp2_with fail
          have hN2 := nodesL_cnt 17 1 R
          refine (check_any 17 R aR cR w13 (by omega) Z13.out.t.any (goodN_of (by omega) HC.out) (by omega)).mono ?_
          rintro e w14 ⟨rfl, b14⟩
          have hB14 := Lib.hid (Z13.out.below b14).b
          have S14 := Lib.hid (S13.out.below b14)
          have F6 := F5.out.resolve_left hl
          obtain ⟨K, hK⟩ : ∃ K, K = checkL 17 R := ⟨_, rfl⟩
          rw [← hK] at F6 ⊢
          clear hK b14 hN2
          by_cases hk : K = 0
          · subst hk
            obtain ⟨j, hj⟩ : ∃ j, j = b % ls.length := ⟨_, rfl⟩
            have hjl : j < ls.length := by rw [hj]; exact Nat.mod_lt _ hl1
            have hrem : (b : Int).tmod (ls.length : Int) = (j : Int) := by rw [hj]; rfl
            obtain ⟨t, ht⟩ : ∃ t, ls[j]? = some t := ⟨_, List.getElem?_eq_getElem hjl⟩
            have hne := (F6.resolve_left (fun h => h rfl)) t (List.mem_of_getElem? ht)
            obtain ⟨g, rfl, hc⟩ := S14.out.get j t ht
            have hne2 : (t == []) = false := by simpa using hne
            have hne3 : t.isEmpty = false := by simpa using hne
            have hj0 : (j : Int) < ls.length := by omega
            clear hj ht hne
            go_wp2_with fail
            go_ret
            exact ⟨rfl, hB14.out⟩
          · have hk2 : (K == 0) = false := by simpa using hk
            go_wp2_with fail
            go_ret
            exact ⟨rfl, hB14.out⟩
    · have HQ := Lib.hid hq
      clear hq
      have c1 := ZA7.out.cell 1 _ rfl
      by_cases hk : R.kind = 2
      · rw [hk] at c1
        clear hk
        have c4 := (ZA7.out.alloc (.cells #[] 24)).cell 4 _ rfl
        have hk7 := Z7.out.t.2
        have hk6 : R.kids.length ≤ 6 := (HC.out 1).2.2.1
        obtain ⟨ps, hps, hrow, hhas⟩ := has_trip (S := fun i => i ≠ p8) (w := w7) (h := 16) R.kids aR hk7
        have hpl : ps.length = R.kids.length := by rw [← hps, List.length_map]
        obtain ⟨a1, k1, v1, hr1, hO1, hb1, bb1⟩ := kids_copy ps aR cR w7 hrow (by omega)
        rw [hpl] at hr1
        have HPS := Lib.hid hps
        have HHAS := Lib.hid hhas
        have HR1 := Lib.hid hr1
        have HO1 := Lib.hid hO1
        have HBK := Lib.hid hb1
        have BB1 := Lib.hid bb1
        have hv1 := bb1.size
        clear hk7 hps hrow hhas hr1 hO1 hb1 bb1
        go_wp2_with (first
          | (with_reducible refine list_val rfl (rem4_op (.tmp 32) rfl a rfl) ?_; rw [HQ.out])
          | (with_reducible refine hold_at 40 rfl ?_))
        unfold held
        refine list_val rfl (run_append_op (.tmp 37) (.tmp 39) 22 22 rfl _ _ rfl rfl HR1.out) ?_
        go_wp2_with fail
        refine (file_any [126, 126, 126, 126] [] v1).mono ?_
        rintro e v2 ⟨bb2, rfl⟩
        have HO2 := Lib.hid (HO1.out.touch (ft := []) (Touch.of_below bb2) (fun _ _ h => by cases h))
        have BB2 := Lib.hid (BB1.out.trans (bb2.mono hv1))
        have hv2 := bb2.size
        clear bb2
        obtain ⟨a3, k3, v3, hr3, hO3, hb3, hT3⟩ := kids_more ps a1 k1 v2 HO2.out (leafF [126, 126, 126, 126], none, 0) (by omega)
        have BB3 := Lib.hid (hT3.below BB2.out (fun k hk => HBK.out k hk) (Nat.le_refl _))
        have hv3 := hT3.size
        have hb3' : ∀ i, i ∈ blk a3 → w7.heap.size ≤ i := fun i hi => by
          rcases hb3 i hi with h | h
          · exact HBK.out i h
          · omega
        have hl3 : (ps ++ [((leafF [126, 126, 126, 126], none, 0) : Tri)]).length = R.kids.length + 1 := by rw [List.length_append, hpl]; rfl
        obtain ⟨M, hM⟩ : ∃ M : Nd, M = ⟨R.name, R.kind, R.exec, R.data, R.kids ++ [leafF [126, 126, 126, 126]]⟩ := ⟨_, rfl⟩
        have hMl : M.kids.length = R.kids.length + 1 := by rw [hM]; show (R.kids ++ _).length = _; simp
        rw [hl3, hpl] at hr3
        have HR3 := Lib.hid hr3
        have HO3 := Lib.hid hO3
        have HB3 := Lib.hid hb3'
        have HL3 := Lib.hid hl3
        have HM := Lib.hid hM
        have Z3 := Lib.hid (Z7.out.below BB3.out)
        have ZM3 := Lib.hid Z3.out.m
        have HPL := Lib.hid hpl
        have HML := Lib.hid hMl
        clear hr3 hO3 hb3 hb3' hT3 hl3 hM hpl hMl
        go_wp2_with (first
          | (with_reducible refine list_val rfl (build_nd_op (.tmp 41) rfl (Nd.cells (leafF [126, 126, 126, 126]) none 0) rfl rfl) ?_)
          | (with_reducible refine hold_at 43 rfl ?_))
        unfold held
        refine list_val rfl (run_append_op (.tmp 40) (.tmp 42) 22 22 rfl _ _ rfl rfl HR3.out) ?_
        go_wp2_with (first
          | (refine store_slice_any rfl (.tmp 44) (.tmp 43) rfl p8 4 rfl a3 (R.kids.length + 1) k3 rfl _ (M.cells a3 k3) ZM3.out (by simp [Nd.cells]) (by rw [HM.out]; show _ = [_, _, _, _, Value.slice a3 (R.kids ++ [_]).length k3]; rw [List.length_append]; rfl) ?_
             intro w8 hu8 tu8
             have Z8 := Lib.hid (Z3.out.stored tu8 hu8 (by omega) (own_node (HO3.out.touch tu8 (fun i hi => by have := HB3.out i hi; simp; omega)) (fun p hp => by
               rcases List.mem_append.mp hp with hp | hp
               · exact Has.kept (S' := any_) (fun _ _ _ => trivial) (fun i hi hl => tu8.block i hl (by simpa using hi)) 16 p.1 p.2.1 ((HHAS.out p hp).below BB3.out)
               · rw [List.mem_singleton] at hp; subst hp; exact Has.leaf _ _ 15 _ _ rfl) M (by rw [HM.out, List.map_append, HPS.out]; rfl)) HVB.out (by have := HP.out; omega))
             have ZM8 := Lib.hid Z8.out.m
             clear hu8 tu8)
          | (refine load_any rfl 24 (.tmp 8) rfl ⟨p8, 0, none⟩ rfl (M.cells a3 k3) _ (fun j v hj => by rw [Addr.add0]; exact ZM8.out.cell j v hj) Tryd.underlying24 rfl info_nd ?_))
        have FC1 := Lib.hid (show sameL 17 R M = false from sameL_ne (.inr (.inr (.inr (by have := HML.out; omega)))))
        have FC2 := Lib.hid (show sameL 17 M R = false from sameL_ne (.inr (.inr (.inr (by have := HML.out; omega)))))
        have hmore : depthL 14 M ≤ 12 → (nodesL 17 1 M).length = I + 1 ∧ bytesL (nodesL 17 1 M) = Y := fun hd => by
          have h := nodesL_more 15 1 M R [126, 126, 126, 126] (by rw [HM.out]; rfl) hd hdR (by rw [HM.out]; rfl)
          rw [HI.out, HY.out]; exact h
        have hln : (nodesL 17 1 M).length ≤ 2000 := by
          by_cases hd : depthL 14 M ≤ 12
          · have := (hmore hd).1; omega
          · unfold nodesL; rw [if_pos (by omega)]; exact Nat.zero_le _
        have FD := Lib.hid (show 12 < depthL 14 M ∨ ((nodesL 17 1 M).length = I + 1 ∧ bytesL (nodesL 17 1 M) = Y) by
          by_cases hd : depthL 14 M ≤ 12
          · exact .inr (hmore hd)
          · exact .inl (by omega))
        have HGM := Lib.hid (show ∀ p ∈ nodesL 17 1 M, GoodN p from goodM HC.out (by
          rw [HM.out]
          intro m hm
          rcases List.mem_append.mp hm with h | h
          · exact .inl h
          · rw [List.mem_singleton] at h; subst h; exact .inr ⟨rfl, rfl⟩) (by rw [HM.out]; exact Nat.le_trans (HC.out 1).2.1 (by decide)))
        clear hmore Z3 ZM3 HO3 HB3 HO2 HO1 BB1 BB2 HR1 HR3
        refine (size_any 17 M a3 k3 w8 (by omega) Z8.out.u HGM.out (by omega)).mono ?_
        rintro e w9 ⟨rfl, b9⟩
        have Z9 := Lib.hid (Z8.out.below b9)
        have ZA9 := Lib.hid Z9.out.a
        have ZM9 := Lib.hid Z9.out.m
        obtain ⟨C, hC⟩ : ∃ C, C = (nodesL 17 1 M).length := ⟨_, rfl⟩
        obtain ⟨D, hD⟩ : ∃ D, D = bytesL (nodesL 17 1 M) := ⟨_, rfl⟩
        have FD2 := FD.out
        rw [← hC, ← hD] at FD2
        rw [← hC, ← hD]
        have FE := Lib.hid FD2
        clear b9 hC hD hln FD2 FD Z8 ZM8 Z7 ZA7 ZM7
        go_wp2_with (first | (refine load_any rfl 24 (.tmp 3) rfl ⟨P, 0, none⟩ rfl (R.cells aR cR) _ (fun j v hj => by rw [Addr.add0]; exact ZA9.out.cell j v hj) Tryd.underlying24 rfl info_nd ?_) | (refine load_any rfl 24 (.tmp 8) rfl ⟨p8, 0, none⟩ rfl (M.cells a3 k3) _ (fun j v hj => by rw [Addr.add0]; exact ZM9.out.cell j v hj) Tryd.underlying24 rfl info_nd ?_))
        refine (same_wrap 17 17 R M aR a3 cR k3 w9 (by omega) Z9.out.t.any Z9.out.u).mono ?_
        rintro e w10 ⟨rfl, b10⟩
        have Z10 := Lib.hid (Z9.out.below b10)
        have ZA10 := Lib.hid Z10.out.a
        have ZM10 := Lib.hid Z10.out.m
        obtain ⟨x10a, x10b, x10c, x10d, x10e⟩ := Z10.out.a.field
        obtain ⟨y10a, y10b, y10c, y10d, y10e⟩ := Z10.out.m.field
        clear b10
        rw [FC1.out]
        clear Z9 ZA9 ZM9
        go_wp2_with fail
        refine (same_wrap 17 17 M R a3 aR k3 cR w10 (by omega) Z10.out.u Z10.out.t.any).mono ?_
        rintro e w11 ⟨rfl, b11⟩
        have Z11 := Lib.hid (Z10.out.below b11)
        have ZA11 := Lib.hid Z11.out.a
        have ZM11 := Lib.hid Z11.out.m
        obtain ⟨x11a, x11b, x11c, x11d, x11e⟩ := Z11.out.a.field
        obtain ⟨y11a, y11b, y11c, y11d, y11e⟩ := Z11.out.m.field
        clear b11
        rw [FC2.out]
        clear Z10 ZA10 ZM10 x10a x10b x10c x10d x10e y10a y10b y10c y10d y10e
        go_wp2_with fail
        refine (same_wrap 17 17 R R aR aR cR cR w11 (by omega) Z11.out.t.any Z11.out.t.any).mono ?_
        rintro e w12 ⟨rfl, b12⟩
        have Z12 := Lib.hid (Z11.out.below b12)
        have ZA12 := Lib.hid Z12.out.a
        have ZM12 := Lib.hid Z12.out.m
        obtain ⟨x12a, x12b, x12c, x12d, x12e⟩ := Z12.out.a.field
        obtain ⟨y12a, y12b, y12c, y12d, y12e⟩ := Z12.out.m.field
        clear b12
        rw [F3.out]
        clear Z11 ZA11 ZM11 x11a x11b x11c x11d x11e y11a y11b y11c y11d y11e
        go_wp2_with fail
        refine (deep_any 17 M a3 k3 w12 Z12.out.u).mono ?_
        rintro e w13 ⟨rfl, b13⟩
        have Z13 := Lib.hid (Z12.out.below b13)
        have ZA13 := Lib.hid Z13.out.a
        have ZM13 := Lib.hid Z13.out.m
        obtain ⟨x13a, x13b, x13c, x13d, x13e⟩ := Z13.out.a.field
        obtain ⟨y13a, y13b, y13c, y13d, y13e⟩ := Z13.out.m.field
        clear b13
        clear Z12 ZA12 ZM12 x12a x12b x12c x12d x12e y12a y12b y12c y12d y12e
        have FE2 := FE.out
        obtain ⟨E, hE⟩ : ∃ E, E = depthL 14 M := ⟨_, rfl⟩
        rw [← hE] at FE2 ⊢
        clear hE FE
        have S13 := Lib.hid Z13.out.s
        by_cases hd : 12 < E
        · have hd' : (12 : Int) < E := by omega
          by_cases hl : ls = []
          · subst hl
            go_wp2_with fail
            go_ret
            exact ⟨rfl, Z13.out.b⟩
          · have hl1 : 0 < ls.length := List.length_pos_iff.mpr hl
            have hl0 : ((ls.length : Int) == 0) = false := by simp; omega
            go_wp2_with fail
            have hN2 := nodesL_cnt 17 1 R
            refine (check_any 17 R aR cR w13 (by omega) Z13.out.t.any (goodN_of (by omega) HC.out) (by omega)).mono ?_
            rintro e w14 ⟨rfl, b14⟩
            have hB14 := Lib.hid (Z13.out.below b14).b
            have S14 := Lib.hid (S13.out.below b14)
            have F6 := F5.out.resolve_left hl
            obtain ⟨K, hK⟩ : ∃ K, K = checkL 17 R := ⟨_, rfl⟩
            rw [← hK] at F6 ⊢
            clear hK b14 hN2
            by_cases hk : K = 0
            · subst hk
              obtain ⟨j, hj⟩ : ∃ j, j = b % ls.length := ⟨_, rfl⟩
              have hjl : j < ls.length := by rw [hj]; exact Nat.mod_lt _ hl1
              have hrem : (b : Int).tmod (ls.length : Int) = (j : Int) := by rw [hj]; rfl
              obtain ⟨t, ht⟩ : ∃ t, ls[j]? = some t := ⟨_, List.getElem?_eq_getElem hjl⟩
              have hne := (F6.resolve_left (fun h => h rfl)) t (List.mem_of_getElem? ht)
              obtain ⟨g, rfl, hc⟩ := S14.out.get j t ht
              have hne2 : (t == []) = false := by simpa using hne
              have hne3 : t.isEmpty = false := by simpa using hne
              have hj0 : (j : Int) < ls.length := by omega
              clear hj ht hne
              go_wp2_with fail
              go_ret
              exact ⟨rfl, hB14.out⟩
            · have hk2 : (K == 0) = false := by simpa using hk
              go_wp2_with fail
              go_ret
              exact ⟨rfl, hB14.out⟩
        · have hd' : ¬ (12 : Int) < E := by omega
          obtain ⟨hC, hD⟩ := FE2.resolve_left hd
          subst hC hD
          by_cases hl : ls = []
          · subst hl
            go_wp2_with fail
            go_ret
            exact ⟨rfl, Z13.out.b⟩
          · have hl1 : 0 < ls.length := List.length_pos_iff.mpr hl
            have hl0 : ((ls.length : Int) == 0) = false := by simp; omega
            go_wp2_with fail
            have hN2 := nodesL_cnt 17 1 R
            refine (check_any 17 R aR cR w13 (by omega) Z13.out.t.any (goodN_of (by omega) HC.out) (by omega)).mono ?_
            rintro e w14 ⟨rfl, b14⟩
            have hB14 := Lib.hid (Z13.out.below b14).b
            have S14 := Lib.hid (S13.out.below b14)
            have F6 := F5.out.resolve_left hl
            obtain ⟨K, hK⟩ : ∃ K, K = checkL 17 R := ⟨_, rfl⟩
            rw [← hK] at F6 ⊢
            clear hK b14 hN2
            by_cases hk : K = 0
            · subst hk
              obtain ⟨j, hj⟩ : ∃ j, j = b % ls.length := ⟨_, rfl⟩
              have hjl : j < ls.length := by rw [hj]; exact Nat.mod_lt _ hl1
              have hrem : (b : Int).tmod (ls.length : Int) = (j : Int) := by rw [hj]; rfl
              obtain ⟨t, ht⟩ : ∃ t, ls[j]? = some t := ⟨_, List.getElem?_eq_getElem hjl⟩
              have hne := (F6.resolve_left (fun h => h rfl)) t (List.mem_of_getElem? ht)
              obtain ⟨g, rfl, hc⟩ := S14.out.get j t ht
              have hne2 : (t == []) = false := by simpa using hne
              have hne3 : t.isEmpty = false := by simpa using hne
              have hj0 : (j : Int) < ls.length := by omega
              clear hj ht hne
              go_wp2_with fail
              go_ret
              exact ⟨rfl, hB14.out⟩
            · have hk2 : (K == 0) = false := by simpa using hk
              go_wp2_with fail
              go_ret
              exact ⟨rfl, hB14.out⟩
      · have hk2 : (R.kind == 2) = false := by simpa using hk
        go_wp2_with (first
          | (with_reducible refine list_val rfl (rem4_op (.tmp 32) rfl a rfl) ?_; rw [HQ.out]))
        go_ret
        exact ⟨rfl, Z7.out.b⟩
end Go.Proofs.YtfflkpggmhlfpaaDoor
