/- enter. -/
import Derived.Test.YtgifdmfnecombaaIr
namespace Go.Proofs.Ytgifdmfnecombaa
open Go.RowKit
set_option maxRecDepth 100000
section
variable {P : Program} {ops : Array Oper} {rest : List Oper} {op o : Oper} {a : Act} {w w1 : World} {Q : Exit → Act → World → Prop}
theorem run_upd_op (t : TypeId) (m x v : Operand) (ho : o.op = .insert t m x v ∨ o.op = .mapUpdate t m x v) (vm vx vv : Value) (hm : a.eval m = vm) (hx : a.eval x = vx) (hv : a.eval v = vv) (hr : (Instr.mapUpdate t vm vx vv).run P w = .ok () w1) : (execOp a.eval o).run P w = .ok .skip w1 := by
  rcases ho with ho | ho <;> (unfold execOp; simp [ho, hm, hx, hv, hr, Result.andThen])
theorem list_skip (hgd : op.guard = none) (hr : (execOp a.eval op).run P w = .ok .skip w1)
    (h : wpList P ops Q rest (a.put op.dst undef) w1) : wpList P ops Q (op :: rest) a w :=
  wpList_plain hgd fun K hK => by
    unfold Oper.wp
    rw [hr]
    exact hK _ _ h
end
section
variable {ops : Array Oper} {rest : List Oper} {op : Oper} {a : Act} {w : World} {Q : Exit → Act → World → Prop}
/-- a whole number is laid into a cell -/
theorem set_int (hgd : op.guard = none) (x y : Operand) (ho : op.op = .store 3 x y) (b n : Nat) (hx : a.eval x = .pointer (some ⟨b, n, none⟩)) (v : Int) (hy : a.eval y = .int .i64 v) (cs : List Value) (t : TypeId) (hB : At w b t cs) (hn : n < cs.length)
    (h : ∀ u, At u b t (cs.set n (.int .i64 v)) → Touch [b] w u → wpList Try.prog ops Q rest (a.put op.dst undef) u) : wpList Try.prog ops Q (op :: rest) a w := by
  have hi : (Try.prog.info? 3).map (·.size) = some 1 := by kernel_rfl
  cases hq : Try.prog.info? 3 with
  | none => simp [hq] at hi
  | some i =>
    have hs : i.size = 1 := by simpa [hq] using hi
    have hc : w.cell? ⟨b, n, none⟩ = some (cs[n]) := hB.cell n _ (List.getElem?_eq_getElem hn)
    have hf := hB.frozen n
    refine list_skip (w1 := w.setCell ⟨b, n, none⟩ (.int .i64 v)) hgd ?_ (h _ (hB.setCell n _) ((Touch.refl _ w).setCell _ _ (.inl (by simp))))
    unfold execOp
    simp only [ho, hx, hy]
    simp [go_sem, hc, hf, sizeOf, typeInfo, hq, hs]
end
def entIn (i : Ino) (nm : List UInt8) (x : Int) : Ino := i.withE (fun j => if j = nm then some x else i.ents j) (if (i.ents nm).isSome then i.cnt else i.cnt + 1)
def Ino.linked (o : Ino) (d : Int) : Ino := { o with links := o.links + 1, up := if o.kind = 2 then d else o.up }
theorem setI_setI (T : Tab) (x : Int) (a b : Ino) : (T.setI x a).setI x b = T.setI x b := by
  unfold Tab.setI
  congr 1
  funext k
  by_cases e : k = x <;> simp [e]
theorem setI_at (T : Tab) (x : Int) (a : Ino) : (T.setI x a).f x = some a := by unfold Tab.setI; simp
set_option maxHeartbeats 2000000 in
theorem enter_any (base : Nat) (w : World) (tb : Nat) (T : Tab) (p : Place) (h : TabAt base w tb T p) (d : Int) (hd : (Lit.int .i64 d).wf = true) (nm : List UInt8) (hn : nm.length ≤ maxLen) (x : Int) (hx : (Lit.int .i64 x).wf = true)
    (i : Ino) (hi : T.f d = some i) (h2 : i.kind = 2) (o : Ino) (ho : (T.setI d (entIn i nm x)).f x = some o) (hl : -1000000000000 ≤ o.links ∧ o.links ≤ 1000000000000) (hm : p.m d < maxLen) :
    Calls Try.prog 35 #[tabV tb, .int .i64 d, .string (bs nm), .int .i64 x] w fun e w' => e = .returned (.tuple #[]) ∧ TabAt base w' tb ((T.setI d (entIn i nm x)).setI x (o.linked d)) (p.setM d (p.m d + 1)) ∧ Step tb T p ((T.setI d (entIn i nm x)).setI x (o.linked d)) (p.setM d (p.m d + 1)) w w' := by
  have c0 := h.t.cell 0 _ rfl
  have hs := h.s d
  rw [hi] at hs
  obtain ⟨b, hg⟩ : ∃ b, p.g d = some b := Option.isSome_iff_exists.mp hs
  have hl1 := h.i.get d hd
  rw [hg] at hl1
  simp only [ptrV] at hl1
  have hIA := h.o d b i hg hi
  have c5 := hIA.a.cell 5 _ rfl
  rw [if_pos h2] at c5
  obtain ⟨w1, hrun, hM, ht⟩ := (hIA.m h2).put nm hn x hx hm
  have H1 := h.setE d i hi h2 _ _ _ hM (turned_touch ht)
  change TabAt base w1 tb (T.setI d (entIn i nm x)) (p.setM d (p.m d + 1)) ∧ Step tb T p (T.setI d (entIn i nm x)) (p.setM d (p.m d + 1)) w w1 at H1
  generalize T.setI d (entIn i nm x) = T1 at H1 ho ⊢
  generalize p.setM d (p.m d + 1) = p1 at H1 ⊢
  have hs2 := H1.1.s x
  rw [ho] at hs2
  obtain ⟨b2, hg2⟩ : ∃ b2, p1.g x = some b2 := Option.isSome_iff_exists.mp hs2
  have d0 := H1.1.t.cell 0 _ rfl
  have hl2 := H1.1.i.get x hx
  rw [hg2] at hl2
  simp only [ptrV] at hl2
  have hIB := H1.1.o x b2 o hg2 ho
  have k0 := hIB.a.cell 0 _ rfl
  have k3 := hIB.a.cell 3 _ rfl
  have W : IntKind.i64.wrap (o.links + 1) = o.links + 1 := wrap_small (by omega) (by omega)
  have HT := Lib.hid H1.1
  have HS := Lib.hid H1.2
  have HO := Lib.hid ho
  have HG2 := Lib.hid hg2
  have HL := Lib.hid hl
  have HA := Lib.hid hIB.a
  clear hl
  unfold tabV
  clear h hs hg hi hIA hM ht H1 ho hm hs2 hg2 hIB h2
  by_cases hk : o.kind = 2
  · rw [if_pos hk] at HA
    rw [hk] at k0
    have HK := Lib.hid hk
    clear hk
    go_enter Try.func35, Try.ntmps35
    go_wp2_with (first
      | (refine set_int rfl (.tmp 34) (.tmp 31) rfl b2 3 rfl (o.links + 1) rfl _ _ HA.out (by simp [Ino.cells]) ?_; intro u hu tu; have HU := Lib.hid hu; have TU := Lib.hid tu; have ck := hu.cell 0 (.int .i64 2) (by simp only [Ino.cells, HK.out]; rfl); clear hu tu)
      | (refine set_int rfl (.tmp 44) (.tmp 42) rfl b2 4 rfl d rfl _ _ HU.out (by simp [Ino.cells]) ?_; intro u2 hu2 tu2; have HU2 := Lib.hid hu2; have TU2 := Lib.hid (TU.out.trans tu2); clear hu2 tu2))
    go_end0
    have H2 := HT.out.setI x o (o.linked d) b2 HO.out HG2.out rfl rfl rfl (by rw [if_pos HK.out]; have := HU2.out; simpa [Ino.cells, Ino.linked, HK.out] using this) TU2.out
    exact ⟨rfl, H2.1, HS.out.trans H2.2⟩
  · have hkb : (o.kind == 2) = false := by simpa using hk
    rw [if_neg hk] at HA
    have HK := Lib.hid hk
    clear hk
    go_enter Try.func35, Try.ntmps35
    go_wp2_with (first
      | (refine set_int rfl (.tmp 34) (.tmp 31) rfl b2 3 rfl (o.links + 1) rfl _ _ HA.out (by simp [Ino.cells]) ?_; intro u hu tu; have HU := Lib.hid hu; have TU := Lib.hid tu; have ck := hu.cell 0 (.int .i64 o.kind) rfl; clear hu tu))
    go_end0
    have H2 := HT.out.setI x o (o.linked d) b2 HO.out HG2.out rfl rfl rfl (by rw [if_neg HK.out]; have := HU.out; simpa [Ino.cells, Ino.linked, HK.out] using this) TU.out
    exact ⟨rfl, H2.1, HS.out.trans H2.2⟩
end Go.Proofs.Ytgifdmfnecombaa
