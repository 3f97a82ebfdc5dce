/- What DiskBytes keeps beside its disk. -/
import Derived.Test.YtcmojlfhkbkfcaaEa
import Derived.Test.YtcmojlfhkbkfcaaDx
namespace Go.Proofs.Ytcmojlfhkbkfcaa
open Go.RowKit Go.Maps

/-- the cells of the maps: p of them are laid -/
def mapsOf (mb : Nat → Nat) (p : Nat) : List Value := (List.range 512).map fun j => .map (if j < p then some (mb j) else none)
theorem mapsOf_len (mb : Nat → Nat) (p : Nat) : (mapsOf mb p).length = 512 := by simp [mapsOf]
theorem mapsOf_at (mb : Nat → Nat) (p j : Nat) (h : j < 512) : (mapsOf mb p)[j]? = some (.map (if j < p then some (mb j) else none)) := by
  unfold mapsOf
  rw [List.getElem?_map, List.getElem?_range h]; rfl
theorem mapsOf_get (mb : Nat → Nat) (p j : Nat) (h : j < 512) (hp : j < p) : (mapsOf mb p)[j]? = some (.map (some (mb j))) := by
  rw [mapsOf_at mb p j h, if_pos hp]
theorem mapsOf_set (mb : Nat → Nat) (p p2 j b : Nat) (h : j < 512) (hj : j ≤ p) (hp : p2 = max p (j + 1)) : (mapsOf mb p).set j (.map (some b)) = mapsOf (fun i => if i = j then b else mb i) p2 := by
  apply List.ext_getElem?
  intro i
  by_cases hi : i < 512
  · rw [mapsOf_at _ p2 i hi]
    by_cases e : i = j
    · subst e
      rw [List.getElem?_set_self (by rw [mapsOf_len]; exact hi), if_pos (by omega), if_pos rfl]
    · rw [List.getElem?_set_ne (fun h => e h.symm), mapsOf_at _ p i hi, if_neg e]
      by_cases h2 : i < p
      · rw [if_pos h2, if_pos (by omega)]
      · rw [if_neg h2, if_neg (by omega)]
  · rw [List.getElem?_eq_none (by rw [List.length_set, mapsOf_len]; omega), List.getElem?_eq_none (by rw [mapsOf_len]; omega)]
theorem mapsOf_none (mb : Nat → Nat) : mapsOf mb 0 = List.replicate 512 (.map none) := by
  apply List.ext_getElem?
  intro i
  by_cases hi : i < 512
  · rw [mapsOf_at _ 0 i hi, if_neg (by omega), List.getElem?_replicate_of_lt hi]
  · rw [List.getElem?_eq_none (by rw [mapsOf_len]; omega), List.getElem?_eq_none (by rw [List.length_replicate]; omega)]
/-- the blocks of it -/
def mine (M NW SR BX : Nat) (mb : Nat → Nat) (p : Nat) : Nat → Prop := fun i => i = M ∨ i = NW ∨ i = SR ∨ i = BX ∨ ∃ j, j < p ∧ i = mb j
structure Bk (w0 w : World) (D M NW SR BX : Nat) (s : Dk) (nw : List UInt8) (sr : List Bool) (mb : Nat → Nat) (pn q : Nat) (T : Nat → UInt8 → Prop) : Prop where
  p : Priv w0 w (mine M NW SR BX mb pn) 4 D s
  m : At w M 50 (mapsOf mb pn)
  n : At w NW 51 (nw.map bv)
  r : At w SR 52 (sr.map Value.bool)
  h : ∀ j, j < pn → MapHas w (mb j) q (T j)
  nl : nw.length = 4
  rl : sr.length = 4
  b1 : w0.heap.size ≤ M
  b2 : w0.heap.size ≤ NW
  b3 : w0.heap.size ≤ SR
  b4 : ∀ j, j < pn → w0.heap.size ≤ mb j
  inj : ∀ i j, i < pn → j < pn → mb i = mb j → i = j
section
variable {w0 w : World} {D M NW SR BX : Nat} {s : Dk} {nw : List UInt8} {sr : List Bool} {mb : Nat → Nat} {pn q : Nat} {T : Nat → UInt8 → Prop}
theorem Bk.sub {T2 : Nat → UInt8 → Prop} (h : Bk w0 w D M NW SR BX s nw sr mb pn q T) (hs : ∀ j c, j < pn → T2 j c → T j c) : Bk w0 w D M NW SR BX s nw sr mb pn q T2 :=
  { h with h := fun j hj => (h.h j hj).sub fun c hc => hs j c hj hc }
theorem Bk.mono {q2 : Nat} (h : Bk w0 w D M NW SR BX s nw sr mb pn q T) (hq : q ≤ q2) : Bk w0 w D M NW SR BX s nw sr mb pn q2 T :=
  { h with h := fun j hj => (h.h j hj).mono hq }
/-- a call that does something to the disk -/
theorem Bk.disk {s' : Dk} {w' : World} (h : Bk w0 w D M NW SR BX s nw sr mb pn q T) (hp : PrivTo w0 w (mine M NW SR BX mb pn) 4 D s' w') : Bk w0 w' D M NW SR BX s' nw sr mb pn q T :=
  ⟨hp.1, hp.2.at h.m (.inl rfl), hp.2.at h.n (.inr (.inl rfl)), hp.2.at h.r (.inr (.inr (.inl rfl))), fun j hj => (h.h j hj).eq (hp.2 _ (.inr (.inr (.inr (.inr ⟨j, hj, rfl⟩))))), h.nl, h.rl, h.b1, h.b2, h.b3, h.b4, h.inj⟩
theorem Bk.below {w' : World} (h : Bk w0 w D M NW SR BX s nw sr mb pn q T) (b : Below w.heap.size w w') : Bk w0 w' D M NW SR BX s nw sr mb pn q T := h.disk (h.p.below b)
theorem Bk.alloc (h : Bk w0 w D M NW SR BX s nw sr mb pn q T) (o : Obj) : Bk w0 (w.alloc o) D M NW SR BX s nw sr mb pn q T := h.below ((Below.refl _ _).alloc (Nat.le_refl _) _)
theorem Bk.drew (h : Bk w0 w D M NW SR BX s nw sr mb pn q T) : Bk w0 w.drew D M NW SR BX s nw sr mb pn q T :=
  ⟨h.p.drew, h.m, h.n, h.r, h.h, h.nl, h.rl, h.b1, h.b2, h.b3, h.b4, h.inj⟩
theorem Bk.drewN (h : Bk w0 w D M NW SR BX s nw sr mb pn q T) (k : Nat) : Bk w0 (w.drewN k) D M NW SR BX s nw sr mb pn q T := h.below (below_drewN w k)
/-- a new block is to be left alone, too -/
theorem Bk.with (h : Bk w0 w D M NW SR BX s nw sr mb pn q T) {w' : World} (k : Touch [] w w') (b : Nat) (hb : w.heap.size ≤ b) (hb2 : b < w'.heap.size) : Bk w0 w' D M NW SR b s nw sr mb pn q T := by
  have h1 := h.below (w' := w') ⟨k.os, k.tape, k.output, k.size, fun i hi => k.block i hi (by simp)⟩
  obtain ⟨hl, F, N, ao, cap, hd, hB, hff⟩ := h.p
  have hz := k.size
  have hd1 := hd.touch k (by simp)
  refine { h1 with p := ⟨fun i hi => ?_, F, N, ao, cap, hd1, k.below hB (by simp) (Nat.le_refl _), fun i hi => ⟨(hff i hi).1, fun e => ?_⟩⟩ }
  · rcases hi with hi | hi | hi | hi | hi
    · have := hl i (.inl hi); omega
    · have := hl i (.inr (.inl hi)); omega
    · have := hl i (.inr (.inr (.inl hi))); omega
    · omega
    · have := hl i (.inr (.inr (.inr (.inr hi)))); omega
  · have hlt := hd.lt i hi
    rcases e with e | e | e | e | e
    · exact (hff i hi).2 (.inl e)
    · exact (hff i hi).2 (.inr (.inl e))
    · exact (hff i hi).2 (.inr (.inr (.inl e)))
    · omega
    · exact (hff i hi).2 (.inr (.inr (.inr (.inr e))))
theorem Bk.without (h : Bk w0 w D M NW SR BX s nw sr mb pn q T) : Bk w0 w D M NW SR M s nw sr mb pn q T :=
  { h with p := h.p.more (fun i hi => .inr (by
      rcases hi with hi | hi | hi | hi | hi
      · exact .inl hi
      · exact .inr (.inl hi)
      · exact .inr (.inr (.inl hi))
      · exact .inl hi
      · exact .inr (.inr (.inr (.inr hi))))) }
theorem Bk.mn (h : Bk w0 w D M NW SR BX s nw sr mb pn q T) : M ≠ NW := h.m.ne h.n (by decide)
theorem Bk.mr (h : Bk w0 w D M NW SR BX s nw sr mb pn q T) : M ≠ SR := h.m.ne h.r (by decide)
theorem Bk.nr (h : Bk w0 w D M NW SR BX s nw sr mb pn q T) : NW ≠ SR := h.n.ne h.r (by decide)
/-- the disk, where a block of mine is written -/
theorem Priv.mine {w' : World} {av : Nat → Prop} {n : Nat} {ft : List Nat} (h : Priv w0 w av n D s) (k : Touch ft w w') (hf : ∀ i, i ∈ ft → av i ∧ w0.heap.size ≤ i) : Priv w0 w' av n D s := by
  obtain ⟨hl, F, N, ao, cap, hd, hB, hff⟩ := h
  exact ⟨fun i hi => Nat.lt_of_lt_of_le (hl i hi) k.size, F, N, ao, cap, hd.touch k (fun i hi e => (hff i hi).2 (hf i e).1), k.below hB (fun i hi => (hf i hi).2) (Nat.le_refl _), hff⟩
theorem Bk.setN (h : Bk w0 w D M NW SR BX s nw sr mb pn q T) (k : Nat) (b : UInt8) : Bk w0 (w.setCell ⟨NW, k, none⟩ (bv b)) D M NW SR BX s (nw.set k b) sr mb pn q T := by
  have hT : Touch [NW] w (w.setCell ⟨NW, k, none⟩ (bv b)) := (Touch.refl _ _).setCell _ _ (.inl (by simp))
  refine ⟨h.p.mine hT (fun i hi => by simp at hi; subst hi; exact ⟨.inr (.inl rfl), h.b2⟩), h.m.touch hT (by simp [h.mn]), by rw [List.map_set]; exact h.n.setCell k _, h.r.touch hT (by simp [h.nr.symm]), fun j hj => (h.h j hj).touch hT (by simp; exact (h.h j hj).noCells h.n), by rw [List.length_set]; exact h.nl, h.rl, h.b1, h.b2, h.b3, h.b4, h.inj⟩
theorem Bk.setR (h : Bk w0 w D M NW SR BX s nw sr mb pn q T) (k : Nat) (b : Bool) : Bk w0 (w.setCell ⟨SR, k, none⟩ (.bool b)) D M NW SR BX s nw (sr.set k b) mb pn q T := by
  have hT : Touch [SR] w (w.setCell ⟨SR, k, none⟩ (.bool b)) := (Touch.refl _ _).setCell _ _ (.inl (by simp))
  refine ⟨h.p.mine hT (fun i hi => by simp at hi; subst hi; exact ⟨.inr (.inr (.inl rfl)), h.b3⟩), h.m.touch hT (by simp [h.mr]), h.n.touch hT (by simp [h.nr]), by rw [List.map_set]; exact h.r.setCell k _, fun j hj => (h.h j hj).touch hT (by simp; exact (h.h j hj).noCells h.r), h.nl, by rw [List.length_set]; exact h.rl, h.b1, h.b2, h.b3, h.b4, h.inj⟩
theorem Bk.clearR (h : Bk w0 w D M NW SR BX s nw sr mb pn q T) : Bk w0 (w.setCells SR 0 ([false, false, false, false].map Value.bool)) D M NW SR BX s nw [false, false, false, false] mb pn q T := by
  have hT : Touch [SR] w (w.setCells SR 0 ([false, false, false, false].map Value.bool)) := Touch.setCells _ (.inl (by simp)) _ _ _ (Touch.refl _ _)
  refine ⟨h.p.mine hT (fun i hi => by simp at hi; subst hi; exact ⟨.inr (.inr (.inl rfl)), h.b3⟩), h.m.touch hT (by simp [h.mr]), h.n.touch hT (by simp [h.nr]), h.r.whole (by rw [List.length_map, h.rl]; rfl), fun j hj => (h.h j hj).touch hT (by simp; exact (h.h j hj).noCells h.r), h.nl, rfl, h.b1, h.b2, h.b3, h.b4, h.inj⟩
/-- one map has one byte more -/
theorem Bk.put (h : Bk w0 w D M NW SR BX s nw sr mb pn q T) (j : Nat) (hj : j < pn) (hq : q < maxLen) (c : UInt8) :
    ∃ w', (Instr.mapUpdate 48 (.map (some (mb j))) (.int .u8 (c.toNat : Int)) (.bool true)).run Try.prog w = .ok () w' ∧ Bk w0 w' D M NW SR BX s nw sr mb pn (q + 1) (fun i x => T i x ∨ (i = j ∧ x = c)) ∧ Touch [mb j] w w' := by
  obtain ⟨w', hrun, hm, hT⟩ := (h.h j hj).put hq c
  refine ⟨w', hrun, ⟨h.p.mine hT (fun i hi => by simp at hi; subst hi; exact ⟨.inr (.inr (.inr (.inr ⟨j, hj, rfl⟩))), h.b4 j hj⟩), h.m.touch hT (by simp; exact fun e => (h.h j hj).noCells h.m e.symm), h.n.touch hT (by simp; exact fun e => (h.h j hj).noCells h.n e.symm), h.r.touch hT (by simp; exact fun e => (h.h j hj).noCells h.r e.symm), fun i hi => ?_, h.nl, h.rl, h.b1, h.b2, h.b3, h.b4, h.inj⟩, hT⟩
  by_cases e : i = j
  · subst e
    exact hm.sub (fun x hx => hx.imp id (fun h => h.2))
  · exact (((h.h i hi).touch hT (by simp; exact fun e2 => e (h.inj i j hi hj e2))).mono (by omega)).sub (fun x hx => hx.resolve_right (fun h => e h.1))
/-- another map, of a byte, in the place of one, or behind all -/
theorem Bk.fresh {w1 w2 : World} (h : Bk w0 w D M NW SR BX s nw sr mb pn q T) (hq : 1 ≤ q) (j p2 : Nat) (hj : j < 512) (hjp : j ≤ pn) (hp2 : p2 = max pn (j + 1)) (b : Nat) (c : UInt8) (hb : w.heap.size ≤ b) (hm : MapHas w1 b 1 (fun x => x = c)) (k : Touch [] w w1) (hw : w2 = w1.setCell ⟨M, j, none⟩ (.map (some b))) (T2 : Nat → UInt8 → Prop) (h1 : ∀ i x, i < pn → i ≠ j → T2 i x → T i x) (h2 : ∀ x, T2 j x → x = c) :
    Bk w0 w2 D M NW SR BX s nw sr (fun i => if i = j then b else mb i) p2 q T2 := by
  subst hw
  obtain ⟨hl, F, N, ao, cap, hd, hB, hff⟩ := h.p
  have hs := hB.size
  have hlt := hm.lt
  have hT : Touch [M] w1 (w1.setCell ⟨M, j, none⟩ (.map (some b))) := (Touch.refl _ _).setCell _ _ (.inl (by simp))
  have hK : Touch [M] w (w1.setCell ⟨M, j, none⟩ (.map (some b))) := (k.mono (by simp)).trans hT
  have m1 := h.m.touch k (by simp)
  have n1 := (h.n.touch k (by simp)).touch hT (by simp [h.mn.symm])
  have r1 := (h.r.touch k (by simp)).touch hT (by simp [h.mr.symm])
  have hbm : b ≠ M := hm.noCells m1
  have hold : ∀ i, i < p2 → i ≠ j → i < pn := fun i hi hne => by omega
  refine ⟨⟨fun i hi => ?_, F, N, ao, cap, hd.touch hK (fun i hi e => by
      simp at e
      exact (hff i hi).2 (.inl e)), hK.below hB (by simp; exact h.b1) (Nat.le_refl _), fun i hi => ⟨(hff i hi).1, fun e => ?_⟩⟩, by rw [← mapsOf_set mb pn p2 j b hj hjp hp2]; exact m1.setCell j _, n1, r1, fun i hi => ?_, h.nl, h.rl, h.b1, h.b2, h.b3, fun i hi => ?_, fun i i2 hi hi2 e => ?_⟩
  · have hz := hK.size
    have hz2 := hT.size
    rcases hi with rfl | rfl | rfl | rfl | ⟨i2, hi2, rfl⟩
    · have := h.m.lt; omega
    · have := h.n.lt; omega
    · have := h.r.lt; omega
    · have := hl _ (.inr (.inr (.inr (.inl rfl)))); omega
    · show (if i2 = j then b else mb i2) < _
      split
      · omega
      · rename_i hne
        have := (h.h i2 (hold i2 hi2 hne)).lt; omega
  · have hi3 := hd.lt i hi
    rcases e with e | e | e | e | ⟨i2, hi2, e⟩
    · exact (hff i hi).2 (.inl e)
    · exact (hff i hi).2 (.inr (.inl e))
    · exact (hff i hi).2 (.inr (.inr (.inl e)))
    · exact (hff i hi).2 (.inr (.inr (.inr (.inl e))))
    · have e : i = if i2 = j then b else mb i2 := e
      split at e
      · omega
      · rename_i hne
        exact (hff i hi).2 (.inr (.inr (.inr (.inr ⟨i2, hold i2 hi2 hne, e⟩))))
  · by_cases e : i = j
    · rw [if_pos e, e]
      exact ((hm.touch hT (by simp [hbm])).mono hq).sub (fun x hx => h2 x hx)
    · rw [if_neg e]
      have hip := hold i hi e
      have hne := (h.h i hip).noCells h.m
      exact (((h.h i hip).touch k (by simp)).touch hT (by simp [hne])).sub (fun x hx => h1 i x hip e hx)
  · show _ ≤ if i = j then b else mb i
    split
    · omega
    · rename_i hne
      exact h.b4 i (hold i hi hne)
  · have e : (if i = j then b else mb i) = (if i2 = j then b else mb i2) := e
    by_cases e1 : i = j
    · by_cases e2 : i2 = j
      · omega
      · have hlt2 := (h.h i2 (hold i2 hi2 e2)).lt
        rw [if_pos e1, if_neg e2] at e; omega
    · have hlt1 := (h.h i (hold i hi e1)).lt
      by_cases e2 : i2 = j
      · rw [if_neg e1, if_pos e2] at e; omega
      · rw [if_neg e1, if_neg e2] at e; exact h.inj i i2 (hold i hi e1) (hold i2 hi2 e2) e
end
theorem run_index_arr {P : Program} {o : Oper} {a : Act} {w : World} (ty e : TypeId) (x y : Operand) (ho : o.op = .indexAddr ty x y) (p : Addr) (n k : Nat) (hx : a.eval x = .pointer (some p)) (hy : a.eval y = .int .i64 (k : Int)) (hk : k < n) (sz : Nat) (q : Addr) (hq2 : p.add (k * sz) = q)
    (hu : P.underlying ty = some (.array n e)) (hi : (P.info? e).map (·.size) = some sz) : (execOp a.eval o).run P w = .ok (.value (.pointer (some q))) w := by
  cases hq : P.info? e with
  | none => simp [hq] at hi
  | some i =>
    have hs : i.size = sz := by simpa [hq] using hi
    have h2 : (k : Int) < (n : Int) := by omega
    unfold execOp
    simp only [ho, hx, hy]
    simp [go_sem, Instr.indexAt, Instr.sureAddr, run_underlying hu, sizeOf, typeInfo, hq, hs, h2, asIntOf, hq2]
    intro h
    omega
theorem run_store_map {P : Program} {o : Oper} {a : Act} {w : World} (ty : TypeId) (x y : Operand) (ho : o.op = .store ty x y) (b off : Nat) (hx : a.eval x = .pointer (some ⟨b, off, none⟩)) (m : Option Nat) (hy : a.eval y = .map m) (v : Value) (hc : w.cell? ⟨b, off, none⟩ = some v) (hf : w.frozen? ⟨b, off, none⟩ = false)
    (hi : (P.info? ty).map (·.size) = some 1) : (execOp a.eval o).run P w = .ok .skip (w.setCell ⟨b, off, none⟩ (.map m)) := by
  cases hq : P.info? ty with
  | none => simp [hq] at hi
  | some i =>
    have hs : i.size = 1 := by simpa [hq] using hi
    unfold execOp
    simp only [ho, hx, hy]
    simp [go_sem, hc, hf, sizeOf, typeInfo, hq, hs]
theorem run_upd_op {P : Program} {o : Oper} {a : Act} {w w1 : World} (t : TypeId) (m x v : Operand) (ho : o.op = .insert t m x v ∨ o.op = .mapUpdate t m x v) (vm vx vv : Value) (hm : a.eval m = vm) (hx : a.eval x = vx) (hv : a.eval v = vv) (hr : (Instr.mapUpdate t vm vx vv).run P w = .ok () w1) : (execOp a.eval o).run P w = .ok .skip w1 := by
  rcases ho with ho | ho <;> (unfold execOp; simp [ho, hm, hx, hv, hr, Result.andThen])
theorem list_skip {P : Program} {ops : Array Oper} {rest : List Oper} {op : Oper} {a : Act} {w w' : World} {Q : Exit → Act → World → Prop} (hgd : op.guard = none) (hr : (execOp a.eval op).run P w = .ok .skip w')
    (h : wpList P ops Q rest (a.put op.dst undef) w') : wpList P ops Q (op :: rest) a w :=
  wpList_plain hgd fun K hK => by
    unfold Oper.wp
    rw [hr]
    exact hK _ _ h
end Go.Proofs.Ytcmojlfhkbkfcaa
