/- add. -/
import Derived.Test.YtgifdmfnecombaaIu
namespace Go.Proofs.Ytgifdmfnecombaa
open Go.RowKit
set_option maxRecDepth 100000
section
variable {P : Program} {ops : Array Oper} {rest : List Oper} {op : Oper} {a : Act} {w : World} {Q : Exit → Act → World → Prop}
theorem box_any (hgd : op.guard = none) (ty : TypeId) (x : Operand) (ho : op.op = .box ty x) (cs : List Value) (hx : a.eval x = .agg cs.toArray)
    (h : ∀ u, At u w.heap.size ty cs → Below w.heap.size w u → u.heap.size = w.heap.size + 1 → wpList P ops Q rest (a.put op.dst (.pointer (some ⟨w.heap.size, 0, none⟩))) u) : wpList P ops Q (op :: rest) a w := by
  refine list_val hgd (v := .pointer (some ⟨w.heap.size, 0, none⟩)) (w' := w.alloc (.cells cs.toArray ty)) ?_ (h _ (At.new w _ _) ((Below.refl _ w).alloc (Nat.le_refl _) _) (by rw [World.size_alloc]))
  unfold execOp
  simp only [ho, hx]
  simp [go_sem, Value.cells]
end
section
variable {ops : Array Oper} {rest : List Oper} {op : Oper} {a : Act} {w : World} {Q : Exit → Act → World → Prop}
/-- a map is laid into a cell -/
theorem set_map (hgd : op.guard = none) (x y : Operand) (ho : op.op = .store 61 x y) (b n : Nat) (hx : a.eval x = .pointer (some ⟨b, n, none⟩)) (v : Option Nat) (hy : a.eval y = .map v) (cs : List Value) (t : TypeId) (hB : At w b t cs) (hn : n < cs.length)
    (h : ∀ u, At u b t (cs.set n (.map v)) → Touch [b] w u → wpList Try.prog ops Q rest (a.put op.dst undef) u) : wpList Try.prog ops Q (op :: rest) a w := by
  have hi : (Try.prog.info? 61).map (·.size) = some 1 := by kernel_rfl
  cases hq : Try.prog.info? 61 with
  | none => simp [hq] at hi
  | some i =>
    have hs : i.size = 1 := by simpa [hq] using hi
    have hc : w.cell? ⟨b, n, none⟩ = some (cs[n]) := hB.cell n _ (List.getElem?_eq_getElem hn)
    have hf := hB.frozen n
    refine list_skip (w1 := w.setCell ⟨b, n, none⟩ (.map v)) hgd ?_ (h _ (hB.setCell n _) ((Touch.refl _ w).setCell _ _ (.inl (by simp))))
    unfold execOp
    simp only [ho, hx, hy]
    simp [go_sem, hc, hf, sizeOf, typeInfo, hq, hs]
theorem make_ents (hgd : op.guard = none) (ho : op.op = .makeMap 61 none)
    (h : ∀ u, SMap u w.heap.size 0 (fun _ => none) 0 → Below w.heap.size w u → u.heap.size = w.heap.size + 1 → wpList Try.prog ops Q rest (a.put op.dst (.map (some w.heap.size))) u) : wpList Try.prog ops Q (op :: rest) a w := by
  refine list_val hgd (v := .map (some w.heap.size)) (w' := w.alloc (.map #[] 0)) ?_ (h _ (SMap.made w) ((Below.refl _ w).alloc (Nat.le_refl _) _) (by rw [World.size_alloc]))
  unfold execOp
  simp [ho, Instr.makeMap, run_underlying Try.underlying61, go_sem]
end
/-- a new inode -/
def fresh (k m : Int) (d : List UInt8) (l : Int) : Ino := ⟨k, m, d, l, 0, fun _ => none, 0⟩
theorem build_new {ops : Array Oper} {rest : List Oper} {op : Oper} {a : Act} {w : World} {Q : Exit → Act → World → Prop} (hgd : op.guard = none) (x : Operand) (ho : op.op = .build 63 #[(0, x)]) (k m : Int) (d : List UInt8) (l : Int) (hx : a.eval x = .agg (toldV (some (fresh k m d l))).toArray)
    (h : wpList Try.prog ops Q rest (a.put op.dst (.agg ((fresh k m d l).cells (.map none)).toArray)) w) : wpList Try.prog ops Q (op :: rest) a w := by
  refine list_val hgd (v := .agg ((fresh k m d l).cells (.map none)).toArray) (w' := w) ?_ h
  have hr : (Instr.build 63 #[(0, .agg (toldV (some (fresh k m d l))).toArray)]).run Try.prog w = .ok (.agg ((fresh k m d l).cells (.map none)).toArray) w := by kernel_rfl
  unfold execOp
  simp only [ho]
  simp [hx, hr, Result.andThen, Sem.run_bind]
theorem TabAt.mine_lt {base : Nat} {w : World} {tb : Nat} {T : Tab} {p : Place} (h : TabAt base w tb T p) (b : Nat) (hm : Mine tb T p b) : b < w.heap.size := by
  rcases hm with rfl | rfl | ⟨k, hk⟩ | ⟨k, i, hf, h2, rfl⟩
  · exact h.t.lt
  · exact h.i.lt
  · have hs := h.s k
    rw [hk] at hs
    obtain ⟨i, hi⟩ : ∃ i, T.f k = some i := Option.isSome_iff_exists.mp hs.symm
    exact (h.o k b i hk hi).a.lt
  · have hs := h.s k
    rw [hf] at hs
    obtain ⟨b, hg⟩ : ∃ b, p.g k = some b := Option.isSome_iff_exists.mp hs
    exact ((h.o k b i hg hf).m h2).lt
def Tab.setL (T : Tab) (n : Nat) : Tab := { T with last := n }
theorem Step.ins {tb : Nat} {T T1 : Tab} {p : Place} {w u v : World} {x : Int} {i : Ino} {c e m : Nat} (S : Step tb T p T1 p w u) (ht : Touch [p.bm] u v) (hc : w.heap.size ≤ c) (he : i.kind = 2 → w.heap.size ≤ e) : Step tb T p (T1.ins x i) (p.ins x c e m) w v := by
  refine ⟨ht.os.trans S.os, ht.tape.trans S.tape, ht.output.trans S.output, Nat.le_trans S.size ht.size, fun b hb hm => ?_, fun b hb => ?_⟩
  · exact (ht.block b (Nat.lt_of_lt_of_le hb S.size) (by simp; rintro rfl; exact hm (.inr (.inl rfl)))).trans (S.block b hb hm)
  · rcases hb with h1 | h1 | ⟨k, hk⟩ | ⟨k, a, ha, h2, h3⟩
    · exact .inl (.inl h1)
    · exact .inl (.inr (.inl h1))
    · unfold Place.ins at hk
      by_cases q : k = x
      · simp only [if_pos q, Option.some.injEq] at hk
        exact .inr (hk ▸ hc)
      · simp only [if_neg q] at hk
        exact S.mine b (.inr (.inr (.inl ⟨k, hk⟩)))
    · unfold Place.ins at h3
      unfold Tab.ins at ha
      by_cases q : k = x
      · simp only [if_pos q, Option.some.injEq] at ha h3
        subst ha
        exact .inr (h3 ▸ he h2)
      · simp only [if_neg q] at ha h3
        exact S.mine b (.inr (.inr (.inr ⟨k, a, ha, h2, h3⟩)))
set_option maxHeartbeats 4000000 in
theorem add_file (base : Nat) (w : World) (tb : Nat) (T : Tab) (p : Place) (h : TabAt base w tb T p) (hbase : base ≤ w.heap.size) (k m : Int) (d : List UInt8) (l : Int) (hk : k ≠ 2) (hlast : T.last ≤ 1000000000000) (hb : T.bytes ≤ 1000000000000) (hd : d.length ≤ 1000000000000) (hf : T.f ((T.last : Int) + 1) = none) (hn : p.n < maxLen) :
    Calls Try.prog 23 #[tabV tb, .agg (toldV (some (fresh k m d l))).toArray] w fun e w' => e = .returned (.int .i64 ((T.last : Int) + 1)) ∧ TabAt base w' tb (((T.setL (T.last + 1)).ins ((T.last : Int) + 1) (fresh k m d l)).setB (T.bytes + d.length)) (p.ins ((T.last : Int) + 1) (w.heap.size + 1) 0 0) ∧ Step tb T p (((T.setL (T.last + 1)).ins ((T.last : Int) + 1) (fresh k m d l)).setB (T.bytes + d.length)) (p.ins ((T.last : Int) + 1) (w.heap.size + 1) 0 0) w w' := by
  have W : IntKind.i64.wrap ((T.last : Int) + 1) = (T.last : Int) + 1 := wrap_small (by omega) (by omega)
  have W2 : IntKind.i64.wrap ((T.bytes : Int) + (d.length : Int)) = (T.bytes : Int) + (d.length : Int) := wrap_small (by omega) (by omega)
  have hx : (Lit.int .i64 ((T.last : Int) + 1)).wf = true := by simp [Lit.wf, IntKind.min, IntKind.max, IntKind.signed, IntKind.bits]; omega
  have hkb : (k == 2) = false := by simpa using hk
  have HH := Lib.hid h
  have HF := Lib.hid hf
  unfold tabV
  clear h hf
  go_enter Try.func23, Try.ntmps23
  go_wp2_with (first
    | (with_reducible refine box_any rfl 35 (.tmp 1) rfl (toldV (some (fresh k m d l))) rfl ?_; intro u1 hu1 bu1 zu1; have HU1 := Lib.hid hu1; have BU1 := Lib.hid bu1; clear hu1 bu1)
    | (refine load_any rfl 35 (.tmp 3) rfl ⟨w.heap.size, 0, none⟩ rfl (toldV (some (fresh k m d l))) _ (fun j v hj => by rw [Addr.add0]; exact HU1.out.cell j v hj) Try.underlying35 rfl info_ino ?_)
    | (refine build_new rfl (.tmp 6) rfl k m d l rfl ?_)
    | (refine box_any rfl 63 (.tmp 7) rfl ((fresh k m d l).cells (.map none)) rfl ?_; intro u2 hu2 bu2 zu2; have BX := bu2.mono (Nat.le_of_eq zu1.symm); rw [zu1] at hu2 zu2; have ck := hu2.cell 0 (.int .i64 k) rfl; have HU2 := Lib.hid hu2; have BU2 := Lib.hid (BU1.out.trans (bu2.mono (by rw [zu1]; exact Nat.le_succ _))); have c1 := (HH.out.below BU2.out).t.cell 1 _ rfl; clear hu2 bu2 BX)
    | (refine set_int rfl (.tmp 25) (.tmp 23) rfl tb 1 rfl ((T.last : Int) + 1) rfl _ _ (HH.out.below BU2.out).t (by simp [Tab.cells]) ?_; intro u3 hu3 tu3; have HU3 := Lib.hid hu3; have H2 := Lib.hid ((HH.out.below BU2.out).setT (T' := T.setL (T.last + 1)) rfl rfl hu3 tu3); have HI := Lib.hid (HU2.out.touch tu3 (by have := HH.out.t.lt; simp; omega)); have c0 := hu3.cell 0 _ rfl; have c1' := hu3.cell 1 _ rfl; clear hu3 tu3 c1))
  go_still_tail 9, (by kernel_rfl)
  change wpList _ _ _ _ _ u3.drew
  obtain ⟨w4, hrun, hM, ht⟩ := H2.out.1.drew.i.put ((T.last : Int) + 1) hx (w.heap.size + 1) hn
  have HM := Lib.hid hM
  have HTT := Lib.hid (turned_touch ht)
  have hnm : ¬ Mine tb (T.setL (T.last + 1)) p (w.heap.size + 1) := fun e => by have := HH.out.mine_lt _ e; omega
  have H5 := H2.out.1.drew.ins ((T.last : Int) + 1) (fresh k m d l) (w.heap.size + 1) 0 0 HF.out ⟨by rw [if_neg (show (fresh k m d l).kind ≠ 2 from hk)]; exact HI.out.drew, fun e => absurd e hk⟩ hnm (fun e => absurd e hk) (by omega) (fun e => absurd e hk) hM (turned_touch ht)
  have hI4 := HI.out.drew.touch HTT.out (by have := HH.out.i.lt; simp; omega)
  have HS := Lib.hid (((Step.of_below BU2.out).trans (H2.out.2)).trans (Step.of_below (below_dr u3)))
  have HS4 := Lib.hid (Step.ins (x := (T.last : Int) + 1) (i := fresh k m d l) (c := w.heap.size + 1) (e := 0) (m := 0) HS.out HTT.out (Nat.le_succ _) (fun e => absurd e hk))
  have d2 := hI4.cell 2 (.string (bs d)) rfl
  have d3 := H5.t.cell 2 (.int .i64 (T.bytes : Int)) rfl
  have HT5 := Lib.hid H5
  clear hM ht c0 c1' ck hnm H5 hI4
  go_wp2_with fail
  go_still_tail 13, (by kernel_rfl)
  change wpList _ _ _ _ _ w4.drew
  clear hrun d2 d3
  go_wp2_with (first
    | (refine set_int rfl (.tmp 47) (.tmp 45) rfl tb 2 rfl ((T.bytes : Int) + (d.length : Int)) rfl _ _ HT5.out.t.drew (by simp [Tab.cells]) ?_; intro u6 hu6 tu6; have HU6 := Lib.hid hu6; have TU6 := Lib.hid tu6; have c7 := hu6.cell 1 (.int .i64 ((T.last : Int) + 1)) (by simp [Tab.cells, Tab.ins, Tab.setL]); clear hu6 tu6))
  go_ret
  have H6 := HT5.out.drew.setT (T' := ((T.setL (T.last + 1)).ins ((T.last : Int) + 1) (fresh k m d l)).setB (T.bytes + d.length)) rfl rfl (by have := HU6.out; simpa [Tab.cells, Tab.setB, Tab.ins, Tab.setL] using this) TU6.out
  exact ⟨rfl, H6.1, (HS4.out.trans (Step.of_below (below_dr w4))).trans H6.2⟩
end Go.Proofs.Ytgifdmfnecombaa
