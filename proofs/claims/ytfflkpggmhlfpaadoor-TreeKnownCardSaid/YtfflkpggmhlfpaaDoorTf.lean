/- fewer, small. -/
import Derived.Test.YtfflkpggmhlfpaaDoorTe
namespace Go.Proofs.YtfflkpggmhlfpaaDoor
open Go.RowKit
set_option maxRecDepth 100000
section
variable {ops : Array Oper} {rest : List Oper} {op : Oper} {a : Act} {w : World} {Q : Exit → Act → World → Prop}
theorem run_store_int (x y : Operand) (ho : op.op = .store 3 x y) (p : Addr) (hx : a.eval x = .pointer (some p)) (n : Int) (hy : a.eval y = .int .i64 n) (v : Value) (hc : w.cell? p = some v) (hf : w.frozen? p = false) :
    (execOp a.eval op).run Tryd.prog w = .ok .skip (w.setCell p (.int .i64 n)) := by
  have hi : (Tryd.prog.info? 3).map (·.size) = some 1 := by kernel_rfl
  cases hq : Tryd.prog.info? 3 with
  | none => simp [hq] at hi
  | some i =>
    have hs : i.size = 1 := by simpa [hq] using hi
    unfold execOp
    simp only [ho, hx, hy]
    simp [go_sem, hc, hf, sizeOf, typeInfo, hq, hs]
theorem store_int_any (hgd : op.guard = none) (x y : Operand) (ho : op.op = .store 3 x y) (B i : Nat) (hx : a.eval x = .pointer (some ⟨B, i, none⟩)) (n : Int) (hy : a.eval y = .int .i64 n) {T : TypeId} (old new : List Value) (hB : At w B T old) (hi : i < old.length) (hnew : old.set i (.int .i64 n) = new)
    (h : ∀ u, At u B T new → Touch [B] w u → wpList Tryd.prog ops Q rest (a.put op.dst undef) u) : wpList Tryd.prog ops Q (op :: rest) a w :=
  list_skip hgd (run_store_int x y ho ⟨B, i, none⟩ hx n hy _ (hB.cell i _ (List.getElem?_eq_getElem hi)) (hB.frozen i)) (h _ (hnew ▸ hB.setCell i _) ((Touch.refl [B] w).setCell _ _ (.inl (by simp))))
theorem alloc_int (hgd : op.guard = none) (ho : op.op = .alloc 3)
    (h : ∀ u, At u w.heap.size 3 [.int .i64 0] → Below w.heap.size w u → u.heap.size = w.heap.size + 1 → wpList Tryd.prog ops Q rest (a.put op.dst (.pointer (some ⟨w.heap.size, 0, none⟩))) u) : wpList Tryd.prog ops Q (op :: rest) a w := by
  refine list_val hgd (v := .pointer (some ⟨w.heap.size, 0, none⟩)) (w' := w.alloc (.cells #[.int .i64 0] 3)) ?_ (h _ (At.new w _ _) ((Below.refl _ w).alloc (Nat.le_refl _) _) (by rw [World.size_alloc]))
  have hz : (zeroValue 3).run Tryd.prog w = .ok (.int .i64 0) w := by kernel_rfl
  unfold execOp
  simp only [ho]
  simp [go_sem, hz, Value.cells]
end
/-- one more, in the same world -/
theorem KidsAt.append2 {base : Nat} {u : World} {h : Nat} {ps : List Tri} {ao : Option Addr} {cap : Nat} (K : KidsAt base u h ps ao cap) (p : Tri) (hM : Has (fun i => base ≤ i ∧ i ∉ blk ao) u h p.1 p.2.1) (hn : ps.length ≤ 1000000) (hb : base ≤ u.heap.size)
    {B T2 : Nat} {u1 : World} (b1 : Below u.heap.size u u1) (hB : At u1 B T2 p.cells) :
    ∃ ao' cap' w', (Builtin.append_ #[22, 22] 22 #[.slice ao ps.length cap, .slice (some ⟨B, 0, none⟩) 1 1]).run Tryd.prog u1 = .ok (.slice ao' (ps.length + 1) cap') w' ∧ KidsAt base w' h (ps ++ [p]) ao' cap' ∧ Touch (blk ao) u1 w' := by
  obtain ⟨i, z, hi, hz, h5, h72, hz5⟩ := info_22
  have K1 := K.below b1
  have hz2 := b1.size
  obtain ⟨ao', cap', w', hrun, hO, hT, hblk⟩ := run_append_any (P := Tryd.prog) u1 22 22 24 i z 5 72 Tryd.underlying22 hi hz h5 h72 hz5 (by omega) ao ps.length cap _ K1.own B 1 1 p.cells hB rfl (nd_one p.1 p.2.1 p.2.2) (by omega) (by unfold maxLen; omega) (by omega)
  refine ⟨ao', cap', w', hrun, ⟨?_, ?_, ?_⟩, hT⟩
  · rw [List.length_append, List.flatMap_append]
    simpa using hO
  · intro k hk
    rcases hblk with e | ⟨g, e, hg⟩
    · rw [e] at hk; exact K.new k hk
    · rw [e] at hk; simp at hk; omega
  · have keep : ∀ (m : Nd) (g : Option Addr), Has (fun i => base ≤ i ∧ i ∉ blk ao) u1 h m g → Has (fun i => base ≤ i ∧ i ∉ blk ao') w' h m g := fun m g hm => by
      refine Has.kept (fun i hi hl => ⟨hi.1, fun e => ?_⟩) (fun i hi hl => hT.block i hl hi.2) h m g hm
      rcases hblk with e2 | ⟨g2, e2, hg⟩
      · rw [e2] at e; exact hi.2 e
      · rw [e2] at e; simp at e; omega
    intro q hq
    rcases List.mem_append.mp hq with hq | hq
    · exact keep _ _ (K1.has q hq)
    · simp only [List.mem_singleton] at hq
      subst hq
      exact keep _ _ (hM.below b1)
/-- a node, as long as some are left -/
def fewerL : Nat → Nd → Nat → Nd × Nat
  | 0, n, left => (n, left)
  | h + 1, n, left =>
    let r := n.kids.foldl (fun (s : List Nd × Nat) k => if s.2 = 0 then s else (s.1 ++ [(fewerL h k (s.2 - 1)).1], (fewerL h k (s.2 - 1)).2)) ([], left)
    (⟨n.name, n.kind, n.exec, n.data, r.1⟩, r.2)
def fewStep (h : Nat) (s : List Nd × Nat) (k : Nd) : List Nd × Nat := if s.2 = 0 then s else (s.1 ++ [(fewerL h k (s.2 - 1)).1], (fewerL h k (s.2 - 1)).2)
theorem fewerL_succ (h : Nat) (n : Nd) (left : Nat) : fewerL (h + 1) n left = (⟨n.name, n.kind, n.exec, n.data, (n.kids.foldl (fewStep h) ([], left)).1⟩, (n.kids.foldl (fewStep h) ([], left)).2) := rfl
theorem fold_le (h : Nat) (hle : ∀ n left, (fewerL h n left).2 ≤ left) : ∀ (l : List Nd) (s : List Nd × Nat), (l.foldl (fewStep h) s).2 ≤ s.2
  | [], s => Nat.le_refl _
  | k :: r, s => by
    rw [List.foldl_cons]
    refine Nat.le_trans (fold_le h hle r _) ?_
    unfold fewStep
    split
    · exact Nat.le_refl _
    · have := hle k (s.2 - 1)
      show (fewerL h k (s.2 - 1)).2 ≤ _
      omega
theorem fewerL_le : ∀ (h : Nat) (n : Nd) (left : Nat), (fewerL h n left).2 ≤ left
  | 0, _, _ => Nat.le_refl _
  | h + 1, n, left => fold_le h (fewerL_le h) n.kids ([], left)
theorem fold_stop (h : Nat) : ∀ (l : List Nd) (s : List Nd × Nat), s.2 = 0 → l.foldl (fewStep h) s = s
  | [], _, _ => rfl
  | k :: r, s, e => by
    rw [List.foldl_cons, show fewStep h s k = s by unfold fewStep; rw [if_pos e]]
    exact fold_stop h r s e
theorem fold_here (h : Nat) (l : List Nd) (k : Nat) (s : List Nd × Nat) (e : ((l.take k).foldl (fewStep h) s).2 = 0) : l.foldl (fewStep h) s = (l.take k).foldl (fewStep h) s := by
  conv => lhs; rw [← List.take_append_drop k l, List.foldl_append]
  exact fold_stop h _ _ e
set_option maxHeartbeats 8000000 in
theorem fewer_any : ∀ (h : Nat) (n : Nd) (ao : Option Addr) (cap : Nat) (w : World) (L left : Nat), left ≤ 1000000 → Has (fun i => i ≠ L) w h n ao → At w L 3 [.int .i64 (left : Int)] →
    Calls Tryd.prog 26 #[n.v ao cap, .pointer (some ⟨L, 0, none⟩)] w fun e w' => Touch [L] w w' ∧ At w' L 3 [.int .i64 ((fewerL h n left).2 : Int)] ∧ Made w w' h (fewerL h n left).1 e := by
  intro h
  induction h with
  | zero => intro n ao cap w L left _ hH; exact hH.elim
  | succ h ih =>
    intro n ao cap w L left hl hH hL
    cases n with
    | mk nm kd ex dt ks =>
    have IH := Lib.hid ih
    have hkl := hH.1
    unfold maxLen at hkl
    change ks.length ≤ _ at hkl
    have HKS := Lib.hid hH.2
    have hLw := hL.lt
    have HL := Lib.hid hL
    clear ih hH hL
    go_enter Tryd.func26, Tryd.ntmps26
    go_wp2_with (first
      | (with_reducible refine box_any rfl 24 (.tmp 0) rfl [.string (bs nm), .int .i64 kd, .bool ex, .string (bs dt), .slice ao ks.length cap] rfl ?_; intro u hu bu zu; have HU := Lib.hid hu; have BU := Lib.hid bu; clear hu bu)
      | (with_reducible refine alloc_any rfl 24 rfl _ zero_nd ?_; intro u2 hr2 bu2 zu2; rw [zu] at hr2; have HR := Lib.hid hr2; have HU2 := Lib.hid (HU.out.below bu2 HU.out.lt); have BU2 := Lib.hid (BU.out.trans (bu2.mono (by omega))); clear bu2 hr2))
    go_loopw [5, 6] (fun o i wx => ∃ (k : Nat) (ps : List Tri) (ao' : Option Addr) (cap' lf : Nat), o = .slice ao' ps.length cap' ∧ i = .int .i64 k ∧ k ≤ ks.length ∧ ps.length + lf ≤ left ∧ (ps.map (·.1), lf) = (ks.take k).foldl (fewStep h) ([], left) ∧ KidsAt (w.heap.size + 2) wx h ps ao' cap' ∧ At wx w.heap.size 24 [.string (bs nm), .int .i64 kd, .bool ex, .string (bs dt), .slice ao ks.length cap] ∧ At wx (w.heap.size + 1) 24 [Value.string ⟨#[]⟩, .int .i64 0, .bool false, .string ⟨#[]⟩, .slice none 0 0] ∧ At wx L 3 [.int .i64 (lf : Int)] ∧ Touch [L] w wx ∧ w.heap.size + 2 ≤ wx.heap.size) (fun _ i _ => ks.length - (intOf i).toNat)
    case atStart => exact ⟨0, [], none, 0, left, rfl, rfl, by simp, by simp, by simp, KidsAt.nil _ _ _, HU2.out, HR.out, HL.out.below BU2.out hLw, Touch.of_below BU2.out, by omega⟩
    clear HU HU2 HR BU BU2 HL
    case round =>
      obtain ⟨k, ps, ao', cap', lf, rfl, rfl, hk, hpl, hst, hK, hA, hZ, hL, hTT, hz⟩ := hrel
      have c4 := hA.cell 4 _ rfl
      have cL := hL.cell 0 _ rfl
      have HST := Lib.hid hst
      have HK := Lib.hid hK
      have HA := Lib.hid hA
      have HZ := Lib.hid hZ
      have HLL := Lib.hid hL
      have HTT := Lib.hid hTT
      clear hst hK hA hZ hL hTT
      by_cases hq : k < ks.length
      · have hq' : (k : Int) < ks.length := by omega
        by_cases h0 : lf = 0
        · subst h0
          have hall : ks.foldl (fewStep h) ([], left) = (ps.map (·.1), 0) := by rw [fold_here h ks k _ (by rw [← HST.out]), ← HST.out]
          go_wp2_with (first
            | (refine store_slice_any rfl (.tmp 37) (.tmp 36) rfl w.heap.size 4 rfl ao' ps.length cap' rfl _ [.string (bs nm), .int .i64 kd, .bool ex, .string (bs dt), .slice ao' ps.length cap'] HA.out (by simp) rfl ?_; intro u5 hu5 tu5; have HU5 := Lib.hid hu5; have HR5 := Lib.hid (HZ.out.touch tu5 (by simp)); have HT5 := Lib.hid tu5; clear hu5 tu5)
            | (refine load_any rfl 24 (.tmp 2) rfl ⟨w.heap.size, 0, none⟩ rfl [.string (bs nm), .int .i64 kd, .bool ex, .string (bs dt), .slice ao' ps.length cap'] _ (fun j v hj => by rw [Addr.add0]; exact HU5.out.cell j v hj) Tryd.underlying24 rfl info_nd ?_)
            | (refine store_any rfl 24 (.tmp 4) (.tmp 38) rfl (w.heap.size + 1) rfl [.string (bs nm), .int .i64 kd, .bool ex, .string (bs dt), .slice ao' ps.length cap'] rfl _ HR5.out rfl info_nd (nd_one ⟨nm, kd, ex, dt, ps.map (·.1)⟩ ao' cap' |> fun h => by simpa [Nd.cells, Nd.name, Nd.kind, Nd.exec, Nd.data, Nd.kids] using h) ?_; intro u6 hu6 tu6; have HU6 := Lib.hid hu6; have HT6 := Lib.hid tu6; clear hu6 tu6))
          (try simp only [Exit.inBlock, Exit.then])
          have hend : fewerL (h + 1) ⟨nm, kd, ex, dt, ks⟩ left = (⟨nm, kd, ex, dt, ps.map (·.1)⟩, 0) := by rw [fewerL_succ]; show (Nd.mk nm kd ex dt (ks.foldl (fewStep h) ([], left)).1, (ks.foldl (fewStep h) ([], left)).2) = _; rw [hall]
          have hT : Touch [w.heap.size, w.heap.size + 1] wr u6 := (HT5.out.mono (by simp)).trans (HT6.out.mono (by simp))
          have K6 : KidsAt (w.heap.size + 2) u6 h ps ao' cap' := HK.out.touch hT (by simp) (fun i hi e => by have := HK.out.new i hi; simp at e; omega)
          refine bodyPost_ret (v := .agg [.string (bs nm), .int .i64 kd, .bool ex, .string (bs dt), .slice ao' ps.length cap'].toArray) ?_ rfl ⟨HTT.out.step hT (by simp), ?_, ⟨ao', cap', ?_, ?_⟩⟩
          · exact results_cell_row (fn := Tryd.f26) (p := 4) (ty := 24) rfl _ _ (w.heap.size + 1) 24 _ (0, 0) _ rfl HU6.out Tryd.underlying24 rfl info_nd
          · rw [hend]; exact HLL.out.touch hT (by simp; omega)
          · rw [hend]; simp [Nd.v, Nd.cells, Nd.name, Nd.kind, Nd.exec, Nd.data, Nd.kids]
          · rw [hend]; exact Has.mono (S' := fun i => w.heap.size ≤ i) (K6.node ⟨nm, kd, ex, dt, ps.map (·.1)⟩ rfl) (fun i (h : w.heap.size + 2 ≤ i) _ => (by omega : w.heap.size ≤ i))
        · have h0' : (0 : Int) < lf := by omega
          obtain ⟨m, hm⟩ : ∃ m, ks[k]? = some m := ⟨_, List.getElem?_eq_getElem hq⟩
          obtain ⟨x, g, c, rfl, hxL, hKi, hM⟩ := HKS.out k m hm
          have hne : x.block ∉ [L] := by simpa using hxL
          have HKi := Lib.hid (hKi.kept (HTT.out.block x.block hKi.lt hne))
          have HM := Lib.hid (Has.kept (S' := fun i => i ≠ L) (fun i hi _ => hi) (fun i hi hl => HTT.out.block i hl (by simpa using hi)) h m g hM)
          have HMM := Lib.hid hm
          clear hKi hM hm
          go_wp2_with (first
            | (refine store_int_any rfl (.tmp 25) (.tmp 24) rfl L 0 rfl ((lf : Int) - 1) rfl _ [.int .i64 ((lf - 1 : Nat) : Int)] HLL.out (by simp) (by rw [show ((lf - 1 : Nat) : Int) = (lf : Int) - 1 by omega]; rfl) ?_; intro u3 hl3 tu3; have HL3 := Lib.hid hl3; have TU3 := Lib.hid tu3; have c43 := (HA.out.touch tu3 (by simp; omega)).cell 4 _ rfl; have HKi3 := Lib.hid (HKi.out.kept (tu3.block x.block HKi.out.lt hne)); have HM3 := Lib.hid (Has.kept (S' := fun i => i ≠ L) (fun i hi _ => hi) (fun i hi hl => tu3.block i hl (by simpa using hi)) h m g HM.out); clear hl3 tu3)
            | (refine load_any rfl 24 (.tmp 30) rfl (x.add (k * 5)) rfl (m.cells g c) _ (fun j v hj => HKi3.out j v hj) Tryd.underlying24 rfl info_nd ?_))
          refine (IH.out m g c u3 L (lf - 1) (by omega) HM3.out HL3.out).mono ?_
          rintro e w5 ⟨t5, hl5, ao5, cap5, rfl, h5⟩
          have hfl := fewerL_le h m (lf - 1)
          have hs2 : (ks.take (k + 1)).foldl (fewStep h) ([], left) = (ps.map (·.1) ++ [(fewerL h m (lf - 1)).1], (fewerL h m (lf - 1)).2) := by
            rw [List.take_add_one, HMM.out, Option.toList_some, List.foldl_append, ← HST.out]
            show fewStep h (ps.map (·.1), lf) m = _
            unfold fewStep
            rw [if_neg h0]
          have HS2 := Lib.hid hs2
          have H5 := Lib.hid h5
          have T5 := Lib.hid t5
          have HL5 := Lib.hid hl5
          clear h5 t5 hl5 hs2
          generalize (fewerL h m (lf - 1)).1 = m' at H5 HS2 ⊢
          generalize (fewerL h m (lf - 1)).2 = lf' at hfl HL5 HS2 ⊢
          have hz3 := TU3.out.size
          have hz5 := T5.out.size
          have hK5 : KidsAt (w.heap.size + 2) w5 h ps ao' cap' := HK.out.touch (TU3.out.trans T5.out) (by simp; omega) (fun i hi e => by have := HK.out.new i hi; simp at e; omega)
          have HK5 := Lib.hid hK5
          have hmv : Has (fun i => w.heap.size + 2 ≤ i ∧ i ∉ blk ao') w5 h m' ao5 := H5.out.mono (fun i (hi : u3.heap.size ≤ i) _ => ⟨by omega, fun e => by have := HK.out.own.lt i e; omega⟩)
          have HMV := Lib.hid hmv
          clear hK5 hmv
          go_wp2_with (first
            | (refine build_nd rfl (.tmp 33) rfl (m'.cells ao5 cap5) rfl rfl ?_; intro u6 hu6 bu6 zu6; obtain ⟨ao7, cap7, w7, hrun, K7, T7⟩ := HK5.out.append2 (m', ao5, cap5) HMV.out (by omega) (by omega) bu6 hu6; have HRUN := Lib.hid hrun; have HK7 := Lib.hid K7; have HT7 := Lib.hid T7; have HB6 := Lib.hid bu6; clear hrun K7 T7 hu6 bu6)
            | (refine list_val rfl (run_append_op (.tmp 26) (.tmp 34) 22 22 rfl (.slice ao' ps.length cap') (.slice (some ⟨w5.heap.size, 0, none⟩) 1 1) rfl rfl HRUN.out) ?_))
          have hT1 : Touch [L] wr w5 := TU3.out.trans T5.out
          have hT2 : Touch (blk ao') w5 w7 := (Touch.of_below HB6.out).trans HT7.out
          have hA7 := (HA.out.touch hT1 (by simp; omega)).touch hT2 (fun e => by have := HK.out.new _ e; omega)
          have hZ7 := (HZ.out.touch hT1 (by simp; omega)).touch hT2 (fun e => by have := HK.out.new _ e; omega)
          have hL7 := HL5.out.touch hT2 (fun e => by have := HK.out.new _ e; omega)
          have hT7 : Touch [L] w w7 := (HTT.out.trans hT1).step hT2 (fun i hi => .inr (by have := HK.out.new i hi; omega))
          go_roundw
          case rel => exact ⟨k + 1, ps ++ [(m', ao5, cap5)], ao7, cap7, lf', by simp, by go_num, by omega, by simp; omega, by rw [HS2.out, List.map_append]; rfl, HK7.out, hA7, hZ7, hL7, hT7, by have := hT2.size; omega⟩
          case measure => simp [intOf]; omega
      · have hq' : ¬ (k : Int) < ks.length := by omega
        obtain rfl : k = ks.length := by omega
        have hall : ks.foldl (fewStep h) ([], left) = (ps.map (·.1), lf) := by rw [HST.out, List.take_length]
        go_wp2_with (first
          | (refine store_slice_any rfl (.tmp 37) (.tmp 36) rfl w.heap.size 4 rfl ao' ps.length cap' rfl _ [.string (bs nm), .int .i64 kd, .bool ex, .string (bs dt), .slice ao' ps.length cap'] HA.out (by simp) rfl ?_; intro u5 hu5 tu5; have HU5 := Lib.hid hu5; have HR5 := Lib.hid (HZ.out.touch tu5 (by simp)); have HT5 := Lib.hid tu5; clear hu5 tu5)
          | (refine load_any rfl 24 (.tmp 2) rfl ⟨w.heap.size, 0, none⟩ rfl [.string (bs nm), .int .i64 kd, .bool ex, .string (bs dt), .slice ao' ps.length cap'] _ (fun j v hj => by rw [Addr.add0]; exact HU5.out.cell j v hj) Tryd.underlying24 rfl info_nd ?_)
          | (refine store_any rfl 24 (.tmp 4) (.tmp 38) rfl (w.heap.size + 1) rfl [.string (bs nm), .int .i64 kd, .bool ex, .string (bs dt), .slice ao' ps.length cap'] rfl _ HR5.out rfl info_nd (nd_one ⟨nm, kd, ex, dt, ps.map (·.1)⟩ ao' cap' |> fun h => by simpa [Nd.cells, Nd.name, Nd.kind, Nd.exec, Nd.data, Nd.kids] using h) ?_; intro u6 hu6 tu6; have HU6 := Lib.hid hu6; have HT6 := Lib.hid tu6; clear hu6 tu6))
        (try simp only [Exit.inBlock, Exit.then])
        have hend : fewerL (h + 1) ⟨nm, kd, ex, dt, ks⟩ left = (⟨nm, kd, ex, dt, ps.map (·.1)⟩, lf) := by rw [fewerL_succ]; show (Nd.mk nm kd ex dt (ks.foldl (fewStep h) ([], left)).1, (ks.foldl (fewStep h) ([], left)).2) = _; rw [hall]
        have hT : Touch [w.heap.size, w.heap.size + 1] wr u6 := (HT5.out.mono (by simp)).trans (HT6.out.mono (by simp))
        have K6 : KidsAt (w.heap.size + 2) u6 h ps ao' cap' := HK.out.touch hT (by simp) (fun i hi e => by have := HK.out.new i hi; simp at e; omega)
        refine bodyPost_ret (v := .agg [.string (bs nm), .int .i64 kd, .bool ex, .string (bs dt), .slice ao' ps.length cap'].toArray) ?_ rfl ⟨HTT.out.step hT (by simp), ?_, ⟨ao', cap', ?_, ?_⟩⟩
        · exact results_cell_row (fn := Tryd.f26) (p := 4) (ty := 24) rfl _ _ (w.heap.size + 1) 24 _ (0, 0) _ rfl HU6.out Tryd.underlying24 rfl info_nd
        · rw [hend]; exact HLL.out.touch hT (by simp; omega)
        · rw [hend]; simp [Nd.v, Nd.cells, Nd.name, Nd.kind, Nd.exec, Nd.data, Nd.kids]
        · rw [hend]; exact Has.mono (S' := fun i => w.heap.size ≤ i) (K6.node ⟨nm, kd, ex, dt, ps.map (·.1)⟩ rfl) (fun i (h : w.heap.size + 2 ≤ i) _ => (by omega : w.heap.size ≤ i))
/-- as much of a node as has at most three hundred nodes -/
def smallL (n : Nd) : Nd := (fewerL 17 (cutL 16 n) 300).1
set_option maxHeartbeats 4000000 in
theorem small_any (h : Nat) (n : Nd) (ao : Option Addr) (cap : Nat) (w : World) (hH : Has any_ w h n ao) :
    Calls Tryd.prog 7 #[n.v ao cap] w fun e w' => Below w.heap.size w w' ∧ Made w w' 17 (smallL n) e := by
  have HH := Lib.hid hH
  obtain ⟨R, hR⟩ : ∃ R, R = smallL n := ⟨_, rfl⟩
  rw [← hR]
  have HRR := Lib.hid hR
  clear hH hR
  go_enter Tryd.func7, Tryd.ntmps7
  go_wp2_with (first
    | (with_reducible refine box_any rfl 24 (.tmp 0) rfl (n.cells ao cap) rfl ?_; intro u hu bu zu; have HU := Lib.hid hu; have BU := Lib.hid bu; clear hu bu)
    | (with_reducible refine alloc_any rfl 24 rfl _ zero_nd ?_; intro u2 hr2 bu2 zu2; rw [zu] at hr2; have HR := Lib.hid hr2; have HU2 := Lib.hid (HU.out.below bu2 HU.out.lt); have BU2 := Lib.hid (BU.out.trans (bu2.mono (by omega))); clear bu2 hr2)
    | (refine load_any rfl 24 (.tmp 1) rfl ⟨w.heap.size, 0, none⟩ rfl (n.cells ao cap) _ (fun j v hj => by rw [Addr.add0]; exact HU2.out.cell j v hj) Tryd.underlying24 rfl info_nd ?_))
  refine (cut_any 16 h n ao cap u2 (by omega) (HH.out.below BU2.out)).mono ?_
  rintro e w3 ⟨b3, ao3, cap3, rfl, h3⟩
  have z3 := b3.size
  have HU3 := Lib.hid (HU2.out.below b3 HU2.out.lt)
  have HR3 := Lib.hid (HR.out.below b3 HR.out.lt)
  have HB3 := Lib.hid (BU2.out.trans (b3.mono (by omega)))
  have H3 := Lib.hid h3
  clear h3 b3 HU HU2 HR BU BU2
  obtain ⟨m, hm⟩ : ∃ m, m = cutL 16 n := ⟨_, rfl⟩
  rw [← hm] at H3 ⊢
  have HMM := Lib.hid hm
  clear hm
  go_wp2_with (first
    | (refine store_any rfl 24 (.tmp 1) (.tmp 5) rfl w.heap.size rfl (m.cells ao3 cap3) rfl _ HU3.out rfl info_nd (nd_one m ao3 cap3) ?_; intro u4 hu4 tu4; have HU4 := Lib.hid hu4; have HR4 := Lib.hid (HR3.out.touch tu4 (by simp)); have HB4 := Lib.hid (tu4.below HB3.out (by simp) (Nat.le_refl _)); have H4 := Lib.hid (Has.kept (S' := fun i => u2.heap.size ≤ i) (fun i hi _ => hi) (fun i (hi : u2.heap.size ≤ i) hl => tu4.block i hl (by simp; omega)) 17 m ao3 H3.out); have z4 := tu4.size; clear hu4 tu4)
    | (refine alloc_int rfl rfl ?_; intro u5 hu5 bu5 zu5; have HL5 := Lib.hid hu5; have HU5 := Lib.hid (HU4.out.below bu5 HU4.out.lt); have HR5 := Lib.hid (HR4.out.below bu5 HR4.out.lt); have HB5 := Lib.hid (HB4.out.trans (bu5.mono (by omega))); have H5 := Lib.hid (Has.kept (S' := fun i => u2.heap.size ≤ i ∧ i ≠ u4.heap.size) (fun i hi hl => ⟨hi, by omega⟩) (fun i _ hl => bu5.block i hl) 17 m ao3 H4.out); clear hu5 bu5)
    | (refine store_int_any rfl (.tmp 3) (.const (.int .i64 300)) rfl u4.heap.size 0 rfl 300 rfl _ [.int .i64 ((300 : Nat) : Int)] HL5.out (by simp) rfl ?_; intro u6 hu6 tu6; have HL6 := Lib.hid hu6; have HU6 := Lib.hid (HU5.out.touch tu6 (by simp; omega)); have HR6 := Lib.hid (HR5.out.touch tu6 (by simp; omega)); have HB6 := Lib.hid (tu6.below HB5.out (by simp; omega) (Nat.le_refl _)); have H6 := Lib.hid (Has.kept (S' := fun i => i ≠ u4.heap.size) (fun i hi hl => hi.2) (fun i hi hl => tu6.block i hl (by simpa using hi.2)) 17 m ao3 H5.out); have z6 := tu6.size; clear hu6 tu6)
    | (refine load_any rfl 24 (.tmp 1) rfl ⟨w.heap.size, 0, none⟩ rfl (m.cells ao3 cap3) _ (fun j v hj => by rw [Addr.add0]; exact HU6.out.cell j v hj) Tryd.underlying24 rfl info_nd ?_))
  refine (fewer_any 17 m ao3 cap3 u6 u4.heap.size 300 (by omega) H6.out HL6.out).mono ?_
  rintro e w7 ⟨t7, hl7, ao7, cap7, rfl, h7⟩
  have HR7 := Lib.hid (HR6.out.touch t7 (by simp; omega))
  have HB7 := Lib.hid (t7.below HB6.out (by simp; omega) (Nat.le_refl _))
  have H7 := Lib.hid h7
  have z7 := t7.size
  clear h7 t7 hl7
  rw [show (fewerL 17 m 300).1 = R by rw [HRR.out, HMM.out]; rfl] at H7 ⊢
  go_wp2_with (refine store_any rfl 24 (.tmp 2) (.tmp 7) rfl (w.heap.size + 1) rfl (R.cells ao7 cap7) rfl _ HR7.out rfl info_nd (nd_one R ao7 cap7) ?_; intro u8 hu8 tu8; have HU8 := Lib.hid hu8; have HT8 := Lib.hid tu8; clear hu8 tu8)
  (try simp only [Exit.inBlock, Exit.then])
  refine bodyPost_ret (v := R.v ao7 cap7) ?_ rfl ⟨HT8.out.below HB7.out (by simp) (Nat.le_refl _), ⟨ao7, cap7, rfl, ?_⟩⟩
  · exact results_cell_row (fn := Tryd.f7) (p := 2) (ty := 24) rfl _ _ (w.heap.size + 1) 24 _ (0, 0) _ rfl HU8.out Tryd.underlying24 rfl info_nd
  · exact Has.kept (S' := fun i => w.heap.size ≤ i) (fun i (hi : u6.heap.size ≤ i) _ => (by omega : w.heap.size ≤ i)) (fun i (hi : u6.heap.size ≤ i) hl => HT8.out.block i hl (by simp; omega)) 17 R ao7 H7.out
end Go.Proofs.YtfflkpggmhlfpaaDoor
