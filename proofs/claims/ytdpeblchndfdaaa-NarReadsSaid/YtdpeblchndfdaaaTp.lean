/- Size. -/
import Derived.Test.YtdpeblchndfdaaaTo
namespace Go.Proofs.Ytdpeblchndfdaaa
open Go.RowKit Go.Shelf
attribute [local go_sem] Oper.semAt_some
set_option maxRecDepth 100000
def bytesL (l : List (Nat × Nd)) : Nat := (l.map (fun p => p.2.data.length)).sum
theorem KC.putObj {S : Nat → Prop} {W : World} {l : Nat} {o : Obj} (o' : Obj) (h : W.heap[l]? = some o) (hc : o.isCells = false) : KC S W (W.putObj l o') :=
  ⟨by rw [World.putObj_size]; exact Nat.le_refl _, fun k q hq hqc _ => by
    rw [World.putObj_heap_other (fun e => by subst e; rw [h] at hq; cases hq; rw [hc] at hqc; cases hqc)]
    exact hq⟩
theorem ownFrom_cells {β : Type} {B b : Nat} {T : TypeId} (f : β → List Value) : OwnFrom B (fun s W => At W b T (f s)) := fun s W W' row hs hg hr => by
  have h := hg.block b (At.lt hs) (fun e => by
    obtain ⟨_, o, ho, hc⟩ := hr b e.symm
    unfold At at hs
    rw [hs] at ho
    cases ho
    cases hc)
  exact h.trans hs
/-- a node that Size may be told of -/
def GoodN (p : Nat × Nd) : Prop := p.1 ≤ 65536 ∧ p.2.data.length ≤ 1000000
abbrev ElG := { x : El // GoodN x.nd }
def dataOf (l : List ElG) : Nat := (l.map (fun x => x.1.2.1.data.length)).sum
section
variable {F : Fence} {n : Nat} {ops : Array Oper} {rest : List Oper} {op : Oper} {a : Act} {w : World} {Q : Exit → Act → World → Prop}
theorem store_int_in (hgd : op.guard = none) (x y : Operand) (ho : op.op = .store 3 x y) (B i : Nat) (hx : a.eval x = .pointer (some ⟨B, i, none⟩)) (m : Int) (hy : a.eval y = .int .i64 m) {T : TypeId} (old new : List Value) (hB : At w B T old) (hi : i < old.length) (hnew : old.set i (.int .i64 m) = new)
    (h : ∀ u, At u B T new → Touch [B] w u → wpListIn F n Try.prog ops Q rest (a.put op.dst undef) u) : wpListIn F n Try.prog ops Q (op :: rest) a w :=
  in_skip hgd (by simp [Oper.about, ho]) (Oper.semAt_plain F _ _ (by rw [ho]; intro c hc; cases hc)) (run_store_int x y ho ⟨B, i, none⟩ hx m hy _ (hB.cell i _ (List.getElem?_eq_getElem hi)) (hB.frozen i)) (h _ (hnew ▸ hB.setCell i _) ((Touch.refl [B] w).setCell _ _ (.inl (by simp))))
end
theorem keepsFrom_below {B : Nat} {W W' : World} (b : Below W.heap.size W W') : KeepsFrom B W W' := ⟨b.size, fun k o _ hk _ => (b.block k (Array.getElem?_eq_some_iff.1 hk).1).trans hk⟩
theorem keepsFrom_touch {B : Nat} {ft : List Nat} {W W' : World} (t : Touch ft W W') (hf : ∀ k, k ∈ ft → ∃ T l, At W k T l) : KeepsFrom B W W' := ⟨t.size, fun k o _ hk hc => by
  refine (t.block k (Array.getElem?_eq_some_iff.1 hk).1 (fun e => ?_)).trans hk
  obtain ⟨T, l, hA⟩ := hf k e
  unfold At at hA
  rw [hA] at hk
  cases hk
  cases hc⟩
theorem KC.touch {S : Nat → Prop} {ft : List Nat} {W W' : World} (t : Touch ft W W') (hf : ∀ k, k ∈ ft → ¬ S k) : KC S W W' := ⟨t.size, fun k o hk _ hs => (t.block k (Array.getElem?_eq_some_iff.1 hk).1 (fun e => hf k e hs)).trans hk⟩
theorem dataOf_snoc (l : List ElG) (x : ElG) : dataOf (l ++ [x]) = dataOf l + x.1.2.1.data.length := by unfold dataOf; simp
theorem dataOf_le : ∀ l : List ElG, dataOf l ≤ 1000000 * l.length
  | [] => Nat.le_refl _
  | x :: r => by
    have := dataOf_le r
    have h2 := x.2.2
    change x.1.2.1.data.length ≤ _ at h2
    have e : dataOf (x :: r) = x.1.2.1.data.length + dataOf r := by unfold dataOf; simp
    rw [e, List.length_cons]
    omega
theorem dataOf_bytes (l : List ElG) : bytesL (l.map (fun x => x.1.nd)) = dataOf l := by unfold bytesL dataOf; rw [List.map_map]; rfl
theorem run_loadVar_int (w : World) (p : Addr) (n : Int) (hc : w.cell? p = some (.int .i64 n)) : (loadVar 3 p).run Try.prog w = .ok (.int .i64 n) w := by
  unfold loadVar
  simp [go_sem, isAgg, run_underlying Try.underlying3, hc]
theorem results_ints {fn : Func} {p q : Tmp} (h : fn.results = #[.cell p 3, .cell q 3]) (tmps : Array Value) (w : World) (x y : Addr) (m n : Int)
    (hp : tmps.getD p undef = .pointer (some x)) (hq : tmps.getD q undef = .pointer (some y)) (hx : w.cell? x = some (.int .i64 m)) (hy : w.cell? y = some (.int .i64 n)) :
    (results fn tmps).run Try.prog w = .ok (.tuple #[.int .i64 m, .int .i64 n]) w := by
  have hp' : tmps[p]?.getD undef = .pointer (some x) := by simpa using hp
  have hq' : tmps[q]?.getD undef = .pointer (some y) := by simpa using hq
  simp only [results, h]
  simp [hp', hq', asAddr, Sem.run_bind, run_loadVar_int w x m hx, run_loadVar_int w y n hy, Result.andThen]
set_option maxHeartbeats 4000000 in
theorem size_any (h : Nat) (m : Nd) (ao : Option Addr) (cap : Nat) (w : World) (hh : h ≤ 65535) (hH : Has any_ w h m ao) (hG : ∀ p ∈ nodesL h 1 m, GoodN p) (hN : (nodesL h 1 m).length ≤ 2000) :
    Calls Try.prog 19 #[m.v ao cap] w fun e w' => e = .returned (.tuple #[.int .i64 ((nodesL h 1 m).length : Int), .int .i64 (bytesL (nodesL h 1 m) : Int)]) ∧ Below w.heap.size w w' := by
  have HH := Lib.hid hH
  have HG := Lib.hid hG
  clear hH hG
  refine (callsIn_wide (n := 10)).1 ?_
  refine callsIn_of_wp_marks Try.func19 rfl trivial ?_ rfl
  simp only [Try.ntmps19, List.size_toArray, List.length_cons, List.length_nil, Nat.reduceAdd, Nat.reduceSub, Array.replicate_succ, Array.replicate_zero, List.push_toArray, List.append_toArray, List.nil_append, List.cons_append]
  refine wpIn_wide.2 ?_
  go_wp2_with (first
    | (with_reducible refine box_any rfl 24 (.tmp 0) rfl (m.cells ao cap) rfl ?_; intro u hu bu zu; have HU := Lib.hid hu; have BU := Lib.hid bu; clear hu bu)
    | (refine alloc_int (op := { dst := some 2, op := _, type := _, pos := _, after := _, guard := _ }) rfl rfl ?_; intro u2 hu2 bu2 zu2; rw [zu] at hu2; have HU2 := Lib.hid hu2; have HU02 := Lib.hid (HU.out.below bu2 HU.out.lt); have BU2 := Lib.hid (BU.out.trans (bu2.mono (by omega))); clear hu2 bu2)
    | (refine alloc_int (op := { dst := some 3, op := _, type := _, pos := _, after := _, guard := _ }) rfl rfl ?_; intro u3 hu3 bu3 zu3; rw [zu2, zu] at hu3; have HU3 := Lib.hid hu3; have HU03 := Lib.hid (HU02.out.below bu3 HU02.out.lt); have HU23 := Lib.hid (HU2.out.below bu3 HU2.out.lt); have BU3 := Lib.hid (BU2.out.trans (bu3.mono (by omega))); clear hu3 bu3)
    | (refine load_any rfl 24 (.tmp 1) rfl ⟨w.heap.size, 0, none⟩ rfl (m.cells ao cap) _ (fun j v hj => by rw [Addr.add0]; exact HU03.out.cell j v hj) Try.underlying24 rfl info_nd ?_))
  refine (nodes_any m ao cap u3).mono ?_
  rintro e w4 ⟨rfl, hN4, b4, z4⟩
  rw [show u3.heap.size = w.heap.size + 3 by omega] at hN4 z4 ⊢
  have A1 := Lib.hid (HU23.out.below b4 HU23.out.lt)
  have A2 := Lib.hid (HU3.out.below b4 HU3.out.lt)
  have A3 := Lib.hid hN4
  have HB4 := Lib.hid (BU3.out.trans (b4.mono (by omega)))
  have H4 := Lib.hid ((HH.out.mono (S' := fun i => i ≠ w.heap.size + 1 ∧ i ≠ w.heap.size + 2) (fun i _ hl => ⟨by omega, by omega⟩)).below HB4.out)
  clear hN4 b4 HU HU2 HU02 HU3 HU03 HU23 BU BU2 BU3
  go_wp2_with fail
  have hb1 : w.heap.size + 1 ≠ w.heap.size + 2 := by omega
  refine (wpIn_wide (n := 10)).1 ?_
  refine wpIn_rangeFunc_ownH rfl (by omega) (gf := 74) (lb := #[.pointer (some ⟨w.heap.size + 3, 0, none⟩)]) rfl trivial (enters_of Try.func74 (by kernel_rfl) rfl)
    (nodes1_stops 9 (by omega) (w.heap.size + 3) h m ao cap w4 (fun i => i ≠ w.heap.size + 1 ∧ i ≠ w.heap.size + 2) (fun i hi => ⟨by omega, by omega⟩) (by omega) A3.out H4.out GoodN HG.out) (fun h k => h.trans k) (fun W l o o' _ h1 h2 _ => KC.putObj o' h1 h2) (Below.refl _ _) (fun _ => rfl)
    (fun (pre : List ElG) W => (At W (w.heap.size + 1) 3 [.int .i64 (pre.length : Int)] ∧ At W (w.heap.size + 2) 3 [.int .i64 (dataOf pre : Int)]) ∧ Below w.heap.size w W ∧ w4.heap.size ≤ W.heap.size)
    (fun _ _ _ => False)
    (OwnFrom.and (OwnFrom.and (ownFrom_cells _) (ownFrom_cells _)) (OwnFrom.and (ownFrom_below (Nat.le_refl _) (by omega)) (fun s A B row hs hg _ => Nat.le_trans hs hg.size)))
    (fun _ _ _ _ _ hs _ _ => hs)
    ⟨⟨A1.out, A2.out⟩, HB4.out, Nat.le_refl _⟩
    (fun x a' W => ∃ P, a' = { tmps := #[m.v ao cap, .pointer (some ⟨w.heap.size, 0, none⟩), .pointer (some ⟨w.heap.size + 1, 0, none⟩), .pointer (some ⟨w.heap.size + 2, 0, none⟩), .int .i64 (x.1.1 : Int), .pointer (some ⟨P, 0, none⟩), .agg (m.cells ao cap).toArray, .func (.func 74) #[] #[.pointer (some ⟨w.heap.size + 3, 0, none⟩)], .int .i64 (x.1.1 : Int), x.1.2.1.v x.1.2.2.1 x.1.2.2.2, undef, undef, undef, undef, undef, undef, undef, undef, undef, undef, undef], defers := [] } ∧ At W P 24 (x.1.2.1.cells x.1.2.2.1 x.1.2.2.2) ∧ P ≠ w.heap.size + 1 ∧ P ≠ w.heap.size + 2)
    (fun x a' s A B row hs hg hr => by
      obtain ⟨P, e, hA, h1, h2⟩ := hs
      exact ⟨P, e, ownFrom_cells (β := Unit) (fun _ => x.1.2.1.cells x.1.2.2.1 x.1.2.2.2) () A B row hA hg hr, h1, h2⟩) ?assign ?body ?done ?stop
  case assign =>
    rintro l pre x W K ⟨⟨hA, hB⟩, hBe, hz⟩ hK
    have HK := Lib.hid hK
    clear hK
    unfold El.enc
    simp only [List.zip_toArray, List.zip_cons_cons, List.zip_nil_right, List.foldl_toArray, List.foldl_cons, List.foldl_nil, List.setIfInBounds_toArray, List.set_cons_succ, List.set_cons_zero]
    gi_wp2_with (first
      | (with_reducible refine alloc_in rfl 24 rfl _ zero_nd ?_; intro u2 hu2 bu2 zu2; have HU2 := Lib.hid hu2; clear hu2)
      | (refine store_in rfl 24 (.tmp 5) (.tmp 9) rfl W.heap.size rfl (x.1.2.1.cells x.1.2.2.1 x.1.2.2.2) rfl _ HU2.out rfl info_nd (nd_one x.1.2.1 x.1.2.2.1 x.1.2.2.2) ?_; intro u3 hu3 tu3; have HU3 := Lib.hid hu3; have BU3 := Lib.hid (Touch.below bu2 tu3 (by simp) (Nat.le_refl _)); clear hu3 tu3))
    refine HK.out _ _ (keepsFrom_below BU3.out) (KC.below BU3.out) ⟨⟨hA.below BU3.out hA.lt, hB.below BU3.out hB.lt⟩, hBe.trans (BU3.out.mono hBe.size), by have := BU3.out.size; omega⟩ ⟨W.heap.size, rfl, HU3.out, by omega, by omega⟩
  case body =>
    rintro l pre x a' W hl hr ⟨⟨hA, hB⟩, hBe, hz⟩ ⟨P, rfl, hP, hP1, hP2⟩ hlen
    have hx1 := x.2.1
    change x.1.1 ≤ 65536 at hx1
    have hx2 := x.2.2
    change x.1.2.1.data.length ≤ 1000000 at hx2
    have hdl := dataOf_le pre
    have hds := dataOf_snoc pre x
    have hx1' : ¬ (65536 : Int) < (x.1.1 : Int) := by omega
    have hlen' : pre.length < 2000 := by omega
    obtain ⟨dl, hdle⟩ : ∃ dl, dl = dataOf pre := ⟨_, rfl⟩
    rw [← hdle] at hB hdl hds
    have HDS := Lib.hid hds
    have hdl2 : dl ≤ 2000000000 := by omega
    have HA := Lib.hid hA
    have HB := Lib.hid hB
    have HP := Lib.hid hP
    have HBE := Lib.hid hBe
    have c1 := hA.cell 0 _ rfl
    clear hdle hds hdl hA hB hP hBe hr
    gi_wp2_with (first
      | (refine store_int_in rfl (.tmp 2) (.tmp 13) rfl (w.heap.size + 1) 0 rfl ((pre.length : Int) + 1) rfl _ [.int .i64 ((pre.length + 1 : Nat) : Int)] HA.out (by simp) rfl ?_; intro v1 hv1 tv1; have HA1 := Lib.hid hv1; have HB1 := Lib.hid (HB.out.touch tv1 (by simp)); have HP1 := Lib.hid (HP.out.touch tv1 (by simpa using hP1)); have TV1 := Lib.hid tv1; have c2 := HB1.out.cell 0 _ rfl; have c3 := HP1.out.cell 3 _ rfl; clear hv1 tv1)
      | (refine store_int_in rfl (.tmp 3) (.tmp 18) rfl (w.heap.size + 2) 0 rfl ((dl : Int) + (x.1.2.1.data.length : Int)) rfl _ [.int .i64 ((dl + x.1.2.1.data.length : Nat) : Int)] HB1.out (by simp) rfl ?_; intro v2 hv2 tv2; have HA2 := Lib.hid (HA1.out.touch tv2 (by simp)); have HB2 := Lib.hid hv2; have TV2 := Lib.hid tv2; clear hv2 tv2))
    have hT : Touch [w.heap.size + 1, w.heap.size + 2] W v2 := (TV1.out.mono (by simp)).trans (TV2.out.mono (by simp))
    refine ⟨keepsFrom_touch hT (fun k hk => ?_), KC.touch hT (fun k hk => ?_), ⟨⟨?_, ?_⟩, hT.below HBE.out (fun k hk => ?_) (Nat.le_refl _), ?_⟩⟩
    · simp only [List.mem_cons, List.not_mem_nil, or_false] at hk
      rcases hk with rfl | rfl
      · exact ⟨_, _, HA.out⟩
      · exact ⟨_, _, HB.out⟩
    · simp only [List.mem_cons, List.not_mem_nil, or_false] at hk
      rcases hk with rfl | rfl
      · simp
      · simp
    · rw [List.length_append]; exact HA2.out
    · rw [HDS.out]; exact HB2.out
    · simp only [List.mem_cons, List.not_mem_nil, or_false] at hk
      omega
    · have := hT.size; omega
  case done =>
    rintro D ys W hD hys ⟨⟨hA, hB⟩, hBe, hz⟩ hD2
    have e1 : ys.length = (nodesL h 1 m).length := by have := congrArg List.length hys; rwa [List.length_map] at this
    have e2 : dataOf ys = bytesL (nodesL h 1 m) := by rw [← hys, dataOf_bytes]
    obtain ⟨I, hI⟩ : ∃ I, I = (nodesL h 1 m).length := ⟨_, rfl⟩
    obtain ⟨Y, hY⟩ : ∃ Y, Y = bytesL (nodesL h 1 m) := ⟨_, rfl⟩
    rw [e1, ← hI] at hA
    rw [e2, ← hY] at hB
    have HI := Lib.hid hI
    have HY := Lib.hid hY
    have HA := Lib.hid hA
    have HB := Lib.hid hB
    have c1 := hA.cell 0 _ rfl
    have c2 := hB.cell 0 _ rfl
    have HBE := Lib.hid hBe
    clear hA hB hBe e1 e2 hI hY
    have f1 := HA.out.frozen 0
    have f2 := HB.out.frozen 0
    go_wp2_with fail
    go_region
    have hA' : At (((W.setCell ⟨w.heap.size + 1, 0, none⟩ (.int .i64 (I : Int))).setCell ⟨w.heap.size + 1 + 1, 0, none⟩ (.int .i64 (Y : Int))).drew) (w.heap.size + 1) 3 [.int .i64 (I : Int)] := (HA.out.setCell 0 _).setCell_ne _ _ (show w.heap.size + 1 ≠ w.heap.size + 1 + 1 by omega)
    have hB' : At (((W.setCell ⟨w.heap.size + 1, 0, none⟩ (.int .i64 (I : Int))).setCell ⟨w.heap.size + 1 + 1, 0, none⟩ (.int .i64 (Y : Int))).drew) (w.heap.size + 1 + 1) 3 [.int .i64 (Y : Int)] := (HB.out.setCell_ne ⟨w.heap.size + 1, 0, none⟩ _ (show w.heap.size + 1 + 1 ≠ w.heap.size + 1 by omega)).setCell 0 _
    have hBV : Below w.heap.size w (((W.setCell ⟨w.heap.size + 1, 0, none⟩ (.int .i64 (I : Int))).setCell ⟨w.heap.size + 1 + 1, 0, none⟩ (.int .i64 (Y : Int))).drew) := ((HBE.out.setCell (show w.heap.size ≤ w.heap.size + 1 by omega) _).setCell (show w.heap.size ≤ w.heap.size + 1 + 1 by omega) _).drew
    have hDV : (((W.setCell ⟨w.heap.size + 1, 0, none⟩ (.int .i64 (I : Int))).setCell ⟨w.heap.size + 1 + 1, 0, none⟩ (.int .i64 (Y : Int))).drew).heap[D]? = some (.deferred (some [])) := by
      show ((W.setCell ⟨w.heap.size + 1, 0, none⟩ (.int .i64 (I : Int))).setCell ⟨w.heap.size + 1 + 1, 0, none⟩ (.int .i64 (Y : Int))).heap[D]? = _
      rw [Below.heap_setCell _ _ _ _ (show D ≠ w.heap.size + 1 + 1 by omega), Below.heap_setCell _ _ _ _ (show D ≠ w.heap.size + 1 by omega)]
      exact hD2
    generalize ((W.setCell ⟨w.heap.size + 1, 0, none⟩ (.int .i64 (I : Int))).setCell ⟨w.heap.size + 1 + 1, 0, none⟩ (.int .i64 (Y : Int))).drew = V at *
    go_wp2
    refine ⟨by simp, .inl ⟨_, _, rfl, run_takeDeferred hDV, ?_⟩⟩
    have hA2 : At (V.putObj D (.deferred none)) (w.heap.size + 1) 3 [.int .i64 (I : Int)] := (World.putObj_heap_other (by omega)).trans hA'
    have hB2 : At (V.putObj D (.deferred none)) (w.heap.size + 1 + 1) 3 [.int .i64 (Y : Int)] := (World.putObj_heap_other (by omega)).trans hB'
    refine ⟨_, results_ints (fn := Try.f19) (p := 2) (q := 3) rfl _ _ _ _ _ _ rfl rfl (hA2.cell 0 _ rfl) (hB2.cell 0 _ rfl), ?_, ?_⟩
    · rw [HI.out, HY.out]
    · exact hBV.trans (belowK_b (w := w) (Nat.le_refl _) V D _ _ (by omega) hDV rfl rfl)
  case stop =>
    rintro D c pre W _ _ h _
    exact h.elim
end Go.Proofs.Ytdpeblchndfdaaa
