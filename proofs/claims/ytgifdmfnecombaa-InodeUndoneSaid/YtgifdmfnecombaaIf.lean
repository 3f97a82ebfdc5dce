/- Used, Quota; regions by hand. -/
import Derived.Test.YtgifdmfnecombaaIe
import Derived.Test.YtgifdmfnecombaaDn
namespace Go.Proofs.Ytgifdmfnecombaa
open Go.RowKit
set_option maxRecDepth 100000
theorem wpAnyT_takeN {P : Program} {md : Region.Mode} {ops : Array Oper} {Q : Exit → Act → World → Prop} {S : World → Prop} {t : Nat} {i : Nat} {oi : Oper} {v : Value} {fuel : Nat} {listed : Array Bool} {a : Act} {w : World} (hi : ops[i]? = some oi) (ht : ops.size ≤ t)
    (hs : Region.noSelect ops = true) (hf : Region.free md ops listed i = true) (hr : (Region.ready md ops listed).contains i = true)
    (hQ : ∀ c a w, Q (.panic c) (a.put oi.dst v) w → Q (.panic c) a w) (hy : YieldsIf P ops S oi v a) (hS : S w)
    (h : wpAnyT P md ops Q S t fuel (listed.setIfInBounds i true) (a.put oi.dst v) w) : wpAnyT P md ops Q S t (fuel + 1) listed a w := by
  have hlt : i < ops.size := (Array.getElem?_eq_some_iff.1 hi).1
  refine wpAnyT_first hi (by omega) (fun o ho => ?_) (Region.noSelect_spec hs) hQ fuel listed a w (Region.free_spec hi hf) (by simpa using hr) hy hS h
  have := (Array.getElem?_eq_some_iff.1 ho).1
  omega
theorem wpAnyT_call {P : Program} {md : Region.Mode} {ops : Array Oper} {Q : Exit → Act → World → Prop} {S : World → Prop} {t i fuel : Nat} {o : Oper} {listed : Array Bool} {a : Act} {w : World} (hrd : Region.ready md ops listed = [i]) (hi : ops[i]? = some o) (hw : Region.wanted o (yielded ops a.tmps) = true) (f : FuncId) (args : Array Value)
    (hr : (execOp a.eval o).run P w = .ok (.enter f args) w) (hc : Calls P f args w fun e w' => ∃ v, e = .returned v ∧ S w' ∧ wpAnyT P md ops Q S t fuel (listed.setIfInBounds i true) (a.put o.dst v) w') : wpAnyT P md ops Q S t (fuel + 1) listed a w :=
  wpAnyT_all hrd (by simp) (fun j hj => by
    obtain rfl : j = i := by simpa using hj
    refine wpOp_call hi hw f args hr (hc.mono ?_)
    rintro e w' ⟨v, rfl, hS, h⟩
    exact ⟨v, rfl, fun _ => hS, h⟩)
theorem wpAnyT_val {P : Program} {md : Region.Mode} {ops : Array Oper} {Q : Exit → Act → World → Prop} {S : World → Prop} {t i fuel : Nat} {o : Oper} {listed : Array Bool} {a : Act} {w w' : World} {v : Value} (hrd : Region.ready md ops listed = [i]) (hi : ops[i]? = some o) (hw : Region.wanted o (yielded ops a.tmps) = true)
    (hr : (execOp a.eval o).run P w = .ok (.value v) w') (hc : S w' ∧ wpAnyT P md ops Q S t fuel (listed.setIfInBounds i true) (a.put o.dst v) w') : wpAnyT P md ops Q S t (fuel + 1) listed a w :=
  wpAnyT_all hrd (by simp) (fun j hj => by
    obtain rfl : j = i := by simpa using hj
    exact wpOp_val hi hw hr ⟨fun _ => hc.1, hc.2⟩)
theorem wpAnyT_two {P : Program} {md : Region.Mode} {ops : Array Oper} {Q : Exit → Act → World → Prop} {S : World → Prop} {t i k fuel : Nat} {listed : Array Bool} {a : Act} {w : World} (hrd : Region.ready md ops listed = [i, k])
    (h1 : wpOp P ops Q i (fun a' w' => (i ≠ t → S w') ∧ wpAnyT P md ops Q S t fuel (listed.setIfInBounds i true) a' w') a w)
    (h2 : wpOp P ops Q k (fun a' w' => (k ≠ t → S w') ∧ wpAnyT P md ops Q S t fuel (listed.setIfInBounds k true) a' w') a w) : wpAnyT P md ops Q S t (fuel + 1) listed a w :=
  wpAnyT_all hrd (by simp) (fun j hj => by
    obtain rfl | rfl : j = i ∨ j = k := by simpa using hj
    · exact h1
    · exact h2)
theorem wpAnyT_cv {P : Program} {md : Region.Mode} {ops : Array Oper} {Q : Exit → Act → World → Prop} {S : World → Prop} {t i k fuel : Nat} {o o2 : Oper} {listed : Array Bool} {a : Act} {w w2 : World} {v2 : Value} (hrd : Region.ready md ops listed = [i, k]) (hi : ops[i]? = some o) (hw : Region.wanted o (yielded ops a.tmps) = true) (f : FuncId) (args : Array Value)
    (hr : (execOp a.eval o).run P w = .ok (.enter f args) w) (hk : ops[k]? = some o2) (hw2 : Region.wanted o2 (yielded ops a.tmps) = true) (hr2 : (execOp a.eval o2).run P w = .ok (.value v2) w2)
    (hc : Calls P f args w fun e w' => ∃ v, e = .returned v ∧ S w' ∧ wpAnyT P md ops Q S t fuel (listed.setIfInBounds i true) (a.put o.dst v) w')
    (hc2 : S w2 ∧ wpAnyT P md ops Q S t fuel (listed.setIfInBounds k true) (a.put o2.dst v2) w2) : wpAnyT P md ops Q S t (fuel + 1) listed a w :=
  wpAnyT_two hrd (wpOp_call hi hw f args hr (hc.mono (by
    rintro e w' ⟨v, rfl, hS, h⟩
    exact ⟨v, rfl, fun _ => hS, h⟩))) (wpOp_val hk hw2 hr2 ⟨fun _ => hc2.1, hc2.2⟩)
theorem wpAnyT_store {P : Program} {md : Region.Mode} {ops : Array Oper} {Q : Exit → Act → World → Prop} {S : World → Prop} {t i fuel : Nat} {o : Oper} {listed : Array Bool} {a : Act} {w : World} (hrd : Region.ready md ops listed = [i]) (hi : ops[i]? = some o) (hw : Region.wanted o (yielded ops a.tmps) = true)
    (ty : TypeId) (x y : Operand) (ho : o.op = .store ty x y) (B : Nat) (hx : a.eval x = .pointer (some ⟨B, 0, none⟩)) (cs : List Value) (hy : a.eval y = .agg cs.toArray) (old : List Value) (hB : At w B ty old) (hl : cs.length = old.length) (hsz : (P.info? ty).map (·.size) = some cs.length) (h1 : ∀ v ∈ cs, v.oneCell' = true)
    (hc : ∀ u, At u B ty cs → Touch [B] w u → S u ∧ wpAnyT P md ops Q S t fuel (listed.setIfInBounds i true) (a.put o.dst undef) u) : wpAnyT P md ops Q S t (fuel + 1) listed a w :=
  wpAnyT_all hrd (by simp) (fun j hj => by
    obtain rfl : j = i := by simpa using hj
    unfold wpOp
    simp only [hi, hw, if_true]
    refine .inl ?_
    have h := hc (w.setCells B 0 cs) (by
      have := hB.setCells cs 0 _ _ (by omega)
      rw [show splice old 0 cs = cs from by unfold splice; simp [hl]] at this
      exact this) (Touch.setCells B (.inl (by simp)) _ _ _ (Touch.refl _ w))
    exact wp_store_mid ty x y ho B 0 cs.toArray hx hy (hB.there 0 _ (by simp; omega)) (by simpa using hsz) (all_oneCell_toArray h1) ⟨fun _ => h.1, h.2⟩)
theorem run_len_map {o : Oper} {a : Act} {w : World} (x : Operand) (t : TypeId) (ho : o.op = .call { callee := .builtin .len, args := #[x], argTypes := #[t] }) (v z : Value) (hx : a.eval x = v) (hr : ∀ ty, (Builtin.len_ #[t] ty #[v]).run Try.prog w = .ok z w) : (execOp a.eval o).run Try.prog w = .ok (.value z) w := by
  have h := hr o.type
  unfold execOp
  simp [ho, resolve, invoke, builtin, hx, h, Result.andThen]
def quotaV (a b : Int) : List Value := [.int .i64 a, .int .i64 b]
theorem quota_one (a b : Int) : ∀ v ∈ quotaV a b, v.oneCell' = true := by
  intro v hv
  simp only [quotaV, List.mem_cons, List.not_mem_nil, or_false] at hv
  rcases hv with rfl | rfl <;> rfl
theorem info_quota : (Try.prog.info? 25).map (·.size) = some 2 := by kernel_rfl
theorem zero_quota : ∀ w, (zeroValue 25).run Try.prog w = .ok (.agg (quotaV 0 0).toArray) w := fun _ => by kernel_rfl
theorem TabAt.drew {base : Nat} {W : World} {tb : Nat} {T : Tab} {p : Place} (h : TabAt base W tb T p) : TabAt base W.drew tb T p := h.below (below_dr W)
theorem TabAt.lt {base : Nat} {W : World} {tb : Nat} {T : Tab} {p : Place} (h : TabAt base W tb T p) : tb < W.heap.size := h.t.lt
theorem used_any (base : Nat) (w : World) (tb : Nat) (T : Tab) (p : Place) (h : TabAt base w tb T p) :
    Calls Try.prog 8 #[tabV tb] w fun e w' => e = .returned (.agg (quotaV T.cnt T.bytes).toArray) ∧ Below w.heap.size w w' := by
  have HH := Lib.hid h
  clear h
  go_enter Try.func8, Try.ntmps8
  go_wp2_with (with_reducible refine alloc_any rfl 25 rfl _ zero_quota ?_; intro u hu bu zu; have HU := Lib.hid hu; have BU := Lib.hid bu; clear hu bu)
  have H0 := Lib.hid (HH.out.below BU.out)
  refine (isNone_any base u tb T p H0.out).mono ?_
  rintro e w1 ⟨rfl, rfl⟩
  go_wp2_with fail
  have S0 : TabAt base w1.drew tb T p := H0.out.drew
  have A0 : At w1.drew w.heap.size 25 (quotaV 0 0) := HU.out.drew
  have B0 := BU.out.trans ((below_dr w1).mono BU.out.size)
  refine region_any (fun W => TabAt base W tb T p) 11 (by kernel_rfl) ?_
  show wpAnyT _ _ _ _ _ _ _ _ _ w1.drew
  generalize w1.drew = v0 at S0 A0 B0 ⊢
  refine wpAnyT_takeN (i := 0) (v := tabV tb) rfl (by decide) (by kernel_rfl) (by kernel_rfl) (by kernel_rfl) (fun _ _ _ h => h) (.inl ⟨by kernel_rfl, fun W hS => by kernel_rfl⟩) S0 ?_
  refine wpAnyT_takeN (i := 1) (v := .pointer (some ⟨tb, 0, none⟩)) rfl (by decide) (by kernel_rfl) (by kernel_rfl) (by kernel_rfl) (fun _ _ _ h => h) (.inl ⟨by kernel_rfl, fun W hS => by kernel_rfl⟩) S0 ?_
  refine wpAnyT_takeN (i := 2) (v := .pointer (some ⟨tb, 0, none⟩)) rfl (by decide) (by kernel_rfl) (by kernel_rfl) (by kernel_rfl) (fun _ _ _ h => h) (.inl ⟨by kernel_rfl, fun W hS => by kernel_rfl⟩) S0 ?_
  refine wpAnyT_takeN (i := 3) (v := .map (some p.bm)) rfl (by decide) (by kernel_rfl) (by kernel_rfl) (by kernel_rfl) (fun _ _ _ h => h) (.inl ⟨by kernel_rfl, fun W hS => run_load_one 57 (.tmp 8) rfl ⟨tb, 0, none⟩ (by kernel_rfl) _ (hS.t.cell 0 _ rfl) _ Try.underlying57 rfl⟩) S0 ?_
  refine wpAnyT_takeN (i := 4) (v := .int .i64 (T.cnt : Int)) rfl (by decide) (by kernel_rfl) (by kernel_rfl) (by kernel_rfl) (fun _ _ _ h => h) (.inl ⟨by kernel_rfl, fun W hS => run_len_map (.tmp 9) 57 rfl (.map (some p.bm)) _ (by kernel_rfl) (fun ty => hS.i.len ty)⟩) S0 ?_
  refine wpAnyT_takeN (i := 5) (v := tabV tb) rfl (by decide) (by kernel_rfl) (by kernel_rfl) (by kernel_rfl) (fun _ _ _ h => h) (.inl ⟨by kernel_rfl, fun W hS => by kernel_rfl⟩) S0 ?_
  refine wpAnyT_takeN (i := 6) (v := .pointer (some ⟨tb, 0, none⟩)) rfl (by decide) (by kernel_rfl) (by kernel_rfl) (by kernel_rfl) (fun _ _ _ h => h) (.inl ⟨by kernel_rfl, fun W hS => by kernel_rfl⟩) S0 ?_
  refine wpAnyT_takeN (i := 7) (v := .pointer (some ⟨tb, 2, none⟩)) rfl (by decide) (by kernel_rfl) (by kernel_rfl) (by kernel_rfl) (fun _ _ _ h => h) (.inl ⟨by kernel_rfl, fun W hS => by kernel_rfl⟩) S0 ?_
  refine wpAnyT_takeN (i := 8) (v := .int .i64 (T.bytes : Int)) rfl (by decide) (by kernel_rfl) (by kernel_rfl) (by kernel_rfl) (fun _ _ _ h => h) (.inl ⟨by kernel_rfl, fun W hS => run_load_one 3 (.tmp 13) rfl ⟨tb, 2, none⟩ (by kernel_rfl) _ (hS.t.cell 2 _ rfl) _ Try.underlying3 rfl⟩) S0 ?_
  refine wpAnyT_takeN (i := 9) (v := .agg (quotaV (T.cnt : Int) (T.bytes : Int)).toArray) rfl (by decide) (by kernel_rfl) (by kernel_rfl) (by kernel_rfl) (fun _ _ _ h => h) (.inl ⟨by kernel_rfl, fun W hS => by kernel_rfl⟩) S0 ?_
  refine wpAnyT_store (i := 10) (by kernel_rfl) rfl (by kernel_rfl) 25 (.tmp 2) (.tmp 15) rfl w.heap.size (by kernel_rfl) (quotaV (T.cnt : Int) (T.bytes : Int)) (by kernel_rfl) _ A0 rfl info_quota (quota_one _ _) (fun u9 hu9 tu9 => ?_)
  have hb9 := tu9.below B0 (by simp) (Nat.le_refl _)
  refine ⟨HH.out.below hb9, ?_⟩
  refine wpAnyT_done (by kernel_rfl) ?_ _
  simp only [Act.put, List.getElem_toArray, List.getElem_cons_succ, List.getElem_cons_zero, List.setIfInBounds_toArray, List.set_cons_zero, List.set_cons_succ]
  have HB9 := Lib.hid hb9
  have HU9 := Lib.hid hu9
  clear hb9 hu9 tu9 S0 A0 B0
  go_wp2_with fail
  (try simp only [Exit.inBlock, Exit.then])
  refine bodyPost_ret (v := .agg (quotaV (T.cnt : Int) (T.bytes : Int)).toArray) ?_ rfl ⟨rfl, HB9.out⟩
  exact results_cell_row (fn := Try.f8) (p := 2) (ty := 25) rfl _ _ w.heap.size 25 _ (0, 0) _ rfl HU9.out Try.underlying25 rfl info_quota
theorem quota_any (base : Nat) (w : World) (tb : Nat) (T : Tab) (p : Place) (h : TabAt base w tb T p) :
    Calls Try.prog 22 #[tabV tb] w fun e w' => e = .returned (.agg (quotaV T.qi T.qb).toArray) ∧ Below w.heap.size w w' := by
  have HH := Lib.hid h
  clear h
  go_enter Try.func22, Try.ntmps22
  go_wp2_with (with_reducible refine alloc_any rfl 25 rfl _ zero_quota ?_; intro u hu bu zu; have HU := Lib.hid hu; have BU := Lib.hid bu; clear hu bu)
  have H0 := Lib.hid (HH.out.below BU.out)
  refine (isNone_any base u tb T p H0.out).mono ?_
  rintro e w1 ⟨rfl, rfl⟩
  unfold tabV
  go_wp2_with (first
    | (refine load_any rfl 25 (.tmp 8) rfl ⟨tb, 3, none⟩ rfl (quotaV T.qi T.qb) _ (fun j v hj => by
        match j, hj with
        | 0, hj => exact H0.out.t.cell 3 v hj
        | 1, hj => exact H0.out.t.cell 4 v hj) Try.underlying25 rfl info_quota ?_)
    | (refine store_any rfl 25 (.tmp 2) (.tmp 9) rfl w.heap.size rfl (quotaV T.qi T.qb) rfl _ HU.out rfl info_quota (quota_one _ _) ?_; intro u9 hu9 tu9; have HU9 := Lib.hid hu9; have HT9 := Lib.hid tu9; clear hu9 tu9))
  (try simp only [Exit.inBlock, Exit.then])
  refine bodyPost_ret (v := .agg (quotaV T.qi T.qb).toArray) ?_ rfl ⟨rfl, HT9.out.below BU.out (by simp) (Nat.le_refl _)⟩
  exact results_cell_row (fn := Try.f22) (p := 2) (ty := 25) rfl _ _ w.heap.size 25 _ (0, 0) _ rfl HU9.out Try.underlying25 rfl info_quota
end Go.Proofs.Ytgifdmfnecombaa
