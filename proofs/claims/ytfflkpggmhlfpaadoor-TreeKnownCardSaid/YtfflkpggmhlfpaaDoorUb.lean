/- The chapter's rows: the walk. -/
import Derived.Test.YtfflkpggmhlfpaaDoorUa
import Derived.Test.YtfflkpggmhlfpaaDoorDn
namespace Go.Proofs.YtfflkpggmhlfpaaDoor
open Go.RowKit
set_option maxRecDepth 100000
theorem Has.drew {S : Nat → Prop} {w : World} {h : Nat} {n : Nd} {ao : Option Addr} (hH : Has S w h n ao) : Has S w.drew h n ao := Has.kept (S' := S) (w := w) (w' := w.drew) (fun _ h _ => h) (fun _ _ _ => rfl) h n ao hH
theorem wpAnyT_takeN {P : Program} {md : Region.Mode} {ops : Array Oper} {Q : Exit → Act → World → Prop} {S : World → Prop} {t : Nat} {i : Nat} {oi : Oper} {v : Value} {fuel : Nat} {listed : Array Bool} {a : Act} {w : World} (hi : ops[i]? = some oi) (ht : ops.size ≤ t)
    (hs : Region.noSelect ops = true) (hf : Region.free md ops listed i = true) (hr : (Region.ready md ops listed).contains i = true)
    (hQ : ∀ c a w, Q (.panic c) (a.put oi.dst v) w → Q (.panic c) a w) (hy : YieldsIf P ops S oi v a) (hS : S w)
    (h : wpAnyT P md ops Q S t fuel (listed.setIfInBounds i true) (a.put oi.dst v) w) : wpAnyT P md ops Q S t (fuel + 1) listed a w := by
  have hlt : i < ops.size := (Array.getElem?_eq_some_iff.1 hi).1
  refine wpAnyT_first hi (by omega) (fun o ho => ?_) (Region.noSelect_spec hs) hQ fuel listed a w (Region.free_spec hi hf) (by simpa using hr) hy hS h
  have := (Array.getElem?_eq_some_iff.1 ho).1
  omega
theorem wpAnyT_call {P : Program} {md : Region.Mode} {ops : Array Oper} {Q : Exit → Act → World → Prop} {S : World → Prop} {t i fuel : Nat} {o : Oper} {listed : Array Bool} {a : Act} {w : World} (hrd : Region.ready md ops listed = [i]) (hi : ops[i]? = some o) (hw : Region.wanted o (yielded ops a.tmps) = true) (f : FuncId) (args : Array Value)
    (hr : (execOp a.eval o).run P w = .ok (.enter f args) w) (hc : Calls P f args w fun e w' => ∃ v, e = .returned v ∧ S w' ∧ wpAnyT P md ops Q S t fuel (listed.setIfInBounds i true) (a.put o.dst v) w') : wpAnyT P md ops Q S t (fuel + 1) listed a w :=
  wpAnyT_all hrd (by simp) (fun j hj => by
    obtain rfl : j = i := by simpa using hj
    refine wpOp_call hi hw f args hr (hc.mono ?_)
    rintro e w' ⟨v, rfl, hS, h⟩
    exact ⟨v, rfl, fun _ => hS, h⟩)
theorem wpAnyT_val {P : Program} {md : Region.Mode} {ops : Array Oper} {Q : Exit → Act → World → Prop} {S : World → Prop} {t i fuel : Nat} {o : Oper} {listed : Array Bool} {a : Act} {w w' : World} {v : Value} (hrd : Region.ready md ops listed = [i]) (hi : ops[i]? = some o) (hw : Region.wanted o (yielded ops a.tmps) = true)
    (hr : (execOp a.eval o).run P w = .ok (.value v) w') (hc : S w' ∧ wpAnyT P md ops Q S t fuel (listed.setIfInBounds i true) (a.put o.dst v) w') : wpAnyT P md ops Q S t (fuel + 1) listed a w :=
  wpAnyT_all hrd (by simp) (fun j hj => by
    obtain rfl : j = i := by simpa using hj
    exact wpOp_val hi hw hr ⟨fun _ => hc.1, hc.2⟩)
theorem wpAnyT_two {P : Program} {md : Region.Mode} {ops : Array Oper} {Q : Exit → Act → World → Prop} {S : World → Prop} {t i k fuel : Nat} {listed : Array Bool} {a : Act} {w : World} (hrd : Region.ready md ops listed = [i, k])
    (h1 : wpOp P ops Q i (fun a' w' => (i ≠ t → S w') ∧ wpAnyT P md ops Q S t fuel (listed.setIfInBounds i true) a' w') a w)
    (h2 : wpOp P ops Q k (fun a' w' => (k ≠ t → S w') ∧ wpAnyT P md ops Q S t fuel (listed.setIfInBounds k true) a' w') a w) : wpAnyT P md ops Q S t (fuel + 1) listed a w :=
  wpAnyT_all hrd (by simp) (fun j hj => by
    obtain rfl | rfl : j = i ∨ j = k := by simpa using hj
    · exact h1
    · exact h2)
theorem wpAnyT_cv {P : Program} {md : Region.Mode} {ops : Array Oper} {Q : Exit → Act → World → Prop} {S : World → Prop} {t i k fuel : Nat} {o o2 : Oper} {listed : Array Bool} {a : Act} {w w2 : World} {v2 : Value} (hrd : Region.ready md ops listed = [i, k]) (hi : ops[i]? = some o) (hw : Region.wanted o (yielded ops a.tmps) = true) (f : FuncId) (args : Array Value)
    (hr : (execOp a.eval o).run P w = .ok (.enter f args) w) (hk : ops[k]? = some o2) (hw2 : Region.wanted o2 (yielded ops a.tmps) = true) (hr2 : (execOp a.eval o2).run P w = .ok (.value v2) w2)
    (hc : Calls P f args w fun e w' => ∃ v, e = .returned v ∧ S w' ∧ wpAnyT P md ops Q S t fuel (listed.setIfInBounds i true) (a.put o.dst v) w')
    (hc2 : S w2 ∧ wpAnyT P md ops Q S t fuel (listed.setIfInBounds k true) (a.put o2.dst v2) w2) : wpAnyT P md ops Q S t (fuel + 1) listed a w :=
  wpAnyT_two hrd (wpOp_call hi hw f args hr (hc.mono (by
    rintro e w' ⟨v, rfl, hS, h⟩
    exact ⟨v, rfl, fun _ => hS, h⟩))) (wpOp_val hk hw2 hr2 ⟨fun _ => hc2.1, hc2.2⟩)
/-- what holds while the last region runs -/
structure Wk (w : World) (p1 p4 p6 : Nat) (B x4 : Option Addr) (c4 : Nat) (x6 : Option Addr) (c6 : Nat) (W : World) : Prop where
  a : At W p1 24 (tT.cells B 2)
  l : At W p4 24 (lL.cells x4 c4)
  y : At W p6 24 (tT.cells x6 c6)
  t : Has any_ W 3 tT B
  m : Has any_ W 3 lL x4
  z : Has any_ W 3 tT x6
  b : Below w.heap.size w W
theorem Wk.below {w : World} {p1 p4 p6 : Nat} {B x4 : Option Addr} {c4 : Nat} {x6 : Option Addr} {c6 : Nat} {W W' : World} (h : Wk w p1 p4 p6 B x4 c4 x6 c6 W) (b : Below W.heap.size W W') : Wk w p1 p4 p6 B x4 c4 x6 c6 W' :=
  ⟨h.a.below b h.a.lt, h.l.below b h.l.lt, h.y.below b h.y.lt, h.t.below b, h.m.below b, h.z.below b, h.b.trans (b.mono h.b.size)⟩
theorem run_load_nd {o : Oper} {a : Act} {w : World} (x : Operand) (ho : o.op = .load 24 x) (p : Addr) (hx : a.eval x = .pointer (some p)) (n : Nd) (ao : Option Addr) (cap : Nat) (hc : ∀ j v, (n.cells ao cap)[j]? = some v → w.cell? (p.add j) = some v) :
    (execOp a.eval o).run Tryd.prog w = .ok (.value (n.v ao cap)) w := by
  have hl : (loadCells p 5).run Tryd.prog w = .ok (n.cells ao cap).toArray w := run_loadCells_list (P := Tryd.prog) w p (n.cells ao cap) hc
  have hi : (Tryd.prog.info? 24).map (·.size) = some 5 := info_nd
  cases hq : Tryd.prog.info? 24 with
  | none => simp [hq] at hi
  | some i =>
    have hs : i.size = 5 := by simpa [hq] using hi
    have hagg : (isAgg 24).run Tryd.prog w = .ok true w := by
      unfold isAgg
      rw [Sem.run_bind, run_underlying Tryd.underlying24 w]
      rfl
    unfold execOp
    simp only [ho, hx, Instr.loadAt, Instr.sureAddr, Sem.run_bind, Sem.run_pure, Result.andThen_ok]
    simp [loadVar, Sem.run_bind, hagg, sizeOf, typeInfo, hq, hs, hl, Nd.v]
theorem run_load_at {o : Oper} {a : Act} {w : World} (x : Operand) (ho : o.op = .load 24 x) (b : Nat) (hx : a.eval x = .pointer (some ⟨b, 0, none⟩)) (n : Nd) (ao : Option Addr) (cap : Nat) (hA : At w b 24 (n.cells ao cap)) :
    (execOp a.eval o).run Tryd.prog w = .ok (.value (n.v ao cap)) w := run_load_nd x ho ⟨b, 0, none⟩ hx n ao cap (fun j v hj => by rw [Addr.add0]; exact hA.cell j v hj)
theorem texts_t (a b : Option Addr) (ca cb : Nat) (w : World) (hA : Lst w a [[97], [100], [100, 47, 108]]) (hB : Lst w b [[97], [100], [100, 47, 108]]) :
    Calls Tryd.prog 24 #[.slice a 3 ca, .slice b 3 cb] w fun e w' => e = .returned (.bool true) ∧ Below w.heap.size w w' := texts_any a b [[97], [100], [100, 47, 108]] [[97], [100], [100, 47, 108]] ca cb (by decide) w hA hB
theorem lst_three {w : World} {b : Nat} {x y z : List UInt8} (h : At w b 9 [.string (bs x), .string (bs y), .string (bs z)]) : Lst w (some ⟨b, 0, none⟩) [x, y, z] := fun j t hj => by
  refine ⟨_, rfl, ?_⟩
  rw [Addr.add0]
  match j, hj with
  | 0, hj => cases hj; exact h.cell 0 _ rfl
  | 1, hj => cases hj; exact h.cell 1 _ rfl
  | 2, hj => cases hj; exact h.cell 2 _ rfl
theorem enter_file : ∀ (args : Array Value) (w : World), (callFunc 20 args).run Tryd.prog w = .ok (.enter 20 args) w := enters_of Tryd.func20 (by kernel_rfl) rfl
theorem enter_link : ∀ (args : Array Value) (w : World), (callFunc 23 args).run Tryd.prog w = .ok (.enter 23 args) w := enters_of Tryd.func23 (by kernel_rfl) rfl
theorem enter_dir : ∀ (args : Array Value) (w : World), (callFunc 22 args).run Tryd.prog w = .ok (.enter 22 args) w := enters_of Tryd.func22 (by kernel_rfl) rfl
theorem enter_check : ∀ (args : Array Value) (w : World), (callFunc 13 args).run Tryd.prog w = .ok (.enter 13 args) w := enters_of Tryd.func13 (by kernel_rfl) rfl
theorem enter_deep : ∀ (args : Array Value) (w : World), (callFunc 17 args).run Tryd.prog w = .ok (.enter 17 args) w := enters_of Tryd.func17 (by kernel_rfl) rfl
theorem enter_each : ∀ (args : Array Value) (w : World), (callFunc 14 args).run Tryd.prog w = .ok (.enter 14 args) w := enters_of Tryd.func14 (by kernel_rfl) rfl
theorem enter_same : ∀ (args : Array Value) (w : World), (callFunc 10 args).run Tryd.prog w = .ok (.enter 10 args) w := enters_of Tryd.func10 (by kernel_rfl) rfl
theorem enter_texts : ∀ (args : Array Value) (w : World), (callFunc 24 args).run Tryd.prog w = .ok (.enter 24 args) w := enters_of Tryd.func24 (by kernel_rfl) rfl
set_option maxHeartbeats 40000000 in
theorem works_any (w : World) (hg : Glob w) : Calls Tryd.prog 12 #[] w fun e w' => e = .returned (.bool true) ∧ Below w.heap.size w w' := by
  have HG := Lib.hid hg
  clear hg
  go_enter Tryd.func12, Tryd.ntmps12
  go_wp2_with fail
  refine (file_a w).mono ?_
  rintro e w1 ⟨b1, rfl⟩
  have HB1 := Lib.hid b1
  clear b1
  go_wp2_with fail
  refine (link_l w1).mono ?_
  rintro e w2 ⟨b2, rfl⟩
  have HB2 := Lib.hid (HB1.out.trans (b2.mono HB1.out.size))
  clear b2
  go_wp2_with (with_reducible refine build_nd rfl (.tmp 13) rfl (lL.cells none 0) rfl rfl ?_; intro u hu bu zu; have HU := Lib.hid hu; have HBU := Lib.hid (HB2.out.trans (bu.mono HB2.out.size)); clear hu bu)
  refine (dir_d (some ⟨w2.heap.size, 0, none⟩) 1 u).mono ?_
  rintro e w3 ⟨b3, rfl⟩
  have HU3 := Lib.hid (HU.out.below b3 HU.out.lt)
  have HB3 := Lib.hid (HBU.out.trans (b3.mono HBU.out.size))
  clear b3
  go_wp2_with (with_reducible refine build_nds rfl (.tmp 12) (.tmp 15) rfl (fA.cells none 0) (dD.cells (some ⟨w2.heap.size, 0, none⟩) 1) rfl rfl rfl rfl ?_; intro u4 hu4 bu4 zu4; have HK4 := Lib.hid hu4; have HU4 := Lib.hid (HU3.out.below bu4 HU3.out.lt); have HB4 := Lib.hid (HB3.out.trans (bu4.mono HB3.out.size)); clear hu4 bu4)
  refine (dir_t (some ⟨w3.heap.size, 0, none⟩) 2 u4).mono ?_
  rintro e w5 ⟨b5, rfl⟩
  have HT5 := Lib.hid (has_t (HU4.out.below b5 HU4.out.lt) (HK4.out.below b5 HK4.out.lt))
  have HB5 := Lib.hid (HB4.out.trans (b5.mono HB4.out.size))
  clear b5
  obtain ⟨B, hB⟩ : ∃ B : Option Addr, B = some ⟨w3.heap.size, 0, none⟩ := ⟨_, rfl⟩
  rw [← hB] at HT5 ⊢
  clear hB HU HU3 HU4 HK4 HBU
  go_wp2_with (first
    | (with_reducible refine alloc_any rfl 24 rfl _ zero_nd ?_; intro u6 hu6 bu6 zu6; have HR6 := Lib.hid hu6; have BU6 := Lib.hid bu6; clear hu6 bu6)
    | (refine store_any rfl 24 (.tmp 1) (.tmp 17) rfl w5.heap.size rfl (tT.cells B 2) rfl _ HR6.out rfl info_nd (nd_one tT B 2) ?_; intro u7 hu7 tu7; have A7 := Lib.hid hu7; have BU7 := Lib.hid (tu7.below BU6.out (by simp) (Nat.le_refl _)); clear hu7 tu7; have HB7 := Lib.hid (HB5.out.trans (BU7.out.mono HB5.out.size)); have T7 := Lib.hid (HT5.out.below BU7.out))
    | (refine load_any rfl 24 (.tmp 1) rfl ⟨w5.heap.size, 0, none⟩ rfl (tT.cells B 2) _ (fun j v hj => by rw [Addr.add0]; exact A7.out.cell j v hj) Tryd.underlying24 rfl info_nd ?_))
  refine (size_t B 2 u7 T7.out).mono ?_
  rintro e w8 ⟨rfl, b8⟩
  have A8 := Lib.hid (A7.out.below b8 A7.out.lt)
  have T8 := Lib.hid (T7.out.below b8)
  have HB8 := Lib.hid (HB7.out.trans (b8.mono HB7.out.size))
  clear b8 HR6 BU6 BU7 HT5
  obtain ⟨p1, hp1⟩ : ∃ p1, p1 = w5.heap.size := ⟨_, rfl⟩
  rw [← hp1] at A8 ⊢
  clear hp1
  have G8 := Lib.hid (HG.out.below HB8.out)
  clear A7 T7 HB7 HG HB5 HB4 HB3 HB2 HB1
  go_wp2_with (first | (refine load_any rfl 24 (.tmp 1) rfl ⟨p1, 0, none⟩ rfl (tT.cells B 2) _ (fun j v hj => by rw [Addr.add0]; exact A8.out.cell j v hj) Tryd.underlying24 rfl info_nd ?_))
  refine (find_dl B 2 w8 T8.out G8.out).mono ?_
  rintro e w9 ⟨b9, x4, c4, rfl, hm9⟩
  have A9 := Lib.hid (A8.out.below b9 A8.out.lt)
  have T9 := Lib.hid (T8.out.below b9)
  have G9 := Lib.hid (G8.out.below b9)
  have HB9 := Lib.hid (HB8.out.trans (b9.mono HB8.out.size))
  have M9 := Lib.hid hm9.any
  clear hm9
  clear b9 A8 T8 G8 HB8
  go_wp2_with (first
    | (with_reducible refine alloc_any rfl 24 rfl _ zero_nd ?_; intro u10 hu10 bu10 zu10; have HR10 := Lib.hid hu10; have BU10 := Lib.hid bu10; clear hu10 bu10 zu10)
    | (refine store_any rfl 24 (.tmp 4) (.tmp 26) rfl w9.heap.size rfl (lL.cells x4 c4) rfl _ HR10.out rfl info_nd (nd_one lL x4 c4) ?_; intro w10 hu10 tu10; have L10 := Lib.hid hu10; have BB10 := Lib.hid (tu10.below BU10.out (by simp) (Nat.le_refl _)); clear hu10 tu10; have A10 := Lib.hid (A9.out.below BB10.out A9.out.lt); have T10 := Lib.hid (T9.out.below BB10.out); have G10 := Lib.hid (G9.out.below BB10.out); have M10 := Lib.hid (M9.out.below BB10.out); have HB10 := Lib.hid (HB9.out.trans (BB10.out.mono HB9.out.size)))
    | (refine load_any rfl 24 (.tmp 1) rfl ⟨p1, 0, none⟩ rfl (tT.cells B 2) _ (fun j v hj => by rw [Addr.add0]; exact A10.out.cell j v hj) Tryd.underlying24 rfl info_nd ?_))
  clear BB10 HR10 BU10 A9 T9 G9 M9 HB9
  obtain ⟨p4, hp4⟩ : ∃ p4, p4 = w9.heap.size := ⟨_, rfl⟩
  rw [← hp4] at L10 ⊢
  clear hp4
  refine (find_root B 2 w10 T10.out G10.out).mono ?_
  rintro e w11 ⟨b11, x6, c6, rfl, hm11⟩
  have A11 := Lib.hid (A10.out.below b11 A10.out.lt)
  have T11 := Lib.hid (T10.out.below b11)
  have G11 := Lib.hid (G10.out.below b11)
  have M11 := Lib.hid (M10.out.below b11)
  have L11 := Lib.hid (L10.out.below b11 L10.out.lt)
  have HB11 := Lib.hid (HB10.out.trans (b11.mono HB10.out.size))
  have Z11 := Lib.hid hm11.any
  clear hm11
  clear b11 A10 T10 G10 M10 L10 HB10
  go_wp2_with (first
    | (with_reducible refine alloc_any rfl 24 rfl _ zero_nd ?_; intro u12 hu12 bu12 zu12; have HR12 := Lib.hid hu12; have BU12 := Lib.hid bu12; clear hu12 bu12 zu12)
    | (refine store_any rfl 24 (.tmp 6) (.tmp 31) rfl w11.heap.size rfl (tT.cells x6 c6) rfl _ HR12.out rfl info_nd (nd_one tT x6 c6) ?_; intro w12 hu12 tu12; have Y12 := Lib.hid hu12; have BB12 := Lib.hid (tu12.below BU12.out (by simp) (Nat.le_refl _)); clear hu12 tu12; have A12 := Lib.hid (A11.out.below BB12.out A11.out.lt); have T12 := Lib.hid (T11.out.below BB12.out); have G12 := Lib.hid (G11.out.below BB12.out); have M12 := Lib.hid (M11.out.below BB12.out); have L12 := Lib.hid (L11.out.below BB12.out L11.out.lt); have Z12 := Lib.hid (Z11.out.below BB12.out); have HB12 := Lib.hid (HB11.out.trans (BB12.out.mono HB11.out.size)))
    | (refine load_any rfl 24 (.tmp 1) rfl ⟨p1, 0, none⟩ rfl (tT.cells B 2) _ (fun j v hj => by rw [Addr.add0]; exact A12.out.cell j v hj) Tryd.underlying24 rfl info_nd ?_))
  clear BB12 HR12 BU12 A11 T11 G11 M11 L11 Z11 HB11
  obtain ⟨p6, hp6⟩ : ∃ p6, p6 = w11.heap.size := ⟨_, rfl⟩
  rw [← hp6] at Y12 ⊢
  clear hp6
  refine (find_dx B 2 w12 T12.out G12.out).mono ?_
  rintro e w13 ⟨b13, rfl⟩
  have A13 := Lib.hid (A12.out.below b13 A12.out.lt)
  have T13 := Lib.hid (T12.out.below b13)
  have G13 := Lib.hid (G12.out.below b13)
  have M13 := Lib.hid (M12.out.below b13)
  have L13 := Lib.hid (L12.out.below b13 L12.out.lt)
  have Z13 := Lib.hid (Z12.out.below b13)
  have Y13 := Lib.hid (Y12.out.below b13 Y12.out.lt)
  have HB13 := Lib.hid (HB12.out.trans (b13.mono HB12.out.size))
  clear b13 A12 T12 G12 M12 L12 Z12 Y12 HB12
  go_wp2_with (first
    | (with_reducible refine alloc_any rfl 24 rfl _ zero_nd ?_; intro u14 hu14 bu14 zu14; have HR14 := Lib.hid hu14; have BU14 := Lib.hid bu14; clear hu14 bu14 zu14)
    | (refine store_any rfl 24 (.tmp 8) (.tmp 36) rfl w13.heap.size rfl zeroC rfl _ HR14.out rfl info_nd (nd_one zeroN none 0) ?_; intro w14 hu14 tu14; have O14 := Lib.hid hu14; have BB14 := Lib.hid (tu14.below BU14.out (by simp) (Nat.le_refl _)); clear hu14 tu14; have A14 := Lib.hid (A13.out.below BB14.out A13.out.lt); have T14 := Lib.hid (T13.out.below BB14.out); have G14 := Lib.hid (G13.out.below BB14.out); have M14 := Lib.hid (M13.out.below BB14.out); have L14 := Lib.hid (L13.out.below BB14.out L13.out.lt); have Z14 := Lib.hid (Z13.out.below BB14.out); have Y14 := Lib.hid (Y13.out.below BB14.out Y13.out.lt); have HB14 := Lib.hid (HB13.out.trans (BB14.out.mono HB13.out.size)))
    | (refine load_any rfl 24 (.tmp 1) rfl ⟨p1, 0, none⟩ rfl (tT.cells B 2) _ (fun j v hj => by rw [Addr.add0]; exact A14.out.cell j v hj) Tryd.underlying24 rfl info_nd ?_))
  clear BB14 HR14 BU14 A13 T13 G13 M13 L13 Z13 Y13 HB13 O14
  refine (find_ax B 2 w14 T14.out G14.out).mono ?_
  rintro e w15 ⟨b15, rfl⟩
  have A15 := Lib.hid (A14.out.below b15 A14.out.lt)
  have T15 := Lib.hid (T14.out.below b15)
  have G15 := Lib.hid (G14.out.below b15)
  have M15 := Lib.hid (M14.out.below b15)
  have L15 := Lib.hid (L14.out.below b15 L14.out.lt)
  have Z15 := Lib.hid (Z14.out.below b15)
  have Y15 := Lib.hid (Y14.out.below b15 Y14.out.lt)
  have HB15 := Lib.hid (HB14.out.trans (b15.mono HB14.out.size))
  clear b15 A14 T14 G14 M14 L14 Z14 Y14 HB14
  go_wp2_with (first
    | (with_reducible refine alloc_any rfl 24 rfl _ zero_nd ?_; intro u16 hu16 bu16 zu16; have HR16 := Lib.hid hu16; have BU16 := Lib.hid bu16; clear hu16 bu16 zu16)
    | (refine store_any rfl 24 (.tmp 10) (.tmp 41) rfl w15.heap.size rfl zeroC rfl _ HR16.out rfl info_nd (nd_one zeroN none 0) ?_; intro w16 hu16 tu16; have O16 := Lib.hid hu16; have BB16 := Lib.hid (tu16.below BU16.out (by simp) (Nat.le_refl _)); clear hu16 tu16; have A16 := Lib.hid (A15.out.below BB16.out A15.out.lt); have T16 := Lib.hid (T15.out.below BB16.out); have G16 := Lib.hid (G15.out.below BB16.out); have M16 := Lib.hid (M15.out.below BB16.out); have L16 := Lib.hid (L15.out.below BB16.out L15.out.lt); have Z16 := Lib.hid (Z15.out.below BB16.out); have Y16 := Lib.hid (Y15.out.below BB16.out Y15.out.lt); have HB16 := Lib.hid (HB15.out.trans (BB16.out.mono HB15.out.size)))
    | (refine load_any rfl 24 (.tmp 1) rfl ⟨p1, 0, none⟩ rfl (tT.cells B 2) _ (fun j v hj => by rw [Addr.add0]; exact A16.out.cell j v hj) Tryd.underlying24 rfl info_nd ?_))
  clear BB16 HR16 BU16 A15 T15 G15 M15 L15 Z15 Y15 HB15 O16
  have S0 : Wk w p1 p4 p6 B x4 c4 x6 c6 w16.drew := ⟨A16.out.drew, L16.out.drew, Y16.out.drew, T16.out.drew, M16.out.drew, Z16.out.drew, HB16.out.drew⟩
  clear A16 L16 Y16 T16 M16 Z16 G16 HB16
  refine region_any (Wk w p1 p4 p6 B x4 c4 x6 c6) 60 (by kernel_rfl) ?_
  refine wpAnyT_takeN (i := 0) (v := tT.v B 2) rfl (by decide) (by kernel_rfl) (by kernel_rfl) (by kernel_rfl) (fun _ _ _ h => h) (.inl ⟨by kernel_rfl, fun W hS => run_load_at (.tmp 1) rfl p1 (by kernel_rfl) tT B 2 hS.a⟩) S0 ?_
  refine wpAnyT_call (i := 1) (by kernel_rfl) rfl (by kernel_rfl) 13 #[tT.v B 2] (run_call_func rfl enter_check _ (by kernel_rfl)) ((check_t B 2 w16.drew S0.t).mono ?_)
  rintro e v1 ⟨rfl, bb1⟩
  have S1 := Wk.below S0 bb1
  refine ⟨_, rfl, S1, ?_⟩
  refine wpAnyT_takeN (i := 2) (v := .bool true) rfl (by decide) (by kernel_rfl) (by kernel_rfl) (by kernel_rfl) (fun _ _ _ h => h) (.inl ⟨by kernel_rfl, fun W hS => by kernel_rfl⟩) S1 ?_
  refine wpAnyT_takeN (i := 3) (v := .bool true) rfl (by decide) (by kernel_rfl) (by kernel_rfl) (by kernel_rfl) (fun _ _ _ h => h) (.inl ⟨by kernel_rfl, fun W hS => by kernel_rfl⟩) S1 ?_
  refine wpAnyT_takeN (i := 4) (v := .int .i64 4) rfl (by decide) (by kernel_rfl) (by kernel_rfl) (by kernel_rfl) (fun _ _ _ h => h) (.inl ⟨by kernel_rfl, fun W hS => by kernel_rfl⟩) S1 ?_
  refine wpAnyT_takeN (i := 5) (v := .bool true) rfl (by decide) (by kernel_rfl) (by kernel_rfl) (by kernel_rfl) (fun _ _ _ h => h) (.inl ⟨by kernel_rfl, fun W hS => by kernel_rfl⟩) S1 ?_
  refine wpAnyT_takeN (i := 6) (v := .bool true) rfl (by decide) (by kernel_rfl) (by kernel_rfl) (by kernel_rfl) (fun _ _ _ h => h) (.inl ⟨by kernel_rfl, fun W hS => by kernel_rfl⟩) S1 ?_
  refine wpAnyT_takeN (i := 7) (v := .bool true) rfl (by decide) (by kernel_rfl) (by kernel_rfl) (by kernel_rfl) (fun _ _ _ h => h) (.inl ⟨by kernel_rfl, fun W hS => by kernel_rfl⟩) S1 ?_
  refine wpAnyT_takeN (i := 8) (v := .int .i64 6) rfl (by decide) (by kernel_rfl) (by kernel_rfl) (by kernel_rfl) (fun _ _ _ h => h) (.inl ⟨by kernel_rfl, fun W hS => by kernel_rfl⟩) S1 ?_
  refine wpAnyT_takeN (i := 9) (v := .bool true) rfl (by decide) (by kernel_rfl) (by kernel_rfl) (by kernel_rfl) (fun _ _ _ h => h) (.inl ⟨by kernel_rfl, fun W hS => by kernel_rfl⟩) S1 ?_
  refine wpAnyT_takeN (i := 10) (v := .bool true) rfl (by decide) (by kernel_rfl) (by kernel_rfl) (by kernel_rfl) (fun _ _ _ h => h) (.inl ⟨by kernel_rfl, fun W hS => by kernel_rfl⟩) S1 ?_
  refine wpAnyT_takeN (i := 11) (v := .bool true) rfl (by decide) (by kernel_rfl) (by kernel_rfl) (by kernel_rfl) (fun _ _ _ h => h) (.inl ⟨by kernel_rfl, fun W hS => by kernel_rfl⟩) S1 ?_
  refine wpAnyT_takeN (i := 12) (v := tT.v B 2) rfl (by decide) (by kernel_rfl) (by kernel_rfl) (by kernel_rfl) (fun _ _ _ h => h) (.inl ⟨by kernel_rfl, fun W hS => run_load_at (.tmp 1) rfl p1 (by kernel_rfl) tT B 2 hS.a⟩) S1 ?_
  refine wpAnyT_call (i := 13) (by kernel_rfl) rfl (by kernel_rfl) 17 #[tT.v B 2] (run_call_func rfl enter_deep _ (by kernel_rfl)) ((deep_t B 2 v1 S1.t).mono ?_)
  rintro e v2 ⟨rfl, bb2⟩
  have S2 := Wk.below S1 bb2
  refine ⟨_, rfl, S2, ?_⟩
  refine wpAnyT_takeN (i := 14) (v := .bool true) rfl (by decide) (by kernel_rfl) (by kernel_rfl) (by kernel_rfl) (fun _ _ _ h => h) (.inl ⟨by kernel_rfl, fun W hS => by kernel_rfl⟩) S2 ?_
  refine wpAnyT_takeN (i := 15) (v := .bool true) rfl (by decide) (by kernel_rfl) (by kernel_rfl) (by kernel_rfl) (fun _ _ _ h => h) (.inl ⟨by kernel_rfl, fun W hS => by kernel_rfl⟩) S2 ?_
  refine wpAnyT_takeN (i := 16) (v := .bool true) rfl (by decide) (by kernel_rfl) (by kernel_rfl) (by kernel_rfl) (fun _ _ _ h => h) (.inl ⟨by kernel_rfl, fun W hS => by kernel_rfl⟩) S2 ?_
  refine wpAnyT_takeN (i := 17) (v := tT.v B 2) rfl (by decide) (by kernel_rfl) (by kernel_rfl) (by kernel_rfl) (fun _ _ _ h => h) (.inl ⟨by kernel_rfl, fun W hS => run_load_at (.tmp 1) rfl p1 (by kernel_rfl) tT B 2 hS.a⟩) S2 ?_
  refine wpAnyT_cv (i := 18) (k := 19) (by kernel_rfl) rfl (by kernel_rfl) 14 #[tT.v B 2] (run_call_func rfl enter_each _ (by kernel_rfl)) rfl (by kernel_rfl) (run_texts3_op (.const (.string ⟨#[97]⟩)) (.const (.string ⟨#[100]⟩)) (.const (.string ⟨#[100, 47, 108]⟩)) rfl [97] [100] [100, 47, 108] rfl rfl rfl) ((each_t B 2 v2 S2.t).mono ?_) ?_
  · rintro e v3 ⟨bb3, _, rfl, ao, cap, rfl, hl⟩
    have S3 := Wk.below S2 bb3
    refine ⟨_, rfl, S3, ?_⟩
    refine wpAnyT_val (i := 19) (by kernel_rfl) rfl (by kernel_rfl) (run_texts3_op (.const (.string ⟨#[97]⟩)) (.const (.string ⟨#[100]⟩)) (.const (.string ⟨#[100, 47, 108]⟩)) rfl [97] [100] [100, 47, 108] rfl rfl rfl) ?_
    have bb4 := (Below.refl _ v3).alloc (Nat.le_refl _) (.cells #[.string (bs [97]), .string (bs [100]), .string (bs [100, 47, 108])] 9)
    have S4 := Wk.below S3 bb4
    have ls4 := lst_three (At.new v3 #[.string (bs [97]), .string (bs [100]), .string (bs [100, 47, 108])] 9)
    refine ⟨S4, ?_⟩
    generalize v3.alloc (.cells #[.string (bs [97]), .string (bs [100]), .string (bs [100, 47, 108])] 9) = v4 at *
    refine wpAnyT_call (i := 20) (by kernel_rfl) rfl (by kernel_rfl) 24 #[.slice ao 3 cap, .slice (some ⟨v3.heap.size, 0, none⟩) 3 3] (run_call_func rfl enter_texts _ (by kernel_rfl)) ((texts_t ao (some ⟨v3.heap.size, 0, none⟩) cap 3 v4 (Lst.below hl bb4) ls4).mono ?_)
    rintro e v5 ⟨rfl, bb5⟩
    have S5 := Wk.below S4 bb5
    refine ⟨_, rfl, S5, ?_⟩
    refine wpAnyT_takeN (i := 21) (v := .bool true) rfl (by decide) (by kernel_rfl) (by kernel_rfl) (by kernel_rfl) (fun _ _ _ h => h) (.inl ⟨by kernel_rfl, fun W hS => by kernel_rfl⟩) S5 ?_
    refine wpAnyT_takeN (i := 22) (v := .bool true) rfl (by decide) (by kernel_rfl) (by kernel_rfl) (by kernel_rfl) (fun _ _ _ h => h) (.inl ⟨by kernel_rfl, fun W hS => by kernel_rfl⟩) S5 ?_
    refine wpAnyT_takeN (i := 23) (v := .bool true) rfl (by decide) (by kernel_rfl) (by kernel_rfl) (by kernel_rfl) (fun _ _ _ h => h) (.inl ⟨by kernel_rfl, fun W hS => by kernel_rfl⟩) S5 ?_
    refine wpAnyT_takeN (i := 24) (v := .bool true) rfl (by decide) (by kernel_rfl) (by kernel_rfl) (by kernel_rfl) (fun _ _ _ h => h) (.inl ⟨by kernel_rfl, fun W hS => by kernel_rfl⟩) S5 ?_
    refine wpAnyT_takeN (i := 25) (v := .bool true) rfl (by decide) (by kernel_rfl) (by kernel_rfl) (by kernel_rfl) (fun _ _ _ h => h) (.inl ⟨by kernel_rfl, fun W hS => by kernel_rfl⟩) S5 ?_
    refine wpAnyT_takeN (i := 26) (v := lL.v x4 c4) rfl (by decide) (by kernel_rfl) (by kernel_rfl) (by kernel_rfl) (fun _ _ _ h => h) (.inl ⟨by kernel_rfl, fun W hS => run_load_at (.tmp 4) rfl p4 (by kernel_rfl) lL x4 c4 hS.l⟩) S5 ?_
    refine wpAnyT_call (i := 27) (by kernel_rfl) rfl (by kernel_rfl) 23 #[.string ⟨#[108]⟩, .string ⟨#[46, 46, 47, 97]⟩] (run_call_func rfl enter_link _ (by kernel_rfl)) ((link_l v5).mono ?_)
    rintro e v6 ⟨bb6, rfl⟩
    have S6 := Wk.below S5 bb6
    refine ⟨_, rfl, S6, ?_⟩
    refine wpAnyT_call (i := 28) (by kernel_rfl) rfl (by kernel_rfl) 10 #[lL.v x4 c4, lL.v none 0] (run_call_func rfl enter_same _ (by kernel_rfl)) ((same_l x4 c4 v6 S6.m).mono ?_)
    rintro e v7 ⟨rfl, bb7⟩
    have S7 := Wk.below S6 bb7
    refine ⟨_, rfl, S7, ?_⟩
    refine wpAnyT_takeN (i := 29) (v := .bool true) rfl (by decide) (by kernel_rfl) (by kernel_rfl) (by kernel_rfl) (fun _ _ _ h => h) (.inl ⟨by kernel_rfl, fun W hS => by kernel_rfl⟩) S7 ?_
    refine wpAnyT_takeN (i := 30) (v := .bool true) rfl (by decide) (by kernel_rfl) (by kernel_rfl) (by kernel_rfl) (fun _ _ _ h => h) (.inl ⟨by kernel_rfl, fun W hS => by kernel_rfl⟩) S7 ?_
    refine wpAnyT_takeN (i := 31) (v := .bool true) rfl (by decide) (by kernel_rfl) (by kernel_rfl) (by kernel_rfl) (fun _ _ _ h => h) (.inl ⟨by kernel_rfl, fun W hS => by kernel_rfl⟩) S7 ?_
    refine wpAnyT_takeN (i := 32) (v := .bool true) rfl (by decide) (by kernel_rfl) (by kernel_rfl) (by kernel_rfl) (fun _ _ _ h => h) (.inl ⟨by kernel_rfl, fun W hS => by kernel_rfl⟩) S7 ?_
    refine wpAnyT_takeN (i := 33) (v := .bool true) rfl (by decide) (by kernel_rfl) (by kernel_rfl) (by kernel_rfl) (fun _ _ _ h => h) (.inl ⟨by kernel_rfl, fun W hS => by kernel_rfl⟩) S7 ?_
    refine wpAnyT_takeN (i := 34) (v := tT.v x6 c6) rfl (by decide) (by kernel_rfl) (by kernel_rfl) (by kernel_rfl) (fun _ _ _ h => h) (.inl ⟨by kernel_rfl, fun W hS => run_load_at (.tmp 6) rfl p6 (by kernel_rfl) tT x6 c6 hS.y⟩) S7 ?_
    refine wpAnyT_takeN (i := 35) (v := tT.v B 2) rfl (by decide) (by kernel_rfl) (by kernel_rfl) (by kernel_rfl) (fun _ _ _ h => h) (.inl ⟨by kernel_rfl, fun W hS => run_load_at (.tmp 1) rfl p1 (by kernel_rfl) tT B 2 hS.a⟩) S7 ?_
    refine wpAnyT_call (i := 36) (by kernel_rfl) rfl (by kernel_rfl) 10 #[tT.v x6 c6, tT.v B 2] (run_call_func rfl enter_same _ (by kernel_rfl)) ((same_t x6 B c6 2 v7 S7.z S7.t).mono ?_)
    rintro e v8 ⟨rfl, bb8⟩
    have S8 := Wk.below S7 bb8
    refine ⟨_, rfl, S8, ?_⟩
    refine wpAnyT_takeN (i := 37) (v := .bool true) rfl (by decide) (by kernel_rfl) (by kernel_rfl) (by kernel_rfl) (fun _ _ _ h => h) (.inl ⟨by kernel_rfl, fun W hS => by kernel_rfl⟩) S8 ?_
    refine wpAnyT_takeN (i := 38) (v := .bool true) rfl (by decide) (by kernel_rfl) (by kernel_rfl) (by kernel_rfl) (fun _ _ _ h => h) (.inl ⟨by kernel_rfl, fun W hS => by kernel_rfl⟩) S8 ?_
    refine wpAnyT_takeN (i := 39) (v := .bool false) rfl (by decide) (by kernel_rfl) (by kernel_rfl) (by kernel_rfl) (fun _ _ _ h => h) (.inl ⟨by kernel_rfl, fun W hS => by kernel_rfl⟩) S8 ?_
    refine wpAnyT_takeN (i := 40) (v := .bool true) rfl (by decide) (by kernel_rfl) (by kernel_rfl) (by kernel_rfl) (fun _ _ _ h => h) (.inl ⟨by kernel_rfl, fun W hS => by kernel_rfl⟩) S8 ?_
    refine wpAnyT_takeN (i := 41) (v := .bool true) rfl (by decide) (by kernel_rfl) (by kernel_rfl) (by kernel_rfl) (fun _ _ _ h => h) (.inl ⟨by kernel_rfl, fun W hS => by kernel_rfl⟩) S8 ?_
    refine wpAnyT_takeN (i := 42) (v := .bool true) rfl (by decide) (by kernel_rfl) (by kernel_rfl) (by kernel_rfl) (fun _ _ _ h => h) (.inl ⟨by kernel_rfl, fun W hS => by kernel_rfl⟩) S8 ?_
    refine wpAnyT_takeN (i := 43) (v := .bool false) rfl (by decide) (by kernel_rfl) (by kernel_rfl) (by kernel_rfl) (fun _ _ _ h => h) (.inl ⟨by kernel_rfl, fun W hS => by kernel_rfl⟩) S8 ?_
    refine wpAnyT_takeN (i := 44) (v := .bool true) rfl (by decide) (by kernel_rfl) (by kernel_rfl) (by kernel_rfl) (fun _ _ _ h => h) (.inl ⟨by kernel_rfl, fun W hS => by kernel_rfl⟩) S8 ?_
    refine wpAnyT_takeN (i := 45) (v := .bool true) rfl (by decide) (by kernel_rfl) (by kernel_rfl) (by kernel_rfl) (fun _ _ _ h => h) (.inl ⟨by kernel_rfl, fun W hS => by kernel_rfl⟩) S8 ?_
    refine wpAnyT_takeN (i := 46) (v := .bool true) rfl (by decide) (by kernel_rfl) (by kernel_rfl) (by kernel_rfl) (fun _ _ _ h => h) (.inl ⟨by kernel_rfl, fun W hS => by kernel_rfl⟩) S8 ?_
    refine wpAnyT_call (i := 47) (by kernel_rfl) rfl (by kernel_rfl) 20 #[.string ⟨#[120]⟩, .string ⟨#[]⟩] (run_call_func rfl enter_file _ (by kernel_rfl)) ((file_x v8).mono ?_)
    rintro e v9 ⟨bb9, rfl⟩
    have S9 := Wk.below S8 bb9
    refine ⟨_, rfl, S9, ?_⟩
    refine wpAnyT_call (i := 48) (by kernel_rfl) rfl (by kernel_rfl) 13 #[fX.v none 0] (run_call_func rfl enter_check _ (by kernel_rfl)) ((check_x v9).mono ?_)
    rintro e v10 ⟨rfl, bb10⟩
    have S10 := Wk.below S9 bb10
    refine ⟨_, rfl, S10, ?_⟩
    refine wpAnyT_takeN (i := 49) (v := .bool true) rfl (by decide) (by kernel_rfl) (by kernel_rfl) (by kernel_rfl) (fun _ _ _ h => h) (.inl ⟨by kernel_rfl, fun W hS => by kernel_rfl⟩) S10 ?_
    refine wpAnyT_takeN (i := 50) (v := .bool true) rfl (by decide) (by kernel_rfl) (by kernel_rfl) (by kernel_rfl) (fun _ _ _ h => h) (.inl ⟨by kernel_rfl, fun W hS => by kernel_rfl⟩) S10 ?_
    refine wpAnyT_takeN (i := 51) (v := .bool true) rfl (by decide) (by kernel_rfl) (by kernel_rfl) (by kernel_rfl) (fun _ _ _ h => h) (.inl ⟨by kernel_rfl, fun W hS => by kernel_rfl⟩) S10 ?_
    refine wpAnyT_call (i := 52) (by kernel_rfl) rfl (by kernel_rfl) 20 #[.string ⟨#[98]⟩, .string ⟨#[]⟩] (run_call_func rfl enter_file _ (by kernel_rfl)) ((file_b0 v10).mono ?_)
    rintro e v11 ⟨bb11, rfl⟩
    have S11 := Wk.below S10 bb11
    refine ⟨_, rfl, S11, ?_⟩
    refine wpAnyT_call (i := 53) (by kernel_rfl) rfl (by kernel_rfl) 20 #[.string ⟨#[97]⟩, .string ⟨#[]⟩] (run_call_func rfl enter_file _ (by kernel_rfl)) ((file_a0 v11).mono ?_)
    rintro e v12 ⟨bb12, rfl⟩
    have S12 := Wk.below S11 bb12
    refine ⟨_, rfl, S12, ?_⟩
    refine wpAnyT_val (i := 54) (by kernel_rfl) rfl (by kernel_rfl) (run_build2_op (.tmp 95) (.tmp 96) rfl (fB0.cells none 0) (fA0.cells none 0) (by kernel_rfl) (by kernel_rfl) rfl rfl) ?_
    have bb13 := (Below.refl _ v12).alloc (Nat.le_refl _) (.cells (fB0.cells none 0 ++ fA0.cells none 0).toArray 24)
    have S13 := Wk.below S12 bb13
    have hb13 := has_b (At.new v12 (fB0.cells none 0 ++ fA0.cells none 0).toArray 24)
    refine ⟨S13, ?_⟩
    generalize v12.alloc (.cells (fB0.cells none 0 ++ fA0.cells none 0).toArray 24) = v13 at *
    refine wpAnyT_call (i := 55) (by kernel_rfl) rfl (by kernel_rfl) 22 #[.string ⟨#[]⟩, .slice (some ⟨v12.heap.size, 0, none⟩) 2 2] (run_call_func rfl enter_dir _ (by kernel_rfl)) ((dir_b (some ⟨v12.heap.size, 0, none⟩) 2 v13).mono ?_)
    rintro e v14 ⟨bb14, rfl⟩
    have S14 := Wk.below S13 bb14
    refine ⟨_, rfl, S14, ?_⟩
    refine wpAnyT_call (i := 56) (by kernel_rfl) rfl (by kernel_rfl) 13 #[tB.v (some ⟨v12.heap.size, 0, none⟩) 2] (run_call_func rfl enter_check _ (by kernel_rfl)) ((check_b (some ⟨v12.heap.size, 0, none⟩) 2 v14 (hb13.below bb14)).mono ?_)
    rintro e v15 ⟨rfl, bb15⟩
    have S15 := Wk.below S14 bb15
    refine ⟨_, rfl, S15, ?_⟩
    refine wpAnyT_takeN (i := 57) (v := .bool true) rfl (by decide) (by kernel_rfl) (by kernel_rfl) (by kernel_rfl) (fun _ _ _ h => h) (.inl ⟨by kernel_rfl, fun W hS => by kernel_rfl⟩) S15 ?_
    refine wpAnyT_takeN (i := 58) (v := .bool true) rfl (by decide) (by kernel_rfl) (by kernel_rfl) (by kernel_rfl) (fun _ _ _ h => h) (.inl ⟨by kernel_rfl, fun W hS => by kernel_rfl⟩) S15 ?_
    refine wpAnyT_takeN (i := 59) (v := .bool true) rfl (by decide) (by kernel_rfl) (by kernel_rfl) (by kernel_rfl) (fun _ _ _ h => h) (.inl ⟨by kernel_rfl, fun W hS => by kernel_rfl⟩) S15 ?_
    refine wpAnyT_done (by kernel_rfl) ?_ _
    simp only [Act.put, List.getElem_toArray, List.getElem_cons_succ, List.getElem_cons_zero, List.setIfInBounds_toArray, List.set_cons_zero, List.set_cons_succ]
    have SF := Lib.hid S15.b
    go_wp2
    go_ret
    exact ⟨rfl, SF.out⟩
  · have bb3 := (Below.refl _ v2).alloc (Nat.le_refl _) (.cells #[.string (bs [97]), .string (bs [100]), .string (bs [100, 47, 108])] 9)
    have S3 := Wk.below S2 bb3
    have ls3 := lst_three (At.new v2 #[.string (bs [97]), .string (bs [100]), .string (bs [100, 47, 108])] 9)
    refine ⟨S3, ?_⟩
    generalize v2.alloc (.cells #[.string (bs [97]), .string (bs [100]), .string (bs [100, 47, 108])] 9) = v3 at *
    refine wpAnyT_call (i := 18) (by kernel_rfl) rfl (by kernel_rfl) 14 #[tT.v B 2] (run_call_func rfl enter_each _ (by kernel_rfl)) ((each_t B 2 v3 S3.t).mono ?_)
    rintro e v4 ⟨bb4, _, rfl, ao, cap, rfl, hl⟩
    have S4 := Wk.below S3 bb4
    refine ⟨_, rfl, S4, ?_⟩
    refine wpAnyT_call (i := 20) (by kernel_rfl) rfl (by kernel_rfl) 24 #[.slice ao 3 cap, .slice (some ⟨v2.heap.size, 0, none⟩) 3 3] (run_call_func rfl enter_texts _ (by kernel_rfl)) ((texts_t ao (some ⟨v2.heap.size, 0, none⟩) cap 3 v4 hl (Lst.below ls3 bb4)).mono ?_)
    rintro e v5 ⟨rfl, bb5⟩
    have S5 := Wk.below S4 bb5
    refine ⟨_, rfl, S5, ?_⟩
    refine wpAnyT_takeN (i := 21) (v := .bool true) rfl (by decide) (by kernel_rfl) (by kernel_rfl) (by kernel_rfl) (fun _ _ _ h => h) (.inl ⟨by kernel_rfl, fun W hS => by kernel_rfl⟩) S5 ?_
    refine wpAnyT_takeN (i := 22) (v := .bool true) rfl (by decide) (by kernel_rfl) (by kernel_rfl) (by kernel_rfl) (fun _ _ _ h => h) (.inl ⟨by kernel_rfl, fun W hS => by kernel_rfl⟩) S5 ?_
    refine wpAnyT_takeN (i := 23) (v := .bool true) rfl (by decide) (by kernel_rfl) (by kernel_rfl) (by kernel_rfl) (fun _ _ _ h => h) (.inl ⟨by kernel_rfl, fun W hS => by kernel_rfl⟩) S5 ?_
    refine wpAnyT_takeN (i := 24) (v := .bool true) rfl (by decide) (by kernel_rfl) (by kernel_rfl) (by kernel_rfl) (fun _ _ _ h => h) (.inl ⟨by kernel_rfl, fun W hS => by kernel_rfl⟩) S5 ?_
    refine wpAnyT_takeN (i := 25) (v := .bool true) rfl (by decide) (by kernel_rfl) (by kernel_rfl) (by kernel_rfl) (fun _ _ _ h => h) (.inl ⟨by kernel_rfl, fun W hS => by kernel_rfl⟩) S5 ?_
    refine wpAnyT_takeN (i := 26) (v := lL.v x4 c4) rfl (by decide) (by kernel_rfl) (by kernel_rfl) (by kernel_rfl) (fun _ _ _ h => h) (.inl ⟨by kernel_rfl, fun W hS => run_load_at (.tmp 4) rfl p4 (by kernel_rfl) lL x4 c4 hS.l⟩) S5 ?_
    refine wpAnyT_call (i := 27) (by kernel_rfl) rfl (by kernel_rfl) 23 #[.string ⟨#[108]⟩, .string ⟨#[46, 46, 47, 97]⟩] (run_call_func rfl enter_link _ (by kernel_rfl)) ((link_l v5).mono ?_)
    rintro e v6 ⟨bb6, rfl⟩
    have S6 := Wk.below S5 bb6
    refine ⟨_, rfl, S6, ?_⟩
    refine wpAnyT_call (i := 28) (by kernel_rfl) rfl (by kernel_rfl) 10 #[lL.v x4 c4, lL.v none 0] (run_call_func rfl enter_same _ (by kernel_rfl)) ((same_l x4 c4 v6 S6.m).mono ?_)
    rintro e v7 ⟨rfl, bb7⟩
    have S7 := Wk.below S6 bb7
    refine ⟨_, rfl, S7, ?_⟩
    refine wpAnyT_takeN (i := 29) (v := .bool true) rfl (by decide) (by kernel_rfl) (by kernel_rfl) (by kernel_rfl) (fun _ _ _ h => h) (.inl ⟨by kernel_rfl, fun W hS => by kernel_rfl⟩) S7 ?_
    refine wpAnyT_takeN (i := 30) (v := .bool true) rfl (by decide) (by kernel_rfl) (by kernel_rfl) (by kernel_rfl) (fun _ _ _ h => h) (.inl ⟨by kernel_rfl, fun W hS => by kernel_rfl⟩) S7 ?_
    refine wpAnyT_takeN (i := 31) (v := .bool true) rfl (by decide) (by kernel_rfl) (by kernel_rfl) (by kernel_rfl) (fun _ _ _ h => h) (.inl ⟨by kernel_rfl, fun W hS => by kernel_rfl⟩) S7 ?_
    refine wpAnyT_takeN (i := 32) (v := .bool true) rfl (by decide) (by kernel_rfl) (by kernel_rfl) (by kernel_rfl) (fun _ _ _ h => h) (.inl ⟨by kernel_rfl, fun W hS => by kernel_rfl⟩) S7 ?_
    refine wpAnyT_takeN (i := 33) (v := .bool true) rfl (by decide) (by kernel_rfl) (by kernel_rfl) (by kernel_rfl) (fun _ _ _ h => h) (.inl ⟨by kernel_rfl, fun W hS => by kernel_rfl⟩) S7 ?_
    refine wpAnyT_takeN (i := 34) (v := tT.v x6 c6) rfl (by decide) (by kernel_rfl) (by kernel_rfl) (by kernel_rfl) (fun _ _ _ h => h) (.inl ⟨by kernel_rfl, fun W hS => run_load_at (.tmp 6) rfl p6 (by kernel_rfl) tT x6 c6 hS.y⟩) S7 ?_
    refine wpAnyT_takeN (i := 35) (v := tT.v B 2) rfl (by decide) (by kernel_rfl) (by kernel_rfl) (by kernel_rfl) (fun _ _ _ h => h) (.inl ⟨by kernel_rfl, fun W hS => run_load_at (.tmp 1) rfl p1 (by kernel_rfl) tT B 2 hS.a⟩) S7 ?_
    refine wpAnyT_call (i := 36) (by kernel_rfl) rfl (by kernel_rfl) 10 #[tT.v x6 c6, tT.v B 2] (run_call_func rfl enter_same _ (by kernel_rfl)) ((same_t x6 B c6 2 v7 S7.z S7.t).mono ?_)
    rintro e v8 ⟨rfl, bb8⟩
    have S8 := Wk.below S7 bb8
    refine ⟨_, rfl, S8, ?_⟩
    refine wpAnyT_takeN (i := 37) (v := .bool true) rfl (by decide) (by kernel_rfl) (by kernel_rfl) (by kernel_rfl) (fun _ _ _ h => h) (.inl ⟨by kernel_rfl, fun W hS => by kernel_rfl⟩) S8 ?_
    refine wpAnyT_takeN (i := 38) (v := .bool true) rfl (by decide) (by kernel_rfl) (by kernel_rfl) (by kernel_rfl) (fun _ _ _ h => h) (.inl ⟨by kernel_rfl, fun W hS => by kernel_rfl⟩) S8 ?_
    refine wpAnyT_takeN (i := 39) (v := .bool false) rfl (by decide) (by kernel_rfl) (by kernel_rfl) (by kernel_rfl) (fun _ _ _ h => h) (.inl ⟨by kernel_rfl, fun W hS => by kernel_rfl⟩) S8 ?_
    refine wpAnyT_takeN (i := 40) (v := .bool true) rfl (by decide) (by kernel_rfl) (by kernel_rfl) (by kernel_rfl) (fun _ _ _ h => h) (.inl ⟨by kernel_rfl, fun W hS => by kernel_rfl⟩) S8 ?_
    refine wpAnyT_takeN (i := 41) (v := .bool true) rfl (by decide) (by kernel_rfl) (by kernel_rfl) (by kernel_rfl) (fun _ _ _ h => h) (.inl ⟨by kernel_rfl, fun W hS => by kernel_rfl⟩) S8 ?_
    refine wpAnyT_takeN (i := 42) (v := .bool true) rfl (by decide) (by kernel_rfl) (by kernel_rfl) (by kernel_rfl) (fun _ _ _ h => h) (.inl ⟨by kernel_rfl, fun W hS => by kernel_rfl⟩) S8 ?_
    refine wpAnyT_takeN (i := 43) (v := .bool false) rfl (by decide) (by kernel_rfl) (by kernel_rfl) (by kernel_rfl) (fun _ _ _ h => h) (.inl ⟨by kernel_rfl, fun W hS => by kernel_rfl⟩) S8 ?_
    refine wpAnyT_takeN (i := 44) (v := .bool true) rfl (by decide) (by kernel_rfl) (by kernel_rfl) (by kernel_rfl) (fun _ _ _ h => h) (.inl ⟨by kernel_rfl, fun W hS => by kernel_rfl⟩) S8 ?_
    refine wpAnyT_takeN (i := 45) (v := .bool true) rfl (by decide) (by kernel_rfl) (by kernel_rfl) (by kernel_rfl) (fun _ _ _ h => h) (.inl ⟨by kernel_rfl, fun W hS => by kernel_rfl⟩) S8 ?_
    refine wpAnyT_takeN (i := 46) (v := .bool true) rfl (by decide) (by kernel_rfl) (by kernel_rfl) (by kernel_rfl) (fun _ _ _ h => h) (.inl ⟨by kernel_rfl, fun W hS => by kernel_rfl⟩) S8 ?_
    refine wpAnyT_call (i := 47) (by kernel_rfl) rfl (by kernel_rfl) 20 #[.string ⟨#[120]⟩, .string ⟨#[]⟩] (run_call_func rfl enter_file _ (by kernel_rfl)) ((file_x v8).mono ?_)
    rintro e v9 ⟨bb9, rfl⟩
    have S9 := Wk.below S8 bb9
    refine ⟨_, rfl, S9, ?_⟩
    refine wpAnyT_call (i := 48) (by kernel_rfl) rfl (by kernel_rfl) 13 #[fX.v none 0] (run_call_func rfl enter_check _ (by kernel_rfl)) ((check_x v9).mono ?_)
    rintro e v10 ⟨rfl, bb10⟩
    have S10 := Wk.below S9 bb10
    refine ⟨_, rfl, S10, ?_⟩
    refine wpAnyT_takeN (i := 49) (v := .bool true) rfl (by decide) (by kernel_rfl) (by kernel_rfl) (by kernel_rfl) (fun _ _ _ h => h) (.inl ⟨by kernel_rfl, fun W hS => by kernel_rfl⟩) S10 ?_
    refine wpAnyT_takeN (i := 50) (v := .bool true) rfl (by decide) (by kernel_rfl) (by kernel_rfl) (by kernel_rfl) (fun _ _ _ h => h) (.inl ⟨by kernel_rfl, fun W hS => by kernel_rfl⟩) S10 ?_
    refine wpAnyT_takeN (i := 51) (v := .bool true) rfl (by decide) (by kernel_rfl) (by kernel_rfl) (by kernel_rfl) (fun _ _ _ h => h) (.inl ⟨by kernel_rfl, fun W hS => by kernel_rfl⟩) S10 ?_
    refine wpAnyT_call (i := 52) (by kernel_rfl) rfl (by kernel_rfl) 20 #[.string ⟨#[98]⟩, .string ⟨#[]⟩] (run_call_func rfl enter_file _ (by kernel_rfl)) ((file_b0 v10).mono ?_)
    rintro e v11 ⟨bb11, rfl⟩
    have S11 := Wk.below S10 bb11
    refine ⟨_, rfl, S11, ?_⟩
    refine wpAnyT_call (i := 53) (by kernel_rfl) rfl (by kernel_rfl) 20 #[.string ⟨#[97]⟩, .string ⟨#[]⟩] (run_call_func rfl enter_file _ (by kernel_rfl)) ((file_a0 v11).mono ?_)
    rintro e v12 ⟨bb12, rfl⟩
    have S12 := Wk.below S11 bb12
    refine ⟨_, rfl, S12, ?_⟩
    refine wpAnyT_val (i := 54) (by kernel_rfl) rfl (by kernel_rfl) (run_build2_op (.tmp 95) (.tmp 96) rfl (fB0.cells none 0) (fA0.cells none 0) (by kernel_rfl) (by kernel_rfl) rfl rfl) ?_
    have bb13 := (Below.refl _ v12).alloc (Nat.le_refl _) (.cells (fB0.cells none 0 ++ fA0.cells none 0).toArray 24)
    have S13 := Wk.below S12 bb13
    have hb13 := has_b (At.new v12 (fB0.cells none 0 ++ fA0.cells none 0).toArray 24)
    refine ⟨S13, ?_⟩
    generalize v12.alloc (.cells (fB0.cells none 0 ++ fA0.cells none 0).toArray 24) = v13 at *
    refine wpAnyT_call (i := 55) (by kernel_rfl) rfl (by kernel_rfl) 22 #[.string ⟨#[]⟩, .slice (some ⟨v12.heap.size, 0, none⟩) 2 2] (run_call_func rfl enter_dir _ (by kernel_rfl)) ((dir_b (some ⟨v12.heap.size, 0, none⟩) 2 v13).mono ?_)
    rintro e v14 ⟨bb14, rfl⟩
    have S14 := Wk.below S13 bb14
    refine ⟨_, rfl, S14, ?_⟩
    refine wpAnyT_call (i := 56) (by kernel_rfl) rfl (by kernel_rfl) 13 #[tB.v (some ⟨v12.heap.size, 0, none⟩) 2] (run_call_func rfl enter_check _ (by kernel_rfl)) ((check_b (some ⟨v12.heap.size, 0, none⟩) 2 v14 (hb13.below bb14)).mono ?_)
    rintro e v15 ⟨rfl, bb15⟩
    have S15 := Wk.below S14 bb15
    refine ⟨_, rfl, S15, ?_⟩
    refine wpAnyT_takeN (i := 57) (v := .bool true) rfl (by decide) (by kernel_rfl) (by kernel_rfl) (by kernel_rfl) (fun _ _ _ h => h) (.inl ⟨by kernel_rfl, fun W hS => by kernel_rfl⟩) S15 ?_
    refine wpAnyT_takeN (i := 58) (v := .bool true) rfl (by decide) (by kernel_rfl) (by kernel_rfl) (by kernel_rfl) (fun _ _ _ h => h) (.inl ⟨by kernel_rfl, fun W hS => by kernel_rfl⟩) S15 ?_
    refine wpAnyT_takeN (i := 59) (v := .bool true) rfl (by decide) (by kernel_rfl) (by kernel_rfl) (by kernel_rfl) (fun _ _ _ h => h) (.inl ⟨by kernel_rfl, fun W hS => by kernel_rfl⟩) S15 ?_
    refine wpAnyT_done (by kernel_rfl) ?_ _
    simp only [Act.put, List.getElem_toArray, List.getElem_cons_succ, List.getElem_cons_zero, List.setIfInBounds_toArray, List.set_cons_zero, List.set_cons_succ]
    have SF := Lib.hid S15.b
    go_wp2
    go_ret
    exact ⟨rfl, SF.out⟩
end Go.Proofs.YtfflkpggmhlfpaaDoor
