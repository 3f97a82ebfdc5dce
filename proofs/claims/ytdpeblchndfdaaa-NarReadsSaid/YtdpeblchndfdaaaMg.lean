/- short. -/
import Derived.Test.YtdpeblchndfdaaaMf
namespace Go.Proofs.Ytdpeblchndfdaaa
open Go.RowKit
set_option maxRecDepth 100000
/-- at most twenty kids of each, so many levels, data of three hundred bytes -/
def shortL : Nat → Nd → Nd
  | 0, n => ⟨n.name, n.kind, n.exec, n.data.take 300, []⟩
  | l + 1, n => ⟨n.name, n.kind, n.exec, n.data.take 300, (n.kids.take 20).map (shortL l)⟩
set_option maxHeartbeats 8000000 in
theorem short_any : ∀ (l h : Nat) (n : Nd) (ao : Option Addr) (cap : Nat) (w : World), l ≤ 100 → Has any_ w h n ao →
    Calls Try.prog 9 #[n.v ao cap, .int .i64 (l : Int)] w fun e w' => Below w.heap.size w w' ∧ Made w w' (l + 1) (shortL l n) e := by
  intro l
  induction l with
  | zero =>
    intro h n ao cap w hl hH
    cases h with
    | zero => exact hH.elim
    | succ h =>
    cases n with
    | mk nm kd ex dt ks =>
    have hkl := hH.1
    unfold maxLen at hkl
    change ks.length ≤ _ at hkl
    have HKS := Lib.hid hH.2
    clear hH
    have e2 : (if (300 : Int) < (dt.length : Int) then (300 : Int) else (dt.length : Int)) = ((min dt.length 300 : Nat) : Int) := by split <;> omega
    have t2 : dt.take (min dt.length 300) = dt.take 300 := by rw [List.take_eq_take_iff]; omega
    have E2 := Lib.hid e2
    have T2 := Lib.hid t2
    clear e2 t2
    go_enter Try.func9, Try.ntmps9
    go_wp2_with (first
      | (with_reducible refine box_any rfl 24 (.tmp 0) rfl [.string (bs nm), .int .i64 kd, .bool ex, .string (bs dt), .slice ao ks.length cap] rfl ?_; intro u hu bu zu; have c00 := hu.cell 3 _ rfl; have HU := Lib.hid hu; have BU := Lib.hid bu; clear hu bu)
      | (with_reducible refine alloc_any rfl 24 rfl _ zero_nd ?_; intro u2 hr2 bu2 zu2; rw [zu] at hr2; have HR := Lib.hid hr2; have HU2 := Lib.hid (HU.out.below bu2 HU.out.lt); have BU2 := Lib.hid (BU.out.trans (bu2.mono (by omega))); have c00 := HU2.out.cell 3 _ rfl; clear bu2 hr2)
      | (with_reducible refine list_val rfl (run_min_op (.tmp 11) (.const (.int .i64 300)) rfl (dt.length : Int) 300 _ rfl rfl E2.out) ?_)
      | (with_reducible refine list_val rfl (run_hi_op (.tmp 8) (.tmp 12) rfl dt (min dt.length 300) (by omega) rfl rfl) ?_; rw [T2.out])
      | (refine store_str_any rfl (.tmp 14) (.tmp 13) rfl w.heap.size 3 rfl (dt.take 300) rfl _ [.string (bs (nm)), .int .i64 kd, .bool ex, .string (bs (dt.take 300)), .slice ao ks.length cap] HU2.out (by simp) rfl ?_; intro u4 hu4 tu4; have HU4 := Lib.hid hu4; have HR4 := Lib.hid (HR.out.touch tu4 (by simp)); have BU4 := Lib.hid (Touch.below BU2.out tu4 (by simp) (Nat.le_refl _)); have z4 := tu4.size; clear hu4 tu4))
    go_loopw [5, 6] (fun o i wx => ∃ (ps : List Tri) (ao' : Option Addr) (cap' : Nat), o = .slice ao' ps.length cap' ∧ i = .int .i64 ps.length ∧ ps.length ≤ 20 ∧ ps.length ≤ ks.length ∧ ps.map (·.1) = [] ∧ KidsAt (w.heap.size + 2) wx 0 ps ao' cap' ∧ At wx w.heap.size 24 [.string (bs (nm)), .int .i64 kd, .bool ex, .string (bs (dt.take 300)), .slice ao ks.length cap] ∧ At wx (w.heap.size + 1) 24 [Value.string ⟨#[]⟩, .int .i64 0, .bool false, .string ⟨#[]⟩, .slice none 0 0] ∧ Below w.heap.size w wx ∧ w.heap.size + 2 ≤ wx.heap.size) (fun _ i _ => 20 - (intOf i).toNat)
    case atStart => exact ⟨[], none, 0, rfl, rfl, by simp, by simp, rfl, KidsAt.nil _ _ _, HU4.out, HR4.out, BU4.out, by omega⟩
    clear HU HU2 HU4 HR HR4 BU BU2 BU4 c00
    case round =>
      obtain ⟨ps, ao', cap', rfl, rfl, hp6, hpk, hpm, hK, hA, hZ, hB, hz⟩ := hrel
      have c4 := hA.cell 4 _ rfl
      have HPM := Lib.hid hpm
      have HK := Lib.hid hK
      have HA := Lib.hid hA
      have HZ := Lib.hid hZ
      have HB := Lib.hid hB
      clear hpm hK hA hZ hB
      have hp0 : ps = [] := List.map_eq_nil_iff.mp HPM.out
      subst hp0
      by_cases hq : 0 < ks.length
      · have hq' : (0 : Int) < ks.length := by omega
        go_wp2_with (first
          | (refine store_slice_any rfl (.tmp 42) (.tmp 41) rfl w.heap.size 4 rfl ao' 0 cap' rfl _ [.string (bs (nm)), .int .i64 kd, .bool ex, .string (bs (dt.take 300)), .slice ao' 0 cap'] HA.out (by simp) rfl ?_; intro u5 hu5 tu5; have HU5 := Lib.hid hu5; have HR5 := Lib.hid (HZ.out.touch tu5 (by simp)); have HT5 := Lib.hid tu5; clear hu5 tu5)
          | (refine load_any rfl 24 (.tmp 2) rfl ⟨w.heap.size, 0, none⟩ rfl [.string (bs (nm)), .int .i64 kd, .bool ex, .string (bs (dt.take 300)), .slice ao' 0 cap'] _ (fun j v hj => by rw [Addr.add0]; exact HU5.out.cell j v hj) Try.underlying24 rfl info_nd ?_)
          | (refine store_any rfl 24 (.tmp 4) (.tmp 43) rfl (w.heap.size + 1) rfl [.string (bs (nm)), .int .i64 kd, .bool ex, .string (bs (dt.take 300)), .slice ao' 0 cap'] rfl _ HR5.out rfl info_nd (nd_one ⟨nm, kd, ex, dt.take 300, []⟩ ao' cap' |> fun h => by simpa [Nd.cells, Nd.name, Nd.kind, Nd.exec, Nd.data, Nd.kids] using h) ?_; intro u6 hu6 tu6; have HU6 := Lib.hid hu6; have HT6 := Lib.hid tu6; clear hu6 tu6))
        (try simp only [Exit.inBlock, Exit.then])
        have hend : shortL 0 ⟨nm, kd, ex, dt, ks⟩ = ⟨nm, kd, ex, dt.take 300, []⟩ := by rfl
        have hT : Touch [w.heap.size, w.heap.size + 1] wr u6 := (HT5.out.mono (by simp)).trans (HT6.out.mono (by simp))
        have K6 : KidsAt (w.heap.size + 2) u6 (0) [] ao' cap' := HK.out.touch hT (by simp) (fun i hi e => by have := HK.out.new i hi; simp at e; omega)
        refine bodyPost_ret (v := .agg [.string (bs (nm)), .int .i64 kd, .bool ex, .string (bs (dt.take 300)), .slice ao' 0 cap'].toArray) ?_ rfl ⟨hT.below HB.out (by simp) (Nat.le_refl _), ⟨ao', cap', ?_, ?_⟩⟩
        · exact results_cell_row (fn := Try.f9) (p := 4) (ty := 24) rfl _ _ (w.heap.size + 1) 24 _ (0, 0) _ rfl HU6.out Try.underlying24 rfl info_nd
        · rw [hend]; simp [Nd.v, Nd.cells, Nd.name, Nd.kind, Nd.exec, Nd.data, Nd.kids]
        · rw [hend]; exact Has.mono (S' := fun i => w.heap.size ≤ i) (K6.node ⟨nm, kd, ex, dt.take 300, []⟩ rfl) (fun i (h : w.heap.size + 2 ≤ i) _ => (by omega : w.heap.size ≤ i))
      · have hq' : ¬ (0 : Int) < ks.length := by omega
        go_wp2_with (first
          | (refine store_slice_any rfl (.tmp 42) (.tmp 41) rfl w.heap.size 4 rfl ao' 0 cap' rfl _ [.string (bs (nm)), .int .i64 kd, .bool ex, .string (bs (dt.take 300)), .slice ao' 0 cap'] HA.out (by simp) rfl ?_; intro u5 hu5 tu5; have HU5 := Lib.hid hu5; have HR5 := Lib.hid (HZ.out.touch tu5 (by simp)); have HT5 := Lib.hid tu5; clear hu5 tu5)
          | (refine load_any rfl 24 (.tmp 2) rfl ⟨w.heap.size, 0, none⟩ rfl [.string (bs (nm)), .int .i64 kd, .bool ex, .string (bs (dt.take 300)), .slice ao' 0 cap'] _ (fun j v hj => by rw [Addr.add0]; exact HU5.out.cell j v hj) Try.underlying24 rfl info_nd ?_)
          | (refine store_any rfl 24 (.tmp 4) (.tmp 43) rfl (w.heap.size + 1) rfl [.string (bs (nm)), .int .i64 kd, .bool ex, .string (bs (dt.take 300)), .slice ao' 0 cap'] rfl _ HR5.out rfl info_nd (nd_one ⟨nm, kd, ex, dt.take 300, []⟩ ao' cap' |> fun h => by simpa [Nd.cells, Nd.name, Nd.kind, Nd.exec, Nd.data, Nd.kids] using h) ?_; intro u6 hu6 tu6; have HU6 := Lib.hid hu6; have HT6 := Lib.hid tu6; clear hu6 tu6))
        (try simp only [Exit.inBlock, Exit.then])
        have hend : shortL 0 ⟨nm, kd, ex, dt, ks⟩ = ⟨nm, kd, ex, dt.take 300, []⟩ := by rfl
        have hT : Touch [w.heap.size, w.heap.size + 1] wr u6 := (HT5.out.mono (by simp)).trans (HT6.out.mono (by simp))
        have K6 : KidsAt (w.heap.size + 2) u6 (0) [] ao' cap' := HK.out.touch hT (by simp) (fun i hi e => by have := HK.out.new i hi; simp at e; omega)
        refine bodyPost_ret (v := .agg [.string (bs (nm)), .int .i64 kd, .bool ex, .string (bs (dt.take 300)), .slice ao' 0 cap'].toArray) ?_ rfl ⟨hT.below HB.out (by simp) (Nat.le_refl _), ⟨ao', cap', ?_, ?_⟩⟩
        · exact results_cell_row (fn := Try.f9) (p := 4) (ty := 24) rfl _ _ (w.heap.size + 1) 24 _ (0, 0) _ rfl HU6.out Try.underlying24 rfl info_nd
        · rw [hend]; simp [Nd.v, Nd.cells, Nd.name, Nd.kind, Nd.exec, Nd.data, Nd.kids]
        · rw [hend]; exact Has.mono (S' := fun i => w.heap.size ≤ i) (K6.node ⟨nm, kd, ex, dt.take 300, []⟩ rfl) (fun i (h : w.heap.size + 2 ≤ i) _ => (by omega : w.heap.size ≤ i))
  | succ l ih =>
    intro h n ao cap w hl hH
    cases h with
    | zero => exact hH.elim
    | succ h =>
    cases n with
    | mk nm kd ex dt ks =>
    have IH := Lib.hid ih
    have hkl := hH.1
    unfold maxLen at hkl
    change ks.length ≤ _ at hkl
    have HKS := Lib.hid hH.2
    clear ih hH
    have e2 : (if (300 : Int) < (dt.length : Int) then (300 : Int) else (dt.length : Int)) = ((min dt.length 300 : Nat) : Int) := by split <;> omega
    have t2 : dt.take (min dt.length 300) = dt.take 300 := by rw [List.take_eq_take_iff]; omega
    have E2 := Lib.hid e2
    have T2 := Lib.hid t2
    clear e2 t2
    go_enter Try.func9, Try.ntmps9
    go_wp2_with (first
      | (with_reducible refine box_any rfl 24 (.tmp 0) rfl [.string (bs nm), .int .i64 kd, .bool ex, .string (bs dt), .slice ao ks.length cap] rfl ?_; intro u hu bu zu; have c00 := hu.cell 3 _ rfl; have HU := Lib.hid hu; have BU := Lib.hid bu; clear hu bu)
      | (with_reducible refine alloc_any rfl 24 rfl _ zero_nd ?_; intro u2 hr2 bu2 zu2; rw [zu] at hr2; have HR := Lib.hid hr2; have HU2 := Lib.hid (HU.out.below bu2 HU.out.lt); have BU2 := Lib.hid (BU.out.trans (bu2.mono (by omega))); have c00 := HU2.out.cell 3 _ rfl; clear bu2 hr2)
      | (with_reducible refine list_val rfl (run_min_op (.tmp 11) (.const (.int .i64 300)) rfl (dt.length : Int) 300 _ rfl rfl E2.out) ?_)
      | (with_reducible refine list_val rfl (run_hi_op (.tmp 8) (.tmp 12) rfl dt (min dt.length 300) (by omega) rfl rfl) ?_; rw [T2.out])
      | (refine store_str_any rfl (.tmp 14) (.tmp 13) rfl w.heap.size 3 rfl (dt.take 300) rfl _ [.string (bs (nm)), .int .i64 kd, .bool ex, .string (bs (dt.take 300)), .slice ao ks.length cap] HU2.out (by simp) rfl ?_; intro u4 hu4 tu4; have HU4 := Lib.hid hu4; have HR4 := Lib.hid (HR.out.touch tu4 (by simp)); have BU4 := Lib.hid (Touch.below BU2.out tu4 (by simp) (Nat.le_refl _)); have z4 := tu4.size; clear hu4 tu4))
    go_loopw [5, 6] (fun o i wx => ∃ (ps : List Tri) (ao' : Option Addr) (cap' : Nat), o = .slice ao' ps.length cap' ∧ i = .int .i64 ps.length ∧ ps.length ≤ 20 ∧ ps.length ≤ ks.length ∧ ps.map (·.1) = (ks.take ps.length).map (shortL l) ∧ KidsAt (w.heap.size + 2) wx (l + 1) ps ao' cap' ∧ At wx w.heap.size 24 [.string (bs (nm)), .int .i64 kd, .bool ex, .string (bs (dt.take 300)), .slice ao ks.length cap] ∧ At wx (w.heap.size + 1) 24 [Value.string ⟨#[]⟩, .int .i64 0, .bool false, .string ⟨#[]⟩, .slice none 0 0] ∧ Below w.heap.size w wx ∧ w.heap.size + 2 ≤ wx.heap.size) (fun _ i _ => 20 - (intOf i).toNat)
    case atStart => exact ⟨[], none, 0, rfl, rfl, by simp, by simp, by simp, KidsAt.nil _ _ _, HU4.out, HR4.out, BU4.out, by omega⟩
    clear HU HU2 HU4 HR HR4 BU BU2 BU4 c00
    case round =>
      obtain ⟨ps, ao', cap', rfl, rfl, hp6, hpk, hpm, hK, hA, hZ, hB, hz⟩ := hrel
      have c4 := hA.cell 4 _ rfl
      have HPM := Lib.hid hpm
      have HK := Lib.hid hK
      have HA := Lib.hid hA
      have HZ := Lib.hid hZ
      have HB := Lib.hid hB
      clear hpm hK hA hZ hB
      by_cases hq : ps.length < ks.length
      · have hq' : (ps.length : Int) < ks.length := by omega
        by_cases h6 : ps.length < 20
        · have h6' : (ps.length : Int) < 20 := by omega
          obtain ⟨m, hm⟩ : ∃ m, ks[ps.length]? = some m := ⟨_, List.getElem?_eq_getElem hq⟩
          obtain ⟨x, g, c, rfl, _, hKi, hM⟩ := HKS.out ps.length m hm
          have HKi := Lib.hid (hKi.kept (HB.out.block x.block hKi.lt))
          have HM := Lib.hid (hM.below HB.out)
          have HMM := Lib.hid hm
          clear hKi hM hm
          go_wp2_with (first | (refine load_any rfl 24 (.tmp 34) rfl (x.add (ps.length * 5)) rfl (m.cells g c) _ (fun j v hj => HKi.out j v hj) Try.underlying24 rfl info_nd ?_))
          refine (IH.out h m g c wr (by omega) HM.out).mono ?_
          rintro e w5 ⟨b5, ao5, cap5, rfl, h5⟩
          have H5 := Lib.hid h5
          have B5 := Lib.hid b5
          clear h5 b5
          obtain ⟨m', hm'⟩ : ∃ m', m' = shortL l m := ⟨_, rfl⟩
          rw [← hm'] at H5 ⊢
          have HM' := Lib.hid hm'
          clear hm'
          go_wp2_with (first
            | (refine build_nd rfl (.tmp 38) rfl (m'.cells ao5 cap5) rfl rfl ?_; intro u6 hu6 bu6 zu6; obtain ⟨ao7, cap7, w7, hrun, K7, T7⟩ := HK.out.append B5.out (by omega) (m', ao5, cap5) H5.out (by omega) bu6 hu6; have HRUN := Lib.hid hrun; have HK7 := Lib.hid K7; have HT7 := Lib.hid T7; have HB6 := Lib.hid bu6; clear hrun K7 T7 hu6 bu6)
            | (refine list_val rfl (run_append_op (.tmp 30) (.tmp 39) 22 22 rfl (.slice ao' ps.length cap') (.slice (some ⟨w5.heap.size, 0, none⟩) 1 1) rfl rfl HRUN.out) ?_))
          have hT : Touch (blk ao') wr w7 := (Touch.of_below (B5.out.trans (HB6.out.mono B5.out.size))).trans HT7.out
          have hA7 := HA.out.touch hT (fun e => by have := HK.out.new _ e; omega)
          have hZ7 := HZ.out.touch hT (fun e => by have := HK.out.new _ e; omega)
          have hB7 := hT.below HB.out (fun i hi => by have := HK.out.new i hi; omega) (Nat.le_refl _)
          go_roundw
          case rel => exact ⟨ps ++ [(m', ao5, cap5)], ao7, cap7, by simp, by simp, by simp; omega, by simp; omega, by rw [List.map_append, HPM.out, List.length_append, List.length_singleton, List.take_add_one, HMM.out, Option.toList_some, List.map_append, HM'.out]; rfl, HK7.out, hA7, hZ7, hB7, by have := hT.size; omega⟩
          case measure => simp [intOf]; omega
        · have h6' : ¬ (ps.length : Int) < 20 := by omega
          have hps : ps.map (·.1) = (ks.take 20).map (shortL l) := by rw [HPM.out, show ps.length = 20 by omega]
          go_wp2_with (first
            | (refine store_slice_any rfl (.tmp 42) (.tmp 41) rfl w.heap.size 4 rfl ao' ps.length cap' rfl _ [.string (bs (nm)), .int .i64 kd, .bool ex, .string (bs (dt.take 300)), .slice ao' ps.length cap'] HA.out (by simp) rfl ?_; intro u5 hu5 tu5; have HU5 := Lib.hid hu5; have HR5 := Lib.hid (HZ.out.touch tu5 (by simp)); have HT5 := Lib.hid tu5; clear hu5 tu5)
            | (refine load_any rfl 24 (.tmp 2) rfl ⟨w.heap.size, 0, none⟩ rfl [.string (bs (nm)), .int .i64 kd, .bool ex, .string (bs (dt.take 300)), .slice ao' ps.length cap'] _ (fun j v hj => by rw [Addr.add0]; exact HU5.out.cell j v hj) Try.underlying24 rfl info_nd ?_)
            | (refine store_any rfl 24 (.tmp 4) (.tmp 43) rfl (w.heap.size + 1) rfl [.string (bs (nm)), .int .i64 kd, .bool ex, .string (bs (dt.take 300)), .slice ao' ps.length cap'] rfl _ HR5.out rfl info_nd (nd_one ⟨nm, kd, ex, dt.take 300, ps.map (·.1)⟩ ao' cap' |> fun h => by simpa [Nd.cells, Nd.name, Nd.kind, Nd.exec, Nd.data, Nd.kids] using h) ?_; intro u6 hu6 tu6; have HU6 := Lib.hid hu6; have HT6 := Lib.hid tu6; clear hu6 tu6))
          (try simp only [Exit.inBlock, Exit.then])
          have hend : shortL (l + 1) ⟨nm, kd, ex, dt, ks⟩ = ⟨nm, kd, ex, dt.take 300, ps.map (·.1)⟩ := by rw [hps]; rfl
          have hT : Touch [w.heap.size, w.heap.size + 1] wr u6 := (HT5.out.mono (by simp)).trans (HT6.out.mono (by simp))
          have K6 : KidsAt (w.heap.size + 2) u6 ((l + 1)) ps ao' cap' := HK.out.touch hT (by simp) (fun i hi e => by have := HK.out.new i hi; simp at e; omega)
          refine bodyPost_ret (v := .agg [.string (bs (nm)), .int .i64 kd, .bool ex, .string (bs (dt.take 300)), .slice ao' ps.length cap'].toArray) ?_ rfl ⟨hT.below HB.out (by simp) (Nat.le_refl _), ⟨ao', cap', ?_, ?_⟩⟩
          · exact results_cell_row (fn := Try.f9) (p := 4) (ty := 24) rfl _ _ (w.heap.size + 1) 24 _ (0, 0) _ rfl HU6.out Try.underlying24 rfl info_nd
          · rw [hend]; simp [Nd.v, Nd.cells, Nd.name, Nd.kind, Nd.exec, Nd.data, Nd.kids]
          · rw [hend]; exact Has.mono (S' := fun i => w.heap.size ≤ i) (K6.node ⟨nm, kd, ex, dt.take 300, ps.map (·.1)⟩ rfl) (fun i (h : w.heap.size + 2 ≤ i) _ => (by omega : w.heap.size ≤ i))
      · have hq' : ¬ (ps.length : Int) < ks.length := by omega
        have hps : ps.map (·.1) = (ks.take 20).map (shortL l) := by rw [HPM.out, List.take_of_length_le (by omega), List.take_of_length_le (by omega)]
        go_wp2_with (first
          | (refine store_slice_any rfl (.tmp 42) (.tmp 41) rfl w.heap.size 4 rfl ao' ps.length cap' rfl _ [.string (bs (nm)), .int .i64 kd, .bool ex, .string (bs (dt.take 300)), .slice ao' ps.length cap'] HA.out (by simp) rfl ?_; intro u5 hu5 tu5; have HU5 := Lib.hid hu5; have HR5 := Lib.hid (HZ.out.touch tu5 (by simp)); have HT5 := Lib.hid tu5; clear hu5 tu5)
          | (refine load_any rfl 24 (.tmp 2) rfl ⟨w.heap.size, 0, none⟩ rfl [.string (bs (nm)), .int .i64 kd, .bool ex, .string (bs (dt.take 300)), .slice ao' ps.length cap'] _ (fun j v hj => by rw [Addr.add0]; exact HU5.out.cell j v hj) Try.underlying24 rfl info_nd ?_)
          | (refine store_any rfl 24 (.tmp 4) (.tmp 43) rfl (w.heap.size + 1) rfl [.string (bs (nm)), .int .i64 kd, .bool ex, .string (bs (dt.take 300)), .slice ao' ps.length cap'] rfl _ HR5.out rfl info_nd (nd_one ⟨nm, kd, ex, dt.take 300, ps.map (·.1)⟩ ao' cap' |> fun h => by simpa [Nd.cells, Nd.name, Nd.kind, Nd.exec, Nd.data, Nd.kids] using h) ?_; intro u6 hu6 tu6; have HU6 := Lib.hid hu6; have HT6 := Lib.hid tu6; clear hu6 tu6))
        (try simp only [Exit.inBlock, Exit.then])
        have hend : shortL (l + 1) ⟨nm, kd, ex, dt, ks⟩ = ⟨nm, kd, ex, dt.take 300, ps.map (·.1)⟩ := by rw [hps]; rfl
        have hT : Touch [w.heap.size, w.heap.size + 1] wr u6 := (HT5.out.mono (by simp)).trans (HT6.out.mono (by simp))
        have K6 : KidsAt (w.heap.size + 2) u6 ((l + 1)) ps ao' cap' := HK.out.touch hT (by simp) (fun i hi e => by have := HK.out.new i hi; simp at e; omega)
        refine bodyPost_ret (v := .agg [.string (bs (nm)), .int .i64 kd, .bool ex, .string (bs (dt.take 300)), .slice ao' ps.length cap'].toArray) ?_ rfl ⟨hT.below HB.out (by simp) (Nat.le_refl _), ⟨ao', cap', ?_, ?_⟩⟩
        · exact results_cell_row (fn := Try.f9) (p := 4) (ty := 24) rfl _ _ (w.heap.size + 1) 24 _ (0, 0) _ rfl HU6.out Try.underlying24 rfl info_nd
        · rw [hend]; simp [Nd.v, Nd.cells, Nd.name, Nd.kind, Nd.exec, Nd.data, Nd.kids]
        · rw [hend]; exact Has.mono (S' := fun i => w.heap.size ≤ i) (K6.node ⟨nm, kd, ex, dt.take 300, ps.map (·.1)⟩ rfl) (fun i (h : w.heap.size + 2 ≤ i) _ => (by omega : w.heap.size ≤ i))
end Go.Proofs.Ytdpeblchndfdaaa
