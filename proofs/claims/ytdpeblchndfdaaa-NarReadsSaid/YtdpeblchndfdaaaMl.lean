/- A reader's directory. -/
import Derived.Test.YtdpeblchndfdaaaMk
namespace Go.Proofs.Ytdpeblchndfdaaa
open Go.RowKit Go.Maps Go.ChangeMaps Go.MapKept
set_option maxRecDepth 100000
/-- nodes of so many levels are read -/
def Reads (k : Nat) : Prop := ∀ (b rb mb lvl : Nat) (l : List UInt8) (w : World), lvl + k = 12 → RAt w b rb mb l lvl → l.length ≤ 1000000 →
  Calls Try.prog 32 #[.pointer (some ⟨b, 0, none⟩)] w fun e w' => NodeEnd w w' b rb mb lvl k (readN k l) e
theorem own_at {w : World} {e : TypeId} {size n cap : Nat} {ao : Option Addr} {xs : List Value} (h : Own w e size ao n cap xs) : ∀ i ∈ blk ao, ∃ l, At w i e l := by
  intro i hi
  rcases h.2 with ⟨hv, _⟩ | ⟨g, c, cur, hv, _, hg, _⟩
  · simp only [Value.slice.injEq] at hv
    rw [hv.1] at hi
    cases hi
  · simp only [Value.slice.injEq] at hv
    rw [hv.1] at hi
    simp only [blk, List.mem_cons, List.not_mem_nil, or_false] at hi
    subst hi
    exact ⟨cur.toList, by unfold At; simpa using hg⟩
theorem Has.named {S : Nat → Prop} {w : World} {k : Nat} {m : Nd} {ao : Option Addr} (t : List UInt8) (h : Has S w k m ao) : Has S w k (m.named t) ao := by
  cases k with
  | zero => exact h
  | succ k => exact h
def dirCells (ao : Option Addr) (n cap : Nat) : List Value := [.string ⟨#[]⟩, .int .i64 2, .bool false, .string ⟨#[]⟩, .slice ao n cap]
theorem dir_one (ao : Option Addr) (n cap : Nat) : ∀ v ∈ dirCells ao n cap, v.oneCell' = true := by
  intro v hv
  simp only [dirCells, List.mem_cons, List.not_mem_nil, or_false] at hv
  rcases hv with rfl | rfl | rfl | rfl | rfl <;> rfl
theorem readK_succ (f : List UInt8 → Option (Nd × List UInt8)) (c : Nat) (l : List UInt8) : readK f (c + 1) l = match Plain.cutT l with | none => none | some (t, r) => match f r with | none => none | some (m, r2) => (readK f c r2).map fun x => (m.named t :: x.1, x.2) := rfl
set_option maxHeartbeats 4000000 in
theorem rdir_any (k : Nat) (ih : Reads k) (b rb mb lvl : Nat) (l : List UInt8) (w : World) (hk : lvl + k = 12) (hA : RAt w b rb mb l lvl) (hl : l.length ≤ 1000000) :
    Calls Try.prog 54 #[.pointer (some ⟨b, 0, none⟩)] w fun e w' => NodeEnd w w' b rb mb lvl (k + 1) (readDir (readN k) l) e := by
  have IH := Lib.hid ih
  have H := Lib.hid hA
  have hlt := hA.lt
  clear ih hA
  cases hc : Plain.cut l with
  | none =>
    have hr : readDir (readN k) l = none := by unfold readDir; simp [hc]
    rw [hr]
    have HC := Lib.hid hc
    clear hr hc
    go_enter Try.func54, Try.ntmps54
    go_wp2_with (first
      | (refine list_val (op := { dst := some 6, op := _, type := _, pos := _, after := _, guard := _ }) rfl (v := .agg (dirCells none 0 0).toArray) (by kernel_rfl) ?_)
      | (refine store_any rfl 24 (.tmp 3) (.tmp 6) rfl (w.heap.size + 1) rfl (dirCells none 0 0) rfl _ HN1.out rfl info_nd (dir_one _ _ _) ?_; intro u3 hu3 tu3; have HN3 := Lib.hid hu3; have BU3 := Lib.hid (tu3.below BU2.out (by simp) (Nat.le_refl _)); clear hu3 tu3)
      | (with_reducible refine alloc_any rfl 24 rfl _ zero_nd ?_; first | (intro u2 hu2 bu2 zu2; rw [zu] at hu2 zu2 ⊢; have HN1 := Lib.hid hu2; have BU2 := Lib.hid (BU.out.trans (bu2.mono (by omega))); clear hu2 bu2) | (intro u hu bu zu; have HU := Lib.hid hu; have BU := Lib.hid bu; clear hu bu)))
    refine (rnum_none b rb mb lvl l u3 (H.out.below BU3.out) hl HC.out).mono ?_
    rintro e w1 ⟨rfl, t1⟩
    have T1 := Lib.hid ((Touch.of_below BU3.out).trans t1)
    clear t1
    go_wp2_with fail
    exact ⟨rfl, T1.out, rfl⟩
  | some x =>
    obtain ⟨c, r0⟩ := x
    have hcb : c < Plain.big := (Plain.cut_back hc).2
    unfold Plain.big at hcb
    have hr0 := cut_lt hc
    obtain ⟨RES, hRES⟩ : ∃ RES, RES = readDir (readN k) l := ⟨_, rfl⟩
    have hR2 : RES = (readK (readN k) c r0).map fun x => (⟨[], 2, false, [], x.1⟩, x.2) := by rw [hRES]; unfold readDir; simp [hc]
    rw [← hRES]
    have HR2 := Lib.hid hR2
    have HC := Lib.hid hc
    clear hR2 hRES hc
    go_enter Try.func54, Try.ntmps54
    go_wp2_with (first
      | (refine list_val (op := { dst := some 6, op := _, type := _, pos := _, after := _, guard := _ }) rfl (v := .agg (dirCells none 0 0).toArray) (by kernel_rfl) ?_)
      | (refine store_any rfl 24 (.tmp 3) (.tmp 6) rfl (w.heap.size + 1) rfl (dirCells none 0 0) rfl _ HN1.out rfl info_nd (dir_one _ _ _) ?_; intro u3 hu3 tu3; have HN3 := Lib.hid hu3; have HU3 := Lib.hid (HU2.out.touch tu3 (by simp)); have z3 := tu3.size; have BU3 := Lib.hid (tu3.below BU2.out (by simp) (Nat.le_refl _)); clear hu3 tu3)
      | (with_reducible refine alloc_any rfl 24 rfl _ zero_nd ?_; first | (intro u2 hu2 bu2 zu2; rw [zu] at hu2 zu2 ⊢; have HN1 := Lib.hid hu2; have HU2 := Lib.hid (HU.out.below bu2 HU.out.lt); have BU2 := Lib.hid (BU.out.trans (bu2.mono (by omega))); clear hu2 bu2) | (intro u hu bu zu; have HU := Lib.hid hu; have BU := Lib.hid bu; clear hu bu)))
    refine (rnum_some b rb mb lvl c l r0 u3 (H.out.below BU3.out) hl HC.out).mono ?_
    rintro e w1 ⟨rfl, h1, t1⟩
    have HU1 := Lib.hid (HU3.out.touch t1 (by simp; omega))
    have HN1' := Lib.hid (HN3.out.touch t1 (by simp; omega))
    have H1 := Lib.hid h1
    have T1 := Lib.hid ((Touch.of_below BU3.out).trans t1)
    have z1 := t1.size
    clear h1 t1 HU HU2 HU3 HN1 HN3 BU BU2 BU3
    have hz1 : w.heap.size + 2 ≤ w1.heap.size := by omega
    clear z1 z3 zu zu2
    go_wp2_with fail
    go_loopw [9] (fun i wx => ∃ (j : Nat) (ps : List Tri) (ao : Option Addr) (cap : Nat) (r : List UInt8), i = .int .u64 j ∧ j ≤ c ∧ ps.length + r.length ≤ l.length ∧ KidsAt (w.heap.size + 2) wx k ps ao cap ∧ At wx (w.heap.size + 1) 24 (dirCells ao ps.length cap) ∧ At wx w.heap.size 24 (dirCells none 0 0 |>.set 1 (.int .i64 0)) ∧ RAt wx b rb mb r lvl ∧ Touch [b, rb] w wx ∧ w.heap.size + 2 ≤ wx.heap.size ∧ RES = ((readK (readN k) (c - j) r).map fun x => (⟨[], 2, false, [], ps.map (·.1) ++ x.1⟩, x.2))) (fun i _ => c - (intOf i).toNat)
    case atStart => exact ⟨0, [], none, 0, r0, rfl, Nat.zero_le _, by simp; omega, KidsAt.nil _ _ _, HN1'.out, HU1.out, H1.out, T1.out, hz1, by rw [HR2.out]; rfl⟩
    clear HU1 HN1' H1 T1 hz1 HR2
    case round =>
      obtain ⟨j, ps, ao, cap, r, rfl, hj, hpl, hK, hN, hZ, hR, hT, hz, hres⟩ := hrel
      have HK := Lib.hid hK
      have HN := Lib.hid hN
      have HZ := Lib.hid hZ
      have HR := Lib.hid hR
      have HT := Lib.hid hT
      have HRES := Lib.hid hres
      clear hK hN hZ hR hT hres
      by_cases hlt' : j < c
      · have hlt2 : (j : Int) < c := by omega
        have hcj : c - j = (c - (j + 1)) + 1 := by omega
        cases ht : Plain.cutT r with
        | none =>
          have hnone : RES = none := by rw [HRES.out, hcj]; unfold readK; simp [ht]
          have HNONE := Lib.hid hnone
          have HCT := Lib.hid ht
          clear hnone ht hcj
          go_wp2_with fail
          refine (rtext_none b rb mb lvl r wr HR.out (by omega) HCT.out).mono ?_
          rintro e w5 ⟨rfl, t5⟩
          have T5 := Lib.hid (HT.out.trans t5)
          clear t5
          go_wp2_with fail
          refine ⟨rfl, T5.out, ?_⟩
          rw [HNONE.out]
        | some y =>
          obtain ⟨t, r1⟩ := y
          have hr1 := cutT_lt ht
          have HCT := Lib.hid ht
          have hstep : readK (readN k) (c - j) r = match readN k r1 with | none => none | some (m, r2) => (readK (readN k) (c - (j + 1)) r2).map fun x => (m.named t :: x.1, x.2) := by rw [hcj, readK_succ, ht]
          have HSTEP := Lib.hid hstep
          clear ht hstep hcj
          go_wp2_with fail
          refine (rtext_some b rb mb lvl r t r1 wr HR.out (by omega) HCT.out).mono ?_
          rintro e w5 ⟨rfl, h5, t5⟩
          have H5 := Lib.hid h5
          have T5 := Lib.hid t5
          have z5 := t5.size
          clear h5 t5
          go_wp2_with fail
          refine (IH.out b rb mb lvl r1 w5 hk H5.out (by omega)).mono ?_
          rintro e w6 ⟨t6, h6⟩
          cases hn : readN k r1 with
          | none =>
            rw [hn] at h6
            obtain rfl := h6
            have hnone : RES = none := by rw [HRES.out, HSTEP.out, hn]; rfl
            have HNONE := Lib.hid hnone
            have T6 := Lib.hid ((HT.out.trans T5.out).trans t6)
            clear hn t6 hnone
            go_wp2_with fail
            refine ⟨rfl, T6.out, ?_⟩
            rw [HNONE.out]
          | some y =>
            obtain ⟨m, r2⟩ := y
            rw [hn] at h6
            obtain ⟨⟨ao6, cap6, rfl, hH6⟩, hR6⟩ := h6
            have hr2 := readN_less k r1 m r2 hn
            have hres2 : RES = ((readK (readN k) (c - (j + 1)) r2).map fun x => (⟨[], 2, false, [], (ps ++ [(m.named t, ao6, cap6)]).map (·.1) ++ x.1⟩, x.2)) := by
              rw [HRES.out, HSTEP.out, hn]
              simp only [Option.map_map]
              congr 1
              funext x
              simp
            have HRES2 := Lib.hid hres2
            have HH6 := Lib.hid hH6
            have HR6 := Lib.hid hR6
            have T6 := Lib.hid (T5.out.trans t6)
            have z6 := t6.size
            have hnb : w.heap.size + 1 ∉ [b, rb] := by simp; omega
            have hnz : w.heap.size ∉ [b, rb] := by simp; omega
            have HN6 := Lib.hid (HN.out.touch T6.out hnb)
            have HZ6 := Lib.hid (HZ.out.touch T6.out hnz)
            have HK6 := Lib.hid (HK.out.touch T6.out (by simp; omega) (fun i hi e => by have := HK.out.new i hi; simp at e; omega))
            have hlo := HK.out.own.lt
            have HLO := Lib.hid hlo
            clear hn t6 hH6 hR6 hres2 hlo HRES HSTEP HR HK HN HZ T5 H5
            obtain ⟨mn, mk, me, md, mks⟩ := m
            have hhk : Has (fun i => w.heap.size + 2 ≤ i ∧ i ∉ blk ao) w6 k ⟨t, mk, me, md, mks⟩ ao6 := (HH6.out.named t).mono (fun i (hi : w5.heap.size ≤ i) _ => ⟨by omega, fun e => by have := HLO.out i e; omega⟩)
            have HHK := Lib.hid hhk
            clear hhk HH6
            go_wp2_with (first
              | (with_reducible refine alloc_any rfl 24 rfl _ zero_nd ?_; intro u7 hu7 bu7 zu7; have HV7 := Lib.hid hu7; have BU7 := Lib.hid bu7; clear hu7 bu7)
              | (refine store_any rfl 24 (.tmp 5) (.tmp 14) rfl w6.heap.size rfl (Nd.cells ⟨mn, mk, me, md, mks⟩ ao6 cap6) rfl _ HV7.out rfl info_nd (nd_one _ _ _) ?_; intro u8 hu8 tu8; have HV8 := Lib.hid hu8; have BU8 := Lib.hid (tu8.below BU7.out (by simp) (Nat.le_refl _)); clear hu8 tu8)
              | (refine store_str_any rfl (.tmp 16) (.tmp 15) rfl w6.heap.size 0 rfl t rfl _ (Nd.cells ⟨t, mk, me, md, mks⟩ ao6 cap6) HV8.out (by simp [Nd.cells]) rfl ?_; intro u9 hu9 tu9; have HV9 := Lib.hid hu9; have BU9 := Lib.hid (tu9.below BU8.out (by simp) (Nat.le_refl _)); have HN9 := Lib.hid (HN6.out.below BU9.out HN6.out.lt); have c4 := HN9.out.cell 4 _ rfl; clear hu9 tu9)
              | (refine load_any rfl 24 (.tmp 5) rfl ⟨w6.heap.size, 0, none⟩ rfl (Nd.cells ⟨t, mk, me, md, mks⟩ ao6 cap6) _ (fun j v hj => by rw [Addr.add0]; exact HV9.out.cell j v hj) Try.underlying24 rfl info_nd ?_)
              | (refine build_nd rfl (.tmp 19) rfl (Nd.cells ⟨t, mk, me, md, mks⟩ ao6 cap6) rfl rfl ?_; intro u10 hu10 bu10 zu10; obtain ⟨ao7, cap7, w11, hrun, K11, T11⟩ := (HK6.out.below BU9.out).append2 (⟨t, mk, me, md, mks⟩, ao6, cap6) (HHK.out.below BU9.out) (by omega) (by have := BU9.out.size; omega) bu10 hu10; have HRUN := Lib.hid hrun; have HK11 := Lib.hid K11; have HT11 := Lib.hid T11; have BU10 := Lib.hid (BU9.out.trans (bu10.mono BU9.out.size)); clear hrun K11 T11 hu10 bu10)
              | (refine list_val rfl (run_append_op (.tmp 18) (.tmp 20) 22 22 rfl (.slice ao ps.length cap) (.slice (some ⟨u9.heap.size, 0, none⟩) 1 1) rfl rfl HRUN.out) ?_; have HN11 := Lib.hid ((HN6.out.below BU10.out HN6.out.lt).touch HT11.out (fun e => by have := HK6.out.new _ e; omega)))
              | (refine store_slice_any rfl (.tmp 22) (.tmp 21) rfl (w.heap.size + 1) 4 rfl ao7 (ps.length + 1) cap7 rfl _ (dirCells ao7 (ps.length + 1) cap7) HN11.out (by simp [dirCells]) rfl ?_; intro u12 hu12 tu12; have HN12 := Lib.hid hu12; have TU12 := Lib.hid tu12; clear hu12 tu12))
            have hK10 := HK6.out.below BU10.out
            have hR11 := (HR6.out.below BU10.out).touch HT11.out (own_at hK10.own)
            have hR12 := hR11.touch TU12.out (by simp; exact ⟨_, HN11.out⟩)
            have hZ12 := ((HZ6.out.below BU10.out HZ6.out.lt).touch HT11.out (fun e => by have := HK6.out.new _ e; omega)).touch TU12.out (by simp)
            have hK12 := HK11.out.touch TU12.out (by simp) (fun i hi e => by have := HK11.out.new i hi; simp at e; omega)
            have hT12 : Touch [b, rb] w u12 := (((HT.out.trans T6.out).trans (Touch.of_below BU10.out)).step HT11.out (fun i hi => .inr (by have := HK6.out.new i hi; omega))).step TU12.out (by simp)
            have hzz : w.heap.size + 2 ≤ u12.heap.size := by have := TU12.out.size; have := HT11.out.size; have := BU10.out.size; omega
            go_roundw
            case rel => exact ⟨j + 1, ps ++ [(⟨t, mk, me, md, mks⟩, ao6, cap6)], ao7, cap7, r2, by go_num, by omega, by simp; omega, hK12, by simpa using HN12.out, hZ12, hR12, hT12, hzz, HRES2.out⟩
            case measure => simp [intOf]; omega
      · obtain rfl : j = c := by omega
        have hfin : RES = some (⟨[], 2, false, [], ps.map (·.1)⟩, r) := by rw [HRES.out, Nat.sub_self]; simp [readK]
        have HFIN := Lib.hid hfin
        clear hfin HRES
        have hlt3 : ¬ (j : Int) < j := by omega
        go_wp2_with (first
          | (refine load_any rfl 24 (.tmp 3) rfl ⟨w.heap.size + 1, 0, none⟩ rfl (dirCells ao ps.length cap) _ (fun j v hj => by rw [Addr.add0]; exact HN.out.cell j v hj) Try.underlying24 rfl info_nd ?_)
          | (refine store_any rfl 24 (.tmp 2) (.tmp 24) rfl w.heap.size rfl (dirCells ao ps.length cap) rfl _ HZ.out rfl info_nd (dir_one _ _ _) ?_; intro u6 hu6 tu6; have HU6 := Lib.hid hu6; have TU6 := Lib.hid tu6; clear hu6 tu6))
        (try simp only [Exit.inBlock, Exit.then])
        have hK6 := HK.out.touch TU6.out (by simp) (fun i hi e => by have := HK.out.new i hi; simp at e; omega)
        refine bodyPost_ret (v := .agg (dirCells ao ps.length cap).toArray) ?_ rfl ⟨HT.out.step TU6.out (by simp), ?_⟩
        · exact results_cell_row (fn := Try.f54) (p := 2) (ty := 24) rfl _ _ w.heap.size 24 _ (0, 0) _ rfl HU6.out Try.underlying24 rfl info_nd
        · rw [HFIN.out]
          refine ⟨⟨ao, cap, ?_, (hK6.node ⟨[], 2, false, [], ps.map (·.1)⟩ rfl).mono (fun i (h : w.heap.size + 2 ≤ i) _ => (by omega : w.heap.size ≤ i))⟩, HR.out.touch TU6.out (by simp; exact ⟨_, HZ.out⟩)⟩
          simp [Nd.v, Nd.cells, Nd.name, Nd.kind, Nd.exec, Nd.data, Nd.kids, dirCells, bs]
end Go.Proofs.Ytdpeblchndfdaaa
