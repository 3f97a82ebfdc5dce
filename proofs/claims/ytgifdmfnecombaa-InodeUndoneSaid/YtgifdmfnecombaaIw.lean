/- add, of a directory. -/
import Derived.Test.YtgifdmfnecombaaIv
namespace Go.Proofs.Ytgifdmfnecombaa
open Go.RowKit
set_option maxRecDepth 100000
set_option maxHeartbeats 4000000 in
theorem add_dir (base : Nat) (w : World) (tb : Nat) (T : Tab) (p : Place) (h : TabAt base w tb T p) (hbase : base ≤ w.heap.size) (m : Int) (d : List UInt8) (l : Int) (hlast : T.last ≤ 1000000000000) (hb : T.bytes ≤ 1000000000000) (hd : d.length ≤ 1000000000000) (hf : T.f ((T.last : Int) + 1) = none) (hn : p.n < maxLen) :
    Calls Try.prog 23 #[tabV tb, .agg (toldV (some (fresh 2 m d l))).toArray] w fun e w' => e = .returned (.int .i64 ((T.last : Int) + 1)) ∧ TabAt base w' tb (((T.setL (T.last + 1)).ins ((T.last : Int) + 1) (fresh 2 m d l)).setB (T.bytes + d.length)) (p.ins ((T.last : Int) + 1) (w.heap.size + 1) (w.heap.size + 2) 0) ∧ Step tb T p (((T.setL (T.last + 1)).ins ((T.last : Int) + 1) (fresh 2 m d l)).setB (T.bytes + d.length)) (p.ins ((T.last : Int) + 1) (w.heap.size + 1) (w.heap.size + 2) 0) w w' := by
  have W : IntKind.i64.wrap ((T.last : Int) + 1) = (T.last : Int) + 1 := wrap_small (by omega) (by omega)
  have W2 : IntKind.i64.wrap ((T.bytes : Int) + (d.length : Int)) = (T.bytes : Int) + (d.length : Int) := wrap_small (by omega) (by omega)
  have hx : (Lit.int .i64 ((T.last : Int) + 1)).wf = true := by simp [Lit.wf, IntKind.min, IntKind.max, IntKind.signed, IntKind.bits]; omega
  have HH := Lib.hid h
  have HF := Lib.hid hf
  unfold tabV
  clear h hf
  go_enter Try.func23, Try.ntmps23
  go_wp2_with (first
    | (with_reducible refine box_any rfl 35 (.tmp 1) rfl (toldV (some (fresh 2 m d l))) rfl ?_; intro u1 hu1 bu1 zu1; have HU1 := Lib.hid hu1; have BU1 := Lib.hid bu1; clear hu1 bu1)
    | (refine load_any rfl 35 (.tmp 3) rfl ⟨w.heap.size, 0, none⟩ rfl (toldV (some (fresh 2 m d l))) _ (fun j v hj => by rw [Addr.add0]; exact HU1.out.cell j v hj) Try.underlying35 rfl info_ino ?_)
    | (refine build_new rfl (.tmp 6) rfl 2 m d l rfl ?_)
    | (refine box_any rfl 63 (.tmp 7) rfl ((fresh 2 m d l).cells (.map none)) rfl ?_; intro u2 hu2 bu2 zu2; have BX := bu2.mono (Nat.le_of_eq zu1.symm); rw [zu1] at hu2 zu2; have ck := hu2.cell 0 (.int .i64 2) rfl; have HU2 := Lib.hid hu2; have BU2 := Lib.hid (BU1.out.trans (bu2.mono (by rw [zu1]; exact Nat.le_succ _))); clear hu2 bu2 BX)
    | (refine make_ents rfl rfl ?_; intro v2 hv2 bv2 zv2; rw [zu2] at hv2 zv2; have HV2 := Lib.hid hv2; have HA2 := Lib.hid (HU2.out.below bv2 (by rw [zu2]; omega)); have BV2 := Lib.hid (BU2.out.trans (bv2.mono (by rw [zu2]; omega))); clear hv2 bv2)
    | (refine set_map rfl (.tmp 18) (.tmp 16) rfl (w.heap.size + 1) 5 rfl (some (w.heap.size + 2)) rfl _ _ HA2.out (by simp [Ino.cells]) ?_; intro v3 hv3 tv3; have HV3 := Lib.hid hv3; have BV3 := Lib.hid (tv3.below BV2.out (by simp) (Nat.le_refl _)); have HS3 := Lib.hid (HV2.out.touch tv3 (by simp)); have c1 := (HH.out.below BV3.out).t.cell 1 _ rfl; clear hv3 tv3)
    | (refine set_int rfl (.tmp 25) (.tmp 23) rfl tb 1 rfl ((T.last : Int) + 1) rfl _ _ (HH.out.below BV3.out).t (by simp [Tab.cells]) ?_; intro u3 hu3 tu3; have HU3 := Lib.hid hu3; have H2 := Lib.hid ((HH.out.below BV3.out).setT (T' := T.setL (T.last + 1)) rfl rfl hu3 tu3); have HI := Lib.hid (HV3.out.touch tu3 (by have := HH.out.t.lt; simp; omega)); have HI2 := Lib.hid (HS3.out.touch tu3 (by have := HH.out.t.lt; simp; omega)); have c0 := hu3.cell 0 _ rfl; have c1' := hu3.cell 1 _ rfl; clear hu3 tu3 c1))
  go_still_tail 9, (by kernel_rfl)
  change wpList _ _ _ _ _ u3.drew
  obtain ⟨w4, hrun, hM, ht⟩ := H2.out.1.drew.i.put ((T.last : Int) + 1) hx (w.heap.size + 1) hn
  have HM := Lib.hid hM
  have HTT := Lib.hid (turned_touch ht)
  have hnm : ¬ Mine tb (T.setL (T.last + 1)) p (w.heap.size + 1) := fun e => by have := HH.out.mine_lt _ e; omega
  have hnm2 : ¬ Mine tb (T.setL (T.last + 1)) p (w.heap.size + 2) := fun e => by have := HH.out.mine_lt _ e; omega
  have H5 := H2.out.1.drew.ins ((T.last : Int) + 1) (fresh 2 m d l) (w.heap.size + 1) (w.heap.size + 2) 0 HF.out ⟨by rw [if_pos (show (fresh 2 m d l).kind = 2 from rfl)]; exact HI.out.drew, fun _ => HI2.out.keep rfl⟩ hnm (fun _ => hnm2) (by omega) (fun _ => by omega) hM (turned_touch ht)
  have hI4 := HI.out.drew.touch HTT.out (by have := HH.out.i.lt; simp; omega)
  have HS := Lib.hid (((Step.of_below BV3.out).trans (H2.out.2)).trans (Step.of_below (below_dr u3)))
  have HS4 := Lib.hid (Step.ins (x := (T.last : Int) + 1) (i := fresh 2 m d l) (c := w.heap.size + 1) (e := w.heap.size + 2) (m := 0) HS.out HTT.out (Nat.le_succ _) (fun _ => by omega))
  have d2 := hI4.cell 2 (.string (bs d)) rfl
  have d3 := H5.t.cell 2 (.int .i64 (T.bytes : Int)) rfl
  have HT5 := Lib.hid H5
  clear hM ht c0 c1' hnm hnm2 H5 hI4
  go_wp2_with fail
  go_still_tail 13, (by kernel_rfl)
  change wpList _ _ _ _ _ w4.drew
  clear hrun d2 d3
  go_wp2_with (first
    | (refine set_int rfl (.tmp 47) (.tmp 45) rfl tb 2 rfl ((T.bytes : Int) + (d.length : Int)) rfl _ _ HT5.out.t.drew (by simp [Tab.cells]) ?_; intro u6 hu6 tu6; have HU6 := Lib.hid hu6; have TU6 := Lib.hid tu6; have c7 := hu6.cell 1 (.int .i64 ((T.last : Int) + 1)) (by simp [Tab.cells, Tab.ins, Tab.setL]); clear hu6 tu6))
  go_ret
  have H6 := HT5.out.drew.setT (T' := ((T.setL (T.last + 1)).ins ((T.last : Int) + 1) (fresh 2 m d l)).setB (T.bytes + d.length)) rfl rfl (by have := HU6.out; simpa [Tab.cells, Tab.setB, Tab.ins, Tab.setL] using this) TU6.out
  exact ⟨rfl, H6.1, (HS4.out.trans (Step.of_below (below_dr w4))).trans H6.2⟩
end Go.Proofs.Ytgifdmfnecombaa
