/- InodeKnown: the walk (tools/gen_jp7.py). -/
import Derived.Test.YtgifdmfnecombaaJo
namespace Go.Proofs.Ytgifdmfnecombaa
open Go.RowKit
set_option maxRecDepth 100000
theorem zero_st : ∀ w, (zeroValue 53).run Try.prog w = .ok (.agg (Kn.T.cells ⟨0, [], 0, 0, [], 0⟩).toArray) w := fun _ => by kernel_rfl
theorem zinfo : (Try.prog.info? 53).map (·.size) = some 6 := by kernel_rfl
theorem st_one (t : Kn.T) : ∀ v ∈ t.cells, v.oneCell' = true := by
  intro v hv
  simp only [Kn.T.cells, List.mem_cons, List.not_mem_nil, or_false] at hv
  rcases hv with rfl | rfl | rfl | rfl | rfl | rfl <;> rfl
set_option maxHeartbeats 16000000 in
theorem known_walk (w : World) : Calls Try.prog 5 #[] w fun e w' => e = .returned (.bool true) ∧ Below w.heap.size w w' := by
  go_enter Try.func5, Try.ntmps5
  go_wp2_with (first
    | ((with_reducible refine hold_at 24 rfl ?_); unfold held; refine list_val rfl (v := .agg (quotaV 4 10).toArray) (w' := w) (by kernel_rfl) ?_))
  refine (holds_new w w (Below.refl _ w) (fun _ => False) (fun _ h => h.elim) 4 10 (by omega) (by omega) (by omega)).mono ?_
  rintro e v0 ⟨tb, rfl, h, _⟩
  have HH0 := Lib.hid (show Holds w v0 tb Kn.D0 1 (fun _ => False) from h)
  clear h
  unfold tabV
  go_wp2_with fail
  refine (holds_root HH0.out).mono ?_
  rintro e _ ⟨rfl, rfl⟩
  go_wp2_with fail
  refine (holds_up HH0.out 1 (by decide)).mono ?_
  rintro e v1 ⟨rfl, b⟩
  have HH1 := Lib.hid (HH0.out.below b)
  clear b
  rw [show upT Kn.D0.tab 1 = 1 by kernel_rfl]
  go_wp2_with fail
  refine (holds_used HH1.out).mono ?_
  rintro e v2 ⟨rfl, b⟩
  have HH2 := Lib.hid (HH1.out.below b)
  clear b
  rw [show Kn.D0.inodes = 1 by kernel_rfl, show Kn.D0.bytes = 0 by kernel_rfl]
  go_wp2_with (first
    | ((with_reducible refine hold_at 41 rfl ?_); unfold held; refine list_val_g (by kernel_rfl) (v := .agg (quotaV 1 0).toArray) (w' := v2) (by kernel_rfl) ?_)
    | ((with_reducible refine hold_at 42 rfl ?_); unfold held; refine list_val_g (by kernel_rfl) (v := .bool false) (w' := v2) (by kernel_rfl) ?_))
  refine (make_ok HH2.out (by omega) 1 (by decide) [100] (by decide) (asc_of (by decide)) 2 493 [] (by decide) 2 0 (by kernel_rfl) (by kernel_rfl) Kn.D1 (by kernel_rfl)).mono ?_
  rintro e v3 ⟨rfl, h, k⟩
  have HH3 := Lib.hid h
  clear h k
  go_wp2_with fail
  refine (make_ok HH3.out (by omega) 2 (by decide) [102] (by decide) (asc_of (by decide)) 1 420 [104, 105] (by decide) 3 0 (by kernel_rfl) (by kernel_rfl) Kn.D2 (by kernel_rfl)).mono ?_
  rintro e v4 ⟨rfl, h, k⟩
  have HH4 := Lib.hid h
  clear h k
  go_wp2_with fail
  refine (link_ok HH4.out (by omega) 1 (by decide) [103] (by decide) (asc_of (by decide)) 3 (by decide) 0 (by kernel_rfl) Kn.D3 (by kernel_rfl)).mono ?_
  rintro e v5 ⟨rfl, h, k⟩
  have HH5 := Lib.hid h
  clear h k
  go_wp2_with fail
  refine (node_ok HH5.out 3 (by decide) (some (fresh 1 420 [104, 105] 2)) (by kernel_rfl)).mono ?_
  rintro e v6 ⟨rfl, b⟩
  have HH6 := Lib.hid (HH5.out.below b)
  clear b
  go_wp2_with (first
    | ((with_reducible refine alloc_any rfl 35 rfl _ zero_ino ?_); intro u7 hu bu zu; have HU7 := Lib.hid hu; have BU7 := Lib.hid (HH6.out.fresh bu); have ZU7 := Lib.hid zu; clear hu bu zu)
    | ((with_reducible refine hold_none rfl ?_); unfold held; refine store_any rfl 35 (.tmp 7) (.tmp 59) rfl v6.heap.size (by kernel_rfl) (toldV (some (fresh 1 420 [104, 105] 2))) (by kernel_rfl) _ HU7.out rfl info_ino (told_one _) ?_; intro x7 hx tx; have hk := fun (b : Nat) (hb : b ∈ [v6.heap.size]) => (show (False ∨ (v6.heap.size ≤ b ∧ b < u7.heap.size)) ∧ w.heap.size ≤ b from by (obtain rfl := List.mem_singleton.mp hb); exact ⟨.inr (by rw [ZU7.out]; omega), HH6.out.size⟩); have HT7 := Lib.hid ((BU7.out.touch tx hk).sub (av' := fun b => b = v6.heap.size) (fun b hb => .inr (by rw [ZU7.out]; omega))); have HX7 := Lib.hid hx; clear hx tx hk))
  refine (make_ok HT7.out (by omega) 1 (by decide) [108] (by decide) (asc_of (by decide)) 3 511 [49, 50, 51, 52, 53, 54, 55, 56, 57] (by decide) 0 10 (by kernel_rfl) (by kernel_rfl) Kn.D3 (by kernel_rfl)).mono ?_
  rintro e v7 ⟨rfl, h, k⟩
  have c3 := (HX7.out.keeps k rfl).cell 3 (.int .i64 2) rfl
  have HH7 := Lib.hid (h.sub (av' := fun _ => False) (fun _ hb => hb.elim))
  clear h k
  go_wp2_with fail
  refine (unlink_ok HH7.out (by omega) 1 (by decide) [100] (by unfold maxLen; decide) 20 (by kernel_rfl) Kn.D3 (by kernel_rfl)).mono ?_
  rintro e v8 ⟨rfl, h, k⟩
  have HH8 := Lib.hid h
  clear h k
  clear c3
  go_wp2_with fail
  refine (move_ok HH8.out (by omega) 2 (by decide) [102] (by unfold maxLen; decide) 1 (by decide) [100] (by decide) (asc_of (by decide)) 6 Kn.D3 (fun dp _ => Kn.mv1 dp)).mono ?_
  rintro e v9 ⟨rfl, h, k⟩
  have HH9 := Lib.hid h
  clear h k
  go_wp2_with fail
  refine (move_ok HH9.out (by omega) 1 (by decide) [100] (by unfold maxLen; decide) 2 (by decide) [120] (by decide) (asc_of (by decide)) 2 Kn.D3 (fun dp _ => Kn.mv2 dp)).mono ?_
  rintro e v10 ⟨rfl, h, k⟩
  have HH10 := Lib.hid h
  clear h k
  go_wp2_with fail
  refine (move_ok HH10.out (by omega) 1 (by decide) [100] (by unfold maxLen; decide) 1 (by decide) [100] (by decide) (asc_of (by decide)) 0 Kn.D3 (fun dp _ => Kn.mv3 dp)).mono ?_
  rintro e v11 ⟨rfl, h, k⟩
  have HH11 := Lib.hid h
  clear h k
  go_wp2_with fail
  refine (write_ok HH11.out (by omega) 3 (by decide) [49, 50, 51, 52, 53, 54, 55, 56, 57, 48, 49] (by decide) 10 (by kernel_rfl) Kn.D3 (by kernel_rfl)).mono ?_
  rintro e v12 ⟨rfl, h, k⟩
  have HH12 := Lib.hid h
  clear h k
  go_wp2_with fail
  refine (write_ok HH12.out (by omega) 3 (by decide) [49, 50, 51, 52, 53, 54, 55, 56, 57, 48] (by decide) 0 (by kernel_rfl) Kn.D4 (by kernel_rfl)).mono ?_
  rintro e v13 ⟨rfl, h, k⟩
  have HH13 := Lib.hid h
  clear h k
  go_wp2_with fail
  refine (write_ok HH13.out (by omega) 2 (by decide) [] (by decide) 7 (by kernel_rfl) Kn.D4 (by kernel_rfl)).mono ?_
  rintro e v14 ⟨rfl, h, k⟩
  have HH14 := Lib.hid h
  clear h k
  go_wp2_with fail
  refine (write_ok HH14.out (by omega) 9 (by decide) [] (by decide) 5 (by kernel_rfl) Kn.D4 (by kernel_rfl)).mono ?_
  rintro e v15 ⟨rfl, h, k⟩
  have HH15 := Lib.hid h
  clear h k
  go_wp2_with fail
  refine (chmod_ok HH15.out (by omega) 3 (by decide) 512 2 (by kernel_rfl) Kn.D4 (by kernel_rfl)).mono ?_
  rintro e v16 ⟨rfl, h, k⟩
  have HH16 := Lib.hid h
  clear h k
  go_wp2_with fail
  refine (chmod_ok HH16.out (by omega) 9 (by decide) 0 5 (by kernel_rfl) Kn.D4 (by kernel_rfl)).mono ?_
  rintro e v17 ⟨rfl, h, k⟩
  have HH17 := Lib.hid h
  clear h k
  go_wp2_with fail
  refine (chmod_ok HH17.out (by omega) 3 (by decide) 0 0 (by kernel_rfl) Kn.D5 (by kernel_rfl)).mono ?_
  rintro e v18 ⟨rfl, h, k⟩
  have HH18 := Lib.hid h
  clear h k
  go_wp2_with fail
  refine (unlink_ok HH18.out (by omega) 2 (by decide) [102] (by unfold maxLen; decide) 0 (by kernel_rfl) Kn.D6 (by kernel_rfl)).mono ?_
  rintro e v19 ⟨rfl, h, k⟩
  have HH19 := Lib.hid h
  clear h k
  go_wp2_with fail
  refine (unlink_ok HH19.out (by omega) 1 (by decide) [103] (by unfold maxLen; decide) 0 (by kernel_rfl) Kn.D7 (by kernel_rfl)).mono ?_
  rintro e v20 ⟨rfl, h, k⟩
  have HH20 := Lib.hid h
  clear h k
  go_wp2_with fail
  refine (unlink_ok HH20.out (by omega) 1 (by decide) [103] (by unfold maxLen; decide) 5 (by kernel_rfl) Kn.D7 (by kernel_rfl)).mono ?_
  rintro e v21 ⟨rfl, h, k⟩
  have HH21 := Lib.hid h
  clear h k
  go_wp2_with fail
  refine (node_ok HH21.out 3 (by decide) none (by kernel_rfl)).mono ?_
  rintro e v22 ⟨rfl, b⟩
  have HH22 := Lib.hid (HH21.out.below b)
  clear b
  go_wp2_with (first
    | ((with_reducible refine alloc_any rfl 35 rfl _ zero_ino ?_); intro u11 hu bu zu; have HU11 := Lib.hid hu; have BU11 := Lib.hid (HH22.out.fresh bu); have ZU11 := Lib.hid zu; clear hu bu zu)
    | ((with_reducible refine hold_none rfl ?_); unfold held; refine store_any rfl 35 (.tmp 11) (.tmp 164) rfl v22.heap.size (by kernel_rfl) (toldV none) (by kernel_rfl) _ HU11.out rfl info_ino (told_one _) ?_; intro x11 hx tx; have hk := fun (b : Nat) (hb : b ∈ [v22.heap.size]) => (show (False ∨ (v22.heap.size ≤ b ∧ b < u11.heap.size)) ∧ w.heap.size ≤ b from by (obtain rfl := List.mem_singleton.mp hb); exact ⟨.inr (by rw [ZU11.out]; omega), HH22.out.size⟩); have HT11 := Lib.hid ((BU11.out.touch tx hk).sub (av' := fun b => b = v22.heap.size) (fun b hb => .inr (by rw [ZU11.out]; omega))); have HX11 := Lib.hid hx; clear hx tx hk))
  refine (holds_used HT11.out).mono ?_
  rintro e v23 ⟨rfl, b⟩
  have HH23 := Lib.hid ((HT11.out.below b).sub (av' := fun _ => False) (fun _ hb => hb.elim))
  clear b
  rw [show Kn.D7.inodes = 2 by kernel_rfl, show Kn.D7.bytes = 0 by kernel_rfl]
  go_wp2_with (first
    | ((with_reducible refine hold_at 170 rfl ?_); unfold held; refine list_val_g (by kernel_rfl) (v := .agg (quotaV 2 0).toArray) (w' := v23) (by kernel_rfl) ?_)
    | ((with_reducible refine hold_at 171 rfl ?_); unfold held; refine list_val_g (by kernel_rfl) (v := .bool false) (w' := v23) (by kernel_rfl) ?_)
    | ((with_reducible refine hold_at 173 rfl ?_); unfold held; refine list_val rfl (v := .agg (Kn.T.cells Kn.q0).toArray) (w' := v23) (by kernel_rfl) ?_)
    | ((with_reducible refine hold_at 174 rfl ?_); unfold held; refine list_val rfl (v := .agg (Kn.T.cells Kn.q1).toArray) (w' := v23) (by kernel_rfl) ?_)
    | ((with_reducible refine hold_at 175 rfl ?_); unfold held; refine list_val rfl (v := .agg (Kn.T.cells Kn.q2).toArray) (w' := v23) (by kernel_rfl) ?_)
    | ((with_reducible refine hold_at 176 rfl ?_); unfold held; refine list_val rfl (v := .agg (Kn.T.cells Kn.q3).toArray) (w' := v23) (by kernel_rfl) ?_)
    | ((with_reducible refine hold_at 177 rfl ?_); unfold held; refine list_val rfl (v := .agg (Kn.T.cells Kn.q4).toArray) (w' := v23) (by kernel_rfl) ?_)
    | ((with_reducible refine hold_at 178 rfl ?_); unfold held; refine list_val rfl (v := .agg (Kn.T.cells Kn.q5).toArray) (w' := v23) (by kernel_rfl) ?_)
    | ((with_reducible refine hold_at 179 rfl ?_); unfold held; refine list_val rfl (v := .agg (Kn.T.cells Kn.q6).toArray) (w' := v23) (by kernel_rfl) ?_)
    | ((with_reducible refine hold_at 180 rfl ?_); unfold held; refine list_val rfl (v := .agg (Kn.T.cells Kn.q7).toArray) (w' := v23) (by kernel_rfl) ?_)
    | ((with_reducible refine hold_at 181 rfl ?_); unfold held; refine list_val rfl (v := .agg (Kn.T.cells Kn.q8).toArray) (w' := v23) (by kernel_rfl) ?_)
    | ((with_reducible refine hold_at 182 rfl ?_); unfold held; refine list_val rfl (v := .agg (Kn.T.cells Kn.q9).toArray) (w' := v23) (by kernel_rfl) ?_)
    | ((with_reducible refine hold_at 183 rfl ?_); unfold held; refine list_val rfl (v := .agg (Kn.T.cells Kn.q10).toArray) (w' := v23) (by kernel_rfl) ?_)
    | ((with_reducible refine hold_at 184 rfl ?_); unfold held; refine list_val rfl (v := .agg (Kn.T.cells Kn.q11).toArray) (w' := v23) (by kernel_rfl) ?_)
    | ((with_reducible refine hold_at 185 rfl ?_); unfold held; refine list_val rfl (v := .agg (Kn.T.cells Kn.q12).toArray) (w' := v23) (by kernel_rfl) ?_)
    | ((with_reducible refine hold_at 186 rfl ?_); unfold held; refine list_val rfl (v := .agg (Kn.T.cells Kn.q13).toArray) (w' := v23) (by kernel_rfl) ?_)
    | ((with_reducible refine hold_at 187 rfl ?_); unfold held; refine list_val rfl (v := .agg (Kn.T.cells Kn.q14).toArray) (w' := v23) (by kernel_rfl) ?_)
    | ((with_reducible refine hold_at 188 rfl ?_); unfold held; refine list_val rfl (v := .agg (Kn.T.cells Kn.q15).toArray) (w' := v23) (by kernel_rfl) ?_)
    | ((with_reducible refine hold_at 189 rfl ?_); unfold held; refine list_val rfl (v := .agg (Kn.T.cells Kn.q16).toArray) (w' := v23) (by kernel_rfl) ?_)
    | ((with_reducible refine hold_at 190 rfl ?_); unfold held; refine list_val rfl (v := .agg (Kn.T.cells Kn.q17).toArray) (w' := v23) (by kernel_rfl) ?_)
    | (with_reducible refine hold_at 191 rfl ?_))
  unfold held
  refine list_val rfl (v := .slice (some ⟨v23.heap.size, 0, none⟩) 18 18) (w' := v23.alloc (.cells (Kn.all Kn.ts).toArray 53)) (by kernel_rfl) ?_
  have A1 := At.new v23 (Kn.all Kn.ts).toArray 53
  have B1 := (Below.refl _ v23).alloc (Nat.le_refl _) (.cells (Kn.all Kn.ts).toArray 53)
  have S1 : (v23.alloc (.cells (Kn.all Kn.ts).toArray 53)).heap.size = v23.heap.size + 1 := by rw [World.size_alloc]
  have H1 := ((HH23.out.fresh B1).sub (av' := fun b => b = v23.heap.size) (fun b hb => .inr (by omega)))
  rw [show (Kn.all Kn.ts).toArray.toList = Kn.all Kn.ts by simp] at A1
  obtain ⟨BR, hBR⟩ : ∃ BR, BR = v23.heap.size := ⟨_, rfl⟩
  rw [← hBR] at A1 H1 ⊢
  generalize v23.alloc (.cells (Kn.all Kn.ts).toArray 53) = wa at *
  have HA1 := Lib.hid A1
  have HB1 := Lib.hid H1
  have hbr := HB1.out.lt BR rfl
  clear A1 B1 S1 H1 hBR hbr
  go_wp2_with fail
  go_loopw [193] (fun i wx => ∃ k : Nat, i = .int .i64 k ∧ k ≤ 18 ∧ At wx BR 53 (Kn.all Kn.ts) ∧ Holds w wx tb (Kn.DK k) (30 + k) (fun b => b = BR)) (fun i _ => 18 - (intOf i).toNat)
  case atStart => exact ⟨0, rfl, by omega, HA1.out, HB1.out.more (by omega) (by omega)⟩
  case round =>
    obtain ⟨k, rfl, hk18, hA, hH⟩ := hrel
    have HA := Lib.hid hA
    have HH := Lib.hid hH
    clear hA hH
    by_cases hk : k < 18
    · have hki : (k : Int) < 18 := by omega
      obtain ⟨t, t1, t2, t3, t4, t5, t6, t7⟩ := Kn.step k hk
      have hc := Kn.cells6 t1
      have HC := Lib.hid hc
      obtain ⟨y, hy⟩ : ∃ y : Int, (if makeE (Kn.DK k).tab t.d t.nm t.k t.m t.dt = 0 then ((Kn.DK k).L.length : Int) + 1 else 0) = y := ⟨_, rfl⟩
      have T2 := Lib.hid t2
      have T3 := Lib.hid t3
      have HY := Lib.hid hy
      have T5 := Lib.hid t5
      have T7 := Lib.hid t7
      clear t1 t2 t3 t5 t7 hc hy
      go_wp2_with (first
        | ((with_reducible refine hold_at 196 rfl ?_); unfold held; refine list_val rfl (v := .pointer (some ((⟨BR, 0, none⟩ : Addr).add (k * 6)))) (w' := wr) (run_index_op 54 53 (.tmp 191) (.tmp 193) rfl ⟨BR, 0, none⟩ 18 18 k (by kernel_rfl) (by kernel_rfl) hk 6 _ rfl Try.underlying54 (by kernel_rfl)) ?_)
        | ((with_reducible refine hold_at 197 rfl ?_); unfold held; refine load_any rfl 53 (.tmp 196) rfl ((⟨BR, 0, none⟩ : Addr).add (k * 6)) (by kernel_rfl) (Kn.T.cells t) _ (fun j v hj => by
            rw [Kn.addr_add]
            refine HA.out.cell (k * 6 + j) v ?_
            rw [Nat.mul_comm]
            have hj6 := (List.getElem?_eq_some_iff.mp hj).1
            rw [HC.out j hj6]
            exact hj) Try.underlying53 rfl zinfo ?_)
        | ((with_reducible refine alloc_any rfl 53 rfl _ zero_st ?_); intro u hu bu zu; have HU := Lib.hid hu; have BU := Lib.hid (HH.out.fresh bu); have AU := Lib.hid (HA.out.below bu HA.out.lt); have ZU := Lib.hid zu; clear hu bu zu)
        | ((with_reducible refine hold_none rfl ?_); unfold held; refine store_any rfl 53 (.tmp 14) (.tmp 197) rfl wr.heap.size (by kernel_rfl) (Kn.T.cells t) (by kernel_rfl) _ HU.out rfl zinfo (st_one t) ?_; intro x hx tx; have hk9 := fun (b : Nat) (hb : b ∈ [wr.heap.size]) => (show (b = BR ∨ (wr.heap.size ≤ b ∧ b < u.heap.size)) ∧ w.heap.size ≤ b from by (obtain rfl := List.mem_singleton.mp hb); exact ⟨.inr (by rw [ZU.out]; omega), HH.out.size⟩); have HT := Lib.hid (BU.out.touch tx hk9); have HX := Lib.hid hx; have AX := Lib.hid (AU.out.touch tx (by have := HA.out.lt; simp; omega)); have c0 := hx.cell 0 (.int .i64 t.d) rfl; have c1 := hx.cell 1 (.string (bs t.nm)) rfl; have c2 := hx.cell 2 (.int .i64 t.k) rfl; have c3 := hx.cell 3 (.int .i64 t.m) rfl; have c4 := hx.cell 4 (.string (bs t.dt)) rfl; clear hx tx hk9))
      clear c0 c1 c2 c3 c4
      refine (make_ok HT.out (by omega) t.d T7.out t.nm (by omega) (asc_of T5.out) t.k t.m t.dt (by omega) y t.e HY.out T2.out (Kn.DK (k + 1)) T3.out).mono ?_
      rintro e wm ⟨rfl, h, k9⟩
      have c5 := (HX.out.keeps k9 (.inr (by rw [ZU.out]; omega))).cell 5 (.int .i64 t.e) rfl
      have AM := Lib.hid (AX.out.keeps k9 (.inl rfl))
      have HM := Lib.hid (h.sub (av' := fun b => b = BR) (fun b hb => .inl hb))
      clear h k9
      go_wp2_with fail
      go_roundw
      case rel => exact ⟨k + 1, by go_num, by omega, AM.out, HM.out.more (by omega) (by omega)⟩
      case measure => simp [intOf]; omega
    · obtain rfl : k = 18 := by omega
      have HH100 := Lib.hid (show Holds w wr tb Kn.D9 48 (fun _ => False) from (HH.out.sub (av' := fun _ => False) (fun _ hb => hb.elim)))
      clear HH hk
      go_wp2_with fail
      refine (link_ok HH100.out (by omega) 1 (by decide) [120] (by decide) (asc_of (by decide)) 4 (by decide) 2 (by kernel_rfl) Kn.D9 (by kernel_rfl)).mono ?_
      rintro e v101 ⟨rfl, h, k⟩
      have HH101 := Lib.hid h
      clear h k
      go_wp2_with fail
      refine (link_ok HH101.out (by omega) 1 (by decide) [120] (by decide) (asc_of (by decide)) 2 (by decide) 7 (by kernel_rfl) Kn.D9 (by kernel_rfl)).mono ?_
      rintro e v102 ⟨rfl, h, k⟩
      have HH102 := Lib.hid h
      clear h k
      go_wp2_with fail
      refine (link_ok HH102.out (by omega) 1 (by decide) [120] (by decide) (asc_of (by decide)) 99 (by decide) 5 (by kernel_rfl) Kn.D9 (by kernel_rfl)).mono ?_
      rintro e v103 ⟨rfl, h, k⟩
      have HH103 := Lib.hid h
      clear h k
      go_wp2_with fail
      refine (write_ok HH103.out (by omega) 4 (by decide) [] (by decide) 2 (by kernel_rfl) Kn.D9 (by kernel_rfl)).mono ?_
      rintro e v104 ⟨rfl, h, k⟩
      have HH104 := Lib.hid h
      clear h k
      go_wp2_with fail
      refine (move_ok HH104.out (by omega) 4 (by decide) [97] (by unfold maxLen; decide) 1 (by decide) [98] (by decide) (asc_of (by decide)) 8 Kn.D9 (fun dp _ => Kn.mv4 dp)).mono ?_
      rintro e v105 ⟨rfl, h, k⟩
      have HH105 := Lib.hid h
      clear h k
      go_wp2_with fail
      refine (move_ok HH105.out (by omega) 1 (by decide) [110, 111] (by unfold maxLen; decide) 1 (by decide) [98] (by decide) (asc_of (by decide)) 5 Kn.D9 (fun dp _ => Kn.mv5 dp)).mono ?_
      rintro e v106 ⟨rfl, h, k⟩
      have HH106 := Lib.hid h
      clear h k
      have Z106 := Lib.hid HH106.out.b
      go_wp2_with fail
      refine (make_nil 1 [97] 1 0 [] v106).mono ?_
      rintro e v107 ⟨rfl, b⟩
      have Z107 := Lib.hid (Z106.out.trans (b.mono Z106.out.size))
      clear b
      go_wp2_with fail
      refine (find_nil 1 [97] v107).mono ?_
      rintro e v108 ⟨rfl, b⟩
      have Z108 := Lib.hid (Z107.out.trans (b.mono Z107.out.size))
      clear b
      go_wp2_with fail
      refine (node_nil 1 v108).mono ?_
      rintro e v109 ⟨rfl, b⟩
      have Z109 := Lib.hid (Z108.out.trans (b.mono Z108.out.size))
      clear b
      go_wp2_with (first
        | ((with_reducible refine alloc_any rfl 35 rfl _ zero_ino ?_); intro u hu bu zu; have HU := Lib.hid hu; have BU := Lib.hid (Z109.out.trans (bu.mono Z109.out.size)); clear hu bu)
        | ((with_reducible refine hold_none rfl ?_); unfold held; refine store_any rfl 35 (.tmp 22) (.tmp 261) rfl v109.heap.size (by kernel_rfl) (toldV none) (by kernel_rfl) _ HU.out rfl info_ino (told_one _) ?_; intro v110 hx tx; have hk := fun (b : Nat) (hb : b ∈ [v109.heap.size]) => (show w.heap.size ≤ b from by (obtain rfl := List.mem_singleton.mp hb); exact Z109.out.size); have Z110 := Lib.hid (tx.below BU.out hk (Nat.le_refl _)); clear hx tx hk))
      refine (link_nil 1 [97] 1 v110).mono ?_
      rintro e v111 ⟨rfl, b⟩
      have Z111 := Lib.hid (Z110.out.trans (b.mono Z110.out.size))
      clear b
      go_wp2_with fail
      refine (unlink_nil 1 [97] v111).mono ?_
      rintro e v112 ⟨rfl, b⟩
      have Z112 := Lib.hid (Z111.out.trans (b.mono Z111.out.size))
      clear b
      go_wp2_with fail
      refine (move_nil 1 [97] 1 [98] v112).mono ?_
      rintro e v113 ⟨rfl, b⟩
      have Z113 := Lib.hid (Z112.out.trans (b.mono Z112.out.size))
      clear b
      go_wp2_with fail
      refine (write_nil 1 [] v113).mono ?_
      rintro e v114 ⟨rfl, b⟩
      have Z114 := Lib.hid (Z113.out.trans (b.mono Z113.out.size))
      clear b
      go_wp2_with fail
      refine (chmod_nil 1 0 v114).mono ?_
      rintro e v115 ⟨rfl, b⟩
      have Z115 := Lib.hid (Z114.out.trans (b.mono Z114.out.size))
      clear b
      go_wp2_with fail
      refine (names_nil 1 v115).mono ?_
      rintro e v116 ⟨rfl, b⟩
      have Z116 := Lib.hid (Z115.out.trans (b.mono Z115.out.size))
      clear b
      go_wp2_with fail
      refine (up_nil 1 v116).mono ?_
      rintro e v117 ⟨rfl, b⟩
      have Z117 := Lib.hid (Z116.out.trans (b.mono Z116.out.size))
      clear b
      go_wp2_with fail
      refine (root_nil v117).mono ?_
      rintro e v118 ⟨rfl, hs⟩
      have Z118 := Lib.hid (hs ▸ Z117.out)
      clear hs
      go_wp2_with fail
      refine (used_nil v118).mono ?_
      rintro e v119 ⟨rfl, b⟩
      have Z119 := Lib.hid (Z118.out.trans (b.mono Z118.out.size))
      clear b
      go_wp2_with (first
        | ((with_reducible refine hold_at 317 rfl ?_); unfold held; refine list_val_g (by kernel_rfl) (v := .agg (quotaV 0 0).toArray) (w' := v119) (by kernel_rfl) ?_)
        | ((with_reducible refine hold_at 318 rfl ?_); unfold held; refine list_val_g (by kernel_rfl) (v := .bool true) (w' := v119) (by kernel_rfl) ?_))
      refine (quota_nil v119).mono ?_
      rintro e v120 ⟨rfl, b⟩
      have Z120 := Lib.hid (Z119.out.trans (b.mono Z119.out.size))
      clear b
      go_wp2_with (first
        | ((with_reducible refine hold_at 323 rfl ?_); unfold held; refine list_val_g (by kernel_rfl) (v := .agg (quotaV 0 0).toArray) (w' := v120) (by kernel_rfl) ?_)
        | ((with_reducible refine hold_at 324 rfl ?_); unfold held; refine list_val_g (by kernel_rfl) (v := .bool true) (w' := v120) (by kernel_rfl) ?_)
        | ((with_reducible refine hold_at 327 rfl ?_); unfold held; refine list_val_g (by kernel_rfl) (v := .agg (quotaV 0 0).toArray) (w' := v120) (by kernel_rfl) ?_))
      refine (new_bad v120 0 0 (by omega)).mono ?_
      rintro e v121 ⟨rfl, b⟩
      have Z121 := Lib.hid (Z120.out.trans (b.mono Z120.out.size))
      clear b
      go_wp2_with (first
        | ((with_reducible refine hold_at 332 rfl ?_); unfold held; refine list_val_g (by kernel_rfl) (v := .agg (quotaV 1 (-1)).toArray) (w' := v121) (by kernel_rfl) ?_))
      refine (new_bad v121 1 (-1) (by omega)).mono ?_
      rintro e v122 ⟨rfl, b⟩
      have Z122 := Lib.hid (Z121.out.trans (b.mono Z121.out.size))
      clear b
      go_wp2_with (first
        | ((with_reducible refine hold_at 337 rfl ?_); unfold held; refine list_val_g (by kernel_rfl) (v := .agg (quotaV 1048577 0).toArray) (w' := v122) (by kernel_rfl) ?_))
      refine (new_bad v122 1048577 0 (by omega)).mono ?_
      rintro e v123 ⟨rfl, b⟩
      have Z123 := Lib.hid (Z122.out.trans (b.mono Z122.out.size))
      clear b
      go_wp2_with fail
      refine (works7_any v123).mono ?_
      rintro e v124 ⟨rfl, b⟩
      have Z124 := Lib.hid (Z123.out.trans (b.mono Z123.out.size))
      clear b
      go_wp2_with fail
      go_ret
      exact ⟨rfl, Z124.out⟩
end Go.Proofs.Ytgifdmfnecombaa
