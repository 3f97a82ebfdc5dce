/- The statement DiskPlays: its walk. -/
import Derived.Test.YtalphongcnackaaFl
import Derived.Test.YtalphongcnackaaDx
namespace Go.Proofs.Ytalphongcnackaa
open Go.RowKit
set_option maxRecDepth 100000
theorem enter_Write : ∀ (args : Array Value) (w : World), (callFunc 22 args).run Try.prog w = .ok (.enter 22 args) w := enters_of Try.func22 (by kernel_rfl) rfl
theorem enter_RWrite : ∀ (args : Array Value) (w : World), (callFunc 23 args).run Try.prog w = .ok (.enter 23 args) w := enters_of Try.func23 (by kernel_rfl) rfl
theorem plays_bad (a : Value) (n : Int) (hn : n < 1 ∨ 4096 < n) (w : World) :
    Calls Try.prog 3 #[a, .int .i64 n] w fun e w' => e = .returned (.bool true) ∧ Below w.heap.size w w' := by
  go_enter Try.func3, Try.ntmps3
  go_wp2_with fail
  refine (new_bad n w hn).mono ?_
  rintro e w1 ⟨rfl, rfl⟩
  go_wp2_with fail
  refine (refNew_bad n w1 hn).mono ?_
  rintro e w2 ⟨rfl, rfl⟩
  go_wp2_with fail
  refine (works_any w2).mono ?_
  rintro e w3 ⟨rfl, b3⟩
  go_wp2
  go_ret
  exact ⟨rfl, b3⟩
set_option maxHeartbeats 32000000 in
theorem plays_walk (a : Option Addr) (len cap : Nat) (ls : List ActV) (n : Nat) (n1 : 1 ≤ n) (n2 : n ≤ 4096) (w : World) (hl : ls.length = len) (hlen : len ≤ maxLen) (hD : Acts w a ls) :
    Calls Try.prog 3 #[.slice a len cap, .int .i64 (n : Int)] w fun e w' => e = .returned (.bool true) ∧ Below w.heap.size w w' := by
  unfold maxLen at hlen
  have HL := Lib.hid hl
  have HD := Lib.hid hD
  clear hl hD
  go_enter Try.func3, Try.ntmps3
  go_wp2_with fail
  refine (p_new w w (Below.refl _ _) none_ (fun _ h => h.elim) n n1 n2).mono ?_
  rintro e v ⟨A, rfl, hA, h⟩
  have HP0 := Lib.hid h.1
  clear h hA
  have hp := HP0.out
  obtain ⟨_, F, N, ao, cp, hd, hB, hf⟩ := hp
  go_wp2_with fail
  refine (q_new w v hB (fun i => none_ i ∨ i ∈ foot A F N ao) (fun i hi => hi.elim (fun h => h.elim) (hd.lt i)) n n1 n2).mono ?_
  rintro e v1 ⟨B, rfl, h⟩
  have hpair : Pair (theDisk n A (Dk.fresh n)) (theRef n B (Dk.fresh n)) w v1 none_ := by
    refine Pair.of (fx := fun i => i ∈ foot A F N ao) (theDisk_stable n A _ v v1 _ ⟨F, N, ao, cp, hd, rfl⟩ (fun i hi => h.2 i (.inr hi))) (fun i hi => ⟨(hf i hi).1, ?_, fun e => e.elim⟩) h.1
    exact h.1.1 i (.inr hi)
  have HP := Lib.hid hpair
  clear h hpair hd hB hf HP0
  have hfw : Few 0 (Dk.fresh n) := ⟨by simp [Dk.fresh], by simp [Dk.fresh]⟩
  have HF := Lib.hid hfw
  clear hfw
  generalize Dk.fresh n = s0 at *
  go_wp2_with fail
  go_loopw [7] (fun x wx => ∃ (k : Nat) (s : Dk), k ≤ len ∧ k ≤ 100 ∧ x = .int .i64 k ∧ Few k s ∧ Pair (theDisk n A s) (theRef n B s) w wx none_) (fun x _ => 100 - (intOf x).toNat)
  case atStart => exact ⟨0, s0, by omega, by omega, rfl, HF.out, HP.out⟩
  clear HF HP
  case round =>
    obtain ⟨k, s, hk, hk2, rfl, hfw, hP⟩ := hrel
    have HFW := Lib.hid hfw
    have HPP := Lib.hid hP
    clear hfw hP
    by_cases hlt : k < len ∧ k < 100
    · obtain ⟨hlt, hlt2⟩ := hlt
      obtain ⟨x, hx⟩ : ∃ x, ls[k]? = some x := ⟨_, List.getElem?_eq_getElem (by rw [HL.out]; exact hlt)⟩
      obtain ⟨p, rfl, hdo⟩ := HD.out k x hx
      have hdo0 := hdo
      have hdo := hdo.below HPP.out.bel
      have i1 : decide ((k : Int) < (len : Int)) = true := decide_eq_true (by omega)
      have i2 : decide ((k : Int) < 100) = true := decide_eq_true (by omega)
      have i3 : (k : Int) < (len : Int) := by omega
      have HDO0 := Lib.hid hdo0
      have hcx := hdo.c
      have HCX := Lib.hid hcx
      have hw0 := HPP.out.bel.size
      have hth : (wr.alloc (.cells zact 30)).there wr.heap.size 0 x.cells.toArray.size := (At.new wr zact 30).there 0 5 (by decide)
      obtain ⟨a2, t2⟩ := fill_new wr zact 30 x.cells rfl
      have hone := all_oneCell_toArray x.one
      have hpx := (HPP.out.alloc (theDisk_stable _ _ _) (theRef_stable _ _ _) (.cells zact 30))
      have A2 := Lib.hid a2
      have T2 := Lib.hid t2
      have HTH := Lib.hid hth
      have HNE := Lib.hid hone
      have HPX := Lib.hid hpx
      have hlx : x.cells.length = 5 := rfl
      have hsx : x.cells.toArray.size = 5 := rfl
      have HLX := Lib.hid hlx
      have HSX := Lib.hid hsx
      clear hcx hth a2 t2 hone hpx hdo hdo0 hx HPP hlx hsx
      go_wp2_with (first | (with_reducible refine load_any rfl 30 (.tmp 50) rfl (p.add (k * 5)) (by kernel_rfl) x.cells _ HCX.out Try.underlying30 rfl (by rw [HLX.out]; exact info_act) ?_) | (with_reducible refine alloc_agg rfl 30 rfl zact zero_act ?_) | (with_reducible refine wpList_store_mid rfl 30 (.tmp 8) (.tmp 51) rfl wr.heap.size 0 x.cells.toArray (by kernel_rfl) (by kernel_rfl) HTH.out (by rw [HSX.out]; exact info_act) HNE.out ?_) | (with_reducible refine hold_at 52 rfl ?_))
      unfold held
      obtain ⟨bx, hbx⟩ : ∃ bx, bx = wr.heap.size := ⟨_, rfl⟩
      have hbx0 : w.heap.size ≤ bx := by omega
      rw [← hbx] at A2 T2 HPX HTH ⊢
      have hp2 := (HPX.out.more (av2 := (fun i => i = bx)) (fun i hi => .inr (.inr hi))).touched (theDisk_stable _ _ _) (theRef_stable _ _ _) (ft := [bx]) (Touch.setCells bx (.inl (by simp)) x.cells 0 _ (Touch.refl _ _)) (fun i hi => by simp at hi; exact ⟨hi, by omega⟩)
      generalize (wr.alloc (.cells zact 30)).setCells bx 0 x.cells = w3 at *
      have HP3 := Lib.hid hp2
      have HX3 := A2
      have hop : s.ops < 9223372036854775807 := by have := HFW.out.ops; omega
      have hws : s.ws.length ≤ 1000000 := by have := HFW.out.ws; omega
      clear hp2 HTH HNE HPX A2 T2 HCX hw0 hbx
      have c0 := HX3.out.cell 0 _ rfl
      have c1 := HX3.out.cell 1 _ rfl
      have c2 := HX3.out.cell 2 _ rfl
      have c3 := HX3.out.cell 3 _ rfl
      have c4 := HX3.out.cell 4 _ rfl
      have hcase : x.what = 3 ∨ x.what = 4 ∨ x.what = 5 ∨ x.what = 6 ∨ x.what = 7 ∨ x.what = 8 ∨ (x.what ≠ 3 ∧ x.what ≠ 4 ∧ x.what ≠ 5 ∧ x.what ≠ 6 ∧ x.what ≠ 7 ∧ x.what ≠ 8) := by omega
      rcases hcase with hw | hw | hw | hw | hw | hw | ⟨q3, q4, q5, q6, q7, q8⟩
      · rw [hw] at c0
        clear c2 c3 c4
        go_wp2_with fail
        refine (l_read (theRef_stable _ _ _) HP3.out x.at_ hop).mono ?_
        rintro e v3 ⟨rfl, hp, hk⟩
        have HPM := Lib.hid hp
        have e1 := (hk.at HX3.out rfl).cell 1 _ rfl
        clear hp hk
        generalize hS : s.readS n x.at_ = lS at *
        generalize hE : s.readE n x.at_ = rE at *
        go_wp2_with fail
        refine (b_read (theDisk_stable _ _ _) HPM.out x.at_ hop hws).mono ?_
        rintro e v4 ⟨rfl, hp, hk⟩
        rw [hS, hE]
        have HPN := Lib.hid hp
        clear hp hk e1 HPM hS hE
        have HPE := HPN
        have HFE := Lib.hid (HFW.out.read n x.at_)
        clear HPN HFW HP3 HX3 c0 c1
        try clear c2
        try clear c3
        try clear c4
        generalize s.readD n x.at_ = s9 at *
        obtain ⟨fo, fc, ao2, cp2, hd, hfl⟩ := HPE.out.heads
        have d0 := hd.cell 0 _ rfl
        have d2 := hd.cell 2 _ rfl
        have d4 := hd.cell 4 _ rfl
        rw [hfl] at d0
        clear hd hfl
        go_wp2_with fail
        go_quiet ((first | (go_at_call 24; exact Calls.quiet_of_same (l_on (HPE.out.drewN (theDisk_stable _ _ _) (theRef_stable _ _ _) _))) | (go_at_call 25; exact Calls.quiet_of_same (l_ops (HPE.out.drewN (theDisk_stable _ _ _) (theRef_stable _ _ _) _))) | (go_at_call 26; exact Calls.quiet_of_same (l_len (HPE.out.drewN (theDisk_stable _ _ _) (theRef_stable _ _ _) _)))))
        go_wp2
        go_roundw
        case rel => exact ⟨k + 1, s9, by omega, by omega, by go_num, HFE.out, (HPE.out.drewN (theDisk_stable _ _ _) (theRef_stable _ _ _) _).more (av2 := none_) (fun _ h => h.elim)⟩
        case measure => simp [intOf]; omega
      · rw [hw] at c0
        clear c2 c3 c4
        go_wp2_with fail
        refine (l_read (theRef_stable _ _ _) HP3.out x.at_ hop).mono ?_
        rintro e v3 ⟨rfl, hp, hk⟩
        have HPM := Lib.hid hp
        have e1 := (hk.at HX3.out rfl).cell 1 _ rfl
        clear hp hk
        generalize hS : s.readS n x.at_ = lS at *
        generalize hE : s.readE n x.at_ = rE at *
        go_wp2_with fail
        refine (b_read (theDisk_stable _ _ _) HPM.out x.at_ hop hws).mono ?_
        rintro e v4 ⟨rfl, hp, hk⟩
        rw [hS, hE]
        have HPN := Lib.hid hp
        clear hp hk e1 HPM hS hE
        have HPE := HPN
        have HFE := Lib.hid (HFW.out.read n x.at_)
        clear HPN HFW HP3 HX3 c0 c1
        try clear c2
        try clear c3
        try clear c4
        generalize s.readD n x.at_ = s9 at *
        obtain ⟨fo, fc, ao2, cp2, hd, hfl⟩ := HPE.out.heads
        have d0 := hd.cell 0 _ rfl
        have d2 := hd.cell 2 _ rfl
        have d4 := hd.cell 4 _ rfl
        rw [hfl] at d0
        clear hd hfl
        go_wp2_with fail
        go_quiet ((first | (go_at_call 24; exact Calls.quiet_of_same (l_on (HPE.out.drewN (theDisk_stable _ _ _) (theRef_stable _ _ _) _))) | (go_at_call 25; exact Calls.quiet_of_same (l_ops (HPE.out.drewN (theDisk_stable _ _ _) (theRef_stable _ _ _) _))) | (go_at_call 26; exact Calls.quiet_of_same (l_len (HPE.out.drewN (theDisk_stable _ _ _) (theRef_stable _ _ _) _)))))
        go_wp2
        go_roundw
        case rel => exact ⟨k + 1, s9, by omega, by omega, by go_num, HFE.out, (HPE.out.drewN (theDisk_stable _ _ _) (theRef_stable _ _ _) _).more (av2 := none_) (fun _ h => h.elim)⟩
        case measure => simp [intOf]; omega
      · rw [hw] at c0
        clear c2 c3 c4
        go_wp2_with fail
        refine (l_flush (theRef_stable _ _ _) HP3.out hop hws).mono ?_
        rintro e v3 ⟨rfl, hp, hk⟩
        have HPM := Lib.hid hp
        clear hp hk
        generalize hE : s.flushE = rE at *
        go_wp2_with fail
        refine (b_flush (theDisk_stable _ _ _) HPM.out hop hws).mono ?_
        rintro e v4 ⟨rfl, hp, hk⟩
        rw [hE]
        have HPN := Lib.hid hp
        clear hp hk HPM hE
        have HPE := HPN
        have HFE := Lib.hid (HFW.out.flush)
        clear HPN HFW HP3 HX3 c0 c1
        try clear c2
        try clear c3
        try clear c4
        generalize s.flushD = s9 at *
        obtain ⟨fo, fc, ao2, cp2, hd, hfl⟩ := HPE.out.heads
        have d0 := hd.cell 0 _ rfl
        have d2 := hd.cell 2 _ rfl
        have d4 := hd.cell 4 _ rfl
        rw [hfl] at d0
        clear hd hfl
        go_wp2_with fail
        go_quiet ((first | (go_at_call 24; exact Calls.quiet_of_same (l_on (HPE.out.drewN (theDisk_stable _ _ _) (theRef_stable _ _ _) _))) | (go_at_call 25; exact Calls.quiet_of_same (l_ops (HPE.out.drewN (theDisk_stable _ _ _) (theRef_stable _ _ _) _))) | (go_at_call 26; exact Calls.quiet_of_same (l_len (HPE.out.drewN (theDisk_stable _ _ _) (theRef_stable _ _ _) _)))))
        go_wp2
        go_roundw
        case rel => exact ⟨k + 1, s9, by omega, by omega, by go_num, HFE.out, (HPE.out.drewN (theDisk_stable _ _ _) (theRef_stable _ _ _) _).more (av2 := none_) (fun _ h => h.elim)⟩
        case measure => simp [intOf]; omega
      · rw [hw] at c0
        have hn := toNat_lt x.n
        have e5 : IntKind.i64.wrap (x.n.toNat : Int) = (x.n.toNat : Int) := by rw [IntKind.wrap_i64]; omega
        have e6 : IntKind.i64.wrap ((x.n.toNat : Int) - 3) = (x.n.toNat : Int) - 3 := by rw [IntKind.wrap_i64]; omega
        clear c2 c4
        go_wp2_with fail
        refine (l_arm (theRef_stable _ _ _) HP3.out ((x.n.toNat : Int) - 3) (by omega) (by omega)).mono ?_
        rintro e v3 ⟨rfl, hp, hk⟩
        have HPM := Lib.hid hp
        have e3 := (hk.at HX3.out rfl).cell 3 _ rfl
        clear hp hk
        go_wp2_with fail
        refine (b_arm (theDisk_stable _ _ _) HPM.out ((x.n.toNat : Int) - 3) (by omega) (by omega)).mono ?_
        rintro e v4 ⟨rfl, hp, hk⟩
        have HPN := Lib.hid hp
        clear hp hk e3 HPM
        have HPE := HPN
        have HFE := Lib.hid ((HFW.out.arm ((x.n.toNat : Int) - 3)).mono (Nat.le_succ _))
        clear HPN HFW HP3 HX3 c0 c1
        try clear c2
        try clear c3
        try clear c4
        generalize s.arm ((x.n.toNat : Int) - 3) = s9 at *
        obtain ⟨fo, fc, ao2, cp2, hd, hfl⟩ := HPE.out.heads
        have d0 := hd.cell 0 _ rfl
        have d2 := hd.cell 2 _ rfl
        have d4 := hd.cell 4 _ rfl
        rw [hfl] at d0
        clear hd hfl
        go_wp2_with fail
        go_quiet ((first | (go_at_call 24; exact Calls.quiet_of_same (l_on (HPE.out.drewN (theDisk_stable _ _ _) (theRef_stable _ _ _) _))) | (go_at_call 25; exact Calls.quiet_of_same (l_ops (HPE.out.drewN (theDisk_stable _ _ _) (theRef_stable _ _ _) _))) | (go_at_call 26; exact Calls.quiet_of_same (l_len (HPE.out.drewN (theDisk_stable _ _ _) (theRef_stable _ _ _) _)))))
        go_wp2
        go_roundw
        case rel => exact ⟨k + 1, s9, by omega, by omega, by go_num, HFE.out, (HPE.out.drewN (theDisk_stable _ _ _) (theRef_stable _ _ _) _).more (av2 := none_) (fun _ h => h.elim)⟩
        case measure => simp [intOf]; omega
      · rw [hw] at c0
        clear c2 c3 c4
        go_wp2_with fail
        refine (l_off (theRef_stable _ _ _) HP3.out).mono ?_
        rintro e v3 ⟨rfl, hp, hk⟩
        have HPM := Lib.hid hp
        clear hp hk
        go_wp2_with fail
        refine (b_off (theDisk_stable _ _ _) HPM.out).mono ?_
        rintro e v4 ⟨rfl, hp, hk⟩
        have HPN := Lib.hid hp
        clear hp hk HPM
        have HPE := HPN
        have HFE := Lib.hid (HFW.out.cut.mono (Nat.le_succ _))
        clear HPN HFW HP3 HX3 c0 c1
        try clear c2
        try clear c3
        try clear c4
        generalize s.cut = s9 at *
        obtain ⟨fo, fc, ao2, cp2, hd, hfl⟩ := HPE.out.heads
        have d0 := hd.cell 0 _ rfl
        have d2 := hd.cell 2 _ rfl
        have d4 := hd.cell 4 _ rfl
        rw [hfl] at d0
        clear hd hfl
        go_wp2_with fail
        go_quiet ((first | (go_at_call 24; exact Calls.quiet_of_same (l_on (HPE.out.drewN (theDisk_stable _ _ _) (theRef_stable _ _ _) _))) | (go_at_call 25; exact Calls.quiet_of_same (l_ops (HPE.out.drewN (theDisk_stable _ _ _) (theRef_stable _ _ _) _))) | (go_at_call 26; exact Calls.quiet_of_same (l_len (HPE.out.drewN (theDisk_stable _ _ _) (theRef_stable _ _ _) _)))))
        go_wp2
        go_roundw
        case rel => exact ⟨k + 1, s9, by omega, by omega, by go_num, HFE.out, (HPE.out.drewN (theDisk_stable _ _ _) (theRef_stable _ _ _) _).more (av2 := none_) (fun _ h => h.elim)⟩
        case measure => simp [intOf]; omega
      · rw [hw] at c0
        clear c2 c3
        go_wp2_with fail
        refine (l_wake (theRef_stable _ _ _) HP3.out x.fa x.fs x.fc HDO0.out.fc HDO0.out.fl (HDO0.out.fates HP3.out.bel (fun i => i = bx)) hws).mono ?_
        rintro e v3 ⟨rfl, hp, hk⟩
        have HPM := Lib.hid hp
        have e4 := (hk.at HX3.out rfl).cell 4 _ rfl
        clear hp hk
        go_wp2_with fail
        refine (b_wake (theDisk_stable _ _ _) HPM.out x.fa x.fs x.fc HDO0.out.fl (HDO0.out.fates HPM.out.bel (fun i => i = bx)) hws).mono ?_
        rintro e v4 ⟨rfl, hp, hk⟩
        have HPN := Lib.hid hp
        clear hp hk e4 HPM
        have HPE := HPN
        have HFE := Lib.hid ((HFW.out.wake x.fs).mono (Nat.le_succ _))
        clear HPN HFW HP3 HX3 c0 c1
        try clear c2
        try clear c3
        try clear c4
        generalize s.wake x.fs = s9 at *
        obtain ⟨fo, fc, ao2, cp2, hd, hfl⟩ := HPE.out.heads
        have d0 := hd.cell 0 _ rfl
        have d2 := hd.cell 2 _ rfl
        have d4 := hd.cell 4 _ rfl
        rw [hfl] at d0
        clear hd hfl
        go_wp2_with fail
        go_quiet ((first | (go_at_call 24; exact Calls.quiet_of_same (l_on (HPE.out.drewN (theDisk_stable _ _ _) (theRef_stable _ _ _) _))) | (go_at_call 25; exact Calls.quiet_of_same (l_ops (HPE.out.drewN (theDisk_stable _ _ _) (theRef_stable _ _ _) _))) | (go_at_call 26; exact Calls.quiet_of_same (l_len (HPE.out.drewN (theDisk_stable _ _ _) (theRef_stable _ _ _) _)))))
        go_wp2
        go_roundw
        case rel => exact ⟨k + 1, s9, by omega, by omega, by go_num, HFE.out, (HPE.out.drewN (theDisk_stable _ _ _) (theRef_stable _ _ _) _).more (av2 := none_) (fun _ h => h.elim)⟩
        case measure => simp [intOf]; omega
      · have r3 : (x.what == 3) = false := by simp; exact q3
        have r4 : (x.what == 4) = false := by simp; exact q4
        have r5 : (x.what == 5) = false := by simp; exact q5
        have r6 : (x.what == 6) = false := by simp; exact q6
        have r7 : (x.what == 7) = false := by simp; exact q7
        have r8 : (x.what == 8) = false := by simp; exact q8
        clear q3 q4 q5 q6 q7 q8 c4
        obtain ⟨m, hm⟩ : ∃ m : Nat, (m : Int) = min (max x.len 0) 200 := ⟨(min (max x.len 0) 200).toNat, by omega⟩
        go_wp2_with fail
        refine (bytes_any x.len x.n m hm w3).mono ?_
        rintro e v3 ⟨rfl, b3⟩
        obtain ⟨hp, hk⟩ := HP3.out.below (theDisk_stable _ _ _) (theRef_stable _ _ _) b3
        have HPM := Lib.hid hp
        have HXM := Lib.hid (hk.at HX3.out rfl)
        clear hp hk b3
        have hml : (List.replicate m x.n).length ≤ 9223372036854775807 := by rw [List.length_replicate]; omega
        clear hm
        generalize List.replicate m x.n = lb at *
        go_wp2_with fail
        refine region_any (fun W => W.cell? ⟨bx, 1, none⟩ = some (.int .i64 x.at_)) 11 (by kernel_rfl) ?_
        have S0 : (fun W => W.cell? ⟨bx, 1, none⟩ = some (.int .i64 x.at_)) v3.drew := HXM.out.drew.cell 1 _ rfl
        refine wpAnyT_takeN (i := 0) (v := (.pointer (some ⟨A, 0, none⟩))) rfl (by decide) (by kernel_rfl) (by kernel_rfl) (by kernel_rfl) (fun _ _ _ h => h) (.inl ⟨by kernel_rfl, fun W hS => by kernel_rfl⟩) S0 ?_
        refine wpAnyT_takeN (i := 1) (v := (.pointer (some ⟨bx, 1, none⟩))) rfl (by decide) (by kernel_rfl) (by kernel_rfl) (by kernel_rfl) (fun _ _ _ h => h) (.inl ⟨by kernel_rfl, fun W hS => by kernel_rfl⟩) S0 ?_
        refine wpAnyT_takeN (i := 2) (v := (.int .i64 x.at_)) rfl (by decide) (by kernel_rfl) (by kernel_rfl) (by kernel_rfl) (fun _ _ _ h => h) (.inl ⟨by kernel_rfl, fun W hS => run_load_one 3 (.tmp 60) rfl ⟨bx, 1, none⟩ (by kernel_rfl) _ hS _ Try.underlying3 rfl⟩) S0 ?_
        refine wpAnyT_takeN (i := 3) (v := (.string (bs lb))) rfl (by decide) (by kernel_rfl) (by kernel_rfl) (by kernel_rfl) (fun _ _ _ h => h) (.inl ⟨by kernel_rfl, fun W hS => by kernel_rfl⟩) S0 ?_
        refine wpAnyT_takeN (i := 5) (v := (.pointer (some ⟨B, 0, none⟩))) rfl (by decide) (by kernel_rfl) (by kernel_rfl) (by kernel_rfl) (fun _ _ _ h => h) (.inl ⟨by kernel_rfl, fun W hS => by kernel_rfl⟩) S0 ?_
        refine wpAnyT_takeN (i := 6) (v := (.pointer (some ⟨bx, 1, none⟩))) rfl (by decide) (by kernel_rfl) (by kernel_rfl) (by kernel_rfl) (fun _ _ _ h => h) (.inl ⟨by kernel_rfl, fun W hS => by kernel_rfl⟩) S0 ?_
        refine wpAnyT_takeN (i := 7) (v := (.int .i64 x.at_)) rfl (by decide) (by kernel_rfl) (by kernel_rfl) (by kernel_rfl) (fun _ _ _ h => h) (.inl ⟨by kernel_rfl, fun W hS => run_load_one 3 (.tmp 65) rfl ⟨bx, 1, none⟩ (by kernel_rfl) _ hS _ Try.underlying3 rfl⟩) S0 ?_
        refine wpAnyT_takeN (i := 8) (v := (.string (bs lb))) rfl (by decide) (by kernel_rfl) (by kernel_rfl) (by kernel_rfl) (fun _ _ _ h => h) (.inl ⟨by kernel_rfl, fun W hS => by kernel_rfl⟩) S0 ?_
        refine wpAnyT_all (rs := [4]) (by kernel_rfl) (by simp) ?_
        intro q hq
        obtain rfl : q = 4 := by simpa using hq
        refine wpOp_call rfl (by kernel_rfl) 22 #[.pointer (some ⟨A, 0, none⟩), .int .i64 x.at_, .string (bs lb)] (run_call_func rfl enter_Write _ (by kernel_rfl)) ((l_write (theRef_stable _ _ _) (HPM.out.drewN (theDisk_stable _ _ _) (theRef_stable _ _ _) 1) x.at_ lb hop hws hml).mono ?_)
        rintro e v4 ⟨rfl, hp, hk⟩
        have HPO := Lib.hid hp
        have HXO := Lib.hid (hk.at (HXM.out.drewN 1) rfl)
        clear hp hk
        generalize hE : s.writeE n x.at_ lb = rE at *
        refine ⟨_, rfl, fun _ => HXO.out.cell 1 _ rfl, ?_⟩
        refine wpAnyT_all (rs := [9]) (by kernel_rfl) (by simp) ?_
        intro q hq
        obtain rfl : q = 9 := by simpa using hq
        refine wpOp_call rfl (by kernel_rfl) 23 #[.pointer (some ⟨B, 0, none⟩), .int .i64 x.at_, .string (bs lb)] (run_call_func rfl enter_RWrite _ (by kernel_rfl)) ((b_write (theDisk_stable _ _ _) HPO.out x.at_ lb hop hws hml).mono ?_)
        rintro e v5 ⟨rfl, hp, hk⟩
        rw [hE]
        have HPN := Lib.hid hp
        have HS5 := Lib.hid ((hk.at HXO.out rfl).cell 1 _ rfl)
        refine ⟨_, rfl, fun _ => HS5.out, ?_⟩
        clear hp hk HPM HXM HPO HXO S0
        refine wpAnyT_all (rs := [10]) (by kernel_rfl) (by simp) ?_
        intro q hq
        obtain rfl : q = 10 := by simpa using hq
        refine wpOp_val rfl (by kernel_rfl) (run_neq_op (.tmp 63) (.tmp 68) rfl rE (by kernel_rfl) (by kernel_rfl)) ⟨fun _ => HS5.out, wpAnyT_done (by kernel_rfl) ?_ _⟩
        simp only [Act.put, List.getElem_toArray, List.getElem_cons_succ, List.getElem_cons_zero, List.setIfInBounds_toArray, List.set_cons_zero, List.set_cons_succ]
        clear hE HS5 r3 r4 r5 r6 r7 r8 hml
        have HPE := HPN
        have HFE := Lib.hid (HFW.out.write n x.at_ lb)
        clear HPN HFW HP3 HX3 c0 c1
        try clear c2
        try clear c3
        try clear c4
        generalize s.writeD n x.at_ lb = s9 at *
        obtain ⟨fo, fc, ao2, cp2, hd, hfl⟩ := HPE.out.heads
        have d0 := hd.cell 0 _ rfl
        have d2 := hd.cell 2 _ rfl
        have d4 := hd.cell 4 _ rfl
        rw [hfl] at d0
        clear hd hfl
        go_wp2_with fail
        go_quiet ((first | (go_at_call 24; exact Calls.quiet_of_same (l_on (HPE.out.drewN (theDisk_stable _ _ _) (theRef_stable _ _ _) _))) | (go_at_call 25; exact Calls.quiet_of_same (l_ops (HPE.out.drewN (theDisk_stable _ _ _) (theRef_stable _ _ _) _))) | (go_at_call 26; exact Calls.quiet_of_same (l_len (HPE.out.drewN (theDisk_stable _ _ _) (theRef_stable _ _ _) _)))))
        go_wp2
        go_roundw
        case rel => exact ⟨k + 1, s9, by omega, by omega, by go_num, HFE.out, (HPE.out.drewN (theDisk_stable _ _ _) (theRef_stable _ _ _) _).more (av2 := none_) (fun _ h => h.elim)⟩
        case measure => simp [intOf]; omega
    · have hex : ((len : Int) ≤ (k : Int) ∧ decide ((k : Int) < (len : Int)) = false) ∨ ((k : Int) < (len : Int) ∧ decide ((k : Int) < (len : Int)) = true ∧ decide ((k : Int) < 100) = false) := by
        by_cases h : k < len
        · exact .inr ⟨by omega, decide_eq_true (by omega), decide_eq_false (by omega)⟩
        · exact .inl ⟨by omega, decide_eq_false (by omega)⟩
      clear hlt
      have hws : s.ws.length ≤ 1000000 := by have := HFW.out.ws; omega
      have hfw2 : Few 100 (s.wake []) := (HFW.out.mono hk2).wake []
      have HF2 := Lib.hid (hfw2.arm 0)
      clear hfw2 HFW HD HL
      rcases hex with ⟨j1, i1⟩ | ⟨j1, i1, i2⟩
      · go_wp2_with fail
        refine (l_wake (theRef_stable _ _ _) HPP.out none [] 0 (by simp) (by simp) (fun j c h => by simp at h) hws).mono ?_
        rintro e v3 ⟨rfl, hp, hk⟩
        have HPM := Lib.hid hp
        clear hp hk
        go_wp2_with fail
        refine (b_wake (theDisk_stable _ _ _) HPM.out none [] 0 (by simp) (fun j c h => by simp at h) hws).mono ?_
        rintro e v4 ⟨rfl, hp, hk⟩
        have HPN := Lib.hid hp
        clear hp hk HPM
        go_wp2_with fail
        refine (l_arm (theRef_stable _ _ _) HPN.out 0 (by omega) (by omega)).mono ?_
        rintro e v5 ⟨rfl, hp, hk⟩
        have HPO := Lib.hid hp
        clear hp hk HPN
        go_wp2_with fail
        refine (b_arm (theDisk_stable _ _ _) HPO.out 0 (by omega) (by omega)).mono ?_
        rintro e v6 ⟨rfl, hp, hk⟩
        have HPQ := Lib.hid hp
        clear hp hk HPO
        generalize (s.wake []).arm 0 = s1 at *
        clear hws HPP
        go_wp2_with fail
        go_loopw [14] (fun x wx => ∃ (q : Nat) (s : Dk), q ≤ n ∧ q ≤ 20 ∧ x = .int .i64 q ∧ Few (100 + q) s ∧ Pair (theDisk n A s) (theRef n B s) w wx none_) (fun x _ => 20 - (intOf x).toNat)
        case atStart => exact ⟨0, s1, by omega, by omega, rfl, HF2.out, HPQ.out⟩
        clear HF2 HPQ
        case round =>
          obtain ⟨q, t, hq, hq2, rfl, hfw, hP⟩ := hrel
          have HFW := Lib.hid hfw
          have HPP := Lib.hid hP
          have hop : t.ops < 9223372036854775807 := by have := HFW.out.ops; omega
          have hwl : t.ws.length ≤ 1000000 := by have := HFW.out.ws; omega
          clear hfw hP
          have hcase : ((20 : Int) < n ∧ (q : Int) < 20) ∨ ((n : Int) ≤ 20 ∧ (q : Int) < n) ∨ ((20 : Int) < n ∧ (20 : Int) ≤ q) ∨ ((n : Int) ≤ 20 ∧ (n : Int) ≤ q) := by omega
          rcases hcase with ⟨z1, z2⟩ | ⟨z1, z2⟩ | ⟨z1, z2⟩ | ⟨z1, z2⟩
          · go_wp2_with fail
            refine (l_read (theRef_stable _ _ _) HPP.out (q : Int) hop).mono ?_
            rintro e v7 ⟨rfl, hp, hk⟩
            have HPM := Lib.hid hp
            clear hp hk
            generalize hS : t.readS n (q : Int) = lS at *
            generalize hE : t.readE n (q : Int) = rE at *
            go_wp2_with fail
            refine (b_read (theDisk_stable _ _ _) HPM.out (q : Int) hop hwl).mono ?_
            rintro e v8 ⟨rfl, hp, hk⟩
            rw [hS, hE]
            have HPN := Lib.hid hp
            clear hp hk HPM hS hE
            have HFE := Lib.hid (HFW.out.read n (q : Int))
            generalize t.readD n (q : Int) = t9 at *
            go_wp2
            go_roundw
            case rel => exact ⟨q + 1, t9, by omega, by omega, by go_num, HFE.out, HPN.out⟩
            case measure => simp [intOf]; omega
          · go_wp2_with fail
            refine (l_read (theRef_stable _ _ _) HPP.out (q : Int) hop).mono ?_
            rintro e v7 ⟨rfl, hp, hk⟩
            have HPM := Lib.hid hp
            clear hp hk
            generalize hS : t.readS n (q : Int) = lS at *
            generalize hE : t.readE n (q : Int) = rE at *
            go_wp2_with fail
            refine (b_read (theDisk_stable _ _ _) HPM.out (q : Int) hop hwl).mono ?_
            rintro e v8 ⟨rfl, hp, hk⟩
            rw [hS, hE]
            have HPN := Lib.hid hp
            clear hp hk HPM hS hE
            have HFE := Lib.hid (HFW.out.read n (q : Int))
            generalize t.readD n (q : Int) = t9 at *
            go_wp2
            go_roundw
            case rel => exact ⟨q + 1, t9, by omega, by omega, by go_num, HFE.out, HPN.out⟩
            case measure => simp [intOf]; omega
          · go_wp2_with fail
            refine (works_any _).mono ?_
            rintro e v9 ⟨rfl, b9⟩
            have hB := HPP.out.bel
            have HBB := Lib.hid (hB.trans (b9.mono hB.size))
            clear b9 hB
            go_wp2
            go_ret
            exact ⟨rfl, HBB.out⟩
          · go_wp2_with fail
            refine (works_any _).mono ?_
            rintro e v9 ⟨rfl, b9⟩
            have hB := HPP.out.bel
            have HBB := Lib.hid (hB.trans (b9.mono hB.size))
            clear b9 hB
            go_wp2
            go_ret
            exact ⟨rfl, HBB.out⟩
      · go_wp2_with fail
        refine (l_wake (theRef_stable _ _ _) HPP.out none [] 0 (by simp) (by simp) (fun j c h => by simp at h) hws).mono ?_
        rintro e v3 ⟨rfl, hp, hk⟩
        have HPM := Lib.hid hp
        clear hp hk
        go_wp2_with fail
        refine (b_wake (theDisk_stable _ _ _) HPM.out none [] 0 (by simp) (fun j c h => by simp at h) hws).mono ?_
        rintro e v4 ⟨rfl, hp, hk⟩
        have HPN := Lib.hid hp
        clear hp hk HPM
        go_wp2_with fail
        refine (l_arm (theRef_stable _ _ _) HPN.out 0 (by omega) (by omega)).mono ?_
        rintro e v5 ⟨rfl, hp, hk⟩
        have HPO := Lib.hid hp
        clear hp hk HPN
        go_wp2_with fail
        refine (b_arm (theDisk_stable _ _ _) HPO.out 0 (by omega) (by omega)).mono ?_
        rintro e v6 ⟨rfl, hp, hk⟩
        have HPQ := Lib.hid hp
        clear hp hk HPO
        generalize (s.wake []).arm 0 = s1 at *
        clear hws HPP
        go_wp2_with fail
        go_loopw [14] (fun x wx => ∃ (q : Nat) (s : Dk), q ≤ n ∧ q ≤ 20 ∧ x = .int .i64 q ∧ Few (100 + q) s ∧ Pair (theDisk n A s) (theRef n B s) w wx none_) (fun x _ => 20 - (intOf x).toNat)
        case atStart => exact ⟨0, s1, by omega, by omega, rfl, HF2.out, HPQ.out⟩
        clear HF2 HPQ
        case round =>
          obtain ⟨q, t, hq, hq2, rfl, hfw, hP⟩ := hrel
          have HFW := Lib.hid hfw
          have HPP := Lib.hid hP
          have hop : t.ops < 9223372036854775807 := by have := HFW.out.ops; omega
          have hwl : t.ws.length ≤ 1000000 := by have := HFW.out.ws; omega
          clear hfw hP
          have hcase : ((20 : Int) < n ∧ (q : Int) < 20) ∨ ((n : Int) ≤ 20 ∧ (q : Int) < n) ∨ ((20 : Int) < n ∧ (20 : Int) ≤ q) ∨ ((n : Int) ≤ 20 ∧ (n : Int) ≤ q) := by omega
          rcases hcase with ⟨z1, z2⟩ | ⟨z1, z2⟩ | ⟨z1, z2⟩ | ⟨z1, z2⟩
          · go_wp2_with fail
            refine (l_read (theRef_stable _ _ _) HPP.out (q : Int) hop).mono ?_
            rintro e v7 ⟨rfl, hp, hk⟩
            have HPM := Lib.hid hp
            clear hp hk
            generalize hS : t.readS n (q : Int) = lS at *
            generalize hE : t.readE n (q : Int) = rE at *
            go_wp2_with fail
            refine (b_read (theDisk_stable _ _ _) HPM.out (q : Int) hop hwl).mono ?_
            rintro e v8 ⟨rfl, hp, hk⟩
            rw [hS, hE]
            have HPN := Lib.hid hp
            clear hp hk HPM hS hE
            have HFE := Lib.hid (HFW.out.read n (q : Int))
            generalize t.readD n (q : Int) = t9 at *
            go_wp2
            go_roundw
            case rel => exact ⟨q + 1, t9, by omega, by omega, by go_num, HFE.out, HPN.out⟩
            case measure => simp [intOf]; omega
          · go_wp2_with fail
            refine (l_read (theRef_stable _ _ _) HPP.out (q : Int) hop).mono ?_
            rintro e v7 ⟨rfl, hp, hk⟩
            have HPM := Lib.hid hp
            clear hp hk
            generalize hS : t.readS n (q : Int) = lS at *
            generalize hE : t.readE n (q : Int) = rE at *
            go_wp2_with fail
            refine (b_read (theDisk_stable _ _ _) HPM.out (q : Int) hop hwl).mono ?_
            rintro e v8 ⟨rfl, hp, hk⟩
            rw [hS, hE]
            have HPN := Lib.hid hp
            clear hp hk HPM hS hE
            have HFE := Lib.hid (HFW.out.read n (q : Int))
            generalize t.readD n (q : Int) = t9 at *
            go_wp2
            go_roundw
            case rel => exact ⟨q + 1, t9, by omega, by omega, by go_num, HFE.out, HPN.out⟩
            case measure => simp [intOf]; omega
          · go_wp2_with fail
            refine (works_any _).mono ?_
            rintro e v9 ⟨rfl, b9⟩
            have hB := HPP.out.bel
            have HBB := Lib.hid (hB.trans (b9.mono hB.size))
            clear b9 hB
            go_wp2
            go_ret
            exact ⟨rfl, HBB.out⟩
          · go_wp2_with fail
            refine (works_any _).mono ?_
            rintro e v9 ⟨rfl, b9⟩
            have hB := HPP.out.bel
            have HBB := Lib.hid (hB.trans (b9.mono hB.size))
            clear b9 hB
            go_wp2
            go_ret
            exact ⟨rfl, HBB.out⟩
end Go.Proofs.Ytalphongcnackaa
