/- The document's Check, node and Encode. -/
import Derived.Test.YtdpeblchndfdaaaPc
import Derived.Test.YtdpeblchndfdaaaW5
namespace Go.Proofs.Ytdpeblchndfdaaa
open Go.RowKit
set_option maxRecDepth 100000
theorem enters_rPutNum : ∀ args w, (callFunc 51 args).run Try.prog w = .ok (.enter 51 args) w := enters_of Try.func51 (by kernel_rfl) rfl
theorem enters_rPutText : ∀ args w, (callFunc 27 args).run Try.prog w = .ok (.enter 27 args) w := enters_of Try.func27 (by kernel_rfl) rfl
theorem enters_rnode : ∀ args w, (callFunc 26 args).run Try.prog w = .ok (.enter 26 args) w := enters_of Try.func26 (by kernel_rfl) rfl
set_option maxHeartbeats 2000000 in
theorem rCheck_any (h : Nat) (n : Nd) (ao : Option Addr) (cap : Nat) (w : World) (hH : Has any_ w h n ao) (hNB : ∀ j, NamB j n) (hGN : depthL 14 n ≤ 12 → mayL h n = true → (nodesL h 1 n).length ≤ 1000000000000000000 ∧ bytesL (nodesL h 1 n) ≤ 1000000000000000000) :
    Calls Try.prog 25 #[n.v ao cap] w fun e w' => e = .returned (.int .i64 (checkL h n)) ∧ Below w.heap.size w w' := by
  have HH := Lib.hid hH
  have HGN := Lib.hid hGN
  have HNB := Lib.hid hNB
  obtain ⟨R, hR⟩ : ∃ R, R = checkL h n := ⟨_, rfl⟩
  rw [← hR]
  unfold checkL at hR
  obtain ⟨D, hD⟩ : ∃ D, D = depthL 14 n := ⟨_, rfl⟩
  obtain ⟨M, hM⟩ : ∃ M, M = mayL h n := ⟨_, rfl⟩
  obtain ⟨C, hC⟩ : ∃ C, C = (nodesL h 1 n).length := ⟨_, rfl⟩
  obtain ⟨Y, hY⟩ : ∃ Y, Y = bytesL (nodesL h 1 n) := ⟨_, rfl⟩
  rw [← hD, ← hM, ← hC, ← hY] at hR
  have HD := Lib.hid hD
  have HM := Lib.hid hM
  have HC := Lib.hid hC
  have HY := Lib.hid hY
  have HR := Lib.hid hR
  clear hH hGN hNB hR hD hM hC hY
  cases n with
  | mk nm kd ex dt ks =>
  change Hid (R = if 12 < D then 3 else if !nm.isEmpty || !M then 2 else if 2000 < C ∨ 100000 < Y then 3 else 0) at HR
  go_enter Try.func25, Try.ntmps25
  go_wp2_with (first
    | (with_reducible refine box_any rfl 24 (.tmp 0) rfl [.string (bs nm), .int .i64 kd, .bool ex, .string (bs dt), .slice ao ks.length cap] rfl ?_; intro u hu bu zu; have HU := Lib.hid hu; have BU := Lib.hid bu; clear hu bu)
    | (refine load_any rfl 24 (.tmp 1) rfl ⟨w.heap.size, 0, none⟩ rfl [.string (bs nm), .int .i64 kd, .bool ex, .string (bs dt), .slice ao ks.length cap] _ (fun j v hj => by rw [Addr.add0]; exact HU.out.cell j v hj) Try.underlying24 rfl info_nd ?_))
  refine (rDeep_any h ⟨nm, kd, ex, dt, ks⟩ ao cap u (HH.out.below BU.out)).mono ?_
  rintro e w2 ⟨rfl, b2⟩
  rw [← HD.out]
  have z2 := b2.size
  have HU2 := Lib.hid (HU.out.below b2 HU.out.lt)
  have HB2 := Lib.hid (BU.out.trans (b2.mono (by omega)))
  clear b2 HU BU
  have a0 := HU2.out.cell 0 _ rfl
  have a1 := HU2.out.cell 1 _ rfl
  have a2 := HU2.out.cell 2 _ rfl
  have a3 := HU2.out.cell 3 _ rfl
  have a4 := HU2.out.cell 4 _ rfl
  by_cases hd : 12 < D
  · have hd' : (12 : Int) < D := by omega
    go_wp2_with fail
    go_ret
    refine ⟨?_, HB2.out⟩
    rw [HR.out, if_pos hd]; rfl
  · have hd' : ¬ (12 : Int) < D := by omega
    by_cases hn : nm = []
    · subst hn
      go_wp2_with fail
      refine (rmay_any h ⟨[], kd, ex, dt, ks⟩ ao cap w2 (HH.out.below HB2.out) HNB.out).mono ?_
      rintro e w3 ⟨rfl, b3⟩
      rw [← HM.out]
      have z3 := b3.size
      have HU3 := Lib.hid (HU2.out.below b3 HU2.out.lt)
      have HB3 := Lib.hid (HB2.out.trans (b3.mono (by omega)))
      clear b3 a0 a1 a2 a3 a4 HU2 HB2
      cases M
      · go_wp2_with fail
        go_ret
        refine ⟨?_, HB3.out⟩
        rw [HR.out, if_neg hd]; rfl
      · go_wp2_with (refine load_any rfl 24 (.tmp 1) rfl ⟨w.heap.size, 0, none⟩ rfl [.string (bs []), .int .i64 kd, .bool ex, .string (bs dt), .slice ao ks.length cap] _ (fun j v hj => by rw [Addr.add0]; exact HU3.out.cell j v hj) Try.underlying24 rfl info_nd ?_)
        obtain ⟨hG, hN⟩ := HGN.out (by rw [← HD.out]; omega) HM.out.symm
        have hCN : C ≤ 1000000000000000000 := by rw [HC.out]; omega
        refine (rsize_any h 1 ⟨[], kd, ex, dt, ks⟩ ao cap w3 HM.out.symm (by rw [← HD.out]; omega) (HH.out.below HB3.out) hG hN).mono ?_
        clear hG hN
        rintro e w4 ⟨rfl, b4⟩
        rw [← HC.out, ← HY.out]
        have HB4 := Lib.hid (HB3.out.trans (b4.mono (by omega)))
        clear b4 HU3 HB3
        by_cases hC : 2000 < C
        · have hC' : (2000 : Int) < C := by omega
          go_wp2_with fail
          go_ret
          refine ⟨?_, HB4.out⟩
          rw [HR.out, if_neg hd, if_neg (by simp), if_pos (.inl hC)]; rfl
        have hC' : ¬ (2000 : Int) < C := by omega
        by_cases hY : 100000 < Y
        · have hY' : (100000 : Int) < Y := by omega
          go_wp2_with fail
          go_ret
          refine ⟨?_, HB4.out⟩
          rw [HR.out, if_neg hd, if_neg (by simp), if_pos (.inr hY)]; rfl
        · have hY' : ¬ (100000 : Int) < Y := by omega
          go_wp2_with fail
          go_ret
          refine ⟨?_, HB4.out⟩
          rw [HR.out, if_neg hd, if_neg (by simp), if_neg (by omega)]; rfl
    · have hn2 : (nm == []) = false := by simpa using hn
      have hn3 : nm.isEmpty = false := by simpa using hn
      go_wp2_with fail
      go_ret
      refine ⟨?_, HB2.out⟩
      rw [HR.out, if_neg hd, hn3]; rfl
theorem refnum_l (l : List UInt8) (n : Nat) (w : World) (hl : l.length ≤ 1152921504606846976) (hn : n < Plain.big) :
    Calls Try.prog 51 #[.string (bs l), .int .u64 n] w fun e w' => e = .returned (.string (bs (l ++ Plain.row n))) ∧ Below w.heap.size w w' := by
  refine (refPutNum_any (bs l) n w (by rw [bs_size]; omega) hn).mono ?_
  rintro e w' ⟨rfl, b⟩
  exact ⟨by rw [bs_append], b⟩
theorem reftext_l (l t : List UInt8) (w : World) (hl : l.length ≤ 1152921504606846976) (ht : t.length ≤ 1152921504606846976) :
    Calls Try.prog 27 #[.string (bs l), .string (bs t)] w fun e w' => e = .returned (.string (bs (l ++ txt t))) ∧ Below w.heap.size w w' := by
  refine (refPutText_any (bs l) (bs t) w (by rw [bs_size]; omega) (by rw [bs_size]; omega)).mono ?_
  rintro e w' ⟨rfl, b⟩
  exact ⟨by rw [bs_size, bs_append, bs_append, List.append_assoc]; rfl, b⟩
set_option maxHeartbeats 8000000 in
theorem dnode_any : ∀ (h : Nat) (n : Nd) (ao : Option Addr) (cap : Nat) (l : List UInt8) (w : World), mayL h n = true → Has any_ w h n ao → l.length + (encL h n).length ≤ 1000000000 →
    Calls Try.prog 26 #[.string (bs l), n.v ao cap] w fun e w' => e = .returned (.string (bs (l ++ encL h n))) ∧ Below w.heap.size w w' := by
  intro h
  induction h with
  | zero => intro n ao cap l w hm; cases hm
  | succ h ih =>
    intro n ao cap l w hm hH hL
    have IH := Lib.hid ih
    have HH := Lib.hid hH
    have hmc := may_cases hm
    have hE : encL (h + 1) n = Plain.row n.kind.toNat ++ (if n.kind = 1 then Plain.row (if n.exec then 1 else 0) ++ txt n.data else if n.kind = 3 then txt n.data else Plain.row n.kids.length ++ n.kids.flatMap (entryL (encL h))) := rfl
    obtain ⟨R, hR⟩ : ∃ R, R = l ++ encL (h + 1) n := ⟨_, rfl⟩
    rw [← hR]
    rw [hE] at hR hL
    clear ih hH hm hE
    cases n with
    | mk nm kd ex dt ks =>
    rcases hmc with ⟨h1, _⟩ | ⟨h1, _, _, h5⟩ | ⟨h1, _, _, _⟩
    · change kd = 1 at h1
      subst h1
      change R = l ++ (Plain.row 1 ++ if (1 : Int) = 1 then Plain.row (if ex then 1 else 0) ++ txt dt else _) at hR
      change l.length + (Plain.row 1 ++ if (1 : Int) = 1 then Plain.row (if ex then 1 else 0) ++ txt dt else _).length ≤ _ at hL
      rw [if_pos rfl] at hR hL
      have hdl : dt.length ≤ (txt dt).length := by unfold txt; rw [List.length_append]; omega
      simp only [List.length_append] at hL
      have HR := Lib.hid hR
      clear hR
      go_enter Try.func26, Try.ntmps26
      go_wp2_with (with_reducible refine box_any rfl 24 (.tmp 1) rfl [.string (bs nm), .int .i64 1, .bool ex, .string (bs dt), .slice ao ks.length cap] rfl ?_; intro u hu bu zu; have c1 := hu.cell 1 _ rfl; have HU := Lib.hid hu; have BU := Lib.hid bu; clear hu bu)
      refine (refnum_l l 1 u (by omega) (by decide)).mono ?_
      rintro e w1 ⟨rfl, b1⟩
      have z1 := b1.size
      have HU1 := Lib.hid (HU.out.below b1 HU.out.lt)
      have HB1 := Lib.hid (BU.out.trans (b1.mono (by omega)))
      clear b1 HU BU c1
      have c1 := HU1.out.cell 1 _ rfl
      have c2 := HU1.out.cell 2 _ rfl
      have hxb : ∀ b : Bool, (if b then 1 else 0 : Nat) < Plain.big := by intro b; cases b <;> decide
      generalize hlf : l ++ Plain.row 1 = lf
      have hlfl : lf.length = l.length + (Plain.row 1).length := by rw [← hlf, List.length_append]
      have HLF := Lib.hid hlf
      clear hlf
      have hr1 : (Plain.row 0).length = 1 ∧ (Plain.row 1).length = 1 := ⟨row_one (by decide), row_one (by decide)⟩
      cases ex
      · go_wp2_with fail
        refine region_any (fun W => Below w1.heap.size w1 W) 7 (by kernel_rfl) ?_
        show wpAnyT _ _ _ _ _ _ _ _ _ w1.drew
        have S0 : Below w1.heap.size w1 w1.drew := below_drewN w1 1
        generalize w1.drew = v0 at S0 ⊢
        refine wpAnyT_takeN (i := 0) (v := .string (bs lf)) rfl (by decide) (by kernel_rfl) (by kernel_rfl) (by kernel_rfl) (fun _ _ _ h => h) (.inl ⟨by kernel_rfl, fun W hS => by kernel_rfl⟩) S0 ?_
        refine wpAnyT_takeN (i := 1) (v := .int .u64 0) rfl (by decide) (by kernel_rfl) (by kernel_rfl) (by kernel_rfl) (fun _ _ _ h => h) (.inl ⟨by kernel_rfl, fun W hS => by kernel_rfl⟩) S0 ?_
        refine wpAnyT_takeN (i := 3) (v := .pointer (some ⟨w.heap.size, 3, none⟩)) rfl (by decide) (by kernel_rfl) (by kernel_rfl) (by kernel_rfl) (fun _ _ _ h => h) (.inl ⟨by kernel_rfl, fun W hS => by kernel_rfl⟩) S0 ?_
        refine wpAnyT_takeN (i := 4) (v := .string (bs dt)) rfl (by decide) (by kernel_rfl) (by kernel_rfl) (by kernel_rfl) (fun _ _ _ h => h) (.inl ⟨by kernel_rfl, fun W hS => run_load_one 9 (.tmp 21) rfl ⟨w.heap.size, 3, none⟩ (by kernel_rfl) _ ((HU1.out.below hS HU1.out.lt).cell 3 _ rfl) _ Try.underlying9 rfl⟩) S0 ?_
        refine wpAnyT_call (i := 2) (by kernel_rfl) rfl (by kernel_rfl) 51 #[.string (bs lf), .int .u64 0] (run_call_func rfl enters_rPutNum _ (by kernel_rfl)) ((refnum_l lf 0 v0 (by omega) (by decide)).mono ?_)
        rintro e v2 ⟨rfl, b2⟩
        have S1 : Below w1.heap.size w1 v2 := S0.trans (b2.mono S0.size)
        refine ⟨_, rfl, S1, ?_⟩
        clear S0
        have S0 := S1
        refine wpAnyT_call (i := 5) (by kernel_rfl) rfl (by kernel_rfl) 27 #[.string (bs (lf ++ Plain.row 0)), .string (bs dt)] (run_call_func rfl enters_rPutText _ (by kernel_rfl)) ((reftext_l (lf ++ Plain.row 0) dt v2 (by rw [List.length_append]; omega) (by omega)).mono ?_)
        rintro e v3 ⟨rfl, b3⟩
        have S3 : Below w1.heap.size w1 v3 := S1.trans (b3.mono S1.size)
        refine ⟨_, rfl, S3, ?_⟩
        clear S0
        have S0 := S3
        refine wpAnyT_takeN (i := 6) (v := .string (bs (lf ++ Plain.row 0 ++ txt dt))) rfl (by decide) (by kernel_rfl) (by kernel_rfl) (by kernel_rfl) (fun _ _ _ h => h) (.inl ⟨by kernel_rfl, fun W hS => by kernel_rfl⟩) S0 ?_
        refine wpAnyT_done (by kernel_rfl) ?_ _
        simp only [Act.put, List.getElem_toArray, List.getElem_cons_succ, List.getElem_cons_zero, List.setIfInBounds_toArray, List.set_cons_zero, List.set_cons_succ]
        clear S0
        go_wp2_with fail
        go_ret
        exact ⟨by rw [HR.out, ← HLF.out]; simp only [List.append_assoc]; rfl, HB1.out.trans (S3.mono HB1.out.size)⟩
      · go_wp2_with fail
        refine region_any (fun W => Below w1.heap.size w1 W) 7 (by kernel_rfl) ?_
        show wpAnyT _ _ _ _ _ _ _ _ _ w1.drew
        have S0 : Below w1.heap.size w1 w1.drew := below_drewN w1 1
        generalize w1.drew = v0 at S0 ⊢
        refine wpAnyT_takeN (i := 0) (v := .string (bs lf)) rfl (by decide) (by kernel_rfl) (by kernel_rfl) (by kernel_rfl) (fun _ _ _ h => h) (.inl ⟨by kernel_rfl, fun W hS => by kernel_rfl⟩) S0 ?_
        refine wpAnyT_takeN (i := 1) (v := .int .u64 1) rfl (by decide) (by kernel_rfl) (by kernel_rfl) (by kernel_rfl) (fun _ _ _ h => h) (.inl ⟨by kernel_rfl, fun W hS => by kernel_rfl⟩) S0 ?_
        refine wpAnyT_takeN (i := 3) (v := .pointer (some ⟨w.heap.size, 3, none⟩)) rfl (by decide) (by kernel_rfl) (by kernel_rfl) (by kernel_rfl) (fun _ _ _ h => h) (.inl ⟨by kernel_rfl, fun W hS => by kernel_rfl⟩) S0 ?_
        refine wpAnyT_takeN (i := 4) (v := .string (bs dt)) rfl (by decide) (by kernel_rfl) (by kernel_rfl) (by kernel_rfl) (fun _ _ _ h => h) (.inl ⟨by kernel_rfl, fun W hS => run_load_one 9 (.tmp 21) rfl ⟨w.heap.size, 3, none⟩ (by kernel_rfl) _ ((HU1.out.below hS HU1.out.lt).cell 3 _ rfl) _ Try.underlying9 rfl⟩) S0 ?_
        refine wpAnyT_call (i := 2) (by kernel_rfl) rfl (by kernel_rfl) 51 #[.string (bs lf), .int .u64 1] (run_call_func rfl enters_rPutNum _ (by kernel_rfl)) ((refnum_l lf 1 v0 (by omega) (by decide)).mono ?_)
        rintro e v2 ⟨rfl, b2⟩
        have S1 : Below w1.heap.size w1 v2 := S0.trans (b2.mono S0.size)
        refine ⟨_, rfl, S1, ?_⟩
        clear S0
        have S0 := S1
        refine wpAnyT_call (i := 5) (by kernel_rfl) rfl (by kernel_rfl) 27 #[.string (bs (lf ++ Plain.row 1)), .string (bs dt)] (run_call_func rfl enters_rPutText _ (by kernel_rfl)) ((reftext_l (lf ++ Plain.row 1) dt v2 (by rw [List.length_append]; omega) (by omega)).mono ?_)
        rintro e v3 ⟨rfl, b3⟩
        have S3 : Below w1.heap.size w1 v3 := S1.trans (b3.mono S1.size)
        refine ⟨_, rfl, S3, ?_⟩
        clear S0
        have S0 := S3
        refine wpAnyT_takeN (i := 6) (v := .string (bs (lf ++ Plain.row 1 ++ txt dt))) rfl (by decide) (by kernel_rfl) (by kernel_rfl) (by kernel_rfl) (fun _ _ _ h => h) (.inl ⟨by kernel_rfl, fun W hS => by kernel_rfl⟩) S0 ?_
        refine wpAnyT_done (by kernel_rfl) ?_ _
        simp only [Act.put, List.getElem_toArray, List.getElem_cons_succ, List.getElem_cons_zero, List.setIfInBounds_toArray, List.set_cons_zero, List.set_cons_succ]
        clear S0
        go_wp2_with fail
        go_ret
        exact ⟨by rw [HR.out, ← HLF.out]; simp only [List.append_assoc]; rfl, HB1.out.trans (S3.mono HB1.out.size)⟩
    · change kd = 2 at h1
      change kidsOk (mayL h) ks = true at h5
      subst h1
      change R = l ++ (Plain.row 2 ++ if (2 : Int) = 1 then _ else if (2 : Int) = 3 then _ else Plain.row ks.length ++ ks.flatMap (entryL (encL h))) at hR
      change l.length + (Plain.row 2 ++ if (2 : Int) = 1 then _ else if (2 : Int) = 3 then _ else Plain.row ks.length ++ ks.flatMap (entryL (encL h))).length ≤ _ at hL
      rw [if_neg (by decide), if_neg (by decide)] at hR hL
      simp only [List.length_append] at hL
      have HR := Lib.hid hR
      have hkk := Lib.hid (kidsOk_all h5)
      have hkl := HH.out.1
      unfold maxLen at hkl
      change ks.length ≤ _ at hkl
      have HKS := Lib.hid HH.out.2
      clear hR h5
      go_enter Try.func26, Try.ntmps26
      go_wp2_with (with_reducible refine box_any rfl 24 (.tmp 1) rfl [.string (bs nm), .int .i64 2, .bool ex, .string (bs dt), .slice ao ks.length cap] rfl ?_; intro u hu bu zu; have c1 := hu.cell 1 _ rfl; have HU := Lib.hid hu; have BU := Lib.hid bu; clear hu bu)
      refine (refnum_l l 2 u (by omega) (by decide)).mono ?_
      rintro e w1 ⟨rfl, b1⟩
      have z1 := b1.size
      have HU1 := Lib.hid (HU.out.below b1 HU.out.lt)
      have HB1 := Lib.hid (BU.out.trans (b1.mono (by omega)))
      clear b1 HU BU c1
      have c1 := HU1.out.cell 1 _ rfl
      have c4 := HU1.out.cell 4 _ rfl
      generalize hlf : l ++ Plain.row 2 = lf
      have hlfl : lf.length = l.length + (Plain.row 2).length := by rw [← hlf, List.length_append]
      have HLF := Lib.hid hlf
      clear hlf
      have hwr : IntKind.u64.wrap (ks.length : Int) = (ks.length : Int) := by rw [IntKind.wrap_u64]; omega
      go_wp2_with fail
      refine (refnum_l lf ks.length w1 (by omega) (by unfold Plain.big; omega)).mono ?_
      rintro e w2 ⟨rfl, b2⟩
      have HU2 := Lib.hid (HU1.out.below b2 HU1.out.lt)
      have HB2 := Lib.hid (HB1.out.trans (b2.mono HB1.out.size))
      clear b2 HU1 HB1 c1 c4
      generalize hlg : lf ++ Plain.row ks.length = lg
      have hlgl : lg.length = lf.length + (Plain.row ks.length).length := by rw [← hlg, List.length_append]
      have HLG := Lib.hid hlg
      clear hlg
      go_wp2_with fail
      go_loopw [0, 6] (fun s i wx => ∃ k : Nat, k ≤ ks.length ∧ s = .string (bs (lg ++ (ks.take k).flatMap (entryL (encL h)))) ∧ i = .int .i64 k ∧ At wx w.heap.size 24 [.string (bs nm), .int .i64 2, .bool ex, .string (bs dt), .slice ao ks.length cap] ∧ Below w.heap.size w wx) (fun _ i _ => ks.length - (intOf i).toNat)
      case atStart => exact ⟨0, Nat.zero_le _, by rw [List.take_zero, List.flatMap_nil, List.append_nil], rfl, HU2.out, HB2.out⟩
      clear HU2 HB2
      case round =>
        obtain ⟨k, hk, rfl, rfl, hA, hB⟩ := hrel
        have c4 := hA.cell 4 _ rfl
        have HA := Lib.hid hA
        have HB := Lib.hid hB
        have hwz := hB.size
        clear hA hB
        by_cases hlt : k < ks.length
        · have hlt' : (k : Int) < ks.length := by omega
          obtain ⟨m, hm⟩ : ∃ m, ks[k]? = some m := ⟨_, List.getElem?_eq_getElem hlt⟩
          obtain ⟨x, g, c, rfl, _, hK, hM⟩ := HKS.out k m hm
          have HMM := Lib.hid (hkk.out m (List.mem_of_getElem? hm))
          obtain ⟨f1, f2⟩ := flat_take (entryL (encL h)) ks k m hm
          have HK := Lib.hid (hK.kept (HB.out.block x.block hK.lt))
          have HM := Lib.hid (hM.below HB.out)
          have HF2 := Lib.hid f2
          generalize (ks.take k).flatMap (entryL (encL h)) = P at f1 HF2 ⊢
          have hel : (entryL (encL h) m).length = (txt m.name).length + (encL h m).length := by unfold entryL; rw [List.length_append]
          have htl : m.name.length ≤ (txt m.name).length := by unfold txt; rw [List.length_append]; omega
          clear hK hM hm f2
          go_wp2_with fail
          refine region_any (fun W => Below wr.heap.size wr W) 15 (by kernel_rfl) ?_
          show wpAnyT _ _ _ _ _ _ _ _ _ wr.drew
          have S0 : Below wr.heap.size wr wr.drew := below_drewN wr 1
          generalize wr.drew = v0 at S0 ⊢
          refine wpAnyT_takeN (i := 0) (v := .string (bs (lg ++ P))) rfl (by decide) (by kernel_rfl) (by kernel_rfl) (by kernel_rfl) (fun _ _ _ h => h) (.inl ⟨by kernel_rfl, fun W hS => by kernel_rfl⟩) S0 ?_
          refine wpAnyT_takeN (i := 1) (v := .pointer (some ⟨w.heap.size, 4, none⟩)) rfl (by decide) (by kernel_rfl) (by kernel_rfl) (by kernel_rfl) (fun _ _ _ h => h) (.inl ⟨by kernel_rfl, fun W hS => by kernel_rfl⟩) S0 ?_
          refine wpAnyT_takeN (i := 2) (v := .slice (some x) ks.length cap) rfl (by decide) (by kernel_rfl) (by kernel_rfl) (by kernel_rfl) (fun _ _ _ h => h) (.inl ⟨by kernel_rfl, fun W hS => run_load_one 22 (.tmp 44) rfl ⟨w.heap.size, 4, none⟩ (by kernel_rfl) _ ((HA.out.below hS HA.out.lt).cell 4 _ rfl) _ Try.underlying22 rfl⟩) S0 ?_
          refine wpAnyT_takeN (i := 3) (v := .int .i64 (k : Int)) rfl (by decide) (by kernel_rfl) (by kernel_rfl) (by kernel_rfl) (fun _ _ _ h => h) (.inl ⟨by kernel_rfl, fun W hS => by kernel_rfl⟩) S0 ?_
          refine wpAnyT_takeN (i := 4) (v := .pointer (some (x.add (k * 5)))) rfl (by decide) (by kernel_rfl) (by kernel_rfl) (by kernel_rfl) (fun _ _ _ h => h) (.inl ⟨by kernel_rfl, fun W hS => run_index_op 22 24 (.tmp 45) (.tmp 46) rfl x ks.length cap k (by kernel_rfl) (by kernel_rfl) hlt 5 _ rfl Try.underlying22 info_nd⟩) S0 ?_
          refine wpAnyT_takeN (i := 5) (v := .pointer (some ((x.add (k * 5)).add 0))) rfl (by decide) (by kernel_rfl) (by kernel_rfl) (by kernel_rfl) (fun _ _ _ h => h) (.inl ⟨by kernel_rfl, fun W hS => by kernel_rfl⟩) S0 ?_
          refine wpAnyT_takeN (i := 6) (v := .string (bs m.name)) rfl (by decide) (by kernel_rfl) (by kernel_rfl) (by kernel_rfl) (fun _ _ _ h => h) (.inl ⟨by kernel_rfl, fun W hS => run_load_one 9 (.tmp 48) rfl ((x.add (k * 5)).add 0) (by kernel_rfl) _ ((HK.out.kept (hS.block _ HK.out.lt)) 0 _ rfl) _ Try.underlying9 rfl⟩) S0 ?_
          refine wpAnyT_takeN (i := 8) (v := .pointer (some ⟨w.heap.size, 4, none⟩)) rfl (by decide) (by kernel_rfl) (by kernel_rfl) (by kernel_rfl) (fun _ _ _ h => h) (.inl ⟨by kernel_rfl, fun W hS => by kernel_rfl⟩) S0 ?_
          refine wpAnyT_takeN (i := 9) (v := .slice (some x) ks.length cap) rfl (by decide) (by kernel_rfl) (by kernel_rfl) (by kernel_rfl) (fun _ _ _ h => h) (.inl ⟨by kernel_rfl, fun W hS => run_load_one 22 (.tmp 51) rfl ⟨w.heap.size, 4, none⟩ (by kernel_rfl) _ ((HA.out.below hS HA.out.lt).cell 4 _ rfl) _ Try.underlying22 rfl⟩) S0 ?_
          refine wpAnyT_takeN (i := 10) (v := .int .i64 (k : Int)) rfl (by decide) (by kernel_rfl) (by kernel_rfl) (by kernel_rfl) (fun _ _ _ h => h) (.inl ⟨by kernel_rfl, fun W hS => by kernel_rfl⟩) S0 ?_
          refine wpAnyT_takeN (i := 11) (v := .pointer (some (x.add (k * 5)))) rfl (by decide) (by kernel_rfl) (by kernel_rfl) (by kernel_rfl) (fun _ _ _ h => h) (.inl ⟨by kernel_rfl, fun W hS => run_index_op 22 24 (.tmp 52) (.tmp 53) rfl x ks.length cap k (by kernel_rfl) (by kernel_rfl) hlt 5 _ rfl Try.underlying22 info_nd⟩) S0 ?_
          refine wpAnyT_takeN (i := 12) (v := m.v g c) rfl (by decide) (by kernel_rfl) (by kernel_rfl) (by kernel_rfl) (fun _ _ _ h => h) (.inl ⟨by kernel_rfl, fun W hS => run_load_nd (.tmp 54) rfl (x.add (k * 5)) (by kernel_rfl) m g c (HK.out.kept (hS.block _ HK.out.lt))⟩) S0 ?_
          refine wpAnyT_call (i := 7) (by kernel_rfl) rfl (by kernel_rfl) 27 #[.string (bs (lg ++ P)), .string (bs m.name)] (run_call_func rfl enters_rPutText _ (by kernel_rfl)) ((reftext_l (lg ++ P) m.name v0 (by rw [List.length_append]; omega) (by omega)).mono ?_)
          rintro e v2 ⟨rfl, b2⟩
          have S1 : Below wr.heap.size wr v2 := S0.trans (b2.mono S0.size)
          refine ⟨_, rfl, S1, ?_⟩
          clear S0
          refine wpAnyT_call (i := 13) (by kernel_rfl) rfl (by kernel_rfl) 26 #[.string (bs (lg ++ P ++ txt m.name)), m.v g c] (run_call_func rfl enters_rnode _ (by kernel_rfl)) ((IH.out m g c (lg ++ P ++ txt m.name) v2 HMM.out (HM.out.below S1) (by simp only [List.length_append]; omega)).mono ?_)
          rintro e v3 ⟨rfl, b3⟩
          have S0 : Below wr.heap.size wr v3 := S1.trans (b3.mono S1.size)
          refine ⟨_, rfl, S0, ?_⟩
          refine wpAnyT_takeN (i := 14) (v := .string (bs (lg ++ P ++ txt m.name ++ encL h m))) rfl (by decide) (by kernel_rfl) (by kernel_rfl) (by kernel_rfl) (fun _ _ _ h => h) (.inl ⟨by kernel_rfl, fun W hS => by kernel_rfl⟩) S0 ?_
          refine wpAnyT_done (by kernel_rfl) ?_ _
          simp only [Act.put, List.getElem_toArray, List.getElem_cons_succ, List.getElem_cons_zero, List.setIfInBounds_toArray, List.set_cons_zero, List.set_cons_succ]
          have HA2 := Lib.hid (HA.out.below S0 HA.out.lt)
          have HB2 := Lib.hid (HB.out.trans (S0.mono hwz))
          clear S0 S1 b2 b3
          go_wp2_with fail
          go_roundw
          case rel => exact ⟨k + 1, by omega, by rw [HF2.out]; simp only [entryL, List.append_assoc], by go_num, HA2.out, HB2.out⟩
          case measure => simp [intOf] <;> omega
        · obtain rfl : k = ks.length := by omega
          have hlt' : ¬ (ks.length : Int) < ks.length := by omega
          rw [List.take_length]
          go_wp2_with fail
          go_ret
          refine ⟨?_, HB.out⟩
          rw [HR.out, ← HLG.out, ← HLF.out]
          simp only [List.append_assoc]
          rfl
    · change kd = 3 at h1
      subst h1
      change R = l ++ (Plain.row 3 ++ if (3 : Int) = 1 then _ else if (3 : Int) = 3 then txt dt else _) at hR
      change l.length + (Plain.row 3 ++ if (3 : Int) = 1 then _ else if (3 : Int) = 3 then txt dt else _).length ≤ _ at hL
      rw [if_neg (by decide), if_pos rfl] at hR hL
      have hdl : dt.length ≤ (txt dt).length := by unfold txt; rw [List.length_append]; omega
      simp only [List.length_append] at hL
      have HR := Lib.hid hR
      clear hR
      go_enter Try.func26, Try.ntmps26
      go_wp2_with (with_reducible refine box_any rfl 24 (.tmp 1) rfl [.string (bs nm), .int .i64 3, .bool ex, .string (bs dt), .slice ao ks.length cap] rfl ?_; intro u hu bu zu; have c1 := hu.cell 1 _ rfl; have HU := Lib.hid hu; have BU := Lib.hid bu; clear hu bu)
      refine (refnum_l l 3 u (by omega) (by decide)).mono ?_
      rintro e w1 ⟨rfl, b1⟩
      have z1 := b1.size
      have HU1 := Lib.hid (HU.out.below b1 HU.out.lt)
      have HB1 := Lib.hid (BU.out.trans (b1.mono (by omega)))
      clear b1 HU BU c1
      have c1 := HU1.out.cell 1 _ rfl
      have c3 := HU1.out.cell 3 _ rfl
      generalize hlf : l ++ Plain.row 3 = lf
      have hlfl : lf.length = l.length + (Plain.row 3).length := by rw [← hlf, List.length_append]
      have HLF := Lib.hid hlf
      clear hlf
      go_wp2_with fail
      refine (reftext_l lf dt w1 (by omega) (by omega)).mono ?_
      rintro e w2 ⟨rfl, b2⟩
      have HB2 := Lib.hid (HB1.out.trans (b2.mono HB1.out.size))
      clear b2 HU1 HB1 c1 c3
      go_wp2_with fail
      go_ret
      refine ⟨?_, HB2.out⟩
      rw [HR.out, ← HLF.out]
      simp only [List.append_assoc]
      rfl
set_option maxHeartbeats 1000000 in
theorem rEncode_any (h : Nat) (n : Nd) (ao : Option Addr) (cap : Nat) (w : World) (hH : Has any_ w h n ao) (hNB : ∀ j, NamB j n) (hGN : depthL 14 n ≤ 12 → mayL h n = true → (nodesL h 1 n).length ≤ 1000000000000000000 ∧ bytesL (nodesL h 1 n) ≤ 1000000000000000000)
    (hEL : checkL h n = 0 → (encL h n).length ≤ 900000000) :
    Calls Try.prog 11 #[n.v ao cap] w fun e w' => e = .returned (.tuple #[.string (bs (encS h n)), .int .i64 (encE h n)]) ∧ Below w.heap.size w w' := by
  have HH := Lib.hid hH
  have HC := Lib.hid (fun u (b : Below w.heap.size w u) => rCheck_any h n ao cap u (hH.below b) hNB hGN)
  have HEL := Lib.hid hEL
  obtain ⟨S, hS⟩ : ∃ S, S = encS h n := ⟨_, rfl⟩
  obtain ⟨E, hE⟩ : ∃ E, E = encE h n := ⟨_, rfl⟩
  rw [← hS, ← hE]
  unfold encS at hS
  unfold encE at hE
  have HS := Lib.hid hS
  have HE := Lib.hid hE
  clear hH hNB hGN hEL hS hE
  cases n with
  | mk nm kd ex dt ks =>
  go_enter Try.func11, Try.ntmps11
  go_wp2_with (first
    | (with_reducible refine box_any rfl 24 (.tmp 0) rfl [.string (bs nm), .int .i64 kd, .bool ex, .string (bs dt), .slice ao ks.length cap] rfl ?_; intro u hu bu zu; have HU := Lib.hid hu; have BU := Lib.hid bu; clear hu bu)
    | (refine load_any rfl 24 (.tmp 1) rfl ⟨w.heap.size, 0, none⟩ rfl [.string (bs nm), .int .i64 kd, .bool ex, .string (bs dt), .slice ao ks.length cap] _ (fun j v hj => by rw [Addr.add0]; exact HU.out.cell j v hj) Try.underlying24 rfl info_nd ?_))
  refine (HC.out u BU.out).mono ?_
  rintro e w2 ⟨rfl, b2⟩
  have z2 := b2.size
  have HU2 := Lib.hid (HU.out.below b2 HU.out.lt)
  have HB2 := Lib.hid (BU.out.trans (b2.mono (by omega)))
  clear b2 HU BU HC
  obtain ⟨C, hC⟩ : ∃ C, C = checkL h ⟨nm, kd, ex, dt, ks⟩ := ⟨_, rfl⟩
  rw [← hC] at HS HE HEL ⊢
  have HCC := Lib.hid hC
  clear hC
  by_cases h0 : C = 0
  · subst h0
    obtain ⟨g1, g2, g3, g4, g5⟩ := check_may HCC.out.symm
    have hel := HEL.out rfl
    have HG3 := Lib.hid g3
    clear HEL g1 g2 g3 g4 g5 HCC
    go_wp2_with fail
    refine region_any (fun W => Below w2.heap.size w2 W) 4 (by kernel_rfl) ?_
    show wpAnyT _ _ _ _ _ _ _ _ _ w2.drew
    have S0 : Below w2.heap.size w2 w2.drew := below_drewN w2 1
    generalize w2.drew = v0 at S0 ⊢
    refine wpAnyT_takeN (i := 1) (v := Nd.v ⟨nm, kd, ex, dt, ks⟩ ao cap) rfl (by decide) (by kernel_rfl) (by kernel_rfl) (by kernel_rfl) (fun _ _ _ h => h) (.inl ⟨by kernel_rfl, fun W hS => run_load_nd (.tmp 1) rfl ⟨w.heap.size, 0, none⟩ (by kernel_rfl) ⟨nm, kd, ex, dt, ks⟩ ao cap (fun j v hj => by rw [Addr.add0]; exact (HU2.out.below hS HU2.out.lt).cell j v hj)⟩) S0 ?_
    refine wpAnyT_call (i := 0) (by kernel_rfl) rfl (by kernel_rfl) 27 #[.string (bs []), .string (bs [119, 104, 105, 115, 107, 45, 116, 114, 101, 101])] (run_call_func rfl enters_rPutText _ (by kernel_rfl)) ((reftext_l [] [119, 104, 105, 115, 107, 45, 116, 114, 101, 101] v0 (by decide) (by decide)).mono ?_)
    rintro e v2 ⟨rfl, b3⟩
    have S1 : Below w2.heap.size w2 v2 := S0.trans (b3.mono S0.size)
    refine ⟨_, rfl, S1, ?_⟩
    clear S0
    rw [show ([] : List UInt8) ++ txt [119, 104, 105, 115, 107, 45, 116, 114, 101, 101] = headB from rfl]
    have hhl : headB.length = 11 := by decide +kernel
    refine wpAnyT_call (i := 2) (by kernel_rfl) rfl (by kernel_rfl) 26 #[.string (bs headB), Nd.v ⟨nm, kd, ex, dt, ks⟩ ao cap] (run_call_func rfl enters_rnode _ (by kernel_rfl)) ((dnode_any h ⟨nm, kd, ex, dt, ks⟩ ao cap headB v2 HG3.out ((HH.out.below HB2.out).below S1) (by omega)).mono ?_)
    rintro e v3 ⟨rfl, b4⟩
    have S0 : Below w2.heap.size w2 v3 := S1.trans (b4.mono S1.size)
    refine ⟨_, rfl, S0, ?_⟩
    generalize hX : headB ++ encL h ⟨nm, kd, ex, dt, ks⟩ = X at HS HE ⊢
    have hxl : X.length = 11 + (encL h ⟨nm, kd, ex, dt, ks⟩).length := by rw [← hX, List.length_append, hhl]
    clear hX
    refine wpAnyT_takeN (i := 3) (v := .string (bs X)) rfl (by decide) (by kernel_rfl) (by kernel_rfl) (by kernel_rfl) (fun _ _ _ h => h) (.inl ⟨by kernel_rfl, fun W hS => by kernel_rfl⟩) S0 ?_
    refine wpAnyT_done (by kernel_rfl) ?_ _
    simp only [Act.put, List.getElem_toArray, List.getElem_cons_succ, List.getElem_cons_zero, List.setIfInBounds_toArray, List.set_cons_zero, List.set_cons_succ]
    have HB3 := Lib.hid (HB2.out.trans (S0.mono HB2.out.size))
    clear S0 S1 b3 b4
    by_cases hl : 60000 < X.length
    · have hl' : (60000 : Int) < X.length := by omega
      go_wp2_with fail
      go_ret2
      refine ⟨?_, HB3.out⟩
      have e1 := HS.out
      have e2 := HE.out
      rw [if_neg (fun k => k rfl), if_pos hl] at e1 e2
      rw [e1, e2]
      rfl
    · have hl' : ¬ (60000 : Int) < X.length := by omega
      go_wp2_with fail
      go_ret2
      refine ⟨?_, HB3.out⟩
      have e1 := HS.out
      have e2 := HE.out
      rw [if_neg (fun k => k rfl), if_neg hl] at e1 e2
      rw [e1, e2]
      rfl
  · have h0' : (C == 0) = false := by simpa using h0
    go_wp2_with fail
    go_ret2
    refine ⟨?_, HB2.out⟩
    rw [HS.out, HE.out, if_pos h0, if_pos h0]
    rfl
end Go.Proofs.Ytdpeblchndfdaaa
