/- InodeUndone: the walk (tools/gen_jv7.py). -/
import Derived.Test.YtgifdmfnecombaaJt
import Derived.Test.YtgifdmfnecombaaJu
import Derived.Test.YtgifdmfnecombaaJo
import Derived.Deep.CutRange
namespace Go.Proofs.Ytgifdmfnecombaa
open Go.RowKit
set_option maxRecDepth 100000
theorem quota_load {o : Oper} {a : Act} {w : World} (x : Operand) (ho : o.op = .load 25 x) (b : Nat) (hx : a.eval x = .pointer (some ⟨b, 0, none⟩)) (m n : Int) (hB : At w b 25 (quotaV m n)) : (execOp a.eval o).run Try.prog w = .ok (.value (.agg (quotaV m n).toArray)) w := by
  have hl : (loadCells ⟨b, 0, none⟩ (quotaV m n).length).run Try.prog w = .ok (quotaV m n).toArray w := run_loadCells_list (P := Try.prog) w ⟨b, 0, none⟩ (quotaV m n) (fun j v hj => by rw [Addr.add0]; exact hB.cell j v hj)
  cases hq : Try.prog.info? 25 with
  | none =>
    have := info_quota
    simp [hq] at this
  | some i =>
    have hs : i.size = 2 := by
      have := info_quota
      simpa [hq] using this
    have hagg : (isAgg 25).run Try.prog w = .ok true w := by
      unfold isAgg
      rw [Sem.run_bind, run_underlying Try.underlying25 w]
      rfl
    have hlen : (quotaV m n).length = 2 := rfl
    rw [hlen] at hl
    unfold execOp
    simp only [ho, hx, Instr.loadAt, Instr.sureAddr, Sem.run_bind, Sem.run_pure, Result.andThen_ok]
    simp [loadVar, Sem.run_bind, hagg, sizeOf, typeInfo, hq, hs, hl]
theorem neq3_op {o : Oper} {a : Act} {w : World} (x y : Operand) (ho : o.op = .binOp .neq 3 x y 3) (m : Int) (hx : a.eval x = .int .i64 m) (hy : a.eval y = .int .i64 m) : (execOp a.eval o).run Try.prog w = .ok (.value (.bool false)) w := by
  unfold execOp
  simp only [ho, hx, hy]
  simp [go_sem, run_underlying Try.underlying3]
theorem upT_dir {D : Doc} {d : Int} (h : upT D.tab d ≠ 0) : ∃ rd, D.row d = some rd ∧ rd.kind = 2 := by
  unfold upT at h
  cases hq : D.row d with
  | none => rw [at_none hq] at h; exact absurd rfl h
  | some r =>
    rw [at_row hq] at h
    by_cases k : r.kind = 2
    · exact ⟨r, rfl, k⟩
    · exact absurd (by simp [Doc.mk', k]) h
set_option maxHeartbeats 16000000 in
theorem undone_walk (a0 : Option Addr) (cap0 : Nat) (ls : List (Nat → Nat)) (n : Int) (s : ByteArray) (w : World) (hl0 : ls.length ≤ maxLen) (hF : Fives w a0 ls) (hn : (Lit.int .u8 n).wf = true) (hs : s.size ≤ 9223372036854775807) :
    Calls Try.prog 4 #[.slice a0 ls.length cap0, .int .u8 n, .string s] w fun e w' => e = .returned (.bool true) ∧ Below w.heap.size w w' := by
  obtain ⟨l, rfl⟩ : ∃ l, s = bs l := ⟨s.data.toList, by simp [bs]⟩
  rw [bs_size] at hs
  obtain ⟨m, rfl⟩ : ∃ m : Nat, n = (m : Int) := ⟨n.toNat, by have := hn; simp [Lit.wf, IntKind.min, IntKind.max, IntKind.signed, IntKind.bits] at this; omega⟩
  have hm : m < 256 := by have := hn; simp [Lit.wf, IntKind.min, IntKind.max, IntKind.signed, IntKind.bits] at this; omega
  have hmin : (if (200 : Int) < (l.length : Int) then (200 : Int) else (l.length : Int)) = ((min l.length 200 : Nat) : Int) := by split <;> omega
  obtain ⟨dt, hdt⟩ : ∃ dt, dt = l.take (min l.length 200) := ⟨_, rfl⟩
  have hdl : dt.length ≤ 200 := by rw [hdt, List.length_take]; omega
  obtain ⟨mm, hmm⟩ : ∃ mm, mm = m % 12 := ⟨_, rfl⟩
  have hmm12 : mm < 12 := by omega
  obtain ⟨dd, hdd⟩ : ∃ d : Int, d = ((1 + mm : Nat) : Int) := ⟨_, rfl⟩
  have DDW := Lib.hid (show (Lit.int .i64 dd).wf = true from wf_small (by omega) (by omega))
  have HDT := Lib.hid hdt
  have HMIN := Lib.hid hmin
  have HF := Lib.hid hF
  have HMM := Lib.hid hmm
  have HDD := Lib.hid hdd
  clear hdt hmin hn hF hmm hdd
  go_enter Try.func4, Try.ntmps4
  go_wp2_with ((with_reducible refine hold_at 19 rfl ?_); unfold held; refine list_val rfl (v := .agg (quotaV 40 2000).toArray) (w' := w) (by kernel_rfl) ?_)
  refine (holds_new w w (Below.refl _ w) (fun _ => False) (fun _ h => h.elim) 40 2000 (by omega) (by omega) (by omega)).mono ?_
  rintro e w1 ⟨tb, rfl, h1, _⟩
  have H1 := Lib.hid h1
  clear h1
  unfold tabV
  go_wp2_with fail
  go_loopw [8] (fun i wx => ∃ (k : Nat) (D : Doc), i = .int .i64 k ∧ k ≤ 30 ∧ k ≤ ls.length ∧ Holds w wx tb D (1 + k) (fun _ => False) ∧ Sml D ∧ D.qi = 40 ∧ D.qb = 2000 ∧ D.L.length ≤ 1 + k) (fun i _ => 30 - (intOf i).toNat)
  case atStart => exact ⟨0, _, rfl, by omega, by omega, H1.out, ⟨by simp [newD], by simp [newD]⟩, rfl, rfl, Nat.le_refl _⟩
  case round =>
    obtain ⟨k, D, rfl, hk30, hkl, hH, hS, hqi, hqb, hLn⟩ := hrel
    have HH := Lib.hid hH
    have HS := Lib.hid hS
    have HQ := Lib.hid (And.intro hqi hqb)
    clear hH hS hqi hqb
    by_cases hlt : k < ls.length ∧ k < 30
    · have hk1 : (k : Int) < ls.length := by omega
      have hk2 : (k : Int) < 30 := by omega
      obtain ⟨z, hz⟩ : ∃ z, ls[k]? = some z := ⟨_, List.getElem?_eq_getElem hlt.1⟩
      obtain ⟨a, rfl, hfz⟩ := HF.out k z hz
      have HFZ := Lib.hid hfz
      clear hz hfz
      go_wp2_with (first
        | ((with_reducible refine hold_at 36 rfl ?_); unfold held; refine list_val rfl (v := .pointer (some (a.add (k * 5)))) (w' := wr) (run_index_op 22 31 (.tmp 34) (.tmp 35) rfl a ls.length cap0 k (by kernel_rfl) (by kernel_rfl) hlt.1 5 _ rfl Try.underlying22 (by kernel_rfl)) ?_)
        | ((with_reducible refine hold_at 37 rfl ?_); unfold held; refine load_any rfl 31 (.tmp 36) rfl (a.add (k * 5)) (by kernel_rfl) (five (z 0) (z 1) (z 2) (z 3) (z 4)) _ (fun j v hj => by
                have hc := fun (i : Nat) (hi : i < 5) => cell_old HH.out.b (HFZ.out i hi).2
                match j, hj with
                | 0, hj => cases hj; exact hc 0 (by omega)
                | 1, hj => cases hj; exact hc 1 (by omega)
                | 2, hj => cases hj; exact hc 2 (by omega)
                | 3, hj => cases hj; exact hc 3 (by omega)
                | 4, hj => cases hj; exact hc 4 (by omega)) Try.underlying31 rfl (by kernel_rfl) ?_))
      refine (small_any HH.out (by omega) HS.out (z 0) (z 1) (z 2) (z 3) (z 4) (HFZ.out 0 (by omega)).1 (HFZ.out 1 (by omega)).1 (HFZ.out 2 (by omega)).1 (HFZ.out 3 (by omega)).1 (HFZ.out 4 (by omega)).1).mono ?_
      rintro e w2 ⟨r, D', rfl, h2, _, ac⟩
      have H2 := Lib.hid h2
      have AC := Lib.hid ac
      clear h2 ac
      go_wp2_with fail
      go_roundw
      case rel => exact ⟨k + 1, D', by go_num, by omega, by omega, by rw [← Nat.add_assoc]; exact H2.out, AC.out.s, AC.out.qi.trans HQ.out.1, AC.out.qb.trans HQ.out.2, by have := AC.out.l; omega⟩
      case measure => simp [intOf]; omega
    · have hside : ¬ k < ls.length ∨ k < ls.length ∧ ¬ k < 30 := by omega
      have HLN := Lib.hid hLn
      have HB := Lib.hid (show D.inodes + 1 ≤ D.qi ∧ D.bytes + dt.length ≤ D.qb by
        have h1 := inodes_le D
        have h2 : D.bytes ≤ 19 * D.L.length := sizes_small HS.out.l
        rw [HQ.out.1, HQ.out.2]
        omega)
      clear hlt hLn
      rcases hside with hk1 | ⟨hk1, hk2⟩
      · skip
        have hk1' : ¬ (k : Int) < ls.length := by omega
        go_wp2_with (first
          | ((with_reducible refine hold_at 40 rfl ?_); unfold held; refine list_val rfl (v := .int .u8 (mm : Int)) (w' := wr) (by rw [HMM.out]; exact rem5_op (.tmp 39) (.const (.int .u8 12)) rfl m 12 (by omega) (by omega) (by kernel_rfl) (by kernel_rfl)) ?_)
          | ((with_reducible refine hold_at 41 rfl ?_); unfold held; refine list_val rfl (v := .int .i64 (mm : Int)) (w' := wr) (cv53_op (.tmp 40) rfl mm (by omega) (by kernel_rfl)) ?_)
          | ((with_reducible refine hold_at 42 rfl ?_); unfold held; refine list_val rfl (v := .int .i64 dd) (w' := wr) (by rw [HDD.out]; exact addN_op (.const (.int .i64 1)) (.tmp 41) rfl 1 mm (by omega) (by kernel_rfl) (by kernel_rfl)) ?_))
        refine (holds_up HH.out dd DDW.out).mono ?_
        rintro e w2 ⟨rfl, b⟩
        have H2 := Lib.hid (HH.out.below b)
        clear b
        obtain ⟨uu, huu⟩ : ∃ uu, uu = upT D.tab dd := ⟨_, rfl⟩
        rw [← huu]
        have HU := Lib.hid huu
        clear huu
        by_cases h0 : uu = 0
        · subst h0
          obtain ⟨_, _, _, II, _, _⟩ := H2.out.ex
          obtain ⟨rd, hrd, hrd2⟩ := II.root
          have DW := Lib.hid (show (Lit.int .i64 (1 : Int)).wf = true by decide)
          have HRD := Lib.hid (And.intro hrd hrd2)
          clear II hrd hrd2
          have U := Lib.hid (show Und D 1 dt rd from ⟨HS.out, HRD.out.1, HRD.out.2, HB.out.1, HB.out.2⟩)
          go_wp2_with (first
            | ((with_reducible refine hold_at 49 rfl ?_); unfold held; refine list_val rfl (v := .int .i64 (l.length : Int)) (w' := w2) (lenS_op (.tmp 48) rfl l (by kernel_rfl)) ?_)
            | ((with_reducible refine hold_at 50 rfl ?_); unfold held; refine list_val rfl (v := .int .i64 ((min l.length 200 : Nat) : Int)) (w' := w2) (run_min_op (.tmp 49) (.const (.int .i64 200)) rfl (l.length : Int) 200 _ (by kernel_rfl) (by kernel_rfl) HMIN.out) ?_)
            | ((with_reducible refine hold_at 51 rfl ?_); unfold held; refine list_val rfl (v := .string (bs (l.take (min l.length 200)))) (w' := w2) (hiS_op (.tmp 47) (.tmp 50) rfl l (min l.length 200) (Nat.min_le_left _ _) (by kernel_rfl) (by kernel_rfl)) ?_; rw [← HDT.out]))
          refine (holds_used H2.out).mono ?_
          rintro e w3 ⟨rfl, b⟩
          have H3 := Lib.hid (H2.out.below b)
          clear b
          go_wp2_with fail
          refine (holds_names H3.out 1 DW.out).mono ?_
          rintro e w4 ⟨_, rfl, ⟨ao, cap, ts, rfl, _, _, htl, _⟩, b⟩
          rw [htl]
          have H4 := Lib.hid (H3.out.below b)
          clear b htl
          obtain ⟨qa, hqa⟩ : ∃ q : Nat, q = D.inodes := ⟨_, rfl⟩
          obtain ⟨qb, hqb⟩ : ∃ q : Nat, q = D.bytes := ⟨_, rfl⟩
          obtain ⟨qc, hqc⟩ : ∃ q : Nat, q = D.cnt 1 := ⟨_, rfl⟩
          rw [← hqa, ← hqb, ← hqc]
          have HQA := Lib.hid (And.intro hqa (And.intro hqb hqc))
          have QB := Lib.hid (show qa ≤ 1000 ∧ qb ≤ 10000 ∧ qc ≤ 100000 by
            have := HB.out
            have := HQ.out
            have h3 : D.cnt 1 ≤ D.E.length := List.countP_le_length
            have := H4.out.f.e
            omega)
          clear hqa hqb hqc
          go_wp2_with (first
            | ((with_reducible refine alloc_any rfl 25 rfl _ zero_quota ?_); intro u hu bu zu; have HUQ := Lib.hid hu; have BU := Lib.hid (H4.out.fresh bu); have ZU := Lib.hid zu; clear hu bu zu)
            | ((with_reducible refine hold_none rfl ?_); unfold held; refine store_any rfl 25 (.tmp 10) (.tmp 53) rfl w4.heap.size (by kernel_rfl) (quotaV (qa : Int) (qb : Int)) (by kernel_rfl) _ HUQ.out rfl info_quota (quota_one _ _) ?_; intro w5 hx tx; have hk := fun (b : Nat) (hb : b ∈ [w4.heap.size]) => (show (False ∨ (w4.heap.size ≤ b ∧ b < u.heap.size)) ∧ w.heap.size ≤ b from by (obtain rfl := List.mem_singleton.mp hb); exact ⟨.inr (by rw [ZU.out]; omega), H4.out.size⟩); have H5 := Lib.hid ((BU.out.touch tx hk).sub (av' := fun b => b = w4.heap.size) (fun b hb => .inr (by rw [ZU.out]; omega))); have A5 := Lib.hid hx; clear hx tx hk))
          have hI5 := H5.out.ex
          obtain ⟨_, dp5, _, I5, _, _⟩ := hI5
          have UM := Lib.hid (und_make U.out I5)
          clear I5
          refine (make_ok H5.out (by omega) 1 DW.out frs (by decide) (asc_of (by decide)) 1 420 dt (by omega) ((D.L.length : Int) + 1) 0 (by rw [UM.out.1]; rfl) UM.out.1 (unD1 D 1 dt) UM.out.2).mono ?_
          rintro e w6 ⟨rfl, h6, k6⟩
          have H6 := Lib.hid h6
          have A6 := Lib.hid (A5.out.keeps k6 rfl)
          clear h6 k6
          obtain ⟨ff, hff⟩ : ∃ f : Int, f = (D.L.length : Int) + 1 := ⟨_, rfl⟩
          rw [← hff]
          have HFF := Lib.hid hff
          have FW := Lib.hid (show (Lit.int .i64 ff).wf = true from wf_small (by omega) (by have := HLN.out; omega))
          clear hff
          go_wp2_with fail
          obtain ⟨B, hB⟩ : ∃ B, B = w4.heap.size := ⟨_, rfl⟩
          rw [← hB] at A6 ⊢
          have H7 := Lib.hid (show Holds w w6.drew tb (unD1 D 1 dt) (1 + k + 1) (fun b => b = B) by rw [hB]; exact H6.out.below (below_dr w6))
          clear hB
          have S0 : (fun W => At W B 25 (quotaV (qa : Int) (qb : Int))) w6.drew := A6.out.drew
          refine region_any (fun W => At W B 25 (quotaV (qa : Int) (qb : Int))) 25 (by kernel_rfl) ?_
          show wpAnyT _ _ _ _ _ _ _ _ _ w6.drew
          generalize w6.drew = v0 at S0 H7 ⊢
          refine wpAnyT_takeN (i := 0) (v := .int .i64 0) rfl (by decide) (by kernel_rfl) (by kernel_rfl) (by kernel_rfl) (fun _ _ _ h => h) (.inl ⟨by kernel_rfl, fun W hS => by kernel_rfl⟩) S0 ?_
          refine wpAnyT_takeN (i := 1) (v := .bool false) rfl (by decide) (by kernel_rfl) (by kernel_rfl) (by kernel_rfl) (fun _ _ _ h => h) (.inl ⟨by kernel_rfl, fun W hS => by kernel_rfl⟩) S0 ?_
          refine wpAnyT_takeN (i := 2) (v := .bool false) rfl (by decide) (by kernel_rfl) (by kernel_rfl) (by kernel_rfl) (fun _ _ _ h => h) (.inl ⟨by kernel_rfl, fun W hS => by kernel_rfl⟩) S0 ?_
          refine wpAnyT_takeN (i := 3) (v := tabV tb) rfl (by decide) (by kernel_rfl) (by kernel_rfl) (by kernel_rfl) (fun _ _ _ h => h) (.inl ⟨by kernel_rfl, fun W hS => by kernel_rfl⟩) S0 ?_
          refine wpAnyT_takeN (i := 5) (v := .pointer (some ⟨B, 0, none⟩)) rfl (by decide) (by kernel_rfl) (by kernel_rfl) (by kernel_rfl) (fun _ _ _ h => h) (.inl ⟨by kernel_rfl, fun W hS => by kernel_rfl⟩) S0 ?_
          refine wpAnyT_takeN (i := 6) (v := .int .i64 (qa : Int)) rfl (by decide) (by kernel_rfl) (by kernel_rfl) (by kernel_rfl) (fun _ _ _ h => h) (.inl ⟨by kernel_rfl, fun W hS => run_load_one 3 (.tmp 70) rfl ⟨B, 0, none⟩ (by kernel_rfl) _ (hS.cell 0 _ rfl) _ Try.underlying3 rfl⟩) S0 ?_
          refine wpAnyT_takeN (i := 7) (v := .int .i64 ((qa + 1 : Nat) : Int)) rfl (by decide) (by kernel_rfl) (by kernel_rfl) (by kernel_rfl) (fun _ _ _ h => h) (.inl ⟨by kernel_rfl, fun W hS => addN_op (.tmp 71) (.const (.int .i64 1)) rfl qa 1 (by have := QB.out; omega) (by kernel_rfl) (by kernel_rfl)⟩) S0 ?_
          refine wpAnyT_takeN (i := 8) (v := .pointer (some ⟨B, 1, none⟩)) rfl (by decide) (by kernel_rfl) (by kernel_rfl) (by kernel_rfl) (fun _ _ _ h => h) (.inl ⟨by kernel_rfl, fun W hS => by kernel_rfl⟩) S0 ?_
          refine wpAnyT_takeN (i := 9) (v := .int .i64 (qb : Int)) rfl (by decide) (by kernel_rfl) (by kernel_rfl) (by kernel_rfl) (fun _ _ _ h => h) (.inl ⟨by kernel_rfl, fun W hS => run_load_one 3 (.tmp 73) rfl ⟨B, 1, none⟩ (by kernel_rfl) _ (hS.cell 1 _ rfl) _ Try.underlying3 rfl⟩) S0 ?_
          refine wpAnyT_takeN (i := 10) (v := .string (bs dt)) rfl (by decide) (by kernel_rfl) (by kernel_rfl) (by kernel_rfl) (fun _ _ _ h => h) (.inl ⟨by kernel_rfl, fun W hS => by kernel_rfl⟩) S0 ?_
          refine wpAnyT_takeN (i := 11) (v := .int .i64 (dt.length : Int)) rfl (by decide) (by kernel_rfl) (by kernel_rfl) (by kernel_rfl) (fun _ _ _ h => h) (.inl ⟨by kernel_rfl, fun W hS => lenS_op (.tmp 75) rfl dt (by kernel_rfl)⟩) S0 ?_
          refine wpAnyT_takeN (i := 12) (v := .int .i64 ((qb + dt.length : Nat) : Int)) rfl (by decide) (by kernel_rfl) (by kernel_rfl) (by kernel_rfl) (fun _ _ _ h => h) (.inl ⟨by kernel_rfl, fun W hS => addN_op (.tmp 74) (.tmp 76) rfl qb dt.length (by have := QB.out; omega) (by kernel_rfl) (by kernel_rfl)⟩) S0 ?_
          refine wpAnyT_takeN (i := 13) (v := .agg (quotaV ((qa + 1 : Nat) : Int) ((qb + dt.length : Nat) : Int)).toArray) rfl (by decide) (by kernel_rfl) (by kernel_rfl) (by kernel_rfl) (fun _ _ _ h => h) (.inl ⟨by kernel_rfl, fun W hS => by kernel_rfl⟩) S0 ?_
          have us := und_sizes (D := D) (d := 1) (dt := dt)
          rw [← HQA.out.1, ← HQA.out.2.1, ← HQA.out.2.2] at us
          have hcu := holds_used H7.out
          rw [us.1, us.2.1] at hcu
          refine wpAnyT_call (i := 4) (by kernel_rfl) rfl (by kernel_rfl) 8 #[tabV tb] (by kernel_rfl) (hcu.mono ?_)
          rintro e v1 ⟨rfl, b1⟩
          have S1 : (fun W => At W B 25 (quotaV (qa : Int) (qb : Int))) v1 := S0.below b1 S0.lt
          have H8 := Lib.hid (H7.out.below b1)
          refine ⟨_, rfl, S1, ?_⟩
          refine wpAnyT_takeN (i := 14) (v := .bool false) rfl (by decide) (by kernel_rfl) (by kernel_rfl) (by kernel_rfl) (fun _ _ _ h => h) (.inl ⟨by kernel_rfl, fun W hS => run_bin_op .neq 25 25 (.tmp 69) (.tmp 78) rfl (.agg (quotaV ((qa + 1 : Nat) : Int) ((qb + dt.length : Nat) : Int)).toArray) (.agg (quotaV ((qa + 1 : Nat) : Int) ((qb + dt.length : Nat) : Int)).toArray) _ (by kernel_rfl) (by kernel_rfl) (by kernel_rfl) (quota_neq _ _ _)⟩) S1 ?_
          refine wpAnyT_takeN (i := 15) (v := .bool false) rfl (by decide) (by kernel_rfl) (by kernel_rfl) (by kernel_rfl) (fun _ _ _ h => h) (.inl ⟨by kernel_rfl, fun W hS => by kernel_rfl⟩) S1 ?_
          refine wpAnyT_takeN (i := 16) (v := .bool false) rfl (by decide) (by kernel_rfl) (by kernel_rfl) (by kernel_rfl) (fun _ _ _ h => h) (.inl ⟨by kernel_rfl, fun W hS => by kernel_rfl⟩) S1 ?_
          refine wpAnyT_takeN (i := 17) (v := tabV tb) rfl (by decide) (by kernel_rfl) (by kernel_rfl) (by kernel_rfl) (fun _ _ _ h => h) (.inl ⟨by kernel_rfl, fun W hS => by kernel_rfl⟩) S1 ?_
          refine wpAnyT_takeN (i := 18) (v := .int .i64 1) rfl (by decide) (by kernel_rfl) (by kernel_rfl) (by kernel_rfl) (fun _ _ _ h => h) (.inl ⟨by kernel_rfl, fun W hS => by kernel_rfl⟩) S1 ?_
          refine wpAnyT_takeN (i := 21) (v := .int .i64 (qc : Int)) rfl (by decide) (by kernel_rfl) (by kernel_rfl) (by kernel_rfl) (fun _ _ _ h => h) (.inl ⟨by kernel_rfl, fun W hS => by kernel_rfl⟩) S1 ?_
          refine wpAnyT_takeN (i := 22) (v := .int .i64 ((qc + 1 : Nat) : Int)) rfl (by decide) (by kernel_rfl) (by kernel_rfl) (by kernel_rfl) (fun _ _ _ h => h) (.inl ⟨by kernel_rfl, fun W hS => addN_op (.tmp 86) (.const (.int .i64 1)) rfl qc 1 (by have := QB.out; omega) (by kernel_rfl) (by kernel_rfl)⟩) S1 ?_
          refine wpAnyT_call (i := 19) (by kernel_rfl) rfl (by kernel_rfl) 11 #[tabV tb, .int .i64 1] (by kernel_rfl) ((holds_names H8.out 1 DW.out).mono ?_)
          rintro e v2 ⟨_, rfl, ⟨ao2, cap2, ts2, rfl, _, _, htl2, _⟩, b2⟩
          rw [us.2.2.1] at htl2
          rw [htl2]
          have S2 : (fun W => At W B 25 (quotaV (qa : Int) (qb : Int))) v2 := S1.below b2 S1.lt
          have H9 := Lib.hid (H8.out.below b2)
          refine ⟨_, rfl, S2, ?_⟩
          refine wpAnyT_takeN (i := 20) (v := .int .i64 ((qc + 1 : Nat) : Int)) rfl (by decide) (by kernel_rfl) (by kernel_rfl) (by kernel_rfl) (fun _ _ _ h => h) (.inl ⟨by kernel_rfl, fun W hS => by kernel_rfl⟩) S2 ?_
          refine wpAnyT_takeN (i := 23) (v := .bool false) rfl (by decide) (by kernel_rfl) (by kernel_rfl) (by kernel_rfl) (fun _ _ _ h => h) (.inl ⟨by kernel_rfl, fun W hS => neq3_op (.tmp 85) (.tmp 87) rfl ((qc + 1 : Nat) : Int) (by kernel_rfl) (by kernel_rfl)⟩) S2 ?_
          refine wpAnyT_takeN (i := 24) (v := .bool false) rfl (by decide) (by kernel_rfl) (by kernel_rfl) (by kernel_rfl) (fun _ _ _ h => h) (.inl ⟨by kernel_rfl, fun W hS => by kernel_rfl⟩) S2 ?_
          refine wpAnyT_done (by kernel_rfl) ?_ _
          simp only [Act.put, List.getElem_toArray, List.getElem_cons_succ, List.getElem_cons_zero, List.setIfInBounds_toArray, List.set_cons_zero, List.set_cons_succ]
          have A9 := Lib.hid S2
          have US := Lib.hid us
          clear S0 S1 S2 us hcu b1 b2 htl2
          unfold tabV
          go_wp2_with fail
          refine (move_ok H9.out (by omega) 1 DW.out frs (by unfold maxLen; decide) 1 (by decide) oth (by decide) (asc_of (by decide)) 0 (unD2 D dt) (fun dp I => und_move U.out I)).mono ?_
          rintro e w7 ⟨rfl, h, kk⟩
          have H10 := Lib.hid h
          have A10 := Lib.hid (A9.out.keeps kk rfl)
          clear h kk
          go_wp2_with fail
          refine (move_ok H10.out (by omega) 1 (by decide) oth (by unfold maxLen; decide) 1 DW.out frs (by decide) (asc_of (by decide)) 0 (unD1 D 1 dt) (fun dp I => und_back U.out I H10.out.f (by omega))).mono ?_
          rintro e w8 ⟨rfl, h, kk⟩
          have H11 := Lib.hid h
          have A11 := Lib.hid (A10.out.keeps kk rfl)
          clear h kk
          go_wp2_with fail
          have hI11 := H11.out.ex
          obtain ⟨_, dp11, _, I11, _, _⟩ := hI11
          have hI5 := H2.out.ex
          obtain ⟨_, dp0, _, I0, _, _⟩ := hI5
          have FD := Lib.hid (und_find1 I11)
          have UL := Lib.hid (und_unlink U.out I0 I11)
          rw [← HFF.out] at FD
          clear I11 I0
          have hcf := holds_find H11.out 1 DW.out frs (by unfold maxLen; decide)
          rw [FD.out] at hcf
          refine hcf.mono ?_
          rintro e w9 ⟨rfl, b⟩
          have H12 := Lib.hid ((H11.out.below b).below (below_dr w9))
          have A12 := Lib.hid (A11.out.below b A11.out.lt).drew
          clear b hcf
          go_wp2_with fail
          have S0 : (fun W => At W B 25 (quotaV (qa : Int) (qb : Int))) w9.drew := A12.out
          refine region_any (fun W => At W B 25 (quotaV (qa : Int) (qb : Int))) 27 (by kernel_rfl) ?_
          show wpAnyT _ _ _ _ _ _ _ _ _ w9.drew
          generalize w9.drew = v3 at S0 H12 ⊢
          refine wpAnyT_takeN (i := 0) (v := .bool true) rfl (by decide) (by kernel_rfl) (by kernel_rfl) (by kernel_rfl) (fun _ _ _ h => h) (.inl ⟨by kernel_rfl, fun W hS => by kernel_rfl⟩) S0 ?_
          refine wpAnyT_takeN (i := 1) (v := .bool false) rfl (by decide) (by kernel_rfl) (by kernel_rfl) (by kernel_rfl) (fun _ _ _ h => h) (.inl ⟨by kernel_rfl, fun W hS => by kernel_rfl⟩) S0 ?_
          refine wpAnyT_takeN (i := 2) (v := .bool false) rfl (by decide) (by kernel_rfl) (by kernel_rfl) (by kernel_rfl) (fun _ _ _ h => h) (.inl ⟨by kernel_rfl, fun W hS => by kernel_rfl⟩) S0 ?_
          refine wpAnyT_takeN (i := 3) (v := .int .i64 ff) rfl (by decide) (by kernel_rfl) (by kernel_rfl) (by kernel_rfl) (fun _ _ _ h => h) (.inl ⟨by kernel_rfl, fun W hS => by kernel_rfl⟩) S0 ?_
          refine wpAnyT_takeN (i := 4) (v := .int .i64 ff) rfl (by decide) (by kernel_rfl) (by kernel_rfl) (by kernel_rfl) (fun _ _ _ h => h) (.inl ⟨by kernel_rfl, fun W hS => by kernel_rfl⟩) S0 ?_
          refine wpAnyT_takeN (i := 5) (v := .bool false) rfl (by decide) (by kernel_rfl) (by kernel_rfl) (by kernel_rfl) (fun _ _ _ h => h) (.inl ⟨by kernel_rfl, fun W hS => neq3_op (.tmp 109) (.tmp 110) rfl ff (by kernel_rfl) (by kernel_rfl)⟩) S0 ?_
          refine wpAnyT_takeN (i := 6) (v := .bool false) rfl (by decide) (by kernel_rfl) (by kernel_rfl) (by kernel_rfl) (fun _ _ _ h => h) (.inl ⟨by kernel_rfl, fun W hS => by kernel_rfl⟩) S0 ?_
          refine wpAnyT_takeN (i := 7) (v := .bool false) rfl (by decide) (by kernel_rfl) (by kernel_rfl) (by kernel_rfl) (fun _ _ _ h => h) (.inl ⟨by kernel_rfl, fun W hS => by kernel_rfl⟩) S0 ?_
          refine wpAnyT_takeN (i := 8) (v := tabV tb) rfl (by decide) (by kernel_rfl) (by kernel_rfl) (by kernel_rfl) (fun _ _ _ h => h) (.inl ⟨by kernel_rfl, fun W hS => by kernel_rfl⟩) S0 ?_
          refine wpAnyT_takeN (i := 9) (v := .int .i64 1) rfl (by decide) (by kernel_rfl) (by kernel_rfl) (by kernel_rfl) (fun _ _ _ h => h) (.inl ⟨by kernel_rfl, fun W hS => by kernel_rfl⟩) S0 ?_
          have hcul := holds_unlink H12.out (by omega) 1 DW.out frs (by unfold maxLen; decide)
          rw [UL.out.1, UL.out.2] at hcul
          refine wpAnyT_call (i := 10) (by kernel_rfl) rfl (by kernel_rfl) 17 #[tabV tb, .int .i64 1, .string (bs frs)] (by kernel_rfl) (hcul.mono ?_)
          rintro e v4 ⟨rfl, h13, k13⟩
          have S1 : (fun W => At W B 25 (quotaV (qa : Int) (qb : Int))) v4 := S0.keeps k13 rfl
          have H13 := Lib.hid h13
          refine ⟨_, rfl, S1, ?_⟩
          refine wpAnyT_takeN (i := 11) (v := .bool false) rfl (by decide) (by kernel_rfl) (by kernel_rfl) (by kernel_rfl) (fun _ _ _ h => h) (.inl ⟨by kernel_rfl, fun W hS => by kernel_rfl⟩) S1 ?_
          refine wpAnyT_takeN (i := 12) (v := .bool false) rfl (by decide) (by kernel_rfl) (by kernel_rfl) (by kernel_rfl) (fun _ _ _ h => h) (.inl ⟨by kernel_rfl, fun W hS => by kernel_rfl⟩) S1 ?_
          refine wpAnyT_takeN (i := 13) (v := .bool false) rfl (by decide) (by kernel_rfl) (by kernel_rfl) (by kernel_rfl) (fun _ _ _ h => h) (.inl ⟨by kernel_rfl, fun W hS => by kernel_rfl⟩) S1 ?_
          refine wpAnyT_takeN (i := 14) (v := tabV tb) rfl (by decide) (by kernel_rfl) (by kernel_rfl) (by kernel_rfl) (fun _ _ _ h => h) (.inl ⟨by kernel_rfl, fun W hS => by kernel_rfl⟩) S1 ?_
          refine wpAnyT_takeN (i := 16) (v := .agg (quotaV (qa : Int) (qb : Int)).toArray) rfl (by decide) (by kernel_rfl) (by kernel_rfl) (by kernel_rfl) (fun _ _ _ h => h) (.inl ⟨by kernel_rfl, fun W hS => quota_load (.tmp 10) rfl B (by kernel_rfl) (qa : Int) (qb : Int) hS⟩) S1 ?_
          have hcu2 := holds_used H13.out
          rw [US.out.2.2.2.1, US.out.2.2.2.2.1] at hcu2
          refine wpAnyT_call (i := 15) (by kernel_rfl) rfl (by kernel_rfl) 8 #[tabV tb] (by kernel_rfl) (hcu2.mono ?_)
          rintro e v5 ⟨rfl, b5⟩
          have S2 : (fun W => At W B 25 (quotaV (qa : Int) (qb : Int))) v5 := S1.below b5 S1.lt
          have H14 := Lib.hid (H13.out.below b5)
          refine ⟨_, rfl, S2, ?_⟩
          refine wpAnyT_takeN (i := 17) (v := .bool false) rfl (by decide) (by kernel_rfl) (by kernel_rfl) (by kernel_rfl) (fun _ _ _ h => h) (.inl ⟨by kernel_rfl, fun W hS => run_bin_op .neq 25 25 (.tmp 121) (.tmp 122) rfl (.agg (quotaV (qa : Int) (qb : Int)).toArray) (.agg (quotaV (qa : Int) (qb : Int)).toArray) _ (by kernel_rfl) (by kernel_rfl) (by kernel_rfl) (quota_neq _ _ _)⟩) S2 ?_
          refine wpAnyT_takeN (i := 18) (v := .bool false) rfl (by decide) (by kernel_rfl) (by kernel_rfl) (by kernel_rfl) (fun _ _ _ h => h) (.inl ⟨by kernel_rfl, fun W hS => by kernel_rfl⟩) S2 ?_
          refine wpAnyT_takeN (i := 19) (v := .bool false) rfl (by decide) (by kernel_rfl) (by kernel_rfl) (by kernel_rfl) (fun _ _ _ h => h) (.inl ⟨by kernel_rfl, fun W hS => by kernel_rfl⟩) S2 ?_
          refine wpAnyT_takeN (i := 20) (v := tabV tb) rfl (by decide) (by kernel_rfl) (by kernel_rfl) (by kernel_rfl) (fun _ _ _ h => h) (.inl ⟨by kernel_rfl, fun W hS => by kernel_rfl⟩) S2 ?_
          refine wpAnyT_takeN (i := 21) (v := .int .i64 1) rfl (by decide) (by kernel_rfl) (by kernel_rfl) (by kernel_rfl) (fun _ _ _ h => h) (.inl ⟨by kernel_rfl, fun W hS => by kernel_rfl⟩) S2 ?_
          refine wpAnyT_takeN (i := 24) (v := .int .i64 (qc : Int)) rfl (by decide) (by kernel_rfl) (by kernel_rfl) (by kernel_rfl) (fun _ _ _ h => h) (.inl ⟨by kernel_rfl, fun W hS => by kernel_rfl⟩) S2 ?_
          refine wpAnyT_call (i := 22) (by kernel_rfl) rfl (by kernel_rfl) 11 #[tabV tb, .int .i64 1] (by kernel_rfl) ((holds_names H14.out 1 DW.out).mono ?_)
          rintro e v6 ⟨_, rfl, ⟨ao3, cap3, ts3, rfl, _, _, htl3, _⟩, b6⟩
          rw [US.out.2.2.2.2.2] at htl3
          rw [htl3]
          have S3 : (fun W => At W B 25 (quotaV (qa : Int) (qb : Int))) v6 := S2.below b6 S2.lt
          have H15 := Lib.hid ((H14.out.below b6).sub (av' := fun _ => False) (fun _ hb => hb.elim))
          refine ⟨_, rfl, S3, ?_⟩
          refine wpAnyT_takeN (i := 23) (v := .int .i64 (qc : Int)) rfl (by decide) (by kernel_rfl) (by kernel_rfl) (by kernel_rfl) (fun _ _ _ h => h) (.inl ⟨by kernel_rfl, fun W hS => by kernel_rfl⟩) S3 ?_
          refine wpAnyT_takeN (i := 25) (v := .bool false) rfl (by decide) (by kernel_rfl) (by kernel_rfl) (by kernel_rfl) (fun _ _ _ h => h) (.inl ⟨by kernel_rfl, fun W hS => neq3_op (.tmp 129) (.tmp 130) rfl (qc : Int) (by kernel_rfl) (by kernel_rfl)⟩) S3 ?_
          refine wpAnyT_takeN (i := 26) (v := .bool false) rfl (by decide) (by kernel_rfl) (by kernel_rfl) (by kernel_rfl) (fun _ _ _ h => h) (.inl ⟨by kernel_rfl, fun W hS => by kernel_rfl⟩) S3 ?_
          refine wpAnyT_done (by kernel_rfl) ?_ _
          simp only [Act.put, List.getElem_toArray, List.getElem_cons_succ, List.getElem_cons_zero, List.setIfInBounds_toArray, List.set_cons_zero, List.set_cons_succ]
          have hgone := und_gone (D := D)
          rw [← HFF.out] at hgone
          have HG := Lib.hid hgone
          clear S0 S1 S2 S3 h13 k13 b5 b6 hcul hcu2 htl3 hgone
          unfold tabV
          go_wp2_with fail
          refine (node_ok H15.out ff FW.out none HG.out).mono ?_
          rintro e w10 ⟨rfl, b⟩
          have H16 := Lib.hid (H15.out.below b)
          clear b
          go_wp2_with (first
            | ((with_reducible refine alloc_any rfl 35 rfl _ zero_ino ?_); intro u2 hu bu zu; have HUI := Lib.hid hu; have BUI := Lib.hid (H16.out.fresh bu); have ZUI := Lib.hid zu; clear hu bu zu)
            | ((with_reducible refine hold_none rfl ?_); unfold held; refine store_any rfl 35 (.tmp 16) (.tmp 137) rfl w10.heap.size (by kernel_rfl) (toldV none) (by kernel_rfl) _ HUI.out rfl info_ino (told_one _) ?_; intro w11 hx tx; have hk := fun (b : Nat) (hb : b ∈ [w10.heap.size]) => (show (False ∨ (w10.heap.size ≤ b ∧ b < u2.heap.size)) ∧ w.heap.size ≤ b from by (obtain rfl := List.mem_singleton.mp hb); exact ⟨.inr (by rw [ZUI.out]; omega), H16.out.size⟩); have H17 := Lib.hid ((BUI.out.touch tx hk).sub (av' := fun _ => False) (fun b hb => hb.elim)); clear hx tx hk))
          have hI17 := H17.out.ex
          obtain ⟨_, dp17, _, I17, _, _⟩ := hI17
          have UA := Lib.hid (und_again U.out I17)
          clear I17
          refine (make_ok H17.out (by omega) 1 DW.out frs (by decide) (asc_of (by decide)) 2 493 [] (by decide) (ff + 1) 0 (by rw [UA.out.1, UA.out.2, HFF.out]; simp) UA.out.1 _ rfl).mono ?_
          rintro e w12 ⟨rfl, h, _⟩
          have H18 := Lib.hid h
          clear h
          have hgt : ff < ff + 1 := by omega
          go_wp2_with fail
          refine (works7_any w12).mono ?_
          rintro e w13 ⟨rfl, b⟩
          have HE := Lib.hid (H18.out.b.trans (b.mono H18.out.size))
          clear b hgt
          go_wp2_with fail
          go_ret
          exact ⟨rfl, HE.out⟩
        · have h0' : (uu == 0) = false := by simpa using h0
          obtain ⟨rd, hrd, hrd2⟩ := upT_dir (D := D) (d := dd) (by rw [← HU.out]; exact h0)
          have DW := DDW
          have HRD := Lib.hid (And.intro hrd hrd2)
          clear hrd hrd2 h0
          have U := Lib.hid (show Und D dd dt rd from ⟨HS.out, HRD.out.1, HRD.out.2, HB.out.1, HB.out.2⟩)
          go_wp2_with (first
            | ((with_reducible refine hold_at 49 rfl ?_); unfold held; refine list_val rfl (v := .int .i64 (l.length : Int)) (w' := w2) (lenS_op (.tmp 48) rfl l (by kernel_rfl)) ?_)
            | ((with_reducible refine hold_at 50 rfl ?_); unfold held; refine list_val rfl (v := .int .i64 ((min l.length 200 : Nat) : Int)) (w' := w2) (run_min_op (.tmp 49) (.const (.int .i64 200)) rfl (l.length : Int) 200 _ (by kernel_rfl) (by kernel_rfl) HMIN.out) ?_)
            | ((with_reducible refine hold_at 51 rfl ?_); unfold held; refine list_val rfl (v := .string (bs (l.take (min l.length 200)))) (w' := w2) (hiS_op (.tmp 47) (.tmp 50) rfl l (min l.length 200) (Nat.min_le_left _ _) (by kernel_rfl) (by kernel_rfl)) ?_; rw [← HDT.out]))
          refine (holds_used H2.out).mono ?_
          rintro e w3 ⟨rfl, b⟩
          have H3 := Lib.hid (H2.out.below b)
          clear b
          go_wp2_with fail
          refine (holds_names H3.out dd DW.out).mono ?_
          rintro e w4 ⟨_, rfl, ⟨ao, cap, ts, rfl, _, _, htl, _⟩, b⟩
          rw [htl]
          have H4 := Lib.hid (H3.out.below b)
          clear b htl
          obtain ⟨qa, hqa⟩ : ∃ q : Nat, q = D.inodes := ⟨_, rfl⟩
          obtain ⟨qb, hqb⟩ : ∃ q : Nat, q = D.bytes := ⟨_, rfl⟩
          obtain ⟨qc, hqc⟩ : ∃ q : Nat, q = D.cnt dd := ⟨_, rfl⟩
          rw [← hqa, ← hqb, ← hqc]
          have HQA := Lib.hid (And.intro hqa (And.intro hqb hqc))
          have QB := Lib.hid (show qa ≤ 1000 ∧ qb ≤ 10000 ∧ qc ≤ 100000 by
            have := HB.out
            have := HQ.out
            have h3 : D.cnt dd ≤ D.E.length := List.countP_le_length
            have := H4.out.f.e
            omega)
          clear hqa hqb hqc
          go_wp2_with (first
            | ((with_reducible refine alloc_any rfl 25 rfl _ zero_quota ?_); intro u hu bu zu; have HUQ := Lib.hid hu; have BU := Lib.hid (H4.out.fresh bu); have ZU := Lib.hid zu; clear hu bu zu)
            | ((with_reducible refine hold_none rfl ?_); unfold held; refine store_any rfl 25 (.tmp 10) (.tmp 53) rfl w4.heap.size (by kernel_rfl) (quotaV (qa : Int) (qb : Int)) (by kernel_rfl) _ HUQ.out rfl info_quota (quota_one _ _) ?_; intro w5 hx tx; have hk := fun (b : Nat) (hb : b ∈ [w4.heap.size]) => (show (False ∨ (w4.heap.size ≤ b ∧ b < u.heap.size)) ∧ w.heap.size ≤ b from by (obtain rfl := List.mem_singleton.mp hb); exact ⟨.inr (by rw [ZU.out]; omega), H4.out.size⟩); have H5 := Lib.hid ((BU.out.touch tx hk).sub (av' := fun b => b = w4.heap.size) (fun b hb => .inr (by rw [ZU.out]; omega))); have A5 := Lib.hid hx; clear hx tx hk))
          have hI5 := H5.out.ex
          obtain ⟨_, dp5, _, I5, _, _⟩ := hI5
          have UM := Lib.hid (und_make U.out I5)
          clear I5
          refine (make_ok H5.out (by omega) dd DW.out frs (by decide) (asc_of (by decide)) 1 420 dt (by omega) ((D.L.length : Int) + 1) 0 (by rw [UM.out.1]; rfl) UM.out.1 (unD1 D dd dt) UM.out.2).mono ?_
          rintro e w6 ⟨rfl, h6, k6⟩
          have H6 := Lib.hid h6
          have A6 := Lib.hid (A5.out.keeps k6 rfl)
          clear h6 k6
          obtain ⟨ff, hff⟩ : ∃ f : Int, f = (D.L.length : Int) + 1 := ⟨_, rfl⟩
          rw [← hff]
          have HFF := Lib.hid hff
          have FW := Lib.hid (show (Lit.int .i64 ff).wf = true from wf_small (by omega) (by have := HLN.out; omega))
          clear hff
          go_wp2_with fail
          obtain ⟨B, hB⟩ : ∃ B, B = w4.heap.size := ⟨_, rfl⟩
          rw [← hB] at A6 ⊢
          have H7 := Lib.hid (show Holds w w6.drew tb (unD1 D dd dt) (1 + k + 1) (fun b => b = B) by rw [hB]; exact H6.out.below (below_dr w6))
          clear hB
          have S0 : (fun W => At W B 25 (quotaV (qa : Int) (qb : Int))) w6.drew := A6.out.drew
          refine region_any (fun W => At W B 25 (quotaV (qa : Int) (qb : Int))) 25 (by kernel_rfl) ?_
          show wpAnyT _ _ _ _ _ _ _ _ _ w6.drew
          generalize w6.drew = v0 at S0 H7 ⊢
          refine wpAnyT_takeN (i := 0) (v := .int .i64 0) rfl (by decide) (by kernel_rfl) (by kernel_rfl) (by kernel_rfl) (fun _ _ _ h => h) (.inl ⟨by kernel_rfl, fun W hS => by kernel_rfl⟩) S0 ?_
          refine wpAnyT_takeN (i := 1) (v := .bool false) rfl (by decide) (by kernel_rfl) (by kernel_rfl) (by kernel_rfl) (fun _ _ _ h => h) (.inl ⟨by kernel_rfl, fun W hS => by kernel_rfl⟩) S0 ?_
          refine wpAnyT_takeN (i := 2) (v := .bool false) rfl (by decide) (by kernel_rfl) (by kernel_rfl) (by kernel_rfl) (fun _ _ _ h => h) (.inl ⟨by kernel_rfl, fun W hS => by kernel_rfl⟩) S0 ?_
          refine wpAnyT_takeN (i := 3) (v := tabV tb) rfl (by decide) (by kernel_rfl) (by kernel_rfl) (by kernel_rfl) (fun _ _ _ h => h) (.inl ⟨by kernel_rfl, fun W hS => by kernel_rfl⟩) S0 ?_
          refine wpAnyT_takeN (i := 5) (v := .pointer (some ⟨B, 0, none⟩)) rfl (by decide) (by kernel_rfl) (by kernel_rfl) (by kernel_rfl) (fun _ _ _ h => h) (.inl ⟨by kernel_rfl, fun W hS => by kernel_rfl⟩) S0 ?_
          refine wpAnyT_takeN (i := 6) (v := .int .i64 (qa : Int)) rfl (by decide) (by kernel_rfl) (by kernel_rfl) (by kernel_rfl) (fun _ _ _ h => h) (.inl ⟨by kernel_rfl, fun W hS => run_load_one 3 (.tmp 70) rfl ⟨B, 0, none⟩ (by kernel_rfl) _ (hS.cell 0 _ rfl) _ Try.underlying3 rfl⟩) S0 ?_
          refine wpAnyT_takeN (i := 7) (v := .int .i64 ((qa + 1 : Nat) : Int)) rfl (by decide) (by kernel_rfl) (by kernel_rfl) (by kernel_rfl) (fun _ _ _ h => h) (.inl ⟨by kernel_rfl, fun W hS => addN_op (.tmp 71) (.const (.int .i64 1)) rfl qa 1 (by have := QB.out; omega) (by kernel_rfl) (by kernel_rfl)⟩) S0 ?_
          refine wpAnyT_takeN (i := 8) (v := .pointer (some ⟨B, 1, none⟩)) rfl (by decide) (by kernel_rfl) (by kernel_rfl) (by kernel_rfl) (fun _ _ _ h => h) (.inl ⟨by kernel_rfl, fun W hS => by kernel_rfl⟩) S0 ?_
          refine wpAnyT_takeN (i := 9) (v := .int .i64 (qb : Int)) rfl (by decide) (by kernel_rfl) (by kernel_rfl) (by kernel_rfl) (fun _ _ _ h => h) (.inl ⟨by kernel_rfl, fun W hS => run_load_one 3 (.tmp 73) rfl ⟨B, 1, none⟩ (by kernel_rfl) _ (hS.cell 1 _ rfl) _ Try.underlying3 rfl⟩) S0 ?_
          refine wpAnyT_takeN (i := 10) (v := .string (bs dt)) rfl (by decide) (by kernel_rfl) (by kernel_rfl) (by kernel_rfl) (fun _ _ _ h => h) (.inl ⟨by kernel_rfl, fun W hS => by kernel_rfl⟩) S0 ?_
          refine wpAnyT_takeN (i := 11) (v := .int .i64 (dt.length : Int)) rfl (by decide) (by kernel_rfl) (by kernel_rfl) (by kernel_rfl) (fun _ _ _ h => h) (.inl ⟨by kernel_rfl, fun W hS => lenS_op (.tmp 75) rfl dt (by kernel_rfl)⟩) S0 ?_
          refine wpAnyT_takeN (i := 12) (v := .int .i64 ((qb + dt.length : Nat) : Int)) rfl (by decide) (by kernel_rfl) (by kernel_rfl) (by kernel_rfl) (fun _ _ _ h => h) (.inl ⟨by kernel_rfl, fun W hS => addN_op (.tmp 74) (.tmp 76) rfl qb dt.length (by have := QB.out; omega) (by kernel_rfl) (by kernel_rfl)⟩) S0 ?_
          refine wpAnyT_takeN (i := 13) (v := .agg (quotaV ((qa + 1 : Nat) : Int) ((qb + dt.length : Nat) : Int)).toArray) rfl (by decide) (by kernel_rfl) (by kernel_rfl) (by kernel_rfl) (fun _ _ _ h => h) (.inl ⟨by kernel_rfl, fun W hS => by kernel_rfl⟩) S0 ?_
          have us := und_sizes (D := D) (d := dd) (dt := dt)
          rw [← HQA.out.1, ← HQA.out.2.1, ← HQA.out.2.2] at us
          have hcu := holds_used H7.out
          rw [us.1, us.2.1] at hcu
          refine wpAnyT_call (i := 4) (by kernel_rfl) rfl (by kernel_rfl) 8 #[tabV tb] (by kernel_rfl) (hcu.mono ?_)
          rintro e v1 ⟨rfl, b1⟩
          have S1 : (fun W => At W B 25 (quotaV (qa : Int) (qb : Int))) v1 := S0.below b1 S0.lt
          have H8 := Lib.hid (H7.out.below b1)
          refine ⟨_, rfl, S1, ?_⟩
          refine wpAnyT_takeN (i := 14) (v := .bool false) rfl (by decide) (by kernel_rfl) (by kernel_rfl) (by kernel_rfl) (fun _ _ _ h => h) (.inl ⟨by kernel_rfl, fun W hS => run_bin_op .neq 25 25 (.tmp 69) (.tmp 78) rfl (.agg (quotaV ((qa + 1 : Nat) : Int) ((qb + dt.length : Nat) : Int)).toArray) (.agg (quotaV ((qa + 1 : Nat) : Int) ((qb + dt.length : Nat) : Int)).toArray) _ (by kernel_rfl) (by kernel_rfl) (by kernel_rfl) (quota_neq _ _ _)⟩) S1 ?_
          refine wpAnyT_takeN (i := 15) (v := .bool false) rfl (by decide) (by kernel_rfl) (by kernel_rfl) (by kernel_rfl) (fun _ _ _ h => h) (.inl ⟨by kernel_rfl, fun W hS => by kernel_rfl⟩) S1 ?_
          refine wpAnyT_takeN (i := 16) (v := .bool false) rfl (by decide) (by kernel_rfl) (by kernel_rfl) (by kernel_rfl) (fun _ _ _ h => h) (.inl ⟨by kernel_rfl, fun W hS => by kernel_rfl⟩) S1 ?_
          refine wpAnyT_takeN (i := 17) (v := tabV tb) rfl (by decide) (by kernel_rfl) (by kernel_rfl) (by kernel_rfl) (fun _ _ _ h => h) (.inl ⟨by kernel_rfl, fun W hS => by kernel_rfl⟩) S1 ?_
          refine wpAnyT_takeN (i := 18) (v := .int .i64 dd) rfl (by decide) (by kernel_rfl) (by kernel_rfl) (by kernel_rfl) (fun _ _ _ h => h) (.inl ⟨by kernel_rfl, fun W hS => by kernel_rfl⟩) S1 ?_
          refine wpAnyT_takeN (i := 21) (v := .int .i64 (qc : Int)) rfl (by decide) (by kernel_rfl) (by kernel_rfl) (by kernel_rfl) (fun _ _ _ h => h) (.inl ⟨by kernel_rfl, fun W hS => by kernel_rfl⟩) S1 ?_
          refine wpAnyT_takeN (i := 22) (v := .int .i64 ((qc + 1 : Nat) : Int)) rfl (by decide) (by kernel_rfl) (by kernel_rfl) (by kernel_rfl) (fun _ _ _ h => h) (.inl ⟨by kernel_rfl, fun W hS => addN_op (.tmp 86) (.const (.int .i64 1)) rfl qc 1 (by have := QB.out; omega) (by kernel_rfl) (by kernel_rfl)⟩) S1 ?_
          refine wpAnyT_call (i := 19) (by kernel_rfl) rfl (by kernel_rfl) 11 #[tabV tb, .int .i64 dd] (by kernel_rfl) ((holds_names H8.out dd DW.out).mono ?_)
          rintro e v2 ⟨_, rfl, ⟨ao2, cap2, ts2, rfl, _, _, htl2, _⟩, b2⟩
          rw [us.2.2.1] at htl2
          rw [htl2]
          have S2 : (fun W => At W B 25 (quotaV (qa : Int) (qb : Int))) v2 := S1.below b2 S1.lt
          have H9 := Lib.hid (H8.out.below b2)
          refine ⟨_, rfl, S2, ?_⟩
          refine wpAnyT_takeN (i := 20) (v := .int .i64 ((qc + 1 : Nat) : Int)) rfl (by decide) (by kernel_rfl) (by kernel_rfl) (by kernel_rfl) (fun _ _ _ h => h) (.inl ⟨by kernel_rfl, fun W hS => by kernel_rfl⟩) S2 ?_
          refine wpAnyT_takeN (i := 23) (v := .bool false) rfl (by decide) (by kernel_rfl) (by kernel_rfl) (by kernel_rfl) (fun _ _ _ h => h) (.inl ⟨by kernel_rfl, fun W hS => neq3_op (.tmp 85) (.tmp 87) rfl ((qc + 1 : Nat) : Int) (by kernel_rfl) (by kernel_rfl)⟩) S2 ?_
          refine wpAnyT_takeN (i := 24) (v := .bool false) rfl (by decide) (by kernel_rfl) (by kernel_rfl) (by kernel_rfl) (fun _ _ _ h => h) (.inl ⟨by kernel_rfl, fun W hS => by kernel_rfl⟩) S2 ?_
          refine wpAnyT_done (by kernel_rfl) ?_ _
          simp only [Act.put, List.getElem_toArray, List.getElem_cons_succ, List.getElem_cons_zero, List.setIfInBounds_toArray, List.set_cons_zero, List.set_cons_succ]
          have A9 := Lib.hid S2
          have US := Lib.hid us
          clear S0 S1 S2 us hcu b1 b2 htl2
          unfold tabV
          go_wp2_with fail
          refine (move_ok H9.out (by omega) dd DW.out frs (by unfold maxLen; decide) 1 (by decide) oth (by decide) (asc_of (by decide)) 0 (unD2 D dt) (fun dp I => und_move U.out I)).mono ?_
          rintro e w7 ⟨rfl, h, kk⟩
          have H10 := Lib.hid h
          have A10 := Lib.hid (A9.out.keeps kk rfl)
          clear h kk
          go_wp2_with fail
          refine (move_ok H10.out (by omega) 1 (by decide) oth (by unfold maxLen; decide) dd DW.out frs (by decide) (asc_of (by decide)) 0 (unD1 D dd dt) (fun dp I => und_back U.out I H10.out.f (by omega))).mono ?_
          rintro e w8 ⟨rfl, h, kk⟩
          have H11 := Lib.hid h
          have A11 := Lib.hid (A10.out.keeps kk rfl)
          clear h kk
          go_wp2_with fail
          have hI11 := H11.out.ex
          obtain ⟨_, dp11, _, I11, _, _⟩ := hI11
          have hI5 := H2.out.ex
          obtain ⟨_, dp0, _, I0, _, _⟩ := hI5
          have FD := Lib.hid (und_find1 I11)
          have UL := Lib.hid (und_unlink U.out I0 I11)
          rw [← HFF.out] at FD
          clear I11 I0
          have hcf := holds_find H11.out dd DW.out frs (by unfold maxLen; decide)
          rw [FD.out] at hcf
          refine hcf.mono ?_
          rintro e w9 ⟨rfl, b⟩
          have H12 := Lib.hid ((H11.out.below b).below (below_dr w9))
          have A12 := Lib.hid (A11.out.below b A11.out.lt).drew
          clear b hcf
          go_wp2_with fail
          have S0 : (fun W => At W B 25 (quotaV (qa : Int) (qb : Int))) w9.drew := A12.out
          refine region_any (fun W => At W B 25 (quotaV (qa : Int) (qb : Int))) 27 (by kernel_rfl) ?_
          show wpAnyT _ _ _ _ _ _ _ _ _ w9.drew
          generalize w9.drew = v3 at S0 H12 ⊢
          refine wpAnyT_takeN (i := 0) (v := .bool true) rfl (by decide) (by kernel_rfl) (by kernel_rfl) (by kernel_rfl) (fun _ _ _ h => h) (.inl ⟨by kernel_rfl, fun W hS => by kernel_rfl⟩) S0 ?_
          refine wpAnyT_takeN (i := 1) (v := .bool false) rfl (by decide) (by kernel_rfl) (by kernel_rfl) (by kernel_rfl) (fun _ _ _ h => h) (.inl ⟨by kernel_rfl, fun W hS => by kernel_rfl⟩) S0 ?_
          refine wpAnyT_takeN (i := 2) (v := .bool false) rfl (by decide) (by kernel_rfl) (by kernel_rfl) (by kernel_rfl) (fun _ _ _ h => h) (.inl ⟨by kernel_rfl, fun W hS => by kernel_rfl⟩) S0 ?_
          refine wpAnyT_takeN (i := 3) (v := .int .i64 ff) rfl (by decide) (by kernel_rfl) (by kernel_rfl) (by kernel_rfl) (fun _ _ _ h => h) (.inl ⟨by kernel_rfl, fun W hS => by kernel_rfl⟩) S0 ?_
          refine wpAnyT_takeN (i := 4) (v := .int .i64 ff) rfl (by decide) (by kernel_rfl) (by kernel_rfl) (by kernel_rfl) (fun _ _ _ h => h) (.inl ⟨by kernel_rfl, fun W hS => by kernel_rfl⟩) S0 ?_
          refine wpAnyT_takeN (i := 5) (v := .bool false) rfl (by decide) (by kernel_rfl) (by kernel_rfl) (by kernel_rfl) (fun _ _ _ h => h) (.inl ⟨by kernel_rfl, fun W hS => neq3_op (.tmp 109) (.tmp 110) rfl ff (by kernel_rfl) (by kernel_rfl)⟩) S0 ?_
          refine wpAnyT_takeN (i := 6) (v := .bool false) rfl (by decide) (by kernel_rfl) (by kernel_rfl) (by kernel_rfl) (fun _ _ _ h => h) (.inl ⟨by kernel_rfl, fun W hS => by kernel_rfl⟩) S0 ?_
          refine wpAnyT_takeN (i := 7) (v := .bool false) rfl (by decide) (by kernel_rfl) (by kernel_rfl) (by kernel_rfl) (fun _ _ _ h => h) (.inl ⟨by kernel_rfl, fun W hS => by kernel_rfl⟩) S0 ?_
          refine wpAnyT_takeN (i := 8) (v := tabV tb) rfl (by decide) (by kernel_rfl) (by kernel_rfl) (by kernel_rfl) (fun _ _ _ h => h) (.inl ⟨by kernel_rfl, fun W hS => by kernel_rfl⟩) S0 ?_
          refine wpAnyT_takeN (i := 9) (v := .int .i64 dd) rfl (by decide) (by kernel_rfl) (by kernel_rfl) (by kernel_rfl) (fun _ _ _ h => h) (.inl ⟨by kernel_rfl, fun W hS => by kernel_rfl⟩) S0 ?_
          have hcul := holds_unlink H12.out (by omega) dd DW.out frs (by unfold maxLen; decide)
          rw [UL.out.1, UL.out.2] at hcul
          refine wpAnyT_call (i := 10) (by kernel_rfl) rfl (by kernel_rfl) 17 #[tabV tb, .int .i64 dd, .string (bs frs)] (by kernel_rfl) (hcul.mono ?_)
          rintro e v4 ⟨rfl, h13, k13⟩
          have S1 : (fun W => At W B 25 (quotaV (qa : Int) (qb : Int))) v4 := S0.keeps k13 rfl
          have H13 := Lib.hid h13
          refine ⟨_, rfl, S1, ?_⟩
          refine wpAnyT_takeN (i := 11) (v := .bool false) rfl (by decide) (by kernel_rfl) (by kernel_rfl) (by kernel_rfl) (fun _ _ _ h => h) (.inl ⟨by kernel_rfl, fun W hS => by kernel_rfl⟩) S1 ?_
          refine wpAnyT_takeN (i := 12) (v := .bool false) rfl (by decide) (by kernel_rfl) (by kernel_rfl) (by kernel_rfl) (fun _ _ _ h => h) (.inl ⟨by kernel_rfl, fun W hS => by kernel_rfl⟩) S1 ?_
          refine wpAnyT_takeN (i := 13) (v := .bool false) rfl (by decide) (by kernel_rfl) (by kernel_rfl) (by kernel_rfl) (fun _ _ _ h => h) (.inl ⟨by kernel_rfl, fun W hS => by kernel_rfl⟩) S1 ?_
          refine wpAnyT_takeN (i := 14) (v := tabV tb) rfl (by decide) (by kernel_rfl) (by kernel_rfl) (by kernel_rfl) (fun _ _ _ h => h) (.inl ⟨by kernel_rfl, fun W hS => by kernel_rfl⟩) S1 ?_
          refine wpAnyT_takeN (i := 16) (v := .agg (quotaV (qa : Int) (qb : Int)).toArray) rfl (by decide) (by kernel_rfl) (by kernel_rfl) (by kernel_rfl) (fun _ _ _ h => h) (.inl ⟨by kernel_rfl, fun W hS => quota_load (.tmp 10) rfl B (by kernel_rfl) (qa : Int) (qb : Int) hS⟩) S1 ?_
          have hcu2 := holds_used H13.out
          rw [US.out.2.2.2.1, US.out.2.2.2.2.1] at hcu2
          refine wpAnyT_call (i := 15) (by kernel_rfl) rfl (by kernel_rfl) 8 #[tabV tb] (by kernel_rfl) (hcu2.mono ?_)
          rintro e v5 ⟨rfl, b5⟩
          have S2 : (fun W => At W B 25 (quotaV (qa : Int) (qb : Int))) v5 := S1.below b5 S1.lt
          have H14 := Lib.hid (H13.out.below b5)
          refine ⟨_, rfl, S2, ?_⟩
          refine wpAnyT_takeN (i := 17) (v := .bool false) rfl (by decide) (by kernel_rfl) (by kernel_rfl) (by kernel_rfl) (fun _ _ _ h => h) (.inl ⟨by kernel_rfl, fun W hS => run_bin_op .neq 25 25 (.tmp 121) (.tmp 122) rfl (.agg (quotaV (qa : Int) (qb : Int)).toArray) (.agg (quotaV (qa : Int) (qb : Int)).toArray) _ (by kernel_rfl) (by kernel_rfl) (by kernel_rfl) (quota_neq _ _ _)⟩) S2 ?_
          refine wpAnyT_takeN (i := 18) (v := .bool false) rfl (by decide) (by kernel_rfl) (by kernel_rfl) (by kernel_rfl) (fun _ _ _ h => h) (.inl ⟨by kernel_rfl, fun W hS => by kernel_rfl⟩) S2 ?_
          refine wpAnyT_takeN (i := 19) (v := .bool false) rfl (by decide) (by kernel_rfl) (by kernel_rfl) (by kernel_rfl) (fun _ _ _ h => h) (.inl ⟨by kernel_rfl, fun W hS => by kernel_rfl⟩) S2 ?_
          refine wpAnyT_takeN (i := 20) (v := tabV tb) rfl (by decide) (by kernel_rfl) (by kernel_rfl) (by kernel_rfl) (fun _ _ _ h => h) (.inl ⟨by kernel_rfl, fun W hS => by kernel_rfl⟩) S2 ?_
          refine wpAnyT_takeN (i := 21) (v := .int .i64 dd) rfl (by decide) (by kernel_rfl) (by kernel_rfl) (by kernel_rfl) (fun _ _ _ h => h) (.inl ⟨by kernel_rfl, fun W hS => by kernel_rfl⟩) S2 ?_
          refine wpAnyT_takeN (i := 24) (v := .int .i64 (qc : Int)) rfl (by decide) (by kernel_rfl) (by kernel_rfl) (by kernel_rfl) (fun _ _ _ h => h) (.inl ⟨by kernel_rfl, fun W hS => by kernel_rfl⟩) S2 ?_
          refine wpAnyT_call (i := 22) (by kernel_rfl) rfl (by kernel_rfl) 11 #[tabV tb, .int .i64 dd] (by kernel_rfl) ((holds_names H14.out dd DW.out).mono ?_)
          rintro e v6 ⟨_, rfl, ⟨ao3, cap3, ts3, rfl, _, _, htl3, _⟩, b6⟩
          rw [US.out.2.2.2.2.2] at htl3
          rw [htl3]
          have S3 : (fun W => At W B 25 (quotaV (qa : Int) (qb : Int))) v6 := S2.below b6 S2.lt
          have H15 := Lib.hid ((H14.out.below b6).sub (av' := fun _ => False) (fun _ hb => hb.elim))
          refine ⟨_, rfl, S3, ?_⟩
          refine wpAnyT_takeN (i := 23) (v := .int .i64 (qc : Int)) rfl (by decide) (by kernel_rfl) (by kernel_rfl) (by kernel_rfl) (fun _ _ _ h => h) (.inl ⟨by kernel_rfl, fun W hS => by kernel_rfl⟩) S3 ?_
          refine wpAnyT_takeN (i := 25) (v := .bool false) rfl (by decide) (by kernel_rfl) (by kernel_rfl) (by kernel_rfl) (fun _ _ _ h => h) (.inl ⟨by kernel_rfl, fun W hS => neq3_op (.tmp 129) (.tmp 130) rfl (qc : Int) (by kernel_rfl) (by kernel_rfl)⟩) S3 ?_
          refine wpAnyT_takeN (i := 26) (v := .bool false) rfl (by decide) (by kernel_rfl) (by kernel_rfl) (by kernel_rfl) (fun _ _ _ h => h) (.inl ⟨by kernel_rfl, fun W hS => by kernel_rfl⟩) S3 ?_
          refine wpAnyT_done (by kernel_rfl) ?_ _
          simp only [Act.put, List.getElem_toArray, List.getElem_cons_succ, List.getElem_cons_zero, List.setIfInBounds_toArray, List.set_cons_zero, List.set_cons_succ]
          have hgone := und_gone (D := D)
          rw [← HFF.out] at hgone
          have HG := Lib.hid hgone
          clear S0 S1 S2 S3 h13 k13 b5 b6 hcul hcu2 htl3 hgone
          unfold tabV
          go_wp2_with fail
          refine (node_ok H15.out ff FW.out none HG.out).mono ?_
          rintro e w10 ⟨rfl, b⟩
          have H16 := Lib.hid (H15.out.below b)
          clear b
          go_wp2_with (first
            | ((with_reducible refine alloc_any rfl 35 rfl _ zero_ino ?_); intro u2 hu bu zu; have HUI := Lib.hid hu; have BUI := Lib.hid (H16.out.fresh bu); have ZUI := Lib.hid zu; clear hu bu zu)
            | ((with_reducible refine hold_none rfl ?_); unfold held; refine store_any rfl 35 (.tmp 16) (.tmp 137) rfl w10.heap.size (by kernel_rfl) (toldV none) (by kernel_rfl) _ HUI.out rfl info_ino (told_one _) ?_; intro w11 hx tx; have hk := fun (b : Nat) (hb : b ∈ [w10.heap.size]) => (show (False ∨ (w10.heap.size ≤ b ∧ b < u2.heap.size)) ∧ w.heap.size ≤ b from by (obtain rfl := List.mem_singleton.mp hb); exact ⟨.inr (by rw [ZUI.out]; omega), H16.out.size⟩); have H17 := Lib.hid ((BUI.out.touch tx hk).sub (av' := fun _ => False) (fun b hb => hb.elim)); clear hx tx hk))
          have hI17 := H17.out.ex
          obtain ⟨_, dp17, _, I17, _, _⟩ := hI17
          have UA := Lib.hid (und_again U.out I17)
          clear I17
          refine (make_ok H17.out (by omega) dd DW.out frs (by decide) (asc_of (by decide)) 2 493 [] (by decide) (ff + 1) 0 (by rw [UA.out.1, UA.out.2, HFF.out]; simp) UA.out.1 _ rfl).mono ?_
          rintro e w12 ⟨rfl, h, _⟩
          have H18 := Lib.hid h
          clear h
          have hgt : ff < ff + 1 := by omega
          go_wp2_with fail
          refine (works7_any w12).mono ?_
          rintro e w13 ⟨rfl, b⟩
          have HE := Lib.hid (H18.out.b.trans (b.mono H18.out.size))
          clear b hgt
          go_wp2_with fail
          go_ret
          exact ⟨rfl, HE.out⟩
      · skip
        have hk1' : (k : Int) < ls.length := by omega
        have hk2' : ¬ (k : Int) < 30 := by omega
        go_wp2_with (first
          | ((with_reducible refine hold_at 40 rfl ?_); unfold held; refine list_val rfl (v := .int .u8 (mm : Int)) (w' := wr) (by rw [HMM.out]; exact rem5_op (.tmp 39) (.const (.int .u8 12)) rfl m 12 (by omega) (by omega) (by kernel_rfl) (by kernel_rfl)) ?_)
          | ((with_reducible refine hold_at 41 rfl ?_); unfold held; refine list_val rfl (v := .int .i64 (mm : Int)) (w' := wr) (cv53_op (.tmp 40) rfl mm (by omega) (by kernel_rfl)) ?_)
          | ((with_reducible refine hold_at 42 rfl ?_); unfold held; refine list_val rfl (v := .int .i64 dd) (w' := wr) (by rw [HDD.out]; exact addN_op (.const (.int .i64 1)) (.tmp 41) rfl 1 mm (by omega) (by kernel_rfl) (by kernel_rfl)) ?_))
        refine (holds_up HH.out dd DDW.out).mono ?_
        rintro e w2 ⟨rfl, b⟩
        have H2 := Lib.hid (HH.out.below b)
        clear b
        obtain ⟨uu, huu⟩ : ∃ uu, uu = upT D.tab dd := ⟨_, rfl⟩
        rw [← huu]
        have HU := Lib.hid huu
        clear huu
        by_cases h0 : uu = 0
        · subst h0
          obtain ⟨_, _, _, II, _, _⟩ := H2.out.ex
          obtain ⟨rd, hrd, hrd2⟩ := II.root
          have DW := Lib.hid (show (Lit.int .i64 (1 : Int)).wf = true by decide)
          have HRD := Lib.hid (And.intro hrd hrd2)
          clear II hrd hrd2
          have U := Lib.hid (show Und D 1 dt rd from ⟨HS.out, HRD.out.1, HRD.out.2, HB.out.1, HB.out.2⟩)
          go_wp2_with (first
            | ((with_reducible refine hold_at 49 rfl ?_); unfold held; refine list_val rfl (v := .int .i64 (l.length : Int)) (w' := w2) (lenS_op (.tmp 48) rfl l (by kernel_rfl)) ?_)
            | ((with_reducible refine hold_at 50 rfl ?_); unfold held; refine list_val rfl (v := .int .i64 ((min l.length 200 : Nat) : Int)) (w' := w2) (run_min_op (.tmp 49) (.const (.int .i64 200)) rfl (l.length : Int) 200 _ (by kernel_rfl) (by kernel_rfl) HMIN.out) ?_)
            | ((with_reducible refine hold_at 51 rfl ?_); unfold held; refine list_val rfl (v := .string (bs (l.take (min l.length 200)))) (w' := w2) (hiS_op (.tmp 47) (.tmp 50) rfl l (min l.length 200) (Nat.min_le_left _ _) (by kernel_rfl) (by kernel_rfl)) ?_; rw [← HDT.out]))
          refine (holds_used H2.out).mono ?_
          rintro e w3 ⟨rfl, b⟩
          have H3 := Lib.hid (H2.out.below b)
          clear b
          go_wp2_with fail
          refine (holds_names H3.out 1 DW.out).mono ?_
          rintro e w4 ⟨_, rfl, ⟨ao, cap, ts, rfl, _, _, htl, _⟩, b⟩
          rw [htl]
          have H4 := Lib.hid (H3.out.below b)
          clear b htl
          obtain ⟨qa, hqa⟩ : ∃ q : Nat, q = D.inodes := ⟨_, rfl⟩
          obtain ⟨qb, hqb⟩ : ∃ q : Nat, q = D.bytes := ⟨_, rfl⟩
          obtain ⟨qc, hqc⟩ : ∃ q : Nat, q = D.cnt 1 := ⟨_, rfl⟩
          rw [← hqa, ← hqb, ← hqc]
          have HQA := Lib.hid (And.intro hqa (And.intro hqb hqc))
          have QB := Lib.hid (show qa ≤ 1000 ∧ qb ≤ 10000 ∧ qc ≤ 100000 by
            have := HB.out
            have := HQ.out
            have h3 : D.cnt 1 ≤ D.E.length := List.countP_le_length
            have := H4.out.f.e
            omega)
          clear hqa hqb hqc
          go_wp2_with (first
            | ((with_reducible refine alloc_any rfl 25 rfl _ zero_quota ?_); intro u hu bu zu; have HUQ := Lib.hid hu; have BU := Lib.hid (H4.out.fresh bu); have ZU := Lib.hid zu; clear hu bu zu)
            | ((with_reducible refine hold_none rfl ?_); unfold held; refine store_any rfl 25 (.tmp 10) (.tmp 53) rfl w4.heap.size (by kernel_rfl) (quotaV (qa : Int) (qb : Int)) (by kernel_rfl) _ HUQ.out rfl info_quota (quota_one _ _) ?_; intro w5 hx tx; have hk := fun (b : Nat) (hb : b ∈ [w4.heap.size]) => (show (False ∨ (w4.heap.size ≤ b ∧ b < u.heap.size)) ∧ w.heap.size ≤ b from by (obtain rfl := List.mem_singleton.mp hb); exact ⟨.inr (by rw [ZU.out]; omega), H4.out.size⟩); have H5 := Lib.hid ((BU.out.touch tx hk).sub (av' := fun b => b = w4.heap.size) (fun b hb => .inr (by rw [ZU.out]; omega))); have A5 := Lib.hid hx; clear hx tx hk))
          have hI5 := H5.out.ex
          obtain ⟨_, dp5, _, I5, _, _⟩ := hI5
          have UM := Lib.hid (und_make U.out I5)
          clear I5
          refine (make_ok H5.out (by omega) 1 DW.out frs (by decide) (asc_of (by decide)) 1 420 dt (by omega) ((D.L.length : Int) + 1) 0 (by rw [UM.out.1]; rfl) UM.out.1 (unD1 D 1 dt) UM.out.2).mono ?_
          rintro e w6 ⟨rfl, h6, k6⟩
          have H6 := Lib.hid h6
          have A6 := Lib.hid (A5.out.keeps k6 rfl)
          clear h6 k6
          obtain ⟨ff, hff⟩ : ∃ f : Int, f = (D.L.length : Int) + 1 := ⟨_, rfl⟩
          rw [← hff]
          have HFF := Lib.hid hff
          have FW := Lib.hid (show (Lit.int .i64 ff).wf = true from wf_small (by omega) (by have := HLN.out; omega))
          clear hff
          go_wp2_with fail
          obtain ⟨B, hB⟩ : ∃ B, B = w4.heap.size := ⟨_, rfl⟩
          rw [← hB] at A6 ⊢
          have H7 := Lib.hid (show Holds w w6.drew tb (unD1 D 1 dt) (1 + k + 1) (fun b => b = B) by rw [hB]; exact H6.out.below (below_dr w6))
          clear hB
          have S0 : (fun W => At W B 25 (quotaV (qa : Int) (qb : Int))) w6.drew := A6.out.drew
          refine region_any (fun W => At W B 25 (quotaV (qa : Int) (qb : Int))) 25 (by kernel_rfl) ?_
          show wpAnyT _ _ _ _ _ _ _ _ _ w6.drew
          generalize w6.drew = v0 at S0 H7 ⊢
          refine wpAnyT_takeN (i := 0) (v := .int .i64 0) rfl (by decide) (by kernel_rfl) (by kernel_rfl) (by kernel_rfl) (fun _ _ _ h => h) (.inl ⟨by kernel_rfl, fun W hS => by kernel_rfl⟩) S0 ?_
          refine wpAnyT_takeN (i := 1) (v := .bool false) rfl (by decide) (by kernel_rfl) (by kernel_rfl) (by kernel_rfl) (fun _ _ _ h => h) (.inl ⟨by kernel_rfl, fun W hS => by kernel_rfl⟩) S0 ?_
          refine wpAnyT_takeN (i := 2) (v := .bool false) rfl (by decide) (by kernel_rfl) (by kernel_rfl) (by kernel_rfl) (fun _ _ _ h => h) (.inl ⟨by kernel_rfl, fun W hS => by kernel_rfl⟩) S0 ?_
          refine wpAnyT_takeN (i := 3) (v := tabV tb) rfl (by decide) (by kernel_rfl) (by kernel_rfl) (by kernel_rfl) (fun _ _ _ h => h) (.inl ⟨by kernel_rfl, fun W hS => by kernel_rfl⟩) S0 ?_
          refine wpAnyT_takeN (i := 5) (v := .pointer (some ⟨B, 0, none⟩)) rfl (by decide) (by kernel_rfl) (by kernel_rfl) (by kernel_rfl) (fun _ _ _ h => h) (.inl ⟨by kernel_rfl, fun W hS => by kernel_rfl⟩) S0 ?_
          refine wpAnyT_takeN (i := 6) (v := .int .i64 (qa : Int)) rfl (by decide) (by kernel_rfl) (by kernel_rfl) (by kernel_rfl) (fun _ _ _ h => h) (.inl ⟨by kernel_rfl, fun W hS => run_load_one 3 (.tmp 70) rfl ⟨B, 0, none⟩ (by kernel_rfl) _ (hS.cell 0 _ rfl) _ Try.underlying3 rfl⟩) S0 ?_
          refine wpAnyT_takeN (i := 7) (v := .int .i64 ((qa + 1 : Nat) : Int)) rfl (by decide) (by kernel_rfl) (by kernel_rfl) (by kernel_rfl) (fun _ _ _ h => h) (.inl ⟨by kernel_rfl, fun W hS => addN_op (.tmp 71) (.const (.int .i64 1)) rfl qa 1 (by have := QB.out; omega) (by kernel_rfl) (by kernel_rfl)⟩) S0 ?_
          refine wpAnyT_takeN (i := 8) (v := .pointer (some ⟨B, 1, none⟩)) rfl (by decide) (by kernel_rfl) (by kernel_rfl) (by kernel_rfl) (fun _ _ _ h => h) (.inl ⟨by kernel_rfl, fun W hS => by kernel_rfl⟩) S0 ?_
          refine wpAnyT_takeN (i := 9) (v := .int .i64 (qb : Int)) rfl (by decide) (by kernel_rfl) (by kernel_rfl) (by kernel_rfl) (fun _ _ _ h => h) (.inl ⟨by kernel_rfl, fun W hS => run_load_one 3 (.tmp 73) rfl ⟨B, 1, none⟩ (by kernel_rfl) _ (hS.cell 1 _ rfl) _ Try.underlying3 rfl⟩) S0 ?_
          refine wpAnyT_takeN (i := 10) (v := .string (bs dt)) rfl (by decide) (by kernel_rfl) (by kernel_rfl) (by kernel_rfl) (fun _ _ _ h => h) (.inl ⟨by kernel_rfl, fun W hS => by kernel_rfl⟩) S0 ?_
          refine wpAnyT_takeN (i := 11) (v := .int .i64 (dt.length : Int)) rfl (by decide) (by kernel_rfl) (by kernel_rfl) (by kernel_rfl) (fun _ _ _ h => h) (.inl ⟨by kernel_rfl, fun W hS => lenS_op (.tmp 75) rfl dt (by kernel_rfl)⟩) S0 ?_
          refine wpAnyT_takeN (i := 12) (v := .int .i64 ((qb + dt.length : Nat) : Int)) rfl (by decide) (by kernel_rfl) (by kernel_rfl) (by kernel_rfl) (fun _ _ _ h => h) (.inl ⟨by kernel_rfl, fun W hS => addN_op (.tmp 74) (.tmp 76) rfl qb dt.length (by have := QB.out; omega) (by kernel_rfl) (by kernel_rfl)⟩) S0 ?_
          refine wpAnyT_takeN (i := 13) (v := .agg (quotaV ((qa + 1 : Nat) : Int) ((qb + dt.length : Nat) : Int)).toArray) rfl (by decide) (by kernel_rfl) (by kernel_rfl) (by kernel_rfl) (fun _ _ _ h => h) (.inl ⟨by kernel_rfl, fun W hS => by kernel_rfl⟩) S0 ?_
          have us := und_sizes (D := D) (d := 1) (dt := dt)
          rw [← HQA.out.1, ← HQA.out.2.1, ← HQA.out.2.2] at us
          have hcu := holds_used H7.out
          rw [us.1, us.2.1] at hcu
          refine wpAnyT_call (i := 4) (by kernel_rfl) rfl (by kernel_rfl) 8 #[tabV tb] (by kernel_rfl) (hcu.mono ?_)
          rintro e v1 ⟨rfl, b1⟩
          have S1 : (fun W => At W B 25 (quotaV (qa : Int) (qb : Int))) v1 := S0.below b1 S0.lt
          have H8 := Lib.hid (H7.out.below b1)
          refine ⟨_, rfl, S1, ?_⟩
          refine wpAnyT_takeN (i := 14) (v := .bool false) rfl (by decide) (by kernel_rfl) (by kernel_rfl) (by kernel_rfl) (fun _ _ _ h => h) (.inl ⟨by kernel_rfl, fun W hS => run_bin_op .neq 25 25 (.tmp 69) (.tmp 78) rfl (.agg (quotaV ((qa + 1 : Nat) : Int) ((qb + dt.length : Nat) : Int)).toArray) (.agg (quotaV ((qa + 1 : Nat) : Int) ((qb + dt.length : Nat) : Int)).toArray) _ (by kernel_rfl) (by kernel_rfl) (by kernel_rfl) (quota_neq _ _ _)⟩) S1 ?_
          refine wpAnyT_takeN (i := 15) (v := .bool false) rfl (by decide) (by kernel_rfl) (by kernel_rfl) (by kernel_rfl) (fun _ _ _ h => h) (.inl ⟨by kernel_rfl, fun W hS => by kernel_rfl⟩) S1 ?_
          refine wpAnyT_takeN (i := 16) (v := .bool false) rfl (by decide) (by kernel_rfl) (by kernel_rfl) (by kernel_rfl) (fun _ _ _ h => h) (.inl ⟨by kernel_rfl, fun W hS => by kernel_rfl⟩) S1 ?_
          refine wpAnyT_takeN (i := 17) (v := tabV tb) rfl (by decide) (by kernel_rfl) (by kernel_rfl) (by kernel_rfl) (fun _ _ _ h => h) (.inl ⟨by kernel_rfl, fun W hS => by kernel_rfl⟩) S1 ?_
          refine wpAnyT_takeN (i := 18) (v := .int .i64 1) rfl (by decide) (by kernel_rfl) (by kernel_rfl) (by kernel_rfl) (fun _ _ _ h => h) (.inl ⟨by kernel_rfl, fun W hS => by kernel_rfl⟩) S1 ?_
          refine wpAnyT_takeN (i := 21) (v := .int .i64 (qc : Int)) rfl (by decide) (by kernel_rfl) (by kernel_rfl) (by kernel_rfl) (fun _ _ _ h => h) (.inl ⟨by kernel_rfl, fun W hS => by kernel_rfl⟩) S1 ?_
          refine wpAnyT_takeN (i := 22) (v := .int .i64 ((qc + 1 : Nat) : Int)) rfl (by decide) (by kernel_rfl) (by kernel_rfl) (by kernel_rfl) (fun _ _ _ h => h) (.inl ⟨by kernel_rfl, fun W hS => addN_op (.tmp 86) (.const (.int .i64 1)) rfl qc 1 (by have := QB.out; omega) (by kernel_rfl) (by kernel_rfl)⟩) S1 ?_
          refine wpAnyT_call (i := 19) (by kernel_rfl) rfl (by kernel_rfl) 11 #[tabV tb, .int .i64 1] (by kernel_rfl) ((holds_names H8.out 1 DW.out).mono ?_)
          rintro e v2 ⟨_, rfl, ⟨ao2, cap2, ts2, rfl, _, _, htl2, _⟩, b2⟩
          rw [us.2.2.1] at htl2
          rw [htl2]
          have S2 : (fun W => At W B 25 (quotaV (qa : Int) (qb : Int))) v2 := S1.below b2 S1.lt
          have H9 := Lib.hid (H8.out.below b2)
          refine ⟨_, rfl, S2, ?_⟩
          refine wpAnyT_takeN (i := 20) (v := .int .i64 ((qc + 1 : Nat) : Int)) rfl (by decide) (by kernel_rfl) (by kernel_rfl) (by kernel_rfl) (fun _ _ _ h => h) (.inl ⟨by kernel_rfl, fun W hS => by kernel_rfl⟩) S2 ?_
          refine wpAnyT_takeN (i := 23) (v := .bool false) rfl (by decide) (by kernel_rfl) (by kernel_rfl) (by kernel_rfl) (fun _ _ _ h => h) (.inl ⟨by kernel_rfl, fun W hS => neq3_op (.tmp 85) (.tmp 87) rfl ((qc + 1 : Nat) : Int) (by kernel_rfl) (by kernel_rfl)⟩) S2 ?_
          refine wpAnyT_takeN (i := 24) (v := .bool false) rfl (by decide) (by kernel_rfl) (by kernel_rfl) (by kernel_rfl) (fun _ _ _ h => h) (.inl ⟨by kernel_rfl, fun W hS => by kernel_rfl⟩) S2 ?_
          refine wpAnyT_done (by kernel_rfl) ?_ _
          simp only [Act.put, List.getElem_toArray, List.getElem_cons_succ, List.getElem_cons_zero, List.setIfInBounds_toArray, List.set_cons_zero, List.set_cons_succ]
          have A9 := Lib.hid S2
          have US := Lib.hid us
          clear S0 S1 S2 us hcu b1 b2 htl2
          unfold tabV
          go_wp2_with fail
          refine (move_ok H9.out (by omega) 1 DW.out frs (by unfold maxLen; decide) 1 (by decide) oth (by decide) (asc_of (by decide)) 0 (unD2 D dt) (fun dp I => und_move U.out I)).mono ?_
          rintro e w7 ⟨rfl, h, kk⟩
          have H10 := Lib.hid h
          have A10 := Lib.hid (A9.out.keeps kk rfl)
          clear h kk
          go_wp2_with fail
          refine (move_ok H10.out (by omega) 1 (by decide) oth (by unfold maxLen; decide) 1 DW.out frs (by decide) (asc_of (by decide)) 0 (unD1 D 1 dt) (fun dp I => und_back U.out I H10.out.f (by omega))).mono ?_
          rintro e w8 ⟨rfl, h, kk⟩
          have H11 := Lib.hid h
          have A11 := Lib.hid (A10.out.keeps kk rfl)
          clear h kk
          go_wp2_with fail
          have hI11 := H11.out.ex
          obtain ⟨_, dp11, _, I11, _, _⟩ := hI11
          have hI5 := H2.out.ex
          obtain ⟨_, dp0, _, I0, _, _⟩ := hI5
          have FD := Lib.hid (und_find1 I11)
          have UL := Lib.hid (und_unlink U.out I0 I11)
          rw [← HFF.out] at FD
          clear I11 I0
          have hcf := holds_find H11.out 1 DW.out frs (by unfold maxLen; decide)
          rw [FD.out] at hcf
          refine hcf.mono ?_
          rintro e w9 ⟨rfl, b⟩
          have H12 := Lib.hid ((H11.out.below b).below (below_dr w9))
          have A12 := Lib.hid (A11.out.below b A11.out.lt).drew
          clear b hcf
          go_wp2_with fail
          have S0 : (fun W => At W B 25 (quotaV (qa : Int) (qb : Int))) w9.drew := A12.out
          refine region_any (fun W => At W B 25 (quotaV (qa : Int) (qb : Int))) 27 (by kernel_rfl) ?_
          show wpAnyT _ _ _ _ _ _ _ _ _ w9.drew
          generalize w9.drew = v3 at S0 H12 ⊢
          refine wpAnyT_takeN (i := 0) (v := .bool true) rfl (by decide) (by kernel_rfl) (by kernel_rfl) (by kernel_rfl) (fun _ _ _ h => h) (.inl ⟨by kernel_rfl, fun W hS => by kernel_rfl⟩) S0 ?_
          refine wpAnyT_takeN (i := 1) (v := .bool false) rfl (by decide) (by kernel_rfl) (by kernel_rfl) (by kernel_rfl) (fun _ _ _ h => h) (.inl ⟨by kernel_rfl, fun W hS => by kernel_rfl⟩) S0 ?_
          refine wpAnyT_takeN (i := 2) (v := .bool false) rfl (by decide) (by kernel_rfl) (by kernel_rfl) (by kernel_rfl) (fun _ _ _ h => h) (.inl ⟨by kernel_rfl, fun W hS => by kernel_rfl⟩) S0 ?_
          refine wpAnyT_takeN (i := 3) (v := .int .i64 ff) rfl (by decide) (by kernel_rfl) (by kernel_rfl) (by kernel_rfl) (fun _ _ _ h => h) (.inl ⟨by kernel_rfl, fun W hS => by kernel_rfl⟩) S0 ?_
          refine wpAnyT_takeN (i := 4) (v := .int .i64 ff) rfl (by decide) (by kernel_rfl) (by kernel_rfl) (by kernel_rfl) (fun _ _ _ h => h) (.inl ⟨by kernel_rfl, fun W hS => by kernel_rfl⟩) S0 ?_
          refine wpAnyT_takeN (i := 5) (v := .bool false) rfl (by decide) (by kernel_rfl) (by kernel_rfl) (by kernel_rfl) (fun _ _ _ h => h) (.inl ⟨by kernel_rfl, fun W hS => neq3_op (.tmp 109) (.tmp 110) rfl ff (by kernel_rfl) (by kernel_rfl)⟩) S0 ?_
          refine wpAnyT_takeN (i := 6) (v := .bool false) rfl (by decide) (by kernel_rfl) (by kernel_rfl) (by kernel_rfl) (fun _ _ _ h => h) (.inl ⟨by kernel_rfl, fun W hS => by kernel_rfl⟩) S0 ?_
          refine wpAnyT_takeN (i := 7) (v := .bool false) rfl (by decide) (by kernel_rfl) (by kernel_rfl) (by kernel_rfl) (fun _ _ _ h => h) (.inl ⟨by kernel_rfl, fun W hS => by kernel_rfl⟩) S0 ?_
          refine wpAnyT_takeN (i := 8) (v := tabV tb) rfl (by decide) (by kernel_rfl) (by kernel_rfl) (by kernel_rfl) (fun _ _ _ h => h) (.inl ⟨by kernel_rfl, fun W hS => by kernel_rfl⟩) S0 ?_
          refine wpAnyT_takeN (i := 9) (v := .int .i64 1) rfl (by decide) (by kernel_rfl) (by kernel_rfl) (by kernel_rfl) (fun _ _ _ h => h) (.inl ⟨by kernel_rfl, fun W hS => by kernel_rfl⟩) S0 ?_
          have hcul := holds_unlink H12.out (by omega) 1 DW.out frs (by unfold maxLen; decide)
          rw [UL.out.1, UL.out.2] at hcul
          refine wpAnyT_call (i := 10) (by kernel_rfl) rfl (by kernel_rfl) 17 #[tabV tb, .int .i64 1, .string (bs frs)] (by kernel_rfl) (hcul.mono ?_)
          rintro e v4 ⟨rfl, h13, k13⟩
          have S1 : (fun W => At W B 25 (quotaV (qa : Int) (qb : Int))) v4 := S0.keeps k13 rfl
          have H13 := Lib.hid h13
          refine ⟨_, rfl, S1, ?_⟩
          refine wpAnyT_takeN (i := 11) (v := .bool false) rfl (by decide) (by kernel_rfl) (by kernel_rfl) (by kernel_rfl) (fun _ _ _ h => h) (.inl ⟨by kernel_rfl, fun W hS => by kernel_rfl⟩) S1 ?_
          refine wpAnyT_takeN (i := 12) (v := .bool false) rfl (by decide) (by kernel_rfl) (by kernel_rfl) (by kernel_rfl) (fun _ _ _ h => h) (.inl ⟨by kernel_rfl, fun W hS => by kernel_rfl⟩) S1 ?_
          refine wpAnyT_takeN (i := 13) (v := .bool false) rfl (by decide) (by kernel_rfl) (by kernel_rfl) (by kernel_rfl) (fun _ _ _ h => h) (.inl ⟨by kernel_rfl, fun W hS => by kernel_rfl⟩) S1 ?_
          refine wpAnyT_takeN (i := 14) (v := tabV tb) rfl (by decide) (by kernel_rfl) (by kernel_rfl) (by kernel_rfl) (fun _ _ _ h => h) (.inl ⟨by kernel_rfl, fun W hS => by kernel_rfl⟩) S1 ?_
          refine wpAnyT_takeN (i := 16) (v := .agg (quotaV (qa : Int) (qb : Int)).toArray) rfl (by decide) (by kernel_rfl) (by kernel_rfl) (by kernel_rfl) (fun _ _ _ h => h) (.inl ⟨by kernel_rfl, fun W hS => quota_load (.tmp 10) rfl B (by kernel_rfl) (qa : Int) (qb : Int) hS⟩) S1 ?_
          have hcu2 := holds_used H13.out
          rw [US.out.2.2.2.1, US.out.2.2.2.2.1] at hcu2
          refine wpAnyT_call (i := 15) (by kernel_rfl) rfl (by kernel_rfl) 8 #[tabV tb] (by kernel_rfl) (hcu2.mono ?_)
          rintro e v5 ⟨rfl, b5⟩
          have S2 : (fun W => At W B 25 (quotaV (qa : Int) (qb : Int))) v5 := S1.below b5 S1.lt
          have H14 := Lib.hid (H13.out.below b5)
          refine ⟨_, rfl, S2, ?_⟩
          refine wpAnyT_takeN (i := 17) (v := .bool false) rfl (by decide) (by kernel_rfl) (by kernel_rfl) (by kernel_rfl) (fun _ _ _ h => h) (.inl ⟨by kernel_rfl, fun W hS => run_bin_op .neq 25 25 (.tmp 121) (.tmp 122) rfl (.agg (quotaV (qa : Int) (qb : Int)).toArray) (.agg (quotaV (qa : Int) (qb : Int)).toArray) _ (by kernel_rfl) (by kernel_rfl) (by kernel_rfl) (quota_neq _ _ _)⟩) S2 ?_
          refine wpAnyT_takeN (i := 18) (v := .bool false) rfl (by decide) (by kernel_rfl) (by kernel_rfl) (by kernel_rfl) (fun _ _ _ h => h) (.inl ⟨by kernel_rfl, fun W hS => by kernel_rfl⟩) S2 ?_
          refine wpAnyT_takeN (i := 19) (v := .bool false) rfl (by decide) (by kernel_rfl) (by kernel_rfl) (by kernel_rfl) (fun _ _ _ h => h) (.inl ⟨by kernel_rfl, fun W hS => by kernel_rfl⟩) S2 ?_
          refine wpAnyT_takeN (i := 20) (v := tabV tb) rfl (by decide) (by kernel_rfl) (by kernel_rfl) (by kernel_rfl) (fun _ _ _ h => h) (.inl ⟨by kernel_rfl, fun W hS => by kernel_rfl⟩) S2 ?_
          refine wpAnyT_takeN (i := 21) (v := .int .i64 1) rfl (by decide) (by kernel_rfl) (by kernel_rfl) (by kernel_rfl) (fun _ _ _ h => h) (.inl ⟨by kernel_rfl, fun W hS => by kernel_rfl⟩) S2 ?_
          refine wpAnyT_takeN (i := 24) (v := .int .i64 (qc : Int)) rfl (by decide) (by kernel_rfl) (by kernel_rfl) (by kernel_rfl) (fun _ _ _ h => h) (.inl ⟨by kernel_rfl, fun W hS => by kernel_rfl⟩) S2 ?_
          refine wpAnyT_call (i := 22) (by kernel_rfl) rfl (by kernel_rfl) 11 #[tabV tb, .int .i64 1] (by kernel_rfl) ((holds_names H14.out 1 DW.out).mono ?_)
          rintro e v6 ⟨_, rfl, ⟨ao3, cap3, ts3, rfl, _, _, htl3, _⟩, b6⟩
          rw [US.out.2.2.2.2.2] at htl3
          rw [htl3]
          have S3 : (fun W => At W B 25 (quotaV (qa : Int) (qb : Int))) v6 := S2.below b6 S2.lt
          have H15 := Lib.hid ((H14.out.below b6).sub (av' := fun _ => False) (fun _ hb => hb.elim))
          refine ⟨_, rfl, S3, ?_⟩
          refine wpAnyT_takeN (i := 23) (v := .int .i64 (qc : Int)) rfl (by decide) (by kernel_rfl) (by kernel_rfl) (by kernel_rfl) (fun _ _ _ h => h) (.inl ⟨by kernel_rfl, fun W hS => by kernel_rfl⟩) S3 ?_
          refine wpAnyT_takeN (i := 25) (v := .bool false) rfl (by decide) (by kernel_rfl) (by kernel_rfl) (by kernel_rfl) (fun _ _ _ h => h) (.inl ⟨by kernel_rfl, fun W hS => neq3_op (.tmp 129) (.tmp 130) rfl (qc : Int) (by kernel_rfl) (by kernel_rfl)⟩) S3 ?_
          refine wpAnyT_takeN (i := 26) (v := .bool false) rfl (by decide) (by kernel_rfl) (by kernel_rfl) (by kernel_rfl) (fun _ _ _ h => h) (.inl ⟨by kernel_rfl, fun W hS => by kernel_rfl⟩) S3 ?_
          refine wpAnyT_done (by kernel_rfl) ?_ _
          simp only [Act.put, List.getElem_toArray, List.getElem_cons_succ, List.getElem_cons_zero, List.setIfInBounds_toArray, List.set_cons_zero, List.set_cons_succ]
          have hgone := und_gone (D := D)
          rw [← HFF.out] at hgone
          have HG := Lib.hid hgone
          clear S0 S1 S2 S3 h13 k13 b5 b6 hcul hcu2 htl3 hgone
          unfold tabV
          go_wp2_with fail
          refine (node_ok H15.out ff FW.out none HG.out).mono ?_
          rintro e w10 ⟨rfl, b⟩
          have H16 := Lib.hid (H15.out.below b)
          clear b
          go_wp2_with (first
            | ((with_reducible refine alloc_any rfl 35 rfl _ zero_ino ?_); intro u2 hu bu zu; have HUI := Lib.hid hu; have BUI := Lib.hid (H16.out.fresh bu); have ZUI := Lib.hid zu; clear hu bu zu)
            | ((with_reducible refine hold_none rfl ?_); unfold held; refine store_any rfl 35 (.tmp 16) (.tmp 137) rfl w10.heap.size (by kernel_rfl) (toldV none) (by kernel_rfl) _ HUI.out rfl info_ino (told_one _) ?_; intro w11 hx tx; have hk := fun (b : Nat) (hb : b ∈ [w10.heap.size]) => (show (False ∨ (w10.heap.size ≤ b ∧ b < u2.heap.size)) ∧ w.heap.size ≤ b from by (obtain rfl := List.mem_singleton.mp hb); exact ⟨.inr (by rw [ZUI.out]; omega), H16.out.size⟩); have H17 := Lib.hid ((BUI.out.touch tx hk).sub (av' := fun _ => False) (fun b hb => hb.elim)); clear hx tx hk))
          have hI17 := H17.out.ex
          obtain ⟨_, dp17, _, I17, _, _⟩ := hI17
          have UA := Lib.hid (und_again U.out I17)
          clear I17
          refine (make_ok H17.out (by omega) 1 DW.out frs (by decide) (asc_of (by decide)) 2 493 [] (by decide) (ff + 1) 0 (by rw [UA.out.1, UA.out.2, HFF.out]; simp) UA.out.1 _ rfl).mono ?_
          rintro e w12 ⟨rfl, h, _⟩
          have H18 := Lib.hid h
          clear h
          have hgt : ff < ff + 1 := by omega
          go_wp2_with fail
          refine (works7_any w12).mono ?_
          rintro e w13 ⟨rfl, b⟩
          have HE := Lib.hid (H18.out.b.trans (b.mono H18.out.size))
          clear b hgt
          go_wp2_with fail
          go_ret
          exact ⟨rfl, HE.out⟩
        · have h0' : (uu == 0) = false := by simpa using h0
          obtain ⟨rd, hrd, hrd2⟩ := upT_dir (D := D) (d := dd) (by rw [← HU.out]; exact h0)
          have DW := DDW
          have HRD := Lib.hid (And.intro hrd hrd2)
          clear hrd hrd2 h0
          have U := Lib.hid (show Und D dd dt rd from ⟨HS.out, HRD.out.1, HRD.out.2, HB.out.1, HB.out.2⟩)
          go_wp2_with (first
            | ((with_reducible refine hold_at 49 rfl ?_); unfold held; refine list_val rfl (v := .int .i64 (l.length : Int)) (w' := w2) (lenS_op (.tmp 48) rfl l (by kernel_rfl)) ?_)
            | ((with_reducible refine hold_at 50 rfl ?_); unfold held; refine list_val rfl (v := .int .i64 ((min l.length 200 : Nat) : Int)) (w' := w2) (run_min_op (.tmp 49) (.const (.int .i64 200)) rfl (l.length : Int) 200 _ (by kernel_rfl) (by kernel_rfl) HMIN.out) ?_)
            | ((with_reducible refine hold_at 51 rfl ?_); unfold held; refine list_val rfl (v := .string (bs (l.take (min l.length 200)))) (w' := w2) (hiS_op (.tmp 47) (.tmp 50) rfl l (min l.length 200) (Nat.min_le_left _ _) (by kernel_rfl) (by kernel_rfl)) ?_; rw [← HDT.out]))
          refine (holds_used H2.out).mono ?_
          rintro e w3 ⟨rfl, b⟩
          have H3 := Lib.hid (H2.out.below b)
          clear b
          go_wp2_with fail
          refine (holds_names H3.out dd DW.out).mono ?_
          rintro e w4 ⟨_, rfl, ⟨ao, cap, ts, rfl, _, _, htl, _⟩, b⟩
          rw [htl]
          have H4 := Lib.hid (H3.out.below b)
          clear b htl
          obtain ⟨qa, hqa⟩ : ∃ q : Nat, q = D.inodes := ⟨_, rfl⟩
          obtain ⟨qb, hqb⟩ : ∃ q : Nat, q = D.bytes := ⟨_, rfl⟩
          obtain ⟨qc, hqc⟩ : ∃ q : Nat, q = D.cnt dd := ⟨_, rfl⟩
          rw [← hqa, ← hqb, ← hqc]
          have HQA := Lib.hid (And.intro hqa (And.intro hqb hqc))
          have QB := Lib.hid (show qa ≤ 1000 ∧ qb ≤ 10000 ∧ qc ≤ 100000 by
            have := HB.out
            have := HQ.out
            have h3 : D.cnt dd ≤ D.E.length := List.countP_le_length
            have := H4.out.f.e
            omega)
          clear hqa hqb hqc
          go_wp2_with (first
            | ((with_reducible refine alloc_any rfl 25 rfl _ zero_quota ?_); intro u hu bu zu; have HUQ := Lib.hid hu; have BU := Lib.hid (H4.out.fresh bu); have ZU := Lib.hid zu; clear hu bu zu)
            | ((with_reducible refine hold_none rfl ?_); unfold held; refine store_any rfl 25 (.tmp 10) (.tmp 53) rfl w4.heap.size (by kernel_rfl) (quotaV (qa : Int) (qb : Int)) (by kernel_rfl) _ HUQ.out rfl info_quota (quota_one _ _) ?_; intro w5 hx tx; have hk := fun (b : Nat) (hb : b ∈ [w4.heap.size]) => (show (False ∨ (w4.heap.size ≤ b ∧ b < u.heap.size)) ∧ w.heap.size ≤ b from by (obtain rfl := List.mem_singleton.mp hb); exact ⟨.inr (by rw [ZU.out]; omega), H4.out.size⟩); have H5 := Lib.hid ((BU.out.touch tx hk).sub (av' := fun b => b = w4.heap.size) (fun b hb => .inr (by rw [ZU.out]; omega))); have A5 := Lib.hid hx; clear hx tx hk))
          have hI5 := H5.out.ex
          obtain ⟨_, dp5, _, I5, _, _⟩ := hI5
          have UM := Lib.hid (und_make U.out I5)
          clear I5
          refine (make_ok H5.out (by omega) dd DW.out frs (by decide) (asc_of (by decide)) 1 420 dt (by omega) ((D.L.length : Int) + 1) 0 (by rw [UM.out.1]; rfl) UM.out.1 (unD1 D dd dt) UM.out.2).mono ?_
          rintro e w6 ⟨rfl, h6, k6⟩
          have H6 := Lib.hid h6
          have A6 := Lib.hid (A5.out.keeps k6 rfl)
          clear h6 k6
          obtain ⟨ff, hff⟩ : ∃ f : Int, f = (D.L.length : Int) + 1 := ⟨_, rfl⟩
          rw [← hff]
          have HFF := Lib.hid hff
          have FW := Lib.hid (show (Lit.int .i64 ff).wf = true from wf_small (by omega) (by have := HLN.out; omega))
          clear hff
          go_wp2_with fail
          obtain ⟨B, hB⟩ : ∃ B, B = w4.heap.size := ⟨_, rfl⟩
          rw [← hB] at A6 ⊢
          have H7 := Lib.hid (show Holds w w6.drew tb (unD1 D dd dt) (1 + k + 1) (fun b => b = B) by rw [hB]; exact H6.out.below (below_dr w6))
          clear hB
          have S0 : (fun W => At W B 25 (quotaV (qa : Int) (qb : Int))) w6.drew := A6.out.drew
          refine region_any (fun W => At W B 25 (quotaV (qa : Int) (qb : Int))) 25 (by kernel_rfl) ?_
          show wpAnyT _ _ _ _ _ _ _ _ _ w6.drew
          generalize w6.drew = v0 at S0 H7 ⊢
          refine wpAnyT_takeN (i := 0) (v := .int .i64 0) rfl (by decide) (by kernel_rfl) (by kernel_rfl) (by kernel_rfl) (fun _ _ _ h => h) (.inl ⟨by kernel_rfl, fun W hS => by kernel_rfl⟩) S0 ?_
          refine wpAnyT_takeN (i := 1) (v := .bool false) rfl (by decide) (by kernel_rfl) (by kernel_rfl) (by kernel_rfl) (fun _ _ _ h => h) (.inl ⟨by kernel_rfl, fun W hS => by kernel_rfl⟩) S0 ?_
          refine wpAnyT_takeN (i := 2) (v := .bool false) rfl (by decide) (by kernel_rfl) (by kernel_rfl) (by kernel_rfl) (fun _ _ _ h => h) (.inl ⟨by kernel_rfl, fun W hS => by kernel_rfl⟩) S0 ?_
          refine wpAnyT_takeN (i := 3) (v := tabV tb) rfl (by decide) (by kernel_rfl) (by kernel_rfl) (by kernel_rfl) (fun _ _ _ h => h) (.inl ⟨by kernel_rfl, fun W hS => by kernel_rfl⟩) S0 ?_
          refine wpAnyT_takeN (i := 5) (v := .pointer (some ⟨B, 0, none⟩)) rfl (by decide) (by kernel_rfl) (by kernel_rfl) (by kernel_rfl) (fun _ _ _ h => h) (.inl ⟨by kernel_rfl, fun W hS => by kernel_rfl⟩) S0 ?_
          refine wpAnyT_takeN (i := 6) (v := .int .i64 (qa : Int)) rfl (by decide) (by kernel_rfl) (by kernel_rfl) (by kernel_rfl) (fun _ _ _ h => h) (.inl ⟨by kernel_rfl, fun W hS => run_load_one 3 (.tmp 70) rfl ⟨B, 0, none⟩ (by kernel_rfl) _ (hS.cell 0 _ rfl) _ Try.underlying3 rfl⟩) S0 ?_
          refine wpAnyT_takeN (i := 7) (v := .int .i64 ((qa + 1 : Nat) : Int)) rfl (by decide) (by kernel_rfl) (by kernel_rfl) (by kernel_rfl) (fun _ _ _ h => h) (.inl ⟨by kernel_rfl, fun W hS => addN_op (.tmp 71) (.const (.int .i64 1)) rfl qa 1 (by have := QB.out; omega) (by kernel_rfl) (by kernel_rfl)⟩) S0 ?_
          refine wpAnyT_takeN (i := 8) (v := .pointer (some ⟨B, 1, none⟩)) rfl (by decide) (by kernel_rfl) (by kernel_rfl) (by kernel_rfl) (fun _ _ _ h => h) (.inl ⟨by kernel_rfl, fun W hS => by kernel_rfl⟩) S0 ?_
          refine wpAnyT_takeN (i := 9) (v := .int .i64 (qb : Int)) rfl (by decide) (by kernel_rfl) (by kernel_rfl) (by kernel_rfl) (fun _ _ _ h => h) (.inl ⟨by kernel_rfl, fun W hS => run_load_one 3 (.tmp 73) rfl ⟨B, 1, none⟩ (by kernel_rfl) _ (hS.cell 1 _ rfl) _ Try.underlying3 rfl⟩) S0 ?_
          refine wpAnyT_takeN (i := 10) (v := .string (bs dt)) rfl (by decide) (by kernel_rfl) (by kernel_rfl) (by kernel_rfl) (fun _ _ _ h => h) (.inl ⟨by kernel_rfl, fun W hS => by kernel_rfl⟩) S0 ?_
          refine wpAnyT_takeN (i := 11) (v := .int .i64 (dt.length : Int)) rfl (by decide) (by kernel_rfl) (by kernel_rfl) (by kernel_rfl) (fun _ _ _ h => h) (.inl ⟨by kernel_rfl, fun W hS => lenS_op (.tmp 75) rfl dt (by kernel_rfl)⟩) S0 ?_
          refine wpAnyT_takeN (i := 12) (v := .int .i64 ((qb + dt.length : Nat) : Int)) rfl (by decide) (by kernel_rfl) (by kernel_rfl) (by kernel_rfl) (fun _ _ _ h => h) (.inl ⟨by kernel_rfl, fun W hS => addN_op (.tmp 74) (.tmp 76) rfl qb dt.length (by have := QB.out; omega) (by kernel_rfl) (by kernel_rfl)⟩) S0 ?_
          refine wpAnyT_takeN (i := 13) (v := .agg (quotaV ((qa + 1 : Nat) : Int) ((qb + dt.length : Nat) : Int)).toArray) rfl (by decide) (by kernel_rfl) (by kernel_rfl) (by kernel_rfl) (fun _ _ _ h => h) (.inl ⟨by kernel_rfl, fun W hS => by kernel_rfl⟩) S0 ?_
          have us := und_sizes (D := D) (d := dd) (dt := dt)
          rw [← HQA.out.1, ← HQA.out.2.1, ← HQA.out.2.2] at us
          have hcu := holds_used H7.out
          rw [us.1, us.2.1] at hcu
          refine wpAnyT_call (i := 4) (by kernel_rfl) rfl (by kernel_rfl) 8 #[tabV tb] (by kernel_rfl) (hcu.mono ?_)
          rintro e v1 ⟨rfl, b1⟩
          have S1 : (fun W => At W B 25 (quotaV (qa : Int) (qb : Int))) v1 := S0.below b1 S0.lt
          have H8 := Lib.hid (H7.out.below b1)
          refine ⟨_, rfl, S1, ?_⟩
          refine wpAnyT_takeN (i := 14) (v := .bool false) rfl (by decide) (by kernel_rfl) (by kernel_rfl) (by kernel_rfl) (fun _ _ _ h => h) (.inl ⟨by kernel_rfl, fun W hS => run_bin_op .neq 25 25 (.tmp 69) (.tmp 78) rfl (.agg (quotaV ((qa + 1 : Nat) : Int) ((qb + dt.length : Nat) : Int)).toArray) (.agg (quotaV ((qa + 1 : Nat) : Int) ((qb + dt.length : Nat) : Int)).toArray) _ (by kernel_rfl) (by kernel_rfl) (by kernel_rfl) (quota_neq _ _ _)⟩) S1 ?_
          refine wpAnyT_takeN (i := 15) (v := .bool false) rfl (by decide) (by kernel_rfl) (by kernel_rfl) (by kernel_rfl) (fun _ _ _ h => h) (.inl ⟨by kernel_rfl, fun W hS => by kernel_rfl⟩) S1 ?_
          refine wpAnyT_takeN (i := 16) (v := .bool false) rfl (by decide) (by kernel_rfl) (by kernel_rfl) (by kernel_rfl) (fun _ _ _ h => h) (.inl ⟨by kernel_rfl, fun W hS => by kernel_rfl⟩) S1 ?_
          refine wpAnyT_takeN (i := 17) (v := tabV tb) rfl (by decide) (by kernel_rfl) (by kernel_rfl) (by kernel_rfl) (fun _ _ _ h => h) (.inl ⟨by kernel_rfl, fun W hS => by kernel_rfl⟩) S1 ?_
          refine wpAnyT_takeN (i := 18) (v := .int .i64 dd) rfl (by decide) (by kernel_rfl) (by kernel_rfl) (by kernel_rfl) (fun _ _ _ h => h) (.inl ⟨by kernel_rfl, fun W hS => by kernel_rfl⟩) S1 ?_
          refine wpAnyT_takeN (i := 21) (v := .int .i64 (qc : Int)) rfl (by decide) (by kernel_rfl) (by kernel_rfl) (by kernel_rfl) (fun _ _ _ h => h) (.inl ⟨by kernel_rfl, fun W hS => by kernel_rfl⟩) S1 ?_
          refine wpAnyT_takeN (i := 22) (v := .int .i64 ((qc + 1 : Nat) : Int)) rfl (by decide) (by kernel_rfl) (by kernel_rfl) (by kernel_rfl) (fun _ _ _ h => h) (.inl ⟨by kernel_rfl, fun W hS => addN_op (.tmp 86) (.const (.int .i64 1)) rfl qc 1 (by have := QB.out; omega) (by kernel_rfl) (by kernel_rfl)⟩) S1 ?_
          refine wpAnyT_call (i := 19) (by kernel_rfl) rfl (by kernel_rfl) 11 #[tabV tb, .int .i64 dd] (by kernel_rfl) ((holds_names H8.out dd DW.out).mono ?_)
          rintro e v2 ⟨_, rfl, ⟨ao2, cap2, ts2, rfl, _, _, htl2, _⟩, b2⟩
          rw [us.2.2.1] at htl2
          rw [htl2]
          have S2 : (fun W => At W B 25 (quotaV (qa : Int) (qb : Int))) v2 := S1.below b2 S1.lt
          have H9 := Lib.hid (H8.out.below b2)
          refine ⟨_, rfl, S2, ?_⟩
          refine wpAnyT_takeN (i := 20) (v := .int .i64 ((qc + 1 : Nat) : Int)) rfl (by decide) (by kernel_rfl) (by kernel_rfl) (by kernel_rfl) (fun _ _ _ h => h) (.inl ⟨by kernel_rfl, fun W hS => by kernel_rfl⟩) S2 ?_
          refine wpAnyT_takeN (i := 23) (v := .bool false) rfl (by decide) (by kernel_rfl) (by kernel_rfl) (by kernel_rfl) (fun _ _ _ h => h) (.inl ⟨by kernel_rfl, fun W hS => neq3_op (.tmp 85) (.tmp 87) rfl ((qc + 1 : Nat) : Int) (by kernel_rfl) (by kernel_rfl)⟩) S2 ?_
          refine wpAnyT_takeN (i := 24) (v := .bool false) rfl (by decide) (by kernel_rfl) (by kernel_rfl) (by kernel_rfl) (fun _ _ _ h => h) (.inl ⟨by kernel_rfl, fun W hS => by kernel_rfl⟩) S2 ?_
          refine wpAnyT_done (by kernel_rfl) ?_ _
          simp only [Act.put, List.getElem_toArray, List.getElem_cons_succ, List.getElem_cons_zero, List.setIfInBounds_toArray, List.set_cons_zero, List.set_cons_succ]
          have A9 := Lib.hid S2
          have US := Lib.hid us
          clear S0 S1 S2 us hcu b1 b2 htl2
          unfold tabV
          go_wp2_with fail
          refine (move_ok H9.out (by omega) dd DW.out frs (by unfold maxLen; decide) 1 (by decide) oth (by decide) (asc_of (by decide)) 0 (unD2 D dt) (fun dp I => und_move U.out I)).mono ?_
          rintro e w7 ⟨rfl, h, kk⟩
          have H10 := Lib.hid h
          have A10 := Lib.hid (A9.out.keeps kk rfl)
          clear h kk
          go_wp2_with fail
          refine (move_ok H10.out (by omega) 1 (by decide) oth (by unfold maxLen; decide) dd DW.out frs (by decide) (asc_of (by decide)) 0 (unD1 D dd dt) (fun dp I => und_back U.out I H10.out.f (by omega))).mono ?_
          rintro e w8 ⟨rfl, h, kk⟩
          have H11 := Lib.hid h
          have A11 := Lib.hid (A10.out.keeps kk rfl)
          clear h kk
          go_wp2_with fail
          have hI11 := H11.out.ex
          obtain ⟨_, dp11, _, I11, _, _⟩ := hI11
          have hI5 := H2.out.ex
          obtain ⟨_, dp0, _, I0, _, _⟩ := hI5
          have FD := Lib.hid (und_find1 I11)
          have UL := Lib.hid (und_unlink U.out I0 I11)
          rw [← HFF.out] at FD
          clear I11 I0
          have hcf := holds_find H11.out dd DW.out frs (by unfold maxLen; decide)
          rw [FD.out] at hcf
          refine hcf.mono ?_
          rintro e w9 ⟨rfl, b⟩
          have H12 := Lib.hid ((H11.out.below b).below (below_dr w9))
          have A12 := Lib.hid (A11.out.below b A11.out.lt).drew
          clear b hcf
          go_wp2_with fail
          have S0 : (fun W => At W B 25 (quotaV (qa : Int) (qb : Int))) w9.drew := A12.out
          refine region_any (fun W => At W B 25 (quotaV (qa : Int) (qb : Int))) 27 (by kernel_rfl) ?_
          show wpAnyT _ _ _ _ _ _ _ _ _ w9.drew
          generalize w9.drew = v3 at S0 H12 ⊢
          refine wpAnyT_takeN (i := 0) (v := .bool true) rfl (by decide) (by kernel_rfl) (by kernel_rfl) (by kernel_rfl) (fun _ _ _ h => h) (.inl ⟨by kernel_rfl, fun W hS => by kernel_rfl⟩) S0 ?_
          refine wpAnyT_takeN (i := 1) (v := .bool false) rfl (by decide) (by kernel_rfl) (by kernel_rfl) (by kernel_rfl) (fun _ _ _ h => h) (.inl ⟨by kernel_rfl, fun W hS => by kernel_rfl⟩) S0 ?_
          refine wpAnyT_takeN (i := 2) (v := .bool false) rfl (by decide) (by kernel_rfl) (by kernel_rfl) (by kernel_rfl) (fun _ _ _ h => h) (.inl ⟨by kernel_rfl, fun W hS => by kernel_rfl⟩) S0 ?_
          refine wpAnyT_takeN (i := 3) (v := .int .i64 ff) rfl (by decide) (by kernel_rfl) (by kernel_rfl) (by kernel_rfl) (fun _ _ _ h => h) (.inl ⟨by kernel_rfl, fun W hS => by kernel_rfl⟩) S0 ?_
          refine wpAnyT_takeN (i := 4) (v := .int .i64 ff) rfl (by decide) (by kernel_rfl) (by kernel_rfl) (by kernel_rfl) (fun _ _ _ h => h) (.inl ⟨by kernel_rfl, fun W hS => by kernel_rfl⟩) S0 ?_
          refine wpAnyT_takeN (i := 5) (v := .bool false) rfl (by decide) (by kernel_rfl) (by kernel_rfl) (by kernel_rfl) (fun _ _ _ h => h) (.inl ⟨by kernel_rfl, fun W hS => neq3_op (.tmp 109) (.tmp 110) rfl ff (by kernel_rfl) (by kernel_rfl)⟩) S0 ?_
          refine wpAnyT_takeN (i := 6) (v := .bool false) rfl (by decide) (by kernel_rfl) (by kernel_rfl) (by kernel_rfl) (fun _ _ _ h => h) (.inl ⟨by kernel_rfl, fun W hS => by kernel_rfl⟩) S0 ?_
          refine wpAnyT_takeN (i := 7) (v := .bool false) rfl (by decide) (by kernel_rfl) (by kernel_rfl) (by kernel_rfl) (fun _ _ _ h => h) (.inl ⟨by kernel_rfl, fun W hS => by kernel_rfl⟩) S0 ?_
          refine wpAnyT_takeN (i := 8) (v := tabV tb) rfl (by decide) (by kernel_rfl) (by kernel_rfl) (by kernel_rfl) (fun _ _ _ h => h) (.inl ⟨by kernel_rfl, fun W hS => by kernel_rfl⟩) S0 ?_
          refine wpAnyT_takeN (i := 9) (v := .int .i64 dd) rfl (by decide) (by kernel_rfl) (by kernel_rfl) (by kernel_rfl) (fun _ _ _ h => h) (.inl ⟨by kernel_rfl, fun W hS => by kernel_rfl⟩) S0 ?_
          have hcul := holds_unlink H12.out (by omega) dd DW.out frs (by unfold maxLen; decide)
          rw [UL.out.1, UL.out.2] at hcul
          refine wpAnyT_call (i := 10) (by kernel_rfl) rfl (by kernel_rfl) 17 #[tabV tb, .int .i64 dd, .string (bs frs)] (by kernel_rfl) (hcul.mono ?_)
          rintro e v4 ⟨rfl, h13, k13⟩
          have S1 : (fun W => At W B 25 (quotaV (qa : Int) (qb : Int))) v4 := S0.keeps k13 rfl
          have H13 := Lib.hid h13
          refine ⟨_, rfl, S1, ?_⟩
          refine wpAnyT_takeN (i := 11) (v := .bool false) rfl (by decide) (by kernel_rfl) (by kernel_rfl) (by kernel_rfl) (fun _ _ _ h => h) (.inl ⟨by kernel_rfl, fun W hS => by kernel_rfl⟩) S1 ?_
          refine wpAnyT_takeN (i := 12) (v := .bool false) rfl (by decide) (by kernel_rfl) (by kernel_rfl) (by kernel_rfl) (fun _ _ _ h => h) (.inl ⟨by kernel_rfl, fun W hS => by kernel_rfl⟩) S1 ?_
          refine wpAnyT_takeN (i := 13) (v := .bool false) rfl (by decide) (by kernel_rfl) (by kernel_rfl) (by kernel_rfl) (fun _ _ _ h => h) (.inl ⟨by kernel_rfl, fun W hS => by kernel_rfl⟩) S1 ?_
          refine wpAnyT_takeN (i := 14) (v := tabV tb) rfl (by decide) (by kernel_rfl) (by kernel_rfl) (by kernel_rfl) (fun _ _ _ h => h) (.inl ⟨by kernel_rfl, fun W hS => by kernel_rfl⟩) S1 ?_
          refine wpAnyT_takeN (i := 16) (v := .agg (quotaV (qa : Int) (qb : Int)).toArray) rfl (by decide) (by kernel_rfl) (by kernel_rfl) (by kernel_rfl) (fun _ _ _ h => h) (.inl ⟨by kernel_rfl, fun W hS => quota_load (.tmp 10) rfl B (by kernel_rfl) (qa : Int) (qb : Int) hS⟩) S1 ?_
          have hcu2 := holds_used H13.out
          rw [US.out.2.2.2.1, US.out.2.2.2.2.1] at hcu2
          refine wpAnyT_call (i := 15) (by kernel_rfl) rfl (by kernel_rfl) 8 #[tabV tb] (by kernel_rfl) (hcu2.mono ?_)
          rintro e v5 ⟨rfl, b5⟩
          have S2 : (fun W => At W B 25 (quotaV (qa : Int) (qb : Int))) v5 := S1.below b5 S1.lt
          have H14 := Lib.hid (H13.out.below b5)
          refine ⟨_, rfl, S2, ?_⟩
          refine wpAnyT_takeN (i := 17) (v := .bool false) rfl (by decide) (by kernel_rfl) (by kernel_rfl) (by kernel_rfl) (fun _ _ _ h => h) (.inl ⟨by kernel_rfl, fun W hS => run_bin_op .neq 25 25 (.tmp 121) (.tmp 122) rfl (.agg (quotaV (qa : Int) (qb : Int)).toArray) (.agg (quotaV (qa : Int) (qb : Int)).toArray) _ (by kernel_rfl) (by kernel_rfl) (by kernel_rfl) (quota_neq _ _ _)⟩) S2 ?_
          refine wpAnyT_takeN (i := 18) (v := .bool false) rfl (by decide) (by kernel_rfl) (by kernel_rfl) (by kernel_rfl) (fun _ _ _ h => h) (.inl ⟨by kernel_rfl, fun W hS => by kernel_rfl⟩) S2 ?_
          refine wpAnyT_takeN (i := 19) (v := .bool false) rfl (by decide) (by kernel_rfl) (by kernel_rfl) (by kernel_rfl) (fun _ _ _ h => h) (.inl ⟨by kernel_rfl, fun W hS => by kernel_rfl⟩) S2 ?_
          refine wpAnyT_takeN (i := 20) (v := tabV tb) rfl (by decide) (by kernel_rfl) (by kernel_rfl) (by kernel_rfl) (fun _ _ _ h => h) (.inl ⟨by kernel_rfl, fun W hS => by kernel_rfl⟩) S2 ?_
          refine wpAnyT_takeN (i := 21) (v := .int .i64 dd) rfl (by decide) (by kernel_rfl) (by kernel_rfl) (by kernel_rfl) (fun _ _ _ h => h) (.inl ⟨by kernel_rfl, fun W hS => by kernel_rfl⟩) S2 ?_
          refine wpAnyT_takeN (i := 24) (v := .int .i64 (qc : Int)) rfl (by decide) (by kernel_rfl) (by kernel_rfl) (by kernel_rfl) (fun _ _ _ h => h) (.inl ⟨by kernel_rfl, fun W hS => by kernel_rfl⟩) S2 ?_
          refine wpAnyT_call (i := 22) (by kernel_rfl) rfl (by kernel_rfl) 11 #[tabV tb, .int .i64 dd] (by kernel_rfl) ((holds_names H14.out dd DW.out).mono ?_)
          rintro e v6 ⟨_, rfl, ⟨ao3, cap3, ts3, rfl, _, _, htl3, _⟩, b6⟩
          rw [US.out.2.2.2.2.2] at htl3
          rw [htl3]
          have S3 : (fun W => At W B 25 (quotaV (qa : Int) (qb : Int))) v6 := S2.below b6 S2.lt
          have H15 := Lib.hid ((H14.out.below b6).sub (av' := fun _ => False) (fun _ hb => hb.elim))
          refine ⟨_, rfl, S3, ?_⟩
          refine wpAnyT_takeN (i := 23) (v := .int .i64 (qc : Int)) rfl (by decide) (by kernel_rfl) (by kernel_rfl) (by kernel_rfl) (fun _ _ _ h => h) (.inl ⟨by kernel_rfl, fun W hS => by kernel_rfl⟩) S3 ?_
          refine wpAnyT_takeN (i := 25) (v := .bool false) rfl (by decide) (by kernel_rfl) (by kernel_rfl) (by kernel_rfl) (fun _ _ _ h => h) (.inl ⟨by kernel_rfl, fun W hS => neq3_op (.tmp 129) (.tmp 130) rfl (qc : Int) (by kernel_rfl) (by kernel_rfl)⟩) S3 ?_
          refine wpAnyT_takeN (i := 26) (v := .bool false) rfl (by decide) (by kernel_rfl) (by kernel_rfl) (by kernel_rfl) (fun _ _ _ h => h) (.inl ⟨by kernel_rfl, fun W hS => by kernel_rfl⟩) S3 ?_
          refine wpAnyT_done (by kernel_rfl) ?_ _
          simp only [Act.put, List.getElem_toArray, List.getElem_cons_succ, List.getElem_cons_zero, List.setIfInBounds_toArray, List.set_cons_zero, List.set_cons_succ]
          have hgone := und_gone (D := D)
          rw [← HFF.out] at hgone
          have HG := Lib.hid hgone
          clear S0 S1 S2 S3 h13 k13 b5 b6 hcul hcu2 htl3 hgone
          unfold tabV
          go_wp2_with fail
          refine (node_ok H15.out ff FW.out none HG.out).mono ?_
          rintro e w10 ⟨rfl, b⟩
          have H16 := Lib.hid (H15.out.below b)
          clear b
          go_wp2_with (first
            | ((with_reducible refine alloc_any rfl 35 rfl _ zero_ino ?_); intro u2 hu bu zu; have HUI := Lib.hid hu; have BUI := Lib.hid (H16.out.fresh bu); have ZUI := Lib.hid zu; clear hu bu zu)
            | ((with_reducible refine hold_none rfl ?_); unfold held; refine store_any rfl 35 (.tmp 16) (.tmp 137) rfl w10.heap.size (by kernel_rfl) (toldV none) (by kernel_rfl) _ HUI.out rfl info_ino (told_one _) ?_; intro w11 hx tx; have hk := fun (b : Nat) (hb : b ∈ [w10.heap.size]) => (show (False ∨ (w10.heap.size ≤ b ∧ b < u2.heap.size)) ∧ w.heap.size ≤ b from by (obtain rfl := List.mem_singleton.mp hb); exact ⟨.inr (by rw [ZUI.out]; omega), H16.out.size⟩); have H17 := Lib.hid ((BUI.out.touch tx hk).sub (av' := fun _ => False) (fun b hb => hb.elim)); clear hx tx hk))
          have hI17 := H17.out.ex
          obtain ⟨_, dp17, _, I17, _, _⟩ := hI17
          have UA := Lib.hid (und_again U.out I17)
          clear I17
          refine (make_ok H17.out (by omega) dd DW.out frs (by decide) (asc_of (by decide)) 2 493 [] (by decide) (ff + 1) 0 (by rw [UA.out.1, UA.out.2, HFF.out]; simp) UA.out.1 _ rfl).mono ?_
          rintro e w12 ⟨rfl, h, _⟩
          have H18 := Lib.hid h
          clear h
          have hgt : ff < ff + 1 := by omega
          go_wp2_with fail
          refine (works7_any w12).mono ?_
          rintro e w13 ⟨rfl, b⟩
          have HE := Lib.hid (H18.out.b.trans (b.mono H18.out.size))
          clear b hgt
          go_wp2_with fail
          go_ret
          exact ⟨rfl, HE.out⟩
end Go.Proofs.Ytgifdmfnecombaa
