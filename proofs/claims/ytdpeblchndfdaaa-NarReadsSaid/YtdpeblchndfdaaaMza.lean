/- NarSize. -/
import Derived.Test.YtdpeblchndfdaaaMz
namespace Go.Proofs.Ytdpeblchndfdaaa
open Go.RowKit
set_option maxRecDepth 100000
theorem index_str_g {ops : Array Oper} {rest : List Oper} {op : Oper} {a : Act} {w : World} {Q : Exit → Act → World → Prop} (hw : Region.wanted op (yielded ops a.tmps) = true) (x y : Operand) (ho : op.op = .index 9 x y) (l : List UInt8) (k : Nat) (c : UInt8) (hx : a.eval x = .string (bs l)) (hy : a.eval y = .int .i64 (k : Int)) (hc : l[k]? = some c)
    (h : wpList Try.prog ops Q rest (a.put op.dst (.int .u8 (c.toNat : Int))) w) : wpList Try.prog ops Q (op :: rest) a w := by
  obtain ⟨hk, hck⟩ := List.getElem?_eq_some_iff.1 hc
  refine list_val_g hw (v := .int .u8 (c.toNat : Int)) (w' := w) ?_ h
  have h2 : (k : Int) < l.length := by omega
  have hz := bs_size l
  have hg : ∀ h : k < (bs l).size, (bs l)[k] = c := fun h => by rw [← hck]; rfl
  unfold execOp
  simp only [ho, hx, hy]
  simp [go_sem, run_underlying Try.underlying9, hz, h2, hk, hg]
set_option maxHeartbeats 8000000 in
theorem size_law (g1 : Nat) (n1 : Nd) (o1 : Option Addr) (c1 : Nat) (w : World) (h1 : Has any_ w g1 n1 o1) :
    Calls Try.prog 8 #[n1.v o1 c1] w fun e w' => e = .returned (.bool true) ∧ Below w.heap.size w w' := by
  have H1 := Lib.hid h1
  clear h1
  go_enter Try.func8, Try.ntmps8
  go_wp2_with (first
    | (with_reducible refine box_any rfl 24 (.tmp 0) rfl (n1.cells o1 c1) rfl ?_; intro u1 hu1 bu1 zu1; have HA1 := Lib.hid hu1; have BU1 := Lib.hid bu1; clear hu1 bu1)
    | (refine load_any rfl 24 (.tmp 1) rfl ⟨w.heap.size, 0, none⟩ rfl (n1.cells o1 c1) _ (fun j v hj => by rw [Addr.add0]; exact HA1.out.cell j v hj) Try.underlying24 rfl info_nd ?_))
  refine (short_any 13 g1 n1 o1 c1 u1 (by decide) (H1.out.below BU1.out)).mono ?_
  rintro e w3 ⟨b3, aoA, cA, rfl, hA3⟩
  have z3 := b3.size
  obtain ⟨A, hA⟩ : ∃ A, A = shortL 13 n1 := ⟨_, rfl⟩
  rw [← hA] at hA3 ⊢
  have HX3 := Lib.hid (hA3.ups (show 13 + 1 ≤ 15 by omega))
  have HA3 := Lib.hid (HA1.out.below b3 HA1.out.lt)
  have BU3 := Lib.hid (BU1.out.trans (b3.mono (by omega)))
  have HNA := Lib.hid hA
  clear b3 hA3 hA HA1 BU1
  go_wp2_with (first
    | (refine store_any rfl 24 (.tmp 1) (.tmp 12) rfl w.heap.size rfl (A.cells aoA cA) rfl _ HA3.out rfl info_nd (nd_one _ _ _) ?_; intro u4 hu4 tu4; have HA4 := Lib.hid hu4; have BU4 := Lib.hid (tu4.below BU3.out (by simp) (Nat.le_refl _)); have z4 := tu4.size; have HX4 := Lib.hid ((Has.kept (S := fun i => u1.heap.size ≤ i) (fun _ h _ => h) (fun i (hi : u1.heap.size ≤ i) hlt => tu4.block i hlt (by simp; omega)) _ _ _ HX3.out).any); clear hu4 tu4)
    | (refine load_any rfl 24 (.tmp 1) rfl ⟨w.heap.size, 0, none⟩ rfl (A.cells aoA cA) _ (fun j v hj => by rw [Addr.add0]; exact HA4.out.cell j v hj) Try.underlying24 rfl info_nd ?_))
  clear HA3 HX3 BU3 z3 z4 zu1
  have EA : ∀ W, Has any_ W 15 A aoA → Calls Try.prog 10 #[A.v aoA cA] W fun e w' => e = .returned (.tuple #[.string (bs (encS 15 A)), .int .i64 (encE 15 A)]) ∧ Below W.heap.size W w' := by rw [HNA.out]; exact fun W h => enc_any 13 n1 aoA cA W h
  refine (EA u4 HX4.out).mono ?_
  rintro e w5 ⟨rfl, b5⟩
  have HA5 := Lib.hid (HA4.out.below b5 HA4.out.lt)
  have HX5 := Lib.hid (HX4.out.below b5)
  have BU5 := Lib.hid (BU4.out.trans (b5.mono BU4.out.size))
  clear b5 EA HA4 HX4 BU4
  by_cases hE : encE 15 A = 0
  · obtain ⟨hc, hdec⟩ := enc_zero hE
    obtain ⟨f1, f2, f3, f4, f5⟩ := size_facts hc
    have hS : encS 15 A = headB ++ encL 15 A := (dec_back hdec).2.1
    have hcm := check_may hc
    have hgood := short_good 13 n1
    rw [← HNA.out] at hgood
    have HGOOD := Lib.hid (hgood hcm.1 hcm.2.2.1)
    have hshort := may_shorts 15 A hcm.2.2.1
    have HSHORT := Lib.hid hshort
    have HPS := Lib.hid (paths_short 15 A [] hshort)
    rw [hE, hS]
    obtain ⟨S, hSS⟩ : ∃ S, S = headB ++ encL 15 A := ⟨_, rfl⟩
    obtain ⟨I, hI⟩ : ∃ I, I = (nodesL 15 1 A).length := ⟨_, rfl⟩
    obtain ⟨Y, hY⟩ : ∃ Y, Y = bytesL (nodesL 15 1 A) := ⟨_, rfl⟩
    obtain ⟨ps, hps⟩ : ∃ ps, ps = pathsL 15 A [] := ⟨_, rfl⟩
    have hI2 : I ≤ 2000 := by rw [hI]; exact hcm.2.2.2.1
    have hY2 : Y ≤ 100000 := by rw [hY]; exact hcm.2.2.2.2
    rw [← hSS, ← hI, ← hY, ← hps] at f4 f5
    rw [← hps] at f1 f2 f3 HPS
    rw [← hSS]
    have HI := Lib.hid hI
    have HY := Lib.hid hY
    have HP := Lib.hid hps
    have HF1 := Lib.hid f1
    have g4 : (Y : Int) + (lastSum ps : Int) + (I : Int) ≤ (S.length : Int) := by omega
    have g5 : (S.length : Int) ≤ (Y : Int) + (lastSum ps : Int) + 8 * (I : Int) + 20 := by omega
    have HG4 := Lib.hid g4
    have HG5 := Lib.hid g5
    clear hE hc hdec hS hcm hgood hshort hSS hI hY hps f1 f4 f5 g4 g5
    go_wp2_with (refine load_any rfl 24 (.tmp 1) rfl ⟨w.heap.size, 0, none⟩ rfl (A.cells aoA cA) _ (fun j v hj => by rw [Addr.add0]; exact HA5.out.cell j v hj) Try.underlying24 rfl info_nd ?_)
    refine (sizeD_any 300 lim (by decide) lim_ok lim_ok2 15 A aoA cA w5 (by decide) HX5.out HGOOD.out.1 HGOOD.out.2).mono ?_
    rintro e w6 ⟨rfl, b6⟩
    rw [← HI.out, ← HY.out]
    have HA6 := Lib.hid (HA5.out.below b6 HA5.out.lt)
    have HX6 := Lib.hid (HX5.out.below b6)
    have BU6 := Lib.hid (BU5.out.trans (b6.mono BU5.out.size))
    clear b6 HA5 HX5 BU5
    go_wp2_with (refine load_any rfl 24 (.tmp 1) rfl ⟨w.heap.size, 0, none⟩ rfl (A.cells aoA cA) _ (fun j v hj => by rw [Addr.add0]; exact HA6.out.cell j v hj) Try.underlying24 rfl info_nd ?_)
    refine (each_any 15 A aoA cA w6 HX6.out HSHORT.out (by decide) (by rw [← HP.out]; omega)).mono ?_
    rintro e w7 ⟨b7, v, rfl, ao, cap, rfl, hts⟩
    rw [HF1.out] at hts ⊢
    have HTS := Lib.hid hts
    have BU7 := Lib.hid (BU6.out.trans (b7.mono BU6.out.size))
    clear b7 hts HA6 HX6 BU6 HF1 HI HY HP HGOOD HSHORT HNA
    have h3s := f3
    go_wp2_with fail
    go_loopw [7, 9] (fun nm i wx => ∃ k : Nat, k ≤ ps.length ∧ i = .int .i64 k ∧ nm = .int .i64 (lastSum (ps.take k) : Int) ∧ wx = w7) (fun _ i _ => ps.length - (intOf i).toNat)
    case atStart => exact ⟨0, Nat.zero_le _, rfl, rfl, rfl⟩
    case round =>
      obtain ⟨k, hk, rfl, rfl, rfl⟩ := hrel
      have hst := lastSum_take ps k
      obtain ⟨M, hM⟩ : ∃ M, M = lastSum (ps.take k) := ⟨_, rfl⟩
      rw [← hM] at hst ⊢
      have HM := Lib.hid hM
      clear hM
      by_cases hlt : k < ps.length
      · have hlt' : (k : Int) < ps.length := by omega
        obtain ⟨p, hp⟩ : ∃ p, ps[k]? = some p := ⟨_, List.getElem?_eq_getElem hlt⟩
        obtain ⟨x, rfl, hcell⟩ := HTS.out k p hp
        have hpl : p.length ≤ 15015 := by have := HPS.out p (List.mem_of_getElem? hp); simpa using this
        have hnx : lastSum (ps.take (k + 1)) = M + lastL p := by rw [List.take_add_one, hp, Option.toList_some, lastSum_snoc, ← HM.out]
        have hll := lastL_le p
        have HNX := Lib.hid hnx
        clear hnx hp
        go_wp2_with (first
          | ((with_reducible refine hold_at 40 rfl ?_); unfold held; refine list_val rfl (v := .pointer (some (x.add k))) (w' := wr) (run_index_op 40 9 (.tmp 38) (.tmp 39) rfl x ps.length cap k (by kernel_rfl) (by kernel_rfl) hlt 1 _ (by rw [Nat.mul_one]) Try.underlying40 (by kernel_rfl)) ?_))
        go_loopw [10] (fun t wx => ∃ j : Nat, t = .int .i64 j ∧ p.length - lastL p ≤ j ∧ j ≤ p.length ∧ wx = wr) (fun t _ => (intOf t).toNat)
        case atStart => exact ⟨p.length, rfl, Nat.sub_le _ _, Nat.le_refl _, rfl⟩
        case round =>
          obtain ⟨j, rfl, hj1, hj2, rfl⟩ := hrel
          have hpj : (p.length : Int) ≤ 15015 := by omega
          by_cases hj : j = 0
          · subst hj
            have hlp : lastL p = p.length := by omega
            go_wp2_with (first
              | ((with_reducible refine hold_at 60 rfl ?_); unfold held; refine list_val rfl (v := .pointer (some (x.add k))) (w' := wr) (run_index_op 40 9 (.tmp 58) (.tmp 59) rfl x ps.length cap k (by kernel_rfl) (by kernel_rfl) hlt 1 _ (by rw [Nat.mul_one]) Try.underlying40 (by kernel_rfl)) ?_))
            go_roundw
            case rel => exact ⟨k + 1, by omega, by go_num, by rw [HNX.out, hlp]; first | rfl | (congr 1; omega) | simp, by first | rfl | trivial⟩
            case measure => simp [intOf] <;> omega
          · obtain ⟨q, rfl⟩ : ∃ q, j = q + 1 := ⟨j - 1, by omega⟩
            obtain ⟨c, hc⟩ : ∃ c, p[q]? = some c := ⟨_, List.getElem?_eq_getElem (by omega)⟩
            have hq0 : (0 : Int) < ((q + 1 : Nat) : Int) := by omega
            by_cases h47 : c = 47
            · have hlp : lastL p + (q + 1) = p.length := by
                by_cases hh : p.length - lastL p ≤ q
                · exact absurd h47 (last_lt hh hc)
                · omega
              have hcn : ((c.toNat : Int) != 47) = false := by rw [h47]; rfl
              have HC := Lib.hid hc
              have HLP := Lib.hid hlp
              clear hc h47 hlp hj
              go_wp2_with (first
                | ((with_reducible refine hold_at 48 rfl ?_); unfold held; refine list_val_g (by kernel_rfl) (v := .pointer (some (x.add k))) (w' := wr) (run_index_op 40 9 (.tmp 46) (.tmp 47) rfl x ps.length cap k (by kernel_rfl) (by kernel_rfl) hlt 1 _ (by rw [Nat.mul_one]) Try.underlying40 (by kernel_rfl)) ?_)
                | ((with_reducible refine hold_at 52 rfl ?_); unfold held; refine index_str_g (by kernel_rfl) (.tmp 49) (.tmp 51) rfl p q c (by kernel_rfl) (by kernel_rfl) HC.out ?_)
                | ((with_reducible refine hold_at 60 rfl ?_); unfold held; refine list_val rfl (v := .pointer (some (x.add k))) (w' := wr) (run_index_op 40 9 (.tmp 58) (.tmp 59) rfl x ps.length cap k (by kernel_rfl) (by kernel_rfl) hlt 1 _ (by rw [Nat.mul_one]) Try.underlying40 (by kernel_rfl)) ?_))
              have hlp := HLP.out
              go_roundw
              case rel => exact ⟨k + 1, by omega, by go_num, by rw [HNX.out]; first | rfl | (congr 1; omega) | simp, by first | rfl | trivial⟩
              case measure => simp [intOf] <;> omega
            · have hcn : ((c.toNat : Int) != 47) = true := by
                have : c.toNat ≠ 47 := fun e => h47 (UInt8.toNat_inj.mp (by simpa using e))
                simp
                omega
              have hlo : p.length - lastL p ≤ q := by
                by_cases hh : p.length - lastL p ≤ q
                · exact hh
                · have h9 := last_at (p := p) (by omega)
                  rw [show p.length - lastL p - 1 = q by omega, hc] at h9
                  exact absurd (Option.some.inj h9) h47
              have HC := Lib.hid hc
              clear hc h47 hj
              go_wp2_with (first
                | ((with_reducible refine hold_at 48 rfl ?_); unfold held; refine list_val_g (by kernel_rfl) (v := .pointer (some (x.add k))) (w' := wr) (run_index_op 40 9 (.tmp 46) (.tmp 47) rfl x ps.length cap k (by kernel_rfl) (by kernel_rfl) hlt 1 _ (by rw [Nat.mul_one]) Try.underlying40 (by kernel_rfl)) ?_)
                | ((with_reducible refine hold_at 52 rfl ?_); unfold held; refine index_str_g (by kernel_rfl) (.tmp 49) (.tmp 51) rfl p q c (by kernel_rfl) (by kernel_rfl) HC.out ?_))
              go_roundw
              case rel => exact ⟨q, by go_num, hlo, by omega, by first | rfl | trivial⟩
              case measure => simp [intOf] <;> omega
      · obtain rfl : k = ps.length := by omega
        rw [List.take_length] at HM
        have hMM := HM.out
        subst hMM
        have g4 := HG4.out
        have g5 := HG5.out
        go_wp2_with fail
        refine (works_any wr).mono ?_
        rintro e w20 ⟨rfl, bw⟩
        have KW := Lib.hid (BU7.out.trans (bw.mono BU7.out.size))
        clear bw
        go_wp2_with fail
        go_ret
        exact ⟨rfl, KW.out⟩
  · have hes : encS 15 A = [] := by
      by_cases hc : checkL 15 A = 0
      · by_cases hl : 60000 < (headB ++ encL 15 A).length
        · exact (enc_long hc hl).1
        · exact absurd (enc_good hc hl).2 hE
      · exact (enc_bad hc).1
    rw [hes]
    have hE2 : (encE 15 A != 0) = true := by simpa using hE
    clear hes hE
    generalize encE 15 A = E at hE2 ⊢
    go_wp2_with fail
    refine (works_any w5).mono ?_
    rintro e w20 ⟨rfl, bw⟩
    have KW := Lib.hid (BU5.out.trans (bw.mono BU5.out.size))
    clear bw
    go_wp2_with fail
    go_ret
    exact ⟨rfl, KW.out⟩
end Go.Proofs.Ytdpeblchndfdaaa
