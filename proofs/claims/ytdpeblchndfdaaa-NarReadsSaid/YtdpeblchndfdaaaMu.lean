/- NarBack. -/
import Derived.Test.YtdpeblchndfdaaaMt
namespace Go.Proofs.Ytdpeblchndfdaaa
open Go.RowKit
set_option maxRecDepth 100000
theorem list_val_g {ops : Array Oper} {rest : List Oper} {op : Oper} {a : Act} {w w' : World} {Q : Exit → Act → World → Prop} (hw : Region.wanted op (yielded ops a.tmps) = true) {v : Value} (hr : (execOp a.eval op).run Try.prog w = .ok (.value v) w')
    (h : wpList Try.prog ops Q rest (a.put op.dst v) w') : wpList Try.prog ops Q (op :: rest) a w :=
  wpList_step fun K hK => by
    simp only [hw, if_true]
    unfold Oper.wp
    rw [hr]
    exact hK _ _ h
theorem load_any_g {ops : Array Oper} {rest : List Oper} {op : Oper} {a : Act} {w : World} {Q : Exit → Act → World → Prop} (hw : Region.wanted op (yielded ops a.tmps) = true) (ty : TypeId) (x : Operand) (ho : op.op = .load ty x)
    (p : Addr) (hx : a.eval x = .pointer (some p)) (cs : List Value) (d : TypeDesc) (hc : ∀ j v, cs[j]? = some v → w.cell? (p.add j) = some v)
    (hu : Try.prog.underlying ty = some d) (hd : d.isRow = true) (hi : (Try.prog.info? ty).map (·.size) = some cs.length)
    (h : wpList Try.prog ops Q rest (a.put op.dst (.agg cs.toArray)) w) : wpList Try.prog ops Q (op :: rest) a w := by
  have hl : (loadCells p cs.length).run Try.prog w = .ok cs.toArray w := run_loadCells_list (P := Try.prog) w p cs hc
  refine list_val_g hw (v := .agg cs.toArray) (w' := w) ?_ h
  cases hq : Try.prog.info? ty with
  | none => simp [hq] at hi
  | some i =>
    have hs : i.size = cs.length := by simpa [hq] using hi
    have hagg : (isAgg ty).run Try.prog w = .ok true w := by
      unfold isAgg
      rw [Sem.run_bind, run_underlying hu w]
      cases d <;> simp_all
    unfold execOp
    simp only [ho, hx, Instr.loadAt, Instr.sureAddr, Sem.run_bind, Sem.run_pure, Result.andThen_ok]
    simp [loadVar, Sem.run_bind, hagg, sizeOf, typeInfo, hq, hs, hl]
/-- two nodes that lie in two blocks -/
structure NB (w : World) (a b : Nat) (A : Nd) (ao : Option Addr) (ca : Nat) (B : Nd) (bo : Option Addr) (cb : Nat) (W : World) : Prop where
  a : At W a 24 (A.cells ao ca)
  b : At W b 24 (B.cells bo cb)
  x : Has any_ W 15 A ao
  y : Has any_ W 15 B bo
  w : Below w.heap.size w W
theorem NB.below {w : World} {a b : Nat} {A : Nd} {ao : Option Addr} {ca : Nat} {B : Nd} {bo : Option Addr} {cb : Nat} {W W' : World} (h : NB w a b A ao ca B bo cb W) (hb : Below W.heap.size W W') : NB w a b A ao ca B bo cb W' :=
  ⟨h.a.below hb h.a.lt, h.b.below hb h.b.lt, h.x.below hb, h.y.below hb, h.w.trans (hb.mono h.w.size)⟩
def lim : Nat := cntF 12
theorem lim_ok : 300 * lim ≤ 1000000000000000000 := by decide +kernel
theorem lim_ok2 : lim ≤ 1000000000000000000 := by decide +kernel
theorem enc_any (l : Nat) (n : Nd) (ao : Option Addr) (cap : Nat) (w : World) (hH : Has any_ w 15 (shortL l n) ao) :
    Calls Try.prog 10 #[(shortL l n).v ao cap] w fun e w' => e = .returned (.tuple #[.string (bs (encS 15 (shortL l n))), .int .i64 (encE 15 (shortL l n))]) ∧ Below w.heap.size w w' :=
  encode_any 300 lim (by decide) lim_ok lim_ok2 15 _ ao cap w (by decide) hH (short_good l n) enc_short
theorem chk_any (l : Nat) (n : Nd) (ao : Option Addr) (cap : Nat) (w : World) (hH : Has any_ w 15 (shortL l n) ao) :
    Calls Try.prog 16 #[(shortL l n).v ao cap] w fun e w' => e = .returned (.int .i64 (checkL 15 (shortL l n))) ∧ Below w.heap.size w w' :=
  checkD_any 300 lim (by decide) lim_ok lim_ok2 15 _ ao cap w (by decide) hH (short_good l n)
/-- what Encode answers, three ways -/
theorem enc_bad {n : Nd} (h : checkL 15 n ≠ 0) : encS 15 n = [] ∧ encE 15 n = checkL 15 n := by unfold encS encE; rw [if_pos h, if_pos h]; exact ⟨rfl, rfl⟩
theorem enc_long {n : Nd} (h : checkL 15 n = 0) (hl : 60000 < (headB ++ encL 15 n).length) : encS 15 n = [] ∧ encE 15 n = 3 := ⟨by unfold encS; rw [if_neg (fun k => k h), if_pos hl], by unfold encE; rw [if_neg (fun k => k h), if_pos hl]⟩
theorem enc_good {n : Nd} (h : checkL 15 n = 0) (hl : ¬ 60000 < (headB ++ encL 15 n).length) : encS 15 n = headB ++ encL 15 n ∧ encE 15 n = 0 := ⟨by unfold encS; rw [if_neg (fun k => k h), if_neg hl], by unfold encE; rw [if_neg (fun k => k h), if_neg hl]⟩
theorem enc_zero {n : Nd} (h : encE 15 n = 0) : checkL 15 n = 0 ∧ decL (encS 15 n) = some n := by
  by_cases hc : checkL 15 n = 0
  · by_cases hl : 60000 < (headB ++ encL 15 n).length
    · rw [(enc_long hc hl).2] at h; cases h
    · rw [(enc_good hc hl).1]
      exact ⟨hc, dec_enc hc (by omega)⟩
  · rw [(enc_bad hc).2] at h; exact absurd h hc
theorem same_may {n : Nd} (h : checkL 15 n = 0) : sameL 15 n n = true := by
  obtain ⟨h1, h2, h3, _⟩ := check_may h
  exact sameL_refl 15 n h3 h1
set_option maxHeartbeats 8000000 in
theorem back_any (g1 g2 : Nat) (n1 n2 : Nd) (o1 o2 : Option Addr) (c1 c2 : Nat) (w : World) (h1 : Has any_ w g1 n1 o1) (h2 : Has any_ w g2 n2 o2) :
    Calls Try.prog 5 #[n1.v o1 c1, n2.v o2 c2] w fun e w' => e = .returned (.bool true) ∧ Below w.heap.size w w' := by
  have H1 := Lib.hid h1
  have H2 := Lib.hid h2
  clear h1 h2
  go_enter Try.func5, Try.ntmps5
  go_wp2_with (first
    | (with_reducible refine box_any rfl 24 (.tmp 0) rfl (n1.cells o1 c1) rfl ?_; intro u1 hu1 bu1 zu1; have HA1 := Lib.hid hu1; have BU1 := Lib.hid bu1; clear hu1 bu1)
    | (refine box_any rfl 24 (.tmp 1) rfl (n2.cells o2 c2) rfl ?_; intro u2 hu2 bu2 zu2; rw [zu1] at hu2 zu2 ⊢; have HB2 := Lib.hid hu2; have HA2 := Lib.hid (HA1.out.below bu2 HA1.out.lt); have BU2 := Lib.hid (BU1.out.trans (bu2.mono (by omega))); clear hu2 bu2)
    | (refine load_any rfl 24 (.tmp 2) rfl ⟨w.heap.size, 0, none⟩ rfl (n1.cells o1 c1) _ (fun j v hj => by rw [Addr.add0]; exact HA2.out.cell j v hj) Try.underlying24 rfl info_nd ?_))
  refine (short_any 13 g1 n1 o1 c1 u2 (by decide) (H1.out.below BU2.out)).mono ?_
  rintro e w3 ⟨b3, aoA, cA, rfl, hA3⟩
  have z3 := b3.size
  obtain ⟨A, hA⟩ : ∃ A, A = shortL 13 n1 := ⟨_, rfl⟩
  rw [← hA] at hA3 ⊢
  have HX3 := Lib.hid (hA3.ups (show 13 + 1 ≤ 15 by omega))
  have HA3 := Lib.hid (HA2.out.below b3 HA2.out.lt)
  have HB3 := Lib.hid (HB2.out.below b3 HB2.out.lt)
  have BU3 := Lib.hid (BU2.out.trans (b3.mono (by omega)))
  have HNA := Lib.hid hA
  clear b3 hA3 hA HA1 HA2 HB2 BU1 BU2
  go_wp2_with (first
    | (refine store_any rfl 24 (.tmp 2) (.tmp 12) rfl w.heap.size rfl (A.cells aoA cA) rfl _ HA3.out rfl info_nd (nd_one _ _ _) ?_; intro u4 hu4 tu4; have HA4 := Lib.hid hu4; have HB4 := Lib.hid (HB3.out.touch tu4 (by simp)); have BU4 := Lib.hid (tu4.below BU3.out (by simp) (Nat.le_refl _)); have z4 := tu4.size; have HX4 := Lib.hid (Has.kept (S := fun i => u2.heap.size ≤ i) (fun _ h _ => h) (fun i (hi : u2.heap.size ≤ i) hlt => tu4.block i hlt (by simp; omega)) _ _ _ HX3.out); clear hu4 tu4)
    | (refine load_any rfl 24 (.tmp 3) rfl ⟨w.heap.size + 1, 0, none⟩ rfl (n2.cells o2 c2) _ (fun j v hj => by rw [Addr.add0]; exact HB4.out.cell j v hj) Try.underlying24 rfl info_nd ?_))
  refine (short_any 13 g2 n2 o2 c2 u4 (by decide) (H2.out.below BU4.out)).mono ?_
  rintro e w5 ⟨b5, aoB, cB, rfl, hB5⟩
  have z5 := b5.size
  obtain ⟨B, hB⟩ : ∃ B, B = shortL 13 n2 := ⟨_, rfl⟩
  rw [← hB] at hB5 ⊢
  have HY5 := Lib.hid (hB5.ups (show 13 + 1 ≤ 15 by omega))
  have HX5 := Lib.hid (HX4.out.below b5)
  have HA5 := Lib.hid (HA4.out.below b5 HA4.out.lt)
  have HB5 := Lib.hid (HB4.out.below b5 HB4.out.lt)
  have BU5 := Lib.hid (BU4.out.trans (b5.mono (by omega)))
  have HNB := Lib.hid hB
  clear b5 hB5 hB HA3 HB3 HA4 HB4 BU3 BU4 HX3 HX4
  go_wp2_with (first
    | (refine store_any rfl 24 (.tmp 3) (.tmp 14) rfl (w.heap.size + 1) rfl (B.cells aoB cB) rfl _ HB5.out rfl info_nd (nd_one _ _ _) ?_; intro u6 hu6 tu6; have K6 := Lib.hid (show NB w w.heap.size (w.heap.size + 1) A aoA cA B aoB cB u6 from ⟨HA5.out.touch tu6 (by simp), hu6, (Has.kept (S := fun i => u2.heap.size ≤ i) (fun _ h _ => h) (fun i (hi : u2.heap.size ≤ i) hlt => tu6.block i hlt (by simp; omega)) _ _ _ HX5.out).any, (Has.kept (S := fun i => u4.heap.size ≤ i) (fun _ h _ => h) (fun i (hi : u4.heap.size ≤ i) hlt => tu6.block i hlt (by simp; omega)) _ _ _ HY5.out).any, tu6.below BU5.out (by simp) (Nat.le_refl _)⟩); clear hu6 tu6)
    | (refine load_any rfl 24 (.tmp 2) rfl ⟨w.heap.size, 0, none⟩ rfl (A.cells aoA cA) _ (fun j v hj => by rw [Addr.add0]; exact K6.out.a.cell j v hj) Try.underlying24 rfl info_nd ?_))
  clear HA5 HB5 HX5 HY5 BU5 z3 z4 z5 zu1 zu2
  have CA : ∀ W, Has any_ W 15 A aoA → Calls Try.prog 16 #[A.v aoA cA] W fun e w' => e = .returned (.int .i64 (checkL 15 A)) ∧ Below W.heap.size W w' := by rw [HNA.out]; exact fun W h => chk_any 13 n1 aoA cA W h
  have EA : ∀ W, Has any_ W 15 A aoA → Calls Try.prog 10 #[A.v aoA cA] W fun e w' => e = .returned (.tuple #[.string (bs (encS 15 A)), .int .i64 (encE 15 A)]) ∧ Below W.heap.size W w' := by rw [HNA.out]; exact fun W h => enc_any 13 n1 aoA cA W h
  have EB : ∀ W, Has any_ W 15 B aoB → Calls Try.prog 10 #[B.v aoB cB] W fun e w' => e = .returned (.tuple #[.string (bs (encS 15 B)), .int .i64 (encE 15 B)]) ∧ Below W.heap.size W w' := by rw [HNB.out]; exact fun W h => enc_any 13 n2 aoB cB W h
  have HCA := Lib.hid CA
  have HEA := Lib.hid EA
  have HEB := Lib.hid EB
  clear CA EA EB HNA HNB H1 H2
  refine (HEA.out u6 K6.out.x).mono ?_
  rintro e w7 ⟨rfl, b7⟩
  have K7 := Lib.hid (K6.out.below b7)
  clear b7 K6
  obtain ⟨s, hs⟩ : ∃ s, s = encS 15 A := ⟨_, rfl⟩
  obtain ⟨E, hE⟩ : ∃ E, E = encE 15 A := ⟨_, rfl⟩
  obtain ⟨t, ht⟩ : ∃ t, t = encS 15 B := ⟨_, rfl⟩
  obtain ⟨F, hF⟩ : ∃ F, F = encE 15 B := ⟨_, rfl⟩
  obtain ⟨C, hC⟩ : ∃ C, C = checkL 15 A := ⟨_, rfl⟩
  rw [← hs, ← hE]
  have HS := Lib.hid hs
  have HE := Lib.hid hE
  have HT := Lib.hid ht
  have HF := Lib.hid hF
  have HC := Lib.hid hC
  clear hs hE ht hF hC
  go_wp2_with (refine load_any rfl 24 (.tmp 3) rfl ⟨w.heap.size + 1, 0, none⟩ rfl (B.cells aoB cB) _ (fun j v hj => by rw [Addr.add0]; exact K7.out.b.cell j v hj) Try.underlying24 rfl info_nd ?_)
  refine (HEB.out w7 K7.out.y).mono ?_
  rintro e w8 ⟨rfl, b8⟩
  have K8 := Lib.hid (K7.out.below b8)
  clear b8 K7
  rw [← HT.out, ← HF.out]
  go_wp2_with (refine load_any rfl 24 (.tmp 2) rfl ⟨w.heap.size, 0, none⟩ rfl (A.cells aoA cA) _ (fun j v hj => by rw [Addr.add0]; exact K8.out.a.cell j v hj) Try.underlying24 rfl info_nd ?_)
  refine (HCA.out w8 K8.out.x).mono ?_
  rintro e w9 ⟨rfl, b9⟩
  have K9 := Lib.hid (K8.out.below b9)
  clear b9 K8
  rw [← HC.out]
  by_cases hc : C = 0
  · have hc0 : checkL 15 A = 0 := by rw [← HC.out]; exact hc
    subst hc
    by_cases hl : 60000 < (headB ++ encL 15 A).length
    · obtain ⟨e1, e2⟩ := enc_long hc0 hl
      obtain rfl : s = [] := by rw [HS.out, e1]
      obtain rfl : E = 3 := by rw [HE.out, e2]
      clear hl e1 e2 hc0
      go_wp2_with (refine load_any_g rfl 24 (.tmp 2) rfl ⟨w.heap.size, 0, none⟩ rfl (A.cells aoA cA) _ (fun j v hj => by rw [Addr.add0]; exact K9.out.a.cell j v hj) Try.underlying24 rfl info_nd ?_)
      refine (HCA.out w9 K9.out.x).mono ?_
      rintro e w10 ⟨rfl, b10⟩
      have K10 := Lib.hid (K9.out.below b10)
      clear b10 K9
      rw [← HC.out]
      go_wp2_with fail
      refine (works_any w10).mono ?_
      rintro e w11 ⟨rfl, bw⟩
      have KW := Lib.hid (K10.out.w.trans (bw.mono K10.out.w.size))
      clear bw
      go_wp2_with fail
      go_ret
      exact ⟨rfl, KW.out⟩
    · obtain ⟨e1, e2⟩ := enc_good hc0 hl
      have hds : decL s = some A := by rw [HS.out]; exact (enc_zero (by rw [e2])).2
      obtain rfl : E = 0 := by rw [HE.out, e2]
      have hsm : sameL 15 A A = true := same_may hc0
      have HDS := Lib.hid hds
      have HSM := Lib.hid hsm
      clear hl e1 e2 hc0 hds hsm
      go_wp2_with fail
      refine (decode_some HDS.out w9).mono ?_
      rintro e w10 ⟨b10, ao9, c9, rfl, h9⟩
      have K10 := Lib.hid (K9.out.below b10)
      have H9 := Lib.hid h9
      have z10 := b10.size
      clear b10 K9 h9
      go_wp2_with (first
        | (with_reducible refine alloc_any rfl 24 rfl _ zero_nd ?_; intro u hu bu zu; have HU := Lib.hid hu; have BU := Lib.hid bu; clear hu bu)
        | (refine store_any rfl 24 (.tmp 9) (.tmp 49) rfl w10.heap.size rfl (A.cells ao9 c9) rfl _ HU.out rfl info_nd (nd_one _ _ _) ?_; intro u11 hu11 tu11; have HU11 := Lib.hid hu11; have BU11 := Lib.hid (tu11.below BU.out (by simp) (Nat.le_refl _)); have K11 := Lib.hid (K10.out.below BU11.out); have H11 := Lib.hid ((H9.out.below BU11.out).any); clear hu11 tu11)
        | (refine load_any_g rfl 24 (.tmp 9) rfl ⟨w10.heap.size, 0, none⟩ rfl (A.cells ao9 c9) _ (fun j v hj => by rw [Addr.add0]; exact HU11.out.cell j v hj) Try.underlying24 rfl info_nd ?_)
        | (refine load_any_g rfl 24 (.tmp 2) rfl ⟨w.heap.size, 0, none⟩ rfl (A.cells aoA cA) _ (fun j v hj => by rw [Addr.add0]; exact K11.out.a.cell j v hj) Try.underlying24 rfl info_nd ?_))
      refine (same_wrap 15 15 A A ao9 aoA c9 cA u11 (by decide) H11.out K11.out.x).mono ?_
      rintro e w12 ⟨rfl, b12⟩
      have K12 := Lib.hid (K11.out.below b12)
      clear b12 K11 H11 HU11 HU BU BU11 K10 H9
      rw [HSM.out]
      by_cases hf : F = 0
      · subst hf
        have htb : decL t = some B := by rw [HT.out]; exact (enc_zero HF.out.symm).2
        by_cases hAB : A = B
        · have hst : t = s := by rw [HS.out, HT.out, hAB]
          subst hst
          have hsab : sameL 15 A B = true := by rw [← hAB]; exact HSM.out
          have HSAB := Lib.hid hsab
          clear hAB htb hsab HDS HSM
          go_wp2_with (first
            | (refine load_any_g rfl 24 (.tmp 2) rfl ⟨w.heap.size, 0, none⟩ rfl (A.cells aoA cA) _ (fun j v hj => by rw [Addr.add0]; exact K12.out.a.cell j v hj) Try.underlying24 rfl info_nd ?_)
            | (refine load_any_g rfl 24 (.tmp 3) rfl ⟨w.heap.size + 1, 0, none⟩ rfl (B.cells aoB cB) _ (fun j v hj => by rw [Addr.add0]; exact K12.out.b.cell j v hj) Try.underlying24 rfl info_nd ?_))
          refine (same_wrap 15 15 A B aoA aoB cA cB w12 (by decide) K12.out.x K12.out.y).mono ?_
          rintro e w13 ⟨rfl, b13⟩
          have K13 := Lib.hid (K12.out.below b13)
          clear b13 K12
          rw [HSAB.out]
          go_wp2_with fail
          refine (works_any w13).mono ?_
          rintro e w14 ⟨rfl, bw⟩
          have KW := Lib.hid (K13.out.w.trans (bw.mono K13.out.w.size))
          clear bw
          go_wp2_with fail
          go_ret
          exact ⟨rfl, KW.out⟩
        · have hst : (s == t) = false := by
            rw [beq_eq_false_iff_ne]
            intro e
            rw [e, htb] at HDS
            exact hAB (Option.some.inj HDS.out).symm
          have hsab : sameL 15 A B = false := by
            cases hq : sameL 15 A B
            · rfl
            · exact absurd (sameL_eq 15 A B hq) hAB
          have HSAB := Lib.hid hsab
          clear hAB htb hsab HDS HSM
          go_wp2_with (first
            | (refine load_any_g rfl 24 (.tmp 2) rfl ⟨w.heap.size, 0, none⟩ rfl (A.cells aoA cA) _ (fun j v hj => by rw [Addr.add0]; exact K12.out.a.cell j v hj) Try.underlying24 rfl info_nd ?_)
            | (refine load_any_g rfl 24 (.tmp 3) rfl ⟨w.heap.size + 1, 0, none⟩ rfl (B.cells aoB cB) _ (fun j v hj => by rw [Addr.add0]; exact K12.out.b.cell j v hj) Try.underlying24 rfl info_nd ?_))
          refine (same_wrap 15 15 A B aoA aoB cA cB w12 (by decide) K12.out.x K12.out.y).mono ?_
          rintro e w13 ⟨rfl, b13⟩
          have K13 := Lib.hid (K12.out.below b13)
          clear b13 K12
          rw [HSAB.out]
          go_wp2_with fail
          refine (works_any w13).mono ?_
          rintro e w14 ⟨rfl, bw⟩
          have KW := Lib.hid (K13.out.w.trans (bw.mono K13.out.w.size))
          clear bw
          go_wp2_with fail
          go_ret
          exact ⟨rfl, KW.out⟩
      · have hf2 : (F != 0) = true := by simpa using hf
        clear hf
        go_wp2_with fail
        refine (works_any w12).mono ?_
        rintro e w13 ⟨rfl, bw⟩
        have KW := Lib.hid (K12.out.w.trans (bw.mono K12.out.w.size))
        clear bw
        go_wp2_with fail
        go_ret
        exact ⟨rfl, KW.out⟩
  · have hc0 : checkL 15 A ≠ 0 := by rw [← HC.out]; exact hc
    obtain ⟨e1, e2⟩ := enc_bad hc0
    obtain rfl : s = [] := by rw [HS.out, e1]
    obtain rfl : E = C := by rw [HE.out, e2, HC.out]
    have hc2 : (E != 0) = true := by simpa using hc
    have hcc : (E != E) = false := by simp
    clear hc hc0 e1 e2
    go_wp2_with fail
    refine (works_any w9).mono ?_
    rintro e w10 ⟨rfl, bw⟩
    have KW := Lib.hid (K9.out.w.trans (bw.mono K9.out.w.size))
    clear bw
    go_wp2_with fail
    go_ret
    exact ⟨rfl, KW.out⟩
end Go.Proofs.Ytdpeblchndfdaaa
