/- The document's Same. -/
import Derived.Test.YtfflkpggmhlfpaaDoorUo
import Derived.Test.YtfflkpggmhlfpaaDoorUb
namespace Go.Proofs.YtfflkpggmhlfpaaDoor
open Go.RowKit
set_option maxRecDepth 100000
structure Wr (w : World) (ac bc : List Value) (W : World) : Prop where
  a : At W w.heap.size 24 ac
  c : At W (w.heap.size + 1) 24 bc
  b : Below w.heap.size w W
theorem Wr.below {w : World} {ac bc : List Value} {W W' : World} (h : Wr w ac bc W) (b : Below W.heap.size W W') : Wr w ac bc W' := ⟨h.a.below b h.a.lt, h.c.below b h.c.lt, h.b.trans (b.mono h.b.size)⟩
theorem enter_rsame : ∀ (args : Array Value) (w : World), (callFunc 11 args).run Tryd.prog w = .ok (.enter 11 args) w := enters_of Tryd.func11 (by kernel_rfl) rfl
theorem same_facts {h : Nat} {a b : Nd} (hd : depthL 14 a ≤ 12) : sameL (h + 1) a b = ((a.name == b.name) && ((a.kind == b.kind) && ((a.exec == b.exec) && ((a.data == b.data) && eqKids (sameL h) a.kids b.kids)))) := by
  show (decide (depthL 14 a ≤ 12) && _) = _
  rw [decide_eq_true hd]; rfl
set_option maxHeartbeats 8000000 in
theorem rsame_any : ∀ (h hb : Nat) (a b : Nd) (ao bo : Option Addr) (ca cb : Nat) (w : World), Has any_ w h a ao → Has any_ w hb b bo →
    Calls Tryd.prog 11 #[a.v ao ca, b.v bo cb] w fun e w' => e = .returned (.bool (sameL h a b)) ∧ Below w.heap.size w w' := by
  intro h
  induction h with
  | zero => intro hb a b ao bo ca cb w hA; exact hA.elim
  | succ h ih =>
    intro hb a b ao bo ca cb w hA hB
    cases hb with
    | zero => exact hB.elim
    | succ hc =>
    cases a with
    | mk an ak ae ad aks =>
    cases b with
    | mk bn bk be bd bks =>
    have hla := hA.1
    have hlb := hB.1
    unfold maxLen at hla hlb
    change aks.length ≤ _ at hla
    change bks.length ≤ _ at hlb
    obtain ⟨R, hR⟩ : ∃ R, R = sameL (h + 1) ⟨an, ak, ae, ad, aks⟩ ⟨bn, bk, be, bd, bks⟩ := ⟨_, rfl⟩
    rw [← hR]
    have IH := Lib.hid ih
    have HA := Lib.hid hA
    have HB := Lib.hid hB
    have HR := Lib.hid hR
    clear ih hA hB hR
    go_enter Tryd.func11, Tryd.ntmps11
    go_wp2_with (first
      | (with_reducible refine box_any rfl 24 (.tmp 0) rfl [.string (bs an), .int .i64 ak, .bool ae, .string (bs ad), .slice ao aks.length ca] rfl ?_; intro u hu bu zu; have HU := Lib.hid hu; have BU := Lib.hid bu; clear hu bu)
      | (with_reducible refine box_any rfl 24 (.tmp 1) rfl [.string (bs bn), .int .i64 bk, .bool be, .string (bs bd), .slice bo bks.length cb] rfl ?_; intro u2 hu2 bu2 zu2; rw [zu] at hu2; have S2 := Lib.hid (Wr.mk (w := w) (HU.out.below bu2 HU.out.lt) hu2 (BU.out.trans (bu2.mono (by omega)))); clear hu2 bu2; have SA2 := Lib.hid S2.out.a)
      | (refine load_any rfl 24 (.tmp 2) rfl ⟨w.heap.size, 0, none⟩ rfl ([.string (bs an), .int .i64 ak, .bool ae, .string (bs ad), .slice ao aks.length ca] : List Value) _ (fun j v hj => by rw [Addr.add0]; exact SA2.out.cell j v hj) Tryd.underlying24 rfl info_nd ?_))
    refine (rDeep_any (h + 1) ⟨an, ak, ae, ad, aks⟩ ao ca u2 (HA.out.below S2.out.b)).mono ?_
    rintro e w3 ⟨rfl, b3⟩
    have S3 := Lib.hid (S2.out.below b3)
    clear b3 HU BU S2 SA2
    obtain ⟨D, hD⟩ : ∃ D, D = depthL 14 (Nd.mk an ak ae ad aks) := ⟨_, rfl⟩
    obtain ⟨E, hE⟩ : ∃ E, E = depthL 14 (Nd.mk bn bk be bd bks) := ⟨_, rfl⟩
    rw [← hD]
    have HD := Lib.hid hD
    have HE := Lib.hid hE
    clear hD hE
    by_cases hdp : 12 < D
    · have hdp' : (12 : Int) < D := by omega
      go_wp2_with fail
      go_ret
      refine ⟨?_, S3.out.b⟩
      have hr : R = false := by rw [HR.out]; show (decide (depthL 14 (Nd.mk an ak ae ad aks) ≤ 12) && _) = false; rw [← HD.out]; simp; omega
      rw [hr]; rfl
    have hdp' : ¬ (12 : Int) < D := by omega
    have hD12 : depthL 14 (Nd.mk an ak ae ad aks) ≤ 12 := by rw [← HD.out]; omega
    have HR2 := Lib.hid (HR.out.trans (same_facts hD12))
    have b0 := S3.out.c.cell 0 _ rfl
    have b1 := S3.out.c.cell 1 _ rfl
    have b2 := S3.out.c.cell 2 _ rfl
    have b3 := S3.out.c.cell 3 _ rfl
    have b4 := S3.out.c.cell 4 _ rfl
    clear hD12
    go_wp2_with fail
    refine (rDeep_any (hc + 1) ⟨bn, bk, be, bd, bks⟩ bo cb w3 (HB.out.below S3.out.b)).mono ?_
    rintro e w4 ⟨rfl, bb4⟩
    have S4 := Lib.hid (S3.out.below bb4)
    clear bb4 b0 b1 b2 b3 b4 S3
    rw [← HE.out]
    by_cases hdq : 12 < E
    · have hdq' : (12 : Int) < E := by omega
      go_wp2_with fail
      go_ret
      refine ⟨?_, S4.out.b⟩
      have hr : R = false := by
        cases hq : R
        · rfl
        · rw [HR.out] at hq
          have := sameL_depth _ _ _ hq 14
          rw [← HD.out, ← HE.out] at this
          omega
      rw [hr]; rfl
    have hdq' : ¬ (12 : Int) < E := by omega
    have a0 := S4.out.a.cell 0 _ rfl
    have a1 := S4.out.a.cell 1 _ rfl
    have a2 := S4.out.a.cell 2 _ rfl
    have a3 := S4.out.a.cell 3 _ rfl
    have a4 := S4.out.a.cell 4 _ rfl
    have b0 := S4.out.c.cell 0 _ rfl
    have b1 := S4.out.c.cell 1 _ rfl
    have b2 := S4.out.c.cell 2 _ rfl
    have b3 := S4.out.c.cell 3 _ rfl
    have b4 := S4.out.c.cell 4 _ rfl

    by_cases e0 : an = bn
    case neg =>
      have e0' : (an == bn) = false := by simpa using e0
      go_wp2_with fail
      go_ret
      refine ⟨?_, S4.out.b⟩
      have hr : R = false := by rw [HR2.out]; simp [Nd.name, e0]
      rw [hr]; rfl
    subst e0
    by_cases e1 : ak = bk
    case neg =>
      have e1' : (ak == bk) = false := by simpa using e1
      go_wp2_with fail
      go_ret
      refine ⟨?_, S4.out.b⟩
      have hr : R = false := by rw [HR2.out]; simp [Nd.kind, e1]
      rw [hr]; rfl
    subst e1
    by_cases e2 : ae = be
    case neg =>
      have e2' : (ae == be) = false := by simpa using e2
      go_wp2_with fail
      go_ret
      refine ⟨?_, S4.out.b⟩
      have hr : R = false := by rw [HR2.out]; simp [Nd.exec, e2]
      rw [hr]; rfl
    subst e2
    by_cases e3 : ad = bd
    case neg =>
      have e3' : (ad == bd) = false := by simpa using e3
      go_wp2_with fail
      go_ret
      refine ⟨?_, S4.out.b⟩
      have hr : R = false := by rw [HR2.out]; simp [Nd.data, e3]
      rw [hr]; rfl
    subst e3
    by_cases hl : aks.length = bks.length
    case neg =>
      have hl' : ((aks.length : Int) == (bks.length : Int)) = false := by simp; omega
      go_wp2_with fail
      go_ret
      refine ⟨?_, S4.out.b⟩
      have hr : R = false := by rw [HR2.out]; simp [Nd.kids, eqKids, hl]
      rw [hr]; rfl
    have HR3 := Lib.hid (show R = (aks.zip bks).all (fun p => sameL h p.1 p.2) by rw [HR2.out]; simp [Nd.name, Nd.kind, Nd.exec, Nd.data, Nd.kids, eqKids, hl])
    have hl' : ((aks.length : Int) == (bks.length : Int)) = true := by simp; omega
    have HL := Lib.hid hl
    clear hl
    go_wp2_with fail
    clear a0 a1 a2 a3 a4 b0 b1 b2 b3 b4 hl'
    go_loopw [5] (fun i wx => ∃ k : Nat, k ≤ aks.length ∧ i = .int .i64 k ∧ Wr w [.string (bs an), .int .i64 ak, .bool ae, .string (bs ad), .slice ao aks.length ca] [.string (bs an), .int .i64 ak, .bool ae, .string (bs ad), .slice bo bks.length cb] wx ∧ ((aks.zip bks).take k).all (fun p => sameL h p.1 p.2) = true) (fun i _ => aks.length - (intOf i).toNat)
    case atStart => exact ⟨0, Nat.zero_le _, rfl, S4.out, by simp⟩
    clear S4
    case round =>
      obtain ⟨k, hk, rfl, hS, hall⟩ := hrel
      have a4 := hS.a.cell 4 _ rfl
      have S := Lib.hid hS
      have HALL := Lib.hid hall
      clear hS hall
      by_cases hlt : k < aks.length
      · have hlt' : (k : Int) < aks.length := by omega
        have hltb : k < bks.length := by rw [← HL.out]; exact hlt
        obtain ⟨m1, hm1⟩ : ∃ m, aks[k]? = some m := ⟨_, List.getElem?_eq_getElem hlt⟩
        obtain ⟨m2, hm2⟩ : ∃ m, bks[k]? = some m := ⟨_, List.getElem?_eq_getElem hltb⟩
        obtain ⟨x, g1, c1, rfl, _, hK1, hM1⟩ := HA.out.2 k m1 hm1
        obtain ⟨y, g2, c2, rfl, _, hK2, hM2⟩ := HB.out.2 k m2 hm2
        have hzip : (aks.zip bks).take (k + 1) = (aks.zip bks).take k ++ [(m1, m2)] := by rw [List.take_add_one, zip_get hm1 hm2]; rfl
        have hmem : (m1, m2) ∈ aks.zip bks := List.mem_of_getElem? (zip_get hm1 hm2)
        have HK1 := Lib.hid hK1
        have HK2 := Lib.hid hK2
        have HM1 := Lib.hid hM1
        have HM2 := Lib.hid hM2
        have HZ := Lib.hid hzip
        have HME := Lib.hid hmem
        clear hK1 hK2 hM1 hM2 hm1 hm2 hzip hmem
        go_wp2_with fail
        clear a4
        obtain ⟨AC, hAC⟩ : ∃ AC : List Value, AC = [.string (bs an), .int .i64 ak, .bool ae, .string (bs ad), .slice (some x) aks.length ca] := ⟨_, rfl⟩
        obtain ⟨BC, hBC⟩ : ∃ BC : List Value, BC = [.string (bs an), .int .i64 ak, .bool ae, .string (bs ad), .slice (some y) bks.length cb] := ⟨_, rfl⟩
        have S0 : Wr w AC BC wr.drew := by rw [hAC, hBC]; exact ⟨S.out.a.drew, S.out.c.drew, S.out.b.drew⟩
        refine region_any (Wr w AC BC) 12 (by kernel_rfl) ?_
        refine wpAnyT_takeN (i := 0) (v := .pointer (some ⟨w.heap.size, 4, none⟩)) rfl (by decide) (by kernel_rfl) (by kernel_rfl) (by kernel_rfl) (fun _ _ _ h => h) (.inl ⟨by kernel_rfl, fun W hS => by kernel_rfl⟩) S0 ?_
        refine wpAnyT_takeN (i := 1) (v := .slice (some x) aks.length ca) rfl (by decide) (by kernel_rfl) (by kernel_rfl) (by kernel_rfl) (fun _ _ _ h => h) (.inl ⟨by kernel_rfl, fun W hS => run_load_one 22 (.tmp 56) rfl ⟨w.heap.size, 4, none⟩ (by kernel_rfl) _ (hS.a.cell 4 _ (by rw [hAC]; rfl)) _ Tryd.underlying22 rfl⟩) S0 ?_
        refine wpAnyT_takeN (i := 2) (v := .int .i64 (k : Int)) rfl (by decide) (by kernel_rfl) (by kernel_rfl) (by kernel_rfl) (fun _ _ _ h => h) (.inl ⟨by kernel_rfl, fun W hS => by kernel_rfl⟩) S0 ?_
        refine wpAnyT_takeN (i := 3) (v := .pointer (some (x.add (k * 5)))) rfl (by decide) (by kernel_rfl) (by kernel_rfl) (by kernel_rfl) (fun _ _ _ h => h) (.inl ⟨by kernel_rfl, fun W hS => run_index_op 22 24 (.tmp 57) (.tmp 58) rfl x aks.length ca k (by kernel_rfl) (by kernel_rfl) hlt 5 _ rfl Tryd.underlying22 info_nd⟩) S0 ?_
        refine wpAnyT_takeN (i := 4) (v := m1.v g1 c1) rfl (by decide) (by kernel_rfl) (by kernel_rfl) (by kernel_rfl) (fun _ _ _ h => h) (.inl ⟨by kernel_rfl, fun W hS => run_load_nd (.tmp 59) rfl (x.add (k * 5)) (by kernel_rfl) m1 g1 c1 (fun j v hj => (HK1.out.kept (hS.b.block x.block HK1.out.lt)) j v hj)⟩) S0 ?_
        refine wpAnyT_takeN (i := 5) (v := .pointer (some ⟨(w.heap.size + 1), 4, none⟩)) rfl (by decide) (by kernel_rfl) (by kernel_rfl) (by kernel_rfl) (fun _ _ _ h => h) (.inl ⟨by kernel_rfl, fun W hS => by kernel_rfl⟩) S0 ?_
        refine wpAnyT_takeN (i := 6) (v := .slice (some y) bks.length cb) rfl (by decide) (by kernel_rfl) (by kernel_rfl) (by kernel_rfl) (fun _ _ _ h => h) (.inl ⟨by kernel_rfl, fun W hS => run_load_one 22 (.tmp 61) rfl ⟨(w.heap.size + 1), 4, none⟩ (by kernel_rfl) _ (hS.c.cell 4 _ (by rw [hBC]; rfl)) _ Tryd.underlying22 rfl⟩) S0 ?_
        refine wpAnyT_takeN (i := 7) (v := .int .i64 (k : Int)) rfl (by decide) (by kernel_rfl) (by kernel_rfl) (by kernel_rfl) (fun _ _ _ h => h) (.inl ⟨by kernel_rfl, fun W hS => by kernel_rfl⟩) S0 ?_
        refine wpAnyT_takeN (i := 8) (v := .pointer (some (y.add (k * 5)))) rfl (by decide) (by kernel_rfl) (by kernel_rfl) (by kernel_rfl) (fun _ _ _ h => h) (.inl ⟨by kernel_rfl, fun W hS => run_index_op 22 24 (.tmp 62) (.tmp 63) rfl y bks.length cb k (by kernel_rfl) (by kernel_rfl) hltb 5 _ rfl Tryd.underlying22 info_nd⟩) S0 ?_
        refine wpAnyT_takeN (i := 9) (v := m2.v g2 c2) rfl (by decide) (by kernel_rfl) (by kernel_rfl) (by kernel_rfl) (fun _ _ _ h => h) (.inl ⟨by kernel_rfl, fun W hS => run_load_nd (.tmp 64) rfl (y.add (k * 5)) (by kernel_rfl) m2 g2 c2 (fun j v hj => (HK2.out.kept (hS.b.block y.block HK2.out.lt)) j v hj)⟩) S0 ?_
        refine wpAnyT_call (i := 10) (by kernel_rfl) rfl (by kernel_rfl) 11 #[m1.v g1 c1, m2.v g2 c2] (run_call_func rfl enter_rsame _ (by kernel_rfl)) ((IH.out hc m1 m2 g1 g2 c1 c2 wr.drew (HM1.out.below S0.b) (HM2.out.below S0.b)).mono ?_)
        rintro e w5 ⟨rfl, b5⟩
        have S1 := Wr.below S0 b5
        refine ⟨_, rfl, S1, ?_⟩
        refine wpAnyT_takeN (i := 11) (v := .bool (!sameL h m1 m2)) rfl (by decide) (by kernel_rfl) (by kernel_rfl) (by kernel_rfl) (fun _ _ _ h => h) (.inl ⟨by kernel_rfl, fun W hS => by kernel_rfl⟩) S1 ?_
        refine wpAnyT_done (by kernel_rfl) ?_ _
        simp only [Act.put, List.getElem_toArray, List.getElem_cons_succ, List.getElem_cons_zero, List.setIfInBounds_toArray, List.set_cons_zero, List.set_cons_succ]
        have S5 := Lib.hid (show Wr w [.string (bs an), .int .i64 ak, .bool ae, .string (bs ad), .slice (some x) aks.length ca] [.string (bs an), .int .i64 ak, .bool ae, .string (bs ad), .slice (some y) bks.length cb] w5 by rw [← hAC, ← hBC]; exact S1)
        clear S1 S0 hAC hBC b5 S
        cases hq : sameL h m1 m2
        · go_wp2_with fail
          go_ret
          refine ⟨?_, S5.out.b⟩
          have : (aks.zip bks).all (fun p => sameL h p.1 p.2) = false := by rw [List.all_eq_false]; exact ⟨(m1, m2), HME.out, by simp [hq]⟩
          rw [HR3.out, this]; rfl
        · go_wp2_with fail
          go_roundw
          case rel => exact ⟨k + 1, by omega, by go_num, S5.out, by rw [HZ.out, List.all_append, HALL.out]; simp [hq]⟩
          case measure => simp [intOf]; omega
      · obtain rfl : k = aks.length := by omega
        have hlt' : ¬ (aks.length : Int) < aks.length := by omega
        go_wp2_with fail
        go_ret
        refine ⟨?_, S.out.b⟩
        have : (aks.zip bks).all (fun p => sameL h p.1 p.2) = true := by
          have := HALL.out
          have hle := HL.out
          rwa [List.take_of_length_le (by rw [List.length_zip]; omega)] at this
        rw [HR3.out, this]; rfl
end Go.Proofs.YtfflkpggmhlfpaaDoor
