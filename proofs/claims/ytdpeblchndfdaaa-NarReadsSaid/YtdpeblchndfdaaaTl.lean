/- Same. -/
import Derived.Test.YtdpeblchndfdaaaMf
namespace Go.Proofs.Ytdpeblchndfdaaa
open Go.RowKit
set_option maxRecDepth 100000
def eqKids (f : Nd → Nd → Bool) (k l : List Nd) : Bool := decide (k.length = l.length) && (k.zip l).all (fun p => f p.1 p.2)
/-- are they alike? -/
def sameL : Nat → Nd → Nd → Bool
  | 0, _, _ => false
  | h + 1, a, b => decide (depthL 14 a ≤ 12) && ((a.name == b.name) && ((a.kind == b.kind) && ((a.exec == b.exec) && ((a.data == b.data) && eqKids (sameL h) a.kids b.kids))))
theorem zip_get {k l : List Nd} {i : Nat} {x y : Nd} (h1 : k[i]? = some x) (h2 : l[i]? = some y) : (k.zip l)[i]? = some (x, y) := by
  rw [List.getElem?_zip_eq_some]
  exact ⟨h1, h2⟩
set_option maxHeartbeats 4000000 in
theorem equalFunc_any (f : Nd → Nd → Bool) (L : Nat) (lv : Int) (h hb : Nat) (a b : Nd) (ao bo : Option Addr) (ca cb : Nat) (w : World) (hA : Has any_ w (h + 1) a ao) (hB : Has any_ w (hb + 1) b bo) (hL : At w L 3 [.int .i64 lv])
    (HF : ∀ (m1 m2 : Nd) (g1 g2 : Option Addr) (c1 c2 : Nat) (w' : World), Has any_ w' h m1 g1 → Has any_ w' hb m2 g2 → At w' L 3 [.int .i64 lv] →
      Calls Try.prog 73 #[m1.v g1 c1, m2.v g2 c2, .pointer (some ⟨L, 0, none⟩)] w' fun e w'' => e = .returned (.bool (f m1 m2)) ∧ Below w'.heap.size w' w'') :
    Calls Try.prog 72 #[.slice ao a.kids.length ca, .slice bo b.kids.length cb, .func (.func 73) #[] #[.pointer (some ⟨L, 0, none⟩)]] w fun e w' => e = .returned (.bool (eqKids f a.kids b.kids)) ∧ Below w.heap.size w w' := by
  obtain ⟨R, hR⟩ : ∃ R, R = eqKids f a.kids b.kids := ⟨_, rfl⟩
  rw [← hR]
  obtain ⟨ka, hka⟩ : ∃ ka, ka = a.kids := ⟨_, rfl⟩
  obtain ⟨kb, hkb⟩ : ∃ kb, kb = b.kids := ⟨_, rfl⟩
  have hla := hA.1
  have hlb := hB.1
  have ha2 := hA.2
  have hb2 := hB.2
  rw [← hka] at hla ha2 hR ⊢
  rw [← hkb] at hlb hb2 hR ⊢
  unfold maxLen at hla hlb
  have HA := Lib.hid ha2
  have HB := Lib.hid hb2
  have HL := Lib.hid hL
  have HFF := Lib.hid HF
  have HR := Lib.hid hR
  clear ha2 hb2 hA hB hL HF hR hka hkb
  go_enter Try.func72, Try.ntmps72
  by_cases hne : ka.length = kb.length
  · rw [← hne]
    have HNE := Lib.hid hne
    clear hne
    go_wp2_with fail
    go_loopw [17] (fun i wx => ∃ k : Nat, k ≤ ka.length ∧ i = .int .i64 k ∧ Below w.heap.size w wx ∧ ((ka.zip kb).take k).all (fun p => f p.1 p.2) = true) (fun i _ => ka.length - (intOf i).toNat)
    case atStart => exact ⟨0, Nat.zero_le _, rfl, Below.refl _ _, by simp⟩
    case round =>
      obtain ⟨k, hk, rfl, hBe, hall⟩ := hrel
      have HBE := Lib.hid hBe
      have HALL := Lib.hid hall
      have hwz := hBe.size
      clear hBe hall
      by_cases hlt : k < ka.length
      · have hlt' : (k : Int) < ka.length := by omega
        obtain ⟨m1, hm1⟩ : ∃ m, ka[k]? = some m := ⟨_, List.getElem?_eq_getElem hlt⟩
        obtain ⟨m2, hm2⟩ : ∃ m, kb[k]? = some m := ⟨_, List.getElem?_eq_getElem (by rw [← HNE.out]; exact hlt)⟩
        obtain ⟨xa, g1, c1, rfl, _, hK1, hM1⟩ := HA.out k m1 hm1
        obtain ⟨xb, g2, c2, rfl, _, hK2, hM2⟩ := HB.out k m2 hm2
        have HK1 := Lib.hid (hK1.kept (HBE.out.block xa.block hK1.lt))
        have HK2 := Lib.hid (hK2.kept (HBE.out.block xb.block hK2.lt))
        have HM1 := Lib.hid (hM1.below HBE.out)
        have HM2 := Lib.hid (hM2.below HBE.out)
        have hzip : (ka.zip kb).take (k + 1) = (ka.zip kb).take k ++ [(m1, m2)] := by rw [List.take_add_one, zip_get hm1 hm2]; rfl
        have hmem : (m1, m2) ∈ ka.zip kb := List.mem_of_getElem? (zip_get hm1 hm2)
        have HZ := Lib.hid hzip
        have HME := Lib.hid hmem
        clear hK1 hK2 hM1 hM2 hm1 hm2 hzip hmem
        go_wp2_with (first
          | (refine load_any rfl 24 (.tmp 20) rfl (xa.add (k * 5)) rfl (m1.cells g1 c1) _ (fun j v hj => HK1.out j v hj) Try.underlying24 rfl info_nd ?_)
          | (with_reducible refine alloc_any (op := { dst := some 8, op := _, type := _, pos := _, after := _, guard := _ }) rfl 24 rfl _ zero_nd ?_; intro u2 hu2 bu2 zu2; have HU2 := Lib.hid hu2; clear hu2)
          | (refine store_any rfl 24 (.tmp 8) (.tmp 21) rfl wr.heap.size rfl (m1.cells g1 c1) rfl _ HU2.out rfl info_nd (nd_one m1 g1 c1) ?_; intro u3 hu3 tu3; have HU3 := Lib.hid hu3; have BU3 := Lib.hid (Touch.below bu2 tu3 (by simp) (Nat.le_refl _)); have z3 := tu3.size; have HK3 := Lib.hid (HK2.out.kept (BU3.out.block xb.block HK2.out.lt)); clear hu3 tu3 bu2)
          | (refine load_any rfl 24 (.tmp 24) rfl (xb.add (k * 5)) rfl (m2.cells g2 c2) _ (fun j v hj => HK3.out j v hj) Try.underlying24 rfl info_nd ?_)
          | (with_reducible refine alloc_any (op := { dst := some 9, op := _, type := _, pos := _, after := _, guard := _ }) rfl 24 rfl _ zero_nd ?_; intro u4 hu4 bu4 zu4; have HU4 := Lib.hid hu4; have HU34 := Lib.hid (HU3.out.below bu4 HU3.out.lt); clear hu4)
          | (refine store_any rfl 24 (.tmp 9) (.tmp 25) rfl u3.heap.size rfl (m2.cells g2 c2) rfl _ HU4.out rfl info_nd (nd_one m2 g2 c2) ?_; intro u5 hu5 tu5; have HU5 := Lib.hid hu5; have HU35 := Lib.hid (HU34.out.touch tu5 (by simp; omega)); have BU5 := Lib.hid (BU3.out.trans ((Touch.below bu4 tu5 (by simp) (Nat.le_refl _)).mono (by omega))); clear hu5 tu5 bu4)
          | (refine load_any rfl 24 (.tmp 8) rfl ⟨wr.heap.size, 0, none⟩ rfl (m1.cells g1 c1) _ (fun j v hj => by rw [Addr.add0]; exact HU35.out.cell j v hj) Try.underlying24 rfl info_nd ?_)
          | (refine load_any rfl 24 (.tmp 9) rfl ⟨u3.heap.size, 0, none⟩ rfl (m2.cells g2 c2) _ (fun j v hj => by rw [Addr.add0]; exact HU5.out.cell j v hj) Try.underlying24 rfl info_nd ?_))
        refine (HFF.out m1 m2 g1 g2 c1 c2 u5 (HM1.out.below BU5.out) (HM2.out.below BU5.out) ((HL.out.below HBE.out HL.out.lt).below BU5.out (by have := HL.out.lt; omega))).mono ?_
        rintro e w6 ⟨rfl, b6⟩
        have HB6 := Lib.hid ((HBE.out.trans (BU5.out.mono hwz)).trans (b6.mono (by have := BU5.out.size; omega)))
        clear b6 HU2 HU3 HU4 HU34 HU35 HU5 HK1 HK2 HK3 HM1 HM2
        cases hq : f m1 m2
        · go_wp2_with fail
          go_ret
          refine ⟨?_, HB6.out⟩
          have : eqKids f ka kb = false := by
            unfold eqKids
            rw [Bool.and_eq_false_iff]
            right
            rw [List.all_eq_false]
            exact ⟨(m1, m2), HME.out, by simp [hq]⟩
          rw [HR.out, this]; rfl
        · go_wp2_with fail
          go_roundw
          case rel => exact ⟨k + 1, by omega, by go_num, HB6.out, by rw [HZ.out, List.all_append, HALL.out]; simp [hq]⟩
          case measure => simp [intOf]; omega
      · have hlt' : ¬ (k : Int) < ka.length := by omega
        obtain rfl : k = ka.length := by omega
        go_wp2_with fail
        go_ret
        refine ⟨?_, HBE.out⟩
        have : eqKids f ka kb = true := by
          unfold eqKids
          have := HALL.out
          rw [List.take_of_length_le (by rw [List.length_zip]; omega)] at this
          simp [HNE.out, this]
        rw [HR.out, this]; rfl
  · have hne2 : ((ka.length : Int) == (kb.length : Int)) = false := by simp; omega
    go_wp2_with fail
    go_ret
    refine ⟨?_, Below.refl _ _⟩
    have : eqKids f ka kb = false := by unfold eqKids; simp [hne]
    rw [HR.out, this]; rfl
theorem run_store_none : True := trivial
set_option maxHeartbeats 4000000 in
/-- the closure: one level further -/
theorem same1_any (L : Nat) (lv : Nat) (f : Nd → Nd → Bool) (m1 m2 : Nd) (g1 g2 : Option Addr) (c1 c2 : Nat) (w : World) (hl : lv ≤ 100000) (hL : At w L 3 [.int .i64 (lv : Int)])
    (HS : ∀ w', Below w.heap.size w w' → Calls Try.prog 40 #[m1.v g1 c1, m2.v g2 c2, .int .i64 ((lv + 1 : Nat) : Int)] w' fun e w'' => e = .returned (.bool (f m1 m2)) ∧ Below w'.heap.size w' w'') :
    Calls Try.prog 73 #[m1.v g1 c1, m2.v g2 c2, .pointer (some ⟨L, 0, none⟩)] w fun e w'' => e = .returned (.bool (f m1 m2)) ∧ Below w.heap.size w w'' := by
  have HL := Lib.hid hL
  have HSS := Lib.hid HS
  clear hL HS
  go_enter Try.func73, Try.ntmps73
  go_wp2_with (first
    | (with_reducible refine box_any rfl 24 (.tmp 0) rfl (m1.cells g1 c1) rfl ?_; intro u hu bu zu; have HU := Lib.hid hu; have BU := Lib.hid bu; clear hu bu)
    | (with_reducible refine box_any rfl 24 (.tmp 1) rfl (m2.cells g2 c2) rfl ?_; intro u2 hu2 bu2 zu2; rw [zu] at hu2; have HU2 := Lib.hid hu2; have HU1 := Lib.hid (HU.out.below bu2 HU.out.lt); have BU2 := Lib.hid (BU.out.trans (bu2.mono (by omega))); have cL := (HL.out.below BU2.out HL.out.lt).cell 0 _ rfl; clear hu2 bu2)
    | (refine load_any rfl 24 (.tmp 3) rfl ⟨w.heap.size, 0, none⟩ rfl (m1.cells g1 c1) _ (fun j v hj => by rw [Addr.add0]; exact HU1.out.cell j v hj) Try.underlying24 rfl info_nd ?_)
    | (refine load_any rfl 24 (.tmp 4) rfl ⟨(w.heap.size + 1), 0, none⟩ rfl (m2.cells g2 c2) _ (fun j v hj => by rw [Addr.add0]; exact HU2.out.cell j v hj) Try.underlying24 rfl info_nd ?_))
  rw [show (lv : Int) + 1 = ((lv + 1 : Nat) : Int) by omega]
  refine (HSS.out u2 BU2.out).mono ?_
  rintro e w3 ⟨rfl, b3⟩
  have HB := Lib.hid (BU2.out.trans (b3.mono (by omega)))
  clear b3
  go_wp2
  go_ret
  exact ⟨rfl, HB.out⟩
set_option maxHeartbeats 8000000 in
theorem same_any : ∀ (h hb : Nat) (a b : Nd) (ao bo : Option Addr) (ca cb : Nat) (w : World) (lv : Nat), lv + h ≤ 65537 → Has any_ w h a ao → Has any_ w hb b bo →
    Calls Try.prog 40 #[a.v ao ca, b.v bo cb, .int .i64 (lv : Int)] w fun e w' => e = .returned (.bool (sameL h a b)) ∧ Below w.heap.size w w' := by
  intro h
  induction h with
  | zero => intro hb a b ao bo ca cb w lv _ hA; exact hA.elim
  | succ h ih =>
    intro hb a b ao bo ca cb w lv hlv hA hB
    have IH := Lib.hid ih
    have HA := Lib.hid hA
    have hlv2 : ¬ (65536 : Int) < lv := by omega
    obtain ⟨R, hR⟩ : ∃ R, R = sameL (h + 1) a b := ⟨_, rfl⟩
    rw [← hR]
    have HR := Lib.hid hR
    have hB1 : ∃ hc, hb = hc + 1 := by
      cases hb with
      | zero => exact hB.elim
      | succ hc => exact ⟨hc, rfl⟩
    obtain ⟨hc, rfl⟩ := hB1
    have HB := Lib.hid hB
    clear ih hA hB hR
    cases a with
    | mk an ak ae ad aks =>
    cases b with
    | mk bn bk be bd bks =>
    go_enter Try.func40, Try.ntmps40
    go_wp2_with (first
      | (with_reducible refine box_any rfl 24 (.tmp 0) rfl [.string (bs an), .int .i64 ak, .bool ae, .string (bs ad), .slice ao aks.length ca] rfl ?_; intro u hu bu zu; have HU := Lib.hid hu; have BU := Lib.hid bu; clear hu bu)
      | (with_reducible refine box_any rfl 24 (.tmp 1) rfl [.string (bs bn), .int .i64 bk, .bool be, .string (bs bd), .slice bo bks.length cb] rfl ?_; intro u2 hu2 bu2 zu2; rw [zu] at hu2; have HU2 := Lib.hid hu2; have HU1 := Lib.hid (HU.out.below bu2 HU.out.lt); have BU2 := Lib.hid (BU.out.trans (bu2.mono (by omega))); have a0 := HU1.out.cell 0 _ rfl; have a1 := HU1.out.cell 1 _ rfl; have a2 := HU1.out.cell 2 _ rfl; have a3 := HU1.out.cell 3 _ rfl; have a4 := HU1.out.cell 4 _ rfl; have b0 := HU2.out.cell 0 _ rfl; have b1 := HU2.out.cell 1 _ rfl; have b2 := HU2.out.cell 2 _ rfl; have b3 := HU2.out.cell 3 _ rfl; have b4 := HU2.out.cell 4 _ rfl; clear hu2 bu2))
    have aL : At (u2.alloc (.cells #[.int .i64 (lv : Int)] 3)) (w.heap.size + 1 + 1) 3 [.int .i64 (lv : Int)] := by have h := At.new u2 #[.int .i64 (lv : Int)] 3; rw [zu2, zu] at h; exact h
    have bL := (Below.refl u2.heap.size u2).alloc (Nat.le_refl _) (.cells #[.int .i64 (lv : Int)] 3)
    generalize u2.alloc (.cells #[.int .i64 (lv : Int)] 3) = u3 at *
    have z3 := bL.size
    have HB3 := Lib.hid (BU2.out.trans (bL.mono (by omega)))
    have HU13 := Lib.hid (HU1.out.below bL HU1.out.lt)
    have HU23 := Lib.hid (HU2.out.below bL HU2.out.lt)
    have HL3 := Lib.hid aL
    clear aL bL HU HU1 HU2 BU BU2 a0 a1 a2 a3 a4 b0 b1 b2 b3 b4
    refine (deep_any (h + 1) ⟨an, ak, ae, ad, aks⟩ ao ca u3 (HA.out.below HB3.out)).mono ?_
    rintro e w4 ⟨rfl, bb4⟩
    have z4 := bb4.size
    have HB4 := Lib.hid (HB3.out.trans (bb4.mono (by omega)))
    have hU14 := HU13.out.below bb4 HU13.out.lt
    have hU24 := HU23.out.below bb4 HU23.out.lt
    have hL4 := HL3.out.below bb4 HL3.out.lt
    have a0 := hU14.cell 0 _ rfl
    have a1 := hU14.cell 1 _ rfl
    have a2 := hU14.cell 2 _ rfl
    have a3 := hU14.cell 3 _ rfl
    have a4 := hU14.cell 4 _ rfl
    have b0 := hU24.cell 0 _ rfl
    have b1 := hU24.cell 1 _ rfl
    have b2 := hU24.cell 2 _ rfl
    have b3 := hU24.cell 3 _ rfl
    have b4 := hU24.cell 4 _ rfl
    have HL4 := Lib.hid hL4
    clear hU14 hU24 hL4 bb4 HU13 HU23 HL3 HB3
    obtain ⟨D, hD⟩ : ∃ D, D = depthL 14 (Nd.mk an ak ae ad aks) := ⟨_, rfl⟩
    rw [← hD]
    have HD := Lib.hid hD
    clear hD
    by_cases hdp : 12 < D
    · have hdp' : (12 : Int) < D := by omega
      go_wp2_with fail
      go_ret
      refine ⟨?_, HB4.out⟩
      have hr : R = false := by rw [HR.out]; show (decide (depthL 14 (Nd.mk an ak ae ad aks) ≤ 12) && _) = false; rw [← HD.out]; simp; omega
      rw [hr]; rfl
    · have hdp' : ¬ (12 : Int) < D := by omega
      by_cases e0 : an = bn
      · subst e0
        by_cases e1 : ak = bk
        · subst e1
          by_cases e2 : ae = be
          · subst e2
            by_cases e3 : ad = bd
            · subst e3
              go_wp2_with fail
              refine (equalFunc_any (sameL h) (w.heap.size + 1 + 1) (lv : Int) h hc ⟨an, ak, ae, ad, aks⟩ ⟨an, ak, ae, ad, bks⟩ ao bo ca cb w4 (HA.out.below HB4.out) (HB.out.below HB4.out) HL4.out (fun m1 m2 g1 g2 c1 c2 w' h1 h2 h3 => same1_any (w.heap.size + 1 + 1) lv (sameL h) m1 m2 g1 g2 c1 c2 w' (by omega) h3 (fun w'' b => IH.out hc m1 m2 g1 g2 c1 c2 w'' (lv + 1) (by omega) (h1.below b) (h2.below b)))).mono ?_
              rintro e w5 ⟨rfl, b5⟩
              have HB5 := Lib.hid (HB4.out.trans (b5.mono (by omega)))
              clear b5 a0 a1 a2 a3 a4 b0 b1 b2 b3
              go_wp2
              go_ret
              refine ⟨?_, HB5.out⟩
              have hr : R = eqKids (sameL h) aks bks := by rw [HR.out]; show (decide (depthL 14 (Nd.mk an ak ae ad aks) ≤ 12) && ((an == an) && ((ak == ak) && ((ae == ae) && ((ad == ad) && eqKids (sameL h) aks bks))))) = _; rw [← HD.out]; simp; omega
              rw [hr]; rfl
            · have e3' : (ad == bd) = false := by simpa using e3
              go_wp2_with fail
              go_ret
              refine ⟨?_, HB4.out⟩
              have hr : R = false := by rw [HR.out]; show (decide (depthL 14 (Nd.mk an ak ae ad aks) ≤ 12) && _) = false; simp [Nd.data, e3]
              rw [hr]; rfl
          · have e2' : (ae == be) = false := by simpa using e2
            go_wp2_with fail
            go_ret
            refine ⟨?_, HB4.out⟩
            have hr : R = false := by rw [HR.out]; show (decide (depthL 14 (Nd.mk an ak ae ad aks) ≤ 12) && _) = false; simp [Nd.exec, e2]
            rw [hr]; rfl
        · have e1' : (ak == bk) = false := by simpa using e1
          go_wp2_with fail
          go_ret
          refine ⟨?_, HB4.out⟩
          have hr : R = false := by rw [HR.out]; show (decide (depthL 14 (Nd.mk an ak ae ad aks) ≤ 12) && _) = false; simp [Nd.kind, e1]
          rw [hr]; rfl
      · have e0' : (an == bn) = false := by simpa using e0
        go_wp2_with fail
        go_ret
        refine ⟨?_, HB4.out⟩
        have hr : R = false := by rw [HR.out]; show (decide (depthL 14 (Nd.mk an ak ae ad aks) ≤ 12) && _) = false; simp [Nd.name, e0]
        rw [hr]; rfl
end Go.Proofs.Ytdpeblchndfdaaa
