/- Make. -/
import Derived.Test.YtgifdmfnecombaaIz
namespace Go.Proofs.Ytgifdmfnecombaa
open Go.RowKit
set_option maxRecDepth 100000
def addT (T : Tab) (i : Ino) : Tab := ((T.setL (T.last + 1)).ins ((T.last : Int) + 1) i).setB (T.bytes + i.data.length)
theorem add_any (base : Nat) (w : World) (tb : Nat) (T : Tab) (p : Place) (h : TabAt base w tb T p) (hbase : base ≤ w.heap.size) (k m : Int) (d : List UInt8) (l : Int) (hlast : T.last ≤ 1000000000000) (hb : T.bytes ≤ 1000000000000) (hd : d.length ≤ 1000000000000) (hf : T.f ((T.last : Int) + 1) = none) (hn : p.n < maxLen) :
    Calls Try.prog 23 #[tabV tb, .agg (toldV (some (fresh k m d l))).toArray] w fun e w' => e = .returned (.int .i64 ((T.last : Int) + 1)) ∧ ∃ p', TabAt base w' tb (addT T (fresh k m d l)) p' ∧ Step tb T p (addT T (fresh k m d l)) p' w w' ∧ p'.n = p.n + 1 ∧ ∀ j, p'.m j ≤ p.m j := by
  by_cases hk : k = 2
  · subst hk
    refine (add_dir base w tb T p h hbase m d l hlast hb hd hf hn).mono ?_
    rintro e w1 ⟨rfl, t, s⟩
    refine ⟨rfl, _, t, s, rfl, fun j => ?_⟩
    unfold Place.ins
    by_cases e : j = (T.last : Int) + 1 <;> simp [e]
  · refine (add_file base w tb T p h hbase k m d l hk hlast hb hd hf hn).mono ?_
    rintro e w1 ⟨rfl, t, s⟩
    refine ⟨rfl, _, t, s, rfl, fun j => ?_⟩
    unfold Place.ins
    by_cases e : j = (T.last : Int) + 1 <;> simp [e]
def roomE (T : Tab) (dt : List UInt8) : Int := if room T 1 (dt.length : Int) = true then 0 else 10
def makeE (T : Tab) (d : Int) (s : List UInt8) (k m : Int) (dt : List UInt8) : Int := if placeE T d s ≠ 0 then placeE T d s else if inodeE k m dt ≠ 0 then inodeE k m dt else if freeE T d s ≠ 0 then freeE T d s else roomE T dt
def makeT (T : Tab) (d : Int) (s : List UInt8) (k m : Int) (dt : List UInt8) : Tab := if makeE T d s k m dt ≠ 0 then T else (addT T (fresh k m dt 0)).enter d s ((T.last : Int) + 1)
theorem makeE_zero {T : Tab} {d : Int} {s : List UInt8} {k m : Int} {dt : List UInt8} (h : makeE T d s k m dt = 0) : ∃ i, T.f d = some i ∧ i.kind = 2 := by
  unfold makeE at h
  by_cases q1 : placeE T d s = 0
  · exact dirE_zero (placeE_zero q1)
  · simp [q1] at h
theorem enter_isInode1 : ∀ (args : Array Value) (w : World), (callFunc 54 args).run Try.prog w = .ok (.enter 54 args) w := enters_of Try.func54 (by kernel_rfl) rfl
theorem enter_hasRoom1 : ∀ (args : Array Value) (w : World), (callFunc 58 args).run Try.prog w = .ok (.enter 58 args) w := enters_of Try.func58 (by kernel_rfl) rfl
set_option maxHeartbeats 4000000 in
theorem make_any (base : Nat) (w : World) (tb : Nat) (T : Tab) (p : Place) (h : TabAt base w tb T p) (hbase : base ≤ w.heap.size) (hfair : Fair T) (d : Int) (hd : (Lit.int .i64 d).wf = true) (s : List UInt8) (hs : s.length ≤ 1000000) (ha : Asc s) (k m : Int) (dt : List UInt8)
    (hlast : T.last ≤ 1000000000000) (hdt : dt.length ≤ 1000000000000) (hnone : T.f ((T.last : Int) + 1) = none) (hn : p.n < maxLen) (hm : p.m d < maxLen) :
    Calls Try.prog 15 #[tabV tb, .int .i64 d, .string (bs s), .int .i64 k, .int .i64 m, .string (bs dt)] w fun e w' => e = .returned (.tuple #[.int .i64 (if makeE T d s k m dt = 0 then (T.last : Int) + 1 else 0), .int .i64 (makeE T d s k m dt)]) ∧ ∃ p', TabAt base w' tb (makeT T d s k m dt) p' ∧ Step tb T p (makeT T d s k m dt) p' w w' ∧ More p p' := by
  have hmf := makes
  have HH := Lib.hid h
  obtain ⟨r, hr⟩ : ∃ r : Int, r = makeE T d s k m dt := ⟨_, rfl⟩
  obtain ⟨T', hT⟩ : ∃ T' : Tab, T' = makeT T d s k m dt := ⟨_, rfl⟩
  rw [← hr, ← hT]
  obtain ⟨z, hz⟩ : ∃ z : Int, z = if r = 0 then (T.last : Int) + 1 else 0 := ⟨_, rfl⟩
  rw [← hz]
  have HZ := Lib.hid hz
  have HR := Lib.hid hr
  have HT := Lib.hid hT
  have HF := Lib.hid hfair
  have HN := Lib.hid hnone
  have hs2 : s.length ≤ maxLen := Nat.le_trans hs (by unfold maxLen; omega)
  clear h hr hT hfair hnone hz
  go_enter Try.func15, Try.ntmps15
  go_wp2_with fail
  refine (place_mk tb d s w).mono ?_
  rintro e w1 ⟨rfl, a1, a2, a3, b1⟩
  have hh1 := b1.size
  go_wp2_with fail
  refine (isInode_mk k m dt w1).mono ?_
  rintro e w2 ⟨rfl, a4, a5, a6, b2⟩
  have hh2 := b2.size
  go_wp2_with fail
  refine (isFree_mk tb d s w2).mono ?_
  rintro e w3 ⟨rfl, a7, a8, a9, b3⟩
  have hh3 := b3.size
  go_wp2_with fail
  refine (hasRoom_mk tb 1 (dt.length : Int) w3).mono ?_
  rintro e w4 ⟨rfl, a10, a11, a12, b4⟩
  have b34 := b3.trans (b4.mono b3.size)
  have b24 := b2.trans (b34.mono b2.size)
  have HB := Lib.hid (b1.trans (b24.mono b1.size))
  have A1 := Lib.hid (a1.below b24 a1.lt)
  have A2 := Lib.hid (a2.below b24 a2.lt)
  have A3 := Lib.hid (a3.below b24 a3.lt)
  have A4 := Lib.hid (a4.below b34 a4.lt)
  have A5 := Lib.hid (a5.below b34 a5.lt)
  have A6 := Lib.hid (a6.below b34 a6.lt)
  have A7 := Lib.hid (a7.below b4 a7.lt)
  have A8 := Lib.hid (a8.below b4 a8.lt)
  have A9 := Lib.hid (a9.below b4 a9.lt)
  have A10 := Lib.hid a10
  have A11 := Lib.hid a11
  have A12 := Lib.hid a12
  clear a1 a2 a3 a4 a5 a6 a7 a8 a9 a10 a11 a12 b1 b2 b3 b4 b34 b24 hh1 hh2 hh3
  obtain ⟨x1, hx1⟩ : ∃ x1 : Need, x1 = ⟨30, #[tabV tb], #[], 0⟩ := ⟨_, rfl⟩
  obtain ⟨x2, hx2⟩ : ∃ x2 : Need, x2 = ⟨50, #[], #[.pointer (some ⟨w.heap.size + 2, 0, none⟩), .pointer (some ⟨w.heap.size, 0, none⟩), .pointer (some ⟨w.heap.size + 1, 0, none⟩)], placeE T d s⟩ := ⟨_, rfl⟩
  obtain ⟨x3, hx3⟩ : ∃ x3 : Need, x3 = ⟨54, #[], #[.pointer (some ⟨w1.heap.size, 0, none⟩), .pointer (some ⟨w1.heap.size + 2, 0, none⟩), .pointer (some ⟨w1.heap.size + 1, 0, none⟩)], inodeE k m dt⟩ := ⟨_, rfl⟩
  obtain ⟨x4, hx4⟩ : ∃ x4 : Need, x4 = ⟨57, #[], #[.pointer (some ⟨w2.heap.size, 0, none⟩), .pointer (some ⟨w2.heap.size + 1, 0, none⟩), .pointer (some ⟨w2.heap.size + 2, 0, none⟩)], freeE T d s⟩ := ⟨_, rfl⟩
  obtain ⟨x5, hx5⟩ : ∃ x5 : Need, x5 = ⟨58, #[], #[.pointer (some ⟨w3.heap.size + 1, 0, none⟩), .pointer (some ⟨w3.heap.size, 0, none⟩), .pointer (some ⟨w3.heap.size + 2, 0, none⟩)], roomE T dt⟩ := ⟨_, rfl⟩
  have X1 := Lib.hid hx1
  have X2 := Lib.hid hx2
  have X3 := Lib.hid hx3
  have X4 := Lib.hid hx4
  have X5 := Lib.hid hx5
  clear hx1 hx2 hx3 hx4 hx5
  go_wp2_with (refine list_val (op := { dst := some 34, op := _, type := _, pos := _, after := _, guard := _ }) rfl (v := .slice (some ⟨w4.heap.size, 0, none⟩) 5 5) (w' := w4.alloc (.cells #[x1.v, x2.v, x3.v, x4.v, x5.v] 73)) (by rw [X1.out, X2.out, X3.out, X4.out, X5.out]; kernel_rfl) ?_)
  have ba := (Below.refl _ w4).alloc (Nat.le_refl _) (.cells #[x1.v, x2.v, x3.v, x4.v, x5.v] 73)
  have hA := At.new w4 #[x1.v, x2.v, x3.v, x4.v, x5.v] 73
  have HALL := Lib.hid (HB.out.trans (ba.mono HB.out.size))
  have BA := Lib.hid ba
  obtain ⟨B, hBB⟩ : ∃ B, B = w4.heap.size := ⟨_, rfl⟩
  rw [← hBB] at hA ⊢
  generalize w4.alloc (.cells #[x1.v, x2.v, x3.v, x4.v, x5.v] 73) = w5 at *
  clear ba hBB
  refine (first_any B 5 [x1, x2, x3, x4, x5] (by show 5 ≤ 1000; omega) w5 hA (fun j y hj hz => ?_)).mono ?_
  · have hb := fun (w' : World) (b' : Below w5.heap.size w5 w') => HALL.out.trans (b'.mono HALL.out.size)
    have ht := fun (w' : World) (b' : Below w5.heap.size w5 w') => HH.out.below (hb w' b')
    have hq := fun {B t l} (a : At w4 B t l) (w' : World) (b' : Below w5.heap.size w5 w') => (a.below BA.out a.lt).below b' (by have := a.lt; have := BA.out.size; omega)
    match j, hj with
    | 0, hj =>
      cases hj
      rw [X1.out]
      exact ⟨enter_isTable, fun w' b' => isTable_any base w' tb T p (ht w' b')⟩
    | 1, hj =>
      cases hj
      rw [X2.out]
      exact ⟨enter_place1, fun w' b' => place1_any base w' tb T p (ht w' b') d hd s hs ha _ _ _ (hq A3.out w' b') (hq A1.out w' b') (hq A2.out w' b')⟩
    | 2, hj =>
      cases hj
      rw [X3.out]
      exact ⟨enter_isInode1, fun w' b' => isInode1_any w' k m dt _ _ _ (hq A4.out w' b') (hq A6.out w' b') (hq A5.out w' b')⟩
    | 3, hj =>
      cases hj
      rw [X4.out]
      exact ⟨enter_isFree1, fun w' b' => isFree1_any base w' tb T p (ht w' b') d hd s hs2 _ _ _ (hq A7.out w' b') (hq A8.out w' b') (hq A9.out w' b')⟩
    | 4, hj =>
      cases hj
      rw [X5.out]
      exact ⟨enter_hasRoom1, fun w' b' => hasRoom1_any base w' tb T p (ht w' b') HF.out 1 (dt.length : Int) _ _ _ (hq A11.out w' b') (hq A10.out w' b') (hq A12.out w' b')⟩
  · rintro e w6 ⟨rfl, b6⟩
    have HB6 := Lib.hid (HALL.out.trans (b6.mono HALL.out.size))
    have hf : firstR [x1, x2, x3, x4, x5] = r := by
      rw [X1.out, X2.out, X3.out, X4.out, X5.out, HR.out]
      unfold firstR firstR firstR firstR firstR firstR makeE
      by_cases q1 : placeE T d s = 0 <;> by_cases q2 : inodeE k m dt = 0 <;> by_cases q3 : freeE T d s = 0 <;> by_cases q4 : roomE T dt = 0 <;> simp [q1, q2, q3, q4]
    rw [hf]
    clear b6 hf
    by_cases hr0 : r = 0
    · obtain ⟨i, hi, h2⟩ := makeE_zero (HR.out.symm.trans hr0)
      have hne : d ≠ (T.last : Int) + 1 := by
        rintro rfl
        rw [HN.out] at hi
        cases hi
      have hi1 : (addT T (fresh k m dt 0)).f d = some i := by
        unfold addT Tab.setB Tab.ins Tab.setL
        simp [hne, hi]
      have ho1 : ((addT T (fresh k m dt 0)).setI d (entIn i s ((T.last : Int) + 1))).f ((T.last : Int) + 1) = some (fresh k m dt 0) := by
        unfold addT Tab.setB Tab.ins Tab.setL Tab.setI
        simp [Ne.symm hne]
      have hT' : T' = ((addT T (fresh k m dt 0)).setI d (entIn i s ((T.last : Int) + 1))).setI ((T.last : Int) + 1) ((fresh k m dt 0).linked d) := by
        rw [HT.out]
        unfold makeT
        rw [← HR.out, hr0]
        unfold Tab.enter
        simp [hi1, ho1]
      have HC := Lib.hid (add_any base w6 tb T p (HH.out.below HB6.out) (Nat.le_trans hbase HB6.out.size) k m dt 0 hlast HF.out.b hdt HN.out hn)
      have hxw : (Lit.int .i64 ((T.last : Int) + 1)).wf = true := by simp [Lit.wf, IntKind.min, IntKind.max, IntKind.signed, IntKind.bits]; omega
      have HI1 := Lib.hid hi1
      have HO1 := Lib.hid ho1
      have HT2 := Lib.hid hT'
      have HR0 := Lib.hid hr0
      have HK := Lib.hid h2
      obtain ⟨y, hy⟩ : ∃ y : Int, y = (T.last : Int) + 1 := ⟨_, rfl⟩
      have HY := Lib.hid hy
      rw [← hy] at HC HO1 HT2 hxw HZ
      rw [hr0]
      clear hy hlast
      clear hr0 hi h2 hne hi1 ho1 hT' HT HR
      go_wp2_with (refine list_val (op := { dst := some 43, op := _, type := _, pos := _, after := _, guard := _ }) rfl (v := .agg (toldV (some (fresh k m dt 0))).toArray) (w' := w6) (by kernel_rfl) ?_)
      refine HC.out.mono ?_
      rintro e w7 ⟨rfl, p7, t7, s7, n7, m7⟩
      have HE := Lib.hid (enter_any base w7 tb _ p7 t7 d hd s hs2 y hxw i HI1.out HK.out (fresh k m dt 0) HO1.out ⟨by show (-1000000000000 : Int) ≤ 0; omega, by show (0 : Int) ≤ 1000000000000; omega⟩ (Nat.lt_of_le_of_lt (m7 d) hm))
      have S7 := Lib.hid s7
      have N7 := Lib.hid n7
      have M7 := Lib.hid m7
      clear t7 s7 n7 m7
      go_wp2_with fail
      refine HE.out.mono ?_
      rintro e w8 ⟨rfl, t8, s8⟩
      have T8 := Lib.hid t8
      have S8 := Lib.hid s8
      clear t8 s8
      go_wp2_with fail
      go_ret2
      rw [HT2.out]
      refine ⟨by rw [HR0.out, HZ.out, if_pos HR0.out]; rfl, _, T8.out, ((Step.of_below HB6.out).trans S7.out).trans S8.out, ?_, fun j => ?_⟩
      · show p7.n ≤ p.n + 1
        rw [N7.out]
        exact Nat.le_refl _
      · have := M7.out j
        unfold Place.setM
        by_cases e : j = d
        · subst e; simp; exact this
        · simp [e]; omega
    · have hT' : T' = T := by
        rw [HT.out]
        unfold makeT
        rw [← HR.out, if_pos hr0]
      have HT2 := Lib.hid hT'
      have HR1 := Lib.hid hr0
      have e1 : (r != 0) = true := by simpa using hr0
      clear hr0 hT' HR
      go_wp2_with fail
      go_ret2
      rw [HT2.out]
      exact ⟨by rw [HZ.out, if_neg HR1.out]; rfl, p, HH.out.below HB6.out, Step.of_below HB6.out, More.refl p⟩
end Go.Proofs.Ytgifdmfnecombaa
