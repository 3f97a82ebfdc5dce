/- Move. -/
import Derived.Test.YtgifdmfnecombaaIzc
namespace Go.Proofs.Ytgifdmfnecombaa
open Go.RowKit
set_option maxRecDepth 100000
def moveE (T : Tab) (d : Int) (s : List UInt8) (t : Int) (a : List UInt8) : Int := if isDirE T d ≠ 0 then isDirE T d else if placeE T t a ≠ 0 then placeE T t a else hasE T d s
def aboveF (T : Tab) (dp : Int → Nat) (d : Int) (s : List UInt8) (t : Int) : Int := match findT T d s with
  | some j => aboveE T j dp t
  | none => 0
def moveF (T : Tab) (dp : Int → Nat) (d : Int) (s : List UInt8) (t : Int) (a : List UInt8) : Int := if freeE T t a ≠ 0 then freeE T t a else aboveF T dp d s t
def moveR (T : Tab) (dp : Int → Nat) (d : Int) (s : List UInt8) (t : Int) (a : List UInt8) : Int := if moveE T d s t a ≠ 0 then moveE T d s t a else if t = d ∧ a = s then 0 else moveF T dp d s t a
def Tab.move (T : Tab) (d : Int) (s : List UInt8) (t : Int) (a : List UInt8) : Tab := match findT T d s with
  | some j => (T.leave d s j).enter t a j
  | none => T
def moveT (T : Tab) (dp : Int → Nat) (d : Int) (s : List UInt8) (t : Int) (a : List UInt8) : Tab := if moveE T d s t a ≠ 0 then T else if t = d ∧ a = s then T else if moveF T dp d s t a ≠ 0 then T else T.move d s t a
theorem moveE_zero {T : Tab} {d t : Int} {s a : List UInt8} (h : moveE T d s t a = 0) : (∃ i x, T.f d = some i ∧ i.kind = 2 ∧ i.ents s = some x ∧ findT T d s = some x) ∧ ∃ i, T.f t = some i ∧ i.kind = 2 := by
  unfold moveE at h
  by_cases q1 : isDirE T d = 0
  · by_cases q2 : placeE T t a = 0
    · simp only [q1, q2] at h
      have h : hasE T d s = 0 := by simpa using h
      obtain ⟨i, hi, h2⟩ := dirE_zero q1
      unfold hasE at h
      have hf : findT T d s = i.ents s := by unfold findT; rw [hi]; simp [h2]
      refine ⟨?_, dirE_zero (placeE_zero q2)⟩
      cases hq : i.ents s with
      | none => rw [hf, hq] at h; simp at h
      | some x => exact ⟨i, x, hi, h2, hq, hf.trans hq⟩
    · simp [q1, q2] at h
  · simp [q1] at h
/-- numbers are small, what entries name is there -/
structure Okay (T : Tab) : Prop where
  l : ∀ k o, T.f k = some o → -100000000000 ≤ o.links ∧ o.links ≤ 100000000000 ∧ o.data.length ≤ T.bytes
  e : ∀ d i nm j, T.f d = some i → i.kind = 2 → i.ents nm = some j → (Lit.int .i64 j).wf = true ∧ (T.f j).isSome = true
/-- what leaving does, and what entering wants behind it -/
theorem move_mid {T : Tab} (hO : Okay T) {d t : Int} {s a : List UInt8} {i it : Ino} {x : Int} (hi : T.f d = some i) (h2 : i.kind = 2) (hent : i.ents s = some x) (ht : T.f t = some it) (ht2 : it.kind = 2) :
    ∃ o, (T.setI d (entOut i s)).f x = some o ∧ (-1000000000000 ≤ o.links ∧ o.links ≤ 1000000000000) ∧ T.leave d s x = (T.setI d (entOut i s)).setI x o.unlinked ∧
      ∃ j o2, (T.leave d s x).f t = some j ∧ j.kind = 2 ∧ ((T.leave d s x).setI t (entIn j a x)).f x = some o2 ∧ (-1000000000000 ≤ o2.links ∧ o2.links ≤ 1000000000000) ∧ (T.leave d s x).enter t a x = ((T.leave d s x).setI t (entIn j a x)).setI x (o2.linked t) := by
  obtain ⟨hxw, hxs⟩ := hO.e d i s x hi h2 hent
  obtain ⟨o, ho, hol, hok⟩ : ∃ o, (T.setI d (entOut i s)).f x = some o ∧ (-100000000000 ≤ o.links ∧ o.links ≤ 100000000000) ∧ ∃ o0, T.f x = some o0 ∧ o0.kind = o.kind := by
    by_cases e : x = d
    · subst e
      exact ⟨_, setI_at _ _ _, ⟨(hO.l x i hi).1, (hO.l x i hi).2.1⟩, i, hi, rfl⟩
    · obtain ⟨o, ho⟩ : ∃ o, T.f x = some o := Option.isSome_iff_exists.mp hxs
      exact ⟨o, by unfold Tab.setI; simp [e, ho], ⟨(hO.l x o ho).1, (hO.l x o ho).2.1⟩, o, ho, rfl⟩
  have hlv : T.leave d s x = (T.setI d (entOut i s)).setI x o.unlinked := by unfold Tab.leave; simp [hi, ho]
  refine ⟨o, ho, ⟨by omega, by omega⟩, hlv, ?_⟩
  obtain ⟨j, hj, hj2, hjl⟩ : ∃ j, (T.leave d s x).f t = some j ∧ j.kind = 2 ∧ (-100000000001 ≤ j.links ∧ j.links ≤ 100000000000) := by
    rw [hlv]
    by_cases e : t = x
    · subst e
      refine ⟨_, setI_at _ _ _, ?_, ?_⟩
      · obtain ⟨o0, ho0, hk⟩ := hok
        rw [ht] at ho0
        cases ho0
        show o.kind = 2
        rw [← hk, ht2]
      · show -100000000001 ≤ o.links - 1 ∧ o.links - 1 ≤ 100000000000
        omega
    · by_cases e2 : t = d
      · subst e2
        refine ⟨entOut i s, by unfold Tab.setI; simp [e], h2, ?_⟩
        have := hO.l t i hi
        show -100000000001 ≤ i.links ∧ i.links ≤ 100000000000
        omega
      · refine ⟨it, by unfold Tab.setI; simp [e, e2, ht], ht2, ?_⟩
        have := hO.l t it ht
        omega
  have hx1 : (T.leave d s x).f x = some o.unlinked := by rw [hlv]; exact setI_at _ _ _
  obtain ⟨o2, ho2, hl2⟩ : ∃ o2, ((T.leave d s x).setI t (entIn j a x)).f x = some o2 ∧ (-1000000000000 ≤ o2.links ∧ o2.links ≤ 1000000000000) := by
    by_cases e : x = t
    · subst e
      refine ⟨_, setI_at _ _ _, ?_⟩
      show -1000000000000 ≤ j.links ∧ j.links ≤ 1000000000000
      omega
    · refine ⟨o.unlinked, by show (if x = t then _ else _) = _; rw [if_neg e]; exact hx1, ?_⟩
      show -1000000000000 ≤ o.links - 1 ∧ o.links - 1 ≤ 1000000000000
      omega
  exact ⟨j, o2, hj, hj2, ho2, hl2, by unfold Tab.enter; simp [hj, ho2]⟩
theorem enter_isNotAbove1 : ∀ (args : Array Value) (w : World), (callFunc 62 args).run Try.prog w = .ok (.enter 62 args) w := enters_of Try.func62 (by kernel_rfl) rfl
set_option maxHeartbeats 8000000 in
theorem move_any (base : Nat) (w : World) (tb : Nat) (T : Tab) (p : Place) (h : TabAt base w tb T p) (d : Int) (hd : (Lit.int .i64 d).wf = true) (s : List UInt8) (hs : s.length ≤ maxLen) (t : Int) (ht : (Lit.int .i64 t).wf = true) (a : List UInt8) (ha : a.length ≤ 1000000) (hasc : Asc a)
    (hO : Okay T) (P : Int → Prop) (dp : Int → Nat) (hL : Lies T P dp) (hP : ∀ i, T.f t = some i → i.kind = 2 → P t) (hm : p.m t + 1 < maxLen) :
    Calls Try.prog 16 #[tabV tb, .int .i64 d, .string (bs s), .int .i64 t, .string (bs a)] w fun e w' => e = .returned (.int .i64 (moveR T dp d s t a)) ∧ ∃ p', TabAt base w' tb (moveT T dp d s t a) p' ∧ Step tb T p (moveT T dp d s t a) p' w w' ∧ More p p' := by
  have hmf := makes
  have HH := Lib.hid h
  obtain ⟨r, hr⟩ : ∃ r : Int, r = moveE T d s t a := ⟨_, rfl⟩
  obtain ⟨R, hR⟩ : ∃ r : Int, r = moveR T dp d s t a := ⟨_, rfl⟩
  obtain ⟨T', hT⟩ : ∃ T' : Tab, T' = moveT T dp d s t a := ⟨_, rfl⟩
  rw [← hR, ← hT]
  unfold moveR at hR
  unfold moveT at hT
  rw [← hr] at hR hT
  have HR := Lib.hid hr
  have HRR := Lib.hid hR
  have HT := Lib.hid hT
  have HO := Lib.hid hO
  have HL := Lib.hid hL
  have HP := Lib.hid hP
  have hs2 : a.length ≤ maxLen := Nat.le_trans ha (by unfold maxLen; omega)
  clear h hr hR hT hO hL hP
  go_enter Try.func16, Try.ntmps16
  go_wp2_with fail
  refine (isDir_mk tb d w).mono ?_
  rintro e w1 ⟨rfl, a1, a2, b1⟩
  have hh1 := b1.size
  go_wp2_with fail
  refine (place_mk tb t a w1).mono ?_
  rintro e w2 ⟨rfl, a3, a4, a5, b2⟩
  have hh2 := b2.size
  go_wp2_with fail
  refine (hasEntry_mk tb d s w2).mono ?_
  rintro e w3 ⟨rfl, a6, a7, a8, b3⟩
  have b13 := b2.trans (b3.mono b2.size)
  have HB := Lib.hid (b1.trans (b13.mono b1.size))
  have A1 := Lib.hid (a1.below b13 a1.lt)
  have A2 := Lib.hid (a2.below b13 a2.lt)
  have A3 := Lib.hid (a3.below b3 a3.lt)
  have A4 := Lib.hid (a4.below b3 a4.lt)
  have A5 := Lib.hid (a5.below b3 a5.lt)
  have A6 := Lib.hid a6
  have A7 := Lib.hid a7
  have A8 := Lib.hid a8
  clear a1 a2 a3 a4 a5 a6 a7 a8 b1 b2 b3 b13 hh1 hh2
  obtain ⟨x1, hx1⟩ : ∃ x1 : Need, x1 = ⟨30, #[tabV tb], #[], 0⟩ := ⟨_, rfl⟩
  obtain ⟨x2, hx2⟩ : ∃ x2 : Need, x2 = ⟨59, #[], #[.pointer (some ⟨w.heap.size, 0, none⟩), .pointer (some ⟨w.heap.size + 1, 0, none⟩)], isDirE T d⟩ := ⟨_, rfl⟩
  obtain ⟨x3, hx3⟩ : ∃ x3 : Need, x3 = ⟨50, #[], #[.pointer (some ⟨w1.heap.size + 2, 0, none⟩), .pointer (some ⟨w1.heap.size, 0, none⟩), .pointer (some ⟨w1.heap.size + 1, 0, none⟩)], placeE T t a⟩ := ⟨_, rfl⟩
  obtain ⟨x4, hx4⟩ : ∃ x4 : Need, x4 = ⟨61, #[], #[.pointer (some ⟨w2.heap.size, 0, none⟩), .pointer (some ⟨w2.heap.size + 1, 0, none⟩), .pointer (some ⟨w2.heap.size + 2, 0, none⟩)], hasE T d s⟩ := ⟨_, rfl⟩
  have X1 := Lib.hid hx1
  have X2 := Lib.hid hx2
  have X3 := Lib.hid hx3
  have X4 := Lib.hid hx4
  clear hx1 hx2 hx3 hx4
  go_wp2_with (refine list_val (op := { dst := some 25, op := _, type := _, pos := _, after := _, guard := _ }) rfl (v := .slice (some ⟨w3.heap.size, 0, none⟩) 4 4) (w' := w3.alloc (.cells #[x1.v, x2.v, x3.v, x4.v] 73)) (by rw [X1.out, X2.out, X3.out, X4.out]; kernel_rfl) ?_)
  have ba := (Below.refl _ w3).alloc (Nat.le_refl _) (.cells #[x1.v, x2.v, x3.v, x4.v] 73)
  have hA := At.new w3 #[x1.v, x2.v, x3.v, x4.v] 73
  have HALL := Lib.hid (HB.out.trans (ba.mono HB.out.size))
  have BA := Lib.hid ba
  obtain ⟨B, hBB⟩ : ∃ B, B = w3.heap.size := ⟨_, rfl⟩
  rw [← hBB] at hA ⊢
  generalize w3.alloc (.cells #[x1.v, x2.v, x3.v, x4.v] 73) = w4 at *
  clear ba hBB
  refine (first_any B 4 [x1, x2, x3, x4] (by show 4 ≤ 1000; omega) w4 hA (fun j y hj hz => ?_)).mono ?_
  · have hb := fun (w' : World) (b' : Below w4.heap.size w4 w') => HALL.out.trans (b'.mono HALL.out.size)
    have ht' := fun (w' : World) (b' : Below w4.heap.size w4 w') => HH.out.below (hb w' b')
    have hq := fun {B t l} (a : At w3 B t l) (w' : World) (b' : Below w4.heap.size w4 w') => (a.below BA.out a.lt).below b' (by have := a.lt; have := BA.out.size; omega)
    match j, hj with
    | 0, hj =>
      cases hj
      rw [X1.out]
      exact ⟨enter_isTable, fun w' b' => isTable_any base w' tb T p (ht' w' b')⟩
    | 1, hj =>
      cases hj
      rw [X2.out]
      exact ⟨enter_isDir1, fun w' b' => isDir1_any base w' tb T p (ht' w' b') d hd _ _ (hq A1.out w' b') (hq A2.out w' b')⟩
    | 2, hj =>
      cases hj
      rw [X3.out]
      exact ⟨enter_place1, fun w' b' => place1_any base w' tb T p (ht' w' b') t ht a ha hasc _ _ _ (hq A5.out w' b') (hq A3.out w' b') (hq A4.out w' b')⟩
    | 3, hj =>
      cases hj
      rw [X4.out]
      exact ⟨enter_hasEntry1, fun w' b' => hasEntry1_any base w' tb T p (ht' w' b') d hd s hs _ _ _ (hq A6.out w' b') (hq A7.out w' b') (hq A8.out w' b')⟩
  rintro e w5 ⟨rfl, b5⟩
  have HB5 := Lib.hid (HALL.out.trans (b5.mono HALL.out.size))
  have hf : firstR [x1, x2, x3, x4] = r := by
    rw [X1.out, X2.out, X3.out, X4.out, HR.out]
    unfold firstR firstR firstR firstR firstR moveE
    by_cases q1 : isDirE T d = 0 <;> by_cases q2 : placeE T t a = 0 <;> by_cases q3 : hasE T d s = 0 <;> simp [q1, q2, q3]
  rw [hf]
  clear b5 hf hA BA HB A1 A2 A3 A4 A5 A6 A7 A8 X1 X2 X3 X4
  by_cases hr0 : r = 0
  · obtain ⟨⟨i, x, hi, h2, hent, hfd⟩, it, hit, hit2⟩ := moveE_zero (HR.out.symm.trans hr0)
    by_cases hsame : t = d ∧ a = s
    · have h0 : R = 0 := by rw [HRR.out, hr0]; simp [hsame]
      have hTT : T' = T := by rw [HT.out, hr0]; simp [hsame]
      have H0 := Lib.hid h0
      have HTT := Lib.hid hTT
      obtain ⟨rfl, rfl⟩ := hsame
      rw [hr0]
      clear hr0 hi h2 hent hfd hit hit2 h0 hTT HRR HT HR
      go_wp2_with fail
      go_ret
      rw [HTT.out]
      exact ⟨by rw [H0.out]; rfl, p, HH.out.below HB5.out, Step.of_below HB5.out, More.refl p⟩
    · have hR2 : R = moveF T dp d s t a := by rw [HRR.out, hr0]; simp [hsame]
      have hT2 : T' = if moveF T dp d s t a ≠ 0 then T else T.move d s t a := by rw [HT.out, hr0]; simp [hsame]
      rw [← hR2] at hT2
      have HR2 := Lib.hid hR2
      have HT2 := Lib.hid hT2
      have HI := Lib.hid hi
      have H2 := Lib.hid h2
      have HENT := Lib.hid hent
      have HFD := Lib.hid hfd
      have HIT := Lib.hid hit
      have HIT2 := Lib.hid hit2
      rw [hr0]
      have hor : (t == d) = false ∨ (t == d) = true ∧ (a == s) = false := by
        by_cases e : t = d
        · right
          exact ⟨by simpa using e, by simpa using fun q => hsame ⟨e, q⟩⟩
        · left; simpa using e
      clear hr0 hi h2 hent hfd hit hit2 hR2 hT2 HRR HT HR hsame
      have HBF := Lib.hid HB5.out
      rcases hor with e2 | ⟨e2, e3⟩
      · skip
        go_wp2_with fail
        refine (isFree_mk tb t a w5).mono ?_
        rintro e w6 ⟨rfl, a1, a2, a3, b1⟩
        have hh1 := b1.size
        go_wp2_with fail
        refine (isNotAbove_mk tb t d s w6).mono ?_
        rintro e w7 ⟨rfl, a4, a5, a6, a7, b2⟩
        have HB := Lib.hid (HB5.out.trans ((b1.trans (b2.mono b1.size)).mono HB5.out.size))
        have A1 := Lib.hid (a1.below b2 a1.lt)
        have A2 := Lib.hid (a2.below b2 a2.lt)
        have A3 := Lib.hid (a3.below b2 a3.lt)
        have A4 := Lib.hid a4
        have A5 := Lib.hid a5
        have A6 := Lib.hid a6
        have A7 := Lib.hid a7
        clear a1 a2 a3 a4 a5 a6 a7 b1 b2 hh1
        obtain ⟨y1, hy1⟩ : ∃ x1 : Need, x1 = ⟨57, #[], #[.pointer (some ⟨w5.heap.size, 0, none⟩), .pointer (some ⟨w5.heap.size + 1, 0, none⟩), .pointer (some ⟨w5.heap.size + 2, 0, none⟩)], freeE T t a⟩ := ⟨_, rfl⟩
        obtain ⟨y2, hy2⟩ : ∃ x1 : Need, x1 = ⟨62, #[], #[.pointer (some ⟨w6.heap.size, 0, none⟩), .pointer (some ⟨w6.heap.size + 2, 0, none⟩), .pointer (some ⟨w6.heap.size + 3, 0, none⟩), .pointer (some ⟨w6.heap.size + 1, 0, none⟩)], aboveF T dp d s t⟩ := ⟨_, rfl⟩
        have Y1 := Lib.hid hy1
        have Y2 := Lib.hid hy2
        clear hy1 hy2
        go_wp2_with (refine list_val (op := { dst := some 49, op := _, type := _, pos := _, after := _, guard := _ }) rfl (v := .slice (some ⟨w7.heap.size, 0, none⟩) 2 2) (w' := w7.alloc (.cells #[y1.v, y2.v] 73)) (by rw [Y1.out, Y2.out]; kernel_rfl) ?_)
        have ba := (Below.refl _ w7).alloc (Nat.le_refl _) (.cells #[y1.v, y2.v] 73)
        have hA := At.new w7 #[y1.v, y2.v] 73
        have HALL2 := Lib.hid (HB.out.trans (ba.mono HB.out.size))
        have BA := Lib.hid ba
        obtain ⟨C, hBB⟩ : ∃ B, B = w7.heap.size := ⟨_, rfl⟩
        rw [← hBB] at hA ⊢
        generalize w7.alloc (.cells #[y1.v, y2.v] 73) = w8 at *
        clear ba hBB
        refine (first_any C 2 [y1, y2] (by show 2 ≤ 1000; omega) w8 hA (fun j y hj hz => ?_)).mono ?_
        · have hb := fun (w' : World) (b' : Below w8.heap.size w8 w') => HALL2.out.trans (b'.mono HALL2.out.size)
          have ht' := fun (w' : World) (b' : Below w8.heap.size w8 w') => HH.out.below (hb w' b')
          have hq := fun {B t l} (a : At w7 B t l) (w' : World) (b' : Below w8.heap.size w8 w') => (a.below BA.out a.lt).below b' (by have := a.lt; have := BA.out.size; omega)
          match j, hj with
          | 0, hj =>
            cases hj
            rw [Y1.out]
            exact ⟨enter_isFree1, fun w' b' => isFree1_any base w' tb T p (ht' w' b') t ht a hs2 _ _ _ (hq A1.out w' b') (hq A2.out w' b') (hq A3.out w' b')⟩
          | 1, hj =>
            cases hj
            rw [Y2.out]
            refine ⟨enter_isNotAbove1, fun w' b' => ?_⟩
            have := isNotAbove1_any base w' tb T p (ht' w' b') d hd s hs x HFD.out P dp HL.out t (HP.out it HIT.out HIT2.out) _ _ _ _ (hq A4.out w' b') (hq A6.out w' b') (hq A7.out w' b') (hq A5.out w' b')
            have hu : aboveF T dp d s t = aboveE T x dp t := by unfold aboveF; rw [HFD.out]
            rw [← hu] at this
            exact this
        rintro e w9 ⟨rfl, b9⟩
        have HB9 := Lib.hid (HALL2.out.trans (b9.mono HALL2.out.size))
        have hf : firstR [y1, y2] = R := by
          rw [Y1.out, Y2.out, HR2.out]
          unfold firstR firstR firstR moveF
          by_cases q1 : freeE T t a = 0 <;> by_cases q2 : aboveF T dp d s t = 0 <;> simp [q1, q2]
        rw [hf]
        clear b9 hf hA BA HB A1 A2 A3 A4 A5 A6 A7 Y1 Y2 HBF
        by_cases hR0 : R = 0
        · obtain ⟨o, ho, hol, hlv, j, o2, hj, hj2, ho2, hl2, hen⟩ := move_mid HO.out HI.out H2.out HENT.out HIT.out HIT2.out (a := a)
          obtain ⟨hxw, hxs⟩ := HO.out.e d i s x HI.out H2.out HENT.out
          have HT3 := Lib.hid (show T' = (T.leave d s x).enter t a x by rw [HT2.out, hR0]; unfold Tab.move; rw [HFD.out]; simp)
          rw [hen] at HT3
          have HC := Lib.hid (leave_any base w9 tb T p (HH.out.below HB9.out) d hd s hs x hxw i HI.out H2.out HENT.out o ho hol)
          rw [← hlv] at HC
          have HR0 := Lib.hid hR0
          have HJ := Lib.hid hj
          have HJ2 := Lib.hid hj2
          have HO2 := Lib.hid ho2
          have HL2 := Lib.hid hl2
          rw [hR0]
          generalize T.leave d s x = T1 at *
          clear hR0 ho hol hlv hj hj2 ho2 hl2 hen HT2 HR2 hxs HI H2 HENT HIT HIT2
          go_wp2_with fail
          refine HC.out.mono ?_
          rintro e w10 ⟨rfl, t10, s10⟩
          have S10 := Lib.hid s10
          have HE := Lib.hid (enter_any base w10 tb T1 _ t10 t ht a hs2 x hxw j HJ.out HJ2.out o2 HO2.out HL2.out (by
            unfold Place.setM
            by_cases e : t = d
            · subst e; simp; omega
            · simp [e]; omega))
          clear t10 s10
          go_wp2_with fail
          refine HE.out.mono ?_
          rintro e w11 ⟨rfl, t11, s11⟩
          have T11 := Lib.hid t11
          have S11 := Lib.hid s11
          clear t11 s11
          go_wp2_with fail
          go_ret
          rw [HT3.out]
          refine ⟨by rw [HR0.out]; rfl, _, T11.out, ((Step.of_below HB9.out).trans S10.out).trans S11.out, Nat.le_succ _, fun k => ?_⟩
          unfold Place.setM
          by_cases e1 : k = t
          · subst e1
            by_cases e2 : k = d
            · subst e2; simp
            · simp [e2]
          · by_cases e2 : k = d
            · subst e2; simp [e1]
            · simp [e1, e2]
        · have hTT : T' = T := by rw [HT2.out, if_pos hR0]
          have HTT := Lib.hid hTT
          have e1 : (R != 0) = true := by simpa using hR0
          clear hR0 hTT HT2 HR2
          go_wp2_with fail
          go_ret
          rw [HTT.out]
          exact ⟨rfl, p, HH.out.below HB9.out, Step.of_below HB9.out, More.refl p⟩
      · skip
        go_wp2_with fail
        refine (isFree_mk tb t a w5).mono ?_
        rintro e w6 ⟨rfl, a1, a2, a3, b1⟩
        have hh1 := b1.size
        go_wp2_with fail
        refine (isNotAbove_mk tb t d s w6).mono ?_
        rintro e w7 ⟨rfl, a4, a5, a6, a7, b2⟩
        have HB := Lib.hid (HB5.out.trans ((b1.trans (b2.mono b1.size)).mono HB5.out.size))
        have A1 := Lib.hid (a1.below b2 a1.lt)
        have A2 := Lib.hid (a2.below b2 a2.lt)
        have A3 := Lib.hid (a3.below b2 a3.lt)
        have A4 := Lib.hid a4
        have A5 := Lib.hid a5
        have A6 := Lib.hid a6
        have A7 := Lib.hid a7
        clear a1 a2 a3 a4 a5 a6 a7 b1 b2 hh1
        obtain ⟨y1, hy1⟩ : ∃ x1 : Need, x1 = ⟨57, #[], #[.pointer (some ⟨w5.heap.size, 0, none⟩), .pointer (some ⟨w5.heap.size + 1, 0, none⟩), .pointer (some ⟨w5.heap.size + 2, 0, none⟩)], freeE T t a⟩ := ⟨_, rfl⟩
        obtain ⟨y2, hy2⟩ : ∃ x1 : Need, x1 = ⟨62, #[], #[.pointer (some ⟨w6.heap.size, 0, none⟩), .pointer (some ⟨w6.heap.size + 2, 0, none⟩), .pointer (some ⟨w6.heap.size + 3, 0, none⟩), .pointer (some ⟨w6.heap.size + 1, 0, none⟩)], aboveF T dp d s t⟩ := ⟨_, rfl⟩
        have Y1 := Lib.hid hy1
        have Y2 := Lib.hid hy2
        clear hy1 hy2
        go_wp2_with (refine list_val (op := { dst := some 49, op := _, type := _, pos := _, after := _, guard := _ }) rfl (v := .slice (some ⟨w7.heap.size, 0, none⟩) 2 2) (w' := w7.alloc (.cells #[y1.v, y2.v] 73)) (by rw [Y1.out, Y2.out]; kernel_rfl) ?_)
        have ba := (Below.refl _ w7).alloc (Nat.le_refl _) (.cells #[y1.v, y2.v] 73)
        have hA := At.new w7 #[y1.v, y2.v] 73
        have HALL2 := Lib.hid (HB.out.trans (ba.mono HB.out.size))
        have BA := Lib.hid ba
        obtain ⟨C, hBB⟩ : ∃ B, B = w7.heap.size := ⟨_, rfl⟩
        rw [← hBB] at hA ⊢
        generalize w7.alloc (.cells #[y1.v, y2.v] 73) = w8 at *
        clear ba hBB
        refine (first_any C 2 [y1, y2] (by show 2 ≤ 1000; omega) w8 hA (fun j y hj hz => ?_)).mono ?_
        · have hb := fun (w' : World) (b' : Below w8.heap.size w8 w') => HALL2.out.trans (b'.mono HALL2.out.size)
          have ht' := fun (w' : World) (b' : Below w8.heap.size w8 w') => HH.out.below (hb w' b')
          have hq := fun {B t l} (a : At w7 B t l) (w' : World) (b' : Below w8.heap.size w8 w') => (a.below BA.out a.lt).below b' (by have := a.lt; have := BA.out.size; omega)
          match j, hj with
          | 0, hj =>
            cases hj
            rw [Y1.out]
            exact ⟨enter_isFree1, fun w' b' => isFree1_any base w' tb T p (ht' w' b') t ht a hs2 _ _ _ (hq A1.out w' b') (hq A2.out w' b') (hq A3.out w' b')⟩
          | 1, hj =>
            cases hj
            rw [Y2.out]
            refine ⟨enter_isNotAbove1, fun w' b' => ?_⟩
            have := isNotAbove1_any base w' tb T p (ht' w' b') d hd s hs x HFD.out P dp HL.out t (HP.out it HIT.out HIT2.out) _ _ _ _ (hq A4.out w' b') (hq A6.out w' b') (hq A7.out w' b') (hq A5.out w' b')
            have hu : aboveF T dp d s t = aboveE T x dp t := by unfold aboveF; rw [HFD.out]
            rw [← hu] at this
            exact this
        rintro e w9 ⟨rfl, b9⟩
        have HB9 := Lib.hid (HALL2.out.trans (b9.mono HALL2.out.size))
        have hf : firstR [y1, y2] = R := by
          rw [Y1.out, Y2.out, HR2.out]
          unfold firstR firstR firstR moveF
          by_cases q1 : freeE T t a = 0 <;> by_cases q2 : aboveF T dp d s t = 0 <;> simp [q1, q2]
        rw [hf]
        clear b9 hf hA BA HB A1 A2 A3 A4 A5 A6 A7 Y1 Y2 HBF
        by_cases hR0 : R = 0
        · obtain ⟨o, ho, hol, hlv, j, o2, hj, hj2, ho2, hl2, hen⟩ := move_mid HO.out HI.out H2.out HENT.out HIT.out HIT2.out (a := a)
          obtain ⟨hxw, hxs⟩ := HO.out.e d i s x HI.out H2.out HENT.out
          have HT3 := Lib.hid (show T' = (T.leave d s x).enter t a x by rw [HT2.out, hR0]; unfold Tab.move; rw [HFD.out]; simp)
          rw [hen] at HT3
          have HC := Lib.hid (leave_any base w9 tb T p (HH.out.below HB9.out) d hd s hs x hxw i HI.out H2.out HENT.out o ho hol)
          rw [← hlv] at HC
          have HR0 := Lib.hid hR0
          have HJ := Lib.hid hj
          have HJ2 := Lib.hid hj2
          have HO2 := Lib.hid ho2
          have HL2 := Lib.hid hl2
          rw [hR0]
          generalize T.leave d s x = T1 at *
          clear hR0 ho hol hlv hj hj2 ho2 hl2 hen HT2 HR2 hxs HI H2 HENT HIT HIT2
          go_wp2_with fail
          refine HC.out.mono ?_
          rintro e w10 ⟨rfl, t10, s10⟩
          have S10 := Lib.hid s10
          have HE := Lib.hid (enter_any base w10 tb T1 _ t10 t ht a hs2 x hxw j HJ.out HJ2.out o2 HO2.out HL2.out (by
            unfold Place.setM
            by_cases e : t = d
            · subst e; simp; omega
            · simp [e]; omega))
          clear t10 s10
          go_wp2_with fail
          refine HE.out.mono ?_
          rintro e w11 ⟨rfl, t11, s11⟩
          have T11 := Lib.hid t11
          have S11 := Lib.hid s11
          clear t11 s11
          go_wp2_with fail
          go_ret
          rw [HT3.out]
          refine ⟨by rw [HR0.out]; rfl, _, T11.out, ((Step.of_below HB9.out).trans S10.out).trans S11.out, Nat.le_succ _, fun k => ?_⟩
          unfold Place.setM
          by_cases e1 : k = t
          · subst e1
            by_cases e2 : k = d
            · subst e2; simp
            · simp [e2]
          · by_cases e2 : k = d
            · subst e2; simp [e1]
            · simp [e1, e2]
        · have hTT : T' = T := by rw [HT2.out, if_pos hR0]
          have HTT := Lib.hid hTT
          have e1 : (R != 0) = true := by simpa using hR0
          clear hR0 hTT HT2 HR2
          go_wp2_with fail
          go_ret
          rw [HTT.out]
          exact ⟨rfl, p, HH.out.below HB9.out, Step.of_below HB9.out, More.refl p⟩
  · have h0 : R = r := by rw [HRR.out, if_pos hr0]
    have hTT : T' = T := by rw [HT.out, if_pos hr0]
    have H0 := Lib.hid h0
    have HTT := Lib.hid hTT
    have e1 : (r != 0) = true := by simpa using hr0
    clear hr0 h0 hTT HRR HT HR
    go_wp2_with fail
    go_ret
    rw [HTT.out]
    exact ⟨by rw [H0.out]; rfl, p, HH.out.below HB5.out, Step.of_below HB5.out, More.refl p⟩
end Go.Proofs.Ytgifdmfnecombaa
