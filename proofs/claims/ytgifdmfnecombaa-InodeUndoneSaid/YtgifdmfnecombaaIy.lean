/- Link. -/
import Derived.Test.YtgifdmfnecombaaIx
namespace Go.Proofs.Ytgifdmfnecombaa
open Go.RowKit
set_option maxRecDepth 100000
def freeE (T : Tab) (d : Int) (s : List UInt8) : Int := if (!(findT T d s).isSome) = true then 0 else 6
def linkE (T : Tab) (d : Int) (s : List UInt8) (x : Int) : Int := if placeE T d s ≠ 0 then placeE T d s else if fileE T x ≠ 0 then fileE T x else freeE T d s
/-- an entry more, that names x -/
def Tab.enter (T : Tab) (d : Int) (s : List UInt8) (x : Int) : Tab := match T.f d with
  | none => T
  | some i => match (T.setI d (entIn i s x)).f x with
    | none => T
    | some o => (T.setI d (entIn i s x)).setI x (o.linked d)
def linkT (T : Tab) (d : Int) (s : List UInt8) (x : Int) : Tab := if linkE T d s x ≠ 0 then T else T.enter d s x
/-- how often maps are written at most: once more -/
def More (p p' : Place) : Prop := p'.n ≤ p.n + 1 ∧ ∀ k, p'.m k ≤ p.m k + 1
theorem More.refl (p : Place) : More p p := ⟨Nat.le_succ _, fun _ => Nat.le_succ _⟩
theorem More.setM (p : Place) (d : Int) : More p (p.setM d (p.m d + 1)) := ⟨Nat.le_succ _, fun k => by
  unfold Place.setM
  by_cases e : k = d
  · subst e; simp
  · simp [e]⟩
theorem dirE_zero {T : Tab} {d : Int} (h : isDirE T d = 0) : ∃ i, T.f d = some i ∧ i.kind = 2 := by
  unfold isDirE at h
  cases hs : isDirT T d with
  | true => exact dirT_some hs
  | false => rw [hs] at h; cases hq : (T.f d).isSome <;> rw [hq] at h <;> simp at h
theorem placeE_zero {T : Tab} {d : Int} {s : List UInt8} (h : placeE T d s = 0) : isDirE T d = 0 := by
  unfold placeE at h
  by_cases q : isDirE T d = 0
  · exact q
  · rw [if_neg q] at h; exact h
theorem fileE_zero {T : Tab} {x : Int} (h : fileE T x = 0) : ∃ o, T.f x = some o ∧ o.kind ≠ 2 := by
  unfold fileE at h
  cases hq : T.f x with
  | none => rw [hq] at h; simp at h
  | some o =>
    rw [hq] at h
    refine ⟨o, rfl, fun e => ?_⟩
    simp [kindE, e] at h
theorem linkE_zero {T : Tab} {d : Int} {s : List UInt8} {x : Int} (h : linkE T d s x = 0) : ∃ i o, T.f d = some i ∧ i.kind = 2 ∧ T.f x = some o ∧ o.kind ≠ 2 ∧ d ≠ x := by
  unfold linkE at h
  by_cases q1 : placeE T d s = 0
  · by_cases q2 : fileE T x = 0
    · obtain ⟨i, hi, h2⟩ := dirE_zero (placeE_zero q1)
      obtain ⟨o, ho, h3⟩ := fileE_zero q2
      refine ⟨i, o, hi, h2, ho, h3, ?_⟩
      rintro rfl
      rw [hi] at ho
      cases ho
      exact h3 h2
    · simp [q1, q2] at h
  · simp [q1] at h
theorem enter_place1 : ∀ (args : Array Value) (w : World), (callFunc 50 args).run Try.prog w = .ok (.enter 50 args) w := enters_of Try.func50 (by kernel_rfl) rfl
theorem enter_isFile1 : ∀ (args : Array Value) (w : World), (callFunc 64 args).run Try.prog w = .ok (.enter 64 args) w := enters_of Try.func64 (by kernel_rfl) rfl
theorem enter_isFree1 : ∀ (args : Array Value) (w : World), (callFunc 57 args).run Try.prog w = .ok (.enter 57 args) w := enters_of Try.func57 (by kernel_rfl) rfl
set_option maxHeartbeats 4000000 in
theorem link_any (base : Nat) (w : World) (tb : Nat) (T : Tab) (p : Place) (h : TabAt base w tb T p) (d : Int) (hd : (Lit.int .i64 d).wf = true) (s : List UInt8) (hs : s.length ≤ 1000000) (ha : Asc s) (x : Int) (hx : (Lit.int .i64 x).wf = true)
    (hl : ∀ k o, T.f k = some o → -1000000000000 ≤ o.links ∧ o.links ≤ 1000000000000) (hm : p.m d < maxLen) :
    Calls Try.prog 19 #[tabV tb, .int .i64 d, .string (bs s), .int .i64 x] w fun e w' => e = .returned (.int .i64 (linkE T d s x)) ∧ ∃ p', TabAt base w' tb (linkT T d s x) p' ∧ Step tb T p (linkT T d s x) p' w w' ∧ More p p' := by
  have hmf := makes
  have HH := Lib.hid h
  obtain ⟨r, hr⟩ : ∃ r : Int, r = linkE T d s x := ⟨_, rfl⟩
  obtain ⟨T', hT⟩ : ∃ T' : Tab, T' = linkT T d s x := ⟨_, rfl⟩
  rw [← hr, ← hT]
  have HR := Lib.hid hr
  have HT := Lib.hid hT
  have HL := Lib.hid hl
  have hs2 : s.length ≤ maxLen := Nat.le_trans hs (by unfold maxLen; omega)
  clear h hr hT hl
  go_enter Try.func19, Try.ntmps19
  go_wp2_with fail
  refine (place_mk tb d s w).mono ?_
  rintro e w1 ⟨rfl, a1, a2, a3, b1⟩
  have hh1 := b1.size
  go_wp2_with fail
  refine (isFile_mk tb x w1).mono ?_
  rintro e w2 ⟨rfl, a4, a5, b2⟩
  have hh2 := b2.size
  go_wp2_with fail
  refine (isFree_mk tb d s w2).mono ?_
  rintro e w3 ⟨rfl, a6, a7, a8, b3⟩
  have b13 := b2.trans (b3.mono b2.size)
  have HB := Lib.hid (b1.trans (b13.mono b1.size))
  have A1 := Lib.hid (a1.below b13 a1.lt)
  have A2 := Lib.hid (a2.below b13 a2.lt)
  have A3 := Lib.hid (a3.below b13 a3.lt)
  have A4 := Lib.hid (a4.below b3 a4.lt)
  have A5 := Lib.hid (a5.below b3 a5.lt)
  have A6 := Lib.hid a6
  have A7 := Lib.hid a7
  have A8 := Lib.hid a8
  clear a1 a2 a3 a4 a5 a6 a7 a8 b1 b2 b3 b13 hh1 hh2
  obtain ⟨x1, hx1⟩ : ∃ x1 : Need, x1 = ⟨30, #[tabV tb], #[], 0⟩ := ⟨_, rfl⟩
  obtain ⟨x2, hx2⟩ : ∃ x2 : Need, x2 = ⟨50, #[], #[.pointer (some ⟨w.heap.size + 2, 0, none⟩), .pointer (some ⟨w.heap.size, 0, none⟩), .pointer (some ⟨w.heap.size + 1, 0, none⟩)], placeE T d s⟩ := ⟨_, rfl⟩
  obtain ⟨x3, hx3⟩ : ∃ x3 : Need, x3 = ⟨64, #[], #[.pointer (some ⟨w1.heap.size, 0, none⟩), .pointer (some ⟨w1.heap.size + 1, 0, none⟩)], fileE T x⟩ := ⟨_, rfl⟩
  obtain ⟨x4, hx4⟩ : ∃ x4 : Need, x4 = ⟨57, #[], #[.pointer (some ⟨w2.heap.size, 0, none⟩), .pointer (some ⟨w2.heap.size + 1, 0, none⟩), .pointer (some ⟨w2.heap.size + 2, 0, none⟩)], freeE T d s⟩ := ⟨_, rfl⟩
  have X1 := Lib.hid hx1
  have X2 := Lib.hid hx2
  have X3 := Lib.hid hx3
  have X4 := Lib.hid hx4
  clear hx1 hx2 hx3 hx4
  go_wp2_with (refine list_val (op := { dst := some 23, op := _, type := _, pos := _, after := _, guard := _ }) rfl (v := .slice (some ⟨w3.heap.size, 0, none⟩) 4 4) (w' := w3.alloc (.cells #[x1.v, x2.v, x3.v, x4.v] 73)) (by rw [X1.out, X2.out, X3.out, X4.out]; kernel_rfl) ?_)
  have ba := (Below.refl _ w3).alloc (Nat.le_refl _) (.cells #[x1.v, x2.v, x3.v, x4.v] 73)
  have hA := At.new w3 #[x1.v, x2.v, x3.v, x4.v] 73
  have HALL := Lib.hid (HB.out.trans (ba.mono HB.out.size))
  have BA := Lib.hid ba
  obtain ⟨B, hBB⟩ : ∃ B, B = w3.heap.size := ⟨_, rfl⟩
  rw [← hBB] at hA ⊢
  generalize w3.alloc (.cells #[x1.v, x2.v, x3.v, x4.v] 73) = w4 at *
  clear ba hBB
  refine (first_any B 4 [x1, x2, x3, x4] (by show 4 ≤ 1000; omega) w4 hA (fun j y hj hz => ?_)).mono ?_
  · have hb := fun (w' : World) (b' : Below w4.heap.size w4 w') => HALL.out.trans (b'.mono HALL.out.size)
    have ht := fun (w' : World) (b' : Below w4.heap.size w4 w') => HH.out.below (hb w' b')
    have hq := fun {B t l} (a : At w3 B t l) (w' : World) (b' : Below w4.heap.size w4 w') => (a.below BA.out a.lt).below b' (by have := a.lt; have := BA.out.size; omega)
    match j, hj with
    | 0, hj =>
      cases hj
      rw [X1.out]
      exact ⟨enter_isTable, fun w' b' => isTable_any base w' tb T p (ht w' b')⟩
    | 1, hj =>
      cases hj
      rw [X2.out]
      exact ⟨enter_place1, fun w' b' => place1_any base w' tb T p (ht w' b') d hd s hs ha _ _ _ (hq A3.out w' b') (hq A1.out w' b') (hq A2.out w' b')⟩
    | 2, hj =>
      cases hj
      rw [X3.out]
      exact ⟨enter_isFile1, fun w' b' => isFile1_any base w' tb T p (ht w' b') x hx _ _ (hq A4.out w' b') (hq A5.out w' b')⟩
    | 3, hj =>
      cases hj
      rw [X4.out]
      exact ⟨enter_isFree1, fun w' b' => isFree1_any base w' tb T p (ht w' b') d hd s hs2 _ _ _ (hq A6.out w' b') (hq A7.out w' b') (hq A8.out w' b')⟩
  · rintro e w5 ⟨rfl, b5⟩
    have HB5 := Lib.hid (HALL.out.trans (b5.mono HALL.out.size))
    have hf : firstR [x1, x2, x3, x4] = r := by
      rw [X1.out, X2.out, X3.out, X4.out, HR.out]
      unfold firstR firstR firstR firstR firstR linkE
      by_cases q1 : placeE T d s = 0 <;> by_cases q2 : fileE T x = 0 <;> by_cases q3 : freeE T d s = 0 <;> simp [q1, q2, q3]
    rw [hf]
    clear b5 hf
    by_cases hr0 : r = 0
    · obtain ⟨i, o, hi, h2, ho, h3, hne⟩ := linkE_zero (HR.out.symm.trans hr0)
      have ho2 : (T.setI d (entIn i s x)).f x = some o := by unfold Tab.setI; simp [Ne.symm hne, ho]
      have hT' : T' = (T.setI d (entIn i s x)).setI x (o.linked d) := by
        rw [HT.out]
        unfold linkT
        rw [← HR.out, hr0]
        unfold Tab.enter
        simp [hi, ho2]
      have HC := Lib.hid (enter_any base w5 tb T p (HH.out.below HB5.out) d hd s hs2 x hx i hi h2 o ho2 (HL.out x o ho) hm)
      have HT2 := Lib.hid hT'
      have HR0 := Lib.hid hr0
      rw [hr0]
      clear hr0 hi h2 ho h3 hne ho2 hT' HT HR
      go_wp2_with fail
      refine HC.out.mono ?_
      rintro e w6 ⟨rfl, t6, s6⟩
      have T6 := Lib.hid t6
      have S6 := Lib.hid s6
      clear t6 s6
      go_wp2_with fail
      go_ret
      rw [HT2.out]
      exact ⟨by rw [HR0.out]; rfl, _, T6.out, (Step.of_below HB5.out).trans S6.out, More.setM p d⟩
    · have hT' : T' = T := by
        rw [HT.out]
        unfold linkT
        rw [← HR.out, if_pos hr0]
      have HT2 := Lib.hid hT'
      have e1 : (r != 0) = true := by simpa using hr0
      clear hr0 hT' HR
      go_wp2_with fail
      go_ret
      rw [HT2.out]
      exact ⟨rfl, p, HH.out.below HB5.out, Step.of_below HB5.out, More.refl p⟩
end Go.Proofs.Ytgifdmfnecombaa
