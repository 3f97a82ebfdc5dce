/- Unlink. -/
import Derived.Test.YtgifdmfnecombaaIy
namespace Go.Proofs.Ytgifdmfnecombaa
open Go.RowKit
set_option maxRecDepth 100000
def inUseE (T : Tab) (d : Int) (s : List UInt8) : Int := match findT T d s with
  | none => 0
  | some x => match T.f x with
    | none => 0
    | some o => usedE o
def hasE (T : Tab) (d : Int) (s : List UInt8) : Int := if (findT T d s).isSome = true then 0 else 5
def unlinkE (T : Tab) (d : Int) (s : List UInt8) : Int := if isDirE T d ≠ 0 then isDirE T d else if hasE T d s ≠ 0 then hasE T d s else inUseE T d s
/-- an entry less, that named x -/
def Tab.leave (T : Tab) (d : Int) (s : List UInt8) (x : Int) : Tab := match T.f d with
  | none => T
  | some i => match (T.setI d (entOut i s)).f x with
    | none => T
    | some o => (T.setI d (entOut i s)).setI x o.unlinked
def Tab.drop (T : Tab) (x : Int) : Tab := match T.f x with
  | none => T
  | some o => (T.setB (T.bytes - o.data.length)).del x
def Tab.unlink (T : Tab) (d : Int) (s : List UInt8) (x : Int) : Tab := match (T.leave d s x).f x with
  | none => T.leave d s x
  | some o => if o.links = 0 then (T.leave d s x).drop x else T.leave d s x
def unlinkT (T : Tab) (d : Int) (s : List UInt8) : Tab := if unlinkE T d s ≠ 0 then T else match findT T d s with
  | none => T
  | some x => T.unlink d s x
theorem More.same (p : Place) (d : Int) : More p (p.setM d (p.m d)) := ⟨Nat.le_succ _, fun k => by
  unfold Place.setM
  by_cases e : k = d
  · subst e; simp
  · simp [e]⟩
theorem More.del {p q : Place} (h : More p q) (x : Int) : More p (q.del x) := h
theorem unlinkE_zero {T : Tab} {d : Int} {s : List UInt8} (h : unlinkE T d s = 0) : ∃ i x, T.f d = some i ∧ i.kind = 2 ∧ i.ents s = some x ∧ findT T d s = some x := by
  unfold unlinkE at h
  by_cases q1 : isDirE T d = 0
  · by_cases q2 : hasE T d s = 0
    · obtain ⟨i, hi, h2⟩ := dirE_zero q1
      unfold hasE at q2
      have hf : findT T d s = i.ents s := by unfold findT; rw [hi]; simp [h2]
      cases hq : i.ents s with
      | none => rw [hf, hq] at q2; simp at q2
      | some x => exact ⟨i, x, hi, h2, hq, hf.trans hq⟩
    · simp [q1, q2] at h
  · simp [q1] at h
theorem enter_hasEntry1 : ∀ (args : Array Value) (w : World), (callFunc 61 args).run Try.prog w = .ok (.enter 61 args) w := enters_of Try.func61 (by kernel_rfl) rfl
theorem enter_isNotInUse1 : ∀ (args : Array Value) (w : World), (callFunc 63 args).run Try.prog w = .ok (.enter 63 args) w := enters_of Try.func63 (by kernel_rfl) rfl
set_option maxHeartbeats 4000000 in
theorem unlink_any (base : Nat) (w : World) (tb : Nat) (T : Tab) (p : Place) (h : TabAt base w tb T p) (d : Int) (hd : (Lit.int .i64 d).wf = true) (s : List UInt8) (hs : s.length ≤ maxLen)
    (hl : ∀ k o, T.f k = some o → (-1000000000000 ≤ o.links ∧ o.links ≤ 1000000000000) ∧ o.data.length ≤ T.bytes) (hb : T.bytes ≤ 1000000000000)
    (hE : ∀ i nm j, T.f d = some i → i.kind = 2 → i.ents nm = some j → (Lit.int .i64 j).wf = true ∧ (T.f j).isSome = true) :
    Calls Try.prog 17 #[tabV tb, .int .i64 d, .string (bs s)] w fun e w' => e = .returned (.int .i64 (unlinkE T d s)) ∧ ∃ p', TabAt base w' tb (unlinkT T d s) p' ∧ Step tb T p (unlinkT T d s) p' w w' ∧ More p p' := by
  have hmf := makes
  have HH := Lib.hid h
  obtain ⟨r, hr⟩ : ∃ r : Int, r = unlinkE T d s := ⟨_, rfl⟩
  obtain ⟨T', hT⟩ : ∃ T' : Tab, T' = unlinkT T d s := ⟨_, rfl⟩
  rw [← hr, ← hT]
  have HR := Lib.hid hr
  have HT := Lib.hid hT
  have HL := Lib.hid hl
  have HE := Lib.hid hE
  clear h hr hT hl hE
  go_enter Try.func17, Try.ntmps17
  go_wp2_with fail
  refine (isDir_mk tb d w).mono ?_
  rintro e w1 ⟨rfl, a1, a2, b1⟩
  have hh1 := b1.size
  go_wp2_with fail
  refine (hasEntry_mk tb d s w1).mono ?_
  rintro e w2 ⟨rfl, a3, a4, a5, b2⟩
  have hh2 := b2.size
  go_wp2_with fail
  refine (isNotInUse_mk tb d s w2).mono ?_
  rintro e w3 ⟨rfl, a6, a7, a8, b3⟩
  have b13 := b2.trans (b3.mono b2.size)
  have HB := Lib.hid (b1.trans (b13.mono b1.size))
  have A1 := Lib.hid (a1.below b13 a1.lt)
  have A2 := Lib.hid (a2.below b13 a2.lt)
  have A3 := Lib.hid (a3.below b3 a3.lt)
  have A4 := Lib.hid (a4.below b3 a4.lt)
  have A5 := Lib.hid (a5.below b3 a5.lt)
  have A6 := Lib.hid a6
  have A7 := Lib.hid a7
  have A8 := Lib.hid a8
  clear a1 a2 a3 a4 a5 a6 a7 a8 b1 b2 b3 b13 hh1 hh2
  obtain ⟨x1, hx1⟩ : ∃ x1 : Need, x1 = ⟨30, #[tabV tb], #[], 0⟩ := ⟨_, rfl⟩
  obtain ⟨x2, hx2⟩ : ∃ x2 : Need, x2 = ⟨59, #[], #[.pointer (some ⟨w.heap.size, 0, none⟩), .pointer (some ⟨w.heap.size + 1, 0, none⟩)], isDirE T d⟩ := ⟨_, rfl⟩
  obtain ⟨x3, hx3⟩ : ∃ x3 : Need, x3 = ⟨61, #[], #[.pointer (some ⟨w1.heap.size, 0, none⟩), .pointer (some ⟨w1.heap.size + 1, 0, none⟩), .pointer (some ⟨w1.heap.size + 2, 0, none⟩)], hasE T d s⟩ := ⟨_, rfl⟩
  obtain ⟨x4, hx4⟩ : ∃ x4 : Need, x4 = ⟨63, #[], #[.pointer (some ⟨w2.heap.size, 0, none⟩), .pointer (some ⟨w2.heap.size + 1, 0, none⟩), .pointer (some ⟨w2.heap.size + 2, 0, none⟩)], inUseE T d s⟩ := ⟨_, rfl⟩
  have X1 := Lib.hid hx1
  have X2 := Lib.hid hx2
  have X3 := Lib.hid hx3
  have X4 := Lib.hid hx4
  clear hx1 hx2 hx3 hx4
  go_wp2_with (refine list_val (op := { dst := some 22, op := _, type := _, pos := _, after := _, guard := _ }) rfl (v := .slice (some ⟨w3.heap.size, 0, none⟩) 4 4) (w' := w3.alloc (.cells #[x1.v, x2.v, x3.v, x4.v] 73)) (by rw [X1.out, X2.out, X3.out, X4.out]; kernel_rfl) ?_)
  have ba := (Below.refl _ w3).alloc (Nat.le_refl _) (.cells #[x1.v, x2.v, x3.v, x4.v] 73)
  have hA := At.new w3 #[x1.v, x2.v, x3.v, x4.v] 73
  have HALL := Lib.hid (HB.out.trans (ba.mono HB.out.size))
  have BA := Lib.hid ba
  obtain ⟨B, hBB⟩ : ∃ B, B = w3.heap.size := ⟨_, rfl⟩
  rw [← hBB] at hA ⊢
  generalize w3.alloc (.cells #[x1.v, x2.v, x3.v, x4.v] 73) = w4 at *
  clear ba hBB
  refine (first_any B 4 [x1, x2, x3, x4] (by show 4 ≤ 1000; omega) w4 hA (fun j y hj hz => ?_)).mono ?_
  · have hb := fun (w' : World) (b' : Below w4.heap.size w4 w') => HALL.out.trans (b'.mono HALL.out.size)
    have ht := fun (w' : World) (b' : Below w4.heap.size w4 w') => HH.out.below (hb w' b')
    have hq := fun {B t l} (a : At w3 B t l) (w' : World) (b' : Below w4.heap.size w4 w') => (a.below BA.out a.lt).below b' (by have := a.lt; have := BA.out.size; omega)
    match j, hj with
    | 0, hj =>
      cases hj
      rw [X1.out]
      exact ⟨enter_isTable, fun w' b' => isTable_any base w' tb T p (ht w' b')⟩
    | 1, hj =>
      cases hj
      rw [X2.out]
      exact ⟨enter_isDir1, fun w' b' => isDir1_any base w' tb T p (ht w' b') d hd _ _ (hq A1.out w' b') (hq A2.out w' b')⟩
    | 2, hj =>
      cases hj
      rw [X3.out]
      exact ⟨enter_hasEntry1, fun w' b' => hasEntry1_any base w' tb T p (ht w' b') d hd s hs _ _ _ (hq A3.out w' b') (hq A4.out w' b') (hq A5.out w' b')⟩
    | 3, hj =>
      cases hj
      have z1 : isDirE T d = 0 := by have := hz x2 (by simp); rw [X2.out] at this; exact this
      have z2 : hasE T d s = 0 := by have := hz x3 (by simp); rw [X3.out] at this; exact this
      obtain ⟨i, hi, h2⟩ := dirE_zero z1
      obtain ⟨j, hj⟩ : ∃ j, findT T d s = some j := by
        unfold hasE at z2
        cases hq : findT T d s with
        | none => rw [hq] at z2; simp at z2
        | some j => exact ⟨j, rfl⟩
      have hent : i.ents s = some j := by
        have : findT T d s = i.ents s := by unfold findT; rw [hi]; simp [h2]
        rw [← this]; exact hj
      obtain ⟨hjw, hjs⟩ := HE.out i s j hi h2 hent
      obtain ⟨o, ho⟩ : ∃ o, T.f j = some o := Option.isSome_iff_exists.mp hjs
      have hu : inUseE T d s = usedE o := by unfold inUseE; rw [hj]; simp [ho]
      rw [X4.out]
      exact ⟨enter_isNotInUse1, fun w' b' => by
        have := isNotInUse1_any base w' tb T p (ht w' b') d hd s hs j hj hjw o ho _ _ _ (hq A6.out w' b') (hq A7.out w' b') (hq A8.out w' b')
        rw [← hu] at this
        exact this⟩
  · rintro e w5 ⟨rfl, b5⟩
    have HB5 := Lib.hid (HALL.out.trans (b5.mono HALL.out.size))
    have hf : firstR [x1, x2, x3, x4] = r := by
      rw [X1.out, X2.out, X3.out, X4.out, HR.out]
      unfold firstR firstR firstR firstR firstR unlinkE
      by_cases q1 : isDirE T d = 0 <;> by_cases q2 : hasE T d s = 0 <;> by_cases q3 : inUseE T d s = 0 <;> simp [q1, q2, q3]
    rw [hf]
    clear b5 hf
    by_cases hr0 : r = 0
    · obtain ⟨i, x, hi, h2, hent, hfd⟩ := unlinkE_zero (HR.out.symm.trans hr0)
      obtain ⟨hxw, hxs⟩ := HE.out i s x hi h2 hent
      obtain ⟨o, ho, hol, hod⟩ : ∃ o, (T.setI d (entOut i s)).f x = some o ∧ (-1000000000000 ≤ o.links ∧ o.links ≤ 1000000000000) ∧ o.data.length ≤ T.bytes := by
        by_cases e : x = d
        · subst e
          exact ⟨_, setI_at _ _ _, (HL.out x i hi).1, (HL.out x i hi).2⟩
        · obtain ⟨o, ho⟩ : ∃ o, T.f x = some o := Option.isSome_iff_exists.mp hxs
          exact ⟨o, by unfold Tab.setI; simp [e, ho], (HL.out x o ho).1, (HL.out x o ho).2⟩
      have hlv : T.leave d s x = (T.setI d (entOut i s)).setI x o.unlinked := by unfold Tab.leave; simp [hi, ho]
      have hat : (T.leave d s x).f x = some o.unlinked := by rw [hlv]; exact setI_at _ _ _
      have hby : (T.leave d s x).bytes = T.bytes := by rw [hlv]; rfl
      have hT' : T' = if o.links - 1 = 0 then (T.leave d s x).drop x else T.leave d s x := by
        rw [HT.out]
        unfold unlinkT
        rw [← HR.out, hr0, hfd]
        unfold Tab.unlink
        simp only [hat, Ino.unlinked]
        simp
      have HC := Lib.hid (leave_any base w5 tb T p (HH.out.below HB5.out) d hd s hs x hxw i hi h2 hent o ho hol)
      rw [← hlv] at HC
      have HT2 := Lib.hid hT'
      have HR0 := Lib.hid hr0
      have HAT := Lib.hid hat
      rw [hr0]
      generalize T.leave d s x = T1 at *
      have HBY := Lib.hid hby
      clear hr0 hi h2 hent hfd hxs ho hlv hat hT' HT HR hby
      go_wp2_with fail
      refine HC.out.mono ?_
      rintro e w6 ⟨rfl, t6, s6⟩
      have c0 := t6.t.cell 0 _ rfl
      obtain ⟨c, hg⟩ : ∃ c, (p.setM d (p.m d)).g x = some c := Option.isSome_iff_exists.mp (by rw [t6.s x, HAT.out]; rfl)
      have hlk := t6.i.get x hxw
      rw [hg] at hlk
      simp only [ptrV] at hlk
      have c3 := (t6.o x c _ hg HAT.out).a.cell 3 (.int .i64 (o.links - 1)) rfl
      have T6 := Lib.hid t6
      have S6 := Lib.hid ((Step.of_below HB5.out).trans s6)
      clear t6 s6 hg
      by_cases hz : o.links - 1 = 0
      · have HT3 := Lib.hid (show T' = (T1.setB (T1.bytes - o.unlinked.data.length)).del x by rw [HT2.out, if_pos hz]; unfold Tab.drop; rw [HAT.out])
        have HD := Lib.hid (drop_any base w6 tb T1 _ T6.out x hxw o.unlinked HAT.out (by rw [HBY.out]; exact hod) (by rw [HBY.out]; exact hb))
        rw [hz] at c3
        clear hz
        unfold tabV
        go_wp2_with fail
        refine HD.out.mono ?_
        rintro e w7 ⟨rfl, t7, s7⟩
        have T7 := Lib.hid t7
        have S7 := Lib.hid s7
        clear t7 s7 c0 hlk c3
        go_wp2_with fail
        go_ret
        rw [HT3.out]
        exact ⟨by rw [HR0.out]; rfl, _, T7.out, S6.out.trans S7.out, (More.same p d).del x⟩
      · have HT3 := Lib.hid (show T' = T1 by rw [HT2.out, if_neg hz])
        have e1 : (o.links - 1 == 0) = false := by simpa using hz
        clear hz
        unfold tabV
        go_wp2_with fail
        go_ret
        rw [HT3.out]
        exact ⟨by rw [HR0.out]; rfl, _, T6.out, S6.out, More.same p d⟩
    · have hT' : T' = T := by
        rw [HT.out]
        unfold unlinkT
        rw [← HR.out, if_pos hr0]
      have HT2 := Lib.hid hT'
      have e1 : (r != 0) = true := by simpa using hr0
      clear hr0 hT' HR
      go_wp2_with fail
      go_ret
      rw [HT2.out]
      exact ⟨rfl, p, HH.out.below HB5.out, Step.of_below HB5.out, More.refl p⟩
end Go.Proofs.Ytgifdmfnecombaa
