/- Chmod. -/
import Derived.Test.YtgifdmfnecombaaIw
namespace Go.Proofs.Ytgifdmfnecombaa
open Go.RowKit
set_option maxRecDepth 100000
def chmodE (T : Tab) (k m : Int) : Int := if modeE m ≠ 0 then modeE m else if (T.f k).isSome = true then 0 else 5
def Ino.chmod (o : Ino) (m : Int) : Ino := { o with mode := m }
def chmodT (T : Tab) (k m : Int) : Tab := if modeE m ≠ 0 then T else match T.f k with
  | some o => T.setI k (o.chmod m)
  | none => T
theorem enter_isTable : ∀ (args : Array Value) (w : World), (callFunc 30 args).run Try.prog w = .ok (.enter 30 args) w := enters_of Try.func30 (by kernel_rfl) rfl
set_option maxHeartbeats 2000000 in
theorem chmod_any (base : Nat) (w : World) (tb : Nat) (T : Tab) (p : Place) (h : TabAt base w tb T p) (k : Int) (hk : (Lit.int .i64 k).wf = true) (m : Int) :
    Calls Try.prog 21 #[tabV tb, .int .i64 k, .int .i64 m] w fun e w' => e = .returned (.int .i64 (chmodE T k m)) ∧ TabAt base w' tb (chmodT T k m) p ∧ Step tb T p (chmodT T k m) p w w' := by
  have hmf := makes
  have HH := Lib.hid h
  obtain ⟨r, hr⟩ : ∃ r : Int, r = chmodE T k m := ⟨_, rfl⟩
  obtain ⟨T', hT⟩ : ∃ T' : Tab, T' = chmodT T k m := ⟨_, rfl⟩
  rw [← hr, ← hT]
  have HR := Lib.hid hr
  have HT := Lib.hid hT
  clear h hr hT
  go_enter Try.func21, Try.ntmps21
  go_wp2_with fail
  refine (isMode_mk m w).mono ?_
  rintro e w1 ⟨rfl, a1, b⟩
  have A1 := Lib.hid a1
  have HB := Lib.hid b
  clear a1 b
  go_wp2_with fail
  refine (has_mk tb k w1).mono ?_
  rintro e w2 ⟨rfl, a2, a3, b⟩
  have A1' := Lib.hid (A1.out.below b A1.out.lt)
  have A2 := Lib.hid a2
  have A3 := Lib.hid a3
  have HB2 := Lib.hid (HB.out.trans (b.mono HB.out.size))
  clear a2 a3 b
  obtain ⟨x1, hx1⟩ : ∃ x1 : Need, x1 = ⟨30, #[tabV tb], #[], 0⟩ := ⟨_, rfl⟩
  obtain ⟨x2, hx2⟩ : ∃ x2 : Need, x2 = ⟨66, #[], #[.pointer (some ⟨w.heap.size, 0, none⟩)], modeE m⟩ := ⟨_, rfl⟩
  obtain ⟨x3, hx3⟩ : ∃ x3 : Need, x3 = ⟨67, #[], #[.pointer (some ⟨w1.heap.size, 0, none⟩), .pointer (some ⟨w1.heap.size + 1, 0, none⟩)], if (T.f k).isSome = true then 0 else 5⟩ := ⟨_, rfl⟩
  have X1 := Lib.hid hx1
  have X2 := Lib.hid hx2
  have X3 := Lib.hid hx3
  clear hx1 hx2 hx3
  go_wp2_with (refine list_val (op := { dst := some 15, op := _, type := _, pos := _, after := _, guard := _ }) rfl (v := .slice (some ⟨w2.heap.size, 0, none⟩) 3 3) (w' := w2.alloc (.cells #[x1.v, x2.v, x3.v] 73)) (by rw [X1.out, X2.out, X3.out]; kernel_rfl) ?_)
  have ba := (Below.refl _ w2).alloc (Nat.le_refl _) (.cells #[x1.v, x2.v, x3.v] 73)
  have hA := At.new w2 #[x1.v, x2.v, x3.v] 73
  have HALL := Lib.hid (HB2.out.trans (ba.mono HB2.out.size))
  have BA := Lib.hid ba
  obtain ⟨B, hBB⟩ : ∃ B, B = w2.heap.size := ⟨_, rfl⟩
  rw [← hBB] at hA ⊢
  generalize w2.alloc (.cells #[x1.v, x2.v, x3.v] 73) = w3 at *
  clear ba hBB
  refine (first_any B 3 [x1, x2, x3] (by show 3 ≤ 1000; omega) w3 hA (fun j x hj hz => ?_)).mono ?_
  · have hb := fun (w' : World) (b' : Below w3.heap.size w3 w') => HALL.out.trans (b'.mono HALL.out.size)
    have hs := fun {B t l} (a : At w2 B t l) (w' : World) (b' : Below w3.heap.size w3 w') => (a.below BA.out a.lt).below b' (by have := a.lt; have := BA.out.size; omega)
    match j, hj with
    | 0, hj =>
      cases hj
      rw [X1.out]
      exact ⟨enter_isTable, fun w' b' => isTable_any base w' tb T p (HH.out.below (hb w' b'))⟩
    | 1, hj =>
      cases hj
      rw [X2.out]
      exact ⟨enter_isMode1, fun w' b' => isMode1_any w' m _ (hs A1'.out w' b')⟩
    | 2, hj =>
      cases hj
      rw [X3.out]
      exact ⟨enter_has1, fun w' b' => has1_any base w' tb T p (HH.out.below (hb w' b')) k hk _ _ (hs A2.out w' b') (hs A3.out w' b')⟩
  · rintro e w4 ⟨rfl, b4⟩
    have HB4 := Lib.hid (HALL.out.trans (b4.mono HALL.out.size))
    have hf : firstR [x1, x2, x3] = r := by
      rw [X1.out, X2.out, X3.out, HR.out]
      unfold firstR firstR firstR firstR chmodE
      by_cases q1 : modeE m = 0 <;> cases (T.f k).isSome <;> simp [q1]
    rw [hf]
    clear b4 hf
    by_cases hr0 : r = 0
    · obtain ⟨o, ho, hT'⟩ : ∃ o, T.f k = some o ∧ T' = T.setI k (o.chmod m) := by
        have h1 := HR.out
        rw [hr0] at h1
        unfold chmodE at h1
        by_cases q : modeE m = 0
        · cases hq : T.f k with
          | none => simp [q, hq] at h1
          | some o => exact ⟨o, rfl, by rw [HT.out]; unfold chmodT; simp [q, hq]⟩
        · simp [q] at h1; exact absurd h1.symm q
      have H4 := HH.out.below HB4.out
      have c0 := H4.t.cell 0 _ rfl
      have hs := H4.s k
      rw [ho] at hs
      obtain ⟨c, hg⟩ : ∃ c, p.g k = some c := Option.isSome_iff_exists.mp hs
      have hl := H4.i.get k hk
      rw [hg] at hl
      simp only [ptrV] at hl
      have HI := Lib.hid (H4.o k c o hg ho).a
      have HO := Lib.hid ho
      have HG := Lib.hid hg
      have HT2 := Lib.hid hT'
      have HH4 := Lib.hid H4
      have HR0 := Lib.hid hr0
      rw [hr0]
      clear hr0 H4 hs ho hg hT' HT HR
      unfold tabV
      go_wp2_with (first
        | (refine set_int rfl (.tmp 29) (.tmp 26) rfl c 1 rfl m rfl _ _ HI.out (by simp [Ino.cells]) ?_; intro u hu tu; have HU := Lib.hid hu; have TU := Lib.hid tu; clear hu tu))
      go_ret
      have H5 := HH4.out.setI k o (o.chmod m) c HO.out HG.out rfl rfl rfl (by have := HU.out; simpa [Ino.cells, Ino.chmod] using this) TU.out
      rw [HT2.out]
      exact ⟨by rw [HR0.out]; rfl, H5.1, (Step.of_below HB4.out).trans H5.2⟩
    · have hT' : T' = T := by
        have h1 := HR.out
        rw [HT.out]
        unfold chmodE at h1
        unfold chmodT
        by_cases q : modeE m = 0
        · cases hq : T.f k with
          | none => simp [q]
          | some o => simp [q, hq] at h1; exact absurd h1 hr0
        · simp [q]
      have HT2 := Lib.hid hT'
      have e1 : (r != 0) = true := by simpa using hr0
      clear hr0 hT' HR
      go_wp2_with fail
      go_ret
      rw [HT2.out]
      exact ⟨rfl, HH.out.below HB4.out, Step.of_below HB4.out⟩
end Go.Proofs.Ytgifdmfnecombaa
