/- Find, Up, Root. -/
import Derived.Test.YtgifdmfnecombaaIc
namespace Go.Proofs.Ytgifdmfnecombaa
open Go.RowKit
set_option maxRecDepth 100000
def findT (T : Tab) (k : Int) (nm : List UInt8) : Option Int := match T.f k with
  | some i => if i.kind = 2 then i.ents nm else none
  | none => none
def upT (T : Tab) (k : Int) : Int := match T.f k with
  | some i => if i.kind = 2 then i.up else 0
  | none => 0
theorem dirT_some {T : Tab} {k : Int} (h : isDirT T k = true) : ∃ i, T.f k = some i ∧ i.kind = 2 := by
  unfold isDirT at h
  cases hf : T.f k with
  | none => rw [hf] at h; cases h
  | some i => rw [hf] at h; exact ⟨i, rfl, by simpa using h⟩
theorem dirT_none {T : Tab} {k : Int} (h : isDirT T k = false) : (∀ nm, findT T k nm = none) ∧ upT T k = 0 := by
  unfold isDirT at h
  unfold findT upT
  cases hf : T.f k with
  | none => exact ⟨fun _ => rfl, rfl⟩
  | some i =>
    rw [hf] at h
    have h2 : i.kind ≠ 2 := by simpa using h
    exact ⟨fun _ => by simp [h2], by simp [h2]⟩
theorem find_any (base : Nat) (w : World) (tb : Nat) (T : Tab) (p : Place) (h : TabAt base w tb T p) (k : Int) (hk : (Lit.int .i64 k).wf = true) (nm : List UInt8) (hn : nm.length ≤ maxLen) :
    Calls Try.prog 12 #[tabV tb, .int .i64 k, .string (bs nm)] w fun e w' => e = .returned (.tuple #[.int .i64 ((findT T k nm).getD 0), .bool (findT T k nm).isSome]) ∧ Below w.heap.size w w' := by
  have HH := Lib.hid h
  clear h
  go_enter Try.func12, Try.ntmps12
  go_wp2_with fail
  refine (dir_any base w tb T p HH.out k hk).mono ?_
  rintro e w1 ⟨rfl, b1⟩
  have H1 := Lib.hid (HH.out.below b1)
  have HB1 := Lib.hid b1
  clear b1
  cases hd : isDirT T k with
  | false =>
    have hf := (dirT_none hd).1 nm
    have HF := Lib.hid hf
    clear hd hf
    go_wp2_with fail
    (try simp only [Exit.inBlock, Exit.then])
    exact bodyPost_ret (results_tmp2 rfl _ _ _) rfl ⟨by rw [HF.out]; rfl, HB1.out⟩
  | true =>
    obtain ⟨i, hf, h2⟩ := dirT_some hd
    have hs := H1.out.s k
    rw [hf] at hs
    obtain ⟨b, hg⟩ : ∃ b, p.g k = some b := Option.isSome_iff_exists.mp hs
    have hi := H1.out.o k b i hg hf
    have c5 := hi.a.cell 5 _ rfl
    rw [if_pos h2] at c5
    have hl := (hi.m h2).look nm hn
    have hr : findT T k nm = i.ents nm := by unfold findT; rw [hf]; simp [h2]
    obtain ⟨r, hrr⟩ : ∃ r, r = i.ents nm := ⟨_, rfl⟩
    rw [← hrr] at hl hr
    have HRR := Lib.hid hr
    rw [hg]
    simp only [ptrV]
    obtain ⟨v, hv⟩ : ∃ v, v = r.getD 0 := ⟨_, rfl⟩
    obtain ⟨q, hq⟩ : ∃ q, q = r.isSome := ⟨_, rfl⟩
    rw [← hv, ← hq] at hl
    have HV := Lib.hid hv
    have HQ := Lib.hid hq
    clear hd hs hi hr hrr hg hf h2 hv hq
    go_wp2_with fail
    (try simp only [Exit.inBlock, Exit.then])
    exact bodyPost_ret (results_tmp2 rfl _ _ _) rfl ⟨by rw [HRR.out, ← HV.out, ← HQ.out]; rfl, HB1.out⟩
theorem up_any (base : Nat) (w : World) (tb : Nat) (T : Tab) (p : Place) (h : TabAt base w tb T p) (k : Int) (hk : (Lit.int .i64 k).wf = true) :
    Calls Try.prog 13 #[tabV tb, .int .i64 k] w fun e w' => e = .returned (.int .i64 (upT T k)) ∧ Below w.heap.size w w' := by
  have HH := Lib.hid h
  clear h
  go_enter Try.func13, Try.ntmps13
  go_wp2_with fail
  refine (dir_any base w tb T p HH.out k hk).mono ?_
  rintro e w1 ⟨rfl, b1⟩
  have H1 := Lib.hid (HH.out.below b1)
  have HB1 := Lib.hid b1
  clear b1
  cases hd : isDirT T k with
  | false =>
    have hf := (dirT_none hd).2
    have HF := Lib.hid hf
    clear hd hf
    go_wp2_with fail
    go_ret
    exact ⟨by rw [HF.out]; rfl, HB1.out⟩
  | true =>
    obtain ⟨i, hf, h2⟩ := dirT_some hd
    have hs := H1.out.s k
    rw [hf] at hs
    obtain ⟨b, hg⟩ : ∃ b, p.g k = some b := Option.isSome_iff_exists.mp hs
    have hi := H1.out.o k b i hg hf
    have c4 := hi.a.cell 4 _ rfl
    have hr : upT T k = i.up := by unfold upT; rw [hf]; simp [h2]
    have HRR := Lib.hid hr
    rw [hg]
    simp only [ptrV]
    clear hd hs hi hr hg hf h2
    go_wp2_with fail
    go_ret
    exact ⟨by rw [HRR.out]; rfl, HB1.out⟩
theorem root_any (base : Nat) (w : World) (tb : Nat) (T : Tab) (p : Place) (h : TabAt base w tb T p) :
    Calls Try.prog 18 #[tabV tb] w fun e w' => e = .returned (.int .i64 1) ∧ w' = w := by
  have HH := Lib.hid h
  clear h
  go_enter Try.func18, Try.ntmps18
  go_wp2_with fail
  refine (isNone_any base w tb T p HH.out).mono ?_
  rintro e w1 ⟨rfl, rfl⟩
  go_wp2_with fail
  go_ret
  exact ⟨rfl, rfl⟩
end Go.Proofs.Ytgifdmfnecombaa
