/- isFile: its closures. -/
import Derived.Test.YtgifdmfnecombaaIl
namespace Go.Proofs.Ytgifdmfnecombaa
open Go.RowKit
set_option maxRecDepth 100000
theorem run_lookup_op {o : Oper} {a : Act} {w : World} (t : TypeId) (m x : Operand) (ok : Bool) (ho : o.op = .lookup t m x ok) (vm vx z : Value) (hm : a.eval m = vm) (hx : a.eval x = vx) (hr : (Instr.lookup t vm vx ok).run Try.prog w = .ok z w) : (execOp a.eval o).run Try.prog w = .ok (.value z) w := by
  unfold execOp
  simp only [ho, hm, hx]
  simp [Sem.run_bind, hr, Result.andThen]
def kindE (i : Ino) : Int := if i.kind = 2 then 7 else if i.kind = 3 then 2 else 0
theorem isFile11_any (base : Nat) (w : World) (tb : Nat) (T : Tab) (p : Place) (h : TabAt base w tb T p) (k : Int) (hk : (Lit.int .i64 k).wf = true) (i : Ino) (hf : T.f k = some i) (b0 b1 : Nat) (h0 : At w b0 26 [tabV tb]) (h1 : At w b1 3 [.int .i64 k]) :
    Calls Try.prog 65 #[.pointer (some ⟨b0, 0, none⟩), .pointer (some ⟨b1, 0, none⟩)] w fun e w' => e = .returned (.int .i64 (kindE i)) ∧ Below w.heap.size w w' := by
  have hs := h.s k
  rw [hf] at hs
  obtain ⟨b, hg⟩ : ∃ b, p.g k = some b := Option.isSome_iff_exists.mp hs
  have HH := Lib.hid h
  have H0 := Lib.hid h0
  have H1 := Lib.hid h1
  obtain ⟨r, hr⟩ : ∃ r : Int, r = kindE i := ⟨_, rfl⟩
  rw [← hr]
  unfold kindE at hr
  have HR := Lib.hid hr
  have HF := Lib.hid hf
  have HGG := Lib.hid hg
  clear h h0 h1 hr hs hf hg
  go_enter Try.func65, Try.ntmps65
  go_wp2_with fail
  have S0 : (fun W => TabAt base W tb T p ∧ At W b0 26 [tabV tb] ∧ At W b1 3 [.int .i64 k]) w.drew := ⟨HH.out.drew, H0.out.drew, H1.out.drew⟩
  have B0 := below_dr w
  refine region_any (fun W => TabAt base W tb T p ∧ At W b0 26 [tabV tb] ∧ At W b1 3 [.int .i64 k]) 10 (by kernel_rfl) ?_
  show wpAnyT _ _ _ _ _ _ _ _ _ w.drew
  generalize w.drew = v0 at S0 B0 ⊢
  refine wpAnyT_takeN (i := 0) (v := tabV tb) rfl (by decide) (by kernel_rfl) (by kernel_rfl) (by kernel_rfl) (fun _ _ _ h => h) (.inl ⟨by kernel_rfl, fun W hS => run_load_one 26 (.tmp 0) rfl ⟨b0, 0, none⟩ (by kernel_rfl) _ (hS.2.1.cell 0 _ rfl) _ Try.underlying26 rfl⟩) S0 ?_
  refine wpAnyT_takeN (i := 1) (v := .pointer (some ⟨tb, 0, none⟩)) rfl (by decide) (by kernel_rfl) (by kernel_rfl) (by kernel_rfl) (fun _ _ _ h => h) (.inl ⟨by kernel_rfl, fun W hS => by kernel_rfl⟩) S0 ?_
  refine wpAnyT_takeN (i := 2) (v := .pointer (some ⟨tb, 0, none⟩)) rfl (by decide) (by kernel_rfl) (by kernel_rfl) (by kernel_rfl) (fun _ _ _ h => h) (.inl ⟨by kernel_rfl, fun W hS => by kernel_rfl⟩) S0 ?_
  refine wpAnyT_takeN (i := 3) (v := .map (some p.bm)) rfl (by decide) (by kernel_rfl) (by kernel_rfl) (by kernel_rfl) (fun _ _ _ h => h) (.inl ⟨by kernel_rfl, fun W hS => run_load_one 57 (.tmp 5) rfl ⟨tb, 0, none⟩ (by kernel_rfl) _ (hS.1.t.cell 0 _ rfl) _ Try.underlying57 rfl⟩) S0 ?_
  refine wpAnyT_takeN (i := 4) (v := .int .i64 k) rfl (by decide) (by kernel_rfl) (by kernel_rfl) (by kernel_rfl) (fun _ _ _ h => h) (.inl ⟨by kernel_rfl, fun W hS => run_load_one 3 (.tmp 1) rfl ⟨b1, 0, none⟩ (by kernel_rfl) _ (hS.2.2.cell 0 _ rfl) _ Try.underlying3 rfl⟩) S0 ?_
  refine wpAnyT_takeN (i := 5) (v := .pointer (some ⟨b, 0, none⟩)) rfl (by decide) (by kernel_rfl) (by kernel_rfl) (by kernel_rfl) (fun _ _ _ h => h) (.inl ⟨by kernel_rfl, fun W hS => run_lookup_op 57 (.tmp 6) (.tmp 7) false rfl (.map (some p.bm)) (.int .i64 k) _ (by kernel_rfl) (by kernel_rfl) (by have hl := hS.1.i.get k hk; rw [HGG.out] at hl; exact hl)⟩) S0 ?_
  refine wpAnyT_takeN (i := 6) (v := .pointer (some ⟨b, 0, none⟩)) rfl (by decide) (by kernel_rfl) (by kernel_rfl) (by kernel_rfl) (fun _ _ _ h => h) (.inl ⟨by kernel_rfl, fun W hS => by kernel_rfl⟩) S0 ?_
  refine wpAnyT_takeN (i := 7) (v := .pointer (some ⟨b, 0, none⟩)) rfl (by decide) (by kernel_rfl) (by kernel_rfl) (by kernel_rfl) (fun _ _ _ h => h) (.inl ⟨by kernel_rfl, fun W hS => by kernel_rfl⟩) S0 ?_
  refine wpAnyT_takeN (i := 8) (v := .pointer (some ⟨b, 0, none⟩)) rfl (by decide) (by kernel_rfl) (by kernel_rfl) (by kernel_rfl) (fun _ _ _ h => h) (.inl ⟨by kernel_rfl, fun W hS => by kernel_rfl⟩) S0 ?_
  refine wpAnyT_takeN (i := 9) (v := .int .i64 i.kind) rfl (by decide) (by kernel_rfl) (by kernel_rfl) (by kernel_rfl) (fun _ _ _ h => h) (.inl ⟨by kernel_rfl, fun W hS => run_load_one 3 (.tmp 11) rfl ⟨b, 0, none⟩ (by kernel_rfl) _ ((hS.1.o k b i HGG.out HF.out).a.cell 0 _ rfl) _ Try.underlying3 rfl⟩) S0 ?_
  refine wpAnyT_done (by kernel_rfl) ?_ _
  simp only [Act.put, List.getElem_toArray, List.getElem_cons_succ, List.getElem_cons_zero, List.setIfInBounds_toArray, List.set_cons_zero, List.set_cons_succ]
  have HB := Lib.hid B0
  clear S0 B0
  by_cases h2 : i.kind = 2
  · have hr : r = 7 := by rw [HR.out, if_pos h2]
    rw [h2]
    have HR2 := Lib.hid hr
    clear hr
    go_wp2_with fail
    go_ret
    exact ⟨by rw [HR2.out]; rfl, HB.out⟩
  have e2 : (i.kind == 2) = false := by simpa using h2
  by_cases h3 : i.kind = 3
  · have hr : r = 2 := by rw [HR.out, if_neg h2, if_pos h3]
    rw [h3]
    have HR2 := Lib.hid hr
    clear hr e2 h2
    go_wp2_with fail
    go_ret
    exact ⟨by rw [HR2.out]; rfl, HB.out⟩
  have e3 : (i.kind == 3) = false := by simpa using h3
  have hr : r = 0 := by rw [HR.out, if_neg h2, if_neg h3]
  have HR2 := Lib.hid hr
  clear hr
  go_wp2_with fail
  go_ret
  exact ⟨by rw [HR2.out]; rfl, HB.out⟩
def fileE (T : Tab) (k : Int) : Int := match T.f k with
  | none => 5
  | some i => kindE i
theorem enter_isFile11 : ∀ (args : Array Value) (w : World), (callFunc 65 args).run Try.prog w = .ok (.enter 65 args) w := enters_of Try.func65 (by kernel_rfl) rfl
theorem isFile1_any (base : Nat) (w : World) (tb : Nat) (T : Tab) (p : Place) (h : TabAt base w tb T p) (k : Int) (hk : (Lit.int .i64 k).wf = true) (b1 b2 : Nat) (h1 : At w b1 26 [tabV tb]) (h2 : At w b2 3 [.int .i64 k]) :
    Calls Try.prog 64 #[.pointer (some ⟨b1, 0, none⟩), .pointer (some ⟨b2, 0, none⟩)] w fun e w' => e = .returned (.int .i64 (fileE T k)) ∧ Below w.heap.size w w' := by
  have c1 := h1.cell 0 _ rfl
  have c2 := h2.cell 0 _ rfl
  have hmf := makes
  have HH := Lib.hid h
  have H1 := Lib.hid h1
  have H2 := Lib.hid h2
  obtain ⟨r, hr⟩ : ∃ r : Int, r = fileE T k := ⟨_, rfl⟩
  rw [← hr]
  have HR := Lib.hid hr
  clear h h1 h2 hr
  go_enter Try.func64, Try.ntmps64
  go_wp2_with fail
  refine (has_mk tb k w).mono ?_
  rintro e w1 ⟨rfl, a1, a2, b⟩
  have A1 := Lib.hid a1
  have A2 := Lib.hid a2
  have HB := Lib.hid b
  clear a1 a2 b
  obtain ⟨x1, hx1⟩ : ∃ x1 : Need, x1 = ⟨67, #[], #[.pointer (some ⟨w.heap.size, 0, none⟩), .pointer (some ⟨w.heap.size + 1, 0, none⟩)], if (T.f k).isSome = true then 0 else 5⟩ := ⟨_, rfl⟩
  obtain ⟨x2, hx2⟩ : ∃ x2 : Need, x2 = ⟨65, #[], #[.pointer (some ⟨b1, 0, none⟩), .pointer (some ⟨b2, 0, none⟩)], fileE T k⟩ := ⟨_, rfl⟩
  have X1 := Lib.hid hx1
  have X2 := Lib.hid hx2
  clear hx1 hx2
  go_wp2_with (refine list_val (op := { dst := some 9, op := _, type := _, pos := _, after := _, guard := _ }) rfl (v := .slice (some ⟨w1.heap.size, 0, none⟩) 2 2) (w' := w1.alloc (.cells #[x1.v, x2.v] 73)) (by rw [X1.out, X2.out]; kernel_rfl) ?_)
  have ba := (Below.refl _ w1).alloc (Nat.le_refl _) (.cells #[x1.v, x2.v] 73)
  have hA := At.new w1 #[x1.v, x2.v] 73
  have hall := HB.out.trans (ba.mono HB.out.size)
  have HALL := Lib.hid hall
  have BA := Lib.hid ba
  obtain ⟨B, hBB⟩ : ∃ B, B = w1.heap.size := ⟨_, rfl⟩
  rw [← hBB] at hA ⊢
  generalize w1.alloc (.cells #[x1.v, x2.v] 73) = w2 at *
  clear hall ba hBB
  refine (first_any B 2 [x1, x2] (by show 2 ≤ 1000; omega) w2 hA (fun j x hj hz => ?_)).mono ?_
  · have hb := fun (w' : World) (b' : Below w2.heap.size w2 w') => HALL.out.trans (b'.mono HALL.out.size)
    match j, hj with
    | 0, hj =>
      cases hj
      rw [X1.out]
      exact ⟨enter_has1, fun w' b' => has1_any base w' tb T p (HH.out.below (hb w' b')) k hk _ _ ((A1.out.below BA.out A1.out.lt).below b' (by have := A1.out.lt; have := BA.out.size; omega)) ((A2.out.below BA.out A2.out.lt).below b' (by have := A2.out.lt; have := BA.out.size; omega))⟩
    | 1, hj =>
      cases hj
      have h0 := hz x1 (by simp)
      rw [X1.out] at h0
      have hsm : (T.f k).isSome = true := by
        cases hq : (T.f k).isSome
        · rw [hq] at h0; simp at h0
        · rfl
      obtain ⟨i, hi⟩ := Option.isSome_iff_exists.mp hsm
      have hfe : fileE T k = kindE i := by unfold fileE; rw [hi]
      rw [X2.out]
      refine ⟨enter_isFile11, fun w' b' => ?_⟩
      have hh := isFile11_any base w' tb T p (HH.out.below (hb w' b')) k hk i hi b1 b2 (H1.out.below (hb w' b') H1.out.lt) (H2.out.below (hb w' b') H2.out.lt)
      rw [← hfe] at hh
      exact hh
  · rintro e w3 ⟨rfl, b3⟩
    have HB3 := Lib.hid (HALL.out.trans (b3.mono HALL.out.size))
    have hf : firstR [x1, x2] = r := by
      rw [X1.out, X2.out, HR.out]
      unfold firstR firstR firstR fileE
      cases T.f k with
      | none => rfl
      | some i => by_cases q : kindE i = 0 <;> simp [q]
    rw [hf]
    clear b3 hf
    go_wp2_with fail
    go_ret
    exact ⟨rfl, HB3.out⟩
end Go.Proofs.Ytgifdmfnecombaa
