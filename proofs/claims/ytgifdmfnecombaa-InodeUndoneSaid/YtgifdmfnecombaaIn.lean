/- hasRoom: its closure. -/
import Derived.Test.YtgifdmfnecombaaIm
namespace Go.Proofs.Ytgifdmfnecombaa
open Go.RowKit
set_option maxRecDepth 100000
/-- sizes that are far from the words' ends -/
structure Fair (T : Tab) : Prop where
  c : T.cnt ≤ 1000000000000
  b : T.bytes ≤ 1000000000000
  i : T.qi ≤ 1000000000000
  q : T.qb ≤ 1000000000000
theorem wrap_small {m : Int} (h1 : -1000000000000000 ≤ m) (h2 : m ≤ 1000000000000000) : IntKind.i64.wrap m = m := by
  simp only [IntKind.wrap, IntKind.bits, IntKind.signed]; simp; omega
section
variable {o : Oper} {a : Act} {w : World}
theorem sub3_op (x y : Operand) (ho : o.op = .binOp .sub 3 x y 3) (m n : Int) (hx : a.eval x = .int .i64 m) (hy : a.eval y = .int .i64 n) (hr : IntKind.i64.wrap (m - n) = m - n) : (execOp a.eval o).run Try.prog w = .ok (.value (.int .i64 (m - n))) w := by
  unfold execOp
  simp only [ho, hx, hy]
  simp [go_sem, run_underlying Try.underlying3, hr]
theorem leq3_op (x y : Operand) (ho : o.op = .binOp .leq 3 x y 3) (m n : Int) (q : Bool) (hx : a.eval x = .int .i64 m) (hy : a.eval y = .int .i64 n) (hr : decide (m ≤ n) = q) : (execOp a.eval o).run Try.prog w = .ok (.value (.bool q)) w := by
  subst hr
  unfold execOp
  simp only [ho, hx, hy]
  simp [go_sem, run_underlying Try.underlying3]
end
def room (T : Tab) (ni nb : Int) : Bool := decide (ni ≤ (T.qi : Int) - (T.cnt : Int)) && decide (nb ≤ (T.qb : Int) - (T.bytes : Int))
set_option maxHeartbeats 4000000 in
theorem hasRoom1_any (base : Nat) (w : World) (tb : Nat) (T : Tab) (p : Place) (h : TabAt base w tb T p) (hf : Fair T) (ni nb : Int) (b0 b1 b2 : Nat) (h0 : At w b0 3 [.int .i64 ni]) (h1 : At w b1 26 [tabV tb]) (h2 : At w b2 3 [.int .i64 nb]) :
    Calls Try.prog 58 #[.pointer (some ⟨b0, 0, none⟩), .pointer (some ⟨b1, 0, none⟩), .pointer (some ⟨b2, 0, none⟩)] w fun e w' => e = .returned (.int .i64 (if room T ni nb = true then 0 else 10)) ∧ Below w.heap.size w w' := by
  have hw1 : IntKind.i64.wrap ((T.qi : Int) - (T.cnt : Int)) = (T.qi : Int) - (T.cnt : Int) := by have := hf.c; have := hf.i; exact wrap_small (by omega) (by omega)
  have hw2 : IntKind.i64.wrap ((T.qb : Int) - (T.bytes : Int)) = (T.qb : Int) - (T.bytes : Int) := by have := hf.b; have := hf.q; exact wrap_small (by omega) (by omega)
  have HH := Lib.hid h
  have H0 := Lib.hid h0
  have H1 := Lib.hid h1
  have H2 := Lib.hid h2
  obtain ⟨r, hr⟩ : ∃ r : Int, r = if room T ni nb = true then 0 else 10 := ⟨_, rfl⟩
  rw [← hr]
  have HR := Lib.hid hr
  have W1 := Lib.hid hw1
  have W2 := Lib.hid hw2
  clear h h0 h1 h2 hr hw1 hw2 hf
  go_enter Try.func58, Try.ntmps58
  go_wp2_with fail
  have S0 : (fun W => TabAt base W tb T p ∧ At W b0 3 [.int .i64 ni] ∧ At W b1 26 [tabV tb] ∧ At W b2 3 [.int .i64 nb]) w.drew := ⟨HH.out.drew, H0.out.drew, H1.out.drew, H2.out.drew⟩
  have B0 := below_dr w
  refine region_any (fun W => TabAt base W tb T p ∧ At W b0 3 [.int .i64 ni] ∧ At W b1 26 [tabV tb] ∧ At W b2 3 [.int .i64 nb]) 28 (by kernel_rfl) ?_
  show wpAnyT _ _ _ _ _ _ _ _ _ w.drew
  generalize w.drew = v0 at S0 B0 ⊢
  obtain ⟨q1, hq1⟩ : ∃ q1, decide (ni ≤ (T.qi : Int) - (T.cnt : Int)) = q1 := ⟨_, rfl⟩
  obtain ⟨q2, hq2⟩ : ∃ q2, decide (nb ≤ (T.qb : Int) - (T.bytes : Int)) = q2 := ⟨_, rfl⟩
  refine wpAnyT_takeN (i := 0) (v := .int .i64 ni) rfl (by decide) (by kernel_rfl) (by kernel_rfl) (by kernel_rfl) (fun _ _ _ h => h) (.inl ⟨by kernel_rfl, fun W hS => run_load_one 3 (.tmp 0) rfl ⟨b0, 0, none⟩ (by kernel_rfl) _ (hS.2.1.cell 0 _ rfl) _ Try.underlying3 rfl⟩) S0 ?_
  refine wpAnyT_takeN (i := 1) (v := tabV tb) rfl (by decide) (by kernel_rfl) (by kernel_rfl) (by kernel_rfl) (fun _ _ _ h => h) (.inl ⟨by kernel_rfl, fun W hS => run_load_one 26 (.tmp 1) rfl ⟨b1, 0, none⟩ (by kernel_rfl) _ (hS.2.2.1.cell 0 _ rfl) _ Try.underlying26 rfl⟩) S0 ?_
  refine wpAnyT_takeN (i := 2) (v := .pointer (some ⟨tb, 0, none⟩)) rfl (by decide) (by kernel_rfl) (by kernel_rfl) (by kernel_rfl) (fun _ _ _ h => h) (.inl ⟨by kernel_rfl, fun W hS => by kernel_rfl⟩) S0 ?_
  refine wpAnyT_takeN (i := 3) (v := .pointer (some ⟨tb, 3, none⟩)) rfl (by decide) (by kernel_rfl) (by kernel_rfl) (by kernel_rfl) (fun _ _ _ h => h) (.inl ⟨by kernel_rfl, fun W hS => by kernel_rfl⟩) S0 ?_
  refine wpAnyT_takeN (i := 4) (v := .pointer (some ⟨tb, 3, none⟩)) rfl (by decide) (by kernel_rfl) (by kernel_rfl) (by kernel_rfl) (fun _ _ _ h => h) (.inl ⟨by kernel_rfl, fun W hS => by kernel_rfl⟩) S0 ?_
  refine wpAnyT_takeN (i := 5) (v := .int .i64 (T.qi : Int)) rfl (by decide) (by kernel_rfl) (by kernel_rfl) (by kernel_rfl) (fun _ _ _ h => h) (.inl ⟨by kernel_rfl, fun W hS => run_load_one 3 (.tmp 9) rfl ⟨tb, 3, none⟩ (by kernel_rfl) _ (hS.1.t.cell 3 _ rfl) _ Try.underlying3 rfl⟩) S0 ?_
  refine wpAnyT_takeN (i := 6) (v := tabV tb) rfl (by decide) (by kernel_rfl) (by kernel_rfl) (by kernel_rfl) (fun _ _ _ h => h) (.inl ⟨by kernel_rfl, fun W hS => run_load_one 26 (.tmp 1) rfl ⟨b1, 0, none⟩ (by kernel_rfl) _ (hS.2.2.1.cell 0 _ rfl) _ Try.underlying26 rfl⟩) S0 ?_
  refine wpAnyT_takeN (i := 7) (v := .pointer (some ⟨tb, 0, none⟩)) rfl (by decide) (by kernel_rfl) (by kernel_rfl) (by kernel_rfl) (fun _ _ _ h => h) (.inl ⟨by kernel_rfl, fun W hS => by kernel_rfl⟩) S0 ?_
  refine wpAnyT_takeN (i := 8) (v := .pointer (some ⟨tb, 0, none⟩)) rfl (by decide) (by kernel_rfl) (by kernel_rfl) (by kernel_rfl) (fun _ _ _ h => h) (.inl ⟨by kernel_rfl, fun W hS => by kernel_rfl⟩) S0 ?_
  refine wpAnyT_takeN (i := 9) (v := .map (some p.bm)) rfl (by decide) (by kernel_rfl) (by kernel_rfl) (by kernel_rfl) (fun _ _ _ h => h) (.inl ⟨by kernel_rfl, fun W hS => run_load_one 57 (.tmp 13) rfl ⟨tb, 0, none⟩ (by kernel_rfl) _ (hS.1.t.cell 0 _ rfl) _ Try.underlying57 rfl⟩) S0 ?_
  refine wpAnyT_takeN (i := 10) (v := .int .i64 (T.cnt : Int)) rfl (by decide) (by kernel_rfl) (by kernel_rfl) (by kernel_rfl) (fun _ _ _ h => h) (.inl ⟨by kernel_rfl, fun W hS => run_len_map (.tmp 14) 57 rfl (.map (some p.bm)) _ (by kernel_rfl) (fun ty => hS.1.i.len ty)⟩) S0 ?_
  refine wpAnyT_takeN (i := 11) (v := .int .i64 ((T.qi : Int) - (T.cnt : Int))) rfl (by decide) (by kernel_rfl) (by kernel_rfl) (by kernel_rfl) (fun _ _ _ h => h) (.inl ⟨by kernel_rfl, fun W hS => sub3_op (.tmp 10) (.tmp 15) rfl _ _ (by kernel_rfl) (by kernel_rfl) W1.out⟩) S0 ?_
  refine wpAnyT_takeN (i := 12) (v := .bool q1) rfl (by decide) (by kernel_rfl) (by kernel_rfl) (by kernel_rfl) (fun _ _ _ h => h) (.inl ⟨by kernel_rfl, fun W hS => leq3_op (.tmp 5) (.tmp 16) rfl _ _ q1 (by kernel_rfl) (by kernel_rfl) hq1⟩) S0 ?_
  refine wpAnyT_takeN (i := 13) (v := .bool q1) rfl (by decide) (by kernel_rfl) (by kernel_rfl) (by kernel_rfl) (fun _ _ _ h => h) (.inl ⟨by kernel_rfl, fun W hS => by kernel_rfl⟩) S0 ?_
  have HQ1 := Lib.hid hq1
  have HQ2 := Lib.hid hq2
  cases q1 with
  | false =>
    refine wpAnyT_takeN (i := 14) (v := undef) rfl (by decide) (by kernel_rfl) (by kernel_rfl) (by kernel_rfl) (fun _ _ _ h => h) (.inr ⟨by kernel_rfl, rfl⟩) S0 ?_
    refine wpAnyT_takeN (i := 15) (v := undef) rfl (by decide) (by kernel_rfl) (by kernel_rfl) (by kernel_rfl) (fun _ _ _ h => h) (.inr ⟨by kernel_rfl, rfl⟩) S0 ?_
    refine wpAnyT_takeN (i := 16) (v := undef) rfl (by decide) (by kernel_rfl) (by kernel_rfl) (by kernel_rfl) (fun _ _ _ h => h) (.inr ⟨by kernel_rfl, rfl⟩) S0 ?_
    refine wpAnyT_takeN (i := 17) (v := undef) rfl (by decide) (by kernel_rfl) (by kernel_rfl) (by kernel_rfl) (fun _ _ _ h => h) (.inr ⟨by kernel_rfl, rfl⟩) S0 ?_
    refine wpAnyT_takeN (i := 18) (v := undef) rfl (by decide) (by kernel_rfl) (by kernel_rfl) (by kernel_rfl) (fun _ _ _ h => h) (.inr ⟨by kernel_rfl, rfl⟩) S0 ?_
    refine wpAnyT_takeN (i := 19) (v := undef) rfl (by decide) (by kernel_rfl) (by kernel_rfl) (by kernel_rfl) (fun _ _ _ h => h) (.inr ⟨by kernel_rfl, rfl⟩) S0 ?_
    refine wpAnyT_takeN (i := 20) (v := undef) rfl (by decide) (by kernel_rfl) (by kernel_rfl) (by kernel_rfl) (fun _ _ _ h => h) (.inr ⟨by kernel_rfl, rfl⟩) S0 ?_
    refine wpAnyT_takeN (i := 21) (v := undef) rfl (by decide) (by kernel_rfl) (by kernel_rfl) (by kernel_rfl) (fun _ _ _ h => h) (.inr ⟨by kernel_rfl, rfl⟩) S0 ?_
    refine wpAnyT_takeN (i := 22) (v := undef) rfl (by decide) (by kernel_rfl) (by kernel_rfl) (by kernel_rfl) (fun _ _ _ h => h) (.inr ⟨by kernel_rfl, rfl⟩) S0 ?_
    refine wpAnyT_takeN (i := 23) (v := undef) rfl (by decide) (by kernel_rfl) (by kernel_rfl) (by kernel_rfl) (fun _ _ _ h => h) (.inr ⟨by kernel_rfl, rfl⟩) S0 ?_
    refine wpAnyT_takeN (i := 24) (v := undef) rfl (by decide) (by kernel_rfl) (by kernel_rfl) (by kernel_rfl) (fun _ _ _ h => h) (.inr ⟨by kernel_rfl, rfl⟩) S0 ?_
    refine wpAnyT_takeN (i := 25) (v := undef) rfl (by decide) (by kernel_rfl) (by kernel_rfl) (by kernel_rfl) (fun _ _ _ h => h) (.inr ⟨by kernel_rfl, rfl⟩) S0 ?_
    refine wpAnyT_takeN (i := 26) (v := .bool false) rfl (by decide) (by kernel_rfl) (by kernel_rfl) (by kernel_rfl) (fun _ _ _ h => h) (.inl ⟨by kernel_rfl, fun W hS => by kernel_rfl⟩) S0 ?_
    refine wpAnyT_takeN (i := 27) (v := .bool false) rfl (by decide) (by kernel_rfl) (by kernel_rfl) (by kernel_rfl) (fun _ _ _ h => h) (.inl ⟨by kernel_rfl, fun W hS => by kernel_rfl⟩) S0 ?_
    refine wpAnyT_done (by kernel_rfl) ?_ _
    simp only [Act.put, List.getElem_toArray, List.getElem_cons_succ, List.getElem_cons_zero, List.setIfInBounds_toArray, List.set_cons_zero, List.set_cons_succ]
    have HB := Lib.hid B0
    have hrr : room T ni nb = false := by unfold room; rw [HQ1.out, HQ2.out]; rfl
    have HRR := Lib.hid hrr
    clear S0 B0 hq1 hq2 hrr
    go_wp2_with fail
    refine (unless_any false 10 v0).mono ?_
    rintro e w2 ⟨rfl, rfl⟩
    have hr2 := HR.out
    rw [HRR.out] at hr2
    rw [← hr2]
    clear hr2
    go_wp2_with fail
    go_ret
    exact ⟨rfl, HB.out⟩
  | true =>
    refine wpAnyT_takeN (i := 14) (v := .int .i64 nb) rfl (by decide) (by kernel_rfl) (by kernel_rfl) (by kernel_rfl) (fun _ _ _ h => h) (.inl ⟨by kernel_rfl, fun W hS => run_load_one 3 (.tmp 2) rfl ⟨b2, 0, none⟩ (by kernel_rfl) _ (hS.2.2.2.cell 0 _ rfl) _ Try.underlying3 rfl⟩) S0 ?_
    refine wpAnyT_takeN (i := 15) (v := tabV tb) rfl (by decide) (by kernel_rfl) (by kernel_rfl) (by kernel_rfl) (fun _ _ _ h => h) (.inl ⟨by kernel_rfl, fun W hS => run_load_one 26 (.tmp 1) rfl ⟨b1, 0, none⟩ (by kernel_rfl) _ (hS.2.2.1.cell 0 _ rfl) _ Try.underlying26 rfl⟩) S0 ?_
    refine wpAnyT_takeN (i := 16) (v := .pointer (some ⟨tb, 0, none⟩)) rfl (by decide) (by kernel_rfl) (by kernel_rfl) (by kernel_rfl) (fun _ _ _ h => h) (.inl ⟨by kernel_rfl, fun W hS => by kernel_rfl⟩) S0 ?_
    refine wpAnyT_takeN (i := 17) (v := .pointer (some ⟨tb, 3, none⟩)) rfl (by decide) (by kernel_rfl) (by kernel_rfl) (by kernel_rfl) (fun _ _ _ h => h) (.inl ⟨by kernel_rfl, fun W hS => by kernel_rfl⟩) S0 ?_
    refine wpAnyT_takeN (i := 18) (v := .pointer (some ⟨tb, 4, none⟩)) rfl (by decide) (by kernel_rfl) (by kernel_rfl) (by kernel_rfl) (fun _ _ _ h => h) (.inl ⟨by kernel_rfl, fun W hS => by kernel_rfl⟩) S0 ?_
    refine wpAnyT_takeN (i := 19) (v := .int .i64 (T.qb : Int)) rfl (by decide) (by kernel_rfl) (by kernel_rfl) (by kernel_rfl) (fun _ _ _ h => h) (.inl ⟨by kernel_rfl, fun W hS => run_load_one 3 (.tmp 23) rfl ⟨tb, 4, none⟩ (by kernel_rfl) _ (hS.1.t.cell 4 _ rfl) _ Try.underlying3 rfl⟩) S0 ?_
    refine wpAnyT_takeN (i := 20) (v := tabV tb) rfl (by decide) (by kernel_rfl) (by kernel_rfl) (by kernel_rfl) (fun _ _ _ h => h) (.inl ⟨by kernel_rfl, fun W hS => run_load_one 26 (.tmp 1) rfl ⟨b1, 0, none⟩ (by kernel_rfl) _ (hS.2.2.1.cell 0 _ rfl) _ Try.underlying26 rfl⟩) S0 ?_
    refine wpAnyT_takeN (i := 21) (v := .pointer (some ⟨tb, 0, none⟩)) rfl (by decide) (by kernel_rfl) (by kernel_rfl) (by kernel_rfl) (fun _ _ _ h => h) (.inl ⟨by kernel_rfl, fun W hS => by kernel_rfl⟩) S0 ?_
    refine wpAnyT_takeN (i := 22) (v := .pointer (some ⟨tb, 2, none⟩)) rfl (by decide) (by kernel_rfl) (by kernel_rfl) (by kernel_rfl) (fun _ _ _ h => h) (.inl ⟨by kernel_rfl, fun W hS => by kernel_rfl⟩) S0 ?_
    refine wpAnyT_takeN (i := 23) (v := .int .i64 (T.bytes : Int)) rfl (by decide) (by kernel_rfl) (by kernel_rfl) (by kernel_rfl) (fun _ _ _ h => h) (.inl ⟨by kernel_rfl, fun W hS => run_load_one 3 (.tmp 27) rfl ⟨tb, 2, none⟩ (by kernel_rfl) _ (hS.1.t.cell 2 _ rfl) _ Try.underlying3 rfl⟩) S0 ?_
    refine wpAnyT_takeN (i := 24) (v := .int .i64 ((T.qb : Int) - (T.bytes : Int))) rfl (by decide) (by kernel_rfl) (by kernel_rfl) (by kernel_rfl) (fun _ _ _ h => h) (.inl ⟨by kernel_rfl, fun W hS => sub3_op (.tmp 24) (.tmp 28) rfl _ _ (by kernel_rfl) (by kernel_rfl) W2.out⟩) S0 ?_
    refine wpAnyT_takeN (i := 25) (v := .bool q2) rfl (by decide) (by kernel_rfl) (by kernel_rfl) (by kernel_rfl) (fun _ _ _ h => h) (.inl ⟨by kernel_rfl, fun W hS => leq3_op (.tmp 19) (.tmp 29) rfl _ _ q2 (by kernel_rfl) (by kernel_rfl) HQ2.out⟩) S0 ?_
    refine wpAnyT_takeN (i := 26) (v := .bool q2) rfl (by decide) (by kernel_rfl) (by kernel_rfl) (by kernel_rfl) (fun _ _ _ h => h) (.inl ⟨by kernel_rfl, fun W hS => by kernel_rfl⟩) S0 ?_
    refine wpAnyT_takeN (i := 27) (v := .bool q2) rfl (by decide) (by kernel_rfl) (by kernel_rfl) (by kernel_rfl) (fun _ _ _ h => h) (.inl ⟨by kernel_rfl, fun W hS => by kernel_rfl⟩) S0 ?_
    refine wpAnyT_done (by kernel_rfl) ?_ _
    simp only [Act.put, List.getElem_toArray, List.getElem_cons_succ, List.getElem_cons_zero, List.setIfInBounds_toArray, List.set_cons_zero, List.set_cons_succ]
    have HB := Lib.hid B0
    have hrr : room T ni nb = q2 := by unfold room; rw [HQ1.out, HQ2.out]; rfl
    have HRR := Lib.hid hrr
    clear S0 B0 hq1 hq2 hrr
    go_wp2_with fail
    refine (unless_any q2 10 v0).mono ?_
    rintro e w2 ⟨rfl, rfl⟩
    have hr2 := HR.out
    rw [HRR.out] at hr2
    rw [← hr2]
    clear hr2
    go_wp2_with fail
    go_ret
    exact ⟨rfl, HB.out⟩
end Go.Proofs.Ytgifdmfnecombaa
