/- What a call needs first: rows of closures. -/
import Derived.Test.YtgifdmfnecombaaIf
namespace Go.Proofs.Ytgifdmfnecombaa
open Go.RowKit
set_option maxRecDepth 100000
/-- a closure without arguments (a method's value bears its receiver ahead), and the error that it answers -/
structure Need where
  f : FuncId
  a : Array Value
  c : Array Value
  r : Int
def Need.v (x : Need) : Value := .func (.func x.f) x.a x.c
def firstR : List Need → Int
  | [] => 0
  | x :: r => if x.r = 0 then firstR r else x.r
theorem firstR_take {l : List Need} {k : Nat} (h : ∀ y ∈ l.take k, y.r = 0) : firstR l = firstR (l.drop k) := by
  induction l generalizing k with
  | nil => simp
  | cons x r ih =>
    cases k with
    | zero => rfl
    | succ k =>
      rw [List.take_succ_cons] at h
      have hx := h x (by simp)
      show (if x.r = 0 then firstR r else x.r) = _
      rw [if_pos hx, List.drop_succ_cons]
      exact ih (fun y hy => h y (by simp [hy]))
set_option maxHeartbeats 4000000 in
theorem first_any (B cap : Nat) (l : List Need) (hl : l.length ≤ 1000) (w : World) (hB : At w B 73 (l.map Need.v))
    (hC : ∀ k x, l[k]? = some x → (∀ y ∈ l.take k, y.r = 0) → (∀ (args : Array Value) (w : World), (callFunc x.f args).run Try.prog w = .ok (.enter x.f args) w) ∧ ∀ w', Below w.heap.size w w' → Calls Try.prog x.f (x.a ++ x.c) w' fun e w'' => e = .returned (.int .i64 x.r) ∧ Below w'.heap.size w' w'') :
    Calls Try.prog 29 #[.slice (some ⟨B, 0, none⟩) l.length cap] w fun e w' => e = .returned (.int .i64 (firstR l)) ∧ Below w.heap.size w w' := by
  have HB := Lib.hid hB
  have HC := Lib.hid hC
  obtain ⟨R, hR⟩ : ∃ R, R = firstR l := ⟨_, rfl⟩
  rw [← hR]
  have HR := Lib.hid hR
  clear hB hC hR
  go_enter Try.func29, Try.ntmps29
  go_wp2_with fail
  go_loopw [8] (fun i wx => ∃ k : Nat, k ≤ l.length ∧ i = .int .i64 k ∧ Below w.heap.size w wx ∧ ∀ y ∈ l.take k, y.r = 0) (fun i _ => l.length - (intOf i).toNat)
  case atStart => exact ⟨0, Nat.zero_le _, rfl, Below.refl _ _, by simp⟩
  case round =>
    obtain ⟨k, hk, rfl, hBe, hall⟩ := hrel
    have HBE := Lib.hid hBe
    have HALL := Lib.hid hall
    have hwz := hBe.size
    by_cases hlt : k < l.length
    · have hlt' : (k : Int) < l.length := by omega
      obtain ⟨x, hx⟩ : ∃ x, l[k]? = some x := ⟨_, List.getElem?_eq_getElem hlt⟩
      obtain ⟨hE, hc⟩ := HC.out k x hx hall
      have hcell := (HB.out.below hBe HB.out.lt).cell k x.v (by rw [List.getElem?_map, hx]; rfl)
      have hcall := Lib.hid (hc wr hBe)
      have HX := Lib.hid hx
      have hdrop : R = if x.r = 0 then firstR (l.drop (k + 1)) else x.r := by
        rw [HR.out, firstR_take hall]
        obtain ⟨i, e⟩ := List.getElem?_eq_some_iff.mp hx
        rw [List.drop_eq_getElem_cons i, e]
        rfl
      have HD := Lib.hid hdrop
      obtain ⟨f, a, c, r⟩ := x
      unfold Need.v at hcell
      simp only [] at hcell hE hcall
      clear hBe hall hc hx hdrop
      go_wp2_with fail
      refine hcall.out.mono ?_
      rintro e w1 ⟨rfl, b1⟩
      have HB1 := Lib.hid (HBE.out.trans (b1.mono hwz))
      clear b1 hcell hcall
      by_cases h0 : r = 0
      · subst h0
        go_wp2_with fail
        go_roundw
        case rel =>
          refine ⟨k + 1, by omega, by go_num, HB1.out, fun y hy => ?_⟩
          rw [List.take_add_one, HX.out, Option.toList_some] at hy
          rcases List.mem_append.mp hy with hy | hy
          · exact HALL.out y hy
          · rw [List.mem_singleton] at hy; subst hy; rfl
        case measure => simp [intOf]; omega
      · have h0' : (r == 0) = false := by simpa using h0
        go_wp2_with fail
        go_ret
        refine ⟨?_, HB1.out⟩
        rw [HD.out, if_neg h0]; rfl
    · obtain rfl : k = l.length := by omega
      clear hBe
      go_wp2_with fail
      go_ret
      refine ⟨?_, HBE.out⟩
      rw [HR.out, firstR_take HALL.out, List.drop_length]; rfl
theorem unless_any (q : Bool) (c : Int) (w : World) : Calls Try.prog 49 #[.bool q, .int .i64 c] w fun e w' => e = .returned (.int .i64 (if q = true then 0 else c)) ∧ w' = w := by
  cases q
  · go_enter Try.func49, Try.ntmps49
    go_wp2_with fail
    go_ret
    exact ⟨rfl, rfl⟩
  · go_enter Try.func49, Try.ntmps49
    go_wp2_with fail
    go_ret
    exact ⟨rfl, rfl⟩
theorem isTable_any (base : Nat) (w : World) (tb : Nat) (T : Tab) (p : Place) (h : TabAt base w tb T p) :
    Calls Try.prog 30 #[tabV tb] w fun e w' => e = .returned (.int .i64 0) ∧ Below w.heap.size w w' := by
  have HH := Lib.hid h
  clear h
  go_enter Try.func30, Try.ntmps30
  go_wp2_with fail
  refine (isNone_any base w tb T p HH.out).mono ?_
  rintro e w1 ⟨rfl, rfl⟩
  go_wp2_with fail
  refine (unless_any true 1 w1).mono ?_
  rintro e w2 ⟨rfl, rfl⟩
  go_wp2_with fail
  go_ret
  exact ⟨rfl, Below.refl _ _⟩
/-- the closure that has() makes: its table and its number lie in blocks of their own -/
theorem has1_any (base : Nat) (w : World) (tb : Nat) (T : Tab) (p : Place) (h : TabAt base w tb T p) (k : Int) (hk : (Lit.int .i64 k).wf = true) (b1 b2 : Nat) (h1 : At w b1 26 [tabV tb]) (h2 : At w b2 3 [.int .i64 k]) :
    Calls Try.prog 67 #[.pointer (some ⟨b1, 0, none⟩), .pointer (some ⟨b2, 0, none⟩)] w fun e w' => e = .returned (.int .i64 (if (T.f k).isSome = true then 0 else 5)) ∧ Below w.heap.size w w' := by
  have c1 := h1.cell 0 _ rfl
  have c2 := h2.cell 0 _ rfl
  have HH := Lib.hid h
  obtain ⟨r, hr⟩ : ∃ r : Int, r = if (T.f k).isSome = true then 0 else 5 := ⟨_, rfl⟩
  rw [← hr]
  have HR := Lib.hid hr
  clear h h1 h2 hr
  go_enter Try.func67, Try.ntmps67
  go_wp2_with fail
  refine (at_any base w tb T p HH.out k hk).mono ?_
  rintro e w1 ⟨rfl, rfl⟩
  go_wp2_with fail
  refine (unless_any (T.f k).isSome 5 w1).mono ?_
  rintro e w2 ⟨rfl, rfl⟩
  rw [← HR.out]
  go_wp2_with fail
  go_ret
  exact ⟨rfl, Below.refl _ _⟩
end Go.Proofs.Ytgifdmfnecombaa
