/- Steps that are done in order, up to the first error. -/
import Derived.Test.YtcgjkopdnhkdiaaJc
namespace Go.Proofs.Ytcgjkopdnhkdiaa
open Go.RowKit
set_option maxRecDepth 100000
/-- a step: a function, what it is bound to, what it holds -/
structure St where
  f : FuncId
  b : Array Value
  c : Array Value
def St.v (x : St) : Value := .func (.func x.f) x.b x.c
def St.Enters (x : St) : Prop := ∀ (args : Array Value) (w : World), (callFunc x.f args).run Try.prog w = .ok (.enter x.f args) w
/-- what comes of doing them, from worlds that are I: R -/
def Steps (K : World → Prop) : List St → (World → Prop) → (Int → World → Prop) → Prop
  | [], I, R => ∀ w, I w → R 0 w
  | x :: r, I, R => (∀ w, I w → K w) ∧ x.Enters ∧ ∃ J : World → Prop, (∀ w, I w → Calls Try.prog x.f (x.b ++ x.c) w fun e w' => ∃ n : Int, e = .returned (.int .i64 n) ∧ (n ≠ 0 → R n w') ∧ (n = 0 → J w')) ∧ Steps K r J R
set_option maxHeartbeats 2000000 in
theorem inOrder_any (B cap : Nat) (l : List St) (rest : List Value) (hl : l.length ≤ 1000000) (I : World → Prop) (R : Int → World → Prop) (h : Steps (fun w => At w B 34 (l.map St.v ++ rest)) l I R) (w : World) (hI : I w) :
    Calls Try.prog 56 #[.slice (some ⟨B, 0, none⟩) l.length cap] w fun e w' => ∃ n : Int, e = .returned (.int .i64 n) ∧ R n w' := by
  have H := Lib.hid h
  have HI := Lib.hid hI
  clear h hI
  go_enter Try.func56, Try.ntmps56
  go_wp2_with fail
  go_loopw [8] (fun i wx => ∃ (k : Nat) (I' : World → Prop), k ≤ l.length ∧ i = .int .i64 k ∧ I' wx ∧ Steps (fun w => At w B 34 (l.map St.v ++ rest)) (l.drop k) I' R) (fun i _ => l.length - (intOf i).toNat)
  case atStart => exact ⟨0, I, by omega, rfl, HI.out, H.out⟩
  case round =>
    obtain ⟨k, I', hk, rfl, hI, hS⟩ := hrel
    by_cases hlt : k < l.length
    · have hlt' : (k : Int) < l.length := by omega
      obtain ⟨x, hx⟩ : ∃ x, x = l[k]'hlt := ⟨_, rfl⟩
      rw [List.drop_eq_getElem_cons hlt, ← hx] at hS
      obtain ⟨hK, hE, J, hc, hr⟩ := hS
      have hat := (hK _ hI).cell k x.v (by rw [List.getElem?_append_left (by simpa using hlt), List.getElem?_map, List.getElem?_eq_getElem hlt, hx]; rfl)
      have hcall := hc _ hI
      have HC := Lib.hid hcall
      have HR := Lib.hid hr
      obtain ⟨f, b, c⟩ := x
      unfold St.v at hat
      unfold St.Enters at hE
      simp only [] at hat hE
      clear hK hI hc hcall hr hx H HI
      go_wp2_with fail
      refine (HC.out).mono ?_
      rintro e w1 ⟨n, rfl, h1, h2⟩
      have H1 := Lib.hid h1
      have H2 := Lib.hid h2
      clear h1 h2 hat HC
      by_cases hn : n = 0
      · subst hn
        go_wp2
        go_roundw
        case rel => exact ⟨k + 1, J, by omega, by go_num, H2.out (by first | rfl | trivial), HR.out⟩
        case measure => simp [intOf]; omega
      · have hn2 : (n == 0) = false := by simpa using hn
        go_wp2
        go_ret
        exact ⟨n, rfl, H1.out hn⟩
    · obtain rfl : k = l.length := by omega
      rw [List.drop_length] at hS
      have h0 := Lib.hid (hS _ hI)
      clear hS hI H HI
      go_wp2
      go_ret
      exact ⟨0, rfl, h0.out⟩
/-- no steps at all -/
theorem inOrder_none (w : World) (o : Option Addr) (cap : Nat) : Calls Try.prog 56 #[.slice o 0 cap] w fun e w' => e = .returned (.int .i64 0) ∧ w' = w := by
  go_enter Try.func56, Try.ntmps56
  go_wp2_with fail
  go_loopw [8] (fun i wx => i = .int .i64 0 ∧ wx = w) (fun _ _ => 0)
  case atStart => exact ⟨rfl, rfl⟩
  case round =>
    obtain ⟨rfl, rfl⟩ := hrel
    go_wp2
    go_ret
    exact ⟨rfl, rfl⟩
end Go.Proofs.Ytcgjkopdnhkdiaa
