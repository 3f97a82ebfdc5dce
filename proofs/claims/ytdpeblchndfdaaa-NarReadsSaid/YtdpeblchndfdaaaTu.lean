/- Whether a node may be: texts, names, lists of closures. -/
import Derived.Test.YtdpeblchndfdaaaTt
import Derived.Lib.IndexAny
namespace Go.Proofs.Ytdpeblchndfdaaa
open Go.RowKit
set_option maxRecDepth 100000
/-- a closure without arguments, and what it answers -/
structure Cl where
  f : FuncId
  c : Array Value
  r : Bool
def Cl.v (x : Cl) : Value := .func (.func x.f) #[] x.c
set_option maxHeartbeats 4000000 in
theorem all_any (B cap : Nat) (l : List Cl) (hl : l.length ≤ 1000) (w : World) (hB : At w B 29 (l.map Cl.v))
    (hC : ∀ x ∈ l, (∀ (args : Array Value) (w : World), (callFunc x.f args).run Try.prog w = .ok (.enter x.f args) w) ∧ ∀ w', Below w.heap.size w w' → Calls Try.prog x.f x.c w' fun e w'' => e = .returned (.bool x.r) ∧ Below w'.heap.size w' w'') :
    Calls Try.prog 67 #[.slice (some ⟨B, 0, none⟩) l.length cap] w fun e w' => e = .returned (.bool (l.all (·.r))) ∧ Below w.heap.size w w' := by
  have HB := Lib.hid hB
  have HC := Lib.hid hC
  obtain ⟨R, hR⟩ : ∃ R, R = l.all (·.r) := ⟨_, rfl⟩
  rw [← hR]
  have HR := Lib.hid hR
  clear hB hC hR
  go_enter Try.func67, Try.ntmps67
  go_wp2_with fail
  go_loopw [7] (fun i wx => ∃ k : Nat, k ≤ l.length ∧ i = .int .i64 k ∧ Below w.heap.size w wx ∧ (l.take k).all (·.r) = true) (fun i _ => l.length - (intOf i).toNat)
  case atStart => exact ⟨0, Nat.zero_le _, rfl, Below.refl _ _, by simp⟩
  case round =>
    obtain ⟨k, hk, rfl, hBe, hall⟩ := hrel
    have HBE := Lib.hid hBe
    have HALL := Lib.hid hall
    have hwz := hBe.size
    by_cases hlt : k < l.length
    · have hlt' : (k : Int) < l.length := by omega
      obtain ⟨x, hx⟩ : ∃ x, l[k]? = some x := ⟨_, List.getElem?_eq_getElem hlt⟩
      obtain ⟨hE, hc⟩ := HC.out x (List.mem_of_getElem? hx)
      have hcell := (HB.out.below hBe HB.out.lt).cell k x.v (by rw [List.getElem?_map, hx]; rfl)
      have hcall := Lib.hid (hc wr hBe)
      have HX := Lib.hid hx
      obtain ⟨f, c, r⟩ := x
      unfold Cl.v at hcell
      simp only [] at hcell hE hcall
      clear hBe hall hc hx
      go_wp2_with fail
      refine hcall.out.mono ?_
      rintro e w1 ⟨rfl, b1⟩
      have HB1 := Lib.hid (HBE.out.trans (b1.mono hwz))
      clear b1 hcell hcall
      cases r
      · go_wp2_with fail
        go_ret
        refine ⟨?_, HB1.out⟩
        have : l.all (·.r) = false := by rw [List.all_eq_false]; exact ⟨_, List.mem_of_getElem? HX.out, by simp⟩
        rw [HR.out, this]; rfl
      · go_wp2_with fail
        go_roundw
        case rel => exact ⟨k + 1, by omega, by go_num, HB1.out, by rw [List.take_add_one, HX.out, List.all_append, HALL.out]; rfl⟩
        case measure => simp [intOf]; omega
    · obtain rfl : k = l.length := by omega
      clear hBe hall
      go_wp2_with fail
      go_ret
      refine ⟨?_, HBE.out⟩
      have := HALL.out
      rw [List.take_length] at this
      rw [HR.out, this]; rfl
def textOk (s : List UInt8) (most : Nat) : Bool := !s.isEmpty && (decide (s.length ≤ most) && !s.contains 0)
theorem contains_any (s : List UInt8) (c : UInt8) (w : World) : Calls Try.prog 89 #[.string (bs s), .string ⟨#[c]⟩] w fun e w' => e = .returned (.bool (s.contains c)) ∧ w' = w := by
  refine (Try.strings_Contains_one (bs s) c w).mono ?_
  rintro e w' ⟨rfl, rfl⟩
  refine ⟨?_, rfl⟩
  rw [show (bs s).data.toList = s from data_bs s, ← Lib.contains_iff_indexByte]
theorem isText_any (s : List UInt8) (most : Nat) (w : World) : Calls Try.prog 71 #[.string (bs s), .int .i64 (most : Int)] w fun e w' => e = .returned (.bool (textOk s most)) ∧ w' = w := by
  obtain ⟨R, hR⟩ : ∃ R, R = textOk s most := ⟨_, rfl⟩
  rw [← hR]
  unfold textOk at hR
  have HR := Lib.hid hR
  clear hR
  go_enter Try.func71, Try.ntmps71
  by_cases h0 : s = []
  · subst h0
    go_wp2_with fail
    go_ret
    exact ⟨by rw [HR.out]; rfl, rfl⟩
  · have hs3 : s.isEmpty = false := by simpa using h0
    have hs2 : (s == []) = false := by simpa using h0
    by_cases h1 : s.length ≤ most
    · have h1' : (s.length : Int) ≤ most := by omega
      go_wp2_with fail
      refine (contains_any s 0 w).mono ?_
      rintro e w1 ⟨rfl, rfl⟩
      go_wp2_with fail
      go_ret
      refine ⟨?_, rfl⟩
      rw [HR.out, hs3]
      simp [h1]
    · have h1' : ¬ (s.length : Int) ≤ most := by omega
      go_wp2_with fail
      go_ret
      refine ⟨?_, rfl⟩
      rw [HR.out, hs3]
      simp [h1]
def nameOk (s : List UInt8) : Bool := textOk s 56 && (!s.contains 47 && (!(s == [46]) && !(s == [46, 46])))
theorem nameMayBe_any (s : List UInt8) (w : World) : Calls Try.prog 87 #[.string (bs s)] w fun e w' => e = .returned (.bool (nameOk s)) ∧ w' = w := by
  obtain ⟨R, hR⟩ : ∃ R, R = nameOk s := ⟨_, rfl⟩
  rw [← hR]
  unfold nameOk at hR
  have HR := Lib.hid hR
  clear hR
  go_enter Try.func87, Try.ntmps87
  go_wp2_with fail
  refine (isText_any s 56 w).mono ?_
  rintro e w1 ⟨rfl, rfl⟩
  cases h1 : textOk s 56
  · go_wp2_with fail
    go_ret
    exact ⟨by rw [HR.out, h1]; rfl, rfl⟩
  · go_wp2_with fail
    refine (contains_any s 47 w1).mono ?_
    rintro e w2 ⟨rfl, rfl⟩
    cases h2 : s.contains 47
    · by_cases h3 : s = [46]
      · subst h3
        go_wp2_with fail
        go_ret
        exact ⟨by rw [HR.out]; rfl, rfl⟩
      · have h3' : (s == [46]) = false := by simpa using h3
        go_wp2_with fail
        go_ret
        refine ⟨?_, rfl⟩
        rw [HR.out, h1, h2, h3']
        cases hq : (s == [46, 46]) <;> rfl
    · go_wp2_with fail
      go_ret
      exact ⟨by rw [HR.out, h1, h2]; rfl, rfl⟩
end Go.Proofs.Ytdpeblchndfdaaa
