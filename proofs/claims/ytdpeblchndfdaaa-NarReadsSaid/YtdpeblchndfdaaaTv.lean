/- mayBe, Check. -/
import Derived.Test.YtdpeblchndfdaaaTu
namespace Go.Proofs.Ytdpeblchndfdaaa
open Go.RowKit
set_option maxRecDepth 100000
theorem mb1_any (B : Nat) (m : Nd) (ao : Option Addr) (cap : Nat) (w : World) (hB : At w B 24 (m.cells ao cap)) : Calls Try.prog 64 #[.pointer (some ⟨B, 0, none⟩)] w fun e w' => e = .returned (.bool (!m.exec)) ∧ Below w.heap.size w w' := by
  have c := hB.cell 2 (.bool m.exec) rfl
  go_enter Try.func64, Try.ntmps64
  go_wp2
  go_ret
  exact ⟨rfl, Below.refl _ _⟩
theorem mb2_any (B : Nat) (m : Nd) (ao : Option Addr) (cap : Nat) (w : World) (hB : At w B 24 (m.cells ao cap)) : Calls Try.prog 65 #[.pointer (some ⟨B, 0, none⟩)] w fun e w' => e = .returned (.bool m.data.isEmpty) ∧ Below w.heap.size w w' := by
  have c := hB.cell 3 (.string (bs m.data)) rfl
  obtain ⟨d, hd⟩ : ∃ d, d = m.data := ⟨_, rfl⟩
  rw [← hd] at c ⊢
  clear hd
  go_enter Try.func65, Try.ntmps65
  by_cases h : d = []
  · subst h
    go_wp2
    go_ret
    exact ⟨rfl, Below.refl _ _⟩
  · have h1 : (d == []) = false := by simpa using h
    have h2 : d.isEmpty = false := by simpa using h
    go_wp2
    go_ret
    exact ⟨by rw [h2]; rfl, Below.refl _ _⟩
theorem mb3_any (B : Nat) (m : Nd) (ao : Option Addr) (cap : Nat) (w : World) (hB : At w B 24 (m.cells ao cap)) : Calls Try.prog 66 #[.pointer (some ⟨B, 0, none⟩)] w fun e w' => e = .returned (.bool m.kids.isEmpty) ∧ Below w.heap.size w w' := by
  have c := hB.cell 4 (.slice ao m.kids.length cap) rfl
  obtain ⟨k, hk⟩ : ∃ k, k = m.kids := ⟨_, rfl⟩
  rw [← hk] at c ⊢
  clear hk
  go_enter Try.func66, Try.ntmps66
  cases k with
  | nil =>
    go_wp2
    go_ret
    exact ⟨rfl, Below.refl _ _⟩
  | cons x r =>
    have h1 : (((x :: r).length : Int) == 0) = false := by simp; omega
    generalize (x :: r).length = q at *
    go_wp2
    go_ret
    exact ⟨rfl, Below.refl _ _⟩
theorem mb5_any (B : Nat) (m : Nd) (ao : Option Addr) (cap : Nat) (w : World) (hB : At w B 24 (m.cells ao cap)) : Calls Try.prog 70 #[.pointer (some ⟨B, 0, none⟩)] w fun e w' => e = .returned (.bool (textOk m.data 255)) ∧ Below w.heap.size w w' := by
  have c := hB.cell 3 (.string (bs m.data)) rfl
  go_enter Try.func70, Try.ntmps70
  go_wp2_with fail
  refine (isText_any m.data 255 w).mono ?_
  rintro e w1 ⟨rfl, rfl⟩
  go_wp2
  go_ret
  exact ⟨rfl, Below.refl _ _⟩
theorem km2_any (B : Nat) (m : Nd) (ao : Option Addr) (cap : Nat) (w : World) (hB : At w B 24 (m.cells ao cap)) : Calls Try.prog 86 #[.pointer (some ⟨B, 0, none⟩)] w fun e w' => e = .returned (.bool (nameOk m.name)) ∧ Below w.heap.size w w' := by
  have c := hB.cell 0 (.string (bs m.name)) rfl
  go_enter Try.func86, Try.ntmps86
  go_wp2_with fail
  refine (nameMayBe_any m.name w).mono ?_
  rintro e w1 ⟨rfl, rfl⟩
  go_wp2
  go_ret
  exact ⟨rfl, Below.refl _ _⟩
/-- does the kid's name rise behind the one ahead of it? -/
theorem km1_any (I K B : Nat) (i : Nat) (m : Nd) (ao bo : Option Addr) (cap bc : Nat) (n : Nd) (h : Nat) (w : World) (hI : At w I 3 [.int .i64 (i : Int)]) (hK : At w K 22 [.slice bo n.kids.length bc]) (hB : At w B 24 (m.cells ao cap)) (hH : Has any_ w (h + 1) n bo) (hi : n.kids[i]? = some m) :
    Calls Try.prog 85 #[.pointer (some ⟨I, 0, none⟩), .pointer (some ⟨K, 0, none⟩), .pointer (some ⟨B, 0, none⟩)] w fun e w' => e = .returned (.bool (decide (i = 0) || (match n.kids[i - 1]? with | some p => Op.bytesLess p.name m.name | none => true))) ∧ Below w.heap.size w w' := by
  have c1 := hI.cell 0 _ rfl
  have c2 := hK.cell 0 _ rfl
  have c3 := hB.cell 0 (.string (bs m.name)) rfl
  have hil := (List.getElem?_eq_some_iff.1 hi).1
  obtain ⟨b, hb⟩ : ∃ b, b = m.name := ⟨_, rfl⟩
  rw [← hb] at c3 ⊢
  go_enter Try.func85, Try.ntmps85
  by_cases h0 : i = 0
  · subst h0
    go_wp2_with fail
    go_quiet (fail)
    go_wp2
    go_ret
    exact ⟨rfl, below_drewN _ _⟩
  · obtain ⟨j, rfl⟩ : ∃ j, i = j + 1 := ⟨i - 1, by omega⟩
    have h1 : ((j : Int) + 1 == 0) = false := by simp; omega
    obtain ⟨p, hp⟩ : ∃ p, n.kids[j]? = some p := ⟨_, List.getElem?_eq_getElem (by omega)⟩
    obtain ⟨x, g, c, rfl, _, hKd, _⟩ := hH.2 j p hp
    have hkl := hH.1
    unfold maxLen at hkl
    have c4 : w.cell? (x.add (j * 5)) = some (.string (bs p.name)) := by
      have h := hKd 0 (.string (bs p.name)) rfl
      rwa [show (x.add (j * 5)).add 0 = x.add (j * 5) by unfold Addr.add; simp] at h
    have e1 : IntKind.i64.wrap ((j : Int) + 1 - 1) = (j : Int) := by rw [IntKind.wrap_i64]; omega
    have hil2 : (j : Int) < n.kids.length := by omega
    rw [Nat.add_sub_cancel, hp]
    simp only [Nat.succ_ne_zero, decide_false, Bool.false_or]
    have hil3 : j < n.kids.length := by omega
    have hT1 : Hid (hI = hI) := Lib.hid rfl
    clear hT1 hil hi hp hKd hH hI hK hB hb
    rw [show ((j + 1 : Nat) : Int) = (j : Int) + 1 by omega] at c1
    go_wp2_with fail
    go_quiet (fail)
    go_wp2
    go_ret
    exact ⟨rfl, below_drewN _ _⟩
end Go.Proofs.Ytdpeblchndfdaaa
