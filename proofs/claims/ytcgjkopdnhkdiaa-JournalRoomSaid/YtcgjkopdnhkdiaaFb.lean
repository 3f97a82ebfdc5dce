/- The document's disk: Arm, Off. -/
import Derived.Test.YtcgjkopdnhkdiaaFa
namespace Go.Proofs.Ytcgjkopdnhkdiaa
open Go.RowKit
set_option maxRecDepth 100000
section
variable {w : World} {D : Nat} {fo ao : Option Addr} {fc cap n : Nat} {s : Dk}
theorem refOff_any (h : RefAt w D fo fc ao cap n s) :
    Calls Try.prog 18 #[.pointer (some ⟨D, 0, none⟩)] w fun e w' => e = .returned (.tuple #[]) ∧ RefAt w' D fo fc ao cap n s.cut ∧ Touch [D] w w' := by
  have c2 := h.d.cell 2 _ rfl
  have c3 := h.d.cell 3 _ rfl
  have f2 := h.d.frozen 2
  have f3 := h.d.frozen 3
  have ok := h.ok
  have H2 := Lib.hid (h.set 2 (.bool false) { s with off := true } (by simp [heads]) rfl rfl ⟨ok.n1, ok.n2, ok.fl, ok.f128, ok.ws, ok.f1, ok.f2⟩)
  have H3 := Lib.hid (H2.out.set 3 (.int .i64 0) s.cut (by simp [heads, Dk.cut]) rfl rfl ⟨ok.n1, ok.n2, ok.fl, ok.f128, ok.ws, by simp only [Dk.cut]; omega, by simp only [Dk.cut]; omega⟩)
  clear h ok H2
  go_enter Try.func18, Try.ntmps18
  go_wp2
  go_end0
  exact ⟨rfl, H3.out, ((Touch.refl _ _).setCell _ _ (.inl (by simp))).setCell _ _ (.inl (by simp))⟩
theorem refArm_any (h : RefAt w D fo fc ao cap n s) (k : Int) (h1 : -9223372036854775808 ≤ k) (h2 : k ≤ 9223372036854775807) :
    Calls Try.prog 16 #[.pointer (some ⟨D, 0, none⟩), .int .i64 k] w fun e w' => e = .returned (.tuple #[]) ∧ RefAt w' D fo fc ao cap n (s.arm k) ∧ Touch [D] w w' := by
  have c2 := h.d.cell 2 _ rfl
  have c3 := h.d.cell 3 _ rfl
  have f3 := h.d.frozen 3
  have H := Lib.hid h
  have OK := Lib.hid h.ok
  clear h
  cases hoff : s.off
  · have HO := Lib.hid hoff
    rw [hoff] at c2
    clear hoff
    have e1 : s.arm k = { s with fuse := k } := by unfold Dk.arm; rw [HO.out]; rfl
    have H3 := Lib.hid (H.out.set 3 (.int .i64 (max k 0)) { s with fuse := k } (by simp [heads]) rfl rfl ⟨OK.out.n1, OK.out.n2, OK.out.fl, OK.out.f128, OK.out.ws, h1, h2⟩)
    have T3 := Lib.hid ((Touch.refl [D] w).setCell ⟨D, 3, none⟩ (.int .i64 (max k 0)) (.inl (by simp)))
    rw [← e1] at H3
    clear e1
    have hk : (k < 0 ∧ max k 0 = 0) ∨ (0 ≤ k ∧ max k 0 = k) := by omega
    rcases hk with ⟨k1, k2⟩ | ⟨k1, k2⟩
    · rw [k2] at H3 T3
      have k3 : decide (k < 0) = true := by simpa using k1
      have k4 : decide (0 < k) = false := by simp; omega
      go_enter Try.func16, Try.ntmps16
      go_wp2
      go_end0
      exact ⟨rfl, H3.out, T3.out⟩
    · rw [k2] at H3 T3
      have k3 : decide (k < 0) = false := by simp; omega
      go_enter Try.func16, Try.ntmps16
      go_wp2
      go_end0
      exact ⟨rfl, H3.out, T3.out⟩
  · have HO := Lib.hid hoff
    rw [hoff] at c2
    clear hoff
    have e1 : s.arm k = s := by unfold Dk.arm; rw [HO.out]; rfl
    rw [e1]
    go_enter Try.func16, Try.ntmps16
    go_wp2
    go_end0
    exact ⟨rfl, H.out, Touch.refl _ _⟩
end
end Go.Proofs.Ytcgjkopdnhkdiaa
