/- The walks of what asks whether the power holds. -/
import Derived.Test.YtcgjkopdnhkdiaaDb
import Derived.Deep.RegionHeld3
import Derived.BigQuiet
import Derived.Deep.QuietTactic
namespace Go.Proofs.Ytcgjkopdnhkdiaa
open Go.RowKit
set_option maxRecDepth 100000

section
variable {w : World} {D F N : Nat} {ao : Option Addr} {cap n : Nat} {s : Dk}
theorem arm_any (h : DiskAt w D F N ao cap n s) (k : Int) (h1 : -9223372036854775808 ≤ k) (h2 : k ≤ 9223372036854775807) :
    Calls Try.prog 15 #[.pointer (some ⟨D, 0, none⟩), .int .i64 k] w fun e w' => e = .returned (.tuple #[]) ∧ DiskAt w' D F N ao cap n (s.arm k) ∧ Touch [D] w w' := by
  have c4 := h.d.cell 4 _ rfl
  have f4 := h.d.frozen 4
  have H := Lib.hid h
  have ok := h.ok
  have OK := Lib.hid ok
  clear h ok
  go_enter Try.func15, Try.ntmps15
  go_wp2_with fail
  refine (on_any H.out).mono ?_
  rintro e w' ⟨rfl, rfl⟩
  cases hoff : s.off
  · have HO := Lib.hid hoff
    clear hoff
    go_wp2
    go_end0
    refine ⟨rfl, ?_, (Touch.refl _ _).setCell _ _ (.inl (by simp))⟩
    have e1 : s.arm k = { s with fuse := k } := by unfold Dk.arm; rw [HO.out]; rfl
    rw [e1]
    exact H.out.set 4 (.int .i64 k) _ rfl rfl rfl ⟨OK.out.n1, OK.out.n2, OK.out.fl, OK.out.f128, OK.out.ws, h1, h2⟩
  · have HO := Lib.hid hoff
    clear hoff
    go_wp2
    go_end0
    have e1 : s.arm k = s := by unfold Dk.arm; rw [HO.out]; rfl
    rw [e1]
    exact ⟨rfl, H.out, Touch.refl _ _⟩

/-- what is wrong with an operation's arguments -/
def badArg (n : Nat) (at_ size : Int) : Int := if at_ < 0 ∨ (n : Int) ≤ at_ then 2 else if 128 < size then 3 else 0
theorem refused_any (h : DiskAt w D F N ao cap n s) (k size : Int) :
    Calls Try.prog 41 #[.pointer (some ⟨D, 0, none⟩), .int .i64 k, .int .i64 size] w fun e w' => e = .returned (.int .i64 (badArg n k size)) ∧ w' = w := by
  by_cases a1 : k < 0
  · go_enter Try.func41, Try.ntmps41
    go_wp2
    go_ret
    exact ⟨ret_of (by rw [badArg, if_pos (.inl a1)]; rfl), rfl⟩
  · have b1 : decide (k < 0) = false := by simpa using a1
    by_cases a2 : (n : Int) ≤ k
    · have b2 : decide ((n : Int) ≤ k) = true := by simpa using a2
      go_enter Try.func41, Try.ntmps41
      go_wp2_with (go_at_call 26; refine (len_any h).mono ?_; rintro e w' ⟨rfl, rfl⟩)
      go_ret
      exact ⟨ret_of (by rw [badArg, if_pos (.inr a2)]; rfl), rfl⟩
    · have b2 : decide ((n : Int) ≤ k) = false := by simpa using a2
      by_cases a3 : 128 < size
      · have b3 : decide (128 < size) = true := by simpa using a3
        go_enter Try.func41, Try.ntmps41
        go_wp2_with (go_at_call 26; refine (len_any h).mono ?_; rintro e w' ⟨rfl, rfl⟩)
        go_ret
        exact ⟨ret_of (by rw [badArg, if_neg (by omega), if_pos a3]; rfl), rfl⟩
      · have b3 : decide (128 < size) = false := by simpa using a3
        go_enter Try.func41, Try.ntmps41
        go_wp2_with (go_at_call 26; refine (len_any h).mono ?_; rintro e w' ⟨rfl, rfl⟩)
        go_ret
        exact ⟨ret_of (by rw [badArg, if_neg (by omega), if_neg (by omega)]; rfl), rfl⟩
end

section
variable {w : World} {D F N : Nat} {ao : Option Addr} {cap n : Nat} {s : Dk}
set_option maxHeartbeats 1000000 in
theorem holds_any (h : DiskAt w D F N ao cap n s) (A TA : Nat) (hA : At w A TA [.pointer (some ⟨D, 0, none⟩)]) (hne : A ≠ D) (ho : s.ops < 9223372036854775807) :
    Calls Try.prog 71 #[.pointer (some ⟨A, 0, none⟩)] w fun e w' => e = .returned (.bool (!s.tick.off)) ∧ DiskAt w' D F N ao cap n s.tick ∧ Touch [D] w w' := by
  have ca := hA.cell 0 _ rfl
  have c3 := h.d.cell 3 _ rfl
  have c4 := h.d.cell 4 _ rfl
  have c5 := h.d.cell 5 _ rfl
  have f3 := h.d.frozen 3
  have f4 := h.d.frozen 4
  have f5 := h.d.frozen 5
  have H := Lib.hid h
  have HA := Lib.hid hA
  have OK := Lib.hid h.ok
  clear h hA
  have u1 := OK.out.f1
  have u2 := OK.out.f2
  cases hoff : s.off
  · have HO := Lib.hid hoff
    rw [hoff] at c3
    clear hoff
    have e1 : IntKind.u64.wrap ((s.ops : Int) + 1) = (s.ops : Int) + 1 := by simp only [IntKind.wrap, IntKind.bits, IntKind.signed]; simp; omega
    have H5 := Lib.hid (H.out.set 5 (.int .u64 ((s.ops : Int) + 1)) { s with ops := s.ops + 1 } (by simp) rfl rfl ⟨OK.out.n1, OK.out.n2, OK.out.fl, OK.out.f128, OK.out.ws, u1, u2⟩)
    have T5 := Lib.hid ((Touch.refl [D] w).setCell ⟨D, 5, none⟩ (.int .u64 ((s.ops : Int) + 1)) (.inl (by simp)))
    by_cases hf : 0 < s.fuse
    · have d1 : decide (0 < s.fuse) = true := by simpa using hf
      have et : s.tick = { s with ops := s.ops + 1, fuse := s.fuse - 1, off := decide (s.fuse = 1) } := by unfold Dk.tick; rw [HO.out, if_pos hf]; rfl
      have ET := Lib.hid et
      clear et
      have H4 := Lib.hid (H5.out.set 4 (.int .i64 (s.fuse - 1)) { s with ops := s.ops + 1, fuse := s.fuse - 1 } rfl rfl rfl ⟨OK.out.n1, OK.out.n2, OK.out.fl, OK.out.f128, OK.out.ws, by simp only []; omega, by simp only []; omega⟩)
      have T4 := Lib.hid (T5.out.setCell ⟨D, 4, none⟩ (.int .i64 (s.fuse - 1)) (.inl (by simp)))
      go_enter Try.func71, Try.ntmps71
      go_wp2
      generalize (w.setCell ⟨D, 5, none⟩ (.int .u64 ((s.ops : Int) + 1))).setCell ⟨D, 4, none⟩ (.int .i64 (s.fuse - 1)) = w1 at *
      have ca1 := (HA.out.touch T4.out (by simpa using hne)).cell 0 _ rfl
      have c31 := H4.out.d.cell 3 _ rfl
      have c41 := H4.out.d.cell 4 _ rfl
      have f31 := H4.out.d.frozen 3
      clear ca c3 c4 c5 f3 f4 f5
      go_still_tail 8, (by kernel_rfl)
      change wpList _ _ _ _ _ w1.drew
      go_wp2
      go_ret
      have hb : (s.fuse - 1 == 0) = decide (s.fuse = 1) := by rw [Bool.eq_iff_iff]; simp; omega
      rw [ET.out, hb]
      refine ⟨rfl, ?_, T4.out.drew.setCell _ _ (.inl (by simp))⟩
      exact H4.out.drew.set 3 _ _ rfl rfl rfl ⟨OK.out.n1, OK.out.n2, OK.out.fl, OK.out.f128, OK.out.ws, by simp only []; omega, by simp only []; omega⟩
    · have d1 : decide (0 < s.fuse) = false := by simpa using hf
      have et : s.tick = { s with ops := s.ops + 1 } := by
        unfold Dk.tick; rw [HO.out, if_neg hf]
        have : decide (s.fuse = 1) = false := by simp; omega
        rw [this]; simp [HO.out]
      have ET := Lib.hid et
      clear et
      go_enter Try.func71, Try.ntmps71
      go_wp2
      go_ret
      rw [ET.out]
      exact ⟨by simp only [HO.out]; rfl, H5.out, T5.out⟩
  · have HO := Lib.hid hoff
    rw [hoff] at c3
    clear hoff
    have et : s.tick = s := by unfold Dk.tick; rw [HO.out]; rfl
    have ET := Lib.hid et
    clear et
    go_enter Try.func71, Try.ntmps71
    go_wp2
    go_ret
    rw [ET.out]
    exact ⟨by rw [HO.out]; rfl, H.out, Touch.refl _ _⟩
end
end Go.Proofs.Ytcgjkopdnhkdiaa
