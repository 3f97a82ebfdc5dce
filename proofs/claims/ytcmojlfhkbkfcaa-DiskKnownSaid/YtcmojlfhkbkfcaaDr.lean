/- A disk that is none; and what On reads. -/
import Derived.Test.YtcmojlfhkbkfcaaDp
namespace Go.Proofs.Ytcmojlfhkbkfcaa
open Go.RowKit

theorem on_at {w : World} {D : Nat} {a b c x y : Value} {o : Bool} (h : At w D 65 [a, b, c, .bool o, x, y]) : Calls Try.prog 24 #[.pointer (some ⟨D, 0, none⟩)] w fun e w' => e = .returned (.bool (!o)) ∧ w' = w := by
  have c := h.cell 3 _ rfl
  clear h
  go_enter Try.func24, Try.ntmps24
  go_wp2
  go_ret
  exact ⟨rfl, rfl⟩
theorem len_nil (w : World) : Calls Try.prog 26 #[.pointer none] w fun e w' => e = .returned (.int .i64 0) ∧ w' = w := by
  go_enter Try.func26, Try.ntmps26
  go_wp2
  go_ret
  exact ⟨rfl, rfl⟩
theorem ops_nil (w : World) : Calls Try.prog 25 #[.pointer none] w fun e w' => e = .returned (.int .u64 0) ∧ w' = w := by
  go_enter Try.func25, Try.ntmps25
  go_wp2
  go_ret
  exact ⟨rfl, rfl⟩
theorem on_nil (w : World) : Calls Try.prog 24 #[.pointer none] w fun e w' => e = .returned (.bool false) ∧ w' = w := by
  go_enter Try.func24, Try.ntmps24
  go_wp2
  go_ret
  exact ⟨rfl, rfl⟩
theorem off_nil (w : World) : Calls Try.prog 17 #[.pointer none] w fun e w' => e = .returned (.tuple #[]) ∧ w' = w := by
  go_enter Try.func17, Try.ntmps17
  go_wp2
  go_end0
  exact ⟨rfl, rfl⟩
theorem arm_nil (w : World) (k : Int) : Calls Try.prog 15 #[.pointer none, .int .i64 k] w fun e w' => e = .returned (.tuple #[]) ∧ w' = w := by
  go_enter Try.func15, Try.ntmps15
  go_wp2_with (go_at_call 24; refine (on_nil _).mono ?_; rintro e w' ⟨rfl, rfl⟩)
  go_end0
  exact ⟨rfl, rfl⟩
theorem refused_nil (w : World) (size : Int) : Calls Try.prog 30 #[.pointer none, .int .i64 0, .int .i64 size] w fun e w' => e = .returned (.int .i64 2) ∧ w' = w := by
  go_enter Try.func30, Try.ntmps30
  go_wp2_with (go_at_call 26; refine (len_nil _).mono ?_; rintro e w' ⟨rfl, rfl⟩)
  go_ret
  exact ⟨rfl, rfl⟩
theorem flush_nil (w : World) : Calls Try.prog 13 #[.pointer none] w fun e w' => e = .returned (.int .i64 1) ∧ Below w.heap.size w w' := by
  go_enter Try.func13, Try.ntmps13
  go_wp2_with fail
  refine (operate_nil _ 0 _).mono ?_
  rintro e w1 ⟨rfl, b1⟩
  have HB := Lib.hid (((Below.refl _ w).alloc (Nat.le_refl _) (.cells #[.pointer none] 23)).trans (b1.mono (by simp)))
  clear b1
  go_wp2
  go_ret
  exact ⟨rfl, HB.out⟩
set_option maxHeartbeats 1000000 in
theorem read_nil (w : World) : Calls Try.prog 11 #[.pointer none, .int .i64 0] w fun e w' => e = .returned (.tuple #[.string ⟨#[]⟩, .int .i64 1]) ∧ Below w.heap.size w w' := by
  go_enter Try.func11, Try.ntmps11
  go_wp2
  have hA := ((At.new w #[.pointer none] 23).alloc (.cells #[.int .i64 0] 3)).alloc (.cells #[.string ⟨#[]⟩] 9)
  have hB := (At.new (w.alloc (.cells #[.pointer none] 23)) #[.int .i64 0] 3).alloc (.cells #[.string ⟨#[]⟩] 9)
  have hC := At.new ((w.alloc (.cells #[.pointer none] 23)).alloc (.cells #[.int .i64 0] 3)) #[.string ⟨#[]⟩] 9
  rw [World.size_alloc] at hB
  rw [World.size_alloc, World.size_alloc] at hC
  have hU := (((Below.refl _ w).alloc (Nat.le_refl _) (.cells #[.pointer none] 23)).alloc (by simp) (.cells #[.int .i64 0] 3)).alloc (by simp; omega) (.cells #[.string ⟨#[]⟩] 9)
  generalize ((w.alloc (.cells #[.pointer none] 23)).alloc (.cells #[.int .i64 0] 3)).alloc (.cells #[.string ⟨#[]⟩] 9) = w3 at *
  have ca := hA.cell 0 _ rfl
  have cb := hB.cell 0 _ rfl
  have cc := hC.cell 0 _ rfl
  have HC := Lib.hid hC
  have HU := Lib.hid hU
  clear hA hB hC hU
  go_still_tail 5, (by kernel_rfl)
  still_call (refused_nil w3.drew 0)
  repeat still_step
  refine wpStill_nil ?_
  change wpList _ _ _ _ _ w3.drew
  clear ca cb cc
  go_wp2_with fail
  refine (operate_nil _ 2 _).mono ?_
  rintro e w4 ⟨rfl, b4⟩
  have c4 := (HC.out.drew.below b4 HC.out.lt).cell 0 _ rfl
  have B4 := Lib.hid (((HU.out.drew).trans (b4.mono (by exact HU.out.size))))
  clear b4
  go_wp2
  go_ret2
  exact ⟨rfl, B4.out⟩
set_option maxHeartbeats 1000000 in
theorem write_nil (w : World) : Calls Try.prog 22 #[.pointer none, .int .i64 0, .string ⟨#[]⟩] w fun e w' => e = .returned (.int .i64 1) ∧ Below w.heap.size w w' := by
  go_enter Try.func22, Try.ntmps22
  go_wp2
  have hA := ((At.new w #[.pointer none] 23).alloc (.cells #[.int .i64 0] 3)).alloc (.cells #[.string ⟨#[]⟩] 9)
  have hB := (At.new (w.alloc (.cells #[.pointer none] 23)) #[.int .i64 0] 3).alloc (.cells #[.string ⟨#[]⟩] 9)
  have hC := At.new ((w.alloc (.cells #[.pointer none] 23)).alloc (.cells #[.int .i64 0] 3)) #[.string ⟨#[]⟩] 9
  rw [World.size_alloc] at hB
  rw [World.size_alloc, World.size_alloc] at hC
  have hU := (((Below.refl _ w).alloc (Nat.le_refl _) (.cells #[.pointer none] 23)).alloc (by simp) (.cells #[.int .i64 0] 3)).alloc (by simp; omega) (.cells #[.string ⟨#[]⟩] 9)
  generalize ((w.alloc (.cells #[.pointer none] 23)).alloc (.cells #[.int .i64 0] 3)).alloc (.cells #[.string ⟨#[]⟩] 9) = w3 at *
  have ca := hA.cell 0 _ rfl
  have cb := hB.cell 0 _ rfl
  have cc := hC.cell 0 _ rfl
  have HU := Lib.hid hU
  clear hA hB hC hU
  go_still_tail 7, (by kernel_rfl)
  still_call (refused_nil w3.drew 0)
  repeat still_step
  refine wpStill_nil ?_
  change wpList _ _ _ _ _ w3.drew
  clear ca cb cc
  go_wp2_with fail
  refine (operate_nil _ 2 _).mono ?_
  rintro e w4 ⟨rfl, b4⟩
  have B4 := Lib.hid (((HU.out.drew).trans (b4.mono (by exact HU.out.size))))
  clear b4
  go_wp2
  go_ret
  exact ⟨rfl, B4.out⟩
end Go.Proofs.Ytcmojlfhkbkfcaa
