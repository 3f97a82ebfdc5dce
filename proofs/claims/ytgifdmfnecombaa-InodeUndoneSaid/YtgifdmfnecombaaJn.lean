/- The calls of a table that is none. -/
import Derived.Test.YtgifdmfnecombaaJf
namespace Go.Proofs.Ytgifdmfnecombaa
open Go.RowKit
set_option maxRecDepth 100000
theorem isTable_nil (w : World) : Calls Try.prog 30 #[.pointer none] w fun e w' => e = .returned (.int .i64 1) ∧ Below w.heap.size w w' := by
  go_enter Try.func30, Try.ntmps30
  go_wp2_with fail
  refine (isNone_nil w).mono ?_
  rintro e w1 ⟨rfl, rfl⟩
  go_wp2_with fail
  refine (unless_any false 1 w1).mono ?_
  rintro e w2 ⟨rfl, rfl⟩
  go_wp2_with fail
  go_ret
  exact ⟨rfl, Below.refl _ _⟩
def nilN : Need := ⟨30, #[.pointer none], #[], 1⟩
theorem first_nil (B cap : Nat) (l : List Need) (hl : l.length ≤ 999) (w : World) (hB : At w B 73 ((nilN :: l).map Need.v)) :
    Calls Try.prog 29 #[.slice (some ⟨B, 0, none⟩) (nilN :: l).length cap] w fun e w' => e = .returned (.int .i64 1) ∧ Below w.heap.size w w' := by
  have h := first_any B cap (nilN :: l) (by simp; omega) w hB (fun k x hk hz => by
    cases k with
    | zero =>
      simp only [List.getElem?_cons_zero, Option.some.injEq] at hk
      subst hk
      exact ⟨enter_isTable, fun w' _ => isTable_nil w'⟩
    | succ k =>
      have := hz nilN (by simp)
      exact absurd this (by decide))
  have e : firstR (nilN :: l) = 1 := rfl
  rw [e] at h
  exact h
theorem at_nil (k : Int) (w : World) : Calls Try.prog 25 #[.pointer none, .int .i64 k] w fun e w' => e = .returned (.tuple #[.pointer none, .bool false]) ∧ w' = w := by
  go_enter Try.func25, Try.ntmps25
  go_wp2_with fail
  refine (isNone_nil w).mono ?_
  rintro e w1 ⟨rfl, rfl⟩
  go_wp2_with fail
  (try simp only [Exit.inBlock, Exit.then])
  exact bodyPost_ret (results_tmp2 rfl _ _ _) rfl ⟨rfl, rfl⟩
theorem dir_nil (k : Int) (w : World) : Calls Try.prog 26 #[.pointer none, .int .i64 k] w fun e w' => e = .returned (.tuple #[.pointer none, .bool false]) ∧ Below w.heap.size w w' := by
  go_enter Try.func26, Try.ntmps26
  go_wp2_with fail
  refine (at_nil k w).mono ?_
  rintro e w1 ⟨rfl, rfl⟩
  go_wp2_with fail
  go_quiet (fail)
  go_wp2
  (try simp only [Exit.inBlock, Exit.then])
  exact bodyPost_ret (results_tmp2 rfl _ _ _) rfl ⟨rfl, below_drewN' (Below.refl _ _) _⟩
theorem find_nil (k : Int) (s : List UInt8) (w : World) : Calls Try.prog 12 #[.pointer none, .int .i64 k, .string (bs s)] w fun e w' => e = .returned (.tuple #[.int .i64 0, .bool false]) ∧ Below w.heap.size w w' := by
  go_enter Try.func12, Try.ntmps12
  go_wp2_with fail
  refine (dir_nil k w).mono ?_
  rintro e w1 ⟨rfl, b⟩
  have HB := Lib.hid b
  clear b
  go_wp2_with fail
  (try simp only [Exit.inBlock, Exit.then])
  exact bodyPost_ret (results_tmp2 rfl _ _ _) rfl ⟨rfl, HB.out⟩
theorem up_nil (k : Int) (w : World) : Calls Try.prog 13 #[.pointer none, .int .i64 k] w fun e w' => e = .returned (.int .i64 0) ∧ Below w.heap.size w w' := by
  go_enter Try.func13, Try.ntmps13
  go_wp2_with fail
  refine (dir_nil k w).mono ?_
  rintro e w1 ⟨rfl, b⟩
  have HB := Lib.hid b
  clear b
  go_wp2_with fail
  go_ret
  exact ⟨rfl, HB.out⟩
theorem names_nil (k : Int) (w : World) : Calls Try.prog 11 #[.pointer none, .int .i64 k] w fun e w' => e = .returned (.slice none 0 0) ∧ Below w.heap.size w w' := by
  go_enter Try.func11, Try.ntmps11
  go_wp2_with fail
  refine (dir_nil k w).mono ?_
  rintro e w1 ⟨rfl, b⟩
  have HB := Lib.hid b
  clear b
  go_wp2_with fail
  go_ret
  exact ⟨rfl, HB.out⟩
theorem root_nil (w : World) : Calls Try.prog 18 #[.pointer none] w fun e w' => e = .returned (.int .i64 0) ∧ w' = w := by
  go_enter Try.func18, Try.ntmps18
  go_wp2_with fail
  refine (isNone_nil w).mono ?_
  rintro e w1 ⟨rfl, rfl⟩
  go_wp2_with fail
  go_ret
  exact ⟨rfl, rfl⟩
theorem used_nil (w : World) : Calls Try.prog 8 #[.pointer none] w fun e w' => e = .returned (.agg (quotaV 0 0).toArray) ∧ Below w.heap.size w w' := by
  go_enter Try.func8, Try.ntmps8
  go_wp2_with (with_reducible refine alloc_any rfl 25 rfl _ zero_quota ?_; intro u hu bu zu; have HU := Lib.hid hu; have BU := Lib.hid bu; clear hu bu)
  refine (isNone_nil u).mono ?_
  rintro e w1 ⟨rfl, rfl⟩
  go_wp2_with (first
    | (refine list_val (op := { dst := some 5, op := _, type := _, pos := _, after := _, guard := _ }) rfl (v := .agg (quotaV 0 0).toArray) (w' := w1) (by kernel_rfl) ?_)
    | (refine store_any rfl 25 (.tmp 2) (.tmp 5) rfl w.heap.size rfl (quotaV 0 0) rfl _ HU.out rfl info_quota (quota_one _ _) ?_; intro u9 hu9 tu9; have HU9 := Lib.hid hu9; have HT9 := Lib.hid tu9; clear hu9 tu9))
  (try simp only [Exit.inBlock, Exit.then])
  refine bodyPost_ret (v := .agg (quotaV 0 0).toArray) ?_ rfl ⟨rfl, HT9.out.below BU.out (by simp) (Nat.le_refl _)⟩
  exact results_cell_row (fn := Try.f8) (p := 2) (ty := 25) rfl _ _ w.heap.size 25 _ (0, 0) _ rfl HU9.out Try.underlying25 rfl info_quota
theorem quota_nil (w : World) : Calls Try.prog 22 #[.pointer none] w fun e w' => e = .returned (.agg (quotaV 0 0).toArray) ∧ Below w.heap.size w w' := by
  go_enter Try.func22, Try.ntmps22
  go_wp2_with (with_reducible refine alloc_any rfl 25 rfl _ zero_quota ?_; intro u hu bu zu; have HU := Lib.hid hu; have BU := Lib.hid bu; clear hu bu)
  refine (isNone_nil u).mono ?_
  rintro e w1 ⟨rfl, rfl⟩
  go_wp2_with (first
    | (refine list_val (op := { dst := some 5, op := _, type := _, pos := _, after := _, guard := _ }) rfl (v := .agg (quotaV 0 0).toArray) (w' := w1) (by kernel_rfl) ?_)
    | (refine store_any rfl 25 (.tmp 2) (.tmp 5) rfl w.heap.size rfl (quotaV 0 0) rfl _ HU.out rfl info_quota (quota_one _ _) ?_; intro u9 hu9 tu9; have HU9 := Lib.hid hu9; have HT9 := Lib.hid tu9; clear hu9 tu9))
  (try simp only [Exit.inBlock, Exit.then])
  refine bodyPost_ret (v := .agg (quotaV 0 0).toArray) ?_ rfl ⟨rfl, HT9.out.below BU.out (by simp) (Nat.le_refl _)⟩
  exact results_cell_row (fn := Try.f22) (p := 2) (ty := 25) rfl _ _ w.heap.size 25 _ (0, 0) _ rfl HU9.out Try.underlying25 rfl info_quota
theorem node_nil (k : Int) (w : World) : Calls Try.prog 10 #[.pointer none, .int .i64 k] w fun e w' => e = .returned (.tuple #[.agg (toldV none).toArray, .bool false]) ∧ Below w.heap.size w w' := by
  go_enter Try.func10, Try.ntmps10
  go_wp2_with (with_reducible refine alloc_any rfl 35 rfl _ zero_ino ?_; intro u hu bu zu; have HU := Lib.hid hu; have BU := Lib.hid bu; clear hu bu)
  refine (at_nil k u).mono ?_
  rintro e w1 ⟨rfl, rfl⟩
  go_wp2_with (first
    | (refine list_val (op := { dst := some 16, op := _, type := _, pos := _, after := _, guard := _ }) rfl (v := .agg (toldV none).toArray) (w' := w1) (by kernel_rfl) ?_)
    | (refine store_any rfl 35 (.tmp 4) (.tmp 16) rfl w.heap.size rfl (toldV none) rfl _ HU.out rfl info_ino (told_one none) ?_; intro u9 hu9 tu9; have HU9 := Lib.hid hu9; have HT9 := Lib.hid tu9; clear hu9 tu9))
  (try simp only [Exit.inBlock, Exit.then])
  refine bodyPost_ret (v := .tuple #[.agg (toldV none).toArray, .bool false]) ?_ rfl ⟨rfl, HT9.out.below BU.out (by simp) (Nat.le_refl _)⟩
  exact results_row_tmp (fn := Try.f10) (p := 4) (u := 5) (ty := 35) rfl _ _ w.heap.size 35 _ (0, 0) _ rfl HU9.out Try.underlying35 rfl info_ino _ rfl
theorem has_nk (k0 : Int) (w : World) : Calls Try.prog 45 #[.pointer none, .int .i64 k0] w fun e w' => e = .returned (.func (.func 67) #[] #[.pointer (some ⟨w.heap.size, 0, none⟩), .pointer (some ⟨w.heap.size + 1, 0, none⟩)]) ∧ Below w.heap.size w w' := by
  have hmf := makes
  have z0 : (w.alloc (.cells #[.pointer none] 26)).heap.size = w.heap.size + 1 := by rw [World.size_alloc]
  have z1 : ((w.alloc (.cells #[.pointer none] 26)).alloc (.cells #[.int .i64 k0] 3)).heap.size = w.heap.size + 2 := by rw [World.size_alloc]; rw [z0]
  have bb : Below w.heap.size w ((w.alloc (.cells #[.pointer none] 26)).alloc (.cells #[.int .i64 k0] 3)) := (((Below.refl _ w).alloc (by first | exact Nat.le_refl _ | (simp only [World.size_alloc]; omega)) (.cells #[.pointer none] 26)).alloc (by first | exact Nat.le_refl _ | (simp only [World.size_alloc]; omega)) (.cells #[.int .i64 k0] 3))
  have BB := Lib.hid bb
  clear bb
  go_enter Try.func45, Try.ntmps45
  go_wp2_with fail
  go_ret
  exact ⟨rfl, BB.out⟩
theorem isDir_nk (k0 : Int) (w : World) : Calls Try.prog 36 #[.pointer none, .int .i64 k0] w fun e w' => e = .returned (.func (.func 59) #[] #[.pointer (some ⟨w.heap.size, 0, none⟩), .pointer (some ⟨w.heap.size + 1, 0, none⟩)]) ∧ Below w.heap.size w w' := by
  have hmf := makes
  have z0 : (w.alloc (.cells #[.pointer none] 26)).heap.size = w.heap.size + 1 := by rw [World.size_alloc]
  have z1 : ((w.alloc (.cells #[.pointer none] 26)).alloc (.cells #[.int .i64 k0] 3)).heap.size = w.heap.size + 2 := by rw [World.size_alloc]; rw [z0]
  have bb : Below w.heap.size w ((w.alloc (.cells #[.pointer none] 26)).alloc (.cells #[.int .i64 k0] 3)) := (((Below.refl _ w).alloc (by first | exact Nat.le_refl _ | (simp only [World.size_alloc]; omega)) (.cells #[.pointer none] 26)).alloc (by first | exact Nat.le_refl _ | (simp only [World.size_alloc]; omega)) (.cells #[.int .i64 k0] 3))
  have BB := Lib.hid bb
  clear bb
  go_enter Try.func36, Try.ntmps36
  go_wp2_with fail
  go_ret
  exact ⟨rfl, BB.out⟩
theorem isFile_nk (k0 : Int) (w : World) : Calls Try.prog 42 #[.pointer none, .int .i64 k0] w fun e w' => e = .returned (.func (.func 64) #[] #[.pointer (some ⟨w.heap.size, 0, none⟩), .pointer (some ⟨w.heap.size + 1, 0, none⟩)]) ∧ Below w.heap.size w w' := by
  have hmf := makes
  have z0 : (w.alloc (.cells #[.pointer none] 26)).heap.size = w.heap.size + 1 := by rw [World.size_alloc]
  have z1 : ((w.alloc (.cells #[.pointer none] 26)).alloc (.cells #[.int .i64 k0] 3)).heap.size = w.heap.size + 2 := by rw [World.size_alloc]; rw [z0]
  have bb : Below w.heap.size w ((w.alloc (.cells #[.pointer none] 26)).alloc (.cells #[.int .i64 k0] 3)) := (((Below.refl _ w).alloc (by first | exact Nat.le_refl _ | (simp only [World.size_alloc]; omega)) (.cells #[.pointer none] 26)).alloc (by first | exact Nat.le_refl _ | (simp only [World.size_alloc]; omega)) (.cells #[.int .i64 k0] 3))
  have BB := Lib.hid bb
  clear bb
  go_enter Try.func42, Try.ntmps42
  go_wp2_with fail
  go_ret
  exact ⟨rfl, BB.out⟩
theorem place_nk (k0 : Int) (s : List UInt8) (w : World) : Calls Try.prog 31 #[.pointer none, .int .i64 k0, .string (bs s)] w fun e w' => e = .returned (.func (.func 50) #[] #[.pointer (some ⟨w.heap.size + 2, 0, none⟩), .pointer (some ⟨w.heap.size, 0, none⟩), .pointer (some ⟨w.heap.size + 1, 0, none⟩)]) ∧ Below w.heap.size w w' := by
  have hmf := makes
  have z0 : (w.alloc (.cells #[.pointer none] 26)).heap.size = w.heap.size + 1 := by rw [World.size_alloc]
  have z1 : ((w.alloc (.cells #[.pointer none] 26)).alloc (.cells #[.int .i64 k0] 3)).heap.size = w.heap.size + 2 := by rw [World.size_alloc]; rw [z0]
  have z2 : (((w.alloc (.cells #[.pointer none] 26)).alloc (.cells #[.int .i64 k0] 3)).alloc (.cells #[.string (bs s)] 9)).heap.size = w.heap.size + 3 := by rw [World.size_alloc]; rw [z1]
  have bb : Below w.heap.size w (((w.alloc (.cells #[.pointer none] 26)).alloc (.cells #[.int .i64 k0] 3)).alloc (.cells #[.string (bs s)] 9)) := ((((Below.refl _ w).alloc (by first | exact Nat.le_refl _ | (simp only [World.size_alloc]; omega)) (.cells #[.pointer none] 26)).alloc (by first | exact Nat.le_refl _ | (simp only [World.size_alloc]; omega)) (.cells #[.int .i64 k0] 3)).alloc (by first | exact Nat.le_refl _ | (simp only [World.size_alloc]; omega)) (.cells #[.string (bs s)] 9))
  have BB := Lib.hid bb
  clear bb
  go_enter Try.func31, Try.ntmps31
  go_wp2_with fail
  go_ret
  exact ⟨rfl, BB.out⟩
theorem isFree_nk (k0 : Int) (s : List UInt8) (w : World) : Calls Try.prog 33 #[.pointer none, .int .i64 k0, .string (bs s)] w fun e w' => e = .returned (.func (.func 57) #[] #[.pointer (some ⟨w.heap.size, 0, none⟩), .pointer (some ⟨w.heap.size + 1, 0, none⟩), .pointer (some ⟨w.heap.size + 2, 0, none⟩)]) ∧ Below w.heap.size w w' := by
  have hmf := makes
  have z0 : (w.alloc (.cells #[.pointer none] 26)).heap.size = w.heap.size + 1 := by rw [World.size_alloc]
  have z1 : ((w.alloc (.cells #[.pointer none] 26)).alloc (.cells #[.int .i64 k0] 3)).heap.size = w.heap.size + 2 := by rw [World.size_alloc]; rw [z0]
  have z2 : (((w.alloc (.cells #[.pointer none] 26)).alloc (.cells #[.int .i64 k0] 3)).alloc (.cells #[.string (bs s)] 9)).heap.size = w.heap.size + 3 := by rw [World.size_alloc]; rw [z1]
  have bb : Below w.heap.size w (((w.alloc (.cells #[.pointer none] 26)).alloc (.cells #[.int .i64 k0] 3)).alloc (.cells #[.string (bs s)] 9)) := ((((Below.refl _ w).alloc (by first | exact Nat.le_refl _ | (simp only [World.size_alloc]; omega)) (.cells #[.pointer none] 26)).alloc (by first | exact Nat.le_refl _ | (simp only [World.size_alloc]; omega)) (.cells #[.int .i64 k0] 3)).alloc (by first | exact Nat.le_refl _ | (simp only [World.size_alloc]; omega)) (.cells #[.string (bs s)] 9))
  have BB := Lib.hid bb
  clear bb
  go_enter Try.func33, Try.ntmps33
  go_wp2_with fail
  go_ret
  exact ⟨rfl, BB.out⟩
theorem hasEntry_nk (k0 : Int) (s : List UInt8) (w : World) : Calls Try.prog 37 #[.pointer none, .int .i64 k0, .string (bs s)] w fun e w' => e = .returned (.func (.func 61) #[] #[.pointer (some ⟨w.heap.size, 0, none⟩), .pointer (some ⟨w.heap.size + 1, 0, none⟩), .pointer (some ⟨w.heap.size + 2, 0, none⟩)]) ∧ Below w.heap.size w w' := by
  have hmf := makes
  have z0 : (w.alloc (.cells #[.pointer none] 26)).heap.size = w.heap.size + 1 := by rw [World.size_alloc]
  have z1 : ((w.alloc (.cells #[.pointer none] 26)).alloc (.cells #[.int .i64 k0] 3)).heap.size = w.heap.size + 2 := by rw [World.size_alloc]; rw [z0]
  have z2 : (((w.alloc (.cells #[.pointer none] 26)).alloc (.cells #[.int .i64 k0] 3)).alloc (.cells #[.string (bs s)] 9)).heap.size = w.heap.size + 3 := by rw [World.size_alloc]; rw [z1]
  have bb : Below w.heap.size w (((w.alloc (.cells #[.pointer none] 26)).alloc (.cells #[.int .i64 k0] 3)).alloc (.cells #[.string (bs s)] 9)) := ((((Below.refl _ w).alloc (by first | exact Nat.le_refl _ | (simp only [World.size_alloc]; omega)) (.cells #[.pointer none] 26)).alloc (by first | exact Nat.le_refl _ | (simp only [World.size_alloc]; omega)) (.cells #[.int .i64 k0] 3)).alloc (by first | exact Nat.le_refl _ | (simp only [World.size_alloc]; omega)) (.cells #[.string (bs s)] 9))
  have BB := Lib.hid bb
  clear bb
  go_enter Try.func37, Try.ntmps37
  go_wp2_with fail
  go_ret
  exact ⟨rfl, BB.out⟩
theorem isNotInUse_nk (k0 : Int) (s : List UInt8) (w : World) : Calls Try.prog 40 #[.pointer none, .int .i64 k0, .string (bs s)] w fun e w' => e = .returned (.func (.func 63) #[] #[.pointer (some ⟨w.heap.size, 0, none⟩), .pointer (some ⟨w.heap.size + 1, 0, none⟩), .pointer (some ⟨w.heap.size + 2, 0, none⟩)]) ∧ Below w.heap.size w w' := by
  have hmf := makes
  have z0 : (w.alloc (.cells #[.pointer none] 26)).heap.size = w.heap.size + 1 := by rw [World.size_alloc]
  have z1 : ((w.alloc (.cells #[.pointer none] 26)).alloc (.cells #[.int .i64 k0] 3)).heap.size = w.heap.size + 2 := by rw [World.size_alloc]; rw [z0]
  have z2 : (((w.alloc (.cells #[.pointer none] 26)).alloc (.cells #[.int .i64 k0] 3)).alloc (.cells #[.string (bs s)] 9)).heap.size = w.heap.size + 3 := by rw [World.size_alloc]; rw [z1]
  have bb : Below w.heap.size w (((w.alloc (.cells #[.pointer none] 26)).alloc (.cells #[.int .i64 k0] 3)).alloc (.cells #[.string (bs s)] 9)) := ((((Below.refl _ w).alloc (by first | exact Nat.le_refl _ | (simp only [World.size_alloc]; omega)) (.cells #[.pointer none] 26)).alloc (by first | exact Nat.le_refl _ | (simp only [World.size_alloc]; omega)) (.cells #[.int .i64 k0] 3)).alloc (by first | exact Nat.le_refl _ | (simp only [World.size_alloc]; omega)) (.cells #[.string (bs s)] 9))
  have BB := Lib.hid bb
  clear bb
  go_enter Try.func40, Try.ntmps40
  go_wp2_with fail
  go_ret
  exact ⟨rfl, BB.out⟩
theorem hasRoom_nk (k0 : Int) (k1 : Int) (w : World) : Calls Try.prog 34 #[.pointer none, .int .i64 k0, .int .i64 k1] w fun e w' => e = .returned (.func (.func 58) #[] #[.pointer (some ⟨w.heap.size + 1, 0, none⟩), .pointer (some ⟨w.heap.size, 0, none⟩), .pointer (some ⟨w.heap.size + 2, 0, none⟩)]) ∧ Below w.heap.size w w' := by
  have hmf := makes
  have z0 : (w.alloc (.cells #[.pointer none] 26)).heap.size = w.heap.size + 1 := by rw [World.size_alloc]
  have z1 : ((w.alloc (.cells #[.pointer none] 26)).alloc (.cells #[.int .i64 k0] 3)).heap.size = w.heap.size + 2 := by rw [World.size_alloc]; rw [z0]
  have z2 : (((w.alloc (.cells #[.pointer none] 26)).alloc (.cells #[.int .i64 k0] 3)).alloc (.cells #[.int .i64 k1] 3)).heap.size = w.heap.size + 3 := by rw [World.size_alloc]; rw [z1]
  have bb : Below w.heap.size w (((w.alloc (.cells #[.pointer none] 26)).alloc (.cells #[.int .i64 k0] 3)).alloc (.cells #[.int .i64 k1] 3)) := ((((Below.refl _ w).alloc (by first | exact Nat.le_refl _ | (simp only [World.size_alloc]; omega)) (.cells #[.pointer none] 26)).alloc (by first | exact Nat.le_refl _ | (simp only [World.size_alloc]; omega)) (.cells #[.int .i64 k0] 3)).alloc (by first | exact Nat.le_refl _ | (simp only [World.size_alloc]; omega)) (.cells #[.int .i64 k1] 3))
  have BB := Lib.hid bb
  clear bb
  go_enter Try.func34, Try.ntmps34
  go_wp2_with fail
  go_ret
  exact ⟨rfl, BB.out⟩
set_option maxHeartbeats 2000000 in
theorem make_nil (d : Int) (s : List UInt8) (k m : Int) (dt : List UInt8) (w : World) : Calls Try.prog 15 #[.pointer none, .int .i64 d, .string (bs s), .int .i64 k, .int .i64 m, .string (bs dt)] w fun e w' => e = .returned (.tuple #[.int .i64 0, .int .i64 1]) ∧ Below w.heap.size w w' := by
  have hmf := makes
  go_enter Try.func15, Try.ntmps15
  have Z0 := Lib.hid (Below.refl w.heap.size w)
  go_wp2_with fail
  refine (place_nk d s w).mono ?_
  rintro e w1 ⟨rfl, b⟩
  have Z1 := Lib.hid (Z0.out.trans (b.mono Z0.out.size))
  clear b
  go_wp2_with fail
  refine (isInode_mk k m dt w1).mono ?_
  rintro e w2 ⟨rfl, _, _, _, b⟩
  have Z2 := Lib.hid (Z1.out.trans (b.mono Z1.out.size))
  clear b
  go_wp2_with fail
  refine (isFree_nk d s w2).mono ?_
  rintro e w3 ⟨rfl, b⟩
  have Z3 := Lib.hid (Z2.out.trans (b.mono Z2.out.size))
  clear b
  go_wp2_with fail
  refine (hasRoom_nk 1 (dt.length : Int) w3).mono ?_
  rintro e w4 ⟨rfl, b⟩
  have Z4 := Lib.hid (Z3.out.trans (b.mono Z3.out.size))
  clear b
  obtain ⟨x2, hx2⟩ : ∃ x : Need, x = ⟨50, #[], #[.pointer (some ⟨w.heap.size + 2, 0, none⟩), .pointer (some ⟨w.heap.size, 0, none⟩), .pointer (some ⟨w.heap.size + 1, 0, none⟩)], 0⟩ := ⟨_, rfl⟩
  have X2 := Lib.hid hx2
  clear hx2
  obtain ⟨x3, hx3⟩ : ∃ x : Need, x = ⟨54, #[], #[.pointer (some ⟨w1.heap.size, 0, none⟩), .pointer (some ⟨w1.heap.size + 2, 0, none⟩), .pointer (some ⟨w1.heap.size + 1, 0, none⟩)], 0⟩ := ⟨_, rfl⟩
  have X3 := Lib.hid hx3
  clear hx3
  obtain ⟨x4, hx4⟩ : ∃ x : Need, x = ⟨57, #[], #[.pointer (some ⟨w2.heap.size, 0, none⟩), .pointer (some ⟨w2.heap.size + 1, 0, none⟩), .pointer (some ⟨w2.heap.size + 2, 0, none⟩)], 0⟩ := ⟨_, rfl⟩
  have X4 := Lib.hid hx4
  clear hx4
  obtain ⟨x5, hx5⟩ : ∃ x : Need, x = ⟨58, #[], #[.pointer (some ⟨w3.heap.size + 1, 0, none⟩), .pointer (some ⟨w3.heap.size, 0, none⟩), .pointer (some ⟨w3.heap.size + 2, 0, none⟩)], 0⟩ := ⟨_, rfl⟩
  have X5 := Lib.hid hx5
  clear hx5
  go_wp2_with (refine list_val (op := { dst := some 34, op := _, type := _, pos := _, after := _, guard := _ }) rfl (v := .slice (some ⟨w4.heap.size, 0, none⟩) 5 5) (w' := w4.alloc (.cells #[nilN.v, x2.v, x3.v, x4.v, x5.v] 73)) (by rw [X2.out, X3.out, X4.out, X5.out]; kernel_rfl) ?_)
  have ba := (Below.refl _ w4).alloc (Nat.le_refl _) (.cells #[nilN.v, x2.v, x3.v, x4.v, x5.v] 73)
  have hA := At.new w4 #[nilN.v, x2.v, x3.v, x4.v, x5.v] 73
  have ZA := Lib.hid (Z4.out.trans (ba.mono Z4.out.size))
  obtain ⟨B, hBB⟩ : ∃ B, B = w4.heap.size := ⟨_, rfl⟩
  rw [← hBB] at hA ⊢
  generalize w4.alloc (.cells #[nilN.v, x2.v, x3.v, x4.v, x5.v] 73) = wa at *
  clear ba hBB
  refine (first_nil B 5 [x2, x3, x4, x5] (by show 4 ≤ 999; omega) wa hA).mono ?_
  rintro e wb ⟨rfl, b⟩
  have ZB := Lib.hid (ZA.out.trans (b.mono ZA.out.size))
  clear b hA
  go_wp2_with fail
  go_ret2
  exact ⟨rfl, ZB.out⟩
set_option maxHeartbeats 2000000 in
theorem link_nil (d : Int) (s : List UInt8) (x : Int) (w : World) : Calls Try.prog 19 #[.pointer none, .int .i64 d, .string (bs s), .int .i64 x] w fun e w' => e = .returned (.int .i64 1) ∧ Below w.heap.size w w' := by
  have hmf := makes
  go_enter Try.func19, Try.ntmps19
  have Z0 := Lib.hid (Below.refl w.heap.size w)
  go_wp2_with fail
  refine (place_nk d s w).mono ?_
  rintro e w1 ⟨rfl, b⟩
  have Z1 := Lib.hid (Z0.out.trans (b.mono Z0.out.size))
  clear b
  go_wp2_with fail
  refine (isFile_nk x w1).mono ?_
  rintro e w2 ⟨rfl, b⟩
  have Z2 := Lib.hid (Z1.out.trans (b.mono Z1.out.size))
  clear b
  go_wp2_with fail
  refine (isFree_nk d s w2).mono ?_
  rintro e w3 ⟨rfl, b⟩
  have Z3 := Lib.hid (Z2.out.trans (b.mono Z2.out.size))
  clear b
  obtain ⟨x2, hx2⟩ : ∃ x : Need, x = ⟨50, #[], #[.pointer (some ⟨w.heap.size + 2, 0, none⟩), .pointer (some ⟨w.heap.size, 0, none⟩), .pointer (some ⟨w.heap.size + 1, 0, none⟩)], 0⟩ := ⟨_, rfl⟩
  have X2 := Lib.hid hx2
  clear hx2
  obtain ⟨x3, hx3⟩ : ∃ x : Need, x = ⟨64, #[], #[.pointer (some ⟨w1.heap.size, 0, none⟩), .pointer (some ⟨w1.heap.size + 1, 0, none⟩)], 0⟩ := ⟨_, rfl⟩
  have X3 := Lib.hid hx3
  clear hx3
  obtain ⟨x4, hx4⟩ : ∃ x : Need, x = ⟨57, #[], #[.pointer (some ⟨w2.heap.size, 0, none⟩), .pointer (some ⟨w2.heap.size + 1, 0, none⟩), .pointer (some ⟨w2.heap.size + 2, 0, none⟩)], 0⟩ := ⟨_, rfl⟩
  have X4 := Lib.hid hx4
  clear hx4
  go_wp2_with (refine list_val (op := { dst := some 23, op := _, type := _, pos := _, after := _, guard := _ }) rfl (v := .slice (some ⟨w3.heap.size, 0, none⟩) 4 4) (w' := w3.alloc (.cells #[nilN.v, x2.v, x3.v, x4.v] 73)) (by rw [X2.out, X3.out, X4.out]; kernel_rfl) ?_)
  have ba := (Below.refl _ w3).alloc (Nat.le_refl _) (.cells #[nilN.v, x2.v, x3.v, x4.v] 73)
  have hA := At.new w3 #[nilN.v, x2.v, x3.v, x4.v] 73
  have ZA := Lib.hid (Z3.out.trans (ba.mono Z3.out.size))
  obtain ⟨B, hBB⟩ : ∃ B, B = w3.heap.size := ⟨_, rfl⟩
  rw [← hBB] at hA ⊢
  generalize w3.alloc (.cells #[nilN.v, x2.v, x3.v, x4.v] 73) = wa at *
  clear ba hBB
  refine (first_nil B 4 [x2, x3, x4] (by show 3 ≤ 999; omega) wa hA).mono ?_
  rintro e wb ⟨rfl, b⟩
  have ZB := Lib.hid (ZA.out.trans (b.mono ZA.out.size))
  clear b hA
  go_wp2_with fail
  go_ret
  exact ⟨rfl, ZB.out⟩
set_option maxHeartbeats 2000000 in
theorem unlink_nil (d : Int) (s : List UInt8) (w : World) : Calls Try.prog 17 #[.pointer none, .int .i64 d, .string (bs s)] w fun e w' => e = .returned (.int .i64 1) ∧ Below w.heap.size w w' := by
  have hmf := makes
  go_enter Try.func17, Try.ntmps17
  have Z0 := Lib.hid (Below.refl w.heap.size w)
  go_wp2_with fail
  refine (isDir_nk d w).mono ?_
  rintro e w1 ⟨rfl, b⟩
  have Z1 := Lib.hid (Z0.out.trans (b.mono Z0.out.size))
  clear b
  go_wp2_with fail
  refine (hasEntry_nk d s w1).mono ?_
  rintro e w2 ⟨rfl, b⟩
  have Z2 := Lib.hid (Z1.out.trans (b.mono Z1.out.size))
  clear b
  go_wp2_with fail
  refine (isNotInUse_nk d s w2).mono ?_
  rintro e w3 ⟨rfl, b⟩
  have Z3 := Lib.hid (Z2.out.trans (b.mono Z2.out.size))
  clear b
  obtain ⟨x2, hx2⟩ : ∃ x : Need, x = ⟨59, #[], #[.pointer (some ⟨w.heap.size, 0, none⟩), .pointer (some ⟨w.heap.size + 1, 0, none⟩)], 0⟩ := ⟨_, rfl⟩
  have X2 := Lib.hid hx2
  clear hx2
  obtain ⟨x3, hx3⟩ : ∃ x : Need, x = ⟨61, #[], #[.pointer (some ⟨w1.heap.size, 0, none⟩), .pointer (some ⟨w1.heap.size + 1, 0, none⟩), .pointer (some ⟨w1.heap.size + 2, 0, none⟩)], 0⟩ := ⟨_, rfl⟩
  have X3 := Lib.hid hx3
  clear hx3
  obtain ⟨x4, hx4⟩ : ∃ x : Need, x = ⟨63, #[], #[.pointer (some ⟨w2.heap.size, 0, none⟩), .pointer (some ⟨w2.heap.size + 1, 0, none⟩), .pointer (some ⟨w2.heap.size + 2, 0, none⟩)], 0⟩ := ⟨_, rfl⟩
  have X4 := Lib.hid hx4
  clear hx4
  go_wp2_with (refine list_val (op := { dst := some 22, op := _, type := _, pos := _, after := _, guard := _ }) rfl (v := .slice (some ⟨w3.heap.size, 0, none⟩) 4 4) (w' := w3.alloc (.cells #[nilN.v, x2.v, x3.v, x4.v] 73)) (by rw [X2.out, X3.out, X4.out]; kernel_rfl) ?_)
  have ba := (Below.refl _ w3).alloc (Nat.le_refl _) (.cells #[nilN.v, x2.v, x3.v, x4.v] 73)
  have hA := At.new w3 #[nilN.v, x2.v, x3.v, x4.v] 73
  have ZA := Lib.hid (Z3.out.trans (ba.mono Z3.out.size))
  obtain ⟨B, hBB⟩ : ∃ B, B = w3.heap.size := ⟨_, rfl⟩
  rw [← hBB] at hA ⊢
  generalize w3.alloc (.cells #[nilN.v, x2.v, x3.v, x4.v] 73) = wa at *
  clear ba hBB
  refine (first_nil B 4 [x2, x3, x4] (by show 3 ≤ 999; omega) wa hA).mono ?_
  rintro e wb ⟨rfl, b⟩
  have ZB := Lib.hid (ZA.out.trans (b.mono ZA.out.size))
  clear b hA
  go_wp2_with fail
  go_ret
  exact ⟨rfl, ZB.out⟩
set_option maxHeartbeats 2000000 in
theorem move_nil (d : Int) (s : List UInt8) (t : Int) (a : List UInt8) (w : World) : Calls Try.prog 16 #[.pointer none, .int .i64 d, .string (bs s), .int .i64 t, .string (bs a)] w fun e w' => e = .returned (.int .i64 1) ∧ Below w.heap.size w w' := by
  have hmf := makes
  go_enter Try.func16, Try.ntmps16
  have Z0 := Lib.hid (Below.refl w.heap.size w)
  go_wp2_with fail
  refine (isDir_nk d w).mono ?_
  rintro e w1 ⟨rfl, b⟩
  have Z1 := Lib.hid (Z0.out.trans (b.mono Z0.out.size))
  clear b
  go_wp2_with fail
  refine (place_nk t a w1).mono ?_
  rintro e w2 ⟨rfl, b⟩
  have Z2 := Lib.hid (Z1.out.trans (b.mono Z1.out.size))
  clear b
  go_wp2_with fail
  refine (hasEntry_nk d s w2).mono ?_
  rintro e w3 ⟨rfl, b⟩
  have Z3 := Lib.hid (Z2.out.trans (b.mono Z2.out.size))
  clear b
  obtain ⟨x2, hx2⟩ : ∃ x : Need, x = ⟨59, #[], #[.pointer (some ⟨w.heap.size, 0, none⟩), .pointer (some ⟨w.heap.size + 1, 0, none⟩)], 0⟩ := ⟨_, rfl⟩
  have X2 := Lib.hid hx2
  clear hx2
  obtain ⟨x3, hx3⟩ : ∃ x : Need, x = ⟨50, #[], #[.pointer (some ⟨w1.heap.size + 2, 0, none⟩), .pointer (some ⟨w1.heap.size, 0, none⟩), .pointer (some ⟨w1.heap.size + 1, 0, none⟩)], 0⟩ := ⟨_, rfl⟩
  have X3 := Lib.hid hx3
  clear hx3
  obtain ⟨x4, hx4⟩ : ∃ x : Need, x = ⟨61, #[], #[.pointer (some ⟨w2.heap.size, 0, none⟩), .pointer (some ⟨w2.heap.size + 1, 0, none⟩), .pointer (some ⟨w2.heap.size + 2, 0, none⟩)], 0⟩ := ⟨_, rfl⟩
  have X4 := Lib.hid hx4
  clear hx4
  go_wp2_with (refine list_val (op := { dst := some 25, op := _, type := _, pos := _, after := _, guard := _ }) rfl (v := .slice (some ⟨w3.heap.size, 0, none⟩) 4 4) (w' := w3.alloc (.cells #[nilN.v, x2.v, x3.v, x4.v] 73)) (by rw [X2.out, X3.out, X4.out]; kernel_rfl) ?_)
  have ba := (Below.refl _ w3).alloc (Nat.le_refl _) (.cells #[nilN.v, x2.v, x3.v, x4.v] 73)
  have hA := At.new w3 #[nilN.v, x2.v, x3.v, x4.v] 73
  have ZA := Lib.hid (Z3.out.trans (ba.mono Z3.out.size))
  obtain ⟨B, hBB⟩ : ∃ B, B = w3.heap.size := ⟨_, rfl⟩
  rw [← hBB] at hA ⊢
  generalize w3.alloc (.cells #[nilN.v, x2.v, x3.v, x4.v] 73) = wa at *
  clear ba hBB
  refine (first_nil B 4 [x2, x3, x4] (by show 3 ≤ 999; omega) wa hA).mono ?_
  rintro e wb ⟨rfl, b⟩
  have ZB := Lib.hid (ZA.out.trans (b.mono ZA.out.size))
  clear b hA
  go_wp2_with fail
  go_ret
  exact ⟨rfl, ZB.out⟩
set_option maxHeartbeats 2000000 in
theorem chmod_nil (x m : Int) (w : World) : Calls Try.prog 21 #[.pointer none, .int .i64 x, .int .i64 m] w fun e w' => e = .returned (.int .i64 1) ∧ Below w.heap.size w w' := by
  have hmf := makes
  go_enter Try.func21, Try.ntmps21
  have Z0 := Lib.hid (Below.refl w.heap.size w)
  go_wp2_with fail
  refine (isMode_mk m w).mono ?_
  rintro e w1 ⟨rfl, _, b⟩
  have Z1 := Lib.hid (Z0.out.trans (b.mono Z0.out.size))
  clear b
  go_wp2_with fail
  refine (has_nk x w1).mono ?_
  rintro e w2 ⟨rfl, b⟩
  have Z2 := Lib.hid (Z1.out.trans (b.mono Z1.out.size))
  clear b
  obtain ⟨x2, hx2⟩ : ∃ x : Need, x = ⟨66, #[], #[.pointer (some ⟨w.heap.size, 0, none⟩)], 0⟩ := ⟨_, rfl⟩
  have X2 := Lib.hid hx2
  clear hx2
  obtain ⟨x3, hx3⟩ : ∃ x : Need, x = ⟨67, #[], #[.pointer (some ⟨w1.heap.size, 0, none⟩), .pointer (some ⟨w1.heap.size + 1, 0, none⟩)], 0⟩ := ⟨_, rfl⟩
  have X3 := Lib.hid hx3
  clear hx3
  go_wp2_with (refine list_val (op := { dst := some 15, op := _, type := _, pos := _, after := _, guard := _ }) rfl (v := .slice (some ⟨w2.heap.size, 0, none⟩) 3 3) (w' := w2.alloc (.cells #[nilN.v, x2.v, x3.v] 73)) (by rw [X2.out, X3.out]; kernel_rfl) ?_)
  have ba := (Below.refl _ w2).alloc (Nat.le_refl _) (.cells #[nilN.v, x2.v, x3.v] 73)
  have hA := At.new w2 #[nilN.v, x2.v, x3.v] 73
  have ZA := Lib.hid (Z2.out.trans (ba.mono Z2.out.size))
  obtain ⟨B, hBB⟩ : ∃ B, B = w2.heap.size := ⟨_, rfl⟩
  rw [← hBB] at hA ⊢
  generalize w2.alloc (.cells #[nilN.v, x2.v, x3.v] 73) = wa at *
  clear ba hBB
  refine (first_nil B 3 [x2, x3] (by show 2 ≤ 999; omega) wa hA).mono ?_
  rintro e wb ⟨rfl, b⟩
  have ZB := Lib.hid (ZA.out.trans (b.mono ZA.out.size))
  clear b hA
  go_wp2_with fail
  go_ret
  exact ⟨rfl, ZB.out⟩
set_option maxHeartbeats 4000000 in
theorem write_nil (x : Int) (dt : List UInt8) (w : World) : Calls Try.prog 20 #[.pointer none, .int .i64 x, .string (bs dt)] w fun e w' => e = .returned (.int .i64 1) ∧ Below w.heap.size w w' := by
  have hmf := makes
  go_enter Try.func20, Try.ntmps20
  go_wp2_with (first
    | (with_reducible refine box_one rfl 26 (.tmp 0) rfl (.pointer none) rfl rfl ?_; intro u1 hu1 bu1 zu1; have HU1 := Lib.hid hu1; have BU1 := Lib.hid bu1; clear hu1 bu1)
    | (with_reducible refine box_one rfl 3 (.tmp 1) rfl (.int .i64 x) rfl rfl ?_; intro u2 hu2 bu2 zu2; rw [zu1] at hu2 zu2; have HU2 := Lib.hid hu2; have HV1 := Lib.hid (HU1.out.below bu2 HU1.out.lt); have BU2 := Lib.hid (BU1.out.trans (bu2.mono BU1.out.size)); clear hu2 bu2)
    | (with_reducible refine box_one rfl 9 (.tmp 2) rfl (.string (bs dt)) rfl rfl ?_; intro u3 hu3 bu3 zu3; rw [zu2] at hu3 zu3; have HU3 := Lib.hid hu3; have HV2 := Lib.hid (HU2.out.below bu3 HU2.out.lt); have HX1 := Lib.hid (HV1.out.below bu3 HV1.out.lt); have BU3 := Lib.hid (BU2.out.trans (bu3.mono BU2.out.size)); clear hu3 bu3))
  obtain ⟨B0, hB0⟩ : ∃ B0, B0 = w.heap.size := ⟨_, rfl⟩
  obtain ⟨B1, hB1⟩ : ∃ B1, B1 = w.heap.size + 1 := ⟨_, rfl⟩
  obtain ⟨B2, hB2⟩ : ∃ B2, B2 = w.heap.size + 1 + 1 := ⟨_, rfl⟩
  have S0 : (fun W => At W B0 26 [.pointer none] ∧ At W B1 3 [.int .i64 x]) u3.drew := ⟨hB0 ▸ HX1.out.drew, hB1 ▸ HV2.out.drew⟩
  have Q0 := BU3.out.trans ((below_dr u3).mono BU3.out.size)
  refine region_any (fun W => At W B0 26 [.pointer none] ∧ At W B1 3 [.int .i64 x]) 9 (by kernel_rfl) ?_
  show wpAnyT _ _ _ _ _ _ _ _ _ u3.drew
  generalize u3.drew = v0 at S0 Q0 ⊢
  rw [← hB2, ← hB1, ← hB0]
  clear hB0 hB1 hB2 zu1 zu2 zu3
  refine wpAnyT_takeN (i := 0) (v := .pointer none) rfl (by decide) (by kernel_rfl) (by kernel_rfl) (by kernel_rfl) (fun _ _ _ h => h) (.inl ⟨by kernel_rfl, fun W hS => run_load_one 26 (.tmp 3) rfl ⟨B0, 0, none⟩ (by kernel_rfl) _ (hS.1.cell 0 _ rfl) _ Try.underlying26 rfl⟩) S0 ?_
  refine wpAnyT_takeN (i := 1) (v := .func (.func 30) #[.pointer none] #[]) rfl (by decide) (by kernel_rfl) (by kernel_rfl) (by kernel_rfl) (fun _ _ _ h => h) (.inl ⟨by kernel_rfl, fun W hS => by kernel_rfl⟩) S0 ?_
  refine wpAnyT_takeN (i := 2) (v := .pointer none) rfl (by decide) (by kernel_rfl) (by kernel_rfl) (by kernel_rfl) (fun _ _ _ h => h) (.inl ⟨by kernel_rfl, fun W hS => run_load_one 26 (.tmp 3) rfl ⟨B0, 0, none⟩ (by kernel_rfl) _ (hS.1.cell 0 _ rfl) _ Try.underlying26 rfl⟩) S0 ?_
  refine wpAnyT_takeN (i := 3) (v := .int .i64 x) rfl (by decide) (by kernel_rfl) (by kernel_rfl) (by kernel_rfl) (fun _ _ _ h => h) (.inl ⟨by kernel_rfl, fun W hS => run_load_one 3 (.tmp 4) rfl ⟨B1, 0, none⟩ (by kernel_rfl) _ (hS.2.cell 0 _ rfl) _ Try.underlying3 rfl⟩) S0 ?_
  refine wpAnyT_takeN (i := 5) (v := .func (.func 43) #[] #[.pointer (some ⟨B0, 0, none⟩), .pointer (some ⟨B2, 0, none⟩), .pointer (some ⟨B1, 0, none⟩)]) rfl (by decide) (by kernel_rfl) (by kernel_rfl) (by kernel_rfl) (fun _ _ _ h => h) (.inl ⟨by kernel_rfl, fun W hS => by kernel_rfl⟩) S0 ?_
  refine wpAnyT_call (i := 4) (by kernel_rfl) rfl (by kernel_rfl) 42 #[.pointer none, .int .i64 x] (by kernel_rfl) ((isFile_nk x v0).mono ?_)
  rintro e w1 ⟨rfl, b1⟩
  have S1 : (fun W => At W B0 26 [.pointer none] ∧ At W B1 3 [.int .i64 x]) w1 := ⟨S0.1.below b1 S0.1.lt, S0.2.below b1 S0.2.lt⟩
  have Q1 := Q0.trans (b1.mono Q0.size)
  refine ⟨_, rfl, S1, ?_⟩
  obtain ⟨x2, hx2⟩ : ∃ x2 : Need, x2 = ⟨64, #[], #[.pointer (some ⟨v0.heap.size, 0, none⟩), .pointer (some ⟨v0.heap.size + 1, 0, none⟩)], 0⟩ := ⟨_, rfl⟩
  obtain ⟨x3, hx3⟩ : ∃ x3 : Need, x3 = ⟨43, #[], #[.pointer (some ⟨B0, 0, none⟩), .pointer (some ⟨B2, 0, none⟩), .pointer (some ⟨B1, 0, none⟩)], 0⟩ := ⟨_, rfl⟩
  refine wpAnyT_val (i := 6) (v := .slice (some ⟨w1.heap.size, 0, none⟩) 3 3) (w' := w1.alloc (.cells #[nilN.v, x2.v, x3.v] 73)) (by kernel_rfl) rfl (by kernel_rfl) (by rw [hx2, hx3]; kernel_rfl) ?_
  have ba := (Below.refl _ w1).alloc (Nat.le_refl _) (.cells #[nilN.v, x2.v, x3.v] 73)
  have hA := At.new w1 #[nilN.v, x2.v, x3.v] 73
  have Q2 := Q1.trans (ba.mono Q1.size)
  have S2 : (fun W => At W B0 26 [.pointer none] ∧ At W B1 3 [.int .i64 x]) (w1.alloc (.cells #[nilN.v, x2.v, x3.v] 73)) := ⟨S1.1.below ba S1.1.lt, S1.2.below ba S1.2.lt⟩
  obtain ⟨B, hBB⟩ : ∃ B, B = w1.heap.size := ⟨_, rfl⟩
  rw [← hBB] at hA ⊢
  generalize w1.alloc (.cells #[nilN.v, x2.v, x3.v] 73) = w2 at *
  refine ⟨S2, ?_⟩
  refine wpAnyT_call (i := 7) (by kernel_rfl) rfl (by kernel_rfl) 29 #[.slice (some ⟨B, 0, none⟩) 3 3] (by kernel_rfl) ((first_nil B 3 [x2, x3] (by show 2 ≤ 999; omega) w2 hA).mono ?_)
  rintro e w3 ⟨rfl, b3⟩
  have Q3 := Q2.trans (b3.mono Q2.size)
  have S3 : (fun W => At W B0 26 [.pointer none] ∧ At W B1 3 [.int .i64 x]) w3 := ⟨S2.1.below b3 S2.1.lt, S2.2.below b3 S2.2.lt⟩
  refine ⟨_, rfl, S3, ?_⟩
  refine wpAnyT_takeN (i := 8) (v := .int .i64 1) rfl (by decide) (by kernel_rfl) (by kernel_rfl) (by kernel_rfl) (fun _ _ _ h => h) (.inl ⟨by kernel_rfl, fun W hS => by kernel_rfl⟩) S3 ?_
  refine wpAnyT_done (by kernel_rfl) ?_ _
  simp only [Act.put, List.getElem_toArray, List.getElem_cons_succ, List.getElem_cons_zero, List.setIfInBounds_toArray, List.set_cons_zero, List.set_cons_succ]
  have QQ := Lib.hid Q3
  clear S0 Q0 S1 Q1 S2 Q2 S3 Q3 b1 b3 ba hA hx2 hx3 hBB
  go_wp2_with fail
  go_ret
  exact ⟨rfl, QQ.out⟩
end Go.Proofs.Ytgifdmfnecombaa
