/- The functions that make closures. -/
import Derived.Test.YtgifdmfnecombaaIg
namespace Go.Proofs.Ytgifdmfnecombaa
open Go.RowKit
set_option maxRecDepth 100000
theorem makes (fn : Fn) (first cap : Array Value) (w : World) : (Instr.makeFunc fn first cap).run Try.prog w = .ok (.func fn first cap) w := rfl
theorem has_mk (tb : Nat) (k0 : Int) (w : World) : Calls Try.prog 45 #[tabV tb, .int .i64 k0] w fun e w' => e = .returned (.func (.func 67) #[] #[.pointer (some ⟨w.heap.size, 0, none⟩), .pointer (some ⟨w.heap.size + 1, 0, none⟩)]) ∧ At w' (w.heap.size) 26 [tabV tb] ∧ At w' (w.heap.size + 1) 3 [.int .i64 k0] ∧ Below w.heap.size w w' := by
  have hmf := makes
  unfold tabV
  have z0 : (w.alloc (.cells #[.pointer (some ⟨tb, 0, none⟩)] 26)).heap.size = w.heap.size + 1 := by rw [World.size_alloc]
  have z1 : ((w.alloc (.cells #[.pointer (some ⟨tb, 0, none⟩)] 26)).alloc (.cells #[.int .i64 k0] 3)).heap.size = w.heap.size + 2 := by rw [World.size_alloc]; rw [z0]
  have a0 : At ((w.alloc (.cells #[.pointer (some ⟨tb, 0, none⟩)] 26)).alloc (.cells #[.int .i64 k0] 3)) (w.heap.size) 26 [.pointer (some ⟨tb, 0, none⟩)] := by
    have h := At.new w #[.pointer (some ⟨tb, 0, none⟩)] 26
    exact (h.alloc (.cells #[.int .i64 k0] 3))
  have a1 : At ((w.alloc (.cells #[.pointer (some ⟨tb, 0, none⟩)] 26)).alloc (.cells #[.int .i64 k0] 3)) (w.heap.size + 1) 3 [.int .i64 k0] := by
    have h := At.new (w.alloc (.cells #[.pointer (some ⟨tb, 0, none⟩)] 26)) #[.int .i64 k0] 3
    rw [z0] at h
    exact h
  have bb : Below w.heap.size w ((w.alloc (.cells #[.pointer (some ⟨tb, 0, none⟩)] 26)).alloc (.cells #[.int .i64 k0] 3)) := (((Below.refl _ w).alloc (by first | exact Nat.le_refl _ | (simp only [World.size_alloc]; omega)) (.cells #[.pointer (some ⟨tb, 0, none⟩)] 26)).alloc (by first | exact Nat.le_refl _ | (simp only [World.size_alloc]; omega)) (.cells #[.int .i64 k0] 3))
  have AA := Lib.hid (show At ((w.alloc (.cells #[.pointer (some ⟨tb, 0, none⟩)] 26)).alloc (.cells #[.int .i64 k0] 3)) (w.heap.size) 26 [.pointer (some ⟨tb, 0, none⟩)] ∧ At ((w.alloc (.cells #[.pointer (some ⟨tb, 0, none⟩)] 26)).alloc (.cells #[.int .i64 k0] 3)) (w.heap.size + 1) 3 [.int .i64 k0] ∧ Below w.heap.size w ((w.alloc (.cells #[.pointer (some ⟨tb, 0, none⟩)] 26)).alloc (.cells #[.int .i64 k0] 3)) from ⟨a0, a1, bb⟩)
  clear a0 a1 bb
  go_enter Try.func45, Try.ntmps45
  go_wp2_with fail
  go_ret
  exact ⟨rfl, AA.out⟩
theorem isDir_mk (tb : Nat) (k0 : Int) (w : World) : Calls Try.prog 36 #[tabV tb, .int .i64 k0] w fun e w' => e = .returned (.func (.func 59) #[] #[.pointer (some ⟨w.heap.size, 0, none⟩), .pointer (some ⟨w.heap.size + 1, 0, none⟩)]) ∧ At w' (w.heap.size) 26 [tabV tb] ∧ At w' (w.heap.size + 1) 3 [.int .i64 k0] ∧ Below w.heap.size w w' := by
  have hmf := makes
  unfold tabV
  have z0 : (w.alloc (.cells #[.pointer (some ⟨tb, 0, none⟩)] 26)).heap.size = w.heap.size + 1 := by rw [World.size_alloc]
  have z1 : ((w.alloc (.cells #[.pointer (some ⟨tb, 0, none⟩)] 26)).alloc (.cells #[.int .i64 k0] 3)).heap.size = w.heap.size + 2 := by rw [World.size_alloc]; rw [z0]
  have a0 : At ((w.alloc (.cells #[.pointer (some ⟨tb, 0, none⟩)] 26)).alloc (.cells #[.int .i64 k0] 3)) (w.heap.size) 26 [.pointer (some ⟨tb, 0, none⟩)] := by
    have h := At.new w #[.pointer (some ⟨tb, 0, none⟩)] 26
    exact (h.alloc (.cells #[.int .i64 k0] 3))
  have a1 : At ((w.alloc (.cells #[.pointer (some ⟨tb, 0, none⟩)] 26)).alloc (.cells #[.int .i64 k0] 3)) (w.heap.size + 1) 3 [.int .i64 k0] := by
    have h := At.new (w.alloc (.cells #[.pointer (some ⟨tb, 0, none⟩)] 26)) #[.int .i64 k0] 3
    rw [z0] at h
    exact h
  have bb : Below w.heap.size w ((w.alloc (.cells #[.pointer (some ⟨tb, 0, none⟩)] 26)).alloc (.cells #[.int .i64 k0] 3)) := (((Below.refl _ w).alloc (by first | exact Nat.le_refl _ | (simp only [World.size_alloc]; omega)) (.cells #[.pointer (some ⟨tb, 0, none⟩)] 26)).alloc (by first | exact Nat.le_refl _ | (simp only [World.size_alloc]; omega)) (.cells #[.int .i64 k0] 3))
  have AA := Lib.hid (show At ((w.alloc (.cells #[.pointer (some ⟨tb, 0, none⟩)] 26)).alloc (.cells #[.int .i64 k0] 3)) (w.heap.size) 26 [.pointer (some ⟨tb, 0, none⟩)] ∧ At ((w.alloc (.cells #[.pointer (some ⟨tb, 0, none⟩)] 26)).alloc (.cells #[.int .i64 k0] 3)) (w.heap.size + 1) 3 [.int .i64 k0] ∧ Below w.heap.size w ((w.alloc (.cells #[.pointer (some ⟨tb, 0, none⟩)] 26)).alloc (.cells #[.int .i64 k0] 3)) from ⟨a0, a1, bb⟩)
  clear a0 a1 bb
  go_enter Try.func36, Try.ntmps36
  go_wp2_with fail
  go_ret
  exact ⟨rfl, AA.out⟩
theorem isFile_mk (tb : Nat) (k0 : Int) (w : World) : Calls Try.prog 42 #[tabV tb, .int .i64 k0] w fun e w' => e = .returned (.func (.func 64) #[] #[.pointer (some ⟨w.heap.size, 0, none⟩), .pointer (some ⟨w.heap.size + 1, 0, none⟩)]) ∧ At w' (w.heap.size) 26 [tabV tb] ∧ At w' (w.heap.size + 1) 3 [.int .i64 k0] ∧ Below w.heap.size w w' := by
  have hmf := makes
  unfold tabV
  have z0 : (w.alloc (.cells #[.pointer (some ⟨tb, 0, none⟩)] 26)).heap.size = w.heap.size + 1 := by rw [World.size_alloc]
  have z1 : ((w.alloc (.cells #[.pointer (some ⟨tb, 0, none⟩)] 26)).alloc (.cells #[.int .i64 k0] 3)).heap.size = w.heap.size + 2 := by rw [World.size_alloc]; rw [z0]
  have a0 : At ((w.alloc (.cells #[.pointer (some ⟨tb, 0, none⟩)] 26)).alloc (.cells #[.int .i64 k0] 3)) (w.heap.size) 26 [.pointer (some ⟨tb, 0, none⟩)] := by
    have h := At.new w #[.pointer (some ⟨tb, 0, none⟩)] 26
    exact (h.alloc (.cells #[.int .i64 k0] 3))
  have a1 : At ((w.alloc (.cells #[.pointer (some ⟨tb, 0, none⟩)] 26)).alloc (.cells #[.int .i64 k0] 3)) (w.heap.size + 1) 3 [.int .i64 k0] := by
    have h := At.new (w.alloc (.cells #[.pointer (some ⟨tb, 0, none⟩)] 26)) #[.int .i64 k0] 3
    rw [z0] at h
    exact h
  have bb : Below w.heap.size w ((w.alloc (.cells #[.pointer (some ⟨tb, 0, none⟩)] 26)).alloc (.cells #[.int .i64 k0] 3)) := (((Below.refl _ w).alloc (by first | exact Nat.le_refl _ | (simp only [World.size_alloc]; omega)) (.cells #[.pointer (some ⟨tb, 0, none⟩)] 26)).alloc (by first | exact Nat.le_refl _ | (simp only [World.size_alloc]; omega)) (.cells #[.int .i64 k0] 3))
  have AA := Lib.hid (show At ((w.alloc (.cells #[.pointer (some ⟨tb, 0, none⟩)] 26)).alloc (.cells #[.int .i64 k0] 3)) (w.heap.size) 26 [.pointer (some ⟨tb, 0, none⟩)] ∧ At ((w.alloc (.cells #[.pointer (some ⟨tb, 0, none⟩)] 26)).alloc (.cells #[.int .i64 k0] 3)) (w.heap.size + 1) 3 [.int .i64 k0] ∧ Below w.heap.size w ((w.alloc (.cells #[.pointer (some ⟨tb, 0, none⟩)] 26)).alloc (.cells #[.int .i64 k0] 3)) from ⟨a0, a1, bb⟩)
  clear a0 a1 bb
  go_enter Try.func42, Try.ntmps42
  go_wp2_with fail
  go_ret
  exact ⟨rfl, AA.out⟩
theorem place_mk (tb : Nat) (k0 : Int) (s : List UInt8) (w : World) : Calls Try.prog 31 #[tabV tb, .int .i64 k0, .string (bs s)] w fun e w' => e = .returned (.func (.func 50) #[] #[.pointer (some ⟨w.heap.size + 2, 0, none⟩), .pointer (some ⟨w.heap.size, 0, none⟩), .pointer (some ⟨w.heap.size + 1, 0, none⟩)]) ∧ At w' (w.heap.size) 26 [tabV tb] ∧ At w' (w.heap.size + 1) 3 [.int .i64 k0] ∧ At w' (w.heap.size + 2) 9 [.string (bs s)] ∧ Below w.heap.size w w' := by
  have hmf := makes
  unfold tabV
  have z0 : (w.alloc (.cells #[.pointer (some ⟨tb, 0, none⟩)] 26)).heap.size = w.heap.size + 1 := by rw [World.size_alloc]
  have z1 : ((w.alloc (.cells #[.pointer (some ⟨tb, 0, none⟩)] 26)).alloc (.cells #[.int .i64 k0] 3)).heap.size = w.heap.size + 2 := by rw [World.size_alloc]; rw [z0]
  have z2 : (((w.alloc (.cells #[.pointer (some ⟨tb, 0, none⟩)] 26)).alloc (.cells #[.int .i64 k0] 3)).alloc (.cells #[.string (bs s)] 9)).heap.size = w.heap.size + 3 := by rw [World.size_alloc]; rw [z1]
  have a0 : At (((w.alloc (.cells #[.pointer (some ⟨tb, 0, none⟩)] 26)).alloc (.cells #[.int .i64 k0] 3)).alloc (.cells #[.string (bs s)] 9)) (w.heap.size) 26 [.pointer (some ⟨tb, 0, none⟩)] := by
    have h := At.new w #[.pointer (some ⟨tb, 0, none⟩)] 26
    exact ((h.alloc (.cells #[.int .i64 k0] 3)).alloc (.cells #[.string (bs s)] 9))
  have a1 : At (((w.alloc (.cells #[.pointer (some ⟨tb, 0, none⟩)] 26)).alloc (.cells #[.int .i64 k0] 3)).alloc (.cells #[.string (bs s)] 9)) (w.heap.size + 1) 3 [.int .i64 k0] := by
    have h := At.new (w.alloc (.cells #[.pointer (some ⟨tb, 0, none⟩)] 26)) #[.int .i64 k0] 3
    rw [z0] at h
    exact (h.alloc (.cells #[.string (bs s)] 9))
  have a2 : At (((w.alloc (.cells #[.pointer (some ⟨tb, 0, none⟩)] 26)).alloc (.cells #[.int .i64 k0] 3)).alloc (.cells #[.string (bs s)] 9)) (w.heap.size + 2) 9 [.string (bs s)] := by
    have h := At.new ((w.alloc (.cells #[.pointer (some ⟨tb, 0, none⟩)] 26)).alloc (.cells #[.int .i64 k0] 3)) #[.string (bs s)] 9
    rw [z1] at h
    exact h
  have bb : Below w.heap.size w (((w.alloc (.cells #[.pointer (some ⟨tb, 0, none⟩)] 26)).alloc (.cells #[.int .i64 k0] 3)).alloc (.cells #[.string (bs s)] 9)) := ((((Below.refl _ w).alloc (by first | exact Nat.le_refl _ | (simp only [World.size_alloc]; omega)) (.cells #[.pointer (some ⟨tb, 0, none⟩)] 26)).alloc (by first | exact Nat.le_refl _ | (simp only [World.size_alloc]; omega)) (.cells #[.int .i64 k0] 3)).alloc (by first | exact Nat.le_refl _ | (simp only [World.size_alloc]; omega)) (.cells #[.string (bs s)] 9))
  have AA := Lib.hid (show At (((w.alloc (.cells #[.pointer (some ⟨tb, 0, none⟩)] 26)).alloc (.cells #[.int .i64 k0] 3)).alloc (.cells #[.string (bs s)] 9)) (w.heap.size) 26 [.pointer (some ⟨tb, 0, none⟩)] ∧ At (((w.alloc (.cells #[.pointer (some ⟨tb, 0, none⟩)] 26)).alloc (.cells #[.int .i64 k0] 3)).alloc (.cells #[.string (bs s)] 9)) (w.heap.size + 1) 3 [.int .i64 k0] ∧ At (((w.alloc (.cells #[.pointer (some ⟨tb, 0, none⟩)] 26)).alloc (.cells #[.int .i64 k0] 3)).alloc (.cells #[.string (bs s)] 9)) (w.heap.size + 2) 9 [.string (bs s)] ∧ Below w.heap.size w (((w.alloc (.cells #[.pointer (some ⟨tb, 0, none⟩)] 26)).alloc (.cells #[.int .i64 k0] 3)).alloc (.cells #[.string (bs s)] 9)) from ⟨a0, a1, a2, bb⟩)
  clear a0 a1 a2 bb
  go_enter Try.func31, Try.ntmps31
  go_wp2_with fail
  go_ret
  exact ⟨rfl, AA.out⟩
theorem isFree_mk (tb : Nat) (k0 : Int) (s : List UInt8) (w : World) : Calls Try.prog 33 #[tabV tb, .int .i64 k0, .string (bs s)] w fun e w' => e = .returned (.func (.func 57) #[] #[.pointer (some ⟨w.heap.size, 0, none⟩), .pointer (some ⟨w.heap.size + 1, 0, none⟩), .pointer (some ⟨w.heap.size + 2, 0, none⟩)]) ∧ At w' (w.heap.size) 26 [tabV tb] ∧ At w' (w.heap.size + 1) 3 [.int .i64 k0] ∧ At w' (w.heap.size + 2) 9 [.string (bs s)] ∧ Below w.heap.size w w' := by
  have hmf := makes
  unfold tabV
  have z0 : (w.alloc (.cells #[.pointer (some ⟨tb, 0, none⟩)] 26)).heap.size = w.heap.size + 1 := by rw [World.size_alloc]
  have z1 : ((w.alloc (.cells #[.pointer (some ⟨tb, 0, none⟩)] 26)).alloc (.cells #[.int .i64 k0] 3)).heap.size = w.heap.size + 2 := by rw [World.size_alloc]; rw [z0]
  have z2 : (((w.alloc (.cells #[.pointer (some ⟨tb, 0, none⟩)] 26)).alloc (.cells #[.int .i64 k0] 3)).alloc (.cells #[.string (bs s)] 9)).heap.size = w.heap.size + 3 := by rw [World.size_alloc]; rw [z1]
  have a0 : At (((w.alloc (.cells #[.pointer (some ⟨tb, 0, none⟩)] 26)).alloc (.cells #[.int .i64 k0] 3)).alloc (.cells #[.string (bs s)] 9)) (w.heap.size) 26 [.pointer (some ⟨tb, 0, none⟩)] := by
    have h := At.new w #[.pointer (some ⟨tb, 0, none⟩)] 26
    exact ((h.alloc (.cells #[.int .i64 k0] 3)).alloc (.cells #[.string (bs s)] 9))
  have a1 : At (((w.alloc (.cells #[.pointer (some ⟨tb, 0, none⟩)] 26)).alloc (.cells #[.int .i64 k0] 3)).alloc (.cells #[.string (bs s)] 9)) (w.heap.size + 1) 3 [.int .i64 k0] := by
    have h := At.new (w.alloc (.cells #[.pointer (some ⟨tb, 0, none⟩)] 26)) #[.int .i64 k0] 3
    rw [z0] at h
    exact (h.alloc (.cells #[.string (bs s)] 9))
  have a2 : At (((w.alloc (.cells #[.pointer (some ⟨tb, 0, none⟩)] 26)).alloc (.cells #[.int .i64 k0] 3)).alloc (.cells #[.string (bs s)] 9)) (w.heap.size + 2) 9 [.string (bs s)] := by
    have h := At.new ((w.alloc (.cells #[.pointer (some ⟨tb, 0, none⟩)] 26)).alloc (.cells #[.int .i64 k0] 3)) #[.string (bs s)] 9
    rw [z1] at h
    exact h
  have bb : Below w.heap.size w (((w.alloc (.cells #[.pointer (some ⟨tb, 0, none⟩)] 26)).alloc (.cells #[.int .i64 k0] 3)).alloc (.cells #[.string (bs s)] 9)) := ((((Below.refl _ w).alloc (by first | exact Nat.le_refl _ | (simp only [World.size_alloc]; omega)) (.cells #[.pointer (some ⟨tb, 0, none⟩)] 26)).alloc (by first | exact Nat.le_refl _ | (simp only [World.size_alloc]; omega)) (.cells #[.int .i64 k0] 3)).alloc (by first | exact Nat.le_refl _ | (simp only [World.size_alloc]; omega)) (.cells #[.string (bs s)] 9))
  have AA := Lib.hid (show At (((w.alloc (.cells #[.pointer (some ⟨tb, 0, none⟩)] 26)).alloc (.cells #[.int .i64 k0] 3)).alloc (.cells #[.string (bs s)] 9)) (w.heap.size) 26 [.pointer (some ⟨tb, 0, none⟩)] ∧ At (((w.alloc (.cells #[.pointer (some ⟨tb, 0, none⟩)] 26)).alloc (.cells #[.int .i64 k0] 3)).alloc (.cells #[.string (bs s)] 9)) (w.heap.size + 1) 3 [.int .i64 k0] ∧ At (((w.alloc (.cells #[.pointer (some ⟨tb, 0, none⟩)] 26)).alloc (.cells #[.int .i64 k0] 3)).alloc (.cells #[.string (bs s)] 9)) (w.heap.size + 2) 9 [.string (bs s)] ∧ Below w.heap.size w (((w.alloc (.cells #[.pointer (some ⟨tb, 0, none⟩)] 26)).alloc (.cells #[.int .i64 k0] 3)).alloc (.cells #[.string (bs s)] 9)) from ⟨a0, a1, a2, bb⟩)
  clear a0 a1 a2 bb
  go_enter Try.func33, Try.ntmps33
  go_wp2_with fail
  go_ret
  exact ⟨rfl, AA.out⟩
theorem hasEntry_mk (tb : Nat) (k0 : Int) (s : List UInt8) (w : World) : Calls Try.prog 37 #[tabV tb, .int .i64 k0, .string (bs s)] w fun e w' => e = .returned (.func (.func 61) #[] #[.pointer (some ⟨w.heap.size, 0, none⟩), .pointer (some ⟨w.heap.size + 1, 0, none⟩), .pointer (some ⟨w.heap.size + 2, 0, none⟩)]) ∧ At w' (w.heap.size) 26 [tabV tb] ∧ At w' (w.heap.size + 1) 3 [.int .i64 k0] ∧ At w' (w.heap.size + 2) 9 [.string (bs s)] ∧ Below w.heap.size w w' := by
  have hmf := makes
  unfold tabV
  have z0 : (w.alloc (.cells #[.pointer (some ⟨tb, 0, none⟩)] 26)).heap.size = w.heap.size + 1 := by rw [World.size_alloc]
  have z1 : ((w.alloc (.cells #[.pointer (some ⟨tb, 0, none⟩)] 26)).alloc (.cells #[.int .i64 k0] 3)).heap.size = w.heap.size + 2 := by rw [World.size_alloc]; rw [z0]
  have z2 : (((w.alloc (.cells #[.pointer (some ⟨tb, 0, none⟩)] 26)).alloc (.cells #[.int .i64 k0] 3)).alloc (.cells #[.string (bs s)] 9)).heap.size = w.heap.size + 3 := by rw [World.size_alloc]; rw [z1]
  have a0 : At (((w.alloc (.cells #[.pointer (some ⟨tb, 0, none⟩)] 26)).alloc (.cells #[.int .i64 k0] 3)).alloc (.cells #[.string (bs s)] 9)) (w.heap.size) 26 [.pointer (some ⟨tb, 0, none⟩)] := by
    have h := At.new w #[.pointer (some ⟨tb, 0, none⟩)] 26
    exact ((h.alloc (.cells #[.int .i64 k0] 3)).alloc (.cells #[.string (bs s)] 9))
  have a1 : At (((w.alloc (.cells #[.pointer (some ⟨tb, 0, none⟩)] 26)).alloc (.cells #[.int .i64 k0] 3)).alloc (.cells #[.string (bs s)] 9)) (w.heap.size + 1) 3 [.int .i64 k0] := by
    have h := At.new (w.alloc (.cells #[.pointer (some ⟨tb, 0, none⟩)] 26)) #[.int .i64 k0] 3
    rw [z0] at h
    exact (h.alloc (.cells #[.string (bs s)] 9))
  have a2 : At (((w.alloc (.cells #[.pointer (some ⟨tb, 0, none⟩)] 26)).alloc (.cells #[.int .i64 k0] 3)).alloc (.cells #[.string (bs s)] 9)) (w.heap.size + 2) 9 [.string (bs s)] := by
    have h := At.new ((w.alloc (.cells #[.pointer (some ⟨tb, 0, none⟩)] 26)).alloc (.cells #[.int .i64 k0] 3)) #[.string (bs s)] 9
    rw [z1] at h
    exact h
  have bb : Below w.heap.size w (((w.alloc (.cells #[.pointer (some ⟨tb, 0, none⟩)] 26)).alloc (.cells #[.int .i64 k0] 3)).alloc (.cells #[.string (bs s)] 9)) := ((((Below.refl _ w).alloc (by first | exact Nat.le_refl _ | (simp only [World.size_alloc]; omega)) (.cells #[.pointer (some ⟨tb, 0, none⟩)] 26)).alloc (by first | exact Nat.le_refl _ | (simp only [World.size_alloc]; omega)) (.cells #[.int .i64 k0] 3)).alloc (by first | exact Nat.le_refl _ | (simp only [World.size_alloc]; omega)) (.cells #[.string (bs s)] 9))
  have AA := Lib.hid (show At (((w.alloc (.cells #[.pointer (some ⟨tb, 0, none⟩)] 26)).alloc (.cells #[.int .i64 k0] 3)).alloc (.cells #[.string (bs s)] 9)) (w.heap.size) 26 [.pointer (some ⟨tb, 0, none⟩)] ∧ At (((w.alloc (.cells #[.pointer (some ⟨tb, 0, none⟩)] 26)).alloc (.cells #[.int .i64 k0] 3)).alloc (.cells #[.string (bs s)] 9)) (w.heap.size + 1) 3 [.int .i64 k0] ∧ At (((w.alloc (.cells #[.pointer (some ⟨tb, 0, none⟩)] 26)).alloc (.cells #[.int .i64 k0] 3)).alloc (.cells #[.string (bs s)] 9)) (w.heap.size + 2) 9 [.string (bs s)] ∧ Below w.heap.size w (((w.alloc (.cells #[.pointer (some ⟨tb, 0, none⟩)] 26)).alloc (.cells #[.int .i64 k0] 3)).alloc (.cells #[.string (bs s)] 9)) from ⟨a0, a1, a2, bb⟩)
  clear a0 a1 a2 bb
  go_enter Try.func37, Try.ntmps37
  go_wp2_with fail
  go_ret
  exact ⟨rfl, AA.out⟩
theorem isNotInUse_mk (tb : Nat) (k0 : Int) (s : List UInt8) (w : World) : Calls Try.prog 40 #[tabV tb, .int .i64 k0, .string (bs s)] w fun e w' => e = .returned (.func (.func 63) #[] #[.pointer (some ⟨w.heap.size, 0, none⟩), .pointer (some ⟨w.heap.size + 1, 0, none⟩), .pointer (some ⟨w.heap.size + 2, 0, none⟩)]) ∧ At w' (w.heap.size) 26 [tabV tb] ∧ At w' (w.heap.size + 1) 3 [.int .i64 k0] ∧ At w' (w.heap.size + 2) 9 [.string (bs s)] ∧ Below w.heap.size w w' := by
  have hmf := makes
  unfold tabV
  have z0 : (w.alloc (.cells #[.pointer (some ⟨tb, 0, none⟩)] 26)).heap.size = w.heap.size + 1 := by rw [World.size_alloc]
  have z1 : ((w.alloc (.cells #[.pointer (some ⟨tb, 0, none⟩)] 26)).alloc (.cells #[.int .i64 k0] 3)).heap.size = w.heap.size + 2 := by rw [World.size_alloc]; rw [z0]
  have z2 : (((w.alloc (.cells #[.pointer (some ⟨tb, 0, none⟩)] 26)).alloc (.cells #[.int .i64 k0] 3)).alloc (.cells #[.string (bs s)] 9)).heap.size = w.heap.size + 3 := by rw [World.size_alloc]; rw [z1]
  have a0 : At (((w.alloc (.cells #[.pointer (some ⟨tb, 0, none⟩)] 26)).alloc (.cells #[.int .i64 k0] 3)).alloc (.cells #[.string (bs s)] 9)) (w.heap.size) 26 [.pointer (some ⟨tb, 0, none⟩)] := by
    have h := At.new w #[.pointer (some ⟨tb, 0, none⟩)] 26
    exact ((h.alloc (.cells #[.int .i64 k0] 3)).alloc (.cells #[.string (bs s)] 9))
  have a1 : At (((w.alloc (.cells #[.pointer (some ⟨tb, 0, none⟩)] 26)).alloc (.cells #[.int .i64 k0] 3)).alloc (.cells #[.string (bs s)] 9)) (w.heap.size + 1) 3 [.int .i64 k0] := by
    have h := At.new (w.alloc (.cells #[.pointer (some ⟨tb, 0, none⟩)] 26)) #[.int .i64 k0] 3
    rw [z0] at h
    exact (h.alloc (.cells #[.string (bs s)] 9))
  have a2 : At (((w.alloc (.cells #[.pointer (some ⟨tb, 0, none⟩)] 26)).alloc (.cells #[.int .i64 k0] 3)).alloc (.cells #[.string (bs s)] 9)) (w.heap.size + 2) 9 [.string (bs s)] := by
    have h := At.new ((w.alloc (.cells #[.pointer (some ⟨tb, 0, none⟩)] 26)).alloc (.cells #[.int .i64 k0] 3)) #[.string (bs s)] 9
    rw [z1] at h
    exact h
  have bb : Below w.heap.size w (((w.alloc (.cells #[.pointer (some ⟨tb, 0, none⟩)] 26)).alloc (.cells #[.int .i64 k0] 3)).alloc (.cells #[.string (bs s)] 9)) := ((((Below.refl _ w).alloc (by first | exact Nat.le_refl _ | (simp only [World.size_alloc]; omega)) (.cells #[.pointer (some ⟨tb, 0, none⟩)] 26)).alloc (by first | exact Nat.le_refl _ | (simp only [World.size_alloc]; omega)) (.cells #[.int .i64 k0] 3)).alloc (by first | exact Nat.le_refl _ | (simp only [World.size_alloc]; omega)) (.cells #[.string (bs s)] 9))
  have AA := Lib.hid (show At (((w.alloc (.cells #[.pointer (some ⟨tb, 0, none⟩)] 26)).alloc (.cells #[.int .i64 k0] 3)).alloc (.cells #[.string (bs s)] 9)) (w.heap.size) 26 [.pointer (some ⟨tb, 0, none⟩)] ∧ At (((w.alloc (.cells #[.pointer (some ⟨tb, 0, none⟩)] 26)).alloc (.cells #[.int .i64 k0] 3)).alloc (.cells #[.string (bs s)] 9)) (w.heap.size + 1) 3 [.int .i64 k0] ∧ At (((w.alloc (.cells #[.pointer (some ⟨tb, 0, none⟩)] 26)).alloc (.cells #[.int .i64 k0] 3)).alloc (.cells #[.string (bs s)] 9)) (w.heap.size + 2) 9 [.string (bs s)] ∧ Below w.heap.size w (((w.alloc (.cells #[.pointer (some ⟨tb, 0, none⟩)] 26)).alloc (.cells #[.int .i64 k0] 3)).alloc (.cells #[.string (bs s)] 9)) from ⟨a0, a1, a2, bb⟩)
  clear a0 a1 a2 bb
  go_enter Try.func40, Try.ntmps40
  go_wp2_with fail
  go_ret
  exact ⟨rfl, AA.out⟩
theorem isNotAbove_mk (tb : Nat) (k0 : Int) (k1 : Int) (s : List UInt8) (w : World) : Calls Try.prog 38 #[tabV tb, .int .i64 k0, .int .i64 k1, .string (bs s)] w fun e w' => e = .returned (.func (.func 62) #[] #[.pointer (some ⟨w.heap.size, 0, none⟩), .pointer (some ⟨w.heap.size + 2, 0, none⟩), .pointer (some ⟨w.heap.size + 3, 0, none⟩), .pointer (some ⟨w.heap.size + 1, 0, none⟩)]) ∧ At w' (w.heap.size) 26 [tabV tb] ∧ At w' (w.heap.size + 1) 3 [.int .i64 k0] ∧ At w' (w.heap.size + 2) 3 [.int .i64 k1] ∧ At w' (w.heap.size + 3) 9 [.string (bs s)] ∧ Below w.heap.size w w' := by
  have hmf := makes
  unfold tabV
  have z0 : (w.alloc (.cells #[.pointer (some ⟨tb, 0, none⟩)] 26)).heap.size = w.heap.size + 1 := by rw [World.size_alloc]
  have z1 : ((w.alloc (.cells #[.pointer (some ⟨tb, 0, none⟩)] 26)).alloc (.cells #[.int .i64 k0] 3)).heap.size = w.heap.size + 2 := by rw [World.size_alloc]; rw [z0]
  have z2 : (((w.alloc (.cells #[.pointer (some ⟨tb, 0, none⟩)] 26)).alloc (.cells #[.int .i64 k0] 3)).alloc (.cells #[.int .i64 k1] 3)).heap.size = w.heap.size + 3 := by rw [World.size_alloc]; rw [z1]
  have z3 : ((((w.alloc (.cells #[.pointer (some ⟨tb, 0, none⟩)] 26)).alloc (.cells #[.int .i64 k0] 3)).alloc (.cells #[.int .i64 k1] 3)).alloc (.cells #[.string (bs s)] 9)).heap.size = w.heap.size + 4 := by rw [World.size_alloc]; rw [z2]
  have a0 : At ((((w.alloc (.cells #[.pointer (some ⟨tb, 0, none⟩)] 26)).alloc (.cells #[.int .i64 k0] 3)).alloc (.cells #[.int .i64 k1] 3)).alloc (.cells #[.string (bs s)] 9)) (w.heap.size) 26 [.pointer (some ⟨tb, 0, none⟩)] := by
    have h := At.new w #[.pointer (some ⟨tb, 0, none⟩)] 26
    exact (((h.alloc (.cells #[.int .i64 k0] 3)).alloc (.cells #[.int .i64 k1] 3)).alloc (.cells #[.string (bs s)] 9))
  have a1 : At ((((w.alloc (.cells #[.pointer (some ⟨tb, 0, none⟩)] 26)).alloc (.cells #[.int .i64 k0] 3)).alloc (.cells #[.int .i64 k1] 3)).alloc (.cells #[.string (bs s)] 9)) (w.heap.size + 1) 3 [.int .i64 k0] := by
    have h := At.new (w.alloc (.cells #[.pointer (some ⟨tb, 0, none⟩)] 26)) #[.int .i64 k0] 3
    rw [z0] at h
    exact ((h.alloc (.cells #[.int .i64 k1] 3)).alloc (.cells #[.string (bs s)] 9))
  have a2 : At ((((w.alloc (.cells #[.pointer (some ⟨tb, 0, none⟩)] 26)).alloc (.cells #[.int .i64 k0] 3)).alloc (.cells #[.int .i64 k1] 3)).alloc (.cells #[.string (bs s)] 9)) (w.heap.size + 2) 3 [.int .i64 k1] := by
    have h := At.new ((w.alloc (.cells #[.pointer (some ⟨tb, 0, none⟩)] 26)).alloc (.cells #[.int .i64 k0] 3)) #[.int .i64 k1] 3
    rw [z1] at h
    exact (h.alloc (.cells #[.string (bs s)] 9))
  have a3 : At ((((w.alloc (.cells #[.pointer (some ⟨tb, 0, none⟩)] 26)).alloc (.cells #[.int .i64 k0] 3)).alloc (.cells #[.int .i64 k1] 3)).alloc (.cells #[.string (bs s)] 9)) (w.heap.size + 3) 9 [.string (bs s)] := by
    have h := At.new (((w.alloc (.cells #[.pointer (some ⟨tb, 0, none⟩)] 26)).alloc (.cells #[.int .i64 k0] 3)).alloc (.cells #[.int .i64 k1] 3)) #[.string (bs s)] 9
    rw [z2] at h
    exact h
  have bb : Below w.heap.size w ((((w.alloc (.cells #[.pointer (some ⟨tb, 0, none⟩)] 26)).alloc (.cells #[.int .i64 k0] 3)).alloc (.cells #[.int .i64 k1] 3)).alloc (.cells #[.string (bs s)] 9)) := (((((Below.refl _ w).alloc (by first | exact Nat.le_refl _ | (simp only [World.size_alloc]; omega)) (.cells #[.pointer (some ⟨tb, 0, none⟩)] 26)).alloc (by first | exact Nat.le_refl _ | (simp only [World.size_alloc]; omega)) (.cells #[.int .i64 k0] 3)).alloc (by first | exact Nat.le_refl _ | (simp only [World.size_alloc]; omega)) (.cells #[.int .i64 k1] 3)).alloc (by first | exact Nat.le_refl _ | (simp only [World.size_alloc]; omega)) (.cells #[.string (bs s)] 9))
  have AA := Lib.hid (show At ((((w.alloc (.cells #[.pointer (some ⟨tb, 0, none⟩)] 26)).alloc (.cells #[.int .i64 k0] 3)).alloc (.cells #[.int .i64 k1] 3)).alloc (.cells #[.string (bs s)] 9)) (w.heap.size) 26 [.pointer (some ⟨tb, 0, none⟩)] ∧ At ((((w.alloc (.cells #[.pointer (some ⟨tb, 0, none⟩)] 26)).alloc (.cells #[.int .i64 k0] 3)).alloc (.cells #[.int .i64 k1] 3)).alloc (.cells #[.string (bs s)] 9)) (w.heap.size + 1) 3 [.int .i64 k0] ∧ At ((((w.alloc (.cells #[.pointer (some ⟨tb, 0, none⟩)] 26)).alloc (.cells #[.int .i64 k0] 3)).alloc (.cells #[.int .i64 k1] 3)).alloc (.cells #[.string (bs s)] 9)) (w.heap.size + 2) 3 [.int .i64 k1] ∧ At ((((w.alloc (.cells #[.pointer (some ⟨tb, 0, none⟩)] 26)).alloc (.cells #[.int .i64 k0] 3)).alloc (.cells #[.int .i64 k1] 3)).alloc (.cells #[.string (bs s)] 9)) (w.heap.size + 3) 9 [.string (bs s)] ∧ Below w.heap.size w ((((w.alloc (.cells #[.pointer (some ⟨tb, 0, none⟩)] 26)).alloc (.cells #[.int .i64 k0] 3)).alloc (.cells #[.int .i64 k1] 3)).alloc (.cells #[.string (bs s)] 9)) from ⟨a0, a1, a2, a3, bb⟩)
  clear a0 a1 a2 a3 bb
  go_enter Try.func38, Try.ntmps38
  go_wp2_with fail
  go_ret
  exact ⟨rfl, AA.out⟩
theorem hasRoom_mk (tb : Nat) (k0 : Int) (k1 : Int) (w : World) : Calls Try.prog 34 #[tabV tb, .int .i64 k0, .int .i64 k1] w fun e w' => e = .returned (.func (.func 58) #[] #[.pointer (some ⟨w.heap.size + 1, 0, none⟩), .pointer (some ⟨w.heap.size, 0, none⟩), .pointer (some ⟨w.heap.size + 2, 0, none⟩)]) ∧ At w' (w.heap.size) 26 [tabV tb] ∧ At w' (w.heap.size + 1) 3 [.int .i64 k0] ∧ At w' (w.heap.size + 2) 3 [.int .i64 k1] ∧ Below w.heap.size w w' := by
  have hmf := makes
  unfold tabV
  have z0 : (w.alloc (.cells #[.pointer (some ⟨tb, 0, none⟩)] 26)).heap.size = w.heap.size + 1 := by rw [World.size_alloc]
  have z1 : ((w.alloc (.cells #[.pointer (some ⟨tb, 0, none⟩)] 26)).alloc (.cells #[.int .i64 k0] 3)).heap.size = w.heap.size + 2 := by rw [World.size_alloc]; rw [z0]
  have z2 : (((w.alloc (.cells #[.pointer (some ⟨tb, 0, none⟩)] 26)).alloc (.cells #[.int .i64 k0] 3)).alloc (.cells #[.int .i64 k1] 3)).heap.size = w.heap.size + 3 := by rw [World.size_alloc]; rw [z1]
  have a0 : At (((w.alloc (.cells #[.pointer (some ⟨tb, 0, none⟩)] 26)).alloc (.cells #[.int .i64 k0] 3)).alloc (.cells #[.int .i64 k1] 3)) (w.heap.size) 26 [.pointer (some ⟨tb, 0, none⟩)] := by
    have h := At.new w #[.pointer (some ⟨tb, 0, none⟩)] 26
    exact ((h.alloc (.cells #[.int .i64 k0] 3)).alloc (.cells #[.int .i64 k1] 3))
  have a1 : At (((w.alloc (.cells #[.pointer (some ⟨tb, 0, none⟩)] 26)).alloc (.cells #[.int .i64 k0] 3)).alloc (.cells #[.int .i64 k1] 3)) (w.heap.size + 1) 3 [.int .i64 k0] := by
    have h := At.new (w.alloc (.cells #[.pointer (some ⟨tb, 0, none⟩)] 26)) #[.int .i64 k0] 3
    rw [z0] at h
    exact (h.alloc (.cells #[.int .i64 k1] 3))
  have a2 : At (((w.alloc (.cells #[.pointer (some ⟨tb, 0, none⟩)] 26)).alloc (.cells #[.int .i64 k0] 3)).alloc (.cells #[.int .i64 k1] 3)) (w.heap.size + 2) 3 [.int .i64 k1] := by
    have h := At.new ((w.alloc (.cells #[.pointer (some ⟨tb, 0, none⟩)] 26)).alloc (.cells #[.int .i64 k0] 3)) #[.int .i64 k1] 3
    rw [z1] at h
    exact h
  have bb : Below w.heap.size w (((w.alloc (.cells #[.pointer (some ⟨tb, 0, none⟩)] 26)).alloc (.cells #[.int .i64 k0] 3)).alloc (.cells #[.int .i64 k1] 3)) := ((((Below.refl _ w).alloc (by first | exact Nat.le_refl _ | (simp only [World.size_alloc]; omega)) (.cells #[.pointer (some ⟨tb, 0, none⟩)] 26)).alloc (by first | exact Nat.le_refl _ | (simp only [World.size_alloc]; omega)) (.cells #[.int .i64 k0] 3)).alloc (by first | exact Nat.le_refl _ | (simp only [World.size_alloc]; omega)) (.cells #[.int .i64 k1] 3))
  have AA := Lib.hid (show At (((w.alloc (.cells #[.pointer (some ⟨tb, 0, none⟩)] 26)).alloc (.cells #[.int .i64 k0] 3)).alloc (.cells #[.int .i64 k1] 3)) (w.heap.size) 26 [.pointer (some ⟨tb, 0, none⟩)] ∧ At (((w.alloc (.cells #[.pointer (some ⟨tb, 0, none⟩)] 26)).alloc (.cells #[.int .i64 k0] 3)).alloc (.cells #[.int .i64 k1] 3)) (w.heap.size + 1) 3 [.int .i64 k0] ∧ At (((w.alloc (.cells #[.pointer (some ⟨tb, 0, none⟩)] 26)).alloc (.cells #[.int .i64 k0] 3)).alloc (.cells #[.int .i64 k1] 3)) (w.heap.size + 2) 3 [.int .i64 k1] ∧ Below w.heap.size w (((w.alloc (.cells #[.pointer (some ⟨tb, 0, none⟩)] 26)).alloc (.cells #[.int .i64 k0] 3)).alloc (.cells #[.int .i64 k1] 3)) from ⟨a0, a1, a2, bb⟩)
  clear a0 a1 a2 bb
  go_enter Try.func34, Try.ntmps34
  go_wp2_with fail
  go_ret
  exact ⟨rfl, AA.out⟩
theorem isMode_mk (k0 : Int) (w : World) : Calls Try.prog 44 #[.int .i64 k0] w fun e w' => e = .returned (.func (.func 66) #[] #[.pointer (some ⟨w.heap.size, 0, none⟩)]) ∧ At w' (w.heap.size) 3 [.int .i64 k0] ∧ Below w.heap.size w w' := by
  have hmf := makes
  have z0 : (w.alloc (.cells #[.int .i64 k0] 3)).heap.size = w.heap.size + 1 := by rw [World.size_alloc]
  have a0 : At (w.alloc (.cells #[.int .i64 k0] 3)) (w.heap.size) 3 [.int .i64 k0] := by
    have h := At.new w #[.int .i64 k0] 3
    exact h
  have bb : Below w.heap.size w (w.alloc (.cells #[.int .i64 k0] 3)) := ((Below.refl _ w).alloc (by first | exact Nat.le_refl _ | (simp only [World.size_alloc]; omega)) (.cells #[.int .i64 k0] 3))
  have AA := Lib.hid (show At (w.alloc (.cells #[.int .i64 k0] 3)) (w.heap.size) 3 [.int .i64 k0] ∧ Below w.heap.size w (w.alloc (.cells #[.int .i64 k0] 3)) from ⟨a0, bb⟩)
  clear a0 bb
  go_enter Try.func44, Try.ntmps44
  go_wp2_with fail
  go_ret
  exact ⟨rfl, AA.out⟩
theorem isInode_mk (k0 : Int) (k1 : Int) (s : List UInt8) (w : World) : Calls Try.prog 32 #[.int .i64 k0, .int .i64 k1, .string (bs s)] w fun e w' => e = .returned (.func (.func 54) #[] #[.pointer (some ⟨w.heap.size, 0, none⟩), .pointer (some ⟨w.heap.size + 2, 0, none⟩), .pointer (some ⟨w.heap.size + 1, 0, none⟩)]) ∧ At w' (w.heap.size) 3 [.int .i64 k0] ∧ At w' (w.heap.size + 1) 3 [.int .i64 k1] ∧ At w' (w.heap.size + 2) 9 [.string (bs s)] ∧ Below w.heap.size w w' := by
  have hmf := makes
  have z0 : (w.alloc (.cells #[.int .i64 k0] 3)).heap.size = w.heap.size + 1 := by rw [World.size_alloc]
  have z1 : ((w.alloc (.cells #[.int .i64 k0] 3)).alloc (.cells #[.int .i64 k1] 3)).heap.size = w.heap.size + 2 := by rw [World.size_alloc]; rw [z0]
  have z2 : (((w.alloc (.cells #[.int .i64 k0] 3)).alloc (.cells #[.int .i64 k1] 3)).alloc (.cells #[.string (bs s)] 9)).heap.size = w.heap.size + 3 := by rw [World.size_alloc]; rw [z1]
  have a0 : At (((w.alloc (.cells #[.int .i64 k0] 3)).alloc (.cells #[.int .i64 k1] 3)).alloc (.cells #[.string (bs s)] 9)) (w.heap.size) 3 [.int .i64 k0] := by
    have h := At.new w #[.int .i64 k0] 3
    exact ((h.alloc (.cells #[.int .i64 k1] 3)).alloc (.cells #[.string (bs s)] 9))
  have a1 : At (((w.alloc (.cells #[.int .i64 k0] 3)).alloc (.cells #[.int .i64 k1] 3)).alloc (.cells #[.string (bs s)] 9)) (w.heap.size + 1) 3 [.int .i64 k1] := by
    have h := At.new (w.alloc (.cells #[.int .i64 k0] 3)) #[.int .i64 k1] 3
    rw [z0] at h
    exact (h.alloc (.cells #[.string (bs s)] 9))
  have a2 : At (((w.alloc (.cells #[.int .i64 k0] 3)).alloc (.cells #[.int .i64 k1] 3)).alloc (.cells #[.string (bs s)] 9)) (w.heap.size + 2) 9 [.string (bs s)] := by
    have h := At.new ((w.alloc (.cells #[.int .i64 k0] 3)).alloc (.cells #[.int .i64 k1] 3)) #[.string (bs s)] 9
    rw [z1] at h
    exact h
  have bb : Below w.heap.size w (((w.alloc (.cells #[.int .i64 k0] 3)).alloc (.cells #[.int .i64 k1] 3)).alloc (.cells #[.string (bs s)] 9)) := ((((Below.refl _ w).alloc (by first | exact Nat.le_refl _ | (simp only [World.size_alloc]; omega)) (.cells #[.int .i64 k0] 3)).alloc (by first | exact Nat.le_refl _ | (simp only [World.size_alloc]; omega)) (.cells #[.int .i64 k1] 3)).alloc (by first | exact Nat.le_refl _ | (simp only [World.size_alloc]; omega)) (.cells #[.string (bs s)] 9))
  have AA := Lib.hid (show At (((w.alloc (.cells #[.int .i64 k0] 3)).alloc (.cells #[.int .i64 k1] 3)).alloc (.cells #[.string (bs s)] 9)) (w.heap.size) 3 [.int .i64 k0] ∧ At (((w.alloc (.cells #[.int .i64 k0] 3)).alloc (.cells #[.int .i64 k1] 3)).alloc (.cells #[.string (bs s)] 9)) (w.heap.size + 1) 3 [.int .i64 k1] ∧ At (((w.alloc (.cells #[.int .i64 k0] 3)).alloc (.cells #[.int .i64 k1] 3)).alloc (.cells #[.string (bs s)] 9)) (w.heap.size + 2) 9 [.string (bs s)] ∧ Below w.heap.size w (((w.alloc (.cells #[.int .i64 k0] 3)).alloc (.cells #[.int .i64 k1] 3)).alloc (.cells #[.string (bs s)] 9)) from ⟨a0, a1, a2, bb⟩)
  clear a0 a1 a2 bb
  go_enter Try.func32, Try.ntmps32
  go_wp2_with fail
  go_ret
  exact ⟨rfl, AA.out⟩
end Go.Proofs.Ytgifdmfnecombaa
