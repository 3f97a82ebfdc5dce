/- The walk of what does an operation, where the power holds. -/
import Derived.Test.YtcgjkopdnhkdiaaDc
import Derived.Shelf.Abstract
namespace Go.Proofs.Ytcgjkopdnhkdiaa
open Go.RowKit
set_option maxRecDepth 100000

theorem operate_nil (w : World) (r : Int) (fv : Value) :
    Calls Try.prog 40 #[.pointer none, .int .i64 r, fv] w fun e w' => e = .returned (.int .i64 1) ∧ Below w.heap.size w w' := by
  go_enter Try.func40, Try.ntmps40
  go_wp2
  go_ret
  exact ⟨rfl, (Below.refl _ _).alloc (Nat.le_refl _) _⟩

section
variable {w : World} {D F N : Nat} {ao : Option Addr} {cap n : Nat} {s : Dk}
theorem operate_bad (w : World) (D : Nat) (r : Int) (fv : Value) (hr : (r == 0) = false) :
    Calls Try.prog 40 #[.pointer (some ⟨D, 0, none⟩), .int .i64 r, fv] w fun e w' => e = .returned (.int .i64 r) ∧ Below w.heap.size w w' := by
  have hr2 : (r != 0) = true := by unfold bne; rw [hr]; rfl
  go_enter Try.func40, Try.ntmps40
  go_wp2
  go_ret
  exact ⟨rfl, (Below.refl _ _).alloc (Nat.le_refl _) _⟩
theorem operate_off (h : DiskAt w D F N ao cap n s) (ho : s.ops < 9223372036854775807) (hoff : s.tick.off = true) (fv : Value) :
    Calls Try.prog 40 #[.pointer (some ⟨D, 0, none⟩), .int .i64 0, fv] w fun e w' => e = .returned (.int .i64 11) ∧ DiskAt w' D F N ao cap n s.tick ∧ Touch [D] w w' := by
  have H := Lib.hid h
  have HO := Lib.hid hoff
  have hlt := h.d.lt
  clear h hoff
  go_enter Try.func40, Try.ntmps40
  go_wp2_with fail
  refine (holds_any (H.out.alloc _) w.heap.size _ (At.new _ _ _) (by omega) ho).mono ?_
  rintro e w1 ⟨rfl, h1, t1⟩
  rw [HO.out]
  go_wp2
  go_ret
  exact ⟨rfl, h1, ((Touch.refl [D] w).alloc _).step t1 (fun i hi => .inl hi)⟩
theorem operate_run (h : DiskAt w D F N ao cap n s) (ho : s.ops < 9223372036854775807) (hoff : s.tick.off = false) (f : FuncId) (hcf : ∀ (args : Array Value) (w : World), (callFunc f args).run Try.prog w = .ok (.enter f args) w) (caps : Array Value) (R : World → Prop)
    (hdo : ∀ w1, DiskAt w1 D F N ao cap n s.tick → Touch [D] w w1 → Calls Try.prog f caps w1 fun e w' => e = .returned (.tuple #[]) ∧ R w') :
    Calls Try.prog 40 #[.pointer (some ⟨D, 0, none⟩), .int .i64 0, .func (.func f) #[] caps] w fun e w' => e = .returned (.int .i64 0) ∧ R w' := by
  have H := Lib.hid h
  have HO := Lib.hid hoff
  have hlt := h.d.lt
  have HD := Lib.hid hdo
  clear h hoff hdo
  go_enter Try.func40, Try.ntmps40
  go_wp2_with fail
  refine (holds_any (H.out.alloc _) w.heap.size _ (At.new _ _ _) (by omega) ho).mono ?_
  rintro e w1 ⟨rfl, h1, t1⟩
  have h2 := HD.out w1 h1 (((Touch.refl [D] w).alloc _).step t1 (fun i hi => .inl hi))
  have H2 := Lib.hid h2
  clear h2 h1 t1
  rw [HO.out]
  go_wp2_with fail
  refine (H2.out).mono ?_
  rintro e w2 ⟨rfl, h3⟩
  have H3 := Lib.hid h3
  clear h3
  go_wp2
  go_ret
  exact ⟨rfl, H3.out⟩
end
theorem enter_read : ∀ (args : Array Value) (w : World), (callFunc 42 args).run Try.prog w = .ok (.enter 42 args) w := enters_of Try.func42 (by kernel_rfl) rfl
theorem enter_flush : ∀ (args : Array Value) (w : World), (callFunc 44 args).run Try.prog w = .ok (.enter 44 args) w := enters_of Try.func44 (by kernel_rfl) rfl
theorem enter_write : ∀ (args : Array Value) (w : World), (callFunc 46 args).run Try.prog w = .ok (.enter 46 args) w := enters_of Try.func46 (by kernel_rfl) rfl
end Go.Proofs.Ytcgjkopdnhkdiaa
