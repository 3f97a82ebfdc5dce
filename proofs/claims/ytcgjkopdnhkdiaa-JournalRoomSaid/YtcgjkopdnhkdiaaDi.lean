/- The walks of Write, whole. -/
import Derived.Test.YtcgjkopdnhkdiaaDh
namespace Go.Proofs.Ytcgjkopdnhkdiaa
open Go.RowKit
set_option maxRecDepth 100000

/-- what Write lays ahead of its work -/
structure LaidW (w w3 : World) (D n0 : Nat) (k : Int) (s : ByteArray) : Prop where
  a : At w3 n0 23 [.pointer (some ⟨D, 0, none⟩)]
  b : At w3 (n0 + 1) 3 [.int .i64 k]
  c : At w3 (n0 + 1 + 1) 9 [.string s]
  u : Below n0 w w3
theorem LaidW.made (w : World) (D : Nat) (k : Int) (s : ByteArray) : LaidW w (((w.alloc (.cells #[.pointer (some ⟨D, 0, none⟩)] 23)).alloc (.cells #[.int .i64 k] 3)).alloc (.cells #[.string s] 9)) D w.heap.size k s := by
  refine ⟨((At.new w _ _).alloc _).alloc _, ?_, ?_, (((Below.refl _ w).alloc (Nat.le_refl _) _).alloc (by simp) _).alloc (by simp; omega) _⟩
  · have := (At.new (w.alloc (.cells #[.pointer (some ⟨D, 0, none⟩)] 23)) #[.int .i64 k] 3).alloc (.cells #[.string s] 9)
    rwa [World.size_alloc] at this
  · have := At.new ((w.alloc (.cells #[.pointer (some ⟨D, 0, none⟩)] 23)).alloc (.cells #[.int .i64 k] 3)) #[.string s] 9
    rwa [World.size_alloc, World.size_alloc] at this

section
variable {w : World} {D F N : Nat} {ao : Option Addr} {cap n : Nat} {s : Dk}
set_option maxHeartbeats 1000000 in
theorem write_bad (h : DiskAt w D F N ao cap n s) (k : Int) (l : List UInt8) (r : Int) (hk : badArg n k l.length = r) (hr0 : (r == 0) = false) (hlm : l.length ≤ 9223372036854775807) :
    Calls Try.prog 22 #[.pointer (some ⟨D, 0, none⟩), .int .i64 k, .string (bs l)] w fun e w' => e = .returned (.int .i64 r) ∧ DiskAt w' D F N ao cap n s ∧ Touch (foot D F N ao) w w' := by
  have H := Lib.hid h
  have HK := Lib.hid hk
  have HR := Lib.hid hr0
  clear h hk hr0
  go_enter Try.func22, Try.ntmps22
  go_wp2
  have hL := LaidW.made w D k (bs l)
  generalize ((w.alloc (.cells #[.pointer (some ⟨D, 0, none⟩)] 23)).alloc (.cells #[.int .i64 k] 3)).alloc (.cells #[.string (bs l)] 9) = w3 at *
  have ca := hL.a.cell 0 _ rfl
  have cb := hL.b.cell 0 _ rfl
  have cc := hL.c.cell 0 _ rfl
  have hb := hL.u
  have H3 := Lib.hid (H.out.below hL.u)
  have HL := Lib.hid hL
  have HU := Lib.hid hb
  clear hL hb
  have hr := refused_any (H3.out.drew) k l.length
  rw [HK.out] at hr
  go_still_tail 7, (by kernel_rfl)
  still_call hr
  repeat still_step
  refine wpStill_nil ?_
  change wpList _ _ _ _ _ w3.drew
  clear hr ca cb cc
  go_wp2_with fail
  refine (operate_bad _ D r _ HR.out).mono ?_
  rintro e w4 ⟨rfl, b4⟩
  have h4 := H3.out.drew.below b4
  have B4 := Lib.hid (((HU.out.drew).trans (b4.mono (by exact HU.out.size))))
  have H4 := Lib.hid h4
  clear b4 h4
  go_wp2
  go_ret
  exact ⟨rfl, H4.out, Touch.of_below B4.out⟩
set_option maxHeartbeats 1000000 in
theorem write_off (h : DiskAt w D F N ao cap n s) (k : Int) (l : List UInt8) (h0 : 0 ≤ k) (h1 : k < n) (hl : l.length ≤ 128) (ho : s.ops < 9223372036854775807) (hoff : s.tick.off = true) :
    Calls Try.prog 22 #[.pointer (some ⟨D, 0, none⟩), .int .i64 k, .string (bs l)] w fun e w' => e = .returned (.int .i64 11) ∧ DiskAt w' D F N ao cap n s.tick ∧ Touch (foot D F N ao) w w' := by
  have H := Lib.hid h
  have HO := Lib.hid hoff
  clear h hoff
  go_enter Try.func22, Try.ntmps22
  go_wp2
  have hL := LaidW.made w D k (bs l)
  generalize ((w.alloc (.cells #[.pointer (some ⟨D, 0, none⟩)] 23)).alloc (.cells #[.int .i64 k] 3)).alloc (.cells #[.string (bs l)] 9) = w3 at *
  have ca := hL.a.cell 0 _ rfl
  have cb := hL.b.cell 0 _ rfl
  have cc := hL.c.cell 0 _ rfl
  have hb := hL.u
  have H3 := Lib.hid (H.out.below hL.u)
  have HL := Lib.hid hL
  have HU := Lib.hid hb
  clear hL hb
  have hr := refused_any (H3.out.drew) k l.length
  rw [badArg_zero h0 h1 l.length (by omega)] at hr
  go_still_tail 7, (by kernel_rfl)
  still_call hr
  repeat still_step
  refine wpStill_nil ?_
  change wpList _ _ _ _ _ w3.drew
  clear hr ca cb cc
  go_wp2_with fail
  refine (operate_off H3.out.drew ho HO.out _).mono ?_
  rintro e w4 ⟨rfl, h4, t4⟩
  have T4 := Lib.hid ((Touch.of_below (ft := foot D F N ao) HU.out.drew).step t4 (by simp [foot]))
  have H4 := Lib.hid h4
  clear t4 h4
  go_wp2
  go_ret
  exact ⟨rfl, H4.out, T4.out⟩
/-- what a call that writes leaves: the disk, in this state, its blocks as they were or new -/
def Went (w : World) (D F N : Nat) (ao : Option Addr) (n : Nat) (s' : Dk) (w' : World) : Prop :=
  ∃ ao' cap', DiskAt w' D F N ao' cap' n s' ∧ Touch (foot D F N ao) w w' ∧ ∀ i, i ∈ blk ao' → i ∈ blk ao ∨ w.heap.size ≤ i
set_option maxHeartbeats 1000000 in
theorem write_ok (h : DiskAt w D F N ao cap n s) (k : Nat) (l : List UInt8) (h1 : k < n) (hl : l.length ≤ 128) (ho : s.ops < 9223372036854775807) (hoff : s.tick.off = false) (hws : s.ws.length ≤ 1000000) :
    Calls Try.prog 22 #[.pointer (some ⟨D, 0, none⟩), .int .i64 (k : Int), .string (bs l)] w fun e w' => e = .returned (.int .i64 0) ∧ Went w D F N ao n (s.tick.put k l) w' := by
  have H := Lib.hid h
  have HO := Lib.hid hoff
  clear h hoff
  go_enter Try.func22, Try.ntmps22
  go_wp2
  have hL := LaidW.made w D k (bs l)
  generalize ((w.alloc (.cells #[.pointer (some ⟨D, 0, none⟩)] 23)).alloc (.cells #[.int .i64 (k : Int)] 3)).alloc (.cells #[.string (bs l)] 9) = w3 at *
  have ca := hL.a.cell 0 _ rfl
  have cb := hL.b.cell 0 _ rfl
  have cc := hL.c.cell 0 _ rfl
  have hb := hL.u
  have H3 := Lib.hid (H.out.below hL.u)
  have HL := Lib.hid hL
  have HU := Lib.hid hb
  have hlt := H.out.lt
  have hD := H.out.d.lt
  clear hL hb
  have hr := refused_any (H3.out.drew) k l.length
  rw [badArg_zero (by omega) (by omega) l.length (by omega)] at hr
  have hk2 : l.length ≤ 9223372036854775807 := by omega
  go_still_tail 7, (by kernel_rfl)
  still_call hr
  repeat still_step
  refine wpStill_nil ?_
  change wpList _ _ _ _ _ w3.drew
  clear hr ca cb cc
  have hop := operate_run H3.out.drew ho HO.out 46 enter_write #[.pointer (some ⟨w.heap.size + 1, 0, none⟩), .pointer (some ⟨w.heap.size + 1 + 1, 0, none⟩), .pointer (some ⟨w.heap.size, 0, none⟩)]
    (fun w5 => Went w D F N ao n (s.tick.put k l) w5) (fun w4 h4 t4 => by
      have hz := HU.out.size
      have hz2 : w3.drew.heap.size = w3.heap.size := rfl
      have hz3 := t4.size
      refine (write1_any h4 _ _ _ _ _ _ k l h1 hl (HL.out.b.drew.touch t4 (by simp; omega)) (HL.out.c.drew.touch t4 (by simp; omega)) (HL.out.a.drew.touch t4 (by simp; omega)) (fun hi => by have := hlt _ hi; omega) (fun hi => by have := hlt _ hi; omega) (fun hi => by have := hlt _ hi; omega) (by rw [s.tick_ws]; exact hws)).mono ?_
      rintro e w5 ⟨rfl, ao', cap', h5, t5, hb5⟩
      refine ⟨rfl, ao', cap', h5, (((Touch.of_below (ft := foot D F N ao) HU.out.drew).step t4 (by simp [foot]))).step t5 (fun i hi => .inl hi), fun i hi => ?_⟩
      rcases hb5 i hi with h | h
      · exact .inl h
      · right; omega)
  have HP := Lib.hid hop
  clear hop
  go_wp2_with fail
  refine HP.out.mono ?_
  rintro e w4 ⟨rfl, h5⟩
  have H5 := Lib.hid h5
  clear h5
  go_wp2
  go_ret
  exact ⟨rfl, H5.out⟩
end
end Go.Proofs.Ytcgjkopdnhkdiaa
