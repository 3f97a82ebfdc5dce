/- The walks of Read, whole. -/
import Derived.Test.YtcgjkopdnhkdiaaDe
namespace Go.Proofs.Ytcgjkopdnhkdiaa
open Go.RowKit
set_option maxRecDepth 100000

section
variable {w : World} {D F N : Nat} {ao : Option Addr} {cap n : Nat} {s : Dk}
theorem badArg_zero {n : Nat} {k : Int} (h0 : 0 ≤ k) (h1 : k < n) (z : Int) (hz : z ≤ 128) : badArg n k z = 0 := by
  unfold badArg; rw [if_neg (by omega), if_neg (by omega)]
theorem badArg_arg {n : Nat} {k : Int} (h : k < 0 ∨ (n : Int) ≤ k) (z : Int) : badArg n k z = 2 := by
  unfold badArg; rw [if_pos h]
theorem badArg_long {n : Nat} {k : Int} (h0 : 0 ≤ k) (h1 : k < n) (z : Int) (hz : 128 < z) : badArg n k z = 3 := by
  unfold badArg; rw [if_neg (by omega), if_pos hz]

/-- what Read lays ahead of its work -/
structure Laid (w w3 : World) (D n0 : Nat) (k : Int) : Prop where
  a : At w3 n0 23 [.pointer (some ⟨D, 0, none⟩)]
  b : At w3 (n0 + 1) 3 [.int .i64 k]
  c : At w3 (n0 + 1 + 1) 9 [.string ⟨#[]⟩]
  u : Below n0 w w3
theorem Laid.made (w : World) (D : Nat) (k : Int) : Laid w (((w.alloc (.cells #[.pointer (some ⟨D, 0, none⟩)] 23)).alloc (.cells #[.int .i64 k] 3)).alloc (.cells #[.string ⟨#[]⟩] 9)) D w.heap.size k := by
  refine ⟨((At.new w _ _).alloc _).alloc _, ?_, ?_, (((Below.refl _ w).alloc (Nat.le_refl _) _).alloc (by simp) _).alloc (by simp; omega) _⟩
  · have := (At.new (w.alloc (.cells #[.pointer (some ⟨D, 0, none⟩)] 23)) #[.int .i64 k] 3).alloc (.cells #[.string ⟨#[]⟩] 9)
    rwa [World.size_alloc] at this
  · have := At.new ((w.alloc (.cells #[.pointer (some ⟨D, 0, none⟩)] 23)).alloc (.cells #[.int .i64 k] 3)) #[.string ⟨#[]⟩] 9
    rwa [World.size_alloc, World.size_alloc] at this

set_option maxHeartbeats 1000000 in
theorem read_bad (h : DiskAt w D F N ao cap n s) (k : Int) (hk : k < 0 ∨ (n : Int) ≤ k) :
    Calls Try.prog 11 #[.pointer (some ⟨D, 0, none⟩), .int .i64 k] w fun e w' => e = .returned (.tuple #[.string ⟨#[]⟩, .int .i64 2]) ∧ DiskAt w' D F N ao cap n s ∧ Touch [D] w w' := by
  have H := Lib.hid h
  have HK := Lib.hid hk
  clear h hk
  go_enter Try.func11, Try.ntmps11
  go_wp2
  have hL := Laid.made w D k
  generalize ((w.alloc (.cells #[.pointer (some ⟨D, 0, none⟩)] 23)).alloc (.cells #[.int .i64 k] 3)).alloc (.cells #[.string ⟨#[]⟩] 9) = w3 at *
  have ca := hL.a.cell 0 _ rfl
  have cb := hL.b.cell 0 _ rfl
  have cc := hL.c.cell 0 _ rfl
  have hb := hL.u
  have H3 := Lib.hid (H.out.below hL.u)
  have HL := Lib.hid hL
  have HU := Lib.hid hb
  clear hL hb
  have hr := refused_any (H3.out.drew) k 0
  rw [badArg_arg HK.out] at hr
  go_still_tail 5, (by kernel_rfl)
  still_call hr
  repeat still_step
  refine wpStill_nil ?_
  change wpList _ _ _ _ _ w3.drew
  clear hr ca cb cc
  go_wp2_with fail
  refine (operate_bad _ D 2 _ rfl).mono ?_
  rintro e w4 ⟨rfl, b4⟩
  have h4 := H3.out.drew.below b4
  have c4 := (HL.out.c.drew.below b4 HL.out.c.lt).cell 0 _ rfl
  have B4 := Lib.hid (((HU.out.drew).trans (b4.mono (by exact HU.out.size))))
  have H4 := Lib.hid h4
  clear b4 h4
  go_wp2
  go_ret2
  exact ⟨rfl, H4.out, Touch.of_below B4.out⟩
set_option maxHeartbeats 1000000 in
theorem read_off (h : DiskAt w D F N ao cap n s) (k : Int) (h0 : 0 ≤ k) (h1 : k < n) (ho : s.ops < 9223372036854775807) (hoff : s.tick.off = true) :
    Calls Try.prog 11 #[.pointer (some ⟨D, 0, none⟩), .int .i64 k] w fun e w' => e = .returned (.tuple #[.string ⟨#[]⟩, .int .i64 11]) ∧ DiskAt w' D F N ao cap n s.tick ∧ Touch [D] w w' := by
  have H := Lib.hid h
  have HO := Lib.hid hoff
  clear h hoff
  go_enter Try.func11, Try.ntmps11
  go_wp2
  have hL := Laid.made w D k
  generalize ((w.alloc (.cells #[.pointer (some ⟨D, 0, none⟩)] 23)).alloc (.cells #[.int .i64 k] 3)).alloc (.cells #[.string ⟨#[]⟩] 9) = w3 at *
  have ca := hL.a.cell 0 _ rfl
  have cb := hL.b.cell 0 _ rfl
  have cc := hL.c.cell 0 _ rfl
  have hb := hL.u
  have H3 := Lib.hid (H.out.below hL.u)
  have HL := Lib.hid hL
  have HU := Lib.hid hb
  clear hL hb
  have hr := refused_any (H3.out.drew) k 0
  rw [badArg_zero h0 h1 0 (by omega)] at hr
  go_still_tail 5, (by kernel_rfl)
  still_call hr
  repeat still_step
  refine wpStill_nil ?_
  change wpList _ _ _ _ _ w3.drew
  clear hr ca cb cc
  go_wp2_with fail
  refine (operate_off H3.out.drew ho HO.out _).mono ?_
  rintro e w4 ⟨rfl, h4, t4⟩
  have hlt := H.out.d.lt
  have c4 := (HL.out.c.drew.touch t4 (by simp; omega)).cell 0 _ rfl
  have T4 := Lib.hid ((Touch.of_below (ft := [D]) HU.out.drew).trans t4)
  have H4 := Lib.hid h4
  clear t4 h4
  go_wp2
  go_ret2
  exact ⟨rfl, H4.out, T4.out⟩
set_option maxHeartbeats 1000000 in
theorem read_ok (h : DiskAt w D F N ao cap n s) (k : Nat) (h1 : k < n) (ho : s.ops < 9223372036854775807) (hoff : s.tick.off = false) (sec : List UInt8) (hs : s.nw[k]? = some sec) :
    Calls Try.prog 11 #[.pointer (some ⟨D, 0, none⟩), .int .i64 (k : Int)] w fun e w' => e = .returned (.tuple #[.string (bs sec), .int .i64 0]) ∧ DiskAt w' D F N ao cap n s.tick ∧ Touch [D] w w' := by
  have H := Lib.hid h
  have HO := Lib.hid hoff
  have hs' : s.tick.nw[k]? = some sec := by rw [← hs]; unfold Dk.tick; split <;> rfl
  have HS := Lib.hid hs'
  clear h hoff hs hs'
  go_enter Try.func11, Try.ntmps11
  go_wp2
  have hL := Laid.made w D (k : Int)
  generalize ((w.alloc (.cells #[.pointer (some ⟨D, 0, none⟩)] 23)).alloc (.cells #[.int .i64 (k : Int)] 3)).alloc (.cells #[.string ⟨#[]⟩] 9) = w3 at *
  have ca := hL.a.cell 0 _ rfl
  have cb := hL.b.cell 0 _ rfl
  have cc := hL.c.cell 0 _ rfl
  have hb := hL.u
  have H3 := Lib.hid (H.out.below hL.u)
  have HL := Lib.hid hL
  have HU := Lib.hid hb
  have hlt := H.out.d.lt
  clear hL hb
  have hr := refused_any (H3.out.drew) k 0
  rw [badArg_zero (by omega) (by omega) 0 (by omega)] at hr
  go_still_tail 5, (by kernel_rfl)
  still_call hr
  repeat still_step
  refine wpStill_nil ?_
  change wpList _ _ _ _ _ w3.drew
  clear hr ca cb cc
  have hop := operate_run H3.out.drew ho HO.out 42 enter_read #[.pointer (some ⟨w.heap.size, 0, none⟩), .pointer (some ⟨w.heap.size + 1, 0, none⟩), .pointer (some ⟨w.heap.size + 1 + 1, 0, none⟩)]
    (fun w5 => At w5 (w.heap.size + 1 + 1) 9 [.string (bs sec)] ∧ DiskAt w5 D F N ao cap n s.tick ∧ Touch [D] w w5) (fun w4 h4 t4 => by
      refine (read1_any h4 _ _ _ _ _ _ k sec _ HS.out (HL.out.a.drew.touch t4 (by simp; omega)) (HL.out.b.drew.touch t4 (by simp; omega)) (HL.out.c.drew.touch t4 (by simp; omega))).mono ?_
      rintro e w5 ⟨rfl, h5, t5⟩
      refine ⟨rfl, h5, h4.touch t5 (fun i hi => ?_), ((Touch.of_below (ft := [D]) HU.out.drew).trans t4).step t5 (fun i hi => ?_)⟩
      · have := H.out.lt i hi
        simp; omega
      · simp at hi
        right; omega)
  have HP := Lib.hid hop
  clear hop
  go_wp2_with fail
  refine HP.out.mono ?_
  rintro e w4 ⟨rfl, h5, h4, t4⟩
  have c4 := h5.cell 0 _ rfl
  have T4 := Lib.hid t4
  have H4 := Lib.hid h4
  clear t4 h4 h5
  go_wp2
  go_ret2
  exact ⟨rfl, H4.out, T4.out⟩
end
end Go.Proofs.Ytcgjkopdnhkdiaa
