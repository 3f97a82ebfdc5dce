/- The walk of works: the chapter's rows. -/
import Derived.Test.YtcgjkopdnhkdiaaDo
namespace Go.Proofs.Ytcgjkopdnhkdiaa
open Go.RowKit
set_option maxRecDepth 100000

theorem Priv.alloc {w0 w : World} {av : Nat → Prop} {n D : Nat} {s : Dk} (h : Priv w0 w av n D s) (o : Obj) : Priv w0 (w.alloc o) (fun i => av i ∨ i = w.heap.size) n D s := by
  obtain ⟨hl, F, N, ao, cap, h, hB, hf⟩ := h
  refine ⟨fun i hi => ?_, F, N, ao, cap, h.alloc o, hB.alloc hB.size o, fun i hi => ⟨(hf i hi).1, fun e => ?_⟩⟩
  · rw [World.size_alloc]
    rcases hi with hi | rfl
    · have := hl i hi; omega
    · omega
  · rcases e with e | rfl
    · exact (hf i hi).2 e
    · have := h.lt _ hi; omega
theorem PrivTo.priv {w0 w w' : World} {av : Nat → Prop} {n D : Nat} {s : Dk} (h : PrivTo w0 w av n D s w') : Priv w0 w' av n D s := h.1
theorem bs_byte (c : UInt8) : (⟨#[c]⟩ : ByteArray) = bs [c] := rfl
def k1 : Dk := ⟨blank 2, [(0, (List.replicate 128 97))], false, 0, 1⟩
def k2 : Dk := ⟨[(List.replicate 128 97), List.replicate 128 0], [], false, 0, 2⟩
def k3 : Dk := ⟨[(List.replicate 128 97), List.replicate 128 0], [(0, (List.replicate 128 98))], false, 0, 3⟩
def k4 : Dk := ⟨[(List.replicate 128 97), List.replicate 128 0], [(0, (List.replicate 128 98))], true, 0, 3⟩
def k5 : Dk := ⟨[(List.replicate 3 98 ++ List.replicate 125 97), List.replicate 128 0], [], false, 0, 3⟩
def k6 : Dk := ⟨[(List.replicate 3 98 ++ List.replicate 125 97), List.replicate 128 0], [], false, 0, 4⟩
def k7 : Dk := ⟨[(List.replicate 3 98 ++ List.replicate 125 97), List.replicate 128 0], [(1, (120 :: List.replicate 127 0))], false, 0, 5⟩
def k8 : Dk := ⟨[(List.replicate 3 98 ++ List.replicate 125 97), List.replicate 128 0], [(1, (120 :: List.replicate 127 0))], true, 0, 5⟩
def k9 : Dk := ⟨[(List.replicate 3 98 ++ List.replicate 125 97), List.replicate 128 0], [], false, 0, 5⟩
def k10 : Dk := ⟨[(List.replicate 3 98 ++ List.replicate 125 97), List.replicate 128 0], [], false, 0, 6⟩
def k11 : Dk := ⟨[(List.replicate 3 98 ++ List.replicate 125 97), List.replicate 128 0], [(1, (120 :: List.replicate 127 0))], false, 0, 7⟩
def k12 : Dk := ⟨[(List.replicate 3 98 ++ List.replicate 125 97), List.replicate 128 0], [(1, (120 :: List.replicate 127 0))], true, 0, 7⟩
def k13 : Dk := ⟨[(List.replicate 3 98 ++ List.replicate 125 97), (120 :: List.replicate 127 0)], [], false, 0, 7⟩
def k14 : Dk := ⟨[(List.replicate 3 98 ++ List.replicate 125 97), (120 :: List.replicate 127 0)], [], false, 0, 8⟩
def k15 : Dk := ⟨[(List.replicate 3 98 ++ List.replicate 125 97), (120 :: List.replicate 127 0)], [], false, 2, 8⟩
def k16 : Dk := ⟨[(List.replicate 3 98 ++ List.replicate 125 97), (120 :: List.replicate 127 0)], [], false, 1, 9⟩
def k17 : Dk := ⟨[(List.replicate 3 98 ++ List.replicate 125 97), (120 :: List.replicate 127 0)], [], true, 0, 10⟩
theorem kf1 : Dk.writeE (Dk.fresh 2) 2 0 (List.replicate 128 97) = 0 := by kernel_rfl
theorem kf2 : Dk.writeD (Dk.fresh 2) 2 0 (List.replicate 128 97) = k1 := by kernel_rfl
theorem kf3 : decide ((Dk.ops (Dk.fresh 2)) < 9223372036854775807) = true := by kernel_rfl
theorem kf4 : decide ((Dk.ws (Dk.fresh 2)).length ≤ 1000000) = true := by kernel_rfl
theorem kf5 : Dk.flushE k1 = 0 := by kernel_rfl
theorem kf6 : Dk.flushD k1 = k2 := by kernel_rfl
theorem kf7 : decide ((Dk.ops k1) < 9223372036854775807) = true := by kernel_rfl
theorem kf8 : decide ((Dk.ws k1).length ≤ 1000000) = true := by kernel_rfl
theorem kf9 : Dk.writeE k2 2 0 (List.replicate 128 98) = 0 := by kernel_rfl
theorem kf10 : Dk.writeD k2 2 0 (List.replicate 128 98) = k3 := by kernel_rfl
theorem kf11 : decide ((Dk.ops k2) < 9223372036854775807) = true := by kernel_rfl
theorem kf12 : decide ((Dk.ws k2).length ≤ 1000000) = true := by kernel_rfl
theorem kf13 : Dk.cut k3 = k4 := by kernel_rfl
theorem kf14 : Dk.wake k4 [130] = k5 := by kernel_rfl
theorem kf15 : decide ((Dk.ws k4).length ≤ 1000000) = true := by kernel_rfl
theorem kf16 : decide ((Dk.ops k5) < 9223372036854775807) = true := by kernel_rfl
theorem kf17 : (Dk.tick k5).off = false := by kernel_rfl
theorem kf18 : (Dk.nw k5)[0]? = some (List.replicate 3 98 ++ List.replicate (128 - 3) 97) := by kernel_rfl
theorem kf19 : Dk.tick k5 = k6 := by kernel_rfl
theorem kf20 : Dk.writeE k6 2 1 [120] = 0 := by kernel_rfl
theorem kf21 : Dk.writeD k6 2 1 [120] = k7 := by kernel_rfl
theorem kf22 : decide ((Dk.ops k6) < 9223372036854775807) = true := by kernel_rfl
theorem kf23 : decide ((Dk.ws k6).length ≤ 1000000) = true := by kernel_rfl
theorem kf24 : Dk.cut k7 = k8 := by kernel_rfl
theorem kf25 : Dk.wake k8 [] = k9 := by kernel_rfl
theorem kf26 : decide ((Dk.ws k8).length ≤ 1000000) = true := by kernel_rfl
theorem kf27 : decide ((Dk.ops k9) < 9223372036854775807) = true := by kernel_rfl
theorem kf28 : (Dk.tick k9).off = false := by kernel_rfl
theorem kf29 : (Dk.nw k9)[1]? = some (List.replicate 0 0 ++ List.replicate (128 - 0) 0) := by kernel_rfl
theorem kf30 : Dk.tick k9 = k10 := by kernel_rfl
theorem kf31 : Dk.writeE k10 2 1 [120] = 0 := by kernel_rfl
theorem kf32 : Dk.writeD k10 2 1 [120] = k11 := by kernel_rfl
theorem kf33 : decide ((Dk.ops k10) < 9223372036854775807) = true := by kernel_rfl
theorem kf34 : decide ((Dk.ws k10).length ≤ 1000000) = true := by kernel_rfl
theorem kf35 : Dk.cut k11 = k12 := by kernel_rfl
theorem kf36 : Dk.wake k12 [64] = k13 := by kernel_rfl
theorem kf37 : decide ((Dk.ws k12).length ≤ 1000000) = true := by kernel_rfl
theorem kf38 : decide ((Dk.ops k13) < 9223372036854775807) = true := by kernel_rfl
theorem kf39 : (Dk.tick k13).off = false := by kernel_rfl
theorem kf40 : (Dk.nw k13)[1]? = some (List.replicate 1 120 ++ List.replicate (128 - 1) 0) := by kernel_rfl
theorem kf41 : Dk.tick k13 = k14 := by kernel_rfl
theorem kf42 : Dk.arm k14 2 = k15 := by kernel_rfl
theorem kf43 : decide ((Dk.ops k15) < 9223372036854775807) = true := by kernel_rfl
theorem kf44 : Dk.readS k15 2 0 = (List.replicate 3 98 ++ List.replicate 125 97) := by kernel_rfl
theorem kf45 : Dk.readE k15 2 0 = 0 := by kernel_rfl
theorem kf46 : Dk.readD k15 2 0 = k16 := by kernel_rfl
theorem kf47 : Dk.writeE k16 2 0 [97] = 11 := by kernel_rfl
theorem kf48 : Dk.writeD k16 2 0 [97] = k17 := by kernel_rfl
theorem kf49 : decide ((Dk.ops k16) < 9223372036854775807) = true := by kernel_rfl
theorem kf50 : decide ((Dk.ws k16).length ≤ 1000000) = true := by kernel_rfl
theorem kf51 : decide ((Dk.ops k17) < 9223372036854775807) = true := by kernel_rfl
theorem kf52 : Dk.readS k17 2 0 = [] := by kernel_rfl
theorem kf53 : Dk.readE k17 2 0 = 11 := by kernel_rfl
theorem kf54 : Dk.readD k17 2 0 = k17 := by kernel_rfl
theorem kf55 : (!(Dk.off k17)) = false := by kernel_rfl
theorem kf56 : Dk.writeE k17 2 2 [120] = 2 := by kernel_rfl
theorem kf57 : Dk.writeD k17 2 2 [120] = k17 := by kernel_rfl
theorem kf58 : decide ((Dk.ops k17) < 9223372036854775807) = true := by kernel_rfl
theorem kf59 : decide ((Dk.ws k17).length ≤ 1000000) = true := by kernel_rfl
theorem kf60 : Dk.writeE k17 2 0 (List.replicate 129 120) = 3 := by kernel_rfl
theorem kf61 : Dk.writeD k17 2 0 (List.replicate 129 120) = k17 := by kernel_rfl
theorem kf62 : decide ((Dk.ops k17) < 9223372036854775807) = true := by kernel_rfl
theorem kf63 : decide ((Dk.ws k17).length ≤ 1000000) = true := by kernel_rfl
set_option maxRecDepth 100000 in
set_option maxHeartbeats 8000000 in
theorem works_any (w : World) : Calls Try.prog 10 #[] w fun e w' => e = .returned (.bool true) ∧ Below w.heap.size w w' := by
  go_enter Try.func10, Try.ntmps10
  go_wp2_with fail
  refine (p_new w w (Below.refl _ _) none_ (fun _ h => h.elim) 2 (by decide) (by decide)).mono ?_
  rintro e v ⟨D, rfl, hD, h⟩
  have HP0 := Lib.hid h.1
  clear h hD
  go_wp2_with fail
  refine (bytes_any 128 97 128 (by decide) _).mono ?_
  rintro e wb0 ⟨rfl, bb0⟩
  have HPb0 := Lib.hid (HP0.out.below bb0).1
  clear bb0
  have c0 := p_write HPb0.out 0 (List.replicate 128 97) (of_decide_eq_true kf3) (of_decide_eq_true kf4) (by simp)
  rw [kf1, kf2] at c0
  have C0 := Lib.hid c0
  clear c0
  go_wp2_with fail
  refine C0.out.mono ?_
  rintro e v0 ⟨rfl, h0⟩
  have HP1 := Lib.hid h0.1
  clear h0
  have c1 := p_flush HP1.out (of_decide_eq_true kf7) (of_decide_eq_true kf8)
  rw [kf5, kf6] at c1
  have C1 := Lib.hid c1
  clear c1
  go_wp2_with fail
  refine C1.out.mono ?_
  rintro e v1 ⟨rfl, h1⟩
  have HP2 := Lib.hid h1.1
  clear h1
  go_wp2_with fail
  refine (bytes_any 128 98 128 (by decide) _).mono ?_
  rintro e wb2 ⟨rfl, bb2⟩
  have HPb2 := Lib.hid (HP2.out.below bb2).1
  clear bb2
  have c2 := p_write HPb2.out 0 (List.replicate 128 98) (of_decide_eq_true kf11) (of_decide_eq_true kf12) (by simp)
  rw [kf9, kf10] at c2
  have C2 := Lib.hid c2
  clear c2
  go_wp2_with fail
  refine C2.out.mono ?_
  rintro e v2 ⟨rfl, h2⟩
  have HP3 := Lib.hid h2.1
  clear h2
  have c3 := p_off HP3.out
  rw [kf13] at c3
  have C3 := Lib.hid c3
  clear c3
  go_wp2_with fail
  refine C3.out.mono ?_
  rintro e v3 ⟨rfl, h3⟩
  have HP4 := Lib.hid h3.1
  clear h3
  go_wp2_with fail
  have a4 := At.new v3 #[.int .u8 130] 5
  have HPa4 := Lib.hid (HP4.out.alloc (.cells #[.int .u8 130] 5))
  have c4 := p_wake HPa4.out (some ⟨v3.heap.size, 0, none⟩) [130] 1 (by simp) (by simp) (fun j c hj => ⟨⟨v3.heap.size, 0, none⟩, rfl, by
    obtain ⟨rfl, rfl⟩ : j = 0 ∧ c = 130 := by
      cases j with
      | zero => exact ⟨rfl, by simpa using hj.symm⟩
      | succ j => simp at hj
    exact a4.cell 0 _ rfl, .inr (.inr rfl)⟩) (of_decide_eq_true kf15)
  rw [kf14] at c4
  have C4 := Lib.hid c4
  clear c4
  go_wp2_with fail
  refine C4.out.mono ?_
  rintro e v4 ⟨rfl, h4⟩
  have HP5 := Lib.hid (h4.1.more (av2 := none_) (fun _ h => h.elim))
  clear h4 a4
  have c5 := p_reads HP5.out 0 3 98 97 (by decide) (by decide) (of_decide_eq_true kf16) kf17 kf18
  rw [kf19] at c5
  have C5 := Lib.hid c5
  clear c5
  go_wp2_with fail
  refine C5.out.mono ?_
  rintro e v5 ⟨rfl, h5⟩
  have HP6 := Lib.hid h5.1
  clear h5
  have c6 := p_write HP6.out 1 [120] (of_decide_eq_true kf22) (of_decide_eq_true kf23) (by simp)
  rw [kf20, kf21] at c6
  have C6 := Lib.hid c6
  clear c6
  go_wp2_with fail
  refine C6.out.mono ?_
  rintro e v6 ⟨rfl, h6⟩
  have HP7 := Lib.hid h6.1
  clear h6
  have c7 := p_off HP7.out
  rw [kf24] at c7
  have C7 := Lib.hid c7
  clear c7
  go_wp2_with fail
  refine C7.out.mono ?_
  rintro e v7 ⟨rfl, h7⟩
  have HP8 := Lib.hid h7.1
  clear h7
  have c8 := p_wake HP8.out none [] 0 (by simp) (by simp) (by simp) (of_decide_eq_true kf26)
  rw [kf25] at c8
  have C8 := Lib.hid c8
  clear c8
  go_wp2_with fail
  refine C8.out.mono ?_
  rintro e v8 ⟨rfl, h8⟩
  have HP9 := Lib.hid h8.1
  clear h8
  have c9 := p_reads HP9.out 1 0 0 0 (by decide) (by decide) (of_decide_eq_true kf27) kf28 kf29
  rw [kf30] at c9
  have C9 := Lib.hid c9
  clear c9
  go_wp2_with fail
  refine C9.out.mono ?_
  rintro e v9 ⟨rfl, h9⟩
  have HP10 := Lib.hid h9.1
  clear h9
  have c10 := p_write HP10.out 1 [120] (of_decide_eq_true kf33) (of_decide_eq_true kf34) (by simp)
  rw [kf31, kf32] at c10
  have C10 := Lib.hid c10
  clear c10
  go_wp2_with fail
  refine C10.out.mono ?_
  rintro e v10 ⟨rfl, h10⟩
  have HP11 := Lib.hid h10.1
  clear h10
  have c11 := p_off HP11.out
  rw [kf35] at c11
  have C11 := Lib.hid c11
  clear c11
  go_wp2_with fail
  refine C11.out.mono ?_
  rintro e v11 ⟨rfl, h11⟩
  have HP12 := Lib.hid h11.1
  clear h11
  go_wp2_with fail
  have a12 := At.new v11 #[.int .u8 64] 5
  have HPa12 := Lib.hid (HP12.out.alloc (.cells #[.int .u8 64] 5))
  have c12 := p_wake HPa12.out (some ⟨v11.heap.size, 0, none⟩) [64] 1 (by simp) (by simp) (fun j c hj => ⟨⟨v11.heap.size, 0, none⟩, rfl, by
    obtain ⟨rfl, rfl⟩ : j = 0 ∧ c = 64 := by
      cases j with
      | zero => exact ⟨rfl, by simpa using hj.symm⟩
      | succ j => simp at hj
    exact a12.cell 0 _ rfl, .inr (.inr rfl)⟩) (of_decide_eq_true kf37)
  rw [kf36] at c12
  have C12 := Lib.hid c12
  clear c12
  go_wp2_with fail
  refine C12.out.mono ?_
  rintro e v12 ⟨rfl, h12⟩
  have HP13 := Lib.hid (h12.1.more (av2 := none_) (fun _ h => h.elim))
  clear h12 a12
  have c13 := p_reads HP13.out 1 1 120 0 (by decide) (by decide) (of_decide_eq_true kf38) kf39 kf40
  rw [kf41] at c13
  have C13 := Lib.hid c13
  clear c13
  go_wp2_with fail
  refine C13.out.mono ?_
  rintro e v13 ⟨rfl, h13⟩
  have HP14 := Lib.hid h13.1
  clear h13
  have c14 := p_arm HP14.out 2 (by decide) (by decide)
  rw [kf42] at c14
  have C14 := Lib.hid c14
  clear c14
  go_wp2_with fail
  refine C14.out.mono ?_
  rintro e v14 ⟨rfl, h14⟩
  have HP15 := Lib.hid h14.1
  clear h14
  have c15 := p_read HP15.out 0 (of_decide_eq_true kf43)
  rw [kf44, kf45, kf46] at c15
  have C15 := Lib.hid c15
  clear c15
  go_wp2_with fail
  refine C15.out.mono ?_
  rintro e v15 ⟨rfl, h15⟩
  have HP16 := Lib.hid h15.1
  clear h15
  have c16 := p_write HP16.out 0 [97] (of_decide_eq_true kf49) (of_decide_eq_true kf50) (by simp)
  rw [kf47, kf48] at c16
  have C16 := Lib.hid c16
  clear c16
  go_wp2_with fail
  refine C16.out.mono ?_
  rintro e v16 ⟨rfl, h16⟩
  have HP17 := Lib.hid h16.1
  clear h16
  have c17 := p_read HP17.out 0 (of_decide_eq_true kf51)
  rw [kf52, kf53, kf54] at c17
  have C17 := Lib.hid c17
  clear c17
  go_wp2_with fail
  refine C17.out.mono ?_
  rintro e v17 ⟨rfl, h17⟩
  have HP18 := Lib.hid h17.1
  clear h17
  have con := p_on HP18.out
  rw [kf55] at con
  have CON := Lib.hid con
  clear con
  go_wp2_with fail
  refine CON.out.mono ?_
  rintro e vo ⟨rfl, rfl⟩
  have c18 := p_write HP18.out 2 [120] (of_decide_eq_true kf58) (of_decide_eq_true kf59) (by simp)
  rw [kf56, kf57] at c18
  have C18 := Lib.hid c18
  clear c18
  go_wp2_with fail
  refine C18.out.mono ?_
  rintro e v18 ⟨rfl, h18⟩
  have HP19 := Lib.hid h18.1
  clear h18
  go_wp2_with fail
  refine (bytes_any 129 120 129 (by decide) _).mono ?_
  rintro e wb19 ⟨rfl, bb19⟩
  have HPb19 := Lib.hid (HP19.out.below bb19).1
  clear bb19
  have c19 := p_write HPb19.out 0 (List.replicate 129 120) (of_decide_eq_true kf62) (of_decide_eq_true kf63) (by simp)
  rw [kf60, kf61] at c19
  have C19 := Lib.hid c19
  clear c19
  go_wp2_with fail
  refine C19.out.mono ?_
  rintro e v19 ⟨rfl, h19⟩
  have HP20 := Lib.hid h19.1
  clear h19
  go_wp2
  go_ret
  exact ⟨rfl, HP20.out.bel⟩
end Go.Proofs.Ytcgjkopdnhkdiaa
