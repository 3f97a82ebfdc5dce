/- The statement DiskKnown: its walk. -/
import Derived.Test.YtcmojlfhkbkfcaaDr
namespace Go.Proofs.Ytcmojlfhkbkfcaa
open Go.RowKit

def oo : List UInt8 := List.replicate 128 111
def nn : List UInt8 := List.replicate 128 110
def stO : Nat → Dk
  | 0 => Dk.fresh 4096
  | i + 1 => ((stO i).writeD 4096 (i : Int) oo).flushD
def stN : Nat → Dk
  | 0 => stO 5
  | i + 1 => (stN i).writeD 4096 (i : Int) nn
def stW : Dk := (((stN 5).cut).arm 5).wake [0, 63, 127, 128, 255]
def stR : Nat → Dk
  | 0 => stW
  | i + 1 => (stR i).tick
def firsts : List Nat := [0, 0, 128, 1, 128]
theorem small (k : Nat) (h : k < 5) : k = 0 ∨ k = 1 ∨ k = 2 ∨ k = 3 ∨ k = 4 := by omega
theorem stO_b (k : Nat) (h : k < 5) : (stO k).ops < 9223372036854775807 ∧ (stO k).ws.length ≤ 1000000 ∧ ((stO k).writeD 4096 (k : Int) oo).ops < 9223372036854775807 ∧ ((stO k).writeD 4096 (k : Int) oo).ws.length ≤ 1000000 := by
  rcases small k h with rfl | rfl | rfl | rfl | rfl <;> exact ⟨of_decide_eq_true (by kernel_rfl), of_decide_eq_true (by kernel_rfl), of_decide_eq_true (by kernel_rfl), of_decide_eq_true (by kernel_rfl)⟩
theorem stN_b (k : Nat) (h : k < 5) : (stN k).ops < 9223372036854775807 ∧ (stN k).ws.length ≤ 1000000 := by
  rcases small k h with rfl | rfl | rfl | rfl | rfl <;> exact ⟨of_decide_eq_true (by kernel_rfl), of_decide_eq_true (by kernel_rfl)⟩
theorem stR_b (k : Nat) (h : k < 5) : (stR k).ops < 9223372036854775807 ∧ (stR k).tick.off = false ∧ ∃ q, q ≤ 128 ∧ firsts[k]? = some q ∧ (stR k).nw[k]? = some (List.replicate q 110 ++ List.replicate (128 - q) 111) := by
  rcases small k h with rfl | rfl | rfl | rfl | rfl
  · exact ⟨of_decide_eq_true (by kernel_rfl), by kernel_rfl, 0, by omega, rfl, by kernel_rfl⟩
  · exact ⟨of_decide_eq_true (by kernel_rfl), by kernel_rfl, 0, by omega, rfl, by kernel_rfl⟩
  · exact ⟨of_decide_eq_true (by kernel_rfl), by kernel_rfl, 128, by omega, rfl, by kernel_rfl⟩
  · exact ⟨of_decide_eq_true (by kernel_rfl), by kernel_rfl, 1, by omega, rfl, by kernel_rfl⟩
  · exact ⟨of_decide_eq_true (by kernel_rfl), by kernel_rfl, 128, by omega, rfl, by kernel_rfl⟩
theorem stW_b : (((stN 5).cut).arm 5).ws.length ≤ 1000000 := of_decide_eq_true (by kernel_rfl)
def stE : Dk := stR 5
theorem stE_off : stE.off = false := by kernel_rfl
theorem stE_w : stE.ws.length ≤ 1000000 := of_decide_eq_true (by kernel_rfl)
theorem wake_same (s : Dk) (fs : List UInt8) (h : s.off = false) : s.wake fs = s := by unfold Dk.wake; rw [h]; rfl
def stA : Dk := (stE.arm 1).arm (-7)
theorem stA_b : stA.ops < 9223372036854775807 ∧ stA.ws.length ≤ 1000000 ∧ stA.flushE = 0 := ⟨of_decide_eq_true (by kernel_rfl), of_decide_eq_true (by kernel_rfl), by kernel_rfl⟩
def stB : Dk := stA.flushD.arm 1
theorem stB_b : stB.ops < 9223372036854775807 ∧ stB.ws.length ≤ 1000000 ∧ stB.flushE = 11 ∧ stB.flushD.ops < 9223372036854775807 ∧ stB.flushD.off = true := ⟨of_decide_eq_true (by kernel_rfl), of_decide_eq_true (by kernel_rfl), by kernel_rfl, of_decide_eq_true (by kernel_rfl), by kernel_rfl⟩
def xx1 : Dk := (Dk.fresh 1).writeD 1 0 (List.replicate 128 112)
def xx2 : Dk := xx1.writeD 1 0 (List.replicate 128 113)
def xx3 : Dk := xx2.cut.wake [137, 0]
theorem xx_b : (Dk.fresh 1).ops < 9223372036854775807 ∧ (Dk.fresh 1).ws.length ≤ 1000000 ∧ xx1.ops < 9223372036854775807 ∧ xx1.ws.length ≤ 1000000 ∧ xx2.cut.ws.length ≤ 1000000 ∧ xx3.ops < 9223372036854775807 ∧ xx3.tick.off = false ∧ xx3.nw[0]? = some (List.replicate 10 112 ++ List.replicate (128 - 10) 0) :=
  ⟨of_decide_eq_true (by kernel_rfl), of_decide_eq_true (by kernel_rfl), of_decide_eq_true (by kernel_rfl), of_decide_eq_true (by kernel_rfl), of_decide_eq_true (by kernel_rfl), of_decide_eq_true (by kernel_rfl), by kernel_rfl, by kernel_rfl⟩

set_option maxRecDepth 100000 in
set_option maxHeartbeats 8000000 in
theorem diskKnown_walk (w : World) : Calls Try.prog 7 #[] w fun e w' => e = .returned (.bool true) ∧ Below w.heap.size w w' := by
  go_enter Try.func7, Try.ntmps7
  go_wp2_with fail
  refine (p_new w w (Below.refl _ _) none_ (fun _ h => h.elim) 4096 (by decide) (by decide)).mono ?_
  rintro e v ⟨D, rfl, hD, h⟩
  have HP0 := Lib.hid h.1
  clear h hD
  go_wp2_with fail
  refine (p_len HP0.out).mono ?_
  rintro e v2 ⟨rfl, rfl⟩
  go_wp2_with fail
  obtain ⟨b0, hb0⟩ : ∃ b0, b0 = v2.heap.size := ⟨_, rfl⟩
  have aF := (At.new v2 #[.int .u8 0, .int .u8 63, .int .u8 127, .int .u8 128, .int .u8 255] 59).alloc (.cells #[.int .i64 0, .int .i64 0, .int .i64 128, .int .i64 1, .int .i64 128] 60)
  have aI := At.new (v2.alloc (.cells #[.int .u8 0, .int .u8 63, .int .u8 127, .int .u8 128, .int .u8 255] 59)) #[.int .i64 0, .int .i64 0, .int .i64 128, .int .i64 1, .int .i64 128] 60
  rw [World.size_alloc, ← hb0] at aI
  rw [← hb0] at aF
  have HPa := (HP0.out.alloc (.cells #[.int .u8 0, .int .u8 63, .int .u8 127, .int .u8 128, .int .u8 255] 59)).alloc (.cells #[.int .i64 0, .int .i64 0, .int .i64 128, .int .i64 1, .int .i64 128] 60)
  rw [World.size_alloc, ← hb0] at HPa
  have HPb := HPa.more (av2 := fun i => i = b0 ∨ i = b0 + 1) (fun i hi => .inr (by
    rcases hi with h | h
    · exact .inl (.inr h)
    · exact .inr h))
  rw [← hb0]
  generalize (v2.alloc (.cells #[.int .u8 0, .int .u8 63, .int .u8 127, .int .u8 128, .int .u8 255] 59)).alloc (.cells #[.int .i64 0, .int .i64 0, .int .i64 128, .int .i64 1, .int .i64 128] 60) = w1 at *
  have AF := Lib.hid aF
  have AI := Lib.hid aI
  have HP := Lib.hid HPb
  clear aF aI HPa HPb hb0 HP0
  go_loopw [5] (fun x wx => ∃ k : Nat, k ≤ 5 ∧ x = .int .i64 k ∧ Priv w wx (fun i => i = b0 ∨ i = b0 + 1) 4096 D (stO k) ∧ At wx b0 59 [.int .u8 0, .int .u8 63, .int .u8 127, .int .u8 128, .int .u8 255] ∧ At wx (b0 + 1) 60 [.int .i64 0, .int .i64 0, .int .i64 128, .int .i64 1, .int .i64 128]) (fun x _ => 5 - (intOf x).toNat)
  case atStart => exact ⟨0, by omega, rfl, HP.out, AF.out, AI.out⟩
  case round =>
    obtain ⟨k, hk, rfl, hP, hF, hI⟩ := hrel
    have HPk := Lib.hid hP
    have HF := Lib.hid hF
    have HI := Lib.hid hI
    clear hP hF hI
    by_cases hlt : k < 5
    · have hlt' : (k : Int) < 5 := by omega
      have hb := stO_b k hlt
      have HBd := Lib.hid hb
      clear hb
      go_wp2_with fail
      refine (bytes_any 128 111 128 (by decide) _).mono ?_
      rintro e w2 ⟨rfl, b2⟩
      have HP2 := Lib.hid (HPk.out.below b2)
      have c := p_write HP2.out.1 (k : Int) oo HBd.out.1 HBd.out.2.1 (by decide)
      have C := Lib.hid c
      clear c b2
      go_wp2_with fail
      refine C.out.mono ?_
      rintro e w3 ⟨rfl, h⟩
      have HP3 := Lib.hid h
      have c := p_flush HP3.out.1 HBd.out.2.2.1 HBd.out.2.2.2
      have C2 := Lib.hid c
      clear c h
      go_wp2_with fail
      refine C2.out.mono ?_
      rintro e w4 ⟨rfl, h⟩
      have HP4 := Lib.hid h
      have hk4 := HP2.out.2.trans (HP3.out.2.trans HP4.out.2)
      have HK := Lib.hid hk4
      clear h hk4
      go_wp2
      go_roundw
      case rel => exact ⟨k + 1, by omega, by go_num, HP4.out.1, HK.out.at HF.out (.inl rfl), HK.out.at HI.out (.inr rfl)⟩
      case measure => simp [intOf]; omega
    · obtain rfl : k = 5 := by omega
      go_wp2_with fail
      obtain ⟨wo, hwo⟩ : ∃ wo, wo = wr := ⟨_, rfl⟩
      rw [← hwo] at HPk HF HI
      rw [← hwo]
      clear hwo
      go_loopw [6] (fun x wx => ∃ k : Nat, k ≤ 5 ∧ x = .int .i64 k ∧ Priv w wx (fun i => i = b0 ∨ i = b0 + 1) 4096 D (stN k) ∧ At wx b0 59 [.int .u8 0, .int .u8 63, .int .u8 127, .int .u8 128, .int .u8 255] ∧ At wx (b0 + 1) 60 [.int .i64 0, .int .i64 0, .int .i64 128, .int .i64 1, .int .i64 128]) (fun x _ => 5 - (intOf x).toNat)
      case atStart => exact ⟨0, by omega, rfl, HPk.out, HF.out, HI.out⟩
      clear HPk HF HI
      case round =>
        obtain ⟨k, hk, rfl, hP, hF, hI⟩ := hrel
        have HPk := Lib.hid hP
        have HF := Lib.hid hF
        have HI := Lib.hid hI
        clear hP hF hI
        by_cases hlt : k < 5
        · have hlt' : (k : Int) < 5 := by omega
          have hb := stN_b k hlt
          have HBd := Lib.hid hb
          clear hb
          go_wp2_with fail
          refine (bytes_any 128 110 128 (by decide) _).mono ?_
          rintro e w2 ⟨rfl, b2⟩
          have HP2 := Lib.hid (HPk.out.below b2)
          have c := p_write HP2.out.1 (k : Int) nn HBd.out.1 HBd.out.2 (by decide)
          have C := Lib.hid c
          clear c b2
          go_wp2_with fail
          refine C.out.mono ?_
          rintro e w3 ⟨rfl, h⟩
          have HP3 := Lib.hid h
          have hk4 := HP2.out.2.trans HP3.out.2
          have HK := Lib.hid hk4
          clear h hk4
          go_wp2
          go_roundw
          case rel => exact ⟨k + 1, by omega, by go_num, HP3.out.1, HK.out.at HF.out (.inl rfl), HK.out.at HI.out (.inr rfl)⟩
          case measure => simp [intOf]; omega
        · obtain rfl : k = 5 := by omega
          have c := p_off HPk.out
          have C := Lib.hid c
          clear c
          go_wp2_with fail
          refine C.out.mono ?_
          rintro e w2 ⟨rfl, h⟩
          have HP2 := Lib.hid h
          have c := p_arm HP2.out.1 5 (by decide) (by decide)
          have C2 := Lib.hid c
          clear c h
          go_wp2_with fail
          refine C2.out.mono ?_
          rintro e w3 ⟨rfl, h⟩
          have HP3 := Lib.hid h
          have hF3 := HP3.out.2.at (HP2.out.2.at HF.out (.inl rfl)) (.inl rfl)
          have hI3 := HP3.out.2.at (HP2.out.2.at HI.out (.inr rfl)) (.inr rfl)
          have HF3 := Lib.hid hF3
          have HI3 := Lib.hid hI3
          have c := p_wake HP3.out.1 (some ⟨b0, 0, none⟩) [0, 63, 127, 128, 255] 5 (by decide) (by decide) (fun j c hj => ⟨⟨b0, 0, none⟩, rfl, by
            rw [Addr.add0]
            refine HF3.out.cell j _ ?_
            have hj5 : j < 5 := (List.getElem?_eq_some_iff.1 hj).1
            rcases small j hj5 with rfl | rfl | rfl | rfl | rfl <;> (simp at hj; subst hj; rfl), .inr (.inl rfl)⟩) stW_b
          have C3 := Lib.hid c
          clear c h hF3 hI3 HF
          go_wp2_with fail
          refine C3.out.mono ?_
          rintro e w4 ⟨rfl, h⟩
          have HP4 := Lib.hid h.1
          have HI4 := Lib.hid (h.2.at HI3.out (.inr rfl))
          clear h HI3 HI
          go_wp2_with fail
          obtain ⟨wo2, hwo⟩ : ∃ wo2, wo2 = w4 := ⟨_, rfl⟩
          rw [← hwo] at HP4 HI4
          rw [← hwo]
          clear hwo
          go_loopw [7] (fun x wx => ∃ k : Nat, k ≤ 5 ∧ x = .int .i64 k ∧ Priv w wx (fun i => i = b0 ∨ i = b0 + 1) 4096 D (stR k) ∧ At wx (b0 + 1) 60 [.int .i64 0, .int .i64 0, .int .i64 128, .int .i64 1, .int .i64 128]) (fun x _ => 5 - (intOf x).toNat)
          case atStart => exact ⟨0, by omega, rfl, HP4.out, HI4.out⟩
          clear HP4 HI4 HPk HP2 HP3 HF3
          case round =>
            obtain ⟨k, hk, rfl, hP, hI⟩ := hrel
            have HPk := Lib.hid hP
            have HI := Lib.hid hI
            clear hP hI
            by_cases hlt : k < 5
            · have hlt' : (k : Int) < 5 := by omega
              obtain ⟨q1, q2, q, q3, q4, q5⟩ := stR_b k hlt
              have hcell := HI.out.cell k (.int .i64 (q : Int)) (by
                have e : [Value.int .i64 0, .int .i64 0, .int .i64 128, .int .i64 1, .int .i64 128] = firsts.map fun x : Nat => Value.int .i64 (x : Int) := rfl
                rw [e, List.getElem?_map, q4]; rfl)
              have c := p_reads HPk.out k q 110 111 (by omega) q3 q1 q2 q5
              have C := Lib.hid c
              clear c q1 q2 q4 q5
              go_wp2_with fail
              refine C.out.mono ?_
              rintro e w5 ⟨rfl, h⟩
              have HP5 := Lib.hid h
              clear h hcell
              go_wp2
              go_roundw
              case rel => exact ⟨k + 1, by omega, by go_num, HP5.out.1, HP5.out.2.at HI.out (.inr rfl)⟩
              case measure => simp [intOf]; omega
            · obtain rfl : k = 5 := by omega
              go_wp2_with fail
              have hE : Priv w wr (fun i => i = b0 ∨ i = b0 + 1) 4096 D stE := HPk.out
              have HE := Lib.hid hE
              have aA := At.new wr #[.int .u8 64] 5
              have HPa := Lib.hid (HE.out.alloc (.cells #[.int .u8 64] 5))
              have c := p_wake HPa.out (some ⟨wr.heap.size, 0, none⟩) [64] 1 (by decide) (by decide) (fun j c hj => ⟨⟨wr.heap.size, 0, none⟩, rfl, by
                obtain ⟨rfl, rfl⟩ : j = 0 ∧ c = 64 := by
                  cases j with
                  | zero => exact ⟨rfl, by simpa using hj.symm⟩
                  | succ j => simp at hj
                exact aA.cell 0 _ rfl, .inr (.inr rfl)⟩) stE_w
              rw [wake_same stE [64] stE_off] at c
              have C := Lib.hid c
              clear c aA HI hE HE
              refine C.out.mono ?_
              rintro e v5 ⟨rfl, h⟩
              have HQ0 := Lib.hid (h.1.more (av2 := none_) (fun _ h => h.elim))
              clear h C HPa HPk
              have c := p_arm HQ0.out 1 (by decide) (by decide)
              have C := Lib.hid c
              clear c
              go_wp2_with fail
              refine C.out.mono ?_
              rintro e v6 ⟨rfl, h⟩
              have HQ1 := Lib.hid h.1
              clear h C
              have c : Calls Try.prog 15 #[.pointer (some ⟨D, 0, none⟩), .int .i64 (-7)] v6 fun e w' => e = .returned (.tuple #[]) ∧ PrivTo w v6 none_ 4096 D stA w' := p_arm HQ1.out (-7) (by decide) (by decide)
              have C := Lib.hid c
              clear c
              go_wp2_with fail
              refine C.out.mono ?_
              rintro e v7 ⟨rfl, h⟩
              have HQ2 := Lib.hid h.1
              clear h C
              have c := p_flush HQ2.out stA_b.1 stA_b.2.1
              rw [stA_b.2.2] at c
              have C := Lib.hid c
              clear c
              go_wp2_with fail
              refine C.out.mono ?_
              rintro e v8 ⟨rfl, h⟩
              have HQ3 := Lib.hid h.1
              clear h C
              have c : Calls Try.prog 15 #[.pointer (some ⟨D, 0, none⟩), .int .i64 1] v8 fun e w' => e = .returned (.tuple #[]) ∧ PrivTo w v8 none_ 4096 D stB w' := p_arm HQ3.out 1 (by decide) (by decide)
              have C := Lib.hid c
              clear c
              go_wp2_with fail
              refine C.out.mono ?_
              rintro e v9 ⟨rfl, h⟩
              have HQ4 := Lib.hid h.1
              clear h C
              have c := p_flush HQ4.out stB_b.1 stB_b.2.1
              rw [stB_b.2.2.1] at c
              have C := Lib.hid c
              clear c
              go_wp2_with fail
              refine C.out.mono ?_
              rintro e v10 ⟨rfl, h⟩
              have HQ5 := Lib.hid h.1
              clear h C
              have c := p_read HQ5.out 4096 stB_b.2.2.2.1
              have e1 : stB.flushD.readS 4096 4096 = [] := if_pos (by omega)
              have e2 : stB.flushD.readE 4096 4096 = 2 := if_pos (by omega)
              have e3 : stB.flushD.readD 4096 4096 = stB.flushD := if_pos (by omega)
              rw [e1, e2, e3] at c
              have C := Lib.hid c
              clear c e1 e2 e3
              go_wp2_with fail
              refine C.out.mono ?_
              rintro e v11 ⟨rfl, h⟩
              have HQ6 := Lib.hid h.1
              clear h C
              go_wp2_with fail
              refine (read_nil _).mono ?_
              rintro e v12 ⟨rfl, b12⟩
              have HQ7 := Lib.hid (HQ6.out.below b12).1
              clear b12
              go_wp2_with fail
              refine (arm_nil _ _).mono ?_
              rintro e v13 ⟨rfl, rfl⟩
              go_wp2_with fail
              refine (off_nil _).mono ?_
              rintro e v14 ⟨rfl, rfl⟩
              go_wp2_with fail
              refine (wake_nil _ _).mono ?_
              rintro e v15 ⟨rfl, rfl⟩
              have hdd := HQ7.out
              obtain ⟨_, F, N, ao, cap, hd, hBd, _⟩ := hdd
              have hda := hd.d
              have HD0 := Lib.hid hda
              have HBD := Lib.hid hBd
              have hDlt := hd.d.lt
              clear hd hBd hda
              generalize Value.slice ao stB.flushD.ws.length cap = vw at *
              go_wp2_with fail
              refine (p_new w _ HBD.out (fun i => i = D) (fun i hi => by rw [hi]; exact hDlt) 1 (by decide) (by decide)).mono ?_
              rintro e v16 ⟨X, rfl, hX, h⟩
              have HX0 := Lib.hid h.1
              have HD1 := Lib.hid (h.2.at HD0.out rfl)
              clear h hX hDlt HBD HD0
              go_wp2_with fail
              refine (bytes_any 128 112 128 (by decide) _).mono ?_
              rintro e v17 ⟨rfl, b17⟩
              have hb := HX0.out.below b17
              have HX1 := Lib.hid hb.1
              have HD2 := Lib.hid (hb.2.at HD1.out rfl)
              clear b17 hb HX0 HD1
              have c : Calls Try.prog 22 #[.pointer (some ⟨X, 0, none⟩), .int .i64 0, .string (bs (List.replicate 128 112))] v17 fun e w' => e = .returned (.int .i64 ((Dk.fresh 1).writeE 1 0 (List.replicate 128 112))) ∧ PrivTo w v17 (fun i => i = D) 1 X xx1 w' := p_write HX1.out 0 (List.replicate 128 112) xx_b.1 xx_b.2.1 (by decide)
              have C := Lib.hid c
              clear c
              go_wp2_with fail
              refine C.out.mono ?_
              rintro e v18 ⟨rfl, h⟩
              have HX2 := Lib.hid h.1
              have HD3 := Lib.hid (h.2.at HD2.out rfl)
              clear h C HX1 HD2
              go_wp2_with fail
              refine (bytes_any 128 113 128 (by decide) _).mono ?_
              rintro e v19 ⟨rfl, b17⟩
              have hb := HX2.out.below b17
              have HX3 := Lib.hid hb.1
              have HD4 := Lib.hid (hb.2.at HD3.out rfl)
              clear b17 hb HX2 HD3
              have c : Calls Try.prog 22 #[.pointer (some ⟨X, 0, none⟩), .int .i64 0, .string (bs (List.replicate 128 113))] v19 fun e w' => e = .returned (.int .i64 (xx1.writeE 1 0 (List.replicate 128 113))) ∧ PrivTo w v19 (fun i => i = D) 1 X xx2 w' := p_write HX3.out 0 (List.replicate 128 113) xx_b.2.2.1 xx_b.2.2.2.1 (by decide)
              have C := Lib.hid c
              clear c
              go_wp2_with fail
              refine C.out.mono ?_
              rintro e v20 ⟨rfl, h⟩
              have HX4 := Lib.hid h.1
              have HD5 := Lib.hid (h.2.at HD4.out rfl)
              clear h C HX3 HD4
              have c := p_off HX4.out
              have C := Lib.hid c
              clear c
              go_wp2_with fail
              refine C.out.mono ?_
              rintro e v21 ⟨rfl, h⟩
              have HX5 := Lib.hid h.1
              have HD6 := Lib.hid (h.2.at HD5.out rfl)
              clear h C HX4 HD5
              go_wp2_with fail
              have aA := At.new v21 #[.int .u8 137, .int .u8 0] 5
              have HXa := Lib.hid (HX5.out.alloc (.cells #[.int .u8 137, .int .u8 0] 5))
              have HDa := Lib.hid (HD6.out.alloc (.cells #[.int .u8 137, .int .u8 0] 5))
              have c : Calls Try.prog 19 #[.pointer (some ⟨X, 0, none⟩), .slice (some ⟨v21.heap.size, 0, none⟩) 2 2] (v21.alloc (.cells #[.int .u8 137, .int .u8 0] 5)) fun e w' => e = .returned (.tuple #[]) ∧ PrivTo w (v21.alloc (.cells #[.int .u8 137, .int .u8 0] 5)) (fun i => i = D ∨ i = v21.heap.size) 1 X xx3 w' := p_wake HXa.out (some ⟨v21.heap.size, 0, none⟩) [137, 0] 2 (by decide) (by decide) (fun j c hj => ⟨⟨v21.heap.size, 0, none⟩, rfl, by
                rw [Addr.add0]
                refine aA.cell j _ ?_
                have hj2 : j < 2 := (List.getElem?_eq_some_iff.1 hj).1
                have : j = 0 ∨ j = 1 := by omega
                rcases this with rfl | rfl <;> (simp at hj; subst hj; rfl), .inr (.inr rfl)⟩) xx_b.2.2.2.2.1
              have C := Lib.hid c
              clear c aA
              go_wp2_with fail
              refine C.out.mono ?_
              rintro e v22 ⟨rfl, h⟩
              have HX6 := Lib.hid (h.1.more (av2 := fun i => i = D) (fun i hi => .inr (.inl hi)))
              have HD7 := Lib.hid (h.2.at HDa.out (.inl rfl))
              clear h C HX5 HD6 HXa HDa
              go_wp2_with fail
              refine (works_any _).mono ?_
              rintro e v23 ⟨rfl, b23⟩
              have hb := HX6.out.below b23
              have HX7 := Lib.hid hb.1
              have HD8 := Lib.hid (hb.2.at HD7.out rfl)
              clear b23 hb HX6 HD7
              have con := on_at HD8.out
              rw [stB_b.2.2.2.2] at con
              have CON := Lib.hid con
              clear con
              go_wp2_with fail
              refine CON.out.mono ?_
              rintro e v24 ⟨rfl, rfl⟩
              have c := p_reads HX7.out 0 10 112 0 (by decide) (by decide) xx_b.2.2.2.2.2.1 xx_b.2.2.2.2.2.2.1 xx_b.2.2.2.2.2.2.2
              have C := Lib.hid c
              clear c
              go_wp2_with fail
              refine C.out.mono ?_
              rintro e v25 ⟨rfl, h⟩
              have HX8 := Lib.hid h.1
              clear h C HX7
              go_wp2_with fail
              refine (new_bad 0 _ (by omega)).mono ?_
              rintro e v26 ⟨rfl, rfl⟩
              go_wp2_with fail
              refine (new_bad 4097 _ (by omega)).mono ?_
              rintro e v27 ⟨rfl, rfl⟩
              go_wp2_with fail
              refine (write_nil _).mono ?_
              rintro e v28 ⟨rfl, b28⟩
              have HX9 := Lib.hid (HX8.out.below b28).1
              clear b28
              go_wp2_with fail
              refine (flush_nil _).mono ?_
              rintro e v29 ⟨rfl, b29⟩
              have HX10 := Lib.hid (HX9.out.below b29).1
              clear b29
              go_wp2_with fail
              refine (len_nil _).mono ?_
              rintro e v30 ⟨rfl, rfl⟩
              go_wp2_with fail
              refine (on_nil _).mono ?_
              rintro e v31 ⟨rfl, rfl⟩
              go_wp2_with fail
              refine (ops_nil _).mono ?_
              rintro e v32 ⟨rfl, rfl⟩
              go_wp2
              go_ret
              exact ⟨rfl, HX10.out.bel⟩
end Go.Proofs.Ytcmojlfhkbkfcaa
