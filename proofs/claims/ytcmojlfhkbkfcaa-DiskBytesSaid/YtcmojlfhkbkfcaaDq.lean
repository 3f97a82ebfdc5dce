/- The statement DiskFuse: its walk. -/
import Derived.Test.YtcmojlfhkbkfcaaDp
namespace Go.Proofs.Ytcmojlfhkbkfcaa
open Go.RowKit

/-- a disk whose power goes at its n-th operation, behind i of them -/
structure Fz (n i : Nat) (s : Dk) : Prop where
  off : s.off = decide (n ≤ i)
  fuse : s.fuse = ((n - i : Nat) : Int)
  ops : s.ops = min i n
  ws : s.ws.length ≤ i
theorem Fz.tick {n i : Nat} {s : Dk} (h : Fz n i s) (hn : 1 ≤ n) : Fz n (i + 1) s.tick := by
  have h1 := h.off
  have h2 := h.fuse
  have h3 := h.ops
  have h4 := h.ws
  by_cases hi : n ≤ i
  · have ho : s.off = true := by rw [h1]; simpa using hi
    have e : s.tick = s := by unfold Dk.tick; rw [ho]; rfl
    rw [e]
    exact ⟨by rw [ho]; simp; omega, by omega, by omega, by omega⟩
  · have ho : s.off = false := by rw [h1]; simpa using hi
    have e : s.tick = { s with ops := s.ops + 1, fuse := s.fuse - 1, off := decide (s.fuse = 1) } := by
      unfold Dk.tick; rw [ho, if_pos (show 0 < s.fuse by omega)]; rfl
    rw [e]
    refine ⟨?_, by show s.fuse - 1 = _; omega, by show s.ops + 1 = _; omega, by show s.ws.length ≤ _; omega⟩
    show decide (s.fuse = 1) = _
    rw [Bool.eq_iff_iff]
    simp
    omega
theorem Fz.ofWs {n i : Nat} {s s' : Dk} (h : Fz n i s) (h1 : s'.off = s.off) (h2 : s'.fuse = s.fuse) (h3 : s'.ops = s.ops) (h4 : s'.ws.length ≤ i) : Fz n i s' :=
  ⟨by rw [h1]; exact h.off, by rw [h2]; exact h.fuse, by rw [h3]; exact h.ops, h4⟩
/-- the answer at the i-th -/
def fzE (n i : Nat) : Int := if n ≤ i + 1 then 11 else 0
theorem Fz.readE {n i : Nat} {s : Dk} (h : Fz n i s) (hn : 1 ≤ n) : s.readE 3 0 = fzE n i ∧ Fz n (i + 1) (s.readD 3 0) := by
  have ht := h.tick hn
  refine ⟨?_, ?_⟩
  · unfold Dk.readE fzE
    rw [if_neg (by omega), ht.off]
    by_cases hi : n ≤ i + 1 <;> simp [hi]
  · have e : s.readD 3 0 = s.tick := if_neg (by omega)
    rw [e]; exact ht
theorem Fz.writeE {n i : Nat} {s : Dk} (h : Fz n i s) (hn : 1 ≤ n) : s.writeE 3 1 [119] = fzE n i ∧ Fz n (i + 1) (s.writeD 3 1 [119]) := by
  have ht := h.tick hn
  have hb : badArg 3 1 ([119] : List UInt8).length = 0 := by decide
  have h4 := h.ws
  refine ⟨?_, ?_⟩
  · unfold Dk.writeE fzE
    rw [hb, if_neg (by omega), ht.off]
    by_cases hi : n ≤ i + 1 <;> simp [hi]
  · unfold Dk.writeD
    rw [hb, if_neg (by omega)]
    split
    · exact ht
    · exact ht.ofWs rfl rfl rfl (by simp [Dk.put, s.tick_ws]; omega)
theorem Fz.flushE {n i : Nat} {s : Dk} (h : Fz n i s) (hn : 1 ≤ n) : s.flushE = fzE n i ∧ Fz n (i + 1) s.flushD := by
  have ht := h.tick hn
  refine ⟨?_, ?_⟩
  · unfold Dk.flushE fzE
    rw [ht.off]
    by_cases hi : n ≤ i + 1 <;> simp [hi]
  · unfold Dk.flushD
    split
    · exact ht
    · exact ht.ofWs rfl rfl rfl (by simp [Dk.flush])

def Bytes1 (w : World) (a : Option Addr) (len : Nat) : Prop := ∀ i, i < len → ∃ x, a = some x ∧ ∃ n : Nat, n < 256 ∧ w.cell? (x.add i) = some (.int .u8 (n : Int))
theorem fuse_start (n : Nat) (h : 1 ≤ n) : Fz n 0 ((Dk.fresh 3).arm (n : Int)) := by
  refine ⟨?_, rfl, ?_, by simp [Dk.arm, Dk.fresh]⟩
  · show false = _
    simp; omega
  · show 0 = _
    simp
theorem Fz.wake {n i : Nat} {s : Dk} (h : Fz n i s) (hi : n ≤ i) : (s.wake []).off = false ∧ (s.wake []).ops < 9223372036854775807 ∨ n > 100 := by
  by_cases hn : n > 100
  · exact .inr hn
  · left
    have ho : s.off = true := by rw [h.off]; simpa using hi
    have h3 := h.ops
    unfold Dk.wake
    rw [ho]
    exact ⟨rfl, by show s.ops < _; omega⟩

set_option maxRecDepth 100000 in
set_option maxHeartbeats 8000000 in
theorem diskFuse_walk (f : Int) (a : Option Addr) (len cap : Nat) (w : World) (hf : (Lit.int .u8 f).wf = true) (hlen : len ≤ maxLen) (hL : Bytes1 w a len) :
    Calls Try.prog 5 #[.int .u8 f, .slice a len cap] w fun e w' => e = .returned (.bool true) ∧ Below w.heap.size w w' := by
  unfold maxLen at hlen
  have hf2 : 0 ≤ f ∧ f ≤ 255 := by simpa [Lit.wf, IntKind.min, IntKind.max, IntKind.signed, IntKind.bits] using hf
  obtain ⟨hf0, hf1⟩ := hf2
  clear hf
  have HL := Lib.hid hL
  clear hL
  go_enter Try.func5, Try.ntmps5
  go_wp2_with fail
  refine (works_any _).mono ?_
  rintro e w1 ⟨rfl, b1⟩
  have HB1 := Lib.hid b1
  clear b1
  go_wp2_with fail
  refine (p_new w w1 HB1.out none_ (fun _ h => h.elim) 3 (by decide) (by decide)).mono ?_
  rintro e v ⟨D, rfl, hD, h⟩
  have HP0 := Lib.hid h.1
  clear h hD
  obtain ⟨n, hn⟩ : ∃ n : Nat, (n : Int) = 1 + f % 40 := ⟨(1 + f % 40).toNat, by omega⟩
  have hn1 : 1 ≤ n := by omega
  have hn2 : n ≤ 40 := by omega
  have HN := Lib.hid hn
  clear hn
  go_wp2_with fail
  rw [← HN.out]
  refine (p_arm HP0.out (n : Int) (by omega) (by omega)).mono ?_
  rintro e v1 ⟨rfl, h⟩
  have HP1 := Lib.hid h.1
  clear h HN hf0 hf1
  have HS := Lib.hid (fuse_start n hn1)
  generalize (Dk.fresh 3).arm (n : Int) = s1 at *
  go_wp2_with fail
  go_loopw [7] (fun x wx => ∃ (i : Nat) (s : Dk), i ≤ 60 ∧ x = .int .i64 i ∧ Fz n i s ∧ Priv w wx none_ 3 D s) (fun x _ => 60 - (intOf x).toNat)
  case atStart => exact ⟨0, s1, by omega, rfl, HS.out, HP1.out⟩
  case round =>
    obtain ⟨i, s, hi, rfl, hz, hP⟩ := hrel
    have HZ := Lib.hid hz
    have HP := Lib.hid hP
    have ho := hz.ops
    have hw := hz.ws
    have ho2 : s.ops < 9223372036854775807 := by omega
    have hw2 : s.ws.length ≤ 1000000 := by omega
    clear hz hP ho hw
    by_cases hlt : i < 60
    · have hlt' : (i : Int) < 60 := by omega
      by_cases hil : i < len
      · obtain ⟨x, rfl, q, hq, hc⟩ := HL.out i hil
        have hil' : decide ((i : Int) < (len : Int)) = true := decide_eq_true (by omega)
        have hil2 : (i : Int) < (len : Int) := by omega
        have hc2 : wr.cell? (x.add i) = some (.int .u8 (q : Int)) := by
          rw [← hc]
          exact HP.out.bel.cell (World.block_lt_of_cell? w _ hc)
        have hq2 : (q : Int) < 256 := by omega
        clear hc
        have hm3 : ((q : Int) % 3 = 0 ∨ (q : Int) % 3 = 1) ∨ (q : Int) % 3 = 2 := by omega
        rcases hm3 with (hm | hm) | hm <;> by_cases hin : n ≤ i + 1
        · have c := p_read HP.out 0 ho2
          have HZ2 := Lib.hid (HZ.out.readE hn1).2
          rw [(HZ.out.readE hn1).1] at c
          unfold fzE at c
          rw [if_pos hin] at c
          generalize s.readD 3 0 = s2 at *
          have C := Lib.hid c
          clear c
          have d1 : decide ((i : Int) < (n : Int) - 1) = false := by simp; omega
          have n1 : (1 : Int) ≤ (n : Int) := by omega
          have n2 : (n : Int) ≤ 40 := by omega
          go_wp2_with fail
          refine C.out.mono ?_
          rintro e w2 ⟨rfl, h⟩
          have HP2 := Lib.hid h.1
          clear h
          have con := p_on HP2.out
          have hoff : s2.off = true := by rw [HZ2.out.off]; simp; omega
          rw [hoff] at con
          have CON := Lib.hid con
          clear con hoff
          go_wp2_with fail
          refine CON.out.mono ?_
          rintro e w3 ⟨rfl, rfl⟩
          go_wp2
          go_roundw
          case rel => exact ⟨i + 1, s2, by omega, by go_num, HZ2.out, HP2.out⟩
          case measure => simp [intOf]; omega
        · have c := p_read HP.out 0 ho2
          have HZ2 := Lib.hid (HZ.out.readE hn1).2
          rw [(HZ.out.readE hn1).1] at c
          unfold fzE at c
          rw [if_neg hin] at c
          generalize s.readD 3 0 = s2 at *
          have C := Lib.hid c
          clear c
          have d1 : decide ((i : Int) < (n : Int) - 1) = true := by simp; omega
          have n1 : (1 : Int) ≤ (n : Int) := by omega
          have n2 : (n : Int) ≤ 40 := by omega
          go_wp2_with fail
          refine C.out.mono ?_
          rintro e w2 ⟨rfl, h⟩
          have HP2 := Lib.hid h.1
          clear h
          have con := p_on HP2.out
          have hoff : s2.off = false := by rw [HZ2.out.off]; simp; omega
          rw [hoff] at con
          have CON := Lib.hid con
          clear con hoff
          go_wp2_with fail
          refine CON.out.mono ?_
          rintro e w3 ⟨rfl, rfl⟩
          go_wp2
          go_roundw
          case rel => exact ⟨i + 1, s2, by omega, by go_num, HZ2.out, HP2.out⟩
          case measure => simp [intOf]; omega
        · have c := p_write HP.out 1 [119] ho2 hw2 (by decide)
          have HZ2 := Lib.hid (HZ.out.writeE hn1).2
          rw [(HZ.out.writeE hn1).1] at c
          unfold fzE at c
          rw [if_pos hin] at c
          generalize s.writeD 3 1 [119] = s2 at *
          have C := Lib.hid c
          clear c
          have d1 : decide ((i : Int) < (n : Int) - 1) = false := by simp; omega
          have n1 : (1 : Int) ≤ (n : Int) := by omega
          have n2 : (n : Int) ≤ 40 := by omega
          go_wp2_with fail
          refine C.out.mono ?_
          rintro e w2 ⟨rfl, h⟩
          have HP2 := Lib.hid h.1
          clear h
          have con := p_on HP2.out
          have hoff : s2.off = true := by rw [HZ2.out.off]; simp; omega
          rw [hoff] at con
          have CON := Lib.hid con
          clear con hoff
          go_wp2_with fail
          refine CON.out.mono ?_
          rintro e w3 ⟨rfl, rfl⟩
          go_wp2
          go_roundw
          case rel => exact ⟨i + 1, s2, by omega, by go_num, HZ2.out, HP2.out⟩
          case measure => simp [intOf]; omega
        · have c := p_write HP.out 1 [119] ho2 hw2 (by decide)
          have HZ2 := Lib.hid (HZ.out.writeE hn1).2
          rw [(HZ.out.writeE hn1).1] at c
          unfold fzE at c
          rw [if_neg hin] at c
          generalize s.writeD 3 1 [119] = s2 at *
          have C := Lib.hid c
          clear c
          have d1 : decide ((i : Int) < (n : Int) - 1) = true := by simp; omega
          have n1 : (1 : Int) ≤ (n : Int) := by omega
          have n2 : (n : Int) ≤ 40 := by omega
          go_wp2_with fail
          refine C.out.mono ?_
          rintro e w2 ⟨rfl, h⟩
          have HP2 := Lib.hid h.1
          clear h
          have con := p_on HP2.out
          have hoff : s2.off = false := by rw [HZ2.out.off]; simp; omega
          rw [hoff] at con
          have CON := Lib.hid con
          clear con hoff
          go_wp2_with fail
          refine CON.out.mono ?_
          rintro e w3 ⟨rfl, rfl⟩
          go_wp2
          go_roundw
          case rel => exact ⟨i + 1, s2, by omega, by go_num, HZ2.out, HP2.out⟩
          case measure => simp [intOf]; omega
        · have c := p_flush HP.out ho2 hw2
          have HZ2 := Lib.hid (HZ.out.flushE hn1).2
          rw [(HZ.out.flushE hn1).1] at c
          unfold fzE at c
          rw [if_pos hin] at c
          generalize s.flushD = s2 at *
          have C := Lib.hid c
          clear c
          have d1 : decide ((i : Int) < (n : Int) - 1) = false := by simp; omega
          have n1 : (1 : Int) ≤ (n : Int) := by omega
          have n2 : (n : Int) ≤ 40 := by omega
          go_wp2_with fail
          refine C.out.mono ?_
          rintro e w2 ⟨rfl, h⟩
          have HP2 := Lib.hid h.1
          clear h
          have con := p_on HP2.out
          have hoff : s2.off = true := by rw [HZ2.out.off]; simp; omega
          rw [hoff] at con
          have CON := Lib.hid con
          clear con hoff
          go_wp2_with fail
          refine CON.out.mono ?_
          rintro e w3 ⟨rfl, rfl⟩
          go_wp2
          go_roundw
          case rel => exact ⟨i + 1, s2, by omega, by go_num, HZ2.out, HP2.out⟩
          case measure => simp [intOf]; omega
        · have c := p_flush HP.out ho2 hw2
          have HZ2 := Lib.hid (HZ.out.flushE hn1).2
          rw [(HZ.out.flushE hn1).1] at c
          unfold fzE at c
          rw [if_neg hin] at c
          generalize s.flushD = s2 at *
          have C := Lib.hid c
          clear c
          have d1 : decide ((i : Int) < (n : Int) - 1) = true := by simp; omega
          have n1 : (1 : Int) ≤ (n : Int) := by omega
          have n2 : (n : Int) ≤ 40 := by omega
          go_wp2_with fail
          refine C.out.mono ?_
          rintro e w2 ⟨rfl, h⟩
          have HP2 := Lib.hid h.1
          clear h
          have con := p_on HP2.out
          have hoff : s2.off = false := by rw [HZ2.out.off]; simp; omega
          rw [hoff] at con
          have CON := Lib.hid con
          clear con hoff
          go_wp2_with fail
          refine CON.out.mono ?_
          rintro e w3 ⟨rfl, rfl⟩
          go_wp2
          go_roundw
          case rel => exact ⟨i + 1, s2, by omega, by go_num, HZ2.out, HP2.out⟩
          case measure => simp [intOf]; omega
      · have hil' : decide ((i : Int) < (len : Int)) = false := decide_eq_false (by omega)
        have hil2 : ¬ (i : Int) < (len : Int) := by omega
        have hm3 : ((i : Int) % 3 = 0 ∨ (i : Int) % 3 = 1) ∨ (i : Int) % 3 = 2 := by omega
        rcases hm3 with (hm | hm) | hm <;> by_cases hin : n ≤ i + 1
        · have c := p_read HP.out 0 ho2
          have HZ2 := Lib.hid (HZ.out.readE hn1).2
          rw [(HZ.out.readE hn1).1] at c
          unfold fzE at c
          rw [if_pos hin] at c
          generalize s.readD 3 0 = s2 at *
          have C := Lib.hid c
          clear c
          have d1 : decide ((i : Int) < (n : Int) - 1) = false := by simp; omega
          have n1 : (1 : Int) ≤ (n : Int) := by omega
          have n2 : (n : Int) ≤ 40 := by omega
          go_wp2_with fail
          refine C.out.mono ?_
          rintro e w2 ⟨rfl, h⟩
          have HP2 := Lib.hid h.1
          clear h
          have con := p_on HP2.out
          have hoff : s2.off = true := by rw [HZ2.out.off]; simp; omega
          rw [hoff] at con
          have CON := Lib.hid con
          clear con hoff
          go_wp2_with fail
          refine CON.out.mono ?_
          rintro e w3 ⟨rfl, rfl⟩
          go_wp2
          go_roundw
          case rel => exact ⟨i + 1, s2, by omega, by go_num, HZ2.out, HP2.out⟩
          case measure => simp [intOf]; omega
        · have c := p_read HP.out 0 ho2
          have HZ2 := Lib.hid (HZ.out.readE hn1).2
          rw [(HZ.out.readE hn1).1] at c
          unfold fzE at c
          rw [if_neg hin] at c
          generalize s.readD 3 0 = s2 at *
          have C := Lib.hid c
          clear c
          have d1 : decide ((i : Int) < (n : Int) - 1) = true := by simp; omega
          have n1 : (1 : Int) ≤ (n : Int) := by omega
          have n2 : (n : Int) ≤ 40 := by omega
          go_wp2_with fail
          refine C.out.mono ?_
          rintro e w2 ⟨rfl, h⟩
          have HP2 := Lib.hid h.1
          clear h
          have con := p_on HP2.out
          have hoff : s2.off = false := by rw [HZ2.out.off]; simp; omega
          rw [hoff] at con
          have CON := Lib.hid con
          clear con hoff
          go_wp2_with fail
          refine CON.out.mono ?_
          rintro e w3 ⟨rfl, rfl⟩
          go_wp2
          go_roundw
          case rel => exact ⟨i + 1, s2, by omega, by go_num, HZ2.out, HP2.out⟩
          case measure => simp [intOf]; omega
        · have c := p_write HP.out 1 [119] ho2 hw2 (by decide)
          have HZ2 := Lib.hid (HZ.out.writeE hn1).2
          rw [(HZ.out.writeE hn1).1] at c
          unfold fzE at c
          rw [if_pos hin] at c
          generalize s.writeD 3 1 [119] = s2 at *
          have C := Lib.hid c
          clear c
          have d1 : decide ((i : Int) < (n : Int) - 1) = false := by simp; omega
          have n1 : (1 : Int) ≤ (n : Int) := by omega
          have n2 : (n : Int) ≤ 40 := by omega
          go_wp2_with fail
          refine C.out.mono ?_
          rintro e w2 ⟨rfl, h⟩
          have HP2 := Lib.hid h.1
          clear h
          have con := p_on HP2.out
          have hoff : s2.off = true := by rw [HZ2.out.off]; simp; omega
          rw [hoff] at con
          have CON := Lib.hid con
          clear con hoff
          go_wp2_with fail
          refine CON.out.mono ?_
          rintro e w3 ⟨rfl, rfl⟩
          go_wp2
          go_roundw
          case rel => exact ⟨i + 1, s2, by omega, by go_num, HZ2.out, HP2.out⟩
          case measure => simp [intOf]; omega
        · have c := p_write HP.out 1 [119] ho2 hw2 (by decide)
          have HZ2 := Lib.hid (HZ.out.writeE hn1).2
          rw [(HZ.out.writeE hn1).1] at c
          unfold fzE at c
          rw [if_neg hin] at c
          generalize s.writeD 3 1 [119] = s2 at *
          have C := Lib.hid c
          clear c
          have d1 : decide ((i : Int) < (n : Int) - 1) = true := by simp; omega
          have n1 : (1 : Int) ≤ (n : Int) := by omega
          have n2 : (n : Int) ≤ 40 := by omega
          go_wp2_with fail
          refine C.out.mono ?_
          rintro e w2 ⟨rfl, h⟩
          have HP2 := Lib.hid h.1
          clear h
          have con := p_on HP2.out
          have hoff : s2.off = false := by rw [HZ2.out.off]; simp; omega
          rw [hoff] at con
          have CON := Lib.hid con
          clear con hoff
          go_wp2_with fail
          refine CON.out.mono ?_
          rintro e w3 ⟨rfl, rfl⟩
          go_wp2
          go_roundw
          case rel => exact ⟨i + 1, s2, by omega, by go_num, HZ2.out, HP2.out⟩
          case measure => simp [intOf]; omega
        · have c := p_flush HP.out ho2 hw2
          have HZ2 := Lib.hid (HZ.out.flushE hn1).2
          rw [(HZ.out.flushE hn1).1] at c
          unfold fzE at c
          rw [if_pos hin] at c
          generalize s.flushD = s2 at *
          have C := Lib.hid c
          clear c
          have d1 : decide ((i : Int) < (n : Int) - 1) = false := by simp; omega
          have n1 : (1 : Int) ≤ (n : Int) := by omega
          have n2 : (n : Int) ≤ 40 := by omega
          go_wp2_with fail
          refine C.out.mono ?_
          rintro e w2 ⟨rfl, h⟩
          have HP2 := Lib.hid h.1
          clear h
          have con := p_on HP2.out
          have hoff : s2.off = true := by rw [HZ2.out.off]; simp; omega
          rw [hoff] at con
          have CON := Lib.hid con
          clear con hoff
          go_wp2_with fail
          refine CON.out.mono ?_
          rintro e w3 ⟨rfl, rfl⟩
          go_wp2
          go_roundw
          case rel => exact ⟨i + 1, s2, by omega, by go_num, HZ2.out, HP2.out⟩
          case measure => simp [intOf]; omega
        · have c := p_flush HP.out ho2 hw2
          have HZ2 := Lib.hid (HZ.out.flushE hn1).2
          rw [(HZ.out.flushE hn1).1] at c
          unfold fzE at c
          rw [if_neg hin] at c
          generalize s.flushD = s2 at *
          have C := Lib.hid c
          clear c
          have d1 : decide ((i : Int) < (n : Int) - 1) = true := by simp; omega
          have n1 : (1 : Int) ≤ (n : Int) := by omega
          have n2 : (n : Int) ≤ 40 := by omega
          go_wp2_with fail
          refine C.out.mono ?_
          rintro e w2 ⟨rfl, h⟩
          have HP2 := Lib.hid h.1
          clear h
          have con := p_on HP2.out
          have hoff : s2.off = false := by rw [HZ2.out.off]; simp; omega
          rw [hoff] at con
          have CON := Lib.hid con
          clear con hoff
          go_wp2_with fail
          refine CON.out.mono ?_
          rintro e w3 ⟨rfl, rfl⟩
          go_wp2
          go_roundw
          case rel => exact ⟨i + 1, s2, by omega, by go_num, HZ2.out, HP2.out⟩
          case measure => simp [intOf]; omega
    · obtain rfl : i = 60 := by omega
      have ho : s.off = true := by rw [HZ.out.off]; simp; omega
      have hops : s.ops = n := by rw [HZ.out.ops]; omega
      have hfz : s.fuse = 0 := by rw [HZ.out.fuse]; omega
      have cops := p_ops HP.out
      rw [hops] at cops
      have COPS := Lib.hid cops
      have hwk : s.wake [] = { s with fl := fated s.fl (s.ws.zip []), ws := [], off := false } := by unfold Dk.wake; rw [ho]; rfl
      have hwo : (s.wake []).off = false := by rw [hwk]
      have cwk := p_wake HP.out none [] 0 (by decide) (by decide) (by simp) hw2
      have hfe : (s.wake []).flushE = 0 := by
        unfold Dk.flushE Dk.tick
        rw [hwk]
        simp [hfz]
      have HWO := Lib.hid hwo
      have HFE := Lib.hid hfe
      have hwops : (s.wake []).ops < 9223372036854775807 := by rw [hwk]; exact ho2
      have hwws : (s.wake []).ws.length ≤ 1000000 := by rw [hwk]; exact Nat.zero_le _
      have CWK := Lib.hid cwk
      have i1 : (1 : Int) ≤ (n : Int) := by omega
      have i2 : (n : Int) ≤ 40 := by omega
      have ecv : IntKind.u64.wrap (n : Int) = (n : Int) := by simp only [IntKind.wrap, IntKind.bits, IntKind.signed]; simp; omega
      clear ho hops hfz cops hwk hwo cwk hfe
      generalize s.wake [] = s3 at *
      go_wp2_with fail
      refine COPS.out.mono ?_
      rintro e w2 ⟨rfl, rfl⟩
      go_wp2_with fail
      refine CWK.out.mono ?_
      rintro e w3 ⟨rfl, h⟩
      have HP3 := Lib.hid h.1
      clear h
      have con := p_on HP3.out
      rw [HWO.out] at con
      have CON := Lib.hid con
      have cfl := p_flush HP3.out hwops hwws
      rw [HFE.out] at cfl
      have CFL := Lib.hid cfl
      clear con cfl
      go_wp2_with fail
      refine CON.out.mono ?_
      rintro e w4 ⟨rfl, rfl⟩
      go_wp2_with fail
      refine CFL.out.mono ?_
      rintro e w5 ⟨rfl, h⟩
      have HP5 := Lib.hid h.1
      clear h
      go_wp2
      go_ret
      exact ⟨rfl, HP5.out.bel⟩
end Go.Proofs.Ytcmojlfhkbkfcaa
