/- The walk of load. -/
import Derived.Test.YtcgjkopdnhkdiaaJp
namespace Go.Proofs.Ytcgjkopdnhkdiaa
open Go.RowKit
set_option maxRecDepth 100000
section
variable {w : World} {D F N : Nat} {ao : Option Addr} {cap n : Nat} {s : Dk}
theorem dk_read (h : DiskAt w D F N ao cap n s) (k : Int) (ho : s.ops < 9223372036854775807) : Calls Try.prog 11 #[.pointer (some ⟨D, 0, none⟩), .int .i64 k] w fun e w' => e = .returned (.tuple #[.string (bs (s.readS n k)), .int .i64 (s.readE n k)]) ∧ DiskAt w' D F N ao cap n (s.readD n k) ∧ Touch [D] w w' := by
  by_cases hk : k < 0 ∨ (n : Int) ≤ k
  · have e1 : s.readS n k = [] := if_pos hk
    have e2 : s.readE n k = 2 := if_pos hk
    have e3 : s.readD n k = s := if_pos hk
    rw [e1, e2, e3]
    exact read_bad h k hk
  · have e3 : s.readD n k = s.tick := if_neg hk
    rw [e3]
    obtain ⟨q, hq⟩ := Int.eq_ofNat_of_zero_le (show 0 ≤ k by omega)
    subst hq
    have hqn : q < n := by omega
    cases hoff : s.tick.off
    · have e1 : s.readS n q = s.nw[q]?.getD [] := by unfold Dk.readS; rw [if_neg hk, hoff]; rfl
      have e2 : s.readE n q = 0 := by unfold Dk.readE; rw [if_neg hk, hoff]; rfl
      obtain ⟨x, hx⟩ : ∃ x, s.nw[q]? = some x := ⟨_, List.getElem?_eq_getElem (by rw [h.ok.nw]; exact hqn)⟩
      rw [hx, Option.getD_some] at e1
      rw [e1, e2]
      exact read_ok h q hqn ho hoff x hx
    · have e1 : s.readS n q = [] := by unfold Dk.readS; rw [if_neg hk, hoff]; rfl
      have e2 : s.readE n q = 11 := by unfold Dk.readE; rw [if_neg hk, hoff]; rfl
      rw [e1, e2]
      exact read_off h q (by omega) (by omega) ho hoff
end
theorem readS_len {n : Nat} {s : Dk} (h : s.Ok n) (k : Int) (he : s.readE n k = 0) : (s.readS n k).length = 128 := by
  unfold Dk.readE at he
  unfold Dk.readS
  split at he
  · cases he
  · rename_i hk
    rw [if_neg hk]
    split at he
    · cases he
    · rename_i ho
      rw [if_neg ho]
      have hl : k.toNat < s.nw.length := by rw [h.nw]; omega
      rw [List.getElem?_eq_getElem hl, Option.getD_some]
      exact h.n128 _ (List.getElem_mem _)
theorem readD_ok {n : Nat} {s : Dk} (h : s.Ok n) (k : Int) : (s.readD n k).Ok n := by
  unfold Dk.readD
  split
  · exact h
  · exact Dk.tick_ok h
/-- so many sectors are read, from one on -/
def readAll (n : Nat) : Nat → Dk → Nat → List UInt8 → Int × Dk × List UInt8
  | 0, s, _, acc => (0, s, acc)
  | m + 1, s, k, acc => if s.readE n (k : Int) = 0 then readAll n m (s.readD n (k : Int)) (k + 1) (acc ++ s.readS n (k : Int)) else (s.readE n (k : Int), s.readD n (k : Int), acc)
theorem theDisk_same {w w' : World} {D F N : Nat} {ao : Option Addr} {cap n : Nat} {s : Dk} (h : DiskAt w D F N ao cap n s) (hk : ∀ i, i ∈ foot D F N ao → w'.heap[i]? = w.heap[i]?) : DiskAt w' D F N ao cap n s := by
  refine ⟨?_, ?_, ?_, ?_, h.ne, h.ok⟩
  · have := h.d; unfold At at *; rw [hk D (by simp [foot])]; exact this
  · have := h.f; unfold At at *; rw [hk F (by simp [foot])]; exact this
  · have := h.v; unfold At at *; rw [hk N (by simp [foot])]; exact this
  · refine ⟨h.w.1, ?_⟩
    rcases h.w.2 with h0 | ⟨g, cap', cur, hv, hbg, hg, rest⟩
    · exact .inl h0
    · cases hv
      exact .inr ⟨g, _, cur, rfl, hbg, by rw [hk g (by simp [foot, blk])]; exact hg, rest⟩
def Jn.first (j : Jn) : Nat := j.pl.at_ + 2 + j.hd.half * j.pl.span
def Jn.count (j : Jn) : Nat := (j.hd.size + 127) / 128
def Jn.got (j : Jn) (l : List UInt8) : Jn := { j with bytes := l.take j.hd.size }
def loadL (n : Nat) (s : Dk) (j : Jn) : Int × Dk × Jn :=
  let r := readAll n j.count s j.first []
  if r.1 = 0 then (if (textsL (r.2.2.take j.hd.size)).isSome then 0 else 12, r.2.1, j.got r.2.2) else (r.1, r.2.1, j)
theorem enter_halfAt : ∀ (args : Array Value) (w : World), (callFunc 79 args).run Try.prog w = .ok (.enter 79 args) w := enters_of Try.func79 (by kernel_rfl) rfl
theorem enter_Read : ∀ (args : Array Value) (w : World), (callFunc 11 args).run Try.prog w = .ok (.enter 11 args) w := enters_of Try.func11 (by kernel_rfl) rfl
theorem enter_String : ∀ (args : Array Value) (w : World), (callFunc 68 args).run Try.prog w = .ok (.enter 68 args) w := enters_of Try.func68 (by kernel_rfl) rfl
section
variable {w : World} {D F N : Nat} {ao : Option Addr} {cap n : Nat} {s : Dk}
set_option maxHeartbeats 16000000 in
theorem load_any' (h : DiskAt w D F N ao cap n s) (J : Nat) (j : Jn) (hJ : At w J 87 j.cells) (hne : J ∉ foot D F N ao) (hD : j.pl.D = D) (hp : j.pl.Ok) (hh : j.hd.half ≤ 1) (hz : j.hd.size ≤ j.pl.span * 128) (m : Nat) (hm : Lot m s) (hmx : m ≤ 900000) :
    Calls Try.prog 59 #[.pointer (some ⟨J, 0, none⟩)] w fun e w' => e = .returned (.int .i64 (loadL n s j).1) ∧ DiskAt w' D F N ao cap n (loadL n s j).2.1 ∧ At w' J 87 (loadL n s j).2.2.cells ∧ Touch [D, J] w w' := by
  have hp1 := hp.a
  have hp2 := hp.s
  have hzz : j.hd.size ≤ 524288 := by omega
  have h0 := IsBuilderF.new w
  have d0 := h.alloc (.cells #[.pointer none, .slice none 0 0] 102)
  have a0 := hJ.alloc (.cells #[.pointer none, .slice none 0 0] 102)
  have t0 := (Touch.refl [D] w).alloc (.cells #[.pointer none, .slice none 0 0] 102)
  have hJD : J ≠ D := fun e => hne (by rw [e]; simp [foot])
  have hJlt := hJ.lt
  have hflt := h.lt
  have hc : j.count ≤ 4096 := by unfold Jn.count; omega
  obtain ⟨Z, hZ⟩ : ∃ Z, Z = loadL n s j := ⟨_, rfl⟩
  rw [← hZ]
  unfold loadL at hZ
  obtain ⟨R, hR⟩ : ∃ R, R = readAll n j.count s j.first [] := ⟨_, rfl⟩
  rw [← hR] at hZ
  have HRES := Lib.hid hZ
  have HRA := Lib.hid hR
  have H0 := Lib.hid h0
  have D0 := Lib.hid d0
  have A0 := Lib.hid a0
  have T0 := Lib.hid t0
  have HM := Lib.hid hm
  have HFL := Lib.hid hflt
  have HP := Lib.hid hp
  have HC := Lib.hid hc
  have HNE := Lib.hid hne
  clear hZ hR h0 d0 a0 t0 hm h hJ hflt hp hc hne hz
  go_enter Try.func59, Try.ntmps59
  go_wp2_with (with_reducible refine alloc_agg rfl 102 rfl #[.pointer none, .slice none 0 0] zero_bld ?_)
  generalize w.alloc (.cells #[.pointer none, .slice none 0 0] 102) = w1 at *
  go_loopw [4] (fun y wx => ∃ (i : Nat) (t : Dk) (acc : List UInt8), i ≤ j.count ∧ y = .int .i64 i ∧ DiskAt wx D F N ao cap n t ∧ At wx J 87 j.cells ∧ Lib.IsBuilderF 102 5 w.heap.size w.heap.size (Lib.byteCells acc) wx ∧ Touch [D] w wx ∧ acc.length = 128 * i ∧ Lot (m + i) t ∧ R = readAll n (j.count - i) t (j.first + i) acc) (fun y _ => j.count - (intOf y).toNat)
  case atStart => exact ⟨0, s, [], by omega, rfl, D0.out, A0.out, H0.out, T0.out, rfl, HM.out, HRA.out⟩
  clear D0 A0 H0 T0 HRA
  case round =>
    obtain ⟨i, t, acc, hi, rfl, hd, hA, hI, hT, hacc, hlot, hra⟩ := hrel
    have HD := Lib.hid hd
    have HA := Lib.hid hA
    have HI := Lib.hid hI
    have HT := Lib.hid hT
    have HACC := Lib.hid hacc
    have HLOT := Lib.hid hlot
    have HRA := Lib.hid hra
    have hcc := HC.out
    have c5 := HA.out.cell 5 _ rfl
    have e1 : IntKind.i64.wrap ((i : Int) * 128) = (i : Int) * 128 := by rw [IntKind.wrap_i64]; omega
    have hws := hT.size
    clear hd hA hI hT hacc hlot hra
    by_cases hlt : i < j.count
    · have hlt2 : decide ((i : Int) * 128 < (j.hd.size : Int)) = true := by simp; unfold Jn.count at hlt; omega
      have hop : t.ops < 9223372036854775807 := by have := HLOT.out.ops; omega
      go_wp2_with fail
      refine region_any (fun W => At W J 87 j.cells) 23 (by kernel_rfl) ?_
      have S0 : (fun W => At W J 87 j.cells) wr.drew := HA.out.drew
      refine wpAnyT_takeN (i := 0) (v := (.pointer (some ⟨J, 0, none⟩))) rfl (by decide) (by kernel_rfl) (by kernel_rfl) (by kernel_rfl) (fun _ _ _ h => h) (.inl ⟨by kernel_rfl, fun W hS => by kernel_rfl⟩) S0 ?_
      refine wpAnyT_takeN (i := 1) (v := (.pointer (some ⟨J, 0, none⟩))) rfl (by decide) (by kernel_rfl) (by kernel_rfl) (by kernel_rfl) (fun _ _ _ h => h) (.inl ⟨by kernel_rfl, fun W hS => by kernel_rfl⟩) S0 ?_
      refine wpAnyT_takeN (i := 2) (v := (.pointer (some ⟨J, 0, none⟩))) rfl (by decide) (by kernel_rfl) (by kernel_rfl) (by kernel_rfl) (fun _ _ _ h => h) (.inl ⟨by kernel_rfl, fun W hS => by kernel_rfl⟩) S0 ?_
      refine wpAnyT_takeN (i := 3) (v := (.pointer (some ⟨J, 0, none⟩))) rfl (by decide) (by kernel_rfl) (by kernel_rfl) (by kernel_rfl) (fun _ _ _ h => h) (.inl ⟨by kernel_rfl, fun W hS => by kernel_rfl⟩) S0 ?_
      refine wpAnyT_takeN (i := 4) (v := (.pointer (some ⟨D, 0, none⟩))) rfl (by decide) (by kernel_rfl) (by kernel_rfl) (by kernel_rfl) (fun _ _ _ h => h) (.inl ⟨by kernel_rfl, fun W hS => run_load_one 23 (.tmp 23) rfl ⟨J, 0, none⟩ (by kernel_rfl) (.pointer (some ⟨D, 0, none⟩)) (by rw [← hD]; exact hS.cell 0 _ rfl) _ Try.underlying23 rfl⟩) S0 ?_
      refine wpAnyT_takeN (i := 5) (v := (.pointer (some ⟨J, 0, none⟩))) rfl (by decide) (by kernel_rfl) (by kernel_rfl) (by kernel_rfl) (fun _ _ _ h => h) (.inl ⟨by kernel_rfl, fun W hS => by kernel_rfl⟩) S0 ?_
      refine wpAnyT_takeN (i := 6) (v := (.pointer (some ⟨J, 0, none⟩))) rfl (by decide) (by kernel_rfl) (by kernel_rfl) (by kernel_rfl) (fun _ _ _ h => h) (.inl ⟨by kernel_rfl, fun W hS => by kernel_rfl⟩) S0 ?_
      refine wpAnyT_takeN (i := 7) (v := (.pointer (some ⟨J, 0, none⟩))) rfl (by decide) (by kernel_rfl) (by kernel_rfl) (by kernel_rfl) (fun _ _ _ h => h) (.inl ⟨by kernel_rfl, fun W hS => by kernel_rfl⟩) S0 ?_
      refine wpAnyT_takeN (i := 8) (v := (Pl.v j.pl)) rfl (by decide) (by kernel_rfl) (by kernel_rfl) (by kernel_rfl) (fun _ _ _ h => h) (.inl ⟨by kernel_rfl, fun W hS => run_load_op 83 (.tmp 27) rfl J 0 (by kernel_rfl) j.pl.cells _ (j.place hS) Try.underlying83 rfl (by kernel_rfl)⟩) S0 ?_
      refine wpAnyT_takeN (i := 9) (v := (.pointer (some ⟨J, 0, none⟩))) rfl (by decide) (by kernel_rfl) (by kernel_rfl) (by kernel_rfl) (fun _ _ _ h => h) (.inl ⟨by kernel_rfl, fun W hS => by kernel_rfl⟩) S0 ?_
      refine wpAnyT_takeN (i := 10) (v := (.pointer (some ⟨J, 0, none⟩))) rfl (by decide) (by kernel_rfl) (by kernel_rfl) (by kernel_rfl) (fun _ _ _ h => h) (.inl ⟨by kernel_rfl, fun W hS => by kernel_rfl⟩) S0 ?_
      refine wpAnyT_takeN (i := 11) (v := (.pointer (some ⟨J, 3, none⟩))) rfl (by decide) (by kernel_rfl) (by kernel_rfl) (by kernel_rfl) (fun _ _ _ h => h) (.inl ⟨by kernel_rfl, fun W hS => by kernel_rfl⟩) S0 ?_
      refine wpAnyT_takeN (i := 12) (v := (.pointer (some ⟨J, 4, none⟩))) rfl (by decide) (by kernel_rfl) (by kernel_rfl) (by kernel_rfl) (fun _ _ _ h => h) (.inl ⟨by kernel_rfl, fun W hS => by kernel_rfl⟩) S0 ?_
      refine wpAnyT_takeN (i := 13) (v := (.int .i64 (j.hd.half : Int))) rfl (by decide) (by kernel_rfl) (by kernel_rfl) (by kernel_rfl) (fun _ _ _ h => h) (.inl ⟨by kernel_rfl, fun W hS => run_load_one 3 (.tmp 32) rfl ⟨J, 4, none⟩ (by kernel_rfl) _ (hS.cell 4 _ rfl) _ Try.underlying3 rfl⟩) S0 ?_
      refine wpAnyT_takeN (i := 15) (v := (.int .i64 (i : Int))) rfl (by decide) (by kernel_rfl) (by kernel_rfl) (by kernel_rfl) (fun _ _ _ h => h) (.inl ⟨by kernel_rfl, fun W hS => by kernel_rfl⟩) S0 ?_
      refine wpAnyT_all (rs := [14]) (by kernel_rfl) (by simp) ?_
      intro q hq
      obtain rfl : q = 14 := by simpa using hq
      refine wpOp_call rfl (by kernel_rfl) 79 #[Pl.v j.pl, .int .i64 (j.hd.half : Int)] (run_call_func rfl enter_halfAt _ (by kernel_rfl)) ((halfAt_any j.pl HP.out j.hd.half hh wr.drew).mono ?_)
      rintro e v1 ⟨rfl, c1⟩
      have P1 := HA.out.drew.below c1 HA.out.lt
      have Q1 := HD.out.drew.below c1
      have R1 := HT.out.drew.step (Touch.of_below (ft := []) c1) (by simp)
      have I1 := IsBuilderF.kept (w' := v1) HI.out (fun k _ hk => c1.block k hk)
      refine ⟨_, rfl, fun _ => P1, ?_⟩
      have S1 := P1
      refine wpAnyT_takeN (i := 16) (v := (.int .i64 ((j.first + i : Nat) : Int))) rfl (by decide) (by kernel_rfl) (by kernel_rfl) (by kernel_rfl) (fun _ _ _ h => h) (.inl ⟨by kernel_rfl, fun W hS => run_add_op (.tmp 34) (.tmp 35) rfl ((j.pl.at_ + 2 + j.hd.half * j.pl.span : Nat) : Int) (i : Int) ((j.first + i : Nat) : Int) (by kernel_rfl) (by kernel_rfl) (by rw [IntKind.wrap_i64]; unfold Jn.first; have hq : j.hd.half * j.pl.span ≤ 4096 := (Nat.le_trans (Nat.mul_le_mul_right _ hh) (by omega)); omega)⟩) S1 ?_
      refine wpAnyT_all (rs := [17]) (by kernel_rfl) (by simp) ?_
      intro q hq
      obtain rfl : q = 17 := by simpa using hq
      refine wpOp_call rfl (by kernel_rfl) 11 #[.pointer (some ⟨D, 0, none⟩), .int .i64 ((j.first + i : Nat) : Int)] (run_call_func rfl enter_Read _ (by kernel_rfl)) ((dk_read Q1 ((j.first + i : Nat) : Int) hop).mono ?_)
      rintro e v2 ⟨rfl, Q2, t2⟩
      have P2 := P1.touch t2 (by simpa using hJD)
      have R2 := R1.step t2 (fun k hk => .inl hk)
      have I2 := IsBuilderF.kept (w' := v2) I1 (fun k hk hk2 => t2.block k hk2 (by simp; rintro rfl; have := HFL.out k (by simp [foot]); omega))
      refine ⟨_, rfl, fun _ => P2, ?_⟩
      refine wpAnyT_takeN (i := 18) (v := (.tuple #[.string (bs (t.readS n ((j.first + i : Nat) : Int))), .int .i64 (t.readE n ((j.first + i : Nat) : Int))])) rfl (by decide) (by kernel_rfl) (by kernel_rfl) (by kernel_rfl) (fun _ _ _ h => h) (.inl ⟨by kernel_rfl, fun W hS => by kernel_rfl⟩) P2 ?_
      refine wpAnyT_takeN (i := 19) (v := (.string (bs (t.readS n ((j.first + i : Nat) : Int))))) rfl (by decide) (by kernel_rfl) (by kernel_rfl) (by kernel_rfl) (fun _ _ _ h => h) (.inl ⟨by kernel_rfl, fun W hS => by kernel_rfl⟩) P2 ?_
      refine wpAnyT_takeN (i := 20) (v := (.int .i64 (t.readE n ((j.first + i : Nat) : Int)))) rfl (by decide) (by kernel_rfl) (by kernel_rfl) (by kernel_rfl) (fun _ _ _ h => h) (.inl ⟨by kernel_rfl, fun W hS => by kernel_rfl⟩) P2 ?_
      refine wpAnyT_takeN (i := 21) (v := (.string (bs (t.readS n ((j.first + i : Nat) : Int))))) rfl (by decide) (by kernel_rfl) (by kernel_rfl) (by kernel_rfl) (fun _ _ _ h => h) (.inl ⟨by kernel_rfl, fun W hS => by kernel_rfl⟩) P2 ?_
      refine wpAnyT_takeN (i := 22) (v := (.int .i64 (t.readE n ((j.first + i : Nat) : Int)))) rfl (by decide) (by kernel_rfl) (by kernel_rfl) (by kernel_rfl) (fun _ _ _ h => h) (.inl ⟨by kernel_rfl, fun W hS => by kernel_rfl⟩) P2 ?_
      refine wpAnyT_done (by kernel_rfl) ?_ _
      simp only [Act.put, List.getElem_toArray, List.getElem_cons_succ, List.getElem_cons_zero, List.setIfInBounds_toArray, List.set_cons_zero, List.set_cons_succ]
      have Q2' := Lib.hid Q2
      have P2' := Lib.hid P2
      have R2' := Lib.hid R2
      have I2' := Lib.hid I2
      have hok := readS_len (n := n) HD.out.ok ((j.first + i : Nat) : Int)
      have hnx : R = if t.readE n ((j.first + i : Nat) : Int) = 0 then readAll n (j.count - (i + 1)) (t.readD n ((j.first + i : Nat) : Int)) (j.first + (i + 1)) (acc ++ t.readS n ((j.first + i : Nat) : Int)) else (t.readE n ((j.first + i : Nat) : Int), t.readD n ((j.first + i : Nat) : Int), acc) := by
        rw [HRA.out]
        obtain ⟨q, hq⟩ : ∃ q, j.count - i = q + 1 := ⟨j.count - i - 1, by omega⟩
        rw [hq, show j.count - (i + 1) = q by omega]
        rfl
      have HOK := Lib.hid hok
      have HNX := Lib.hid hnx
      have HLT := Lib.hid (HLOT.out.read n ((j.first + i : Nat) : Int))
      clear Q2 P2 R2 I2 P1 Q1 R1 I1 c1 t2 S0 S1 hok hnx HRA HLOT HD HA HI HT c5 e1 hlt2
      generalize t.readE n ((j.first + i : Nat) : Int) = rE at *
      generalize t.readS n ((j.first + i : Nat) : Int) = rS at *
      generalize t.readD n ((j.first + i : Nat) : Int) = rD at *
      by_cases hE : rE = 0
      · subst hE
        have hsl : rS.length = 128 := HOK.out rfl
        have hac := HACC.out
        have hw2 := R2'.out.size
        have HAC2 := Lib.hid (show (acc ++ rS).length = 128 * (i + 1) by rw [List.length_append, hsl, hac]; omega)
        go_wp2_with fail
        refine (bWrite_any w.heap.size w.heap.size _ (bs rS) v2 I2'.out (by rw [byteCells_len, bs_size]; omega) hw2).mono ?_
        rintro e v3 ⟨rfl, hI3, b3⟩
        rw [strCells_list, byteCells_append] at hI3
        have hold : ∀ i, i < w.heap.size → v3.heap[i]? = v2.heap[i]? := fun i hi => b3.block i hi
        have Q3 := Lib.hid (theDisk_same Q2'.out (fun i hi => hold i (HFL.out i hi)))
        have P3 := Lib.hid (show At v3 J 87 j.cells by have := P2'.out; unfold At at *; rw [hold J hJlt]; exact this)
        have R3 := Lib.hid (show Touch [D] w v3 from ⟨b3.os.trans R2'.out.os, b3.tape.trans R2'.out.tape, b3.output.trans R2'.out.output, Nat.le_trans R2'.out.size b3.size, fun i hi hn => (hold i hi).trans (R2'.out.block i hi hn)⟩)
        have HI3 := Lib.hid hI3
        clear hI3 b3 hold Q2' P2' R2' I2'
        go_wp2
        go_roundw
        case rel => exact ⟨i + 1, rD, acc ++ rS, by omega, by go_num, Q3.out, P3.out, HI3.out, R3.out, HAC2.out, HLT.out.mono (by omega), by rw [HNX.out]; simp⟩
        case measure => simp [intOf]; omega
      · have hE2 : (rE == 0) = false := by simpa using hE
        have hRR : R = (rE, rD, acc) := by rw [HNX.out, if_neg hE]
        have hZ : Z = (rE, rD, j) := by rw [HRES.out, hRR]; simp only []; rw [if_neg hE]
        have HZ := Lib.hid hZ
        clear hRR hZ HNX
        go_wp2
        go_ret
        rw [HZ.out]
        exact ⟨rfl, Q2'.out, P2'.out, R2'.out.mono (by simp)⟩
    · obtain rfl : i = j.count := by omega
      have hlt2 : decide ((j.count : Int) * 128 < (j.hd.size : Int)) = false := by simp; unfold Jn.count; omega
      go_wp2_with fail
      have hR0 : R = (0, t, acc) := by rw [HRA.out, Nat.sub_self]; rfl
      have HR0 := Lib.hid hR0
      have hzl : j.hd.size ≤ acc.length := by rw [HACC.out]; unfold Jn.count; omega
      clear hR0 HRA hlt2 e1 hlt
      refine region_any (fun W => W.cell? ⟨J, 5, none⟩ = some (.int .i64 (j.hd.size : Int))) 11 (by kernel_rfl) ?_
      have S0 : (fun W => W.cell? ⟨J, 5, none⟩ = some (.int .i64 (j.hd.size : Int))) wr.drew := HA.out.drew.cell 5 _ rfl
      refine wpAnyT_takeN (i := 0) (v := (.pointer (some ⟨J, 0, none⟩))) rfl (by decide) (by kernel_rfl) (by kernel_rfl) (by kernel_rfl) (fun _ _ _ h => h) (.inl ⟨by kernel_rfl, fun W hS => by kernel_rfl⟩) S0 ?_
      refine wpAnyT_takeN (i := 2) (v := (.pointer (some ⟨J, 0, none⟩))) rfl (by decide) (by kernel_rfl) (by kernel_rfl) (by kernel_rfl) (fun _ _ _ h => h) (.inl ⟨by kernel_rfl, fun W hS => by kernel_rfl⟩) S0 ?_
      refine wpAnyT_takeN (i := 3) (v := (.pointer (some ⟨J, 0, none⟩))) rfl (by decide) (by kernel_rfl) (by kernel_rfl) (by kernel_rfl) (fun _ _ _ h => h) (.inl ⟨by kernel_rfl, fun W hS => by kernel_rfl⟩) S0 ?_
      refine wpAnyT_takeN (i := 4) (v := (.pointer (some ⟨J, 3, none⟩))) rfl (by decide) (by kernel_rfl) (by kernel_rfl) (by kernel_rfl) (fun _ _ _ h => h) (.inl ⟨by kernel_rfl, fun W hS => by kernel_rfl⟩) S0 ?_
      refine wpAnyT_takeN (i := 5) (v := (.pointer (some ⟨J, 5, none⟩))) rfl (by decide) (by kernel_rfl) (by kernel_rfl) (by kernel_rfl) (fun _ _ _ h => h) (.inl ⟨by kernel_rfl, fun W hS => by kernel_rfl⟩) S0 ?_
      refine wpAnyT_takeN (i := 6) (v := (.int .i64 (j.hd.size : Int))) rfl (by decide) (by kernel_rfl) (by kernel_rfl) (by kernel_rfl) (fun _ _ _ h => h) (.inl ⟨by kernel_rfl, fun W hS => run_load_one 3 (.tmp 50) rfl ⟨J, 5, none⟩ (by kernel_rfl) _ hS _ Try.underlying3 rfl⟩) S0 ?_
      refine wpAnyT_all (rs := [1]) (by kernel_rfl) (by simp) ?_
      intro q hq
      obtain rfl : q = 1 := by simpa using hq
      refine wpOp_call rfl (by kernel_rfl) 68 #[.pointer (some ⟨w.heap.size, 0, none⟩)] (run_call_func rfl enter_String _ (by kernel_rfl)) ((Try.Builder_String_any_f w.heap.size w.heap.size acc wr.drew (IsBuilderF.kept HI.out (fun _ _ _ => rfl)) hws).mono ?_)
      rintro e v1 ⟨rfl, I1, b1⟩
      have hold : ∀ i, i < w.heap.size → v1.heap[i]? = wr.heap[i]? := fun i hi => b1.block i hi
      have Q1 := theDisk_same (w' := v1) HD.out (fun i hi => hold i (HFL.out i hi))
      have P1 : At v1 J 87 j.cells := by have := HA.out; unfold At at *; rw [hold J hJlt]; exact this
      have R1 : Touch [D] w v1 := ⟨b1.os.trans HT.out.os, b1.tape.trans HT.out.tape, b1.output.trans HT.out.output, Nat.le_trans HT.out.size b1.size, fun i hi hn => (hold i hi).trans (HT.out.block i hi hn)⟩
      refine ⟨_, rfl, fun _ => P1.cell 5 _ rfl, ?_⟩
      refine wpAnyT_takeN (i := 7) (v := (.string (bs (acc.take j.hd.size)))) rfl (by decide) (by kernel_rfl) (by kernel_rfl) (by kernel_rfl) (fun _ _ _ h => h) (.inl ⟨by kernel_rfl, fun W hS => run_hi_op (.tmp 46) (.tmp 51) rfl acc j.hd.size hzl (by kernel_rfl) (by kernel_rfl)⟩) (P1.cell 5 _ rfl) ?_
      refine wpAnyT_takeN (i := 8) (v := (.pointer (some ⟨J, 0, none⟩))) rfl (by decide) (by kernel_rfl) (by kernel_rfl) (by kernel_rfl) (fun _ _ _ h => h) (.inl ⟨by kernel_rfl, fun W hS => by kernel_rfl⟩) (P1.cell 5 _ rfl) ?_
      refine wpAnyT_takeN (i := 9) (v := (.pointer (some ⟨J, 7, none⟩))) rfl (by decide) (by kernel_rfl) (by kernel_rfl) (by kernel_rfl) (fun _ _ _ h => h) (.inl ⟨by kernel_rfl, fun W hS => by kernel_rfl⟩) (P1.cell 5 _ rfl) ?_
      refine wpAnyT_all (rs := [10]) (by kernel_rfl) (by simp) ?_
      intro q hq
      obtain rfl : q = 10 := by simpa using hq
      have P2 := P1.setCell 7 (.string (bs (acc.take j.hd.size)))
      refine wpOp_skip rfl (by kernel_rfl) (run_store_str (.tmp 54) (.tmp 52) rfl ⟨J, 7, none⟩ (by kernel_rfl) (acc.take j.hd.size) (by kernel_rfl) _ (P1.cell 7 _ rfl) (P1.frozen 7)) ⟨fun _ => P2.cell 5 _ rfl, wpAnyT_done (by kernel_rfl) ?_ _⟩
      simp only [Act.put, List.getElem_toArray, List.getElem_cons_succ, List.getElem_cons_zero, List.setIfInBounds_toArray, List.set_cons_zero, List.set_cons_succ]
      have hgc : (j.cells).set 7 (.string (bs (acc.take j.hd.size))) = (j.got acc).cells := rfl
      rw [hgc] at P2
      have T2 := (R1.mono (ft2 := [D, J]) (by simp)).setCell ⟨J, 7, none⟩ (.string (bs (acc.take j.hd.size))) (.inl (by simp))
      have Q2 : DiskAt (v1.setCell ⟨J, 7, none⟩ (.string (bs (acc.take j.hd.size)))) D F N ao cap n t := theDisk_same Q1 (fun i hi => Below.heap_setCell _ _ _ _ (fun e => HNE.out (by have e2 : i = J := e; rw [← e2]; exact hi)))
      have HZ := Lib.hid (show Z = (if (textsL (acc.take j.hd.size)).isSome then 0 else 12, t, j.got acc) by rw [HRES.out, HR0.out]; simp)
      generalize v1.setCell ⟨J, 7, none⟩ (.string (bs (acc.take j.hd.size))) = w2 at *
      have c7 := P2.cell 7 _ rfl
      have HP2 := Lib.hid P2
      have HQ2 := Lib.hid Q2
      have HT2 := Lib.hid T2
      have hbl : (acc.take j.hd.size).length ≤ 1000000 := by rw [List.length_take]; omega
      have hc7 : w2.cell? ⟨J, 7, none⟩ = some (.string (bs (acc.take j.hd.size))) := c7
      clear c7 P2 Q2 T2 P1 Q1 R1 I1 b1 hold HD HA HI HT S0 hgc HR0 HRES c5
      generalize acc.take j.hd.size = bb at *
      generalize j.got acc = jg at *
      go_wp2_with fail
      refine (textsOf_any bb hbl w2).mono ?_
      rintro e w3 ⟨b3, v, rfl, _⟩
      have HP3 := Lib.hid (HP2.out.below b3 HP2.out.lt)
      have HQ3 := Lib.hid (HQ2.out.below b3)
      have HT3 := Lib.hid (HT2.out.step (Touch.of_below (ft := []) b3) (by simp))
      clear b3 HP2 HQ2 HT2 hc7
      cases htx : (textsL bb).isSome
      · rw [htx] at HZ
        have HZ2 := Lib.hid (show Z = (12, t, jg) by rw [HZ.out]; simp)
        clear htx HZ
        go_wp2
        go_ret
        rw [HZ2.out]
        exact ⟨rfl, HQ3.out, HP3.out, HT3.out⟩
      · rw [htx] at HZ
        have HZ2 := Lib.hid (show Z = (0, t, jg) by rw [HZ.out]; simp)
        clear htx HZ
        go_wp2
        go_ret
        rw [HZ2.out]
        exact ⟨rfl, HQ3.out, HP3.out, HT3.out⟩
end
end Go.Proofs.Ytcgjkopdnhkdiaa
