/- The blocks of a text, told one by one. -/
import Derived.RangeFuncNested
import Derived.RangeFuncBound
import Derived.RangeFuncCalls
import Derived.RangeFuncLeaves
import Derived.RangeFuncFrom
import Derived.Shelf.Abstract
import Derived.Shelf.RegionOpen
import Derived.WalkKit
import Derived.OwnWalkIn
import Derived.TacticsInMore
import Derived.LoopNIn
import Derived.LoopIn
import Derived.Test.YtffpmdgchpcaaaaSe
namespace Go.Proofs.Ytffpmdgchpcaaaa
open Go.RowKit Go.Shelf
attribute [local go_sem] Oper.semAt_some bs_size bs_append
@[local go_sem] theorem bs_toList (l : List UInt8) : (bs l).toList = l := by rw [ByteArray.toList_eq, data_bs]
@[local go_sem] theorem bs_extract0 (l : List UInt8) (k : Nat) : (bs l).extract 0 k = bs (l.take k) := bs_take_bs l k
@[local go_sem] theorem bs_extract (l : List UInt8) (k : Nat) : (bs l).extract k l.length = bs (l.drop k) := by
  have := bs_drop_bs l k; rw [bs_size] at this; exact this

/-- 64 bytes -/
abbrev Blk := { l : List UInt8 // l.length = 64 }
/-- a text, padded -/
def full (l : List UInt8) : List UInt8 := l ++ pad l.length
/-- how many blocks -/
def nblk (l : List UInt8) : Nat := (full l).length / 64
theorem full_len (l : List UInt8) : (full l).length = 64 * nblk l := by
  have h : (full l).length = l.length + (9 + noughts l.length) := by rw [full, List.length_append, pad_len]
  unfold nblk
  rw [h]
  unfold noughts
  omega
def blk (l : List UInt8) (k : Nat) : List UInt8 := ((full l).drop (64 * k)).take 64
theorem blk_len (l : List UInt8) (k : Nat) (h : k < nblk l) : (blk l k).length = 64 := by
  have := full_len l
  simp only [blk, List.length_take, List.length_drop]; omega
def blks (l : List UInt8) : List (List UInt8) := (List.range (nblk l)).map (blk l)

set_option maxRecDepth 100000 in
set_option maxHeartbeats 2000000 in
theorem blocks1_in (n : Nat) (hn : 1 ≤ n) (y B : Nat) (l : List UInt8) (hl : l.length ≤ 1152921504606846976) (J Jx : List Blk → World → Prop) (W : World) (hJa : AbidesFrom W.heap.size J)
    (hY : ∀ pre x W1, J pre W1 → pre.length < nblk l → YieldAt Fence.wide (n - 1) Try.prog y #[.string (bs x.1)] W1 fun e W' =>
      (e = .returned (.bool true) ∧ J (pre ++ [x]) W' ∧ W'.heap[B]? = W1.heap[B]?) ∨ (e = .returned (.bool false) ∧ Jx (pre ++ [x]) W'))
    (hB : At W B 9 [.string (bs l)]) (h0 : J [] W) :
    CallsIn Fence.wide n Try.prog 42 #[.func (.yield y) #[] #[], .pointer (some ⟨B, 0, none⟩)] W fun e W' => (∃ v, e = .returned v) ∧
      ((∃ ys : List Blk, ys.map (·.1) = blks l ∧ J ys W') ∨ (∃ pre : List Blk, True ∧ Jx pre W')) := by
  have hc := hB.cell 0 _ rfl
  have hJa' : ∀ s (A B : World) row, J s A → A.grownBy B row → (∀ r, row = some r → W.heap.size ≤ r ∧ ∃ o : Obj, A.heap[r]? = some o ∧ o.isWalk = true) → J s B := hJa
  clear hJa
  refine callsIn_of_wp Try.func42 rfl trivial ?_ rfl
  simp only [Try.ntmps42, List.size_toArray, List.length_cons, List.length_nil, Nat.reduceAdd, Nat.reduceSub, Array.replicate_succ, Array.replicate_zero, List.push_toArray, List.append_toArray, List.nil_append, List.cons_append]
  gi_wp2
  gi_loopw [3] (fun p wr => ∃ (k : Nat) (pre : List Blk), 64 * k ≤ l.length ∧ p = .string (bs (l.drop (64 * k))) ∧ pre.map (·.1) = (List.range k).map (blk l) ∧ J pre wr ∧ At wr B 9 [.string (bs l)]) (fun p _ => match p with | .string s => s.size | _ => 0)
  case atStart => exact ⟨0, [], by omega, by simp, rfl, h0, hB⟩
  case round =>
    obtain ⟨k, pre, hk, rfl, hpre, hJ, hA⟩ := hrel
    have HA := Lib.hid hA
    have HP := Lib.hid hpre
    clear hA hpre hc hB
    obtain ⟨m, hm⟩ : ∃ m, m = l.drop (64 * k) := ⟨_, rfl⟩
    rw [← hm]
    have hml : m.length = l.length - 64 * k := by rw [hm, List.length_drop]
    have hbk : 64 ≤ m.length → m.take 64 = blk l k := fun h => by
      rw [hm, blk, full, List.drop_append_of_le_length hk, List.take_append_of_le_length (by rw [← hm]; exact h)]
    have hnb : 64 ≤ m.length → k < nblk l := fun h => by
      have := full_len l
      rw [full, List.length_append] at this
      omega
    have hd : m.drop 64 = l.drop (64 * (k + 1)) := by rw [hm, List.drop_drop]; congr 1
    have hpl : pre.length = k := by have := congrArg List.length HP.out; simpa using this
    have HD := Lib.hid hd
    have HM := Lib.hid hm
    clear hd hm
    by_cases hlt : 64 ≤ m.length
    · have hx : (m.take 64).length = 64 := by rw [List.length_take]; omega
      obtain ⟨fn, tmps, assign, body, hy, hR⟩ := hY pre ⟨m.take 64, hx⟩ wr hJ (by have := hnb hlt; omega)
      have hp1 : (pre ++ [(⟨m.take 64, hx⟩ : Blk)]).map (·.1) = (List.range (k + 1)).map (blk l) := by
        rw [List.map_append, HP.out, List.range_succ, List.map_append]
        simp [hbk hlt]
      have HP1 := Lib.hid hp1
      have hk1 : 64 * (k + 1) ≤ l.length := by omega
      have hl1 : (64 : Int) ≤ m.length := by omega
      clear hp1 hbk hnb hml
      gi_wp2
      refine hR.mono ?_
      rintro e W3 (⟨rfl, hJ3, hk3⟩ | ⟨rfl, hJx3⟩)
      · have HA3 : At W3 B 9 [.string (bs l)] := hk3.trans HA.out
        gi_wp2
        go_roundw
        case rel => exact ⟨k + 1, _, hk1, by rw [HD.out], HP1.out, hJ3, HA3⟩
        case measure => simp [bs_size]; omega
      · gi_wp2
        refine bodyPost_ret (results_none rfl _ _ _) rfl ?_
        exact ⟨⟨_, rfl⟩, .inr ⟨_, trivial, hJx3⟩⟩
    · have hc := HA.out.cell 0 _ rfl
      have hf : full l = l.take (64 * k) ++ (m ++ pad l.length) := by rw [full, HM.out, ← List.append_assoc, List.take_append_drop]
      have hfd : m ++ pad l.length = (full l).drop (64 * k) := by
        rw [full, HM.out, List.drop_append_of_le_length hk]
      have HF := Lib.hid hfd
      have hkn : k ≤ nblk l := by
        have := full_len l
        rw [full, List.length_append] at this
        omega
      have hlt2 : ¬ ((64:Int) ≤ m.length) := by omega
      have hm3 : m.length + (pad l.length).length ≤ 4096 := by rw [pad_len]; unfold noughts; omega
      clear hbk hnb hml hf hfd hlt
      gi_wp2_with (refine ⟨trivial, ?_⟩; gi_at_call 43; refine (callsIn_wide.2 (padding_any l.length _ hl)).mono ?_; rintro e w2 ⟨rfl, b2⟩)
      have hJ2 : J pre w2 := hJa' _ _ _ none hJ ⟨b2.os, b2.tape, b2.output, b2.size, fun i hi _ => b2.block i hi⟩ (by simp)
      gi_loopw [3] (fun p wr => ∃ (k : Nat) (pre : List Blk), k ≤ nblk l ∧ p = .string (bs ((full l).drop (64 * k))) ∧ pre.map (·.1) = (List.range k).map (blk l) ∧ J pre wr) (fun p _ => match p with | .string s => s.size | _ => 0)
      case atStart => exact ⟨k, pre, hkn, by rw [HF.out], HP.out, hJ2⟩
      clear hJ2 b2 HF HP hJ
      case round =>
        obtain ⟨k, pre, hk, rfl, hpre, hJ⟩ := hrel
        obtain ⟨m, hm⟩ : ∃ m, m = (full l).drop (64 * k) := ⟨_, rfl⟩
        rw [← hm]
        have hml : m.length = 64 * nblk l - 64 * k := by rw [hm, List.length_drop, full_len]
        have hbk : m.take 64 = blk l k := by rw [hm]; rfl
        have hd : m.drop 64 = (full l).drop (64 * (k + 1)) := by rw [hm, List.drop_drop]; congr 1
        have hpl : pre.length = k := by have := congrArg List.length hpre; simpa using this
        have HD := Lib.hid hd
        have HP := Lib.hid hpre
        clear hd hm hpre
        by_cases hlt : k < nblk l
        · have hx : (m.take 64).length = 64 := by rw [List.length_take]; omega
          obtain ⟨fn, tmps, assign, body, hy, hR⟩ := hY pre ⟨m.take 64, hx⟩ wr hJ (by omega)
          have hp1 : (pre ++ [(⟨m.take 64, hx⟩ : Blk)]).map (·.1) = (List.range (k + 1)).map (blk l) := by
            rw [List.map_append, HP.out, List.range_succ, List.map_append]
            simp [hbk]
          have HP1 := Lib.hid hp1
          have hl1 : (64 : Int) ≤ m.length := by omega
          have hl2 : m.length ≠ 0 := by omega
          have hl3 : 64 ≤ m.length := by omega
          have hne : m.isEmpty = false := by
            cases m with
            | nil => simp at hl2
            | cons c m' => rfl
          clear hp1 hbk hml
          gi_wp2
          refine hR.mono ?_
          rintro e W3 (⟨rfl, hJ3, hk3⟩ | ⟨rfl, hJx3⟩)
          · gi_wp2
            go_roundw
            case rel => exact ⟨k + 1, _, by omega, by rw [HD.out], HP1.out, hJ3⟩
            case measure => simp [bs_size]; omega
          · gi_wp2
            refine bodyPost_ret (results_none rfl _ _ _) rfl ?_
            exact ⟨⟨_, rfl⟩, .inr ⟨_, trivial, hJx3⟩⟩
        · obtain rfl : k = nblk l := by omega
          have hl2 : m.length = 0 := by omega
          have hne : m.isEmpty = true := by
            cases m with
            | nil => rfl
            | cons c m' => simp at hl2
          clear hml hbk
          gi_wp2
          go_end0
          exact ⟨⟨_, rfl⟩, .inl ⟨pre, HP.out, hJ⟩⟩

/-- what a round must keep: block B -/
def Same1 (B : Nat) (W W' : World) : Prop := W'.heap[B]? = W.heap[B]?
theorem blocks_stops (n : Nat) (hn : 1 ≤ n) (B : Nat) (l : List UInt8) (w : World) (hl : l.length ≤ 1152921504606846976) (hB : At w B 9 [.string (bs l)]) :
    SeqStopsK Fence.wide n Try.prog 42 #[.pointer (some ⟨B, 0, none⟩)] (fun x : Blk => #[.string (bs x.1)]) (Same1 B) (fun xs => xs.map (·.1) = blks l) (fun _ => True) (nblk l) w :=
  fun y J Jx W hW hJ _ hY h0 => blocks1_in n hn y B l hl J Jx W hJ hY (hB.below hW hB.lt) h0

theorem blocks_any (v : ByteArray) (w : World) :
    Calls Try.prog 26 #[.string v] w fun e w' => e = .returned (.func (.func 42) #[] #[.pointer (some ⟨w.heap.size, 0, none⟩)]) ∧ w' = w.alloc (.cells #[.string v] 9) := by
  have hmf : ∀ (fn : Fn) (first cap : Array Value) (w : World), (Instr.makeFunc fn first cap).run Try.prog w = .ok (.func fn first cap) w := fun _ _ _ _ => rfl
  go_enter Try.func26, Try.ntmps26
  go_wp2
  go_ret
  exact ⟨rfl, rfl⟩
end Go.Proofs.Ytffpmdgchpcaaaa
