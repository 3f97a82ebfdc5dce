import Derived.Test.YtdpeblchndfdaaaRows
import Derived.Test.YtdpeblchndfdaaaL
import Derived.Test.YtdpeblchndfdaaaWd
import Derived.WalkKit
import Derived.WalkSpells
import Derived.WalkLawsBesides
import Derived.BigQuiet
import Derived.Deep.QuietTactic
import Derived.Lib.Hide
namespace Go.Proofs.Ytdpeblchndfdaaa
open Go.RowKit
set_option maxRecDepth 100000

def numV (l : List UInt8) (n : Nat) : Value :=
  match Plain.num l n with
  | some (n, r) => .tuple #[.int .u64 n, .string (bs r), .bool true]
  | none => .tuple #[.int .u64 0, .string ⟨#[]⟩, .bool false]

def cutV (l : List UInt8) : Value :=
  match Plain.cut l with
  | some (n, r) => .tuple #[.int .u64 n, .string (bs r), .bool true]
  | none => .tuple #[.int .u64 0, .string ⟨#[]⟩, .bool false]

theorem or_val (m c : Nat) (hc : c < 256) (hm : (m : Int) ≤ 144115188075855871) :
    bits .or .u64 ((m : Int) * 128) (IntKind.u64.wrap (bits .and .u8 (c : Int) 127)) = ((m * 128 + c % 128 : Nat) : Int) := by
  have e1 : bits .and .u8 (c : Int) 127 = ((c % 128 : Nat) : Int) := by
    have := bits_mask .u8 8 (by decide) wraps_u8 7 (by decide) (c : Int) (by omega) (by omega)
    simp at this
    rw [this]; omega
  have e2 : IntKind.u64.wrap ((c % 128 : Nat) : Int) = ((c % 128 : Nat) : Int) := by
    simp only [IntKind.wrap, IntKind.bits, IntKind.signed]; simp; omega
  rw [e1, e2, show (m : Int) * 128 = ((m * 128 : Nat) : Int) by omega, u64_or_nat _ _ (by omega) (by omega)]
  rw [nat_join 7 (m * 128) (c % 128) (by omega) (by omega)]

theorem num_end (s : ByteArray) (k m : Nat) (R : Value) (hlt : k < s.size) (hm : (m : Int) ≤ 144115188075855871) (hl : (s[k].toNat : Int) < 128)
    (h : numV (s.data.toList.drop k) m = R) :
    R = .tuple #[.int .u64 (bits .or .u64 ((m : Int) * 128) (IntKind.u64.wrap (bits .and .u8 (s[k].toNat : Int) 127))), .string (s.extract (k + 1) s.size), .bool true] := by
  rw [← h, drop_cons s k hlt, or_val m s[k].toNat (s[k].toNat_lt) hm, bs_drop s _]
  have ht : ¬ Plain.top < m := by unfold Plain.top; omega
  simp only [numV, Plain.num, if_neg ht]
  rw [if_pos (by omega), Nat.mod_eq_of_lt (by omega)]
theorem num_step (s : ByteArray) (k m : Nat) (R : Value) (hlt : k < s.size) (hm : (m : Int) ≤ 144115188075855871) (hl : 128 ≤ (s[k].toNat : Int))
    (h : numV (s.data.toList.drop k) m = R) : ∃ m' : Nat, bits .or .u64 ((m : Int) * 128) (IntKind.u64.wrap (bits .and .u8 (s[k].toNat : Int) 127)) = (m' : Int) ∧
      numV (s.data.toList.drop (k + 1)) m' = R := by
  refine ⟨_, or_val m s[k].toNat (s[k].toNat_lt) hm, ?_⟩
  rw [← h, drop_cons s k hlt]
  have ht : ¬ Plain.top < m := by unfold Plain.top; omega
  have hc := s[k].toNat_lt
  simp only [numV, Plain.num, if_neg ht]
  rw [if_neg (by omega), show s[k].toNat % 128 = s[k].toNat - 128 by omega]
theorem num_big (s : ByteArray) (k m : Nat) (R : Value) (hlt : k < s.size) (hm : (144115188075855871 : Int) < m)
    (h : numV (s.data.toList.drop k) m = R) : R = .tuple #[.int .u64 0, .string ⟨#[]⟩, .bool false] := by
  rw [← h, drop_cons s k hlt]
  have ht : Plain.top < m := by unfold Plain.top; omega
  simp only [numV, Plain.num, if_pos ht]
theorem num_nil (s : ByteArray) (k m : Nat) (R : Value) (hlt : ¬ k < s.size)
    (h : numV (s.data.toList.drop k) m = R) : R = .tuple #[.int .u64 0, .string ⟨#[]⟩, .bool false] := by
  rw [← h, List.drop_of_length_le (by simp; omega)]; rfl

set_option maxHeartbeats 400000 in
theorem cutNum_loop (s : ByteArray) (w : World) (hs : s.size ≤ maxLen) (h1 : s.toList.isEmpty = false) (h2 : 0 < s.size) (h3 : ((s[0].toNat : Int) == 128) = false) :
    Calls Try.prog 91 #[.string s] w fun e w' => e = .returned (numV s.data.toList 0) ∧ Below w.heap.size w w' := by
  unfold maxLen at hs
  generalize hR : numV s.data.toList 0 = R
  go_enter Try.func91, Try.ntmps91
  go_wp2
  go_loopw [15, 2] (fun i n wr => ∃ (k : Nat) (m : Nat), k ≤ s.size ∧ i = .int .i64 k ∧ n = .int .u64 m ∧ numV (s.data.toList.drop k) m = R ∧ wr = w) (fun i _ _ => s.size - (intOf i).toNat)
  case atStart => exact ⟨0, 0, by omega, rfl, rfl, hR, rfl⟩
  case round =>
    obtain ⟨k, m, hk, rfl, rfl, hm, rfl⟩ := hrel
    have HM := Lib.hid hm
    clear hm hR
    by_cases hlt : k < s.size
    · by_cases hbig : (144115188075855871:Int) < m
      · go_wp2
        go_ret3
        exact ⟨ret_of (num_big s k m R hlt hbig HM.out), Below.refl _ _⟩
      · by_cases hl : (s[k].toNat : Int) < 128
        · go_wp2
          go_quiet (fail)
          go_wp2
          go_ret3
          exact ⟨ret_of (num_end s k m R hlt (by omega) hl HM.out), ⟨rfl, rfl, rfl, Nat.le_refl _, fun _ _ => rfl⟩⟩
        · go_wp2
          go_roundw
          case rel =>
            obtain ⟨m', e1, e2⟩ := num_step s k m R hlt (by omega) (by omega) HM.out
            exact ⟨k + 1, m', by omega, by go_num, by rw [e1], e2, trivial⟩
          case measure => simp [intOf]; omega
    · go_wp2
      go_ret3
      exact ⟨ret_of (num_nil s k m R hlt HM.out), Below.refl _ _⟩

set_option maxHeartbeats 400000 in
theorem cutNum_nil (s : ByteArray) (w : World) (h1 : s.toList.isEmpty = true) :
    Calls Try.prog 91 #[.string s] w fun e w' => e = .returned (.tuple #[.int .u64 0, .string ⟨#[]⟩, .bool false]) ∧ Below w.heap.size w w' := by
  have h2 : s.size = 0 := by
    rw [ByteArray.toList_eq, List.isEmpty_iff] at h1
    have := congrArg List.length h1
    rw [Array.length_toList] at this
    exact this
  go_enter Try.func91, Try.ntmps91
  go_wp2
  go_loopw [15, 2] (fun i n wr => i = .int .i64 0 ∧ wr = w) (fun i _ _ => 0)
  case atStart => exact ⟨rfl, rfl⟩
  case round =>
    obtain ⟨rfl, rfl⟩ := hrel
    go_wp2
    go_ret3
    exact ⟨rfl, Below.refl _ _⟩

set_option maxHeartbeats 400000 in
theorem cutNum_zero (s : ByteArray) (w : World) (h1 : s.toList.isEmpty = false) (h2 : 0 < s.size) (h3 : ((s[0].toNat : Int) == 128) = true) :
    Calls Try.prog 91 #[.string s] w fun e w' => e = .returned (.tuple #[.int .u64 0, .string ⟨#[]⟩, .bool false]) ∧ Below w.heap.size w w' := by
  go_enter Try.func91, Try.ntmps91
  go_wp2
  go_ret3
  exact ⟨rfl, Below.refl _ _⟩

theorem cutNum_any (s : ByteArray) (w : World) (hs : s.size ≤ maxLen) :
    Calls Try.prog 91 #[.string s] w fun e w' => e = .returned (cutV s.data.toList) ∧ Below w.heap.size w w' := by
  by_cases h2 : 0 < s.size
  · have h1 : s.toList.isEmpty = false := by
      rw [ByteArray.toList_eq, List.isEmpty_eq_false_iff]
      intro h
      have := congrArg List.length h
      rw [Array.length_toList] at this
      have e : s.data.size = s.size := rfl
      rw [List.length_nil] at this; omega
    have hl : s.data.toList = s[0] :: s.data.toList.drop 1 := by simpa using drop_cons s 0 h2
    by_cases h3 : ((s[0].toNat : Int) == 128) = true
    · refine (cutNum_zero s w h1 h2 h3).mono fun e w' ⟨he, hb⟩ => ⟨?_, hb⟩
      have h4 : s[0] = 128 := by
        apply UInt8.toNat_inj.1
        have := beq_iff_eq.1 h3
        simp; omega
      rw [he, hl]
      simp [cutV, Plain.cut, h4]
    · have h3 := Bool.eq_false_iff.2 h3
      refine (cutNum_loop s w hs h1 h2 h3).mono fun e w' ⟨he, hb⟩ => ⟨?_, hb⟩
      have h4 : s[0] ≠ 128 := by
        intro h
        rw [h] at h3
        simp at h3
      rw [he]
      have : Plain.cut s.data.toList = Plain.num s.data.toList 0 := by
        unfold Plain.cut
        rw [if_neg]
        rw [hl]
        simpa using h4
      simp [cutV, numV, this]
  · have h0 : s.size = 0 := by omega
    have hl : s.data.toList = [] := by
      apply List.eq_nil_of_length_eq_zero
      rw [Array.length_toList]
      exact h0
    have h1 : s.toList.isEmpty = true := by
      rw [ByteArray.toList_eq, List.isEmpty_iff, hl]
    refine (cutNum_nil s w h1).mono fun e w' ⟨he, hb⟩ => ⟨?_, hb⟩
    rw [he, hl]
    rfl
end Go.Proofs.Ytdpeblchndfdaaa
