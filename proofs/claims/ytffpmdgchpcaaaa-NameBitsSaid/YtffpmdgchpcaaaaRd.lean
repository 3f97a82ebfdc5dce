/- The document's answer: bytes, padded. -/
import Derived.Test.YtffpmdgchpcaaaaRa
import Derived.Test.YtffpmdgchpcaaaaSf
import Derived.Test.YtffpmdgchpcaaaaSm
namespace Go.Proofs.Ytffpmdgchpcaaaa
open Go.RowKit
attribute [local go_sem] bs_size bs_append

theorem conv1 (c : UInt8) (W : World) :
    (convert 24 9 (.slice (some ⟨W.heap.size, 0, none⟩) 1 1)).run Try.prog (W.alloc (.cells #[.int .u8 (c.toNat : Int)] 5)) =
      .ok (.string (bs [c])) (W.alloc (.cells #[.int .u8 (c.toNat : Int)] 5)) := by
  refine run_convert_bytes_back _ 24 9 5 ⟨W.heap.size, 0, none⟩ 1 [c] Try.underlying24 Try.underlying5 Try.underlying9 ?_
  intro j hj
  obtain rfl : j = 0 := by simpa using hj
  exact (At.new W #[.int .u8 (c.toNat : Int)] 5).cell 0 _ rfl
/-- the eight bytes that tell how many bits there were -/
def tail8 (n : Nat) : List UInt8 := bytes [BitVec.ofNat 32 (8 * n / 4294967296), BitVec.ofNat 32 (8 * n)]
theorem tail8_len (n : Nat) : (tail8 n).length = 8 := by rw [tail8, bytes_len]; rfl
theorem lo_ofNat (m k : Nat) (_hk : k ≤ 24) : lo ((BitVec.ofNat 32 m) >>> k) = UInt8.ofNat (m % 4294967296 / 2 ^ k) := by
  unfold lo
  rw [BitVec.toNat_ushiftRight, BitVec.toNat_ofNat, Nat.shiftRight_eq_div_pow]
theorem u8_eq {a b : Nat} (h : a % 256 = b % 256) : UInt8.ofNat a = UInt8.ofNat b := by
  apply UInt8.toNat_inj.1
  rw [UInt8.toNat_ofNat', UInt8.toNat_ofNat', h]
theorem tail8_get (n i : Nat) (hn : n ≤ 1152921504606846976) (h : i < 8) : (tail8 n)[i]? = some (UInt8.ofNat (8 * n / 2 ^ (8 * (7 - i)))) := by
  have hl : ∀ m, lo (BitVec.ofNat 32 m) = UInt8.ofNat (m % 4294967296) := fun m => by unfold lo; rw [BitVec.toNat_ofNat]
  have : i = 0 ∨ i = 1 ∨ i = 2 ∨ i = 3 ∨ i = 4 ∨ i = 5 ∨ i = 6 ∨ i = 7 := by omega
  rcases this with rfl | rfl | rfl | rfl | rfl | rfl | rfl | rfl <;>
    simp only [tail8, bytes, List.flatMap_cons, List.flatMap_nil, by4, List.append_nil, List.cons_append, List.nil_append, List.getElem?_cons_zero, List.getElem?_cons_succ, lo_ofNat _ _ (show 24 ≤ 24 by omega), lo_ofNat _ _ (show 16 ≤ 24 by omega), lo_ofNat _ _ (show 8 ≤ 24 by omega), hl] <;>
    refine congrArg some (u8_eq ?_) <;> omega
theorem full_eq (l : List UInt8) : full l = l ++ (128 :: List.replicate (noughts l.length) 0) ++ tail8 l.length := by
  simp [full, pad, tail8]

set_option maxRecDepth 100000 in
set_option maxHeartbeats 1000000 in
theorem padded_any (l : List UInt8) (w : World) (hl : l.length ≤ 1152921504606846976) :
    Calls Try.prog 48 #[.string (bs l)] w fun e w' => e = .returned (.string (bs (full l))) ∧ Below w.heap.size w w' := by
  obtain ⟨NN, hNN⟩ : ∃ NN : Int, NN = ((8 * l.length : Nat) : Int) := ⟨_, rfl⟩
  have hw1 : IntKind.u64.wrap (l.length : Int) = (l.length : Int) := by rw [IntKind.wrap_u64]; omega
  have hw2 : IntKind.u64.wrap ((l.length : Int) * 8) = NN := by rw [IntKind.wrap_u64]; omega
  have hq : noughts l.length < 64 := by unfold noughts; omega
  have hb : l.length + 1 ≤ 9223372036854775807 := by omega
  have HN := Lib.hid hNN
  have HL := Lib.hid hl
  clear hNN hl
  go_enter Try.func48, Try.ntmps48
  go_wp2
  go_loopw [0] (fun p wx => ∃ j : Nat, j ≤ noughts l.length ∧ p = .string (bs (l ++ 128 :: List.replicate j 0)) ∧ wx = w) (fun p _ => match p with | .string s => l.length + 100 - s.size | _ => 0)
  case atStart => exact ⟨0, by omega, by rw [show ({ data := #[128] } : ByteArray) = bs [128] from rfl, bs_append]; rfl, rfl⟩
  clear hb hw1 hw2
  case round =>
    obtain ⟨j, hj, rfl, rfl⟩ := hrel
    obtain ⟨m, hm⟩ : ∃ m, m = l ++ 128 :: List.replicate j 0 := ⟨_, rfl⟩
    rw [← hm]
    have hz : m.length = l.length + 1 + j := by rw [hm]; simp; omega
    have hr : (m.length : Int).tmod 64 = (m.length : Int) % 64 := Int.tmod_eq_emod_of_nonneg (by omega)
    have HM := Lib.hid hm
    have HZ := Lib.hid hz
    have hl := HL.out
    clear hm
    by_cases hlt : j < noughts l.length
    · have h56 : ¬ ((m.length : Int) % 64 = 56) := by unfold noughts at hlt hq; omega
      have hsz : m.length + 1 ≤ 9223372036854775807 := by omega
      have hlm : m.length < l.length + 70 := by omega
      clear hz hl
      go_wp2
      go_roundw
      case rel => exact ⟨j + 1, by omega, by rw [show ({ data := #[0] } : ByteArray) = bs [0] from rfl, bs_append, HM.out, List.append_assoc, List.cons_append, ← List.replicate_succ'], trivial⟩
      case measure =>
        have e : (bs m ++ ({ data := #[0] } : ByteArray)).size = m.length + 1 := by rw [ByteArray.size_append, bs_size]; rfl
        simp [e, bs_size]; omega
    · obtain rfl : j = noughts l.length := by omega
      have h56 : (m.length : Int) % 64 = 56 := by unfold noughts at hz; omega
      have hsz : m.length ≤ 1152921504606847976 := by omega
      clear hz hl hlt
      go_wp2
      go_loopw [0, 4] (fun p c wx => ∃ i : Nat, i ≤ 8 ∧ p = .string (bs (m ++ (tail8 l.length).take i)) ∧ c = .int .i64 (7 - (i : Int)) ∧ Below wr.heap.size wr wx) (fun _ c _ => (intOf c + 1).toNat)
      case atStart => exact ⟨0, by omega, by simp, rfl, Below.refl _ _⟩
      clear h56 hr
      case round =>
        obtain ⟨i, hi, rfl, rfl, hB⟩ := hrel
        have HB := Lib.hid hB
        clear hB
        by_cases hlt : i < 8
        · obtain ⟨c, hc⟩ : ∃ c : Nat, 7 - (i : Int) = (c : Int) := ⟨7 - i, by omega⟩
          rw [hc]
          have hc7 : c ≤ 7 := by omega
          have hcn : c = 7 - i := by omega
          have htk : (tail8 l.length).take (i + 1) = (tail8 l.length).take i ++ [UInt8.ofNat (8 * l.length / 2 ^ (8 * c))] := by
            have := tail8_get l.length i HL.out hlt
            obtain ⟨h1, h2⟩ := List.getElem?_eq_some_iff.1 this
            rw [List.take_succ_eq_append_getElem h1, h2, hcn]
          have hi1 : (i : Int) = 7 - c := by omega
          obtain ⟨t, ht⟩ : ∃ t, t = m ++ (tail8 l.length).take i := ⟨_, rfl⟩
          rw [← ht]
          have htl : t.length ≤ 1152921504606847990 := by rw [ht, List.length_append, List.length_take, tail8_len]; omega
          obtain ⟨b, hb⟩ : ∃ b, b = UInt8.ofNat (8 * l.length / 2 ^ (8 * c)) := ⟨_, rfl⟩
          rw [← hb] at htk
          have hbv : IntKind.u8.wrap (NN / 2 ^ (8 * c)) = (b.toNat : Int) := by
            rw [hb, UInt8.toNat_ofNat', HN.out]
            have e : (((8 * l.length : Nat) : Int) / 2 ^ (8 * c)) = ((8 * l.length / 2 ^ (8 * c) : Nat) : Int) := by
              rw [Int.natCast_ediv, Int.natCast_pow]; rfl
            rw [e]
            simp only [IntKind.wrap, IntKind.bits, IntKind.signed]; simp
          have hcv := conv1 b wr
          have HT := Lib.hid ht
          have HK := Lib.hid htk
          have HCN := Lib.hid (And.intro hcn hlt)
          have s1 : ¬ (8 * (c : Int) < 0) := by omega
          have s2 : (8 * (c : Int)).toNat = 8 * c := by omega
          have s3 : 8 * c < 64 := by omega
          clear ht htk hcn hb hc hi1 hlt hq hj
          go_wp2
          go_roundw
          case rel => exact ⟨i + 1, by have := HCN.out.2; omega, by rw [HK.out, ← List.append_assoc, ← HT.out], by obtain ⟨a, b⟩ := HCN.out; congr 1; omega, HB.out.alloc HB.out.size _⟩
          case measure => simp [intOf]
        · obtain rfl : i = 8 := by omega
          rw [List.take_of_length_le (by rw [tail8_len]; omega)]
          have hfin : m ++ tail8 l.length = full l := by rw [full_eq, HM.out]
          rw [hfin]
          go_wp2
          go_ret
          exact ⟨rfl, HB.out⟩
end Go.Proofs.Ytffpmdgchpcaaaa
