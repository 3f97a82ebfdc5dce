/- The document's Hash. -/
import Derived.Test.YtffpmdgchpcaaaaNi
import Derived.Test.YtffpmdgchpcaaaaRf
namespace Go.Proofs.Ytffpmdgchpcaaaa
open Go.RowKit

/-- the bit at place t of the first twenty bytes -/
theorem bit_num (s : List UInt8) (t : Nat) (c : UInt8) (hs : 20 ≤ s.length) (ht : t < 160) (hc : s[t / 8]? = some c) : c.toNat / 2 ^ (7 - t % 8) % 2 = num (s.take 20) / 2 ^ (159 - t) % 2 := by
  have h1 := num_div s (t / 8 + 1) (20 - (t / 8 + 1)) (by omega)
  rw [show t / 8 + 1 + (20 - (t / 8 + 1)) = 20 by omega] at h1
  have hlt := c.toNat_lt
  rw [show 159 - t = 8 * (20 - (t / 8 + 1)) + (7 - t % 8) by omega, Nat.pow_add, ← Nat.div_div_eq_div_mul, h1, num_take s _ c hc]
  have h7 : t % 8 = 0 ∨ t % 8 = 1 ∨ t % 8 = 2 ∨ t % 8 = 3 ∨ t % 8 = 4 ∨ t % 8 = 5 ∨ t % 8 = 6 ∨ t % 8 = 7 := by omega
  rcases h7 with h | h | h | h | h | h | h | h <;> rw [h] <;> simp <;> omega
/-- the first t bits -/
def pre (x t : Nat) : Nat := x / 2 ^ (160 - t)
theorem pre_succ (x t : Nat) (ht : t < 160) : pre x (t + 1) = 2 * pre x t + x / 2 ^ (159 - t) % 2 := by
  unfold pre
  rw [show 160 - (t + 1) = 159 - t by omega, show 160 - t = (159 - t) + 1 by omega, Nat.pow_succ, ← Nat.div_div_eq_div_mul]
  omega
/-- k bits from place t on -/
def bitsAt (x t k : Nat) : Nat := pre x (t + k) % 2 ^ k
theorem bitsAt_zero (x t : Nat) : bitsAt x t 0 = 0 := by unfold bitsAt; omega
theorem bitsAt_succ (x t k : Nat) (h : t + k < 160) : bitsAt x t (k + 1) = 2 * bitsAt x t k + x / 2 ^ (159 - (t + k)) % 2 := by
  unfold bitsAt
  rw [← Nat.add_assoc, pre_succ x (t + k) h, Nat.pow_succ]
  have h2 := Nat.mod_lt (x / 2 ^ (159 - (t + k))) (show 0 < 2 by omega)
  generalize x / 2 ^ (159 - (t + k)) % 2 = b at *
  generalize pre x (t + k) = p
  rw [Nat.mul_comm (2 ^ k) 2, Nat.mod_mul]
  rw [show (2 * p + b) % 2 = b by omega, show (2 * p + b) / 2 = p by omega]
  omega
theorem bitsAt_lt (x t k : Nat) : bitsAt x t k < 2 ^ k := Nat.mod_lt _ (Nat.two_pow_pos k)
theorem bitsAt_five (x i : Nat) (h : i < 32) : bitsAt x (5 * i) 5 = x / 2 ^ (155 - 5 * i) % 32 := by
  unfold bitsAt pre
  rw [show 160 - (5 * i + 5) = 155 - 5 * i by omega]

attribute [local go_sem] bs_size
set_option maxHeartbeats 1000000 in
theorem bit_any (s : List UInt8) (t : Nat) (c : UInt8) (w : World) (ht : t < 160) (hs : 20 ≤ s.length) (hc : s[t / 8]? = some c) :
    Calls Try.prog 31 #[.string (bs s), .int .i64 (t : Int)] w fun e w' => e = .returned (.int .i64 ((num (s.take 20) / 2 ^ (159 - t) % 2 : Nat) : Int)) ∧ w' = w := by
  have hb := bit_num s t c hs ht hc
  have hat := fun h => bs_at (l := s) (k := t / 8) hc h
  obtain ⟨k, hk⟩ : ∃ k, k = t / 8 := ⟨_, rfl⟩
  obtain ⟨m, hm⟩ : ∃ m, m = t % 8 := ⟨_, rfl⟩
  have e1 : (t : Int) / 8 = (k : Int) := by omega
  have e2 : (t : Int) % 8 = (m : Int) := by omega
  have e3 : (7 - (m : Int)) = ((7 - m : Nat) : Int) := by omega
  have hm8 : m < 8 := by omega
  rw [← hm] at hb
  rw [← hk] at hat
  have i1 : (k : Int) < (s.length : Int) := by omega
  have hlt := c.toNat_lt
  obtain ⟨d, hd⟩ : ∃ d, d = 7 - m := ⟨_, rfl⟩
  rw [← hd] at hb e3
  have hd7 : d ≤ 7 := by omega
  have hx2 : c.toNat / 2 ^ d < 256 := Nat.lt_of_le_of_lt (Nat.div_le_self _ _) hlt
  have hx : ((c.toNat : Int) / 2 ^ d) = ((c.toNat / 2 ^ d : Nat) : Int) := by simp
  generalize c.toNat / 2 ^ d = y at hx hx2 hb
  have hand : bits .and .i64 (y : Int) 1 = ((y % 2 : Nat) : Int) := by
    have := bits_mask .i64 8 (by decide) (fun n h0 h1 => IntWalk.i64_in n ⟨by omega, by omega⟩) 1 (by decide) (y : Int) (by omega) (by omega)
    simp at this
    rw [this]; omega
  rw [hb] at hand
  generalize num (s.take 20) / 2 ^ (159 - t) % 2 = z at *
  clear hb hk hm hd hc
  go_enter Try.func31, Try.ntmps31
  go_wp2
  go_ret
  exact ⟨rfl, rfl⟩

theorem cut1 (l : List UInt8) (n : Nat) (c : UInt8) (hc : l[n]? = some c) : (bs l).extract n (n + 1) = bs [c] := by
  obtain ⟨h, rfl⟩ := List.getElem?_eq_some_iff.1 hc
  apply ByteArray.ext
  rw [ByteArray.data_extract]
  unfold bs
  apply Array.ext'
  simp only [Array.toList_extract, List.extract_eq_take_drop]
  rw [show n + 1 - n = 1 by omega, List.drop_eq_getElem_cons h]
  rfl
theorem letN_some (n : Nat) (h : n < 32) : lets[n]? = some (letN n) := by
  unfold letN
  rw [List.getElem?_eq_getElem (show n < lets.length from h)]
  rfl
attribute [local go_sem] bs_append
set_option maxRecDepth 100000 in
set_option maxHeartbeats 4000000 in
theorem refHash_any (l : List UInt8) (w : World) (hll : l.length ≤ 1000000) :
    Calls Try.prog 13 #[.string (bs l)] w fun e w' => e = .returned (.string (bs (hashL (sha l)))) ∧ Below w.heap.size w w' := by
  have hsum := refSum_any l w (by omega)
  have hsl : (sha l).length = 32 := sha_len l
  generalize sha l = s at *
  have HS := Lib.hid hsl
  clear hsl
  have h0 : ({ data := #[] } : ByteArray) = bs [] := rfl
  go_enter Try.func13, Try.ntmps13
  go_wp2_with fail
  refine (hsum).mono ?_
  rintro e w1 ⟨rfl, hb1⟩
  have HB := Lib.hid hb1
  clear hb1 hsum
  go_wp2
  clear h0
  obtain ⟨x, hx⟩ : ∃ x, num (s.take 20) = x := ⟨_, rfl⟩
  have HX := Lib.hid hx
  clear hx
  go_loop [5, 4] (fun i v => ∃ k : Nat, k ≤ 32 ∧ i = .int .i64 k ∧ v = .string (bs (hls s k))) (fun i _ => 32 - (intOf i).toNat)
  case atStart => exact ⟨0, by omega, rfl, rfl⟩
  case round =>
    obtain ⟨k, hk, rfl, rfl⟩ := hrel
    by_cases hlt : k < 32
    · go_wp2
      go_loop [7, 6] (fun i v => ∃ j : Nat, j ≤ 5 ∧ i = .int .i64 j ∧ v = .int .i64 (bitsAt x (5 * k) j : Int)) (fun i _ => 5 - (intOf i).toNat)
      case atStart => exact ⟨0, by omega, rfl, by rw [bitsAt_zero]; rfl⟩
      case round =>
        obtain ⟨j, hj, rfl, rfl⟩ := hrel
        have hbl := bitsAt_lt x (5 * k) j
        have hpow : 2 ^ j ≤ 2 ^ 5 := Nat.pow_le_pow_right (by omega) hj
        have hbl2 : bitsAt x (5 * k) j < 32 := by omega
        clear hbl hpow
        by_cases hj5 : j < 5
        · obtain ⟨c, hc⟩ : ∃ c, s[(5 * k + j) / 8]? = some c := ⟨_, List.getElem?_eq_getElem (by rw [HS.out]; omega)⟩
          have hbit := bit_any s (5 * k + j) c w1 (by omega) (by rw [HS.out]; omega) hc
          rw [HX.out] at hbit
          have hs := bitsAt_succ x (5 * k) j (by omega)
          have HN := Lib.hid hs
          have hb2 : x / 2 ^ (159 - (5 * k + j)) % 2 < 2 := Nat.mod_lt _ (by omega)
          generalize x / 2 ^ (159 - (5 * k + j)) % 2 = b at *
          generalize bitsAt x (5 * k) j = n at *
          clear hs hc
          have hcast : ((5 * k + j : Nat) : Int) = 5 * (k : Int) + (j : Int) := by omega
          rw [hcast] at hbit
          clear hcast
          go_wp2_with (go_at_call 31; refine (hbit).mono ?_; rintro e w' ⟨rfl, rfl⟩)
          go_round
          case rel => exact ⟨j + 1, by omega, by go_num, by rw [HN.out]; go_num⟩
          case measure => simp [intOf]; omega
        · obtain rfl : j = 5 := by omega
          have h5 := bitsAt_five x k hlt
          have HN := hls_succ s k
          unfold hl at HN
          rw [HX.out, ← h5] at HN
          generalize bitsAt x (5 * k) 5 = n at *
          have hcut := cut1 lets n _ (letN_some n hbl2)
          have HN2 := Lib.hid HN
          clear HN h5
          have i1 : (n : Int) + 1 ≤ 32 := by omega
          have hll2 : lets.length = 32 := rfl
          have hlk : (hls s k).length + 1 ≤ 33 := by rw [hls_len]; omega
          go_wp2_with (go_at_call 32; refine (letters_any _).mono ?_; rintro e w' ⟨rfl, rfl⟩)
          go_round
          case rel => exact ⟨k + 1, by omega, by go_num, by rw [HN2.out]⟩
          case measure => simp [intOf]; omega
    · obtain rfl : k = 32 := by omega
      go_wp2
      go_ret
      exact ⟨rfl, HB.out⟩
end Go.Proofs.Ytffpmdgchpcaaaa
