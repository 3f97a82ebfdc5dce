/- The statement NameBits: what a hash tells. -/
import Derived.Test.YtffpmdgchpcaaaaNm
import Derived.Deep.RegionHeld3
namespace Go.Proofs.Ytffpmdgchpcaaaa
open Go.RowKit

/-! the letters have different numbers -/
def valN (c : UInt8) : Int := if isLet c then (lets.idxOf c : Int) else -1
theorem val_letN (n : Nat) (h : n < 32) : lets.idxOf (letN n) = n := by
  have : ∀ k : Fin 32, lets.idxOf (letN k.1) = k.1 := by decide
  exact this ⟨n, h⟩
theorem lets_before (n : Nat) (h : n < 32) (k : Nat) (hk : k < n) (c : UInt8) (hc : lets[k]? = some c) : ¬ c = letN n := by
  intro e
  subst e
  have h1 := letN_some k (by omega)
  rw [h1] at hc
  have h2 : letN k = letN n := Option.some.inj hc
  have h3 := val_letN k (by omega)
  rw [h2, val_letN n h] at h3
  omega

attribute [local go_sem] bs_size
set_option maxRecDepth 100000 in
set_option maxHeartbeats 2000000 in
theorem value_any (n : Nat) (w : World) (h : n < 32) : Calls Try.prog 21 #[.int .u8 ((letN n).toNat : Int)] w fun e w' => e = .returned (.int .i64 (n : Int)) ∧ w' = w := by
  have hd : ({ data := #[48, 49, 50, 51, 52, 53, 54, 55, 56, 57, 97, 98, 99, 100, 102, 103, 104, 105, 106, 107, 108, 109, 110, 112, 113, 114, 115, 118, 119, 120, 121, 122] } : ByteArray) = bs lets := rfl
  have hsome := letN_some n h
  have hbef := lets_before n h
  obtain ⟨x, hx⟩ : ∃ x, letN n = x := ⟨_, rfl⟩
  rw [hx] at hsome hbef ⊢
  have HS := Lib.hid hsome
  have HBf := Lib.hid hbef
  clear hsome hbef hx
  go_enter Try.func21, Try.ntmps21
  go_wp2
  rw [hd]
  clear hd
  have hll : lets.length = 32 := rfl
  have hlsz : (bs lets).size = 32 := rfl
  go_loop [4] (fun i => ∃ k : Nat, k ≤ n ∧ i = .int .i64 k) (fun i => n - (intOf i).toNat)
  case atStart => exact ⟨0, by omega, rfl⟩
  case round =>
    obtain ⟨k, hk, rfl⟩ := hrel
    have hk32 : (k : Int) < 32 := by omega
    by_cases hlt : k < n
    · obtain ⟨c, hc⟩ := let_some k (by omega)
      have hne := toNat_ne (HBf.out k hlt c hc)
      have hat := fun h => bs_at (l := lets) (k := k) hc h
      clear hc
      go_wp2
      go_round
      case rel => exact ⟨k + 1, by omega, by go_num⟩
      case measure => simp [intOf]; omega
    · obtain rfl : k = n := by omega
      have hat := fun h => bs_at (l := lets) (k := k) HS.out h
      go_wp2
      go_ret
      exact ⟨rfl, rfl⟩

theorem num_lt (s : List UInt8) : num s < 2 ^ (8 * s.length) := by
  have : ∀ n, n ≤ s.length → num (s.take n) < 2 ^ (8 * n) := by
    intro n
    induction n with
    | zero => intro _; simp [num]
    | succ n ih =>
      intro h
      obtain ⟨c, hc⟩ : ∃ c, s[n]? = some c := ⟨_, List.getElem?_eq_getElem (by omega)⟩
      have := c.toNat_lt
      have := ih (by omega)
      rw [num_take s n c hc, show 8 * (n + 1) = 8 * n + 8 by omega, Nat.pow_add]
      omega
  have h := this s.length (Nat.le_refl _)
  rwa [List.take_length] at h
theorem pre_div (x t d : Nat) (h : t + d ≤ 160) : pre x (t + d) / 2 ^ d = pre x t := by
  unfold pre
  rw [Nat.div_div_eq_div_mul, ← Nat.pow_add, show 160 - (t + d) + d = 160 - t by omega]
/-- what has been gathered behind k letters: of the first 5k bits those behind the last whole byte -/
def hav (x k : Nat) : Nat := pre x (5 * k) % 2 ^ (5 * k % 8)
def grp (x k : Nat) : Nat := x / 2 ^ (155 - 5 * k) % 32
theorem pre_grp (x k : Nat) (h : k < 32) : pre x (5 * (k + 1)) = 32 * pre x (5 * k) + grp x k := by
  have h1 := pre_div x (5 * k) 5 (by omega)
  have e : grp x k = pre x (5 * k + 5) % 32 := by unfold grp pre; rw [show 160 - (5 * k + 5) = 155 - 5 * k by omega]
  rw [show 5 * (k + 1) = 5 * k + 5 by omega, e, ← h1]
  generalize pre x (5 * k + 5) = p
  omega
theorem mod_join (p g b : Nat) (hg : g < 32) : (32 * p + g) % 2 ^ (b + 5) = p % 2 ^ b * 32 + g := by
  rw [Nat.pow_add, Nat.mul_comm (2 ^ b), Nat.mod_mul, show (2 : Nat) ^ 5 = 32 from rfl, show (32 * p + g) % 32 = g by omega, show (32 * p + g) / 32 = p by omega]
  omega
theorem hav_join (x k : Nat) (h : k < 32) : hav x k * 32 + grp x k = pre x (5 * (k + 1)) % 2 ^ (5 * k % 8 + 5) := by
  rw [pre_grp x k h, mod_join _ _ _ (show grp x k < 32 from Nat.mod_lt _ (by omega))]; rfl
theorem hav_small (x k : Nat) (h : k < 32) (hb : 5 * k % 8 + 5 < 8) : hav x k * 32 + grp x k = hav x (k + 1) := by
  rw [hav_join x k h]; unfold hav; rw [show 5 * (k + 1) % 8 = 5 * k % 8 + 5 by omega]
theorem hav_rest (x k : Nat) (h : k < 32) (hb : 8 ≤ 5 * k % 8 + 5) : (hav x k * 32 + grp x k) % 2 ^ (5 * k % 8 + 5 - 8) = hav x (k + 1) := by
  rw [hav_join x k h, Nat.mod_mod_of_dvd _ (Nat.pow_dvd_pow 2 (by omega))]
  unfold hav; rw [show 5 * (k + 1) % 8 = 5 * k % 8 + 5 - 8 by omega]
theorem hav_byte (s : List UInt8) (k : Nat) (h : k < 32) (hs : 20 ≤ s.length) (hb : 8 ≤ 5 * k % 8 + 5) (c : UInt8) (hc : s[5 * k / 8]? = some c) :
    (hav (num (s.take 20)) k * 32 + grp (num (s.take 20)) k) / 2 ^ (5 * k % 8 + 5 - 8) = c.toNat := by
  have hlt := c.toNat_lt
  rw [hav_join _ k h, show (2 : Nat) ^ (5 * k % 8 + 5) = 2 ^ (5 * k % 8 + 5 - 8) * 2 ^ 8 by rw [← Nat.pow_add]; congr 1; omega, Nat.mod_mul_right_div_self]
  have h1 := pre_div (num (s.take 20)) (8 * (5 * k / 8 + 1)) (5 * k % 8 + 5 - 8) (by omega)
  rw [show 8 * (5 * k / 8 + 1) + (5 * k % 8 + 5 - 8) = 5 * (k + 1) by omega] at h1
  rw [h1]
  unfold pre
  have h2 := num_div s (5 * k / 8 + 1) (20 - (5 * k / 8 + 1)) (by omega)
  rw [show 5 * k / 8 + 1 + (20 - (5 * k / 8 + 1)) = 20 by omega] at h2
  rw [show 160 - 8 * (5 * k / 8 + 1) = 8 * (20 - (5 * k / 8 + 1)) by omega, h2, num_take s _ c hc]
  omega

theorem pre_eq (x y : Nat) (hx : x < 2 ^ 160) (hy : y < 2 ^ 160) (h : ∀ k, k < 32 → grp x k = grp y k) : ∀ k, k ≤ 32 → pre x (5 * k) = pre y (5 * k) := by
  intro k
  induction k with
  | zero => intro _; unfold pre; rw [Nat.div_eq_of_lt hx, Nat.div_eq_of_lt hy]
  | succ k ih => intro hk; rw [pre_grp x k (by omega), pre_grp y k (by omega), ih (by omega), h k (by omega)]
theorem take_of_num (s t : List UInt8) (hs : 20 ≤ s.length) (ht : 20 ≤ t.length) (h : num (s.take 20) = num (t.take 20)) : s.take 20 = t.take 20 := by
  have hn : ∀ k, k ≤ 20 → num (s.take k) = num (t.take k) := fun k hk => by
    have h1 := num_div s k (20 - k) (by omega)
    have h2 := num_div t k (20 - k) (by omega)
    rw [show k + (20 - k) = 20 by omega] at h1 h2
    rw [← h1, ← h2, h]
  apply List.ext_getElem?
  intro j
  rw [List.getElem?_take, List.getElem?_take]
  by_cases hj : j < 20
  · rw [if_pos hj, if_pos hj]
    obtain ⟨c, hc⟩ : ∃ c, s[j]? = some c := ⟨_, List.getElem?_eq_getElem (by omega)⟩
    obtain ⟨d, hd⟩ : ∃ d, t[j]? = some d := ⟨_, List.getElem?_eq_getElem (by omega)⟩
    have h1 := hn (j + 1) (by omega)
    rw [num_take s j c hc, num_take t j d hd, hn j (by omega)] at h1
    have : c = d := UInt8.toNat.inj (by omega)
    rw [hc, hd, this]
  · rw [if_neg hj, if_neg hj]
theorem hashL_iff (s t : List UInt8) (hs : 20 ≤ s.length) (ht : 20 ≤ t.length) : (hashL s = hashL t) ↔ (s.take 20 = t.take 20) := by
  constructor
  · intro h
    apply take_of_num s t hs ht
    have hx := num_lt (s.take 20)
    have hy := num_lt (t.take 20)
    rw [List.length_take, show min 20 s.length = 20 by omega] at hx
    rw [List.length_take, show min 20 t.length = 20 by omega] at hy
    have hg : ∀ k, k < 32 → grp (num (s.take 20)) k = grp (num (t.take 20)) k := fun k hk => by
      have h1 : (hashL s)[k]? = (hashL t)[k]? := by rw [h]
      unfold hashL hls at h1
      rw [List.getElem?_map, List.getElem?_map, List.getElem?_range hk] at h1
      have h2 : letN (grp (num (s.take 20)) k) = letN (grp (num (t.take 20)) k) := Option.some.inj h1
      rw [← val_letN (grp (num (s.take 20)) k) (Nat.mod_lt _ (by omega)), h2, val_letN (grp (num (t.take 20)) k) (Nat.mod_lt _ (by omega))]
    have := pre_eq _ _ hx hy hg 32 (by omega)
    unfold pre at this
    simpa using this
  · intro h
    unfold hashL hls hl
    rw [h]
end Go.Proofs.Ytffpmdgchpcaaaa
