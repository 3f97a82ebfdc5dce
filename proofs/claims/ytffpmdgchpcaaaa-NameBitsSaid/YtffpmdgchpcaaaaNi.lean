/- Hash: the gathered bits. -/
import Derived.Test.YtffpmdgchpcaaaaNh
import Derived.Test.YtffpmdgchpcaaaaSg
import Derived.Test.YtffpmdgchpcaaaaSo
namespace Go.Proofs.Ytffpmdgchpcaaaa
open Go.RowKit

/-- bytes as one number -/
def num (s : List UInt8) : Nat := s.foldl (fun a c => a * 256 + c.toNat) 0
theorem num_snoc (s : List UInt8) (c : UInt8) : num (s ++ [c]) = num s * 256 + c.toNat := by simp [num, List.foldl_append]
theorem num_take (s : List UInt8) (k : Nat) (c : UInt8) (hc : s[k]? = some c) : num (s.take (k + 1)) = num (s.take k) * 256 + c.toNat := by
  obtain ⟨hk, rfl⟩ := List.getElem?_eq_some_iff.1 hc
  rw [List.take_succ_eq_append_getElem hk, num_snoc]
theorem num_div (s : List UInt8) (k : Nat) : ∀ d, k + d ≤ s.length → num (s.take (k + d)) / 2 ^ (8 * d) = num (s.take k) := by
  intro d
  induction d with
  | zero => intro _; simp
  | succ d ih =>
    intro h
    obtain ⟨c, hc⟩ : ∃ c, s[k + d]? = some c := ⟨_, List.getElem?_eq_getElem (by omega)⟩
    have := c.toNat_lt
    rw [← Nat.add_assoc, num_take s (k + d) c hc, show 8 * (d + 1) = 8 + 8 * d by omega, Nat.pow_add, ← Nat.div_div_eq_div_mul,
      show (num (s.take (k + d)) * 256 + c.toNat) / 2 ^ 8 = num (s.take (k + d)) by omega]
    exact ih (by omega)
/-- the letter of this number -/
def letN (n : Nat) : UInt8 := lets[n]?.getD 0
/-- a hash's letters, out of a sum -/
def hl (s : List UInt8) (j : Nat) : UInt8 := letN (num (s.take 20) / 2 ^ (155 - 5 * j) % 32)
def hls (s : List UInt8) (n : Nat) : List UInt8 := (List.range n).map (hl s)
def hashL (s : List UInt8) : List UInt8 := hls s 32
theorem hls_len (s : List UInt8) (n : Nat) : (hls s n).length = n := by simp [hls]
theorem hls_succ (s : List UInt8) (n : Nat) : hls s (n + 1) = hls s n ++ [hl s n] := by simp [hls, List.range_succ]
theorem hl_at (s : List UInt8) (hs : 20 ≤ s.length) (k j m : Nat) (hk : k ≤ 20) (h : 5 * (j + 1) + m = 8 * k) : hl s j = letN (num (s.take k) / 2 ^ m % 32) := by
  unfold hl
  have h1 := num_div s k (20 - k) (by omega)
  rw [show k + (20 - k) = 20 by omega] at h1
  rw [show 155 - 5 * j = 8 * (20 - k) + m by omega, Nat.pow_add, ← Nat.div_div_eq_div_mul, h1]

/-- what is gathered: the number's last 32 bits -/
def gat (n : Nat) : Wd := BitVec.ofNat 32 n
theorem gat_next (n : Nat) (c : UInt8) : gat n <<< 8 ||| up c = gat (n * 256 + c.toNat) := by
  have hc := c.toNat_lt
  have e : n * 256 + c.toNat = n <<< 8 ||| c.toNat := by
    rw [← Nat.shiftLeft_add_eq_or_of_lt (show c.toNat < 2 ^ 8 by omega), Nat.shiftLeft_eq]
  unfold gat up
  rw [e]
  apply BitVec.eq_of_toNat_eq
  simp only [BitVec.toNat_or, BitVec.toNat_shiftLeft, BitVec.toNat_ofNat, Nat.or_mod_two_pow]
  congr 1
  simp [Nat.shiftLeft_eq, Nat.mod_mul_mod]
theorem gat_idx (n m : Nat) (hm : m + 5 ≤ 32) : wi (gat n) / 2 ^ m % 32 = ((n / 2 ^ m % 32 : Nat) : Int) := by
  unfold wi gat
  rw [BitVec.toNat_ofNat]
  have : n % 2 ^ 32 / 2 ^ m % 32 = n / 2 ^ m % 32 := by
    have e : (2 : Nat) ^ 32 = 2 ^ m * 2 ^ (32 - m) := by rw [← Nat.pow_add]; congr 1; omega
    rw [e, Nat.mod_mul_right_div_self]
    refine Nat.mod_mod_of_dvd _ ?_
    exact ⟨2 ^ (27 - m), by rw [show (32 : Nat) = 2 ^ 5 from rfl, ← Nat.pow_add]; congr 1; omega⟩
  rw [← this]
  simp
theorem gat_zero : wi (gat 0) = 0 := by decide

theorem Bytes.only {w w' : World} {b B : Nat} {l : List UInt8} (h : Bytes w B l) (k : Only b w w') (hlt : B < w.heap.size) (hne : B ≠ b) : Bytes w' B l := fun j c hc => by
  have h1 := h j c hc
  unfold World.cell? at h1 ⊢
  rw [k.block B hlt hne]; exact h1

attribute [local go_sem] bs_size bs_take_bs
set_option maxRecDepth 100000 in
set_option maxHeartbeats 4000000 in
theorem hash_any (l : List UInt8) (w : World) (hll : l.length ≤ 1000000) :
    Calls Try.prog 12 #[.string (bs l)] w fun e w' => e = .returned (.string (bs (hashL (sha l)))) ∧ Below w.heap.size w w' := by
  obtain ⟨i5, hi5, hz0, hz1, hz2⟩ := info_parts info5
  have hmk : (Instr.makeSlice 24 (.int .i64 0) (.int .i64 32)).run Try.prog w = .ok (.slice (some ⟨w.heap.size, 0, none⟩) 0 32) (w.alloc (.cells (madeCells #[.int .u8 0] 32) 5)) := by
    have := run_make (P := Try.prog) w 24 5 i5 (.int .u8 0) Try.underlying24 hi5 hz0 .i64 .i64 0 32 (by omega) (by omega) (by rw [hz2]; omega) (by omega)
    rw [this, hz1]; rfl
  have HI := Lib.hid hi5
  have HZ := Lib.hid hz1
  clear hi5 hz0 hz1 hz2
  have hsl : (sha l).length = 32 := sha_len l
  generalize hs : sha l = s at *
  have hsum := fun w => sum_any l w (by omega)
  rw [hs] at hsum
  have HS := Lib.hid hsl
  clear hs hsl
  go_enter Try.func12, Try.ntmps12
  go_wp2_with fail
  refine (hsum _).mono ?_
  rintro e w1 ⟨rfl, hb1⟩
  have hR1 := (Room.made w 32 (.int .u8 0) 5 (by decide)).below hb1 (by simp)
  have hB1 := ((Below.refl _ w).alloc (Nat.le_refl _) (.cells (madeCells #[.int .u8 0] 32) 5)).trans (hb1.mono (by simp))
  obtain ⟨cap, w2, hrun, hb2, hby, hz⟩ := conv_to (P := Try.prog) w1 9 24 5 (s.take 20) Try.underlying9 Try.underlying24 Try.underlying5
  have hl20 : (s.take 20).length = 20 := by rw [List.length_take, HS.out]; rfl
  rw [hl20] at hrun
  have hlt1 : w.heap.size < w1.heap.size := by have := hb1.size; simp at this; omega
  have hR2 := hR1.below hb2 hlt1
  have hB2 := hB1.trans (hb2.mono (by omega))
  have L32 : (32 : Int) = s.length := by rw [HS.out]; rfl
  have h20 : (20 : Int) ≤ s.length := by omega
  clear L32 hmk hsum
  have HR2 := Lib.hid hR2
  have HB2 := Lib.hid hB2
  have HBy := Lib.hid hby
  have HZ2 := Lib.hid hz
  have HL20 := Lib.hid hl20
  clear hR1 hB1 hb2 hby hz hl20 hR2 hB2 hb1
  generalize hr : w.heap.size = r at *
  have HRr := Lib.hid hr
  clear hr
  generalize w1.heap.size = B at *
  go_wp2
  go_loopw [14, 5, 4, 3] (fun i wt g v wr => ∃ k q e : Nat, k ≤ 20 ∧ Hid (5 * e + q = 8 * k) ∧ q < 5 ∧ i = .int .i64 k ∧ wt = .int .i64 q ∧ g = .int .u32 (wi (gat (num (s.take k)))) ∧ v = .slice (some ⟨r, 0, none⟩) e 32 ∧
    Room wr r 5 32 ((hls s e).map bv) ∧ Bytes wr B (s.take 20) ∧ B < wr.heap.size ∧ Below r w wr) (fun i _ _ _ _ => 20 - (intOf i).toNat)
  case atStart => exact ⟨0, 0, 0, by omega, Lib.hid (by omega), by omega, rfl, rfl, by rw [List.take_zero]; rfl, rfl, HR2.out, HBy.out, by have := HZ2.out; omega, HB2.out⟩
  case round =>
    obtain ⟨k, q, e, hk, HQ, hq5, rfl, rfl, rfl, rfl, hR, hY, hlB, hB⟩ := hrel
    have HR := Lib.hid hR
    have HY := Lib.hid hY
    have HB := Lib.hid hB
    clear hR hY hB HR2 HBy HB2
    by_cases hlt : k < 20
    · obtain ⟨c, hc⟩ : ∃ c, s[k]? = some c := ⟨_, List.getElem?_eq_getElem (by rw [HS.out]; omega)⟩
      have hc20 : (s.take 20)[k]? = some c := by rw [List.getElem?_take, if_pos hlt]; exact hc
      have hcell := HY.out k c hc20
      unfold bv at hcell
      have hn := num_take s k c hc
      have hg := gat_next (num (s.take k)) c
      rw [← hn] at hg
      obtain ⟨G, hG⟩ : ∃ G, gat (num (s.take (k + 1))) = G := ⟨_, rfl⟩
      rw [hG] at hg
      have HG := Lib.hid hG
      clear hc hc20 hn hG
      go_wp2
      clear hg
      obtain ⟨wo, hwo⟩ : ∃ wo, wo = wr := ⟨_, rfl⟩
      rw [← hwo] at HR HY HB hlB hcell
      have HWO := Lib.hid hwo
      rw [← hwo]
      clear hwo hcell
      go_loopw [5, 3] (fun wt v wx => ∃ m j : Nat, Hid (5 * j + m = 8 * (k + 1)) ∧ e ≤ j ∧ wt = .int .i64 m ∧ v = .slice (some ⟨r, 0, none⟩) j 32 ∧
        Room wx r 5 32 ((hls s j).map bv) ∧ Bytes wx B (s.take 20) ∧ B < wx.heap.size ∧ Below r w wx) (fun wt _ _ => (intOf wt).toNat)
      case atStart => exact ⟨q + 8, e, Lib.hid (by have := HQ.out; omega), by omega, by go_num, rfl, HR.out, HY.out, hlB, HB.out⟩
      clear HR HY HB hlB
      case round =>
        obtain ⟨m, j, HM, hej, rfl, rfl, hR, hY, hlB, hB⟩ := hrel
        have HR := Lib.hid hR
        have HY := Lib.hid hY
        have HB := Lib.hid hB
        clear hR hY hB
        by_cases h5 : 5 ≤ m
        · obtain ⟨p, rfl⟩ : ∃ p, m = p + 5 := ⟨m - 5, by omega⟩
          have hp : p + 5 ≤ 32 := by have := HM.out; have := HQ.out; omega
          have hi := gat_idx (num (s.take (k + 1))) p hp
          have hat := hl_at s (by rw [HS.out]; omega) (k + 1) j p (by omega) (by have := HM.out; omega)
          rw [HG.out] at hi
          obtain ⟨y, hy⟩ : ∃ y, num (s.take (k + 1)) / 2 ^ p % 32 = y := ⟨_, rfl⟩
          have hy32 : y < 32 := by rw [← hy]; omega
          rw [hy] at hi hat
          have hx : 0 ≤ wi G / 2 ^ p := Int.ediv_nonneg (wi_nonneg G) (Int.pow_nonneg (by omega))
          have hi2 : (wi G / 2 ^ p).tmod 32 = (y : Int) := by rw [Int.tmod_eq_emod_of_nonneg hx]; exact hi
          have hy2 : (y : Int) < 32 := by omega
          have hget := lets_get y (hl s j) (by rw [hat]; unfold letN; rw [List.getElem?_eq_getElem (show y < lets.length from hy32)]; rfl)
          have hsucc := hls_succ s j
          obtain ⟨x, hxx⟩ : ∃ x, hl s j = x := ⟨_, rfl⟩
          rw [hxx] at hget hsucc
          have HX := Lib.hid hsucc
          have hj : j < 32 := by have := HM.out; omega
          have hlen : ((hls s j).map bv).length = j := by rw [List.length_map, hls_len]
          have HL := Lib.hid hlen
          clear hi hat hy hx hxx hsucc hlen
          go_wp2_with (first | (refine append_room rfl _ _ 24 rfl 5 i5 Try.underlying24 HI.out HZ.out r _ _ rfl _ HL.out (HR.out.alloc _) wr.heap.size 1 1 rfl _ (At.new _ _ _) rfl (bv_one [x]) (by omega) ?_; intro w3 R3 O3))
          have hsz := O3.size
          rw [World.size_alloc] at hsz
          go_roundw
          case rel =>
            refine ⟨p, j + 1, Lib.hid (by have := HM.out; omega), by omega, by go_num, rfl, ?_, ?_, by omega, ?_⟩
            · rw [HX.out, List.map_append]; exact R3
            · exact (HY.out.below ((Below.refl _ _).alloc (Nat.le_refl _) _) hlB).only O3 (by rw [World.size_alloc]; omega) (by omega)
            · exact Only.below (HB.out.alloc (by omega) _) O3 (Nat.le_refl _) (by have := HRr.out; omega)
          case measure => simp [intOf]; omega
        · go_wp2
          go_roundw
          case rel => exact ⟨k + 1, m, j, by omega, HM, by omega, by go_num, rfl, by rw [HG.out], rfl, HR.out, HY.out, hlB, HB.out⟩
          case measure => simp [intOf]; omega
    · obtain rfl : k = 20 := by omega
      have h32 : e = 32 := by have := HQ.out; omega
      subst h32
      have hcv := conv_room (P := Try.prog) 24 9 5 (hls s 32) HR.out Try.underlying24 Try.underlying5 Try.underlying9 32 (hls_len s 32)
      go_wp2
      go_ret
      exact ⟨rfl, by rw [HRr.out]; exact HB.out⟩
end Go.Proofs.Ytffpmdgchpcaaaa
