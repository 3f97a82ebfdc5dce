/- The statement NameBits: its walk. -/
import Derived.Test.YtffpmdgchpcaaaaNn
import Derived.Test.YtffpmdgchpcaaaaRd
namespace Go.Proofs.Ytffpmdgchpcaaaa
open Go.RowKit

theorem hl_letN (s : List UInt8) (k : Nat) (hk : k < 32) : (hashL s)[k]? = some (letN (grp (num (s.take 20)) k)) := by
  unfold hashL hls
  rw [List.getElem?_map, List.getElem?_range hk]; rfl
theorem hav_lt (x k : Nat) : hav x k < 128 := by
  unfold hav
  have h1 := Nat.mod_lt (pre x (5 * k)) (Nat.two_pow_pos (5 * k % 8))
  have h2 : 2 ^ (5 * k % 8) ≤ 2 ^ 7 := Nat.pow_le_pow_right (by omega) (by omega)
  omega
theorem take_q (s : List UInt8) (q : Nat) (c : UInt8) (hc : s[q]? = some c) : s.take q ++ [c] = s.take (q + 1) := by
  obtain ⟨h, rfl⟩ := List.getElem?_eq_some_iff.1 hc
  rw [List.take_succ_eq_append_getElem h]
theorem mask64 (x b : Nat) (hb : b < 8) (hx : x < 4096) : bits .and .i64 (x : Int) (2 ^ b - 1) = ((x % 2 ^ b : Nat) : Int) := by
  have := bits_mask .i64 12 (by decide) (fun n h0 h1 => IntWalk.i64_in n ⟨by omega, by omega⟩) b (by omega) (x : Int) (by omega) (by omega)
  rw [this]; simp

attribute [local go_sem] bs_size bs_append bs_take_bs
set_option maxRecDepth 100000 in
set_option maxHeartbeats 8000000 in
theorem nameBits_walk (a b : ByteArray) (w : World) (ha : a.size ≤ maxLen) (hb : b.size ≤ maxLen) :
    Calls Try.prog 7 #[.string a, .string b] w fun e w' => e = .returned (.bool true) ∧ Below w.heap.size w w' := by
  unfold maxLen at ha hb
  go_enter Try.func7, Try.ntmps7
  go_wp2_with fail
  have h1 : (a.extract 0 (min (a.size : Int) 300).toNat).size ≤ 300 := cut_size a 300
  generalize a.extract 0 (min (a.size : Int) 300).toNat = a2 at h1 ⊢
  obtain ⟨l, rfl⟩ := ex_bs a2
  have h2 : (b.extract 0 (min (b.size : Int) 300).toNat).size ≤ 300 := cut_size b 300
  generalize b.extract 0 (min (b.size : Int) 300).toNat = b2 at h2 ⊢
  obtain ⟨m, rfl⟩ := ex_bs b2
  rw [bs_size] at h1 h2
  have c1 := fun w => hash_any l w (by omega)
  have c2 := fun w => hash_any m w (by omega)
  have c3 := fun w => sum_any l w (by omega)
  have c4 := fun w => sum_any m w (by omega)
  have hs := sha_len l
  have ht := sha_len m
  generalize sha l = s at *
  generalize sha m = t at *
  have hiff := hashL_iff s t (by omega) (by omega)
  have hx := hashL_len s
  have hy := hashL_len t
  have hlet := hl_letN s
  generalize hashL s = X at *
  generalize hashL t = Y at *
  have i1 : (s.length : Int) = 32 := by omega
  have i2 : (t.length : Int) = 32 := by omega
  have i3 : (X.length : Int) = 32 := by omega
  have i4 : (Y.length : Int) = 32 := by omega
  have HS := Lib.hid hs
  have HI := Lib.hid hiff
  have HL := Lib.hid hlet
  clear hs ht hiff hx hy hlet
  go_wp2_with fail
  refine (c1 _).mono ?_
  rintro e w1 ⟨rfl, b1⟩
  have HB1 := Lib.hid b1
  clear b1
  go_wp2_with fail
  refine (c2 _).mono ?_
  rintro e w2 ⟨rfl, b2⟩
  have HB2 := Lib.hid (HB1.out.trans (b2.mono HB1.out.size))
  clear b2
  go_wp2_with fail
  refine (c3 _).mono ?_
  rintro e w3 ⟨rfl, b3⟩
  have HB3 := Lib.hid (HB2.out.trans (b3.mono HB2.out.size))
  clear b3
  go_wp2_with fail
  refine (c4 _).mono ?_
  rintro e w4 ⟨rfl, b4⟩
  have HB4 := Lib.hid (HB3.out.trans (b4.mono HB3.out.size))
  clear b4
  go_wp2
  clear c1 c2 c3 c4 HB1 HB2 HB3
  obtain ⟨x, hx⟩ : ∃ x, num (s.take 20) = x := ⟨_, rfl⟩
  have HX := Lib.hid hx
  clear hx
  go_loopw [12, 9, 10, 11] (fun i o hv bt wx => ∃ k q p : Nat, k ≤ 32 ∧ Hid (8 * q + p = 5 * k) ∧ p < 8 ∧ i = .int .i64 k ∧ o = .string (bs (s.take q)) ∧ hv = .int .i64 (hav x k : Int) ∧ bt = .int .i64 p ∧ Below w.heap.size w wx) (fun i _ _ _ _ => 32 - (intOf i).toNat)
  case atStart => exact ⟨0, 0, 0, by omega, Lib.hid rfl, by omega, rfl, rfl, by unfold hav pre; simp [Nat.mod_one], rfl, HB4.out⟩
  case round =>
    obtain ⟨k, q, p, hk, HQ, hp8, rfl, rfl, rfl, rfl, hB⟩ := hrel
    have HB := Lib.hid hB
    clear hB
    by_cases hlt : k < 32
    · have hc := HL.out k hlt
      rw [HX.out] at hc
      have hgl : grp x k < 32 := Nat.mod_lt _ (by omega)
      have hat := fun h => bs_at (l := X) (k := k) hc h
      have hval := fun w => value_any (grp x k) w hgl
      have hh := hav_lt x k
      have hsm := hav_small x k hlt
      have hre := hav_rest x k hlt
      have hp5 : 5 * k % 8 = p := by have := HQ.out; omega
      rw [hp5] at hsm hre
      by_cases h8 : p + 5 < 8
      · have HSm := Lib.hid (hsm h8)
        clear hsm hre hc hp5
        generalize grp x k = g at *
        generalize hav x k = h at *
        go_wp2_with (go_at_call 21; refine (hval _).mono ?_; rintro e w' ⟨rfl, rfl⟩)
        go_roundw
        case rel => exact ⟨k + 1, q, p + 5, by omega, Lib.hid (by have := HQ.out; omega), by omega, by go_num, rfl, by rw [← HSm.out]; go_num, by go_num, HB.out⟩
        case measure => simp [intOf]; omega
      · have hq20 : q < 20 := by have := HQ.out; omega
        obtain ⟨c, hsc⟩ : ∃ c, s[q]? = some c := ⟨_, List.getElem?_eq_getElem (by rw [HS.out]; omega)⟩
        have hby := hav_byte s k hlt (by rw [HS.out]; omega) (by rw [hp5]; omega) c (by rw [show 5 * k / 8 = q by have := HQ.out; omega]; exact hsc)
        rw [HX.out, hp5] at hby
        have htq := take_q s q c hsc
        have hre := hre (by omega)
        have HRe := Lib.hid hre
        have HT := Lib.hid htq
        obtain ⟨r, rfl⟩ : ∃ r, p = r + 3 := ⟨p - 3, by omega⟩
        rw [show r + 3 + 5 - 8 = r by omega] at hby hre HRe
        have hr5 : r < 5 := by omega
        clear hsm hc hp5 hsc htq hre
        generalize grp x k = g at *
        generalize hav x k = h at *
        have hrr : (r : Int) + 3 + 5 - 8 = (r : Int) := by omega
        have hcv := fun W => conv1 c W
        have hbyI : ((h : Int) * 32 + (g : Int)) / 2 ^ r = (c.toNat : Int) := by rw [← hby]; simp
        have HBy := Lib.hid hby
        have hclt := c.toNat_lt
        clear hby
        go_wp2_with (go_at_call 21; refine (hval _).mono ?_; rintro e w' ⟨rfl, rfl⟩)
        go_roundw
        case rel =>
          refine ⟨k + 1, q + 1, r, by omega, Lib.hid (by have := HQ.out; omega), by omega, by go_num, by rw [← HT.out], ?_, rfl, ?_⟩
          · have e1 : wrap64 (wrap64 (2 ^ r) - 1) = 2 ^ r - 1 := by
              have h5 : r = 0 ∨ r = 1 ∨ r = 2 ∨ r = 3 ∨ r = 4 := by omega
              rcases h5 with rfl | rfl | rfl | rfl | rfl <;> decide +kernel
            have e2 : (h : Int) * 32 + (g : Int) = ((h * 32 + g : Nat) : Int) := by omega
            rw [e1, e2, mask64 (h * 32 + g) r (by omega) (by omega), HRe.out]
          · exact HB.out.alloc HB.out.size _
        case measure => simp [intOf]; omega
    · obtain rfl : k = 32 := by omega
      obtain rfl : q = 20 := by have := HQ.out; omega
      obtain rfl : p = 0 := by have := HQ.out; omega
      go_wp2
      obtain ⟨f, hf⟩ : ∃ f, ((bs X).toList == (bs Y).toList) = f := ⟨_, rfl⟩
      have hf2 : ((bs (s.take 20)).toList == (bs (t.take 20)).toList) = f := by
        rw [← hf, bs_beq, bs_beq, Bool.eq_iff_iff, beq_iff_eq, beq_iff_eq]
        exact HI.out.symm
      have j1 : (20 : Int) ≤ s.length := by omega
      have j2 : (20 : Int) ≤ t.length := by omega
      have hff : (f == f) = true := by cases f <;> rfl
      clear HI HL HX i3 i4
      go_region_held3 (fun _ => True) (trivial) (first | (go_at_call 14; refine (works_any3 _).mono ?_; rintro e w6 ⟨rfl, b6⟩))
      go_wp2
      go_ret
      exact ⟨rfl, (Below.drew HB.out).trans (b6.mono HB.out.size)⟩
end Go.Proofs.Ytffpmdgchpcaaaa
