/- The first primes. -/
import Derived.Test.YtffpmdgchpcaaaaRb
import Derived.Test.YtffpmdgchpcaaaaSo
namespace Go.Proofs.Ytffpmdgchpcaaaa
open Go.RowKit

def fits (l : List Nat) (x : Nat) : Bool := l.all fun d => x % d != 0
/-- the primes up to k + 1 -/
def prim : Nat → List Nat
  | 0 => []
  | k + 1 => if fits (prim k) (k + 2) then prim k ++ [k + 2] else prim k
theorem prim_pos : ∀ k, ∀ d ∈ prim k, 2 ≤ d ∧ d ≤ k + 1
  | 0, d, h => by cases h
  | k + 1, d, h => by
    unfold prim at h
    split at h
    · rcases List.mem_append.1 h with h | h
      · have := prim_pos k d h; omega
      · have : d = k + 2 := by simpa using h
        omega
    · have := prim_pos k d h; omega
theorem prim_le : ∀ k, (prim k).length ≤ k
  | 0 => Nat.le_refl _
  | k + 1 => by
    have := prim_le k
    unfold prim
    split <;> simp <;> omega
theorem prim_mono (k j : Nat) : (prim k).length ≤ (prim (k + j)).length := by
  induction j with
  | zero => exact Nat.le_refl _
  | succ j ih =>
    refine Nat.le_trans ih ?_
    show (prim (k + j)).length ≤ (prim (k + j + 1)).length
    rw [prim]
    split <;> simp
def qv (n : Nat) : Value := .int .u64 (n : Int)
theorem qv_one (l : List Nat) : ∀ v ∈ l.map qv, v.oneCell' = true := by
  intro v hv
  obtain ⟨c, _, rfl⟩ := List.mem_map.1 hv
  rfl
theorem fits_take (l : List Nat) (x i : Nat) (h : i < l.length) : fits (l.take (i + 1)) x = (fits (l.take i) x && x % l[i] != 0) := by
  unfold fits
  rw [List.take_succ_eq_append_getElem h, List.all_append]
  simp
theorem info45 : (Try.prog.info? 68).map (fun i => (i.zero, i.size, i.bytes)) = some (some (.int .u64 0), 1, 8) := by kernel_rfl

set_option maxRecDepth 100000 in
set_option maxHeartbeats 2000000 in
theorem primes_any (w : World) (h64 : (prim 310).length = 64) (h63 : (prim 309).length < 64) :
    Calls Try.prog 45 #[.int .i64 64] w fun e w' => ∃ g cap, e = .returned (.slice (some ⟨g, 0, none⟩) 64 cap) ∧ Own1 w' w.heap.size 68 (some ⟨g, 0, none⟩) cap ((prim 310).map qv) ∧ Below w.heap.size w w' := by
  obtain ⟨i45, hi, hz0, hz1, hz2⟩ := info_parts info45
  have HI := Lib.hid hi
  have HZ := Lib.hid hz0
  have H1 := Lib.hid hz1
  have H2 := Lib.hid hz2
  have A64 := Lib.hid h64
  have A63 := Lib.hid h63
  clear hi hz0 hz1 hz2 h64 h63
  go_enter Try.func45, Try.ntmps45
  go_wp2
  go_loopw [3, 4] (fun v x wx => ∃ (k y : Nat) (ao : Option Addr) (cap : Nat), k ≤ 310 ∧ y = k + 2 ∧ v = .slice ao (prim k).length cap ∧ x = .int .u64 (y : Int) ∧ Own1 wx w.heap.size 68 ao cap ((prim k).map qv) ∧ Below w.heap.size w wx) (fun v x _ => 400 - (intOf x).toNat)
  case atStart => exact ⟨0, 2, none, 0, by omega, rfl, rfl, rfl, Own1.nil _ _ _, Below.refl _ _⟩
  case round =>
    obtain ⟨k, y, ao, cap, hk, hy, rfl, rfl, hO, hB⟩ := hrel
    have HO := Lib.hid hO
    have HB := Lib.hid hB
    clear hO hB
    have hP := prim_pos k
    have hL := prim_le k
    have hmo := prim_mono k (309 - k)
    have hS : prim (k + 1) = if fits (prim k) y then prim k ++ [y] else prim k := by rw [hy]; rfl
    have hyl : y ≤ 312 := by omega
    have YY := Lib.hid hy
    have h63 := A63.out
    have h64 := A64.out
    by_cases hlt : (prim k).length < 64
    · have hk2 : k < 310 := by
        rcases Nat.lt_or_ge k 310 with h | h
        · exact h
        · have : k = 310 := by omega
          rw [this] at hlt; omega
      have PP := Lib.hid hP
      have SS := Lib.hid hS
      clear hP hS hmo h63 h64 hy
      generalize prim k = l at *
      go_wp2
      go_loopw [5, 6] (fun b i wx => ∃ m : Nat, m ≤ l.length ∧ b = .bool (fits (l.take m) y) ∧ i = .int .i64 m ∧ wx = wr) (fun _ i _ => l.length - (intOf i).toNat)
      case atStart => exact ⟨0, by omega, rfl, rfl, rfl⟩
      case round =>
        obtain ⟨m, hm, rfl, rfl, rfl⟩ := hrel
        by_cases hml : m < l.length
        · obtain ⟨g, rfl, hg1, hg2, hc⟩ := HO.out.at m (by rw [List.length_map]; exact hml)
          have hft := fits_take l y m hml
          have hd := PP.out _ (List.getElem_mem hml)
          rw [List.getElem_map] at hc
          unfold qv at hc
          generalize l[m] = d at hc hft hd
          have hd0 : (d : Int) ≠ 0 := by omega
          have hrm : (y : Int).tmod (d : Int) = ((y % d : Nat) : Int) := by rw [Int.tmod_eq_emod_of_nonneg (by omega)]; omega
          have FT := Lib.hid hft
          clear hft hd
          cases hb : fits (l.take m) y with
          | true =>
            have HBB := Lib.hid hb
            clear hb
            obtain ⟨r, hr⟩ : ∃ r, r = y % d := ⟨_, rfl⟩
            have HR := Lib.hid hr
            rw [← hr] at hrm
            clear hr
            by_cases hz : r = 0
            · subst hz
              go_wp2
              go_roundw
              case rel => exact ⟨m + 1, by omega, by rw [FT.out, HBB.out, ← HR.out]; rfl, by go_num, trivial⟩
              case measure => simp [intOf]; omega
            · have hz' : ((r : Int) != 0) = true := by simpa using hz
              have hz2 := Lib.hid (show (r != 0) = true by simpa using hz)
              go_wp2
              go_roundw
              case rel => exact ⟨m + 1, by omega, by rw [FT.out, HBB.out, ← HR.out, hz2.out]; rfl, by go_num, trivial⟩
              case measure => simp [intOf]; omega
          | false =>
            have HBB := Lib.hid hb
            clear hb
            go_wp2
            go_roundw
            case rel => exact ⟨m + 1, by omega, by rw [FT.out, HBB.out]; rfl, by go_num, trivial⟩
            case measure => simp [intOf]; omega
        · obtain rfl : m = l.length := by omega
          rw [List.take_length]
          cases hb : fits l y with
          | true =>
            have HBB := Lib.hid hb
            clear hb
            go_wp2_with (first | (refine append_grow rfl _ _ 65 rfl w.heap.size 68 i45 (.int .u64 0) 8 Try.underlying65 HI.out HZ.out H1.out H2.out rfl ao _ _ rfl _ (by rw [List.length_map]) (HO.out.alloc _) wr.heap.size 1 1 rfl _ (At.new _ _ _) rfl (qv_one [y]) (by decide) (by unfold maxLen; omega) (by omega) (by have := HB.out.size; simp; omega) ?_; intro ao2 cap2 w2 O2 B2))
            go_roundw
            case rel => exact ⟨k + 1, y + 1, ao2, cap2, by omega, by have := YY.out; omega, by rw [SS.out, HBB.out, if_pos rfl, List.length_append]; rfl, by go_num, by rw [SS.out, HBB.out, if_pos rfl, List.map_append]; exact O2, (HB.out.alloc HB.out.size _).trans B2⟩
            case measure => simp [intOf]; omega
          | false =>
            have HBB := Lib.hid hb
            clear hb
            go_wp2
            go_roundw
            case rel => exact ⟨k + 1, y + 1, ao, cap, by omega, by have := YY.out; omega, by rw [SS.out, HBB.out]; rfl, by go_num, by rw [SS.out, HBB.out]; exact HO.out, HB.out⟩
            case measure => simp [intOf]; omega
    · have hk2 : k = 310 := by
        rcases Nat.lt_or_ge k 310 with h | h
        · rw [show k + (309 - k) = 309 by omega] at hmo; omega
        · omega
      subst hk2
      obtain ⟨g, rfl, hg1, hg2, hc⟩ := HO.out.at 0 (by rw [List.length_map, h64]; omega)
      clear hP hS hmo h63 hc
      rw [h64]
      have A := Lib.hid h64
      clear h64 hlt hL
      go_wp2
      go_ret
      exact ⟨g, cap, rfl, HO.out, HB.out⟩
end Go.Proofs.Ytffpmdgchpcaaaa
