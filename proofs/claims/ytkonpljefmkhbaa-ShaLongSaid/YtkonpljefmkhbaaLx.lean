/- The walk of ShaLong. -/
import Derived.Test.YtkonpljefmkhbaaLw
import Derived.OpenShut
namespace Go.Proofs.Ytkonpljefmkhbaa
open Go.RowKit
attribute [local go_sem] bs_size bs_append
@[local go_sem] theorem bs_take0 (l : List UInt8) (k : Nat) : (bs l).extract 0 k = bs (l.take k) := bs_take_bs l k

set_option maxRecDepth 100000 in
set_option maxHeartbeats 1000000 in
theorem shaLong_walk (s : ByteArray) (n : Int) (w : World) (hs : s.size ≤ maxLen) (hn : (Lit.int .u16 n).wf = true) :
    Calls Try.prog 4 #[.string s, .int .u16 n] w fun e w' => e = .returned (.bool true) ∧ Below w.heap.size w w' := by
  unfold maxLen at hs
  have hb : 0 ≤ n ∧ n ≤ 65535 := bounds_u16 hn
  obtain ⟨r, hr⟩ : ∃ r : Nat, (r : Int) = n.tmod 2000 := ⟨(n % 2000).toNat, by rw [Int.tmod_eq_emod_of_nonneg hb.1]; omega⟩
  have hr2 : r < 2000 := by rw [Int.tmod_eq_emod_of_nonneg hb.1] at hr; omega
  have hr1 : n.tmod 2000 = (r : Int) := hr.symm
  have hw : IntKind.i64.wrap n = n := by rw [IntKind.wrap_i64]; omega
  clear hr hn
  obtain ⟨hb0, hb1⟩ := hb
  go_enter Try.func4, Try.ntmps4
  go_wp2_with fail
  have h1 : (s.extract 0 (min (s.size : Int) 100).toNat).size ≤ 100 := cut_size s 100
  generalize s.extract 0 (min (s.size : Int) 100).toNat = s2 at h1 ⊢
  obtain ⟨l, rfl⟩ := ex_bs s2
  rw [bs_size] at h1
  obtain ⟨m, hm⟩ : ∃ m, m = l ++ [46] := ⟨_, rfl⟩
  have e1 : bs l ++ ({ data := #[46] } : ByteArray) = bs m := by rw [hm, ← bs_append]; rfl
  have hm1 : m.length ≤ 101 := by rw [hm]; simp; omega
  have hm2 : 0 < m.length := by rw [hm]; simp
  rw [e1]
  clear hm e1 h1
  go_loopw [5] (fun v wx => ∃ t : List UInt8, v = .string (bs t) ∧ t.length ≤ 2101 ∧ wx = w) (fun v _ => match v with | .string x => 4000 - x.size | _ => 0)
  case atStart => exact ⟨[], rfl, by simp, rfl⟩
  case round =>
    obtain ⟨t, rfl, ht, rfl⟩ := hrel
    by_cases hlt : (t.length : Int) < r
    · have hcc : t.length + m.length ≤ 9223372036854775807 := by omega
      go_wp2
      go_roundw
      case rel => exact ⟨t ++ m, rfl, by rw [List.length_append]; omega, trivial⟩
      case measure => simp [bs_size]; omega
    · have hr3 : r ≤ t.length := by omega
      have hc4 : (r : Int) ≤ t.length := by omega
      go_wp2_with fail
      refine (sum_any (t.take r) _ (by rw [List.length_take]; omega)).mono ?_
      rintro e w1 ⟨rfl, b1⟩
      have HB1 := Lib.hid b1
      clear b1
      go_wp2_with fail
      refine (refSum_any (t.take r) _ (by rw [List.length_take]; omega)).mono ?_
      rintro e w2 ⟨rfl, b2⟩
      have HB2 := Lib.hid (HB1.out.trans (b2.mono HB1.out.size))
      clear b2
      go_wp2_with fail
      refine (works_any _).mono ?_
      rintro e w3 ⟨rfl, b3⟩
      have HB3 := Lib.hid (HB2.out.trans (b3.mono HB2.out.size))
      clear b3
      go_wp2
      go_ret
      exact ⟨rfl, HB3.out⟩
end Go.Proofs.Ytkonpljefmkhbaa
