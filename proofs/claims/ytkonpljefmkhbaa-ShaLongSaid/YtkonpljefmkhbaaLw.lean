/- The walk of ShaIs. -/
import Derived.Test.YtkonpljefmkhbaaRf
import Derived.Test.YtkonpljefmkhbaaSv
import Derived.BigQuiet
import Derived.Deep.QuietTactic
namespace Go.Proofs.Ytkonpljefmkhbaa
open Go.RowKit

theorem cut_size (s : ByteArray) (k : Nat) : (s.extract 0 (min (s.size : Int) (k : Int)).toNat).size ≤ k := by
  rw [ByteArray.size_extract]; omega
theorem ex_bs (s : ByteArray) : ∃ l, s = bs l := ⟨_, (bs_data s).symm⟩

set_option maxHeartbeats 1000000 in
theorem shaIs_walk (s : ByteArray) (w : World) (hs : s.size ≤ maxLen) :
    Calls Try.prog 3 #[.string s] w fun e w' => e = .returned (.bool true) ∧ Below w.heap.size w w' := by
  unfold maxLen at hs
  go_enter Try.func3, Try.ntmps3
  go_wp2_with fail
  have h1 : (s.extract 0 (min (s.size : Int) 20000).toNat).size ≤ 20000 := cut_size s 20000
  generalize s.extract 0 (min (s.size : Int) 20000).toNat = s2 at h1 ⊢
  obtain ⟨l, rfl⟩ := ex_bs s2
  rw [bs_size] at h1
  go_wp2_with fail
  refine (sum_any l _ (by omega)).mono ?_
  rintro e w1 ⟨rfl, b1⟩
  have HB1 := Lib.hid b1
  clear b1
  go_wp2_with fail
  refine (refSum_any l _ (by omega)).mono ?_
  rintro e w2 ⟨rfl, b2⟩
  have HB2 := Lib.hid (HB1.out.trans (b2.mono HB1.out.size))
  clear b2
  go_wp2_with fail
  refine (works_any _).mono ?_
  rintro e w3 ⟨rfl, b3⟩
  have HB3 := Lib.hid (HB2.out.trans (b3.mono HB2.out.size))
  clear b3
  go_wp2
  go_ret
  exact ⟨rfl, HB3.out⟩
end Go.Proofs.Ytkonpljefmkhbaa
