import Derived.Test.YtpcplhoehooflaaW7
namespace Go.Proofs.Ytpcplhoehooflaa
open Go.RowKit

theorem cut_size (s : ByteArray) (k : Nat) : (s.extract 0 (min (s.size : Int) (k : Int)).toNat).size ≤ k := by
  rw [ByteArray.size_extract]; omega

set_option maxHeartbeats 1000000 in
theorem wireRows_walk (n : Nat) (s t : ByteArray) (w : World) (hn : n < Plain.big) (hs : s.size ≤ maxLen) (ht : t.size ≤ maxLen) :
    Calls Try.prog 3 #[.int .u64 n, .string s, .string t] w fun e w' => e = .returned (.bool true) ∧ Below w.heap.size w w' := by
  unfold maxLen at hs ht
  go_enter Try.func3, Try.ntmps3
  go_wp2_with fail
  go_quiet (fail)
  have h1 : (s.extract 0 (min (s.size : Int) 900).toNat).size ≤ 900 := cut_size s 900
  have h2 : (t.extract 0 (min (t.size : Int) 900).toNat).size ≤ 900 := cut_size t 900
  generalize s.extract 0 (min (s.size : Int) 900).toNat = s2 at h1 ⊢
  generalize t.extract 0 (min (t.size : Int) 900).toNat = t2 at h2 ⊢
  go_wp2_with fail
  refine (putNum_any s2 n _ (by omega) hn).mono ?_
  rintro e w1 ⟨rfl, b1⟩
  go_wp2_with fail
  refine (refPutNum_any s2 n _ (by omega) hn).mono ?_
  rintro e w2 ⟨rfl, b2⟩
  go_wp2_with fail
  refine (putText_any s2 t2 _ (by omega) (by omega)).mono ?_
  rintro e w3 ⟨rfl, b3⟩
  go_wp2_with fail
  refine (refPutText_any s2 t2 _ (by omega) (by omega)).mono ?_
  rintro e w4 ⟨rfl, b4⟩
  go_wp2_with fail
  refine (works_any _).mono ?_
  rintro e w5 ⟨rfl, b5⟩
  go_wp2
  go_ret
  have B1 : Below w.heap.size w w1 := (below_drewN w nq).trans b1
  have B2 := B1.trans (b2.mono B1.size)
  have B3 := B2.trans (b3.mono B2.size)
  have B4 := B3.trans (b4.mono B3.size)
  exact ⟨rfl, B4.trans (b5.mono B4.size)⟩
end Go.Proofs.Ytpcplhoehooflaa
