/- The statements NameHashes and NameAsks: their walks. -/
import Derived.Test.YtffpmdgchpcaaaaNk
namespace Go.Proofs.Ytffpmdgchpcaaaa
open Go.RowKit

theorem cut_size (s : ByteArray) (k : Nat) : (s.extract 0 (min (s.size : Int) (k : Int)).toNat).size ≤ k := by
  rw [ByteArray.size_extract]; omega
theorem ex_bs (s : ByteArray) : ∃ l, s = bs l := ⟨_, (bs_data s).symm⟩

set_option maxHeartbeats 1000000 in
theorem nameHashes_walk (s : ByteArray) (w : World) (hs : s.size ≤ maxLen) :
    Calls Try.prog 5 #[.string s] w fun e w' => e = .returned (.bool true) ∧ Below w.heap.size w w' := by
  unfold maxLen at hs
  go_enter Try.func5, Try.ntmps5
  go_wp2_with fail
  have h1 : (s.extract 0 (min (s.size : Int) 300).toNat).size ≤ 300 := cut_size s 300
  generalize s.extract 0 (min (s.size : Int) 300).toNat = s2 at h1 ⊢
  obtain ⟨l, rfl⟩ := ex_bs s2
  rw [bs_size] at h1
  go_wp2_with fail
  refine (hash_any l _ (by omega)).mono ?_
  rintro e w1 ⟨rfl, b1⟩
  have HB1 := Lib.hid b1
  clear b1
  go_wp2_with fail
  refine (refHash_any l _ (by omega)).mono ?_
  rintro e w2 ⟨rfl, b2⟩
  have HB2 := Lib.hid (HB1.out.trans (b2.mono HB1.out.size))
  clear b2
  go_wp2_with fail
  refine (works_any3 _).mono ?_
  rintro e w3 ⟨rfl, b3⟩
  have HB3 := Lib.hid (HB2.out.trans (b3.mono HB2.out.size))
  clear b3
  go_wp2
  go_ret
  exact ⟨rfl, HB3.out⟩

theorem splitV_tuple (l : List UInt8) : ∃ a b x, splitV l = .tuple #[.string a, .string b, .int .i64 x] := by
  unfold splitV; split <;> exact ⟨_, _, _, rfl⟩
set_option maxHeartbeats 4000000 in
theorem nameAsks_walk (s t : ByteArray) (w : World) (hs : s.size ≤ maxLen) (ht : t.size ≤ maxLen) :
    Calls Try.prog 6 #[.string s, .string t] w fun e w' => e = .returned (.bool true) ∧ Below w.heap.size w w' := by
  unfold maxLen at hs ht
  go_enter Try.func6, Try.ntmps6
  go_wp2_with fail
  have h1 : (s.extract 0 (min (s.size : Int) 100).toNat).size ≤ 100 := cut_size s 100
  generalize s.extract 0 (min (s.size : Int) 100).toNat = s2 at h1 ⊢
  obtain ⟨a, rfl⟩ := ex_bs s2
  have h2 : (t.extract 0 (min (t.size : Int) 100).toNat).size ≤ 100 := cut_size t 100
  generalize t.extract 0 (min (t.size : Int) 100).toNat = t2 at h2 ⊢
  obtain ⟨b, rfl⟩ := ex_bs t2
  rw [bs_size] at h1 h2
  have c1 := fun w => path_any a b w (by omega) (by omega)
  have c2 := fun w => refPath_any a b w (by omega) (by omega)
  have c3 := fun w => split_any a w (by omega)
  have c4 := fun w => refSplit_any a w (by omega)
  obtain ⟨xa, hxa⟩ : ∃ x, chk a = x := ⟨_, rfl⟩
  obtain ⟨xb, hxb⟩ : ∃ x, chk b = x := ⟨_, rfl⟩
  have c5 := fun w => check_any a xa w (by omega) hxa
  have c6 := fun w => refCheck_any a xa w (by omega) hxa
  have c7 := fun w => check_any b xb w (by omega) hxb
  have c8 := fun w => refCheck_any b xb w (by omega) hxb
  obtain ⟨p, q, x, hsv⟩ := splitV_tuple a
  rw [hsv] at c3 c4
  generalize pathS a b = P at *
  generalize pathE a b = E at *
  clear hsv hxa hxb
  go_wp2_with fail
  refine (c1 _).mono ?_
  rintro e w1 ⟨rfl, b1⟩
  have HB1 := Lib.hid b1
  clear b1
  go_wp2_with fail
  refine (c2 _).mono ?_
  rintro e w2 ⟨rfl, b2⟩
  have HB2 := Lib.hid (HB1.out.trans (b2.mono HB1.out.size))
  clear b2
  go_wp2_with fail
  refine (c3 _).mono ?_
  rintro e w3 ⟨rfl, b3⟩
  have HB3 := Lib.hid (HB2.out.trans (b3.mono HB2.out.size))
  clear b3
  go_wp2_with fail
  refine (c4 _).mono ?_
  rintro e w4 ⟨rfl, b4⟩
  have HB4 := Lib.hid (HB3.out.trans (b4.mono HB3.out.size))
  clear b4
  go_wp2_with fail
  refine (c5 _).mono ?_
  rintro e w5 ⟨rfl, b5⟩
  have HB5 := Lib.hid (HB4.out.trans (b5.mono HB4.out.size))
  clear b5
  go_wp2_with fail
  refine (c6 _).mono ?_
  rintro e w6 ⟨rfl, rfl⟩
  go_wp2_with fail
  refine (c7 _).mono ?_
  rintro e w7 ⟨rfl, b7⟩
  have HB7 := Lib.hid (HB5.out.trans (b7.mono HB5.out.size))
  clear b7
  go_wp2_with fail
  refine (c8 _).mono ?_
  rintro e w8 ⟨rfl, rfl⟩
  go_wp2_with fail
  refine (works_any3 _).mono ?_
  rintro e w9 ⟨rfl, b9⟩
  have HB9 := Lib.hid (HB7.out.trans (b9.mono HB7.out.size))
  clear b9
  go_wp2
  go_ret
  exact ⟨rfl, HB9.out⟩
end Go.Proofs.Ytffpmdgchpcaaaa
