import Derived.Test.YtpcplhoehooflaaWa
namespace Go.Proofs.Ytpcplhoehooflaa
open Go.RowKit

@[go_sem] theorem bs_toList (l : List UInt8) : (bs l).toList = l := by rw [ByteArray.toList_eq, data_bs]
attribute [go_sem] bs_size bs_append
@[go_sem] theorem bs_extract0 (l : List UInt8) (k : Nat) : (bs l).extract 0 k = bs (l.take k) := bs_take_bs l k
@[go_sem] theorem bs_extract (l : List UInt8) (k : Nat) : (bs l).extract k l.length = bs (l.drop k) := by
  have := bs_drop_bs l k; rw [bs_size] at this; exact this
theorem ex_bs (s : ByteArray) : ∃ l, s = bs l := ⟨_, (bs_data s).symm⟩

theorem putText_empty (m : List UInt8) (w : World) (hm : m.length ≤ 1152921504606846976) :
    Calls Try.prog 11 #[.string ⟨#[]⟩, .string (bs m)] w fun e w' => e = .returned (.string (bs (Plain.row m.length ++ m))) ∧ Below w.heap.size w w' :=
  (putText_any ⟨#[]⟩ (bs m) w (by decide) (by rw [bs_size]; exact hm)).mono fun e w' ⟨he, hb⟩ => ⟨by
    rw [he, bs_size]; congr 2, hb⟩
theorem putNum_empty (n : Nat) (w : World) (hn : n < Plain.big) :
    Calls Try.prog 9 #[.string ⟨#[]⟩, .int .u64 n] w fun e w' => e = .returned (.string (bs (Plain.row n))) ∧ Below w.heap.size w w' :=
  (putNum_any ⟨#[]⟩ n w (by decide) hn).mono fun e w' ⟨he, hb⟩ => ⟨by rw [he, bs_cons]; rfl, hb⟩
theorem newReader_bs (l : List UInt8) (w : World) :
    Calls Try.prog 14 #[.string (bs l)] w fun e w' => e = .returned (.pointer (some ⟨w.heap.size, 0, none⟩)) ∧ ∃ w1, w' = w1 ∧ Rd w1 w.heap.size l false ∧ Below w.heap.size w w1 :=
  (newReader_any (bs l) w).mono fun e w' ⟨he, hw⟩ => ⟨he, w', rfl, by rw [hw]; exact At.new w _ _, by rw [hw]; exact (Below.refl _ _).alloc (Nat.le_refl _) _⟩

theorem rtext_put (m l : List UInt8) (hm : m.length ≤ 1152921504606846976) : rtext ((Plain.row m.length ++ m) ++ l) false = (m, l, false) := by
  have hb : m.length < Plain.big := by unfold Plain.big; omega
  have hc := Plain.cut_row m.length hb (m ++ l)
  have hcT : Plain.cutT (Plain.row m.length ++ m ++ l) = some (m, l) := by
    rw [List.append_assoc]
    unfold Plain.cutT
    rw [hc]
    simp
  simp only [rtext, hcT]
  rfl

theorem rnum_some {l : List UInt8} {n : Nat} {r : List UInt8} (h : Plain.cut l = some (n, r)) : rnum l false = (n, r, false) := by
  simp [rnum, h]
theorem rnum_none {l : List UInt8} (h : Plain.cut l = none) : rnum l false = (0, [], true) := by
  simp [rnum, h]

set_option maxHeartbeats 1000000 in
theorem wireStays_walk (t s : ByteArray) (w : World) (ht : t.size ≤ maxLen) (hs : s.size ≤ maxLen) :
    Calls Try.prog 7 #[.string t, .string s] w fun e w' => e = .returned (.bool true) ∧ Below w.heap.size w w' := by
  unfold maxLen at hs ht
  go_enter Try.func7, Try.ntmps7
  go_wp2_with fail
  go_quiet (fail)
  have h1 : (s.extract 0 (min (s.size : Int) 200).toNat).size ≤ 200 := cut_size s 200
  have h2 : (t.extract 0 (min (t.size : Int) 200).toNat).size ≤ 200 := cut_size t 200
  generalize s.extract 0 (min (s.size : Int) 200).toNat = s2 at h1 ⊢
  generalize t.extract 0 (min (t.size : Int) 200).toNat = t2 at h2 ⊢
  obtain ⟨l, rfl⟩ := ex_bs s2
  obtain ⟨m, rfl⟩ := ex_bs t2
  rw [bs_size] at h1 h2
  go_wp2_with fail
  refine (putText_empty m _ (by omega)).mono ?_
  rintro e w1 ⟨rfl, b1⟩
  have hrl := Plain.row_length_le m.length (by unfold Plain.big; omega)
  have hsum : (Plain.row m.length).length + m.length + l.length ≤ 9223372036854775807 := by omega
  have B1 : Below w.heap.size w w1 := (below_drewN w nq).trans b1
  have HB1 := Lib.hid B1
  clear B1 b1
  go_wp2_with fail
  refine (newReader_bs _ _).mono ?_
  rintro e _ ⟨rfl, w2, rfl, r2, b2⟩
  have HB2 := Lib.hid (HB1.out.trans (b2.mono HB1.out.size))
  have hsz1 : w.heap.size ≤ w1.heap.size := HB1.out.size
  have R2 := Lib.hid r2
  clear b2 r2
  go_wp2_with fail
  refine (text_any _ _ _ _ R2.out (by simp; omega)).mono ?_
  rw [show Plain.row m.length ++ (m ++ l) = Plain.row m.length ++ m ++ l by simp, rtext_put m l (by omega)]
  rintro e w3 ⟨rfl, r3, b3⟩
  have HB3 := Lib.hid (Below.then HB2.out b3 hsz1)
  have R3 : Hid (Rd w3 w1.heap.size l false) := Lib.hid r3
  clear b3 r3
  go_wp2_with fail
  refine (ok_any _ _ _ _ R3.out).mono ?_
  rintro e w4 ⟨rfl, rfl⟩
  go_wp2_with fail
  refine (end_any _ _ _ _ R3.out).mono ?_
  rintro e w5 ⟨rfl, rfl⟩
  obtain ⟨eb, he1, he2⟩ : ∃ b, l.isEmpty = b ∧ (l == []) = b := ⟨_, rfl, by cases l <;> rfl⟩
  go_wp2_with fail
  refine (num_any _ _ _ _ R3.out (by unfold maxLen; omega)).mono ?_
  rintro e w6 ⟨rfl, r6, b6⟩
  have HB6 := Lib.hid (Below.then HB3.out b6 hsz1)
  have R6 := Lib.hid r6
  clear b6 r6
  go_wp2_with fail
  refine (ok_any _ _ _ _ R6.out).mono ?_
  rintro e w7 ⟨rfl, rfl⟩
  go_wp2_with fail
  refine (newReader_bs _ _).mono ?_
  rintro e _ ⟨rfl, w8, rfl, r8, b8⟩
  have HB8 := Lib.hid (HB6.out.trans (b8.mono HB6.out.size))
  have hsz7 : w.heap.size ≤ w7.heap.size := HB6.out.size
  have R8 := Lib.hid r8
  clear b8 r8
  go_wp2_with fail
  refine (num_any _ _ _ _ R8.out (by unfold maxLen; omega)).mono ?_
  rintro e w9 ⟨rfl, r9, b9⟩
  have HB9 := Lib.hid (Below.then HB8.out b9 hsz7)
  have R9 := Lib.hid r9
  clear b9 r9
  go_wp2_with fail
  refine (ok_any _ _ _ _ R9.out).mono ?_
  rintro e w10 ⟨rfl, rfl⟩
  go_wp2_with fail
  cases hcut : Plain.cut l with
  | none =>
    rw [rnum_none hcut]
    clear hcut
    refine (putNum_empty 0 _ (by decide)).mono ?_
    rintro e w11 ⟨rfl, b11⟩
    have HB11 := Lib.hid (HB9.out.trans (b11.mono HB9.out.size))
    clear b11
    go_wp2_with fail
    refine (works_any _).mono ?_
    rintro e w12 ⟨rfl, b12⟩
    go_wp2
    go_ret
    exact ⟨rfl, HB11.out.trans (b12.mono HB11.out.size)⟩
  | some x =>
    obtain ⟨n, r⟩ := x
    rw [rnum_some hcut]
    obtain ⟨hl, hn⟩ := Plain.cut_back hcut
    clear hcut
    refine (putNum_empty n _ hn).mono ?_
    rintro e w11 ⟨rfl, b11⟩
    have HB11 := Lib.hid (HB9.out.trans (b11.mono HB9.out.size))
    have hle : (Plain.row n).length ≤ l.length := by rw [hl]; simp
    have htk : l.take (Plain.row n).length = Plain.row n := by rw [hl]; simp
    have hlen : l.length ≤ 9223372036854775807 := by omega
    clear b11 hl
    go_wp2_with fail
    refine (works_any _).mono ?_
    rintro e w12 ⟨rfl, b12⟩
    go_wp2
    go_ret
    exact ⟨rfl, HB11.out.trans (b12.mono HB11.out.size)⟩
end Go.Proofs.Ytpcplhoehooflaa
