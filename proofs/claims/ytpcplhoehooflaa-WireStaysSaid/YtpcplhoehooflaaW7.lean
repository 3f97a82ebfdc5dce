import Derived.Test.YtpcplhoehooflaaW6
namespace Go.Proofs.Ytpcplhoehooflaa
open Go.RowKit

def rft (l : List UInt8) (lost : Bool) : List UInt8 × List UInt8 × Bool :=
  if (rf l lost).2.1.length < (rf l lost).1 then ([], [], true) else
    ((rf l lost).2.1.take (rf l lost).1, (rf l lost).2.1.drop (rf l lost).1, (rf l lost).2.2)

theorem rf_len (l : List UInt8) (lost : Bool) : (rf l lost).2.1.length ≤ l.length := by
  unfold rf
  split
  · rename_i n r h; exact cut_len h
  · simp
theorem rf_big (l : List UInt8) (lost : Bool) : (rf l lost).1 < Plain.big := by
  unfold rf
  split
  · rename_i n r h; exact (Plain.cut_back h).2
  · decide

set_option maxHeartbeats 1000000 in
theorem refText_any (b : Nat) (l : List UInt8) (lost : Bool) (w : World) (h : Rf w b l lost) (hs : l.length ≤ 1099511627776) :
    Calls Try.prog 18 #[.pointer (some ⟨b, 0, none⟩)] w fun e w' =>
      e = .returned (.string (bs (rft l lost).1)) ∧ Rf w' b (rft l lost).2.1 (rft l lost).2.2 ∧ Only b w w' := by
  have H := Lib.hid h
  have hlen := rf_len l lost
  have hbig := rf_big l lost
  have hn := refNum_any b (bs l) lost w h (by rw [bs_size]; exact hs)
  rw [data_bs] at hn
  have HN := Lib.hid hn
  clear hn h
  generalize hR : rft l lost = R
  unfold rft at hR
  generalize rf l lost = X at hR HN hlen hbig
  obtain ⟨n, r, lo⟩ := X
  have hr : r.length ≤ 1099511627776 := by simp only at hlen; omega
  have hz : (bs r).size ≤ 9223372036854775807 := by rw [bs_size]; omega
  have hn64 : n < 18446744073709551616 := hbig
  clear hlen hbig
  simp only at hR
  by_cases hlt : r.length < n
  · rw [if_pos hlt] at hR
    subst hR
    have hl2 : (bs r).size < n := by rw [bs_size]; exact hlt
    go_enter Try.func18, Try.ntmps18
    go_wp2_with fail
    refine HN.out.mono ?_
    rintro e w1 ⟨rfl, h1, h2⟩
    have g0 := At.cell h1 0 _ rfl
    have H1 := Lib.hid h1
    have H2 := Lib.hid h2
    clear h1 h2
    go_wp2_with fail
    refine (lose_any b _ _ _ H1.out).mono ?_
    rintro e w2 ⟨rfl, h1, h2⟩
    have H3 := Lib.hid h1
    have H4 := Lib.hid h2
    clear h1 h2
    go_wp2
    go_ret
    exact ⟨rfl, H3.out, H2.out.trans H4.out⟩
  · rw [if_neg hlt] at hR
    subst hR
    have hl2 : n ≤ (bs r).size := by rw [bs_size]; omega
    go_enter Try.func18, Try.ntmps18
    go_wp2_with fail
    refine HN.out.mono ?_
    rintro e w1 ⟨rfl, h1, h2⟩
    have g0 := At.cell h1 0 _ rfl
    have f0 := At.frozen h1 0
    have H1 := Lib.hid h1
    have H2 := Lib.hid h2
    clear h1 h2 hlt
    go_wp2
    go_ret
    refine ⟨ret_of (by rw [← bs_take_bs]; rfl), ?_, H2.out.trans (Only.setCell _ _ _ _)⟩
    have := At.setCell H1.out 0 (.string ((bs r).extract n (bs r).size))
    simp only [bs_drop_bs] at this ⊢
    exact this

/-- the document's reader, and the program's: lost ones have nothing left -/
theorem rf_rnum (l : List UInt8) (lost : Bool) (h : lost = true → l = []) : rf l lost = rnum l lost := by
  cases lost with
  | true => rw [h rfl]; rfl
  | false => rfl
theorem rft_rtext (l : List UInt8) (lost : Bool) (h : lost = true → l = []) : rft l lost = rtext l lost := by
  cases lost with
  | true => rw [h rfl]; rfl
  | false =>
    unfold rft rtext rf Plain.cutT
    cases hc : Plain.cut l with
    | none => rfl
    | some x =>
      obtain ⟨n, r⟩ := x
      by_cases hlt : r.length < n
      · simp [hlt]
      · simp [hlt]
theorem rnum_lost (l : List UInt8) (lost : Bool) (h : lost = true → l = []) : (rnum l lost).2.2 = true → (rnum l lost).2.1 = [] := by
  cases lost with
  | true => intro _; exact h rfl
  | false =>
    unfold rnum
    cases hc : Plain.cut l <;> simp
theorem rtext_lost (l : List UInt8) (lost : Bool) (h : lost = true → l = []) : (rtext l lost).2.2 = true → (rtext l lost).2.1 = [] := by
  cases lost with
  | true => intro _; exact h rfl
  | false =>
    unfold rtext
    cases hc : Plain.cutT l <;> simp
theorem rnum_len (l : List UInt8) (lost : Bool) : (rnum l lost).2.1.length ≤ l.length := by
  cases lost with
  | true => exact Nat.le_refl _
  | false =>
    unfold rnum
    cases hc : Plain.cut l with
    | none => simp
    | some x => exact cut_len (r := x.2) hc
theorem rtext_len (l : List UInt8) (lost : Bool) : (rtext l lost).2.1.length ≤ l.length := by
  cases lost with
  | true => exact Nat.le_refl _
  | false =>
    unfold rtext
    cases hc : Plain.cutT l with
    | none => simp
    | some x => exact (cutT_len (t := x.1) (r := x.2) hc).2

theorem row300 : Plain.row 300 = [130, 44] := by
  unfold Plain.row
  rw [Plain.hi_pos (by decide), show 300 / 128 / 128 = 0 by decide, Plain.hi_zero]
  rfl
theorem row2 : Plain.row 2 = [2] := by
  unfold Plain.row
  rw [show 2 / 128 = 0 by decide, Plain.hi_zero]
  rfl

theorem put300 (w : World) : Calls Try.prog 9 #[.string ⟨#[]⟩, .int .u64 300] w fun e w' => e = .returned (.string ⟨#[130, 44]⟩) ∧ Below w.heap.size w w' :=
  (putNum_any ⟨#[]⟩ 300 w (by decide) (by decide)).mono fun e w' ⟨he, hb⟩ => ⟨by rw [he, row300]; rfl, hb⟩
theorem putAb (w : World) : Calls Try.prog 11 #[.string ⟨#[130, 44]⟩, .string ⟨#[97, 98]⟩] w fun e w' => e = .returned (.string ⟨#[130, 44, 2, 97, 98]⟩) ∧ Below w.heap.size w w' :=
  (putText_any ⟨#[130, 44]⟩ ⟨#[97, 98]⟩ w (by decide) (by decide)).mono fun e w' ⟨he, hb⟩ => ⟨by
    rw [he, show (⟨#[97, 98]⟩ : ByteArray).size = 2 from rfl, row2]; rfl, hb⟩

def worksText : List UInt8 := [130, 44, 2, 97, 98]

set_option maxHeartbeats 1000000 in
theorem works_any (w : World) : Calls Try.prog 13 #[] w fun e w' => e = .returned (.bool true) ∧ Below w.heap.size w w' := by
  go_enter Try.func13, Try.ntmps13
  go_wp2_with fail
  refine (put300 _).mono ?_
  rintro e w1 ⟨rfl, hb1⟩
  go_wp2_with fail
  refine (putAb _).mono ?_
  rintro e w2 ⟨rfl, hb2⟩
  go_wp2_with fail
  refine (newReader_any _ _).mono ?_
  rintro e w3 ⟨rfl, rfl⟩
  have hr : Rd (w2.alloc (.cells #[.string ⟨#[130, 44, 2, 97, 98]⟩, .bool false] 46)) w2.heap.size [130, 44, 2, 97, 98] false := At.new w2 _ _
  have hb3 : Below w.heap.size w (w2.alloc (.cells #[.string ⟨#[130, 44, 2, 97, 98]⟩, .bool false] 46)) :=
    (hb1.trans (hb2.mono hb1.size)).alloc (Nat.le_trans hb1.size hb2.size) _
  have hsz : w.heap.size ≤ w2.heap.size := Nat.le_trans hb1.size hb2.size
  have HR := Lib.hid hr
  have HB := Lib.hid hb3
  clear hr hb3 hb1 hb2
  go_wp2_with fail
  refine (num_any _ [130, 44, 2, 97, 98] false _ HR.out (by decide)).mono ?_
  rintro e w4 ⟨rfl, h4, h4'⟩
  have H4 : Hid (Rd w4 w2.heap.size [2, 97, 98] false) := Lib.hid h4
  have H4' := Lib.hid h4'
  have en : (rnum [130, 44, 2, 97, 98] false).1 = 300 := rfl
  rw [en]
  clear h4 h4' en
  go_wp2_with fail
  refine (text_any _ [2, 97, 98] false _ H4.out (by decide)).mono ?_
  rintro e w5 ⟨rfl, h5, h5'⟩
  have H5 : Hid (Rd w5 w2.heap.size [] false) := Lib.hid h5
  have H5' := Lib.hid h5'
  have en : bs (rtext [2, 97, 98] false).1 = ⟨#[97, 98]⟩ := rfl
  rw [en]
  clear h5 h5' en
  go_wp2_with fail
  refine (ok_any _ _ _ _ H5.out).mono ?_
  rintro e w6 ⟨rfl, rfl⟩
  go_wp2_with fail
  refine (end_any _ _ _ _ H5.out).mono ?_
  rintro e w7 ⟨rfl, rfl⟩
  have eb : (bs []).toList.isEmpty = true := by rw [ByteArray.toList_eq, data_bs]; rfl
  go_wp2
  go_ret
  exact ⟨rfl, Below.then (Below.then HB.out H4'.out hsz) H5'.out hsz⟩
end Go.Proofs.Ytpcplhoehooflaa
