import Derived.Test.YtdpeblchndfdaaaW3
namespace Go.Proofs.Ytdpeblchndfdaaa
open Go.RowKit

set_option maxHeartbeats 400000 in
theorem takeText_lost (b c : Nat) (l : List UInt8) (w : World) (h : Rd w b l true) :
    Calls Try.prog 80 #[.pointer (some ⟨b, 0, none⟩), .func (.func 81) #[] #[.pointer (some ⟨c, 0, none⟩)]] w fun e w' => e = .returned (.tuple #[]) ∧ w' = w := by
  have H := Lib.hid h
  clear h
  go_enter Try.func80, Try.ntmps80
  go_wp2_with fail
  refine (ok_any b _ _ _ H.out).mono ?_
  rintro e w1 ⟨rfl, rfl⟩
  go_wp2
  (try simp only [Exit.inBlock, Exit.then]); refine bodyPost_ret (results_none rfl _ _ _) rfl ?_
  exact ⟨rfl, rfl⟩

set_option maxHeartbeats 400000 in
theorem takeText_nil (c : Nat) (w : World) :
    Calls Try.prog 80 #[.pointer none, .func (.func 81) #[] #[.pointer (some ⟨c, 0, none⟩)]] w fun e w' => e = .returned (.tuple #[]) ∧ w' = w := by
  go_enter Try.func80, Try.ntmps80
  go_wp2_with fail
  refine (ok_nil _).mono ?_
  rintro e w1 ⟨rfl, rfl⟩
  go_wp2
  (try simp only [Exit.inBlock, Exit.then]); refine bodyPost_ret (results_none rfl _ _ _) rfl ?_
  exact ⟨rfl, rfl⟩

set_option maxHeartbeats 400000 in
theorem takeText_ok (b c : Nat) (l : List UInt8) (x n : ByteArray) (r : ByteArray) (ok : Bool) (w : World) (h : Rd w b l false) (hl : l.length ≤ maxLen) (hc : At w c 9 [.string x]) (hne : b ≠ c)
    (hv : cutTV l = .tuple #[.string n, .string r, .bool ok]) :
    Calls Try.prog 80 #[.pointer (some ⟨b, 0, none⟩), .func (.func 81) #[] #[.pointer (some ⟨c, 0, none⟩)]] w fun e w' => e = .returned (.tuple #[]) ∧
      At w' b 91 [.string r, .bool !ok] ∧ At w' c 9 [.string n] ∧ ∃ w1, Only c w w1 ∧ Only b w1 w' := by
  have H := Lib.hid h
  have h0 := At.cell h 0 _ rfl
  have HC := Lib.hid hc
  have HV := Lib.hid hv
  have HN := Lib.hid hne
  have hz : (bs l).size ≤ maxLen := by rw [bs_size]; exact hl
  clear h hc hv hne
  go_enter Try.func80, Try.ntmps80
  go_wp2_with fail
  refine (ok_any b _ _ _ H.out).mono ?_
  rintro e w1 ⟨rfl, rfl⟩
  go_wp2_with fail
  refine (textLit (bs l) c x n r ok _ hz HC.out (by rw [data_bs]; exact HV.out)).mono ?_
  rintro e w2 ⟨rfl, h2, h3⟩
  have hb := At.only H.out h3 HN.out
  have hc0 := hb.cell 0 _ rfl
  have hc1 := hb.cell 1 _ rfl
  have hf0 := hb.frozen 0
  have hf1 := hb.frozen 1
  have HB := Lib.hid hb
  have H2 := Lib.hid h2
  have H3 := Lib.hid h3
  clear hb h2 h3
  go_wp2
  go_end0
  exact ⟨rfl, (HB.out.setCell 0 _).setCell 1 _, ((H2.out.setCell_ne _ _ (by simpa using HN.out.symm)).setCell_ne _ _ (by simpa using HN.out.symm)), _, H3.out, (Only.setCell _ _ _ _).trans (Only.setCell _ _ _ _)⟩

/-- two blocks were written: the one that the call made, and the reader's -/
theorem only_of {b c : Nat} {w w1 w2 w3 : World} (ha : Below w.heap.size w w1) (hc : w.heap.size ≤ c) (h1 : Only c w1 w2) (h2 : Only b w2 w3) : Only b w w3 := by
  have hs := ha.size
  have hs2 := h1.size
  refine ⟨h2.os.trans (h1.os.trans ha.os), h2.tape.trans (h1.tape.trans ha.tape), h2.output.trans (h1.output.trans ha.output), by have := h2.size; omega, ?_⟩
  intro k hk hb
  rw [h2.block k (by omega) hb, h1.block k (by omega) (by omega), ha.block k hk]

set_option maxHeartbeats 400000 in
theorem num_any (b : Nat) (l : List UInt8) (lost : Bool) (w : World) (h : Rd w b l lost) (hl : l.length ≤ maxLen) :
    Calls Try.prog 84 #[.pointer (some ⟨b, 0, none⟩)] w fun e w' => e = .returned (.int .u64 (rnum l lost).1) ∧
      Rd w' b (rnum l lost).2.1 (rnum l lost).2.2 ∧ Only b w w' := by
  have hlt := At.lt h
  have hat := At.new w #[.int .u64 0] 82
  have hb := At.alloc h (.cells #[.int .u64 0] 82)
  have hbe : Below w.heap.size w (w.alloc (.cells #[.int .u64 0] 82)) := (Below.refl _ _).alloc (Nat.le_refl _) _
  have HA := Lib.hid hat
  have HB := Lib.hid hb
  have HE := Lib.hid hbe
  cases lost with
  | true =>
    clear hat hb hbe h
    go_enter Try.func84, Try.ntmps84
    go_wp2_with fail
    refine (takeNum_lost b w.heap.size l _ HB.out).mono ?_
    rintro e w1 ⟨rfl, rfl⟩
    go_wp2
    go_ret
    exact ⟨rfl, HB.out, Only.of_below HE.out⟩
  | false =>
    obtain ⟨n, r, ok, hv, hn⟩ : ∃ (n : Nat) (r : List UInt8) (ok : Bool), cutV l = .tuple #[.int .u64 n, .string (bs r), .bool ok] ∧ rnum l false = (n, r, !ok) := by
      unfold cutV rnum
      cases hc : Plain.cut l with
      | none => exact ⟨0, [], false, rfl, rfl⟩
      | some x => exact ⟨x.1, x.2, true, rfl, rfl⟩
    rw [hn]
    have HV := Lib.hid hv
    clear hat hb hbe h hv hn
    go_enter Try.func84, Try.ntmps84
    go_wp2_with fail
    refine (takeNum_ok b w.heap.size l _ n (bs r) ok _ HB.out hl HA.out (by omega) HV.out).mono ?_
    rintro e w1 ⟨rfl, h1, h2, w2, h3, h4⟩
    have hc := h2.cell 0 _ rfl
    have H1 := Lib.hid h1
    have H3 := Lib.hid h3
    have H4 := Lib.hid h4
    clear h1 h2 h3 h4
    go_wp2
    go_ret
    exact ⟨rfl, H1.out, only_of HE.out (Nat.le_refl _) H3.out H4.out⟩

set_option maxHeartbeats 400000 in
theorem num_nil' (w : World) :
    Calls Try.prog 84 #[.pointer none] w fun e w' => e = .returned (.int .u64 0) ∧ Below w.heap.size w w' := by
  have hbe : Below w.heap.size w (w.alloc (.cells #[.int .u64 0] 82)) := (Below.refl _ _).alloc (Nat.le_refl _) _
  have HE := Lib.hid hbe
  clear hbe
  go_enter Try.func84, Try.ntmps84
  go_wp2_with fail
  refine (takeNum_nil w.heap.size _).mono ?_
  rintro e w1 ⟨rfl, rfl⟩
  go_wp2
  go_ret
  exact ⟨rfl, HE.out⟩

set_option maxHeartbeats 400000 in
theorem clone_any (s : ByteArray) (w : World) (hs : s.size ≤ 281474976710656) :
    Calls Try.prog 83 #[.string s] w fun e w' => e = .returned (.string s) ∧ Below w.heap.size w w' := by
  go_enter Try.func83, Try.ntmps83
  go_wp2_with fail
  refine (Try.stringslite_Clone s _ hs).mono ?_
  rintro e w1 ⟨rfl, hb1⟩
  go_wp2
  go_ret
  exact ⟨rfl, hb1⟩

theorem cutT_len {l t r : List UInt8} (h : Plain.cutT l = some (t, r)) : t.length ≤ l.length ∧ r.length ≤ l.length := by
  unfold Plain.cutT at h
  cases hc : Plain.cut l with
  | none => rw [hc] at h; cases h
  | some x =>
    obtain ⟨n, q⟩ := x
    have := cut_len hc
    rw [hc] at h
    simp only at h
    split at h
    · cases h
    · simp only [Option.some.injEq, Prod.mk.injEq] at h
      obtain ⟨rfl, rfl⟩ := h
      simp; omega

set_option maxHeartbeats 400000 in
theorem text_any (b : Nat) (l : List UInt8) (lost : Bool) (w : World) (h : Rd w b l lost) (hl : l.length ≤ 281474976710656) :
    Calls Try.prog 56 #[.pointer (some ⟨b, 0, none⟩)] w fun e w' => e = .returned (.string (bs (rtext l lost).1)) ∧
      Rd w' b (rtext l lost).2.1 (rtext l lost).2.2 ∧ Only b w w' := by
  have hlt := At.lt h
  have hat := At.new w #[.string ⟨#[]⟩] 9
  have hb := At.alloc h (.cells #[.string ⟨#[]⟩] 9)
  have hbe : Below w.heap.size w (w.alloc (.cells #[.string ⟨#[]⟩] 9)) := (Below.refl _ _).alloc (Nat.le_refl _) _
  have HA := Lib.hid hat
  have HB := Lib.hid hb
  have HE := Lib.hid hbe
  cases lost with
  | true =>
    clear hat hb hbe h
    go_enter Try.func56, Try.ntmps56
    go_wp2_with fail
    refine (takeText_lost b w.heap.size l _ HB.out).mono ?_
    rintro e w1 ⟨rfl, rfl⟩
    go_wp2_with fail
    refine (clone_any _ _ (by decide)).mono ?_
    rintro e w2 ⟨rfl, h2⟩
    go_wp2
    go_ret
    exact ⟨rfl, At.below HB.out h2 (At.lt HB.out), (Only.of_below HE.out).trans (Only.of_below h2)⟩
  | false =>
    obtain ⟨n, r, ok, hv, hn, hnl⟩ : ∃ (n : List UInt8) (r : List UInt8) (ok : Bool), cutTV l = .tuple #[.string (bs n), .string (bs r), .bool ok] ∧ rtext l false = (n, r, !ok) ∧ n.length ≤ 281474976710656 := by
      unfold cutTV rtext
      cases hc : Plain.cutT l with
      | none => exact ⟨[], [], false, rfl, rfl, by simp⟩
      | some x => exact ⟨x.1, x.2, true, rfl, rfl, by have := (cutT_len (t := x.1) (r := x.2) hc).1; omega⟩
    rw [hn]
    have HV := Lib.hid hv
    clear hat hb hbe h hv hn
    go_enter Try.func56, Try.ntmps56
    go_wp2_with fail
    refine (takeText_ok b w.heap.size l _ (bs n) (bs r) ok _ HB.out (by unfold maxLen; omega) HA.out (by omega) HV.out).mono ?_
    rintro e w1 ⟨rfl, h1, h2, w2, h3, h4⟩
    have hc := h2.cell 0 _ rfl
    have H1 := Lib.hid h1
    have H3 := Lib.hid h3
    have H4 := Lib.hid h4
    clear h1 h2 h3 h4
    go_wp2_with fail
    refine (clone_any _ _ (by rw [bs_size]; exact hnl)).mono ?_
    rintro e w5 ⟨rfl, h5⟩
    go_wp2
    go_ret
    exact ⟨rfl, At.below H1.out h5 (At.lt H1.out), (only_of HE.out (Nat.le_refl _) H3.out H4.out).trans (Only.of_below h5)⟩

set_option maxHeartbeats 400000 in
theorem text_nil' (w : World) :
    Calls Try.prog 56 #[.pointer none] w fun e w' => e = .returned (.string ⟨#[]⟩) ∧ Below w.heap.size w w' := by
  have hbe : Below w.heap.size w (w.alloc (.cells #[.string ⟨#[]⟩] 9)) := (Below.refl _ _).alloc (Nat.le_refl _) _
  have HE := Lib.hid hbe
  clear hbe
  go_enter Try.func56, Try.ntmps56
  go_wp2_with fail
  refine (takeText_nil w.heap.size _).mono ?_
  rintro e w1 ⟨rfl, rfl⟩
  go_wp2_with fail
  refine (clone_any _ _ (by decide)).mono ?_
  rintro e w2 ⟨rfl, h2⟩
  go_wp2
  go_ret
  exact ⟨rfl, HE.out.trans (h2.mono HE.out.size)⟩
end Go.Proofs.Ytdpeblchndfdaaa
