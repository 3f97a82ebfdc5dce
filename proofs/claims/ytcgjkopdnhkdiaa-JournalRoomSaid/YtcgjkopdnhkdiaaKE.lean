/- Ka, Kb, Kc, Kd, Ke, one behind the other. -/
import Derived.Test.YtcgjkopdnhkdiaaJW
namespace Go.Proofs.Ytcgjkopdnhkdiaa
open Go.RowKit
set_option maxRecDepth 100000
theorem take_eq_step {ts us : List (List UInt8)} {k : Nat} {t : List UInt8} (h : ts.take k = us.take k) (h1 : ts[k]? = some t) (h2 : us[k]? = some t) : ts.take (k + 1) = us.take (k + 1) := by
  rw [List.take_add_one, List.take_add_one, h, h1, h2]
theorem ne_of_at {ts us : List (List UInt8)} {k : Nat} {t u : List UInt8} (h1 : ts[k]? = some t) (h2 : us[k]? = some u) (h : t ≠ u) : ts ≠ us := by
  rintro rfl
  rw [h1] at h2
  exact h (Option.some.inj h2)
set_option maxHeartbeats 4000000 in
theorem texts_any (a b : Option Addr) (ts us : List (List UInt8)) (ca cb : Nat) (hn : ts.length ≤ 1000000) (w : World) (hA : Lst w a ts) (hB : Lst w b us) :
    Calls Try.prog 32 #[.slice a ts.length ca, .slice b us.length cb] w fun e w' => e = .returned (.bool (decide (ts = us))) ∧ Below w.heap.size w w' := by
  have HA := Lib.hid hA
  have HB := Lib.hid hB
  obtain ⟨R, hR⟩ : ∃ R, R = decide (ts = us) := ⟨_, rfl⟩
  rw [← hR]
  have HR := Lib.hid hR
  clear hA hB hR
  go_enter Try.func32, Try.ntmps32
  by_cases hlen : ts.length = us.length
  · obtain ⟨n, hn1⟩ : ∃ n, n = ts.length := ⟨_, rfl⟩
    have hn2 : us.length = n := by omega
    rw [hn2, ← hn1]
    have HN1 := Lib.hid hn1
    have HN2 := Lib.hid hn2
    rw [← hn1] at hn
    clear hlen hn1 hn2
    go_wp2
    go_loopw [5] (fun i wx => ∃ k : Nat, k ≤ n ∧ i = .int .i64 k ∧ ts.take k = us.take k ∧ Below w.heap.size w wx) (fun i _ => n - (intOf i).toNat)
    case atStart => exact ⟨0, by omega, rfl, rfl, Below.refl _ _⟩
    case round =>
      obtain ⟨k, hk, rfl, hT, hBe⟩ := hrel
      have HT := Lib.hid hT
      have HBe := Lib.hid hBe
      clear hT hBe
      by_cases hlt : k < n
      · have hlt' : (k : Int) < n := by omega
        obtain ⟨t, ht⟩ : ∃ t, ts[k]? = some t := ⟨_, List.getElem?_eq_getElem (by rw [← HN1.out]; exact hlt)⟩
        obtain ⟨u, hu⟩ : ∃ u, us[k]? = some u := ⟨_, List.getElem?_eq_getElem (by rw [HN2.out]; exact hlt)⟩
        obtain ⟨x, rfl, hcx⟩ := (HA.out.below HBe.out) k t ht
        obtain ⟨y, rfl, hcy⟩ := (HB.out.below HBe.out) k u hu
        unfold tv at hcx hcy
        have HTK := Lib.hid ht
        have HUK := Lib.hid hu
        clear ht hu
        by_cases he : t = u
        · subst he
          go_wp2_with fail
          go_quiet (fail)
          go_wp2
          go_roundw
          case rel => exact ⟨k + 1, by omega, by go_num, take_eq_step HT.out HTK.out HUK.out, below_drewN' HBe.out _⟩
          case measure => simp [intOf]; omega
        · have hb : (t == u) = false := beq_eq_false_iff_ne.2 he
          go_wp2_with fail
          go_quiet (fail)
          go_wp2
          go_ret
          exact ⟨by rw [HR.out, decide_eq_false (ne_of_at HTK.out HUK.out he)]; rfl, below_drewN' HBe.out _⟩
      · obtain rfl : k = n := by omega
        go_wp2
        go_ret
        refine ⟨?_, HBe.out⟩
        have e := HT.out
        rw [HN1.out, List.take_length, ← HN1.out, ← HN2.out, List.take_length] at e
        rw [HR.out, decide_eq_true e]
        rfl
  · have hd : ¬ (ts.length : Int) = (us.length : Int) := by omega
    go_wp2
    go_ret
    exact ⟨by rw [HR.out, decide_eq_false (fun e => hlen (by rw [e]))]; rfl, Below.refl _ _⟩
end Go.Proofs.Ytcgjkopdnhkdiaa

namespace Go.Proofs.Ytcgjkopdnhkdiaa
open Go.RowKit
set_option maxRecDepth 100000
/-- the disk, and the journal, behind `fresh` -/
def frS (n : Nat) : Dk := (runs n (Dk.fresh n) (fmtOps 0)).2
def frO (n D : Nat) : Int × Dk × Jn := openL n (frS n) ⟨D, 0, (n - 2) / 2⟩
theorem lot_of {m : Nat} {s : Dk} (h1 : decide (s.ws.length ≤ m) = true) (h2 : decide (s.ops ≤ m) = true) : Lot m s := ⟨of_decide_eq_true h1, of_decide_eq_true h2⟩
theorem fresh_any (w0 w : World) (hB : Below w0.heap.size w0 w) (n : Nat) (h4 : 4 ≤ n) (hn : n ≤ 4096) (hL : Lot 100 (Dk.fresh n)) (hf : (runs n (Dk.fresh n) (fmtOps 0)).1 = 0) (hL2 : Lot 100 (frS n)) (ho : ∀ D, (frO n D).1 = 0) :
    Calls Try.prog 27 #[.int .i64 (n : Int)] w fun e w' => ∃ D J, w0.heap.size ≤ J ∧ e = .returned (.tuple #[.pointer (some ⟨D, 0, none⟩), .pointer (some ⟨J, 0, none⟩)]) ∧ Priv w0 w' (fun i => i = J) n D (frO n D).2.1 ∧ At w' J 87 (frO n D).2.2.cells := by
  have HN := Lib.hid (p_new w0 w hB none_ (fun _ h => h.elim) n (by omega) hn)
  have HF := Lib.hid hf
  have HL := Lib.hid hL
  have HL2 := Lib.hid hL2
  have HO := Lib.hid ho
  clear hf hL hL2 ho hB
  go_enter Try.func27, Try.ntmps27
  go_wp2_with fail
  refine HN.out.mono ?_
  rintro e v ⟨D, rfl, hD, h⟩
  have H1 := Lib.hid h.1
  clear h HN
  go_wp2_with fail
  refine (format_ok H1.out 0 n 100 hn h4 (by omega) HL.out (by omega)).mono ?_
  rintro e v2 ⟨rfl, h2⟩
  rw [HF.out]
  have H2 := Lib.hid h2.1
  have hz2 := h2.1.size
  clear h2
  go_wp2_with fail
  refine (open_ok H2.out 0 n _ rfl hn h4 (by omega) 100 HL2.out (by omega)).mono ?_
  rintro e v3 ⟨J, hJ, rfl, h3, hA, _⟩
  have h30 := HO.out D
  unfold frO frS at h30
  rw [h30]
  unfold openV
  rw [if_pos rfl]
  have H3 := Lib.hid (Priv.more (av2 := fun i => i = J) h3 (fun i hi => .inr (.inr hi)))
  have HA := Lib.hid hA
  have HJ := Lib.hid hJ
  clear h3 hA h30 hJ
  go_wp2
  go_ret2
  exact ⟨D, J, by have := HJ.out; omega, rfl, H3.out, HA.out⟩
end Go.Proofs.Ytcgjkopdnhkdiaa

namespace Go.Proofs.Ytcgjkopdnhkdiaa
open Go.RowKit
set_option maxRecDepth 100000
theorem lst_one (w : World) (a : List UInt8) : Lst (w.alloc (.cells #[tv a] 9)) (some ⟨w.heap.size, 0, none⟩) [a] := fun j t h => by
  have hj : j < 1 := (List.getElem?_eq_some_iff.1 h).1
  obtain rfl : j = 0 := by omega
  cases h
  exact ⟨_, rfl, (At.new w #[tv a] 9).cell 0 _ rfl⟩
theorem lst_two (w : World) (a b : List UInt8) : Lst (w.alloc (.cells #[tv a, tv b] 9)) (some ⟨w.heap.size, 0, none⟩) [a, b] := fun j t h => by
  have hj : j < 2 := (List.getElem?_eq_some_iff.1 h).1
  have : j = 0 ∨ j = 1 := by omega
  rcases this with rfl | rfl <;> cases h
  · exact ⟨_, rfl, (At.new w #[tv a, tv b] 9).cell 0 _ rfl⟩
  · exact ⟨_, rfl, (At.new w #[tv a, tv b] 9).cell 1 _ rfl⟩
theorem Txts.lst {w0 w : World} {v : Value} {ts : List (List UInt8)} (h : Txts w0 w v ts) : ∃ a cap, v = .slice a ts.length cap ∧ Lst w a ts := by
  obtain ⟨ao, cap, rfl, hO, _⟩ := h
  refine ⟨ao, cap, rfl, fun j t hj => ?_⟩
  have hjl := (List.getElem?_eq_some_iff.1 hj).1
  have hc : (ts.map tv)[j]? = some (tv t) := by rw [List.getElem?_map, hj]; rfl
  rcases hO.2 with ⟨_, h0⟩ | ⟨g, cap', cur, hv, _⟩
  · omega
  · obtain rfl : ao = some ⟨g, 0, none⟩ := by injection hv
    exact ⟨_, rfl, World.ownsRow.cells hO (g := g) rfl _ _ hc⟩
def two_ : List (List UInt8) := [[97], [98, 99]]
def jn8 (D : Nat) : Jn := ⟨⟨D, 0, 3⟩, ⟨1, 0, 0⟩, 0, [], false⟩
def s8 : Dk := (frO 8 0).2.1
theorem fr8 (D : Nat) : frO 8 D = (0, s8, jn8 D) := by kernel_rfl
def s8c : Dk := (commitL 8 s8 (jn8 0) two_).2.1
def jn8c (D : Nat) : Jn := ⟨⟨D, 0, 3⟩, ⟨2, 0, 5⟩, 1, [1, 97, 2, 98, 99], false⟩
theorem cm8 (D : Nat) : commitL 8 s8 (jn8 D) two_ = (0, s8c, jn8c D) := by kernel_rfl
def s8d : Dk := (openL 8 s8c ⟨0, 0, 3⟩).2.1
theorem op8 (D : Nat) : openL 8 s8c ⟨D, 0, 3⟩ = (0, s8d, jn8c D) := by kernel_rfl
theorem tx8 : textsL [1, 97, 2, 98, 99] = some two_ := by kernel_rfl
theorem lt8a : Lot 100 (Dk.fresh 8) := lot_of (by kernel_rfl) (by kernel_rfl)
theorem lt8b : Lot 100 (frS 8) := lot_of (by kernel_rfl) (by kernel_rfl)
theorem lt8c : Lot 100 s8 := lot_of (by kernel_rfl) (by kernel_rfl)
theorem lt8d : Lot 100 s8c := lot_of (by kernel_rfl) (by kernel_rfl)
theorem frF8 : (runs 8 (Dk.fresh 8) (fmtOps 0)).1 = 0 := by kernel_rfl
theorem records_two (J D : Nat) (w : World) (hJ : At w J 87 (jn8c D).cells) : Calls Try.prog 31 #[.pointer (some ⟨J, 0, none⟩)] w fun e w' => Below w.heap.size w w' ∧ ∃ a cap, e = .returned (.slice a 2 cap) ∧ Lst w' a two_ := by
  refine (records_any J (jn8c D) w hJ (by show (5 : Nat) ≤ 1000000; decide)).mono ?_
  rintro e w' ⟨hb, v, rfl, hT⟩
  rw [show (jn8c D).bytes = [1, 97, 2, 98, 99] from rfl, tx8] at hT
  obtain ⟨a, cap, rfl, hL⟩ := hT.lst
  exact ⟨hb, a, cap, rfl, hL⟩
section
set_option maxHeartbeats 4000000
theorem works5_any (w : World) : Calls Try.prog 35 #[] w fun e w' => e = .returned (.bool true) ∧ Below w.heap.size w w' := by
  obtain ⟨iw, hiw, hz0, hz1, hz2⟩ := info_parts info9
  have HI := Lib.hid (And.intro hiw (And.intro hz0 (And.intro hz1 hz2)))
  clear hiw hz0 hz1 hz2
  go_enter Try.func35, Try.ntmps35
  go_wp2_with fail
  refine (fresh_any w w (Below.refl _ _) 8 (by decide) (by decide) lt8a frF8 lt8b (fun D => by rw [fr8])).mono ?_
  rintro e v ⟨D, J, hJ0, rfl, hP, hA⟩
  rw [fr8] at hP hA
  have HP := Lib.hid hP
  have HA := Lib.hid hA
  have HJ0 := Lib.hid hJ0
  clear hP hA hJ0
  have hb1 := build_two (P := Try.prog) v 39 9 (.string ⟨#[97]⟩) (.string ⟨#[98, 99]⟩) iw _ Try.underlying39 HI.out.1 HI.out.2.1 HI.out.2.2.1 rfl rfl
  have HB1 := Lib.hid hb1
  clear hb1
  go_wp2_with (with_reducible refine list_val rfl (run_build2_op 39 (.const (.string ⟨#[97]⟩)) (.const (.string ⟨#[98, 99]⟩)) rfl (.string ⟨#[97]⟩) (.string ⟨#[98, 99]⟩) (by kernel_rfl) (by kernel_rfl) HB1.out) ?_)
  have hL : Lst (v.alloc (.cells #[Value.string ⟨#[97]⟩, Value.string ⟨#[98, 99]⟩] 9)) (some ⟨v.heap.size, 0, none⟩) two_ := lst_two v [97] [98, 99]
  have bA := (Below.refl v.heap.size v).alloc (Nat.le_refl _) (.cells #[Value.string ⟨#[97]⟩, Value.string ⟨#[98, 99]⟩] 9)
  have hP1 := (HP.out.below bA).1
  have hA1 := HA.out.below bA HA.out.lt
  clear HP HA HB1 bA
  generalize (v.alloc (.cells #[Value.string ⟨#[97]⟩, Value.string ⟨#[98, 99]⟩] 9)) = v1 at *
  have HC := Lib.hid (commit_any hP1 J (jn8 D) hA1 rfl HJ0.out rfl ⟨Nat.zero_le _, by show (3 : Nat) ≤ 4096; decide⟩ (by show (0 : Nat) ≤ 1; decide) (by show (1 : Nat) < 1000000000; decide) (by show (0 : Nat) ≤ 1; decide) (by show (0 : Nat) ≤ 3 * 128; decide) _ two_ 2 (of_decide_eq_true (by kernel_rfl)) (by decide) (by decide) hL 100 lt8c (by decide))
  clear hL hP1 hA1
  rw [cm8] at HC
  refine HC.out.mono ?_
  rintro e v2 ⟨rfl, hS⟩
  have HP2 := Lib.hid hS.1
  have HA2 := Lib.hid hS.2.1
  clear hS HC
  go_wp2_with fail
  refine (open_ok HP2.out 0 8 3 rfl (by decide) (by decide) (by decide) 100 lt8d (by decide)).mono ?_
  rintro e v3 ⟨K, hK, rfl, hP3, hA3, hk3⟩
  rw [op8] at hP3 hA3
  rw [op8]
  unfold openV
  rw [if_pos rfl]
  have HK3 := Lib.hid hA3
  have hb3 : Below w.heap.size w v3 := hP3.bel
  have hw3 := hb3.size
  have HBe := Lib.hid hb3
  have hj3 : At v3 J 87 (jn8c D).cells := (hk3 J rfl).trans HA2.out
  have HJ3 := Lib.hid hj3
  clear hj3
  clear hP3 hA3 hk3 HP2 HA2 hb3
  go_wp2_with fail
  refine (records_two K D v3 HK3.out).mono ?_
  rintro e v4 ⟨b4, a4, cap4, rfl, hL4⟩
  have HL4 := Lib.hid hL4
  have HBe4 := Lib.hid (HBe.out.trans (b4.mono hw3))
  have HJ4 := Lib.hid (HJ3.out.below b4 HJ3.out.lt)
  clear hL4 b4 HBe HJ3 HK3
  have hb4 := build_two (P := Try.prog) v4 39 9 (.string ⟨#[97]⟩) (.string ⟨#[98, 99]⟩) iw _ Try.underlying39 HI.out.1 HI.out.2.1 HI.out.2.2.1 rfl rfl
  have HB4 := Lib.hid hb4
  clear hb4
  go_wp2_with (with_reducible refine list_val rfl (run_build2_op 39 (.const (.string ⟨#[97]⟩)) (.const (.string ⟨#[98, 99]⟩)) rfl (.string ⟨#[97]⟩) (.string ⟨#[98, 99]⟩) (by kernel_rfl) (by kernel_rfl) HB4.out) ?_)
  have b5 := (Below.refl v4.heap.size v4).alloc (Nat.le_refl _) (.cells #[Value.string ⟨#[97]⟩, Value.string ⟨#[98, 99]⟩] 9)
  have hL5 := HL4.out.below b5
  have hM5 : Lst (v4.alloc (.cells #[Value.string ⟨#[97]⟩, Value.string ⟨#[98, 99]⟩] 9)) (some ⟨v4.heap.size, 0, none⟩) two_ := lst_two v4 [97] [98, 99]
  have hw4 := HBe4.out.size
  have HBe5 := Lib.hid (HBe4.out.trans (b5.mono hw4))
  have HJ5 := Lib.hid (HJ4.out.below b5 HJ4.out.lt)
  clear HB4 b5 HBe4 HJ4 HL4
  generalize (v4.alloc (.cells #[Value.string ⟨#[97]⟩, Value.string ⟨#[98, 99]⟩] 9)) = v5 at *
  have HT := Lib.hid (texts_any a4 _ two_ two_ cap4 2 (by decide) v5 hL5 hM5)
  rw [show decide (two_ = two_) = true from by decide] at HT
  clear hL5 hM5
  refine HT.out.mono ?_
  rintro e v6 ⟨rfl, b6⟩
  have hw5 := HBe5.out.size
  have HBe6 := Lib.hid (HBe5.out.trans (b6.mono hw5))
  have HJ6 := Lib.hid (HJ5.out.below b6 HJ5.out.lt)
  clear HT b6 HBe5 HJ5
  go_wp2_with fail
  refine (records_two J D v6 HJ6.out).mono ?_
  rintro e v7 ⟨b7, a7, cap7, rfl, hL7⟩
  have hw6 := HBe6.out.size
  have HL7 := Lib.hid hL7
  have HBe7 := Lib.hid (HBe6.out.trans (b7.mono hw6))
  clear hL7 b7 HBe6 HJ6
  have hb7 := build_two (P := Try.prog) v7 39 9 (.string ⟨#[97]⟩) (.string ⟨#[98, 99]⟩) iw _ Try.underlying39 HI.out.1 HI.out.2.1 HI.out.2.2.1 rfl rfl
  have HB7 := Lib.hid hb7
  clear hb7
  go_wp2_with (with_reducible refine list_val rfl (run_build2_op 39 (.const (.string ⟨#[97]⟩)) (.const (.string ⟨#[98, 99]⟩)) rfl (.string ⟨#[97]⟩) (.string ⟨#[98, 99]⟩) (by kernel_rfl) (by kernel_rfl) HB7.out) ?_)
  have b8 := (Below.refl v7.heap.size v7).alloc (Nat.le_refl _) (.cells #[Value.string ⟨#[97]⟩, Value.string ⟨#[98, 99]⟩] 9)
  have hL8 := HL7.out.below b8
  have hM8 : Lst (v7.alloc (.cells #[Value.string ⟨#[97]⟩, Value.string ⟨#[98, 99]⟩] 9)) (some ⟨v7.heap.size, 0, none⟩) two_ := lst_two v7 [97] [98, 99]
  have hw7 := HBe7.out.size
  have HBe8 := Lib.hid (HBe7.out.trans (b8.mono hw7))
  clear HB7 b8 HBe7 HL7
  generalize (v7.alloc (.cells #[Value.string ⟨#[97]⟩, Value.string ⟨#[98, 99]⟩] 9)) = v8 at *
  have HT := Lib.hid (texts_any a7 _ two_ two_ cap7 2 (by decide) v8 hL8 hM8)
  rw [show decide (two_ = two_) = true from by decide] at HT
  clear hL8 hM8
  refine HT.out.mono ?_
  rintro e v9 ⟨rfl, b9⟩
  have hw8 := HBe8.out.size
  have HBe9 := Lib.hid (HBe8.out.trans (b9.mono hw8))
  clear HT b9 HBe8
  go_wp2
  go_ret
  exact ⟨rfl, HBe9.out⟩
end
end Go.Proofs.Ytcgjkopdnhkdiaa

namespace Go.Proofs.Ytcgjkopdnhkdiaa
open Go.RowKit
set_option maxRecDepth 100000
def rO : List (List UInt8) := [List.replicate 554 111]
def rN : List (List UInt8) := [List.replicate 298 110]
def rM : List (List UInt8) := [List.replicate 526 109]
def rK : List (List UInt8) := [[107, 101, 112, 116]]
def plT (D : Nat) : Pl := ⟨D, 0, 9⟩
def jt0 (D : Nat) : Jn := ⟨⟨D, 0, 9⟩, ⟨1, 0, 0⟩, 0, [], false⟩
def t0 : Dk := (frO 20 0).2.1
theorem T0 (D : Nat) : frO 20 D = (0, t0, jt0 D) := by kernel_rfl
def jt1 (D : Nat) : Jn := ⟨⟨D, 0, 9⟩, ⟨2, 0, 556⟩, 1, rowsL rO, false⟩
def t1 : Dk := (commitL 20 t0 (jt0 0) rO).2.1
theorem T1 (D : Nat) : commitL 20 t0 (jt0 D) rO = (0, t1, jt1 D) := by kernel_rfl
def jt2 (D : Nat) : Jn := ⟨⟨D, 0, 9⟩, ⟨3, 1, 5⟩, 0, rowsL rK, false⟩
def t2 : Dk := (rewriteL 20 t1 (jt1 0) rK).2.1
theorem T2 (D : Nat) : rewriteL 20 t1 (jt1 D) rK = (0, t2, jt2 D) := by kernel_rfl
def t3 : Dk := t2.arm 6
def jt4 (D : Nat) : Jn := ⟨⟨D, 0, 9⟩, ⟨3, 1, 5⟩, 0, rowsL rK, true⟩
def t4 : Dk := (rewriteL 20 t3 (jt2 0) rN).2.1
theorem T4 (D : Nat) : rewriteL 20 t3 (jt2 D) rN = (11, t4, jt4 D) := by kernel_rfl
def t5 : Dk := t4.wake [205]
def jt6 (D : Nat) : Jn := (openL 20 t5 (plT D)).2.2
def t6 : Dk := (openL 20 t5 (plT 0)).2.1
theorem T6 (D : Nat) : openL 20 t5 (plT D) = (0, t6, jt6 D) := by kernel_rfl
theorem T6p (D : Nat) : (jt6 D).pl = plT D ∧ (jt6 D).stands ≤ 1 ∧ (jt6 D).hd.num < 1000000000 ∧ (jt6 D).hd.half ≤ 1 := ⟨by kernel_rfl, of_decide_eq_true (by kernel_rfl), of_decide_eq_true (by kernel_rfl), of_decide_eq_true (by kernel_rfl)⟩
theorem T6b (D : Nat) : (jt6 D).bytes = rowsL rK := by kernel_rfl
theorem tKb : textsL (rowsL rK) = some rK := by kernel_rfl
def t7 : Dk := t6.arm 8
def t8 : Dk := (rewriteL 20 t7 (jt6 0) rM).2.1
def jt8 (D : Nat) : Jn := { jt6 D with off := true }
theorem T8 (D : Nat) : rewriteL 20 t7 (jt6 D) rM = (11, t8, jt8 D) := by kernel_rfl
def t9 : Dk := t8.wake [142]
def jt10 (D : Nat) : Jn := (openL 20 t9 (plT D)).2.2
def t10 : Dk := (openL 20 t9 (plT 0)).2.1
theorem T10 (D : Nat) : openL 20 t9 (plT D) = (0, t10, jt10 D) := by kernel_rfl
theorem T10b (D : Nat) : (jt10 D).bytes = rowsL rK := by kernel_rfl
theorem ltTf : Lot 100 (Dk.fresh 20) := lot_of (by kernel_rfl) (by kernel_rfl)
theorem ltTs : Lot 100 (frS 20) := lot_of (by kernel_rfl) (by kernel_rfl)
theorem frF20 : (runs 20 (Dk.fresh 20) (fmtOps 0)).1 = 0 := by kernel_rfl
theorem ltT0 : Lot 100 t0 := lot_of (by kernel_rfl) (by kernel_rfl)
theorem ltT1 : Lot 100 t1 := lot_of (by kernel_rfl) (by kernel_rfl)
theorem ltT3 : Lot 100 t3 := lot_of (by kernel_rfl) (by kernel_rfl)
theorem ltT4 : Lot 100 t4 := lot_of (by kernel_rfl) (by kernel_rfl)
theorem ltT5 : Lot 100 t5 := lot_of (by kernel_rfl) (by kernel_rfl)
theorem ltT7 : Lot 100 t7 := lot_of (by kernel_rfl) (by kernel_rfl)
theorem ltT8 : Lot 100 t8 := lot_of (by kernel_rfl) (by kernel_rfl)
theorem ltT9 : Lot 100 t9 := lot_of (by kernel_rfl) (by kernel_rfl)
end Go.Proofs.Ytcgjkopdnhkdiaa

namespace Go.Proofs.Ytcgjkopdnhkdiaa
open Go.RowKit
set_option maxRecDepth 100000
theorem rep5_any (c : UInt8) (n : Nat) (w : World) (hn : n ≤ 1000000) :
    Calls Try.prog 36 #[.string ⟨#[c]⟩, .int .i64 n] w fun e w' => ∃ l, l = List.replicate n c ∧ e = .returned (.string (bs l)) ∧ Below w.heap.size w w' := by
  refine (Try.strings_Repeat ⟨#[c]⟩ n w (by omega) (by show 1 * n ≤ _; omega)).mono fun e w' ⟨he, hb⟩ => ⟨_, rfl, ?_, hb⟩
  rw [he]
  have : ∀ k, Lib.repeatL [c] k = List.replicate k c := by
    intro k
    induction k with
    | zero => rfl
    | succ k ih => simp_all [Lib.repeatL, List.replicate_succ]
  rw [show (⟨#[c]⟩ : ByteArray).data.toList = [c] from rfl, this]
  rfl
theorem records_kept (J : Nat) (j : Jn) (hb : j.bytes = rowsL rK) (w : World) (hJ : At w J 87 j.cells) : Calls Try.prog 31 #[.pointer (some ⟨J, 0, none⟩)] w fun e w' => Below w.heap.size w w' ∧ ∃ a cap, e = .returned (.slice a 1 cap) ∧ Lst w' a rK := by
  refine (records_any J j w hJ (by rw [hb]; exact of_decide_eq_true (by kernel_rfl))).mono ?_
  rintro e w' ⟨hb2, v, rfl, hT⟩
  rw [hb, tKb] at hT
  obtain ⟨a, cap, rfl, hL⟩ := hT.lst
  exact ⟨hb2, a, cap, rfl, hL⟩
theorem one_le {l : List UInt8} {n : Nat} {c : UInt8} (h : l = List.replicate n c) (hn : n ≤ 1000000) : ∀ t ∈ [l], t.length ≤ 1000000 := by
  intro t ht
  rw [List.mem_singleton] at ht
  rw [ht, h, List.length_replicate]
  exact hn
theorem At.kept {w w' : World} {B : Nat} {T : TypeId} {l : List Value} (h : At w B T l) (hk : w'.heap[B]? = w.heap[B]?) : At w' B T l := hk.trans h
section
set_option maxHeartbeats 16000000
theorem torn_walk (w : World) : Calls Try.prog 6 #[] w fun e w' => e = .returned (.bool true) ∧ Below w.heap.size w w' := by
  obtain ⟨iw, hiw, hz0, hz1, hz2⟩ := info_parts info9
  have HI := Lib.hid (And.intro hiw (And.intro hz0 (And.intro hz1 hz2)))
  clear hiw hz0 hz1 hz2
  go_enter Try.func6, Try.ntmps6
  go_wp2_with fail
  refine (fresh_any w w (Below.refl _ _) 20 (by decide) (by decide) ltTf frF20 ltTs (fun D => by rw [T0])).mono ?_
  rintro e v ⟨D, J, hJ0, rfl, hP, hA⟩
  rw [T0] at hP hA
  have HP := Lib.hid hP
  have HA := Lib.hid hA
  have HJ0 := Lib.hid hJ0
  clear hP hA hJ0
  go_wp2_with fail
  refine (rep5_any 111 554 v (by decide)).mono ?_
  rintro e v1 ⟨l1, hl, rfl, b⟩
  have hP := (HP.out.below b).1
  have hA := HA.out.below b HA.out.lt
  clear HP HA
  have HP := Lib.hid hP
  have HA := Lib.hid hA
  have HL1 := Lib.hid hl
  clear hP hA hl b
  have HB1 := Lib.hid (build_cell (P := Try.prog) v1 39 9 (.string (bs l1)) iw _ Try.underlying39 HI.out.1 HI.out.2.1 HI.out.2.2.1 rfl)
  go_wp2_with (with_reducible refine list_val rfl (run_build_op 39 (.tmp 15) rfl (.string (bs l1)) (by kernel_rfl) HB1.out) ?_)
  have hL : Lst (v1.alloc (.cells #[Value.string (bs l1)] 9)) (some ⟨v1.heap.size, 0, none⟩) [l1] := lst_one v1 l1
  have bA := (Below.refl v1.heap.size v1).alloc (Nat.le_refl _) (.cells #[Value.string (bs l1)] 9)
  have hP := (HP.out.below bA).1
  have hA := HA.out.below bA HA.out.lt
  clear HP HA HB1 bA
  generalize (v1.alloc (.cells #[Value.string (bs l1)] 9)) = x1 at *
  have HC := Lib.hid (commit_any hP J (jt0 D) hA rfl HJ0.out rfl ⟨Nat.zero_le _, by show (9 : Nat) ≤ 4096; decide⟩ (by show (0 : Nat) ≤ 1; decide) (by show (1 : Nat) < 1000000000; decide) (by show (0 : Nat) ≤ 1; decide) (by show (0 : Nat) ≤ 9 * 128; decide) _ [l1] 1 (by rw [HL1.out]; exact of_decide_eq_true (by kernel_rfl)) (by show (1 : Nat) ≤ 1000000; decide) (one_le HL1.out (by decide)) hL 100 ltT0 (by decide))
  clear hL hP hA
  rw [show commitL 20 t0 (jt0 D) [l1] = (0, t1, jt1 D) from by rw [HL1.out]; exact T1 D] at HC
  refine HC.out.mono ?_
  rintro e y1 ⟨rfl, hS⟩
  have HP := Lib.hid hS.1
  have HA := Lib.hid hS.2.1
  clear hS HC
  have HB2 := Lib.hid (build_cell (P := Try.prog) y1 39 9 (.string ⟨#[107, 101, 112, 116]⟩) iw _ Try.underlying39 HI.out.1 HI.out.2.1 HI.out.2.2.1 rfl)
  go_wp2_with (with_reducible refine list_val rfl (run_build_op 39 (.const (.string ⟨#[107, 101, 112, 116]⟩)) rfl (.string ⟨#[107, 101, 112, 116]⟩) (by kernel_rfl) HB2.out) ?_)
  have hL : Lst (y1.alloc (.cells #[Value.string ⟨#[107, 101, 112, 116]⟩] 9)) (some ⟨y1.heap.size, 0, none⟩) rK := lst_one y1 [107, 101, 112, 116]
  have bA := (Below.refl y1.heap.size y1).alloc (Nat.le_refl _) (.cells #[Value.string ⟨#[107, 101, 112, 116]⟩] 9)
  have hP := (HP.out.below bA).1
  have hA := HA.out.below bA HA.out.lt
  clear HP HA HB2 bA
  generalize (y1.alloc (.cells #[Value.string ⟨#[107, 101, 112, 116]⟩] 9)) = x2 at *
  have HC := Lib.hid (rewrite_any hP J (jt1 D) hA rfl HJ0.out rfl ⟨Nat.zero_le _, by show (9 : Nat) ≤ 4096; decide⟩ (by show (1 : Nat) ≤ 1; decide) (by show (2 : Nat) < 1000000000; decide) (by show (0 : Nat) ≤ 1; decide) _ rK 1 (of_decide_eq_true (by kernel_rfl)) (by show (1 : Nat) ≤ 1000000; decide) (by decide) hL 100 ltT1 (by decide))
  clear hL hP hA
  rw [show rewriteL 20 t1 (jt1 D) rK = (0, t2, jt2 D) from T2 D] at HC
  refine HC.out.mono ?_
  rintro e y2 ⟨rfl, hS⟩
  have HP := Lib.hid hS.1
  have HA := Lib.hid hS.2.1
  clear hS HC
  go_wp2_with fail
  refine (p_arm HP.out 6 (by decide) (by decide)).mono ?_
  rintro e v3 ⟨rfl, hp⟩
  have hA := At.kept HA.out (hp.2 _ rfl)
  clear HP HA
  have HP := Lib.hid hp.1
  have HA := Lib.hid hA
  clear hp hA
  go_wp2_with fail
  refine (rep5_any 110 298 v3 (by decide)).mono ?_
  rintro e v4 ⟨l4, hl, rfl, b⟩
  have hP := (HP.out.below b).1
  have hA := HA.out.below b HA.out.lt
  clear HP HA
  have HP := Lib.hid hP
  have HA := Lib.hid hA
  have HL4 := Lib.hid hl
  clear hP hA hl b
  have HB4 := Lib.hid (build_cell (P := Try.prog) v4 39 9 (.string (bs l4)) iw _ Try.underlying39 HI.out.1 HI.out.2.1 HI.out.2.2.1 rfl)
  go_wp2_with (with_reducible refine list_val rfl (run_build_op 39 (.tmp 29) rfl (.string (bs l4)) (by kernel_rfl) HB4.out) ?_)
  have hL : Lst (v4.alloc (.cells #[Value.string (bs l4)] 9)) (some ⟨v4.heap.size, 0, none⟩) [l4] := lst_one v4 l4
  have bA := (Below.refl v4.heap.size v4).alloc (Nat.le_refl _) (.cells #[Value.string (bs l4)] 9)
  have hP := (HP.out.below bA).1
  have hA := HA.out.below bA HA.out.lt
  clear HP HA HB4 bA
  generalize (v4.alloc (.cells #[Value.string (bs l4)] 9)) = x4 at *
  have HC := Lib.hid (rewrite_any hP J (jt2 D) hA rfl HJ0.out rfl ⟨Nat.zero_le _, by show (9 : Nat) ≤ 4096; decide⟩ (by show (0 : Nat) ≤ 1; decide) (by show (3 : Nat) < 1000000000; decide) (by show (1 : Nat) ≤ 1; decide) _ [l4] 1 (by rw [HL4.out]; exact of_decide_eq_true (by kernel_rfl)) (by show (1 : Nat) ≤ 1000000; decide) (one_le HL4.out (by decide)) hL 100 ltT3 (by decide))
  clear hL hP hA
  rw [show rewriteL 20 (t2.arm 6) (jt2 D) [l4] = (11, t4, jt4 D) from by rw [HL4.out]; exact T4 D] at HC
  refine HC.out.mono ?_
  rintro e y4 ⟨rfl, hS⟩
  have HP := Lib.hid hS.1
  have HA := Lib.hid hS.2.1
  clear hS HC
  go_wp2_with fail
  have a5 := At.new y4 #[.int .u8 205] 5
  have hPa := HP.out.alloc (.cells #[.int .u8 205] 5)
  have hA := HA.out.alloc (.cells #[.int .u8 205] 5)
  have hC := p_wake hPa (some ⟨y4.heap.size, 0, none⟩) [205] 1 (by simp) (by simp) (fun j c hj => ⟨⟨y4.heap.size, 0, none⟩, rfl, by
    have hj0 : j < 1 := (List.getElem?_eq_some_iff.1 hj).1
    obtain rfl : j = 0 := by omega
    cases hj
    exact ⟨a5.cell 0 _ rfl, .inr (.inr rfl)⟩⟩) (Nat.le_trans ltT4.ws (by decide))
  have HC := Lib.hid hC
  clear HP HA hPa a5 hC
  refine HC.out.mono ?_
  rintro e v5 ⟨rfl, hp⟩
  have hA2 := At.kept hA (hp.2 _ (.inl rfl))
  have HP := Lib.hid (Priv.more (av2 := fun i => i = J) hp.1 (fun i hi => .inr (.inl hi)))
  have HA := Lib.hid hA2
  clear hA hA2 hp HC
  go_wp2_with fail
  refine (open_ok HP.out 0 20 9 rfl (by decide) (by decide) (by decide) 100 ltT5 (by decide)).mono ?_
  rintro e v6 ⟨K, hK, rfl, hP, hA, _⟩
  rw [show openL 20 (t4.wake [205]) ⟨D, 0, 9⟩ = _ from T6 D] at hP hA
  rw [show openL 20 (t4.wake [205]) ⟨D, 0, 9⟩ = _ from T6 D]
  unfold openV
  rw [if_pos rfl]
  have hz := HP.out.size
  have HJK := Lib.hid (Nat.le_trans hz hK)
  clear HP HA hz hK
  have HP := Lib.hid (Priv.more (av2 := fun i => i = K) hP (fun i hi => .inr (.inr hi)))
  have HA := Lib.hid hA
  clear hP hA
  go_wp2_with fail
  refine (records_kept K (jt6 D) (T6b D) v6 HA.out).mono ?_
  rintro e r6 ⟨b, a6, cap6, rfl, hL⟩
  have hP := (HP.out.below b).1
  have hA := HA.out.below b HA.out.lt
  clear HP HA
  have HP := Lib.hid hP
  have HA := Lib.hid hA
  have HLr := Lib.hid hL
  clear hP hA hL b
  have HB6 := Lib.hid (build_cell (P := Try.prog) r6 39 9 (.string ⟨#[107, 101, 112, 116]⟩) iw _ Try.underlying39 HI.out.1 HI.out.2.1 HI.out.2.2.1 rfl)
  go_wp2_with (with_reducible refine list_val rfl (run_build_op 39 (.const (.string ⟨#[107, 101, 112, 116]⟩)) rfl (.string ⟨#[107, 101, 112, 116]⟩) (by kernel_rfl) HB6.out) ?_)
  have hM : Lst (r6.alloc (.cells #[Value.string ⟨#[107, 101, 112, 116]⟩] 9)) (some ⟨r6.heap.size, 0, none⟩) rK := lst_one r6 [107, 101, 112, 116]
  have bA := (Below.refl r6.heap.size r6).alloc (Nat.le_refl _) (.cells #[Value.string ⟨#[107, 101, 112, 116]⟩] 9)
  have hL := HLr.out.below bA
  have hP := (HP.out.below bA).1
  have hA := HA.out.below bA HA.out.lt
  clear HP HA HB6 HLr bA
  generalize (r6.alloc (.cells #[Value.string ⟨#[107, 101, 112, 116]⟩] 9)) = x6 at *
  have HT := Lib.hid (texts_any a6 _ rK rK cap6 1 (by decide) x6 hL hM)
  rw [show decide (rK = rK) = true from decide_eq_true rfl] at HT
  have HP := Lib.hid hP
  have HA := Lib.hid hA
  clear hL hM hP hA
  refine HT.out.mono ?_
  rintro e z6 ⟨rfl, b⟩
  have hP := (HP.out.below b).1
  have hA := HA.out.below b HA.out.lt
  clear HP HA HT
  have HP := Lib.hid hP
  have HA := Lib.hid hA
  clear hP hA b
  go_wp2_with fail
  refine (p_arm HP.out 8 (by decide) (by decide)).mono ?_
  rintro e v7 ⟨rfl, hp⟩
  have hA := At.kept HA.out (hp.2 _ rfl)
  clear HP HA
  have HP := Lib.hid hp.1
  have HA := Lib.hid hA
  clear hp hA
  go_wp2_with fail
  refine (rep5_any 109 526 v7 (by decide)).mono ?_
  rintro e v8 ⟨l8, hl, rfl, b⟩
  have hP := (HP.out.below b).1
  have hA := HA.out.below b HA.out.lt
  clear HP HA
  have HP := Lib.hid hP
  have HA := Lib.hid hA
  have HL8 := Lib.hid hl
  clear hP hA hl b
  have HB8 := Lib.hid (build_cell (P := Try.prog) v8 39 9 (.string (bs l8)) iw _ Try.underlying39 HI.out.1 HI.out.2.1 HI.out.2.2.1 rfl)
  go_wp2_with (with_reducible refine list_val rfl (run_build_op 39 (.tmp 57) rfl (.string (bs l8)) (by kernel_rfl) HB8.out) ?_)
  have hL : Lst (v8.alloc (.cells #[Value.string (bs l8)] 9)) (some ⟨v8.heap.size, 0, none⟩) [l8] := lst_one v8 l8
  have bA := (Below.refl v8.heap.size v8).alloc (Nat.le_refl _) (.cells #[Value.string (bs l8)] 9)
  have hP := (HP.out.below bA).1
  have hA := HA.out.below bA HA.out.lt
  clear HP HA HB8 bA
  generalize (v8.alloc (.cells #[Value.string (bs l8)] 9)) = x8 at *
  have HC := Lib.hid (rewrite_any hP K (jt6 D) hA rfl HJK.out (by rw [(T6p D).1]; rfl) (by rw [(T6p D).1]; exact ⟨Nat.zero_le _, by show (9 : Nat) ≤ 4096; decide⟩) (T6p D).2.1 (T6p D).2.2.1 (T6p D).2.2.2 _ [l8] 1 (by rw [HL8.out]; exact of_decide_eq_true (by kernel_rfl)) (by show (1 : Nat) ≤ 1000000; decide) (one_le HL8.out (by decide)) hL 100 ltT7 (by decide))
  clear hL hP hA
  rw [show rewriteL 20 (t6.arm 8) (jt6 D) [l8] = (11, t8, jt8 D) from by rw [HL8.out]; exact T8 D] at HC
  refine HC.out.mono ?_
  rintro e y8 ⟨rfl, hS⟩
  have HP := Lib.hid hS.1
  have HA := Lib.hid hS.2.1
  clear hS HC
  go_wp2_with fail
  have a5 := At.new y8 #[.int .u8 142] 5
  have hPa := HP.out.alloc (.cells #[.int .u8 142] 5)
  have hA := HA.out.alloc (.cells #[.int .u8 142] 5)
  have hC := p_wake hPa (some ⟨y8.heap.size, 0, none⟩) [142] 1 (by simp) (by simp) (fun j c hj => ⟨⟨y8.heap.size, 0, none⟩, rfl, by
    have hj0 : j < 1 := (List.getElem?_eq_some_iff.1 hj).1
    obtain rfl : j = 0 := by omega
    cases hj
    exact ⟨a5.cell 0 _ rfl, .inr (.inr rfl)⟩⟩) (Nat.le_trans ltT8.ws (by decide))
  have HC := Lib.hid hC
  clear HP HA hPa a5 hC
  refine HC.out.mono ?_
  rintro e v9 ⟨rfl, hp⟩
  have hA2 := At.kept hA (hp.2 _ (.inl rfl))
  have HP := Lib.hid (Priv.more (av2 := fun i => i = K) hp.1 (fun i hi => .inr (.inl hi)))
  have HA := Lib.hid hA2
  clear hA hA2 hp HC
  go_wp2_with fail
  refine (open_ok HP.out 0 20 9 rfl (by decide) (by decide) (by decide) 100 ltT9 (by decide)).mono ?_
  rintro e v10 ⟨X, hK, rfl, hP, hA, _⟩
  rw [show openL 20 (t8.wake [142]) ⟨D, 0, 9⟩ = _ from T10 D] at hP hA
  rw [show openL 20 (t8.wake [142]) ⟨D, 0, 9⟩ = _ from T10 D]
  unfold openV
  rw [if_pos rfl]
  have hz := HP.out.size
  have HJX := Lib.hid (Nat.le_trans hz hK)
  clear HP HA hz hK
  have HP := Lib.hid (Priv.more (av2 := fun i => i = X) hP (fun i hi => .inr (.inr hi)))
  have HA := Lib.hid hA
  clear hP hA
  go_wp2_with fail
  refine (records_kept X (jt10 D) (T10b D) v10 HA.out).mono ?_
  rintro e r10 ⟨b, a10, cap10, rfl, hL⟩
  have hP := (HP.out.below b).1
  have hA := HA.out.below b HA.out.lt
  clear HP HA
  have HP := Lib.hid hP
  have HA := Lib.hid hA
  have HLr := Lib.hid hL
  clear hP hA hL b
  have HB10 := Lib.hid (build_cell (P := Try.prog) r10 39 9 (.string ⟨#[107, 101, 112, 116]⟩) iw _ Try.underlying39 HI.out.1 HI.out.2.1 HI.out.2.2.1 rfl)
  go_wp2_with (with_reducible refine list_val rfl (run_build_op 39 (.const (.string ⟨#[107, 101, 112, 116]⟩)) rfl (.string ⟨#[107, 101, 112, 116]⟩) (by kernel_rfl) HB10.out) ?_)
  have hM : Lst (r10.alloc (.cells #[Value.string ⟨#[107, 101, 112, 116]⟩] 9)) (some ⟨r10.heap.size, 0, none⟩) rK := lst_one r10 [107, 101, 112, 116]
  have bA := (Below.refl r10.heap.size r10).alloc (Nat.le_refl _) (.cells #[Value.string ⟨#[107, 101, 112, 116]⟩] 9)
  have hL := HLr.out.below bA
  have hP := (HP.out.below bA).1
  have hA := HA.out.below bA HA.out.lt
  clear HP HA HB10 HLr bA
  generalize (r10.alloc (.cells #[Value.string ⟨#[107, 101, 112, 116]⟩] 9)) = x10 at *
  have HT := Lib.hid (texts_any a10 _ rK rK cap10 1 (by decide) x10 hL hM)
  rw [show decide (rK = rK) = true from decide_eq_true rfl] at HT
  have HP := Lib.hid hP
  have HA := Lib.hid hA
  clear hL hM hP hA
  refine HT.out.mono ?_
  rintro e z10 ⟨rfl, b⟩
  have hP := (HP.out.below b).1
  have hA := HA.out.below b HA.out.lt
  clear HP HA HT
  have HP := Lib.hid hP
  have HA := Lib.hid hA
  clear hP hA b
  have hB := HP.out.bel
  have HBe := Lib.hid hB
  have hzz := hB.size
  clear HP HA hB
  go_wp2_with fail
  refine (works5_any z10).mono ?_
  rintro e v11 ⟨rfl, b⟩
  have HBe2 := Lib.hid (HBe.out.trans (b.mono hzz))
  clear b HBe
  go_wp2
  go_ret
  exact ⟨rfl, HBe2.out⟩
end
end Go.Proofs.Ytcgjkopdnhkdiaa
