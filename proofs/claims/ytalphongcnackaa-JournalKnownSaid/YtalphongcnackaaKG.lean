/- Kf, Kg, one behind the other. -/
import Derived.Test.YtalphongcnackaaKE
namespace Go.Proofs.Ytalphongcnackaa
open Go.RowKit
set_option maxRecDepth 100000
def pK (D : Nat) : Pl := ⟨D, 1, 3⟩
def q_a : List (List UInt8) := [[97], [98, 99]]
def q_z : List (List UInt8) := [[122]]
def q_x1 : List (List UInt8) := [List.replicate 381 120]
def q_x0 : List (List UInt8) := [List.replicate 380 120]
def q_nil : List (List UInt8) := []
def q_e : List (List UInt8) := [[]]
def q_y : List (List UInt8) := [[121], []]
def q_off : List (List UInt8) := [[111, 102, 102]]
def q_on : List (List UInt8) := [[111, 110]]
def u0 : Dk := Dk.fresh 10
theorem ltu0 : Lot 100 u0 := lot_of (by kernel_rfl) (by kernel_rfl)
def u1 : Dk := (openL 10 u0 (pK 0)).2.1
theorem ltu1 : Lot 100 u1 := lot_of (by kernel_rfl) (by kernel_rfl)
theorem O1 (D : Nat) : (openL 10 u0 (pK D)).1 = 12 ∧ (openL 10 u0 (pK D)).2.1 = u1 := ⟨by kernel_rfl, by kernel_rfl⟩
def u2 : Dk := (runs 10 u1 (fmtOps 1)).2
theorem ltu2 : Lot 100 u2 := lot_of (by kernel_rfl) (by kernel_rfl)
theorem F1 : (runs 10 u1 (fmtOps 1)).1 = 0 := by kernel_rfl
def j0 (D : Nat) : Jn := (openL 10 u2 (pK D)).2.2
def u3 : Dk := (openL 10 u2 (pK 0)).2.1
theorem ltu3 : Lot 100 u3 := lot_of (by kernel_rfl) (by kernel_rfl)
theorem O2 (D : Nat) : openL 10 u2 (pK D) = (0, u3, j0 D) := by kernel_rfl
theorem fj0 (D : Nat) : (j0 D).pl = pK D ∧ (j0 D).stands ≤ 1 ∧ (j0 D).hd.num < 1000000000 ∧ (j0 D).hd.half ≤ 1 ∧ (j0 D).bytes.length ≤ 3 * 128 := ⟨by kernel_rfl, of_decide_eq_true (by kernel_rfl), of_decide_eq_true (by kernel_rfl), of_decide_eq_true (by kernel_rfl), of_decide_eq_true (by kernel_rfl)⟩
def j1 (D : Nat) : Jn := (commitL 10 u3 (j0 D) q_a).2.2
def u4 : Dk := (commitL 10 u3 (j0 0) q_a).2.1
theorem ltu4 : Lot 100 u4 := lot_of (by kernel_rfl) (by kernel_rfl)
theorem C1 (D : Nat) : commitL 10 u3 (j0 D) q_a = (0, u4, j1 D) := by kernel_rfl
theorem fj1 (D : Nat) : (j1 D).pl = pK D ∧ (j1 D).stands ≤ 1 ∧ (j1 D).hd.num < 1000000000 ∧ (j1 D).hd.half ≤ 1 ∧ (j1 D).bytes.length ≤ 3 * 128 := ⟨by kernel_rfl, of_decide_eq_true (by kernel_rfl), of_decide_eq_true (by kernel_rfl), of_decide_eq_true (by kernel_rfl), of_decide_eq_true (by kernel_rfl)⟩
def j2 (D : Nat) : Jn := (rewriteL 10 u4 (j1 D) q_z).2.2
def u5 : Dk := (rewriteL 10 u4 (j1 0) q_z).2.1
theorem ltu5 : Lot 100 u5 := lot_of (by kernel_rfl) (by kernel_rfl)
theorem R1 (D : Nat) : rewriteL 10 u4 (j1 D) q_z = (0, u5, j2 D) := by kernel_rfl
theorem fj2 (D : Nat) : (j2 D).pl = pK D ∧ (j2 D).stands ≤ 1 ∧ (j2 D).hd.num < 1000000000 ∧ (j2 D).hd.half ≤ 1 ∧ (j2 D).bytes.length ≤ 3 * 128 := ⟨by kernel_rfl, of_decide_eq_true (by kernel_rfl), of_decide_eq_true (by kernel_rfl), of_decide_eq_true (by kernel_rfl), of_decide_eq_true (by kernel_rfl)⟩
theorem C2 (D : Nat) : commitL 10 u5 (j2 D) q_x1 = (10, u5, j2 D) := by kernel_rfl
theorem C3 (D : Nat) : commitL 10 u5 (j2 D) q_nil = (0, u5, j2 D) := by kernel_rfl
def j3 (D : Nat) : Jn := (commitL 10 u5 (j2 D) q_x0).2.2
def u6 : Dk := (commitL 10 u5 (j2 0) q_x0).2.1
theorem ltu6 : Lot 100 u6 := lot_of (by kernel_rfl) (by kernel_rfl)
theorem C4 (D : Nat) : commitL 10 u5 (j2 D) q_x0 = (0, u6, j3 D) := by kernel_rfl
theorem fj3 (D : Nat) : (j3 D).pl = pK D ∧ (j3 D).stands ≤ 1 ∧ (j3 D).hd.num < 1000000000 ∧ (j3 D).hd.half ≤ 1 ∧ (j3 D).bytes.length ≤ 3 * 128 := ⟨by kernel_rfl, of_decide_eq_true (by kernel_rfl), of_decide_eq_true (by kernel_rfl), of_decide_eq_true (by kernel_rfl), of_decide_eq_true (by kernel_rfl)⟩
theorem C5 (D : Nat) : commitL 10 u6 (j3 D) q_e = (10, u6, j3 D) := by kernel_rfl
def j4 (D : Nat) : Jn := (rewriteL 10 u6 (j3 D) q_y).2.2
def u7 : Dk := (rewriteL 10 u6 (j3 0) q_y).2.1
theorem ltu7 : Lot 100 u7 := lot_of (by kernel_rfl) (by kernel_rfl)
theorem R2 (D : Nat) : rewriteL 10 u6 (j3 D) q_y = (0, u7, j4 D) := by kernel_rfl
theorem fj4 (D : Nat) : (j4 D).pl = pK D ∧ (j4 D).stands ≤ 1 ∧ (j4 D).hd.num < 1000000000 ∧ (j4 D).hd.half ≤ 1 ∧ (j4 D).bytes.length ≤ 3 * 128 := ⟨by kernel_rfl, of_decide_eq_true (by kernel_rfl), of_decide_eq_true (by kernel_rfl), of_decide_eq_true (by kernel_rfl), of_decide_eq_true (by kernel_rfl)⟩
def jk0 (D : Nat) : Jn := (openL 10 u7 (pK D)).2.2
def u8 : Dk := (openL 10 u7 (pK 0)).2.1
theorem ltu8 : Lot 100 u8 := lot_of (by kernel_rfl) (by kernel_rfl)
theorem O3 (D : Nat) : openL 10 u7 (pK D) = (0, u8, jk0 D) := by kernel_rfl
theorem fjk0 (D : Nat) : (jk0 D).pl = pK D ∧ (jk0 D).stands ≤ 1 ∧ (jk0 D).hd.num < 1000000000 ∧ (jk0 D).hd.half ≤ 1 ∧ (jk0 D).bytes.length ≤ 3 * 128 := ⟨by kernel_rfl, of_decide_eq_true (by kernel_rfl), of_decide_eq_true (by kernel_rfl), of_decide_eq_true (by kernel_rfl), of_decide_eq_true (by kernel_rfl)⟩
def u9 : Dk := u8.cut
theorem ltu9 : Lot 100 u9 := lot_of (by kernel_rfl) (by kernel_rfl)
def j5 (D : Nat) : Jn := (commitL 10 u9 (j4 D) q_off).2.2
def u10 : Dk := (commitL 10 u9 (j4 0) q_off).2.1
theorem ltu10 : Lot 100 u10 := lot_of (by kernel_rfl) (by kernel_rfl)
theorem C6 (D : Nat) : commitL 10 u9 (j4 D) q_off = (11, u10, j5 D) := by kernel_rfl
theorem fj5 (D : Nat) : (j5 D).pl = pK D ∧ (j5 D).stands ≤ 1 ∧ (j5 D).hd.num < 1000000000 ∧ (j5 D).hd.half ≤ 1 ∧ (j5 D).bytes.length ≤ 3 * 128 := ⟨by kernel_rfl, of_decide_eq_true (by kernel_rfl), of_decide_eq_true (by kernel_rfl), of_decide_eq_true (by kernel_rfl), of_decide_eq_true (by kernel_rfl)⟩
def u11 : Dk := (openL 10 u10 (pK 0)).2.1
theorem ltu11 : Lot 100 u11 := lot_of (by kernel_rfl) (by kernel_rfl)
theorem O4 (D : Nat) : (openL 10 u10 (pK D)).1 = 11 ∧ (openL 10 u10 (pK D)).2.1 = u11 := ⟨by kernel_rfl, by kernel_rfl⟩
def u12 : Dk := u11.wake []
theorem ltu12 : Lot 100 u12 := lot_of (by kernel_rfl) (by kernel_rfl)
theorem C7 (D : Nat) : commitL 10 u12 (j5 D) q_off = (11, u12, j5 D) := by kernel_rfl
def jk1 (D : Nat) : Jn := (commitL 10 u12 (jk0 D) q_on).2.2
def u13 : Dk := (commitL 10 u12 (jk0 0) q_on).2.1
theorem ltu13 : Lot 100 u13 := lot_of (by kernel_rfl) (by kernel_rfl)
theorem C8 (D : Nat) : commitL 10 u12 (jk0 D) q_on = (0, u13, jk1 D) := by kernel_rfl
theorem fjk1 (D : Nat) : (jk1 D).pl = pK D ∧ (jk1 D).stands ≤ 1 ∧ (jk1 D).hd.num < 1000000000 ∧ (jk1 D).hd.half ≤ 1 ∧ (jk1 D).bytes.length ≤ 3 * 128 := ⟨by kernel_rfl, of_decide_eq_true (by kernel_rfl), of_decide_eq_true (by kernel_rfl), of_decide_eq_true (by kernel_rfl), of_decide_eq_true (by kernel_rfl)⟩
theorem tx_j0 (D : Nat) : textsL (j0 D).bytes = some [] := by kernel_rfl
theorem tx_j2 (D : Nat) : textsL (j2 D).bytes = some q_z := by kernel_rfl
theorem tx_jk0 (D : Nat) : textsL (jk0 D).bytes = some q_y := by kernel_rfl
theorem tx_j5 (D : Nat) : textsL (j5 D).bytes = some q_y := by kernel_rfl
theorem rm_j0 (D : Nat) : ((((j0 D).pl.span * 128 - (j0 D).bytes.length : Nat) : Int)) = 384 := by kernel_rfl
theorem rm_j1 (D : Nat) : ((((j1 D).pl.span * 128 - (j1 D).bytes.length : Nat) : Int)) = 379 := by kernel_rfl
theorem rm_j2 (D : Nat) : ((((j2 D).pl.span * 128 - (j2 D).bytes.length : Nat) : Int)) = 382 := by kernel_rfl
theorem rm_j3 (D : Nat) : ((((j3 D).pl.span * 128 - (j3 D).bytes.length : Nat) : Int)) = 0 := by kernel_rfl
end Go.Proofs.Ytalphongcnackaa

namespace Go.Proofs.Ytalphongcnackaa
open Go.RowKit
set_option maxRecDepth 100000
theorem records_is (J : Nat) (j : Jn) (ts : List (List UInt8)) (n : Nat) (hn : ts.length = n) (ht : textsL j.bytes = some ts) (hl : j.bytes.length ≤ 3 * 128) (w : World) (hJ : At w J 87 j.cells) : Calls Try.prog 31 #[.pointer (some ⟨J, 0, none⟩)] w fun e w' => Below w.heap.size w w' ∧ ∃ a cap, e = .returned (.slice a n cap) ∧ Lst w' a ts := by
  refine (records_any J j w hJ (by omega)).mono ?_
  rintro e w' ⟨hb2, v, rfl, hT⟩
  rw [ht] at hT
  obtain ⟨a, cap, rfl, hL⟩ := hT.lst
  exact ⟨hb2, a, cap, by rw [← hn]; rfl, hL⟩
theorem room_is (J : Nat) (j : Jn) (D : Nat) (hp : j.pl = pK D) (r : Int) (hr : ((j.pl.span * 128 - j.bytes.length : Nat) : Int) = r) (hl : j.bytes.length ≤ 3 * 128) (w : World) (hJ : At w J 87 j.cells) : Calls Try.prog 34 #[.pointer (some ⟨J, 0, none⟩)] w fun e w' => e = .returned (.int .i64 r) ∧ Below w.heap.size w w' := by
  refine (room_any J j w hJ (by rw [hp]; exact ⟨by show (1 : Nat) ≤ 4096; decide, by show (3 : Nat) ≤ 4096; decide⟩) (by rw [hp]; exact hl)).mono ?_
  rintro e w' ⟨rfl, b⟩
  exact ⟨by rw [hr], b⟩
theorem lst_nil (w : World) : Lst w none [] := fun j t h => by simp at h
section
set_option maxHeartbeats 16000000
theorem known_walk (w : World) : Calls Try.prog 7 #[] w fun e w' => e = .returned (.bool true) ∧ Below w.heap.size w w' := by
  obtain ⟨iw, hiw, hz0, hz1, hz2⟩ := info_parts info9
  have HI := Lib.hid (And.intro hiw (And.intro hz0 (And.intro hz1 hz2)))
  clear hiw hz0 hz1 hz2
  go_enter Try.func7, Try.ntmps7
  go_wp2_with fail
  refine (p_new w w (Below.refl _ _) none_ (fun _ h => h.elim) 10 (by decide) (by decide)).mono ?_
  rintro e w0 ⟨D, rfl, hD, h⟩
  have HP := Lib.hid (show Priv w w0 none_ 10 D u0 from h.1)
  clear h hD
  go_wp2_with fail
  refine (open_ok HP.out 1 8 3 rfl (by decide) (by decide) (by decide) 100 ltu0 (by decide)).mono ?_
  rintro e v1 ⟨X0, hge, rfl, hP, hA, hk⟩
  rw [show (openL 10 u0 ⟨D, 1, 3⟩).2.1 = _ from (O1 D).2] at hP
  rw [show (openL 10 u0 ⟨D, 1, 3⟩).1 = _ from (O1 D).1]
  unfold openV
  rw [if_neg (by decide)]
  clear hA
  have hP2 := Priv.more (av2 := none_) hP (fun i hi => .inr (.inl hi))
  clear hP hge hk
  have hP := hP2
  clear hP2
  clear HP 
  have HP := Lib.hid hP
  clear hP 
  go_wp2_with fail
  refine (format_ok HP.out 1 8 100 (by decide) (by decide) (by decide) ltu1 (by decide)).mono ?_
  rintro e v2 ⟨rfl, hp⟩
  rw [F1]
  clear HP
  have HP := Lib.hid (show Priv w v2 none_ 10 D u2 from hp.1)
  clear hp
  go_wp2_with fail
  refine (open_ok HP.out 1 8 3 rfl (by decide) (by decide) (by decide) 100 ltu2 (by decide)).mono ?_
  rintro e v3 ⟨J, hge, rfl, hP, hA, hk⟩
  rw [show openL 10 u2 ⟨D, 1, 3⟩ = _ from O2 D] at hP hA
  rw [show openL 10 u2 ⟨D, 1, 3⟩ = _ from O2 D]
  unfold openV
  rw [if_pos rfl]
  have hz := HP.out.size
  have HJJ := Lib.hid (Nat.le_trans hz hge)
  clear hz
  have hJ := hA
  clear hA
  have hP2 := Priv.more (av2 := fun i => i = J) hP (fun i hi => .inr (.inr hi))
  clear hP hge hk
  have hP := hP2
  clear hP2
  clear HP 
  have HP := Lib.hid hP
  have HAJ := Lib.hid hJ
  clear hP hJ
  go_wp2_with fail
  refine (records_is J (j0 D) [] 0 rfl (tx_j0 D) (fj0 D).2.2.2.2 v3 HAJ.out).mono ?_
  rintro e v4 ⟨b, a5, capa5, rfl, hL⟩
  have HLr := Lib.hid hL
  clear hL
  have hP := (HP.out.below b).1
  have hJ := HAJ.out.below b HAJ.out.lt
  clear HP HAJ
  have HP := Lib.hid hP
  have HAJ := Lib.hid hJ
  clear hP hJ
  clear b
  clear HLr
  go_wp2_with fail
  refine (room_is J (j0 D) D (fj0 D).1 384 (rm_j0 D) (fj0 D).2.2.2.2 v4 HAJ.out).mono ?_
  rintro e v6 ⟨rfl, b⟩
  have hP := (HP.out.below b).1
  have hJ := HAJ.out.below b HAJ.out.lt
  clear HP HAJ
  have HP := Lib.hid hP
  have HAJ := Lib.hid hJ
  clear hP hJ
  clear b
  have HB := Lib.hid (build_two (P := Try.prog) v6 39 9 (.string ⟨#[97]⟩) (.string ⟨#[98, 99]⟩) iw _ Try.underlying39 HI.out.1 HI.out.2.1 HI.out.2.2.1 rfl rfl)
  go_wp2_with (with_reducible refine list_val rfl (run_build2_op 39 (.const (.string ⟨#[97]⟩)) (.const (.string ⟨#[98, 99]⟩)) rfl (.string ⟨#[97]⟩) (.string ⟨#[98, 99]⟩) (by kernel_rfl) (by kernel_rfl) HB.out) ?_)
  have hM : Lst (v6.alloc (.cells #[Value.string ⟨#[97]⟩, Value.string ⟨#[98, 99]⟩] 9)) (some ⟨v6.heap.size, 0, none⟩) q_a := lst_two v6 [97] [98, 99]
  have bA := (Below.refl v6.heap.size v6).alloc (Nat.le_refl _) (.cells #[Value.string ⟨#[97]⟩, Value.string ⟨#[98, 99]⟩] 9)
  have HM := Lib.hid hM
  clear hM HB
  have hP := (HP.out.below bA).1
  have hJ := HAJ.out.below bA HAJ.out.lt
  clear HP HAJ
  have HP := Lib.hid hP
  have HAJ := Lib.hid hJ
  clear hP hJ
  clear bA
  generalize (v6.alloc (.cells #[Value.string ⟨#[97]⟩, Value.string ⟨#[98, 99]⟩] 9)) = x8 at *
  have HC := Lib.hid (commit_any HP.out J (j0 D) HAJ.out rfl HJJ.out (by rw [(fj0 D).1]; rfl) (by rw [(fj0 D).1]; exact ⟨by show (1 : Nat) ≤ 4096; decide, by show (3 : Nat) ≤ 4096; decide⟩) (fj0 D).2.1 (fj0 D).2.2.1 (fj0 D).2.2.2.1 (by rw [(fj0 D).1]; exact (fj0 D).2.2.2.2) _ q_a 2 (of_decide_eq_true (by kernel_rfl)) (by show (2 : Nat) ≤ 1000000; decide) (by decide) HM.out 100 ltu3 (by decide))
  rw [show commitL 10 u3 (j0 D) q_a = (0, u4, j1 D) from C1 D] at HC
  refine HC.out.mono ?_
  rintro e y9 ⟨rfl, hS⟩
  have hP := hS.1
  have hJ := hS.2.1
  clear hS HC HM
  clear HP HAJ
  have HP := Lib.hid hP
  have HAJ := Lib.hid hJ
  clear hP hJ
  go_wp2_with fail
  refine (room_is J (j1 D) D (fj1 D).1 379 (rm_j1 D) (fj1 D).2.2.2.2 y9 HAJ.out).mono ?_
  rintro e v10 ⟨rfl, b⟩
  have hP := (HP.out.below b).1
  have hJ := HAJ.out.below b HAJ.out.lt
  clear HP HAJ
  have HP := Lib.hid hP
  have HAJ := Lib.hid hJ
  clear hP hJ
  clear b
  have HB := Lib.hid (build_cell (P := Try.prog) v10 39 9 (.string ⟨#[122]⟩) iw _ Try.underlying39 HI.out.1 HI.out.2.1 HI.out.2.2.1 rfl)
  go_wp2_with (with_reducible refine list_val rfl (run_build_op 39 (.const (.string ⟨#[122]⟩)) rfl (.string ⟨#[122]⟩) (by kernel_rfl) HB.out) ?_)
  have hM : Lst (v10.alloc (.cells #[Value.string ⟨#[122]⟩] 9)) (some ⟨v10.heap.size, 0, none⟩) q_z := lst_one v10 [122]
  have bA := (Below.refl v10.heap.size v10).alloc (Nat.le_refl _) (.cells #[Value.string ⟨#[122]⟩] 9)
  have HM := Lib.hid hM
  clear hM HB
  have hP := (HP.out.below bA).1
  have hJ := HAJ.out.below bA HAJ.out.lt
  clear HP HAJ
  have HP := Lib.hid hP
  have HAJ := Lib.hid hJ
  clear hP hJ
  clear bA
  generalize (v10.alloc (.cells #[Value.string ⟨#[122]⟩] 9)) = x12 at *
  have HC := Lib.hid (rewrite_any HP.out J (j1 D) HAJ.out rfl HJJ.out (by rw [(fj1 D).1]; rfl) (by rw [(fj1 D).1]; exact ⟨by show (1 : Nat) ≤ 4096; decide, by show (3 : Nat) ≤ 4096; decide⟩) (fj1 D).2.1 (fj1 D).2.2.1 (fj1 D).2.2.2.1 _ q_z 1 (of_decide_eq_true (by kernel_rfl)) (by show (1 : Nat) ≤ 1000000; decide) (by decide) HM.out 100 ltu4 (by decide))
  rw [show rewriteL 10 u4 (j1 D) q_z = (0, u5, j2 D) from R1 D] at HC
  refine HC.out.mono ?_
  rintro e y13 ⟨rfl, hS⟩
  have hP := hS.1
  have hJ := hS.2.1
  clear hS HC HM
  clear HP HAJ
  have HP := Lib.hid hP
  have HAJ := Lib.hid hJ
  clear hP hJ
  go_wp2_with fail
  refine (room_is J (j2 D) D (fj2 D).1 382 (rm_j2 D) (fj2 D).2.2.2.2 y13 HAJ.out).mono ?_
  rintro e v14 ⟨rfl, b⟩
  have hP := (HP.out.below b).1
  have hJ := HAJ.out.below b HAJ.out.lt
  clear HP HAJ
  have HP := Lib.hid hP
  have HAJ := Lib.hid hJ
  clear hP hJ
  clear b
  go_wp2_with fail
  refine (rep5_any 120 381 v14 (by decide)).mono ?_
  rintro e v15 ⟨l, hl, rfl, b⟩
  have HL := Lib.hid hl
  clear hl
  have hP := (HP.out.below b).1
  have hJ := HAJ.out.below b HAJ.out.lt
  clear HP HAJ
  have HP := Lib.hid hP
  have HAJ := Lib.hid hJ
  clear hP hJ
  clear b
  have HB := Lib.hid (build_cell (P := Try.prog) v15 39 9 (.string (bs l)) iw _ Try.underlying39 HI.out.1 HI.out.2.1 HI.out.2.2.1 rfl)
  go_wp2_with (with_reducible refine list_val rfl (run_build_op 39 (.tmp 86) rfl (.string (bs l)) (by kernel_rfl) HB.out) ?_)
  have hM : Lst (v15.alloc (.cells #[Value.string (bs l)] 9)) (some ⟨v15.heap.size, 0, none⟩) [l] := lst_one v15 l
  have bA := (Below.refl v15.heap.size v15).alloc (Nat.le_refl _) (.cells #[Value.string (bs l)] 9)
  have HM := Lib.hid hM
  clear hM HB
  have hP := (HP.out.below bA).1
  have hJ := HAJ.out.below bA HAJ.out.lt
  clear HP HAJ
  have HP := Lib.hid hP
  have HAJ := Lib.hid hJ
  clear hP hJ
  clear bA
  generalize (v15.alloc (.cells #[Value.string (bs l)] 9)) = x17 at *
  have HC := Lib.hid (commit_any HP.out J (j2 D) HAJ.out rfl HJJ.out (by rw [(fj2 D).1]; rfl) (by rw [(fj2 D).1]; exact ⟨by show (1 : Nat) ≤ 4096; decide, by show (3 : Nat) ≤ 4096; decide⟩) (fj2 D).2.1 (fj2 D).2.2.1 (fj2 D).2.2.2.1 (by rw [(fj2 D).1]; exact (fj2 D).2.2.2.2) _ [l] 1 (by rw [HL.out]; exact of_decide_eq_true (by kernel_rfl)) (by show (1 : Nat) ≤ 1000000; decide) (one_le HL.out (by decide)) HM.out 100 ltu5 (by decide))
  rw [show commitL 10 u5 (j2 D) [l] = (10, u5, j2 D) from by rw [HL.out]; exact C2 D] at HC
  refine HC.out.mono ?_
  rintro e y18 ⟨rfl, hS⟩
  have hP := hS.1
  have hJ := hS.2.1
  clear hS HC HM
  clear HP HAJ
  have HP := Lib.hid hP
  have HAJ := Lib.hid hJ
  clear hP hJ
  clear HL
  go_wp2_with fail
  refine (records_is J (j2 D) q_z 1 rfl (tx_j2 D) (fj2 D).2.2.2.2 y18 HAJ.out).mono ?_
  rintro e v19 ⟨b, a20, capa20, rfl, hL⟩
  have HLr := Lib.hid hL
  clear hL
  have hP := (HP.out.below b).1
  have hJ := HAJ.out.below b HAJ.out.lt
  clear HP HAJ
  have HP := Lib.hid hP
  have HAJ := Lib.hid hJ
  clear hP hJ
  clear b
  have HB := Lib.hid (build_cell (P := Try.prog) v19 39 9 (.string ⟨#[122]⟩) iw _ Try.underlying39 HI.out.1 HI.out.2.1 HI.out.2.2.1 rfl)
  go_wp2_with (with_reducible refine list_val rfl (run_build_op 39 (.const (.string ⟨#[122]⟩)) rfl (.string ⟨#[122]⟩) (by kernel_rfl) HB.out) ?_)
  have hM : Lst (v19.alloc (.cells #[Value.string ⟨#[122]⟩] 9)) (some ⟨v19.heap.size, 0, none⟩) q_z := lst_one v19 [122]
  have bA := (Below.refl v19.heap.size v19).alloc (Nat.le_refl _) (.cells #[Value.string ⟨#[122]⟩] 9)
  have hL := HLr.out.below bA
  clear HLr
  have HLr := Lib.hid hL
  clear hL
  have HM := Lib.hid hM
  clear hM HB
  have hP := (HP.out.below bA).1
  have hJ := HAJ.out.below bA HAJ.out.lt
  clear HP HAJ
  have HP := Lib.hid hP
  have HAJ := Lib.hid hJ
  clear hP hJ
  clear bA
  generalize (v19.alloc (.cells #[Value.string ⟨#[122]⟩] 9)) = x22 at *
  have HT := Lib.hid (texts_any a20 _ q_z q_z capa20 1 (by decide) x22 HLr.out HM.out)
  rw [show decide (q_z = q_z) = true from decide_eq_true rfl] at HT
  clear HLr HM
  refine HT.out.mono ?_
  rintro e z23 ⟨rfl, b⟩
  clear HT
  have hP := (HP.out.below b).1
  have hJ := HAJ.out.below b HAJ.out.lt
  clear HP HAJ
  have HP := Lib.hid hP
  have HAJ := Lib.hid hJ
  clear hP hJ
  clear b
  go_wp2_with fail
  have HC := Lib.hid (commit_any HP.out J (j2 D) HAJ.out rfl HJJ.out (by rw [(fj2 D).1]; rfl) (by rw [(fj2 D).1]; exact ⟨by show (1 : Nat) ≤ 4096; decide, by show (3 : Nat) ≤ 4096; decide⟩) (fj2 D).2.1 (fj2 D).2.2.1 (fj2 D).2.2.2.1 (by rw [(fj2 D).1]; exact (fj2 D).2.2.2.2) none q_nil 0 (of_decide_eq_true (by kernel_rfl)) (by show (0 : Nat) ≤ 1000000; decide) (by decide) (lst_nil _) 100 ltu5 (by decide))
  rw [show commitL 10 u5 (j2 D) q_nil = (0, u5, j2 D) from C3 D] at HC
  refine HC.out.mono ?_
  rintro e y24 ⟨rfl, hS⟩
  have hP := hS.1
  have hJ := hS.2.1
  clear hS HC
  clear HP HAJ
  have HP := Lib.hid hP
  have HAJ := Lib.hid hJ
  clear hP hJ
  go_wp2_with fail
  refine (rep5_any 120 380 y24 (by decide)).mono ?_
  rintro e v25 ⟨l, hl, rfl, b⟩
  have HL := Lib.hid hl
  clear hl
  have hP := (HP.out.below b).1
  have hJ := HAJ.out.below b HAJ.out.lt
  clear HP HAJ
  have HP := Lib.hid hP
  have HAJ := Lib.hid hJ
  clear hP hJ
  clear b
  have HB := Lib.hid (build_cell (P := Try.prog) v25 39 9 (.string (bs l)) iw _ Try.underlying39 HI.out.1 HI.out.2.1 HI.out.2.2.1 rfl)
  go_wp2_with (with_reducible refine list_val rfl (run_build_op 39 (.tmp 104) rfl (.string (bs l)) (by kernel_rfl) HB.out) ?_)
  have hM : Lst (v25.alloc (.cells #[Value.string (bs l)] 9)) (some ⟨v25.heap.size, 0, none⟩) [l] := lst_one v25 l
  have bA := (Below.refl v25.heap.size v25).alloc (Nat.le_refl _) (.cells #[Value.string (bs l)] 9)
  have HM := Lib.hid hM
  clear hM HB
  have hP := (HP.out.below bA).1
  have hJ := HAJ.out.below bA HAJ.out.lt
  clear HP HAJ
  have HP := Lib.hid hP
  have HAJ := Lib.hid hJ
  clear hP hJ
  clear bA
  generalize (v25.alloc (.cells #[Value.string (bs l)] 9)) = x27 at *
  have HC := Lib.hid (commit_any HP.out J (j2 D) HAJ.out rfl HJJ.out (by rw [(fj2 D).1]; rfl) (by rw [(fj2 D).1]; exact ⟨by show (1 : Nat) ≤ 4096; decide, by show (3 : Nat) ≤ 4096; decide⟩) (fj2 D).2.1 (fj2 D).2.2.1 (fj2 D).2.2.2.1 (by rw [(fj2 D).1]; exact (fj2 D).2.2.2.2) _ [l] 1 (by rw [HL.out]; exact of_decide_eq_true (by kernel_rfl)) (by show (1 : Nat) ≤ 1000000; decide) (one_le HL.out (by decide)) HM.out 100 ltu5 (by decide))
  rw [show commitL 10 u5 (j2 D) [l] = (0, u6, j3 D) from by rw [HL.out]; exact C4 D] at HC
  refine HC.out.mono ?_
  rintro e y28 ⟨rfl, hS⟩
  have hP := hS.1
  have hJ := hS.2.1
  clear hS HC HM
  clear HP HAJ
  have HP := Lib.hid hP
  have HAJ := Lib.hid hJ
  clear hP hJ
  clear HL
  go_wp2_with fail
  refine (room_is J (j3 D) D (fj3 D).1 0 (rm_j3 D) (fj3 D).2.2.2.2 y28 HAJ.out).mono ?_
  rintro e v29 ⟨rfl, b⟩
  have hP := (HP.out.below b).1
  have hJ := HAJ.out.below b HAJ.out.lt
  clear HP HAJ
  have HP := Lib.hid hP
  have HAJ := Lib.hid hJ
  clear hP hJ
  clear b
  have HB := Lib.hid (build_cell (P := Try.prog) v29 39 9 (.string ⟨#[]⟩) iw _ Try.underlying39 HI.out.1 HI.out.2.1 HI.out.2.2.1 rfl)
  go_wp2_with (with_reducible refine list_val rfl (run_build_op 39 (.const (.string ⟨#[]⟩)) rfl (.string ⟨#[]⟩) (by kernel_rfl) HB.out) ?_)
  have hM : Lst (v29.alloc (.cells #[Value.string ⟨#[]⟩] 9)) (some ⟨v29.heap.size, 0, none⟩) q_e := lst_one v29 []
  have bA := (Below.refl v29.heap.size v29).alloc (Nat.le_refl _) (.cells #[Value.string ⟨#[]⟩] 9)
  have HM := Lib.hid hM
  clear hM HB
  have hP := (HP.out.below bA).1
  have hJ := HAJ.out.below bA HAJ.out.lt
  clear HP HAJ
  have HP := Lib.hid hP
  have HAJ := Lib.hid hJ
  clear hP hJ
  clear bA
  generalize (v29.alloc (.cells #[Value.string ⟨#[]⟩] 9)) = x31 at *
  have HC := Lib.hid (commit_any HP.out J (j3 D) HAJ.out rfl HJJ.out (by rw [(fj3 D).1]; rfl) (by rw [(fj3 D).1]; exact ⟨by show (1 : Nat) ≤ 4096; decide, by show (3 : Nat) ≤ 4096; decide⟩) (fj3 D).2.1 (fj3 D).2.2.1 (fj3 D).2.2.2.1 (by rw [(fj3 D).1]; exact (fj3 D).2.2.2.2) _ q_e 1 (of_decide_eq_true (by kernel_rfl)) (by show (1 : Nat) ≤ 1000000; decide) (by decide) HM.out 100 ltu6 (by decide))
  rw [show commitL 10 u6 (j3 D) q_e = (10, u6, j3 D) from C5 D] at HC
  refine HC.out.mono ?_
  rintro e y32 ⟨rfl, hS⟩
  have hP := hS.1
  have hJ := hS.2.1
  clear hS HC HM
  clear HP HAJ
  have HP := Lib.hid hP
  have HAJ := Lib.hid hJ
  clear hP hJ
  have HB := Lib.hid (build_two (P := Try.prog) y32 39 9 (.string ⟨#[121]⟩) (.string ⟨#[]⟩) iw _ Try.underlying39 HI.out.1 HI.out.2.1 HI.out.2.2.1 rfl rfl)
  go_wp2_with (with_reducible refine list_val rfl (run_build2_op 39 (.const (.string ⟨#[121]⟩)) (.const (.string ⟨#[]⟩)) rfl (.string ⟨#[121]⟩) (.string ⟨#[]⟩) (by kernel_rfl) (by kernel_rfl) HB.out) ?_)
  have hM : Lst (y32.alloc (.cells #[Value.string ⟨#[121]⟩, Value.string ⟨#[]⟩] 9)) (some ⟨y32.heap.size, 0, none⟩) q_y := lst_two y32 [121] []
  have bA := (Below.refl y32.heap.size y32).alloc (Nat.le_refl _) (.cells #[Value.string ⟨#[121]⟩, Value.string ⟨#[]⟩] 9)
  have HM := Lib.hid hM
  clear hM HB
  have hP := (HP.out.below bA).1
  have hJ := HAJ.out.below bA HAJ.out.lt
  clear HP HAJ
  have HP := Lib.hid hP
  have HAJ := Lib.hid hJ
  clear hP hJ
  clear bA
  generalize (y32.alloc (.cells #[Value.string ⟨#[121]⟩, Value.string ⟨#[]⟩] 9)) = x34 at *
  have HC := Lib.hid (rewrite_any HP.out J (j3 D) HAJ.out rfl HJJ.out (by rw [(fj3 D).1]; rfl) (by rw [(fj3 D).1]; exact ⟨by show (1 : Nat) ≤ 4096; decide, by show (3 : Nat) ≤ 4096; decide⟩) (fj3 D).2.1 (fj3 D).2.2.1 (fj3 D).2.2.2.1 _ q_y 2 (of_decide_eq_true (by kernel_rfl)) (by show (2 : Nat) ≤ 1000000; decide) (by decide) HM.out 100 ltu6 (by decide))
  rw [show rewriteL 10 u6 (j3 D) q_y = (0, u7, j4 D) from R2 D] at HC
  refine HC.out.mono ?_
  rintro e y35 ⟨rfl, hS⟩
  have hP := hS.1
  have hJ := hS.2.1
  clear hS HC HM
  clear HP HAJ
  have HP := Lib.hid hP
  have HAJ := Lib.hid hJ
  clear hP hJ
  go_wp2_with fail
  refine (open_ok HP.out 1 8 3 rfl (by decide) (by decide) (by decide) 100 ltu7 (by decide)).mono ?_
  rintro e v36 ⟨K, hge, rfl, hP, hA, hk⟩
  rw [show openL 10 u7 ⟨D, 1, 3⟩ = _ from O3 D] at hP hA
  rw [show openL 10 u7 ⟨D, 1, 3⟩ = _ from O3 D]
  unfold openV
  rw [if_pos rfl]
  have hJ := At.kept HAJ.out (hk _ rfl)
  have hz := HP.out.size
  have HJK := Lib.hid (Nat.le_trans hz hge)
  clear hz
  have hlt := HAJ.out.lt
  have hne : K ≠ J := by omega
  have HNE := Lib.hid hne
  clear hlt hne
  have hK := hA
  clear hA
  have hP2 := hP
  clear hP hge hk
  have hP := hP2
  clear hP2
  clear HP HAJ
  have HP := Lib.hid hP
  have HAJ := Lib.hid hJ
  have HAK := Lib.hid hK
  clear hP hJ hK
  go_wp2_with fail
  refine (open_bad (some ⟨D, 0, none⟩) 1 3 2 (by decide) v36 (fun w' b => place_bad (HP.out.below b).1 1 3 (by decide) (by decide) (.inr (.inl (by decide))))).mono ?_
  rintro e v37 ⟨rfl, b⟩
  have hP := (HP.out.below b).1
  have hJ := HAJ.out.below b HAJ.out.lt
  have hK := HAK.out.below b HAK.out.lt
  clear HP HAJ HAK
  have HP := Lib.hid hP
  have HAJ := Lib.hid hJ
  have HAK := Lib.hid hK
  clear hP hJ hK
  clear b
  go_wp2_with fail
  refine (open_bad (some ⟨D, 0, none⟩) 3 8 2 (by decide) v37 (fun w' b => place_bad (HP.out.below b).1 3 8 (by decide) (by decide) (.inr (.inr (by decide))))).mono ?_
  rintro e v38 ⟨rfl, b⟩
  have hP := (HP.out.below b).1
  have hJ := HAJ.out.below b HAJ.out.lt
  have hK := HAK.out.below b HAK.out.lt
  clear HP HAJ HAK
  have HP := Lib.hid hP
  have HAJ := Lib.hid hJ
  have HAK := Lib.hid hK
  clear hP hJ hK
  clear b
  go_wp2_with fail
  refine (open_bad (some ⟨D, 0, none⟩) (-1) 8 2 (by decide) v38 (fun w' b => place_bad (HP.out.below b).1 (-1) 8 (by decide) (by decide) (.inl (by decide)))).mono ?_
  rintro e v39 ⟨rfl, b⟩
  have hP := (HP.out.below b).1
  have hJ := HAJ.out.below b HAJ.out.lt
  have hK := HAK.out.below b HAK.out.lt
  clear HP HAJ HAK
  have HP := Lib.hid hP
  have HAJ := Lib.hid hJ
  have HAK := Lib.hid hK
  clear hP hJ hK
  clear b
  go_wp2_with fail
  refine (open_bad none 0 8 1 (by decide) v39 (fun w' b => place_nil 0 8 w')).mono ?_
  rintro e v40 ⟨rfl, b⟩
  have hP := (HP.out.below b).1
  have hJ := HAJ.out.below b HAJ.out.lt
  have hK := HAK.out.below b HAK.out.lt
  clear HP HAJ HAK
  have HP := Lib.hid hP
  have HAJ := Lib.hid hJ
  have HAK := Lib.hid hK
  clear hP hJ hK
  clear b
  go_wp2_with fail
  refine (records_is K (jk0 D) q_y 2 rfl (tx_jk0 D) (fjk0 D).2.2.2.2 v40 HAK.out).mono ?_
  rintro e v41 ⟨b, a42, capa42, rfl, hL⟩
  have HLr := Lib.hid hL
  clear hL
  have hP := (HP.out.below b).1
  have hJ := HAJ.out.below b HAJ.out.lt
  have hK := HAK.out.below b HAK.out.lt
  clear HP HAJ HAK
  have HP := Lib.hid hP
  have HAJ := Lib.hid hJ
  have HAK := Lib.hid hK
  clear hP hJ hK
  clear b
  have HB := Lib.hid (build_two (P := Try.prog) v41 39 9 (.string ⟨#[121]⟩) (.string ⟨#[]⟩) iw _ Try.underlying39 HI.out.1 HI.out.2.1 HI.out.2.2.1 rfl rfl)
  go_wp2_with (with_reducible refine list_val rfl (run_build2_op 39 (.const (.string ⟨#[121]⟩)) (.const (.string ⟨#[]⟩)) rfl (.string ⟨#[121]⟩) (.string ⟨#[]⟩) (by kernel_rfl) (by kernel_rfl) HB.out) ?_)
  have hM : Lst (v41.alloc (.cells #[Value.string ⟨#[121]⟩, Value.string ⟨#[]⟩] 9)) (some ⟨v41.heap.size, 0, none⟩) q_y := lst_two v41 [121] []
  have bA := (Below.refl v41.heap.size v41).alloc (Nat.le_refl _) (.cells #[Value.string ⟨#[121]⟩, Value.string ⟨#[]⟩] 9)
  have hL := HLr.out.below bA
  clear HLr
  have HLr := Lib.hid hL
  clear hL
  have HM := Lib.hid hM
  clear hM HB
  have hP := (HP.out.below bA).1
  have hJ := HAJ.out.below bA HAJ.out.lt
  have hK := HAK.out.below bA HAK.out.lt
  clear HP HAJ HAK
  have HP := Lib.hid hP
  have HAJ := Lib.hid hJ
  have HAK := Lib.hid hK
  clear hP hJ hK
  clear bA
  generalize (v41.alloc (.cells #[Value.string ⟨#[121]⟩, Value.string ⟨#[]⟩] 9)) = x44 at *
  have HT := Lib.hid (texts_any a42 _ q_y q_y capa42 2 (by decide) x44 HLr.out HM.out)
  rw [show decide (q_y = q_y) = true from decide_eq_true rfl] at HT
  clear HLr HM
  refine HT.out.mono ?_
  rintro e z45 ⟨rfl, b⟩
  clear HT
  have hP := (HP.out.below b).1
  have hJ := HAJ.out.below b HAJ.out.lt
  have hK := HAK.out.below b HAK.out.lt
  clear HP HAJ HAK
  have HP := Lib.hid hP
  have HAJ := Lib.hid hJ
  have HAK := Lib.hid hK
  clear hP hJ hK
  clear b
  go_wp2_with fail
  refine (format_bad (.pointer none) 0 8 1 (by decide) z45 (place_nil 0 8 z45)).mono ?_
  rintro e v46 ⟨rfl, b⟩
  have hP := (HP.out.below b).1
  have hJ := HAJ.out.below b HAJ.out.lt
  have hK := HAK.out.below b HAK.out.lt
  clear HP HAJ HAK
  have HP := Lib.hid hP
  have HAJ := Lib.hid hJ
  have HAK := Lib.hid hK
  clear hP hJ hK
  clear b
  go_wp2_with fail
  refine (format_bad (.pointer (some ⟨D, 0, none⟩)) 0 3 2 (by decide) v46 (place_bad HP.out 0 3 (by decide) (by decide) (.inr (.inl (by decide))))).mono ?_
  rintro e v47 ⟨rfl, b⟩
  have hP := (HP.out.below b).1
  have hJ := HAJ.out.below b HAJ.out.lt
  have hK := HAK.out.below b HAK.out.lt
  clear HP HAJ HAK
  have HP := Lib.hid hP
  have HAJ := Lib.hid hJ
  have HAK := Lib.hid hK
  clear hP hJ hK
  clear b
  go_wp2_with fail
  refine (p_off HP.out).mono ?_
  rintro e v48 ⟨rfl, hp⟩
  have hP : Priv w v48 (fun i => i = J ∨ i = K) 10 D u9 := hp.1
  have hJ := At.kept HAJ.out (hp.2 _ (.inl rfl))
  have hK := At.kept HAK.out (hp.2 _ (.inr rfl))
  clear hp
  clear HP HAJ HAK
  have HP := Lib.hid hP
  have HAJ := Lib.hid hJ
  have HAK := Lib.hid hK
  clear hP hJ hK
  have HB := Lib.hid (build_cell (P := Try.prog) v48 39 9 (.string ⟨#[111, 102, 102]⟩) iw _ Try.underlying39 HI.out.1 HI.out.2.1 HI.out.2.2.1 rfl)
  go_wp2_with (with_reducible refine list_val rfl (run_build_op 39 (.const (.string ⟨#[111, 102, 102]⟩)) rfl (.string ⟨#[111, 102, 102]⟩) (by kernel_rfl) HB.out) ?_)
  have hM : Lst (v48.alloc (.cells #[Value.string ⟨#[111, 102, 102]⟩] 9)) (some ⟨v48.heap.size, 0, none⟩) q_off := lst_one v48 [111, 102, 102]
  have bA := (Below.refl v48.heap.size v48).alloc (Nat.le_refl _) (.cells #[Value.string ⟨#[111, 102, 102]⟩] 9)
  have HM := Lib.hid hM
  clear hM HB
  have hP := (HP.out.below bA).1
  have hJ := HAJ.out.below bA HAJ.out.lt
  have hK := HAK.out.below bA HAK.out.lt
  clear HP HAJ HAK
  have HP := Lib.hid hP
  have HAJ := Lib.hid hJ
  have HAK := Lib.hid hK
  clear hP hJ hK
  clear bA
  generalize (v48.alloc (.cells #[Value.string ⟨#[111, 102, 102]⟩] 9)) = x50 at *
  have HC := Lib.hid (commit_any HP.out J (j4 D) HAJ.out (.inl rfl) HJJ.out (by rw [(fj4 D).1]; rfl) (by rw [(fj4 D).1]; exact ⟨by show (1 : Nat) ≤ 4096; decide, by show (3 : Nat) ≤ 4096; decide⟩) (fj4 D).2.1 (fj4 D).2.2.1 (fj4 D).2.2.2.1 (by rw [(fj4 D).1]; exact (fj4 D).2.2.2.2) _ q_off 1 (of_decide_eq_true (by kernel_rfl)) (by show (1 : Nat) ≤ 1000000; decide) (by decide) HM.out 100 ltu9 (by decide))
  rw [show commitL 10 u9 (j4 D) q_off = (11, u10, j5 D) from C6 D] at HC
  refine HC.out.mono ?_
  rintro e y51 ⟨rfl, hS⟩
  have hP := hS.1
  have hJ := hS.2.1
  have hK := At.kept HAK.out (hS.2.2 _ ⟨(.inr rfl), HNE.out⟩)
  clear hS HC HM
  clear HP HAJ HAK
  have HP := Lib.hid hP
  have HAJ := Lib.hid hJ
  have HAK := Lib.hid hK
  clear hP hJ hK
  go_wp2_with fail
  refine (open_ok HP.out 1 8 3 rfl (by decide) (by decide) (by decide) 100 ltu10 (by decide)).mono ?_
  rintro e v52 ⟨X1, hge, rfl, hP, hA, hk⟩
  rw [show (openL 10 u10 ⟨D, 1, 3⟩).2.1 = _ from (O4 D).2] at hP
  rw [show (openL 10 u10 ⟨D, 1, 3⟩).1 = _ from (O4 D).1]
  unfold openV
  rw [if_neg (by decide)]
  clear hA
  have hJ := At.kept HAJ.out (hk _ (.inl rfl))
  have hK := At.kept HAK.out (hk _ (.inr rfl))
  have hP2 := Priv.more (av2 := (fun i => i = J ∨ i = K)) hP (fun i hi => .inr (.inl hi))
  clear hP hge hk
  have hP := hP2
  clear hP2
  clear HP HAJ HAK
  have HP := Lib.hid hP
  have HAJ := Lib.hid hJ
  have HAK := Lib.hid hK
  clear hP hJ hK
  go_wp2_with fail
  refine (p_wake HP.out none [] 0 (by simp) (by simp) (by simp) (Nat.le_trans ltu11.ws (by decide))).mono ?_
  rintro e v53 ⟨rfl, hp⟩
  have hP : Priv w v53 (fun i => i = J ∨ i = K) 10 D u12 := hp.1
  have hJ := At.kept HAJ.out (hp.2 _ (.inl rfl))
  have hK := At.kept HAK.out (hp.2 _ (.inr rfl))
  clear hp
  clear HP HAJ HAK
  have HP := Lib.hid hP
  have HAJ := Lib.hid hJ
  have HAK := Lib.hid hK
  clear hP hJ hK
  have HB := Lib.hid (build_cell (P := Try.prog) v53 39 9 (.string ⟨#[111, 102, 102]⟩) iw _ Try.underlying39 HI.out.1 HI.out.2.1 HI.out.2.2.1 rfl)
  go_wp2_with (with_reducible refine list_val rfl (run_build_op 39 (.const (.string ⟨#[111, 102, 102]⟩)) rfl (.string ⟨#[111, 102, 102]⟩) (by kernel_rfl) HB.out) ?_)
  have hM : Lst (v53.alloc (.cells #[Value.string ⟨#[111, 102, 102]⟩] 9)) (some ⟨v53.heap.size, 0, none⟩) q_off := lst_one v53 [111, 102, 102]
  have bA := (Below.refl v53.heap.size v53).alloc (Nat.le_refl _) (.cells #[Value.string ⟨#[111, 102, 102]⟩] 9)
  have HM := Lib.hid hM
  clear hM HB
  have hP := (HP.out.below bA).1
  have hJ := HAJ.out.below bA HAJ.out.lt
  have hK := HAK.out.below bA HAK.out.lt
  clear HP HAJ HAK
  have HP := Lib.hid hP
  have HAJ := Lib.hid hJ
  have HAK := Lib.hid hK
  clear hP hJ hK
  clear bA
  generalize (v53.alloc (.cells #[Value.string ⟨#[111, 102, 102]⟩] 9)) = x55 at *
  have HC := Lib.hid (commit_any HP.out J (j5 D) HAJ.out (.inl rfl) HJJ.out (by rw [(fj5 D).1]; rfl) (by rw [(fj5 D).1]; exact ⟨by show (1 : Nat) ≤ 4096; decide, by show (3 : Nat) ≤ 4096; decide⟩) (fj5 D).2.1 (fj5 D).2.2.1 (fj5 D).2.2.2.1 (by rw [(fj5 D).1]; exact (fj5 D).2.2.2.2) _ q_off 1 (of_decide_eq_true (by kernel_rfl)) (by show (1 : Nat) ≤ 1000000; decide) (by decide) HM.out 100 ltu12 (by decide))
  rw [show commitL 10 u12 (j5 D) q_off = (11, u12, j5 D) from C7 D] at HC
  refine HC.out.mono ?_
  rintro e y56 ⟨rfl, hS⟩
  have hP := hS.1
  have hJ := hS.2.1
  have hK := At.kept HAK.out (hS.2.2 _ ⟨(.inr rfl), HNE.out⟩)
  clear hS HC HM
  clear HP HAJ HAK
  have HP := Lib.hid hP
  have HAJ := Lib.hid hJ
  have HAK := Lib.hid hK
  clear hP hJ hK
  have HB := Lib.hid (build_cell (P := Try.prog) y56 39 9 (.string ⟨#[111, 110]⟩) iw _ Try.underlying39 HI.out.1 HI.out.2.1 HI.out.2.2.1 rfl)
  go_wp2_with (with_reducible refine list_val rfl (run_build_op 39 (.const (.string ⟨#[111, 110]⟩)) rfl (.string ⟨#[111, 110]⟩) (by kernel_rfl) HB.out) ?_)
  have hM : Lst (y56.alloc (.cells #[Value.string ⟨#[111, 110]⟩] 9)) (some ⟨y56.heap.size, 0, none⟩) q_on := lst_one y56 [111, 110]
  have bA := (Below.refl y56.heap.size y56).alloc (Nat.le_refl _) (.cells #[Value.string ⟨#[111, 110]⟩] 9)
  have HM := Lib.hid hM
  clear hM HB
  have hP := (HP.out.below bA).1
  have hJ := HAJ.out.below bA HAJ.out.lt
  have hK := HAK.out.below bA HAK.out.lt
  clear HP HAJ HAK
  have HP := Lib.hid hP
  have HAJ := Lib.hid hJ
  have HAK := Lib.hid hK
  clear hP hJ hK
  clear bA
  generalize (y56.alloc (.cells #[Value.string ⟨#[111, 110]⟩] 9)) = x58 at *
  have HC := Lib.hid (commit_any HP.out K (jk0 D) HAK.out (.inr rfl) HJK.out (by rw [(fjk0 D).1]; rfl) (by rw [(fjk0 D).1]; exact ⟨by show (1 : Nat) ≤ 4096; decide, by show (3 : Nat) ≤ 4096; decide⟩) (fjk0 D).2.1 (fjk0 D).2.2.1 (fjk0 D).2.2.2.1 (by rw [(fjk0 D).1]; exact (fjk0 D).2.2.2.2) _ q_on 1 (of_decide_eq_true (by kernel_rfl)) (by show (1 : Nat) ≤ 1000000; decide) (by decide) HM.out 100 ltu12 (by decide))
  rw [show commitL 10 u12 (jk0 D) q_on = (0, u13, jk1 D) from C8 D] at HC
  refine HC.out.mono ?_
  rintro e y59 ⟨rfl, hS⟩
  have hP := hS.1
  have hJ := At.kept HAJ.out (hS.2.2 _ ⟨(.inl rfl), HNE.out.symm⟩)
  have hK := hS.2.1
  clear hS HC HM
  clear HP HAJ HAK
  have HP := Lib.hid hP
  have HAJ := Lib.hid hJ
  have HAK := Lib.hid hK
  clear hP hJ hK
  go_wp2_with fail
  refine (records_is J (j5 D) q_y 2 rfl (tx_j5 D) (fj5 D).2.2.2.2 y59 HAJ.out).mono ?_
  rintro e v60 ⟨b, a61, capa61, rfl, hL⟩
  have HLr := Lib.hid hL
  clear hL
  have hP := (HP.out.below b).1
  have hJ := HAJ.out.below b HAJ.out.lt
  have hK := HAK.out.below b HAK.out.lt
  clear HP HAJ HAK
  have HP := Lib.hid hP
  have HAJ := Lib.hid hJ
  have HAK := Lib.hid hK
  clear hP hJ hK
  clear b
  have HB := Lib.hid (build_two (P := Try.prog) v60 39 9 (.string ⟨#[121]⟩) (.string ⟨#[]⟩) iw _ Try.underlying39 HI.out.1 HI.out.2.1 HI.out.2.2.1 rfl rfl)
  go_wp2_with (with_reducible refine list_val rfl (run_build2_op 39 (.const (.string ⟨#[121]⟩)) (.const (.string ⟨#[]⟩)) rfl (.string ⟨#[121]⟩) (.string ⟨#[]⟩) (by kernel_rfl) (by kernel_rfl) HB.out) ?_)
  have hM : Lst (v60.alloc (.cells #[Value.string ⟨#[121]⟩, Value.string ⟨#[]⟩] 9)) (some ⟨v60.heap.size, 0, none⟩) q_y := lst_two v60 [121] []
  have bA := (Below.refl v60.heap.size v60).alloc (Nat.le_refl _) (.cells #[Value.string ⟨#[121]⟩, Value.string ⟨#[]⟩] 9)
  have hL := HLr.out.below bA
  clear HLr
  have HLr := Lib.hid hL
  clear hL
  have HM := Lib.hid hM
  clear hM HB
  have hP := (HP.out.below bA).1
  have hJ := HAJ.out.below bA HAJ.out.lt
  have hK := HAK.out.below bA HAK.out.lt
  clear HP HAJ HAK
  have HP := Lib.hid hP
  have HAJ := Lib.hid hJ
  have HAK := Lib.hid hK
  clear hP hJ hK
  clear bA
  generalize (v60.alloc (.cells #[Value.string ⟨#[121]⟩, Value.string ⟨#[]⟩] 9)) = x63 at *
  have HT := Lib.hid (texts_any a61 _ q_y q_y capa61 2 (by decide) x63 HLr.out HM.out)
  rw [show decide (q_y = q_y) = true from decide_eq_true rfl] at HT
  clear HLr HM
  refine HT.out.mono ?_
  rintro e z64 ⟨rfl, b⟩
  clear HT
  have hP := (HP.out.below b).1
  have hJ := HAJ.out.below b HAJ.out.lt
  have hK := HAK.out.below b HAK.out.lt
  clear HP HAJ HAK
  have HP := Lib.hid hP
  have HAJ := Lib.hid hJ
  have HAK := Lib.hid hK
  clear hP hJ hK
  clear b
  have hB := HP.out.bel
  have HBe := Lib.hid hB
  have hzz := hB.size
  clear HP HAJ HAK hB
  go_wp2_with fail
  refine (commit_nil z64 _ none 0 0 rfl).mono ?_
  rintro e w1 ⟨rfl, rfl⟩
  go_wp2_with fail
  refine (rewrite_nil w1 _).mono ?_
  rintro e w2 ⟨rfl, rfl⟩
  go_wp2_with fail
  refine (room_nil w2).mono ?_
  rintro e w3 ⟨rfl, rfl⟩
  go_wp2_with fail
  refine (records_nil w3).mono ?_
  rintro e w4 ⟨rfl, rfl⟩
  go_wp2_with fail
  refine (works5_any w4).mono ?_
  rintro e w5 ⟨rfl, b⟩
  have HBe2 := Lib.hid (HBe.out.trans (b.mono hzz))
  clear b HBe
  go_wp2
  go_ret
  exact ⟨rfl, HBe2.out⟩
end
end Go.Proofs.Ytalphongcnackaa
