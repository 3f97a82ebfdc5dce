/- Square roots, by trying. -/
import Derived.Test.YtffpmdgchpcaaaaRa
namespace Go.Proofs.Ytffpmdgchpcaaaa
open Go.RowKit

/-- is the square of r above p (32 bits below the point)? -/
def squareQ (r p : Qd) : Bool := if qi p < qi (mulQ r r).1 then true else (qi (mulQ r r).1 == qi p && decide (0 < qi (mulQ r r).2))

theorem sq1 {p h l : Int} (a : p < h) : (if p < h then true else (h == p && decide (0 < l))) = true := if_pos a
theorem sq2 {p h l : Int} (_a : ¬ p < h) (b : h = p) (c : 0 < l) : (if p < h then true else (h == p && decide (0 < l))) = true := by simp [b, c]
theorem sq3 {p h l : Int} (a : ¬ p < h) (c : ¬ 0 < l) : (if p < h then true else (h == p && decide (0 < l))) = false := by simp [a, c]
theorem sq4 {p h l : Int} (a : ¬ p < h) (b : ¬ h = p) : (if p < h then true else (h == p && decide (0 < l))) = false := by simp [a, b]

set_option maxRecDepth 100000 in
set_option maxHeartbeats 1000000 in
theorem square_any (p : Qd) (w : World) (hend : qi ((draws (fun r => squareQ r p) 36).2 - (draws (fun r => squareQ r p) 36).1) ≤ 1) :
    Calls Try.prog 47 #[.int .u64 (qi p)] w fun e w' => e = .returned (.int .u32 (wi (rootOf fun r => squareQ r p))) ∧ Below w.heap.size w w' := by
  have HE := Lib.hid hend
  clear hend
  obtain ⟨t, ht⟩ : ∃ t : Qd → Bool, t = fun r => squareQ r p := ⟨_, rfl⟩
  rw [← ht] at HE ⊢
  have HT := Lib.hid ht
  have hq : ∀ r, t r = if qi p < qi (mulQ r r).1 then true else (qi (mulQ r r).1 == qi p && decide (0 < qi (mulQ r r).2)) := fun r => by rw [ht]; rfl
  have HC := Lib.hid hq
  clear ht hq
  have h0 : (0 : Int) = qi (draws t 0).1 := by show (0 : Int) = qi 0; decide
  have h1 : (68719476736 : Int) = qi (draws t 0).2 := by show (68719476736 : Int) = qi 68719476736; decide
  have H0 := Lib.hid h0
  have H1 := Lib.hid h1
  clear h0 h1
  go_enter Try.func47, Try.ntmps47
  go_wp2
  go_loopw [3, 4] (fun a b wx => ∃ j : Nat, a = .int .u64 (qi (draws t j).1) ∧ b = .int .u64 (qi (draws t j).2) ∧ Below w.heap.size w wx) (fun a b wx => (intOf b - intOf a).toNat)
  case atStart => exact ⟨0, by rw [← H0.out], by rw [← H1.out], Below.refl _ _⟩
  case round =>
    obtain ⟨j, rfl, rfl, hB⟩ := hrel
    have hF := fine_draws t j
    have hF1 := fine_draws t (j + 1)
    have hm := fine_mid hF
    have hg := fine_gap hF
    have hd : draws t (j + 1) = draw t (draws t j) := rfl
    unfold draw at hd
    have HB := Lib.hid hB
    have hend := HE.out
    have key : qi ((draws t j).2 - (draws t j).1) ≤ 1 → draws t j = draws t 36 := fun h => draws_end t j 36 h hend
    clear hB hend
    have q1 : IntKind.u64.wrap (qi (draws t j).2 - qi (draws t j).1) = qi ((draws t j).2 - (draws t j).1) := qw_sub _ _
    have q2 : IntKind.u64.wrap (qi (draws t j).1 + qi (draws t j).2) = qi ((draws t j).1 + (draws t j).2) := qw_add _ _
    have q3 : qi ((draws t j).1 + (draws t j).2) / (2 : Int) = qi (((draws t j).1 + (draws t j).2) >>> 1) := qw_half _
    have q3n := qi_nonneg ((draws t j).1 + (draws t j).2)
    have hq3 : (qi ((draws t j).1 + (draws t j).2)).tdiv 2 = qi (((draws t j).1 + (draws t j).2) >>> 1) := by rw [Int.tdiv_eq_ediv_of_nonneg q3n]; exact q3
    have ht := HC.out (((draws t j).1 + (draws t j).2) >>> 1)
    have q5 := qw_self (((draws t j).1 + (draws t j).2) >>> 1)
    have hmu := refMul_any (((draws t j).1 + (draws t j).2) >>> 1) (((draws t j).1 + (draws t j).2) >>> 1)
    have hlo : qi (draws t j).1 = ((draws t j).1.toNat : Int) := rfl
    have hhi : qi (draws t j).2 = ((draws t j).2.toNat : Int) := rfl
    have hmm : qi (((draws t j).1 + (draws t j).2) >>> 1) = ((((draws t j).1.toNat + (draws t j).2.toNat) / 2 : Nat) : Int) := by rw [← hm]; rfl
    have hk1 : 1 < qi ((draws t j).2 - (draws t j).1) → t (((draws t j).1 + (draws t j).2) >>> 1) = true → draws t (j + 1) = ((draws t j).1, ((draws t j).1 + (draws t j).2) >>> 1) := fun h1 h2 => by
      rw [hd, if_neg (by omega), if_pos h2]
    have hk2 : 1 < qi ((draws t j).2 - (draws t j).1) → t (((draws t j).1 + (draws t j).2) >>> 1) = false → draws t (j + 1) = (((draws t j).1 + (draws t j).2) >>> 1, (draws t j).2) := fun h1 h2 => by
      rw [hd, if_neg (by omega), if_neg (by rw [h2]; decide)]
    have hres : draws t j = draws t 36 → IntKind.u32.wrap (qi (draws t j).1) = wi (rootOf t) := fun h => by rw [h, low_word]; rfl
    have K1 := Lib.hid hk1
    have K2 := Lib.hid hk2
    have KR := Lib.hid hres
    have KE := Lib.hid key
    obtain ⟨f1, f2⟩ := hF
    generalize hM : ((draws t j).1 + (draws t j).2) >>> 1 = M at *
    generalize qi ((draws t j).1 + (draws t j).2) = SUM at *
    generalize hG : qi ((draws t j).2 - (draws t j).1) = GAP at *
    generalize hL : qi (draws t j).1 = LO at *
    generalize hH : qi (draws t j).2 = HI at *
    generalize (draws t j).1.toNat = lo at *
    generalize (draws t j).2.toNat = hi at *
    generalize qi (mulQ M M).1 = H at *
    generalize qi (mulQ M M).2 = L at *
    generalize qi p = PP at *
    generalize hMM : qi M = MM at *
    subst hlo hhi hmm hg
    clear hd hk1 hk2 hres key hF1 hm q3 H0 H1
    have G := Lib.hid (And.intro hM (And.intro hG (And.intro hL (And.intro hH hMM))))
    clear hM hG hL hH hMM
    obtain ⟨_, _, gL, gH, gM⟩ := G.out
    have GL := Lib.hid gL
    have GH := Lib.hid gH
    have GM := Lib.hid gM
    clear gL gH gM
    clear f2
    simp only [show (((lo + hi) / 2 : Nat) : Int) = ((lo : Int) + hi) / 2 by omega] at hmu q5
    by_cases c : (1 : Int) < (hi : Int) - lo
    · by_cases s1 : PP < H
      · have E := Lib.hid (K1.out c (ht.trans (sq1 s1)))
        clear ht
        go_wp2_with (go_at_call 63; refine (hmu _).mono ?_; rintro e w2 ⟨rfl, rfl⟩)
        go_roundw
        case rel =>
          refine ⟨j + 1, ?_, ?_, HB.out⟩
          · rw [E.out, GL.out]
          · rw [E.out, GM.out, show (((lo + hi) / 2 : Nat) : Int) = ((lo : Int) + hi) / 2 by omega]
        case measure => simp [intOf]; omega
      · by_cases s2 : H = PP
        · by_cases s3 : 0 < L
          · have E := Lib.hid (K1.out c (ht.trans (sq2 s1 s2 s3)))
            clear ht
            go_wp2_with (go_at_call 63; refine (hmu _).mono ?_; rintro e w2 ⟨rfl, rfl⟩)
            go_roundw
            case rel =>
              refine ⟨j + 1, ?_, ?_, HB.out⟩
              · rw [E.out, GL.out]
              · rw [E.out, GM.out, show (((lo + hi) / 2 : Nat) : Int) = ((lo : Int) + hi) / 2 by omega]
            case measure => simp [intOf]; omega
          · have E := Lib.hid (K2.out c (ht.trans (sq3 s1 s3)))
            have s4 : decide (0 < L) = false := decide_eq_false s3
            clear ht s3
            go_wp2_with (go_at_call 63; refine (hmu _).mono ?_; rintro e w2 ⟨rfl, rfl⟩)
            go_roundw
            case rel =>
              refine ⟨j + 1, ?_, ?_, HB.out⟩
              · rw [E.out, GM.out, show (((lo + hi) / 2 : Nat) : Int) = ((lo : Int) + hi) / 2 by omega]
              · rw [E.out, GH.out]
            case measure => simp [intOf]; omega
        · have E := Lib.hid (K2.out c (ht.trans (sq4 s1 s2)))
          have s5 : (H == PP) = false := by simpa using s2
          clear ht s2
          have C := Lib.hid (And.intro c f1)
          go_wp2_with fail
          refine (hmu _).mono ?_
          rintro e w2 ⟨rfl, rfl⟩
          have s1' : decide (PP < H) = false := decide_eq_false (by omega)
          clear hmu q1 q2 q3n hq3 q5 c f1 s1
          go_wp2
          go_roundw
          case rel =>
            refine ⟨j + 1, ?_, ?_, HB.out⟩
            · rw [E.out, GM.out, show (((lo + hi) / 2 : Nat) : Int) = ((lo : Int) + hi) / 2 by omega]
            · rw [E.out, GH.out]
          case measure =>
            obtain ⟨c, f1⟩ := C.out
            simp [intOf]; omega
    · have hw := KR.out (KE.out (by omega))
      clear ht hq3 q2 hmu
      go_wp2
      go_ret
      exact ⟨rfl, HB.out⟩
end Go.Proofs.Ytffpmdgchpcaaaa
