/- The document's answer: words turned; products in two words; roots, by trying. -/
import Derived.Test.YtffpmdgchpcaaaaSe
import Derived.StillTailTactics
namespace Go.Proofs.Ytffpmdgchpcaaaa
open Go.RowKit

set_option maxHeartbeats 400000 in
theorem refTurned_any (x : Wd) (n : Nat) (w : World) (h1 : 0 < n) (h2 : n < 32) :
    Calls Try.prog 64 #[.int .u32 (wi x), .int .i64 (n:Int)] w fun e w' => e = .returned (.int .u32 (wi (rot n x))) ∧ w' = w.drew := by
  obtain ⟨m, hm⟩ : ∃ m : Nat, m = 32 - n := ⟨_, rfl⟩
  have e : bits .or .u32 (wi x / 2 ^ n) (wi x * 2 ^ m % 4294967296) = wi (rot n x) := by
    rw [wi_shl, wi_shr, wi_or, hm]; rfl
  have e2 : (32 : Int) - n = (m : Int) := by omega
  have hm2 : m < 32 := by omega
  have e3 : IntKind.i64.wrap (32 - (n : Int)) = (m : Int) := by rw [e2]; simp only [IntKind.wrap, IntKind.bits, IntKind.signed]; simp; omega
  have e4 : ¬ ((32 - (n : Int)) < 0) := by omega
  have e5 : (32 - (n : Int)).toNat = m := by omega
  have E := Lib.hid e
  clear hm e e2
  go_enter Try.func64, Try.ntmps64
  go_wp2
  refine wp_region_still_lit (by kernel_rfl) (by kernel_rfl) ?_
  repeat still_step
  refine wpStill_nil ?_
  go_wp2
  go_ret
  exact ⟨by rw [← E.out]; rfl, rfl⟩

abbrev Qd := BitVec 64
/-- a word of 64 bits, as the number that a value holds -/
def qi (x : Qd) : Int := (x.toNat : Int)
theorem qi_nonneg (x : Qd) : 0 ≤ qi x := by unfold qi; omega
theorem qi_lt (x : Qd) : qi x < 18446744073709551616 := by have := x.isLt; unfold qi; omega
theorem qi_of (n : Nat) (h : n < 18446744073709551616) : qi (BitVec.ofNat 64 n) = (n : Int) := by
  unfold qi; rw [BitVec.toNat_ofNat, Nat.mod_eq_of_lt (by omega)]
@[go_sem] theorem qw_add (x y : Qd) : IntKind.u64.wrap (qi x + qi y) = qi (x + y) := by
  rw [IntKind.wrap_u64]; simp only [qi, BitVec.toNat_add]; omega
@[go_sem] theorem qw_sub (x y : Qd) : IntKind.u64.wrap (qi x - qi y) = qi (x - y) := by
  rw [IntKind.wrap_u64]
  have := x.isLt; have := y.isLt
  simp only [qi, BitVec.toNat_sub]; omega
@[go_sem] theorem qw_mul (x y : Qd) : IntKind.u64.wrap (qi x * qi y) = qi (x * y) := by
  rw [IntKind.wrap_u64]
  simp only [qi, BitVec.toNat_mul]
  rw [Int.natCast_emod, Int.natCast_mul]; rfl
@[go_sem] theorem qw_and (x : Qd) : bits .and .u64 (qi x) 4294967295 = qi (x &&& 4294967295#64) := by
  have := x.isLt
  simp only [qi]
  rw [show (4294967295 : Int) = ((4294967295 : Nat) : Int) from rfl, u64_and_nat _ _ (by omega) (by omega), BitVec.toNat_and]; rfl
@[go_sem] theorem qw_or (x y : Qd) : bits .or .u64 (qi x) (qi y) = qi (x ||| y) := by
  have := x.isLt; have := y.isLt
  simp only [qi]; rw [u64_or_nat _ _ (by omega) (by omega), BitVec.toNat_or]
@[go_sem] theorem qw_shr (x : Qd) : qi x / (4294967296 : Int) = qi (x >>> 32) := by
  simp only [qi, BitVec.toNat_ushiftRight, Nat.shiftRight_eq_div_pow]; omega
/-- a word of 64 bits, 32 places up -/
def qshl (x : Qd) : Qd := x <<< 32
@[go_sem] theorem qw_shl (x : Qd) : IntKind.u64.wrap (qi x * (4294967296 : Int)) = qi (qshl x) := by
  unfold qshl
  rw [IntKind.wrap_u64]; simp only [qi, BitVec.toNat_shiftLeft, Nat.shiftLeft_eq]; omega
@[go_sem] theorem qw_half (x : Qd) : qi x / (2 : Int) = qi (x >>> 1) := by
  simp only [qi, BitVec.toNat_ushiftRight, Nat.shiftRight_eq_div_pow]; omega

@[go_sem] theorem qw_add1 (x : Qd) : IntKind.u64.wrap (qi x + 1) = qi (x + 1) := qw_add x 1
@[go_sem] theorem qw_self (x : Qd) : IntKind.u64.wrap (qi x) = qi x := by
  rw [IntKind.wrap_u64]; have := x.isLt; unfold qi; omega
/-- a product, in two words -/
def mulQ (a b : Qd) : Qd × Qd :=
  let al := a &&& 4294967295#64
  let ah := a >>> 32
  let bl := b &&& 4294967295#64
  let bh := b >>> 32
  let ll := al * bl
  let lh := al * bh
  let hl := ah * bl
  let mid := ll >>> 32 + (lh &&& 4294967295#64) + (hl &&& 4294967295#64)
  (ah * bh + lh >>> 32 + hl >>> 32 + mid >>> 32, qshl mid ||| (ll &&& 4294967295#64))

set_option maxHeartbeats 1000000 in
theorem refMul_any (a b : Qd) (w : World) :
    Calls Try.prog 63 #[.int .u64 (qi a), .int .u64 (qi b)] w fun e w' => e = .returned (.tuple #[.int .u64 (qi (mulQ a b).1), .int .u64 (qi (mulQ a b).2)]) ∧ w' = w := by
  go_enter Try.func63, Try.ntmps63
  go_wp2
  go_ret2
  exact ⟨rfl, rfl⟩

/-- is the cube of r above p (35 bits below the point 32)? -/
def cubeR (u v : Qd × Qd) (p : Qd) : Bool :=
  let mid := u.1 + v.2
  let top := if qi mid < qi u.1 then v.1 + 1 else v.1
  if 0 < qi top then true
  else if qi (qshl p) < qi mid then true else qi mid == qi (qshl p) && decide (0 < qi u.2)
def cubeQ (r p : Qd) : Bool := cubeR (mulQ (mulQ r r).2 r) (mulQ (mulQ r r).1 r) p

set_option maxHeartbeats 1000000 in
theorem cubeAbove_any (r p : Qd) (w : World) :
    Calls Try.prog 62 #[.int .u64 (qi r), .int .u64 (qi p)] w fun e w' => e = .returned (.bool (cubeQ r p)) ∧ Below w.heap.size w w' := by
  obtain ⟨R, hR⟩ : ∃ R, R = cubeQ r p := ⟨_, rfl⟩
  rw [← hR]
  have HR := Lib.hid hR
  clear hR
  unfold cubeQ at HR
  go_enter Try.func62, Try.ntmps62
  go_wp2_with fail
  refine (refMul_any _ _ _).mono ?_
  rintro e w1 ⟨rfl, rfl⟩
  generalize mulQ r r = s at *
  go_wp2_with fail
  refine (refMul_any _ _ _).mono ?_
  rintro e w1 ⟨rfl, rfl⟩
  generalize mulQ s.2 r = u at *
  go_wp2_with fail
  refine (refMul_any _ _ _).mono ?_
  rintro e w1 ⟨rfl, rfl⟩
  generalize mulQ s.1 r = v at *
  have m1 : IntKind.u64.wrap (qi u.1 + qi v.2) = qi (u.1 + v.2) := qw_add _ _
  have t1 : IntKind.u64.wrap (qi v.1 + 1) = qi (v.1 + 1) := qw_add1 _
  have t0 : IntKind.u64.wrap (qi v.1) = qi v.1 := qw_self _
  have p1 : IntKind.u64.wrap (qi p * (4294967296 : Int)) = qi (qshl p) := qw_shl _
  have HR := HR.out
  have hr : R = if 0 < (if qi (u.1 + v.2) < qi u.1 then qi (v.1 + 1) else qi v.1) then true else if qi (qshl p) < qi (u.1 + v.2) then true else (qi (u.1 + v.2) == qi (qshl p)) && decide (0 < qi u.2) := by
    rw [HR]; unfold cubeR; dsimp only; split <;> rfl
  clear HR
  have hb := qi_nonneg v.1
  have hb1 := qi_nonneg (v.1 + 1)
  generalize qi (u.1 + v.2) = MID at *
  generalize qi (v.1 + 1) = TOP at *
  generalize qi (qshl p) = PS at *
  generalize qi u.1 = U1 at *
  generalize qi u.2 = U2 at *
  generalize qi v.1 = V1 at *
  generalize qi v.2 = V2 at *
  generalize qi p = PP at *
  by_cases c1 : MID < U1
  · by_cases c2 : 0 < TOP
    · simp only [c1, c2, if_true] at hr
      have HR := Lib.hid hr
      clear hr
      go_wp2
      go_ret
      exact ⟨by rw [HR.out]; rfl, Below.refl _ _⟩
    · by_cases c3 : PS < MID
      · simp only [c1, c2, c3, if_true, if_false] at hr
        have HR := Lib.hid hr
        clear hr
        go_wp2
        go_ret
        exact ⟨by rw [HR.out]; rfl, Below.refl _ _⟩
      · by_cases c4 : MID = PS
        · subst c4
          simp only [c1, c2, c3, if_true, if_false, Bool.true_and, beq_self_eq_true] at hr
          have HR := Lib.hid hr
          clear hr
          go_wp2
          go_ret
          exact ⟨by rw [HR.out]; rfl, Below.refl _ _⟩
        · have c5 : (MID == PS) = false := by simpa using c4
          simp only [c1, c2, c3, c5, if_true, if_false, Bool.false_and] at hr
          have HR := Lib.hid hr
          clear hr
          go_wp2
          go_ret
          exact ⟨by rw [HR.out]; exact congrArg Ending.returned (congrArg Value.bool (decide_eq_false (show ¬ PS < MID by omega))), Below.refl _ _⟩
  · by_cases c2 : 0 < V1
    · simp only [c1, c2, if_true, if_false] at hr
      have HR := Lib.hid hr
      clear hr
      go_wp2
      go_ret
      exact ⟨by rw [HR.out]; rfl, Below.refl _ _⟩
    · by_cases c3 : PS < MID
      · simp only [c1, c2, c3, if_true, if_false] at hr
        have HR := Lib.hid hr
        clear hr
        go_wp2
        go_ret
        exact ⟨by rw [HR.out]; rfl, Below.refl _ _⟩
      · by_cases c4 : MID = PS
        · subst c4
          simp only [c1, c2, c3, if_false, Bool.true_and, beq_self_eq_true] at hr
          have HR := Lib.hid hr
          clear hr
          go_wp2
          go_ret
          exact ⟨by rw [HR.out]; rfl, Below.refl _ _⟩
        · have c5 : (MID == PS) = false := by simpa using c4
          simp only [c1, c2, c3, c5, if_false, Bool.false_and] at hr
          have HR := Lib.hid hr
          clear hr
          go_wp2
          go_ret
          exact ⟨by rw [HR.out]; exact congrArg Ending.returned (congrArg Value.bool (decide_eq_false (show ¬ PS < MID by omega))), Below.refl _ _⟩

/-- low and high, drawn together by a test, once -/
def draw (t : Qd → Bool) (s : Qd × Qd) : Qd × Qd :=
  if qi (s.2 - s.1) ≤ 1 then s else if t ((s.1 + s.2) >>> 1) then (s.1, (s.1 + s.2) >>> 1) else ((s.1 + s.2) >>> 1, s.2)
def draws (t : Qd → Bool) : Nat → Qd × Qd
  | 0 => (0, 68719476736)
  | n + 1 => draw t (draws t n)
theorem draws_still (t : Qd → Bool) (j : Nat) (h : qi ((draws t j).2 - (draws t j).1) ≤ 1) (k : Nat) : draws t (j + k) = draws t j := by
  induction k with
  | zero => rfl
  | succ k ih =>
    show draw t (draws t (j + k)) = _
    rw [ih]
    unfold draw
    rw [if_pos h]
theorem draws_end (t : Qd → Bool) (i j : Nat) (hi : qi ((draws t i).2 - (draws t i).1) ≤ 1) (hj : qi ((draws t j).2 - (draws t j).1) ≤ 1) : draws t i = draws t j := by
  rcases Nat.le_total i j with h | h
  · obtain ⟨k, rfl⟩ := Nat.exists_eq_add_of_le h
    rw [draws_still t i hi k]
  · obtain ⟨k, rfl⟩ := Nat.exists_eq_add_of_le h
    rw [draws_still t j hj k]
/-- low is below high, and high below 2^36 -/
def Fine (s : Qd × Qd) : Prop := s.1.toNat ≤ s.2.toNat ∧ s.2.toNat ≤ 68719476736
theorem fine_mid {s : Qd × Qd} (h : Fine s) : ((s.1 + s.2) >>> 1).toNat = (s.1.toNat + s.2.toNat) / 2 := by
  obtain ⟨h1, h2⟩ := h
  rw [BitVec.toNat_ushiftRight, BitVec.toNat_add, Nat.shiftRight_eq_div_pow]
  omega
theorem fine_gap {s : Qd × Qd} (h : Fine s) : qi (s.2 - s.1) = (s.2.toNat : Int) - s.1.toNat := by
  obtain ⟨h1, h2⟩ := h
  unfold qi
  rw [BitVec.toNat_sub]
  omega
theorem fine_draw (t : Qd → Bool) {s : Qd × Qd} (h : Fine s) : Fine (draw t s) := by
  have hm := fine_mid h
  obtain ⟨h1, h2⟩ := h
  unfold draw
  split
  · exact ⟨h1, h2⟩
  · split
    · exact ⟨by show s.1.toNat ≤ ((s.1 + s.2) >>> 1).toNat; omega, by show ((s.1 + s.2) >>> 1).toNat ≤ _; omega⟩
    · exact ⟨by show ((s.1 + s.2) >>> 1).toNat ≤ s.2.toNat; omega, h2⟩
theorem fine_draws (t : Qd → Bool) : ∀ n, Fine (draws t n)
  | 0 => ⟨by show (0 : Qd).toNat ≤ (68719476736 : Qd).toNat; decide, by show (68719476736 : Qd).toNat ≤ _; decide⟩
  | n + 1 => fine_draw t (fine_draws t n)
/-- what a root comes to: 32 bits -/
def rootOf (t : Qd → Bool) : Wd := (draws t 36).1.setWidth 32
theorem low_word (x : Qd) : IntKind.u32.wrap (qi x) = wi (x.setWidth 32) := by
  rw [ww]; unfold qi wi; rw [BitVec.toNat_setWidth]; omega

set_option maxHeartbeats 1000000 in
theorem cube_any (p : Qd) (w : World) (hend : qi ((draws (fun r => cubeQ r p) 36).2 - (draws (fun r => cubeQ r p) 36).1) ≤ 1) :
    Calls Try.prog 46 #[.int .u64 (qi p)] w fun e w' => e = .returned (.int .u32 (wi (rootOf fun r => cubeQ r p))) ∧ Below w.heap.size w w' := by
  have HE := Lib.hid hend
  clear hend
  obtain ⟨t, ht⟩ : ∃ t : Qd → Bool, t = fun r => cubeQ r p := ⟨_, rfl⟩
  have hc : ∀ r w, Calls Try.prog 62 #[.int .u64 (qi r), .int .u64 (qi p)] w fun e w' => e = .returned (.bool (t r)) ∧ Below w.heap.size w w' := fun r w => by
    rw [ht]; exact cubeAbove_any r p w
  rw [← ht] at HE ⊢
  have HT := Lib.hid ht
  have HC := Lib.hid hc
  clear ht hc
  have h0 : (0 : Int) = qi (draws t 0).1 := by show (0 : Int) = qi 0; decide
  have h1 : (68719476736 : Int) = qi (draws t 0).2 := by show (68719476736 : Int) = qi 68719476736; decide
  have H0 := Lib.hid h0
  have H1 := Lib.hid h1
  clear h0 h1
  go_enter Try.func46, Try.ntmps46
  go_wp2
  go_loopw [3, 4] (fun a b wx => ∃ j : Nat, a = .int .u64 (qi (draws t j).1) ∧ b = .int .u64 (qi (draws t j).2) ∧ Below w.heap.size w wx) (fun a b wx => (intOf b - intOf a).toNat)
  case atStart => exact ⟨0, by rw [← H0.out], by rw [← H1.out], Below.refl _ _⟩
  case round =>
    obtain ⟨j, rfl, rfl, hB⟩ := hrel
    have hF := fine_draws t j
    have hF1 := fine_draws t (j + 1)
    have hm := fine_mid hF
    have hg := fine_gap hF
    have hd : draws t (j + 1) = draw t (draws t j) := rfl
    unfold draw at hd
    have HB := Lib.hid hB
    have hend := HE.out
    have key : qi ((draws t j).2 - (draws t j).1) ≤ 1 → draws t j = draws t 36 := fun h => draws_end t j 36 h hend
    clear hB hend
    have q1 : IntKind.u64.wrap (qi (draws t j).2 - qi (draws t j).1) = qi ((draws t j).2 - (draws t j).1) := qw_sub _ _
    have q2 : IntKind.u64.wrap (qi (draws t j).1 + qi (draws t j).2) = qi ((draws t j).1 + (draws t j).2) := qw_add _ _
    have q3 : qi ((draws t j).1 + (draws t j).2) / (2 : Int) = qi (((draws t j).1 + (draws t j).2) >>> 1) := qw_half _
    have q3n := qi_nonneg ((draws t j).1 + (draws t j).2)
    have hq3 : (qi ((draws t j).1 + (draws t j).2)).tdiv 2 = qi (((draws t j).1 + (draws t j).2) >>> 1) := by rw [Int.tdiv_eq_ediv_of_nonneg q3n]; exact q3
    have ht := HC.out (((draws t j).1 + (draws t j).2) >>> 1)
    have hlo : qi (draws t j).1 = ((draws t j).1.toNat : Int) := rfl
    have hhi : qi (draws t j).2 = ((draws t j).2.toNat : Int) := rfl
    have hmm : qi (((draws t j).1 + (draws t j).2) >>> 1) = ((((draws t j).1.toNat + (draws t j).2.toNat) / 2 : Nat) : Int) := by rw [← hm]; rfl
    have hk1 : 1 < qi ((draws t j).2 - (draws t j).1) → t (((draws t j).1 + (draws t j).2) >>> 1) = true → draws t (j + 1) = ((draws t j).1, ((draws t j).1 + (draws t j).2) >>> 1) := fun h1 h2 => by
      rw [hd, if_neg (by omega), if_pos h2]
    have hk2 : 1 < qi ((draws t j).2 - (draws t j).1) → t (((draws t j).1 + (draws t j).2) >>> 1) = false → draws t (j + 1) = (((draws t j).1 + (draws t j).2) >>> 1, (draws t j).2) := fun h1 h2 => by
      rw [hd, if_neg (by omega), if_neg (by rw [h2]; decide)]
    have hres : draws t j = draws t 36 → IntKind.u32.wrap (qi (draws t j).1) = wi (rootOf t) := fun h => by rw [h, low_word]; rfl
    have K1 := Lib.hid hk1
    have K2 := Lib.hid hk2
    have KR := Lib.hid hres
    have KE := Lib.hid key
    obtain ⟨f1, f2⟩ := hF
    generalize hM : ((draws t j).1 + (draws t j).2) >>> 1 = M at *
    generalize qi ((draws t j).1 + (draws t j).2) = SUM at *
    generalize hG : qi ((draws t j).2 - (draws t j).1) = GAP at *
    generalize hL : qi (draws t j).1 = LO at *
    generalize hH : qi (draws t j).2 = HI at *
    generalize (draws t j).1.toNat = lo at *
    generalize (draws t j).2.toNat = hi at *
    generalize hMM : qi M = MM at *
    subst hlo hhi hmm hg
    clear hd hk1 hk2 hres key hF1 hm q3 H0 H1
    have G := Lib.hid (And.intro hM (And.intro hG (And.intro hL (And.intro hH hMM))))
    clear hM hG hL hH hMM
    obtain ⟨_, _, gL, gH, gM⟩ := G.out
    have GL := Lib.hid gL
    have GH := Lib.hid gH
    have GM := Lib.hid gM
    clear gL gH gM
    by_cases c : (1 : Int) < (hi : Int) - lo
    · cases htm : t M with
      | true =>
        rw [htm] at ht
        have E := Lib.hid (K1.out c htm)
        clear htm
        go_wp2_with (go_at_call 62; refine (ht _).mono ?_; rintro e w2 ⟨rfl, b2⟩)
        go_roundw
        case rel =>
          refine ⟨j + 1, ?_, ?_, HB.out.trans (b2.mono HB.out.size)⟩
          · rw [E.out, GL.out]
          · rw [E.out, GM.out, show (((lo + hi) / 2 : Nat) : Int) = ((lo : Int) + hi) / 2 by omega]
        case measure => simp [intOf]; omega
      | false =>
        rw [htm] at ht
        have E := Lib.hid (K2.out c htm)
        clear htm
        go_wp2_with (go_at_call 62; refine (ht _).mono ?_; rintro e w2 ⟨rfl, b2⟩)
        go_roundw
        case rel =>
          refine ⟨j + 1, ?_, ?_, HB.out.trans (b2.mono HB.out.size)⟩
          · rw [E.out, GM.out, show (((lo + hi) / 2 : Nat) : Int) = ((lo : Int) + hi) / 2 by omega]
          · rw [E.out, GH.out]
        case measure => simp [intOf]; omega
    · have hw := KR.out (KE.out (by omega))
      clear ht hq3 q2
      go_wp2
      go_ret
      exact ⟨rfl, HB.out⟩
end Go.Proofs.Ytffpmdgchpcaaaa
