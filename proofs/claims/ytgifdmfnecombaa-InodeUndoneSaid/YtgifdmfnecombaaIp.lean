/- isNotAbove: its closure climbs. -/
import Derived.Test.YtgifdmfnecombaaIo
namespace Go.Proofs.Ytgifdmfnecombaa
open Go.RowKit
set_option maxRecDepth 100000
def upF (T : Tab) (a : Int) : Int := match T.f a with
  | some i => i.up
  | none => 0
/-- whether one meets j on the way up from a, the root counted in -/
def climbT (T : Tab) (j : Int) : Nat → Int → Bool
  | 0, a => decide (a = j)
  | n + 1, a => if a = j then true else if a = 1 then false else climbT T j n (upF T a)
/-- P's directories all lie below the root, at these depths -/
structure Lies (T : Tab) (P : Int → Prop) (dp : Int → Nat) : Prop where
  up : ∀ a, P a → a ≠ 1 → ∃ i, T.f a = some i ∧ P i.up ∧ dp i.up < dp a
  wf : ∀ a, P a → (Lit.int .i64 a).wf = true
theorem climb_more {T : Tab} {P : Int → Prop} {dp : Int → Nat} (h : Lies T P dp) (j : Int) : ∀ n a, P a → dp a ≤ n → climbT T j n a = climbT T j (dp a) a := by
  intro n
  induction n using Nat.strongRecOn with
  | _ n ih =>
    intro a ha hn
    by_cases h1 : a = 1
    · subst h1
      have : ∀ m, climbT T j m 1 = decide ((1 : Int) = j) := by
        intro m
        cases m with
        | zero => rfl
        | succ m => unfold climbT; by_cases e : (1 : Int) = j <;> simp [e]
      rw [this, this]
    · obtain ⟨i, hi, hp, hd⟩ := h.up a ha h1
      have hu : upF T a = i.up := by unfold upF; rw [hi]
      cases n with
      | zero => omega
      | succ m =>
        cases hda : dp a with
        | zero => omega
        | succ d =>
          unfold climbT
          rw [hu]
          by_cases e : a = j
          · simp [e]
          · simp only [e, h1, if_false]
            rw [ih m (by omega) i.up hp (by omega), ih d (by omega) i.up hp (by omega)]
def aboveE (T : Tab) (j : Int) (dp : Int → Nat) (a : Int) : Int := if climbT T j (dp a) a = true then 2 else 0
theorem above_here (T : Tab) (j : Int) (dp : Int → Nat) : aboveE T j dp j = 2 := by
  unfold aboveE
  cases dp j with
  | zero => simp [climbT]
  | succ n => simp [climbT]
theorem above_root (T : Tab) (j : Int) (dp : Int → Nat) (h : (1 : Int) ≠ j) : aboveE T j dp 1 = 0 := by
  unfold aboveE
  cases dp 1 with
  | zero => simp [climbT, h]
  | succ n => simp [climbT, h]
theorem above_up {T : Tab} {P : Int → Prop} {dp : Int → Nat} (h : Lies T P dp) (j a : Int) (ha : P a) (h1 : a ≠ 1) (hj : a ≠ j) (i : Ino) (hi : T.f a = some i) (hp : P i.up) (hd : dp i.up < dp a) : aboveE T j dp a = aboveE T j dp i.up := by
  unfold aboveE
  have hu : upF T a = i.up := by unfold upF; rw [hi]
  have : climbT T j (dp a) a = climbT T j (dp i.up) i.up := by
    cases hda : dp a with
    | zero => omega
    | succ d =>
      rw [climbT]
      simp only [hj, h1, if_false]
      rw [hu]
      exact climb_more h j d i.up hp (by omega)
  rw [this]
theorem isNotAbove1_any (base : Nat) (w : World) (tb : Nat) (T : Tab) (p : Place) (h : TabAt base w tb T p) (k : Int) (hk : (Lit.int .i64 k).wf = true) (s : List UInt8) (hs : s.length ≤ maxLen) (j : Int) (hj : findT T k s = some j) (P : Int → Prop) (dp : Int → Nat) (hL : Lies T P dp) (a : Int) (ha : P a) (b1 b2 b3 b4 : Nat) (h1 : At w b1 26 [tabV tb]) (h2 : At w b2 3 [.int .i64 k]) (h3 : At w b3 9 [.string (bs s)]) (h4 : At w b4 3 [.int .i64 a]) :
    Calls Try.prog 62 #[.pointer (some ⟨b1, 0, none⟩), .pointer (some ⟨b2, 0, none⟩), .pointer (some ⟨b3, 0, none⟩), .pointer (some ⟨b4, 0, none⟩)] w fun e w' => e = .returned (.int .i64 (aboveE T j dp a)) ∧ Below w.heap.size w w' := by
  have c1 := h1.cell 0 _ rfl
  have c2 := h2.cell 0 _ rfl
  have c3 := h3.cell 0 _ rfl
  have HH := Lib.hid h
  have H1 := Lib.hid h1
  have H4 := Lib.hid h4
  have HJ := Lib.hid hj
  have HL := Lib.hid hL
  obtain ⟨r, hr⟩ : ∃ r : Int, r = aboveE T j dp a := ⟨_, rfl⟩
  rw [← hr]
  have HR := Lib.hid hr.symm
  have HA := Lib.hid ha
  clear h h1 h2 h3 h4 hr hj hL ha
  go_enter Try.func62, Try.ntmps62
  go_wp2_with fail
  refine (find_any base w tb T p HH.out k hk s hs).mono ?_
  rintro e w1 ⟨rfl, b⟩
  rw [HJ.out]
  have HB := Lib.hid b
  have c4 := (H4.out.below b H4.out.lt).cell 0 _ rfl
  have hwz := b.size
  clear b c1 c2 c3
  simp only [Option.getD, Option.isSome]
  go_wp2_with fail
  go_loopw [7] (fun v wr => ∃ x : Int, Hid (P x) ∧ v = .int .i64 x ∧ Hid (aboveE T j dp x = r) ∧ Below w.heap.size w wr) (fun v _ => dp (intOf v))
  case atStart => exact ⟨a, HA, rfl, HR, HB.out⟩
  clear HB c4 hwz
  case round =>
    obtain ⟨x, HP, rfl, HE, hB⟩ := hrel
    have HB := Lib.hid hB
    have d1 := (H1.out.below hB H1.out.lt).cell 0 _ rfl
    unfold tabV at d1
    have hwz := hB.size
    clear hB
    by_cases e : x = j
    · subst e
      have HE2 := Lib.hid (show r = 2 by rw [← HE.out]; exact above_here T x dp)
      clear HE
      go_wp2_with fail
      refine (unless_any false 2 wr).mono ?_
      rintro e w2 ⟨rfl, rfl⟩
      go_wp2_with fail
      go_ret
      exact ⟨by rw [HE2.out]; rfl, HB.out⟩
    · have e1 : (x != j) = true := by simpa using e
      have HX := Lib.hid e
      clear e
      by_cases q : x = 1
      · subst q
        have HE2 := Lib.hid (show r = 0 by rw [← HE.out]; exact above_root T j dp HX.out)
        clear HE
        go_wp2_with fail
        refine (unless_any true 2 wr).mono ?_
        rintro e w2 ⟨rfl, rfl⟩
        go_wp2_with fail
        go_ret
        exact ⟨by rw [HE2.out]; rfl, HB.out⟩
      · have e2 : (x != 1) = true := by simpa using q
        have T1 := Lib.hid (HH.out.below HB.out)
        obtain ⟨i, hi, hp, hd⟩ := HL.out.up x HP.out q
        have HE2 := Lib.hid ((above_up HL.out j x HP.out q HX.out i hi hp hd).symm.trans HE.out)
        have HPP := Lib.hid hp
        have hs2 := T1.out.s x
        rw [hi] at hs2
        obtain ⟨c, hg⟩ : ∃ c, p.g x = some c := Option.isSome_iff_exists.mp hs2
        have hl := T1.out.i.get x (HL.out.wf x HP.out)
        rw [hg] at hl
        simp only [ptrV] at hl
        have c0 := T1.out.t.cell 0 _ rfl
        have c5 := (T1.out.o x c i hg hi).a.cell 4 _ rfl
        have HD := Lib.hid hd
        clear q hi hp hd hs2 hg HE
        go_wp2_with fail
        go_roundw
        case rel => exact ⟨i.up, HPP, rfl, HE2, HB.out⟩
        case measure => simp only [intOf]; exact HD.out
end Go.Proofs.Ytgifdmfnecombaa
