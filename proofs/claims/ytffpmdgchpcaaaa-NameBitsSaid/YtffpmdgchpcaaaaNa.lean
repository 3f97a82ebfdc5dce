/- Hashes and names of paths, in plain words. -/
import Derived.Test.YtffpmdgchpcaaaaWd
import Derived.Maps.Views
import Derived.Maps.Own
import Derived.Maps.OwnSet
namespace Go.Proofs.Ytffpmdgchpcaaaa
open Go.RowKit

/-- the letters, by their numbers -/
def lets : List UInt8 := [48, 49, 50, 51, 52, 53, 54, 55, 56, 57, 97, 98, 99, 100, 102, 103, 104, 105, 106, 107, 108, 109, 110, 112, 113, 114, 115, 118, 119, 120, 121, 122]
def isLet (c : UInt8) : Bool := lets.contains c
def hashOk (l : List UInt8) : Bool := decide (l.length = 32) && l.all isLet
/-- is a byte, as a number, between these? -/
def betw (a b c : Int) : Bool := decide (a ≤ c) && decide (c ≤ b)
/-- is it one of these? -/
def amg (l : List UInt8) (c : UInt8) : Bool := l.contains c
/-- the four kinds of bytes of a name -/
def kindB (c : UInt8) : Nat → Bool
  | 0 => betw 97 122 c.toNat
  | 1 => betw 65 90 c.toNat
  | 2 => betw 48 57 c.toNat
  | 3 => amg [43, 45, 46, 95] c
  | _ => false
def nameB (c : UInt8) : Bool := kindB c 0 || kindB c 1 || kindB c 2 || kindB c 3
/-- what Check answers -/
def chk (l : List UInt8) : Int := if 20 < l.length then 3 else if l = [] ∨ l.head? = some 46 then 2 else if l.all nameB then 0 else 2
/-- is it a path? -/
def pathOk (l : List UInt8) : Bool := decide (32 ≤ l.length) && hashOk (l.take 32) && decide ((l.drop 32).head? = some 45) && decide (chk (l.drop 33) = 0)

theorem chk_cases (l : List UInt8) : chk l = 0 ∨ chk l = 2 ∨ chk l = 3 := by unfold chk; split <;> (try split) <;> (try split) <;> simp
theorem chk_zero {l : List UInt8} (h : chk l = 0) : l.length ≤ 20 ∧ l ≠ [] ∧ l.head? ≠ some 46 ∧ l.all nameB = true := by
  unfold chk at h
  by_cases h1 : 20 < l.length
  · rw [if_pos h1] at h; omega
  · rw [if_neg h1] at h
    by_cases h2 : l = [] ∨ l.head? = some 46
    · rw [if_pos h2] at h; omega
    · rw [if_neg h2] at h
      by_cases h3 : l.all nameB = true
      · exact ⟨by omega, fun e => h2 (.inl e), fun e => h2 (.inr e), h3⟩
      · rw [if_neg h3] at h; omega

/-- the map of the letters, as far as n -/
def lm : Nat → DataW Unit
  | 0 => .map []
  | n + 1 => (lm n).put (.int .u8 ((lets[n]?.getD 0).toNat : Int)) (.lit (.int .i64 (n : Int)))
theorem lm_isMap (n : Nat) : Maps.IsMap (lm n) := by
  cases n with
  | zero => exact Maps.isMap_empty
  | succ n =>
    show Maps.IsMap ((lm n).put _ _)
    exact (lm_isMap n).put _ _
theorem has_lm (c : UInt8) (n : Nat) (hn : n ≤ 32) : Maps.has (lm n) (.int .u8 (c.toNat : Int)) = (lets.take n).contains c := by
  induction n with
  | zero => rfl
  | succ n ih =>
    have hl : n < lets.length := by show n < 32; omega
    have ht : (lets.take (n + 1)).contains c = ((lets.take n).contains c || c == lets[n]) := by
      rw [List.take_succ_eq_append_getElem hl, List.contains_append, List.contains_cons, List.contains_nil, Bool.or_false]
    rw [ht]
    show Maps.has ((lm n).put (.int .u8 ((lets[n]?.getD 0).toNat : Int)) _) _ = _
    rw [List.getElem?_eq_getElem hl]
    by_cases e : c = lets[n]
    · subst e
      rw [show (some lets[n]).getD 0 = lets[n] from rfl, Maps.has_put_same (lm_isMap n) (by trivial)]
      rw [beq_self_eq_true, Bool.or_true]
    · rw [Maps.has_put_other, ih (by omega)]
      · rw [beq_eq_false_iff_ne.2 e, Bool.or_false]
      · intro h
        apply e
        have : (c.toNat : Int) = (lets[n].toNat : Int) := by simpa using h
        exact UInt8.toNat.inj (by omega)
theorem has_lets (c : UInt8) : Maps.has (lm 32) (.int .u8 (c.toNat : Int)) = isLet c := by
  rw [has_lm c 32 (by omega)]
  rfl
end Go.Proofs.Ytffpmdgchpcaaaa
