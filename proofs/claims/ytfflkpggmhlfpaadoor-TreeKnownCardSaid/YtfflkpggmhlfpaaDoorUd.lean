/- Pure: paths that are put together; what small leaves. -/
import Derived.Test.YtfflkpggmhlfpaaDoorUb
import Derived.Test.YtfflkpggmhlfpaaDoorUc
namespace Go.Proofs.YtfflkpggmhlfpaaDoor
open Go.RowKit
theorem splitL_cat (b : List UInt8) : ∀ a : List UInt8, splitL (a ++ 47 :: b) = splitL a ++ splitL b
  | [] => by
    show splitL (47 :: b) = _
    conv => lhs; unfold splitL
    rfl
  | c :: r => by
    have ih := splitL_cat b r
    show splitL (c :: (r ++ 47 :: b)) = _
    conv => lhs; unfold splitL
    conv => rhs; arg 1; unfold splitL
    rw [ih]
    by_cases hc : c = 47
    · rw [if_pos hc, if_pos hc]; rfl
    · rw [if_neg hc, if_neg hc]
      cases hr : splitL r with
      | nil => exact absurd hr (splitL_ne r)
      | cons x t => rfl
theorem walkL_cat : ∀ (l m : List (List UInt8)) (n : Nd), walkL (l ++ m) n = (walkL l n).bind (walkL m)
  | [], m, n => rfl
  | x :: r, m, n => by
    show walkL (x :: (r ++ m)) n = _
    unfold walkL
    by_cases hi : indexL n x < 0
    · rw [if_pos hi, if_pos hi]; rfl
    · rw [if_neg hi, if_neg hi]
      cases hk : n.kids[(indexL n x).toNat]? with
      | none => rfl
      | some k => exact walkL_cat r m k
theorem findL_cat (n : Nd) (a b : List UInt8) (ha : a ≠ []) (hb : b ≠ []) : findL n (a ++ 47 :: b) = (findL n a).bind (fun m => findL m b) := by
  unfold findL
  rw [if_neg (by simp), if_neg ha, splitL_cat, walkL_cat]
  congr 1
  funext m
  rw [if_neg hb]
/-- names of thirty bytes, data of three hundred, six kids, so many levels down -/
def Cut : Nat → Nd → Prop
  | 0, _ => True
  | h + 1, n => n.name.length ≤ 30 ∧ n.data.length ≤ 300 ∧ n.kids.length ≤ 6 ∧ ∀ m ∈ n.kids, Cut h m
theorem cutL_cut : ∀ (l k : Nat) (n : Nd), Cut k (cutL l n)
  | _, 0, _ => trivial
  | 0, k + 1, n => ⟨by show (n.name.take 30).length ≤ 30; rw [List.length_take]; omega, by show (n.data.take 300).length ≤ 300; rw [List.length_take]; omega, Nat.zero_le _, fun m hm => by cases hm⟩
  | l + 1, k + 1, n => ⟨by show (n.name.take 30).length ≤ 30; rw [List.length_take]; omega, by show (n.data.take 300).length ≤ 300; rw [List.length_take]; omega,
      by show ((n.kids.take 6).map (cutL l)).length ≤ 6; rw [List.length_map, List.length_take]; omega, fun m hm => by
        have hm' : m ∈ (n.kids.take 6).map (cutL l) := hm
        obtain ⟨x, _, rfl⟩ := List.mem_map.mp hm'
        exact cutL_cut l k x⟩
theorem fold_cut (h k : Nat) (ih : ∀ n left, Cut k n → Cut k (fewerL h n left).1) : ∀ (l : List Nd) (s : List Nd × Nat), (∀ m ∈ l, Cut k m) → (∀ m ∈ s.1, Cut k m) → (∀ m ∈ (l.foldl (fewStep h) s).1, Cut k m) ∧ (l.foldl (fewStep h) s).1.length ≤ s.1.length + l.length
  | [], s, _, hs => ⟨hs, by simp⟩
  | x :: r, s, hl, hs => by
    have hx := hl x (by simp)
    have hstep : (∀ m ∈ (fewStep h s x).1, Cut k m) ∧ (fewStep h s x).1.length ≤ s.1.length + 1 := by
      unfold fewStep
      split
      · exact ⟨hs, by omega⟩
      · refine ⟨fun m hm => ?_, by simp⟩
        rcases List.mem_append.mp hm with hm | hm
        · exact hs m hm
        · rw [List.mem_singleton] at hm
          subst hm
          exact ih x _ hx
    have := fold_cut h k ih r (fewStep h s x) (fun m hm => hl m (by simp [hm])) hstep.1
    refine ⟨this.1, ?_⟩
    have h2 := this.2
    have h3 := hstep.2
    rw [List.foldl_cons, List.length_cons]
    omega
theorem fewerL_cut : ∀ (h k : Nat) (n : Nd) (left : Nat), Cut k n → Cut k (fewerL h n left).1
  | _, 0, _, _, _ => trivial
  | 0, k + 1, n, left, hc => by
    first
    | exact hc
    | exact ⟨hc.1, hc.2.1, Nat.zero_le _, fun m hm => by cases hm⟩
  | h + 1, k + 1, n, left, hc => by
    rw [fewerL_succ]
    have := fold_cut h k (fun n left => fewerL_cut h k n left) n.kids ([], left) hc.2.2.2 (fun m hm => by cases hm)
    exact ⟨hc.1, hc.2.1, Nat.le_trans this.2 (by simpa using hc.2.2.1), this.1⟩
theorem small_cut (k : Nat) (n : Nd) : Cut k (smallL n) := fewerL_cut 17 k _ 300 (cutL_cut 16 k n)
theorem Cut.slim : ∀ {k : Nat} {n : Nd}, Cut k n → Slim k n
  | 0, _, _ => trivial
  | _ + 1, _, h => ⟨Nat.le_trans h.2.2.1 (by decide), fun m hm => (h.2.2.2 m hm).slim⟩
theorem Cut.short : ∀ {k : Nat} {n : Nd}, Cut (k + 1) n → Short k n
  | 0, _, _ => trivial
  | _ + 1, _, h => fun m hm => ⟨Nat.le_trans (h.2.2.2 m hm).1 (by decide), (h.2.2.2 m hm).short⟩
end Go.Proofs.YtfflkpggmhlfpaaDoor
