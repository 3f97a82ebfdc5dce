/- Pure: what stands behind a path's last stroke. -/
import Derived.Test.YtdpeblchndfdaaaMu
namespace Go.Proofs.Ytdpeblchndfdaaa
open Go.RowKit
set_option maxRecDepth 100000
def lastL (p : List UInt8) : Nat := (p.reverse.takeWhile (· ≠ 47)).length
theorem tw_facts : ∀ r : List UInt8, (r.takeWhile (· ≠ 47)).length ≤ r.length ∧ (∀ i, i < (r.takeWhile (· ≠ 47)).length → ∀ c, r[i]? = some c → c ≠ 47) ∧ ((r.takeWhile (· ≠ 47)).length < r.length → r[(r.takeWhile (· ≠ 47)).length]? = some 47)
  | [] => ⟨Nat.le_refl _, fun i hi => by simp at hi, fun h => by simp at h⟩
  | c :: r => by
    obtain ⟨h1, h2, h3⟩ := tw_facts r
    by_cases hc : c = 47
    · subst hc
      simp
    · have e : ((c :: r).takeWhile (· ≠ 47)) = c :: r.takeWhile (· ≠ 47) := by rw [List.takeWhile_cons_of_pos (by simpa using hc)]
      rw [e, List.length_cons, List.length_cons]
      refine ⟨by omega, fun i hi d hd => ?_, fun h => ?_⟩
      · cases i with
        | zero => simp only [List.getElem?_cons_zero, Option.some.injEq] at hd; rw [← hd]; exact hc
        | succ i => exact h2 i (by omega) d (by simpa using hd)
      · rw [List.getElem?_cons_succ]
        exact h3 (by omega)
theorem lastL_le (p : List UInt8) : lastL p ≤ p.length := by
  have := (tw_facts p.reverse).1
  rw [List.length_reverse] at this
  exact this
theorem last_lt {p : List UInt8} {i : Nat} {c : UInt8} (h : p.length - lastL p ≤ i) (hc : p[i]? = some c) : c ≠ 47 := by
  have hi := (List.getElem?_eq_some_iff.1 hc).1
  have hl := lastL_le p
  refine (tw_facts p.reverse).2.1 (p.length - 1 - i) (by show p.length - 1 - i < lastL p; omega) c ?_
  rw [List.getElem?_reverse (by omega), ← hc]
  congr 1
  omega
theorem last_at {p : List UInt8} (h : lastL p < p.length) : p[p.length - lastL p - 1]? = some 47 := by
  have := (tw_facts p.reverse).2.2 (by rw [List.length_reverse]; exact h)
  change p.reverse[lastL p]? = some 47 at this
  rw [List.getElem?_reverse h] at this
  rw [← this]
  congr 1
  omega
theorem lastL_app (a nm : List UInt8) (ha : a = [] ∨ ∃ b, a = b ++ [47]) (hn : (47 : UInt8) ∉ nm) : lastL (a ++ nm) = nm.length := by
  unfold lastL
  rw [List.reverse_append]
  have hall : ∀ x ∈ nm.reverse, (decide (x ≠ 47)) = true := fun x hx => by
    simp only [decide_eq_true_eq]
    rintro rfl
    exact hn (List.mem_reverse.mp hx)
  rcases ha with rfl | ⟨b, rfl⟩
  · have h := List.takeWhile_append_of_pos (l₂ := []) hall
    rw [List.append_nil, List.takeWhile_nil, List.append_nil] at h
    rw [List.reverse_nil, List.append_nil, h, List.length_reverse]
  · rw [List.takeWhile_append_of_pos hall, List.reverse_append]
    simp
def lastSum (ps : List (List UInt8)) : Nat := (ps.map lastL).sum
theorem lastSum_app (a b : List (List UInt8)) : lastSum (a ++ b) = lastSum a + lastSum b := by unfold lastSum; rw [List.map_append, List.sum_append]
theorem lastSum_snoc (a : List (List UInt8)) (p : List UInt8) : lastSum (a ++ [p]) = lastSum a + lastL p := by rw [lastSum_app]; unfold lastSum; simp
theorem pathsL_succ (h : Nat) (n : Nd) (a : List UInt8) : pathsL (h + 1) n a = if n.kind ≠ 2 then [] else n.kids.flatMap (fun k => (a ++ k.name) :: pathsL h k (a ++ k.name ++ [47])) := rfl
/-- the names that paths tell -/
theorem paths_names : ∀ (h v : Nat) (n : Nd) (a : List UInt8), mayL h n = true → depthL 14 n ≤ 12 → (a = [] ∨ ∃ b, a = b ++ [47]) → lastSum (pathsL h n a) + n.name.length = namesL (nodesL h v n) ∧ (pathsL h n a).length + 1 = (nodesL h v n).length
  | 0, _, _, _, hm, _, _ => by cases hm
  | h + 1, v, n, a, hm, hd, ha => by
    rw [nodesL_succ, if_neg (by omega), pathsL_succ]
    have hn1 : namesL ((v, n) :: n.kids.flatMap (nodesL h (v + 1))) = n.name.length + namesL (n.kids.flatMap (nodesL h (v + 1))) := by unfold namesL; rw [List.map_cons, List.sum_cons]
    rw [hn1, List.length_cons]
    rcases may_cases hm with ⟨h1, h2⟩ | ⟨h1, h3, h4, h5⟩ | ⟨h1, h3, h2, h4⟩
    · rw [h1, if_pos (by decide), h2]
      exact ⟨by show 0 + _ = _ + 0; omega, rfl⟩
    · rw [if_neg (by rw [h1]; decide)]
      have key : ∀ s : List Nd, (∀ m ∈ s, mayL h m = true) → (∀ m ∈ s, nameOk m.name = true) → (∀ m ∈ s, depthL 14 m ≤ 12) →
          lastSum (s.flatMap (fun k => (a ++ k.name) :: pathsL h k (a ++ k.name ++ [47]))) = namesL (s.flatMap (nodesL h (v + 1))) ∧ (s.flatMap (fun k => (a ++ k.name) :: pathsL h k (a ++ k.name ++ [47]))).length = (s.flatMap (nodesL h (v + 1))).length := by
        intro s
        induction s with
        | nil => intro _ _ _; exact ⟨rfl, rfl⟩
        | cons m s ih =>
          intro a1 a2 a3
          obtain ⟨i1, i2⟩ := ih (fun x hx => a1 x (List.mem_cons_of_mem _ hx)) (fun x hx => a2 x (List.mem_cons_of_mem _ hx)) (fun x hx => a3 x (List.mem_cons_of_mem _ hx))
          obtain ⟨j1, j2⟩ := paths_names h (v + 1) m (a ++ m.name ++ [47]) (a1 m (List.mem_cons_self ..)) (a3 m (List.mem_cons_self ..)) (.inr ⟨_, rfl⟩)
          obtain ⟨_, _, n3⟩ := nameOk_len (a2 m (List.mem_cons_self ..))
          have hl := lastL_app a m.name ha n3
          have hc : lastSum ((a ++ m.name) :: pathsL h m (a ++ m.name ++ [47])) = lastL (a ++ m.name) + lastSum (pathsL h m (a ++ m.name ++ [47])) := by unfold lastSum; rw [List.map_cons, List.sum_cons]
          rw [List.flatMap_cons, List.flatMap_cons, lastSum_app, namesL_app, List.length_append, List.length_append, hc, hl, i1, i2, List.length_cons]
          omega
      obtain ⟨k1, k2⟩ := key n.kids (kidsOk_all h5) (kidsOk_names h5) (fun m hmm => depth_kid h1 hmm hd)
      rw [k1, k2]
      omega
    · rw [h1, if_pos (by decide), h2]
      exact ⟨by show 0 + _ = _ + 0; omega, rfl⟩
theorem may_shorts : ∀ (h : Nat) (n : Nd), mayL h n = true → Short h n
  | 0, _, _ => trivial
  | h + 1, n, hm => fun m hmm => by
    rcases may_cases hm with ⟨_, h2⟩ | ⟨_, _, _, h5⟩ | ⟨_, _, h2, _⟩
    · rw [h2] at hmm; cases hmm
    · exact ⟨by have := (nameOk_len (kidsOk_names h5 m hmm)).1; omega, may_shorts h m (kidsOk_all h5 m hmm)⟩
    · rw [h2] at hmm; cases hmm
theorem paths_short : ∀ (h : Nat) (n : Nd) (a : List UInt8), Short h n → ∀ t ∈ pathsL h n a, t.length ≤ a.length + 1001 * h
  | 0, _, _, _, t, ht => by cases ht
  | h + 1, n, a, hs, t, ht => by
    rw [pathsL_succ] at ht
    split at ht
    · cases ht
    · obtain ⟨m, hm, ht⟩ := List.mem_flatMap.mp ht
      obtain ⟨h1, h2⟩ := hs m hm
      rcases List.mem_cons.mp ht with rfl | ht
      · rw [List.length_append]; omega
      · have := paths_short h m (a ++ m.name ++ [47]) h2 t ht
        simp only [List.length_append, List.length_cons, List.length_nil] at this
        omega
theorem lastSum_take (ps : List (List UInt8)) (k : Nat) : lastSum (ps.take k) ≤ lastSum ps := by
  conv => rhs; rw [← List.take_append_drop k ps, lastSum_app]
  omega
/-- what NarSize compares -/
theorem size_facts {n : Nd} (hc : checkL 15 n = 0) :
    eachL 15 n = pathsL 15 n [] ∧ (pathsL 15 n []).length ≤ 2000 ∧ lastSum (pathsL 15 n []) ≤ 112000 ∧
      bytesL (nodesL 15 1 n) + lastSum (pathsL 15 n []) + (nodesL 15 1 n).length ≤ (headB ++ encL 15 n).length ∧ (headB ++ encL 15 n).length ≤ bytesL (nodesL 15 1 n) + lastSum (pathsL 15 n []) + 8 * (nodesL 15 1 n).length + 20 := by
  obtain ⟨h1, h2, h3, h4, h5⟩ := check_may hc
  obtain ⟨e1, e2⟩ := enc_len 15 1 n h3 h1 (by omega) (by omega)
  obtain ⟨p1, p2⟩ := paths_names 15 1 n [] h3 h1 (.inl rfl)
  have hn := names_le (may_names 15 1 n h3 (by rw [h2]; decide))
  have hh : headB.length = 11 := by decide +kernel
  have h0 : n.name.length = 0 := by rw [h2]; rfl
  refine ⟨by unfold eachL; rw [if_neg (by omega)], by omega, by omega, ?_, ?_⟩
  · rw [List.length_append]; omega
  · rw [List.length_append]; omega
end Go.Proofs.Ytdpeblchndfdaaa
