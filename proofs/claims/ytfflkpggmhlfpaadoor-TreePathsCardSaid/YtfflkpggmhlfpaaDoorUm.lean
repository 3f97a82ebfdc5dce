/- Pure: what TreePaths asks of each path. -/
import Derived.Test.YtfflkpggmhlfpaaDoorUk
namespace Go.Proofs.YtfflkpggmhlfpaaDoor
open Go.RowKit
set_option maxRecDepth 100000
theorem check_zero {h : Nat} {n : Nd} (hc : checkL h n = 0) : depthL 14 n ≤ 12 ∧ mayL h n = true := by
  unfold checkL at hc
  by_cases hd : 12 < depthL 14 n
  · rw [if_pos hd] at hc; cases hc
  · rw [if_neg hd] at hc
    refine ⟨by omega, ?_⟩
    cases hq : mayL h n
    · rw [hq] at hc; simp at hc
    · rfl
theorem joinL_len : ∀ l : List (List UInt8), (∀ x ∈ l, x.length ≤ 56) → (joinL l).length ≤ 57 * l.length
  | [], _ => Nat.zero_le _
  | [x], h => by have := h x (by simp); show x.length ≤ 57 * 1; omega
  | x :: y :: r, h => by
    have h1 := h x (by simp)
    have h2 := joinL_len (y :: r) (fun z hz => h z (by simp [hz]))
    show (x ++ 47 :: joinL (y :: r)).length ≤ _
    rw [List.length_append, List.length_cons]
    rw [List.length_cons] at h2 ⊢
    rw [List.length_cons]
    omega
theorem nameOk_len {s : List UInt8} (h : nameOk s = true) : s.length ≤ 56 := by
  unfold nameOk textOk at h
  simp only [Bool.and_eq_true, decide_eq_true_eq] at h
  exact h.1.2.1
theorem way_at {h : Nat} {n : Nd} (hm : mayL h n = true) (hd : depthL 14 n ≤ 12) (k : Nat) (p : List UInt8) (hp : (pathsL h n [])[k]? = some p) :
    ∃ l m, (waysL h n)[k]? = some l ∧ splitL p = l ∧ findL n p = some m ∧ l.getLast? = some m.name ∧ l.length + 1 ≤ depthL 14 n ∧ p.length ≤ 1000 ∧ p ≠ [] := by
  rw [pathsL_ways, List.getElem?_map] at hp
  obtain ⟨l, hl, rfl⟩ := Option.map_eq_some_iff.mp hp
  have hmem := List.mem_of_getElem? hl
  have hne := waysL_ne h n l hmem
  have hok := waysL_ok h n hm l hmem
  obtain ⟨m, e1, e2, e3⟩ := walk_ways h n hm hd l hmem
  have hs : splitL ([] ++ joinL l) = l := splitL_join l hne (fun x hx => nameOk_no47 (hok x hx))
  have hj : ([] ++ joinL l) ≠ [] := joinL_ne hne hok
  refine ⟨l, m, hl, hs, ?_, e2, e3, ?_, hj⟩
  · unfold findL
    rw [if_neg hj, hs]
    exact e1
  · have := joinL_len l (fun x hx => nameOk_len (hok x hx))
    show (joinL l).length ≤ 1000
    omega
theorem way_rise {h : Nat} {n : Nd} (hm : mayL h n = true) (hd : depthL 14 n ≤ 12) (k : Nat) (p q : List UInt8) (hp : (pathsL h n [])[k]? = some p) (hq : (pathsL h n [])[k + 1]? = some q) : riseL (splitL p) (splitL q) = true := by
  obtain ⟨l, m, h1, h2, _⟩ := way_at hm hd k p hp
  obtain ⟨l', m', h1', h2', _⟩ := way_at hm hd (k + 1) q hq
  rw [h2, h2']
  obtain ⟨i1, e1⟩ := List.getElem?_eq_some_iff.mp h1
  obtain ⟨i2, e2⟩ := List.getElem?_eq_some_iff.mp h1'
  have := (List.pairwise_iff_getElem.mp (ways_rise h n hm)) k (k + 1) i1 i2 (by omega)
  rwa [e1, e2] at this
theorem Cut.renamed {n : Nd} (h : ∀ k, Cut k n) : ∀ k, Cut k ⟨[], n.kind, n.exec, n.data, n.kids⟩
  | 0 => trivial
  | k + 1 => ⟨Nat.zero_le _, (h (k + 1)).2.1, (h (k + 1)).2.2.1, (h (k + 1)).2.2.2⟩
theorem Has.alike' {S : Nat → Prop} {w : World} {h : Nat} {a b : Nd} {ao : Option Addr} (hH : Has S w h a ao) (hk : b.kids = a.kids) : Has S w h b ao := by
  cases h with
  | zero => exact hH
  | succ h => exact ⟨by rw [hk]; exact hH.1, fun i m hm => hH.2 i m (by rw [← hk]; exact hm)⟩
theorem strs_lst {w : World} {x : Option Addr} {c : Nat} {ts : List (List UInt8)} (h : Strs w (.slice x ts.length c) ts) : Lst w x ts := fun j t hj => by
  obtain ⟨ao, cap, e, hh⟩ := h
  cases e
  exact hh j t hj
theorem at_lst {w : World} {b : Nat} {ts : List (List UInt8)} (h : At w b 9 (ts.map fun t => .string (bs t))) : Lst w (some ⟨b, 0, none⟩) ts := fun j t hj => by
  refine ⟨_, rfl, ?_⟩
  rw [Addr.add0]
  exact h.cell j _ (by rw [List.getElem?_map, hj]; rfl)
end Go.Proofs.YtfflkpggmhlfpaaDoor
