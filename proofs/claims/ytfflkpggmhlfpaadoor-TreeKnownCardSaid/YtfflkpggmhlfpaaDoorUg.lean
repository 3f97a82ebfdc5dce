/- Pure: what TreeSame asks of a node and of one that is otherwise. -/
import Derived.Test.YtfflkpggmhlfpaaDoorUe
namespace Go.Proofs.YtfflkpggmhlfpaaDoor
open Go.RowKit
set_option maxRecDepth 100000
/-- so many levels hold it -/
def Lev : Nat → Nd → Prop
  | 0, _ => False
  | h + 1, n => ∀ m ∈ n.kids, Lev h m
theorem Has.lev {S : Nat → Prop} {w : World} : ∀ (h : Nat) (n : Nd) (ao : Option Addr), Has S w h n ao → Lev h n
  | 0, _, _, h => h
  | h + 1, n, ao, ⟨_, h2⟩ => fun m hm => by
    obtain ⟨i, hi, e⟩ := List.mem_iff_getElem.mp hm
    obtain ⟨a, g, c, _, _, _, hH⟩ := h2 i m (by rw [← e]; exact List.getElem?_eq_getElem hi)
    exact Has.lev h m g hH
/-- neither it, nor what it has, is too deep -/
def shL : Nat → Nd → Bool
  | 0, _ => false
  | h + 1, n => n.kids.all (shL h) && decide (depthL 14 n ≤ 12)
theorem all_zip (f : Nd → Nd → Bool) : ∀ l : List Nd, (l.zip l).all (fun p => f p.1 p.2) = l.all (fun x => f x x)
  | [] => rfl
  | x :: r => by rw [List.zip_cons_cons, List.all_cons, List.all_cons, all_zip f r]
theorem sameL_self : ∀ (h : Nat) (n : Nd), sameL h n n = shL h n
  | 0, _ => rfl
  | h + 1, n => by
    unfold sameL shL eqKids
    rw [all_zip, show (fun x => sameL h x x) = shL h from funext (sameL_self h)]
    simp only [BEq.rfl, decide_true, Bool.true_and]
    exact Bool.and_comm _ _
theorem sameL_ne {h : Nat} {a b : Nd} (e : a.name ≠ b.name ∨ a.exec ≠ b.exec ∨ a.data ≠ b.data ∨ a.kids.length ≠ b.kids.length) : sameL h a b = false := by
  cases h with
  | zero => rfl
  | succ h =>
    unfold sameL eqKids
    rcases e with e | e | e | e <;> simp [e]
theorem depthL_alike (l : Nat) (a b : Nd) (hk : a.kind = b.kind) (hs : a.kids = b.kids) : depthL l a = depthL l b := by
  cases l with
  | zero => rfl
  | succ l => unfold depthL; rw [hk, hs]
theorem nodesL_alike (h v : Nat) (a b : Nd) (hk : a.kind = b.kind) (hs : a.kids = b.kids) : (nodesL h v a).length = (nodesL h v b).length := by
  cases h with
  | zero => rfl
  | succ h =>
    unfold nodesL
    rw [depthL_alike 14 a b hk hs, hs]
    split <;> rfl
theorem bytesL_cons (p : Nat × Nd) (l : List (Nat × Nd)) : bytesL (p :: l) = p.2.data.length + bytesL l := by unfold bytesL; simp
theorem bytesL_append (l m : List (Nat × Nd)) : bytesL (l ++ m) = bytesL l + bytesL m := by unfold bytesL; simp
theorem bytesL_alike (h v : Nat) (a b : Nd) (hk : a.kind = b.kind) (hs : a.kids = b.kids) (hd : depthL 14 b ≤ 12) : bytesL (nodesL (h + 1) v a) + b.data.length = bytesL (nodesL (h + 1) v b) + a.data.length := by
  unfold nodesL
  rw [depthL_alike 14 a b hk hs, hs, if_neg (by omega), if_neg (by omega), bytesL_cons, bytesL_cons]
  show a.data.length + _ + _ = b.data.length + _ + _
  omega
/-- a file more -/
def leafF (s : List UInt8) : Nd := ⟨s, 1, false, [], []⟩
theorem nodesL_more (h v : Nat) (a b : Nd) (s : List UInt8) (hs : a.kids = b.kids ++ [leafF s]) (h1 : depthL 14 a ≤ 12) (h2 : depthL 14 b ≤ 12) (hd : a.data = b.data) :
    (nodesL (h + 2) v a).length = (nodesL (h + 2) v b).length + 1 ∧ bytesL (nodesL (h + 2) v a) = bytesL (nodesL (h + 2) v b) := by
  have e : nodesL (h + 1) (v + 1) (leafF s) = [(v + 1, leafF s)] := by
    unfold nodesL
    rw [if_neg (by rw [show depthL 14 (leafF s) = 1 from rfl]; omega)]
    rfl
  have ea : nodesL (h + 2) v a = (v, a) :: (b.kids.flatMap (nodesL (h + 1) (v + 1)) ++ [(v + 1, leafF s)]) := by
    conv => lhs; unfold nodesL
    rw [if_neg (by omega), hs, List.flatMap_append, List.flatMap_cons, List.flatMap_nil, List.append_nil, e]
  have eb : nodesL (h + 2) v b = (v, b) :: b.kids.flatMap (nodesL (h + 1) (v + 1)) := by
    conv => lhs; unfold nodesL
    rw [if_neg (by omega)]
  rw [ea, eb]
  refine ⟨by simp, ?_⟩
  rw [bytesL_cons, bytesL_cons, bytesL_append, bytesL_cons]
  show a.data.length + (_ + (0 + 0)) = b.data.length + _
  rw [hd]; omega
/-- how many it has, itself among them -/
def cntL : Nat → Nd → Nat
  | 0, _ => 1
  | h + 1, n => 1 + (n.kids.map (cntL h)).sum
theorem cntL_pos : ∀ (h : Nat) (n : Nd), 1 ≤ cntL h n
  | 0, _ => Nat.le_refl _
  | h + 1, n => by unfold cntL; omega
theorem sum_le {f g : Nd → Nat} (h : ∀ m, f m ≤ g m) : ∀ l : List Nd, (l.map f).sum ≤ (l.map g).sum
  | [] => Nat.le_refl _
  | x :: r => by have := sum_le h r; have := h x; simp only [List.map_cons, List.sum_cons]; omega
theorem flatMap_len {α : Type} (f : Nd → List α) (l : List Nd) : (l.flatMap f).length = (l.map (fun x => (f x).length)).sum := by
  induction l with
  | nil => rfl
  | cons x r ih => rw [List.flatMap_cons, List.length_append, ih, List.map_cons, List.sum_cons]
theorem nodesL_cnt : ∀ (h v : Nat) (n : Nd), (nodesL h v n).length ≤ cntL h n
  | 0, _, _ => Nat.zero_le _
  | h + 1, v, n => by
    unfold nodesL cntL
    split
    · exact Nat.zero_le _
    · rw [List.length_cons, flatMap_len]
      have := sum_le (fun m => nodesL_cnt h (v + 1) m) n.kids
      omega
theorem pathsL_cnt : ∀ (h : Nat) (n : Nd) (a : List UInt8), (pathsL h n a).length + 1 ≤ cntL h n
  | 0, _, _ => Nat.le_refl _
  | h + 1, n, a => by
    unfold pathsL cntL
    split
    · simp
    · rw [flatMap_len]
      have := sum_le (f := fun x => ((a ++ x.name) :: pathsL h x (a ++ x.name ++ [47])).length) (g := cntL h) (fun m => by rw [List.length_cons]; exact pathsL_cnt h m _) n.kids
      omega
theorem fold_cnt (h k : Nat) (ih : ∀ n left, cntL k (fewerL h n left).1 + (fewerL h n left).2 ≤ left + 1) : ∀ (l : List Nd) (s : List Nd × Nat), ((l.foldl (fewStep h) s).1.map (cntL k)).sum + (l.foldl (fewStep h) s).2 ≤ (s.1.map (cntL k)).sum + s.2
  | [], s => Nat.le_refl _
  | x :: r, s => by
    rw [List.foldl_cons]
    refine Nat.le_trans (fold_cnt h k ih r _) ?_
    unfold fewStep
    split
    · exact Nat.le_refl _
    · have := ih x (s.2 - 1)
      simp only [List.map_append, List.map_cons, List.map_nil, List.sum_append, List.sum_cons, List.sum_nil]
      omega
theorem fewerL_cnt : ∀ (h k : Nat) (n : Nd) (left : Nat), k ≤ h → cntL k (fewerL h n left).1 + (fewerL h n left).2 ≤ left + 1
  | 0, k, n, left, hk => by
    obtain rfl : k = 0 := by omega
    show 1 + left ≤ left + 1
    omega
  | h + 1, 0, n, left, _ => by
    have : (fewerL (h + 1) n left).2 ≤ left := by
      rw [fewerL_succ]
      exact fold_le h (fun n left => by
        have := fewerL_cnt h 0 n left (Nat.zero_le _)
        have e : cntL 0 (fewerL h n left).1 = 1 := rfl
        omega) n.kids ([], left)
    show 1 + _ ≤ _
    omega
  | h + 1, k + 1, n, left, hk => by
    rw [fewerL_succ]
    have := fold_cnt h k (fun n left => fewerL_cnt h k n left (by omega)) n.kids ([], left)
    simp only [List.map_nil, List.sum_nil] at this
    show 1 + ((n.kids.foldl (fewStep h) ([], left)).1.map (cntL k)).sum + (n.kids.foldl (fewStep h) ([], left)).2 ≤ left + 1
    omega
theorem small_cnt (n : Nd) : cntL 17 (smallL n) ≤ 301 := by
  have := fewerL_cnt 17 17 (cutL 16 n) 300 (Nat.le_refl _)
  exact Nat.le_trans (Nat.le_add_right _ _) this
theorem Cut.good : ∀ (h v : Nat) (n : Nd), (∀ k, Cut k n) → ∀ p ∈ nodesL h v n, p.1 ≤ v + h ∧ p.2.data.length ≤ 300
  | 0, _, _, _, p, hp => by cases hp
  | h + 1, v, n, hc, p, hp => by
    unfold nodesL at hp
    split at hp
    · cases hp
    · rcases List.mem_cons.mp hp with rfl | hp
      · exact ⟨by show v ≤ v + (h + 1); omega, (hc 1).2.1⟩
      · obtain ⟨m, hm, hp⟩ := List.mem_flatMap.mp hp
        have := Cut.good h (v + 1) m (Cut.kid hc hm) p hp
        exact ⟨by have := this.1; omega, this.2⟩
theorem goodN_of {h : Nat} (hh : h ≤ 17) {n : Nd} (hc : ∀ k, Cut k n) : ∀ p ∈ nodesL h 1 n, GoodN p := fun p hp => by
  have := Cut.good h 1 n hc p hp
  exact ⟨by omega, by omega⟩
/-- no path is empty, of a tree that may be -/
theorem pathsL_ne : ∀ (h : Nat) (n : Nd) (a : List UInt8), a ≠ [] → ∀ t ∈ pathsL h n a, t ≠ []
  | 0, _, _, _, t, ht => by cases ht
  | h + 1, n, a, ha, t, ht => by
    unfold pathsL at ht
    split at ht
    · cases ht
    · obtain ⟨m, hm, ht⟩ := List.mem_flatMap.mp ht
      rcases List.mem_cons.mp ht with rfl | ht
      · simp [ha]
      · exact pathsL_ne h m _ (by simp [ha]) t ht
theorem kid_named {f : Nd → Bool} {ks : List Nd} (hk : kidsOk f ks = true) {m : Nd} (hm : m ∈ ks) : nameOk m.name = true ∧ f m = true := by
  obtain ⟨i, hi, e⟩ := List.mem_iff_getElem.mp hm
  unfold kidsOk at hk
  rw [List.all_eq_true] at hk
  have := hk (m, i) (by rw [List.mem_zipIdx_iff_getElem?]; rw [← e]; exact List.getElem?_eq_getElem hi)
  unfold kidOk at this
  simp only [Bool.and_eq_true] at this
  exact this.2
theorem nameOk_ne {s : List UInt8} (h : nameOk s = true) : s ≠ [] := by
  intro e
  subst e
  exact absurd h (by decide)
theorem may_kids {h : Nat} {n : Nd} (hm : mayL (h + 1) n = true) (hk : n.kind = 2) : kidsOk (mayL h) n.kids = true := by
  unfold mayL at hm
  rw [if_neg (by omega), if_pos hk] at hm
  simp only [Bool.and_eq_true] at hm
  exact hm.2.2
theorem eachL_ne {h : Nat} {n : Nd} (hc : checkL h n = 0) : ∀ t ∈ eachL h n, t ≠ [] := by
  intro t ht
  unfold eachL at ht
  split at ht
  · cases ht
  · rename_i hd
    have hm : mayL h n = true := by
      unfold checkL at hc
      rw [if_neg hd] at hc
      cases hq : mayL h n
      · rw [hq] at hc; simp at hc
      · rfl
    cases h with
    | zero => cases ht
    | succ h =>
      unfold pathsL at ht
      split at ht
      · cases ht
      · rename_i h2
        have hk : n.kind = 2 := by simpa using h2
        obtain ⟨m, hmm, ht⟩ := List.mem_flatMap.mp ht
        have hn := nameOk_ne (kid_named (may_kids hm hk) hmm).1
        rcases List.mem_cons.mp ht with rfl | ht
        · simpa using hn
        · exact pathsL_ne h m _ (by simp) t ht
end Go.Proofs.YtfflkpggmhlfpaaDoor
