/- Pure: the paths of a tree that may be. -/
import Derived.Test.YtfflkpggmhlfpaaDoorUg
namespace Go.Proofs.YtfflkpggmhlfpaaDoor
open Go.RowKit
set_option maxRecDepth 100000
/-- the names that lead to each of what a node has -/
def waysL : Nat → Nd → List (List (List UInt8))
  | 0, _ => []
  | h + 1, n => if n.kind ≠ 2 then [] else n.kids.flatMap (fun k => [k.name] :: (waysL h k).map (k.name :: ·))
def joinL : List (List UInt8) → List UInt8
  | [] => []
  | [x] => x
  | x :: y :: r => x ++ 47 :: joinL (y :: r)
theorem joinL_cons (x : List UInt8) (l : List (List UInt8)) (h : l ≠ []) : joinL (x :: l) = x ++ 47 :: joinL l := by
  cases l with
  | nil => exact absurd rfl h
  | cons y r => rfl
theorem waysL_ne : ∀ (h : Nat) (n : Nd), ∀ l ∈ waysL h n, l ≠ []
  | 0, _, l, hl => by cases hl
  | h + 1, n, l, hl => by
    unfold waysL at hl
    split at hl
    · cases hl
    · obtain ⟨k, _, hl⟩ := List.mem_flatMap.mp hl
      rcases List.mem_cons.mp hl with rfl | hl
      · simp
      · obtain ⟨r, _, rfl⟩ := List.mem_map.mp hl
        simp
theorem pathsL_ways : ∀ (h : Nat) (n : Nd) (a : List UInt8), pathsL h n a = (waysL h n).map (fun l => a ++ joinL l)
  | 0, _, _ => rfl
  | h + 1, n, a => by
    unfold pathsL waysL
    split
    · rfl
    · rw [List.map_flatMap]
      congr 1
      funext k
      rw [List.map_cons, pathsL_ways h k, List.map_map]
      congr 1
      refine List.map_congr_left (fun l hl => ?_)
      show _ = a ++ joinL (k.name :: l)
      rw [joinL_cons _ _ (waysL_ne h k l hl)]
      simp
/-- the names of a path -/
theorem waysL_ok : ∀ (h : Nat) (n : Nd), mayL h n = true → ∀ l ∈ waysL h n, ∀ x ∈ l, nameOk x = true
  | 0, _, hm => by cases hm
  | h + 1, n, hm => fun l hl x hx => by
    unfold waysL at hl
    split at hl
    · cases hl
    · rename_i h2
      have hk : n.kind = 2 := by simpa using h2
      obtain ⟨k, hkk, hl⟩ := List.mem_flatMap.mp hl
      obtain ⟨h3, h4⟩ := kid_named (may_kids hm hk) hkk
      rcases List.mem_cons.mp hl with rfl | hl
      · rw [List.mem_singleton] at hx; subst hx; exact h3
      · obtain ⟨r, hr, rfl⟩ := List.mem_map.mp hl
        rcases List.mem_cons.mp hx with rfl | hx
        · exact h3
        · exact waysL_ok h k h4 r hr x hx
theorem nameOk_no47 {s : List UInt8} (h : nameOk s = true) : 47 ∉ s := by
  unfold nameOk at h
  simp only [Bool.and_eq_true, Bool.not_eq_true', List.contains_eq_mem, decide_eq_false_iff_not] at h
  exact h.2.1
theorem splitL_one : ∀ s : List UInt8, 47 ∉ s → splitL s = [s]
  | [], _ => rfl
  | c :: r, h => by
    have h1 : c ≠ 47 := fun e => h (by rw [e]; simp)
    have h2 : 47 ∉ r := fun e => h (by simp [e])
    unfold splitL
    rw [if_neg h1, splitL_one r h2]
theorem splitL_join : ∀ l : List (List UInt8), l ≠ [] → (∀ x ∈ l, 47 ∉ x) → splitL (joinL l) = l
  | [], h, _ => absurd rfl h
  | [x], _, h => splitL_one x (h x (by simp))
  | x :: y :: r, _, h => by
    show splitL (x ++ 47 :: joinL (y :: r)) = _
    rw [splitL_cat, splitL_one x (h x (by simp)), splitL_join (y :: r) (by simp) (fun z hz => h z (by simp [hz]))]
    rfl
theorem joinL_ne {l : List (List UInt8)} (hl : l ≠ []) (h : ∀ x ∈ l, nameOk x = true) : joinL l ≠ [] := by
  match l, hl with
  | [x], _ => exact nameOk_ne (h x (by simp))
  | x :: y :: r, _ => show x ++ 47 :: joinL (y :: r) ≠ []; simp
/-- bytes in order -/
theorem bytesLess_lt : ∀ (x y : List UInt8), Op.bytesLess x y = decide (x < y)
  | [], [] => by simp [Op.bytesLess]
  | _ :: _, [] => by simp [Op.bytesLess]
  | [], _ :: _ => by simp [Op.bytesLess]
  | a :: x, b :: y => by
    rw [Op.bytesLess, bytesLess_lt x y]
    simp only [List.cons_lt_cons_iff]
    by_cases h1 : a < b <;> by_cases h2 : a = b <;> by_cases h3 : x < y <;> simp [h1, h2, h3]
theorem lt_trans_b {x y z : List UInt8} (h : Op.bytesLess x y = true) (k : Op.bytesLess y z = true) : Op.bytesLess x z = true := by
  rw [bytesLess_lt, decide_eq_true_eq] at *
  exact List.lt_trans h k
theorem lt_irrefl_b (x : List UInt8) : Op.bytesLess x x = false := by
  rw [bytesLess_lt, decide_eq_false_iff_not]
  exact List.lt_irrefl x
theorem kids_rise {f : Nd → Bool} {ks : List Nd} (hk : kidsOk f ks = true) : ks.Pairwise (fun a b => Op.bytesLess a.name b.name = true) := by
  rw [List.pairwise_iff_getElem]
  have step : ∀ (i : Nat) (hi : i + 1 < ks.length), Op.bytesLess (ks[i]'(by omega)).name (ks[i + 1]).name = true := fun i hi => by
    unfold kidsOk at hk
    rw [List.all_eq_true] at hk
    have := hk (ks[i + 1], i + 1) (by rw [List.mem_zipIdx_iff_getElem?]; exact List.getElem?_eq_getElem hi)
    unfold kidOk at this
    simp only [Bool.and_eq_true, Bool.or_eq_true, decide_eq_true_eq, Nat.add_sub_cancel, List.getElem?_eq_getElem (show i < ks.length by omega)] at this
    rcases this.1 with h | h
    · omega
    · exact h
  have far : ∀ (d i : Nat) (hi : i + d + 1 < ks.length), Op.bytesLess (ks[i]'(by omega)).name (ks[i + d + 1]).name = true := by
    intro d
    induction d with
    | zero => intro i hi; exact step i hi
    | succ d ih => intro i hi; exact lt_trans_b (ih i (by omega)) (step (i + d + 1) hi)
  intro i j hi hj hij
  have := far (j - i - 1) i (by omega)
  have e : i + (j - i - 1) + 1 = j := by omega
  simp only [e] at this
  exact this
theorem indexL_kid {f : Nd → Bool} {n : Nd} (hk : n.kind = 2) (ho : kidsOk f n.kids = true) (i : Nat) (m : Nd) (hm : n.kids[i]? = some m) : indexL n m.name = i := by
  have hr := kids_rise ho
  have hne := nameOk_ne (kid_named ho (List.mem_of_getElem? hm)).1
  unfold indexL
  rw [if_neg (by simp [hk, hne])]
  refine idx_at _ _ i m hm (by simp) (fun x hx => ?_)
  obtain ⟨j, hj, e⟩ := List.mem_iff_getElem.mp hx
  rw [List.length_take] at hj
  rw [List.getElem_take] at e
  obtain ⟨hi, e2⟩ := List.getElem?_eq_some_iff.mp hm
  have := (List.pairwise_iff_getElem.mp hr) j i (by omega) hi (by omega)
  rw [e, e2] at this
  rw [beq_eq_false_iff_ne]
  intro e3
  rw [e3, lt_irrefl_b] at this
  cases this
theorem walkL_kid {f : Nd → Bool} {n : Nd} (hk : n.kind = 2) (ho : kidsOk f n.kids = true) (m : Nd) (hm : m ∈ n.kids) (r : List (List UInt8)) : walkL (m.name :: r) n = walkL r m := by
  obtain ⟨i, hi, e⟩ := List.mem_iff_getElem.mp hm
  have hg : n.kids[i]? = some m := by rw [← e]; exact List.getElem?_eq_getElem hi
  have := indexL_kid hk ho i m hg
  conv => lhs; unfold walkL
  rw [this, if_neg (by omega)]
  show (match n.kids[((i : Nat) : Int).toNat]? with | none => none | some m => walkL r m) = _
  rw [Int.toNat_natCast, hg]
/-- depth -/
theorem depthL_pos : ∀ (l : Nat) (n : Nd), 1 ≤ depthL l n
  | 0, _ => Nat.le_refl _
  | l + 1, n => by unfold depthL; split <;> omega
theorem depthL_kid {l : Nat} {n m : Nd} (hk : n.kind = 2) (hm : m ∈ n.kids) (hl : 1 ≤ l) : depthL l m + 1 ≤ depthL (l + 1) n := by
  have h := (foldl_max (depthL l) (depthL (l + 1) n - 1) n.kids 0 (Nat.zero_le _))
  have e : depthL (l + 1) n = 1 + n.kids.foldl (fun g k => max g (depthL l k)) 0 := by
    conv => lhs; unfold depthL
    rw [if_neg (by omega)]
  have key : ∀ (ks : List Nd) (g : Nat), (m ∈ ks → depthL l m ≤ ks.foldl (fun g k => max g (depthL l k)) g) ∧ g ≤ ks.foldl (fun g k => max g (depthL l k)) g := by
    intro ks
    induction ks with
    | nil => intro g; exact ⟨(fun h => by cases h), Nat.le_refl _⟩
    | cons x r ih =>
      intro g
      rw [List.foldl_cons]
      have := ih (max g (depthL l x))
      refine ⟨fun h => ?_, by omega⟩
      rcases List.mem_cons.mp h with rfl | h
      · omega
      · exact this.1 h
  have := (key n.kids 0).1 hm
  omega
theorem fold_congr (f g : Nd → Nat) : ∀ (ks : List Nd) (a : Nat), (∀ m ∈ ks, f m = g m) → ks.foldl (fun a k => max a (f k)) a = ks.foldl (fun a k => max a (g k)) a
  | [], _, _ => rfl
  | x :: r, a, h => by
    rw [List.foldl_cons, List.foldl_cons, h x (by simp)]
    exact fold_congr f g r _ (fun m hm => h m (by simp [hm]))
theorem depthL_up : ∀ (l : Nat) (n : Nd), depthL l n < l → depthL (l + 1) n = depthL l n
  | 0, _, h => by omega
  | l + 1, n, h => by
    by_cases hk : n.kind = 2
    · by_cases h0 : l = 0
      · subst h0; have := depthL_pos (0 + 1) n; omega
      · have e1 : depthL (l + 1) n = 1 + n.kids.foldl (fun g k => max g (depthL l k)) 0 := by conv => lhs; unfold depthL; rw [if_neg (by omega)]
        have e2 : depthL (l + 1 + 1) n = 1 + n.kids.foldl (fun g k => max g (depthL (l + 1) k)) 0 := by conv => lhs; unfold depthL; rw [if_neg (by omega)]
        rw [e1, e2]
        congr 1
        exact fold_congr _ _ _ _ (fun m hm => depthL_up l m (by have := depthL_kid hk hm (show 1 ≤ l by omega); omega))
    · unfold depthL; rw [if_pos (.inl hk), if_pos (.inl hk)]
/-- a kid of a directory that is not too deep -/
theorem deep_kid {n m : Nd} (hk : n.kind = 2) (hd : depthL 14 n ≤ 12) (hm : m ∈ n.kids) : depthL 14 m + 1 ≤ depthL 14 n := by
  have h1 : depthL 13 m + 1 ≤ depthL 14 n := depthL_kid (l := 13) hk hm (by omega)
  have h2 : depthL 14 m = depthL 13 m := depthL_up 13 m (by omega)
  omega
theorem may_leaf {h : Nat} {n : Nd} (hm : mayL (h + 1) n = true) (hk : n.kind ≠ 2) : n.kids = [] := by
  unfold mayL at hm
  by_cases h1 : n.kind = 1
  · rw [if_pos h1] at hm; simpa using hm
  · rw [if_neg h1, if_neg hk] at hm
    by_cases h3 : n.kind = 3
    · rw [if_pos h3] at hm
      simp only [Bool.and_eq_true] at hm
      simpa using hm.2.1
    · rw [if_neg h3] at hm; cases hm
theorem shL_may : ∀ (h : Nat) (n : Nd), mayL h n = true → depthL 14 n ≤ 12 → shL h n = true
  | 0, _, hm, _ => by cases hm
  | h + 1, n, hm, hd => by
    unfold shL
    rw [Bool.and_eq_true, decide_eq_true_eq, List.all_eq_true]
    refine ⟨fun m hmm => ?_, hd⟩
    by_cases hk : n.kind = 2
    · have := deep_kid hk hd hmm
      exact shL_may h m (kid_named (may_kids hm hk) hmm).2 (by omega)
    · rw [may_leaf hm hk] at hmm; cases hmm
/-- as many paths as nodes, less one -/
theorem paths_len : ∀ (h v : Nat) (n : Nd) (a : List UInt8), mayL h n = true → depthL 14 n ≤ 12 → (pathsL h n a).length + 1 = (nodesL h v n).length
  | 0, _, _, _, hm, _ => by cases hm
  | h + 1, v, n, a, hm, hd => by
    unfold pathsL nodesL
    rw [if_neg (by omega : ¬ 12 < depthL 14 n), List.length_cons]
    by_cases hk : n.kind = 2
    · rw [if_neg (by simp [hk]), flatMap_len, flatMap_len]
      congr 2
      refine List.map_congr_left (fun m hmm => ?_)
      have := deep_kid hk hd hmm
      rw [List.length_cons]
      exact paths_len h (v + 1) m _ (kid_named (may_kids hm hk) hmm).2 (by omega)
    · rw [if_pos hk, may_leaf hm hk]; rfl
/-- where a path leads -/
theorem walk_ways : ∀ (h : Nat) (n : Nd), mayL h n = true → depthL 14 n ≤ 12 → ∀ l ∈ waysL h n, ∃ m, walkL l n = some m ∧ l.getLast? = some m.name ∧ l.length + 1 ≤ depthL 14 n
  | 0, _, hm, _ => by cases hm
  | h + 1, n, hm, hd => fun l hl => by
    unfold waysL at hl
    split at hl
    · cases hl
    · rename_i h2
      have hk : n.kind = 2 := by simpa using h2
      obtain ⟨k, hkk, hl⟩ := List.mem_flatMap.mp hl
      have ho := may_kids hm hk
      have h4 := (kid_named ho hkk).2
      have hdk := deep_kid hk hd hkk
      have hp := depthL_pos 14 k
      rcases List.mem_cons.mp hl with rfl | hl
      · exact ⟨k, by rw [walkL_kid hk ho k hkk]; rfl, rfl, by simp; omega⟩
      · obtain ⟨r, hr, rfl⟩ := List.mem_map.mp hl
        obtain ⟨m, e1, e2, e3⟩ := walk_ways h k h4 (by omega) r hr
        refine ⟨m, by rw [walkL_kid hk ho k hkk]; exact e1, ?_, by rw [List.length_cons]; omega⟩
        rw [List.getLast?_cons, e2]
        rfl
/-- does one path stand ahead, name by name? -/
def riseL : List (List UInt8) → List (List UInt8) → Bool
  | _, [] => false
  | [], _ :: _ => true
  | x :: r, y :: s => if x = y then riseL r s else Op.bytesLess x y
theorem ways_rise : ∀ (h : Nat) (n : Nd), mayL h n = true → (waysL h n).Pairwise (fun a b => riseL a b = true)
  | 0, _, hm => by cases hm
  | h + 1, n, hm => by
    unfold waysL
    by_cases hk : n.kind = 2
    · rw [if_neg (by simp [hk])]
      have ho := may_kids hm hk
      rw [List.pairwise_flatMap]
      refine ⟨fun k hkk => ?_, ?_⟩
      · rw [List.pairwise_cons]
        refine ⟨fun l hl => ?_, ?_⟩
        · obtain ⟨r, hr, rfl⟩ := List.mem_map.mp hl
          unfold riseL
          rw [if_pos rfl]
          have := waysL_ne h k r hr
          cases r with
          | nil => exact absurd rfl this
          | cons _ _ => rfl
        · rw [List.pairwise_map]
          exact (ways_rise h k (kid_named ho hkk).2).imp (fun {a b} hab => by
            show riseL (k.name :: a) (k.name :: b) = true
            unfold riseL
            rw [if_pos rfl]
            exact hab)
      · refine (kids_rise ho).imp (fun {x y} hxy => ?_)
        have hh : ∀ (z : Nd) (l : List (List UInt8)), l ∈ [z.name] :: (waysL h z).map (z.name :: ·) → ∃ r, l = z.name :: r := fun z l hl => by
          rcases List.mem_cons.mp hl with rfl | hl
          · exact ⟨[], rfl⟩
          · obtain ⟨r, _, rfl⟩ := List.mem_map.mp hl
            exact ⟨r, rfl⟩
        intro a ha b hb
        obtain ⟨r, rfl⟩ := hh x a ha
        obtain ⟨s, rfl⟩ := hh y b hb
        unfold riseL
        rw [if_neg (fun e => by rw [e, lt_irrefl_b] at hxy; cases hxy)]
        exact hxy
    · rw [if_pos hk]; exact .nil
end Go.Proofs.YtfflkpggmhlfpaaDoor
