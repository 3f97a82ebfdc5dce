/- Pure: what short leaves; how long bytes are; nodes that are the same. -/
import Derived.Test.YtdpeblchndfdaaaMs
namespace Go.Proofs.Ytdpeblchndfdaaa
open Go.RowKit
set_option maxRecDepth 100000
theorem fold_congr (f g : Nd → Nat) : ∀ (l : List Nd) (x : Nat), (∀ m ∈ l, f m = g m) → l.foldl (fun a k => max a (f k)) x = l.foldl (fun a k => max a (g k)) x
  | [], _, _ => rfl
  | m :: r, x, h => by
    rw [List.foldl_cons, List.foldl_cons, h m (List.mem_cons_self ..)]
    exact fold_congr f g r _ (fun y hy => h y (List.mem_cons_of_mem _ hy))
theorem depth_up : ∀ (l : Nat) (n : Nd), depthL l n < l → depthL (l + 1) n = depthL l n
  | 0, n, h => by omega
  | l + 1, n, h => by
    rw [depthL_succ] at h
    rw [depthL_succ (l + 1), depthL_succ l]
    by_cases hk : n.kind ≠ 2
    · rw [if_pos (.inl hk), if_pos (.inl hk)]
    · by_cases h0 : l = 0
      · rw [if_pos (.inr h0)] at h; omega
      · have hn : ¬ (n.kind ≠ 2 ∨ l = 0) := by rintro (a | a); exact hk a; exact h0 a
        have hn1 : ¬ (n.kind ≠ 2 ∨ l + 1 = 0) := by rintro (a | a); exact hk a; omega
        rw [if_neg hn] at h
        rw [if_neg hn, if_neg hn1]
        congr 1
        refine fold_congr _ _ _ _ (fun m hm => depth_up l m ?_)
        have := (foldl_ge (depthL l) n.kids 0 m hm).1
        omega
theorem depth_kid {n m : Nd} (h2 : n.kind = 2) (hm : m ∈ n.kids) (h : depthL 14 n ≤ 12) : depthL 14 m ≤ 12 := by
  have h1 : depthL (13 + 1) n ≤ 12 := h
  rw [depthL_succ, if_neg (by rintro (a | a); exact a h2; cases a)] at h1
  have := (foldl_ge (depthL 13) n.kids 0 m hm).1
  have h3 : depthL 13 m < 13 := by omega
  have h4 : depthL 14 m = depthL 13 m := depth_up 13 m h3
  omega
theorem nodesL_succ (h v : Nat) (n : Nd) : nodesL (h + 1) v n = if 12 < depthL 14 n then [] else (v, n) :: n.kids.flatMap (nodesL h (v + 1)) := rfl
/-- nodes that are the same -/
theorem zip_all_eq (f : Nd → Nd → Bool) (hf : ∀ a b, f a b = true → a = b) : ∀ k l : List Nd, k.length = l.length → (k.zip l).all (fun p => f p.1 p.2) = true → k = l
  | [], [], _, _ => rfl
  | [], _ :: _, h, _ => by simp at h
  | _ :: _, [], h, _ => by simp at h
  | a :: k, b :: l, h, ha => by
    rw [List.zip_cons_cons, List.all_cons, Bool.and_eq_true] at ha
    rw [hf a b ha.1, zip_all_eq f hf k l (by simpa using h) ha.2]
theorem sameL_eq : ∀ (h : Nat) (a b : Nd), sameL h a b = true → a = b
  | 0, a, b, h => by cases h
  | h + 1, a, b, hs => by
    unfold sameL at hs
    simp only [Bool.and_eq_true, decide_eq_true_eq, beq_iff_eq] at hs
    obtain ⟨_, h1, h2, h3, h4, h5⟩ := hs
    unfold eqKids at h5
    simp only [Bool.and_eq_true, decide_eq_true_eq] at h5
    have h6 := zip_all_eq (sameL h) (fun x y => sameL_eq h x y) _ _ h5.1 h5.2
    obtain ⟨a1, a2, a3, a4, a5⟩ := a
    obtain ⟨b1, b2, b3, b4, b5⟩ := b
    simp only [Nd.name, Nd.kind, Nd.exec, Nd.data, Nd.kids] at h1 h2 h3 h4 h6
    subst h1 h2 h3 h4 h6
    rfl
theorem zip_self_all (f : Nd → Nd → Bool) : ∀ l : List Nd, (∀ m ∈ l, f m m = true) → (l.zip l).all (fun p => f p.1 p.2) = true
  | [], _ => rfl
  | a :: l, h => by
    rw [List.zip_cons_cons, List.all_cons, Bool.and_eq_true]
    exact ⟨h a (List.mem_cons_self ..), zip_self_all f l (fun m hm => h m (List.mem_cons_of_mem _ hm))⟩
theorem sameL_refl : ∀ (h : Nat) (n : Nd), mayL h n = true → depthL 14 n ≤ 12 → sameL h n n = true
  | 0, n, hm, _ => by cases hm
  | h + 1, n, hm, hd => by
    have hkids : ∀ m ∈ n.kids, sameL h m m = true := fun m hmm => by
      obtain ⟨nm, kd, ex, dt, ks⟩ := n
      have hM : (if kd = 1 then ks.isEmpty else if kd = 2 then !ex && (dt.isEmpty && kidsOk (mayL h) ks) else if kd = 3 then !ex && (ks.isEmpty && textOk dt 255) else false) = true := hm
      change m ∈ ks at hmm
      split at hM
      · have : ks = [] := by simpa using hM
        subst this
        cases hmm
      · split at hM
        · rename_i k2
          simp only [Bool.and_eq_true] at hM
          exact sameL_refl h m (kidsOk_all hM.2.2 m hmm) (depth_kid (n := ⟨nm, kd, ex, dt, ks⟩) k2 hmm hd)
        · split at hM
          · simp only [Bool.and_eq_true] at hM
            have : ks = [] := by simpa using hM.2.1
            subst this
            cases hmm
          · cases hM
    unfold sameL eqKids
    rw [zip_self_all _ _ hkids]
    simp [hd]
/-- data of three hundred bytes, twenty kids, so many levels down -/
def Slm : Nat → Nd → Prop
  | 0, _ => True
  | h + 1, n => n.data.length ≤ 300 ∧ n.kids.length ≤ 20 ∧ ∀ m ∈ n.kids, Slm h m
theorem short_slm : ∀ (h l : Nat) (n : Nd), Slm h (shortL l n)
  | 0, _, _ => trivial
  | h + 1, 0, n => ⟨by show (n.data.take 300).length ≤ 300; rw [List.length_take]; omega, Nat.zero_le _, fun m hm => by cases hm⟩
  | h + 1, l + 1, n => ⟨by show (n.data.take 300).length ≤ 300; rw [List.length_take]; omega, by show ((n.kids.take 20).map (shortL l)).length ≤ 20; rw [List.length_map, List.length_take]; omega, fun m hm => by
    have hm' : m ∈ (n.kids.take 20).map (shortL l) := hm
    obtain ⟨x, _, rfl⟩ := List.mem_map.mp hm'
    exact short_slm h l x⟩
/-- how many nodes so many levels of twenty kids have -/
def cntF : Nat → Nat
  | 0 => 0
  | k + 1 => 1 + 20 * cntF k
theorem sum_len {α β : Type} (f : α → List β) (b : Nat) : ∀ (l : List α), (∀ m ∈ l, (f m).length ≤ b) → (l.flatMap f).length ≤ b * l.length
  | [], _ => Nat.le_refl _
  | x :: r, h => by
    have := sum_len f b r (fun m hm => h m (List.mem_cons_of_mem _ hm))
    have h1 := h x (List.mem_cons_self ..)
    rw [List.flatMap_cons, List.length_append, List.length_cons, Nat.mul_add, Nat.mul_one]
    omega
theorem may_cases {h : Nat} {n : Nd} (hm : mayL (h + 1) n = true) : (n.kind = 1 ∧ n.kids = []) ∨ (n.kind = 2 ∧ n.exec = false ∧ n.data = [] ∧ kidsOk (mayL h) n.kids = true) ∨ (n.kind = 3 ∧ n.exec = false ∧ n.kids = [] ∧ textOk n.data 255 = true) := by
  obtain ⟨nm, kd, ex, dt, ks⟩ := n
  have hM : (if kd = 1 then ks.isEmpty else if kd = 2 then !ex && (dt.isEmpty && kidsOk (mayL h) ks) else if kd = 3 then !ex && (ks.isEmpty && textOk dt 255) else false) = true := hm
  split at hM
  · rename_i k1
    exact .inl ⟨k1, by simpa [Nd.kids] using hM⟩
  · split at hM
    · rename_i k2
      simp only [Bool.and_eq_true, Bool.not_eq_true'] at hM
      exact .inr (.inl ⟨k2, hM.1, by simpa [Nd.data] using hM.2.1, hM.2.2⟩)
    · split at hM
      · rename_i k3
        simp only [Bool.and_eq_true, Bool.not_eq_true'] at hM
        exact .inr (.inr ⟨k3, hM.1, by simpa [Nd.kids] using hM.2.1, hM.2.2⟩)
      · cases hM
theorem slm_nodes : ∀ (h k v : Nat) (n : Nd), mayL h n = true → Nests k n → Slm h n → (nodesL h v n).length ≤ cntF k ∧ ∀ p ∈ nodesL h v n, p.1 ≤ v + h ∧ p.2.data.length ≤ 300
  | 0, _, _, _, hm, _, _ => by cases hm
  | h + 1, 0, _, _, _, hn, _ => hn.elim
  | h + 1, k + 1, v, n, hm, hn, hs => by
    unfold nodesL
    split
    · exact ⟨Nat.zero_le _, by simp⟩
    · rcases may_cases hm with ⟨_, h2⟩ | ⟨h1, _, _, h4⟩ | ⟨_, _, h2, _⟩
      · rw [h2]
        refine ⟨by simp [cntF], fun p hp => ?_⟩
        simp only [List.flatMap_nil, List.mem_cons, List.not_mem_nil, or_false] at hp
        subst hp
        exact ⟨by omega, hs.1⟩
      · have hk : ∀ m ∈ n.kids, (nodesL h (v + 1) m).length ≤ cntF k ∧ ∀ p ∈ nodesL h (v + 1) m, p.1 ≤ v + 1 + h ∧ p.2.data.length ≤ 300 := fun m hmm => slm_nodes h k (v + 1) m (kidsOk_all h4 m hmm) (hn h1 m hmm) (hs.2.2 m hmm)
        refine ⟨?_, fun p hp => ?_⟩
        · have := sum_len (nodesL h (v + 1)) (cntF k) n.kids (fun m hmm => (hk m hmm).1)
          have h20 := Nat.mul_le_mul_left (cntF k) hs.2.1
          rw [List.length_cons]
          unfold cntF
          omega
        · rcases List.mem_cons.mp hp with rfl | hp
          · exact ⟨by omega, hs.1⟩
          · obtain ⟨m, hmm, hp⟩ := List.mem_flatMap.mp hp
            have := (hk m hmm).2 p hp
            exact ⟨by omega, this.2⟩
      · rw [h2]
        refine ⟨by simp [cntF], fun p hp => ?_⟩
        simp only [List.flatMap_nil, List.mem_cons, List.not_mem_nil, or_false] at hp
        subst hp
        exact ⟨by omega, hs.1⟩
/-- what Encode asks of a tree that short left -/
theorem short_good (l : Nat) (n : Nd) : depthL 14 (shortL l n) ≤ 12 → mayL 15 (shortL l n) = true → (∀ p ∈ nodesL 15 1 (shortL l n), GoodD 300 p) ∧ (nodesL 15 1 (shortL l n)).length ≤ cntF 12 := fun hd hm => by
  obtain ⟨h1, h2⟩ := slm_nodes 15 12 1 _ hm (depth_nests 12 14 _ (by decide) hd) (short_slm 15 l n)
  exact ⟨fun p hp => ⟨by have := (h2 p hp).1; omega, (h2 p hp).2⟩, h1⟩
/-- the names of these -/
def namesL (l : List (Nat × Nd)) : Nat := (l.map (fun p => p.2.name.length)).sum
theorem namesL_app (a b : List (Nat × Nd)) : namesL (a ++ b) = namesL a + namesL b := by unfold namesL; rw [List.map_append, List.sum_append]
theorem bytesL_app (a b : List (Nat × Nd)) : bytesL (a ++ b) = bytesL a + bytesL b := by unfold bytesL; rw [List.map_append, List.sum_append]
theorem row_one {n : Nat} (h : n < 128) : (Plain.row n).length = 1 := by
  unfold Plain.row
  rw [Nat.div_eq_of_lt h, Plain.hi_zero]
  rfl
theorem row_three {n : Nat} (h : n < 2097152) : (Plain.row n).length ≤ 3 := by
  unfold Plain.row
  rw [List.length_append]
  have := Plain.hi_length 2 (n / 128) (by omega)
  simp only [List.length_cons, List.length_nil]
  omega
theorem kidsOk_names {f : Nd → Bool} {ks : List Nd} (h : kidsOk f ks = true) : ∀ m ∈ ks, nameOk m.name = true := by
  intro m hm
  obtain ⟨i, hi⟩ := List.getElem?_of_mem hm
  unfold kidsOk at h
  rw [List.all_eq_true] at h
  have := h (m, i) (by rw [List.mem_zipIdx_iff_getElem?]; exact hi)
  unfold kidOk at this
  simp only [Bool.and_eq_true] at this
  first
  | exact this.2.1
  | exact this.1.2
  | exact this.2
theorem nameOk_len {s : List UInt8} (h : nameOk s = true) : s.length ≤ 56 ∧ 1 ≤ s.length ∧ (47 : UInt8) ∉ s := by
  unfold nameOk textOk at h
  simp only [Bool.and_eq_true, decide_eq_true_eq, Bool.not_eq_true'] at h
  obtain ⟨⟨h1, h2, _⟩, h3, _⟩ := h
  refine ⟨h2, ?_, ?_⟩
  · cases s with
    | nil => cases h1
    | cons a r => simp
  · intro hm
    rw [List.contains_iff_mem.mpr hm] at h3
    cases h3
/-- how long a node's bytes are -/
theorem enc_len : ∀ (h v : Nat) (n : Nd), mayL h n = true → depthL 14 n ≤ 12 → bytesL (nodesL h v n) ≤ 2000000 → (nodesL h v n).length ≤ 2000000 →
    (nodesL h v n).length + bytesL (nodesL h v n) + namesL (nodesL h v n) ≤ (encL h n).length + n.name.length ∧ (encL h n).length + n.name.length + 2 ≤ 8 * (nodesL h v n).length + bytesL (nodesL h v n) + namesL (nodesL h v n)
  | 0, _, _, hm, _, _, _ => by cases hm
  | h + 1, v, n, hm, hd, hb, hc => by
    have hN : nodesL (h + 1) v n = (v, n) :: n.kids.flatMap (nodesL h (v + 1)) := by rw [nodesL_succ, if_neg (by omega)]
    have hE : encL (h + 1) n = Plain.row n.kind.toNat ++ (if n.kind = 1 then Plain.row (if n.exec then 1 else 0) ++ txt n.data else if n.kind = 3 then txt n.data else Plain.row n.kids.length ++ n.kids.flatMap (entryL (encL h))) := rfl
    rw [hN] at hb hc ⊢
    have hb1 : bytesL ((v, n) :: n.kids.flatMap (nodesL h (v + 1))) = n.data.length + bytesL (n.kids.flatMap (nodesL h (v + 1))) := by unfold bytesL; rw [List.map_cons, List.sum_cons]
    have hn1 : namesL ((v, n) :: n.kids.flatMap (nodesL h (v + 1))) = n.name.length + namesL (n.kids.flatMap (nodesL h (v + 1))) := by unfold namesL; rw [List.map_cons, List.sum_cons]
    rw [hb1] at hb ⊢
    rw [hn1, List.length_cons]
    rw [List.length_cons] at hc
    have htx : (txt n.data).length ≤ 3 + n.data.length ∧ 1 + n.data.length ≤ (txt n.data).length := by
      unfold txt
      rw [List.length_append]
      have := row_three (n := n.data.length) (by omega)
      have := Plain.row_length_pos n.data.length
      omega
    rcases may_cases hm with ⟨h1, h2⟩ | ⟨h1, h3, h4, h5⟩ | ⟨h1, h3, h2, h4⟩
    · rw [hE, h1, if_pos rfl, h2]
      have hex : (Plain.row (if n.exec then 1 else 0)).length = 1 := row_one (by cases n.exec <;> decide)
      have h11 : (Plain.row (Int.toNat 1)).length = 1 := row_one (by decide)
      simp only [List.length_append, List.flatMap_nil, List.length_nil, h11, hex]
      have e1 : bytesL ([] : List (Nat × Nd)) = 0 := rfl
      have e2 : namesL ([] : List (Nat × Nd)) = 0 := rfl
      omega
    · rw [hE, h1, if_neg (by decide), if_neg (by decide)]
      have h11 : (Plain.row (Int.toNat 2)).length = 1 := row_one (by decide)
      have hkk := kidsOk_all h5
      have hnn := kidsOk_names h5
      have hdd : ∀ m ∈ n.kids, depthL 14 m ≤ 12 := fun m hmm => depth_kid h1 hmm hd
      have hd0 : n.data.length = 0 := by rw [h4]; rfl
      have key : ∀ s : List Nd, (∀ m ∈ s, mayL h m = true) → (∀ m ∈ s, nameOk m.name = true) → (∀ m ∈ s, depthL 14 m ≤ 12) → bytesL (s.flatMap (nodesL h (v + 1))) ≤ 2000000 → (s.flatMap (nodesL h (v + 1))).length ≤ 2000000 →
          s.length ≤ (s.flatMap (nodesL h (v + 1))).length ∧ (s.flatMap (nodesL h (v + 1))).length + bytesL (s.flatMap (nodesL h (v + 1))) + namesL (s.flatMap (nodesL h (v + 1))) ≤ (s.flatMap (entryL (encL h))).length ∧ (s.flatMap (entryL (encL h))).length ≤ 8 * (s.flatMap (nodesL h (v + 1))).length + bytesL (s.flatMap (nodesL h (v + 1))) + namesL (s.flatMap (nodesL h (v + 1))) := by
        intro s
        induction s with
        | nil => intro _ _ _ _ _; exact ⟨Nat.le_refl _, Nat.le_refl _, Nat.le_refl _⟩
        | cons m s ih =>
          intro a1 a2 a3 a4 a5
          rw [List.flatMap_cons] at a4 a5
          rw [bytesL_app] at a4
          rw [List.length_append] at a5
          obtain ⟨i0, i1, i2⟩ := ih (fun x hx => a1 x (List.mem_cons_of_mem _ hx)) (fun x hx => a2 x (List.mem_cons_of_mem _ hx)) (fun x hx => a3 x (List.mem_cons_of_mem _ hx)) (by omega) (by omega)
          obtain ⟨j1, j2⟩ := enc_len h (v + 1) m (a1 m (List.mem_cons_self ..)) (a3 m (List.mem_cons_self ..)) (by omega) (by omega)
          obtain ⟨n1, n2, _⟩ := nameOk_len (a2 m (List.mem_cons_self ..))
          have hel : (entryL (encL h) m).length = 1 + m.name.length + (encL h m).length := by
            unfold entryL txt
            simp only [List.length_append]
            rw [row_one (by omega)]
          rw [List.flatMap_cons, List.flatMap_cons, List.length_append, List.length_append, bytesL_app, namesL_app, hel, List.length_cons]
          omega
      obtain ⟨k0, k1, k2⟩ := key n.kids hkk hnn hdd (by omega) (by omega)
      have hr3 := row_three (n := n.kids.length) (by omega)
      have hr1 := Plain.row_length_pos n.kids.length
      simp only [List.length_append, h11]
      omega
    · rw [hE, h1, if_neg (by decide), if_pos rfl, h2]
      have h11 : (Plain.row (Int.toNat 3)).length = 1 := row_one (by decide)
      simp only [List.length_append, List.flatMap_nil, List.length_nil, h11]
      have e1 : bytesL ([] : List (Nat × Nd)) = 0 := rfl
      have e2 : namesL ([] : List (Nat × Nd)) = 0 := rfl
      omega
theorem names_le {l : List (Nat × Nd)} {b : Nat} : (∀ p ∈ l, p.2.name.length ≤ b) → namesL l ≤ b * l.length := by
  induction l with
  | nil => intro _; exact Nat.le_refl _
  | cons p r ih =>
    intro h
    have := ih (fun q hq => h q (List.mem_cons_of_mem _ hq))
    have h1 := h p (List.mem_cons_self ..)
    have e : namesL (p :: r) = p.2.name.length + namesL r := by unfold namesL; rw [List.map_cons, List.sum_cons]
    rw [e, List.length_cons, Nat.mul_add, Nat.mul_one]
    omega
theorem may_names : ∀ (h v : Nat) (n : Nd), mayL h n = true → n.name.length ≤ 56 → ∀ p ∈ nodesL h v n, p.2.name.length ≤ 56
  | 0, _, _, hm, _, _, _ => by cases hm
  | h + 1, v, n, hm, hn, p, hp => by
    unfold nodesL at hp
    split at hp
    · cases hp
    · rcases List.mem_cons.mp hp with rfl | hp
      · exact hn
      · obtain ⟨m, hmm, hp⟩ := List.mem_flatMap.mp hp
        rcases may_cases hm with ⟨_, h2⟩ | ⟨_, _, _, h5⟩ | ⟨_, _, h2, _⟩
        · rw [h2] at hmm; cases hmm
        · exact may_names h (v + 1) m (kidsOk_all h5 m hmm) (nameOk_len (kidsOk_names h5 m hmm)).1 p hp
        · rw [h2] at hmm; cases hmm
theorem enc_short {n : Nd} (hc : checkL 15 n = 0) : (encL 15 n).length ≤ 900000000 := by
  obtain ⟨h1, h2, h3, h4, h5⟩ := check_may hc
  obtain ⟨_, h7⟩ := enc_len 15 1 n h3 h1 (by omega) (by omega)
  have := names_le (may_names 15 1 n h3 (by rw [h2]; decide))
  omega
end Go.Proofs.Ytdpeblchndfdaaa
