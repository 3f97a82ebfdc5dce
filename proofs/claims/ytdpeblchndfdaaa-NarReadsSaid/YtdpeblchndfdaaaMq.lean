/- Pure: a tree comes back from its bytes, and bytes from their tree. -/
import Derived.Test.YtdpeblchndfdaaaMo
namespace Go.Proofs.Ytdpeblchndfdaaa
open Go.RowKit
set_option maxRecDepth 100000
theorem cutT_txt (t r : List UInt8) (ht : t.length < Plain.big) : Plain.cutT (txt t ++ r) = some (t, r) := by
  unfold Plain.cutT txt
  rw [List.append_assoc, Plain.cut_row t.length ht]
  simp
theorem cutT_back {l t r : List UInt8} (h : Plain.cutT l = some (t, r)) : l = txt t ++ r := by
  unfold Plain.cutT at h
  cases hc : Plain.cut l with
  | none => simp [hc] at h
  | some x =>
    obtain ⟨n, q⟩ := x
    have h1 := (Plain.cut_back hc).1
    simp only [hc] at h
    split at h
    · cases h
    · rename_i hl
      simp only [Option.some.injEq, Prod.mk.injEq] at h
      obtain ⟨rfl, rfl⟩ := h
      unfold txt
      rw [h1, List.length_take, Nat.min_eq_left (by omega), List.append_assoc, List.take_append_drop]
/-- no directory in so many others -/
def Nests : Nat → Nd → Prop
  | 0, _ => False
  | k + 1, n => n.kind = 2 → ∀ m ∈ n.kids, Nests k m
theorem depthL_succ (l : Nat) (n : Nd) : depthL (l + 1) n = if n.kind ≠ 2 ∨ l = 0 then 1 else 1 + n.kids.foldl (fun g k => max g (depthL l k)) 0 := rfl
theorem foldl_ge (f : Nd → Nat) : ∀ (l : List Nd) (g : Nat) (m : Nd), m ∈ l → f m ≤ l.foldl (fun g k => max g (f k)) g ∧ g ≤ l.foldl (fun g k => max g (f k)) g
  | x :: r, g, m, h => by
    have hr : max g (f x) ≤ r.foldl (fun g k => max g (f k)) (max g (f x)) := by
      cases r with
      | nil => exact Nat.le_refl _
      | cons y s => exact (foldl_ge f (y :: s) _ y (List.mem_cons_self ..)).2
    rw [List.foldl_cons]
    rcases List.mem_cons.mp h with rfl | h
    · exact ⟨by omega, by omega⟩
    · exact ⟨(foldl_ge f r _ m h).1, by omega⟩
theorem depth_nests : ∀ (k l : Nat) (n : Nd), k < l → depthL l n ≤ k → Nests k n
  | 0, l, n, hl, h => by
    cases l with
    | zero => omega
    | succ l => rw [depthL_succ] at h; split at h <;> omega
  | k + 1, l, n, hl, h => by
    intro h2 m hm
    cases l with
    | zero => omega
    | succ l =>
      rw [depthL_succ] at h
      rw [if_neg (by rintro (h3 | h3); exact h3 h2; omega)] at h
      have := (foldl_ge (depthL l) n.kids 0 m hm).1
      exact depth_nests k l m (by omega) (by omega)
theorem named_named (m : Nd) (a : List UInt8) : (m.named a).named m.name = m := by cases m; rfl
theorem textOk_nil (k : Nat) : textOk [] k = false := rfl
theorem read_enc : ∀ (k h : Nat) (n : Nd) (r : List UInt8), mayL h n = true → Nests k n → (encL h n).length ≤ 1000000000 → readN k (encL h n ++ r) = some (n.named [], r)
  | 0, _, _, _, _, hn, _ => hn.elim
  | k + 1, 0, _, _, hm, _, _ => by cases hm
  | k + 1, h + 1, n, r, hm, hn, hl => by
    obtain ⟨nm, kd, ex, dt, ks⟩ := n
    have hM : (if kd = 1 then ks.isEmpty else if kd = 2 then !ex && (dt.isEmpty && kidsOk (mayL h) ks) else if kd = 3 then !ex && (ks.isEmpty && textOk dt 255) else false) = true := hm
    have hE : encL (h + 1) ⟨nm, kd, ex, dt, ks⟩ = Plain.row kd.toNat ++ (if kd = 1 then Plain.row (if ex then 1 else 0) ++ txt dt else if kd = 3 then txt dt else Plain.row ks.length ++ ks.flatMap (entryL (encL h))) := rfl
    rw [hE] at hl ⊢
    unfold readN
    by_cases k1 : kd = 1
    · subst k1
      rw [if_pos rfl] at hM hl ⊢
      simp only [List.length_append] at hl
      have hdl := txt_len dt
      rw [List.append_assoc, Plain.cut_row _ (by decide)]
      simp only [Int.toNat_one, if_true]
      unfold readFile
      rw [List.append_assoc, Plain.cut_row _ (by cases ex <;> decide)]
      have hb : dt.length < Plain.big := by unfold Plain.big; omega
      have hk : ks = [] := by simpa using hM
      subst hk
      cases ex
      · simp [cutT_txt dt r hb, Nd.named, Nd.kind, Nd.exec, Nd.data, Nd.kids]
      · simp [cutT_txt dt r hb, Nd.named, Nd.kind, Nd.exec, Nd.data, Nd.kids]
    · rw [if_neg k1] at hM hl ⊢
      by_cases k2 : kd = 2
      · subst k2
        rw [if_pos rfl] at hM
        rw [if_neg (by decide)] at hl ⊢
        simp only [Bool.and_eq_true, Bool.not_eq_true'] at hM
        have hd : dt = [] := by simpa using hM.2.1
        have he : ex = false := hM.1
        subst hd he
        have hkk := kidsOk_all hM.2.2
        have hnn : ∀ m ∈ ks, Nests k m := hn rfl
        simp only [List.length_append] at hl
        have hfm : (ks.flatMap (entryL (encL h))).length ≤ 1000000000 := by omega
        have hkl : ks.length ≤ (ks.flatMap (entryL (encL h))).length := by
          clear hM hE hm hn hkk hnn hl hfm
          induction ks with
          | nil => exact Nat.le_refl _
          | cons m s ih =>
            rw [List.flatMap_cons, List.length_append, List.length_cons]
            have : 1 ≤ (entryL (encL h) m).length := by
              unfold entryL txt
              simp only [List.length_append]
              have := Plain.row_length_pos m.name.length
              omega
            omega
        rw [List.append_assoc, Plain.cut_row _ (by decide)]
        show (if (2 : Nat) = 1 then _ else if (2 : Nat) = 2 then readDir (readN k) ((Plain.row ks.length ++ ks.flatMap (entryL (encL h))) ++ r) else _) = _
        rw [if_neg (by decide), if_pos rfl]
        unfold readDir
        rw [List.append_assoc, Plain.cut_row _ (by unfold Plain.big; omega)]
        have hrk : ∀ s : List Nd, (∀ m ∈ s, mayL h m = true) → (∀ m ∈ s, Nests k m) → (s.flatMap (entryL (encL h))).length ≤ 1000000000 → readK (readN k) s.length (s.flatMap (entryL (encL h)) ++ r) = some (s, r) := by
          intro s
          induction s with
          | nil => intro _ _ _; rfl
          | cons m s ih =>
            intro hm1 hn1 hl1
            rw [List.flatMap_cons, List.length_append] at hl1
            have hel : (entryL (encL h) m).length = (txt m.name).length + (encL h m).length := by unfold entryL; rw [List.length_append]
            have htl := txt_len m.name
            rw [List.length_cons, readK_succ, List.flatMap_cons]
            unfold entryL
            rw [List.append_assoc, List.append_assoc, cutT_txt m.name _ (by unfold Plain.big; omega)]
            simp only []
            rw [read_enc k h m _ (hm1 m (List.mem_cons_self ..)) (hn1 m (List.mem_cons_self ..)) (by omega)]
            simp only []
            have ih' := ih (fun x hx => hm1 x (List.mem_cons_of_mem _ hx)) (fun x hx => hn1 x (List.mem_cons_of_mem _ hx)) (by omega)
            unfold entryL at ih'
            rw [ih']
            simp [named_named]
        simp only []
        rw [hrk ks hkk hnn hfm]
        rfl
      · rw [if_neg k2] at hM
        by_cases k3 : kd = 3
        · subst k3
          rw [if_pos rfl] at hM hl ⊢
          simp only [Bool.and_eq_true, Bool.not_eq_true'] at hM
          have hk : ks = [] := by simpa using hM.2.1
          have he : ex = false := hM.1
          subst hk he
          simp only [List.length_append] at hl
          have hdl := txt_len dt
          have hb : dt.length < Plain.big := by unfold Plain.big; omega
          rw [List.append_assoc, Plain.cut_row _ (by decide)]
          show (if (3 : Nat) = 1 then _ else if (3 : Nat) = 2 then _ else if (3 : Nat) = 3 then readLink (txt dt ++ r) else _) = _
          rw [if_neg (by decide), if_neg (by decide), if_pos rfl]
          unfold readLink
          rw [cutT_txt dt r hb]
          rfl
        · rw [if_neg k3] at hM
          cases hM
theorem readK_back {f : List UInt8 → Option (Nd × List UInt8)} {g : Nd → List UInt8} (hf : ∀ l n r, f l = some (n, r) → n.name = [] ∧ ∀ t, l = g (n.named t) ++ r) : ∀ (c : Nat) (l : List UInt8) (ks : List Nd) (r : List UInt8), readK f c l = some (ks, r) → ks.length = c ∧ l = ks.flatMap (entryL g) ++ r
  | 0, l, ks, r, h => by
    simp only [readK, Option.some.injEq, Prod.mk.injEq] at h
    obtain ⟨rfl, rfl⟩ := h
    exact ⟨rfl, rfl⟩
  | c + 1, l, ks, r, h => by
    rw [readK_succ] at h
    cases ht : Plain.cutT l with
    | none => simp [ht] at h
    | some y =>
      obtain ⟨t, r1⟩ := y
      have h1 := cutT_back ht
      simp only [ht] at h
      cases hn : f r1 with
      | none => simp [hn] at h
      | some z =>
        obtain ⟨m, r2⟩ := z
        have h2 := (hf _ _ _ hn).2 t
        simp only [hn, Option.map_eq_some_iff, Prod.exists, Prod.mk.injEq] at h
        obtain ⟨ks', r', hk, rfl, rfl⟩ := h
        obtain ⟨h3, h4⟩ := readK_back hf c r2 ks' r' hk
        refine ⟨by rw [List.length_cons, h3], ?_⟩
        rw [h1, h2, h4, List.flatMap_cons]
        unfold entryL
        simp only [List.append_assoc]
        rfl
theorem enc_named (h : Nat) (n : Nd) (t : List UInt8) : encL h (n.named t) = encL h n := by cases h <;> rfl
theorem read_back : ∀ (k h : Nat) (l : List UInt8) (n : Nd) (r : List UInt8), k ≤ h → readN k l = some (n, r) → n.name = [] ∧ l = encL h n ++ r
  | 0, _, _, _, _, _, hr => by simp [readN] at hr
  | k + 1, 0, _, _, _, hk, _ => by omega
  | k + 1, h + 1, l, n, r, hk, hr => by
    unfold readN at hr
    cases hc : Plain.cut l with
    | none => simp [hc] at hr
    | some x =>
      obtain ⟨x, q⟩ := x
      have h1 := (Plain.cut_back hc).1
      simp only [hc] at hr
      split at hr
      · rename_i hx
        subst hx
        unfold readFile at hr
        cases hc2 : Plain.cut q with
        | none => simp [hc2] at hr
        | some y =>
          obtain ⟨y, q2⟩ := y
          have h2 := (Plain.cut_back hc2).1
          simp only [hc2] at hr
          split at hr
          · rename_i hy
            cases ht : Plain.cutT q2 with
            | none => simp [ht] at hr
            | some z =>
              obtain ⟨t, q3⟩ := z
              have h3 := cutT_back ht
              simp only [ht, Option.some.injEq, Prod.mk.injEq] at hr
              obtain ⟨rfl, rfl⟩ := hr
              refine ⟨rfl, ?_⟩
              show l = (Plain.row 1 ++ (Plain.row (if decide (y = 1) = true then 1 else 0) ++ txt t)) ++ q3
              have hyy : (if decide (y = 1) = true then 1 else 0) = y := by rcases hy with rfl | rfl <;> rfl
              rw [hyy, h1, h2, h3]
              simp only [List.append_assoc]
          · cases hr
      · split at hr
        · rename_i hx
          subst hx
          unfold readDir at hr
          cases hc2 : Plain.cut q with
          | none => simp [hc2] at hr
          | some y =>
            obtain ⟨c, q2⟩ := y
            have h2 := (Plain.cut_back hc2).1
            simp only [hc2, Option.map_eq_some_iff, Prod.exists, Prod.mk.injEq] at hr
            obtain ⟨ks', r', hkk, rfl, rfl⟩ := hr
            obtain ⟨h3, h4⟩ := readK_back (g := encL h) (fun l n r hn => by
              obtain ⟨a, b⟩ := read_back k h l n r (by omega) hn
              exact ⟨a, fun t => by rw [enc_named]; exact b⟩) c q2 ks' r' hkk
            refine ⟨rfl, ?_⟩
            show l = (Plain.row 2 ++ (Plain.row ks'.length ++ ks'.flatMap (entryL (encL h)))) ++ r'
            rw [h1, h2, h3, h4]
            simp only [List.append_assoc]
        · split at hr
          · rename_i hx
            subst hx
            unfold readLink at hr
            cases ht : Plain.cutT q with
            | none => simp [ht] at hr
            | some z =>
              obtain ⟨t, q3⟩ := z
              have h3 := cutT_back ht
              simp only [ht, Option.some.injEq, Prod.mk.injEq] at hr
              obtain ⟨rfl, rfl⟩ := hr
              refine ⟨rfl, ?_⟩
              show l = (Plain.row 3 ++ txt t) ++ q3
              rw [h1, h3]
              simp only [List.append_assoc]
          · cases hr
theorem nd_named {n : Nd} (h : n.name = []) : n.named [] = n := by
  obtain ⟨a, b, c, d, e⟩ := n
  change a = [] at h
  subst h
  rfl
/-- a tree that may be comes back from its bytes -/
theorem dec_enc {n : Nd} (hc : checkL 15 n = 0) (hl : (headB ++ encL 15 n).length ≤ 60000) : decL (headB ++ encL 15 n) = some n := by
  obtain ⟨h1, h2, h3, _⟩ := check_may hc
  have hl2 : (encL 15 n).length ≤ 60000 := by rw [List.length_append] at hl; omega
  unfold decL
  rw [if_neg (by omega)]
  unfold headB
  rw [cutT_txt _ _ (by decide)]
  simp only []
  rw [if_neg (by simp [magicL])]
  have hr := read_enc 12 15 n [] h3 (depth_nests 12 14 n (by decide) h1) (by omega)
  rw [List.append_nil, nd_named h2] at hr
  rw [hr]
  simp [hc]
/-- bytes that are taken are the tree's -/
theorem dec_back {l : List UInt8} {n : Nd} (h : decL l = some n) : checkL 15 n = 0 ∧ l = headB ++ encL 15 n ∧ l.length ≤ 60000 := by
  unfold decL at h
  split at h
  · cases h
  · rename_i hl
    cases ht : Plain.cutT l with
    | none => simp [ht] at h
    | some x =>
      obtain ⟨t, r⟩ := x
      have h1 := cutT_back ht
      simp only [ht] at h
      split at h
      · cases h
      · rename_i hm
        cases hn : readN 12 r with
        | none => simp [hn] at h
        | some y =>
          obtain ⟨m, r2⟩ := y
          simp only [hn] at h
          split at h
          · cases h
          · rename_i hr2
            split at h
            · cases h
            · rename_i hc
              simp only [Option.some.injEq] at h
              subst h
              have hmt : t = magicL := by simpa using hm
              have hr0 : r2 = [] := by simpa using hr2
              subst hr0 hmt
              obtain ⟨_, h5⟩ := read_back 12 15 r m [] (by decide) hn
              rw [List.append_nil] at h5
              refine ⟨by simpa using hc, ?_, by omega⟩
              rw [h1, h5]
              rfl
end Go.Proofs.Ytdpeblchndfdaaa
