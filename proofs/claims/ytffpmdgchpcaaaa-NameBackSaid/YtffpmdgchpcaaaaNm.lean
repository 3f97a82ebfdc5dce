/- The statement NameBack: its walk. -/
import Derived.Test.YtffpmdgchpcaaaaNl
namespace Go.Proofs.Ytffpmdgchpcaaaa
open Go.RowKit

theorem isLet_letN (n : Nat) (h : n < 32) : isLet (letN n) = true := by
  have : ∀ k : Fin 32, isLet (letN k.1) = true := by decide
  exact this ⟨n, h⟩
theorem hashOk_hashL (s : List UInt8) : hashOk (hashL s) = true := by
  unfold hashOk
  rw [hashL_len, decide_eq_true rfl, Bool.true_and, List.all_eq_true]
  intro c hc
  unfold hashL hls at hc
  obtain ⟨j, _, rfl⟩ := List.mem_map.1 hc
  exact isLet_letN _ (Nat.mod_lt _ (by omega))
theorem pathE_of {h n : List UInt8} (hh : hashOk h = true) : pathE h n = chk n := by unfold pathE; rw [if_pos hh]
theorem pathS_no {h n : List UInt8} (h0 : ¬ chk n = 0) : pathS h n = [] := by unfold pathS; rw [decide_eq_false h0, Bool.and_false]; rfl
theorem pathS_yes {h n : List UInt8} (hh : hashOk h = true) (h0 : chk n = 0) : pathS h n = h ++ ([45] ++ n) := by unfold pathS; rw [hh, decide_eq_true h0]; rfl
theorem split_joined {h n : List UInt8} (hh : hashOk h = true) (h0 : chk n = 0) (hl : h.length = 32) : splitV (h ++ ([45] ++ n)) = .tuple #[.string (bs h), .string (bs n), .int .i64 0] := by
  have e1 : (h ++ ([45] ++ n)).take 32 = h := by rw [← hl, List.take_left]
  have e2 : (h ++ ([45] ++ n)).drop 32 = [45] ++ n := by rw [← hl, List.drop_left]
  have e3 : (h ++ ([45] ++ n)).drop 33 = n := by rw [show 33 = 32 + 1 from rfl, ← List.drop_drop, e2]; rfl
  rw [splitV_yes (pathOk_all (by simp [hl]) (by rw [e2]; rfl) (by rw [e1]; exact hh) (by rw [e3]; exact h0)), e1, e3]
theorem pathOk_parts {l : List UInt8} (h : pathOk l = true) : 32 ≤ l.length ∧ hashOk (l.take 32) = true ∧ (l.drop 32).head? = some 45 ∧ chk (l.drop 33) = 0 := by
  unfold pathOk at h
  simp only [Bool.and_eq_true, decide_eq_true_eq] at h
  exact ⟨h.1.1.1, h.1.1.2, h.1.2, h.2⟩
theorem join_split {l : List UInt8} (h : pathOk l = true) : pathS (l.take 32) (l.drop 33) = l ∧ pathE (l.take 32) (l.drop 33) = 0 := by
  obtain ⟨h1, h2, h3, h4⟩ := pathOk_parts h
  refine ⟨?_, by rw [pathE_of h2, h4]⟩
  rw [pathS_yes h2 h4]
  have e : l.drop 32 = 45 :: l.drop 33 := by
    cases hd : l.drop 32 with
    | nil => rw [hd] at h3; cases h3
    | cons a t =>
      rw [hd] at h3
      have ha : a = 45 := Option.some.inj h3
      rw [ha, show 33 = 32 + 1 from rfl, ← List.drop_drop, hd]; rfl
  show l.take 32 ++ (45 :: l.drop 33) = l
  rw [← e, List.take_append_drop]

theorem e_nil1 : (bs []).toList.isEmpty = true := by rw [ByteArray.toList_eq, data_bs]; rfl
theorem e_nil2 : ((bs []).toList == []) = true := by rw [ByteArray.toList_eq, data_bs]; rfl

set_option maxHeartbeats 8000000 in
theorem nameBack_walk (s t : ByteArray) (w : World) (hs : s.size ≤ maxLen) (ht : t.size ≤ maxLen) :
    Calls Try.prog 8 #[.string s, .string t] w fun e w' => e = .returned (.bool true) ∧ Below w.heap.size w w' := by
  unfold maxLen at hs ht
  have q1 := e_nil1
  have q2 := e_nil2
  go_enter Try.func8, Try.ntmps8
  go_wp2_with fail
  have h1 : (s.extract 0 (min (s.size : Int) 60).toNat).size ≤ 60 := cut_size s 60
  generalize s.extract 0 (min (s.size : Int) 60).toNat = s2 at h1 ⊢
  obtain ⟨l, rfl⟩ := ex_bs s2
  have h2 : (t.extract 0 (min (t.size : Int) 60).toNat).size ≤ 60 := cut_size t 60
  generalize t.extract 0 (min (t.size : Int) 60).toNat = t2 at h2 ⊢
  obtain ⟨n, rfl⟩ := ex_bs t2
  rw [bs_size] at h1 h2
  have c1 := fun w => hash_any l w (by omega)
  have hlen := hashL_len (sha l)
  have hok := hashOk_hashL (sha l)
  generalize hashL (sha l) = H at *
  have c2 := fun w => path_any H n w (by omega) (by omega)
  rw [pathE_of hok] at c2
  obtain ⟨x, hx⟩ : ∃ x, chk n = x := ⟨_, rfl⟩
  have c3 := fun w => check_any n x w (by omega) hx
  rw [hx] at c2
  have c5 := fun w => split_any l w (by omega)
  have hl4 : (l.take 32).length ≤ 60 := by rw [List.length_take]; omega
  have hl5 : (l.drop 33).length ≤ 60 := by rw [List.length_drop]; omega
  have c6 := fun w => path_any (l.take 32) (l.drop 33) w (by omega) (by omega)
  have hHl : (H ++ ([45] ++ n)).length ≤ 100 := by simp [hlen]; omega
  by_cases h0 : x = 0
  · subst h0
    have c4 := fun w => split_any (H ++ ([45] ++ n)) w (by omega)
    rw [split_joined hok hx hlen] at c4
    rw [pathS_yes hok hx] at c2
    generalize H ++ ([45] ++ n) = P at *
    cases hp : pathOk l
    · rw [splitV_no hp] at c5
      clear hp hok hlen hx c6 hl4 hl5 hHl
      go_wp2_with fail
      refine (c1 _).mono ?_
      rintro e w1 ⟨rfl, b1⟩
      have HB1 := Lib.hid b1
      clear b1
      go_wp2_with fail
      refine (c2 _).mono ?_
      rintro e w2 ⟨rfl, b2⟩
      have HB2 := Lib.hid (HB1.out.trans (b2.mono HB1.out.size))
      clear b2
      go_wp2_with fail
      refine (c3 _).mono ?_
      rintro e w3 ⟨rfl, b3⟩
      have HB3 := Lib.hid (HB2.out.trans (b3.mono HB2.out.size))
      clear b3
      go_wp2_with fail
      refine (c4 _).mono ?_
      rintro e w4 ⟨rfl, b4⟩
      have HB4 := Lib.hid (HB3.out.trans (b4.mono HB3.out.size))
      clear b4
      go_wp2_with fail
      refine (c5 _).mono ?_
      rintro e w5 ⟨rfl, b5⟩
      have HB5 := Lib.hid (HB4.out.trans (b5.mono HB4.out.size))
      clear b5
      go_wp2_with fail
      refine (works_any3 _).mono ?_
      rintro e w6 ⟨rfl, b6⟩
      have HB6 := Lib.hid (HB5.out.trans (b6.mono HB5.out.size))
      clear b6
      go_wp2
      go_ret
      exact ⟨rfl, HB6.out⟩
    · rw [splitV_yes hp] at c5
      rw [(join_split hp).1, (join_split hp).2] at c6
      clear hp hok hlen hx hl4 hl5 hHl
      generalize l.take 32 = A at *
      generalize l.drop 33 = B at *
      go_wp2_with fail
      refine (c1 _).mono ?_
      rintro e w1 ⟨rfl, b1⟩
      have HB1 := Lib.hid b1
      clear b1
      go_wp2_with fail
      refine (c2 _).mono ?_
      rintro e w2 ⟨rfl, b2⟩
      have HB2 := Lib.hid (HB1.out.trans (b2.mono HB1.out.size))
      clear b2
      go_wp2_with fail
      refine (c3 _).mono ?_
      rintro e w3 ⟨rfl, b3⟩
      have HB3 := Lib.hid (HB2.out.trans (b3.mono HB2.out.size))
      clear b3
      go_wp2_with fail
      refine (c4 _).mono ?_
      rintro e w4 ⟨rfl, b4⟩
      have HB4 := Lib.hid (HB3.out.trans (b4.mono HB3.out.size))
      clear b4
      go_wp2_with fail
      refine (c5 _).mono ?_
      rintro e w5 ⟨rfl, b5⟩
      have HB5 := Lib.hid (HB4.out.trans (b5.mono HB4.out.size))
      clear b5
      go_wp2_with fail
      refine (c6 _).mono ?_
      rintro e w6 ⟨rfl, b6⟩
      have HB6 := Lib.hid (HB5.out.trans (b6.mono HB5.out.size))
      clear b6
      go_wp2_with fail
      refine (works_any3 _).mono ?_
      rintro e w7 ⟨rfl, b7⟩
      have HB7 := Lib.hid (HB6.out.trans (b7.mono HB6.out.size))
      clear b7
      go_wp2
      go_ret
      exact ⟨rfl, HB7.out⟩
  · have hx1 := int_neq h0
    have hx2 : (x == 0) = false := by simpa using h0
    rw [pathS_no (by rw [hx]; exact h0)] at c2
    cases hp : pathOk l
    · rw [splitV_no hp] at c5
      clear hp hok hlen hx c6 hl4 hl5 hHl h0
      go_wp2_with fail
      refine (c1 _).mono ?_
      rintro e w1 ⟨rfl, b1⟩
      have HB1 := Lib.hid b1
      clear b1
      go_wp2_with fail
      refine (c2 _).mono ?_
      rintro e w2 ⟨rfl, b2⟩
      have HB2 := Lib.hid (HB1.out.trans (b2.mono HB1.out.size))
      clear b2
      go_wp2_with fail
      refine (c3 _).mono ?_
      rintro e w3 ⟨rfl, b3⟩
      have HB3 := Lib.hid (HB2.out.trans (b3.mono HB2.out.size))
      clear b3
      go_wp2_with fail
      refine (c5 _).mono ?_
      rintro e w5 ⟨rfl, b5⟩
      have HB5 := Lib.hid (HB3.out.trans (b5.mono HB3.out.size))
      clear b5
      go_wp2_with fail
      refine (works_any3 _).mono ?_
      rintro e w6 ⟨rfl, b6⟩
      have HB6 := Lib.hid (HB5.out.trans (b6.mono HB5.out.size))
      clear b6
      go_wp2
      go_ret
      exact ⟨rfl, HB6.out⟩
    · rw [splitV_yes hp] at c5
      rw [(join_split hp).1, (join_split hp).2] at c6
      clear hp hok hlen hx hl4 hl5 hHl h0
      generalize l.take 32 = A at *
      generalize l.drop 33 = B at *
      go_wp2_with fail
      refine (c1 _).mono ?_
      rintro e w1 ⟨rfl, b1⟩
      have HB1 := Lib.hid b1
      clear b1
      go_wp2_with fail
      refine (c2 _).mono ?_
      rintro e w2 ⟨rfl, b2⟩
      have HB2 := Lib.hid (HB1.out.trans (b2.mono HB1.out.size))
      clear b2
      go_wp2_with fail
      refine (c3 _).mono ?_
      rintro e w3 ⟨rfl, b3⟩
      have HB3 := Lib.hid (HB2.out.trans (b3.mono HB2.out.size))
      clear b3
      go_wp2_with fail
      refine (c5 _).mono ?_
      rintro e w5 ⟨rfl, b5⟩
      have HB5 := Lib.hid (HB3.out.trans (b5.mono HB3.out.size))
      clear b5
      go_wp2_with fail
      refine (c6 _).mono ?_
      rintro e w6 ⟨rfl, b6⟩
      have HB6 := Lib.hid (HB5.out.trans (b6.mono HB5.out.size))
      clear b6
      go_wp2_with fail
      refine (works_any3 _).mono ?_
      rintro e w7 ⟨rfl, b7⟩
      have HB7 := Lib.hid (HB6.out.trans (b7.mono HB6.out.size))
      clear b7
      go_wp2
      go_ret
      exact ⟨rfl, HB7.out⟩
end Go.Proofs.Ytffpmdgchpcaaaa
