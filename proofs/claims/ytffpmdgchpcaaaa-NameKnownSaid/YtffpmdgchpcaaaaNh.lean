/- The document's Check, Path and Split. -/
import Derived.Test.YtffpmdgchpcaaaaNg
namespace Go.Proofs.Ytffpmdgchpcaaaa
open Go.RowKit
attribute [local go_sem] bs_size

theorem chk_bad {l : List UInt8} (h : ¬ 20 < l.length) (h1 : l.all nameB = false) : chk l = 2 := by
  unfold chk; rw [if_neg h, h1]; split <;> rfl

set_option maxHeartbeats 4000000 in
theorem refCheck_any (l : List UInt8) (x : Int) (w : World) (hl : l.length ≤ 140737488351232) (hx : chk l = x) :
    Calls Try.prog 20 #[.string (bs l)] w fun e w' => e = .returned (.int .i64 x) ∧ w' = w := by
  by_cases h20 : 20 < l.length
  · have h0 : (20 : Int) < l.length := by omega
    obtain rfl : x = 3 := by rw [← hx, chk_len h20]
    clear hx h20
    go_enter Try.func20, Try.ntmps20
    go_wp2
    go_ret
    exact ⟨rfl, rfl⟩
  · have h0 : ¬ (20 : Int) < l.length := by omega
    have hbad : ∀ k c, l[k]? = some c → nameB c = false → x = 2 := fun k c hc h => by rw [← hx, chk_bad h20 (all_false nameB l k c hc h)]
    have hend : l.all nameB = true → chk l = x := fun _ => hx
    have HX := Lib.hid hx
    have HBad := Lib.hid hbad
    clear hbad hx hend
    go_enter Try.func20, Try.ntmps20
    go_wp2
    go_loop [3] (fun i => ∃ k : Nat, k ≤ l.length ∧ i = .int .i64 k ∧ (l.take k).all nameB = true) (fun i => l.length - (intOf i).toNat)
    case atStart => exact ⟨0, by omega, rfl, rfl⟩
    case round =>
      obtain ⟨k, hk, rfl, hF⟩ := hrel
      have HF := Lib.hid hF
      clear hF
      by_cases hlt : k < l.length
      · obtain ⟨c, hc⟩ : ∃ c, l[k]? = some c := ⟨_, List.getElem?_eq_getElem hlt⟩
        have hat := fun h => bs_at (l := l) (k := k) hc h
        have ht := all_take_succ nameB l k c hc
        rw [HF.out, Bool.true_and] at ht
        have hno := HBad.out k c hc
        obtain ⟨q, hq⟩ : ∃ q, amg [43, 45, 46, 95] c = q := ⟨_, rfl⟩
        have hlet := letter_any c [43, 45, 46, 95] w (by decide)
        rw [hq] at hlet
        obtain ⟨n, hn⟩ : ∃ n, nameB c = n := ⟨_, rfl⟩
        rw [hn] at ht hno
        unfold nameB kindB betw at hn
        rw [hq] at hn
        have HT := Lib.hid ht
        have HNo := Lib.hid hno
        clear ht hno hc HBad hq
        have hi0 : 0 ≤ (k : Int) := by omega
        have hi1 : (k : Int) < (l.length : Int) := by omega
        have hn0 : (c.toNat : Int) ≥ 0 := by omega
        obtain ⟨y, hy⟩ : ∃ y : Int, (c.toNat : Int) = y := ⟨_, rfl⟩
        rw [hy] at hn hlet hn0
        have hr : y < 48 ∨ (48 ≤ y ∧ y ≤ 57) ∨ (58 ≤ y ∧ y ≤ 64) ∨ (65 ≤ y ∧ y ≤ 90) ∨ (91 ≤ y ∧ y ≤ 96) ∨ (97 ≤ y ∧ y ≤ 122) ∨ 122 < y := by omega
        rcases hr with h | h | h | h | h | h | h
        all_goals by_cases h1 : (97 : Int) ≤ y
        all_goals try (exfalso; omega)
        all_goals first | (have d1 := decide_eq_true (show (97 : Int) ≤ y from h1); rw [d1] at hn) | (have d1 := decide_eq_false (show ¬ (97 : Int) ≤ y from h1); rw [d1] at hn)
        all_goals by_cases h2 : y ≤ (122 : Int)
        all_goals try (exfalso; omega)
        all_goals first | (have d2 := decide_eq_true (show y ≤ (122 : Int) from h2); rw [d2] at hn) | (have d2 := decide_eq_false (show ¬ y ≤ (122 : Int) from h2); rw [d2] at hn)
        all_goals by_cases h3 : (65 : Int) ≤ y
        all_goals try (exfalso; omega)
        all_goals first | (have d3 := decide_eq_true (show (65 : Int) ≤ y from h3); rw [d3] at hn) | (have d3 := decide_eq_false (show ¬ (65 : Int) ≤ y from h3); rw [d3] at hn)
        all_goals by_cases h4 : y ≤ (90 : Int)
        all_goals try (exfalso; omega)
        all_goals first | (have d4 := decide_eq_true (show y ≤ (90 : Int) from h4); rw [d4] at hn) | (have d4 := decide_eq_false (show ¬ y ≤ (90 : Int) from h4); rw [d4] at hn)
        all_goals by_cases h5 : (48 : Int) ≤ y
        all_goals try (exfalso; omega)
        all_goals first | (have d5 := decide_eq_true (show (48 : Int) ≤ y from h5); rw [d5] at hn) | (have d5 := decide_eq_false (show ¬ (48 : Int) ≤ y from h5); rw [d5] at hn)
        all_goals by_cases h6 : y ≤ (57 : Int)
        all_goals try (exfalso; omega)
        all_goals first | (have d6 := decide_eq_true (show y ≤ (57 : Int) from h6); rw [d6] at hn) | (have d6 := decide_eq_false (show ¬ y ≤ (57 : Int) from h6); rw [d6] at hn)
        all_goals
          cases q
          all_goals
            simp only [Bool.true_and, Bool.and_true, Bool.false_and, Bool.and_false, Bool.or_false, Bool.or_true, Bool.false_or, Bool.true_or] at hn
            subst hn
            first
              | (obtain rfl := HNo.out rfl
                 clear HT HNo HF HX
                 go_wp2_with (go_at_call 41; refine (hlet).mono ?_; rintro e w' ⟨rfl, rfl⟩)
                 go_ret
                 exact ⟨rfl, rfl⟩)
              | (clear HNo
                 go_wp2_with (go_at_call 41; refine (hlet).mono ?_; rintro e w' ⟨rfl, rfl⟩)
                 go_round
                 case rel => exact ⟨k + 1, by omega, by go_num, HT.out⟩
                 case measure => simp [intOf]; omega)
      · have he : k = l.length := by omega
        subst he
        rw [List.take_length] at HF
        by_cases hn : l = []
        · subst hn
          obtain rfl : x = 2 := by rw [← HX.out, chk_nil]
          have he : (bs []).toList.isEmpty = true := by rw [ByteArray.toList_eq, data_bs]; rfl
          have he2 : ((bs []).toList == []) = true := by rw [ByteArray.toList_eq, data_bs]; rfl
          clear HX HF HBad
          go_wp2
          go_ret
          exact ⟨rfl, rfl⟩
        · obtain ⟨a, ha⟩ : ∃ a, l[0]? = some a := ⟨_, List.getElem?_eq_getElem (by cases l <;> simp_all)⟩
          have hat := fun h => bs_at (l := l) (k := 0) ha h
          have hpos : 0 < l.length := by cases l <;> simp_all
          have hpos2 : (0 : Int) < (l.length : Int) := by omega
          have hhd : l.head? = some a := by rw [List.head?_eq_getElem?]; exact ha
          have he : (bs l).toList.isEmpty = false := by rw [ByteArray.toList_eq, data_bs]; cases l <;> simp_all
          have he2 : ((bs l).toList == []) = false := by rw [ByteArray.toList_eq, data_bs]; cases l <;> simp_all
          have he3 : (bs l).toList ≠ [] := by rw [ByteArray.toList_eq, data_bs]; exact hn
          by_cases hd : a = 46
          · subst hd
            obtain rfl : x = 2 := by rw [← HX.out, chk_dot h20 hhd]
            clear ha hhd hn HX HF HBad
            go_wp2
            go_ret
            exact ⟨rfl, rfl⟩
          · have hc := chk_all h20 hn (by rw [hhd]; intro e; exact hd (Option.some.inj e))
            rw [HX.out, HF.out] at hc
            obtain rfl : x = 0 := hc
            have hne : ((a.toNat : Int) == 46) = false := toNat_ne (b := 46) hd
            clear ha hhd hn HX HF HBad hd
            go_wp2
            go_ret
            exact ⟨rfl, rfl⟩

theorem int_neq {x : Int} (h : ¬ x = 0) : (x != 0) = true := by simpa using h
set_option maxHeartbeats 2000000 in
theorem refPath_any (h n : List UInt8) (w : World) (hl : h.length ≤ 70368744175616) (hl2 : n.length ≤ 70368744175616) :
    Calls Try.prog 16 #[.string (bs h), .string (bs n)] w fun e w' => e = .returned (.tuple #[.string (bs (pathS h n)), .int .i64 (pathE h n)]) ∧ Below w.heap.size w w' := by
  have hd : ({ data := #[45] } : ByteArray) = bs [45] := rfl
  have HD := Lib.hid hd
  clear hd
  cases hh : hashOk h
  · have e1 : pathE h n = 2 := by simp [pathE, hh]
    have e2 : pathS h n = [] := by simp [pathS, hh]
    rw [e1, e2]
    have hc := refIs_any h false w (by omega) hh
    clear e1 e2 hh
    go_enter Try.func16, Try.ntmps16
    go_wp2_with fail
    refine (hc).mono ?_
    rintro e w1 ⟨rfl, hb⟩
    go_wp2
    go_ret2
    exact ⟨by rfl, hb⟩
  · have hc := refIs_any h true w (by omega) hh
    obtain ⟨x, hx⟩ : ∃ x, chk n = x := ⟨_, rfl⟩
    have hk := fun w => refCheck_any n x w (by omega) hx
    have e1 : pathE h n = x := by simp [pathE, hh, hx]
    rw [e1]
    by_cases h0 : x = 0
    · subst h0
      have e2 : pathS h n = h ++ ([45] ++ n) := by simp [pathS, hh, hx]
      rw [e2]
      clear e1 e2 hh hx
      go_enter Try.func16, Try.ntmps16
      go_wp2_with fail
      refine (hc).mono ?_
      rintro e w1 ⟨rfl, hb⟩
      go_wp2_with fail
      refine (hk _).mono ?_
      rintro e w2 ⟨rfl, rfl⟩
      go_wp2
      go_ret2
      refine ⟨?_, hb⟩
      show Ending.returned (.tuple #[.string (bs h ++ { data := #[45] } ++ bs n), .int .i64 0]) = _
      rw [HD.out, bs_append, bs_append, List.append_assoc]
      rfl
    · have e2 : pathS h n = [] := by simp [pathS, hh, hx, h0]
      rw [e2]
      clear e1 e2 hh hx
      go_enter Try.func16, Try.ntmps16
      go_wp2_with fail
      refine (hc).mono ?_
      rintro e w1 ⟨rfl, hb⟩
      go_wp2_with fail
      refine (hk _).mono ?_
      rintro e w2 ⟨rfl, rfl⟩
      go_wp2
      go_ret2
      exact ⟨by rfl, hb⟩

theorem head_drop (l : List UInt8) (k : Nat) : (l.drop k).head? = l[k]? := by
  rw [List.head?_eq_getElem?, List.getElem?_drop]; rfl
attribute [local go_sem] bs_take_bs bs_extract_end
set_option maxHeartbeats 4000000 in
theorem refSplit_any (l : List UInt8) (w : World) (hl : l.length ≤ 70368744175616) :
    Calls Try.prog 18 #[.string (bs l)] w fun e w' => e = .returned (splitV l) ∧ Below w.heap.size w w' := by
  have hi0 : (0 : Int) ≤ 32 := by omega
  by_cases h34 : 34 ≤ l.length
  · have i34 : (34 : Int) ≤ l.length := by omega
    have i32 : (32 : Int) ≤ l.length := by omega
    have i32' : (32 : Int) < l.length := by omega
    have n32 : 32 < l.length := by omega
    have i33 : (33 : Int) ≤ l.length := by omega
    obtain ⟨c, hc⟩ : ∃ c, l[32]? = some c := ⟨_, List.getElem?_eq_getElem n32⟩
    have hat := fun h => bs_at (l := l) (k := 32) hc h
    have hhd : (l.drop 32).head? = some c := by rw [head_drop, hc]
    cases hh : hashOk (l.take 32)
    · have hv := splitV_no (pathOk_hash hh)
      have hi := refIs_any (l.take 32) false w (by rw [List.length_take]; omega) hh
      rw [hv]
      clear hv h34 hh hc hhd hat
      go_enter Try.func18, Try.ntmps18
      go_wp2_with fail
      refine (hi).mono ?_
      rintro e w1 ⟨rfl, hb⟩
      go_wp2
      go_ret3
      exact ⟨rfl, hb⟩
    · have hi := refIs_any (l.take 32) true w (by rw [List.length_take]; omega) hh
      by_cases hp : c = 45
      · subst hp
        obtain ⟨x, hx⟩ : ∃ x, chk (l.drop 33) = x := ⟨_, rfl⟩
        have hk := fun w => refCheck_any (l.drop 33) x w (by rw [List.length_drop]; omega) hx
        by_cases h0 : x = 0
        · subst h0
          have hv := splitV_yes (pathOk_all (by omega) hhd hh hx)
          rw [hv]
          clear hv h34 hh hx hc hhd
          go_enter Try.func18, Try.ntmps18
          go_wp2_with fail
          refine (hi).mono ?_
          rintro e w1 ⟨rfl, hb⟩
          have HB := Lib.hid hb
          clear hb
          go_wp2_with fail
          refine (hk _).mono ?_
          rintro e w2 ⟨rfl, rfl⟩
          go_wp2
          go_quiet (fail)
          go_wp2
          go_ret3
          exact ⟨rfl, below_drewN' HB.out _⟩
        · have hv := splitV_no (pathOk_name (by rw [hx]; exact h0))
          have hx0 := int_neq h0
          have hlt34 : decide ((l.length : Int) < 34) = false := decide_eq_false (by omega)
          rw [hv]
          clear hv h34 hh hx hc hhd
          go_enter Try.func18, Try.ntmps18
          go_wp2_with fail
          refine (hi).mono ?_
          rintro e w1 ⟨rfl, hb⟩
          have HB := Lib.hid hb
          clear hb
          go_wp2_with fail
          refine (hk _).mono ?_
          rintro e w2 ⟨rfl, rfl⟩
          go_wp2
          go_ret3
          exact ⟨rfl, HB.out⟩
      · have hv := splitV_no (pathOk_dash (by rw [hhd]; intro e; exact hp (Option.some.inj e)))
        rw [hv]
        have hne : ((c.toNat : Int) == 45) = false := toNat_ne (b := 45) hp
        have hne2 : ((c.toNat : Int) != 45) = true := by rw [bne, hne]; rfl
        clear hv h34 hh hc hhd hp
        go_enter Try.func18, Try.ntmps18
        go_wp2_with fail
        refine (hi).mono ?_
        rintro e w1 ⟨rfl, hb⟩
        go_wp2
        go_ret3
        exact ⟨rfl, hb⟩
  · have i34 : ¬ (34 : Int) ≤ l.length := by omega
    have hv : pathOk l = false := by
      by_cases h0 : l.length ≤ 33
      · exact pathOk_name (by rw [List.drop_eq_nil_of_le h0, chk_nil]; decide)
      · omega
    rw [splitV_no hv]
    clear h34 hv
    go_enter Try.func18, Try.ntmps18
    go_wp2
    go_ret3
    exact ⟨rfl, Below.refl _ _⟩
end Go.Proofs.Ytffpmdgchpcaaaa
