/- The walks of Path and Split. -/
import Derived.Test.YtffpmdgchpcaaaaNe
namespace Go.Proofs.Ytffpmdgchpcaaaa
open Go.RowKit

theorem clone_any (l : List UInt8) (w : World) (hl : l.length ≤ 140737488351232) :
    Calls Try.prog 36 #[.string (bs l)] w fun e w' => e = .returned (.string (bs l)) ∧ Below w.heap.size w w' := by
  have hc := Try.stringslite_Clone (bs l) w (by rw [bs_size]; omega)
  go_enter Try.func36, Try.ntmps36
  go_wp2_with fail
  refine (hc).mono ?_
  rintro e w1 ⟨rfl, hb⟩
  go_wp2
  go_ret
  exact ⟨rfl, hb⟩

/-- what Path answers -/
def pathE (h n : List UInt8) : Int := if hashOk h then chk n else 2
def pathS (h n : List UInt8) : List UInt8 := if hashOk h && decide (chk n = 0) then h ++ ([45] ++ n) else []

attribute [local go_sem] bs_append bs_size
set_option maxHeartbeats 2000000 in
theorem path_any (h n : List UInt8) (w : World) (hl : h.length ≤ 70368744175616) (hl2 : n.length ≤ 70368744175616) :
    Calls Try.prog 15 #[.string (bs h), .string (bs n)] w fun e w' => e = .returned (.tuple #[.string (bs (pathS h n)), .int .i64 (pathE h n)]) ∧ Below w.heap.size w w' := by
  have hd : ({ data := #[45] } : ByteArray) = bs [45] := rfl
  have h0 : ({ data := #[] } : ByteArray) = bs [] := rfl
  have HD := Lib.hid hd
  have H0 := Lib.hid h0
  clear hd h0
  cases hh : hashOk h
  · have e1 : pathE h n = 2 := by simp [pathE, hh]
    have e2 : pathS h n = [] := by simp [pathS, hh]
    rw [e1, e2]
    have hc := isHash_any h false w (by omega) hh
    clear e1 e2 hh
    go_enter Try.func15, Try.ntmps15
    go_wp2_with fail
    refine (hc).mono ?_
    rintro e w1 ⟨rfl, hb⟩
    go_wp2
    go_ret2
    exact ⟨by rfl, hb⟩
  · have hc := isHash_any h true w (by omega) hh
    obtain ⟨x, hx⟩ : ∃ x, chk n = x := ⟨_, rfl⟩
    have hk := fun w => check_any n x w (by omega) hx
    have e1 : pathE h n = x := by simp [pathE, hh, hx]
    rw [e1]
    by_cases h0 : x = 0
    · subst h0
      have e2 : pathS h n = h ++ ([45] ++ n) := by simp [pathS, hh, hx]
      rw [e2]
      clear e1 e2 hh hx
      go_enter Try.func15, Try.ntmps15
      go_wp2_with fail
      refine (hc).mono ?_
      rintro e w1 ⟨rfl, hb⟩
      go_wp2_with fail
      refine (hk _).mono ?_
      rintro e w2 ⟨rfl, hb2⟩
      go_wp2
      go_ret2
      refine ⟨?_, hb.trans (hb2.mono hb.size)⟩
      show Ending.returned (.tuple #[.string (bs h ++ { data := #[45] } ++ bs n), .int .i64 0]) = _
      rw [HD.out, bs_append, bs_append, List.append_assoc]
      rfl
    · have e2 : pathS h n = [] := by simp [pathS, hh, hx, h0]
      rw [e2]
      clear e1 e2 hh hx
      go_enter Try.func15, Try.ntmps15
      go_wp2_with fail
      refine (hc).mono ?_
      rintro e w1 ⟨rfl, hb⟩
      go_wp2_with fail
      refine (hk _).mono ?_
      rintro e w2 ⟨rfl, hb2⟩
      go_wp2
      go_ret2
      exact ⟨by rfl, hb.trans (hb2.mono hb.size)⟩

theorem pathOk_short {l : List UInt8} (h : ¬ 32 ≤ l.length) : pathOk l = false := by unfold pathOk; rw [show decide (32 ≤ l.length) = false by simpa using h]; rfl
theorem pathOk_dash {l : List UInt8} (h : ¬ (l.drop 32).head? = some 45) : pathOk l = false := by unfold pathOk; rw [show decide ((l.drop 32).head? = some 45) = false from decide_eq_false h]; simp only [Bool.and_false, Bool.false_and]
theorem pathOk_hash {l : List UInt8} (h : hashOk (l.take 32) = false) : pathOk l = false := by unfold pathOk; rw [h]; simp only [Bool.and_false, Bool.false_and]
theorem pathOk_name {l : List UInt8} (h : ¬ chk (l.drop 33) = 0) : pathOk l = false := by unfold pathOk; rw [show decide (chk (l.drop 33) = 0) = false from decide_eq_false h]; simp only [Bool.and_false]
theorem pathOk_all {l : List UInt8} (h1 : 32 ≤ l.length) (h2 : (l.drop 32).head? = some 45) (h3 : hashOk (l.take 32) = true) (h4 : chk (l.drop 33) = 0) : pathOk l = true := by
  unfold pathOk; rw [h3, decide_eq_true h1, decide_eq_true h2, decide_eq_true h4]; rfl
theorem cut_yes (l : List UInt8) (w : World) (h : (l.drop 32).head? = some 45) :
    Calls Try.prog 35 #[.string (bs (l.drop 32)), .string ⟨#[45]⟩] w fun e w' => e = .returned (.tuple #[.string (bs (l.drop 33)), .bool true]) ∧ w' = w := by
  have hc := Try.strings_CutPrefix (bs (l.drop 32)) (bs [45]) w
  rw [data_bs, data_bs, hasPrefix_one] at hc
  unfold Lib.trimPrefix at hc
  rw [hasPrefix_one, decide_eq_true h, if_pos rfl, List.drop_drop] at hc
  exact hc
theorem cut_no (l : List UInt8) (w : World) (h : ¬ (l.drop 32).head? = some 45) :
    Calls Try.prog 35 #[.string (bs (l.drop 32)), .string ⟨#[45]⟩] w fun e w' => e = .returned (.tuple #[.string (bs (l.drop 32)), .bool false]) ∧ w' = w := by
  have hc := Try.strings_CutPrefix (bs (l.drop 32)) (bs [45]) w
  rw [data_bs, data_bs, hasPrefix_one] at hc
  unfold Lib.trimPrefix at hc
  rw [hasPrefix_one, decide_eq_false h, if_neg (by decide)] at hc
  exact hc
theorem bs_extract_end (l : List UInt8) (k : Nat) : (bs l).extract k l.length = bs (l.drop k) := by
  have := bs_drop_bs l k
  rwa [bs_size] at this
/-- what Split answers -/
def splitV (l : List UInt8) : Value := if pathOk l then .tuple #[.string (bs (l.take 32)), .string (bs (l.drop 33)), .int .i64 0] else .tuple #[.string (bs []), .string (bs []), .int .i64 4]
theorem splitV_no {l : List UInt8} (h : pathOk l = false) : splitV l = .tuple #[.string (bs []), .string (bs []), .int .i64 4] := by unfold splitV; rw [h]; rfl
theorem splitV_yes {l : List UInt8} (h : pathOk l = true) : splitV l = .tuple #[.string (bs (l.take 32)), .string (bs (l.drop 33)), .int .i64 0] := by unfold splitV; rw [h]; rfl
attribute [local go_sem] bs_take_bs bs_extract_end
set_option maxHeartbeats 4000000 in
theorem split_any (l : List UInt8) (w : World) (hl : l.length ≤ 70368744175616) :
    Calls Try.prog 17 #[.string (bs l)] w fun e w' => e = .returned (splitV l) ∧ Below w.heap.size w w' := by
  by_cases h32 : 32 ≤ l.length
  · have i32 : (32 : Int) ≤ l.length := by omega
    by_cases hp : (l.drop 32).head? = some 45
    · have hcut := cut_yes l w hp
      cases hh : hashOk (l.take 32)
      · have hv := splitV_no (pathOk_hash hh)
        have hi := isHash_any (l.take 32) false w (by rw [List.length_take]; omega) hh
        rw [hv]
        clear hv hp h32 hh
        go_enter Try.func17, Try.ntmps17
        go_wp2_with fail
        refine (hcut).mono ?_
        rintro e w1 ⟨rfl, rfl⟩
        go_wp2_with fail
        refine (hi).mono ?_
        rintro e w1 ⟨rfl, hb⟩
        go_wp2
        go_ret3
        exact ⟨rfl, hb⟩
      · have hi := isHash_any (l.take 32) true w (by rw [List.length_take]; omega) hh
        obtain ⟨x, hx⟩ : ∃ x, chk (l.drop 33) = x := ⟨_, rfl⟩
        have hk := fun w => check_any (l.drop 33) x w (by rw [List.length_drop]; omega) hx
        by_cases h0 : x = 0
        · subst h0
          have hv := splitV_yes (pathOk_all h32 hp hh hx)
          rw [hv]
          have hc1 := fun w => clone_any (l.take 32) w (by rw [List.length_take]; omega)
          have hc2 := fun w => clone_any (l.drop 33) w (by rw [List.length_drop]; omega)
          clear hv hp h32 hh hx
          go_enter Try.func17, Try.ntmps17
          go_wp2_with fail
          refine (hcut).mono ?_
          rintro e w1 ⟨rfl, rfl⟩
          go_wp2_with fail
          refine (hi).mono ?_
          rintro e w1 ⟨rfl, hb⟩
          have HB := Lib.hid hb
          clear hb
          go_wp2_with fail
          refine (hk _).mono ?_
          rintro e w2 ⟨rfl, hb2⟩
          have HB2 := Lib.hid (hb2.mono HB.out.size)
          clear hb2
          go_wp2_with fail
          refine (hc1 _).mono ?_
          rintro e w3 ⟨rfl, hb3⟩
          have HB3 := Lib.hid (hb3.mono (HB.out.trans HB2.out).size)
          clear hb3
          go_wp2_with fail
          refine (hc2 _).mono ?_
          rintro e w4 ⟨rfl, hb4⟩
          have HB4 := Lib.hid (hb4.mono ((HB.out.trans HB2.out).trans HB3.out).size)
          clear hb4
          go_wp2
          go_ret3
          exact ⟨rfl, ((HB.out.trans HB2.out).trans HB3.out).trans HB4.out⟩
        · have hv := splitV_no (pathOk_name (by rw [hx]; exact h0))
          rw [hv]
          clear hv hp h32 hh hx
          go_enter Try.func17, Try.ntmps17
          go_wp2_with fail
          refine (hcut).mono ?_
          rintro e w1 ⟨rfl, rfl⟩
          go_wp2_with fail
          refine (hi).mono ?_
          rintro e w1 ⟨rfl, hb⟩
          have HB := Lib.hid hb
          clear hb
          go_wp2_with fail
          refine (hk _).mono ?_
          rintro e w2 ⟨rfl, hb2⟩
          have HB2 := Lib.hid (hb2.mono HB.out.size)
          clear hb2
          go_wp2
          go_ret3
          exact ⟨rfl, HB.out.trans HB2.out⟩
    · have hv := splitV_no (pathOk_dash hp)
      rw [hv]
      have hcut := cut_no l w hp
      clear hp hv h32
      go_enter Try.func17, Try.ntmps17
      go_wp2_with fail
      refine (hcut).mono ?_
      rintro e w1 ⟨rfl, rfl⟩
      go_wp2
      go_ret3
      exact ⟨rfl, Below.refl _ _⟩
  · have i32 : ¬ (32 : Int) ≤ l.length := by omega
    rw [splitV_no (pathOk_short h32)]
    clear h32
    go_enter Try.func17, Try.ntmps17
    go_wp2
    go_ret3
    exact ⟨rfl, Below.refl _ _⟩
end Go.Proofs.Ytffpmdgchpcaaaa
