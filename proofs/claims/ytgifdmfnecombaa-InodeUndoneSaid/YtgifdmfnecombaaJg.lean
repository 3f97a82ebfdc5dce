/- A file that many entries name: the lists. -/
import Derived.Test.YtgifdmfnecombaaJf
namespace Go.Proofs.Ytgifdmfnecombaa
open Go.RowKit
set_option maxRecDepth 100000
def nmOf (j : Nat) : List UInt8 := [UInt8.ofNat (97 + j)]
def dirOf (j : Nat) : Int := if j % 2 = 1 then 2 else 1
def entOf (j : Nat) : Ent := ⟨dirOf j, nmOf j, 3⟩
def LD (dt : List UInt8) (js : List Nat) : Doc := ⟨[⟨2, 493, []⟩, ⟨2, 493, []⟩, ⟨1, 420, dt⟩], ⟨1, [100], 2⟩ :: js.map entOf, 10, 300⟩
def LX (dt : List UInt8) (js : List Nat) : Doc := if js = [] then ⟨[⟨2, 493, []⟩, ⟨2, 493, []⟩, ⟨0, 0, []⟩], [⟨1, [100], 2⟩], 10, 300⟩ else LD dt js
theorem nm_inj {i j : Nat} (hi : i < 12) (hj : j < 12) (h : nmOf i = nmOf j) : i = j := by
  unfold nmOf at h
  have h1 := congrArg UInt8.toNat (List.cons.inj h).1
  rw [UInt8.toNat_ofNat', UInt8.toNat_ofNat'] at h1
  omega
theorem dir_or (j : Nat) : dirOf j = 1 ∨ dirOf j = 2 := by unfold dirOf; split <;> simp
theorem dir_wf (j : Nat) : (Lit.int .i64 (dirOf j)).wf = true := by rcases dir_or j with h | h <;> rw [h] <;> decide
theorem nm_asc (j : Nat) (h : j < 12) : Asc (nmOf j) := fun i b hb => by
  unfold nmOf at hb
  cases i with
  | zero =>
    simp only [List.getElem?_cons_zero, Option.some.injEq] at hb
    subst hb
    rw [UInt8.toNat_ofNat']
    omega
  | succ i => simp at hb
theorem nm_ok : ∀ j, j < 12 → nmOk (nmOf j) = true := by decide +kernel
theorem not_d {j : Nat} (h : j < 12) : ¬ ((1 : Int) = dirOf j ∧ [100] = nmOf j) := fun ⟨h1, h2⟩ => by
  have : (3 : Nat) = j := nm_inj (by omega) h (show nmOf 3 = nmOf j from h2)
  subst this
  exact absurd h1 (by decide)
theorem LD_row (dt : List UInt8) (js : List Nat) (k : Int) (h : k = 1 ∨ k = 2) : (LD dt js).row k = some ⟨2, 493, []⟩ := by
  rcases h with rfl | rfl <;> rfl
theorem LD_row3 (dt : List UInt8) (js : List Nat) : (LD dt js).row 3 = some ⟨1, 420, dt⟩ := rfl
theorem LD_num (dt : List UInt8) (js : List Nat) : (LD dt js).num 3 = js.length := by
  unfold Doc.num
  show ((⟨1, [100], 2⟩ : Ent) :: js.map entOf).countP (isX 3) = _
  rw [List.countP_cons, List.countP_map]
  have : js.countP (isX 3 ∘ entOf) = js.length := List.countP_eq_length.mpr fun j _ => rfl
  rw [this]
  rfl
theorem LD_ino (dt : List UInt8) (js : List Nat) : toldV ((LD dt js).ino 3) = [.int .i64 1, .int .i64 420, .string (bs dt), .int .i64 (js.length : Int)] ∧ ((LD dt js).ino 3).isSome = true := by
  unfold Doc.ino
  rw [LD_row3]
  refine ⟨?_, rfl⟩
  show [_, _, _, Value.int .i64 ((LD dt js).lnk 3)] = _
  unfold Doc.lnk
  rw [if_neg (by decide), LD_num]
  rfl
theorem LD_used (dt : List UInt8) (js : List Nat) : (LD dt js).inodes = 3 ∧ (LD dt js).bytes = dt.length := ⟨rfl, by show 0 + (0 + (dt.length + 0)) = _; omega⟩
theorem LD_find {dt : List UInt8} {js : List Nat} {dp : Int → Nat} (I : (LD dt js).Inv dp) {j : Nat} (h : j ∈ js) : (LD dt js).find (dirOf j) (nmOf j) = some 3 :=
  find_is I (e := entOf j) (List.mem_cons_of_mem _ (List.mem_map_of_mem h))
theorem LD_free {dt : List UInt8} {js : List Nat} {j : Nat} (h : j ∉ js) (hj : j < 12) (hjs : ∀ i ∈ js, i < 12) : (LD dt js).find (dirOf j) (nmOf j) = none := by
  refine find_none fun e he hq => ?_
  rcases List.mem_cons.mp he with rfl | he
  · exact not_d hj hq
  · obtain ⟨i, hi, rfl⟩ := List.mem_map.mp he
    have := nm_inj (hjs i hi) hj hq.2
    subst this
    exact h hi
theorem LD_link {dt : List UInt8} {js : List Nat} {dp : Int → Nat} (I : (LD dt js).Inv dp) {j : Nat} (h : j ∉ js) (hj : j < 12) (hjs : ∀ i ∈ js, i < 12) : linkE (LD dt js).tab (dirOf j) (nmOf j) 3 = 0 ∧ (LD dt js).linked (dirOf j) (nmOf j) 3 = LD dt (js ++ [j]) := by
  have hrow := LD_row dt js (dirOf j) (dir_or j)
  have h1 : isDirE (LD dt js).tab (dirOf j) = 0 := by
    unfold isDirE
    rw [at_row hrow, isDir_row.mpr ⟨_, hrow, rfl⟩]
    rfl
  have h2 : placeE (LD dt js).tab (dirOf j) (nmOf j) = 0 := by
    unfold placeE
    rw [if_pos h1, if_pos (show (nmOf j).length ≤ 56 by unfold nmOf; simp), nm_ok j hj]
    rfl
  have h3 : fileE (LD dt js).tab 3 = 0 := by
    unfold fileE
    rw [at_row (LD_row3 dt js)]
    rfl
  have h4 : freeE (LD dt js).tab (dirOf j) (nmOf j) = 0 := by
    unfold freeE
    rw [findT_row I, LD_free h hj hjs]
    rfl
  have h5 : linkE (LD dt js).tab (dirOf j) (nmOf j) 3 = 0 := by unfold linkE; simp [h2, h3, h4]
  refine ⟨h5, ?_⟩
  unfold Doc.linked
  rw [if_pos h5]
  show (⟨_, (⟨1, [100], 2⟩ :: js.map entOf) ++ [entOf j], _, _⟩ : Doc) = ⟨_, ⟨1, [100], 2⟩ :: (js ++ [j]).map entOf, _, _⟩
  simp
  exact ⟨rfl, rfl, rfl⟩
theorem LD_write (dt dt2 : List UInt8) (js : List Nat) (h1 : dt.length ≤ 200) (h2 : dt2.length ≤ 200) : writeE (LD dt js).tab 3 dt2 = 0 ∧ (LD dt js).written 3 dt2 = LD dt2 js := by
  have h3 : fileE (LD dt js).tab 3 = 0 := by
    unfold fileE
    rw [at_row (LD_row3 dt js)]
    rfl
  have hb := (LD_used dt js).2
  have h5 : writeE (LD dt js).tab 3 dt2 = 0 := by
    unfold writeE
    rw [h3, at_row (LD_row3 dt js)]
    simp only [ne_eq, not_true_eq_false, if_false]
    unfold writeR room
    have e1 : (LD dt js).tab.qi = 10 := rfl
    have e2 : (LD dt js).tab.cnt = 3 := rfl
    have e3 : (LD dt js).tab.qb = 300 := rfl
    have e4 : (LD dt js).tab.bytes = dt.length := hb
    have e5 : ((LD dt js).mk' 3 ⟨1, 420, dt⟩).data = dt := rfl
    rw [e1, e2, e3, e4, e5, decide_eq_true (show (0 : Int) ≤ ((10 : Nat) : Int) - ((3 : Nat) : Int) by omega), decide_eq_true (show (dt2.length : Int) - (dt.length : Int) ≤ ((300 : Nat) : Int) - (dt.length : Int) by omega)]
    rfl
  refine ⟨h5, ?_⟩
  unfold Doc.written
  rw [if_pos h5]
  rfl
theorem filter_ne {js : List Nat} (hn : js.Nodup) {i j : Nat} (h : js[i]? = some j) : js.filter (fun y => decide (y ≠ j)) = js.take i ++ js.drop (i + 1) := by
  induction js generalizing i with
  | nil => simp at h
  | cons a t ih =>
    obtain ⟨ha, ht⟩ := List.nodup_cons.mp hn
    cases i with
    | zero =>
      simp only [List.getElem?_cons_zero, Option.some.injEq] at h
      subst h
      rw [List.filter_cons_of_neg (by simp)]
      simp only [List.take_zero, List.nil_append, Nat.zero_add, List.drop_succ_cons, List.drop_zero]
      exact List.filter_eq_self.mpr fun y hy => by
        have : y ≠ a := fun e => ha (e ▸ hy)
        simpa using this
    | succ i =>
      simp only [List.getElem?_cons_succ] at h
      have hj := List.mem_of_getElem? h
      have : a ≠ j := fun e => ha (e ▸ hj)
      rw [List.filter_cons_of_pos (by simpa using this), ih ht h]
      simp
theorem LD_unlink {dt : List UInt8} {js : List Nat} {dp : Int → Nat} (I : (LD dt js).Inv dp) (hn : js.Nodup) {i j : Nat} (h : js[i]? = some j) (hjs : ∀ i ∈ js, i < 12) : unlinkE (LD dt js).tab (dirOf j) (nmOf j) = 0 ∧ (LD dt js).unlinked (dirOf j) (nmOf j) = LX dt (js.take i ++ js.drop (i + 1)) := by
  have hj := List.mem_of_getElem? h
  have hrow := LD_row dt js (dirOf j) (dir_or j)
  have hfind := LD_find I hj
  have h1 : isDirE (LD dt js).tab (dirOf j) = 0 := by
    unfold isDirE
    rw [at_row hrow, isDir_row.mpr ⟨_, hrow, rfl⟩]
    rfl
  have h2 : hasE (LD dt js).tab (dirOf j) (nmOf j) = 0 := by unfold hasE; rw [findT_row I, hfind]; rfl
  have h3 : inUseE (LD dt js).tab (dirOf j) (nmOf j) = 0 := by
    unfold inUseE
    rw [findT_row I, hfind]
    simp only [at_row (LD_row3 dt js)]
    rfl
  have h5 : unlinkE (LD dt js).tab (dirOf j) (nmOf j) = 0 := by unfold unlinkE; simp [h1, h2, h3]
  refine ⟨h5, ?_⟩
  unfold Doc.unlinked
  rw [if_pos h5, hfind]
  simp only
  have hout : outE (LD dt js).E (dirOf j) (nmOf j) = ⟨1, [100], 2⟩ :: (js.take i ++ js.drop (i + 1)).map entOf := by
    show List.filter _ (_ :: _) = _
    rw [List.filter_cons_of_pos, ← filter_ne hn h, List.filter_map]
    · congr 2
      refine List.filter_congr fun y hy => ?_
      show (!isKey (dirOf j) (nmOf j) (entOf y)) = decide (y ≠ j)
      by_cases e : y = j
      · subst e
        rw [show isKey (dirOf y) (nmOf y) (entOf y) = true from isKey_iff.mpr ⟨rfl, rfl⟩]
        simp
      · have : isKey (dirOf j) (nmOf j) (entOf y) = false := by
          cases hk : isKey (dirOf j) (nmOf j) (entOf y) with
          | false => rfl
          | true => exact absurd (nm_inj (hjs y hy) (hjs j hj) (isKey_iff.mp hk).2) e
        rw [this]
        simp [e]
    · cases hk : isKey (dirOf j) (nmOf j) ⟨1, [100], 2⟩ with
      | false => rfl
      | true => exact absurd (isKey_iff.mp hk) (not_d (hjs j hj))
  obtain ⟨ks, hks⟩ : ∃ ks, ks = js.take i ++ js.drop (i + 1) := ⟨_, rfl⟩
  rw [← hks] at hout ⊢
  unfold Doc.unlink
  rw [hout]
  have hc : (⟨1, [100], 2⟩ :: ks.map entOf : List Ent).countP (isX 3) = ks.length := LD_num dt ks
  rw [hc]
  unfold LX
  cases ks with
  | nil => rfl
  | cons a t => rfl
end Go.Proofs.Ytgifdmfnecombaa
