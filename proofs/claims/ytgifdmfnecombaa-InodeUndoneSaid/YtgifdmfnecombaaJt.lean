/- What is made and let go, moved and moved back: the lists. -/
import Derived.Test.YtgifdmfnecombaaJs
namespace Go.Proofs.Ytgifdmfnecombaa
open Go.RowKit
set_option maxRecDepth 100000
def frs : List UInt8 := [102, 114, 101, 115, 104]
def oth : List UInt8 := [111, 116, 104, 101, 114]
theorem isDirE_row {D : Doc} {d : Int} {r : Row} (h : D.row d = some r) (h2 : r.kind = 2) : isDirE D.tab d = 0 := by
  unfold isDirE
  rw [at_row h, isDir_row.mpr ⟨r, h, h2⟩]
  rfl
theorem placeE_ok {D : Doc} {d : Int} {s : List UInt8} {r : Row} (h : D.row d = some r) (h2 : r.kind = 2) (hl : s.length ≤ 56) (hn : nmOk s = true) : placeE D.tab d s = 0 := by
  unfold placeE
  rw [if_pos (isDirE_row h h2), if_pos hl, hn]
  rfl
theorem freeE_ok {D : Doc} {dp : Int → Nat} (I : D.Inv dp) {d : Int} {s : List UInt8} (h : D.find d s = none) : freeE D.tab d s = 0 := by unfold freeE; rw [findT_row I, h]; rfl
theorem hasE_ok {D : Doc} {dp : Int → Nat} (I : D.Inv dp) {d : Int} {s : List UInt8} {x : Int} (h : D.find d s = some x) : hasE D.tab d s = 0 := by unfold hasE; rw [findT_row I, h]; rfl
theorem roomE_ok {D : Doc} {dt : List UInt8} (h1 : D.inodes + 1 ≤ D.qi) (h2 : D.bytes + dt.length ≤ D.qb) : roomE D.tab dt = 0 := by
  unfold roomE room
  have e1 : D.tab.qi = D.qi := rfl
  have e2 : D.tab.cnt = D.inodes := rfl
  have e3 : D.tab.qb = D.qb := rfl
  have e4 : D.tab.bytes = D.bytes := rfl
  rw [e1, e2, e3, e4, decide_eq_true (show (1 : Int) ≤ (D.qi : Int) - (D.inodes : Int) by omega), decide_eq_true (show (dt.length : Int) ≤ (D.qb : Int) - (D.bytes : Int) by omega)]
  rfl
theorem long_free {E : List Ent} (h : ∀ e ∈ E, e.nm.length = 1) {s : List UInt8} (hs : s.length = 5) (d : Int) : ∀ e ∈ E, isKey d s e = false := fun e he => by
  cases hk : isKey d s e with
  | false => rfl
  | true =>
    have := h e he
    rw [(isKey_iff.mp hk).2] at this
    omega
theorem out_last {E : List Ent} {d x : Int} {s : List UInt8} (h : ∀ e ∈ E, isKey d s e = false) : outE (E ++ [⟨d, s, x⟩]) d s = E := by
  unfold outE
  rw [List.filter_append]
  have h1 : E.filter (fun e => !isKey d s e) = E := List.filter_eq_self.mpr fun e he => by simp [h e he]
  have h2 : [(⟨d, s, x⟩ : Ent)].filter (fun e => !isKey d s e) = [] := by simp [isKey]
  rw [h1, h2, List.append_nil]
theorem climb_file {T : Tab} {P : Int → Prop} {dp : Int → Nat} (h : Lies T P dp) {f : Int} (hf : ¬ P f) : ∀ (n : Nat) (a : Int), P a → climbT T f n a = false := by
  intro n
  induction n with
  | zero =>
    intro a ha
    have : a ≠ f := fun e => hf (e ▸ ha)
    simp [climbT, this]
  | succ n ih =>
    intro a ha
    have h1 : a ≠ f := fun e => hf (e ▸ ha)
    unfold climbT
    rw [if_neg h1]
    by_cases h2 : a = 1
    · simp [h2]
    · rw [if_neg h2]
      obtain ⟨i, hi, hp, _⟩ := h.up a ha h2
      have : upF T a = i.up := by unfold upF; rw [hi]
      rw [this]
      exact ih _ hp
theorem above_file {T : Tab} {P : Int → Prop} {dp : Int → Nat} (h : Lies T P dp) {f a : Int} (hf : ¬ P f) (ha : P a) : aboveE T f dp a = 0 := by
  unfold aboveE
  rw [climb_file h hf _ a ha]
  rfl
structure Und (D : Doc) (d : Int) (dt : List UInt8) (rd : Row) : Prop where
  s : Sml D
  r : D.row d = some rd
  k : rd.kind = 2
  i : D.inodes + 1 ≤ D.qi
  b : D.bytes + dt.length ≤ D.qb
section
variable {D : Doc} {d : Int} {dt : List UInt8} {rd : Row}
def unD1 (D : Doc) (d : Int) (dt : List UInt8) : Doc := { D with L := D.L ++ [⟨1, 420, dt⟩], E := D.E ++ [⟨d, frs, (D.L.length : Int) + 1⟩] }
def unD2 (D : Doc) (dt : List UInt8) : Doc := { D with L := D.L ++ [⟨1, 420, dt⟩], E := D.E ++ [⟨1, oth, (D.L.length : Int) + 1⟩] }
def unD4 (D : Doc) : Doc := { D with L := D.L ++ [⟨0, 0, []⟩] }
theorem und_lt (U : Und D d dt rd) : d ≤ D.L.length ∧ 1 ≤ d := by
  have := row_some U.r
  exact ⟨this.2.1, this.1⟩
theorem und_make (U : Und D d dt rd) {dp : Int → Nat} (I : D.Inv dp) : makeE D.tab d frs 1 420 dt = 0 ∧ D.made d frs 1 420 dt = unD1 D d dt := by
  have h1 : placeE D.tab d frs = 0 := placeE_ok U.r U.k (by decide) (by decide)
  have h2 : inodeE 1 420 dt = 0 := rfl
  have h3 : freeE D.tab d frs = 0 := freeE_ok I (find_none fun e he hq => by
    have := long_free U.s.e (s := frs) rfl d e he
    rw [isKey_iff.mpr hq] at this
    cases this)
  have h4 := roomE_ok U.i U.b
  have h5 : makeE D.tab d frs 1 420 dt = 0 := by unfold makeE; simp [h1, h2, h3, h4]
  exact ⟨h5, by unfold Doc.made; rw [if_pos h5]; rfl⟩
theorem und_row1 (U : Und D d dt rd) : (unD1 D d dt).row d = some rd ∧ (unD1 D d dt).row ((D.L.length : Int) + 1) = some ⟨1, 420, dt⟩ := by
  have hlt := und_lt U
  have h := row_push (D := D) (D' := unD1 D d dt) (r := ⟨1, 420, dt⟩) rfl (show (1 : Int) ≠ 0 by decide)
  exact ⟨by rw [h, if_neg (by omega)]; exact U.r, by rw [h, if_pos rfl]⟩
theorem und_row2 (U : Und D d dt rd) : (unD2 D dt).row d = some rd ∧ (unD2 D dt).row ((D.L.length : Int) + 1) = some ⟨1, 420, dt⟩ := by
  have hlt := und_lt U
  have h := row_push (D := D) (D' := unD2 D dt) (r := ⟨1, 420, dt⟩) rfl (show (1 : Int) ≠ 0 by decide)
  exact ⟨by rw [h, if_neg (by omega)]; exact U.r, by rw [h, if_pos rfl]⟩
theorem und_find1 {dp : Int → Nat} (I : (unD1 D d dt).Inv dp) : (unD1 D d dt).find d frs = some ((D.L.length : Int) + 1) :=
  find_is I (e := ⟨d, frs, (D.L.length : Int) + 1⟩) (by show _ ∈ D.E ++ [_]; simp)
theorem und_find2 {dp : Int → Nat} (I : (unD2 D dt).Inv dp) : (unD2 D dt).find 1 oth = some ((D.L.length : Int) + 1) :=
  find_is I (e := ⟨1, oth, (D.L.length : Int) + 1⟩) (by show _ ∈ D.E ++ [_]; simp)
theorem und_move (U : Und D d dt rd) {dp : Int → Nat} (I : (unD1 D d dt).Inv dp) : moveR (unD1 D d dt).tab dp d frs 1 oth = 0 ∧ (unD1 D d dt).moved dp d frs 1 oth = unD2 D dt := by
  have hlt := und_lt U
  obtain ⟨r1, hr1, hk1⟩ := I.root
  have hf := und_find1 I
  have h1 : moveE (unD1 D d dt).tab d frs 1 oth = 0 := by
    unfold moveE
    simp [isDirE_row (und_row1 U).1 U.k, placeE_ok hr1 hk1 (s := oth) (by decide) (by decide), hasE_ok I hf]
  have hs : ¬ ((1 : Int) = d ∧ oth = frs) := fun h => absurd h.2 (by decide)
  have h2 : moveF (unD1 D d dt).tab dp d frs 1 oth = 0 := by
    have e1 : freeE (unD1 D d dt).tab 1 oth = 0 := freeE_ok I (find_none fun e he hq => by
      rcases List.mem_append.mp (show e ∈ D.E ++ [_] from he) with he | he
      · have := long_free U.s.e (s := oth) rfl 1 e he
        rw [isKey_iff.mpr hq] at this
        cases this
      · obtain rfl := List.mem_singleton.mp he
        exact absurd (show frs = oth from hq.2) (by decide))
    have e2 : aboveF (unD1 D d dt).tab dp d frs 1 = 0 := by
      unfold aboveF
      rw [findT_row I, hf]
      exact above_root _ _ _ (by omega)
    unfold moveF
    simp [e1, e2]
  refine ⟨by unfold moveR; simp [h1, hs, h2], ?_⟩
  unfold Doc.moved
  simp only [h1, h2, hf, ne_eq, not_true_eq_false, if_false, if_neg hs]
  unfold Doc.move
  rw [show outE (unD1 D d dt).E d frs = D.E from out_last (long_free U.s.e rfl d)]
  rfl
theorem und_back (U : Und D d dt rd) {dp : Int → Nat} (I : (unD2 D dt).Inv dp) {n : Nat} (F : (unD2 D dt).Few n) (hn : n ≤ 100000) : moveR (unD2 D dt).tab dp 1 oth d frs = 0 ∧ (unD2 D dt).moved dp 1 oth d frs = unD1 D d dt := by
  have hlt := und_lt U
  obtain ⟨r1, hr1, hk1⟩ := I.root
  have hf := und_find2 I
  have hrd := (und_row2 U).1
  have h1 : moveE (unD2 D dt).tab 1 oth d frs = 0 := by
    unfold moveE
    simp [isDirE_row hr1 hk1, placeE_ok hrd U.k (s := frs) (by decide) (by decide), hasE_ok I hf]
  have hs : ¬ (d = (1 : Int) ∧ frs = oth) := fun h => absurd h.2 (by decide)
  have h2 : moveF (unD2 D dt).tab dp 1 oth d frs = 0 := by
    have e1 : freeE (unD2 D dt).tab d frs = 0 := freeE_ok I (find_none fun e he hq => by
      rcases List.mem_append.mp (show e ∈ D.E ++ [_] from he) with he | he
      · have := long_free U.s.e (s := frs) rfl d e he
        rw [isKey_iff.mpr hq] at this
        cases this
      · obtain rfl := List.mem_singleton.mp he
        exact absurd (show oth = frs from hq.2) (by decide))
    have e2 : aboveF (unD2 D dt).tab dp 1 oth d = 0 := by
      unfold aboveF
      rw [findT_row I, hf]
      refine above_file (lies_doc I F hn) (fun h => ?_) (isDir_row.mpr ⟨rd, hrd, U.k⟩)
      obtain ⟨r, hr, h2⟩ := isDir_row.mp h
      rw [(und_row2 U).2] at hr
      cases hr
      exact absurd (show (1 : Int) = 2 from h2) (by decide)
    unfold moveF
    simp [e1, e2]
  refine ⟨by unfold moveR; simp [h1, hs, h2], ?_⟩
  unfold Doc.moved
  simp only [h1, h2, hf, ne_eq, not_true_eq_false, if_false, if_neg hs]
  unfold Doc.move
  rw [show outE (unD2 D dt).E 1 oth = D.E from out_last (long_free U.s.e rfl 1)]
  rfl
theorem und_unlink (U : Und D d dt rd) {dp0 dp : Int → Nat} (I0 : D.Inv dp0) (I : (unD1 D d dt).Inv dp) : unlinkE (unD1 D d dt).tab d frs = 0 ∧ (unD1 D d dt).unlinked d frs = unD4 D := by
  have hf := und_find1 I
  have h1 := isDirE_row (und_row1 U).1 U.k
  have h2 := hasE_ok I hf
  have h3 : inUseE (unD1 D d dt).tab d frs = 0 := by
    unfold inUseE
    rw [findT_row I, hf]
    simp only [at_row (und_row1 U).2]
    rfl
  have h5 : unlinkE (unD1 D d dt).tab d frs = 0 := by unfold unlinkE; simp [h1, h2, h3]
  refine ⟨h5, ?_⟩
  unfold Doc.unlinked
  rw [if_pos h5, hf]
  simp only
  unfold Doc.unlink
  have ho : outE (unD1 D d dt).E d frs = D.E := out_last (long_free U.s.e rfl d)
  have hn : D.E.countP (isX ((D.L.length : Int) + 1)) = 0 := num_zero I0 (row_last D (by omega))
  rw [ho, if_pos hn]
  have hset : (D.L ++ [Row.mk 1 420 dt]).set ((D.L.length : Int) + 1 - 1).toNat (Row.mk 0 0 []) = D.L ++ [Row.mk 0 0 []] := by
    rw [show ((D.L.length : Int) + 1 - 1).toNat = D.L.length by omega, List.set_append_right _ _ (Nat.le_refl _)]
    simp
  have hl : (unD1 D d dt).L.set ((D.L.length : Int) + 1 - 1).toNat (Row.mk 0 0 []) = D.L ++ [Row.mk 0 0 []] := hset
  rw [hl]
  rfl
theorem und_sizes : (unD1 D d dt).inodes = D.inodes + 1 ∧ (unD1 D d dt).bytes = D.bytes + dt.length ∧ (unD1 D d dt).cnt d = D.cnt d + 1 ∧ (unD4 D).inodes = D.inodes ∧ (unD4 D).bytes = D.bytes ∧ (unD4 D).cnt d = D.cnt d := by
  refine ⟨?_, ?_, ?_, ?_, ?_, rfl⟩
  · unfold Doc.inodes unD1; simp only; rw [List.countP_append]; rfl
  · unfold Doc.bytes unD1; simp only; rw [sizes_append]; simp [sizes]
  · rw [cnt_push (D := D) (D' := unD1 D d dt) rfl]; simp
  · unfold Doc.inodes unD4; simp only; rw [List.countP_append]; rfl
  · unfold Doc.bytes unD4; simp only; rw [sizes_append]; simp [sizes]
theorem und_gone : (unD4 D).ino ((D.L.length : Int) + 1) = none := by
  refine at_none (D := unD4 D) ?_
  unfold Doc.row
  rw [if_pos (by omega)]
  have : (unD4 D).L[((D.L.length : Int) + 1 - 1).toNat]? = some ⟨0, 0, []⟩ := by
    rw [show ((D.L.length : Int) + 1 - 1).toNat = D.L.length by omega]
    show (D.L ++ [_])[D.L.length]? = _
    simp
  rw [this]
  rfl
theorem und_again (U : Und D d dt rd) {dp : Int → Nat} (I : (unD4 D).Inv dp) : makeE (unD4 D).tab d frs 2 493 [] = 0 ∧ (unD4 D).L.length = D.L.length + 1 := by
  have hlt := und_lt U
  have hs := und_sizes (D := D) (d := d) (dt := dt)
  have hr : (unD4 D).row d = some rd := by
    have h := U.r
    unfold Doc.row at h ⊢
    rw [if_pos hlt.2] at h ⊢
    rw [show (unD4 D).L[(d - 1).toNat]? = D.L[(d - 1).toNat]? from List.getElem?_append_left (by omega)]
    exact h
  have h1 : placeE (unD4 D).tab d frs = 0 := placeE_ok hr U.k (by decide) (by decide)
  have h2 : inodeE 2 493 [] = 0 := rfl
  have h3 : freeE (unD4 D).tab d frs = 0 := freeE_ok I (find_none fun e he hq => by
    have := long_free U.s.e (s := frs) rfl d e he
    rw [isKey_iff.mpr hq] at this
    cases this)
  have h4 : roomE (unD4 D).tab [] = 0 := roomE_ok (by rw [hs.2.2.2.1]; exact U.i) (by rw [hs.2.2.2.2.1]; have := U.b; show D.bytes + 0 ≤ D.qb; omega)
  refine ⟨by unfold makeE; simp [h1, h2, h3, h4], ?_⟩
  show (D.L ++ [_]).length = _
  simp
end
/-- little data: few bytes -/
theorem sizes_small {l : List Row} (h : ∀ r ∈ l, r.data.length ≤ 19) : sizes l ≤ 19 * l.length := by
  induction l with
  | nil => simp [sizes]
  | cons r t ih =>
    have h1 := h r (by simp)
    have h2 := ih (fun q hq => h q (by simp [hq]))
    simp only [sizes, List.length_cons]
    omega
end Go.Proofs.Ytgifdmfnecombaa
