/- A table as lists: inodes by their numbers, and entries. -/
import Derived.Test.YtgifdmfnecombaaIzd
namespace Go.Proofs.Ytgifdmfnecombaa
open Go.RowKit
set_option maxRecDepth 100000
structure Ent where
  d : Int
  nm : List UInt8
  x : Int
structure Row where
  kind : Int
  mode : Int
  data : List UInt8
structure Doc where
  L : List Row
  E : List Ent
  qi : Nat
  qb : Nat
def Doc.row (D : Doc) (k : Int) : Option Row := if 1 ≤ k then match D.L[(k - 1).toNat]? with
  | some r => if r.kind = 0 then none else some r
  | none => none
  else none
def isKey (d : Int) (nm : List UInt8) (e : Ent) : Bool := decide (e.d = d) && decide (e.nm = nm)
def isX (k : Int) (e : Ent) : Bool := decide (e.x = k)
def isD (k : Int) (e : Ent) : Bool := decide (e.d = k)
def Doc.find (D : Doc) (d : Int) (nm : List UInt8) : Option Int := (D.E.find? (isKey d nm)).map Ent.x
def Doc.num (D : Doc) (k : Int) : Nat := D.E.countP (isX k)
def Doc.cnt (D : Doc) (d : Int) : Nat := D.E.countP (isD d)
def Doc.up (D : Doc) (k : Int) : Int := match D.E.find? (isX k) with
  | some e => e.d
  | none => 1
def Doc.lnk (D : Doc) (k : Int) : Int := if k = 1 then 1 else (D.num k : Int)
def Doc.mk' (D : Doc) (k : Int) (r : Row) : Ino := ⟨r.kind, r.mode, r.data, D.lnk k, if r.kind = 2 then D.up k else 0, D.find k, D.cnt k⟩
def Doc.ino (D : Doc) (k : Int) : Option Ino := match D.row k with
  | some r => some (D.mk' k r)
  | none => none
def isIn (r : Row) : Bool := decide (r.kind ≠ 0)
def Doc.inodes (D : Doc) : Nat := D.L.countP isIn
def sizes : List Row → Nat
  | [] => 0
  | r :: l => r.data.length + sizes l
def Doc.bytes (D : Doc) : Nat := sizes D.L
def Doc.tab (D : Doc) : Tab := ⟨D.ino, D.inodes, D.L.length, D.bytes, D.qi, D.qb⟩
theorem tab_ext {A B : Tab} (hf : ∀ k, A.f k = B.f k) (h1 : A.cnt = B.cnt) (h2 : A.last = B.last) (h3 : A.bytes = B.bytes) (h4 : A.qi = B.qi) (h5 : A.qb = B.qb) : A = B := by
  obtain ⟨a, b, c, d, e, f⟩ := A
  obtain ⟨a', b', c', d', e', f'⟩ := B
  simp only at hf h1 h2 h3 h4 h5
  obtain rfl : a = a' := funext hf
  subst h1 h2 h3 h4 h5
  rfl
theorem ino_ext {A B : Ino} (h1 : A.kind = B.kind) (h2 : A.mode = B.mode) (h3 : A.data = B.data) (h4 : A.links = B.links) (h5 : A.up = B.up) (h6 : ∀ nm, A.ents nm = B.ents nm) (h7 : A.cnt = B.cnt) : A = B := by
  obtain ⟨a, b, c, d, e, f, g⟩ := A
  obtain ⟨a', b', c', d', e', f', g'⟩ := B
  simp only at h1 h2 h3 h4 h5 h6 h7
  obtain rfl : f = f' := funext h6
  subst h1 h2 h3 h4 h5 h7
  rfl
structure Doc.Inv (D : Doc) (dp : Int → Nat) : Prop where
  root : ∃ r, D.row 1 = some r ∧ r.kind = 2
  key : D.E.Pairwise fun a b => isKey a.d a.nm b = false
  dir : ∀ e ∈ D.E, ∃ r, D.row e.d = some r ∧ r.kind = 2
  ino : ∀ e ∈ D.E, e.x ≠ 1 ∧ ∃ r, D.row e.x = some r
  name : ∀ e ∈ D.E, e.nm.length ≤ 56 ∧ nmOk e.nm = true
  one : ∀ k r, D.row k = some r → k ≠ 1 → 1 ≤ D.num k ∧ (r.kind ≠ 1 → D.num k = 1)
  gone : ∀ r ∈ D.L, r.kind = 0 → r.data = []
  kind : ∀ r ∈ D.L, (r.kind = 0 ∨ r.kind = 1 ∨ r.kind = 2 ∨ r.kind = 3) ∧ (r.kind = 2 → r.data = [])
  deep : ∀ e ∈ D.E, ∀ r, D.row e.x = some r → r.kind = 2 → dp e.d < dp e.x
  room : D.inodes ≤ D.qi ∧ D.bytes ≤ D.qb
  q : D.qi ≤ 1048576 ∧ D.qb ≤ 1073741824
theorem row_some {D : Doc} {k : Int} {r : Row} (h : D.row k = some r) : 1 ≤ k ∧ k ≤ D.L.length ∧ D.L[(k - 1).toNat]? = some r ∧ r.kind ≠ 0 := by
  unfold Doc.row at h
  by_cases h1 : 1 ≤ k
  · rw [if_pos h1] at h
    cases hq : D.L[(k - 1).toNat]? with
    | none => rw [hq] at h; cases h
    | some r' =>
      rw [hq] at h
      by_cases h0 : r'.kind = 0
      · simp [h0] at h
      · simp only [h0, if_false, Option.some.injEq] at h
        subst h
        have := (List.getElem?_eq_some_iff.mp hq).1
        exact ⟨h1, by omega, rfl, h0⟩
  · rw [if_neg h1] at h; cases h
theorem row_mem {D : Doc} {k : Int} {r : Row} (h : D.row k = some r) : r ∈ D.L := List.mem_of_getElem? (row_some h).2.2.1
theorem row_push {D D' : Doc} {r : Row} (hL : D'.L = D.L ++ [r]) (hr : r.kind ≠ 0) (k : Int) : D'.row k = if k = (D.L.length : Int) + 1 then some r else D.row k := by
  unfold Doc.row
  rw [hL]
  by_cases h1 : 1 ≤ k
  · simp only [if_pos h1]
    by_cases e : k = (D.L.length : Int) + 1
    · have : (k - 1).toNat = D.L.length := by omega
      rw [this, if_pos e]
      simp [hr]
    · rw [if_neg e]
      by_cases h2 : (k - 1).toNat < D.L.length
      · rw [List.getElem?_append_left h2]
      · rw [List.getElem?_eq_none (l := D.L ++ [r]) (by simp; omega), List.getElem?_eq_none (l := D.L) (by omega)]
  · have e : ¬ k = (D.L.length : Int) + 1 := by omega
    simp [h1, e]
theorem row_put {D D' : Doc} {x : Int} {r r0 : Row} (h0 : D.row x = some r0) (hL : D'.L = D.L.set (x - 1).toNat r) (k : Int) : D'.row k = if k = x then (if r.kind = 0 then none else some r) else D.row k := by
  obtain ⟨h1, h2, h3, _⟩ := row_some h0
  unfold Doc.row
  rw [hL]
  by_cases hk : 1 ≤ k
  · simp only [if_pos hk]
    by_cases e : k = x
    · subst e
      rw [if_pos rfl, List.getElem?_set_self (by omega)]
    · rw [if_neg e, List.getElem?_set_ne (by omega)]
  · have e : ¬ k = x := by omega
    simp [hk, e]
theorem row_same {D D' : Doc} (hL : D'.L = D.L) (k : Int) : D'.row k = D.row k := by unfold Doc.row; rw [hL]
theorem sizes_append (a b : List Row) : sizes (a ++ b) = sizes a + sizes b := by
  induction a with
  | nil => simp [sizes]
  | cons r l ih => simp only [List.cons_append, sizes, ih]; omega
theorem sizes_set {l : List Row} {n : Nat} {r r0 : Row} (h : l[n]? = some r0) : sizes (l.set n r) + r0.data.length = sizes l + r.data.length := by
  induction l generalizing n with
  | nil => simp at h
  | cons a t ih =>
    cases n with
    | zero => simp at h; subst h; simp [sizes]; omega
    | succ n =>
      simp at h
      have := ih h
      simp only [List.set_cons_succ, sizes]
      omega
theorem sizes_le {l : List Row} {r : Row} (h : r ∈ l) : r.data.length ≤ sizes l := by
  induction l with
  | nil => cases h
  | cons a t ih =>
    rcases List.mem_cons.mp h with rfl | h
    · simp [sizes]
    · have := ih h
      simp only [sizes]
      omega
theorem isIn_set {l : List Row} {n : Nat} {r r0 : Row} (h : l[n]? = some r0) : (l.set n r).countP isIn + (if isIn r0 = true then 1 else 0) = l.countP isIn + (if isIn r = true then 1 else 0) := by
  induction l generalizing n with
  | nil => simp at h
  | cons a t ih =>
    cases n with
    | zero => simp at h; subst h; simp only [List.set_cons_zero, List.countP_cons]; omega
    | succ n =>
      simp at h
      have := ih h
      simp only [List.set_cons_succ, List.countP_cons]
      omega
theorem isKey_iff {d : Int} {nm : List UInt8} {e : Ent} : isKey d nm e = true ↔ e.d = d ∧ e.nm = nm := by unfold isKey; simp
theorem isKey_symm {a b : Ent} : isKey a.d a.nm b = isKey b.d b.nm a := by
  cases h : isKey a.d a.nm b with
  | true =>
    obtain ⟨h1, h2⟩ := isKey_iff.mp h
    exact (isKey_iff.mpr ⟨h1.symm, h2.symm⟩).symm
  | false =>
    cases h' : isKey b.d b.nm a with
    | false => rfl
    | true =>
      obtain ⟨h1, h2⟩ := isKey_iff.mp h'
      rw [isKey_iff.mpr ⟨h1.symm, h2.symm⟩] at h
      cases h
/-- the entry that has this key is the only one -/
theorem key_unique {E : List Ent} (hk : E.Pairwise fun a b => isKey a.d a.nm b = false) {d : Int} {nm : List UInt8} {e0 : Ent} (hf : E.find? (isKey d nm) = some e0) {e : Ent} (he : e ∈ E) (hq : isKey d nm e = true) : e = e0 := by
  induction E with
  | nil => cases he
  | cons a t ih =>
    obtain ⟨ha, ht⟩ := List.pairwise_cons.mp hk
    rw [List.find?_cons] at hf
    cases hka : isKey d nm a with
    | true =>
      rw [hka] at hf
      simp only [Option.some.injEq] at hf
      subst hf
      rcases List.mem_cons.mp he with rfl | he
      · rfl
      · obtain ⟨q1, q2⟩ := isKey_iff.mp hka
        have := ha e he
        rw [q1, q2, hq] at this
        cases this
    | false =>
      rw [hka] at hf
      rcases List.mem_cons.mp he with rfl | he
      · rw [hka] at hq; cases hq
      · exact ih ht hf he
theorem count_out {E : List Ent} (hk : E.Pairwise fun a b => isKey a.d a.nm b = false) {d : Int} {nm : List UInt8} {e0 : Ent} (hf : E.find? (isKey d nm) = some e0) (q : Ent → Bool) : E.countP q = (E.filter (fun e => !isKey d nm e)).countP q + (if q e0 = true then 1 else 0) := by
  induction E with
  | nil => cases hf
  | cons a t ih =>
    obtain ⟨ha, ht⟩ := List.pairwise_cons.mp hk
    rw [List.find?_cons] at hf
    cases hka : isKey d nm a with
    | true =>
      rw [hka] at hf
      simp only [Option.some.injEq] at hf
      subst hf
      have hfil : t.filter (fun e => !isKey d nm e) = t := List.filter_eq_self.mpr fun e he => by
        obtain ⟨q1, q2⟩ := isKey_iff.mp hka
        have := ha e he
        rw [q1, q2] at this
        simp [this]
      rw [List.filter_cons_of_neg (by simp [hka]), hfil, List.countP_cons]
    | false =>
      rw [hka] at hf
      have := ih ht hf
      rw [List.filter_cons_of_pos (by simp [hka]), List.countP_cons, List.countP_cons]
      omega
theorem find_some {D : Doc} {d : Int} {nm : List UInt8} {x : Int} (h : D.find d nm = some x) : ∃ e, D.E.find? (isKey d nm) = some e ∧ e ∈ D.E ∧ e.d = d ∧ e.nm = nm ∧ e.x = x := by
  unfold Doc.find at h
  cases hq : D.E.find? (isKey d nm) with
  | none => rw [hq] at h; cases h
  | some e =>
    rw [hq] at h
    simp only [Option.map_some, Option.some.injEq] at h
    have := List.find?_some hq
    obtain ⟨h1, h2⟩ := isKey_iff.mp this
    exact ⟨e, rfl, List.mem_of_find?_eq_some hq, h1, h2, h⟩
theorem find_none {D : Doc} {d : Int} {nm : List UInt8} (h : ∀ e ∈ D.E, ¬ (e.d = d ∧ e.nm = nm)) : D.find d nm = none := by
  unfold Doc.find
  rw [List.find?_eq_none.mpr (fun e he hq => h e he (isKey_iff.mp hq))]
  rfl
theorem find_is {D : Doc} {dp : Int → Nat} (I : D.Inv dp) {e : Ent} (he : e ∈ D.E) : D.find e.d e.nm = some e.x := by
  unfold Doc.find
  cases hq : D.E.find? (isKey e.d e.nm) with
  | none =>
    have := List.find?_eq_none.mp hq e he
    rw [isKey_iff.mpr ⟨rfl, rfl⟩] at this
    exact absurd rfl this
  | some e0 =>
    rw [← key_unique I.key hq he (isKey_iff.mpr ⟨rfl, rfl⟩)]
    rfl
theorem isD_iff {k : Int} {e : Ent} : isD k e = true ↔ e.d = k := by unfold isD; simp
theorem isX_iff {k : Int} {e : Ent} : isX k e = true ↔ e.x = k := by unfold isX; simp
theorem up_some {D : Doc} {k : Int} (h : 1 ≤ D.num k) : ∃ e ∈ D.E, e.x = k ∧ D.up k = e.d := by
  unfold Doc.num at h
  unfold Doc.up
  cases hq : D.E.find? (isX k) with
  | none =>
    obtain ⟨e, he, hx⟩ := List.countP_pos_iff.mp (show 0 < D.E.countP (isX k) by omega)
    exact absurd hx (by simpa using List.find?_eq_none.mp hq e he)
  | some e => exact ⟨e, List.mem_of_find?_eq_some hq, isX_iff.mp (List.find?_some hq), rfl⟩
/-- one alone names it: then Up is where that lies -/
theorem up_one {D : Doc} {k : Int} (h : D.num k = 1) {e : Ent} (he : e ∈ D.E) (hx : e.x = k) : D.up k = e.d := by
  unfold Doc.num at h
  unfold Doc.up
  revert h he
  generalize D.E = E
  intro h he
  induction E with
  | nil => cases he
  | cons a t ih =>
    rw [List.countP_cons] at h
    rw [List.find?_cons]
    cases hq : isX k a with
    | true =>
      rw [hq] at h
      simp only [if_true] at h
      rcases List.mem_cons.mp he with rfl | he
      · rfl
      · have : 0 < t.countP (isX k) := List.countP_pos_iff.mpr ⟨e, he, isX_iff.mpr hx⟩
        omega
    | false =>
      rw [hq] at h
      rcases List.mem_cons.mp he with rfl | he
      · rw [isX_iff.mpr hx] at hq; cases hq
      · exact ih (by simpa using h) he
theorem row_at {D : Doc} {k : Int} {i : Ino} (h : D.tab.f k = some i) : ∃ r, D.row k = some r ∧ i = D.mk' k r := by
  change D.ino k = some i at h
  unfold Doc.ino at h
  cases hq : D.row k with
  | none => rw [hq] at h; cases h
  | some r => rw [hq] at h; cases h; exact ⟨r, rfl, rfl⟩
theorem at_row {D : Doc} {k : Int} {r : Row} (h : D.row k = some r) : D.tab.f k = some (D.mk' k r) := by
  change D.ino k = _
  unfold Doc.ino
  rw [h]
theorem at_none {D : Doc} {k : Int} (h : D.row k = none) : D.tab.f k = none := by
  change D.ino k = _
  unfold Doc.ino
  rw [h]
theorem isDir_row {D : Doc} {k : Int} : isDirT D.tab k = true ↔ ∃ r, D.row k = some r ∧ r.kind = 2 := by
  constructor
  · intro h
    obtain ⟨i, hi, h2⟩ := dirT_some h
    obtain ⟨r, hr, rfl⟩ := row_at hi
    exact ⟨r, hr, h2⟩
  · rintro ⟨r, hr, h2⟩
    unfold isDirT
    rw [at_row hr]
    simpa [Doc.mk'] using h2
theorem findT_row {D : Doc} {dp : Int → Nat} (I : D.Inv dp) (k : Int) (nm : List UInt8) : findT D.tab k nm = D.find k nm := by
  unfold findT
  cases hq : D.row k with
  | none =>
    rw [at_none hq]
    exact (find_none fun e he ⟨h1, _⟩ => by obtain ⟨r, hr, _⟩ := I.dir e he; rw [h1, hq] at hr; cases hr).symm
  | some r =>
    rw [at_row hq]
    by_cases h2 : r.kind = 2
    · simp [Doc.mk', h2]
    · simp only [Doc.mk', h2, if_false]
      exact (find_none fun e he ⟨h1, _⟩ => by obtain ⟨r', hr, h3⟩ := I.dir e he; rw [h1, hq] at hr; cases hr; exact h2 h3).symm
theorem wf_small {k : Int} (h1 : -1000000000000 ≤ k) (h2 : k ≤ 1000000000000) : (Lit.int .i64 k).wf = true := by
  simp [Lit.wf, IntKind.min, IntKind.max, IntKind.signed, IntKind.bits]; omega
/-- what is small enough to walk on -/
structure Doc.Few (D : Doc) (n : Nat) : Prop where
  l : D.L.length ≤ n
  e : D.E.length ≤ n
theorem num_le (D : Doc) (k : Int) : D.num k ≤ D.E.length := List.countP_le_length
theorem inodes_le (D : Doc) : D.inodes ≤ D.L.length := List.countP_le_length
theorem fair_doc {D : Doc} {dp : Int → Nat} (I : D.Inv dp) : Fair D.tab := by
  have h1 := I.room
  have h2 := I.q
  exact ⟨by show D.inodes ≤ _; omega, by show D.bytes ≤ _; omega, by show D.qi ≤ _; omega, by show D.qb ≤ _; omega⟩
theorem okay_doc {D : Doc} {dp : Int → Nat} (I : D.Inv dp) {n : Nat} (F : D.Few n) (hn : n ≤ 100000) : Okay D.tab := by
  refine ⟨fun k o ho => ?_, fun d i nm j hi h2 he => ?_⟩
  · obtain ⟨r, hr, rfl⟩ := row_at ho
    have h1 := num_le D k
    have h2 := F.e
    refine ⟨?_, ?_, sizes_le (row_mem hr)⟩ <;>
    · simp only [Doc.mk', Doc.lnk]
      split <;> omega
  · obtain ⟨r, hr, rfl⟩ := row_at hi
    obtain ⟨e, _, hm, _, _, hx⟩ := find_some (D := D) he
    obtain ⟨_, r2, hr2⟩ := I.ino e hm
    rw [hx] at hr2
    obtain ⟨h3, h4, _⟩ := row_some hr2
    have := F.l
    exact ⟨wf_small (by omega) (by omega), by rw [at_row hr2]; rfl⟩
theorem none_doc (D : Doc) : D.tab.f ((D.tab.last : Int) + 1) = none := by
  apply at_none
  cases hq : D.row ((D.tab.last : Int) + 1) with
  | none => rfl
  | some r =>
    have := (row_some hq).2.1
    have h2 : D.tab.last = D.L.length := rfl
    omega
/-- directories lie below the root -/
theorem lies_doc {D : Doc} {dp : Int → Nat} (I : D.Inv dp) {n : Nat} (F : D.Few n) (hn : n ≤ 100000) : Lies D.tab (fun k => isDirT D.tab k = true) dp := by
  refine ⟨fun a ha h1 => ?_, fun a ha => ?_⟩
  · obtain ⟨r, hr, h2⟩ := isDir_row.mp ha
    obtain ⟨q1, q2⟩ := I.one a r hr h1
    obtain ⟨e, he, hx, hu⟩ := up_some q1
    refine ⟨_, at_row hr, ?_, ?_⟩
    · show isDirT D.tab (if r.kind = 2 then D.up a else 0) = true
      rw [if_pos h2, hu]
      exact isDir_row.mpr (I.dir e he)
    · show dp (if r.kind = 2 then D.up a else 0) < dp a
      rw [if_pos h2, hu, ← hx]
      exact I.deep e he r (by rw [hx]; exact hr) h2
  · obtain ⟨r, hr, h2⟩ := isDir_row.mp ha
    obtain ⟨h3, h4, _⟩ := row_some hr
    have := F.l
    exact wf_small (by omega) (by omega)
end Go.Proofs.Ytgifdmfnecombaa
