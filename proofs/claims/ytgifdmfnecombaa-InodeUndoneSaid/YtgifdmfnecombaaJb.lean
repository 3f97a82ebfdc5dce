/- The table as lists: what each call makes of it. -/
import Derived.Test.YtgifdmfnecombaaJa
namespace Go.Proofs.Ytgifdmfnecombaa
open Go.RowKit
set_option maxRecDepth 100000
section
variable {D D' : Doc} {e : Ent}
theorem find_push (hE : D'.E = D.E ++ [e]) (k : Int) (nm : List UInt8) : D'.find k nm = match D.find k nm with
    | some x => some x
    | none => if isKey k nm e = true then some e.x else none := by
  unfold Doc.find
  rw [hE, List.find?_append]
  cases hq : D.E.find? (isKey k nm) with
  | some y => simp
  | none =>
    simp only [Option.none_or, Option.map_none]
    rw [List.find?_cons]
    cases isKey k nm e <;> simp
theorem num_push (hE : D'.E = D.E ++ [e]) (k : Int) : D'.num k = D.num k + if e.x = k then 1 else 0 := by
  unfold Doc.num
  rw [hE, List.countP_append, List.countP_cons, List.countP_nil]
  by_cases h : e.x = k
  · simp [isX, h]
  · simp [isX, h]
theorem cnt_push (hE : D'.E = D.E ++ [e]) (k : Int) : D'.cnt k = D.cnt k + if e.d = k then 1 else 0 := by
  unfold Doc.cnt
  rw [hE, List.countP_append, List.countP_cons, List.countP_nil]
  by_cases h : e.d = k
  · simp [isD, h]
  · simp [isD, h]
theorem up_push (hE : D'.E = D.E ++ [e]) (k : Int) (h : e.x ≠ k) : D'.up k = D.up k := by
  unfold Doc.up
  rw [hE, List.find?_append]
  have : [e].find? (isX k) = none := by simp [isX, h]
  rw [this]
  simp
theorem find_filter {E : List Ent} (p q : Ent → Bool) (h : ∀ a ∈ E, q a = true → p a = true) : (E.filter p).find? q = E.find? q := by
  induction E with
  | nil => rfl
  | cons a t ih =>
    have ih := ih (fun b hb => h b (List.mem_cons_of_mem _ hb))
    rw [List.find?_cons]
    cases hp : p a with
    | true =>
      rw [List.filter_cons_of_pos hp, List.find?_cons, ih]
    | false =>
      rw [List.filter_cons_of_neg (by simp [hp]), ih]
      cases hq : q a with
      | true => rw [h a (List.mem_cons_self) hq] at hp; cases hp
      | false => rfl
variable {d : Int} {s : List UInt8} {e0 : Ent}
theorem find_out (hE : D'.E = D.E.filter (fun e => !isKey d s e)) (k : Int) (nm : List UInt8) : D'.find k nm = if k = d ∧ nm = s then none else D.find k nm := by
  by_cases h : k = d ∧ nm = s
  · rw [if_pos h]
    refine find_none fun e he hq => ?_
    rw [hE] at he
    have := (List.mem_filter.mp he).2
    rw [isKey_iff.mpr ⟨hq.1.trans h.1, hq.2.trans h.2⟩] at this
    cases this
  · rw [if_neg h]
    unfold Doc.find
    rw [hE, find_filter]
    intro a _ hq
    obtain ⟨h1, h2⟩ := isKey_iff.mp hq
    cases hk : isKey d s a with
    | false => rfl
    | true =>
      obtain ⟨h3, h4⟩ := isKey_iff.mp hk
      exact absurd ⟨h1.symm.trans h3, h2.symm.trans h4⟩ h
theorem num_out (hk : D.E.Pairwise fun a b => isKey a.d a.nm b = false) (hf : D.E.find? (isKey d s) = some e0) (hE : D'.E = D.E.filter (fun e => !isKey d s e)) (k : Int) : D.num k = D'.num k + if e0.x = k then 1 else 0 := by
  unfold Doc.num
  rw [hE, count_out hk hf]
  by_cases h : e0.x = k
  · simp [isX, h]
  · simp [isX, h]
theorem cnt_out (hk : D.E.Pairwise fun a b => isKey a.d a.nm b = false) (hf : D.E.find? (isKey d s) = some e0) (hE : D'.E = D.E.filter (fun e => !isKey d s e)) (k : Int) : D.cnt k = D'.cnt k + if e0.d = k then 1 else 0 := by
  unfold Doc.cnt
  rw [hE, count_out hk hf]
  by_cases h : e0.d = k
  · simp [isD, h]
  · simp [isD, h]
theorem up_out (hk : D.E.Pairwise fun a b => isKey a.d a.nm b = false) (hf : D.E.find? (isKey d s) = some e0) (hE : D'.E = D.E.filter (fun e => !isKey d s e)) (k : Int) (h : e0.x ≠ k) : D'.up k = D.up k := by
  unfold Doc.up
  rw [hE, find_filter]
  intro a ha hq
  cases hk2 : isKey d s a with
  | false => rfl
  | true =>
    have := key_unique hk hf ha hk2
    subst this
    exact absurd (isX_iff.mp hq) h
end
theorem num_zero {D : Doc} {dp : Int → Nat} (I : D.Inv dp) {k : Int} (h : D.row k = none) : D.num k = 0 := by
  unfold Doc.num
  refine List.countP_eq_zero.mpr fun e he hq => ?_
  obtain ⟨_, r, hr⟩ := I.ino e he
  rw [isX_iff.mp hq, h] at hr
  cases hr
theorem cnt_zero {D : Doc} {dp : Int → Nat} (I : D.Inv dp) {k : Int} (h : ∀ r, D.row k = some r → r.kind ≠ 2) : D.cnt k = 0 := by
  unfold Doc.cnt
  refine List.countP_eq_zero.mpr fun e he hq => ?_
  obtain ⟨r, hr, h2⟩ := I.dir e he
  rw [isD_iff.mp hq] at hr
  exact h r hr h2
theorem none_of_cnt {D : Doc} {k : Int} (h : D.cnt k = 0) : ∀ e ∈ D.E, e.d ≠ k := fun e he hq => by
  have := List.countP_eq_zero.mp h e he
  exact this (isD_iff.mpr hq)
theorem row_last (D : Doc) {k : Int} (h : (D.L.length : Int) < k) : D.row k = none := by
  cases hq : D.row k with
  | none => rfl
  | some r => have := (row_some hq).2.1; omega
theorem len_pos {D : Doc} {dp : Int → Nat} (I : D.Inv dp) : 1 ≤ D.L.length := by
  obtain ⟨r, hr, _⟩ := I.root
  have := (row_some hr).2.1
  omega
theorem dirE_row {D : Doc} {d : Int} (h : isDirE D.tab d = 0) : ∃ r, D.row d = some r ∧ r.kind = 2 := by
  obtain ⟨i, hi, h2⟩ := dirE_zero h
  obtain ⟨r, hr, rfl⟩ := row_at hi
  exact ⟨r, hr, h2⟩
theorem placeE_name {T : Tab} {d : Int} {s : List UInt8} (h : placeE T d s = 0) : s.length ≤ 56 ∧ nmOk s = true := by
  have h0 := placeE_zero h
  unfold placeE at h
  rw [if_pos h0] at h
  by_cases q : s.length ≤ 56
  · rw [if_pos q] at h
    refine ⟨q, ?_⟩
    cases hq : nmOk s with
    | true => rfl
    | false => rw [hq] at h; simp at h
  · rw [if_neg q] at h; cases h
theorem inodeE_kind {k m : Int} {dt : List UInt8} (h : inodeE k m dt = 0) : (k = 1 ∨ k = 2 ∨ k = 3) ∧ (k = 2 → dt = []) := by
  unfold inodeE at h
  by_cases q : modeE m = 0
  · rw [if_pos q] at h
    cases hq : dataOk k dt with
    | false => rw [hq] at h; simp at h
    | true =>
      unfold dataOk at hq
      by_cases k1 : k = 1
      · exact ⟨.inl k1, fun e => by omega⟩
      · by_cases k2 : k = 2
        · rw [if_neg k1, if_pos k2] at hq
          exact ⟨.inr (.inl k2), fun _ => by simpa using hq⟩
        · by_cases k3 : k = 3
          · exact ⟨.inr (.inr k3), fun e => by omega⟩
          · rw [if_neg k1, if_neg k2, if_neg k3] at hq; cases hq
  · rw [if_neg q] at h; exact absurd h q
theorem freeE_find {D : Doc} {dp : Int → Nat} (I : D.Inv dp) {d : Int} {s : List UInt8} (h : freeE D.tab d s = 0) : D.find d s = none := by
  unfold freeE at h
  rw [findT_row I] at h
  cases hq : D.find d s with
  | none => rfl
  | some x => rw [hq] at h; simp at h
theorem none_find {D : Doc} {dp : Int → Nat} (I : D.Inv dp) {d : Int} {s : List UInt8} (h : D.find d s = none) : ∀ e ∈ D.E, isKey d s e = false := fun e he => by
  cases hq : isKey d s e with
  | false => rfl
  | true =>
    obtain ⟨h1, h2⟩ := isKey_iff.mp hq
    have := find_is I he
    rw [h1, h2, h] at this
    cases this
def Doc.make (D : Doc) (d : Int) (s : List UInt8) (k m : Int) (dt : List UInt8) : Doc := { D with L := D.L ++ [⟨k, m, dt⟩], E := D.E ++ [⟨d, s, (D.L.length : Int) + 1⟩] }
theorem make_doc {D : Doc} {dp : Int → Nat} (I : D.Inv dp) {d : Int} {s : List UInt8} {k m : Int} {dt : List UInt8} (h : makeE D.tab d s k m dt = 0) : makeT D.tab d s k m dt = (D.make d s k m dt).tab ∧ ∃ dp', (D.make d s k m dt).Inv dp' := by
  have h' := h
  unfold makeE at h
  have q1 : placeE D.tab d s = 0 := by
    by_cases q : placeE D.tab d s = 0
    · exact q
    · simp [q] at h
  have q2 : inodeE k m dt = 0 := by
    by_cases q : inodeE k m dt = 0
    · exact q
    · simp [q1, q] at h
  have q3 : freeE D.tab d s = 0 := by
    by_cases q : freeE D.tab d s = 0
    · exact q
    · simp [q1, q2, q] at h
  have q4 : roomE D.tab dt = 0 := by simpa [q1, q2, q3] using h
  obtain ⟨rd, hrd, hrd2⟩ := dirE_row (placeE_zero q1)
  obtain ⟨n1, n2⟩ := placeE_name q1
  obtain ⟨k1, k2⟩ := inodeE_kind q2
  have hfree := freeE_find I q3
  have hnok := none_find I hfree
  have hk0 : k ≠ 0 := by omega
  have hroom : D.inodes + 1 ≤ D.qi ∧ D.bytes + dt.length ≤ D.qb := by
    unfold roomE room at q4
    have e1 : D.tab.qi = D.qi := rfl
    have e2 : D.tab.cnt = D.inodes := rfl
    have e3 : D.tab.qb = D.qb := rfl
    have e4 : D.tab.bytes = D.bytes := rfl
    rw [e1, e2, e3, e4] at q4
    by_cases g1 : (1 : Int) ≤ (D.qi : Int) - (D.inodes : Int)
    · by_cases g2 : (dt.length : Int) ≤ (D.qb : Int) - (D.bytes : Int)
      · omega
      · simp [g1, g2] at q4
    · simp [g1] at q4
  have hlen := len_pos I
  obtain ⟨n, hn⟩ : ∃ n : Int, n = (D.L.length : Int) + 1 := ⟨_, rfl⟩
  have hnone : D.row n = none := row_last D (by omega)
  have hdn : d ≠ n := by rintro rfl; rw [hnone] at hrd; cases hrd
  have h1n : (1 : Int) ≠ n := by omega
  have hnum := num_zero I hnone
  have hcnt : D.cnt n = 0 := cnt_zero I fun r hr => by rw [hnone] at hr; cases hr
  have hE : (D.make d s k m dt).E = D.E ++ [⟨d, s, n⟩] := by rw [hn]; rfl
  have hL : (D.make d s k m dt).L = D.L ++ [⟨k, m, dt⟩] := rfl
  have hrow : ∀ j, (D.make d s k m dt).row j = if j = n then some ⟨k, m, dt⟩ else D.row j := fun j => by rw [row_push hL hk0 j, hn]
  have hod : ∀ e ∈ D.E, e.d ≠ n := none_of_cnt hcnt
  have hox : ∀ e ∈ D.E, e.x ≠ n := fun e he hq => by obtain ⟨_, r, hr⟩ := I.ino e he; rw [hq, hnone] at hr; cases hr
  have hsz : (D.make d s k m dt).bytes = D.bytes + dt.length := by unfold Doc.bytes; rw [hL, sizes_append]; simp [sizes]
  have hin : (D.make d s k m dt).inodes = D.inodes + 1 := by unfold Doc.inodes; rw [hL, List.countP_append]; simp [isIn, hk0]
  refine ⟨?_, fun y => if y = n then dp d + 1 else dp y, ?_⟩
  · have hi1 : (addT D.tab (fresh k m dt 0)).f d = some (D.mk' d rd) := by
      show (if d = (D.tab.last : Int) + 1 then _ else D.tab.f d) = _
      rw [if_neg (show ¬ d = (D.tab.last : Int) + 1 from fun q => hdn (by rw [hn]; exact q)), at_row hrd]
    have ho1 : ((addT D.tab (fresh k m dt 0)).setI d (entIn (D.mk' d rd) s n)).f n = some (fresh k m dt 0) := by
      show (if n = d then _ else if n = (D.tab.last : Int) + 1 then _ else _) = _
      rw [if_neg (Ne.symm hdn), if_pos (show n = (D.tab.last : Int) + 1 from hn)]
    have hT : makeT D.tab d s k m dt = ((addT D.tab (fresh k m dt 0)).setI d (entIn (D.mk' d rd) s n)).setI n ((fresh k m dt 0).linked d) := by
      unfold makeT
      rw [h']
      have e : (D.tab.last : Int) + 1 = n := hn.symm
      rw [e]
      unfold Tab.enter
      simp [hi1, ho1]
    rw [hT]
    refine tab_ext (fun j => ?_) hin.symm ?_ hsz.symm rfl rfl
    · show (if j = n then _ else if j = d then _ else if j = (D.tab.last : Int) + 1 then _ else D.tab.f j) = _
      have e : (D.tab.last : Int) + 1 = n := hn.symm
      rw [e]
      by_cases j1 : j = n
      · rw [if_pos j1, at_row (D := D.make d s k m dt) (r := ⟨k, m, dt⟩) (by rw [hrow, if_pos j1])]
        subst j1
        congr 1
        refine ino_ext rfl rfl rfl ?_ ?_ (fun nm => ?_) ?_
        · show (0 : Int) + 1 = (D.make d s k m dt).lnk j
          unfold Doc.lnk
          rw [if_neg (Ne.symm h1n), num_push hE, hnum]
          simp
        · show (if k = 2 then d else 0) = (if k = 2 then (D.make d s k m dt).up j else 0)
          rw [up_one (D := D.make d s k m dt) (k := j) (by rw [num_push hE, hnum]; simp) (e := ⟨d, s, j⟩) (by rw [hE]; simp) rfl]
        · show none = (D.make d s k m dt).find j nm
          refine (find_none fun e he hq => ?_).symm
          rw [hE] at he
          rcases List.mem_append.mp he with he | he
          · exact hod e he hq.1
          · obtain rfl := List.mem_singleton.mp he
            exact hdn hq.1
        · show 0 = (D.make d s k m dt).cnt j
          rw [cnt_push hE, hcnt]
          simp [hdn]
      · rw [if_neg j1]
        by_cases j2 : j = d
        · subst j2
          rw [if_pos rfl, at_row (D := D.make j s k m dt) (r := rd) (by rw [hrow, if_neg j1]; exact hrd)]
          congr 1
          refine ino_ext rfl rfl rfl ?_ ?_ (fun nm => ?_) ?_
          · show D.lnk j = (D.make j s k m dt).lnk j
            unfold Doc.lnk
            rw [num_push hE]
            simp [Ne.symm j1]
          · show (if rd.kind = 2 then D.up j else 0) = (if rd.kind = 2 then (D.make j s k m dt).up j else 0)
            rw [up_push hE _ (Ne.symm j1)]
          · show (if nm = s then some n else D.find j nm) = (D.make j s k m dt).find j nm
            rw [find_push hE]
            by_cases e : nm = s
            · subst e
              rw [hfree]
              simp [isKey]
            · rw [if_neg e]
              cases hq : D.find j nm with
              | some x => rfl
              | none => simp [isKey, Ne.symm e]
          · show (if (D.find j s).isSome = true then D.cnt j else D.cnt j + 1) = (D.make j s k m dt).cnt j
            rw [hfree, cnt_push hE]
            simp
        · rw [if_neg j2, if_neg j1]
          cases hq : D.row j with
          | none =>
            rw [at_none hq, at_none (D := D.make d s k m dt) (by rw [hrow, if_neg j1]; exact hq)]
          | some r =>
            rw [at_row hq, at_row (D := D.make d s k m dt) (r := r) (by rw [hrow, if_neg j1]; exact hq)]
            congr 1
            refine ino_ext rfl rfl rfl ?_ ?_ (fun nm => ?_) ?_
            · show D.lnk j = (D.make d s k m dt).lnk j
              unfold Doc.lnk
              rw [num_push hE]
              simp [Ne.symm j1]
            · show (if r.kind = 2 then D.up j else 0) = (if r.kind = 2 then (D.make d s k m dt).up j else 0)
              rw [up_push hE _ (Ne.symm j1)]
            · show D.find j nm = (D.make d s k m dt).find j nm
              rw [find_push hE]
              cases hq : D.find j nm with
              | some x => rfl
              | none => simp [isKey, Ne.symm j2]
            · show D.cnt j = (D.make d s k m dt).cnt j
              rw [cnt_push hE]
              simp [Ne.symm j2]
    · show D.tab.last + 1 = (D.L ++ [_]).length
      simp [Doc.tab]
  · refine ⟨?_, ?_, fun e he => ?_, fun e he => ?_, fun e he => ?_, fun j r hr h1 => ?_, fun r hr => ?_, fun r hr => ?_, fun e he r hr h2 => ?_, ?_, I.q⟩
    · obtain ⟨r, hr, h2⟩ := I.root
      exact ⟨r, by rw [hrow, if_neg h1n]; exact hr, h2⟩
    · rw [hE, List.pairwise_append]
      refine ⟨I.key, by simp, fun a ha b hb => ?_⟩
      obtain rfl := List.mem_singleton.mp hb
      have := hnok a ha
      rw [isKey_symm]
      exact this
    · rw [hE] at he
      rcases List.mem_append.mp he with he | he
      · rw [hrow, if_neg (hod e he)]
        exact I.dir e he
      · obtain rfl := List.mem_singleton.mp he
        exact ⟨rd, by rw [hrow, if_neg hdn]; exact hrd, hrd2⟩
    · rw [hE] at he
      rcases List.mem_append.mp he with he | he
      · rw [hrow, if_neg (hox e he)]
        exact I.ino e he
      · obtain rfl := List.mem_singleton.mp he
        exact ⟨Ne.symm h1n, ⟨k, m, dt⟩, by rw [hrow, if_pos rfl]⟩
    · rw [hE] at he
      rcases List.mem_append.mp he with he | he
      · exact I.name e he
      · obtain rfl := List.mem_singleton.mp he
        exact ⟨n1, n2⟩
    · rw [num_push hE]
      rw [hrow] at hr
      by_cases j1 : j = n
      · subst j1
        rw [hnum]
        simp
      · rw [if_neg j1] at hr
        have := I.one j r hr h1
        simpa [Ne.symm j1] using this
    · rw [hL] at hr
      rcases List.mem_append.mp hr with hr | hr
      · exact I.gone r hr
      · obtain rfl := List.mem_singleton.mp hr
        exact fun q => absurd q hk0
    · rw [hL] at hr
      rcases List.mem_append.mp hr with hr | hr
      · exact I.kind r hr
      · obtain rfl := List.mem_singleton.mp hr
        exact ⟨.inr k1, k2⟩
    · rw [hE] at he
      rcases List.mem_append.mp he with he | he
      · rw [hrow, if_neg (hox e he)] at hr
        simp only [if_neg (hox e he), if_neg (hod e he)]
        exact I.deep e he r hr h2
      · obtain rfl := List.mem_singleton.mp he
        simp only [if_neg hdn, if_true]
        omega
    · rw [hsz, hin]
      exact hroom
end Go.Proofs.Ytgifdmfnecombaa
