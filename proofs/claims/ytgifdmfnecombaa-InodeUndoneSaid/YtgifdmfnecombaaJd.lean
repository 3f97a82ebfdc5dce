/- The table as lists: unlink, move. -/
import Derived.Test.YtgifdmfnecombaaJc
namespace Go.Proofs.Ytgifdmfnecombaa
open Go.RowKit
set_option maxRecDepth 100000
def outE (E : List Ent) (d : Int) (s : List UInt8) : List Ent := E.filter (fun e => !isKey d s e)
def Doc.unlink (D : Doc) (d : Int) (s : List UInt8) (x : Int) : Doc := { D with E := outE D.E d s, L := if (outE D.E d s).countP (isX x) = 0 then D.L.set (x - 1).toNat ⟨0, 0, []⟩ else D.L }
theorem mem_out {E : List Ent} {d : Int} {s : List UInt8} {e : Ent} (h : e ∈ outE E d s) : e ∈ E ∧ isKey d s e = false := by
  obtain ⟨h1, h2⟩ := List.mem_filter.mp h
  exact ⟨h1, by simpa using h2⟩
/-- no directory lies in itself -/
theorem not_self {D : Doc} {dp : Int → Nat} (I : D.Inv dp) {e : Ent} (he : e ∈ D.E) : e.d ≠ e.x := fun q => by
  obtain ⟨r, hr, h2⟩ := I.dir e he
  rw [q] at hr
  have := I.deep e he r hr h2
  rw [q] at this
  omega
theorem unlink_doc {D : Doc} {dp : Int → Nat} (I : D.Inv dp) {d : Int} {s : List UInt8} (h : unlinkE D.tab d s = 0) : ∃ x, D.find d s = some x ∧ unlinkT D.tab d s = (D.unlink d s x).tab ∧ (D.unlink d s x).Inv dp := by
  have h' := h
  unfold unlinkE at h
  have q1 : isDirE D.tab d = 0 := by
    by_cases q : isDirE D.tab d = 0
    · exact q
    · simp [q] at h
  have q2 : hasE D.tab d s = 0 := by
    by_cases q : hasE D.tab d s = 0
    · exact q
    · simp [q1, q] at h
  have q3 : inUseE D.tab d s = 0 := by simpa [q1, q2] using h
  obtain ⟨rd, hrd, hrd2⟩ := dirE_row q1
  obtain ⟨x, hx⟩ : ∃ x, D.find d s = some x := by
    unfold hasE at q2
    rw [findT_row I] at q2
    cases hq : D.find d s with
    | none => rw [hq] at q2; simp at q2
    | some x => exact ⟨x, rfl⟩
  obtain ⟨e0, hf, he0, ed, es, ex⟩ := find_some hx
  obtain ⟨hx1, rx, hrx⟩ := I.ino e0 he0
  rw [ex] at hx1 hrx
  have hdx : d ≠ x := by have := not_self I he0; rw [ed, ex] at this; exact this
  have hxe : ∀ e ∈ D.E, e.d ≠ x := by
    refine none_of_cnt ?_
    by_cases k2 : rx.kind = 2
    · unfold inUseE at q3
      rw [findT_row I, hx] at q3
      simp only [at_row hrx] at q3
      unfold usedE at q3
      have e1 : (D.mk' x rx).kind = rx.kind := rfl
      have e2 : (D.mk' x rx).cnt = D.cnt x := rfl
      rw [e1, e2] at q3
      by_cases c : D.cnt x = 0
      · exact c
      · rw [if_pos ⟨k2, c⟩] at q3; cases q3
    · exact cnt_zero I fun r hr => by rw [hrx] at hr; cases hr; exact k2
  refine ⟨x, hx, ?_⟩
  obtain ⟨D1, hD1⟩ : ∃ D1 : Doc, D1 = D.unlink d s x := ⟨_, rfl⟩
  have hE : D1.E = D.E.filter (fun e => !isKey d s e) := by rw [hD1]; rfl
  have hnum := num_out I.key hf hE
  have hcnt := cnt_out I.key hf hE
  have hup := up_out I.key hf hE
  have hfind := find_out (D' := D1) hE
  rw [ex] at hnum hup
  rw [ed] at hcnt
  have hL : D1.L = if D1.num x = 0 then D.L.set (x - 1).toNat ⟨0, 0, []⟩ else D.L := by rw [hD1]; rfl
  obtain ⟨hxa, hxb, hget, hr0⟩ := row_some hrx
  have hrow : ∀ j, D1.row j = if j = x ∧ D1.num x = 0 then none else D.row j := fun j => by
    by_cases z : D1.num x = 0
    · rw [if_pos z] at hL
      rw [row_put hrx hL]
      by_cases e : j = x <;> simp [e, z]
    · rw [if_neg z] at hL
      rw [row_same hL]
      simp [z]
  have hnx : D.num x = D1.num x + 1 := by have := hnum x; simpa using this
  have hnj : ∀ j, j ≠ x → D.num j = D1.num j := fun j hj => by have := hnum j; simpa [Ne.symm hj] using this
  have hone := I.one x rx hrx hx1
  rw [← hD1]
  have hi := at_row hrd
  have ho : (D.tab.setI d (entOut (D.mk' d rd) s)).f x = some (D.mk' x rx) := by
    show (if x = d then _ else D.tab.f x) = _
    rw [if_neg (Ne.symm hdx), at_row hrx]
  have hlv : D.tab.leave d s x = (D.tab.setI d (entOut (D.mk' d rd) s)).setI x (D.mk' x rx).unlinked := by unfold Tab.leave; simp [hi, ho]
  have hat : (D.tab.leave d s x).f x = some (D.mk' x rx).unlinked := by rw [hlv]; exact setI_at _ _ _
  have hlk : (D.mk' x rx).unlinked.links = (D1.num x : Int) := by
    show D.lnk x - 1 = _
    unfold Doc.lnk
    rw [if_neg hx1, hnx]
    omega
  have hT : unlinkT D.tab d s = if D1.num x = 0 then ((D.tab.leave d s x).setB (D.bytes - rx.data.length)).del x else D.tab.leave d s x := by
    unfold unlinkT
    rw [h', findT_row I, hx]
    simp only [ne_eq, not_true_eq_false, if_false]
    unfold Tab.unlink
    rw [hat]
    simp only [hlk]
    by_cases z : D1.num x = 0
    · have zi : (D1.num x : Int) = 0 := by omega
      rw [if_pos z, if_pos zi]
      unfold Tab.drop
      rw [hat, hlv]
      rfl
    · have zi : ¬ (D1.num x : Int) = 0 := by omega
      rw [if_neg z, if_neg zi]
  have hother : ∀ j, j ≠ x → (D.tab.leave d s x).f j = D1.ino j := fun j j1 => by
    rw [hlv]
    show (if j = x then _ else if j = d then _ else D.tab.f j) = _
    rw [if_neg j1]
    have hr1 : D1.row j = D.row j := by rw [hrow]; simp [j1]
    by_cases j2 : j = d
    · rw [if_pos j2]
      have hrj : D1.row j = some rd := by rw [hr1, j2]; exact hrd
      rw [show D1.ino j = some (D1.mk' j rd) from at_row hrj]
      subst j2
      congr 1
      refine ino_ext rfl rfl rfl ?_ ?_ (fun nm => ?_) ?_
      · show D.lnk j = D1.lnk j
        unfold Doc.lnk
        rw [hnj j j1]
      · show (if rd.kind = 2 then D.up j else 0) = (if rd.kind = 2 then D1.up j else 0)
        rw [hup j (Ne.symm j1)]
      · show (if nm = s then none else D.find j nm) = D1.find j nm
        rw [hfind]
        by_cases e : nm = s <;> simp [e]
      · show (if (D.find j s).isSome = true then D.cnt j - 1 else D.cnt j) = D1.cnt j
        rw [hx]
        have := hcnt j
        simp at this
        simp [this]
    · rw [if_neg j2]
      cases hq : D.row j with
      | none =>
        rw [at_none hq]
        rw [hq] at hr1
        exact (at_none hr1).symm
      | some r =>
        rw [hq] at hr1
        rw [at_row hq, show D1.ino j = some (D1.mk' j r) from at_row hr1]
        congr 1
        refine ino_ext rfl rfl rfl ?_ ?_ (fun nm => ?_) ?_
        · show D.lnk j = D1.lnk j
          unfold Doc.lnk
          rw [hnj j j1]
        · show (if r.kind = 2 then D.up j else 0) = (if r.kind = 2 then D1.up j else 0)
          rw [hup j (Ne.symm j1)]
        · show D.find j nm = D1.find j nm
          rw [hfind]
          simp [j2]
        · show D.cnt j = D1.cnt j
          have := hcnt j
          simpa [Ne.symm j2] using this
  refine ⟨?_, ?_⟩
  · rw [hT]
    by_cases z : D1.num x = 0
    · rw [if_pos z]
      rw [if_pos z] at hL
      have hb := sizes_set (r := ⟨0, 0, []⟩) hget
      have hin := isIn_set (r := ⟨0, 0, []⟩) hget
      refine tab_ext (fun j => ?_) ?_ ?_ ?_ (by rw [hlv, hD1]; rfl) (by rw [hlv, hD1]; rfl)
      · show (if j = x then none else (D.tab.leave d s x).f j) = D1.ino j
        by_cases e : j = x
        · rw [if_pos e]
          exact (at_none (D := D1) (by rw [hrow]; simp [e, z])).symm
        · rw [if_neg e, hother j e]
      · show (if ((D.tab.leave d s x).f x).isSome = true then (D.tab.leave d s x).cnt - 1 else _) = D1.inodes
        rw [hat, hlv]
        show D.inodes - 1 = D1.inodes
        unfold Doc.inodes
        rw [hL]
        have e1 : isIn rx = true := by unfold isIn; simp [hr0]
        have e2 : isIn ⟨0, 0, []⟩ = false := rfl
        rw [e1, e2] at hin
        simp only [Bool.false_eq_true, if_false, if_true, Nat.add_zero] at hin
        omega
      · rw [hlv]
        show D.L.length = D1.L.length
        rw [hL]; simp
      · show D.bytes - rx.data.length = D1.bytes
        unfold Doc.bytes
        rw [hL]
        simp only [List.length_nil] at hb
        omega
    · rw [if_neg z]
      rw [if_neg z] at hL
      have hk2 : rx.kind = 1 := by
        by_cases k : rx.kind = 1
        · exact k
        · have := hone.2 k; omega
      refine tab_ext (fun j => ?_) ?_ ?_ ?_ (by rw [hlv, hD1]; rfl) (by rw [hlv, hD1]; rfl)
      · by_cases e : j = x
        · have hr1 : D1.row x = some rx := by rw [hrow]; simp [z, hrx]
          rw [e, hat, show D1.tab.f x = some (D1.mk' x rx) from at_row hr1]
          congr 1
          refine ino_ext rfl rfl rfl ?_ ?_ (fun nm => ?_) ?_
          · rw [hlk]
            show _ = D1.lnk x
            unfold Doc.lnk
            rw [if_neg hx1]
          · show (if rx.kind = 2 then D.up x else 0) = (if rx.kind = 2 then D1.up x else 0)
            simp [hk2]
          · show D.find x nm = D1.find x nm
            rw [hfind]
            simp [Ne.symm hdx]
          · show D.cnt x = D1.cnt x
            have := hcnt x
            simpa [hdx] using this
        · exact hother j e
      · rw [hlv]
        show D.inodes = D1.inodes
        unfold Doc.inodes
        rw [hL]
      · rw [hlv]
        show D.L.length = D1.L.length
        rw [hL]
      · rw [hlv]
        show D.bytes = D1.bytes
        unfold Doc.bytes
        rw [hL]
  · have hmem : ∀ e ∈ D1.E, e ∈ D.E ∧ (e.x = x → D1.num x ≠ 0) := fun e he => by
      have he2 := he
      rw [hE] at he
      refine ⟨(mem_out he).1, fun q z => ?_⟩
      have := List.countP_eq_zero.mp z e he2
      exact this (isX_iff.mpr q)
    refine ⟨?_, by rw [hE]; exact I.key.filter _, fun e he => ?_, fun e he => ?_, fun e he => I.name e (hmem e he).1, fun j r hr h1 => ?_, fun r hr => ?_, fun r hr => ?_, fun e he r hr h2 => ?_, ?_, by rw [hD1]; exact I.q⟩
    · obtain ⟨r, hr, h2⟩ := I.root
      exact ⟨r, by rw [hrow]; simp [Ne.symm hx1, hr], h2⟩
    · obtain ⟨r, hr, h2⟩ := I.dir e (hmem e he).1
      exact ⟨r, by rw [hrow]; simp [hxe e (hmem e he).1, hr], h2⟩
    · obtain ⟨h1, r, hr⟩ := I.ino e (hmem e he).1
      refine ⟨h1, r, ?_⟩
      rw [hrow, if_neg (fun q => (hmem e he).2 q.1 q.2)]
      exact hr
    · rw [hrow] at hr
      by_cases q : j = x ∧ D1.num x = 0
      · rw [if_pos q] at hr; cases hr
      · rw [if_neg q] at hr
        by_cases e : j = x
        · subst e
          rw [hrx] at hr
          cases hr
          have z : D1.num j ≠ 0 := fun z => q ⟨rfl, z⟩
          refine ⟨by omega, fun k => ?_⟩
          have := hone.2 k
          omega
        · rw [← hnj j e]
          exact I.one j r hr h1
    · rw [hL] at hr
      by_cases z : D1.num x = 0
      · rw [if_pos z] at hr
        rcases List.mem_or_eq_of_mem_set hr with hr | rfl
        · exact I.gone r hr
        · exact fun _ => rfl
      · rw [if_neg z] at hr; exact I.gone r hr
    · rw [hL] at hr
      by_cases z : D1.num x = 0
      · rw [if_pos z] at hr
        rcases List.mem_or_eq_of_mem_set hr with hr | rfl
        · exact I.kind r hr
        · exact ⟨.inl rfl, fun _ => rfl⟩
      · rw [if_neg z] at hr; exact I.kind r hr
    · rw [hrow] at hr
      by_cases q : e.x = x ∧ D1.num x = 0
      · rw [if_pos q] at hr; cases hr
      · rw [if_neg q] at hr
        exact I.deep e (hmem e he).1 r hr h2
    · have e1 : D1.qi = D.qi := by rw [hD1]; rfl
      have e2 : D1.qb = D.qb := by rw [hD1]; rfl
      rw [e1, e2]
      have hb := sizes_set (r := ⟨0, 0, []⟩) hget
      have hin := isIn_set (r := ⟨0, 0, []⟩) hget
      have := I.room
      unfold Doc.inodes Doc.bytes at this ⊢
      by_cases z : D1.num x = 0
      · rw [if_pos z] at hL
        rw [hL]
        have e1 : isIn rx = true := by unfold isIn; simp [hr0]
        have e2 : isIn ⟨0, 0, []⟩ = false := rfl
        rw [e1, e2] at hin
        simp only [Bool.false_eq_true, if_false, if_true, Nat.add_zero] at hin
        simp only [List.length_nil] at hb
        omega
      · rw [if_neg z] at hL
        rw [hL]
        exact this
def Doc.move (D : Doc) (d : Int) (s : List UInt8) (t : Int) (a : List UInt8) (x : Int) : Doc := { D with E := outE D.E d s ++ [⟨t, a, x⟩] }
theorem move_doc {D : Doc} {dp : Int → Nat} (I : D.Inv dp) {n : Nat} (F : D.Few n) (hn : n ≤ 100000) {d t : Int} {s a : List UInt8} (h : moveE D.tab d s t a = 0) (h2 : moveF D.tab dp d s t a = 0) (hns : ¬ (t = d ∧ a = s)) :
    ∃ x, D.find d s = some x ∧ moveT D.tab dp d s t a = (D.move d s t a x).tab ∧ ∃ dp', (D.move d s t a x).Inv dp' := by
  have h' := h
  unfold moveE at h
  have q1 : isDirE D.tab d = 0 := by
    by_cases q : isDirE D.tab d = 0
    · exact q
    · simp [q] at h
  have q2 : placeE D.tab t a = 0 := by
    by_cases q : placeE D.tab t a = 0
    · exact q
    · simp [q1, q] at h
  have q3 : hasE D.tab d s = 0 := by simpa [q1, q2] using h
  obtain ⟨rd, hrd, hrd2⟩ := dirE_row q1
  obtain ⟨rt, hrt, hrt2⟩ := dirE_row (placeE_zero q2)
  obtain ⟨n1, n2⟩ := placeE_name q2
  obtain ⟨x, hx⟩ : ∃ x, D.find d s = some x := by
    unfold hasE at q3
    rw [findT_row I] at q3
    cases hq : D.find d s with
    | none => rw [hq] at q3; simp at q3
    | some x => exact ⟨x, rfl⟩
  have h2' := h2
  unfold moveF at h2
  have q4 : freeE D.tab t a = 0 := by
    by_cases q : freeE D.tab t a = 0
    · exact q
    · simp [q] at h2
  have q5 : aboveE D.tab x dp t = 0 := by
    have : aboveF D.tab dp d s t = 0 := by simpa [q4] using h2
    unfold aboveF at this
    rw [findT_row I, hx] at this
    exact this
  have hfree := freeE_find I q4
  have hnok := none_find I hfree
  obtain ⟨e0, hf, he0, ed, es, ex⟩ := find_some hx
  obtain ⟨hx1, rx, hrx⟩ := I.ino e0 he0
  rw [ex] at hx1 hrx
  have hdx : d ≠ x := by have := not_self I he0; rw [ed, ex] at this; exact this
  have htx : t ≠ x := by rintro rfl; rw [above_here] at q5; cases q5
  refine ⟨x, hx, ?_⟩
  obtain ⟨D1, hD1⟩ : ∃ D1 : Doc, D1 = { D with E := outE D.E d s } := ⟨_, rfl⟩
  obtain ⟨D2, hD2⟩ : ∃ D2 : Doc, D2 = D.move d s t a x := ⟨_, rfl⟩
  have hE : D1.E = D.E.filter (fun e => !isKey d s e) := by rw [hD1]; rfl
  have hE2 : D2.E = D1.E ++ [⟨t, a, x⟩] := by rw [hD1, hD2]; rfl
  have hL2 : D2.L = D.L := by rw [hD2]; rfl
  have hrow : ∀ j, D2.row j = D.row j := row_same hL2
  have hnum := num_out I.key hf hE
  have hcnt := cnt_out I.key hf hE
  have hup := up_out I.key hf hE
  have hfind := find_out (D' := D1) hE
  rw [ex] at hnum hup
  rw [ed] at hcnt
  have num2 : ∀ j, D2.num j = D.num j := fun j => by
    rw [num_push hE2, hnum]
  have find2 : ∀ j nm, D2.find j nm = if j = t ∧ nm = a then some x else if j = d ∧ nm = s then none else D.find j nm := fun j nm => by
    rw [find_push hE2, hfind]
    by_cases k1 : j = t ∧ nm = a
    · rw [if_pos k1]
      obtain ⟨rfl, rfl⟩ := k1
      rw [if_neg hns, hfree]
      simp [isKey]
    · rw [if_neg k1]
      have : isKey j nm ⟨t, a, x⟩ = false := by
        cases hk : isKey j nm ⟨t, a, x⟩ with
        | false => rfl
        | true =>
          obtain ⟨g1, g2⟩ := isKey_iff.mp hk
          exact absurd ⟨g1.symm, g2.symm⟩ k1
      rw [this]
      cases (if j = d ∧ nm = s then none else D.find j nm) <;> simp
  have up2 : ∀ j, j ≠ x → D2.up j = D.up j := fun j hj => by rw [up_push hE2 j (Ne.symm hj), hup j (Ne.symm hj)]
  have upx : rx.kind = 2 → D2.up x = t := fun k => by
    have := (I.one x rx hrx hx1).2 (by omega)
    exact up_one (D := D2) (k := x) (by rw [num2]; exact this) (e := ⟨t, a, x⟩) (by rw [hE2]; simp) rfl
  have cnt2 : ∀ j, D2.cnt j + (if d = j then 1 else 0) = D.cnt j + (if t = j then 1 else 0) := fun j => by
    have := hcnt j
    rw [cnt_push hE2]
    simp only
    omega
  rw [← hD2]
  refine ⟨?_, fun y => if aboveE D.tab x dp y = 0 then dp y else dp y + dp t + 1, ?_⟩
  · have hi := at_row hrd
    have hit := at_row hrt
    have ho : (D.tab.setI d (entOut (D.mk' d rd) s)).f x = some (D.mk' x rx) := by
      show (if x = d then _ else D.tab.f x) = _
      rw [if_neg (Ne.symm hdx), at_row hrx]
    have hlv : D.tab.leave d s x = (D.tab.setI d (entOut (D.mk' d rd) s)).setI x (D.mk' x rx).unlinked := by unfold Tab.leave; simp [hi, ho]
    have hat : (D.tab.leave d s x).f x = some (D.mk' x rx).unlinked := by rw [hlv]; exact setI_at _ _ _
    obtain ⟨jt, hjt, hjk, hjm, hjd, hjl, hju, hjf, hjc⟩ : ∃ j, (D.tab.leave d s x).f t = some j ∧ j.kind = rt.kind ∧ j.mode = rt.mode ∧ j.data = rt.data ∧ j.links = D.lnk t ∧ j.up = (if rt.kind = 2 then D.up t else 0) ∧ (∀ nm, j.ents nm = if t = d ∧ nm = s then none else D.find t nm) ∧ j.cnt + (if d = t then 1 else 0) = D.cnt t := by
      rw [hlv]
      by_cases e : t = d
      · subst e
        rw [hrd] at hrt
        cases hrt
        refine ⟨entOut (D.mk' t rd) s, by show (if t = x then _ else if t = t then _ else _) = _; rw [if_neg htx, if_pos rfl], rfl, rfl, rfl, rfl, rfl, fun nm => ?_, ?_⟩
        · show (if nm = s then none else D.find t nm) = _
          by_cases g : nm = s <;> simp [g]
        · show (if (D.find t s).isSome = true then D.cnt t - 1 else D.cnt t) + _ = _
          rw [hx]
          have := hcnt t
          simp at this
          simp [this]
      · refine ⟨D.mk' t rt, by show (if t = x then _ else if t = d then _ else D.tab.f t) = _; rw [if_neg htx, if_neg e, hit], rfl, rfl, rfl, rfl, rfl, fun nm => ?_, ?_⟩
        · show D.find t nm = _
          simp [e]
        · show D.cnt t + _ = _
          simp [Ne.symm e]
    have ho2 : ((D.tab.leave d s x).setI t (entIn jt a x)).f x = some (D.mk' x rx).unlinked := by
      show (if x = t then _ else (D.tab.leave d s x).f x) = _
      rw [if_neg (Ne.symm htx), hat]
    have hen : (D.tab.leave d s x).enter t a x = ((D.tab.leave d s x).setI t (entIn jt a x)).setI x ((D.mk' x rx).unlinked.linked t) := by unfold Tab.enter; simp [hjt, ho2]
    have hT : moveT D.tab dp d s t a = ((D.tab.leave d s x).setI t (entIn jt a x)).setI x ((D.mk' x rx).unlinked.linked t) := by
      unfold moveT
      rw [h', h2', ← hen, if_neg hns]
      simp only [ne_eq, not_true_eq_false, if_false]
      unfold Tab.move
      rw [findT_row I, hx]
    rw [hT]
    refine tab_ext (fun j => ?_) ?_ ?_ ?_ ?_ ?_
    · show (if j = x then _ else if j = t then _ else (D.tab.leave d s x).f j) = _
      by_cases j1 : j = x
      · rw [if_pos j1, at_row (D := D2) (r := rx) (by rw [hrow, j1]; exact hrx)]
        congr 1
        subst j1
        refine ino_ext rfl rfl rfl ?_ ?_ (fun nm => ?_) ?_
        · show D.lnk j - 1 + 1 = D2.lnk j
          unfold Doc.lnk
          rw [num2]
          omega
        · show (if rx.kind = 2 then t else if rx.kind = 2 then D.up j else 0) = (if rx.kind = 2 then D2.up j else 0)
          by_cases k : rx.kind = 2
          · simp [k, upx k]
          · simp [k]
        · show D.find j nm = D2.find j nm
          rw [find2]
          simp [Ne.symm htx, Ne.symm hdx]
        · show D.cnt j = D2.cnt j
          have := cnt2 j
          simpa [htx, hdx] using this.symm
      · rw [if_neg j1]
        by_cases j2 : j = t
        · rw [if_pos j2, at_row (D := D2) (r := rt) (by rw [hrow, j2]; exact hrt)]
          congr 1
          subst j2
          refine ino_ext hjk hjm hjd ?_ ?_ (fun nm => ?_) ?_
          · show jt.links = D2.lnk j
            rw [hjl]
            unfold Doc.lnk
            rw [num2]
          · show jt.up = (if rt.kind = 2 then D2.up j else 0)
            rw [hju, up2 j j1]
          · show (if nm = a then some x else jt.ents nm) = D2.find j nm
            rw [find2, hjf]
            by_cases g : nm = a
            · simp [g]
            · simp [g]
          · show (if (jt.ents a).isSome = true then jt.cnt else jt.cnt + 1) = D2.cnt j
            rw [hjf, if_neg hns, hfree]
            have := cnt2 j
            simp at this ⊢
            omega
        · rw [if_neg j2, hlv]
          show (if j = x then _ else if j = d then _ else D.tab.f j) = _
          rw [if_neg j1]
          by_cases j3 : j = d
          · rw [if_pos j3, at_row (D := D2) (r := rd) (by rw [hrow, j3]; exact hrd)]
            congr 1
            subst j3
            refine ino_ext rfl rfl rfl ?_ ?_ (fun nm => ?_) ?_
            · show D.lnk j = D2.lnk j
              unfold Doc.lnk
              rw [num2]
            · show (if rd.kind = 2 then D.up j else 0) = (if rd.kind = 2 then D2.up j else 0)
              rw [up2 j j1]
            · show (if nm = s then none else D.find j nm) = D2.find j nm
              rw [find2]
              simp [j2]
            · show (if (D.find j s).isSome = true then D.cnt j - 1 else D.cnt j) = D2.cnt j
              rw [hx]
              have := cnt2 j
              simp [Ne.symm j2] at this
              simp
              omega
          · rw [if_neg j3]
            cases hq : D.row j with
            | none => rw [at_none hq, at_none (D := D2) (by rw [hrow]; exact hq)]
            | some r =>
              rw [at_row hq, at_row (D := D2) (r := r) (by rw [hrow]; exact hq)]
              congr 1
              refine ino_ext rfl rfl rfl ?_ ?_ (fun nm => ?_) ?_
              · show D.lnk j = D2.lnk j
                unfold Doc.lnk
                rw [num2]
              · show (if r.kind = 2 then D.up j else 0) = (if r.kind = 2 then D2.up j else 0)
                rw [up2 j j1]
              · show D.find j nm = D2.find j nm
                rw [find2]
                simp [j2, j3]
              · show D.cnt j = D2.cnt j
                have := cnt2 j
                simpa [Ne.symm j2, Ne.symm j3] using this.symm
    · rw [hlv]; show D.inodes = D2.inodes; unfold Doc.inodes; rw [hL2]
    · rw [hlv]; show D.L.length = D2.L.length; rw [hL2]
    · rw [hlv]; show D.bytes = D2.bytes; unfold Doc.bytes; rw [hL2]
    · rw [hlv, hD2]; rfl
    · rw [hlv, hD2]; rfl
  · have hmem : ∀ e ∈ D1.E, e ∈ D.E ∧ isKey d s e = false := fun e he => by rw [hE] at he; exact mem_out he
    have hL := lies_doc I F hn
    refine ⟨?_, ?_, fun e he => ?_, fun e he => ?_, fun e he => ?_, fun j r hr h1 => ?_, by rw [hL2]; exact I.gone, by rw [hL2]; exact I.kind, fun e he r hr k2 => ?_, ?_, by rw [hD2]; exact I.q⟩
    · obtain ⟨r, hr, k2⟩ := I.root
      exact ⟨r, by rw [hrow]; exact hr, k2⟩
    · rw [hE2, List.pairwise_append]
      refine ⟨by rw [hE]; exact I.key.filter _, by simp, fun b hb c hc => ?_⟩
      obtain rfl := List.mem_singleton.mp hc
      rw [isKey_symm]
      exact hnok b (hmem b hb).1
    · rw [hrow]
      rw [hE2] at he
      rcases List.mem_append.mp he with he | he
      · exact I.dir e (hmem e he).1
      · obtain rfl := List.mem_singleton.mp he
        exact ⟨rt, hrt, hrt2⟩
    · rw [hrow]
      rw [hE2] at he
      rcases List.mem_append.mp he with he | he
      · exact I.ino e (hmem e he).1
      · obtain rfl := List.mem_singleton.mp he
        exact ⟨hx1, rx, hrx⟩
    · rw [hE2] at he
      rcases List.mem_append.mp he with he | he
      · exact I.name e (hmem e he).1
      · obtain rfl := List.mem_singleton.mp he
        exact ⟨n1, n2⟩
    · rw [num2]
      rw [hrow] at hr
      exact I.one j r hr h1
    · rw [hrow] at hr
      rw [hE2] at he
      rcases List.mem_append.mp he with he | he
      · obtain ⟨hm, hk⟩ := hmem e he
        have hd := I.deep e hm r hr k2
        obtain ⟨e1, _⟩ := I.ino e hm
        have hone := (I.one e.x r hr e1).2 (by omega)
        have exx : e.x ≠ x := fun q => by
          have hb : D1.num x = 0 := by
            have := hnum x
            rw [q] at hone
            simp at this
            omega
          have := List.countP_eq_zero.mp hb e he
          exact this (isX_iff.mpr q)
        have hu : D.up e.x = e.d := up_one hone hm rfl
        have hab := above_up hL x e.x (isDir_row.mpr ⟨r, hr, k2⟩) e1 exx (D.mk' e.x r) (at_row hr) (by
          show isDirT D.tab (if r.kind = 2 then D.up e.x else 0) = true
          rw [if_pos k2, hu]
          exact isDir_row.mpr (I.dir e hm)) (by
          show dp (if r.kind = 2 then D.up e.x else 0) < dp e.x
          rw [if_pos k2, hu]
          exact hd)
        have hu2 : (D.mk' e.x r).up = e.d := by
          show (if r.kind = 2 then D.up e.x else 0) = _
          rw [if_pos k2, hu]
        rw [hu2] at hab
        simp only [hab]
        split <;> omega
      · obtain rfl := List.mem_singleton.mp he
        have hh := above_here D.tab x dp
        simp only [q5, if_true, hh]
        simp
        omega
    · have e1 : D2.qi = D.qi := by rw [hD2]; rfl
      have e2 : D2.qb = D.qb := by rw [hD2]; rfl
      rw [e1, e2]
      have := I.room
      unfold Doc.inodes Doc.bytes at this ⊢
      rw [hL2]
      exact this
end Go.Proofs.Ytgifdmfnecombaa
