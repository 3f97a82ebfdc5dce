/- The table as lists: new, link, write, chmod. -/
import Derived.Test.YtgifdmfnecombaaJb
namespace Go.Proofs.Ytgifdmfnecombaa
open Go.RowKit
set_option maxRecDepth 100000
def newD (qi qb : Nat) : Doc := ⟨[⟨2, 493, []⟩], [], qi, qb⟩
theorem new_doc {qi qb : Nat} (h1 : 1 ≤ qi) (h2 : qi ≤ 1048576) (h3 : qb ≤ 1073741824) : newT qi qb = (newD qi qb).tab ∧ (newD qi qb).Inv fun _ => 0 := by
  have hrow : ∀ k, (newD qi qb).row k = if k = 1 then some ⟨2, 493, []⟩ else none := fun k => by
    unfold Doc.row newD
    by_cases e : k = 1
    · subst e; rfl
    · rw [if_neg e]
      by_cases h : 1 ≤ k
      · rw [if_pos h, List.getElem?_eq_none (by simp; omega)]
      · rw [if_neg h]
  refine ⟨?_, ?_⟩
  · refine tab_ext (fun k => ?_) rfl rfl rfl rfl rfl
    show (if k = 1 then some rootI else if k = (0 : Nat) + 1 then _ else none) = _
    by_cases e : k = 1
    · subst e
      rw [if_pos rfl, at_row (D := newD qi qb) (r := ⟨2, 493, []⟩) (by rw [hrow, if_pos rfl])]
      rfl
    · rw [if_neg e, if_neg (by omega), at_none (D := newD qi qb) (by rw [hrow, if_neg e])]
  · refine ⟨⟨_, by rw [hrow, if_pos rfl], rfl⟩, .nil, (fun e he => by cases he), (fun e he => by cases he), (fun e he => by cases he), fun k r hr h => ?_, fun r hr => ?_, fun r hr => ?_, (fun e he => by cases he), ⟨h1, Nat.zero_le _⟩, h2, h3⟩
    · rw [hrow, if_neg h] at hr; cases hr
    · obtain rfl := List.mem_singleton.mp hr
      exact fun _ => rfl
    · obtain rfl := List.mem_singleton.mp hr
      exact ⟨.inr (.inr (.inl rfl)), fun _ => rfl⟩
def Doc.link (D : Doc) (d : Int) (s : List UInt8) (x : Int) : Doc := { D with E := D.E ++ [⟨d, s, x⟩] }
theorem linkE_parts {T : Tab} {d : Int} {s : List UInt8} {x : Int} (h : linkE T d s x = 0) : placeE T d s = 0 ∧ fileE T x = 0 ∧ freeE T d s = 0 := by
  unfold linkE at h
  by_cases q1 : placeE T d s = 0
  · by_cases q2 : fileE T x = 0
    · exact ⟨q1, q2, by simpa [q1, q2] using h⟩
    · simp [q1, q2] at h
  · simp [q1] at h
theorem fileE_row {D : Doc} {dp : Int → Nat} (I : D.Inv dp) {x : Int} (h : fileE D.tab x = 0) : ∃ r, D.row x = some r ∧ r.kind = 1 := by
  unfold fileE at h
  cases hq : D.row x with
  | none => rw [at_none hq] at h; cases h
  | some r =>
    rw [at_row hq] at h
    refine ⟨r, rfl, ?_⟩
    have h0 := (row_some hq).2.2.2
    have hk := (I.kind r (row_mem hq)).1
    change kindE (D.mk' x r) = 0 at h
    unfold kindE at h
    have e : (D.mk' x r).kind = r.kind := rfl
    rw [e] at h
    by_cases k2 : r.kind = 2
    · simp [k2] at h
    · by_cases k3 : r.kind = 3
      · simp [k3] at h
      · omega
theorem link_doc {D : Doc} {dp : Int → Nat} (I : D.Inv dp) {d : Int} {s : List UInt8} {x : Int} (h : linkE D.tab d s x = 0) : linkT D.tab d s x = (D.link d s x).tab ∧ (D.link d s x).Inv dp := by
  obtain ⟨q1, q2, q3⟩ := linkE_parts h
  obtain ⟨rd, hrd, hrd2⟩ := dirE_row (placeE_zero q1)
  obtain ⟨n1, n2⟩ := placeE_name q1
  obtain ⟨rx, hrx, hrx1⟩ := fileE_row I q2
  have hfree := freeE_find I q3
  have hnok := none_find I hfree
  have hdx : d ≠ x := by rintro rfl; rw [hrd] at hrx; cases hrx; omega
  have hx1 : x ≠ 1 := by rintro rfl; obtain ⟨r, hr, h2⟩ := I.root; rw [hrx] at hr; cases hr; omega
  have hE : (D.link d s x).E = D.E ++ [⟨d, s, x⟩] := rfl
  have hrow : ∀ j, (D.link d s x).row j = D.row j := fun j => row_same rfl j
  refine ⟨?_, ?_⟩
  · have hT : linkT D.tab d s x = (D.tab.setI d (entIn (D.mk' d rd) s x)).setI x ((D.mk' x rx).linked d) := by
      have ho : (D.tab.setI d (entIn (D.mk' d rd) s x)).f x = some (D.mk' x rx) := by
        show (if x = d then _ else D.tab.f x) = _
        rw [if_neg (Ne.symm hdx), at_row hrx]
      unfold linkT
      rw [h]
      unfold Tab.enter
      simp [at_row hrd, ho]
    rw [hT]
    refine tab_ext (fun j => ?_) rfl rfl rfl rfl rfl
    show (if j = x then _ else if j = d then _ else D.tab.f j) = _
    by_cases j1 : j = x
    · subst j1
      rw [if_pos rfl, at_row (D := D.link d s j) (r := rx) (by rw [hrow]; exact hrx)]
      congr 1
      refine ino_ext rfl rfl rfl ?_ ?_ (fun nm => ?_) ?_
      · show D.lnk j + 1 = (D.link d s j).lnk j
        unfold Doc.lnk
        rw [if_neg hx1, if_neg hx1, num_push hE]
        simp
      · show (if rx.kind = 2 then d else if rx.kind = 2 then D.up j else 0) = (if rx.kind = 2 then (D.link d s j).up j else 0)
        simp [hrx1]
      · show D.find j nm = (D.link d s j).find j nm
        rw [find_push hE]
        cases hq : D.find j nm with
        | some x => rfl
        | none => simp [isKey, hdx]
      · show D.cnt j = (D.link d s j).cnt j
        rw [cnt_push hE]
        simp [hdx]
    · rw [if_neg j1]
      by_cases j2 : j = d
      · subst j2
        rw [if_pos rfl, at_row (D := D.link j s x) (r := rd) (by rw [hrow]; exact hrd)]
        congr 1
        refine ino_ext rfl rfl rfl ?_ ?_ (fun nm => ?_) ?_
        · show D.lnk j = (D.link j s x).lnk j
          unfold Doc.lnk
          rw [num_push hE]
          simp [Ne.symm j1]
        · show (if rd.kind = 2 then D.up j else 0) = (if rd.kind = 2 then (D.link j s x).up j else 0)
          rw [up_push hE _ (Ne.symm j1)]
        · show (if nm = s then some x else D.find j nm) = (D.link j s x).find j nm
          rw [find_push hE]
          by_cases e : nm = s
          · subst e
            rw [hfree]
            simp [isKey]
          · rw [if_neg e]
            cases hq : D.find j nm with
            | some x => rfl
            | none => simp [isKey, Ne.symm e]
        · show (if (D.find j s).isSome = true then D.cnt j else D.cnt j + 1) = (D.link j s x).cnt j
          rw [hfree, cnt_push hE]
          simp
      · rw [if_neg j2]
        cases hq : D.row j with
        | none => rw [at_none hq, at_none (D := D.link d s x) (by rw [hrow]; exact hq)]
        | some r =>
          rw [at_row hq, at_row (D := D.link d s x) (r := r) (by rw [hrow]; exact hq)]
          congr 1
          refine ino_ext rfl rfl rfl ?_ ?_ (fun nm => ?_) ?_
          · show D.lnk j = (D.link d s x).lnk j
            unfold Doc.lnk
            rw [num_push hE]
            simp [Ne.symm j1]
          · show (if r.kind = 2 then D.up j else 0) = (if r.kind = 2 then (D.link d s x).up j else 0)
            rw [up_push hE _ (Ne.symm j1)]
          · show D.find j nm = (D.link d s x).find j nm
            rw [find_push hE]
            cases hq : D.find j nm with
            | some x => rfl
            | none => simp [isKey, Ne.symm j2]
          · show D.cnt j = (D.link d s x).cnt j
            rw [cnt_push hE]
            simp [Ne.symm j2]
  · refine ⟨?_, ?_, fun e he => ?_, fun e he => ?_, fun e he => ?_, fun j r hr h1 => ?_, I.gone, I.kind, fun e he r hr h2 => ?_, I.room, I.q⟩
    · obtain ⟨r, hr, h2⟩ := I.root
      exact ⟨r, by rw [hrow]; exact hr, h2⟩
    · rw [hE, List.pairwise_append]
      refine ⟨I.key, by simp, fun a ha b hb => ?_⟩
      obtain rfl := List.mem_singleton.mp hb
      rw [isKey_symm]
      exact hnok a ha
    · rw [hrow]
      rw [hE] at he
      rcases List.mem_append.mp he with he | he
      · exact I.dir e he
      · obtain rfl := List.mem_singleton.mp he
        exact ⟨rd, hrd, hrd2⟩
    · rw [hrow]
      rw [hE] at he
      rcases List.mem_append.mp he with he | he
      · exact I.ino e he
      · obtain rfl := List.mem_singleton.mp he
        exact ⟨hx1, rx, hrx⟩
    · rw [hE] at he
      rcases List.mem_append.mp he with he | he
      · exact I.name e he
      · obtain rfl := List.mem_singleton.mp he
        exact ⟨n1, n2⟩
    · rw [hrow] at hr
      rw [num_push hE]
      have := I.one j r hr h1
      by_cases e : x = j
      · subst e
        rw [hrx] at hr
        cases hr
        exact ⟨by omega, fun q => absurd hrx1 q⟩
      · simpa [e] using this
    · rw [hrow] at hr
      rw [hE] at he
      rcases List.mem_append.mp he with he | he
      · exact I.deep e he r hr h2
      · obtain rfl := List.mem_singleton.mp he
        rw [hrx] at hr
        cases hr
        omega
/-- another row under a number: of the same kind -/
def Doc.put (D : Doc) (x : Int) (r : Row) : Doc := { D with L := D.L.set (x - 1).toNat r }
theorem put_doc {D : Doc} {dp : Int → Nat} (I : D.Inv dp) {x : Int} {r r0 : Row} (h0 : D.row x = some r0) (hk : r.kind = r0.kind) (hd : r.kind = 2 → r.data = []) (hroom : D.bytes + r.data.length - r0.data.length ≤ D.qb) :
    (∀ B : Nat, B = D.bytes + r.data.length - r0.data.length → (D.tab.setB B).setI x { D.mk' x r0 with mode := r.mode, data := r.data } = (D.put x r).tab) ∧ (D.put x r).Inv dp := by
  obtain ⟨hx1, hx2, hget, hr0⟩ := row_some h0
  have hrow : ∀ j, (D.put x r).row j = if j = x then some r else D.row j := fun j => by
    rw [row_put h0 (D' := D.put x r) rfl j, if_neg (show ¬ r.kind = 0 by rw [hk]; exact hr0)]
  have hb := sizes_set (r := r) hget
  have hle := sizes_le (row_mem h0)
  have hsz : (D.put x r).bytes = D.bytes + r.data.length - r0.data.length := by
    unfold Doc.bytes Doc.put
    simp only
    omega
  have hin : (D.put x r).inodes = D.inodes := by
    have := isIn_set (r := r) hget
    unfold Doc.inodes Doc.put
    simp only
    have e : isIn r = isIn r0 := by unfold isIn; rw [hk]
    rw [e] at this
    omega
  refine ⟨fun B hB => tab_ext (fun j => ?_) hin.symm (by show D.L.length = (D.L.set _ _).length; simp) (by rw [hB]; exact hsz.symm) rfl rfl, ?_⟩
  · show (if j = x then _ else D.tab.f j) = _
    by_cases e : j = x
    · subst e
      rw [if_pos rfl, at_row (D := D.put j r) (r := r) (by rw [hrow, if_pos rfl])]
      congr 1
      refine ino_ext ?_ rfl rfl rfl ?_ (fun _ => rfl) rfl
      · exact hk.symm
      · show (if r0.kind = 2 then D.up j else 0) = (if r.kind = 2 then D.up j else 0)
        rw [hk]
    · rw [if_neg e]
      cases hq : D.row j with
      | none => rw [at_none hq, at_none (D := D.put x r) (by rw [hrow, if_neg e]; exact hq)]
      | some r' =>
        rw [at_row hq, at_row (D := D.put x r) (r := r') (by rw [hrow, if_neg e]; exact hq)]
        rfl
  · have hkeep : ∀ j q, D.row j = some q → ∃ q', (D.put x r).row j = some q' ∧ q'.kind = q.kind := fun j q hq => by
      by_cases e : j = x
      · subst e
        rw [h0] at hq
        cases hq
        exact ⟨r, by rw [hrow, if_pos rfl], hk⟩
      · exact ⟨q, by rw [hrow, if_neg e]; exact hq, rfl⟩
    have hback : ∀ j q, (D.put x r).row j = some q → ∃ q', D.row j = some q' ∧ q'.kind = q.kind := fun j q hq => by
      by_cases e : j = x
      · subst e
        rw [hrow, if_pos rfl] at hq
        cases hq
        exact ⟨r0, h0, hk.symm⟩
      · rw [hrow, if_neg e] at hq
        exact ⟨q, hq, rfl⟩
    refine ⟨?_, I.key, fun e he => ?_, fun e he => ?_, I.name, fun j q hq h1 => ?_, fun q hq => ?_, fun q hq => ?_, fun e he q hq h2 => ?_, ?_, I.q⟩
    · obtain ⟨q, hq, h2⟩ := I.root
      obtain ⟨q', hq', hk'⟩ := hkeep 1 q hq
      exact ⟨q', hq', hk'.trans h2⟩
    · obtain ⟨q, hq, h2⟩ := I.dir e he
      obtain ⟨q', hq', hk'⟩ := hkeep _ q hq
      exact ⟨q', hq', hk'.trans h2⟩
    · obtain ⟨h1, q, hq⟩ := I.ino e he
      obtain ⟨q', hq', _⟩ := hkeep _ q hq
      exact ⟨h1, q', hq'⟩
    · obtain ⟨q', hq', hk'⟩ := hback j q hq
      have := I.one j q' hq' h1
      rw [hk'] at this
      exact this
    · rcases List.mem_or_eq_of_mem_set hq with hq | rfl
      · exact I.gone q hq
      · intro h; rw [hk] at h; exact absurd h hr0
    · rcases List.mem_or_eq_of_mem_set hq with hq | rfl
      · exact I.kind q hq
      · exact ⟨by rw [hk]; exact (I.kind r0 (row_mem h0)).1, hd⟩
    · obtain ⟨q', hq', hk'⟩ := hback _ q hq
      exact I.deep e he q' hq' (hk'.trans h2)
    · rw [hin, hsz]
      exact ⟨I.room.1, hroom⟩
def Doc.write (D : Doc) (x : Int) (dt : List UInt8) : Doc := match D.row x with
  | some r => D.put x ⟨r.kind, r.mode, dt⟩
  | none => D
theorem write_doc {D : Doc} {dp : Int → Nat} (I : D.Inv dp) {x : Int} {dt : List UInt8} (h : writeE D.tab x dt = 0) : writeT D.tab x dt = (D.write x dt).tab ∧ (D.write x dt).Inv dp := by
  have h' := h
  unfold writeE at h
  have q1 : fileE D.tab x = 0 := by
    by_cases q : fileE D.tab x = 0
    · exact q
    · simp [q] at h
  obtain ⟨r, hr, hr1⟩ := fileE_row I q1
  rw [at_row hr] at h
  have q2 : writeR D.tab (D.mk' x r) dt = 0 := by simpa [q1] using h
  have hroom : D.bytes + dt.length - r.data.length ≤ D.qb := by
    unfold writeR room at q2
    have e1 : (D.mk' x r).data = r.data := rfl
    have e3 : D.tab.qb = D.qb := rfl
    have e4 : D.tab.bytes = D.bytes := rfl
    rw [e1, e3, e4] at q2
    by_cases g2 : (dt.length : Int) - (r.data.length : Int) ≤ (D.qb : Int) - (D.bytes : Int)
    · omega
    · simp [g2] at q2
  have hw : D.write x dt = D.put x ⟨r.kind, r.mode, dt⟩ := by unfold Doc.write; rw [hr]
  rw [hw]
  have hp := put_doc I hr (r := ⟨r.kind, r.mode, dt⟩) rfl (fun q => by simp [hr1] at q) hroom
  refine ⟨?_, hp.2⟩
  rw [← hp.1 _ rfl]
  unfold writeT
  rw [h', at_row hr]
  rfl
def Doc.chmod (D : Doc) (x m : Int) : Doc := match D.row x with
  | some r => D.put x ⟨r.kind, m, r.data⟩
  | none => D
theorem chmod_doc {D : Doc} {dp : Int → Nat} (I : D.Inv dp) {x m : Int} (h : chmodE D.tab x m = 0) : chmodT D.tab x m = (D.chmod x m).tab ∧ (D.chmod x m).Inv dp := by
  unfold chmodE at h
  have q1 : modeE m = 0 := by
    by_cases q : modeE m = 0
    · exact q
    · simp [q] at h
  cases hr : D.row x with
  | none => rw [q1, at_none hr] at h; simp at h
  | some r =>
    have hw : D.chmod x m = D.put x ⟨r.kind, m, r.data⟩ := by unfold Doc.chmod; rw [hr]
    rw [hw]
    have hle := sizes_le (row_mem hr)
    have hp := put_doc I hr (r := ⟨r.kind, m, r.data⟩) rfl (I.kind r (row_mem hr)).2 (by show D.bytes + r.data.length - r.data.length ≤ _; have := I.room.2; omega)
    refine ⟨?_, hp.2⟩
    rw [← hp.1 D.bytes (by show D.bytes = D.bytes + r.data.length - r.data.length; omega)]
    unfold chmodT
    rw [q1, at_row hr]
    rfl
end Go.Proofs.Ytgifdmfnecombaa
