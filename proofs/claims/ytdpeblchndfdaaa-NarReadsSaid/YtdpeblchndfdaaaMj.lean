/- A reader's text, file, link; what is read, as a function. -/
import Derived.Test.YtdpeblchndfdaaaMi
namespace Go.Proofs.Ytdpeblchndfdaaa
open Go.RowKit Go.Maps Go.ChangeMaps Go.MapKept
set_option maxRecDepth 100000
set_option maxHeartbeats 1000000 in
theorem rtext_some (b rb mb lvl : Nat) (l t r : List UInt8) (w : World) (h : RAt w b rb mb l lvl) (hl : l.length ≤ 1000000) (hc : Plain.cutT l = some (t, r)) :
    Calls Try.prog 31 #[.pointer (some ⟨b, 0, none⟩)] w fun e w' => e = .returned (.string (bs t)) ∧ RAt w' b rb mb r lvl ∧ Touch [b, rb] w w' := by
  have H := Lib.hid h
  obtain ⟨c0, hR⟩ := h.rd
  have hrn : rtext l false = (t, r, false) := by unfold rtext; simp [hc]
  clear h
  go_enter Try.func31, Try.ntmps31
  go_wp2_with fail
  refine (text_any rb l false w hR (by omega)).mono ?_
  rintro e w1 ⟨rfl, h1, ho⟩
  rw [hrn] at h1 ⊢
  have h2 := H.out.left ho h1
  have H2 := Lib.hid h2
  have HT := Lib.hid (touch_only (b := b) ho)
  obtain ⟨c1, hR1⟩ := h2.rd
  clear h1 h2 ho hrn c0 hR
  go_wp2_with fail
  refine (ok_any rb (bs r) false w1 hR1).mono ?_
  rintro e w2 ⟨rfl, rfl⟩
  go_wp2_with fail
  refine (must_ok w2).mono ?_
  rintro e w3 ⟨rfl, rfl⟩
  go_wp2_with fail
  go_ret
  exact ⟨rfl, H2.out, HT.out⟩
set_option maxHeartbeats 1000000 in
theorem rtext_none (b rb mb lvl : Nat) (l : List UInt8) (w : World) (h : RAt w b rb mb l lvl) (hl : l.length ≤ 1000000) (hc : Plain.cutT l = none) :
    Calls Try.prog 31 #[.pointer (some ⟨b, 0, none⟩)] w fun e w' => e = .panicked amiss ∧ Touch [b, rb] w w' := by
  have H := Lib.hid h
  obtain ⟨c0, hR⟩ := h.rd
  have hrn : rtext l false = ([], [], true) := by unfold rtext; simp [hc]
  clear h
  go_enter Try.func31, Try.ntmps31
  go_wp2_with fail
  refine (text_any rb l false w hR (by omega)).mono ?_
  rintro e w1 ⟨rfl, h1, ho⟩
  rw [hrn] at h1 ⊢
  have HT := Lib.hid (touch_only (b := b) ho)
  have c1 : w1.cell? ⟨b, 0, none⟩ = some (.pointer (some ⟨rb, 0, none⟩)) := by
    obtain ⟨hne, n, hA, _⟩ := H.out
    exact (hA.only ho hne).cell 0 _ rfl
  clear ho hrn c0 hR
  go_wp2_with fail
  refine (ok_any rb (bs []) true w1 h1).mono ?_
  rintro e w2 ⟨rfl, rfl⟩
  go_wp2_with fail
  refine (must_no w2).mono ?_
  rintro e w3 ⟨rfl, rfl⟩
  go_wp2_with fail
  exact ⟨rfl, rfl, HT.out⟩

/-- what a file, a link, kids, a node of so many levels are read to -/
def readFile (l : List UInt8) : Option (Nd × List UInt8) :=
  match Plain.cut l with
  | none => none
  | some (x, r) => if x = 1 ∨ x = 0 then match Plain.cutT r with | none => none | some (t, r2) => some (⟨[], 1, decide (x = 1), t, []⟩, r2) else none
def readLink (l : List UInt8) : Option (Nd × List UInt8) :=
  match Plain.cutT l with
  | none => none
  | some (t, r) => some (⟨[], 3, false, t, []⟩, r)
def Nd.named (m : Nd) (t : List UInt8) : Nd := ⟨t, m.kind, m.exec, m.data, m.kids⟩
def readK (f : List UInt8 → Option (Nd × List UInt8)) : Nat → List UInt8 → Option (List Nd × List UInt8)
  | 0, l => some ([], l)
  | c + 1, l =>
    match Plain.cutT l with
    | none => none
    | some (t, r) =>
      match f r with
      | none => none
      | some (m, r2) => (readK f c r2).map fun x => (m.named t :: x.1, x.2)
def readDir (f : List UInt8 → Option (Nd × List UInt8)) (l : List UInt8) : Option (Nd × List UInt8) :=
  match Plain.cut l with
  | none => none
  | some (c, r) => (readK f c r).map fun x => (⟨[], 2, false, [], x.1⟩, x.2)
def readN : Nat → List UInt8 → Option (Nd × List UInt8)
  | 0, _ => none
  | k + 1, l =>
    match Plain.cut l with
    | none => none
    | some (n, r) => if n = 1 then readFile r else if n = 2 then readDir (readN k) r else if n = 3 then readLink r else none
theorem cut_lt {l : List UInt8} {n : Nat} {r : List UInt8} (h : Plain.cut l = some (n, r)) : r.length < l.length := by
  have := (Plain.cut_back h).1
  have h2 := Plain.row_length_pos n
  rw [this, List.length_append]
  omega
theorem cutT_lt {l t r : List UInt8} (h : Plain.cutT l = some (t, r)) : r.length < l.length ∧ t.length < l.length := by
  unfold Plain.cutT at h
  cases hc : Plain.cut l with
  | none => simp [hc] at h
  | some x =>
    obtain ⟨n, q⟩ := x
    have := cut_lt hc
    simp only [hc] at h
    split at h
    · cases h
    · simp only [Option.some.injEq, Prod.mk.injEq] at h
      obtain ⟨rfl, rfl⟩ := h
      simp only [List.length_take, List.length_drop]
      omega
/-- what is left is no more -/
def Less (f : List UInt8 → Option (Nd × List UInt8)) : Prop := ∀ l n r, f l = some (n, r) → r.length ≤ l.length
theorem readFile_less : Less readFile := by
  intro l n r h
  unfold readFile at h
  cases hc : Plain.cut l with
  | none => simp [hc] at h
  | some x =>
    obtain ⟨x, q⟩ := x
    have h1 := cut_lt hc
    simp only [hc] at h
    split at h
    · cases ht : Plain.cutT q with
      | none => simp [ht] at h
      | some y =>
        obtain ⟨t, r2⟩ := y
        have h2 := cutT_lt ht
        simp only [ht, Option.some.injEq, Prod.mk.injEq] at h
        rw [← h.2]
        omega
    · cases h
theorem readLink_less : Less readLink := by
  intro l n r h
  unfold readLink at h
  cases ht : Plain.cutT l with
  | none => simp [ht] at h
  | some y =>
    obtain ⟨t, r2⟩ := y
    have h2 := cutT_lt ht
    simp only [ht, Option.some.injEq, Prod.mk.injEq] at h
    rw [← h.2]
    omega
theorem readK_less {f : List UInt8 → Option (Nd × List UInt8)} (hf : Less f) : ∀ (c : Nat) (l : List UInt8) (ks : List Nd) (r : List UInt8), readK f c l = some (ks, r) → r.length + ks.length ≤ l.length ∧ ks.length = c
  | 0, l, ks, r, h => by
    simp only [readK, Option.some.injEq, Prod.mk.injEq] at h
    obtain ⟨rfl, rfl⟩ := h
    simp
  | c + 1, l, ks, r, h => by
    unfold readK at h
    cases ht : Plain.cutT l with
    | none => simp [ht] at h
    | some y =>
      obtain ⟨t, r1⟩ := y
      have h1 := cutT_lt ht
      simp only [ht] at h
      cases hn : f r1 with
      | none => simp [hn] at h
      | some z =>
        obtain ⟨m, r2⟩ := z
        have h2 := hf _ _ _ hn
        simp only [hn, Option.map_eq_some_iff, Prod.exists, Prod.mk.injEq] at h
        obtain ⟨ks', r', hk, rfl, rfl⟩ := h
        have := readK_less hf c r2 ks' r' hk
        simp only [List.length_cons]
        omega
theorem readN_less : ∀ k : Nat, Less (readN k)
  | 0 => by intro l n r h; simp [readN] at h
  | k + 1 => by
    intro l n r h
    unfold readN at h
    cases hc : Plain.cut l with
    | none => simp [hc] at h
    | some x =>
      obtain ⟨x, q⟩ := x
      have h1 := cut_lt hc
      simp only [hc] at h
      split at h
      · have := readFile_less _ _ _ h; omega
      · split at h
        · unfold readDir at h
          cases hc2 : Plain.cut q with
          | none => simp [hc2] at h
          | some y =>
            obtain ⟨c, q2⟩ := y
            have h2 := cut_lt hc2
            simp only [hc2, Option.map_eq_some_iff, Prod.exists, Prod.mk.injEq] at h
            obtain ⟨ks', r', hk, _, rfl⟩ := h
            have := readK_less (readN_less k) c q2 ks' r' hk
            omega
        · split at h
          · have := readLink_less _ _ _ h; omega
          · cases h
/-- how a node's reading ends -/
def NodeEnd (w w' : World) (b rb mb lvl h : Nat) (res : Option (Nd × List UInt8)) (e : Ending) : Prop :=
  Touch [b, rb] w w' ∧ match res with
  | none => e = .panicked amiss
  | some (n, r) => Made w w' h n e ∧ RAt w' b rb mb r lvl
theorem touch_new {ft ft2 : List Nat} {w u v : World} (h : Touch ft w u) (k : Touch ft2 u v) (hn : ∀ i ∈ ft2, w.heap.size ≤ i ∨ i ∈ ft) : Touch ft w v :=
  ⟨k.os.trans h.os, k.tape.trans h.tape, k.output.trans h.output, Nat.le_trans h.size k.size, fun i hi hf => (k.block i (Nat.lt_of_lt_of_le hi h.size) (fun e => (hn i e).elim (fun h2 => by omega) hf)).trans (h.block i hi hf)⟩
theorem RAt.lt {w : World} {b rb mb : Nat} {l : List UInt8} {lvl : Nat} (h : RAt w b rb mb l lvl) : b < w.heap.size ∧ rb < w.heap.size := by
  obtain ⟨hne, n, hA, hR, hM⟩ := h
  exact ⟨hA.lt, At.lt hR⟩
theorem RAt.touch {w w' : World} {b rb mb : Nat} {l : List UInt8} {lvl : Nat} {ft : List Nat} (h : RAt w b rb mb l lvl) (t : Touch ft w w') (hf : ∀ i ∈ ft, ∃ l, At w i 24 l) : RAt w' b rb mb l lvl := by
  obtain ⟨hne, n, hA, hR, hM⟩ := h
  have no : ∀ {k : Nat} {T : TypeId} {c : List Value}, At w k T c → T ≠ 24 → k ∉ ft := fun hk hT e => by
    obtain ⟨l, hl⟩ := hf _ e
    unfold At at hk hl
    rw [hk] at hl
    simp only [Option.some.injEq, Obj.cells.injEq] at hl
    exact hT hl.2.1
  refine ⟨hne, n, hA.touch t (no hA (by decide)), At.touch hR t (no hR (by decide)), hM.keep (t.block mb hM.lt (fun e => ?_))⟩
  obtain ⟨l, hl⟩ := hf _ e
  exact hM.ne hl rfl
end Go.Proofs.Ytdpeblchndfdaaa
