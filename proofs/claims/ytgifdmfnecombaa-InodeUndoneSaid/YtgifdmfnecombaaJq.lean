/- Acts by small numbers: what they keep. -/
import Derived.Test.YtgifdmfnecombaaJm
namespace Go.Proofs.Ytgifdmfnecombaa
open Go.RowKit
set_option maxRecDepth 100000
/-- names of one byte, little data -/
structure Sml (D : Doc) : Prop where
  e : ∀ e ∈ D.E, e.nm.length = 1
  l : ∀ r ∈ D.L, r.data.length ≤ 19
/-- what an act leaves -/
structure Acted (D D' : Doc) (r : Int) : Prop where
  s : Sml D'
  qi : D'.qi = D.qi
  qb : D'.qb = D.qb
  l : D'.L.length ≤ D.L.length + 1
  z : r ≠ 0 → D' = D
theorem Acted.same {D : Doc} (h : Sml D) (r : Int) : Acted D D r := ⟨h, rfl, rfl, Nat.le_succ _, fun _ => rfl⟩
theorem acted_make {D : Doc} (h : Sml D) (d : Int) (s : List UInt8) (hs : s.length = 1) (k m : Int) (dt : List UInt8) (hd : dt.length ≤ 19) : Acted D (D.made d s k m dt) (makeE D.tab d s k m dt) := by
  unfold Doc.made
  by_cases q : makeE D.tab d s k m dt = 0
  · rw [if_pos q]
    refine ⟨⟨fun e he => ?_, fun r hr => ?_⟩, rfl, rfl, by show (D.L ++ [_]).length ≤ _; simp, fun h => absurd q h⟩
    · rcases List.mem_append.mp (show e ∈ D.E ++ [_] from he) with he | he
      · exact h.e e he
      · obtain rfl := List.mem_singleton.mp he; exact hs
    · rcases List.mem_append.mp (show r ∈ D.L ++ [_] from hr) with hr | hr
      · exact h.l r hr
      · obtain rfl := List.mem_singleton.mp hr; exact hd
  · rw [if_neg q]; exact Acted.same h _
theorem acted_link {D : Doc} (h : Sml D) (d : Int) (s : List UInt8) (hs : s.length = 1) (x : Int) : Acted D (D.linked d s x) (linkE D.tab d s x) := by
  unfold Doc.linked
  by_cases q : linkE D.tab d s x = 0
  · rw [if_pos q]
    refine ⟨⟨fun e he => ?_, h.l⟩, rfl, rfl, Nat.le_succ _, fun h => absurd q h⟩
    rcases List.mem_append.mp (show e ∈ D.E ++ [_] from he) with he | he
    · exact h.e e he
    · obtain rfl := List.mem_singleton.mp he; exact hs
  · rw [if_neg q]; exact Acted.same h _
theorem acted_unlink {D : Doc} (h : Sml D) (d : Int) (s : List UInt8) : Acted D (D.unlinked d s) (unlinkE D.tab d s) := by
  unfold Doc.unlinked
  by_cases q : unlinkE D.tab d s = 0
  · rw [if_pos q]
    cases D.find d s with
    | none => exact Acted.same h _
    | some x =>
      refine ⟨⟨fun e he => h.e e (mem_out he).1, fun r hr => ?_⟩, rfl, rfl, ?_, fun h => absurd q h⟩
      · have hr : r ∈ (if (outE D.E d s).countP (isX x) = 0 then D.L.set (x - 1).toNat ⟨0, 0, []⟩ else D.L) := hr
        split at hr
        · rcases List.mem_or_eq_of_mem_set hr with hr | rfl
          · exact h.l r hr
          · exact Nat.zero_le _
        · exact h.l r hr
      · show (if _ then D.L.set _ _ else D.L).length ≤ _
        split <;> simp
  · rw [if_neg q]; exact Acted.same h _
theorem acted_write {D : Doc} (h : Sml D) (x : Int) (dt : List UInt8) (hd : dt.length ≤ 19) : Acted D (D.written x dt) (writeE D.tab x dt) := by
  unfold Doc.written
  by_cases q : writeE D.tab x dt = 0
  · rw [if_pos q]
    unfold Doc.write
    cases D.row x with
    | none => exact Acted.same h _
    | some r0 =>
      refine ⟨⟨h.e, fun r hr => ?_⟩, rfl, rfl, by rw [put_len]; exact Nat.le_succ _, fun h => absurd q h⟩
      rcases List.mem_or_eq_of_mem_set (show r ∈ D.L.set _ _ from hr) with hr | rfl
      · exact h.l r hr
      · exact hd
  · rw [if_neg q]; exact Acted.same h _
theorem acted_move {D : Doc} (h : Sml D) (dp : Int → Nat) (d : Int) (s : List UInt8) (t : Int) (a : List UInt8) (ha : a.length = 1) : Acted D (D.moved dp d s t a) (moveR D.tab dp d s t a) := by
  unfold Doc.moved moveR
  by_cases q1 : moveE D.tab d s t a = 0
  · by_cases q2 : t = d ∧ a = s
    · simp only [q1, q2]
      simp
      exact Acted.same h _
    · by_cases q3 : moveF D.tab dp d s t a = 0
      · simp only [q1, q3, ne_eq, not_true_eq_false, if_false, if_neg q2]
        cases D.find d s with
        | none => exact Acted.same h _
        | some x =>
          refine ⟨⟨fun e he => ?_, h.l⟩, rfl, rfl, Nat.le_succ _, fun h => absurd rfl h⟩
          rcases List.mem_append.mp (show e ∈ outE D.E d s ++ [_] from he) with he | he
          · exact h.e e (mem_out he).1
          · obtain rfl := List.mem_singleton.mp he; exact ha
      · rw [if_neg (by simpa using q1), if_neg q2, if_pos q3]
        exact Acted.same h _
  · rw [if_pos q1]; exact Acted.same h _
end Go.Proofs.Ytgifdmfnecombaa
