/- The two maps of a table, as functions: map[int]*inode and map[string]int. -/
import Derived.Test.YtgifdmfnecombaaDa
import Derived.Test.YtgifdmfnecombaaProg
import Derived.Maps.Own
import Derived.Maps.OwnSet
import Derived.StringKeys
namespace Go.Proofs.Ytgifdmfnecombaa
open Go.RowKit Go.Maps Go.WideElems Go.ChangeMaps
set_option maxRecDepth 100000
/-- a pointer read as the number of its block -/
def ptrR (v : Value) : Option (DataW Unit × List MemPlace) := match v with
  | .pointer none => some (.lit (.bool false), [])
  | .pointer (some ⟨b, 0, none⟩) => some (.lit (.int .i64 (b : Int)), [])
  | _ => none
def rdP (o : Option Nat) (z : DataW Unit) : DataW Unit := match o with
  | none => z
  | some x => .lit (.int .i64 (x : Int))
def ptrV (o : Option Nat) : Value := match o with
  | none => .pointer none
  | some x => .pointer (some ⟨x, 0, none⟩)
theorem ptrR_inv {v : Value} {o : Option Nat} {ps : List MemPlace} (h : ptrR v = some (rdP o (.lit (.bool false)), ps)) : v = ptrV o := by
  unfold ptrR at h
  split at h
  · cases o with
    | none => rfl
    | some x => simp [rdP] at h
  · cases o with
    | none => simp [rdP] at h
    | some x =>
      simp only [rdP, Option.some.injEq, Prod.mk.injEq, DataW.lit.injEq, Lit.int.injEq, true_and] at h
      rename_i b
      have : b = x := by omega
      subst this
      rfl
  · cases h
/-- block b is a map of numbers to inodes' blocks that holds just these -/
def IMap (w : World) (b n : Nat) (f : Int → Option Nat) (s : Nat) : Prop :=
  ∃ D : DataW Unit, w.ownsMap Try.prog 3 ptrR b n D ∧ Maps.size D = s ∧ ∀ k : Int, Maps.has D (.int .i64 k) = (f k).isSome ∧ ∀ z, D.atKey (.int .i64 k) z = rdP (f k) z
theorem keyed3 : Keyed Try.prog 3 := int_keyed Try.underlying3
theorem zero_ptr (w : World) : (zeroValue 64).run Try.prog w = .ok (.pointer none) w := by kernel_rfl
theorem IMap.made (w : World) : IMap (w.alloc (.map #[] 0)) w.heap.size 0 (fun _ => none) 0 :=
  ⟨.map [], World.ownsMap_made w _ _ _, rfl, fun k => ⟨rfl, fun z => rfl⟩⟩
theorem IMap.lt {w : World} {b n s : Nat} {f : Int → Option Nat} (h : IMap w b n f s) : b < w.heap.size := by
  obtain ⟨D, h1, _⟩ := h
  exact h1.lt
theorem IMap.keep {w w' : World} {b n s : Nat} {f : Int → Option Nat} (h : IMap w b n f s) (hk : w'.heap[b]? = w.heap[b]?) : IMap w' b n f s := by
  obtain ⟨D, ⟨es, clock, hb, F, hs, hD⟩, h2, h3⟩ := h
  exact ⟨D, ⟨es, clock, by rw [hk]; exact hb, F, hs, hD⟩, h2, h3⟩
theorem IMap.look {w : World} {b n s : Nat} {f : Int → Option Nat} (h : IMap w b n f s) (k : Int) (hw : (Lit.int .i64 k).wf = true) :
    (Instr.lookup 57 (.map (some b)) (.int .i64 k) true).run Try.prog w = .ok (.tuple #[ptrV (f k), .bool (f k).isSome]) w := by
  obtain ⟨D, h1, _, h3⟩ := h
  obtain ⟨v, ps, hrun, hR⟩ := h1.look_ok keyed3 Try.underlying57 (zero_ptr w) (zd := .lit (.bool false)) (zp := []) rfl (keyOf_int_mk Try.underlying3 hw)
  rw [(h3 k).2] at hR
  rw [hrun, (h3 k).1, ptrR_inv hR]
theorem IMap.len {w : World} {b n s : Nat} {f : Int → Option Nat} (h : IMap w b n f s) (ty : TypeId) : (Builtin.len_ #[57] ty #[.map (some b)]).run Try.prog w = .ok (.int .i64 (s : Int)) w := by
  obtain ⟨D, h1, h2, _⟩ := h
  rw [h1.len Try.underlying57 ty, h2]
theorem IMap.put {w : World} {b n s : Nat} {f : Int → Option Nat} (h : IMap w b n f s) (k : Int) (hw : (Lit.int .i64 k).wf = true) (x : Nat) (hn : n < maxLen) :
    ∃ w', (Instr.mapUpdate 57 (.map (some b)) (.int .i64 k) (.pointer (some ⟨x, 0, none⟩))).run Try.prog w = .ok () w' ∧ IMap w' b (n + 1) (fun j => if j = k then some x else f j) (if (f k).isSome then s else s + 1) ∧ w.mapTurned w' b := by
  obtain ⟨D, h1, h2, h3⟩ := h
  obtain ⟨w', hrun, ho, ht⟩ := h1.store keyed3 Try.underlying57 hn (keyOf_int_mk Try.underlying3 hw) (val := .pointer (some ⟨x, 0, none⟩)) (d := .lit (.int .i64 (x : Int))) (ps := []) rfl
  have hT := h1.tidy keyed3
  refine ⟨w', hrun, ⟨_, ho, ?_, fun j => ?_⟩, ht⟩
  · rw [Maps.size_put hT, (h3 k).1, h2]
  · by_cases e : j = k
    · subst e
      simp only [if_true]
      exact ⟨Maps.has_put_same hT.isMap (show WideAt.IsKeyLit (.int .i64 j) from trivial) _, fun z => Maps.atKey_put_same hT.isMap (show WideAt.IsKeyLit (.int .i64 j) from trivial) _ z⟩
    · simp only [if_neg e]
      have hne : (Lit.int .i64 j) ≠ .int .i64 k := fun h => e (by cases h; rfl)
      exact ⟨by rw [Maps.has_put_other hne]; exact (h3 j).1, fun z => by rw [Maps.atKey_put_other hne]; exact (h3 j).2 z⟩
theorem IMap.del {w : World} {b n s : Nat} {f : Int → Option Nat} (h : IMap w b n f s) (k : Int) (hw : (Lit.int .i64 k).wf = true) (ty : TypeId) :
    ∃ w', (Builtin.delete_ #[57, 3] ty #[.map (some b), .int .i64 k]).run Try.prog w = .ok (.tuple #[]) w' ∧ IMap w' b n (fun j => if j = k then none else f j) (if (f k).isSome then s - 1 else s) ∧ w.mapTurned w' b := by
  obtain ⟨D, h1, h2, h3⟩ := h
  obtain ⟨w', hrun, ho, ht⟩ := h1.drop keyed3 Try.underlying57 (keyOf_int_mk Try.underlying3 hw) ty
  have hT := h1.tidy keyed3
  have hs := Maps.size_del (k := .int .i64 k) hT
  refine ⟨w', hrun, ⟨_, ho, ?_, fun j => ?_⟩, ht⟩
  · rw [(h3 k).1] at hs
    split <;> simp_all <;> omega
  · by_cases e : j = k
    · subst e
      simp only [if_true]
      exact ⟨Maps.has_del_same, fun z => Maps.atKey_del_same z⟩
    · simp only [if_neg e]
      have hne : (Lit.int .i64 j) ≠ .int .i64 k := fun h => e (by cases h; rfl)
      exact ⟨by rw [Maps.has_del_other hne]; exact (h3 j).1, fun z => by rw [Maps.atKey_del_other hne]; exact (h3 j).2 z⟩
/-- names to numbers -/
def rdI (o : Option Int) (z : DataW Unit) : DataW Unit := match o with
  | none => z
  | some x => .lit (.int .i64 x)
def SMap (w : World) (b n : Nat) (f : List UInt8 → Option Int) (s : Nat) : Prop :=
  ∃ D : DataW Unit, w.ownsMap Try.prog 9 (plainElem Try.prog 3) b n D ∧ Maps.size D = s ∧ ∀ k : List UInt8, Maps.has D (.string k) = (f k).isSome ∧ ∀ z, D.atKey (.string k) z = rdI (f k) z
theorem keyed9 : Keyed Try.prog 9 := string_keyed Try.underlying9
theorem zero_int3 (w : World) : (zeroValue 3).run Try.prog w = .ok (.int .i64 0) w := by kernel_rfl
theorem key9 {k : List UInt8} (hk : k.length ≤ maxLen) : keyOf Try.prog 9 (.string (bs k)) = some (.string k) := by
  have := Go.WideMaps.keyOf_string_mk (P := Try.prog) (k := 9) Try.underlying9 (s := bs k) (by rw [bs_size]; exact hk)
  rw [this]
  simp [bs]
theorem SMap.made (w : World) : SMap (w.alloc (.map #[] 0)) w.heap.size 0 (fun _ => none) 0 :=
  ⟨.map [], World.ownsMap_made w _ _ _, rfl, fun k => ⟨rfl, fun z => rfl⟩⟩
theorem SMap.lt {w : World} {b n s : Nat} {f : List UInt8 → Option Int} (h : SMap w b n f s) : b < w.heap.size := by
  obtain ⟨D, h1, _⟩ := h
  exact h1.lt
theorem SMap.keep {w w' : World} {b n s : Nat} {f : List UInt8 → Option Int} (h : SMap w b n f s) (hk : w'.heap[b]? = w.heap[b]?) : SMap w' b n f s := by
  obtain ⟨D, ⟨es, clock, hb, F, hs, hD⟩, h2, h3⟩ := h
  exact ⟨D, ⟨es, clock, by rw [hk]; exact hb, F, hs, hD⟩, h2, h3⟩
theorem SMap.look {w : World} {b n s : Nat} {f : List UInt8 → Option Int} (h : SMap w b n f s) (k : List UInt8) (hk : k.length ≤ maxLen) :
    (Instr.lookup 61 (.map (some b)) (.string (bs k)) true).run Try.prog w = .ok (.tuple #[.int .i64 ((f k).getD 0), .bool (f k).isSome]) w := by
  obtain ⟨D, h1, _, h3⟩ := h
  obtain ⟨v, ps, hrun, hR⟩ := h1.look_ok keyed9 Try.underlying61 (zero_int3 w) (zd := .lit (.int .i64 0)) (zp := []) (plainElem_int Try.underlying3 (by decide)) (key9 hk)
  rw [(h3 k).2] at hR
  obtain ⟨a, rfl, hz, _⟩ := plainElem_int_inv Try.underlying3 hR
  have ha : a = (f k).getD 0 := by
    have h := congrArg Prod.fst hz
    cases hq : f k with
    | none => rw [hq] at h; simp [rdI] at h; simp [h]
    | some x => rw [hq] at h; simp [rdI] at h; simp [h]
  rw [hrun, (h3 k).1, ha]
theorem SMap.len {w : World} {b n s : Nat} {f : List UInt8 → Option Int} (h : SMap w b n f s) (ty : TypeId) : (Builtin.len_ #[61] ty #[.map (some b)]).run Try.prog w = .ok (.int .i64 (s : Int)) w := by
  obtain ⟨D, h1, h2, _⟩ := h
  rw [h1.len Try.underlying61 ty, h2]
theorem SMap.put {w : World} {b n s : Nat} {f : List UInt8 → Option Int} (h : SMap w b n f s) (k : List UInt8) (hk : k.length ≤ maxLen) (x : Int) (hx : (Lit.int .i64 x).wf = true) (hn : n < maxLen) :
    ∃ w', (Instr.mapUpdate 61 (.map (some b)) (.string (bs k)) (.int .i64 x)).run Try.prog w = .ok () w' ∧ SMap w' b (n + 1) (fun j => if j = k then some x else f j) (if (f k).isSome then s else s + 1) ∧ w.mapTurned w' b := by
  obtain ⟨D, h1, h2, h3⟩ := h
  obtain ⟨w', hrun, ho, ht⟩ := h1.store keyed9 Try.underlying61 hn (key9 hk) (val := .int .i64 x) (d := .lit (.int .i64 x)) (ps := []) (plainElem_int Try.underlying3 hx)
  have hT := h1.tidy keyed9
  refine ⟨w', hrun, ⟨_, ho, ?_, fun j => ?_⟩, ht⟩
  · rw [Maps.size_put hT, (h3 k).1, h2]
  · by_cases e : j = k
    · subst e
      simp only [if_true]
      exact ⟨Maps.has_put_same hT.isMap (show WideAt.IsKeyLit (.string j) from trivial) _, fun z => Maps.atKey_put_same hT.isMap (show WideAt.IsKeyLit (.string j) from trivial) _ z⟩
    · simp only [if_neg e]
      have hne : (Lit.string j) ≠ .string k := fun h => e (by cases h; rfl)
      exact ⟨by rw [Maps.has_put_other hne]; exact (h3 j).1, fun z => by rw [Maps.atKey_put_other hne]; exact (h3 j).2 z⟩
theorem SMap.del {w : World} {b n s : Nat} {f : List UInt8 → Option Int} (h : SMap w b n f s) (k : List UInt8) (hk : k.length ≤ maxLen) (ty : TypeId) :
    ∃ w', (Builtin.delete_ #[61, 9] ty #[.map (some b), .string (bs k)]).run Try.prog w = .ok (.tuple #[]) w' ∧ SMap w' b n (fun j => if j = k then none else f j) (if (f k).isSome then s - 1 else s) ∧ w.mapTurned w' b := by
  obtain ⟨D, h1, h2, h3⟩ := h
  obtain ⟨w', hrun, ho, ht⟩ := h1.drop keyed9 Try.underlying61 (key9 hk) ty
  have hT := h1.tidy keyed9
  have hs := Maps.size_del (k := .string k) hT
  refine ⟨w', hrun, ⟨_, ho, ?_, fun j => ?_⟩, ht⟩
  · rw [(h3 k).1] at hs
    split <;> simp_all <;> omega
  · by_cases e : j = k
    · subst e
      simp only [if_true]
      exact ⟨Maps.has_del_same, fun z => Maps.atKey_del_same z⟩
    · simp only [if_neg e]
      have hne : (Lit.string j) ≠ .string k := fun h => e (by cases h; rfl)
      exact ⟨by rw [Maps.has_del_other hne]; exact (h3 j).1, fun z => by rw [Maps.atKey_del_other hne]; exact (h3 j).2 z⟩
theorem IMap.get {w : World} {b n s : Nat} {f : Int → Option Nat} (h : IMap w b n f s) (k : Int) (hw : (Lit.int .i64 k).wf = true) :
    (Instr.lookup 57 (.map (some b)) (.int .i64 k) false).run Try.prog w = .ok (ptrV (f k)) w := by
  obtain ⟨D, h1, _, h3⟩ := h
  obtain ⟨v, ps, hrun, hR⟩ := h1.lookup keyed3 Try.underlying57 (zero_ptr w) (zd := .lit (.bool false)) (zp := []) rfl (keyOf_int_mk Try.underlying3 hw)
  rw [(h3 k).2] at hR
  rw [hrun, ptrR_inv hR]
theorem SMap.get {w : World} {b n s : Nat} {f : List UInt8 → Option Int} (h : SMap w b n f s) (k : List UInt8) (hk : k.length ≤ maxLen) :
    (Instr.lookup 61 (.map (some b)) (.string (bs k)) false).run Try.prog w = .ok (.int .i64 ((f k).getD 0)) w := by
  obtain ⟨D, h1, _, h3⟩ := h
  obtain ⟨c, hrun, hat, _⟩ := h1.lookup_int keyed9 Try.underlying61 Try.underlying3 (zero_int3 w) (key9 hk)
  rw [(h3 k).2] at hat
  have hc : c = (f k).getD 0 := by
    cases hq : f k with
    | none => rw [hq] at hat; simp [rdI] at hat; simp [hat]
    | some x => rw [hq] at hat; simp [rdI] at hat; simp [hat]
  rw [hrun, hc]
end Go.Proofs.Ytgifdmfnecombaa
