/- Maps of method values, as functions: map[int]func(api.Node), map[uint64]func() api.Node. -/
import Derived.Test.YtdpeblchndfdaaaDa
import Derived.Test.YtdpeblchndfdaaaProg
import Derived.Maps.Own
import Derived.Maps.OwnSet
namespace Go.Proofs.Ytdpeblchndfdaaa
open Go.RowKit Go.Maps Go.WideElems Go.ChangeMaps
set_option maxRecDepth 100000
/-- a method of what lies in block b, or none -/
def fnV (b : Nat) (o : Option Nat) : Value := match o with
  | none => .nilFunc
  | some k => .func (.func k) #[.pointer (some ⟨b, 0, none⟩)] #[]
open Classical in
noncomputable def fnR (b : Nat) (v : Value) : Option (DataW Unit × List MemPlace) :=
  if h : ∃ k : Nat, v = fnV b (some k) then some (.lit (.int .i64 (h.choose : Int)), []) else if v = .nilFunc then some (.lit (.bool false), []) else none
def rdF (o : Option Nat) (z : DataW Unit) : DataW Unit := match o with
  | none => z
  | some x => .lit (.int .i64 (x : Int))
theorem fnV_inj {b k j : Nat} (h : fnV b (some k) = fnV b (some j)) : k = j := by
  unfold fnV at h
  simpa using h
theorem fnR_some (b k : Nat) : fnR b (fnV b (some k)) = some (.lit (.int .i64 (k : Int)), []) := by
  unfold fnR
  have h : ∃ j : Nat, fnV b (some k) = fnV b (some j) := ⟨k, rfl⟩
  rw [dif_pos h, ← fnV_inj h.choose_spec]
theorem fnR_nil (b : Nat) : fnR b .nilFunc = some (.lit (.bool false), []) := by
  unfold fnR
  rw [dif_neg (by rintro ⟨k, h⟩; cases h), if_pos rfl]
theorem fnR_inv {b : Nat} {v : Value} {o : Option Nat} {ps : List MemPlace} (h : fnR b v = some (rdF o (.lit (.bool false)), ps)) : v = fnV b o := by
  unfold fnR at h
  split at h
  · rename_i hk
    cases o with
    | none => simp [rdF] at h
    | some x =>
      simp only [rdF, Option.some.injEq, Prod.mk.injEq, DataW.lit.injEq, Lit.int.injEq, true_and] at h
      have e : hk.choose = x := by omega
      rw [← e]
      exact hk.choose_spec
  · split at h
    · rename_i hv
      cases o with
      | none => exact hv
      | some x => simp [rdF] at h
    · cases h
/-- block m is a map of numbers to methods of what lies in block b, that holds just these -/
def FMap (K : TypeId) (q : IntKind) (w : World) (m b n : Nat) (f : Int → Option Nat) : Prop :=
  ∃ D : DataW Unit, w.ownsMap Try.prog K (fnR b) m n D ∧ ∀ k : Int, Maps.has D (.int q k) = (f k).isSome ∧ ∀ z, D.atKey (.int q k) z = rdF (f k) z
theorem FMap.made (K : TypeId) (q : IntKind) (w : World) (b : Nat) : FMap K q (w.alloc (.map #[] 0)) w.heap.size b 0 (fun _ => none) :=
  ⟨.map [], World.ownsMap_made w _ _ _, fun k => ⟨rfl, fun z => rfl⟩⟩
section
variable {K T E : TypeId} {q : IntKind} {w : World} {m b n : Nat} {f : Int → Option Nat}
theorem FMap.lt (h : FMap K q w m b n f) : m < w.heap.size := by
  obtain ⟨D, h1, _⟩ := h
  exact h1.lt
theorem FMap.keep {w' : World} (h : FMap K q w m b n f) (hk : w'.heap[m]? = w.heap[m]?) : FMap K q w' m b n f := by
  obtain ⟨D, ⟨es, clock, hb, F, hs, hD⟩, h2⟩ := h
  exact ⟨D, ⟨es, clock, by rw [hk]; exact hb, F, hs, hD⟩, h2⟩
theorem FMap.isMap (h : FMap K q w m b n f) : ∃ es clock, w.heap[m]? = some (.map es clock) := by
  obtain ⟨D, ⟨es, clock, hb, _⟩, _⟩ := h
  exact ⟨es, clock, hb⟩
theorem FMap.look (h : FMap K q w m b n f) (hK : Try.prog.underlying K = some (.int q)) (hT : Try.prog.underlying T = some (.map K E)) (hz : (zeroValue E).run Try.prog w = .ok .nilFunc w) (k : Int) (hw : (Lit.int q k).wf = true) :
    (Instr.lookup T (.map (some m)) (.int q k) true).run Try.prog w = .ok (.tuple #[fnV b (f k), .bool (f k).isSome]) w := by
  obtain ⟨D, h1, h3⟩ := h
  obtain ⟨v, ps, hrun, hR⟩ := h1.look_ok (int_keyed hK) hT hz (fnR_nil b) (keyOf_int_mk hK hw)
  rw [(h3 k).2] at hR
  rw [hrun, (h3 k).1, fnR_inv hR]
theorem FMap.get (h : FMap K q w m b n f) (hK : Try.prog.underlying K = some (.int q)) (hT : Try.prog.underlying T = some (.map K E)) (hz : (zeroValue E).run Try.prog w = .ok .nilFunc w) (k : Int) (hw : (Lit.int q k).wf = true) :
    (Instr.lookup T (.map (some m)) (.int q k) false).run Try.prog w = .ok (fnV b (f k)) w := by
  obtain ⟨D, h1, h3⟩ := h
  obtain ⟨v, ps, hrun, hR⟩ := h1.lookup (int_keyed hK) hT hz (fnR_nil b) (keyOf_int_mk hK hw)
  rw [(h3 k).2] at hR
  rw [hrun, fnR_inv hR]
theorem FMap.put (h : FMap K q w m b n f) (hK : Try.prog.underlying K = some (.int q)) (hT : Try.prog.underlying T = some (.map K E)) (k : Int) (hw : (Lit.int q k).wf = true) (x : Nat) (hn : n < maxLen) :
    ∃ w', (Instr.mapUpdate T (.map (some m)) (.int q k) (fnV b (some x))).run Try.prog w = .ok () w' ∧ FMap K q w' m b (n + 1) (fun j => if j = k then some x else f j) ∧ w.mapTurned w' m := by
  obtain ⟨D, h1, h3⟩ := h
  obtain ⟨w', hrun, ho, ht⟩ := h1.store (int_keyed hK) hT hn (keyOf_int_mk hK hw) (fnR_some b x)
  have hT := h1.tidy (int_keyed hK)
  refine ⟨w', hrun, ⟨_, ho, fun j => ?_⟩, ht⟩
  by_cases e : j = k
  · subst e
    simp only [if_true]
    exact ⟨Maps.has_put_same hT.isMap (show WideAt.IsKeyLit (.int q j) from trivial) _, fun z => Maps.atKey_put_same hT.isMap (show WideAt.IsKeyLit (.int q j) from trivial) _ z⟩
  · simp only [if_neg e]
    have hne : (Lit.int q j) ≠ .int q k := fun h => e (by cases h; rfl)
    exact ⟨by rw [Maps.has_put_other hne]; exact (h3 j).1, fun z => by rw [Maps.atKey_put_other hne]; exact (h3 j).2 z⟩
end
theorem zero_wfn (w : World) : (zeroValue 47).run Try.prog w = .ok .nilFunc w := by kernel_rfl
theorem zero_rfn (w : World) : (zeroValue 59).run Try.prog w = .ok .nilFunc w := by kernel_rfl
/-- what a writer's map, a reader's map holds -/
def wtab (k : Int) : Option Nat := if k = 3 then some 45 else if k = 2 then some 44 else if k = 1 then some 43 else none
def rtab (k : Int) : Option Nat := if k = 3 then some 55 else if k = 2 then some 54 else if k = 1 then some 53 else none
end Go.Proofs.Ytdpeblchndfdaaa
