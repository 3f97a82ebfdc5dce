/- A writer: its builder, its map; what is written, and told. -/
import Derived.Test.YtdpeblchndfdaaaMa
import Derived.Test.YtdpeblchndfdaaaDn
import Derived.Test.YtdpeblchndfdaaaSh
import Derived.Test.YtdpeblchndfdaaaW2
import Derived.Lib.FrozenHead
import Derived.Lib.Builder
import Derived.Lib.Walk
import Derived.Laws.Externs
namespace Go.Proofs.Ytdpeblchndfdaaa
open Go.RowKit
set_option maxRecDepth 100000
theorem info_b : (Try.prog.info? 50).map (·.size) = some 2 := by kernel_rfl
theorem info_u8 : (Try.prog.info? 5).map (fun i => (i.zero, i.size, i.bytes)) = some (some (.int .u8 0), 1, 1) := by kernel_rfl
/-- a writer in block b, that holds these bytes; all that it has lies from B on -/
def WAt (B : Nat) (w : World) (b : Nat) (l : List UInt8) : Prop :=
  B ≤ b ∧ ∃ p v m n, (p = .pointer none ∨ p = .pointer (some ⟨b, 0, none⟩)) ∧ At w b 53 [p, v, .map (some m)] ∧ w.ownsRowF B 5 1 v l.length (Lib.byteCells l) ∧ B ≤ m ∧ FMap 3 .i64 w m b n wtab
/-- all blocks are as they were, but for b, rows of bytes, and new ones -/
structure WB (b : Nat) (w w' : World) : Prop where
  size : w.heap.size ≤ w'.heap.size
  block : ∀ k, k < w.heap.size → k ≠ b → (∀ cs fz, w.heap[k]? ≠ some (.cells cs 5 fz)) → w'.heap[k]? = w.heap[k]?
  map : ∀ v, w.cell? ⟨b, 2, none⟩ = some v → w'.cell? ⟨b, 2, none⟩ = some v
theorem WB.refl (b : Nat) (w : World) : WB b w w := ⟨Nat.le_refl _, fun _ _ _ _ => rfl, fun _ h => h⟩
theorem WB.trans {b : Nat} {u v w : World} (h : WB b u v) (k : WB b v w) : WB b u w :=
  ⟨Nat.le_trans h.size k.size, fun i hi hb hc => by
    have e := h.block i hi hb hc
    rw [← e]
    exact k.block i (Nat.lt_of_lt_of_le hi h.size) hb (fun cs fz => by rw [e]; exact hc cs fz), fun v hv => k.map v (h.map v hv)⟩
theorem WB.of_below {b : Nat} {w w' : World} (h : Below w.heap.size w w') : WB b w w' := ⟨h.size, fun k hk _ _ => h.block k hk, fun v hv => (h.cell (World.block_lt_of_cell? w _ hv)).trans hv⟩
theorem WB.setCell (b i : Nat) (hi : i ≠ 2) (w : World) (v : Value) : WB b w (w.setCell ⟨b, i, none⟩ v) := ⟨by simp [World.setCell], fun k _ hk _ => Below.heap_setCell _ _ _ _ hk, fun u hu => by
  rw [World.cell?_setCell_other]
  · exact hu
  · intro e
    simp only [Addr.mk.injEq, true_and, and_true] at e
    exact hi e⟩
theorem WB.row {b B k : Nat} {w w' : World} {v : Value} {xs : List Value} (ho : w.ownsRowF B 5 1 v k xs) (hg : w.grownBy w' v.ownBlock) (hb : v.ownBlock ≠ some b) : WB b w w' := ⟨hg.size, fun i hi _ hc => hg.block i hi (fun e => by
  rcases ho.2 with ⟨rfl, _⟩ | ⟨g, cap, cur, fz, rfl, _, hgg, _⟩
  · cases e
  · simp only [Value.ownBlock, Option.some.injEq] at e
    subst e
    exact hc _ _ hgg), fun u hu => by
  rw [← hu]
  exact World.cell?_of_block (w := w) (hg.block b (World.block_lt_of_cell? w _ hu) (fun e => hb e.symm))⟩
theorem At.wb {b k : Nat} {w w' : World} {T : TypeId} {l : List Value} (h : At w k T l) (hw : WB b w w') (hk : k ≠ b) (hT : T ≠ 5) : At w' k T l :=
  (hw.block k h.lt hk (fun cs fz e => by
    unfold At at h
    rw [h] at e
    simp only [Option.some.injEq, Obj.cells.injEq] at e
    exact hT e.2.1)).trans h
theorem own_ne_map {w : World} {B m b n : Nat} {K : TypeId} {q : IntKind} {f : Int → Option Nat} {v : Value} {k : Nat} {xs : List Value} (ho : w.ownsRowF B 5 1 v k xs) (hm : FMap K q w m b n f) : v.ownBlock ≠ some m := by
  obtain ⟨es, clock, hh⟩ := hm.isMap
  rcases ho.2 with ⟨rfl, _⟩ | ⟨g, cap, cur, fz, rfl, _, hg, _⟩
  · simp [Value.ownBlock]
  · intro h
    simp only [Value.ownBlock, Option.some.injEq] at h
    subst h
    rw [hg] at hh
    cases hh
theorem grown_below {w w' : World} (h : Below w.heap.size w w') : w.grownBy w' none := ⟨h.os, h.tape, h.output, h.size, fun k hk _ => h.block k hk⟩
theorem WAt.lt {B b : Nat} {w : World} {l : List UInt8} (h : WAt B w b l) : b < w.heap.size := by
  obtain ⟨_, p, v, m, n, _, hA, _⟩ := h
  exact hA.lt
theorem WAt.below {B b : Nat} {w w' : World} {l : List UInt8} (h : WAt B w b l) (hb : Below w.heap.size w w') : WAt B w' b l := by
  obtain ⟨h1, p, v, m, n, hp, hA, ho, hm, hM⟩ := h
  exact ⟨h1, p, v, m, n, hp, hA.below hb hA.lt, ho.kept (grown_below hb) (by cases v.ownBlock <;> simp), hm, hM.keep (hb.block m hM.lt)⟩
theorem WAt.look {B b : Nat} {w : World} {l : List UInt8} (h : WAt B w b l) : ∃ m, w.cell? ⟨b, 2, none⟩ = some (.map (some m)) ∧ ∀ w1 : World, w1.heap[m]? = w.heap[m]? → ∀ k : Int, (Lit.int .i64 k).wf = true → (Instr.lookup 51 (.map (some m)) (.int .i64 k) false).run Try.prog w1 = .ok (fnV b (wtab k)) w1 := by
  obtain ⟨h1, p, v, m, n, hp, hA, ho, hm, hM⟩ := h
  exact ⟨m, hA.cell 2 _ rfl, fun w1 e k hk => (hM.keep e).get Try.underlying3 Try.underlying51 (zero_wfn w1) k hk⟩
set_option maxHeartbeats 1000000 in
theorem wCheck_used (b : Nat) (w : World) (h0 : w.cell? ⟨b, 0, none⟩ = some (.pointer (some ⟨b, 0, none⟩))) :
    Calls Try.prog 77 #[.pointer (some ⟨b, 0, none⟩)] w fun e w' => e = .returned (.tuple #[]) ∧ w' = w := by
  obtain ⟨j, hj, _⟩ := Option.map_eq_some_iff.1 info_b
  go_enter Try.func77, Try.ntmps77
  go_wp2
  rw [Lib.run_neq_ptr_same w _ Try.underlying48 hj]
  go_wp2
  go_end0
  exact ⟨rfl, rfl⟩
set_option maxHeartbeats 1000000 in
theorem wCheck_fresh (b : Nat) (w : World) (h0 : w.cell? ⟨b, 0, none⟩ = some (.pointer none)) (hsh : w.shape? b = some (53, 3)) (hfz : w.frozen? ⟨b, 0, none⟩ = false) :
    Calls Try.prog 77 #[.pointer (some ⟨b, 0, none⟩)] w fun e w' => e = .returned (.tuple #[]) ∧ w' = w.setCell ⟨b, 0, none⟩ (.pointer (some ⟨b, 0, none⟩)) := by
  obtain ⟨j, hj, hjs⟩ := Option.map_eq_some_iff.1 info_b
  go_enter Try.func77, Try.ntmps77
  go_wp2
  rw [Lib.run_to_unsafe w ⟨b, 0, none⟩ Try.underlying48 Try.underlying105 hj (by rw [hjs]; decide) hsh (Nat.zero_lt_succ 2)]
  simp only [Result.andThen]
  rw [Oper.upon_value]
  go_wp2
  rw [run_callFunc_extern Try.func90 (by kernel_rfl) (by kernel_rfl) (by kernel_rfl) (e := Extern.AbiNoEscape.same) (by kernel_rfl)]
  rw [Lib.run_noEscape]
  simp only [Result.andThen]
  rw [Oper.upon_value]
  go_wp2
  rw [Lib.run_from_unsafe w ⟨b, 0, none⟩ Try.underlying105 Try.underlying48 hj hsh (by kernel_rfl)]
  simp only [Result.andThen]
  rw [Oper.upon_value]
  go_wp2
  go_end0
  exact ⟨rfl, rfl⟩
/-- behind the check -/
theorem wCheck_any (B b : Nat) (l : List UInt8) (w : World) (h : WAt B w b l) :
    Calls Try.prog 77 #[.pointer (some ⟨b, 0, none⟩)] w fun e w' => e = .returned (.tuple #[]) ∧ Below B w w' ∧ WB b w w' ∧
      B ≤ b ∧ ∃ v m n, At w' b 53 [.pointer (some ⟨b, 0, none⟩), v, .map (some m)] ∧ w'.ownsRowF B 5 1 v l.length (Lib.byteCells l) ∧ B ≤ m ∧ FMap 3 .i64 w' m b n wtab := by
  obtain ⟨h1, p, v, m, n, hp, hA, ho, hm, hM⟩ := h
  rcases hp with rfl | rfl
  · refine (wCheck_fresh b w (hA.cell 0 _ rfl) (by unfold At at hA; simp [World.shape?, hA]) (hA.frozen 0)).mono ?_
    rintro e w' ⟨rfl, rfl⟩
    have hne : m ≠ b := fun e => by
      obtain ⟨es, clock, hh⟩ := hM.isMap
      unfold At at hA
      rw [e, hA] at hh
      cases hh
    have hob : v.ownBlock ≠ some b := Lib.ownBlock_neF ho hA (by decide)
    exact ⟨rfl, (Below.refl B w).setCell (p := ⟨b, 0, none⟩) h1 _, WB.setCell _ _ (by decide) _ _, h1, v, m, n, hA.setCell 0 _, ho.kept (row := some b) ⟨rfl, rfl, rfl, by simp [World.setCell], fun k _ hk => Below.heap_setCell _ _ _ _ (fun e => hk (by simp [e]))⟩ (Or.inr hob), hm, hM.keep (Below.heap_setCell _ _ _ _ hne)⟩
  · refine (wCheck_used b w (hA.cell 0 _ rfl)).mono ?_
    rintro e w' ⟨rfl, rfl⟩
    exact ⟨rfl, Below.refl B _, WB.refl _ _, h1, v, m, n, hA, ho, hm, hM⟩
theorem strCells_list (l : List UInt8) : Lib.strCells (bs l) = Lib.byteCells l := by
  unfold Lib.strCells Lib.byteCells
  rw [show (bs l).data = l.toArray from rfl]
theorem byteCells_app (a b : List UInt8) : Lib.byteCells (a ++ b) = Lib.byteCells a ++ Lib.byteCells b := by unfold Lib.byteCells; rw [List.map_append]
set_option maxHeartbeats 2000000 in
theorem wWrite_any (B b : Nat) (l t : List UInt8) (w : World) (h : WAt B w b l) (hlen : l.length + t.length ≤ 140737488355328) (hBw : B ≤ w.heap.size) :
    Calls Try.prog 46 #[.pointer (some ⟨b, 0, none⟩), .string (bs t)] w fun e w' => e = .returned (.tuple #[.int .i64 (t.length : Int), .nilIface]) ∧ WAt B w' b (l ++ t) ∧ Below B w w' ∧ WB b w w' := by
  obtain ⟨i0, hi, hz0, hz1, hz2⟩ := info_parts info_u8
  have hsz := bs_size t
  go_enter Try.func46, Try.ntmps46
  go_wp2_with fail
  refine (wCheck_any B b l _ h).mono ?_
  rintro e w1 ⟨rfl, hb1, hw1, hB, v, m, n, hA, hown, hm, hM⟩
  have c0 := hA.cell 0 _ rfl
  have c1 := hA.cell 1 _ rfl
  have hob : v.ownBlock ≠ some b := Lib.ownBlock_neF hown hA (by decide)
  have hom := own_ne_map hown hM
  have hlt := hA.lt
  have HM := Lib.hid hM
  have HA := Lib.hid hA
  clear hM hA
  go_wp2_with (at_builtin; refine Lib.wpList_append_own_stringF _ rfl _ _ 37 9 rfl B 5 i0 Try.underlying37 Try.underlying9 hi hz0 hz1 hz2 _ _ _ rfl hown (bs t) rfl ?c3 ?c4 ?c5 ?_)
  case c3 => unfold maxLen; first | omega | (rw [hsz]; omega)
  case c4 => first | omega | (rw [hsz]; omega)
  case c5 => have := hb1.size; omega
  intro v' w2 hown' hgrow _
  rw [strCells_list, ← byteCells_app] at hown'
  have hA2 : At w2 b 53 [.pointer (some ⟨b, 0, none⟩), v, .map (some m)] := (hgrow.block b hlt (fun e => hob e.symm)).trans HA.out
  have hM2 : FMap 3 .i64 w2 m b n wtab := HM.out.keep (hgrow.block m HM.out.lt (fun e => hom e.symm))
  have d0 := hA2.cell 0 _ rfl
  have d1 := hA2.cell 1 _ rfl
  have f1 := hA2.frozen 1
  have hob' : v'.ownBlock ≠ some b := Lib.ownBlock_neF hown' hA2 (by decide)
  have hne : m ≠ b := fun e => by
    obtain ⟨es, clock, hh⟩ := hM2.isMap
    unfold At at hA2
    rw [e, hA2] at hh
    cases hh
  obtain ⟨ao, n', cap, rfl⟩ : ∃ ao n' cap, v' = .slice ao n' cap := by
    rcases hown'.2 with ⟨hv, _⟩ | ⟨g, cap, cur, fz, hv, _⟩
    · exact ⟨_, _, _, hv⟩
    · exact ⟨_, _, _, hv⟩
  have HM2 := Lib.hid hM2
  have HA2 := Lib.hid hA2
  have HO2 := Lib.hid hown'
  have hbb : Below B w w2 := hb1.grown hgrow (by have := hb1.size; omega) (fun k hk => (hown.lt k hk).1)
  have HBB := Lib.hid hbb
  have HWB := Lib.hid ((hw1.trans (WB.row hown hgrow hob)).trans (WB.setCell b 1 (by decide) w2 (.slice ao n' cap)))
  clear hM2 hA2 hown' hbb hb1 hw1 hgrow hown
  go_wp2
  go_ret2
  refine ⟨by first | rfl | rw [hsz], ?_, HBB.out.setCell (p := ⟨b, 1, none⟩) hB _, HWB.out⟩
  refine ⟨hB, _, _, m, n, .inr rfl, HA2.out.setCell 1 _, ?_, hm, HM2.out.keep (Below.heap_setCell _ _ _ _ hne)⟩
  have hO := HO2.out.kept (w' := w2.setCell ⟨b, 1, none⟩ (.slice ao n' cap)) (row := some b) ⟨rfl, rfl, rfl, by simp [World.setCell], fun k _ hk => Below.heap_setCell _ _ _ _ (fun e => hk (by simp [e]))⟩ (Or.inr hob')
  rw [List.length_append]
  exact hO
end Go.Proofs.Ytdpeblchndfdaaa
