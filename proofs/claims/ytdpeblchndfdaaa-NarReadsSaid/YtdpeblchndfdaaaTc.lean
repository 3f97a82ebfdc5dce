/- Rows of nodes that are made; cut. -/
import Derived.Test.YtdpeblchndfdaaaTd
import Derived.Test.YtdpeblchndfdaaaDn
namespace Go.Proofs.Ytdpeblchndfdaaa
open Go.RowKit
set_option maxRecDepth 100000
/-- a row of nodes of the call's own, and what they have -/
abbrev Tri := Nd × Option Addr × Nat
def Tri.cells (p : Tri) : List Value := p.1.cells p.2.1 p.2.2
structure KidsAt (base : Nat) (w : World) (h : Nat) (ps : List Tri) (ao : Option Addr) (cap : Nat) : Prop where
  own : Own w 24 5 ao ps.length cap (ps.flatMap Tri.cells)
  new : ∀ i, i ∈ blk ao → base ≤ i
  has : ∀ p ∈ ps, Has (fun i => base ≤ i ∧ i ∉ blk ao) w h p.1 p.2.1
theorem KidsAt.nil (base : Nat) (w : World) (h : Nat) : KidsAt base w h [] none 0 := ⟨Own.nil _ _ _, (fun i hi => by cases hi), (fun p hp => by cases hp)⟩
theorem KidsAt.below {base : Nat} {w u : World} {h : Nat} {ps : List Tri} {ao : Option Addr} {cap : Nat} (K : KidsAt base w h ps ao cap) (b : Below w.heap.size w u) : KidsAt base u h ps ao cap :=
  ⟨K.own.touch (ft := []) (Touch.of_below b) (fun _ _ h => by cases h), K.new, fun p hp => (K.has p hp).below b⟩
theorem KidsAt.touch {base : Nat} {w u : World} {h : Nat} {ps : List Tri} {ao : Option Addr} {cap : Nat} {ft : List Nat} (K : KidsAt base w h ps ao cap) (t : Touch ft w u) (hf : ∀ i, i ∈ ft → i < base) (hn : ∀ i, i ∈ blk ao → i ∉ ft) : KidsAt base u h ps ao cap :=
  ⟨K.own.touch t hn, K.new, fun p hp => Has.kept (fun _ h _ => h) (fun i hi hl => t.block i hl (fun e => by have := hf i e; have := hi.1; omega)) h _ _ (K.has p hp)⟩
theorem flat_len (ps : List Tri) : (ps.flatMap Tri.cells).length = 5 * ps.length := by
  induction ps with
  | nil => rfl
  | cons p r ih => rw [List.flatMap_cons, List.length_append, ih, List.length_cons]; show 5 + _ = _; omega
theorem flat_get (ps : List Tri) (i j : Nat) (p : Tri) (v : Value) (hi : ps[i]? = some p) (hj : p.cells[j]? = some v) : (ps.flatMap Tri.cells)[i * 5 + j]? = some v := by
  induction ps generalizing i with
  | nil => simp at hi
  | cons q r ih =>
    have h5 : ∀ q : Tri, q.cells.length = 5 := fun _ => rfl
    have hj5 : j < 5 := by have := (List.getElem?_eq_some_iff.1 hj).1; rwa [h5] at this
    rw [List.flatMap_cons]
    cases i with
    | zero =>
      simp only [List.getElem?_cons_zero, Option.some.injEq] at hi
      subst hi
      rw [List.getElem?_append_left (by rw [h5]; omega), Nat.zero_mul, Nat.zero_add]
      exact hj
    | succ i =>
      rw [List.getElem?_append_right (by rw [h5]; omega), h5, show (i + 1) * 5 + j - 5 = i * 5 + j by omega]
      exact ih i (by simpa using hi)
/-- the node whose kids these are -/
theorem KidsAt.node {base : Nat} {w : World} {h : Nat} {ps : List Tri} {ao : Option Addr} {cap : Nat} (K : KidsAt base w h ps ao cap) (n : Nd) (hn : n.kids = ps.map (·.1)) : Has (fun i => base ≤ i) w (h + 1) n ao := by
  have hl : n.kids.length = ps.length := by rw [hn, List.length_map]
  refine ⟨by rw [hl]; exact Nat.le_trans K.own.cap K.own.max, fun i m hm => ?_⟩
  rw [hn, List.getElem?_map] at hm
  obtain ⟨p, hp, rfl⟩ := Option.map_eq_some_iff.mp hm
  have hil := (List.getElem?_eq_some_iff.1 hp).1
  obtain ⟨g, cur, rfl, hA, _, _⟩ := K.own.there (by omega)
  refine ⟨_, p.2.1, p.2.2, rfl, K.new g (by simp [blk]), fun j v hj => ?_, (K.has p (List.mem_of_getElem? hp)).mono (fun i h _ => h.1)⟩
  rw [Addr.add0, Addr.add_mid]
  refine hA.cell _ _ ?_
  have := flat_get ps i j p v hp hj
  rw [List.getElem?_append_left (by have := (List.getElem?_eq_some_iff.1 this).1; exact this)]
  exact this
/-- a node that was made since w0 is answered -/
def Made (w0 w' : World) (h : Nat) (n : Nd) (e : Ending) : Prop := ∃ ao cap, e = .returned (n.v ao cap) ∧ Has (fun i => w0.heap.size ≤ i) w' h n ao
theorem info24 : (Try.prog.info? 24).map (fun i => (i.zero, i.size, i.bytes)) = some (some (.agg #[.string ⟨#[]⟩, .int .i64 0, .bool false, .string ⟨#[]⟩, .slice none 0 0]), 5, 72) := by kernel_rfl
theorem info_22 : ∃ i z, Try.prog.info? 24 = some i ∧ i.zero = some z ∧ i.size = 5 ∧ i.bytes = 72 ∧ z.cells.size = 5 := by
  have h := info24
  cases hq : Try.prog.info? 24 with
  | none => rw [hq] at h; cases h
  | some i =>
    rw [hq] at h
    simp only [Option.map_some, Option.some.injEq, Prod.mk.injEq] at h
    exact ⟨i, _, rfl, h.1, h.2.1, h.2.2, rfl⟩
/-- one more -/
theorem KidsAt.append {base : Nat} {w u : World} {h : Nat} {ps : List Tri} {ao : Option Addr} {cap : Nat} (K : KidsAt base w h ps ao cap) (b : Below w.heap.size w u) (hb : base ≤ w.heap.size) (p : Tri) (hM : Has (fun i => w.heap.size ≤ i) u h p.1 p.2.1) (hn : ps.length ≤ 1000000)
    {B T2 : Nat} {u1 : World} (b1 : Below u.heap.size u u1) (hB : At u1 B T2 p.cells) :
    ∃ ao' cap' w', (Builtin.append_ #[22, 22] 22 #[.slice ao ps.length cap, .slice (some ⟨B, 0, none⟩) 1 1]).run Try.prog u1 = .ok (.slice ao' (ps.length + 1) cap') w' ∧ KidsAt base w' h (ps ++ [p]) ao' cap' ∧ Touch (blk ao) u1 w' := by
  obtain ⟨i, z, hi, hz, h5, h72, hz5⟩ := info_22
  have K1 := (K.below b).below b1
  have hz1 := b.size
  have hz2 := b1.size
  obtain ⟨ao', cap', w', hrun, hO, hT, hblk⟩ := run_append_any (P := Try.prog) u1 22 22 24 i z 5 72 Try.underlying22 hi hz h5 h72 hz5 (by omega) ao ps.length cap _ K1.own B 1 1 p.cells hB rfl (nd_one p.1 p.2.1 p.2.2) (by omega) (by unfold maxLen; omega) (by omega)
  have hlt := K.own.lt
  have hlt1 := K1.own.lt
  refine ⟨ao', cap', w', hrun, ⟨?_, ?_, ?_⟩, hT⟩
  · rw [List.length_append, List.flatMap_append]
    simpa using hO
  · intro k hk
    rcases hblk with e | ⟨g, e, hg⟩
    · rw [e] at hk; exact K.new k hk
    · rw [e] at hk; simp at hk; omega
  · have keep : ∀ (m : Nd) (g : Option Addr), Has (fun i => base ≤ i ∧ i ∉ blk ao) u1 h m g → Has (fun i => base ≤ i ∧ i ∉ blk ao') w' h m g := fun m g hm => by
      refine Has.kept (fun i hi hl => ⟨hi.1, fun e => ?_⟩) (fun i hi hl => hT.block i hl hi.2) h m g hm
      rcases hblk with e2 | ⟨g2, e2, hg⟩
      · rw [e2] at e; exact hi.2 e
      · rw [e2] at e; simp at e; omega
    intro q hq
    rcases List.mem_append.mp hq with hq | hq
    · exact keep _ _ (K1.has q hq)
    · simp only [List.mem_singleton] at hq
      subst hq
      exact keep _ _ ((hM.below b1).mono (fun i hi _ => ⟨by omega, fun e => by have := hlt i e; omega⟩))
end Go.Proofs.Ytdpeblchndfdaaa
