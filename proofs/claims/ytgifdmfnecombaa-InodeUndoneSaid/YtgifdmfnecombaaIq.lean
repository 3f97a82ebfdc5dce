/- What a write leaves as it was; the table behind one write. -/
import Derived.Test.YtgifdmfnecombaaIp
namespace Go.Proofs.Ytgifdmfnecombaa
open Go.RowKit Go.Maps Go.WideElems Go.ChangeMaps
set_option maxRecDepth 100000
/-- the blocks of a table -/
def Mine (tb : Nat) (T : Tab) (p : Place) (b : Nat) : Prop := b = tb ∨ b = p.bm ∨ (∃ k, p.g k = some b) ∨ ∃ k i, T.f k = some i ∧ i.kind = 2 ∧ p.e k = b
/-- from one table to the next: only its blocks may be others, and what is its own now was so or is new -/
structure Step (tb : Nat) (T : Tab) (p : Place) (T' : Tab) (p' : Place) (w w' : World) : Prop where
  os : w'.os = w.os
  tape : w'.tape = w.tape
  output : w'.output = w.output
  size : w.heap.size ≤ w'.heap.size
  block : ∀ b, b < w.heap.size → ¬ Mine tb T p b → w'.heap[b]? = w.heap[b]?
  mine : ∀ b, Mine tb T' p' b → Mine tb T p b ∨ w.heap.size ≤ b
theorem Step.of_below {tb : Nat} {T : Tab} {p : Place} {w w' : World} (h : Below w.heap.size w w') : Step tb T p T p w w' :=
  ⟨h.os, h.tape, h.output, h.size, fun b hb _ => h.block b hb, fun _ h => .inl h⟩
theorem Step.trans {tb : Nat} {T T1 T2 : Tab} {p p1 p2 : Place} {w w1 w2 : World} (h : Step tb T p T1 p1 w w1) (k : Step tb T1 p1 T2 p2 w1 w2) : Step tb T p T2 p2 w w2 :=
  ⟨k.os.trans h.os, k.tape.trans h.tape, k.output.trans h.output, Nat.le_trans h.size k.size,
    fun b hb hm => (k.block b (Nat.lt_of_lt_of_le hb h.size) (fun e => by
      rcases h.mine b e with h1 | h1
      · exact hm h1
      · omega)).trans (h.block b hb hm),
    fun b hm => by
      rcases k.mine b hm with h1 | h1
      · exact h.mine b h1
      · exact .inr (Nat.le_trans h.size h1)⟩
theorem Step.of_touch {tb : Nat} {T T' : Tab} {p p' : Place} {w w' : World} {ft : List Nat} (h : Touch ft w w') (hf : ∀ b, b ∈ ft → Mine tb T p b) (hm : ∀ b, Mine tb T' p' b → Mine tb T p b ∨ w.heap.size ≤ b) : Step tb T p T' p' w w' :=
  ⟨h.os, h.tape, h.output, h.size, fun b hb hn => h.block b hb (fun e => hn (hf b e)), hm⟩
theorem TabAt.mine {base : Nat} {w : World} {tb : Nat} {T : Tab} {p : Place} (h : TabAt base w tb T p) (b : Nat) (hm : Mine tb T p b) : base ≤ b := by
  rcases hm with rfl | rfl | ⟨k, hk⟩ | ⟨k, i, hf, h2, rfl⟩
  · exact h.n0.1
  · exact h.n0.2
  · exact h.n1 k b hk
  · exact h.n2 k i hf h2
theorem Step.below {base : Nat} {tb : Nat} {T T' : Tab} {p p' : Place} {w w' : World} (h : Step tb T p T' p' w w') (t : TabAt base w tb T p) (hb : base ≤ w.heap.size) : Below base w w' :=
  ⟨h.os, h.tape, h.output, h.size, fun b hlt => h.block b (Nat.lt_of_lt_of_le hlt hb) (fun e => by have := t.mine b e; omega)⟩
theorem turned_touch {w w' : World} {b : Nat} (h : w.mapTurned w' b) : Touch [b] w w' := by
  obtain ⟨es, clock, es', clock', hb, rfl⟩ := h
  refine ⟨rfl, rfl, rfl, by simp [setBlock], fun k hk hne => ?_⟩
  have : b ≠ k := fun e => hne (by simp [e])
  simp [setBlock, Array.getElem?_setIfInBounds, this]
theorem IMap.ne {w : World} {b n s : Nat} {f : Int → Option Nat} (h : IMap w b n f s) {B : Nat} {t : TypeId} {l : List Value} (hB : At w B t l) : b ≠ B := by
  obtain ⟨D, ⟨es, clock, hb, _⟩, _⟩ := h
  rintro rfl
  unfold At at hB
  rw [hb] at hB
  cases hB
theorem SMap.ne {w : World} {b n s : Nat} {f : List UInt8 → Option Int} (h : SMap w b n f s) {B : Nat} {t : TypeId} {l : List Value} (hB : At w B t l) : b ≠ B := by
  obtain ⟨D, ⟨es, clock, hb, _⟩, _⟩ := h
  rintro rfl
  unfold At at hB
  rw [hb] at hB
  cases hB
theorem At.ne {w : World} {B C : Nat} {t u : TypeId} {l m : List Value} (h : At w B t l) (k : At w C u m) (hne : t ≠ u) : B ≠ C := by
  rintro rfl
  unfold At at h k
  rw [h] at k
  injection k with k
  injection k with _ k
  exact hne k
theorem IMap.touch {ft : List Nat} {w w' : World} {b n s : Nat} {f : Int → Option Nat} (h : IMap w b n f s) (k : Touch ft w w') (hne : b ∉ ft) : IMap w' b n f s := h.keep (k.block b h.lt hne)
theorem SMap.touch {ft : List Nat} {w w' : World} {b n s : Nat} {f : List UInt8 → Option Int} (h : SMap w b n f s) (k : Touch ft w w') (hne : b ∉ ft) : SMap w' b n f s := h.keep (k.block b h.lt hne)
/-- another inode under that number -/
def Tab.setI (T : Tab) (x : Int) (i : Ino) : Tab := { T with f := fun k => if k = x then some i else T.f k }
/-- a cell of an inode is written -/
theorem TabAt.setI {base : Nat} {w u : World} {tb : Nat} {T : Tab} {p : Place} (h : TabAt base w tb T p) (x : Int) (i i' : Ino) (c : Nat) (hi : T.f x = some i) (hg : p.g x = some c) (hk : i'.kind = i.kind) (he : i'.ents = i.ents) (hc : i'.cnt = i.cnt)
    (ha : At u c 63 (i'.cells (if i.kind = 2 then .map (some (p.e x)) else .map none))) (ht : Touch [c] w u) : TabAt base u tb (T.setI x i') p ∧ Step tb T p (T.setI x i') p w u := by
  have hIA := h.o x c i hg hi
  have n1 : tb ≠ c := h.t.ne hIA.a (by decide)
  have n2 : p.bm ≠ c := h.i.ne hIA.a
  have hf : ∀ k j, (T.setI x i').f k = some j → ∃ j0, T.f k = some j0 ∧ j0.kind = j.kind := by
    intro k j hj
    unfold Tab.setI at hj
    by_cases e : k = x
    · subst e
      simp only [if_true, Option.some.injEq] at hj
      subst hj
      exact ⟨i, hi, hk.symm⟩
    · simp only [if_neg e] at hj
      exact ⟨j, hj, rfl⟩
  refine ⟨⟨h.t.touch ht (by simpa using n1), h.i.touch ht (by simpa using n2), fun k => ?_, fun k b j hb hj => ?_, h.g1, fun k l a b ha hb h1 h2 h3 => ?_, fun k a ha h1 => ?_, h.n0, h.n1, fun k a ha h1 => ?_⟩, Step.of_touch ht (fun b hb => ?_) fun b hb => ?_⟩
  · rw [h.s k]
    unfold Tab.setI
    by_cases e : k = x
    · subst e; simp [hi]
    · simp [e]
  · by_cases e : k = x
    · subst e
      have hj' : j = i' := by
        unfold Tab.setI at hj
        simp only [if_true, Option.some.injEq] at hj
        exact hj.symm
      subst hj'
      obtain rfl : c = b := by rw [hg] at hb; exact Option.some.inj hb
      refine ⟨by rw [hk]; exact ha, fun h2 => ?_⟩
      have hm := hIA.m (by rw [← hk]; exact h2)
      rw [he, hc]
      exact hm.touch ht (by simpa using hm.ne hIA.a)
    · have hj' : T.f k = some j := by
        unfold Tab.setI at hj
        simpa only [if_neg e] using hj
      have ho := h.o k b j hb hj'
      have hbc : b ≠ c := fun q => e (h.g1 k x c (q ▸ hb) hg)
      exact ⟨ho.a.touch ht (by simpa using hbc), fun h2 => (ho.m h2).touch ht (by simpa using (ho.m h2).ne hIA.a)⟩
  · obtain ⟨a0, ha0, ka⟩ := hf k a ha
    obtain ⟨b0, hb0, kb⟩ := hf l b hb
    exact h.e1 k l a0 b0 ha0 hb0 (ka.trans h1) (kb.trans h2) h3
  · obtain ⟨a0, ha0, ka⟩ := hf k a ha
    exact h.e2 k a0 ha0 (ka.trans h1)
  · obtain ⟨a0, ha0, ka⟩ := hf k a ha
    exact h.n2 k a0 ha0 (ka.trans h1)
  · obtain rfl : b = c := by simpa using hb
    exact .inr (.inr (.inl ⟨x, hg⟩))
  · left
    rcases hb with h1 | h1 | h1 | ⟨k, a, ha, h2, h3⟩
    · exact .inl h1
    · exact .inr (.inl h1)
    · exact .inr (.inr (.inl h1))
    · obtain ⟨a0, ha0, ka⟩ := hf k a ha
      exact .inr (.inr (.inr ⟨k, a0, ha0, ka.trans h2, h3⟩))
/-- the table's own cells are written -/
theorem TabAt.setT {base : Nat} {w u : World} {tb : Nat} {T T' : Tab} {p : Place} (h : TabAt base w tb T p) (hf : T'.f = T.f) (hc : T'.cnt = T.cnt) (ha : At u tb 59 (T'.cells p.bm)) (ht : Touch [tb] w u) : TabAt base u tb T' p ∧ Step tb T p T' p w u := by
  refine ⟨⟨ha, hc ▸ h.i.touch ht (by simpa using h.i.ne h.t), fun k => by rw [hf]; exact h.s k, fun k b j hb hj => ?_, h.g1, hf ▸ h.e1, hf ▸ h.e2, h.n0, h.n1, hf ▸ h.n2⟩, Step.of_touch ht (fun b hb => ?_) fun b hb => ?_⟩
  · rw [hf] at hj
    have ho := h.o k b j hb hj
    exact ⟨ho.a.touch ht (by simpa using (h.t.ne ho.a (by decide)).symm), fun h2 => (ho.m h2).touch ht (by simpa using (ho.m h2).ne h.t)⟩
  · obtain rfl : b = tb := by simpa using hb
    exact .inl rfl
  · unfold Mine at *
    rw [hf] at hb
    exact .inl hb
end Go.Proofs.Ytgifdmfnecombaa
