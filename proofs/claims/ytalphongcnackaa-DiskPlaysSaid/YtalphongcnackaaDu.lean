/- Two things of the call's own, apart from one another. -/
import Derived.Test.YtalphongcnackaaDp
namespace Go.Proofs.Ytalphongcnackaa
open Go.RowKit
set_option maxRecDepth 100000

/-- a thing in memory, and the blocks that it is in -/
abbrev Thing := World → (Nat → Prop) → Prop
def Stable (Y : Thing) : Prop := ∀ w w' fy, Y w fy → (∀ i, fy i → w'.heap[i]? = w.heap[i]?) → Y w' fy
def Alone (X : Thing) (w0 w : World) (av : Nat → Prop) : Prop :=
  (∀ i, av i → i < w.heap.size) ∧ Below w0.heap.size w0 w ∧ ∃ fx, X w fx ∧ ∀ i, fx i → w0.heap.size ≤ i ∧ i < w.heap.size ∧ ¬ av i
def Pair (X Y : Thing) (w0 w : World) (av : Nat → Prop) : Prop :=
  (∀ i, av i → i < w.heap.size) ∧ Below w0.heap.size w0 w ∧ ∃ fx fy, X w fx ∧ Y w fy ∧ (∀ i, fx i → w0.heap.size ≤ i ∧ i < w.heap.size ∧ ¬ av i ∧ ¬ fy i) ∧ (∀ i, fy i → w0.heap.size ≤ i ∧ i < w.heap.size ∧ ¬ av i ∧ ¬ fx i)
def theDisk (n D : Nat) (s : Dk) : Thing := fun w fx => ∃ F N ao cap, DiskAt w D F N ao cap n s ∧ fx = fun i => i ∈ foot D F N ao
theorem Pair.swap {X Y : Thing} {w0 w : World} {av : Nat → Prop} (h : Pair X Y w0 w av) : Pair Y X w0 w av := by
  obtain ⟨a, b, fx, fy, x, y, hx, hy⟩ := h
  exact ⟨a, b, fy, fx, y, x, hy, hx⟩
theorem Pair.bel {X Y : Thing} {w0 w : World} {av : Nat → Prop} (h : Pair X Y w0 w av) : Below w0.heap.size w0 w := h.2.1
theorem Alone.of_priv {w0 w : World} {av : Nat → Prop} {n D : Nat} {s : Dk} (h : Priv w0 w av n D s) : Alone (theDisk n D s) w0 w av := by
  obtain ⟨hl, F, N, ao, cap, h, hB, hf⟩ := h
  exact ⟨hl, hB, _, ⟨F, N, ao, cap, h, rfl⟩, fun i hi => ⟨(hf i hi).1, h.lt i hi, (hf i hi).2⟩⟩
theorem Alone.priv {w0 w : World} {av : Nat → Prop} {n D : Nat} {s : Dk} (h : Alone (theDisk n D s) w0 w av) : Priv w0 w av n D s := by
  obtain ⟨hl, hB, fx, ⟨F, N, ao, cap, h, rfl⟩, hf⟩ := h
  exact ⟨hl, F, N, ao, cap, h, hB, fun i hi => ⟨(hf i hi).1, (hf i hi).2.2⟩⟩
theorem theDisk_stable (n D : Nat) (s : Dk) : Stable (theDisk n D s) := by
  rintro w w' fy ⟨F, N, ao, cap, h, rfl⟩ hk
  refine ⟨F, N, ao, cap, ?_, rfl⟩
  refine ⟨?_, ?_, ?_, ?_, h.ne, h.ok⟩
  · have := h.d; unfold At at *; rw [hk D (by simp [foot])]; exact this
  · have := h.f; unfold At at *; rw [hk F (by simp [foot])]; exact this
  · have := h.v; unfold At at *; rw [hk N (by simp [foot])]; exact this
  · refine ⟨h.w.1, ?_⟩
    rcases h.w.2 with h0 | ⟨g, cap', cur, hv, hbg, hg, rest⟩
    · exact .inl h0
    · cases hv
      exact .inr ⟨g, _, cur, rfl, hbg, by rw [hk g (by simp [foot, blk])]; exact hg, rest⟩
/-- a call that does something to the first of two -/
theorem pair_left {P : Program} {X X' Y : Thing} {w0 w : World} {av : Nat → Prop} {f : FuncId} {args : Array Value} {Q : Ending → Prop} (hY : Stable Y) (h : Pair X Y w0 w av)
    (hc : ∀ av', (∀ i, av i → av' i) → Alone X w0 w av' → Calls P f args w fun e w' => Q e ∧ Alone X' w0 w' av' ∧ Keeps av' w w') : Calls P f args w fun e w' => Q e ∧ Pair X' Y w0 w' av ∧ Keeps av w w' := by
  obtain ⟨ha, hB, fx, fy, x, y, hx, hy⟩ := h
  refine (hc (fun i => av i ∨ fy i) (fun i hi => .inl hi) ⟨?_, hB, fx, x, fun i hi => ⟨(hx i hi).1, (hx i hi).2.1, ?_⟩⟩).mono ?_
  · rintro i (hi | hi)
    · exact ha i hi
    · exact (hy i hi).2.1
  · rintro (hi2 | hi2)
    · exact (hx i hi).2.2.1 hi2
    · exact (hx i hi).2.2.2 hi2
  · rintro e w' ⟨hq, ⟨hl, hB', fx', x', hx'⟩, hk⟩
    refine ⟨hq, ⟨fun i hi => hl i (.inl hi), hB', fx', fy, x', hY w w' fy y (fun i hi => hk i (.inr hi)), fun i hi => ⟨(hx' i hi).1, (hx' i hi).2.1, fun e => (hx' i hi).2.2 (.inl e), fun e => (hx' i hi).2.2 (.inr e)⟩, fun i hi => ⟨(hy i hi).1, hl i (.inr hi), (hy i hi).2.2.1, fun e => (hx' i e).2.2 (.inr hi)⟩⟩, fun i hi => hk i (.inl hi)⟩
theorem pair_right {P : Program} {X Y Y' : Thing} {w0 w : World} {av : Nat → Prop} {f : FuncId} {args : Array Value} {Q : Ending → Prop} (hX : Stable X) (h : Pair X Y w0 w av)
    (hc : ∀ av', (∀ i, av i → av' i) → Alone Y w0 w av' → Calls P f args w fun e w' => Q e ∧ Alone Y' w0 w' av' ∧ Keeps av' w w') : Calls P f args w fun e w' => Q e ∧ Pair X Y' w0 w' av ∧ Keeps av w w' :=
  (pair_left hX h.swap hc).mono fun _ _ ⟨hq, hp, hk⟩ => ⟨hq, hp.swap, hk⟩
/-- a call that leaves both alone -/
theorem Pair.below {X Y : Thing} (hX : Stable X) (hY : Stable Y) {w0 w w' : World} {av : Nat → Prop} (h : Pair X Y w0 w av) (b : Below w.heap.size w w') : Pair X Y w0 w' av ∧ Keeps av w w' := by
  obtain ⟨ha, hB, fx, fy, x, y, hx, hy⟩ := h
  refine ⟨⟨fun i hi => Nat.lt_of_lt_of_le (ha i hi) b.size, hB.trans (b.mono hB.size), fx, fy, hX w w' fx x (fun i hi => b.block i (hx i hi).2.1), hY w w' fy y (fun i hi => b.block i (hy i hi).2.1), fun i hi => ⟨(hx i hi).1, Nat.lt_of_lt_of_le (hx i hi).2.1 b.size, (hx i hi).2.2⟩, fun i hi => ⟨(hy i hi).1, Nat.lt_of_lt_of_le (hy i hi).2.1 b.size, (hy i hi).2.2⟩⟩, fun i hi => b.block i (ha i hi)⟩
theorem Pair.more {X Y : Thing} {w0 w : World} {av av2 : Nat → Prop} (h : Pair X Y w0 w av) (h2 : ∀ i, av2 i → i < w0.heap.size ∨ av i) : Pair X Y w0 w av2 := by
  obtain ⟨ha, hB, fx, fy, x, y, hx, hy⟩ := h
  have hs := hB.size
  refine ⟨fun i hi => ?_, hB, fx, fy, x, y, fun i hi => ⟨(hx i hi).1, (hx i hi).2.1, fun e => ?_, (hx i hi).2.2.2⟩, fun i hi => ⟨(hy i hi).1, (hy i hi).2.1, fun e => ?_, (hy i hi).2.2.2⟩⟩
  · rcases h2 i hi with h3 | h3
    · omega
    · exact ha i h3
  · rcases h2 i e with h3 | h3
    · have := (hx i hi).1; omega
    · exact (hx i hi).2.2.1 h3
  · rcases h2 i e with h3 | h3
    · have := (hy i hi).1; omega
    · exact (hy i hi).2.2.1 h3
/-- a new block, to be left alone -/
theorem Pair.alloc {X Y : Thing} (hX : Stable X) (hY : Stable Y) {w0 w : World} {av : Nat → Prop} (h : Pair X Y w0 w av) (o : Obj) : Pair X Y w0 (w.alloc o) (fun i => av i ∨ i = w.heap.size) := by
  obtain ⟨ha, hB, fx, fy, x, y, hx, hy⟩ := h
  have hb : ∀ i, i < w.heap.size → (w.alloc o).heap[i]? = w.heap[i]? := fun i hi => Below.heap_alloc w o i hi
  refine ⟨fun i hi => ?_, hB.alloc hB.size o, fx, fy, hX w _ fx x (fun i hi => hb i (hx i hi).2.1), hY w _ fy y (fun i hi => hb i (hy i hi).2.1), fun i hi => ⟨(hx i hi).1, ?_, fun e => ?_, (hx i hi).2.2.2⟩, fun i hi => ⟨(hy i hi).1, ?_, fun e => ?_, (hy i hi).2.2.2⟩⟩
  · rw [World.size_alloc]
    rcases hi with hi | rfl
    · have := ha i hi; omega
    · omega
  · rw [World.size_alloc]; have := (hx i hi).2.1; omega
  · rcases e with e | rfl
    · exact (hx i hi).2.2.1 e
    · have := (hx _ hi).2.1; omega
  · rw [World.size_alloc]; have := (hy i hi).2.1; omega
  · rcases e with e | rfl
    · exact (hy i hi).2.2.1 e
    · have := (hy _ hi).2.1; omega
/-- a block of those to be left alone is written -/
theorem Pair.setCell {X Y : Thing} (hX : Stable X) (hY : Stable Y) {w0 w : World} {av : Nat → Prop} (h : Pair X Y w0 w av) (p : Addr) (v : Value) (hp : av p.block) (hb : w0.heap.size ≤ p.block) : Pair X Y w0 (w.setCell p v) av := by
  obtain ⟨ha, hB, fx, fy, x, y, hx, hy⟩ := h
  have hz : (w.setCell p v).heap.size = w.heap.size := by simp [World.setCell]
  refine ⟨fun i hi => by rw [hz]; exact ha i hi, hB.setCell hb v, fx, fy, hX w _ fx x (fun i hi => Below.heap_setCell w p v i (fun e => (hx i hi).2.2.1 (by rw [e]; exact hp))), hY w _ fy y (fun i hi => Below.heap_setCell w p v i (fun e => (hy i hi).2.2.1 (by rw [e]; exact hp))), fun i hi => by rw [hz]; exact hx i hi, fun i hi => by rw [hz]; exact hy i hi⟩
theorem Pair.drew {X Y : Thing} (hX : Stable X) (hY : Stable Y) {w0 w : World} {av : Nat → Prop} (h : Pair X Y w0 w av) : Pair X Y w0 w.drew av := by
  obtain ⟨ha, hB, fx, fy, x, y, hx, hy⟩ := h
  exact ⟨ha, hB.drew, fx, fy, hX w _ fx x (fun _ _ => rfl), hY w _ fy y (fun _ _ => rfl), hx, hy⟩
/-- two, out of one and one that is made behind it -/
theorem Pair.of {X Y : Thing} {w0 w : World} {av fx : Nat → Prop} (hx : X w fx) (h1 : ∀ i, fx i → w0.heap.size ≤ i ∧ i < w.heap.size ∧ ¬ av i) (h : Alone Y w0 w (fun i => av i ∨ fx i)) : Pair X Y w0 w av := by
  obtain ⟨ha, hB, fy, y, hy⟩ := h
  exact ⟨fun i hi => ha i (.inl hi), hB, fx, fy, hx, y, fun i hi => ⟨(h1 i hi).1, (h1 i hi).2.1, (h1 i hi).2.2, fun e => (hy i e).2.2 (.inr hi)⟩, fun i hi => ⟨(hy i hi).1, (hy i hi).2.1, fun e => (hy i hi).2.2 (.inl e), fun e => (hy i hi).2.2 (.inr e)⟩⟩
end Go.Proofs.Ytalphongcnackaa
