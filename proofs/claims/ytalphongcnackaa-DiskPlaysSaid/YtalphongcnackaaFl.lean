/- DiskPlays: the acts that came in; how much a disk holds after so many. -/
import Derived.Test.YtalphongcnackaaFk
import Derived.Test.YtalphongcnackaaOa
namespace Go.Proofs.Ytalphongcnackaa
open Go.RowKit Go.ChangeShapes Go.WideShapes Go.Deep
set_option maxRecDepth 100000
structure ActV where
  what : Int
  at_ : Int
  len : Int
  n : UInt8
  fa : Option Addr
  fs : List UInt8
  fc : Nat
def ActV.cells (x : ActV) : List Value := [.int .i64 x.what, .int .i64 x.at_, .int .i64 x.len, .int .u8 (x.n.toNat : Int), .slice x.fa x.fs.length x.fc]
structure ActAt (w : World) (p : Addr) (x : ActV) : Prop where
  c : ∀ j v, x.cells[j]? = some v → w.cell? (p.add j) = some v
  fc : x.fs.length ≤ x.fc
  fl : x.fs.length ≤ 9223372036854775807
  f : ∀ j c, x.fs[j]? = some c → ∃ q, x.fa = some q ∧ w.cell? (q.add j) = some (.int .u8 (c.toNat : Int))
def Acts (w : World) (a : Option Addr) (ls : List ActV) : Prop := ∀ j x, ls[j]? = some x → ∃ p, a = some p ∧ ActAt w (p.add (j * 5)) x
theorem cell_bel {w0 w : World} (hb : Below w0.heap.size w0 w) {p : Addr} {v : Value} (h : w0.cell? p = some v) : w.cell? p = some v := by
  rw [← h]; exact hb.cell (World.block_lt_of_cell? w0 p h)
theorem ActAt.below {w0 w : World} {p : Addr} {x : ActV} (h : ActAt w0 p x) (hb : Below w0.heap.size w0 w) : ActAt w p x :=
  ⟨fun j v hj => cell_bel hb (h.c j v hj), h.fc, h.fl, fun j c hj => by
    obtain ⟨q, e, hc⟩ := h.f j c hj
    exact ⟨q, e, cell_bel hb hc⟩⟩
theorem ActAt.fates {w0 w : World} {p : Addr} {x : ActV} (h : ActAt w0 p x) (hb : Below w0.heap.size w0 w) (av : Nat → Prop) : ∀ j c, x.fs[j]? = some c → ∃ a, x.fa = some a ∧ w.cell? (a.add j) = some (.int .u8 (c.toNat : Int)) ∧ (a.block < w0.heap.size ∨ av a.block) := fun j c hj => by
  obtain ⟨q, e, hc⟩ := h.f j c hj
  refine ⟨q, e, cell_bel hb hc, .inl ?_⟩
  have := World.block_lt_of_cell? w0 _ hc
  rwa [add_block] at this
theorem info_act : (Try.prog.info? 30).map (·.size) = some 5 := by kernel_rfl
def zact : Array Value := #[.int .i64 0, .int .i64 0, .int .i64 0, .int .u8 0, .slice none 0 0]
theorem zero_act : ∀ w, (zeroValue 30).run Try.prog w = .ok (.agg zact) w := fun _ => by kernel_rfl
theorem ActV.one (x : ActV) : ∀ v ∈ x.cells, v.oneCell' = true := by
  intro v hv
  simp only [ActV.cells, List.mem_cons, List.not_mem_nil, or_false] at hv
  rcases hv with rfl | rfl | rfl | rfl | rfl <;> rfl
section
variable {H : Type} {enc : TypeId × Value → H} {w : World} {base : Nat} {spare : Nat → Bool} {held : Bool}
theorem open_act {a : Addr} {i n : Nat} (h : ∀ (j : Nat) (f : Field), (#[⟨"What", 3, 0, false, "", "", 0⟩, ⟨"At", 3, 1, false, "", "", 8⟩, ⟨"Len", 3, 2, false, "", "", 16⟩, ⟨"N", 5, 3, false, "", "", 24⟩, ⟨"S", 28, 4, false, "", "", 32⟩] : Array Field)[j]? = some f →
    ∃ (v : Value) (y : DataW H × List MemPlace), w.cell? (a.add (i * 5 + j)) = some v ∧ DataW.trod enc Try.prog w base spare held n f.type [v] = some y) : ∃ x, ActAt w (a.add (i * 5)) x := by
  obtain ⟨v0, y0, k0, t0⟩ := h 0 _ rfl
  obtain ⟨v1, y1, k1, t1⟩ := h 1 _ rfl
  obtain ⟨v2, y2, k2, t2⟩ := h 2 _ rfl
  obtain ⟨v3, y3, k3, t3⟩ := h 3 _ rfl
  obtain ⟨v4, y4, k4, t4⟩ := h 4 _ rfl
  obtain ⟨n0, e0, _, w0⟩ := DataW.trod_int Try.underlying3 t0
  obtain ⟨n1, e1, _, w1⟩ := DataW.trod_int Try.underlying3 t1
  obtain ⟨n2, e2, _, w2⟩ := DataW.trod_int Try.underlying3 t2
  obtain ⟨n3, e3, _, w3⟩ := DataW.trod_int Try.underlying5 t3
  obtain ⟨fa, fs, fc, e4, f1, f2, f3⟩ := open_fates t4
  simp at e0 e1 e2 e3
  obtain ⟨c3, rfl⟩ := byte_of w3
  subst e0 e1 e2 e3 e4
  unfold maxLen at f2
  refine ⟨⟨n0, n1, n2, c3, fa, fs, fc⟩, ⟨fun j v hj => ?_, f1, by show fs.length ≤ _; omega, f3⟩⟩
  rw [Go.Deep.add_add]
  have hj5 : j < 5 := (List.getElem?_eq_some_iff.1 hj).1
  have : j = 0 ∨ j = 1 ∨ j = 2 ∨ j = 3 ∨ j = 4 := by omega
  rcases this with rfl | rfl | rfl | rfl | rfl <;> (simp [ActV.cells] at hj; subst hj; assumption)
theorem open_acts {fuel : Nat} {cs : List Value} {x : DataW H × List MemPlace} (h : DataW.trod enc Try.prog w base spare held fuel 22 cs = some x) :
    ∃ (ao : Option Addr) (len cap : Nat) (ls : List ActV), cs = [.slice ao len cap] ∧ ls.length = len ∧ len ≤ maxLen ∧ Acts w ao ls := by
  obtain ⟨ao, len, cap, hcs, hlen, hi⟩ := open_structs Try.underlying22 Try.underlying30 (by kernel_rfl) (by kernel_rfl) h
  have hx : ∀ i : Fin len, ∃ x, ∃ a, ao = some a ∧ ActAt w (a.add (i.1 * 5)) x := fun i => by
    obtain ⟨a, ha, n, hn⟩ := hi i.1 i.2
    obtain ⟨x, hx⟩ := open_act (i := i.1) hn
    exact ⟨x, a, ha, hx⟩
  refine ⟨ao, len, cap, List.ofFn fun i => Classical.choose (hx i), hcs, by simp, hlen, fun j x hj => ?_⟩
  rw [List.getElem?_ofFn] at hj
  split at hj
  · rename_i hjl
    cases hj
    exact Classical.choose_spec (hx ⟨j, hjl⟩)
  · cases hj
end
/-- a disk that waits with no more writes, and did no more operations, than so many -/
structure Few (m : Nat) (s : Dk) : Prop where
  ws : s.ws.length ≤ m
  ops : s.ops ≤ m
theorem Few.mono {m k : Nat} {s : Dk} (h : Few m s) (hk : m ≤ k) : Few k s := ⟨Nat.le_trans h.ws hk, Nat.le_trans h.ops hk⟩
section
variable {m : Nat} {s : Dk} (h : Few m s)
include h
theorem Few.tick : Few (m + 1) s.tick := by
  refine ⟨by rw [s.tick_ws]; have := h.ws; omega, ?_⟩
  have := h.ops
  unfold Dk.tick
  split
  · omega
  · show s.ops + 1 ≤ _; omega
theorem Few.read (n : Nat) (k : Int) : Few (m + 1) (s.readD n k) := by
  unfold Dk.readD
  split
  · exact h.mono (by omega)
  · exact h.tick
theorem Few.write (n : Nat) (k : Int) (l : List UInt8) : Few (m + 1) (s.writeD n k l) := by
  unfold Dk.writeD
  split
  · exact h.mono (by omega)
  · split
    · exact h.tick
    · refine ⟨?_, h.tick.ops⟩
      unfold Dk.put
      simp only [List.length_append, List.length_singleton, s.tick_ws]
      have := h.ws
      omega
theorem Few.flush : Few (m + 1) s.flushD := by
  unfold Dk.flushD
  split
  · exact h.tick
  · exact ⟨by simp [Dk.flush], h.tick.ops⟩
theorem Few.arm (k : Int) : Few m (s.arm k) := by
  unfold Dk.arm
  split
  · exact h
  · exact ⟨h.ws, h.ops⟩
theorem Few.cut : Few m s.cut := ⟨h.ws, h.ops⟩
theorem Few.wake (fs : List UInt8) : Few m (s.wake fs) := by
  unfold Dk.wake
  split
  · exact ⟨by simp, h.ops⟩
  · exact h
end
theorem set_cells_size (b : Nat) : ∀ (vs : List Value) (o : Nat) (w : World), (w.setCells b o vs).heap.size = w.heap.size
  | [], _, _ => rfl
  | v :: r, o, w => by
    have := set_cells_size b r (o + 1) (w.setCell ⟨b, o, none⟩ v)
    rw [show (w.setCell ⟨b, o, none⟩ v).heap.size = w.heap.size by simp [World.setCell]] at this
    exact this
theorem Pair.touched {X Y : Thing} (hX : Stable X) (hY : Stable Y) {w0 w w' : World} {av : Nat → Prop} {ft : List Nat} (h : Pair X Y w0 w av) (k : Touch ft w w') (hf : ∀ i, i ∈ ft → av i ∧ w0.heap.size ≤ i) : Pair X Y w0 w' av := by
  obtain ⟨ha, hB, fx, fy, x, y, hx, hy⟩ := h
  refine ⟨fun i hi => Nat.lt_of_lt_of_le (ha i hi) k.size, k.below hB (fun i hi => (hf i hi).2) (Nat.le_refl _), fx, fy, hX w w' fx x (fun i hi => k.block i (hx i hi).2.1 (fun e => (hx i hi).2.2.1 (hf i e).1)), hY w w' fy y (fun i hi => k.block i (hy i hi).2.1 (fun e => (hy i hi).2.2.1 (hf i e).1)), fun i hi => ⟨(hx i hi).1, Nat.lt_of_lt_of_le (hx i hi).2.1 k.size, (hx i hi).2.2⟩, fun i hi => ⟨(hy i hi).1, Nat.lt_of_lt_of_le (hy i hi).2.1 k.size, (hy i hi).2.2⟩⟩
theorem Pair.drewN {X Y : Thing} (hX : Stable X) (hY : Stable Y) {w0 w : World} {av : Nat → Prop} (h : Pair X Y w0 w av) (q : Nat) : Pair X Y w0 (w.drewN q) av := by
  obtain ⟨ha, hB, fx, fy, x, y, hx, hy⟩ := h
  exact ⟨ha, below_drewN' hB q, fx, fy, hX w _ fx x (fun _ _ => rfl), hY w _ fy y (fun _ _ => rfl), hx, hy⟩
end Go.Proofs.Ytalphongcnackaa
