/- What the methods of a disk do to the one of two. -/
import Derived.Test.YtcmojlfhkbkfcaaDu
namespace Go.Proofs.Ytcmojlfhkbkfcaa
open Go.RowKit
section
variable {w0 w : World} {av : Nat → Prop} {n D : Nat} {s : Dk} {Y : Thing}
theorem l_write (hY : Stable Y) (h : Pair (theDisk n D s) Y w0 w av) (k : Int) (l : List UInt8) (ho : s.ops < 9223372036854775807) (hws : s.ws.length ≤ 1000000) (hlm : l.length ≤ 9223372036854775807) : Calls Try.prog 22 #[.pointer (some ⟨D, 0, none⟩), .int .i64 k, .string (bs l)] w fun e w' => e = .returned (.int .i64 (s.writeE n k l)) ∧ Pair (theDisk n D (s.writeD n k l)) Y w0 w' av ∧ Keeps av w w' :=
  pair_left (Q := fun e => e = .returned (.int .i64 (s.writeE n k l))) hY h fun _ _ hA => (p_write hA.priv k l ho hws hlm).mono fun _ _ ⟨he, hp⟩ => ⟨he, Alone.of_priv hp.1, hp.2⟩
theorem r_write (hY : Stable Y) (h : Pair Y (theDisk n D s) w0 w av) (k : Int) (l : List UInt8) (ho : s.ops < 9223372036854775807) (hws : s.ws.length ≤ 1000000) (hlm : l.length ≤ 9223372036854775807) : Calls Try.prog 22 #[.pointer (some ⟨D, 0, none⟩), .int .i64 k, .string (bs l)] w fun e w' => e = .returned (.int .i64 (s.writeE n k l)) ∧ Pair Y (theDisk n D (s.writeD n k l)) w0 w' av ∧ Keeps av w w' :=
  pair_right (Q := fun e => e = .returned (.int .i64 (s.writeE n k l))) hY h fun _ _ hA => (p_write hA.priv k l ho hws hlm).mono fun _ _ ⟨he, hp⟩ => ⟨he, Alone.of_priv hp.1, hp.2⟩
theorem l_read (hY : Stable Y) (h : Pair (theDisk n D s) Y w0 w av) (k : Int) (ho : s.ops < 9223372036854775807) : Calls Try.prog 11 #[.pointer (some ⟨D, 0, none⟩), .int .i64 k] w fun e w' => e = .returned (.tuple #[.string (bs (s.readS n k)), .int .i64 (s.readE n k)]) ∧ Pair (theDisk n D (s.readD n k)) Y w0 w' av ∧ Keeps av w w' :=
  pair_left (Q := fun e => e = .returned (.tuple #[.string (bs (s.readS n k)), .int .i64 (s.readE n k)])) hY h fun _ _ hA => (p_read hA.priv k ho).mono fun _ _ ⟨he, hp⟩ => ⟨he, Alone.of_priv hp.1, hp.2⟩
theorem r_read (hY : Stable Y) (h : Pair Y (theDisk n D s) w0 w av) (k : Int) (ho : s.ops < 9223372036854775807) : Calls Try.prog 11 #[.pointer (some ⟨D, 0, none⟩), .int .i64 k] w fun e w' => e = .returned (.tuple #[.string (bs (s.readS n k)), .int .i64 (s.readE n k)]) ∧ Pair Y (theDisk n D (s.readD n k)) w0 w' av ∧ Keeps av w w' :=
  pair_right (Q := fun e => e = .returned (.tuple #[.string (bs (s.readS n k)), .int .i64 (s.readE n k)])) hY h fun _ _ hA => (p_read hA.priv k ho).mono fun _ _ ⟨he, hp⟩ => ⟨he, Alone.of_priv hp.1, hp.2⟩
theorem l_flush (hY : Stable Y) (h : Pair (theDisk n D s) Y w0 w av) (ho : s.ops < 9223372036854775807) (hws : s.ws.length ≤ 1000000) : Calls Try.prog 13 #[.pointer (some ⟨D, 0, none⟩)] w fun e w' => e = .returned (.int .i64 s.flushE) ∧ Pair (theDisk n D (s.flushD)) Y w0 w' av ∧ Keeps av w w' :=
  pair_left (Q := fun e => e = .returned (.int .i64 s.flushE)) hY h fun _ _ hA => (p_flush hA.priv ho hws).mono fun _ _ ⟨he, hp⟩ => ⟨he, Alone.of_priv hp.1, hp.2⟩
theorem r_flush (hY : Stable Y) (h : Pair Y (theDisk n D s) w0 w av) (ho : s.ops < 9223372036854775807) (hws : s.ws.length ≤ 1000000) : Calls Try.prog 13 #[.pointer (some ⟨D, 0, none⟩)] w fun e w' => e = .returned (.int .i64 s.flushE) ∧ Pair Y (theDisk n D (s.flushD)) w0 w' av ∧ Keeps av w w' :=
  pair_right (Q := fun e => e = .returned (.int .i64 s.flushE)) hY h fun _ _ hA => (p_flush hA.priv ho hws).mono fun _ _ ⟨he, hp⟩ => ⟨he, Alone.of_priv hp.1, hp.2⟩
theorem l_off (hY : Stable Y) (h : Pair (theDisk n D s) Y w0 w av)  : Calls Try.prog 17 #[.pointer (some ⟨D, 0, none⟩)] w fun e w' => e = .returned (.tuple #[]) ∧ Pair (theDisk n D (s.cut)) Y w0 w' av ∧ Keeps av w w' :=
  pair_left (Q := fun e => e = .returned (.tuple #[])) hY h fun _ _ hA => (p_off hA.priv ).mono fun _ _ ⟨he, hp⟩ => ⟨he, Alone.of_priv hp.1, hp.2⟩
theorem r_off (hY : Stable Y) (h : Pair Y (theDisk n D s) w0 w av)  : Calls Try.prog 17 #[.pointer (some ⟨D, 0, none⟩)] w fun e w' => e = .returned (.tuple #[]) ∧ Pair Y (theDisk n D (s.cut)) w0 w' av ∧ Keeps av w w' :=
  pair_right (Q := fun e => e = .returned (.tuple #[])) hY h fun _ _ hA => (p_off hA.priv ).mono fun _ _ ⟨he, hp⟩ => ⟨he, Alone.of_priv hp.1, hp.2⟩
theorem l_arm (hY : Stable Y) (h : Pair (theDisk n D s) Y w0 w av) (k : Int) (h1 : -9223372036854775808 ≤ k) (h2 : k ≤ 9223372036854775807) : Calls Try.prog 15 #[.pointer (some ⟨D, 0, none⟩), .int .i64 k] w fun e w' => e = .returned (.tuple #[]) ∧ Pair (theDisk n D (s.arm k)) Y w0 w' av ∧ Keeps av w w' :=
  pair_left (Q := fun e => e = .returned (.tuple #[])) hY h fun _ _ hA => (p_arm hA.priv k h1 h2).mono fun _ _ ⟨he, hp⟩ => ⟨he, Alone.of_priv hp.1, hp.2⟩
theorem r_arm (hY : Stable Y) (h : Pair Y (theDisk n D s) w0 w av) (k : Int) (h1 : -9223372036854775808 ≤ k) (h2 : k ≤ 9223372036854775807) : Calls Try.prog 15 #[.pointer (some ⟨D, 0, none⟩), .int .i64 k] w fun e w' => e = .returned (.tuple #[]) ∧ Pair Y (theDisk n D (s.arm k)) w0 w' av ∧ Keeps av w w' :=
  pair_right (Q := fun e => e = .returned (.tuple #[])) hY h fun _ _ hA => (p_arm hA.priv k h1 h2).mono fun _ _ ⟨he, hp⟩ => ⟨he, Alone.of_priv hp.1, hp.2⟩
theorem l_wake (hY : Stable Y) (h : Pair (theDisk n D s) Y w0 w av) (fa : Option Addr) (fs : List UInt8) (fc : Nat) (hfc : fs.length ≤ fc) (hfs : fs.length ≤ 9223372036854775807) (hF : ∀ j c, fs[j]? = some c → ∃ a, fa = some a ∧ w.cell? (a.add j) = some (.int .u8 (c.toNat : Int)) ∧ (a.block < w0.heap.size ∨ av a.block)) (hws : s.ws.length ≤ 1000000) :
    Calls Try.prog 19 #[.pointer (some ⟨D, 0, none⟩), .slice fa fs.length fc] w fun e w' => e = .returned (.tuple #[]) ∧ Pair (theDisk n D (s.wake fs)) Y w0 w' av ∧ Keeps av w w' :=
  pair_left (Q := fun e => e = .returned (.tuple #[])) hY h fun _ hav hA => (p_wake hA.priv fa fs fc hfc hfs (fun j c hj => by
    obtain ⟨a, e, h1, h2⟩ := hF j c hj
    exact ⟨a, e, h1, h2.imp id (hav _)⟩) hws).mono fun _ _ ⟨he, hp⟩ => ⟨he, Alone.of_priv hp.1, hp.2⟩
theorem l_ops (h : Pair (theDisk n D s) Y w0 w av) : Calls Try.prog 25 #[.pointer (some ⟨D, 0, none⟩)] w fun e w' => e = .returned (.int .u64 (s.ops : Int)) ∧ w' = w := by
  obtain ⟨_, _, _, _, x, y, _, _⟩ := h
  obtain ⟨F, N, ao, cap, h, _⟩ := x
  exact ops_any h
theorem l_on (h : Pair (theDisk n D s) Y w0 w av) : Calls Try.prog 24 #[.pointer (some ⟨D, 0, none⟩)] w fun e w' => e = .returned (.bool (!s.off)) ∧ w' = w := by
  obtain ⟨_, _, _, _, x, y, _, _⟩ := h
  obtain ⟨F, N, ao, cap, h, _⟩ := x
  exact on_any h
theorem l_len (h : Pair (theDisk n D s) Y w0 w av) : Calls Try.prog 26 #[.pointer (some ⟨D, 0, none⟩)] w fun e w' => e = .returned (.int .i64 (n : Int)) ∧ w' = w := by
  obtain ⟨_, _, _, _, x, y, _, _⟩ := h
  obtain ⟨F, N, ao, cap, h, _⟩ := x
  exact len_any h
theorem r_wake (hY : Stable Y) (h : Pair Y (theDisk n D s) w0 w av) (fa : Option Addr) (fs : List UInt8) (fc : Nat) (hfc : fs.length ≤ fc) (hfs : fs.length ≤ 9223372036854775807) (hF : ∀ j c, fs[j]? = some c → ∃ a, fa = some a ∧ w.cell? (a.add j) = some (.int .u8 (c.toNat : Int)) ∧ (a.block < w0.heap.size ∨ av a.block)) (hws : s.ws.length ≤ 1000000) :
    Calls Try.prog 19 #[.pointer (some ⟨D, 0, none⟩), .slice fa fs.length fc] w fun e w' => e = .returned (.tuple #[]) ∧ Pair Y (theDisk n D (s.wake fs)) w0 w' av ∧ Keeps av w w' :=
  pair_right (Q := fun e => e = .returned (.tuple #[])) hY h fun _ hav hA => (p_wake hA.priv fa fs fc hfc hfs (fun j c hj => by
    obtain ⟨a, e, h1, h2⟩ := hF j c hj
    exact ⟨a, e, h1, h2.imp id (hav _)⟩) hws).mono fun _ _ ⟨he, hp⟩ => ⟨he, Alone.of_priv hp.1, hp.2⟩
theorem r_ops (h : Pair Y (theDisk n D s) w0 w av) : Calls Try.prog 25 #[.pointer (some ⟨D, 0, none⟩)] w fun e w' => e = .returned (.int .u64 (s.ops : Int)) ∧ w' = w := by
  obtain ⟨_, _, _, _, x, y, _, _⟩ := h
  obtain ⟨F, N, ao, cap, h, _⟩ := y
  exact ops_any h
theorem r_on (h : Pair Y (theDisk n D s) w0 w av) : Calls Try.prog 24 #[.pointer (some ⟨D, 0, none⟩)] w fun e w' => e = .returned (.bool (!s.off)) ∧ w' = w := by
  obtain ⟨_, _, _, _, x, y, _, _⟩ := h
  obtain ⟨F, N, ao, cap, h, _⟩ := y
  exact on_any h
theorem r_len (h : Pair Y (theDisk n D s) w0 w av) : Calls Try.prog 26 #[.pointer (some ⟨D, 0, none⟩)] w fun e w' => e = .returned (.int .i64 (n : Int)) ∧ w' = w := by
  obtain ⟨_, _, _, _, x, y, _, _⟩ := h
  obtain ⟨F, N, ao, cap, h, _⟩ := y
  exact len_any h
end

/-- one thing that is done: a write, a flush, or a power that goes and comes -/
structure DoV where
  at_ : Nat
  b : UInt8
  fl : Bool
  fa : Option Addr
  fs : List UInt8
  fc : Nat
def DoV.cells (x : DoV) : List Value := [.int .u8 (x.at_ : Int), .int .u8 (x.b.toNat : Int), .bool x.fl, .slice x.fa x.fs.length x.fc]
structure DoAt (w : World) (p : Addr) (x : DoV) : Prop where
  c : ∀ j v, x.cells[j]? = some v → w.cell? (p.add j) = some v
  a : x.at_ < 256
  fc : x.fs.length ≤ x.fc
  fl : x.fs.length ≤ 9223372036854775807
  f : ∀ j c, x.fs[j]? = some c → ∃ q, x.fa = some q ∧ w.cell? (q.add j) = some (.int .u8 (c.toNat : Int))
/-- a row of them that came in -/
def Dos (w : World) (a : Option Addr) (ls : List DoV) : Prop := ∀ j x, ls[j]? = some x → ∃ p, a = some p ∧ DoAt w (p.add (j * 4)) x
theorem cell_below {w0 w : World} (hb : Below w0.heap.size w0 w) {p : Addr} {v : Value} (h : w0.cell? p = some v) : w.cell? p = some v := by
  rw [← h]; exact hb.cell (World.block_lt_of_cell? w0 p h)
theorem DoAt.below {w0 w : World} {p : Addr} {x : DoV} (h : DoAt w0 p x) (hb : Below w0.heap.size w0 w) : DoAt w p x :=
  ⟨fun j v hj => cell_below hb (h.c j v hj), h.a, h.fc, h.fl, fun j c hj => by
    obtain ⟨q, e, hc⟩ := h.f j c hj
    exact ⟨q, e, cell_below hb hc⟩⟩
theorem DoAt.fates {w0 w : World} {p : Addr} {x : DoV} (h : DoAt w0 p x) (hb : Below w0.heap.size w0 w) (av : Nat → Prop) : ∀ j c, x.fs[j]? = some c → ∃ a, x.fa = some a ∧ w.cell? (a.add j) = some (.int .u8 (c.toNat : Int)) ∧ (a.block < w0.heap.size ∨ av a.block) := fun j c hj => by
  obtain ⟨q, e, hc⟩ := h.f j c hj
  refine ⟨q, e, cell_below hb hc, .inl ?_⟩
  have := World.block_lt_of_cell? w0 _ hc
  rwa [add_block] at this
theorem info_do : (Try.prog.info? 54).map (·.size) = some 4 := by kernel_rfl
def zdo : Array Value := #[.int .u8 0, .int .u8 0, .bool false, .slice none 0 0]
theorem zero_do : ∀ w, (zeroValue 54).run Try.prog w = .ok (.agg zdo) w := fun _ => by kernel_rfl
theorem DoV.one (x : DoV) : ∀ v ∈ x.cells, v.oneCell' = true := by
  intro v hv
  simp only [DoV.cells, List.mem_cons, List.not_mem_nil, or_false] at hv
  rcases hv with rfl | rfl | rfl | rfl <;> rfl

def Dk.does (s : Dk) (x : DoV) : Dk := if x.fs ≠ [] then s.cut.wake x.fs else if x.fl then s.flushD else s.writeD 4 ((x.at_ % 4 : Nat) : Int) (List.replicate 128 x.b)
/-- a disk that is on, without a fuse, after so many things -/
structure Calm (m : Nat) (s : Dk) : Prop where
  off : s.off = false
  fuse : s.fuse = 0
  ws : s.ws.length ≤ m
  ops : s.ops ≤ m
theorem Calm.mono {m k : Nat} {s : Dk} (h : Calm m s) (hk : m ≤ k) : Calm k s := ⟨h.off, h.fuse, Nat.le_trans h.ws hk, Nat.le_trans h.ops hk⟩
theorem Calm.tick {m : Nat} {s : Dk} (h : Calm m s) : s.tick = { s with ops := s.ops + 1 } := by
  unfold Dk.tick
  rw [h.off, h.fuse]
  simp [h.off]
theorem Calm.flush {m : Nat} {s : Dk} (h : Calm m s) : s.flushD = { s with ops := s.ops + 1, fl := s.nw, ws := [] } ∧ s.flushE = 0 := by
  unfold Dk.flushD Dk.flushE
  rw [h.tick]
  simp only [h.off]
  exact ⟨rfl, rfl⟩
theorem Calm.write {m : Nat} {s : Dk} (h : Calm m s) (n k : Nat) (l : List UInt8) (hk : k < n) (hl : l.length ≤ 128) : s.writeD n (k : Int) l = { s with ops := s.ops + 1, ws := s.ws ++ [(k, pad l)] } ∧ s.writeE n (k : Int) l = 0 := by
  have hb : badArg n (k : Int) l.length = 0 := badArg_zero (by omega) (by omega) _ (by omega)
  unfold Dk.writeD Dk.writeE
  rw [hb, h.tick]
  simp only [h.off, Int.toNat_natCast]
  exact ⟨rfl, rfl⟩
theorem Calm.again {m : Nat} {s : Dk} (_h : Calm m s) (fs : List UInt8) : s.cut.wake fs = { s with fl := fated s.fl (s.ws.zip fs), ws := [], off := false, fuse := 0 } := rfl
theorem Calm.read {m : Nat} {s : Dk} (h : Calm m s) (n : Nat) (k : Int) : (s.readD n k).fl = s.fl ∧ (s.readD n k).ws = s.ws ∧ Calm (m + 1) (s.readD n k) ∧ s.ops ≤ (s.readD n k).ops := by
  unfold Dk.readD
  split
  · exact ⟨rfl, rfl, h.mono (by omega), Nat.le_refl _⟩
  · rw [h.tick]
    exact ⟨rfl, rfl, ⟨h.off, h.fuse, by have := h.ws; show s.ws.length ≤ _; omega, by have := h.ops; show s.ops + 1 ≤ _; omega⟩, by show s.ops ≤ s.ops + 1; omega⟩
theorem Calm.does {m : Nat} {s : Dk} (h : Calm m s) (x : DoV) : Calm (m + 1) (s.does x) := by
  have h1 := h.ws
  have h2 := h.ops
  unfold Dk.does
  split
  · rw [h.again]
    exact ⟨rfl, rfl, by simp, by show s.ops ≤ _; omega⟩
  · split
    · rw [h.flush.1]
      exact ⟨h.off, h.fuse, by simp, by show s.ops + 1 ≤ _; omega⟩
    · rw [(h.write 4 (x.at_ % 4) _ (Nat.mod_lt _ (by omega)) (by simp)).1]
      exact ⟨h.off, h.fuse, by show (s.ws ++ _).length ≤ _; rw [List.length_append]; simp; omega, by show s.ops + 1 ≤ _; omega⟩
/-- two disks that hold the same -/
structure Twin (m : Nat) (a b : Dk) : Prop where
  fl : a.fl = b.fl
  ws : a.ws = b.ws
  ops : b.ops ≤ a.ops
  a : Calm m a
  b : Calm m b
theorem Twin.does {m : Nat} {a b : Dk} (h : Twin m a b) (x : DoV) : Twin (m + 1) (a.does x) (b.does x) := by
  have e1 := h.fl
  have e2 := h.ws
  have e3 := h.ops
  have en : a.nw = b.nw := by unfold Dk.nw; rw [e1, e2]
  refine ⟨?_, ?_, ?_, h.a.does x, h.b.does x⟩
  all_goals
    unfold Dk.does
    split
    · rw [h.a.again, h.b.again]
      try first | (show fated _ _ = fated _ _; rw [e1, e2]) | rfl | exact e3
    · split
      · rw [h.a.flush.1, h.b.flush.1]
        try first | exact en | rfl | (show b.ops + 1 ≤ a.ops + 1; omega)
      · rw [(h.a.write 4 (x.at_ % 4) _ (Nat.mod_lt _ (by omega)) (by simp)).1, (h.b.write 4 (x.at_ % 4) _ (Nat.mod_lt _ (by omega)) (by simp)).1]
        try first | exact e1 | (show a.ws ++ _ = b.ws ++ _; rw [e2]) | (show b.ops + 1 ≤ a.ops + 1; omega)
theorem Twin.read {m : Nat} {a b : Dk} (h : Twin m a b) (k : Int) : Twin (m + 1) (a.readD 4 k) b := by
  obtain ⟨r1, r2, r3, r4⟩ := h.a.read 4 k
  exact ⟨by rw [r1]; exact h.fl, by rw [r2]; exact h.ws, Nat.le_trans h.ops r4, r3, h.b.mono (by omega)⟩
theorem Twin.mono {m k : Nat} {a b : Dk} (h : Twin m a b) (hk : m ≤ k) : Twin k a b := ⟨h.fl, h.ws, h.ops, h.a.mono hk, h.b.mono hk⟩
theorem Twin.both {m : Nat} {a b : Dk} (h : Twin m a b) (k : Int) : a.readS 4 k = b.readS 4 k ∧ a.readE 4 k = b.readE 4 k ∧ Twin (m + 1) (a.readD 4 k) (b.readD 4 k) := by
  have en : a.nw = b.nw := by unfold Dk.nw; rw [h.fl, h.ws]
  have oa : a.tick.off = false := by rw [h.a.tick]; exact h.a.off
  have ob : b.tick.off = false := by rw [h.b.tick]; exact h.b.off
  obtain ⟨r1, r2, r3, r4⟩ := h.a.read 4 k
  obtain ⟨q1, q2, q3, q4⟩ := h.b.read 4 k
  refine ⟨?_, ?_, by rw [r1, q1]; exact h.fl, by rw [r2, q2]; exact h.ws, ?_, r3, q3⟩
  · unfold Dk.readS; rw [oa, ob, en]
  · unfold Dk.readE; rw [oa, ob]
  · have := h.ops
    unfold Dk.readD
    split
    · exact this
    · rw [h.a.tick, h.b.tick]; show b.ops + 1 ≤ a.ops + 1; omega
theorem fresh_calm (n : Nat) : Calm 0 (Dk.fresh n) := ⟨rfl, rfl, by simp [Dk.fresh], by simp [Dk.fresh]⟩
end Go.Proofs.Ytcmojlfhkbkfcaa
