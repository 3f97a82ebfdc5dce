/- What the methods of a disk do to the one of two. -/
import Derived.Test.YtalphongcnackaaDu
namespace Go.Proofs.Ytalphongcnackaa
open Go.RowKit
set_option maxRecDepth 100000
section
variable {w0 w : World} {av : Nat → Prop} {n D : Nat} {s : Dk} {Y : Thing}
theorem l_write (hY : Stable Y) (h : Pair (theDisk n D s) Y w0 w av) (k : Int) (l : List UInt8) (ho : s.ops < 9223372036854775807) (hws : s.ws.length ≤ 1000000) (hlm : l.length ≤ 9223372036854775807) : Calls Try.prog 22 #[.pointer (some ⟨D, 0, none⟩), .int .i64 k, .string (bs l)] w fun e w' => e = .returned (.int .i64 (s.writeE n k l)) ∧ Pair (theDisk n D (s.writeD n k l)) Y w0 w' av ∧ Keeps av w w' :=
  pair_left (Q := fun e => e = .returned (.int .i64 (s.writeE n k l))) hY h fun _ _ hA => (p_write hA.priv k l ho hws hlm).mono fun _ _ ⟨he, hp⟩ => ⟨he, Alone.of_priv hp.1, hp.2⟩
theorem r_write (hY : Stable Y) (h : Pair Y (theDisk n D s) w0 w av) (k : Int) (l : List UInt8) (ho : s.ops < 9223372036854775807) (hws : s.ws.length ≤ 1000000) (hlm : l.length ≤ 9223372036854775807) : Calls Try.prog 22 #[.pointer (some ⟨D, 0, none⟩), .int .i64 k, .string (bs l)] w fun e w' => e = .returned (.int .i64 (s.writeE n k l)) ∧ Pair Y (theDisk n D (s.writeD n k l)) w0 w' av ∧ Keeps av w w' :=
  pair_right (Q := fun e => e = .returned (.int .i64 (s.writeE n k l))) hY h fun _ _ hA => (p_write hA.priv k l ho hws hlm).mono fun _ _ ⟨he, hp⟩ => ⟨he, Alone.of_priv hp.1, hp.2⟩
theorem l_read (hY : Stable Y) (h : Pair (theDisk n D s) Y w0 w av) (k : Int) (ho : s.ops < 9223372036854775807) : Calls Try.prog 11 #[.pointer (some ⟨D, 0, none⟩), .int .i64 k] w fun e w' => e = .returned (.tuple #[.string (bs (s.readS n k)), .int .i64 (s.readE n k)]) ∧ Pair (theDisk n D (s.readD n k)) Y w0 w' av ∧ Keeps av w w' :=
  pair_left (Q := fun e => e = .returned (.tuple #[.string (bs (s.readS n k)), .int .i64 (s.readE n k)])) hY h fun _ _ hA => (p_read hA.priv k ho).mono fun _ _ ⟨he, hp⟩ => ⟨he, Alone.of_priv hp.1, hp.2⟩
theorem r_read (hY : Stable Y) (h : Pair Y (theDisk n D s) w0 w av) (k : Int) (ho : s.ops < 9223372036854775807) : Calls Try.prog 11 #[.pointer (some ⟨D, 0, none⟩), .int .i64 k] w fun e w' => e = .returned (.tuple #[.string (bs (s.readS n k)), .int .i64 (s.readE n k)]) ∧ Pair Y (theDisk n D (s.readD n k)) w0 w' av ∧ Keeps av w w' :=
  pair_right (Q := fun e => e = .returned (.tuple #[.string (bs (s.readS n k)), .int .i64 (s.readE n k)])) hY h fun _ _ hA => (p_read hA.priv k ho).mono fun _ _ ⟨he, hp⟩ => ⟨he, Alone.of_priv hp.1, hp.2⟩
theorem l_flush (hY : Stable Y) (h : Pair (theDisk n D s) Y w0 w av) (ho : s.ops < 9223372036854775807) (hws : s.ws.length ≤ 1000000) : Calls Try.prog 13 #[.pointer (some ⟨D, 0, none⟩)] w fun e w' => e = .returned (.int .i64 s.flushE) ∧ Pair (theDisk n D (s.flushD)) Y w0 w' av ∧ Keeps av w w' :=
  pair_left (Q := fun e => e = .returned (.int .i64 s.flushE)) hY h fun _ _ hA => (p_flush hA.priv ho hws).mono fun _ _ ⟨he, hp⟩ => ⟨he, Alone.of_priv hp.1, hp.2⟩
theorem r_flush (hY : Stable Y) (h : Pair Y (theDisk n D s) w0 w av) (ho : s.ops < 9223372036854775807) (hws : s.ws.length ≤ 1000000) : Calls Try.prog 13 #[.pointer (some ⟨D, 0, none⟩)] w fun e w' => e = .returned (.int .i64 s.flushE) ∧ Pair Y (theDisk n D (s.flushD)) w0 w' av ∧ Keeps av w w' :=
  pair_right (Q := fun e => e = .returned (.int .i64 s.flushE)) hY h fun _ _ hA => (p_flush hA.priv ho hws).mono fun _ _ ⟨he, hp⟩ => ⟨he, Alone.of_priv hp.1, hp.2⟩
theorem l_off (hY : Stable Y) (h : Pair (theDisk n D s) Y w0 w av)  : Calls Try.prog 17 #[.pointer (some ⟨D, 0, none⟩)] w fun e w' => e = .returned (.tuple #[]) ∧ Pair (theDisk n D (s.cut)) Y w0 w' av ∧ Keeps av w w' :=
  pair_left (Q := fun e => e = .returned (.tuple #[])) hY h fun _ _ hA => (p_off hA.priv ).mono fun _ _ ⟨he, hp⟩ => ⟨he, Alone.of_priv hp.1, hp.2⟩
theorem r_off (hY : Stable Y) (h : Pair Y (theDisk n D s) w0 w av)  : Calls Try.prog 17 #[.pointer (some ⟨D, 0, none⟩)] w fun e w' => e = .returned (.tuple #[]) ∧ Pair Y (theDisk n D (s.cut)) w0 w' av ∧ Keeps av w w' :=
  pair_right (Q := fun e => e = .returned (.tuple #[])) hY h fun _ _ hA => (p_off hA.priv ).mono fun _ _ ⟨he, hp⟩ => ⟨he, Alone.of_priv hp.1, hp.2⟩
theorem l_arm (hY : Stable Y) (h : Pair (theDisk n D s) Y w0 w av) (k : Int) (h1 : -9223372036854775808 ≤ k) (h2 : k ≤ 9223372036854775807) : Calls Try.prog 15 #[.pointer (some ⟨D, 0, none⟩), .int .i64 k] w fun e w' => e = .returned (.tuple #[]) ∧ Pair (theDisk n D (s.arm k)) Y w0 w' av ∧ Keeps av w w' :=
  pair_left (Q := fun e => e = .returned (.tuple #[])) hY h fun _ _ hA => (p_arm hA.priv k h1 h2).mono fun _ _ ⟨he, hp⟩ => ⟨he, Alone.of_priv hp.1, hp.2⟩
theorem r_arm (hY : Stable Y) (h : Pair Y (theDisk n D s) w0 w av) (k : Int) (h1 : -9223372036854775808 ≤ k) (h2 : k ≤ 9223372036854775807) : Calls Try.prog 15 #[.pointer (some ⟨D, 0, none⟩), .int .i64 k] w fun e w' => e = .returned (.tuple #[]) ∧ Pair Y (theDisk n D (s.arm k)) w0 w' av ∧ Keeps av w w' :=
  pair_right (Q := fun e => e = .returned (.tuple #[])) hY h fun _ _ hA => (p_arm hA.priv k h1 h2).mono fun _ _ ⟨he, hp⟩ => ⟨he, Alone.of_priv hp.1, hp.2⟩
theorem l_wake (hY : Stable Y) (h : Pair (theDisk n D s) Y w0 w av) (fa : Option Addr) (fs : List UInt8) (fc : Nat) (hfc : fs.length ≤ fc) (hfs : fs.length ≤ 9223372036854775807) (hF : ∀ j c, fs[j]? = some c → ∃ a, fa = some a ∧ w.cell? (a.add j) = some (.int .u8 (c.toNat : Int)) ∧ (a.block < w0.heap.size ∨ av a.block)) (hws : s.ws.length ≤ 1000000) :
    Calls Try.prog 19 #[.pointer (some ⟨D, 0, none⟩), .slice fa fs.length fc] w fun e w' => e = .returned (.tuple #[]) ∧ Pair (theDisk n D (s.wake fs)) Y w0 w' av ∧ Keeps av w w' :=
  pair_left (Q := fun e => e = .returned (.tuple #[])) hY h fun _ hav hA => (p_wake hA.priv fa fs fc hfc hfs (fun j c hj => by
    obtain ⟨a, e, h1, h2⟩ := hF j c hj
    exact ⟨a, e, h1, h2.imp id (hav _)⟩) hws).mono fun _ _ ⟨he, hp⟩ => ⟨he, Alone.of_priv hp.1, hp.2⟩
theorem l_ops (h : Pair (theDisk n D s) Y w0 w av) : Calls Try.prog 25 #[.pointer (some ⟨D, 0, none⟩)] w fun e w' => e = .returned (.int .u64 (s.ops : Int)) ∧ w' = w := by
  obtain ⟨_, _, _, _, x, y, _, _⟩ := h
  obtain ⟨F, N, ao, cap, h, _⟩ := x
  exact ops_any h
theorem l_on (h : Pair (theDisk n D s) Y w0 w av) : Calls Try.prog 24 #[.pointer (some ⟨D, 0, none⟩)] w fun e w' => e = .returned (.bool (!s.off)) ∧ w' = w := by
  obtain ⟨_, _, _, _, x, y, _, _⟩ := h
  obtain ⟨F, N, ao, cap, h, _⟩ := x
  exact on_any h
theorem l_len (h : Pair (theDisk n D s) Y w0 w av) : Calls Try.prog 26 #[.pointer (some ⟨D, 0, none⟩)] w fun e w' => e = .returned (.int .i64 (n : Int)) ∧ w' = w := by
  obtain ⟨_, _, _, _, x, y, _, _⟩ := h
  obtain ⟨F, N, ao, cap, h, _⟩ := x
  exact len_any h
theorem r_wake (hY : Stable Y) (h : Pair Y (theDisk n D s) w0 w av) (fa : Option Addr) (fs : List UInt8) (fc : Nat) (hfc : fs.length ≤ fc) (hfs : fs.length ≤ 9223372036854775807) (hF : ∀ j c, fs[j]? = some c → ∃ a, fa = some a ∧ w.cell? (a.add j) = some (.int .u8 (c.toNat : Int)) ∧ (a.block < w0.heap.size ∨ av a.block)) (hws : s.ws.length ≤ 1000000) :
    Calls Try.prog 19 #[.pointer (some ⟨D, 0, none⟩), .slice fa fs.length fc] w fun e w' => e = .returned (.tuple #[]) ∧ Pair Y (theDisk n D (s.wake fs)) w0 w' av ∧ Keeps av w w' :=
  pair_right (Q := fun e => e = .returned (.tuple #[])) hY h fun _ hav hA => (p_wake hA.priv fa fs fc hfc hfs (fun j c hj => by
    obtain ⟨a, e, h1, h2⟩ := hF j c hj
    exact ⟨a, e, h1, h2.imp id (hav _)⟩) hws).mono fun _ _ ⟨he, hp⟩ => ⟨he, Alone.of_priv hp.1, hp.2⟩
theorem r_ops (h : Pair Y (theDisk n D s) w0 w av) : Calls Try.prog 25 #[.pointer (some ⟨D, 0, none⟩)] w fun e w' => e = .returned (.int .u64 (s.ops : Int)) ∧ w' = w := by
  obtain ⟨_, _, _, _, x, y, _, _⟩ := h
  obtain ⟨F, N, ao, cap, h, _⟩ := y
  exact ops_any h
theorem r_on (h : Pair Y (theDisk n D s) w0 w av) : Calls Try.prog 24 #[.pointer (some ⟨D, 0, none⟩)] w fun e w' => e = .returned (.bool (!s.off)) ∧ w' = w := by
  obtain ⟨_, _, _, _, x, y, _, _⟩ := h
  obtain ⟨F, N, ao, cap, h, _⟩ := y
  exact on_any h
theorem r_len (h : Pair Y (theDisk n D s) w0 w av) : Calls Try.prog 26 #[.pointer (some ⟨D, 0, none⟩)] w fun e w' => e = .returned (.int .i64 (n : Int)) ∧ w' = w := by
  obtain ⟨_, _, _, _, x, y, _, _⟩ := h
  obtain ⟨F, N, ao, cap, h, _⟩ := y
  exact len_any h
end
end Go.Proofs.Ytalphongcnackaa
