/- Where a journal lies; the closure that writes a sector. -/
import Derived.Test.YtcgjkopdnhkdiaaOp
import Derived.Test.YtcgjkopdnhkdiaaDo
import Derived.Test.YtcgjkopdnhkdiaaOa
namespace Go.Proofs.Ytcgjkopdnhkdiaa
open Go.RowKit
set_option maxRecDepth 100000
/-- where a journal lies: its disk, its first sector, the sectors of a half -/
structure Pl where
  D : Nat
  at_ : Nat
  span : Nat
def Pl.cells (p : Pl) : List Value := [.pointer (some ⟨p.D, 0, none⟩), .int .i64 (p.at_ : Int), .int .i64 (p.span : Int)]
def Pl.v (p : Pl) : Value := .agg p.cells.toArray
structure Pl.Ok (p : Pl) : Prop where
  a : p.at_ ≤ 4096
  s : p.span ≤ 4096
theorem other_any (i : Nat) (hi : i ≤ 1) (w : World) : Calls Try.prog 49 #[.int .i64 (i : Int)] w fun e w' => e = .returned (.int .i64 ((1 - i : Nat) : Int)) ∧ w' = w := by
  have e1 : IntKind.i64.wrap (1 - (i : Int)) = ((1 - i : Nat) : Int) := by rw [IntKind.wrap_i64]; omega
  go_enter Try.func49, Try.ntmps49
  go_wp2
  go_ret
  exact ⟨rfl, rfl⟩
theorem space_any (p : Pl) (hp : p.Ok) (w : World) : Calls Try.prog 62 #[p.v] w fun e w' => e = .returned (.int .i64 ((p.span * 128 : Nat) : Int)) ∧ Below w.heap.size w w' := by
  have hs := hp.s
  obtain ⟨x, hx⟩ : ∃ x : Int, x = (p.span : Int) := ⟨_, rfl⟩
  have e1 : IntKind.i64.wrap (x * 128) = ((p.span * 128 : Nat) : Int) := by rw [IntKind.wrap_i64]; omega
  unfold Pl.v Pl.cells
  rw [← hx]
  generalize ((p.span * 128 : Nat) : Int) = y at *
  clear hx hs hp
  have hB := (Below.refl _ w).alloc (Nat.le_refl _) (.cells #[.pointer (some ⟨p.D, 0, none⟩), .int .i64 (p.at_ : Int), .int .i64 x] 83)
  have HB := Lib.hid hB
  clear hB
  go_enter Try.func62, Try.ntmps62
  go_wp2
  go_ret
  exact ⟨rfl, HB.out⟩
theorem headAt_any (p : Pl) (hp : p.Ok) (i : Nat) (hi : i ≤ 1) (w : World) : Calls Try.prog 55 #[p.v, .int .i64 (i : Int)] w fun e w' => e = .returned (.int .i64 ((p.at_ + i : Nat) : Int)) ∧ Below w.heap.size w w' := by
  have hs := hp.a
  obtain ⟨x, hx⟩ : ∃ x : Int, x = (p.at_ : Int) := ⟨_, rfl⟩
  have e1 : IntKind.i64.wrap (x + (i : Int)) = ((p.at_ + i : Nat) : Int) := by rw [IntKind.wrap_i64]; omega
  unfold Pl.v Pl.cells
  rw [← hx]
  generalize ((p.at_ + i : Nat) : Int) = y at *
  clear hx hs hp
  have hB := (Below.refl _ w).alloc (Nat.le_refl _) (.cells #[.pointer (some ⟨p.D, 0, none⟩), .int .i64 x, .int .i64 (p.span : Int)] 83)
  have HB := Lib.hid hB
  clear hB
  go_enter Try.func55, Try.ntmps55
  go_wp2
  go_ret
  exact ⟨rfl, HB.out⟩
theorem halfAt_any (p : Pl) (hp : p.Ok) (i : Nat) (hi : i ≤ 1) (w : World) : Calls Try.prog 79 #[p.v, .int .i64 (i : Int)] w fun e w' => e = .returned (.int .i64 ((p.at_ + 2 + i * p.span : Nat) : Int)) ∧ Below w.heap.size w w' := by
  have hs := hp.a
  have hs2 := hp.s
  obtain ⟨x, hx⟩ : ∃ x : Int, x = (p.at_ : Int) := ⟨_, rfl⟩
  obtain ⟨z, hz⟩ : ∃ z : Int, z = (p.span : Int) := ⟨_, rfl⟩
  obtain ⟨m, hm⟩ : ∃ m : Int, m = ((i * p.span : Nat) : Int) := ⟨_, rfl⟩
  have hm0 : (i : Int) * z = m := by rw [hm, hz, Int.natCast_mul]
  have hm1 : 0 ≤ m ∧ m ≤ 4096 := by
    rw [hm]
    have : i = 0 ∨ i = 1 := by omega
    rcases this with rfl | rfl <;> omega
  have e1 : IntKind.i64.wrap (x + 2) = x + 2 := by rw [IntKind.wrap_i64]; omega
  have e2 : IntKind.i64.wrap m = m := by rw [IntKind.wrap_i64]; omega
  have e3 : IntKind.i64.wrap (x + 2 + m) = ((p.at_ + 2 + i * p.span : Nat) : Int) := by rw [IntKind.wrap_i64]; omega
  unfold Pl.v Pl.cells
  rw [← hx, ← hz]
  generalize ((p.at_ + 2 + i * p.span : Nat) : Int) = y at *
  clear hx hs hp hz hs2 hm hm1
  have hB := (Below.refl _ w).alloc (Nat.le_refl _) (.cells #[.pointer (some ⟨p.D, 0, none⟩), .int .i64 x, .int .i64 z] 83)
  have HB := Lib.hid hB
  clear hB
  go_enter Try.func79, Try.ntmps79
  go_wp2
  go_ret
  exact ⟨rfl, HB.out⟩
/-- what a closure that writes a sector holds -/
structure WrAt (w : World) (b D : Nat) (k : Int) (l : List UInt8) : Prop where
  p : ∃ c1 c2, At w b 83 [.pointer (some ⟨D, 0, none⟩), c1, c2]
  k : At w (b + 1) 3 [.int .i64 k]
  s : At w (b + 2) 9 [.string (bs l)]
def wrV (b : Nat) : Value := .func (.func 86) #[] #[.pointer (some ⟨b, 0, none⟩), .pointer (some ⟨b + 1, 0, none⟩), .pointer (some ⟨b + 2, 0, none⟩)]
theorem WrAt.same {w w' : World} {b D : Nat} {k : Int} {l : List UInt8} (h : WrAt w b D k l) (hk : ∀ i, b ≤ i → i ≤ b + 2 → w'.heap[i]? = w.heap[i]?) : WrAt w' b D k l := by
  obtain ⟨⟨c1, c2, h1⟩, h2, h3⟩ := h
  refine ⟨⟨c1, c2, ?_⟩, ?_, ?_⟩
  · unfold At at *; rw [hk b (by omega) (by omega)]; exact h1
  · unfold At at *; rw [hk (b + 1) (by omega) (by omega)]; exact h2
  · unfold At at *; rw [hk (b + 2) (by omega) (by omega)]; exact h3
theorem writing_any (p : Pl) (k : Int) (l : List UInt8) (w : World) : Calls Try.prog 69 #[p.v, .int .i64 k, .string (bs l)] w fun e w' => e = .returned (wrV w.heap.size) ∧ WrAt w' w.heap.size p.D k l ∧ w'.heap.size = w.heap.size + 3 ∧ Below w.heap.size w w' := by
  have h0 := ((At.new w p.cells.toArray 83).alloc (.cells #[.int .i64 k] 3)).alloc (.cells #[.string (bs l)] 9)
  have h1 := (At.new (w.alloc (.cells p.cells.toArray 83)) #[.int .i64 k] 3).alloc (.cells #[.string (bs l)] 9)
  have h2 := At.new ((w.alloc (.cells p.cells.toArray 83)).alloc (.cells #[.int .i64 k] 3)) #[.string (bs l)] 9
  have hB := (((Below.refl _ w).alloc (Nat.le_refl _) (.cells p.cells.toArray 83)).alloc (by simp) (.cells #[.int .i64 k] 3)).alloc (by simp; omega) (.cells #[.string (bs l)] 9)
  rw [World.size_alloc] at h1 h2
  rw [World.size_alloc] at h2
  have hz : (((w.alloc (.cells p.cells.toArray 83)).alloc (.cells #[.int .i64 k] 3)).alloc (.cells #[.string (bs l)] 9)).heap.size = w.heap.size + 3 := by rw [World.size_alloc, World.size_alloc, World.size_alloc]
  have H := Lib.hid (And.intro (WrAt.mk ⟨_, _, h0⟩ h1 h2) (And.intro hz hB))
  clear h0 h1 h2 hB hz
  unfold Pl.v
  unfold Pl.cells at *
  go_enter Try.func69, Try.ntmps69
  go_wp2
  go_ret
  exact ⟨rfl, H.out.1, H.out.2.1, H.out.2.2⟩
section
variable {w0 w : World} {av : Nat → Prop} {n D : Nat} {s : Dk}
theorem wrote_any (h : Priv w0 w av n D s) (b : Nat) (k : Int) (l : List UInt8) (hW : WrAt w b D k l) (ho : s.ops < 9223372036854775807) (hws : s.ws.length ≤ 1000000) (hlm : l.length ≤ 9223372036854775807) :
    Calls Try.prog 86 #[.pointer (some ⟨b, 0, none⟩), .pointer (some ⟨b + 1, 0, none⟩), .pointer (some ⟨b + 2, 0, none⟩)] w fun e w' => e = .returned (.int .i64 (s.writeE n k l)) ∧ PrivTo w0 w av n D (s.writeD n k l) w' := by
  obtain ⟨⟨c1, c2, h1⟩, h2, h3⟩ := hW
  have d0 := h1.cell 0 _ rfl
  have d1 := h2.cell 0 _ rfl
  have d2 := h3.cell 0 _ rfl
  have H := Lib.hid h
  clear h h1 h2 h3
  go_enter Try.func86, Try.ntmps86
  go_wp2_with fail
  refine (p_write H.out k l ho hws hlm).mono ?_
  rintro e w1 ⟨rfl, hp⟩
  have HP := Lib.hid hp
  clear hp
  go_wp2
  go_ret
  exact ⟨rfl, HP.out⟩
end
end Go.Proofs.Ytcgjkopdnhkdiaa
