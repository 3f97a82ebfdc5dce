/- A head's text. -/
import Derived.Test.YtcgjkopdnhkdiaaJe
import Derived.Test.YtcgjkopdnhkdiaaDj
import Derived.Test.YtcgjkopdnhkdiaaDx
namespace Go.Proofs.Ytcgjkopdnhkdiaa
open Go.RowKit
set_option maxRecDepth 100000
/-- what a head says -/
structure Hd where
  num : Nat
  half : Nat
  size : Nat
def Hd.cells (h : Hd) : List Value := [.int .u64 (h.num : Int), .int .i64 (h.half : Int), .int .i64 (h.size : Int)]
def Hd.v (h : Hd) : Value := .agg h.cells.toArray
structure Hd.Ok (h : Hd) : Prop where
  half : h.half ≤ 1
  size : h.size ≤ 1000000
def Hd.text (h : Hd) : List UInt8 := beN h.num 8 ++ (beN h.half 4 ++ beN h.size 4)
theorem Hd.text_len (h : Hd) : h.text.length = 16 := by unfold Hd.text; simp [beN_len]
theorem enter_rowOf : ∀ (args : Array Value) (w : World), (callFunc 96 args).run Try.prog w = .ok (.enter 96 args) w := enters_of Try.func96 (by kernel_rfl) rfl
theorem run_cv64 {o : Oper} {a : Act} {w : World} (x : Operand) (ho : o.op = .convert 3 41 x) (n : Nat) (hn : n < 9223372036854775808) (hx : a.eval x = .int .i64 (n : Int)) :
    (execOp a.eval o).run Try.prog w = .ok (.value (.int .u64 (n : Int))) w := by
  have e2 : IntKind.u64.wrap (n : Int) = (n : Int) := by simp only [IntKind.wrap, IntKind.bits, IntKind.signed]; simp; omega
  refine run_convert_op 3 41 x ho _ hx ?_
  generalize (n : Int) = m at *
  simp [go_sem, convert, run_underlying Try.underlying3, run_underlying Try.underlying41, e2]
/-- bytes are copied into a row -/
theorem copy_in {w : World} {B G T : Nat} {cs l : List UInt8} (off n cap m mc : Nat) (hB : At w B T (cs.map bv)) (hG : At w G 5 (l.map bv)) (hl : l.length = Nat.min m n) (ho : off + l.length ≤ cs.length) :
    (Builtin.copy_ #[28, 28] 3 #[.slice (some ⟨B, off, none⟩) n cap, .slice (some ⟨G, 0, none⟩) m mc]).run Try.prog w = .ok (.int .i64 (l.length : Int)) (w.setRow B ((cs.take off ++ (l ++ cs.drop (off + l.length))).map bv).toArray) := by
  have := run_copy_row (P := Try.prog) w 28 28 3 5 B off n cap ⟨G, 0, none⟩ m mc (cs.map bv).toArray T (l.map bv) Try.underlying28 (by kernel_rfl) hB (by rw [List.length_map]; exact hl)
    (fun j v hv => by rw [Addr.add0]; exact hG.cell j v hv) (by rw [List.length_map, List.size_toArray, List.length_map]; exact ho) (bv_one l)
  rw [List.length_map, List.toList_toArray, List.append_assoc, ← List.map_take, ← List.map_drop, ← List.map_append, ← List.map_append] at this
  exact this
/-- and out of a row of another type of bytes -/
theorem copy_row {w : World} {B G T T2 : Nat} {cs l : List UInt8} (off n cap m mc : Nat) (hB : At w B T (cs.map bv)) (hG : At w G T2 (l.map bv)) (hl : l.length = Nat.min m n) (ho : off + l.length ≤ cs.length) :
    (Builtin.copy_ #[28, 28] 3 #[.slice (some ⟨B, off, none⟩) n cap, .slice (some ⟨G, 0, none⟩) m mc]).run Try.prog w = .ok (.int .i64 (l.length : Int)) (w.setRow B ((cs.take off ++ (l ++ cs.drop (off + l.length))).map bv).toArray) := by
  have := run_copy_row (P := Try.prog) w 28 28 3 5 B off n cap ⟨G, 0, none⟩ m mc (cs.map bv).toArray T (l.map bv) Try.underlying28 (by kernel_rfl) hB (by rw [List.length_map]; exact hl)
    (fun j v hv => by rw [Addr.add0]; exact hG.cell j v hv) (by rw [List.length_map, List.size_toArray, List.length_map]; exact ho) (bv_one l)
  rw [List.length_map, List.toList_toArray, List.append_assoc, ← List.map_take, ← List.map_drop, ← List.map_append, ← List.map_append] at this
  exact this
theorem zero16 : ∀ w, (zeroValue 124).run Try.prog w = .ok (.agg ((List.replicate 16 (0 : UInt8)).map bv).toArray) w := fun _ => by kernel_rfl
theorem info16 : (Try.prog.info? 124).map (·.size) = some 16 := by kernel_rfl
set_option maxHeartbeats 4000000 in
theorem text16_any (h : Hd) (hh : h.Ok) (w : World) :
    Calls Try.prog 87 #[h.v] w fun e w' => e = .returned (.agg (h.text.map bv).toArray) ∧ Below w.heap.size w w' := by
  have hk1 := hh.half
  have hk2 := hh.size
  obtain ⟨z, hz⟩ : ∃ z : List UInt8, z = List.replicate 16 0 := ⟨_, rfl⟩
  have hzl : z.length = 16 := by rw [hz]; simp
  have hzz : ∀ w, (zeroValue 124).run Try.prog w = .ok (.agg (z.map bv).toArray) w := by rw [hz]; exact zero16
  have HZ := Lib.hid hz
  clear hz
  obtain ⟨u, hu⟩ : ∃ u, u = ((w.alloc (.cells h.cells.toArray 85)).alloc (.cells (z.map bv).toArray 124)).alloc (.cells (z.map bv).toArray 124) := ⟨_, rfl⟩
  have a0 : At u w.heap.size 85 h.cells := by rw [hu]; exact ((At.new w h.cells.toArray 85).alloc _).alloc _
  have a1 : At u (w.heap.size + 1) 124 (z.map bv) := by
    rw [hu]
    have := (At.new (w.alloc (.cells h.cells.toArray 85)) (z.map bv).toArray 124).alloc (.cells (z.map bv).toArray 124)
    rwa [World.size_alloc] at this
  have a2 : At u (w.heap.size + 2) 124 (z.map bv) := by
    rw [hu]
    have := At.new ((w.alloc (.cells h.cells.toArray 85)).alloc (.cells (z.map bv).toArray 124)) (z.map bv).toArray 124
    rwa [World.size_alloc, World.size_alloc] at this
  have hB : Below w.heap.size w u := by rw [hu]; exact (((Below.refl _ w).alloc (Nat.le_refl _) _).alloc (by simp) _).alloc (by simp; omega) _
  have hus : u.heap.size = w.heap.size + 3 := by rw [hu, World.size_alloc, World.size_alloc, World.size_alloc]
  have HU := Lib.hid hu
  have A0 := Lib.hid a0
  have A1 := Lib.hid a1
  have A2 := Lib.hid a2
  have HB := Lib.hid hB
  clear hu a0 a1 a2 hB hh
  unfold Hd.v
  unfold Hd.cells at *
  go_enter Try.func87, Try.ntmps87
  go_wp2_with (first | (with_reducible refine alloc_agg rfl 124 rfl (z.map bv).toArray hzz ?_) | (with_reducible refine hold_at 4 rfl ?_))
  simp only [Act.put, List.setIfInBounds_toArray, List.set_cons_zero, List.set_cons_succ, World.size_alloc]
  rw [← HU.out]
  generalize hb0 : w.heap.size = b0 at *
  have hlt0 : b0 + 2 < u.heap.size := by omega
  clear HU HZ
  have A20 := A2
  have A00 := A0
  have A10 := A1
  have B0 := HB
  have L0 := Lib.hid hzl
  clear A2 A0 A1 HB hzl hus
  refine region_any (fun W => W.cell? ⟨b0, 0, none⟩ = some (.int .u64 (h.num : Int))) 5 (by kernel_rfl) ?_
  have S0 : (fun W => W.cell? ⟨b0, 0, none⟩ = some (.int .u64 (h.num : Int))) u.drew := A00.out.drew.cell 0 _ rfl
  refine wpAnyT_takeN (i := 0) (v := (.slice (some ⟨b0 + 2, 0, none⟩) 16 16)) rfl (by decide) (by kernel_rfl) (by kernel_rfl) (by kernel_rfl) (fun _ _ _ h => h) (.inl ⟨by kernel_rfl, fun W hS => by kernel_rfl⟩) S0 ?_
  refine wpAnyT_takeN (i := 1) (v := (.pointer (some ⟨b0, 0, none⟩))) rfl (by decide) (by kernel_rfl) (by kernel_rfl) (by kernel_rfl) (fun _ _ _ h => h) (.inl ⟨by kernel_rfl, fun W hS => by kernel_rfl⟩) S0 ?_
  refine wpAnyT_takeN (i := 2) (v := (.int .u64 (h.num : Int))) rfl (by decide) (by kernel_rfl) (by kernel_rfl) (by kernel_rfl) (fun _ _ _ h => h) (.inl ⟨by kernel_rfl, fun W hS => run_load_one 41 (.tmp 5) rfl ⟨b0, 0, none⟩ (by kernel_rfl) _ hS _ Try.underlying41 rfl⟩) S0 ?_
  refine wpAnyT_all (rs := [3]) (by kernel_rfl) (by simp) ?_
  intro q hq
  obtain rfl : q = 3 := by simpa using hq
  refine wpOp_call rfl (by kernel_rfl) 96 #[.int .u64 (h.num : Int), .int .i64 ((8 : Nat) : Int)] (run_call_func rfl enter_rowOf _ (by kernel_rfl)) ((rowOf_any h.num 8 (by omega) u.drew).mono ?_)
  rintro e v0 ⟨rfl, g0, bl0, gl0⟩
  have x0 := A20.out.drew.below bl0 A20.out.lt
  have y0 := A00.out.drew.below bl0 A00.out.lt
  have z0 := A10.out.drew.below bl0 A10.out.lt
  refine ⟨_, rfl, fun _ => y0.cell 0 _ rfl, ?_⟩
  refine wpAnyT_all (rs := [4]) (by kernel_rfl) (by simp) ?_
  intro q hq
  obtain rfl : q = 4 := by simpa using hq
  have hcp := copy_in (B := b0 + 2) (G := u.drew.heap.size) 0 16 16 8 8 x0 g0 (by rw [beN_len]; decide) (by rw [beN_len, L0.out]; decide)
  refine wpOp_val rfl (by kernel_rfl) (run_copy_op (.tmp 4) (.tmp 7) 28 28 rfl _ _ (by kernel_rfl) (by kernel_rfl) hcp) ⟨fun _ => (y0.setRow_ne (B' := b0 + 2) _ (by omega)).cell 0 _ rfl, wpAnyT_done (by kernel_rfl) ?_ _⟩
  simp only [Act.put, List.getElem_toArray, List.getElem_cons_succ, List.getElem_cons_zero, List.setIfInBounds_toArray, List.set_cons_zero, List.set_cons_succ]
  obtain ⟨c1, hc1⟩ : ∃ l : List UInt8, l = z.take 0 ++ (beN h.num 8 ++ z.drop (0 + (beN h.num 8).length)) := ⟨_, rfl⟩
  rw [← hc1] at hcp ⊢
  have r2 := x0.setRow (c1.map bv).toArray
  have r0 := y0.setRow_ne (B' := b0 + 2) (c1.map bv).toArray (by omega)
  have r1 := z0.setRow_ne (B' := b0 + 2) (c1.map bv).toArray (by omega)
  have rB := below_setRow' (B0.out.drew.trans (bl0.mono (Nat.le_trans (by omega) (Nat.le_of_lt hlt0)))) (b0 + 2) (by omega) (c1.map bv).toArray
  have rlt : b0 + 2 < (v0.setRow (b0 + 2) (c1.map bv).toArray).heap.size := r2.lt
  have rl : c1.length = 16 := by rw [hc1]; simp [beN_len, L0.out]
  rw [List.toList_toArray] at r2
  generalize v0.setRow (b0 + 2) (c1.map bv).toArray = u1 at *
  have A21 := Lib.hid r2
  have A01 := Lib.hid r0
  have A11 := Lib.hid r1
  have B1 := Lib.hid rB
  have L1 := Lib.hid rl
  have hlt1 := rlt
  have HC1 := Lib.hid hc1
  clear r2 r0 r1 rB rl rlt hcp hc1 g0 bl0 gl0 x0 y0 z0 A00 A20 A10 hlt0 S0
  go_wp2_with fail
  refine region_any (fun W => W.cell? ⟨b0, 1, none⟩ = some (.int .i64 (h.half : Int))) 6 (by kernel_rfl) ?_
  have S0 : (fun W => W.cell? ⟨b0, 1, none⟩ = some (.int .i64 (h.half : Int))) u1.drew := A01.out.drew.cell 1 _ rfl
  refine wpAnyT_takeN (i := 0) (v := (.slice (some ⟨b0 + 2, 8, none⟩) 8 8)) rfl (by decide) (by kernel_rfl) (by kernel_rfl) (by kernel_rfl) (fun _ _ _ h => h) (.inl ⟨by kernel_rfl, fun W hS => by kernel_rfl⟩) S0 ?_
  refine wpAnyT_takeN (i := 1) (v := (.pointer (some ⟨b0, 1, none⟩))) rfl (by decide) (by kernel_rfl) (by kernel_rfl) (by kernel_rfl) (fun _ _ _ h => h) (.inl ⟨by kernel_rfl, fun W hS => by kernel_rfl⟩) S0 ?_
  refine wpAnyT_takeN (i := 2) (v := (.int .i64 (h.half : Int))) rfl (by decide) (by kernel_rfl) (by kernel_rfl) (by kernel_rfl) (fun _ _ _ h => h) (.inl ⟨by kernel_rfl, fun W hS => run_load_one 3 (.tmp 10) rfl ⟨b0, 1, none⟩ (by kernel_rfl) _ hS _ Try.underlying3 rfl⟩) S0 ?_
  refine wpAnyT_takeN (i := 3) (v := (.int .u64 (h.half : Int))) rfl (by decide) (by kernel_rfl) (by kernel_rfl) (by kernel_rfl) (fun _ _ _ h => h) (.inl ⟨by kernel_rfl, fun W hS => run_cv64 (.tmp 11) rfl h.half (by omega) (by kernel_rfl)⟩) S0 ?_
  refine wpAnyT_all (rs := [4]) (by kernel_rfl) (by simp) ?_
  intro q hq
  obtain rfl : q = 4 := by simpa using hq
  refine wpOp_call rfl (by kernel_rfl) 96 #[.int .u64 (h.half : Int), .int .i64 ((4 : Nat) : Int)] (run_call_func rfl enter_rowOf _ (by kernel_rfl)) ((rowOf_any h.half 4 (by omega) u1.drew).mono ?_)
  rintro e v1 ⟨rfl, g1, bl1, gl1⟩
  have x1 := A21.out.drew.below bl1 A21.out.lt
  have y1 := A01.out.drew.below bl1 A01.out.lt
  have z1 := A11.out.drew.below bl1 A11.out.lt
  refine ⟨_, rfl, fun _ => y1.cell 1 _ rfl, ?_⟩
  refine wpAnyT_all (rs := [5]) (by kernel_rfl) (by simp) ?_
  intro q hq
  obtain rfl : q = 5 := by simpa using hq
  have hcp := copy_in (B := b0 + 2) (G := u1.drew.heap.size) 8 8 8 4 4 x1 g1 (by rw [beN_len]; decide) (by rw [beN_len, L1.out]; decide)
  refine wpOp_val rfl (by kernel_rfl) (run_copy_op (.tmp 9) (.tmp 13) 28 28 rfl _ _ (by kernel_rfl) (by kernel_rfl) hcp) ⟨fun _ => (y1.setRow_ne (B' := b0 + 2) _ (by omega)).cell 1 _ rfl, wpAnyT_done (by kernel_rfl) ?_ _⟩
  simp only [Act.put, List.getElem_toArray, List.getElem_cons_succ, List.getElem_cons_zero, List.setIfInBounds_toArray, List.set_cons_zero, List.set_cons_succ]
  obtain ⟨c2, hc2⟩ : ∃ l : List UInt8, l = c1.take 8 ++ (beN h.half 4 ++ c1.drop (8 + (beN h.half 4).length)) := ⟨_, rfl⟩
  rw [← hc2] at hcp ⊢
  have r2 := x1.setRow (c2.map bv).toArray
  have r0 := y1.setRow_ne (B' := b0 + 2) (c2.map bv).toArray (by omega)
  have r1 := z1.setRow_ne (B' := b0 + 2) (c2.map bv).toArray (by omega)
  have rB := below_setRow' (B1.out.drew.trans (bl1.mono (Nat.le_trans (by omega) (Nat.le_of_lt hlt1)))) (b0 + 2) (by omega) (c2.map bv).toArray
  have rlt : b0 + 2 < (v1.setRow (b0 + 2) (c2.map bv).toArray).heap.size := r2.lt
  have rl : c2.length = 16 := by rw [hc2]; simp [beN_len, L1.out]
  rw [List.toList_toArray] at r2
  generalize v1.setRow (b0 + 2) (c2.map bv).toArray = u2 at *
  have A22 := Lib.hid r2
  have A02 := Lib.hid r0
  have A12 := Lib.hid r1
  have B2 := Lib.hid rB
  have L2 := Lib.hid rl
  have hlt2 := rlt
  have HC2 := Lib.hid hc2
  clear r2 r0 r1 rB rl rlt hcp hc2 g1 bl1 gl1 x1 y1 z1 A01 A21 A11 hlt1 S0
  go_wp2_with fail
  refine region_any (fun W => W.cell? ⟨b0, 2, none⟩ = some (.int .i64 (h.size : Int))) 6 (by kernel_rfl) ?_
  have S0 : (fun W => W.cell? ⟨b0, 2, none⟩ = some (.int .i64 (h.size : Int))) u2.drew := A02.out.drew.cell 2 _ rfl
  refine wpAnyT_takeN (i := 0) (v := (.slice (some ⟨b0 + 2, 12, none⟩) 4 4)) rfl (by decide) (by kernel_rfl) (by kernel_rfl) (by kernel_rfl) (fun _ _ _ h => h) (.inl ⟨by kernel_rfl, fun W hS => by kernel_rfl⟩) S0 ?_
  refine wpAnyT_takeN (i := 1) (v := (.pointer (some ⟨b0, 2, none⟩))) rfl (by decide) (by kernel_rfl) (by kernel_rfl) (by kernel_rfl) (fun _ _ _ h => h) (.inl ⟨by kernel_rfl, fun W hS => by kernel_rfl⟩) S0 ?_
  refine wpAnyT_takeN (i := 2) (v := (.int .i64 (h.size : Int))) rfl (by decide) (by kernel_rfl) (by kernel_rfl) (by kernel_rfl) (fun _ _ _ h => h) (.inl ⟨by kernel_rfl, fun W hS => run_load_one 3 (.tmp 16) rfl ⟨b0, 2, none⟩ (by kernel_rfl) _ hS _ Try.underlying3 rfl⟩) S0 ?_
  refine wpAnyT_takeN (i := 3) (v := (.int .u64 (h.size : Int))) rfl (by decide) (by kernel_rfl) (by kernel_rfl) (by kernel_rfl) (fun _ _ _ h => h) (.inl ⟨by kernel_rfl, fun W hS => run_cv64 (.tmp 17) rfl h.size (by omega) (by kernel_rfl)⟩) S0 ?_
  refine wpAnyT_all (rs := [4]) (by kernel_rfl) (by simp) ?_
  intro q hq
  obtain rfl : q = 4 := by simpa using hq
  refine wpOp_call rfl (by kernel_rfl) 96 #[.int .u64 (h.size : Int), .int .i64 ((4 : Nat) : Int)] (run_call_func rfl enter_rowOf _ (by kernel_rfl)) ((rowOf_any h.size 4 (by omega) u2.drew).mono ?_)
  rintro e v2 ⟨rfl, g2, bl2, gl2⟩
  have x2 := A22.out.drew.below bl2 A22.out.lt
  have y2 := A02.out.drew.below bl2 A02.out.lt
  have z2 := A12.out.drew.below bl2 A12.out.lt
  refine ⟨_, rfl, fun _ => y2.cell 2 _ rfl, ?_⟩
  refine wpAnyT_all (rs := [5]) (by kernel_rfl) (by simp) ?_
  intro q hq
  obtain rfl : q = 5 := by simpa using hq
  have hcp := copy_in (B := b0 + 2) (G := u2.drew.heap.size) 12 4 4 4 4 x2 g2 (by rw [beN_len]; decide) (by rw [beN_len, L2.out]; decide)
  refine wpOp_val rfl (by kernel_rfl) (run_copy_op (.tmp 15) (.tmp 19) 28 28 rfl _ _ (by kernel_rfl) (by kernel_rfl) hcp) ⟨fun _ => (y2.setRow_ne (B' := b0 + 2) _ (by omega)).cell 2 _ rfl, wpAnyT_done (by kernel_rfl) ?_ _⟩
  simp only [Act.put, List.getElem_toArray, List.getElem_cons_succ, List.getElem_cons_zero, List.setIfInBounds_toArray, List.set_cons_zero, List.set_cons_succ]
  obtain ⟨c3, hc3⟩ : ∃ l : List UInt8, l = c2.take 12 ++ (beN h.size 4 ++ c2.drop (12 + (beN h.size 4).length)) := ⟨_, rfl⟩
  rw [← hc3] at hcp ⊢
  have r2 := x2.setRow (c3.map bv).toArray
  have r0 := y2.setRow_ne (B' := b0 + 2) (c3.map bv).toArray (by omega)
  have r1 := z2.setRow_ne (B' := b0 + 2) (c3.map bv).toArray (by omega)
  have rB := below_setRow' (B2.out.drew.trans (bl2.mono (Nat.le_trans (by omega) (Nat.le_of_lt hlt2)))) (b0 + 2) (by omega) (c3.map bv).toArray
  have rlt : b0 + 2 < (v2.setRow (b0 + 2) (c3.map bv).toArray).heap.size := r2.lt
  have rl : c3.length = 16 := by rw [hc3]; simp [beN_len, L2.out]
  rw [List.toList_toArray] at r2
  generalize v2.setRow (b0 + 2) (c3.map bv).toArray = u3 at *
  have A23 := Lib.hid r2
  have A03 := Lib.hid r0
  have A13 := Lib.hid r1
  have B3 := Lib.hid rB
  have L3 := Lib.hid rl
  have hlt3 := rlt
  have HC3 := Lib.hid hc3
  clear r2 r0 r1 rB rl rlt hcp hc3 g2 bl2 gl2 x2 y2 z2 A02 A22 A12 hlt2 S0
  have hfin : c3 = h.text := by
    have q1 := L0.out
    have q2 := L1.out
    have q3 := L2.out
    have d1 := beN_len h.num 8
    have d2 := beN_len h.half 4
    have d3 := beN_len h.size 4
    rw [HC3.out, HC2.out, HC1.out]
    unfold Hd.text
    generalize beN h.num 8 = x1 at *
    generalize beN h.half 4 = x2 at *
    generalize beN h.size 4 = x3 at *
    rw [d1, d2, d3, List.take_zero, List.nil_append]
    simp only [List.take_append, List.drop_append, List.drop_drop, List.take_take, List.length_append, List.length_drop, d1, d2, q1]
    simp [d1, d2, d3, List.take_of_length_le, List.drop_of_length_le, q1]
  subst hfin
  have hrg := A23.out.range0
  have hl := A23.out
  have hone := all_oneCell_toArray (bv_one h.text)
  have hs1 : (h.text.map bv).length = 16 := by rw [List.length_map, h.text_len]
  have hs2 : (h.text.map bv).toArray.size = 16 := by rw [List.size_toArray]; exact hs1
  have hth := A13.out.there 0 16 (by rw [List.length_map, L0.out]; omega)
  have hr := A13.out.whole (c := h.text.map bv) (by rw [List.length_map, L0.out, hs1])
  have HRG := Lib.hid hrg
  have HN := Lib.hid hone
  have HS1 := Lib.hid hs1
  have HS2 := Lib.hid hs2
  have HTH := Lib.hid hth
  have HR := Lib.hid hr
  have HBE := Lib.hid (Below.refl w.heap.size w)
  clear hrg hone hs1 hs2 hth hr hl
  go_wp2_with (first | (with_reducible refine wpList_load_mid rfl 124 (.tmp 3) rfl (b0 + 2) 0 (by kernel_rfl) (h.text.map bv) _ HRG.out Try.underlying124 rfl (by rw [HS1.out]; exact info16) ?_) | (with_reducible refine wpList_store_mid rfl 124 (.tmp 2) (.tmp 21) rfl (b0 + 1) 0 (h.text.map bv).toArray (by kernel_rfl) (by kernel_rfl) (by rw [HS2.out]; exact HTH.out) (by rw [HS2.out]; exact info16) HN.out ?_))
  (try simp only [Exit.inBlock, Exit.then])
  simp only [Act.put, List.getElem_toArray, List.getElem_cons_succ, List.getElem_cons_zero, List.setIfInBounds_toArray, List.set_cons_zero, List.set_cons_succ]
  refine bodyPost_ret (v := .agg (h.text.map bv).toArray) ?_ rfl ⟨rfl, ?_⟩
  · exact results_cell_row (fn := Try.f87) (p := 2) (ty := 124) rfl _ _ (b0 + 1) 124 (h.text.map bv).toArray (0, 0) _ rfl HR.out Try.underlying124 rfl (by rw [HS2.out]; exact info16)
  · rw [hb0]
    exact (Touch.setCells (ft := []) (u := w) (b0 + 1) (.inr (by omega)) _ _ _ (Touch.of_below (by rw [hb0]; exact B3.out))).below (S := b0) (by rw [← hb0]; exact Below.refl _ _) (by simp) (by omega)
end Go.Proofs.Ytcgjkopdnhkdiaa
