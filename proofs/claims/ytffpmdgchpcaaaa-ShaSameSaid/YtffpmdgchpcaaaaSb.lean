/- The words of a block. -/
import Derived.Test.YtffpmdgchpcaaaaSa
import Derived.Deep.RegionHeld3
import Derived.StillTailTactics
import Derived.Deep.MidRow
import Derived.Deep.WholeRow
namespace Go.Proofs.Ytffpmdgchpcaaaa
open Go.RowKit

theorem At.drew {w : World} {B : Nat} {T : TypeId} {l : List Value} (h : At w B T l) : At w.drew B T l := h
theorem At.drewN {w : World} {B : Nat} {T : TypeId} {l : List Value} (h : At w B T l) (n : Nat) : At (w.drewN n) B T l := h
@[go_sem] theorem cell_mk (w : World) (t d o u) (p : Addr) : World.cell? { heap := w.heap, tape := t, drawn := d, os := o, output := u } p = w.cell? p := rfl
theorem At.new1 (w : World) (o : Obj) (c : Array Value) (T : TypeId) : At ((w.alloc o).alloc (.cells c T)) (w.heap.size + 1) T c.toList := by
  have := At.new (w.alloc o) c T
  rwa [World.size_alloc] at this
theorem At.range {w : World} {B : Nat} {T : TypeId} {l : List Value} (h : At w B T l) : w.rangeAt B 0 l := fun j v hv => by
  rw [Nat.zero_add]; exact h.cell j v hv

theorem At.setRow' {w : World} {B : Nat} {T : TypeId} {l : List Value} (h : At w B T l) (c : List Value) : At (w.setRow B c.toArray) B T c := by
  have := h.setRow c.toArray
  rwa [List.toList_toArray] at this
/-- a whole array is loaded out of a block of its own -/
theorem load_at {P : Program} {ops : Array Oper} {rest : List Oper} {op : Oper} {a : Act} {w : World} {Q : Exit → Act → World → Prop} (hgd : op.guard = none) (ty : TypeId) (x : Operand) (ho : op.op = .load ty x)
    (b : Nat) (hx : a.eval x = .pointer (some ⟨b, 0, none⟩)) (cs : List Value) (d : TypeDesc) {T : TypeId} (hc : At w b T cs)
    (hu : P.underlying ty = some d) (hd : d.isRow = true) (hi : (P.info? ty).map (·.size) = some cs.length)
    (h : wpList P ops Q rest (a.put op.dst (.agg cs.toArray)) w) : wpList P ops Q (op :: rest) a w :=
  wpList_load_mid hgd ty x ho b 0 hx cs d hc.range hu hd hi h
/-- a whole array is stored into a block of its own -/
theorem store_at {P : Program} {ops : Array Oper} {rest : List Oper} {op : Oper} {a : Act} {w : World} {Q : Exit → Act → World → Prop} (hgd : op.guard = none) (ty : TypeId) (x y : Operand) (ho : op.op = .store ty x y)
    (b : Nat) (c : Array Value) (hx : a.eval x = .pointer (some ⟨b, 0, none⟩)) (hy : a.eval y = .agg c) (cs : List Value) {T : TypeId} (hc : At w b T cs)
    (hi : (P.info? ty).map (·.size) = some c.size) (hn : cs.length = c.size) (h1 : c.all (·.oneCell') = true)
    (h : wpList P ops Q rest (a.put op.dst undef) (w.setRow b c)) : wpList P ops Q (op :: rest) a w := by
  refine wpList_plain hgd fun K hK => ?_
  have hr := run_storeVar_row (P := P) w b T ty cs.toArray c hc hi (by simpa using hn) h1
  unfold Oper.wp execOp
  simp only [ho, hx, hy, Instr.storeAt, Instr.sureAddr, Sem.run_bind, Sem.run_pure, Result.andThen_ok, hr]
  exact hK _ _ h
/-- what has been laid of 64 words -/
def part (ws : List Wd) : List Value := ws.map wv ++ List.replicate (64 - ws.length) (wv 0)
theorem part_set (ws : List Wd) (x : Wd) (h : ws.length < 64) : (part ws).set ws.length (wv x) = part (ws ++ [x]) := by
  obtain ⟨k, hk⟩ : ∃ k, 64 - ws.length = k + 1 := ⟨63 - ws.length, by omega⟩
  have h2 : 64 - (ws ++ [x]).length = k := by simp; omega
  unfold part
  rw [h2, hk, List.replicate_succ, List.set_append_right _ _ (by simp), List.map_append]
  simp
theorem part_get (ws : List Wd) (j : Nat) (h : j < ws.length) : (part ws)[j]? = some (.int .u32 (wi (ws[j]?.getD 0))) := by
  unfold part
  rw [List.getElem?_append_left (by simpa using h)]
  simp [List.getElem?_eq_getElem h, wv]
theorem part_hole (ws : List Wd) (h : ws.length < 64) : (part ws)[ws.length]? = some (.int .u32 (wi 0)) := by
  unfold part
  rw [List.getElem?_append_right (by simp), List.getElem?_replicate_of_lt (by simp; omega)]; rfl
theorem part_full (ws : List Wd) (h : ws.length = 64) : part ws = ws.map wv := by
  unfold part; rw [h]; simp
theorem part_nil : part [] = List.replicate 64 (wv 0) := rfl

def word4 (l : List UInt8) (i : Nat) : Wd := up (l[4 * i]?.getD 0) <<< 24 ||| up (l[4 * i + 1]?.getD 0) <<< 16 ||| up (l[4 * i + 2]?.getD 0) <<< 8 ||| up (l[4 * i + 3]?.getD 0)
def first (l : List UInt8) (n : Nat) : List Wd := (List.range n).map (word4 l)
theorem first_len (l : List UInt8) (n : Nat) : (first l n).length = n := by simp [first]
theorem first_succ (l : List UInt8) (n : Nat) : first l (n + 1) = first l n ++ [word4 l n] := by simp [first, List.range_succ]

def sgA (x : Wd) : Wd := turn [7, 18] x ^^^ x >>> 3
def sgB (x : Wd) : Wd := turn [17, 19] x ^^^ x >>> 10
def next (ws : List Wd) : Wd := ws[ws.length - 16]?.getD 0 + sgA (ws[ws.length - 15]?.getD 0) + ws[ws.length - 7]?.getD 0 + sgB (ws[ws.length - 2]?.getD 0)
def grow (ws : List Wd) : Nat → List Wd
  | 0 => ws
  | n + 1 => grow ws n ++ [next (grow ws n)]
theorem grow_len (ws : List Wd) (n : Nat) : (grow ws n).length = ws.length + n := by
  induction n with
  | zero => rfl
  | succ n ih => simp [grow, ih]; omega
/-- a block's 64 words -/
def sched (l : List UInt8) : List Wd := grow (first l 16) 48
theorem sched_len (l : List UInt8) : (sched l).length = 64 := by simp [sched, grow_len, first_len]

attribute [local go_sem] bs_size
theorem cut4 (l : List UInt8) (k : Nat) (h : 4 * k + 4 ≤ l.length) : (bs l).extract (k * 4) ((k + 1) * 4) = bs [l[4 * k]?.getD 0, l[4 * k + 1]?.getD 0, l[4 * k + 2]?.getD 0, l[4 * k + 3]?.getD 0] := by
  apply ByteArray.ext
  rw [ByteArray.data_extract]
  unfold bs
  apply Array.ext'
  simp only [Array.toList_extract, List.extract_eq_take_drop]
  apply List.ext_getElem?
  intro i
  rw [show (k + 1) * 4 - k * 4 = 4 by omega, List.getElem?_take, List.getElem?_drop]
  by_cases hi : i < 4
  · rw [if_pos hi]
    have : i = 0 ∨ i = 1 ∨ i = 2 ∨ i = 3 := by omega
    rcases this with rfl | rfl | rfl | rfl <;> simp [show k * 4 = 4 * k by omega] <;> rw [List.getElem?_eq_getElem (by omega)] <;> rfl
  · rw [if_neg hi, List.getElem?_eq_none (by simp; omega)]

set_option maxRecDepth 100000 in
set_option maxHeartbeats 2000000 in
theorem wordsOf_any (l : List UInt8) (w : World) (hl : l.length = 64) :
    Calls Try.prog 28 #[.string (bs l)] w fun e w' => e = .returned (.agg ((sched l).map wv).toArray) ∧ Below w.heap.size w w' := by
  go_enter Try.func28, Try.ntmps28
  go_wp2
  go_loopw [13] (fun i wr => ∃ k : Nat, k ≤ 16 ∧ i = .int .i64 k ∧ At wr (w.heap.size + 1) 44 (part (first l k)) ∧ At wr w.heap.size 44 (part []) ∧ Below w.heap.size w wr) (fun i _ => 16 - (intOf i).toNat)
  case atStart => exact ⟨0, by omega, rfl, At.new1 _ _ _ _, (At.new _ _ _).alloc _, ((Below.refl _ _).alloc (Nat.le_refl _) _).alloc (by simp) _⟩
  case round =>
    obtain ⟨k, hk, rfl, hA, hR, hB⟩ := hrel
    have HA := Lib.hid hA
    have HR := Lib.hid hR
    have HB := Lib.hid hB
    clear hA hR hB
    by_cases hlt : k < 16
    · have e1 := cut4 l k (by omega)
      have e2 : ((k:Int) + 1) * 4 ≤ 64 := by omega
      have e3 : 0 ≤ ((k:Int) + 1) * 4 := by omega
      have e4 : (k:Int) * 4 ≤ ((k:Int) + 1) * 4 := by omega
      have e5 : 0 ≤ (k:Int) * 4 := by omega
      have hf := HA.out.frozen k
      have hp := HA.out.cell k (wv 0) (by unfold part; rw [List.getElem?_append_right (by simp [first_len]), List.getElem?_replicate_of_lt (by simp [first_len]; omega)])
      have e6 : (k:Int) < 64 := by omega
      go_wp2
      go_still_tail 20, (by kernel_rfl)
      change wpList _ _ _ _ _ wr.drew
      go_wp2
      go_roundw
      case rel =>
        refine ⟨k + 1, by omega, by go_num, ?_, HR.out.drew.setCell_ne _ _ (by simp), HB.out.drew.setCell (p := ⟨_, _, none⟩) (by simp) _⟩
        have h := HA.out.drew.setCell k (wv (word4 l k))
        have := part_set (first l k) (word4 l k) (by rw [first_len]; omega)
        rw [first_len] at this
        rw [this, ← first_succ] at h
        exact h
      case measure => simp [intOf]; omega
    · obtain rfl : k = 16 := by omega
      go_wp2_with fail
      refine (turned_any _ _ _).mono ?_
      rintro e w1 ⟨rfl, rfl⟩
      go_wp2_with fail
      refine (turned_any _ _ _).mono ?_
      rintro e w1 ⟨rfl, rfl⟩
      go_wp2_with fail
      generalize hw1 : wr.alloc (Obj.cells #[Value.int IntKind.i64 7, Value.int IntKind.i64 18] 3) = w1
      generalize hw2 : w1.alloc (Obj.cells #[Value.slice (some { block := wr.heap.size, off := 0 }) 2 2] 77) = w2
      generalize hw3 : w2.alloc (Obj.cells #[Value.int IntKind.i64 17, Value.int IntKind.i64 19] 3) = w3
      generalize hw4 : w3.alloc (Obj.cells #[Value.slice (some { block := wr.heap.size + 1 + 1, off := 0 }) 2 2] 77) = w4
      have hz1 : w1.heap.size = wr.heap.size + 1 := by rw [← hw1]; simp
      have hz2 : w2.heap.size = wr.heap.size + 2 := by rw [← hw2, World.size_alloc, hz1]
      have hz3 : w3.heap.size = wr.heap.size + 3 := by rw [← hw3, World.size_alloc, hz2]
      have hz := HA.out.lt
      generalize hS0 : wr.heap.size = S0 at *
      go_loopw [9] (fun s wx => ∃ i : Nat, 16 ≤ i ∧ i ≤ 64 ∧ s = .int .i64 i ∧ At wx (w.heap.size + 1) 44 (part (grow (first l 16) (i - 16))) ∧ At wx w.heap.size 44 (part []) ∧
        At wx S0 3 ([7, 18].map nv) ∧ At wx (S0 + 1) 77 [.slice (some ⟨S0, 0, none⟩) 2 2] ∧
        At wx (S0 + 1 + 1) 3 ([17, 19].map nv) ∧ At wx (S0 + 1 + 1 + 1) 77 [.slice (some ⟨S0 + 1 + 1, 0, none⟩) 2 2] ∧ Below w.heap.size w wx) (fun s _ => 64 - (intOf s).toNat)
      case atStart =>
        refine ⟨16, by omega, by omega, rfl, ?_, ?_, ?_, ?_, ?_, ?_, ?_⟩
        · rw [← hw4, ← hw3, ← hw2, ← hw1]; exact (((HA.out.alloc _).alloc _).alloc _).alloc _
        · rw [← hw4, ← hw3, ← hw2, ← hw1]; exact (((HR.out.alloc _).alloc _).alloc _).alloc _
        · rw [← hw4, ← hw3, ← hw2, ← hw1, ← hS0]; exact (((At.new _ _ _).alloc _).alloc _).alloc _
        · rw [← hw4, ← hw3, ← hz1, ← hw2]; exact ((At.new _ _ _).alloc _).alloc _
        · rw [← hw4, show S0 + 1 + 1 = w2.heap.size by omega, ← hw3]; exact (At.new _ _ _).alloc _
        · rw [show S0 + 1 + 1 + 1 = w3.heap.size by omega, ← hw4]; exact (At.new _ _ _)
        · rw [← hw4, ← hw3, ← hw2, ← hw1]; exact (((HB.out.alloc (by omega) _).alloc (by simp; omega) _).alloc (by simp; omega) _).alloc (by simp; omega) _
      clear hw1 hw2 hw3 hw4 hz1 hz2 hz3
      case round =>
        obtain ⟨i, hi, hi2, rfl, hA, hR', hS1, hB1, hS2, hB2, hB⟩ := hrel
        have HA2 := Lib.hid hA
        have HR2 := Lib.hid hR'
        have HB2 := Lib.hid hB
        have HS1 := Lib.hid hS1
        have HB1 := Lib.hid hB1
        have HS2 := Lib.hid hS2
        have HBb := Lib.hid hB2
        clear hA hR' hB hS1 hB1 hS2 hB2
        by_cases hlt : i < 64
        · have hlen : (grow (first l 16) (i - 16)).length = i := by rw [grow_len, first_len]; omega
          have HG : grow (first l 16) (i + 1 - 16) = grow (first l 16) (i - 16) ++ [next (grow (first l 16) (i - 16))] := by rw [show i + 1 - 16 = (i - 16) + 1 by omega]; rfl
          generalize grow (first l 16) (i - 16) = ws at hlen HG HA2
          have hp := HA2.out.cell i _ (by rw [← hlen]; exact part_hole ws (by omega))
          have hf := HA2.out.frozen i
          have c15 := HA2.out.cell (i - 15) _ (part_get ws _ (by omega))
          have c2 := HA2.out.cell (i - 2) _ (part_get ws _ (by omega))
          have c16 := HA2.out.cell (i - 16) _ (part_get ws _ (by omega))
          have c7 := HA2.out.cell (i - 7) _ (part_get ws _ (by omega))
          have a1 : 0 ≤ (i:Int) - 15 := by omega
          have a2 : (i:Int) - 15 < 64 := by omega
          have a3 : 0 ≤ (i:Int) - 2 := by omega
          have a4 : (i:Int) - 2 < 64 := by omega
          have a5 : 0 ≤ (i:Int) - 16 := by omega
          have a6 : (i:Int) - 16 < 64 := by omega
          have a7 : 0 ≤ (i:Int) - 7 := by omega
          have a8 : (i:Int) - 7 < 64 := by omega
          have a9 : (i:Int) < 64 := by omega
          have b16 : IntKind.i64.wrap ((i:Int) - 16) = ((i - 16 : Nat) : Int) := by simp only [IntKind.wrap, IntKind.bits, IntKind.signed]; simp; omega
          have b7 : IntKind.i64.wrap ((i:Int) - 7) = ((i - 7 : Nat) : Int) := by simp only [IntKind.wrap, IntKind.bits, IntKind.signed]; simp; omega
          have d1 : ((i - 16 : Nat) : Int) < 64 := by omega
          have d2 : ((i - 7 : Nat) : Int) < 64 := by omega
          have d3 : i < 64 := hlt
          go_wp2
          go_quiet (fail)
          go_wp2
          go_still_tail 25, (by kernel_rfl)
          still_call (turned1_any _ [7, 18] (S0 + 1) S0 77 3 _ (by decide) (by decide) (HB1.out.drewN nq) (HS1.out.drewN nq))
          repeat still_step
          still_call (turned1_any _ [17, 19] (S0 + 1 + 1 + 1) (S0 + 1 + 1) 77 3 _ (by decide) (by decide) (HBb.out.drewN nq) (HS2.out.drewN nq))
          repeat still_step
          refine wpStill_nil ?_
          change wpList _ _ _ _ _ (wr.drewN nq).drew
          go_wp2
          go_roundw
          case rel =>
            refine ⟨i + 1, by omega, by omega, by go_num, ?_, (HR2.out.drewN nq).drew.setCell_ne _ _ (by simp), (HS1.out.drewN nq).drew.setCell_ne _ _ (by simp; omega), (HB1.out.drewN nq).drew.setCell_ne _ _ (by simp; omega),
              (HS2.out.drewN nq).drew.setCell_ne _ _ (by simp; omega), (HBb.out.drewN nq).drew.setCell_ne _ _ (by simp; omega), (below_drewN' HB2.out nq).drew.setCell (p := ⟨_, _, none⟩) (by simp) _⟩
            have h := (HA2.out.drewN nq).drew.setCell i (wv (next ws))
            have hs := part_set ws (next ws) (by omega)
            rw [hlen] at hs
            rw [hs, ← HG] at h
            unfold next at h
            rw [hlen] at h
            exact h
          case measure => simp [intOf]; omega
        · obtain rfl : i = 64 := by omega
          have hsc : part (grow (first l 16) (64 - 16)) = (sched l).map wv := part_full _ (sched_len l)
          rw [hsc] at HA2
          have hR2 := HR2.out
          have hA2 := HA2.out
          have hcl : ((sched l).map wv).length = 64 := by rw [List.length_map, sched_len]
          have hone := wv_one (sched l)
          generalize hcs : (sched l).map wv = cs at *
          have hR3 := hR2.setRow' cs
          have hi : (Try.prog.info? 44).map (·.size) = some cs.length := by rw [hcl]; kernel_rfl
          have hi' : (Try.prog.info? 44).map (·.size) = some cs.toArray.size := by rw [List.size_toArray]; exact hi
          go_wp2_with (first | (refine load_at rfl 44 _ rfl _ rfl _ _ hA2 Try.underlying44 rfl hi ?_) | (refine store_at rfl 44 _ _ rfl _ _ rfl rfl _ hR2 hi' (by rw [List.size_toArray, hcl]; rfl) (all_oneCell_toArray hone) ?_))
          (try simp only [Exit.inBlock, Exit.then])
          refine bodyPost_ret (v := .agg cs.toArray) ?_ rfl ⟨by rw [hcs], below_setRow' HB2.out _ (Nat.le_refl _) _⟩
          exact results_cell_row (fn := Try.f28) (p := 2) (ty := 44) rfl _ _ w.heap.size 44 cs.toArray (0, 0) _ rfl hR3 Try.underlying44 rfl hi'
end Go.Proofs.Ytffpmdgchpcaaaa
