/- Memory of disks: blocks that a call touches, rows of sectors, the state of a disk. -/
import Derived.Test.YtdpeblchndfdaaaWd
import Derived.Deep.MidRow
import Derived.Deep.WholeRow
import Derived.Laws.OwnMore
import Derived.Laws.CopyOwn
import Derived.Laws.MakeOwn
import Derived.ArgAppend
import Derived.StillTailTactics
namespace Go.Proofs.Ytdpeblchndfdaaa
open Go.RowKit
set_option maxRecDepth 100000

@[go_sem] theorem bs_toList (l : List UInt8) : (bs l).toList = l := by rw [ByteArray.toList_eq, data_bs]
attribute [go_sem] bs_size bs_append
theorem ex_bs (s : ByteArray) : ∃ l, s = bs l := ⟨_, (bs_data s).symm⟩
theorem At.drew {w : World} {B : Nat} {T : TypeId} {l : List Value} (h : At w B T l) : At w.drew B T l := h
theorem At.drewN {w : World} {B : Nat} {T : TypeId} {l : List Value} (h : At w B T l) (n : Nat) : At (w.drewN n) B T l := h
@[go_sem] theorem cell_mk (w : World) (t d o u) (p : Addr) : World.cell? { heap := w.heap, tape := t, drawn := d, os := o, output := u } p = w.cell? p := rfl

/-- the part of a list from o on, n long -/
def seg {α : Type} (l : List α) (o n : Nat) : List α := (l.drop o).take n
theorem seg_len {α : Type} (l : List α) (o n : Nat) (h : o + n ≤ l.length) : (seg l o n).length = n := by
  unfold seg; rw [List.length_take, List.length_drop]; omega
theorem seg_get {α : Type} (l : List α) (o n j : Nat) (h : j < n) : (seg l o n)[j]? = l[o + j]? := by
  unfold seg; rw [List.getElem?_take, if_pos h, List.getElem?_drop]
theorem seg_map {α β : Type} (f : α → β) (l : List α) (o n : Nat) : seg (l.map f) o n = (seg l o n).map f := by
  unfold seg; rw [List.map_take, List.map_drop]
theorem At.range {w : World} {B : Nat} {T : TypeId} {l : List Value} (h : At w B T l) (o n : Nat) : w.rangeAt B o (seg l o n) := fun j v hv => by
  have hj : j < (seg l o n).length := (List.getElem?_eq_some_iff.1 hv).1
  have hn : j < n := by unfold seg at hj; rw [List.length_take] at hj; omega
  rw [seg_get l o n j hn] at hv
  exact h.cell _ _ hv
theorem At.range0 {w : World} {B : Nat} {T : TypeId} {l : List Value} (h : At w B T l) : w.rangeAt B 0 l := fun j v hv => by
  rw [Nat.zero_add]; exact h.cell j v hv
theorem At.there {w : World} {B : Nat} {T : TypeId} {l : List Value} (h : At w B T l) (o n : Nat) (hn : o + n ≤ l.length) : w.there B o n := fun j hj =>
  ⟨by rw [h.cell (o + j) _ (List.getElem?_eq_getElem (by omega))]; rfl, h.frozen _⟩
theorem splice_step (l : List Value) (o : Nat) (v : Value) (r : List Value) (h : o + (r.length + 1) ≤ l.length) : splice (l.set o v) (o + 1) r = splice l o (v :: r) := by
  unfold splice
  apply List.ext_getElem?
  intro i
  have h1 : ((l.set o v).take (o + 1)).length = o + 1 := by simp; omega
  have h2 : (l.take o).length = o := by simp; omega
  by_cases hi : i < o
  · rw [List.getElem?_append_left (by omega), List.getElem?_append_left (by omega), List.getElem?_take, List.getElem?_take, if_pos (by omega), if_pos hi, List.getElem?_set_ne (by omega)]
  · rw [List.getElem?_append_right (l₁ := l.take o) (by omega), h2]
    by_cases he : i = o
    · subst he
      rw [List.getElem?_append_left (by omega), List.getElem?_take, if_pos (by omega), List.getElem?_set_self (by omega), Nat.sub_self]
      rfl
    · rw [List.getElem?_append_right (by omega), h1]
      obtain ⟨j, rfl⟩ : ∃ j, i = o + 1 + j := ⟨i - (o + 1), by omega⟩
      rw [show o + 1 + j - (o + 1) = j by omega, show o + 1 + j - o = j + 1 by omega, List.cons_append, List.getElem?_cons_succ]
      by_cases hj : j < r.length
      · rw [List.getElem?_append_left hj, List.getElem?_append_left hj]
      · rw [List.getElem?_append_right (by omega), List.getElem?_append_right (by omega), List.getElem?_drop, List.getElem?_drop, List.getElem?_set_ne (by omega)]
        congr 1
        simp only [List.length_cons]
        omega
theorem splice_nil (l : List Value) (o : Nat) : splice l o [] = l := by
  unfold splice; rw [List.length_nil, Nat.add_zero, List.nil_append, List.take_append_drop]
theorem At.setCells {B : Nat} {T : TypeId} : ∀ (vs : List Value) (o : Nat) (w : World) (l : List Value), At w B T l → o + vs.length ≤ l.length → At (w.setCells B o vs) B T (splice l o vs)
  | [], o, w, l, h, _ => by rw [splice_nil]; exact h
  | v :: r, o, w, l, h, hl => by
    rw [List.length_cons] at hl
    have := At.setCells r (o + 1) _ _ (h.setCell o v) (by rw [List.length_set]; omega)
    rw [splice_step l o v r hl] at this
    exact this
theorem At.setCells_ne {B B' : Nat} {T : TypeId} (hne : B ≠ B') : ∀ (vs : List Value) (o : Nat) (w : World) (l : List Value), At w B T l → At (w.setCells B' o vs) B T l
  | [], _, _, _, h => h
  | v :: r, o, w, l, h => At.setCells_ne hne r (o + 1) _ _ (h.setCell_ne _ _ hne)

/-- only these blocks may be others; all else that was there is as it was -/
structure Touch (ft : List Nat) (w w' : World) : Prop where
  os : w'.os = w.os
  tape : w'.tape = w.tape
  output : w'.output = w.output
  size : w.heap.size ≤ w'.heap.size
  block : ∀ k, k < w.heap.size → k ∉ ft → w'.heap[k]? = w.heap[k]?
theorem Touch.refl (ft : List Nat) (w : World) : Touch ft w w := ⟨rfl, rfl, rfl, Nat.le_refl _, fun _ _ _ => rfl⟩
theorem Touch.trans {ft : List Nat} {u v w : World} (h : Touch ft u v) (k : Touch ft v w) : Touch ft u w :=
  ⟨k.os.trans h.os, k.tape.trans h.tape, k.output.trans h.output, Nat.le_trans h.size k.size,
    fun i hi hb => (k.block i (Nat.lt_of_lt_of_le hi h.size) hb).trans (h.block i hi hb)⟩
theorem Touch.mono {ft ft2 : List Nat} {u w : World} (h : Touch ft u w) (hs : ∀ k, k ∈ ft → k ∈ ft2 ∨ u.heap.size ≤ k) : Touch ft2 u w :=
  ⟨h.os, h.tape, h.output, h.size, fun i hi hb => h.block i hi fun e => by
    rcases hs i e with h1 | h1
    · exact hb h1
    · omega⟩
/-- step by step, where the blocks of the second step are of the first's, or new -/
theorem Touch.step {ft ft2 : List Nat} {u v w : World} (h : Touch ft u v) (k : Touch ft2 v w) (hs : ∀ i, i ∈ ft2 → i ∈ ft ∨ u.heap.size ≤ i) : Touch ft u w :=
  ⟨k.os.trans h.os, k.tape.trans h.tape, k.output.trans h.output, Nat.le_trans h.size k.size,
    fun i hi hb => (k.block i (Nat.lt_of_lt_of_le hi h.size) (fun e => by
      rcases hs i e with h1 | h1
      · exact hb h1
      · omega)).trans (h.block i hi hb)⟩
theorem Touch.of_below {ft : List Nat} {w w' : World} (h : Below w.heap.size w w') : Touch ft w w' := ⟨h.os, h.tape, h.output, h.size, fun k hk _ => h.block k hk⟩
theorem Touch.drew {ft : List Nat} {u w : World} (h : Touch ft u w) : Touch ft u w.drew := ⟨h.os, h.tape, h.output, h.size, h.block⟩
theorem Touch.drewN {ft : List Nat} {u w : World} (h : Touch ft u w) (n : Nat) : Touch ft u (w.drewN n) := ⟨h.os, h.tape, h.output, h.size, h.block⟩
theorem Touch.alloc {ft : List Nat} {u w : World} (h : Touch ft u w) (o : Obj) : Touch ft u (w.alloc o) :=
  ⟨h.os, h.tape, h.output, Nat.le_trans h.size (by simp), fun i hi hne => (Below.heap_alloc w o i (Nat.lt_of_lt_of_le hi h.size)).trans (h.block i hi hne)⟩
theorem Touch.setCell {ft : List Nat} {u w : World} (h : Touch ft u w) (p : Addr) (v : Value) (hp : p.block ∈ ft ∨ u.heap.size ≤ p.block) : Touch ft u (w.setCell p v) :=
  ⟨h.os, h.tape, h.output, by simpa [World.setCell] using h.size, fun i hi hne => (Below.heap_setCell w p v i (fun e => by
    rcases hp with hp | hp
    · exact hne (e ▸ hp)
    · omega)).trans (h.block i hi hne)⟩
theorem Touch.setCells {ft : List Nat} {u : World} (b : Nat) (hp : b ∈ ft ∨ u.heap.size ≤ b) : ∀ (vs : List Value) (o : Nat) (w : World), Touch ft u w → Touch ft u (w.setCells b o vs)
  | [], _, _, h => h
  | v :: r, o, w, h => Touch.setCells b hp r (o + 1) _ (h.setCell _ _ hp)
theorem Touch.setRow {ft : List Nat} {u w : World} (h : Touch ft u w) (b : Nat) (c : Array Value) (hp : b ∈ ft ∨ u.heap.size ≤ b) : Touch ft u (w.setRow b c) :=
  ⟨h.os, h.tape, h.output, by simpa [World.setRow] using h.size, fun i hi hne => (setRow_other w b i c (fun e => by
    rcases hp with hp | hp
    · exact hne (e ▸ hp)
    · omega)).trans (h.block i hi hne)⟩
theorem Touch.below {ft : List Nat} {S : Nat} {u w w' : World} (h : Below S u w) (k : Touch ft w w') (hb : ∀ i, i ∈ ft → S ≤ i) (hS : S ≤ u.heap.size) : Below S u w' :=
  ⟨k.os.trans h.os, k.tape.trans h.tape, k.output.trans h.output, Nat.le_trans h.size k.size,
    fun i hi => (k.block i (Nat.lt_of_lt_of_le hi (Nat.le_trans hS h.size)) (fun e => by have := hb i e; omega)).trans (h.block i hi)⟩
theorem At.touch {ft : List Nat} {w w' : World} {B : Nat} {T : TypeId} {l : List Value} (h : At w B T l) (k : Touch ft w w') (hne : B ∉ ft) : At w' B T l := by
  have hlt := h.lt
  unfold At at *
  rw [k.block B hlt hne]; exact h

/-- a row of elements, of so many cells each, that is a slice's own from its block's head on -/
def Own (w : World) (e : TypeId) (size : Nat) (ao : Option Addr) (n cap : Nat) (xs : List Value) : Prop := w.ownsRow 0 e size (.slice ao n cap) n xs
/-- the block of it -/
def blk : Option Addr → List Nat
  | some a => [a.block]
  | none => []
theorem Own.nil (w : World) (e : TypeId) (size : Nat) : Own w e size none 0 0 [] := World.ownsRow_nil _ _ _ _
theorem Own.touch {ft : List Nat} {w w' : World} {e : TypeId} {size n cap : Nat} {ao : Option Addr} {xs : List Value} (h : Own w e size ao n cap xs) (k : Touch ft w w') (hne : ∀ i, i ∈ blk ao → i ∉ ft) : Own w' e size ao n cap xs := by
  refine ⟨h.1, ?_⟩
  rcases h.2 with h0 | ⟨g, cap', cur, hv, hbg, hg, rest⟩
  · exact .inl h0
  · cases hv
    exact .inr ⟨g, _, cur, rfl, hbg, by rw [k.block g (Array.getElem?_eq_some_iff.1 hg).1 (hne g (by simp [blk]))]; exact hg, rest⟩
theorem Own.lt {w : World} {e : TypeId} {size n cap : Nat} {ao : Option Addr} {xs : List Value} (h : Own w e size ao n cap xs) : ∀ i, i ∈ blk ao → i < w.heap.size := fun i hi => by
  rcases h.2 with ⟨h0, _⟩ | ⟨g, cap', cur, hv, hbg, hg, rest⟩
  · cases h0; simp [blk] at hi
  · cases hv; simp [blk] at hi; subst hi; exact (Array.getElem?_eq_some_iff.1 hg).1
theorem Own.there {w : World} {e : TypeId} {size n cap : Nat} {ao : Option Addr} {xs : List Value} (h : Own w e size ao n cap xs) (hn : 0 < n) :
    ∃ g cur, ao = some ⟨g, 0, none⟩ ∧ At w g e (xs ++ cur) ∧ n ≤ cap ∧ xs.length = n * size := by
  rcases h.2 with ⟨_, h0⟩ | ⟨g, cap', cur, hv, hbg, hg, h1, h2, h3, h4⟩
  · omega
  · cases hv
    refine ⟨g, cur.toList.drop (n * size), rfl, ?_, h1, h.1⟩
    unfold At
    rw [← h4, List.take_append_drop]
    exact hg
theorem Own.cap {w : World} {e : TypeId} {size n cap : Nat} {ao : Option Addr} {xs : List Value} (h : Own w e size ao n cap xs) : n ≤ cap := by
  rcases h.2 with ⟨h0, h1⟩ | ⟨g, cap', cur, hv, hbg, hg, h1, h2, h3, h4⟩
  · omega
  · cases hv; exact h1
theorem Own.max {w : World} {e : TypeId} {size n cap : Nat} {ao : Option Addr} {xs : List Value} (h : Own w e size ao n cap xs) : cap ≤ maxLen := by
  rcases h.2 with ⟨h0, h1⟩ | ⟨g, cap', cur, hv, hbg, hg, h1, h2, h3, h4⟩
  · cases h0; exact Nat.zero_le _
  · cases hv; exact h2
theorem Own.type {w : World} {e T : TypeId} {size n cap : Nat} {ao : Option Addr} {xs l : List Value} (h : Own w e size ao n cap xs) {B : Nat} (hB : At w B T l) (hT : T ≠ e) : B ∉ blk ao := fun hi => by
  rcases h.2 with ⟨h0, _⟩ | ⟨g, cap', cur, hv, hbg, hg, rest⟩
  · cases h0; simp [blk] at hi
  · cases hv
    simp [blk] at hi
    subst hi
    unfold At at hB
    rw [hg] at hB
    cases hB
    exact hT rfl
theorem Addr.add0 (b j : Nat) : (⟨b, 0, none⟩ : Addr).add j = ⟨b, j, none⟩ := by unfold Addr.add; split <;> simp_all

/-- 'append', whether there is room or not: the block is the one that was, or a new one -/
theorem run_append_any {P : Program} (w : World) (t ty e : TypeId) (i : TypeInfo) (z : Value) (size bytes : Nat) (ht : P.underlying t = some (.slice e)) (hi : P.info? e = some i) (hz : i.zero = some z) (hsize : i.size = size) (hby : i.bytes = bytes) (hzs : z.cells.size = size) (hsz : 0 < size)
    (ao : Option Addr) (n cap : Nat) (xs : List Value) (hO : Own w e size ao n cap xs)
    (b m c : Nat) (news : List Value) {T2 : TypeId} (hN : At w b T2 news) (hl : news.length = m * size) (h1 : ∀ u ∈ news, u.oneCell' = true) (hm0 : 0 < m) (h63 : n + m ≤ maxLen) (hbytes : (n + m) * bytes ≤ 140737488355328) :
    ∃ ao' cap' w', (Builtin.append_ #[t, t] ty #[.slice ao n cap, .slice (some ⟨b, 0, none⟩) m c]).run P w = .ok (.slice ao' (n + m) cap') w' ∧ Own w' e size ao' (n + m) cap' (xs ++ news) ∧ Touch (blk ao) w w' ∧ (blk ao' = blk ao ∨ ∃ g, blk ao' = [g] ∧ w.heap.size ≤ g) := by
  have hc : ∀ j u, news[j]? = some u → w.cell? ((⟨b, 0, none⟩ : Addr).add j) = some u := fun j u hj => by rw [Addr.add0]; exact hN.cell j u hj
  rcases hO.2 with ⟨h0, hn0⟩ | ⟨g, cap', cur, hv, hbg, hg, hnc, hcm, hcs, htake⟩
  · cases h0
    obtain rfl : xs = [] := List.eq_nil_of_length_eq_zero (by have := hO.1; simpa using this)
    obtain ⟨v', w', hrun, ho, hgr, _⟩ := run_append_own (P := P) w w.heap.size t ty e i z size bytes ht hi hz hsize hby hzs hsz (.slice none 0 0) 0 [] (World.ownsRow_nil w _ e size) ⟨b, 0, none⟩ m c news hl hc h1 h63 hbytes (Nat.le_refl _)
    rcases ho.2 with ⟨_, h5⟩ | ⟨g, cap', cur, rfl, hb, r1, r2, r3, r4⟩
    · omega
    · refine ⟨_, _, w', hrun, ⟨ho.1, .inr ⟨g, cap', cur, rfl, Nat.zero_le _, r1, r2, r3, r4⟩⟩, ⟨hgr.os, hgr.tape, hgr.output, hgr.size, fun k hk _ => hgr.block k hk (by simp [Value.ownBlock])⟩, .inr ⟨g, rfl, hb⟩⟩
  · cases hv
    by_cases hroom : n + m ≤ cap
    · obtain ⟨w', hrun, ho, hgr⟩ := run_append_fits (P := P) w 0 t ty e i size ht hi hsize g n cap xs hO ⟨b, 0, none⟩ m c news hl hc h1 hroom
      exact ⟨_, _, w', hrun, ho, ⟨hgr.os, hgr.tape, hgr.output, hgr.size, fun k hk hne => hgr.block k hk (fun e => hne (by cases e; simp [blk]))⟩, .inl rfl⟩
    · have holds : ∀ j u, xs[j]? = some u → w.cell? ((⟨g, 0, none⟩ : Addr).add j) = some u := World.ownsRow.cells hO (g := g) rfl
      obtain ⟨v', w', hrun, ho, hgr⟩ := run_append_arg_grows (P := P) w t ty e i z size bytes ht hi hz hsize hby hzs hsz ⟨g, 0, none⟩ n cap xs hO.1 holds ⟨b, 0, none⟩ m c news hl hc (by omega) h63 hbytes
      rcases ho.2 with ⟨_, h5⟩ | ⟨g', cap', cur', rfl, hb, r1, r2, r3, r4⟩
      · omega
      · exact ⟨_, _, w', hrun, ⟨ho.1, .inr ⟨g', cap', cur', rfl, Nat.zero_le _, r1, r2, r3, r4⟩⟩, ⟨hgr.os, hgr.tape, hgr.output, hgr.size, fun k hk _ => hgr.block k hk (by simp)⟩, .inr ⟨g', rfl, hb⟩⟩

theorem run_make_rowN {P : Program} (t e : TypeId) (i : TypeInfo) (z : Value) (ht : P.underlying t = some (.slice e)) (hi : P.info? e = some i) (hz : i.zero = some z)
    (kl kc : IntKind) (n c : Nat) (hnc : n ≤ c) (hbytes : i.bytes * c ≤ 281474976710656) (h63 : c ≤ 9223372036854775807) (w : World) :
    (Instr.makeSlice t (.int kl (n : Int)) (.int kc (c : Int))).run P w = .ok (.slice (some ⟨w.heap.size, 0, none⟩) n c) (w.alloc (.cells (madeCells z.cells (c * i.size)) e)) := by
  have hb : (i.bytes : Int) * (c : Int) ≤ 281474976710656 := by
    have h : ((i.bytes * c : Nat) : Int) ≤ 281474976710656 := by omega
    rwa [Int.natCast_mul] at h
  have hr := run_make (P := P) w t e i z ht hi hz kl kc n c (by omega) (by omega) hb (by omega)
  simp only [Int.toNat_natCast] at hr
  exact hr

section
variable {P : Program}
theorem run_convert_op {o : Oper} {a : Act} {w w1 : World} (t u : TypeId) (x : Operand) (ho : o.op = .convert t u x) (v : Value) (hx : a.eval x = v) {y : Value} (hr : (convert t u v).run P w = .ok y w1) :
    (execOp a.eval o).run P w = .ok (.value y) w1 := by
  unfold execOp
  simp [ho, hx, hr, Result.andThen]
theorem run_load_op {o : Oper} {a : Act} {w : World} (ty : TypeId) (x : Operand) (ho : o.op = .load ty x) (b off : Nat) (hx : a.eval x = .pointer (some ⟨b, off, none⟩)) (cs : List Value) (d : TypeDesc) (hc : w.rangeAt b off cs)
    (hu : P.underlying ty = some d) (hd : d.isRow = true) (hi : (P.info? ty).map (·.size) = some cs.length) : (execOp a.eval o).run P w = .ok (.value (.agg cs.toArray)) w := by
  unfold execOp
  simp only [ho, hx, Instr.loadAt, Instr.sureAddr, Sem.run_bind, Sem.run_pure, Result.andThen_ok, run_loadVar_mid w b off ty cs d hc hu hd hi]
theorem run_store_op {o : Oper} {a : Act} {w : World} (ty : TypeId) (x y : Operand) (ho : o.op = .store ty x y) (b off : Nat) (cells : Array Value) (hx : a.eval x = .pointer (some ⟨b, off, none⟩)) (hy : a.eval y = .agg cells)
    (ht : w.there b off cells.size) (hi : (P.info? ty).map (·.size) = some cells.size) (h1 : cells.all (·.oneCell') = true) : (execOp a.eval o).run P w = .ok .skip (w.setCells b off cells.toList) := by
  unfold execOp
  simp only [ho, hx, hy, Instr.storeAt, Instr.sureAddr, Sem.run_bind, Sem.run_pure, Result.andThen_ok, run_storeVar_mid w b off ty cells ht hi h1]
theorem still_val {ops : Array Oper} {w : World} {Q : Act → Prop} {a : Act} {o : Oper} {rest : List Oper} {v : Value} (hgd : o.guard = none) (hr : (execOp a.eval o).run P w = .ok (.value v) w) (h : wpStill P ops w Q rest (a.put o.dst v)) : wpStill P ops w Q (o :: rest) a := by
  unfold wpStill
  have hw : Region.wanted o (yielded ops a.tmps) = true := by simp [Region.wanted, hgd]
  rw [if_pos hw]
  unfold Oper.still
  rw [hr, Oper.stillUpon_value]
  exact h
theorem still_load {ops : Array Oper} {w : World} {Q : Act → Prop} {a : Act} {o : Oper} {rest : List Oper} (hgd : o.guard = none) (ty : TypeId) (x : Operand) (ho : o.op = .load ty x) (b off : Nat) (hx : a.eval x = .pointer (some ⟨b, off, none⟩)) (cs : List Value) (d : TypeDesc) (hc : w.rangeAt b off cs)
    (hu : P.underlying ty = some d) (hd : d.isRow = true) (hi : (P.info? ty).map (·.size) = some cs.length) (h : wpStill P ops w Q rest (a.put o.dst (.agg cs.toArray))) : wpStill P ops w Q (o :: rest) a :=
  still_val hgd (run_load_op ty x ho b off hx cs d hc hu hd hi) h
theorem alloc_agg {ops : Array Oper} {rest : List Oper} {op : Oper} {a : Act} {w : World} {Q : Exit → Act → World → Prop} (hgd : op.guard = none) (ty : TypeId) (ho : op.op = .alloc ty) (z : Array Value) (hz : ∀ w, (zeroValue ty).run P w = .ok (.agg z) w)
    (h : wpList P ops Q rest (a.put op.dst (.pointer (some ⟨w.heap.size, 0, none⟩))) (w.alloc (.cells z ty))) : wpList P ops Q (op :: rest) a w :=
  wpList_plain hgd fun K hK => by
    have hzw := hz
    unfold Oper.wp execOp
    simp [ho, hzw, go_sem]
    exact hK _ _ h
theorem list_val {ops : Array Oper} {rest : List Oper} {op : Oper} {a : Act} {w w' : World} {Q : Exit → Act → World → Prop} (hgd : op.guard = none) {v : Value} (hr : (execOp a.eval op).run P w = .ok (.value v) w')
    (h : wpList P ops Q rest (a.put op.dst v) w') : wpList P ops Q (op :: rest) a w :=
  wpList_plain hgd fun K hK => by
    unfold Oper.wp
    rw [hr]
    exact hK _ _ h
theorem run_copy_op {o : Oper} {a : Act} {w w1 : World} (s x : Operand) (t u : TypeId) (ho : o.op = .call { callee := .builtin .copy, args := #[s, x], argTypes := #[t, u] }) (v y : Value) (hs : a.eval s = v) (hx : a.eval x = y) {z : Value}
    (hr : (Builtin.copy_ #[t, u] o.type #[v, y]).run P w = .ok z w1) : (execOp a.eval o).run P w = .ok (.value z) w1 := by
  unfold execOp
  simp [ho, resolve, invoke, builtin, hs, hx, hr, Result.andThen]
theorem run_append_op {o : Oper} {a : Act} {w w1 : World} (s x : Operand) (t u : TypeId) (ho : o.op = .call { callee := .builtin .append, args := #[s, x], argTypes := #[t, u] }) (v y : Value) (hs : a.eval s = v) (hx : a.eval x = y) {z : Value}
    (hr : (Builtin.append_ #[t, u] o.type #[v, y]).run P w = .ok z w1) : (execOp a.eval o).run P w = .ok (.value z) w1 := by
  unfold execOp
  simp [ho, resolve, invoke, builtin, hs, hx, hr, Result.andThen]
/-- a struct is read, wherever it lies -/
theorem load_any {ops : Array Oper} {rest : List Oper} {op : Oper} {a : Act} {w : World} {Q : Exit → Act → World → Prop} (hgd : op.guard = none) (ty : TypeId) (x : Operand) (ho : op.op = .load ty x)
    (p : Addr) (hx : a.eval x = .pointer (some p)) (cs : List Value) (d : TypeDesc) (hc : ∀ j v, cs[j]? = some v → w.cell? (p.add j) = some v)
    (hu : P.underlying ty = some d) (hd : d.isRow = true) (hi : (P.info? ty).map (·.size) = some cs.length)
    (h : wpList P ops Q rest (a.put op.dst (.agg cs.toArray)) w) : wpList P ops Q (op :: rest) a w := by
  have hl : (loadCells p cs.length).run P w = .ok cs.toArray w := run_loadCells_list (P := P) w p cs hc
  refine list_val hgd (v := .agg cs.toArray) (w' := w) ?_ h
  cases hq : P.info? ty with
  | none => simp [hq] at hi
  | some i =>
    have hs : i.size = cs.length := by simpa [hq] using hi
    have hagg : (isAgg ty).run P w = .ok true w := by
      unfold isAgg
      rw [Sem.run_bind, run_underlying hu w]
      cases d <;> simp_all
    unfold execOp
    simp only [ho, hx, Instr.loadAt, Instr.sureAddr, Sem.run_bind, Sem.run_pure, Result.andThen_ok]
    simp [loadVar, Sem.run_bind, hagg, sizeOf, typeInfo, hq, hs, hl]
end
end Go.Proofs.Ytdpeblchndfdaaa
