/- Small facts on memory: one block known whole. -/
import Derived.WalkKit
import Derived.WalkSpells
import Derived.WalkLawsBesides
import Derived.Laws.CopyRow
import Derived.Lib.Hide
namespace Go.Proofs.Ytdpeblchndfdaaa
open Go.RowKit

/-- block B holds just these cells -/
def At (w : World) (B : Nat) (T : TypeId) (l : List Value) : Prop := w.heap[B]? = some (.cells l.toArray T (0, 0))

theorem At.lt {w : World} {B : Nat} {T : TypeId} {l : List Value} (h : At w B T l) : B < w.heap.size := (Array.getElem?_eq_some_iff.1 h).1
theorem At.cell {w : World} {B : Nat} {T : TypeId} {l : List Value} (h : At w B T l) (i : Nat) (v : Value) (hi : l[i]? = some v) : w.cell? ⟨B, i, none⟩ = some v := by
  unfold At at h
  simp [World.cell?, h, hi]
theorem At.frozen {w : World} {B : Nat} {T : TypeId} {l : List Value} (h : At w B T l) (i : Nat) : w.frozen? ⟨B, i, none⟩ = false := by
  unfold At at h
  simp [World.frozen?, h]
theorem At.setCell {w : World} {B : Nat} {T : TypeId} {l : List Value} (h : At w B T l) (i : Nat) (v : Value) : At (w.setCell ⟨B, i, none⟩ v) B T (l.set i v) := by
  have hlt := h.lt
  unfold At at *
  simp only [World.setCell, Array.getElem?_modify]
  simp [h]
theorem At.setCell_ne {w : World} {B : Nat} {T : TypeId} {l : List Value} (h : At w B T l) (a : Addr) (v : Value) (hne : B ≠ a.block) : At (w.setCell a v) B T l := by
  unfold At at *
  rw [Below.heap_setCell _ _ _ _ hne]; exact h
theorem At.alloc {w : World} {B : Nat} {T : TypeId} {l : List Value} (h : At w B T l) (o : Obj) : At (w.alloc o) B T l := by
  have hlt := h.lt
  unfold At at *
  rw [Below.heap_alloc _ _ _ hlt]; exact h
theorem At.new (w : World) (c : Array Value) (T : TypeId) : At (w.alloc (.cells c T)) w.heap.size T c.toList := by
  unfold At
  rw [(MapKept.heap_alloc w _).1]
theorem At.below {w w' : World} {S B : Nat} {T : TypeId} {l : List Value} (h : At w B T l) (hb : Below S w w') (hS : B < S) : At w' B T l := by
  unfold At at *
  rw [hb.block B hS]; exact h
theorem At.setRow {w : World} {B : Nat} {T : TypeId} {l : List Value} (h : At w B T l) (c : Array Value) : At (w.setRow B c) B T c.toList := by
  unfold At at *
  rw [setRow_heap w B _ c T (0, 0) h]
theorem At.setRow_ne {w : World} {B B' : Nat} {T : TypeId} {l : List Value} (h : At w B T l) (c : Array Value) (hne : B ≠ B') : At (w.setRow B' c) B T l := by
  unfold At at *
  simp only [World.setRow, Array.getElem?_modify]
  rw [if_neg (fun e => hne e.symm)]; exact h
theorem below_setRow' {S : Nat} {w0 w : World} (h : Below S w0 w) (B : Nat) (hB : S ≤ B) (c : Array Value) : Below S w0 (w.setRow B c) := by
  refine ⟨h.os, h.tape, h.output, ?_, fun k hk => ?_⟩
  · have := h.size; simpa [World.setRow] using this
  · rw [← h.block k hk]
    simp only [World.setRow, Array.getElem?_modify]
    rw [if_neg (by omega)]
theorem Below.refl' (w : World) : Below w.heap.size w w := Below.refl _ _
theorem below_drewN (w : World) (n : Nat) : Below w.heap.size w (w.drewN n) := ⟨rfl, rfl, rfl, Nat.le_refl _, fun _ _ => rfl⟩

theorem below_drewN' {S : Nat} {w w1 : World} (h : Below S w w1) (n : Nat) : Below S w (w1.drewN n) := ⟨h.os, h.tape, h.output, h.size, h.block⟩

/-- block b may be another one; all else that was there is as it was -/
structure Only (b : Nat) (w w' : World) : Prop where
  os : w'.os = w.os
  tape : w'.tape = w.tape
  output : w'.output = w.output
  size : w.heap.size ≤ w'.heap.size
  block : ∀ k, k < w.heap.size → k ≠ b → w'.heap[k]? = w.heap[k]?

theorem Only.refl (b : Nat) (w : World) : Only b w w := ⟨rfl, rfl, rfl, Nat.le_refl _, fun _ _ _ => rfl⟩
theorem Only.trans {b : Nat} {u v w : World} (h : Only b u v) (k : Only b v w) : Only b u w :=
  ⟨k.os.trans h.os, k.tape.trans h.tape, k.output.trans h.output, Nat.le_trans h.size k.size,
    fun i hi hb => (k.block i (Nat.lt_of_lt_of_le hi h.size) hb).trans (h.block i hi hb)⟩
theorem Only.of_below {b : Nat} {w w' : World} (h : Below w.heap.size w w') : Only b w w' := ⟨h.os, h.tape, h.output, h.size, fun k hk _ => h.block k hk⟩
theorem Only.setCell (b i : Nat) (w : World) (v : Value) : Only b w (w.setCell ⟨b, i, none⟩ v) :=
  ⟨rfl, rfl, rfl, by simp [World.setCell], fun k _ hb => Below.heap_setCell _ _ _ _ hb⟩
theorem Only.below {b : Nat} {S : Nat} {u w w' : World} (h : Below S u w) (k : Only b w w') (hb : S ≤ b) (hS : S ≤ u.heap.size) : Below S u w' :=
  ⟨k.os.trans h.os, k.tape.trans h.tape, k.output.trans h.output, Nat.le_trans h.size k.size,
    fun i hi => (k.block i (Nat.lt_of_lt_of_le hi (Nat.le_trans hS h.size)) (by omega)).trans (h.block i hi)⟩
theorem Below.then {b : Nat} {u w w' : World} (h : Below u.heap.size u w) (k : Only b w w') (hb : u.heap.size ≤ b) : Below u.heap.size u w' := Only.below h k hb (Nat.le_refl _)
theorem At.only {w w' : World} {b B : Nat} {T : TypeId} {l : List Value} (h : At w B T l) (k : Only b w w') (hne : B ≠ b) : At w' B T l := by
  have hlt := h.lt
  unfold At at *
  rw [k.block B hlt hne]; exact h

/-- texts as lists of bytes -/
def bs (l : List UInt8) : ByteArray := ⟨l.toArray⟩
theorem bs_data (s : ByteArray) : bs s.data.toList = s := by cases s; simp [bs]
theorem data_bs (l : List UInt8) : (bs l).data.toList = l := by simp [bs]
theorem bs_size (l : List UInt8) : (bs l).size = l.length := by
  show (bs l).data.size = _
  simp [bs]
theorem bs_drop (s : ByteArray) (k : Nat) : s.extract k s.size = bs (s.data.toList.drop k) := by
  apply ByteArray.ext
  rw [ByteArray.data_extract]
  unfold bs
  apply Array.ext'
  simp
  rw [List.take_of_length_le (by simp)]
theorem bs_take (s : ByteArray) (k : Nat) : s.extract 0 k = bs (s.data.toList.take k) := by
  apply ByteArray.ext
  rw [ByteArray.data_extract]
  unfold bs
  apply Array.ext'
  simp
theorem bs_take_bs (l : List UInt8) (k : Nat) : (bs l).extract 0 k = bs (l.take k) := by rw [bs_take, data_bs]
theorem bs_drop_bs (l : List UInt8) (k : Nat) : (bs l).extract k (bs l).size = bs (l.drop k) := by rw [bs_drop, data_bs]
theorem bs_append (a b : List UInt8) : bs a ++ bs b = bs (a ++ b) := by
  apply ByteArray.ext
  simp [bs]
theorem bs_cons (s : ByteArray) (l : List UInt8) : s ++ bs l = bs (s.data.toList ++ l) := by
  apply ByteArray.ext
  simp [bs]
theorem drop_cons (s : ByteArray) (k : Nat) (h : k < s.size) : s.data.toList.drop k = s[k] :: s.data.toList.drop (k + 1) := by
  have : k < s.data.toList.length := by simpa using h
  rw [List.drop_eq_getElem_cons this]; rfl
theorem size_data (s : ByteArray) : s.data.toList.length = s.size := by simp
theorem size_zero {s : ByteArray} (h : s.data.toList = []) : s.size = 0 := by rw [← size_data, h]; rfl

/-- a byte as a value -/
def bv (c : UInt8) : Value := .int .u8 (c.toNat : Int)
theorem bv_one (l : List UInt8) : ∀ v ∈ l.map bv, v.oneCell' = true := by
  intro v hv
  obtain ⟨c, _, rfl⟩ := List.mem_map.1 hv
  rfl
theorem ret_of {a b : Value} (h : b = a) : Ending.returned a = Ending.returned b := by rw [h]
end Go.Proofs.Ytdpeblchndfdaaa
