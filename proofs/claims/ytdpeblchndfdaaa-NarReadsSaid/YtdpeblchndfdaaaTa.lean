/- Nodes as values: a model, and how they lie in memory. -/
import Derived.Test.YtdpeblchndfdaaaDa
import Derived.Test.YtdpeblchndfdaaaProg
namespace Go.Proofs.Ytdpeblchndfdaaa
open Go.RowKit
set_option maxRecDepth 100000
inductive Nd where
  | mk (name : List UInt8) (kind : Int) (exec : Bool) (data : List UInt8) (kids : List Nd)
deriving Inhabited
namespace Nd
def name : Nd → List UInt8 | ⟨a, _, _, _, _⟩ => a
def kind : Nd → Int | ⟨_, a, _, _, _⟩ => a
def exec : Nd → Bool | ⟨_, _, a, _, _⟩ => a
def data : Nd → List UInt8 | ⟨_, _, _, a, _⟩ => a
def kids : Nd → List Nd | ⟨_, _, _, _, a⟩ => a
/-- the cells of one, whose kids lie there -/
def cells (n : Nd) (ao : Option Addr) (cap : Nat) : List Value := [.string (bs n.name), .int .i64 n.kind, .bool n.exec, .string (bs n.data), .slice ao n.kids.length cap]
def v (n : Nd) (ao : Option Addr) (cap : Nat) : Value := .agg (n.cells ao cap).toArray
end Nd
/-- these cells lie at place i of a row -/
def Kid (w : World) (a : Addr) (i : Nat) (cs : List Value) : Prop := ∀ j v, cs[j]? = some v → w.cell? ((a.add (i * 5)).add j) = some v
theorem add_block (a : Addr) (n : Nat) : (a.add n).block = a.block := by unfold Addr.add; split <;> rfl
theorem Kid.lt {w : World} {a : Addr} {i : Nat} {m : Nd} {g : Option Addr} {c : Nat} (h : Kid w a i (m.cells g c)) : a.block < w.heap.size := by
  have h0 := h 0 _ rfl
  have := World.block_lt_of_cell? w _ h0
  rwa [add_block, add_block] at this
theorem Kid.kept {w w' : World} {a : Addr} {i : Nat} {cs : List Value} (h : Kid w a i cs) (hk : w'.heap[a.block]? = w.heap[a.block]?) : Kid w' a i cs := fun j v hj => by
  rw [← h j v hj]
  exact World.cell?_of_block (w := w) (by rw [add_block, add_block]; exact hk)
/-- a node of so many levels, at most, whose kids lie there, in blocks that are S -/
def Has (S : Nat → Prop) (w : World) : Nat → Nd → Option Addr → Prop
  | 0, _, _ => False
  | h + 1, n, ao => n.kids.length ≤ maxLen ∧ ∀ i m, n.kids[i]? = some m → ∃ a g c, ao = some a ∧ S a.block ∧ Kid w a i (m.cells g c) ∧ Has S w h m g
theorem Has.kept {S S' : Nat → Prop} {w w' : World} (hS : ∀ i, S i → i < w.heap.size → S' i) (hk : ∀ i, S i → i < w.heap.size → w'.heap[i]? = w.heap[i]?) : ∀ (h : Nat) (n : Nd) (ao : Option Addr), Has S w h n ao → Has S' w' h n ao
  | 0, _, _, h => h.elim
  | h + 1, n, ao, ⟨h1, h2⟩ => ⟨h1, fun i m hm => by
    obtain ⟨a, g, c, e, hs, hK, hH⟩ := h2 i m hm
    exact ⟨a, g, c, e, hS _ hs hK.lt, hK.kept (hk _ hs hK.lt), Has.kept hS hk h m g hH⟩⟩
theorem Has.mono {S S' : Nat → Prop} {w : World} {h : Nat} {n : Nd} {ao : Option Addr} (hH : Has S w h n ao) (hS : ∀ i, S i → i < w.heap.size → S' i) : Has S' w h n ao := Has.kept hS (fun _ _ _ => rfl) h n ao hH
/-- wherever -/
def any_ : Nat → Prop := fun _ => True
theorem Has.any {S : Nat → Prop} {w : World} {h : Nat} {n : Nd} {ao : Option Addr} (hH : Has S w h n ao) : Has any_ w h n ao := hH.mono (fun _ _ _ => trivial)
theorem Has.below {S : Nat → Prop} {w w' : World} {h : Nat} {n : Nd} {ao : Option Addr} (hH : Has S w h n ao) (b : Below w.heap.size w w') : Has S w' h n ao := Has.kept (fun _ h _ => h) (fun i _ hi => b.block i hi) h n ao hH
theorem Has.up {S : Nat → Prop} {w : World} : ∀ (h : Nat) (n : Nd) (ao : Option Addr), Has S w h n ao → Has S w (h + 1) n ao
  | 0, _, _, h => h.elim
  | h + 1, n, ao, ⟨h1, h2⟩ => ⟨h1, fun i m hm => by
    obtain ⟨a, g, c, e, hs, hK, hH⟩ := h2 i m hm
    exact ⟨a, g, c, e, hs, hK, Has.up h m g hH⟩⟩
theorem Has.ups {S : Nat → Prop} {w : World} {h k : Nat} {n : Nd} {ao : Option Addr} (hH : Has S w h n ao) (hk : h ≤ k) : Has S w k n ao := by
  induction k with
  | zero => obtain rfl : h = 0 := by omega
            exact hH
  | succ k ih =>
    by_cases e : h = k + 1
    · rw [← e]; exact hH
    · exact Has.up k n ao (ih (by omega))
theorem Has.leaf (S : Nat → Prop) (w : World) (h : Nat) (n : Nd) (ao : Option Addr) (hk : n.kids = []) : Has S w (h + 1) n ao := ⟨by rw [hk]; exact Nat.zero_le _, fun i m hm => by rw [hk] at hm; cases hm⟩
/-- a struct in a block of its own -/
theorem box_cells (n : Nd) (ao : Option Addr) (cap : Nat) : (n.cells ao cap).length = 5 := rfl
theorem info_nd : (Try.prog.info? 24).map (·.size) = some 5 := by kernel_rfl
theorem At.field {w : World} {B : Nat} {T : TypeId} {n : Nd} {ao : Option Addr} {cap : Nat} (h : At w B T (n.cells ao cap)) :
    w.cell? ⟨B, 0, none⟩ = some (.string (bs n.name)) ∧ w.cell? ⟨B, 1, none⟩ = some (.int .i64 n.kind) ∧ w.cell? ⟨B, 2, none⟩ = some (.bool n.exec) ∧ w.cell? ⟨B, 3, none⟩ = some (.string (bs n.data)) ∧ w.cell? ⟨B, 4, none⟩ = some (.slice ao n.kids.length cap) :=
  ⟨h.cell 0 _ rfl, h.cell 1 _ rfl, h.cell 2 _ rfl, h.cell 3 _ rfl, h.cell 4 _ rfl⟩
end Go.Proofs.Ytdpeblchndfdaaa
