/- NarKnown. -/
import Derived.Test.YtdpeblchndfdaaaMu
import Derived.Laws.IdiomStrings
namespace Go.Proofs.Ytdpeblchndfdaaa
open Go.RowKit
set_option maxRecDepth 100000
section
variable {ops : Array Oper} {rest : List Oper} {op : Oper} {a : Act} {w : World} {Q : Exit → Act → World → Prop}
/-- sixty thousand noughts -/
theorem make60 (hgd : op.guard = none) (ho : op.op = .makeSlice 37 (.const (.int .i64 60000)) (.const (.int .i64 60000)))
    (h : ∀ u, (∀ j, j < 60000 → u.cell? ⟨w.heap.size, j, none⟩ = some (.int .u8 0)) → Below w.heap.size w u → u.heap.size = w.heap.size + 1 → wpList Try.prog ops Q rest (a.put op.dst (.slice (some ⟨w.heap.size, 0, none⟩) 60000 60000)) u) : wpList Try.prog ops Q (op :: rest) a w := by
  obtain ⟨i5, hi5, hz0, hz1, hz2⟩ := info_parts info_u8
  have hr := run_make_rowN (P := Try.prog) 37 5 i5 (.int .u8 0) Try.underlying37 hi5 hz0 .i64 .i64 60000 60000 (Nat.le_refl _) (by rw [hz2]; omega) (by omega) w
  rw [hz1, Nat.mul_one] at hr
  have hA := At.new w (madeCells (Value.int .u8 0).cells 60000) 5
  refine list_val hgd (v := .slice (some ⟨w.heap.size, 0, none⟩) 60000 60000) (w' := w.alloc (.cells (madeCells (Value.int .u8 0).cells 60000) 5)) ?_ (h _ (fun j hj => ?_) ((Below.refl _ w).alloc (Nat.le_refl _) _) (by rw [World.size_alloc]))
  · unfold execOp
    have hc : a.eval (.const (.int .i64 60000)) = .int .i64 60000 := rfl
    have hr' : (Instr.makeSlice 37 (.int .i64 60000) (.int .i64 60000)).run Try.prog w = .ok (.slice (some ⟨w.heap.size, 0, none⟩) 60000 60000) (w.alloc (.cells (madeCells (Value.int .u8 0).cells 60000) 5)) := hr
    simp only [ho, hc, Sem.run_bind, hr', Result.andThen_ok]
    rfl
  · refine hA.cell j _ ?_
    have e : (madeCells (Value.int .u8 0).cells 60000).toList = List.replicate 60000 (.int .u8 0) := toList_madeCells_one (.int .u8 0) 60000
    rw [e, List.getElem?_replicate, if_pos hj]
theorem conv60 (hgd : op.guard = none) (x : Operand) (ho : op.op = .convert 37 9 x) (B : Nat) (hx : a.eval x = .slice (some ⟨B, 0, none⟩) 60000 60000) (l : List UInt8) (hl : l.length = 60000) (hc : ∀ j (hj : j < l.length), w.cell? ⟨B, j, none⟩ = some (.int .u8 (l[j].toNat : Int)))
    (h : wpList Try.prog ops Q rest (a.put op.dst (.string (bs l))) w) : wpList Try.prog ops Q (op :: rest) a w := by
  have hr := run_convert_bytes_back (P := Try.prog) w 37 9 5 ⟨B, 0, none⟩ 60000 l Try.underlying37 Try.underlying5 Try.underlying9 (fun j hj => by
    have e : (⟨B, 0, none⟩ : Addr).add j = ⟨B, j, none⟩ := by
      unfold Addr.add
      split
      · rename_i h0; simp [h0]
      · simp
    rw [e]
    exact hc j hj)
  rw [hl] at hr
  refine list_val hgd (v := .string (bs l)) (w' := w) ?_ h
  unfold execOp
  simp only [ho, hx, Sem.run_bind, hr, Result.andThen_ok]
  rfl
end
theorem file_chk (d : List UInt8) (hd : d.length ≤ 100000) : checkL 15 ⟨[], 1, false, d, []⟩ = 0 := by
  have h1 : depthL 14 ⟨[], 1, false, d, []⟩ = 1 := rfl
  have h2 : nodesL 15 1 ⟨[], 1, false, d, []⟩ = [(1, ⟨[], 1, false, d, []⟩)] := by
    show nodesL (14 + 1) 1 _ = _
    rw [nodesL_succ, h1, if_neg (by decide)]
    rfl
  have h3 : mayL 15 ⟨[], 1, false, d, []⟩ = true := rfl
  unfold checkL
  rw [h1, if_neg (by decide), h3, h2]
  have h4 : bytesL [(1, ⟨[], 1, false, d, []⟩)] = d.length := by unfold bytesL; simp [Nd.data]
  rw [h4, if_neg (by simp [Nd.name]), if_neg (by simp; omega)]
theorem file_long (d : List UInt8) (hd : d.length = 60000) : encS 15 ⟨[], 1, false, d, []⟩ = [] ∧ encE 15 ⟨[], 1, false, d, []⟩ = 3 := by
  refine enc_long (file_chk d (by omega)) ?_
  have h2 : headB.length = 11 := by decide +kernel
  have hE : encL 15 ⟨[], 1, false, d, []⟩ = Plain.row 1 ++ (Plain.row 0 ++ txt d) := rfl
  have := txt_len d
  rw [hE]
  simp only [List.length_append]
  omega
/-- a small tree that is known -/
def smallB (n : Nd) : Bool := (nodesL 15 1 n).all (fun p => decide (p.1 ≤ 65536) && decide (p.2.data.length ≤ 1000)) && decide ((nodesL 15 1 n).length ≤ 1000)
theorem enc_known (n : Nd) (hs : smallB n = true) (S : List UInt8) (E : Int) (hS : encS 15 n = S) (hE : encE 15 n = E) (ao : Option Addr) (cap : Nat) (w : World) (hH : Has any_ w 15 n ao) :
    Calls Try.prog 10 #[.agg (n.cells ao cap).toArray] w fun e w' => e = .returned (.tuple #[.string (bs S), .int .i64 E]) ∧ Below w.heap.size w w' := by
  unfold smallB at hs
  simp only [Bool.and_eq_true, decide_eq_true_eq, List.all_eq_true] at hs
  have h := encode_any 1000 1000 (by decide) (by decide) (by decide) 15 n ao cap w (by decide) hH (fun _ _ => ⟨fun p hp => hs.1 p hp, hs.2⟩) enc_short
  rw [hS, hE] at h
  exact h
def linkN : Nd := ⟨[98], 3, false, [99], []⟩
def treeN : Nd := ⟨[], 2, false, [], [linkN]⟩
def execN : Nd := ⟨[], 1, true, [], []⟩
def noN : Nd := ⟨[], 0, false, [], []⟩
def nameN : Nd := ⟨[97], 1, false, [], []⟩
def treeB : List UInt8 := [10, 119, 104, 105, 115, 107, 45, 116, 114, 101, 101, 2, 1, 1, 98, 3, 1, 99]
def execB : List UInt8 := [10, 119, 104, 105, 115, 107, 45, 116, 114, 101, 101, 1, 1, 0]
theorem tree_dec : decL treeB = some treeN := by
  have hc : checkL 15 treeN = 0 := by decide +kernel
  have he : headB ++ encL 15 treeN = treeB := by decide +kernel
  have h := dec_enc hc (by rw [he]; decide)
  rwa [he] at h
def badR : List (List UInt8) := [[], magicB, magicB ++ [2, 0, 0], magicB ++ [1, 2, 0], magicB ++ [1, 0], magicB ++ [4], magicB ++ [3, 0], magicB ++ [2, 1, 0, 1, 0, 0], magicB ++ [2, 2, 1, 98, 1, 0, 0, 1, 97, 1, 0, 0], magicB ++ [2, 2, 1, 97, 1, 0, 0, 1, 97, 1, 0, 0], magicB ++ [2, 1, 2, 46, 46, 1, 0, 0], [10, 119, 104, 105, 115, 107, 45, 116, 114, 105, 101, 1, 0, 0], magicB ++ [1, 128, 0, 0]]
theorem bad_none : badR.all (fun x => (decL x).isNone) = true := by decide +kernel
theorem bad_get (k : Nat) (x : List UInt8) (h : badR[k]? = some x) : decL x = none := by
  have := List.all_eq_true.mp bad_none x (List.mem_of_getElem? h)
  simpa using this
def badV : List Value := badR.map (fun x => .string (bs x))
theorem badV_len : badV.length = 13 := rfl
end Go.Proofs.Ytdpeblchndfdaaa
