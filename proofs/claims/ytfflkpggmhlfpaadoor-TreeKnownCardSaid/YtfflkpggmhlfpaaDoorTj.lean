/- A path's names. -/
import Derived.Test.YtfflkpggmhlfpaaDoorTi
import Derived.Test.YtfflkpggmhlfpaaDoorSh
import Derived.Lib.Split
import Derived.Lib.IndexBytes
import Derived.Lib.IndexLaws
namespace Go.Proofs.YtfflkpggmhlfpaaDoor
open Go.RowKit
set_option maxRecDepth 100000
/-- cut at its strokes -/
def splitL : List UInt8 → List (List UInt8)
  | [] => [[]]
  | c :: r => if c = 47 then [] :: splitL r else match splitL r with | [] => [[c]] | x :: t => (c :: x) :: t
theorem splitL_ne : ∀ s : List UInt8, splitL s ≠ []
  | [] => by simp [splitL]
  | c :: r => by
    unfold splitL
    split
    · simp
    · split <;> simp
theorem splitL_none : ∀ s : List UInt8, (47 : UInt8) ∉ s → splitL s = [s]
  | [], _ => rfl
  | c :: r, h => by
    rw [List.mem_cons, not_or] at h
    unfold splitL
    rw [if_neg (fun e => h.1 e.symm), splitL_none r h.2]
theorem splitL_app : ∀ (a b : List UInt8), (47 : UInt8) ∉ a → splitL (a ++ 47 :: b) = a :: splitL b
  | [], b, _ => by
    show splitL (47 :: b) = _
    conv => lhs; unfold splitL
    rw [if_pos rfl]
  | c :: r, b, h => by
    rw [List.mem_cons, not_or] at h
    show splitL (c :: (r ++ 47 :: b)) = _
    conv => lhs; unfold splitL
    rw [if_neg (fun e => h.1 e.symm), splitL_app r b h.2]
theorem split_eq : ∀ (n : Nat) (s : List UInt8), s.length ≤ n → Lib.split s [47] = splitL s ∧ (splitL s).length = Lib.count s [47] + 1 := by
  intro n
  induction n with
  | zero =>
    intro s hs
    obtain rfl : s = [] := List.eq_nil_of_length_eq_zero (by omega)
    exact ⟨by decide +kernel, by decide +kernel⟩
  | succ n ih =>
    intro s hs
    by_cases hm : (47 : UInt8) ∈ s
    · obtain ⟨i, hi⟩ : ∃ i : Nat, Lib.index s [47] = i := by
        have := Lib.index_ge s [47]
        by_cases h : Lib.index s [47] = -1
        · rw [Lib.index_one] at h
          obtain ⟨k, hk⟩ := List.getElem?_of_mem hm
          exact absurd hk (Lib.indexByte_none h k)
        · exact ⟨(Lib.index s [47]).toNat, by omega⟩
      have hi2 := hi
      rw [Lib.index_one] at hi2
      obtain ⟨h1, h2⟩ := Lib.indexByte_some hi2
      have hil := (List.getElem?_eq_some_iff.1 h1).1
      have hsplit : s = s.take i ++ 47 :: s.drop (i + 1) := by
        conv => lhs; rw [← List.take_append_drop i s]
        congr 1
        rw [List.drop_eq_getElem_cons hil]
        congr 1
        exact (List.getElem?_eq_some_iff.1 h1).2
      have hno : (47 : UInt8) ∉ s.take i := fun h => by
        obtain ⟨k, hk⟩ := List.getElem?_of_mem h
        have hkl := (List.getElem?_eq_some_iff.1 hk).1
        rw [List.length_take] at hkl
        rw [List.getElem?_take, if_pos (by omega)] at hk
        exact h2 k (by omega) hk
      have hc := Lib.count_hit (sub := [47]) (by simp) hi
      simp only [List.length_singleton] at hc
      obtain ⟨e1, e2⟩ := ih (s.drop (i + 1)) (by rw [List.length_drop]; omega)
      have hL : splitL s = s.take i :: splitL (s.drop (i + 1)) := by
        conv => lhs; rw [hsplit]
        exact splitL_app _ _ hno
      rw [hL]
      refine ⟨?_, by rw [List.length_cons, e2, hc]; omega⟩
      unfold Lib.split
      rw [hc, Nat.add_comm 1]
      unfold Lib.splitK
      have hne : ¬ (Lib.index s [47] == -1) = true := fun e => by have := beq_iff_eq.1 e; omega
      rw [if_neg hne, show (Lib.index s [47]).toNat = i by omega]
      simp only [List.length_singleton, Nat.add_zero]
      rw [← e1]
      rfl
    · have hi : Lib.index s [47] = -1 := by
        have h1 := Lib.index_ge s [47]
        by_cases h : Lib.index s [47] = -1
        · exact h
        · exfalso
          have e : Lib.indexByte s 47 = ((Lib.index s [47]).toNat : Int) := by rw [← Lib.index_one]; omega
          exact hm (List.mem_of_getElem? (Lib.indexByte_some e).1)
      rw [splitL_none s hm]
      unfold Lib.split
      rw [Lib.count_miss hi]
      exact ⟨rfl, rfl⟩
/-- the number that the library's search asks for is there -/
def Glob (w : World) : Prop := ∃ m : Int, w.cell? ⟨0, 0, none⟩ = some (.int .i64 m)
theorem Glob.below {w w' : World} (h : Glob w) (b : Below w.heap.size w w') : Glob w' := by
  obtain ⟨m, hm⟩ := h
  exact ⟨m, by rw [← hm]; exact b.cell (World.block_lt_of_cell? w _ hm)⟩
theorem split_any (s : List UInt8) (w : World) (hs : s.length ≤ 4000000000) (hg : Glob w) :
    Calls Tryd.prog 16 #[.string (bs s), .string ⟨#[47]⟩] w fun e w' => e = .returned (.slice (some ⟨w.heap.size, 0, none⟩) (splitL s).length (splitL s).length) ∧ At w' w.heap.size 9 ((splitL s).map fun t => .string (bs t)) ∧ Below w.heap.size w w' := by
  obtain ⟨m, hm⟩ := hg
  refine (Tryd.strings_Split (bs s) ⟨#[47]⟩ m w (by rw [bs_size]; omega) hm (by decide)).mono ?_
  rintro e w' ⟨rfl, rfl⟩
  obtain ⟨e1, e2⟩ := split_eq s.length s (Nat.le_refl _)
  have hd : (bs s).data.toList = s := data_bs s
  have hc : Lib.countB (bs s) ⟨#[47]⟩ = Lib.count s [47] := by show Lib.count (bs s).data.toList _ = _; rw [hd]
  have hB : (Lib.splitB ⟨#[47]⟩ 0 (Lib.countB (bs s) ⟨#[47]⟩) (bs s)).map Value.string = (splitL s).map fun t => .string (bs t) := by
    rw [← e1]
    unfold Lib.split
    have h := Lib.splitB_data ⟨#[47]⟩ 0 (Lib.countB (bs s) ⟨#[47]⟩) (bs s)
    rw [hd, hc] at h
    rw [hc, ← h, List.map_map]
    refine congrArg (fun f => List.map f _) ?_
    funext b
    show Value.string b = .string (bs b.data.toList)
    rw [bs_data]
  rw [hc, ← e2, ← hc, hB]
  exact ⟨rfl, At.new w _ _, (Below.refl _ w).alloc (Nat.le_refl _) _⟩
end Go.Proofs.YtfflkpggmhlfpaaDoor
