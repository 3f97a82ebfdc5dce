/- The nodes of TreeKnown, and what is told of them. -/
import Derived.Test.YtfflkpggmhlfpaaDoorUb
import Derived.Test.YtfflkpggmhlfpaaDoorUg
namespace Go.Proofs.YtfflkpggmhlfpaaDoor
open Go.RowKit
set_option maxRecDepth 1000000
def rep (c : UInt8) (k : Nat) : List UInt8 := Lib.repeatL [c] k
theorem rep_len (c : UInt8) (k : Nat) : (rep c k).length = k := by unfold rep; rw [Lib.repeatL_length]; simp
theorem repeat_any (c : UInt8) (k : Nat) (w : World) (h2 : 2 ≤ k) (hk : k ≤ 1000000) :
    Calls Tryd.prog 21 #[.string ⟨#[c]⟩, .int .i64 (k : Int)] w fun e w' => Below w.heap.size w w' ∧ e = .returned (.string (bs (rep c k))) := by
  refine (Tryd.strings_Repeat_main ⟨#[c]⟩ k w h2 (by omega) (by show 1 * k ≤ _; omega) (by show 0 < 1; omega)).mono ?_
  rintro e w' ⟨rfl, b⟩
  exact ⟨b, rfl⟩
def fl (s d : List UInt8) : Nd := ⟨s, 1, false, d, []⟩
def dr (s : List UInt8) (ks : List Nd) : Nd := ⟨s, 2, false, [], ks⟩
/-- rows that lie there -/
def Goods (l : List Tri) (w : World) : Prop := ∀ p ∈ l, Has any_ w 4 p.1 p.2.1
theorem Goods.nil (w : World) : Goods [] w := fun p hp => by cases hp
theorem Goods.below {l : List Tri} {w w' : World} (h : Goods l w) (b : Below w.heap.size w w') : Goods l w' := fun p hp => (h p hp).below b
theorem Goods.more {l : List Tri} {w : World} (h : Goods l w) (p : Tri) (hp : Has any_ w 4 p.1 p.2.1) : Goods (l ++ [p]) w := fun q hq => by
  rcases List.mem_append.mp hq with hq | hq
  · exact h q hq
  · rw [List.mem_singleton] at hq; subst hq; exact hp
theorem Goods.leaf {l : List Tri} {w : World} (h : Goods l w) (n : Nd) (hn : n.kids = []) : Goods (l ++ [(n, none, 0)]) w := h.more _ (Has.leaf _ _ 3 _ _ hn)
theorem row_cells {w : World} {B : Nat} {ps : List Tri} (hA : At w B 24 (ps.flatMap Tri.cells)) {i : Nat} {p : Tri} (hp : ps[i]? = some p) : ∀ j v, p.cells[j]? = some v → w.cell? (((⟨B, 0, none⟩ : Addr).add (i * 5)).add j) = some v := fun j v hj => by
  rw [show ((⟨B, 0, none⟩ : Addr).add (i * 5)).add j = (⟨B, 0, none⟩ : Addr).add (i * 5 + j) from by simp [Go.Deep.add_add], Addr.add0]
  exact hA.cell _ _ (flat_get ps i j p v hp hj)
/-- the nodes that may not be -/
def badN (lg lk : List UInt8) : List Nd := [zeroN, ⟨[], 4, false, [], []⟩, ⟨[], -1, false, [], []⟩, ⟨[], 1, false, [], [fl [97] []]⟩, ⟨[], 2, true, [], []⟩, ⟨[], 2, false, [120], []⟩, ⟨[], 3, false, [], []⟩, ⟨[], 3, true, [97], []⟩, ⟨[], 3, false, [97, 0], []⟩, ⟨[], 3, false, lk, []⟩,
  dr [] [fl [] []], dr [] [fl [46] []], dr [] [fl [46, 46] []], dr [] [fl [97, 47, 98] []], dr [] [fl [97, 0] []], dr [] [fl (lg ++ [110]) []], dr [] [fl [97] [], fl [97] []], dr [] [dr [100] [⟨[120], 0, false, [], []⟩]], dr [120] []]
/-- .. that may -/
def goodL (lg lk : List UInt8) : List Nd := [fl [] [], fl [] [0], ⟨[], 1, true, [], []⟩, ⟨[], 3, false, lk, []⟩, dr [] [], dr [] [fl [46, 46, 46] [], fl lg [], fl [255] []]]
def fitB (h : Nat) (n : Nd) : Bool := decide ((nodesL h 1 n).length ≤ 2000) && (nodesL h 1 n).all (fun p => decide (p.1 ≤ 65536) && decide (p.2.data.length ≤ 1000000))
theorem fit_good {h : Nat} {n : Nd} (hf : fitB h n = true) : (∀ p ∈ nodesL h 1 n, GoodN p) ∧ (nodesL h 1 n).length ≤ 2000 := by
  unfold fitB at hf
  simp only [Bool.and_eq_true, decide_eq_true_eq, List.all_eq_true] at hf
  exact ⟨fun p hp => hf.2 p hp, hf.1⟩
theorem bad_all : (badN (rep 110 56) (rep 108 256)).all (fun n => fitB 4 n && checkL 4 n == 2) = true := by kernel_rfl
theorem good_all : (goodL (rep 110 56) (rep 108 255)).all (fun n => fitB 4 n && checkL 4 n == 0) = true := by kernel_rfl
/-- a chain of directories -/
def chN : Nat → Nd
  | 0 => dr [] []
  | k + 1 => dr [] [dr [100] (chN k).kids]
theorem ch_twelve : depthL 14 (chN 11) = 12 ∧ fitB 30 (chN 11) = true ∧ checkL 30 (chN 11) = 0 := ⟨by kernel_rfl, by kernel_rfl, by kernel_rfl⟩
theorem ch_thirteen : depthL 14 (chN 12) = 13 ∧ fitB 30 (chN 12) = true ∧ checkL 30 (chN 12) = 3 ∧ nodesL 30 1 (chN 12) = [] ∧ eachL 30 (chN 12) = [] ∧ sameL 30 (chN 12) (chN 12) = false := ⟨by kernel_rfl, by kernel_rfl, by kernel_rfl, by kernel_rfl, by kernel_rfl, by kernel_rfl⟩
theorem ch_twenty : depthL 14 (chN 19) = 14 ∧ fitB 37 (chN 19) = true ∧ checkL 37 (chN 19) = 3 := ⟨by kernel_rfl, by kernel_rfl, by kernel_rfl⟩
/-- great files -/
theorem big_file (k : Nat) (hk : k ≤ 1000000) : fitB 4 (fl [] (rep 120 k)) = true ∧ checkL 4 (fl [] (rep 120 k)) = if 100000 < k then 3 else 0 := by
  have hl := rep_len 120 k
  have hn : nodesL 4 1 (fl [] (rep 120 k)) = [(1, fl [] (rep 120 k))] := rfl
  have hb : bytesL [((1 : Nat), fl [] (rep 120 k))] = k := by rw [bytesL_cons]; show (rep 120 k).length + 0 = k; rw [hl]; rfl
  refine ⟨?_, ?_⟩
  · unfold fitB
    rw [hn]
    show (decide (1 ≤ 2000) && (decide (1 ≤ 65536) && decide ((rep 120 k).length ≤ 1000000) && true)) = true
    rw [hl]; simp [hk]
  · unfold checkL
    rw [hn, hb]
    rw [if_neg (by show ¬ 12 < 1; omega), if_neg (by show ¬ ((!true || !true) = true); simp)]
    by_cases h : 100000 < k
    · rw [if_pos (.inr h), if_pos h]
    · rw [if_neg (by rintro (h2 | h2); exact absurd h2 (by show ¬ 2000 < 1; omega); exact h h2), if_neg h]
theorem same_alike : sameL 4 (dr [] [dr [97] []]) (dr [] [dr [97] []]) = true := by kernel_rfl
theorem each_leaf : eachL 4 (fl [] [120]) = [] := by kernel_rfl
end Go.Proofs.YtfflkpggmhlfpaaDoor
