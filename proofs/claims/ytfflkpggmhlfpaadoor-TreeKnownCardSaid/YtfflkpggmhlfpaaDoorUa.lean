/- The chapter's rows: the tree and what is found in it. -/
import Derived.Test.YtfflkpggmhlfpaaDoorTz
namespace Go.Proofs.YtfflkpggmhlfpaaDoor
open Go.RowKit
set_option maxRecDepth 100000
def fA : Nd := ⟨[97], 1, false, [104, 105], []⟩
def lL : Nd := ⟨[108], 3, false, [46, 46, 47, 97], []⟩
def dD : Nd := ⟨[100], 2, false, [], [lL]⟩
def tT : Nd := ⟨[], 2, false, [], [fA, dD]⟩
def fX : Nd := ⟨[120], 1, false, [], []⟩
def fB0 : Nd := ⟨[98], 1, false, [], []⟩
def fA0 : Nd := ⟨[97], 1, false, [], []⟩
def tB : Nd := ⟨[], 2, false, [], [fB0, fA0]⟩
theorem file_a (w : World) : Calls Tryd.prog 20 #[.string ⟨#[97]⟩, .string ⟨#[104, 105]⟩] w fun e w' => Below w.heap.size w w' ∧ e = .returned (fA.v none 0) := file_any [97] [104, 105] w
theorem file_x (w : World) : Calls Tryd.prog 20 #[.string ⟨#[120]⟩, .string ⟨#[]⟩] w fun e w' => Below w.heap.size w w' ∧ e = .returned (fX.v none 0) := file_any [120] [] w
theorem file_b0 (w : World) : Calls Tryd.prog 20 #[.string ⟨#[98]⟩, .string ⟨#[]⟩] w fun e w' => Below w.heap.size w w' ∧ e = .returned (fB0.v none 0) := file_any [98] [] w
theorem file_a0 (w : World) : Calls Tryd.prog 20 #[.string ⟨#[97]⟩, .string ⟨#[]⟩] w fun e w' => Below w.heap.size w w' ∧ e = .returned (fA0.v none 0) := file_any [97] [] w
theorem link_l (w : World) : Calls Tryd.prog 23 #[.string ⟨#[108]⟩, .string ⟨#[46, 46, 47, 97]⟩] w fun e w' => Below w.heap.size w w' ∧ e = .returned (lL.v none 0) := link_any [108] [46, 46, 47, 97] w
theorem dir_d (ao : Option Addr) (c : Nat) (w : World) : Calls Tryd.prog 22 #[.string ⟨#[100]⟩, .slice ao 1 c] w fun e w' => Below w.heap.size w w' ∧ e = .returned (dD.v ao c) := dir_any [100] [lL] ao c w
theorem dir_t (ao : Option Addr) (c : Nat) (w : World) : Calls Tryd.prog 22 #[.string ⟨#[]⟩, .slice ao 2 c] w fun e w' => Below w.heap.size w w' ∧ e = .returned (tT.v ao c) := dir_any [] [fA, dD] ao c w
theorem dir_b (ao : Option Addr) (c : Nat) (w : World) : Calls Tryd.prog 22 #[.string ⟨#[]⟩, .slice ao 2 c] w fun e w' => Below w.heap.size w w' ∧ e = .returned (tB.v ao c) := dir_any [] [fB0, fA0] ao c w
theorem good_of (h : Nat) (n : Nd) (hb : (nodesL h 1 n).all (fun p => decide (p.1 ≤ 65536) && decide (p.2.data.length ≤ 1000000)) = true) : ∀ p ∈ nodesL h 1 n, GoodN p := fun p hp => by
  have := List.all_eq_true.1 hb p hp
  simpa [GoodN] using this
theorem size_t (ao : Option Addr) (cap : Nat) (w : World) (hH : Has any_ w 3 tT ao) :
    Calls Tryd.prog 15 #[tT.v ao cap] w fun e w' => e = .returned (.tuple #[.int .i64 4, .int .i64 6]) ∧ Below w.heap.size w w' :=
  size_any 3 tT ao cap w (by omega) hH (good_of 3 tT (by kernel_rfl)) (by rw [show nodesL 3 1 tT = [(1, tT), (2, fA), (2, dD), (3, lL)] by kernel_rfl]; decide)
theorem slim_t : Slim 3 tT := by
  refine ⟨by decide, fun m hm => ?_⟩
  have hm' : m ∈ [fA, dD] := hm
  simp only [List.mem_cons, List.not_mem_nil, or_false] at hm'
  rcases hm' with rfl | rfl
  · exact ⟨by decide, fun m hm => by cases hm⟩
  · refine ⟨by decide, fun m hm => ?_⟩
    have hm' : m ∈ [lL] := hm
    simp only [List.mem_cons, List.not_mem_nil, or_false] at hm'
    subst hm'
    exact ⟨by decide, fun m hm => by cases hm⟩
theorem find_dl (ao : Option Addr) (cap : Nat) (w : World) (hH : Has any_ w 3 tT ao) (hg : Glob w) :
    Calls Tryd.prog 8 #[tT.v ao cap, .string ⟨#[100, 47, 108]⟩] w fun e w' => Below w.heap.size w w' ∧ ∃ ao cap, e = .returned (.tuple #[lL.v ao cap, .bool true]) ∧ Has (fun i => w.heap.size ≤ i) w' 3 lL ao :=
  (find_any 2 tT ao cap [100, 47, 108] w (by omega) slim_t hH (by decide) hg).mono fun e w' h => ⟨h.1, by have h2 := h.2; rw [show findL tT [100, 47, 108] = some lL by kernel_rfl] at h2; exact h2⟩
theorem find_root (ao : Option Addr) (cap : Nat) (w : World) (hH : Has any_ w 3 tT ao) (hg : Glob w) :
    Calls Tryd.prog 8 #[tT.v ao cap, .string ⟨#[]⟩] w fun e w' => Below w.heap.size w w' ∧ ∃ ao cap, e = .returned (.tuple #[tT.v ao cap, .bool true]) ∧ Has (fun i => w.heap.size ≤ i) w' 3 tT ao :=
  (find_any 2 tT ao cap [] w (by omega) slim_t hH (by decide) hg).mono fun e w' h => ⟨h.1, h.2⟩
theorem find_dx (ao : Option Addr) (cap : Nat) (w : World) (hH : Has any_ w 3 tT ao) (hg : Glob w) :
    Calls Tryd.prog 8 #[tT.v ao cap, .string ⟨#[100, 47, 120]⟩] w fun e w' => Below w.heap.size w w' ∧ e = .returned (.tuple #[.agg zeroC.toArray, .bool false]) :=
  (find_any 2 tT ao cap [100, 47, 120] w (by omega) slim_t hH (by decide) hg).mono fun e w' h => ⟨h.1, by have h2 := h.2; rw [show findL tT [100, 47, 120] = none by kernel_rfl] at h2; exact h2⟩
theorem find_ax (ao : Option Addr) (cap : Nat) (w : World) (hH : Has any_ w 3 tT ao) (hg : Glob w) :
    Calls Tryd.prog 8 #[tT.v ao cap, .string ⟨#[97, 47, 120]⟩] w fun e w' => Below w.heap.size w w' ∧ e = .returned (.tuple #[.agg zeroC.toArray, .bool false]) :=
  (find_any 2 tT ao cap [97, 47, 120] w (by omega) slim_t hH (by decide) hg).mono fun e w' h => ⟨h.1, by have h2 := h.2; rw [show findL tT [97, 47, 120] = none by kernel_rfl] at h2; exact h2⟩
theorem check_t (ao : Option Addr) (cap : Nat) (w : World) (hH : Has any_ w 3 tT ao) : Calls Tryd.prog 13 #[tT.v ao cap] w fun e w' => e = .returned (.int .i64 0) ∧ Below w.heap.size w w' :=
  (check_any 3 tT ao cap w (by omega) hH (good_of 3 tT (by kernel_rfl)) (by rw [show nodesL 3 1 tT = [(1, tT), (2, fA), (2, dD), (3, lL)] by kernel_rfl]; decide)).mono fun e w' h => ⟨by rw [h.1, show checkL 3 tT = 0 by kernel_rfl], h.2⟩
theorem check_x (w : World) : Calls Tryd.prog 13 #[fX.v none 0] w fun e w' => e = .returned (.int .i64 2) ∧ Below w.heap.size w w' :=
  (check_any 1 fX none 0 w (by omega) (Has.leaf _ _ 0 _ _ rfl) (good_of 1 fX (by kernel_rfl)) (by rw [show nodesL 1 1 fX = [(1, fX)] by kernel_rfl]; decide)).mono fun e w' h => ⟨by rw [h.1, show checkL 1 fX = 2 by kernel_rfl], h.2⟩
theorem check_b (ao : Option Addr) (cap : Nat) (w : World) (hH : Has any_ w 2 tB ao) : Calls Tryd.prog 13 #[tB.v ao cap] w fun e w' => e = .returned (.int .i64 2) ∧ Below w.heap.size w w' :=
  (check_any 2 tB ao cap w (by omega) hH (good_of 2 tB (by kernel_rfl)) (by rw [show nodesL 2 1 tB = [(1, tB), (2, fB0), (2, fA0)] by kernel_rfl]; decide)).mono fun e w' h => ⟨by rw [h.1, show checkL 2 tB = 2 by kernel_rfl], h.2⟩
theorem deep_t (ao : Option Addr) (cap : Nat) (w : World) (hH : Has any_ w 3 tT ao) : Calls Tryd.prog 17 #[tT.v ao cap] w fun e w' => e = .returned (.int .i64 3) ∧ Below w.heap.size w w' :=
  (deep_any 3 tT ao cap w hH).mono fun e w' h => ⟨by rw [h.1, show depthL 14 tT = 3 by kernel_rfl]; rfl, h.2⟩
theorem short_t : Short 3 tT := by
  intro m hm
  have hm' : m ∈ [fA, dD] := hm
  simp only [List.mem_cons, List.not_mem_nil, or_false] at hm'
  rcases hm' with rfl | rfl
  · exact ⟨by decide, fun m hm => by cases hm⟩
  · refine ⟨by decide, fun m hm => ?_⟩
    have hm' : m ∈ [lL] := hm
    simp only [List.mem_cons, List.not_mem_nil, or_false] at hm'
    subst hm'
    exact ⟨by decide, fun m hm => by cases hm⟩
theorem each_t (ao : Option Addr) (cap : Nat) (w : World) (hH : Has any_ w 3 tT ao) : Calls Tryd.prog 14 #[tT.v ao cap] w fun e w' => Below w.heap.size w w' ∧ ∃ v, e = .returned v ∧ Strs w' v [[97], [100], [100, 47, 108]] :=
  (each_any 3 tT ao cap w hH short_t (by omega) (by rw [show pathsL 3 tT [] = [[97], [100], [100, 47, 108]] by kernel_rfl]; decide)).mono fun e w' h => ⟨h.1, by have h2 := h.2; rw [show eachL 3 tT = [[97], [100], [100, 47, 108]] by kernel_rfl] at h2; exact h2⟩
theorem same_l (ao : Option Addr) (ca : Nat) (w : World) (hA : Has any_ w 3 lL ao) : Calls Tryd.prog 10 #[lL.v ao ca, lL.v none 0] w fun e w' => e = .returned (.bool true) ∧ Below w.heap.size w w' :=
  (same_wrap 3 1 lL lL ao none ca 0 w (by omega) hA (Has.leaf _ _ 0 _ _ rfl)).mono fun e w' h => ⟨by rw [h.1, show sameL 3 lL lL = true by kernel_rfl], h.2⟩
theorem same_t (ao bo : Option Addr) (ca cb : Nat) (w : World) (hA : Has any_ w 3 tT ao) (hB : Has any_ w 3 tT bo) : Calls Tryd.prog 10 #[tT.v ao ca, tT.v bo cb] w fun e w' => e = .returned (.bool true) ∧ Below w.heap.size w w' :=
  (same_wrap 3 3 tT tT ao bo ca cb w (by omega) hA hB).mono fun e w' h => ⟨by rw [h.1, show sameL 3 tT tT = true by kernel_rfl], h.2⟩
/-- the tree that was made -/
theorem has_t {w : World} {B1 B2 : Nat} (h1 : At w B1 24 (lL.cells none 0)) (h2 : At w B2 24 (fA.cells none 0 ++ dD.cells (some ⟨B1, 0, none⟩) 1)) : Has any_ w 3 tT (some ⟨B2, 0, none⟩) := by
  have hd : Has any_ w 2 dD (some ⟨B1, 0, none⟩) := Has.rows dD [(lL, none, 0)] 1 rfl (by unfold maxLen; decide) trivial h1 (fun p hp => by
    simp only [List.mem_cons, List.not_mem_nil, or_false] at hp; subst hp; exact Has.leaf _ _ 0 _ _ rfl)
  refine Has.rows tT [(fA, none, 0), (dD, some ⟨B1, 0, none⟩, 1)] 2 rfl (by show 2 ≤ 2 ^ 63 - 1; decide) trivial h2 (fun p hp => ?_)
  simp only [List.mem_cons, List.not_mem_nil, or_false] at hp
  rcases hp with rfl | rfl
  · exact Has.leaf _ _ 1 _ _ rfl
  · exact hd
theorem has_b {w : World} {B : Nat} (h2 : At w B 24 (fB0.cells none 0 ++ fA0.cells none 0)) : Has any_ w 2 tB (some ⟨B, 0, none⟩) := by
  refine Has.rows tB [(fB0, none, 0), (fA0, none, 0)] 1 rfl (by show 2 ≤ 2 ^ 63 - 1; decide) trivial h2 (fun p hp => ?_)
  simp only [List.mem_cons, List.not_mem_nil, or_false] at hp
  rcases hp with rfl | rfl
  · exact Has.leaf _ _ 0 _ _ rfl
  · exact Has.leaf _ _ 0 _ _ rfl
end Go.Proofs.YtfflkpggmhlfpaaDoor
