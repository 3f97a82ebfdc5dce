/- works. -/
import Derived.Test.YtdpeblchndfdaaaMr
import Derived.Test.YtdpeblchndfdaaaMg
namespace Go.Proofs.Ytdpeblchndfdaaa
open Go.RowKit
set_option maxRecDepth 100000
def magicB : List UInt8 := [10, 119, 104, 105, 115, 107, 45, 116, 114, 101, 101]
theorem magic_any (w : World) : Calls Try.prog 18 #[] w fun e w' => e = .returned (.string (bs magicB)) ∧ w' = w := by
  go_enter Try.func18, Try.ntmps18
  go_wp2
  go_ret
  exact ⟨rfl, rfl⟩
def wkN : Nd := ⟨[], 1, false, [120], []⟩
def wkL : List UInt8 := [10, 119, 104, 105, 115, 107, 45, 116, 114, 101, 101, 1, 0, 1, 120]
theorem wk_encS : encS 15 wkN = wkL := by decide +kernel
theorem wk_encE : encE 15 wkN = 0 := by decide +kernel
theorem wk_dec : decL wkL = some wkN := by
  have hc : checkL 15 wkN = 0 := by decide +kernel
  have he : headB ++ encL 15 wkN = wkL := by decide +kernel
  have h := dec_enc hc (by rw [he]; decide)
  rwa [he] at h
theorem wk_cat : bs magicB ++ (⟨#[1, 0, 1, 120]⟩ : ByteArray) = bs wkL := bs_append magicB [1, 0, 1, 120]
/-- a leaf's Encode -/
theorem leaf_few (n : Nd) (hk : n.kids = []) (D : Nat) (hd : n.data.length ≤ D) : (∀ p ∈ nodesL 15 1 n, GoodD D p) ∧ (nodesL 15 1 n).length ≤ 1 := by
  show (∀ p ∈ nodesL (14 + 1) 1 n, GoodD D p) ∧ (nodesL (14 + 1) 1 n).length ≤ 1
  unfold nodesL
  split
  · exact ⟨by simp, by simp⟩
  · rw [hk]
    refine ⟨fun p hp => ?_, by simp⟩
    simp only [List.flatMap_nil, List.mem_cons, List.not_mem_nil, or_false] at hp
    subst hp
    exact ⟨by show 1 ≤ 65536; decide, hd⟩
theorem decode_some {l : List UInt8} {n : Nd} (h : decL l = some n) (w : World) : Calls Try.prog 13 #[.string (bs l)] w fun e w' => Below w.heap.size w w' ∧ ∃ ao cap, e = .returned (.tuple #[.agg (n.cells ao cap).toArray, .int .i64 0]) ∧ Has (fun i => w.heap.size ≤ i) w' 15 n ao := by
  refine (decode_any l w).mono ?_
  rintro e w' ⟨h1, h2⟩
  rw [h] at h2
  exact ⟨h1, h2⟩
theorem decode_none {l : List UInt8} (h : decL l = none) (w : World) : Calls Try.prog 13 #[.string (bs l)] w fun e w' => Below w.heap.size w w' ∧ e = .returned (.tuple #[.agg zeroN.toArray, .int .i64 4]) := by
  refine (decode_any l w).mono ?_
  rintro e w' ⟨h1, h2⟩
  rw [h] at h2
  exact ⟨h1, h2⟩
set_option maxHeartbeats 4000000 in
theorem works_any (w : World) : Calls Try.prog 12 #[] w fun e w' => e = .returned (.bool true) ∧ Below w.heap.size w w' := by
  go_enter Try.func12, Try.ntmps12
  go_wp2_with (refine list_val (op := { dst := some 6, op := _, type := _, pos := _, after := _, guard := _ }) rfl (v := .agg (wkN.cells none 0).toArray) (w' := w) (by kernel_rfl) ?_)
  refine (encode_any 1000 1000 (by decide) (by decide) (by decide) 15 wkN none 0 w (by decide) (Has.leaf _ _ _ _ _ rfl) (fun _ _ => ⟨(leaf_few wkN rfl 1000 (by decide)).1, Nat.le_trans (leaf_few wkN rfl 1000 (by decide)).2 (by decide)⟩) (fun _ => by decide +kernel)).mono ?_
  rintro e w1 ⟨rfl, b1⟩
  rw [wk_encS, wk_encE]
  have HB1 := Lib.hid b1
  clear b1
  go_wp2_with fail
  refine (magic_any w1).mono ?_
  rintro e w2 ⟨rfl, rfl⟩
  have hcat := wk_cat
  go_wp2_with fail
  refine (decode_some wk_dec w2).mono ?_
  rintro e w3 ⟨b3, ao, cap, rfl, h3⟩
  have HB3 := Lib.hid (HB1.out.trans (b3.mono HB1.out.size))
  clear b3 h3
  go_wp2_with (first
    | (with_reducible refine alloc_any rfl 24 rfl _ zero_nd ?_; intro u hu bu zu; have HU := Lib.hid hu; have BU := Lib.hid bu; clear hu bu)
    | (refine store_any rfl 24 (.tmp 3) (.tmp 14) rfl w3.heap.size rfl (wkN.cells ao cap) rfl _ HU.out rfl info_nd (nd_one _ _ _) ?_; intro u2 hu2 tu2; have HU2 := Lib.hid hu2; have BU2 := Lib.hid (tu2.below BU.out (by simp) (Nat.le_refl _)); have c1 := hu2.cell 1 (.int .i64 1) rfl; have c2 := hu2.cell 2 (.bool false) rfl; have c3 := hu2.cell 3 (.string (bs [120])) rfl; clear hu2 tu2))
  refine (magic_any u2).mono ?_
  rintro e w5 ⟨rfl, rfl⟩
  go_wp2_with fail
  go_ret
  exact ⟨rfl, HB3.out.trans (BU2.out.mono HB3.out.size)⟩
end Go.Proofs.Ytdpeblchndfdaaa
