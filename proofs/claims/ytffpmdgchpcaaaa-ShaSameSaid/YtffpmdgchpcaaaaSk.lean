/- The words at first, and the constants. -/
import Derived.Test.YtffpmdgchpcaaaaSc
namespace Go.Proofs.Ytffpmdgchpcaaaa
open Go.RowKit

def H0 : List Wd := [0x6a09e667, 0xbb67ae85, 0x3c6ef372, 0xa54ff53a, 0x510e527f, 0x9b05688c, 0x1f83d9ab, 0x5be0cd19]
def K0 : List Wd := [0x428a2f98, 0x71374491, 0xb5c0fbcf, 0xe9b5dba5, 0x3956c25b, 0x59f111f1, 0x923f82a4, 0xab1c5ed5, 0xd807aa98, 0x12835b01, 0x243185be, 0x550c7dc3, 0x72be5d74, 0x80deb1fe, 0x9bdc06a7, 0xc19bf174, 0xe49b69c1, 0xefbe4786, 0x0fc19dc6, 0x240ca1cc, 0x2de92c6f, 0x4a7484aa, 0x5cb0a9dc, 0x76f988da, 0x983e5152, 0xa831c66d, 0xb00327c8, 0xbf597fc7, 0xc6e00bf3, 0xd5a79147, 0x06ca6351, 0x14292967, 0x27b70a85, 0x2e1b2138, 0x4d2c6dfc, 0x53380d13, 0x650a7354, 0x766a0abb, 0x81c2c92e, 0x92722c85, 0xa2bfe8a1, 0xa81a664b, 0xc24b8b70, 0xc76c51a3, 0xd192e819, 0xd6990624, 0xf40e3585, 0x106aa070, 0x19a4c116, 0x1e376c08, 0x2748774c, 0x34b0bcb5, 0x391c0cb3, 0x4ed8aa4a, 0x5b9cca4f, 0x682e6ff3, 0x748f82ee, 0x78a5636f, 0x84c87814, 0x8cc70208, 0x90befffa, 0xa4506ceb, 0xbef9a3f7, 0xc67178f2]

theorem H0_len : H0.length = 8 := rfl
theorem K0_len : K0.length = 64 := rfl

set_option maxRecDepth 100000 in
set_option maxHeartbeats 1000000 in
theorem firstWords_any (w : World) : Calls Try.prog 24 #[] w fun e w' => e = .returned (.agg (H0.map wv).toArray) ∧ Below w.heap.size w w' := by
  have hone := wv_one H0
  have hi : (Try.prog.info? 42).map (·.size) = some (H0.map wv).toArray.size := by kernel_rfl
  go_enter Try.func24, Try.ntmps24
  go_wp2_with (first | (refine store_at rfl 42 _ _ rfl _ (H0.map wv).toArray rfl (by kernel_rfl) _ (At.new _ _ _) hi rfl (all_oneCell_toArray hone) ?_))
  (try simp only [Exit.inBlock, Exit.then])
  refine bodyPost_ret (v := .agg (H0.map wv).toArray) ?_ rfl ⟨rfl, below_setRow' ((Below.refl _ _).alloc (Nat.le_refl _) _) _ (Nat.le_refl _) _⟩
  exact results_cell_row (fn := Try.f24) (p := 0) (ty := 42) rfl _ _ w.heap.size 42 (H0.map wv).toArray (0, 0) _ rfl ((At.new w _ 42).setRow' (H0.map wv)) Try.underlying42 rfl hi
set_option maxRecDepth 100000 in
set_option maxHeartbeats 1000000 in
theorem constants_any (w : World) : Calls Try.prog 25 #[] w fun e w' => e = .returned (.agg (K0.map wv).toArray) ∧ Below w.heap.size w w' := by
  have hone := wv_one K0
  have hi : (Try.prog.info? 44).map (·.size) = some (K0.map wv).toArray.size := by kernel_rfl
  go_enter Try.func25, Try.ntmps25
  go_wp2_with (first | (refine store_at rfl 44 _ _ rfl _ (K0.map wv).toArray rfl (by kernel_rfl) _ (At.new _ _ _) hi rfl (all_oneCell_toArray hone) ?_))
  (try simp only [Exit.inBlock, Exit.then])
  refine bodyPost_ret (v := .agg (K0.map wv).toArray) ?_ rfl ⟨rfl, below_setRow' ((Below.refl _ _).alloc (Nat.le_refl _) _) _ (Nat.le_refl _) _⟩
  exact results_cell_row (fn := Try.f25) (p := 0) (ty := 44) rfl _ _ w.heap.size 44 (K0.map wv).toArray (0, 0) _ rfl ((At.new w _ 44).setRow' (K0.map wv)) Try.underlying44 rfl hi
end Go.Proofs.Ytffpmdgchpcaaaa
