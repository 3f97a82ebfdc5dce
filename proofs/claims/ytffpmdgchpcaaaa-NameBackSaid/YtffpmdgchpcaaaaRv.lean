/- The roots are the constants. -/
import Derived.Test.YtffpmdgchpcaaaaRc
import Derived.Test.YtffpmdgchpcaaaaSk
namespace Go.Proofs.Ytffpmdgchpcaaaa
theorem prim_64 : (prim 310).length = 64 := by decide +kernel
theorem prim_63 : (prim 309).length < 64 := by decide +kernel
def okC (p : Nat) (k : Wd) : Bool :=
  let d := draws (fun r => cubeQ r (BitVec.ofNat 64 p)) 36
  decide (qi (d.2 - d.1) ≤ 1) && d.1.setWidth 32 == k
def okS (p : Nat) (k : Wd) : Bool :=
  let d := draws (fun r => squareQ r (BitVec.ofNat 64 p)) 36
  decide (qi (d.2 - d.1) ≤ 1) && d.1.setWidth 32 == k
set_option maxRecDepth 100000 in
theorem cubes : (List.zipWith okC (prim 310) K0).all id = true := by decide +kernel
set_option maxRecDepth 100000 in
theorem squares : (List.zipWith okS (prim 310) H0).all id = true := by decide +kernel
end Go.Proofs.Ytffpmdgchpcaaaa
