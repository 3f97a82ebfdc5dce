/- Find, of a node that small left. -/
import Derived.Test.YtfflkpggmhlfpaaDoorUd
namespace Go.Proofs.YtfflkpggmhlfpaaDoor
open Go.RowKit
set_option maxRecDepth 100000
structure Wy (w : World) (p3 : Nat) (R : Nd) (aR : Option Addr) (cR : Nat) (W : World) : Prop where
  a : At W p3 24 (R.cells aR cR)
  t : Has any_ W 17 R aR
  g : Glob W
  b : Below w.heap.size w W
theorem Wy.below {w : World} {p3 : Nat} {R : Nd} {aR : Option Addr} {cR : Nat} {W W' : World} (h : Wy w p3 R aR cR W) (b : Below W.heap.size W W') : Wy w p3 R aR cR W' :=
  ⟨h.a.below b h.a.lt, h.t.below b, h.g.below b, h.b.trans (b.mono h.b.size)⟩
/-- what Find answers beside whether: no node at all, where it finds none -/
def gv (o : Option Nd) : Nd := o.getD zeroN
theorem found_of {w w' : World} {h : Nat} {o : Option Nd} {e : Ending} (hf : Found w w' h o e) : ∃ a c, e = .returned (.tuple #[(gv o).v a c, .bool o.isSome]) ∧ (o.isSome = true → Has any_ w' h (gv o) a) := by
  cases o with
  | none => exact ⟨none, 0, hf, fun h => by cases h⟩
  | some m =>
    obtain ⟨a, c, e, hh⟩ := hf
    exact ⟨a, c, e, fun _ => hh.any⟩
theorem find_r (h : Nat) (hh : h + 1 ≤ 65536) (R : Nd) (aR : Option Addr) (cR : Nat) (W : World) (hT : Has any_ W (h + 1) R aR) (hG : Glob W) (hC : ∀ k, Cut k R) (p : List UInt8) (hp : p.length ≤ 1000) (M : Nd) (f : Bool) (hM : gv (findL R p) = M) (hf : (findL R p).isSome = f) :
    Calls Tryd.prog 8 #[R.v aR cR, .string (bs p)] W fun e w' => Below W.heap.size W w' ∧ ∃ a c, e = .returned (.tuple #[M.v a c, .bool f]) ∧ (f = true → Has any_ w' (h + 1) M a) :=
  (find_any h R aR cR p W hh (Cut.slim (hC _)) hT (by omega) hG).mono fun e w' hq => ⟨hq.1, by subst hM hf; exact found_of hq.2⟩
theorem Cut.kid {n m : Nd} (h : ∀ k, Cut k n) (hm : m ∈ n.kids) : ∀ k, Cut k m := fun k => (h (k + 1)).2.2.2 m hm
theorem Cut.walk : ∀ (l : List (List UInt8)) (n m : Nd), (∀ k, Cut k n) → walkL l n = some m → ∀ k, Cut k m
  | [], n, m, h, e => by cases e; exact h
  | x :: r, n, m, h, e => by
    unfold walkL at e
    split at e
    · cases e
    · split at e
      · cases e
      · rename_i k hk
        exact Cut.walk r k m (Cut.kid h (List.mem_of_getElem? hk)) e
theorem Cut.find {n m : Nd} {p : List UInt8} (h : ∀ k, Cut k n) (e : findL n p = some m) : ∀ k, Cut k m := by
  unfold findL at e
  split at e
  · cases e; exact h
  · exact Cut.walk _ n m h e
end Go.Proofs.YtfflkpggmhlfpaaDoor
