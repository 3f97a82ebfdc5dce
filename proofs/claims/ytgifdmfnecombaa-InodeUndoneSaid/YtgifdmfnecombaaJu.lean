/- Rows of five small numbers that came in. -/
import Derived.Test.YtgifdmfnecombaaJr
import Derived.Deep.Slices
import Derived.OpenShut
import Derived.ChangeArms
namespace Go.Proofs.Ytgifdmfnecombaa
open Go.RowKit Go.ChangeShapes Go.WideShapes Go.Deep
set_option maxRecDepth 100000
def FiveAt (w : World) (a : Addr) (z : Nat → Nat) : Prop := ∀ j, j < 5 → z j < 256 ∧ w.cell? (a.add j) = some (.int .u8 (z j : Int))
def Fives (w : World) (ao : Option Addr) (ls : List (Nat → Nat)) : Prop := ∀ k z, ls[k]? = some z → ∃ a, ao = some a ∧ FiveAt w (a.add (k * 5)) z
section
variable {H : Type} {enc : TypeId × Value → H} {w : World} {base : Nat} {spare : Nat → Bool} {held : Bool}
theorem open_five {n : Nat} {cs : List Value} {y : DataW H × List MemPlace} {a : Addr} (h : DataW.trod enc Try.prog w base spare held n 31 cs = some y) (hc : w.cells? base a 5 = some cs) : ∃ z, FiveAt w a z := by
  obtain ⟨xs, m, _, _, hl, hx, hi⟩ := DataW.trod_array Try.underlying31 h
  obtain ⟨_, hcl, hat⟩ := World.cells?_some hc
  have h1 : Try.prog.cellsOf 5 = 1 := by kernel_rfl
  have hz : ∀ j, j < 5 → ∃ m : Nat, m < 256 ∧ w.cell? (a.add j) = some (.int .u8 (m : Int)) := fun j hj => by
    have hd := hi j hj
    rw [h1, Nat.mul_one] at hd
    have hone : (cs.drop j).take 1 = [cs[j]'(by omega)] := by
      rw [List.drop_eq_getElem_cons (by omega)]
      rfl
    rw [hone, List.getElem?_eq_getElem (by omega)] at hd
    obtain ⟨q, hq, _, hw⟩ := DataW.trod_int Try.underlying5 hd
    simp only [List.cons.injEq, and_true] at hq
    have hwf : 0 ≤ q ∧ q ≤ 255 := by simpa [Lit.wf, IntKind.min, IntKind.max, IntKind.signed, IntKind.bits] using hw
    refine ⟨q.toNat, by omega, ?_⟩
    rw [hat j hj, List.getElem?_eq_getElem (by omega), hq]
    congr 2
    omega
  refine ⟨fun j => if hj : j < 5 then Classical.choose (hz j hj) else 0, fun j hj => ?_⟩
  simp only [dif_pos hj]
  exact Classical.choose_spec (hz j hj)
theorem open_fives {fuel : Nat} {cs : List Value} {x : DataW H × List MemPlace} (h : DataW.trod enc Try.prog w base spare held fuel 22 cs = some x) :
    ∃ (ao : Option Addr) (len cap : Nat) (ls : List (Nat → Nat)), cs = [.slice ao len cap] ∧ ls.length = len ∧ len ≤ maxLen ∧ Fives w ao ls := by
  rcases open_slice Try.underlying22 h with ⟨h0, _⟩ | ⟨a, len, cap, m, n, D, Pl, hcs, hb, hl, hm, hmm, hx, hi⟩
  · exact ⟨none, 0, 0, [], h0, rfl, Nat.zero_le _, fun k z hk => by cases hk⟩
  · have h5 : Try.prog.cellsOf 31 = 5 := by kernel_rfl
    have hz : ∀ i : Fin len, ∃ z, FiveAt w (a.add (i.1 * 5)) z := fun i => by
      have him : i.1 < m := by rw [hmm]; have := i.2; split <;> omega
      obtain ⟨cs', hc, ht⟩ := hi i.1 him
      rw [h5] at hc
      exact open_five ht hc
    refine ⟨some a, len, cap, List.ofFn fun i => Classical.choose (hz i), hcs, by simp, Nat.le_trans hl hm, fun k z hk => ?_⟩
    rw [List.getElem?_ofFn] at hk
    split at hk
    · rename_i hkl
      cases hk
      exact ⟨a, rfl, Classical.choose_spec (hz ⟨k, hkl⟩)⟩
    · cases hk
end
end Go.Proofs.Ytgifdmfnecombaa
