/- The document's disk: Read. -/
import Derived.Test.YtcgjkopdnhkdiaaFc
import Derived.Test.YtcgjkopdnhkdiaaDo
namespace Go.Proofs.Ytcgjkopdnhkdiaa
open Go.RowKit
set_option maxRecDepth 100000
theorem rcells_at : ∀ (ws : List (Nat × List UInt8)) (i : Nat) (x : Nat × List UInt8), ws[i]? = some x → (rcells ws)[i * 2]? = some (.int .i64 (x.1 : Int)) ∧ (rcells ws)[i * 2 + 1]? = some (tv x.2)
  | [], _, _, h => by simp at h
  | y :: r, 0, x, h => by
    simp at h
    subst h
    exact ⟨rfl, rfl⟩
  | y :: r, i + 1, x, h => by
    have h2 := rcells_at r i x (by simpa using h)
    have e : rcells (y :: r) = .int .i64 (y.1 : Int) :: tv y.2 :: rcells r := rfl
    rw [e, show (i + 1) * 2 = i * 2 + 1 + 1 by omega, show i * 2 + 1 + 1 + 1 = i * 2 + 1 + 1 + 1 from rfl]
    exact h2
/-- what is read, where so many of the waiting writes have been looked at -/
def seen (s : Dk) (i k : Nat) : List UInt8 := (putAll s.fl (s.ws.take i))[k]?.getD []
theorem seen_next (s : Dk) (i k : Nat) (x : Nat × List UInt8) (h : s.ws[i]? = some x) (hk : k < s.fl.length) : seen s (i + 1) k = if x.1 = k then x.2 else seen s i k := by
  unfold seen
  have e : s.ws.take (i + 1) = s.ws.take i ++ [x] := by rw [List.take_add_one, h]; rfl
  rw [e, putAll_snoc]
  by_cases hx : x.1 = k
  · rw [if_pos hx, hx, List.getElem?_set_self (by rw [putAll_len]; exact hk), Option.getD_some]
  · rw [if_neg hx, List.getElem?_set_ne hx]
theorem seen_all (s : Dk) (k : Nat) : seen s s.ws.length k = s.nw[k]?.getD [] := by unfold seen Dk.nw; rw [List.take_length]
end Go.Proofs.Ytcgjkopdnhkdiaa
