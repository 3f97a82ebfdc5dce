/- Rows of the call's own that may grow. Of any program. -/
import Derived.Test.YtffpmdgchpcaaaaSm
import Derived.Laws.OwnMore
namespace Go.Proofs.Ytffpmdgchpcaaaa
open Go.RowKit
variable {P : Program}

/-- the slice at ao, of so much room, is the call's own, and holds xs -/
def Own1 (w : World) (base : Nat) (e : TypeId) (ao : Option Addr) (cap : Nat) (xs : List Value) : Prop := w.ownsRow base e 1 (.slice ao xs.length cap) xs.length xs
theorem Own1.nil (w : World) (base : Nat) (e : TypeId) : Own1 w base e none 0 [] := World.ownsRow_nil _ _ _ _
theorem Own1.alloc {w : World} {base : Nat} {e : TypeId} {ao : Option Addr} {cap : Nat} {xs : List Value} (h : Own1 w base e ao cap xs) (o : Obj) : Own1 (w.alloc o) base e ao cap xs := World.ownsRow.alloc h o
theorem Own1.drewN {w : World} {base : Nat} {e : TypeId} {ao : Option Addr} {cap : Nat} {xs : List Value} (h : Own1 w base e ao cap xs) (n : Nat) : Own1 (w.drewN n) base e ao cap xs := h
theorem Own1.drew {w : World} {base : Nat} {e : TypeId} {ao : Option Addr} {cap : Nat} {xs : List Value} (h : Own1 w base e ao cap xs) : Own1 w.drew base e ao cap xs := h
theorem Own1.at {w : World} {base : Nat} {e : TypeId} {ao : Option Addr} {cap : Nat} {xs : List Value} (h : Own1 w base e ao cap xs) (j : Nat) (hj : j < xs.length) :
    ∃ g, ao = some ⟨g, 0, none⟩ ∧ base ≤ g ∧ g < w.heap.size ∧ w.cell? ⟨g, j, none⟩ = some xs[j] := by
  rcases h.2 with ⟨_, h0⟩ | ⟨g, cap', cur, hv, hb, hg, _⟩
  · omega
  · cases hv
    refine ⟨g, rfl, hb, (Array.getElem?_eq_some_iff.1 hg).1, ?_⟩
    rw [World.ownsRow.cellAt h j (by omega), List.getElem?_eq_getElem hj]
theorem Own1.below {w w' : World} {S base : Nat} {e : TypeId} {ao : Option Addr} {cap : Nat} {xs : List Value} (h : Own1 w base e ao cap xs) (hb : Below S w w') (hs : ∀ g, ao = some ⟨g, 0, none⟩ → g < S) : Own1 w' base e ao cap xs := by
  refine ⟨h.1, ?_⟩
  rcases h.2 with h0 | ⟨g, cap', cur, hv, hbg, hg, rest⟩
  · exact .inl h0
  · cases hv
    exact .inr ⟨g, _, cur, rfl, hbg, by rw [hb.block g (hs g rfl)]; exact hg, rest⟩
theorem Own1.lt {w : World} {base : Nat} {e : TypeId} {ao : Option Addr} {cap : Nat} {xs : List Value} (h : Own1 w base e ao cap xs) : ∀ g, ao = some ⟨g, 0, none⟩ → g < w.heap.size := fun g hg => by
  rcases h.2 with ⟨h0, _⟩ | ⟨g', cap', cur, hv, hbg, hg', rest⟩
  · rw [hg] at h0; cases h0
  · rw [hg] at hv; cases hv
    exact (Array.getElem?_eq_some_iff.1 hg').1

/-- 'append', whether there is room or not -/
theorem append_grow {ops : Array Oper} {rest : List Oper} {o : Oper} {a : Act} {w : World} {Q : Exit → Act → World → Prop} (hgd : o.guard = none) (s x : Operand) (t : TypeId)
    (ho : o.op = .call { callee := .builtin .append, args := #[s, x], argTypes := #[t, t] })
    (base : Nat) (e : TypeId) (i : TypeInfo) (z : Value) (bytes : Nat) (ht : P.underlying t = some (.slice e)) (hi : P.info? e = some i) (hz : i.zero = some z) (hsize : i.size = 1) (hby : i.bytes = bytes) (hzs : z.cells.size = 1)
    (ao : Option Addr) (n cap : Nat) (hs : a.eval s = .slice ao n cap) (xs : List Value) (hn : xs.length = n) (hO : Own1 w base e ao cap xs)
    (b m c : Nat) (hx : a.eval x = .slice (some ⟨b, 0, none⟩) m c) (news : List Value) {T2 : TypeId} (hN : At w b T2 news) (hm : news.length = m) (h1 : ∀ u ∈ news, u.oneCell' = true) (hm0 : 0 < m)
    (h63 : n + m ≤ maxLen) (hbytes : (n + m) * bytes ≤ 140737488355328) (hbase : base ≤ w.heap.size)
    (h : ∀ ao' cap' w', Own1 w' base e ao' cap' (xs ++ news) → Below base w w' → wpList P ops Q rest (a.put o.dst (.slice ao' (n + m) cap')) w') : wpList P ops Q (o :: rest) a w := by
  subst hn
  refine wpList_append_own w hgd s x t ho base e i z 1 bytes ht hi hz hsize hby hzs (by decide) _ xs.length xs hs hO ⟨b, 0, none⟩ m c news hx (by omega) (fun j u hj => by rw [Addr.add0]; exact hN.cell j u hj) h1 h63 hbytes hbase ?_
  intro v' w' hv hg _
  have hB : Below base w w' := by
    refine ⟨hg.os, hg.tape, hg.output, hg.size, fun k hk => hg.block k (by omega) (fun e => ?_)⟩
    rcases hO.2 with ⟨h0, _⟩ | ⟨g, cap', cur, h0, hb, _⟩
    · rw [h0] at e; cases e
    · rw [h0] at e; simp [Value.ownBlock] at e; omega
  rcases hv.2 with ⟨_, h0⟩ | ⟨g, cap', cur, rfl, hb, hr⟩
  · omega
  · refine h _ _ w' ?_ hB
    have hl : (xs ++ news).length = xs.length + m := by rw [List.length_append, hm]
    unfold Own1
    rw [hl]
    exact hv
end Go.Proofs.Ytffpmdgchpcaaaa
