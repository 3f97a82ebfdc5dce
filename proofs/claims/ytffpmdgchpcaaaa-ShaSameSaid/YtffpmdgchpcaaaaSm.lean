/- Rows with room: what is appended where there is room; bytes back to text. Of any program. -/
import Derived.Test.YtffpmdgchpcaaaaWd
import Derived.Deep.DeepAppendRoom
import Derived.OwnWalk
namespace Go.Proofs.Ytffpmdgchpcaaaa
open Go.RowKit
variable {P : Program}

/-- block g holds a row of cells of type e, and has room for cap -/
def Room (w : World) (g : Nat) (e : TypeId) (cap : Nat) (xs : List Value) : Prop :=
  cap ≤ maxLen ∧ ∃ rest, At w g e (xs ++ rest) ∧ xs.length + rest.length = cap

theorem Room.lt {w : World} {g cap : Nat} {e : TypeId} {xs : List Value} (h : Room w g e cap xs) : g < w.heap.size := by
  obtain ⟨_, r, h, _⟩ := h; exact h.lt
theorem Room.le {w : World} {g cap : Nat} {e : TypeId} {xs : List Value} (h : Room w g e cap xs) : xs.length ≤ cap := by
  obtain ⟨_, r, _, h⟩ := h; omega
theorem Room.alloc {w : World} {g cap : Nat} {e : TypeId} {xs : List Value} (h : Room w g e cap xs) (o : Obj) : Room (w.alloc o) g e cap xs := by
  obtain ⟨h0, r, h1, h2⟩ := h; exact ⟨h0, r, h1.alloc o, h2⟩
theorem Room.drewN {w : World} {g cap : Nat} {e : TypeId} {xs : List Value} (h : Room w g e cap xs) (n : Nat) : Room (w.drewN n) g e cap xs := h
theorem Room.drew {w : World} {g cap : Nat} {e : TypeId} {xs : List Value} (h : Room w g e cap xs) : Room w.drew g e cap xs := h
theorem Room.below {w w' : World} {S g cap : Nat} {e : TypeId} {xs : List Value} (h : Room w g e cap xs) (hb : Below S w w') (hS : g < S) : Room w' g e cap xs := by
  obtain ⟨h0, r, h1, h2⟩ := h; exact ⟨h0, r, h1.below hb hS, h2⟩
theorem Room.only {w w' : World} {b g cap : Nat} {e : TypeId} {xs : List Value} (h : Room w g e cap xs) (k : Only b w w') (hne : g ≠ b) : Room w' g e cap xs := by
  obtain ⟨h0, r, h1, h2⟩ := h; exact ⟨h0, r, h1.only k hne, h2⟩
theorem Room.cell {w : World} {g cap : Nat} {e : TypeId} {xs : List Value} (h : Room w g e cap xs) (i : Nat) (v : Value) (hi : xs[i]? = some v) : w.cell? ⟨g, i, none⟩ = some v := by
  obtain ⟨_, r, h1, _⟩ := h
  refine h1.cell i v ?_
  rw [List.getElem?_append_left (List.getElem?_eq_some_iff.1 hi).1]; exact hi
theorem Room.made (w : World) (cap : Nat) (v : Value) (e : TypeId) (hc : cap ≤ maxLen) : Room (w.alloc (.cells (madeCells #[v] cap) e)) w.heap.size e cap [] := by
  refine ⟨hc, _, At.new w _ e, ?_⟩
  simp [madeCells]
theorem Addr.add0 (b j : Nat) : (⟨b, 0, none⟩ : Addr).add j = ⟨b, j, none⟩ := by unfold Addr.add; split <;> simp_all

/-- 'append' where there is room -/
theorem append_room {ops : Array Oper} {rest : List Oper} {o : Oper} {a : Act} {w : World} {Q : Exit → Act → World → Prop} (hgd : o.guard = none) (s x : Operand) (t : TypeId)
    (ho : o.op = .call { callee := .builtin .append, args := #[s, x], argTypes := #[t, t] })
    (e : TypeId) (i : TypeInfo) (ht : P.underlying t = some (.slice e)) (hi : P.info? e = some i) (hsize : i.size = 1)
    (g n cap : Nat) (hs : a.eval s = .slice (some ⟨g, 0, none⟩) n cap) (xs : List Value) (hn : xs.length = n) (hR : Room w g e cap xs)
    (b m c : Nat) (hx : a.eval x = .slice (some ⟨b, 0, none⟩) m c) (news : List Value) {T2 : TypeId} (hN : At w b T2 news) (hm : news.length = m) (h1 : ∀ u ∈ news, u.oneCell' = true)
    (hroom : n + m ≤ cap)
    (h : ∀ w', Room w' g e cap (xs ++ news) → Only g w w' → wpList P ops Q rest (a.put o.dst (.slice (some ⟨g, 0, none⟩) (n + m) cap)) w') : wpList P ops Q (o :: rest) a w := by
  obtain ⟨h0, r, h2, h3⟩ := hR
  have hown : w.ownsRow 0 e 1 (.slice (some ⟨g, 0, none⟩) n cap) n xs := by
    refine ⟨by omega, .inr ⟨g, cap, _, rfl, Nat.zero_le _, h2, by omega, h0, by simp; omega, ?_⟩⟩
    simp [← hn]
  refine wpList_append_own_spare w hgd s x t ho 0 e i 1 ht hi hsize g n cap xs hs hown ⟨b, 0, none⟩ m c news hx (by omega) (fun j u hj => by rw [Addr.add0]; exact hN.cell j u hj) h1 hroom ?_
  intro w' ho' hg
  refine h w' ?_ ⟨hg.os, hg.tape, hg.output, hg.size, fun k hk hb => hg.block k hk (fun e => hb (Option.some.inj e))⟩
  obtain ⟨hl, h4⟩ := ho'
  rcases h4 with ⟨h5, _⟩ | ⟨g', cap', cur, hv, _, hh, hnc, hcm, hcs, htake⟩
  · cases h5
  · cases hv
    refine ⟨hcm, cur.toList.drop ((n + m) * 1), ?_, ?_⟩
    · rw [← htake, List.take_append_drop]; exact hh
    · rw [hl, List.length_drop, Array.length_toList, hcs]; omega

/-- 'append' where there is room, at a step of a region that draws its order -/
theorem step_room {ops : Array Oper} {o : Oper} {a : Act} {w : World} {K : Act → World → Prop} {Q : Exit → Act → World → Prop} {E : Prop} (hgd : o.guard = none) (s x : Operand) (t : TypeId)
    (ho : o.op = .call { callee := .builtin .append, args := #[s, x], argTypes := #[t, t] })
    (e : TypeId) (i : TypeInfo) (ht : P.underlying t = some (.slice e)) (hi : P.info? e = some i) (hsize : i.size = 1)
    (g n cap : Nat) (hs : a.eval s = .slice (some ⟨g, 0, none⟩) n cap) (xs : List Value) (hn : xs.length = n) (hR : Room w g e cap xs)
    (b m c : Nat) (hx : a.eval x = .slice (some ⟨b, 0, none⟩) m c) (news : List Value) {T2 : TypeId} (hN : At w b T2 news) (hm : news.length = m) (h1 : ∀ u ∈ news, u.oneCell' = true)
    (hroom : n + m ≤ cap)
    (h : ∀ w', Room w' g e cap (xs ++ news) → Only g w w' → K (a.put o.dst (.slice (some ⟨g, 0, none⟩) (n + m) cap)) w') :
    if Region.wanted o (yielded ops a.tmps) = true then Oper.wp P o a w K Q else E := by
  have hw : Region.wanted o (yielded ops a.tmps) = true := by simp [Region.wanted, hgd]
  rw [if_pos hw]
  obtain ⟨h0, r, h2, h3⟩ := hR
  have hown : w.ownsRow 0 e 1 (.slice (some ⟨g, 0, none⟩) n cap) n xs := by
    refine ⟨by omega, .inr ⟨g, cap, _, rfl, Nat.zero_le _, h2, by omega, h0, by simp; omega, ?_⟩⟩
    simp [← hn]
  refine wp_append_own_spare w s x t ho 0 e i 1 ht hi hsize g n cap xs hs hown ⟨b, 0, none⟩ m c news hx (by omega) (fun j u hj => by rw [Addr.add0]; exact hN.cell j u hj) h1 hroom ?_
  intro w' ho' hg
  refine h w' ?_ ⟨hg.os, hg.tape, hg.output, hg.size, fun k hk hb => hg.block k hk (fun e => hb (Option.some.inj e))⟩
  obtain ⟨hl, h4⟩ := ho'
  rcases h4 with ⟨h5, _⟩ | ⟨g', cap', cur, hv, _, hh, hnc, hcm, hcs, htake⟩
  · cases h5
  · cases hv
    refine ⟨hcm, cur.toList.drop ((n + m) * 1), ?_, ?_⟩
    · rw [← htake, List.take_append_drop]; exact hh
    · rw [hl, List.length_drop, Array.length_toList, hcs]; omega

/-- the first bytes of a row, as a text -/
theorem conv_room {w : World} {g cap : Nat} {T : TypeId} (src dst e : TypeId) (l : List UInt8) (hR : Room w g T cap (l.map bv)) (hs : P.underlying src = some (.slice e)) (he : P.underlying e = some (.int .u8)) (hd : P.underlying dst = some .string) (n : Nat) (hn : l.length = n) :
    (convert src dst (.slice (some ⟨g, 0, none⟩) n cap)).run P w = .ok (.string (bs l)) w := by
  subst hn
  refine run_convert_bytes_back w src dst e ⟨g, 0, none⟩ cap l hs he hd fun j hj => ?_
  rw [Addr.add0]
  exact hR.cell j _ (by simp [List.getElem?_eq_getElem hj, bv])
end Go.Proofs.Ytffpmdgchpcaaaa
