/- More small laws: append of a part of a row, quotas compared. -/
import Derived.Test.YtgifdmfnecombaaJi
namespace Go.Proofs.Ytgifdmfnecombaa
open Go.RowKit
set_option maxRecDepth 100000
/-- 'append' of what lies somewhere -/
theorem run_append_at {P : Program} (w : World) (t ty e : TypeId) (i : TypeInfo) (z : Value) (size bytes : Nat) (ht : P.underlying t = some (.slice e)) (hi : P.info? e = some i) (hz : i.zero = some z) (hsize : i.size = size) (hby : i.bytes = bytes) (hzs : z.cells.size = size) (hsz : 0 < size)
    (ao : Option Addr) (n cap : Nat) (xs : List Value) (hO : Own w e size ao n cap xs)
    (p : Addr) (m c : Nat) (news : List Value) (hc : ∀ j u, news[j]? = some u → w.cell? (p.add j) = some u) (hl : news.length = m * size) (h1 : ∀ u ∈ news, u.oneCell' = true) (hm0 : 0 < m) (h63 : n + m ≤ maxLen) (hbytes : (n + m) * bytes ≤ 140737488355328) :
    ∃ ao' cap' w', (Builtin.append_ #[t, t] ty #[.slice ao n cap, .slice (some p) m c]).run P w = .ok (.slice ao' (n + m) cap') w' ∧ Own w' e size ao' (n + m) cap' (xs ++ news) ∧ Touch (blk ao) w w' ∧ (blk ao' = blk ao ∨ ∃ g, blk ao' = [g] ∧ w.heap.size ≤ g) := by
  rcases hO.2 with ⟨h0, hn0⟩ | ⟨g, cap', cur, hv, hbg, hg, hnc, hcm, hcs, htake⟩
  · cases h0
    obtain rfl : xs = [] := List.eq_nil_of_length_eq_zero (by have := hO.1; simpa using this)
    obtain ⟨v', w', hrun, ho, hgr, _⟩ := run_append_own (P := P) w w.heap.size t ty e i z size bytes ht hi hz hsize hby hzs hsz (.slice none 0 0) 0 [] (World.ownsRow_nil w _ e size) p m c news hl hc h1 h63 hbytes (Nat.le_refl _)
    rcases ho.2 with ⟨_, h5⟩ | ⟨g, cap', cur, rfl, hb, r1, r2, r3, r4⟩
    · omega
    · refine ⟨_, _, w', hrun, ⟨ho.1, .inr ⟨g, cap', cur, rfl, Nat.zero_le _, r1, r2, r3, r4⟩⟩, ⟨hgr.os, hgr.tape, hgr.output, hgr.size, fun k hk _ => hgr.block k hk (by simp [Value.ownBlock])⟩, .inr ⟨g, rfl, hb⟩⟩
  · cases hv
    by_cases hroom : n + m ≤ cap
    · obtain ⟨w', hrun, ho, hgr⟩ := run_append_fits (P := P) w 0 t ty e i size ht hi hsize g n cap xs hO p m c news hl hc h1 hroom
      exact ⟨_, _, w', hrun, ho, ⟨hgr.os, hgr.tape, hgr.output, hgr.size, fun k hk hne => hgr.block k hk (fun e => hne (by cases e; simp [blk]))⟩, .inl rfl⟩
    · have holds : ∀ j u, xs[j]? = some u → w.cell? ((⟨g, 0, none⟩ : Addr).add j) = some u := World.ownsRow.cells hO (g := g) rfl
      obtain ⟨v', w', hrun, ho, hgr⟩ := run_append_arg_grows (P := P) w t ty e i z size bytes ht hi hz hsize hby hzs hsz ⟨g, 0, none⟩ n cap xs hO.1 holds p m c news hl hc (by omega) h63 hbytes
      rcases ho.2 with ⟨_, h5⟩ | ⟨g', cap', cur', rfl, hb, r1, r2, r3, r4⟩
      · omega
      · exact ⟨_, _, w', hrun, ⟨ho.1, .inr ⟨g', cap', cur', rfl, Nat.zero_le _, r1, r2, r3, r4⟩⟩, ⟨hgr.os, hgr.tape, hgr.output, hgr.size, fun k hk _ => hgr.block k hk (by simp)⟩, .inr ⟨g', rfl, hb⟩⟩
theorem quota_neq (a b : Int) (w : World) : (binOp .neq 25 (.agg (quotaV a b).toArray) (.agg (quotaV a b).toArray)).run Try.prog w = .ok (.bool false) w := by
  simp [go_sem, quotaV, run_underlying Try.underlying25]
theorem quota_eql (a b : Int) (w : World) : (binOp .eql 25 (.agg (quotaV a b).toArray) (.agg (quotaV a b).toArray)).run Try.prog w = .ok (.bool true) w := by
  simp [go_sem, quotaV, run_underlying Try.underlying25]
theorem run_bin_op {P : Program} {o : Oper} {a : Act} {w : World} (b : BinOp) (t u : TypeId) (x y : Operand) (ho : o.op = .binOp b t x y u) (v1 v2 z : Value) (hx : a.eval x = v1) (hy : a.eval y = v2) (hg : (eqGuard b t x y v1 v2).run P w = .ok () w) (hr : (binOp b t v1 v2).run P w = .ok z w) : (execOp a.eval o).run P w = .ok (.value z) w := by
  unfold execOp
  simp only [ho, hx, hy]
  simp [Sem.run_bind, hg, hr, Result.andThen]
/-- 'append' of nothing -/
theorem append_zero {P : Program} (w : World) (t ty e : TypeId) (ht : P.underlying t = some (.slice e)) (i : TypeInfo) (hi : P.info? e = some i) (ao : Option Addr) (n cap : Nat) (hn : n ≤ cap) (p : Addr) (c : Nat) : (Builtin.append_ #[t, t] ty #[.slice ao n cap, .slice (some p) 0 c]).run P w = .ok (.slice ao n cap) w := by
  simp [go_sem, Builtin.append_, run_underlying ht, sizeOf, typeInfo, hi, hn]
  cases ao <;> rfl
theorem Holds.touch_fresh {w0 w w' : World} {tb : Nat} {D : Doc} {n : Nat} {av : Nat → Prop} {ft : List Nat} (h : Holds w0 w tb D n av) (t : Touch ft w w') (k : ∀ b ∈ ft, av b ∧ w0.heap.size ≤ b) : Holds w0 w' tb D n (fun x => av x ∨ (w.heap.size ≤ x ∧ x < w'.heap.size)) := by
  obtain ⟨p, dp, T, i, m, a⟩ := h.ex
  refine ⟨⟨p, dp, T.keep (fun b hm => t.block b (T.mine_lt b hm) (fun q => a b (k b q).1 hm)), i, m, fun x hx hm => ?_⟩, t.below h.b (fun b hb => (k b hb).2) (Nat.le_refl _), h.f, h.n, fun x hx => ?_⟩
  · rcases hx with hx | hx
    · exact a x hx hm
    · have := T.mine_lt x hm; omega
  · rcases hx with hx | hx
    · exact Nat.lt_of_lt_of_le (h.lt x hx) t.size
    · exact hx.2
end Go.Proofs.Ytgifdmfnecombaa
