/- Kh, Ki, Kj, Kk, one behind the other. -/
import Derived.Test.YtcgjkopdnhkdiaaKE
import Derived.SliceStrings
import Derived.Deep.Slices
namespace Go.Proofs.Ytcgjkopdnhkdiaa
open Go.RowKit
set_option maxRecDepth 100000
def fewL (ts : List (List UInt8)) : List (List UInt8) := (ts.take 8).map (·.take 300)
theorem run_min_op {o : Oper} {a : Act} {w : World} (x y : Operand) (ho : o.op = .call { callee := .builtin .min, args := #[x, y], argTypes := #[3, 3] }) (m n r : Int) (hx : a.eval x = .int .i64 m) (hy : a.eval y = .int .i64 n) (hr : (if n < m then n else m) = r) :
    (execOp a.eval o).run Try.prog w = .ok (.value (.int .i64 r)) w := by
  have h2 : (Builtin.min_ #[3, 3] o.type #[.int .i64 m, .int .i64 n]).run Try.prog w = .ok (.int .i64 r) w := by rw [run_min_int2, hr]
  unfold execOp
  simp [ho, resolve, invoke, builtin, hx, hy, h2, Result.andThen]
set_option maxHeartbeats 4000000 in
theorem few_any (a : Option Addr) (ts : List (List UInt8)) (ca : Nat) (hn : ts.length ≤ 9223372036854775807) (w : World) (hA : Lst w a ts) :
    Calls Try.prog 29 #[.slice a ts.length ca] w fun e w' => Below w.heap.size w w' ∧ ∃ v, e = .returned v ∧ Txts w w' v (fewL ts) := by
  obtain ⟨iw, hiw, hz0, hz1, hz2⟩ := info_parts info9
  have HI := Lib.hid (And.intro hiw (And.intro hz0 (And.intro hz1 hz2)))
  have HA := Lib.hid hA
  clear hiw hz0 hz1 hz2 hA
  go_enter Try.func29, Try.ntmps29
  go_wp2_with fail
  go_loopw [3, 4] (fun y i wx => ∃ (k : Nat) (ao : Option Addr) (cap : Nat), y = .slice ao k cap ∧ i = .int .i64 k ∧ k ≤ 8 ∧ k ≤ ts.length ∧ Own wx 9 1 ao k cap (((ts.take k).map (·.take 300)).map tv) ∧ (∀ i, i ∈ blk ao → w.heap.size ≤ i) ∧ Below w.heap.size w wx) (fun _ i _ => 8 - (intOf i).toNat)
  case atStart => exact ⟨0, none, 0, rfl, rfl, by omega, by omega, Own.nil _ _ _, by simp [blk], Below.refl _ _⟩
  case round =>
    obtain ⟨k, ao, cap, rfl, rfl, hk8, hkl, hO, hbk, hB⟩ := hrel
    have HO := Lib.hid hO
    have HBK := Lib.hid hbk
    have HB := Lib.hid hB
    clear hO hbk hB
    by_cases hlt : k < ts.length ∧ k < 8
    · have h1 : (k : Int) < ts.length := by omega
      have h2 : (k : Int) < 8 := by omega
      obtain ⟨t, ht⟩ : ∃ t, ts[k]? = some t := ⟨_, List.getElem?_eq_getElem hlt.1⟩
      obtain ⟨x, rfl, hc⟩ := (HA.out.below HB.out) k t ht
      have HT := Lib.hid ht
      have HC := Lib.hid hc
      clear ht hc
      go_wp2_with fail
      refine region_any (fun W => W.cell? (x.add k) = some (tv t)) 14 (by kernel_rfl) ?_
      have S0 : (wr.drew).cell? (x.add k) = some (tv t) := HC.out
      have hmin : (if (300 : Int) < (t.length : Int) then (300 : Int) else (t.length : Int)) = ((min t.length 300 : Nat) : Int) := by split <;> omega
      have htk : t.take (min t.length 300) = t.take 300 := by rw [List.take_eq_take_iff]; omega
      refine wpAnyT_take (i := 0) rfl rfl (by kernel_rfl) (by kernel_rfl) (by kernel_rfl) (by kernel_rfl) (fun _ _ _ h => h) (.inl ⟨by kernel_rfl, fun _ _ => rfl⟩) S0 ?_
      refine wpAnyT_take (i := 1) rfl rfl (by kernel_rfl) (by kernel_rfl) (by kernel_rfl) (by kernel_rfl) (fun _ _ _ h => h) (.inl ⟨by kernel_rfl, fun _ _ => rfl⟩) S0 ?_
      refine wpAnyT_take (i := 2) rfl rfl (by kernel_rfl) (by kernel_rfl) (by kernel_rfl) (by kernel_rfl) (fun _ _ _ h => h) (.inl ⟨by kernel_rfl, fun _ _ => rfl⟩) S0 ?_
      refine wpAnyT_take (i := 3) rfl rfl (by kernel_rfl) (by kernel_rfl) (by kernel_rfl) (by kernel_rfl) (fun _ _ _ h => h) (.inl ⟨by kernel_rfl, fun _ _ => run_index_op 39 9 (.tmp 16) (.tmp 17) rfl x ts.length ca k (by kernel_rfl) (by kernel_rfl) hlt.1 1 _ (by rw [Nat.mul_one]) Try.underlying39 (by kernel_rfl)⟩) S0 ?_
      refine wpAnyT_take (i := 4) rfl rfl (by kernel_rfl) (by kernel_rfl) (by kernel_rfl) (by kernel_rfl) (fun _ _ _ h => h) (.inl ⟨by kernel_rfl, fun W hS => run_load_one 9 (.tmp 18) rfl (x.add k) (by kernel_rfl) _ hS _ Try.underlying9 rfl⟩) S0 ?_
      refine wpAnyT_take (i := 5) rfl rfl (by kernel_rfl) (by kernel_rfl) (by kernel_rfl) (by kernel_rfl) (fun _ _ _ h => h) (.inl ⟨by kernel_rfl, fun _ _ => rfl⟩) S0 ?_
      refine wpAnyT_take (i := 6) rfl rfl (by kernel_rfl) (by kernel_rfl) (by kernel_rfl) (by kernel_rfl) (fun _ _ _ h => h) (.inl ⟨by kernel_rfl, fun _ _ => rfl⟩) S0 ?_
      refine wpAnyT_take (i := 7) rfl rfl (by kernel_rfl) (by kernel_rfl) (by kernel_rfl) (by kernel_rfl) (fun _ _ _ h => h) (.inl ⟨by kernel_rfl, fun _ _ => run_index_op 39 9 (.tmp 20) (.tmp 21) rfl x ts.length ca k (by kernel_rfl) (by kernel_rfl) hlt.1 1 _ (by rw [Nat.mul_one]) Try.underlying39 (by kernel_rfl)⟩) S0 ?_
      refine wpAnyT_take (i := 8) rfl rfl (by kernel_rfl) (by kernel_rfl) (by kernel_rfl) (by kernel_rfl) (fun _ _ _ h => h) (.inl ⟨by kernel_rfl, fun W hS => run_load_one 9 (.tmp 22) rfl (x.add k) (by kernel_rfl) _ hS _ Try.underlying9 rfl⟩) S0 ?_
      refine wpAnyT_take (i := 9) rfl rfl (by kernel_rfl) (by kernel_rfl) (by kernel_rfl) (by kernel_rfl) (fun _ _ _ h => h) (.inl ⟨by kernel_rfl, fun _ _ => run_len_str (.tmp 23) rfl t (by kernel_rfl)⟩) S0 ?_
      refine wpAnyT_take (i := 10) rfl rfl (by kernel_rfl) (by kernel_rfl) (by kernel_rfl) (by kernel_rfl) (fun _ _ _ h => h) (.inl ⟨by kernel_rfl, fun _ _ => run_min_op (.tmp 24) (.const (.int .i64 300)) rfl (t.length : Int) 300 _ (by kernel_rfl) (by kernel_rfl) hmin⟩) S0 ?_
      refine wpAnyT_take (i := 11) rfl rfl (by kernel_rfl) (by kernel_rfl) (by kernel_rfl) (by kernel_rfl) (fun _ _ _ h => h) (.inl ⟨by kernel_rfl, fun _ _ => run_hi_op (.tmp 19) (.tmp 25) rfl t (min t.length 300) (by omega) (by kernel_rfl) (by kernel_rfl)⟩) S0 ?_
      rw [htk]
      have hOd : Own wr.drew 9 1 ao k cap (((ts.take k).map (·.take 300)).map tv) := HO.out
      refine wpAnyT_all (rs := [12]) (by kernel_rfl) (by simp) ?_
      intro q hq
      obtain rfl : q = 12 := by simpa using hq
      refine wpOp_val rfl (by kernel_rfl) (run_build_op 39 (.tmp 26) rfl (tv (t.take 300)) (by kernel_rfl) (build_cell (P := Try.prog) wr.drew 39 9 (tv (t.take 300)) iw _ Try.underlying39 HI.out.1 HI.out.2.1 HI.out.2.2.1 rfl)) ⟨fun _ => ?_, ?_⟩
      · exact cell_old ((Below.refl _ wr.drew).alloc (Nat.le_refl _) _) S0
      have a6 := At.new wr.drew #[tv (t.take 300)] 9
      have t6 := (Touch.refl [] wr.drew).alloc (.cells #[tv (t.take 300)] 9)
      have o6 := hOd.touch t6 (by simp)
      have b6 : Below w.heap.size w (wr.drew.alloc (.cells #[tv (t.take 300)] 9)) := (below_drewN' HB.out 1).alloc (below_drewN' HB.out 1).size (.cells #[tv (t.take 300)] 9)
      obtain ⟨ao', cap', w7, hrun, o7, t7, hblk⟩ := run_append_any (P := Try.prog) (wr.drew.alloc (.cells #[tv (t.take 300)] 9)) 39 39 9 iw _ 1 16 Try.underlying39 HI.out.1 HI.out.2.1 HI.out.2.2.1 HI.out.2.2.2 rfl (by omega) ao k cap _ o6 wr.drew.heap.size 1 1 _ a6 rfl (by simp [tv, Value.oneCell']) (by omega) (by unfold maxLen; omega) (by omega)
      have b7 := Touch.below b6 t7 (fun i hi => HBK.out i hi) (Nat.le_refl _)
      refine wpAnyT_all (rs := [13]) (by kernel_rfl) (by simp) ?_
      intro q hq
      obtain rfl : q = 13 := by simpa using hq
      refine wpOp_val rfl (by kernel_rfl) (run_append_op (.tmp 15) (.tmp 27) 39 39 rfl (.slice ao k cap) (.slice (some ⟨wr.drew.heap.size, 0, none⟩) 1 1) (by kernel_rfl) (by kernel_rfl) hrun) ⟨fun _ => ?_, ?_⟩
      · obtain ⟨y, e, h⟩ := HA.out k t HT.out
        cases e
        exact cell_old b7 h
      refine wpAnyT_all (rs := [14]) (by kernel_rfl) (by simp) ?_
      intro q hq
      obtain rfl : q = 14 := by simpa using hq
      refine wpOp_val (w' := w7) (v := .slice ao' (k + 1) cap') rfl (by kernel_rfl) (by kernel_rfl) ⟨fun h => absurd rfl h, wpAnyT_done (by kernel_rfl) ?_ _⟩
      simp only [Act.put, List.getElem_toArray, List.getElem_cons_succ, List.getElem_cons_zero, List.setIfInBounds_toArray, List.set_cons_zero, List.set_cons_succ]
      go_wp2
      go_roundw
      case rel =>
        have e1 : (ts.take (k + 1)).map (·.take 300) = (ts.take k).map (·.take 300) ++ [t.take 300] := by rw [List.take_add_one, HT.out, List.map_append]; rfl
        have k7 : ∀ i, i ∈ blk ao' → w.heap.size ≤ i := fun i hi => by
          rcases hblk with h | ⟨g, h, hg⟩
          · rw [h] at hi; exact HBK.out i hi
          · rw [h] at hi; simp at hi; have := b6.size; omega
        refine ⟨k + 1, ao', cap', rfl, by go_num, by omega, by omega, ?_, k7, b7⟩
        rw [e1, List.map_append]
        exact o7
      case measure => simp [intOf]; omega
    · have hk : (ts.take k).map (·.take 300) = fewL ts := by
        unfold fewL
        rw [show ts.take k = ts.take 8 by rw [List.take_eq_take_iff]; omega]
      have hlen : (fewL ts).length = k := by rw [← hk, List.length_map, List.length_take]; omega
      have hF : Txts w wr (.slice ao k cap) (fewL ts) := ⟨ao, cap, by rw [hlen], by rw [hlen, ← hk]; exact HO.out, HBK.out⟩
      have HF := Lib.hid hF
      clear hF hk hlen HO
      go_wp2
      all_goals go_ret
      all_goals exact ⟨HB.out, _, rfl, HF.out⟩
end Go.Proofs.Ytcgjkopdnhkdiaa

namespace Go.Proofs.Ytcgjkopdnhkdiaa
open Go.RowKit Go.ChangeShapes Go.WideShapes Go.Deep
set_option maxRecDepth 100000
structure Calm (s : Dk) : Prop where
  off : s.off = false
  fuse : s.fuse = 0
theorem Calm.tick {s : Dk} (h : Calm s) : Calm s.tick := by
  have h1 := h.off
  have h2 := h.fuse
  unfold Dk.tick
  rw [if_neg (by rw [h1]; decide)]
  exact ⟨by simp [h2], by simp [h2]⟩
def DO.Fits (n : Nat) : DO → Prop
  | .w k l => badArg n k l.length = 0
  | .f => True
theorem Calm.op {s : Dk} (h : Calm s) (n : Nat) (x : DO) (hx : x.Fits n) : x.E n s = 0 ∧ Calm (x.D n s) := by
  have ht := h.tick
  have h1 := ht.off
  cases x with
  | w k l =>
    have hx : badArg n k l.length = 0 := hx
    refine ⟨?_, ?_⟩
    · show s.writeE n k l = 0
      unfold Dk.writeE
      rw [if_neg (by omega), if_neg (by rw [h1]; decide)]
    · show Calm (s.writeD n k l)
      unfold Dk.writeD
      rw [if_neg (by omega), if_neg (by rw [h1]; decide)]
      exact ⟨h1, ht.fuse⟩
  | f =>
    refine ⟨?_, ?_⟩
    · show s.flushE = 0
      unfold Dk.flushE
      rw [if_neg (by rw [h1]; decide)]
    · show Calm s.flushD
      unfold Dk.flushD
      rw [if_neg (by rw [h1]; decide)]
      exact ⟨h1, ht.fuse⟩
theorem runs_calm (n : Nat) : ∀ (l : List DO) (s : Dk), Calm s → (∀ x ∈ l, x.Fits n) → (runs n s l).1 = 0 ∧ Calm (runs n s l).2
  | [], s, h, _ => ⟨rfl, h⟩
  | x :: r, s, h, hf => by
    obtain ⟨h1, h2⟩ := h.op n x (hf x (List.mem_cons_self ..))
    unfold runs
    rw [if_pos h1]
    exact runs_calm n r _ h2 (fun y hy => hf y (List.mem_cons_of_mem _ hy))
theorem badArg_ok (n k : Nat) (size : Nat) (hk : k < n) (hs : size ≤ 128) : badArg n (k : Int) (size : Int) = 0 := by
  unfold badArg
  rw [if_neg (by omega), if_neg (by omega)]
theorem layFrom_fits (n first : Nat) (l : List UInt8) : ∀ (m k : Nat), first + k + m ≤ n → ∀ x ∈ layFrom first l m k, x.Fits n
  | 0, k, _, x, hx => by cases hx
  | m + 1, k, h, x, hx => by
    rcases List.mem_cons.mp hx with rfl | hx
    · have hs : (secOf l k).length ≤ 128 := by unfold secOf; rw [List.length_take]; omega
      exact badArg_ok n (first + k) _ (by omega) hs
    · exact layFrom_fits n first l m (k + 1) (by omega) x hx
theorem saveOps_fits (n : Nat) (j : Jn) (half : Nat) (bytes : List UInt8) (kept : Nat) (hh : half ≤ 1) (hs : j.stands ≤ 1) (ha : j.pl.at_ + 2 + 2 * j.pl.span ≤ n) (hb : bytes.length ≤ j.pl.span * 128) (hk : kept ≤ bytes.length) :
    ∀ x ∈ saveOps j half bytes kept, x.Fits n := by
  intro x hx
  unfold saveOps at hx
  have hq : half * j.pl.span ≤ 1 * j.pl.span := Nat.mul_le_mul_right _ hh
  rcases List.mem_append.mp hx with hx | hx
  · refine layFrom_fits n _ bytes _ _ ?_ x hx
    have : cntOf bytes ≤ j.pl.span := by unfold cntOf; omega
    have : kept / 128 ≤ cntOf bytes := by unfold cntOf; omega
    omega
  · simp only [List.mem_cons, List.not_mem_nil, or_false] at hx
    rcases hx with rfl | rfl | rfl
    · trivial
    · exact badArg_ok n _ _ (by omega) (by rw [Hd.sec_len]; omega)
    · trivial
theorem saveOps_len (j : Jn) (half : Nat) (bytes : List UInt8) (kept : Nat) (hb : bytes.length ≤ j.pl.span * 128) : (saveOps j half bytes kept).length ≤ j.pl.span + 3 := by
  unfold saveOps layOps
  rw [List.length_append, layFrom_len]
  have : cntOf bytes ≤ j.pl.span := by unfold cntOf; omega
  simp only [List.length_cons, List.length_nil]
  omega
/-- the journal of JournalRoom: on a disk whose power stays -/
structure Rs (D : Nat) (s : Dk) (j : Jn) (all : List (List UInt8)) (k : Nat) : Prop where
  pl : j.pl = ⟨D, 0, 3⟩
  off : j.off = false
  st : j.stands ≤ 1
  half : j.hd.half ≤ 1
  num : j.hd.num ≤ 1 + k
  by_ : j.bytes = rowsL all
  len : (rowsL all).length ≤ 384
  small : ∀ t ∈ all, t.length ≤ 300
  calm : Calm s
  lot : Lot (100 + 10 * k) s
theorem save_fits {D : Nat} {s : Dk} {j : Jn} {all : List (List UInt8)} {k : Nat} (h : Rs D s j all k) (half : Nat) (hh : half ≤ 1) (kept ts : List (List UInt8)) (hk : (rowsL kept).length + (rowsL ts).length ≤ 384) (h1 : ∀ t ∈ kept, t.length ≤ 300) (h2 : ∀ t ∈ ts, t.length ≤ 300) :
    ∃ s' j', saveL 8 s j half (rowsL kept) ts = (0, s', j') ∧ Rs D s' j' (kept ++ ts) (k + 1) := by
  have hpl := h.pl
  have hsp : j.pl.span = 3 := by rw [hpl]
  have hat : j.pl.at_ = 0 := by rw [hpl]
  have hbl : (rowsL kept ++ rowsL ts).length ≤ j.pl.span * 128 := by rw [hsp, List.length_append]; omega
  have hr := runs_calm 8 (saveOps j half (rowsL kept ++ rowsL ts) (rowsL kept).length) s h.calm (saveOps_fits 8 j half _ _ hh h.st (by rw [hsp, hat]; omega) hbl (by rw [List.length_append]; omega))
  have hl := runs_lot 8 (saveOps j half (rowsL kept ++ rowsL ts) (rowsL kept).length) (100 + 10 * k) s h.lot
  have hl2 := saveOps_len j half (rowsL kept ++ rowsL ts) (rowsL kept).length hbl
  refine ⟨(runs 8 s (saveOps j half (rowsL kept ++ rowsL ts) (rowsL kept).length)).2, { j with hd := ⟨j.hd.num + 1, half, (rowsL kept ++ rowsL ts).length⟩, stands := 1 - j.stands, bytes := rowsL kept ++ rowsL ts }, ?_, ?_⟩
  · unfold saveL
    rw [if_pos (by rw [hsp]; omega)]
    simp only []
    rw [if_pos hr.1]
  · exact ⟨hpl, h.off, by show 1 - j.stands ≤ 1; omega, hh, by show j.hd.num + 1 ≤ _; have := h.num; omega, (rowsL_append _ _).symm, by rw [rowsL_append, List.length_append]; omega,
      fun t ht => (List.mem_append.mp ht).elim (h1 t) (h2 t), hr.2, hl.mono (by rw [hsp] at hl2; omega)⟩
theorem commit_fits {D : Nat} {s : Dk} {j : Jn} {all : List (List UInt8)} {k : Nat} (h : Rs D s j all k) (ts : List (List UInt8)) (hk : (rowsL ts).length ≤ 384 - (rowsL all).length) (h2 : ∀ t ∈ ts, t.length ≤ 300) :
    ∃ s' j', commitL 8 s j ts = (0, s', j') ∧ Rs D s' j' (all ++ ts) (k + 1) := by
  unfold commitL
  rw [if_neg (by rw [h.off]; decide)]
  by_cases h0 : ts = []
  · subst h0
    rw [if_pos rfl]
    exact ⟨s, j, rfl, h.pl, h.off, h.st, h.half, by have := h.num; omega, by rw [List.append_nil]; exact h.by_, by rw [List.append_nil]; exact h.len, by rw [List.append_nil]; exact h.small, h.calm, h.lot.mono (by omega)⟩
  · rw [if_neg h0, h.by_]
    have := h.len
    exact save_fits h j.hd.half h.half all ts (by omega) h.small h2
theorem commit_full {D : Nat} {s : Dk} {j : Jn} {all : List (List UInt8)} {k : Nat} (h : Rs D s j all k) (ts : List (List UInt8)) (hk : 384 - (rowsL all).length < (rowsL ts).length) :
    commitL 8 s j ts = (10, s, j) := by
  unfold commitL
  rw [if_neg (by rw [h.off]; decide), if_neg (by rintro rfl; simp [rowsL] at hk)]
  unfold saveL
  rw [h.by_, h.pl, if_neg (by show ¬ _ ≤ 3 * 128 - _; omega)]
theorem rewrite_fits {D : Nat} {s : Dk} {j : Jn} {all : List (List UInt8)} {k : Nat} (h : Rs D s j all k) (ts : List (List UInt8)) (hk : (rowsL ts).length ≤ 384) (h2 : ∀ t ∈ ts, t.length ≤ 300) :
    ∃ s' j', rewriteL 8 s j ts = (0, s', j') ∧ Rs D s' j' ts (k + 1) := by
  unfold rewriteL
  rw [if_neg (by rw [h.off]; decide)]
  exact save_fits h (1 - j.hd.half) (by omega) [] ts (by simp only [rowsL, List.flatMap_nil, List.length_nil]; unfold rowsL at hk; omega) (fun t ht => by cases ht) h2
theorem rewrite_full {D : Nat} {s : Dk} {j : Jn} {all : List (List UInt8)} {k : Nat} (h : Rs D s j all k) (ts : List (List UInt8)) (hk : 384 < (rowsL ts).length) :
    rewriteL 8 s j ts = (10, s, j) := by
  unfold rewriteL
  rw [if_neg (by rw [h.off]; decide)]
  unfold saveL
  rw [h.pl, if_neg (by show ¬ _ ≤ 3 * 128 - _; simp only [List.length_nil]; omega)]
theorem Rs.more {D : Nat} {s : Dk} {j : Jn} {all : List (List UInt8)} {k k' : Nat} (h : Rs D s j all k) (hk : k ≤ k') : Rs D s j all k' :=
  ⟨h.pl, h.off, h.st, h.half, by have := h.num; omega, h.by_, h.len, h.small, h.calm, h.lot.mono (by omega)⟩
/-! ### texts come back -/
theorem cutT_row (t r : List UInt8) (h : t.length < Plain.big) : Plain.cutT (rowT t ++ r) = some (t, r) := by
  unfold rowT Plain.cutT
  rw [List.append_assoc, Plain.cut_row _ h]
  simp
theorem rowT_ne (t r : List UInt8) : rowT t ++ r ≠ [] := by
  have := Plain.row_length_pos t.length
  intro h
  have := congrArg List.length h
  unfold rowT at this
  simp only [List.length_append, List.length_nil] at this
  omega
theorem textsL_rows : ∀ ts : List (List UInt8), (∀ t ∈ ts, t.length < Plain.big) → textsL (rowsL ts) = some ts
  | [], _ => textsL_nil
  | t :: r, h => by
    show textsL (rowT t ++ rowsL r) = some (t :: r)
    rw [textsL_some (rowT_ne t _) (cutT_row t _ (h t (List.mem_cons_self ..))), textsL_rows r (fun x hx => h x (List.mem_cons_of_mem _ hx))]
    rfl
theorem rowT_len (t : List UInt8) (h : t.length ≤ 300) : (rowT t).length = t.length + 1 + (if 128 ≤ t.length then 1 else 0) := by
  unfold rowT
  rw [List.length_append]
  have : (Plain.row t.length).length = 1 + (if 128 ≤ t.length then 1 else 0) := by
    unfold Plain.row
    rw [List.length_append, List.length_singleton]
    split
    · rw [Plain.hi_pos (by omega), show t.length / 128 / 128 = 0 by omega, Plain.hi_zero]
      simp
    · rw [show t.length / 128 = 0 by omega, Plain.hi_zero]
      simp
  omega
theorem Rs.texts {D : Nat} {s : Dk} {j : Jn} {all : List (List UInt8)} {k : Nat} (h : Rs D s j all k) : (textsL j.bytes).getD [] = all := by
  rw [h.by_, textsL_rows all (fun t ht => by have := h.small t ht; unfold Plain.big; omega)]
  rfl
theorem fewL_small (ts : List (List UInt8)) : ∀ t ∈ fewL ts, t.length ≤ 300 := by
  intro t ht
  unfold fewL at ht
  obtain ⟨u, _, rfl⟩ := List.mem_map.mp ht
  rw [List.length_take]; omega
theorem fewL_len (ts : List (List UInt8)) : (fewL ts).length ≤ 8 := by
  unfold fewL
  rw [List.length_map, List.length_take]; omega
theorem rowsL_small (ts : List (List UInt8)) (h : ∀ t ∈ ts, t.length ≤ 300) : (rowsL ts).length ≤ 302 * ts.length := by
  induction ts with
  | nil => simp [rowsL]
  | cons t r ih =>
    show (rowT t ++ rowsL r).length ≤ _
    have h1 := rowT_len t (h t (List.mem_cons_self ..))
    have h2 := h t (List.mem_cons_self ..)
    have := ih (fun x hx => h x (List.mem_cons_of_mem _ hx))
    rw [List.length_append, List.length_cons]
    split at h1 <;> omega
/-! ### a row of rows of texts that came in -/
def Rows2 (w : World) (a : Option Addr) (ls : List (List (List UInt8))) : Prop := ∀ j ts, ls[j]? = some ts → ∃ x ao cap, a = some x ∧ w.cell? (x.add j) = some (.slice ao ts.length cap) ∧ ts.length ≤ maxLen ∧ Lst w ao ts
section
variable {H : Type} {enc : TypeId × Value → H} {w : World} {base : Nat} {spare : Nat → Bool} {held : Bool}
theorem open_texts {fuel : Nat} {cs : List Value} {x : DataW H × List MemPlace} (h : DataW.trod enc Try.prog w base spare held fuel 39 cs = some x) :
    ∃ (ao : Option Addr) (len cap : Nat) (ls : List (List UInt8)), cs = [.slice ao len cap] ∧ ls.length = len ∧ len ≤ maxLen ∧ Lst w ao ls := by
  rcases open_strings Try.underlying39 Try.underlying9 (by kernel_rfl) h with ⟨hcs, _⟩ | ⟨x, l, c, zs, hcs, _, hl, hm, hz, _, hcell, hwz⟩
  · exact ⟨none, 0, 0, [], hcs, rfl, Nat.zero_le _, fun j t h => absurd h (by simp)⟩
  · have hzl : l ≤ zs.length := by rw [hz]; split <;> omega
    refine ⟨some x, l, c, (zs.take l).map (fun s => s.data.toList), hcs, by rw [List.length_map, List.length_take]; omega, Nat.le_trans hl hm, fun j t h => ⟨x, rfl, ?_⟩⟩
    rw [List.getElem?_map] at h
    obtain ⟨s, hs, rfl⟩ := Option.map_eq_some_iff.mp h
    have hj := (List.getElem?_eq_some_iff.1 hs).1
    rw [List.length_take] at hj
    rw [List.getElem?_take, if_pos (by omega)] at hs
    rw [hcell j (by omega), List.getD_eq_getElem?_getD, hs]
    unfold tv
    rw [bs_data]
    rfl
theorem open_texts2 {fuel : Nat} {cs : List Value} {x : DataW H × List MemPlace} (h : DataW.trod enc Try.prog w base spare held fuel 47 cs = some x) :
    ∃ (ao : Option Addr) (len cap : Nat) (ls : List (List (List UInt8))), cs = [.slice ao len cap] ∧ ls.length = len ∧ len ≤ maxLen ∧ Rows2 w ao ls := by
  rcases open_slice1 Try.underlying47 (by kernel_rfl) h with ⟨hcs, _⟩ | ⟨a, len, cap, m, n, V, D, Pl, hcs, _, hl, hm, hmm, _, hi⟩
  · exact ⟨none, 0, 0, [], hcs, rfl, Nat.zero_le _, fun j t h => absurd h (by simp)⟩
  · have hlm : len ≤ m := by rw [hmm]; split <;> omega
    have hx : ∀ i : Fin len, ∃ ts : List (List UInt8), ∃ ao cap, w.cell? (a.add i.1) = some (.slice ao ts.length cap) ∧ ts.length ≤ maxLen ∧ Lst w ao ts := fun i => by
      obtain ⟨h1, h2⟩ := hi i.1 (by have := i.2; omega)
      obtain ⟨ao, len', cap', ls, hcs', h3, h4, h5⟩ := open_texts h2
      simp only [List.cons.injEq, and_true] at hcs'
      exact ⟨ls, ao, cap', by rw [h1, hcs', h3], by omega, h5⟩
    refine ⟨some a, len, cap, List.ofFn fun i => Classical.choose (hx i), hcs, by simp, by omega, fun j ts hj => ?_⟩
    rw [List.getElem?_ofFn] at hj
    split at hj
    · rename_i hjl
      cases hj
      obtain ⟨ao, cap', h⟩ := Classical.choose_spec (hx ⟨j, hjl⟩)
      exact ⟨a, ao, cap', rfl, h⟩
    · cases hj
end
end Go.Proofs.Ytcgjkopdnhkdiaa

namespace Go.Proofs.Ytcgjkopdnhkdiaa
open Go.RowKit
set_option maxRecDepth 100000
/-- the journal, in the world wr: made since w -/
structure Sc (w wr : World) (J D : Nat) (s : Dk) (j : Jn) (av : Nat → Prop) : Prop where
  p : Priv w wr av 8 D s
  a : At wr J 87 j.cells
  avJ : av J
  J0 : w.heap.size ≤ J
section
variable {w wr w' : World} {J D : Nat} {s : Dk} {j : Jn} {av : Nat → Prop}
theorem Sc.below (h : Sc w wr J D s j av) (b : Below wr.heap.size wr w') : Sc w w' J D s j av := ⟨(h.p.below b).1, h.a.below b h.a.lt, h.avJ, h.J0⟩
theorem Sc.grow (h : Sc w wr J D s j av) (b : Below wr.heap.size wr w') : Sc w w' J D s j (fun i => i < w'.heap.size ∧ (av i ∨ wr.heap.size ≤ i)) :=
  ⟨h.p.grow b, h.a.below b h.a.lt, ⟨Nat.lt_of_lt_of_le h.a.lt b.size, .inl h.avJ⟩, h.J0⟩
theorem Sc.more {av2 : Nat → Prop} (h : Sc w wr J D s j av) (h2 : ∀ i, av2 i → av i) (hJ : av2 J) : Sc w wr J D s j av2 := ⟨h.p.more (fun i hi => .inr (h2 i hi)), h.a, hJ, h.J0⟩
theorem Sc.drewN (h : Sc w wr J D s j av) (q : Nat) : Sc w (wr.drewN q) J D s j av := h.below (below_drewN' (Below.refl _ _) q)
theorem Lst.kp {a : Option Addr} {ts : List (List UInt8)} (h : Lst wr a ts) (hb : ∀ i, i ∈ blk a → av i ∧ i ≠ J) (K : Keeps (fun i => av i ∧ i ≠ J) wr w') : Lst w' a ts := fun q t hq => by
  obtain ⟨x, rfl, hc⟩ := h q t hq
  refine ⟨x, rfl, ?_⟩
  rw [← hc]
  exact World.cell?_of_block (w := wr) (K _ (hb _ (by rw [show (x.add q).block = x.block by unfold Addr.add; split <;> rfl]; simp [blk])))
variable {all : List (List UInt8)} {k : Nat}
theorem Rs.ok (r : Rs D s j all k) : j.pl.Ok := by rw [r.pl]; exact ⟨Nat.zero_le _, by show (3 : Nat) ≤ 4096; decide⟩
theorem Rs.fits (r : Rs D s j all k) : j.bytes.length ≤ j.pl.span * 128 := by rw [r.pl, r.by_]; exact r.len
theorem sc_records (h : Sc w wr J D s j av) (r : Rs D s j all k) : Calls Try.prog 31 #[.pointer (some ⟨J, 0, none⟩)] wr fun e w' => Below wr.heap.size wr w' ∧ ∃ a cap, e = .returned (.slice a all.length cap) ∧ Lst w' a all ∧ ∀ i, i ∈ blk a → wr.heap.size ≤ i ∧ i < w'.heap.size := by
  refine (records_any J j wr h.a (by have := r.len; rw [r.by_]; omega)).mono ?_
  rintro e w' ⟨b, v, rfl, hT⟩
  rw [r.texts] at hT
  obtain ⟨a, cap, rfl, hL⟩ := hT.lst
  obtain ⟨a2, cap2, e2, hO, hb⟩ := hT
  cases e2
  exact ⟨b, a, cap, rfl, hL, fun i hi => ⟨hb i hi, hO.lt i hi⟩⟩
theorem sc_room (h : Sc w wr J D s j av) (r : Rs D s j all k) : Calls Try.prog 34 #[.pointer (some ⟨J, 0, none⟩)] wr fun e w' => e = .returned (.int .i64 ((384 - (rowsL all).length : Nat) : Int)) ∧ Below wr.heap.size wr w' := by
  refine (room_any J j wr h.a r.ok r.fits).mono ?_
  rintro e w' ⟨rfl, b⟩
  rw [r.pl, r.by_]
  exact ⟨rfl, b⟩
theorem sc_few (a : Option Addr) (ts : List (List UInt8)) (ca : Nat) (hn : ts.length ≤ 9223372036854775807) (hA : Lst wr a ts) :
    Calls Try.prog 29 #[.slice a ts.length ca] wr fun e w' => Below wr.heap.size wr w' ∧ ∃ a cap, e = .returned (.slice a (fewL ts).length cap) ∧ Lst w' a (fewL ts) ∧ ∀ i, i ∈ blk a → wr.heap.size ≤ i ∧ i < w'.heap.size := by
  refine (few_any a ts ca hn wr hA).mono ?_
  rintro e w' ⟨b, v, rfl, hT⟩
  obtain ⟨a, cap, rfl, hL⟩ := hT.lst
  obtain ⟨a2, cap2, e2, hO, hb⟩ := hT
  cases e2
  exact ⟨b, a, cap, rfl, hL, fun i hi => ⟨hb i hi, hO.lt i hi⟩⟩
variable {a : Option Addr} {us : List (List UInt8)} {cap : Nat}
theorem sc_commit (h : Sc w wr J D s j av) (r : Rs D s j all k) (hk : k ≤ 1000) (h8 : us.length ≤ 8) (h3 : ∀ t ∈ us, t.length ≤ 300) (hL : Lst wr a us) :
    Calls Try.prog 30 #[.pointer (some ⟨J, 0, none⟩), .slice a us.length cap] wr fun e w' => e = .returned (.int .i64 (commitL 8 s j us).1) ∧ Sc w w' J D (commitL 8 s j us).2.1 (commitL 8 s j us).2.2 av ∧ Keeps (fun i => av i ∧ i ≠ J) wr w' := by
  have hrl := rowsL_small us h3
  refine (commit_any h.p J j h.a h.avJ h.J0 (by rw [r.pl]) r.ok r.st (by have := r.num; omega) r.half r.fits a us cap (by omega) (by omega) (fun t ht => by have := h3 t ht; omega) hL (100 + 10 * k) r.lot (by omega)).mono ?_
  rintro e w' ⟨rfl, hS⟩
  exact ⟨rfl, ⟨hS.1, hS.2.1, h.avJ, h.J0⟩, hS.2.2⟩
theorem sc_rewrite (h : Sc w wr J D s j av) (r : Rs D s j all k) (hk : k ≤ 1000) (h8 : us.length ≤ 8) (h3 : ∀ t ∈ us, t.length ≤ 300) (hL : Lst wr a us) :
    Calls Try.prog 28 #[.pointer (some ⟨J, 0, none⟩), .slice a us.length cap] wr fun e w' => e = .returned (.int .i64 (rewriteL 8 s j us).1) ∧ Sc w w' J D (rewriteL 8 s j us).2.1 (rewriteL 8 s j us).2.2 av ∧ Keeps (fun i => av i ∧ i ≠ J) wr w' := by
  have hrl := rowsL_small us h3
  refine (rewrite_any h.p J j h.a h.avJ h.J0 (by rw [r.pl]) r.ok r.st (by have := r.num; omega) r.half a us cap (by omega) (by omega) (fun t ht => by have := h3 t ht; omega) hL (100 + 10 * k) r.lot (by omega)).mono ?_
  rintro e w' ⟨rfl, hS⟩
  exact ⟨rfl, ⟨hS.1, hS.2.1, h.avJ, h.J0⟩, hS.2.2⟩
end
theorem rowsL_ge (ts : List (List UInt8)) : ts.length ≤ (rowsL ts).length := by
  induction ts with
  | nil => simp
  | cons t r ih =>
    show _ ≤ (rowT t ++ rowsL r).length
    have : 0 < (rowT t).length := by unfold rowT; rw [List.length_append]; have := Plain.row_length_pos t.length; omega
    rw [List.length_append, List.length_cons]
    omega
/-- the first state -/
theorem rs_first (D : Nat) : Rs D s8 (jn8 D) [] 0 :=
  ⟨rfl, rfl, by show (0 : Nat) ≤ 1; decide, by show (0 : Nat) ≤ 1; decide, by show (1 : Nat) ≤ 1; decide, rfl, by show (0 : Nat) ≤ 384; decide, (fun t ht => by cases ht), ⟨by kernel_rfl, by kernel_rfl⟩, lt8c⟩
end Go.Proofs.Ytcgjkopdnhkdiaa

namespace Go.Proofs.Ytcgjkopdnhkdiaa
open Go.RowKit
set_option maxRecDepth 100000
set_option maxHeartbeats 16000000 in
theorem journalRoom_walk (a : Option Addr) (len cap : Nat) (ls : List (List (List UInt8))) (w : World) (hl : ls.length = len) (hm : len ≤ maxLen) (hD : Rows2 w a ls) :
    Calls Try.prog 5 #[.slice a len cap] w fun e w' => e = .returned (.bool true) ∧ Below w.heap.size w w' := by
  subst hl
  unfold maxLen at hm
  have HD := Lib.hid hD
  clear hD
  go_enter Try.func5, Try.ntmps5
  go_wp2_with fail
  refine (fresh_any w w (Below.refl _ _) 8 (by decide) (by decide) lt8a frF8 lt8b (fun D => by rw [fr8])).mono ?_
  rintro e v ⟨D, J, hJ0, rfl, hP, hA⟩
  rw [fr8] at hP hA
  have HS := Lib.hid (Sc.mk hP hA rfl hJ0)
  clear hP hA
  go_wp2_with fail
  refine (sc_room HS.out (rs_first D)).mono ?_
  rintro e v1 ⟨rfl, b1⟩
  rw [show ((384 - (rowsL []).length : Nat) : Int) = 384 from rfl]
  have HS1 := Lib.hid (HS.out.below b1)
  clear b1 HS
  go_wp2_with fail
  go_loopw [5] (fun i wr => ∃ (k : Nat) (all : List (List UInt8)) (s : Dk) (j : Jn), i = .int .i64 k ∧ k ≤ 20 ∧ k ≤ ls.length ∧ Sc w wr J D s j (fun i => i = J) ∧ Rs D s j all (2 * k)) (fun i _ => 20 - (intOf i).toNat)
  case atStart => exact ⟨0, [], s8, jn8 D, rfl, by omega, by omega, HS1.out, rs_first D⟩
  clear HS1
  case round =>
    obtain ⟨k, all, s, j, rfl, hk20, hkl, hS, hR⟩ := hrel
    have HS := Lib.hid hS
    have HR := Lib.hid hR
    have hall := hR.len
    have hal := rowsL_ge all
    obtain ⟨A, hAA⟩ : ∃ A, A = (rowsL all).length := ⟨_, rfl⟩
    have HAA := Lib.hid hAA
    rw [← hAA] at hall hal
    clear hS hR hAA
    by_cases hlt : k < ls.length ∧ k < 20
    · have h1 : (k : Int) < ls.length := by omega
      have h2 : (k : Int) < 20 := by omega
      obtain ⟨ts, ht⟩ : ∃ t, ls[k]? = some t := ⟨_, List.getElem?_eq_getElem hlt.1⟩
      obtain ⟨x, ao, cp, rfl, hc0, htl, hL0⟩ := HD.out k ts ht
      have hbw := HS.out.p.bel
      have hc := cell_old hbw hc0
      have HL := Lib.hid (hL0.below (hbw.mono (Nat.le_refl _)))
      clear hc0 hL0 ht
      go_wp2_with fail
      refine (sc_few ao ts cp (by unfold maxLen at htl; omega) HL.out).mono ?_
      rintro e w1 ⟨b1, xa, xc, rfl, hLx, hbx⟩
      obtain ⟨av, hS1, hbX⟩ : ∃ av, Sc w w1 J D s j av ∧ ∀ i, i ∈ blk xa → av i ∧ i ≠ J :=
        ⟨_, HS.out.grow b1, fun i hi => ⟨⟨(hbx i hi).2, .inr (hbx i hi).1⟩, fun e => by have := (hbx i hi).1; have := HS.out.a.lt; omega⟩⟩
      have hu8 := fewL_len ts
      have hu3 := fewL_small ts
      generalize fewL ts = us at hu8 hu3 hLx ⊢
      have HS1 := Lib.hid hS1
      have HBX := Lib.hid hbX
      have HLX := Lib.hid hLx
      have HU3 := Lib.hid hu3
      have HTS : ∀ q t, us[q]? = some t → t.length ≤ 300 ∧ (rowsL (us.take (q + 1))).length = (rowsL (us.take q)).length + t.length + 1 + (if 128 ≤ t.length then 1 else 0) ∧ (rowsL (us.take q)).length ≤ 302 * 8 := fun q t hq => by
        have h1 := HU3.out t (List.mem_of_getElem? hq)
        refine ⟨h1, ?_, ?_⟩
        · rw [List.take_add_one, hq, Option.toList_some, rowsL_snoc, List.length_append, rowT_len t h1]; omega
        · have := rowsL_small (us.take q) (fun t ht => HU3.out t (List.mem_of_mem_take ht))
          have : (us.take q).length ≤ 8 := by rw [List.length_take]; omega
          omega
      have HTS := Lib.hid HTS
      clear hS1 hbX hLx hu3 hbx b1 HS HL hc hbw
      go_wp2_with fail
      go_loopw [7, 8] (fun y i wx => ∃ q : Nat, q ≤ us.length ∧ i = .int .i64 q ∧ y = .int .i64 ((rowsL (us.take q)).length : Int) ∧ Below w1.heap.size w1 wx) (fun _ i _ => 8 - (intOf i).toNat)
      case atStart => exact ⟨0, by omega, rfl, by simp [rowsL], Below.refl _ _⟩
      case round =>
        obtain ⟨q, hqu, rfl, rfl, hB⟩ := hrel
        have HB := Lib.hid hB
        clear hB
        by_cases hq : q < us.length
        · have h3 : (q : Int) < us.length := by omega
          obtain ⟨t, ht⟩ : ∃ t, us[q]? = some t := ⟨_, List.getElem?_eq_getElem hq⟩
          obtain ⟨x2, rfl, hc0⟩ := HLX.out q t ht
          have hc := cell_old HB.out hc0
          unfold tv at hc
          obtain ⟨ht3, hn1, hn2⟩ := HTS.out q t ht
          clear hc0
          obtain ⟨S, hSS⟩ : ∃ S, S = (rowsL (us.take q)).length := ⟨_, rfl⟩
          rw [← hSS] at hn1 hn2 ⊢
          have HSS := Lib.hid hSS
          have HN1 := Lib.hid hn1
          clear hSS hn1
          by_cases h128 : 128 ≤ t.length
          · have h5 : (128 : Int) ≤ t.length := by omega
            go_wp2_with fail
            go_roundw
            case rel =>
              refine ⟨q + 1, by omega, by go_num, ?_, HB.out⟩
              rw [HN1.out, if_pos h128]; go_num
            case measure => simp [intOf]; omega
          · have h5 : ¬ (128 : Int) ≤ t.length := by omega
            go_wp2_with fail
            go_roundw
            case rel =>
              refine ⟨q + 1, by omega, by go_num, ?_, HB.out⟩
              rw [HN1.out, if_neg h128]; go_num
            case measure => simp [intOf]; omega
        · obtain rfl : q = us.length := by omega
          rw [List.take_length]
          have HS2 := Lib.hid (HS1.out.below HB.out)
          have HX2 := Lib.hid (HLX.out.below HB.out)
          have hru := rowsL_small us HU3.out
          obtain ⟨S, hSS⟩ : ∃ S, S = (rowsL us).length := ⟨_, rfl⟩
          rw [← hSS] at hru ⊢
          have HSS := Lib.hid hSS
          clear hSS HS1 HLX HB
          go_wp2_with fail
          refine (sc_records HS2.out HR.out).mono ?_
          rintro e w3 ⟨b3, ha, hc, rfl, hLh, hbh⟩
          obtain ⟨av2, hS3, hbH, hbX⟩ : ∃ av2, Sc w w3 J D s j av2 ∧ (∀ i, i ∈ blk ha → av2 i ∧ i ≠ J) ∧ (∀ i, i ∈ blk xa → av2 i ∧ i ≠ J) :=
            ⟨_, HS2.out.grow b3, fun i hi => ⟨⟨(hbh i hi).2, .inr (hbh i hi).1⟩, fun e => by have := (hbh i hi).1; have := HS2.out.a.lt; omega⟩, fun i hi => ⟨⟨Nat.lt_of_lt_of_le (HS2.out.p.1 i (HBX.out i hi).1) b3.size, .inl (HBX.out i hi).1⟩, (HBX.out i hi).2⟩⟩
          have HS3 := Lib.hid hS3
          have HLH := Lib.hid hLh
          have HBH := Lib.hid hbH
          have HBX2 := Lib.hid hbX
          have HX3 := Lib.hid (HX2.out.below b3)
          clear hS3 hLh hbH hbX hbh b3 HS2 HX2 HBX
          go_wp2_with fail
          refine (sc_room HS3.out HR.out).mono ?_
          rintro e w4 ⟨rfl, b4⟩
          rw [← HAA.out]
          obtain ⟨R, hRR⟩ : ∃ R, R = 384 - A := ⟨_, rfl⟩
          rw [← hRR]
          have HRR := Lib.hid hRR
          clear hRR
          have HRA : Hid (R + A = 384) := Lib.hid (by have := HRR.out; omega)
          have hRA2 : R ≤ 384 := by have := HRR.out; omega
          have HS4 := Lib.hid (HS3.out.below b4)
          have HLH4 := Lib.hid (HLH.out.below b4)
          have HX4 := Lib.hid (HX3.out.below b4)
          clear b4 HS3 HLH HX3
          go_wp2_with fail
          refine (sc_commit HS4.out HR.out (by omega) hu8 HU3.out HX4.out).mono ?_
          rintro e w5 ⟨rfl, hS5, K5⟩
          have HLH5 := Lib.hid (HLH4.out.kp HBH.out K5)
          have HX5 := Lib.hid (HX4.out.kp HBX2.out K5)
          clear HS4 HLH4 HX4 K5
          by_cases hfit : S ≤ R
          · obtain ⟨s', j', hcm, hR'⟩ := commit_fits HR.out us (by rw [← HSS.out, ← HAA.out, ← HRR.out]; exact hfit) HU3.out
            rw [hcm] at hS5 ⊢
            have HS5 := Lib.hid hS5
            have HR5 := Lib.hid hR'
            have hlen : (rowsL (all ++ us)).length = A + S := by rw [rowsL_append, List.length_append, HAA.out, HSS.out]
            clear hS5 hR' hcm
            have f1 : ¬ (R : Int) < (S : Int) := by omega
            go_wp2_with fail
            refine (sc_room HS5.out HR5.out).mono ?_
            rintro e w6 ⟨rfl, b6⟩
            rw [hlen, show ((384 - (A + S) : Nat) : Int) = (R : Int) - (S : Int) by have := HRR.out; omega]
            have HS6 := Lib.hid (HS5.out.below b6)
            clear b6 HS5 hlen
            go_wp2_with fail
            refine (sc_records HS6.out HR5.out).mono ?_
            rintro e w7 ⟨b7, ya, yc, rfl, hLy, hby⟩
            rw [List.length_append]
            have HS7 := Lib.hid (HS6.out.below b7)
            clear b7 hLy hby HS6
            go_wp2_with fail
            go_roundw
            case rel => exact ⟨k + 1, all ++ us, s', j', by go_num, by omega, by omega, HS7.out.more (fun i e => by rw [e]; exact HS7.out.avJ) rfl, HR5.out.more (by omega)⟩
            case measure => simp [intOf]; omega
          · rw [commit_full HR.out us (by rw [← HSS.out, ← HAA.out, ← HRR.out]; omega)] at hS5 ⊢
            have HS5 := Lib.hid hS5
            clear hS5
            have f1 : ¬ (S : Int) ≤ (R : Int) := by omega
            go_wp2_with fail
            refine (sc_room HS5.out HR.out).mono ?_
            rintro e w6 ⟨rfl, b6⟩
            rw [← HAA.out, ← HRR.out]
            have HS6 := Lib.hid (HS5.out.below b6)
            have HLH6 := Lib.hid (HLH5.out.below b6)
            have HX6 := Lib.hid (HX5.out.below b6)
            clear b6 HS5 HLH5 HX5
            go_wp2_with fail
            refine (sc_records HS6.out HR.out).mono ?_
            rintro e w7 ⟨b7, ya, yc, rfl, hLy, hby⟩
            have HY := Lib.hid hLy
            have HS7 := Lib.hid (HS6.out.below b7)
            have HLH7 := Lib.hid (HLH6.out.below b7)
            have HX7 := Lib.hid (HX6.out.below b7)
            clear b7 HS6 HLH6 HX6 hLy hby
            go_wp2_with fail
            refine (texts_any ya ha all all yc hc (by omega) w7 HY.out HLH7.out).mono ?_
            rintro e w8 ⟨rfl, b8⟩
            rw [show decide (all = all) = true by simp]
            have HS8 := Lib.hid (HS7.out.below b8)
            have HX8 := Lib.hid (HX7.out.below b8)
            clear b8 HS7 HLH7 HX7 HY
            go_wp2_with fail
            refine (sc_rewrite HS8.out HR.out (by omega) hu8 HU3.out HX8.out).mono ?_
            rintro e w9 ⟨rfl, hS9, K9⟩
            have HX9 := Lib.hid (HX8.out.kp HBX2.out K9)
            clear HS8 HX8 K9
            by_cases h384 : S ≤ 384
            · obtain ⟨s', j', hrw, hR'⟩ := rewrite_fits HR.out us (by rw [← HSS.out]; exact h384) HU3.out
              rw [hrw] at hS9 ⊢
              have HS9 := Lib.hid hS9
              have HR9 := Lib.hid hR'
              clear hS9 hR' hrw
              have f2 : (S : Int) ≤ 384 := by omega
              go_wp2_with fail
              refine (sc_room HS9.out HR9.out).mono ?_
              rintro e w10 ⟨rfl, b10⟩
              rw [← HSS.out, show ((384 - S : Nat) : Int) = 384 - (S : Int) by omega]
              have HS10 := Lib.hid (HS9.out.below b10)
              have HX10 := Lib.hid (HX9.out.below b10)
              clear b10 HS9 HX9
              go_wp2_with fail
              refine (sc_records HS10.out HR9.out).mono ?_
              rintro e w11 ⟨b11, za, zc, rfl, hLz, hbz⟩
              have HZ := Lib.hid hLz
              have HS11 := Lib.hid (HS10.out.below b11)
              have HX11 := Lib.hid (HX10.out.below b11)
              clear b11 HS10 HX10 hLz hbz
              go_wp2_with fail
              refine (texts_any za xa us us zc xc (by omega) w11 HZ.out HX11.out).mono ?_
              rintro e w12 ⟨rfl, b12⟩
              rw [show decide (us = us) = true by simp]
              have HS12 := Lib.hid (HS11.out.below b12)
              clear b12 HS11 HX11 HZ
              go_wp2_with fail
              go_roundw
              case rel => exact ⟨k + 1, us, s', j', by go_num, by omega, by omega, HS12.out.more (fun i e => by rw [e]; exact HS12.out.avJ) rfl, HR9.out.more (by omega)⟩
              case measure => simp [intOf]; omega
            · rw [rewrite_full HR.out us (by rw [← HSS.out]; omega)] at hS9 ⊢
              have HS9 := Lib.hid hS9
              clear hS9
              have f2 : ¬ (S : Int) ≤ 384 := by omega
              go_wp2_with fail
              go_roundw
              case rel => exact ⟨k + 1, all, s, j, by go_num, by omega, by omega, HS9.out.more (fun i e => by rw [e]; exact HS9.out.avJ) rfl, HR.out.more (by omega)⟩
              case measure => simp [intOf]; omega
    · by_cases hk : k < ls.length
      · have h1 : (k : Int) < ls.length := by omega
        have h2 : ¬ (k : Int) < 20 := by omega
        go_wp2_with fail
        refine (works5_any wr).mono ?_
        rintro e w' ⟨rfl, b⟩
        have HB := Lib.hid (HS.out.p.bel.trans (b.mono HS.out.p.bel.size))
        clear b HS
        go_wp2
        go_ret
        exact ⟨rfl, HB.out⟩
      · have h1 : ¬ (k : Int) < ls.length := by omega
        go_wp2_with fail
        refine (works5_any wr).mono ?_
        rintro e w' ⟨rfl, b⟩
        have HB := Lib.hid (HS.out.p.bel.trans (b.mono HS.out.p.bel.size))
        clear b HS
        go_wp2
        go_ret
        exact ⟨rfl, HB.out⟩
end Go.Proofs.Ytcgjkopdnhkdiaa
