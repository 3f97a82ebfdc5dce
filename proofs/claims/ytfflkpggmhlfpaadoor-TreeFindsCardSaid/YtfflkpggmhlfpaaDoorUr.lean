/- The document's Find. -/
import Derived.Test.YtfflkpggmhlfpaaDoorUe
import Derived.Test.YtfflkpggmhlfpaaDoorUb
namespace Go.Proofs.YtfflkpggmhlfpaaDoor
open Go.RowKit
set_option maxRecDepth 100000
theorem split_seg (s : List UInt8) (f k : Nat) (hf : f ≤ k) (hk : s[k]? = some 47) (h : 47 ∉ (s.drop f).take (k - f)) : splitL (s.drop f) = (s.drop f).take (k - f) :: splitL (s.drop (k + 1)) := by
  obtain ⟨hl, he⟩ := List.getElem?_eq_some_iff.mp hk
  have e : s.drop f = (s.drop f).take (k - f) ++ 47 :: s.drop (k + 1) := by
    conv => lhs; rw [← List.take_append_drop (k - f) (s.drop f)]
    rw [List.drop_drop, show f + (k - f) = k by omega, List.drop_eq_getElem_cons hl, he]
  conv => lhs; rw [e]
  rw [splitL_cat, splitL_none _ h]
  rfl
theorem split_end (s : List UInt8) (f : Nat) (h : 47 ∉ (s.drop f).take (s.length - f)) : splitL (s.drop f) = [(s.drop f).take (s.length - f)] := by
  have e : (s.drop f).take (s.length - f) = s.drop f := List.take_of_length_le (by rw [List.length_drop]; omega)
  rw [e] at h ⊢
  exact splitL_none _ h
theorem seg_more (s : List UInt8) (f k : Nat) (c : UInt8) (hf : f ≤ k) (hk : s[k]? = some c) (hc : c ≠ 47) (h : 47 ∉ (s.drop f).take (k - f)) : 47 ∉ (s.drop f).take (k + 1 - f) := by
  rw [show k + 1 - f = (k - f) + 1 by omega, List.take_add_one, List.getElem?_drop, show f + (k - f) = k by omega, hk]
  intro hm
  rcases List.mem_append.mp hm with hm | hm
  · exact h hm
  · rw [Option.toList_some, List.mem_singleton] at hm; exact hc hm.symm
/-- the first of these from j on, of those that have this name -/
def FirstAt (ks : List Nd) (x : List UInt8) (j : Nat) (at_ : Int) : Prop :=
  (at_ = -1 ∧ ∀ (i : Nat) (m : Nd), j ≤ i → ks[i]? = some m → m.name ≠ x) ∨ ∃ (i : Nat) (m : Nd), at_ = (i : Int) ∧ j ≤ i ∧ ks[i]? = some m ∧ m.name = x ∧ ∀ (i' : Nat) (m' : Nd), j ≤ i' → i' < i → ks[i']? = some m' → m'.name ≠ x
theorem FirstAt.none (ks : List Nd) (x : List UInt8) : FirstAt ks x ks.length (-1) := .inl ⟨rfl, fun i m hi hm => by have := (List.getElem?_eq_some_iff.1 hm).1; omega⟩
theorem FirstAt.hit {ks : List Nd} {x : List UInt8} {j : Nat} {m : Nd} (hm : ks[j]? = some m) (hx : m.name = x) : FirstAt ks x j (j : Int) := .inr ⟨j, m, rfl, Nat.le_refl _, hm, hx, fun i' m' h1 h2 => by omega⟩
theorem FirstAt.miss {ks : List Nd} {x : List UInt8} {j : Nat} {m : Nd} {a : Int} (h : FirstAt ks x (j + 1) a) (hm : ks[j]? = some m) (hx : m.name ≠ x) : FirstAt ks x j a := by
  rcases h with ⟨e, h⟩ | ⟨i, m2, e, h1, h2, h3, h4⟩
  · refine .inl ⟨e, fun i m' hi hm' => ?_⟩
    by_cases e2 : i = j
    · subst e2; rw [hm] at hm'; cases hm'; exact hx
    · exact h i m' (by omega) hm'
  · refine .inr ⟨i, m2, e, by omega, h2, h3, fun i' m' h5 h6 hm' => ?_⟩
    by_cases e2 : i' = j
    · subst e2; rw [hm] at hm'; cases hm'; exact hx
    · exact h4 i' m' (by omega) h6 hm'
theorem FirstAt.idx {ks : List Nd} {x : List UInt8} {a : Int} (h : FirstAt ks x 0 a) : a = idxL x ks := by
  rcases h with ⟨e, h⟩ | ⟨i, m, e, _, h2, h3, h4⟩
  · rw [e, idx_none x ks (fun m hm => by
      obtain ⟨i, hi, e⟩ := List.mem_iff_getElem.mp hm
      have := h i m (Nat.zero_le _) (by rw [← e]; exact List.getElem?_eq_getElem hi)
      simpa using this)]
  · rw [e, idx_at x ks i m h2 (by simpa using h3) (fun m' hm' => by
      obtain ⟨j, hj, e⟩ := List.mem_iff_getElem.mp hm'
      rw [List.length_take] at hj
      rw [List.getElem_take] at e
      have := h4 j m' (Nat.zero_le _) (by omega) (by rw [← e]; exact List.getElem?_eq_getElem (by omega))
      simpa using this)]
section
variable {o : Oper} {a : Act} {w : World}
theorem slice_op (p lo hi : Operand) (ho : o.op = .slice 9 p (some lo) (some hi) none) (s X : List UInt8) (f k : Nat) (hp : a.eval p = .string (bs s)) (hlo : a.eval lo = .int .i64 (f : Int)) (hhi : a.eval hi = .int .i64 (k : Int)) (h1 : f ≤ k) (h2 : k ≤ s.length) (hX : (bs s).extract f k = bs X) :
    (execOp a.eval o).run Tryd.prog w = .ok (.value (.string (bs X))) w := by
  have h := run_slice_string (P := Tryd.prog) w 9 (bs s) .i64 .i64 (f : Int) (k : Int) Tryd.underlying9 (by omega) (by omega) (by rw [bs_size]; omega)
  rw [Int.toNat_natCast, Int.toNat_natCast, hX] at h
  unfold execOp
  simp only [ho, hp, hlo, hhi, Option.map_some, Option.map_none]
  simp [go_sem, h]
theorem eql_str_op (x y : Operand) (ho : o.op = .binOp .eql 9 x y 9) (l r : List UInt8) (hx : a.eval x = .string (bs l)) (hy : a.eval y = .string (bs r)) : (execOp a.eval o).run Tryd.prog w = .ok (.value (.bool (l == r))) w := by
  unfold execOp
  simp only [ho, hx, hy]
  simp [go_sem]
end
set_option maxHeartbeats 8000000 in
theorem rfind_any (h : Nat) (n : Nd) (ao : Option Addr) (cap : Nat) (path : List UInt8) (w : World) (hH : Has any_ w h n ao) (hp : path.length ≤ 4000000000) :
    Calls Tryd.prog 9 #[n.v ao cap, .string (bs path)] w fun e w' => Below w.heap.size w w' ∧ ∃ a c, e = .returned (.tuple #[(gv (findL n path)).v a c, .bool (findL n path).isSome]) ∧ ((findL n path).isSome = true → ∃ h', Has any_ w' h' (gv (findL n path)) a) := by
  have HH := Lib.hid hH
  obtain ⟨R, hR⟩ : ∃ R, R = findL n path := ⟨_, rfl⟩
  rw [← hR]
  unfold findL at hR
  have HRR := Lib.hid hR
  clear hH hR
  go_enter Tryd.func9, Tryd.ntmps9
  by_cases h0 : path = []
  · subst h0
    go_wp2_with (first
      | (with_reducible refine box_any rfl 24 (.tmp 0) rfl (n.cells ao cap) rfl ?_; intro u hu bu zu; have HU := Lib.hid hu; have BU := Lib.hid bu; clear hu bu)
      | (with_reducible refine alloc_any rfl 24 rfl _ zero_nd ?_; intro u2 hr2 bu2 zu2; rw [zu] at hr2; have HR := Lib.hid hr2; have HU2 := Lib.hid (HU.out.below bu2 HU.out.lt); have BU2 := Lib.hid (BU.out.trans (bu2.mono (by omega))); clear bu2 hr2)
      | (refine load_any rfl 24 (.tmp 2) rfl ⟨w.heap.size, 0, none⟩ rfl (n.cells ao cap) _ (fun j v hj => by rw [Addr.add0]; exact HU2.out.cell j v hj) Tryd.underlying24 rfl info_nd ?_)
      | (refine store_any rfl 24 (.tmp 4) (.tmp 12) rfl (w.heap.size + 1) rfl (n.cells ao cap) rfl _ HR.out rfl info_nd (nd_one n ao cap) ?_; intro u9 hu9 tu9; have HU9 := Lib.hid hu9; have HT9 := Lib.hid tu9; clear hu9 tu9))
    (try simp only [Exit.inBlock, Exit.then])
    have hB := HT9.out.below BU2.out (by simp) (Nat.le_refl _)
    refine bodyPost_ret (v := .tuple #[n.v ao cap, .bool true]) ?_ rfl ⟨hB, ?_⟩
    · exact results_row_tmp (fn := Tryd.f9) (p := 4) (u := 5) (ty := 24) rfl _ _ (w.heap.size + 1) 24 _ (0, 0) _ rfl HU9.out Tryd.underlying24 rfl info_nd _ rfl
    · rw [HRR.out, if_pos (by trivial)]
      exact ⟨ao, ⟨cap, rfl⟩, fun _ => ⟨h, HH.out.below hB⟩⟩
  · have hs2 : (path == []) = false := by simpa using h0
    have hs3 : path.isEmpty = false := by simpa using h0
    have HR3 := Lib.hid (show R = walkL (splitL path) n by rw [HRR.out, if_neg h0])
    go_wp2_with (first
      | (with_reducible refine box_any rfl 24 (.tmp 0) rfl (n.cells ao cap) rfl ?_; intro u hu bu zu; have HU := Lib.hid hu; have BU := Lib.hid bu; clear hu bu)
      | (with_reducible refine alloc_any rfl 24 rfl _ zero_nd ?_; intro u2 hr2 bu2 zu2; rw [zu] at hr2; have HR := Lib.hid hr2; have HU2 := Lib.hid (HU.out.below bu2 HU.out.lt); have BU2 := Lib.hid (BU.out.trans (bu2.mono (by omega))); clear bu2 hr2))
    go_loopw [6, 7] (fun fv iv wx => ∃ (k f : Nat) (M : Nd) (aM : Option Addr) (cM hM : Nat), fv = .int .i64 f ∧ iv = .int .i64 k ∧ f ≤ k ∧ k ≤ path.length + 1 ∧ 47 ∉ (path.drop f).take (k - f) ∧ ((k ≤ path.length ∧ R = walkL (splitL (path.drop f)) M) ∨ (k = path.length + 1 ∧ R = some M)) ∧ Has any_ w hM M aM ∧ At wx w.heap.size 24 (M.cells aM cM) ∧ At wx (w.heap.size + 1) 24 zeroC ∧ Below w.heap.size w wx) (fun _ iv _ => path.length + 1 - (intOf iv).toNat)
    case atStart => exact ⟨0, 0, n, ao, cap, h, rfl, rfl, Nat.le_refl _, Nat.zero_le _, by simp, .inl ⟨Nat.zero_le _, by rw [HR3.out, List.drop_zero]⟩, HH.out, HU2.out, HR.out, BU2.out⟩
    clear HU HU2 HR BU BU2
    case round =>
      obtain ⟨k, f, M, aM, cM, hM, rfl, rfl, hfk, hkl, hseg, hcase, hHM, hA, hZ, hB⟩ := hrel
      have HM := Lib.hid hHM
      have HA := Lib.hid hA
      have HZ := Lib.hid hZ
      have HB := Lib.hid hB
      have HSEG := Lib.hid hseg
      clear hHM hA hZ hB hseg
      rcases hcase with ⟨hk, hRw⟩ | ⟨hk, hRs⟩
      · have hk' : (k : Int) ≤ path.length := by omega
        by_cases hend : k = path.length
        · have hnl : ¬ (k : Int) < path.length := by omega
          have hex : (bs path).extract f k = bs ((path.drop f).take (k - f)) := ByteArray.extract_mk path f k
          have hsp : splitL (path.drop f) = [(path.drop f).take (k - f)] := by have h := HSEG.out; rw [hend] at h ⊢; exact split_end path f h
          have HEND := Lib.hid hend
          clear hend
          obtain ⟨X, hX⟩ : ∃ X, X = (path.drop f).take (k - f) := ⟨_, rfl⟩
          have hXe : X = [] ↔ f = k := by
            rw [hX, ← List.length_eq_zero_iff, List.length_take, List.length_drop]; omega
          rw [← hX] at hex hsp
          have hRX : R = walkL (X :: []) M := by rw [hRw, hsp]
          obtain ⟨ks, hks⟩ : ∃ ks, ks = M.kids := ⟨_, rfl⟩
          have hL : ks.length ≤ 9223372036854775807 := by
            cases hM with
            | zero => exact HM.out.elim
            | succ q => have := HM.out.1; unfold maxLen at this; rw [hks]; omega
          have c4 := HA.out.cell 4 _ rfl
          rw [← hks] at c4
          have HRX := Lib.hid hRX
          have HXE := Lib.hid hXe
          have HKS := Lib.hid hks
          have hfk' : (f : Int) ≤ (k : Int) := by omega
          clear hRX hXe hks hsp hRw hX
          go_wp2_with fail
          go_loopw [8, 9] (fun atv kv wx => ∃ (j : Nat) (at_ : Int), j ≤ ks.length ∧ kv = .int .i64 ((j : Int) - 1) ∧ atv = .int .i64 at_ ∧ FirstAt ks X j at_ ∧ (M.kind ≠ 2 → j = ks.length) ∧ At wx w.heap.size 24 (M.cells aM cM) ∧ At wx (w.heap.size + 1) 24 zeroC ∧ Below w.heap.size w wx) (fun _ kv _ => (intOf kv + 1).toNat)
          case atStart => exact ⟨ks.length, -1, Nat.le_refl _, rfl, rfl, FirstAt.none ks X, fun _ => rfl, HA.out, HZ.out, HB.out⟩
          clear HA HZ HB c4
          case round =>
            obtain ⟨j, at_, hj, rfl, rfl, hF, hkd, hA2, hZ2, hB2⟩ := hrel
            have c1 := hA2.cell 1 _ rfl
            have c4 := hA2.cell 4 _ rfl
            rw [← HKS.out] at c4
            have HF := Lib.hid hF
            have HA2 := Lib.hid hA2
            have HZ2 := Lib.hid hZ2
            have HB2 := Lib.hid hB2
            clear hF hA2 hZ2 hB2
            by_cases hkind : M.kind = 2
            case neg =>
              have hjL := hkd hkind
              have hat : at_ = -1 := by
                have h := HF.out
                rw [hjL] at h
                rcases h with ⟨e, _⟩ | ⟨i, m, _, h1, h2, _, _⟩
                · exact e
                · have := (List.getElem?_eq_some_iff.1 h2).1; omega
              have hk2 : (M.kind == 2) = false := by simpa using hkind
              have hix : indexL M X < 0 := by unfold indexL; rw [if_pos (.inl hkind)]; decide
              have HIX := Lib.hid hix
              subst hat
              clear hkd hkind hjL hix
              by_cases hj0 : (0 : Int) ≤ (j : Int) - 1
              · skip
                go_wp2_with (first
                  | (with_reducible refine list_val rfl (build_zero rfl) ?_)
                  | (refine store_any rfl 24 (.tmp 4) (.tmp 61) rfl (w.heap.size + 1) rfl zeroC rfl _ HZ2.out rfl info_nd (nd_one zeroN none 0) ?_; intro u9 hu9 tu9; have HU9 := Lib.hid hu9; have HT9 := Lib.hid tu9; clear hu9 tu9))
                (try simp only [Exit.inBlock, Exit.then])
                have hB := HT9.out.below HB2.out (by simp) (Nat.le_refl _)
                have hRn : R = none := by rw [HRX.out, show walkL (X :: _) M = none from by unfold walkL; rw [if_pos HIX.out]]
                refine bodyPost_ret (v := .tuple #[.agg zeroC.toArray, .bool false]) ?_ rfl ⟨hB, ?_⟩
                · exact results_row_tmp (fn := Tryd.f9) (p := 4) (u := 5) (ty := 24) rfl _ _ (w.heap.size + 1) 24 _ (0, 0) _ rfl HU9.out Tryd.underlying24 rfl info_nd _ rfl
                · rw [hRn]
                  first | exact ⟨none, 0, rfl, fun h => by cases h⟩ | exact ⟨none, ⟨0, rfl⟩, fun h => by cases h⟩
              · skip
                go_wp2_with (first
                  | (with_reducible refine list_val rfl (build_zero rfl) ?_)
                  | (refine store_any rfl 24 (.tmp 4) (.tmp 61) rfl (w.heap.size + 1) rfl zeroC rfl _ HZ2.out rfl info_nd (nd_one zeroN none 0) ?_; intro u9 hu9 tu9; have HU9 := Lib.hid hu9; have HT9 := Lib.hid tu9; clear hu9 tu9))
                (try simp only [Exit.inBlock, Exit.then])
                have hB := HT9.out.below HB2.out (by simp) (Nat.le_refl _)
                have hRn : R = none := by rw [HRX.out, show walkL (X :: _) M = none from by unfold walkL; rw [if_pos HIX.out]]
                refine bodyPost_ret (v := .tuple #[.agg zeroC.toArray, .bool false]) ?_ rfl ⟨hB, ?_⟩
                · exact results_row_tmp (fn := Tryd.f9) (p := 4) (u := 5) (ty := 24) rfl _ _ (w.heap.size + 1) 24 _ (0, 0) _ rfl HU9.out Tryd.underlying24 rfl info_nd _ rfl
                · rw [hRn]
                  first | exact ⟨none, 0, rfl, fun h => by cases h⟩ | exact ⟨none, ⟨0, rfl⟩, fun h => by cases h⟩
            rw [hkind] at c1
            cases j with
            | succ q =>
              have hq1 : ((q + 1 : Nat) : Int) - 1 = (q : Int) := by omega
              rw [hq1]
              have hq0 : (0 : Int) ≤ (q : Int) := by omega
              have hql : (q : Int) < (ks.length : Int) := by omega
              obtain ⟨m, hm⟩ : ∃ m, ks[q]? = some m := ⟨_, List.getElem?_eq_getElem (by omega)⟩
              cases hM with
              | zero => exact HM.out.elim
              | succ h2 =>
              obtain ⟨x, g, c, rfl, _, hK, hH2⟩ := HM.out.2 q m (by rw [← HKS.out]; exact hm)
              have hK2 := hK.kept (HB2.out.block x.block hK.lt)
              have HK3 := Lib.hid hK
              have HMM := Lib.hid hm
              clear hK hK2 hH2 hm
              by_cases hx : m.name = X
              · have hx2 : (m.name == X) = true := by simpa using hx
                go_wp2_with fail
                have S0 : (fun W => At W w.heap.size 24 (M.cells (some x) cM) ∧ At W (w.heap.size + 1) 24 zeroC ∧ Below w.heap.size w W) wr.drew := ⟨HA2.out.drew, HZ2.out.drew, HB2.out.drew⟩
                refine region_any (fun W => At W w.heap.size 24 (M.cells (some x) cM) ∧ At W (w.heap.size + 1) 24 zeroC ∧ Below w.heap.size w W) 11 (by kernel_rfl) ?_
                refine wpAnyT_takeN (i := 0) (v := .pointer (some ⟨w.heap.size, 4, none⟩)) rfl (by decide) (by kernel_rfl) (by kernel_rfl) (by kernel_rfl) (fun _ _ _ h => h) (.inl ⟨by kernel_rfl, fun W hS => by kernel_rfl⟩) S0 ?_
                refine wpAnyT_takeN (i := 1) (v := .slice (some x) ks.length cM) rfl (by decide) (by kernel_rfl) (by kernel_rfl) (by kernel_rfl) (fun _ _ _ h => h) (.inl ⟨by kernel_rfl, fun W hS => run_load_one 22 (.tmp 42) rfl ⟨w.heap.size, 4, none⟩ (by kernel_rfl) _ (by rw [HKS.out]; exact hS.1.cell 4 _ rfl) _ Tryd.underlying22 rfl⟩) S0 ?_
                refine wpAnyT_takeN (i := 2) (v := .int .i64 (q : Int)) rfl (by decide) (by kernel_rfl) (by kernel_rfl) (by kernel_rfl) (fun _ _ _ h => h) (.inl ⟨by kernel_rfl, fun W hS => by kernel_rfl⟩) S0 ?_
                refine wpAnyT_takeN (i := 3) (v := .pointer (some (x.add (q * 5)))) rfl (by decide) (by kernel_rfl) (by kernel_rfl) (by kernel_rfl) (fun _ _ _ h => h) (.inl ⟨by kernel_rfl, fun W hS => run_index_op 22 24 (.tmp 43) (.tmp 44) rfl x ks.length cM q (by kernel_rfl) (by kernel_rfl) (by omega) 5 _ rfl Tryd.underlying22 info_nd⟩) S0 ?_
                refine wpAnyT_takeN (i := 4) (v := .pointer (some ((x.add (q * 5)).add 0))) rfl (by decide) (by kernel_rfl) (by kernel_rfl) (by kernel_rfl) (fun _ _ _ h => h) (.inl ⟨by kernel_rfl, fun W hS => by kernel_rfl⟩) S0 ?_
                refine wpAnyT_takeN (i := 5) (v := .string (bs m.name)) rfl (by decide) (by kernel_rfl) (by kernel_rfl) (by kernel_rfl) (fun _ _ _ h => h) (.inl ⟨by kernel_rfl, fun W hS => run_load_one 9 (.tmp 46) rfl ((x.add (q * 5)).add 0) (by kernel_rfl) _ ((HK3.out.kept (hS.2.2.block x.block HK3.out.lt)) 0 _ rfl) _ Tryd.underlying9 rfl⟩) S0 ?_
                refine wpAnyT_takeN (i := 6) (v := .string (bs path)) rfl (by decide) (by kernel_rfl) (by kernel_rfl) (by kernel_rfl) (fun _ _ _ h => h) (.inl ⟨by kernel_rfl, fun W hS => by kernel_rfl⟩) S0 ?_
                refine wpAnyT_takeN (i := 7) (v := .int .i64 (f : Int)) rfl (by decide) (by kernel_rfl) (by kernel_rfl) (by kernel_rfl) (fun _ _ _ h => h) (.inl ⟨by kernel_rfl, fun W hS => by kernel_rfl⟩) S0 ?_
                refine wpAnyT_takeN (i := 8) (v := .int .i64 (k : Int)) rfl (by decide) (by kernel_rfl) (by kernel_rfl) (by kernel_rfl) (fun _ _ _ h => h) (.inl ⟨by kernel_rfl, fun W hS => by kernel_rfl⟩) S0 ?_
                refine wpAnyT_takeN (i := 9) (v := .string (bs X)) rfl (by decide) (by kernel_rfl) (by kernel_rfl) (by kernel_rfl) (fun _ _ _ h => h) (.inl ⟨by kernel_rfl, fun W hS => slice_op (.tmp 48) (.tmp 49) (.tmp 50) rfl path X f k (by kernel_rfl) (by kernel_rfl) (by kernel_rfl) hfk hk hex⟩) S0 ?_
                refine wpAnyT_takeN (i := 10) (v := .bool (m.name == X)) rfl (by decide) (by kernel_rfl) (by kernel_rfl) (by kernel_rfl) (fun _ _ _ h => h) (.inl ⟨by kernel_rfl, fun W hS => eql_str_op (.tmp 47) (.tmp 51) rfl m.name X (by kernel_rfl) (by kernel_rfl)⟩) S0 ?_
                refine wpAnyT_done (by kernel_rfl) ?_ _
                simp only [Act.put, List.getElem_toArray, List.getElem_cons_succ, List.getElem_cons_zero, List.setIfInBounds_toArray, List.set_cons_zero, List.set_cons_succ]
                rw [hx2]
                go_wp2_with fail
                go_roundw
                case rel => exact ⟨q, (q : Int), by omega, by go_num, rfl, FirstAt.hit HMM.out hx, fun h => absurd hkind h, HA2.out.drew, HZ2.out.drew, HB2.out.drew⟩
                case measure => first | (simp [intOf]; done) | (simp [intOf]; omega)
              · have hx2 : (m.name == X) = false := by simpa using hx
                go_wp2_with fail
                have S0 : (fun W => At W w.heap.size 24 (M.cells (some x) cM) ∧ At W (w.heap.size + 1) 24 zeroC ∧ Below w.heap.size w W) wr.drew := ⟨HA2.out.drew, HZ2.out.drew, HB2.out.drew⟩
                refine region_any (fun W => At W w.heap.size 24 (M.cells (some x) cM) ∧ At W (w.heap.size + 1) 24 zeroC ∧ Below w.heap.size w W) 11 (by kernel_rfl) ?_
                refine wpAnyT_takeN (i := 0) (v := .pointer (some ⟨w.heap.size, 4, none⟩)) rfl (by decide) (by kernel_rfl) (by kernel_rfl) (by kernel_rfl) (fun _ _ _ h => h) (.inl ⟨by kernel_rfl, fun W hS => by kernel_rfl⟩) S0 ?_
                refine wpAnyT_takeN (i := 1) (v := .slice (some x) ks.length cM) rfl (by decide) (by kernel_rfl) (by kernel_rfl) (by kernel_rfl) (fun _ _ _ h => h) (.inl ⟨by kernel_rfl, fun W hS => run_load_one 22 (.tmp 42) rfl ⟨w.heap.size, 4, none⟩ (by kernel_rfl) _ (by rw [HKS.out]; exact hS.1.cell 4 _ rfl) _ Tryd.underlying22 rfl⟩) S0 ?_
                refine wpAnyT_takeN (i := 2) (v := .int .i64 (q : Int)) rfl (by decide) (by kernel_rfl) (by kernel_rfl) (by kernel_rfl) (fun _ _ _ h => h) (.inl ⟨by kernel_rfl, fun W hS => by kernel_rfl⟩) S0 ?_
                refine wpAnyT_takeN (i := 3) (v := .pointer (some (x.add (q * 5)))) rfl (by decide) (by kernel_rfl) (by kernel_rfl) (by kernel_rfl) (fun _ _ _ h => h) (.inl ⟨by kernel_rfl, fun W hS => run_index_op 22 24 (.tmp 43) (.tmp 44) rfl x ks.length cM q (by kernel_rfl) (by kernel_rfl) (by omega) 5 _ rfl Tryd.underlying22 info_nd⟩) S0 ?_
                refine wpAnyT_takeN (i := 4) (v := .pointer (some ((x.add (q * 5)).add 0))) rfl (by decide) (by kernel_rfl) (by kernel_rfl) (by kernel_rfl) (fun _ _ _ h => h) (.inl ⟨by kernel_rfl, fun W hS => by kernel_rfl⟩) S0 ?_
                refine wpAnyT_takeN (i := 5) (v := .string (bs m.name)) rfl (by decide) (by kernel_rfl) (by kernel_rfl) (by kernel_rfl) (fun _ _ _ h => h) (.inl ⟨by kernel_rfl, fun W hS => run_load_one 9 (.tmp 46) rfl ((x.add (q * 5)).add 0) (by kernel_rfl) _ ((HK3.out.kept (hS.2.2.block x.block HK3.out.lt)) 0 _ rfl) _ Tryd.underlying9 rfl⟩) S0 ?_
                refine wpAnyT_takeN (i := 6) (v := .string (bs path)) rfl (by decide) (by kernel_rfl) (by kernel_rfl) (by kernel_rfl) (fun _ _ _ h => h) (.inl ⟨by kernel_rfl, fun W hS => by kernel_rfl⟩) S0 ?_
                refine wpAnyT_takeN (i := 7) (v := .int .i64 (f : Int)) rfl (by decide) (by kernel_rfl) (by kernel_rfl) (by kernel_rfl) (fun _ _ _ h => h) (.inl ⟨by kernel_rfl, fun W hS => by kernel_rfl⟩) S0 ?_
                refine wpAnyT_takeN (i := 8) (v := .int .i64 (k : Int)) rfl (by decide) (by kernel_rfl) (by kernel_rfl) (by kernel_rfl) (fun _ _ _ h => h) (.inl ⟨by kernel_rfl, fun W hS => by kernel_rfl⟩) S0 ?_
                refine wpAnyT_takeN (i := 9) (v := .string (bs X)) rfl (by decide) (by kernel_rfl) (by kernel_rfl) (by kernel_rfl) (fun _ _ _ h => h) (.inl ⟨by kernel_rfl, fun W hS => slice_op (.tmp 48) (.tmp 49) (.tmp 50) rfl path X f k (by kernel_rfl) (by kernel_rfl) (by kernel_rfl) hfk hk hex⟩) S0 ?_
                refine wpAnyT_takeN (i := 10) (v := .bool (m.name == X)) rfl (by decide) (by kernel_rfl) (by kernel_rfl) (by kernel_rfl) (fun _ _ _ h => h) (.inl ⟨by kernel_rfl, fun W hS => eql_str_op (.tmp 47) (.tmp 51) rfl m.name X (by kernel_rfl) (by kernel_rfl)⟩) S0 ?_
                refine wpAnyT_done (by kernel_rfl) ?_ _
                simp only [Act.put, List.getElem_toArray, List.getElem_cons_succ, List.getElem_cons_zero, List.setIfInBounds_toArray, List.set_cons_zero, List.set_cons_succ]
                rw [hx2]
                go_wp2_with fail
                go_roundw
                case rel => exact ⟨q, at_, by omega, by go_num, rfl, FirstAt.miss HF.out HMM.out hx, fun h => absurd hkind h, HA2.out.drew, HZ2.out.drew, HB2.out.drew⟩
                case measure => first | (simp [intOf]; done) | (simp [intOf]; omega)
            | zero =>
              have hidx := HF.out.idx
              have hm1 : ¬ ((0 : Int) ≤ ((0 : Nat) : Int) - 1) := by omega
              by_cases hneg : at_ < 0
              · have hix : indexL M X < 0 := by
                  unfold indexL
                  split
                  · decide
                  · rw [← HKS.out, ← hidx]; exact hneg
                have HIX := Lib.hid hix
                clear hix hidx
                go_wp2_with (first
                  | (with_reducible refine list_val rfl (build_zero rfl) ?_)
                  | (refine store_any rfl 24 (.tmp 4) (.tmp 61) rfl (w.heap.size + 1) rfl zeroC rfl _ HZ2.out rfl info_nd (nd_one zeroN none 0) ?_; intro u9 hu9 tu9; have HU9 := Lib.hid hu9; have HT9 := Lib.hid tu9; clear hu9 tu9))
                (try simp only [Exit.inBlock, Exit.then])
                have hB := HT9.out.below HB2.out (by simp) (Nat.le_refl _)
                have hRn : R = none := by rw [HRX.out, show walkL (X :: _) M = none from by unfold walkL; rw [if_pos HIX.out]]
                refine bodyPost_ret (v := .tuple #[.agg zeroC.toArray, .bool false]) ?_ rfl ⟨hB, ?_⟩
                · exact results_row_tmp (fn := Tryd.f9) (p := 4) (u := 5) (ty := 24) rfl _ _ (w.heap.size + 1) 24 _ (0, 0) _ rfl HU9.out Tryd.underlying24 rfl info_nd _ rfl
                · rw [hRn]
                  first | exact ⟨none, 0, rfl, fun h => by cases h⟩ | exact ⟨none, ⟨0, rfl⟩, fun h => by cases h⟩
              by_cases hfe : f = k
              · have hix : indexL M X < 0 := by unfold indexL; rw [if_pos (.inr (HXE.out.mpr hfe))]; decide
                have HIX := Lib.hid hix
                have hfe2 : ((f : Int) == (k : Int)) = true := by simp [hfe]
                clear hix hidx
                go_wp2_with (first
                  | (with_reducible refine list_val rfl (build_zero rfl) ?_)
                  | (refine store_any rfl 24 (.tmp 4) (.tmp 61) rfl (w.heap.size + 1) rfl zeroC rfl _ HZ2.out rfl info_nd (nd_one zeroN none 0) ?_; intro u9 hu9 tu9; have HU9 := Lib.hid hu9; have HT9 := Lib.hid tu9; clear hu9 tu9))
                (try simp only [Exit.inBlock, Exit.then])
                have hB := HT9.out.below HB2.out (by simp) (Nat.le_refl _)
                have hRn : R = none := by rw [HRX.out, show walkL (X :: _) M = none from by unfold walkL; rw [if_pos HIX.out]]
                refine bodyPost_ret (v := .tuple #[.agg zeroC.toArray, .bool false]) ?_ rfl ⟨hB, ?_⟩
                · exact results_row_tmp (fn := Tryd.f9) (p := 4) (u := 5) (ty := 24) rfl _ _ (w.heap.size + 1) 24 _ (0, 0) _ rfl HU9.out Tryd.underlying24 rfl info_nd _ rfl
                · rw [hRn]
                  first | exact ⟨none, 0, rfl, fun h => by cases h⟩ | exact ⟨none, ⟨0, rfl⟩, fun h => by cases h⟩
              have hfe2 : ((f : Int) == (k : Int)) = false := by simp; omega
              have hix : indexL M X = at_ := by unfold indexL; rw [if_neg (by rintro (h | h); exact h hkind; exact hfe (HXE.out.mp h)), ← HKS.out]; exact hidx.symm
              obtain ⟨i, rfl⟩ : ∃ i : Nat, at_ = (i : Int) := ⟨at_.toNat, by omega⟩
              have hil : i < ks.length := by
                rcases HF.out with ⟨e, _⟩ | ⟨i2, m2, e, _, h2, _, _⟩
                · omega
                · have := (List.getElem?_eq_some_iff.1 h2).1; omega
              have hil' : (i : Int) < (ks.length : Int) := by omega
              obtain ⟨m, hm⟩ : ∃ m, ks[i]? = some m := ⟨_, List.getElem?_eq_getElem hil⟩
              have hRm : R = walkL ([]) m := by
                rw [HRX.out]
                conv => lhs; unfold walkL
                rw [hix, if_neg (by omega), Int.toNat_natCast, ← HKS.out, hm]
              cases hM with
              | zero => exact HM.out.elim
              | succ h2 =>
              obtain ⟨x, g, c, rfl, _, hK, hH2⟩ := HM.out.2 i m (by rw [← HKS.out]; exact hm)
              have HK2 := Lib.hid (hK.kept (HB2.out.block x.block hK.lt))
              have HH2 := Lib.hid hH2
              have HRM := Lib.hid hRm
              clear hK hH2 hm hRm hix hidx hfe
              go_wp2_with (first
                | (refine load_any rfl 24 (.tmp 65) rfl (x.add (i * 5)) rfl (m.cells g c) _ (fun j v hj => HK2.out j v hj) Tryd.underlying24 rfl info_nd ?_)
                | (refine store_any rfl 24 (.tmp 2) (.tmp 66) rfl w.heap.size rfl (m.cells g c) rfl _ HA2.out rfl info_nd (nd_one m g c) ?_; intro u9 hu9 tu9; have HU9 := Lib.hid hu9; have HT9 := Lib.hid tu9; clear hu9 tu9))
              go_roundw
              case rel => exact ⟨k + 1, k + 1, m, g, c, h2, by go_num, by go_num, Nat.le_refl _, by omega, by simp, .inr ⟨by have := HEND.out; omega, by rw [HRM.out]; rfl⟩, HH2.out, HU9.out, HZ2.out.touch HT9.out (by simp), HT9.out.below HB2.out (by simp) (Nat.le_refl _)⟩
              case measure => first | (simp [intOf]; done) | (simp [intOf]; omega)
        · have hlt : k < path.length := by omega
          have hlt' : (k : Int) < path.length := by omega
          obtain ⟨c, hc⟩ : ∃ c, path[k]? = some c := ⟨_, List.getElem?_eq_getElem hlt⟩
          have hget : ∀ h, (bs path)[k]'h = c := fun h => by
            obtain ⟨_, e⟩ := List.getElem?_eq_some_iff.mp hc
            exact e
          by_cases hc47 : c = 47
          · subst hc47
            have hex : (bs path).extract f k = bs ((path.drop f).take (k - f)) := ByteArray.extract_mk path f k
            have hsp : splitL (path.drop f) = (path.drop f).take (k - f) :: splitL (path.drop (k + 1)) := split_seg path f k hfk hc HSEG.out
            obtain ⟨X, hX⟩ : ∃ X, X = (path.drop f).take (k - f) := ⟨_, rfl⟩
            have hXe : X = [] ↔ f = k := by
              rw [hX, ← List.length_eq_zero_iff, List.length_take, List.length_drop]; omega
            rw [← hX] at hex hsp
            have hRX : R = walkL (X :: splitL (path.drop (k + 1))) M := by rw [hRw, hsp]
            obtain ⟨ks, hks⟩ : ∃ ks, ks = M.kids := ⟨_, rfl⟩
            have hL : ks.length ≤ 9223372036854775807 := by
              cases hM with
              | zero => exact HM.out.elim
              | succ q => have := HM.out.1; unfold maxLen at this; rw [hks]; omega
            have c4 := HA.out.cell 4 _ rfl
            rw [← hks] at c4
            have HRX := Lib.hid hRX
            have HXE := Lib.hid hXe
            have HKS := Lib.hid hks
            have hfk' : (f : Int) ≤ (k : Int) := by omega
            clear hRX hXe hks hsp hRw hX hc
            go_wp2_with fail
            go_loopw [8, 9] (fun atv kv wx => ∃ (j : Nat) (at_ : Int), j ≤ ks.length ∧ kv = .int .i64 ((j : Int) - 1) ∧ atv = .int .i64 at_ ∧ FirstAt ks X j at_ ∧ (M.kind ≠ 2 → j = ks.length) ∧ At wx w.heap.size 24 (M.cells aM cM) ∧ At wx (w.heap.size + 1) 24 zeroC ∧ Below w.heap.size w wx) (fun _ kv _ => (intOf kv + 1).toNat)
            case atStart => exact ⟨ks.length, -1, Nat.le_refl _, rfl, rfl, FirstAt.none ks X, fun _ => rfl, HA.out, HZ.out, HB.out⟩
            clear HA HZ HB c4
            case round =>
              obtain ⟨j, at_, hj, rfl, rfl, hF, hkd, hA2, hZ2, hB2⟩ := hrel
              have c1 := hA2.cell 1 _ rfl
              have c4 := hA2.cell 4 _ rfl
              rw [← HKS.out] at c4
              have HF := Lib.hid hF
              have HA2 := Lib.hid hA2
              have HZ2 := Lib.hid hZ2
              have HB2 := Lib.hid hB2
              clear hF hA2 hZ2 hB2
              by_cases hkind : M.kind = 2
              case neg =>
                have hjL := hkd hkind
                have hat : at_ = -1 := by
                  have h := HF.out
                  rw [hjL] at h
                  rcases h with ⟨e, _⟩ | ⟨i, m, _, h1, h2, _, _⟩
                  · exact e
                  · have := (List.getElem?_eq_some_iff.1 h2).1; omega
                have hk2 : (M.kind == 2) = false := by simpa using hkind
                have hix : indexL M X < 0 := by unfold indexL; rw [if_pos (.inl hkind)]; decide
                have HIX := Lib.hid hix
                subst hat
                clear hkd hkind hjL hix
                by_cases hj0 : (0 : Int) ≤ (j : Int) - 1
                · skip
                  go_wp2_with (first
                    | (with_reducible refine list_val rfl (build_zero rfl) ?_)
                    | (refine store_any rfl 24 (.tmp 4) (.tmp 61) rfl (w.heap.size + 1) rfl zeroC rfl _ HZ2.out rfl info_nd (nd_one zeroN none 0) ?_; intro u9 hu9 tu9; have HU9 := Lib.hid hu9; have HT9 := Lib.hid tu9; clear hu9 tu9))
                  (try simp only [Exit.inBlock, Exit.then])
                  have hB := HT9.out.below HB2.out (by simp) (Nat.le_refl _)
                  have hRn : R = none := by rw [HRX.out, show walkL (X :: _) M = none from by unfold walkL; rw [if_pos HIX.out]]
                  refine bodyPost_ret (v := .tuple #[.agg zeroC.toArray, .bool false]) ?_ rfl ⟨hB, ?_⟩
                  · exact results_row_tmp (fn := Tryd.f9) (p := 4) (u := 5) (ty := 24) rfl _ _ (w.heap.size + 1) 24 _ (0, 0) _ rfl HU9.out Tryd.underlying24 rfl info_nd _ rfl
                  · rw [hRn]
                    first | exact ⟨none, 0, rfl, fun h => by cases h⟩ | exact ⟨none, ⟨0, rfl⟩, fun h => by cases h⟩
                · skip
                  go_wp2_with (first
                    | (with_reducible refine list_val rfl (build_zero rfl) ?_)
                    | (refine store_any rfl 24 (.tmp 4) (.tmp 61) rfl (w.heap.size + 1) rfl zeroC rfl _ HZ2.out rfl info_nd (nd_one zeroN none 0) ?_; intro u9 hu9 tu9; have HU9 := Lib.hid hu9; have HT9 := Lib.hid tu9; clear hu9 tu9))
                  (try simp only [Exit.inBlock, Exit.then])
                  have hB := HT9.out.below HB2.out (by simp) (Nat.le_refl _)
                  have hRn : R = none := by rw [HRX.out, show walkL (X :: _) M = none from by unfold walkL; rw [if_pos HIX.out]]
                  refine bodyPost_ret (v := .tuple #[.agg zeroC.toArray, .bool false]) ?_ rfl ⟨hB, ?_⟩
                  · exact results_row_tmp (fn := Tryd.f9) (p := 4) (u := 5) (ty := 24) rfl _ _ (w.heap.size + 1) 24 _ (0, 0) _ rfl HU9.out Tryd.underlying24 rfl info_nd _ rfl
                  · rw [hRn]
                    first | exact ⟨none, 0, rfl, fun h => by cases h⟩ | exact ⟨none, ⟨0, rfl⟩, fun h => by cases h⟩
              rw [hkind] at c1
              cases j with
              | succ q =>
                have hq1 : ((q + 1 : Nat) : Int) - 1 = (q : Int) := by omega
                rw [hq1]
                have hq0 : (0 : Int) ≤ (q : Int) := by omega
                have hql : (q : Int) < (ks.length : Int) := by omega
                obtain ⟨m, hm⟩ : ∃ m, ks[q]? = some m := ⟨_, List.getElem?_eq_getElem (by omega)⟩
                cases hM with
                | zero => exact HM.out.elim
                | succ h2 =>
                obtain ⟨x, g, c, rfl, _, hK, hH2⟩ := HM.out.2 q m (by rw [← HKS.out]; exact hm)
                have hK2 := hK.kept (HB2.out.block x.block hK.lt)
                have HK3 := Lib.hid hK
                have HMM := Lib.hid hm
                clear hK hK2 hH2 hm
                by_cases hx : m.name = X
                · have hx2 : (m.name == X) = true := by simpa using hx
                  go_wp2_with fail
                  have S0 : (fun W => At W w.heap.size 24 (M.cells (some x) cM) ∧ At W (w.heap.size + 1) 24 zeroC ∧ Below w.heap.size w W) wr.drew := ⟨HA2.out.drew, HZ2.out.drew, HB2.out.drew⟩
                  refine region_any (fun W => At W w.heap.size 24 (M.cells (some x) cM) ∧ At W (w.heap.size + 1) 24 zeroC ∧ Below w.heap.size w W) 11 (by kernel_rfl) ?_
                  refine wpAnyT_takeN (i := 0) (v := .pointer (some ⟨w.heap.size, 4, none⟩)) rfl (by decide) (by kernel_rfl) (by kernel_rfl) (by kernel_rfl) (fun _ _ _ h => h) (.inl ⟨by kernel_rfl, fun W hS => by kernel_rfl⟩) S0 ?_
                  refine wpAnyT_takeN (i := 1) (v := .slice (some x) ks.length cM) rfl (by decide) (by kernel_rfl) (by kernel_rfl) (by kernel_rfl) (fun _ _ _ h => h) (.inl ⟨by kernel_rfl, fun W hS => run_load_one 22 (.tmp 42) rfl ⟨w.heap.size, 4, none⟩ (by kernel_rfl) _ (by rw [HKS.out]; exact hS.1.cell 4 _ rfl) _ Tryd.underlying22 rfl⟩) S0 ?_
                  refine wpAnyT_takeN (i := 2) (v := .int .i64 (q : Int)) rfl (by decide) (by kernel_rfl) (by kernel_rfl) (by kernel_rfl) (fun _ _ _ h => h) (.inl ⟨by kernel_rfl, fun W hS => by kernel_rfl⟩) S0 ?_
                  refine wpAnyT_takeN (i := 3) (v := .pointer (some (x.add (q * 5)))) rfl (by decide) (by kernel_rfl) (by kernel_rfl) (by kernel_rfl) (fun _ _ _ h => h) (.inl ⟨by kernel_rfl, fun W hS => run_index_op 22 24 (.tmp 43) (.tmp 44) rfl x ks.length cM q (by kernel_rfl) (by kernel_rfl) (by omega) 5 _ rfl Tryd.underlying22 info_nd⟩) S0 ?_
                  refine wpAnyT_takeN (i := 4) (v := .pointer (some ((x.add (q * 5)).add 0))) rfl (by decide) (by kernel_rfl) (by kernel_rfl) (by kernel_rfl) (fun _ _ _ h => h) (.inl ⟨by kernel_rfl, fun W hS => by kernel_rfl⟩) S0 ?_
                  refine wpAnyT_takeN (i := 5) (v := .string (bs m.name)) rfl (by decide) (by kernel_rfl) (by kernel_rfl) (by kernel_rfl) (fun _ _ _ h => h) (.inl ⟨by kernel_rfl, fun W hS => run_load_one 9 (.tmp 46) rfl ((x.add (q * 5)).add 0) (by kernel_rfl) _ ((HK3.out.kept (hS.2.2.block x.block HK3.out.lt)) 0 _ rfl) _ Tryd.underlying9 rfl⟩) S0 ?_
                  refine wpAnyT_takeN (i := 6) (v := .string (bs path)) rfl (by decide) (by kernel_rfl) (by kernel_rfl) (by kernel_rfl) (fun _ _ _ h => h) (.inl ⟨by kernel_rfl, fun W hS => by kernel_rfl⟩) S0 ?_
                  refine wpAnyT_takeN (i := 7) (v := .int .i64 (f : Int)) rfl (by decide) (by kernel_rfl) (by kernel_rfl) (by kernel_rfl) (fun _ _ _ h => h) (.inl ⟨by kernel_rfl, fun W hS => by kernel_rfl⟩) S0 ?_
                  refine wpAnyT_takeN (i := 8) (v := .int .i64 (k : Int)) rfl (by decide) (by kernel_rfl) (by kernel_rfl) (by kernel_rfl) (fun _ _ _ h => h) (.inl ⟨by kernel_rfl, fun W hS => by kernel_rfl⟩) S0 ?_
                  refine wpAnyT_takeN (i := 9) (v := .string (bs X)) rfl (by decide) (by kernel_rfl) (by kernel_rfl) (by kernel_rfl) (fun _ _ _ h => h) (.inl ⟨by kernel_rfl, fun W hS => slice_op (.tmp 48) (.tmp 49) (.tmp 50) rfl path X f k (by kernel_rfl) (by kernel_rfl) (by kernel_rfl) hfk hk hex⟩) S0 ?_
                  refine wpAnyT_takeN (i := 10) (v := .bool (m.name == X)) rfl (by decide) (by kernel_rfl) (by kernel_rfl) (by kernel_rfl) (fun _ _ _ h => h) (.inl ⟨by kernel_rfl, fun W hS => eql_str_op (.tmp 47) (.tmp 51) rfl m.name X (by kernel_rfl) (by kernel_rfl)⟩) S0 ?_
                  refine wpAnyT_done (by kernel_rfl) ?_ _
                  simp only [Act.put, List.getElem_toArray, List.getElem_cons_succ, List.getElem_cons_zero, List.setIfInBounds_toArray, List.set_cons_zero, List.set_cons_succ]
                  rw [hx2]
                  go_wp2_with fail
                  go_roundw
                  case rel => exact ⟨q, (q : Int), by omega, by go_num, rfl, FirstAt.hit HMM.out hx, fun h => absurd hkind h, HA2.out.drew, HZ2.out.drew, HB2.out.drew⟩
                  case measure => first | (simp [intOf]; done) | (simp [intOf]; omega)
                · have hx2 : (m.name == X) = false := by simpa using hx
                  go_wp2_with fail
                  have S0 : (fun W => At W w.heap.size 24 (M.cells (some x) cM) ∧ At W (w.heap.size + 1) 24 zeroC ∧ Below w.heap.size w W) wr.drew := ⟨HA2.out.drew, HZ2.out.drew, HB2.out.drew⟩
                  refine region_any (fun W => At W w.heap.size 24 (M.cells (some x) cM) ∧ At W (w.heap.size + 1) 24 zeroC ∧ Below w.heap.size w W) 11 (by kernel_rfl) ?_
                  refine wpAnyT_takeN (i := 0) (v := .pointer (some ⟨w.heap.size, 4, none⟩)) rfl (by decide) (by kernel_rfl) (by kernel_rfl) (by kernel_rfl) (fun _ _ _ h => h) (.inl ⟨by kernel_rfl, fun W hS => by kernel_rfl⟩) S0 ?_
                  refine wpAnyT_takeN (i := 1) (v := .slice (some x) ks.length cM) rfl (by decide) (by kernel_rfl) (by kernel_rfl) (by kernel_rfl) (fun _ _ _ h => h) (.inl ⟨by kernel_rfl, fun W hS => run_load_one 22 (.tmp 42) rfl ⟨w.heap.size, 4, none⟩ (by kernel_rfl) _ (by rw [HKS.out]; exact hS.1.cell 4 _ rfl) _ Tryd.underlying22 rfl⟩) S0 ?_
                  refine wpAnyT_takeN (i := 2) (v := .int .i64 (q : Int)) rfl (by decide) (by kernel_rfl) (by kernel_rfl) (by kernel_rfl) (fun _ _ _ h => h) (.inl ⟨by kernel_rfl, fun W hS => by kernel_rfl⟩) S0 ?_
                  refine wpAnyT_takeN (i := 3) (v := .pointer (some (x.add (q * 5)))) rfl (by decide) (by kernel_rfl) (by kernel_rfl) (by kernel_rfl) (fun _ _ _ h => h) (.inl ⟨by kernel_rfl, fun W hS => run_index_op 22 24 (.tmp 43) (.tmp 44) rfl x ks.length cM q (by kernel_rfl) (by kernel_rfl) (by omega) 5 _ rfl Tryd.underlying22 info_nd⟩) S0 ?_
                  refine wpAnyT_takeN (i := 4) (v := .pointer (some ((x.add (q * 5)).add 0))) rfl (by decide) (by kernel_rfl) (by kernel_rfl) (by kernel_rfl) (fun _ _ _ h => h) (.inl ⟨by kernel_rfl, fun W hS => by kernel_rfl⟩) S0 ?_
                  refine wpAnyT_takeN (i := 5) (v := .string (bs m.name)) rfl (by decide) (by kernel_rfl) (by kernel_rfl) (by kernel_rfl) (fun _ _ _ h => h) (.inl ⟨by kernel_rfl, fun W hS => run_load_one 9 (.tmp 46) rfl ((x.add (q * 5)).add 0) (by kernel_rfl) _ ((HK3.out.kept (hS.2.2.block x.block HK3.out.lt)) 0 _ rfl) _ Tryd.underlying9 rfl⟩) S0 ?_
                  refine wpAnyT_takeN (i := 6) (v := .string (bs path)) rfl (by decide) (by kernel_rfl) (by kernel_rfl) (by kernel_rfl) (fun _ _ _ h => h) (.inl ⟨by kernel_rfl, fun W hS => by kernel_rfl⟩) S0 ?_
                  refine wpAnyT_takeN (i := 7) (v := .int .i64 (f : Int)) rfl (by decide) (by kernel_rfl) (by kernel_rfl) (by kernel_rfl) (fun _ _ _ h => h) (.inl ⟨by kernel_rfl, fun W hS => by kernel_rfl⟩) S0 ?_
                  refine wpAnyT_takeN (i := 8) (v := .int .i64 (k : Int)) rfl (by decide) (by kernel_rfl) (by kernel_rfl) (by kernel_rfl) (fun _ _ _ h => h) (.inl ⟨by kernel_rfl, fun W hS => by kernel_rfl⟩) S0 ?_
                  refine wpAnyT_takeN (i := 9) (v := .string (bs X)) rfl (by decide) (by kernel_rfl) (by kernel_rfl) (by kernel_rfl) (fun _ _ _ h => h) (.inl ⟨by kernel_rfl, fun W hS => slice_op (.tmp 48) (.tmp 49) (.tmp 50) rfl path X f k (by kernel_rfl) (by kernel_rfl) (by kernel_rfl) hfk hk hex⟩) S0 ?_
                  refine wpAnyT_takeN (i := 10) (v := .bool (m.name == X)) rfl (by decide) (by kernel_rfl) (by kernel_rfl) (by kernel_rfl) (fun _ _ _ h => h) (.inl ⟨by kernel_rfl, fun W hS => eql_str_op (.tmp 47) (.tmp 51) rfl m.name X (by kernel_rfl) (by kernel_rfl)⟩) S0 ?_
                  refine wpAnyT_done (by kernel_rfl) ?_ _
                  simp only [Act.put, List.getElem_toArray, List.getElem_cons_succ, List.getElem_cons_zero, List.setIfInBounds_toArray, List.set_cons_zero, List.set_cons_succ]
                  rw [hx2]
                  go_wp2_with fail
                  go_roundw
                  case rel => exact ⟨q, at_, by omega, by go_num, rfl, FirstAt.miss HF.out HMM.out hx, fun h => absurd hkind h, HA2.out.drew, HZ2.out.drew, HB2.out.drew⟩
                  case measure => first | (simp [intOf]; done) | (simp [intOf]; omega)
              | zero =>
                have hidx := HF.out.idx
                have hm1 : ¬ ((0 : Int) ≤ ((0 : Nat) : Int) - 1) := by omega
                by_cases hneg : at_ < 0
                · have hix : indexL M X < 0 := by
                    unfold indexL
                    split
                    · decide
                    · rw [← HKS.out, ← hidx]; exact hneg
                  have HIX := Lib.hid hix
                  clear hix hidx
                  go_wp2_with (first
                    | (with_reducible refine list_val rfl (build_zero rfl) ?_)
                    | (refine store_any rfl 24 (.tmp 4) (.tmp 61) rfl (w.heap.size + 1) rfl zeroC rfl _ HZ2.out rfl info_nd (nd_one zeroN none 0) ?_; intro u9 hu9 tu9; have HU9 := Lib.hid hu9; have HT9 := Lib.hid tu9; clear hu9 tu9))
                  (try simp only [Exit.inBlock, Exit.then])
                  have hB := HT9.out.below HB2.out (by simp) (Nat.le_refl _)
                  have hRn : R = none := by rw [HRX.out, show walkL (X :: _) M = none from by unfold walkL; rw [if_pos HIX.out]]
                  refine bodyPost_ret (v := .tuple #[.agg zeroC.toArray, .bool false]) ?_ rfl ⟨hB, ?_⟩
                  · exact results_row_tmp (fn := Tryd.f9) (p := 4) (u := 5) (ty := 24) rfl _ _ (w.heap.size + 1) 24 _ (0, 0) _ rfl HU9.out Tryd.underlying24 rfl info_nd _ rfl
                  · rw [hRn]
                    first | exact ⟨none, 0, rfl, fun h => by cases h⟩ | exact ⟨none, ⟨0, rfl⟩, fun h => by cases h⟩
                by_cases hfe : f = k
                · have hix : indexL M X < 0 := by unfold indexL; rw [if_pos (.inr (HXE.out.mpr hfe))]; decide
                  have HIX := Lib.hid hix
                  have hfe2 : ((f : Int) == (k : Int)) = true := by simp [hfe]
                  clear hix hidx
                  go_wp2_with (first
                    | (with_reducible refine list_val rfl (build_zero rfl) ?_)
                    | (refine store_any rfl 24 (.tmp 4) (.tmp 61) rfl (w.heap.size + 1) rfl zeroC rfl _ HZ2.out rfl info_nd (nd_one zeroN none 0) ?_; intro u9 hu9 tu9; have HU9 := Lib.hid hu9; have HT9 := Lib.hid tu9; clear hu9 tu9))
                  (try simp only [Exit.inBlock, Exit.then])
                  have hB := HT9.out.below HB2.out (by simp) (Nat.le_refl _)
                  have hRn : R = none := by rw [HRX.out, show walkL (X :: _) M = none from by unfold walkL; rw [if_pos HIX.out]]
                  refine bodyPost_ret (v := .tuple #[.agg zeroC.toArray, .bool false]) ?_ rfl ⟨hB, ?_⟩
                  · exact results_row_tmp (fn := Tryd.f9) (p := 4) (u := 5) (ty := 24) rfl _ _ (w.heap.size + 1) 24 _ (0, 0) _ rfl HU9.out Tryd.underlying24 rfl info_nd _ rfl
                  · rw [hRn]
                    first | exact ⟨none, 0, rfl, fun h => by cases h⟩ | exact ⟨none, ⟨0, rfl⟩, fun h => by cases h⟩
                have hfe2 : ((f : Int) == (k : Int)) = false := by simp; omega
                have hix : indexL M X = at_ := by unfold indexL; rw [if_neg (by rintro (h | h); exact h hkind; exact hfe (HXE.out.mp h)), ← HKS.out]; exact hidx.symm
                obtain ⟨i, rfl⟩ : ∃ i : Nat, at_ = (i : Int) := ⟨at_.toNat, by omega⟩
                have hil : i < ks.length := by
                  rcases HF.out with ⟨e, _⟩ | ⟨i2, m2, e, _, h2, _, _⟩
                  · omega
                  · have := (List.getElem?_eq_some_iff.1 h2).1; omega
                have hil' : (i : Int) < (ks.length : Int) := by omega
                obtain ⟨m, hm⟩ : ∃ m, ks[i]? = some m := ⟨_, List.getElem?_eq_getElem hil⟩
                have hRm : R = walkL (splitL (path.drop (k + 1))) m := by
                  rw [HRX.out]
                  conv => lhs; unfold walkL
                  rw [hix, if_neg (by omega), Int.toNat_natCast, ← HKS.out, hm]
                cases hM with
                | zero => exact HM.out.elim
                | succ h2 =>
                obtain ⟨x, g, c, rfl, _, hK, hH2⟩ := HM.out.2 i m (by rw [← HKS.out]; exact hm)
                have HK2 := Lib.hid (hK.kept (HB2.out.block x.block hK.lt))
                have HH2 := Lib.hid hH2
                have HRM := Lib.hid hRm
                clear hK hH2 hm hRm hix hidx hfe
                go_wp2_with (first
                  | (refine load_any rfl 24 (.tmp 65) rfl (x.add (i * 5)) rfl (m.cells g c) _ (fun j v hj => HK2.out j v hj) Tryd.underlying24 rfl info_nd ?_)
                  | (refine store_any rfl 24 (.tmp 2) (.tmp 66) rfl w.heap.size rfl (m.cells g c) rfl _ HA2.out rfl info_nd (nd_one m g c) ?_; intro u9 hu9 tu9; have HU9 := Lib.hid hu9; have HT9 := Lib.hid tu9; clear hu9 tu9))
                go_roundw
                case rel => exact ⟨k + 1, k + 1, m, g, c, h2, by go_num, by go_num, Nat.le_refl _, by omega, by simp, .inl ⟨by omega, HRM.out⟩, HH2.out, HU9.out, HZ2.out.touch HT9.out (by simp), HT9.out.below HB2.out (by simp) (Nat.le_refl _)⟩
                case measure => first | (simp [intOf]; done) | (simp [intOf]; omega)
          · have hcn : ((c.toNat : Int) == 47) = false := by
              have : c.toNat ≠ 47 := fun e => hc47 (UInt8.toNat_inj.mp e)
              simp; omega
            have HRW := Lib.hid hRw
            have hseg2 := seg_more path f k c hfk hc hc47 HSEG.out
            have HS2 := Lib.hid hseg2
            clear hRw hseg2 hc
            go_wp2_with fail
            go_roundw
            case rel => exact ⟨k + 1, f, M, aM, cM, hM, rfl, by go_num, by omega, by omega, HS2.out, .inl ⟨by omega, HRW.out⟩, HM.out, HA.out, HZ.out, HB.out⟩
            case measure => first | (simp [intOf]; done) | (simp [intOf]; omega)
      · subst hk
        have hk' : ¬ (((path.length + 1 : Nat) : Int) ≤ path.length) := by omega
        have HRS := Lib.hid hRs
        clear hRs
        go_wp2_with (first
          | (refine load_any rfl 24 (.tmp 2) rfl ⟨w.heap.size, 0, none⟩ rfl (M.cells aM cM) _ (fun j v hj => by rw [Addr.add0]; exact HA.out.cell j v hj) Tryd.underlying24 rfl info_nd ?_)
          | (refine store_any rfl 24 (.tmp 4) (.tmp 69) rfl (w.heap.size + 1) rfl (M.cells aM cM) rfl _ HZ.out rfl info_nd (nd_one M aM cM) ?_; intro u9 hu9 tu9; have HU9 := Lib.hid hu9; have HT9 := Lib.hid tu9; clear hu9 tu9))
        (try simp only [Exit.inBlock, Exit.then])
        have hB := HT9.out.below HB.out (by simp) (Nat.le_refl _)
        refine bodyPost_ret (v := .tuple #[M.v aM cM, .bool true]) ?_ rfl ⟨hB, ?_⟩
        · exact results_row_tmp (fn := Tryd.f9) (p := 4) (u := 5) (ty := 24) rfl _ _ (w.heap.size + 1) 24 _ (0, 0) _ rfl HU9.out Tryd.underlying24 rfl info_nd _ rfl
        · rw [HRS.out]
          exact ⟨aM, ⟨cM, rfl⟩, fun _ => ⟨hM, HM.out.below hB⟩⟩
end Go.Proofs.YtfflkpggmhlfpaaDoor
