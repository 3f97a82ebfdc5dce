/- The statement TreePaths: the walk. -/
import Derived.Test.YtfflkpggmhlfpaaDoorUm
import Derived.Test.YtfflkpggmhlfpaaDoorUi
namespace Go.Proofs.YtfflkpggmhlfpaaDoor
open Go.RowKit
set_option maxRecDepth 100000
/-- what holds while the paths are gone through -/
structure Wq (w : World) (P : Nat) (N : Nd) (aN : Option Addr) (cN : Nat) (ls : List (List UInt8)) (x : Option Addr) (W : World) : Prop where
  y : Wy w P N aN cN W
  s : Lst W x ls
theorem Wq.below {w : World} {P : Nat} {N : Nd} {aN : Option Addr} {cN : Nat} {ls : List (List UInt8)} {x : Option Addr} {W W' : World} (h : Wq w P N aN cN ls x W) (b : Below W.heap.size W W') : Wq w P N aN cN ls x W' :=
  ⟨h.y.below b, h.s.below b⟩
theorem below_dr (W : World) : Below W.heap.size W W.drew := (Below.refl _ W).drew
theorem enter_find : ∀ (args : Array Value) (w : World), (callFunc 8 args).run Tryd.prog w = .ok (.enter 8 args) w := enters_of Tryd.func8 (by kernel_rfl) rfl
section
variable {o : Oper} {a : Act} {w : World}
theorem sub_op (x y : Operand) (ho : o.op = .binOp .sub 3 x y 3) (m : Nat) (hx : a.eval x = .int .i64 ((m + 1 : Nat) : Int)) (hy : a.eval y = .int .i64 1) (hm : m ≤ 1000000000) : (execOp a.eval o).run Tryd.prog w = .ok (.value (.int .i64 (m : Int))) w := by
  have hr : IntKind.i64.wrap (((m + 1 : Nat) : Int) - 1) = (m : Int) := by
    rw [show (((m + 1 : Nat) : Int) - 1) = (m : Int) by omega]
    simp only [IntKind.wrap, IntKind.bits, IntKind.signed]; simp; omega
  unfold execOp
  simp only [ho, hx, hy]
  generalize ((m + 1 : Nat) : Int) = q at *
  simp [go_sem, run_underlying Tryd.underlying3, hr]
theorem gtr_op (x y : Operand) (ho : o.op = .binOp .gtr 3 x y 3) (m n : Nat) (hx : a.eval x = .int .i64 (m : Int)) (hy : a.eval y = .int .i64 (n : Int)) (hm : m ≤ n) : (execOp a.eval o).run Tryd.prog w = .ok (.value (.bool false)) w := by
  unfold execOp
  simp only [ho, hx, hy]
  simp [go_sem, run_underlying Tryd.underlying3, hm]
theorem neq_str_op (x y : Operand) (ho : o.op = .binOp .neq 9 x y 9) (s : ByteArray) (hx : a.eval x = .string s) (hy : a.eval y = .string s) : (execOp a.eval o).run Tryd.prog w = .ok (.value (.bool false)) w := by
  unfold execOp
  simp only [ho, hx, hy]
  simp [go_sem]
end
theorem enter_deep2 : ∀ (args : Array Value) (w : World), (callFunc 17 args).run Tryd.prog w = .ok (.enter 17 args) w := enters_of Tryd.func17 (by kernel_rfl) rfl
theorem run_alloc_nd {o : Oper} {a : Act} {w : World} (ho : o.op = .alloc 24) : (execOp a.eval o).run Tryd.prog w = .ok (.value (.pointer (some ⟨w.heap.size, 0, none⟩))) (w.alloc (.cells zeroC.toArray 24)) := by
  have hz := zero_nd w
  unfold execOp
  simp [ho, hz, go_sem, zeroC, Value.cells]
theorem wpAnyT_store {md : Region.Mode} {ops : Array Oper} {Q : Exit → Act → World → Prop} {S : World → Prop} {t i fuel : Nat} {o : Oper} {listed : Array Bool} {a : Act} {w : World} (hrd : Region.ready md ops listed = [i]) (hi : ops[i]? = some o) (hw : Region.wanted o (yielded ops a.tmps) = true)
    (x y : Operand) (ho : o.op = .store 24 x y) (B : Nat) (hx : a.eval x = .pointer (some ⟨B, 0, none⟩)) (m : Nd) (ao : Option Addr) (c : Nat) (hy : a.eval y = m.v ao c) (old : List Value) (hB : At w B 24 old) (hl : 5 = old.length)
    (hc : ∀ u, At u B 24 (m.cells ao c) → Touch [B] w u → S u ∧ wpAnyT Tryd.prog md ops Q S t fuel (listed.setIfInBounds i true) (a.put o.dst undef) u) : wpAnyT Tryd.prog md ops Q S t (fuel + 1) listed a w :=
  wpAnyT_all hrd (by simp) (fun j hj => by
    obtain rfl : j = i := by simpa using hj
    unfold wpOp
    simp only [hi, hw, if_true]
    refine .inl ?_
    have h := hc (w.setCells B 0 (m.cells ao c)) (by
      have := hB.setCells (m.cells ao c) 0 _ _ (by show 0 + 5 ≤ _; omega)
      rw [show splice old 0 (m.cells ao c) = m.cells ao c from by unfold splice; simp [← hl, box_cells]] at this
      exact this) (Touch.setCells B (.inl (by simp)) _ _ _ (Touch.refl _ w))
    exact wp_store_mid 24 x y ho B 0 (m.cells ao c).toArray hx hy (hB.there 0 _ (by simp [box_cells]; omega)) (by simpa [box_cells] using info_nd) (all_oneCell_toArray (nd_one m ao c)) ⟨fun _ => h.1, h.2⟩)
set_option maxHeartbeats 40000000 in
theorem tpaths_any (h : Nat) (n : Nd) (ao : Option Addr) (cap : Nat) (w : World) (hH : Has any_ w h n ao) (hg : Glob w) :
    Calls Tryd.prog 4 #[n.v ao cap] w fun e w' => e = .returned (.bool true) ∧ Below w.heap.size w w' := by
  have HH := Lib.hid hH
  have HG := Lib.hid hg
  clear hH hg
  go_enter Tryd.func4, Tryd.ntmps4
  go_wp2_with (with_reducible refine box_any rfl 24 (.tmp 0) rfl (n.cells ao cap) rfl ?_; intro u hu bu zu; have HU := Lib.hid hu; have BU := Lib.hid bu; clear hu bu zu)
  refine (works_any u (HG.out.below BU.out)).mono ?_
  rintro e w1 ⟨rfl, b1⟩
  have HU1 := Lib.hid (HU.out.below b1 HU.out.lt)
  have HB1 := Lib.hid (BU.out.trans (b1.mono BU.out.size))
  have H1 := Lib.hid (HH.out.below HB1.out)
  clear HU BU b1
  go_wp2_with (first | (refine load_any rfl 24 (.tmp 1) rfl ⟨w.heap.size, 0, none⟩ rfl (n.cells ao cap) _ (fun j v hj => by rw [Addr.add0]; exact HU1.out.cell j v hj) Tryd.underlying24 rfl info_nd ?_))
  refine (small_any h n ao cap w1 H1.out).mono ?_
  rintro e w2 ⟨b2, aR, cR, rfl, hR⟩
  have hcnt := small_cnt n
  obtain ⟨R, hRR⟩ : ∃ R, R = smallL n := ⟨_, rfl⟩
  rw [← hRR] at hR hcnt ⊢
  have hCR : ∀ k, Cut k R := by rw [hRR]; exact fun k => small_cut k n
  obtain ⟨N, hN⟩ : ∃ N : Nd, N = ⟨[], R.kind, R.exec, R.data, R.kids⟩ := ⟨_, rfl⟩
  have HC := Lib.hid (show ∀ k, Cut k N by rw [hN]; exact Cut.renamed hCR)
  have hcN : cntL 17 N ≤ 301 := by rw [hN]; exact hcnt
  have HN := Lib.hid hN
  have HR := Lib.hid hR
  have HU2 := Lib.hid (HU1.out.below b2 HU1.out.lt)
  have HB2 := Lib.hid (HB1.out.trans (b2.mono HB1.out.size))
  have hlt := HU1.out.lt
  clear hRR hR HU1 HB1 H1 b2 hN hCR hcnt
  go_wp2_with (first
    | (refine store_any rfl 24 (.tmp 1) (.tmp 13) rfl w.heap.size rfl (R.cells aR cR) rfl _ HU2.out rfl info_nd (nd_one R aR cR) ?_; intro w3 hu3 tu3; have A3 := Lib.hid hu3; have T3 := Lib.hid tu3; have B3 := Lib.hid (tu3.below HB2.out (by simp) (Nat.le_refl _)); clear hu3 tu3)
    | (refine store_str_any rfl (.tmp 14) (.const (.string ⟨#[]⟩)) rfl w.heap.size 0 rfl [] rfl _ (N.cells aR cR) A3.out (by simp [Nd.cells]) (by rw [HN.out]; rfl) ?_
       intro w4 hu4 tu4
       have b4 := tu4.below B3.out (by simp) (Nat.le_refl _)
       have Y4 := Lib.hid (Wy.mk (w := w) (aR := aR) (cR := cR) hu4 (Has.alike' (Has.kept (S' := any_) (fun _ _ _ => trivial) (fun i (hi : w1.heap.size ≤ i) hl => (tu4.block i (Nat.lt_of_lt_of_le hl T3.out.size) (by simp; omega)).trans (T3.out.block i hl (by simp; omega))) 17 R aR HR.out) (by rw [HN.out]; rfl)) (HG.out.below b4) b4)
       have YA4 := Lib.hid Y4.out.a
       clear hu4 tu4 b4)
    | (refine load_any rfl 24 (.tmp 1) rfl ⟨w.heap.size, 0, none⟩ rfl (N.cells aR cR) _ (fun j v hj => by rw [Addr.add0]; exact YA4.out.cell j v hj) Tryd.underlying24 rfl info_nd ?_))
  have hN4 := nodesL_cnt 17 1 N
  refine (check_any 17 N aR cR w4 (by omega) Y4.out.t (goodN_of (by omega) HC.out) (by omega)).mono ?_
  rintro e w5 ⟨rfl, b5⟩
  have Y5 := Lib.hid (Y4.out.below b5)
  have YA5 := Lib.hid Y5.out.a
  clear b5 Y4 YA4 T3 A3 B3 HR HU2 HB2 HN
  by_cases hk : checkL 17 N = 0
  case neg =>
    have hk2 : (checkL 17 N == 0) = false := by simpa using hk
    go_wp2
    go_ret
    exact ⟨rfl, Y5.out.b⟩
  obtain ⟨hd, hm⟩ := check_zero hk
  rw [hk]
  have HM := Lib.hid hm
  clear hk hm
  go_wp2_with (first | (refine load_any rfl 24 (.tmp 1) rfl ⟨w.heap.size, 0, none⟩ rfl (N.cells aR cR) _ (fun j v hj => by rw [Addr.add0]; exact YA5.out.cell j v hj) Tryd.underlying24 rfl info_nd ?_))
  have hpl := pathsL_cnt 17 N []
  refine (each_any 17 N aR cR w5 Y5.out.t (HC.out 18).short (by omega) (by omega)).mono ?_
  rintro e w6 ⟨b6, v, rfl, hv⟩
  have he : eachL 17 N = pathsL 17 N [] := by unfold eachL; rw [if_neg (by omega)]
  have hlen := paths_len 17 1 N [] HM.out hd
  obtain ⟨ls, hls⟩ : ∃ ls, ls = pathsL 17 N [] := ⟨_, rfl⟩
  rw [he, ← hls] at hv
  rw [← hls] at hlen
  obtain ⟨va, vc, rfl, hv2⟩ := id hv
  have hl3 : ls.length ≤ 1000 := by omega
  have Y6 := Lib.hid (Wq.mk (Y5.out.below b6) (strs_lst hv))
  have YA6 := Lib.hid Y6.out.y.a
  have HLS := Lib.hid hls
  clear b6 hv hv2 hpl he Y5 YA5 hls
  go_wp2_with (first | (refine load_any rfl 24 (.tmp 1) rfl ⟨w.heap.size, 0, none⟩ rfl (N.cells aR cR) _ (fun j v hj => by rw [Addr.add0]; exact YA6.out.cell j v hj) Tryd.underlying24 rfl info_nd ?_))
  refine (size_any 17 N aR cR w6 (by omega) Y6.out.y.t (goodN_of (by omega) HC.out) (by omega)).mono ?_
  rintro e w7 ⟨rfl, b7⟩
  have Y7 := Lib.hid (Y6.out.below b7)
  rw [← hlen]
  have hsub : ((ls.length + 1 : Nat) : Int) - 1 = (ls.length : Int) := by omega
  obtain ⟨yy, hyy⟩ : ∃ yy : Int, yy = (bytesL (nodesL 17 1 N) : Int) := ⟨_, rfl⟩
  rw [← hyy]
  obtain ⟨P, hP⟩ : ∃ P, P = w.heap.size := ⟨_, rfl⟩
  rw [← hP] at Y7 ⊢
  have HP := Lib.hid hP
  clear b7 Y6 YA6 hlen hyy hP
  go_wp2_with fail
  go_loopw [6] (fun i wx => ∃ k : Nat, k ≤ ls.length ∧ i = .int .i64 k ∧ Wq w P N aR cR ls va wx) (fun i _ => ls.length - (intOf i).toNat)
  case atStart => exact ⟨0, Nat.zero_le _, rfl, Y7.out⟩
  clear Y7
  case round =>
    obtain ⟨k, hk, rfl, hQ⟩ := hrel
    have Q := Lib.hid hQ
    have QA := Lib.hid hQ.y.a
    clear hQ
    by_cases hlt : k < ls.length
    · have hlt' : (k : Int) < ls.length := by omega
      obtain ⟨p, hp⟩ : ∃ p, ls[k]? = some p := ⟨_, List.getElem?_eq_getElem hlt⟩
      obtain ⟨g, rfl, hcp⟩ := Q.out.s k p hp
      obtain ⟨l, m, hl1, hl2, hf, hlast, hld, hp1, hpne⟩ := way_at HM.out hd k p (by rw [← HLS.out]; exact hp)

      go_wp2_with fail
      have S0 : Wq w P N aR cR ls (some g) wr.drew := Q.out.below (below_dr wr)
      clear Q QA hcp
      have hlne : l ≠ [] := by intro e; rw [e] at hlast; cases hlast
      obtain ⟨z, hz⟩ : ∃ z, l.length = z + 1 := ⟨l.length - 1, by have := List.length_pos_iff.mpr hlne; omega⟩
      have hlz : l[z]? = some m.name := by rw [List.getLast?_eq_getElem?] at hlast; rw [← hlast]; congr 1; omega
      obtain ⟨d, hdz⟩ : ∃ d, depthL 14 N = d + 1 := ⟨depthL 14 N - 1, by omega⟩
      have HZ := Lib.hid hz
      have HDZ := Lib.hid hdz
      have hld2 : l.length ≤ d := by omega
      have hzl : z < l.length := by omega
      have hz12 : z ≤ 1000 := by omega
      have hd12 : d ≤ 1000 := by omega
      clear hz hdz
      have hfl : (findL N p).isSome = true := by rw [hf]; rfl
      have hfm : gv (findL N p) = m := by rw [hf]; rfl
      refine region_any (Wq w P N aR cR ls (some g)) 12 (by kernel_rfl) ?_
      show wpAnyT _ _ _ _ _ _ _ _ _ wr.drew
      generalize wr.drew = v0 at S0 ⊢
      refine wpAnyT_takeN (i := 0) (v := N.v aR cR) rfl (by decide) (by kernel_rfl) (by kernel_rfl) (by kernel_rfl) (fun _ _ _ h => h) (.inl ⟨by kernel_rfl, fun W hS => run_load_at (.tmp 1) rfl P (by kernel_rfl) N aR cR hS.y.a⟩) S0 ?_
      refine wpAnyT_takeN (i := 1) (v := .slice (some g) ls.length vc) rfl (by decide) (by kernel_rfl) (by kernel_rfl) (by kernel_rfl) (fun _ _ _ h => h) (.inl ⟨by kernel_rfl, fun W hS => by kernel_rfl⟩) S0 ?_
      refine wpAnyT_takeN (i := 2) (v := .int .i64 (k : Int)) rfl (by decide) (by kernel_rfl) (by kernel_rfl) (by kernel_rfl) (fun _ _ _ h => h) (.inl ⟨by kernel_rfl, fun W hS => by kernel_rfl⟩) S0 ?_
      refine wpAnyT_takeN (i := 3) (v := .pointer (some (g.add k))) rfl (by decide) (by kernel_rfl) (by kernel_rfl) (by kernel_rfl) (fun _ _ _ h => h) (.inl ⟨by kernel_rfl, fun W hS => run_index_op 33 9 (.tmp 38) (.tmp 39) rfl g ls.length vc k (by kernel_rfl) (by kernel_rfl) hlt 1 _ (by rw [Nat.mul_one]) Tryd.underlying33 (by kernel_rfl)⟩) S0 ?_
      refine wpAnyT_takeN (i := 4) (v := .string (bs p)) rfl (by decide) (by kernel_rfl) (by kernel_rfl) (by kernel_rfl) (fun _ _ _ h => h) (.inl ⟨by kernel_rfl, fun W hS => run_load_one 9 (.tmp 40) rfl (g.add k) (by kernel_rfl) _ (by obtain ⟨g', e, hc⟩ := hS.s k p hp; cases e; exact hc) _ Tryd.underlying9 rfl⟩) S0 ?_
      refine wpAnyT_cv (i := 5) (k := 9) (by kernel_rfl) rfl (by kernel_rfl) 8 #[N.v aR cR, .string (bs p)] (run_call_func rfl enter_find _ (by kernel_rfl)) rfl (by kernel_rfl) (run_alloc_nd rfl) ((find_r 16 (by omega) N aR cR v0 S0.y.t S0.y.g HC.out p hp1 m true hfm hfl).mono ?_) ?_
      · rintro e v1 ⟨b1, a7, c7, rfl, hm7⟩
        have S1 := Wq.below S0 b1
        refine ⟨_, rfl, S1, ?_⟩
        refine wpAnyT_takeN (i := 6) (v := .tuple #[m.v a7 c7, .bool true]) rfl (by decide) (by kernel_rfl) (by kernel_rfl) (by kernel_rfl) (fun _ _ _ h => h) (.inl ⟨by kernel_rfl, fun W hS => by kernel_rfl⟩) S1 ?_
        refine wpAnyT_takeN (i := 7) (v := m.v a7 c7) rfl (by decide) (by kernel_rfl) (by kernel_rfl) (by kernel_rfl) (fun _ _ _ h => h) (.inl ⟨by kernel_rfl, fun W hS => by kernel_rfl⟩) S1 ?_
        refine wpAnyT_takeN (i := 8) (v := .bool true) rfl (by decide) (by kernel_rfl) (by kernel_rfl) (by kernel_rfl) (fun _ _ _ h => h) (.inl ⟨by kernel_rfl, fun W hS => by kernel_rfl⟩) S1 ?_
        refine wpAnyT_val (i := 9) (by kernel_rfl) rfl (by kernel_rfl) (run_alloc_nd rfl) ?_
        have ba := (Below.refl _ v1).alloc (Nat.le_refl _) (.cells zeroC.toArray 24)
        have hA := At.new v1 zeroC.toArray 24
        refine ⟨Wq.below S1 ba, ?_⟩
        obtain ⟨p7, hp7⟩ : ∃ p7, p7 = v1.heap.size := ⟨_, rfl⟩
        rw [← hp7] at hA ⊢
        generalize v1.alloc (.cells zeroC.toArray 24) = v2 at *
        refine wpAnyT_store (i := 10) (by kernel_rfl) rfl (by kernel_rfl) (.tmp 7) (.tmp 43) rfl p7 (by kernel_rfl) m a7 c7 (by kernel_rfl) _ hA rfl (fun u7 hu7 tu7 => ?_)
        have SU := Wq.below S1 (tu7.below ba (by simp; omega) (Nat.le_refl _))
        refine ⟨SU, ?_⟩
        clear hA ba tu7 S1 S0 b1 hm7 hp7
        refine wpAnyT_takeN (i := 11) (v := .bool true) rfl (by decide) (by kernel_rfl) (by kernel_rfl) (by kernel_rfl) (fun _ _ _ h => h) (.inl ⟨by kernel_rfl, fun W hS => by kernel_rfl⟩) SU ?_
        refine wpAnyT_done (by kernel_rfl) ?_ _
        simp only [Act.put, List.getElem_toArray, List.getElem_cons_succ, List.getElem_cons_zero, List.setIfInBounds_toArray, List.set_cons_zero, List.set_cons_succ]
        have Q1 := Lib.hid SU
        have A7 := Lib.hid hu7
        have hc1 : u7.cell? (g.add k) = some (.string (bs p)) := by obtain ⟨g', e, hc⟩ := SU.s k p hp; cases e; exact hc
        clear SU hu7
        go_wp2_with fail
        refine (split_any p u7 (by omega) Q1.out.y.g).mono ?_
        rintro e w9 ⟨rfl, hS9, b9⟩
        rw [hl2] at hS9 ⊢
        have Q2 := Lib.hid (Q1.out.below b9)
        have A72 := Lib.hid (A7.out.below b9 A7.out.lt)
        have HS9 := Lib.hid hS9
        clear b9 hc1 hS9 Q1
        obtain ⟨q, hq⟩ : ∃ q, q = u7.heap.size := ⟨_, rfl⟩
        rw [← hq] at HS9 ⊢
        clear hq A7
        go_wp2_with fail
        have S5 : (fun W => Wq w P N aR cR ls (some g) W ∧ At W p7 24 (m.cells a7 c7) ∧ At W q 9 (l.map fun t => .string (bs t))) w9.drew := ⟨Q2.out.below (below_dr w9), A72.out.drew, HS9.out.drew⟩
        clear Q2 A72 HS9
        refine region_any (fun W => Wq w P N aR cR ls (some g) W ∧ At W p7 24 (m.cells a7 c7) ∧ At W q 9 (l.map fun t => .string (bs t))) 21 (by kernel_rfl) ?_
        refine wpAnyT_takeN (i := 0) (v := .bool true) rfl (by decide) (by kernel_rfl) (by kernel_rfl) (by kernel_rfl) (fun _ _ _ h => h) (.inl ⟨by kernel_rfl, fun W hS => by kernel_rfl⟩) S5 ?_
        refine wpAnyT_takeN (i := 1) (v := .bool false) rfl (by decide) (by kernel_rfl) (by kernel_rfl) (by kernel_rfl) (fun _ _ _ h => h) (.inl ⟨by kernel_rfl, fun W hS => by kernel_rfl⟩) S5 ?_
        refine wpAnyT_takeN (i := 2) (v := .bool false) rfl (by decide) (by kernel_rfl) (by kernel_rfl) (by kernel_rfl) (fun _ _ _ h => h) (.inl ⟨by kernel_rfl, fun W hS => by kernel_rfl⟩) S5 ?_
        refine wpAnyT_takeN (i := 3) (v := .pointer (some ⟨p7, 0, none⟩)) rfl (by decide) (by kernel_rfl) (by kernel_rfl) (by kernel_rfl) (fun _ _ _ h => h) (.inl ⟨by kernel_rfl, fun W hS => by kernel_rfl⟩) S5 ?_
        refine wpAnyT_takeN (i := 4) (v := .string (bs m.name)) rfl (by decide) (by kernel_rfl) (by kernel_rfl) (by kernel_rfl) (fun _ _ _ h => h) (.inl ⟨by kernel_rfl, fun W hS => run_load_one 9 (.tmp 53) rfl ⟨p7, 0, none⟩ (by kernel_rfl) _ (hS.2.1.cell 0 _ rfl) _ Tryd.underlying9 rfl⟩) S5 ?_
        refine wpAnyT_takeN (i := 5) (v := .slice (some ⟨q, 0, none⟩) l.length l.length) rfl (by decide) (by kernel_rfl) (by kernel_rfl) (by kernel_rfl) (fun _ _ _ h => h) (.inl ⟨by kernel_rfl, fun W hS => by kernel_rfl⟩) S5 ?_
        refine wpAnyT_takeN (i := 6) (v := .slice (some ⟨q, 0, none⟩) l.length l.length) rfl (by decide) (by kernel_rfl) (by kernel_rfl) (by kernel_rfl) (fun _ _ _ h => h) (.inl ⟨by kernel_rfl, fun W hS => by kernel_rfl⟩) S5 ?_
        refine wpAnyT_takeN (i := 7) (v := .int .i64 (l.length : Int)) rfl (by decide) (by kernel_rfl) (by kernel_rfl) (by kernel_rfl) (fun _ _ _ h => h) (.inl ⟨by kernel_rfl, fun W hS => by kernel_rfl⟩) S5 ?_
        refine wpAnyT_takeN (i := 8) (v := .int .i64 (z : Int)) rfl (by decide) (by kernel_rfl) (by kernel_rfl) (by kernel_rfl) (fun _ _ _ h => h) (.inl ⟨by kernel_rfl, fun W hS => sub_op (.tmp 57) (.const (.int .i64 1)) rfl z (by rw [← HZ.out]; kernel_rfl) rfl (by omega)⟩) S5 ?_
        refine wpAnyT_takeN (i := 9) (v := .pointer (some ⟨q, z, none⟩)) rfl (by decide) (by kernel_rfl) (by kernel_rfl) (by kernel_rfl) (fun _ _ _ h => h) (.inl ⟨by kernel_rfl, fun W hS => run_index_op 33 9 (.tmp 55) (.tmp 58) rfl ⟨q, 0, none⟩ l.length l.length z (by kernel_rfl) (by kernel_rfl) (by omega) 1 _ (by rw [Nat.mul_one, Addr.add0]) Tryd.underlying33 (by kernel_rfl)⟩) S5 ?_
        refine wpAnyT_takeN (i := 10) (v := .string (bs m.name)) rfl (by decide) (by kernel_rfl) (by kernel_rfl) (by kernel_rfl) (fun _ _ _ h => h) (.inl ⟨by kernel_rfl, fun W hS => run_load_one 9 (.tmp 59) rfl ⟨q, z, none⟩ (by kernel_rfl) _ (hS.2.2.cell z _ (by rw [List.getElem?_map, hlz]; rfl)) _ Tryd.underlying9 rfl⟩) S5 ?_
        refine wpAnyT_takeN (i := 11) (v := .bool false) rfl (by decide) (by kernel_rfl) (by kernel_rfl) (by kernel_rfl) (fun _ _ _ h => h) (.inl ⟨by kernel_rfl, fun W hS => neq_str_op (.tmp 54) (.tmp 60) rfl (bs m.name) (by kernel_rfl) (by kernel_rfl)⟩) S5 ?_
        refine wpAnyT_takeN (i := 12) (v := .bool false) rfl (by decide) (by kernel_rfl) (by kernel_rfl) (by kernel_rfl) (fun _ _ _ h => h) (.inl ⟨by kernel_rfl, fun W hS => by kernel_rfl⟩) S5 ?_
        refine wpAnyT_takeN (i := 13) (v := .bool false) rfl (by decide) (by kernel_rfl) (by kernel_rfl) (by kernel_rfl) (fun _ _ _ h => h) (.inl ⟨by kernel_rfl, fun W hS => by kernel_rfl⟩) S5 ?_
        refine wpAnyT_takeN (i := 14) (v := .slice (some ⟨q, 0, none⟩) l.length l.length) rfl (by decide) (by kernel_rfl) (by kernel_rfl) (by kernel_rfl) (fun _ _ _ h => h) (.inl ⟨by kernel_rfl, fun W hS => by kernel_rfl⟩) S5 ?_
        refine wpAnyT_takeN (i := 15) (v := .int .i64 (l.length : Int)) rfl (by decide) (by kernel_rfl) (by kernel_rfl) (by kernel_rfl) (fun _ _ _ h => h) (.inl ⟨by kernel_rfl, fun W hS => by kernel_rfl⟩) S5 ?_
        refine wpAnyT_takeN (i := 16) (v := N.v aR cR) rfl (by decide) (by kernel_rfl) (by kernel_rfl) (by kernel_rfl) (fun _ _ _ h => h) (.inl ⟨by kernel_rfl, fun W hS => run_load_at (.tmp 1) rfl P (by kernel_rfl) N aR cR hS.1.y.a⟩) S5 ?_
        refine wpAnyT_call (i := 17) (by kernel_rfl) rfl (by kernel_rfl) 17 #[N.v aR cR] (run_call_func rfl enter_deep2 _ (by kernel_rfl)) ((deep_any 17 N aR cR w9.drew S5.1.y.t).mono ?_)
        rintro e w10 ⟨rfl, b10⟩
        have S6 : (fun W => Wq w P N aR cR ls (some g) W ∧ At W p7 24 (m.cells a7 c7) ∧ At W q 9 (l.map fun t => .string (bs t))) w10 := ⟨S5.1.below b10, S5.2.1.below b10 S5.2.1.lt, S5.2.2.below b10 S5.2.2.lt⟩
        refine ⟨_, rfl, S6, ?_⟩
        rw [HDZ.out]
        refine wpAnyT_takeN (i := 18) (v := .int .i64 (d : Int)) rfl (by decide) (by kernel_rfl) (by kernel_rfl) (by kernel_rfl) (fun _ _ _ h => h) (.inl ⟨by kernel_rfl, fun W hS => sub_op (.tmp 67) (.const (.int .i64 1)) rfl d (by kernel_rfl) rfl (by omega)⟩) S6 ?_
        refine wpAnyT_takeN (i := 19) (v := .bool false) rfl (by decide) (by kernel_rfl) (by kernel_rfl) (by kernel_rfl) (fun _ _ _ h => h) (.inl ⟨by kernel_rfl, fun W hS => gtr_op (.tmp 65) (.tmp 68) rfl l.length d (by kernel_rfl) (by kernel_rfl) (by omega)⟩) S6 ?_
        refine wpAnyT_takeN (i := 20) (v := .bool false) rfl (by decide) (by kernel_rfl) (by kernel_rfl) (by kernel_rfl) (fun _ _ _ h => h) (.inl ⟨by kernel_rfl, fun W hS => by kernel_rfl⟩) S6 ?_
        refine wpAnyT_done (by kernel_rfl) ?_ _
        simp only [Act.put, List.getElem_toArray, List.getElem_cons_succ, List.getElem_cons_zero, List.setIfInBounds_toArray, List.set_cons_zero, List.set_cons_succ]
        have Q3 := Lib.hid S6.1
        have HS10 := Lib.hid S6.2.2
        clear S6 S5 b10
        cases k with
        | zero =>
          go_wp2_with fail
          go_roundw
          case rel => exact ⟨1, by omega, by go_num, Q3.out⟩
          case measure => simp [intOf]; omega
        | succ j =>
          have hk0 : (0 : Int) < ((j + 1 : Nat) : Int) := by omega
          have hkj : ((j + 1 : Nat) : Int) - 1 = (j : Int) := by omega
          obtain ⟨p', hp'⟩ : ∃ p', ls[j]? = some p' := ⟨_, List.getElem?_eq_getElem (by omega)⟩
          have hc2 : w10.cell? (g.add j) = some (.string (bs p')) := by obtain ⟨g', e, hc⟩ := Q3.out.s j p' hp'; cases e; exact hc
          have hrise := way_rise HM.out hd j p' p (by rw [← HLS.out]; exact hp') (by rw [← HLS.out]; exact hp)
          rw [hl2] at hrise
          have hp'1 : p'.length ≤ 1000 := by obtain ⟨_, _, _, _, _, _, _, h, _⟩ := way_at HM.out hd j p' (by rw [← HLS.out]; exact hp'); exact h
          have hjl : (j : Int) < ls.length := by omega
          have hl12 : l.length ≤ 1000 := by omega
          have hsl := splitL_len p'
          clear hp'
          go_wp2_with fail
          refine (split_any p' w10 (by omega) Q3.out.y.g).mono ?_
          rintro e w11 ⟨rfl, hS11, b11⟩
          have Q4 := Lib.hid (Q3.out.below b11)
          have HS11 := Lib.hid hS11
          have HS12 := Lib.hid (HS10.out.below b11 HS10.out.lt)
          obtain ⟨q2, hq2⟩ : ∃ q2, q2 = w10.heap.size := ⟨_, rfl⟩
          rw [← hq2] at HS11 ⊢
          clear b11 hS11 hc2 hq2 Q3 HS10
          go_wp2_with fail
          refine (rises_any (some ⟨q2, 0, none⟩) (some ⟨q, 0, none⟩) (splitL p') l (splitL p').length l.length (by omega) (by omega) w11 (at_lst HS11.out) (at_lst HS12.out)).mono ?_
          rintro e w12 ⟨rfl, b12⟩
          have Q5 := Lib.hid (Q4.out.below b12)
          rw [hrise]
          clear b12 Q4 HS11 HS12
          go_wp2_with fail
          go_roundw
          case rel => exact ⟨j + 2, by omega, by go_num, Q5.out⟩
          case measure => simp [intOf]; omega
      · have ba := (Below.refl _ v0).alloc (Nat.le_refl _) (.cells zeroC.toArray 24)
        have hA := At.new v0 zeroC.toArray 24
        have S1 := Wq.below S0 ba
        refine ⟨S1, ?_⟩
        obtain ⟨p7, hp7⟩ : ∃ p7, p7 = v0.heap.size := ⟨_, rfl⟩
        rw [show (Value.pointer (some ⟨v0.heap.size, 0, none⟩)) = .pointer (some ⟨p7, 0, none⟩) by rw [hp7]]
        rw [← hp7] at hA
        generalize v0.alloc (.cells zeroC.toArray 24) = v1 at *
        refine wpAnyT_call (i := 5) (by kernel_rfl) rfl (by kernel_rfl) 8 #[N.v aR cR, .string (bs p)] (run_call_func rfl enter_find _ (by kernel_rfl)) ((find_r 16 (by omega) N aR cR v1 S1.y.t S1.y.g HC.out p hp1 m true hfm hfl).mono ?_)
        rintro e v2 ⟨b2, a7, c7, rfl, hm7⟩
        have hA2 := hA.below b2 hA.lt
        refine ⟨_, rfl, Wq.below S1 b2, ?_⟩
        have S2 := Wq.below S1 b2
        refine wpAnyT_takeN (i := 6) (v := .tuple #[m.v a7 c7, .bool true]) rfl (by decide) (by kernel_rfl) (by kernel_rfl) (by kernel_rfl) (fun _ _ _ h => h) (.inl ⟨by kernel_rfl, fun W hS => by kernel_rfl⟩) S2 ?_
        refine wpAnyT_takeN (i := 7) (v := m.v a7 c7) rfl (by decide) (by kernel_rfl) (by kernel_rfl) (by kernel_rfl) (fun _ _ _ h => h) (.inl ⟨by kernel_rfl, fun W hS => by kernel_rfl⟩) S2 ?_
        refine wpAnyT_takeN (i := 8) (v := .bool true) rfl (by decide) (by kernel_rfl) (by kernel_rfl) (by kernel_rfl) (fun _ _ _ h => h) (.inl ⟨by kernel_rfl, fun W hS => by kernel_rfl⟩) S2 ?_
        refine wpAnyT_store (i := 10) (by kernel_rfl) rfl (by kernel_rfl) (.tmp 7) (.tmp 43) rfl p7 (by kernel_rfl) m a7 c7 (by kernel_rfl) _ hA2 rfl (fun u7 hu7 tu7 => ?_)
        have SU := Wq.below S0 (tu7.below (ba.trans (b2.mono ba.size)) (by simp; omega) (Nat.le_refl _))
        refine ⟨SU, ?_⟩
        clear hA hA2 ba tu7 S1 S0 S2 b2 hm7 hp7
        refine wpAnyT_takeN (i := 11) (v := .bool true) rfl (by decide) (by kernel_rfl) (by kernel_rfl) (by kernel_rfl) (fun _ _ _ h => h) (.inl ⟨by kernel_rfl, fun W hS => by kernel_rfl⟩) SU ?_
        refine wpAnyT_done (by kernel_rfl) ?_ _
        simp only [Act.put, List.getElem_toArray, List.getElem_cons_succ, List.getElem_cons_zero, List.setIfInBounds_toArray, List.set_cons_zero, List.set_cons_succ]
        have Q1 := Lib.hid SU
        have A7 := Lib.hid hu7
        have hc1 : u7.cell? (g.add k) = some (.string (bs p)) := by obtain ⟨g', e, hc⟩ := SU.s k p hp; cases e; exact hc
        clear SU hu7
        go_wp2_with fail
        refine (split_any p u7 (by omega) Q1.out.y.g).mono ?_
        rintro e w9 ⟨rfl, hS9, b9⟩
        rw [hl2] at hS9 ⊢
        have Q2 := Lib.hid (Q1.out.below b9)
        have A72 := Lib.hid (A7.out.below b9 A7.out.lt)
        have HS9 := Lib.hid hS9
        clear b9 hc1 hS9 Q1
        obtain ⟨q, hq⟩ : ∃ q, q = u7.heap.size := ⟨_, rfl⟩
        rw [← hq] at HS9 ⊢
        clear hq A7
        go_wp2_with fail
        have S5 : (fun W => Wq w P N aR cR ls (some g) W ∧ At W p7 24 (m.cells a7 c7) ∧ At W q 9 (l.map fun t => .string (bs t))) w9.drew := ⟨Q2.out.below (below_dr w9), A72.out.drew, HS9.out.drew⟩
        clear Q2 A72 HS9
        refine region_any (fun W => Wq w P N aR cR ls (some g) W ∧ At W p7 24 (m.cells a7 c7) ∧ At W q 9 (l.map fun t => .string (bs t))) 21 (by kernel_rfl) ?_
        refine wpAnyT_takeN (i := 0) (v := .bool true) rfl (by decide) (by kernel_rfl) (by kernel_rfl) (by kernel_rfl) (fun _ _ _ h => h) (.inl ⟨by kernel_rfl, fun W hS => by kernel_rfl⟩) S5 ?_
        refine wpAnyT_takeN (i := 1) (v := .bool false) rfl (by decide) (by kernel_rfl) (by kernel_rfl) (by kernel_rfl) (fun _ _ _ h => h) (.inl ⟨by kernel_rfl, fun W hS => by kernel_rfl⟩) S5 ?_
        refine wpAnyT_takeN (i := 2) (v := .bool false) rfl (by decide) (by kernel_rfl) (by kernel_rfl) (by kernel_rfl) (fun _ _ _ h => h) (.inl ⟨by kernel_rfl, fun W hS => by kernel_rfl⟩) S5 ?_
        refine wpAnyT_takeN (i := 3) (v := .pointer (some ⟨p7, 0, none⟩)) rfl (by decide) (by kernel_rfl) (by kernel_rfl) (by kernel_rfl) (fun _ _ _ h => h) (.inl ⟨by kernel_rfl, fun W hS => by kernel_rfl⟩) S5 ?_
        refine wpAnyT_takeN (i := 4) (v := .string (bs m.name)) rfl (by decide) (by kernel_rfl) (by kernel_rfl) (by kernel_rfl) (fun _ _ _ h => h) (.inl ⟨by kernel_rfl, fun W hS => run_load_one 9 (.tmp 53) rfl ⟨p7, 0, none⟩ (by kernel_rfl) _ (hS.2.1.cell 0 _ rfl) _ Tryd.underlying9 rfl⟩) S5 ?_
        refine wpAnyT_takeN (i := 5) (v := .slice (some ⟨q, 0, none⟩) l.length l.length) rfl (by decide) (by kernel_rfl) (by kernel_rfl) (by kernel_rfl) (fun _ _ _ h => h) (.inl ⟨by kernel_rfl, fun W hS => by kernel_rfl⟩) S5 ?_
        refine wpAnyT_takeN (i := 6) (v := .slice (some ⟨q, 0, none⟩) l.length l.length) rfl (by decide) (by kernel_rfl) (by kernel_rfl) (by kernel_rfl) (fun _ _ _ h => h) (.inl ⟨by kernel_rfl, fun W hS => by kernel_rfl⟩) S5 ?_
        refine wpAnyT_takeN (i := 7) (v := .int .i64 (l.length : Int)) rfl (by decide) (by kernel_rfl) (by kernel_rfl) (by kernel_rfl) (fun _ _ _ h => h) (.inl ⟨by kernel_rfl, fun W hS => by kernel_rfl⟩) S5 ?_
        refine wpAnyT_takeN (i := 8) (v := .int .i64 (z : Int)) rfl (by decide) (by kernel_rfl) (by kernel_rfl) (by kernel_rfl) (fun _ _ _ h => h) (.inl ⟨by kernel_rfl, fun W hS => sub_op (.tmp 57) (.const (.int .i64 1)) rfl z (by rw [← HZ.out]; kernel_rfl) rfl (by omega)⟩) S5 ?_
        refine wpAnyT_takeN (i := 9) (v := .pointer (some ⟨q, z, none⟩)) rfl (by decide) (by kernel_rfl) (by kernel_rfl) (by kernel_rfl) (fun _ _ _ h => h) (.inl ⟨by kernel_rfl, fun W hS => run_index_op 33 9 (.tmp 55) (.tmp 58) rfl ⟨q, 0, none⟩ l.length l.length z (by kernel_rfl) (by kernel_rfl) (by omega) 1 _ (by rw [Nat.mul_one, Addr.add0]) Tryd.underlying33 (by kernel_rfl)⟩) S5 ?_
        refine wpAnyT_takeN (i := 10) (v := .string (bs m.name)) rfl (by decide) (by kernel_rfl) (by kernel_rfl) (by kernel_rfl) (fun _ _ _ h => h) (.inl ⟨by kernel_rfl, fun W hS => run_load_one 9 (.tmp 59) rfl ⟨q, z, none⟩ (by kernel_rfl) _ (hS.2.2.cell z _ (by rw [List.getElem?_map, hlz]; rfl)) _ Tryd.underlying9 rfl⟩) S5 ?_
        refine wpAnyT_takeN (i := 11) (v := .bool false) rfl (by decide) (by kernel_rfl) (by kernel_rfl) (by kernel_rfl) (fun _ _ _ h => h) (.inl ⟨by kernel_rfl, fun W hS => neq_str_op (.tmp 54) (.tmp 60) rfl (bs m.name) (by kernel_rfl) (by kernel_rfl)⟩) S5 ?_
        refine wpAnyT_takeN (i := 12) (v := .bool false) rfl (by decide) (by kernel_rfl) (by kernel_rfl) (by kernel_rfl) (fun _ _ _ h => h) (.inl ⟨by kernel_rfl, fun W hS => by kernel_rfl⟩) S5 ?_
        refine wpAnyT_takeN (i := 13) (v := .bool false) rfl (by decide) (by kernel_rfl) (by kernel_rfl) (by kernel_rfl) (fun _ _ _ h => h) (.inl ⟨by kernel_rfl, fun W hS => by kernel_rfl⟩) S5 ?_
        refine wpAnyT_takeN (i := 14) (v := .slice (some ⟨q, 0, none⟩) l.length l.length) rfl (by decide) (by kernel_rfl) (by kernel_rfl) (by kernel_rfl) (fun _ _ _ h => h) (.inl ⟨by kernel_rfl, fun W hS => by kernel_rfl⟩) S5 ?_
        refine wpAnyT_takeN (i := 15) (v := .int .i64 (l.length : Int)) rfl (by decide) (by kernel_rfl) (by kernel_rfl) (by kernel_rfl) (fun _ _ _ h => h) (.inl ⟨by kernel_rfl, fun W hS => by kernel_rfl⟩) S5 ?_
        refine wpAnyT_takeN (i := 16) (v := N.v aR cR) rfl (by decide) (by kernel_rfl) (by kernel_rfl) (by kernel_rfl) (fun _ _ _ h => h) (.inl ⟨by kernel_rfl, fun W hS => run_load_at (.tmp 1) rfl P (by kernel_rfl) N aR cR hS.1.y.a⟩) S5 ?_
        refine wpAnyT_call (i := 17) (by kernel_rfl) rfl (by kernel_rfl) 17 #[N.v aR cR] (run_call_func rfl enter_deep2 _ (by kernel_rfl)) ((deep_any 17 N aR cR w9.drew S5.1.y.t).mono ?_)
        rintro e w10 ⟨rfl, b10⟩
        have S6 : (fun W => Wq w P N aR cR ls (some g) W ∧ At W p7 24 (m.cells a7 c7) ∧ At W q 9 (l.map fun t => .string (bs t))) w10 := ⟨S5.1.below b10, S5.2.1.below b10 S5.2.1.lt, S5.2.2.below b10 S5.2.2.lt⟩
        refine ⟨_, rfl, S6, ?_⟩
        rw [HDZ.out]
        refine wpAnyT_takeN (i := 18) (v := .int .i64 (d : Int)) rfl (by decide) (by kernel_rfl) (by kernel_rfl) (by kernel_rfl) (fun _ _ _ h => h) (.inl ⟨by kernel_rfl, fun W hS => sub_op (.tmp 67) (.const (.int .i64 1)) rfl d (by kernel_rfl) rfl (by omega)⟩) S6 ?_
        refine wpAnyT_takeN (i := 19) (v := .bool false) rfl (by decide) (by kernel_rfl) (by kernel_rfl) (by kernel_rfl) (fun _ _ _ h => h) (.inl ⟨by kernel_rfl, fun W hS => gtr_op (.tmp 65) (.tmp 68) rfl l.length d (by kernel_rfl) (by kernel_rfl) (by omega)⟩) S6 ?_
        refine wpAnyT_takeN (i := 20) (v := .bool false) rfl (by decide) (by kernel_rfl) (by kernel_rfl) (by kernel_rfl) (fun _ _ _ h => h) (.inl ⟨by kernel_rfl, fun W hS => by kernel_rfl⟩) S6 ?_
        refine wpAnyT_done (by kernel_rfl) ?_ _
        simp only [Act.put, List.getElem_toArray, List.getElem_cons_succ, List.getElem_cons_zero, List.setIfInBounds_toArray, List.set_cons_zero, List.set_cons_succ]
        have Q3 := Lib.hid S6.1
        have HS10 := Lib.hid S6.2.2
        clear S6 S5 b10
        cases k with
        | zero =>
          go_wp2_with fail
          go_roundw
          case rel => exact ⟨1, by omega, by go_num, Q3.out⟩
          case measure => simp [intOf]; omega
        | succ j =>
          have hk0 : (0 : Int) < ((j + 1 : Nat) : Int) := by omega
          have hkj : ((j + 1 : Nat) : Int) - 1 = (j : Int) := by omega
          obtain ⟨p', hp'⟩ : ∃ p', ls[j]? = some p' := ⟨_, List.getElem?_eq_getElem (by omega)⟩
          have hc2 : w10.cell? (g.add j) = some (.string (bs p')) := by obtain ⟨g', e, hc⟩ := Q3.out.s j p' hp'; cases e; exact hc
          have hrise := way_rise HM.out hd j p' p (by rw [← HLS.out]; exact hp') (by rw [← HLS.out]; exact hp)
          rw [hl2] at hrise
          have hp'1 : p'.length ≤ 1000 := by obtain ⟨_, _, _, _, _, _, _, h, _⟩ := way_at HM.out hd j p' (by rw [← HLS.out]; exact hp'); exact h
          have hjl : (j : Int) < ls.length := by omega
          have hl12 : l.length ≤ 1000 := by omega
          have hsl := splitL_len p'
          clear hp'
          go_wp2_with fail
          refine (split_any p' w10 (by omega) Q3.out.y.g).mono ?_
          rintro e w11 ⟨rfl, hS11, b11⟩
          have Q4 := Lib.hid (Q3.out.below b11)
          have HS11 := Lib.hid hS11
          have HS12 := Lib.hid (HS10.out.below b11 HS10.out.lt)
          obtain ⟨q2, hq2⟩ : ∃ q2, q2 = w10.heap.size := ⟨_, rfl⟩
          rw [← hq2] at HS11 ⊢
          clear b11 hS11 hc2 hq2 Q3 HS10
          go_wp2_with fail
          refine (rises_any (some ⟨q2, 0, none⟩) (some ⟨q, 0, none⟩) (splitL p') l (splitL p').length l.length (by omega) (by omega) w11 (at_lst HS11.out) (at_lst HS12.out)).mono ?_
          rintro e w12 ⟨rfl, b12⟩
          have Q5 := Lib.hid (Q4.out.below b12)
          rw [hrise]
          clear b12 Q4 HS11 HS12
          go_wp2_with fail
          go_roundw
          case rel => exact ⟨j + 2, by omega, by go_num, Q5.out⟩
          case measure => simp [intOf]; omega
    · obtain rfl : k = ls.length := by omega
      have hlt' : ¬ (ls.length : Int) < ls.length := by omega
      go_wp2_with (first | (refine load_any rfl 24 (.tmp 1) rfl ⟨P, 0, none⟩ rfl (N.cells aR cR) _ (fun j v hj => by rw [Addr.add0]; exact QA.out.cell j v hj) Tryd.underlying24 rfl info_nd ?_))
      refine (same_wrap 17 17 N N aR aR cR cR wr (by omega) Q.out.y.t Q.out.y.t).mono ?_
      rintro e w8 ⟨rfl, b8⟩
      have HB8 := Lib.hid (Q.out.y.below b8).b
      have hself : sameL 17 N N = true := by rw [sameL_self]; exact shL_may 17 N HM.out hd
      rw [hself]
      clear b8
      go_wp2_with fail
      go_ret
      exact ⟨rfl, HB8.out⟩
end Go.Proofs.YtfflkpggmhlfpaaDoor
