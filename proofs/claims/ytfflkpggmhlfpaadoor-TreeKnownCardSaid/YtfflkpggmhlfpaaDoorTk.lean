/- Find. -/
import Derived.Test.YtfflkpggmhlfpaaDoorTj
namespace Go.Proofs.YtfflkpggmhlfpaaDoor
open Go.RowKit
set_option maxRecDepth 100000
theorem results_row_tmp {P : Program} {fn : Func} {p u : Tmp} {ty : TypeId} (h : fn.results = #[.cell p ty, .tmp u]) (tmps : Array Value) (w : World) (g : Nat) (t : TypeId) (cs : Array Value) (fr : Nat × Nat) (d : TypeDesc)
    (hp : tmps.getD p undef = .pointer (some ⟨g, 0, none⟩)) (hg : w.heap[g]? = some (.cells cs t fr))
    (hu : P.underlying ty = some d) (hd : (match d with | .struct _ | .array _ _ => true | _ => false) = true) (hi : (P.info? ty).map (·.size) = some cs.size) (v : Value) (hv : tmps.getD u undef = v) :
    (results fn tmps).run P w = .ok (.tuple #[.agg cs, v]) w := by
  have hp' : tmps[p]?.getD undef = .pointer (some ⟨g, 0, none⟩) := by simpa using hp
  have hv' : tmps[u]?.getD undef = v := by simpa using hv
  rw [results_cell_tmp h]
  simp [hp', hv', asAddr, run_loadVar_row w g t ty cs fr d hg hu hd hi, Result.andThen]
/-- no node at all -/
def zeroN : Nd := ⟨[], 0, false, [], []⟩
def zeroC : List Value := [.string ⟨#[]⟩, .int .i64 0, .bool false, .string ⟨#[]⟩, .slice none 0 0]
theorem build_zero {o : Oper} {a : Act} {w : World} (ho : o.op = .build 24 #[]) : (execOp a.eval o).run Tryd.prog w = .ok (.value (.agg zeroC.toArray)) w := by
  have hz := zero_nd w
  unfold execOp
  simp only [ho]
  simp [go_sem, hz, zeroC]
theorem indexL_lt (n : Nd) (x : List UInt8) (h : ¬ indexL n x < 0) : (indexL n x).toNat < n.kids.length := by
  unfold indexL at *
  split at h
  · omega
  · rename_i hc
    rw [if_neg hc]
    unfold idxL at *
    split at h
    · rename_i i hi
      rw [List.findIdx?_eq_some_iff_getElem] at hi
      obtain ⟨h1, _⟩ := hi
      simpa using h1
    · omega
theorem indexL_le (n : Nd) (x : List UInt8) : -1 ≤ indexL n x := by
  unfold indexL idxL
  split
  · omega
  · split <;> omega
theorem splitL_len : ∀ s : List UInt8, (splitL s).length ≤ s.length + 1
  | [] => Nat.le_refl _
  | c :: r => by
    have := splitL_len r
    unfold splitL
    split
    · rw [List.length_cons, List.length_cons]; omega
    · split
      · simp
      · rename_i x t e
        rw [e] at this
        simp only [List.length_cons] at this ⊢
        omega
/-- what these names reach -/
def walkL : List (List UInt8) → Nd → Option Nd
  | [], n => some n
  | x :: r, n => if indexL n x < 0 then none else match n.kids[(indexL n x).toNat]? with | none => none | some m => walkL r m
def findL (n : Nd) (path : List UInt8) : Option Nd := if path = [] then some n else walkL (splitL path) n
/-- what Find answers -/
def Found (w0 w' : World) (h : Nat) (o : Option Nd) (e : Ending) : Prop := match o with
  | none => e = .returned (.tuple #[.agg zeroC.toArray, .bool false])
  | some m => ∃ ao cap, e = .returned (.tuple #[m.v ao cap, .bool true]) ∧ Has (fun i => w0.heap.size ≤ i) w' h m ao
theorem Slim.kid {h : Nat} {n m : Nd} (hs : Slim (h + 1) n) (hm : m ∈ n.kids) : Slim h m := hs.2 m hm
set_option maxHeartbeats 8000000 in
theorem find_any (h : Nat) (n : Nd) (ao : Option Addr) (cap : Nat) (path : List UInt8) (w : World) (hh : h + 1 ≤ 65536) (hsl : Slim (h + 1) n) (hH : Has any_ w (h + 1) n ao) (hp : path.length ≤ 4000000000) (hg : Glob w) :
    Calls Tryd.prog 8 #[n.v ao cap, .string (bs path)] w fun e w' => Below w.heap.size w w' ∧ Found w w' (h + 1) (findL n path) e := by
  have HH := Lib.hid hH
  have HSL := Lib.hid hsl
  have HG := Lib.hid hg
  obtain ⟨R, hR⟩ : ∃ R, R = findL n path := ⟨_, rfl⟩
  rw [← hR]
  unfold findL at hR
  have HRR := Lib.hid hR
  clear hH hsl hg hR
  go_enter Tryd.func8, Tryd.ntmps8
  by_cases h0 : path = []
  · subst h0
    go_wp2_with (first
      | (with_reducible refine box_any rfl 24 (.tmp 0) rfl (n.cells ao cap) rfl ?_; intro u hu bu zu; have HU := Lib.hid hu; have BU := Lib.hid bu; clear hu bu)
      | (with_reducible refine alloc_any rfl 24 rfl _ zero_nd ?_; intro u2 hr2 bu2 zu2; rw [zu] at hr2; have HR := Lib.hid hr2; have HU2 := Lib.hid (HU.out.below bu2 HU.out.lt); have BU2 := Lib.hid (BU.out.trans (bu2.mono (by omega))); clear bu2 hr2)
      | (refine load_any rfl 24 (.tmp 2) rfl ⟨w.heap.size, 0, none⟩ rfl (n.cells ao cap) _ (fun j v hj => by rw [Addr.add0]; exact HU2.out.cell j v hj) Tryd.underlying24 rfl info_nd ?_))
    refine (anew_any (h + 1) n ao cap u2 (by omega) HSL.out (HH.out.below BU2.out)).mono ?_
    rintro e w8 ⟨b8, ao8, cap8, rfl, h8⟩
    have HR8 := Lib.hid (HR.out.below b8 HR.out.lt)
    have HB8 := Lib.hid (BU2.out.trans (b8.mono (by omega)))
    have H8 := Lib.hid h8
    have z8 := b8.size
    clear b8 h8
    go_wp2_with (refine store_any rfl 24 (.tmp 4) (.tmp 31) rfl (w.heap.size + 1) rfl (n.cells ao8 cap8) rfl _ HR8.out rfl info_nd (nd_one n ao8 cap8) ?_; intro u9 hu9 tu9; have HU9 := Lib.hid hu9; have HT9 := Lib.hid tu9; clear hu9 tu9)
    (try simp only [Exit.inBlock, Exit.then])
    refine bodyPost_ret (v := .tuple #[n.v ao8 cap8, .bool true]) ?_ rfl ⟨HT9.out.below HB8.out (by simp) (Nat.le_refl _), ?_⟩
    · exact results_row_tmp (fn := Tryd.f8) (p := 4) (u := 5) (ty := 24) rfl _ _ (w.heap.size + 1) 24 _ (0, 0) _ rfl HU9.out Tryd.underlying24 rfl info_nd _ rfl
    · rw [HRR.out, if_pos (by trivial)]
      exact ⟨ao8, cap8, rfl, (Has.kept (S' := fun i => w.heap.size ≤ i) (fun i (hi : u2.heap.size ≤ i) _ => (by omega : w.heap.size ≤ i)) (fun i (hi : u2.heap.size ≤ i) hl => HT9.out.block i hl (by simp; omega)) (h + 1) n ao8 H8.out).ups (by omega)⟩
  · have hs2 : (path == []) = false := by simpa using h0
    have hs3 : path.isEmpty = false := by simpa using h0
    go_wp2_with (first
      | (with_reducible refine box_any rfl 24 (.tmp 0) rfl (n.cells ao cap) rfl ?_; intro u hu bu zu; have HU := Lib.hid hu; have BU := Lib.hid bu; clear hu bu)
      | (with_reducible refine alloc_any rfl 24 rfl _ zero_nd ?_; intro u2 hr2 bu2 zu2; rw [zu] at hr2; have HR := Lib.hid hr2; have HU2 := Lib.hid (HU.out.below bu2 HU.out.lt); have BU2 := Lib.hid (BU.out.trans (bu2.mono (by omega))); clear bu2 hr2))
    refine (split_any path u2 hp (HG.out.below BU2.out)).mono ?_
    rintro e w3 ⟨rfl, hS, b3⟩
    obtain ⟨NS, hNS⟩ : ∃ NS, NS = splitL path := ⟨_, rfl⟩
    rw [← hNS] at hS ⊢
    have HNS := Lib.hid hNS
    have hnl : NS.length ≤ 5000000000 := by have := splitL_len path; rw [hNS]; omega
    rw [show u2.heap.size = w.heap.size + 1 + 1 by omega] at hS
    have HS := Lib.hid hS
    have z3 := b3.size
    have HU3 := Lib.hid (HU2.out.below b3 HU2.out.lt)
    have HR3 := Lib.hid (HR.out.below b3 HR.out.lt)
    have HB3 := Lib.hid (BU2.out.trans (b3.mono (by omega)))
    clear hNS hS b3 HU HU2 HR BU BU2
    go_wp2_with fail
    go_loopw [14] (fun i wx => ∃ (k hm : Nat) (m : Nd) (am : Option Addr) (cm : Nat), k ≤ NS.length ∧ i = .int .i64 k ∧ hm ≤ h ∧ At wx w.heap.size 24 (m.cells am cm) ∧ Has (fun i => i < w.heap.size) wx (hm + 1) m am ∧ Slim (hm + 1) m ∧ walkL (NS.drop k) m = walkL NS n ∧ At wx (w.heap.size + 1) 24 zeroC ∧ At wx (w.heap.size + 1 + 1) 9 (NS.map fun t => .string (bs t)) ∧ Below w.heap.size w wx ∧ w.heap.size + 2 ≤ wx.heap.size) (fun i _ => NS.length - (intOf i).toNat)
    case atStart => exact ⟨0, h, n, ao, cap, Nat.zero_le _, rfl, Nat.le_refl _, HU3.out, (HH.out.mono (S' := fun i => i < w.heap.size) (fun i _ hl => hl)).below HB3.out, HSL.out, rfl, HR3.out, HS.out, HB3.out, by omega⟩
    have hu2z : u2.heap.size = w.heap.size + 2 := by omega
    clear HU3 HR3 HS HB3 HH HG HSL
    case round =>
      obtain ⟨k, hm, m, am, cm, hk, rfl, hmh, hU, hM, hSl, hW, hR, hS, hB, hz⟩ := hrel
      have HU := Lib.hid hU
      have HM := Lib.hid hM
      have HSL := Lib.hid hSl
      have HW := Lib.hid hW
      have HR := Lib.hid hR
      have HS := Lib.hid hS
      have HB := Lib.hid hB
      clear hU hM hSl hW hR hB
      by_cases hlt : k < NS.length
      · have hlt' : (k : Int) < NS.length := by omega
        obtain ⟨x, hx⟩ : ∃ x, NS[k]? = some x := ⟨_, List.getElem?_eq_getElem hlt⟩
        have hcx := hS.cell k (.string (bs x)) (by rw [List.getElem?_map, hx]; rfl)
        have HX := Lib.hid hx
        clear hS hx
        go_wp2_with (refine load_any rfl 24 (.tmp 2) rfl ⟨w.heap.size, 0, none⟩ rfl (m.cells am cm) _ (fun j v hj => by rw [Addr.add0]; exact HU.out.cell j v hj) Tryd.underlying24 rfl info_nd ?_)
        refine (indexOf_any hm m am cm x wr HM.out.any).mono ?_
        rintro e w5 ⟨rfl, b5⟩
        have hdrop : NS.drop k = x :: NS.drop (k + 1) := by rw [List.drop_eq_getElem_cons hlt, (List.getElem?_eq_some_iff.1 HX.out).2]
        have z5 := b5.size
        have HU5 := Lib.hid (HU.out.below b5 HU.out.lt)
        have HR5 := Lib.hid (HR.out.below b5 HR.out.lt)
        have HS5 := Lib.hid (HS.out.below b5 HS.out.lt)
        have HB5 := Lib.hid (HB.out.trans (b5.mono (by omega)))
        have HM5 := Lib.hid (HM.out.below b5)
        have hWk : walkL NS n = if indexL m x < 0 then none else match m.kids[(indexL m x).toNat]? with | none => none | some m => walkL (NS.drop (k + 1)) m := by rw [← HW.out, hdrop]; rfl
        have hlt2 := indexL_lt m x
        have hge2 := indexL_le m x
        have HWK := Lib.hid hWk
        obtain ⟨J, hJ⟩ : ∃ J, J = indexL m x := ⟨_, rfl⟩
        rw [← hJ] at hlt2 hge2 HWK ⊢
        clear hJ b5 hdrop hWk hcx HU HR HS HB HM
        by_cases hneg : J < 0
        · go_wp2_with (first
            | (refine list_val rfl (build_zero rfl) ?_)
            | (refine store_any rfl 24 (.tmp 4) (.tmp 23) rfl (w.heap.size + 1) rfl zeroC rfl _ HR5.out rfl info_nd (nd_one zeroN none 0) ?_; intro u9 hu9 tu9; have HU9 := Lib.hid hu9; have HT9 := Lib.hid tu9; clear hu9 tu9))
          (try simp only [Exit.inBlock, Exit.then])
          refine bodyPost_ret (v := .tuple #[.agg zeroC.toArray, .bool false]) ?_ rfl ⟨HT9.out.below HB5.out (by simp) (Nat.le_refl _), ?_⟩
          · exact results_row_tmp (fn := Tryd.f8) (p := 4) (u := 5) (ty := 24) rfl _ _ (w.heap.size + 1) 24 _ (0, 0) _ rfl HU9.out Tryd.underlying24 rfl info_nd _ rfl
          · rw [HRR.out, if_neg h0, ← HNS.out, HWK.out, if_pos hneg]
            rfl
        · obtain ⟨q, hq⟩ : ∃ q : Nat, J = q := ⟨J.toNat, by omega⟩
          subst hq
          have hql : q < m.kids.length := by simpa using hlt2 hneg
          have hql' : (q : Int) < m.kids.length := by omega
          obtain ⟨m2, hm2⟩ : ∃ m2, m.kids[q]? = some m2 := ⟨_, List.getElem?_eq_getElem hql⟩
          obtain ⟨xa, g, c, rfl, _, hK, hM2⟩ := HM5.out.2 q m2 hm2
          have hSl2 := HSL.out.2 m2 (List.mem_of_getElem? hm2)
          have hm1 : ∃ hq, hm = hq + 1 := by
            cases hm with
            | zero => exact hM2.elim
            | succ hq => exact ⟨hq, rfl⟩
          obtain ⟨hq, rfl⟩ := hm1
          have hW2 : walkL NS n = walkL (NS.drop (k + 1)) m2 := by rw [HWK.out, if_neg hneg]; simp only [Int.toNat_natCast, hm2]
          have HK := Lib.hid hK
          have HM2 := Lib.hid hM2
          have HSL2 := Lib.hid hSl2
          have HW2 := Lib.hid hW2
          have c4 := HU5.out.cell 4 _ rfl
          clear hK hM2 hSl2 hW2 hm2 hlt2 HWK
          go_wp2_with (first
            | (refine load_any rfl 24 (.tmp 27) rfl (xa.add (q * 5)) rfl (m2.cells g c) _ (fun j v hj => HK.out j v hj) Tryd.underlying24 rfl info_nd ?_)
            | (refine store_any rfl 24 (.tmp 2) (.tmp 28) rfl w.heap.size rfl (m2.cells g c) rfl _ HU5.out rfl info_nd (nd_one m2 g c) ?_; intro u6 hu6 tu6; have HU6 := Lib.hid hu6; have HT6 := Lib.hid tu6; clear hu6 tu6))
          have hM6 : Has (fun i => i < w.heap.size) u6 (hq + 1) m2 g := Has.kept (fun i hi _ => hi) (fun i (hi : i < w.heap.size) hl => HT6.out.block i hl (by simp; omega)) (hq + 1) m2 g HM2.out
          go_roundw
          case rel => exact ⟨k + 1, hq, m2, g, c, by omega, by go_num, by omega, HU6.out, hM6, HSL2.out, HW2.out.symm, HR5.out.touch HT6.out (by simp), HS5.out.touch HT6.out (by simp; omega), HT6.out.below HB5.out (by simp) (Nat.le_refl _), by have := HT6.out.size; omega⟩
          case measure => simp [intOf]; omega
      · have hlt' : ¬ (k : Int) < NS.length := by omega
        obtain rfl : k = NS.length := by omega
        clear hS
        have hres : walkL NS n = some m := by rw [← HW.out, List.drop_length]; rfl
        have HRES := Lib.hid hres
        clear hres
        go_wp2_with (refine load_any rfl 24 (.tmp 2) rfl ⟨w.heap.size, 0, none⟩ rfl (m.cells am cm) _ (fun j v hj => by rw [Addr.add0]; exact HU.out.cell j v hj) Tryd.underlying24 rfl info_nd ?_)
        refine (anew_any (hm + 1) m am cm wr (by omega) HSL.out HM.out.any).mono ?_
        rintro e w8 ⟨b8, ao8, cap8, rfl, h8⟩
        have HR8 := Lib.hid (HR.out.below b8 HR.out.lt)
        have HB8 := Lib.hid (HB.out.trans (b8.mono (by omega)))
        have H8 := Lib.hid h8
        have z8 := b8.size
        clear b8 h8
        go_wp2_with (refine store_any rfl 24 (.tmp 4) (.tmp 31) rfl (w.heap.size + 1) rfl (m.cells ao8 cap8) rfl _ HR8.out rfl info_nd (nd_one m ao8 cap8) ?_; intro u9 hu9 tu9; have HU9 := Lib.hid hu9; have HT9 := Lib.hid tu9; clear hu9 tu9)
        (try simp only [Exit.inBlock, Exit.then])
        refine bodyPost_ret (v := .tuple #[m.v ao8 cap8, .bool true]) ?_ rfl ⟨HT9.out.below HB8.out (by simp) (Nat.le_refl _), ?_⟩
        · exact results_row_tmp (fn := Tryd.f8) (p := 4) (u := 5) (ty := 24) rfl _ _ (w.heap.size + 1) 24 _ (0, 0) _ rfl HU9.out Tryd.underlying24 rfl info_nd _ rfl
        · rw [HRR.out, if_neg h0, ← HNS.out, HRES.out]
          exact ⟨ao8, cap8, rfl, (Has.kept (S' := fun i => w.heap.size ≤ i) (fun i (hi : wr.heap.size ≤ i) _ => (by omega : w.heap.size ≤ i)) (fun i (hi : wr.heap.size ≤ i) hl => HT9.out.block i hl (by simp; omega)) (hm + 1) m ao8 H8.out).ups (by omega)⟩
end Go.Proofs.YtfflkpggmhlfpaaDoor
