/- The document's reading of a node. -/
import Derived.Test.YtdpeblchndfdaaaPA
namespace Go.Proofs.Ytdpeblchndfdaaa
open Go.RowKit
set_option maxRecDepth 100000
section
variable {ops : Array Oper} {rest : List Oper} {op : Oper} {a : Act} {w : World} {Q : Exit → Act → World → Prop}
theorem run_store_bool (x y : Operand) (ho : op.op = .store 4 x y) (p : Addr) (hx : a.eval x = .pointer (some p)) (n : Bool) (hy : a.eval y = .bool n) (v : Value) (hc : w.cell? p = some v) (hf : w.frozen? p = false) :
    (execOp a.eval op).run Try.prog w = .ok .skip (w.setCell p (.bool n)) := by
  have hi : (Try.prog.info? 4).map (·.size) = some 1 := by kernel_rfl
  cases hq : Try.prog.info? 4 with
  | none => simp [hq] at hi
  | some i =>
    have hs : i.size = 1 := by simpa [hq] using hi
    unfold execOp
    simp only [ho, hx, hy]
    simp [go_sem, hc, hf, sizeOf, typeInfo, hq, hs]
theorem store_bool_any (hgd : op.guard = none) (x y : Operand) (ho : op.op = .store 4 x y) (B i : Nat) (hx : a.eval x = .pointer (some ⟨B, i, none⟩)) (n : Bool) (hy : a.eval y = .bool n) {T : TypeId} (old new : List Value) (hB : At w B T old) (hi : i < old.length) (hnew : old.set i (.bool n) = new)
    (h : ∀ u, At u B T new → Touch [B] w u → wpList Try.prog ops Q rest (a.put op.dst undef) u) : wpList Try.prog ops Q (op :: rest) a w :=
  list_skip hgd (run_store_bool x y ho ⟨B, i, none⟩ hx n hy _ (hB.cell i _ (List.getElem?_eq_getElem hi)) (hB.frozen i)) (h _ (hnew ▸ hB.setCell i _) ((Touch.refl [B] w).setCell _ _ (.inl (by simp))))
end
theorem wpAnyT_store {md : Region.Mode} {ops : Array Oper} {Q : Exit → Act → World → Prop} {S : World → Prop} {t i fuel : Nat} {o : Oper} {listed : Array Bool} {a : Act} {w : World} (hrd : Region.ready md ops listed = [i]) (hi : ops[i]? = some o) (hw : Region.wanted o (yielded ops a.tmps) = true)
    (x y : Operand) (ho : o.op = .store 24 x y) (B : Nat) (hx : a.eval x = .pointer (some ⟨B, 0, none⟩)) (m : Nd) (ao : Option Addr) (c : Nat) (hy : a.eval y = m.v ao c) (old : List Value) (hB : At w B 24 old) (hl : 5 = old.length)
    (hc : ∀ u, At u B 24 (m.cells ao c) → Touch [B] w u → S u ∧ wpAnyT Try.prog md ops Q S t fuel (listed.setIfInBounds i true) (a.put o.dst undef) u) : wpAnyT Try.prog md ops Q S t (fuel + 1) listed a w :=
  wpAnyT_all hrd (by simp) (fun j hj => by
    obtain rfl : j = i := by simpa using hj
    unfold wpOp
    simp only [hi, hw, if_true]
    refine .inl ?_
    have h := hc (w.setCells B 0 (m.cells ao c)) (by
      have := hB.setCells (m.cells ao c) 0 _ _ (by show 0 + 5 ≤ _; omega)
      rw [show splice old 0 (m.cells ao c) = m.cells ao c from by unfold splice; simp [← hl, box_cells]] at this
      exact this) (Touch.setCells B (.inl (by simp)) _ _ _ (Touch.refl _ w))
    exact wp_store_mid 24 x y ho B 0 (m.cells ao c).toArray hx hy (hB.there 0 _ (by simp [box_cells]; omega)) (by simpa [box_cells] using info_nd) (all_oneCell_toArray (nd_one m ao c)) ⟨fun _ => h.1, h.2⟩)

theorem run_rem1000 {o : Oper} {a : Act} {w : World} (x : Operand) (ho : o.op = .binOp .rem 82 x (.const (.int .u64 1000)) 82) (n : Nat) (hx : a.eval x = .int .u64 (n : Int)) :
    (execOp a.eval o).run Try.prog w = .ok (.value (.int .u64 ((n % 1000 : Nat) : Int))) w := by
  have e : (n : Int).tmod 1000 = ((n % 1000 : Nat) : Int) := by rw [Int.tmod_eq_emod_of_nonneg (by omega)]; omega
  have e2 : IntKind.u64.wrap ((n % 1000 : Nat) : Int) = ((n % 1000 : Nat) : Int) := by rw [IntKind.wrap_u64]; omega
  have hc : a.eval (.const (.int .u64 1000)) = .int .u64 1000 := rfl
  generalize ((n % 1000 : Nat) : Int) = m at *
  unfold execOp
  simp only [ho, hx, hc]
  simp [go_sem, e, e2]
theorem run_cvu {o : Oper} {a : Act} {w : World} (x : Operand) (ho : o.op = .convert 82 3 x) (n : Nat) (k : Int) (hk : (n : Int) = k) (hn : n < 1000) (hx : a.eval x = .int .u64 (n : Int)) :
    (execOp a.eval o).run Try.prog w = .ok (.value (.int .i64 k)) w := by
  have e2 : IntKind.i64.wrap (n : Int) = (n : Int) := by rw [IntKind.wrap_i64]; omega
  subst hk
  refine run_convert_op 82 3 x ho _ hx ?_
  generalize (n : Int) = m at *
  simp [go_sem, convert, run_underlying Try.underlying3, run_underlying Try.underlying82, e2]
theorem res_read (tmps : Array Value) (w : World) (p : Nat) (cs : List Value) (b : Bool) (hp : tmps.getD 4 undef = .pointer (some ⟨p, 0, none⟩)) (hq : tmps.getD 5 undef = .bool b) (hA : At w p 24 cs) (hl : cs.length = 5) :
    (results Try.f35 tmps).run Try.prog w = .ok (.tuple #[.agg cs.toArray, .bool b]) w := by
  have hp' : tmps[4]?.getD undef = .pointer (some ⟨p, 0, none⟩) := by simpa using hp
  have hq' : tmps[5]?.getD undef = .bool b := by simpa using hq
  have hr : Try.f35.results = #[.cell 4 24, .tmp 5] := rfl
  simp only [results, hr]
  simp [hp', hq', asAddr, Sem.run_bind, loadVar_nd w p cs hA hl, Result.andThen]
theorem run_leq1 {o : Oper} {a : Act} {w : World} (x : Operand) (ho : o.op = .binOp .leq 82 x (.const (.int .u64 1)) 82) (n : Nat) (b : Bool) (hb : decide ((n : Int) ≤ 1) = b) (hx : a.eval x = .int .u64 (n : Int)) :
    (execOp a.eval o).run Try.prog w = .ok (.value (.bool b)) w := by
  have hc : a.eval (.const (.int .u64 1)) = .int .u64 1 := rfl
  unfold execOp
  simp only [ho, hx, hc]
  subst hb
  simp [go_sem]
theorem enters_rOK : ∀ args w, (callFunc 61 args).run Try.prog w = .ok (.enter 61 args) w := enters_of Try.func61 (by kernel_rfl) rfl
/-- what a node, of so many levels at most, is read to -/
def dfile (l : List UInt8) : Option (Nd × List UInt8) :=
  if (rnum l false).1 ≤ 1 ∧ (rtext (rnum l false).2.1 (rnum l false).2.2).2.2 = false then some (⟨[], 1, decide ((rnum l false).1 = 1), (rtext (rnum l false).2.1 (rnum l false).2.2).1, []⟩, (rtext (rnum l false).2.1 (rnum l false).2.2).2.1) else none
def dlink (l : List UInt8) : Option (Nd × List UInt8) := if (rtext l false).2.2 = false then some (⟨[], 3, false, (rtext l false).1, []⟩, (rtext l false).2.1) else none
def ddir (f : List UInt8 → Option (Nd × List UInt8)) (l : List UInt8) : Option (Nd × List UInt8) := if 2000 < (rnum l false).1 ∨ (rnum l false).2.2 = true then none else (readK f (rnum l false).1 (rnum l false).2.1).map fun x => (⟨[], 2, false, [], x.1⟩, x.2)
def dtail (g : List UInt8 → Option (Nd × List UInt8)) (x : Nat) (r : List UInt8) : Option (Nd × List UInt8) := if x % 1000 = 1 then dfile r else if x % 1000 = 3 then dlink r else if x % 1000 = 2 then g r else none
def dnode (g : List UInt8 → Option (Nd × List UInt8)) (l : List UInt8) : Option (Nd × List UInt8) := if (rnum l false).2.2 = true then none else dtail g (rnum l false).1 (rnum l false).2.1
def dreadN : Nat → List UInt8 → Option (Nd × List UInt8)
  | 0 => dnode (fun _ => none)
  | d + 1 => dnode (ddir (dreadN d))
def dnext : Nat → List UInt8 → Option (Nd × List UInt8)
  | 0 => fun _ => none
  | d + 1 => ddir (dreadN d)
theorem dread_eq (d : Nat) (l : List UInt8) : dreadN d l = dnode (dnext d) l := by cases d <;> rfl
/-- lost or not -/
theorem dread_lost (d : Nat) (l : List UInt8) (lo : Bool) : (if lo then none else dreadN d l) = if (rnum l lo).2.2 = true then none else dtail (dnext d) (rnum l lo).1 (rnum l lo).2.1 := by
  cases lo
  · rw [if_neg (by simp), dread_eq]; rfl
  · rfl
theorem rnum_zero (l : List UInt8) (lo : Bool) : (rnum l lo).2.2 = true → (rnum l lo).1 = 0 := by
  unfold rnum
  cases lo
  · rw [if_neg (by simp)]
    cases Plain.cut l with
    | none => intro _; rfl
    | some x => intro h; cases h
  · intro _; rfl
theorem rnum_big (l : List UInt8) (lo : Bool) : (rnum l lo).1 < Plain.big := by
  unfold rnum
  cases lo
  · rw [if_neg (by simp)]
    cases hc : Plain.cut l with
    | none => decide
    | some x => exact (Plain.cut_back hc).2
  · show 0 < Plain.big; decide
theorem rtext_less (l : List UInt8) (lo : Bool) : (rtext l lo).2.1.length ≤ l.length := rtext_len l lo
theorem dfile_less : Less dfile := by
  intro l n r h
  unfold dfile at h
  split at h
  · have h1 := rnum_len l false
    have h2 := rtext_len (rnum l false).2.1 (rnum l false).2.2
    simp only [Option.some.injEq, Prod.mk.injEq] at h
    rw [← h.2]
    omega
  · cases h
theorem dlink_less : Less dlink := by
  intro l n r h
  unfold dlink at h
  split at h
  · have h2 := rtext_len l false
    simp only [Option.some.injEq, Prod.mk.injEq] at h
    rw [← h.2]
    omega
  · cases h
theorem ddir_less {f : List UInt8 → Option (Nd × List UInt8)} (hf : Less f) : Less (ddir f) := by
  intro l n r h
  unfold ddir at h
  split at h
  · cases h
  · have h1 := rnum_len l false
    simp only [Option.map_eq_some_iff, Prod.exists, Prod.mk.injEq] at h
    obtain ⟨ks', r', hk, _, rfl⟩ := h
    have := readK_less hf _ _ ks' r' hk
    omega
theorem dnode_less {g : List UInt8 → Option (Nd × List UInt8)} (hg : Less g) : Less (dnode g) := by
  intro l n r h
  unfold dnode dtail at h
  have h1 := rnum_len l false
  split at h
  · cases h
  · split at h
    · have := dfile_less _ _ _ h; omega
    · split at h
      · have := dlink_less _ _ _ h; omega
      · split at h
        · have := hg _ _ _ h; omega
        · cases h
theorem dreadN_less : ∀ d : Nat, Less (dreadN d)
  | 0 => dnode_less (fun _ _ _ h => by cases h)
  | d + 1 => dnode_less (ddir_less (dreadN_less d))
theorem dirCells_nd (ps : List Tri) (ao : Option Addr) (cap : Nat) : dirCells ao ps.length cap = Nd.cells ⟨[], 2, false, [], ps.map (·.1)⟩ ao cap := by
  simp [Nd.cells, dirCells, Nd.name, Nd.kind, Nd.exec, Nd.data, Nd.kids, bs]
/-- how such a reading ends -/
def ReadEnd (w w' : World) (rb d : Nat) (res : Option (Nd × List UInt8)) (e : Ending) : Prop := Touch [rb, rb] w w' ∧ match res with
  | none => ∃ (n : Nd) (ao : Option Addr) (cap : Nat), e = .returned (.tuple #[n.v ao cap, .bool false])
  | some (n, r) => (∃ (ao : Option Addr) (cap : Nat), e = .returned (.tuple #[n.v ao cap, .bool true]) ∧ Has (fun i => w.heap.size ≤ i) w' (d + 1) n ao) ∧ Rf w' rb r false
def DReads (d : Nat) : Prop := ∀ (rb : Nat) (l : List UInt8) (lo : Bool) (w : World), (lo = true → l = []) → Rf w rb l lo → l.length ≤ 1000000 →
  Calls Try.prog 35 #[.pointer (some ⟨rb, 0, none⟩), .int .i64 (d : Int)] w fun e w' => ReadEnd w w' rb d (if lo then none else dreadN d l) e

set_option maxHeartbeats 8000000 in
theorem dread_any (d : Nat) (hd : d ≤ 100) (ih : ∀ d', d = d' + 1 → DReads d') : DReads d := by
  intro rb l lo w hlo hR hl
  have IH := Lib.hid ih
  have HR := Lib.hid hR
  have hrlt : rb < w.heap.size := At.lt hR
  obtain ⟨RES, hRES⟩ : ∃ RES, RES = (if lo then none else dreadN d l) := ⟨_, rfl⟩
  rw [← hRES]
  rw [dread_lost] at hRES
  have hz := rnum_zero l lo
  have hbig := rnum_big l lo
  have hlen := rnum_len l lo
  have hlst := rnum_lost l lo hlo
  have HNUM := Lib.hid (fun u (h : Rf u rb l lo) => refNum_bs rb l lo u h (by omega) hlo)
  generalize rnum l lo = X at hz hbig hlen hlst HNUM hRES
  obtain ⟨x, l1, lo1⟩ := X
  simp only at hz hbig hlen hlst hRES
  have HRES := Lib.hid hRES
  have hx64 : x < 18446744073709551616 := hbig
  obtain ⟨K, hK⟩ : ∃ K, K = x % 1000 := ⟨_, rfl⟩
  have hK1 : K < 1000 := by omega
  have HLO := Lib.hid hlo
  have HLST := Lib.hid hlst
  have HZ := Lib.hid hz
  have HK := Lib.hid hK
  clear ih hR hbig hlo hlst hz hK hRES
  go_enter Try.func35, Try.ntmps35
  go_wp2_with (with_reducible refine alloc_any rfl 24 rfl _ zero_nd ?_; intro u hu bu zu; have HU := Lib.hid hu; have BU := Lib.hid bu; clear hu bu)
  refine (HNUM.out u (At.below HR.out BU.out (At.lt HR.out))).mono ?_
  rintro e w1 ⟨rfl, h1, o1⟩
  have t1 : Touch [rb, rb] u w1 := touch_only o1
  have z1 := t1.size
  have H1 := Lib.hid h1
  have HU1 := Lib.hid (HU.out.touch t1 (by simp; omega))
  have T1 := Lib.hid ((Touch.of_below BU.out).trans t1)
  clear h1 o1 t1 HU BU HNUM HR HLO
  by_cases k1 : K = 1
  · cases lo1 with
    | true => have := HZ.out rfl; have := HK.out; omega
    | false =>
    have hres : RES = dfile l1 := by rw [HRES.out]; unfold dtail; rw [← HK.out, k1]; rfl
    unfold dfile at hres
    have hlen2 := rnum_len l1 false
    have HNUM := Lib.hid (fun u (h : Rf u rb l1 false) => refNum_bs rb l1 false u h (by omega) (by simp))
    have hlst2 := rnum_lost l1 false (by simp)
    have hbig2 := rnum_big l1 false
    generalize rnum l1 false = X at hlen2 hlst2 hbig2 HNUM hres
    obtain ⟨x2, l2, lo2⟩ := X
    simp only at hlen2 hlst2 hbig2 hres
    have hx2 : x2 < 18446744073709551616 := hbig2
    have HTX := Lib.hid (fun u (h : Rf u rb l2 lo2) => refText_bs rb l2 lo2 u h (by omega) hlst2)
    generalize rtext l2 lo2 = Y at HTX hres
    obtain ⟨tx, l3, lo3⟩ := Y
    simp only at hres
    have HRES1 := Lib.hid hres
    clear hres hlst2 hbig2 HRES
    go_wp2_with (first
      | ((with_reducible refine hold_at 15 rfl ?_); unfold held; refine list_val rfl (run_rem1000 (.tmp 14) rfl x rfl) ?_; rw [← HK.out])
      | ((with_reducible refine hold_at 16 rfl ?_); unfold held; refine list_val rfl (run_cvu (.tmp 15) rfl K 1 (by omega) hK1 rfl) ?_)
      | ((with_reducible refine hold_at 17 rfl ?_); unfold held; refine list_val rfl (v := .agg (Nd.cells ⟨[], 1, false, [], []⟩ none 0).toArray) (w' := w1) (by kernel_rfl) ?_)
      | (with_reducible refine alloc_any rfl 24 rfl _ zero_nd ?_; intro u2 hu2 bu2 zu2; have HN2 := Lib.hid hu2; have BU2 := Lib.hid bu2; clear hu2 bu2)
      | (refine store_any rfl 24 (.tmp 6) (.tmp 17) rfl w1.heap.size rfl (Nd.cells ⟨[], 1, false, [], []⟩ none 0) rfl _ HN2.out rfl info_nd (nd_one _ _ _) ?_; intro u3 hu3 tu3; have HN3 := Lib.hid hu3; have c1 : u3.cell? ⟨w1.heap.size, 1, none⟩ = some (.int .i64 1) := hu3.cell 1 _ rfl; have z3 := tu3.size; have HU3 := Lib.hid ((HU1.out.below BU2.out HU1.out.lt).touch tu3 (by simp; have := HU1.out.lt; omega)); have H3 := Lib.hid (At.touch (At.below H1.out BU2.out (At.lt H1.out)) tu3 (by simp; have := At.lt H1.out; omega)); have T3 := Lib.hid ((T1.out.trans (Touch.of_below BU2.out)).step tu3 (by simp; right; omega)); clear hu3 tu3))
    clear HN2 BU2 HU1 H1 T1
    have hB6w : w.heap.size + 1 ≤ w1.heap.size := by omega
    have hB6l : w1.heap.size < u3.heap.size := HN3.out.lt
    refine (HNUM.out u3 H3.out).mono ?_
    rintro e w4 ⟨rfl, h4, o4⟩
    have t4 : Touch [rb, rb] u3 w4 := touch_only o4
    have H4 := Lib.hid h4
    have HU4 := Lib.hid (HU3.out.touch t4 (by simp; omega))
    have HN4 := Lib.hid (HN3.out.touch t4 (by simp; omega))
    have T4 := Lib.hid (T3.out.trans t4)
    have hb4 : w1.heap.size < w4.heap.size := HN4.out.lt
    clear h4 o4 t4 HU3 HN3 H3 T3 c1 HNUM
    have hx1 : (Value.bool ((x2 : Int) == 1)) = .bool (decide (x2 = 1)) := by
      congr 1
      rw [Bool.eq_iff_iff]
      simp
      omega
    go_wp2_with (first
      | (refine store_bool_any rfl (.tmp 26) (.tmp 25) rfl w1.heap.size 2 rfl (decide (x2 = 1)) (by first | rfl | exact hx1) _ (Nd.cells ⟨[], 1, decide (x2 = 1), [], []⟩ none 0) HN4.out (by simp [Nd.cells]) rfl ?_; intro w5 hu5 tu5; have HN5 := Lib.hid hu5; have H5 := Lib.hid (At.touch H4.out tu5 (by simp; omega)); have HU5 := Lib.hid (HU4.out.touch tu5 (by simp; omega)); have T5 := Lib.hid (T4.out.step tu5 (by simp; right; omega)); clear hu5 tu5))
    clear HN4 H4 HU4 T4
    refine (HTX.out w5 H5.out).mono ?_
    rintro e w6 ⟨rfl, h6, o6⟩
    have t6 : Touch [rb, rb] w5 w6 := touch_only o6
    have H6 := Lib.hid h6
    have HU6 := Lib.hid (HU5.out.touch t6 (by simp; omega))
    have HN6 := Lib.hid (HN5.out.touch t6 (by simp; omega))
    have T6 := Lib.hid (T5.out.trans t6)
    clear h6 o6 t6 HU5 HN5 H5 T5 HTX
    go_wp2_with (first
      | (refine store_str_any rfl (.tmp 29) (.tmp 28) rfl w1.heap.size 3 rfl tx rfl _ (Nd.cells ⟨[], 1, decide (x2 = 1), tx, []⟩ none 0) HN6.out (by simp [Nd.cells]) rfl ?_; intro w7 hu7 tu7; have HN7 := Lib.hid hu7; have H7 := Lib.hid (At.touch H6.out tu7 (by simp; omega)); have HU7 := Lib.hid (HU6.out.touch tu7 (by simp; omega)); have T7 := Lib.hid (T6.out.step tu7 (by simp; right; omega)); clear hu7 tu7))
    clear HN6 H6 HU6 T6
    have hU7 := HU7.out.lt
    have hN7 := HN7.out.lt
    have hR7 := At.lt H7.out
    by_cases hx : x2 ≤ 1
    · have hU9 := HU7.out.lt
      have hN9 := HN7.out.lt
      have hR9 := At.lt H7.out
      have S0 : Touch [w.heap.size] w7 w7.drew := (Touch.refl _ _).drew
      have A0 : At w7.drew w.heap.size 24 _ := HU7.out.below (below_drewN w7 1) hU9
      refine region_any (fun W => Touch [w.heap.size] w7 W) 9 (by kernel_rfl) ?_
      show wpAnyT _ _ _ _ _ _ _ _ _ w7.drew
      generalize w7.drew = v0 at S0 A0 ⊢
      refine wpAnyT_takeN (i := 0) (v := Nd.v ⟨[], 1, decide (x2 = 1), tx, []⟩ none 0) rfl (by decide) (by kernel_rfl) (by kernel_rfl) (by kernel_rfl) (fun _ _ _ h => h) (.inl ⟨by kernel_rfl, fun W hS => run_load_nd (.tmp 6) rfl ⟨w1.heap.size, 0, none⟩ (by kernel_rfl) ⟨[], 1, decide (x2 = 1), tx, []⟩ none 0 (fun j v hj => by rw [Addr.add0]; exact (HN7.out.touch hS (by simp; omega)).cell j v hj)⟩) S0 ?_
      refine wpAnyT_takeN (i := 1) (v := .int .u64 (x2 : Int)) rfl (by decide) (by kernel_rfl) (by kernel_rfl) (by kernel_rfl) (fun _ _ _ h => h) (.inl ⟨by kernel_rfl, fun W hS => by kernel_rfl⟩) S0 ?_
      refine wpAnyT_takeN (i := 2) (v := .bool true) rfl (by decide) (by kernel_rfl) (by kernel_rfl) (by kernel_rfl) (fun _ _ _ h => h) (.inl ⟨by kernel_rfl, fun W hS => run_leq1 (.tmp 31) rfl x2 true (decide_eq_true (by omega)) (by kernel_rfl)⟩) S0 ?_
      refine wpAnyT_takeN (i := 3) (v := .bool true) rfl (by decide) (by kernel_rfl) (by kernel_rfl) (by kernel_rfl) (fun _ _ _ h => h) (.inl ⟨by kernel_rfl, fun W hS => by kernel_rfl⟩) S0 ?_
      refine wpAnyT_takeN (i := 4) (v := .pointer (some ⟨rb, 0, none⟩)) rfl (by decide) (by kernel_rfl) (by kernel_rfl) (by kernel_rfl) (fun _ _ _ h => h) (.inl ⟨by kernel_rfl, fun W hS => by kernel_rfl⟩) S0 ?_
      refine wpAnyT_call (i := 5) (by kernel_rfl) rfl (by kernel_rfl) 61 #[.pointer (some ⟨rb, 0, none⟩)] (run_call_func rfl enters_rOK _ (by kernel_rfl)) ((refOK_any rb l3 lo3 v0 (At.touch H7.out S0 (by simp; omega))).mono ?_)
      rintro e v1 ⟨rfl, rfl⟩
      refine ⟨_, rfl, S0, ?_⟩
      refine wpAnyT_takeN (i := 6) (v := .bool (!lo3)) rfl (by decide) (by kernel_rfl) (by kernel_rfl) (by kernel_rfl) (fun _ _ _ h => h) (.inl ⟨by kernel_rfl, fun W hS => by kernel_rfl⟩) S0 ?_
      refine wpAnyT_store (i := 7) (by kernel_rfl) rfl (by kernel_rfl) (.tmp 4) (.tmp 30) rfl w.heap.size (by kernel_rfl) ⟨[], 1, decide (x2 = 1), tx, []⟩ none 0 (by kernel_rfl) _ A0 rfl (fun u8 hu8 tu8 => ?_)
      have S8 := S0.trans tu8
      refine ⟨S8, ?_⟩
      refine wpAnyT_takeN (i := 8) (v := .bool (!lo3)) rfl (by decide) (by kernel_rfl) (by kernel_rfl) (by kernel_rfl) (fun _ _ _ h => h) (.inl ⟨by kernel_rfl, fun W hS => by kernel_rfl⟩) S8 ?_
      refine wpAnyT_done (by kernel_rfl) ?_ _
      simp only [Act.put, List.getElem_toArray, List.getElem_cons_succ, List.getElem_cons_zero, List.setIfInBounds_toArray, List.set_cons_zero, List.set_cons_succ]
      go_wp2_with fail
      (try simp only [Exit.inBlock, Exit.then])
      refine bodyPost_ret (v := .tuple #[Nd.v ⟨[], 1, decide (x2 = 1), tx, []⟩ none 0, .bool (!lo3)]) (res_read _ _ w.heap.size (Nd.cells ⟨[], 1, decide (x2 = 1), tx, []⟩ none 0) (!lo3) rfl rfl hu8 rfl) rfl ⟨T7.out.step S8 (by simp), ?_⟩
      cases lo3
      · rw [HRES1.out, if_pos ⟨hx, rfl⟩]
        exact ⟨⟨none, 0, rfl, Has.leaf _ _ _ _ _ rfl⟩, At.touch H7.out S8 (by simp; omega)⟩
      · rw [HRES1.out, if_neg (by simp)]
        exact ⟨_, _, _, rfl⟩
    · have hU9 := HU7.out.lt
      have hN9 := HN7.out.lt
      have hR9 := At.lt H7.out
      have S0 : Touch [w.heap.size] w7 w7.drew := (Touch.refl _ _).drew
      have A0 : At w7.drew w.heap.size 24 _ := HU7.out.below (below_drewN w7 1) hU9
      refine region_any (fun W => Touch [w.heap.size] w7 W) 9 (by kernel_rfl) ?_
      show wpAnyT _ _ _ _ _ _ _ _ _ w7.drew
      generalize w7.drew = v0 at S0 A0 ⊢
      refine wpAnyT_takeN (i := 0) (v := Nd.v ⟨[], 1, decide (x2 = 1), tx, []⟩ none 0) rfl (by decide) (by kernel_rfl) (by kernel_rfl) (by kernel_rfl) (fun _ _ _ h => h) (.inl ⟨by kernel_rfl, fun W hS => run_load_nd (.tmp 6) rfl ⟨w1.heap.size, 0, none⟩ (by kernel_rfl) ⟨[], 1, decide (x2 = 1), tx, []⟩ none 0 (fun j v hj => by rw [Addr.add0]; exact (HN7.out.touch hS (by simp; omega)).cell j v hj)⟩) S0 ?_
      refine wpAnyT_takeN (i := 1) (v := .int .u64 (x2 : Int)) rfl (by decide) (by kernel_rfl) (by kernel_rfl) (by kernel_rfl) (fun _ _ _ h => h) (.inl ⟨by kernel_rfl, fun W hS => by kernel_rfl⟩) S0 ?_
      refine wpAnyT_takeN (i := 2) (v := .bool false) rfl (by decide) (by kernel_rfl) (by kernel_rfl) (by kernel_rfl) (fun _ _ _ h => h) (.inl ⟨by kernel_rfl, fun W hS => run_leq1 (.tmp 31) rfl x2 false (decide_eq_false (by omega)) (by kernel_rfl)⟩) S0 ?_
      refine wpAnyT_takeN (i := 3) (v := .bool false) rfl (by decide) (by kernel_rfl) (by kernel_rfl) (by kernel_rfl) (fun _ _ _ h => h) (.inl ⟨by kernel_rfl, fun W hS => by kernel_rfl⟩) S0 ?_
      refine wpAnyT_takeN (i := 4) (v := undef) rfl (by decide) (by kernel_rfl) (by kernel_rfl) (by kernel_rfl) (fun _ _ _ h => h) (.inr ⟨by kernel_rfl, rfl⟩) S0 ?_
      refine wpAnyT_takeN (i := 5) (v := undef) rfl (by decide) (by kernel_rfl) (by kernel_rfl) (by kernel_rfl) (fun _ _ _ h => h) (.inr ⟨by kernel_rfl, rfl⟩) S0 ?_
      refine wpAnyT_takeN (i := 6) (v := .bool false) rfl (by decide) (by kernel_rfl) (by kernel_rfl) (by kernel_rfl) (fun _ _ _ h => h) (.inl ⟨by kernel_rfl, fun W hS => by kernel_rfl⟩) S0 ?_
      refine wpAnyT_store (i := 7) (by kernel_rfl) rfl (by kernel_rfl) (.tmp 4) (.tmp 30) rfl w.heap.size (by kernel_rfl) ⟨[], 1, decide (x2 = 1), tx, []⟩ none 0 (by kernel_rfl) _ A0 rfl (fun u8 hu8 tu8 => ?_)
      have S8 := S0.trans tu8
      refine ⟨S8, ?_⟩
      refine wpAnyT_takeN (i := 8) (v := .bool false) rfl (by decide) (by kernel_rfl) (by kernel_rfl) (by kernel_rfl) (fun _ _ _ h => h) (.inl ⟨by kernel_rfl, fun W hS => by kernel_rfl⟩) S8 ?_
      refine wpAnyT_done (by kernel_rfl) ?_ _
      simp only [Act.put, List.getElem_toArray, List.getElem_cons_succ, List.getElem_cons_zero, List.setIfInBounds_toArray, List.set_cons_zero, List.set_cons_succ]
      go_wp2_with fail
      (try simp only [Exit.inBlock, Exit.then])
      refine bodyPost_ret (v := .tuple #[Nd.v ⟨[], 1, decide (x2 = 1), tx, []⟩ none 0, .bool false]) (res_read _ _ w.heap.size (Nd.cells ⟨[], 1, decide (x2 = 1), tx, []⟩ none 0) false rfl rfl hu8 rfl) rfl ⟨T7.out.step S8 (by simp), ?_⟩
      rw [HRES1.out, if_neg (fun h => hx h.1)]
      exact ⟨_, _, _, rfl⟩
  · by_cases k3 : K = 3
    · cases lo1 with
      | true => have := HZ.out rfl; have := HK.out; omega
      | false =>
      have hres : RES = dlink l1 := by rw [HRES.out]; unfold dtail; rw [← HK.out, k3]; rfl
      unfold dlink at hres
      have HTX := Lib.hid (fun u (h : Rf u rb l1 false) => refText_bs rb l1 false u h (by omega) (by simp))
      generalize rtext l1 false = Y at HTX hres
      obtain ⟨tx, l3, lo3⟩ := Y
      simp only at hres
      have HRES1 := Lib.hid hres
      clear hres HRES
      go_wp2_with (first
        | ((with_reducible refine hold_at 15 rfl ?_); unfold held; refine list_val rfl (run_rem1000 (.tmp 14) rfl x rfl) ?_; rw [← HK.out])
        | ((with_reducible refine hold_at 16 rfl ?_); unfold held; refine list_val rfl (run_cvu (.tmp 15) rfl K 3 (by omega) hK1 rfl) ?_)
        | ((with_reducible refine hold_at 17 rfl ?_); unfold held; refine list_val rfl (v := .agg (Nd.cells ⟨[], 3, false, [], []⟩ none 0).toArray) (w' := w1) (by kernel_rfl) ?_)
        | (with_reducible refine alloc_any rfl 24 rfl _ zero_nd ?_; intro u2 hu2 bu2 zu2; have HN2 := Lib.hid hu2; have BU2 := Lib.hid bu2; clear hu2 bu2)
        | (refine store_any rfl 24 (.tmp 6) (.tmp 17) rfl w1.heap.size rfl (Nd.cells ⟨[], 3, false, [], []⟩ none 0) rfl _ HN2.out rfl info_nd (nd_one _ _ _) ?_; intro u3 hu3 tu3; have HN3 := Lib.hid hu3; have c1 : u3.cell? ⟨w1.heap.size, 1, none⟩ = some (.int .i64 3) := hu3.cell 1 _ rfl; have z3 := tu3.size; have HU3 := Lib.hid ((HU1.out.below BU2.out HU1.out.lt).touch tu3 (by simp; have := HU1.out.lt; omega)); have H3 := Lib.hid (At.touch (At.below H1.out BU2.out (At.lt H1.out)) tu3 (by simp; have := At.lt H1.out; omega)); have T3 := Lib.hid ((T1.out.trans (Touch.of_below BU2.out)).step tu3 (by simp; right; omega)); clear hu3 tu3))
      clear HN2 BU2 HU1 H1 T1
      have hB6w : w.heap.size + 1 ≤ w1.heap.size := by omega
      have hB6l : w1.heap.size < u3.heap.size := HN3.out.lt
      refine (HTX.out u3 H3.out).mono ?_
      rintro e w6 ⟨rfl, h6, o6⟩
      have t6 : Touch [rb, rb] u3 w6 := touch_only o6
      have H6 := Lib.hid h6
      have HU6 := Lib.hid (HU3.out.touch t6 (by simp; omega))
      have HN6 := Lib.hid (HN3.out.touch t6 (by simp; omega))
      have T6 := Lib.hid (T3.out.trans t6)
      clear h6 o6 t6 HU3 HN3 H3 T3 HTX c1
      go_wp2_with (first
        | (refine store_str_any rfl (.tmp 41) (.tmp 40) rfl w1.heap.size 3 rfl tx rfl _ (Nd.cells ⟨[], 3, false, tx, []⟩ none 0) HN6.out (by simp [Nd.cells]) rfl ?_; intro w7 hu7 tu7; have HN7 := Lib.hid hu7; have H7 := Lib.hid (At.touch H6.out tu7 (by simp; omega)); have HU7 := Lib.hid (HU6.out.touch tu7 (by simp; omega)); have T7 := Lib.hid (T6.out.step tu7 (by simp; right; omega)); clear hu7 tu7))
      clear HN6 H6 HU6 T6
      have hU9 := HU7.out.lt
      have hN9 := HN7.out.lt
      have hR9 := At.lt H7.out
      have S0 : Touch [w.heap.size] w7 w7.drew := (Touch.refl _ _).drew
      have A0 : At w7.drew w.heap.size 24 _ := HU7.out.below (below_drewN w7 1) hU9
      refine region_any (fun W => Touch [w.heap.size] w7 W) 5 (by kernel_rfl) ?_
      show wpAnyT _ _ _ _ _ _ _ _ _ w7.drew
      generalize w7.drew = v0 at S0 A0 ⊢
      refine wpAnyT_takeN (i := 0) (v := Nd.v ⟨[], 3, false, tx, []⟩ none 0) rfl (by decide) (by kernel_rfl) (by kernel_rfl) (by kernel_rfl) (fun _ _ _ h => h) (.inl ⟨by kernel_rfl, fun W hS => run_load_nd (.tmp 6) rfl ⟨w1.heap.size, 0, none⟩ (by kernel_rfl) ⟨[], 3, false, tx, []⟩ none 0 (fun j v hj => by rw [Addr.add0]; exact (HN7.out.touch hS (by simp; omega)).cell j v hj)⟩) S0 ?_
      refine wpAnyT_takeN (i := 1) (v := .pointer (some ⟨rb, 0, none⟩)) rfl (by decide) (by kernel_rfl) (by kernel_rfl) (by kernel_rfl) (fun _ _ _ h => h) (.inl ⟨by kernel_rfl, fun W hS => by kernel_rfl⟩) S0 ?_
      refine wpAnyT_call (i := 2) (by kernel_rfl) rfl (by kernel_rfl) 61 #[.pointer (some ⟨rb, 0, none⟩)] (run_call_func rfl enters_rOK _ (by kernel_rfl)) ((refOK_any rb l3 lo3 v0 (At.touch H7.out S0 (by simp; omega))).mono ?_)
      rintro e v1 ⟨rfl, rfl⟩
      refine ⟨_, rfl, S0, ?_⟩
      refine wpAnyT_store (i := 3) (by kernel_rfl) rfl (by kernel_rfl) (.tmp 4) (.tmp 42) rfl w.heap.size (by kernel_rfl) ⟨[], 3, false, tx, []⟩ none 0 (by kernel_rfl) _ A0 rfl (fun u8 hu8 tu8 => ?_)
      have S8 := S0.trans tu8
      refine ⟨S8, ?_⟩
      refine wpAnyT_takeN (i := 4) (v := .bool (!lo3)) rfl (by decide) (by kernel_rfl) (by kernel_rfl) (by kernel_rfl) (fun _ _ _ h => h) (.inl ⟨by kernel_rfl, fun W hS => by kernel_rfl⟩) S8 ?_
      refine wpAnyT_done (by kernel_rfl) ?_ _
      simp only [Act.put, List.getElem_toArray, List.getElem_cons_succ, List.getElem_cons_zero, List.setIfInBounds_toArray, List.set_cons_zero, List.set_cons_succ]
      go_wp2_with fail
      (try simp only [Exit.inBlock, Exit.then])
      refine bodyPost_ret (v := .tuple #[Nd.v ⟨[], 3, false, tx, []⟩ none 0, .bool (!lo3)]) (res_read _ _ w.heap.size (Nd.cells ⟨[], 3, false, tx, []⟩ none 0) (!lo3) rfl rfl hu8 rfl) rfl ⟨T7.out.step S8 (by simp), ?_⟩
      cases lo3
      · rw [HRES1.out, if_pos rfl]
        exact ⟨⟨none, 0, rfl, Has.leaf _ _ _ _ _ rfl⟩, At.touch H7.out S8 (by simp; omega)⟩
      · rw [HRES1.out, if_neg (by simp)]
        exact ⟨_, _, _, rfl⟩
    · by_cases k2 : K = 2
      · cases lo1 with
        | true => have := HZ.out rfl; have := HK.out; omega
        | false =>
        have hres : RES = dnext d l1 := by rw [HRES.out]; unfold dtail; rw [← HK.out, k2]; rfl
        have hlen2 := rnum_len l1 false
        have HNUM := Lib.hid (fun u (h : Rf u rb l1 false) => refNum_bs rb l1 false u h (by omega) (by simp))
        have hbig2 := rnum_big l1 false
        obtain ⟨X, hX⟩ : ∃ X, X = rnum l1 false := ⟨_, rfl⟩
        rw [← hX] at hlen2 hbig2 HNUM
        have HX := Lib.hid hX
        obtain ⟨c, l2, lo2⟩ := X
        simp only at hlen2 hbig2
        have hc64 : c < 18446744073709551616 := hbig2
        have HRES1 := Lib.hid hres
        clear hres HRES hX hbig2
        go_wp2_with (first
          | ((with_reducible refine hold_at 15 rfl ?_); unfold held; refine list_val rfl (run_rem1000 (.tmp 14) rfl x rfl) ?_; rw [← HK.out])
          | ((with_reducible refine hold_at 16 rfl ?_); unfold held; refine list_val rfl (run_cvu (.tmp 15) rfl K 2 (by omega) hK1 rfl) ?_)
          | ((with_reducible refine hold_at 17 rfl ?_); unfold held; refine list_val rfl (v := .agg (Nd.cells ⟨[], 2, false, [], []⟩ none 0).toArray) (w' := w1) (by kernel_rfl) ?_)
          | (with_reducible refine alloc_any rfl 24 rfl _ zero_nd ?_; intro u2 hu2 bu2 zu2; have HN2 := Lib.hid hu2; have BU2 := Lib.hid bu2; clear hu2 bu2)
          | (refine store_any rfl 24 (.tmp 6) (.tmp 17) rfl w1.heap.size rfl (Nd.cells ⟨[], 2, false, [], []⟩ none 0) rfl _ HN2.out rfl info_nd (nd_one _ _ _) ?_; intro u3 hu3 tu3; have HN3 := Lib.hid hu3; have c1 : u3.cell? ⟨w1.heap.size, 1, none⟩ = some (.int .i64 2) := hu3.cell 1 _ rfl; have z3 := tu3.size; have HU3 := Lib.hid ((HU1.out.below BU2.out HU1.out.lt).touch tu3 (by simp; have := HU1.out.lt; omega)); have H3 := Lib.hid (At.touch (At.below H1.out BU2.out (At.lt H1.out)) tu3 (by simp; have := At.lt H1.out; omega)); have T3 := Lib.hid ((T1.out.trans (Touch.of_below BU2.out)).step tu3 (by simp; right; omega)); clear hu3 tu3))
        clear HN2 BU2 HU1 H1 T1
        have hB6w : w.heap.size + 1 ≤ w1.heap.size := by omega
        have hB6l : w1.heap.size < u3.heap.size := HN3.out.lt
        refine (HNUM.out u3 H3.out).mono ?_
        rintro e w4 ⟨rfl, h4, o4⟩
        have t4 : Touch [rb, rb] u3 w4 := touch_only o4
        have H4 := Lib.hid h4
        have HU4 := Lib.hid (HU3.out.touch t4 (by simp; omega))
        have HN4 := Lib.hid (HN3.out.touch t4 (by simp; omega))
        have T4 := Lib.hid (T3.out.trans t4)
        have hb4 : w1.heap.size < w4.heap.size := HN4.out.lt
        clear h4 o4 t4 HU3 HN3 H3 T3 c1 HNUM
        cases d with
        | zero =>
          go_wp2_with (first
            | (refine load_any rfl 24 (.tmp 6) rfl ⟨w1.heap.size, 0, none⟩ rfl (Nd.cells ⟨[], 2, false, [], []⟩ none 0) _ (fun j v hj => by rw [Addr.add0]; exact HN4.out.cell j v hj) Try.underlying24 rfl info_nd ?_)
            | (refine store_any rfl 24 (.tmp 4) (.tmp 60) rfl w.heap.size rfl (Nd.cells ⟨[], 2, false, [], []⟩ none 0) rfl _ HU4.out rfl info_nd (nd_one _ _ _) ?_; intro u8 hu8 tu8; have HU8 := Lib.hid hu8; have S8 := Lib.hid tu8; clear hu8 tu8))
          (try simp only [Exit.inBlock, Exit.then])
          refine bodyPost_ret (v := .tuple #[Nd.v ⟨[], 2, false, [], []⟩ none 0, .bool false]) (res_read _ _ w.heap.size (Nd.cells ⟨[], 2, false, [], []⟩ none 0) false rfl rfl HU8.out rfl) rfl ⟨T4.out.step S8.out (by simp), ?_⟩
          rw [HRES1.out]; unfold dnext
          exact ⟨_, _, _, rfl⟩
        | succ d =>
        have hd0 : (((d + 1 : Nat) : Int) == 0) = false := beq_eq_false_iff_ne.mpr (by omega)
        have hd1 : ((d : Int) + 1 == 0) = false := beq_eq_false_iff_ne.mpr (by omega)
        have hres : RES = if 2000 < c ∨ lo2 = true then none else (readK (dreadN d) c l2).map fun x => (⟨[], 2, false, [], x.1⟩, x.2) := by
          rw [HRES1.out]
          show ddir (dreadN d) l1 = _
          unfold ddir
          rw [← HX.out]
        have HRES2 := Lib.hid hres
        clear hres HRES1 HX
        by_cases h2k : 2000 < c
        · have h2k' : (2000 : Int) < c := by omega
          go_wp2_with (first
            | (refine load_any rfl 24 (.tmp 6) rfl ⟨w1.heap.size, 0, none⟩ rfl (Nd.cells ⟨[], 2, false, [], []⟩ none 0) _ (fun j v hj => by rw [Addr.add0]; exact HN4.out.cell j v hj) Try.underlying24 rfl info_nd ?_)
            | (refine store_any rfl 24 (.tmp 4) (.tmp 60) rfl w.heap.size rfl (Nd.cells ⟨[], 2, false, [], []⟩ none 0) rfl _ HU4.out rfl info_nd (nd_one _ _ _) ?_; intro u8 hu8 tu8; have HU8 := Lib.hid hu8; have S8 := Lib.hid tu8; clear hu8 tu8))
          (try simp only [Exit.inBlock, Exit.then])
          refine bodyPost_ret (v := .tuple #[Nd.v ⟨[], 2, false, [], []⟩ none 0, .bool false]) (res_read _ _ w.heap.size (Nd.cells ⟨[], 2, false, [], []⟩ none 0) false rfl rfl HU8.out rfl) rfl ⟨T4.out.step S8.out (by simp), ?_⟩
          rw [HRES2.out, if_pos (.inl h2k)]
          exact ⟨_, _, _, rfl⟩
        have h2k' : ¬ (2000 : Int) < c := by omega
        go_wp2_with fail
        refine (refOK_any rb l2 lo2 w4 H4.out).mono ?_
        rintro e w5 ⟨rfl, rfl⟩
        cases lo2 with
        | true =>
          go_wp2_with (first
            | (refine load_any rfl 24 (.tmp 6) rfl ⟨w1.heap.size, 0, none⟩ rfl (Nd.cells ⟨[], 2, false, [], []⟩ none 0) _ (fun j v hj => by rw [Addr.add0]; exact HN4.out.cell j v hj) Try.underlying24 rfl info_nd ?_)
            | (refine store_any rfl 24 (.tmp 4) (.tmp 60) rfl w.heap.size rfl (Nd.cells ⟨[], 2, false, [], []⟩ none 0) rfl _ HU4.out rfl info_nd (nd_one _ _ _) ?_; intro u8 hu8 tu8; have HU8 := Lib.hid hu8; have S8 := Lib.hid tu8; clear hu8 tu8))
          (try simp only [Exit.inBlock, Exit.then])
          refine bodyPost_ret (v := .tuple #[Nd.v ⟨[], 2, false, [], []⟩ none 0, .bool false]) (res_read _ _ w.heap.size (Nd.cells ⟨[], 2, false, [], []⟩ none 0) false rfl rfl HU8.out rfl) rfl ⟨T4.out.step S8.out (by simp), ?_⟩
          rw [HRES2.out, if_pos (.inr (by trivial))]
          exact ⟨_, _, _, rfl⟩
        | false =>
        have hres : RES = (readK (dreadN d) c l2).map fun x => (⟨[], 2, false, [], x.1⟩, x.2) := by rw [HRES2.out, if_neg (by simp; omega)]
        have HRES3 := Lib.hid hres
        clear hres HRES2
        go_wp2_with fail
        go_loopw [9] (fun i wx => ∃ (j : Nat) (ps : List Tri) (ao : Option Addr) (cap : Nat) (r : List UInt8), i = .int .u64 j ∧ j ≤ c ∧ ps.length + r.length ≤ l.length ∧ KidsAt (w1.heap.size + 1) wx (d + 1) ps ao cap ∧ At wx w1.heap.size 24 (dirCells ao ps.length cap) ∧ At wx w.heap.size 24 [.string ⟨#[]⟩, .int .i64 0, .bool false, .string ⟨#[]⟩, .slice none 0 0] ∧ Rf wx rb r false ∧ Touch [rb, rb] w wx ∧ w1.heap.size + 1 ≤ wx.heap.size ∧ RES = ((readK (dreadN d) (c - j) r).map fun x => (⟨[], 2, false, [], ps.map (·.1) ++ x.1⟩, x.2))) (fun i _ => c - (intOf i).toNat)
        case atStart => exact ⟨0, [], none, 0, l2, rfl, Nat.zero_le _, by simp; omega, KidsAt.nil _ _ _, HN4.out, HU4.out, H4.out, T4.out, by omega, by rw [HRES3.out]; rfl⟩
        clear HU4 HN4 H4 T4 HRES3
        case round =>
          obtain ⟨j, ps, ao, cap, r, rfl, hj, hpl, hK, hN, hZ, hR, hT, hz, hres⟩ := hrel
          have HKI := Lib.hid hK
          have HN := Lib.hid hN
          have HZZ := Lib.hid hZ
          have HR := Lib.hid hR
          have HT := Lib.hid hT
          have HRES := Lib.hid hres
          clear hK hN hZ hR hT hres
          by_cases hlt' : j < c
          · have hlt2 : (j : Int) < c := by omega
            have hcj : c - j = (c - (j + 1)) + 1 := by omega
            have hstep : readK (dreadN d) (c - j) r = match Plain.cutT r with | none => none | some (t, r1) => match dreadN d r1 with | none => none | some (m, r2) => (readK (dreadN d) (c - (j + 1)) r2).map fun x => (m.named t :: x.1, x.2) := by
              rw [hcj, readK_succ]
              rcases Plain.cutT r with _ | ⟨t, r1⟩
              · rfl
              · rfl
            have HSTEP := Lib.hid hstep
            have HTX := Lib.hid (refText_bs rb r false wr HR.out (by omega) (by simp))
            have hlst := rtext_lost r false (by simp)
            have hrl := rtext_len r false
            obtain ⟨Y, hY⟩ : ∃ Y, Y = rtext r false := ⟨_, rfl⟩
            rw [← hY] at HTX hlst hrl
            have HY := Lib.hid hY
            obtain ⟨tx, r1, lo3⟩ := Y
            simp only at hlst hrl
            have hr1 : lo3 = false → r1.length < r.length := fun e => by
              subst e
              have hh := HY.out
              unfold rtext at hh
              cases ht : Plain.cutT r with
              | none => simp [ht] at hh
              | some y =>
                have := cutT_lt ht
                simp [ht] at hh
                rw [hh.2]
                exact this.1
            have HLST := Lib.hid hlst
            have HR1 := Lib.hid hr1
            have hd71 : d < 9223372036854775807 := by omega
            clear hstep hcj hY hlst hr1
            go_wp2_with fail
            refine HTX.out.mono ?_
            rintro e w5 ⟨rfl, h5, o5⟩
            have t5 : Touch [rb, rb] wr w5 := touch_only o5
            have H5 := Lib.hid h5
            have T5 := Lib.hid t5
            have z5 := t5.size
            clear h5 t5 o5 HTX
            go_wp2_with ((with_reducible refine hold_at 71 rfl ?_); unfold held; refine list_val rfl (run_dec_op (.tmp 70) rfl d hd71 rfl) ?_)
            refine (IH.out d rfl rb r1 lo3 w5 HLST.out H5.out (by omega)).mono ?_
            rintro e w6 ⟨t6, h6⟩
            have z6 := t6.size
            have T6 := Lib.hid (T5.out.trans t6)
            have hnb : w1.heap.size ∉ [rb, rb] := by simp; omega
            have hnz : w.heap.size ∉ [rb, rb] := by simp; omega
            have HN6 := Lib.hid (HN.out.touch T6.out hnb)
            have HZ6 := Lib.hid (HZZ.out.touch T6.out hnz)
            have HK6 := Lib.hid (HKI.out.touch T6.out (by simp; omega) (fun i hi e => by have := HKI.out.new i hi; simp at e; omega))
            have hlo := HKI.out.own.lt
            have HLO := Lib.hid hlo
            clear t6 hlo HN HZZ HKI H5
            cases hn : (if lo3 then none else dreadN d r1) with
            | none =>
              rw [hn] at h6
              obtain ⟨n', ao', cap', rfl⟩ := h6
              have hnone : RES = none := by
                rw [HRES.out, HSTEP.out]
                have hh := HY.out
                unfold rtext at hh
                cases ht : Plain.cutT r with
                | none => rfl
                | some y =>
                  obtain ⟨a, b⟩ := y
                  simp [ht] at hh
                  obtain ⟨rfl, rfl, rfl⟩ := hh
                  rw [if_neg (by simp)] at hn
                  simp only [hn]
                  rfl
              have HNONE := Lib.hid hnone
              clear hn hnone HRES HSTEP HY HLST HR1
              go_wp2_with (first
                | (with_reducible refine alloc_any rfl 24 rfl _ zero_nd ?_; intro u7 hu7 bu7 zu7; have HV7 := Lib.hid hu7; have BU7 := Lib.hid bu7; clear hu7 bu7)
                | (refine store_any rfl 24 (.tmp 11) (.tmp 73) rfl w6.heap.size rfl (Nd.cells n' ao' cap') rfl _ HV7.out rfl info_nd (nd_one _ _ _) ?_; intro u8 hu8 tu8; have BU8 := Lib.hid (tu8.below BU7.out (by simp) (Nat.le_refl _)); have HN8 := Lib.hid (HN6.out.below BU8.out HN6.out.lt); have HZ8 := Lib.hid (HZ6.out.below BU8.out HZ6.out.lt); clear hu8 tu8)
                | (refine load_any rfl 24 (.tmp 6) rfl ⟨w1.heap.size, 0, none⟩ rfl (dirCells ao ps.length cap) _ (fun j v hj => by rw [Addr.add0]; exact HN8.out.cell j v hj) Try.underlying24 rfl info_nd ?_)
                | (refine store_any rfl 24 (.tmp 4) (.tmp 77) rfl w.heap.size rfl (dirCells ao ps.length cap) rfl _ HZ8.out rfl info_nd (dir_one _ _ _) ?_; intro u9 hu9 tu9; have HU9 := Lib.hid hu9; have S9 := Lib.hid tu9; clear hu9 tu9))
              (try simp only [Exit.inBlock, Exit.then])
              refine bodyPost_ret (v := .tuple #[.agg (dirCells ao ps.length cap).toArray, .bool false]) (res_read _ _ w.heap.size (dirCells ao ps.length cap) false rfl rfl HU9.out rfl) rfl ⟨((HT.out.trans T6.out).trans (Touch.of_below BU8.out)).step S9.out (by simp), ?_⟩
              rw [HNONE.out]
              exact ⟨⟨[], 2, false, [], ps.map (·.1)⟩, ao, cap, by rw [dirCells_nd]; rfl⟩
            | some y =>
              obtain ⟨m, r2⟩ := y
              rw [hn] at h6
              obtain ⟨⟨ao6, cap6, rfl, hH6⟩, hR6⟩ := h6
              have hlo3 : lo3 = false := by cases lo3 with | false => rfl | true => cases hn
              subst hlo3
              rw [if_neg (by simp)] at hn
              have hr2 := dreadN_less d r1 m r2 hn
              have hr1' := HR1.out rfl
              have hres2 : RES = ((readK (dreadN d) (c - (j + 1)) r2).map fun x => (⟨[], 2, false, [], (ps ++ [(m.named tx, ao6, cap6)]).map (·.1) ++ x.1⟩, x.2)) := by
                have hh := HY.out
                unfold rtext at hh
                cases ht : Plain.cutT r with
                | none => simp [ht] at hh
                | some y =>
                  obtain ⟨a, b⟩ := y
                  simp [ht] at hh
                  obtain ⟨rfl, rfl⟩ := hh
                  rw [HRES.out, HSTEP.out, ht]
                  simp only [hn, Option.map_map]
                  congr 1
                  funext x
                  simp
              have HRES2 := Lib.hid hres2
              have HH6 := Lib.hid hH6
              have HR6 := Lib.hid hR6
              clear hn hH6 hR6 hres2 HRES HSTEP HY HLST HR1 HR T5
              obtain ⟨mn, mk, me, md, mks⟩ := m
              have hhk : Has (fun i => w1.heap.size + 1 ≤ i ∧ i ∉ blk ao) w6 (d + 1) ⟨tx, mk, me, md, mks⟩ ao6 := (HH6.out.named tx).mono (fun i (hi : w5.heap.size ≤ i) _ => ⟨by omega, fun e => by have := HLO.out i e; omega⟩)
              have HHK := Lib.hid hhk
              clear hhk HH6
              go_wp2_with (first
                | (with_reducible refine alloc_any rfl 24 rfl _ zero_nd ?_; intro u7 hu7 bu7 zu7; have HV7 := Lib.hid hu7; have BU7 := Lib.hid bu7; clear hu7 bu7)
                | (refine store_any rfl 24 (.tmp 11) (.tmp 73) rfl w6.heap.size rfl (Nd.cells ⟨mn, mk, me, md, mks⟩ ao6 cap6) rfl _ HV7.out rfl info_nd (nd_one _ _ _) ?_; intro u8 hu8 tu8; have HV8 := Lib.hid hu8; have BU8 := Lib.hid (tu8.below BU7.out (by simp) (Nat.le_refl _)); clear hu8 tu8)
                | (refine store_str_any rfl (.tmp 79) (.tmp 78) rfl w6.heap.size 0 rfl tx rfl _ (Nd.cells ⟨tx, mk, me, md, mks⟩ ao6 cap6) HV8.out (by simp [Nd.cells]) rfl ?_; intro u9 hu9 tu9; have HV9 := Lib.hid hu9; have BU9 := Lib.hid (tu9.below BU8.out (by simp) (Nat.le_refl _)); have HN9 := Lib.hid (HN6.out.below BU9.out HN6.out.lt); have c4 := HN9.out.cell 4 _ rfl; clear hu9 tu9)
                | (refine load_any rfl 24 (.tmp 11) rfl ⟨w6.heap.size, 0, none⟩ rfl (Nd.cells ⟨tx, mk, me, md, mks⟩ ao6 cap6) _ (fun j v hj => by rw [Addr.add0]; exact HV9.out.cell j v hj) Try.underlying24 rfl info_nd ?_)
                | (refine build_nd rfl (.tmp 82) rfl (Nd.cells ⟨tx, mk, me, md, mks⟩ ao6 cap6) rfl rfl ?_; intro u10 hu10 bu10 zu10; obtain ⟨ao7, cap7, w11, hrun, K11, T11⟩ := (HK6.out.below BU9.out).append2 (⟨tx, mk, me, md, mks⟩, ao6, cap6) (HHK.out.below BU9.out) (by omega) (by have := BU9.out.size; omega) bu10 hu10; have HRUN := Lib.hid hrun; have HK11 := Lib.hid K11; have HT11 := Lib.hid T11; have BU10 := Lib.hid (BU9.out.trans (bu10.mono BU9.out.size)); clear hrun K11 T11 hu10 bu10)
                | (refine list_val rfl (run_append_op (.tmp 81) (.tmp 83) 22 22 rfl (.slice ao ps.length cap) (.slice (some ⟨u9.heap.size, 0, none⟩) 1 1) rfl rfl HRUN.out) ?_; have HN11 := Lib.hid ((HN6.out.below BU10.out HN6.out.lt).touch HT11.out (fun e => by have := HK6.out.new _ e; omega)))
                | (refine store_slice_any rfl (.tmp 85) (.tmp 84) rfl w1.heap.size 4 rfl ao7 (ps.length + 1) cap7 rfl _ (dirCells ao7 (ps.length + 1) cap7) HN11.out (by simp [dirCells]) rfl ?_; intro u12 hu12 tu12; have HN12 := Lib.hid hu12; have TU12 := Lib.hid tu12; clear hu12 tu12))
              have hK10 := HK6.out.below BU10.out
              have hR11 := (At.below HR6.out BU10.out (At.lt HR6.out)).touch HT11.out (fun e => by have := HK6.out.new _ e; omega)
              have hR12 := hR11.touch TU12.out (by simp; omega)
              have hZ12 := ((HZ6.out.below BU10.out HZ6.out.lt).touch HT11.out (fun e => by have := HK6.out.new _ e; omega)).touch TU12.out (by simp; omega)
              have hK12 := HK11.out.touch TU12.out (by simp) (fun i hi e => by have := HK11.out.new i hi; simp at e; omega)
              have hT12 : Touch [rb, rb] w u12 := (((HT.out.trans T6.out).trans (Touch.of_below BU10.out)).step HT11.out (fun i hi => .inr (by have := HK6.out.new i hi; omega))).step TU12.out (by simp; right; omega)
              have hzz : w1.heap.size + 1 ≤ u12.heap.size := by have := TU12.out.size; have := HT11.out.size; have := BU10.out.size; omega
              go_roundw
              case rel => exact ⟨j + 1, ps ++ [(⟨tx, mk, me, md, mks⟩, ao6, cap6)], ao7, cap7, r2, by go_num, by omega, by simp; omega, hK12, by simpa using HN12.out, hZ12, hR12, hT12, hzz, HRES2.out⟩
              case measure => simp [intOf] <;> omega
          · obtain rfl : j = c := by omega
            have hfin : RES = some (⟨[], 2, false, [], ps.map (·.1)⟩, r) := by rw [HRES.out, Nat.sub_self]; simp [readK]
            have HFIN := Lib.hid hfin
            clear hfin HRES
            have hlt3 : ¬ (j : Int) < j := by omega
            have hND := HN.out
            rw [dirCells_nd] at hND
            have HND := Lib.hid hND
            clear hND HN
            go_wp2_with fail
            have hU9 := HZZ.out.lt
            have hN9 := HND.out.lt
            have hR9 := At.lt HR.out
            have S0 : Touch [w.heap.size] wr wr.drew := (Touch.refl _ _).drew
            have A0 : At wr.drew w.heap.size 24 _ := HZZ.out.below (below_drewN wr 1) hU9
            refine region_any (fun W => Touch [w.heap.size] wr W) 5 (by kernel_rfl) ?_
            show wpAnyT _ _ _ _ _ _ _ _ _ wr.drew
            generalize wr.drew = v0 at S0 A0 ⊢
            refine wpAnyT_takeN (i := 0) (v := Nd.v ⟨[], 2, false, [], ps.map (·.1)⟩ ao cap) rfl (by decide) (by kernel_rfl) (by kernel_rfl) (by kernel_rfl) (fun _ _ _ h => h) (.inl ⟨by kernel_rfl, fun W hS => run_load_nd (.tmp 6) rfl ⟨w1.heap.size, 0, none⟩ (by kernel_rfl) ⟨[], 2, false, [], ps.map (·.1)⟩ ao cap (fun j v hj => by rw [Addr.add0]; exact (HND.out.touch hS (by simp; omega)).cell j v hj)⟩) S0 ?_
            refine wpAnyT_takeN (i := 1) (v := .pointer (some ⟨rb, 0, none⟩)) rfl (by decide) (by kernel_rfl) (by kernel_rfl) (by kernel_rfl) (fun _ _ _ h => h) (.inl ⟨by kernel_rfl, fun W hS => by kernel_rfl⟩) S0 ?_
            refine wpAnyT_call (i := 2) (by kernel_rfl) rfl (by kernel_rfl) 61 #[.pointer (some ⟨rb, 0, none⟩)] (run_call_func rfl enters_rOK _ (by kernel_rfl)) ((refOK_any rb r false v0 (At.touch HR.out S0 (by simp; omega))).mono ?_)
            rintro e v1 ⟨rfl, rfl⟩
            refine ⟨_, rfl, S0, ?_⟩
            refine wpAnyT_store (i := 3) (by kernel_rfl) rfl (by kernel_rfl) (.tmp 4) (.tmp 86) rfl w.heap.size (by kernel_rfl) ⟨[], 2, false, [], ps.map (·.1)⟩ ao cap (by kernel_rfl) _ A0 rfl (fun u8 hu8 tu8 => ?_)
            have S8 := S0.trans tu8
            refine ⟨S8, ?_⟩
            refine wpAnyT_takeN (i := 4) (v := .bool true) rfl (by decide) (by kernel_rfl) (by kernel_rfl) (by kernel_rfl) (fun _ _ _ h => h) (.inl ⟨by kernel_rfl, fun W hS => by kernel_rfl⟩) S8 ?_
            refine wpAnyT_done (by kernel_rfl) ?_ _
            simp only [Act.put, List.getElem_toArray, List.getElem_cons_succ, List.getElem_cons_zero, List.setIfInBounds_toArray, List.set_cons_zero, List.set_cons_succ]
            go_wp2_with fail
            (try simp only [Exit.inBlock, Exit.then])
            refine bodyPost_ret (v := .tuple #[Nd.v ⟨[], 2, false, [], ps.map (·.1)⟩ ao cap, .bool true]) (res_read _ _ w.heap.size (Nd.cells ⟨[], 2, false, [], ps.map (·.1)⟩ ao cap) true rfl rfl hu8 rfl) rfl ⟨HT.out.step S8 (by simp), ?_⟩
            rw [HFIN.out]
            have hK8 := HKI.out.touch S8 (by simp; omega) (fun i hi e => by have := HKI.out.new i hi; simp at e; omega)
            exact ⟨⟨ao, cap, rfl, (hK8.node ⟨[], 2, false, [], ps.map (·.1)⟩ rfl).mono (fun i (h : w1.heap.size + 1 ≤ i) _ => (by omega : w.heap.size ≤ i))⟩, At.touch HR.out S8 (by simp; omega)⟩
      · have k1' : ((K : Int) == 1) = false := beq_eq_false_iff_ne.mpr (by omega)
        have k2' : ((K : Int) == 2) = false := beq_eq_false_iff_ne.mpr (by omega)
        have k3' : ((K : Int) == 3) = false := beq_eq_false_iff_ne.mpr (by omega)
        have hres : RES = none := by
          rw [HRES.out]
          split
          · rfl
          · unfold dtail; rw [← HK.out, if_neg k1, if_neg k3, if_neg k2]
        have HNONE := Lib.hid hres
        clear hres HRES
        go_wp2_with (first
          | ((with_reducible refine hold_at 15 rfl ?_); unfold held; refine list_val rfl (run_rem1000 (.tmp 14) rfl x rfl) ?_; rw [← HK.out])
          | ((with_reducible refine hold_at 16 rfl ?_); unfold held; refine list_val rfl (run_cvu (.tmp 15) rfl K (K : Int) (by omega) hK1 rfl) ?_)
          | ((with_reducible refine hold_at 17 rfl ?_); unfold held; refine list_val rfl (v := .agg (Nd.cells ⟨[], (K : Int), false, [], []⟩ none 0).toArray) (w' := w1) (by kernel_rfl) ?_)
          | (refine load_any rfl 24 (.tmp 6) rfl ⟨w1.heap.size, 0, none⟩ rfl (Nd.cells ⟨[], (K : Int), false, [], []⟩ none 0) _ (fun j v hj => by rw [Addr.add0]; exact HN3.out.cell j v hj) Try.underlying24 rfl info_nd ?_)
          | (refine store_any rfl 24 (.tmp 4) (.tmp 89) rfl w.heap.size rfl (Nd.cells ⟨[], (K : Int), false, [], []⟩ none 0) rfl _ HU3.out rfl info_nd (nd_one _ _ _) ?_; intro u8 hu8 tu8; have HU8 := Lib.hid hu8; have S8 := Lib.hid tu8; clear hu8 tu8)
          | (with_reducible refine alloc_any rfl 24 rfl _ zero_nd ?_; intro u2 hu2 bu2 zu2; have HN2 := Lib.hid hu2; have BU2 := Lib.hid bu2; clear hu2 bu2)
          | (refine store_any rfl 24 (.tmp 6) (.tmp 17) rfl w1.heap.size rfl (Nd.cells ⟨[], (K : Int), false, [], []⟩ none 0) rfl _ HN2.out rfl info_nd (nd_one _ _ _) ?_; intro u3 hu3 tu3; have HN3 := Lib.hid hu3; have c1 : u3.cell? ⟨w1.heap.size, 1, none⟩ = some (.int .i64 (K : Int)) := hu3.cell 1 _ rfl; have z3 := tu3.size; have HU3 := Lib.hid ((HU1.out.below BU2.out HU1.out.lt).touch tu3 (by simp; have := HU1.out.lt; omega)); have H3 := Lib.hid (At.touch (At.below H1.out BU2.out (At.lt H1.out)) tu3 (by simp; have := At.lt H1.out; omega)); have T3 := Lib.hid ((T1.out.trans (Touch.of_below BU2.out)).step tu3 (by simp; right; omega)); clear hu3 tu3))
        clear HN2 BU2 HU1 H1 T1
        have hB6w : w.heap.size + 1 ≤ w1.heap.size := by omega
        have hB6l : w1.heap.size < u3.heap.size := HN3.out.lt
        (try simp only [Exit.inBlock, Exit.then])
        refine bodyPost_ret (v := .tuple #[Nd.v ⟨[], (K : Int), false, [], []⟩ none 0, .bool false]) (res_read _ _ w.heap.size (Nd.cells ⟨[], (K : Int), false, [], []⟩ none 0) false rfl rfl HU8.out rfl) rfl ⟨T3.out.step S8.out (by simp), ?_⟩
        rw [HNONE.out]
        exact ⟨_, _, _, rfl⟩
end Go.Proofs.Ytdpeblchndfdaaa
