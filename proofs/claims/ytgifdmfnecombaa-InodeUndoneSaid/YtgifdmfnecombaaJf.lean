/- works: a directory, and a file in it. -/
import Derived.Test.YtgifdmfnecombaaJe
namespace Go.Proofs.Ytgifdmfnecombaa
open Go.RowKit
set_option maxRecDepth 100000
theorem list_val_g {ops : Array Oper} {rest : List Oper} {op : Oper} {a : Act} {w w' : World} {Q : Exit → Act → World → Prop} (hw : Region.wanted op (yielded ops a.tmps) = true) {v : Value} (hr : (execOp a.eval op).run Try.prog w = .ok (.value v) w')
    (h : wpList Try.prog ops Q rest (a.put op.dst v) w') : wpList Try.prog ops Q (op :: rest) a w :=
  wpList_step fun K hK => by
    simp only [hw, if_true]
    unfold Oper.wp
    rw [hr]
    exact hK _ _ h
theorem load_any_g {ops : Array Oper} {rest : List Oper} {op : Oper} {a : Act} {w : World} {Q : Exit → Act → World → Prop} (hw : Region.wanted op (yielded ops a.tmps) = true) (ty : TypeId) (x : Operand) (ho : op.op = .load ty x)
    (p : Addr) (hx : a.eval x = .pointer (some p)) (cs : List Value) (d : TypeDesc) (hc : ∀ j v, cs[j]? = some v → w.cell? (p.add j) = some v)
    (hu : Try.prog.underlying ty = some d) (hd : d.isRow = true) (hi : (Try.prog.info? ty).map (·.size) = some cs.length)
    (h : wpList Try.prog ops Q rest (a.put op.dst (.agg cs.toArray)) w) : wpList Try.prog ops Q (op :: rest) a w := by
  have hl : (loadCells p cs.length).run Try.prog w = .ok cs.toArray w := run_loadCells_list (P := Try.prog) w p cs hc
  refine list_val_g hw (v := .agg cs.toArray) (w' := w) ?_ h
  cases hq : Try.prog.info? ty with
  | none => simp [hq] at hi
  | some i =>
    have hs : i.size = cs.length := by simpa [hq] using hi
    have hagg : (isAgg ty).run Try.prog w = .ok true w := by
      unfold isAgg
      rw [Sem.run_bind, run_underlying hu w]
      cases d <;> simp_all
    unfold execOp
    simp only [ho, hx, Instr.loadAt, Instr.sureAddr, Sem.run_bind, Sem.run_pure, Result.andThen_ok]
    simp [loadVar, Sem.run_bind, hagg, sizeOf, typeInfo, hq, hs, hl]
theorem make_ok {w0 w : World} {tb : Nat} {D : Doc} {n : Nat} {av : Nat → Prop} (h : Holds w0 w tb D n av) (hn : n + 1 ≤ 100000) (d : Int) (hd : (Lit.int .i64 d).wf = true) (s : List UInt8) (hs : s.length ≤ 1000000) (ha : Asc s) (k m : Int) (dt : List UInt8) (hdt : dt.length ≤ 1000000000000)
    (y r : Int) (hy : (if makeE D.tab d s k m dt = 0 then (D.L.length : Int) + 1 else 0) = y) (hr : makeE D.tab d s k m dt = r) (D' : Doc) (hD : D.made d s k m dt = D') :
    Calls Try.prog 15 #[tabV tb, .int .i64 d, .string (bs s), .int .i64 k, .int .i64 m, .string (bs dt)] w fun e w' => e = .returned (.tuple #[.int .i64 y, .int .i64 r]) ∧ Holds w0 w' tb D' (n + 1) av ∧ Keeps av w w' := by
  have := holds_make h hn d hd s hs ha k m dt hdt
  rw [hy, hr, hD] at this
  exact this
theorem node_ok {w0 w : World} {tb : Nat} {D : Doc} {n : Nat} {av : Nat → Prop} (h : Holds w0 w tb D n av) (d : Int) (hd : (Lit.int .i64 d).wf = true) (o : Option Ino) (ho : D.ino d = o) :
    Calls Try.prog 10 #[tabV tb, .int .i64 d] w fun e w' => e = .returned (.tuple #[.agg (toldV o).toArray, .bool o.isSome]) ∧ Below w.heap.size w w' := by
  have := holds_node h d hd
  rw [ho] at this
  exact this
def asc (s : List UInt8) : Bool := s.all fun b => decide (b.toNat < 128)
theorem asc_of {s : List UInt8} (h : asc s = true) : Asc s := fun j b hb => by
  have := List.all_eq_true.mp h b (List.mem_of_getElem? hb)
  simpa using this
namespace Wk
def D0 : Doc := newD 4 10
def D1 : Doc := D0.made 1 [100] 2 493 []
def D2 : Doc := D1.made 2 [102] 1 420 [104, 105]
end Wk
set_option maxHeartbeats 4000000 in
theorem works7_any (w : World) : Calls Try.prog 14 #[] w fun e w' => e = .returned (.bool true) ∧ Below w.heap.size w w' := by
  go_enter Try.func14, Try.ntmps14
  go_wp2_with (refine list_val (op := { dst := some 8, op := _, type := _, pos := _, after := _, guard := _ }) rfl (v := .agg (quotaV 4 10).toArray) (w' := w) (by kernel_rfl) ?_)
  refine (holds_new w w (Below.refl _ w) (fun _ => False) (fun _ h => h.elim) 4 10 (by omega) (by omega) (by omega)).mono ?_
  rintro e w1 ⟨tb, rfl, h1, _⟩
  have H1 := Lib.hid h1
  clear h1
  unfold tabV
  go_wp2_with fail
  refine (make_ok H1.out (by omega) 1 (by decide) [100] (by decide) (asc_of (by decide)) 2 493 [] (by decide) 2 0 (by kernel_rfl) (by kernel_rfl) Wk.D1 rfl).mono ?_
  rintro e w2 ⟨rfl, h2, _⟩
  have H2 := Lib.hid h2
  clear h2
  go_wp2_with fail
  refine (make_ok H2.out (by omega) 2 (by decide) [102] (by decide) (asc_of (by decide)) 1 420 [104, 105] (by decide) 3 0 (by kernel_rfl) (by kernel_rfl) Wk.D2 rfl).mono ?_
  rintro e w3 ⟨rfl, h3, _⟩
  have H3 := Lib.hid h3
  clear h3
  go_wp2_with fail
  refine (node_ok H3.out 3 (by decide) (some (fresh 1 420 [104, 105] 1)) (by kernel_rfl)).mono ?_
  rintro e w4 ⟨rfl, b4⟩
  have H4 := Lib.hid (H3.out.below b4)
  clear b4
  go_wp2_with (first
    | (with_reducible refine alloc_any rfl 35 rfl _ zero_ino ?_; intro u hu bu zu; have HU := Lib.hid hu; have BU := Lib.hid (H4.out.fresh bu); clear hu bu)
    | (refine store_any rfl 35 (.tmp 6) (.tmp 27) rfl w4.heap.size rfl (toldV (some (fresh 1 420 [104, 105] 1))) rfl _ HU.out rfl info_ino (told_one _) ?_; intro u9 hu9 tu9; have HU9 := Lib.hid hu9; have HT9 := Lib.hid (BU.out.touch tu9 (fun b hb => by obtain rfl := List.mem_singleton.mp hb; exact ⟨.inr (by rw [zu]; omega), H4.out.size⟩)); clear hu9 tu9)
    | (refine load_any_g (by kernel_rfl) 35 (.tmp 6) rfl ⟨w4.heap.size, 0, none⟩ rfl (toldV (some (fresh 1 420 [104, 105] 1))) _ (fun j v hj => by rw [Addr.add0]; exact HU9.out.cell j v hj) Try.underlying35 rfl info_ino ?_)
    | (refine list_val_g (op := { dst := some 48, op := _, type := _, pos := _, after := _, guard := _ }) (by kernel_rfl) (v := .agg (toldV (some (fresh 1 420 [104, 105] 1))).toArray) (w' := u9) (by kernel_rfl) ?_)
    | (refine list_val_g (op := { dst := some 49, op := _, type := _, pos := _, after := _, guard := _ }) (by kernel_rfl) (v := .bool true) (w' := u9) (by kernel_rfl) ?_))
  refine (holds_up HT9.out 2 (by decide)).mono ?_
  rintro e w5 ⟨rfl, b5⟩
  rw [show upT Wk.D2.tab 2 = 1 by kernel_rfl]
  have H5 := Lib.hid (HT9.out.below b5)
  clear b5
  go_wp2_with fail
  refine (holds_used H5.out).mono ?_
  rintro e w6 ⟨rfl, b6⟩
  rw [show Wk.D2.inodes = 3 by kernel_rfl, show Wk.D2.bytes = 2 by kernel_rfl]
  have H6 := Lib.hid (H5.out.below b6)
  clear b6
  go_wp2_with (first
    | (refine list_val_g (op := { dst := some 60, op := _, type := _, pos := _, after := _, guard := _ }) (by kernel_rfl) (v := .agg (quotaV 3 2).toArray) (w' := w6) (by kernel_rfl) ?_)
    | (refine list_val_g (op := { dst := some 61, op := _, type := _, pos := _, after := _, guard := _ }) (by kernel_rfl) (v := .bool true) (w' := w6) (by kernel_rfl) ?_))
  go_ret
  exact ⟨rfl, H6.out.b⟩
end Go.Proofs.Ytgifdmfnecombaa
