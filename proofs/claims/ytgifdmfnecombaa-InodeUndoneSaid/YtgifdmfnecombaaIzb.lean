/- New. -/
import Derived.Test.YtgifdmfnecombaaIza
namespace Go.Proofs.Ytgifdmfnecombaa
open Go.RowKit
set_option maxRecDepth 100000
section
variable {ops : Array Oper} {rest : List Oper} {op : Oper} {a : Act} {w : World} {Q : Exit → Act → World → Prop}
theorem make_inodes (hgd : op.guard = none) (ho : op.op = .makeMap 57 none)
    (h : ∀ u, IMap u w.heap.size 0 (fun _ => none) 0 → Below w.heap.size w u → u.heap.size = w.heap.size + 1 → wpList Try.prog ops Q rest (a.put op.dst (.map (some w.heap.size))) u) : wpList Try.prog ops Q (op :: rest) a w := by
  refine list_val hgd (v := .map (some w.heap.size)) (w' := w.alloc (.map #[] 0)) ?_ (h _ (IMap.made w) ((Below.refl _ w).alloc (Nat.le_refl _) _) (by rw [World.size_alloc]))
  unfold execOp
  simp [ho, Instr.makeMap, run_underlying Try.underlying57, go_sem]
end
/-- a table of nothing -/
def emptyT (qi qb : Nat) : Tab := ⟨fun _ => none, 0, 0, 0, qi, qb⟩
def emptyP (bm : Nat) : Place := ⟨bm, 0, fun _ => none, fun _ => 0, fun _ => 0⟩
theorem empty_at {base : Nat} {w : World} {tb bm qi qb : Nat} (h1 : At w tb 59 ((emptyT qi qb).cells bm)) (h2 : IMap w bm 0 (fun _ => none) 0) (hb : base ≤ tb) (hm : base ≤ bm) : TabAt base w tb (emptyT qi qb) (emptyP bm) :=
  ⟨h1, h2, fun _ => rfl, (fun _ _ _ h => by cases h), (fun _ _ _ h => by cases h), (fun _ _ _ _ h => by cases h), (fun _ _ h => by cases h), ⟨hb, hm⟩, (fun _ _ h => by cases h), (fun _ _ h => by cases h)⟩
def rootI : Ino := ⟨2, 493, [], 1, 1, fun _ => none, 0⟩
def newT (qi qb : Nat) : Tab := (addT (emptyT qi qb) (fresh 2 493 [] 1)).setI 1 rootI
set_option maxHeartbeats 4000000 in
theorem new_any (w : World) (qi qb : Nat) (h1 : 1 ≤ qi) (h2 : qi ≤ 1048576) (h3 : qb ≤ 1073741824) :
    Calls Try.prog 7 #[.agg (quotaV (qi : Int) (qb : Int)).toArray] w fun e w' => ∃ tb p, e = .returned (tabV tb) ∧ TabAt w.heap.size w' tb (newT qi qb) p ∧ Below w.heap.size w w' ∧ p.n ≤ 1 ∧ ∀ k, p.m k ≤ 0 := by
  have d1 : decide ((qi : Int) < 1) = false := decide_eq_false (by omega)
  have d2 : decide ((1048576 : Int) < (qi : Int)) = false := decide_eq_false (by omega)
  have d3 : decide ((qb : Int) < 0) = false := decide_eq_false (by omega)
  have d4 : decide ((1073741824 : Int) < (qb : Int)) = false := decide_eq_false (by omega)
  go_enter Try.func7, Try.ntmps7
  go_wp2_with (first
    | (with_reducible refine box_any rfl 25 (.tmp 0) rfl (quotaV (qi : Int) (qb : Int)) rfl ?_; intro u1 hu1 bu1 zu1; have HU1 := Lib.hid hu1; have BU1 := Lib.hid bu1; have c0 := hu1.cell 0 (.int .i64 qi) rfl; have c1 := hu1.cell 1 (.int .i64 qb) rfl; clear hu1 bu1)
    | (with_reducible refine make_inodes rfl rfl ?_; intro u2 hu2 bu2 zu2; rw [zu1] at hu2 zu2; have HU2 := Lib.hid hu2; have BU2 := Lib.hid (BU1.out.trans (bu2.mono (by rw [zu1]; exact Nat.le_succ _))); have HQ2 := Lib.hid (HU1.out.below bu2 (by rw [zu1]; omega)); clear hu2 bu2)
    | (refine load_any rfl 25 (.tmp 1) rfl ⟨w.heap.size, 0, none⟩ rfl (quotaV (qi : Int) (qb : Int)) _ (fun j v hj => by rw [Addr.add0]; exact HQ2.out.cell j v hj) Try.underlying25 rfl info_quota ?_)
    | (refine list_val (op := { dst := some 24, op := _, type := _, pos := _, after := _, guard := _ }) rfl (v := .agg ((emptyT qi qb).cells u1.heap.size).toArray) (w' := u2) (by kernel_rfl) ?_)
    | (refine box_any rfl 59 (.tmp 24) rfl ((emptyT qi qb).cells u1.heap.size) rfl ?_; intro u3 hu3 bu3 zu3; rw [zu1] at hu3; rw [zu2] at hu3 zu3; have HU3 := Lib.hid hu3; have BU3 := Lib.hid (BU2.out.trans (bu3.mono (by rw [zu2]; omega))); have HM3 := Lib.hid (HU2.out.keep (bu3.block _ (by rw [zu2]; omega))); clear hu3 bu3)
    | (refine list_val (op := { dst := some 27, op := _, type := _, pos := _, after := _, guard := _ }) rfl (v := .agg (toldV (some (fresh 2 493 [] 1))).toArray) (w' := u3) (by kernel_rfl) ?_))
  have T0 := empty_at (base := w.heap.size) HU3.out HM3.out (by omega) (by omega)
  refine (add_any w.heap.size u3 (w.heap.size + 1 + 1) (emptyT qi qb) (emptyP (w.heap.size + 1)) T0 (by omega) 2 493 [] 1 (by show 0 ≤ _; omega) (by show 0 ≤ _; omega) (by simp) rfl (by show 0 < maxLen; unfold maxLen; omega)).mono ?_
  rintro e w1 ⟨rfl, p1, t1, s1, n1, m1⟩
  have c4 := t1.t.cell 0 _ rfl
  have hf1 : (addT (emptyT qi qb) (fresh 2 493 [] 1)).f 1 = some (fresh 2 493 [] 1) := rfl
  obtain ⟨c, hg⟩ : ∃ c, p1.g 1 = some c := Option.isSome_iff_exists.mp (by rw [t1.s 1, hf1]; rfl)
  have hl := t1.i.get 1 (by decide)
  rw [hg] at hl
  simp only [ptrV] at hl
  have HI := Lib.hid (t1.o 1 c _ hg hf1).a
  have HT1 := Lib.hid t1
  have HB1 := Lib.hid (BU3.out.trans (s1.below T0 (by omega)))
  have HG := Lib.hid hg
  have N1 := Lib.hid n1
  have M1 := Lib.hid m1
  clear t1 s1 hg n1 m1 hf1 T0 zu1 zu2 zu3 c0 c1
  go_wp2_with (first
    | (refine set_int rfl (.tmp 35) (.const (.int .i64 1)) rfl c 4 rfl 1 rfl _ _ HI.out (by simp [Ino.cells]) ?_; intro u6 hu6 tu6; have HU6 := Lib.hid hu6; have TU6 := Lib.hid tu6; clear hu6 tu6))
  go_ret
  have H6 := HT1.out.setI 1 (fresh 2 493 [] 1) rootI c rfl HG.out rfl rfl rfl HU6.out TU6.out
  refine ⟨_, p1, rfl, H6.1, HB1.out.trans (H6.2.below HT1.out HB1.out.size), by rw [N1.out]; exact Nat.le_refl _, fun k => M1.out k⟩
set_option maxHeartbeats 4000000 in
theorem new_bad (w : World) (qi qb : Int) (h : ¬ (1 ≤ qi ∧ qi ≤ 1048576 ∧ 0 ≤ qb ∧ qb ≤ 1073741824)) :
    Calls Try.prog 7 #[.agg (quotaV qi qb).toArray] w fun e w' => e = .returned (.pointer none) ∧ Below w.heap.size w w' := by
  go_enter Try.func7, Try.ntmps7
  by_cases h1 : qi < 1
  · have d1 : decide (qi < 1) = true := decide_eq_true h1
    clear h h1
    go_wp2_with (first
      | (with_reducible refine box_any rfl 25 (.tmp 0) rfl (quotaV qi qb) rfl ?_; intro u1 hu1 bu1 zu1; have HU1 := Lib.hid hu1; have BU1 := Lib.hid bu1; have c0 := hu1.cell 0 (.int .i64 qi) rfl; have c1 := hu1.cell 1 (.int .i64 qb) rfl; clear hu1 bu1))
    go_ret
    exact ⟨rfl, BU1.out⟩
  have d1 : decide (qi < 1) = false := decide_eq_false h1
  by_cases h2 : 1048576 < qi
  · have d2 : decide (1048576 < qi) = true := decide_eq_true h2
    clear h h1 h2
    go_wp2_with (first
      | (with_reducible refine box_any rfl 25 (.tmp 0) rfl (quotaV qi qb) rfl ?_; intro u1 hu1 bu1 zu1; have HU1 := Lib.hid hu1; have BU1 := Lib.hid bu1; have c0 := hu1.cell 0 (.int .i64 qi) rfl; have c1 := hu1.cell 1 (.int .i64 qb) rfl; clear hu1 bu1))
    go_ret
    exact ⟨rfl, BU1.out⟩
  have d2 : decide (1048576 < qi) = false := decide_eq_false h2
  by_cases h3 : qb < 0
  · have d3 : decide (qb < 0) = true := decide_eq_true h3
    clear h h1 h2 h3
    go_wp2_with (first
      | (with_reducible refine box_any rfl 25 (.tmp 0) rfl (quotaV qi qb) rfl ?_; intro u1 hu1 bu1 zu1; have HU1 := Lib.hid hu1; have BU1 := Lib.hid bu1; have c0 := hu1.cell 0 (.int .i64 qi) rfl; have c1 := hu1.cell 1 (.int .i64 qb) rfl; clear hu1 bu1))
    go_ret
    exact ⟨rfl, BU1.out⟩
  have d3 : decide (qb < 0) = false := decide_eq_false h3
  have h4 : 1073741824 < qb := by omega
  have d4 : decide (1073741824 < qb) = true := decide_eq_true h4
  clear h h1 h2 h3 h4
  go_wp2_with (first
    | (with_reducible refine box_any rfl 25 (.tmp 0) rfl (quotaV qi qb) rfl ?_; intro u1 hu1 bu1 zu1; have HU1 := Lib.hid hu1; have BU1 := Lib.hid bu1; have c0 := hu1.cell 0 (.int .i64 qi) rfl; have c1 := hu1.cell 1 (.int .i64 qb) rfl; clear hu1 bu1))
  go_ret
  exact ⟨rfl, BU1.out⟩
end Go.Proofs.Ytgifdmfnecombaa
