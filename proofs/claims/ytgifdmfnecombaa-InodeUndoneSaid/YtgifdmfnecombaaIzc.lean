/- Write. -/
import Derived.Test.YtgifdmfnecombaaIzb
namespace Go.Proofs.Ytgifdmfnecombaa
open Go.RowKit
set_option maxRecDepth 100000
section
variable {o : Oper} {a : Act} {w : World}
theorem lenS_op (x : Operand) (ho : o.op = .call { callee := .builtin .len, args := #[x], argTypes := #[9] }) (l : List UInt8) (hx : a.eval x = .string (bs l)) :
    (execOp a.eval o).run Try.prog w = .ok (.value (.int .i64 (l.length : Int))) w := by
  have hr : (Builtin.len_ #[9] o.type #[.string (bs l)]).run Try.prog w = .ok (.int .i64 (l.length : Int)) w := by simp [go_sem, Builtin.len_, bs_size]
  unfold execOp
  simp [ho, resolve, invoke, builtin, hx, hr, Result.andThen]
theorem add3_op (x y : Operand) (ho : o.op = .binOp .add 3 x y 3) (m n : Int) (hx : a.eval x = .int .i64 m) (hy : a.eval y = .int .i64 n) (hr : IntKind.i64.wrap (m + n) = m + n) : (execOp a.eval o).run Try.prog w = .ok (.value (.int .i64 (m + n))) w := by
  unfold execOp
  simp only [ho, hx, hy]
  simp [go_sem, run_underlying Try.underlying3, hr]
end
section
variable {ops : Array Oper} {rest : List Oper} {op : Oper} {a : Act} {w : World} {Q : Exit → Act → World → Prop}
/-- a text is laid into a cell -/
theorem set_str (hgd : op.guard = none) (x y : Operand) (ho : op.op = .store 9 x y) (b n : Nat) (hx : a.eval x = .pointer (some ⟨b, n, none⟩)) (v : ByteArray) (hy : a.eval y = .string v) (cs : List Value) (t : TypeId) (hB : At w b t cs) (hn : n < cs.length)
    (h : ∀ u, At u b t (cs.set n (.string v)) → Touch [b] w u → wpList Try.prog ops Q rest (a.put op.dst undef) u) : wpList Try.prog ops Q (op :: rest) a w := by
  have hi : (Try.prog.info? 9).map (·.size) = some 1 := by kernel_rfl
  cases hq : Try.prog.info? 9 with
  | none => simp [hq] at hi
  | some i =>
    have hs : i.size = 1 := by simpa [hq] using hi
    have hc : w.cell? ⟨b, n, none⟩ = some (cs[n]) := hB.cell n _ (List.getElem?_eq_getElem hn)
    have hf := hB.frozen n
    refine list_skip (w1 := w.setCell ⟨b, n, none⟩ (.string v)) hgd ?_ (h _ (hB.setCell n _) ((Touch.refl _ w).setCell _ _ (.inl (by simp))))
    unfold execOp
    simp only [ho, hx, hy]
    simp [go_sem, hc, hf, sizeOf, typeInfo, hq, hs]
end
theorem wpAnyT_keep {P : Program} {md : Region.Mode} {ops : Array Oper} {Q : Exit → Act → World → Prop} {S : World → Prop} {t i fuel : Nat} {o : Oper} {listed : Array Bool} {a : Act} {w : World} {v : Value} (hrd : Region.ready md ops listed = [i]) (hi : ops[i]? = some o) (hw : Region.wanted o (yielded ops a.tmps) = true) (f : FuncId) (args : Array Value)
    (hr : (execOp a.eval o).run P w = .ok (.enter f args) w) (R : World → Prop) (hc : Calls P f args w fun e w' => e = .returned v ∧ R w') (hn : ∀ w', R w' → S w' ∧ wpAnyT P md ops Q S t fuel (listed.setIfInBounds i true) (a.put o.dst v) w') : wpAnyT P md ops Q S t (fuel + 1) listed a w :=
  wpAnyT_call hrd hi hw f args hr (hc.mono (fun e w' h => ⟨v, h.1, (hn w' h.2).1, (hn w' h.2).2⟩))
theorem wpAnyT_skip {P : Program} {md : Region.Mode} {ops : Array Oper} {Q : Exit → Act → World → Prop} {S : World → Prop} {t i fuel : Nat} {o : Oper} {listed : Array Bool} {a : Act} {w w' : World} (hrd : Region.ready md ops listed = [i]) (hi : ops[i]? = some o) (hw : Region.wanted o (yielded ops a.tmps) = true)
    (hr : (execOp a.eval o).run P w = .ok .skip w') (hc : S w' ∧ wpAnyT P md ops Q S t fuel (listed.setIfInBounds i true) (a.put o.dst undef) w') : wpAnyT P md ops Q S t (fuel + 1) listed a w :=
  wpAnyT_all hrd (by simp) (fun j hj => by
    obtain rfl : j = i := by simpa using hj
    exact wpOp_skip hi hw hr ⟨fun _ => hc.1, hc.2⟩)
theorem store3_run {o : Oper} {a : Act} {w : World} (x y : Operand) (ho : o.op = .store 3 x y) (b n : Nat) (hx : a.eval x = .pointer (some ⟨b, n, none⟩)) (v : Int) (hy : a.eval y = .int .i64 v) (cs : List Value) (t : TypeId) (hB : At w b t cs) (hn : n < cs.length) :
    (execOp a.eval o).run Try.prog w = .ok .skip (w.setCell ⟨b, n, none⟩ (.int .i64 v)) := by
  have hi : (Try.prog.info? 3).map (·.size) = some 1 := by kernel_rfl
  cases hq : Try.prog.info? 3 with
  | none => simp [hq] at hi
  | some i =>
    have hs : i.size = 1 := by simpa [hq] using hi
    have hc : w.cell? ⟨b, n, none⟩ = some (cs[n]) := hB.cell n _ (List.getElem?_eq_getElem hn)
    have hf := hB.frozen n
    unfold execOp
    simp only [ho, hx, hy]
    simp [go_sem, hc, hf, sizeOf, typeInfo, hq, hs]
theorem box_one {P : Program} {ops : Array Oper} {rest : List Oper} {op : Oper} {a : Act} {w : World} {Q : Exit → Act → World → Prop} (hgd : op.guard = none) (ty : TypeId) (x : Operand) (ho : op.op = .box ty x) (v : Value) (hx : a.eval x = v) (hv : Value.cells v = #[v])
    (h : ∀ u, At u w.heap.size ty [v] → Below w.heap.size w u → u.heap.size = w.heap.size + 1 → wpList P ops Q rest (a.put op.dst (.pointer (some ⟨w.heap.size, 0, none⟩))) u) : wpList P ops Q (op :: rest) a w := by
  refine list_val hgd (v := .pointer (some ⟨w.heap.size, 0, none⟩)) (w' := w.alloc (.cells #[v] ty)) ?_ (h _ (At.new w _ _) ((Below.refl _ w).alloc (Nat.le_refl _) _) (by rw [World.size_alloc]))
  unfold execOp
  simp only [ho, hx]
  simp [go_sem]
  exact congrArg (fun c => w.alloc (.cells c ty)) hv
def writeR (T : Tab) (o : Ino) (dt : List UInt8) : Int := if room T 0 ((dt.length : Int) - (o.data.length : Int)) = true then 0 else 10
def writeE (T : Tab) (x : Int) (dt : List UInt8) : Int := if fileE T x ≠ 0 then fileE T x else match T.f x with
  | some o => writeR T o dt
  | none => 0
def Ino.write (o : Ino) (dt : List UInt8) : Ino := { o with data := dt }
def writeT (T : Tab) (x : Int) (dt : List UInt8) : Tab := if writeE T x dt ≠ 0 then T else match T.f x with
  | some o => (T.setB (T.bytes + dt.length - o.data.length)).setI x (o.write dt)
  | none => T
set_option maxHeartbeats 4000000 in
theorem write1_any (base : Nat) (w : World) (tb : Nat) (T : Tab) (p : Place) (h : TabAt base w tb T p) (hf : Fair T) (x : Int) (hx : (Lit.int .i64 x).wf = true) (o : Ino) (ho : T.f x = some o) (dt : List UInt8) (hd : dt.length ≤ 1000000000000) (hod : o.data.length ≤ 1000000000000) (b0 b1 b2 : Nat) (h0 : At w b0 26 [tabV tb]) (h1 : At w b1 9 [.string (bs dt)]) (h2 : At w b2 3 [.int .i64 x]) :
    Calls Try.prog 43 #[.pointer (some ⟨b0, 0, none⟩), .pointer (some ⟨b1, 0, none⟩), .pointer (some ⟨b2, 0, none⟩)] w fun e w' => e = .returned (.int .i64 (writeR T o dt)) ∧ Below w.heap.size w w' := by
  have hs := h.s x
  rw [ho] at hs
  obtain ⟨b, hg⟩ : ∃ b, p.g x = some b := Option.isSome_iff_exists.mp hs
  have hw : IntKind.i64.wrap ((dt.length : Int) - (o.data.length : Int)) = (dt.length : Int) - (o.data.length : Int) := wrap_small (by omega) (by omega)
  have HF := Lib.hid hf
  have HG := Lib.hid hg
  have HO := Lib.hid ho
  have HWW := Lib.hid hw
  obtain ⟨r, hr⟩ : ∃ r : Int, r = writeR T o dt := ⟨_, rfl⟩
  rw [← hr]
  have HR := Lib.hid hr
  have S0 : (fun W => TabAt base W tb T p ∧ At W b0 26 [tabV tb] ∧ At W b1 9 [.string (bs dt)] ∧ At W b2 3 [.int .i64 x]) w.drew := ⟨h.drew, h0.drew, h1.drew, h2.drew⟩
  have B0 := below_dr w
  clear h h0 h1 h2 hr hs hg hw ho hf
  go_enter Try.func43, Try.ntmps43
  go_wp2_with fail
  refine region_any (fun W => TabAt base W tb T p ∧ At W b0 26 [tabV tb] ∧ At W b1 9 [.string (bs dt)] ∧ At W b2 3 [.int .i64 x]) 18 (by kernel_rfl) ?_
  show wpAnyT _ _ _ _ _ _ _ _ _ w.drew
  generalize w.drew = v0 at S0 B0 ⊢
  refine wpAnyT_takeN (i := 0) (v := tabV tb) rfl (by decide) (by kernel_rfl) (by kernel_rfl) (by kernel_rfl) (fun _ _ _ h => h) (.inl ⟨by kernel_rfl, fun W hS => run_load_one 26 (.tmp 0) rfl ⟨b0, 0, none⟩ (by kernel_rfl) _ (hS.2.1.cell 0 _ rfl) _ Try.underlying26 rfl⟩) S0 ?_
  refine wpAnyT_takeN (i := 1) (v := .string (bs dt)) rfl (by decide) (by kernel_rfl) (by kernel_rfl) (by kernel_rfl) (fun _ _ _ h => h) (.inl ⟨by kernel_rfl, fun W hS => run_load_one 9 (.tmp 1) rfl ⟨b1, 0, none⟩ (by kernel_rfl) _ (hS.2.2.1.cell 0 _ rfl) _ Try.underlying9 rfl⟩) S0 ?_
  refine wpAnyT_takeN (i := 2) (v := .int .i64 (dt.length : Int)) rfl (by decide) (by kernel_rfl) (by kernel_rfl) (by kernel_rfl) (fun _ _ _ h => h) (.inl ⟨by kernel_rfl, fun W hS => lenS_op (.tmp 5) rfl dt (by kernel_rfl)⟩) S0 ?_
  refine wpAnyT_takeN (i := 3) (v := tabV tb) rfl (by decide) (by kernel_rfl) (by kernel_rfl) (by kernel_rfl) (fun _ _ _ h => h) (.inl ⟨by kernel_rfl, fun W hS => run_load_one 26 (.tmp 0) rfl ⟨b0, 0, none⟩ (by kernel_rfl) _ (hS.2.1.cell 0 _ rfl) _ Try.underlying26 rfl⟩) S0 ?_
  refine wpAnyT_takeN (i := 4) (v := .pointer (some ⟨tb, 0, none⟩)) rfl (by decide) (by kernel_rfl) (by kernel_rfl) (by kernel_rfl) (fun _ _ _ h => h) (.inl ⟨by kernel_rfl, fun W hS => by kernel_rfl⟩) S0 ?_
  refine wpAnyT_takeN (i := 5) (v := .pointer (some ⟨tb, 0, none⟩)) rfl (by decide) (by kernel_rfl) (by kernel_rfl) (by kernel_rfl) (fun _ _ _ h => h) (.inl ⟨by kernel_rfl, fun W hS => by kernel_rfl⟩) S0 ?_
  refine wpAnyT_takeN (i := 6) (v := .map (some p.bm)) rfl (by decide) (by kernel_rfl) (by kernel_rfl) (by kernel_rfl) (fun _ _ _ h => h) (.inl ⟨by kernel_rfl, fun W hS => run_load_one 57 (.tmp 9) rfl ⟨tb, 0, none⟩ (by kernel_rfl) _ (hS.1.t.cell 0 _ rfl) _ Try.underlying57 rfl⟩) S0 ?_
  refine wpAnyT_takeN (i := 7) (v := .int .i64 x) rfl (by decide) (by kernel_rfl) (by kernel_rfl) (by kernel_rfl) (fun _ _ _ h => h) (.inl ⟨by kernel_rfl, fun W hS => run_load_one 3 (.tmp 2) rfl ⟨b2, 0, none⟩ (by kernel_rfl) _ (hS.2.2.2.cell 0 _ rfl) _ Try.underlying3 rfl⟩) S0 ?_
  refine wpAnyT_takeN (i := 8) (v := .pointer (some ⟨b, 0, none⟩)) rfl (by decide) (by kernel_rfl) (by kernel_rfl) (by kernel_rfl) (fun _ _ _ h => h) (.inl ⟨by kernel_rfl, fun W hS => run_lookup_op 57 (.tmp 10) (.tmp 11) false rfl (.map (some p.bm)) (.int .i64 x) _ (by kernel_rfl) (by kernel_rfl) (by have hl := hS.1.i.get x hx; rw [HG.out] at hl; exact hl)⟩) S0 ?_
  refine wpAnyT_takeN (i := 9) (v := .pointer (some ⟨b, 0, none⟩)) rfl (by decide) (by kernel_rfl) (by kernel_rfl) (by kernel_rfl) (fun _ _ _ h => h) (.inl ⟨by kernel_rfl, fun W hS => by kernel_rfl⟩) S0 ?_
  refine wpAnyT_takeN (i := 10) (v := .pointer (some ⟨b, 0, none⟩)) rfl (by decide) (by kernel_rfl) (by kernel_rfl) (by kernel_rfl) (fun _ _ _ h => h) (.inl ⟨by kernel_rfl, fun W hS => by kernel_rfl⟩) S0 ?_
  refine wpAnyT_takeN (i := 11) (v := .pointer (some ⟨b, 2, none⟩)) rfl (by decide) (by kernel_rfl) (by kernel_rfl) (by kernel_rfl) (fun _ _ _ h => h) (.inl ⟨by kernel_rfl, fun W hS => by kernel_rfl⟩) S0 ?_
  refine wpAnyT_takeN (i := 12) (v := .string (bs o.data)) rfl (by decide) (by kernel_rfl) (by kernel_rfl) (by kernel_rfl) (fun _ _ _ h => h) (.inl ⟨by kernel_rfl, fun W hS => run_load_one 9 (.tmp 15) rfl ⟨b, 2, none⟩ (by kernel_rfl) _ ((hS.1.o x b o HG.out HO.out).a.cell 2 _ rfl) _ Try.underlying9 rfl⟩) S0 ?_
  refine wpAnyT_takeN (i := 13) (v := .int .i64 (o.data.length : Int)) rfl (by decide) (by kernel_rfl) (by kernel_rfl) (by kernel_rfl) (fun _ _ _ h => h) (.inl ⟨by kernel_rfl, fun W hS => lenS_op (.tmp 16) rfl o.data (by kernel_rfl)⟩) S0 ?_
  refine wpAnyT_takeN (i := 14) (v := .int .i64 ((dt.length : Int) - (o.data.length : Int))) rfl (by decide) (by kernel_rfl) (by kernel_rfl) (by kernel_rfl) (fun _ _ _ h => h) (.inl ⟨by kernel_rfl, fun W hS => sub3_op (.tmp 6) (.tmp 17) rfl _ _ (by kernel_rfl) (by kernel_rfl) HWW.out⟩) S0 ?_
  refine wpAnyT_call (i := 15) (by kernel_rfl) rfl (by kernel_rfl) 34 #[tabV tb, .int .i64 0, .int .i64 ((dt.length : Int) - (o.data.length : Int))] (by kernel_rfl) ((hasRoom_mk tb 0 ((dt.length : Int) - (o.data.length : Int)) v0).mono ?_)
  rintro e w1 ⟨rfl, a1, a2, a3, b1'⟩
  have S1 : (fun W => TabAt base W tb T p ∧ At W b0 26 [tabV tb] ∧ At W b1 9 [.string (bs dt)] ∧ At W b2 3 [.int .i64 x]) w1 := ⟨S0.1.below b1', S0.2.1.below b1' S0.2.1.lt, S0.2.2.1.below b1' S0.2.2.1.lt, S0.2.2.2.below b1' S0.2.2.2.lt⟩
  refine ⟨_, rfl, S1, ?_⟩
  refine wpAnyT_call (i := 16) (by kernel_rfl) rfl (by kernel_rfl) 58 #[.pointer (some ⟨v0.heap.size + 1, 0, none⟩), .pointer (some ⟨v0.heap.size, 0, none⟩), .pointer (some ⟨v0.heap.size + 2, 0, none⟩)] (by kernel_rfl) ((hasRoom1_any base w1 tb T p S1.1 HF.out 0 ((dt.length : Int) - (o.data.length : Int)) _ _ _ a2 a1 a3).mono ?_)
  rintro e w2 ⟨rfl, b2'⟩
  have S2 : (fun W => TabAt base W tb T p ∧ At W b0 26 [tabV tb] ∧ At W b1 9 [.string (bs dt)] ∧ At W b2 3 [.int .i64 x]) w2 := ⟨S1.1.below b2', S1.2.1.below b2' S1.2.1.lt, S1.2.2.1.below b2' S1.2.2.1.lt, S1.2.2.2.below b2' S1.2.2.2.lt⟩
  have B2 := B0.trans ((b1'.trans (b2'.mono b1'.size)).mono B0.size)
  refine ⟨_, rfl, S2, ?_⟩
  change wpAnyT _ _ _ _ _ _ _ _ (Act.put _ _ (.int .i64 (writeR T o dt))) _
  rw [← HR.out]
  refine wpAnyT_takeN (i := 17) (v := .int .i64 r) rfl (by decide) (by kernel_rfl) (by kernel_rfl) (by kernel_rfl) (fun _ _ _ h => h) (.inl ⟨by kernel_rfl, fun W hS => by kernel_rfl⟩) S2 ?_
  refine wpAnyT_done (by kernel_rfl) ?_ _
  simp only [Act.put, List.getElem_toArray, List.getElem_cons_succ, List.getElem_cons_zero, List.setIfInBounds_toArray, List.set_cons_zero, List.set_cons_succ]
  have HB := Lib.hid B2
  clear S0 S1 S2 B0 B2 a1 a2 a3 b1' b2'
  go_wp2_with fail
  go_ret
  exact ⟨rfl, HB.out⟩
theorem enter_Write1 : ∀ (args : Array Value) (w : World), (callFunc 43 args).run Try.prog w = .ok (.enter 43 args) w := enters_of Try.func43 (by kernel_rfl) rfl
theorem writeE_zero {T : Tab} {x : Int} {dt : List UInt8} (h : writeE T x dt = 0) : ∃ o, T.f x = some o ∧ o.kind ≠ 2 ∧ writeT T x dt = (T.setB (T.bytes + dt.length - o.data.length)).setI x (o.write dt) := by
  have h' := h
  unfold writeE at h
  by_cases q : fileE T x = 0
  · obtain ⟨o, ho, h3⟩ := fileE_zero q
    refine ⟨o, ho, h3, ?_⟩
    unfold writeT
    rw [h', ho]
    simp
  · simp [q] at h
set_option maxHeartbeats 4000000 in
theorem write_any (base : Nat) (w : World) (tb : Nat) (T : Tab) (p : Place) (h : TabAt base w tb T p) (hf : Fair T) (x : Int) (hx : (Lit.int .i64 x).wf = true) (dt : List UInt8) (hd : dt.length ≤ 1000000000000) (hod : ∀ k o, T.f k = some o → o.data.length ≤ T.bytes) :
    Calls Try.prog 20 #[tabV tb, .int .i64 x, .string (bs dt)] w fun e w' => e = .returned (.int .i64 (writeE T x dt)) ∧ TabAt base w' tb (writeT T x dt) p ∧ Step tb T p (writeT T x dt) p w w' := by
  have hmf := makes
  have HH := Lib.hid h
  have HF := Lib.hid hf
  have HOD := Lib.hid hod
  obtain ⟨r, hr⟩ : ∃ r : Int, r = writeE T x dt := ⟨_, rfl⟩
  obtain ⟨T', hT⟩ : ∃ T' : Tab, T' = writeT T x dt := ⟨_, rfl⟩
  rw [← hr, ← hT]
  have HR := Lib.hid hr
  have HT := Lib.hid hT
  clear h hr hT hf hod
  go_enter Try.func20, Try.ntmps20
  go_wp2_with (first
    | (with_reducible refine box_one rfl 26 (.tmp 0) rfl (tabV tb) rfl rfl ?_; intro u1 hu1 bu1 zu1; have HU1 := Lib.hid hu1; have BU1 := Lib.hid bu1; clear hu1 bu1)
    | (with_reducible refine box_one rfl 3 (.tmp 1) rfl (.int .i64 x) rfl rfl ?_; intro u2 hu2 bu2 zu2; rw [zu1] at hu2 zu2; have HU2 := Lib.hid hu2; have HV1 := Lib.hid (HU1.out.below bu2 HU1.out.lt); have BU2 := Lib.hid (BU1.out.trans (bu2.mono BU1.out.size)); clear hu2 bu2)
    | (with_reducible refine box_one rfl 9 (.tmp 2) rfl (.string (bs dt)) rfl rfl ?_; intro u3 hu3 bu3 zu3; rw [zu2] at hu3 zu3; have HU3 := Lib.hid hu3; have HV2 := Lib.hid (HU2.out.below bu3 HU2.out.lt); have HX1 := Lib.hid (HV1.out.below bu3 HV1.out.lt); have BU3 := Lib.hid (BU2.out.trans (bu3.mono BU2.out.size)); clear hu3 bu3))
  have hz : w.heap.size < u1.heap.size ∧ u1.heap.size < u2.heap.size ∧ u2.heap.size < u3.heap.size := by omega
  obtain ⟨B0, hB0⟩ : ∃ B0, B0 = w.heap.size := ⟨_, rfl⟩
  obtain ⟨B1, hB1⟩ : ∃ B1, B1 = w.heap.size + 1 := ⟨_, rfl⟩
  obtain ⟨B2, hB2⟩ : ∃ B2, B2 = w.heap.size + 1 + 1 := ⟨_, rfl⟩
  have S0 : (fun W => TabAt base W tb T p ∧ At W B0 26 [tabV tb] ∧ At W B1 3 [.int .i64 x] ∧ At W B2 9 [.string (bs dt)]) u3.drew := ⟨(HH.out.below BU3.out).drew, hB0 ▸ HX1.out.drew, hB1 ▸ HV2.out.drew, hB2 ▸ HU3.out.drew⟩
  have Q0 := BU3.out.trans ((below_dr u3).mono BU3.out.size)
  refine region_any (fun W => TabAt base W tb T p ∧ At W B0 26 [tabV tb] ∧ At W B1 3 [.int .i64 x] ∧ At W B2 9 [.string (bs dt)]) 9 (by kernel_rfl) ?_
  show wpAnyT _ _ _ _ _ _ _ _ _ u3.drew
  generalize u3.drew = v0 at S0 Q0 ⊢
  rw [← hB2, ← hB1, ← hB0]
  have ZB := Lib.hid (show w.heap.size ≤ B0 ∧ w.heap.size ≤ B1 ∧ w.heap.size ≤ B2 by omega)
  clear hB0 hB1 hB2 hz zu1 zu2 zu3
  refine wpAnyT_takeN (i := 0) (v := tabV tb) rfl (by decide) (by kernel_rfl) (by kernel_rfl) (by kernel_rfl) (fun _ _ _ h => h) (.inl ⟨by kernel_rfl, fun W hS => run_load_one 26 (.tmp 3) rfl ⟨B0, 0, none⟩ (by kernel_rfl) _ (hS.2.1.cell 0 _ rfl) _ Try.underlying26 rfl⟩) S0 ?_
  refine wpAnyT_takeN (i := 1) (v := .func (.func 30) #[tabV tb] #[]) rfl (by decide) (by kernel_rfl) (by kernel_rfl) (by kernel_rfl) (fun _ _ _ h => h) (.inl ⟨by kernel_rfl, fun W hS => by kernel_rfl⟩) S0 ?_
  refine wpAnyT_takeN (i := 2) (v := tabV tb) rfl (by decide) (by kernel_rfl) (by kernel_rfl) (by kernel_rfl) (fun _ _ _ h => h) (.inl ⟨by kernel_rfl, fun W hS => run_load_one 26 (.tmp 3) rfl ⟨B0, 0, none⟩ (by kernel_rfl) _ (hS.2.1.cell 0 _ rfl) _ Try.underlying26 rfl⟩) S0 ?_
  refine wpAnyT_takeN (i := 3) (v := .int .i64 x) rfl (by decide) (by kernel_rfl) (by kernel_rfl) (by kernel_rfl) (fun _ _ _ h => h) (.inl ⟨by kernel_rfl, fun W hS => run_load_one 3 (.tmp 4) rfl ⟨B1, 0, none⟩ (by kernel_rfl) _ (hS.2.2.1.cell 0 _ rfl) _ Try.underlying3 rfl⟩) S0 ?_
  refine wpAnyT_takeN (i := 5) (v := .func (.func 43) #[] #[.pointer (some ⟨B0, 0, none⟩), .pointer (some ⟨B2, 0, none⟩), .pointer (some ⟨B1, 0, none⟩)]) rfl (by decide) (by kernel_rfl) (by kernel_rfl) (by kernel_rfl) (fun _ _ _ h => h) (.inl ⟨by kernel_rfl, fun W hS => by kernel_rfl⟩) S0 ?_
  refine wpAnyT_call (i := 4) (by kernel_rfl) rfl (by kernel_rfl) 42 #[tabV tb, .int .i64 x] (by kernel_rfl) ((isFile_mk tb x v0).mono ?_)
  rintro e w1 ⟨rfl, a1, a2, b1⟩
  have S1 : (fun W => TabAt base W tb T p ∧ At W B0 26 [tabV tb] ∧ At W B1 3 [.int .i64 x] ∧ At W B2 9 [.string (bs dt)]) w1 := ⟨S0.1.below b1, S0.2.1.below b1 S0.2.1.lt, S0.2.2.1.below b1 S0.2.2.1.lt, S0.2.2.2.below b1 S0.2.2.2.lt⟩
  have Q1 := Q0.trans (b1.mono Q0.size)
  refine ⟨_, rfl, S1, ?_⟩
  obtain ⟨x1, hx1⟩ : ∃ x1 : Need, x1 = ⟨30, #[tabV tb], #[], 0⟩ := ⟨_, rfl⟩
  obtain ⟨x2, hx2⟩ : ∃ x2 : Need, x2 = ⟨64, #[], #[.pointer (some ⟨v0.heap.size, 0, none⟩), .pointer (some ⟨v0.heap.size + 1, 0, none⟩)], fileE T x⟩ := ⟨_, rfl⟩
  obtain ⟨x3, hx3⟩ : ∃ x3 : Need, x3 = ⟨43, #[], #[.pointer (some ⟨B0, 0, none⟩), .pointer (some ⟨B2, 0, none⟩), .pointer (some ⟨B1, 0, none⟩)], match T.f x with | some o => writeR T o dt | none => 0⟩ := ⟨_, rfl⟩
  refine wpAnyT_val (i := 6) (v := .slice (some ⟨w1.heap.size, 0, none⟩) 3 3) (w' := w1.alloc (.cells #[x1.v, x2.v, x3.v] 73)) (by kernel_rfl) rfl (by kernel_rfl) (by rw [hx1, hx2, hx3]; kernel_rfl) ?_
  have ba := (Below.refl _ w1).alloc (Nat.le_refl _) (.cells #[x1.v, x2.v, x3.v] 73)
  have hA := At.new w1 #[x1.v, x2.v, x3.v] 73
  have Q2 := Q1.trans (ba.mono Q1.size)
  have S2 : (fun W => TabAt base W tb T p ∧ At W B0 26 [tabV tb] ∧ At W B1 3 [.int .i64 x] ∧ At W B2 9 [.string (bs dt)]) (w1.alloc (.cells #[x1.v, x2.v, x3.v] 73)) := ⟨S1.1.below ba, S1.2.1.below ba S1.2.1.lt, S1.2.2.1.below ba S1.2.2.1.lt, S1.2.2.2.below ba S1.2.2.2.lt⟩
  have a1' := a1.below ba a1.lt
  have a2' := a2.below ba a2.lt
  obtain ⟨B, hBB⟩ : ∃ B, B = w1.heap.size := ⟨_, rfl⟩
  rw [← hBB] at hA ⊢
  generalize w1.alloc (.cells #[x1.v, x2.v, x3.v] 73) = w2 at *
  refine ⟨S2, ?_⟩
  refine wpAnyT_call (i := 7) (by kernel_rfl) rfl (by kernel_rfl) 29 #[.slice (some ⟨B, 0, none⟩) 3 3] (by kernel_rfl) ((first_any B 3 [x1, x2, x3] (by show 3 ≤ 1000; omega) w2 hA (fun j y hj hz => ?_)).mono ?_)
  · match j, hj with
    | 0, hj =>
      cases hj
      rw [hx1]
      exact ⟨enter_isTable, fun w' b' => isTable_any base w' tb T p (S2.1.below b')⟩
    | 1, hj =>
      cases hj
      rw [hx2]
      exact ⟨enter_isFile1, fun w' b' => isFile1_any base w' tb T p (S2.1.below b') x hx _ _ (a1'.below b' a1'.lt) (a2'.below b' a2'.lt)⟩
    | 2, hj =>
      cases hj
      have hf0 : fileE T x = 0 := by
        have := hz x2 (by simp)
        rw [hx2] at this
        exact this
      obtain ⟨o, ho, h3⟩ := fileE_zero hf0
      rw [hx3]
      refine ⟨enter_Write1, fun w' b' => ?_⟩
      have hc := write1_any base w' tb T p (S2.1.below b') HF.out x hx o ho dt hd (Nat.le_trans (HOD.out x o ho) HF.out.b) B0 B2 B1 (S2.2.1.below b' S2.2.1.lt) (S2.2.2.2.below b' S2.2.2.2.lt) (S2.2.2.1.below b' S2.2.2.1.lt)
      simp only [ho]
      exact hc
  rintro e w3 ⟨rfl, b3⟩
  have hf : firstR [x1, x2, x3] = r := by
    rw [hx1, hx2, hx3, HR.out]
    unfold firstR firstR firstR firstR writeE
    by_cases q1 : fileE T x = 0
    · obtain ⟨o, ho, h3⟩ := fileE_zero q1
      simp only [q1, ho]
      by_cases q2 : writeR T o dt = 0 <;> simp [q2]
    · simp [q1]
  have Q3 := Q2.trans (b3.mono Q2.size)
  have S3 : (fun W => TabAt base W tb T p ∧ At W B0 26 [tabV tb] ∧ At W B1 3 [.int .i64 x] ∧ At W B2 9 [.string (bs dt)]) w3 := ⟨S2.1.below b3, S2.2.1.below b3 S2.2.1.lt, S2.2.2.1.below b3 S2.2.2.1.lt, S2.2.2.2.below b3 S2.2.2.2.lt⟩
  refine ⟨_, rfl, S3, ?_⟩
  rw [hf]
  refine wpAnyT_takeN (i := 8) (v := .int .i64 r) rfl (by decide) (by kernel_rfl) (by kernel_rfl) (by kernel_rfl) (fun _ _ _ h => h) (.inl ⟨by kernel_rfl, fun W hS => by kernel_rfl⟩) S3 ?_
  refine wpAnyT_done (by kernel_rfl) ?_ _
  simp only [Act.put, List.getElem_toArray, List.getElem_cons_succ, List.getElem_cons_zero, List.setIfInBounds_toArray, List.set_cons_zero, List.set_cons_succ]
  have QQ := Lib.hid Q3
  have SS := Lib.hid S3
  clear S0 Q0 S1 Q1 S2 Q2 S3 Q3 a1 a2 a1' a2' b1 b3 ba hA hx1 hx2 hx3 hf hBB
  by_cases hr0 : r = 0
  · obtain ⟨o, ho, h3, hT'⟩ := writeE_zero (HR.out.symm.trans hr0)
    have hs := SS.out.1.s x
    rw [ho] at hs
    obtain ⟨c, hg⟩ : ∃ c, p.g x = some c := Option.isSome_iff_exists.mp hs
    have hle := HOD.out x o ho
    have hbb := HF.out.b
    have HO := Lib.hid ho
    have HG := Lib.hid hg
    have HT2 := Lib.hid (HT.out.trans hT')
    have HR0 := Lib.hid hr0
    have H3 := Lib.hid h3
    have W1 := Lib.hid (show IntKind.i64.wrap ((dt.length : Int) - (o.data.length : Int)) = (dt.length : Int) - (o.data.length : Int) from wrap_small (by omega) (by omega))
    have W2 := Lib.hid (show IntKind.i64.wrap ((T.bytes : Int) + ((dt.length : Int) - (o.data.length : Int))) = (T.bytes : Int) + ((dt.length : Int) - (o.data.length : Int)) from wrap_small (by omega) (by omega))
    have W3 := Lib.hid (show ((T.bytes + dt.length - o.data.length : Nat) : Int) = (T.bytes : Int) + ((dt.length : Int) - (o.data.length : Int)) by omega)
    rw [hr0]
    clear hr0 ho h3 hT' hs hg hle hbb HT HR
    go_wp2_with fail
    have S4 : (fun W => TabAt base W tb T p ∧ At W B0 26 [tabV tb] ∧ At W B1 3 [.int .i64 x] ∧ At W B2 9 [.string (bs dt)]) w3.drew := ⟨SS.out.1.drew, SS.out.2.1.drew, SS.out.2.2.1.drew, SS.out.2.2.2.drew⟩
    have Q4 := QQ.out.trans ((below_dr w3).mono QQ.out.size)
    refine region_any (fun W => TabAt base W tb T p ∧ At W B0 26 [tabV tb] ∧ At W B1 3 [.int .i64 x] ∧ At W B2 9 [.string (bs dt)]) 7 (by kernel_rfl) ?_
    show wpAnyT _ _ _ _ _ _ _ _ _ w3.drew
    generalize w3.drew = v4 at S4 Q4 ⊢
    refine wpAnyT_takeN (i := 0) (v := tabV tb) rfl (by decide) (by kernel_rfl) (by kernel_rfl) (by kernel_rfl) (fun _ _ _ h => h) (.inl ⟨by kernel_rfl, fun W hS => run_load_one 26 (.tmp 3) rfl ⟨B0, 0, none⟩ (by kernel_rfl) _ (hS.2.1.cell 0 _ rfl) _ Try.underlying26 rfl⟩) S4 ?_
    refine wpAnyT_takeN (i := 1) (v := .pointer (some ⟨tb, 0, none⟩)) rfl (by decide) (by kernel_rfl) (by kernel_rfl) (by kernel_rfl) (fun _ _ _ h => h) (.inl ⟨by kernel_rfl, fun W hS => by kernel_rfl⟩) S4 ?_
    refine wpAnyT_takeN (i := 2) (v := .pointer (some ⟨tb, 0, none⟩)) rfl (by decide) (by kernel_rfl) (by kernel_rfl) (by kernel_rfl) (fun _ _ _ h => h) (.inl ⟨by kernel_rfl, fun W hS => by kernel_rfl⟩) S4 ?_
    refine wpAnyT_takeN (i := 3) (v := .map (some p.bm)) rfl (by decide) (by kernel_rfl) (by kernel_rfl) (by kernel_rfl) (fun _ _ _ h => h) (.inl ⟨by kernel_rfl, fun W hS => run_load_one 57 (.tmp 22) rfl ⟨tb, 0, none⟩ (by kernel_rfl) _ (hS.1.t.cell 0 _ rfl) _ Try.underlying57 rfl⟩) S4 ?_
    refine wpAnyT_takeN (i := 4) (v := .int .i64 x) rfl (by decide) (by kernel_rfl) (by kernel_rfl) (by kernel_rfl) (fun _ _ _ h => h) (.inl ⟨by kernel_rfl, fun W hS => run_load_one 3 (.tmp 4) rfl ⟨B1, 0, none⟩ (by kernel_rfl) _ (hS.2.2.1.cell 0 _ rfl) _ Try.underlying3 rfl⟩) S4 ?_
    refine wpAnyT_takeN (i := 5) (v := .pointer (some ⟨c, 0, none⟩)) rfl (by decide) (by kernel_rfl) (by kernel_rfl) (by kernel_rfl) (fun _ _ _ h => h) (.inl ⟨by kernel_rfl, fun W hS => run_lookup_op 57 (.tmp 23) (.tmp 24) false rfl (.map (some p.bm)) (.int .i64 x) _ (by kernel_rfl) (by kernel_rfl) (by have hl := hS.1.i.get x hx; rw [HG.out] at hl; exact hl)⟩) S4 ?_
    refine wpAnyT_takeN (i := 6) (v := .pointer (some ⟨c, 0, none⟩)) rfl (by decide) (by kernel_rfl) (by kernel_rfl) (by kernel_rfl) (fun _ _ _ h => h) (.inl ⟨by kernel_rfl, fun W hS => by kernel_rfl⟩) S4 ?_
    refine wpAnyT_done (by kernel_rfl) ?_ _
    simp only [Act.put, List.getElem_toArray, List.getElem_cons_succ, List.getElem_cons_zero, List.setIfInBounds_toArray, List.set_cons_zero, List.set_cons_succ]
    have Q4' := Lib.hid Q4
    have S4' := Lib.hid S4
    clear S4 Q4
    have c3 := S4'.out.2.1.cell 0 _ rfl
    have c5 := S4'.out.2.2.2.cell 0 _ rfl
    have cb := S4'.out.1.t.cell 2 _ rfl
    have cd := (S4'.out.1.o x c o HG.out HO.out).a.cell 2 _ rfl
    have W1' := W1.out
    have W2' := W2.out
    unfold tabV at c3
    go_wp2_with fail
    go_still_tail 16, (by kernel_rfl)
    change wpList _ _ _ _ _ v4.drew
    have HW := Lib.hid (show ∀ u, At u tb 59 ((T.cells p.bm).set 2 (.int .i64 ((T.bytes : Int) + ((dt.length : Int) - (o.data.length : Int))))) → At u tb 59 ((T.setB (T.bytes + dt.length - o.data.length)).cells p.bm) from fun u hu => by
      simp only [Tab.cells, Tab.setB, W3.out]
      exact hu)
    clear c3 c5 cb cd W1' W2'
    go_wp2_with (first
      | (refine set_int rfl (.tmp 41) (.tmp 39) rfl tb 2 rfl ((T.bytes : Int) + ((dt.length : Int) - (o.data.length : Int))) rfl _ _ S4'.out.1.drew.t (by simp [Tab.cells]) ?_; intro u5 hu5 tu5; have H5 := S4'.out.1.drew.setT (T' := T.setB (T.bytes + dt.length - o.data.length)) rfl rfl (HW.out u5 hu5) tu5; have TB5 := Lib.hid H5.1; have ST5 := Lib.hid H5.2; have k5 := (S4'.out.2.2.2.drew.touch tu5 (by have := ZB.out; have := HH.out.t.lt; simp; omega)).cell 0 _ rfl; have A5 := Lib.hid (H5.1.o x c o HG.out HO.out).a; clear H5 hu5 tu5)
      | (refine set_str rfl (.tmp 46) (.tmp 43) rfl c 2 rfl (bs dt) rfl _ _ A5.out (by simp [Ino.cells]) ?_; intro u6 hu6 tu6; have HU6 := Lib.hid hu6; have TU6 := Lib.hid tu6; clear hu6 tu6))
    go_ret
    have H6 := TB5.out.setI x o (o.write dt) c HO.out HG.out rfl rfl rfl (by have := HU6.out; simpa [Ino.cells, Ino.write] using this) TU6.out
    rw [HT2.out]
    exact ⟨by rw [HR0.out]; rfl, H6.1, ((Step.of_below (Q4'.out.trans ((below_dr v4).mono Q4'.out.size))).trans ST5.out).trans H6.2⟩
  · have hT' : T' = T := by
      rw [HT.out]
      unfold writeT
      rw [← HR.out, if_pos hr0]
    have HT2 := Lib.hid hT'
    have e1 : (r != 0) = true := by simpa using hr0
    clear hr0 hT' HR
    go_wp2_with fail
    go_ret
    rw [HT2.out]
    exact ⟨rfl, SS.out.1, Step.of_below QQ.out⟩
end Go.Proofs.Ytgifdmfnecombaa
