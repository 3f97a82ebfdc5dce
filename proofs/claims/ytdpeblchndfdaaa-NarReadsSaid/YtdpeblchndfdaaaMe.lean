/- Nodes are written; Encode's writer. -/
import Derived.Test.YtdpeblchndfdaaaMd
namespace Go.Proofs.Ytdpeblchndfdaaa
open Go.RowKit Go.Maps Go.ChangeMaps Go.MapKept
set_option maxRecDepth 100000
theorem run_load_nd {o : Oper} {a : Act} {w : World} (x : Operand) (ho : o.op = .load 24 x) (p : Addr) (hx : a.eval x = .pointer (some p)) (n : Nd) (ao : Option Addr) (cap : Nat) (hc : ∀ j v, (n.cells ao cap)[j]? = some v → w.cell? (p.add j) = some v) :
    (execOp a.eval o).run Try.prog w = .ok (.value (n.v ao cap)) w := by
  have hl : (loadCells p 5).run Try.prog w = .ok (n.cells ao cap).toArray w := run_loadCells_list (P := Try.prog) w p (n.cells ao cap) hc
  have hi : (Try.prog.info? 24).map (·.size) = some 5 := info_nd
  cases hq : Try.prog.info? 24 with
  | none => simp [hq] at hi
  | some i =>
    have hs : i.size = 5 := by simpa [hq] using hi
    have hagg : (isAgg 24).run Try.prog w = .ok true w := by
      unfold isAgg
      rw [Sem.run_bind, run_underlying Try.underlying24 w]
      rfl
    unfold execOp
    simp only [ho, hx, Instr.loadAt, Instr.sureAddr, Sem.run_bind, Sem.run_pure, Result.andThen_ok]
    simp [loadVar, Sem.run_bind, hagg, sizeOf, typeInfo, hq, hs, hl, Nd.v]
theorem run_load_at {o : Oper} {a : Act} {w : World} (x : Operand) (ho : o.op = .load 24 x) (b : Nat) (hx : a.eval x = .pointer (some ⟨b, 0, none⟩)) (n : Nd) (ao : Option Addr) (cap : Nat) (hA : At w b 24 (n.cells ao cap)) :
    (execOp a.eval o).run Try.prog w = .ok (.value (n.v ao cap)) w := run_load_nd x ho ⟨b, 0, none⟩ hx n ao cap (fun j v hj => by rw [Addr.add0]; exact hA.cell j v hj)
theorem turned_touch {w w' : World} {b : Nat} (h : w.mapTurned w' b) : Touch [b] w w' := by
  obtain ⟨es, clock, es', clock', hb, rfl⟩ := h
  refine ⟨rfl, rfl, rfl, by simp [setBlock], fun k hk hne => ?_⟩
  have : b ≠ k := fun e => hne (by simp [e])
  simp [setBlock, Array.getElem?_setIfInBounds, this]
theorem run_lookup_op {o : Oper} {a : Act} {w : World} (t : TypeId) (m x : Operand) (ok : Bool) (ho : o.op = .lookup t m x ok) (vm vx z : Value) (hm : a.eval m = vm) (hx : a.eval x = vx) (hr : (Instr.lookup t vm vx ok).run Try.prog w = .ok z w) : (execOp a.eval o).run Try.prog w = .ok (.value z) w := by
  unfold execOp
  simp only [ho, hm, hx]
  simp [Sem.run_bind, hr, Result.andThen]

/-- what node's region reads -/
def NS (b nb m : Nat) (cs : List Value) (W : World) : Prop := At W nb 24 cs ∧ W.cell? ⟨b, 2, none⟩ = some (.map (some m)) ∧ ∃ n, FMap 3 .i64 W m b n wtab
theorem NS.wb {b nb m : Nat} {cs : List Value} {W W' : World} (h : NS b nb m cs W) (hw : WB b W W') (h1 : nb ≠ b) (h2 : m ≠ b) : NS b nb m cs W' := by
  obtain ⟨hA, hc, n, hM⟩ := h
  refine ⟨hA.wb hw h1 (by decide), hw.map _ hc, n, hM.keep (hw.block m hM.lt h2 (fun cs fz e => ?_))⟩
  obtain ⟨es, clock, hh⟩ := hM.isMap
  rw [e] at hh
  cases hh
theorem enters_wfile : ∀ args w, (callFunc 43 args).run Try.prog w = .ok (.enter 43 args) w := enters_of Try.func43 (by kernel_rfl) rfl
theorem enters_wdir : ∀ args w, (callFunc 44 args).run Try.prog w = .ok (.enter 44 args) w := enters_of Try.func44 (by kernel_rfl) rfl
theorem enters_wlink : ∀ args w, (callFunc 45 args).run Try.prog w = .ok (.enter 45 args) w := enters_of Try.func45 (by kernel_rfl) rfl
theorem kidsOk_all {f : Nd → Bool} {ks : List Nd} (h : kidsOk f ks = true) : ∀ m ∈ ks, f m = true := by
  intro m hm
  obtain ⟨i, hi⟩ := List.getElem?_of_mem hm
  unfold kidsOk at h
  rw [List.all_eq_true] at h
  have := h (m, i) (by rw [List.mem_zipIdx_iff_getElem?]; exact hi)
  unfold kidOk at this
  simp only [Bool.and_eq_true] at this
  first
  | exact this.2
  | exact this.2.2
  | exact this.1.2
theorem wfile_any (B : Nat) (nm : List UInt8) (kd : Int) (ex : Bool) (dt : List UInt8) (ks : List Nd) (ao : Option Addr) (cap b : Nat) (l : List UInt8) (w : World) (hB : B ≤ w.heap.size) (hl : l.length ≤ 1000000000) (hd : dt.length ≤ 1000000000) (h : WAt B w b l) :
    Calls Try.prog 43 #[.pointer (some ⟨b, 0, none⟩), Nd.v ⟨nm, kd, ex, dt, ks⟩ ao cap] w fun e w' => e = .returned (.tuple #[]) ∧ WAt B w' b (l ++ (Plain.row (if ex then 1 else 0) ++ txt dt)) ∧ Below B w w' ∧ WB b w w' := by
  cases ex
  · exact wfile_no B nm kd dt ks ao cap b l w hB hl hd h
  · exact wfile_yes B nm kd dt ks ao cap b l w hB hl hd h
set_option maxHeartbeats 4000000 in
theorem wnode_any (B : Nat) : ∀ h : Nat, Writes B h := by
  intro h
  induction h with
  | zero => intro n ao cap b l w _ hH; exact hH.elim
  | succ h ih =>
    intro n ao cap b l w hB hH hM hl hA
    cases n with
    | mk nm kd ex dt ks =>
    have H := Lib.hid hA
    have hne := Lib.hid hA.ne
    have HH := Lib.hid hH
    have IH := Lib.hid ih
    have hM' : (if kd = 1 then ks.isEmpty else if kd = 2 then !ex && (dt.isEmpty && kidsOk (mayL h) ks) else if kd = 3 then !ex && (ks.isEmpty && textOk dt 255) else false) = true := hM
    have hE : encL (h + 1) ⟨nm, kd, ex, dt, ks⟩ = Plain.row kd.toNat ++ (if kd = 1 then Plain.row (if ex then 1 else 0) ++ txt dt else if kd = 3 then txt dt else Plain.row ks.length ++ ks.flatMap (entryL (encL h))) := rfl
    obtain ⟨E, hEE⟩ : ∃ E, E = encL (h + 1) ⟨nm, kd, ex, dt, ks⟩ := ⟨_, rfl⟩
    rw [← hEE] at hl hE ⊢
    have HE := Lib.hid hE
    have HL := Lib.hid hl
    clear hA hH ih hM hl hE hEE
    by_cases k1 : kd = 1
    · subst k1
      have hE1 : E = Plain.row 1 ++ (Plain.row (if ex then 1 else 0) ++ txt dt) := by rw [HE.out, if_pos rfl]; rfl
      have hl1 := HL.out
      rw [hE1] at hl1
      simp only [List.length_append] at hl1
      have htl := txt_len dt
      have hdl : dt.length ≤ 1000000000 := by omega
      have hll : l.length ≤ 1000000000 := by omega
      have hpl : (l ++ Plain.row 1).length ≤ 1000000000 := by rw [List.length_append]; omega
      have HE1 := Lib.hid hE1
      clear hE1 hl1 htl HE HL hM' HH IH
      go_enter Try.func23, Try.ntmps23
      go_wp2_with (with_reducible refine box_any rfl 24 (.tmp 1) rfl (Nd.cells ⟨nm, 1, ex, dt, ks⟩ ao cap) rfl ?_; intro u hu bu zu; have c1 := hu.cell 1 (.int .i64 1) rfl; have HU := Lib.hid hu; have BU := Lib.hid bu; clear hu bu)
      refine (wnum_any B b l 1 u (H.out.below BU.out) (by decide) (by omega) (by omega)).mono ?_
      rintro e w2 ⟨rfl, h2, b2, wb2⟩
      have z2 := b2.size
      have HU2 := Lib.hid (HU.out.wb wb2 hne.out (by decide))
      have H2 := Lib.hid h2
      have HB2 := Lib.hid ((BU.out.mono hB).trans b2)
      have HW2 := Lib.hid ((WB.of_below (b := b) BU.out).trans wb2)
      obtain ⟨_, p, v, m, n, hp, hA2, ho, hm, hM2⟩ := h2
      have S0 : NS b w.heap.size m (Nd.cells ⟨nm, 1, ex, dt, ks⟩ ao cap) w2.drew := ⟨HU2.out, hA2.cell 2 _ rfl, n, hM2⟩
      have hmb : m ≠ b := fun e => by
        obtain ⟨es, clock, hh⟩ := hM2.isMap
        unfold At at hA2
        rw [e, hA2] at hh
        cases hh
      have H2' : WAt B w2.drew b (l ++ Plain.row 1) := H2.out
      have HB2' : Below B w w2.drew := HB2.out.trans ((below_drewN w2 1).mono (by omega))
      have HW2' : WB b w w2.drew := HW2.out.trans (WB.of_below (below_drewN w2 1))
      have hz2 : B ≤ w2.drew.heap.size := by show B ≤ w2.heap.size; omega
      clear b2 wb2 c1 HU BU hA2 ho hM2 hp hm
      go_wp2_with fail
      refine region_any (NS b w.heap.size m (Nd.cells ⟨nm, 1, ex, dt, ks⟩ ao cap)) 9 (by kernel_rfl) ?_
      show wpAnyT _ _ _ _ _ _ _ _ _ w2.drew
      generalize w2.drew = v0 at S0 H2' HB2' HW2' hz2 ⊢
      refine wpAnyT_takeN (i := 0) (v := .pointer (some ⟨b, 0, none⟩)) rfl (by decide) (by kernel_rfl) (by kernel_rfl) (by kernel_rfl) (fun _ _ _ h => h) (.inl ⟨by kernel_rfl, fun W hS => by kernel_rfl⟩) S0 ?_
      refine wpAnyT_takeN (i := 1) (v := .pointer (some ⟨b, 0, none⟩)) rfl (by decide) (by kernel_rfl) (by kernel_rfl) (by kernel_rfl) (fun _ _ _ h => h) (.inl ⟨by kernel_rfl, fun W hS => by kernel_rfl⟩) S0 ?_
      refine wpAnyT_takeN (i := 2) (v := .pointer (some ⟨b, 2, none⟩)) rfl (by decide) (by kernel_rfl) (by kernel_rfl) (by kernel_rfl) (fun _ _ _ h => h) (.inl ⟨by kernel_rfl, fun W hS => by kernel_rfl⟩) S0 ?_
      refine wpAnyT_takeN (i := 3) (v := .map (some m)) rfl (by decide) (by kernel_rfl) (by kernel_rfl) (by kernel_rfl) (fun _ _ _ h => h) (.inl ⟨by kernel_rfl, fun W hS => run_load_one 51 (.tmp 11) rfl ⟨b, 2, none⟩ (by kernel_rfl) _ hS.2.1 _ Try.underlying51 rfl⟩) S0 ?_
      refine wpAnyT_takeN (i := 4) (v := .pointer (some ⟨w.heap.size, 1, none⟩)) rfl (by decide) (by kernel_rfl) (by kernel_rfl) (by kernel_rfl) (fun _ _ _ h => h) (.inl ⟨by kernel_rfl, fun W hS => by kernel_rfl⟩) S0 ?_
      refine wpAnyT_takeN (i := 5) (v := .int .i64 1) rfl (by decide) (by kernel_rfl) (by kernel_rfl) (by kernel_rfl) (fun _ _ _ h => h) (.inl ⟨by kernel_rfl, fun W hS => run_load_one 3 (.tmp 13) rfl ⟨w.heap.size, 1, none⟩ (by kernel_rfl) _ (hS.1.cell 1 (.int .i64 1) rfl) _ Try.underlying3 rfl⟩) S0 ?_
      refine wpAnyT_takeN (i := 6) (v := .func (.func 43) #[.pointer (some ⟨b, 0, none⟩)] #[]) rfl (by decide) (by kernel_rfl) (by kernel_rfl) (by kernel_rfl) (fun _ _ _ h => h) (.inl ⟨by kernel_rfl, fun W hS => run_lookup_op 51 (.tmp 12) (.tmp 14) false rfl (.map (some m)) (.int .i64 1) _ (by kernel_rfl) (by kernel_rfl) (hS.2.2.elim fun n hM => hM.get Try.underlying3 Try.underlying51 (zero_wfn W) 1 (by decide))⟩) S0 ?_
      refine wpAnyT_takeN (i := 7) (v := Nd.v ⟨nm, 1, ex, dt, ks⟩ ao cap) rfl (by decide) (by kernel_rfl) (by kernel_rfl) (by kernel_rfl) (fun _ _ _ h => h) (.inl ⟨by kernel_rfl, fun W hS => run_load_at (.tmp 3) rfl w.heap.size (by kernel_rfl) ⟨nm, 1, ex, dt, ks⟩ ao cap hS.1⟩) S0 ?_
      refine wpAnyT_call (i := 8) (by kernel_rfl) rfl (by kernel_rfl) 43 #[.pointer (some ⟨b, 0, none⟩), Nd.v ⟨nm, 1, ex, dt, ks⟩ ao cap] (run_call_bound (first := #[.pointer (some ⟨b, 0, none⟩)]) rfl (by kernel_rfl) enters_wfile (Nd.v ⟨nm, 1, ex, dt, ks⟩ ao cap) (by kernel_rfl) _ rfl) ((wfile_any B nm 1 ex dt ks ao cap b (l ++ Plain.row 1) v0 hz2 hpl hdl H2').mono ?_)
      rintro e w3 ⟨rfl, h3, b3, wb3⟩
      refine ⟨_, rfl, S0.wb wb3 hne.out hmb, ?_⟩
      have H3 := Lib.hid h3
      have HB3 := Lib.hid (HB2'.trans b3)
      have HW3 := Lib.hid (HW2'.trans wb3)
      clear h3 b3 wb3 S0 H2' HB2' HW2' H2 HB2 HW2 HU2
      refine wpAnyT_done (by kernel_rfl) ?_ _
      simp only [Act.put, List.getElem_toArray, List.getElem_cons_succ, List.getElem_cons_zero, List.setIfInBounds_toArray, List.set_cons_zero, List.set_cons_succ]
      go_wp2_with fail
      go_end0
      refine ⟨rfl, ?_, HB3.out, HW3.out⟩
      rw [HE1.out, ← List.append_assoc]; exact H3.out
    have HE' : E = Plain.row kd.toNat ++ (if kd = 3 then txt dt else Plain.row ks.length ++ ks.flatMap (entryL (encL h))) := by rw [HE.out, if_neg k1]
    rw [if_neg k1] at hM'
    by_cases k2 : kd = 2
    · subst k2
      have hE1 : E = Plain.row 2 ++ (Plain.row ks.length ++ ks.flatMap (entryL (encL h))) := by rw [HE']; rfl
      rw [if_pos rfl] at hM'
      simp only [Bool.and_eq_true] at hM'
      have HK := Lib.hid (kidsOk_all hM'.2.2)
      have hl1 := HL.out
      rw [hE1, List.length_append] at hl1
      have hll : l.length ≤ 1000000000 := by omega
      have hpl : (l ++ Plain.row 2).length + (Plain.row ks.length ++ ks.flatMap (entryL (encL h))).length ≤ 1000000000 := by have e : (l ++ Plain.row 2).length = l.length + (Plain.row 2).length := List.length_append; omega
      have HPL := Lib.hid hpl
      have HE1 := Lib.hid hE1
      clear hE1 hl1 HE HE' HL hM' hpl k1
      go_enter Try.func23, Try.ntmps23
      go_wp2_with (with_reducible refine box_any rfl 24 (.tmp 1) rfl (Nd.cells ⟨nm, 2, ex, dt, ks⟩ ao cap) rfl ?_; intro u hu bu zu; have c1 := hu.cell 1 (.int .i64 2) rfl; have HU := Lib.hid hu; have BU := Lib.hid bu; clear hu bu)
      refine (wnum_any B b l 2 u (H.out.below BU.out) (by decide) (by omega) (by omega)).mono ?_
      rintro e w2 ⟨rfl, h2, b2, wb2⟩
      have z2 := b2.size
      have HU2 := Lib.hid (HU.out.wb wb2 hne.out (by decide))
      have H2 := Lib.hid h2
      have HB2 := Lib.hid ((BU.out.mono hB).trans b2)
      have HW2 := Lib.hid ((WB.of_below (b := b) BU.out).trans wb2)
      obtain ⟨_, p, v, m, n, hp, hA2, ho, hm, hM2⟩ := h2
      have S0 : NS b w.heap.size m (Nd.cells ⟨nm, 2, ex, dt, ks⟩ ao cap) w2.drew := ⟨HU2.out, hA2.cell 2 _ rfl, n, hM2⟩
      have hmb : m ≠ b := fun e => by
        obtain ⟨es, clock, hh⟩ := hM2.isMap
        unfold At at hA2
        rw [e, hA2] at hh
        cases hh
      have H2' : WAt B w2.drew b (l ++ Plain.row 2) := H2.out
      have HB2' : Below B w w2.drew := HB2.out.trans ((below_drewN w2 1).mono (by omega))
      have HW2' : WB b w w2.drew := HW2.out.trans (WB.of_below (below_drewN w2 1))
      have hz2 : B ≤ w2.drew.heap.size := by show B ≤ w2.heap.size; omega
      clear b2 wb2 c1 HU BU hA2 ho hM2 hp hm
      go_wp2_with fail
      refine region_any (NS b w.heap.size m (Nd.cells ⟨nm, 2, ex, dt, ks⟩ ao cap)) 9 (by kernel_rfl) ?_
      show wpAnyT _ _ _ _ _ _ _ _ _ w2.drew
      generalize w2.drew = v0 at S0 H2' HB2' HW2' hz2 ⊢
      refine wpAnyT_takeN (i := 0) (v := .pointer (some ⟨b, 0, none⟩)) rfl (by decide) (by kernel_rfl) (by kernel_rfl) (by kernel_rfl) (fun _ _ _ h => h) (.inl ⟨by kernel_rfl, fun W hS => by kernel_rfl⟩) S0 ?_
      refine wpAnyT_takeN (i := 1) (v := .pointer (some ⟨b, 0, none⟩)) rfl (by decide) (by kernel_rfl) (by kernel_rfl) (by kernel_rfl) (fun _ _ _ h => h) (.inl ⟨by kernel_rfl, fun W hS => by kernel_rfl⟩) S0 ?_
      refine wpAnyT_takeN (i := 2) (v := .pointer (some ⟨b, 2, none⟩)) rfl (by decide) (by kernel_rfl) (by kernel_rfl) (by kernel_rfl) (fun _ _ _ h => h) (.inl ⟨by kernel_rfl, fun W hS => by kernel_rfl⟩) S0 ?_
      refine wpAnyT_takeN (i := 3) (v := .map (some m)) rfl (by decide) (by kernel_rfl) (by kernel_rfl) (by kernel_rfl) (fun _ _ _ h => h) (.inl ⟨by kernel_rfl, fun W hS => run_load_one 51 (.tmp 11) rfl ⟨b, 2, none⟩ (by kernel_rfl) _ hS.2.1 _ Try.underlying51 rfl⟩) S0 ?_
      refine wpAnyT_takeN (i := 4) (v := .pointer (some ⟨w.heap.size, 1, none⟩)) rfl (by decide) (by kernel_rfl) (by kernel_rfl) (by kernel_rfl) (fun _ _ _ h => h) (.inl ⟨by kernel_rfl, fun W hS => by kernel_rfl⟩) S0 ?_
      refine wpAnyT_takeN (i := 5) (v := .int .i64 2) rfl (by decide) (by kernel_rfl) (by kernel_rfl) (by kernel_rfl) (fun _ _ _ h => h) (.inl ⟨by kernel_rfl, fun W hS => run_load_one 3 (.tmp 13) rfl ⟨w.heap.size, 1, none⟩ (by kernel_rfl) _ (hS.1.cell 1 (.int .i64 2) rfl) _ Try.underlying3 rfl⟩) S0 ?_
      refine wpAnyT_takeN (i := 6) (v := .func (.func 44) #[.pointer (some ⟨b, 0, none⟩)] #[]) rfl (by decide) (by kernel_rfl) (by kernel_rfl) (by kernel_rfl) (fun _ _ _ h => h) (.inl ⟨by kernel_rfl, fun W hS => run_lookup_op 51 (.tmp 12) (.tmp 14) false rfl (.map (some m)) (.int .i64 2) _ (by kernel_rfl) (by kernel_rfl) (hS.2.2.elim fun n hM => hM.get Try.underlying3 Try.underlying51 (zero_wfn W) 2 (by decide))⟩) S0 ?_
      refine wpAnyT_takeN (i := 7) (v := Nd.v ⟨nm, 2, ex, dt, ks⟩ ao cap) rfl (by decide) (by kernel_rfl) (by kernel_rfl) (by kernel_rfl) (fun _ _ _ h => h) (.inl ⟨by kernel_rfl, fun W hS => run_load_at (.tmp 3) rfl w.heap.size (by kernel_rfl) ⟨nm, 2, ex, dt, ks⟩ ao cap hS.1⟩) S0 ?_
      refine wpAnyT_call (i := 8) (by kernel_rfl) rfl (by kernel_rfl) 44 #[.pointer (some ⟨b, 0, none⟩), Nd.v ⟨nm, 2, ex, dt, ks⟩ ao cap] (run_call_bound (first := #[.pointer (some ⟨b, 0, none⟩)]) rfl (by kernel_rfl) enters_wdir (Nd.v ⟨nm, 2, ex, dt, ks⟩ ao cap) (by kernel_rfl) _ rfl) ((wdir_any B h IH.out nm 2 ex dt ks ao cap b (l ++ Plain.row 2) v0 hz2 (HH.out.under HB2') HK.out HPL.out H2').mono ?_)
      rintro e w3 ⟨rfl, h3, b3, wb3⟩
      refine ⟨_, rfl, S0.wb wb3 hne.out hmb, ?_⟩
      have H3 := Lib.hid h3
      have HB3 := Lib.hid (HB2'.trans b3)
      have HW3 := Lib.hid (HW2'.trans wb3)
      clear h3 b3 wb3 S0 H2' HB2' HW2' H2 HB2 HW2 HU2
      refine wpAnyT_done (by kernel_rfl) ?_ _
      simp only [Act.put, List.getElem_toArray, List.getElem_cons_succ, List.getElem_cons_zero, List.setIfInBounds_toArray, List.set_cons_zero, List.set_cons_succ]
      go_wp2_with fail
      go_end0
      refine ⟨rfl, ?_, HB3.out, HW3.out⟩
      rw [HE1.out, ← List.append_assoc]; exact H3.out
    rw [if_neg k2] at hM'
    by_cases k3 : kd = 3
    · subst k3
      have hE1 : E = Plain.row 3 ++ txt dt := by rw [HE', if_pos rfl]; rfl
      have hl1 := HL.out
      rw [hE1, List.length_append] at hl1
      have htl := txt_len dt
      have hdl : dt.length ≤ 1000000000 := by omega
      have hll : l.length ≤ 1000000000 := by omega
      have hpl : (l ++ Plain.row 3).length ≤ 1000000000 := by rw [List.length_append]; omega
      have HE1 := Lib.hid hE1
      clear hE1 hl1 htl HE HE' HL hM' HH IH k1 k2
      go_enter Try.func23, Try.ntmps23
      go_wp2_with (with_reducible refine box_any rfl 24 (.tmp 1) rfl (Nd.cells ⟨nm, 3, ex, dt, ks⟩ ao cap) rfl ?_; intro u hu bu zu; have c1 := hu.cell 1 (.int .i64 3) rfl; have HU := Lib.hid hu; have BU := Lib.hid bu; clear hu bu)
      refine (wnum_any B b l 3 u (H.out.below BU.out) (by decide) (by omega) (by omega)).mono ?_
      rintro e w2 ⟨rfl, h2, b2, wb2⟩
      have z2 := b2.size
      have HU2 := Lib.hid (HU.out.wb wb2 hne.out (by decide))
      have H2 := Lib.hid h2
      have HB2 := Lib.hid ((BU.out.mono hB).trans b2)
      have HW2 := Lib.hid ((WB.of_below (b := b) BU.out).trans wb2)
      obtain ⟨_, p, v, m, n, hp, hA2, ho, hm, hM2⟩ := h2
      have S0 : NS b w.heap.size m (Nd.cells ⟨nm, 3, ex, dt, ks⟩ ao cap) w2.drew := ⟨HU2.out, hA2.cell 2 _ rfl, n, hM2⟩
      have hmb : m ≠ b := fun e => by
        obtain ⟨es, clock, hh⟩ := hM2.isMap
        unfold At at hA2
        rw [e, hA2] at hh
        cases hh
      have H2' : WAt B w2.drew b (l ++ Plain.row 3) := H2.out
      have HB2' : Below B w w2.drew := HB2.out.trans ((below_drewN w2 1).mono (by omega))
      have HW2' : WB b w w2.drew := HW2.out.trans (WB.of_below (below_drewN w2 1))
      have hz2 : B ≤ w2.drew.heap.size := by show B ≤ w2.heap.size; omega
      clear b2 wb2 c1 HU BU hA2 ho hM2 hp hm
      go_wp2_with fail
      refine region_any (NS b w.heap.size m (Nd.cells ⟨nm, 3, ex, dt, ks⟩ ao cap)) 9 (by kernel_rfl) ?_
      show wpAnyT _ _ _ _ _ _ _ _ _ w2.drew
      generalize w2.drew = v0 at S0 H2' HB2' HW2' hz2 ⊢
      refine wpAnyT_takeN (i := 0) (v := .pointer (some ⟨b, 0, none⟩)) rfl (by decide) (by kernel_rfl) (by kernel_rfl) (by kernel_rfl) (fun _ _ _ h => h) (.inl ⟨by kernel_rfl, fun W hS => by kernel_rfl⟩) S0 ?_
      refine wpAnyT_takeN (i := 1) (v := .pointer (some ⟨b, 0, none⟩)) rfl (by decide) (by kernel_rfl) (by kernel_rfl) (by kernel_rfl) (fun _ _ _ h => h) (.inl ⟨by kernel_rfl, fun W hS => by kernel_rfl⟩) S0 ?_
      refine wpAnyT_takeN (i := 2) (v := .pointer (some ⟨b, 2, none⟩)) rfl (by decide) (by kernel_rfl) (by kernel_rfl) (by kernel_rfl) (fun _ _ _ h => h) (.inl ⟨by kernel_rfl, fun W hS => by kernel_rfl⟩) S0 ?_
      refine wpAnyT_takeN (i := 3) (v := .map (some m)) rfl (by decide) (by kernel_rfl) (by kernel_rfl) (by kernel_rfl) (fun _ _ _ h => h) (.inl ⟨by kernel_rfl, fun W hS => run_load_one 51 (.tmp 11) rfl ⟨b, 2, none⟩ (by kernel_rfl) _ hS.2.1 _ Try.underlying51 rfl⟩) S0 ?_
      refine wpAnyT_takeN (i := 4) (v := .pointer (some ⟨w.heap.size, 1, none⟩)) rfl (by decide) (by kernel_rfl) (by kernel_rfl) (by kernel_rfl) (fun _ _ _ h => h) (.inl ⟨by kernel_rfl, fun W hS => by kernel_rfl⟩) S0 ?_
      refine wpAnyT_takeN (i := 5) (v := .int .i64 3) rfl (by decide) (by kernel_rfl) (by kernel_rfl) (by kernel_rfl) (fun _ _ _ h => h) (.inl ⟨by kernel_rfl, fun W hS => run_load_one 3 (.tmp 13) rfl ⟨w.heap.size, 1, none⟩ (by kernel_rfl) _ (hS.1.cell 1 (.int .i64 3) rfl) _ Try.underlying3 rfl⟩) S0 ?_
      refine wpAnyT_takeN (i := 6) (v := .func (.func 45) #[.pointer (some ⟨b, 0, none⟩)] #[]) rfl (by decide) (by kernel_rfl) (by kernel_rfl) (by kernel_rfl) (fun _ _ _ h => h) (.inl ⟨by kernel_rfl, fun W hS => run_lookup_op 51 (.tmp 12) (.tmp 14) false rfl (.map (some m)) (.int .i64 3) _ (by kernel_rfl) (by kernel_rfl) (hS.2.2.elim fun n hM => hM.get Try.underlying3 Try.underlying51 (zero_wfn W) 3 (by decide))⟩) S0 ?_
      refine wpAnyT_takeN (i := 7) (v := Nd.v ⟨nm, 3, ex, dt, ks⟩ ao cap) rfl (by decide) (by kernel_rfl) (by kernel_rfl) (by kernel_rfl) (fun _ _ _ h => h) (.inl ⟨by kernel_rfl, fun W hS => run_load_at (.tmp 3) rfl w.heap.size (by kernel_rfl) ⟨nm, 3, ex, dt, ks⟩ ao cap hS.1⟩) S0 ?_
      refine wpAnyT_call (i := 8) (by kernel_rfl) rfl (by kernel_rfl) 45 #[.pointer (some ⟨b, 0, none⟩), Nd.v ⟨nm, 3, ex, dt, ks⟩ ao cap] (run_call_bound (first := #[.pointer (some ⟨b, 0, none⟩)]) rfl (by kernel_rfl) enters_wlink (Nd.v ⟨nm, 3, ex, dt, ks⟩ ao cap) (by kernel_rfl) _ rfl) ((wlink_any B nm 3 ex dt ks ao cap b (l ++ Plain.row 3) v0 hz2 hpl hdl H2').mono ?_)
      rintro e w3 ⟨rfl, h3, b3, wb3⟩
      refine ⟨_, rfl, S0.wb wb3 hne.out hmb, ?_⟩
      have H3 := Lib.hid h3
      have HB3 := Lib.hid (HB2'.trans b3)
      have HW3 := Lib.hid (HW2'.trans wb3)
      clear h3 b3 wb3 S0 H2' HB2' HW2' H2 HB2 HW2 HU2
      refine wpAnyT_done (by kernel_rfl) ?_ _
      simp only [Act.put, List.getElem_toArray, List.getElem_cons_succ, List.getElem_cons_zero, List.setIfInBounds_toArray, List.set_cons_zero, List.set_cons_succ]
      go_wp2_with fail
      go_end0
      refine ⟨rfl, ?_, HB3.out, HW3.out⟩
      rw [HE1.out, ← List.append_assoc]; exact H3.out
    · rw [if_neg k3] at hM'
      cases hM'
end Go.Proofs.Ytdpeblchndfdaaa
