/- The document's may. -/
import Derived.Test.YtdpeblchndfdaaaPa
namespace Go.Proofs.Ytdpeblchndfdaaa
open Go.RowKit
set_option maxRecDepth 100000
theorem enters_rname : ∀ args w, (callFunc 79 args).run Try.prog w = .ok (.enter 79 args) w := enters_of Try.func79 (by kernel_rfl) rfl
theorem enters_rmay : ∀ args w, (callFunc 49 args).run Try.prog w = .ok (.enter 49 args) w := enters_of Try.func49 (by kernel_rfl) rfl
theorem run_geq_op {o : Oper} {a : Act} {w : World} (x y : Operand) (ho : o.op = .binOp .geq 9 x y 9) (p q : List UInt8) (r : Bool) (hr : Op.bytesLess p q = !r) (hx : a.eval x = .string (bs p)) (hy : a.eval y = .string (bs q)) :
    (execOp a.eval o).run Try.prog w = .ok (.value (.bool r)) w := by
  unfold execOp
  simp only [ho, hx, hy]
  cases r <;> simp [go_sem, Op.stringOp, bs_toList', hr]
theorem run_gtr0_op {o : Oper} {a : Act} {w : World} (x : Operand) (ho : o.op = .binOp .gtr 3 x (.const (.int .i64 0)) 3) (k : Nat) (b : Bool) (hb : decide ((0 : Int) < (k : Int)) = b) (hx : a.eval x = .int .i64 (k : Int)) :
    (execOp a.eval o).run Try.prog w = .ok (.value (.bool b)) w := by
  have hc : a.eval (.const (.int .i64 0)) = .int .i64 0 := rfl
  unfold execOp
  simp only [ho, hx, hc]
  subst hb
  simp [go_sem]
theorem run_dec_op {o : Oper} {a : Act} {w : World} (x : Operand) (ho : o.op = .binOp .sub 3 x (.const (.int .i64 1)) 3) (q : Nat) (hq : q < 9223372036854775807) (hx : a.eval x = .int .i64 ((q + 1 : Nat) : Int)) :
    (execOp a.eval o).run Try.prog w = .ok (.value (.int .i64 (q : Int))) w := by
  have hc : a.eval (.const (.int .i64 1)) = .int .i64 1 := rfl
  have e : IntKind.i64.wrap (((q + 1 : Nat) : Int) - 1) = (q : Int) := by rw [IntKind.wrap_i64]; omega
  unfold execOp
  simp only [ho, hx, hc]
  have e2 : IntKind.i64.wrap (q : Int) = (q : Int) := by rw [IntKind.wrap_i64]; omega
  generalize ((q + 1 : Nat) : Int) - 1 = z at *
  simp [go_sem, e, e2]
theorem kidsOk_bad {f : Nd → Bool} {ks : List Nd} {i : Nat} {m : Nd} (hm : ks[i]? = some m) (h : kidOk f ks i m = false) : kidsOk f ks = false := by
  cases hq : kidsOk f ks
  · rfl
  · unfold kidsOk at hq
    rw [List.all_eq_true] at hq
    have := hq (m, i) (by rw [List.mem_zipIdx_iff_getElem?]; exact hm)
    simp only [] at this
    rw [h] at this
    cases this
theorem kidsOk_good {f : Nd → Bool} {ks : List Nd} (h : ∀ i m, ks[i]? = some m → kidOk f ks i m = true) : kidsOk f ks = true := by
  unfold kidsOk
  rw [List.all_eq_true]
  rintro ⟨m, i⟩ hp
  exact h i m (by simpa using List.mem_zipIdx_iff_getElem?.mp hp)
set_option maxHeartbeats 8000000 in
theorem rmay_any : ∀ (h : Nat) (n : Nd) (ao : Option Addr) (cap : Nat) (w : World), Has any_ w h n ao → (∀ j, NamB j n) →
    Calls Try.prog 49 #[n.v ao cap] w fun e w' => e = .returned (.bool (mayL h n)) ∧ Below w.heap.size w w' := by
  intro h
  induction h with
  | zero => intro n ao cap w hH; exact hH.elim
  | succ h ih =>
    intro n ao cap w hH hN
    have IH : Hid (∀ (m : Nd) (g : Option Addr) (c : Nat) (w : World), Has any_ w h m g → (∀ j, NamB j m) → Calls Try.prog 49 #[m.v g c] w fun e w' => e = .returned (.bool (mayL h m)) ∧ Below w.heap.size w w') := Lib.hid ih
    have HH := Lib.hid hH
    have HNB0 := Lib.hid hN
    clear ih hH hN
    cases n with
    | mk nm kd ex dt ks =>
    obtain ⟨R, hR⟩ : ∃ R, R = mayL (h + 1) ⟨nm, kd, ex, dt, ks⟩ := ⟨_, rfl⟩
    rw [← hR]
    change R = (if kd = 1 then ks.isEmpty else if kd = 2 then !ex && (dt.isEmpty && kidsOk (mayL h) ks) else if kd = 3 then !ex && (ks.isEmpty && textOk dt 255) else false) at hR
    have hdl : dt.length ≤ maxLen := (HNB0.out 1).2.1
    have hkl : ks.length ≤ maxLen := HH.out.1
    unfold maxLen at hdl hkl
    go_enter Try.func49, Try.ntmps49
    by_cases k1 : kd = 1
    · subst k1
      rw [if_pos rfl] at hR
      have HR := Lib.hid hR
      clear hR
      go_wp2_with (with_reducible refine box_any rfl 24 (.tmp 0) rfl [.string (bs nm), .int .i64 1, .bool ex, .string (bs dt), .slice ao ks.length cap] rfl ?_; intro u hu bu zu; have c1 := hu.cell 1 _ rfl; have c4 := hu.cell 4 _ rfl; have BU := Lib.hid bu; clear hu bu)
      go_ret
      refine ⟨?_, BU.out⟩
      rw [HR.out]
      cases ks with
      | nil => rfl
      | cons a r => simp; omega
    rw [if_neg k1] at hR
    by_cases k2 : kd = 2
    · subst k2
      rw [if_pos rfl] at hR
      have HR := Lib.hid hR
      clear hR k1
      go_wp2_with (with_reducible refine box_any rfl 24 (.tmp 0) rfl [.string (bs nm), .int .i64 2, .bool ex, .string (bs dt), .slice ao ks.length cap] rfl ?_; intro u hu bu zu; have c1 := hu.cell 1 _ rfl; have HU := Lib.hid hu; have BU := Lib.hid bu; clear hu bu)
      have HKS := Lib.hid HH.out.2
      go_loopw [4] (fun i wx => ∃ k : Nat, k ≤ ks.length ∧ i = .int .i64 k ∧ (∀ i m, i < k → ks[i]? = some m → kidOk (mayL h) ks i m = true) ∧ At wx w.heap.size 24 [.string (bs nm), .int .i64 2, .bool ex, .string (bs dt), .slice ao ks.length cap] ∧ Below w.heap.size w wx) (fun i _ => ks.length - (intOf i).toNat)
      case atStart => exact ⟨0, Nat.zero_le _, rfl, fun i m hi => by omega, HU.out, BU.out⟩
      clear HU BU c1
      case round =>
        obtain ⟨k, hk, rfl, hall, hA, hB⟩ := hrel
        have c4 := hA.cell 4 _ rfl
        have HALL := Lib.hid hall
        have HA := Lib.hid hA
        have HB := Lib.hid hB
        have hwz := hB.size
        clear hall hA hB
        by_cases hlt : k < ks.length
        · have hlt' : (k : Int) < ks.length := by omega
          obtain ⟨m, hm⟩ : ∃ m, ks[k]? = some m := ⟨_, List.getElem?_eq_getElem hlt⟩
          obtain ⟨x, g, c, rfl, _, hKi, hMi⟩ := HKS.out k m hm
          have HKi := Lib.hid (hKi.kept (HB.out.block x.block hKi.lt))
          have HMi := Lib.hid (hMi.below HB.out)
          have HMM := Lib.hid hm
          have hmem := List.mem_of_getElem? hm
          have HNB := Lib.hid (fun j => (HNB0.out (j + 1)).2.2 m hmem)
          have HNM := Lib.hid (show m.name.length ≤ maxLen from ((HNB0.out 2).2.2 m hmem).1)
          clear hKi hMi hm hmem
          go_wp2_with fail
          refine region_any (fun W => Below wr.heap.size wr W) 37 (by kernel_rfl) ?_
          show wpAnyT _ _ _ _ _ _ _ _ _ wr.drew
          have S0 : Below wr.heap.size wr wr.drew := below_drewN wr 1
          generalize wr.drew = v0 at S0 ⊢
          refine wpAnyT_takeN (i := 0) (v := .pointer (some ⟨w.heap.size, 4, none⟩)) rfl (by decide) (by kernel_rfl) (by kernel_rfl) (by kernel_rfl) (fun _ _ _ h => h) (.inl ⟨by kernel_rfl, fun W hS => by kernel_rfl⟩) S0 ?_
          refine wpAnyT_takeN (i := 1) (v := .slice (some x) ks.length cap) rfl (by decide) (by kernel_rfl) (by kernel_rfl) (by kernel_rfl) (fun _ _ _ h => h) (.inl ⟨by kernel_rfl, fun W hS => run_load_one 22 (.tmp 57) rfl ⟨w.heap.size, 4, none⟩ (by kernel_rfl) _ ((HA.out.below hS HA.out.lt).cell 4 _ rfl) _ Try.underlying22 rfl⟩) S0 ?_
          refine wpAnyT_takeN (i := 2) (v := .int .i64 (k : Int)) rfl (by decide) (by kernel_rfl) (by kernel_rfl) (by kernel_rfl) (fun _ _ _ h => h) (.inl ⟨by kernel_rfl, fun W hS => by kernel_rfl⟩) S0 ?_
          refine wpAnyT_takeN (i := 3) (v := .pointer (some (x.add (k * 5)))) rfl (by decide) (by kernel_rfl) (by kernel_rfl) (by kernel_rfl) (fun _ _ _ h => h) (.inl ⟨by kernel_rfl, fun W hS => run_index_op 22 24 (.tmp 58) (.tmp 59) rfl x ks.length cap k (by kernel_rfl) (by kernel_rfl) hlt 5 _ rfl Try.underlying22 info_nd⟩) S0 ?_
          refine wpAnyT_takeN (i := 4) (v := .pointer (some ((x.add (k * 5)).add 0))) rfl (by decide) (by kernel_rfl) (by kernel_rfl) (by kernel_rfl) (fun _ _ _ h => h) (.inl ⟨by kernel_rfl, fun W hS => by kernel_rfl⟩) S0 ?_
          refine wpAnyT_takeN (i := 5) (v := .string (bs m.name)) rfl (by decide) (by kernel_rfl) (by kernel_rfl) (by kernel_rfl) (fun _ _ _ h => h) (.inl ⟨by kernel_rfl, fun W hS => run_load_one 9 (.tmp 61) rfl ((x.add (k * 5)).add 0) (by kernel_rfl) _ ((HKi.out.kept (hS.block _ HKi.out.lt)) 0 _ rfl) _ Try.underlying9 rfl⟩) S0 ?_
          cases hnb : nameOk m.name
          · refine wpAnyT_call (i := 6) (by kernel_rfl) rfl (by kernel_rfl) 79 #[.string (bs m.name)] (run_call_func rfl enters_rname _ (by kernel_rfl)) ((rname_any m.name v0 HNM.out).mono ?_)
            rintro e v1 ⟨rfl, rfl⟩
            refine ⟨_, rfl, S0, ?_⟩
            rw [hnb]
            refine wpAnyT_takeN (i := 7) (v := .bool true) rfl (by decide) (by kernel_rfl) (by kernel_rfl) (by kernel_rfl) (fun _ _ _ h => h) (.inl ⟨by kernel_rfl, fun W hS => by kernel_rfl⟩) S0 ?_
            refine wpAnyT_takeN (i := 8) (v := .bool true) rfl (by decide) (by kernel_rfl) (by kernel_rfl) (by kernel_rfl) (fun _ _ _ h => h) (.inl ⟨by kernel_rfl, fun W hS => by kernel_rfl⟩) S0 ?_
            refine wpAnyT_takeN (i := 9) (v := undef) rfl (by decide) (by kernel_rfl) (by kernel_rfl) (by kernel_rfl) (fun _ _ _ h => h) (.inr ⟨by kernel_rfl, rfl⟩) S0 ?_
            refine wpAnyT_takeN (i := 10) (v := undef) rfl (by decide) (by kernel_rfl) (by kernel_rfl) (by kernel_rfl) (fun _ _ _ h => h) (.inr ⟨by kernel_rfl, rfl⟩) S0 ?_
            refine wpAnyT_takeN (i := 11) (v := undef) rfl (by decide) (by kernel_rfl) (by kernel_rfl) (by kernel_rfl) (fun _ _ _ h => h) (.inr ⟨by kernel_rfl, rfl⟩) S0 ?_
            refine wpAnyT_takeN (i := 12) (v := undef) rfl (by decide) (by kernel_rfl) (by kernel_rfl) (by kernel_rfl) (fun _ _ _ h => h) (.inr ⟨by kernel_rfl, rfl⟩) S0 ?_
            refine wpAnyT_takeN (i := 13) (v := undef) rfl (by decide) (by kernel_rfl) (by kernel_rfl) (by kernel_rfl) (fun _ _ _ h => h) (.inr ⟨by kernel_rfl, rfl⟩) S0 ?_
            refine wpAnyT_takeN (i := 14) (v := undef) rfl (by decide) (by kernel_rfl) (by kernel_rfl) (by kernel_rfl) (fun _ _ _ h => h) (.inr ⟨by kernel_rfl, rfl⟩) S0 ?_
            refine wpAnyT_takeN (i := 15) (v := undef) rfl (by decide) (by kernel_rfl) (by kernel_rfl) (by kernel_rfl) (fun _ _ _ h => h) (.inr ⟨by kernel_rfl, rfl⟩) S0 ?_
            refine wpAnyT_takeN (i := 16) (v := .bool true) rfl (by decide) (by kernel_rfl) (by kernel_rfl) (by kernel_rfl) (fun _ _ _ h => h) (.inl ⟨by kernel_rfl, fun W hS => by kernel_rfl⟩) S0 ?_
            refine wpAnyT_takeN (i := 17) (v := .bool true) rfl (by decide) (by kernel_rfl) (by kernel_rfl) (by kernel_rfl) (fun _ _ _ h => h) (.inl ⟨by kernel_rfl, fun W hS => by kernel_rfl⟩) S0 ?_
            refine wpAnyT_takeN (i := 18) (v := undef) rfl (by decide) (by kernel_rfl) (by kernel_rfl) (by kernel_rfl) (fun _ _ _ h => h) (.inr ⟨by kernel_rfl, rfl⟩) S0 ?_
            refine wpAnyT_takeN (i := 19) (v := undef) rfl (by decide) (by kernel_rfl) (by kernel_rfl) (by kernel_rfl) (fun _ _ _ h => h) (.inr ⟨by kernel_rfl, rfl⟩) S0 ?_
            refine wpAnyT_takeN (i := 20) (v := undef) rfl (by decide) (by kernel_rfl) (by kernel_rfl) (by kernel_rfl) (fun _ _ _ h => h) (.inr ⟨by kernel_rfl, rfl⟩) S0 ?_
            refine wpAnyT_takeN (i := 21) (v := undef) rfl (by decide) (by kernel_rfl) (by kernel_rfl) (by kernel_rfl) (fun _ _ _ h => h) (.inr ⟨by kernel_rfl, rfl⟩) S0 ?_
            refine wpAnyT_takeN (i := 22) (v := undef) rfl (by decide) (by kernel_rfl) (by kernel_rfl) (by kernel_rfl) (fun _ _ _ h => h) (.inr ⟨by kernel_rfl, rfl⟩) S0 ?_
            refine wpAnyT_takeN (i := 23) (v := undef) rfl (by decide) (by kernel_rfl) (by kernel_rfl) (by kernel_rfl) (fun _ _ _ h => h) (.inr ⟨by kernel_rfl, rfl⟩) S0 ?_
            refine wpAnyT_takeN (i := 24) (v := undef) rfl (by decide) (by kernel_rfl) (by kernel_rfl) (by kernel_rfl) (fun _ _ _ h => h) (.inr ⟨by kernel_rfl, rfl⟩) S0 ?_
            refine wpAnyT_takeN (i := 25) (v := undef) rfl (by decide) (by kernel_rfl) (by kernel_rfl) (by kernel_rfl) (fun _ _ _ h => h) (.inr ⟨by kernel_rfl, rfl⟩) S0 ?_
            refine wpAnyT_takeN (i := 26) (v := undef) rfl (by decide) (by kernel_rfl) (by kernel_rfl) (by kernel_rfl) (fun _ _ _ h => h) (.inr ⟨by kernel_rfl, rfl⟩) S0 ?_
            refine wpAnyT_takeN (i := 27) (v := undef) rfl (by decide) (by kernel_rfl) (by kernel_rfl) (by kernel_rfl) (fun _ _ _ h => h) (.inr ⟨by kernel_rfl, rfl⟩) S0 ?_
            refine wpAnyT_takeN (i := 28) (v := undef) rfl (by decide) (by kernel_rfl) (by kernel_rfl) (by kernel_rfl) (fun _ _ _ h => h) (.inr ⟨by kernel_rfl, rfl⟩) S0 ?_
            refine wpAnyT_takeN (i := 29) (v := undef) rfl (by decide) (by kernel_rfl) (by kernel_rfl) (by kernel_rfl) (fun _ _ _ h => h) (.inr ⟨by kernel_rfl, rfl⟩) S0 ?_
            refine wpAnyT_takeN (i := 30) (v := undef) rfl (by decide) (by kernel_rfl) (by kernel_rfl) (by kernel_rfl) (fun _ _ _ h => h) (.inr ⟨by kernel_rfl, rfl⟩) S0 ?_
            refine wpAnyT_takeN (i := 31) (v := undef) rfl (by decide) (by kernel_rfl) (by kernel_rfl) (by kernel_rfl) (fun _ _ _ h => h) (.inr ⟨by kernel_rfl, rfl⟩) S0 ?_
            refine wpAnyT_takeN (i := 32) (v := undef) rfl (by decide) (by kernel_rfl) (by kernel_rfl) (by kernel_rfl) (fun _ _ _ h => h) (.inr ⟨by kernel_rfl, rfl⟩) S0 ?_
            refine wpAnyT_takeN (i := 33) (v := undef) rfl (by decide) (by kernel_rfl) (by kernel_rfl) (by kernel_rfl) (fun _ _ _ h => h) (.inr ⟨by kernel_rfl, rfl⟩) S0 ?_
            refine wpAnyT_takeN (i := 34) (v := undef) rfl (by decide) (by kernel_rfl) (by kernel_rfl) (by kernel_rfl) (fun _ _ _ h => h) (.inr ⟨by kernel_rfl, rfl⟩) S0 ?_
            refine wpAnyT_takeN (i := 35) (v := undef) rfl (by decide) (by kernel_rfl) (by kernel_rfl) (by kernel_rfl) (fun _ _ _ h => h) (.inr ⟨by kernel_rfl, rfl⟩) S0 ?_
            refine wpAnyT_takeN (i := 36) (v := .bool true) rfl (by decide) (by kernel_rfl) (by kernel_rfl) (by kernel_rfl) (fun _ _ _ h => h) (.inl ⟨by kernel_rfl, fun W hS => by kernel_rfl⟩) S0 ?_
            have hbad : kidsOk (mayL h) ks = false := kidsOk_bad HMM.out (by unfold kidOk; rw [hnb]; simp)
            have hres : R = false := by rw [HR.out, hbad]; simp
            have HRES := Lib.hid hres
            clear hbad hres
            refine wpAnyT_done (by kernel_rfl) ?_ _
            simp only [Act.put, List.getElem_toArray, List.getElem_cons_succ, List.getElem_cons_zero, List.setIfInBounds_toArray, List.set_cons_zero, List.set_cons_succ]
            go_wp2_with fail
            go_ret
            exact ⟨by rw [HRES.out]; rfl, HB.out.trans (S0.mono HB.out.size)⟩
          · refine wpAnyT_call (i := 6) (by kernel_rfl) rfl (by kernel_rfl) 79 #[.string (bs m.name)] (run_call_func rfl enters_rname _ (by kernel_rfl)) ((rname_any m.name v0 HNM.out).mono ?_)
            rintro e v1 ⟨rfl, rfl⟩
            refine ⟨_, rfl, S0, ?_⟩
            rw [hnb]
            refine wpAnyT_takeN (i := 7) (v := .bool false) rfl (by decide) (by kernel_rfl) (by kernel_rfl) (by kernel_rfl) (fun _ _ _ h => h) (.inl ⟨by kernel_rfl, fun W hS => by kernel_rfl⟩) S0 ?_
            refine wpAnyT_takeN (i := 8) (v := .bool false) rfl (by decide) (by kernel_rfl) (by kernel_rfl) (by kernel_rfl) (fun _ _ _ h => h) (.inl ⟨by kernel_rfl, fun W hS => by kernel_rfl⟩) S0 ?_
            refine wpAnyT_takeN (i := 9) (v := .pointer (some ⟨w.heap.size, 4, none⟩)) rfl (by decide) (by kernel_rfl) (by kernel_rfl) (by kernel_rfl) (fun _ _ _ h => h) (.inl ⟨by kernel_rfl, fun W hS => by kernel_rfl⟩) S0 ?_
            refine wpAnyT_takeN (i := 10) (v := .slice (some x) ks.length cap) rfl (by decide) (by kernel_rfl) (by kernel_rfl) (by kernel_rfl) (fun _ _ _ h => h) (.inl ⟨by kernel_rfl, fun W hS => run_load_one 22 (.tmp 66) rfl ⟨w.heap.size, 4, none⟩ (by kernel_rfl) _ ((HA.out.below hS HA.out.lt).cell 4 _ rfl) _ Try.underlying22 rfl⟩) S0 ?_
            refine wpAnyT_takeN (i := 11) (v := .int .i64 (k : Int)) rfl (by decide) (by kernel_rfl) (by kernel_rfl) (by kernel_rfl) (fun _ _ _ h => h) (.inl ⟨by kernel_rfl, fun W hS => by kernel_rfl⟩) S0 ?_
            refine wpAnyT_takeN (i := 12) (v := .pointer (some (x.add (k * 5)))) rfl (by decide) (by kernel_rfl) (by kernel_rfl) (by kernel_rfl) (fun _ _ _ h => h) (.inl ⟨by kernel_rfl, fun W hS => run_index_op 22 24 (.tmp 67) (.tmp 68) rfl x ks.length cap k (by kernel_rfl) (by kernel_rfl) hlt 5 _ rfl Try.underlying22 info_nd⟩) S0 ?_
            refine wpAnyT_takeN (i := 13) (v := m.v g c) rfl (by decide) (by kernel_rfl) (by kernel_rfl) (by kernel_rfl) (fun _ _ _ h => h) (.inl ⟨by kernel_rfl, fun W hS => run_load_nd (.tmp 69) rfl (x.add (k * 5)) (by kernel_rfl) m g c (HKi.out.kept (hS.block _ HKi.out.lt))⟩) S0 ?_
            cases hmb : mayL h m
            · refine wpAnyT_call (i := 14) (by kernel_rfl) rfl (by kernel_rfl) 49 #[m.v g c] (run_call_func rfl enters_rmay _ (by kernel_rfl)) ((IH.out m g c v1 (HMi.out.below S0) HNB.out).mono ?_)
              rintro e v2 ⟨rfl, b2⟩
              have S1 : Below wr.heap.size wr v2 := S0.trans (b2.mono S0.size)
              refine ⟨_, rfl, S1, ?_⟩
              clear S0
              have S0 := S1
              rw [hmb]
              refine wpAnyT_takeN (i := 15) (v := .bool true) rfl (by decide) (by kernel_rfl) (by kernel_rfl) (by kernel_rfl) (fun _ _ _ h => h) (.inl ⟨by kernel_rfl, fun W hS => by kernel_rfl⟩) S0 ?_
              refine wpAnyT_takeN (i := 16) (v := .bool true) rfl (by decide) (by kernel_rfl) (by kernel_rfl) (by kernel_rfl) (fun _ _ _ h => h) (.inl ⟨by kernel_rfl, fun W hS => by kernel_rfl⟩) S0 ?_
              refine wpAnyT_takeN (i := 17) (v := .bool true) rfl (by decide) (by kernel_rfl) (by kernel_rfl) (by kernel_rfl) (fun _ _ _ h => h) (.inl ⟨by kernel_rfl, fun W hS => by kernel_rfl⟩) S0 ?_
              refine wpAnyT_takeN (i := 18) (v := undef) rfl (by decide) (by kernel_rfl) (by kernel_rfl) (by kernel_rfl) (fun _ _ _ h => h) (.inr ⟨by kernel_rfl, rfl⟩) S0 ?_
              refine wpAnyT_takeN (i := 19) (v := undef) rfl (by decide) (by kernel_rfl) (by kernel_rfl) (by kernel_rfl) (fun _ _ _ h => h) (.inr ⟨by kernel_rfl, rfl⟩) S0 ?_
              refine wpAnyT_takeN (i := 20) (v := undef) rfl (by decide) (by kernel_rfl) (by kernel_rfl) (by kernel_rfl) (fun _ _ _ h => h) (.inr ⟨by kernel_rfl, rfl⟩) S0 ?_
              refine wpAnyT_takeN (i := 21) (v := undef) rfl (by decide) (by kernel_rfl) (by kernel_rfl) (by kernel_rfl) (fun _ _ _ h => h) (.inr ⟨by kernel_rfl, rfl⟩) S0 ?_
              refine wpAnyT_takeN (i := 22) (v := undef) rfl (by decide) (by kernel_rfl) (by kernel_rfl) (by kernel_rfl) (fun _ _ _ h => h) (.inr ⟨by kernel_rfl, rfl⟩) S0 ?_
              refine wpAnyT_takeN (i := 23) (v := undef) rfl (by decide) (by kernel_rfl) (by kernel_rfl) (by kernel_rfl) (fun _ _ _ h => h) (.inr ⟨by kernel_rfl, rfl⟩) S0 ?_
              refine wpAnyT_takeN (i := 24) (v := undef) rfl (by decide) (by kernel_rfl) (by kernel_rfl) (by kernel_rfl) (fun _ _ _ h => h) (.inr ⟨by kernel_rfl, rfl⟩) S0 ?_
              refine wpAnyT_takeN (i := 25) (v := undef) rfl (by decide) (by kernel_rfl) (by kernel_rfl) (by kernel_rfl) (fun _ _ _ h => h) (.inr ⟨by kernel_rfl, rfl⟩) S0 ?_
              refine wpAnyT_takeN (i := 26) (v := undef) rfl (by decide) (by kernel_rfl) (by kernel_rfl) (by kernel_rfl) (fun _ _ _ h => h) (.inr ⟨by kernel_rfl, rfl⟩) S0 ?_
              refine wpAnyT_takeN (i := 27) (v := undef) rfl (by decide) (by kernel_rfl) (by kernel_rfl) (by kernel_rfl) (fun _ _ _ h => h) (.inr ⟨by kernel_rfl, rfl⟩) S0 ?_
              refine wpAnyT_takeN (i := 28) (v := undef) rfl (by decide) (by kernel_rfl) (by kernel_rfl) (by kernel_rfl) (fun _ _ _ h => h) (.inr ⟨by kernel_rfl, rfl⟩) S0 ?_
              refine wpAnyT_takeN (i := 29) (v := undef) rfl (by decide) (by kernel_rfl) (by kernel_rfl) (by kernel_rfl) (fun _ _ _ h => h) (.inr ⟨by kernel_rfl, rfl⟩) S0 ?_
              refine wpAnyT_takeN (i := 30) (v := undef) rfl (by decide) (by kernel_rfl) (by kernel_rfl) (by kernel_rfl) (fun _ _ _ h => h) (.inr ⟨by kernel_rfl, rfl⟩) S0 ?_
              refine wpAnyT_takeN (i := 31) (v := undef) rfl (by decide) (by kernel_rfl) (by kernel_rfl) (by kernel_rfl) (fun _ _ _ h => h) (.inr ⟨by kernel_rfl, rfl⟩) S0 ?_
              refine wpAnyT_takeN (i := 32) (v := undef) rfl (by decide) (by kernel_rfl) (by kernel_rfl) (by kernel_rfl) (fun _ _ _ h => h) (.inr ⟨by kernel_rfl, rfl⟩) S0 ?_
              refine wpAnyT_takeN (i := 33) (v := undef) rfl (by decide) (by kernel_rfl) (by kernel_rfl) (by kernel_rfl) (fun _ _ _ h => h) (.inr ⟨by kernel_rfl, rfl⟩) S0 ?_
              refine wpAnyT_takeN (i := 34) (v := undef) rfl (by decide) (by kernel_rfl) (by kernel_rfl) (by kernel_rfl) (fun _ _ _ h => h) (.inr ⟨by kernel_rfl, rfl⟩) S0 ?_
              refine wpAnyT_takeN (i := 35) (v := undef) rfl (by decide) (by kernel_rfl) (by kernel_rfl) (by kernel_rfl) (fun _ _ _ h => h) (.inr ⟨by kernel_rfl, rfl⟩) S0 ?_
              refine wpAnyT_takeN (i := 36) (v := .bool true) rfl (by decide) (by kernel_rfl) (by kernel_rfl) (by kernel_rfl) (fun _ _ _ h => h) (.inl ⟨by kernel_rfl, fun W hS => by kernel_rfl⟩) S0 ?_
              have hbad : kidsOk (mayL h) ks = false := kidsOk_bad HMM.out (by unfold kidOk; rw [hmb]; simp)
              have hres : R = false := by rw [HR.out, hbad]; simp
              have HRES := Lib.hid hres
              clear hbad hres
              refine wpAnyT_done (by kernel_rfl) ?_ _
              simp only [Act.put, List.getElem_toArray, List.getElem_cons_succ, List.getElem_cons_zero, List.setIfInBounds_toArray, List.set_cons_zero, List.set_cons_succ]
              go_wp2_with fail
              go_ret
              exact ⟨by rw [HRES.out]; rfl, HB.out.trans (S0.mono HB.out.size)⟩
            · refine wpAnyT_call (i := 14) (by kernel_rfl) rfl (by kernel_rfl) 49 #[m.v g c] (run_call_func rfl enters_rmay _ (by kernel_rfl)) ((IH.out m g c v1 (HMi.out.below S0) HNB.out).mono ?_)
              rintro e v2 ⟨rfl, b2⟩
              have S1 : Below wr.heap.size wr v2 := S0.trans (b2.mono S0.size)
              refine ⟨_, rfl, S1, ?_⟩
              clear S0
              have S0 := S1
              rw [hmb]
              refine wpAnyT_takeN (i := 15) (v := .bool false) rfl (by decide) (by kernel_rfl) (by kernel_rfl) (by kernel_rfl) (fun _ _ _ h => h) (.inl ⟨by kernel_rfl, fun W hS => by kernel_rfl⟩) S0 ?_
              refine wpAnyT_takeN (i := 16) (v := .bool false) rfl (by decide) (by kernel_rfl) (by kernel_rfl) (by kernel_rfl) (fun _ _ _ h => h) (.inl ⟨by kernel_rfl, fun W hS => by kernel_rfl⟩) S0 ?_
              refine wpAnyT_takeN (i := 17) (v := .bool false) rfl (by decide) (by kernel_rfl) (by kernel_rfl) (by kernel_rfl) (fun _ _ _ h => h) (.inl ⟨by kernel_rfl, fun W hS => by kernel_rfl⟩) S0 ?_
              refine wpAnyT_takeN (i := 18) (v := .int .i64 (k : Int)) rfl (by decide) (by kernel_rfl) (by kernel_rfl) (by kernel_rfl) (fun _ _ _ h => h) (.inl ⟨by kernel_rfl, fun W hS => by kernel_rfl⟩) S0 ?_
              by_cases hk0 : k = 0
              · have hg0 : decide ((0 : Int) < (k : Int)) = false := decide_eq_false (by omega)
                refine wpAnyT_takeN (i := 19) (v := .bool false) rfl (by decide) (by kernel_rfl) (by kernel_rfl) (by kernel_rfl) (fun _ _ _ h => h) (.inl ⟨by kernel_rfl, fun W hS => run_gtr0_op (.tmp 75) rfl k false hg0 (by kernel_rfl)⟩) S0 ?_
                refine wpAnyT_takeN (i := 20) (v := .bool false) rfl (by decide) (by kernel_rfl) (by kernel_rfl) (by kernel_rfl) (fun _ _ _ h => h) (.inl ⟨by kernel_rfl, fun W hS => by kernel_rfl⟩) S0 ?_
                refine wpAnyT_takeN (i := 21) (v := undef) rfl (by decide) (by kernel_rfl) (by kernel_rfl) (by kernel_rfl) (fun _ _ _ h => h) (.inr ⟨by kernel_rfl, rfl⟩) S0 ?_
                refine wpAnyT_takeN (i := 22) (v := undef) rfl (by decide) (by kernel_rfl) (by kernel_rfl) (by kernel_rfl) (fun _ _ _ h => h) (.inr ⟨by kernel_rfl, rfl⟩) S0 ?_
                refine wpAnyT_takeN (i := 23) (v := undef) rfl (by decide) (by kernel_rfl) (by kernel_rfl) (by kernel_rfl) (fun _ _ _ h => h) (.inr ⟨by kernel_rfl, rfl⟩) S0 ?_
                refine wpAnyT_takeN (i := 24) (v := undef) rfl (by decide) (by kernel_rfl) (by kernel_rfl) (by kernel_rfl) (fun _ _ _ h => h) (.inr ⟨by kernel_rfl, rfl⟩) S0 ?_
                refine wpAnyT_takeN (i := 25) (v := undef) rfl (by decide) (by kernel_rfl) (by kernel_rfl) (by kernel_rfl) (fun _ _ _ h => h) (.inr ⟨by kernel_rfl, rfl⟩) S0 ?_
                refine wpAnyT_takeN (i := 26) (v := undef) rfl (by decide) (by kernel_rfl) (by kernel_rfl) (by kernel_rfl) (fun _ _ _ h => h) (.inr ⟨by kernel_rfl, rfl⟩) S0 ?_
                refine wpAnyT_takeN (i := 27) (v := undef) rfl (by decide) (by kernel_rfl) (by kernel_rfl) (by kernel_rfl) (fun _ _ _ h => h) (.inr ⟨by kernel_rfl, rfl⟩) S0 ?_
                refine wpAnyT_takeN (i := 28) (v := undef) rfl (by decide) (by kernel_rfl) (by kernel_rfl) (by kernel_rfl) (fun _ _ _ h => h) (.inr ⟨by kernel_rfl, rfl⟩) S0 ?_
                refine wpAnyT_takeN (i := 29) (v := undef) rfl (by decide) (by kernel_rfl) (by kernel_rfl) (by kernel_rfl) (fun _ _ _ h => h) (.inr ⟨by kernel_rfl, rfl⟩) S0 ?_
                refine wpAnyT_takeN (i := 30) (v := undef) rfl (by decide) (by kernel_rfl) (by kernel_rfl) (by kernel_rfl) (fun _ _ _ h => h) (.inr ⟨by kernel_rfl, rfl⟩) S0 ?_
                refine wpAnyT_takeN (i := 31) (v := undef) rfl (by decide) (by kernel_rfl) (by kernel_rfl) (by kernel_rfl) (fun _ _ _ h => h) (.inr ⟨by kernel_rfl, rfl⟩) S0 ?_
                refine wpAnyT_takeN (i := 32) (v := undef) rfl (by decide) (by kernel_rfl) (by kernel_rfl) (by kernel_rfl) (fun _ _ _ h => h) (.inr ⟨by kernel_rfl, rfl⟩) S0 ?_
                refine wpAnyT_takeN (i := 33) (v := undef) rfl (by decide) (by kernel_rfl) (by kernel_rfl) (by kernel_rfl) (fun _ _ _ h => h) (.inr ⟨by kernel_rfl, rfl⟩) S0 ?_
                refine wpAnyT_takeN (i := 34) (v := undef) rfl (by decide) (by kernel_rfl) (by kernel_rfl) (by kernel_rfl) (fun _ _ _ h => h) (.inr ⟨by kernel_rfl, rfl⟩) S0 ?_
                refine wpAnyT_takeN (i := 35) (v := .bool false) rfl (by decide) (by kernel_rfl) (by kernel_rfl) (by kernel_rfl) (fun _ _ _ h => h) (.inl ⟨by kernel_rfl, fun W hS => by kernel_rfl⟩) S0 ?_
                refine wpAnyT_takeN (i := 36) (v := .bool false) rfl (by decide) (by kernel_rfl) (by kernel_rfl) (by kernel_rfl) (fun _ _ _ h => h) (.inl ⟨by kernel_rfl, fun W hS => by kernel_rfl⟩) S0 ?_
                have hgood : kidOk (mayL h) ks k m = true := by unfold kidOk; rw [hnb, hmb]; rw [hk0]; rfl
                have hall2 : ∀ i d, i < k + 1 → ks[i]? = some d → kidOk (mayL h) ks i d = true := fun i d hi hq => by
                  by_cases e : i = k
                  · subst e
                    rw [HMM.out] at hq
                    cases hq
                    exact hgood
                  · exact HALL.out i d (by omega) hq
                have HALL2 := Lib.hid hall2
                have hA2 := HA.out.below S0 HA.out.lt
                have hB2 := HB.out.trans (S0.mono hwz)
                have HA2 := Lib.hid hA2
                have HB2 := Lib.hid hB2
                clear hgood hall2 hA2 hB2
                refine wpAnyT_done (by kernel_rfl) ?_ _
                simp only [Act.put, List.getElem_toArray, List.getElem_cons_succ, List.getElem_cons_zero, List.setIfInBounds_toArray, List.set_cons_zero, List.set_cons_succ]
                clear S0 S1 b2
                go_wp2_with fail
                go_roundw
                case rel => exact ⟨k + 1, by omega, by go_num, HALL2.out, HA2.out, HB2.out⟩
                case measure => simp [intOf] <;> omega
              · have hg0 : decide ((0 : Int) < (k : Int)) = true := decide_eq_true (by omega)
                obtain ⟨q, rfl⟩ : ∃ q, k = q + 1 := ⟨k - 1, by omega⟩
                obtain ⟨p, hp⟩ : ∃ p, ks[q]? = some p := ⟨_, List.getElem?_eq_getElem (by omega)⟩
                obtain ⟨x', g', c', hx', _, hKp, _⟩ := HKS.out q p hp
                obtain rfl : x = x' := Option.some.inj hx'
                have HKp := Lib.hid (hKp.kept (HB.out.block x.block hKp.lt))
                have HPP := Lib.hid hp
                have hql : q < ks.length := by omega
                clear hKp hp hx'
                refine wpAnyT_takeN (i := 19) (v := .bool true) rfl (by decide) (by kernel_rfl) (by kernel_rfl) (by kernel_rfl) (fun _ _ _ h => h) (.inl ⟨by kernel_rfl, fun W hS => run_gtr0_op (.tmp 75) rfl (q + 1) true hg0 (by kernel_rfl)⟩) S0 ?_
                refine wpAnyT_takeN (i := 20) (v := .bool true) rfl (by decide) (by kernel_rfl) (by kernel_rfl) (by kernel_rfl) (fun _ _ _ h => h) (.inl ⟨by kernel_rfl, fun W hS => by kernel_rfl⟩) S0 ?_
                refine wpAnyT_takeN (i := 21) (v := .pointer (some ⟨w.heap.size, 4, none⟩)) rfl (by decide) (by kernel_rfl) (by kernel_rfl) (by kernel_rfl) (fun _ _ _ h => h) (.inl ⟨by kernel_rfl, fun W hS => by kernel_rfl⟩) S0 ?_
                refine wpAnyT_takeN (i := 22) (v := .slice (some x) ks.length cap) rfl (by decide) (by kernel_rfl) (by kernel_rfl) (by kernel_rfl) (fun _ _ _ h => h) (.inl ⟨by kernel_rfl, fun W hS => run_load_one 22 (.tmp 78) rfl ⟨w.heap.size, 4, none⟩ (by kernel_rfl) _ ((HA.out.below hS HA.out.lt).cell 4 _ rfl) _ Try.underlying22 rfl⟩) S0 ?_
                refine wpAnyT_takeN (i := 23) (v := .int .i64 ((q + 1 : Nat) : Int)) rfl (by decide) (by kernel_rfl) (by kernel_rfl) (by kernel_rfl) (fun _ _ _ h => h) (.inl ⟨by kernel_rfl, fun W hS => by kernel_rfl⟩) S0 ?_
                refine wpAnyT_takeN (i := 24) (v := .int .i64 (q : Int)) rfl (by decide) (by kernel_rfl) (by kernel_rfl) (by kernel_rfl) (fun _ _ _ h => h) (.inl ⟨by kernel_rfl, fun W hS => run_dec_op (.tmp 80) rfl q (by omega) (by kernel_rfl)⟩) S0 ?_
                refine wpAnyT_takeN (i := 25) (v := .pointer (some (x.add (q * 5)))) rfl (by decide) (by kernel_rfl) (by kernel_rfl) (by kernel_rfl) (fun _ _ _ h => h) (.inl ⟨by kernel_rfl, fun W hS => run_index_op 22 24 (.tmp 79) (.tmp 81) rfl x ks.length cap q (by kernel_rfl) (by kernel_rfl) hql 5 _ rfl Try.underlying22 info_nd⟩) S0 ?_
                refine wpAnyT_takeN (i := 26) (v := .pointer (some ((x.add (q * 5)).add 0))) rfl (by decide) (by kernel_rfl) (by kernel_rfl) (by kernel_rfl) (fun _ _ _ h => h) (.inl ⟨by kernel_rfl, fun W hS => by kernel_rfl⟩) S0 ?_
                refine wpAnyT_takeN (i := 27) (v := .string (bs p.name)) rfl (by decide) (by kernel_rfl) (by kernel_rfl) (by kernel_rfl) (fun _ _ _ h => h) (.inl ⟨by kernel_rfl, fun W hS => run_load_one 9 (.tmp 83) rfl ((x.add (q * 5)).add 0) (by kernel_rfl) _ ((HKp.out.kept (hS.block _ HKp.out.lt)) 0 _ rfl) _ Try.underlying9 rfl⟩) S0 ?_
                refine wpAnyT_takeN (i := 28) (v := .pointer (some ⟨w.heap.size, 4, none⟩)) rfl (by decide) (by kernel_rfl) (by kernel_rfl) (by kernel_rfl) (fun _ _ _ h => h) (.inl ⟨by kernel_rfl, fun W hS => by kernel_rfl⟩) S0 ?_
                refine wpAnyT_takeN (i := 29) (v := .slice (some x) ks.length cap) rfl (by decide) (by kernel_rfl) (by kernel_rfl) (by kernel_rfl) (fun _ _ _ h => h) (.inl ⟨by kernel_rfl, fun W hS => run_load_one 22 (.tmp 85) rfl ⟨w.heap.size, 4, none⟩ (by kernel_rfl) _ ((HA.out.below hS HA.out.lt).cell 4 _ rfl) _ Try.underlying22 rfl⟩) S0 ?_
                refine wpAnyT_takeN (i := 30) (v := .int .i64 ((q + 1 : Nat) : Int)) rfl (by decide) (by kernel_rfl) (by kernel_rfl) (by kernel_rfl) (fun _ _ _ h => h) (.inl ⟨by kernel_rfl, fun W hS => by kernel_rfl⟩) S0 ?_
                refine wpAnyT_takeN (i := 31) (v := .pointer (some (x.add ((q + 1) * 5)))) rfl (by decide) (by kernel_rfl) (by kernel_rfl) (by kernel_rfl) (fun _ _ _ h => h) (.inl ⟨by kernel_rfl, fun W hS => run_index_op 22 24 (.tmp 86) (.tmp 87) rfl x ks.length cap (q + 1) (by kernel_rfl) (by kernel_rfl) hlt 5 _ rfl Try.underlying22 info_nd⟩) S0 ?_
                refine wpAnyT_takeN (i := 32) (v := .pointer (some ((x.add ((q + 1) * 5)).add 0))) rfl (by decide) (by kernel_rfl) (by kernel_rfl) (by kernel_rfl) (fun _ _ _ h => h) (.inl ⟨by kernel_rfl, fun W hS => by kernel_rfl⟩) S0 ?_
                refine wpAnyT_takeN (i := 33) (v := .string (bs m.name)) rfl (by decide) (by kernel_rfl) (by kernel_rfl) (by kernel_rfl) (fun _ _ _ h => h) (.inl ⟨by kernel_rfl, fun W hS => run_load_one 9 (.tmp 89) rfl ((x.add ((q + 1) * 5)).add 0) (by kernel_rfl) _ ((HKi.out.kept (hS.block _ HKi.out.lt)) 0 _ rfl) _ Try.underlying9 rfl⟩) S0 ?_
                cases hls : Op.bytesLess p.name m.name
                · refine wpAnyT_takeN (i := 34) (v := .bool true) rfl (by decide) (by kernel_rfl) (by kernel_rfl) (by kernel_rfl) (fun _ _ _ h => h) (.inl ⟨by kernel_rfl, fun W hS => run_geq_op (.tmp 84) (.tmp 90) rfl p.name m.name _ hls (by kernel_rfl) (by kernel_rfl)⟩) S0 ?_
                  refine wpAnyT_takeN (i := 35) (v := .bool true) rfl (by decide) (by kernel_rfl) (by kernel_rfl) (by kernel_rfl) (fun _ _ _ h => h) (.inl ⟨by kernel_rfl, fun W hS => by kernel_rfl⟩) S0 ?_
                  refine wpAnyT_takeN (i := 36) (v := .bool true) rfl (by decide) (by kernel_rfl) (by kernel_rfl) (by kernel_rfl) (fun _ _ _ h => h) (.inl ⟨by kernel_rfl, fun W hS => by kernel_rfl⟩) S0 ?_
                  have hbad : kidsOk (mayL h) ks = false := kidsOk_bad HMM.out (by unfold kidOk; rw [hnb, hmb]; simp [HPP.out, hls])
                  have hres : R = false := by rw [HR.out, hbad]; simp
                  have HRES := Lib.hid hres
                  clear hbad hres
                  refine wpAnyT_done (by kernel_rfl) ?_ _
                  simp only [Act.put, List.getElem_toArray, List.getElem_cons_succ, List.getElem_cons_zero, List.setIfInBounds_toArray, List.set_cons_zero, List.set_cons_succ]
                  go_wp2_with fail
                  go_ret
                  exact ⟨by rw [HRES.out]; rfl, HB.out.trans (S0.mono HB.out.size)⟩
                · refine wpAnyT_takeN (i := 34) (v := .bool false) rfl (by decide) (by kernel_rfl) (by kernel_rfl) (by kernel_rfl) (fun _ _ _ h => h) (.inl ⟨by kernel_rfl, fun W hS => run_geq_op (.tmp 84) (.tmp 90) rfl p.name m.name _ hls (by kernel_rfl) (by kernel_rfl)⟩) S0 ?_
                  refine wpAnyT_takeN (i := 35) (v := .bool false) rfl (by decide) (by kernel_rfl) (by kernel_rfl) (by kernel_rfl) (fun _ _ _ h => h) (.inl ⟨by kernel_rfl, fun W hS => by kernel_rfl⟩) S0 ?_
                  refine wpAnyT_takeN (i := 36) (v := .bool false) rfl (by decide) (by kernel_rfl) (by kernel_rfl) (by kernel_rfl) (fun _ _ _ h => h) (.inl ⟨by kernel_rfl, fun W hS => by kernel_rfl⟩) S0 ?_
                  have hgood : kidOk (mayL h) ks (q + 1) m = true := by unfold kidOk; rw [hnb, hmb]; simp [HPP.out, hls]
                  have hall2 : ∀ i d, i < q + 1 + 1 → ks[i]? = some d → kidOk (mayL h) ks i d = true := fun i d hi hq => by
                    by_cases e : i = q + 1
                    · subst e
                      rw [HMM.out] at hq
                      cases hq
                      exact hgood
                    · exact HALL.out i d (by omega) hq
                  have HALL2 := Lib.hid hall2
                  have hA2 := HA.out.below S0 HA.out.lt
                  have hB2 := HB.out.trans (S0.mono hwz)
                  have HA2 := Lib.hid hA2
                  have HB2 := Lib.hid hB2
                  clear hgood hall2 hA2 hB2
                  refine wpAnyT_done (by kernel_rfl) ?_ _
                  simp only [Act.put, List.getElem_toArray, List.getElem_cons_succ, List.getElem_cons_zero, List.setIfInBounds_toArray, List.set_cons_zero, List.set_cons_succ]
                  clear S0 S1 b2
                  go_wp2_with fail
                  go_roundw
                  case rel => exact ⟨q + 1 + 1, by omega, by go_num, HALL2.out, HA2.out, HB2.out⟩
                  case measure => simp [intOf] <;> omega
        · obtain rfl : k = ks.length := by omega
          have hok : kidsOk (mayL h) ks = true := kidsOk_good (fun i m hm => HALL.out i m (List.getElem?_eq_some_iff.1 hm).1 hm)
          have hres : R = (!ex && dt.isEmpty) := by rw [HR.out, hok]; simp
          have HRES := Lib.hid hres
          have c2 := HA.out.cell 2 _ rfl
          have c3 := HA.out.cell 3 _ rfl
          clear hok hres HALL
          cases ex
          · go_wp2_with fail
            go_ret
            refine ⟨?_, HB.out⟩
            rw [HRES.out]
            cases dt <;> rfl
          · go_wp2_with fail
            go_ret
            refine ⟨?_, HB.out⟩
            rw [HRES.out]
            rfl
    rw [if_neg k2] at hR
    by_cases k3 : kd = 3
    · subst k3
      rw [if_pos rfl] at hR
      have HR := Lib.hid hR
      clear hR k1 k2
      go_wp2_with (with_reducible refine box_any rfl 24 (.tmp 0) rfl [.string (bs nm), .int .i64 3, .bool ex, .string (bs dt), .slice ao ks.length cap] rfl ?_; intro u hu bu zu; have c1 := hu.cell 1 _ rfl; have c2 := hu.cell 2 _ rfl; have c3 := hu.cell 3 _ rfl; have c4 := hu.cell 4 _ rfl; have BU := Lib.hid bu; clear hu bu)
      go_loopw [3] (fun i wx => ∃ k : Nat, k ≤ dt.length ∧ i = .int .i64 k ∧ (∀ j c, j < k → dt[j]? = some c → c ≠ 0) ∧ wx = u) (fun i _ => dt.length - (intOf i).toNat)
      case atStart => exact ⟨0, Nat.zero_le _, rfl, fun j c hj => by omega, rfl⟩
      case round =>
        obtain ⟨k, hk, rfl, hall, rfl⟩ := hrel
        have HALL := Lib.hid hall
        clear hall
        by_cases hlt : k < dt.length
        · have hlt' : (k : Int) < dt.length := by omega
          obtain ⟨c, hc⟩ : ∃ c, dt[k]? = some c := ⟨_, List.getElem?_eq_getElem hlt⟩
          have HC := Lib.hid hc
          clear hc
          by_cases h0 : c = 0
          · have hcz : ((c.toNat : Int) == 0) = true := by rw [h0]; rfl
            have hres : R = false := by
              have hcon : dt.contains 0 = true := List.contains_iff_mem.mpr (h0 ▸ List.mem_of_getElem? HC.out)
              rw [HR.out]
              unfold textOk
              rw [hcon]
              simp
            have HRES := Lib.hid hres
            clear h0 hres
            go_wp2_with ((with_reducible refine hold_at 25 rfl ?_); unfold held; refine index_str_g (by kernel_rfl) (.tmp 23) (.tmp 24) rfl dt k c (by kernel_rfl) (by kernel_rfl) HC.out ?_)
            go_ret
            exact ⟨by rw [HRES.out]; rfl, BU.out⟩
          · have hcz : ((c.toNat : Int) == 0) = false := by
              have : c.toNat ≠ 0 := fun e => h0 (UInt8.toNat_inj.mp (by simpa using e))
              simp
              omega
            have hall2 : ∀ j d, j < k + 1 → dt[j]? = some d → d ≠ 0 := fun j d hj hd => by
              by_cases e : j = k
              · subst e
                rw [HC.out] at hd
                cases hd
                exact h0
              · exact HALL.out j d (by omega) hd
            have HALL2 := Lib.hid hall2
            clear h0 hall2
            go_wp2_with ((with_reducible refine hold_at 25 rfl ?_); unfold held; refine index_str_g (by kernel_rfl) (.tmp 23) (.tmp 24) rfl dt k c (by kernel_rfl) (by kernel_rfl) HC.out ?_)
            go_roundw
            case rel => exact ⟨k + 1, by omega, by go_num, HALL2.out, by first | rfl | trivial⟩
            case measure => simp [intOf] <;> omega
        · obtain rfl : k = dt.length := by omega
          have hno : dt.contains 0 = false := by
            cases hq : dt.contains 0
            · rfl
            · obtain ⟨i, hi⟩ := List.getElem?_of_mem (List.contains_iff_mem.mp hq)
              exact absurd rfl (HALL.out i 0 (List.getElem?_eq_some_iff.1 hi).1 hi)
          have hres : R = (!ex && (decide (ks.length = 0) && (decide (1 ≤ dt.length) && decide (dt.length ≤ 255)))) := by
            rw [HR.out]
            unfold textOk
            rw [hno]
            cases ks <;> cases dt <;> simp
          have HRES := Lib.hid hres
          clear hno hres HALL
          cases ex
          · by_cases q0 : ks.length = 0
            · have q0' : ((ks.length : Int) == 0) = true := beq_iff_eq.mpr (by omega)
              by_cases q1 : 1 ≤ dt.length
              · have q1' : (1 : Int) ≤ dt.length := by omega
                go_wp2_with fail
                go_ret
                refine ⟨?_, BU.out⟩
                rw [HRES.out]
                simp [q0, q1]
                omega
              · have q1' : ¬ (1 : Int) ≤ dt.length := by omega
                go_wp2_with fail
                go_ret
                refine ⟨?_, BU.out⟩
                rw [HRES.out]
                simp [q0, q1]
            · have q0' : ((ks.length : Int) == 0) = false := beq_eq_false_iff_ne.mpr (by omega)
              go_wp2_with fail
              go_ret
              refine ⟨?_, BU.out⟩
              rw [HRES.out]
              simp [q0]
          · go_wp2_with fail
            go_ret
            refine ⟨?_, BU.out⟩
            rw [HRES.out]
            rfl
    · rw [if_neg k3] at hR
      have k1' : (kd == 1) = false := by simpa using k1
      have k2' : (kd == 2) = false := by simpa using k2
      have k3' : (kd == 3) = false := by simpa using k3
      have HR := Lib.hid hR
      clear hR k1 k2 k3
      go_wp2_with (with_reducible refine box_any rfl 24 (.tmp 0) rfl [.string (bs nm), .int .i64 kd, .bool ex, .string (bs dt), .slice ao ks.length cap] rfl ?_; intro u hu bu zu; have c1 := hu.cell 1 _ rfl; have BU := Lib.hid bu; clear hu bu)
      go_ret
      exact ⟨by rw [HR.out]; rfl, BU.out⟩
end Go.Proofs.Ytdpeblchndfdaaa
