/- small: an act by small numbers (tools/gen_jr7.py). -/
import Derived.Test.YtgifdmfnecombaaJq
import Derived.Deep.CutRange
namespace Go.Proofs.Ytgifdmfnecombaa
open Go.RowKit
set_option maxRecDepth 100000
theorem conv_at {W : World} {Bx k : Nat} (hk : k < 12) (hA : At W Bx 5 [.int .u8 ((97 + k : Nat) : Int)]) : (convert 55 9 (.slice (some ⟨Bx, 0, none⟩) 1 1)).run Try.prog W = .ok (.string (bs (nmOf k))) W := by
  have e : (UInt8.ofNat (97 + k)).toNat = 97 + k := by rw [UInt8.toNat_ofNat']; omega
  refine run_convert_bytes_back _ 55 9 5 ⟨Bx, 0, none⟩ 1 [UInt8.ofNat (97 + k)] Try.underlying55 Try.underlying5 Try.underlying9 ?_
  intro j hj
  obtain rfl : j = 0 := by simpa using hj
  rw [Addr.add0]
  refine (hA.cell 0 _ rfl).trans ?_
  simp only [List.getElem_cons_zero, e]
def zeros (k : Nat) : List UInt8 := List.replicate k 0
theorem conv_zeros {W : World} {Bx k : Nat} (hA : At W Bx 5 (List.replicate k (.int .u8 0))) : (convert 55 9 (.slice (some ⟨Bx, 0, none⟩) k k)).run Try.prog W = .ok (.string (bs (zeros k))) W := by
  have hl : (zeros k).length = k := by simp [zeros]
  have h := run_convert_bytes_back W 55 9 5 ⟨Bx, 0, none⟩ k (zeros k) Try.underlying55 Try.underlying5 Try.underlying9 (fun j hj => by
    rw [Addr.add0]
    refine (hA.cell j _ (List.getElem?_eq_getElem (by rw [List.length_replicate]; omega))).trans ?_
    simp [zeros])
  rw [hl] at h
  exact h
theorem info5 : (Try.prog.info? 5).map (fun i => (i.zero, i.size, i.bytes)) = some (some (.int .u8 0), 1, 1) := by kernel_rfl
theorem make_op {o : Oper} {a : Act} {w : World} (x : Operand) (ho : o.op = .makeSlice 55 x x) (k : Nat) (hk : k ≤ 1000) (hx : a.eval x = .int .i64 (k : Int)) : (execOp a.eval o).run Try.prog w = .ok (.value (.slice (some ⟨w.heap.size, 0, none⟩) k k)) (w.alloc (.cells (madeCells #[.int .u8 0] k) 5)) := by
  obtain ⟨iw, hiw, hz0, hz1, hz2⟩ := info_parts info5
  have h := run_make_rowN (P := Try.prog) 55 5 iw (.int .u8 0) Try.underlying55 hiw hz0 .i64 .i64 k k (Nat.le_refl _) (by rw [hz2]; omega) (by omega) w
  rw [hz1, Nat.mul_one] at h
  unfold execOp
  simp only [ho, hx]
  simp [Sem.run_bind, h, Result.andThen]
  rfl
def five (z0 z1 z2 z3 z4 : Nat) : List Value := [.int .u8 (z0 : Int), .int .u8 (z1 : Int), .int .u8 (z2 : Int), .int .u8 (z3 : Int), .int .u8 (z4 : Int)]
set_option maxHeartbeats 8000000 in
theorem small_any {w0 w : World} {tb : Nat} {D : Doc} {n : Nat} {av : Nat → Prop} (h : Holds w0 w tb D n av) (hn : n + 1 ≤ 100000) (hS : Sml D) (z0 z1 z2 z3 z4 : Nat) (h0 : z0 < 256) (h1 : z1 < 256) (h2 : z2 < 256) (h3 : z3 < 256) (h4 : z4 < 256) :
    Calls Try.prog 9 #[tabV tb, .agg (five z0 z1 z2 z3 z4).toArray] w fun e w' => ∃ r D', e = .returned (.int .i64 r) ∧ Holds w0 w' tb D' (n + 1) av ∧ Keeps av w w' ∧ Acted D D' r := by
  have HH := Lib.hid h
  have HS := Lib.hid hS
  obtain ⟨a3, ha3⟩ : ∃ a3, a3 = z3 % 4 := ⟨_, rfl⟩
  obtain ⟨a4, ha4⟩ : ∃ a4, a4 = z4 % 4 := ⟨_, rfl⟩
  have l3 : a3 < 12 := by omega
  have l4 : a4 < 12 := by omega
  obtain ⟨c3, hc3⟩ : ∃ c : Int, c = ((97 + a3 : Nat) : Int) := ⟨_, rfl⟩
  obtain ⟨c4, hc4⟩ : ∃ c : Int, c = ((97 + a4 : Nat) : Int) := ⟨_, rfl⟩
  have E3 := Lib.hid ha3
  have E4 := Lib.hid ha4
  have F3 := Lib.hid hc3
  have F4 := Lib.hid hc4
  clear h hS ha3 ha4 hc3 hc4
  unfold tabV
  go_enter Try.func9, Try.ntmps9
  go_upto_region 1 with ((with_reducible refine box_any rfl 31 (.tmp 1) rfl (five z0 z1 z2 z3 z4) rfl ?_); intro u hu bu zu; have HU := Lib.hid hu; have BU := Lib.hid bu; have ZU := Lib.hid zu; clear hu bu zu)
  obtain ⟨B, hB⟩ : ∃ B, B = w.heap.size := ⟨_, rfl⟩
  rw [← hB] at HU ⊢
  have H1 := Lib.hid ((HH.out.fresh BU.out).sub (av' := fun b => av b ∨ b = B) (fun b hb => hb.imp id (fun e => by rw [ZU.out]; omega)))
  have HBB := Lib.hid hB
  clear hB
  go_cut [5, 6] from 16 (fun s5 s6 wx => s5 = .string (bs (nmOf a3)) ∧ s6 = .string (bs (nmOf a4)) ∧ Below u.heap.size u wx)
  case first =>
    have S0 : (fun W => At W B 31 (five z0 z1 z2 z3 z4)) u.drew := HU.out.drew
    have b0 := below_dr u
    refine region_any (fun W => At W B 31 (five z0 z1 z2 z3 z4)) 14 (by kernel_rfl) ?_
    show wpAnyT _ _ _ _ _ _ _ _ _ u.drew
    have hsz : B < u.drew.heap.size := HU.out.lt
    generalize u.drew = v0 at S0 b0 hsz ⊢
    refine wpAnyT_takeN (i := 0) (v := .pointer (some ⟨B, 3, none⟩)) rfl (by decide) (by kernel_rfl) (by kernel_rfl) (by kernel_rfl) (fun _ _ _ h => h) (.inl ⟨by kernel_rfl, fun W hS => by kernel_rfl⟩) S0 ?_
    refine wpAnyT_takeN (i := 1) (v := .int .u8 (z3 : Int)) rfl (by decide) (by kernel_rfl) (by kernel_rfl) (by kernel_rfl) (fun _ _ _ h => h) (.inl ⟨by kernel_rfl, fun W hS => run_load_one 5 (.tmp 16) rfl ⟨B, 3, none⟩ (by kernel_rfl) _ (hS.cell 3 _ rfl) _ Try.underlying5 rfl⟩) S0 ?_
    refine wpAnyT_takeN (i := 2) (v := .int .u8 (a3 : Int)) rfl (by decide) (by kernel_rfl) (by kernel_rfl) (by kernel_rfl) (fun _ _ _ h => h) (.inl ⟨by kernel_rfl, fun W hS => by rw [E3.out]; exact rem5_op (.tmp 17) (.const (.int .u8 4)) rfl z3 4 h3 (by omega) (by kernel_rfl) (by kernel_rfl)⟩) S0 ?_
    refine wpAnyT_takeN (i := 3) (v := .int .u8 c3) rfl (by decide) (by kernel_rfl) (by kernel_rfl) (by kernel_rfl) (fun _ _ _ h => h) (.inl ⟨by kernel_rfl, fun W hS => by rw [F3.out]; exact add5_op (.const (.int .u8 97)) (.tmp 18) rfl 97 a3 (by omega) (by kernel_rfl) (by kernel_rfl)⟩) S0 ?_
    refine wpAnyT_takeN (i := 6) (v := .pointer (some ⟨B, 4, none⟩)) rfl (by decide) (by kernel_rfl) (by kernel_rfl) (by kernel_rfl) (fun _ _ _ h => h) (.inl ⟨by kernel_rfl, fun W hS => by kernel_rfl⟩) S0 ?_
    refine wpAnyT_takeN (i := 7) (v := .int .u8 (z4 : Int)) rfl (by decide) (by kernel_rfl) (by kernel_rfl) (by kernel_rfl) (fun _ _ _ h => h) (.inl ⟨by kernel_rfl, fun W hS => run_load_one 5 (.tmp 22) rfl ⟨B, 4, none⟩ (by kernel_rfl) _ (hS.cell 4 _ rfl) _ Try.underlying5 rfl⟩) S0 ?_
    refine wpAnyT_takeN (i := 8) (v := .int .u8 (a4 : Int)) rfl (by decide) (by kernel_rfl) (by kernel_rfl) (by kernel_rfl) (fun _ _ _ h => h) (.inl ⟨by kernel_rfl, fun W hS => by rw [E4.out]; exact rem5_op (.tmp 23) (.const (.int .u8 4)) rfl z4 4 h4 (by omega) (by kernel_rfl) (by kernel_rfl)⟩) S0 ?_
    refine wpAnyT_takeN (i := 9) (v := .int .u8 c4) rfl (by decide) (by kernel_rfl) (by kernel_rfl) (by kernel_rfl) (fun _ _ _ h => h) (.inl ⟨by kernel_rfl, fun W hS => by rw [F4.out]; exact add5_op (.const (.int .u8 97)) (.tmp 24) rfl 97 a4 (by omega) (by kernel_rfl) (by kernel_rfl)⟩) S0 ?_
    refine wpAnyT_two (i := 4) (k := 10) (by kernel_rfl) (wpOp_val (v := .slice (some ⟨v0.heap.size, 0, none⟩) 1 1) (w' := v0.alloc (.cells #[.int .u8 c3] 5)) rfl (by kernel_rfl) (by kernel_rfl) ⟨fun _ => S0.alloc _, ?_⟩) (wpOp_val (v := .slice (some ⟨v0.heap.size, 0, none⟩) 1 1) (w' := v0.alloc (.cells #[.int .u8 c4] 5)) rfl (by kernel_rfl) (by kernel_rfl) ⟨fun _ => S0.alloc _, ?_⟩)
    · obtain ⟨q1, hq1⟩ : ∃ W2, W2 = v0.alloc (.cells #[.int .u8 c3] 5) := ⟨_, rfl⟩
      have Aq1 := At.new v0 #[.int .u8 c3] 5
      have bq1 := b0.trans (((Below.refl _ v0).alloc (Nat.le_refl _) (.cells #[.int .u8 c3] 5)).mono b0.size)
      have Sq1 : At (v0.alloc (.cells #[.int .u8 c3] 5)) B 31 (five z0 z1 z2 z3 z4) := S0.alloc _
      rw [← hq1] at Aq1 bq1 Sq1 ⊢
      clear hq1
      refine wpAnyT_two (i := 5) (k := 10) (by kernel_rfl) (wpOp_val (v := .string (bs (nmOf a3))) (w' := q1) rfl (by kernel_rfl) (run_convert_op 55 9 (.tmp 20) rfl _ (by kernel_rfl) (conv_at l3 (by rw [← F3.out]; exact Aq1))) ⟨fun _ => Sq1, ?_⟩) (wpOp_val (v := .slice (some ⟨q1.heap.size, 0, none⟩) 1 1) (w' := q1.alloc (.cells #[.int .u8 c4] 5)) rfl (by kernel_rfl) (by kernel_rfl) ⟨fun _ => Sq1.alloc _, ?_⟩)
      · refine wpAnyT_takeN (i := 12) (v := .string (bs (nmOf a3))) rfl (by decide) (by kernel_rfl) (by kernel_rfl) (by kernel_rfl) (fun _ _ _ h => h) (.inl ⟨by kernel_rfl, fun W hS => by kernel_rfl⟩) Sq1 ?_
        refine wpAnyT_val (i := 10) (v := .slice (some ⟨q1.heap.size, 0, none⟩) 1 1) (w' := q1.alloc (.cells #[.int .u8 c4] 5)) (by kernel_rfl) rfl (by kernel_rfl) (by kernel_rfl) ⟨Sq1.alloc _, ?_⟩
        obtain ⟨q2, hq2⟩ : ∃ W2, W2 = q1.alloc (.cells #[.int .u8 c4] 5) := ⟨_, rfl⟩
        have Aq2 := At.new q1 #[.int .u8 c4] 5
        have bq2 := bq1.trans (((Below.refl _ q1).alloc (Nat.le_refl _) (.cells #[.int .u8 c4] 5)).mono bq1.size)
        have Sq2 : At (q1.alloc (.cells #[.int .u8 c4] 5)) B 31 (five z0 z1 z2 z3 z4) := Sq1.alloc _
        have Xq2 := Aq1.alloc (.cells #[.int .u8 c4] 5)
        rw [← hq2] at Aq2 bq2 Sq2 Xq2 ⊢
        clear hq2
        refine wpAnyT_val (i := 11) (v := .string (bs (nmOf a4))) (w' := q2) (by kernel_rfl) rfl (by kernel_rfl) (run_convert_op 55 9 (.tmp 26) rfl _ (by kernel_rfl) (conv_at l4 (by rw [← F4.out]; exact Aq2))) ⟨Sq2, ?_⟩
        refine wpAnyT_takeN (i := 13) (v := .string (bs (nmOf a4))) rfl (by decide) (by kernel_rfl) (by kernel_rfl) (by kernel_rfl) (fun _ _ _ h => h) (.inl ⟨by kernel_rfl, fun W hS => by kernel_rfl⟩) Sq2 ?_
        refine wpAnyT_done (by kernel_rfl) ?_ _
        simp only [Act.put, List.getElem_toArray, List.getElem_cons_succ, List.getElem_cons_zero, List.setIfInBounds_toArray, List.set_cons_zero, List.set_cons_succ]
        go_wp2_with fail
        go_meet
        exact ⟨rfl, rfl, bq2⟩
      · obtain ⟨q3, hq3⟩ : ∃ W2, W2 = q1.alloc (.cells #[.int .u8 c4] 5) := ⟨_, rfl⟩
        have Aq3 := At.new q1 #[.int .u8 c4] 5
        have bq3 := bq1.trans (((Below.refl _ q1).alloc (Nat.le_refl _) (.cells #[.int .u8 c4] 5)).mono bq1.size)
        have Sq3 : At (q1.alloc (.cells #[.int .u8 c4] 5)) B 31 (five z0 z1 z2 z3 z4) := Sq1.alloc _
        have Xq3 := Aq1.alloc (.cells #[.int .u8 c4] 5)
        rw [← hq3] at Aq3 bq3 Sq3 Xq3 ⊢
        clear hq3
        refine wpAnyT_two (i := 5) (k := 11) (by kernel_rfl) (wpOp_val (v := .string (bs (nmOf a3))) (w' := q3) rfl (by kernel_rfl) (run_convert_op 55 9 (.tmp 20) rfl _ (by kernel_rfl) (conv_at l3 (by rw [← F3.out]; exact Xq3))) ⟨fun _ => Sq3, ?_⟩) (wpOp_val (v := .string (bs (nmOf a4))) (w' := q3) rfl (by kernel_rfl) (run_convert_op 55 9 (.tmp 26) rfl _ (by kernel_rfl) (conv_at l4 (by rw [← F4.out]; exact Aq3))) ⟨fun _ => Sq3, ?_⟩)
        · refine wpAnyT_takeN (i := 12) (v := .string (bs (nmOf a3))) rfl (by decide) (by kernel_rfl) (by kernel_rfl) (by kernel_rfl) (fun _ _ _ h => h) (.inl ⟨by kernel_rfl, fun W hS => by kernel_rfl⟩) Sq3 ?_
          refine wpAnyT_val (i := 11) (v := .string (bs (nmOf a4))) (w' := q3) (by kernel_rfl) rfl (by kernel_rfl) (run_convert_op 55 9 (.tmp 26) rfl _ (by kernel_rfl) (conv_at l4 (by rw [← F4.out]; exact Aq3))) ⟨Sq3, ?_⟩
          refine wpAnyT_takeN (i := 13) (v := .string (bs (nmOf a4))) rfl (by decide) (by kernel_rfl) (by kernel_rfl) (by kernel_rfl) (fun _ _ _ h => h) (.inl ⟨by kernel_rfl, fun W hS => by kernel_rfl⟩) Sq3 ?_
          refine wpAnyT_done (by kernel_rfl) ?_ _
          simp only [Act.put, List.getElem_toArray, List.getElem_cons_succ, List.getElem_cons_zero, List.setIfInBounds_toArray, List.set_cons_zero, List.set_cons_succ]
          go_wp2_with fail
          go_meet
          exact ⟨rfl, rfl, bq3⟩
        · refine wpAnyT_val (i := 5) (v := .string (bs (nmOf a3))) (w' := q3) (by kernel_rfl) rfl (by kernel_rfl) (run_convert_op 55 9 (.tmp 20) rfl _ (by kernel_rfl) (conv_at l3 (by rw [← F3.out]; exact Xq3))) ⟨Sq3, ?_⟩
          refine wpAnyT_takeN (i := 12) (v := .string (bs (nmOf a3))) rfl (by decide) (by kernel_rfl) (by kernel_rfl) (by kernel_rfl) (fun _ _ _ h => h) (.inl ⟨by kernel_rfl, fun W hS => by kernel_rfl⟩) Sq3 ?_
          refine wpAnyT_takeN (i := 13) (v := .string (bs (nmOf a4))) rfl (by decide) (by kernel_rfl) (by kernel_rfl) (by kernel_rfl) (fun _ _ _ h => h) (.inl ⟨by kernel_rfl, fun W hS => by kernel_rfl⟩) Sq3 ?_
          refine wpAnyT_done (by kernel_rfl) ?_ _
          simp only [Act.put, List.getElem_toArray, List.getElem_cons_succ, List.getElem_cons_zero, List.setIfInBounds_toArray, List.set_cons_zero, List.set_cons_succ]
          go_wp2_with fail
          go_meet
          exact ⟨rfl, rfl, bq3⟩
    · obtain ⟨q4, hq4⟩ : ∃ W2, W2 = v0.alloc (.cells #[.int .u8 c4] 5) := ⟨_, rfl⟩
      have Aq4 := At.new v0 #[.int .u8 c4] 5
      have bq4 := b0.trans (((Below.refl _ v0).alloc (Nat.le_refl _) (.cells #[.int .u8 c4] 5)).mono b0.size)
      have Sq4 : At (v0.alloc (.cells #[.int .u8 c4] 5)) B 31 (five z0 z1 z2 z3 z4) := S0.alloc _
      rw [← hq4] at Aq4 bq4 Sq4 ⊢
      clear hq4
      refine wpAnyT_two (i := 4) (k := 11) (by kernel_rfl) (wpOp_val (v := .slice (some ⟨q4.heap.size, 0, none⟩) 1 1) (w' := q4.alloc (.cells #[.int .u8 c3] 5)) rfl (by kernel_rfl) (by kernel_rfl) ⟨fun _ => Sq4.alloc _, ?_⟩) (wpOp_val (v := .string (bs (nmOf a4))) (w' := q4) rfl (by kernel_rfl) (run_convert_op 55 9 (.tmp 26) rfl _ (by kernel_rfl) (conv_at l4 (by rw [← F4.out]; exact Aq4))) ⟨fun _ => Sq4, ?_⟩)
      · obtain ⟨q5, hq5⟩ : ∃ W2, W2 = q4.alloc (.cells #[.int .u8 c3] 5) := ⟨_, rfl⟩
        have Aq5 := At.new q4 #[.int .u8 c3] 5
        have bq5 := bq4.trans (((Below.refl _ q4).alloc (Nat.le_refl _) (.cells #[.int .u8 c3] 5)).mono bq4.size)
        have Sq5 : At (q4.alloc (.cells #[.int .u8 c3] 5)) B 31 (five z0 z1 z2 z3 z4) := Sq4.alloc _
        have Xq5 := Aq4.alloc (.cells #[.int .u8 c3] 5)
        rw [← hq5] at Aq5 bq5 Sq5 Xq5 ⊢
        clear hq5
        refine wpAnyT_two (i := 5) (k := 11) (by kernel_rfl) (wpOp_val (v := .string (bs (nmOf a3))) (w' := q5) rfl (by kernel_rfl) (run_convert_op 55 9 (.tmp 20) rfl _ (by kernel_rfl) (conv_at l3 (by rw [← F3.out]; exact Aq5))) ⟨fun _ => Sq5, ?_⟩) (wpOp_val (v := .string (bs (nmOf a4))) (w' := q5) rfl (by kernel_rfl) (run_convert_op 55 9 (.tmp 26) rfl _ (by kernel_rfl) (conv_at l4 (by rw [← F4.out]; exact Xq5))) ⟨fun _ => Sq5, ?_⟩)
        · refine wpAnyT_takeN (i := 12) (v := .string (bs (nmOf a3))) rfl (by decide) (by kernel_rfl) (by kernel_rfl) (by kernel_rfl) (fun _ _ _ h => h) (.inl ⟨by kernel_rfl, fun W hS => by kernel_rfl⟩) Sq5 ?_
          refine wpAnyT_val (i := 11) (v := .string (bs (nmOf a4))) (w' := q5) (by kernel_rfl) rfl (by kernel_rfl) (run_convert_op 55 9 (.tmp 26) rfl _ (by kernel_rfl) (conv_at l4 (by rw [← F4.out]; exact Xq5))) ⟨Sq5, ?_⟩
          refine wpAnyT_takeN (i := 13) (v := .string (bs (nmOf a4))) rfl (by decide) (by kernel_rfl) (by kernel_rfl) (by kernel_rfl) (fun _ _ _ h => h) (.inl ⟨by kernel_rfl, fun W hS => by kernel_rfl⟩) Sq5 ?_
          refine wpAnyT_done (by kernel_rfl) ?_ _
          simp only [Act.put, List.getElem_toArray, List.getElem_cons_succ, List.getElem_cons_zero, List.setIfInBounds_toArray, List.set_cons_zero, List.set_cons_succ]
          go_wp2_with fail
          go_meet
          exact ⟨rfl, rfl, bq5⟩
        · refine wpAnyT_val (i := 5) (v := .string (bs (nmOf a3))) (w' := q5) (by kernel_rfl) rfl (by kernel_rfl) (run_convert_op 55 9 (.tmp 20) rfl _ (by kernel_rfl) (conv_at l3 (by rw [← F3.out]; exact Aq5))) ⟨Sq5, ?_⟩
          refine wpAnyT_takeN (i := 12) (v := .string (bs (nmOf a3))) rfl (by decide) (by kernel_rfl) (by kernel_rfl) (by kernel_rfl) (fun _ _ _ h => h) (.inl ⟨by kernel_rfl, fun W hS => by kernel_rfl⟩) Sq5 ?_
          refine wpAnyT_takeN (i := 13) (v := .string (bs (nmOf a4))) rfl (by decide) (by kernel_rfl) (by kernel_rfl) (by kernel_rfl) (fun _ _ _ h => h) (.inl ⟨by kernel_rfl, fun W hS => by kernel_rfl⟩) Sq5 ?_
          refine wpAnyT_done (by kernel_rfl) ?_ _
          simp only [Act.put, List.getElem_toArray, List.getElem_cons_succ, List.getElem_cons_zero, List.setIfInBounds_toArray, List.set_cons_zero, List.set_cons_succ]
          go_wp2_with fail
          go_meet
          exact ⟨rfl, rfl, bq5⟩
      · refine wpAnyT_val (i := 4) (v := .slice (some ⟨q4.heap.size, 0, none⟩) 1 1) (w' := q4.alloc (.cells #[.int .u8 c3] 5)) (by kernel_rfl) rfl (by kernel_rfl) (by kernel_rfl) ⟨Sq4.alloc _, ?_⟩
        obtain ⟨q6, hq6⟩ : ∃ W2, W2 = q4.alloc (.cells #[.int .u8 c3] 5) := ⟨_, rfl⟩
        have Aq6 := At.new q4 #[.int .u8 c3] 5
        have bq6 := bq4.trans (((Below.refl _ q4).alloc (Nat.le_refl _) (.cells #[.int .u8 c3] 5)).mono bq4.size)
        have Sq6 : At (q4.alloc (.cells #[.int .u8 c3] 5)) B 31 (five z0 z1 z2 z3 z4) := Sq4.alloc _
        have Xq6 := Aq4.alloc (.cells #[.int .u8 c3] 5)
        rw [← hq6] at Aq6 bq6 Sq6 Xq6 ⊢
        clear hq6
        refine wpAnyT_val (i := 5) (v := .string (bs (nmOf a3))) (w' := q6) (by kernel_rfl) rfl (by kernel_rfl) (run_convert_op 55 9 (.tmp 20) rfl _ (by kernel_rfl) (conv_at l3 (by rw [← F3.out]; exact Aq6))) ⟨Sq6, ?_⟩
        refine wpAnyT_takeN (i := 12) (v := .string (bs (nmOf a3))) rfl (by decide) (by kernel_rfl) (by kernel_rfl) (by kernel_rfl) (fun _ _ _ h => h) (.inl ⟨by kernel_rfl, fun W hS => by kernel_rfl⟩) Sq6 ?_
        refine wpAnyT_takeN (i := 13) (v := .string (bs (nmOf a4))) rfl (by decide) (by kernel_rfl) (by kernel_rfl) (by kernel_rfl) (fun _ _ _ h => h) (.inl ⟨by kernel_rfl, fun W hS => by kernel_rfl⟩) Sq6 ?_
        refine wpAnyT_done (by kernel_rfl) ?_ _
        simp only [Act.put, List.getElem_toArray, List.getElem_cons_succ, List.getElem_cons_zero, List.setIfInBounds_toArray, List.set_cons_zero, List.set_cons_succ]
        go_wp2_with fail
        go_meet
        exact ⟨rfl, rfl, bq6⟩
  case rest =>
    obtain ⟨rfl, rfl, hb⟩ := hcut
    have H2 := Lib.hid (H1.out.below hb)
    have A2 := Lib.hid (HU.out.below hb HU.out.lt)
    have K2 := Lib.hid (show Keeps av w wc from Keeps.of_below (BU.out.trans (hb.mono BU.out.size)))
    obtain ⟨x1, hx1⟩ : ∃ x, x = z1 % 12 := ⟨_, rfl⟩
    obtain ⟨x2, hx2⟩ : ∃ x, x = z2 % 12 := ⟨_, rfl⟩
    obtain ⟨x4, hx4⟩ : ∃ x, x = z4 % 20 := ⟨_, rfl⟩
    obtain ⟨x0, hx0⟩ : ∃ x, x = z0 % 8 := ⟨_, rfl⟩
    obtain ⟨y1, hy1⟩ : ∃ y : Int, y = ((1 + x1 : Nat) : Int) := ⟨_, rfl⟩
    obtain ⟨y2, hy2⟩ : ∃ y : Int, y = ((1 + x2 : Nat) : Int) := ⟨_, rfl⟩
    have m1 : x1 < 12 := by omega
    have m2 : x2 < 12 := by omega
    have m4 : x4 < 20 := by omega
    have m0 : x0 < 8 := by omega
    have Y1 := Lib.hid (show (Lit.int .i64 y1).wf = true from wf_small (by omega) (by omega))
    have Y2 := Lib.hid (show (Lit.int .i64 y2).wf = true from wf_small (by omega) (by omega))
    have X0 := Lib.hid hx0
    have X1 := Lib.hid hx1
    have X2 := Lib.hid hx2
    have X4 := Lib.hid hx4
    have G1 := Lib.hid hy1
    have G2 := Lib.hid hy2
    clear hb hx0 hx1 hx2 hx4 hy1 hy2
    go_wp2_with fail
    have S0 : (fun W => At W B 31 (five z0 z1 z2 z3 z4)) wc.drew := A2.out.drew
    have b0 := below_dr wc
    refine region_any (fun W => At W B 31 (five z0 z1 z2 z3 z4)) 12 (by kernel_rfl) ?_
    show wpAnyT _ _ _ _ _ _ _ _ _ wc.drew
    generalize wc.drew = v0 at S0 b0 ⊢
    refine wpAnyT_takeN (i := 0) (v := .pointer (some ⟨B, 1, none⟩)) rfl (by decide) (by kernel_rfl) (by kernel_rfl) (by kernel_rfl) (fun _ _ _ h => h) (.inl ⟨by kernel_rfl, fun W hS => by kernel_rfl⟩) S0 ?_
    refine wpAnyT_takeN (i := 1) (v := .int .u8 (z1 : Int)) rfl (by decide) (by kernel_rfl) (by kernel_rfl) (by kernel_rfl) (fun _ _ _ h => h) (.inl ⟨by kernel_rfl, fun W hS => run_load_one 5 (.tmp 28) rfl ⟨B, 1, none⟩ (by kernel_rfl) _ (hS.cell 1 _ rfl) _ Try.underlying5 rfl⟩) S0 ?_
    refine wpAnyT_takeN (i := 2) (v := .int .u8 (x1 : Int)) rfl (by decide) (by kernel_rfl) (by kernel_rfl) (by kernel_rfl) (fun _ _ _ h => h) (.inl ⟨by kernel_rfl, fun W hS => by rw [X1.out]; exact rem5_op (.tmp 29) (.const (.int .u8 12)) rfl z1 12 h1 (by omega) (by kernel_rfl) (by kernel_rfl)⟩) S0 ?_
    refine wpAnyT_takeN (i := 3) (v := .int .i64 (x1 : Int)) rfl (by decide) (by kernel_rfl) (by kernel_rfl) (by kernel_rfl) (fun _ _ _ h => h) (.inl ⟨by kernel_rfl, fun W hS => cv53_op (.tmp 30) rfl x1 (by omega) (by kernel_rfl)⟩) S0 ?_
    refine wpAnyT_takeN (i := 4) (v := .int .i64 y1) rfl (by decide) (by kernel_rfl) (by kernel_rfl) (by kernel_rfl) (fun _ _ _ h => h) (.inl ⟨by kernel_rfl, fun W hS => by rw [G1.out]; exact addN_op (.const (.int .i64 1)) (.tmp 31) rfl 1 x1 (by omega) (by kernel_rfl) (by kernel_rfl)⟩) S0 ?_
    refine wpAnyT_takeN (i := 5) (v := .pointer (some ⟨B, 2, none⟩)) rfl (by decide) (by kernel_rfl) (by kernel_rfl) (by kernel_rfl) (fun _ _ _ h => h) (.inl ⟨by kernel_rfl, fun W hS => by kernel_rfl⟩) S0 ?_
    refine wpAnyT_takeN (i := 6) (v := .int .u8 (z2 : Int)) rfl (by decide) (by kernel_rfl) (by kernel_rfl) (by kernel_rfl) (fun _ _ _ h => h) (.inl ⟨by kernel_rfl, fun W hS => run_load_one 5 (.tmp 33) rfl ⟨B, 2, none⟩ (by kernel_rfl) _ (hS.cell 2 _ rfl) _ Try.underlying5 rfl⟩) S0 ?_
    refine wpAnyT_takeN (i := 7) (v := .int .u8 (x2 : Int)) rfl (by decide) (by kernel_rfl) (by kernel_rfl) (by kernel_rfl) (fun _ _ _ h => h) (.inl ⟨by kernel_rfl, fun W hS => by rw [X2.out]; exact rem5_op (.tmp 34) (.const (.int .u8 12)) rfl z2 12 h2 (by omega) (by kernel_rfl) (by kernel_rfl)⟩) S0 ?_
    refine wpAnyT_takeN (i := 8) (v := .int .i64 (x2 : Int)) rfl (by decide) (by kernel_rfl) (by kernel_rfl) (by kernel_rfl) (fun _ _ _ h => h) (.inl ⟨by kernel_rfl, fun W hS => cv53_op (.tmp 35) rfl x2 (by omega) (by kernel_rfl)⟩) S0 ?_
    refine wpAnyT_takeN (i := 9) (v := .int .i64 y2) rfl (by decide) (by kernel_rfl) (by kernel_rfl) (by kernel_rfl) (fun _ _ _ h => h) (.inl ⟨by kernel_rfl, fun W hS => by rw [G2.out]; exact addN_op (.const (.int .i64 1)) (.tmp 36) rfl 1 x2 (by omega) (by kernel_rfl) (by kernel_rfl)⟩) S0 ?_
    refine wpAnyT_takeN (i := 10) (v := .int .i64 y1) rfl (by decide) (by kernel_rfl) (by kernel_rfl) (by kernel_rfl) (fun _ _ _ h => h) (.inl ⟨by kernel_rfl, fun W hS => by kernel_rfl⟩) S0 ?_
    refine wpAnyT_takeN (i := 11) (v := .int .i64 y2) rfl (by decide) (by kernel_rfl) (by kernel_rfl) (by kernel_rfl) (fun _ _ _ h => h) (.inl ⟨by kernel_rfl, fun W hS => by kernel_rfl⟩) S0 ?_
    refine wpAnyT_done (by kernel_rfl) ?_ _
    simp only [Act.put, List.getElem_toArray, List.getElem_cons_succ, List.getElem_cons_zero, List.setIfInBounds_toArray, List.set_cons_zero, List.set_cons_succ]
    have H3 := Lib.hid (H2.out.below b0)
    have A3 := Lib.hid S0
    have K3 := Lib.hid (K2.out.trans (Keeps.of_below b0))
    clear S0 b0
    go_wp2_with (first
      | ((with_reducible refine hold_at 38 rfl ?_); unfold held; refine list_val rfl (v := .pointer (some ⟨B, 4, none⟩)) (w' := v0) (by kernel_rfl) ?_)
      | ((with_reducible refine hold_at 39 rfl ?_); unfold held; refine list_val rfl (v := .int .u8 (z4 : Int)) (w' := v0) (run_load_one 5 (.tmp 38) rfl ⟨B, 4, none⟩ (by kernel_rfl) _ (A3.out.cell 4 _ rfl) _ Try.underlying5 rfl) ?_)
      | ((with_reducible refine hold_at 40 rfl ?_); unfold held; refine list_val rfl (v := .int .u8 (x4 : Int)) (w' := v0) (by rw [X4.out]; exact rem5_op (.tmp 39) (.const (.int .u8 20)) rfl z4 20 h4 (by omega) (by kernel_rfl) (by kernel_rfl)) ?_)
      | ((with_reducible refine hold_at 41 rfl ?_); unfold held; refine list_val rfl (v := .int .i64 (x4 : Int)) (w' := v0) (cv53_op (.tmp 40) rfl x4 (by omega) (by kernel_rfl)) ?_)
      | (with_reducible refine hold_at 42 rfl ?_))
    unfold held
    refine list_val rfl (v := .slice (some ⟨v0.heap.size, 0, none⟩) x4 x4) (w' := v0.alloc (.cells (madeCells #[.int .u8 0] x4) 5)) (make_op (.tmp 41) rfl x4 (by omega) (by kernel_rfl)) ?_
    have A4 := At.new v0 (madeCells #[.int .u8 0] x4) 5
    rw [toList_madeCells_one] at A4
    have b4 := (Below.refl _ v0).alloc (Nat.le_refl _) (.cells (madeCells #[.int .u8 0] x4) 5)
    have S4 := A3.out.alloc (.cells (madeCells #[.int .u8 0] x4) 5)
    generalize v0.alloc (.cells (madeCells #[.int .u8 0] x4) 5) = v1 at A4 b4 S4 ⊢
    have H4 := Lib.hid (H3.out.below b4)
    have K4 := Lib.hid (K3.out.trans (Keeps.of_below b4))
    have C4 := Lib.hid (conv_zeros A4)
    have S5 := Lib.hid S4
    have zl : (zeros x4).length ≤ 19 := by unfold zeros; rw [List.length_replicate]; omega
    clear A4 b4 S4
    go_wp2_with (first
      | ((with_reducible refine hold_at 43 rfl ?_); unfold held; refine list_val rfl (v := .string (bs (zeros x4))) (w' := v1) (run_convert_op 55 9 (.tmp 42) rfl _ (by kernel_rfl) C4.out) ?_)
      | ((with_reducible refine hold_at 44 rfl ?_); unfold held; refine list_val rfl (v := .pointer (some ⟨B, 0, none⟩)) (w' := v1) (by kernel_rfl) ?_)
      | ((with_reducible refine hold_at 45 rfl ?_); unfold held; refine list_val rfl (v := .int .u8 (z0 : Int)) (w' := v1) (run_load_one 5 (.tmp 44) rfl ⟨B, 0, none⟩ (by kernel_rfl) _ (S5.out.cell 0 _ rfl) _ Try.underlying5 rfl) ?_)
      | (with_reducible refine hold_at 46 rfl ?_))
    have H5 := Lib.hid (H4.out.sub (av' := av) (fun b hb => .inl hb))
    have fin : ∀ (w' : World) (D' : Doc) (r : Int), Holds w0 w' tb D' (n + 1) av → Keeps av v1 w' → Acted D D' r → ∃ r' D', (Ending.returned (Value.int .i64 r) = .returned (.int .i64 r')) ∧ Holds w0 w' tb D' (n + 1) av ∧ Keeps av w w' ∧ Acted D D' r' := fun w' D' r a b c => ⟨r, D', rfl, a, K4.out.trans b, c⟩
    have FIN := Lib.hid fin
    clear fin
    unfold held
    refine list_val rfl (v := .int .u8 (x0 : Int)) (w' := v1) (by rw [X0.out]; exact rem5_op (.tmp 45) (.const (.int .u8 8)) rfl z0 8 h0 (by omega) (by kernel_rfl) (by kernel_rfl)) ?_
    clear X0
    have hx : x0 = 0 ∨ x0 = 1 ∨ x0 = 2 ∨ x0 = 3 ∨ x0 = 4 ∨ x0 = 5 ∨ x0 = 6 ∨ x0 = 7 := by omega
    clear m0
    rcases hx with rfl | rfl | rfl | rfl | rfl | rfl | rfl | rfl
    · go_wp2_with fail
      refine (holds_make H5.out hn y1 Y1.out (nmOf a3) (by unfold nmOf; simp) (nm_asc a3 l3) 2 493 [] (by simp)).mono ?_
      rintro e w' ⟨rfl, h', k'⟩
      have HF := Lib.hid (FIN.out _ _ _ h' k' (acted_make HS.out y1 (nmOf a3) (by unfold nmOf; rfl) 2 493 [] (by simp)))
      obtain ⟨rr, hrr⟩ : ∃ rr, rr = makeE D.tab y1 (nmOf a3) 2 493 [] := ⟨_, rfl⟩
      obtain ⟨ss, hss⟩ : ∃ ss : Int, ss = if makeE D.tab y1 (nmOf a3) 2 493 [] = 0 then (D.L.length : Int) + 1 else 0 := ⟨_, rfl⟩
      rw [← hss, ← hrr]
      rw [← hrr] at HF
      clear h' k' hrr hss
      go_wp2_with fail
      go_ret
      exact HF.out
    · go_wp2_with fail
      refine (holds_make H5.out hn y1 Y1.out (nmOf a3) (by unfold nmOf; simp) (nm_asc a3 l3) 2 493 [] (by simp)).mono ?_
      rintro e w' ⟨rfl, h', k'⟩
      have HF := Lib.hid (FIN.out _ _ _ h' k' (acted_make HS.out y1 (nmOf a3) (by unfold nmOf; rfl) 2 493 [] (by simp)))
      obtain ⟨rr, hrr⟩ : ∃ rr, rr = makeE D.tab y1 (nmOf a3) 2 493 [] := ⟨_, rfl⟩
      obtain ⟨ss, hss⟩ : ∃ ss : Int, ss = if makeE D.tab y1 (nmOf a3) 2 493 [] = 0 then (D.L.length : Int) + 1 else 0 := ⟨_, rfl⟩
      rw [← hss, ← hrr]
      rw [← hrr] at HF
      clear h' k' hrr hss
      go_wp2_with fail
      go_ret
      exact HF.out
    · go_wp2_with fail
      refine (holds_make H5.out hn y1 Y1.out (nmOf a3) (by unfold nmOf; simp) (nm_asc a3 l3) 1 420 (zeros x4) (by omega)).mono ?_
      rintro e w' ⟨rfl, h', k'⟩
      have HF := Lib.hid (FIN.out _ _ _ h' k' (acted_make HS.out y1 (nmOf a3) (by unfold nmOf; rfl) 1 420 (zeros x4) (by omega)))
      obtain ⟨rr, hrr⟩ : ∃ rr, rr = makeE D.tab y1 (nmOf a3) 1 420 (zeros x4) := ⟨_, rfl⟩
      obtain ⟨ss, hss⟩ : ∃ ss : Int, ss = if makeE D.tab y1 (nmOf a3) 1 420 (zeros x4) = 0 then (D.L.length : Int) + 1 else 0 := ⟨_, rfl⟩
      rw [← hss, ← hrr]
      rw [← hrr] at HF
      clear h' k' hrr hss
      go_wp2_with fail
      go_ret
      exact HF.out
    · go_wp2_with fail
      refine (holds_make H5.out hn y1 Y1.out (nmOf a3) (by unfold nmOf; simp) (nm_asc a3 l3) 3 511 [116, 111] (by simp)).mono ?_
      rintro e w' ⟨rfl, h', k'⟩
      have HF := Lib.hid (FIN.out _ _ _ h' k' (acted_make HS.out y1 (nmOf a3) (by unfold nmOf; rfl) 3 511 [116, 111] (by simp)))
      obtain ⟨rr, hrr⟩ : ∃ rr, rr = makeE D.tab y1 (nmOf a3) 3 511 [116, 111] := ⟨_, rfl⟩
      obtain ⟨ss, hss⟩ : ∃ ss : Int, ss = if makeE D.tab y1 (nmOf a3) 3 511 [116, 111] = 0 then (D.L.length : Int) + 1 else 0 := ⟨_, rfl⟩
      rw [← hss, ← hrr]
      rw [← hrr] at HF
      clear h' k' hrr hss
      go_wp2_with fail
      go_ret
      exact HF.out
    · go_wp2_with fail
      refine (holds_link H5.out hn y1 Y1.out (nmOf a3) (by unfold nmOf; simp) (nm_asc a3 l3) y2 Y2.out).mono ?_
      rintro e w' ⟨rfl, h', k'⟩
      have HF := Lib.hid (FIN.out _ _ _ h' k' (acted_link HS.out y1 (nmOf a3) (by unfold nmOf; rfl) y2))
      obtain ⟨rr, hrr⟩ : ∃ rr, rr = linkE D.tab y1 (nmOf a3) y2 := ⟨_, rfl⟩
      rw [← hrr]
      rw [← hrr] at HF
      clear h' k' hrr
      go_wp2_with fail
      go_ret
      exact HF.out
    · go_wp2_with fail
      refine (holds_unlink H5.out hn y1 Y1.out (nmOf a3) (by unfold nmOf maxLen; simp)).mono ?_
      rintro e w' ⟨rfl, h', k'⟩
      have HF := Lib.hid (FIN.out _ _ _ h' k' (acted_unlink HS.out y1 (nmOf a3)))
      obtain ⟨rr, hrr⟩ : ∃ rr, rr = unlinkE D.tab y1 (nmOf a3) := ⟨_, rfl⟩
      rw [← hrr]
      rw [← hrr] at HF
      clear h' k' hrr
      go_wp2_with fail
      go_ret
      exact HF.out
    · go_wp2_with fail
      refine (holds_move H5.out hn y1 Y1.out (nmOf a3) (by unfold nmOf maxLen; simp) y2 Y2.out (nmOf a4) (by unfold nmOf; simp) (nm_asc a4 l4)).mono ?_
      rintro e w' ⟨dp, _, rfl, h', k'⟩
      have HF := Lib.hid (FIN.out _ _ _ h' k' (acted_move HS.out dp y1 (nmOf a3) y2 (nmOf a4) (by unfold nmOf; rfl)))
      obtain ⟨rr, hrr⟩ : ∃ rr, rr = moveR D.tab dp y1 (nmOf a3) y2 (nmOf a4) := ⟨_, rfl⟩
      rw [← hrr]
      rw [← hrr] at HF
      clear h' k' hrr
      go_wp2_with fail
      go_ret
      exact HF.out
    · go_wp2_with fail
      refine (holds_write H5.out hn y2 Y2.out (zeros x4) (by omega)).mono ?_
      rintro e w' ⟨rfl, h', k'⟩
      have HF := Lib.hid (FIN.out _ _ _ h' k' (acted_write HS.out y2 (zeros x4) zl))
      obtain ⟨rr, hrr⟩ : ∃ rr, rr = writeE D.tab y2 (zeros x4) := ⟨_, rfl⟩
      rw [← hrr]
      rw [← hrr] at HF
      clear h' k' hrr
      go_wp2_with fail
      go_ret
      exact HF.out
end Go.Proofs.Ytgifdmfnecombaa
