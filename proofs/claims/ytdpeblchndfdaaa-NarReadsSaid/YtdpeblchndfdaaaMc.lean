/- A writer's num and text; what is told at its end. -/
import Derived.Test.YtdpeblchndfdaaaMb
import Derived.Test.YtdpeblchndfdaaaMf
import Derived.Lib.UnsafeStr
namespace Go.Proofs.Ytdpeblchndfdaaa
open Go.RowKit
set_option maxRecDepth 100000
section
variable {P : Program} {md : Region.Mode} {ops : Array Oper} {Q : Exit → Act → World → Prop} {S : World → Prop} {t i fuel : Nat} {listed : Array Bool} {a : Act} {w : World}
theorem wpAnyT_takeN {oi : Oper} {v : Value} (hi : ops[i]? = some oi) (ht : ops.size ≤ t)
    (hs : Region.noSelect ops = true) (hf : Region.free md ops listed i = true) (hr : (Region.ready md ops listed).contains i = true)
    (hQ : ∀ c a w, Q (.panic c) (a.put oi.dst v) w → Q (.panic c) a w) (hy : YieldsIf P ops S oi v a) (hS : S w)
    (h : wpAnyT P md ops Q S t fuel (listed.setIfInBounds i true) (a.put oi.dst v) w) : wpAnyT P md ops Q S t (fuel + 1) listed a w := by
  have hlt : i < ops.size := (Array.getElem?_eq_some_iff.1 hi).1
  refine wpAnyT_first hi (by omega) (fun o ho => ?_) (Region.noSelect_spec hs) hQ fuel listed a w (Region.free_spec hi hf) (by simpa using hr) hy hS h
  have := (Array.getElem?_eq_some_iff.1 ho).1
  omega
theorem wpAnyT_call {o : Oper} (hrd : Region.ready md ops listed = [i]) (hi : ops[i]? = some o) (hw : Region.wanted o (yielded ops a.tmps) = true) (f : FuncId) (args : Array Value)
    (hr : (execOp a.eval o).run P w = .ok (.enter f args) w) (hc : Calls P f args w fun e w' => ∃ v, e = .returned v ∧ S w' ∧ wpAnyT P md ops Q S t fuel (listed.setIfInBounds i true) (a.put o.dst v) w') : wpAnyT P md ops Q S t (fuel + 1) listed a w :=
  wpAnyT_all hrd (by simp) (fun j hj => by
    obtain rfl : j = i := by simpa using hj
    refine wpOp_call hi hw f args hr (hc.mono ?_)
    rintro e w' ⟨v, rfl, hS, h⟩
    exact ⟨v, rfl, fun _ => hS, h⟩)
/-- a method value is called -/
theorem run_call_bound {o : Oper} {f : FuncId} {first : Array Value} {fo : Operand} {x : Operand} {ts : Array TypeId} (ho : o.op = .call { callee := .value fo, args := #[x], argTypes := ts }) (hf : a.eval fo = .func (.func f) first #[])
    (e : ∀ args w, (callFunc f args).run P w = .ok (.enter f args) w) (v : Value) (hv : a.eval x = v) (args : Array Value) (ha : first ++ #[v] = args) : (execOp a.eval o).run P w = .ok (.enter f args) w := by
  subst ha
  unfold execOp
  simp only [ho, resolve, List.map_toArray, List.map_cons, List.map_nil, hf, hv]
  simp [Deferred.ofValue, Sem.run_bind, Sem.run_pure, Result.andThen_ok, invoke, e]
end
set_option maxHeartbeats 1000000 in
/-- the bytes that it holds -/
theorem wString_any (B b : Nat) (l : List UInt8) (w : World) (h : WAt B w b l) (h0 : l ≠ []) :
    Calls Try.prog 24 #[.pointer (some ⟨b, 0, none⟩)] w fun e w' => e = .returned (.string (bs l)) ∧ Below B w w' := by
  obtain ⟨hB, p, v, m, n, hp, hA, hown, hm, hM⟩ := h
  have hl0 : l.length ≠ 0 := by simpa using h0
  obtain ⟨g, cap, cur, fz, rfl, hbg, hg, hfz, hnc, hcm, hcs, htake⟩ : ∃ g cap cur fz, v = .slice (some ⟨g, 0, none⟩) l.length cap ∧ B ≤ g ∧ w.heap[g]? = some (.cells cur 5 fz) ∧ fz.2 ≤ l.length * 1 ∧ l.length ≤ cap ∧ cap ≤ maxLen ∧ cur.size = cap * 1 ∧ cur.toList.take (l.length * 1) = Lib.byteCells l := by
    rcases hown.2 with ⟨_, hz⟩ | ⟨g, cap, cur, fz, hv, r⟩
    · exact absurd hz hl0
    · exact ⟨g, cap, cur, fz, hv, r⟩
  have c1 : w.drew.cell? ⟨b, 1, none⟩ = some (.slice (some ⟨g, 0, none⟩) l.length cap) := hA.cell 1 _ rfl
  have hSD : (Builtin.unsafeSliceData_ #[37] 83 #[.slice (some ⟨g, 0, none⟩) l.length cap]).run Try.prog w.drew = .ok (.pointer (some ⟨g, 0, none⟩)) w.drew :=
    Lib.run_unsafeSliceData_row _ _ _ _ _ _ (by omega)
  have hUS : (Builtin.unsafeString_ #[83, 3] 9 #[.pointer (some ⟨g, 0, none⟩), .int .i64 l.length]).run Try.prog w.drew = .ok (.string ⟨l.toArray⟩) (w.drew.freeze ⟨g, 0, none⟩ l.length) := by
    refine Lib.run_unsafeString_row w.drew 83 3 9 5 Try.underlying83 (by kernel_rfl) g cur.size (by have hg' : w.drew.heap[g]? = some (.cells cur 5 fz) := hg; simp [World.shape?, hg']) l h0 (by omega) (by unfold maxLen at hcm; omega) ?_
    intro j x hx
    have := hown.cells (g := g) rfl j (.int .u8 x.toNat) (by simp [Lib.byteCells, hx])
    exact this
  clear hA hM hown hp
  go_enter Try.func24, Try.ntmps24
  go_wp2
  go_region
  all_goals (go_wp2; go_ret; exact ⟨rfl, Lib.below_freeze (Below.drew (Below.refl B w)) (p := ⟨g, 0, none⟩) hbg _⟩)
theorem nil_bs (t : List UInt8) : (⟨#[]⟩ : ByteArray) ++ bs t = bs t := by
  have h := bs_append [] t
  rw [List.nil_append] at h
  exact h
/-- a text's bytes -/
def txt (t : List UInt8) : List UInt8 := Plain.row t.length ++ t
theorem row_any (n : Nat) (hn : n < Plain.big) (w : World) :
    Calls Try.prog 78 #[.string ⟨#[]⟩, .int .u64 n] w fun e w' => e = .returned (.string (bs (Plain.row n))) ∧ Below w.heap.size w w' := by
  refine (putNum_any ⟨#[]⟩ n w (by decide) hn).mono ?_
  rintro e w' ⟨rfl, hb⟩
  exact ⟨by rw [nil_bs], hb⟩
theorem txt_any (t : List UInt8) (ht : t.length ≤ 1152921504606846976) (w : World) :
    Calls Try.prog 47 #[.string ⟨#[]⟩, .string (bs t)] w fun e w' => e = .returned (.string (bs (txt t))) ∧ Below w.heap.size w w' := by
  refine (putText_any ⟨#[]⟩ (bs t) w (by decide) (by rw [bs_size]; exact ht)).mono ?_
  rintro e w' ⟨rfl, hb⟩
  exact ⟨by rw [nil_bs, bs_append, bs_size]; rfl, hb⟩
theorem enters_putNum : ∀ args w, (callFunc 78 args).run Try.prog w = .ok (.enter 78 args) w := enters_of Try.func78 (by kernel_rfl) rfl
theorem enters_putText : ∀ args w, (callFunc 47 args).run Try.prog w = .ok (.enter 47 args) w := enters_of Try.func47 (by kernel_rfl) rfl
theorem enters_write : ∀ args w, (callFunc 46 args).run Try.prog w = .ok (.enter 46 args) w := enters_of Try.func46 (by kernel_rfl) rfl
set_option maxHeartbeats 1000000 in
theorem wnum_any (B b : Nat) (l : List UInt8) (n : Nat) (w : World) (h : WAt B w b l) (hn : n < Plain.big) (hl : l.length ≤ 1000000000000) (hBw : B ≤ w.heap.size) :
    Calls Try.prog 48 #[.pointer (some ⟨b, 0, none⟩), .int .u64 n] w fun e w' => e = .returned (.tuple #[]) ∧ WAt B w' b (l ++ Plain.row n) ∧ Below B w w' ∧ WB b w w' := by
  have h10 := Plain.row_length_le n hn
  have H := Lib.hid h
  clear h
  go_enter Try.func48, Try.ntmps48
  go_wp2_with fail
  refine region_any (fun _ => True) 6 (by kernel_rfl) ?_
  show wpAnyT _ _ _ _ _ _ _ _ _ w.drew
  refine wpAnyT_takeN (i := 0) (v := .pointer (some ⟨b, 0, none⟩)) rfl (by decide) (by kernel_rfl) (by kernel_rfl) (by kernel_rfl) (fun _ _ _ h => h) (.inl ⟨by kernel_rfl, fun W hS => by kernel_rfl⟩) trivial ?_
  refine wpAnyT_takeN (i := 1) (v := .pointer (some ⟨b, 0, none⟩)) rfl (by decide) (by kernel_rfl) (by kernel_rfl) (by kernel_rfl) (fun _ _ _ h => h) (.inl ⟨by kernel_rfl, fun W hS => by kernel_rfl⟩) trivial ?_
  refine wpAnyT_takeN (i := 2) (v := .pointer (some ⟨b, 0, none⟩)) rfl (by decide) (by kernel_rfl) (by kernel_rfl) (by kernel_rfl) (fun _ _ _ h => h) (.inl ⟨by kernel_rfl, fun W hS => by kernel_rfl⟩) trivial ?_
  refine wpAnyT_takeN (i := 3) (v := .int .u64 (n : Int)) rfl (by decide) (by kernel_rfl) (by kernel_rfl) (by kernel_rfl) (fun _ _ _ h => h) (.inl ⟨by kernel_rfl, fun W hS => by kernel_rfl⟩) trivial ?_
  refine wpAnyT_call (i := 4) (by kernel_rfl) rfl (by kernel_rfl) 78 #[.string ⟨#[]⟩, .int .u64 (n : Int)] (run_call_func rfl enters_putNum _ (by kernel_rfl)) ((row_any n hn w.drew).mono ?_)
  rintro e w1 ⟨rfl, hb1⟩
  refine ⟨_, rfl, trivial, ?_⟩
  have hd : Below w.heap.size w w1 := (below_drewN w 1).trans hb1
  have H1 := H.out.below hd
  refine wpAnyT_call (i := 5) (by kernel_rfl) rfl (by kernel_rfl) 46 #[.pointer (some ⟨b, 0, none⟩), .string (bs (Plain.row n))] (run_call_func rfl enters_write _ (by kernel_rfl)) ((wWrite_any B b l (Plain.row n) w1 H1 (by omega) (by have := hd.size; omega)).mono ?_)
  rintro e w2 ⟨rfl, h2, hb2, hw2⟩
  refine ⟨_, rfl, trivial, ?_⟩
  have HB := Lib.hid ((hd.mono hBw).trans hb2)
  have HW := Lib.hid ((WB.of_below (b := b) hd).trans hw2)
  have H2 := Lib.hid h2
  clear hd hb1 hb2 hw2 h2 H1
  refine wpAnyT_done (by kernel_rfl) ?_ _
  simp only [Act.put, List.getElem_toArray, List.getElem_cons_succ, List.getElem_cons_zero, List.setIfInBounds_toArray, List.set_cons_zero, List.set_cons_succ]
  go_wp2_with fail
  go_end0
  exact ⟨rfl, H2.out, HB.out, HW.out⟩
set_option maxHeartbeats 1000000 in
theorem wtext_any (B b : Nat) (l t : List UInt8) (w : World) (h : WAt B w b l) (ht : t.length ≤ 1000000000000) (hl : l.length ≤ 1000000000000) (hBw : B ≤ w.heap.size) :
    Calls Try.prog 22 #[.pointer (some ⟨b, 0, none⟩), .string (bs t)] w fun e w' => e = .returned (.tuple #[]) ∧ WAt B w' b (l ++ txt t) ∧ Below B w w' ∧ WB b w w' := by
  have h10 := Plain.row_length_le t.length (by unfold Plain.big; omega)
  have htl : (txt t).length ≤ 10 + t.length := by unfold txt; rw [List.length_append]; omega
  have H := Lib.hid h
  clear h
  go_enter Try.func22, Try.ntmps22
  go_wp2_with fail
  refine region_any (fun _ => True) 6 (by kernel_rfl) ?_
  show wpAnyT _ _ _ _ _ _ _ _ _ w.drew
  refine wpAnyT_takeN (i := 0) (v := .pointer (some ⟨b, 0, none⟩)) rfl (by decide) (by kernel_rfl) (by kernel_rfl) (by kernel_rfl) (fun _ _ _ h => h) (.inl ⟨by kernel_rfl, fun W hS => by kernel_rfl⟩) trivial ?_
  refine wpAnyT_takeN (i := 1) (v := .pointer (some ⟨b, 0, none⟩)) rfl (by decide) (by kernel_rfl) (by kernel_rfl) (by kernel_rfl) (fun _ _ _ h => h) (.inl ⟨by kernel_rfl, fun W hS => by kernel_rfl⟩) trivial ?_
  refine wpAnyT_takeN (i := 2) (v := .pointer (some ⟨b, 0, none⟩)) rfl (by decide) (by kernel_rfl) (by kernel_rfl) (by kernel_rfl) (fun _ _ _ h => h) (.inl ⟨by kernel_rfl, fun W hS => by kernel_rfl⟩) trivial ?_
  refine wpAnyT_takeN (i := 3) (v := .string (bs t)) rfl (by decide) (by kernel_rfl) (by kernel_rfl) (by kernel_rfl) (fun _ _ _ h => h) (.inl ⟨by kernel_rfl, fun W hS => by kernel_rfl⟩) trivial ?_
  refine wpAnyT_call (i := 4) (by kernel_rfl) rfl (by kernel_rfl) 47 #[.string ⟨#[]⟩, .string (bs t)] (run_call_func rfl enters_putText _ (by kernel_rfl)) ((txt_any t (by omega) w.drew).mono ?_)
  rintro e w1 ⟨rfl, hb1⟩
  refine ⟨_, rfl, trivial, ?_⟩
  have hd : Below w.heap.size w w1 := (below_drewN w 1).trans hb1
  have H1 := H.out.below hd
  refine wpAnyT_call (i := 5) (by kernel_rfl) rfl (by kernel_rfl) 46 #[.pointer (some ⟨b, 0, none⟩), .string (bs (txt t))] (run_call_func rfl enters_write _ (by kernel_rfl)) ((wWrite_any B b l (txt t) w1 H1 (by omega) (by have := hd.size; omega)).mono ?_)
  rintro e w2 ⟨rfl, h2, hb2, hw2⟩
  refine ⟨_, rfl, trivial, ?_⟩
  have HB := Lib.hid ((hd.mono hBw).trans hb2)
  have HW := Lib.hid ((WB.of_below (b := b) hd).trans hw2)
  have H2 := Lib.hid h2
  clear hd hb1 hb2 hw2 h2 H1
  refine wpAnyT_done (by kernel_rfl) ?_ _
  simp only [Act.put, List.getElem_toArray, List.getElem_cons_succ, List.getElem_cons_zero, List.setIfInBounds_toArray, List.set_cons_zero, List.set_cons_succ]
  go_wp2_with fail
  go_end0
  exact ⟨rfl, H2.out, HB.out, HW.out⟩
end Go.Proofs.Ytdpeblchndfdaaa
