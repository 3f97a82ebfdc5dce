/- Decode. -/
import Derived.Test.YtdpeblchndfdaaaMn
namespace Go.Proofs.Ytdpeblchndfdaaa
open Go.RowKit Go.Maps Go.ChangeMaps Go.MapKept
set_option maxRecDepth 100000
theorem enters_dec1 : ∀ args w, (callFunc 28 args).run Try.prog w = .ok (.enter 28 args) w := enters_of Try.func28 (by kernel_rfl) rfl
theorem alloc_errno {ops : Array Oper} {rest : List Oper} {op : Oper} {a : Act} {w : World} {Q : Exit → Act → World → Prop} (hgd : op.guard = none) (ho : op.op = .alloc 26)
    (h : ∀ u, At u w.heap.size 26 [.int .i64 0] → Below w.heap.size w u → u.heap.size = w.heap.size + 1 → wpList Try.prog ops Q rest (a.put op.dst (.pointer (some ⟨w.heap.size, 0, none⟩))) u) : wpList Try.prog ops Q (op :: rest) a w := by
  refine list_val hgd (v := .pointer (some ⟨w.heap.size, 0, none⟩)) (w' := w.alloc (.cells #[.int .i64 0] 26)) ?_ (h _ (At.new w _ _) ((Below.refl _ w).alloc (Nat.le_refl _) _) (by rw [World.size_alloc]))
  have hz : (zeroValue 26).run Try.prog w = .ok (.int .i64 0) w := by kernel_rfl
  unfold execOp
  simp only [ho]
  simp [go_sem, hz, Value.cells]
theorem loadVar_nd (w : World) (p : Nat) (cs : List Value) (hA : At w p 24 cs) (hl : cs.length = 5) : (loadVar 24 ⟨p, 0, none⟩).run Try.prog w = .ok (.agg cs.toArray) w := by
  have h := run_loadCells_list (P := Try.prog) w ⟨p, 0, none⟩ cs (fun j v hj => by rw [Addr.add0]; exact hA.cell j v hj)
  rw [hl] at h
  have hi : (Try.prog.info? 24).map (·.size) = some 5 := info_nd
  cases hq : Try.prog.info? 24 with
  | none => simp [hq] at hi
  | some i =>
    have hs : i.size = 5 := by simpa [hq] using hi
    have hagg : (isAgg 24).run Try.prog w = .ok true w := by
      unfold isAgg
      rw [Sem.run_bind, run_underlying Try.underlying24 w]
      rfl
    simp [loadVar, Sem.run_bind, hagg, sizeOf, typeInfo, hq, hs, h]
theorem loadVar_errno (w : World) (p : Nat) (n : Int) (hA : At w p 26 [.int .i64 n]) : (loadVar 26 ⟨p, 0, none⟩).run Try.prog w = .ok (.int .i64 n) w := by
  have hc := hA.cell 0 _ rfl
  unfold loadVar
  simp [go_sem, isAgg, run_underlying Try.underlying26, hc]
/-- what Decode hands back -/
theorem results_dec (tmps : Array Value) (w : World) (p q : Nat) (cs : List Value) (n : Int) (hp : tmps.getD 2 undef = .pointer (some ⟨p, 0, none⟩)) (hq : tmps.getD 3 undef = .pointer (some ⟨q, 0, none⟩)) (hA : At w p 24 cs) (hl : cs.length = 5) (hB : At w q 26 [.int .i64 n]) :
    (results Try.f13 tmps).run Try.prog w = .ok (.tuple #[.agg cs.toArray, .int .i64 n]) w := by
  have hp' : tmps[2]?.getD undef = .pointer (some ⟨p, 0, none⟩) := by simpa using hp
  have hq' : tmps[3]?.getD undef = .pointer (some ⟨q, 0, none⟩) := by simpa using hq
  have hr : Try.f13.results = #[.cell 2 24, .cell 3 26] := rfl
  simp only [results, hr]
  simp [hp', hq', asAddr, Sem.run_bind, loadVar_nd w p cs hA hl, loadVar_errno w q n hB, Result.andThen]
def magicL : List UInt8 := [119, 104, 105, 115, 107, 45, 116, 114, 101, 101]
/-- the tree whose bytes these are -/
def decL (l : List UInt8) : Option Nd :=
  if 60000 < l.length then none else
  match Plain.cutT l with
  | none => none
  | some (t, r) =>
    if t ≠ magicL then none else
    match readN 12 r with
    | none => none
    | some (n, r2) => if r2 ≠ [] then none else if checkL 15 n ≠ 0 then none else some n
theorem cutT_sum {l t r : List UInt8} (h : Plain.cutT l = some (t, r)) : r.length + t.length < l.length := by
  unfold Plain.cutT at h
  cases hc : Plain.cut l with
  | none => simp [hc] at h
  | some x =>
    obtain ⟨n, q⟩ := x
    have := cut_lt hc
    simp only [hc] at h
    split at h
    · cases h
    · simp only [Option.some.injEq, Prod.mk.injEq] at h
      obtain ⟨rfl, rfl⟩ := h
      simp only [List.length_take, List.length_drop]
      omega
/-- how few nodes there are, and how short their data -/
def FewN (B : Nat) (n : Nd) : Prop := ∀ h v, (nodesL h v n).length ≤ B ∧ ∀ p ∈ nodesL h v n, p.1 ≤ v + h ∧ p.2.data.length ≤ B
theorem depthL_named (t : List UInt8) (m : Nd) : ∀ l, depthL l (m.named t) = depthL l m
  | 0 => rfl
  | l + 1 => rfl
theorem FewN.named {B : Nat} {m : Nd} (t : List UInt8) (h : FewN B m) : FewN B (m.named t) := by
  intro hh v
  cases hh with
  | zero => exact h 0 v
  | succ hh =>
    obtain ⟨h1, h2⟩ := h (hh + 1) v
    unfold nodesL at h1 h2 ⊢
    rw [depthL_named]
    split
    · exact ⟨Nat.zero_le _, by simp⟩
    · rename_i hd
      rw [if_neg hd] at h1 h2
      refine ⟨h1, fun p hp => ?_⟩
      rcases List.mem_cons.mp hp with rfl | hp
      · exact h2 (v, m) (List.mem_cons_self ..)
      · exact h2 p (List.mem_cons_of_mem _ hp)
theorem FewN.mono {B C : Nat} {m : Nd} (h : FewN B m) (hB : B ≤ C) : FewN C m := fun hh v => ⟨Nat.le_trans (h hh v).1 hB, fun p hp => ⟨((h hh v).2 p hp).1, Nat.le_trans ((h hh v).2 p hp).2 hB⟩⟩
theorem FewN.leaf {k : Int} {e : Bool} {t : List UInt8} {B : Nat} (hB : 1 ≤ B) (ht : t.length ≤ B) : FewN B ⟨[], k, e, t, []⟩ := by
  intro hh v
  cases hh with
  | zero => exact ⟨Nat.zero_le _, by simp [nodesL]⟩
  | succ hh =>
    unfold nodesL
    split
    · exact ⟨Nat.zero_le _, by simp⟩
    · refine ⟨by simpa [Nd.kids] using hB, fun p hp => ?_⟩
      simp only [Nd.kids, List.flatMap_nil, List.mem_cons, List.not_mem_nil, or_false] at hp
      subst hp
      exact ⟨by omega, ht⟩
/-- so few, behind each other -/
def FewK (B : Nat) (ks : List Nd) : Prop := ∀ h v, (ks.flatMap (nodesL h v)).length ≤ B ∧ ∀ p ∈ ks.flatMap (nodesL h v), p.1 ≤ v + h ∧ p.2.data.length ≤ B
theorem FewK.node {B : Nat} {ks : List Nd} (h : FewK B ks) : FewN (B + 1) ⟨[], 2, false, [], ks⟩ := by
  intro hh v
  cases hh with
  | zero => exact ⟨Nat.zero_le _, by simp [nodesL]⟩
  | succ hh =>
    unfold nodesL
    split
    · exact ⟨Nat.zero_le _, by simp⟩
    · obtain ⟨h1, h2⟩ := h hh (v + 1)
      refine ⟨by simpa [Nd.kids] using h1, fun p hp => ?_⟩
      rcases List.mem_cons.mp hp with rfl | hp
      · exact ⟨by omega, Nat.zero_le _⟩
      · have := h2 p hp
        exact ⟨by omega, by omega⟩
def Counts (f : List UInt8 → Option (Nd × List UInt8)) : Prop := ∀ l n r, f l = some (n, r) → r.length ≤ l.length ∧ FewN (l.length - r.length) n
theorem readK_few {f : List UInt8 → Option (Nd × List UInt8)} (hf : Counts f) : ∀ (c : Nat) (l : List UInt8) (ks : List Nd) (r : List UInt8), readK f c l = some (ks, r) → r.length ≤ l.length ∧ FewK (l.length - r.length) ks
  | 0, l, ks, r, h => by
    simp only [readK, Option.some.injEq, Prod.mk.injEq] at h
    obtain ⟨rfl, rfl⟩ := h
    exact ⟨Nat.le_refl _, fun h v => ⟨by simp, by simp⟩⟩
  | c + 1, l, ks, r, h => by
    rw [readK_succ] at h
    cases ht : Plain.cutT l with
    | none => simp [ht] at h
    | some y =>
      obtain ⟨t, r1⟩ := y
      have h1 := cutT_lt ht
      simp only [ht] at h
      cases hn : f r1 with
      | none => simp [hn] at h
      | some z =>
        obtain ⟨m, r2⟩ := z
        obtain ⟨h2, hfm⟩ := hf _ _ _ hn
        simp only [hn, Option.map_eq_some_iff, Prod.exists, Prod.mk.injEq] at h
        obtain ⟨ks', r', hk, rfl, rfl⟩ := h
        obtain ⟨h3, hfk⟩ := readK_few hf c r2 ks' r' hk
        refine ⟨by omega, fun hh v => ?_⟩
        obtain ⟨a1, a2⟩ := (hfm.named t) hh v
        obtain ⟨b1, b2⟩ := hfk hh v
        rw [List.flatMap_cons]
        refine ⟨by rw [List.length_append]; omega, fun p hp => ?_⟩
        rcases List.mem_append.mp hp with hp | hp
        · have := a2 p hp; exact ⟨this.1, by omega⟩
        · have := b2 p hp; exact ⟨this.1, by omega⟩
theorem readN_few : ∀ k : Nat, Counts (readN k)
  | 0 => by intro l n r h; simp [readN] at h
  | k + 1 => by
    intro l n r h
    refine ⟨readN_less _ _ _ _ h, ?_⟩
    unfold readN at h
    cases hc : Plain.cut l with
    | none => simp [hc] at h
    | some x =>
      obtain ⟨x, q⟩ := x
      have h1 := cut_lt hc
      simp only [hc] at h
      split at h
      · unfold readFile at h
        cases hc2 : Plain.cut q with
        | none => simp [hc2] at h
        | some y =>
          obtain ⟨y, q2⟩ := y
          have h2 := cut_lt hc2
          simp only [hc2] at h
          split at h
          · cases ht : Plain.cutT q2 with
            | none => simp [ht] at h
            | some z =>
              obtain ⟨t, q3⟩ := z
              have h3 := cutT_sum ht
              simp only [ht, Option.some.injEq, Prod.mk.injEq] at h
              obtain ⟨rfl, rfl⟩ := h
              exact FewN.leaf (by omega) (by omega)
          · cases h
      · split at h
        · unfold readDir at h
          cases hc2 : Plain.cut q with
          | none => simp [hc2] at h
          | some y =>
            obtain ⟨c, q2⟩ := y
            have h2 := cut_lt hc2
            simp only [hc2, Option.map_eq_some_iff, Prod.exists, Prod.mk.injEq] at h
            obtain ⟨ks', r', hk, rfl, rfl⟩ := h
            obtain ⟨h3, hfk⟩ := readK_few (readN_few k) c q2 ks' r' hk
            exact (FewK.node hfk).mono (by omega)
        · split at h
          · unfold readLink at h
            cases ht : Plain.cutT q with
            | none => simp [ht] at h
            | some z =>
              obtain ⟨t, q3⟩ := z
              have h3 := cutT_sum ht
              simp only [ht, Option.some.injEq, Prod.mk.injEq] at h
              obtain ⟨rfl, rfl⟩ := h
              exact FewN.leaf (by omega) (by omega)
          · cases h
theorem bs_toList' (l : List UInt8) : (bs l).toList = l := by
  rw [ByteArray.toList_eq, data_bs]
set_option maxHeartbeats 8000000 in
theorem decode_any (l : List UInt8) (w : World) :
    Calls Try.prog 13 #[.string (bs l)] w fun e w' => Below w.heap.size w w' ∧ match decL l with
      | some n => ∃ ao cap, e = .returned (.tuple #[n.v ao cap, .int .i64 0]) ∧ Has (fun i => w.heap.size ≤ i) w' 15 n ao
      | none => e = .returned (.tuple #[.agg zeroN.toArray, .int .i64 4]) := by
  have hmf : ∀ (fn : Fn) (first cap : Array Value) (w : World), (Instr.makeFunc fn first cap).run Try.prog w = .ok (.func fn first cap) w := fun _ _ _ _ => rfl
  obtain ⟨RES, hRES⟩ : ∃ RES, RES = decL l := ⟨_, rfl⟩
  rw [← hRES]
  unfold decL at hRES
  by_cases h6 : 60000 < l.length
  · rw [if_pos h6] at hRES
    have HNONE := Lib.hid hRES
    have hdec := Lib.hid (decide_eq_false (show ¬ ((l.length : Int) ≤ 60000) by omega))
    clear hRES
    go_enter_defers Try.func13, Try.ntmps13
    go_wp2_with (first
      | (with_reducible refine alloc_any rfl 24 rfl _ zero_nd ?_; intro u hu bu zu; have HU := Lib.hid hu; have BU := Lib.hid bu; clear hu bu)
      | (with_reducible refine alloc_errno rfl rfl ?_; intro u2 hu2 bu2 zu2; rw [zu] at hu2 zu2 ⊢; have HP := Lib.hid (HU.out.below bu2 HU.out.lt); have HQ := Lib.hid hu2; have BU2 := Lib.hid (BU.out.trans (bu2.mono (by omega))); clear hu2 bu2))
    rw [hdec.out]
    refine (must_no u2).mono ?_
    rintro e w3 ⟨rfl, rfl⟩
    go_wp2_with fail
    refine leaves_cons (f := 28) (args := #[.pointer (some ⟨w.heap.size, 0, none⟩), .pointer (some ⟨w.heap.size + 1, 0, none⟩)]) (by simp) (by simp [go_sem, enters_dec1]) ?_
    refine (catch_amiss w.heap.size (w.heap.size + 1) zeroN 0 86 (.agg #[]) [] _ HP.out rfl HQ.out (by omega)).mono ?_
    rintro e9 u9 w9 ⟨rfl, rfl, hT9, hP9, hQ9⟩
    have HB9 := Lib.hid (hT9.below BU2.out (by simp) (Nat.le_refl _))
    refine ⟨_, results_dec _ w9 w.heap.size (w.heap.size + 1) zeroN 4 rfl rfl hP9 rfl hQ9, ?_⟩
    first | exact ⟨HB9.out, rfl⟩ | exact ⟨HB9.out, by rw [HNONE.out]⟩
  rw [if_neg h6] at hRES
  have hl60 : l.length ≤ 60000 := by omega
  have hdec := Lib.hid (decide_eq_true (show ((l.length : Int) ≤ 60000) by omega))
  have HRES := Lib.hid hRES
  clear hRES h6
  go_enter_defers Try.func13, Try.ntmps13
  go_wp2_with (first
    | (with_reducible refine alloc_any rfl 24 rfl _ zero_nd ?_; intro u hu bu zu; have HU := Lib.hid hu; have BU := Lib.hid bu; clear hu bu)
    | (with_reducible refine alloc_errno rfl rfl ?_; intro u2 hu2 bu2 zu2; rw [zu] at hu2 zu2 ⊢; have HP := Lib.hid (HU.out.below bu2 HU.out.lt); have HQ := Lib.hid hu2; have BU2 := Lib.hid (BU.out.trans (bu2.mono (by omega))); clear hu2 bu2))
  rw [hdec.out]
  refine (must_ok u2).mono ?_
  rintro e w3 ⟨rfl, rfl⟩
  go_wp2_with fail
  refine (narReader_any l w3).mono ?_
  rintro e w4 ⟨b, rb, mb, rfl, h4, b4, gb, grb⟩
  have HP4 := Lib.hid (HP.out.below b4 HP.out.lt)
  have HQ4 := Lib.hid (HQ.out.below b4 HQ.out.lt)
  have HB4 := Lib.hid (BU2.out.trans (b4.mono (by omega)))
  have H4 := Lib.hid h4
  have z4 := b4.size
  have hnp : w.heap.size ∉ [b, rb] := by simp; omega
  have hnq : w.heap.size + 1 ∉ [b, rb] := by simp; omega
  clear h4 b4 HP HQ BU2 HU BU hdec
  cases ht : Plain.cutT l with
  | none =>
    have hnone : RES = none := by rw [HRES.out]; simp [ht]
    have HNONE := Lib.hid hnone
    have HT := Lib.hid ht
    clear hnone ht HRES
    go_wp2_with fail
    refine (rtext_none b rb mb 0 l w4 H4.out (by omega) HT.out).mono ?_
    rintro e w5 ⟨rfl, t5⟩
    have HP5 := Lib.hid (HP4.out.touch t5 hnp)
    have HQ5 := Lib.hid (HQ4.out.touch t5 hnq)
    have HB5 := Lib.hid (t5.below HB4.out (by simp; omega) (Nat.le_refl _))
    clear t5
    go_wp2_with fail
    refine leaves_cons (f := 28) (args := #[.pointer (some ⟨w.heap.size, 0, none⟩), .pointer (some ⟨w.heap.size + 1, 0, none⟩)]) (by simp) (by simp [go_sem, enters_dec1]) ?_
    refine (catch_amiss w.heap.size (w.heap.size + 1) zeroN 0 86 (.agg #[]) [] _ HP5.out rfl HQ5.out (by omega)).mono ?_
    rintro e9 u9 w9 ⟨rfl, rfl, hT9, hP9, hQ9⟩
    have HB9 := Lib.hid (hT9.below HB5.out (by simp) (Nat.le_refl _))
    refine ⟨_, results_dec _ w9 w.heap.size (w.heap.size + 1) zeroN 4 rfl rfl hP9 rfl hQ9, ?_⟩
    first | exact ⟨HB9.out, rfl⟩ | exact ⟨HB9.out, by rw [HNONE.out]⟩
  | some x =>
    obtain ⟨t, r⟩ := x
    have hr := cutT_lt ht
    have hres1 : RES = if t ≠ magicL then none else match readN 12 r with | none => none | some (n, r2) => if r2 ≠ [] then none else if checkL 15 n ≠ 0 then none else some n := by rw [HRES.out]; simp [ht]
    have HRES1 := Lib.hid hres1
    have HT := Lib.hid ht
    clear hres1 ht HRES
    go_wp2_with fail
    refine (rtext_some b rb mb 0 l t r w4 H4.out (by omega) HT.out).mono ?_
    rintro e w5 ⟨rfl, h5, t5⟩
    have HP5 := Lib.hid (HP4.out.touch t5 hnp)
    have HQ5 := Lib.hid (HQ4.out.touch t5 hnq)
    have HB5 := Lib.hid (t5.below HB4.out (by simp; omega) (Nat.le_refl _))
    have H5 := Lib.hid h5
    have z5 := t5.size
    clear t5 h5 HP4 HQ4 HB4 H4
    by_cases hm : t = magicL
    · have hres2 : RES = match readN 12 r with | none => none | some (n, r2) => if r2 ≠ [] then none else if checkL 15 n ≠ 0 then none else some n := by rw [HRES1.out, if_neg (by simpa using hm)]
      have HRES2 := Lib.hid hres2
      clear hres2 HRES1
      subst hm
      have hmg : (bs magicL) = ⟨#[119, 104, 105, 115, 107, 45, 116, 114, 101, 101]⟩ := rfl
      have HMG := Lib.hid hmg
      clear hmg
      unfold magicL
      go_wp2_with fail
      refine (must_ok w5).mono ?_
      rintro e w6 ⟨rfl, rfl⟩
      go_wp2_with fail
      refine (rnode_any 12 b rb mb 0 r w6 rfl H5.out (by omega)).mono ?_
      rintro e w7 ⟨t7, h7⟩
      have HP7 := Lib.hid (HP5.out.touch t7 hnp)
      have HQ7 := Lib.hid (HQ5.out.touch t7 hnq)
      have HB7 := Lib.hid (t7.below HB5.out (by simp; omega) (Nat.le_refl _))
      have z7 := t7.size
      clear t7 HP5 HQ5 HB5 H5
      cases hn : readN 12 r with
      | none =>
        have hnone : RES = none := by rw [HRES2.out, hn]
        rw [hn] at h7
        obtain rfl := h7
        have HNONE := Lib.hid hnone
        clear hnone hn HRES2
        go_wp2_with fail
        refine leaves_cons (f := 28) (args := #[.pointer (some ⟨w.heap.size, 0, none⟩), .pointer (some ⟨w.heap.size + 1, 0, none⟩)]) (by simp) (by simp [go_sem, enters_dec1]) ?_
        refine (catch_amiss w.heap.size (w.heap.size + 1) zeroN 0 86 (.agg #[]) [] _ HP7.out rfl HQ7.out (by omega)).mono ?_
        rintro e9 u9 w9 ⟨rfl, rfl, hT9, hP9, hQ9⟩
        have HB9 := Lib.hid (hT9.below HB7.out (by simp) (Nat.le_refl _))
        refine ⟨_, results_dec _ w9 w.heap.size (w.heap.size + 1) zeroN 4 rfl rfl hP9 rfl hQ9, ?_⟩
        first | exact ⟨HB9.out, rfl⟩ | exact ⟨HB9.out, by rw [HNONE.out]⟩
      | some x =>
        obtain ⟨n, r2⟩ := x
        have hres3 : RES = if r2 ≠ [] then none else if checkL 15 n ≠ 0 then none else some n := by rw [HRES2.out, hn]
        rw [hn] at h7
        obtain ⟨⟨ao7, cap7, rfl, hH7⟩, hR7⟩ := h7
        have HFEW := Lib.hid ((readN_few 12 r n r2 hn).2)
        have hr2 := (readN_few 12 r n r2 hn).1
        have HRES3 := Lib.hid hres3
        have HH7 := Lib.hid (hH7.ups (show 12 ≤ 15 by omega))
        have HR7 := Lib.hid hR7
        clear hres3 hn HRES2 hH7 hR7
        go_wp2_with (refine store_any rfl 24 (.tmp 2) (.tmp 17) rfl w.heap.size rfl (n.cells ao7 cap7) rfl _ HP7.out rfl info_nd (nd_one _ _ _) ?_; intro u8 hu8 tu8; have HP8 := Lib.hid hu8; have HQ8 := Lib.hid (HQ7.out.touch tu8 (by simp)); have HB8 := Lib.hid (tu8.below HB7.out (by simp) (Nat.le_refl _)); have HR8 := Lib.hid (HR7.out.touch tu8 (by simp; exact ⟨_, HP7.out⟩)); have z8 := tu8.size; have HH8 := Lib.hid (Has.kept (S := fun i => w6.heap.size ≤ i) (fun _ h _ => h) (fun i (hi : w6.heap.size ≤ i) hlt => tu8.block i hlt (by simp; omega)) _ _ _ HH7.out); obtain ⟨cr8, rr8⟩ := HR8.out.rd; clear hu8 tu8)
        refine (end_any rb (bs r2) false u8 rr8).mono ?_
        rintro e w9 ⟨rfl, rfl⟩
        by_cases hr0 : r2 = []
        · subst hr0
          have hres4 : RES = if checkL 15 n ≠ 0 then none else some n := by rw [HRES3.out, if_neg (by simp)]
          have HRES4 := Lib.hid hres4
          clear hres4 HRES3
          have hemp : ((bs []).toList.isEmpty) = true := by decide +kernel
          simp only [hemp, Bool.not_false, Bool.and_true]
          go_wp2_with fail
          refine (must_ok w9).mono ?_
          rintro e w10 ⟨rfl, rfl⟩
          go_wp2_with (refine load_any rfl 24 (.tmp 2) rfl ⟨w.heap.size, 0, none⟩ rfl (n.cells ao7 cap7) _ (fun j v hj => by rw [Addr.add0]; exact HP8.out.cell j v hj) Try.underlying24 rfl info_nd ?_)
          have hfew := HFEW.out 15 1
          have hrl : r.length ≤ 60000 := by omega
          refine (checkD_any 60000 60000 (by decide) (by decide) (by decide) 15 n ao7 cap7 w10 (by decide) HH8.out.any (fun _ _ => ⟨fun p hp => ⟨by have := (hfew.2 p hp).1; omega, by have := (hfew.2 p hp).2; omega⟩, by have := hfew.1; omega⟩)).mono ?_
          rintro e w11 ⟨rfl, b11⟩
          have HP11 := Lib.hid (HP8.out.below b11 HP8.out.lt)
          have HQ11 := Lib.hid (HQ8.out.below b11 HQ8.out.lt)
          have HB11 := Lib.hid (HB8.out.trans (b11.mono (by omega)))
          have HH11 := Lib.hid (HH8.out.below b11)
          clear b11 HP8 HQ8 HB8 HH8 HR8 cr8 rr8 hfew HP7 HQ7 HR7 HH7 HFEW
          obtain ⟨C, hC⟩ : ∃ C, C = checkL 15 n := ⟨_, rfl⟩
          rw [← hC]
          have hres5 : RES = if C ≠ 0 then none else some n := by rw [HRES4.out, hC]
          have HRES5 := Lib.hid hres5
          clear hres5 HRES4 hC
          by_cases hc : C = 0
          · subst hc
            have hsome : RES = some n := by rw [HRES5.out, if_neg (by simp)]
            have HSOME := Lib.hid hsome
            clear hsome HRES5
            go_wp2_with fail
            refine (must_ok w11).mono ?_
            rintro e w12 ⟨rfl, rfl⟩
            have cq := HQ11.out.cell 0 _ rfl
            have fq := HQ11.out.frozen 0
            go_wp2_with (first
              | (refine load_any rfl 24 (.tmp 2) rfl ⟨w.heap.size, 0, none⟩ rfl (n.cells ao7 cap7) _ (fun j v hj => by rw [Addr.add0]; exact HP11.out.cell j v hj) Try.underlying24 rfl info_nd ?_)
              | (refine store_any rfl 24 (.tmp 2) (.tmp 28) rfl w.heap.size rfl (n.cells ao7 cap7) rfl _ HP11.out rfl info_nd (nd_one _ _ _) ?_; intro u13 hu13 tu13; have HP13 := Lib.hid hu13; have TU13 := Lib.hid tu13; have HQ13 := Lib.hid (HQ11.out.touch tu13 (by simp)); have cq2 := HQ13.out.cell 0 _ rfl; have fq2 := HQ13.out.frozen 0; clear hu13 tu13 cq fq))
            have hT14 : Touch [w.heap.size, w.heap.size + 1] w12 (u13.setCell ⟨w.heap.size + 1, 0, none⟩ (.int .i64 0)) := (TU13.out.mono (by simp)).setCell _ _ (.inl (by simp))
            have hQ14 : At (u13.setCell ⟨w.heap.size + 1, 0, none⟩ (.int .i64 0)) (w.heap.size + 1) 26 [.int .i64 0] := HQ13.out.setCell 0 _
            have hP14 : At (u13.setCell ⟨w.heap.size + 1, 0, none⟩ (.int .i64 0)) w.heap.size 24 (n.cells ao7 cap7) := HP13.out.setCell_ne _ _ (show w.heap.size ≠ w.heap.size + 1 by omega)
            have hH14 := Has.kept (S := fun i => w6.heap.size ≤ i) (S' := fun i => w.heap.size ≤ i) (fun i (hi : w6.heap.size ≤ i) _ => (by omega : w.heap.size ≤ i)) (fun i (hi : w6.heap.size ≤ i) hlt => hT14.block i hlt (by simp; omega)) _ _ _ HH11.out
            have hB14 := hT14.below HB11.out (by simp) (Nat.le_refl _)
            generalize u13.setCell ⟨w.heap.size + 1, 0, none⟩ (.int .i64 0) = w14 at *
            refine leaves_cons (f := 28) (args := #[.pointer (some ⟨w.heap.size, 0, none⟩), .pointer (some ⟨w.heap.size + 1, 0, none⟩)]) (by simp) (by simp [go_sem, enters_dec1]) ?_
            refine (catch_idle w.heap.size (w.heap.size + 1) w14).mono ?_
            rintro e9 u9 w9 ⟨rfl, rfl, rfl⟩
            refine ⟨_, results_dec _ w9 w.heap.size (w.heap.size + 1) (n.cells ao7 cap7) 0 rfl rfl hP14 rfl hQ14, ?_⟩
            refine ⟨hB14, ?_⟩
            first
            | exact ⟨ao7, cap7, rfl, hH14⟩
            | (rw [HSOME.out]; exact ⟨ao7, cap7, rfl, hH14⟩)
            | (have e := HSOME.out; simp only [Option.some.injEq] at e; subst e; exact ⟨ao7, cap7, rfl, hH14⟩)
            | (have e := HSOME.out; simp at e)
          · have hnone : RES = none := by rw [HRES5.out, if_pos hc]
            have HNONE := Lib.hid hnone
            have hc2 : (C == 0) = false := by simpa using hc
            clear hnone HRES5 hc
            go_wp2_with fail
            refine (must_no w11).mono ?_
            rintro e w12 ⟨rfl, rfl⟩
            go_wp2_with fail
            refine leaves_cons (f := 28) (args := #[.pointer (some ⟨w.heap.size, 0, none⟩), .pointer (some ⟨w.heap.size + 1, 0, none⟩)]) (by simp) (by simp [go_sem, enters_dec1]) ?_
            refine (catch_amiss w.heap.size (w.heap.size + 1) (n.cells ao7 cap7) 0 86 (.agg #[]) [] _ HP11.out rfl HQ11.out (by omega)).mono ?_
            rintro e9 u9 w9 ⟨rfl, rfl, hT9, hP9, hQ9⟩
            have HB9 := Lib.hid (hT9.below HB11.out (by simp) (Nat.le_refl _))
            refine ⟨_, results_dec _ w9 w.heap.size (w.heap.size + 1) zeroN 4 rfl rfl hP9 rfl hQ9, ?_⟩
            first | exact ⟨HB9.out, rfl⟩ | exact ⟨HB9.out, by rw [HNONE.out]⟩
        · have hnone : RES = none := by rw [HRES3.out, if_pos hr0]
          have HNONE := Lib.hid hnone
          have hemp : ((bs r2).toList.isEmpty) = false := by
            cases r2 with
            | nil => exact absurd rfl hr0
            | cons a r => rw [bs_toList']; rfl
          clear hnone HRES3 hr0
          simp only [hemp, Bool.not_false, Bool.and_false]
          go_wp2_with fail
          refine (must_no w9).mono ?_
          rintro e w10 ⟨rfl, rfl⟩
          go_wp2_with fail
          refine leaves_cons (f := 28) (args := #[.pointer (some ⟨w.heap.size, 0, none⟩), .pointer (some ⟨w.heap.size + 1, 0, none⟩)]) (by simp) (by simp [go_sem, enters_dec1]) ?_
          refine (catch_amiss w.heap.size (w.heap.size + 1) (n.cells ao7 cap7) 0 86 (.agg #[]) [] _ HP8.out rfl HQ8.out (by omega)).mono ?_
          rintro e9 u9 w9 ⟨rfl, rfl, hT9, hP9, hQ9⟩
          have HB9 := Lib.hid (hT9.below HB8.out (by simp) (Nat.le_refl _))
          refine ⟨_, results_dec _ w9 w.heap.size (w.heap.size + 1) zeroN 4 rfl rfl hP9 rfl hQ9, ?_⟩
          first | exact ⟨HB9.out, rfl⟩ | exact ⟨HB9.out, by rw [HNONE.out]⟩
    · have hnone : RES = none := by rw [HRES1.out, if_pos hm]
      have HNONE := Lib.hid hnone
      have hmb : (t == [119, 104, 105, 115, 107, 45, 116, 114, 101, 101]) = false := by simpa [magicL] using hm
      clear hnone HRES1 hm
      go_wp2_with fail
      refine (must_no w5).mono ?_
      rintro e w6 ⟨rfl, rfl⟩
      go_wp2_with fail
      refine leaves_cons (f := 28) (args := #[.pointer (some ⟨w.heap.size, 0, none⟩), .pointer (some ⟨w.heap.size + 1, 0, none⟩)]) (by simp) (by simp [go_sem, enters_dec1]) ?_
      refine (catch_amiss w.heap.size (w.heap.size + 1) zeroN 0 86 (.agg #[]) [] _ HP5.out rfl HQ5.out (by omega)).mono ?_
      rintro e9 u9 w9 ⟨rfl, rfl, hT9, hP9, hQ9⟩
      have HB9 := Lib.hid (hT9.below HB5.out (by simp) (Nat.le_refl _))
      refine ⟨_, results_dec _ w9 w.heap.size (w.heap.size + 1) zeroN 4 rfl rfl hP9 rfl hQ9, ?_⟩
      first | exact ⟨HB9.out, rfl⟩ | exact ⟨HB9.out, by rw [HNONE.out]⟩
end Go.Proofs.Ytdpeblchndfdaaa
