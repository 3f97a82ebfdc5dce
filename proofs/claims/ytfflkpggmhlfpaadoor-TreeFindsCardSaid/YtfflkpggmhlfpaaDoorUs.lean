/- The statement TreeFinds: the walk. -/
import Derived.Test.YtfflkpggmhlfpaaDoorUr
import Derived.Test.YtfflkpggmhlfpaaDoorUq
namespace Go.Proofs.YtfflkpggmhlfpaaDoor
open Go.RowKit
set_option maxRecDepth 100000
theorem shL_lev : ∀ (h k : Nat) (n : Nd), Lev h n → Lev k n → shL h n = shL k n
  | 0, _, _, h, _ => h.elim
  | _ + 1, 0, _, _, h => h.elim
  | h + 1, k + 1, n, h1, h2 => by
    unfold shL
    congr 1
    rw [Bool.eq_iff_iff, List.all_eq_true, List.all_eq_true]
    exact ⟨fun hh m hm => by rw [← shL_lev h k m (h1 m hm) (h2 m hm)]; exact hh m hm, fun hh m hm => by rw [shL_lev h k m (h1 m hm) (h2 m hm)]; exact hh m hm⟩
structure Wt (w : World) (p3 p4 p7 p9 : Nat) (A : Nd) (aA : Option Addr) (cA : Nat) (B : Nd) (aB : Option Addr) (cB : Nat) (M : Nd) (a7 : Option Addr) (c7 : Nat) (a9 : Option Addr) (c9 : Nat) (f : Bool) (hy : Nat) (W : World) : Prop where
  a : At W p3 24 (A.cells aA cA)
  c : At W p4 24 (B.cells aB cB)
  x : At W p7 24 (M.cells a7 c7)
  y : At W p9 24 (M.cells a9 c9)
  ta : Has any_ W 17 A aA
  tb : Has any_ W 17 B aB
  tx : f = true → Has any_ W 17 M a7
  ty : f = true → Has any_ W hy M a9
  g : Glob W
  b : Below w.heap.size w W
theorem Wt.below {w : World} {p3 p4 p7 p9 : Nat} {A : Nd} {aA : Option Addr} {cA : Nat} {B : Nd} {aB : Option Addr} {cB : Nat} {M : Nd} {a7 : Option Addr} {c7 : Nat} {a9 : Option Addr} {c9 : Nat} {f : Bool} {hy : Nat} {W W' : World} (h : Wt w p3 p4 p7 p9 A aA cA B aB cB M a7 c7 a9 c9 f hy W) (b : Below W.heap.size W W') : Wt w p3 p4 p7 p9 A aA cA B aB cB M a7 c7 a9 c9 f hy W' :=
  ⟨h.a.below b h.a.lt, h.c.below b h.c.lt, h.x.below b h.x.lt, h.y.below b h.y.lt, h.ta.below b, h.tb.below b, fun e => (h.tx e).below b, fun e => (h.ty e).below b, h.g.below b, h.b.trans (b.mono h.b.size)⟩
theorem eql_bool_op {o : Oper} {a : Act} {w : World} (x y : Operand) (ho : o.op = .binOp .eql 4 x y 4) (b : Bool) (hx : a.eval x = .bool b) (hy : a.eval y = .bool b) : (execOp a.eval o).run Tryd.prog w = .ok (.value (.bool true)) w := by
  unfold execOp
  simp only [ho, hx, hy]
  simp [go_sem]
theorem enter_works : ∀ (args : Array Value) (w : World), (callFunc 12 args).run Tryd.prog w = .ok (.enter 12 args) w := enters_of Tryd.func12 (by kernel_rfl) rfl
set_option maxHeartbeats 40000000 in
theorem tfinds_any (h : Nat) (n : Nd) (ao : Option Addr) (cap : Nat) (h' : Nat) (n' : Nd) (ao' : Option Addr) (cap' : Nat) (s : List UInt8) (w : World) (hH : Has any_ w h n ao) (hH' : Has any_ w h' n' ao') (lsn : s.length ≤ maxLen) (hg : Glob w) :
    Calls Tryd.prog 3 #[n.v ao cap, n'.v ao' cap', .string (bs s)] w fun e w' => e = .returned (.bool true) ∧ Below w.heap.size w w' := by
  have HH := Lib.hid hH
  have HH' := Lib.hid hH'
  have HG := Lib.hid hg
  unfold maxLen at lsn
  clear hH hH' hg
  have e1 : (if (300 : Int) < (s.length : Int) then (300 : Int) else (s.length : Int)) = ((min s.length 300 : Nat) : Int) := by split <;> omega
  obtain ⟨x, hx⟩ : ∃ x, x = s.take 300 := ⟨_, rfl⟩
  have lx : x.length ≤ 300 := by rw [hx, List.length_take]; omega
  have t1 : s.take (min s.length 300) = x := by rw [hx, List.take_eq_take_iff]; omega
  have E1 := Lib.hid e1
  have T1 := Lib.hid t1
  clear e1 t1 hx
  go_enter Tryd.func3, Tryd.ntmps3
  go_wp2_with (first
    | (with_reducible refine box_any rfl 24 (.tmp 0) rfl (n.cells ao cap) rfl ?_; intro u hu bu zu; have HU := Lib.hid hu; have BU := Lib.hid bu; clear hu bu)
    | (with_reducible refine box_any rfl 24 (.tmp 1) rfl (n'.cells ao' cap') rfl ?_; intro u2 hu2 bu2 zu2; rw [zu] at hu2; have HV2 := Lib.hid hu2; have HU2 := Lib.hid (HU.out.below bu2 HU.out.lt); have BU2 := Lib.hid (BU.out.trans (bu2.mono (by omega))); clear hu2 bu2)
    | (refine load_any rfl 24 (.tmp 3) rfl ⟨w.heap.size, 0, none⟩ rfl (n.cells ao cap) _ (fun j v hj => by rw [Addr.add0]; exact HU2.out.cell j v hj) Tryd.underlying24 rfl info_nd ?_))
  refine (small_any h n ao cap u2 (HH.out.below BU2.out)).mono ?_
  rintro e w3 ⟨b3, aA, cA, rfl, hA⟩
  obtain ⟨A, hAA⟩ : ∃ A, A = smallL n := ⟨_, rfl⟩
  rw [← hAA] at hA ⊢
  have HCA := Lib.hid (show ∀ k, Cut k A by rw [hAA]; exact fun k => small_cut k n)
  have HU3 := Lib.hid (HU2.out.below b3 HU2.out.lt)
  have HV3 := Lib.hid (HV2.out.below b3 HV2.out.lt)
  have B3 := Lib.hid (BU2.out.trans (b3.mono BU2.out.size))
  have HA3 := Lib.hid hA
  clear b3 hA hAA HU HU2 HV2 BU BU2
  go_wp2_with (first
    | (refine store_any rfl 24 (.tmp 3) (.tmp 12) rfl w.heap.size rfl (A.cells aA cA) rfl _ HU3.out rfl info_nd (nd_one A aA cA) ?_
       intro w4 hu4 tu4
       have A4 := Lib.hid hu4
       have HV4 := Lib.hid (HV3.out.touch tu4 (by simp))
       have B4 := Lib.hid (tu4.below B3.out (by simp) (Nat.le_refl _))
       have HA4 := Lib.hid (Has.kept (S' := fun i => u2.heap.size ≤ i) (fun _ h _ => h) (fun i (hi : u2.heap.size ≤ i) hl => tu4.block i hl (by simp; omega)) 17 A aA HA3.out)
       clear hu4 tu4)
    | (refine load_any rfl 24 (.tmp 4) rfl ⟨(w.heap.size + 1), 0, none⟩ rfl (n'.cells ao' cap') _ (fun j v hj => by rw [Addr.add0]; exact HV4.out.cell j v hj) Tryd.underlying24 rfl info_nd ?_))
  refine (small_any h' n' ao' cap' w4 (HH'.out.below B4.out)).mono ?_
  rintro e w5 ⟨b5, aB, cB, rfl, hB⟩
  obtain ⟨B, hBB⟩ : ∃ B, B = smallL n' := ⟨_, rfl⟩
  rw [← hBB] at hB ⊢
  have A5 := Lib.hid (A4.out.below b5 A4.out.lt)
  have HV5 := Lib.hid (HV4.out.below b5 HV4.out.lt)
  have B5 := Lib.hid (B4.out.trans (b5.mono B4.out.size))
  have HA5 := Lib.hid (HA4.out.below b5)
  have HB5 := Lib.hid hB
  have hz4 := HV4.out.lt
  clear b5 hB hBB A4 HV4 HA4 B4 HU3 HV3 B3 HA3
  go_wp2_with (first
    | (refine store_any rfl 24 (.tmp 4) (.tmp 14) rfl (w.heap.size + 1) rfl (B.cells aB cB) rfl _ HV5.out rfl info_nd (nd_one B aB cB) ?_
       intro w6 hu6 tu6
       have C6 := Lib.hid hu6
       have A6 := Lib.hid (A5.out.touch tu6 (by simp))
       have B6 := Lib.hid (tu6.below B5.out (by simp) (Nat.le_refl _))
       have HA6 := Lib.hid (Has.kept (S' := any_) (fun _ _ _ => trivial) (fun i (hi : u2.heap.size ≤ i) hl => tu6.block i hl (by simp; omega)) 17 A aA HA5.out)
       have HB6 := Lib.hid (Has.kept (S' := any_) (fun _ _ _ => trivial) (fun i (hi : w4.heap.size ≤ i) hl => tu6.block i hl (by simp; omega)) 17 B aB HB5.out)
       have G6 := Lib.hid (HG.out.below B6.out)
       clear hu6 tu6)
    | (with_reducible refine list_val rfl (run_min_op (.tmp 17) (.const (.int .i64 300)) rfl (s.length : Int) 300 _ rfl rfl E1.out) ?_)
    | (with_reducible refine list_val rfl (run_hi_op (.tmp 15) (.tmp 18) rfl s (min s.length 300) (by omega) rfl rfl) ?_; rw [T1.out])
    | (refine load_any rfl 24 (.tmp 3) rfl ⟨w.heap.size, 0, none⟩ rfl (A.cells aA cA) _ (fun j v hj => by rw [Addr.add0]; exact A6.out.cell j v hj) Tryd.underlying24 rfl info_nd ?_))
  obtain ⟨M, hM⟩ : ∃ M, gv (findL A x) = M := ⟨_, rfl⟩
  obtain ⟨f, hf⟩ : ∃ f, (findL A x).isSome = f := ⟨_, rfl⟩
  have HM := Lib.hid hM
  have HF := Lib.hid hf
  clear hM hf
  refine (find_r 16 (by omega) A aA cA w6 HA6.out G6.out HCA.out x (by omega) M f HM.out HF.out).mono ?_
  rintro e w7 ⟨b7, a7, c7, rfl, k7⟩
  have A7 := Lib.hid (A6.out.below b7 A6.out.lt)
  have C7 := Lib.hid (C6.out.below b7 C6.out.lt)
  have HA7 := Lib.hid (HA6.out.below b7)
  have HB7 := Lib.hid (HB6.out.below b7)
  have G7 := Lib.hid (G6.out.below b7)
  have B7 := Lib.hid (B6.out.trans (b7.mono B6.out.size))
  have K7 := Lib.hid k7
  have hz6 := C6.out.lt
  have hb7 := b7.size
  clear b7 k7 A6 C6 HA6 HB6 G6 B6 A5 HV5 B5 HA5 HB5
  go_wp2_with (first
    | (with_reducible refine alloc_any rfl 24 rfl _ zero_nd ?_; intro u8 hu8 bu8 zu8; have HR8 := Lib.hid hu8; have BU8 := Lib.hid bu8; clear hu8 bu8 zu8)
    | (refine store_any rfl 24 (.tmp 7) (.tmp 24) rfl w7.heap.size rfl (M.cells a7 c7) rfl _ HR8.out rfl info_nd (nd_one M a7 c7) ?_
       intro w8 hu8 tu8
       have X8 := Lib.hid hu8
       have BB8 := Lib.hid (tu8.below BU8.out (by simp) (Nat.le_refl _))
       have A8 := Lib.hid (A7.out.below BB8.out A7.out.lt)
       have C8 := Lib.hid (C7.out.below BB8.out C7.out.lt)
       have HA8 := Lib.hid (HA7.out.below BB8.out)
       have HB8 := Lib.hid (HB7.out.below BB8.out)
       have G8 := Lib.hid (G7.out.below BB8.out)
       have B8 := Lib.hid (B7.out.trans (BB8.out.mono B7.out.size))
       have K8 := Lib.hid (fun e => (K7.out e).below BB8.out)
       clear hu8 tu8)
    | (refine load_any rfl 24 (.tmp 3) rfl ⟨w.heap.size, 0, none⟩ rfl (A.cells aA cA) _ (fun j v hj => by rw [Addr.add0]; exact A8.out.cell j v hj) Tryd.underlying24 rfl info_nd ?_))
  clear BU8 HR8 BB8 A7 C7 HA7 HB7 G7 B7 K7
  refine (rfind_any 17 A aA cA x w8 HA8.out (by omega)).mono ?_
  rintro e w9 ⟨b9, a9, c9, rfl, k9⟩
  rw [HM.out, HF.out] at k9 ⊢
  obtain ⟨hy, hhy⟩ : ∃ hy, f = true → Has any_ w9 hy M a9 := by
    cases f with
    | false => exact ⟨0, fun h => by cases h⟩
    | true => obtain ⟨q, hq⟩ := k9 rfl; exact ⟨q, fun _ => hq⟩
  have A9 := Lib.hid (A8.out.below b9 A8.out.lt)
  have C9 := Lib.hid (C8.out.below b9 C8.out.lt)
  have X9 := Lib.hid (X8.out.below b9 X8.out.lt)
  have HA9 := Lib.hid (HA8.out.below b9)
  have HB9 := Lib.hid (HB8.out.below b9)
  have G9 := Lib.hid (G8.out.below b9)
  have B9 := Lib.hid (B8.out.trans (b9.mono B8.out.size))
  have K9 := Lib.hid (fun e => (K8.out e).below b9)
  have Q9 := Lib.hid hhy
  obtain ⟨p7, hp7⟩ : ∃ p7, p7 = w7.heap.size := ⟨_, rfl⟩
  rw [← hp7] at X9 ⊢
  clear b9 k9 hhy hp7 A8 C8 X8 HA8 HB8 G8 B8 K8
  go_wp2_with (first
    | (with_reducible refine alloc_any rfl 24 rfl _ zero_nd ?_; intro u10 hu10 bu10 zu10; have HR10 := Lib.hid hu10; have BU10 := Lib.hid bu10; clear hu10 bu10 zu10)
    | (refine store_any rfl 24 (.tmp 9) (.tmp 30) rfl w9.heap.size rfl (M.cells a9 c9) rfl _ HR10.out rfl info_nd (nd_one M a9 c9) ?_
       intro w10 hu10 tu10
       have Y10 := Lib.hid hu10
       have BB10 := Lib.hid (tu10.below BU10.out (by simp) (Nat.le_refl _))
       clear hu10 tu10))
  obtain ⟨p3, hp3⟩ : ∃ p3, p3 = w.heap.size := ⟨_, rfl⟩
  obtain ⟨p4, hp4⟩ : ∃ p4, p4 = w.heap.size + 1 := ⟨_, rfl⟩
  obtain ⟨p9, hp9⟩ : ∃ p9, p9 = w9.heap.size := ⟨_, rfl⟩
  have SS := Lib.hid (Wt.mk (w := w) (p3 := p3) (p4 := p4) (p7 := p7) (p9 := p9) (A := A) (aA := aA) (cA := cA) (B := B) (aB := aB) (cB := cB) (M := M) (a7 := a7) (c7 := c7) (a9 := a9) (c9 := c9) (f := f) (hy := hy) (W := w10)
    (by rw [hp3]; exact A9.out.below BB10.out A9.out.lt) (by rw [hp4]; exact C9.out.below BB10.out C9.out.lt) (X9.out.below BB10.out X9.out.lt) (by rw [hp9]; exact Y10.out) (HA9.out.below BB10.out) (HB9.out.below BB10.out) (fun e => (K9.out e).below BB10.out) (fun e => (Q9.out e).below BB10.out) (G9.out.below BB10.out) (B9.out.trans (BB10.out.mono B9.out.size)))
  clear A9 C9 X9 HA9 HB9 G9 B9 K9 Q9 Y10 BB10 BU10 HR10
  rw [← hp4, ← hp3, ← hp9]
  clear hp3 hp4 hp9

  cases f with
  | false =>
    obtain rfl : M = zeroN := by
      have h1 := HM.out
      have h2 := HF.out
      cases ho : findL A x with
      | none => rw [ho] at h1; exact h1.symm
      | some m => rw [ho] at h2; cases h2
    have S0 : Wt w p3 p4 p7 p9 A aA cA B aB cB zeroN a7 c7 a9 c9 false hy w10.drew := Wt.below SS.out ((Below.refl _ w10).drew)
    clear SS
    refine region_any (Wt w p3 p4 p7 p9 A aA cA B aB cB zeroN a7 c7 a9 c9 false hy) 59 (by kernel_rfl) ?_
    show wpAnyT _ _ _ _ _ _ _ _ _ w10.drew
    generalize w10.drew = v0 at S0 ⊢
    refine wpAnyT_takeN (i := 0) (v := A.v aA cA) rfl (by decide) (by kernel_rfl) (by kernel_rfl) (by kernel_rfl) (fun _ _ _ h => h) (.inl ⟨by kernel_rfl, fun W hS => run_load_at (.tmp 3) rfl p3 (by kernel_rfl) A aA cA hS.a⟩) S0 ?_
    refine wpAnyT_takeN (i := 1) (v := B.v aB cB) rfl (by decide) (by kernel_rfl) (by kernel_rfl) (by kernel_rfl) (fun _ _ _ h => h) (.inl ⟨by kernel_rfl, fun W hS => run_load_at (.tmp 4) rfl p4 (by kernel_rfl) B aB cB hS.c⟩) S0 ?_
    refine wpAnyT_takeN (i := 3) (v := A.v aA cA) rfl (by decide) (by kernel_rfl) (by kernel_rfl) (by kernel_rfl) (fun _ _ _ h => h) (.inl ⟨by kernel_rfl, fun W hS => run_load_at (.tmp 3) rfl p3 (by kernel_rfl) A aA cA hS.a⟩) S0 ?_
    refine wpAnyT_takeN (i := 4) (v := B.v aB cB) rfl (by decide) (by kernel_rfl) (by kernel_rfl) (by kernel_rfl) (fun _ _ _ h => h) (.inl ⟨by kernel_rfl, fun W hS => run_load_at (.tmp 4) rfl p4 (by kernel_rfl) B aB cB hS.c⟩) S0 ?_
    refine wpAnyT_call (i := 2) (by kernel_rfl) rfl (by kernel_rfl) 10 #[A.v aA cA, B.v aB cB] (run_call_func rfl enter_same _ (by kernel_rfl)) ((same_wrap 17 17 A B aA aB cA cB v0 (by omega) S0.ta S0.tb).mono ?_)
    rintro e v1 ⟨rfl, bb1⟩
    have S1 := Wt.below S0 bb1
    refine ⟨_, rfl, S1, ?_⟩
    refine wpAnyT_call (i := 5) (by kernel_rfl) rfl (by kernel_rfl) 11 #[A.v aA cA, B.v aB cB] (run_call_func rfl enter_rsame _ (by kernel_rfl)) ((rsame_any 17 17 A B aA aB cA cB v1 S1.ta S1.tb).mono ?_)
    rintro e v2 ⟨rfl, bb2⟩
    have S2 := Wt.below S1 bb2
    refine ⟨_, rfl, S2, ?_⟩
    refine wpAnyT_takeN (i := 6) (v := .bool true) rfl (by decide) (by kernel_rfl) (by kernel_rfl) (by kernel_rfl) (fun _ _ _ h => h) (.inl ⟨by kernel_rfl, fun W hS => eql_bool_op (.tmp 34) (.tmp 37) rfl (sameL 17 A B) (by kernel_rfl) (by kernel_rfl)⟩) S2 ?_
    refine wpAnyT_takeN (i := 7) (v := .bool true) rfl (by decide) (by kernel_rfl) (by kernel_rfl) (by kernel_rfl) (fun _ _ _ h => h) (.inl ⟨by kernel_rfl, fun W hS => by kernel_rfl⟩) S2 ?_
    refine wpAnyT_takeN (i := 8) (v := A.v aA cA) rfl (by decide) (by kernel_rfl) (by kernel_rfl) (by kernel_rfl) (fun _ _ _ h => h) (.inl ⟨by kernel_rfl, fun W hS => run_load_at (.tmp 3) rfl p3 (by kernel_rfl) A aA cA hS.a⟩) S2 ?_
    refine wpAnyT_takeN (i := 9) (v := A.v aA cA) rfl (by decide) (by kernel_rfl) (by kernel_rfl) (by kernel_rfl) (fun _ _ _ h => h) (.inl ⟨by kernel_rfl, fun W hS => run_load_at (.tmp 3) rfl p3 (by kernel_rfl) A aA cA hS.a⟩) S2 ?_
    refine wpAnyT_takeN (i := 11) (v := A.v aA cA) rfl (by decide) (by kernel_rfl) (by kernel_rfl) (by kernel_rfl) (fun _ _ _ h => h) (.inl ⟨by kernel_rfl, fun W hS => run_load_at (.tmp 3) rfl p3 (by kernel_rfl) A aA cA hS.a⟩) S2 ?_
    refine wpAnyT_takeN (i := 12) (v := A.v aA cA) rfl (by decide) (by kernel_rfl) (by kernel_rfl) (by kernel_rfl) (fun _ _ _ h => h) (.inl ⟨by kernel_rfl, fun W hS => run_load_at (.tmp 3) rfl p3 (by kernel_rfl) A aA cA hS.a⟩) S2 ?_
    refine wpAnyT_call (i := 10) (by kernel_rfl) rfl (by kernel_rfl) 10 #[A.v aA cA, A.v aA cA] (run_call_func rfl enter_same _ (by kernel_rfl)) ((same_wrap 17 17 A A aA aA cA cA v2 (by omega) S2.ta S2.ta).mono ?_)
    rintro e v3 ⟨rfl, bb3⟩
    have S3 := Wt.below S2 bb3
    refine ⟨_, rfl, S3, ?_⟩
    refine wpAnyT_call (i := 13) (by kernel_rfl) rfl (by kernel_rfl) 11 #[A.v aA cA, A.v aA cA] (run_call_func rfl enter_rsame _ (by kernel_rfl)) ((rsame_any 17 17 A A aA aA cA cA v3 S3.ta S3.ta).mono ?_)
    rintro e v4 ⟨rfl, bb4⟩
    have S4 := Wt.below S3 bb4
    refine ⟨_, rfl, S4, ?_⟩
    refine wpAnyT_takeN (i := 14) (v := .bool true) rfl (by decide) (by kernel_rfl) (by kernel_rfl) (by kernel_rfl) (fun _ _ _ h => h) (.inl ⟨by kernel_rfl, fun W hS => eql_bool_op (.tmp 42) (.tmp 45) rfl (sameL 17 A A) (by kernel_rfl) (by kernel_rfl)⟩) S4 ?_
    refine wpAnyT_takeN (i := 15) (v := .bool true) rfl (by decide) (by kernel_rfl) (by kernel_rfl) (by kernel_rfl) (fun _ _ _ h => h) (.inl ⟨by kernel_rfl, fun W hS => by kernel_rfl⟩) S4 ?_
    refine wpAnyT_takeN (i := 16) (v := .bool true) rfl (by decide) (by kernel_rfl) (by kernel_rfl) (by kernel_rfl) (fun _ _ _ h => h) (.inl ⟨by kernel_rfl, fun W hS => by kernel_rfl⟩) S4 ?_
    refine wpAnyT_takeN (i := 17) (v := .bool false) rfl (by decide) (by kernel_rfl) (by kernel_rfl) (by kernel_rfl) (fun _ _ _ h => h) (.inl ⟨by kernel_rfl, fun W hS => by kernel_rfl⟩) S4 ?_
    refine wpAnyT_takeN (i := 18) (v := .bool false) rfl (by decide) (by kernel_rfl) (by kernel_rfl) (by kernel_rfl) (fun _ _ _ h => h) (.inl ⟨by kernel_rfl, fun W hS => by kernel_rfl⟩) S4 ?_
    refine wpAnyT_takeN (i := 19) (v := .bool true) rfl (by decide) (by kernel_rfl) (by kernel_rfl) (by kernel_rfl) (fun _ _ _ h => h) (.inl ⟨by kernel_rfl, fun W hS => by kernel_rfl⟩) S4 ?_
    refine wpAnyT_takeN (i := 20) (v := .bool true) rfl (by decide) (by kernel_rfl) (by kernel_rfl) (by kernel_rfl) (fun _ _ _ h => h) (.inl ⟨by kernel_rfl, fun W hS => by kernel_rfl⟩) S4 ?_
    refine wpAnyT_takeN (i := 21) (v := .bool true) rfl (by decide) (by kernel_rfl) (by kernel_rfl) (by kernel_rfl) (fun _ _ _ h => h) (.inl ⟨by kernel_rfl, fun W hS => by kernel_rfl⟩) S4 ?_
    refine wpAnyT_takeN (i := 22) (v := .bool false) rfl (by decide) (by kernel_rfl) (by kernel_rfl) (by kernel_rfl) (fun _ _ _ h => h) (.inl ⟨by kernel_rfl, fun W hS => by kernel_rfl⟩) S4 ?_
    refine wpAnyT_takeN (i := 23) (v := .bool true) rfl (by decide) (by kernel_rfl) (by kernel_rfl) (by kernel_rfl) (fun _ _ _ h => h) (.inl ⟨by kernel_rfl, fun W hS => by kernel_rfl⟩) S4 ?_
    refine wpAnyT_takeN (i := 24) (v := .bool true) rfl (by decide) (by kernel_rfl) (by kernel_rfl) (by kernel_rfl) (fun _ _ _ h => h) (.inl ⟨by kernel_rfl, fun W hS => by kernel_rfl⟩) S4 ?_
    refine wpAnyT_takeN (i := 25) (v := .pointer (some ⟨p7, 0, none⟩)) rfl (by decide) (by kernel_rfl) (by kernel_rfl) (by kernel_rfl) (fun _ _ _ h => h) (.inl ⟨by kernel_rfl, fun W hS => by kernel_rfl⟩) S4 ?_
    refine wpAnyT_takeN (i := 26) (v := .string (bs [])) rfl (by decide) (by kernel_rfl) (by kernel_rfl) (by kernel_rfl) (fun _ _ _ h => h) (.inl ⟨by kernel_rfl, fun W hS => run_load_one 9 (.tmp 57) rfl ⟨p7, 0, none⟩ (by kernel_rfl) _ (hS.x.cell 0 _ rfl) _ Tryd.underlying9 rfl⟩) S4 ?_
    refine wpAnyT_takeN (i := 27) (v := .bool true) rfl (by decide) (by kernel_rfl) (by kernel_rfl) (by kernel_rfl) (fun _ _ _ h => h) (.inl ⟨by kernel_rfl, fun W hS => eql_str_op (.tmp 58) (.const (.string ⟨#[]⟩)) rfl [] [] (by kernel_rfl) rfl⟩) S4 ?_
    refine wpAnyT_takeN (i := 28) (v := .bool true) rfl (by decide) (by kernel_rfl) (by kernel_rfl) (by kernel_rfl) (fun _ _ _ h => h) (.inl ⟨by kernel_rfl, fun W hS => by kernel_rfl⟩) S4 ?_
    refine wpAnyT_takeN (i := 29) (v := .bool true) rfl (by decide) (by kernel_rfl) (by kernel_rfl) (by kernel_rfl) (fun _ _ _ h => h) (.inl ⟨by kernel_rfl, fun W hS => by kernel_rfl⟩) S4 ?_
    refine wpAnyT_takeN (i := 30) (v := .pointer (some ⟨p7, 1, none⟩)) rfl (by decide) (by kernel_rfl) (by kernel_rfl) (by kernel_rfl) (fun _ _ _ h => h) (.inl ⟨by kernel_rfl, fun W hS => by kernel_rfl⟩) S4 ?_
    refine wpAnyT_takeN (i := 31) (v := .int .i64 0) rfl (by decide) (by kernel_rfl) (by kernel_rfl) (by kernel_rfl) (fun _ _ _ h => h) (.inl ⟨by kernel_rfl, fun W hS => run_load_one 3 (.tmp 62) rfl ⟨p7, 1, none⟩ (by kernel_rfl) _ (hS.x.cell 1 _ rfl) _ Tryd.underlying3 rfl⟩) S4 ?_
    refine wpAnyT_takeN (i := 32) (v := .bool true) rfl (by decide) (by kernel_rfl) (by kernel_rfl) (by kernel_rfl) (fun _ _ _ h => h) (.inl ⟨by kernel_rfl, fun W hS => by kernel_rfl⟩) S4 ?_
    refine wpAnyT_takeN (i := 33) (v := .bool true) rfl (by decide) (by kernel_rfl) (by kernel_rfl) (by kernel_rfl) (fun _ _ _ h => h) (.inl ⟨by kernel_rfl, fun W hS => by kernel_rfl⟩) S4 ?_
    refine wpAnyT_takeN (i := 34) (v := .bool true) rfl (by decide) (by kernel_rfl) (by kernel_rfl) (by kernel_rfl) (fun _ _ _ h => h) (.inl ⟨by kernel_rfl, fun W hS => by kernel_rfl⟩) S4 ?_
    refine wpAnyT_takeN (i := 35) (v := .pointer (some ⟨p7, 4, none⟩)) rfl (by decide) (by kernel_rfl) (by kernel_rfl) (by kernel_rfl) (fun _ _ _ h => h) (.inl ⟨by kernel_rfl, fun W hS => by kernel_rfl⟩) S4 ?_
    refine wpAnyT_takeN (i := 36) (v := .slice a7 0 c7) rfl (by decide) (by kernel_rfl) (by kernel_rfl) (by kernel_rfl) (fun _ _ _ h => h) (.inl ⟨by kernel_rfl, fun W hS => run_load_one 22 (.tmp 67) rfl ⟨p7, 4, none⟩ (by kernel_rfl) _ (hS.x.cell 4 _ rfl) _ Tryd.underlying22 rfl⟩) S4 ?_
    refine wpAnyT_takeN (i := 37) (v := .int .i64 0) rfl (by decide) (by kernel_rfl) (by kernel_rfl) (by kernel_rfl) (fun _ _ _ h => h) (.inl ⟨by kernel_rfl, fun W hS => by kernel_rfl⟩) S4 ?_
    refine wpAnyT_takeN (i := 38) (v := .bool true) rfl (by decide) (by kernel_rfl) (by kernel_rfl) (by kernel_rfl) (fun _ _ _ h => h) (.inl ⟨by kernel_rfl, fun W hS => by kernel_rfl⟩) S4 ?_
    refine wpAnyT_takeN (i := 39) (v := .bool true) rfl (by decide) (by kernel_rfl) (by kernel_rfl) (by kernel_rfl) (fun _ _ _ h => h) (.inl ⟨by kernel_rfl, fun W hS => by kernel_rfl⟩) S4 ?_
    refine wpAnyT_takeN (i := 40) (v := .bool true) rfl (by decide) (by kernel_rfl) (by kernel_rfl) (by kernel_rfl) (fun _ _ _ h => h) (.inl ⟨by kernel_rfl, fun W hS => by kernel_rfl⟩) S4 ?_
    refine wpAnyT_takeN (i := 41) (v := undef) rfl (by decide) (by kernel_rfl) (by kernel_rfl) (by kernel_rfl) (fun _ _ _ h => h) (.inr ⟨by kernel_rfl, rfl⟩) S4 ?_
    refine wpAnyT_takeN (i := 42) (v := undef) rfl (by decide) (by kernel_rfl) (by kernel_rfl) (by kernel_rfl) (fun _ _ _ h => h) (.inr ⟨by kernel_rfl, rfl⟩) S4 ?_
    refine wpAnyT_takeN (i := 43) (v := undef) rfl (by decide) (by kernel_rfl) (by kernel_rfl) (by kernel_rfl) (fun _ _ _ h => h) (.inr ⟨by kernel_rfl, rfl⟩) S4 ?_
    refine wpAnyT_takeN (i := 44) (v := undef) rfl (by decide) (by kernel_rfl) (by kernel_rfl) (by kernel_rfl) (fun _ _ _ h => h) (.inr ⟨by kernel_rfl, rfl⟩) S4 ?_
    refine wpAnyT_takeN (i := 45) (v := undef) rfl (by decide) (by kernel_rfl) (by kernel_rfl) (by kernel_rfl) (fun _ _ _ h => h) (.inr ⟨by kernel_rfl, rfl⟩) S4 ?_
    refine wpAnyT_takeN (i := 46) (v := undef) rfl (by decide) (by kernel_rfl) (by kernel_rfl) (by kernel_rfl) (fun _ _ _ h => h) (.inr ⟨by kernel_rfl, rfl⟩) S4 ?_
    refine wpAnyT_takeN (i := 47) (v := undef) rfl (by decide) (by kernel_rfl) (by kernel_rfl) (by kernel_rfl) (fun _ _ _ h => h) (.inr ⟨by kernel_rfl, rfl⟩) S4 ?_
    refine wpAnyT_takeN (i := 48) (v := undef) rfl (by decide) (by kernel_rfl) (by kernel_rfl) (by kernel_rfl) (fun _ _ _ h => h) (.inr ⟨by kernel_rfl, rfl⟩) S4 ?_
    refine wpAnyT_takeN (i := 49) (v := undef) rfl (by decide) (by kernel_rfl) (by kernel_rfl) (by kernel_rfl) (fun _ _ _ h => h) (.inr ⟨by kernel_rfl, rfl⟩) S4 ?_
    refine wpAnyT_takeN (i := 50) (v := undef) rfl (by decide) (by kernel_rfl) (by kernel_rfl) (by kernel_rfl) (fun _ _ _ h => h) (.inr ⟨by kernel_rfl, rfl⟩) S4 ?_
    refine wpAnyT_takeN (i := 51) (v := undef) rfl (by decide) (by kernel_rfl) (by kernel_rfl) (by kernel_rfl) (fun _ _ _ h => h) (.inr ⟨by kernel_rfl, rfl⟩) S4 ?_
    refine wpAnyT_takeN (i := 52) (v := undef) rfl (by decide) (by kernel_rfl) (by kernel_rfl) (by kernel_rfl) (fun _ _ _ h => h) (.inr ⟨by kernel_rfl, rfl⟩) S4 ?_
    refine wpAnyT_takeN (i := 53) (v := .bool true) rfl (by decide) (by kernel_rfl) (by kernel_rfl) (by kernel_rfl) (fun _ _ _ h => h) (.inl ⟨by kernel_rfl, fun W hS => by kernel_rfl⟩) S4 ?_
    refine wpAnyT_takeN (i := 54) (v := .bool true) rfl (by decide) (by kernel_rfl) (by kernel_rfl) (by kernel_rfl) (fun _ _ _ h => h) (.inl ⟨by kernel_rfl, fun W hS => by kernel_rfl⟩) S4 ?_
    refine wpAnyT_takeN (i := 55) (v := .bool true) rfl (by decide) (by kernel_rfl) (by kernel_rfl) (by kernel_rfl) (fun _ _ _ h => h) (.inl ⟨by kernel_rfl, fun W hS => by kernel_rfl⟩) S4 ?_
    refine wpAnyT_call (i := 56) (by kernel_rfl) rfl (by kernel_rfl) 12 #[] (run_call_func rfl enter_works _ (by kernel_rfl)) ((works_any v4 S4.g).mono ?_)
    rintro e v5 ⟨rfl, bb5⟩
    have S5 := Wt.below S4 bb5
    refine ⟨_, rfl, S5, ?_⟩
    refine wpAnyT_takeN (i := 57) (v := .bool true) rfl (by decide) (by kernel_rfl) (by kernel_rfl) (by kernel_rfl) (fun _ _ _ h => h) (.inl ⟨by kernel_rfl, fun W hS => by kernel_rfl⟩) S5 ?_
    refine wpAnyT_takeN (i := 58) (v := .bool true) rfl (by decide) (by kernel_rfl) (by kernel_rfl) (by kernel_rfl) (fun _ _ _ h => h) (.inl ⟨by kernel_rfl, fun W hS => by kernel_rfl⟩) S5 ?_
    refine wpAnyT_done (by kernel_rfl) ?_ _
    simp only [Act.put, List.getElem_toArray, List.getElem_cons_succ, List.getElem_cons_zero, List.setIfInBounds_toArray, List.set_cons_zero, List.set_cons_succ]
    have SF := Lib.hid S5.b
    go_wp2
    go_ret
    exact ⟨rfl, SF.out⟩
  | true =>
    have S0 : Wt w p3 p4 p7 p9 A aA cA B aB cB M a7 c7 a9 c9 true hy w10.drew := Wt.below SS.out ((Below.refl _ w10).drew)
    clear SS
    refine region_any (Wt w p3 p4 p7 p9 A aA cA B aB cB M a7 c7 a9 c9 true hy) 59 (by kernel_rfl) ?_
    show wpAnyT _ _ _ _ _ _ _ _ _ w10.drew
    generalize w10.drew = v0 at S0 ⊢
    refine wpAnyT_takeN (i := 0) (v := A.v aA cA) rfl (by decide) (by kernel_rfl) (by kernel_rfl) (by kernel_rfl) (fun _ _ _ h => h) (.inl ⟨by kernel_rfl, fun W hS => run_load_at (.tmp 3) rfl p3 (by kernel_rfl) A aA cA hS.a⟩) S0 ?_
    refine wpAnyT_takeN (i := 1) (v := B.v aB cB) rfl (by decide) (by kernel_rfl) (by kernel_rfl) (by kernel_rfl) (fun _ _ _ h => h) (.inl ⟨by kernel_rfl, fun W hS => run_load_at (.tmp 4) rfl p4 (by kernel_rfl) B aB cB hS.c⟩) S0 ?_
    refine wpAnyT_takeN (i := 3) (v := A.v aA cA) rfl (by decide) (by kernel_rfl) (by kernel_rfl) (by kernel_rfl) (fun _ _ _ h => h) (.inl ⟨by kernel_rfl, fun W hS => run_load_at (.tmp 3) rfl p3 (by kernel_rfl) A aA cA hS.a⟩) S0 ?_
    refine wpAnyT_takeN (i := 4) (v := B.v aB cB) rfl (by decide) (by kernel_rfl) (by kernel_rfl) (by kernel_rfl) (fun _ _ _ h => h) (.inl ⟨by kernel_rfl, fun W hS => run_load_at (.tmp 4) rfl p4 (by kernel_rfl) B aB cB hS.c⟩) S0 ?_
    refine wpAnyT_call (i := 2) (by kernel_rfl) rfl (by kernel_rfl) 10 #[A.v aA cA, B.v aB cB] (run_call_func rfl enter_same _ (by kernel_rfl)) ((same_wrap 17 17 A B aA aB cA cB v0 (by omega) S0.ta S0.tb).mono ?_)
    rintro e v1 ⟨rfl, bb1⟩
    have S1 := Wt.below S0 bb1
    refine ⟨_, rfl, S1, ?_⟩
    refine wpAnyT_call (i := 5) (by kernel_rfl) rfl (by kernel_rfl) 11 #[A.v aA cA, B.v aB cB] (run_call_func rfl enter_rsame _ (by kernel_rfl)) ((rsame_any 17 17 A B aA aB cA cB v1 S1.ta S1.tb).mono ?_)
    rintro e v2 ⟨rfl, bb2⟩
    have S2 := Wt.below S1 bb2
    refine ⟨_, rfl, S2, ?_⟩
    refine wpAnyT_takeN (i := 6) (v := .bool true) rfl (by decide) (by kernel_rfl) (by kernel_rfl) (by kernel_rfl) (fun _ _ _ h => h) (.inl ⟨by kernel_rfl, fun W hS => eql_bool_op (.tmp 34) (.tmp 37) rfl (sameL 17 A B) (by kernel_rfl) (by kernel_rfl)⟩) S2 ?_
    refine wpAnyT_takeN (i := 7) (v := .bool true) rfl (by decide) (by kernel_rfl) (by kernel_rfl) (by kernel_rfl) (fun _ _ _ h => h) (.inl ⟨by kernel_rfl, fun W hS => by kernel_rfl⟩) S2 ?_
    refine wpAnyT_takeN (i := 8) (v := A.v aA cA) rfl (by decide) (by kernel_rfl) (by kernel_rfl) (by kernel_rfl) (fun _ _ _ h => h) (.inl ⟨by kernel_rfl, fun W hS => run_load_at (.tmp 3) rfl p3 (by kernel_rfl) A aA cA hS.a⟩) S2 ?_
    refine wpAnyT_takeN (i := 9) (v := A.v aA cA) rfl (by decide) (by kernel_rfl) (by kernel_rfl) (by kernel_rfl) (fun _ _ _ h => h) (.inl ⟨by kernel_rfl, fun W hS => run_load_at (.tmp 3) rfl p3 (by kernel_rfl) A aA cA hS.a⟩) S2 ?_
    refine wpAnyT_takeN (i := 11) (v := A.v aA cA) rfl (by decide) (by kernel_rfl) (by kernel_rfl) (by kernel_rfl) (fun _ _ _ h => h) (.inl ⟨by kernel_rfl, fun W hS => run_load_at (.tmp 3) rfl p3 (by kernel_rfl) A aA cA hS.a⟩) S2 ?_
    refine wpAnyT_takeN (i := 12) (v := A.v aA cA) rfl (by decide) (by kernel_rfl) (by kernel_rfl) (by kernel_rfl) (fun _ _ _ h => h) (.inl ⟨by kernel_rfl, fun W hS => run_load_at (.tmp 3) rfl p3 (by kernel_rfl) A aA cA hS.a⟩) S2 ?_
    refine wpAnyT_call (i := 10) (by kernel_rfl) rfl (by kernel_rfl) 10 #[A.v aA cA, A.v aA cA] (run_call_func rfl enter_same _ (by kernel_rfl)) ((same_wrap 17 17 A A aA aA cA cA v2 (by omega) S2.ta S2.ta).mono ?_)
    rintro e v3 ⟨rfl, bb3⟩
    have S3 := Wt.below S2 bb3
    refine ⟨_, rfl, S3, ?_⟩
    refine wpAnyT_call (i := 13) (by kernel_rfl) rfl (by kernel_rfl) 11 #[A.v aA cA, A.v aA cA] (run_call_func rfl enter_rsame _ (by kernel_rfl)) ((rsame_any 17 17 A A aA aA cA cA v3 S3.ta S3.ta).mono ?_)
    rintro e v4 ⟨rfl, bb4⟩
    have S4 := Wt.below S3 bb4
    refine ⟨_, rfl, S4, ?_⟩
    refine wpAnyT_takeN (i := 14) (v := .bool true) rfl (by decide) (by kernel_rfl) (by kernel_rfl) (by kernel_rfl) (fun _ _ _ h => h) (.inl ⟨by kernel_rfl, fun W hS => eql_bool_op (.tmp 42) (.tmp 45) rfl (sameL 17 A A) (by kernel_rfl) (by kernel_rfl)⟩) S4 ?_
    refine wpAnyT_takeN (i := 15) (v := .bool true) rfl (by decide) (by kernel_rfl) (by kernel_rfl) (by kernel_rfl) (fun _ _ _ h => h) (.inl ⟨by kernel_rfl, fun W hS => by kernel_rfl⟩) S4 ?_
    refine wpAnyT_takeN (i := 16) (v := .bool true) rfl (by decide) (by kernel_rfl) (by kernel_rfl) (by kernel_rfl) (fun _ _ _ h => h) (.inl ⟨by kernel_rfl, fun W hS => by kernel_rfl⟩) S4 ?_
    refine wpAnyT_takeN (i := 17) (v := .bool true) rfl (by decide) (by kernel_rfl) (by kernel_rfl) (by kernel_rfl) (fun _ _ _ h => h) (.inl ⟨by kernel_rfl, fun W hS => by kernel_rfl⟩) S4 ?_
    refine wpAnyT_takeN (i := 18) (v := .bool true) rfl (by decide) (by kernel_rfl) (by kernel_rfl) (by kernel_rfl) (fun _ _ _ h => h) (.inl ⟨by kernel_rfl, fun W hS => by kernel_rfl⟩) S4 ?_
    refine wpAnyT_takeN (i := 19) (v := .bool true) rfl (by decide) (by kernel_rfl) (by kernel_rfl) (by kernel_rfl) (fun _ _ _ h => h) (.inl ⟨by kernel_rfl, fun W hS => by kernel_rfl⟩) S4 ?_
    refine wpAnyT_takeN (i := 20) (v := .bool true) rfl (by decide) (by kernel_rfl) (by kernel_rfl) (by kernel_rfl) (fun _ _ _ h => h) (.inl ⟨by kernel_rfl, fun W hS => by kernel_rfl⟩) S4 ?_
    refine wpAnyT_takeN (i := 21) (v := .bool true) rfl (by decide) (by kernel_rfl) (by kernel_rfl) (by kernel_rfl) (fun _ _ _ h => h) (.inl ⟨by kernel_rfl, fun W hS => by kernel_rfl⟩) S4 ?_
    refine wpAnyT_takeN (i := 22) (v := .bool true) rfl (by decide) (by kernel_rfl) (by kernel_rfl) (by kernel_rfl) (fun _ _ _ h => h) (.inl ⟨by kernel_rfl, fun W hS => by kernel_rfl⟩) S4 ?_
    refine wpAnyT_takeN (i := 23) (v := .bool false) rfl (by decide) (by kernel_rfl) (by kernel_rfl) (by kernel_rfl) (fun _ _ _ h => h) (.inl ⟨by kernel_rfl, fun W hS => by kernel_rfl⟩) S4 ?_
    refine wpAnyT_takeN (i := 24) (v := .bool false) rfl (by decide) (by kernel_rfl) (by kernel_rfl) (by kernel_rfl) (fun _ _ _ h => h) (.inl ⟨by kernel_rfl, fun W hS => by kernel_rfl⟩) S4 ?_
    refine wpAnyT_takeN (i := 25) (v := undef) rfl (by decide) (by kernel_rfl) (by kernel_rfl) (by kernel_rfl) (fun _ _ _ h => h) (.inr ⟨by kernel_rfl, rfl⟩) S4 ?_
    refine wpAnyT_takeN (i := 26) (v := undef) rfl (by decide) (by kernel_rfl) (by kernel_rfl) (by kernel_rfl) (fun _ _ _ h => h) (.inr ⟨by kernel_rfl, rfl⟩) S4 ?_
    refine wpAnyT_takeN (i := 27) (v := undef) rfl (by decide) (by kernel_rfl) (by kernel_rfl) (by kernel_rfl) (fun _ _ _ h => h) (.inr ⟨by kernel_rfl, rfl⟩) S4 ?_
    refine wpAnyT_takeN (i := 28) (v := .bool false) rfl (by decide) (by kernel_rfl) (by kernel_rfl) (by kernel_rfl) (fun _ _ _ h => h) (.inl ⟨by kernel_rfl, fun W hS => by kernel_rfl⟩) S4 ?_
    refine wpAnyT_takeN (i := 29) (v := .bool false) rfl (by decide) (by kernel_rfl) (by kernel_rfl) (by kernel_rfl) (fun _ _ _ h => h) (.inl ⟨by kernel_rfl, fun W hS => by kernel_rfl⟩) S4 ?_
    refine wpAnyT_takeN (i := 30) (v := undef) rfl (by decide) (by kernel_rfl) (by kernel_rfl) (by kernel_rfl) (fun _ _ _ h => h) (.inr ⟨by kernel_rfl, rfl⟩) S4 ?_
    refine wpAnyT_takeN (i := 31) (v := undef) rfl (by decide) (by kernel_rfl) (by kernel_rfl) (by kernel_rfl) (fun _ _ _ h => h) (.inr ⟨by kernel_rfl, rfl⟩) S4 ?_
    refine wpAnyT_takeN (i := 32) (v := undef) rfl (by decide) (by kernel_rfl) (by kernel_rfl) (by kernel_rfl) (fun _ _ _ h => h) (.inr ⟨by kernel_rfl, rfl⟩) S4 ?_
    refine wpAnyT_takeN (i := 33) (v := .bool false) rfl (by decide) (by kernel_rfl) (by kernel_rfl) (by kernel_rfl) (fun _ _ _ h => h) (.inl ⟨by kernel_rfl, fun W hS => by kernel_rfl⟩) S4 ?_
    refine wpAnyT_takeN (i := 34) (v := .bool false) rfl (by decide) (by kernel_rfl) (by kernel_rfl) (by kernel_rfl) (fun _ _ _ h => h) (.inl ⟨by kernel_rfl, fun W hS => by kernel_rfl⟩) S4 ?_
    refine wpAnyT_takeN (i := 35) (v := undef) rfl (by decide) (by kernel_rfl) (by kernel_rfl) (by kernel_rfl) (fun _ _ _ h => h) (.inr ⟨by kernel_rfl, rfl⟩) S4 ?_
    refine wpAnyT_takeN (i := 36) (v := undef) rfl (by decide) (by kernel_rfl) (by kernel_rfl) (by kernel_rfl) (fun _ _ _ h => h) (.inr ⟨by kernel_rfl, rfl⟩) S4 ?_
    refine wpAnyT_takeN (i := 37) (v := undef) rfl (by decide) (by kernel_rfl) (by kernel_rfl) (by kernel_rfl) (fun _ _ _ h => h) (.inr ⟨by kernel_rfl, rfl⟩) S4 ?_
    refine wpAnyT_takeN (i := 38) (v := undef) rfl (by decide) (by kernel_rfl) (by kernel_rfl) (by kernel_rfl) (fun _ _ _ h => h) (.inr ⟨by kernel_rfl, rfl⟩) S4 ?_
    refine wpAnyT_takeN (i := 39) (v := .bool false) rfl (by decide) (by kernel_rfl) (by kernel_rfl) (by kernel_rfl) (fun _ _ _ h => h) (.inl ⟨by kernel_rfl, fun W hS => by kernel_rfl⟩) S4 ?_
    refine wpAnyT_takeN (i := 40) (v := .bool false) rfl (by decide) (by kernel_rfl) (by kernel_rfl) (by kernel_rfl) (fun _ _ _ h => h) (.inl ⟨by kernel_rfl, fun W hS => by kernel_rfl⟩) S4 ?_
    refine wpAnyT_takeN (i := 41) (v := .bool true) rfl (by decide) (by kernel_rfl) (by kernel_rfl) (by kernel_rfl) (fun _ _ _ h => h) (.inl ⟨by kernel_rfl, fun W hS => by kernel_rfl⟩) S4 ?_
    refine wpAnyT_takeN (i := 42) (v := .bool true) rfl (by decide) (by kernel_rfl) (by kernel_rfl) (by kernel_rfl) (fun _ _ _ h => h) (.inl ⟨by kernel_rfl, fun W hS => by kernel_rfl⟩) S4 ?_
    refine wpAnyT_takeN (i := 43) (v := M.v a7 c7) rfl (by decide) (by kernel_rfl) (by kernel_rfl) (by kernel_rfl) (fun _ _ _ h => h) (.inl ⟨by kernel_rfl, fun W hS => run_load_at (.tmp 7) rfl p7 (by kernel_rfl) M a7 c7 hS.x⟩) S4 ?_
    refine wpAnyT_takeN (i := 44) (v := M.v a9 c9) rfl (by decide) (by kernel_rfl) (by kernel_rfl) (by kernel_rfl) (fun _ _ _ h => h) (.inl ⟨by kernel_rfl, fun W hS => run_load_at (.tmp 9) rfl p9 (by kernel_rfl) M a9 c9 hS.y⟩) S4 ?_
    refine wpAnyT_call (i := 45) (by kernel_rfl) rfl (by kernel_rfl) 11 #[M.v a7 c7, M.v a9 c9] (run_call_func rfl enter_rsame _ (by kernel_rfl)) ((rsame_any 17 hy M M a7 a9 c7 c9 v4 (S4.tx rfl) (S4.ty rfl)).mono ?_)
    rintro e v5 ⟨rfl, bb5⟩
    have S5 := Wt.below S4 bb5
    refine ⟨_, rfl, S5, ?_⟩
    have hlev : sameL hy M M = sameL 17 M M := by rw [sameL_self, sameL_self]; exact shL_lev hy 17 M (Has.lev _ _ _ (S5.ty rfl)) (Has.lev _ _ _ (S5.tx rfl))
    cases hq : sameL 17 M M with
    | true =>
      refine wpAnyT_takeN (i := 46) (v := .bool true) rfl (by decide) (by kernel_rfl) (by kernel_rfl) (by kernel_rfl) (fun _ _ _ h => h) (.inl ⟨by kernel_rfl, fun W hS => by kernel_rfl⟩) S5 ?_
      refine wpAnyT_takeN (i := 47) (v := undef) rfl (by decide) (by kernel_rfl) (by kernel_rfl) (by kernel_rfl) (fun _ _ _ h => h) (.inr ⟨by kernel_rfl, rfl⟩) S5 ?_
      refine wpAnyT_takeN (i := 48) (v := undef) rfl (by decide) (by kernel_rfl) (by kernel_rfl) (by kernel_rfl) (fun _ _ _ h => h) (.inr ⟨by kernel_rfl, rfl⟩) S5 ?_
      refine wpAnyT_takeN (i := 49) (v := undef) rfl (by decide) (by kernel_rfl) (by kernel_rfl) (by kernel_rfl) (fun _ _ _ h => h) (.inr ⟨by kernel_rfl, rfl⟩) S5 ?_
      refine wpAnyT_takeN (i := 50) (v := undef) rfl (by decide) (by kernel_rfl) (by kernel_rfl) (by kernel_rfl) (fun _ _ _ h => h) (.inr ⟨by kernel_rfl, rfl⟩) S5 ?_
      refine wpAnyT_takeN (i := 51) (v := .bool true) rfl (by decide) (by kernel_rfl) (by kernel_rfl) (by kernel_rfl) (fun _ _ _ h => h) (.inl ⟨by kernel_rfl, fun W hS => by kernel_rfl⟩) S5 ?_
      refine wpAnyT_takeN (i := 52) (v := .bool true) rfl (by decide) (by kernel_rfl) (by kernel_rfl) (by kernel_rfl) (fun _ _ _ h => h) (.inl ⟨by kernel_rfl, fun W hS => by kernel_rfl⟩) S5 ?_
      refine wpAnyT_takeN (i := 53) (v := .bool true) rfl (by decide) (by kernel_rfl) (by kernel_rfl) (by kernel_rfl) (fun _ _ _ h => h) (.inl ⟨by kernel_rfl, fun W hS => by kernel_rfl⟩) S5 ?_
      refine wpAnyT_takeN (i := 54) (v := .bool true) rfl (by decide) (by kernel_rfl) (by kernel_rfl) (by kernel_rfl) (fun _ _ _ h => h) (.inl ⟨by kernel_rfl, fun W hS => by kernel_rfl⟩) S5 ?_
      refine wpAnyT_takeN (i := 55) (v := .bool true) rfl (by decide) (by kernel_rfl) (by kernel_rfl) (by kernel_rfl) (fun _ _ _ h => h) (.inl ⟨by kernel_rfl, fun W hS => by kernel_rfl⟩) S5 ?_
      refine wpAnyT_call (i := 56) (by kernel_rfl) rfl (by kernel_rfl) 12 #[] (run_call_func rfl enter_works _ (by kernel_rfl)) ((works_any v5 S5.g).mono ?_)
      rintro e v6 ⟨rfl, bb6⟩
      have S6 := Wt.below S5 bb6
      refine ⟨_, rfl, S6, ?_⟩
      refine wpAnyT_takeN (i := 57) (v := .bool true) rfl (by decide) (by kernel_rfl) (by kernel_rfl) (by kernel_rfl) (fun _ _ _ h => h) (.inl ⟨by kernel_rfl, fun W hS => by kernel_rfl⟩) S6 ?_
      refine wpAnyT_takeN (i := 58) (v := .bool true) rfl (by decide) (by kernel_rfl) (by kernel_rfl) (by kernel_rfl) (fun _ _ _ h => h) (.inl ⟨by kernel_rfl, fun W hS => by kernel_rfl⟩) S6 ?_
      refine wpAnyT_done (by kernel_rfl) ?_ _
      simp only [Act.put, List.getElem_toArray, List.getElem_cons_succ, List.getElem_cons_zero, List.setIfInBounds_toArray, List.set_cons_zero, List.set_cons_succ]
      have SF := Lib.hid S6.b
      go_wp2
      go_ret
      exact ⟨rfl, SF.out⟩
    | false =>
      rw [hq] at hlev
      refine wpAnyT_takeN (i := 46) (v := .bool false) rfl (by decide) (by kernel_rfl) (by kernel_rfl) (by kernel_rfl) (fun _ _ _ h => h) (.inl ⟨by kernel_rfl, fun W hS => by kernel_rfl⟩) S5 ?_
      refine wpAnyT_takeN (i := 47) (v := M.v a9 c9) rfl (by decide) (by kernel_rfl) (by kernel_rfl) (by kernel_rfl) (fun _ _ _ h => h) (.inl ⟨by kernel_rfl, fun W hS => run_load_at (.tmp 9) rfl p9 (by kernel_rfl) M a9 c9 hS.y⟩) S5 ?_
      refine wpAnyT_takeN (i := 48) (v := M.v a9 c9) rfl (by decide) (by kernel_rfl) (by kernel_rfl) (by kernel_rfl) (fun _ _ _ h => h) (.inl ⟨by kernel_rfl, fun W hS => run_load_at (.tmp 9) rfl p9 (by kernel_rfl) M a9 c9 hS.y⟩) S5 ?_
      refine wpAnyT_call (i := 49) (by kernel_rfl) rfl (by kernel_rfl) 11 #[M.v a9 c9, M.v a9 c9] (run_call_func rfl enter_rsame _ (by kernel_rfl)) ((rsame_any hy hy M M a9 a9 c9 c9 v5 (S5.ty rfl) (S5.ty rfl)).mono ?_)
      rintro e v6 ⟨rfl, bb6⟩
      have S6 := Wt.below S5 bb6
      refine ⟨_, rfl, S6, ?_⟩
      rw [hlev]
      refine wpAnyT_takeN (i := 50) (v := .bool true) rfl (by decide) (by kernel_rfl) (by kernel_rfl) (by kernel_rfl) (fun _ _ _ h => h) (.inl ⟨by kernel_rfl, fun W hS => by kernel_rfl⟩) S6 ?_
      refine wpAnyT_takeN (i := 51) (v := .bool true) rfl (by decide) (by kernel_rfl) (by kernel_rfl) (by kernel_rfl) (fun _ _ _ h => h) (.inl ⟨by kernel_rfl, fun W hS => by kernel_rfl⟩) S6 ?_
      refine wpAnyT_takeN (i := 52) (v := .bool true) rfl (by decide) (by kernel_rfl) (by kernel_rfl) (by kernel_rfl) (fun _ _ _ h => h) (.inl ⟨by kernel_rfl, fun W hS => by kernel_rfl⟩) S6 ?_
      refine wpAnyT_takeN (i := 53) (v := .bool true) rfl (by decide) (by kernel_rfl) (by kernel_rfl) (by kernel_rfl) (fun _ _ _ h => h) (.inl ⟨by kernel_rfl, fun W hS => by kernel_rfl⟩) S6 ?_
      refine wpAnyT_takeN (i := 54) (v := .bool true) rfl (by decide) (by kernel_rfl) (by kernel_rfl) (by kernel_rfl) (fun _ _ _ h => h) (.inl ⟨by kernel_rfl, fun W hS => by kernel_rfl⟩) S6 ?_
      refine wpAnyT_takeN (i := 55) (v := .bool true) rfl (by decide) (by kernel_rfl) (by kernel_rfl) (by kernel_rfl) (fun _ _ _ h => h) (.inl ⟨by kernel_rfl, fun W hS => by kernel_rfl⟩) S6 ?_
      refine wpAnyT_call (i := 56) (by kernel_rfl) rfl (by kernel_rfl) 12 #[] (run_call_func rfl enter_works _ (by kernel_rfl)) ((works_any v6 S6.g).mono ?_)
      rintro e v7 ⟨rfl, bb7⟩
      have S7 := Wt.below S6 bb7
      refine ⟨_, rfl, S7, ?_⟩
      refine wpAnyT_takeN (i := 57) (v := .bool true) rfl (by decide) (by kernel_rfl) (by kernel_rfl) (by kernel_rfl) (fun _ _ _ h => h) (.inl ⟨by kernel_rfl, fun W hS => by kernel_rfl⟩) S7 ?_
      refine wpAnyT_takeN (i := 58) (v := .bool true) rfl (by decide) (by kernel_rfl) (by kernel_rfl) (by kernel_rfl) (fun _ _ _ h => h) (.inl ⟨by kernel_rfl, fun W hS => by kernel_rfl⟩) S7 ?_
      refine wpAnyT_done (by kernel_rfl) ?_ _
      simp only [Act.put, List.getElem_toArray, List.getElem_cons_succ, List.getElem_cons_zero, List.setIfInBounds_toArray, List.set_cons_zero, List.set_cons_succ]
      have SF := Lib.hid S7.b
      go_wp2
      go_ret
      exact ⟨rfl, SF.out⟩
end Go.Proofs.YtfflkpggmhlfpaaDoor
