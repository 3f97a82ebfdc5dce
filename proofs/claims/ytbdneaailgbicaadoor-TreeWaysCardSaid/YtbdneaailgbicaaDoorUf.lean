/- The statement TreeWays: the walk. -/
import Derived.Test.YtbdneaailgbicaaDoorUd
namespace Go.Proofs.YtbdneaailgbicaaDoor
open Go.RowKit
set_option maxRecDepth 100000
structure Wy (w : World) (p3 : Nat) (R : Nd) (aR : Option Addr) (cR : Nat) (W : World) : Prop where
  a : At W p3 24 (R.cells aR cR)
  t : Has any_ W 17 R aR
  g : Glob W
  b : Below w.heap.size w W
theorem Wy.below {w : World} {p3 : Nat} {R : Nd} {aR : Option Addr} {cR : Nat} {W W' : World} (h : Wy w p3 R aR cR W) (b : Below W.heap.size W W') : Wy w p3 R aR cR W' :=
  ⟨h.a.below b h.a.lt, h.t.below b, h.g.below b, h.b.trans (b.mono h.b.size)⟩
/-- what Find answers beside whether: no node at all, where it finds none -/
def gv (o : Option Nd) : Nd := o.getD zeroN
theorem found_of {w w' : World} {h : Nat} {o : Option Nd} {e : Ending} (hf : Found w w' h o e) : ∃ a c, e = .returned (.tuple #[(gv o).v a c, .bool o.isSome]) ∧ (o.isSome = true → Has any_ w' h (gv o) a) := by
  cases o with
  | none => exact ⟨none, 0, hf, fun h => by cases h⟩
  | some m =>
    obtain ⟨a, c, e, hh⟩ := hf
    exact ⟨a, c, e, fun _ => hh.any⟩
theorem find_r (h : Nat) (hh : h + 1 ≤ 65536) (R : Nd) (aR : Option Addr) (cR : Nat) (W : World) (hT : Has any_ W (h + 1) R aR) (hG : Glob W) (hC : ∀ k, Cut k R) (p : List UInt8) (hp : p.length ≤ 1000) (M : Nd) (f : Bool) (hM : gv (findL R p) = M) (hf : (findL R p).isSome = f) :
    Calls Tryd.prog 9 #[R.v aR cR, .string (bs p)] W fun e w' => Below W.heap.size W w' ∧ ∃ a c, e = .returned (.tuple #[M.v a c, .bool f]) ∧ (f = true → Has any_ w' (h + 1) M a) :=
  (find_any h R aR cR p W hh (Cut.slim (hC _)) hT (by omega) hG).mono fun e w' hq => ⟨hq.1, by subst hM hf; exact found_of hq.2⟩
theorem Cut.kid {n m : Nd} (h : ∀ k, Cut k n) (hm : m ∈ n.kids) : ∀ k, Cut k m := fun k => (h (k + 1)).2.2.2 m hm
theorem Cut.walk : ∀ (l : List (List UInt8)) (n m : Nd), (∀ k, Cut k n) → walkL l n = some m → ∀ k, Cut k m
  | [], n, m, h, e => by cases e; exact h
  | x :: r, n, m, h, e => by
    unfold walkL at e
    split at e
    · cases e
    · split at e
      · cases e
      · rename_i k hk
        exact Cut.walk r k m (Cut.kid h (List.mem_of_getElem? hk)) e
theorem Cut.find {n m : Nd} {p : List UInt8} (h : ∀ k, Cut k n) (e : findL n p = some m) : ∀ k, Cut k m := by
  unfold findL at e
  split at e
  · cases e; exact h
  · exact Cut.walk _ n m h e
set_option maxHeartbeats 8000000 in
theorem ways_any (h : Nat) (n : Nd) (ao : Option Addr) (cap : Nat) (a b : List UInt8) (w : World) (la : a.length ≤ maxLen) (lb : b.length ≤ maxLen) (hH : Has any_ w h n ao) (hg : Glob w) :
    Calls Tryd.prog 6 #[n.v ao cap, .string (bs a), .string (bs b)] w fun e w' => e = .returned (.bool true) ∧ Below w.heap.size w w' := by
  have HH := Lib.hid hH
  have HG := Lib.hid hg
  unfold maxLen at la lb
  clear hH hg
  have e1 : (if (60 : Int) < (a.length : Int) then (60 : Int) else (a.length : Int)) = ((min a.length 60 : Nat) : Int) := by split <;> omega
  have e2 : (if (60 : Int) < (b.length : Int) then (60 : Int) else (b.length : Int)) = ((min b.length 60 : Nat) : Int) := by split <;> omega
  obtain ⟨x, hx⟩ : ∃ x, x = a.take 60 := ⟨_, rfl⟩
  obtain ⟨y, hy⟩ : ∃ y, y = b.take 60 := ⟨_, rfl⟩
  have lx : x.length ≤ 60 := by rw [hx, List.length_take]; omega
  have ly : y.length ≤ 60 := by rw [hy, List.length_take]; omega
  have t1 : a.take (min a.length 60) = x := by rw [hx, List.take_eq_take_iff]; omega
  have t2 : b.take (min b.length 60) = y := by rw [hy, List.take_eq_take_iff]; omega
  have E1 := Lib.hid e1
  have E2 := Lib.hid e2
  have T1 := Lib.hid t1
  have T2 := Lib.hid t2
  clear e1 e2 t1 t2 hx hy
  go_enter Tryd.func6, Tryd.ntmps6
  go_wp2_with (with_reducible refine box_any rfl 24 (.tmp 0) rfl (n.cells ao cap) rfl ?_; intro u hu bu zu; have HU := Lib.hid hu; have BU := Lib.hid bu; clear hu bu zu)
  refine (works_any u (HG.out.below BU.out)).mono ?_
  rintro e w1 ⟨rfl, b1⟩
  have HU1 := Lib.hid (HU.out.below b1 HU.out.lt)
  have HB1 := Lib.hid (BU.out.trans (b1.mono BU.out.size))
  have H1 := Lib.hid (HH.out.below HB1.out)
  clear HU BU b1
  go_wp2_with (first | (refine load_any rfl 24 (.tmp 3) rfl ⟨w.heap.size, 0, none⟩ rfl (n.cells ao cap) _ (fun j v hj => by rw [Addr.add0]; exact HU1.out.cell j v hj) Tryd.underlying24 rfl info_nd ?_))
  refine (small_any h n ao cap w1 H1.out).mono ?_
  rintro e w2 ⟨b2, aR, cR, rfl, hR⟩
  obtain ⟨R, hRR⟩ : ∃ R, R = smallL n := ⟨_, rfl⟩
  rw [← hRR] at hR ⊢
  have HC := Lib.hid (show ∀ k, Cut k R by rw [hRR]; exact fun k => small_cut k n)
  have HR := Lib.hid hR
  have HU2 := Lib.hid (HU1.out.below b2 HU1.out.lt)
  have HB2 := Lib.hid (HB1.out.trans (b2.mono HB1.out.size))
  have hlt := HU1.out.lt
  clear hRR hR HU1 HB1 H1 b2
  by_cases hx0 : x = []
  · subst hx0
    go_wp2_with (first
      | (refine store_any rfl 24 (.tmp 3) (.tmp 20) rfl w.heap.size rfl (R.cells aR cR) rfl _ HU2.out rfl info_nd (nd_one R aR cR) ?_; intro w3 hu3 tu3; have L3 := hu3.lt; have Y3 := Lib.hid (Wy.mk (w := w) (aR := aR) (cR := cR) hu3 (Has.kept (S' := any_) (fun _ _ _ => trivial) (fun i (hi : w1.heap.size ≤ i) hl => tu3.block i hl (by simp; omega)) 17 R aR HR.out) (HG.out.below (tu3.below HB2.out (by simp) (Nat.le_refl _))) (tu3.below HB2.out (by simp) (Nat.le_refl _))); have YA3 := Lib.hid Y3.out.a; clear hu3 tu3)
      | (with_reducible refine list_val rfl (run_min_op (.tmp 23) (.const (.int .i64 60)) rfl (a.length : Int) 60 _ rfl rfl E1.out) ?_)
      | (with_reducible refine list_val rfl (run_hi_op (.tmp 21) (.tmp 24) rfl a (min a.length 60) (by omega) rfl rfl) ?_; rw [T1.out])
      | (with_reducible refine list_val rfl (run_min_op (.tmp 28) (.const (.int .i64 60)) rfl (b.length : Int) 60 _ rfl rfl E2.out) ?_)
      | (with_reducible refine list_val rfl (run_hi_op (.tmp 26) (.tmp 29) rfl b (min b.length 60) (by omega) rfl rfl) ?_; rw [T2.out])
      | (refine load_any rfl 24 (.tmp 3) rfl ⟨w.heap.size, 0, none⟩ rfl (R.cells aR cR) _ (fun j v hj => by rw [Addr.add0]; exact YA3.out.cell j v hj) Tryd.underlying24 rfl info_nd ?_))
    obtain ⟨M, hM⟩ : ∃ M, gv (findL R y) = M := ⟨_, rfl⟩
    obtain ⟨f, hf⟩ : ∃ f, (findL R y).isSome = f := ⟨_, rfl⟩
    have HM := Lib.hid hM
    have HF := Lib.hid hf
    clear hM hf
    refine (find_r 16 (by omega) R aR cR w3 Y3.out.t Y3.out.g HC.out y (by omega) M f HM.out HF.out).mono ?_
    rintro e w4 ⟨b4, a4, c4, rfl, k4⟩
    have Y4 := Lib.hid (Y3.out.below b4)
    clear k4 b4
    go_wp2_with (first
      | (with_reducible refine alloc_any rfl 24 rfl _ zero_nd ?_; intro u5 hu5 bu5 zu5; have HR5 := Lib.hid hu5; have BU5 := Lib.hid bu5; clear hu5 bu5 zu5)
      | (refine store_any rfl 24 (.tmp 7) (.tmp 43) rfl w4.heap.size rfl (M.cells a4 c4) rfl _ HR5.out rfl info_nd (nd_one M a4 c4) ?_; intro w5 hu5 tu5; have F7x5 := Lib.hid hu5; have BB5 := Lib.hid (tu5.below BU5.out (by simp) (Nat.le_refl _)); clear hu5 tu5; have Y5 := Lib.hid (Y4.out.below BB5.out); have YA5 := Lib.hid Y5.out.a)
      | (refine load_any rfl 24 (.tmp 3) rfl ⟨w.heap.size, 0, none⟩ rfl (R.cells aR cR) _ (fun j v hj => by rw [Addr.add0]; exact YA5.out.cell j v hj) Tryd.underlying24 rfl info_nd ?_))
    refine (find_r 16 (by omega) R aR cR w5 Y5.out.t Y5.out.g HC.out y (by omega) M f HM.out HF.out).mono ?_
    rintro e w6 ⟨b6, a6, c6, rfl, k6⟩
    have Y6 := Lib.hid (Y5.out.below b6)
    have G7x6 := Lib.hid (F7x5.out.below b6 F7x5.out.lt)
    clear k6 b6
    go_wp2_with (first
      | (with_reducible refine alloc_any rfl 24 rfl _ zero_nd ?_; intro u7 hu7 bu7 zu7; have HR7 := Lib.hid hu7; have BU7 := Lib.hid bu7; clear hu7 bu7 zu7)
      | (refine store_any rfl 24 (.tmp 9) (.tmp 51) rfl w6.heap.size rfl (M.cells a6 c6) rfl _ HR7.out rfl info_nd (nd_one M a6 c6) ?_; intro w7 hu7 tu7; have F9x7 := Lib.hid hu7; have BB7 := Lib.hid (tu7.below BU7.out (by simp) (Nat.le_refl _)); clear hu7 tu7; have Y7 := Lib.hid (Y6.out.below BB7.out); have YA7 := Lib.hid Y7.out.a; have G7x7 := Lib.hid (G7x6.out.below BB7.out G7x6.out.lt); have c70 := G7x7.out.cell 0 _ rfl; have c71 := G7x7.out.cell 1 _ rfl; have c90 := F9x7.out.cell 0 _ rfl; have c91 := F9x7.out.cell 1 _ rfl)
      | fail)
    go_ret
    exact ⟨rfl, Y7.out.b⟩
  · have hx2 : (x == []) = false := by simpa using hx0
    have hx3 : x.isEmpty = false := by simpa using hx0
    by_cases hy0 : y = []
    · subst hy0
      go_wp2_with (first
        | (refine store_any rfl 24 (.tmp 3) (.tmp 20) rfl w.heap.size rfl (R.cells aR cR) rfl _ HU2.out rfl info_nd (nd_one R aR cR) ?_; intro w3 hu3 tu3; have L3 := hu3.lt; have Y3 := Lib.hid (Wy.mk (w := w) (aR := aR) (cR := cR) hu3 (Has.kept (S' := any_) (fun _ _ _ => trivial) (fun i (hi : w1.heap.size ≤ i) hl => tu3.block i hl (by simp; omega)) 17 R aR HR.out) (HG.out.below (tu3.below HB2.out (by simp) (Nat.le_refl _))) (tu3.below HB2.out (by simp) (Nat.le_refl _))); have YA3 := Lib.hid Y3.out.a; clear hu3 tu3)
        | (with_reducible refine list_val rfl (run_min_op (.tmp 23) (.const (.int .i64 60)) rfl (a.length : Int) 60 _ rfl rfl E1.out) ?_)
        | (with_reducible refine list_val rfl (run_hi_op (.tmp 21) (.tmp 24) rfl a (min a.length 60) (by omega) rfl rfl) ?_; rw [T1.out])
        | (with_reducible refine list_val rfl (run_min_op (.tmp 28) (.const (.int .i64 60)) rfl (b.length : Int) 60 _ rfl rfl E2.out) ?_)
        | (with_reducible refine list_val rfl (run_hi_op (.tmp 26) (.tmp 29) rfl b (min b.length 60) (by omega) rfl rfl) ?_; rw [T2.out])
        | (refine load_any rfl 24 (.tmp 3) rfl ⟨w.heap.size, 0, none⟩ rfl (R.cells aR cR) _ (fun j v hj => by rw [Addr.add0]; exact YA3.out.cell j v hj) Tryd.underlying24 rfl info_nd ?_))
      obtain ⟨M, hM⟩ : ∃ M, gv (findL R x) = M := ⟨_, rfl⟩
      obtain ⟨f, hf⟩ : ∃ f, (findL R x).isSome = f := ⟨_, rfl⟩
      have HM := Lib.hid hM
      have HF := Lib.hid hf
      clear hM hf
      refine (find_r 16 (by omega) R aR cR w3 Y3.out.t Y3.out.g HC.out x (by omega) M f HM.out HF.out).mono ?_
      rintro e w4 ⟨b4, a4, c4, rfl, k4⟩
      have Y4 := Lib.hid (Y3.out.below b4)
      clear k4 b4
      go_wp2_with (first
        | (with_reducible refine alloc_any rfl 24 rfl _ zero_nd ?_; intro u5 hu5 bu5 zu5; have HR5 := Lib.hid hu5; have BU5 := Lib.hid bu5; clear hu5 bu5 zu5)
        | (refine store_any rfl 24 (.tmp 7) (.tmp 43) rfl w4.heap.size rfl (M.cells a4 c4) rfl _ HR5.out rfl info_nd (nd_one M a4 c4) ?_; intro w5 hu5 tu5; have F7x5 := Lib.hid hu5; have BB5 := Lib.hid (tu5.below BU5.out (by simp) (Nat.le_refl _)); clear hu5 tu5; have Y5 := Lib.hid (Y4.out.below BB5.out); have YA5 := Lib.hid Y5.out.a)
        | (refine load_any rfl 24 (.tmp 3) rfl ⟨w.heap.size, 0, none⟩ rfl (R.cells aR cR) _ (fun j v hj => by rw [Addr.add0]; exact YA5.out.cell j v hj) Tryd.underlying24 rfl info_nd ?_))
      refine (find_r 16 (by omega) R aR cR w5 Y5.out.t Y5.out.g HC.out x (by omega) M f HM.out HF.out).mono ?_
      rintro e w6 ⟨b6, a6, c6, rfl, k6⟩
      have Y6 := Lib.hid (Y5.out.below b6)
      have G7x6 := Lib.hid (F7x5.out.below b6 F7x5.out.lt)
      clear k6 b6
      go_wp2_with (first
        | (with_reducible refine alloc_any rfl 24 rfl _ zero_nd ?_; intro u7 hu7 bu7 zu7; have HR7 := Lib.hid hu7; have BU7 := Lib.hid bu7; clear hu7 bu7 zu7)
        | (refine store_any rfl 24 (.tmp 9) (.tmp 51) rfl w6.heap.size rfl (M.cells a6 c6) rfl _ HR7.out rfl info_nd (nd_one M a6 c6) ?_; intro w7 hu7 tu7; have F9x7 := Lib.hid hu7; have BB7 := Lib.hid (tu7.below BU7.out (by simp) (Nat.le_refl _)); clear hu7 tu7; have Y7 := Lib.hid (Y6.out.below BB7.out); have YA7 := Lib.hid Y7.out.a; have G7x7 := Lib.hid (G7x6.out.below BB7.out G7x6.out.lt); have c70 := G7x7.out.cell 0 _ rfl; have c71 := G7x7.out.cell 1 _ rfl; have c90 := F9x7.out.cell 0 _ rfl; have c91 := F9x7.out.cell 1 _ rfl)
        | fail)
      go_ret
      exact ⟨rfl, Y7.out.b⟩
    · have hy2 : (y == []) = false := by simpa using hy0
      have hy3 : y.isEmpty = false := by simpa using hy0
      go_wp2_with (first
        | (refine store_any rfl 24 (.tmp 3) (.tmp 20) rfl w.heap.size rfl (R.cells aR cR) rfl _ HU2.out rfl info_nd (nd_one R aR cR) ?_; intro w3 hu3 tu3; have L3 := hu3.lt; have Y3 := Lib.hid (Wy.mk (w := w) (aR := aR) (cR := cR) hu3 (Has.kept (S' := any_) (fun _ _ _ => trivial) (fun i (hi : w1.heap.size ≤ i) hl => tu3.block i hl (by simp; omega)) 17 R aR HR.out) (HG.out.below (tu3.below HB2.out (by simp) (Nat.le_refl _))) (tu3.below HB2.out (by simp) (Nat.le_refl _))); have YA3 := Lib.hid Y3.out.a; clear hu3 tu3)
        | (with_reducible refine list_val rfl (run_min_op (.tmp 23) (.const (.int .i64 60)) rfl (a.length : Int) 60 _ rfl rfl E1.out) ?_)
        | (with_reducible refine list_val rfl (run_hi_op (.tmp 21) (.tmp 24) rfl a (min a.length 60) (by omega) rfl rfl) ?_; rw [T1.out])
        | (with_reducible refine list_val rfl (run_min_op (.tmp 28) (.const (.int .i64 60)) rfl (b.length : Int) 60 _ rfl rfl E2.out) ?_)
        | (with_reducible refine list_val rfl (run_hi_op (.tmp 26) (.tmp 29) rfl b (min b.length 60) (by omega) rfl rfl) ?_; rw [T2.out])
        | (refine load_any rfl 24 (.tmp 3) rfl ⟨w.heap.size, 0, none⟩ rfl (R.cells aR cR) _ (fun j v hj => by rw [Addr.add0]; exact YA3.out.cell j v hj) Tryd.underlying24 rfl info_nd ?_))
      have hs : bs x ++ ({ data := #[47] } : ByteArray) ++ bs y = bs (x ++ 47 :: y) := by
        rw [show ({ data := #[47] } : ByteArray) = bs [47] from rfl, bs_append, bs_append, List.append_assoc]; rfl
      rw [hs]
      have lxy : (x ++ 47 :: y).length ≤ 1000 := by rw [List.length_append, List.length_cons]; omega
      have hcat := findL_cat R x y hx0 hy0
      have LXY := Lib.hid lxy
      have CAT := Lib.hid hcat
      clear lxy hcat hs
      obtain ⟨M, hM⟩ : ∃ M, gv (findL R (x ++ 47 :: y)) = M := ⟨_, rfl⟩
      obtain ⟨f, hf⟩ : ∃ f, (findL R (x ++ 47 :: y)).isSome = f := ⟨_, rfl⟩
      have HM := Lib.hid hM
      have HF := Lib.hid hf
      clear hM hf
      refine (find_r 16 (by omega) R aR cR w3 Y3.out.t Y3.out.g HC.out (x ++ 47 :: y) LXY.out M f HM.out HF.out).mono ?_
      rintro e w4 ⟨b4, a4, c4, rfl, k4⟩
      have Y4 := Lib.hid (Y3.out.below b4)
      clear k4 b4
      go_wp2_with (first
        | (with_reducible refine alloc_any rfl 24 rfl _ zero_nd ?_; intro u5 hu5 bu5 zu5; have HR5 := Lib.hid hu5; have BU5 := Lib.hid bu5; clear hu5 bu5 zu5)
        | (refine store_any rfl 24 (.tmp 11) (.tmp 77) rfl w4.heap.size rfl (M.cells a4 c4) rfl _ HR5.out rfl info_nd (nd_one M a4 c4) ?_; intro w5 hu5 tu5; have F11x5 := Lib.hid hu5; have BB5 := Lib.hid (tu5.below BU5.out (by simp) (Nat.le_refl _)); clear hu5 tu5; have Y5 := Lib.hid (Y4.out.below BB5.out); have YA5 := Lib.hid Y5.out.a)
        | (refine load_any rfl 24 (.tmp 3) rfl ⟨w.heap.size, 0, none⟩ rfl (R.cells aR cR) _ (fun j v hj => by rw [Addr.add0]; exact YA5.out.cell j v hj) Tryd.underlying24 rfl info_nd ?_))
      cases ho : findL R x with
      | none =>
        obtain rfl : M = zeroN := by have := HM.out; rw [CAT.out, ho] at this; exact this.symm
        obtain rfl : f = false := by have := HF.out; rw [CAT.out, ho] at this; exact this.symm
        refine (find_r 16 (by omega) R aR cR w5 Y5.out.t Y5.out.g HC.out x (by omega) zeroN false (by rw [ho]; rfl) (by rw [ho]; rfl)).mono ?_
        rintro e w6 ⟨b6, a6, c6, rfl, k6⟩
        have Y6 := Lib.hid (Y5.out.below b6)
        have G7x6 := Lib.hid (F11x5.out.below b6 F11x5.out.lt)
        clear k6 b6
        have HO := Lib.hid ho
        clear ho
        go_wp2_with (first
          | (with_reducible refine alloc_any rfl 24 rfl _ zero_nd ?_; intro u7 hu7 bu7 zu7; have HR7 := Lib.hid hu7; have BU7 := Lib.hid bu7; clear hu7 bu7 zu7)
          | (refine store_any rfl 24 (.tmp 13) (.tmp 83) rfl w6.heap.size rfl (zeroN.cells a6 c6) rfl _ HR7.out rfl info_nd (nd_one zeroN a6 c6) ?_; intro w7 hu7 tu7; have F13x7 := Lib.hid hu7; have BB7 := Lib.hid (tu7.below BU7.out (by simp) (Nat.le_refl _)); clear hu7 tu7; have Y7 := Lib.hid (Y6.out.below BB7.out); have YA7 := Lib.hid Y7.out.a; have G7x7 := Lib.hid (G7x6.out.below BB7.out G7x6.out.lt); have c71 : w7.cell? ⟨w4.heap.size, 1, none⟩ = some (.int .i64 0) := G7x7.out.cell 1 _ rfl)
          | fail)
        go_ret
        exact ⟨rfl, Y7.out.b⟩
      | some m =>
        have HO := Lib.hid ho
        have hCm := Cut.find HC.out ho
        refine (find_r 16 (by omega) R aR cR w5 Y5.out.t Y5.out.g HC.out x (by omega) m true (by rw [ho]; rfl) (by rw [ho]; rfl)).mono ?_
        rintro e w6 ⟨b6, a6, c6, rfl, k6⟩
        have Y6 := Lib.hid (Y5.out.below b6)
        have G7x6 := Lib.hid (F11x5.out.below b6 F11x5.out.lt)
        have K6 := Lib.hid (k6 rfl)
        have HCM := Lib.hid hCm
        clear k6 b6 ho hCm
        go_wp2_with (first
          | (with_reducible refine alloc_any rfl 24 rfl _ zero_nd ?_; intro u7 hu7 bu7 zu7; have HR7 := Lib.hid hu7; have BU7 := Lib.hid bu7; clear hu7 bu7 zu7)
          | (refine store_any rfl 24 (.tmp 13) (.tmp 83) rfl w6.heap.size rfl (m.cells a6 c6) rfl _ HR7.out rfl info_nd (nd_one m a6 c6) ?_; intro w7 hu7 tu7; have F13x7 := Lib.hid hu7; have BB7 := Lib.hid (tu7.below BU7.out (by simp) (Nat.le_refl _)); clear hu7 tu7; have Y7 := Lib.hid (Y6.out.below BB7.out); have YA7 := Lib.hid Y7.out.a; have G7x7 := Lib.hid (G7x6.out.below BB7.out G7x6.out.lt); have K7 := Lib.hid (K6.out.below BB7.out))
          | (refine load_any rfl 24 (.tmp 13) rfl ⟨w6.heap.size, 0, none⟩ rfl (m.cells a6 c6) _ (fun j v hj => by rw [Addr.add0]; exact F13x7.out.cell j v hj) Tryd.underlying24 rfl info_nd ?_))
        have hM3 : gv (findL m y) = M := by have := HM.out; rw [CAT.out, HO.out] at this; exact this
        have hF3 : (findL m y).isSome = f := by have := HF.out; rw [CAT.out, HO.out] at this; exact this
        refine (find_r 16 (by omega) m a6 c6 w7 K7.out Y7.out.g HCM.out y (by omega) M f hM3 hF3).mono ?_
        rintro e w8 ⟨b8, a8, c8, rfl, k8⟩
        have Y8 := Lib.hid (Y7.out.below b8)
        have G7x8 := Lib.hid (G7x7.out.below b8 G7x7.out.lt)
        clear k8 b8 hM3 hF3
        go_wp2_with (first
          | (with_reducible refine alloc_any rfl 24 rfl _ zero_nd ?_; intro u9 hu9 bu9 zu9; have HR9 := Lib.hid hu9; have BU9 := Lib.hid bu9; clear hu9 bu9 zu9)
          | (refine store_any rfl 24 (.tmp 15) (.tmp 98) rfl w8.heap.size rfl (M.cells a8 c8) rfl _ HR9.out rfl info_nd (nd_one M a8 c8) ?_; intro w9 hu9 tu9; have F15x9 := Lib.hid hu9; have BB9 := Lib.hid (tu9.below BU9.out (by simp) (Nat.le_refl _)); clear hu9 tu9; have Y9 := Lib.hid (Y8.out.below BB9.out); have YA9 := Lib.hid Y9.out.a; have G7x9 := Lib.hid (G7x8.out.below BB9.out G7x8.out.lt); have c70 := G7x9.out.cell 0 _ rfl; have c71 := G7x9.out.cell 1 _ rfl; have c73 := G7x9.out.cell 3 _ rfl; have c74 := G7x9.out.cell 4 _ rfl; have c90 := F15x9.out.cell 0 _ rfl; have c91 := F15x9.out.cell 1 _ rfl; have c93 := F15x9.out.cell 3 _ rfl; have c94 := F15x9.out.cell 4 _ rfl)
          | fail)
        go_ret
        exact ⟨rfl, Y9.out.b⟩
end Go.Proofs.YtbdneaailgbicaaDoor
