/- A reader's file, link. -/
import Derived.Test.YtdpeblchndfdaaaMj
namespace Go.Proofs.Ytdpeblchndfdaaa
open Go.RowKit Go.Maps Go.ChangeMaps Go.MapKept
set_option maxRecDepth 100000
theorem info24' : (Try.prog.info? 24).map (·.size) = some 5 := info_nd
set_option maxHeartbeats 1000000 in
theorem rlink_any (b rb mb lvl h : Nat) (l : List UInt8) (w : World) (hA : RAt w b rb mb l lvl) (hl : l.length ≤ 1000000) :
    Calls Try.prog 55 #[.pointer (some ⟨b, 0, none⟩)] w fun e w' => NodeEnd w w' b rb mb lvl (h + 1) (readLink l) e := by
  have H := Lib.hid hA
  have hlt := hA.lt
  cases ht : Plain.cutT l with
  | none =>
    have hr : readLink l = none := by unfold readLink; simp [ht]
    rw [hr]
    have HT := Lib.hid ht
    clear hA ht hr
    go_enter Try.func55, Try.ntmps55
    go_wp2_with (with_reducible refine alloc_any rfl 24 rfl _ zero_nd ?_; intro u hu bu zu; have HU := Lib.hid hu; have BU := Lib.hid bu; clear hu bu)
    refine (rtext_none b rb mb lvl l u (H.out.below BU.out) hl HT.out).mono ?_
    rintro e w1 ⟨rfl, t1⟩
    have T1 := Lib.hid ((Touch.of_below BU.out).trans t1)
    clear t1
    go_wp2_with fail
    exact ⟨rfl, T1.out, rfl⟩
  | some x =>
    obtain ⟨t, r⟩ := x
    have hr : readLink l = some (⟨[], 3, false, t, []⟩, r) := by unfold readLink; simp [ht]
    rw [hr]
    have HT := Lib.hid ht
    clear hA ht hr
    go_enter Try.func55, Try.ntmps55
    go_wp2_with (with_reducible refine alloc_any rfl 24 rfl _ zero_nd ?_; intro u hu bu zu; have HU := Lib.hid hu; have BU := Lib.hid bu; clear hu bu)
    refine (rtext_some b rb mb lvl l t r u (H.out.below BU.out) hl HT.out).mono ?_
    rintro e w1 ⟨rfl, h1, t1⟩
    have HU1 := Lib.hid (HU.out.touch t1 (by simp; omega))
    have H1 := Lib.hid h1
    have T1 := Lib.hid ((Touch.of_below BU.out).trans t1)
    clear h1 t1 HU
    go_wp2_with (first
      | (refine list_val (op := { dst := some 5, op := _, type := _, pos := _, after := _, guard := _ }) rfl (v := .agg (Nd.cells ⟨[], 3, false, t, []⟩ none 0).toArray) (w' := w1) (by kernel_rfl) ?_)
      | (refine store_any rfl 24 (.tmp 2) (.tmp 5) rfl w.heap.size rfl (Nd.cells ⟨[], 3, false, t, []⟩ none 0) rfl _ HU1.out rfl info_nd (nd_one _ _ _) ?_; intro u6 hu6 tu6; have HU6 := Lib.hid hu6; have TU6 := Lib.hid tu6; clear hu6 tu6))
    (try simp only [Exit.inBlock, Exit.then])
    refine bodyPost_ret (v := .agg (Nd.cells ⟨[], 3, false, t, []⟩ none 0).toArray) ?_ rfl ⟨T1.out.step TU6.out (by simp), ⟨none, 0, rfl, Has.leaf _ _ _ _ _ rfl⟩, H1.out.touch TU6.out (by simp; exact ⟨_, HU1.out⟩)⟩
    exact results_cell_row (fn := Try.f55) (p := 2) (ty := 24) rfl _ _ w.heap.size 24 _ (0, 0) _ rfl HU6.out Try.underlying24 rfl info_nd
set_option maxHeartbeats 1000000 in
theorem rfile_1 (b rb mb lvl h : Nat) (l r : List UInt8) (w : World) (hA : RAt w b rb mb l lvl) (hl : l.length ≤ 1000000) (hc : Plain.cut l = some (1, r)) :
    Calls Try.prog 53 #[.pointer (some ⟨b, 0, none⟩)] w fun e w' => NodeEnd w w' b rb mb lvl (h + 1) (readFile l) e := by
  have H := Lib.hid hA
  have hlt := hA.lt
  have hrl := cut_lt hc
  have HC := Lib.hid hc
  cases ht : Plain.cutT r with
  | none =>
    have hr : readFile l = none := by unfold readFile; simp [hc, ht]
    rw [hr]
    have HT := Lib.hid ht
    clear hA ht hr hc
    go_enter Try.func53, Try.ntmps53
    go_wp2_with (with_reducible refine alloc_any rfl 24 rfl _ zero_nd ?_; intro u hu bu zu; have HU := Lib.hid hu; have BU := Lib.hid bu; clear hu bu)
    refine (rnum_some b rb mb lvl 1 l r u (H.out.below BU.out) hl HC.out).mono ?_
    rintro e w1 ⟨rfl, h1, t1⟩
    have H1 := Lib.hid h1
    have T1 := Lib.hid ((Touch.of_below BU.out).trans t1)
    clear h1 t1
    go_wp2_with fail
    refine (must_ok w1).mono ?_
    rintro e w2 ⟨rfl, rfl⟩
    go_wp2_with fail
    refine (rtext_none b rb mb lvl r w2 H1.out (by omega) HT.out).mono ?_
    rintro e w3 ⟨rfl, t3⟩
    have T3 := Lib.hid (T1.out.trans t3)
    clear t3
    go_wp2_with fail
    exact ⟨rfl, T3.out, rfl⟩
  | some y =>
    obtain ⟨t, r2⟩ := y
    have hr : readFile l = some (⟨[], 1, true, t, []⟩, r2) := by unfold readFile; simp [hc, ht]
    rw [hr]
    have HT := Lib.hid ht
    clear hA ht hr hc
    go_enter Try.func53, Try.ntmps53
    go_wp2_with (with_reducible refine alloc_any rfl 24 rfl _ zero_nd ?_; intro u hu bu zu; have HU := Lib.hid hu; have BU := Lib.hid bu; clear hu bu)
    refine (rnum_some b rb mb lvl 1 l r u (H.out.below BU.out) hl HC.out).mono ?_
    rintro e w1 ⟨rfl, h1, t1⟩
    have HU1 := Lib.hid (HU.out.touch t1 (by simp; omega))
    have H1 := Lib.hid h1
    have T1 := Lib.hid ((Touch.of_below BU.out).trans t1)
    have z1 := t1.size
    clear h1 t1 HU
    go_wp2_with fail
    refine (must_ok w1).mono ?_
    rintro e w2 ⟨rfl, rfl⟩
    go_wp2_with fail
    refine (rtext_some b rb mb lvl r t r2 w2 H1.out (by omega) HT.out).mono ?_
    rintro e w3 ⟨rfl, h3, t3⟩
    have HU3 := Lib.hid (HU1.out.touch t3 (by simp; omega))
    have H3 := Lib.hid h3
    have T3 := Lib.hid (T1.out.trans t3)
    clear h3 t3 HU1 H1 T1
    go_wp2_with (first
      | (refine list_val (op := { dst := some 17, op := _, type := _, pos := _, after := _, guard := _ }) rfl (v := .agg (Nd.cells ⟨[], 1, true, t, []⟩ none 0).toArray) (w' := w3) (by kernel_rfl) ?_)
      | (refine store_any rfl 24 (.tmp 2) (.tmp 17) rfl w.heap.size rfl (Nd.cells ⟨[], 1, true, t, []⟩ none 0) rfl _ HU3.out rfl info_nd (nd_one _ _ _) ?_; intro u6 hu6 tu6; have HU6 := Lib.hid hu6; have TU6 := Lib.hid tu6; clear hu6 tu6))
    (try simp only [Exit.inBlock, Exit.then])
    refine bodyPost_ret (v := .agg (Nd.cells ⟨[], 1, true, t, []⟩ none 0).toArray) ?_ rfl ⟨T3.out.step TU6.out (by simp), ⟨none, 0, rfl, Has.leaf _ _ _ _ _ rfl⟩, H3.out.touch TU6.out (by simp; exact ⟨_, HU3.out⟩)⟩
    exact results_cell_row (fn := Try.f53) (p := 2) (ty := 24) rfl _ _ w.heap.size 24 _ (0, 0) _ rfl HU6.out Try.underlying24 rfl info_nd
set_option maxHeartbeats 1000000 in
theorem rfile_0 (b rb mb lvl h : Nat) (l r : List UInt8) (w : World) (hA : RAt w b rb mb l lvl) (hl : l.length ≤ 1000000) (hc : Plain.cut l = some (0, r)) :
    Calls Try.prog 53 #[.pointer (some ⟨b, 0, none⟩)] w fun e w' => NodeEnd w w' b rb mb lvl (h + 1) (readFile l) e := by
  have H := Lib.hid hA
  have hlt := hA.lt
  have hrl := cut_lt hc
  have HC := Lib.hid hc
  cases ht : Plain.cutT r with
  | none =>
    have hr : readFile l = none := by unfold readFile; simp [hc, ht]
    rw [hr]
    have HT := Lib.hid ht
    clear hA ht hr hc
    go_enter Try.func53, Try.ntmps53
    go_wp2_with (with_reducible refine alloc_any rfl 24 rfl _ zero_nd ?_; intro u hu bu zu; have HU := Lib.hid hu; have BU := Lib.hid bu; clear hu bu)
    refine (rnum_some b rb mb lvl 0 l r u (H.out.below BU.out) hl HC.out).mono ?_
    rintro e w1 ⟨rfl, h1, t1⟩
    have H1 := Lib.hid h1
    have T1 := Lib.hid ((Touch.of_below BU.out).trans t1)
    clear h1 t1
    go_wp2_with fail
    refine (must_ok w1).mono ?_
    rintro e w2 ⟨rfl, rfl⟩
    go_wp2_with fail
    refine (rtext_none b rb mb lvl r w2 H1.out (by omega) HT.out).mono ?_
    rintro e w3 ⟨rfl, t3⟩
    have T3 := Lib.hid (T1.out.trans t3)
    clear t3
    go_wp2_with fail
    exact ⟨rfl, T3.out, rfl⟩
  | some y =>
    obtain ⟨t, r2⟩ := y
    have hr : readFile l = some (⟨[], 1, false, t, []⟩, r2) := by unfold readFile; simp [hc, ht]
    rw [hr]
    have HT := Lib.hid ht
    clear hA ht hr hc
    go_enter Try.func53, Try.ntmps53
    go_wp2_with (with_reducible refine alloc_any rfl 24 rfl _ zero_nd ?_; intro u hu bu zu; have HU := Lib.hid hu; have BU := Lib.hid bu; clear hu bu)
    refine (rnum_some b rb mb lvl 0 l r u (H.out.below BU.out) hl HC.out).mono ?_
    rintro e w1 ⟨rfl, h1, t1⟩
    have HU1 := Lib.hid (HU.out.touch t1 (by simp; omega))
    have H1 := Lib.hid h1
    have T1 := Lib.hid ((Touch.of_below BU.out).trans t1)
    have z1 := t1.size
    clear h1 t1 HU
    go_wp2_with fail
    refine (must_ok w1).mono ?_
    rintro e w2 ⟨rfl, rfl⟩
    go_wp2_with fail
    refine (rtext_some b rb mb lvl r t r2 w2 H1.out (by omega) HT.out).mono ?_
    rintro e w3 ⟨rfl, h3, t3⟩
    have HU3 := Lib.hid (HU1.out.touch t3 (by simp; omega))
    have H3 := Lib.hid h3
    have T3 := Lib.hid (T1.out.trans t3)
    clear h3 t3 HU1 H1 T1
    go_wp2_with (first
      | (refine list_val (op := { dst := some 17, op := _, type := _, pos := _, after := _, guard := _ }) rfl (v := .agg (Nd.cells ⟨[], 1, false, t, []⟩ none 0).toArray) (w' := w3) (by kernel_rfl) ?_)
      | (refine store_any rfl 24 (.tmp 2) (.tmp 17) rfl w.heap.size rfl (Nd.cells ⟨[], 1, false, t, []⟩ none 0) rfl _ HU3.out rfl info_nd (nd_one _ _ _) ?_; intro u6 hu6 tu6; have HU6 := Lib.hid hu6; have TU6 := Lib.hid tu6; clear hu6 tu6))
    (try simp only [Exit.inBlock, Exit.then])
    refine bodyPost_ret (v := .agg (Nd.cells ⟨[], 1, false, t, []⟩ none 0).toArray) ?_ rfl ⟨T3.out.step TU6.out (by simp), ⟨none, 0, rfl, Has.leaf _ _ _ _ _ rfl⟩, H3.out.touch TU6.out (by simp; exact ⟨_, HU3.out⟩)⟩
    exact results_cell_row (fn := Try.f53) (p := 2) (ty := 24) rfl _ _ w.heap.size 24 _ (0, 0) _ rfl HU6.out Try.underlying24 rfl info_nd
set_option maxHeartbeats 1000000 in
theorem rfile_any (b rb mb lvl h : Nat) (l : List UInt8) (w : World) (hA : RAt w b rb mb l lvl) (hl : l.length ≤ 1000000) :
    Calls Try.prog 53 #[.pointer (some ⟨b, 0, none⟩)] w fun e w' => NodeEnd w w' b rb mb lvl (h + 1) (readFile l) e := by
  cases hc : Plain.cut l with
  | none =>
    have hr : readFile l = none := by unfold readFile; simp [hc]
    rw [hr]
    have H := Lib.hid hA
    have HC := Lib.hid hc
    clear hA hr hc
    go_enter Try.func53, Try.ntmps53
    go_wp2_with (with_reducible refine alloc_any rfl 24 rfl _ zero_nd ?_; intro u hu bu zu; have HU := Lib.hid hu; have BU := Lib.hid bu; clear hu bu)
    refine (rnum_none b rb mb lvl l u (H.out.below BU.out) hl HC.out).mono ?_
    rintro e w1 ⟨rfl, t1⟩
    have T1 := Lib.hid ((Touch.of_below BU.out).trans t1)
    clear t1
    go_wp2_with fail
    exact ⟨rfl, T1.out, rfl⟩
  | some x =>
    obtain ⟨x, r⟩ := x
    by_cases h1 : x = 1
    · subst h1; exact rfile_1 b rb mb lvl h l r w hA hl hc
    by_cases h0 : x = 0
    · subst h0; exact rfile_0 b rb mb lvl h l r w hA hl hc
    have hr : readFile l = none := by unfold readFile; simp [hc, h1, h0]
    rw [hr]
    have H := Lib.hid hA
    have HC := Lib.hid hc
    have e1 : ((x : Int) == 1) = false := by simp; omega
    have e0 : ((x : Int) == 0) = false := by simp; omega
    clear hA hr hc h1 h0
    go_enter Try.func53, Try.ntmps53
    go_wp2_with (with_reducible refine alloc_any rfl 24 rfl _ zero_nd ?_; intro u hu bu zu; have HU := Lib.hid hu; have BU := Lib.hid bu; clear hu bu)
    refine (rnum_some b rb mb lvl x l r u (H.out.below BU.out) hl HC.out).mono ?_
    rintro e w1 ⟨rfl, h1, t1⟩
    have T1 := Lib.hid ((Touch.of_below BU.out).trans t1)
    clear h1 t1
    go_wp2_with fail
    refine (must_no w1).mono ?_
    rintro e w2 ⟨rfl, rfl⟩
    go_wp2_with fail
    exact ⟨rfl, T1.out, rfl⟩
end Go.Proofs.Ytdpeblchndfdaaa
