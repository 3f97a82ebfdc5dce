/- The place of a journal. -/
import Derived.Test.YtcgjkopdnhkdiaaJh
namespace Go.Proofs.Ytcgjkopdnhkdiaa
open Go.RowKit
set_option maxRecDepth 100000
theorem zero_pl : ∀ w, (zeroValue 83).run Try.prog w = .ok (.agg #[Value.pointer none, Value.int .i64 0, Value.int .i64 0]) w := fun _ => by kernel_rfl
theorem build_pl0 {o : Oper} {a : Act} {w : World} (ho : o.op = .build 83 #[]) : (execOp a.eval o).run Try.prog w = .ok (.value (.agg #[Value.pointer none, Value.int .i64 0, Value.int .i64 0])) w := by
  have hz := zero_pl w
  unfold execOp
  simp only [ho]
  simp [go_sem, hz]
theorem build_pl {o : Oper} {a : Act} {w : World} (x y z : Operand) (ho : o.op = .build 83 #[(0, x), (1, y), (2, z)]) (h : Pl) (hx : a.eval x = .pointer (some ⟨h.D, 0, none⟩)) (hy : a.eval y = .int .i64 (h.at_ : Int)) (hz' : a.eval z = .int .i64 (h.span : Int)) :
    (execOp a.eval o).run Try.prog w = .ok (.value (.agg h.cells.toArray)) w := by
  have hz := zero_pl w
  unfold execOp
  simp only [ho, List.map_toArray, List.map_cons, List.map_nil, hx, hy, hz']
  simp [go_sem, hz, Pl.cells]
theorem Pl.one (h : Pl) : ∀ v ∈ h.cells, v.oneCell' = true := by
  intro v hv
  simp only [Pl.cells, List.mem_cons, List.not_mem_nil, or_false] at hv
  rcases hv with rfl | rfl | rfl <;> rfl
def noPl : Value := .agg #[Value.pointer none, Value.int .i64 0, Value.int .i64 0]
set_option maxHeartbeats 2000000 in
theorem place_nil (x y : Int) (w : World) : Calls Try.prog 52 #[.pointer none, .int .i64 x, .int .i64 y] w fun e w' => e = .returned (.tuple #[noPl, .int .i64 1]) ∧ Below w.heap.size w w' := by
  obtain ⟨u, hu⟩ : ∃ u, u = w.alloc (.cells #[Value.pointer none, Value.int .i64 0, Value.int .i64 0] 83) := ⟨_, rfl⟩
  have a0 : At u w.heap.size 83 [Value.pointer none, Value.int .i64 0, Value.int .i64 0] := by rw [hu]; exact At.new w _ _
  have hB : Below w.heap.size w u := by rw [hu]; exact (Below.refl _ w).alloc (Nat.le_refl _) _
  have hus : u.heap.size = w.heap.size + 1 := by rw [hu, World.size_alloc]
  have hth : u.there w.heap.size 0 #[Value.pointer none, Value.int .i64 0, Value.int .i64 0].size := a0.there 0 3 (by decide)
  have hone : #[Value.pointer none, Value.int .i64 0, Value.int .i64 0].all (·.oneCell') = true := by kernel_rfl
  have hst := a0.setCells [Value.pointer none, Value.int .i64 0, Value.int .i64 0] 0 _ _ (Nat.le_refl _)
  have hend := Touch.below (ft := [w.heap.size]) hB (Touch.setCells w.heap.size (.inl (by simp)) [Value.pointer none, Value.int .i64 0, Value.int .i64 0] 0 _ (Touch.refl _ u)) (by simp) (Nat.le_refl _)
  rw [hu] at hth hst hend
  have HTH := Lib.hid hth
  have HN := Lib.hid hone
  have HST := Lib.hid hst
  have HEND := Lib.hid hend
  clear hth hone hst hend hu a0 hB hus
  go_enter Try.func52, Try.ntmps52
  go_wp2_with (first | (with_reducible refine alloc_agg rfl 83 rfl #[Value.pointer none, Value.int .i64 0, Value.int .i64 0] zero_pl ?_) | (with_reducible refine list_val rfl (build_pl0 rfl) ?_) | (with_reducible refine wpList_store_mid rfl 83 (.tmp 6) (.tmp 11) rfl w.heap.size 0 #[Value.pointer none, Value.int .i64 0, Value.int .i64 0] (by kernel_rfl) (by kernel_rfl) HTH.out (by kernel_rfl) HN.out ?_))
  (try simp only [Exit.inBlock, Exit.then])
  refine bodyPost_ret (v := .tuple #[noPl, .int .i64 1]) ?_ rfl ⟨rfl, HEND.out⟩
  exact results_row_tmp (fn := Try.f52) (p := 6) (u := 7) (ty := 83) rfl _ _ w.heap.size 83 #[Value.pointer none, Value.int .i64 0, Value.int .i64 0] (0, 0) _ rfl HST.out Try.underlying83 rfl (by kernel_rfl) _ rfl
section
variable {w0 w : World} {av : Nat → Prop} {n D : Nat} {s : Dk}
set_option maxHeartbeats 4000000 in
theorem place_bad (h : Priv w0 w av n D s) (x y : Int) (hn : n ≤ 4096) (hx : x ≤ 9223372036854775807) (hb : x < 0 ∨ y < 4 ∨ (n : Int) - x < y) : Calls Try.prog 52 #[.pointer (some ⟨D, 0, none⟩), .int .i64 x, .int .i64 y] w fun e w' => e = .returned (.tuple #[noPl, .int .i64 2]) ∧ Below w.heap.size w w' := by
  obtain ⟨u, hu⟩ : ∃ u, u = w.alloc (.cells #[Value.pointer none, Value.int .i64 0, Value.int .i64 0] 83) := ⟨_, rfl⟩
  have a0 : At u w.heap.size 83 [Value.pointer none, Value.int .i64 0, Value.int .i64 0] := by rw [hu]; exact At.new w _ _
  have hB : Below w.heap.size w u := by rw [hu]; exact (Below.refl _ w).alloc (Nat.le_refl _) _
  have hus : u.heap.size = w.heap.size + 1 := by rw [hu, World.size_alloc]
  have hlen : ∀ w', Below w.heap.size w w' → Calls Try.prog 26 #[.pointer (some ⟨D, 0, none⟩)] w' fun e w2 => e = .returned (.int .i64 (n : Int)) ∧ w2 = w' := fun w' b => p_len (h.below b).1
  have HLEN := Lib.hid hlen
  clear hlen h
  have hc : x < 0 ∨ (0 ≤ x ∧ y < 4) ∨ (0 ≤ x ∧ 4 ≤ y ∧ (n : Int) - x < y) := by omega
  rcases hc with c1 | ⟨c1, c2⟩ | ⟨c1, c2, c3⟩
  · have d1 : decide (x < 0) = true := by simpa using c1
    clear hb hn hx
    have hth : u.there w.heap.size 0 #[Value.pointer none, Value.int .i64 0, Value.int .i64 0].size := a0.there 0 3 (by decide)
    have hone : #[Value.pointer none, Value.int .i64 0, Value.int .i64 0].all (·.oneCell') = true := by kernel_rfl
    have hst := a0.setCells [Value.pointer none, Value.int .i64 0, Value.int .i64 0] 0 _ _ (Nat.le_refl _)
    have hend := Touch.below (ft := [w.heap.size]) hB (Touch.setCells w.heap.size (.inl (by simp)) [Value.pointer none, Value.int .i64 0, Value.int .i64 0] 0 _ (Touch.refl _ u)) (by simp) (Nat.le_refl _)
    rw [hu] at hth hst hend
    have HTH := Lib.hid hth
    have HN := Lib.hid hone
    have HST := Lib.hid hst
    have HEND := Lib.hid hend
    have HBL := Lib.hid (hu ▸ hB)
    clear hth hone hst hend hu a0 hB hus
    go_enter Try.func52, Try.ntmps52
    go_wp2_with (first | (with_reducible refine alloc_agg rfl 83 rfl #[Value.pointer none, Value.int .i64 0, Value.int .i64 0] zero_pl ?_) | (with_reducible refine list_val rfl (build_pl0 rfl) ?_) | (with_reducible refine wpList_store_mid rfl 83 (.tmp 6) (.tmp 27) rfl w.heap.size 0 #[Value.pointer none, Value.int .i64 0, Value.int .i64 0] (by kernel_rfl) (by kernel_rfl) HTH.out (by kernel_rfl) HN.out ?_) | (go_at_call 26; refine (HLEN.out _ HBL.out).mono ?_; rintro e w' ⟨rfl, rfl⟩))
    (try simp only [Exit.inBlock, Exit.then])
    refine bodyPost_ret (v := .tuple #[noPl, .int .i64 2]) ?_ rfl ⟨rfl, HEND.out⟩
    exact results_row_tmp (fn := Try.f52) (p := 6) (u := 7) (ty := 83) rfl _ _ w.heap.size 83 #[Value.pointer none, Value.int .i64 0, Value.int .i64 0] (0, 0) _ rfl HST.out Try.underlying83 rfl (by kernel_rfl) _ rfl
  · have d1 : decide (x < 0) = false := by simp; omega
    have d2 : decide (y < 4) = true := by simpa using c2
    clear hb hn hx
    have hth : u.there w.heap.size 0 #[Value.pointer none, Value.int .i64 0, Value.int .i64 0].size := a0.there 0 3 (by decide)
    have hone : #[Value.pointer none, Value.int .i64 0, Value.int .i64 0].all (·.oneCell') = true := by kernel_rfl
    have hst := a0.setCells [Value.pointer none, Value.int .i64 0, Value.int .i64 0] 0 _ _ (Nat.le_refl _)
    have hend := Touch.below (ft := [w.heap.size]) hB (Touch.setCells w.heap.size (.inl (by simp)) [Value.pointer none, Value.int .i64 0, Value.int .i64 0] 0 _ (Touch.refl _ u)) (by simp) (Nat.le_refl _)
    rw [hu] at hth hst hend
    have HTH := Lib.hid hth
    have HN := Lib.hid hone
    have HST := Lib.hid hst
    have HEND := Lib.hid hend
    have HBL := Lib.hid (hu ▸ hB)
    clear hth hone hst hend hu a0 hB hus
    go_enter Try.func52, Try.ntmps52
    go_wp2_with (first | (with_reducible refine alloc_agg rfl 83 rfl #[Value.pointer none, Value.int .i64 0, Value.int .i64 0] zero_pl ?_) | (with_reducible refine list_val rfl (build_pl0 rfl) ?_) | (with_reducible refine wpList_store_mid rfl 83 (.tmp 6) (.tmp 27) rfl w.heap.size 0 #[Value.pointer none, Value.int .i64 0, Value.int .i64 0] (by kernel_rfl) (by kernel_rfl) HTH.out (by kernel_rfl) HN.out ?_) | (go_at_call 26; refine (HLEN.out _ HBL.out).mono ?_; rintro e w' ⟨rfl, rfl⟩))
    (try simp only [Exit.inBlock, Exit.then])
    refine bodyPost_ret (v := .tuple #[noPl, .int .i64 2]) ?_ rfl ⟨rfl, HEND.out⟩
    exact results_row_tmp (fn := Try.f52) (p := 6) (u := 7) (ty := 83) rfl _ _ w.heap.size 83 #[Value.pointer none, Value.int .i64 0, Value.int .i64 0] (0, 0) _ rfl HST.out Try.underlying83 rfl (by kernel_rfl) _ rfl
  · have d1 : decide (x < 0) = false := by simp; omega
    have d2 : decide (y < 4) = false := by simp; omega
    have e1 : IntKind.i64.wrap ((n : Int) - x) = (n : Int) - x := by rw [IntKind.wrap_i64]; omega
    have d3 : decide ((n : Int) - x < y) = true := by simpa using c3
    clear hb hn hx
    have hth : u.there w.heap.size 0 #[Value.pointer none, Value.int .i64 0, Value.int .i64 0].size := a0.there 0 3 (by decide)
    have hone : #[Value.pointer none, Value.int .i64 0, Value.int .i64 0].all (·.oneCell') = true := by kernel_rfl
    have hst := a0.setCells [Value.pointer none, Value.int .i64 0, Value.int .i64 0] 0 _ _ (Nat.le_refl _)
    have hend := Touch.below (ft := [w.heap.size]) hB (Touch.setCells w.heap.size (.inl (by simp)) [Value.pointer none, Value.int .i64 0, Value.int .i64 0] 0 _ (Touch.refl _ u)) (by simp) (Nat.le_refl _)
    rw [hu] at hth hst hend
    have HTH := Lib.hid hth
    have HN := Lib.hid hone
    have HST := Lib.hid hst
    have HEND := Lib.hid hend
    have HBL := Lib.hid (hu ▸ hB)
    clear hth hone hst hend hu a0 hB hus
    go_enter Try.func52, Try.ntmps52
    go_wp2_with (first | (with_reducible refine alloc_agg rfl 83 rfl #[Value.pointer none, Value.int .i64 0, Value.int .i64 0] zero_pl ?_) | (with_reducible refine list_val rfl (build_pl0 rfl) ?_) | (with_reducible refine wpList_store_mid rfl 83 (.tmp 6) (.tmp 27) rfl w.heap.size 0 #[Value.pointer none, Value.int .i64 0, Value.int .i64 0] (by kernel_rfl) (by kernel_rfl) HTH.out (by kernel_rfl) HN.out ?_) | (go_at_call 26; refine (HLEN.out _ HBL.out).mono ?_; rintro e w' ⟨rfl, rfl⟩))
    (try simp only [Exit.inBlock, Exit.then])
    refine bodyPost_ret (v := .tuple #[noPl, .int .i64 2]) ?_ rfl ⟨rfl, HEND.out⟩
    exact results_row_tmp (fn := Try.f52) (p := 6) (u := 7) (ty := 83) rfl _ _ w.heap.size 83 #[Value.pointer none, Value.int .i64 0, Value.int .i64 0] (0, 0) _ rfl HST.out Try.underlying83 rfl (by kernel_rfl) _ rfl
set_option maxHeartbeats 4000000 in
theorem place_ok (h : Priv w0 w av n D s) (a k m : Nat) (hn : n ≤ 4096) (hk : 4 ≤ k) (hb : a + k ≤ n) (hm : m = (k - 2) / 2) : Calls Try.prog 52 #[.pointer (some ⟨D, 0, none⟩), .int .i64 (a : Int), .int .i64 (k : Int)] w fun e w' => e = .returned (.tuple #[Pl.v ⟨D, a, m⟩, .int .i64 0]) ∧ Below w.heap.size w w' := by
  obtain ⟨u, hu⟩ : ∃ u, u = w.alloc (.cells #[Value.pointer none, Value.int .i64 0, Value.int .i64 0] 83) := ⟨_, rfl⟩
  have a0 : At u w.heap.size 83 [Value.pointer none, Value.int .i64 0, Value.int .i64 0] := by rw [hu]; exact At.new w _ _
  have hB : Below w.heap.size w u := by rw [hu]; exact (Below.refl _ w).alloc (Nat.le_refl _) _
  have hus : u.heap.size = w.heap.size + 1 := by rw [hu, World.size_alloc]
  have hlen : ∀ w', Below w.heap.size w w' → Calls Try.prog 26 #[.pointer (some ⟨D, 0, none⟩)] w' fun e w2 => e = .returned (.int .i64 (n : Int)) ∧ w2 = w' := fun w' b => p_len (h.below b).1
  have HLEN := Lib.hid hlen
  clear hlen h
  have d1 : decide ((a : Int) < 0) = false := by simp
  have d2 : decide ((k : Int) < 4) = false := by simp; omega
  have e1 : IntKind.i64.wrap ((n : Int) - a) = (n : Int) - a := by rw [IntKind.wrap_i64]; omega
  have d3 : decide ((n : Int) - a < k) = false := by simp; omega
  have e2 : IntKind.i64.wrap ((k : Int) - 2) = (k : Int) - 2 := by rw [IntKind.wrap_i64]; omega
  have e3 : ((k : Int) - 2).tdiv 2 = (m : Int) := by rw [Int.tdiv_eq_ediv_of_nonneg (by omega)]; omega
  have e4 : IntKind.i64.wrap (m : Int) = (m : Int) := by rw [IntKind.wrap_i64]; omega
  clear hb hn hm hk
  have hth : u.there w.heap.size 0 (Pl.cells ⟨D, a, m⟩).toArray.size := a0.there 0 3 (by decide)
  have hone : (Pl.cells ⟨D, a, m⟩).toArray.all (·.oneCell') = true := all_oneCell_toArray (Pl.one _)
  have hst := a0.setCells (Pl.cells ⟨D, a, m⟩) 0 _ _ (Nat.le_refl _)
  have hend := Touch.below (ft := [w.heap.size]) hB (Touch.setCells w.heap.size (.inl (by simp)) (Pl.cells ⟨D, a, m⟩) 0 _ (Touch.refl _ u)) (by simp) (Nat.le_refl _)
  rw [hu] at hth hst hend
  have HTH := Lib.hid hth
  have HN := Lib.hid hone
  have HST := Lib.hid hst
  have HEND := Lib.hid hend
  have HBL := Lib.hid (hu ▸ hB)
  clear hth hone hst hend hu a0 hB hus
  go_enter Try.func52, Try.ntmps52
  go_wp2_with (first | (with_reducible refine alloc_agg rfl 83 rfl #[Value.pointer none, Value.int .i64 0, Value.int .i64 0] zero_pl ?_) | (with_reducible refine list_val rfl (build_pl (.tmp 28) (.tmp 29) (.tmp 32) rfl ⟨D, a, m⟩ (by kernel_rfl) (by kernel_rfl) (by kernel_rfl)) ?_) | (with_reducible refine wpList_store_mid rfl 83 (.tmp 6) (.tmp 33) rfl w.heap.size 0 (Pl.cells ⟨D, a, m⟩).toArray (by kernel_rfl) (by kernel_rfl) HTH.out (by kernel_rfl) HN.out ?_) | (go_at_call 26; refine (HLEN.out _ HBL.out).mono ?_; rintro e w' ⟨rfl, rfl⟩))
  (try simp only [Exit.inBlock, Exit.then])
  refine bodyPost_ret (v := .tuple #[Pl.v ⟨D, a, m⟩, .int .i64 0]) ?_ rfl ⟨rfl, HEND.out⟩
  exact results_row_tmp (fn := Try.f52) (p := 6) (u := 7) (ty := 83) rfl _ _ w.heap.size 83 (Pl.cells ⟨D, a, m⟩).toArray (0, 0) _ rfl HST.out Try.underlying83 rfl (by kernel_rfl) _ rfl
end
end Go.Proofs.Ytcgjkopdnhkdiaa
