/- The document's disk: the walk of Write. -/
import Derived.Test.YtalphongcnackaaFh
import Derived.Test.YtalphongcnackaaOp
import Derived.Test.YtalphongcnackaaDh
namespace Go.Proofs.Ytalphongcnackaa
open Go.RowKit
set_option maxRecDepth 100000
theorem info_rw : (Try.prog.info? 76).map (fun i => (i.zero, i.size, i.bytes)) = some (some (.agg #[.int .i64 0, .string ⟨#[]⟩]), 2, 24) := by kernel_rfl
theorem zero_rw : ∀ w, (zeroValue 76).run Try.prog w = .ok (.agg #[.int .i64 0, .string ⟨#[]⟩]) w := fun _ => by kernel_rfl
theorem build_rw {o : Oper} {a : Act} {w : World} (x y : Operand) (ho : o.op = .build 76 #[(0, x), (1, y)]) (k : Nat) (hx : a.eval x = .int .i64 (k : Int)) (l : List UInt8) (hy : a.eval y = tv l) :
    (execOp a.eval o).run Try.prog w = .ok (.value (.agg (rcell (k, l)).toArray)) w := by
  have hz := zero_rw w
  unfold execOp
  simp only [ho, List.map_toArray, List.map_cons, List.map_nil, hx, hy]
  simp [go_sem, hz, rcell, tv]
theorem rcell_one (x : Nat × List UInt8) : ∀ v ∈ rcell x, v.oneCell' = true := by
  intro v hv
  simp only [rcell, List.mem_cons, List.not_mem_nil, or_false] at hv
  rcases hv with rfl | rfl <;> rfl
theorem rcells_snoc (ws : List (Nat × List UInt8)) (x : Nat × List UInt8) : rcells (ws ++ [x]) = rcells ws ++ rcell x := by unfold rcells; simp
theorem Own.apart {w : World} {e e2 : TypeId} {size size2 n n2 cap cap2 : Nat} {ao ao2 : Option Addr} {xs xs2 : List Value} (h : Own w e size ao n cap xs) (h2 : Own w e2 size2 ao2 n2 cap2 xs2) (hT : e ≠ e2) : ∀ i, i ∈ blk ao → i ∉ blk ao2 := fun i hi hj => by
  rcases h2.2 with ⟨h0, _⟩ | ⟨g, cap9, cur9, hv9, _, hg9, _⟩
  · cases h0; simp [blk] at hj
  · cases hv9
    simp [blk] at hj
    subst hj
    exact h.type (B := i) (T := e2) (l := cur9.toList) (by unfold At; rw [Array.toArray_toList]; exact hg9) (fun q => hT q.symm) hi
section
variable {w : World} {D : Nat} {fo ao : Option Addr} {fc cap n : Nat} {s : Dk}
theorem refWrite_bad (h : RefAt w D fo fc ao cap n s) (k : Int) (l : List UInt8) (r : Int) (hk : badArg n k l.length = r) (hr0 : (r == 0) = false) (hlm : l.length ≤ 9223372036854775807) :
    Calls Try.prog 23 #[.pointer (some ⟨D, 0, none⟩), .int .i64 k, .string (bs l)] w fun e w' => e = .returned (.int .i64 r) ∧ w' = w := by
  have c0 := h.d.cell 0 _ rfl
  have hl := h.ok.fl
  rw [hl] at c0
  clear h
  unfold badArg at hk
  by_cases h0 : k < 0
  · rw [if_pos (.inl h0)] at hk
    subst hk
    have k1 : decide (k < 0) = true := by simpa using h0
    go_enter Try.func23, Try.ntmps23
    go_wp2
    go_ret
    exact ⟨rfl, rfl⟩
  · have k1 : decide (k < 0) = false := by simpa using h0
    by_cases h1 : (n : Int) ≤ k
    · rw [if_pos (.inr h1)] at hk
      subst hk
      have k2 : decide ((n : Int) ≤ k) = true := by simpa using h1
      go_enter Try.func23, Try.ntmps23
      go_wp2
      go_ret
      exact ⟨rfl, rfl⟩
    · have k2 : decide ((n : Int) ≤ k) = false := by simpa using h1
      rw [if_neg (by omega)] at hk
      by_cases h2 : (128 : Int) < l.length
      · rw [if_pos h2] at hk
        subst hk
        have k3 : decide ((128 : Int) < l.length) = true := by simpa using h2
        go_enter Try.func23, Try.ntmps23
        go_wp2
        go_ret
        exact ⟨rfl, rfl⟩
      · rw [if_neg h2] at hk
        subst hk
        exact absurd hr0 (by decide)
theorem refWrite_off (h : RefAt w D fo fc ao cap n s) (k : Int) (l : List UInt8) (h0 : 0 ≤ k) (h1 : k < n) (hl : l.length ≤ 128) (ho : s.ops < 9223372036854775807) (hoff : s.tick.off = true) :
    Calls Try.prog 23 #[.pointer (some ⟨D, 0, none⟩), .int .i64 k, .string (bs l)] w fun e w' => e = .returned (.int .i64 11) ∧ RefAt w' D fo fc ao cap n s.tick ∧ Touch [D] w w' := by
  have c0 := h.d.cell 0 _ rfl
  have hfl := h.ok.fl
  rw [hfl] at c0
  have H := Lib.hid h
  have HO := Lib.hid hoff
  clear h hoff
  have k1 : decide (k < 0) = false := by simp; omega
  have k2 : decide ((n : Int) ≤ k) = false := by simp; omega
  have k3 : decide ((128 : Int) < l.length) = false := by simp; omega
  go_enter Try.func23, Try.ntmps23
  go_wp2_with fail
  refine (refOp_any H.out ho).mono ?_
  rintro e w1 ⟨rfl, h1, t1⟩
  rw [HO.out]
  go_wp2
  go_ret
  exact ⟨rfl, h1, t1⟩
/-- what a Write leaves -/
def RefWent (w : World) (D : Nat) (fo : Option Addr) (fc : Nat) (ao : Option Addr) (n : Nat) (s' : Dk) (w' : World) : Prop :=
  ∃ ao' cap', RefAt w' D fo fc ao' cap' n s' ∧ Touch (D :: blk ao) w w' ∧ ∀ i, i ∈ blk ao' → i ∈ blk ao ∨ w.heap.size ≤ i
set_option maxHeartbeats 4000000 in
theorem refWrite_ok (h : RefAt w D fo fc ao cap n s) (k : Nat) (l : List UInt8) (h1 : k < n) (hl : l.length ≤ 128) (ho : s.ops < 9223372036854775807) (hoff : s.tick.off = false) (hwl : s.ws.length ≤ 1000000) :
    Calls Try.prog 23 #[.pointer (some ⟨D, 0, none⟩), .int .i64 (k : Int), .string (bs l)] w fun e w' => e = .returned (.int .i64 0) ∧ RefWent w D fo fc ao n (s.tick.put k l) w' := by
  have c0 := h.d.cell 0 _ rfl
  have hfl := h.ok.fl
  rw [hfl] at c0
  have hws : s.tick.ws = s.ws := s.tick_ws
  have hwl1 : s.tick.ws.length ≤ 1000000 := by rw [hws]; exact hwl
  have c := refOp_any h ho
  rw [hoff] at c
  have C := Lib.hid c
  have HLT := Lib.hid h.lt
  clear h hfl hws c hoff
  generalize s.tick = s1 at *
  clear hwl ho
  have k1 : decide ((k : Int) < 0) = false := by simp
  have k2 : decide ((n : Int) ≤ (k : Int)) = false := by simp; omega
  have k3 : decide ((128 : Int) < l.length) = false := by simp; omega
  obtain ⟨iw, hiw, hz0, hz1, hz2⟩ := info_parts info_rw
  have HI := Lib.hid (And.intro hiw (And.intro hz0 (And.intro hz1 hz2)))
  clear hiw hz0 hz1 hz2
  go_enter Try.func23, Try.ntmps23
  go_wp2_with fail
  refine C.out.mono ?_
  rintro e w1 ⟨rfl, h1', t1⟩
  have H1 := Lib.hid h1'
  have T1 := Lib.hid t1
  clear h1' t1 C c0
  go_wp2_with fail
  refine region_any (fun W => W.cell? ⟨D, 1, none⟩ = some (.slice ao s1.ws.length cap)) 17 (by kernel_rfl) ?_
  have cc : (heads fo fc ao cap s1)[1]? = some (.slice ao s1.ws.length cap) := rfl
  have S0 : (w1.drew).cell? ⟨D, 1, none⟩ = some (.slice ao s1.ws.length cap) := H1.out.drew.d.cell 1 _ cc
  refine wpAnyT_take (i := 0) rfl rfl (by kernel_rfl) (by kernel_rfl) (by kernel_rfl) (by kernel_rfl) (fun _ _ _ h => h) (.inl ⟨by kernel_rfl, fun _ _ => rfl⟩) S0 ?_
  refine wpAnyT_take (i := 1) rfl rfl (by kernel_rfl) (by kernel_rfl) (by kernel_rfl) (by kernel_rfl) (fun _ _ _ h => h) (.inl ⟨by kernel_rfl, fun _ _ => rfl⟩) S0 ?_
  refine wpAnyT_take (i := 2) rfl rfl (by kernel_rfl) (by kernel_rfl) (by kernel_rfl) (by kernel_rfl) (fun _ _ _ h => h) (.inl ⟨by kernel_rfl, fun _ _ => rfl⟩) S0 ?_
  refine wpAnyT_take (i := 3) rfl rfl (by kernel_rfl) (by kernel_rfl) (by kernel_rfl) (by kernel_rfl) (fun _ _ _ h => h) (.inl ⟨by kernel_rfl, fun _ _ => rfl⟩) S0 ?_
  refine wpAnyT_take (i := 4) rfl rfl (by kernel_rfl) (by kernel_rfl) (by kernel_rfl) (by kernel_rfl) (fun _ _ _ h => h) (.inl ⟨by kernel_rfl, fun W hS => run_load_one 40 (.tmp 27) rfl ⟨D, 1, none⟩ (by kernel_rfl) _ hS _ Try.underlying40 rfl⟩) S0 ?_
  refine wpAnyT_take (i := 5) rfl rfl (by kernel_rfl) (by kernel_rfl) (by kernel_rfl) (by kernel_rfl) (fun _ _ _ h => h) (.inl ⟨by kernel_rfl, fun _ _ => rfl⟩) S0 ?_
  refine wpAnyT_take (i := 6) rfl rfl (by kernel_rfl) (by kernel_rfl) (by kernel_rfl) (by kernel_rfl) (fun _ _ _ h => h) (.inl ⟨by kernel_rfl, fun _ _ => rfl⟩) S0 ?_
  refine wpAnyT_take (i := 7) rfl rfl (by kernel_rfl) (by kernel_rfl) (by kernel_rfl) (by kernel_rfl) (fun _ _ _ h => h) (.inl ⟨by kernel_rfl, fun _ _ => rfl⟩) S0 ?_
  refine wpAnyT_take (i := 8) rfl rfl (by kernel_rfl) (by kernel_rfl) (by kernel_rfl) (by kernel_rfl) (fun _ _ _ h => h) (.inl ⟨by kernel_rfl, fun _ _ => run_len_str (.tmp 31) rfl l (by kernel_rfl)⟩) S0 ?_
  refine wpAnyT_take (i := 9) rfl rfl (by kernel_rfl) (by kernel_rfl) (by kernel_rfl) (by kernel_rfl) (fun _ _ _ h => h) (.inl ⟨by kernel_rfl, fun _ _ => run_sub_op (.const (.int .i64 128)) (.tmp 32) rfl 128 (l.length : Int) ((128 - l.length : Nat) : Int) (by kernel_rfl) (by kernel_rfl) (by rw [IntKind.wrap_i64]; omega)⟩) S0 ?_
  refine wpAnyT_all (rs := [10]) (by kernel_rfl) (by simp) ?_
  intro q hq
  obtain rfl : q = 10 := by simpa using hq
  refine wpOp_call rfl (by kernel_rfl) 38 #[.int .i64 ((128 - l.length : Nat) : Int)] (run_call_func rfl enter_noughts _ (by kernel_rfl)) ((noughts_any (128 - l.length) (by omega) _).mono ?_)
  rintro e w2 ⟨rfl, b2⟩
  have h2 := H1.out.drew.below b2
  have t2 := (Touch.refl (D :: blk ao) w1).drew.step (Touch.of_below (ft := []) b2) (by simp)
  refine ⟨_, rfl, fun _ => h2.d.cell 1 _ cc, ?_⟩
  have hp : l ++ List.replicate (128 - l.length) 0 = pad l := rfl
  refine wpAnyT_all (rs := [11]) (by kernel_rfl) (by simp) ?_
  intro q hq
  obtain rfl : q = 11 := by simpa using hq
  refine wpOp_val rfl (by kernel_rfl) (run_cat_op (.tmp 30) (.tmp 34) rfl l (List.replicate (128 - l.length) 0) (by kernel_rfl) (by kernel_rfl) (by rw [List.length_replicate]; omega)) ⟨fun _ => h2.d.cell 1 _ cc, ?_⟩
  rw [hp]
  refine wpAnyT_all (rs := [12]) (by kernel_rfl) (by simp) ?_
  intro q hq
  obtain rfl : q = 12 := by simpa using hq
  refine wpOp_val rfl (by kernel_rfl) (build_rw (.tmp 29) (.tmp 35) rfl k (by kernel_rfl) (pad l) (by kernel_rfl)) ⟨fun _ => h2.d.cell 1 _ cc, ?_⟩
  refine wpAnyT_all (rs := [13]) (by kernel_rfl) (by simp) ?_
  intro q hq
  obtain rfl : q = 13 := by simpa using hq
  refine wpOp_val rfl (by kernel_rfl) (run_build_op 40 (.tmp 36) rfl (.agg (rcell (k, pad l)).toArray) (by kernel_rfl) (build_one w2 40 76 _ iw _ 2 Try.underlying40 HI.out.1 HI.out.2.1 HI.out.2.2.1 rfl (by omega) (by omega))) ⟨fun _ => (h2.alloc _).d.cell 1 _ cc, ?_⟩
  have HH3 := Lib.hid (h2.alloc (.cells (rcell (k, pad l)).toArray 76))
  have a3 := At.new w2 (rcell (k, pad l)).toArray 76
  have T3 := Lib.hid (t2.alloc (.cells (rcell (k, pad l)).toArray 76))
  have z3 : (w2.alloc (.cells (rcell (k, pad l)).toArray 76)).heap.size = w2.heap.size + 1 := World.size_alloc _ _
  have z2 : w1.heap.size ≤ w2.heap.size := b2.size
  generalize w2.alloc (.cells (rcell (k, pad l)).toArray 76) = w3 at *
  obtain ⟨ao', cap', w6, hrun, o6, t6, hblk⟩ := run_append_any (P := Try.prog) w3 40 40 76 iw _ 2 24 Try.underlying40 HI.out.1 HI.out.2.1 HI.out.2.2.1 HI.out.2.2.2 rfl (by omega) ao s1.ws.length cap _ HH3.out.w w2.heap.size 1 1 _ a3 rfl (rcell_one _) (by omega) (by unfold maxLen; omega) (by omega)
  have d6 := HH3.out.d.touch t6 HH3.out.da
  refine wpAnyT_all (rs := [14]) (by kernel_rfl) (by simp) ?_
  intro q hq
  obtain rfl : q = 14 := by simpa using hq
  refine wpOp_val rfl (by kernel_rfl) (run_append_op (.tmp 28) (.tmp 37) 40 40 rfl (.slice ao s1.ws.length cap) (.slice (some ⟨w2.heap.size, 0, none⟩) 1 1) (by kernel_rfl) (by kernel_rfl) hrun) ⟨fun _ => d6.cell 1 _ cc, ?_⟩
  refine wpAnyT_all (rs := [15]) (by kernel_rfl) (by simp) ?_
  intro q hq
  obtain rfl : q = 15 := by simpa using hq
  refine wpOp_val (w' := w6) (v := .pointer (some ⟨D, 0, none⟩)) rfl (by kernel_rfl) (by kernel_rfl) ⟨fun _ => d6.cell 1 _ cc, ?_⟩
  refine wpAnyT_all (rs := [16]) (by kernel_rfl) (by simp) ?_
  intro q hq
  obtain rfl : q = 16 := by simpa using hq
  refine wpOp_val (w' := w6) (v := .pointer (some ⟨D, 1, none⟩)) rfl (by kernel_rfl) (by kernel_rfl) ⟨fun _ => d6.cell 1 _ cc, ?_⟩
  refine wpAnyT_all (rs := [17]) (by kernel_rfl) (by simp) ?_
  intro q hq
  obtain rfl : q = 17 := by simpa using hq
  refine wpOp_skip rfl (by kernel_rfl) (run_store_slice 40 76 (.tmp 40) (.tmp 38) rfl D 1 (by kernel_rfl) ao' (s1.ws.length + 1) cap' (by kernel_rfl) _ (d6.cell 1 _ cc) (d6.frozen 1) Try.underlying40 (by kernel_rfl)) ⟨fun h => absurd rfl h, wpAnyT_done (by kernel_rfl) ?_ _⟩
  go_wp2
  go_ret
  have hz1 := T1.out.size
  have hs : D ∉ blk ao' := o6.type d6 (by decide)
  have ok := H1.out.ok
  have tD : Touch [D] w6 (w6.setCell ⟨D, 1, none⟩ (.slice ao' (s1.ws.length + 1) cap')) := (Touch.refl [D] w6).setCell ⟨D, 1, none⟩ _ (.inl (by simp))
  have hok : (s1.put k l).Ok n := ⟨ok.n1, ok.n2, ok.fl, ok.f128, fun x hx => by
    simp only [Dk.put, List.mem_append, List.mem_singleton] at hx
    rcases hx with hx | rfl
    · exact ok.ws x hx
    · exact ⟨h1, pad_len l hl⟩, ok.f1, ok.f2⟩
  refine ⟨rfl, ao', cap', ⟨?_, ?_, ?_, hok⟩, ?_, fun i hi => ?_⟩
  · have := d6.setCell 1 (.slice ao' (s1.ws.length + 1) cap')
    have e : (heads fo fc ao cap s1).set 1 (.slice ao' (s1.ws.length + 1) cap') = heads fo fc ao' cap' (s1.put k l) := by unfold heads Dk.put; rw [List.length_append]; rfl
    rwa [e] at this
  · exact (HH3.out.f.touch t6 (HH3.out.f.apart HH3.out.w (by decide))).touch tD (fun i hi => by simp; rintro rfl; exact HH3.out.df hi)
  · have := o6.touch tD (fun i hi => by simp; rintro rfl; exact hs hi)
    have e : (s1.put k l).ws = s1.ws ++ [(k, pad l)] := rfl
    rw [e, rcells_snoc, List.length_append]
    exact this
  · exact (((T1.out.mono (by simp)).step T3.out (fun i hi => .inl hi)).step t6 (fun i hi => .inl (by simp [hi]))).setCell _ _ (.inl (by simp))
  · rcases hblk with h | ⟨g, h, hg⟩
    · rw [h] at hi; exact .inl hi
    · rw [h] at hi; simp at hi; right; omega
end
end Go.Proofs.Ytalphongcnackaa
