/- What a head's sector says. -/
import Derived.Test.YtcgjkopdnhkdiaaJg
import Derived.Laws.ResultCell
namespace Go.Proofs.Ytcgjkopdnhkdiaa
open Go.RowKit
set_option maxRecDepth 100000
theorem results_row_tmp {P : Program} {fn : Func} {p u : Tmp} {ty : TypeId} (h : fn.results = #[.cell p ty, .tmp u]) (tmps : Array Value) (w : World) (g : Nat) (t : TypeId) (cs : Array Value) (fr : Nat × Nat) (d : TypeDesc)
    (hp : tmps.getD p undef = .pointer (some ⟨g, 0, none⟩)) (hg : w.heap[g]? = some (.cells cs t fr))
    (hu : P.underlying ty = some d) (hd : (match d with | .struct _ | .array _ _ => true | _ => false) = true) (hi : (P.info? ty).map (·.size) = some cs.size) (v : Value) (hv : tmps.getD u undef = v) :
    (results fn tmps).run P w = .ok (.tuple #[.agg cs, v]) w := by
  have hp' : tmps[p]?.getD undef = .pointer (some ⟨g, 0, none⟩) := by simpa using hp
  have hv' : tmps[u]?.getD undef = v := by simpa using hv
  rw [results_cell_tmp h]
  simp [hp', hv', asAddr, run_loadVar_row w g t ty cs fr d hg hu hd hi, Result.andThen]
theorem bs_extract (l : List UInt8) (a b : Nat) : (bs l).extract a b = bs ((l.drop a).take (b - a)) := by
  apply ByteArray.ext
  rw [ByteArray.data_extract]
  unfold bs
  apply Array.ext'
  simp [List.take_drop]
def wholeL (l : List UInt8) : Bool := decide (l.take 16 = (l.drop 64).take 16)
theorem bs_inj {a b : List UInt8} (h : bs a = bs b) : a = b := by
  have := congrArg (fun x => x.data.toList) h
  simpa [data_bs] using this
theorem bs_eq (a b : List UInt8) : ((bs a).toList == (bs b).toList) = decide (a = b) := by
  rw [bs_toList, bs_toList, Bool.eq_iff_iff]
  simp
theorem isWhole_any (l : List UInt8) (hl : l.length = 128) (w : World) :
    Calls Try.prog 80 #[.string (bs l)] w fun e w' => e = .returned (.bool (wholeL l)) ∧ Below w.heap.size w w' := by
  have h1 : ∀ W : World, (Instr.sliceAt 9 (.string (bs l)) none (some (.int .i64 16)) none).run Try.prog W = .ok (.string (bs (l.take 16))) W := fun W => by
    simp [go_sem, run_underlying Try.underlying9, bs_size, hl, bs_take_bs]
  have h2 : ∀ W : World, (Instr.sliceAt 9 (.string (bs l)) (some (.int .i64 64)) (some (.int .i64 80)) none).run Try.prog W = .ok (.string (bs ((l.drop 64).take 16))) W := fun W => by
    simp [go_sem, run_underlying Try.underlying9, bs_size, hl, bs_extract]
  have h3 : wholeL l = ((bs (l.take 16)).toList == (bs ((l.drop 64).take 16)).toList) := by rw [bs_eq]; rfl
  rw [h3]
  generalize bs (l.take 16) = x at *
  generalize bs ((l.drop 64).take 16) = y at *
  generalize bs l = z at *
  clear h3 hl
  go_enter Try.func80, Try.ntmps80
  go_wp2_with fail
  go_quiet (fail)
  go_wp2
  go_ret
  exact ⟨rfl, below_drewN _ _⟩
/-- what a head's sector says, where a half has so many bytes -/
def headL (l : List UInt8) (space : Nat) : Option Hd :=
  if wholeL l = true ∧ numL (l.take 8) ≠ 0 ∧ numL ((l.drop 8).take 4) ≤ 1 ∧ numL ((l.drop 12).take 4) ≤ space then some ⟨numL (l.take 8), numL ((l.drop 8).take 4), numL ((l.drop 12).take 4)⟩ else none
def headV : Option Hd → Value
  | some h => .tuple #[.agg h.cells.toArray, .bool true]
  | none => .tuple #[.agg #[.int .u64 0, .int .i64 0, .int .i64 0], .bool false]
theorem zero_hd : ∀ w, (zeroValue 85).run Try.prog w = .ok (.agg #[.int .u64 0, .int .i64 0, .int .i64 0]) w := fun _ => by kernel_rfl
theorem build_hd0 {o : Oper} {a : Act} {w : World} (ho : o.op = .build 85 #[]) : (execOp a.eval o).run Try.prog w = .ok (.value (.agg #[.int .u64 0, .int .i64 0, .int .i64 0])) w := by
  have hz := zero_hd w
  unfold execOp
  simp only [ho]
  simp [go_sem, hz]
theorem build_hd {o : Oper} {a : Act} {w : World} (x y z : Operand) (ho : o.op = .build 85 #[(0, x), (1, y), (2, z)]) (h : Hd) (hx : a.eval x = .int .u64 (h.num : Int)) (hy : a.eval y = .int .i64 (h.half : Int)) (hz' : a.eval z = .int .i64 (h.size : Int)) :
    (execOp a.eval o).run Try.prog w = .ok (.value (.agg h.cells.toArray)) w := by
  have hz := zero_hd w
  unfold execOp
  simp only [ho, List.map_toArray, List.map_cons, List.map_nil, hx, hy, hz']
  simp [go_sem, hz, Hd.cells]
theorem Hd.one (h : Hd) : ∀ v ∈ h.cells, v.oneCell' = true := by
  intro v hv
  simp only [Hd.cells, List.mem_cons, List.not_mem_nil, or_false] at hv
  rcases hv with rfl | rfl | rfl <;> rfl
set_option maxHeartbeats 4000000 in
theorem headOf_any (l : List UInt8) (space : Nat) (hs : space ≤ 1000000) (hl : l.length = 128) (w : World) :
    Calls Try.prog 78 #[.string (bs l), .int .i64 (space : Int)] w fun e w' => e = .returned (headV (headL l space)) ∧ Below w.heap.size w w' := by
  have h1 : ∀ W : World, (Instr.sliceAt 9 (.string (bs l)) none (some (.int .i64 8)) none).run Try.prog W = .ok (.string (bs (l.take 8))) W := fun W => by
    simp [go_sem, run_underlying Try.underlying9, bs_size, hl, bs_take_bs]
  have h2 : ∀ W : World, (Instr.sliceAt 9 (.string (bs l)) (some (.int .i64 8)) (some (.int .i64 12)) none).run Try.prog W = .ok (.string (bs ((l.drop 8).take 4))) W := fun W => by
    simp [go_sem, run_underlying Try.underlying9, bs_size, hl, bs_extract]
  have h3 : ∀ W : World, (Instr.sliceAt 9 (.string (bs l)) (some (.int .i64 12)) (some (.int .i64 16)) none).run Try.prog W = .ok (.string (bs ((l.drop 12).take 4))) W := fun W => by
    simp [go_sem, run_underlying Try.underlying9, bs_size, hl, bs_extract]
  have hw := isWhole_any l hl
  have n1 := numberOf_any (l.take 8) (by rw [List.length_take]; omega)
  have n2 := numberOf_any ((l.drop 8).take 4) (by rw [List.length_take]; omega)
  have n3 := numberOf_any ((l.drop 12).take 4) (by rw [List.length_take]; omega)
  have b2 := numL_lt ((l.drop 8).take 4)
  have b3 := numL_lt ((l.drop 12).take 4)
  rw [show ((l.drop 8).take 4).length = 4 by rw [List.length_take, List.length_drop]; omega] at b2
  rw [show ((l.drop 12).take 4).length = 4 by rw [List.length_take, List.length_drop]; omega] at b3
  have HW := Lib.hid hw
  have N1 := Lib.hid n1
  have N2 := Lib.hid n2
  have N3 := Lib.hid n3
  unfold headL
  clear hw n1 n2 n3
  generalize wholeL l = wh at *
  generalize numL (l.take 8) = x1 at *
  generalize numL ((l.drop 8).take 4) = x2 at *
  generalize numL ((l.drop 12).take 4) = x3 at *
  generalize bs (l.take 8) = s1 at *
  generalize bs ((l.drop 8).take 4) = s2 at *
  generalize bs ((l.drop 12).take 4) = s3 at *
  generalize bs l = s0 at *
  clear hl
  obtain ⟨R, hR⟩ : ∃ R, R = headV (if wh = true ∧ x1 ≠ 0 ∧ x2 ≤ 1 ∧ x3 ≤ space then some ⟨x1, x2, x3⟩ else none) := ⟨_, rfl⟩
  rw [← hR]
  have HRES := Lib.hid hR
  clear hR
  have e1 : IntKind.u64.wrap (space : Int) = (space : Int) := by simp only [IntKind.wrap, IntKind.bits, IntKind.signed]; simp; omega
  obtain ⟨u, hu⟩ : ∃ u, u = w.alloc (.cells #[.int .u64 0, .int .i64 0, .int .i64 0] 85) := ⟨_, rfl⟩
  have a0 : At u w.heap.size 85 [.int .u64 0, .int .i64 0, .int .i64 0] := by rw [hu]; exact At.new w _ _
  have hB : Below w.heap.size w u := by rw [hu]; exact (Below.refl _ w).alloc (Nat.le_refl _) _
  have hus : u.heap.size = w.heap.size + 1 := by rw [hu, World.size_alloc]
  have HU := Lib.hid hu
  have A0 := Lib.hid a0
  have HB := Lib.hid hB
  clear hu a0 hB
  go_enter Try.func78, Try.ntmps78
  go_wp2_with (first | (with_reducible refine alloc_agg rfl 85 rfl #[.int .u64 0, .int .i64 0, .int .i64 0] zero_hd ?_))
  rw [← HU.out]
  generalize hb0 : w.heap.size = b0 at *
  clear HU
  refine (N1.out _).mono ?_
  rintro e v ⟨rfl, rfl⟩
  go_wp2_with fail
  refine (N2.out _).mono ?_
  rintro e v ⟨rfl, rfl⟩
  go_wp2_with fail
  refine (N3.out _).mono ?_
  rintro e v ⟨rfl, rfl⟩
  clear h1 h2 h3
  go_wp2_with fail
  refine (HW.out _).mono ?_
  rintro e v1 ⟨rfl, bv1⟩
  have A1 := Lib.hid (A0.out.below bv1 A0.out.lt)
  have HB1 := Lib.hid (HB.out.trans (bv1.mono (by omega)))
  clear HW N1 N2 N3 A0 HB bv1
  cases wh
  · clear e1 b2 b3
    have hth : v1.there b0 0 #[Value.int .u64 0, Value.int .i64 0, Value.int .i64 0].size := A1.out.there 0 3 (by decide)
    have hone : #[Value.int .u64 0, Value.int .i64 0, Value.int .i64 0].all (·.oneCell') = true := by kernel_rfl
    have hst := A1.out.setCells [Value.int .u64 0, Value.int .i64 0, Value.int .i64 0] 0 _ _ (Nat.le_refl _)
    have HTH := Lib.hid hth
    have HN := Lib.hid hone
    have HST := Lib.hid hst
    clear hth hone hst
    go_wp2_with (first | (with_reducible refine list_val rfl (build_hd0 rfl) ?_) | (with_reducible refine wpList_store_mid rfl 85 (.tmp 4) (.tmp 35) rfl b0 0 #[Value.int .u64 0, Value.int .i64 0, Value.int .i64 0] (by kernel_rfl) (by kernel_rfl) HTH.out (by kernel_rfl) HN.out ?_))
    (try simp only [Exit.inBlock, Exit.then])
    refine bodyPost_ret (v := headV none) ?_ rfl ⟨ret_of ?_, ?_⟩
    · exact results_row_tmp (fn := Try.f78) (p := 4) (u := 5) (ty := 85) rfl _ _ b0 85 #[Value.int .u64 0, Value.int .i64 0, Value.int .i64 0] (0, 0) _ rfl HST.out Try.underlying85 rfl (by kernel_rfl) _ rfl
    · rw [HRES.out, if_neg (fun h => by cases h.1)]
    · rw [hb0]
      exact Touch.below (ft := [b0]) HB1.out (Touch.setCells b0 (.inl (by simp)) _ _ _ (Touch.refl _ _)) (by simp) (by omega)
  · by_cases c1 : x1 = 0
    · subst c1
      clear e1 b2 b3
      have hth : v1.there b0 0 #[Value.int .u64 0, Value.int .i64 0, Value.int .i64 0].size := A1.out.there 0 3 (by decide)
      have hone : #[Value.int .u64 0, Value.int .i64 0, Value.int .i64 0].all (·.oneCell') = true := by kernel_rfl
      have hst := A1.out.setCells [Value.int .u64 0, Value.int .i64 0, Value.int .i64 0] 0 _ _ (Nat.le_refl _)
      have HTH := Lib.hid hth
      have HN := Lib.hid hone
      have HST := Lib.hid hst
      clear hth hone hst
      go_wp2_with (first | (with_reducible refine list_val rfl (build_hd0 rfl) ?_) | (with_reducible refine wpList_store_mid rfl 85 (.tmp 4) (.tmp 35) rfl b0 0 #[Value.int .u64 0, Value.int .i64 0, Value.int .i64 0] (by kernel_rfl) (by kernel_rfl) HTH.out (by kernel_rfl) HN.out ?_))
      (try simp only [Exit.inBlock, Exit.then])
      refine bodyPost_ret (v := headV none) ?_ rfl ⟨ret_of ?_, ?_⟩
      · exact results_row_tmp (fn := Try.f78) (p := 4) (u := 5) (ty := 85) rfl _ _ b0 85 #[Value.int .u64 0, Value.int .i64 0, Value.int .i64 0] (0, 0) _ rfl HST.out Try.underlying85 rfl (by kernel_rfl) _ rfl
      · rw [HRES.out, if_neg (fun h => h.2.1 rfl)]
      · rw [hb0]
        exact Touch.below (ft := [b0]) HB1.out (Touch.setCells b0 (.inl (by simp)) _ _ _ (Touch.refl _ _)) (by simp) (by omega)
    · have q1 : ((x1 : Int) == 0) = false := by simp; exact c1
      by_cases c2 : 2 ≤ x2
      · have q2 : decide ((2 : Int) ≤ (x2 : Int)) = true := by simp; omega
        clear e1 b2 b3
        have hth : v1.there b0 0 #[Value.int .u64 0, Value.int .i64 0, Value.int .i64 0].size := A1.out.there 0 3 (by decide)
        have hone : #[Value.int .u64 0, Value.int .i64 0, Value.int .i64 0].all (·.oneCell') = true := by kernel_rfl
        have hst := A1.out.setCells [Value.int .u64 0, Value.int .i64 0, Value.int .i64 0] 0 _ _ (Nat.le_refl _)
        have HTH := Lib.hid hth
        have HN := Lib.hid hone
        have HST := Lib.hid hst
        clear hth hone hst
        go_wp2_with (first | (with_reducible refine list_val rfl (build_hd0 rfl) ?_) | (with_reducible refine wpList_store_mid rfl 85 (.tmp 4) (.tmp 35) rfl b0 0 #[Value.int .u64 0, Value.int .i64 0, Value.int .i64 0] (by kernel_rfl) (by kernel_rfl) HTH.out (by kernel_rfl) HN.out ?_))
        (try simp only [Exit.inBlock, Exit.then])
        refine bodyPost_ret (v := headV none) ?_ rfl ⟨ret_of ?_, ?_⟩
        · exact results_row_tmp (fn := Try.f78) (p := 4) (u := 5) (ty := 85) rfl _ _ b0 85 #[Value.int .u64 0, Value.int .i64 0, Value.int .i64 0] (0, 0) _ rfl HST.out Try.underlying85 rfl (by kernel_rfl) _ rfl
        · rw [HRES.out, if_neg (by omega)]
        · rw [hb0]
          exact Touch.below (ft := [b0]) HB1.out (Touch.setCells b0 (.inl (by simp)) _ _ _ (Touch.refl _ _)) (by simp) (by omega)
      · have q2 : decide ((2 : Int) ≤ (x2 : Int)) = false := by simp; omega
        by_cases c3 : space < x3
        · have q3 : decide ((space : Int) < (x3 : Int)) = true := by simp; omega
          clear b2 b3
          have hth : v1.there b0 0 #[Value.int .u64 0, Value.int .i64 0, Value.int .i64 0].size := A1.out.there 0 3 (by decide)
          have hone : #[Value.int .u64 0, Value.int .i64 0, Value.int .i64 0].all (·.oneCell') = true := by kernel_rfl
          have hst := A1.out.setCells [Value.int .u64 0, Value.int .i64 0, Value.int .i64 0] 0 _ _ (Nat.le_refl _)
          have HTH := Lib.hid hth
          have HN := Lib.hid hone
          have HST := Lib.hid hst
          clear hth hone hst
          go_wp2_with (first | (with_reducible refine list_val rfl (build_hd0 rfl) ?_) | (with_reducible refine wpList_store_mid rfl 85 (.tmp 4) (.tmp 35) rfl b0 0 #[Value.int .u64 0, Value.int .i64 0, Value.int .i64 0] (by kernel_rfl) (by kernel_rfl) HTH.out (by kernel_rfl) HN.out ?_))
          (try simp only [Exit.inBlock, Exit.then])
          refine bodyPost_ret (v := headV none) ?_ rfl ⟨ret_of ?_, ?_⟩
          · exact results_row_tmp (fn := Try.f78) (p := 4) (u := 5) (ty := 85) rfl _ _ b0 85 #[Value.int .u64 0, Value.int .i64 0, Value.int .i64 0] (0, 0) _ rfl HST.out Try.underlying85 rfl (by kernel_rfl) _ rfl
          · rw [HRES.out, if_neg (by omega)]
          · rw [hb0]
            exact Touch.below (ft := [b0]) HB1.out (Touch.setCells b0 (.inl (by simp)) _ _ _ (Touch.refl _ _)) (by simp) (by omega)
        · have q3 : decide ((space : Int) < (x3 : Int)) = false := by simp; omega
          have e2 : IntKind.i64.wrap (x2 : Int) = (x2 : Int) := by rw [IntKind.wrap_i64]; omega
          have e3 : IntKind.i64.wrap (x3 : Int) = (x3 : Int) := by rw [IntKind.wrap_i64]; omega
          clear b2 b3
          have hth : v1.there b0 0 (Hd.cells ⟨x1, x2, x3⟩).toArray.size := A1.out.there 0 3 (by decide)
          have hone : (Hd.cells ⟨x1, x2, x3⟩).toArray.all (·.oneCell') = true := all_oneCell_toArray (Hd.one _)
          have hst := A1.out.setCells (Hd.cells ⟨x1, x2, x3⟩) 0 _ _ (Nat.le_refl _)
          have HTH := Lib.hid hth
          have HN := Lib.hid hone
          have HST := Lib.hid hst
          clear hth hone hst
          go_wp2_with (first | (with_reducible refine list_val rfl (build_hd (.tmp 36) (.tmp 38) (.tmp 40) rfl ⟨x1, x2, x3⟩ (by kernel_rfl) (by kernel_rfl) (by kernel_rfl)) ?_) | (with_reducible refine wpList_store_mid rfl 85 (.tmp 4) (.tmp 41) rfl b0 0 (Hd.cells ⟨x1, x2, x3⟩).toArray (by kernel_rfl) (by kernel_rfl) HTH.out (by kernel_rfl) HN.out ?_))
          (try simp only [Exit.inBlock, Exit.then])
          refine bodyPost_ret (v := headV (some ⟨x1, x2, x3⟩)) ?_ rfl ⟨ret_of ?_, ?_⟩
          · exact results_row_tmp (fn := Try.f78) (p := 4) (u := 5) (ty := 85) rfl _ _ b0 85 (Hd.cells ⟨x1, x2, x3⟩).toArray (0, 0) _ rfl HST.out Try.underlying85 rfl (by kernel_rfl) _ rfl
          · rw [HRES.out, if_pos ⟨by first | rfl | trivial, by omega, by omega, by omega⟩]
          · rw [hb0]
            exact Touch.below (ft := [b0]) HB1.out (Touch.setCells b0 (.inl (by simp)) _ _ _ (Touch.refl _ _)) (by simp) (by omega)
end Go.Proofs.Ytcgjkopdnhkdiaa
