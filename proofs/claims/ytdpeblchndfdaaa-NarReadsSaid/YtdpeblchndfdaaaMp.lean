/- Size and Check of trees of many nodes. -/
import Derived.Test.YtdpeblchndfdaaaTx
namespace Go.Proofs.Ytdpeblchndfdaaa
open Go.RowKit Go.Shelf
attribute [local go_sem] Oper.semAt_some
set_option maxRecDepth 100000
/-- a node whose data are of so many bytes, at most -/
def GoodD (D : Nat) (p : Nat × Nd) : Prop := p.1 ≤ 65536 ∧ p.2.data.length ≤ D
abbrev ElD (D : Nat) := { x : El // GoodD D x.nd }
def dataD {D : Nat} (l : List (ElD D)) : Nat := (l.map (fun x => x.1.2.1.data.length)).sum
theorem dataD_snoc {D : Nat} (l : List (ElD D)) (x : ElD D) : dataD (l ++ [x]) = dataD l + x.1.2.1.data.length := by unfold dataD; simp
theorem dataD_le {D : Nat} : ∀ l : List (ElD D), dataD l ≤ D * l.length
  | [] => Nat.zero_le _
  | x :: r => by
    have := dataD_le r
    have h2 := x.2.2
    change x.1.2.1.data.length ≤ _ at h2
    have e : dataD (x :: r) = x.1.2.1.data.length + dataD r := by unfold dataD; simp
    rw [e, List.length_cons, Nat.mul_add, Nat.mul_one]
    omega
theorem dataD_bytes {D : Nat} (l : List (ElD D)) : bytesL (l.map (fun x => x.1.nd)) = dataD l := by unfold bytesL dataD; rw [List.map_map]; rfl
set_option maxHeartbeats 4000000 in
theorem sizeD_any (D N : Nat) (hD : D ≤ 1000000) (hDN : D * N ≤ 1000000000000000000) (hN0 : N ≤ 1000000000000000000) (h : Nat) (m : Nd) (ao : Option Addr) (cap : Nat) (w : World) (hh : h ≤ 65535) (hH : Has any_ w h m ao) (hG : ∀ p ∈ nodesL h 1 m, GoodD D p) (hN : (nodesL h 1 m).length ≤ N) :
    Calls Try.prog 19 #[m.v ao cap] w fun e w' => e = .returned (.tuple #[.int .i64 ((nodesL h 1 m).length : Int), .int .i64 (bytesL (nodesL h 1 m) : Int)]) ∧ Below w.heap.size w w' := by
  have HH := Lib.hid hH
  have HG := Lib.hid hG
  clear hH hG
  refine (callsIn_wide (n := 10)).1 ?_
  refine callsIn_of_wp_marks Try.func19 rfl trivial ?_ rfl
  simp only [Try.ntmps19, List.size_toArray, List.length_cons, List.length_nil, Nat.reduceAdd, Nat.reduceSub, Array.replicate_succ, Array.replicate_zero, List.push_toArray, List.append_toArray, List.nil_append, List.cons_append]
  refine wpIn_wide.2 ?_
  go_wp2_with (first
    | (with_reducible refine box_any rfl 24 (.tmp 0) rfl (m.cells ao cap) rfl ?_; intro u hu bu zu; have HU := Lib.hid hu; have BU := Lib.hid bu; clear hu bu)
    | (refine alloc_int (op := { dst := some 2, op := _, type := _, pos := _, after := _, guard := _ }) rfl rfl ?_; intro u2 hu2 bu2 zu2; rw [zu] at hu2; have HU2 := Lib.hid hu2; have HU02 := Lib.hid (HU.out.below bu2 HU.out.lt); have BU2 := Lib.hid (BU.out.trans (bu2.mono (by omega))); clear hu2 bu2)
    | (refine alloc_int (op := { dst := some 3, op := _, type := _, pos := _, after := _, guard := _ }) rfl rfl ?_; intro u3 hu3 bu3 zu3; rw [zu2, zu] at hu3; have HU3 := Lib.hid hu3; have HU03 := Lib.hid (HU02.out.below bu3 HU02.out.lt); have HU23 := Lib.hid (HU2.out.below bu3 HU2.out.lt); have BU3 := Lib.hid (BU2.out.trans (bu3.mono (by omega))); clear hu3 bu3)
    | (refine load_any rfl 24 (.tmp 1) rfl ⟨w.heap.size, 0, none⟩ rfl (m.cells ao cap) _ (fun j v hj => by rw [Addr.add0]; exact HU03.out.cell j v hj) Try.underlying24 rfl info_nd ?_))
  refine (nodes_any m ao cap u3).mono ?_
  rintro e w4 ⟨rfl, hN4, b4, z4⟩
  rw [show u3.heap.size = w.heap.size + 3 by omega] at hN4 z4 ⊢
  have A1 := Lib.hid (HU23.out.below b4 HU23.out.lt)
  have A2 := Lib.hid (HU3.out.below b4 HU3.out.lt)
  have A3 := Lib.hid hN4
  have HB4 := Lib.hid (BU3.out.trans (b4.mono (by omega)))
  have H4 := Lib.hid ((HH.out.mono (S' := fun i => i ≠ w.heap.size + 1 ∧ i ≠ w.heap.size + 2) (fun i _ hl => ⟨by omega, by omega⟩)).below HB4.out)
  clear hN4 b4 HU HU2 HU02 HU3 HU03 HU23 BU BU2 BU3
  go_wp2_with fail
  have hb1 : w.heap.size + 1 ≠ w.heap.size + 2 := by omega
  refine (wpIn_wide (n := 10)).1 ?_
  refine wpIn_rangeFunc_ownH rfl (by omega) (gf := 74) (lb := #[.pointer (some ⟨w.heap.size + 3, 0, none⟩)]) rfl trivial (enters_of Try.func74 (by kernel_rfl) rfl)
    (nodes1_stops 9 (by omega) (w.heap.size + 3) h m ao cap w4 (fun i => i ≠ w.heap.size + 1 ∧ i ≠ w.heap.size + 2) (fun i hi => ⟨by omega, by omega⟩) (by omega) A3.out H4.out (GoodD D) HG.out) (fun h k => h.trans k) (fun W l o o' _ h1 h2 _ => KC.putObj o' h1 h2) (Below.refl _ _) (fun _ => rfl)
    (fun (pre : List (ElD D)) W => (At W (w.heap.size + 1) 3 [.int .i64 (pre.length : Int)] ∧ At W (w.heap.size + 2) 3 [.int .i64 (dataD pre : Int)]) ∧ Below w.heap.size w W ∧ w4.heap.size ≤ W.heap.size)
    (fun _ _ _ => False)
    (OwnFrom.and (OwnFrom.and (ownFrom_cells _) (ownFrom_cells _)) (OwnFrom.and (ownFrom_below (Nat.le_refl _) (by omega)) (fun s A B row hs hg _ => Nat.le_trans hs hg.size)))
    (fun _ _ _ _ _ hs _ _ => hs)
    ⟨⟨A1.out, A2.out⟩, HB4.out, Nat.le_refl _⟩
    (fun x a' W => ∃ P, a' = { tmps := #[m.v ao cap, .pointer (some ⟨w.heap.size, 0, none⟩), .pointer (some ⟨w.heap.size + 1, 0, none⟩), .pointer (some ⟨w.heap.size + 2, 0, none⟩), .int .i64 (x.1.1 : Int), .pointer (some ⟨P, 0, none⟩), .agg (m.cells ao cap).toArray, .func (.func 74) #[] #[.pointer (some ⟨w.heap.size + 3, 0, none⟩)], .int .i64 (x.1.1 : Int), x.1.2.1.v x.1.2.2.1 x.1.2.2.2, undef, undef, undef, undef, undef, undef, undef, undef, undef, undef, undef], defers := [] } ∧ At W P 24 (x.1.2.1.cells x.1.2.2.1 x.1.2.2.2) ∧ P ≠ w.heap.size + 1 ∧ P ≠ w.heap.size + 2)
    (fun x a' s A B row hs hg hr => by
      obtain ⟨P, e, hA, h1, h2⟩ := hs
      exact ⟨P, e, ownFrom_cells (β := Unit) (fun _ => x.1.2.1.cells x.1.2.2.1 x.1.2.2.2) () A B row hA hg hr, h1, h2⟩) ?assign ?body ?done ?stop
  case assign =>
    rintro l pre x W K ⟨⟨hA, hB⟩, hBe, hz⟩ hK
    have HK := Lib.hid hK
    clear hK
    unfold El.enc
    simp only [List.zip_toArray, List.zip_cons_cons, List.zip_nil_right, List.foldl_toArray, List.foldl_cons, List.foldl_nil, List.setIfInBounds_toArray, List.set_cons_succ, List.set_cons_zero]
    gi_wp2_with (first
      | (with_reducible refine alloc_in rfl 24 rfl _ zero_nd ?_; intro u2 hu2 bu2 zu2; have HU2 := Lib.hid hu2; clear hu2)
      | (refine store_in rfl 24 (.tmp 5) (.tmp 9) rfl W.heap.size rfl (x.1.2.1.cells x.1.2.2.1 x.1.2.2.2) rfl _ HU2.out rfl info_nd (nd_one x.1.2.1 x.1.2.2.1 x.1.2.2.2) ?_; intro u3 hu3 tu3; have HU3 := Lib.hid hu3; have BU3 := Lib.hid (Touch.below bu2 tu3 (by simp) (Nat.le_refl _)); clear hu3 tu3))
    refine HK.out _ _ (keepsFrom_below BU3.out) (KC.below BU3.out) ⟨⟨hA.below BU3.out hA.lt, hB.below BU3.out hB.lt⟩, hBe.trans (BU3.out.mono hBe.size), by have := BU3.out.size; omega⟩ ⟨W.heap.size, rfl, HU3.out, by omega, by omega⟩
  case body =>
    rintro l pre x a' W hl hr ⟨⟨hA, hB⟩, hBe, hz⟩ ⟨P, rfl, hP, hP1, hP2⟩ hlen
    have hx1 := x.2.1
    change x.1.1 ≤ 65536 at hx1
    have hx2 := x.2.2
    change x.1.2.1.data.length ≤ D at hx2
    have hdl := dataD_le pre
    have hds := dataD_snoc pre x
    have hx1' : ¬ (65536 : Int) < (x.1.1 : Int) := by omega
    have hlen' : pre.length < N := by omega
    have hml : D * pre.length ≤ D * N := Nat.mul_le_mul_left D (by omega)
    obtain ⟨mm, hmm⟩ : ∃ mm, mm = D * pre.length := ⟨_, rfl⟩
    have hmm2 : mm ≤ 1000000000000000000 := by omega
    obtain ⟨dl, hdle⟩ : ∃ dl, dl = dataD pre := ⟨_, rfl⟩
    rw [← hdle] at hB hdl hds
    rw [← hmm] at hdl
    have HDS := Lib.hid hds
    have hdl2 : dl ≤ 1000000000000000000 := by omega
    have hpl2 : pre.length ≤ 1000000000000000000 := by omega
    have hx3 : x.1.2.1.data.length ≤ 1000000 := by omega
    have HA := Lib.hid hA
    have HB := Lib.hid hB
    have HP := Lib.hid hP
    have HBE := Lib.hid hBe
    have c1 := hA.cell 0 _ rfl
    clear hdle hds hdl hA hB hP hBe hr hml hmm hmm2
    gi_wp2_with (first
      | (refine store_int_in rfl (.tmp 2) (.tmp 13) rfl (w.heap.size + 1) 0 rfl ((pre.length : Int) + 1) rfl _ [.int .i64 ((pre.length + 1 : Nat) : Int)] HA.out (by simp) rfl ?_; intro v1 hv1 tv1; have HA1 := Lib.hid hv1; have HB1 := Lib.hid (HB.out.touch tv1 (by simp)); have HP1 := Lib.hid (HP.out.touch tv1 (by simpa using hP1)); have TV1 := Lib.hid tv1; have c2 := HB1.out.cell 0 _ rfl; have c3 := HP1.out.cell 3 _ rfl; clear hv1 tv1)
      | (refine store_int_in rfl (.tmp 3) (.tmp 18) rfl (w.heap.size + 2) 0 rfl ((dl : Int) + (x.1.2.1.data.length : Int)) rfl _ [.int .i64 ((dl + x.1.2.1.data.length : Nat) : Int)] HB1.out (by simp) rfl ?_; intro v2 hv2 tv2; have HA2 := Lib.hid (HA1.out.touch tv2 (by simp)); have HB2 := Lib.hid hv2; have TV2 := Lib.hid tv2; clear hv2 tv2))
    have hT : Touch [w.heap.size + 1, w.heap.size + 2] W v2 := (TV1.out.mono (by simp)).trans (TV2.out.mono (by simp))
    refine ⟨keepsFrom_touch hT (fun k hk => ?_), KC.touch hT (fun k hk => ?_), ⟨⟨?_, ?_⟩, hT.below HBE.out (fun k hk => ?_) (Nat.le_refl _), ?_⟩⟩
    · simp only [List.mem_cons, List.not_mem_nil, or_false] at hk
      rcases hk with rfl | rfl
      · exact ⟨_, _, HA.out⟩
      · exact ⟨_, _, HB.out⟩
    · simp only [List.mem_cons, List.not_mem_nil, or_false] at hk
      rcases hk with rfl | rfl
      · simp
      · simp
    · rw [List.length_append]; exact HA2.out
    · rw [HDS.out]; exact HB2.out
    · simp only [List.mem_cons, List.not_mem_nil, or_false] at hk
      omega
    · have := hT.size; omega
  case done =>
    rintro DD ys W hDD hys ⟨⟨hA, hB⟩, hBe, hz⟩ hD2
    have e1 : ys.length = (nodesL h 1 m).length := by have := congrArg List.length hys; rwa [List.length_map] at this
    have e2 : dataD ys = bytesL (nodesL h 1 m) := by rw [← hys, dataD_bytes]
    obtain ⟨I, hI⟩ : ∃ I, I = (nodesL h 1 m).length := ⟨_, rfl⟩
    obtain ⟨Y, hY⟩ : ∃ Y, Y = bytesL (nodesL h 1 m) := ⟨_, rfl⟩
    rw [e1, ← hI] at hA
    rw [e2, ← hY] at hB
    have HI := Lib.hid hI
    have HY := Lib.hid hY
    have HA := Lib.hid hA
    have HB := Lib.hid hB
    have c1 := hA.cell 0 _ rfl
    have c2 := hB.cell 0 _ rfl
    have HBE := Lib.hid hBe
    clear hA hB hBe e1 e2 hI hY
    have f1 := HA.out.frozen 0
    have f2 := HB.out.frozen 0
    go_wp2_with fail
    go_region
    have hA' : At (((W.setCell ⟨w.heap.size + 1, 0, none⟩ (.int .i64 (I : Int))).setCell ⟨w.heap.size + 1 + 1, 0, none⟩ (.int .i64 (Y : Int))).drew) (w.heap.size + 1) 3 [.int .i64 (I : Int)] := (HA.out.setCell 0 _).setCell_ne _ _ (show w.heap.size + 1 ≠ w.heap.size + 1 + 1 by omega)
    have hB' : At (((W.setCell ⟨w.heap.size + 1, 0, none⟩ (.int .i64 (I : Int))).setCell ⟨w.heap.size + 1 + 1, 0, none⟩ (.int .i64 (Y : Int))).drew) (w.heap.size + 1 + 1) 3 [.int .i64 (Y : Int)] := (HB.out.setCell_ne ⟨w.heap.size + 1, 0, none⟩ _ (show w.heap.size + 1 + 1 ≠ w.heap.size + 1 by omega)).setCell 0 _
    have hBV : Below w.heap.size w (((W.setCell ⟨w.heap.size + 1, 0, none⟩ (.int .i64 (I : Int))).setCell ⟨w.heap.size + 1 + 1, 0, none⟩ (.int .i64 (Y : Int))).drew) := ((HBE.out.setCell (show w.heap.size ≤ w.heap.size + 1 by omega) _).setCell (show w.heap.size ≤ w.heap.size + 1 + 1 by omega) _).drew
    have hDV : (((W.setCell ⟨w.heap.size + 1, 0, none⟩ (.int .i64 (I : Int))).setCell ⟨w.heap.size + 1 + 1, 0, none⟩ (.int .i64 (Y : Int))).drew).heap[DD]? = some (.deferred (some [])) := by
      show ((W.setCell ⟨w.heap.size + 1, 0, none⟩ (.int .i64 (I : Int))).setCell ⟨w.heap.size + 1 + 1, 0, none⟩ (.int .i64 (Y : Int))).heap[DD]? = _
      rw [Below.heap_setCell _ _ _ _ (show DD ≠ w.heap.size + 1 + 1 by omega), Below.heap_setCell _ _ _ _ (show DD ≠ w.heap.size + 1 by omega)]
      exact hD2
    generalize ((W.setCell ⟨w.heap.size + 1, 0, none⟩ (.int .i64 (I : Int))).setCell ⟨w.heap.size + 1 + 1, 0, none⟩ (.int .i64 (Y : Int))).drew = V at *
    go_wp2
    refine ⟨by simp, .inl ⟨_, _, rfl, run_takeDeferred hDV, ?_⟩⟩
    have hA2 : At (V.putObj DD (.deferred none)) (w.heap.size + 1) 3 [.int .i64 (I : Int)] := (World.putObj_heap_other (by omega)).trans hA'
    have hB2 : At (V.putObj DD (.deferred none)) (w.heap.size + 1 + 1) 3 [.int .i64 (Y : Int)] := (World.putObj_heap_other (by omega)).trans hB'
    refine ⟨_, results_ints (fn := Try.f19) (p := 2) (q := 3) rfl _ _ _ _ _ _ rfl rfl (hA2.cell 0 _ rfl) (hB2.cell 0 _ rfl), ?_, ?_⟩
    · rw [HI.out, HY.out]
    · exact hBV.trans (belowK_b (w := w) (Nat.le_refl _) V DD _ _ (by omega) hDV rfl rfl)
  case stop =>
    rintro DD c pre W _ _ h _
    exact h.elim
set_option maxHeartbeats 1000000 in
theorem checkD_any (Dm N : Nat) (hDm : Dm ≤ 1000000) (hDN : Dm * N ≤ 1000000000000000000) (hN0 : N ≤ 1000000000000000000) (h : Nat) (n : Nd) (ao : Option Addr) (cap : Nat) (w : World) (hh : h ≤ 65535) (hH : Has any_ w h n ao) (hGN : depthL 14 n ≤ 12 → mayL h n = true → (∀ p ∈ nodesL h 1 n, GoodD Dm p) ∧ (nodesL h 1 n).length ≤ N) :
    Calls Try.prog 16 #[n.v ao cap] w fun e w' => e = .returned (.int .i64 (checkL h n)) ∧ Below w.heap.size w w' := by
  have HH := Lib.hid hH
  have HGN := Lib.hid hGN
  obtain ⟨R, hR⟩ : ∃ R, R = checkL h n := ⟨_, rfl⟩
  rw [← hR]
  unfold checkL at hR
  obtain ⟨D, hD⟩ : ∃ D, D = depthL 14 n := ⟨_, rfl⟩
  obtain ⟨M, hM⟩ : ∃ M, M = mayL h n := ⟨_, rfl⟩
  obtain ⟨C, hC⟩ : ∃ C, C = (nodesL h 1 n).length := ⟨_, rfl⟩
  obtain ⟨Y, hY⟩ : ∃ Y, Y = bytesL (nodesL h 1 n) := ⟨_, rfl⟩
  rw [← hD, ← hM, ← hC, ← hY] at hR
  have HD := Lib.hid hD
  have HM := Lib.hid hM
  have HC := Lib.hid hC
  have HY := Lib.hid hY
  have HR := Lib.hid hR
  clear hH hGN hR hD hM hC hY
  cases n with
  | mk nm kd ex dt ks =>
  change Hid (R = if 12 < D then 3 else if !nm.isEmpty || !M then 2 else if 2000 < C ∨ 100000 < Y then 3 else 0) at HR
  go_enter Try.func16, Try.ntmps16
  go_wp2_with (first
    | (with_reducible refine box_any rfl 24 (.tmp 0) rfl [.string (bs nm), .int .i64 kd, .bool ex, .string (bs dt), .slice ao ks.length cap] rfl ?_; intro u hu bu zu; have HU := Lib.hid hu; have BU := Lib.hid bu; clear hu bu)
    | (refine load_any rfl 24 (.tmp 1) rfl ⟨w.heap.size, 0, none⟩ rfl [.string (bs nm), .int .i64 kd, .bool ex, .string (bs dt), .slice ao ks.length cap] _ (fun j v hj => by rw [Addr.add0]; exact HU.out.cell j v hj) Try.underlying24 rfl info_nd ?_))
  refine (deep_any h ⟨nm, kd, ex, dt, ks⟩ ao cap u (HH.out.below BU.out)).mono ?_
  rintro e w2 ⟨rfl, b2⟩
  rw [← HD.out]
  have z2 := b2.size
  have HU2 := Lib.hid (HU.out.below b2 HU.out.lt)
  have HB2 := Lib.hid (BU.out.trans (b2.mono (by omega)))
  clear b2 HU BU
  have a0 := HU2.out.cell 0 _ rfl
  have a1 := HU2.out.cell 1 _ rfl
  have a2 := HU2.out.cell 2 _ rfl
  have a3 := HU2.out.cell 3 _ rfl
  have a4 := HU2.out.cell 4 _ rfl
  by_cases hd : 12 < D
  · have hd' : (12 : Int) < D := by omega
    go_wp2_with fail
    go_ret
    refine ⟨?_, HB2.out⟩
    rw [HR.out, if_pos hd]; rfl
  · have hd' : ¬ (12 : Int) < D := by omega
    by_cases hn : nm = []
    · subst hn
      go_wp2_with fail
      refine (mayBe_any h ⟨[], kd, ex, dt, ks⟩ ao cap w2 (HH.out.below HB2.out)).mono ?_
      rintro e w3 ⟨rfl, b3⟩
      rw [← HM.out]
      have z3 := b3.size
      have HU3 := Lib.hid (HU2.out.below b3 HU2.out.lt)
      have HB3 := Lib.hid (HB2.out.trans (b3.mono (by omega)))
      clear b3 a0 a1 a2 a3 a4 HU2 HB2
      cases M
      · go_wp2_with fail
        go_ret
        refine ⟨?_, HB3.out⟩
        rw [HR.out, if_neg hd]; rfl
      · go_wp2_with (refine load_any rfl 24 (.tmp 1) rfl ⟨w.heap.size, 0, none⟩ rfl [.string (bs []), .int .i64 kd, .bool ex, .string (bs dt), .slice ao ks.length cap] _ (fun j v hj => by rw [Addr.add0]; exact HU3.out.cell j v hj) Try.underlying24 rfl info_nd ?_)
        obtain ⟨hG, hN⟩ := HGN.out (by rw [← HD.out]; omega) HM.out.symm
        have hCN : C ≤ 1000000000000000000 := by rw [HC.out]; omega
        refine (sizeD_any Dm N hDm hDN hN0 h ⟨[], kd, ex, dt, ks⟩ ao cap w3 hh (HH.out.below HB3.out) hG hN).mono ?_
        clear hG hN
        rintro e w4 ⟨rfl, b4⟩
        rw [← HC.out, ← HY.out]
        have HB4 := Lib.hid (HB3.out.trans (b4.mono (by omega)))
        clear b4 HU3 HB3
        by_cases hC : 2000 < C
        · have hC' : (2000 : Int) < C := by omega
          go_wp2_with fail
          go_ret
          refine ⟨?_, HB4.out⟩
          rw [HR.out, if_neg hd, if_neg (by simp), if_pos (.inl hC)]; rfl
        have hC' : ¬ (2000 : Int) < C := by omega
        by_cases hY : 100000 < Y
        · have hY' : (100000 : Int) < Y := by omega
          go_wp2_with fail
          go_ret
          refine ⟨?_, HB4.out⟩
          rw [HR.out, if_neg hd, if_neg (by simp), if_pos (.inr hY)]; rfl
        · have hY' : ¬ (100000 : Int) < Y := by omega
          go_wp2_with fail
          go_ret
          refine ⟨?_, HB4.out⟩
          rw [HR.out, if_neg hd, if_neg (by simp), if_neg (by omega)]; rfl
    · have hn2 : (nm == []) = false := by simpa using hn
      have hn3 : nm.isEmpty = false := by simpa using hn
      go_wp2_with fail
      go_ret
      refine ⟨?_, HB2.out⟩
      rw [HR.out, if_neg hd, hn3]; rfl
end Go.Proofs.Ytdpeblchndfdaaa
