/- Each. -/
import Derived.Test.YtdpeblchndfdaaaTr
namespace Go.Proofs.Ytdpeblchndfdaaa
open Go.RowKit Go.Shelf
attribute [local go_sem] Oper.semAt_some
set_option maxRecDepth 100000
def tv (t : List UInt8) : Value := .string (bs t)
/-- the paths of all that a node has -/
def eachL (h : Nat) (n : Nd) : List (List UInt8) := if 12 < depthL 14 n then [] else pathsL h n []
/-- a row of texts -/
def Strs (w : World) (v : Value) (ts : List (List UInt8)) : Prop := ∃ ao cap, v = .slice ao ts.length cap ∧ ∀ j t, ts[j]? = some t → ∃ x, ao = some x ∧ w.cell? (x.add j) = some (.string (bs t))
theorem Strs.below {w w' : World} {v : Value} {ts : List (List UInt8)} (h : Strs w v ts) (b : Below w.heap.size w w') : Strs w' v ts := by
  obtain ⟨ao, cap, e, h⟩ := h
  refine ⟨ao, cap, e, fun j t hj => ?_⟩
  obtain ⟨x, e2, hc⟩ := h j t hj
  exact ⟨x, e2, cell_bel b hc⟩
theorem Own.strs {w : World} {ao : Option Addr} {cap : Nat} {ts : List (List UInt8)} (h : Own w 9 1 ao ts.length cap (ts.map tv)) : Strs w (.slice ao ts.length cap) ts := by
  refine ⟨ao, cap, rfl, fun j t hj => ?_⟩
  have hl := (List.getElem?_eq_some_iff.1 hj).1
  obtain ⟨g, cur, rfl, hA, _, _⟩ := h.there (by omega)
  refine ⟨_, rfl, ?_⟩
  rw [Addr.add0]
  refine hA.cell _ _ ?_
  rw [List.getElem?_append_left (by rw [List.length_map]; exact hl), List.getElem?_map, hj]
  rfl
theorem Own.keep {w w' : World} {e : TypeId} {size n cap : Nat} {ao : Option Addr} {xs : List Value} (h : Own w e size ao n cap xs) (hk : ∀ i, i ∈ blk ao → w'.heap[i]? = w.heap[i]?) : Own w' e size ao n cap xs := by
  refine ⟨h.1, ?_⟩
  rcases h.2 with h0 | ⟨g, cap', cur, hv, hbg, hg, rest⟩
  · exact .inl h0
  · cases hv
    exact .inr ⟨g, _, cur, rfl, hbg, by rw [hk g (by simp [blk])]; exact hg, rest⟩
theorem Own.cells {w : World} {e : TypeId} {size n cap g : Nat} {a : Addr} {xs : List Value} (h : Own w e size (some a) n cap xs) (hg : g = a.block) : ∃ cs : Array Value, w.heap[g]? = some (.cells cs e (0, 0)) := by
  rcases h.2 with ⟨h0, _⟩ | ⟨g', cap', cur, hv, hbg, hh, rest⟩
  · cases h0
  · cases hv; subst hg; exact ⟨cur, hh⟩
theorem info9 : (Try.prog.info? 9).map (fun i => (i.zero, i.size, i.bytes)) = some (some (.string ⟨#[]⟩), 1, 16) := by kernel_rfl
theorem info_9 : ∃ i z, Try.prog.info? 9 = some i ∧ i.zero = some z ∧ i.size = 1 ∧ i.bytes = 16 ∧ z.cells.size = 1 := by
  have h := info9
  cases hq : Try.prog.info? 9 with
  | none => rw [hq] at h; cases h
  | some i =>
    rw [hq] at h
    simp only [Option.map_some, Option.some.injEq, Prod.mk.injEq] at h
    exact ⟨i, _, rfl, h.1, h.2.1, h.2.2, rfl⟩
theorem build_str (w : World) (s : ByteArray) : (Instr.buildSlice 40 1 #[(0, .string s)]).run Try.prog w = .ok (.slice (some ⟨w.heap.size, 0, none⟩) 1 1) (w.alloc (.cells #[.string s] 9)) := by
  obtain ⟨i, z, hi, hz, h1, h16, hz1⟩ := info_9
  refine run_buildSlice w 40 9 1 #[(0, .string s)] #[.string s] i z Try.underlying40 hi hz (by rw [h1]; omega) (by rw [h1]; omega) ?_
  have hsz : ((Array.range (1 * i.size)).map (z.cells[· % z.cells.size]!)).size = 1 := by rw [Array.size_map, Array.size_range, h1]
  generalize (Array.range (1 * i.size)).map (z.cells[· % z.cells.size]!) = Z at *
  obtain ⟨x, rfl⟩ : ∃ x, Z = #[x] := Array.size_eq_one_iff.1 hsz
  simp [Instr.fill, Value.cells, h1]
/-- 'append' of one value of one cell: in the block that was, or in a new one beside it -/
theorem run_append_two {P : Program} (w : World) (t ty e : TypeId) (i : TypeInfo) (z : Value) (bytes : Nat) (ht : P.underlying t = some (.slice e)) (hi : P.info? e = some i) (hz : i.zero = some z) (hsize : i.size = 1) (hby : i.bytes = bytes) (hzs : z.cells.size = 1)
    (ao : Option Addr) (n cap : Nat) (xs : List Value) (hO : Own w e 1 ao n cap xs) (b c : Nat) (v : Value) {T2 : TypeId} (hN : At w b T2 [v]) (h1 : v.oneCell' = true) (h63 : n + 1 ≤ maxLen) (hbytes : (n + 1) * bytes ≤ 140737488355328) :
    ∃ ao' cap' w', (Builtin.append_ #[t, t] ty #[.slice ao n cap, .slice (some ⟨b, 0, none⟩) 1 c]).run P w = .ok (.slice ao' (n + 1) cap') w' ∧ Own w' e 1 ao' (n + 1) cap' (xs ++ [v]) ∧ ((ao' = ao ∧ Touch (blk ao) w w') ∨ (Touch [] w w' ∧ ∃ g, ao' = some ⟨g, 0, none⟩ ∧ w.heap.size ≤ g)) := by
  have hc : ∀ j u, [v][j]? = some u → w.cell? ((⟨b, 0, none⟩ : Addr).add j) = some u := fun j u hj => by rw [Addr.add0]; exact hN.cell j u hj
  have h1' : ∀ u ∈ [v], u.oneCell' = true := fun u hu => by rw [List.mem_singleton] at hu; rw [hu]; exact h1
  rcases hO.2 with ⟨h0, hn0⟩ | ⟨g, cap', cur, hv, hbg, hg, hnc, hcm, hcs, htake⟩
  · cases h0
    obtain rfl : xs = [] := List.eq_nil_of_length_eq_zero (by have := hO.1; simpa using this)
    obtain ⟨v', w', hrun, ho, hgr, _⟩ := run_append_own (P := P) w w.heap.size t ty e i z 1 bytes ht hi hz hsize hby hzs (by omega) (.slice none 0 0) 0 [] (World.ownsRow_nil w _ e 1) ⟨b, 0, none⟩ 1 c [v] rfl hc h1' h63 hbytes (Nat.le_refl _)
    rcases ho.2 with ⟨_, h5⟩ | ⟨g, cap', cur, rfl, hb, r1, r2, r3, r4⟩
    · omega
    · exact ⟨_, _, w', hrun, ⟨ho.1, .inr ⟨g, cap', cur, rfl, Nat.zero_le _, r1, r2, r3, r4⟩⟩, .inr ⟨⟨hgr.os, hgr.tape, hgr.output, hgr.size, fun k hk _ => hgr.block k hk (by simp [Value.ownBlock])⟩, g, rfl, hb⟩⟩
  · cases hv
    by_cases hroom : n + 1 ≤ cap
    · obtain ⟨w', hrun, ho, hgr⟩ := run_append_fits (P := P) w 0 t ty e i 1 ht hi hsize g n cap xs hO ⟨b, 0, none⟩ 1 c [v] rfl hc h1' hroom
      exact ⟨_, _, w', hrun, ho, .inl ⟨rfl, hgr.os, hgr.tape, hgr.output, hgr.size, fun k hk hne => hgr.block k hk (fun e => hne (by cases e; simp [blk]))⟩⟩
    · have holds : ∀ j u, xs[j]? = some u → w.cell? ((⟨g, 0, none⟩ : Addr).add j) = some u := World.ownsRow.cells hO (g := g) rfl
      obtain ⟨v', w', hrun, ho, hgr⟩ := run_append_arg_grows (P := P) w t ty e i z 1 bytes ht hi hz hsize hby hzs (by omega) ⟨g, 0, none⟩ n cap xs hO.1 holds ⟨b, 0, none⟩ 1 c [v] rfl hc (by omega) h63 hbytes
      rcases ho.2 with ⟨_, h5⟩ | ⟨g', cap', cur', rfl, hb, r1, r2, r3, r4⟩
      · omega
      · exact ⟨_, _, w', hrun, ⟨ho.1, .inr ⟨g', cap', cur', rfl, Nat.zero_le _, r1, r2, r3, r4⟩⟩, .inr ⟨⟨hgr.os, hgr.tape, hgr.output, hgr.size, fun k hk _ => hgr.block k hk (by simp)⟩, g', rfl, hb⟩⟩
/-- what an append beside a store of its slice leaves alone -/
theorem append_kept {V V6 w7 : World} {L c0 n cap cap' : Nat} {ao ao' : Option Addr} {xs : List Value} {v : Value} (hO : Own V 9 1 ao n cap xs) (b6 : Below V.heap.size V V6) (hc0 : ∀ i, i ∈ blk ao → c0 ≤ i) (hne : ao ≠ none → 0 < n) (hL : At V L 40 [.slice ao n cap])
    (h7 : Own w7 9 1 ao' (n + 1) cap' (xs ++ [v])) (ht : (ao' = ao ∧ Touch (blk ao) V6 w7) ∨ (Touch [] V6 w7 ∧ ∃ g, ao' = some ⟨g, 0, none⟩ ∧ V6.heap.size ≤ g)) (x : Value) :
    KD (fun i => i ≠ L) c0 V (w7.setCell ⟨L, 0, none⟩ x) ∧ Touch (L :: blk ao) V (w7.setCell ⟨L, 0, none⟩ x) := by
  have hT : Touch (blk ao) V w7 := by
    rcases ht with ⟨_, t⟩ | ⟨t, _⟩
    · exact (Touch.of_below b6).trans t
    · exact (Touch.of_below b6).trans (t.mono (fun _ h => by cases h))
  have hT2 : Touch (L :: blk ao) V (w7.setCell ⟨L, 0, none⟩ x) := (hT.mono (fun k hk => .inl (List.mem_cons_of_mem _ hk))).setCell _ _ (.inl (List.mem_cons_self ..))
  refine ⟨⟨hT2.size, fun k cs T fr hk hT9 hS => ?_, fun k u hu hS => ?_⟩, hT2⟩
  · refine (hT2.block k (Array.getElem?_eq_some_iff.1 hk).1 (fun e => ?_)).trans hk
    rcases List.mem_cons.mp e with e | e
    · exact hS e
    · cases ao with
      | none => cases e
      | some a =>
        obtain ⟨cs2, h2⟩ := hO.cells (g := k) (by simpa [blk] using e)
        rw [h2] at hk
        cases hk
        rcases hT9 with h | h
        · exact h rfl
        · have := hc0 k e; omega
  · have hul := World.block_lt_of_cell? V _ hu
    by_cases e : k ∈ blk ao
    · cases ao with
      | none => cases e
      | some a =>
        have hka : k = a.block := by simpa [blk] using e
        rw [World.cell?_of_block (w := w7) (Below.heap_setCell _ _ _ _ (show k ≠ L from hS))]
        rcases ht with ⟨e2, t⟩ | ⟨t, _⟩
        · subst e2
          rcases hO.2 with ⟨h0, _⟩ | ⟨g, cp, cur, hv, _, hg, h1, h2, h3, h4⟩
          · cases h0
          · cases hv
            have hk2 : k = g := hka
            subst hk2
            obtain ⟨g2, cur2, e3, hA2, _, _⟩ := h7.there (by omega)
            cases e3
            have hn0 : 0 < n := hne (by simp)
            have hx0 : xs.length = n := by have := hO.1; omega
            obtain ⟨y, hy⟩ : ∃ y, xs[0]? = some y := ⟨_, List.getElem?_eq_getElem (by omega)⟩
            have c1 : w7.cell? ⟨k, 0, none⟩ = some y := hA2.cell 0 y (by rw [List.getElem?_append_left (by simp), List.getElem?_append_left (by omega)]; exact hy)
            have c2 : V.cell? ⟨k, 0, none⟩ = some y := by
              have h := World.ownsRow.cells hO (g := k) rfl 0 y hy
              rwa [Addr.add0] at h
            rw [c1, ← c2, hu]
        · rw [← hu]
          exact World.cell?_of_block (w := V) ((t.block k (Nat.lt_of_lt_of_le hul b6.size) (fun h => by cases h)).trans (b6.block k hul))
    · rw [← hu]
      refine World.cell?_of_block (w := V) (hT2.block k hul (fun e2 => ?_))
      rcases List.mem_cons.mp e2 with e2 | e2
      · exact hS e2
      · exact e e2
section
variable {F : Fence} {n : Nat} {ops : Array Oper} {rest : List Oper} {op : Oper} {a : Act} {w : World} {Q : Exit → Act → World → Prop}
theorem alloc_strs (hgd : op.guard = none) (ho : op.op = .alloc 40)
    (h : ∀ u, At u w.heap.size 40 [.slice none 0 0] → Below w.heap.size w u → u.heap.size = w.heap.size + 1 → wpList Try.prog ops Q rest (a.put op.dst (.pointer (some ⟨w.heap.size, 0, none⟩))) u) : wpList Try.prog ops Q (op :: rest) a w := by
  refine list_val hgd (v := .pointer (some ⟨w.heap.size, 0, none⟩)) (w' := w.alloc (.cells #[.slice none 0 0] 40)) ?_ (h _ (At.new w _ _) ((Below.refl _ w).alloc (Nat.le_refl _) _) (by rw [World.size_alloc]))
  have hz : (zeroValue 40).run Try.prog w = .ok (.slice none 0 0) w := by kernel_rfl
  unfold execOp
  simp only [ho]
  simp [go_sem, hz, Value.cells]
end
set_option maxHeartbeats 4000000 in
theorem each_any (h : Nat) (m : Nd) (ao : Option Addr) (cap : Nat) (w : World) (hH : Has any_ w h m ao) (hSh : Short h m) (hh : 1001 * h ≤ 1000000) (hN : (pathsL h m []).length ≤ 1000000) :
    Calls Try.prog 20 #[m.v ao cap] w fun e w' => Below w.heap.size w w' ∧ ∃ v, e = .returned v ∧ Strs w' v (eachL h m) := by
  have HH := Lib.hid hH
  have HSH := Lib.hid hSh
  obtain ⟨D, hD⟩ : ∃ D, D = depthL 14 m := ⟨_, rfl⟩
  obtain ⟨R, hR⟩ : ∃ R, R = eachL h m := ⟨_, rfl⟩
  rw [← hR]
  unfold eachL at hR
  rw [← hD] at hR
  have HR := Lib.hid hR
  have HD := Lib.hid hD
  clear hH hSh hR hD
  refine (callsIn_wide (n := 10)).1 ?_
  refine callsIn_of_wp_marks Try.func20 rfl trivial ?_ rfl
  simp only [Try.ntmps20, List.size_toArray, List.length_cons, List.length_nil, Nat.reduceAdd, Nat.reduceSub, Array.replicate_succ, Array.replicate_zero, List.push_toArray, List.append_toArray, List.nil_append, List.cons_append]
  refine wpIn_wide.2 ?_
  go_wp2_with (first
    | (with_reducible refine box_any rfl 24 (.tmp 0) rfl (m.cells ao cap) rfl ?_; intro u hu bu zu; have HU := Lib.hid hu; have BU := Lib.hid bu; clear hu bu)
    | (refine load_any rfl 24 (.tmp 1) rfl ⟨w.heap.size, 0, none⟩ rfl (m.cells ao cap) _ (fun j v hj => by rw [Addr.add0]; exact HU.out.cell j v hj) Try.underlying24 rfl info_nd ?_))
  refine (deep_any h m ao cap u (HH.out.below BU.out)).mono ?_
  rintro e w2 ⟨rfl, b2⟩
  rw [← HD.out]
  have z2 := b2.size
  have HU2 := Lib.hid (HU.out.below b2 HU.out.lt)
  have HB2 := Lib.hid (BU.out.trans (b2.mono (by omega)))
  clear b2 HU BU
  by_cases hd : 12 < D
  · have hd' : (12 : Int) < D := by omega
    go_wp2_with fail
    refine ⟨_, results_tmp rfl _ _ _, HB2.out, _, rfl, ?_⟩
    rw [HR.out, if_pos hd]
    exact ⟨none, 0, rfl, fun j t hj => by cases hj⟩
  · have hd' : ¬ (12 : Int) < D := by omega
    go_wp2_with (first
      | (refine alloc_strs rfl rfl ?_; intro u3 hu3 bu3 zu3; have HL3 := Lib.hid hu3; have HU3 := Lib.hid (HU2.out.below bu3 HU2.out.lt); have HB3 := Lib.hid (HB2.out.trans (bu3.mono (by omega))); clear hu3 bu3)
      | (refine load_any rfl 24 (.tmp 1) rfl ⟨w.heap.size, 0, none⟩ rfl (m.cells ao cap) _ (fun j v hj => by rw [Addr.add0]; exact HU3.out.cell j v hj) Try.underlying24 rfl info_nd ?_))
    refine (paths_any m ao cap [] u3).mono ?_
    rintro e w5 ⟨rfl, hn5, ha5, b5, z5⟩
    have HN5 := Lib.hid hn5
    have HA5 := Lib.hid ha5
    have HL5 := Lib.hid (HL3.out.below b5 HL3.out.lt)
    have HB5 := Lib.hid (HB3.out.trans (b5.mono (by omega)))
    clear hn5 ha5 b5 HU2 HB2 HU3 HL3 HB3
    go_wp2_with fail
    refine (wpIn_wide (n := 10)).1 ?_
    have zz5 : w5.heap.size = w2.heap.size + 3 := by omega
    have H5 : Has (fun i => i ≠ w2.heap.size ∧ i < w2.heap.size) w5 h m ao := (HH.out.mono (S' := fun i => i ≠ w2.heap.size ∧ i < w2.heap.size) (fun i _ hl => ⟨by omega, by omega⟩)).below HB5.out
    have hN5 : At w5 (w2.heap.size + 1) 24 (m.cells ao cap) := by have h := HN5.out; rwa [show u3.heap.size = w2.heap.size + 1 by omega] at h
    have hA5 : At w5 (w2.heap.size + 1 + 1) 9 [.string (bs [])] := by have h := HA5.out; rwa [show u3.heap.size + 1 = w2.heap.size + 1 + 1 by omega] at h
    refine rf_law (w := w5) rfl (by omega) (gf := 76) (lb := #[.pointer (some ⟨w2.heap.size + 1, 0, none⟩), .pointer (some ⟨w2.heap.size + 1 + 1, 0, none⟩)]) rfl trivial (enters_of Try.func76 (by kernel_rfl) rfl) (encs := encT) (Kp := KpB (fun i => i ≠ w2.heap.size) w2.heap.size (w5.heap.size + 2)) (S := fun xs => xs = pathsL h m []) (Sp := fun _ => True) (N := (pathsL h m []).length)
      (fun U bU zU => (paths1_tells (fun i => i ≠ w2.heap.size) w2.heap.size h (w5.heap.size + 2) m ao cap [] (w2.heap.size + 1) (w2.heap.size + 1 + 1) _ (w5.heap.size + 1) U (by omega) (fun i hi => by omega) (H5.below bU) (hN5.below bU hN5.lt) (cell_bel bU (hA5.cell 0 _ rfl)) (by omega) (by omega) HSH.out (by simpa using hh) (Nat.le_refl _)).any)
      (fun h k => ⟨h.1.trans k.1, h.2.trans k.2⟩)
      (fun V o o' ho hc => ⟨KD.putObj o' ho hc, by rw [World.putObj_size]; exact Nat.le_refl _, fun i q hi hq _ => (World.putObj_heap_other (by omega)).trans hq⟩) (fun _ => rfl)
      (fun (pre : List (List UInt8)) V => ∃ ro rc, At V w2.heap.size 40 [.slice ro pre.length rc] ∧ Own V 9 1 ro pre.length rc (pre.map tv) ∧ (∀ i, i ∈ blk ro → w5.heap.size ≤ i) ∧ (ro ≠ none → 0 < pre.length) ∧ Below w.heap.size w V ∧ w5.heap.size ≤ V.heap.size)
      (fun _ _ _ => False)
      (fun s A B row ⟨ro, rc, h1, h2, h3, h4, h5, h6⟩ hg hr => ⟨ro, rc, ownFrom_cells (fun _ : Unit => _) () A B row h1 hg hr, h2.keep (fun i hi => hg.block i (h2.lt i hi) (fun e => by
        cases ro with
        | none => cases hi
        | some a =>
          obtain ⟨cs, hcs⟩ := h2.cells (g := i) (by simpa [blk] using hi)
          obtain ⟨_, o, ho, hc⟩ := hr i e.symm
          rw [hcs] at ho
          cases ho
          cases hc)), h3, h4, ownFrom_below (β := Unit) (Nat.le_refl _) HB5.out.size () A B row h5 hg hr, Nat.le_trans h6 hg.size⟩)
      (fun _ _ _ _ _ hs _ _ => hs)
      ⟨none, 0, HL5.out, Own.nil _ _ _, by simp [blk], by simp, HB5.out, Nat.le_refl _⟩
      (fun y a' _ => a' = { tmps := #[m.v ao cap, .pointer (some ⟨w.heap.size, 0, none⟩), .slice none 0 0, .pointer (some ⟨w2.heap.size, 0, none⟩), .string (bs y), .agg (m.cells ao cap).toArray, .int .i64 (D : Int), .bool (decide ((12 : Int) < (D : Int))), .agg (m.cells ao cap).toArray, .func (.func 76) #[] #[.pointer (some ⟨w2.heap.size + 1, 0, none⟩), .pointer (some ⟨w2.heap.size + 1 + 1, 0, none⟩)], .string (bs y), undef, undef, undef, undef, undef], defers := [] }) (fun y a' s A B row hs _ _ => hs) ?assign ?body ?done ?stop
    case assign =>
      rintro l2 pre y V K hI hK
      have HK2 := Lib.hid hK
      clear hK
      unfold encT
      simp only [List.zip_toArray, List.zip_cons_cons, List.zip_nil_right, List.foldl_toArray, List.foldl_cons, List.foldl_nil, List.setIfInBounds_toArray, List.set_cons_succ, List.set_cons_zero]
      gi_wp2
      exact HK2.out _ _ (KeepsFrom.refl _ _) ⟨KD.refl _ _ _, KeepsFrom.refl _ _⟩ hI rfl
    case body =>
      rintro l2 pre y a' V ⟨ro, rc, hA, hO, hge, hne, hBe, hVz⟩ rfl hlen
      obtain ⟨i9, z9, hi9, hz9, h91, h916, hz91⟩ := info_9
      have a6 := At.new V #[.string (bs y)] 9
      have b6 := (Below.refl _ V).alloc (Nat.le_refl _) (.cells #[.string (bs y)] 9)
      obtain ⟨ro', rc', w7, hrun, h7, ht⟩ := run_append_two (P := Try.prog) (V.alloc (.cells #[.string (bs y)] 9)) 40 40 9 i9 z9 16 Try.underlying40 hi9 hz9 h91 h916 hz91 ro pre.length rc (pre.map tv) (hO.keep (fun i hi => b6.block i (hO.lt i hi))) V.heap.size 1 (.string (bs y)) a6 rfl (by unfold maxLen; omega) (by omega)
      obtain ⟨kd, kt⟩ := append_kept (c0 := w2.heap.size) hO b6 (fun i hi => by have := hge i hi; omega) hne hA h7 ht (.slice ro' (pre.length + 1) rc')
      have cL := hA.cell 0 _ rfl
      have hLr : w2.heap.size ∉ blk ro := fun e => by have := hge _ e; omega
      have hA7 : At w7 w2.heap.size 40 [.slice ro pre.length rc] := by
        have h6 := hA.below b6 hA.lt
        rcases ht with ⟨_, t⟩ | ⟨t, _⟩
        · exact h6.touch t hLr
        · exact h6.touch t (by simp)
      have HRUN := Lib.hid hrun
      have H7 := Lib.hid h7
      have HT := Lib.hid ht
      have HKD := Lib.hid kd
      have HKT := Lib.hid kt
      have HO := Lib.hid hO
      have HA := Lib.hid hA
      have HA7 := Lib.hid hA7
      have HGE := Lib.hid hge
      have HBE := Lib.hid hBe
      clear hrun h7 ht kd kt hO hA hA7 hge hBe a6 b6 hi9 hz9 h91 h916 hz91
      gi_wp2_with (first
        | (refine in_val rfl (by simp [Oper.about]) (Oper.semAt_plain _ _ _ (by intro c hc; cases hc)) (run_build_op 40 (.tmp 12) rfl (.string (bs y)) rfl (build_str V (bs y))) ?_)
        | (refine in_val rfl (by simp [Oper.about, resolve, Target.leads, Sem.run_pure]) (Oper.semAt_plain _ _ _ (by intro c hc; cases hc)) (run_append_op (.tmp 11) (.tmp 13) 40 40 rfl (.slice ro pre.length rc) (.slice (some ⟨V.heap.size, 0, none⟩) 1 1) rfl rfl HRUN.out) ?_)
        | (refine in_skip rfl (by simp [Oper.about]) (Oper.semAt_plain _ _ _ (by intro c hc; cases hc)) (run_store_slice 40 9 (.tmp 3) (.tmp 14) rfl w2.heap.size 0 rfl ro' (pre.length + 1) rc' rfl _ (HA7.out.cell 0 _ rfl) (HA7.out.frozen 0) Try.underlying40 (by kernel_rfl)) ?_))
      have hrge : ∀ i, i ∈ blk ro' → w5.heap.size ≤ i := fun i hi => by
        rcases HT.out with ⟨e, _⟩ | ⟨_, g, e, hg⟩
        · rw [e] at hi; exact HGE.out i hi
        · rw [e] at hi
          have : i = g := by simpa [blk] using hi
          have := HBE.out.size
          rw [World.size_alloc] at hg
          have h5 := (HKT.out).size
          have h6 := HA.out.lt
          omega
      have hcellsV : ∀ k, k ∈ w2.heap.size :: blk ro → ∃ T l, At V k T l := fun k hk => by
        rcases List.mem_cons.mp hk with rfl | hk
        · exact ⟨_, _, HA.out⟩
        · cases ro with
          | none => cases hk
          | some a =>
            obtain ⟨cs, hcs⟩ := HO.out.cells (g := k) (by simpa [blk] using hk)
            exact ⟨9, cs.toList, by unfold At; rw [hcs]⟩
      refine ⟨keepsFrom_touch HKT.out hcellsV, ⟨HKD.out, keepsFrom_touch HKT.out hcellsV⟩, ro', rc', ?_, ?_, hrge, fun _ => by simp, HKT.out.below HBE.out (fun k hk => ?_) (Nat.le_refl _), by have := HKT.out.size; omega⟩
      · rw [List.length_append]; exact HA7.out.setCell 0 _
      · rw [List.length_append, List.map_append]
        exact H7.out.keep (fun i hi => Below.heap_setCell _ _ _ i (show i ≠ w2.heap.size by have := hrge i hi; omega))
      · rcases List.mem_cons.mp hk with rfl | hk
        · omega
        · have := HGE.out k hk; omega
    case done =>
      rintro E xs V hDz hxs ⟨ro, rc, hA, hO, hge, hne, hBe, hVz⟩ hDD
      have cL := hA.cell 0 _ rfl
      have HO := Lib.hid hO
      have HBE := Lib.hid hBe
      have HDD := Lib.hid hDD
      have HXS := Lib.hid hxs
      clear hA hO hBe hDD hxs
      go_wp2_with fail
      refine ⟨by simp, .inl ⟨_, _, rfl, run_takeDeferred HDD.out, ?_⟩⟩
      refine ⟨_, results_tmp rfl _ _ _, HBE.out.trans (belowK_b (w := w) (Nat.le_refl _) V E _ _ (by omega) HDD.out rfl rfl), _, rfl, ?_⟩
      rw [HR.out, if_neg hd, ← HXS.out]
      refine Own.strs (HO.out.keep (fun i hi => World.putObj_heap_other (fun e => ?_)))
      subst e
      cases ro with
      | none => cases hi
      | some a =>
        obtain ⟨cs, hcs⟩ := HO.out.cells (g := i) (by simpa [blk] using hi)
        rw [HDD.out] at hcs
        cases hcs
    case stop =>
      rintro E c pre V _ _ h _
      exact h.elim
end Go.Proofs.Ytdpeblchndfdaaa
