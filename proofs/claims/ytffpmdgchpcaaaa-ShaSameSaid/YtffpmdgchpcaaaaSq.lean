/- 'append' of a text to a row that a conversion made; the statement ShaSame: its walk. -/
import Derived.Test.YtffpmdgchpcaaaaSp
import Derived.Lib.ConvBytes
import Derived.Lib.AppendStr
import Derived.Lib.FrozenHead
namespace Go.Proofs.Ytffpmdgchpcaaaa
open Go.RowKit Go.Lib
section
variable {P : Program}
/-- cells are stored ahead of a row's frozen stretch -/
theorem storeCells_ahead (g o : Nat) (t : TypeId) (fz : Nat × Nat) : ∀ (vs : List Value) (i : Nat) (cur : Array Value) (w : World), w.heap[g]? = some (.cells cur t fz) → cur.size ≤ fz.1 → o + i + vs.length ≤ cur.size → (∀ v ∈ vs, v.oneCell' = true) →
    (storeCells ⟨g, o, none⟩ vs i).run P w = .ok () (w.setRow g (cur.toList.take (o + i) ++ vs ++ cur.toList.drop (o + i + vs.length)).toArray)
  | [], i, cur, w, hg, _, _, _ => by
    simp only [storeCells, List.append_nil, List.length_nil, Nat.add_zero, List.take_append_drop, Array.toArray_toList]
    rw [setRow_self w g cur t fz hg]
    rfl
  | v :: rest, i, cur, w, hg, hfz, hl, h1 => by
    have hi : o + i < cur.size := by simp at hl; omega
    have hadd : (⟨g, o, none⟩ : Addr).add i = ⟨g, o + i, none⟩ := by unfold Addr.add; split <;> simp_all
    have hcell : w.cell? ⟨g, o + i, none⟩ = some cur[o + i] := by simp [World.cell?, hg, hi]
    have hfro : w.frozen? ⟨g, o + i, none⟩ = false := by
      obtain ⟨lo, hi'⟩ := fz
      simp only [World.frozen?, hg, Bool.and_eq_false_iff, decide_eq_false_iff_not]
      left
      simp only at hfz
      omega
    have hst : (store ((⟨g, o, none⟩ : Addr).add i) v).run P w = .ok () (w.setRow g (cur.setIfInBounds (o + i) v)) := by
      rw [hadd, run_store P w _ v _ (h1 v (by simp)), hcell]
      simp [hfro, setCell_eq_setRow w g (o + i) cur t fz v hg]
    have ih := storeCells_ahead g o t fz rest (i + 1) (cur.setIfInBounds (o + i) v) (w.setRow g (cur.setIfInBounds (o + i) v)) (setRow_heap w g cur _ t _ hg) (by simpa using hfz) (by simp at hl ⊢; omega) (fun x hx => h1 x (by simp [hx]))
    simp only [storeCells, Sem.run_bind, hst, Result.andThen_ok, ih, setRow_setRow]
    congr 3
    have e := list_seg_step cur.toList (o + i) v rest (by simp at hl ⊢; omega)
    simpa [Array.toList_setIfInBounds, Nat.add_assoc] using e

theorem strCells_bs (l : List UInt8) : strCells (bs l) = l.map bv := by
  unfold strCells
  rw [show (bs l).data = l.toArray from rfl]
  simp [bv]
/-- bytes of a text behind those of a converted row -/
theorem append_conv (w : World) (t u ty e : TypeId) (i : TypeInfo) (ht : P.underlying t = some (.slice e)) (hu : P.underlying u = some .string) (hi : P.info? e = some i) (hz : i.zero = some (.int .u8 0)) (hs1 : i.size = 1) (hby : i.bytes = 1)
    (a : List UInt8) (w0 : World) (hw : w = bytesWorld w0 e (bs a)) (b : List UInt8) (hlen : a.length + b.length ≤ 1000000) :
    ∃ g cap w', (Builtin.append_ #[t, u] ty #[.slice (some ⟨w0.heap.size, 0, none⟩) a.length (grownCap w0 a.length 0 e), .string (bs b)]).run P w = .ok (.slice (some ⟨g, 0, none⟩) (a.length + b.length) cap) w' ∧
      (∀ j c, (a ++ b)[j]? = some c → w'.cell? ⟨g, j, none⟩ = some (bv c)) ∧ Below w0.heap.size w0 w' := by
  have hg : w.heap[w0.heap.size]? = some (.cells (bytesCells w0 e (bs a)) e ((bytesCells w0 e (bs a)).size, (bytesCells w0 e (bs a)).size + 1)) := by rw [hw]; exact bytesWorld_at_new w0 e (bs a)
  have hB : Below w0.heap.size w0 w := by rw [hw]; exact ⟨rfl, rfl, rfl, by rw [bytesWorld_size]; omega, fun k hk => bytesWorld_at_old w0 e (bs a) k hk⟩
  have hcs : bytesCells w0 e (bs a) = (a.map bv).toArray ++ Array.replicate (grownCap w0 a.length 0 e - a.length) (.int .u8 0) := by
    unfold bytesCells
    rw [bs_size]
    congr 1
    apply Array.ext'
    simp [bs, bv]
  have hge := grownCap_ge w0 a.length 0 e
  have hsz : (bytesCells w0 e (bs a)).size = grownCap w0 a.length 0 e := by rw [hcs]; simp; omega
  have hbl : (bs b).size = b.length := bs_size b
  have hcell0 : ∀ j c, a[j]? = some c → w.cell? ⟨w0.heap.size, j, none⟩ = some (bv c) := fun j c hc => by
    have hj : j < a.length := (List.getElem?_eq_some_iff.1 hc).1
    simp only [World.cell?, hg, hcs]
    rw [Array.getElem?_append_left (by simpa using hj)]
    simp [hc]
  generalize hC : bytesCells w0 e (bs a) = C at *
  by_cases hroom : a.length + b.length ≤ grownCap w0 a.length 0 e
  · have hf := run_firstCells_string (P := P) w 1 (bs b)
    have hst := storeCells_ahead (P := P) w0.heap.size a.length e (C.size, C.size + 1) (strCells (bs b)) 0 C w hg (Nat.le_refl _) (by rw [strCells_length, hbl]; omega) (strCells_oneCell (bs b))
    simp only [Nat.add_zero, strCells_length] at hst
    rw [hbl] at hf hst
    refine ⟨w0.heap.size, grownCap w0 a.length 0 e, w.setRow w0.heap.size (C.toList.take a.length ++ strCells (bs b) ++ C.toList.drop (a.length + b.length)).toArray, ?_, ?_, ?_⟩
    · simp [Builtin.append_, run_underlying ht, run_underlying hu, sizeOf, typeInfo, hi, hs1, Builtin.lenOf, hbl, hroom, hf, Addr.add_lit, hst]
    · intro j c hc
      have hrow := setRow_heap w w0.heap.size C (C.toList.take a.length ++ strCells (bs b) ++ C.toList.drop (a.length + b.length)).toArray e (C.size, C.size + 1) hg
      simp only [World.cell?, hrow]
      have hta : C.toList.take a.length = a.map bv := by
        rw [hcs]; simp
      rw [hta, strCells_bs, ← List.map_append]
      simp only [List.getElem?_toArray]
      have hj := (List.getElem?_eq_some_iff.1 hc).1
      rw [List.getElem?_append_left (by simpa using hj), List.getElem?_map, hc]
      rfl
    · exact below_setRow' hB _ (Nat.le_refl _) _
  · have hr := run_append_grow_string (P := P) w t u ty e i (.int .u8 0) ht hu hi hz ⟨w0.heap.size, 0, none⟩ a.length (grownCap w0 a.length 0 e) (a.map bv) (by rw [hs1]; simp) (fun j v hv => by
        rw [Addr.add0]
        rw [List.getElem?_map] at hv
        cases hc : a[j]? with
        | none => rw [hc] at hv; cases hv
        | some c => rw [hc] at hv; cases hv; exact hcell0 j c hc) (bs b) (by rw [hbl]; omega) (by rw [hbl]; omega) (by rw [hby, hbl]; exact growslice_fits (by omega) (by omega))
    rw [hbl] at hr
    refine ⟨_, _, _, hr, ?_, ?_⟩
    · intro j c hc
      have hj := (List.getElem?_eq_some_iff.1 hc).1
      rw [show w.heap.size = w.drew.heap.size from rfl]
      refine (At.new w.drew _ e).cell j _ ?_
      simp only [Array.toList_append]
      rw [strCells_bs, ← List.map_append, List.getElem?_append_left (by simpa using hj), List.getElem?_map, hc]
      rfl
    · exact (Below.drew hB).alloc hB.size _

theorem run_convert_op {o : Oper} {a : Act} {w w1 : World} (t u : TypeId) (x : Operand) (ho : o.op = .convert t u x) (v : Value) (hx : a.eval x = v) {y : Value} (hr : (convert t u v).run P w = .ok y w1) :
    (execOp a.eval o).run P w = .ok (.value y) w1 := by
  unfold execOp
  simp [ho, hx, hr, Result.andThen]
theorem run_append_op {o : Oper} {a : Act} {w w1 : World} (s x : Operand) (t u : TypeId) (ho : o.op = .call { callee := .builtin .append, args := #[s, x], argTypes := #[t, u] }) (v y : Value) (hs : a.eval s = v) (hx : a.eval x = y) {z : Value}
    (hr : (Builtin.append_ #[t, u] o.type #[v, y]).run P w = .ok z w1) : (execOp a.eval o).run P w = .ok (.value z) w1 := by
  unfold execOp
  simp [ho, resolve, invoke, builtin, hs, hx, hr, Result.andThen]
theorem wpOp_val {ops : Array Oper} {Q : Exit → Act → World → Prop} {i : Nat} {o : Oper} {a : Act} {w w' : World} {v : Value} {K : Act → World → Prop} (hi : ops[i]? = some o) (hw : Region.wanted o (yielded ops a.tmps) = true)
    (hr : (execOp a.eval o).run P w = .ok (.value v) w') (hc : K (a.put o.dst v) w') : wpOp P ops Q i K a w := by
  unfold wpOp
  simp only [hi, hw, if_true]
  refine .inl ?_
  unfold Oper.wp
  rw [hr]
  exact hc
theorem step_convert {ops : Array Oper} {o : Oper} {a : Act} {w w1 : World} {K : Act → World → Prop} {Q : Exit → Act → World → Prop} {E : Prop} (hgd : o.guard = none) (x : Operand) (t u : TypeId)
    (ho : o.op = .convert t u x) (v y : Value) (hx : a.eval x = v) (hr : (convert t u v).run P w = .ok y w1) (h : K (a.put o.dst y) w1) :
    if Region.wanted o (yielded ops a.tmps) = true then Oper.wp P o a w K Q else E := by
  have hw : Region.wanted o (yielded ops a.tmps) = true := by simp [Region.wanted, hgd]
  rw [if_pos hw]
  unfold Oper.wp
  simp [execOp, ho, hx, hr, Result.andThen]
  exact h
theorem step_text {ops : Array Oper} {o : Oper} {a : Act} {w : World} {K : Act → World → Prop} {Q : Exit → Act → World → Prop} {E : Prop} (hgd : o.guard = none) (s x : Operand) (t u : TypeId)
    (ho : o.op = .call { callee := .builtin .append, args := #[s, x], argTypes := #[t, u] }) (v y : Value) (hs : a.eval s = v) (hx : a.eval x = y) (R : Nat → Nat → World → Prop) (n : Nat)
    (hr : ∃ g cap w', (Builtin.append_ #[t, u] o.type #[v, y]).run P w = .ok (.slice (some ⟨g, 0, none⟩) n cap) w' ∧ R g cap w')
    (h : ∀ g cap w', R g cap w' → K (a.put o.dst (.slice (some ⟨g, 0, none⟩) n cap)) w') :
    if Region.wanted o (yielded ops a.tmps) = true then Oper.wp P o a w K Q else E := by
  have hw : Region.wanted o (yielded ops a.tmps) = true := by simp [Region.wanted, hgd]
  rw [if_pos hw]
  obtain ⟨g, cap, w', hrun, hR⟩ := hr
  unfold Oper.wp
  simp [execOp, ho, resolve, invoke, builtin, hs, hx, hrun, Result.andThen]
  exact h _ _ _ hR
end
theorem info5b : (Try.prog.info? 5).map (fun i => (i.zero, i.size, i.bytes)) = some (some (.int .u8 0), 1, 1) := by kernel_rfl
/-- the bytes of l, put together anew -/
def Joined (w0 : World) (l : List UInt8) (g _cap : Nat) (w' : World) : Prop := (∀ j c, l[j]? = some c → w'.cell? ⟨g, j, none⟩ = some (bv c)) ∧ Below w0.heap.size w0 w'
theorem join_any (w0 : World) (l : List UInt8) (k : Nat) (hk : k ≤ l.length) (hl : l.length ≤ 1000000) (ty : TypeId) :
    ∃ g cap w', (Builtin.append_ #[24, 9] ty #[.slice (some ⟨w0.heap.size, 0, none⟩) k (grownCap w0 k 0 5), .string (bs (l.drop k))]).run Try.prog (bytesWorld w0 5 (bs (l.take k))) = .ok (.slice (some ⟨g, 0, none⟩) l.length cap) w' ∧ Joined w0 l g cap w' := by
  obtain ⟨i5, hi5, hz0, hz1, hz2⟩ := info_parts info5b
  have h := append_conv (P := Try.prog) _ 24 9 ty 5 i5 Try.underlying24 Try.underlying9 hi5 hz0 hz1 hz2 (l.take k) w0 rfl (l.drop k) (by rw [List.length_take, List.length_drop]; omega)
  have e1 : (l.take k).length = k := by rw [List.length_take]; omega
  have e2 : k + (l.drop k).length = l.length := by rw [List.length_drop]; omega
  rw [e1, e2] at h
  rw [List.take_append_drop] at h
  exact h

theorem run_slice_hi {o : Oper} {a : Act} {w : World} (p hi : Operand) (ho : o.op = .slice 9 p none (some hi) none) (s : List UInt8) (k : Nat) (hk : k ≤ s.length) (hp : a.eval p = .string (bs s)) (hhi : a.eval hi = .int .i64 (k : Int)) :
    (execOp a.eval o).run Try.prog w = .ok (.value (.string (bs (s.take k)))) w := by
  have h2 : (k : Int) ≤ s.length := by omega
  unfold execOp
  simp only [ho, hp, hhi, Option.map_some, Option.map_none]
  simp [go_sem, run_underlying Try.underlying9, h2, bs_size, bs_take_bs]
theorem run_slice_lo {o : Oper} {a : Act} {w : World} (p lo : Operand) (ho : o.op = .slice 9 p (some lo) none none) (s : List UInt8) (k : Nat) (hk : k ≤ s.length) (hp : a.eval p = .string (bs s)) (hlo : a.eval lo = .int .i64 (k : Int)) :
    (execOp a.eval o).run Try.prog w = .ok (.value (.string (bs (s.drop k)))) w := by
  have h2 : (k : Int) ≤ s.length := by omega
  have h3 : (bs s).extract k s.length = bs (s.drop k) := by
    have := bs_drop_bs s k
    rwa [bs_size] at this
  unfold execOp
  simp only [ho, hp, hlo, Option.map_some, Option.map_none]
  simp [go_sem, run_underlying Try.underlying9, h2, bs_size, h3]
theorem ex_bs2 (s : ByteArray) : ∃ l, s = bs l := ⟨_, (bs_data s).symm⟩
theorem bs_extract_end2 (l : List UInt8) (k : Nat) : (bs l).extract k l.length = bs (l.drop k) := by
  have := bs_drop_bs l k
  rwa [bs_size] at this
attribute [local go_sem] bs_size bs_take_bs bs_extract_end2
set_option maxRecDepth 100000 in
set_option maxHeartbeats 8000000 in
theorem shaSame_walk (s : ByteArray) (n : Int) (w : World) (hs : s.size ≤ maxLen) (hn : (Lit.int .u16 n).wf = true) :
    Calls Try.prog 3 #[.string s, .int .u16 n] w fun e w' => e = .returned (.bool true) ∧ Below w.heap.size w w' := by
  unfold maxLen at hs
  have hn2 : 0 ≤ n ∧ n ≤ 65535 := by simpa [Lit.wf, IntKind.min, IntKind.max, IntKind.signed, IntKind.bits] using hn
  obtain ⟨hn0, hn1⟩ := hn2
  clear hn
  go_enter Try.func3, Try.ntmps3
  go_wp2_with fail
  refine (works_any _).mono ?_
  rintro e w1 ⟨rfl, b1⟩
  have HB1 := Lib.hid b1
  clear b1
  go_wp2_with fail
  have h1 : (s.extract 0 (min (s.size : Int) 5000).toNat).size ≤ 5000 := by rw [ByteArray.size_extract]; omega
  have hm : min (min (s.size : Int) 5000).toNat s.size = (s.extract 0 (min (s.size : Int) 5000).toNat).size := by rw [ByteArray.size_extract]; omega
  generalize s.extract 0 (min (s.size : Int) 5000).toNat = s2 at h1 hm ⊢
  obtain ⟨l, rfl⟩ := ex_bs2 s2
  rw [bs_size] at h1 hm
  rw [hm]
  obtain ⟨k, hk⟩ := Int.eq_ofNat_of_zero_le (show 0 ≤ n % ((l.length : Int) + 1) from Int.emod_nonneg _ (by omega))
  have hk2 : n % ((l.length : Int) + 1) < (l.length : Int) + 1 := Int.emod_lt_of_pos _ (by omega)
  rw [hk]
  rw [hk] at hk2
  have hkl : k ≤ l.length := by omega
  clear hm hk hk2
  have i0 : 0 ≤ (k : Int) := by omega
  have i1 : (k : Int) ≤ (l.length : Int) := by omega
  have hlk : (bs (l.take k)).size = k := by rw [bs_size, List.length_take]; omega
  have hcv : ∀ W, (convert 9 24 (.string (bs (l.take k)))).run Try.prog W = .ok (.slice (some ⟨W.heap.size, 0, none⟩) k (grownCap W k 0 5)) (bytesWorld W 5 (bs (l.take k))) := fun W => by
    have := Go.Lib.run_convert_string_bytes (P := Try.prog) W 9 24 5 (bs (l.take k)) Try.underlying9 Try.underlying24 Try.underlying5
    rw [hlk] at this
    exact this
  have hsum := fun w => sum_any l w (by omega)
  have hlen := sha_len l
  generalize sha l = y at *
  clear hlk
  refine region_any (fun _ => True) 8 (by kernel_rfl) ?_
  refine wpAnyT_take (i := 0) rfl rfl (by kernel_rfl) (by kernel_rfl) (by kernel_rfl) (by kernel_rfl) (fun _ _ _ h => h) (.inl ⟨by kernel_rfl, fun w _ => rfl⟩) trivial ?_
  refine wpAnyT_take (i := 1) rfl rfl (by kernel_rfl) (by kernel_rfl) (by kernel_rfl) (by kernel_rfl) (fun _ _ _ h => h) (.inl ⟨by kernel_rfl, fun w _ => rfl⟩) trivial ?_
  refine wpAnyT_take (i := 2) rfl rfl (by kernel_rfl) (by kernel_rfl) (by kernel_rfl) (by kernel_rfl) (fun _ _ _ h => h) (.inl ⟨by kernel_rfl, fun w _ => run_slice_hi _ _ rfl l k hkl (by kernel_rfl) (by kernel_rfl)⟩) trivial ?_
  refine wpAnyT_take (i := 4) rfl rfl (by kernel_rfl) (by kernel_rfl) (by kernel_rfl) (by kernel_rfl) (fun _ _ _ h => h) (.inl ⟨by kernel_rfl, fun w _ => rfl⟩) trivial ?_
  refine wpAnyT_take (i := 5) rfl rfl (by kernel_rfl) (by kernel_rfl) (by kernel_rfl) (by kernel_rfl) (fun _ _ _ h => h) (.inl ⟨by kernel_rfl, fun w _ => rfl⟩) trivial ?_
  refine wpAnyT_take (i := 6) rfl rfl (by kernel_rfl) (by kernel_rfl) (by kernel_rfl) (by kernel_rfl) (fun _ _ _ h => h) (.inl ⟨by kernel_rfl, fun w _ => run_slice_lo _ _ rfl l k hkl (by kernel_rfl) (by kernel_rfl)⟩) trivial ?_
  refine wpAnyT_all (rs := [3]) (by kernel_rfl) (by simp) ?_
  intro i hi
  obtain rfl : i = 3 := by simpa using hi
  refine wpOp_val rfl (by kernel_rfl) (run_convert_op 9 24 _ rfl (.string (bs (l.take k))) (by kernel_rfl) (hcv _)) ⟨fun _ => trivial, ?_⟩
  obtain ⟨g, cap, w3, hrun, hJ⟩ := join_any { w1 with drawn := w1.drawn + 1 } l k hkl (by omega) 24
  refine wpAnyT_all (rs := [7]) (by kernel_rfl) (by simp) ?_
  intro i hi
  obtain rfl : i = 7 := by simpa using hi
  refine wpOp_val rfl (by kernel_rfl) (run_append_op _ _ 24 9 rfl (.slice (some ⟨({ w1 with drawn := w1.drawn + 1 } : World).heap.size, 0, none⟩) k (grownCap { w1 with drawn := w1.drawn + 1 } k 0 5)) (.string (bs (l.drop k))) (by kernel_rfl) (by kernel_rfl) hrun) ⟨fun _ => trivial, ?_⟩
  refine wpAnyT_all (rs := [8]) (by kernel_rfl) (by simp) ?_
  intro i hi
  obtain rfl : i = 8 := by simpa using hi
  refine wpOp_val rfl (by kernel_rfl) rfl ⟨fun h => absurd rfl h, wpAnyT_done (by kernel_rfl) ?_ _⟩
  obtain ⟨hJc, hJb⟩ := hJ
  have HJc := Lib.hid hJc
  have HJb := Lib.hid hJb
  clear hJc hJb hrun
  simp only [Act.put, List.setIfInBounds_toArray, List.set_cons_zero, List.set_cons_succ]
  go_wp2_with fail
  refine (hsum _).mono ?_
  rintro e w4 ⟨rfl, b4⟩
  have hcv2 : (convert 24 9 (.slice (some ⟨g, 0, none⟩) l.length cap)).run Try.prog w4 = .ok (.string (bs l)) w4 :=
    run_convert_bytes_back w4 24 9 5 ⟨g, 0, none⟩ cap l Try.underlying24 Try.underlying5 Try.underlying9 (fun j hj => by
      rw [Addr.add0]
      have h := HJc.out j _ (List.getElem?_eq_getElem hj)
      exact (b4.cell (cell_lt h)).trans h)
  have HB4 := Lib.hid (HJb.out.trans (b4.mono HJb.out.size))
  have i32 : (y.length : Int) = 32 := by omega
  clear b4 hlen
  go_wp2_with fail
  refine (hsum _).mono ?_
  rintro e w5 ⟨rfl, b5⟩
  have HB5 := Lib.hid (HB4.out.trans (b5.mono HB4.out.size))
  clear b5
  go_wp2
  go_ret
  exact ⟨rfl, (Below.drew HB1.out).trans (HB5.out.mono HB1.out.size)⟩
end Go.Proofs.Ytffpmdgchpcaaaa
