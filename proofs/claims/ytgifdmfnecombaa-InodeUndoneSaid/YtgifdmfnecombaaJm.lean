/- The names that a file has, as a row of texts. -/
import Derived.Test.YtgifdmfnecombaaJg
import Derived.Test.YtgifdmfnecombaaJl
namespace Go.Proofs.Ytgifdmfnecombaa
open Go.RowKit
set_option maxRecDepth 100000
def Nms (w : World) (ao : Option Addr) (cap : Nat) (js : List Nat) : Prop := Own w 9 1 ao js.length cap (js.map fun j => tv (nmOf j))
theorem range_one : (List.range 1).map (fun j => tv (nmOf j)) = [.string ⟨#[97]⟩] := by
  show [Value.string (bs [UInt8.ofNat (97 + 0)])] = _
  rfl
/-- a row of integers that came in -/
def IsRow8 (w : World) (a : Option Addr) (len cap : Nat) (zs : List Int) : Prop :=
  (a = none ∧ len = 0 ∧ cap = 0 ∧ zs = []) ∨
  ∃ x, a = some x ∧ len ≤ cap ∧ cap ≤ maxLen ∧ zs.length = cap ∧ (∀ i, i < zs.length → w.cell? (x.add i) = some (.int .u8 (zs.getD i 0))) ∧ ∀ n ∈ zs, (Lit.int .u8 n).wf = true
theorem row8_at {w : World} {a : Option Addr} {len cap : Nat} {zs : List Int} (h : IsRow8 w a len cap zs) {k : Nat} (hk : k < len) : ∃ (x : Addr) (z : Nat), a = some x ∧ z < 256 ∧ w.cell? (x.add k) = some (.int .u8 (z : Int)) := by
  rcases h with ⟨_, h0, _⟩ | ⟨x, rfl, h1, _, h2, h3, h4⟩
  · omega
  · have hz := h4 (zs.getD k 0) (by
      rw [List.getD_eq_getElem?_getD, List.getElem?_eq_getElem (by omega)]
      exact List.getElem_mem _)
    have h5 := h3 k (by omega)
    generalize zs.getD k 0 = y at hz h5
    simp [Lit.wf, IntKind.min, IntKind.max, IntKind.signed, IntKind.bits] at hz
    refine ⟨x, y.toNat, rfl, by omega, ?_⟩
    rw [h5]
    congr 2
    omega
theorem cell_old {w0 w : World} (hb : Below w0.heap.size w0 w) {p : Addr} {v : Value} (h : w0.cell? p = some v) : w.cell? p = some v := by
  rw [← h]; exact hb.cell (World.block_lt_of_cell? w0 p h)
theorem conv1 (c : UInt8) (W : World) :
    (convert 55 9 (.slice (some ⟨W.heap.size, 0, none⟩) 1 1)).run Try.prog (W.alloc (.cells #[.int .u8 (c.toNat : Int)] 5)) =
      .ok (.string (bs [c])) (W.alloc (.cells #[.int .u8 (c.toNat : Int)] 5)) := by
  refine run_convert_bytes_back _ 55 9 5 ⟨W.heap.size, 0, none⟩ 1 [c] Try.underlying55 Try.underlying5 Try.underlying9 ?_
  intro j hj
  obtain rfl : j = 0 := by simpa using hj
  exact (At.new W #[.int .u8 (c.toNat : Int)] 5).cell 0 _ rfl
theorem conv_nm (k : Nat) (hk : k < 12) (W : World) : (convert 55 9 (.slice (some ⟨W.heap.size, 0, none⟩) 1 1)).run Try.prog (W.alloc (.cells #[.int .u8 ((97 + k : Nat) : Int)] 5)) = .ok (.string (bs (nmOf k))) (W.alloc (.cells #[.int .u8 ((97 + k : Nat) : Int)] 5)) := by
  have h := conv1 (UInt8.ofNat (97 + k)) W
  have e : (UInt8.ofNat (97 + k)).toNat = 97 + k := by rw [UInt8.toNat_ofNat']; omega
  rw [e] at h
  exact h
theorem info9 : (Try.prog.info? 9).map (fun i => (i.zero, i.size, i.bytes)) = some (some (.string ⟨#[]⟩), 1, 16) := by kernel_rfl
theorem info_parts {t : TypeId} {z : Option Value} {s b : Nat} (h : (Try.prog.info? t).map (fun i => (i.zero, i.size, i.bytes)) = some (z, s, b)) : ∃ i, Try.prog.info? t = some i ∧ i.zero = z ∧ i.size = s ∧ i.bytes = b := by
  cases hq : Try.prog.info? t with
  | none => simp [hq] at h
  | some i => simp [hq] at h; exact ⟨i, rfl, h.1, h.2.1, h.2.2⟩
theorem index_byte {o : Oper} {a : Act} {w : World} (x y : Operand) (ho : o.op = .index 9 x y) (k : Nat) (hk : k < 12) (hx : a.eval x = .string (bs (nmOf k))) (hy : a.eval y = .int .i64 0) : (execOp a.eval o).run Try.prog w = .ok (.value (.int .u8 ((97 + k : Nat) : Int))) w := by
  have e : (UInt8.ofNat (97 + k)).toNat = 97 + k := by rw [UInt8.toNat_ofNat']; omega
  unfold nmOf at hx
  generalize UInt8.ofNat (97 + k) = c at hx e
  have hg : ∀ h, (⟨#[c]⟩ : ByteArray)[0]'h = c := fun _ => rfl
  rw [← e]
  unfold execOp
  simp only [ho, hx, hy]
  simp [go_sem, run_underlying Try.underlying9, bs, hg]
theorem own_keep {w w' : World} {e : TypeId} {size n cap : Nat} {ao : Option Addr} {xs : List Value} (h : Own w e size ao n cap xs) (k : ∀ b, b ∈ blk ao → w'.heap[b]? = w.heap[b]?) : Own w' e size ao n cap xs := by
  refine ⟨h.1, ?_⟩
  rcases h.2 with h0 | ⟨g, cap', cur, hv, hbg, hg, rest⟩
  · exact .inl h0
  · cases hv
    exact .inr ⟨g, _, cur, rfl, hbg, by rw [k g (by simp [blk])]; exact hg, rest⟩
/-- the slice that stands for 'names': at least one there -/
theorem Nms.there {w : World} {ao : Option Addr} {cap : Nat} {js : List Nat} (h : Nms w ao cap js) (h0 : js ≠ []) : ∃ g, ao = some ⟨g, 0, none⟩ ∧ js.length ≤ cap ∧ ∀ i j, js[i]? = some j → w.cell? ((⟨g, 0, none⟩ : Addr).add i) = some (tv (nmOf j)) := by
  have hl : 0 < js.length := List.length_pos_iff.mpr h0
  obtain ⟨g, cur, rfl, hA, hc, _⟩ := Own.there h hl
  refine ⟨g, rfl, hc, fun i j hj => ?_⟩
  rw [Addr.add0]
  refine hA.cell i _ ?_
  rw [List.getElem?_append_left (by rw [List.length_map]; exact (List.getElem?_eq_some_iff.mp hj).1), List.getElem?_map, hj]
  rfl
theorem cell_touch {ft : List Nat} {w w' : World} (t : Touch ft w w') {g k : Nat} (h : g < w.heap.size) (hn : g ∉ ft) : w'.cell? ⟨g, k, none⟩ = w.cell? ⟨g, k, none⟩ := by
  have := t.block g h hn
  unfold World.cell?
  simp only [this]
theorem addr_add (g k j : Nat) : ((⟨g, 0, none⟩ : Addr).add k).add j = (⟨g, 0, none⟩ : Addr).add (k + j) := by
  rw [Addr.add0, Addr.add0]
  unfold Addr.add
  split <;> simp_all
/-- 'append' of a part, that may be empty -/
theorem append_part {P : Program} (w : World) (t e : TypeId) (i : TypeInfo) (z : Value) (size bytes : Nat) (ht : P.underlying t = some (.slice e)) (hi : P.info? e = some i) (hz : i.zero = some z) (hsize : i.size = size) (hby : i.bytes = bytes) (hzs : z.cells.size = size) (hsz : 0 < size)
    (ao : Option Addr) (n cap : Nat) (xs : List Value) (hO : Own w e size ao n cap xs)
    (p : Addr) (m c : Nat) (news : List Value) (hc : ∀ j u, news[j]? = some u → w.cell? (p.add j) = some u) (hl : news.length = m * size) (h1 : ∀ u ∈ news, u.oneCell' = true) (h63 : n + m ≤ maxLen) (hbytes : (n + m) * bytes ≤ 140737488355328) :
    ∃ ao' cap' w', (Builtin.append_ #[t, t] t #[.slice ao n cap, .slice (some p) m c]).run P w = .ok (.slice ao' (n + m) cap') w' ∧ Own w' e size ao' (n + m) cap' (xs ++ news) ∧ Touch (blk ao) w w' ∧ (blk ao' = blk ao ∨ ∃ g, blk ao' = [g] ∧ w.heap.size ≤ g) := by
  by_cases h0 : m = 0
  · subst h0
    obtain rfl : news = [] := List.eq_nil_of_length_eq_zero (by simpa using hl)
    refine ⟨ao, cap, w, append_zero w t t e ht i hi ao n cap hO.cap p c, by simpa using hO, Touch.refl _ _, .inl rfl⟩
  · exact run_append_at w t t e i z size bytes ht hi hz hsize hby hzs hsz ao n cap xs hO p m c news hc hl h1 (by omega) h63 hbytes
/-- one is taken out of the row -/
theorem cut_runs (w0 u : World) (g cap : Nat) (js : List Nat) (ii : Nat) (hil : ii < js.length) (hcap : js.length ≤ cap) (hlen : js.length ≤ 100) (hg : g < u.heap.size)
    (hcell : ∀ i j, js[i]? = some j → u.cell? ((⟨g, 0, none⟩ : Addr).add i) = some (tv (nmOf j))) :
    ∃ ao1 cap1 u2 ao2 cap2 u3, (Builtin.append_ #[38, 38] 38 #[.slice (some ⟨u.heap.size, 0, none⟩) 0 0, .slice (some ⟨g, 0, none⟩) ii cap]).run Try.prog (u.alloc (.cells #[] 9)) = .ok (.slice ao1 ii cap1) u2 ∧
      (Builtin.append_ #[38, 38] 38 #[.slice ao1 ii cap1, .slice (some (lowA ⟨g, 0, none⟩ (ii + 1) cap)) (js.length - (ii + 1)) (cap - (ii + 1))]).run Try.prog u2 = .ok (.slice ao2 (js.length - 1) cap2) u3 ∧
      Nms u3 ao2 cap2 (js.take ii ++ js.drop (ii + 1)) ∧ (∀ i ∈ blk ao2, u.heap.size ≤ i) ∧ ∀ tb D n, Holds w0 u tb D n (fun b => b ∈ blk (some (⟨g, 0, none⟩ : Addr))) → Holds w0 u3 tb D n (fun b => b ∈ blk ao2) := by
  obtain ⟨iw, hiw, hz0, hz1, hz2⟩ := info_parts info9
  have b1 := (Below.refl _ u).alloc (Nat.le_refl _) (.cells #[] 9)
  have a1 := At.new u #[] 9
  have o1 : Own (u.alloc (.cells #[] 9)) 9 1 (some ⟨u.heap.size, 0, none⟩) 0 0 [] := ⟨rfl, .inr ⟨u.heap.size, 0, #[], rfl, Nat.zero_le _, a1, Nat.le_refl _, Nat.zero_le _, rfl, rfl⟩⟩
  have s1 : (u.alloc (.cells #[] 9)).heap.size = u.heap.size + 1 := by rw [World.size_alloc]
  have c1 : ∀ i j, js[i]? = some j → (u.alloc (.cells #[] 9)).cell? ((⟨g, 0, none⟩ : Addr).add i) = some (tv (nmOf j)) := fun i j h => cell_old b1 (hcell i j h)
  generalize u.alloc (.cells #[] 9) = u1 at *
  have hl1 : ((js.take ii).map fun j => tv (nmOf j)).length = ii * 1 := by rw [List.length_map, List.length_take]; omega
  obtain ⟨ao1, cap1, u2, r1, o2, t2, k2⟩ := append_part (P := Try.prog) u1 38 9 iw _ 1 16 Try.underlying38 hiw hz0 hz1 hz2 rfl (by omega) (some ⟨u.heap.size, 0, none⟩) 0 0 [] o1 ⟨g, 0, none⟩ ii cap ((js.take ii).map fun j => tv (nmOf j)) (fun j v h => by
    rw [List.getElem?_map, List.getElem?_take] at h
    by_cases q : j < ii
    · rw [if_pos q] at h
      cases hq : js[j]? with
      | none => rw [hq] at h; cases h
      | some y => rw [hq] at h; cases h; exact c1 j y hq
    · rw [if_neg q] at h; cases h) hl1 (fun v hv => by obtain ⟨y, _, rfl⟩ := List.mem_map.mp hv; rfl) (by unfold maxLen; omega) (by omega)
  rw [Nat.zero_add, List.nil_append] at *
  have hblk : ∀ b ∈ blk ao1, u.heap.size ≤ b := fun b hb => by
    rcases k2 with h | ⟨q, h, hq⟩
    · rw [h] at hb; simp [blk] at hb; omega
    · rw [h] at hb; simp at hb; omega
  have c2 : ∀ i j, js[i]? = some j → u2.cell? ((⟨g, 0, none⟩ : Addr).add i) = some (tv (nmOf j)) := fun i j h => by
    have := c1 i j h
    rw [← this, Addr.add0]
    exact cell_touch t2 (show g < u1.heap.size by omega) (by simp [blk]; omega)
  have hl2 : ((js.drop (ii + 1)).map fun j => tv (nmOf j)).length = (js.length - (ii + 1)) * 1 := by rw [List.length_map, List.length_drop]; omega
  obtain ⟨ao2, cap2, u3, r2, o3, t3, k3⟩ := append_part (P := Try.prog) u2 38 9 iw _ 1 16 Try.underlying38 hiw hz0 hz1 hz2 rfl (by omega) ao1 ii cap1 _ o2 (lowA ⟨g, 0, none⟩ (ii + 1) cap) (js.length - (ii + 1)) (cap - (ii + 1)) ((js.drop (ii + 1)).map fun j => tv (nmOf j)) (fun j v h => by
    rw [List.getElem?_map, List.getElem?_drop] at h
    cases hq : js[ii + 1 + j]? with
    | none => rw [hq] at h; cases h
    | some y =>
      rw [hq] at h
      cases h
      have hlt := (List.getElem?_eq_some_iff.mp hq).1
      unfold lowA
      rw [if_pos (by omega), addr_add]
      exact c2 _ y hq) hl2 (fun v hv => by obtain ⟨y, _, rfl⟩ := List.mem_map.mp hv; rfl) (by unfold maxLen; omega) (by omega)
  rw [show ii + (js.length - (ii + 1)) = js.length - 1 by omega] at r2 o3
  have hlen3 : (js.take ii ++ js.drop (ii + 1)).length = js.length - 1 := by rw [List.length_append, List.length_take, List.length_drop]; omega
  refine ⟨ao1, cap1, u2, ao2, cap2, u3, r1, r2, ?_, fun b hb => ?_, fun tb D n H => ?_⟩
  · unfold Nms
    rw [hlen3, List.map_append]
    exact o3
  · rcases k3 with h | ⟨q, h, hq⟩
    · rw [h] at hb; exact hblk b hb
    · rw [h] at hb; simp at hb; have := t2.size; omega
  · have hs := H.size
    have h1 := H.fresh b1
    have h2 := h1.touch_fresh t2 (fun b hb => by simp [blk] at hb; subst hb; exact ⟨.inr ⟨Nat.le_refl _, by omega⟩, hs⟩)
    have h3 := h2.sub (av' := fun b => b ∈ blk ao1) (fun b hb => by
      rcases k2 with h | ⟨q, h, hq⟩
      · rw [h] at hb; simp [blk] at hb; subst hb; exact .inl (.inr ⟨Nat.le_refl _, by omega⟩)
      · have := Own.lt o2 b hb
        rw [h] at hb; simp at hb; subst hb; exact .inr ⟨hq, this⟩)
    have h4 := h3.touch_fresh t3 (fun b hb => ⟨hb, Nat.le_trans hs (hblk b hb)⟩)
    exact h4.sub (fun b hb => by
      rcases k3 with h | ⟨q, h, hq⟩
      · rw [h] at hb; exact .inl hb
      · have := Own.lt o3 b hb
        rw [h] at hb; simp at hb; subst hb; exact .inr ⟨hq, this⟩)
end Go.Proofs.Ytgifdmfnecombaa
