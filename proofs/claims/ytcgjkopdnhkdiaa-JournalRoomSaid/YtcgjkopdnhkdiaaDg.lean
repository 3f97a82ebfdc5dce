/- The walks of Flush. -/
import Derived.Test.YtcgjkopdnhkdiaaDf
namespace Go.Proofs.Ytcgjkopdnhkdiaa
open Go.RowKit
set_option maxRecDepth 100000

theorem wcells_len (ws : List (Nat × List UInt8)) (h : ∀ x ∈ ws, x.2.length = 128) : (wcells ws).length = ws.length * 129 := by
  induction ws with
  | nil => rfl
  | cons x r ih =>
    have hx := h x (by simp)
    have := ih (fun y hy => h y (by simp [hy]))
    unfold wcells at *
    rw [List.flatMap_cons, List.length_append, this, List.length_cons, wcell, List.length_cons, List.length_map, hx]; omega
theorem wcells_get : ∀ (ws : List (Nat × List UInt8)) (_ : ∀ x ∈ ws, x.2.length = 128) (i : Nat) (x : Nat × List UInt8), ws[i]? = some x → ∀ j v, (wcell x)[j]? = some v → (wcells ws)[i * 129 + j]? = some v
  | [], _, i, x, hi, _, _, _ => by simp at hi
  | y :: r, h, 0, x, hi, j, v, hv => by
    simp at hi
    subst hi
    have hj := (List.getElem?_eq_some_iff.1 hv).1
    unfold wcells
    rw [List.flatMap_cons, List.getElem?_append_left (by omega), Nat.zero_mul, Nat.zero_add, hv]
  | y :: r, h, i + 1, x, hi, j, v, hv => by
    have ih := wcells_get r (fun y hy => h y (by simp [hy])) i x (by simpa using hi) j v hv
    have hy : (wcell y).length = 129 := by unfold wcell; rw [List.length_cons, List.length_map, h y (by simp)]
    unfold wcells at *
    rw [List.flatMap_cons, List.getElem?_append_right (by omega), hy, show (i + 1) * 129 + j - 129 = i * 129 + j by omega, ih]
/-- a write that waits lies there -/
theorem Own.write {w : World} {ao : Option Addr} {cap : Nat} {ws : List (Nat × List UInt8)} (h : Own w 78 129 ao ws.length cap (wcells ws)) (h128 : ∀ x ∈ ws, x.2.length = 128) (i : Nat) (x : Nat × List UInt8) (hi : ws[i]? = some x) :
    ∃ g, ao = some ⟨g, 0, none⟩ ∧ w.rangeAt g (i * 129) (wcell x) := by
  have hl := (List.getElem?_eq_some_iff.1 hi).1
  obtain ⟨g, cur, rfl, hA, _, hlen⟩ := h.there (by omega)
  refine ⟨g, rfl, fun j v hv => hA.cell _ _ ?_⟩
  have := wcells_get ws h128 i x hi j v hv
  rw [List.getElem?_append_left (List.getElem?_eq_some_iff.1 this).1, this]
theorem wcell_len (x : Nat × List UInt8) (h : x.2.length = 128) : (wcell x).length = 129 := by unfold wcell; rw [List.length_cons, List.length_map, h]
theorem wcell_one (x : Nat × List UInt8) : ∀ v ∈ wcell x, v.oneCell' = true := by
  intro v hv
  unfold wcell at hv
  rcases List.mem_cons.1 hv with rfl | hv
  · rfl
  · exact bv_one _ v hv
theorem info_write : (Try.prog.info? 78).map (·.size) = some 129 := by kernel_rfl
theorem info_sector : (Try.prog.info? 74).map (·.size) = some 128 := by kernel_rfl

/-- a write of nothing -/
def zw : Array Value := (wcell (0, List.replicate 128 0)).toArray
theorem zw_len : zw.toList.length = 129 := by unfold zw; rw [List.toList_toArray, wcell_len _ (by simp)]
theorem zero_write : ∀ w, (zeroValue 78).run Try.prog w = .ok (.agg zw) w := fun _ => by kernel_rfl

theorem splice_whole (l c : List Value) (h : l.length = c.length) : splice l 0 c = c := by
  unfold splice
  rw [List.take_zero, List.nil_append, Nat.zero_add, List.drop_eq_nil_of_le (by omega), List.append_nil]
/-- a row newly laid, and filled whole -/
theorem fill_new (w : World) (z : Array Value) (T : TypeId) (c : List Value) (h : z.toList.length = c.length) :
    At ((w.alloc (.cells z T)).setCells w.heap.size 0 c) w.heap.size T c ∧ Touch [] w ((w.alloc (.cells z T)).setCells w.heap.size 0 c) := by
  have := (At.new w z T).setCells c 0 _ _ (by omega)
  rw [splice_whole _ _ h] at this
  exact ⟨this, Touch.setCells _ (.inr (Nat.le_refl _)) _ _ _ ((Touch.refl _ _).alloc _)⟩

section
variable {w : World} {D F N : Nat} {ao : Option Addr} {cap n : Nat} {s : Dk}
set_option maxRecDepth 100000 in
set_option maxHeartbeats 4000000 in
theorem flush1_any (h : DiskAt w D F N ao cap n s) (A TA : Nat) (hA : At w A TA [.pointer (some ⟨D, 0, none⟩)]) (hAf : A ∉ foot D F N ao) (hws : s.ws.length ≤ 1000000) :
    Calls Try.prog 44 #[.pointer (some ⟨A, 0, none⟩)] w fun e w' => e = .returned (.tuple #[]) ∧ DiskAt w' D F N none 0 n { s with fl := s.nw, ws := [] } ∧ Touch [D, F] w w' := by
  have ca := hA.cell 0 _ rfl
  have c2 := h.d.cell 2 _ rfl
  have H := Lib.hid h
  have HA := Lib.hid hA
  clear h hA
  go_enter Try.func44, Try.ntmps44
  go_wp2
  clear ca c2
  go_loopw [8] (fun i wx => ∃ k : Nat, k ≤ s.ws.length ∧ i = .int .i64 k ∧ At wx F 74 (vals (putAll s.fl (s.ws.take k))) ∧ Touch [F] w wx) (fun i _ => s.ws.length - (intOf i).toNat)
  case atStart => exact ⟨0, by omega, rfl, H.out.f, Touch.refl _ _⟩
  case round =>
    obtain ⟨k, hk, rfl, hF, hT⟩ := hrel
    have HF := Lib.hid hF
    have HT := Lib.hid hT
    clear hF hT
    by_cases hlt : k < s.ws.length
    · obtain ⟨x, hx⟩ : ∃ x, s.ws[k]? = some x := ⟨_, List.getElem?_eq_getElem hlt⟩
      have hxo := H.out.ok.ws x (List.mem_of_getElem? hx)
      have hown := H.out.w.touch HT.out (fun i hi => by have := H.out.fa; simp; rintro rfl; exact this hi)
      obtain ⟨g, rfl, hrg⟩ := hown.write (fun y hy => (H.out.ok.ws y hy).2) k x hx
      have hsc : putAll s.fl (s.ws.take (k + 1)) = (putAll s.fl (s.ws.take k)).set x.1 x.2 := by
        rw [List.take_add_one, hx]; exact putAll_snoc _ _ _
      have HS := Lib.hid hsc
      have HX := Lib.hid hx
      have HO := Lib.hid hxo
      have HR := Lib.hid hrg
      clear hsc hx hxo hrg hown
      have hlt' : (k : Int) < s.ws.length := by omega
      have hth := (At.new wr zw 78).there 0 129 (by rw [zw_len]; omega)
      have hone := all_oneCell_toArray (wcell_one x)
      have hwl := wcell_len x HO.out.2
      obtain ⟨a2, t2⟩ := fill_new wr zw 78 (wcell x) (by rw [zw_len, hwl])
      have A2 := Lib.hid a2
      have T2 := Lib.hid t2
      have HW := Lib.hid hwl
      have HTH := Lib.hid hth
      have HN := Lib.hid hone
      clear a2 t2 hwl hth hone
      have hsz : (wcell x).toArray.size = 129 := by rw [List.size_toArray]; exact HW.out
      have HZ := Lib.hid hsz
      clear hsz
      go_wp2_with (first | (with_reducible refine wpList_load_mid rfl 78 (.tmp 10) rfl g (k * 129) (by kernel_rfl) (wcell x) _ HR.out Try.underlying78 rfl (by rw [HW.out]; exact info_write) ?_) | (with_reducible refine alloc_agg rfl 78 rfl zw zero_write ?_) | (with_reducible refine wpList_store_mid rfl 78 (.tmp 2) (.tmp 11) rfl wr.heap.size 0 (wcell x).toArray (by kernel_rfl) (by kernel_rfl) (by rw [HZ.out]; exact HTH.out) (by rw [HZ.out]; exact info_write) HN.out ?_))
      simp only [Act.put, List.setIfInBounds_toArray, List.set_cons_zero, List.set_cons_succ]
      have hlr := HT.out.size
      generalize (wr.alloc (.cells zw 78)).setCells wr.heap.size 0 (wcell x) = w2 at *
      clear HTH HN
      have tw : Touch [F] w w2 := HT.out.step T2.out (by simp)
      have hF2 := HF.out.touch T2.out (by simp)
      have hA2 := (HA.out.touch tw (by simp; rintro rfl; exact hAf (by simp [foot]))).cell 0 _ rfl
      have hD2 := (H.out.d.touch tw (by simp [H.out.df])).cell 0 _ rfl
      have hx0 := A2.out.cell 0 (.int .i64 (x.1 : Int)) rfl
      have hx1 : w2.rangeAt wr.heap.size 1 (x.2.map bv) := by
        have := A2.out.range 1 128
        have e : seg (wcell x) 1 128 = x.2.map bv := by
          unfold seg wcell
          rw [List.drop_succ_cons, List.drop_zero, List.take_of_length_le (by rw [List.length_map, HO.out.2]; omega)]
        rwa [e] at this
      have hxn : (x.1 : Int) < n := by have := HO.out.1; omega
      have HX1 := Lib.hid hx1
      have HF2 := Lib.hid hF2
      have TW := Lib.hid tw
      clear hx1 hF2 tw
      have hlen : (x.2.map bv).length = 128 := by rw [List.length_map]; exact HO.out.2
      have HL := Lib.hid hlen
      clear hlen
      refine wp_region_still_tail 9 (by kernel_rfl) (by kernel_rfl) ?_
      simp only [List.take_succ_cons, List.take_zero, List.drop_succ_cons, List.drop_zero]
      iterate 7 still_step
      refine still_load rfl 74 (.tmp 18) rfl wr.heap.size 1 (by kernel_rfl) (x.2.map bv) _ HX1.out Try.underlying74 rfl (by rw [HL.out]; exact info_sector) ?_
      still_step
      refine wpStill_nil ?_
      change wpList _ _ _ _ _ w2.drew
      have hsz2 : (x.2.map bv).toArray.size = 128 := by rw [List.size_toArray]; exact HL.out
      have HZ2 := Lib.hid hsz2
      have hth := HF2.out.drew.there (x.1 * 128) 128 (by rw [vals_len _ (putAll_128 _ _ H.out.ok.f128 (fun y hy => (H.out.ok.ws y (List.mem_of_mem_take hy)).2)), putAll_len, H.out.ok.fl]; have := HO.out.1; omega)
      have HTH := Lib.hid hth
      have hone := all_oneCell_toArray (bv_one x.2)
      have HN := Lib.hid hone
      clear hsz2 hth hone
      go_wp2_with (with_reducible refine wpList_store_mid rfl 74 (.tmp 20) (.tmp 19) rfl F (x.1 * 128) (x.2.map bv).toArray (by kernel_rfl) (by kernel_rfl) (by rw [HZ2.out]; exact HTH.out) (by rw [HZ2.out]; exact info_sector) HN.out ?_)
      go_roundw
      case rel =>
        refine ⟨k + 1, by omega, by go_num, ?_, Touch.setCells _ (.inl (by simp)) _ _ _ TW.out.drew⟩
        have h := At.setCells (x.2.map bv) (x.1 * 128) _ _ HF2.out.drew (by rw [vals_len _ (putAll_128 _ _ H.out.ok.f128 (fun y hy => (H.out.ok.ws y (List.mem_of_mem_take hy)).2)), putAll_len, H.out.ok.fl, HL.out]; have := HO.out.1; omega)
        rw [Nat.mul_comm, vals_splice _ (putAll_128 _ _ H.out.ok.f128 (fun y hy => (H.out.ok.ws y (List.mem_of_mem_take hy)).2)) _ (by rw [putAll_len, H.out.ok.fl]; exact HO.out.1) _ HO.out.2, ← HS.out, Nat.mul_comm] at h
        exact h
      case measure => simp [intOf]; omega
    · obtain rfl : k = s.ws.length := by omega
      have hA2 := (HA.out.touch HT.out (by simp; rintro rfl; exact hAf (by simp [foot]))).cell 0 _ rfl
      have hDD := H.out.d.touch HT.out (by simp [H.out.df])
      have hD2 := hDD.cell 2 _ rfl
      have hf2 := hDD.frozen 2
      have HDD := Lib.hid hDD
      clear hDD
      go_wp2
      go_end0
      have hF := HF.out
      rw [List.take_of_length_le (Nat.le_refl _)] at hF
      have hT2 : Touch [D] wr (wr.setCell ⟨D, 2, none⟩ (.slice none 0 0)) := (Touch.refl _ _).setCell _ _ (.inl (by simp))
      refine ⟨rfl, ⟨HDD.out.setCell 2 _, hF.touch hT2 (by simp [H.out.df.symm]), (H.out.v.touch HT.out (by simp [H.out.ne.symm])).touch hT2 (by simp [H.out.dn.symm]), Own.nil _ _ _, H.out.ne, ?_⟩, (HT.out.mono (by simp)).step hT2 (by simp)⟩
      exact ⟨H.out.ok.n1, H.out.ok.n2, H.out.ok.nw, H.out.ok.n128, by simp, H.out.ok.f1, H.out.ok.f2⟩
def Dk.flush (s : Dk) : Dk := { s with fl := s.nw, ws := [] }
theorem Dk.tick_ws (s : Dk) : s.tick.ws = s.ws := by unfold Dk.tick; split <;> rfl
theorem Dk.tick_fl (s : Dk) : s.tick.fl = s.fl := by unfold Dk.tick; split <;> rfl
theorem Dk.tick_nw (s : Dk) : s.tick.nw = s.nw := by unfold Dk.nw; rw [s.tick_ws, s.tick_fl]
theorem flush_off (h : DiskAt w D F N ao cap n s) (ho : s.ops < 9223372036854775807) (hoff : s.tick.off = true) :
    Calls Try.prog 13 #[.pointer (some ⟨D, 0, none⟩)] w fun e w' => e = .returned (.int .i64 11) ∧ DiskAt w' D F N ao cap n s.tick ∧ Touch (foot D F N ao) w w' := by
  have H := Lib.hid h
  have HO := Lib.hid hoff
  clear h hoff
  go_enter Try.func13, Try.ntmps13
  go_wp2_with fail
  refine (operate_off (H.out.alloc _) ho HO.out _).mono ?_
  rintro e w1 ⟨rfl, h1, t1⟩
  have H1 := Lib.hid h1
  have T1 := Lib.hid (((Touch.refl (foot D F N ao) w).alloc (.cells #[.pointer (some ⟨D, 0, none⟩)] 23)).step t1 (by simp [foot]))
  clear h1 t1
  go_wp2
  go_ret
  exact ⟨rfl, H1.out, T1.out⟩
theorem flush_ok (h : DiskAt w D F N ao cap n s) (ho : s.ops < 9223372036854775807) (hoff : s.tick.off = false) (hws : s.ws.length ≤ 1000000) :
    Calls Try.prog 13 #[.pointer (some ⟨D, 0, none⟩)] w fun e w' => e = .returned (.int .i64 0) ∧ DiskAt w' D F N none 0 n s.tick.flush ∧ Touch (foot D F N ao) w w' := by
  have H := Lib.hid h
  have HO := Lib.hid hoff
  clear h hoff
  have hop := operate_run (H.out.alloc (.cells #[.pointer (some ⟨D, 0, none⟩)] 23)) ho HO.out 44 enter_flush #[.pointer (some ⟨w.heap.size, 0, none⟩)]
    (fun w5 => DiskAt w5 D F N none 0 n s.tick.flush ∧ Touch (foot D F N ao) w w5) (fun w4 h4 t4 => by
      have hlt := H.out.lt
      have hD := H.out.d.lt
      have hA := (At.new w #[.pointer (some ⟨D, 0, none⟩)] 23).touch t4 (by simp; omega)
      refine (flush1_any h4 _ _ hA (fun hi => by have := hlt _ hi; omega) (by rw [s.tick_ws]; exact hws)).mono ?_
      rintro e w5 ⟨rfl, h5, t5⟩
      exact ⟨rfl, h5, (((Touch.refl (foot D F N ao) w).alloc _).step t4 (by simp [foot])).step t5 (by simp [foot])⟩)
  have HP := Lib.hid hop
  clear hop
  go_enter Try.func13, Try.ntmps13
  go_wp2_with fail
  refine HP.out.mono ?_
  rintro e w1 ⟨rfl, h1, t1⟩
  have H1 := Lib.hid h1
  have T1 := Lib.hid t1
  clear h1 t1
  go_wp2
  go_ret
  exact ⟨rfl, H1.out, T1.out⟩
end
end Go.Proofs.Ytcgjkopdnhkdiaa
