/- A head's sector. -/
import Derived.Test.YtcgjkopdnhkdiaaJf
namespace Go.Proofs.Ytcgjkopdnhkdiaa
open Go.RowKit
set_option maxRecDepth 100000
def Hd.sec (h : Hd) : List UInt8 := h.text ++ (List.replicate 48 0 ++ (h.text ++ List.replicate 48 0))
theorem Hd.sec_len (h : Hd) : h.sec.length = 128 := by unfold Hd.sec; simp [h.text_len]
theorem zero128 : ∀ w, (zeroValue 73).run Try.prog w = .ok (.agg ((List.replicate 128 (0 : UInt8)).map bv).toArray) w := fun _ => by kernel_rfl
theorem enter_text16 : ∀ (args : Array Value) (w : World), (callFunc 87 args).run Try.prog w = .ok (.enter 87 args) w := enters_of Try.func87 (by kernel_rfl) rfl
theorem info_hd : (Try.prog.info? 85).map (·.size) = some 3 := by kernel_rfl
theorem put_first (l z : List UInt8) (hl : l.length = 16) : (List.replicate 128 (0 : UInt8)).take 0 ++ (l ++ (List.replicate 128 0).drop (0 + l.length)) = l ++ List.replicate 112 0 := by
  rw [hl]; simp
theorem put_second (l : List UInt8) (hl : l.length = 16) : (l ++ List.replicate 112 (0 : UInt8)).take 64 ++ (l ++ (l ++ List.replicate 112 0).drop (64 + l.length)) = l ++ (List.replicate 48 0 ++ (l ++ List.replicate 48 0)) := by
  have e : List.replicate 112 (0 : UInt8) = List.replicate 48 0 ++ (List.replicate 16 0 ++ List.replicate 48 0) := by rw [List.replicate_append_replicate, List.replicate_append_replicate]
  have h1 : (l ++ List.replicate 112 (0 : UInt8)).take 64 = l ++ List.replicate 48 0 := by
    rw [e, ← List.append_assoc]
    exact List.take_left' (by simp [hl])
  have h2 : (l ++ List.replicate 112 (0 : UInt8)).drop (64 + l.length) = List.replicate 48 0 := by
    rw [e, ← List.append_assoc, ← List.append_assoc]
    exact List.drop_left' (by simp [hl])
  rw [h1, h2, List.append_assoc]
set_option maxHeartbeats 4000000 in
theorem sector_any (h : Hd) (hh : h.Ok) (w : World) :
    Calls Try.prog 70 #[h.v] w fun e w' => e = .returned (.string (bs h.sec)) ∧ Below w.heap.size w w' := by
  obtain ⟨z, hz⟩ : ∃ z : List UInt8, z = List.replicate 128 0 := ⟨_, rfl⟩
  have hzz : ∀ w, (zeroValue 73).run Try.prog w = .ok (.agg (z.map bv).toArray) w := by rw [hz]; exact zero128
  obtain ⟨z6, hz6⟩ : ∃ z : List UInt8, z = List.replicate 16 0 := ⟨_, rfl⟩
  have hz6l : (z6.map bv).length = 16 := by rw [hz6]; simp
  have hzz6 : ∀ w, (zeroValue 124).run Try.prog w = .ok (.agg (z6.map bv).toArray) w := by rw [hz6]; exact zero16
  obtain ⟨u, hu⟩ : ∃ u, u = (w.alloc (.cells h.cells.toArray 85)).alloc (.cells (z.map bv).toArray 73) := ⟨_, rfl⟩
  have a0 : At u w.heap.size 85 h.cells := by rw [hu]; exact (At.new w h.cells.toArray 85).alloc _
  have a1 : At u (w.heap.size + 1) 73 (z.map bv) := by
    rw [hu]
    have := At.new (w.alloc (.cells h.cells.toArray 85)) (z.map bv).toArray 73
    rwa [World.size_alloc] at this
  have hB : Below w.heap.size w u := by rw [hu]; exact ((Below.refl _ w).alloc (Nat.le_refl _) _).alloc (by simp) _
  have hus : u.heap.size = w.heap.size + 2 := by rw [hu, World.size_alloc, World.size_alloc]
  have hrg := a0.range0
  have HRG := Lib.hid hrg
  have HU := Lib.hid hu
  have HZ := Lib.hid hz
  have A1 := Lib.hid a1
  have HB := Lib.hid hB
  have HH := Lib.hid hh
  have HZ6 := Lib.hid hz6l
  clear hu a0 a1 hB hh hz hz6 hrg hz6l
  unfold Hd.v
  unfold Hd.cells at *
  go_enter Try.func70, Try.ntmps70
  go_wp2_with (first | (with_reducible refine alloc_agg rfl 73 rfl (z.map bv).toArray hzz ?_) | (with_reducible refine hold_at 5 rfl ?_))
  unfold held
  rw [← HU.out]
  generalize hb0 : w.heap.size = b0 at *
  have hlt0 : b0 + 1 < u.heap.size := by omega
  clear HU
  go_wp2_with (with_reducible refine wpList_load_mid rfl 85 (.tmp 1) rfl b0 0 (by kernel_rfl) [.int .u64 (h.num : Int), .int .i64 (h.half : Int), .int .i64 (h.size : Int)] _ HRG.out Try.underlying85 rfl (by kernel_rfl) ?_)
  refine (text16_any h HH.out u).mono ?_
  rintro e v ⟨rfl, bv1⟩
  have hlt1 := bv1.size
  have x1 := A1.out.below bv1 A1.out.lt
  have hB1 := HB.out.trans (bv1.mono (by omega))
  obtain ⟨a2, t2⟩ := fill_new v (z6.map bv).toArray 124 (h.text.map bv) (by rw [List.toList_toArray, HZ6.out, List.length_map, h.text_len])
  have hth := (At.new v (z6.map bv).toArray 124).there 0 16 (by rw [List.toList_toArray, HZ6.out]; omega)
  have hone := all_oneCell_toArray (bv_one h.text)
  have hs2 : (h.text.map bv).toArray.size = 16 := by rw [List.size_toArray, List.length_map, h.text_len]
  have x2 := x1.touch t2 (by simp)
  have hB2 := Touch.below hB1 t2 (by simp) (by omega)
  have X2 := Lib.hid x2
  have B2 := Lib.hid hB2
  have A2 := Lib.hid a2
  have T2 := Lib.hid t2
  have HTH := Lib.hid hth
  have HN := Lib.hid hone
  have HS2 := Lib.hid hs2
  clear a2 t2 hth hone hs2 x1 x2 hB1 hB2 A1 HB HRG bv1
  go_wp2_with (first | (with_reducible refine alloc_agg rfl 124 rfl (z6.map bv).toArray hzz6 ?_) | (with_reducible refine wpList_store_mid rfl 124 (.tmp 4) (.tmp 6) rfl v.heap.size 0 (h.text.map bv).toArray (by kernel_rfl) (by kernel_rfl) (by rw [HS2.out]; exact HTH.out) (by rw [HS2.out]; exact info16) HN.out ?_))
  have hvlt : v.heap.size < ((v.alloc (.cells (z6.map bv).toArray 124)).setCells v.heap.size 0 (h.text.map bv)).heap.size := A2.out.lt
  generalize hvb : v.heap.size = vb at *
  generalize (v.alloc (.cells (z6.map bv).toArray 124)).setCells vb 0 (h.text.map bv) = v2 at *
  clear HTH HN T2
  have hzl : z.length = 128 := by rw [HZ.out]; simp
  have L0 := Lib.hid hzl
  clear hzl
  refine region_any (fun _ => True) 2 (by kernel_rfl) ?_
  refine wpAnyT_take (i := 0) (v := (.slice (some ⟨b0 + 1, 0, none⟩) 128 128)) rfl rfl (by kernel_rfl) (by kernel_rfl) (by kernel_rfl) (by kernel_rfl) (fun _ _ _ h => h) (.inl ⟨by kernel_rfl, fun _ _ => by kernel_rfl⟩) trivial ?_
  refine wpAnyT_take (i := 1) (v := (.slice (some ⟨vb, 0, none⟩) 16 16)) rfl rfl (by kernel_rfl) (by kernel_rfl) (by kernel_rfl) (by kernel_rfl) (fun _ _ _ h => h) (.inl ⟨by kernel_rfl, fun _ _ => by kernel_rfl⟩) trivial ?_
  refine wpAnyT_all (rs := [2]) (by kernel_rfl) (by simp) ?_
  intro q hq
  obtain rfl : q = 2 := by simpa using hq
  have hcp := copy_row (B := b0 + 1) (G := vb) 0 128 128 16 16 X2.out.drew A2.out.drew (by rw [h.text_len]; decide) (by rw [h.text_len, L0.out]; decide)
  refine wpOp_val rfl (by kernel_rfl) (run_copy_op (.tmp 7) (.tmp 8) 28 28 rfl _ _ (by kernel_rfl) (by kernel_rfl) hcp) ⟨fun h => absurd rfl h, wpAnyT_done (by kernel_rfl) ?_ _⟩
  simp only [Act.put, List.getElem_toArray, List.getElem_cons_succ, List.getElem_cons_zero, List.setIfInBounds_toArray, List.set_cons_zero, List.set_cons_succ]
  obtain ⟨c1, hc1⟩ : ∃ l : List UInt8, l = z.take 0 ++ (h.text ++ z.drop (0 + h.text.length)) := ⟨_, rfl⟩
  rw [← hc1] at hcp ⊢
  have r1 := X2.out.drew.setRow (c1.map bv).toArray
  have r2 := A2.out.drew.setRow_ne (B' := b0 + 1) (c1.map bv).toArray (by omega)
  have rB := below_setRow' B2.out.drew (b0 + 1) (by omega) (c1.map bv).toArray
  have rl : c1.length = 128 := by rw [hc1]; simp [h.text_len, L0.out]
  rw [List.toList_toArray] at r1
  generalize v2.drew.setRow (b0 + 1) (c1.map bv).toArray = u1 at *
  have X3 := Lib.hid r1
  have A3 := Lib.hid r2
  have B3 := Lib.hid rB
  have L1 := Lib.hid rl
  have HC1 := Lib.hid hc1
  clear r1 r2 rB rl hcp hc1 X2 A2 B2
  go_wp2_with fail
  refine region_any (fun _ => True) 2 (by kernel_rfl) ?_
  refine wpAnyT_take (i := 0) (v := (.slice (some ⟨b0 + 1, 64, none⟩) 64 64)) rfl rfl (by kernel_rfl) (by kernel_rfl) (by kernel_rfl) (by kernel_rfl) (fun _ _ _ h => h) (.inl ⟨by kernel_rfl, fun _ _ => by kernel_rfl⟩) trivial ?_
  refine wpAnyT_take (i := 1) (v := (.slice (some ⟨vb, 0, none⟩) 16 16)) rfl rfl (by kernel_rfl) (by kernel_rfl) (by kernel_rfl) (by kernel_rfl) (fun _ _ _ h => h) (.inl ⟨by kernel_rfl, fun _ _ => by kernel_rfl⟩) trivial ?_
  refine wpAnyT_all (rs := [2]) (by kernel_rfl) (by simp) ?_
  intro q hq
  obtain rfl : q = 2 := by simpa using hq
  have hcp := copy_row (B := b0 + 1) (G := vb) 64 64 64 16 16 X3.out.drew A3.out.drew (by rw [h.text_len]; decide) (by rw [h.text_len, L1.out]; decide)
  refine wpOp_val rfl (by kernel_rfl) (run_copy_op (.tmp 10) (.tmp 11) 28 28 rfl _ _ (by kernel_rfl) (by kernel_rfl) hcp) ⟨fun h => absurd rfl h, wpAnyT_done (by kernel_rfl) ?_ _⟩
  simp only [Act.put, List.getElem_toArray, List.getElem_cons_succ, List.getElem_cons_zero, List.setIfInBounds_toArray, List.set_cons_zero, List.set_cons_succ]
  obtain ⟨c2, hc2⟩ : ∃ l : List UInt8, l = c1.take 64 ++ (h.text ++ c1.drop (64 + h.text.length)) := ⟨_, rfl⟩
  rw [← hc2] at hcp ⊢
  have r1 := X3.out.drew.setRow (c2.map bv).toArray
  have r2 := A3.out.drew.setRow_ne (B' := b0 + 1) (c2.map bv).toArray (by omega)
  have rB := below_setRow' B3.out.drew (b0 + 1) (by omega) (c2.map bv).toArray
  have rl : c2.length = 128 := by rw [hc2]; simp [h.text_len, L1.out]
  rw [List.toList_toArray] at r1
  generalize u1.drew.setRow (b0 + 1) (c2.map bv).toArray = u2 at *
  have X4 := Lib.hid r1
  have A4 := Lib.hid r2
  have B4 := Lib.hid rB
  have L2 := Lib.hid rl
  have HC2 := Lib.hid hc2
  clear r1 r2 rB rl hcp hc2 X3 A3 B3
  have hfin : c2 = h.sec := by
    rw [HC2.out, HC1.out, HZ.out, put_first _ z h.text_len, put_second _ h.text_len]; rfl
  subst hfin
  have hcv : (convert 28 9 (.slice (some ⟨b0 + 1, 0, none⟩) 128 128)).run Try.prog u2 = .ok (.string (bs h.sec)) u2 := by
    have := run_convert_bytes_back (P := Try.prog) u2 28 9 5 ⟨b0 + 1, 0, none⟩ 128 h.sec Try.underlying28 Try.underlying5 Try.underlying9 fun j hj => by
      rw [Addr.add0]
      refine X4.out.cell j _ ?_
      rw [List.getElem?_map, List.getElem?_eq_getElem hj]; rfl
    rw [h.sec_len] at this
    exact this
  clear X4 A4 HC1 HC2
  go_wp2
  go_ret
  exact ⟨rfl, by rw [hb0]; exact B4.out⟩
end Go.Proofs.Ytcgjkopdnhkdiaa
