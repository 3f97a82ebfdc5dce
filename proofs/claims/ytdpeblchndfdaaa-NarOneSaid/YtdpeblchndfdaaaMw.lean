/- NarOne's walk. -/
import Derived.Test.YtdpeblchndfdaaaMv
namespace Go.Proofs.Ytdpeblchndfdaaa
open Go.RowKit
set_option maxRecDepth 100000
theorem ctake (s : List UInt8) : s.take (min s.length 3000) = s.take 3000 := by rw [List.take_eq_take_iff]; omega
set_option maxHeartbeats 8000000 in
theorem one_any (s : List UInt8) (pos y : Nat) (hpos : pos < 65536) (hy : y < 256) (w : World) :
    Calls Try.prog 6 #[.string (bs s), .int .u16 (pos : Int), .int .u8 (y : Int)] w fun e w' => e = .returned (.bool true) ∧ Below w.heap.size w w' := by
  have e2 : (if (3000 : Int) < (s.length : Int) then (3000 : Int) else (s.length : Int)) = ((min s.length 3000 : Nat) : Int) := by split <;> omega
  obtain ⟨L, hL⟩ : ∃ L, L = s.take 3000 := ⟨_, rfl⟩
  have hLl : L.length ≤ 3000 := by rw [hL, List.length_take]; omega
  have t2 : s.take (min s.length 3000) = L := by rw [ctake, hL]
  have E2 := Lib.hid e2
  have T2 := Lib.hid t2
  clear e2 t2 hL
  go_enter Try.func6, Try.ntmps6
  go_wp2_with (first
    | (with_reducible refine list_val rfl (run_min_op (.tmp 21) (.const (.int .i64 3000)) rfl (s.length : Int) 3000 _ rfl rfl E2.out) ?_)
    | (with_reducible refine list_val rfl (run_hi_op (.tmp 19) (.tmp 22) rfl s (min s.length 3000) (by omega) rfl rfl) ?_; rw [T2.out]))
  cases hd : decL L with
  | none =>
    have HD := Lib.hid hd
    clear hd
    refine (decode_none HD.out w).mono ?_
    rintro e w2 ⟨b2, rfl⟩
    have BW2 := Lib.hid b2
    clear b2
    go_wp2_with (first
      | (with_reducible refine alloc_any rfl 24 rfl _ zero_nd ?_; intro u hu bu zu; have HU := Lib.hid hu; have BU := Lib.hid bu; clear hu bu)
      | (refine store_any rfl 24 (.tmp 7) (.tmp 27) rfl w2.heap.size rfl zeroN rfl _ HU.out rfl info_nd zero_one ?_; intro u3 hu3 tu3; have BU3 := Lib.hid (BW2.out.trans ((tu3.below BU.out (by simp) (Nat.le_refl _)).mono BW2.out.size)); have c1 := hu3.cell 1 (.int .i64 0) rfl; clear hu3 tu3))
    refine (works_any u3).mono ?_
    rintro e w4 ⟨rfl, bw⟩
    have KW := Lib.hid (BU3.out.trans (bw.mono BU3.out.size))
    clear bw
    go_wp2_with fail
    go_ret
    exact ⟨rfl, KW.out⟩
  | some n =>
    have HD := Lib.hid hd
    have hback := dec_back hd
    have hne : L ≠ [] := by
      intro e
      have h1 := congrArg List.length hback.2.1
      rw [e, List.length_append] at h1
      have h2 : headB.length = 11 := by decide +kernel
      simp at h1
      omega
    have hLp : 0 < L.length := List.length_pos_iff.mpr hne
    have hnb : (L == []) = false := by simpa using hne
    have hnd : (L != L) = false := by simp
    clear hback hne hd
    refine (decode_some HD.out w).mono ?_
    rintro e w2 ⟨b2, aoN, cN, rfl, hN⟩
    have BW2 := Lib.hid b2
    have HN2 := Lib.hid hN.any
    clear b2 hN
    go_wp2_with (first
      | (with_reducible refine alloc_any rfl 24 rfl _ zero_nd ?_; intro u hu bu zu; have HU := Lib.hid hu; have BU := Lib.hid bu; clear hu bu)
      | (refine store_any rfl 24 (.tmp 7) (.tmp 27) rfl w2.heap.size rfl (n.cells aoN cN) rfl _ HU.out rfl info_nd (nd_one _ _ _) ?_; intro u3 hu3 tu3; have HA3 := Lib.hid hu3; have b3 := Lib.hid (tu3.below BU.out (by simp) (Nat.le_refl _)); have BU3 := Lib.hid (BW2.out.trans (b3.out.mono BW2.out.size)); have HN3 := Lib.hid (HN2.out.below b3.out); clear hu3 tu3)
      | (refine load_any rfl 24 (.tmp 7) rfl ⟨w2.heap.size, 0, none⟩ rfl (n.cells aoN cN) _ (fun j v hj => by rw [Addr.add0]; exact HA3.out.cell j v hj) Try.underlying24 rfl info_nd ?_))
    refine (enc_dec_any HD.out aoN cN u3 HN3.out).mono ?_
    rintro e w4 ⟨rfl, b4⟩
    have HA4 := Lib.hid (HA3.out.below b4 HA3.out.lt)
    have HN4 := Lib.hid (HN3.out.below b4)
    have BU4 := Lib.hid (BU3.out.trans (b4.mono BU3.out.size))
    clear b4 HA3 HN3 BU3 BW2 HN2 HU BU b3
    obtain ⟨k, hk⟩ : ∃ k, k = pos % L.length := ⟨_, rfl⟩
    have hkl : k < L.length := by rw [hk]; exact Nat.mod_lt _ hLp
    have HK := Lib.hid hk
    clear hk
    have hpre : decL (L.take k) = none := dec_prefix (p := L.take k) (x := L.drop k) (n := n) (by rw [List.take_append_drop]; exact HD.out) (by intro e; have := congrArg List.length e; rw [List.length_drop] at this; simp at this; omega)
    have HPRE := Lib.hid hpre
    clear hpre
    go_wp2_with (first
      | (with_reducible refine list_val rfl (rem3_op (.tmp 51) (.tmp 53) rfl pos L.length hpos hLp (by omega) rfl rfl) ?_; rw [← HK.out])
      | (with_reducible refine list_val rfl (run_hi_op (.tmp 49) (.tmp 54) rfl L k (by omega) rfl rfl) ?_))
    refine (decode_none HPRE.out w4).mono ?_
    rintro e w5 ⟨b5, rfl⟩
    have HA5 := Lib.hid (HA4.out.below b5 HA4.out.lt)
    have HN5 := Lib.hid (HN4.out.below b5)
    have BU5 := Lib.hid (BU4.out.trans (b5.mono BU4.out.size))
    clear b5 HA4 HN4 BU4
    have hsuf : decL (L ++ [UInt8.ofNat y]) = none := by
      cases hq : decL (L ++ [UInt8.ofNat y]) with
      | none => rfl
      | some m =>
        have := dec_prefix hq (by simp)
        rw [HD.out] at this
        cases this
    have HSUF := Lib.hid hsuf
    have hcv := conv1 (y : Int) (by omega) (by omega)
    rw [show (y : Int).toNat = y by omega] at hcv
    clear hsuf
    go_wp2_with (first
      | (with_reducible refine alloc_any rfl 24 rfl _ zero_nd ?_; intro u hu bu zu; have HU := Lib.hid hu; have BU := Lib.hid bu; clear hu bu)
      | (refine store_any rfl 24 (.tmp 11) (.tmp 57) rfl w5.heap.size rfl zeroN rfl _ HU.out rfl info_nd zero_one ?_; intro u6 hu6 tu6; have b6 := Lib.hid (tu6.below BU.out (by simp) (Nat.le_refl _)); have BU6 := Lib.hid (BU5.out.trans (b6.out.mono BU5.out.size)); have HA6 := Lib.hid (HA5.out.below b6.out HA5.out.lt); have HN6 := Lib.hid (HN5.out.below b6.out); clear hu6 tu6))
    have b7 : Below u6.heap.size u6 (u6.alloc (.cells #[.int .u8 (y : Int)] 5)) := (Below.refl _ u6).alloc (Nat.le_refl _) _
    have HA7 := Lib.hid (HA6.out.below b7 HA6.out.lt)
    have HN7 := Lib.hid (HN6.out.below b7)
    have BU7 := Lib.hid (BU6.out.trans (b7.mono BU6.out.size))
    generalize u6.alloc (.cells #[.int .u8 (y : Int)] 5) = u7 at HA7 HN7 BU7 ⊢
    refine (decode_none HSUF.out u7).mono ?_
    rintro e w8 ⟨b8, rfl⟩
    have HA8 := Lib.hid (HA7.out.below b8 HA7.out.lt)
    have HN8 := Lib.hid (HN7.out.below b8)
    have BU8 := Lib.hid (BU7.out.trans (b8.mono BU7.out.size))
    clear b8 b7 HA7 HN7 BU7 HA6 HN6 BU6 HA5 HN5 BU5 b6 hcv HU BU
    go_wp2_with (first
      | (with_reducible refine alloc_any rfl 24 rfl _ zero_nd ?_; intro u hu bu zu; have HU := Lib.hid hu; have BU := Lib.hid bu; clear hu bu)
      | (refine store_any rfl 24 (.tmp 13) (.tmp 66) rfl w8.heap.size rfl zeroN rfl _ HU.out rfl info_nd zero_one ?_; intro u9 hu9 tu9; have b9 := Lib.hid (tu9.below BU.out (by simp) (Nat.le_refl _)); have BU9 := Lib.hid (BU8.out.trans (b9.out.mono BU8.out.size)); have HA9 := Lib.hid (HA8.out.below b9.out HA8.out.lt); have HN9 := Lib.hid (HN8.out.below b9.out); clear hu9 tu9)
      | (refine load_any_g rfl 24 (.tmp 7) rfl ⟨w2.heap.size, 0, none⟩ rfl (n.cells aoN cN) _ (fun j v hj => by rw [Addr.add0]; exact HA9.out.cell j v hj) Try.underlying24 rfl info_nd ?_))
    refine (chk_dec_any HD.out aoN cN u9 HN9.out).mono ?_
    rintro e w10 ⟨rfl, b10⟩
    have HA10 := Lib.hid (HA9.out.below b10 HA9.out.lt)
    have HN10 := Lib.hid (Has.mono (S' := fun i => i < w10.heap.size) (HN9.out.below b10) (fun i _ hi => hi))
    have BU10 := Lib.hid (BU9.out.trans (b10.mono BU9.out.size))
    clear b10 HA9 HN9 BU9 HA8 HN8 BU8 b9 HU BU
    obtain ⟨c, hc⟩ : ∃ c, L[k]? = some c := ⟨_, List.getElem?_eq_getElem hkl⟩
    obtain ⟨cap, w11, hrun, b11, hB11, z11⟩ := conv_row w10 L
    obtain ⟨x, hx, hxl, hxne⟩ : ∃ x : Nat, bits .xor .u8 (c.toNat : Int) (bits .or .u8 (y : Int) 1) = (x : Int) ∧ x < 256 ∧ x ≠ c.toNat := by
      obtain ⟨t1, t2, t3⟩ := turn_ne ⟨c.toNat, c.toNat_lt⟩ ⟨y, hy⟩
      exact ⟨(bits .xor .u8 (c.toNat : Int) (bits .or .u8 (y : Int) 1)).toNat, by simp only [] at t1; omega, by simp only [] at t1 t2; omega, by simp only [] at t1 t3; omega⟩
    obtain ⟨hcell, hfz⟩ := hB11 k c hc
    unfold bv at hcell
    have hat : w11.cell? ⟨w10.heap.size, k, none⟩ ≠ none := by rw [hcell]; simp
    have hback : (convert 37 9 (.slice (some ⟨w10.heap.size, 0, none⟩) L.length cap)).run Try.prog (w11.setCell ⟨w10.heap.size, k, none⟩ (.int .u8 (x : Int))) = .ok (.string (bs (L.set k (UInt8.ofNat x)))) (w11.setCell ⟨w10.heap.size, k, none⟩ (.int .u8 (x : Int))) := by
      have h := run_convert_bytes_back (P := Try.prog) (w11.setCell ⟨w10.heap.size, k, none⟩ (.int .u8 (x : Int))) 37 9 5 ⟨w10.heap.size, 0, none⟩ cap (L.set k (UInt8.ofNat x)) Try.underlying37 Try.underlying5 Try.underlying9 (fun j hj => by
        have e : (⟨w10.heap.size, 0, none⟩ : Addr).add j = ⟨w10.heap.size, j, none⟩ := by
          unfold Addr.add
          split
          · rename_i h0; simp [h0]
          · simp
        rw [e]
        by_cases hjk : j = k
        · subst hjk
          rw [World.cell?_setCell_same _ _ _ hcell]
          simp only [List.getElem_set_self]
          rw [Plain.toNat_of hxl]
        · rw [World.cell?_setCell_other]
          · rw [List.getElem_set_ne (fun e => hjk e.symm)]
            have hj2 : j < L.length := by simpa using hj
            exact (hB11 j L[j] (List.getElem?_eq_getElem hj2)).1
          · intro e
            simp only [Addr.mk.injEq, true_and, and_true] at e
            exact hjk (by first | exact e | exact e.symm))
      rw [List.length_set] at h
      exact h
    have b12 : Below w10.heap.size w10 (w11.setCell ⟨w10.heap.size, k, none⟩ (.int .u8 (x : Int))) := b11.setCell (p := ⟨w10.heap.size, k, none⟩) (Nat.le_refl _) _
    have B12 := Lib.hid b12
    have HA12 := Lib.hid (HA10.out.below b12 HA10.out.lt)
    have HN12 := Lib.hid (HN10.out.under b12)
    have BU12 := Lib.hid (BU10.out.trans (b12.mono BU10.out.size))
    have hsame : ∀ m, decL (L.set k (UInt8.ofNat x)) = some m → sameL 15 n m = false := by
      intro m hm
      cases hq : sameL 15 n m
      · rfl
      · have e := sameL_eq 15 n m hq
        subst e
        have e1 := (dec_back hm).2.1
        have e2 := (dec_back HD.out).2.1
        rw [← e2] at e1
        have e3 := congrArg (fun l => l[k]?) e1
        simp only [List.getElem?_set_self hkl] at e3
        rw [hc] at e3
        have e4 := congrArg UInt8.toNat (Option.some.inj e3)
        rw [Plain.toNat_of hxl] at e4
        exact absurd e4 hxne
    have HSAME := Lib.hid hsame
    have hki : (k : Int) < (L.length : Int) := by omega
    clear b11 b12 hB11 hc hat hxne hsame HA10 HN10 BU10
    go_wp2_with (first
      | (with_reducible refine list_val rfl (rem3_op (.tmp 91) (.tmp 93) rfl pos L.length hpos hLp (by omega) rfl rfl) ?_; rw [← HK.out]))
    generalize w11.setCell ⟨w10.heap.size, k, none⟩ (.int .u8 (x : Int)) = w12 at HA12 HN12 BU12 ⊢
    cases hq : decL (L.set k (UInt8.ofNat x)) with
    | none =>
      refine (decode_none hq w12).mono ?_
      rintro e w13 ⟨b13, rfl⟩
      have BU13 := Lib.hid (BU12.out.trans (b13.mono BU12.out.size))
      clear b13 hq hrun hback hcell hfz
      go_wp2_with (first
        | (with_reducible refine alloc_any rfl 24 rfl _ zero_nd ?_; intro u hu bu zu; have HU := Lib.hid hu; have BU := Lib.hid bu; clear hu bu)
        | (refine store_any rfl 24 (.tmp 17) (.tmp 109) rfl w13.heap.size rfl zeroN rfl _ HU.out rfl info_nd zero_one ?_; intro u14 hu14 tu14; have BU14 := Lib.hid (BU13.out.trans ((tu14.below BU.out (by simp) (Nat.le_refl _)).mono BU13.out.size)); clear hu14 tu14))
      refine (works_any u14).mono ?_
      rintro e w15 ⟨rfl, bw⟩
      have KW := Lib.hid (BU14.out.trans (bw.mono BU14.out.size))
      clear bw
      go_wp2_with fail
      go_ret
      exact ⟨rfl, KW.out⟩
    | some m =>
      have hsm := HSAME.out m hq
      have HSM := Lib.hid hsm
      refine (decode_some hq w12).mono ?_
      rintro e w13 ⟨b13, aoM, cM, rfl, hM⟩
      have HM13 := Lib.hid hM.any
      have HA13 := Lib.hid (HA12.out.below b13 HA12.out.lt)
      have HN13 := Lib.hid (HN12.out.below b13)
      have BU13 := Lib.hid (BU12.out.trans (b13.mono BU12.out.size))
      clear b13 hM hsm hq hrun hback hcell hfz HSAME HA12 HN12 BU12
      go_wp2_with (first
        | (with_reducible refine alloc_any rfl 24 rfl _ zero_nd ?_; intro u hu bu zu; have HU := Lib.hid hu; have BU := Lib.hid bu; clear hu bu)
        | (refine store_any rfl 24 (.tmp 17) (.tmp 109) rfl w13.heap.size rfl (m.cells aoM cM) rfl _ HU.out rfl info_nd (nd_one _ _ _) ?_; intro u14 hu14 tu14; have b14 := Lib.hid (tu14.below BU.out (by simp) (Nat.le_refl _)); have HX14 := Lib.hid hu14; have BU14 := Lib.hid (BU13.out.trans (b14.out.mono BU13.out.size)); have HA14 := Lib.hid (HA13.out.below b14.out HA13.out.lt); have HN14 := Lib.hid ((HN13.out.below b14.out).any); have HM14 := Lib.hid (HM13.out.below b14.out); clear hu14 tu14)
        | (refine load_any_g rfl 24 (.tmp 7) rfl ⟨w2.heap.size, 0, none⟩ rfl (n.cells aoN cN) _ (fun j v hj => by rw [Addr.add0]; exact HA14.out.cell j v hj) Try.underlying24 rfl info_nd ?_)
        | (refine load_any_g rfl 24 (.tmp 17) rfl ⟨w13.heap.size, 0, none⟩ rfl (m.cells aoM cM) _ (fun j v hj => by rw [Addr.add0]; exact HX14.out.cell j v hj) Try.underlying24 rfl info_nd ?_))
      refine (same_wrap 15 15 n m aoN aoM cN cM u14 (by decide) HN14.out HM14.out).mono ?_
      rintro e w15 ⟨rfl, b15⟩
      have BU15 := Lib.hid (BU14.out.trans (b15.mono BU14.out.size))
      clear b15
      rw [HSM.out]
      go_wp2_with fail
      refine (works_any w15).mono ?_
      rintro e w16 ⟨rfl, bw⟩
      have KW := Lib.hid (BU15.out.trans (bw.mono BU15.out.size))
      clear bw
      go_wp2_with fail
      go_ret
      exact ⟨rfl, KW.out⟩
end Go.Proofs.Ytdpeblchndfdaaa
