/- NarKnown's walk. -/
import Derived.Test.YtdpeblchndfdaaaMx
namespace Go.Proofs.Ytdpeblchndfdaaa
open Go.RowKit
set_option maxRecDepth 100000
set_option maxHeartbeats 8000000 in
theorem known_any (w : World) :
    Calls Try.prog 7 #[] w fun e w' => e = .returned (.bool true) ∧ Below w.heap.size w w' := by
  go_enter Try.func7, Try.ntmps7
  go_wp2_with (first
    | (refine list_val (op := { dst := some 18, op := _, type := _, pos := _, after := _, guard := _ }) rfl (v := .agg (linkN.cells none 0).toArray) (w' := w) (by kernel_rfl) ?_)
    | (refine build_nd rfl (.tmp 18) rfl (linkN.cells none 0) rfl rfl ?_; intro u1 hu1 bu1 zu1; have HK1 := Lib.hid hu1; have BU1 := Lib.hid bu1; clear hu1 bu1)
    | (refine list_val (op := { dst := some 20, op := _, type := _, pos := _, after := _, guard := _ }) rfl (v := .agg (treeN.cells (some ⟨w.heap.size, 0, none⟩) 1).toArray) (w' := u1) (by kernel_rfl) ?_)
    | (with_reducible refine alloc_any rfl 24 rfl _ zero_nd ?_; intro u2 hu2 bu2 zu2; rw [zu1] at hu2 ⊢; have HU2 := Lib.hid hu2; have BU2 := Lib.hid bu2; clear hu2 bu2)
    | (refine store_any rfl 24 (.tmp 1) (.tmp 20) rfl (w.heap.size + 1) rfl (treeN.cells (some ⟨w.heap.size, 0, none⟩) 1) rfl _ HU2.out rfl info_nd (nd_one _ _ _) ?_; intro u3 hu3 tu3; have HT3 := Lib.hid hu3; have b3 := Lib.hid (tu3.below BU2.out (by simp; omega) (Nat.le_refl _)); have HK3 := Lib.hid (HK1.out.below b3.out HK1.out.lt); have BU3 := Lib.hid (BU1.out.trans (b3.out.mono (by omega))); clear hu3 tu3)
    | (refine load_any rfl 24 (.tmp 1) rfl ⟨w.heap.size + 1, 0, none⟩ rfl (treeN.cells (some ⟨w.heap.size, 0, none⟩) 1) _ (fun j v hj => by rw [Addr.add0]; exact HT3.out.cell j v hj) Try.underlying24 rfl info_nd ?_))
  have hH3 : Has any_ u3 15 treeN (some ⟨w.heap.size, 0, none⟩) := by
    refine ⟨by decide, fun i m hm => ?_⟩
    match i, hm with
    | 0, hm =>
      have e : linkN = m := Option.some.inj hm
      subst e
      refine ⟨_, none, 0, rfl, trivial, fun j v hj => ?_, Has.leaf _ _ _ _ _ rfl⟩
      rw [Nat.zero_mul, Addr.add0, Addr.add0]
      exact HK3.out.cell j v hj
    | i + 1, hm => cases hm
  have HH3 := Lib.hid hH3
  clear hH3 HK1 HU2 BU1 BU2 b3 HK3
  refine (enc_known treeN (by decide +kernel) treeB 0 (by decide +kernel) (by decide +kernel) (some ⟨w.heap.size, 0, none⟩) 1 u3 HH3.out).mono ?_
  rintro e w4 ⟨rfl, b4⟩
  have HT4 := Lib.hid (HT3.out.below b4 HT3.out.lt)
  have HH4 := Lib.hid (HH3.out.below b4)
  have BU4 := Lib.hid (BU3.out.trans (b4.mono BU3.out.size))
  clear b4 HT3 HH3 BU3
  go_wp2_with (refine list_val (op := { dst := some 27, op := _, type := _, pos := _, after := _, guard := _ }) rfl (v := .agg (execN.cells none 0).toArray) (w' := w4) (by kernel_rfl) ?_)
  refine (enc_known execN (by decide +kernel) execB 0 (by decide +kernel) (by decide +kernel) none 0 w4 (Has.leaf _ _ _ _ _ rfl)).mono ?_
  rintro e w5 ⟨rfl, b5⟩
  have HT5 := Lib.hid (HT4.out.below b5 HT4.out.lt)
  have HH5 := Lib.hid (HH4.out.below b5)
  have BU5 := Lib.hid (BU4.out.trans (b5.mono BU4.out.size))
  clear b5 HT4 HH4 BU4
  have hcT : bs magicB ++ (⟨#[2, 1, 1, 98, 3, 1, 99]⟩ : ByteArray) = bs treeB := bs_append magicB [2, 1, 1, 98, 3, 1, 99]
  have hcE : bs magicB ++ (⟨#[1, 1, 0]⟩ : ByteArray) = bs execB := bs_append magicB [1, 1, 0]
  go_wp2_with fail
  refine (magic_any w5).mono ?_
  rintro e w6 ⟨rfl, rfl⟩
  go_wp2_with fail
  refine (magic_any w6).mono ?_
  rintro e w7 ⟨rfl, rfl⟩
  have hc0 : bs magicB ++ (⟨#[2, 0, 0]⟩ : ByteArray) = bs (magicB ++ [2, 0, 0]) := bs_append magicB [2, 0, 0]
  have hc1 : bs magicB ++ (⟨#[1, 2, 0]⟩ : ByteArray) = bs (magicB ++ [1, 2, 0]) := bs_append magicB [1, 2, 0]
  have hc2 : bs magicB ++ (⟨#[1, 0]⟩ : ByteArray) = bs (magicB ++ [1, 0]) := bs_append magicB [1, 0]
  have hc3 : bs magicB ++ (⟨#[4]⟩ : ByteArray) = bs (magicB ++ [4]) := bs_append magicB [4]
  have hc4 : bs magicB ++ (⟨#[3, 0]⟩ : ByteArray) = bs (magicB ++ [3, 0]) := bs_append magicB [3, 0]
  have hc5 : bs magicB ++ (⟨#[2, 1, 0, 1, 0, 0]⟩ : ByteArray) = bs (magicB ++ [2, 1, 0, 1, 0, 0]) := bs_append magicB [2, 1, 0, 1, 0, 0]
  have hc6 : bs magicB ++ (⟨#[2, 2, 1, 98, 1, 0, 0, 1, 97, 1, 0, 0]⟩ : ByteArray) = bs (magicB ++ [2, 2, 1, 98, 1, 0, 0, 1, 97, 1, 0, 0]) := bs_append magicB [2, 2, 1, 98, 1, 0, 0, 1, 97, 1, 0, 0]
  have hc7 : bs magicB ++ (⟨#[2, 2, 1, 97, 1, 0, 0, 1, 97, 1, 0, 0]⟩ : ByteArray) = bs (magicB ++ [2, 2, 1, 97, 1, 0, 0, 1, 97, 1, 0, 0]) := bs_append magicB [2, 2, 1, 97, 1, 0, 0, 1, 97, 1, 0, 0]
  have hc8 : bs magicB ++ (⟨#[2, 1, 2, 46, 46, 1, 0, 0]⟩ : ByteArray) = bs (magicB ++ [2, 1, 2, 46, 46, 1, 0, 0]) := bs_append magicB [2, 1, 2, 46, 46, 1, 0, 0]
  have hc9 : bs magicB ++ (⟨#[1, 128, 0, 0]⟩ : ByteArray) = bs (magicB ++ [1, 128, 0, 0]) := bs_append magicB [1, 128, 0, 0]
  go_wp2_with fail
  refine (magic_any w7).mono ?_
  rintro e w8 ⟨rfl, rfl⟩
  go_wp2_with fail
  refine (magic_any w8).mono ?_
  rintro e w9 ⟨rfl, rfl⟩
  go_wp2_with fail
  refine (magic_any w9).mono ?_
  rintro e w10 ⟨rfl, rfl⟩
  go_wp2_with fail
  refine (magic_any w10).mono ?_
  rintro e w11 ⟨rfl, rfl⟩
  go_wp2_with fail
  refine (magic_any w11).mono ?_
  rintro e w12 ⟨rfl, rfl⟩
  go_wp2_with fail
  refine (magic_any w12).mono ?_
  rintro e w13 ⟨rfl, rfl⟩
  go_wp2_with fail
  refine (magic_any w13).mono ?_
  rintro e w14 ⟨rfl, rfl⟩
  go_wp2_with fail
  refine (magic_any w14).mono ?_
  rintro e w15 ⟨rfl, rfl⟩
  go_wp2_with fail
  refine (magic_any w15).mono ?_
  rintro e w16 ⟨rfl, rfl⟩
  go_wp2_with fail
  refine (magic_any w16).mono ?_
  rintro e w17 ⟨rfl, rfl⟩
  go_wp2_with fail
  refine (magic_any w17).mono ?_
  rintro e w18 ⟨rfl, rfl⟩
  have hrow : ∀ W : World, At (W.alloc (.cells badV.toArray 9)) W.heap.size 9 badV := fun W => by have h := At.new W badV.toArray 9; simpa using h
  go_wp2_with (first
    | (refine list_val (op := { dst := some 70, op := _, type := _, pos := _, after := _, guard := _ }) rfl (v := .slice (some ⟨w18.heap.size, 0, none⟩) 13 13) (w' := w18.alloc (.cells badV.toArray 9)) (by kernel_rfl) ?_))
  have HR := Lib.hid (hrow w18)
  have br : Below w18.heap.size w18 (w18.alloc (.cells badV.toArray 9)) := (Below.refl _ _).alloc (Nat.le_refl _) _
  have HT6 := Lib.hid (HT5.out.below br HT5.out.lt)
  have HH6 := Lib.hid (HH5.out.below br)
  have BU6 := Lib.hid (BU5.out.trans (br.mono BU5.out.size))
  have ltR : w18.heap.size < (w18.alloc (.cells badV.toArray 9)).heap.size := HR.out.lt
  clear br hrow hcT hcE hc0 hc1 hc2 hc3 hc4 hc5 hc6 hc7 hc8 hc9 HT5 HH5 BU5
  generalize w18.alloc (.cells badV.toArray 9) = v6 at HR HT6 HH6 BU6 ltR ⊢
  obtain ⟨R, hR⟩ : ∃ R, R = w18.heap.size := ⟨_, rfl⟩
  rw [← hR] at HR ltR ⊢
  clear hR
  go_loopw [72] (fun i wx => ∃ k : Nat, k ≤ 13 ∧ i = .int .i64 k ∧ At wx R 9 badV ∧ At wx (w.heap.size + 1) 24 (treeN.cells (some ⟨w.heap.size, 0, none⟩) 1) ∧ Has any_ wx 15 treeN (some ⟨w.heap.size, 0, none⟩) ∧ Below w.heap.size w wx) (fun i _ => 13 - (intOf i).toNat)
  case atStart => exact ⟨0, by omega, rfl, HR.out, HT6.out, HH6.out, BU6.out⟩
  clear HR HT6 HH6 BU6 ltR
  case round =>
    obtain ⟨k, hk, rfl, hA, hT, hH, hB⟩ := hrel
    have HA := Lib.hid hA
    have HT := Lib.hid hT
    have HH := Lib.hid hH
    have HB := Lib.hid hB
    clear hA hT hH hB
    by_cases hlt : k < 13
    · have hlt' : (k : Int) < 13 := by omega
      obtain ⟨x, hx⟩ : ∃ x, badR[k]? = some x := ⟨_, List.getElem?_eq_getElem (show k < badR.length from hlt)⟩
      have hcell : wr.cell? ⟨R, k, none⟩ = some (.string (bs x)) := HA.out.cell k _ (by unfold badV; rw [List.getElem?_map, hx]; rfl)
      have HX := Lib.hid (bad_get k x hx)
      clear hx
      go_wp2_with fail
      refine (decode_none HX.out wr).mono ?_
      rintro e w30 ⟨b30, rfl⟩
      have HA30 := Lib.hid (HA.out.below b30 HA.out.lt)
      have HT30 := Lib.hid (HT.out.below b30 HT.out.lt)
      have HH30 := Lib.hid (HH.out.below b30)
      have HB30 := Lib.hid (HB.out.trans (b30.mono HB.out.size))
      clear b30 HA HT HH HB hcell
      go_wp2_with (first
        | (with_reducible refine alloc_any rfl 24 rfl _ zero_nd ?_; intro u hu bu zu; have HU := Lib.hid hu; have BU := Lib.hid bu; clear hu bu)
        | (refine store_any rfl 24 (.tmp 8) (.tmp 80) rfl w30.heap.size rfl zeroN rfl _ HU.out rfl info_nd zero_one ?_; intro u31 hu31 tu31; have b31 := Lib.hid (tu31.below BU.out (by simp) (Nat.le_refl _)); have c1 := hu31.cell 1 (.int .i64 0) rfl; clear hu31 tu31))
      have hA31 := HA30.out.below b31.out HA30.out.lt
      have hT31 := HT30.out.below b31.out HT30.out.lt
      have hH31 := HH30.out.below b31.out
      have hB31 := HB30.out.trans (b31.out.mono HB30.out.size)
      go_roundw
      case rel => exact ⟨k + 1, by omega, by go_num, hA31, hT31, hH31, hB31⟩
      case measure => simp [intOf]; omega
    · obtain rfl : k = 13 := by omega
      clear HA
      go_wp2_with fail
      refine (decode_some tree_dec wr).mono ?_
      rintro e w32 ⟨b32, ao, cap, rfl, h32⟩
      have HM32 := Lib.hid h32.any
      have HT32 := Lib.hid (HT.out.below b32 HT.out.lt)
      have HH32 := Lib.hid (HH.out.below b32)
      have HB32 := Lib.hid (HB.out.trans (b32.mono HB.out.size))
      clear b32 h32 HT HH HB
      go_wp2_with (first
        | (with_reducible refine alloc_any rfl 24 rfl _ zero_nd ?_; intro u hu bu zu; have HU := Lib.hid hu; have BU := Lib.hid bu; clear hu bu)
        | (refine store_any rfl 24 (.tmp 10) (.tmp 95) rfl w32.heap.size rfl (treeN.cells ao cap) rfl _ HU.out rfl info_nd (nd_one _ _ _) ?_; intro u33 hu33 tu33; have b33 := Lib.hid (tu33.below BU.out (by simp) (Nat.le_refl _)); have HX33 := Lib.hid hu33; have HM33 := Lib.hid (HM32.out.below b33.out); have HT33 := Lib.hid (HT32.out.below b33.out HT32.out.lt); have HH33 := Lib.hid (HH32.out.below b33.out); have HB33 := Lib.hid (HB32.out.trans (b33.out.mono HB32.out.size)); clear hu33 tu33)
        | (refine list_val (op := { dst := some 98, op := _, type := _, pos := _, after := _, guard := _ }) rfl (v := .agg (noN.cells none 0).toArray) (w' := u33) (by kernel_rfl) ?_))
      refine (enc_known noN (by decide +kernel) [] 2 (by decide +kernel) (by decide +kernel) none 0 u33 (Has.leaf _ _ _ _ _ rfl)).mono ?_
      rintro e w34 ⟨rfl, b34⟩
      go_wp2_with (refine list_val (op := { dst := some 103, op := _, type := _, pos := _, after := _, guard := _ }) rfl (v := .agg (nameN.cells none 0).toArray) (w' := w34) (by kernel_rfl) ?_)
      refine (enc_known nameN (by decide +kernel) [] 2 (by decide +kernel) (by decide +kernel) none 0 w34 (Has.leaf _ _ _ _ _ rfl)).mono ?_
      rintro e w35 ⟨rfl, b35⟩
      have b345 := Lib.hid (b34.trans (b35.mono b34.size))
      clear b34 b35 HU BU HM32 HT32 HH32 HB32
      obtain ⟨bigD, hbl, hbc⟩ : ∃ l : List UInt8, l.length = 60000 ∧ ∀ j (hj : j < l.length), l[j] = 0 := ⟨List.replicate 60000 0, List.length_replicate, fun j hj => List.getElem_replicate ..⟩
      have HBL := Lib.hid hbl
      have HBC := Lib.hid hbc
      clear hbl hbc
      go_wp2_with (first
        | (refine make60 rfl rfl ?_; intro u36 hc36 b36 z36; have HC36 := Lib.hid hc36; have B36 := Lib.hid b36; clear hc36 b36)
        | (refine conv60 rfl (.tmp 108) rfl w35.heap.size rfl bigD HBL.out (fun j hj => by rw [HBC.out j hj]; exact HC36.out j (by rw [← HBL.out]; exact hj)) ?_)
        | (refine list_val (op := { dst := some 110, op := _, type := _, pos := _, after := _, guard := _ }) rfl (v := .agg (Nd.cells ⟨[], 1, false, bigD, []⟩ none 0).toArray) (w' := u36) (by kernel_rfl) ?_))
      have hek := encode_any 60000 10 (by decide) (by decide) (by decide) 15 ⟨[], 1, false, bigD, []⟩ none 0 u36 (by decide) (Has.leaf _ _ _ _ _ rfl) (fun _ _ => ⟨(leaf_few ⟨[], 1, false, bigD, []⟩ rfl 60000 (by show bigD.length ≤ 60000; rw [HBL.out]; exact Nat.le_refl _)).1, Nat.le_trans (leaf_few ⟨[], 1, false, bigD, []⟩ rfl 60000 (by show bigD.length ≤ 60000; rw [HBL.out]; exact Nat.le_refl _)).2 (by decide)⟩) enc_short
      rw [(file_long bigD HBL.out).1, (file_long bigD HBL.out).2] at hek
      refine hek.mono ?_
      rintro e w37 ⟨rfl, b37⟩
      have b3 := Lib.hid (b345.out.trans ((B36.out.trans (b37.mono B36.out.size)).mono b345.out.size))
      have HX37 := Lib.hid (HX33.out.below b3.out HX33.out.lt)
      have HT37 := Lib.hid (HT33.out.below b3.out HT33.out.lt)
      have HM37 := Lib.hid (HM33.out.below b3.out)
      have HH37 := Lib.hid (HH33.out.below b3.out)
      have HB37 := Lib.hid (HB33.out.trans (b3.out.mono HB33.out.size))
      clear b37 hek b345 HC36 B36 HX33 HT33 HM33 HH33 HB33 b3
      go_wp2_with (first
        | (refine load_any_g rfl 24 (.tmp 10) rfl ⟨w32.heap.size, 0, none⟩ rfl (treeN.cells ao cap) _ (fun j v hj => by rw [Addr.add0]; exact HX37.out.cell j v hj) Try.underlying24 rfl info_nd ?_)
        | (refine load_any_g rfl 24 (.tmp 1) rfl ⟨w.heap.size + 1, 0, none⟩ rfl (treeN.cells (some ⟨w.heap.size, 0, none⟩) 1) _ (fun j v hj => by rw [Addr.add0]; exact HT37.out.cell j v hj) Try.underlying24 rfl info_nd ?_))
      refine (same_wrap 15 15 treeN treeN ao (some ⟨w.heap.size, 0, none⟩) cap 1 w37 (by decide) HM37.out HH37.out).mono ?_
      rintro e w38 ⟨rfl, b38⟩
      have HB38 := Lib.hid (HB37.out.trans (b38.mono HB37.out.size))
      have hs : sameL 15 treeN treeN = true := by decide +kernel
      rw [hs]
      clear b38 hs
      go_wp2_with fail
      refine (works_any w38).mono ?_
      rintro e w39 ⟨rfl, bw⟩
      have KW := Lib.hid (HB38.out.trans (bw.mono HB38.out.size))
      clear bw
      go_wp2_with fail
      go_ret
      exact ⟨rfl, KW.out⟩
end Go.Proofs.Ytdpeblchndfdaaa
