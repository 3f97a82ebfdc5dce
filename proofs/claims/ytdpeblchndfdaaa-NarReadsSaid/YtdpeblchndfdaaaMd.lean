/- A node's bytes, written. -/
import Derived.Test.YtdpeblchndfdaaaMc
import Derived.Test.YtdpeblchndfdaaaTx
namespace Go.Proofs.Ytdpeblchndfdaaa
open Go.RowKit
set_option maxRecDepth 100000
/-- a node's bytes -/
def entryL (f : Nd → List UInt8) (k : Nd) : List UInt8 := txt k.name ++ f k
def encL : Nat → Nd → List UInt8
  | 0, _ => []
  | h + 1, n => Plain.row n.kind.toNat ++ (if n.kind = 1 then Plain.row (if n.exec then 1 else 0) ++ txt n.data else if n.kind = 3 then txt n.data else Plain.row n.kids.length ++ n.kids.flatMap (entryL (encL h)))
theorem Has.under {B : Nat} {w w' : World} {h : Nat} {n : Nd} {ao : Option Addr} (hH : Has (fun i => i < B) w h n ao) (hb : Below B w w') : Has (fun i => i < B) w' h n ao := Has.kept (fun _ h _ => h) (fun i hi _ => hb.block i hi) h n ao hH
/-- such nodes are written -/
def Writes (B h : Nat) : Prop := ∀ (n : Nd) (ao : Option Addr) (cap b : Nat) (l : List UInt8) (w : World), B ≤ w.heap.size → Has (fun i => i < B) w h n ao → mayL h n = true → l.length + (encL h n).length ≤ 1000000000 → WAt B w b l →
  Calls Try.prog 23 #[.pointer (some ⟨b, 0, none⟩), n.v ao cap] w fun e w' => e = .returned (.tuple #[]) ∧ WAt B w' b (l ++ encL h n) ∧ Below B w w' ∧ WB b w w'
theorem WAt.ne {B b : Nat} {w : World} {l : List UInt8} (h : WAt B w b l) : w.heap.size ≠ b := by have := h.lt; omega
set_option maxHeartbeats 1000000 in
theorem wfile_no (B : Nat) (nm : List UInt8) (kd : Int) (dt : List UInt8) (ks : List Nd) (ao : Option Addr) (cap b : Nat) (l : List UInt8) (w : World) (hB : B ≤ w.heap.size) (hl : l.length ≤ 1000000000) (hd : dt.length ≤ 1000000000) (h : WAt B w b l) :
    Calls Try.prog 43 #[.pointer (some ⟨b, 0, none⟩), Nd.v ⟨nm, kd, false, dt, ks⟩ ao cap] w fun e w' => e = .returned (.tuple #[]) ∧ WAt B w' b (l ++ (Plain.row 0 ++ txt dt)) ∧ Below B w w' ∧ WB b w w' := by
  have H := Lib.hid h
  have hne := Lib.hid h.ne
  clear h
  go_enter Try.func43, Try.ntmps43
  go_wp2_with (with_reducible refine box_any rfl 24 (.tmp 1) rfl [.string (bs nm), .int .i64 kd, .bool false, .string (bs dt), .slice ao ks.length cap] rfl ?_; intro u hu bu zu; have c2 := hu.cell 2 _ rfl; have HU := Lib.hid hu; have BU := Lib.hid bu; clear hu bu)
  refine (wnum_any B b l 0 u (H.out.below BU.out) (by decide) (by omega) (by omega)).mono ?_
  rintro e w2 ⟨rfl, h2, b2, wb2⟩
  have z2 := b2.size
  have h10 := Plain.row_length_le 0 (by decide)
  have HU2 := Lib.hid (HU.out.wb wb2 hne.out (by decide))
  have H2 := Lib.hid h2
  have HB2 := Lib.hid ((BU.out.mono hB).trans b2)
  have HW2 := Lib.hid ((WB.of_below (b := b) BU.out).trans wb2)
  clear h2 b2 wb2 c2 HU BU
  have c3 := HU2.out.cell 3 _ rfl
  go_wp2_with fail
  refine (wtext_any B b (l ++ Plain.row 0) dt w2 H2.out (by omega) (by rw [List.length_append]; omega) (by omega)).mono ?_
  rintro e w3 ⟨rfl, h3, b3, wb3⟩
  have H3 := Lib.hid h3
  have HB3 := Lib.hid (HB2.out.trans b3)
  have HW3 := Lib.hid (HW2.out.trans wb3)
  clear h3 b3 wb3 c3 HU2 H2 HB2 HW2
  go_wp2_with fail
  go_end0
  refine ⟨rfl, ?_, HB3.out, HW3.out⟩
  rw [← List.append_assoc]
  exact H3.out
set_option maxHeartbeats 1000000 in
theorem wfile_yes (B : Nat) (nm : List UInt8) (kd : Int) (dt : List UInt8) (ks : List Nd) (ao : Option Addr) (cap b : Nat) (l : List UInt8) (w : World) (hB : B ≤ w.heap.size) (hl : l.length ≤ 1000000000) (hd : dt.length ≤ 1000000000) (h : WAt B w b l) :
    Calls Try.prog 43 #[.pointer (some ⟨b, 0, none⟩), Nd.v ⟨nm, kd, true, dt, ks⟩ ao cap] w fun e w' => e = .returned (.tuple #[]) ∧ WAt B w' b (l ++ (Plain.row 1 ++ txt dt)) ∧ Below B w w' ∧ WB b w w' := by
  have H := Lib.hid h
  have hne := Lib.hid h.ne
  clear h
  go_enter Try.func43, Try.ntmps43
  go_wp2_with (with_reducible refine box_any rfl 24 (.tmp 1) rfl [.string (bs nm), .int .i64 kd, .bool true, .string (bs dt), .slice ao ks.length cap] rfl ?_; intro u hu bu zu; have c2 := hu.cell 2 _ rfl; have HU := Lib.hid hu; have BU := Lib.hid bu; clear hu bu)
  refine (wnum_any B b l 1 u (H.out.below BU.out) (by decide) (by omega) (by omega)).mono ?_
  rintro e w2 ⟨rfl, h2, b2, wb2⟩
  have z2 := b2.size
  have h10 := Plain.row_length_le 1 (by decide)
  have HU2 := Lib.hid (HU.out.wb wb2 hne.out (by decide))
  have H2 := Lib.hid h2
  have HB2 := Lib.hid ((BU.out.mono hB).trans b2)
  have HW2 := Lib.hid ((WB.of_below (b := b) BU.out).trans wb2)
  clear h2 b2 wb2 c2 HU BU
  have c3 := HU2.out.cell 3 _ rfl
  go_wp2_with fail
  refine (wtext_any B b (l ++ Plain.row 1) dt w2 H2.out (by omega) (by rw [List.length_append]; omega) (by omega)).mono ?_
  rintro e w3 ⟨rfl, h3, b3, wb3⟩
  have H3 := Lib.hid h3
  have HB3 := Lib.hid (HB2.out.trans b3)
  have HW3 := Lib.hid (HW2.out.trans wb3)
  clear h3 b3 wb3 c3 HU2 H2 HB2 HW2
  go_wp2_with fail
  go_end0
  refine ⟨rfl, ?_, HB3.out, HW3.out⟩
  rw [← List.append_assoc]
  exact H3.out
set_option maxHeartbeats 1000000 in
theorem wlink_any (B : Nat) (nm : List UInt8) (kd : Int) (ex : Bool) (dt : List UInt8) (ks : List Nd) (ao : Option Addr) (cap b : Nat) (l : List UInt8) (w : World) (hB : B ≤ w.heap.size) (hl : l.length ≤ 1000000000) (hd : dt.length ≤ 1000000000) (h : WAt B w b l) :
    Calls Try.prog 45 #[.pointer (some ⟨b, 0, none⟩), Nd.v ⟨nm, kd, ex, dt, ks⟩ ao cap] w fun e w' => e = .returned (.tuple #[]) ∧ WAt B w' b (l ++ txt dt) ∧ Below B w w' ∧ WB b w w' := by
  have H := Lib.hid h
  clear h
  go_enter Try.func45, Try.ntmps45
  go_wp2_with (with_reducible refine box_any rfl 24 (.tmp 1) rfl [.string (bs nm), .int .i64 kd, .bool ex, .string (bs dt), .slice ao ks.length cap] rfl ?_; intro u hu bu zu; have c3 := hu.cell 3 _ rfl; have HU := Lib.hid hu; have BU := Lib.hid bu; clear hu bu)
  refine (wtext_any B b l dt u (H.out.below BU.out) (by omega) (by omega) (by omega)).mono ?_
  rintro e w3 ⟨rfl, h3, b3, wb3⟩
  have H3 := Lib.hid h3
  have HB3 := Lib.hid ((BU.out.mono hB).trans b3)
  have HW3 := Lib.hid ((WB.of_below (b := b) BU.out).trans wb3)
  clear h3 b3 wb3 c3 HU BU
  go_wp2_with fail
  go_end0
  exact ⟨rfl, H3.out, HB3.out, HW3.out⟩
theorem flat_len_take {α : Type} (f : α → List UInt8) (l : List α) (k : Nat) (x : α) (hx : l[k]? = some x) : ((l.take k).flatMap f).length + (f x).length ≤ (l.flatMap f).length := by
  conv => rhs; rw [← List.take_append_drop (k + 1) l, List.flatMap_append, List.take_add_one, hx, Option.toList_some, List.flatMap_append]
  simp only [List.length_append, List.flatMap_cons, List.flatMap_nil, List.append_nil]
  omega
theorem txt_len (t : List UInt8) : t.length ≤ (txt t).length := by unfold txt; rw [List.length_append]; omega
theorem wrap_u64 (n : Nat) (hn : n < Plain.big) : IntKind.u64.wrap (n : Int) = (n : Int) := by
  have hb : Plain.big = 18446744073709551616 := rfl
  simp only [IntKind.wrap, IntKind.bits, IntKind.signed]
  simp
  omega
set_option maxHeartbeats 2000000 in
theorem wdir_any (B h : Nat) (IH : Writes B h) (nm : List UInt8) (kd : Int) (ex : Bool) (dt : List UInt8) (ks : List Nd) (ao : Option Addr) (cap b : Nat) (l : List UInt8) (w : World) (hB : B ≤ w.heap.size) (hH : Has (fun i => i < B) w (h + 1) ⟨nm, kd, ex, dt, ks⟩ ao) (hM : ∀ m ∈ ks, mayL h m = true)
    (hl : l.length + (Plain.row ks.length ++ ks.flatMap (entryL (encL h))).length ≤ 1000000000) (hA : WAt B w b l) :
    Calls Try.prog 44 #[.pointer (some ⟨b, 0, none⟩), Nd.v ⟨nm, kd, ex, dt, ks⟩ ao cap] w fun e w' => e = .returned (.tuple #[]) ∧ WAt B w' b (l ++ (Plain.row ks.length ++ ks.flatMap (entryL (encL h)))) ∧ Below B w w' ∧ WB b w w' := by
  have H := Lib.hid hA
  have hne := Lib.hid hA.ne
  have HI := Lib.hid IH
  have hkl := hH.1
  change ks.length ≤ maxLen at hkl
  have HH := Lib.hid hH
  have HMAY := Lib.hid hM
  unfold maxLen at hkl
  have hrl : ks.length < Plain.big := by unfold Plain.big; omega
  rw [List.length_append] at hl
  have HL := Lib.hid hl
  have hll : l.length + (Plain.row ks.length).length ≤ 1000000000 := by omega
  have hwr := Lib.hid (wrap_u64 ks.length hrl)
  clear hA IH hH hM hl
  go_enter Try.func44, Try.ntmps44
  go_wp2_with (with_reducible refine box_any rfl 24 (.tmp 1) rfl [.string (bs nm), .int .i64 kd, .bool ex, .string (bs dt), .slice ao ks.length cap] rfl ?_; intro u hu bu zu; have c4 := hu.cell 4 _ rfl; have HU := Lib.hid hu; have BU := Lib.hid bu; clear hu bu)
  (try rw [hwr.out])
  refine (wnum_any B b l ks.length u (H.out.below BU.out) hrl (by omega) (by omega)).mono ?_
  rintro e w2 ⟨rfl, h2, b2, wb2⟩
  have z2 := b2.size
  have HU2 := Lib.hid (HU.out.wb wb2 hne.out (by decide))
  have H2 := Lib.hid h2
  have HB2 := Lib.hid ((BU.out.mono hB).trans b2)
  have HW2 := Lib.hid ((WB.of_below (b := b) BU.out).trans wb2)
  clear h2 b2 wb2 c4 HU BU
  have c4 := HU2.out.cell 4 _ rfl
  have hz : B ≤ w2.heap.size := by omega
  go_wp2_with fail
  go_loopw [15] (fun i wx => ∃ k : Nat, k ≤ ks.length ∧ i = .int .i64 k ∧ WAt B wx b (l ++ (Plain.row ks.length ++ (ks.take k).flatMap (entryL (encL h)))) ∧ Below B w wx ∧ WB b w wx ∧ B ≤ wx.heap.size) (fun i _ => ks.length - (intOf i).toNat)
  case atStart => exact ⟨0, Nat.zero_le _, rfl, by simpa using H2.out, HB2.out, HW2.out, hz⟩
  clear H2 HB2 HW2 HU2 c4 hz z2 u zu
  case round =>
    obtain ⟨k, hk, rfl, hWA, hBe, hWb, hzx⟩ := hrel
    have HWA := Lib.hid hWA
    have HBE := Lib.hid hBe
    have HWB := Lib.hid hWb
    clear hWA hBe hWb
    by_cases hlt : k < ks.length
    · have hlt' : (k : Int) < ks.length := by omega
      obtain ⟨m, hm⟩ : ∃ m, ks[k]? = some m := ⟨_, List.getElem?_eq_getElem hlt⟩
      obtain ⟨x, g, c, rfl, hSx, hKd, hMm⟩ := (HH.out.under HBE.out).2 k m hm
      have hfl := flat_len_take (entryL (encL h)) ks k m hm
      have hel : (entryL (encL h) m).length = (txt m.name).length + (encL h m).length := by unfold entryL; rw [List.length_append]
      have htl := txt_len m.name
      have HKd := Lib.hid hKd
      have HMm := Lib.hid hMm
      have HMAYm := Lib.hid (HMAY.out m (List.mem_of_getElem? hm))
      have hhl := HL.out
      obtain ⟨pre, hpre⟩ : ∃ pre, pre = l ++ (Plain.row ks.length ++ (ks.take k).flatMap (entryL (encL h))) := ⟨_, rfl⟩
      have hpl : pre.length = l.length + ((Plain.row ks.length).length + ((ks.take k).flatMap (entryL (encL h))).length) := by rw [hpre, List.length_append, List.length_append]
      have hp1 : pre.length + (txt m.name).length + (encL h m).length ≤ 1000000000 := by omega
      have hnx : l ++ (Plain.row ks.length ++ (ks.take (k + 1)).flatMap (entryL (encL h))) = pre ++ txt m.name ++ encL h m := by
        rw [List.take_add_one, hm, Option.toList_some, List.flatMap_append, hpre]
        simp [entryL]
      have HNX := Lib.hid hnx
      have HWA1 : Hid (WAt B wr b pre) := by rw [hpre]; exact HWA
      clear hKd hMm hm hnx hpl hfl hel hhl hpre HWA
      go_wp2_with (first
        | (refine load_any rfl 24 (.tmp 17) rfl (x.add (k * 5)) rfl (m.cells g c) _ (fun j v hj => HKd.out j v hj) Try.underlying24 rfl info_nd ?_)
        | (with_reducible refine alloc_any rfl 24 rfl _ zero_nd ?_; intro u2 hu2 bu2 zu2; have HU2 := Lib.hid hu2; clear hu2)
        | (refine store_any rfl 24 (.tmp 5) (.tmp 18) rfl wr.heap.size rfl (m.cells g c) rfl _ HU2.out rfl info_nd (nd_one m g c) ?_; intro u3 hu3 tu3; have HU3 := Lib.hid hu3; have BU3 := Lib.hid (Touch.below bu2 tu3 (by simp) (Nat.le_refl _)); have c0 := hu3.cell 0 _ rfl; clear hu3 tu3 bu2 zu2))
      have hne2 : wr.heap.size ≠ b := HWA1.out.ne
      refine (wtext_any B b pre m.name u3 (HWA1.out.below BU3.out) (by omega) (by omega) (by have := BU3.out.size; omega)).mono ?_
      rintro e w5 ⟨rfl, h5, b5, wb5⟩
      have z5 := b5.size
      have z3 := BU3.out.size
      have HU5 := Lib.hid (HU3.out.wb wb5 hne2 (by decide))
      have H5 := Lib.hid h5
      have HB5 := Lib.hid ((BU3.out.mono hzx).trans b5)
      have HW5 := Lib.hid ((WB.of_below (b := b) BU3.out).trans wb5)
      clear h5 b5 wb5 c0 HU3 HU2 BU3 HWA1 HKd
      go_wp2_with (refine load_any rfl 24 (.tmp 5) rfl ⟨wr.heap.size, 0, none⟩ rfl (m.cells g c) _ (fun j v hj => by rw [Addr.add0]; exact HU5.out.cell j v hj) Try.underlying24 rfl info_nd ?_)
      refine (HI.out m g c b (pre ++ txt m.name) w5 (by omega) (HMm.out.under HB5.out) HMAYm.out (by rw [List.length_append]; omega) H5.out).mono ?_
      rintro e w6 ⟨rfl, h6, b6, wb6⟩
      have z6 := b6.size
      have H6 := Lib.hid h6
      have HB6 := Lib.hid (HBE.out.trans (HB5.out.trans b6))
      have HW6 := Lib.hid (HWB.out.trans (HW5.out.trans wb6))
      clear h6 b6 wb6 H5 HB5 HW5 HU5 HBE HWB HMm
      go_wp2_with fail
      go_roundw
      case rel => exact ⟨k + 1, by omega, by go_num, by rw [HNX.out]; exact H6.out, HB6.out, HW6.out, by omega⟩
      case measure => simp [intOf]; omega
    · obtain rfl : k = ks.length := by omega
      rw [List.take_length] at HWA
      go_wp2_with fail
      go_end0
      exact ⟨rfl, HWA.out, HBE.out, HWB.out⟩
end Go.Proofs.Ytdpeblchndfdaaa
