/- ends; indexOf. -/
import Derived.Test.YtfflkpggmhlfpaaDoorTf
namespace Go.Proofs.YtfflkpggmhlfpaaDoor
open Go.RowKit
set_option maxRecDepth 100000
set_option maxHeartbeats 4000000 in
theorem ends_any : ∀ (h : Nat) (n : Nd) (ao : Option Addr) (cap : Nat) (w : World) (l : Nat), h ≤ l → l ≤ 65536 → Has any_ w h n ao →
    Calls Tryd.prog 44 #[n.v ao cap, .int .i64 (l : Int)] w fun e w' => e = .returned (.bool true) ∧ Below w.heap.size w w' := by
  intro h
  induction h with
  | zero => intro n ao cap w l _ _ hH; exact hH.elim
  | succ h ih =>
    intro n ao cap w l hhl hl hH
    cases n with
    | mk nm kd ex dt ks =>
    have IH := Lib.hid ih
    have hkl := hH.1
    unfold maxLen at hkl
    change ks.length ≤ _ at hkl
    have HKS := Lib.hid hH.2
    have h0 : ((l : Int) == 0) = false := by simp; omega
    clear ih hH
    go_enter Tryd.func44, Tryd.ntmps44
    go_wp2_with (with_reducible refine box_any rfl 24 (.tmp 0) rfl [.string (bs nm), .int .i64 kd, .bool ex, .string (bs dt), .slice ao ks.length cap] rfl ?_; intro u hu bu zu; have c4 := hu.cell 4 _ rfl; have HU := Lib.hid hu; have BU := Lib.hid bu; clear hu bu zu)
    go_loopw [12] (fun i wx => ∃ k : Nat, k ≤ ks.length ∧ i = .int .i64 k ∧ Below w.heap.size w wx) (fun i _ => ks.length - (intOf i).toNat)
    case atStart => exact ⟨0, Nat.zero_le _, rfl, BU.out⟩
    clear HU BU c4
    case round =>
      obtain ⟨k, hk, rfl, hB⟩ := hrel
      have HB := Lib.hid hB
      have hwz := hB.size
      clear hB
      by_cases hlt : k < ks.length
      · have hlt' : (k : Int) < ks.length := by omega
        obtain ⟨m, hm⟩ : ∃ m, ks[k]? = some m := ⟨_, List.getElem?_eq_getElem hlt⟩
        obtain ⟨x, g, c, rfl, _, hK, hM⟩ := HKS.out k m hm
        have HK := Lib.hid (hK.kept (HB.out.block x.block hK.lt))
        have HM := Lib.hid (hM.below HB.out)
        clear hK hM hm
        go_wp2_with (first | (refine load_any rfl 24 (.tmp 14) rfl (x.add (k * 5)) rfl (m.cells g c) _ (fun j v hj => HK.out j v hj) Tryd.underlying24 rfl info_nd ?_) | (with_reducible refine alloc_any rfl 24 rfl _ zero_nd ?_; intro u2 hu2 bu2 zu2; have HU2 := Lib.hid hu2; clear hu2) | (refine store_any rfl 24 (.tmp 6) (.tmp 15) rfl wr.heap.size rfl (m.cells g c) rfl _ HU2.out rfl info_nd (nd_one m g c) ?_; intro u3 hu3 tu3; have HU3 := Lib.hid hu3; have BU3 := Lib.hid (Touch.below bu2 tu3 (by simp) (Nat.le_refl _)); clear hu3 tu3 bu2 zu2) | (refine load_any rfl 24 (.tmp 6) rfl ⟨wr.heap.size, 0, none⟩ rfl (m.cells g c) _ (fun j v hj => by rw [Addr.add0]; exact HU3.out.cell j v hj) Tryd.underlying24 rfl info_nd ?_))
        rw [show (l : Int) - 1 = ((l - 1 : Nat) : Int) by omega]
        refine (IH.out m g c u3 (l - 1) (by omega) (by omega) (HM.out.below BU3.out)).mono ?_
        rintro e w5 ⟨rfl, b5⟩
        have HB5 := Lib.hid ((HB.out.trans (BU3.out.mono hwz)).trans (b5.mono (by have := BU3.out.size; omega)))
        clear b5 HU3 HU2 BU3 HB HK HM
        go_wp2_with fail
        go_roundw
        case rel => exact ⟨k + 1, by omega, by go_num, HB5.out⟩
        case measure => simp [intOf]; omega
      · go_wp2_with fail
        go_ret
        exact ⟨rfl, HB.out⟩
/-- the first of them that has this name -/
def idxL (nm : List UInt8) (ks : List Nd) : Int := match ks.findIdx? (fun k => k.name == nm) with | some i => (i : Int) | none => -1
theorem idx_none (nm : List UInt8) (ks : List Nd) (h : ∀ m ∈ ks, (m.name == nm) = false) : idxL nm ks = -1 := by
  unfold idxL
  rw [List.findIdx?_eq_none_iff.mpr (fun x hx => h x hx)]
theorem idx_at (nm : List UInt8) (ks : List Nd) (k : Nat) (m : Nd) (hm : ks[k]? = some m) (h1 : (m.name == nm) = true) (h : ∀ m ∈ ks.take k, (m.name == nm) = false) : idxL nm ks = k := by
  have hl := (List.getElem?_eq_some_iff.1 hm).1
  have : ks.findIdx? (fun k => k.name == nm) = some k := by
    rw [List.findIdx?_eq_some_iff_getElem]
    refine ⟨hl, by rw [(List.getElem?_eq_some_iff.1 hm).2]; exact h1, fun j hj => ?_⟩
    have := h (ks[j]'(by omega)) (List.mem_take_iff_getElem.mpr ⟨j, by omega, rfl⟩)
    rw [this]; decide
  unfold idxL
  rw [this]
def indexL (n : Nd) (nm : List UInt8) : Int := if n.kind ≠ 2 ∨ nm = [] then -1 else idxL nm n.kids
set_option maxHeartbeats 2000000 in
theorem isName_any (m : Nd) (g : Option Addr) (c : Nat) (B : Nat) (nm : List UInt8) (w : World) (hB : At w B 9 [.string (bs nm)]) :
    Calls Tryd.prog 43 #[m.v g c, .pointer (some ⟨B, 0, none⟩)] w fun e w' => e = .returned (.bool (m.name == nm)) ∧ Below w.heap.size w w' := by
  cases m with
  | mk mn kd ex dt ks =>
  have HB := Lib.hid hB
  clear hB
  go_enter Tryd.func43, Tryd.ntmps43
  go_wp2_with (with_reducible refine box_any rfl 24 (.tmp 0) rfl [.string (bs mn), .int .i64 kd, .bool ex, .string (bs dt), .slice g ks.length c] rfl ?_; intro u hu bu zu; have c0 := hu.cell 0 _ rfl; have cB := (HB.out.below bu HB.out.lt).cell 0 _ rfl; have BU := Lib.hid bu; clear hu bu zu)
  go_ret
  exact ⟨rfl, BU.out⟩
def isNameV (B : Nat) : Value := .func (.func 43) #[] #[.pointer (some ⟨B, 0, none⟩)]
set_option maxHeartbeats 4000000 in
theorem indexFunc_any (h : Nat) (n : Nd) (ao : Option Addr) (cap : Nat) (B : Nat) (nm : List UInt8) (w : World) (hH : Has any_ w (h + 1) n ao) (hB : At w B 9 [.string (bs nm)]) :
    Calls Tryd.prog 42 #[.slice ao n.kids.length cap, isNameV B] w fun e w' => e = .returned (.int .i64 (idxL nm n.kids)) ∧ Below w.heap.size w w' := by
  cases n with
  | mk nn kd ex dt ks =>
  have hkl := hH.1
  unfold maxLen at hkl
  change ks.length ≤ _ at hkl
  have HKS := Lib.hid hH.2
  have HBB := Lib.hid hB
  have HI : Hid (idxL nm ks = idxL nm ks) := Lib.hid rfl
  show Calls _ _ _ _ fun e w' => e = .returned (.int .i64 (idxL nm ks)) ∧ _
  obtain ⟨R, hR⟩ : ∃ R, R = idxL nm ks := ⟨_, rfl⟩
  rw [← hR]
  have HR := Lib.hid hR
  unfold isNameV
  clear hH hB hR HI
  go_enter Tryd.func42, Tryd.ntmps42
  go_wp2_with fail
  go_loopw [8] (fun i wx => ∃ k : Nat, k ≤ ks.length ∧ i = .int .i64 k ∧ Below w.heap.size w wx ∧ ∀ m ∈ ks.take k, (m.name == nm) = false) (fun i _ => ks.length - (intOf i).toNat)
  case atStart => exact ⟨0, Nat.zero_le _, rfl, Below.refl _ _, by simp⟩
  case round =>
    obtain ⟨k, hk, rfl, hB, hno⟩ := hrel
    have HB := Lib.hid hB
    have HNO := Lib.hid hno
    have hwz := hB.size
    clear hB hno
    by_cases hlt : k < ks.length
    · have hlt' : (k : Int) < ks.length := by omega
      obtain ⟨m, hm⟩ : ∃ m, ks[k]? = some m := ⟨_, List.getElem?_eq_getElem hlt⟩
      obtain ⟨x, g, c, rfl, _, hK, hM⟩ := HKS.out k m hm
      have HK := Lib.hid (hK.kept (HB.out.block x.block hK.lt))
      have HMM := Lib.hid hm
      clear hK hM hm
      go_wp2_with (first | (refine load_any rfl 24 (.tmp 14) rfl (x.add (k * 5)) rfl (m.cells g c) _ (fun j v hj => HK.out j v hj) Tryd.underlying24 rfl info_nd ?_))
      refine (isName_any m g c B nm wr (HBB.out.below HB.out HBB.out.lt)).mono ?_
      rintro e w5 ⟨rfl, b5⟩
      have HB5 := Lib.hid (HB.out.trans (b5.mono hwz))
      clear b5
      cases hq : (m.name == nm)
      · go_wp2_with fail
        go_roundw
        case rel => exact ⟨k + 1, by omega, by go_num, HB5.out, fun m' hm' => by
          rw [List.take_add_one, HMM.out, Option.toList_some, List.mem_append, List.mem_singleton] at hm'
          rcases hm' with h | h
          · exact HNO.out m' h
          · rw [h]; exact hq⟩
        case measure => simp [intOf]; omega
      · go_wp2_with fail
        go_ret
        refine ⟨?_, HB5.out⟩
        rw [HR.out, idx_at nm ks k m HMM.out hq HNO.out]; rfl
    · obtain rfl : k = ks.length := by omega
      go_wp2_with fail
      go_ret
      refine ⟨?_, HB.out⟩
      rw [HR.out, idx_none nm ks (by simpa using HNO.out)]; rfl
end Go.Proofs.YtfflkpggmhlfpaaDoor
