/- shallow. -/
import Derived.Test.YtfflkpggmhlfpaaDoorUg
namespace Go.Proofs.YtfflkpggmhlfpaaDoor
open Go.RowKit
set_option maxRecDepth 100000
set_option maxHeartbeats 4000000 in
theorem shallow_any : ∀ (h : Nat) (n : Nd) (ao : Option Addr) (cap : Nat) (w : World), Has any_ w h n ao →
    Calls Tryd.prog 19 #[n.v ao cap] w fun e w' => e = .returned (.bool (shL h n)) ∧ Below w.heap.size w w' := by
  intro h
  induction h with
  | zero => intro n ao cap w hH; exact hH.elim
  | succ h ih =>
    intro n ao cap w hH
    cases n with
    | mk nm kd ex dt ks =>
    obtain ⟨R, hR⟩ : ∃ R, R = shL (h + 1) ⟨nm, kd, ex, dt, ks⟩ := ⟨_, rfl⟩
    rw [← hR]
    unfold shL at hR
    change R = (ks.all (shL h) && _) at hR
    have IH := Lib.hid ih
    have hkl := hH.1
    unfold maxLen at hkl
    change ks.length ≤ _ at hkl
    have HKS := Lib.hid hH.2
    have HH := Lib.hid hH
    have HR := Lib.hid hR
    clear ih hH hR
    go_enter Tryd.func19, Tryd.ntmps19
    go_wp2_with (with_reducible refine box_any rfl 24 (.tmp 0) rfl [.string (bs nm), .int .i64 kd, .bool ex, .string (bs dt), .slice ao ks.length cap] rfl ?_; intro u hu bu zu; have HU := Lib.hid hu; have BU := Lib.hid bu; clear hu bu)
    go_loopw [3] (fun i wx => ∃ k : Nat, k ≤ ks.length ∧ i = .int .i64 k ∧ At wx w.heap.size 24 [.string (bs nm), .int .i64 kd, .bool ex, .string (bs dt), .slice ao ks.length cap] ∧ Below w.heap.size w wx ∧ (ks.take k).all (shL h) = true) (fun i _ => ks.length - (intOf i).toNat)
    case atStart => exact ⟨0, Nat.zero_le _, rfl, HU.out, BU.out, by simp⟩
    clear HU BU
    case round =>
      obtain ⟨k, hk, rfl, hA, hB, hall⟩ := hrel
      have c4 := hA.cell 4 _ rfl
      have hwz := hB.size
      have HA := Lib.hid hA
      have HB := Lib.hid hB
      have HALL := Lib.hid hall
      clear hA hB hall
      by_cases hlt : k < ks.length
      · have hlt' : (k : Int) < ks.length := by omega
        obtain ⟨m, hm⟩ : ∃ m, ks[k]? = some m := ⟨_, List.getElem?_eq_getElem hlt⟩
        obtain ⟨x, g, c, rfl, _, hK, hM⟩ := HKS.out k m hm
        have HK := Lib.hid (hK.kept (HB.out.block x.block hK.lt))
        have HM := Lib.hid (hM.below HB.out)
        have hmem := List.mem_of_getElem? hm
        have hst : (ks.take (k + 1)).all (shL h) = shL h m := by rw [List.take_add_one, hm, Option.toList_some, List.all_append, HALL.out]; simp
        have HST := Lib.hid hst
        have HMEM := Lib.hid hmem
        clear hK hM hm hst hmem
        go_wp2_with (first | (refine load_any rfl 24 (.tmp 14) rfl (x.add (k * 5)) rfl (m.cells g c) _ (fun j v hj => HK.out j v hj) Tryd.underlying24 rfl info_nd ?_))
        refine (IH.out m g c wr HM.out).mono ?_
        rintro e w5 ⟨rfl, b5⟩
        have HA5 := Lib.hid (HA.out.below b5 HA.out.lt)
        have HB5 := Lib.hid (HB.out.trans (b5.mono hwz))
        clear b5 HA HB HK HM
        cases hq : shL h m
        · go_wp2_with fail
          go_ret
          refine ⟨?_, HB5.out⟩
          have : ks.all (shL h) = false := by rw [List.all_eq_false]; exact ⟨m, HMEM.out, by simp [hq]⟩
          rw [HR.out, this]; rfl
        · go_wp2_with fail
          go_roundw
          case rel => exact ⟨k + 1, by omega, by go_num, HA5.out, HB5.out, by rw [HST.out, hq]⟩
          case measure => simp [intOf]; omega
      · have hlt' : ¬ (k : Int) < ks.length := by omega
        obtain rfl : k = ks.length := by omega
        go_wp2_with (first | (refine load_any rfl 24 (.tmp 1) rfl ⟨w.heap.size, 0, none⟩ rfl [.string (bs nm), .int .i64 kd, .bool ex, .string (bs dt), .slice ao ks.length cap] _ (fun j v hj => by rw [Addr.add0]; exact HA.out.cell j v hj) Tryd.underlying24 rfl info_nd ?_))
        refine (deep_any (h + 1) ⟨nm, kd, ex, dt, ks⟩ ao cap wr (HH.out.below HB.out)).mono ?_
        rintro e w5 ⟨rfl, b5⟩
        have HB5 := Lib.hid (HB.out.trans (b5.mono hwz))
        have ht : ks.all (shL h) = true := by have := HALL.out; rwa [List.take_length] at this
        have hR2 : R = decide (depthL 14 ⟨nm, kd, ex, dt, ks⟩ ≤ 12) := by rw [HR.out, ht]; rfl
        generalize depthL 14 ⟨nm, kd, ex, dt, ks⟩ = D at *
        have hdec : decide ((D : Int) ≤ 12) = decide (D ≤ 12) := by by_cases h : D ≤ 12 <;> simp <;> omega
        have HR2 := Lib.hid (hR2.trans hdec.symm)
        clear b5 ht hR2 hdec
        go_wp2_with fail
        go_ret
        refine ⟨?_, HB5.out⟩
        rw [HR2.out]; rfl
end Go.Proofs.YtfflkpggmhlfpaaDoor
