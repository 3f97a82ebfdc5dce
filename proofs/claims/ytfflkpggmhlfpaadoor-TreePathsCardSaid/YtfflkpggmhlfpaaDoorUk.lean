/- rises. -/
import Derived.Test.YtfflkpggmhlfpaaDoorUh
import Derived.Test.YtfflkpggmhlfpaaDoorTz
namespace Go.Proofs.YtfflkpggmhlfpaaDoor
open Go.RowKit
set_option maxRecDepth 100000
theorem rise_step {ts us : List (List UInt8)} {k : Nat} {t u : List UInt8} (h1 : ts[k]? = some t) (h2 : us[k]? = some u) : riseL (ts.drop k) (us.drop k) = if t = u then riseL (ts.drop (k + 1)) (us.drop (k + 1)) else Op.bytesLess t u := by
  obtain ⟨l1, e1⟩ := List.getElem?_eq_some_iff.mp h1
  obtain ⟨l2, e2⟩ := List.getElem?_eq_some_iff.mp h2
  rw [List.drop_eq_getElem_cons l1, List.drop_eq_getElem_cons l2, e1, e2]
  rfl
theorem rise_left {ts us : List (List UInt8)} (h : ts.length ≤ us.length) : riseL (ts.drop ts.length) (us.drop ts.length) = decide (ts.length < us.length) := by
  rw [List.drop_length]
  cases hd : us.drop ts.length with
  | nil =>
    have : (us.drop ts.length).length = 0 := by rw [hd]; rfl
    rw [List.length_drop] at this
    have : ¬ ts.length < us.length := by omega
    simp [riseL, this]
  | cons x r =>
    have : (us.drop ts.length).length = r.length + 1 := by rw [hd]; rfl
    rw [List.length_drop] at this
    have : ts.length < us.length := by omega
    simp [riseL, this]
theorem rise_right {ts us : List (List UInt8)} : riseL (ts.drop us.length) (us.drop us.length) = false := by
  rw [List.drop_length]
  cases ts.drop us.length <;> rfl
set_option maxHeartbeats 4000000 in
theorem rises_any (a b : Option Addr) (ts us : List (List UInt8)) (ca cb : Nat) (hn : ts.length ≤ 1000000) (hm : us.length ≤ 1000000) (w : World) (hA : Lst w a ts) (hB : Lst w b us) :
    Calls Tryd.prog 18 #[.slice a ts.length ca, .slice b us.length cb] w fun e w' => e = .returned (.bool (riseL ts us)) ∧ Below w.heap.size w w' := by
  have HA := Lib.hid hA
  have HB := Lib.hid hB
  obtain ⟨R, hR⟩ : ∃ R, R = riseL ts us := ⟨_, rfl⟩
  rw [← hR]
  obtain ⟨n, hn1⟩ : ∃ n, n = ts.length := ⟨_, rfl⟩
  obtain ⟨m, hm1⟩ : ∃ m, m = us.length := ⟨_, rfl⟩
  rw [← hn1] at hn ⊢
  rw [← hm1] at hm ⊢
  have HR := Lib.hid hR
  have HN := Lib.hid hn1
  have HM := Lib.hid hm1
  clear hA hB hR hn1 hm1
  go_enter Tryd.func18, Tryd.ntmps18
  go_wp2
  go_loopw [5] (fun i wx => ∃ k : Nat, k ≤ n ∧ k ≤ m ∧ i = .int .i64 k ∧ R = riseL (ts.drop k) (us.drop k) ∧ Below w.heap.size w wx) (fun i _ => n - (intOf i).toNat)
  case atStart => exact ⟨0, by omega, by omega, rfl, HR.out, Below.refl _ _⟩
  case round =>
    obtain ⟨k, hk, hk2, rfl, hT, hBe⟩ := hrel
    have HT := Lib.hid hT
    have HBe := Lib.hid hBe
    clear hT hBe
    by_cases hlt : k < n
    · have hlt' : (k : Int) < n := by omega
      by_cases hlm : k < m
      · have hlm' : (k : Int) < m := by omega
        obtain ⟨t, ht⟩ : ∃ t, ts[k]? = some t := ⟨_, List.getElem?_eq_getElem (by rw [← HN.out]; exact hlt)⟩
        obtain ⟨u, hu⟩ : ∃ u, us[k]? = some u := ⟨_, List.getElem?_eq_getElem (by rw [← HM.out]; exact hlm)⟩
        obtain ⟨x, rfl, hcx⟩ := (HA.out.below HBe.out) k t ht
        obtain ⟨y, rfl, hcy⟩ := (HB.out.below HBe.out) k u hu
        have HS := Lib.hid (HT.out.trans (rise_step ht hu))
        clear ht hu
        by_cases he : t = u
        · subst he
          go_wp2_with fail
          go_quiet (fail)
          go_wp2
          go_roundw
          case rel => exact ⟨k + 1, by omega, by omega, by go_num, by rw [HS.out]; simp, below_drewN' HBe.out _⟩
          case measure => simp [intOf]; omega
        · have hb : (t == u) = false := beq_eq_false_iff_ne.2 he
          go_wp2_with fail
          go_quiet (fail)
          go_wp2
          go_quiet (fail)
          go_wp2
          go_ret
          refine ⟨?_, below_drewN' (below_drewN' HBe.out _) _⟩
          rw [HS.out, if_neg he]; rfl
      · obtain rfl : k = m := by omega
        have hlm' : ¬ (k : Int) < k := by omega
        have hnm : ¬ (n : Int) < k := by omega
        have hR : R = false := by have := HT.out; rw [HM.out, rise_right] at this; exact this
        have HRR := Lib.hid hR
        clear hR
        go_wp2
        go_ret
        refine ⟨?_, HBe.out⟩
        rw [HRR.out]; simp [hnm]
    · obtain rfl : k = n := by omega
      have hlt' : ¬ (k : Int) < k := by omega
      have hR : R = decide (k < m) := by
        have := HT.out
        rw [HN.out, rise_left (by rw [← HN.out, ← HM.out]; exact hk2), ← HN.out, ← HM.out] at this
        exact this
      have HRR := Lib.hid hR
      clear hR
      go_wp2
      go_ret
      refine ⟨?_, HBe.out⟩
      rw [HRR.out]; rfl
end Go.Proofs.YtfflkpggmhlfpaaDoor
