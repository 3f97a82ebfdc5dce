/- Are two rows of texts alike? The document's Texts; the chapter's rows. -/
import Derived.Test.YtfflkpggmhlfpaaDoorTy
namespace Go.Proofs.YtfflkpggmhlfpaaDoor
open Go.RowKit
set_option maxRecDepth 100000
theorem take_eq_step {ts us : List (List UInt8)} {k : Nat} {t : List UInt8} (h : ts.take k = us.take k) (h1 : ts[k]? = some t) (h2 : us[k]? = some t) : ts.take (k + 1) = us.take (k + 1) := by
  rw [List.take_add_one, List.take_add_one, h, h1, h2]
theorem ne_of_at {ts us : List (List UInt8)} {k : Nat} {t u : List UInt8} (h1 : ts[k]? = some t) (h2 : us[k]? = some u) (h : t ≠ u) : ts ≠ us := by
  rintro rfl
  rw [h1] at h2
  exact h (Option.some.inj h2)
def Lst (w : World) (a : Option Addr) (ts : List (List UInt8)) : Prop := ∀ j t, ts[j]? = some t → ∃ x, a = some x ∧ w.cell? (x.add j) = some (.string (bs t))
theorem cell_old {w0 w : World} (hb : Below w0.heap.size w0 w) {p : Addr} {v : Value} (h : w0.cell? p = some v) : w.cell? p = some v := by
  rw [← h]; exact hb.cell (World.block_lt_of_cell? w0 p h)
theorem Lst.below {w w' : World} {a : Option Addr} {ts : List (List UInt8)} (h : Lst w a ts) (hb : Below w.heap.size w w') : Lst w' a ts := fun j t hj => by
  obtain ⟨x, e, hc⟩ := h j t hj
  exact ⟨x, e, cell_old hb hc⟩
set_option maxHeartbeats 4000000 in
theorem texts_any (a b : Option Addr) (ts us : List (List UInt8)) (ca cb : Nat) (hn : ts.length ≤ 1000000) (w : World) (hA : Lst w a ts) (hB : Lst w b us) :
    Calls Tryd.prog 24 #[.slice a ts.length ca, .slice b us.length cb] w fun e w' => e = .returned (.bool (decide (ts = us))) ∧ Below w.heap.size w w' := by
  have HA := Lib.hid hA
  have HB := Lib.hid hB
  obtain ⟨R, hR⟩ : ∃ R, R = decide (ts = us) := ⟨_, rfl⟩
  rw [← hR]
  have HR := Lib.hid hR
  clear hA hB hR
  go_enter Tryd.func24, Tryd.ntmps24
  by_cases hlen : ts.length = us.length
  · obtain ⟨n, hn1⟩ : ∃ n, n = ts.length := ⟨_, rfl⟩
    have hn2 : us.length = n := by omega
    rw [hn2, ← hn1]
    have HN1 := Lib.hid hn1
    have HN2 := Lib.hid hn2
    rw [← hn1] at hn
    clear hlen hn1 hn2
    go_wp2
    go_loopw [5] (fun i wx => ∃ k : Nat, k ≤ n ∧ i = .int .i64 k ∧ ts.take k = us.take k ∧ Below w.heap.size w wx) (fun i _ => n - (intOf i).toNat)
    case atStart => exact ⟨0, by omega, rfl, rfl, Below.refl _ _⟩
    case round =>
      obtain ⟨k, hk, rfl, hT, hBe⟩ := hrel
      have HT := Lib.hid hT
      have HBe := Lib.hid hBe
      clear hT hBe
      by_cases hlt : k < n
      · have hlt' : (k : Int) < n := by omega
        obtain ⟨t, ht⟩ : ∃ t, ts[k]? = some t := ⟨_, List.getElem?_eq_getElem (by rw [← HN1.out]; exact hlt)⟩
        obtain ⟨u, hu⟩ : ∃ u, us[k]? = some u := ⟨_, List.getElem?_eq_getElem (by rw [HN2.out]; exact hlt)⟩
        obtain ⟨x, rfl, hcx⟩ := (HA.out.below HBe.out) k t ht
        obtain ⟨y, rfl, hcy⟩ := (HB.out.below HBe.out) k u hu
        have HTK := Lib.hid ht
        have HUK := Lib.hid hu
        clear ht hu
        by_cases he : t = u
        · subst he
          go_wp2_with fail
          go_quiet (fail)
          go_wp2
          go_roundw
          case rel => exact ⟨k + 1, by omega, by go_num, take_eq_step HT.out HTK.out HUK.out, below_drewN' HBe.out _⟩
          case measure => simp [intOf]; omega
        · have hb : (t == u) = false := beq_eq_false_iff_ne.2 he
          go_wp2_with fail
          go_quiet (fail)
          go_wp2
          go_ret
          exact ⟨by rw [HR.out, decide_eq_false (ne_of_at HTK.out HUK.out he)]; rfl, below_drewN' HBe.out _⟩
      · obtain rfl : k = n := by omega
        go_wp2
        go_ret
        refine ⟨?_, HBe.out⟩
        have e := HT.out
        rw [HN1.out, List.take_length, ← HN1.out, ← HN2.out, List.take_length] at e
        rw [HR.out, decide_eq_true e]
        rfl
  · have hd : ¬ (ts.length : Int) = (us.length : Int) := by omega
    go_wp2
    go_ret
    exact ⟨by rw [HR.out, decide_eq_false (fun e => hlen (by rw [e]))]; rfl, Below.refl _ _⟩
end Go.Proofs.YtfflkpggmhlfpaaDoor
