/- The document's names: its walks. -/
import Derived.Test.YtffpmdgchpcaaaaNf
import Derived.Deep.QuietTactic
import Derived.BigQuiet
namespace Go.Proofs.Ytffpmdgchpcaaaa
open Go.RowKit
attribute [local go_sem] bs_size

theorem letters_any (w : World) : Calls Try.prog 32 #[] w fun e w' => e = .returned (.string (bs lets)) ∧ w' = w := by
  go_enter Try.func32, Try.ntmps32
  go_wp2
  go_ret
  exact ⟨rfl, rfl⟩

theorem amg_take (l : List UInt8) (k : Nat) (c x : UInt8) (hc : l[k]? = some x) : amg (l.take (k + 1)) c = (amg (l.take k) c || c == x) := by
  obtain ⟨hk, rfl⟩ := List.getElem?_eq_some_iff.1 hc
  unfold amg
  rw [List.take_succ_eq_append_getElem hk, List.contains_append, List.contains_cons, List.contains_nil, Bool.or_false]
theorem amg_yes (l : List UInt8) (k : Nat) (c : UInt8) (hc : l[k]? = some c) : amg l c = true := by
  unfold amg
  rw [List.contains_iff_mem]
  exact List.mem_of_getElem? hc
theorem bs_at {l : List UInt8} {k : Nat} {c : UInt8} (hc : l[k]? = some c) (h) : (bs l)[k]'h = c := by
  obtain ⟨hk, rfl⟩ := List.getElem?_eq_some_iff.1 hc
  rfl
theorem toNat_ne {a b : UInt8} (h : ¬ a = b) : ((a.toNat : Int) == (b.toNat : Int)) = false := by
  have : ¬ (a.toNat : Int) = (b.toNat : Int) := fun e => h (UInt8.toNat.inj (by omega))
  simpa using this

set_option maxHeartbeats 1000000 in
theorem letter_any (c : UInt8) (l : List UInt8) (w : World) (hl : l.length ≤ 140737488351232) :
    Calls Try.prog 41 #[.int .u8 (c.toNat : Int), .string (bs l)] w fun e w' => e = .returned (.bool (amg l c)) ∧ w' = w := by
  go_enter Try.func41, Try.ntmps41
  go_wp2
  go_loop [5] (fun i => ∃ k : Nat, k ≤ l.length ∧ i = .int .i64 k ∧ amg (l.take k) c = false) (fun i => l.length - (intOf i).toNat)
  case atStart => exact ⟨0, by omega, rfl, rfl⟩
  case round =>
    obtain ⟨k, hk, rfl, hF⟩ := hrel
    have HF := Lib.hid hF
    clear hF
    by_cases hlt : k < l.length
    · obtain ⟨x, hx⟩ : ∃ x, l[k]? = some x := ⟨_, List.getElem?_eq_getElem hlt⟩
      have hat := fun h => bs_at (l := l) (k := k) hx h
      have ht := amg_take l k c x hx
      rw [HF.out, Bool.false_or] at ht
      by_cases hc : c = x
      · subst hc
        have hy := Lib.hid (amg_yes l k c hx)
        clear hx ht
        go_wp2
        go_ret
        exact ⟨by rw [hy.out]; rfl, rfl⟩
      · have hne := toNat_ne (show ¬ x = c from fun e => hc e.symm)
        have ht2 : amg (l.take (k + 1)) c = false := by rw [ht]; exact beq_eq_false_iff_ne.2 hc
        have HT := Lib.hid ht2
        clear hx ht hc ht2
        go_wp2
        go_round
        case rel => exact ⟨k + 1, by omega, by go_num, HT.out⟩
        case measure => simp [intOf]; omega
    · obtain rfl : k = l.length := by omega
      go_wp2
      go_ret
      exact ⟨by rw [List.take_length] at HF; rw [HF.out]; rfl, rfl⟩

theorem isLet_amg (c : UInt8) : amg lets c = isLet c := rfl
set_option maxHeartbeats 1000000 in
theorem refIs_any (l : List UInt8) (r : Bool) (w : World) (hl : l.length ≤ 140737488351232) (hr : hashOk l = r) :
    Calls Try.prog 34 #[.string (bs l)] w fun e w' => e = .returned (.bool r) ∧ Below w.heap.size w w' := by
  have hall : ∀ k, (l.take k).all isLet = true → k = l.length → decide (l.length = 32) = r := fun k h e => by
    subst e; rw [List.take_length] at h; rw [← hr]; unfold hashOk; rw [h, Bool.and_true]
  have hno : ∀ k c, l[k]? = some c → isLet c = false → r = false := fun k c hc h => by rw [← hr]; unfold hashOk; rw [all_false isLet l k c hc h, Bool.and_false]
  have HA := Lib.hid hall
  have HNo := Lib.hid hno
  clear hall hno hr
  go_enter Try.func34, Try.ntmps34
  go_wp2
  go_loopw [3] (fun i wr => ∃ k : Nat, k ≤ l.length ∧ i = .int .i64 k ∧ (l.take k).all isLet = true ∧ Below w.heap.size w wr) (fun i _ => l.length - (intOf i).toNat)
  case atStart => exact ⟨0, by omega, rfl, rfl, Below.refl _ _⟩
  case round =>
    obtain ⟨k, hk, rfl, hF, hB⟩ := hrel
    have HF := Lib.hid hF
    have HB := Lib.hid hB
    clear hF hB
    by_cases hlt : k < l.length
    · obtain ⟨x, hx⟩ : ∃ x, l[k]? = some x := ⟨_, List.getElem?_eq_getElem hlt⟩
      have hat := fun h => bs_at (l := l) (k := k) hx h
      have ht := all_take_succ isLet l k x hx
      rw [HF.out, Bool.true_and] at ht
      have hno := HNo.out k x hx
      have hi0 : 0 ≤ (k : Int) := by omega
      have hi1 : (k : Int) < (l.length : Int) := by omega
      cases hq : isLet x
      · have hlet := fun w => letter_any x lets w (by decide)
        rw [isLet_amg, hq] at hlet
        obtain rfl := hno hq
        clear hx ht hq hno HNo
        go_wp2
        go_quiet ((first | (go_at_call 32; exact Calls.quiet_of_same (letters_any _)) | (go_at_call 41; exact Calls.quiet_of_same (hlet _))))
        go_wp2
        go_ret
        exact ⟨rfl, below_drewN' HB.out _⟩
      · have hlet := fun w => letter_any x lets w (by decide)
        rw [isLet_amg, hq] at hlet
        rw [hq] at ht
        have HT := Lib.hid ht
        clear hx ht hq hno HNo
        go_wp2
        go_quiet ((first | (go_at_call 32; exact Calls.quiet_of_same (letters_any _)) | (go_at_call 41; exact Calls.quiet_of_same (hlet _))))
        go_wp2
        go_roundw
        case rel => exact ⟨k + 1, by omega, by go_num, HT.out, below_drewN' HB.out _⟩
        case measure => simp [intOf]; omega
    · have he : k = l.length := by omega
      have hr := HA.out k HF.out he
      subst he
      clear HA HNo HF
      by_cases h32 : l.length = 32
      · have h3 : ((l.length : Int) == 32) = true := by simpa using (show (l.length : Int) = 32 by omega)
        rw [decide_eq_true h32] at hr
        subst hr
        have hz := Lib.hid h32
        clear h32
        go_wp2
        go_ret
        exact ⟨by first | rfl | (rw [hz.out]; rfl), HB.out⟩
      · have h3 : ((l.length : Int) == 32) = false := by simpa using (show ¬ (l.length : Int) = 32 by omega)
        rw [decide_eq_false h32] at hr
        subst hr
        clear h32
        go_wp2
        go_ret
        exact ⟨by first | rfl | simp [h3], HB.out⟩
end Go.Proofs.Ytffpmdgchpcaaaa
