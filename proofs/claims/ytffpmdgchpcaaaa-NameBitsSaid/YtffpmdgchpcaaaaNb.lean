/- The walks of what tells of which kind a byte is. -/
import Derived.Test.YtffpmdgchpcaaaaRows
import Derived.Test.YtffpmdgchpcaaaaNa
import Derived.Test.YtffpmdgchpcaaaaSh
import Derived.WalkKit
import Derived.WalkSpells
import Derived.WalkLawsBesides
import Derived.Lib.Hide
import Derived.Maps.OwnOps
import Derived.Maps.OwnSet
import Derived.LoopTactic
namespace Go.Proofs.Ytffpmdgchpcaaaa
open Go.RowKit

theorem between1_any (c a b : Int) (A B T1 T2 : Nat) (w : World) (hA : At w A T1 [.int .u8 a]) (hB : At w B T2 [.int .u8 b]) :
    Calls Try.prog 56 #[.int .u8 c, .pointer (some ⟨A, 0, none⟩), .pointer (some ⟨B, 0, none⟩)] w fun e w' => e = .returned (.bool (betw a b c)) ∧ w' = w := by
  have ca := hA.cell 0 _ rfl
  have cb := hB.cell 0 _ rfl
  have HA := Lib.hid hA
  have HB := Lib.hid hB
  clear hA hB
  by_cases h : a ≤ c
  · have h1 : decide (a ≤ c) = true := by simpa using h
    go_enter Try.func56, Try.ntmps56
    go_wp2
    go_ret
    exact ⟨ret_of (by rw [betw, h1]; rfl), rfl⟩
  · have h1 : decide (a ≤ c) = false := by simpa using h
    go_enter Try.func56, Try.ntmps56
    go_wp2
    go_ret
    exact ⟨ret_of (by rw [betw, h1]; rfl), rfl⟩

theorem indexByte_pos (c : UInt8) : ∀ l : List UInt8, decide (0 ≤ Lib.indexByte l c) = amg l c := by
  intro l
  induction l with
  | nil => rfl
  | cons b l ih =>
    have hg := Lib.indexByte_ge l c
    unfold Lib.indexByte amg
    rw [List.contains_cons]
    unfold amg at ih
    rw [← ih]
    by_cases h : b = c
    · subst h; simp
    · have h1 : (b == c) = false := by simpa using h
      have h2 : (c == b) = false := by simpa using fun e => h e.symm
      rw [h1, h2]
      by_cases h3 : Lib.indexByte l c = -1
      · simp [h3]
      · have h4 : (Lib.indexByte l c == -1) = false := by simpa using h3
        rw [h4]
        simp
        constructor <;> intro <;> omega

theorem among1_any (c : UInt8) (l : List UInt8) (A T1 : Nat) (w : World) (hA : At w A T1 [.string (bs l)]) :
    Calls Try.prog 57 #[.int .u8 (c.toNat : Int), .pointer (some ⟨A, 0, none⟩)] w fun e w' => e = .returned (.bool (amg l c)) ∧ w' = w := by
  have ca := hA.cell 0 _ rfl
  have HA := Lib.hid hA
  clear hA
  have hr := indexByte_pos c l
  have hi := Try.strings_IndexByte (bs l) (c.toNat : Int)
  rw [data_bs, show ((c.toNat : Int)).toNat.toUInt8 = c by simp] at hi
  generalize Lib.indexByte l c = x at *
  have HR := Lib.hid hr
  clear hr
  go_enter Try.func57, Try.ntmps57
  go_wp2_with (go_at_call 58; refine (hi _).mono ?_; rintro e w' ⟨rfl, rfl⟩)
  go_ret
  exact ⟨by rw [← HR.out]; rfl, rfl⟩

theorem between1_is (c : UInt8) (r : Bool) (a b : Int) (A B T1 T2 : Nat) (w : World) (hA : At w A T1 [.int .u8 a]) (hB : At w B T2 [.int .u8 b]) (h : betw a b c.toNat = r) :
    Calls Try.prog 56 #[.int .u8 (c.toNat : Int), .pointer (some ⟨A, 0, none⟩), .pointer (some ⟨B, 0, none⟩)] w fun e w' => e = .returned (.bool r) ∧ w' = w := by
  rw [← h]; exact between1_any _ _ _ _ _ _ _ w hA hB
theorem among1_is (c : UInt8) (r : Bool) (l : List UInt8) (A T1 : Nat) (w : World) (hA : At w A T1 [.string (bs l)]) (h : amg l c = r) :
    Calls Try.prog 57 #[.int .u8 (c.toNat : Int), .pointer (some ⟨A, 0, none⟩)] w fun e w' => e = .returned (.bool r) ∧ w' = w := by
  rw [← h]; exact among1_any _ _ _ _ w hA

/-- what Check hands to allAre -/
structure KN (w : World) (n : Nat) : Prop where
  a0 : At w n 5 [.int .u8 97]
  a1 : At w (n + 1) 5 [.int .u8 122]
  a2 : At w (n + 2) 5 [.int .u8 65]
  a3 : At w (n + 3) 5 [.int .u8 90]
  a4 : At w (n + 4) 5 [.int .u8 48]
  a5 : At w (n + 5) 5 [.int .u8 57]
  a6 : At w (n + 6) 9 [.string (bs [43, 45, 46, 95])]
  k : At w (n + 7) 58 [.func (.func 56) #[] #[.pointer (some ⟨n, 0, none⟩), .pointer (some ⟨n + 1, 0, none⟩)],
    .func (.func 56) #[] #[.pointer (some ⟨n + 2, 0, none⟩), .pointer (some ⟨n + 3, 0, none⟩)],
    .func (.func 56) #[] #[.pointer (some ⟨n + 4, 0, none⟩), .pointer (some ⟨n + 5, 0, none⟩)],
    .func (.func 57) #[] #[.pointer (some ⟨n + 6, 0, none⟩)]]

def kindF (c : UInt8) : Nat → Bool
  | 0 => false
  | k + 1 => kindF c k || kindB c k
theorem kindF_four (c : UInt8) : kindF c 4 = nameB c := by simp [kindF, nameB]
theorem nameB_of (c : UInt8) (k : Nat) (hk : k < 4) (h : kindB c k = true) : nameB c = true := by
  have : k = 0 ∨ k = 1 ∨ k = 2 ∨ k = 3 := by omega
  rcases this with rfl | rfl | rfl | rfl <;> simp [nameB, h]

set_option maxHeartbeats 2000000 in
theorem isOne4_any (c : UInt8) (n : Nat) (w : World) (hk : KN w n) :
    Calls Try.prog 55 #[.int .u8 (c.toNat : Int), .slice (some ⟨n + 7, 0, none⟩) 4 4] w fun e w' => e = .returned (.bool (nameB c)) ∧ w' = w := by
  have HK := Lib.hid hk
  clear hk
  go_enter Try.func55, Try.ntmps55
  go_wp2
  go_loop [9] (fun i => ∃ k : Nat, k ≤ 4 ∧ i = .int .i64 k ∧ kindF c k = false) (fun i => 4 - (intOf i).toNat)
  case atStart => exact ⟨0, by omega, rfl, rfl⟩
  case round =>
    obtain ⟨k, hk4, rfl, hF⟩ := hrel
    have HF := Lib.hid hF
    clear hF
    by_cases hlt : k < 4
    · have hK : ∀ b, kindB c k = b → kindF c (k + 1) = b := fun b hb => by show (kindF c k || kindB c k) = b; rw [HF.out, hb]; rfl
      have hN : kindB c k = true → nameB c = true := nameB_of c k hlt
      have h4 : k = 0 ∨ k = 1 ∨ k = 2 ∨ k = 3 := by omega
      cases hb : kindB c k
      · have HKf := Lib.hid (hK false hb)
        clear hK hN
        rcases h4 with rfl | rfl | rfl | rfl
        · have c0 := HK.out.k.cell 0 _ rfl
          have hc := between1_is c _ 97 122 _ _ _ _ w HK.out.a0 HK.out.a1 hb
          clear hb
          go_wp2_with (go_at_call 56; refine (hc).mono ?_; rintro e w' ⟨rfl, rfl⟩)
          go_round
          case rel => exact ⟨1, by omega, by go_num, HKf.out⟩
          case measure => simp [intOf]
        · have c0 := HK.out.k.cell 1 _ rfl
          have hc := between1_is c _ 65 90 _ _ _ _ w HK.out.a2 HK.out.a3 hb
          clear hb
          go_wp2_with (go_at_call 56; refine (hc).mono ?_; rintro e w' ⟨rfl, rfl⟩)
          go_round
          case rel => exact ⟨2, by omega, by go_num, HKf.out⟩
          case measure => simp [intOf]
        · have c0 := HK.out.k.cell 2 _ rfl
          have hc := between1_is c _ 48 57 _ _ _ _ w HK.out.a4 HK.out.a5 hb
          clear hb
          go_wp2_with (go_at_call 56; refine (hc).mono ?_; rintro e w' ⟨rfl, rfl⟩)
          go_round
          case rel => exact ⟨3, by omega, by go_num, HKf.out⟩
          case measure => simp [intOf]
        · have c0 := HK.out.k.cell 3 _ rfl
          have hc := among1_is c _ _ _ _ w HK.out.a6 hb
          clear hb
          go_wp2_with (go_at_call 57; refine (hc).mono ?_; rintro e w' ⟨rfl, rfl⟩)
          go_round
          case rel => exact ⟨4, by omega, by go_num, HKf.out⟩
          case measure => simp [intOf]
      · have HKt := Lib.hid (hN hb)
        clear hK hN
        rcases h4 with rfl | rfl | rfl | rfl
        · have c0 := HK.out.k.cell 0 _ rfl
          have hc := between1_is c _ 97 122 _ _ _ _ w HK.out.a0 HK.out.a1 hb
          clear hb
          go_wp2_with (go_at_call 56; refine (hc).mono ?_; rintro e w' ⟨rfl, rfl⟩)
          go_ret
          exact ⟨by rw [HKt.out]; rfl, rfl⟩
        · have c0 := HK.out.k.cell 1 _ rfl
          have hc := between1_is c _ 65 90 _ _ _ _ w HK.out.a2 HK.out.a3 hb
          clear hb
          go_wp2_with (go_at_call 56; refine (hc).mono ?_; rintro e w' ⟨rfl, rfl⟩)
          go_ret
          exact ⟨by rw [HKt.out]; rfl, rfl⟩
        · have c0 := HK.out.k.cell 2 _ rfl
          have hc := between1_is c _ 48 57 _ _ _ _ w HK.out.a4 HK.out.a5 hb
          clear hb
          go_wp2_with (go_at_call 56; refine (hc).mono ?_; rintro e w' ⟨rfl, rfl⟩)
          go_ret
          exact ⟨by rw [HKt.out]; rfl, rfl⟩
        · have c0 := HK.out.k.cell 3 _ rfl
          have hc := among1_is c _ _ _ _ w HK.out.a6 hb
          clear hb
          go_wp2_with (go_at_call 57; refine (hc).mono ?_; rintro e w' ⟨rfl, rfl⟩)
          go_ret
          exact ⟨by rw [HKt.out]; rfl, rfl⟩
    · obtain rfl : k = 4 := by omega
      go_wp2
      go_ret
      exact ⟨by rw [← kindF_four, HF.out]; rfl, rfl⟩
end Go.Proofs.Ytffpmdgchpcaaaa
