/- The walks of Check, Path and Split. -/
import Derived.Test.YtffpmdgchpcaaaaNd
namespace Go.Proofs.Ytffpmdgchpcaaaa
open Go.RowKit

theorem between_any (a b : Int) (n : Nat) (w : World) (hn : w.heap.size = n) :
    Calls Try.prog 39 #[.int .u8 a, .int .u8 b] w fun e w' => e = .returned (.func (.func 56) #[] #[.pointer (some ⟨n, 0, none⟩), .pointer (some ⟨n + 1, 0, none⟩)]) ∧
      At w' n 5 [.int .u8 a] ∧ At w' (n + 1) 5 [.int .u8 b] ∧ Below n w w' ∧ w'.heap.size = n + 2 := by
  subst hn
  have hmf : ∀ (fn : Fn) (first cap : Array Value) (w : World), (Instr.makeFunc fn first cap).run Try.prog w = .ok (.func fn first cap) w := fun _ _ _ _ => rfl
  go_enter Try.func39, Try.ntmps39
  go_wp2
  go_ret
  exact ⟨rfl, (At.new _ _ _).alloc _, At.new1 _ _ _ _, ((Below.refl _ _).alloc (Nat.le_refl _) _).alloc (by simp) _, by simp⟩
theorem among_any (l : List UInt8) (n : Nat) (w : World) (hn : w.heap.size = n) :
    Calls Try.prog 40 #[.string (bs l)] w fun e w' => e = .returned (.func (.func 57) #[] #[.pointer (some ⟨n, 0, none⟩)]) ∧ At w' n 9 [.string (bs l)] ∧ Below n w w' ∧ w'.heap.size = n + 1 := by
  subst hn
  have hmf : ∀ (fn : Fn) (first cap : Array Value) (w : World), (Instr.makeFunc fn first cap).run Try.prog w = .ok (.func fn first cap) w := fun _ _ _ _ => rfl
  go_enter Try.func40, Try.ntmps40
  go_wp2
  go_ret
  exact ⟨rfl, At.new _ _ _, (Below.refl _ _).alloc (Nat.le_refl _) _, by simp⟩

theorem KN.below {w w' : World} {n S : Nat} (h : KN w n) (hb : Below S w w') (hS : n + 7 < S) : KN w' n :=
  ⟨h.a0.below hb (by omega), h.a1.below hb (by omega), h.a2.below hb (by omega), h.a3.below hb (by omega), h.a4.below hb (by omega), h.a5.below hb (by omega), h.a6.below hb (by omega), h.k.below hb hS⟩

theorem chk_len {l : List UInt8} (h : 20 < l.length) : chk l = 3 := by unfold chk; rw [if_pos h]
theorem chk_nil : chk [] = 2 := rfl
theorem chk_dot {l : List UInt8} (h : ¬ 20 < l.length) (h1 : l.head? = some 46) : chk l = 2 := by unfold chk; rw [if_neg h, if_pos (.inr h1)]
theorem chk_all {l : List UInt8} (h : ¬ 20 < l.length) (h0 : l ≠ []) (h1 : l.head? ≠ some 46) : chk l = if l.all nameB then 0 else 2 := by
  unfold chk; rw [if_neg h, if_neg (by rintro (h | h); exact h0 h; exact h1 h)]
theorem hasPrefix_one (l : List UInt8) (c : UInt8) : Lib.hasPrefix l [c] = decide (l.head? = some c) := by
  cases l with
  | nil => rfl
  | cons x xs =>
    show (c == x && List.isPrefixOf [] xs) = _
    by_cases h : c = x
    · subst h; simp
    · have h2 : ¬ x = c := fun e => h e.symm
      simp [h, h2]
theorem bs_nil : ({ data := #[] } : ByteArray) = bs [] := rfl

set_option maxHeartbeats 2000000 in
theorem check_any (l : List UInt8) (x : Int) (w : World) (hl : l.length ≤ 140737488351232) (hx : chk l = x) :
    Calls Try.prog 19 #[.string (bs l)] w fun e w' => e = .returned (.int .i64 x) ∧ Below w.heap.size w w' := by
  have hs := bs_size l
  by_cases h20 : 20 < l.length
  · have h0 : (20 : Int) < l.length := by omega
    obtain rfl : x = 3 := by rw [← hx, chk_len h20]
    clear hx h20
    go_enter Try.func19, Try.ntmps19
    go_wp2
    go_ret
    exact ⟨rfl, Below.refl _ _⟩
  · have h0 : ¬ (20 : Int) < l.length := by omega
    by_cases hn : l = []
    · subst hn
      obtain rfl : x = 2 := by rw [← hx, chk_nil]
      clear hx
      have he : (bs []).toList.isEmpty = true := by rw [ByteArray.toList_eq, data_bs]; rfl
      have he2 : ((bs []).toList == []) = true := by rw [ByteArray.toList_eq, data_bs]; rfl
      go_enter Try.func19, Try.ntmps19
      go_wp2
      go_ret
      exact ⟨rfl, Below.refl _ _⟩
    · have he : (bs l).toList.isEmpty = false := by rw [ByteArray.toList_eq, data_bs]; cases l <;> simp_all
      have he2 : ((bs l).toList == []) = false := by rw [ByteArray.toList_eq, data_bs]; cases l <;> simp_all
      have he3 : (bs l).toList ≠ [] := by rw [ByteArray.toList_eq, data_bs]; exact hn
      have hpre := Try.strings_HasPrefix (bs l) (bs [46]) w
      rw [data_bs, data_bs, hasPrefix_one] at hpre
      by_cases hd : l.head? = some 46
      · obtain rfl : x = 2 := by rw [← hx, chk_dot h20 hd]
        rw [show decide (l.head? = some 46) = true by simpa using hd] at hpre
        clear hx hd hn h20
        go_enter Try.func19, Try.ntmps19
        go_wp2_with (go_at_call 37; refine (hpre).mono ?_; rintro e w' ⟨rfl, rfl⟩)
        go_ret
        exact ⟨rfl, Below.refl _ _⟩
      · have hc := chk_all h20 hn hd
        rw [hx] at hc
        rw [show decide (l.head? = some 46) = false by simpa using hd] at hpre
        have HC := Lib.hid hc
        clear hx hd hn h20 hc
        obtain ⟨n, hn⟩ : ∃ n, w.heap.size = n := ⟨_, rfl⟩
        have HN := Lib.hid hn
        go_enter Try.func19, Try.ntmps19
        go_wp2_with (go_at_call 37; refine (hpre).mono ?_; rintro e w' ⟨rfl, rfl⟩)
        clear hn
        refine (between_any _ _ n _ HN.out).mono ?_
        rintro e w1 ⟨rfl, a0, a1, b1, z1⟩
        have A0 := Lib.hid a0
        have A1 := Lib.hid a1
        have B1 := Lib.hid b1
        have Z1 := Lib.hid z1
        clear a0 a1 b1 z1
        go_wp2_with fail
        refine (between_any _ _ (n + 2) _ Z1.out).mono ?_
        rintro e w2 ⟨rfl, a2, a3, b2, z2⟩
        have A2 := Lib.hid a2
        have A3 := Lib.hid a3
        have B2 := Lib.hid b2
        have Z2 := Lib.hid z2
        clear a2 a3 b2 z2
        go_wp2_with fail
        refine (between_any _ _ (n + 4) _ Z2.out).mono ?_
        rintro e w3 ⟨rfl, a4, a5, b3, z3⟩
        have A4 := Lib.hid a4
        have A5 := Lib.hid a5
        have B3 := Lib.hid b3
        have Z3 := Lib.hid z3
        clear a4 a5 b3 z3
        go_wp2_with fail
        refine (among_any [43, 45, 46, 95] (n + 6) _ Z3.out).mono ?_
        rintro e w4 ⟨rfl, a6, b4, z4⟩
        have A6 := Lib.hid a6
        have B4 := Lib.hid b4
        have Z4 := Lib.hid z4
        clear a6 b4
        go_wp2_with fail
        have b12 := B1.out.trans (B2.out.mono (by omega))
        have b13 := b12.trans (B3.out.mono (by omega))
        have b14 := b13.trans (B4.out.mono (by omega))
        have s4 : w4.heap.size = n + 7 := Z4.out
        have hK : KN (w4.alloc (.cells #[.func (.func 56) #[] #[.pointer (some ⟨n, 0, none⟩), .pointer (some ⟨n + 1, 0, none⟩)],
            .func (.func 56) #[] #[.pointer (some ⟨n + 2, 0, none⟩), .pointer (some ⟨n + 2 + 1, 0, none⟩)],
            .func (.func 56) #[] #[.pointer (some ⟨n + 4, 0, none⟩), .pointer (some ⟨n + 4 + 1, 0, none⟩)],
            .func (.func 57) #[] #[.pointer (some ⟨n + 6, 0, none⟩)]] 58)) n :=
          ⟨((A0.out.below (S := n + 2) (B2.out) (by omega)).below (S := n + 4) B3.out (by omega)).below (S := n + 6) B4.out (by omega) |>.alloc _,
           ((A1.out.below (S := n + 2) (B2.out) (by omega)).below (S := n + 4) B3.out (by omega)).below (S := n + 6) B4.out (by omega) |>.alloc _,
           (A2.out.below (S := n + 4) B3.out (by omega)).below (S := n + 6) B4.out (by omega) |>.alloc _,
           (A3.out.below (S := n + 4) B3.out (by omega)).below (S := n + 6) B4.out (by omega) |>.alloc _,
           (A4.out.below (S := n + 6) B4.out (by omega)).alloc _, (A5.out.below (S := n + 6) B4.out (by omega)).alloc _, A6.out.alloc _, by rw [← s4]; exact At.new _ _ _⟩
        have hB := Below.alloc b14 (by omega) (.cells #[.func (.func 56) #[] #[.pointer (some ⟨n, 0, none⟩), .pointer (some ⟨n + 1, 0, none⟩)],
            .func (.func 56) #[] #[.pointer (some ⟨n + 2, 0, none⟩), .pointer (some ⟨n + 2 + 1, 0, none⟩)],
            .func (.func 56) #[] #[.pointer (some ⟨n + 4, 0, none⟩), .pointer (some ⟨n + 4 + 1, 0, none⟩)],
            .func (.func 57) #[] #[.pointer (some ⟨n + 6, 0, none⟩)]] 58)
        clear A0 A1 A2 A3 A4 A5 A6 B1 B2 B3 B4 Z1 Z2 Z3 b12 b13 b14 z4
        refine (allAre_any nameB l (n + 6 + 1) 4 _ hl (fun c w' hb => isOne4_any c n w' (hK.below hb (by rw [World.size_alloc]; omega)))).mono ?_
        rintro e w5 ⟨rfl, hb5⟩
        have HB := Lib.hid hB
        have HB5 := Lib.hid (hb5.mono (B' := n) (by rw [World.size_alloc]; omega))
        clear hb5 hB hK s4 Z4
        cases hq : l.all nameB
        · rw [hq] at HC
          clear hq
          go_wp2
          go_ret
          exact ⟨by rw [HC.out]; rfl, by rw [HN.out]; exact HB.out.trans HB5.out⟩
        · rw [hq] at HC
          clear hq
          go_wp2
          go_ret
          exact ⟨by rw [HC.out]; rfl, by rw [HN.out]; exact HB.out.trans HB5.out⟩
end Go.Proofs.Ytffpmdgchpcaaaa
