/- The walks of the letters' map, and of what tells whether a text is a hash. -/
import Derived.Test.YtffpmdgchpcaaaaNc
namespace Go.Proofs.Ytffpmdgchpcaaaa
open Go.RowKit Go.Maps

theorem lawU8 : Keyed Try.prog 5 := int_keyed Try.underlying5
theorem zeroI (w : World) : (zeroValue 3).run Try.prog w = .ok (.int .i64 0) w := by kernel_rfl
theorem wfU8 (c : UInt8) : (Lit.int .u8 (c.toNat : Int)).wf = true := by have := c.toNat_lt; simp [Lit.wf, IntKind.min, IntKind.max, IntKind.signed, IntKind.bits]; omega
theorem let_some (k : Nat) (hk : k < 32) : ∃ c, lets[k]? = some c := ⟨_, List.getElem?_eq_getElem hk⟩
theorem lets_get (k : Nat) (c : UInt8) (hc : lets[k]? = some c) (h) : ({ data := #[48, 49, 50, 51, 52, 53, 54, 55, 56, 57, 97, 98, 99, 100, 102, 103, 104, 105, 106, 107, 108, 109, 110, 112, 113, 114, 115, 118, 119, 120, 121, 122] } : ByteArray)[k]'h = c := by
  obtain ⟨h1, rfl⟩ := List.getElem?_eq_some_iff.1 hc
  rfl
set_option maxRecDepth 100000 in
set_option maxHeartbeats 1000000 in
theorem numbers_any (w : World) :
    Calls Try.prog 50 #[] w fun e w' => e = .returned (.map (some w.heap.size)) ∧ w'.ownsMap Try.prog 5 (plainElem Try.prog 3) w.heap.size 32 (lm 32) ∧ Below w.heap.size w w' := by
  have hmm : ∀ w : World, (Instr.makeMap 70 (some (.int .i64 32))).run Try.prog w = .ok (.map (some w.heap.size)) (w.alloc (.map #[] 0)) := fun w => by
    simp [Instr.makeMap, run_underlying Try.underlying70, asInt, go_sem]
  go_enter Try.func50, Try.ntmps50
  go_wp2
  go_loopw [4] (fun i wr => ∃ k : Nat, k ≤ 32 ∧ i = .int .i64 k ∧ wr.ownsMap Try.prog 5 (plainElem Try.prog 3) w.heap.size k (lm k) ∧ Below w.heap.size w wr) (fun i _ => 32 - (intOf i).toNat)
  case atStart => exact ⟨0, Nat.zero_le _, rfl, World.ownsMap_made _ _ _ _, (Below.refl _ _).alloc (Nat.le_refl _) _⟩
  case round =>
    obtain ⟨k, hk, rfl, hown, hb⟩ := hrel
    by_cases hlt : k < 32
    · obtain ⟨c, hc⟩ := let_some k hlt
      have hidx := lets_get k c hc
      have hlt2 : (k : Int) < 32 := by omega
      have hkey : keyOf Try.prog 5 (.int .u8 (c.toNat : Int)) = some (.int .u8 (c.toNat : Int)) := keyOf_int_mk Try.underlying5 (wfU8 c)
      have hval : plainElem (H := Unit) Try.prog 3 (.int .i64 (k : Int)) = some (.lit (.int .i64 (k : Int)), []) := plainElem_int Try.underlying3 (by simp [Lit.wf, IntKind.min, IntKind.max, IntKind.signed, IntKind.bits]; omega)
      have hn : lm (k + 1) = (lm k).put (.int .u8 (c.toNat : Int)) (.lit (.int .i64 (k : Int))) := by show (lm k).put (.int .u8 ((lets[k]?.getD 0).toNat : Int)) _ = _; rw [hc]; rfl
      have HN := Lib.hid hn
      have HB := Lib.hid hb
      clear hc hn hb
      go_wp2_with (first
        | (at_mapUpdate; refine wpList_mapUpdate_own _ rfl _ _ _ 70 rfl 5 3 lawU8 Try.underlying70 _ w.heap.size k _ rfl hown (by unfold maxLen; omega) _ _ _ rfl rfl hkey _ [] hval ?_; intro w1 hown1 hgrow1))
      go_roundw
      case rel => exact ⟨k + 1, by omega, by go_num, HN.out ▸ hown1, HB.out.grown hgrow1 HB.out.size (fun j hj => by cases hj; exact Nat.le_refl _)⟩
      case measure => simp [intOf]; omega
    · obtain rfl : k = 32 := by omega
      go_wp2
      go_ret
      exact ⟨rfl, hown, hb⟩

theorem owns_below {H : Type} {P : Program} {w w' : World} {k b n S : Nat} {R : Value → Option (DataW H × List MemPlace)} {D : DataW H} (h : w.ownsMap P k R b n D) (hb : Below S w w') (hS : b < S) : w'.ownsMap P k R b n D := by
  obtain ⟨es, clock, h1, h2⟩ := h
  exact ⟨es, clock, (hb.block b hS).trans h1, h2⟩

/-- what isHash hands to allAre -/
structure KH (w : World) (B n : Nat) : Prop where
  lt : B < n
  o : w.ownsMap Try.prog 5 (plainElem Try.prog 3) B 32 (lm 32)
  m : At w n 70 [.map (some B)]
  k : At w (n + 1) 58 [.func (.func 51) #[] #[.pointer (some ⟨n, 0, none⟩)]]
theorem KH.below {w w' : World} {B n S : Nat} (h : KH w B n) (hb : Below S w w') (hS : n + 1 < S) : KH w' B n :=
  ⟨h.lt, owns_below h.o hb (by have := h.lt; omega), h.m.below hb (by omega), h.k.below hb hS⟩

set_option maxHeartbeats 1000000 in
theorem isHash1_any (c : UInt8) (r : Bool) (B n : Nat) (w : World) (hk : KH w B n) (hr : isLet c = r) :
    Calls Try.prog 51 #[.int .u8 (c.toNat : Int), .pointer (some ⟨n, 0, none⟩)] w fun e w' => e = .returned (.bool r) ∧ w' = w := by
  have cm := hk.m.cell 0 _ rfl
  have hown := hk.o
  have hkey : keyOf Try.prog 5 (.int .u8 (c.toNat : Int)) = some (.int .u8 (c.toNat : Int)) := keyOf_int_mk Try.underlying5 (wfU8 c)
  have hh := has_lets c
  rw [hr] at hh
  have HH := Lib.hid hh
  clear hh hk hr
  go_enter Try.func51, Try.ntmps51
  go_wp2_with (first
    | (at_lookup; refine wpList_lookup_own_ok_int _ rfl _ _ 70 rfl 5 3 .i64 lawU8 Try.underlying70 Try.underlying3 (zeroI _) B 32 _ rfl hown _ _ rfl hkey ?_; intro x hat hwx))
  go_ret
  exact ⟨by rw [← HH.out]; rfl, rfl⟩

set_option maxHeartbeats 1000000 in
theorem isOne1_any (c : UInt8) (B n : Nat) (w : World) (hk : KH w B n) :
    Calls Try.prog 55 #[.int .u8 (c.toNat : Int), .slice (some ⟨n + 1, 0, none⟩) 1 1] w fun e w' => e = .returned (.bool (isLet c)) ∧ w' = w := by
  have HK := Lib.hid hk
  clear hk
  have c0 := HK.out.k.cell 0 _ rfl
  obtain ⟨r, hr⟩ : ∃ r, isLet c = r := ⟨_, rfl⟩
  have hc := isHash1_any c r B n w HK.out hr
  rw [hr]
  clear hr
  go_enter Try.func55, Try.ntmps55
  go_wp2
  go_loop [9] (fun i => ∃ k : Nat, k ≤ 1 ∧ i = .int .i64 k ∧ (k = 1 → r = false)) (fun i => 1 - (intOf i).toNat)
  case atStart => exact ⟨0, by omega, rfl, fun h => by omega⟩
  case round =>
    obtain ⟨k, hk1, rfl, hF⟩ := hrel
    have HF := Lib.hid hF
    clear hF
    by_cases hlt : k < 1
    · obtain rfl : k = 0 := by omega
      clear HF
      cases r
      · go_wp2_with (go_at_call 51; refine (hc).mono ?_; rintro e w' ⟨rfl, rfl⟩)
        go_round
        case rel => exact ⟨1, by omega, by go_num, by first | exact fun _ => rfl | trivial⟩
        case measure => simp [intOf]
      · go_wp2_with (go_at_call 51; refine (hc).mono ?_; rintro e w' ⟨rfl, rfl⟩)
        go_ret
        exact ⟨rfl, rfl⟩
    · obtain rfl : k = 1 := by omega
      obtain rfl := HF.out rfl
      go_wp2
      go_ret
      exact ⟨rfl, rfl⟩

set_option maxHeartbeats 1000000 in
theorem isHash_any (l : List UInt8) (r : Bool) (w : World) (hl : l.length ≤ 140737488351232) (hr : hashOk l = r) :
    Calls Try.prog 33 #[.string (bs l)] w fun e w' => e = .returned (.bool r) ∧ Below w.heap.size w w' := by
  have hs := bs_size l
  by_cases h32 : l.length = 32
  · have hz : (bs l).size = 32 := by rw [hs, h32]
    have hall : l.all isLet = r := by rw [← hr]; simp [hashOk, h32]
    have HA := Lib.hid hall
    clear hs hr hall
    go_enter Try.func33, Try.ntmps33
    go_wp2_with fail
    refine (numbers_any _).mono ?_
    rintro e w1 ⟨rfl, ho, hb⟩
    have HO := Lib.hid ho
    have HB := Lib.hid hb
    clear ho hb
    have hz1 := HB.out.size
    go_wp2_with fail
    have hKH : KH ((w1.alloc (.cells #[.map (some w.heap.size)] 70)).alloc (.cells #[.func (.func 51) #[] #[.pointer (some ⟨w1.heap.size, 0, none⟩)]] 58)) w.heap.size w1.heap.size :=
      ⟨(by have := World.ownsMap.lt HO.out; exact this), (HO.out.alloc _).alloc _, (At.new _ _ _).alloc _, At.new1 _ _ _ _⟩
    refine (allAre_any isLet l _ 1 _ hl (fun c w' hb => isOne1_any c _ _ w' (hKH.below hb (by simp)))).mono ?_
    rintro e w2 ⟨rfl, hb2⟩
    have HB2 := Lib.hid hb2
    clear hb2 hKH
    go_wp2
    go_ret
    refine ⟨by rw [← HA.out]; rfl, ?_⟩
    exact (((Below.alloc HB.out hz1 _).alloc (by simp; omega) _)).trans (HB2.out.mono (by simp; omega))
  · have h0 : ¬ (l.length : Int) = 32 := by omega
    have h1 : ((l.length : Int) == 32) = false := by simpa using h0
    have h2 : ((l.length : Int) != 32) = true := by simpa using h0
    have hne : ¬ (bs l).size = 32 := by rw [hs]; exact h32
    have hall : r = false := by rw [← hr]; simp [hashOk, h32]
    subst hall
    clear hr h32
    go_enter Try.func33, Try.ntmps33
    go_wp2
    go_ret
    exact ⟨rfl, Below.refl _ _⟩
end Go.Proofs.Ytffpmdgchpcaaaa
