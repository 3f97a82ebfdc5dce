/- The document's Deep and Same. -/
import Derived.Test.YtfflkpggmhlfpaaDoorUg
namespace Go.Proofs.YtfflkpggmhlfpaaDoor
open Go.RowKit
set_option maxRecDepth 100000
theorem run_max_op {op : Oper} {a : Act} {w : World} (x y : Operand) (ho : op.op = .call { callee := .builtin .max, args := #[x, y], argTypes := #[3, 3] }) (m n r : Int) (hx : a.eval x = .int .i64 m) (hy : a.eval y = .int .i64 n) (hr : (if n > m then n else m) = r) :
    (execOp a.eval op).run Tryd.prog w = .ok (.value (.int .i64 r)) w := by
  have h2 : (Builtin.max_ #[3, 3] op.type #[.int .i64 m, .int .i64 n]).run Tryd.prog w = .ok (.int .i64 r) w := by rw [run_max_int2, hr]
  unfold execOp
  simp [ho, resolve, invoke, builtin, hx, hy, h2, Result.andThen]
set_option maxHeartbeats 4000000 in
theorem rdeep_any : ∀ (l h : Nat) (n : Nd) (ao : Option Addr) (cap : Nat) (w : World), 1 ≤ l → l ≤ 100 → Has any_ w h n ao →
    Calls Tryd.prog 48 #[n.v ao cap, .int .i64 (l : Int)] w fun e w' => e = .returned (.int .i64 (depthL l n : Int)) ∧ Below w.heap.size w w' := by
  intro l
  induction l with
  | zero => intro h n ao cap w h1; omega
  | succ l ih =>
    intro h n ao cap w _ hl hH
    have IH := Lib.hid ih
    have HH := Lib.hid hH
    clear ih hH
    obtain ⟨D, hD⟩ : ∃ D, D = depthL (l + 1) n := ⟨_, rfl⟩
    rw [← hD]
    unfold depthL at hD
    have HD := Lib.hid hD
    clear hD
    cases n with
    | mk nm kd ex dt ks =>
    go_enter Tryd.func48, Tryd.ntmps48
    by_cases hk : kd = 2
    · subst hk
      by_cases h0 : l = 0
      · subst h0
        go_wp2_with (with_reducible refine box_any rfl 24 (.tmp 0) rfl [.string (bs nm), .int .i64 2, .bool ex, .string (bs dt), .slice ao ks.length cap] rfl ?_; intro u hu bu zu; have c1 := hu.cell 1 _ rfl; have c4 := hu.cell 4 _ rfl; have HU := Lib.hid hu; have BU := Lib.hid bu; clear hu bu zu)
        go_ret
        refine ⟨?_, BU.out⟩
        rw [HD.out, if_pos (.inr (by trivial))]; rfl
      · have h1 : ((l : Int) + 1 == 1) = false := by simp; omega
        go_wp2_with (with_reducible refine box_any rfl 24 (.tmp 0) rfl [.string (bs nm), .int .i64 2, .bool ex, .string (bs dt), .slice ao ks.length cap] rfl ?_; intro u hu bu zu; have c1 := hu.cell 1 _ rfl; have HU := Lib.hid hu; have BU := Lib.hid bu; clear hu bu zu)
        cases h with
        | zero => exact HH.out.elim
        | succ h =>
        have hkl := HH.out.1
        unfold maxLen at hkl
        change ks.length ≤ _ at hkl
        have HKS := Lib.hid HH.out.2
        go_loopw [5, 6] (fun g i wx => ∃ k : Nat, k ≤ ks.length ∧ i = .int .i64 k ∧ g = .int .i64 (((1 + (ks.take k).foldl (fun g k => max g (depthL l k)) 0 : Nat)) : Int) ∧ At wx w.heap.size 24 [.string (bs nm), .int .i64 2, .bool ex, .string (bs dt), .slice ao ks.length cap] ∧ Below w.heap.size w wx) (fun _ i _ => ks.length - (intOf i).toNat)
        case atStart => exact ⟨0, Nat.zero_le _, rfl, rfl, HU.out, BU.out⟩
        clear HU BU c1
        case round =>
          obtain ⟨k, hk, rfl, rfl, hA, hB⟩ := hrel
          have c4 := hA.cell 4 _ rfl
          have HA := Lib.hid hA
          have HB := Lib.hid hB
          have hwz := hB.size
          clear hA hB
          obtain ⟨F, hF⟩ : ∃ F, F = (ks.take k).foldl (fun g k => max g (depthL l k)) 0 := ⟨_, rfl⟩
          rw [← hF]
          have hFl : F ≤ l := by rw [hF]; exact (foldl_max (depthL l) l _ 0 (Nat.zero_le _) (fun m _ => depthL_le l m (by omega))).2
          have HF := Lib.hid hF
          clear hF
          by_cases hlt : k < ks.length
          · have hlt' : (k : Int) < ks.length := by omega
            obtain ⟨m, hm⟩ : ∃ m, ks[k]? = some m := ⟨_, List.getElem?_eq_getElem hlt⟩
            obtain ⟨x, g, c, rfl, _, hK, hM⟩ := HKS.out k m hm
            have HK := Lib.hid (hK.kept (HB.out.block x.block hK.lt))
            have HM := Lib.hid (hM.below HB.out)
            have hMl := depthL_le l m (by omega)
            have hst : (ks.take (k + 1)).foldl (fun g k => max g (depthL l k)) 0 = max F (depthL l m) := by rw [List.take_add_one, hm, Option.toList_some, List.foldl_append, ← HF.out]; rfl
            have HST := Lib.hid hst
            clear hK hM hm hst
            go_wp2_with (first | (refine load_any rfl 24 (.tmp 25) rfl (x.add (k * 5)) rfl (m.cells g c) _ (fun j v hj => HK.out j v hj) Tryd.underlying24 rfl info_nd ?_))
            refine (IH.out h m g c wr (by omega) (by omega) HM.out).mono ?_
            rintro e w5 ⟨rfl, b5⟩
            have HA5 := Lib.hid (HA.out.below b5 HA.out.lt)
            have HB5 := Lib.hid (HB.out.trans (b5.mono hwz))
            generalize depthL l m = M at hMl HST ⊢
            have hmx : (if (1 + (M : Int)) > ((1 + F : Nat) : Int) then (1 + (M : Int)) else ((1 + F : Nat) : Int)) = ((1 + max F M : Nat) : Int) := by split <;> omega
            have HMX := Lib.hid hmx
            clear b5 HA HB HK HM hmx
            go_wp2_with (first
              | (refine list_val rfl (run_max_op (.tmp 21) (.tmp 30) rfl ((1 + F : Nat) : Int) (1 + (M : Int)) _ rfl rfl HMX.out) ?_))
            go_roundw
            case rel => exact ⟨k + 1, by omega, by go_num, by first | (rw [HST.out]; done) | (rw [HST.out]; congr 1; omega) | (rw [HST.out]; rfl), HA5.out, HB5.out⟩
            case measure => simp [intOf]; omega
          · obtain rfl : k = ks.length := by omega
            have hlt' : ¬ (ks.length : Int) < ks.length := by omega
            go_wp2_with fail
            go_ret
            refine ⟨?_, HB.out⟩
            rw [HD.out, if_neg (by rintro (h | h); exact h rfl; exact h0 h)]
            show Ending.returned (Value.int .i64 ((1 + F : Nat) : Int)) = .returned (.int .i64 ((1 + ks.foldl (fun g k => max g (depthL l k)) 0 : Nat) : Int))
            rw [HF.out, List.take_length]
    · have h1 : (kd == 2) = false := by simpa using hk
      go_wp2_with (with_reducible refine box_any rfl 24 (.tmp 0) rfl [.string (bs nm), .int .i64 kd, .bool ex, .string (bs dt), .slice ao ks.length cap] rfl ?_; intro u hu bu zu; have c1 := hu.cell 1 _ rfl; have HU := Lib.hid hu; have BU := Lib.hid bu; clear hu bu zu)
      go_ret
      refine ⟨?_, BU.out⟩
      rw [HD.out, if_pos (.inl hk)]; rfl
theorem rDeep_any (h : Nat) (n : Nd) (ao : Option Addr) (cap : Nat) (w : World) (hH : Has any_ w h n ao) :
    Calls Tryd.prog 30 #[n.v ao cap] w fun e w' => e = .returned (.int .i64 (depthL 14 n : Int)) ∧ Below w.heap.size w w' := by
  have HH := Lib.hid hH
  clear hH
  go_enter Tryd.func30, Tryd.ntmps30
  go_wp2_with (first | (with_reducible refine box_any rfl 24 (.tmp 0) rfl (n.cells ao cap) rfl ?_; intro u hu bu zu; have HU := Lib.hid hu; have BU := Lib.hid bu; clear hu bu) | (refine load_any rfl 24 (.tmp 1) rfl ⟨w.heap.size, 0, none⟩ rfl (n.cells ao cap) _ (fun j v hj => by rw [Addr.add0]; exact HU.out.cell j v hj) Tryd.underlying24 rfl info_nd ?_))
  refine (rdeep_any 14 h n ao cap u (by omega) (by omega) (HH.out.below BU.out)).mono ?_
  rintro e w5 ⟨rfl, b5⟩
  have HB := Lib.hid (BU.out.trans (b5.mono (by omega)))
  clear b5
  go_wp2
  go_ret
  exact ⟨rfl, HB.out⟩
/-- alike nodes are as deep -/
theorem sameL_depth : ∀ (h : Nat) (a b : Nd), sameL h a b = true → ∀ l, depthL l a = depthL l b
  | 0, _, _, hs, _ => by cases hs
  | h + 1, a, b, hs, l => by
    unfold sameL eqKids at hs
    simp only [Bool.and_eq_true, decide_eq_true_eq, beq_iff_eq] at hs
    obtain ⟨_, _, hk, _, _, hl, hz⟩ := hs
    cases l with
    | zero => rfl
    | succ l =>
      unfold depthL
      rw [hk]
      split
      · rfl
      · congr 1
        have key : ∀ (x y : List Nd) (g : Nat), x.length = y.length → (x.zip y).all (fun p => sameL h p.1 p.2) = true → x.foldl (fun g k => max g (depthL l k)) g = y.foldl (fun g k => max g (depthL l k)) g := by
          intro x
          induction x with
          | nil => intro y g hl _; cases y with | nil => rfl | cons _ _ => cases hl
          | cons p r ih =>
            intro y g hl hz
            cases y with
            | nil => cases hl
            | cons q s =>
              rw [List.zip_cons_cons, List.all_cons, Bool.and_eq_true] at hz
              rw [List.foldl_cons, List.foldl_cons, sameL_depth h p q hz.1 l]
              exact ih s _ (by simpa using hl) hz.2
        exact key a.kids b.kids 0 hl hz
end Go.Proofs.YtfflkpggmhlfpaaDoor
