/- Depth. -/
import Derived.Test.YtdpeblchndfdaaaTb
namespace Go.Proofs.Ytdpeblchndfdaaa
open Go.RowKit
set_option maxRecDepth 100000
/-- the depth of the first so many levels -/
def depthL : Nat → Nd → Nat
  | 0, _ => 1
  | l + 1, n => if n.kind ≠ 2 ∨ l = 0 then 1 else 1 + n.kids.foldl (fun g k => max g (depthL l k)) 0
theorem foldl_max (f : Nd → Nat) (b : Nat) : ∀ (l : List Nd) (g : Nat), g ≤ b → (∀ m ∈ l, f m ≤ b) → g ≤ l.foldl (fun g k => max g (f k)) g ∧ l.foldl (fun g k => max g (f k)) g ≤ b
  | [], g, hg, _ => ⟨Nat.le_refl _, hg⟩
  | m :: r, g, hg, hf => by
    have h1 := hf m (List.mem_cons_self ..)
    have := foldl_max f b r (max g (f m)) (by omega) (fun x hx => hf x (List.mem_cons_of_mem _ hx))
    rw [List.foldl_cons]
    omega
theorem depthL_le : ∀ (l : Nat) (n : Nd), 1 ≤ l → depthL l n ≤ l
  | 0, _, h => by omega
  | l + 1, n, _ => by
    unfold depthL
    split
    · omega
    · rename_i h
      have hl : 1 ≤ l := by omega
      have := (foldl_max (depthL l) l n.kids 0 (by omega) (fun m _ => depthL_le l m hl)).2
      omega
theorem foldl_take_full (f : Nd → Nat) (b : Nat) (l : List Nd) (k : Nat) (hf : ∀ m ∈ l, f m ≤ b) (h : (l.take k).foldl (fun g k => max g (f k)) 0 = b) : l.foldl (fun g k => max g (f k)) 0 = b := by
  have e : l.foldl (fun g k => max g (f k)) 0 = (l.drop k).foldl (fun g k => max g (f k)) ((l.take k).foldl (fun g k => max g (f k)) 0) := by
    rw [← List.foldl_append, List.take_append_drop]
  rw [e, h]
  have := foldl_max f b (l.drop k) b (Nat.le_refl _) (fun m hm => hf m (List.mem_of_mem_drop hm))
  omega
theorem zero_nd : ∀ w, (zeroValue 24).run Try.prog w = .ok (.agg [Value.string ⟨#[]⟩, .int .i64 0, .bool false, .string ⟨#[]⟩, .slice none 0 0].toArray) w := fun _ => by kernel_rfl
set_option maxHeartbeats 4000000 in
theorem depth_any : ∀ (l h : Nat) (n : Nd) (ao : Option Addr) (cap : Nat) (w : World), 1 ≤ l → l ≤ 100 → Has any_ w h n ao →
    Calls Try.prog 63 #[n.v ao cap, .int .i64 (l : Int)] w fun e w' => e = .returned (.int .i64 (depthL l n : Int)) ∧ Below w.heap.size w w' := by
  intro l
  induction l with
  | zero => intro h n ao cap w h1; omega
  | succ l ih =>
    intro h n ao cap w _ hl hH
    have IH := Lib.hid ih
    have HH := Lib.hid hH
    clear ih hH
    obtain ⟨D, hD⟩ : ∃ D, D = depthL (l + 1) n := ⟨_, rfl⟩
    rw [← hD]
    unfold depthL at hD
    have HD := Lib.hid hD
    clear hD
    cases n with
    | mk nm kd ex dt ks =>
    have hks := HH.out
    go_enter Try.func63, Try.ntmps63
    by_cases hk : kd = 2
    · subst hk
      by_cases h0 : l = 0
      · subst h0
        go_wp2_with (with_reducible refine box_any rfl 24 (.tmp 0) rfl [.string (bs nm), .int .i64 2, .bool ex, .string (bs dt), .slice ao ks.length cap] rfl ?_; intro u hu bu zu; have c1 := hu.cell 1 _ rfl; have c4 := hu.cell 4 _ rfl; have HU := Lib.hid hu; have BU := Lib.hid bu; clear hu bu zu)
        go_ret
        refine ⟨?_, BU.out⟩
        rw [HD.out, if_pos (.inr (by trivial))]; rfl
      · have h1 : ((l : Int) + 1 == 1) = false := by simp; omega
        go_wp2_with (with_reducible refine box_any rfl 24 (.tmp 0) rfl [.string (bs nm), .int .i64 2, .bool ex, .string (bs dt), .slice ao ks.length cap] rfl ?_; intro u hu bu zu; have c1 := hu.cell 1 _ rfl; have c4 := hu.cell 4 _ rfl; have HU := Lib.hid hu; have BU := Lib.hid bu; clear hu bu zu)
        cases h with
        | zero => exact HH.out.elim
        | succ h =>
        have hkl := HH.out.1
        unfold maxLen at hkl
        change ks.length ≤ _ at hkl
        have HKS := Lib.hid HH.out.2
        clear hks
        go_loopw [5, 18] (fun g i wx => ∃ k : Nat, k ≤ ks.length ∧ i = .int .i64 k ∧ g = .int .i64 (((ks.take k).foldl (fun g k => max g (depthL l k)) 0 : Nat) : Int) ∧ Below w.heap.size w wx) (fun _ i _ => ks.length - (intOf i).toNat)
        case atStart => exact ⟨0, Nat.zero_le _, rfl, rfl, BU.out⟩
        clear HU BU c1 c4
        case round =>
          obtain ⟨k, hk, rfl, rfl, hB⟩ := hrel
          have HB := Lib.hid hB
          have hwz := hB.size
          clear hB
          obtain ⟨F, hF⟩ : ∃ F, F = (ks.take k).foldl (fun g k => max g (depthL l k)) 0 := ⟨_, rfl⟩
          rw [← hF]
          have hFl : F ≤ l := by rw [hF]; exact (foldl_max (depthL l) l _ 0 (Nat.zero_le _) (fun m _ => depthL_le l m (by omega))).2
          have HF := Lib.hid hF
          clear hF
          by_cases hlt : k < ks.length
          · have hlt' : (k : Int) < ks.length := by omega
            obtain ⟨m, hm⟩ : ∃ m, ks[k]? = some m := ⟨_, List.getElem?_eq_getElem hlt⟩
            obtain ⟨x, g, c, rfl, _, hK, hM⟩ := HKS.out k m hm
            have hK := hK.kept (HB.out.block x.block hK.lt)
            have hM := hM.below HB.out
            have HK := Lib.hid hK
            have HM := Lib.hid hM
            have HMM := Lib.hid hm
            clear hK hM hm
            go_wp2_with (first | (refine load_any rfl 24 (.tmp 20) rfl (x.add (k * 5)) rfl (m.cells g c) _ (fun j v hj => HK.out j v hj) Try.underlying24 rfl info_nd ?_) | (with_reducible refine alloc_any rfl 24 rfl _ zero_nd ?_; intro u2 hu2 bu2 zu2; have HU2 := Lib.hid hu2; clear hu2) | (refine store_any rfl 24 (.tmp 7) (.tmp 21) rfl wr.heap.size rfl (m.cells g c) rfl _ HU2.out rfl info_nd (nd_one m g c) ?_; intro u3 hu3 tu3; have HU3 := Lib.hid hu3; have BU3 := Lib.hid (Touch.below bu2 tu3 (by simp) (Nat.le_refl _)); clear hu3 tu3 bu2 zu2) | (refine load_any rfl 24 (.tmp 7) rfl ⟨wr.heap.size, 0, none⟩ rfl (m.cells g c) _ (fun j v hj => by rw [Addr.add0]; exact HU3.out.cell j v hj) Try.underlying24 rfl info_nd ?_))
            refine (IH.out h m g c u3 (by omega) (by omega) (HM.out.below BU3.out)).mono ?_
            rintro e w5 ⟨rfl, b5⟩
            have hMl := depthL_le l m (by omega)
            have hst : (ks.take (k + 1)).foldl (fun g k => max g (depthL l k)) 0 = max F (depthL l m) := by rw [List.take_add_one, HMM.out, Option.toList_some, List.foldl_append, ← HF.out]; rfl
            have HST := Lib.hid hst
            have HB5 := Lib.hid ((HB.out.trans (BU3.out.mono hwz)).trans (b5.mono (by have := BU3.out.size; omega)))
            generalize depthL l m = M at hMl HST ⊢
            clear hst b5 HU3 HU2 BU3 HB
            by_cases hFM : F < M
            · have i1 : (F : Int) < M := by omega
              by_cases hE : M = l
              · have i2 : ((M : Int) == (l : Int)) = true := by simp [hE]
                go_wp2_with fail
                go_ret
                refine ⟨?_, HB5.out⟩
                have hf := foldl_take_full (depthL l) l ks (k + 1) (fun m _ => depthL_le l m (by omega)) (by rw [HST.out]; omega)
                rw [HD.out, if_neg (by rintro (h | h); exact h rfl; exact h0 h)]
                show Ending.returned (Value.int .i64 (1 + (l : Int))) = .returned (.int .i64 ((1 + ks.foldl (fun g k => max g (depthL l k)) 0 : Nat) : Int))
                rw [hf]; congr 2
              · have i2 : ((M : Int) == (l : Int)) = false := by simp; omega
                go_wp2_with fail
                go_roundw
                case rel => exact ⟨k + 1, by omega, by go_num, by rw [HST.out]; congr 1; omega, HB5.out⟩
                case measure => simp [intOf]; omega
            · have i1 : ¬ (F : Int) < M := by omega
              by_cases hE : F = l
              · have i2 : ((F : Int) == (l : Int)) = true := by simp [hE]
                go_wp2_with fail
                go_ret
                refine ⟨?_, HB5.out⟩
                have hf := foldl_take_full (depthL l) l ks (k + 1) (fun m _ => depthL_le l m (by omega)) (by rw [HST.out]; omega)
                rw [HD.out, if_neg (by rintro (h | h); exact h rfl; exact h0 h)]
                show Ending.returned (Value.int .i64 (1 + (l : Int))) = .returned (.int .i64 ((1 + ks.foldl (fun g k => max g (depthL l k)) 0 : Nat) : Int))
                rw [hf]; congr 2
              · have i2 : ((F : Int) == (l : Int)) = false := by simp; omega
                go_wp2_with fail
                go_roundw
                case rel => exact ⟨k + 1, by omega, by go_num, by rw [HST.out]; congr 1; omega, HB5.out⟩
                case measure => simp [intOf]; omega
          · obtain rfl : k = ks.length := by omega
            go_wp2_with fail
            go_ret
            refine ⟨?_, HB.out⟩
            rw [HD.out, if_neg (by rintro (h | h); exact h rfl; exact h0 h)]
            show Ending.returned (Value.int .i64 (1 + (F : Int))) = .returned (.int .i64 ((1 + ks.foldl (fun g k => max g (depthL l k)) 0 : Nat) : Int))
            rw [HF.out, List.take_length]; congr 2
    · have h1 : (kd == 2) = false := by simpa using hk
      go_wp2_with (with_reducible refine box_any rfl 24 (.tmp 0) rfl [.string (bs nm), .int .i64 kd, .bool ex, .string (bs dt), .slice ao ks.length cap] rfl ?_; intro u hu bu zu; have c1 := hu.cell 1 _ rfl; have c4 := hu.cell 4 _ rfl; have HU := Lib.hid hu; have BU := Lib.hid bu; clear hu bu zu)
      go_ret
      refine ⟨?_, BU.out⟩
      rw [HD.out, if_pos (.inl hk)]; rfl
theorem deep_any (h : Nat) (n : Nd) (ao : Option Addr) (cap : Nat) (w : World) (hH : Has any_ w h n ao) :
    Calls Try.prog 38 #[n.v ao cap] w fun e w' => e = .returned (.int .i64 (depthL 14 n : Int)) ∧ Below w.heap.size w w' := by
  have HH := Lib.hid hH
  clear hH
  go_enter Try.func38, Try.ntmps38
  go_wp2_with (first | (with_reducible refine box_any rfl 24 (.tmp 0) rfl (n.cells ao cap) rfl ?_; intro u hu bu zu; have HU := Lib.hid hu; have BU := Lib.hid bu; clear hu bu) | (refine load_any rfl 24 (.tmp 1) rfl ⟨w.heap.size, 0, none⟩ rfl (n.cells ao cap) _ (fun j v hj => by rw [Addr.add0]; exact HU.out.cell j v hj) Try.underlying24 rfl info_nd ?_))
  refine (depth_any 14 h n ao cap u (by omega) (by omega) (HH.out.below BU.out)).mono ?_
  rintro e w5 ⟨rfl, b5⟩
  have HB := Lib.hid (BU.out.trans (b5.mono (by omega)))
  clear b5
  go_wp2
  go_ret
  exact ⟨rfl, HB.out⟩
end Go.Proofs.Ytdpeblchndfdaaa
