/- The document's Deep and Size. -/
import Derived.Test.YtdpeblchndfdaaaPb
namespace Go.Proofs.Ytdpeblchndfdaaa
open Go.RowKit
set_option maxRecDepth 100000
theorem run_max_op {op : Oper} {a : Act} {w : World} (x y : Operand) (ho : op.op = .call { callee := .builtin .max, args := #[x, y], argTypes := #[3, 3] }) (m n r : Int) (hx : a.eval x = .int .i64 m) (hy : a.eval y = .int .i64 n) (hr : (if n > m then n else m) = r) :
    (execOp a.eval op).run Try.prog w = .ok (.value (.int .i64 r)) w := by
  have h2 : (Builtin.max_ #[3, 3] op.type #[.int .i64 m, .int .i64 n]).run Try.prog w = .ok (.int .i64 r) w := by rw [run_max_int2, hr]
  unfold execOp
  simp [ho, resolve, invoke, builtin, hx, hy, h2, Result.andThen]
set_option maxHeartbeats 4000000 in
theorem rdeep_any : ∀ (l h : Nat) (n : Nd) (ao : Option Addr) (cap : Nat) (w : World), 1 ≤ l → l ≤ 100 → Has any_ w h n ao →
    Calls Try.prog 62 #[n.v ao cap, .int .i64 (l : Int)] w fun e w' => e = .returned (.int .i64 (depthL l n : Int)) ∧ Below w.heap.size w w' := by
  intro l
  induction l with
  | zero => intro h n ao cap w h1; omega
  | succ l ih =>
    intro h n ao cap w _ hl hH
    have IH := Lib.hid ih
    have HH := Lib.hid hH
    clear ih hH
    obtain ⟨D, hD⟩ : ∃ D, D = depthL (l + 1) n := ⟨_, rfl⟩
    rw [← hD]
    unfold depthL at hD
    have HD := Lib.hid hD
    clear hD
    cases n with
    | mk nm kd ex dt ks =>
    go_enter Try.func62, Try.ntmps62
    by_cases hk : kd = 2
    · subst hk
      by_cases h0 : l = 0
      · subst h0
        go_wp2_with (with_reducible refine box_any rfl 24 (.tmp 0) rfl [.string (bs nm), .int .i64 2, .bool ex, .string (bs dt), .slice ao ks.length cap] rfl ?_; intro u hu bu zu; have c1 := hu.cell 1 _ rfl; have c4 := hu.cell 4 _ rfl; have HU := Lib.hid hu; have BU := Lib.hid bu; clear hu bu zu)
        go_ret
        refine ⟨?_, BU.out⟩
        rw [HD.out, if_pos (.inr (by trivial))]; rfl
      · have h1 : ((l : Int) + 1 == 1) = false := by simp; omega
        go_wp2_with (with_reducible refine box_any rfl 24 (.tmp 0) rfl [.string (bs nm), .int .i64 2, .bool ex, .string (bs dt), .slice ao ks.length cap] rfl ?_; intro u hu bu zu; have c1 := hu.cell 1 _ rfl; have HU := Lib.hid hu; have BU := Lib.hid bu; clear hu bu zu)
        cases h with
        | zero => exact HH.out.elim
        | succ h =>
        have hkl := HH.out.1
        unfold maxLen at hkl
        change ks.length ≤ _ at hkl
        have HKS := Lib.hid HH.out.2
        go_loopw [5, 6] (fun g i wx => ∃ k : Nat, k ≤ ks.length ∧ i = .int .i64 k ∧ g = .int .i64 (((1 + (ks.take k).foldl (fun g k => max g (depthL l k)) 0 : Nat)) : Int) ∧ At wx w.heap.size 24 [.string (bs nm), .int .i64 2, .bool ex, .string (bs dt), .slice ao ks.length cap] ∧ Below w.heap.size w wx) (fun _ i _ => ks.length - (intOf i).toNat)
        case atStart => exact ⟨0, Nat.zero_le _, rfl, rfl, HU.out, BU.out⟩
        clear HU BU c1
        case round =>
          obtain ⟨k, hk, rfl, rfl, hA, hB⟩ := hrel
          have c4 := hA.cell 4 _ rfl
          have HA := Lib.hid hA
          have HB := Lib.hid hB
          have hwz := hB.size
          clear hA hB
          obtain ⟨F, hF⟩ : ∃ F, F = (ks.take k).foldl (fun g k => max g (depthL l k)) 0 := ⟨_, rfl⟩
          rw [← hF]
          have hFl : F ≤ l := by rw [hF]; exact (foldl_max (depthL l) l _ 0 (Nat.zero_le _) (fun m _ => depthL_le l m (by omega))).2
          have HF := Lib.hid hF
          clear hF
          by_cases hlt : k < ks.length
          · have hlt' : (k : Int) < ks.length := by omega
            obtain ⟨m, hm⟩ : ∃ m, ks[k]? = some m := ⟨_, List.getElem?_eq_getElem hlt⟩
            obtain ⟨x, g, c, rfl, _, hK, hM⟩ := HKS.out k m hm
            have HK := Lib.hid (hK.kept (HB.out.block x.block hK.lt))
            have HM := Lib.hid (hM.below HB.out)
            have hMl := depthL_le l m (by omega)
            have hst : (ks.take (k + 1)).foldl (fun g k => max g (depthL l k)) 0 = max F (depthL l m) := by rw [List.take_add_one, hm, Option.toList_some, List.foldl_append, ← HF.out]; rfl
            have HST := Lib.hid hst
            clear hK hM hm hst
            go_wp2_with (first | (refine load_any rfl 24 (.tmp 25) rfl (x.add (k * 5)) rfl (m.cells g c) _ (fun j v hj => HK.out j v hj) Try.underlying24 rfl info_nd ?_))
            refine (IH.out h m g c wr (by omega) (by omega) HM.out).mono ?_
            rintro e w5 ⟨rfl, b5⟩
            have HA5 := Lib.hid (HA.out.below b5 HA.out.lt)
            have HB5 := Lib.hid (HB.out.trans (b5.mono hwz))
            generalize depthL l m = M at hMl HST ⊢
            have hmx : (if (1 + (M : Int)) > ((1 + F : Nat) : Int) then (1 + (M : Int)) else ((1 + F : Nat) : Int)) = ((1 + max F M : Nat) : Int) := by split <;> omega
            have HMX := Lib.hid hmx
            clear b5 HA HB HK HM hmx
            go_wp2_with (first
              | (refine list_val rfl (run_max_op (.tmp 21) (.tmp 30) rfl ((1 + F : Nat) : Int) (1 + (M : Int)) _ rfl rfl HMX.out) ?_))
            go_roundw
            case rel => exact ⟨k + 1, by omega, by go_num, by first | (rw [HST.out]; done) | (rw [HST.out]; congr 1; omega) | (rw [HST.out]; rfl), HA5.out, HB5.out⟩
            case measure => simp [intOf]; omega
          · obtain rfl : k = ks.length := by omega
            have hlt' : ¬ (ks.length : Int) < ks.length := by omega
            go_wp2_with fail
            go_ret
            refine ⟨?_, HB.out⟩
            rw [HD.out, if_neg (by rintro (h | h); exact h rfl; exact h0 h)]
            show Ending.returned (Value.int .i64 ((1 + F : Nat) : Int)) = .returned (.int .i64 ((1 + ks.foldl (fun g k => max g (depthL l k)) 0 : Nat) : Int))
            rw [HF.out, List.take_length]
    · have h1 : (kd == 2) = false := by simpa using hk
      go_wp2_with (with_reducible refine box_any rfl 24 (.tmp 0) rfl [.string (bs nm), .int .i64 kd, .bool ex, .string (bs dt), .slice ao ks.length cap] rfl ?_; intro u hu bu zu; have c1 := hu.cell 1 _ rfl; have HU := Lib.hid hu; have BU := Lib.hid bu; clear hu bu zu)
      go_ret
      refine ⟨?_, BU.out⟩
      rw [HD.out, if_pos (.inl hk)]; rfl
theorem rDeep_any (h : Nat) (n : Nd) (ao : Option Addr) (cap : Nat) (w : World) (hH : Has any_ w h n ao) :
    Calls Try.prog 37 #[n.v ao cap] w fun e w' => e = .returned (.int .i64 (depthL 14 n : Int)) ∧ Below w.heap.size w w' := by
  have HH := Lib.hid hH
  clear hH
  go_enter Try.func37, Try.ntmps37
  go_wp2_with (first | (with_reducible refine box_any rfl 24 (.tmp 0) rfl (n.cells ao cap) rfl ?_; intro u hu bu zu; have HU := Lib.hid hu; have BU := Lib.hid bu; clear hu bu) | (refine load_any rfl 24 (.tmp 1) rfl ⟨w.heap.size, 0, none⟩ rfl (n.cells ao cap) _ (fun j v hj => by rw [Addr.add0]; exact HU.out.cell j v hj) Try.underlying24 rfl info_nd ?_))
  refine (rdeep_any 14 h n ao cap u (by omega) (by omega) (HH.out.below BU.out)).mono ?_
  rintro e w5 ⟨rfl, b5⟩
  have HB := Lib.hid (BU.out.trans (b5.mono (by omega)))
  clear b5
  go_wp2
  go_ret
  exact ⟨rfl, HB.out⟩
/-- of the first kids -/
def sumN (h v : Nat) (l : List Nd) : Nat := (l.flatMap (nodesL h v)).length
def sumB (h v : Nat) (l : List Nd) : Nat := bytesL (l.flatMap (nodesL h v))
theorem sum_take (h v : Nat) (ks : List Nd) (k : Nat) (m : Nd) (hm : ks[k]? = some m) :
    sumN h v (ks.take (k + 1)) = sumN h v (ks.take k) + (nodesL h v m).length ∧ sumB h v (ks.take (k + 1)) = sumB h v (ks.take k) + bytesL (nodesL h v m) ∧
    sumN h v (ks.take (k + 1)) ≤ sumN h v ks ∧ sumB h v (ks.take (k + 1)) ≤ sumB h v ks := by
  have e := (flat_take (nodesL h v) ks k m hm).2
  have e2 : ks.flatMap (nodesL h v) = (ks.take (k + 1)).flatMap (nodesL h v) ++ (ks.drop (k + 1)).flatMap (nodesL h v) := by
    conv => lhs; rw [← List.take_append_drop (k + 1) ks, List.flatMap_append]
  refine ⟨?_, ?_, ?_, ?_⟩
  · unfold sumN; rw [e, List.length_append]
  · unfold sumB; rw [e, bytesL_app]
  · unfold sumN; rw [e2, List.length_append]; omega
  · unfold sumB; rw [e2, bytesL_app]; omega
theorem nodes_kids {h v : Nat} {n : Nd} (hd : depthL 14 n ≤ 12) : (nodesL (h + 1) v n).length = 1 + sumN h (v + 1) n.kids ∧ bytesL (nodesL (h + 1) v n) = n.data.length + sumB h (v + 1) n.kids := by
  rw [nodesL_succ, if_neg (by omega)]
  refine ⟨by rw [List.length_cons]; unfold sumN; omega, ?_⟩
  unfold sumB bytesL
  rw [List.map_cons, List.sum_cons]
set_option maxHeartbeats 4000000 in
theorem rsize_any : ∀ (h v : Nat) (n : Nd) (ao : Option Addr) (cap : Nat) (w : World), mayL h n = true → depthL 14 n ≤ 12 → Has any_ w h n ao → (nodesL h v n).length ≤ 1000000000000000000 → bytesL (nodesL h v n) ≤ 1000000000000000000 →
    Calls Try.prog 50 #[n.v ao cap] w fun e w' => e = .returned (.tuple #[.int .i64 ((nodesL h v n).length : Int), .int .i64 (bytesL (nodesL h v n) : Int)]) ∧ Below w.heap.size w w' := by
  intro h
  induction h with
  | zero => intro v n ao cap w hm; cases hm
  | succ h ih =>
    intro v n ao cap w hm hd hH hN hB
    have IH := Lib.hid ih
    have HH := Lib.hid hH
    obtain ⟨hn1, hn2⟩ := nodes_kids (h := h) (v := v) hd
    have hkid : ∀ m ∈ n.kids, mayL h m = true ∧ depthL 14 m ≤ 12 := fun m hmm => by
      rcases may_cases hm with ⟨_, h2⟩ | ⟨h1, _, _, h5⟩ | ⟨_, _, h2, _⟩
      · rw [h2] at hmm; cases hmm
      · exact ⟨kidsOk_all h5 m hmm, depth_kid h1 hmm hd⟩
      · rw [h2] at hmm; cases hmm
    rw [hn1] at hN ⊢
    rw [hn2] at hB ⊢
    have HKID := Lib.hid hkid
    have hdl : n.data.length ≤ 1000000000000000000 := by omega
    have HD := Lib.hid hd
    clear ih hH hn1 hn2 hkid hm hd
    cases n with
    | mk nm kd ex dt ks =>
    change dt.length ≤ _ at hdl
    change 1 + sumN h (v + 1) ks ≤ _ at hN
    change dt.length + sumB h (v + 1) ks ≤ _ at hB
    show Calls _ _ _ _ fun e w' => e = .returned (.tuple #[.int .i64 ((1 + sumN h (v + 1) ks : Nat) : Int), .int .i64 ((dt.length + sumB h (v + 1) ks : Nat) : Int)]) ∧ Below w.heap.size w w'
    go_enter Try.func50, Try.ntmps50
    go_wp2_with (first | (with_reducible refine box_any rfl 24 (.tmp 0) rfl [.string (bs nm), .int .i64 kd, .bool ex, .string (bs dt), .slice ao ks.length cap] rfl ?_; intro u hu bu zu; have HU := Lib.hid hu; have BU := Lib.hid bu; clear hu bu) | (refine load_any rfl 24 (.tmp 1) rfl ⟨w.heap.size, 0, none⟩ rfl [.string (bs nm), .int .i64 kd, .bool ex, .string (bs dt), .slice ao ks.length cap] _ (fun j v hj => by rw [Addr.add0]; exact HU.out.cell j v hj) Try.underlying24 rfl info_nd ?_))
    refine (rDeep_any (h + 1) ⟨nm, kd, ex, dt, ks⟩ ao cap u (HH.out.below BU.out)).mono ?_
    rintro e w1 ⟨rfl, b1⟩
    have z1 := b1.size
    have HU1 := Lib.hid (HU.out.below b1 HU.out.lt)
    have HB1 := Lib.hid (BU.out.trans (b1.mono (by omega)))
    have c3 := HU1.out.cell 3 _ rfl
    have hd12 : ¬ (12 : Int) < (depthL 14 ⟨nm, kd, ex, dt, ks⟩ : Int) := by have := HD.out; omega
    generalize (depthL 14 ⟨nm, kd, ex, dt, ks⟩ : Int) = dd at hd12 ⊢
    clear b1 HU BU
    go_wp2_with (first | go_quiet (fail) | go_region)
    clear c3
    have hkl := HH.out.1
    unfold maxLen at hkl
    change ks.length ≤ _ at hkl
    have HKS := Lib.hid HH.out.2
    go_loopw [4, 5, 6] (fun a b i wx => ∃ k : Nat, k ≤ ks.length ∧ a = .int .i64 ((1 + sumN h (v + 1) (ks.take k) : Nat) : Int) ∧ b = .int .i64 ((dt.length + sumB h (v + 1) (ks.take k) : Nat) : Int) ∧ i = .int .i64 k ∧ At wx w.heap.size 24 [.string (bs nm), .int .i64 kd, .bool ex, .string (bs dt), .slice ao ks.length cap] ∧ Below w.heap.size w wx) (fun _ _ i _ => ks.length - (intOf i).toNat)
    case atStart => exact ⟨0, Nat.zero_le _, rfl, rfl, rfl, HU1.out.below (below_drewN _ _) HU1.out.lt, HB1.out.trans ((below_drewN _ _).mono (by omega))⟩
    clear HU1 HB1
    case round =>
      obtain ⟨k, hk, rfl, rfl, rfl, hA, hB⟩ := hrel
      have c4 := hA.cell 4 _ rfl
      have HA := Lib.hid hA
      have HB := Lib.hid hB
      have hwz := hB.size
      clear hA hB
      by_cases hlt : k < ks.length
      · have hlt' : (k : Int) < ks.length := by omega
        obtain ⟨m, hm⟩ : ∃ m, ks[k]? = some m := ⟨_, List.getElem?_eq_getElem hlt⟩
        obtain ⟨x, g, c, rfl, _, hK, hM⟩ := HKS.out k m hm
        obtain ⟨hmm, hmd⟩ := HKID.out m (List.mem_of_getElem? hm)
        obtain ⟨s1, s2, s3, s4⟩ := sum_take h (v + 1) ks k m hm
        have HK := Lib.hid (hK.kept (HB.out.block x.block hK.lt))
        have HM := Lib.hid (hM.below HB.out)
        have HMM := Lib.hid hmm
        have HMD := Lib.hid hmd
        generalize sumN h (v + 1) (ks.take k) = SN at s1 ⊢
        generalize sumB h (v + 1) (ks.take k) = SB at s2 ⊢
        obtain ⟨TN, hTN⟩ : ∃ T, T = sumN h (v + 1) (ks.take (k + 1)) := ⟨_, rfl⟩
        obtain ⟨TB, hTB⟩ : ∃ T, T = sumB h (v + 1) (ks.take (k + 1)) := ⟨_, rfl⟩
        rw [← hTN] at s1 s3
        rw [← hTB] at s2 s4
        have HTN := Lib.hid hTN
        have HTB := Lib.hid hTB
        clear hK hM hm hmm hmd hTN hTB
        go_wp2_with (first | (refine load_any rfl 24 (.tmp 26) rfl (x.add (k * 5)) rfl (m.cells g c) _ (fun j v hj => HK.out j v hj) Try.underlying24 rfl info_nd ?_))
        refine (IH.out (v + 1) m g c wr HMM.out HMD.out HM.out (by omega) (by omega)).mono ?_
        rintro e w5 ⟨rfl, b5⟩
        have HA5 := Lib.hid (HA.out.below b5 HA.out.lt)
        have HB5 := Lib.hid (HB.out.trans (b5.mono hwz))
        generalize (nodesL h (v + 1) m).length = MN at s1 ⊢
        generalize bytesL (nodesL h (v + 1) m) = MB at s2 ⊢
        clear b5 HA HB HK HM HMM HMD
        go_wp2_with fail
        go_roundw
        case rel => exact ⟨k + 1, by omega, by rw [← HTN.out]; go_num, by rw [← HTB.out]; go_num, by go_num, HA5.out, HB5.out⟩
        case measure => simp [intOf] <;> omega
      · obtain rfl : k = ks.length := by omega
        have hlt' : ¬ (ks.length : Int) < ks.length := by omega
        rw [List.take_length]
        go_wp2_with fail
        go_ret2
        exact ⟨rfl, HB.out⟩
end Go.Proofs.Ytdpeblchndfdaaa
