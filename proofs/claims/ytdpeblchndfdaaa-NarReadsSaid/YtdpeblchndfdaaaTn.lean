/- The nodes told one by one. -/
import Derived.Test.YtdpeblchndfdaaaTm
namespace Go.Proofs.Ytdpeblchndfdaaa
open Go.RowKit Go.Shelf
attribute [local go_sem] Oper.semAt_some
set_option maxRecDepth 100000
/-- the blocks of cells that are S lie as they lay -/
structure KC (S : Nat → Prop) (W W' : World) : Prop where
  size : W.heap.size ≤ W'.heap.size
  same : ∀ k o, W.heap[k]? = some o → o.isCells = true → S k → W'.heap[k]? = some o
theorem KC.refl (S : Nat → Prop) (W : World) : KC S W W := ⟨Nat.le_refl _, fun _ _ h _ _ => h⟩
theorem KC.trans {S : Nat → Prop} {U V W : World} (h : KC S U V) (k : KC S V W) : KC S U W := ⟨Nat.le_trans h.size k.size, fun i o hi ho hs => k.same i o (h.same i o hi ho hs) ho hs⟩
theorem KC.below {S : Nat → Prop} {W W' : World} (b : Below W.heap.size W W') : KC S W W' := ⟨b.size, fun k _ h _ _ => (b.block k (Array.getElem?_eq_some_iff.1 h).1).trans h⟩
theorem At.kc {S : Nat → Prop} {W W' : World} {B : Nat} {T : TypeId} {l : List Value} (h : At W B T l) (k : KC S W W') (hS : S B) : At W' B T l := k.same B _ h rfl hS
theorem cell_kc {S : Nat → Prop} {W W' : World} {a : Addr} {v : Value} (h : W.cell? a = some v) (k : KC S W W') (hS : S a.block) : W'.cell? a = some v := by
  obtain ⟨o, ho, hc⟩ := cells_of_cell h
  rw [← h]
  exact World.cell?_of_block (w := W) ((k.same _ _ ho hc hS).trans ho.symm)
theorem Has.kc {S : Nat → Prop} {W W' : World} (k : KC S W W') : ∀ (h : Nat) (n : Nd) (ao : Option Addr), Has S W h n ao → Has S W' h n ao
  | 0, _, _, h => h.elim
  | h + 1, n, ao, ⟨h1, h2⟩ => ⟨h1, fun i m hm => by
    obtain ⟨a, g, c, e, hs, hK, hH⟩ := h2 i m hm
    exact ⟨a, g, c, e, hs, fun j v hj => cell_kc (hK j v hj) k (by rw [add_block, add_block]; exact hs), Has.kc k h m g hH⟩⟩
/-- what is told of each: its level, and itself -/
abbrev El := Nat × Tri
def El.enc (x : El) : Array Value := #[.int .i64 (x.1 : Int), x.2.1.v x.2.2.1 x.2.2.2]
def El.nd (x : El) : Nat × Nd := (x.1, x.2.1)
/-- a node, and all that it has, each with its level -/
def nodesL : Nat → Nat → Nd → List (Nat × Nd)
  | 0, _, _ => []
  | h + 1, lvl, n => if 12 < depthL 14 n then [] else (lvl, n) :: n.kids.flatMap (nodesL h (lvl + 1))
def tellV (B2 B3 : Nat) : Value := .func (.func 75) #[] #[.pointer (some ⟨B2, 0, none⟩), .pointer (some ⟨B3, 0, none⟩)]
theorem flat_take {α β : Type} (f : α → List β) (l : List α) (k : Nat) (x : α) (hx : l[k]? = some x) : ((l.take k).flatMap f).length + (f x).length ≤ (l.flatMap f).length ∧ (l.take (k + 1)).flatMap f = (l.take k).flatMap f ++ f x := by
  have e : (l.take (k + 1)).flatMap f = (l.take k).flatMap f ++ f x := by rw [List.take_add_one, hx, Option.toList_some, List.flatMap_append]; simp
  refine ⟨?_, e⟩
  conv => rhs; rw [← List.take_append_drop (k + 1) l, List.flatMap_append, e]
  simp only [List.length_append]
  omega
set_option maxHeartbeats 8000000 in
theorem tell_in (n : Nat) (hn : 1 ≤ n) (y B2 B3 N base : Nat) (S : Nat → Prop) (hS : ∀ i, base ≤ i → S i) (J Jx : List El → World → Prop) (Gn : Nat × Nd → Prop)
    (hJa : ∀ s A B row, J s A → A.grownBy B row → (∀ r, row = some r → base ≤ r ∧ ∃ o : Obj, A.heap[r]? = some o ∧ o.isWalk = true) → J s B)
    (hY : ∀ pre x W1, Gn x.nd → J pre W1 → pre.length < N → YieldAt Fence.wide (n - 1) Try.prog y (El.enc x) W1 fun e W' =>
      (e = .returned (.bool true) ∧ J (pre ++ [x]) W' ∧ KC S W1 W') ∨ (e = .returned (.bool false) ∧ Jx (pre ++ [x]) W')) :
    ∀ (h lvl : Nat) (t : Tri) (pre : List El) (W : World), lvl + h ≤ 100000 → Has S W h t.1 t.2.1 → At W B2 97 [.func (.yield y) #[] #[]] → At W B3 97 [tellV B2 B3] → S B2 → S B3 → base ≤ W.heap.size →
      J pre W → pre.length + (nodesL h lvl t.1).length ≤ N → (∀ p ∈ nodesL h lvl t.1, Gn p) →
      CallsIn Fence.wide n Try.prog 75 #[.int .i64 (lvl : Int), t.1.v t.2.1 t.2.2, .pointer (some ⟨B2, 0, none⟩), .pointer (some ⟨B3, 0, none⟩)] W fun e W' =>
        (e = .returned (.bool true) ∧ ∃ ys : List El, ys.map El.nd = nodesL h lvl t.1 ∧ J (pre ++ ys) W' ∧ KC S W W') ∨ (e = .returned (.bool false) ∧ ∃ ys : List El, Jx (pre ++ ys) W') := by
  intro h
  induction h with
  | zero => intro lvl t pre W _ hH; exact hH.elim
  | succ h ih =>
    intro lvl t pre W hlv hH h2 h3 s2 s3 hbz hJ hN hG
    obtain ⟨m, ao, cap⟩ := t
    have HJA := Lib.hid hJa
    have HY := Lib.hid hY
    have IH := Lib.hid ih
    have HH := Lib.hid hH
    have HS := Lib.hid hS
    have H2 := Lib.hid h2
    have H3 := Lib.hid h3
    have HJ := Lib.hid hJ
    have HN := Lib.hid hN
    have HG := Lib.hid hG
    clear hJa hY ih hH hS h2 h3 hJ hN hG
    refine callsIn_of_wp Try.func75 rfl trivial ?_ rfl
    simp only [Try.ntmps75, List.size_toArray, List.length_cons, List.length_nil, Nat.reduceAdd, Nat.reduceSub, Array.replicate_succ, Array.replicate_zero, List.push_toArray, List.append_toArray, List.nil_append, List.cons_append]
    obtain ⟨D, hD⟩ : ∃ D, D = depthL 14 m := ⟨_, rfl⟩
    by_cases hd : 12 < D
    · have hd' : (12 : Int) < D := by omega
      have hnl : nodesL (h + 1) lvl m = [] := by unfold nodesL; rw [← hD, if_pos hd]
      have HNL := Lib.hid hnl
      have HD := Lib.hid hD
      clear hnl hD
      gi_wp2_with (first
        | (with_reducible refine box_in rfl 24 (.tmp 1) rfl (m.cells ao cap) rfl ?_; intro u hu bu zu; have HU := Lib.hid hu; have BU := Lib.hid bu; clear hu bu)
        | (refine load_in rfl 24 (.tmp 5) rfl ⟨W.heap.size, 0, none⟩ rfl (m.cells ao cap) _ (fun j v hj => by rw [Addr.add0]; exact HU.out.cell j v hj) Try.underlying24 rfl info_nd ?_)
        | (refine ⟨trivial, ?_⟩; gi_at_call 38; refine (callsIn_wide.2 (deep_any (h + 1) m ao cap u ((HH.out.any).below BU.out))).mono ?_; rintro e w2 ⟨rfl, b2⟩; rw [← HD.out]; have B2' := Lib.hid (BU.out.trans (b2.mono (by omega))); clear b2))
      go_ret
      refine .inl ⟨rfl, [], ?_, ?_, KC.below B2'.out⟩
      · show [] = nodesL (h + 1) lvl m; rw [HNL.out]
      · rw [List.append_nil]
        exact HJA.out _ _ _ none HJ.out ⟨B2'.out.os, B2'.out.tape, B2'.out.output, B2'.out.size, fun i hi _ => B2'.out.block i hi⟩ (by simp)
    · have hd' : ¬ (12 : Int) < D := by omega
      have hnl : nodesL (h + 1) lvl m = (lvl, m) :: m.kids.flatMap (nodesL h (lvl + 1)) := by
        conv => lhs; unfold nodesL
        rw [← hD, if_neg hd]
      have hN2 := HN.out
      change pre.length + (nodesL (h + 1) lvl m).length ≤ N at hN2
      rw [hnl, List.length_cons] at hN2
      have HNL := Lib.hid hnl
      have HD := Lib.hid hD
      clear hnl hD
      gi_wp2_with (first
        | (with_reducible refine box_in rfl 24 (.tmp 1) rfl (m.cells ao cap) rfl ?_; intro u hu bu zu; have HU := Lib.hid hu; have BU := Lib.hid bu; clear hu bu)
        | (refine load_in rfl 24 (.tmp 5) rfl ⟨W.heap.size, 0, none⟩ rfl (m.cells ao cap) _ (fun j v hj => by rw [Addr.add0]; exact HU.out.cell j v hj) Try.underlying24 rfl info_nd ?_)
        | (refine load_in rfl 24 (.tmp 5) rfl ⟨W.heap.size, 0, none⟩ rfl (m.cells ao cap) _ (fun j v hj => by rw [Addr.add0]; exact HU2.out.cell j v hj) Try.underlying24 rfl info_nd ?_)
        | (refine ⟨trivial, ?_⟩; gi_at_call 38; refine (callsIn_wide.2 (deep_any (h + 1) m ao cap u ((HH.out.any).below BU.out))).mono ?_; rintro e w2 ⟨rfl, b2⟩; rw [← HD.out]; have B2' := Lib.hid (BU.out.trans (b2.mono (by omega))); have HU2 := Lib.hid (HU.out.below b2 HU.out.lt); have c2 := (H2.out.below B2'.out H2.out.lt).cell 0 _ rfl; obtain ⟨fn, tmps, assign, body, hy0, hR⟩ := HY.out pre (lvl, m, ao, cap) w2 (HG.out (lvl, m) (by rw [HNL.out]; exact List.mem_cons_self ..)) (HJA.out _ _ _ none HJ.out ⟨B2'.out.os, B2'.out.tape, B2'.out.output, B2'.out.size, fun i hi _ => B2'.out.block i hi⟩ (by simp)) (by omega); have hy : (Instr.yield y #[.int .i64 (lvl : Int), .agg (m.cells ao cap).toArray]).run Try.prog w2 = .ok (.round y fn tmps assign body) w2 := hy0; clear hy0 b2))
      refine hR.mono ?_
      rintro e W3 (⟨rfl, hJ3, hk3⟩ | ⟨rfl, hJx3⟩)
      · have hkW : KC S W W3 := (KC.below B2'.out).trans hk3
        have a5 := HU2.out.kc hk3 (HS.out _ hbz)
        have c4 := a5.cell 4 _ rfl
        have HJ3 := Lib.hid hJ3
        have HK3 := Lib.hid hkW
        have H33 := Lib.hid (H3.out.kc hkW s3)
        have H23 := Lib.hid (H2.out.kc hkW s2)
        have HH3 := Lib.hid (Has.kc hkW (h + 1) m ao HH.out)
        have hml := HH.out.1
        unfold maxLen at hml
        change m.kids.length ≤ _ at hml
        have z3 := hkW.size
        clear hJ3 hk3 hkW a5 hR hy c2 HU HU2 BU
        gi_wp2
        gi_loopw [20] (fun i wx => ∃ (k : Nat) (ys : List El), k ≤ m.kids.length ∧ i = .int .i64 k ∧ ys.map El.nd = (lvl, m) :: (m.kids.take k).flatMap (nodesL h (lvl + 1)) ∧ J (pre ++ ys) wx ∧ KC S W3 wx) (fun i _ => m.kids.length - (intOf i).toNat)
        case atStart => exact ⟨0, [(lvl, m, ao, cap)], Nat.zero_le _, rfl, rfl, HJ3.out, KC.refl _ _⟩
        clear HJ3 c4
        case round =>
          obtain ⟨k, ys, hk, rfl, hys, hJ, hK⟩ := hrel
          have HYS := Lib.hid hys
          have HJ := Lib.hid hJ
          have HK := Lib.hid hK
          have zw := hK.size
          clear hys hJ hK
          by_cases hlt : k < m.kids.length
          · have hlt' : (k : Int) < m.kids.length := by omega
            obtain ⟨m2, hm2⟩ : ∃ m2, m.kids[k]? = some m2 := ⟨_, List.getElem?_eq_getElem hlt⟩
            obtain ⟨x, g, c, rfl, hSx, hKd, hM⟩ := (Has.kc HK.out (h + 1) m ao HH3.out).2 k m2 hm2
            obtain ⟨hf1, hf2⟩ := flat_take (nodesL h (lvl + 1)) m.kids k m2 hm2
            have hyl : ys.length = 1 + ((m.kids.take k).flatMap (nodesL h (lvl + 1))).length := by have := congrArg List.length HYS.out; rw [List.length_map, List.length_cons] at this; omega
            have cB3 := (H33.out.kc HK.out s3).cell 0 _ rfl
            unfold tellV at cB3
            have HKd := Lib.hid hKd
            have HM := Lib.hid hM
            have HF2 := Lib.hid hf2
            have HMEM := Lib.hid (List.mem_of_getElem? hm2)
            clear hKd hM hm2 hf2
            gi_wp2_with (first
              | (refine load_in rfl 24 (.tmp 22) rfl (x.add (k * 5)) rfl (m2.cells g c) _ (fun j v hj => HKd.out j v hj) Try.underlying24 rfl info_nd ?_)
              | (with_reducible refine alloc_in rfl 24 rfl _ zero_nd ?_; intro u2 hu2 bu2 zu2; have HU2 := Lib.hid hu2; clear hu2)
              | (refine store_in rfl 24 (.tmp 8) (.tmp 23) rfl wr.heap.size rfl (m2.cells g c) rfl _ HU2.out rfl info_nd (nd_one m2 g c) ?_; intro u3 hu3 tu3; have HU3 := Lib.hid hu3; have BU3 := Lib.hid (Touch.below bu2 tu3 (by simp) (Nat.le_refl _)); have cB3 := ((H33.out.kc HK.out s3).below BU3.out (H33.out.kc HK.out s3).lt).cell 0 _ rfl; unfold tellV at cB3; clear hu3 tu3 bu2 zu2)
              | (refine load_in rfl 24 (.tmp 8) rfl ⟨wr.heap.size, 0, none⟩ rfl (m2.cells g c) _ (fun j v hj => by rw [Addr.add0]; exact HU3.out.cell j v hj) Try.underlying24 rfl info_nd ?_))
            refine ⟨trivial, ?_⟩
            have e1 : (lvl : Int) + 1 = ((lvl + 1 : Nat) : Int) := by omega
            rw [e1]
            have hkU : KC S W3 u3 := HK.out.trans (KC.below BU3.out)
            have hJu : J (pre ++ ys) u3 := HJA.out _ _ _ none HJ.out ⟨BU3.out.os, BU3.out.tape, BU3.out.output, BU3.out.size, fun i hi _ => BU3.out.block i hi⟩ (by simp)
            have z6 := BU3.out.size
            refine (callsIn_wide.2 (callsIn_wide.1 (IH.out (lvl + 1) (m2, g, c) (pre ++ ys) u3 (by omega) (Has.kc (KC.below BU3.out) h m2 g HM.out) (H23.out.kc hkU s2) (H33.out.kc hkU s3) s2 s3 (by omega) hJu (by rw [List.length_append, hyl]; simp only []; omega) (fun p hp => HG.out p (by rw [HNL.out]; exact List.mem_cons_of_mem _ (List.mem_flatMap.mpr ⟨m2, HMEM.out, hp⟩)))))).mono ?_
            have HKU := Lib.hid hkU
            clear hkU hJu HU2 HU3 HKd HM e1
            rintro e w6 (⟨rfl, zs, hzs, hJ6, hk6⟩ | ⟨rfl, zs, hJx6⟩)
            · have HZS := Lib.hid hzs
              have HJ6 := Lib.hid hJ6
              have HK6 := Lib.hid hk6
              clear hzs hJ6 hk6 cB3
              gi_wp2
              go_roundw
              case rel => exact ⟨k + 1, ys ++ zs, by omega, by go_num, by rw [List.map_append, HYS.out, HZS.out, HF2.out]; rfl, by rw [← List.append_assoc]; exact HJ6.out, HKU.out.trans HK6.out⟩
              case measure => simp [intOf]; omega
            · have HJ6 := Lib.hid hJx6
              clear hJx6 cB3
              gi_wp2
              go_ret
              exact .inr ⟨rfl, ys ++ zs, by rw [← List.append_assoc]; exact HJ6.out⟩
          · obtain rfl : k = m.kids.length := by omega
            gi_wp2
            go_ret
            refine .inl ⟨rfl, ys, ?_, HJ.out, HK3.out.trans HK.out⟩
            show ys.map El.nd = nodesL (h + 1) lvl m
            rw [HYS.out, List.take_length, HNL.out]
      · gi_wp2
        go_ret
        exact .inr ⟨rfl, [(lvl, m, ao, cap)], hJx3⟩
end Go.Proofs.Ytdpeblchndfdaaa
