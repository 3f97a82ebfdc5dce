/- The document's answer: the eight words behind a block. -/
import Derived.Test.YtffpmdgchpcaaaaRa
import Derived.Test.YtffpmdgchpcaaaaSc
import Derived.Deep.RegionHeld3
import Derived.StillTailTactics
namespace Go.Proofs.Ytffpmdgchpcaaaa
open Go.RowKit
attribute [local go_sem] bs_size

/-- the blocks of the document's 'block', while it goes on -/
structure Hold (w wx : World) (n0 : Nat) (S K W : List Value) : Prop where
  s : At wx n0 42 S
  k : At wx (n0 + 1) 44 K
  r : At wx (n0 + 1 + 1) 42 (List.replicate 8 (.int .u32 0))
  x : At wx (n0 + 1 + 1 + 1) 44 W
  b : Below n0 w wx
theorem Hold.drewN {w wx : World} {n0 : Nat} {S K W : List Value} (h : Hold w wx n0 S K W) (q : Nat) : Hold w (wx.drewN q) n0 S K W :=
  ⟨h.s.drewN q, h.k.drewN q, h.r.drewN q, h.x.drewN q, below_drewN' h.b q⟩
theorem Hold.drew {w wx : World} {n0 : Nat} {S K W : List Value} (h : Hold w wx n0 S K W) : Hold w wx.drew n0 S K W :=
  ⟨h.s.drew, h.k.drew, h.r.drew, h.x.drew, h.b.drew⟩
theorem Hold.setX {w wx : World} {n0 : Nat} {S K W : List Value} (h : Hold w wx n0 S K W) (i : Nat) (v : Value) : Hold w (wx.setCell ⟨n0 + 1 + 1 + 1, i, none⟩ v) n0 S K (W.set i v) :=
  ⟨h.s.setCell_ne _ _ (by simp; omega), h.k.setCell_ne _ _ (by simp), h.r.setCell_ne _ _ (by simp), h.x.setCell i v, h.b.setCell (p := ⟨_, _, none⟩) (by simp; omega) _⟩

/-- and the copy of the eight words -/
structure Hold2 (w wx : World) (n0 n8 : Nat) (S K W N : List Value) : Prop where
  h : Hold w wx n0 S K W
  n : At wx n8 42 N
theorem Hold2.drewN {w wx : World} {n0 n8 : Nat} {S K W N : List Value} (h : Hold2 w wx n0 n8 S K W N) (q : Nat) : Hold2 w (wx.drewN q) n0 n8 S K W N := ⟨h.h.drewN q, h.n.drewN q⟩
theorem Hold2.setN {w wx : World} {n0 n8 : Nat} {S K W N : List Value} (h : Hold2 w wx n0 n8 S K W N) (h8 : n0 + 3 < n8) (c : List Value) : Hold2 w (wx.setRow n8 c.toArray) n0 n8 S K W c :=
  ⟨⟨h.h.s.setRow_ne _ (by omega), h.h.k.setRow_ne _ (by omega), h.h.r.setRow_ne _ (by omega), h.h.x.setRow_ne _ (by omega), below_setRow' h.h.b _ (by omega) _⟩, h.n.setRow' c⟩
theorem Hold2.setS {w wx : World} {n0 n8 : Nat} {S K W N : List Value} (h : Hold2 w wx n0 n8 S K W N) (h8 : n0 + 3 < n8) (i : Nat) (v : Value) : Hold2 w (wx.setCell ⟨n0, i, none⟩ v) n0 n8 (S.set i v) K W N :=
  ⟨⟨h.h.s.setCell i v, h.h.k.setCell_ne _ _ (by simp), h.h.r.setCell_ne _ _ (by simp; omega), h.h.x.setCell_ne _ _ (by simp; omega), h.h.b.setCell (p := ⟨_, _, none⟩) (by simp) _⟩, h.n.setCell_ne _ _ (by simp; omega)⟩
theorem zx' (x : Wd) : (0 : Wd) ^^^ x = x := BitVec.zero_xor
theorem sgA_eq (x : Wd) : sgA x = rot 7 x ^^^ rot 18 x ^^^ x >>> 3 := by
  show turn [7, 18] x ^^^ x >>> 3 = _
  unfold turn
  simp only [List.foldl_cons, List.foldl_nil, zx']
theorem sgB_eq (x : Wd) : sgB x = rot 17 x ^^^ rot 19 x ^^^ x >>> 10 := by
  show turn [17, 19] x ^^^ x >>> 10 = _
  unfold turn
  simp only [List.foldl_cons, List.foldl_nil, zx']
theorem bigE_eq (x : Wd) : bigE x = rot 6 x ^^^ rot 11 x ^^^ rot 25 x := by
  show turn [6, 11, 25] x = _
  unfold turn
  simp only [List.foldl_cons, List.foldl_nil, zx']
theorem bigA_eq (x : Wd) : bigA x = rot 2 x ^^^ rot 13 x ^^^ rot 22 x := by
  show turn [2, 13, 22] x = _
  unfold turn
  simp only [List.foldl_cons, List.foldl_nil, zx']
/-- how far the 64 words are laid: i of them -/
def laid (l : List UInt8) (i : Nat) : List Wd := if i ≤ 16 then first l i else grow (first l 16) (i - 16)
theorem laid_len (l : List UInt8) (i : Nat) : (laid l i).length = i := by
  unfold laid
  split
  · exact first_len l i
  · rw [grow_len, first_len]; omega
theorem laid_low (l : List UInt8) (i : Nat) (h : i < 16) : laid l (i + 1) = laid l i ++ [word4 l i] := by
  unfold laid
  rw [if_pos (by omega), if_pos (by omega), first_succ]
theorem laid_high (l : List UInt8) (i : Nat) (h : 16 ≤ i) : laid l (i + 1) = laid l i ++ [next (laid l i)] := by
  have e : laid l i = grow (first l 16) (i - 16) := by
    unfold laid
    split
    · obtain rfl : i = 16 := by omega
      rfl
    · rfl
  rw [e]
  unfold laid
  rw [if_neg (by omega), show i + 1 - 16 = (i - 16) + 1 by omega]
  rfl
theorem laid_all (l : List UInt8) : laid l 64 = sched l := rfl

set_option maxRecDepth 100000 in
set_option maxHeartbeats 20000000 in
theorem block_any (st ks : List Wd) (l : List UInt8) (w : World) (hst : st.length = 8) (hl : l.length = 64) (hks : ks.length = 64) :
    Calls Try.prog 49 #[.agg (st.map wv).toArray, .string (bs l), .agg (ks.map wv).toArray] w fun e w' => e = .returned (.agg ((comp ks (sched l) st).map wv).toArray) ∧ Below w.heap.size w w' := by
  have cst : ((st.map wv).toArray).size = 8 := by simp [hst]
  have cks : ((ks.map wv).toArray).size = 64 := by simp [hks]
  generalize hS : (st.map wv).toArray = S at *
  generalize hK : (ks.map wv).toArray = K at *
  have HS := Lib.hid hS
  have HK := Lib.hid hK
  clear hS hK
  go_enter Try.func49, Try.ntmps49
  go_wp2_with fail
  obtain ⟨n0, hn0⟩ : ∃ n0, n0 = w.heap.size := ⟨_, rfl⟩
  rw [← hn0]
  generalize hv1 : w.alloc (Obj.cells S 42) = v1
  generalize hv2 : v1.alloc (Obj.cells K 44) = v2
  generalize hv3 : v2.alloc _ = v3
  generalize hv4 : v3.alloc _ = v4
  have z1 := size_step hn0.symm hv1
  have z2 := size_step z1 hv2
  have z3 := size_step z2 hv3
  have z4 := size_step z3 hv4
  have aS := (((At.made hn0.symm hv1).step hv2).step hv3).step hv4
  have aK := ((At.made z1 hv2).step hv3).step hv4
  have aR := (At.made z2 hv3).step hv4
  have aX := At.made z3 hv4
  have bB := below_step (below_step (below_step (below_step (Below.refl n0 w) (by omega) hv1) (by omega) hv2) (by omega) hv3) (by omega) hv4
  clear hv1 hv2 hv3 hv4 z1 z2 z3
  rw [← HS.out, List.toList_toArray] at aS
  rw [← HK.out, List.toList_toArray] at aK
  have hH : Hold w v4 n0 (st.map wv) (ks.map wv) (part []) := ⟨aS, aK, aR, aX, bB⟩
  have HH := Lib.hid hH
  have HN := Lib.hid hn0
  have HZ := Lib.hid z4
  clear aS aK aR aX bB hH hn0 z4
  go_loopw [8] (fun s wx => ∃ i : Nat, i ≤ 64 ∧ s = .int .i64 i ∧ Hold w wx n0 (st.map wv) (ks.map wv) (part (laid l i))) (fun s _ => 64 - (intOf s).toNat)
  case atStart => exact ⟨0, by omega, rfl, HH.out⟩
  case round =>
    obtain ⟨i, hi, rfl, hH⟩ := hrel
    have HH := Lib.hid hH
    clear hH
    have hln := laid_len l i
    by_cases hlt : i < 16
    · have HG := Lib.hid (laid_low l i hlt)
      have hp := HH.out.x.cell i _ (by have := part_hole (laid l i) (by omega); rwa [hln] at this)
      have hf := HH.out.x.frozen i
      obtain ⟨d0, hd0⟩ : ∃ d, d = l[4 * i]?.getD 0 := ⟨_, rfl⟩
      obtain ⟨d1, hd1⟩ : ∃ d, d = l[4 * i + 1]?.getD 0 := ⟨_, rfl⟩
      obtain ⟨d2, hd2⟩ : ∃ d, d = l[4 * i + 2]?.getD 0 := ⟨_, rfl⟩
      obtain ⟨d3, hd3⟩ : ∃ d, d = l[4 * i + 3]?.getD 0 := ⟨_, rfl⟩
      have hw4 : word4 l i = up d0 <<< 24 ||| up d1 <<< 16 ||| up d2 <<< 8 ||| up d3 := by rw [hd0, hd1, hd2, hd3]; rfl
      have g0 : ∀ h, (bs l)[4 * i]'h = d0 := fun h => by rw [bs_size] at h; rw [hd0, List.getElem?_eq_getElem h]; rfl
      have g1 : ∀ h, (bs l)[4 * i + 1]'h = d1 := fun h => by rw [bs_size] at h; rw [hd1, List.getElem?_eq_getElem h]; rfl
      have g2 : ∀ h, (bs l)[4 * i + 2]'h = d2 := fun h => by rw [bs_size] at h; rw [hd2, List.getElem?_eq_getElem h]; rfl
      have g3 : ∀ h, (bs l)[4 * i + 3]'h = d3 := fun h => by rw [bs_size] at h; rw [hd3, List.getElem?_eq_getElem h]; rfl
      have HW := Lib.hid hw4
      clear hd0 hd1 hd2 hd3 hw4
      have e1 : (i : Int) < 16 := by omega
      have e2 : (i : Int) < 64 := by omega
      have q0 : 4 * i < 64 := by omega
      have q1 : 4 * i + 1 < 64 := by omega
      have q2 : 4 * i + 2 < 64 := by omega
      have q3 : 4 * i + 3 < 64 := by omega
      have k0 : IntKind.i64.wrap (4 * (i : Int)) = 4 * (i : Int) := by rw [IntKind.wrap_i64]; omega
      have k1 : IntKind.i64.wrap (4 * (i : Int) + 1) = 4 * (i : Int) + 1 := by rw [IntKind.wrap_i64]; omega
      have k2 : IntKind.i64.wrap (4 * (i : Int) + 2) = 4 * (i : Int) + 2 := by rw [IntKind.wrap_i64]; omega
      have k3 : IntKind.i64.wrap (4 * (i : Int) + 3) = 4 * (i : Int) + 3 := by rw [IntKind.wrap_i64]; omega
      have n0' : 0 ≤ 4 * (i : Int) := by omega
      have n1 : 0 ≤ 4 * (i : Int) + 1 := by omega
      have n2 : 0 ≤ 4 * (i : Int) + 2 := by omega
      have n3 : 0 ≤ 4 * (i : Int) + 3 := by omega
      have t0 : (4 * (i : Int)).toNat = 4 * i := by omega
      have t1 : (4 * (i : Int) + 1).toNat = 4 * i + 1 := by omega
      have t2 : (4 * (i : Int) + 2).toNat = 4 * i + 2 := by omega
      have t3 : (4 * (i : Int) + 3).toNat = 4 * i + 3 := by omega
      have e3 : 4 * (i : Int) < 64 := by omega
      have e4 : 4 * (i : Int) + 1 < 64 := by omega
      have e5 : 4 * (i : Int) + 2 < 64 := by omega
      have e6 : 4 * (i : Int) + 3 < 64 := by omega
      go_wp2
      go_still_tail 31, (by kernel_rfl)
      change wpList _ _ _ _ _ wr.drew
      go_wp2
      go_roundw
      case rel =>
        refine ⟨i + 1, by omega, by go_num, ?_⟩
        have h := HH.out.drew.setX i (wv (word4 l i))
        have hs := part_set (laid l i) (word4 l i) (by omega)
        rw [hln] at hs
        rw [hs, ← HG.out, HW.out] at h
        exact h
      case measure => simp [intOf]; omega
    · by_cases hlt2 : i < 64
      · have HG := Lib.hid (laid_high l i (by omega))
        have hp := HH.out.x.cell i _ (by have := part_hole (laid l i) (by omega); rwa [hln] at this)
        have hf := HH.out.x.frozen i
        have hps := part_set (laid l i) (next (laid l i)) (by omega)
        have hnx : next (laid l i) = (laid l i)[i - 16]?.getD 0 + sgA ((laid l i)[i - 15]?.getD 0) + (laid l i)[i - 7]?.getD 0 + sgB ((laid l i)[i - 2]?.getD 0) := by
          unfold next; rw [hln]
        rw [hln] at hps
        have c15 := HH.out.x.cell (i - 15) _ (part_get (laid l i) _ (by omega))
        have c2 := HH.out.x.cell (i - 2) _ (part_get (laid l i) _ (by omega))
        have c16 := HH.out.x.cell (i - 16) _ (part_get (laid l i) _ (by omega))
        have c7 := HH.out.x.cell (i - 7) _ (part_get (laid l i) _ (by omega))
        generalize (laid l i)[i - 15]?.getD 0 = x15 at *
        generalize (laid l i)[i - 2]?.getD 0 = x2 at *
        generalize (laid l i)[i - 16]?.getD 0 = x16 at *
        generalize (laid l i)[i - 7]?.getD 0 = x7 at *
        have HX := Lib.hid hnx
        have HPS := Lib.hid hps
        clear hnx hps
        have hge : ¬ ((i : Int) < 16) := by omega
        have a1 : 0 ≤ (i:Int) - 15 := by omega
        have a2 : (i:Int) - 15 < 64 := by omega
        have a3 : 0 ≤ (i:Int) - 2 := by omega
        have a4 : (i:Int) - 2 < 64 := by omega
        have a9 : (i:Int) < 64 := by omega
        have b16 : IntKind.i64.wrap ((i:Int) - 16) = ((i - 16 : Nat) : Int) := by rw [IntKind.wrap_i64]; omega
        have b7 : IntKind.i64.wrap ((i:Int) - 7) = ((i - 7 : Nat) : Int) := by rw [IntKind.wrap_i64]; omega
        have d1 : ((i - 16 : Nat) : Int) < 64 := by omega
        have d2 : ((i - 7 : Nat) : Int) < 64 := by omega
        have u16 : i - 16 ≠ i := by omega
        have u7 : i - 7 ≠ i := by omega
        have ne16 : (⟨n0 + 1 + 1 + 1, i, none⟩ : Addr) ≠ ⟨n0 + 1 + 1 + 1, i - 16, none⟩ := fun e => by have := congrArg Addr.off e; simp at this; omega
        have ne7 : (⟨n0 + 1 + 1 + 1, i, none⟩ : Addr) ≠ ⟨n0 + 1 + 1 + 1, i - 7, none⟩ := fun e => by have := congrArg Addr.off e; simp at this; omega
        have NE16 := Lib.hid ne16
        have NE7 := Lib.hid ne7
        clear ne16 ne7
        go_wp2
        go_quiet (fail)
        go_wp2
        go_region_held3 (fun w' => w'.cell? ⟨n0 + 1 + 1 + 1, i - 16, none⟩ = some (.int .u32 (wi x16)) ∧ w'.cell? ⟨n0 + 1 + 1 + 1, i - 7, none⟩ = some (.int .u32 (wi x7))) (first | exact ⟨by simp [c16], by simp [c7]⟩ | exact ⟨(World.cell?_setCell_other (h := NE16.out) ..).trans (by simp [c16]), (World.cell?_setCell_other (h := NE7.out) ..).trans (by simp [c7])⟩) (first | (go_at_call 64; refine (refTurned_any _ _ _ (by decide) (by decide)).mono ?_; rintro e w3 ⟨rfl, rfl⟩))
        go_wp2
        go_roundw
        case rel =>
          refine ⟨i + 1, by omega, by go_num, ?_⟩
          have h := (HH.out.drewN (nq + 1 + 1 + 1 + 1 + 1)).setX i (wv (next (laid l i)))
          rw [HPS.out, ← HG.out, HX.out, sgA_eq, sgB_eq] at h
          exact h
        case measure => simp [intOf]; omega
      · obtain rfl : i = 64 := by omega
        rw [laid_all, part_full _ (sched_len l)] at HH
        have hsl := sched_len l
        have hcomp : comp ks (sched l) st = List.zipWith (· + ·) st (rnds ks (sched l) st 64) := rfl
        have HC := Lib.hid hcomp
        clear hcomp hln hlt hlt2
        generalize hws : sched l = ws at *
        have HWS := Lib.hid hws
        clear hws
        have hi31 : (Try.prog.info? 42).map (·.size) = some (st.map wv).length := by rw [List.length_map, hst]; kernel_rfl
        have hi31' : (Try.prog.info? 42).map (·.size) = some (st.map wv).toArray.size := by rw [List.size_toArray]; exact hi31
        have hx3 := HH.out.x.lt
        have H8 : ∀ c : Array Value, c.size = 8 → Hold2 w ((wr.alloc (.cells c 42)).setRow wr.heap.size (st.map wv).toArray) n0 wr.heap.size (st.map wv) (ks.map wv) (ws.map wv) (st.map wv) := fun c hc =>
          Hold2.setN (N := c.toList) ⟨⟨HH.out.s.alloc _, HH.out.k.alloc _, HH.out.r.alloc _, HH.out.x.alloc _, HH.out.b.alloc (by omega) _⟩, At.new _ _ _⟩ (by omega) _
        have H8 := Lib.hid H8
        go_wp2_with (first | (refine load_at rfl 42 _ rfl _ rfl _ _ HH.out.s Try.underlying42 rfl hi31 ?_) | (refine store_at rfl 42 _ _ rfl _ _ rfl rfl _ (At.new _ _ _) hi31' (by simp [hst]) (all_oneCell_toArray (wv_one _)) ?_))
        have h9 := H8.out _ (show (#[.int .u32 0, .int .u32 0, .int .u32 0, .int .u32 0, .int .u32 0, .int .u32 0, .int .u32 0, .int .u32 0] : Array Value).size = 8 from rfl)
        clear H8
        obtain ⟨n8, hn8⟩ : ∃ n8, n8 = wr.heap.size := ⟨_, rfl⟩
        rw [← hn8] at h9 hx3 ⊢
        clear hn8 HH HZ
        generalize World.setRow _ n8 _ = v9 at *
        have H9 := Lib.hid h9
        clear h9
        go_loopw [12] (fun s wx => ∃ i : Nat, i ≤ 64 ∧ s = .int .i64 i ∧ Hold2 w wx n0 n8 (st.map wv) (ks.map wv) (ws.map wv) ((rnds ks ws st i).map wv)) (fun s _ => 64 - (intOf s).toNat)
        case atStart => exact ⟨0, by omega, rfl, H9.out⟩
        case round =>
          obtain ⟨i, hi64, rfl, hH⟩ := hrel
          have HH := Lib.hid hH
          clear hH H9
          by_cases hlt : i < 64
          · obtain ⟨a, b, c, d, e, f, g, h, hq⟩ := len8 (rnds_len ks ws st hst i)
            have hnext : rnds ks ws st (i + 1) = rnd (ks[i]?.getD 0) (ws[i]?.getD 0) [a, b, c, d, e, f, g, h] := by rw [← hq]; rfl
            have hh := HH.out
            rw [hq] at hh
            have HQ := Lib.hid hnext
            have HH := Lib.hid hh
            clear hq hnext hh
            have ck := HH.out.h.k.cell i _ (wv_get ks i (by omega))
            have cw := HH.out.h.x.cell i _ (wv_get ws i (by omega))
            have HQ := HQ.out
            generalize ks[i]?.getD 0 = kk at HQ ck
            generalize ws[i]?.getD 0 = ww at HQ cw
            have HQ := Lib.hid HQ
            have c0 := HH.out.n.cell 0 (.int .u32 (wi a)) rfl
            have c1 := HH.out.n.cell 1 (.int .u32 (wi b)) rfl
            have c2 := HH.out.n.cell 2 (.int .u32 (wi c)) rfl
            have c3 := HH.out.n.cell 3 (.int .u32 (wi d)) rfl
            have c4 := HH.out.n.cell 4 (.int .u32 (wi e)) rfl
            have c5 := HH.out.n.cell 5 (.int .u32 (wi f)) rfl
            have c6 := HH.out.n.cell 6 (.int .u32 (wi g)) rfl
            have c7 := HH.out.n.cell 7 (.int .u32 (wi h)) rfl
            have i1 : (i:Int) < 64 := by omega
            go_wp2
            go_quiet (fail)
            go_wp2
            go_region_held3 (fun w' => w'.cell? ⟨n8, 7, none⟩ = some (.int .u32 (wi h)) ∧ w'.cell? ⟨n8, 5, none⟩ = some (.int .u32 (wi f)) ∧ w'.cell? ⟨n8, 6, none⟩ = some (.int .u32 (wi g)) ∧ w'.cell? ⟨n0 + 1, i, none⟩ = some (.int .u32 (wi kk)) ∧ w'.cell? ⟨n0 + 1 + 1 + 1, i, none⟩ = some (.int .u32 (wi ww))) (exact ⟨by simp [c7], by simp [c5], by simp [c6], by simp [ck], by simp [cw]⟩) (first | (go_at_call 64; refine (refTurned_any _ _ _ (by decide) (by decide)).mono ?_; rintro e w3 ⟨rfl, rfl⟩))
            go_wp2
            go_region_held3 (fun w' => w'.cell? ⟨n8, 1, none⟩ = some (.int .u32 (wi b)) ∧ w'.cell? ⟨n8, 2, none⟩ = some (.int .u32 (wi c))) (exact ⟨by simp [c1], by simp [c2]⟩) (first | (go_at_call 64; refine (refTurned_any _ _ _ (by decide) (by decide)).mono ?_; rintro e w3 ⟨rfl, rfl⟩))
            have HN8 := Lib.hid (HH.out.n)
            go_wp2_with (first | (refine store_at rfl 42 _ _ rfl _ _ rfl rfl _ (HN8.out.drewN _) (by kernel_rfl) (by rfl) (one8 _ _ _ _ _ _ _ _) ?_))
            go_roundw
            case rel => exact ⟨i + 1, by omega, by go_num, by rw [HQ.out]; simp only [rnd, rx, ry, bigE_eq, bigA_eq]; exact (HH.out.drewN _).setN hx3 _⟩
            case measure => simp [intOf]; omega
          · obtain rfl : i = 64 := by omega
            have hnl := rnds_len ks ws st hst 64
            rw [show List.zipWith (· + ·) st (rnds ks ws st 64) = comp ks ws st from rfl] at HC
            have hcomp : comp ks ws st = List.zipWith (· + ·) st (rnds ks ws st 64) := rfl
            generalize rnds ks ws st 64 = now at *
            have HD := Lib.hid hcomp
            clear hcomp
            go_wp2
            go_loopw [17] (fun s wx => ∃ i : Nat, i ≤ 8 ∧ s = .int .i64 i ∧ Hold2 w wx n0 n8 ((upto st now i).map wv) (ks.map wv) (ws.map wv) (now.map wv)) (fun s _ => 8 - (intOf s).toNat)
            case atStart => exact ⟨0, by omega, rfl, by rw [upto_zero]; exact HH.out⟩
            case round =>
              obtain ⟨i, hi8, rfl, hH2⟩ := hrel
              have HH2 := Lib.hid hH2
              clear hH2
              by_cases hlt2 : i < 8
              · have i1 : (i:Int) < 8 := by omega
                have hu := upto_set st now i (by omega) (by omega)
                have hc := HH2.out.h.s.cell i _ (wv_get _ i (by rw [upto_len _ _ _ (by omega) (by omega)]; omega))
                have hf := HH2.out.h.s.frozen i
                have hv := HH2.out.n.cell i _ (wv_get now i (by omega))
                rw [upto_get st now i (by omega) (by omega)] at hc
                have HU := Lib.hid hu
                clear hu
                generalize st[i]?.getD 0 = a at hc HU
                generalize now[i]?.getD 0 = b at hv HU
                go_wp2
                go_still_tail 9, (by kernel_rfl)
                change wpList _ _ _ _ _ wr.drew
                go_wp2
                go_roundw
                case rel =>
                  refine ⟨i + 1, by omega, by go_num, ?_⟩
                  have h := (HH2.out.drewN 1).setS hx3 i (wv (a + b))
                  rw [List.map_set.symm, HU.out] at h
                  exact h
                case measure => simp [intOf]; omega
              · obtain rfl : i = 8 := by omega
                rw [upto_full st now 8 (by omega) (by omega)] at HH2
                have hcl : ((comp ks ws st).map wv).length = 8 := by rw [List.length_map, comp_len _ _ _ hst]
                rw [← HD.out] at HH2
                have hone := wv_one (comp ks ws st)
                generalize hcs : (comp ks ws st).map wv = cs at *
                have hR3 := HH2.out.h.r.setRow' cs
                have hi : (Try.prog.info? 42).map (·.size) = some cs.length := by rw [hcl]; kernel_rfl
                have hi' : (Try.prog.info? 42).map (·.size) = some cs.toArray.size := by rw [List.size_toArray]; exact hi
                go_wp2_with (first | (refine load_at rfl 42 _ rfl _ rfl _ _ HH2.out.h.s Try.underlying42 rfl hi ?_) | (refine store_at rfl 42 _ _ rfl _ _ rfl rfl _ HH2.out.h.r hi' (by rw [List.size_toArray, hcl]; rfl) (all_oneCell_toArray hone) ?_))
                (try simp only [Exit.inBlock, Exit.then])
                refine bodyPost_ret (v := .agg cs.toArray) ?_ rfl ⟨by rw [HWS.out, hcs], by rw [← HN.out]; exact below_setRow' HH2.out.h.b _ (by omega) _⟩
                exact results_cell_row (fn := Try.f49) (p := 6) (ty := 42) rfl _ _ (n0 + 1 + 1) 42 cs.toArray (0, 0) _ rfl hR3 Try.underlying42 rfl hi'
end Go.Proofs.Ytffpmdgchpcaaaa
