/- Ju, Jv, Jw, one behind the other. -/
import Derived.Test.YtcgjkopdnhkdiaaJT
namespace Go.Proofs.Ytcgjkopdnhkdiaa
open Go.RowKit
set_option maxRecDepth 100000
/-- the sector's bytes, of some bytes -/
def secOf (l : List UInt8) (i : Nat) : List UInt8 := (l.drop (i * 128)).take 128
/-- so many sectors are written, from number k on -/
def layFrom (first : Nat) (l : List UInt8) : Nat → Nat → List DO
  | 0, _ => []
  | m + 1, k => .w ((first + k : Nat) : Int) (secOf l k) :: layFrom first l m (k + 1)
theorem layFrom_snoc (first : Nat) (l : List UInt8) : ∀ (m k : Nat), layFrom first l (m + 1) k = layFrom first l m k ++ [.w ((first + (k + m) : Nat) : Int) (secOf l (k + m))]
  | 0, k => by simp [layFrom]
  | m + 1, k => by
    rw [layFrom, layFrom_snoc first l m (k + 1)]
    conv => rhs; rw [layFrom]
    rw [show k + 1 + m = k + (m + 1) by omega]
    rfl
theorem layFrom_len (first : Nat) (l : List UInt8) : ∀ (m k : Nat), (layFrom first l m k).length = m
  | 0, k => rfl
  | m + 1, k => by rw [layFrom, List.length_cons, layFrom_len]
def cntOf (l : List UInt8) : Nat := (l.length + 127) / 128
def layOps (first : Nat) (l : List UInt8) (kept : Nat) : List DO := layFrom first l (cntOf l - kept / 128) (kept / 128)
theorem Is.off {D : Nat} {w w' : World} {av av2 : Nat → Prop} {x : St} {d : DO} {ao : Option Addr} {n cap : Nat} {xs : List Value} (h : Is D w av x d) (hO : Own w 34 1 ao n cap xs) (t : Touch (blk ao) w w') (h2 : ∀ i, av i → av2 i) : Is D w' av2 x d := by
  cases h with
  | wr b k l h ha hl =>
    obtain ⟨⟨c1, c2, h1⟩, h3, h4⟩ := h
    exact .wr b k l ⟨⟨c1, c2, h1.touch t (hO.type h1 (by decide))⟩, h3.touch t (hO.type h3 (by decide)), h4.touch t (hO.type h4 (by decide))⟩ (fun i e1 e2 => h2 i (ha i e1 e2)) hl
  | fl => exact .fl
theorem slice_sec (l : List UInt8) (k hi : Nat) (W : World) (h1 : k * 128 ≤ hi) (h2 : hi ≤ l.length) (h3 : hi = k * 128 + 128 ∨ (hi = l.length ∧ hi ≤ k * 128 + 128)) (x y : Int) (hx : x = ((k * 128 : Nat) : Int)) (hy : y = (hi : Int)) :
    (Instr.sliceAt 9 (.string (bs l)) (some (.int .i64 x)) (some (.int .i64 y)) none).run Try.prog W = .ok (.string (bs (secOf l k))) W := by
  subst hx hy
  have q1 : ((k * 128 : Nat) : Int) ≤ (hi : Int) := by omega
  have q2 : (hi : Int) ≤ (l.length : Int) := by omega
  have e : (bs l).extract (k * 128) hi = bs (secOf l k) := by
    rw [bs_extract]
    unfold secOf
    congr 1
    rcases h3 with h | ⟨h, h'⟩
    · rw [h, Nat.add_sub_cancel_left]
    · rw [List.take_of_length_le (by rw [List.length_drop]; omega), List.take_of_length_le (by rw [List.length_drop]; omega)]
  generalize hp : k * 128 = q at *
  simp [go_sem, run_underlying Try.underlying9, bs_size, q1, q2, e]
set_option maxHeartbeats 8000000 in
theorem laying_any (p : Pl) (hp : p.Ok) (half : Nat) (hh : half ≤ 1) (l : List UInt8) (hl : l.length ≤ 1000000) (kept : Nat) (hk : kept ≤ l.length) (w : World) :
    Calls Try.prog 73 #[p.v, .int .i64 (half : Int), .string (bs l), .int .i64 (kept : Int)] w fun e w' => ∃ (xs : List St) (ao : Option Addr) (cap : Nat), e = .returned (.slice ao xs.length cap) ∧ Own w' 34 1 ao xs.length cap (xs.map St.v) ∧ (∀ i, i ∈ blk ao → w.heap.size ≤ i) ∧
      Zip (Is p.D w' (fun i => w.heap.size ≤ i ∧ i < w'.heap.size)) xs (layOps (p.at_ + 2 + half * p.span) l kept) ∧ Below w.heap.size w w' := by
  have hp1 := hp.a
  have hp2 := hp.s
  have hq : half * p.span ≤ 4096 := Nat.le_trans (Nat.mul_le_mul_right _ hh) (by omega)
  obtain ⟨first, hfirst⟩ : ∃ first, first = p.at_ + 2 + half * p.span := ⟨_, rfl⟩
  have hf1 : first ≤ 8194 := by omega
  have a4 := At.new w p.cells.toArray 83
  have b4 := (Below.refl w.heap.size w).alloc (Nat.le_refl _) (.cells p.cells.toArray 83)
  obtain ⟨q0, hq0⟩ : ∃ q0, q0 = kept / 128 := ⟨_, rfl⟩
  have e0 : (kept : Int).tdiv 128 = (q0 : Int) := by rw [Int.tdiv_eq_ediv_of_nonneg (by omega)]; omega
  have e00 : IntKind.i64.wrap (q0 : Int) = (q0 : Int) := by rw [IntKind.wrap_i64]; omega
  have hq1 : q0 ≤ cntOf l := by unfold cntOf; omega
  have hcl : cntOf l ≤ 8000 := by unfold cntOf; omega
  obtain ⟨iw, hiw, hz0, hz1, hz2⟩ := info_parts info_fn
  have HI := Lib.hid (And.intro hiw (And.intro hz0 (And.intro hz1 hz2)))
  have A4 := Lib.hid a4
  have B4 := Lib.hid b4
  have HP := Lib.hid hp
  have HF := Lib.hid hfirst
  have HQ0 := Lib.hid hq0
  have HQ1 := Lib.hid hq1
  unfold layOps
  rw [← hfirst, ← hq0]
  clear hiw hz0 hz1 hz2 a4 b4 hp hfirst hq0 hp1 hp2 hq hq1
  unfold Pl.v
  go_enter Try.func73, Try.ntmps73
  go_wp2_with fail
  clear e0 e00
  generalize hb4 : w.heap.size = b4 at *
  generalize w.alloc (.cells p.cells.toArray 83) = w1 at *
  go_loopw [9, 10] (fun y9 y10 wx => ∃ (i : Nat) (xs : List St) (ao : Option Addr) (cap : Nat), y9 = .slice ao xs.length cap ∧ y10 = .int .i64 ((q0 + i : Nat) : Int) ∧ q0 + i ≤ cntOf l ∧ Own wx 34 1 ao xs.length cap (xs.map St.v) ∧ (∀ i, i ∈ blk ao → b4 ≤ i) ∧
      Zip (Is p.D wx (fun i => b4 ≤ i ∧ i < wx.heap.size)) xs (layFrom first l i q0) ∧ Below b4 w wx ∧ At wx b4 83 p.cells) (fun _ y _ => cntOf l - (intOf y).toNat)
  case atStart => exact ⟨0, [], none, 0, rfl, rfl, by have := HQ1.out; omega, Own.nil _ _ _, by simp [blk], .nil, B4.out, A4.out⟩
  clear A4 B4
  case round =>
    obtain ⟨i, xs, ao, cap, rfl, rfl, hi, hO, hbk, hZ, hB, hA⟩ := hrel
    have hxl : xs.length = i := by have := hZ.len; rw [layFrom_len] at this; exact this
    have HO := Lib.hid hO
    have HBK := Lib.hid hbk
    have HZ := Lib.hid hZ
    have HB := Lib.hid hB
    have HA := Lib.hid hA
    have HXL := Lib.hid hxl
    obtain ⟨k, hk2⟩ : ∃ k, k = q0 + i := ⟨_, rfl⟩
    have HK := Lib.hid hk2
    rw [← hk2]
    rw [← hk2] at hi
    have hxs : xs.length ≤ 8000 := by omega
    clear hO hbk hZ hB hA hxl hk2
    have e1 : IntKind.i64.wrap ((k : Int) * 128) = (k : Int) * 128 := by rw [IntKind.wrap_i64]; omega
    by_cases hlt : k < cntOf l
    · have hlt2 : decide ((k : Int) * 128 < (l.length : Int)) = true := by simp; unfold cntOf at hlt; omega
      have hlt3 : (k : Int) * 128 < (l.length : Int) := by unfold cntOf at hlt; omega
      have e2 : IntKind.i64.wrap ((k : Int) + 1) = (k : Int) + 1 := by rw [IntKind.wrap_i64]; omega
      have e3 : IntKind.i64.wrap (((k : Int) + 1) * 128) = ((k : Int) + 1) * 128 := by rw [IntKind.wrap_i64]; omega
      have hcase : (((k : Int) + 1) * 128 < (l.length : Int)) ∨ ((l.length : Int) ≤ ((k : Int) + 1) * 128) := by omega
      have hext : (bs l).extract (k * 128) (min (l.length : Int) (((k : Int) + 1) * 128)).toNat = bs (secOf l k) := by
        rw [bs_extract]
        unfold secOf
        congr 1
        rcases hcase with h | h
        · rw [Int.min_eq_right (by omega), show ((((k : Int) + 1) * 128).toNat - k * 128) = 128 by omega]
        · rw [Int.min_eq_left (by omega), Int.toNat_natCast, List.take_of_length_le (by rw [List.length_drop]; omega), List.take_of_length_le (by rw [List.length_drop]; omega)]
      have HEXT := Lib.hid hext
      clear hext
      rcases hcase with hc | hc
      · go_wp2_with fail
        rw [HEXT.out]
        clear e3 e1 hlt2 hlt3 hc
        refine region_any (fun W => At W b4 83 p.cells) 12 (by kernel_rfl) ?_
        have S0 : (fun W => At W b4 83 p.cells) wr.drew := HA.out.drew
        refine wpAnyT_takeN (i := 0) (v := (.slice ao xs.length cap)) rfl (by decide) (by kernel_rfl) (by kernel_rfl) (by kernel_rfl) (fun _ _ _ h => h) (.inl ⟨by kernel_rfl, fun W hS => by kernel_rfl⟩) S0 ?_
        refine wpAnyT_takeN (i := 1) (v := (Pl.v p)) rfl (by decide) (by kernel_rfl) (by kernel_rfl) (by kernel_rfl) (fun _ _ _ h => h) (.inl ⟨by kernel_rfl, fun W hS => run_load_op 83 (.tmp 4) rfl b4 0 (by kernel_rfl) p.cells _ hS.range0 Try.underlying83 rfl (by kernel_rfl)⟩) S0 ?_
        refine wpAnyT_takeN (i := 2) (v := (Pl.v p)) rfl (by decide) (by kernel_rfl) (by kernel_rfl) (by kernel_rfl) (fun _ _ _ h => h) (.inl ⟨by kernel_rfl, fun W hS => run_load_op 83 (.tmp 4) rfl b4 0 (by kernel_rfl) p.cells _ hS.range0 Try.underlying83 rfl (by kernel_rfl)⟩) S0 ?_
        refine wpAnyT_takeN (i := 3) (v := (.int .i64 (half : Int))) rfl (by decide) (by kernel_rfl) (by kernel_rfl) (by kernel_rfl) (fun _ _ _ h => h) (.inl ⟨by kernel_rfl, fun W hS => by kernel_rfl⟩) S0 ?_
        refine wpAnyT_takeN (i := 5) (v := (.int .i64 (k : Int))) rfl (by decide) (by kernel_rfl) (by kernel_rfl) (by kernel_rfl) (fun _ _ _ h => h) (.inl ⟨by kernel_rfl, fun W hS => by kernel_rfl⟩) S0 ?_
        refine wpAnyT_takeN (i := 7) (v := (.string (bs (secOf l k)))) rfl (by decide) (by kernel_rfl) (by kernel_rfl) (by kernel_rfl) (fun _ _ _ h => h) (.inl ⟨by kernel_rfl, fun W hS => by kernel_rfl⟩) S0 ?_
        refine wpAnyT_all (rs := [4]) (by kernel_rfl) (by simp) ?_
        intro q hq
        obtain rfl : q = 4 := by simpa using hq
        refine wpOp_call rfl (by kernel_rfl) 79 #[Pl.v p, .int .i64 (half : Int)] (run_call_func rfl enter_halfAt _ (by kernel_rfl)) ((halfAt_any p HP.out half hh wr.drew).mono ?_)
        rintro e v1 ⟨rfl, c1⟩
        have P1 := HA.out.drew.below c1 HA.out.lt
        refine ⟨_, rfl, fun _ => P1, ?_⟩
        rw [← HF.out]
        refine wpAnyT_takeN (i := 6) (v := (.int .i64 ((first + k : Nat) : Int))) rfl (by decide) (by kernel_rfl) (by kernel_rfl) (by kernel_rfl) (fun _ _ _ h => h) (.inl ⟨by kernel_rfl, fun W hS => run_add_op (.tmp 35) (.tmp 36) rfl (first : Int) (k : Int) ((first + k : Nat) : Int) (by kernel_rfl) (by kernel_rfl) (by rw [IntKind.wrap_i64]; omega)⟩) P1 ?_
        refine wpAnyT_all (rs := [8]) (by kernel_rfl) (by simp) ?_
        intro q hq
        obtain rfl : q = 8 := by simpa using hq
        refine wpOp_call rfl (by kernel_rfl) 69 #[Pl.v p, .int .i64 ((first + k : Nat) : Int), .string (bs (secOf l k))] (run_call_func rfl enter_writing _ (by kernel_rfl)) ((writing_any p ((first + k : Nat) : Int) (secOf l k) v1).mono ?_)
        rintro e v2 ⟨rfl, W2, z2, c2⟩
        have P2 := P1.below c2 P1.lt
        refine ⟨_, rfl, fun _ => P2, ?_⟩
        refine wpAnyT_all (rs := [9]) (by kernel_rfl) (by simp) ?_
        intro q hq
        obtain rfl : q = 9 := by simpa using hq
        refine wpOp_val rfl (by kernel_rfl) (run_build_op 111 (.tmp 39) rfl (wrSt v1.heap.size).v (by kernel_rfl) (build_cell v2 111 34 (wrSt v1.heap.size).v iw _ Try.underlying111 HI.out.1 HI.out.2.1 HI.out.2.2.1 rfl)) ⟨fun _ => P2.alloc _, ?_⟩
        have g12 : Below wr.drew.heap.size wr.drew v2 := c1.trans (c2.mono c1.size)
        have o3 := HO.out.touch (((Touch.refl [] wr).drew.step (Touch.of_below (ft := []) g12) (by simp)).alloc (.cells #[(wrSt v1.heap.size).v] 34)) (by simp)
        have t3 := ((Touch.refl [] wr).drew.step (Touch.of_below (ft := []) g12) (by simp)).alloc (.cells #[(wrSt v1.heap.size).v] 34)
        have a3 := At.new v2 #[(wrSt v1.heap.size).v] 34
        have P3 := P2.alloc (.cells #[(wrSt v1.heap.size).v] 34)
        have z3 : (v2.alloc (.cells #[(wrSt v1.heap.size).v] 34)).heap.size = v2.heap.size + 1 := World.size_alloc _ _
        have W3 : WrAt (v2.alloc (.cells #[(wrSt v1.heap.size).v] 34)) v1.heap.size p.D ((first + k : Nat) : Int) (secOf l k) := W2.same fun i h1 h2 => by rw [Below.heap_alloc _ _ _ (by omega)]
        have B3 := Touch.below HB.out t3 (by simp) (by omega)
        have hzw : wr.drew.heap.size = wr.heap.size := rfl
        have hbw := HB.out.size
        rw [hb4] at hbw
        have u1 := c1.size
        have u2 := c2.size
        generalize v2.alloc (.cells #[(wrSt v1.heap.size).v] 34) = v3 at *
        obtain ⟨ao', cap', v4, hrun, o4, t4, hblk⟩ := run_append_any (P := Try.prog) v3 111 111 34 iw _ 1 8 Try.underlying111 HI.out.1 HI.out.2.1 HI.out.2.2.1 HI.out.2.2.2 rfl (by omega) ao xs.length cap _ o3 v2.heap.size 1 1 _ a3 rfl (by simp [St.v, Value.oneCell']) (by omega) (by unfold maxLen; omega) (by omega)
        have P4 := P3.touch t4 (HO.out.type HA.out (by decide))
        refine wpAnyT_all (rs := [10]) (by kernel_rfl) (by simp) ?_
        intro q hq
        obtain rfl : q = 10 := by simpa using hq
        refine wpOp_val rfl (by kernel_rfl) (run_append_op (.tmp 31) (.tmp 40) 111 111 rfl (.slice ao xs.length cap) (.slice (some ⟨v2.heap.size, 0, none⟩) 1 1) (by kernel_rfl) (by kernel_rfl) hrun) ⟨fun _ => P4, ?_⟩
        refine wpAnyT_takeN (i := 11) (v := (.slice ao' (xs.length + 1) cap')) rfl (by decide) (by kernel_rfl) (by kernel_rfl) (by kernel_rfl) (fun _ _ _ h => h) (.inl ⟨by kernel_rfl, fun W hS => by kernel_rfl⟩) P4 ?_
        refine wpAnyT_done (by kernel_rfl) ?_ _
        simp only [Act.put, List.getElem_toArray, List.getElem_cons_succ, List.getElem_cons_zero, List.setIfInBounds_toArray, List.set_cons_zero, List.set_cons_succ]
        have hz4 := t4.size
        have Z4 : Zip (Is p.D v4 (fun i => b4 ≤ i ∧ i < v4.heap.size)) (xs ++ [wrSt v1.heap.size]) (layFrom first l (i + 1) q0) := by
          rw [layFrom_snoc]
          refine Zip.append (HZ.out.mono fun x d hx => ?_) (.cons ?_ .nil)
          · have h1 := hx.off HO.out (t3.mono (ft2 := blk ao) (by simp)) (av2 := fun i => b4 ≤ i ∧ i < v3.heap.size) (fun i hi => ⟨hi.1, by omega⟩)
            exact h1.off o3 t4 (fun i hi => ⟨hi.1, by omega⟩)
          · rw [← HK.out]
            refine Is.off (.wr _ _ _ W3 (fun i h1 h2 => ?_) (by unfold secOf; rw [List.length_take]; omega)) o3 t4 (av := fun i => b4 ≤ i ∧ i < v3.heap.size) (fun i hi => ⟨hi.1, by omega⟩)
            exact ⟨by omega, by omega⟩
        have B4 := Touch.below B3 t4 (fun i hi => HBK.out i hi) (by omega)
        have K4 : ∀ i, i ∈ blk ao' → b4 ≤ i := fun i hi => by
          rcases hblk with h | ⟨g, h, hg⟩
          · rw [h] at hi; exact HBK.out i hi
          · rw [h] at hi; simp at hi; omega
        have e5 : (xs ++ [wrSt v1.heap.size]).length = xs.length + 1 := by simp
        have O4 : Own v4 34 1 ao' (xs.length + 1) cap' ((xs ++ [wrSt v1.heap.size]).map St.v) := by rw [List.map_append]; exact o4
        have FZ := Lib.hid Z4
        have FB := Lib.hid B4
        have FK := Lib.hid K4
        have FO := Lib.hid O4
        have FP := Lib.hid P4
        have FE := Lib.hid e5
        clear Z4 B4 K4 O4 P4 e5 hz4 hrun o4 t4 hblk o3 t3 a3 P3 z3 W3 B3 hzw hbw u1 u2 g12 W2 z2 c2 P2 c1 P1 S0
        go_wp2
        go_roundw
        case rel => exact ⟨i + 1, xs ++ [wrSt v1.heap.size], ao', cap', by rw [FE.out], by have := HK.out; rw [show q0 + (i + 1) = k + 1 by omega]; go_num, by have := HK.out; omega, by rw [FE.out]; exact FO.out, FK.out, FZ.out, FB.out, FP.out⟩
        case measure => simp [intOf]; omega
      · go_wp2_with fail
        rw [HEXT.out]
        clear e3 e1 hlt2 hlt3 hc
        refine region_any (fun W => At W b4 83 p.cells) 12 (by kernel_rfl) ?_
        have S0 : (fun W => At W b4 83 p.cells) wr.drew := HA.out.drew
        refine wpAnyT_takeN (i := 0) (v := (.slice ao xs.length cap)) rfl (by decide) (by kernel_rfl) (by kernel_rfl) (by kernel_rfl) (fun _ _ _ h => h) (.inl ⟨by kernel_rfl, fun W hS => by kernel_rfl⟩) S0 ?_
        refine wpAnyT_takeN (i := 1) (v := (Pl.v p)) rfl (by decide) (by kernel_rfl) (by kernel_rfl) (by kernel_rfl) (fun _ _ _ h => h) (.inl ⟨by kernel_rfl, fun W hS => run_load_op 83 (.tmp 4) rfl b4 0 (by kernel_rfl) p.cells _ hS.range0 Try.underlying83 rfl (by kernel_rfl)⟩) S0 ?_
        refine wpAnyT_takeN (i := 2) (v := (Pl.v p)) rfl (by decide) (by kernel_rfl) (by kernel_rfl) (by kernel_rfl) (fun _ _ _ h => h) (.inl ⟨by kernel_rfl, fun W hS => run_load_op 83 (.tmp 4) rfl b4 0 (by kernel_rfl) p.cells _ hS.range0 Try.underlying83 rfl (by kernel_rfl)⟩) S0 ?_
        refine wpAnyT_takeN (i := 3) (v := (.int .i64 (half : Int))) rfl (by decide) (by kernel_rfl) (by kernel_rfl) (by kernel_rfl) (fun _ _ _ h => h) (.inl ⟨by kernel_rfl, fun W hS => by kernel_rfl⟩) S0 ?_
        refine wpAnyT_takeN (i := 5) (v := (.int .i64 (k : Int))) rfl (by decide) (by kernel_rfl) (by kernel_rfl) (by kernel_rfl) (fun _ _ _ h => h) (.inl ⟨by kernel_rfl, fun W hS => by kernel_rfl⟩) S0 ?_
        refine wpAnyT_takeN (i := 7) (v := (.string (bs (secOf l k)))) rfl (by decide) (by kernel_rfl) (by kernel_rfl) (by kernel_rfl) (fun _ _ _ h => h) (.inl ⟨by kernel_rfl, fun W hS => by kernel_rfl⟩) S0 ?_
        refine wpAnyT_all (rs := [4]) (by kernel_rfl) (by simp) ?_
        intro q hq
        obtain rfl : q = 4 := by simpa using hq
        refine wpOp_call rfl (by kernel_rfl) 79 #[Pl.v p, .int .i64 (half : Int)] (run_call_func rfl enter_halfAt _ (by kernel_rfl)) ((halfAt_any p HP.out half hh wr.drew).mono ?_)
        rintro e v1 ⟨rfl, c1⟩
        have P1 := HA.out.drew.below c1 HA.out.lt
        refine ⟨_, rfl, fun _ => P1, ?_⟩
        rw [← HF.out]
        refine wpAnyT_takeN (i := 6) (v := (.int .i64 ((first + k : Nat) : Int))) rfl (by decide) (by kernel_rfl) (by kernel_rfl) (by kernel_rfl) (fun _ _ _ h => h) (.inl ⟨by kernel_rfl, fun W hS => run_add_op (.tmp 35) (.tmp 36) rfl (first : Int) (k : Int) ((first + k : Nat) : Int) (by kernel_rfl) (by kernel_rfl) (by rw [IntKind.wrap_i64]; omega)⟩) P1 ?_
        refine wpAnyT_all (rs := [8]) (by kernel_rfl) (by simp) ?_
        intro q hq
        obtain rfl : q = 8 := by simpa using hq
        refine wpOp_call rfl (by kernel_rfl) 69 #[Pl.v p, .int .i64 ((first + k : Nat) : Int), .string (bs (secOf l k))] (run_call_func rfl enter_writing _ (by kernel_rfl)) ((writing_any p ((first + k : Nat) : Int) (secOf l k) v1).mono ?_)
        rintro e v2 ⟨rfl, W2, z2, c2⟩
        have P2 := P1.below c2 P1.lt
        refine ⟨_, rfl, fun _ => P2, ?_⟩
        refine wpAnyT_all (rs := [9]) (by kernel_rfl) (by simp) ?_
        intro q hq
        obtain rfl : q = 9 := by simpa using hq
        refine wpOp_val rfl (by kernel_rfl) (run_build_op 111 (.tmp 39) rfl (wrSt v1.heap.size).v (by kernel_rfl) (build_cell v2 111 34 (wrSt v1.heap.size).v iw _ Try.underlying111 HI.out.1 HI.out.2.1 HI.out.2.2.1 rfl)) ⟨fun _ => P2.alloc _, ?_⟩
        have g12 : Below wr.drew.heap.size wr.drew v2 := c1.trans (c2.mono c1.size)
        have o3 := HO.out.touch (((Touch.refl [] wr).drew.step (Touch.of_below (ft := []) g12) (by simp)).alloc (.cells #[(wrSt v1.heap.size).v] 34)) (by simp)
        have t3 := ((Touch.refl [] wr).drew.step (Touch.of_below (ft := []) g12) (by simp)).alloc (.cells #[(wrSt v1.heap.size).v] 34)
        have a3 := At.new v2 #[(wrSt v1.heap.size).v] 34
        have P3 := P2.alloc (.cells #[(wrSt v1.heap.size).v] 34)
        have z3 : (v2.alloc (.cells #[(wrSt v1.heap.size).v] 34)).heap.size = v2.heap.size + 1 := World.size_alloc _ _
        have W3 : WrAt (v2.alloc (.cells #[(wrSt v1.heap.size).v] 34)) v1.heap.size p.D ((first + k : Nat) : Int) (secOf l k) := W2.same fun i h1 h2 => by rw [Below.heap_alloc _ _ _ (by omega)]
        have B3 := Touch.below HB.out t3 (by simp) (by omega)
        have hzw : wr.drew.heap.size = wr.heap.size := rfl
        have hbw := HB.out.size
        rw [hb4] at hbw
        have u1 := c1.size
        have u2 := c2.size
        generalize v2.alloc (.cells #[(wrSt v1.heap.size).v] 34) = v3 at *
        obtain ⟨ao', cap', v4, hrun, o4, t4, hblk⟩ := run_append_any (P := Try.prog) v3 111 111 34 iw _ 1 8 Try.underlying111 HI.out.1 HI.out.2.1 HI.out.2.2.1 HI.out.2.2.2 rfl (by omega) ao xs.length cap _ o3 v2.heap.size 1 1 _ a3 rfl (by simp [St.v, Value.oneCell']) (by omega) (by unfold maxLen; omega) (by omega)
        have P4 := P3.touch t4 (HO.out.type HA.out (by decide))
        refine wpAnyT_all (rs := [10]) (by kernel_rfl) (by simp) ?_
        intro q hq
        obtain rfl : q = 10 := by simpa using hq
        refine wpOp_val rfl (by kernel_rfl) (run_append_op (.tmp 31) (.tmp 40) 111 111 rfl (.slice ao xs.length cap) (.slice (some ⟨v2.heap.size, 0, none⟩) 1 1) (by kernel_rfl) (by kernel_rfl) hrun) ⟨fun _ => P4, ?_⟩
        refine wpAnyT_takeN (i := 11) (v := (.slice ao' (xs.length + 1) cap')) rfl (by decide) (by kernel_rfl) (by kernel_rfl) (by kernel_rfl) (fun _ _ _ h => h) (.inl ⟨by kernel_rfl, fun W hS => by kernel_rfl⟩) P4 ?_
        refine wpAnyT_done (by kernel_rfl) ?_ _
        simp only [Act.put, List.getElem_toArray, List.getElem_cons_succ, List.getElem_cons_zero, List.setIfInBounds_toArray, List.set_cons_zero, List.set_cons_succ]
        have hz4 := t4.size
        have Z4 : Zip (Is p.D v4 (fun i => b4 ≤ i ∧ i < v4.heap.size)) (xs ++ [wrSt v1.heap.size]) (layFrom first l (i + 1) q0) := by
          rw [layFrom_snoc]
          refine Zip.append (HZ.out.mono fun x d hx => ?_) (.cons ?_ .nil)
          · have h1 := hx.off HO.out (t3.mono (ft2 := blk ao) (by simp)) (av2 := fun i => b4 ≤ i ∧ i < v3.heap.size) (fun i hi => ⟨hi.1, by omega⟩)
            exact h1.off o3 t4 (fun i hi => ⟨hi.1, by omega⟩)
          · rw [← HK.out]
            refine Is.off (.wr _ _ _ W3 (fun i h1 h2 => ?_) (by unfold secOf; rw [List.length_take]; omega)) o3 t4 (av := fun i => b4 ≤ i ∧ i < v3.heap.size) (fun i hi => ⟨hi.1, by omega⟩)
            exact ⟨by omega, by omega⟩
        have B4 := Touch.below B3 t4 (fun i hi => HBK.out i hi) (by omega)
        have K4 : ∀ i, i ∈ blk ao' → b4 ≤ i := fun i hi => by
          rcases hblk with h | ⟨g, h, hg⟩
          · rw [h] at hi; exact HBK.out i hi
          · rw [h] at hi; simp at hi; omega
        have e5 : (xs ++ [wrSt v1.heap.size]).length = xs.length + 1 := by simp
        have O4 : Own v4 34 1 ao' (xs.length + 1) cap' ((xs ++ [wrSt v1.heap.size]).map St.v) := by rw [List.map_append]; exact o4
        have FZ := Lib.hid Z4
        have FB := Lib.hid B4
        have FK := Lib.hid K4
        have FO := Lib.hid O4
        have FP := Lib.hid P4
        have FE := Lib.hid e5
        clear Z4 B4 K4 O4 P4 e5 hz4 hrun o4 t4 hblk o3 t3 a3 P3 z3 W3 B3 hzw hbw u1 u2 g12 W2 z2 c2 P2 c1 P1 S0
        go_wp2
        go_roundw
        case rel => exact ⟨i + 1, xs ++ [wrSt v1.heap.size], ao', cap', by rw [FE.out], by have := HK.out; rw [show q0 + (i + 1) = k + 1 by omega]; go_num, by have := HK.out; omega, by rw [FE.out]; exact FO.out, FK.out, FZ.out, FB.out, FP.out⟩
        case measure => simp [intOf]; omega
    · obtain rfl : k = cntOf l := by omega
      have hlt2 : decide ((cntOf l : Int) * 128 < (l.length : Int)) = false := by simp; unfold cntOf; omega
      have hend : cntOf l - q0 = i := by have := HK.out; omega
      have HEND := Lib.hid hend
      clear hend
      go_wp2
      go_ret
      simp only [hb4]
      exact ⟨xs, ao, cap, rfl, HO.out, HBK.out, by rw [HEND.out]; exact HZ.out, HB.out⟩
end Go.Proofs.Ytcgjkopdnhkdiaa

namespace Go.Proofs.Ytcgjkopdnhkdiaa
open Go.RowKit
set_option maxRecDepth 100000
section
variable {w0 w : World} {av : Nat → Prop} {n D : Nat} {s : Dk}
theorem Priv.setCell (h : Priv w0 w av n D s) (p : Addr) (v : Value) (ha : av p.block) (h0 : w0.heap.size ≤ p.block) : Priv w0 (w.setCell p v) av n D s := by
  obtain ⟨hl, F, N, ao, cap, h, hB, hf⟩ := h
  have hz : (w.setCell p v).heap.size = w.heap.size := by simp [World.setCell]
  exact ⟨fun i hi => by rw [hz]; exact hl i hi, F, N, ao, cap, theDisk_same h (fun i hi => Below.heap_setCell w p v i (fun e => (hf i hi).2 (by rw [e]; exact ha))), hB.setCell h0 v, hf⟩
theorem Priv.setCells (b : Nat) (ha : av b) (h0 : w0.heap.size ≤ b) : ∀ (vs : List Value) (o : Nat) (w : World), Priv w0 w av n D s → Priv w0 (w.setCells b o vs) av n D s
  | [], _, _, h => h
  | v :: r, o, w, h => Priv.setCells b ha h0 r (o + 1) _ (h.setCell ⟨b, o, none⟩ v ha h0)
theorem Keeps.setCell (k : Keeps av w w) (p : Addr) (v : Value) (hp : ¬ av p.block) : Keeps av w (w.setCell p v) := fun i hi => Below.heap_setCell w p v i (fun e => hp (by rw [← e]; exact hi))
end
/-- the operations of a save -/
def saveOps (j : Jn) (half : Nat) (bytes : List UInt8) (kept : Nat) : List DO :=
  layOps (j.pl.at_ + 2 + half * j.pl.span) bytes kept ++ [.f, .w ((j.pl.at_ + (1 - j.stands) : Nat) : Int) (Hd.sec ⟨j.hd.num + 1, half, bytes.length⟩), .f]
def saveL (n : Nat) (s : Dk) (j : Jn) (half : Nat) (kept : List UInt8) (ts : List (List UInt8)) : Int × Dk × Jn :=
  if (rowsL ts).length ≤ j.pl.span * 128 - kept.length then
    let bytes := kept ++ rowsL ts
    let r := runs n s (saveOps j half bytes kept.length)
    if r.1 = 0 then (0, r.2, { j with hd := ⟨j.hd.num + 1, half, bytes.length⟩, stands := 1 - j.stands, bytes := bytes }) else (r.1, r.2, { j with off := decide (r.1 = 11) })
  else (10, s, j)
/-- a journal on a disk of the call's own -/
def SaveTo (w0 w : World) (av : Nat → Prop) (n D J : Nat) (O : Int × Dk × Jn) (w' : World) : Prop := Priv w0 w' av n D O.2.1 ∧ At w' J 87 O.2.2.cells ∧ Keeps (fun i => av i ∧ i ≠ J) w w'
section
variable {w0 w : World} {av : Nat → Prop} {n D : Nat} {s : Dk}
set_option maxHeartbeats 16000000 in
theorem save_any (h : Priv w0 w av n D s) (J : Nat) (j : Jn) (hJ : At w J 87 j.cells) (hav : av J) (hJ0 : w0.heap.size ≤ J) (hD : j.pl.D = D) (hp : j.pl.Ok) (hst : j.stands ≤ 1) (hnum : j.hd.num < 1000000000)
    (half : Nat) (hh : half ≤ 1) (kept : List UInt8) (hkp : kept.length ≤ j.pl.span * 128) (a : Option Addr) (ts : List (List UInt8)) (cap : Nat) (ht : (rowsL ts).length ≤ 100000000) (hn : ts.length ≤ 1000000) (h1 : ∀ t ∈ ts, t.length ≤ 1000000) (hL : Lst w a ts)
    (m : Nat) (hm : Lot m s) (hmx : m ≤ 900000) :
    Calls Try.prog 48 #[.pointer (some ⟨J, 0, none⟩), .int .i64 (half : Int), .string (bs kept), .slice a ts.length cap] w fun e w' => e = .returned (.int .i64 (saveL n s j half kept ts).1) ∧ SaveTo w0 w av n D J (saveL n s j half kept ts) w' := by
  have hp1 := hp.a
  have hp2 := hp.s
  obtain ⟨room, hroom⟩ : ∃ room, room = j.pl.span * 128 - kept.length := ⟨_, rfl⟩
  obtain ⟨sq, hsq⟩ : ∃ sq, sq = j.pl.span * 128 := ⟨_, rfl⟩
  have e1 : IntKind.i64.wrap ((sq : Int) - (kept.length : Int)) = (room : Int) := by rw [IntKind.wrap_i64]; omega
  have hsp0 := space_any j.pl hp w
  rw [← hsq] at hsp0
  have hr1 : room ≤ 1000000 := by omega
  obtain ⟨O, hO⟩ : ∃ O, O = saveL n s j half kept ts := ⟨_, rfl⟩
  rw [← hO]
  unfold saveL at hO
  rw [← hroom] at hO
  have hrg := j.place hJ
  have HOO := Lib.hid hO
  have HRG := Lib.hid hrg
  have H := Lib.hid h
  have HJ := Lib.hid hJ
  have HM := Lib.hid hm
  have HP := Lib.hid hp
  have HSP := Lib.hid hsp0
  have HOT := Lib.hid (other_any j.stands hst)
  have HL := Lib.hid hL
  have HR := Lib.hid hroom
  clear hO hrg h hJ hm hp hL hroom hsp0 hsq
  go_enter Try.func48, Try.ntmps48
  go_wp2_with (with_reducible refine wpList_load_mid rfl 83 (.tmp 20) rfl J 0 (by kernel_rfl) j.pl.cells _ HRG.out Try.underlying83 rfl (by kernel_rfl) ?_)
  refine (HSP.out).mono ?_
  rintro e w1 ⟨rfl, b1⟩
  have hL1 := HL.out.below b1
  have HJ1 := Lib.hid (HJ.out.below b1 HJ.out.lt)
  have HB1 := Lib.hid b1
  clear b1 HRG HSP HL
  go_wp2_with fail
  refine (bytesOf_any a ts cap room hr1 ht hn h1 w1 hL1).mono ?_
  rintro e w2 ⟨rfl, b2⟩
  have hzb := HB1.out.size
  have HJ2 := Lib.hid (HJ1.out.below b2 HJ1.out.lt)
  have HB2 := Lib.hid (HB1.out.trans (b2.mono hzb))
  clear b2 hL1 HJ1 HB1 e1 hzb
  by_cases hfit : (rowsL ts).length ≤ room
  · rw [if_pos hfit]
    rw [if_pos hfit] at HOO
    obtain ⟨added, hadd⟩ : ∃ added, added = rowsL ts := ⟨_, rfl⟩
    rw [← hadd] at HOO ⊢
    have hal : added.length ≤ room := by rw [hadd]; exact hfit
    clear hadd hfit h1 ht
    obtain ⟨bytes, hby⟩ : ∃ bytes, bytes = kept ++ added := ⟨_, rfl⟩
    have hbl : bytes.length = kept.length + added.length := by rw [hby, List.length_append]
    have hbl2 : bytes.length ≤ 524288 := by have := HR.out; omega
    have hkb : kept.length ≤ bytes.length := by omega
    rw [← hby] at HOO
    have HBY := Lib.hid hby
    have HBL := Lib.hid hbl
    clear hby hbl
    have hsum : kept.length + added.length ≤ 9223372036854775807 := by have := HR.out; omega
    have c3 := HJ2.out.cell 3 _ rfl
    have e2 : IntKind.u64.wrap ((j.hd.num : Int) + 1) = ((j.hd.num + 1 : Nat) : Int) := by simp only [IntKind.wrap, IntKind.bits, IntKind.signed]; simp; omega
    obtain ⟨nx, hnx⟩ : ∃ nx : Hd, nx = ⟨j.hd.num + 1, half, bytes.length⟩ := ⟨_, rfl⟩
    obtain ⟨q1, q2, q3, q4⟩ := store_new w2 #[Value.int .u64 0, .int .i64 0, .int .i64 0] nx.cells.toArray 85 rfl
    have HTH := Lib.hid q1
    have A12 := Lib.hid q2
    have HJ3 := Lib.hid (HJ2.out.touch q3 (by simp))
    have HB3 := Lib.hid (Touch.below HB2.out q3 (by simp) (Nat.le_refl _))
    have Z3 := Lib.hid q4
    have HNX := Lib.hid hnx
    have hnok : nx.Ok := by rw [hnx]; exact ⟨hh, by show bytes.length ≤ _; omega⟩
    have b6 := HJ3.out.cell 6 _ rfl
    have hw2 := HB2.out.size
    clear q1 q2 q3 q4 hnx HJ2 HB2
    go_wp2_with (first | (with_reducible refine hold_at 35 rfl ?_))
    unfold held
    rw [← HBY.out]
    go_wp2_with (first | (with_reducible refine list_val rfl (build_hd (.tmp 39) (.tmp 40) (.tmp 42) rfl nx (by rw [HNX.out]; kernel_rfl) (by rw [HNX.out]; kernel_rfl) (by rw [HNX.out]; kernel_rfl)) ?_) | (with_reducible refine alloc_agg rfl 85 rfl #[Value.int .u64 0, .int .i64 0, .int .i64 0] zero_hd ?_) | (with_reducible refine wpList_store_mid rfl 85 (.tmp 12) (.tmp 43) rfl w2.heap.size 0 nx.cells.toArray (by kernel_rfl) (by kernel_rfl) HTH.out (by kernel_rfl) (Hd.all nx) ?_))
    refine (HOT.out _).mono ?_
    rintro e w4 ⟨rfl, rfl⟩
    generalize hb12 : w2.heap.size = b12 at *
    generalize (w2.alloc (.cells #[Value.int .u64 0, .int .i64 0, .int .i64 0] 85)).setCells b12 0 nx.cells = w3 at *
    clear HTH HOT e2 c3 hsum
    have hrg := j.place HJ3.out
    have HRG := Lib.hid hrg
    clear hrg b6
    obtain ⟨bd, hbd⟩ : ∃ bd, bd = 1 - j.stands := ⟨_, rfl⟩
    have hbd1 : bd ≤ 1 := by omega
    rw [← hbd]
    have HBD := Lib.hid hbd
    clear hbd
    go_wp2_with (with_reducible refine wpList_load_mid rfl 83 (.tmp 51) rfl J 0 (by kernel_rfl) j.pl.cells _ HRG.out Try.underlying83 rfl (by kernel_rfl) ?_)
    refine (laying_any j.pl HP.out half hh bytes (by omega) kept.length hkb w3).mono ?_
    rintro e w5 ⟨xs, ao, cp, rfl, hOw, hbk, hZ, b5⟩
    have HJ5 := Lib.hid (HJ3.out.below b5 HJ3.out.lt)
    have A125 := Lib.hid (A12.out.below b5 A12.out.lt)
    have hz3 := Z3.out
    have HB5 := Lib.hid (HB3.out.trans (b5.mono (by omega)))
    have HOW := Lib.hid hOw
    have HBK := Lib.hid hbk
    have HZ := Lib.hid hZ
    have hb12l : w.heap.size ≤ b12 := hw2
    have hz35 := b5.size
    clear hOw hbk hZ b5 HJ3 A12 HB3 Z3 HRG hb12
    go_wp2_with fail
    refine region_any (fun W => At W J 87 j.cells ∧ At W b12 85 nx.cells) 30 (by kernel_rfl) ?_
    have S0 : (fun W => At W J 87 j.cells ∧ At W b12 85 nx.cells) w5.drew := ⟨HJ5.out.drew, A125.out.drew⟩
    refine wpAnyT_takeN (i := 0) (v := (.slice ao xs.length cp)) rfl (by decide) (by kernel_rfl) (by kernel_rfl) (by kernel_rfl) (fun _ _ _ h => h) (.inl ⟨by kernel_rfl, fun W hS => by kernel_rfl⟩) S0 ?_
    refine wpAnyT_takeN (i := 1) (v := (.pointer (some ⟨J, 0, none⟩))) rfl (by decide) (by kernel_rfl) (by kernel_rfl) (by kernel_rfl) (fun _ _ _ h => h) (.inl ⟨by kernel_rfl, fun W hS => by kernel_rfl⟩) S0 ?_
    refine wpAnyT_takeN (i := 2) (v := (.pointer (some ⟨J, 0, none⟩))) rfl (by decide) (by kernel_rfl) (by kernel_rfl) (by kernel_rfl) (fun _ _ _ h => h) (.inl ⟨by kernel_rfl, fun W hS => by kernel_rfl⟩) S0 ?_
    refine wpAnyT_takeN (i := 3) (v := (.pointer (some ⟨J, 0, none⟩))) rfl (by decide) (by kernel_rfl) (by kernel_rfl) (by kernel_rfl) (fun _ _ _ h => h) (.inl ⟨by kernel_rfl, fun W hS => by kernel_rfl⟩) S0 ?_
    refine wpAnyT_takeN (i := 4) (v := (.pointer (some ⟨J, 0, none⟩))) rfl (by decide) (by kernel_rfl) (by kernel_rfl) (by kernel_rfl) (fun _ _ _ h => h) (.inl ⟨by kernel_rfl, fun W hS => by kernel_rfl⟩) S0 ?_
    refine wpAnyT_takeN (i := 5) (v := (.pointer (some ⟨D, 0, none⟩))) rfl (by decide) (by kernel_rfl) (by kernel_rfl) (by kernel_rfl) (fun _ _ _ h => h) (.inl ⟨by kernel_rfl, fun W hS => run_load_one 23 (.tmp 62) rfl ⟨J, 0, none⟩ (by kernel_rfl) (.pointer (some ⟨D, 0, none⟩)) (by rw [← hD]; exact hS.1.cell 0 _ rfl) _ Try.underlying23 rfl⟩) S0 ?_
    refine wpAnyT_takeN (i := 6) (v := (flSt D).v) rfl (by decide) (by kernel_rfl) (by kernel_rfl) (by kernel_rfl) (fun _ _ _ h => h) (.inl ⟨by kernel_rfl, fun W hS => by kernel_rfl⟩) S0 ?_
    refine wpAnyT_takeN (i := 7) (v := (.pointer (some ⟨J, 0, none⟩))) rfl (by decide) (by kernel_rfl) (by kernel_rfl) (by kernel_rfl) (fun _ _ _ h => h) (.inl ⟨by kernel_rfl, fun W hS => by kernel_rfl⟩) S0 ?_
    refine wpAnyT_takeN (i := 8) (v := (.pointer (some ⟨J, 0, none⟩))) rfl (by decide) (by kernel_rfl) (by kernel_rfl) (by kernel_rfl) (fun _ _ _ h => h) (.inl ⟨by kernel_rfl, fun W hS => by kernel_rfl⟩) S0 ?_
    refine wpAnyT_takeN (i := 9) (v := (.pointer (some ⟨J, 0, none⟩))) rfl (by decide) (by kernel_rfl) (by kernel_rfl) (by kernel_rfl) (fun _ _ _ h => h) (.inl ⟨by kernel_rfl, fun W hS => by kernel_rfl⟩) S0 ?_
    refine wpAnyT_takeN (i := 10) (v := (Pl.v j.pl)) rfl (by decide) (by kernel_rfl) (by kernel_rfl) (by kernel_rfl) (fun _ _ _ h => h) (.inl ⟨by kernel_rfl, fun W hS => run_load_op 83 (.tmp 67) rfl J 0 (by kernel_rfl) j.pl.cells _ (j.place hS.1) Try.underlying83 rfl (by kernel_rfl)⟩) S0 ?_
    refine wpAnyT_takeN (i := 11) (v := (.pointer (some ⟨J, 0, none⟩))) rfl (by decide) (by kernel_rfl) (by kernel_rfl) (by kernel_rfl) (fun _ _ _ h => h) (.inl ⟨by kernel_rfl, fun W hS => by kernel_rfl⟩) S0 ?_
    refine wpAnyT_takeN (i := 12) (v := (.pointer (some ⟨J, 0, none⟩))) rfl (by decide) (by kernel_rfl) (by kernel_rfl) (by kernel_rfl) (fun _ _ _ h => h) (.inl ⟨by kernel_rfl, fun W hS => by kernel_rfl⟩) S0 ?_
    refine wpAnyT_takeN (i := 13) (v := (.pointer (some ⟨J, 0, none⟩))) rfl (by decide) (by kernel_rfl) (by kernel_rfl) (by kernel_rfl) (fun _ _ _ h => h) (.inl ⟨by kernel_rfl, fun W hS => by kernel_rfl⟩) S0 ?_
    refine wpAnyT_takeN (i := 14) (v := (Pl.v j.pl)) rfl (by decide) (by kernel_rfl) (by kernel_rfl) (by kernel_rfl) (fun _ _ _ h => h) (.inl ⟨by kernel_rfl, fun W hS => run_load_op 83 (.tmp 71) rfl J 0 (by kernel_rfl) j.pl.cells _ (j.place hS.1) Try.underlying83 rfl (by kernel_rfl)⟩) S0 ?_
    refine wpAnyT_takeN (i := 15) (v := (.int .i64 (bd : Int))) rfl (by decide) (by kernel_rfl) (by kernel_rfl) (by kernel_rfl) (fun _ _ _ h => h) (.inl ⟨by kernel_rfl, fun W hS => by kernel_rfl⟩) S0 ?_
    refine wpAnyT_takeN (i := 17) (v := (Hd.v nx)) rfl (by decide) (by kernel_rfl) (by kernel_rfl) (by kernel_rfl) (fun _ _ _ h => h) (.inl ⟨by kernel_rfl, fun W hS => run_load_op 85 (.tmp 12) rfl b12 0 (by kernel_rfl) nx.cells _ hS.2.range0 Try.underlying85 rfl (by kernel_rfl)⟩) S0 ?_
    refine wpAnyT_takeN (i := 20) (v := (.pointer (some ⟨J, 0, none⟩))) rfl (by decide) (by kernel_rfl) (by kernel_rfl) (by kernel_rfl) (fun _ _ _ h => h) (.inl ⟨by kernel_rfl, fun W hS => by kernel_rfl⟩) S0 ?_
    refine wpAnyT_takeN (i := 21) (v := (.pointer (some ⟨J, 0, none⟩))) rfl (by decide) (by kernel_rfl) (by kernel_rfl) (by kernel_rfl) (fun _ _ _ h => h) (.inl ⟨by kernel_rfl, fun W hS => by kernel_rfl⟩) S0 ?_
    refine wpAnyT_takeN (i := 22) (v := (.pointer (some ⟨J, 0, none⟩))) rfl (by decide) (by kernel_rfl) (by kernel_rfl) (by kernel_rfl) (fun _ _ _ h => h) (.inl ⟨by kernel_rfl, fun W hS => by kernel_rfl⟩) S0 ?_
    refine wpAnyT_takeN (i := 23) (v := (.pointer (some ⟨J, 0, none⟩))) rfl (by decide) (by kernel_rfl) (by kernel_rfl) (by kernel_rfl) (fun _ _ _ h => h) (.inl ⟨by kernel_rfl, fun W hS => by kernel_rfl⟩) S0 ?_
    refine wpAnyT_takeN (i := 24) (v := (.pointer (some ⟨D, 0, none⟩))) rfl (by decide) (by kernel_rfl) (by kernel_rfl) (by kernel_rfl) (fun _ _ _ h => h) (.inl ⟨by kernel_rfl, fun W hS => run_load_one 23 (.tmp 81) rfl ⟨J, 0, none⟩ (by kernel_rfl) (.pointer (some ⟨D, 0, none⟩)) (by rw [← hD]; exact hS.1.cell 0 _ rfl) _ Try.underlying23 rfl⟩) S0 ?_
    refine wpAnyT_takeN (i := 25) (v := (flSt D).v) rfl (by decide) (by kernel_rfl) (by kernel_rfl) (by kernel_rfl) (fun _ _ _ h => h) (.inl ⟨by kernel_rfl, fun W hS => by kernel_rfl⟩) S0 ?_
    have P0 := HJ5.out.drew
    have Q0 := A125.out.drew
    have G0 := (Below.refl w5.drew.heap.size w5.drew)
    refine wpAnyT_all (rs := [16]) (by kernel_rfl) (by simp) ?_
    intro q hq
    obtain rfl : q = 16 := by simpa using hq
    refine wpOp_call rfl (by kernel_rfl) 55 #[Pl.v j.pl, .int .i64 (bd : Int)] (run_call_func rfl enter_headAt _ (by kernel_rfl)) ((headAt_any j.pl HP.out bd hbd1 w5.drew).mono ?_)
    rintro e v1 ⟨rfl, c1⟩
    have P1 := P0.below c1 P0.lt
    have Q1 := Q0.below c1 Q0.lt
    have G1 := G0.trans (c1.mono G0.size)
    refine ⟨_, rfl, fun _ => ⟨P1, Q1⟩, ?_⟩
    refine wpAnyT_all (rs := [18]) (by kernel_rfl) (by simp) ?_
    intro q hq
    obtain rfl : q = 18 := by simpa using hq
    refine wpOp_call rfl (by kernel_rfl) 70 #[Hd.v nx] (run_call_func rfl enter_sector _ (by kernel_rfl)) ((sector_any nx hnok v1).mono ?_)
    rintro e v2 ⟨rfl, c2⟩
    have P2 := P1.below c2 P1.lt
    have Q2 := Q1.below c2 Q1.lt
    have G2 := G1.trans (c2.mono G1.size)
    refine ⟨_, rfl, fun _ => ⟨P2, Q2⟩, ?_⟩
    refine wpAnyT_all (rs := [19]) (by kernel_rfl) (by simp) ?_
    intro q hq
    obtain rfl : q = 19 := by simpa using hq
    refine wpOp_call rfl (by kernel_rfl) 69 #[Pl.v j.pl, .int .i64 ((j.pl.at_ + bd : Nat) : Int), .string (bs nx.sec)] (run_call_func rfl enter_writing _ (by kernel_rfl)) ((writing_any j.pl ((j.pl.at_ + bd : Nat) : Int) nx.sec v2).mono ?_)
    rintro e v3 ⟨rfl, W3, z3', c3⟩
    have P3 := P2.below c3 P2.lt
    have Q3 := Q2.below c3 Q2.lt
    have G3 := G2.trans (c3.mono G2.size)
    refine ⟨_, rfl, fun _ => ⟨P3, Q3⟩, ?_⟩
    obtain ⟨iw, hiw, hq0, hq1, hqb⟩ := info_parts info_fn
    refine wpAnyT_all (rs := [26]) (by kernel_rfl) (by simp) ?_
    intro q hq
    obtain rfl : q = 26 := by simpa using hq
    refine wpOp_val rfl (by kernel_rfl) (run_build3_op 111 (.tmp 64) (.tmp 77) (.tmp 83) rfl (flSt D).v (wrSt v2.heap.size).v (flSt D).v (by kernel_rfl) (by kernel_rfl) (by kernel_rfl) (build_three v3 111 34 _ _ _ iw _ Try.underlying111 hiw hq0 hq1 rfl rfl rfl)) ⟨fun _ => ⟨P3.alloc _, Q3.alloc _⟩, ?_⟩
    have t6 := ((Touch.refl [] w5).drew.step (Touch.of_below (ft := []) G3) (by simp)).alloc (.cells #[(flSt D).v, (wrSt v2.heap.size).v, (flSt D).v] 34)
    have o6 := HOW.out.touch t6 (by simp)
    have a6 := At.new v3 #[(flSt D).v, (wrSt v2.heap.size).v, (flSt D).v] 34
    have P6 := P3.alloc (.cells #[(flSt D).v, (wrSt v2.heap.size).v, (flSt D).v] 34)
    have Q6 := Q3.alloc (.cells #[(flSt D).v, (wrSt v2.heap.size).v, (flSt D).v] 34)
    have z6 : (v3.alloc (.cells #[(flSt D).v, (wrSt v2.heap.size).v, (flSt D).v] 34)).heap.size = v3.heap.size + 1 := World.size_alloc _ _
    have u1 := c1.size
    have u2 := c2.size
    have u3 := c3.size
    have hz5' : w5.drew.heap.size = w5.heap.size := rfl
    have W6 : WrAt (v3.alloc (.cells #[(flSt D).v, (wrSt v2.heap.size).v, (flSt D).v] 34)) v2.heap.size j.pl.D ((j.pl.at_ + bd : Nat) : Int) nx.sec := W3.same fun i h1 h2 => by rw [Below.heap_alloc _ _ _ (by omega)]
    have B6 := Touch.below HB5.out t6 (by simp) (Nat.le_refl _)
    generalize v3.alloc (.cells #[(flSt D).v, (wrSt v2.heap.size).v, (flSt D).v] 34) = v6 at *
    have hxl : xs.length ≤ 8000 := by
      have := HZ.out.len
      unfold layOps at this
      rw [layFrom_len] at this
      unfold cntOf at this
      omega
    obtain ⟨ao', cap', v7, hrun, o7, t7, hblk⟩ := run_append_any (P := Try.prog) v6 111 111 34 iw _ 1 8 Try.underlying111 hiw hq0 hq1 hqb rfl (by omega) ao xs.length cp _ o6 v3.heap.size 3 3 _ a6 rfl (by simp [St.v, Value.oneCell']) (by omega) (by unfold maxLen; omega) (by omega)
    have P7 := P6.touch t7 (HOW.out.type HJ5.out (by decide))
    have Q7 := Q6.touch t7 (HOW.out.type A125.out (by decide))
    refine wpAnyT_all (rs := [27]) (by kernel_rfl) (by simp) ?_
    intro q hq
    obtain rfl : q = 27 := by simpa using hq
    refine wpOp_val rfl (by kernel_rfl) (run_append_op (.tmp 58) (.tmp 84) 111 111 rfl (.slice ao xs.length cp) (.slice (some ⟨v3.heap.size, 0, none⟩) 3 3) (by kernel_rfl) (by kernel_rfl) hrun) ⟨fun _ => ⟨P7, Q7⟩, ?_⟩
    have hPG : Below w.heap.size w v7 := Touch.below B6 t7 (fun i hi => by have := HBK.out i hi; omega) (Nat.le_refl _)
    have hPV := H.out.grow hPG
    have hkeep := H.out.keeps hPG
    have hz7 := t7.size
    obtain ⟨g, cur, hao, aB, _, _⟩ := o7.there (by omega)
    subst hao
    have hgw : w.heap.size ≤ g := by
      rcases hblk with hb | ⟨g', hb, hg⟩
      · have : g ∈ blk ao := by rw [← hb]; simp [blk]
        have := HBK.out g this
        omega
      · have : g = g' := by simpa [blk] using hb
        omega
    have hzip : Zip (Is D v7 (fun i => i < v7.heap.size ∧ (av i ∨ w.heap.size ≤ i))) (xs ++ [flSt D, wrSt v2.heap.size, flSt D]) (saveOps j half bytes kept.length) := by
      unfold saveOps
      refine Zip.append (HZ.out.mono fun x d hx => ?_) (.cons .fl (.cons ?_ (.cons .fl .nil)))
      · rw [hD] at hx
        have h1 := hx.off HOW.out (t6.mono (ft2 := blk ao) (by simp)) (av2 := fun i => w.heap.size ≤ i ∧ i < v6.heap.size) (fun i hi => ⟨by omega, by omega⟩)
        exact h1.off o6 t7 (fun i hi => ⟨by omega, .inr hi.1⟩)
      · rw [← HBD.out, ← HNX.out]
        rw [hD] at W6
        refine Is.off (.wr _ _ _ W6 (fun i h1 h2 => ?_) (by rw [Hd.sec_len]; decide)) o6 t7 (av := fun i => w.heap.size ≤ i ∧ i < v6.heap.size) (fun i hi => ⟨by omega, .inr hi.1⟩)
        exact ⟨by omega, by omega⟩
    have hxs3 : (xs ++ [flSt D, wrSt v2.heap.size, flSt D]).length = xs.length + 3 := by simp
    have aB' : At v7 g 34 ((xs ++ [flSt D, wrSt v2.heap.size, flSt D]).map St.v ++ cur) := by rw [List.map_append]; exact aB
    have hcall := inOps_any hPV g cap' (xs ++ [flSt D, wrSt v2.heap.size, flSt D]) (saveOps j half bytes kept.length) cur aB' ⟨aB.lt, .inr hgw⟩ hzip m HM.out (by rw [hxs3]; omega)
    rw [hxs3] at hcall
    refine wpAnyT_all (rs := [28]) (by kernel_rfl) (by simp) ?_
    intro q hq
    obtain rfl : q = 28 := by simpa using hq
    refine wpOp_call rfl (by kernel_rfl) 56 #[.slice (some ⟨g, 0, none⟩) (xs.length + 3) cap'] (run_call_func rfl enter_inOrder _ (by kernel_rfl)) ((hcall).mono ?_)
    rintro e v8 ⟨rfl, hp⟩
    have P8 := hp.2.at P7 ⟨P7.lt, .inl hav⟩
    have Q8 := hp.2.at Q7 ⟨Q7.lt, .inr hb12l⟩
    have HPT := Lib.hid (PrivTo.back hp (fun i hi => ⟨Nat.lt_of_lt_of_le (H.out.1 i hi) hPG.size, .inl hi⟩) hkeep)
    refine ⟨_, rfl, fun _ => ⟨P8, Q8⟩, ?_⟩
    refine wpAnyT_takeN (i := 29) (v := (.int .i64 (runs n s (saveOps j half bytes kept.length)).1)) rfl (by decide) (by kernel_rfl) (by kernel_rfl) (by kernel_rfl) (fun _ _ _ h => h) (.inl ⟨by kernel_rfl, fun W hS => by kernel_rfl⟩) ⟨P8, Q8⟩ ?_
    refine wpAnyT_done (by kernel_rfl) ?_ _
    simp only [Act.put, List.getElem_toArray, List.getElem_cons_succ, List.getElem_cons_zero, List.setIfInBounds_toArray, List.set_cons_zero, List.set_cons_succ]
    have FP := Lib.hid P8
    have FQ := Lib.hid Q8
    clear P8 Q8 hp hcall aB' aB hzip hxs3 hgw hkeep hPV hPG hz7 o7 t7 hblk hrun P7 Q7 P6 Q6 a6 o6 t6 z6 W6 B6 u1 u2 u3 hz5' P3 Q3 G3 W3 z3' c3 P2 Q2 G2 c2 P1 Q1 G1 c1 P0 Q0 G0 S0 hxl HJ5 A125 HB5 HOW HBK HZ hz3 hz35
    generalize (runs n s (saveOps j half bytes kept.length)) = R at *
    by_cases hr0 : R.1 = 0
    · have hO : O = (0, R.2, { j with hd := nx, stands := bd, bytes := bytes }) := by rw [HOO.out, if_pos hr0, HNX.out, HBD.out]
      have HO := Lib.hid hO
      rw [hr0]
      clear hO
      have hrg := FQ.out.range0
      have hth : v8.there J 3 nx.cells.toArray.size := FP.out.there 3 3 (by simp [Jn.cells])
      have a9 := FP.out.setCells nx.cells 3 _ _ (by simp [Jn.cells, Hd.cells])
      rw [splice_hd] at a9
      have k9 := Priv.setCells J hav hJ0 nx.cells 3 v8 HPT.out.1
      have kk9 : Keeps (fun i => av i ∧ i ≠ J) v8 (v8.setCells J 3 nx.cells) := fun i hi => (Touch.setCells (ft := [J]) J (.inl (by simp)) nx.cells 3 v8 (Touch.refl _ _)).block i (HPT.out.1.1 i hi.1) (by simpa using hi.2)
      have f6 := a9.frozen 6
      have d6 := a9.cell 6 _ rfl
      have f7 := a9.frozen 7
      have d7 := a9.cell 7 _ rfl
      have HRG := Lib.hid hrg
      have HTH := Lib.hid hth
      have A9 := Lib.hid a9
      have K9 := Lib.hid k9
      have KK9 := Lib.hid kk9
      clear hrg hth a9 k9 kk9 hr0
      go_wp2_with (first | (with_reducible refine wpList_load_mid rfl 85 (.tmp 12) rfl b12 0 (by kernel_rfl) nx.cells _ HRG.out Try.underlying85 rfl (by kernel_rfl) ?_) | (with_reducible refine wpList_store_mid rfl 85 (.tmp 102) (.tmp 98) rfl J 3 nx.cells.toArray (by kernel_rfl) (by kernel_rfl) HTH.out (by kernel_rfl) (Hd.all nx) ?_))
      go_ret
      rw [HO.out]
      refine ⟨rfl, (K9.out.setCell ⟨J, 6, none⟩ _ hav hJ0).setCell ⟨J, 7, none⟩ _ hav hJ0, (A9.out.setCell 6 _).setCell 7 _, fun i hi => ?_⟩
      rw [Below.heap_setCell _ _ _ _ hi.2, Below.heap_setCell _ _ _ _ hi.2, KK9.out i hi]
      exact HPT.out.2 i hi.1
    · have hO : O = (R.1, R.2, { j with off := decide (R.1 = 11) }) := by rw [HOO.out, if_neg hr0]
      have HO := Lib.hid hO
      have h11 : (R.1 == 0) = false := by simpa using hr0
      have h12 : (R.1 == 11) = decide (R.1 = 11) := by rw [Bool.eq_iff_iff]; simp
      have d8 := FP.out.cell 8 _ rfl
      have f8 := FP.out.frozen 8
      clear hO hr0
      generalize R.1 = r1 at *
      go_wp2
      go_ret
      rw [HO.out]
      refine ⟨rfl, HPT.out.1.setCell ⟨J, 8, none⟩ _ hav hJ0, FP.out.setCell 8 _, fun i hi => ?_⟩
      rw [Below.heap_setCell _ _ _ _ hi.2]
      exact HPT.out.2 i hi.1
  · rw [if_neg hfit]
    rw [if_neg hfit] at HOO
    clear hfit
    go_wp2
    go_ret
    rw [HOO.out]
    exact ⟨rfl, (H.out.below HB2.out).1, HJ2.out, fun i hi => HB2.out.block i (H.out.1 i hi.1)⟩
end
end Go.Proofs.Ytcgjkopdnhkdiaa

namespace Go.Proofs.Ytcgjkopdnhkdiaa
open Go.RowKit
set_option maxRecDepth 100000
def commitL (n : Nat) (s : Dk) (j : Jn) (ts : List (List UInt8)) : Int × Dk × Jn := if j.off then (11, s, j) else if ts = [] then (0, s, j) else saveL n s j j.hd.half j.bytes ts
def rewriteL (n : Nat) (s : Dk) (j : Jn) (ts : List (List UInt8)) : Int × Dk × Jn := if j.off then (11, s, j) else saveL n s j (1 - j.hd.half) [] ts
theorem isNone_nil (w : World) : Calls Try.prog 50 #[.pointer none] w fun e w' => e = .returned (.bool true) ∧ w' = w := by
  go_enter Try.func50, Try.ntmps50
  go_wp2
  go_ret
  exact ⟨rfl, rfl⟩
theorem isNone_any (J : Nat) (j : Jn) (w : World) (hJ : At w J 87 j.cells) : Calls Try.prog 50 #[.pointer (some ⟨J, 0, none⟩)] w fun e w' => e = .returned (.bool false) ∧ w' = w := by
  have c0 := hJ.cell 0 _ rfl
  clear hJ
  go_enter Try.func50, Try.ntmps50
  go_wp2
  go_ret
  exact ⟨rfl, rfl⟩
theorem refuses_nil (w : World) : Calls Try.prog 47 #[.pointer none] w fun e w' => e = .returned (.int .i64 1) ∧ w' = w := by
  go_enter Try.func47, Try.ntmps47
  go_wp2_with fail
  refine (isNone_nil w).mono ?_
  rintro e w1 ⟨rfl, rfl⟩
  go_wp2
  go_ret
  exact ⟨rfl, rfl⟩
theorem refuses_any (J : Nat) (j : Jn) (w : World) (hJ : At w J 87 j.cells) : Calls Try.prog 47 #[.pointer (some ⟨J, 0, none⟩)] w fun e w' => e = .returned (.int .i64 (if j.off then 11 else 0)) ∧ w' = w := by
  have c8 := hJ.cell 8 _ rfl
  have HJ := Lib.hid hJ
  clear hJ
  cases hoff : j.off
  · rw [hoff] at c8
    clear hoff
    go_enter Try.func47, Try.ntmps47
    go_wp2_with fail
    refine (isNone_any J j w HJ.out).mono ?_
    rintro e w1 ⟨rfl, rfl⟩
    go_wp2
    go_ret
    exact ⟨rfl, rfl⟩
  · rw [hoff] at c8
    clear hoff
    go_enter Try.func47, Try.ntmps47
    go_wp2_with fail
    refine (isNone_any J j w HJ.out).mono ?_
    rintro e w1 ⟨rfl, rfl⟩
    go_wp2
    go_ret
    exact ⟨rfl, rfl⟩
theorem commit_nil (w : World) (v : Value) (a : Option Addr) (n cap : Nat) (hv : v = .slice a n cap) : Calls Try.prog 30 #[.pointer none, v] w fun e w' => e = .returned (.int .i64 1) ∧ w' = w := by
  subst hv
  go_enter Try.func30, Try.ntmps30
  go_wp2_with fail
  refine (refuses_nil w).mono ?_
  rintro e w1 ⟨rfl, rfl⟩
  go_wp2
  go_ret
  exact ⟨rfl, rfl⟩
theorem rewrite_nil (w : World) (v : Value) : Calls Try.prog 28 #[.pointer none, v] w fun e w' => e = .returned (.int .i64 1) ∧ w' = w := by
  go_enter Try.func28, Try.ntmps28
  go_wp2_with fail
  refine (refuses_nil w).mono ?_
  rintro e w1 ⟨rfl, rfl⟩
  go_wp2
  go_ret
  exact ⟨rfl, rfl⟩
theorem room_nil (w : World) : Calls Try.prog 34 #[.pointer none] w fun e w' => e = .returned (.int .i64 0) ∧ w' = w := by
  go_enter Try.func34, Try.ntmps34
  go_wp2_with fail
  refine (isNone_nil w).mono ?_
  rintro e w1 ⟨rfl, rfl⟩
  go_wp2
  go_ret
  exact ⟨rfl, rfl⟩
theorem records_nil (w : World) : Calls Try.prog 31 #[.pointer none] w fun e w' => e = .returned (.slice none 0 0) ∧ w' = w := by
  go_enter Try.func31, Try.ntmps31
  go_wp2_with fail
  refine (isNone_nil w).mono ?_
  rintro e w1 ⟨rfl, rfl⟩
  go_wp2
  go_ret
  exact ⟨rfl, rfl⟩
theorem records_any (J : Nat) (j : Jn) (w : World) (hJ : At w J 87 j.cells) (hl : j.bytes.length ≤ 1000000) : Calls Try.prog 31 #[.pointer (some ⟨J, 0, none⟩)] w fun e w' => Below w.heap.size w w' ∧ ∃ v, e = .returned v ∧ Txts w w' v ((textsL j.bytes).getD []) := by
  have c7 := hJ.cell 7 _ rfl
  have HJ := Lib.hid hJ
  clear hJ
  go_enter Try.func31, Try.ntmps31
  go_wp2_with fail
  refine (isNone_any J j w HJ.out).mono ?_
  rintro e w1 ⟨rfl, rfl⟩
  go_wp2_with fail
  refine (textsOf_any j.bytes hl w1).mono ?_
  rintro e w2 ⟨b2, v, rfl, hT⟩
  have HB := Lib.hid b2
  have HT := Lib.hid hT
  clear b2 hT c7
  go_wp2
  go_ret
  exact ⟨HB.out, v, rfl, HT.out⟩
theorem enter_space : ∀ (args : Array Value) (w : World), (callFunc 62 args).run Try.prog w = .ok (.enter 62 args) w := enters_of Try.func62 (by kernel_rfl) rfl
set_option maxHeartbeats 2000000 in
theorem room_any (J : Nat) (j : Jn) (w : World) (hJ : At w J 87 j.cells) (hp : j.pl.Ok) (hl : j.bytes.length ≤ j.pl.span * 128) : Calls Try.prog 34 #[.pointer (some ⟨J, 0, none⟩)] w fun e w' => e = .returned (.int .i64 ((j.pl.span * 128 - j.bytes.length : Nat) : Int)) ∧ Below w.heap.size w w' := by
  have HJ := Lib.hid hJ
  have hp2 := hp.s
  have HP := Lib.hid hp
  have HH := Lib.hid hl
  obtain ⟨room, hr⟩ : ∃ room, room = j.pl.span * 128 - j.bytes.length := ⟨_, rfl⟩
  rw [← hr]
  obtain ⟨sq, hsq⟩ : ∃ sq, sq = j.pl.span * 128 := ⟨_, rfl⟩
  have e1 : IntKind.i64.wrap ((sq : Int) - (j.bytes.length : Int)) = (room : Int) := by rw [IntKind.wrap_i64]; omega
  have hsp := fun w => space_any j.pl hp w
  rw [← hsq] at hsp
  have HSP := Lib.hid hsp
  have E1 := Lib.hid e1
  clear hr hsq hJ hp hl hp2 hsp e1
  go_enter Try.func34, Try.ntmps34
  go_wp2_with fail
  refine (isNone_any J j w HJ.out).mono ?_
  rintro e w1 ⟨rfl, rfl⟩
  go_wp2_with fail
  refine region_any (fun W => At W J 87 j.cells) 12 (by kernel_rfl) ?_
  have S0 : (fun W => At W J 87 j.cells) w1.drew := HJ.out.drew
  refine wpAnyT_takeN (i := 0) (v := (.pointer (some ⟨J, 0, none⟩))) rfl (by decide) (by kernel_rfl) (by kernel_rfl) (by kernel_rfl) (fun _ _ _ h => h) (.inl ⟨by kernel_rfl, fun W hS => by kernel_rfl⟩) S0 ?_
  refine wpAnyT_takeN (i := 1) (v := (.pointer (some ⟨J, 0, none⟩))) rfl (by decide) (by kernel_rfl) (by kernel_rfl) (by kernel_rfl) (fun _ _ _ h => h) (.inl ⟨by kernel_rfl, fun W hS => by kernel_rfl⟩) S0 ?_
  refine wpAnyT_takeN (i := 2) (v := (.pointer (some ⟨J, 0, none⟩))) rfl (by decide) (by kernel_rfl) (by kernel_rfl) (by kernel_rfl) (fun _ _ _ h => h) (.inl ⟨by kernel_rfl, fun W hS => by kernel_rfl⟩) S0 ?_
  refine wpAnyT_takeN (i := 3) (v := (Pl.v j.pl)) rfl (by decide) (by kernel_rfl) (by kernel_rfl) (by kernel_rfl) (fun _ _ _ h => h) (.inl ⟨by kernel_rfl, fun W hS => run_load_op 83 (.tmp 7) rfl J 0 (by kernel_rfl) j.pl.cells _ (j.place hS) Try.underlying83 rfl (by kernel_rfl)⟩) S0 ?_
  refine wpAnyT_takeN (i := 5) (v := (.pointer (some ⟨J, 0, none⟩))) rfl (by decide) (by kernel_rfl) (by kernel_rfl) (by kernel_rfl) (fun _ _ _ h => h) (.inl ⟨by kernel_rfl, fun W hS => by kernel_rfl⟩) S0 ?_
  refine wpAnyT_takeN (i := 6) (v := (.pointer (some ⟨J, 0, none⟩))) rfl (by decide) (by kernel_rfl) (by kernel_rfl) (by kernel_rfl) (fun _ _ _ h => h) (.inl ⟨by kernel_rfl, fun W hS => by kernel_rfl⟩) S0 ?_
  refine wpAnyT_takeN (i := 7) (v := (.pointer (some ⟨J, 7, none⟩))) rfl (by decide) (by kernel_rfl) (by kernel_rfl) (by kernel_rfl) (fun _ _ _ h => h) (.inl ⟨by kernel_rfl, fun W hS => by kernel_rfl⟩) S0 ?_
  refine wpAnyT_takeN (i := 8) (v := (.string (bs j.bytes))) rfl (by decide) (by kernel_rfl) (by kernel_rfl) (by kernel_rfl) (fun _ _ _ h => h) (.inl ⟨by kernel_rfl, fun W hS => run_load_one 9 (.tmp 12) rfl ⟨J, 7, none⟩ (by kernel_rfl) _ (hS.cell 7 _ rfl) _ Try.underlying9 rfl⟩) S0 ?_
  refine wpAnyT_takeN (i := 9) (v := (.int .i64 (j.bytes.length : Int))) rfl (by decide) (by kernel_rfl) (by kernel_rfl) (by kernel_rfl) (fun _ _ _ h => h) (.inl ⟨by kernel_rfl, fun W hS => run_len_str (.tmp 13) rfl j.bytes (by kernel_rfl)⟩) S0 ?_
  refine wpAnyT_all (rs := [4]) (by kernel_rfl) (by simp) ?_
  intro q hq
  obtain rfl : q = 4 := by simpa using hq
  refine wpOp_call rfl (by kernel_rfl) 62 #[Pl.v j.pl] (run_call_func rfl enter_space _ (by kernel_rfl)) ((HSP.out w1.drew).mono ?_)
  rintro e v1 ⟨rfl, c1⟩
  have P1 := HJ.out.drew.below c1 HJ.out.lt
  refine ⟨_, rfl, fun _ => P1, ?_⟩
  refine wpAnyT_takeN (i := 10) (v := (.int .i64 (room : Int))) rfl (by decide) (by kernel_rfl) (by kernel_rfl) (by kernel_rfl) (fun _ _ _ h => h) (.inl ⟨by kernel_rfl, fun W hS => run_sub_op (.tmp 9) (.tmp 14) rfl (sq : Int) (j.bytes.length : Int) (room : Int) (by kernel_rfl) (by kernel_rfl) E1.out⟩) P1 ?_
  refine wpAnyT_takeN (i := 11) (v := (.int .i64 (room : Int))) rfl (by decide) (by kernel_rfl) (by kernel_rfl) (by kernel_rfl) (fun _ _ _ h => h) (.inl ⟨by kernel_rfl, fun W hS => by kernel_rfl⟩) P1 ?_
  refine wpAnyT_done (by kernel_rfl) ?_ _
  simp only [Act.put, List.getElem_toArray, List.getElem_cons_succ, List.getElem_cons_zero, List.setIfInBounds_toArray, List.set_cons_zero, List.set_cons_succ]
  have HB := Lib.hid (Below.drew (Below.refl w1.heap.size w1))
  have HC := Lib.hid (HB.out.trans (c1.mono (Nat.le_refl _)))
  clear P1 c1 S0
  go_wp2
  go_ret
  exact ⟨rfl, HC.out⟩
section
variable {w0 w : World} {av : Nat → Prop} {n D : Nat} {s : Dk}
set_option maxHeartbeats 2000000 in
theorem commit_any (h : Priv w0 w av n D s) (J : Nat) (j : Jn) (hJ : At w J 87 j.cells) (hav : av J) (hJ0 : w0.heap.size ≤ J) (hD : j.pl.D = D) (hp : j.pl.Ok) (hst : j.stands ≤ 1) (hnum : j.hd.num < 1000000000)
    (hh : j.hd.half ≤ 1) (hkp : j.bytes.length ≤ j.pl.span * 128) (a : Option Addr) (ts : List (List UInt8)) (cap : Nat) (ht : (rowsL ts).length ≤ 100000000) (hn : ts.length ≤ 1000000) (h1 : ∀ t ∈ ts, t.length ≤ 1000000) (hL : Lst w a ts)
    (m : Nat) (hm : Lot m s) (hmx : m ≤ 900000) :
    Calls Try.prog 30 #[.pointer (some ⟨J, 0, none⟩), .slice a ts.length cap] w fun e w' => e = .returned (.int .i64 (commitL n s j ts).1) ∧ SaveTo w0 w av n D J (commitL n s j ts) w' := by
  have HC := Lib.hid (save_any h.drew J j hJ.drew hav hJ0 hD hp hst hnum j.hd.half hh j.bytes hkp a ts cap ht hn h1 hL m hm hmx)
  have HRF := Lib.hid (refuses_any J j w hJ)
  obtain ⟨O, hO⟩ : ∃ O, O = commitL n s j ts := ⟨_, rfl⟩
  rw [← hO]
  unfold commitL at hO
  have HO := Lib.hid hO
  have H := Lib.hid h
  have HJ := Lib.hid hJ
  have c4 := hJ.cell 4 _ rfl
  have c7 := hJ.cell 7 _ rfl
  clear hO h hJ hm hL h1 ht
  go_enter Try.func30, Try.ntmps30
  go_wp2_with fail
  refine (HRF.out).mono ?_
  rintro e w1 ⟨rfl, rfl⟩
  cases hoff : j.off
  · rw [hoff] at HO
    by_cases ht0 : ts.length = 0
    · have hnil : ts = [] := List.eq_nil_of_length_eq_zero ht0
      have HO2 := Lib.hid (show O = (0, s, j) by rw [HO.out, if_neg (by decide), if_pos hnil])
      rw [ht0]
      clear hoff hnil ht0 HO c4 c7 HC
      go_wp2
      go_ret
      rw [HO2.out]
      exact ⟨rfl, H.out, HJ.out, Keeps.refl _ _⟩
    · have hne : ts ≠ [] := fun e => ht0 (by rw [e]; rfl)
      have HO2 := Lib.hid (show O = saveL n s j j.hd.half j.bytes ts by rw [HO.out, if_neg (by decide), if_neg hne])
      have ht1 : ((ts.length : Int) == 0) = false := by simp; exact hne
      rw [← HO2.out] at HC
      clear hoff ht0 hne HO
      go_wp2_with fail
      go_still_tail 11, (by kernel_rfl)
      change wpList _ _ _ _ _ w1.drew
      go_wp2_with fail
      refine (HC.out).mono ?_
      rintro e w2 ⟨rfl, h2⟩
      have H2 := Lib.hid h2
      clear h2 c4 c7
      go_wp2
      go_ret
      exact ⟨rfl, H2.out.1, H2.out.2.1, H2.out.2.2⟩
  · rw [hoff] at HO
    have HO2 := Lib.hid (show O = (11, s, j) by rw [HO.out]; simp)
    clear hoff HO c4 c7 HC
    go_wp2
    go_ret
    rw [HO2.out]
    exact ⟨rfl, H.out, HJ.out, Keeps.refl _ _⟩
set_option maxHeartbeats 2000000 in
theorem rewrite_any (h : Priv w0 w av n D s) (J : Nat) (j : Jn) (hJ : At w J 87 j.cells) (hav : av J) (hJ0 : w0.heap.size ≤ J) (hD : j.pl.D = D) (hp : j.pl.Ok) (hst : j.stands ≤ 1) (hnum : j.hd.num < 1000000000)
    (hh : j.hd.half ≤ 1) (a : Option Addr) (ts : List (List UInt8)) (cap : Nat) (ht : (rowsL ts).length ≤ 100000000) (hn : ts.length ≤ 1000000) (h1 : ∀ t ∈ ts, t.length ≤ 1000000) (hL : Lst w a ts)
    (m : Nat) (hm : Lot m s) (hmx : m ≤ 900000) :
    Calls Try.prog 28 #[.pointer (some ⟨J, 0, none⟩), .slice a ts.length cap] w fun e w' => e = .returned (.int .i64 (rewriteL n s j ts).1) ∧ SaveTo w0 w av n D J (rewriteL n s j ts) w' := by
  have HC := Lib.hid (save_any h J j hJ hav hJ0 hD hp hst hnum (1 - j.hd.half) (by omega) [] (Nat.zero_le _) a ts cap ht hn h1 hL m hm hmx)
  have HRF := Lib.hid (refuses_any J j w hJ)
  have HOT := Lib.hid (other_any j.hd.half hh w)
  obtain ⟨bd, hbd⟩ : ∃ bd, bd = 1 - j.hd.half := ⟨_, rfl⟩
  obtain ⟨O, hO⟩ : ∃ O, O = rewriteL n s j ts := ⟨_, rfl⟩
  rw [← hO]
  unfold rewriteL at hO
  rw [← hbd] at hO HC HOT
  have HO := Lib.hid hO
  have H := Lib.hid h
  have HJ := Lib.hid hJ
  have c4 := hJ.cell 4 _ rfl
  have hbs : (⟨#[]⟩ : ByteArray) = bs [] := rfl
  have HBS := Lib.hid hbs
  clear hO h hJ hm hL h1 ht hbd hbs
  go_enter Try.func28, Try.ntmps28
  go_wp2_with fail
  refine (HRF.out).mono ?_
  rintro e w1 ⟨rfl, rfl⟩
  cases hoff : j.off
  · rw [hoff] at HO
    have HO2 := Lib.hid (show O = saveL n s j bd [] ts by rw [HO.out, if_neg (by decide)])
    rw [← HO2.out] at HC
    clear hoff HO
    go_wp2_with fail
    refine (HOT.out).mono ?_
    rintro e w2 ⟨rfl, rfl⟩
    go_wp2_with fail
    refine (HC.out).mono ?_
    rintro e w3 ⟨rfl, h2⟩
    have H2 := Lib.hid h2
    clear h2 c4
    go_wp2
    go_ret
    exact ⟨rfl, H2.out.1, H2.out.2.1, H2.out.2.2⟩
  · rw [hoff] at HO
    have HO2 := Lib.hid (show O = (11, s, j) by rw [HO.out]; simp)
    clear hoff HO c4 HC
    go_wp2
    go_ret
    rw [HO2.out]
    exact ⟨rfl, H.out, HJ.out, Keeps.refl _ _⟩
end
end Go.Proofs.Ytcgjkopdnhkdiaa
