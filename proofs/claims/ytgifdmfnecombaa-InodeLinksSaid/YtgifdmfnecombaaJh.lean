/- However many entries name a file: the walk (tools/gen_ijh.py). -/
import Derived.Test.YtgifdmfnecombaaJm
namespace Go.Proofs.Ytgifdmfnecombaa
open Go.RowKit
set_option maxRecDepth 100000
set_option maxHeartbeats 16000000 in
theorem links_walk (n : Int) (s : ByteArray) (a2 : Option Addr) (len2 cap2 : Nat) (zs : List Int) (w : World) (hn : (Lit.int .u8 n).wf = true) (hs : s.size ≤ 9223372036854775807) (hz : IsRow8 w a2 len2 cap2 zs) :
    Calls Try.prog 6 #[.int .u8 n, .string s, .slice a2 len2 cap2] w fun e w' => e = .returned (.bool true) ∧ Below w.heap.size w w' := by
  obtain ⟨l, rfl⟩ : ∃ l, s = bs l := ⟨s.data.toList, by simp [bs]⟩
  rw [bs_size] at hs
  obtain ⟨m, rfl⟩ : ∃ m : Nat, n = (m : Int) := ⟨n.toNat, by have := hn; simp [Lit.wf, IntKind.min, IntKind.max, IntKind.signed, IntKind.bits] at this; omega⟩
  have hm : m < 256 := by have := hn; simp [Lit.wf, IntKind.min, IntKind.max, IntKind.signed, IntKind.bits] at this; omega
  have hmin : (if (200 : Int) < (l.length : Int) then (200 : Int) else (l.length : Int)) = ((min l.length 200 : Nat) : Int) := by split <;> omega
  obtain ⟨dt, hdt⟩ : ∃ dt, dt = l.take (min l.length 200) := ⟨_, rfl⟩
  have hdl : dt.length ≤ 200 := by rw [hdt, List.length_take]; omega
  obtain ⟨iw, hiw, hz0, hz1, hz2⟩ := info_parts info9
  have HI := Lib.hid (And.intro hiw (And.intro hz0 (And.intro hz1 hz2)))
  have HDT := Lib.hid hdt
  have HMIN := Lib.hid hmin
  have HZ := Lib.hid hz
  obtain ⟨mm, hmm⟩ : ∃ mm, mm = m % 12 := ⟨_, rfl⟩
  have hmm12 : mm < 12 := by omega
  have HMM := Lib.hid hmm
  clear hdt hmin hn hiw hz0 hz1 hz2 hz hmm
  go_enter Try.func6, Try.ntmps6
  go_wp2_with ((with_reducible refine hold_at 25 rfl ?_); unfold held; refine list_val rfl (v := .agg (quotaV 10 300).toArray) (w' := w) (by kernel_rfl) ?_)
  refine (holds_new w w (Below.refl _ w) (fun _ => False) (fun _ h => h.elim) 10 300 (by omega) (by omega) (by omega)).mono ?_
  rintro e w1 ⟨tb, rfl, h1, _⟩
  have H1 := Lib.hid h1
  clear h1
  unfold tabV
  go_wp2_with (first
    | ((with_reducible refine hold_at 31 rfl ?_); unfold held; refine list_val rfl (v := .int .i64 (l.length : Int)) (w' := w1) (lenS_op (.tmp 30) rfl l (by kernel_rfl)) ?_)
    | ((with_reducible refine hold_at 32 rfl ?_); unfold held; refine list_val rfl (v := .int .i64 ((min l.length 200 : Nat) : Int)) (w' := w1) (run_min_op (.tmp 31) (.const (.int .i64 200)) rfl (l.length : Int) 200 _ (by kernel_rfl) (by kernel_rfl) HMIN.out) ?_)
    | ((with_reducible refine hold_at 33 rfl ?_); unfold held; refine list_val rfl (v := .string (bs (l.take (min l.length 200)))) (w' := w1) (hiS_op (.tmp 29) (.tmp 32) rfl l (min l.length 200) (Nat.min_le_left _ _) (by kernel_rfl) (by kernel_rfl)) ?_; rw [← HDT.out]))
  refine (make_ok H1.out (by omega) 1 (by decide) [100] (by decide) (asc_of (by decide)) 2 493 [] (by decide) 2 0 (by kernel_rfl) (by kernel_rfl) ((newD 10 300).made 1 [100] 2 493 []) rfl).mono ?_
  rintro e w2 ⟨rfl, h2, _⟩
  have H2 := Lib.hid h2
  clear h2
  go_wp2_with fail
  refine (make_ok H2.out (by omega) 1 (by decide) [97] (by decide) (asc_of (by decide)) 1 420 [111, 108, 100] (by decide) 3 0 (by kernel_rfl) (by kernel_rfl) (LD [111, 108, 100] [0]) (by kernel_rfl)).mono ?_
  rintro e w3 ⟨rfl, h3, _⟩
  have H3 := Lib.hid h3
  clear h3
  go_wp2_with ((with_reducible refine hold_at 50 rfl ?_); unfold held; refine list_val rfl (v := .slice (some ⟨w3.heap.size, 0, none⟩) 1 1) (w' := w3.alloc (.cells #[.string ⟨#[97]⟩] 9)) (by kernel_rfl) ?_)
  have A3 := At.new w3 #[.string ⟨#[97]⟩] 9
  have B3 := (Below.refl _ w3).alloc (Nat.le_refl _) (.cells #[.string ⟨#[97]⟩] 9)
  obtain ⟨w4, hw4⟩ : ∃ w4, w4 = w3.alloc (.cells #[.string ⟨#[97]⟩] 9) := ⟨_, rfl⟩
  rw [← hw4] at A3 B3 ⊢
  have H4 := (H3.out.fresh B3).sub (av' := fun b => b ∈ blk (some (⟨w3.heap.size, 0, none⟩ : Addr))) (fun b hb => by
    have e : b = w3.heap.size := by simpa [blk] using hb
    exact .inr ⟨by omega, by rw [e]; exact A3.lt⟩)
  have HI4 := Lib.hid H4
  have HB4 := Lib.hid (show ∀ i ∈ blk (some (⟨w3.heap.size, 0, none⟩ : Addr)), w.heap.size ≤ i from fun i hi => by
    have e : i = w3.heap.size := by simpa [blk] using hi
    have := H3.out.size; omega)
  have N4 := Lib.hid (show Nms w4 (some ⟨w3.heap.size, 0, none⟩) 1 (List.range 1) from ⟨by simp, .inr ⟨w3.heap.size, 1, #[.string ⟨#[97]⟩], rfl, Nat.zero_le _, A3, Nat.le_refl _, by unfold maxLen; omega, rfl, by rw [range_one]; rfl⟩⟩)
  clear A3 B3 hw4 H4
  go_wp2_with fail
  go_loopw [12, 13] (fun y i wx => ∃ (k : Nat) (ao : Option Addr) (cap : Nat), y = .slice ao k cap ∧ i = .int .i64 k ∧ 1 ≤ k ∧ k ≤ 1 + mm ∧ Nms wx ao cap (List.range k) ∧ (∀ i ∈ blk ao, w.heap.size ≤ i) ∧ Holds w wx tb (LD [111, 108, 100] (List.range k)) (3 + k) (fun b => b ∈ blk ao)) (fun _ i _ => 13 - (intOf i).toNat)
  case atStart => exact ⟨1, _, _, rfl, rfl, Nat.le_refl _, by omega, N4.out, HB4.out, by rw [show (List.range 1) = [0] from rfl]; exact HI4.out.more (by omega) (by omega)⟩
  case round =>
    obtain ⟨k, ao, cap, rfl, rfl, hk1, hk2, hN, hbk, hH⟩ := hrel
    have HN := Lib.hid hN
    have HBK := Lib.hid hbk
    have HH := Lib.hid hH
    clear hN hbk hH
    obtain ⟨c, hc⟩ : ∃ c : Int, c = ((97 + k : Nat) : Int) := ⟨_, rfl⟩
    have HCC := Lib.hid hc
    clear hc
    by_cases hlt : k < 1 + mm
    · by_cases hpar : k % 2 = 1
      · have hdir : dirOf k = 2 := by unfold dirOf; rw [if_pos hpar]
        go_wp2_with (first
          | ((with_reducible refine hold_at 53 rfl ?_); unfold held; refine list_val rfl (v := .int .u8 (mm : Int)) (w' := wr) (by rw [HMM.out]; exact rem5_op (.tmp 52) (.const (.int .u8 12)) rfl m 12 (by omega) (by omega) (by kernel_rfl) (by kernel_rfl)) ?_)
          | ((with_reducible refine hold_at 54 rfl ?_); unfold held; refine list_val rfl (v := .int .i64 (mm : Int)) (w' := wr) (cv53_op (.tmp 53) rfl mm (by omega) (by kernel_rfl)) ?_)
          | ((with_reducible refine hold_at 55 rfl ?_); unfold held; refine list_val rfl (v := .int .i64 ((1 + mm : Nat) : Int)) (w' := wr) (addN_op (.const (.int .i64 1)) (.tmp 54) rfl 1 mm (by omega) (by kernel_rfl) (by kernel_rfl)) ?_)
          | ((with_reducible refine hold_at 56 rfl ?_); unfold held; refine list_val rfl (v := .bool true) (w' := wr) (lss3_op (.tmp 51) (.tmp 55) rfl (k : Int) ((1 + mm : Nat) : Int) true (by kernel_rfl) (by kernel_rfl) (decide_eq_true (by omega))) ?_)
          | ((with_reducible refine hold_at 60 rfl ?_); unfold held; refine list_val rfl (v := .int .u8 (k : Int)) (w' := wr) (cv35_op (.tmp 59) rfl k (by omega) (by kernel_rfl)) ?_)
          | ((with_reducible refine hold_at 61 rfl ?_); unfold held; refine list_val rfl (v := .int .u8 c) (w' := wr) (by rw [HCC.out]; exact add5_op (.const (.int .u8 97)) (.tmp 60) rfl 97 k (by omega) (by kernel_rfl) (by kernel_rfl)) ?_)
          | ((with_reducible refine hold_at 62 rfl ?_); unfold held; refine list_val rfl (v := .slice (some ⟨wr.heap.size, 0, none⟩) 1 1) (w' := wr.alloc (.cells #[.int .u8 c] 5)) (by kernel_rfl) ?_)
          | ((with_reducible refine hold_at 63 rfl ?_); unfold held; refine list_val rfl (v := .string (bs (nmOf k))) (w' := wr.alloc (.cells #[.int .u8 c] 5)) (by rw [HCC.out]; exact run_convert_op 55 9 (.tmp 62) rfl _ (by kernel_rfl) (conv_nm k (by omega) wr)) ?_)
          | ((with_reducible refine hold_at 65 rfl ?_); unfold held; refine list_val rfl (v := .int .i64 ((k % 2 : Nat) : Int)) (w' := wr.alloc (.cells #[.int .u8 c] 5)) (rem3_op (.tmp 64) (.const (.int .i64 2)) rfl k 2 (by omega) (by omega) (by kernel_rfl) (by kernel_rfl)) ?_)
          | ((with_reducible refine hold_at 66 rfl ?_); unfold held; refine list_val rfl (v := .bool true) (w' := wr.alloc (.cells #[.int .u8 c] 5)) (eql3_op (.tmp 65) (.const (.int .i64 1)) rfl ((k % 2 : Nat) : Int) 1 true (by kernel_rfl) (by kernel_rfl) (decide_eq_true (by omega))) ?_))
        have B5 := (Below.refl _ wr).alloc (Nat.le_refl _) (.cells #[.int .u8 c] 5)
        have H5 := Lib.hid (HH.out.below B5)
        have N5 := Lib.hid (Own.touch HN.out ((Touch.refl [] wr).alloc (.cells #[.int .u8 c] 5)) (by simp))
        obtain ⟨w5, hw5⟩ : ∃ w5, w5 = wr.alloc (.cells #[.int .u8 c] 5) := ⟨_, rfl⟩
        rw [← hw5] at H5 N5 ⊢
        clear B5 hw5
        have hnk : k ∉ List.range k := by simp
        have hjs : ∀ i ∈ List.range k, i < 12 := fun i hi => by have := List.mem_range.mp hi; omega
        obtain ⟨p9, dp9, _, I9, _⟩ := H5.out.ex
        obtain ⟨e1, e2⟩ := LD_link I9 hnk (by omega) hjs
        rw [hdir] at e1 e2
        rw [← List.range_succ] at e2
        have HC := Lib.hid (holds_link H5.out (by omega) 2 (by decide) (nmOf k) (by unfold nmOf; simp) (nm_asc k (by omega)) 3 (by decide))
        rw [e1, e2] at HC
        clear e1 e2 I9 hdir hpar
        refine HC.out.mono ?_
        rintro e w6 ⟨rfl, h6, k6⟩
        have H6 := Lib.hid h6
        have N6 := Lib.hid (show Nms w6 ao cap (List.range k) from own_keep N5.out (fun b hb => k6.block b (Own.lt N5.out b hb) hb))
        clear h6 k6
        go_wp2_with (first
          | ((with_reducible refine hold_at 76 rfl ?_); unfold held; refine list_val rfl (v := .slice (some ⟨w6.heap.size, 0, none⟩) 1 1) (w' := w6.alloc (.cells #[tv (nmOf k)] 9)) (by kernel_rfl) ?_)
          | (with_reducible refine hold_at 77 rfl ?_))
        have A7 := At.new w6 #[tv (nmOf k)] 9
        have B7 := (Below.refl _ w6).alloc (Nat.le_refl _) (.cells #[tv (nmOf k)] 9)
        have H7 := H6.out.below B7
        have N7 := Own.touch N6.out ((Touch.refl [] w6).alloc (.cells #[tv (nmOf k)] 9)) (by simp)
        obtain ⟨w7, hw7⟩ : ∃ w7, w7 = w6.alloc (.cells #[tv (nmOf k)] 9) := ⟨_, rfl⟩
        rw [← hw7] at A7 B7 H7 N7 ⊢
        rw [List.length_range] at N7
        obtain ⟨ao', cap', w8, hrun, o8, t8, hblk⟩ := run_append_any (P := Try.prog) w7 38 38 9 iw _ 1 16 Try.underlying38 HI.out.1 HI.out.2.1 HI.out.2.2.1 HI.out.2.2.2 rfl (by omega) ao k cap _ N7 w6.heap.size 1 1 [tv (nmOf k)] A7 rfl (by simp [tv, Value.oneCell']) (by omega) (by unfold maxLen; omega) (by omega)
        have H8 := H7.touch_fresh t8 (fun b hb => ⟨hb, HBK.out b hb⟩)
        unfold held
        refine list_val rfl (v := .slice ao' (k + 1) cap') (w' := w8) (run_append_op (.tmp 74) (.tmp 76) 38 38 rfl (.slice ao k cap) (.slice (some ⟨w6.heap.size, 0, none⟩) 1 1) (by kernel_rfl) (by kernel_rfl) hrun) ?_
        have HB8 := Lib.hid (show ∀ i ∈ blk ao', w.heap.size ≤ i from fun i hi => by
          rcases hblk with h | ⟨g, h, hg⟩
          · rw [h] at hi; exact HBK.out i hi
          · rw [h] at hi; simp at hi; have := H7.size; omega)
        have HO8 := Lib.hid (show Nms w8 ao' cap' (List.range (k + 1)) by
          unfold Nms
          rw [List.length_range, List.range_succ, List.map_append]
          exact o8)
        have HH8 := Lib.hid ((H8.sub (av' := fun b => b ∈ blk ao') (fun b hb => by
          rcases hblk with h | ⟨g, h, hg⟩
          · rw [h] at hb; exact .inl hb
          · have hlt := Own.lt o8 b hb
            rw [h] at hb; simp at hb; exact .inr ⟨by omega, hlt⟩)))
        clear A7 B7 H7 N7 hw7 hrun o8 t8 hblk H8
        go_wp2_with fail
        go_roundw
        case rel => exact ⟨k + 1, ao', cap', rfl, by go_num, by omega, by omega, HO8.out, HB8.out, HH8.out.more (by omega) (by omega)⟩
        case measure => simp [intOf]; omega
      · have hdir : dirOf k = 1 := by unfold dirOf; rw [if_neg hpar]
        go_wp2_with (first
          | ((with_reducible refine hold_at 53 rfl ?_); unfold held; refine list_val rfl (v := .int .u8 (mm : Int)) (w' := wr) (by rw [HMM.out]; exact rem5_op (.tmp 52) (.const (.int .u8 12)) rfl m 12 (by omega) (by omega) (by kernel_rfl) (by kernel_rfl)) ?_)
          | ((with_reducible refine hold_at 54 rfl ?_); unfold held; refine list_val rfl (v := .int .i64 (mm : Int)) (w' := wr) (cv53_op (.tmp 53) rfl mm (by omega) (by kernel_rfl)) ?_)
          | ((with_reducible refine hold_at 55 rfl ?_); unfold held; refine list_val rfl (v := .int .i64 ((1 + mm : Nat) : Int)) (w' := wr) (addN_op (.const (.int .i64 1)) (.tmp 54) rfl 1 mm (by omega) (by kernel_rfl) (by kernel_rfl)) ?_)
          | ((with_reducible refine hold_at 56 rfl ?_); unfold held; refine list_val rfl (v := .bool true) (w' := wr) (lss3_op (.tmp 51) (.tmp 55) rfl (k : Int) ((1 + mm : Nat) : Int) true (by kernel_rfl) (by kernel_rfl) (decide_eq_true (by omega))) ?_)
          | ((with_reducible refine hold_at 60 rfl ?_); unfold held; refine list_val rfl (v := .int .u8 (k : Int)) (w' := wr) (cv35_op (.tmp 59) rfl k (by omega) (by kernel_rfl)) ?_)
          | ((with_reducible refine hold_at 61 rfl ?_); unfold held; refine list_val rfl (v := .int .u8 c) (w' := wr) (by rw [HCC.out]; exact add5_op (.const (.int .u8 97)) (.tmp 60) rfl 97 k (by omega) (by kernel_rfl) (by kernel_rfl)) ?_)
          | ((with_reducible refine hold_at 62 rfl ?_); unfold held; refine list_val rfl (v := .slice (some ⟨wr.heap.size, 0, none⟩) 1 1) (w' := wr.alloc (.cells #[.int .u8 c] 5)) (by kernel_rfl) ?_)
          | ((with_reducible refine hold_at 63 rfl ?_); unfold held; refine list_val rfl (v := .string (bs (nmOf k))) (w' := wr.alloc (.cells #[.int .u8 c] 5)) (by rw [HCC.out]; exact run_convert_op 55 9 (.tmp 62) rfl _ (by kernel_rfl) (conv_nm k (by omega) wr)) ?_)
          | ((with_reducible refine hold_at 65 rfl ?_); unfold held; refine list_val rfl (v := .int .i64 ((k % 2 : Nat) : Int)) (w' := wr.alloc (.cells #[.int .u8 c] 5)) (rem3_op (.tmp 64) (.const (.int .i64 2)) rfl k 2 (by omega) (by omega) (by kernel_rfl) (by kernel_rfl)) ?_)
          | ((with_reducible refine hold_at 66 rfl ?_); unfold held; refine list_val rfl (v := .bool false) (w' := wr.alloc (.cells #[.int .u8 c] 5)) (eql3_op (.tmp 65) (.const (.int .i64 1)) rfl ((k % 2 : Nat) : Int) 1 false (by kernel_rfl) (by kernel_rfl) (decide_eq_false (by omega))) ?_))
        have B5 := (Below.refl _ wr).alloc (Nat.le_refl _) (.cells #[.int .u8 c] 5)
        have H5 := Lib.hid (HH.out.below B5)
        have N5 := Lib.hid (Own.touch HN.out ((Touch.refl [] wr).alloc (.cells #[.int .u8 c] 5)) (by simp))
        obtain ⟨w5, hw5⟩ : ∃ w5, w5 = wr.alloc (.cells #[.int .u8 c] 5) := ⟨_, rfl⟩
        rw [← hw5] at H5 N5 ⊢
        clear B5 hw5
        have hnk : k ∉ List.range k := by simp
        have hjs : ∀ i ∈ List.range k, i < 12 := fun i hi => by have := List.mem_range.mp hi; omega
        obtain ⟨p9, dp9, _, I9, _⟩ := H5.out.ex
        obtain ⟨e1, e2⟩ := LD_link I9 hnk (by omega) hjs
        rw [hdir] at e1 e2
        rw [← List.range_succ] at e2
        have HC := Lib.hid (holds_link H5.out (by omega) 1 (by decide) (nmOf k) (by unfold nmOf; simp) (nm_asc k (by omega)) 3 (by decide))
        rw [e1, e2] at HC
        clear e1 e2 I9 hdir hpar
        refine HC.out.mono ?_
        rintro e w6 ⟨rfl, h6, k6⟩
        have H6 := Lib.hid h6
        have N6 := Lib.hid (show Nms w6 ao cap (List.range k) from own_keep N5.out (fun b hb => k6.block b (Own.lt N5.out b hb) hb))
        clear h6 k6
        go_wp2_with (first
          | ((with_reducible refine hold_at 76 rfl ?_); unfold held; refine list_val rfl (v := .slice (some ⟨w6.heap.size, 0, none⟩) 1 1) (w' := w6.alloc (.cells #[tv (nmOf k)] 9)) (by kernel_rfl) ?_)
          | (with_reducible refine hold_at 77 rfl ?_))
        have A7 := At.new w6 #[tv (nmOf k)] 9
        have B7 := (Below.refl _ w6).alloc (Nat.le_refl _) (.cells #[tv (nmOf k)] 9)
        have H7 := H6.out.below B7
        have N7 := Own.touch N6.out ((Touch.refl [] w6).alloc (.cells #[tv (nmOf k)] 9)) (by simp)
        obtain ⟨w7, hw7⟩ : ∃ w7, w7 = w6.alloc (.cells #[tv (nmOf k)] 9) := ⟨_, rfl⟩
        rw [← hw7] at A7 B7 H7 N7 ⊢
        rw [List.length_range] at N7
        obtain ⟨ao', cap', w8, hrun, o8, t8, hblk⟩ := run_append_any (P := Try.prog) w7 38 38 9 iw _ 1 16 Try.underlying38 HI.out.1 HI.out.2.1 HI.out.2.2.1 HI.out.2.2.2 rfl (by omega) ao k cap _ N7 w6.heap.size 1 1 [tv (nmOf k)] A7 rfl (by simp [tv, Value.oneCell']) (by omega) (by unfold maxLen; omega) (by omega)
        have H8 := H7.touch_fresh t8 (fun b hb => ⟨hb, HBK.out b hb⟩)
        unfold held
        refine list_val rfl (v := .slice ao' (k + 1) cap') (w' := w8) (run_append_op (.tmp 74) (.tmp 76) 38 38 rfl (.slice ao k cap) (.slice (some ⟨w6.heap.size, 0, none⟩) 1 1) (by kernel_rfl) (by kernel_rfl) hrun) ?_
        have HB8 := Lib.hid (show ∀ i ∈ blk ao', w.heap.size ≤ i from fun i hi => by
          rcases hblk with h | ⟨g, h, hg⟩
          · rw [h] at hi; exact HBK.out i hi
          · rw [h] at hi; simp at hi; have := H7.size; omega)
        have HO8 := Lib.hid (show Nms w8 ao' cap' (List.range (k + 1)) by
          unfold Nms
          rw [List.length_range, List.range_succ, List.map_append]
          exact o8)
        have HH8 := Lib.hid ((H8.sub (av' := fun b => b ∈ blk ao') (fun b hb => by
          rcases hblk with h | ⟨g, h, hg⟩
          · rw [h] at hb; exact .inl hb
          · have hlt := Own.lt o8 b hb
            rw [h] at hb; simp at hb; exact .inr ⟨by omega, hlt⟩)))
        clear A7 B7 H7 N7 hw7 hrun o8 t8 hblk H8
        go_wp2_with fail
        go_roundw
        case rel => exact ⟨k + 1, ao', cap', rfl, by go_num, by omega, by omega, HO8.out, HB8.out, HH8.out.more (by omega) (by omega)⟩
        case measure => simp [intOf]; omega
    · obtain rfl : k = 1 + mm := by omega
      go_wp2_with (first
        | ((with_reducible refine hold_at 53 rfl ?_); unfold held; refine list_val rfl (v := .int .u8 (mm : Int)) (w' := wr) (by rw [HMM.out]; exact rem5_op (.tmp 52) (.const (.int .u8 12)) rfl m 12 (by omega) (by omega) (by kernel_rfl) (by kernel_rfl)) ?_)
        | ((with_reducible refine hold_at 54 rfl ?_); unfold held; refine list_val rfl (v := .int .i64 (mm : Int)) (w' := wr) (cv53_op (.tmp 53) rfl mm (by omega) (by kernel_rfl)) ?_)
        | ((with_reducible refine hold_at 55 rfl ?_); unfold held; refine list_val rfl (v := .int .i64 ((1 + mm : Nat) : Int)) (w' := wr) (addN_op (.const (.int .i64 1)) (.tmp 54) rfl 1 mm (by omega) (by kernel_rfl) (by kernel_rfl)) ?_)
        | ((with_reducible refine hold_at 56 rfl ?_); unfold held; refine list_val rfl (v := .bool false) (w' := wr) (lss3_op (.tmp 51) (.tmp 55) rfl ((1 + mm : Nat) : Int) ((1 + mm : Nat) : Int) false (by kernel_rfl) (by kernel_rfl) (decide_eq_false (by omega))) ?_))
      have HC := Lib.hid (holds_write HH.out (by omega) 3 (by decide) dt (by omega))
      have hw2 := LD_write [111, 108, 100] dt (List.range (1 + mm)) (by decide) hdl
      rw [hw2.1, hw2.2] at HC
      clear hw2
      refine HC.out.mono ?_
      rintro e w6 ⟨rfl, h6, k6⟩
      have H6 := Lib.hid h6
      have N6 := Lib.hid (show Nms w6 ao cap (List.range (1 + mm)) from own_keep HN.out (fun b hb => k6.block b (Own.lt HN.out b hb) hb))
      clear h6 k6
      go_wp2_with fail
      refine (holds_used H6.out).mono ?_
      rintro e w7 ⟨rfl, b7⟩
      rw [(LD_used dt (List.range (1 + mm))).1, (LD_used dt (List.range (1 + mm))).2]
      have H7 := Lib.hid (H6.out.below b7)
      have N7 := Lib.hid (show Nms w7 ao cap (List.range (1 + mm)) from own_keep N6.out (fun b hb => b7.block b (Own.lt N6.out b hb)))
      clear b7
      go_wp2_with (first
        | ((with_reducible refine hold_at 87 rfl ?_); unfold held; refine list_val_g (by kernel_rfl) (v := .int .i64 (dt.length : Int)) (w' := w7) (lenS_op (.tmp 86) rfl dt (by kernel_rfl)) ?_)
        | ((with_reducible refine hold_at 88 rfl ?_); unfold held; refine list_val_g (by kernel_rfl) (v := .agg (quotaV 3 (dt.length : Int)).toArray) (w' := w7) (by kernel_rfl) ?_)
        | ((with_reducible refine hold_at 89 rfl ?_); unfold held; refine list_val_g (by kernel_rfl) (v := .bool false) (w' := w7) (run_bin_op .neq 25 25 (.tmp 85) (.tmp 88) rfl (.agg (quotaV 3 (dt.length : Int)).toArray) (.agg (quotaV 3 (dt.length : Int)).toArray) _ (by kernel_rfl) (by kernel_rfl) (by kernel_rfl) (quota_neq _ _ _)) ?_))
      go_loopw [12, 16] (fun y i wx => ∃ (js : List Nat) (ao : Option Addr) (cap k n : Nat), y = .slice ao js.length cap ∧ i = .int .i64 k ∧ js.length + k = 1 + mm ∧ js.Nodup ∧ (∀ i ∈ js, i < 12) ∧ Nms wx ao cap js ∧ (∀ i ∈ blk ao, w.heap.size ≤ i) ∧ Holds w wx tb (LX dt js) n (fun b => b ∈ blk ao) ∧ n + 2 * js.length ≤ 100) (fun _ i _ => 13 - (intOf i).toNat)
      case atStart =>
        refine ⟨List.range (1 + mm), ao, cap, 0, 3 + (1 + mm) + 1, by rw [List.length_range], rfl, by simp, List.nodup_range, (fun i hi => by have := List.mem_range.mp hi; omega), N7.out, HBK.out, ?_, by rw [List.length_range]; omega⟩
        rw [show LX dt (List.range (1 + mm)) = LD dt (List.range (1 + mm)) from if_neg (by intro h; have := congrArg List.length h; simp at this)]
        exact H7.out
      case round =>
        obtain ⟨js, ao, cap, k, n, rfl, rfl, hjk, hnd, hjs, hN, hbk, hH, hn⟩ := hrel
        have HND := Lib.hid hnd
        have HJS := Lib.hid hjs
        have HN := Lib.hid hN
        have HBK := Lib.hid hbk
        have HH := Lib.hid hH
        have hjk2 : js.length + k ≤ 1 + mm := by omega
        have HJK := Lib.hid hjk
        clear hnd hjs hN hbk hH hjk H6 H7 N6 N7 HC
        by_cases h0 : js = []
        · subst h0
          have HLX := Lib.hid (show (LX dt []).ino 3 = none from rfl)
          clear hjk2
          go_wp2_with fail
          refine (node_ok HH.out 3 (by decide) none HLX.out).mono ?_
          rintro e w8 ⟨rfl, b8⟩
          have H8 := Lib.hid (HH.out.below b8)
          clear b8
          go_wp2_with (first
            | ((with_reducible refine alloc_any rfl 35 rfl _ zero_ino ?_); intro u hu bu zu; have HU := Lib.hid hu; have BU := Lib.hid (H8.out.fresh bu); clear hu bu)
            | ((with_reducible refine hold_none rfl ?_); unfold held; refine store_any rfl 35 (.tmp 23) (.tmp 179) rfl w8.heap.size (by kernel_rfl) (toldV none) (by kernel_rfl) _ HU.out rfl info_ino (told_one _) ?_; intro u9 hu9 tu9; have hk := fun (b : Nat) (hb : b ∈ [w8.heap.size]) => (show (b ∈ blk ao ∨ (w8.heap.size ≤ b ∧ b < u.heap.size)) ∧ w.heap.size ≤ b from by (obtain rfl := List.mem_singleton.mp hb); exact ⟨.inr (by rw [zu]; omega), H8.out.size⟩); have HT9 := Lib.hid (BU.out.touch tu9 hk); clear hu9 tu9 hk))
          refine (holds_used HT9.out).mono ?_
          rintro e w9 ⟨rfl, b9⟩
          have HB9 := Lib.hid (HT9.out.below b9).b
          rw [show (LX dt []).inodes = 2 from rfl, show (LX dt []).bytes = 0 from rfl]
          clear b9
          go_wp2_with (first
            | ((with_reducible refine hold_at 186 rfl ?_); unfold held; refine list_val_g (by kernel_rfl) (v := .agg (quotaV 2 0).toArray) (w' := w9) (by kernel_rfl) ?_)
            | ((with_reducible refine hold_at 187 rfl ?_); unfold held; refine list_val_g (by kernel_rfl) (v := .bool true) (w' := w9) (by kernel_rfl) ?_))
          refine (works7_any w9).mono ?_
          rintro e w10 ⟨rfl, b10⟩
          have HB10 := Lib.hid (HB9.out.trans (b10.mono HB9.out.size))
          clear b10
          go_wp2_with fail
          go_ret
          exact ⟨rfl, HB10.out⟩
        · have hpos : (0 : Int) < js.length := by have := List.length_pos_iff.mpr h0; omega
          have hposn : 0 < js.length := List.length_pos_iff.mpr h0
          have HH := Lib.hid (show Holds w wr tb (LD dt js) n (fun b => b ∈ blk ao) by have := HH.out; rwa [show LX dt js = LD dt js from if_neg h0] at this)
          obtain ⟨g, rfl, hcap, hcell⟩ := Nms.there HN.out h0
          have HCELL := Lib.hid hcell
          have H00 := Lib.hid h0
          clear hcell h0
          go_wp2_with fail
          refine (holds_node HH.out 3 (by decide)).mono ?_
          rintro e w8 ⟨rfl, b8⟩
          have H8 := Lib.hid (HH.out.below b8)
          have N8 := Lib.hid (show Nms w8 (some ⟨g, 0, none⟩) cap js from own_keep HN.out (fun b hb => b8.block b (Own.lt HN.out b hb)))
          rw [(LD_ino dt js).1, (LD_ino dt js).2]
          obtain ⟨cs, hcs⟩ : ∃ cs, cs = [Value.int .i64 1, .int .i64 420, .string (bs dt), .int .i64 (js.length : Int)] := ⟨_, rfl⟩
          rw [← hcs]
          have HCS := Lib.hid hcs
          clear b8 hcs
          go_wp2_with (first
            | ((with_reducible refine alloc_any rfl 35 rfl _ zero_ino ?_); intro u hu bu zu; have HU := Lib.hid hu; have BU := Lib.hid (H8.out.fresh bu); have NU := Lib.hid (show Nms u (some ⟨g, 0, none⟩) cap js from own_keep N8.out (fun b hb => bu.block b (Own.lt N8.out b hb))); clear hu bu)
            | ((with_reducible refine hold_none rfl ?_); unfold held; refine store_any rfl 35 (.tmp 17) (.tmp 100) rfl w8.heap.size (by kernel_rfl) cs (by kernel_rfl) _ HU.out (by rw [HCS.out]; rfl) (by rw [HCS.out]; exact info_ino) (by rw [HCS.out]; intro v hv; simp only [List.mem_cons, List.not_mem_nil, or_false] at hv; rcases hv with rfl | rfl | rfl | rfl <;> rfl) ?_; intro u9 hu9 tu9; have hk := fun (b : Nat) (hb : b ∈ [w8.heap.size]) => (show (b ∈ blk (some (⟨g, 0, none⟩ : Addr)) ∨ (w8.heap.size ≤ b ∧ b < u.heap.size)) ∧ w.heap.size ≤ b from by (obtain rfl := List.mem_singleton.mp hb); exact ⟨.inr (by rw [zu]; omega), H8.out.size⟩); have HT9 := Lib.hid ((BU.out.touch tu9 hk).sub (av' := fun b => b ∈ blk (some (⟨g, 0, none⟩ : Addr))) (fun b hb => .inl hb)); have N9 := Lib.hid (Own.touch NU.out tu9 (fun b hb hm => by have := Own.lt N8.out b hb; have := List.mem_singleton.mp hm; omega)); rw [HCS.out] at hu9; have c3 := hu9.cell 3 (.int .i64 (js.length : Int)) rfl; have c2 := hu9.cell 2 (.string (bs dt)) rfl; clear hu9 tu9 hk)
            | (with_reducible refine hold_at 119 rfl ?_))
          clear c2 c3
          unfold held
          have hcl : ∀ i j, js[i]? = some j → u9.cell? ((⟨g, 0, none⟩ : Addr).add i) = some (tv (nmOf j)) := by
            obtain ⟨g', e, _, h⟩ := Nms.there (js := js) N9.out H00.out
            cases e
            exact h
          have HCL := Lib.hid hcl
          clear hcl HCELL
          by_cases hko : k < len2
          · have hko2 : (k : Int) < len2 := by omega
            obtain ⟨x, z, rfl, hz256, hzc⟩ := row8_at HZ.out hko
            have hzc9 := Lib.hid (cell_old HT9.out.b hzc)
            clear hzc
            obtain ⟨ii, hii⟩ : ∃ ii, ii = z % js.length := ⟨_, rfl⟩
            have hil : ii < js.length := by rw [hii]; exact Nat.mod_lt _ hposn
            have HII := Lib.hid hii
            clear hii
            obtain ⟨j, hj⟩ : ∃ j, js[ii]? = some j := ⟨_, List.getElem?_eq_getElem hil⟩
            have hj12 : j < 12 := HJS.out j (List.mem_of_getElem? hj)
            have HJ := Lib.hid hj
            clear hj
            by_cases hpar : j % 2 = 1
            · have hdir : dirOf j = 2 := by unfold dirOf; rw [if_pos hpar]
              have HPAR := Lib.hid hpar
              have HDIR := Lib.hid hdir
              clear hpar hdir
              go_wp2_with (first
                | ((with_reducible refine hold_at 120 rfl ?_); unfold held; refine list_val rfl (v := .bool true) (w' := u9) (lss3_op (.tmp 117) (.tmp 119) rfl (k : Int) (len2 : Int) true (by kernel_rfl) (by kernel_rfl) (decide_eq_true hko2)) ?_)
                | ((with_reducible refine hold_at 123 rfl ?_); unfold held; refine list_val rfl (v := .pointer (some (x.add k))) (w' := u9) (run_index_op 55 5 (.tmp 121) (.tmp 122) rfl x len2 cap2 k (by kernel_rfl) (by kernel_rfl) hko 1 _ (by rw [Nat.mul_one]) Try.underlying55 (by kernel_rfl)) ?_)
                | ((with_reducible refine hold_at 124 rfl ?_); unfold held; refine list_val rfl (v := .int .u8 (z : Int)) (w' := u9) (run_load_one 5 (.tmp 123) rfl (x.add k) (by kernel_rfl) _ hzc9.out _ Try.underlying5 rfl) ?_)
                | ((with_reducible refine hold_at 125 rfl ?_); unfold held; refine list_val rfl (v := .int .i64 (z : Int)) (w' := u9) (cv53_op (.tmp 124) rfl z hz256 (by kernel_rfl)) ?_)
                | ((with_reducible refine hold_at 128 rfl ?_); unfold held; refine list_val rfl (v := .int .i64 (ii : Int)) (w' := u9) (by rw [HII.out]; exact rem3_op (.tmp 125) (.tmp 127) rfl z js.length (by omega) hposn (by kernel_rfl) (by kernel_rfl)) ?_)
                | ((with_reducible refine hold_at 131 rfl ?_); unfold held; refine list_val rfl (v := .pointer (some ((⟨g, 0, none⟩ : Addr).add ii))) (w' := u9) (run_index_op 38 9 (.tmp 129) (.tmp 130) rfl ⟨g, 0, none⟩ js.length cap ii (by kernel_rfl) (by kernel_rfl) hil 1 _ (by rw [Nat.mul_one]) Try.underlying38 (by kernel_rfl)) ?_)
                | ((with_reducible refine hold_at 132 rfl ?_); unfold held; refine list_val rfl (v := tv (nmOf j)) (w' := u9) (run_load_one 9 (.tmp 131) rfl ((⟨g, 0, none⟩ : Addr).add ii) (by kernel_rfl) _ (HCL.out ii j HJ.out) _ Try.underlying9 rfl) ?_)
                | ((with_reducible refine hold_at 133 rfl ?_); unfold held; refine list_val rfl (v := .int .u8 ((97 + j : Nat) : Int)) (w' := u9) (index_byte (.tmp 132) (.const (.int .i64 0)) rfl j hj12 (by kernel_rfl) (by kernel_rfl)) ?_)
                | ((with_reducible refine hold_at 134 rfl ?_); unfold held; refine list_val rfl (v := .int .u8 (j : Int)) (w' := u9) (sub5r_op (.tmp 133) (.const (.int .u8 97)) rfl (97 + j) 97 j (by omega) rfl (by kernel_rfl) (by kernel_rfl)) ?_)
                | ((with_reducible refine hold_at 135 rfl ?_); unfold held; refine list_val rfl (v := .int .u8 ((j % 2 : Nat) : Int)) (w' := u9) (rem5_op (.tmp 134) (.const (.int .u8 2)) rfl j 2 (by omega) (by omega) (by kernel_rfl) (by kernel_rfl)) ?_)
                | (with_reducible refine hold_at 136 rfl ?_))
              unfold held
              refine list_val rfl (v := .bool true) (w' := u9) (eql5_op (.tmp 135) (.const (.int .u8 1)) rfl ((j % 2 : Nat) : Int) 1 true (by kernel_rfl) (by kernel_rfl) (decide_eq_true (by have := HPAR.out; omega))) ?_
              go_wp2_with (first
                | ((with_reducible refine hold_at 143 rfl ?_); unfold held; refine list_val rfl (v := .pointer (some ((⟨g, 0, none⟩ : Addr).add ii))) (w' := u9) (run_index_op 38 9 (.tmp 141) (.tmp 142) rfl ⟨g, 0, none⟩ js.length cap ii (by kernel_rfl) (by kernel_rfl) hil 1 _ (by rw [Nat.mul_one]) Try.underlying38 (by kernel_rfl)) ?_)
                | ((with_reducible refine hold_at 144 rfl ?_); unfold held; refine list_val rfl (v := tv (nmOf j)) (w' := u9) (run_load_one 9 (.tmp 143) rfl ((⟨g, 0, none⟩ : Addr).add ii) (by kernel_rfl) _ (HCL.out ii j HJ.out) _ Try.underlying9 rfl) ?_))
              have HJM := Lib.hid (List.mem_of_getElem? HJ.out)
              obtain ⟨p9, dp9, _, I9, _⟩ := HT9.out.ex
              have HFD := Lib.hid (LD_find I9 HJM.out)
              have HUN := Lib.hid (LD_unlink I9 HND.out HJ.out HJS.out)
              rw [HDIR.out] at HFD HUN
              clear I9
              change Calls Try.prog 12 #[tabV tb, .int .i64 2, .string (bs (nmOf j))] _ _
              have HCF := Lib.hid (holds_find HT9.out 2 (by decide) (nmOf j) (by unfold nmOf maxLen; simp))
              rw [HFD.out] at HCF
              refine HCF.out.mono ?_
              rintro e w10 ⟨rfl, b10⟩
              have H10 := Lib.hid (HT9.out.below b10)
              have N10 := Lib.hid (show Nms w10 (some ⟨g, 0, none⟩) cap js from own_keep N9.out (fun b hb => b10.block b (Own.lt N9.out b hb)))
              have HCL10 := Lib.hid (show ∀ i j, js[i]? = some j → w10.cell? ((⟨g, 0, none⟩ : Addr).add i) = some (tv (nmOf j)) by
                obtain ⟨g', e, _, h⟩ := Nms.there (js := js) N10.out H00.out
                cases e
                exact h)
              clear b10
              go_wp2_with (first
                | ((with_reducible refine hold_at 160 rfl ?_); unfold held; refine list_val_g (by kernel_rfl) (v := .pointer (some ((⟨g, 0, none⟩ : Addr).add ii))) (w' := w10) (run_index_op 38 9 (.tmp 158) (.tmp 159) rfl ⟨g, 0, none⟩ js.length cap ii (by kernel_rfl) (by kernel_rfl) hil 1 _ (by rw [Nat.mul_one]) Try.underlying38 (by kernel_rfl)) ?_)
                | ((with_reducible refine hold_at 161 rfl ?_); unfold held; refine list_val_g (by kernel_rfl) (v := tv (nmOf j)) (w' := w10) (run_load_one 9 (.tmp 160) rfl ((⟨g, 0, none⟩ : Addr).add ii) (by kernel_rfl) _ (HCL10.out ii j HJ.out) _ Try.underlying9 rfl) ?_))
              change Calls Try.prog 17 #[tabV tb, .int .i64 2, .string (bs (nmOf j))] _ _
              have HCU := Lib.hid (holds_unlink H10.out (by omega) 2 (by decide) (nmOf j) (by unfold nmOf maxLen; simp))
              rw [HUN.out.1, HUN.out.2] at HCU
              refine HCU.out.mono ?_
              rintro e w11 ⟨rfl, h11, k11⟩
              have H11 := Lib.hid h11
              have N11 := Lib.hid (show Nms w11 (some ⟨g, 0, none⟩) cap js from own_keep N10.out (fun b hb => k11.block b (Own.lt N10.out b hb) hb))
              clear h11 k11
              go_wp2_with fail
              have HX11 := Lib.hid (H11.out.below (below_dr w11))
              have hcl11 : ∀ i j, js[i]? = some j → w11.drew.cell? ((⟨g, 0, none⟩ : Addr).add i) = some (tv (nmOf j)) := by
                obtain ⟨g', e, _, h⟩ := Nms.there (js := js) N11.out H00.out
                cases e
                exact h
              have hg11 : g < w11.drew.heap.size := Own.lt N11.out g (by simp [blk])
              obtain ⟨ao1, cap1, u2, ao2, cap2, u3, r1, r2, n3, k3, h3⟩ := cut_runs w w11.drew g cap js ii hil hcap (by omega) hg11 hcl11
              have h3' := h3 _ _ _ HX11.out
              have hs11 := HX11.out.size
              refine region_any (fun _ => True) 11 (by kernel_rfl) ?_
              show wpAnyT _ _ _ _ _ _ _ _ _ w11.drew
              generalize w11.drew = v0 at r1 k3 hs11 ⊢
              refine wpAnyT_takeN (i := 1) (v := .slice (some ⟨g, 0, none⟩) js.length cap) rfl (by decide) (by kernel_rfl) (by kernel_rfl) (by kernel_rfl) (fun _ _ _ h => h) (.inl ⟨by kernel_rfl, fun W hS => by kernel_rfl⟩) trivial ?_
              refine wpAnyT_takeN (i := 2) (v := .int .i64 (ii : Int)) rfl (by decide) (by kernel_rfl) (by kernel_rfl) (by kernel_rfl) (fun _ _ _ h => h) (.inl ⟨by kernel_rfl, fun W hS => by kernel_rfl⟩) trivial ?_
              refine wpAnyT_takeN (i := 3) (v := .slice (some ⟨g, 0, none⟩) ii cap) rfl (by decide) (by kernel_rfl) (by kernel_rfl) (by kernel_rfl) (fun _ _ _ h => h) (.inl ⟨by kernel_rfl, fun W hS => rowHi_op (.tmp 166) (.tmp 167) rfl ⟨g, 0, none⟩ js.length cap ii (by omega) (by kernel_rfl) (by kernel_rfl)⟩) trivial ?_
              refine wpAnyT_takeN (i := 5) (v := .slice (some ⟨g, 0, none⟩) js.length cap) rfl (by decide) (by kernel_rfl) (by kernel_rfl) (by kernel_rfl) (fun _ _ _ h => h) (.inl ⟨by kernel_rfl, fun W hS => by kernel_rfl⟩) trivial ?_
              refine wpAnyT_takeN (i := 6) (v := .int .i64 (ii : Int)) rfl (by decide) (by kernel_rfl) (by kernel_rfl) (by kernel_rfl) (fun _ _ _ h => h) (.inl ⟨by kernel_rfl, fun W hS => by kernel_rfl⟩) trivial ?_
              refine wpAnyT_takeN (i := 7) (v := .int .i64 ((ii + 1 : Nat) : Int)) rfl (by decide) (by kernel_rfl) (by kernel_rfl) (by kernel_rfl) (fun _ _ _ h => h) (.inl ⟨by kernel_rfl, fun W hS => addN_op (.tmp 171) (.const (.int .i64 1)) rfl ii 1 (by omega) (by kernel_rfl) (by kernel_rfl)⟩) trivial ?_
              refine wpAnyT_takeN (i := 8) (v := .slice (some (lowA ⟨g, 0, none⟩ (ii + 1) cap)) (js.length - (ii + 1)) (cap - (ii + 1))) rfl (by decide) (by kernel_rfl) (by kernel_rfl) (by kernel_rfl) (fun _ _ _ h => h) (.inl ⟨by kernel_rfl, fun W hS => rowLo_op (.tmp 170) (.tmp 172) rfl ⟨g, 0, none⟩ js.length cap (ii + 1) (by omega) (by omega) (by kernel_rfl) (by kernel_rfl)⟩) trivial ?_
              refine wpAnyT_val (i := 0) (v := .slice (some ⟨v0.heap.size, 0, none⟩) 0 0) (w' := v0.alloc (.cells #[] 9)) (by kernel_rfl) rfl (by kernel_rfl) (by kernel_rfl) ⟨trivial, ?_⟩
              refine wpAnyT_val (i := 4) (v := .slice ao1 ii cap1) (w' := u2) (by kernel_rfl) rfl (by kernel_rfl) (run_append_op (.tmp 165) (.tmp 168) 38 38 rfl _ _ (by kernel_rfl) (by kernel_rfl) r1) ⟨trivial, ?_⟩
              refine wpAnyT_val (i := 9) (v := .slice ao2 (js.length - 1) cap2) (w' := u3) (by kernel_rfl) rfl (by kernel_rfl) (run_append_op (.tmp 169) (.tmp 173) 38 38 rfl _ _ (by kernel_rfl) (by kernel_rfl) r2) ⟨trivial, ?_⟩
              refine wpAnyT_takeN (i := 10) (v := .slice ao2 (js.length - 1) cap2) rfl (by decide) (by kernel_rfl) (by kernel_rfl) (by kernel_rfl) (fun _ _ _ h => h) (.inl ⟨by kernel_rfl, fun W hS => by kernel_rfl⟩) trivial ?_
              refine wpAnyT_done (by kernel_rfl) ?_ _
              simp only [Act.put, List.getElem_toArray, List.getElem_cons_succ, List.getElem_cons_zero, List.setIfInBounds_toArray, List.set_cons_zero, List.set_cons_succ]
              obtain ⟨rest, hrest⟩ : ∃ rest, rest = js.take ii ++ js.drop (ii + 1) := ⟨_, rfl⟩
              have hrl : rest.length = js.length - 1 := by rw [hrest, List.length_append, List.length_take, List.length_drop]; omega
              rw [← hrest] at n3 h3'
              have HR1 := Lib.hid n3
              have HR2 := Lib.hid k3
              have HR3 := Lib.hid h3'
              have HR4 := Lib.hid hrl
              have HR5 := Lib.hid (show rest.Nodup ∧ ∀ i ∈ rest, i < 12 from by
                rw [hrest]
                refine ⟨?_, fun i hi => ?_⟩
                · rw [← filter_ne HND.out HJ.out]; exact HND.out.filter _
                · rcases List.mem_append.mp hi with h | h
                  · exact HJS.out i (List.mem_of_mem_take h)
                  · exact HJS.out i (List.mem_of_mem_drop h))
              have HS11 := Lib.hid hs11
              clear n3 k3 h3 h3' r1 r2 hrest hrl hcl11 hg11 hs11
              go_wp2_with fail
              go_roundw
              case rel =>
                refine ⟨rest, ao2, cap2, k + 1, n + 1, by rw [HR4.out], by go_num, by rw [HR4.out]; have := HJK.out; omega, HR5.out.1, HR5.out.2, HR1.out, fun i hi => Nat.le_trans HS11.out (HR2.out i hi), HR3.out, by rw [HR4.out]; omega⟩
              case measure => simp [intOf]; omega
            · have hdir : dirOf j = 1 := by unfold dirOf; rw [if_neg hpar]
              have HPAR := Lib.hid hpar
              have HDIR := Lib.hid hdir
              clear hpar hdir
              go_wp2_with (first
                | ((with_reducible refine hold_at 120 rfl ?_); unfold held; refine list_val rfl (v := .bool true) (w' := u9) (lss3_op (.tmp 117) (.tmp 119) rfl (k : Int) (len2 : Int) true (by kernel_rfl) (by kernel_rfl) (decide_eq_true hko2)) ?_)
                | ((with_reducible refine hold_at 123 rfl ?_); unfold held; refine list_val rfl (v := .pointer (some (x.add k))) (w' := u9) (run_index_op 55 5 (.tmp 121) (.tmp 122) rfl x len2 cap2 k (by kernel_rfl) (by kernel_rfl) hko 1 _ (by rw [Nat.mul_one]) Try.underlying55 (by kernel_rfl)) ?_)
                | ((with_reducible refine hold_at 124 rfl ?_); unfold held; refine list_val rfl (v := .int .u8 (z : Int)) (w' := u9) (run_load_one 5 (.tmp 123) rfl (x.add k) (by kernel_rfl) _ hzc9.out _ Try.underlying5 rfl) ?_)
                | ((with_reducible refine hold_at 125 rfl ?_); unfold held; refine list_val rfl (v := .int .i64 (z : Int)) (w' := u9) (cv53_op (.tmp 124) rfl z hz256 (by kernel_rfl)) ?_)
                | ((with_reducible refine hold_at 128 rfl ?_); unfold held; refine list_val rfl (v := .int .i64 (ii : Int)) (w' := u9) (by rw [HII.out]; exact rem3_op (.tmp 125) (.tmp 127) rfl z js.length (by omega) hposn (by kernel_rfl) (by kernel_rfl)) ?_)
                | ((with_reducible refine hold_at 131 rfl ?_); unfold held; refine list_val rfl (v := .pointer (some ((⟨g, 0, none⟩ : Addr).add ii))) (w' := u9) (run_index_op 38 9 (.tmp 129) (.tmp 130) rfl ⟨g, 0, none⟩ js.length cap ii (by kernel_rfl) (by kernel_rfl) hil 1 _ (by rw [Nat.mul_one]) Try.underlying38 (by kernel_rfl)) ?_)
                | ((with_reducible refine hold_at 132 rfl ?_); unfold held; refine list_val rfl (v := tv (nmOf j)) (w' := u9) (run_load_one 9 (.tmp 131) rfl ((⟨g, 0, none⟩ : Addr).add ii) (by kernel_rfl) _ (HCL.out ii j HJ.out) _ Try.underlying9 rfl) ?_)
                | ((with_reducible refine hold_at 133 rfl ?_); unfold held; refine list_val rfl (v := .int .u8 ((97 + j : Nat) : Int)) (w' := u9) (index_byte (.tmp 132) (.const (.int .i64 0)) rfl j hj12 (by kernel_rfl) (by kernel_rfl)) ?_)
                | ((with_reducible refine hold_at 134 rfl ?_); unfold held; refine list_val rfl (v := .int .u8 (j : Int)) (w' := u9) (sub5r_op (.tmp 133) (.const (.int .u8 97)) rfl (97 + j) 97 j (by omega) rfl (by kernel_rfl) (by kernel_rfl)) ?_)
                | ((with_reducible refine hold_at 135 rfl ?_); unfold held; refine list_val rfl (v := .int .u8 ((j % 2 : Nat) : Int)) (w' := u9) (rem5_op (.tmp 134) (.const (.int .u8 2)) rfl j 2 (by omega) (by omega) (by kernel_rfl) (by kernel_rfl)) ?_)
                | (with_reducible refine hold_at 136 rfl ?_))
              unfold held
              refine list_val rfl (v := .bool false) (w' := u9) (eql5_op (.tmp 135) (.const (.int .u8 1)) rfl ((j % 2 : Nat) : Int) 1 false (by kernel_rfl) (by kernel_rfl) (decide_eq_false (by have := HPAR.out; omega))) ?_
              go_wp2_with (first
                | ((with_reducible refine hold_at 143 rfl ?_); unfold held; refine list_val rfl (v := .pointer (some ((⟨g, 0, none⟩ : Addr).add ii))) (w' := u9) (run_index_op 38 9 (.tmp 141) (.tmp 142) rfl ⟨g, 0, none⟩ js.length cap ii (by kernel_rfl) (by kernel_rfl) hil 1 _ (by rw [Nat.mul_one]) Try.underlying38 (by kernel_rfl)) ?_)
                | ((with_reducible refine hold_at 144 rfl ?_); unfold held; refine list_val rfl (v := tv (nmOf j)) (w' := u9) (run_load_one 9 (.tmp 143) rfl ((⟨g, 0, none⟩ : Addr).add ii) (by kernel_rfl) _ (HCL.out ii j HJ.out) _ Try.underlying9 rfl) ?_))
              have HJM := Lib.hid (List.mem_of_getElem? HJ.out)
              obtain ⟨p9, dp9, _, I9, _⟩ := HT9.out.ex
              have HFD := Lib.hid (LD_find I9 HJM.out)
              have HUN := Lib.hid (LD_unlink I9 HND.out HJ.out HJS.out)
              rw [HDIR.out] at HFD HUN
              clear I9
              change Calls Try.prog 12 #[tabV tb, .int .i64 1, .string (bs (nmOf j))] _ _
              have HCF := Lib.hid (holds_find HT9.out 1 (by decide) (nmOf j) (by unfold nmOf maxLen; simp))
              rw [HFD.out] at HCF
              refine HCF.out.mono ?_
              rintro e w10 ⟨rfl, b10⟩
              have H10 := Lib.hid (HT9.out.below b10)
              have N10 := Lib.hid (show Nms w10 (some ⟨g, 0, none⟩) cap js from own_keep N9.out (fun b hb => b10.block b (Own.lt N9.out b hb)))
              have HCL10 := Lib.hid (show ∀ i j, js[i]? = some j → w10.cell? ((⟨g, 0, none⟩ : Addr).add i) = some (tv (nmOf j)) by
                obtain ⟨g', e, _, h⟩ := Nms.there (js := js) N10.out H00.out
                cases e
                exact h)
              clear b10
              go_wp2_with (first
                | ((with_reducible refine hold_at 160 rfl ?_); unfold held; refine list_val_g (by kernel_rfl) (v := .pointer (some ((⟨g, 0, none⟩ : Addr).add ii))) (w' := w10) (run_index_op 38 9 (.tmp 158) (.tmp 159) rfl ⟨g, 0, none⟩ js.length cap ii (by kernel_rfl) (by kernel_rfl) hil 1 _ (by rw [Nat.mul_one]) Try.underlying38 (by kernel_rfl)) ?_)
                | ((with_reducible refine hold_at 161 rfl ?_); unfold held; refine list_val_g (by kernel_rfl) (v := tv (nmOf j)) (w' := w10) (run_load_one 9 (.tmp 160) rfl ((⟨g, 0, none⟩ : Addr).add ii) (by kernel_rfl) _ (HCL10.out ii j HJ.out) _ Try.underlying9 rfl) ?_))
              change Calls Try.prog 17 #[tabV tb, .int .i64 1, .string (bs (nmOf j))] _ _
              have HCU := Lib.hid (holds_unlink H10.out (by omega) 1 (by decide) (nmOf j) (by unfold nmOf maxLen; simp))
              rw [HUN.out.1, HUN.out.2] at HCU
              refine HCU.out.mono ?_
              rintro e w11 ⟨rfl, h11, k11⟩
              have H11 := Lib.hid h11
              have N11 := Lib.hid (show Nms w11 (some ⟨g, 0, none⟩) cap js from own_keep N10.out (fun b hb => k11.block b (Own.lt N10.out b hb) hb))
              clear h11 k11
              go_wp2_with fail
              have HX11 := Lib.hid (H11.out.below (below_dr w11))
              have hcl11 : ∀ i j, js[i]? = some j → w11.drew.cell? ((⟨g, 0, none⟩ : Addr).add i) = some (tv (nmOf j)) := by
                obtain ⟨g', e, _, h⟩ := Nms.there (js := js) N11.out H00.out
                cases e
                exact h
              have hg11 : g < w11.drew.heap.size := Own.lt N11.out g (by simp [blk])
              obtain ⟨ao1, cap1, u2, ao2, cap2, u3, r1, r2, n3, k3, h3⟩ := cut_runs w w11.drew g cap js ii hil hcap (by omega) hg11 hcl11
              have h3' := h3 _ _ _ HX11.out
              have hs11 := HX11.out.size
              refine region_any (fun _ => True) 11 (by kernel_rfl) ?_
              show wpAnyT _ _ _ _ _ _ _ _ _ w11.drew
              generalize w11.drew = v0 at r1 k3 hs11 ⊢
              refine wpAnyT_takeN (i := 1) (v := .slice (some ⟨g, 0, none⟩) js.length cap) rfl (by decide) (by kernel_rfl) (by kernel_rfl) (by kernel_rfl) (fun _ _ _ h => h) (.inl ⟨by kernel_rfl, fun W hS => by kernel_rfl⟩) trivial ?_
              refine wpAnyT_takeN (i := 2) (v := .int .i64 (ii : Int)) rfl (by decide) (by kernel_rfl) (by kernel_rfl) (by kernel_rfl) (fun _ _ _ h => h) (.inl ⟨by kernel_rfl, fun W hS => by kernel_rfl⟩) trivial ?_
              refine wpAnyT_takeN (i := 3) (v := .slice (some ⟨g, 0, none⟩) ii cap) rfl (by decide) (by kernel_rfl) (by kernel_rfl) (by kernel_rfl) (fun _ _ _ h => h) (.inl ⟨by kernel_rfl, fun W hS => rowHi_op (.tmp 166) (.tmp 167) rfl ⟨g, 0, none⟩ js.length cap ii (by omega) (by kernel_rfl) (by kernel_rfl)⟩) trivial ?_
              refine wpAnyT_takeN (i := 5) (v := .slice (some ⟨g, 0, none⟩) js.length cap) rfl (by decide) (by kernel_rfl) (by kernel_rfl) (by kernel_rfl) (fun _ _ _ h => h) (.inl ⟨by kernel_rfl, fun W hS => by kernel_rfl⟩) trivial ?_
              refine wpAnyT_takeN (i := 6) (v := .int .i64 (ii : Int)) rfl (by decide) (by kernel_rfl) (by kernel_rfl) (by kernel_rfl) (fun _ _ _ h => h) (.inl ⟨by kernel_rfl, fun W hS => by kernel_rfl⟩) trivial ?_
              refine wpAnyT_takeN (i := 7) (v := .int .i64 ((ii + 1 : Nat) : Int)) rfl (by decide) (by kernel_rfl) (by kernel_rfl) (by kernel_rfl) (fun _ _ _ h => h) (.inl ⟨by kernel_rfl, fun W hS => addN_op (.tmp 171) (.const (.int .i64 1)) rfl ii 1 (by omega) (by kernel_rfl) (by kernel_rfl)⟩) trivial ?_
              refine wpAnyT_takeN (i := 8) (v := .slice (some (lowA ⟨g, 0, none⟩ (ii + 1) cap)) (js.length - (ii + 1)) (cap - (ii + 1))) rfl (by decide) (by kernel_rfl) (by kernel_rfl) (by kernel_rfl) (fun _ _ _ h => h) (.inl ⟨by kernel_rfl, fun W hS => rowLo_op (.tmp 170) (.tmp 172) rfl ⟨g, 0, none⟩ js.length cap (ii + 1) (by omega) (by omega) (by kernel_rfl) (by kernel_rfl)⟩) trivial ?_
              refine wpAnyT_val (i := 0) (v := .slice (some ⟨v0.heap.size, 0, none⟩) 0 0) (w' := v0.alloc (.cells #[] 9)) (by kernel_rfl) rfl (by kernel_rfl) (by kernel_rfl) ⟨trivial, ?_⟩
              refine wpAnyT_val (i := 4) (v := .slice ao1 ii cap1) (w' := u2) (by kernel_rfl) rfl (by kernel_rfl) (run_append_op (.tmp 165) (.tmp 168) 38 38 rfl _ _ (by kernel_rfl) (by kernel_rfl) r1) ⟨trivial, ?_⟩
              refine wpAnyT_val (i := 9) (v := .slice ao2 (js.length - 1) cap2) (w' := u3) (by kernel_rfl) rfl (by kernel_rfl) (run_append_op (.tmp 169) (.tmp 173) 38 38 rfl _ _ (by kernel_rfl) (by kernel_rfl) r2) ⟨trivial, ?_⟩
              refine wpAnyT_takeN (i := 10) (v := .slice ao2 (js.length - 1) cap2) rfl (by decide) (by kernel_rfl) (by kernel_rfl) (by kernel_rfl) (fun _ _ _ h => h) (.inl ⟨by kernel_rfl, fun W hS => by kernel_rfl⟩) trivial ?_
              refine wpAnyT_done (by kernel_rfl) ?_ _
              simp only [Act.put, List.getElem_toArray, List.getElem_cons_succ, List.getElem_cons_zero, List.setIfInBounds_toArray, List.set_cons_zero, List.set_cons_succ]
              obtain ⟨rest, hrest⟩ : ∃ rest, rest = js.take ii ++ js.drop (ii + 1) := ⟨_, rfl⟩
              have hrl : rest.length = js.length - 1 := by rw [hrest, List.length_append, List.length_take, List.length_drop]; omega
              rw [← hrest] at n3 h3'
              have HR1 := Lib.hid n3
              have HR2 := Lib.hid k3
              have HR3 := Lib.hid h3'
              have HR4 := Lib.hid hrl
              have HR5 := Lib.hid (show rest.Nodup ∧ ∀ i ∈ rest, i < 12 from by
                rw [hrest]
                refine ⟨?_, fun i hi => ?_⟩
                · rw [← filter_ne HND.out HJ.out]; exact HND.out.filter _
                · rcases List.mem_append.mp hi with h | h
                  · exact HJS.out i (List.mem_of_mem_take h)
                  · exact HJS.out i (List.mem_of_mem_drop h))
              have HS11 := Lib.hid hs11
              clear n3 k3 h3 h3' r1 r2 hrest hrl hcl11 hg11 hs11
              go_wp2_with fail
              go_roundw
              case rel =>
                refine ⟨rest, ao2, cap2, k + 1, n + 1, by rw [HR4.out], by go_num, by rw [HR4.out]; have := HJK.out; omega, HR5.out.1, HR5.out.2, HR1.out, fun i hi => Nat.le_trans HS11.out (HR2.out i hi), HR3.out, by rw [HR4.out]; omega⟩
              case measure => simp [intOf]; omega
          · have hko2 : ¬ (k : Int) < len2 := by omega
            obtain ⟨ii, hii⟩ : ∃ ii, ii = 0 := ⟨_, rfl⟩
            have hil : ii < js.length := by omega
            have HII := Lib.hid hii
            clear hii
            obtain ⟨j, hj⟩ : ∃ j, js[ii]? = some j := ⟨_, List.getElem?_eq_getElem hil⟩
            have hj12 : j < 12 := HJS.out j (List.mem_of_getElem? hj)
            have HJ := Lib.hid hj
            clear hj
            by_cases hpar : j % 2 = 1
            · have hdir : dirOf j = 2 := by unfold dirOf; rw [if_pos hpar]
              have HPAR := Lib.hid hpar
              have HDIR := Lib.hid hdir
              clear hpar hdir
              have hi0 : (ii : Int) = 0 := by rw [HII.out]; rfl
              have HI0 := Lib.hid hi0
              clear hi0
              go_wp2_with (first
                | ((with_reducible refine hold_at 120 rfl ?_); unfold held; refine list_val rfl (v := .bool false) (w' := u9) (lss3_op (.tmp 117) (.tmp 119) rfl (k : Int) (len2 : Int) false (by kernel_rfl) (by kernel_rfl) (decide_eq_false hko2)) ?_)
                | ((with_reducible refine hold_at 131 rfl ?_); unfold held; refine list_val rfl (v := .pointer (some ((⟨g, 0, none⟩ : Addr).add ii))) (w' := u9) (run_index_op 38 9 (.tmp 129) (.tmp 130) rfl ⟨g, 0, none⟩ js.length cap ii (by kernel_rfl) (by rw [HI0.out]; kernel_rfl) hil 1 _ (by rw [Nat.mul_one]) Try.underlying38 (by kernel_rfl)) ?_)
                | ((with_reducible refine hold_at 132 rfl ?_); unfold held; refine list_val rfl (v := tv (nmOf j)) (w' := u9) (run_load_one 9 (.tmp 131) rfl ((⟨g, 0, none⟩ : Addr).add ii) (by kernel_rfl) _ (HCL.out ii j HJ.out) _ Try.underlying9 rfl) ?_)
                | ((with_reducible refine hold_at 133 rfl ?_); unfold held; refine list_val rfl (v := .int .u8 ((97 + j : Nat) : Int)) (w' := u9) (index_byte (.tmp 132) (.const (.int .i64 0)) rfl j hj12 (by kernel_rfl) (by kernel_rfl)) ?_)
                | ((with_reducible refine hold_at 134 rfl ?_); unfold held; refine list_val rfl (v := .int .u8 (j : Int)) (w' := u9) (sub5r_op (.tmp 133) (.const (.int .u8 97)) rfl (97 + j) 97 j (by omega) rfl (by kernel_rfl) (by kernel_rfl)) ?_)
                | ((with_reducible refine hold_at 135 rfl ?_); unfold held; refine list_val rfl (v := .int .u8 ((j % 2 : Nat) : Int)) (w' := u9) (rem5_op (.tmp 134) (.const (.int .u8 2)) rfl j 2 (by omega) (by omega) (by kernel_rfl) (by kernel_rfl)) ?_)
                | (with_reducible refine hold_at 136 rfl ?_))
              unfold held
              refine list_val rfl (v := .bool true) (w' := u9) (eql5_op (.tmp 135) (.const (.int .u8 1)) rfl ((j % 2 : Nat) : Int) 1 true (by kernel_rfl) (by kernel_rfl) (decide_eq_true (by have := HPAR.out; omega))) ?_
              go_wp2_with (first
                | ((with_reducible refine hold_at 143 rfl ?_); unfold held; refine list_val rfl (v := .pointer (some ((⟨g, 0, none⟩ : Addr).add ii))) (w' := u9) (run_index_op 38 9 (.tmp 141) (.tmp 142) rfl ⟨g, 0, none⟩ js.length cap ii (by kernel_rfl) (by rw [HI0.out]; kernel_rfl) hil 1 _ (by rw [Nat.mul_one]) Try.underlying38 (by kernel_rfl)) ?_)
                | ((with_reducible refine hold_at 144 rfl ?_); unfold held; refine list_val rfl (v := tv (nmOf j)) (w' := u9) (run_load_one 9 (.tmp 143) rfl ((⟨g, 0, none⟩ : Addr).add ii) (by kernel_rfl) _ (HCL.out ii j HJ.out) _ Try.underlying9 rfl) ?_))
              have HJM := Lib.hid (List.mem_of_getElem? HJ.out)
              obtain ⟨p9, dp9, _, I9, _⟩ := HT9.out.ex
              have HFD := Lib.hid (LD_find I9 HJM.out)
              have HUN := Lib.hid (LD_unlink I9 HND.out HJ.out HJS.out)
              rw [HDIR.out] at HFD HUN
              clear I9
              change Calls Try.prog 12 #[tabV tb, .int .i64 2, .string (bs (nmOf j))] _ _
              have HCF := Lib.hid (holds_find HT9.out 2 (by decide) (nmOf j) (by unfold nmOf maxLen; simp))
              rw [HFD.out] at HCF
              refine HCF.out.mono ?_
              rintro e w10 ⟨rfl, b10⟩
              have H10 := Lib.hid (HT9.out.below b10)
              have N10 := Lib.hid (show Nms w10 (some ⟨g, 0, none⟩) cap js from own_keep N9.out (fun b hb => b10.block b (Own.lt N9.out b hb)))
              have HCL10 := Lib.hid (show ∀ i j, js[i]? = some j → w10.cell? ((⟨g, 0, none⟩ : Addr).add i) = some (tv (nmOf j)) by
                obtain ⟨g', e, _, h⟩ := Nms.there (js := js) N10.out H00.out
                cases e
                exact h)
              clear b10
              go_wp2_with (first
                | ((with_reducible refine hold_at 160 rfl ?_); unfold held; refine list_val_g (by kernel_rfl) (v := .pointer (some ((⟨g, 0, none⟩ : Addr).add ii))) (w' := w10) (run_index_op 38 9 (.tmp 158) (.tmp 159) rfl ⟨g, 0, none⟩ js.length cap ii (by kernel_rfl) (by rw [HI0.out]; kernel_rfl) hil 1 _ (by rw [Nat.mul_one]) Try.underlying38 (by kernel_rfl)) ?_)
                | ((with_reducible refine hold_at 161 rfl ?_); unfold held; refine list_val_g (by kernel_rfl) (v := tv (nmOf j)) (w' := w10) (run_load_one 9 (.tmp 160) rfl ((⟨g, 0, none⟩ : Addr).add ii) (by kernel_rfl) _ (HCL10.out ii j HJ.out) _ Try.underlying9 rfl) ?_))
              change Calls Try.prog 17 #[tabV tb, .int .i64 2, .string (bs (nmOf j))] _ _
              have HCU := Lib.hid (holds_unlink H10.out (by omega) 2 (by decide) (nmOf j) (by unfold nmOf maxLen; simp))
              rw [HUN.out.1, HUN.out.2] at HCU
              refine HCU.out.mono ?_
              rintro e w11 ⟨rfl, h11, k11⟩
              have H11 := Lib.hid h11
              have N11 := Lib.hid (show Nms w11 (some ⟨g, 0, none⟩) cap js from own_keep N10.out (fun b hb => k11.block b (Own.lt N10.out b hb) hb))
              clear h11 k11
              go_wp2_with fail
              have HX11 := Lib.hid (H11.out.below (below_dr w11))
              have hcl11 : ∀ i j, js[i]? = some j → w11.drew.cell? ((⟨g, 0, none⟩ : Addr).add i) = some (tv (nmOf j)) := by
                obtain ⟨g', e, _, h⟩ := Nms.there (js := js) N11.out H00.out
                cases e
                exact h
              have hg11 : g < w11.drew.heap.size := Own.lt N11.out g (by simp [blk])
              obtain ⟨ao1, cap1, u2, ao2, cap2, u3, r1, r2, n3, k3, h3⟩ := cut_runs w w11.drew g cap js ii hil hcap (by omega) hg11 hcl11
              have h3' := h3 _ _ _ HX11.out
              have hs11 := HX11.out.size
              refine region_any (fun _ => True) 11 (by kernel_rfl) ?_
              show wpAnyT _ _ _ _ _ _ _ _ _ w11.drew
              generalize w11.drew = v0 at r1 k3 hs11 ⊢
              refine wpAnyT_takeN (i := 1) (v := .slice (some ⟨g, 0, none⟩) js.length cap) rfl (by decide) (by kernel_rfl) (by kernel_rfl) (by kernel_rfl) (fun _ _ _ h => h) (.inl ⟨by kernel_rfl, fun W hS => by kernel_rfl⟩) trivial ?_
              refine wpAnyT_takeN (i := 2) (v := .int .i64 (ii : Int)) rfl (by decide) (by kernel_rfl) (by kernel_rfl) (by kernel_rfl) (fun _ _ _ h => h) (.inl ⟨by kernel_rfl, fun W hS => by rw [HI0.out]; kernel_rfl⟩) trivial ?_
              refine wpAnyT_takeN (i := 3) (v := .slice (some ⟨g, 0, none⟩) ii cap) rfl (by decide) (by kernel_rfl) (by kernel_rfl) (by kernel_rfl) (fun _ _ _ h => h) (.inl ⟨by kernel_rfl, fun W hS => rowHi_op (.tmp 166) (.tmp 167) rfl ⟨g, 0, none⟩ js.length cap ii (by omega) (by kernel_rfl) (by kernel_rfl)⟩) trivial ?_
              refine wpAnyT_takeN (i := 5) (v := .slice (some ⟨g, 0, none⟩) js.length cap) rfl (by decide) (by kernel_rfl) (by kernel_rfl) (by kernel_rfl) (fun _ _ _ h => h) (.inl ⟨by kernel_rfl, fun W hS => by kernel_rfl⟩) trivial ?_
              refine wpAnyT_takeN (i := 6) (v := .int .i64 (ii : Int)) rfl (by decide) (by kernel_rfl) (by kernel_rfl) (by kernel_rfl) (fun _ _ _ h => h) (.inl ⟨by kernel_rfl, fun W hS => by rw [HI0.out]; kernel_rfl⟩) trivial ?_
              refine wpAnyT_takeN (i := 7) (v := .int .i64 ((ii + 1 : Nat) : Int)) rfl (by decide) (by kernel_rfl) (by kernel_rfl) (by kernel_rfl) (fun _ _ _ h => h) (.inl ⟨by kernel_rfl, fun W hS => addN_op (.tmp 171) (.const (.int .i64 1)) rfl ii 1 (by omega) (by kernel_rfl) (by kernel_rfl)⟩) trivial ?_
              refine wpAnyT_takeN (i := 8) (v := .slice (some (lowA ⟨g, 0, none⟩ (ii + 1) cap)) (js.length - (ii + 1)) (cap - (ii + 1))) rfl (by decide) (by kernel_rfl) (by kernel_rfl) (by kernel_rfl) (fun _ _ _ h => h) (.inl ⟨by kernel_rfl, fun W hS => rowLo_op (.tmp 170) (.tmp 172) rfl ⟨g, 0, none⟩ js.length cap (ii + 1) (by omega) (by omega) (by kernel_rfl) (by kernel_rfl)⟩) trivial ?_
              refine wpAnyT_val (i := 0) (v := .slice (some ⟨v0.heap.size, 0, none⟩) 0 0) (w' := v0.alloc (.cells #[] 9)) (by kernel_rfl) rfl (by kernel_rfl) (by kernel_rfl) ⟨trivial, ?_⟩
              refine wpAnyT_val (i := 4) (v := .slice ao1 ii cap1) (w' := u2) (by kernel_rfl) rfl (by kernel_rfl) (run_append_op (.tmp 165) (.tmp 168) 38 38 rfl _ _ (by kernel_rfl) (by kernel_rfl) r1) ⟨trivial, ?_⟩
              refine wpAnyT_val (i := 9) (v := .slice ao2 (js.length - 1) cap2) (w' := u3) (by kernel_rfl) rfl (by kernel_rfl) (run_append_op (.tmp 169) (.tmp 173) 38 38 rfl _ _ (by kernel_rfl) (by kernel_rfl) r2) ⟨trivial, ?_⟩
              refine wpAnyT_takeN (i := 10) (v := .slice ao2 (js.length - 1) cap2) rfl (by decide) (by kernel_rfl) (by kernel_rfl) (by kernel_rfl) (fun _ _ _ h => h) (.inl ⟨by kernel_rfl, fun W hS => by kernel_rfl⟩) trivial ?_
              refine wpAnyT_done (by kernel_rfl) ?_ _
              simp only [Act.put, List.getElem_toArray, List.getElem_cons_succ, List.getElem_cons_zero, List.setIfInBounds_toArray, List.set_cons_zero, List.set_cons_succ]
              obtain ⟨rest, hrest⟩ : ∃ rest, rest = js.take ii ++ js.drop (ii + 1) := ⟨_, rfl⟩
              have hrl : rest.length = js.length - 1 := by rw [hrest, List.length_append, List.length_take, List.length_drop]; omega
              rw [← hrest] at n3 h3'
              have HR1 := Lib.hid n3
              have HR2 := Lib.hid k3
              have HR3 := Lib.hid h3'
              have HR4 := Lib.hid hrl
              have HR5 := Lib.hid (show rest.Nodup ∧ ∀ i ∈ rest, i < 12 from by
                rw [hrest]
                refine ⟨?_, fun i hi => ?_⟩
                · rw [← filter_ne HND.out HJ.out]; exact HND.out.filter _
                · rcases List.mem_append.mp hi with h | h
                  · exact HJS.out i (List.mem_of_mem_take h)
                  · exact HJS.out i (List.mem_of_mem_drop h))
              have HS11 := Lib.hid hs11
              clear n3 k3 h3 h3' r1 r2 hrest hrl hcl11 hg11 hs11
              go_wp2_with fail
              go_roundw
              case rel =>
                refine ⟨rest, ao2, cap2, k + 1, n + 1, by rw [HR4.out], by go_num, by rw [HR4.out]; have := HJK.out; omega, HR5.out.1, HR5.out.2, HR1.out, fun i hi => Nat.le_trans HS11.out (HR2.out i hi), HR3.out, by rw [HR4.out]; omega⟩
              case measure => simp [intOf]; omega
            · have hdir : dirOf j = 1 := by unfold dirOf; rw [if_neg hpar]
              have HPAR := Lib.hid hpar
              have HDIR := Lib.hid hdir
              clear hpar hdir
              have hi0 : (ii : Int) = 0 := by rw [HII.out]; rfl
              have HI0 := Lib.hid hi0
              clear hi0
              go_wp2_with (first
                | ((with_reducible refine hold_at 120 rfl ?_); unfold held; refine list_val rfl (v := .bool false) (w' := u9) (lss3_op (.tmp 117) (.tmp 119) rfl (k : Int) (len2 : Int) false (by kernel_rfl) (by kernel_rfl) (decide_eq_false hko2)) ?_)
                | ((with_reducible refine hold_at 131 rfl ?_); unfold held; refine list_val rfl (v := .pointer (some ((⟨g, 0, none⟩ : Addr).add ii))) (w' := u9) (run_index_op 38 9 (.tmp 129) (.tmp 130) rfl ⟨g, 0, none⟩ js.length cap ii (by kernel_rfl) (by rw [HI0.out]; kernel_rfl) hil 1 _ (by rw [Nat.mul_one]) Try.underlying38 (by kernel_rfl)) ?_)
                | ((with_reducible refine hold_at 132 rfl ?_); unfold held; refine list_val rfl (v := tv (nmOf j)) (w' := u9) (run_load_one 9 (.tmp 131) rfl ((⟨g, 0, none⟩ : Addr).add ii) (by kernel_rfl) _ (HCL.out ii j HJ.out) _ Try.underlying9 rfl) ?_)
                | ((with_reducible refine hold_at 133 rfl ?_); unfold held; refine list_val rfl (v := .int .u8 ((97 + j : Nat) : Int)) (w' := u9) (index_byte (.tmp 132) (.const (.int .i64 0)) rfl j hj12 (by kernel_rfl) (by kernel_rfl)) ?_)
                | ((with_reducible refine hold_at 134 rfl ?_); unfold held; refine list_val rfl (v := .int .u8 (j : Int)) (w' := u9) (sub5r_op (.tmp 133) (.const (.int .u8 97)) rfl (97 + j) 97 j (by omega) rfl (by kernel_rfl) (by kernel_rfl)) ?_)
                | ((with_reducible refine hold_at 135 rfl ?_); unfold held; refine list_val rfl (v := .int .u8 ((j % 2 : Nat) : Int)) (w' := u9) (rem5_op (.tmp 134) (.const (.int .u8 2)) rfl j 2 (by omega) (by omega) (by kernel_rfl) (by kernel_rfl)) ?_)
                | (with_reducible refine hold_at 136 rfl ?_))
              unfold held
              refine list_val rfl (v := .bool false) (w' := u9) (eql5_op (.tmp 135) (.const (.int .u8 1)) rfl ((j % 2 : Nat) : Int) 1 false (by kernel_rfl) (by kernel_rfl) (decide_eq_false (by have := HPAR.out; omega))) ?_
              go_wp2_with (first
                | ((with_reducible refine hold_at 143 rfl ?_); unfold held; refine list_val rfl (v := .pointer (some ((⟨g, 0, none⟩ : Addr).add ii))) (w' := u9) (run_index_op 38 9 (.tmp 141) (.tmp 142) rfl ⟨g, 0, none⟩ js.length cap ii (by kernel_rfl) (by rw [HI0.out]; kernel_rfl) hil 1 _ (by rw [Nat.mul_one]) Try.underlying38 (by kernel_rfl)) ?_)
                | ((with_reducible refine hold_at 144 rfl ?_); unfold held; refine list_val rfl (v := tv (nmOf j)) (w' := u9) (run_load_one 9 (.tmp 143) rfl ((⟨g, 0, none⟩ : Addr).add ii) (by kernel_rfl) _ (HCL.out ii j HJ.out) _ Try.underlying9 rfl) ?_))
              have HJM := Lib.hid (List.mem_of_getElem? HJ.out)
              obtain ⟨p9, dp9, _, I9, _⟩ := HT9.out.ex
              have HFD := Lib.hid (LD_find I9 HJM.out)
              have HUN := Lib.hid (LD_unlink I9 HND.out HJ.out HJS.out)
              rw [HDIR.out] at HFD HUN
              clear I9
              change Calls Try.prog 12 #[tabV tb, .int .i64 1, .string (bs (nmOf j))] _ _
              have HCF := Lib.hid (holds_find HT9.out 1 (by decide) (nmOf j) (by unfold nmOf maxLen; simp))
              rw [HFD.out] at HCF
              refine HCF.out.mono ?_
              rintro e w10 ⟨rfl, b10⟩
              have H10 := Lib.hid (HT9.out.below b10)
              have N10 := Lib.hid (show Nms w10 (some ⟨g, 0, none⟩) cap js from own_keep N9.out (fun b hb => b10.block b (Own.lt N9.out b hb)))
              have HCL10 := Lib.hid (show ∀ i j, js[i]? = some j → w10.cell? ((⟨g, 0, none⟩ : Addr).add i) = some (tv (nmOf j)) by
                obtain ⟨g', e, _, h⟩ := Nms.there (js := js) N10.out H00.out
                cases e
                exact h)
              clear b10
              go_wp2_with (first
                | ((with_reducible refine hold_at 160 rfl ?_); unfold held; refine list_val_g (by kernel_rfl) (v := .pointer (some ((⟨g, 0, none⟩ : Addr).add ii))) (w' := w10) (run_index_op 38 9 (.tmp 158) (.tmp 159) rfl ⟨g, 0, none⟩ js.length cap ii (by kernel_rfl) (by rw [HI0.out]; kernel_rfl) hil 1 _ (by rw [Nat.mul_one]) Try.underlying38 (by kernel_rfl)) ?_)
                | ((with_reducible refine hold_at 161 rfl ?_); unfold held; refine list_val_g (by kernel_rfl) (v := tv (nmOf j)) (w' := w10) (run_load_one 9 (.tmp 160) rfl ((⟨g, 0, none⟩ : Addr).add ii) (by kernel_rfl) _ (HCL10.out ii j HJ.out) _ Try.underlying9 rfl) ?_))
              change Calls Try.prog 17 #[tabV tb, .int .i64 1, .string (bs (nmOf j))] _ _
              have HCU := Lib.hid (holds_unlink H10.out (by omega) 1 (by decide) (nmOf j) (by unfold nmOf maxLen; simp))
              rw [HUN.out.1, HUN.out.2] at HCU
              refine HCU.out.mono ?_
              rintro e w11 ⟨rfl, h11, k11⟩
              have H11 := Lib.hid h11
              have N11 := Lib.hid (show Nms w11 (some ⟨g, 0, none⟩) cap js from own_keep N10.out (fun b hb => k11.block b (Own.lt N10.out b hb) hb))
              clear h11 k11
              go_wp2_with fail
              have HX11 := Lib.hid (H11.out.below (below_dr w11))
              have hcl11 : ∀ i j, js[i]? = some j → w11.drew.cell? ((⟨g, 0, none⟩ : Addr).add i) = some (tv (nmOf j)) := by
                obtain ⟨g', e, _, h⟩ := Nms.there (js := js) N11.out H00.out
                cases e
                exact h
              have hg11 : g < w11.drew.heap.size := Own.lt N11.out g (by simp [blk])
              obtain ⟨ao1, cap1, u2, ao2, cap2, u3, r1, r2, n3, k3, h3⟩ := cut_runs w w11.drew g cap js ii hil hcap (by omega) hg11 hcl11
              have h3' := h3 _ _ _ HX11.out
              have hs11 := HX11.out.size
              refine region_any (fun _ => True) 11 (by kernel_rfl) ?_
              show wpAnyT _ _ _ _ _ _ _ _ _ w11.drew
              generalize w11.drew = v0 at r1 k3 hs11 ⊢
              refine wpAnyT_takeN (i := 1) (v := .slice (some ⟨g, 0, none⟩) js.length cap) rfl (by decide) (by kernel_rfl) (by kernel_rfl) (by kernel_rfl) (fun _ _ _ h => h) (.inl ⟨by kernel_rfl, fun W hS => by kernel_rfl⟩) trivial ?_
              refine wpAnyT_takeN (i := 2) (v := .int .i64 (ii : Int)) rfl (by decide) (by kernel_rfl) (by kernel_rfl) (by kernel_rfl) (fun _ _ _ h => h) (.inl ⟨by kernel_rfl, fun W hS => by rw [HI0.out]; kernel_rfl⟩) trivial ?_
              refine wpAnyT_takeN (i := 3) (v := .slice (some ⟨g, 0, none⟩) ii cap) rfl (by decide) (by kernel_rfl) (by kernel_rfl) (by kernel_rfl) (fun _ _ _ h => h) (.inl ⟨by kernel_rfl, fun W hS => rowHi_op (.tmp 166) (.tmp 167) rfl ⟨g, 0, none⟩ js.length cap ii (by omega) (by kernel_rfl) (by kernel_rfl)⟩) trivial ?_
              refine wpAnyT_takeN (i := 5) (v := .slice (some ⟨g, 0, none⟩) js.length cap) rfl (by decide) (by kernel_rfl) (by kernel_rfl) (by kernel_rfl) (fun _ _ _ h => h) (.inl ⟨by kernel_rfl, fun W hS => by kernel_rfl⟩) trivial ?_
              refine wpAnyT_takeN (i := 6) (v := .int .i64 (ii : Int)) rfl (by decide) (by kernel_rfl) (by kernel_rfl) (by kernel_rfl) (fun _ _ _ h => h) (.inl ⟨by kernel_rfl, fun W hS => by rw [HI0.out]; kernel_rfl⟩) trivial ?_
              refine wpAnyT_takeN (i := 7) (v := .int .i64 ((ii + 1 : Nat) : Int)) rfl (by decide) (by kernel_rfl) (by kernel_rfl) (by kernel_rfl) (fun _ _ _ h => h) (.inl ⟨by kernel_rfl, fun W hS => addN_op (.tmp 171) (.const (.int .i64 1)) rfl ii 1 (by omega) (by kernel_rfl) (by kernel_rfl)⟩) trivial ?_
              refine wpAnyT_takeN (i := 8) (v := .slice (some (lowA ⟨g, 0, none⟩ (ii + 1) cap)) (js.length - (ii + 1)) (cap - (ii + 1))) rfl (by decide) (by kernel_rfl) (by kernel_rfl) (by kernel_rfl) (fun _ _ _ h => h) (.inl ⟨by kernel_rfl, fun W hS => rowLo_op (.tmp 170) (.tmp 172) rfl ⟨g, 0, none⟩ js.length cap (ii + 1) (by omega) (by omega) (by kernel_rfl) (by kernel_rfl)⟩) trivial ?_
              refine wpAnyT_val (i := 0) (v := .slice (some ⟨v0.heap.size, 0, none⟩) 0 0) (w' := v0.alloc (.cells #[] 9)) (by kernel_rfl) rfl (by kernel_rfl) (by kernel_rfl) ⟨trivial, ?_⟩
              refine wpAnyT_val (i := 4) (v := .slice ao1 ii cap1) (w' := u2) (by kernel_rfl) rfl (by kernel_rfl) (run_append_op (.tmp 165) (.tmp 168) 38 38 rfl _ _ (by kernel_rfl) (by kernel_rfl) r1) ⟨trivial, ?_⟩
              refine wpAnyT_val (i := 9) (v := .slice ao2 (js.length - 1) cap2) (w' := u3) (by kernel_rfl) rfl (by kernel_rfl) (run_append_op (.tmp 169) (.tmp 173) 38 38 rfl _ _ (by kernel_rfl) (by kernel_rfl) r2) ⟨trivial, ?_⟩
              refine wpAnyT_takeN (i := 10) (v := .slice ao2 (js.length - 1) cap2) rfl (by decide) (by kernel_rfl) (by kernel_rfl) (by kernel_rfl) (fun _ _ _ h => h) (.inl ⟨by kernel_rfl, fun W hS => by kernel_rfl⟩) trivial ?_
              refine wpAnyT_done (by kernel_rfl) ?_ _
              simp only [Act.put, List.getElem_toArray, List.getElem_cons_succ, List.getElem_cons_zero, List.setIfInBounds_toArray, List.set_cons_zero, List.set_cons_succ]
              obtain ⟨rest, hrest⟩ : ∃ rest, rest = js.take ii ++ js.drop (ii + 1) := ⟨_, rfl⟩
              have hrl : rest.length = js.length - 1 := by rw [hrest, List.length_append, List.length_take, List.length_drop]; omega
              rw [← hrest] at n3 h3'
              have HR1 := Lib.hid n3
              have HR2 := Lib.hid k3
              have HR3 := Lib.hid h3'
              have HR4 := Lib.hid hrl
              have HR5 := Lib.hid (show rest.Nodup ∧ ∀ i ∈ rest, i < 12 from by
                rw [hrest]
                refine ⟨?_, fun i hi => ?_⟩
                · rw [← filter_ne HND.out HJ.out]; exact HND.out.filter _
                · rcases List.mem_append.mp hi with h | h
                  · exact HJS.out i (List.mem_of_mem_take h)
                  · exact HJS.out i (List.mem_of_mem_drop h))
              have HS11 := Lib.hid hs11
              clear n3 k3 h3 h3' r1 r2 hrest hrl hcl11 hg11 hs11
              go_wp2_with fail
              go_roundw
              case rel =>
                refine ⟨rest, ao2, cap2, k + 1, n + 1, by rw [HR4.out], by go_num, by rw [HR4.out]; have := HJK.out; omega, HR5.out.1, HR5.out.2, HR1.out, fun i hi => Nat.le_trans HS11.out (HR2.out i hi), HR3.out, by rw [HR4.out]; omega⟩
              case measure => simp [intOf]; omega
end Go.Proofs.Ytgifdmfnecombaa
