/- Texts one behind the other: taken apart. -/
import Derived.Test.YtcgjkopdnhkdiaaV4
import Derived.Test.YtcgjkopdnhkdiaaJb
import Derived.Test.YtcgjkopdnhkdiaaFh
namespace Go.Proofs.Ytcgjkopdnhkdiaa
open Go.RowKit
set_option maxRecDepth 100000
theorem num_shorter : ∀ (l : List UInt8) (a n : Nat) (r : List UInt8), Plain.num l a = some (n, r) → r.length < l.length
  | [], a, n, r, h => by simp [Plain.num] at h
  | c :: l, a, n, r, h => by
    unfold Plain.num at h
    split at h
    · cases h
    · split at h
      · cases h; simp
      · have := num_shorter l _ n r h
        rw [List.length_cons]; omega
theorem cutT_shorter {l t r : List UInt8} (h : Plain.cutT l = some (t, r)) : r.length < l.length := by
  unfold Plain.cutT at h
  split at h
  · cases h
  · rename_i n r' hc
    split at h
    · cases h
    · cases h
      have hs : r'.length < l.length := by
        unfold Plain.cut at hc
        split at hc
        · cases hc
        · exact num_shorter _ _ _ _ hc
      rw [List.length_drop]; omega
/-- the texts that these bytes are -/
def textsL (l : List UInt8) : Option (List (List UInt8)) :=
  if l = [] then some [] else
  match h : Plain.cutT l with
  | none => none
  | some (t, r) => (textsL r).map (t :: ·)
termination_by l.length
decreasing_by exact cutT_shorter h
theorem textsL_nil : textsL [] = some [] := by unfold textsL; simp
theorem textsL_none {l : List UInt8} (h0 : l ≠ []) (h : Plain.cutT l = none) : textsL l = none := by
  unfold textsL
  rw [if_neg h0]
  split
  · rfl
  · rename_i t r h2; rw [h] at h2; cases h2
theorem textsL_some {l t r : List UInt8} (h0 : l ≠ []) (h : Plain.cutT l = some (t, r)) : textsL l = (textsL r).map (t :: ·) := by
  conv => lhs; unfold textsL
  rw [if_neg h0]
  split
  · rename_i h2; rw [h] at h2; cases h2
  · rename_i t2 r2 h2; rw [h] at h2; cases h2; rfl
/-- a row of texts of the call's own -/
def Txts (w0 w : World) (v : Value) (ts : List (List UInt8)) : Prop := ∃ ao cap, v = .slice ao ts.length cap ∧ Own w 9 1 ao ts.length cap (ts.map tv) ∧ ∀ i, i ∈ blk ao → w0.heap.size ≤ i
set_option maxHeartbeats 4000000 in
theorem textsOf_any (l : List UInt8) (hl : l.length ≤ 1000000) (w : World) :
    Calls Try.prog 51 #[.string (bs l)] w fun e w' => Below w.heap.size w w' ∧ ∃ v, e = .returned (.tuple #[v, .bool (textsL l).isSome]) ∧ Txts w w' v ((textsL l).getD []) := by
  obtain ⟨iw, hiw, hz0, hz1, hz2⟩ := info_parts info9
  have HI := Lib.hid (And.intro hiw (And.intro hz0 (And.intro hz1 hz2)))
  clear hiw hz0 hz1 hz2
  go_enter Try.func51, Try.ntmps51
  go_wp2_with fail
  refine (newReader_any (bs l) w).mono ?_
  rintro e w1 ⟨rfl, rfl⟩
  have h0 : Rd (w.alloc (.cells #[.string (bs l), .bool false] 128)) w.heap.size l false := At.new w _ _
  have b0 := (Below.refl _ w).alloc (Nat.le_refl _) (.cells #[.string (bs l), .bool false] 128)
  have H0 := Lib.hid h0
  have B0 := Lib.hid b0
  clear h0 b0
  generalize w.alloc (.cells #[.string (bs l), .bool false] 128) = w1 at *
  go_wp2_with fail
  go_loopw [4] (fun y wx => ∃ (ts : List (List UInt8)) (rest : List UInt8) (lost : Bool) (ao : Option Addr) (cap : Nat), y = .slice ao ts.length cap ∧ Own wx 9 1 ao ts.length cap (ts.map tv) ∧ (∀ i, i ∈ blk ao → w.heap.size ≤ i) ∧ Rd wx w.heap.size rest lost ∧ Below w.heap.size w wx ∧ w.heap.size ∉ blk ao ∧
      rest.length + ts.length ≤ l.length + (if lost then 1 else 0) ∧ textsL l = (if lost then none else (textsL rest).map (ts ++ ·))) (fun _ wx => match wx.cell? ⟨w.heap.size, 0, none⟩, wx.cell? ⟨w.heap.size, 1, none⟩ with | some (.string s), some (.bool false) => s.size + 1 | _, _ => 0)
  case atStart => exact ⟨[], l, false, none, 0, rfl, Own.nil _ _ _, by simp [blk], H0.out, B0.out, by simp [blk], by simp, by simp⟩
  clear H0 B0
  case round =>
    obtain ⟨ts, rest, lost, ao, cap, rfl, hO, hbk, hR, hB, hnb, hlen, hT⟩ := hrel
    have HO := Lib.hid hO
    have HR := Lib.hid hR
    have HB := Lib.hid hB
    have HBK := Lib.hid hbk
    have HNB := Lib.hid hnb
    have HT := Lib.hid hT
    have HLN := Lib.hid hlen
    clear hO hbk hR hB hnb hlen hT
    cases lost
    · by_cases hr0 : rest = []
      · subst hr0
        go_wp2_with fail
        refine (ok_any _ _ _ _ HR.out).mono ?_
        rintro e w2 ⟨rfl, rfl⟩
        go_wp2_with fail
        refine (end_any _ _ _ _ HR.out).mono ?_
        rintro e w3 ⟨rfl, rfl⟩
        go_wp2_with fail
        refine (ok_any _ _ _ _ HR.out).mono ?_
        rintro e w4 ⟨rfl, rfl⟩
        go_wp2
        go_ret2
        have e : textsL l = some ts := by rw [HT.out, textsL_nil]; simp
        rw [e]
        exact ⟨HB.out, _, rfl, ao, cap, rfl, HO.out, HBK.out⟩
      · have hne : (bs rest).toList.isEmpty = false := by rw [bs_toList]; simpa using hr0
        have hrl : rest.length + ts.length ≤ l.length := by simpa using HLN.out
        go_wp2_with fail
        refine (ok_any _ _ _ _ HR.out).mono ?_
        rintro e w2 ⟨rfl, rfl⟩
        go_wp2_with fail
        refine (end_any _ _ _ _ HR.out).mono ?_
        rintro e w3 ⟨rfl, rfl⟩
        rw [hne]
        go_wp2_with fail
        refine (text_any _ rest false _ HR.out (by omega)).mono ?_
        rintro e w5 ⟨rfl, hrd, hon⟩
        have ht5 : Touch [w.heap.size] w3 w5 := ⟨hon.os, hon.tape, hon.output, hon.size, fun i hi hn => hon.block i hi (by simpa using hn)⟩
        have hO5 := HO.out.touch ht5 (fun i hi => by simp; rintro rfl; exact HNB.out hi)
        have hB5 := Touch.below HB.out ht5 (by simp) (Nat.le_refl _)
        obtain ⟨t, r, ls, hrt, hrs⟩ : ∃ t r ls, rtext rest false = (t, r, ls) ∧ ((ls = false ∧ Plain.cutT rest = some (t, r)) ∨ (ls = true ∧ Plain.cutT rest = none ∧ r = [])) := by
          unfold rtext
          cases hc : Plain.cutT rest with
          | none => exact ⟨[], [], true, by simp, .inr ⟨rfl, rfl, rfl⟩⟩
          | some p => obtain ⟨t, r⟩ := p; exact ⟨t, r, false, by simp, .inl ⟨rfl, rfl⟩⟩
        rw [hrt] at hrd
        rw [hrt]
        simp only [] at hrd ⊢
        have hd6 : Rd (w5.alloc (.cells #[tv t] 9)) w.heap.size r ls := At.alloc hrd _
        have a6 := At.new w5 #[tv t] 9
        have t6 := (Touch.refl [] w5).alloc (.cells #[tv t] 9)
        have o6 := hO5.touch t6 (by simp)
        have b6 := hB5.alloc hB5.size (.cells #[tv t] 9)
        have hbld := build_cell w5 39 9 (tv t) iw _ Try.underlying39 HI.out.1 HI.out.2.1 HI.out.2.2.1 rfl
        obtain ⟨ao', cap', w7, hrun, o7, t7, hblk⟩ := run_append_any (P := Try.prog) (w5.alloc (.cells #[tv t] 9)) 39 39 9 iw _ 1 16 Try.underlying39 HI.out.1 HI.out.2.1 HI.out.2.2.1 HI.out.2.2.2 rfl (by omega) ao ts.length cap _ o6 w5.heap.size 1 1 _ a6 rfl (by simp [tv, Value.oneCell']) (by omega) (by unfold maxLen; omega) (by omega)
        have hd7 : Rd w7 w.heap.size r ls := At.touch hd6 t7 HNB.out
        have b7 := Touch.below b6 t7 (fun i hi => HBK.out i hi) (Nat.le_refl _)
        have k7 : ∀ i, i ∈ blk ao' → w.heap.size ≤ i := fun i hi => by
          rcases hblk with h | ⟨g, h, hg⟩
          · rw [h] at hi; exact HBK.out i hi
          · rw [h] at hi; simp at hi; have := b6.size; omega
        have n7 : w.heap.size ∉ blk ao' := o7.type hd7 (by decide)
        have HBLD := Lib.hid hbld
        have HRUN := Lib.hid hrun
        have HD7 := Lib.hid hd7
        have HO7 := Lib.hid o7
        have HB7 := Lib.hid b7
        have HK7 := Lib.hid k7
        have HN7 := Lib.hid n7
        have HRS := Lib.hid hrs
        have HR0 := Lib.hid hr0
        clear hrd hd6 a6 t6 o6 b6 hbld hrun o7 t7 hblk hd7 b7 k7 n7 ht5 hO5 hB5 hon hrt hrs hr0 HO HB HBK HNB HLN
        unfold tv at HBLD HRUN
        go_wp2_with (first | (with_reducible refine list_val rfl (run_build_op 39 (.tmp 17) rfl (.string (bs t)) (by kernel_rfl) HBLD.out) ?_) | (with_reducible refine list_val rfl (run_append_op (.tmp 15) (.tmp 18) 39 39 rfl (.slice ao ts.length cap) (.slice (some ⟨w5.heap.size, 0, none⟩) 1 1) (by kernel_rfl) (by kernel_rfl) HRUN.out) ?_))
        go_roundw
        case rel =>
          have e1 : (ts ++ [t]).length = ts.length + 1 := by simp
          have e2 : (ts ++ [t]).map tv = ts.map tv ++ [tv t] := by simp
          rcases HRS.out with ⟨rfl, hc⟩ | ⟨rfl, hc, rfl⟩
          · have hsh := cutT_shorter hc
            refine ⟨ts ++ [t], r, false, ao', cap', by rw [e1], by rw [e1, e2]; exact HO7.out, HK7.out, HD7.out, HB7.out, HN7.out, by rw [e1]; simp; omega, ?_⟩
            rw [HT.out, textsL_some HR0.out hc]
            cases textsL r <;> simp
          · have hpos : 0 < rest.length := List.length_pos_iff.2 HR0.out
            refine ⟨ts ++ [t], [], true, ao', cap', by rw [e1], by rw [e1, e2]; exact HO7.out, HK7.out, HD7.out, HB7.out, HN7.out, by rw [e1]; simp; omega, ?_⟩
            rw [HT.out, textsL_none HR0.out hc]
            simp
        case measure =>
          have q0 := HR.out.cell 0 _ rfl
          have q1 := HR.out.cell 1 _ rfl
          have p0 := HD7.out.cell 0 _ rfl
          have p1 := HD7.out.cell 1 _ rfl
          rw [q0, q1, p0, p1]
          rcases HRS.out with ⟨rfl, hc⟩ | ⟨rfl, hc, rfl⟩
          · have hsh := cutT_shorter hc
            simp only [bs_size]; omega
          · simp only [bs_size]; omega
    · go_wp2_with fail
      refine (ok_any _ _ _ _ HR.out).mono ?_
      rintro e w2 ⟨rfl, rfl⟩
      go_wp2_with fail
      refine (ok_any _ _ _ _ HR.out).mono ?_
      rintro e w4 ⟨rfl, rfl⟩
      go_wp2
      go_ret2
      have e : textsL l = none := by rw [HT.out]; simp
      rw [e]
      exact ⟨HB.out, _, rfl, none, 0, rfl, Own.nil _ _ _, by simp [blk]⟩
end Go.Proofs.Ytcgjkopdnhkdiaa
