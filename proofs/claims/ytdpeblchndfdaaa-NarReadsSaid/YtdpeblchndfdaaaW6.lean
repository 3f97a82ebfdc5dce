import Derived.Test.YtdpeblchndfdaaaW5
import Derived.Test.YtdpeblchndfdaaaL2
import Derived.Deep.RegionHeld3
namespace Go.Proofs.Ytdpeblchndfdaaa
open Go.RowKit

/-- the first k bytes are 128 at least -/
def Hi128 (s : ByteArray) (k : Nat) : Prop := ∀ i, i < k → ∀ h : i < s.data.toList.length, 128 ≤ (s.data.toList[i]).toNat

theorem get_data (s : ByteArray) (k : Nat) (h : k < s.size) (h' : k < s.data.toList.length) : s.data.toList[k] = s[k] := rfl

/-- what the document's Num comes to -/
def rf (l : List UInt8) (lost : Bool) : Nat × List UInt8 × Bool :=
  match Plain.cut l with
  | some (n, r) => (n, r, lost)
  | none => (0, [], true)

theorem rf_none {l : List UInt8} {lost : Bool} {R : Nat × List UInt8 × Bool} (h : rf l lost = R) (hn : Plain.cut l = none) : R = (0, [], true) := by
  rw [← h, rf, hn]
theorem rf_some {l : List UInt8} {lost : Bool} {R : Nat × List UInt8 × Bool} {n : Nat} {r : List UInt8} (h : rf l lost = R) (hn : Plain.cut l = some (n, r)) : R = (n, r, lost) := by
  rw [← h, rf, hn]

theorem val_step (s : ByteArray) (i : Nat) (h : i < s.size) : ((Plain.val (s.data.toList.take (i + 1)) : Nat) : Int) = (128 * (Plain.val (s.data.toList.take i) : Int) + (s[i].toNat : Int) % 128) % 18446744073709551616 := by
  have h' : i < s.data.toList.length := by rw [size_data]; exact h
  rw [List.take_succ_eq_append_getElem h', Plain.val_snoc, get_data s i h h']
  have hb : Plain.big = 18446744073709551616 := rfl
  rw [hb]; omega

theorem refPutNum_empty (n : Nat) (w : World) (hn : n < Plain.big) :
    Calls Try.prog 51 #[.string ⟨#[]⟩, .int .u64 n] w fun e w' => e = .returned (.string (bs (Plain.row n))) ∧ Below w.heap.size w w' :=
  (refPutNum_any ⟨#[]⟩ n w (by decide) hn).mono fun e w' ⟨he, hb⟩ => ⟨by rw [he, bs_cons]; rfl, hb⟩

theorem keepS {wr W w1 : World} {b : Nat} {v : Value} (hS : W.cell? ⟨b, 0, none⟩ = some v ∧ Below wr.heap.size wr W) (hlt : b < wr.heap.size) (h1 : Below W.heap.size W w1) :
    w1.cell? ⟨b, 0, none⟩ = some v ∧ Below wr.heap.size wr w1 :=
  ⟨(h1.cell (p := ⟨b, 0, none⟩) (Nat.lt_of_lt_of_le hlt hS.2.size)).trans hS.1, hS.2.trans (h1.mono hS.2.size)⟩

set_option maxRecDepth 100000 in
set_option maxHeartbeats 1000000 in
theorem refNum_any (b : Nat) (s : ByteArray) (lost : Bool) (w : World) (h : At w b 66 [.string s, .bool lost]) (hs : s.size ≤ 1099511627776) :
    Calls Try.prog 59 #[.pointer (some ⟨b, 0, none⟩)] w fun e w' =>
      e = .returned (.int .u64 (rf s.data.toList lost).1) ∧ Rf w' b (rf s.data.toList lost).2.1 (rf s.data.toList lost).2.2 ∧ Only b w w' := by
  have hc := h.cell 0 _ rfl
  have HA := Lib.hid h
  have hq : s.size ≤ 9223372036854775807 := by omega
  generalize hR : rf s.data.toList lost = R
  have HR := Lib.hid hR
  clear h hR
  go_enter Try.func59, Try.ntmps59
  go_wp2
  go_loopw [3] (fun k wr => ∃ (j : Nat), k = .int .i64 j ∧ j ≤ s.size ∧ Hi128 s j ∧ wr = w) (fun k _ => s.size - (intOf k).toNat)
  case atStart => exact ⟨0, rfl, by omega, fun i hi => by omega, rfl⟩
  case round =>
    obtain ⟨k, rfl, hk, hall, rfl⟩ := hrel
    have HH := Lib.hid hall
    clear hall
    by_cases hlt : k < s.size
    · by_cases hl : (128 : Int) ≤ s[k].toNat
      · go_wp2
        go_roundw
        case rel =>
          refine ⟨k + 1, by go_num, by omega, ?_, trivial⟩
          intro i hi h2
          by_cases e : i = k
          · subst e; rw [get_data s i hlt]; omega
          · exact HH.out i (by omega) h2
        case measure => simp [intOf]; omega
      · by_cases h9 : (9 : Int) < k
        · go_wp2_with fail
          refine (lose_any b s.data.toList lost _ (by rw [Rf, bs_data]; exact HA.out)).mono ?_
          rintro e w1 ⟨rfl, h1, h2⟩
          have H1 := Lib.hid h1
          have H2 := Lib.hid h2
          clear h1 h2
          go_wp2
          go_ret
          rw [rf_none HR.out (Plain.ref_none HH.out (.inr (by omega)))]
          exact ⟨rfl, H1.out, H2.out⟩
        · have h9' : (k : Int) ≤ 9 := by omega
          go_wp2
          go_loopw [4, 5] (fun n i wr2 => ∃ (j : Nat), n = .int .u64 (Plain.val (s.data.toList.take j) : Int) ∧ i = .int .i64 j ∧ j ≤ k + 1 ∧ wr2 = wr) (fun _ i _ => k + 1 - (intOf i).toNat)
          case atStart => exact ⟨0, rfl, rfl, by omega, rfl⟩
          case round =>
            obtain ⟨j, rfl, rfl, hj, rfl⟩ := hrel
            by_cases hjk : j ≤ k
            · have hjs : j < s.size := by omega
              have hv := val_step s j hjs
              have hv0 := Plain.val_lt (s.data.toList.take j)
              generalize Plain.val (s.data.toList.take j) = V at hv hv0 ⊢
              have HV := Lib.hid hv
              clear hv
              go_wp2
              go_roundw
              case rel =>
                refine ⟨j + 1, ?_, by go_num, by omega, trivial⟩
                rw [HV.out]
                congr 1
                simp only [IntKind.wrap, IntKind.bits, IntKind.signed]; simp
              case measure => simp [intOf]; omega
            · obtain rfl : j = k + 1 := by omega
              have hjs : k + 1 ≤ s.size := by omega
              clear hj hjk
              have hv0 := Plain.val_lt (s.data.toList.take (k + 1))
              generalize hV : Plain.val (s.data.toList.take (k + 1)) = V at hv0 ⊢
              have HV := Lib.hid hV
              clear hV
              have hblt := HA.out.lt
              have hw1 : IntKind.i64.wrap ((k : Int) + 1) = (k : Int) + 1 := by rw [IntKind.wrap_i64]; omega
              have hk0 : (0 : Int) ≤ (k : Int) + 1 := by omega
              have hkt : ((k : Int) + 1).toNat = k + 1 := by omega
              have hkl : (k : Int) + 1 ≤ (s.size : Int) := by omega
              have hsome := Plain.ref_some (l := s.data.toList) (k := k) (by rw [size_data]; exact hlt) HH.out (by rw [get_data s k hlt]; omega)
              rw [HV.out] at hsome
              have HS := Lib.hid hsome
              clear hsome
              have hbeq : ((bs (Plain.row V)).toList == (s.extract 0 (k + 1)).toList) = decide (Plain.row V = s.data.toList.take (k + 1)) := by
                rw [bs_take, ByteArray.toList_eq, ByteArray.toList_eq, data_bs, data_bs]
                rw [Bool.eq_iff_iff]; simp
              by_cases hrow : Plain.row V = s.data.toList.take (k + 1)
              · have hbt : ((bs (Plain.row V)).toList == (s.extract 0 (k + 1)).toList) = true := by rw [hbeq]; simpa using hrow
                have HS2 := Lib.hid (HS.out.1 hrow)
                clear hbeq hrow
                go_wp2_with fail
                go_region_held3 (fun w' => w'.cell? ⟨b, 0, none⟩ = some (.string s) ∧ Below wr.heap.size wr w') (first | exact ⟨hc, (Below.refl _ _).drew⟩ | exact keepS (by assumption) hblt (by assumption) | go_keep) (first | (go_at_call 51; refine (refPutNum_empty V _ hv0).mono ?_; rintro e w1 ⟨rfl, hb1⟩))
                have hB : Below wr.heap.size wr w1 := ⟨hb1.os, hb1.tape, hb1.output, hb1.size, hb1.block⟩
                have h1 := At.below HA.out hB hblt
                have g0 := h1.cell 0 _ rfl
                have f0 := h1.frozen 0
                have H1 := Lib.hid h1
                clear h1
                go_wp2
                go_ret
                rw [rf_some HR.out HS2.out]
                refine ⟨rfl, ?_, (Only.of_below hB).trans (Only.setCell _ _ _ _)⟩
                have := H1.out.setCell 0 (.string (s.extract (k + 1) s.size))
                rw [bs_drop] at this
                rw [bs_drop]
                exact this
              · have hbt : ((bs (Plain.row V)).toList == (s.extract 0 (k + 1)).toList) = false := by rw [hbeq]; simpa using hrow
                have HS2 := Lib.hid (HS.out.2 hrow)
                clear hbeq hrow
                go_wp2_with fail
                go_region_held3 (fun w' => w'.cell? ⟨b, 0, none⟩ = some (.string s) ∧ Below wr.heap.size wr w') (first | exact ⟨hc, (Below.refl _ _).drew⟩ | exact keepS (by assumption) hblt (by assumption) | go_keep) (first | (go_at_call 51; refine (refPutNum_empty V _ hv0).mono ?_; rintro e w1 ⟨rfl, hb1⟩))
                have hB : Below wr.heap.size wr w1 := ⟨hb1.os, hb1.tape, hb1.output, hb1.size, hb1.block⟩
                have h1 := At.below HA.out hB hblt
                have H1 := Lib.hid h1
                clear h1
                go_wp2_with fail
                refine (lose_any b s.data.toList lost _ (by rw [Rf, bs_data]; exact H1.out)).mono ?_
                rintro e w2 ⟨rfl, h1, h2⟩
                have H3 := Lib.hid h1
                have H2 := Lib.hid h2
                clear h1 h2
                go_wp2
                go_ret
                rw [rf_none HR.out HS2.out]
                exact ⟨rfl, H3.out, (Only.of_below hB).trans H2.out⟩
    · go_wp2_with fail
      refine (lose_any b s.data.toList lost _ (by rw [Rf, bs_data]; exact HA.out)).mono ?_
      rintro e w1 ⟨rfl, h1, h2⟩
      have H1 := Lib.hid h1
      have H2 := Lib.hid h2
      clear h1 h2
      go_wp2
      go_ret
      rw [rf_none HR.out (Plain.ref_none HH.out (.inl (by rw [size_data]; omega)))]
      exact ⟨rfl, H1.out, H2.out⟩
end Go.Proofs.Ytdpeblchndfdaaa
