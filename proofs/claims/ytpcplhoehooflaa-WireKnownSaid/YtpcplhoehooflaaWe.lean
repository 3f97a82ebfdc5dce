import Derived.Test.YtpcplhoehooflaaWd2
import Derived.Test.YtpcplhoehooflaaL4
namespace Go.Proofs.Ytpcplhoehooflaa
open Go.RowKit

/-- the numbers: in memory that was there -/
def Words (w : World) (a : Option Addr) (len : Nat) (l : List Nat) : Prop :=
  l.length = len ∧ (∀ n ∈ l, n < Plain.big) ∧ ∀ i, (h : i < l.length) → ∃ x, a = some x ∧ w.cell? (x.add i) = some (.int .u64 (l[i] : Int))

theorem text_put (b : Nat) (l : List UInt8) (w : World) (h : Rd w b (Plain.row l.length ++ l) false) (hl : l.length ≤ 1099511627776) :
    Calls Try.prog 17 #[.pointer (some ⟨b, 0, none⟩)] w fun e w' => e = .returned (.string (bs l)) ∧ Rd w' b [] false ∧ Only b w w' := by
  have hr := Plain.row_length_le l.length (by unfold Plain.big; omega)
  have := text_any b _ false w h (by simp; omega)
  have e := rtext_put l [] (by omega)
  rw [List.append_nil] at e
  rw [e] at this
  exact this

theorem cell_only {w w' : World} {b : Nat} {p : Addr} {v : Value} (h : w.cell? p = some v) (k : Only b w w') (hne : p.block ≠ b) : w'.cell? p = some v := by
  rw [← h]
  exact World.cell?_of_block (w := w) (k.block p.block (cell_lt h) hne)

set_option maxRecDepth 100000 in
set_option maxHeartbeats 2000000 in
theorem wireNests_walk (s : ByteArray) (a : Option Addr) (len cap : Nat) (zs : List Nat) (w : World) (hs : s.size ≤ maxLen) (hlen : len ≤ cap) (hcap : cap ≤ maxLen) (hb : Words w a len zs) :
    Calls Try.prog 5 #[.slice a len cap, .string s] w fun e w' => e = .returned (.bool true) ∧ Below w.heap.size w w' := by
  unfold maxLen at hs hcap
  have HBY := Lib.hid hb
  clear hb
  go_enter Try.func5, Try.ntmps5
  go_wp2_with fail
  go_quiet (fail)
  have h1 : (s.extract 0 (min (s.size : Int) 300).toNat).size ≤ 300 := cut_size s 300
  generalize s.extract 0 (min (s.size : Int) 300).toNat = s2 at h1 ⊢
  obtain ⟨core, rfl⟩ := ex_bs s2
  rw [bs_size] at h1
  obtain ⟨L, hLk, hL30, hLb, hLc⟩ : ∃ L : List Nat, L.length = (min (len : Int) 30).toNat ∧ L.length ≤ 30 ∧ (∀ n ∈ L, n < Plain.big) ∧
      ∀ i, (h : i < L.length) → ∃ x, a = some x ∧ w.cell? (x.add i) = some (.int .u64 (L[i] : Int)) := by
    obtain ⟨g1, g2, g3⟩ := HBY.out
    refine ⟨zs.take 30, by rw [List.length_take]; omega, by rw [List.length_take]; omega, fun n hn => g2 n (List.mem_of_mem_take hn), ?_⟩
    intro i hi
    rw [List.length_take] at hi
    obtain ⟨x, hx, hc⟩ := g3 i (by omega)
    exact ⟨x, hx, by rw [hc]; simp⟩
  rw [← hLk]
  have HLB := Lib.hid hLb
  have HLC := Lib.hid hLc
  have HNL : Hid (∀ j, (Plain.nest (L.drop j) core).length ≤ 900) := Lib.hid fun j => by
    have := Plain.nest_length core (L.drop j) (fun n hn => HLB.out n (List.mem_of_mem_drop hn)) (by simp; omega) h1
    have e : (L.drop j).length ≤ L.length := by simp
    omega
  clear hLb hLc hLk
  go_wp2
  go_loopw [5, 6] (fun t i wr => ∃ j : Nat, i = .int .i64 ((j : Int) - 1) ∧ j ≤ L.length ∧ t = .string (bs (Plain.nest (L.drop j) core)) ∧ Below w.heap.size w wr) (fun _ i _ => (intOf i + 1).toNat)
  case atStart => exact ⟨L.length, rfl, Nat.le_refl _, by rw [List.drop_length]; rfl, below_drewN _ _⟩
  case round =>
    obtain ⟨j, rfl, hj, rfl, hbel⟩ := hrel
    have HW := Lib.hid hbel
    clear hbel
    by_cases h0 : 1 ≤ j
    · obtain ⟨j, rfl⟩ : ∃ i, j = i + 1 := ⟨j - 1, by omega⟩
      obtain ⟨x, rfl, hcell⟩ := HLC.out j (by omega)
      have hc := (HW.out.cell (cell_lt hcell)).trans hcell
      have hnb : L[j] < Plain.big := HLB.out _ (List.getElem_mem _)
      have hne := Plain.nest_drop core L j (by omega)
      have HN := Lib.hid hne
      have hl1 := HNL.out (j + 1)
      clear hcell hne
      generalize L[j]'(by omega) = n at hc hnb HN
      generalize Plain.nest (L.drop (j + 1)) core = inner at HN hl1 ⊢
      have hn64 : inner.length < Plain.big := by unfold Plain.big; omega
      have hjl : j < L.length := by omega
      clear hj
      go_wp2_with fail
      refine (putNum_empty n _ hnb).mono ?_
      rintro e w1 ⟨rfl, b1⟩
      have HW1 := Lib.hid (HW.out.trans (b1.mono HW.out.size))
      clear b1
      have hnl := Plain.row_length_le n hnb
      go_wp2_with fail
      refine (putText_any (bs (Plain.row n)) (bs inner) _ (by rw [bs_size]; omega) (by rw [bs_size]; omega)).mono ?_
      rintro e w2 ⟨rfl, b2⟩
      have HW2 := Lib.hid (HW1.out.trans (b2.mono HW1.out.size))
      clear b2
      go_wp2
      go_roundw
      case rel => exact ⟨j, by go_num, by omega, by rw [HN.out], HW2.out⟩
      case measure => simp [intOf]
    · obtain rfl : j = 0 := by omega
      clear h0 hj
      rw [List.drop_zero, show (((0 : Nat) : Int) - 1) = -1 from rfl]
      go_wp2
      go_loopw [5, 8, 9] (fun t i _ wr => ∃ j : Nat, i = .int .i64 j ∧ j ≤ L.length ∧ t = .string (bs (Plain.nest (L.drop j) core)) ∧ Below w.heap.size w wr) (fun _ i _ _ => L.length - (intOf i).toNat)
      case atStart => exact ⟨0, rfl, Nat.zero_le _, by rw [List.drop_zero], HW.out⟩
      case round =>
        obtain ⟨j, rfl, hj, rfl, hbel⟩ := hrel
        have HV := Lib.hid hbel
        clear hbel
        by_cases hlt : j < L.length
        · obtain ⟨x, rfl, hcell⟩ := HLC.out j hlt
          have hc := (HV.out.cell (cell_lt hcell)).trans hcell
          have hxb : (x.add j).block < w.heap.size := cell_lt hcell
          have hnb : L[j] < Plain.big := HLB.out _ (List.getElem_mem _)
          have hne := Plain.nest_drop core L j hlt
          have hl0 := HNL.out j
          have hl1 := HNL.out (j + 1)
          have HN := Lib.hid hne
          clear hcell hne
          generalize L[j]'(by omega) = n at hc hnb HN
          generalize hI : Plain.nest (L.drop (j + 1)) core = inner at HN hl1 ⊢
          have HI := Lib.hid hI
          clear hI
          generalize Plain.nest (L.drop j) core = outer at HN hl0 ⊢
          go_wp2_with fail
          refine (newReader_bs _ _).mono ?_
          rintro e w1 ⟨rfl, _, rfl, r1, b1⟩
          have hc1 := (b1.cell (cell_lt hc)).trans hc
          have HW1 := Lib.hid (HV.out.trans (b1.mono HV.out.size))
          have hsz := HV.out.size
          have R1 := Lib.hid r1
          clear r1 b1 hc
          go_wp2_with fail
          have HC : Hid (Plain.cut outer = some (n, Plain.row inner.length ++ inner)) := Lib.hid (by rw [HN.out]; exact Plain.cut_row n hnb _)
          have hxn : (x.add j).block ≠ wr.heap.size := by omega
          have hol : outer.length ≤ maxLen := by unfold maxLen; omega
          go_region_held3 (fun w' => w'.cell? (x.add j) = some (.int .u64 (n : Int))) (first | exact hc1 | exact cell_only (by assumption) (by assumption) hxn | go_keep) (first | (go_at_call 15; refine (num_some wr.heap.size outer n (Plain.row inner.length ++ inner) (n : Int) _ (by exact R1.out) hol HC.out rfl).mono ?_; rintro e w3 ⟨rfl, r3, b3⟩) | (go_at_call 19; refine (ok_any wr.heap.size _ false _ ‹Rd _ _ _ _›).mono ?_; rintro e w4 ⟨rfl, rfl⟩))
          have HW4 := Lib.hid (Below.then (b := wr.heap.size) (u := w) (w := w1.drew) (w' := w4) ⟨HW1.out.os, HW1.out.tape, HW1.out.output, HW1.out.size, HW1.out.block⟩ b3 hsz)
          have R4 := Lib.hid r3
          clear r3 b3
          go_wp2_with fail
          refine (text_put _ inner _ R4.out (by omega)).mono ?_
          rintro e w5 ⟨rfl, r5, b5⟩
          have HW5 := Lib.hid (Below.then HW4.out b5 hsz)
          have R5 := Lib.hid r5
          clear r5 b5
          go_wp2_with fail
          refine (end_any _ _ _ _ R5.out).mono ?_
          rintro e w6 ⟨rfl, rfl⟩
          go_wp2
          go_roundw
          case rel => exact ⟨j + 1, by go_num, by omega, by rw [HI.out], HW5.out⟩
          case measure => simp [intOf]; omega
        · obtain rfl : j = L.length := by omega
          rw [List.drop_length, show Plain.nest [] core = core from rfl]
          clear hlt hj
          by_cases hL : L.length = 0
          · go_wp2_with fail
            refine (works_any _).mono ?_
            rintro e wa ⟨rfl, ba⟩
            go_wp2
            go_ret
            exact ⟨rfl, HV.out.trans (ba.mono HV.out.size)⟩
          · have hL0 : (L.length == 0) = false := by simpa using hL
            obtain ⟨x, rfl, hcell⟩ := HLC.out 0 (by omega)
            have hc := (HV.out.cell (cell_lt hcell)).trans hcell
            have hnb : L[0] < Plain.big := HLB.out _ (List.getElem_mem _)
            have hne := Plain.nest_drop core L 0 (by omega)
            rw [List.drop_zero] at hne
            have hl0 := HNL.out 0
            rw [List.drop_zero] at hl0
            have hl1 := HNL.out (0 + 1)
            clear hcell
            generalize L[0]'(by omega) = n at hc hnb hne
            generalize Plain.nest (L.drop (0 + 1)) core = inner at hne hl1
            obtain ⟨X, hX1, hX2⟩ := Plain.nest_less n hnb inner (by unfold Plain.big; omega)
            rw [← hne, List.dropLast_eq_take] at hX1
            have hpos : 0 < (Plain.nest L core).length := by
              have := Plain.row_length_pos n
              rw [hne]; simp; omega
            generalize Plain.nest L core = whole at hne hl0 hX1 hpos ⊢
            have hX3 := cut_len hX1
            have hX4 : rtext X false = ([], [], true) := by
              rcases hX2 with h | ⟨r, h, hr⟩
              · simp [rtext, Plain.cutT, h]
              · simp [rtext, Plain.cutT, h, hr]
            have HX1 := Lib.hid hX1
            have HX4 := Lib.hid hX4
            have hlen3 : X.length ≤ 900 := by simp at hX3; omega
            clear hne hX1 hX2 hX3 hX4 hl1
            go_wp2_with fail
            refine (newReader_bs _ _).mono ?_
            rintro e w1 ⟨rfl, _, rfl, r1, b1⟩
            have hc1 := (b1.cell (cell_lt hc)).trans hc
            have hxb : (x.add 0).block < wr.heap.size := cell_lt hc
            have HW1 := Lib.hid (HV.out.trans (b1.mono HV.out.size))
            have hsz := HV.out.size
            have R1 := Lib.hid r1
            have HC1 := Lib.hid hc1
            clear r1 b1 hc hc1
            go_wp2_with fail
            refine (num_some _ _ n X (n : Int) _ R1.out (by simp; unfold maxLen; omega) HX1.out rfl).mono ?_
            rintro e w3 ⟨rfl, r3, b3⟩
            have HW3 := Lib.hid (Below.then HW1.out b3 hsz)
            have HC3 := Lib.hid (cell_only HC1.out b3 (by omega))
            have R3 := Lib.hid r3
            clear r3 b3
            go_wp2_with fail
            refine (text_any _ _ _ _ R3.out (by omega)).mono ?_
            rw [HX4.out]
            rintro e w4 ⟨rfl, r4, b4⟩
            have HW4 := Lib.hid (Below.then HW3.out b4 hsz)
            have hc4 := cell_only HC3.out b4 (by omega)
            rw [show x.add 0 = x from rfl] at hc4
            have R4 := Lib.hid r4
            clear r4 b4
            go_wp2_with fail
            refine (ok_any _ _ _ _ R4.out).mono ?_
            rintro e w5 ⟨rfl, rfl⟩
            go_wp2_with fail
            refine (end_any _ _ _ _ R4.out).mono ?_
            rintro e w6 ⟨rfl, rfl⟩
            go_wp2_with fail
            refine (works_any _).mono ?_
            rintro e wa ⟨rfl, ba⟩
            go_wp2
            go_ret
            exact ⟨rfl, HW4.out.trans (ba.mono HW4.out.size)⟩
end Go.Proofs.Ytpcplhoehooflaa
