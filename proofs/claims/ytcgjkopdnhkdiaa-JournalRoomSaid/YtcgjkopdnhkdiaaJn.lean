/- Texts laid one behind the other. -/
import Derived.Test.YtcgjkopdnhkdiaaJm
import Derived.Test.YtcgjkopdnhkdiaaDo
namespace Go.Proofs.Ytcgjkopdnhkdiaa
open Go.RowKit
set_option maxRecDepth 100000
def rowT (t : List UInt8) : List UInt8 := Plain.row t.length ++ t
def rowsL (ts : List (List UInt8)) : List UInt8 := ts.flatMap rowT
theorem rowsL_snoc (ts : List (List UInt8)) (t : List UInt8) : rowsL (ts ++ [t]) = rowsL ts ++ rowT t := by unfold rowsL; simp
theorem rowsL_append (a b : List (List UInt8)) : rowsL (a ++ b) = rowsL a ++ rowsL b := by unfold rowsL; simp
theorem rowsL_take (ts : List (List UInt8)) (k : Nat) : (rowsL (ts.take k)).length ≤ (rowsL ts).length := by
  conv => rhs; rw [← List.take_append_drop k ts, rowsL_append]
  rw [List.length_append]; omega
theorem putText_nil (m : List UInt8) (w : World) (hm : m.length ≤ 1000000) :
    Calls Try.prog 88 #[.string ⟨#[]⟩, .string (bs m)] w fun e w' => e = .returned (.string (bs (rowT m))) ∧ Below w.heap.size w w' := by
  refine (putText_any ⟨#[]⟩ (bs m) w (by decide) (by rw [bs_size]; omega)).mono ?_
  rintro e w' ⟨rfl, hb⟩
  refine ⟨ret_of ?_, hb⟩
  have e : (⟨#[]⟩ : ByteArray) ++ bs (Plain.row (bs m).size) ++ bs m = bs (rowT m) := by
    rw [show (⟨#[]⟩ : ByteArray) = bs [] from rfl, bs_size, bs_append, bs_append]; rfl
  first | exact e ▸ rfl | rw [← e]
/-- texts that lie in a row, wherever -/
def Lst (w : World) (a : Option Addr) (ts : List (List UInt8)) : Prop := ∀ j t, ts[j]? = some t → ∃ x, a = some x ∧ w.cell? (x.add j) = some (tv t)
theorem cell_old {w0 w : World} (hb : Below w0.heap.size w0 w) {p : Addr} {v : Value} (h : w0.cell? p = some v) : w.cell? p = some v := by
  rw [← h]; exact hb.cell (World.block_lt_of_cell? w0 p h)
theorem Lst.below {w w' : World} {a : Option Addr} {ts : List (List UInt8)} (h : Lst w a ts) (hb : Below w.heap.size w w') : Lst w' a ts := fun j t hj => by
  obtain ⟨x, e, hc⟩ := h j t hj
  exact ⟨x, e, cell_old hb hc⟩
theorem zero_bld : ∀ w, (zeroValue 102).run Try.prog w = .ok (.agg #[.pointer none, .slice none 0 0]) w := fun _ => by kernel_rfl
theorem byteCells_append (a b : List UInt8) : Lib.byteCells a ++ Lib.byteCells b = Lib.byteCells (a ++ b) := by unfold Lib.byteCells; simp
theorem byteCells_len (a : List UInt8) : (Lib.byteCells a).length = a.length := by unfold Lib.byteCells; simp
set_option maxHeartbeats 4000000 in
theorem bytesOf_any (a : Option Addr) (ts : List (List UInt8)) (cap room : Nat) (hr : room ≤ 1000000) (ht : (rowsL ts).length ≤ 100000000) (hn : ts.length ≤ 1000000) (h1 : ∀ t ∈ ts, t.length ≤ 1000000) (w : World) (hL : Lst w a ts) :
    Calls Try.prog 72 #[.slice a ts.length cap, .int .i64 (room : Int)] w fun e w' => e = .returned (.tuple (if (rowsL ts).length ≤ room then #[.string (bs (rowsL ts)), .bool true] else #[.string ⟨#[]⟩, .bool false])) ∧ Below w.heap.size w w' := by
  have h0 := IsBuilderF.new w
  have b0 := (Below.refl _ w).alloc (Nat.le_refl _) (.cells #[.pointer none, .slice none 0 0] 102)
  have H0 := Lib.hid h0
  have B0 := Lib.hid b0
  have HL := Lib.hid hL
  have HT := Lib.hid ht
  have H1 := Lib.hid h1
  obtain ⟨R, hR⟩ : ∃ R, R = (if (rowsL ts).length ≤ room then #[Value.string (bs (rowsL ts)), .bool true] else #[.string ⟨#[]⟩, .bool false]) := ⟨_, rfl⟩
  rw [← hR]
  have HRES := Lib.hid hR
  clear h0 b0 hL ht h1 hR
  go_enter Try.func72, Try.ntmps72
  go_wp2_with (with_reducible refine alloc_agg rfl 102 rfl #[.pointer none, .slice none 0 0] zero_bld ?_)
  generalize w.alloc (.cells #[.pointer none, .slice none 0 0] 102) = w1 at *
  go_loopw [11] (fun i wx => ∃ k : Nat, k ≤ ts.length ∧ i = .int .i64 k ∧ Lib.IsBuilderF 102 5 w.heap.size w.heap.size (Lib.byteCells (rowsL (ts.take k))) wx ∧ Below w.heap.size w wx ∧ (rowsL (ts.take k)).length ≤ room) (fun i _ => ts.length - (intOf i).toNat)
  case atStart => exact ⟨0, by omega, rfl, H0.out, B0.out, by simp [rowsL]⟩
  clear H0 B0
  case round =>
    obtain ⟨k, hk, rfl, hI, hB, hle⟩ := hrel
    have HI := Lib.hid hI
    have HB := Lib.hid hB
    have hws := hB.size
    clear hI hB
    by_cases hlt : k < ts.length
    · have hlt' : (k : Int) < ts.length := by omega
      obtain ⟨t, htk⟩ : ∃ t, ts[k]? = some t := ⟨_, List.getElem?_eq_getElem hlt⟩
      obtain ⟨x, rfl, hc⟩ := HL.out k t htk
      have hc2 := cell_old HB.out hc
      unfold tv at hc2
      have htm := H1.out t (List.mem_of_getElem? htk)
      have hsn : rowsL (ts.take (k + 1)) = rowsL (ts.take k) ++ rowT t := by rw [List.take_add_one, htk, Option.toList_some, rowsL_snoc]
      have hle2 := rowsL_take ts (k + 1)
      have HSN := Lib.hid hsn
      have hq : (rowsL (ts.take k)).length + (rowT t).length ≤ 100000000 := by
        have := HT.out
        rw [hsn, List.length_append] at hle2
        omega
      have HLE2 := Lib.hid hle2
      clear hc htk hsn hle2
      go_wp2_with fail
      refine (putText_nil t wr (by omega)).mono ?_
      rintro e w2 ⟨rfl, b2⟩
      have hI2 : Lib.IsBuilderF 102 5 w.heap.size w.heap.size (Lib.byteCells (rowsL (ts.take k))) w2 := IsBuilderF.kept HI.out (fun i _ hi => b2.block i hi)
      have hB2 := HB.out.trans (b2.mono hws)
      have HI2 := Lib.hid hI2
      have HB2 := Lib.hid hB2
      have hws2 := hB2.size
      clear hI2 hB2 b2 hc2
      go_wp2_with fail
      refine (bWrite_any w.heap.size w.heap.size _ (bs (rowT t)) w2 HI2.out (by rw [byteCells_len, bs_size]; omega) hws2).mono ?_
      rintro e w3 ⟨rfl, hI3, b3⟩
      rw [strCells_list, byteCells_append, ← HSN.out] at hI3
      have hB3 := HB2.out.trans b3
      have HI3 := Lib.hid hI3
      have HB3 := Lib.hid hB3
      clear hI3 hB3 b3
      go_wp2_with fail
      refine (Try.Builder_Len_f w.heap.size w.heap.size _ w3 HI3.out).mono ?_
      rintro e w4 ⟨rfl, rfl⟩
      rw [byteCells_len]
      by_cases hroom : (rowsL (ts.take (k + 1))).length ≤ room
      · have d1 : decide ((room : Int) < ((rowsL (ts.take (k + 1))).length : Int)) = false := by simp; omega
        go_wp2
        go_roundw
        case rel => exact ⟨k + 1, by omega, by go_num, HI3.out, HB3.out, hroom⟩
        case measure => simp [intOf]; omega
      · have d1 : decide ((room : Int) < ((rowsL (ts.take (k + 1))).length : Int)) = true := by simp; omega
        go_wp2
        go_ret2
        refine ⟨?_, HB3.out⟩
        rw [HRES.out, if_neg (by have := HLE2.out; omega)]
        rfl
    · obtain rfl : k = ts.length := by omega
      rw [List.take_length] at HI hle
      go_wp2_with fail
      refine (Try.Builder_String_any_f w.heap.size w.heap.size (rowsL ts) wr HI.out hws).mono ?_
      rintro e w2 ⟨rfl, _, b2⟩
      have hB2 := Lib.hid (HB.out.trans b2)
      clear b2
      go_wp2
      go_ret2
      refine ⟨?_, hB2.out⟩
      rw [HRES.out, if_pos hle]
      rfl
end Go.Proofs.Ytcgjkopdnhkdiaa
