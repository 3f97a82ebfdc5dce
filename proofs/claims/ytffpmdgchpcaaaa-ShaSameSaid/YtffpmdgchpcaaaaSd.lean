/- Bytes of words, and what is padded. -/
import Derived.Test.YtffpmdgchpcaaaaSc
import Derived.Test.YtffpmdgchpcaaaaSh
import Derived.Test.YtffpmdgchpcaaaaSm
namespace Go.Proofs.Ytffpmdgchpcaaaa
open Go.RowKit

/-- a word's bytes, the highest first -/
def by4 (x : Wd) : List UInt8 := [lo (x >>> 24), lo (x >>> 16), lo (x >>> 8), lo x]
def bytes (ws : List Wd) : List UInt8 := ws.flatMap by4
theorem bytes_len (ws : List Wd) : (bytes ws).length = 4 * ws.length := by
  induction ws with
  | nil => rfl
  | cons x ws ih => simp only [bytes, List.flatMap_cons, List.length_append, List.length_cons] at *; rw [ih]; simp [by4]; omega
@[go_sem] theorem w8_lo (x : Wd) : IntKind.u8.wrap (wi x) = ((lo x).toNat : Int) := by
  simp only [IntKind.wrap, IntKind.bits, IntKind.signed, wi, lo, UInt8.toNat_ofNat']; simp

theorem bytes_take (ws : List Wd) (k : Nat) (h : k < ws.length) : bytes (ws.take (k + 1)) = bytes (ws.take k) ++ by4 (ws[k]?.getD 0) := by
  have e : ws[k]?.getD 0 = ws[k] := by simp [List.getElem?_eq_getElem h]
  rw [e, List.take_succ_eq_append_getElem h]
  simp only [bytes, List.flatMap_append, List.flatMap_cons, List.flatMap_nil, List.append_nil]
theorem info5 : (Try.prog.info? 5).map (fun i => (i.zero, i.size, i.bytes)) = some (some (.int .u8 0), 1, 1) := by kernel_rfl
theorem bv_one4 (x : Wd) : ∀ v ∈ (by4 x).map bv, v.oneCell' = true := bv_one _

set_option maxHeartbeats 1000000 in
theorem bytesOf_any (ws : List Wd) (S T1 : Nat) (w : World) (hS : At w S T1 (ws.map wv)) (hl : ws.length < 100) :
    Calls Try.prog 29 #[.slice (some ⟨S, 0, none⟩) ws.length ws.length] w fun e w' => e = .returned (.string (bs (bytes ws))) ∧ Below w.heap.size w w' := by
  obtain ⟨i5, hi5, hz0, hz1, hz2⟩ := info_parts info5
  have hmk : (Instr.makeSlice 24 (.int .i64 0) (.int .i64 (ws.length * 4))).run Try.prog w = .ok (.slice (some ⟨w.heap.size, 0, none⟩) 0 (ws.length * 4)) (w.alloc (.cells (madeCells #[.int .u8 0] (ws.length * 4)) 5)) := by
    have := run_make (P := Try.prog) w 24 5 i5 (.int .u8 0) Try.underlying24 hi5 hz0 .i64 .i64 0 ((ws.length:Int) * 4) (by omega) (by omega) (by rw [hz2]; omega) (by omega)
    rw [this, hz1, Nat.mul_one, show ((ws.length:Int) * 4).toNat = ws.length * 4 by omega]; rfl
  have hS0 : S < w.heap.size := hS.lt
  have HS := Lib.hid hS
  have HI := Lib.hid hi5
  have HZ := Lib.hid hz1
  have hm : ws.length * 4 ≤ maxLen := by unfold maxLen; omega
  clear hS hi5 hz0 hz1 hz2
  go_enter Try.func29, Try.ntmps29
  go_wp2
  go_loopw [12, 3] (fun s v wx => ∃ k : Nat, k ≤ ws.length ∧ s = .int .i64 k ∧ v = .slice (some ⟨w.heap.size, 0, none⟩) (k * 4) (ws.length * 4) ∧ Room wx w.heap.size 5 (ws.length * 4) ((bytes (ws.take k)).map bv) ∧ Below w.heap.size w wx) (fun s _ _ => ws.length - (intOf s).toNat)
  case atStart => exact ⟨0, by omega, rfl, by simp, by simpa [bytes] using Room.made w _ _ 5 hm, (Below.refl _ _).alloc (Nat.le_refl _) _⟩
  case round =>
    obtain ⟨k, hk, rfl, rfl, hR, hB⟩ := hrel
    have HR := Lib.hid hR
    have HB := Lib.hid hB
    clear hR hB
    by_cases hlt : k < ws.length
    · have hc := (HS.out.below HB.out hS0).cell k _ (wv_get ws k hlt)
      have hnx := bytes_take ws k hlt
      have HX := Lib.hid hnx
      clear hnx
      have HX := HX.out
      generalize ws[k]?.getD 0 = x at hc HX
      have HX := Lib.hid HX
      have hbl : (bytes (ws.take k)).length = k * 4 := by rw [bytes_len, List.length_take]; omega
      go_wp2_with (first | (refine append_room rfl _ _ 24 rfl 5 i5 Try.underlying24 HI.out HZ.out w.heap.size _ _ rfl _ (by rw [List.length_map, hbl]) (HR.out.alloc _) wr.heap.size 4 4 rfl _ (At.new _ _ _) rfl (bv_one4 x) (by omega) ?_; intro w2 R2 O2))
      go_roundw
      case rel => exact ⟨k + 1, by omega, by go_num, by go_num, by rw [HX.out, List.map_append]; exact R2, Below.then (HB.out.alloc HB.out.size _) O2 (Nat.le_refl _)⟩
      case measure => simp [intOf]; omega
    · obtain rfl : k = ws.length := by omega
      have hR := HR.out
      rw [List.take_length] at hR
      have hcv := conv_room (P := Try.prog) 24 9 5 (bytes ws) hR Try.underlying24 Try.underlying5 Try.underlying9 (ws.length * 4) (by rw [bytes_len]; omega)
      clear hR
      go_wp2
      go_ret
      exact ⟨rfl, HB.out⟩
end Go.Proofs.Ytffpmdgchpcaaaa
