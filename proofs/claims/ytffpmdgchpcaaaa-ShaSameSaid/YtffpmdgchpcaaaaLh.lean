/- Bytes, to the base 16; the chapter's rows. -/
import Derived.Test.YtffpmdgchpcaaaaSg
import Derived.Deep.RegionHeld3
namespace Go.Proofs.Ytffpmdgchpcaaaa
open Go.RowKit
attribute [local go_sem] bs_size bs_append
@[local go_sem] theorem bs_toList' (l : List UInt8) : (bs l).toList = l := by rw [ByteArray.toList_eq, data_bs]

def digits : List UInt8 := [48, 49, 50, 51, 52, 53, 54, 55, 56, 57, 97, 98, 99, 100, 101, 102]
def dg (n : Nat) : UInt8 := digits[n]?.getD 0
def hexB (c : UInt8) : List UInt8 := [dg (c.toNat / 16), dg (c.toNat % 16)]
def hexL (l : List UInt8) : List UInt8 := l.flatMap hexB
theorem hexL_len (l : List UInt8) : (hexL l).length = 2 * l.length := by
  induction l with
  | nil => rfl
  | cons x ws ih => simp only [hexL, List.flatMap_cons, List.length_append, List.length_cons] at *; rw [ih]; simp [hexB]; omega
theorem hexL_take (l : List UInt8) (k : Nat) (h : k < l.length) : hexL (l.take (k + 1)) = hexL (l.take k) ++ hexB l[k] := by
  rw [List.take_succ_eq_append_getElem h]
  simp only [hexL, List.flatMap_append, List.flatMap_cons, List.flatMap_nil, List.append_nil]
theorem bs_get (l : List UInt8) (k : Nat) (h) : (bs l)[k]'h = l[k]'(by rw [bs_size] at h; exact h) := rfl
theorem dig_get (n : Nat) (h : n < 16) : (bs digits)[n]? = some (dg n) := by
  have : (bs digits)[n]? = digits[n]? := by
    have hs : (bs digits).size = 16 := rfl
    have hl : digits.length = 16 := rfl
    rw [getElem?_pos (bs digits) n (by omega), List.getElem?_eq_getElem (by omega)]; rfl
  rw [this, dg, List.getElem?_eq_getElem (show n < digits.length from h)]; rfl

set_option maxHeartbeats 1000000 in
theorem hex_any (l : List UInt8) (w : World) (hl : l.length ≤ 1000000) :
    Calls Try.prog 23 #[.string (bs l)] w fun e w' => e = .returned (.string (bs (hexL l))) ∧ Below w.heap.size w w' := by
  obtain ⟨i5, hi5, hz0, hz1, hz2⟩ := info_parts info5
  have hmk : (Instr.makeSlice 24 (.int .i64 0) (.int .i64 (2 * l.length))).run Try.prog w = .ok (.slice (some ⟨w.heap.size, 0, none⟩) 0 (l.length * 2)) (w.alloc (.cells (madeCells #[.int .u8 0] (l.length * 2)) 5)) := by
    have := run_make (P := Try.prog) w 24 5 i5 (.int .u8 0) Try.underlying24 hi5 hz0 .i64 .i64 0 (2 * (l.length:Int)) (by omega) (by omega) (by rw [hz2]; omega) (by omega)
    rw [this, hz1, Nat.mul_one, show (2 * (l.length:Int)).toNat = l.length * 2 by omega]; rfl
  have HI := Lib.hid hi5
  have HZ := Lib.hid hz1
  have hm : l.length * 2 ≤ maxLen := by unfold maxLen; omega
  clear hi5 hz0 hz1 hz2
  have hD : ({ data := #[48, 49, 50, 51, 52, 53, 54, 55, 56, 57, 97, 98, 99, 100, 101, 102] } : ByteArray) = bs digits := rfl
  go_enter Try.func23, Try.ntmps23
  go_wp2
  rw [hD]
  clear hD
  obtain ⟨D, hD⟩ : ∃ D, D = bs digits := ⟨_, rfl⟩
  rw [← hD]
  have hdl : D.size = 16 := by rw [hD]; rfl
  have hdg : ∀ n, n < 16 → D[n]? = some (dg n) := by rw [hD]; exact dig_get
  clear hD
  go_loopw [5, 4] (fun s v wx => ∃ k : Nat, k ≤ l.length ∧ s = .int .i64 k ∧ v = .slice (some ⟨w.heap.size, 0, none⟩) (k * 2) (l.length * 2) ∧ Room wx w.heap.size 5 (l.length * 2) ((hexL (l.take k)).map bv) ∧ Below w.heap.size w wx) (fun s _ _ => l.length - (intOf s).toNat)
  case atStart => exact ⟨0, by omega, rfl, by simp, by simpa [hexL] using Room.made w _ _ 5 hm, (Below.refl _ _).alloc (Nat.le_refl _) _⟩
  case round =>
    obtain ⟨k, hk, rfl, rfl, hR, hB⟩ := hrel
    have HR := Lib.hid hR
    have HB := Lib.hid hB
    clear hR hB
    by_cases hlt : k < l.length
    · have hnx := hexL_take l k hlt
      have hbl : (hexL (l.take k)).length = k * 2 := by rw [hexL_len, List.length_take]; omega
      obtain ⟨c, hc⟩ : ∃ c, c = l[k] := ⟨_, rfl⟩
      have hg : ∀ h, (bs l)[k]'h = c := fun h => by rw [hc]; rfl
      rw [← hc] at hnx
      have HX := Lib.hid hnx
      clear hnx hc
      have hc1 : c.toNat / 16 < 16 := by have := c.toNat_lt; omega
      have g1 := hdg _ hc1
      have g2 := hdg _ (show c.toNat % 16 < 16 by omega)
      have g3 : ∀ h, D[((c.toNat : Int) / 16).toNat]'h = dg (c.toNat / 16) := fun h => by
        have e : ((c.toNat : Int) / 16).toNat = c.toNat / 16 := by omega
        have := g1
        rw [← e, getElem?_pos D _ h] at this
        exact Option.some.inj this
      have g4 : ∀ h, D[((c.toNat : Int) % 16).toNat]'h = dg (c.toNat % 16) := fun h => by
        have e : ((c.toNat : Int) % 16).toNat = c.toNat % 16 := by omega
        have := g2
        rw [← e, getElem?_pos D _ h] at this
        exact Option.some.inj this
      have p3 : (c.toNat : Int) / 16 < 16 := by omega
      have p4 : (c.toNat : Int) % 16 < 16 := by omega
      have p1 : 0 ≤ (c.toNat : Int) / 16 := by omega
      have p2 : 0 ≤ (c.toNat : Int) % 16 := by omega
      have hand : bits .and .u8 (c.toNat : Int) 15 = (c.toNat : Int) % 16 := by
        have := c.toNat_lt
        have := bits_mask .u8 8 (by decide) wraps_u8 4 (by decide) (c.toNat : Int) (by omega) (by omega)
        simp at this
        rw [this]
      clear hdg
      go_wp2
      have hone : ∀ u ∈ [Value.int .u8 ((dg (c.toNat / 16)).toNat : Int), .int .u8 ((dg (c.toNat % 16)).toNat : Int)], u.oneCell' = true := bv_one (hexB c)
      have HRd := HR.out.drew
      go_region_held3 (fun _ => True) (trivial) (first | (refine step_room rfl _ _ 24 rfl 5 i5 Try.underlying24 HI.out HZ.out w.heap.size _ _ rfl _ (by rw [List.length_map, hbl]) (HRd.alloc _) wr.heap.size 2 2 rfl _ (At.new wr.drew _ _) rfl hone (by omega) ?_; intro w2 R2 O2))
      all_goals
        go_wp2
        go_roundw
        case rel => exact ⟨k + 1, by omega, by go_num, by go_num, by rw [HX.out, List.map_append]; exact R2, Below.then (HB.out.drew.alloc HB.out.size _) O2 (Nat.le_refl _)⟩
        case measure => simp [intOf]; omega
    · obtain rfl : k = l.length := by omega
      have hR := HR.out
      rw [List.take_length] at hR
      have hcv := conv_room (P := Try.prog) 24 9 5 (hexL l) hR Try.underlying24 Try.underlying5 Try.underlying9 (l.length * 2) (by rw [hexL_len]; omega)
      clear hR hdg
      go_wp2
      go_ret
      exact ⟨rfl, HB.out⟩

end Go.Proofs.Ytffpmdgchpcaaaa
