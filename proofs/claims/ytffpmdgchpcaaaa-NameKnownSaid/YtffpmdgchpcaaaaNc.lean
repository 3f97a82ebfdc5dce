/- The walks of what tells whether a text is a name. -/
import Derived.Test.YtffpmdgchpcaaaaNb
import Derived.Lib.ConvBytes
import Derived.ChangeOld
import Derived.Test.YtffpmdgchpcaaaaSb
namespace Go.Proofs.Ytffpmdgchpcaaaa
open Go.RowKit

/-- these bytes stand in block B, from its start on -/
def Bytes (w : World) (B : Nat) (l : List UInt8) : Prop := ∀ j c, l[j]? = some c → w.cell? ⟨B, j, none⟩ = some (bv c)
theorem Bytes.below {w w' : World} {S B : Nat} {l : List UInt8} (h : Bytes w B l) (hb : Below S w w') (hS : B < S) : Bytes w' B l := fun j c hc => by
  rw [hb.cell (p := ⟨B, j, none⟩) hS]; exact h j c hc
theorem Bytes.drewN {w : World} {B : Nat} {l : List UInt8} (h : Bytes w B l) (n : Nat) : Bytes (w.drewN n) B l := h
/-- a text's bytes in a row of their own -/
theorem conv_to {P : Program} (w : World) (src dst e : TypeId) (l : List UInt8) (hs : P.underlying src = some .string) (hd : P.underlying dst = some (.slice e)) (he : P.underlying e = some (.int .u8)) :
    ∃ cap w1, (convert src dst (.string (bs l))).run P w = .ok (.slice (some ⟨w.heap.size, 0, none⟩) l.length cap) w1 ∧ Below w.heap.size w w1 ∧ Bytes w1 w.heap.size l ∧ w1.heap.size = w.heap.size + 1 := by
  refine ⟨grownCap w (bs l).size 0 e, Lib.bytesWorld w e (bs l), ?_, ?_, ?_, Lib.bytesWorld_size w e (bs l)⟩
  · rw [← bs_size]; exact Lib.run_convert_string_bytes w src dst e (bs l) hs hd he
  · exact ⟨rfl, rfl, rfl, by rw [Lib.bytesWorld_size]; omega, fun k hk => Lib.bytesWorld_at_old w e (bs l) k hk⟩
  · intro j c hc
    have hj : j < (bs l).size := by
      rw [bs_size]; exact (List.getElem?_eq_some_iff.1 hc).1
    rw [Lib.bytesWorld_cell w e (bs l) j hj, data_bs, List.getD_eq_getElem?_getD, hc]
    rfl

theorem all_take_succ (p : UInt8 → Bool) (l : List UInt8) (k : Nat) (c : UInt8) (hc : l[k]? = some c) : (l.take (k + 1)).all p = ((l.take k).all p && p c) := by
  obtain ⟨hk, rfl⟩ := List.getElem?_eq_some_iff.1 hc
  rw [List.take_succ_eq_append_getElem hk, List.all_append]
  simp
theorem all_false (p : UInt8 → Bool) (l : List UInt8) (k : Nat) (c : UInt8) (hc : l[k]? = some c) (h : p c = false) : l.all p = false := by
  rw [List.all_eq_false]
  exact ⟨c, List.mem_of_getElem? hc, by rw [h]; decide⟩

set_option maxHeartbeats 1000000 in
theorem allAre_any (p : UInt8 → Bool) (l : List UInt8) (K n : Nat) (w : World) (hl : l.length ≤ 140737488351232)
    (h1 : ∀ (c : UInt8) (w' : World), Below w.heap.size w w' → Calls Try.prog 55 #[.int .u8 (c.toNat : Int), .slice (some ⟨K, 0, none⟩) n n] w' fun e w'' => e = .returned (.bool (p c)) ∧ w'' = w') :
    Calls Try.prog 38 #[.string (bs l), .slice (some ⟨K, 0, none⟩) n n] w fun e w' => e = .returned (.bool (l.all p)) ∧ Below w.heap.size w w' := by
  obtain ⟨cap, w1, hrun, hb, hB, hz⟩ := conv_to (P := Try.prog) w 9 24 5 l Try.underlying9 Try.underlying24 Try.underlying5
  have H1 := Lib.hid h1
  have HB := Lib.hid hb
  have HC := Lib.hid hB
  clear h1 hb hB hz
  generalize w.heap.size = S at *
  go_enter Try.func38, Try.ntmps38
  go_wp2
  clear hrun
  go_loop [10] (fun i => ∃ k : Nat, k ≤ l.length ∧ i = .int .i64 k ∧ (l.take k).all p = true) (fun i => l.length - (intOf i).toNat)
  case atStart => exact ⟨0, by omega, rfl, rfl⟩
  case round =>
    obtain ⟨k, hk, rfl, hp⟩ := hrel
    have HP := Lib.hid hp
    clear hp
    by_cases hlt : k < l.length
    · obtain ⟨c, hc⟩ : ∃ c, l[k]? = some c := ⟨_, List.getElem?_eq_getElem hlt⟩
      have hs := all_take_succ p l k c hc
      have hf := all_false p l k c hc
      have hcell := HC.out k c hc
      have hone := H1.out c _ HB.out
      rw [HP.out, Bool.true_and] at hs
      have HS := Lib.hid hs
      have HF := Lib.hid hf
      clear hs hf hc
      unfold bv at hcell
      cases hpc : p c
      · have HF := Lib.hid (HF.out hpc)
        rw [hpc] at hone
        clear hpc HS
        go_wp2_with (go_at_call 55; refine (hone).mono ?_; rintro e w' ⟨rfl, rfl⟩)
        go_ret
        exact ⟨by rw [HF.out]; rfl, HB.out⟩
      · rw [hpc] at HS hone
        clear hpc HF
        go_wp2_with (go_at_call 55; refine (hone).mono ?_; rintro e w' ⟨rfl, rfl⟩)
        go_round
        case rel => exact ⟨k + 1, by omega, by go_num, HS.out⟩
        case measure => simp [intOf]; omega
    · obtain rfl : k = l.length := by omega
      go_wp2
      go_ret
      exact ⟨by rw [List.take_length] at HP; rw [HP.out]; rfl, HB.out⟩
end Go.Proofs.Ytffpmdgchpcaaaa
