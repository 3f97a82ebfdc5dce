/- The sum of a million a's. -/
import Derived.Test.YtkonpljefmkhbaaKb
namespace Go.Proofs.Ytkonpljefmkhbaa

theorem many_fold (q : Nat) (st : List Wd) : (List.replicate q AA).foldl (fun st b => comp K0 (sched b) st) st = many KWw q st := by
  induction q generalizing st with
  | zero => rfl
  | succ q ih =>
    rw [List.replicate_succ, List.foldl_cons, ih]
    rw [comp_many (sched AA) st (sched_len _)]
    rfl
theorem noughts_64 (q : Nat) : noughts (64 * q) = 55 := by unfold noughts; omega
theorem blks_rep (q : Nat) : blks (List.replicate (64 * q) 97) = List.replicate q AA ++ [pad (64 * q)] := by
  have hlen : (List.replicate (64 * q) (97 : UInt8)).length = 64 * q := List.length_replicate
  have hpl : (pad (64 * q)).length = 64 := by rw [pad_len, noughts_64]
  have hf : full (List.replicate (64 * q) 97) = List.replicate (64 * q) 97 ++ pad (64 * q) := by unfold full; rw [hlen]
  have hn : nblk (List.replicate (64 * q) 97) = q + 1 := by
    unfold nblk
    rw [hf, List.length_append, hlen, hpl]; omega
  unfold blks
  rw [hn, List.range_succ, List.map_append]
  congr 1
  · apply List.ext_getElem?
    intro i
    rw [List.getElem?_map, List.getElem?_replicate]
    by_cases h : i < q
    · rw [List.getElem?_range h, if_pos h]
      show some (blk _ i) = _
      unfold blk
      rw [hf, List.drop_append_of_le_length (by rw [hlen]; omega), List.drop_replicate, List.take_append_of_le_length (by rw [List.length_replicate]; omega), List.take_replicate]
      rw [show min 64 (64 * q - 64 * i) = 64 by omega]; rfl
    · rw [if_neg h, List.getElem?_eq_none (by simp; omega)]; rfl
  · show [blk _ q] = _
    unfold blk
    rw [hf, List.drop_append_of_le_length (by rw [hlen]; omega), List.drop_replicate, Nat.sub_self, List.take_of_length_le (by simp [hpl])]
    rfl
theorem after_rep (q : Nat) : after (blks (List.replicate (64 * q) 97)) = comp K0 (sched (pad (64 * q))) (many KWw q H0) := by
  rw [blks_rep, after_snoc, after, many_fold]
def R3 : List UInt8 := [99, 100, 99, 55, 54, 101, 53, 99, 57, 57, 49, 52, 102, 98, 57, 50, 56, 49, 97, 49, 99, 55, 101, 50, 56, 52, 100, 55, 51, 101, 54, 55, 102, 49, 56, 48, 57, 97, 52, 56, 97, 52, 57, 55, 50, 48, 48, 101, 48, 52, 54, 100, 51, 57, 99, 99, 99, 55, 49, 49, 50, 99, 100, 48]
set_option maxRecDepth 100000 in
theorem last_block : hexL (bytes (comp K0 (sched (pad 1000000)) [2061136107#32, 1745259042#32, 791610055#32, 2140370626#32, 1884297759#32, 3529239238#32, 671294972#32, 693152569#32])) = R3 := by decide +kernel
theorem sum_million : hexL (sha (List.replicate 1000000 97)) = R3 := by
  have h := after_rep 15625
  rw [c125] at h
  unfold sha
  rw [show (1000000 : Nat) = 64 * 15625 from rfl, h]
  exact last_block
end Go.Proofs.Ytkonpljefmkhbaa
