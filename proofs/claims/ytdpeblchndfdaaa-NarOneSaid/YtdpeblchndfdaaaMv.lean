/- NarOne. -/
import Derived.Test.YtdpeblchndfdaaaMu
import Derived.Test.YtdpeblchndfdaaaW5
import Derived.Lib.ConvBytes
import Derived.Laws.IdiomStrings
namespace Go.Proofs.Ytdpeblchndfdaaa
open Go.RowKit
set_option maxRecDepth 100000
section
variable {o : Oper} {a : Act} {w : World}
theorem rem3_op (x y : Operand) (ho : o.op = .binOp .rem 3 x y 3) (m n : Nat) (hm : m < 65536) (hn : 0 < n) (hn2 : n ≤ 100000) (hx : a.eval x = .int .i64 (m : Int)) (hy : a.eval y = .int .i64 (n : Int)) :
    (execOp a.eval o).run Try.prog w = .ok (.value (.int .i64 ((m % n : Nat) : Int))) w := by
  have e : (m : Int).tmod (n : Int) = ((m % n : Nat) : Int) := by rw [Int.tmod_eq_emod_of_nonneg (by omega)]; exact (Int.natCast_emod m n).symm
  have hl : m % n ≤ m := Nat.mod_le _ _
  have e2 : IntKind.i64.wrap ((m % n : Nat) : Int) = ((m % n : Nat) : Int) := by rw [IntKind.wrap_i64]; omega
  have h0 : ¬ (n : Int) = 0 := by omega
  have h1 : ¬ n = 0 := by omega
  generalize ((m % n : Nat) : Int) = r at *
  unfold execOp
  simp only [ho, hx, hy]
  simp [go_sem, e, e2, h0, h1]
end
/-- a byte that is turned is another one -/
theorem turn_ne : ∀ c b : Fin 256, (0 ≤ bits .xor .u8 (c.val : Int) (bits .or .u8 (b.val : Int) 1)) ∧ bits .xor .u8 (c.val : Int) (bits .or .u8 (b.val : Int) 1) < 256 ∧ bits .xor .u8 (c.val : Int) (bits .or .u8 (b.val : Int) 1) ≠ (c.val : Int) := by decide +kernel
/-- these bytes stand in block B, from its start on -/
def BytesAt (w : World) (B : Nat) (l : List UInt8) : Prop := ∀ j c, l[j]? = some c → w.cell? ⟨B, j, none⟩ = some (bv c) ∧ w.frozen? ⟨B, j, none⟩ = false
theorem conv_row (w : World) (l : List UInt8) :
    ∃ cap w1, (convert 9 37 (.string (bs l))).run Try.prog w = .ok (.slice (some ⟨w.heap.size, 0, none⟩) l.length cap) w1 ∧ Below w.heap.size w w1 ∧ BytesAt w1 w.heap.size l ∧ w1.heap.size = w.heap.size + 1 := by
  refine ⟨grownCap w (bs l).size 0 5, Lib.bytesWorld w 5 (bs l), ?_, ?_, ?_, Lib.bytesWorld_size w 5 (bs l)⟩
  · rw [← bs_size]; exact Lib.run_convert_string_bytes w 9 37 5 (bs l) Try.underlying9 Try.underlying37 Try.underlying5
  · exact ⟨rfl, rfl, rfl, by rw [Lib.bytesWorld_size]; omega, fun k hk => Lib.bytesWorld_at_old w 5 (bs l) k hk⟩
  · intro j c hc
    have hj : j < (bs l).size := by
      rw [bs_size]; exact (List.getElem?_eq_some_iff.1 hc).1
    refine ⟨?_, ?_⟩
    · rw [Lib.bytesWorld_cell w 5 (bs l) j hj, data_bs, List.getD_eq_getElem?_getD, hc]
      rfl
    · have hsz : j < (Lib.bytesCells w 5 (bs l)).size := by
        unfold Lib.bytesCells
        rw [Array.size_append, Array.size_map]
        have : (bs l).data.size = (bs l).size := rfl
        omega
      simp only [World.frozen?, Lib.bytesWorld_at_new]
      simp
      omega
/-- what is asked of decoded trees -/
theorem dec_few {l : List UInt8} {n : Nd} (h : decL l = some n) : (∀ p ∈ nodesL 15 1 n, GoodD 60000 p) ∧ (nodesL 15 1 n).length ≤ 60000 := by
  unfold decL at h
  split at h
  · cases h
  · rename_i hl
    cases ht : Plain.cutT l with
    | none => simp [ht] at h
    | some x =>
      obtain ⟨t, r⟩ := x
      have h1 := cutT_lt ht
      simp only [ht] at h
      split at h
      · cases h
      · cases hn : readN 12 r with
        | none => simp [hn] at h
        | some y =>
          obtain ⟨m, r2⟩ := y
          simp only [hn] at h
          split at h
          · cases h
          · split at h
            · cases h
            · simp only [Option.some.injEq] at h
              subst h
              have hf := (readN_few 12 r m r2 hn).2 15 1
              exact ⟨fun p hp => ⟨by have := (hf.2 p hp).1; omega, by have := (hf.2 p hp).2; omega⟩, by have := hf.1; omega⟩
theorem dec_prefix {p x : List UInt8} {n : Nd} (h : decL (p ++ x) = some n) (hx : x ≠ []) : decL p = none := by
  cases hm : decL p with
  | none => rfl
  | some m =>
    exfalso
    obtain ⟨hc, hp, hl⟩ := dec_back hm
    obtain ⟨h1, h2, h3, _⟩ := check_may hc
    have hl2 : (encL 15 m).length ≤ 60000 := by rw [hp, List.length_append] at hl; omega
    have hr := read_enc 12 15 m x h3 (depth_nests 12 14 m (by decide) h1) (by omega)
    unfold decL at h
    split at h
    · cases h
    · rw [hp] at h
      unfold headB at h
      rw [List.append_assoc, cutT_txt _ _ (by decide)] at h
      simp only [] at h
      rw [if_neg (by simp [magicL]), hr] at h
      simp only [] at h
      rw [if_pos hx] at h
      cases h
/-- a tree that was read, encoded, checked -/
theorem enc_dec_any {l : List UInt8} {n : Nd} (h : decL l = some n) (ao : Option Addr) (cap : Nat) (w : World) (hH : Has any_ w 15 n ao) :
    Calls Try.prog 10 #[n.v ao cap] w fun e w' => e = .returned (.tuple #[.string (bs l), .int .i64 0]) ∧ Below w.heap.size w w' := by
  obtain ⟨hc, hl, h6⟩ := dec_back h
  have he := enc_good hc (by rw [← hl]; omega)
  have hk := encode_any 60000 60000 (by decide) (by decide) (by decide) 15 n ao cap w (by decide) hH (fun _ _ => dec_few h) enc_short
  rw [he.1, he.2, ← hl] at hk
  exact hk
theorem chk_dec_any {l : List UInt8} {n : Nd} (h : decL l = some n) (ao : Option Addr) (cap : Nat) (w : World) (hH : Has any_ w 15 n ao) :
    Calls Try.prog 16 #[n.v ao cap] w fun e w' => e = .returned (.int .i64 0) ∧ Below w.heap.size w w' := by
  have hk := checkD_any 60000 60000 (by decide) (by decide) (by decide) 15 n ao cap w (by decide) hH (fun _ _ => dec_few h)
  rw [(dec_back h).1] at hk
  exact hk
end Go.Proofs.Ytdpeblchndfdaaa
