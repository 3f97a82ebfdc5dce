/- What is padded. -/
import Derived.Test.YtffpmdgchpcaaaaSd
namespace Go.Proofs.Ytffpmdgchpcaaaa
open Go.RowKit
attribute [local go_sem] bs_size bs_append

def noughts (n : Nat) : Nat := (119 - n % 64) % 64
/-- what stands behind n bytes -/
def pad (n : Nat) : List UInt8 := 128 :: (List.replicate (noughts n) 0 ++ bytes [BitVec.ofNat 32 (8 * n / 4294967296), BitVec.ofNat 32 (8 * n)])
theorem pad_len (n : Nat) : (pad n).length = 9 + noughts n := by
  simp only [pad, List.length_cons, List.length_append, List.length_replicate, bytes_len, List.length_nil]; omega
theorem rep_any (c : Nat) (w : World) (hc : c ≤ 64) :
    Calls Try.prog 59 #[.string ⟨#[0]⟩, .int .i64 c] w fun e w' => e = .returned (.string (bs (List.replicate c 0))) ∧ Below w.heap.size w w' := by
  refine (Try.strings_Repeat ⟨#[0]⟩ c w (by omega) (by show 1 * c ≤ _; omega)).mono fun e w' ⟨he, hb⟩ => ⟨?_, hb⟩
  rw [he]
  have : ∀ k, Lib.repeatL [0] k = List.replicate k (0:UInt8) := by
    intro k
    induction k with
    | zero => rfl
    | succ k ih => simp_all [Lib.repeatL, List.replicate_succ]
  rw [show (⟨#[0]⟩ : ByteArray).data.toList = [0] from rfl, this]
  rfl

set_option maxHeartbeats 1000000 in
theorem padding_any (n : Nat) (w : World) (hn : n ≤ 1152921504606846976) :
    Calls Try.prog 43 #[.int .i64 n] w fun e w' => e = .returned (.string (bs (pad n))) ∧ Below w.heap.size w w' := by
  obtain ⟨A, hA⟩ : ∃ A : Int, A = n := ⟨_, rfl⟩
  obtain ⟨m, hm⟩ : ∃ m : Nat, m = n % 64 := ⟨_, rfl⟩
  obtain ⟨q, hq⟩ : ∃ q : Nat, q = noughts n := ⟨_, rfl⟩
  obtain ⟨H, hH⟩ : ∃ H : Wd, H = BitVec.ofNat 32 (8 * n / 4294967296) := ⟨_, rfl⟩
  obtain ⟨L, hL⟩ : ∃ L : Wd, L = BitVec.ofNat 32 (8 * n) := ⟨_, rfl⟩
  rw [← hA]
  have r1 : A.tmod 64 = (m : Int) := by rw [hA]; rw [Int.tmod_eq_emod_of_nonneg (by omega)]; omega
  have r2 : (119 - (m : Int)).tmod 64 = (q : Int) := by
    rw [Int.tmod_eq_emod_of_nonneg (by omega)]; unfold noughts at hq; omega
  have e1 : A * 8 / 4294967296 = wi H := by rw [hH, hA]; unfold wi; rw [BitVec.toNat_ofNat]; omega
  have e2 : A * 8 % 4294967296 = wi L := by rw [hL, hA]; unfold wi; rw [BitVec.toNat_ofNat]; omega
  have hq1 : q < 64 := by unfold noughts at hq; omega
  have hA1 : 0 ≤ A := by omega
  have hA2 : A ≤ 1152921504606846976 := by omega
  have hm1 : m < 64 := by omega
  have hp : pad n = 128 :: (List.replicate q 0 ++ bytes [H, L]) := by rw [hq, hH, hL]; rfl
  have HP := Lib.hid hp
  clear hA hn hm hq hH hL hp
  go_enter Try.func43, Try.ntmps43
  go_wp2_with fail
  refine (rep_any q w (by omega)).mono ?_
  rintro e w1 ⟨rfl, b1⟩
  have B1 := Lib.hid b1
  clear b1
  go_wp2_with fail
  refine (bytesOf_any [H, L] w1.heap.size 41 _ (At.new _ _ _) (by simp)).mono ?_
  rintro e w2 ⟨rfl, b2⟩
  have B2 := Lib.hid b2
  clear b2
  have hl : (bytes [H, L]).length = 8 := by rw [bytes_len]; rfl
  go_wp2
  go_ret
  refine ⟨?_, ?_⟩
  · have e : ((⟨#[128]⟩ : ByteArray) ++ bs (List.replicate q 0)) ++ bs (bytes [H, L]) = bs (pad n) := by
      rw [HP.out, show (⟨#[128]⟩ : ByteArray) = bs [128] from rfl, bs_append, bs_append]; rfl
    rw [← e]; rfl
  · exact (B1.out.alloc B1.out.size _).trans (B2.out.mono (by have := B1.out.size; rw [World.size_alloc]; omega))
end Go.Proofs.Ytffpmdgchpcaaaa
