/- Words of 32 bits as values, and the walks of what turns them. -/
import Derived.Test.YtffpmdgchpcaaaaRows
import Derived.Test.YtffpmdgchpcaaaaWd
import Derived.WalkKit
import Derived.WalkSpells
import Derived.WalkLawsBesides
import Derived.BigQuiet
import Derived.Deep.QuietTactic
import Derived.Lib.Hide
namespace Go.Proofs.Ytffpmdgchpcaaaa
open Go.RowKit

abbrev Wd := BitVec 32
/-- a word, as the number that a value holds -/
def wi (x : Wd) : Int := (x.toNat : Int)
/-- a word as a value -/
def wv (x : Wd) : Value := .int .u32 (wi x)
/-- a byte as a word -/
def up (c : UInt8) : Wd := BitVec.ofNat 32 c.toNat
/-- a word's lowest byte -/
def lo (x : Wd) : UInt8 := UInt8.ofNat x.toNat

theorem wi_nonneg (x : Wd) : 0 ≤ wi x := by unfold wi; omega
theorem wi_lt (x : Wd) : wi x < 4294967296 := by have := x.isLt; unfold wi; omega
theorem wv_one (l : List Wd) : ∀ v ∈ l.map wv, v.oneCell' = true := by
  intro v hv
  obtain ⟨c, _, rfl⟩ := List.mem_map.1 hv
  rfl

@[go_sem] theorem wi_add (x y : Wd) : (wi x + wi y) % 4294967296 = wi (x + y) := by
  simp only [wi, BitVec.toNat_add]; omega
@[go_sem] theorem wi_and (x y : Wd) : bits .and .u32 (wi x) (wi y) = wi (x &&& y) := by
  have := x.isLt; have := y.isLt
  simp only [wi]; rw [u32_and_nat _ _ (by omega) (by omega), BitVec.toNat_and]
@[go_sem] theorem wi_or (x y : Wd) : bits .or .u32 (wi x) (wi y) = wi (x ||| y) := by
  have := x.isLt; have := y.isLt
  simp only [wi]; rw [u32_or_nat _ _ (by omega) (by omega), BitVec.toNat_or]
@[go_sem] theorem wi_xor (x y : Wd) : bits .xor .u32 (wi x) (wi y) = wi (x ^^^ y) := by
  have := x.isLt; have := y.isLt
  simp only [wi]; rw [u32_xor_nat _ _ (by omega) (by omega), BitVec.toNat_xor]
@[go_sem] theorem wi_not (x : Wd) : bits .xor .u32 4294967295 (wi x) = wi (~~~x) := by
  have h : wi (BitVec.allOnes 32) = 4294967295 := by decide
  rw [← h, wi_xor, BitVec.allOnes_xor]
@[go_sem] theorem wi_not' (x : Wd) : bits .xor .u32 (if IntKind.u32.signed = true then -1 else IntKind.u32.max) (wi x) = wi (~~~x) := wi_not x
theorem wi_shl (x : Wd) (k : Nat) : wi x * 2 ^ k % 4294967296 = wi (x <<< k) := by
  have h : (x <<< k).toNat = x.toNat * 2 ^ k % 4294967296 := by rw [BitVec.toNat_shiftLeft, Nat.shiftLeft_eq]
  unfold wi
  rw [h, Int.natCast_emod, Int.natCast_mul, Int.natCast_pow]
  rfl
theorem wi_shr (x : Wd) (k : Nat) : wi x / 2 ^ k = wi (x >>> k) := by
  have h : (x >>> k).toNat = x.toNat / 2 ^ k := by rw [BitVec.toNat_ushiftRight, Nat.shiftRight_eq_div_pow]
  unfold wi
  rw [h, Int.natCast_ediv, Int.natCast_pow]
  rfl
@[go_sem] theorem wi_shl24 (x : Wd) : wi x * (16777216 : Int) % (4294967296 : Int) = wi (x <<< 24) := wi_shl x 24
@[go_sem] theorem wi_shl16 (x : Wd) : wi x * (65536 : Int) % (4294967296 : Int) = wi (x <<< 16) := wi_shl x 16
@[go_sem] theorem wi_shl8 (x : Wd) : wi x * (256 : Int) % (4294967296 : Int) = wi (x <<< 8) := wi_shl x 8
@[go_sem] theorem wi_shr24 (x : Wd) : wi x / (16777216 : Int) = wi (x >>> 24) := wi_shr x 24
@[go_sem] theorem wi_shr16 (x : Wd) : wi x / (65536 : Int) = wi (x >>> 16) := wi_shr x 16
@[go_sem] theorem wi_shr8 (x : Wd) : wi x / (256 : Int) = wi (x >>> 8) := wi_shr x 8
@[go_sem] theorem wi_shr3 (x : Wd) : wi x / (8 : Int) = wi (x >>> 3) := wi_shr x 3
@[go_sem] theorem wi_shr10 (x : Wd) : wi x / (1024 : Int) = wi (x >>> 10) := wi_shr x 10

theorem ww (x : Int) : IntKind.u32.wrap x = x % 4294967296 := by simp only [IntKind.wrap, IntKind.bits, IntKind.signed]; simp
theorem up_nat (c : UInt8) : (up c).toNat = c.toNat := by
  have := c.toNat_lt
  unfold up
  rw [BitVec.toNat_ofNat]
  omega
@[go_sem] theorem ww_up (c : UInt8) : IntKind.u32.wrap (c.toNat : Int) = wi (up c) := by
  have := c.toNat_lt
  unfold wi
  rw [up_nat, ww]
  omega
@[go_sem] theorem ww_add (x y : Wd) : IntKind.u32.wrap (wi x + wi y) = wi (x + y) := by rw [ww, wi_add]
@[go_sem] theorem ww_shl24 (x : Wd) : IntKind.u32.wrap (wi x * (16777216 : Int)) = wi (x <<< 24) := by rw [ww, wi_shl24]
@[go_sem] theorem ww_shl16 (x : Wd) : IntKind.u32.wrap (wi x * (65536 : Int)) = wi (x <<< 16) := by rw [ww, wi_shl16]
@[go_sem] theorem ww_shl8 (x : Wd) : IntKind.u32.wrap (wi x * (256 : Int)) = wi (x <<< 8) := by rw [ww, wi_shl8]
@[go_sem] theorem bs4_0 (a b c d : UInt8) (h) : (bs [a, b, c, d])[0]'h = a := rfl
@[go_sem] theorem bs4_1 (a b c d : UInt8) (h) : (bs [a, b, c, d])[1]'h = b := rfl
@[go_sem] theorem bs4_2 (a b c d : UInt8) (h) : (bs [a, b, c, d])[2]'h = c := rfl
@[go_sem] theorem bs4_3 (a b c d : UInt8) (h) : (bs [a, b, c, d])[3]'h = d := rfl

/-- a word, turned right by n -/
def rot (n : Nat) (x : Wd) : Wd := x >>> n ||| x <<< (32 - n)

set_option maxHeartbeats 400000 in
theorem rotl_any (x : Wd) (n : Nat) (w : World) (h1 : 0 < n) (h2 : n < 32) :
    Calls Try.prog 61 #[.int .u32 (wi x), .int .i64 (-(n:Int))] w fun e w' => e = .returned (.int .u32 (wi (rot n x))) ∧ w' = w := by
  obtain ⟨m, hm⟩ : ∃ m : Nat, m = 32 - n := ⟨_, rfl⟩
  have hb : bits .and .u64 (IntKind.u64.wrap (-(n:Int))) 31 = (m : Int) := by
    have e : IntKind.u64.wrap (-(n:Int)) = ((18446744073709551616 - n : Nat) : Int) := by
      simp only [IntKind.wrap, IntKind.bits, IntKind.signed]; simp; omega
    rw [e, show (31 : Int) = ((31 : Nat) : Int) from rfl, u64_and_nat _ _ (by omega) (by omega), Nat.and_two_pow_sub_one_eq_mod _ 5]
    omega
  have hm1 : 0 < m := by omega
  have hm2 : m < 32 := by omega
  have hs1 : ¬ ((m:Int) < 0) := by omega
  have hs2 : ¬ ((32 - (m:Int)) < 0) := by omega
  have hs3 : IntKind.u64.wrap (32 - (m:Int)) = ((32 - m : Nat) : Int) := by simp only [IntKind.wrap, IntKind.bits, IntKind.signed]; simp; omega
  have e : bits .or .u32 (wi x * 2 ^ m % 4294967296) (wi x / 2 ^ (32 - m)) = wi (rot n x) := by
    rw [wi_shl, wi_shr, wi_or, BitVec.or_comm, hm, show 32 - (32 - n) = n by omega]; rfl
  have H := Lib.hid hm
  have E := Lib.hid e
  clear hm e
  go_enter Try.func61, Try.ntmps61
  go_wp2
  go_ret
  exact ⟨by rw [← E.out]; rfl, rfl⟩

/-- what turning by each number comes to -/
def turn (ns : List Nat) (x : Wd) : Wd := ns.foldl (fun a n => a ^^^ rot n x) 0
theorem turn_take (ns : List Nat) (x : Wd) (k : Nat) (hk : k < ns.length) : turn (ns.take (k + 1)) x = turn (ns.take k) x ^^^ rot ns[k] x := by
  unfold turn
  rw [List.take_succ_eq_append_getElem hk, List.foldl_append]
  rfl
/-- a number as a value -/
def nv (n : Nat) : Value := .int .i64 (n : Int)

set_option maxHeartbeats 400000 in
theorem turned1_any (x : Wd) (ns : List Nat) (B S T1 T2 : Nat) (w : World) (h1 : ∀ n ∈ ns, 0 < n ∧ n < 32) (hl : ns.length < 1000)
    (hB : At w B T1 [.slice (some ⟨S, 0, none⟩) ns.length ns.length]) (hS : At w S T2 (ns.map nv)) :
    Calls Try.prog 60 #[.int .u32 (wi x), .pointer (some ⟨B, 0, none⟩)] w fun e w' => e = .returned (.int .u32 (wi (turn ns x))) ∧ w' = w := by
  have hb := hB.cell 0 _ rfl
  have HB := Lib.hid hB
  have HS := Lib.hid hS
  have H1 := Lib.hid h1
  clear hB hS h1
  go_enter Try.func60, Try.ntmps60
  go_wp2
  go_loopw [9, 4] (fun i a wr => ∃ k : Nat, k ≤ ns.length ∧ i = .int .i64 k ∧ a = .int .u32 (wi (turn (ns.take k) x)) ∧ wr = w) (fun i _ _ => ns.length - (intOf i).toNat)
  case atStart => exact ⟨0, by omega, rfl, rfl, rfl⟩
  case round =>
    obtain ⟨k, hk, rfl, rfl, rfl⟩ := hrel
    by_cases hlt : k < ns.length
    · have hc := HS.out.cell k _ (by rw [List.getElem?_map, List.getElem?_eq_getElem hlt]; rfl)
      have hn := H1.out _ (List.getElem_mem hlt)
      have e := turn_take ns x k hlt
      generalize ns[k] = n at hc hn e
      unfold nv at hc
      go_wp2_with fail
      refine (rotl_any x n _ hn.1 hn.2).mono ?_
      rintro e w1 ⟨rfl, rfl⟩
      go_wp2
      go_roundw
      case rel => exact ⟨k + 1, by omega, by go_num, by rw [e], trivial⟩
      case measure => simp [intOf]; omega
    · have e : ns.take k = ns := List.take_of_length_le (by omega)
      rw [e]
      go_wp2
      go_ret
      exact ⟨rfl, rfl⟩

set_option maxHeartbeats 400000 in
theorem turned_any (S n : Nat) (w : World) :
    Calls Try.prog 44 #[.slice (some ⟨S, 0, none⟩) n n] w fun e w' => e = .returned (.func (.func 60) #[] #[.pointer (some ⟨w.heap.size, 0, none⟩)]) ∧ w' = w.alloc (.cells #[.slice (some ⟨S, 0, none⟩) n n] 77) := by
  have hmf : ∀ (fn : Fn) (first cap : Array Value) (w : World), (Instr.makeFunc fn first cap).run Try.prog w = .ok (.func fn first cap) w := fun _ _ _ _ => rfl
  go_enter Try.func44, Try.ntmps44
  go_wp2
  go_ret
  exact ⟨rfl, rfl⟩
end Go.Proofs.Ytffpmdgchpcaaaa
