/- A reader: what it has; its num and text. -/
import Derived.Test.YtdpeblchndfdaaaMh
import Derived.Test.YtdpeblchndfdaaaW4
namespace Go.Proofs.Ytdpeblchndfdaaa
open Go.RowKit Go.Maps Go.ChangeMaps Go.MapKept
set_option maxRecDepth 100000
/-- what is panicked with -/
def amiss : List PanicEntry := [{ v := .iface 86 (.agg #[]), recovered := false }]
theorem must_ok (w : World) : Calls Try.prog 29 #[.bool true] w fun e w' => e = .returned (.tuple #[]) ∧ w' = w := by
  go_enter Try.func29, Try.ntmps29
  go_wp2
  go_end0
  exact ⟨rfl, rfl⟩
theorem must_no (w : World) : Calls Try.prog 29 #[.bool false] w fun e w' => e = .panicked amiss ∧ w' = w := by
  have hb : (Instr.build 86 #[]).run Try.prog w = .ok (.agg #[]) w := by kernel_rfl
  go_enter Try.func29, Try.ntmps29
  go_wp2
  exact ⟨rfl, rfl, rfl⟩
/-- a reader in block b, whose bytes left lie in block rb; so many nodes deep -/
def RAt (w : World) (b rb mb : Nat) (l : List UInt8) (lvl : Nat) : Prop := b ≠ rb ∧ ∃ n, At w b 63 [.pointer (some ⟨rb, 0, none⟩), .int .i64 (lvl : Int), .map (some mb)] ∧ Rd w rb l false ∧ FMap 82 .u64 w mb b n rtab
theorem FMap.ne {K : TypeId} {q : IntKind} {w : World} {m b n : Nat} {f : Int → Option Nat} (h : FMap K q w m b n f) {B : Nat} {t : TypeId} {l : List Value} (hB : At w B t l) : m ≠ B := by
  obtain ⟨es, clock, hb⟩ := h.isMap
  rintro rfl
  unfold At at hB
  rw [hB] at hb
  cases hb
theorem RAt.below {w w' : World} {b rb mb : Nat} {l : List UInt8} {lvl : Nat} (h : RAt w b rb mb l lvl) (hb : Below w.heap.size w w') : RAt w' b rb mb l lvl := by
  obtain ⟨hne, n, hA, hR, hM⟩ := h
  exact ⟨hne, n, hA.below hb hA.lt, At.below hR hb (At.lt hR), hM.keep (hb.block mb hM.lt)⟩
theorem touch_only {b rb : Nat} {w w' : World} (h : Only rb w w') : Touch [b, rb] w w' := ⟨h.os, h.tape, h.output, h.size, fun i hi hn => h.block i hi (fun e => hn (by simp [e]))⟩
/-- its bytes left are others -/
theorem RAt.left {w w' : World} {b rb mb : Nat} {l r : List UInt8} {lvl : Nat} (h : RAt w b rb mb l lvl) (ho : Only rb w w') (hr : Rd w' rb r false) : RAt w' b rb mb r lvl := by
  obtain ⟨hne, n, hA, hR, hM⟩ := h
  exact ⟨hne, n, hA.only ho hne, hr, hM.keep (ho.block mb hM.lt (hM.ne hR))⟩
theorem RAt.rd {w : World} {b rb mb : Nat} {l : List UInt8} {lvl : Nat} (h : RAt w b rb mb l lvl) : w.cell? ⟨b, 0, none⟩ = some (.pointer (some ⟨rb, 0, none⟩)) ∧ Rd w rb l false := by
  obtain ⟨hne, n, hA, hR, hM⟩ := h
  exact ⟨hA.cell 0 _ rfl, hR⟩
set_option maxHeartbeats 1000000 in
theorem rnum_some (b rb mb lvl n : Nat) (l r : List UInt8) (w : World) (h : RAt w b rb mb l lvl) (hl : l.length ≤ 1000000) (hc : Plain.cut l = some (n, r)) :
    Calls Try.prog 58 #[.pointer (some ⟨b, 0, none⟩)] w fun e w' => e = .returned (.int .u64 n) ∧ RAt w' b rb mb r lvl ∧ Touch [b, rb] w w' := by
  have H := Lib.hid h
  obtain ⟨c0, hR⟩ := h.rd
  have hrn : rnum l false = (n, r, false) := by unfold rnum; simp [hc]
  clear h
  go_enter Try.func58, Try.ntmps58
  go_wp2_with fail
  refine (num_any rb l false w hR (by unfold maxLen; omega)).mono ?_
  rintro e w1 ⟨rfl, h1, ho⟩
  rw [hrn] at h1 ⊢
  have h2 := H.out.left ho h1
  have H2 := Lib.hid h2
  have HT := Lib.hid (touch_only (b := b) ho)
  obtain ⟨c1, hR1⟩ := h2.rd
  clear h1 h2 ho hrn c0 hR
  go_wp2_with fail
  refine (ok_any rb (bs r) false w1 hR1).mono ?_
  rintro e w2 ⟨rfl, rfl⟩
  go_wp2_with fail
  refine (must_ok w2).mono ?_
  rintro e w3 ⟨rfl, rfl⟩
  go_wp2_with fail
  go_ret
  exact ⟨rfl, H2.out, HT.out⟩
set_option maxHeartbeats 1000000 in
theorem rnum_none (b rb mb lvl : Nat) (l : List UInt8) (w : World) (h : RAt w b rb mb l lvl) (hl : l.length ≤ 1000000) (hc : Plain.cut l = none) :
    Calls Try.prog 58 #[.pointer (some ⟨b, 0, none⟩)] w fun e w' => e = .panicked amiss ∧ Touch [b, rb] w w' := by
  have H := Lib.hid h
  obtain ⟨c0, hR⟩ := h.rd
  have hrn : rnum l false = (0, [], true) := by unfold rnum; simp [hc]
  clear h
  go_enter Try.func58, Try.ntmps58
  go_wp2_with fail
  refine (num_any rb l false w hR (by unfold maxLen; omega)).mono ?_
  rintro e w1 ⟨rfl, h1, ho⟩
  rw [hrn] at h1 ⊢
  have HT := Lib.hid (touch_only (b := b) ho)
  have c1 : w1.cell? ⟨b, 0, none⟩ = some (.pointer (some ⟨rb, 0, none⟩)) := by
    obtain ⟨hne, n, hA, _⟩ := H.out
    exact (hA.only ho hne).cell 0 _ rfl
  clear ho hrn c0 hR
  go_wp2_with fail
  refine (ok_any rb (bs []) true w1 h1).mono ?_
  rintro e w2 ⟨rfl, rfl⟩
  go_wp2_with fail
  refine (must_no w2).mono ?_
  rintro e w3 ⟨rfl, rfl⟩
  go_wp2_with fail
  exact ⟨rfl, rfl, HT.out⟩
end Go.Proofs.Ytdpeblchndfdaaa
