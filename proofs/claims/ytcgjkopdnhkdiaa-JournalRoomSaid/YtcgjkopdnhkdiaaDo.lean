/- A disk of the call's own: what its methods do to it, and leave alone. -/
import Derived.Test.YtcgjkopdnhkdiaaDm
namespace Go.Proofs.Ytcgjkopdnhkdiaa
open Go.RowKit
set_option maxRecDepth 100000

/-- a disk that was made since w0, in no block of those -/
def Priv (w0 w : World) (av : Nat → Prop) (n D : Nat) (s : Dk) : Prop :=
  (∀ i, av i → i < w.heap.size) ∧ ∃ F N ao cap, DiskAt w D F N ao cap n s ∧ Below w0.heap.size w0 w ∧ ∀ i, i ∈ foot D F N ao → w0.heap.size ≤ i ∧ ¬ av i
def Keeps (av : Nat → Prop) (w w' : World) : Prop := ∀ i, av i → w'.heap[i]? = w.heap[i]?
def none_ : Nat → Prop := fun _ => False
theorem Keeps.refl (av : Nat → Prop) (w : World) : Keeps av w w := fun _ _ => rfl
theorem Keeps.trans {av : Nat → Prop} {u v w : World} (h : Keeps av u v) (k : Keeps av v w) : Keeps av u w := fun i hi => (k i hi).trans (h i hi)
theorem Keeps.at {av : Nat → Prop} {w w' : World} (k : Keeps av w w') {B : Nat} {T : TypeId} {l : List Value} (h : At w B T l) (hB : av B) : At w' B T l := by
  unfold At at *
  rw [k B hB]; exact h
section
variable {w0 w : World} {av : Nat → Prop} {n D : Nat} {s : Dk}
/-- a disk of the call's own, behind a call -/
def PrivTo (w0 w : World) (av : Nat → Prop) (n D : Nat) (s' : Dk) (w' : World) : Prop := Priv w0 w' av n D s' ∧ Keeps av w w'
theorem Priv.size (h : Priv w0 w av n D s) : w0.heap.size ≤ w.heap.size := by obtain ⟨_, F, N, ao, cap, _, hB, _⟩ := h; exact hB.size
theorem Priv.lt (h : Priv w0 w av n D s) : D < w.heap.size := by obtain ⟨_, F, N, ao, cap, h, _⟩ := h; exact h.d.lt
theorem Priv.bel (h : Priv w0 w av n D s) : Below w0.heap.size w0 w := by obtain ⟨_, F, N, ao, cap, _, hB, _⟩ := h; exact hB
theorem Priv.to {w' : World} {F N : Nat} {ao ao' : Option Addr} {cap' : Nat} {s' : Dk} (hl : ∀ i, av i → i < w.heap.size) (hB : Below w0.heap.size w0 w) (hf : ∀ i, i ∈ foot D F N ao → w0.heap.size ≤ i ∧ ¬ av i)
    (h : DiskAt w' D F N ao' cap' n s') (t : Touch (foot D F N ao) w w') (hb : ∀ i, i ∈ blk ao' → i ∈ blk ao ∨ w.heap.size ≤ i) : PrivTo w0 w av n D s' w' := by
  refine ⟨⟨fun i hi => Nat.lt_of_lt_of_le (hl i hi) t.size, F, N, ao', cap', h, t.below hB (fun i hi => (hf i hi).1) (Nat.le_refl _), fun i hi => ?_⟩, fun i hi => t.block i (hl i hi) (fun e => (hf i e).2 hi)⟩
  unfold foot at hi
  simp only [List.mem_cons] at hi
  rcases hi with rfl | rfl | rfl | hi
  · exact hf _ (by simp [foot])
  · exact hf _ (by simp [foot])
  · exact hf _ (by simp [foot])
  · rcases hb i hi with h1 | h1
    · exact hf _ (by simp [foot, h1])
    · exact ⟨by have := hB.size; omega, fun e => by have := hl i e; omega⟩
/-- and a call that leaves it alone -/
theorem Priv.below {w' : World} (h : Priv w0 w av n D s) (b : Below w.heap.size w w') : PrivTo w0 w av n D s w' := by
  obtain ⟨hl, F, N, ao, cap, h, hB, hf⟩ := h
  exact Priv.to hl hB hf (h.below b) (Touch.of_below b) (fun i hi => .inl hi)
theorem Priv.drew (h : Priv w0 w av n D s) : Priv w0 w.drew av n D s := by
  obtain ⟨hl, F, N, ao, cap, h, hB, hf⟩ := h
  exact ⟨hl, F, N, ao, cap, h.drew, hB.drew, hf⟩
theorem Priv.ok (h : Priv w0 w av n D s) : s.Ok n := by obtain ⟨_, F, N, ao, cap, h, _⟩ := h; exact h.ok
/-- other blocks to be left alone -/
theorem Priv.more {av2 : Nat → Prop} (h : Priv w0 w av n D s) (h2 : ∀ i, av2 i → i < w0.heap.size ∨ av i) : Priv w0 w av2 n D s := by
  obtain ⟨hl, F, N, ao, cap, h, hB, hf⟩ := h
  have hs := hB.size
  refine ⟨fun i hi => ?_, F, N, ao, cap, h, hB, fun i hi => ⟨(hf i hi).1, fun e => ?_⟩⟩
  · rcases h2 i hi with h3 | h3
    · omega
    · exact hl i h3
  · rcases h2 i e with h3 | h3
    · have := (hf i hi).1; omega
    · exact (hf i hi).2 h3
theorem p_new (w0 w : World) (hB : Below w0.heap.size w0 w) (av : Nat → Prop) (hl : ∀ i, av i → i < w.heap.size) (n : Nat) (h1 : 1 ≤ n) (h2 : n ≤ 4096) :
    Calls Try.prog 8 #[.int .i64 (n : Int)] w fun e w' => ∃ D, e = .returned (.pointer (some ⟨D, 0, none⟩)) ∧ w.heap.size ≤ D ∧ PrivTo w0 w av n D (Dk.fresh n) w' := by
  refine (new_any n w h1 h2).mono ?_
  rintro e w' ⟨D, F, N, rfl, h, hb, d1, d2, d3⟩
  have hz := hB.size
  refine ⟨D, rfl, d1, ⟨fun i hi => Nat.lt_of_lt_of_le (hl i hi) hb.size, F, N, none, 0, h, hB.trans (hb.mono hz), fun i hi => ?_⟩, fun i hi => hb.block i (hl i hi)⟩
  simp only [foot, blk, List.mem_cons, List.not_mem_nil, or_false] at hi
  rcases hi with rfl | rfl | rfl <;> exact ⟨by omega, fun e => by have := hl _ e; omega⟩
theorem p_len (h : Priv w0 w av n D s) : Calls Try.prog 26 #[.pointer (some ⟨D, 0, none⟩)] w fun e w' => e = .returned (.int .i64 (n : Int)) ∧ w' = w := by
  obtain ⟨_, F, N, ao, cap, h, _⟩ := h; exact len_any h
theorem p_ops (h : Priv w0 w av n D s) : Calls Try.prog 25 #[.pointer (some ⟨D, 0, none⟩)] w fun e w' => e = .returned (.int .u64 (s.ops : Int)) ∧ w' = w := by
  obtain ⟨_, F, N, ao, cap, h, _⟩ := h; exact ops_any h
theorem p_on (h : Priv w0 w av n D s) : Calls Try.prog 24 #[.pointer (some ⟨D, 0, none⟩)] w fun e w' => e = .returned (.bool (!s.off)) ∧ w' = w := by
  obtain ⟨_, F, N, ao, cap, h, _⟩ := h; exact on_any h
theorem p_off (h : Priv w0 w av n D s) : Calls Try.prog 17 #[.pointer (some ⟨D, 0, none⟩)] w fun e w' => e = .returned (.tuple #[]) ∧ PrivTo w0 w av n D s.cut w' := by
  obtain ⟨hl, F, N, ao, cap, h, hB, hf⟩ := h
  refine (off_any h).mono ?_
  rintro e w' ⟨rfl, h2, t2⟩
  exact ⟨rfl, Priv.to hl hB hf h2 (t2.mono (by simp [foot])) (fun i hi => .inl hi)⟩
theorem p_arm (h : Priv w0 w av n D s) (k : Int) (h1 : -9223372036854775808 ≤ k) (h2 : k ≤ 9223372036854775807) : Calls Try.prog 15 #[.pointer (some ⟨D, 0, none⟩), .int .i64 k] w fun e w' => e = .returned (.tuple #[]) ∧ PrivTo w0 w av n D (s.arm k) w' := by
  obtain ⟨hl, F, N, ao, cap, h, hB, hf⟩ := h
  refine (arm_any h k h1 h2).mono ?_
  rintro e w' ⟨rfl, h2, t2⟩
  exact ⟨rfl, Priv.to hl hB hf h2 (t2.mono (by simp [foot])) (fun i hi => .inl hi)⟩
/-- what a Read answers, and leaves -/
def Dk.readE (s : Dk) (n : Nat) (k : Int) : Int := if k < 0 ∨ (n : Int) ≤ k then 2 else if s.tick.off then 11 else 0
def Dk.readS (s : Dk) (n : Nat) (k : Int) : List UInt8 := if k < 0 ∨ (n : Int) ≤ k then [] else if s.tick.off then [] else s.nw[k.toNat]?.getD []
def Dk.readD (s : Dk) (n : Nat) (k : Int) : Dk := if k < 0 ∨ (n : Int) ≤ k then s else s.tick
theorem p_read (h : Priv w0 w av n D s) (k : Int) (ho : s.ops < 9223372036854775807) : Calls Try.prog 11 #[.pointer (some ⟨D, 0, none⟩), .int .i64 k] w fun e w' => e = .returned (.tuple #[.string (bs (s.readS n k)), .int .i64 (s.readE n k)]) ∧ PrivTo w0 w av n D (s.readD n k) w' := by
  obtain ⟨hl, F, N, ao, cap, h, hB, hf⟩ := h
  by_cases hk : k < 0 ∨ (n : Int) ≤ k
  · have e1 : s.readS n k = [] := if_pos hk
    have e2 : s.readE n k = 2 := if_pos hk
    have e3 : s.readD n k = s := if_pos hk
    rw [e1, e2, e3]
    refine (read_bad h k hk).mono ?_
    rintro e w' ⟨rfl, h2, t2⟩
    exact ⟨rfl, Priv.to hl hB hf h2 (t2.mono (by simp [foot])) (fun i hi => .inl hi)⟩
  · have e3 : s.readD n k = s.tick := if_neg hk
    rw [e3]
    cases hoff : s.tick.off
    · have e1 : s.readS n k = s.nw[k.toNat]?.getD [] := by unfold Dk.readS; rw [if_neg hk, hoff]; rfl
      have e2 : s.readE n k = 0 := by unfold Dk.readE; rw [if_neg hk, hoff]; rfl
      obtain ⟨q, hq⟩ := Int.eq_ofNat_of_zero_le (show 0 ≤ k by omega)
      subst hq
      have hqn : q < n := by omega
      obtain ⟨x, hx⟩ : ∃ x, s.nw[q]? = some x := ⟨_, List.getElem?_eq_getElem (by rw [h.ok.nw]; exact hqn)⟩
      rw [Int.toNat_natCast, hx, Option.getD_some] at e1
      rw [e1, e2]
      refine (read_ok h q hqn ho hoff x hx).mono ?_
      rintro e w' ⟨rfl, h2, t2⟩
      exact ⟨rfl, Priv.to hl hB hf h2 (t2.mono (by simp [foot])) (fun i hi => .inl hi)⟩
    · have e1 : s.readS n k = [] := by unfold Dk.readS; rw [if_neg hk, hoff]; rfl
      have e2 : s.readE n k = 11 := by unfold Dk.readE; rw [if_neg hk, hoff]; rfl
      rw [e1, e2]
      refine (read_off h k (by omega) (by omega) ho hoff).mono ?_
      rintro e w' ⟨rfl, h2, t2⟩
      exact ⟨rfl, Priv.to hl hB hf h2 (t2.mono (by simp [foot])) (fun i hi => .inl hi)⟩
def Dk.writeE (s : Dk) (n : Nat) (k : Int) (l : List UInt8) : Int := if badArg n k l.length ≠ 0 then badArg n k l.length else if s.tick.off then 11 else 0
def Dk.writeD (s : Dk) (n : Nat) (k : Int) (l : List UInt8) : Dk := if badArg n k l.length ≠ 0 then s else if s.tick.off then s.tick else s.tick.put k.toNat l
theorem p_write (h : Priv w0 w av n D s) (k : Int) (l : List UInt8) (ho : s.ops < 9223372036854775807) (hws : s.ws.length ≤ 1000000) (hlm : l.length ≤ 9223372036854775807) : Calls Try.prog 22 #[.pointer (some ⟨D, 0, none⟩), .int .i64 k, .string (bs l)] w fun e w' => e = .returned (.int .i64 (s.writeE n k l)) ∧ PrivTo w0 w av n D (s.writeD n k l) w' := by
  obtain ⟨hl, F, N, ao, cap, h, hB, hf⟩ := h
  by_cases hk : badArg n k l.length ≠ 0
  · have e2 : s.writeE n k l = badArg n k l.length := if_pos hk
    have e3 : s.writeD n k l = s := if_pos hk
    rw [e2, e3]
    refine (write_bad h k l _ rfl (by simpa using hk) hlm).mono ?_
    rintro e w' ⟨rfl, h2, t2⟩
    exact ⟨rfl, Priv.to hl hB hf h2 t2 (fun i hi => .inl hi)⟩
  · have hb : 0 ≤ k ∧ k < n ∧ (l.length : Int) ≤ 128 := by
      simp only [ne_eq, Decidable.not_not] at hk
      unfold badArg at hk
      split at hk
      · omega
      · split at hk <;> omega
    cases hoff : s.tick.off
    · have e2 : s.writeE n k l = 0 := by unfold Dk.writeE; rw [if_neg hk, hoff]; rfl
      have e3 : s.writeD n k l = s.tick.put k.toNat l := by unfold Dk.writeD; rw [if_neg hk, hoff]; rfl
      rw [e2, e3]
      obtain ⟨q, hq⟩ := Int.eq_ofNat_of_zero_le hb.1
      subst hq
      refine (write_ok h q l (by omega) (by omega) ho hoff hws).mono ?_
      rintro e w' ⟨rfl, ao', cap', h2, t2, hb2⟩
      exact ⟨rfl, Priv.to hl hB hf h2 t2 hb2⟩
    · have e2 : s.writeE n k l = 11 := by unfold Dk.writeE; rw [if_neg hk, hoff]; rfl
      have e3 : s.writeD n k l = s.tick := by unfold Dk.writeD; rw [if_neg hk, hoff]; rfl
      rw [e2, e3]
      refine (write_off h k l hb.1 hb.2.1 (by omega) ho hoff).mono ?_
      rintro e w' ⟨rfl, h2, t2⟩
      exact ⟨rfl, Priv.to hl hB hf h2 t2 (fun i hi => .inl hi)⟩
def Dk.flushE (s : Dk) : Int := if s.tick.off then 11 else 0
def Dk.flushD (s : Dk) : Dk := if s.tick.off then s.tick else s.tick.flush
theorem p_flush (h : Priv w0 w av n D s) (ho : s.ops < 9223372036854775807) (hws : s.ws.length ≤ 1000000) : Calls Try.prog 13 #[.pointer (some ⟨D, 0, none⟩)] w fun e w' => e = .returned (.int .i64 s.flushE) ∧ PrivTo w0 w av n D s.flushD w' := by
  obtain ⟨hl, F, N, ao, cap, h, hB, hf⟩ := h
  cases hoff : s.tick.off
  · have e2 : s.flushE = 0 := by unfold Dk.flushE; rw [hoff]; rfl
    have e3 : s.flushD = s.tick.flush := by unfold Dk.flushD; rw [hoff]; rfl
    rw [e2, e3]
    refine (flush_ok h ho hoff hws).mono ?_
    rintro e w' ⟨rfl, h2, t2⟩
    exact ⟨rfl, Priv.to hl hB hf h2 t2 (by simp [blk])⟩
  · have e2 : s.flushE = 11 := by unfold Dk.flushE; rw [hoff]; rfl
    have e3 : s.flushD = s.tick := by unfold Dk.flushD; rw [hoff]; rfl
    rw [e2, e3]
    refine (flush_off h ho hoff).mono ?_
    rintro e w' ⟨rfl, h2, t2⟩
    exact ⟨rfl, Priv.to hl hB hf h2 t2 (fun i hi => .inl hi)⟩
theorem p_wake (h : Priv w0 w av n D s) (fa : Option Addr) (fs : List UInt8) (fc : Nat) (hfc : fs.length ≤ fc) (hfs : fs.length ≤ 9223372036854775807) (hF : ∀ j c, fs[j]? = some c → ∃ a, fa = some a ∧ w.cell? (a.add j) = some (.int .u8 (c.toNat : Int)) ∧ (a.block < w0.heap.size ∨ av a.block)) (hws : s.ws.length ≤ 1000000) :
    Calls Try.prog 19 #[.pointer (some ⟨D, 0, none⟩), .slice fa fs.length fc] w fun e w' => e = .returned (.tuple #[]) ∧ PrivTo w0 w av n D (s.wake fs) w' := by
  obtain ⟨hl, F, N, ao, cap, h, hB, hf⟩ := h
  cases hoff : s.off
  · have e3 : s.wake fs = s := by unfold Dk.wake; rw [hoff]; rfl
    rw [e3]
    refine (wake_on h _ hoff).mono ?_
    rintro e w' ⟨rfl, rfl⟩
    exact ⟨rfl, ⟨hl, F, N, ao, cap, h, hB, hf⟩, Keeps.refl _ _⟩
  · refine (wake_off h hoff fa fs fc hfc hfs (fun j c hj => ?_) hws).mono ?_
    · obtain ⟨a, e, hc, hn⟩ := hF j c hj
      refine ⟨a, e, hc, fun hi => ?_⟩
      have := hf _ hi
      rcases hn with hn | hn
      · omega
      · exact this.2 hn
    · rintro e w' ⟨rfl, h2, t2⟩
      exact ⟨rfl, Priv.to hl hB hf h2 t2 (by simp [blk])⟩
theorem p_reads (h : Priv w0 w av n D s) (k q : Nat) (a b : UInt8) (h1 : k < n) (hq : q ≤ 128) (ho : s.ops < 9223372036854775807) (hoff : s.tick.off = false) (hs : s.nw[k]? = some (List.replicate q a ++ List.replicate (128 - q) b)) :
    Calls Try.prog 39 #[.pointer (some ⟨D, 0, none⟩), .int .i64 (k : Int), .int .i64 (q : Int), .int .u8 (a.toNat : Int), .int .u8 (b.toNat : Int)] w fun e w' => e = .returned (.bool true) ∧ PrivTo w0 w av n D s.tick w' := by
  obtain ⟨hl, F, N, ao, cap, h, hB, hf⟩ := h
  refine (reads_ok h k q a b h1 hq ho hoff hs).mono ?_
  rintro e w' ⟨rfl, h2, t2⟩
  exact ⟨rfl, Priv.to hl hB hf h2 (t2.mono (by simp [foot])) (fun i hi => .inl hi)⟩
end
end Go.Proofs.Ytcgjkopdnhkdiaa
