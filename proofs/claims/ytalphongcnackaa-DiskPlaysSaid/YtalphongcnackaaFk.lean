/- The document's disk, beside a disk: what its methods do to the second of two. -/
import Derived.Test.YtalphongcnackaaFj
import Derived.Test.YtalphongcnackaaDt
namespace Go.Proofs.Ytalphongcnackaa
open Go.RowKit
set_option maxRecDepth 100000
def theRef (n D : Nat) (s : Dk) : Thing := fun w fx => ∃ fo fc ao cap, RefAt w D fo fc ao cap n s ∧ fx = fun i => i ∈ rfoot D fo ao
theorem Own.same {w w' : World} {e : TypeId} {size n cap : Nat} {ao : Option Addr} {xs : List Value} (h : Own w e size ao n cap xs) (hk : ∀ i, i ∈ blk ao → w'.heap[i]? = w.heap[i]?) : Own w' e size ao n cap xs := by
  refine ⟨h.1, ?_⟩
  rcases h.2 with h0 | ⟨g, cap', cur, hv, hbg, hg, rest⟩
  · exact .inl h0
  · cases hv
    exact .inr ⟨g, _, cur, rfl, hbg, by rw [hk g (by simp [blk])]; exact hg, rest⟩
theorem theRef_stable (n D : Nat) (s : Dk) : Stable (theRef n D s) := by
  rintro w w' fy ⟨fo, fc, ao, cap, h, rfl⟩ hk
  refine ⟨fo, fc, ao, cap, ⟨?_, h.f.same (fun i hi => hk i (by simp [rfoot, hi])), h.w.same (fun i hi => hk i (by simp [rfoot, hi])), h.ok⟩, rfl⟩
  have := h.d; unfold At at *; rw [hk D (by simp [rfoot])]; exact this
section
variable {w0 w : World} {av : Nat → Prop} {n D : Nat} {s : Dk}
theorem Alone.ref {w' : World} {fo ao ao' : Option Addr} {fc' cap' : Nat} {s' : Dk} (hl : ∀ i, av i → i < w.heap.size) (hB : Below w0.heap.size w0 w) (hf : ∀ i, i ∈ rfoot D fo ao → w0.heap.size ≤ i ∧ i < w.heap.size ∧ ¬ av i)
    (h : RefAt w' D fo fc' ao' cap' n s') (t : Touch (rfoot D fo ao) w w') (hb : ∀ i, i ∈ blk ao' → i ∈ blk ao ∨ w.heap.size ≤ i) : Alone (theRef n D s') w0 w' av ∧ Keeps av w w' := by
  refine ⟨⟨fun i hi => Nat.lt_of_lt_of_le (hl i hi) t.size, t.below hB (fun i hi => (hf i hi).1) (Nat.le_refl _), _, ⟨fo, fc', ao', cap', h, rfl⟩, fun i hi => ⟨?_, h.lt i hi, ?_⟩⟩, fun i hi => t.block i (hl i hi) (fun e => (hf i e).2.2 hi)⟩
  · have hi' := hi
    simp only [rfoot, List.mem_cons, List.mem_append] at hi'
    rcases hi' with rfl | hi' | hi'
    · exact (hf _ (by simp [rfoot])).1
    · exact (hf _ (by simp [rfoot, hi'])).1
    · rcases hb i hi' with h1 | h1
      · exact (hf _ (by simp [rfoot, h1])).1
      · have := hB.size; omega
  · have hi' := hi
    simp only [rfoot, List.mem_cons, List.mem_append] at hi'
    rcases hi' with rfl | hi' | hi'
    · exact (hf _ (by simp [rfoot])).2.2
    · exact (hf _ (by simp [rfoot, hi'])).2.2
    · rcases hb i hi' with h1 | h1
      · exact (hf _ (by simp [rfoot, h1])).2.2
      · intro e; have := hl i e; omega
def RefTo (w0 w : World) (av : Nat → Prop) (n D : Nat) (s' : Dk) (w' : World) : Prop := Alone (theRef n D s') w0 w' av ∧ Keeps av w w'
theorem q_new (w0 w : World) (hB : Below w0.heap.size w0 w) (av : Nat → Prop) (hl : ∀ i, av i → i < w.heap.size) (n : Nat) (h1 : 1 ≤ n) (h2 : n ≤ 4096) :
    Calls Try.prog 9 #[.int .i64 (n : Int)] w fun e w' => ∃ D, e = .returned (.pointer (some ⟨D, 0, none⟩)) ∧ RefTo w0 w av n D (Dk.fresh n) w' := by
  refine (refNew_any n w h1 h2).mono ?_
  rintro e w' ⟨D, fo, fc, rfl, h, hb, hf⟩
  have hz := hB.size
  exact ⟨D, rfl, ⟨fun i hi => Nat.lt_of_lt_of_le (hl i hi) hb.size, hB.trans (hb.mono hz), _, ⟨fo, fc, none, 0, h, rfl⟩, fun i hi => ⟨by have := hf i hi; omega, h.lt i hi, fun e => by have := hl i e; have := hf i hi; omega⟩⟩, fun i hi => hb.block i (hl i hi)⟩
theorem q_off (h : Alone (theRef n D s) w0 w av) : Calls Try.prog 18 #[.pointer (some ⟨D, 0, none⟩)] w fun e w' => e = .returned (.tuple #[]) ∧ RefTo w0 w av n D s.cut w' := by
  obtain ⟨hl, hB, _, ⟨fo, fc, ao, cap, h, rfl⟩, hf⟩ := h
  refine (refOff_any h).mono ?_
  rintro e w' ⟨rfl, h2, t2⟩
  exact ⟨rfl, Alone.ref hl hB hf h2 (t2.mono (by simp [rfoot])) (fun i hi => .inl hi)⟩
theorem q_arm (h : Alone (theRef n D s) w0 w av) (k : Int) (h1 : -9223372036854775808 ≤ k) (h2 : k ≤ 9223372036854775807) : Calls Try.prog 16 #[.pointer (some ⟨D, 0, none⟩), .int .i64 k] w fun e w' => e = .returned (.tuple #[]) ∧ RefTo w0 w av n D (s.arm k) w' := by
  obtain ⟨hl, hB, _, ⟨fo, fc, ao, cap, h, rfl⟩, hf⟩ := h
  refine (refArm_any h k h1 h2).mono ?_
  rintro e w' ⟨rfl, h2, t2⟩
  exact ⟨rfl, Alone.ref hl hB hf h2 (t2.mono (by simp [rfoot])) (fun i hi => .inl hi)⟩
theorem q_read (h : Alone (theRef n D s) w0 w av) (k : Int) (ho : s.ops < 9223372036854775807) (hws : s.ws.length ≤ 1000000) : Calls Try.prog 12 #[.pointer (some ⟨D, 0, none⟩), .int .i64 k] w fun e w' => e = .returned (.tuple #[.string (bs (s.readS n k)), .int .i64 (s.readE n k)]) ∧ RefTo w0 w av n D (s.readD n k) w' := by
  obtain ⟨hl, hB, _, ⟨fo, fc, ao, cap, h, rfl⟩, hf⟩ := h
  by_cases hk : k < 0 ∨ (n : Int) ≤ k
  · have e1 : s.readS n k = [] := if_pos hk
    have e2 : s.readE n k = 2 := if_pos hk
    have e3 : s.readD n k = s := if_pos hk
    rw [e1, e2, e3]
    refine (refRead_bad h k hk).mono ?_
    rintro e w' ⟨rfl, h2, t2⟩
    exact ⟨rfl, Alone.ref hl hB hf h2 (t2.mono (by simp [rfoot])) (fun i hi => .inl hi)⟩
  · have e3 : s.readD n k = s.tick := if_neg hk
    rw [e3]
    obtain ⟨q, hq⟩ := Int.eq_ofNat_of_zero_le (show 0 ≤ k by omega)
    subst hq
    have hqn : q < n := by omega
    cases hoff : s.tick.off
    · have e1 : s.readS n q = s.nw[q]?.getD [] := by unfold Dk.readS; rw [if_neg hk, hoff]; rfl
      have e2 : s.readE n q = 0 := by unfold Dk.readE; rw [if_neg hk, hoff]; rfl
      rw [e1, e2]
      refine (refRead_ok h q hqn ho hoff hws).mono ?_
      rintro e w' ⟨rfl, h2, t2⟩
      exact ⟨rfl, Alone.ref hl hB hf h2 (t2.mono (by simp [rfoot])) (fun i hi => .inl hi)⟩
    · have e1 : s.readS n q = [] := by unfold Dk.readS; rw [if_neg hk, hoff]; rfl
      have e2 : s.readE n q = 11 := by unfold Dk.readE; rw [if_neg hk, hoff]; rfl
      rw [e1, e2]
      refine (refRead_off h q hqn ho hoff).mono ?_
      rintro e w' ⟨rfl, h2, t2⟩
      exact ⟨rfl, Alone.ref hl hB hf h2 (t2.mono (by simp [rfoot])) (fun i hi => .inl hi)⟩
theorem q_write (h : Alone (theRef n D s) w0 w av) (k : Int) (l : List UInt8) (ho : s.ops < 9223372036854775807) (hws : s.ws.length ≤ 1000000) (hlm : l.length ≤ 9223372036854775807) : Calls Try.prog 23 #[.pointer (some ⟨D, 0, none⟩), .int .i64 k, .string (bs l)] w fun e w' => e = .returned (.int .i64 (s.writeE n k l)) ∧ RefTo w0 w av n D (s.writeD n k l) w' := by
  obtain ⟨hl, hB, _, ⟨fo, fc, ao, cap, h, rfl⟩, hf⟩ := h
  by_cases hk : badArg n k l.length ≠ 0
  · have e2 : s.writeE n k l = badArg n k l.length := if_pos hk
    have e3 : s.writeD n k l = s := if_pos hk
    rw [e2, e3]
    refine (refWrite_bad h k l _ rfl (by simpa using hk) hlm).mono ?_
    rintro e w' ⟨rfl, rfl⟩
    exact ⟨rfl, Alone.ref hl hB hf h (Touch.refl _ _) (fun i hi => .inl hi)⟩
  · have hb : 0 ≤ k ∧ k < n ∧ (l.length : Int) ≤ 128 := by
      simp only [ne_eq, Decidable.not_not] at hk
      unfold badArg at hk
      split at hk
      · omega
      · split at hk <;> omega
    cases hoff : s.tick.off
    · have e2 : s.writeE n k l = 0 := by unfold Dk.writeE; rw [if_neg hk, hoff]; rfl
      have e3 : s.writeD n k l = s.tick.put k.toNat l := by unfold Dk.writeD; rw [if_neg hk, hoff]; rfl
      rw [e2, e3]
      obtain ⟨q, hq⟩ := Int.eq_ofNat_of_zero_le hb.1
      subst hq
      refine (refWrite_ok h q l (by omega) (by omega) ho hoff hws).mono ?_
      rintro e w' ⟨rfl, ao', cap', h2, t2, hb2⟩
      exact ⟨rfl, Alone.ref hl hB hf h2 (t2.mono (fun i hi => .inl (by simp only [List.mem_cons] at hi; simp only [rfoot, List.mem_cons, List.mem_append]; rcases hi with hi | hi <;> simp [hi]))) hb2⟩
    · have e2 : s.writeE n k l = 11 := by unfold Dk.writeE; rw [if_neg hk, hoff]; rfl
      have e3 : s.writeD n k l = s.tick := by unfold Dk.writeD; rw [if_neg hk, hoff]; rfl
      rw [e2, e3]
      refine (refWrite_off h k l hb.1 hb.2.1 (by omega) ho hoff).mono ?_
      rintro e w' ⟨rfl, h2, t2⟩
      exact ⟨rfl, Alone.ref hl hB hf h2 (t2.mono (by simp [rfoot])) (fun i hi => .inl hi)⟩
theorem q_flush (h : Alone (theRef n D s) w0 w av) (ho : s.ops < 9223372036854775807) (hws : s.ws.length ≤ 1000000) : Calls Try.prog 14 #[.pointer (some ⟨D, 0, none⟩)] w fun e w' => e = .returned (.int .i64 s.flushE) ∧ RefTo w0 w av n D s.flushD w' := by
  obtain ⟨hl, hB, _, ⟨fo, fc, ao, cap, h, rfl⟩, hf⟩ := h
  cases hoff : s.tick.off
  · have e2 : s.flushE = 0 := by unfold Dk.flushE; rw [hoff]; rfl
    have e3 : s.flushD = s.tick.flush := by unfold Dk.flushD; rw [hoff]; rfl
    rw [e2, e3]
    refine (refFlush_ok h ho hoff hws).mono ?_
    rintro e w' ⟨rfl, h2, t2⟩
    exact ⟨rfl, Alone.ref hl hB hf h2 (t2.mono (fun i hi => .inl (by simp only [List.mem_cons] at hi; simp only [rfoot, List.mem_cons, List.mem_append]; rcases hi with hi | hi <;> simp [hi]))) (by simp [blk])⟩
  · have e2 : s.flushE = 11 := by unfold Dk.flushE; rw [hoff]; rfl
    have e3 : s.flushD = s.tick := by unfold Dk.flushD; rw [hoff]; rfl
    rw [e2, e3]
    refine (refFlush_off h ho hoff).mono ?_
    rintro e w' ⟨rfl, h2, t2⟩
    exact ⟨rfl, Alone.ref hl hB hf h2 (t2.mono (by simp [rfoot])) (fun i hi => .inl hi)⟩
theorem q_wake (h : Alone (theRef n D s) w0 w av) (fa : Option Addr) (fs : List UInt8) (fcp : Nat) (hfs : fs.length ≤ 9223372036854775807) (hF : ∀ j c, fs[j]? = some c → ∃ a, fa = some a ∧ w.cell? (a.add j) = some (.int .u8 (c.toNat : Int)) ∧ (a.block < w0.heap.size ∨ av a.block)) (hws : s.ws.length ≤ 1000000) :
    Calls Try.prog 20 #[.pointer (some ⟨D, 0, none⟩), .slice fa fs.length fcp] w fun e w' => e = .returned (.tuple #[]) ∧ RefTo w0 w av n D (s.wake fs) w' := by
  obtain ⟨hl, hB, _, ⟨fo, fc, ao, cap, h, rfl⟩, hf⟩ := h
  cases hoff : s.off
  · have e3 : s.wake fs = s := by unfold Dk.wake; rw [hoff]; rfl
    rw [e3]
    refine (refWake_on h _ hoff).mono ?_
    rintro e w' ⟨rfl, rfl⟩
    exact ⟨rfl, Alone.ref hl hB hf h (Touch.refl _ _) (fun i hi => .inl hi)⟩
  · refine (refWake_off h hoff fa fs fcp hfs (fun j c hj => ?_) hws).mono ?_
    · obtain ⟨a, e, hc, hn⟩ := hF j c hj
      refine ⟨a, e, hc, fun hi => ?_⟩
      have := hf _ hi
      rcases hn with hn | hn
      · omega
      · exact this.2.2 hn
    · rintro e w' ⟨rfl, h2, t2⟩
      exact ⟨rfl, Alone.ref hl hB hf h2 (t2.mono (fun i hi => .inl (by simp only [List.mem_cons] at hi; simp only [rfoot, List.mem_cons, List.mem_append]; rcases hi with hi | hi <;> simp [hi]))) (by simp [blk])⟩
end
section
variable {w0 w : World} {av : Nat → Prop} {n D : Nat} {s : Dk} {X : Thing}
theorem b_write (hX : Stable X) (h : Pair X (theRef n D s) w0 w av) (k : Int) (l : List UInt8) (ho : s.ops < 9223372036854775807) (hws : s.ws.length ≤ 1000000) (hlm : l.length ≤ 9223372036854775807) : Calls Try.prog 23 #[.pointer (some ⟨D, 0, none⟩), .int .i64 k, .string (bs l)] w fun e w' => e = .returned (.int .i64 (s.writeE n k l)) ∧ Pair X (theRef n D (s.writeD n k l)) w0 w' av ∧ Keeps av w w' :=
  pair_right (Q := fun e => e = .returned (.int .i64 (s.writeE n k l))) hX h fun _ _ hA => q_write hA k l ho hws hlm
theorem b_read (hX : Stable X) (h : Pair X (theRef n D s) w0 w av) (k : Int) (ho : s.ops < 9223372036854775807) (hws : s.ws.length ≤ 1000000) : Calls Try.prog 12 #[.pointer (some ⟨D, 0, none⟩), .int .i64 k] w fun e w' => e = .returned (.tuple #[.string (bs (s.readS n k)), .int .i64 (s.readE n k)]) ∧ Pair X (theRef n D (s.readD n k)) w0 w' av ∧ Keeps av w w' :=
  pair_right (Q := fun e => e = .returned (.tuple #[.string (bs (s.readS n k)), .int .i64 (s.readE n k)])) hX h fun _ _ hA => q_read hA k ho hws
theorem b_flush (hX : Stable X) (h : Pair X (theRef n D s) w0 w av) (ho : s.ops < 9223372036854775807) (hws : s.ws.length ≤ 1000000) : Calls Try.prog 14 #[.pointer (some ⟨D, 0, none⟩)] w fun e w' => e = .returned (.int .i64 s.flushE) ∧ Pair X (theRef n D s.flushD) w0 w' av ∧ Keeps av w w' :=
  pair_right (Q := fun e => e = .returned (.int .i64 s.flushE)) hX h fun _ _ hA => q_flush hA ho hws
theorem b_off (hX : Stable X) (h : Pair X (theRef n D s) w0 w av) : Calls Try.prog 18 #[.pointer (some ⟨D, 0, none⟩)] w fun e w' => e = .returned (.tuple #[]) ∧ Pair X (theRef n D s.cut) w0 w' av ∧ Keeps av w w' :=
  pair_right (Q := fun e => e = .returned (.tuple #[])) hX h fun _ _ hA => q_off hA
theorem b_arm (hX : Stable X) (h : Pair X (theRef n D s) w0 w av) (k : Int) (h1 : -9223372036854775808 ≤ k) (h2 : k ≤ 9223372036854775807) : Calls Try.prog 16 #[.pointer (some ⟨D, 0, none⟩), .int .i64 k] w fun e w' => e = .returned (.tuple #[]) ∧ Pair X (theRef n D (s.arm k)) w0 w' av ∧ Keeps av w w' :=
  pair_right (Q := fun e => e = .returned (.tuple #[])) hX h fun _ _ hA => q_arm hA k h1 h2
theorem b_wake (hX : Stable X) (h : Pair X (theRef n D s) w0 w av) (fa : Option Addr) (fs : List UInt8) (fcp : Nat) (hfs : fs.length ≤ 9223372036854775807) (hF : ∀ j c, fs[j]? = some c → ∃ a, fa = some a ∧ w.cell? (a.add j) = some (.int .u8 (c.toNat : Int)) ∧ (a.block < w0.heap.size ∨ av a.block)) (hws : s.ws.length ≤ 1000000) :
    Calls Try.prog 20 #[.pointer (some ⟨D, 0, none⟩), .slice fa fs.length fcp] w fun e w' => e = .returned (.tuple #[]) ∧ Pair X (theRef n D (s.wake fs)) w0 w' av ∧ Keeps av w w' :=
  pair_right (Q := fun e => e = .returned (.tuple #[])) hX h fun _ hav hA => q_wake hA fa fs fcp hfs (fun j c hj => by
    obtain ⟨a, e, h1, h2⟩ := hF j c hj
    exact ⟨a, e, h1, h2.imp id (hav _)⟩) hws
/-- the heads of the document's disk -/
theorem Pair.heads (h : Pair X (theRef n D s) w0 w av) : ∃ fo fc ao cap, At w D 43 (heads fo fc ao cap s) ∧ s.fl.length = n := by
  obtain ⟨_, _, _, _, x, ⟨fo, fc, ao, cap, h, _⟩, _, _⟩ := h
  exact ⟨fo, fc, ao, cap, h.d, h.ok.fl⟩
end
end Go.Proofs.Ytalphongcnackaa
