/- Operations of a disk that are done in order. -/
import Derived.Test.YtcgjkopdnhkdiaaJj
import Derived.Test.YtcgjkopdnhkdiaaFh
namespace Go.Proofs.Ytcgjkopdnhkdiaa
open Go.RowKit
set_option maxRecDepth 100000
/-- an operation: a sector is written, or all is flushed -/
inductive DO where
  | w (k : Int) (l : List UInt8)
  | f
def DO.E (n : Nat) (s : Dk) : DO → Int
  | .w k l => s.writeE n k l
  | .f => s.flushE
def DO.D (n : Nat) (s : Dk) : DO → Dk
  | .w k l => s.writeD n k l
  | .f => s.flushD
/-- done in order, up to the first error -/
def runs (n : Nat) : Dk → List DO → Int × Dk
  | s, [] => (0, s)
  | s, x :: r => if x.E n s = 0 then runs n (x.D n s) r else (x.E n s, x.D n s)
/-- a disk that waits with no more writes, and did no more operations, than so many -/
structure Lot (m : Nat) (s : Dk) : Prop where
  ws : s.ws.length ≤ m
  ops : s.ops ≤ m
theorem Lot.mono {m k : Nat} {s : Dk} (h : Lot m s) (hk : m ≤ k) : Lot k s := ⟨Nat.le_trans h.ws hk, Nat.le_trans h.ops hk⟩
section
variable {m : Nat} {s : Dk} (h : Lot m s)
include h
theorem Lot.tick : Lot (m + 1) s.tick := by
  refine ⟨by rw [s.tick_ws]; have := h.ws; omega, ?_⟩
  have := h.ops
  unfold Dk.tick
  split
  · omega
  · show s.ops + 1 ≤ _; omega
theorem Lot.read (n : Nat) (k : Int) : Lot (m + 1) (s.readD n k) := by
  unfold Dk.readD
  split
  · exact h.mono (by omega)
  · exact h.tick
theorem Lot.op (n : Nat) (x : DO) : Lot (m + 1) (x.D n s) := by
  cases x with
  | w k l =>
    show Lot (m + 1) (s.writeD n k l)
    unfold Dk.writeD
    split
    · exact h.mono (by omega)
    · split
      · exact h.tick
      · refine ⟨?_, h.tick.ops⟩
        unfold Dk.put
        simp only [List.length_append, List.length_singleton, s.tick_ws]
        have := h.ws
        omega
  | f =>
    show Lot (m + 1) s.flushD
    unfold Dk.flushD
    split
    · exact h.tick
    · exact ⟨by simp [Dk.flush], h.tick.ops⟩
end
theorem runs_lot (n : Nat) : ∀ (l : List DO) (m : Nat) (s : Dk), Lot m s → Lot (m + l.length) (runs n s l).2
  | [], m, s, h => h
  | x :: r, m, s, h => by
    unfold runs
    split
    · have := runs_lot n r (m + 1) _ (h.op n x)
      rw [List.length_cons]
      exact this.mono (by omega)
    · exact (h.op n x).mono (by rw [List.length_cons]; omega)
inductive Zip {α β : Type} (R : α → β → Prop) : List α → List β → Prop
  | nil : Zip R [] []
  | cons {a b l r} : R a b → Zip R l r → Zip R (a :: l) (b :: r)
theorem Zip.len {α β : Type} {R : α → β → Prop} {l : List α} {r : List β} (h : Zip R l r) : l.length = r.length := by
  induction h with
  | nil => rfl
  | cons _ _ ih => rw [List.length_cons, List.length_cons, ih]
theorem Zip.mono {α β : Type} {R S : α → β → Prop} {l : List α} {r : List β} (h : Zip R l r) (hs : ∀ a b, R a b → S a b) : Zip S l r := by
  induction h with
  | nil => exact .nil
  | cons h1 _ ih => exact .cons (hs _ _ h1) ih
theorem Zip.append {α β : Type} {R : α → β → Prop} {l l2 : List α} {r r2 : List β} (h : Zip R l r) (h2 : Zip R l2 r2) : Zip R (l ++ l2) (r ++ r2) := by
  induction h with
  | nil => exact h2
  | cons h1 _ ih => exact .cons h1 ih
def wrSt (b : Nat) : St := ⟨86, #[], #[.pointer (some ⟨b, 0, none⟩), .pointer (some ⟨b + 1, 0, none⟩), .pointer (some ⟨b + 2, 0, none⟩)]⟩
def flSt (D : Nat) : St := ⟨13, #[.pointer (some ⟨D, 0, none⟩)], #[]⟩
theorem wrSt_enters (b : Nat) : (wrSt b).Enters := enters_of Try.func86 (by kernel_rfl) rfl
theorem flSt_enters (D : Nat) : (flSt D).Enters := enters_of Try.func13 (by kernel_rfl) rfl
/-- which step does which operation -/
inductive Is (D : Nat) (w : World) (av : Nat → Prop) : St → DO → Prop
  | wr (b : Nat) (k : Int) (l : List UInt8) (h : WrAt w b D k l) (ha : ∀ i, b ≤ i → i ≤ b + 2 → av i) (hl : l.length ≤ 1000000) : Is D w av (wrSt b) (.w k l)
  | fl : Is D w av (flSt D) .f
theorem Is.keep {D : Nat} {w w' : World} {av av2 : Nat → Prop} {x : St} {d : DO} (h : Is D w av x d) (hk : Keeps av w w') (h2 : ∀ i, av i → av2 i) : Is D w' av2 x d := by
  cases h with
  | wr b k l h ha hl => exact .wr b k l (h.same fun i h1 h3 => hk i (ha i h1 h3)) (fun i h1 h3 => h2 i (ha i h1 h3)) hl
  | fl => exact .fl
/-- from nowhere all may be done -/
theorem steps_void {D : Nat} {w : World} {av : Nat → Prop} {K : World → Prop} {R : Int → World → Prop} : ∀ (xs : List St) (ds : List DO) (J : World → Prop), Zip (Is D w av) xs ds → (∀ w, ¬ J w) → Steps K xs J R
  | _, _, J, .nil, h => fun w hw => (h w hw).elim
  | _, _, J, .cons (l := xs) (r := ds) hx hr, h => by
    refine ⟨fun w hw => (h w hw).elim, ?_, fun _ => False, fun w hw => (h w hw).elim, steps_void xs ds _ hr (fun _ h => h)⟩
    cases hx with
    | wr => exact wrSt_enters _
    | fl => exact flSt_enters _
section
variable {w0 : World} {av : Nat → Prop} {n D : Nat}
theorem steps_run (wS : World) (B : Nat) (cells : List Value) (hA : At wS B 34 cells) (hB : av B) : ∀ (xs : List St) (ds : List DO) (s : Dk) (m : Nat), Zip (Is D wS av) xs ds → Lot m s → m + xs.length ≤ 1000000 →
    Steps (fun w => At w B 34 cells) xs (fun w => Priv w0 w av n D s ∧ Keeps av wS w) (fun r w' => r = (runs n s ds).1 ∧ Priv w0 w' av n D (runs n s ds).2 ∧ Keeps av wS w')
  | _, _, s, m, .nil, _, _ => fun w h => ⟨rfl, h.1, h.2⟩
  | _, _, s, m, .cons (a := x) (b := d) (l := xs) (r := ds) hx hr, hm, hlen => by
    rw [List.length_cons] at hlen
    refine ⟨fun w h => h.2.at hA hB, ?_, fun w => Priv w0 w av n D (d.D n s) ∧ Keeps av wS w ∧ d.E n s = 0, ?_, ?_⟩
    · cases hx with
      | wr => exact wrSt_enters _
      | fl => exact flSt_enters _
    · rintro w ⟨hP, hK⟩
      have key : Calls Try.prog x.f (x.b ++ x.c) w fun e w' => e = .returned (.int .i64 (d.E n s)) ∧ PrivTo w0 w av n D (d.D n s) w' := by
        have ho := hm.ops
        have hw := hm.ws
        cases hx with
        | wr b k l h ha hl => exact wrote_any hP b k l (h.same fun i h1 h3 => hK i (ha i h1 h3)) (by omega) (by omega) (by omega)
        | fl => exact p_flush hP (by omega) (by omega)
      refine key.mono ?_
      rintro e w' ⟨rfl, hP', hK'⟩
      have hKK : Keeps av wS w' := Keeps.trans hK hK'
      refine ⟨_, rfl, fun hne => ?_, fun h0 => ⟨hP', hKK, h0⟩⟩
      unfold runs
      rw [if_neg hne]
      exact ⟨rfl, hP', hKK⟩
    · by_cases h0 : d.E n s = 0
      · have ih := steps_run wS B cells hA hB xs ds (d.D n s) (m + 1) hr (hm.op n d) (by omega)
        unfold runs
        rw [if_pos h0]
        have e : (fun w => Priv w0 w av n D (d.D n s) ∧ Keeps av wS w ∧ d.E n s = 0) = (fun w => Priv w0 w av n D (d.D n s) ∧ Keeps av wS w) := by
          funext w; simp [h0]
        rw [e]
        exact ih
      · have hno : ∀ w : World, ¬ (Priv w0 w av n D (d.D n s) ∧ Keeps av wS w ∧ d.E n s = 0) := fun w h => h0 h.2.2
        exact steps_void _ _ _ hr hno
/-- all of them, by the call that does steps in order -/
theorem inOps_any {w : World} {s : Dk} (h : Priv w0 w av n D s) (B cap : Nat) (xs : List St) (ds : List DO) (rest : List Value) (hA : At w B 34 (xs.map St.v ++ rest)) (hB : av B) (hz : Zip (Is D w av) xs ds) (m : Nat) (hm : Lot m s) (hmx : m + xs.length ≤ 1000000) :
    Calls Try.prog 56 #[.slice (some ⟨B, 0, none⟩) xs.length cap] w fun e w' => e = .returned (.int .i64 (runs n s ds).1) ∧ PrivTo w0 w av n D (runs n s ds).2 w' := by
  refine (inOrder_any B cap xs rest (by omega) _ _ (steps_run w B _ hA hB xs ds s m hz hm hmx) w ⟨h, Keeps.refl _ _⟩).mono ?_
  rintro e w' ⟨r, rfl, rfl, hP, hK⟩
  exact ⟨rfl, hP, hK⟩
/-- new blocks are to be left alone, too -/
theorem Priv.grow {w w' : World} {s : Dk} (h : Priv w0 w av n D s) (b : Below w.heap.size w w') : Priv w0 w' (fun i => i < w'.heap.size ∧ (av i ∨ w.heap.size ≤ i)) n D s := by
  obtain ⟨hl, F, N, ao, cap, h, hB, hf⟩ := h
  refine ⟨fun i hi => hi.1, F, N, ao, cap, h.below b, hB.trans (b.mono hB.size), fun i hi => ⟨(hf i hi).1, fun e => ?_⟩⟩
  rcases e.2 with e | e
  · exact (hf i hi).2 e
  · have := h.lt i hi; omega
theorem PrivTo.back {w v w' : World} {av2 : Nat → Prop} {s : Dk} (h : PrivTo w0 v av2 n D s w') (h2 : ∀ i, av i → av2 i) (hk : Keeps av w v) : PrivTo w0 w av n D s w' :=
  ⟨h.1.more (fun i hi => .inr (h2 i hi)), fun i hi => (h.2 i (h2 i hi)).trans (hk i hi)⟩
theorem Priv.keeps {w w' : World} {s : Dk} (h : Priv w0 w av n D s) (b : Below w.heap.size w w') : Keeps av w w' := fun i hi => b.block i (h.1 i hi)
end
end Go.Proofs.Ytcgjkopdnhkdiaa
