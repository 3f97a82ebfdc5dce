/- The table behind a write to one of its maps. -/
import Derived.Test.YtgifdmfnecombaaIq
namespace Go.Proofs.Ytgifdmfnecombaa
open Go.RowKit Go.Maps Go.WideElems Go.ChangeMaps
set_option maxRecDepth 100000
def Ino.withE (i : Ino) (f : List UInt8 → Option Int) (s : Nat) : Ino := { i with ents := f, cnt := s }
def Place.setM (p : Place) (x : Int) (m : Nat) : Place := { p with m := fun k => if k = x then m else p.m k }
/-- a directory's entries are written -/
theorem TabAt.setE {base : Nat} {w u : World} {tb : Nat} {T : Tab} {p : Place} (h : TabAt base w tb T p) (x : Int) (i : Ino) (hi : T.f x = some i) (h2 : i.kind = 2) (f : List UInt8 → Option Int) (s m : Nat)
    (hm : SMap u (p.e x) m f s) (ht : Touch [p.e x] w u) : TabAt base u tb (T.setI x (i.withE f s)) (p.setM x m) ∧ Step tb T p (T.setI x (i.withE f s)) (p.setM x m) w u := by
  have hsx := h.s x
  rw [hi] at hsx
  obtain ⟨c, hg⟩ : ∃ c, p.g x = some c := Option.isSome_iff_exists.mp hsx
  have hM := (h.o x c i hg hi).m h2
  have hf : ∀ k j, (T.setI x (i.withE f s)).f k = some j → ∃ j0, T.f k = some j0 ∧ j0.kind = j.kind := by
    intro k j hj
    unfold Tab.setI at hj
    by_cases e : k = x
    · subst e
      simp only [if_true, Option.some.injEq] at hj
      subst hj
      exact ⟨i, hi, rfl⟩
    · simp only [if_neg e] at hj
      exact ⟨j, hj, rfl⟩
  refine ⟨⟨h.t.touch ht (by simpa using (hM.ne h.t).symm), h.i.touch ht (by simpa using (h.e2 x i hi h2).symm), fun k => ?_, fun k b j hb hj => ?_, h.g1, fun k l a b ha hb h1 h2 h3 => ?_, fun k a ha h1 => ?_, h.n0, h.n1, fun k a ha h1 => ?_⟩, Step.of_touch ht (fun b hb => ?_) fun b hb => ?_⟩
  · change (p.g k).isSome = _
    rw [h.s k]
    unfold Tab.setI
    by_cases e : k = x
    · subst e; simp [hi]
    · simp [e]
  · change p.g k = some b at hb
    by_cases e : k = x
    · subst e
      have hj' : j = i.withE f s := by
        unfold Tab.setI at hj
        simp only [if_true, Option.some.injEq] at hj
        exact hj.symm
      subst hj'
      have ho := h.o k b i hb hi
      refine ⟨ho.a.touch ht (by simpa using (hM.ne ho.a).symm), fun _ => ?_⟩
      simp only [Place.setM, if_true]
      exact hm
    · have hj' : T.f k = some j := by
        unfold Tab.setI at hj
        simpa only [if_neg e] using hj
      have ho := h.o k b j hb hj'
      refine ⟨ho.a.touch ht (by simpa using (hM.ne ho.a).symm), fun h3 => ?_⟩
      simp only [Place.setM, if_neg e]
      exact (ho.m h3).touch ht (by simpa using fun q => e (h.e1 k x j i hj' hi h3 h2 q))
  · obtain ⟨a0, ha0, ka⟩ := hf k a ha
    obtain ⟨b0, hb0, kb⟩ := hf l b hb
    exact h.e1 k l a0 b0 ha0 hb0 (ka.trans h1) (kb.trans h2) h3
  · obtain ⟨a0, ha0, ka⟩ := hf k a ha
    exact h.e2 k a0 ha0 (ka.trans h1)
  · obtain ⟨a0, ha0, ka⟩ := hf k a ha
    exact h.n2 k a0 ha0 (ka.trans h1)
  · obtain rfl : b = p.e x := by simpa using hb
    exact .inr (.inr (.inr ⟨x, i, hi, h2, rfl⟩))
  · left
    rcases hb with h1 | h1 | h1 | ⟨k, a, ha, h2, h3⟩
    · exact .inl h1
    · exact .inr (.inl h1)
    · exact .inr (.inr (.inl h1))
    · obtain ⟨a0, ha0, ka⟩ := hf k a ha
      exact .inr (.inr (.inr ⟨k, a0, ha0, ka.trans h2, h3⟩))
def Tab.del (T : Tab) (x : Int) : Tab := { T with f := (fun k => if k = x then none else T.f k), cnt := if (T.f x).isSome then T.cnt - 1 else T.cnt }
def Place.del (p : Place) (x : Int) : Place := { p with g := fun k => if k = x then none else p.g k }
/-- an inode goes -/
theorem TabAt.del {base : Nat} {w u : World} {tb : Nat} {T : Tab} {p : Place} (h : TabAt base w tb T p) (x : Int)
    (hm : IMap u p.bm p.n (fun k => if k = x then none else p.g k) (if (p.g x).isSome then T.cnt - 1 else T.cnt)) (ht : Touch [p.bm] w u) : TabAt base u tb (T.del x) (p.del x) ∧ Step tb T p (T.del x) (p.del x) w u := by
  have hg : ∀ k b, (p.del x).g k = some b → p.g k = some b ∧ k ≠ x := by
    intro k b hb
    unfold Place.del at hb
    by_cases e : k = x
    · simp [e] at hb
    · simp only [if_neg e] at hb; exact ⟨hb, e⟩
  have hf : ∀ k a, (T.del x).f k = some a → T.f k = some a ∧ k ≠ x := by
    intro k b hb
    unfold Tab.del at hb
    by_cases e : k = x
    · simp [e] at hb
    · simp only [if_neg e] at hb; exact ⟨hb, e⟩
  refine ⟨⟨h.t.touch ht (by simpa using (h.i.ne h.t).symm), ?_, fun k => ?_, fun k b j hb hj => ?_, fun k l b h1 h2 => h.g1 k l b (hg k b h1).1 (hg l b h2).1, fun k l a b ha hb => h.e1 k l a b (hf k a ha).1 (hf l b hb).1, fun k a ha => h.e2 k a (hf k a ha).1, h.n0, fun k b hb => h.n1 k b (hg k b hb).1, fun k a ha => h.n2 k a (hf k a ha).1⟩, Step.of_touch ht (fun b hb => ?_) fun b hb => ?_⟩
  · have := hm
    rw [h.s x] at this
    exact this
  · unfold Place.del Tab.del
    by_cases e : k = x
    · simp [e]
    · simp only [if_neg e]; exact h.s k
  · have ho := h.o k b j (hg k b hb).1 (hf k j hj).1
    exact ⟨ho.a.touch ht (by simpa using (h.i.ne ho.a).symm), fun h2 => (ho.m h2).touch ht (by simpa using h.e2 k j (hf k j hj).1 h2)⟩
  · obtain rfl : b = p.bm := by simpa using hb
    exact .inr (.inl rfl)
  · left
    rcases hb with h1 | h1 | ⟨k, hk⟩ | ⟨k, a, ha, h2, h3⟩
    · exact .inl h1
    · exact .inr (.inl h1)
    · exact .inr (.inr (.inl ⟨k, (hg k b hk).1⟩))
    · exact .inr (.inr (.inr ⟨k, a, (hf k a ha).1, h2, h3⟩))
def Tab.ins (T : Tab) (x : Int) (i : Ino) : Tab := { T with f := (fun k => if k = x then some i else T.f k), cnt := T.cnt + 1 }
def Place.ins (p : Place) (x : Int) (c e m : Nat) : Place := { p with n := p.n + 1, g := (fun k => if k = x then some c else p.g k), e := (fun k => if k = x then e else p.e k), m := (fun k => if k = x then m else p.m k) }
/-- an inode comes: its blocks have been made beside the table's -/
theorem TabAt.ins {base : Nat} {w u : World} {tb : Nat} {T : Tab} {p : Place} (h : TabAt base w tb T p) (x : Int) (i : Ino) (c e m : Nat) (hx : T.f x = none) (hi : InoAt w c e m i)
    (hc : ¬ Mine tb T p c) (he : i.kind = 2 → ¬ Mine tb T p e) (hcb : base ≤ c) (heb : i.kind = 2 → base ≤ e)
    (hm : IMap u p.bm (p.n + 1) (fun k => if k = x then some c else p.g k) (if (p.g x).isSome then T.cnt else T.cnt + 1)) (ht : Touch [p.bm] w u) : TabAt base u tb (T.ins x i) (p.ins x c e m) := by
  have hgx : p.g x = none := by
    have := h.s x
    rw [hx] at this
    cases hq : p.g x with
    | none => rfl
    | some b => rw [hq] at this; cases this
  refine ⟨h.t.touch ht (by simpa using (h.i.ne h.t).symm), ?_, fun k => ?_, fun k b j hb hj => ?_, fun k l b h1 h2 => ?_, fun k l a b ha hb h1 h2 h3 => ?_, fun k a ha h1 => ?_, h.n0, fun k b hb => ?_, fun k a ha h1 => ?_⟩
  · have := hm
    rw [hgx] at this
    exact this
  · unfold Place.ins Tab.ins
    by_cases q : k = x
    · simp [q]
    · simp only [if_neg q]; exact h.s k
  · unfold Place.ins at hb ⊢
    unfold Tab.ins at hj
    by_cases q : k = x
    · simp only [if_pos q, Option.some.injEq] at hb hj ⊢
      subst hb hj
      exact ⟨hi.a.touch ht (by simpa using (h.i.ne hi.a).symm), fun h2 => (hi.m h2).touch ht (by simpa using fun z => he h2 (.inr (.inl z)))⟩
    · simp only [if_neg q] at hb hj ⊢
      have ho := h.o k b j hb hj
      exact ⟨ho.a.touch ht (by simpa using (h.i.ne ho.a).symm), fun h2 => (ho.m h2).touch ht (by simpa using h.e2 k j hj h2)⟩
  · unfold Place.ins at h1 h2
    by_cases q : k = x <;> by_cases r : l = x
    · rw [q, r]
    · simp only [if_pos q, if_neg r, Option.some.injEq] at h1 h2
      exact (hc (.inr (.inr (.inl ⟨l, h1 ▸ h2⟩)))).elim
    · simp only [if_neg q, if_pos r, Option.some.injEq] at h1 h2
      exact (hc (.inr (.inr (.inl ⟨k, h2 ▸ h1⟩)))).elim
    · simp only [if_neg q, if_neg r] at h1 h2
      exact h.g1 k l b h1 h2
  · unfold Place.ins at h3
    unfold Tab.ins at ha hb
    by_cases q : k = x <;> by_cases r : l = x
    · rw [q, r]
    · simp only [if_pos q, if_neg r, Option.some.injEq] at h3 ha hb
      subst ha
      exact (he h1 (.inr (.inr (.inr ⟨l, b, hb, h2, h3.symm⟩)))).elim
    · simp only [if_neg q, if_pos r, Option.some.injEq] at h3 ha hb
      subst hb
      exact (he h2 (.inr (.inr (.inr ⟨k, a, ha, h1, h3⟩)))).elim
    · simp only [if_neg q, if_neg r] at h3 ha hb
      exact h.e1 k l a b ha hb h1 h2 h3
  · unfold Place.ins
    unfold Tab.ins at ha
    by_cases q : k = x
    · simp only [if_pos q, Option.some.injEq] at ha ⊢
      subst ha
      exact fun z => he h1 (.inr (.inl z))
    · simp only [if_neg q] at ha ⊢
      exact h.e2 k a ha h1
  · unfold Place.ins at hb
    by_cases q : k = x
    · simp only [if_pos q, Option.some.injEq] at hb
      exact hb ▸ hcb
    · simp only [if_neg q] at hb
      exact h.n1 k b hb
  · unfold Place.ins
    unfold Tab.ins at ha
    by_cases q : k = x
    · simp only [if_pos q, Option.some.injEq] at ha ⊢
      subst ha
      exact heb h1
    · simp only [if_neg q] at ha ⊢
      exact h.n2 k a ha h1
end Go.Proofs.Ytgifdmfnecombaa
