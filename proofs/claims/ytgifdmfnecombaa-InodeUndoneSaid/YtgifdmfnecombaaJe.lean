/- A table of one's own: its lists, and the calls. -/
import Derived.Test.YtgifdmfnecombaaJd
namespace Go.Proofs.Ytgifdmfnecombaa
open Go.RowKit
set_option maxRecDepth 100000
theorem TabAt.keep {base : Nat} {w w' : World} {tb : Nat} {T : Tab} {p : Place} (h : TabAt base w tb T p) (k : ∀ b, Mine tb T p b → w'.heap[b]? = w.heap[b]?) : TabAt base w' tb T p := by
  have ha : ∀ {b t l}, Mine tb T p b → At w b t l → At w' b t l := fun hm h => (k _ hm).trans h
  refine ⟨ha (.inl rfl) h.t, h.i.keep (k _ (.inr (.inl rfl))), h.s, fun x b i hg hf => ?_, h.g1, h.e1, h.e2, h.n0, h.n1, h.n2⟩
  have := h.o x b i hg hf
  exact ⟨ha (.inr (.inr (.inl ⟨x, hg⟩))) this.a, fun hk => (this.m hk).keep (k _ (.inr (.inr (.inr ⟨x, i, hf, hk, rfl⟩))))⟩
theorem TabAt.low {base b2 : Nat} {w : World} {tb : Nat} {T : Tab} {p : Place} (h : TabAt base w tb T p) (hb : b2 ≤ base) : TabAt b2 w tb T p :=
  ⟨h.t, h.i, h.s, h.o, h.g1, h.e1, h.e2, ⟨Nat.le_trans hb h.n0.1, Nat.le_trans hb h.n0.2⟩, fun k b q => Nat.le_trans hb (h.n1 k b q), fun k i q r => Nat.le_trans hb (h.n2 k i q r)⟩
/-- a table of one's own, made since w0; the blocks of av are others -/
structure Holds (w0 w : World) (tb : Nat) (D : Doc) (n : Nat) (av : Nat → Prop) : Prop where
  ex : ∃ p dp, TabAt w0.heap.size w tb D.tab p ∧ D.Inv dp ∧ (p.n ≤ n ∧ ∀ k, p.m k ≤ n) ∧ ∀ b, av b → ¬ Mine tb D.tab p b
  b : Below w0.heap.size w0 w
  f : D.Few n
  n : n ≤ 100000
  lt : ∀ b, av b → b < w.heap.size
/-- the blocks of av stay as they are -/
structure Keeps (av : Nat → Prop) (w w' : World) : Prop where
  size : w.heap.size ≤ w'.heap.size
  block : ∀ b, b < w.heap.size → av b → w'.heap[b]? = w.heap[b]?
theorem Keeps.of_below {av : Nat → Prop} {w w' : World} (h : Below w.heap.size w w') : Keeps av w w' := ⟨h.size, fun b hb _ => h.block b hb⟩
theorem Keeps.trans {av : Nat → Prop} {w w1 w2 : World} (h : Keeps av w w1) (k : Keeps av w1 w2) : Keeps av w w2 := ⟨Nat.le_trans h.size k.size, fun b hb ha => (k.block b (Nat.lt_of_lt_of_le hb h.size) ha).trans (h.block b hb ha)⟩
theorem At.keeps {w w' : World} {B : Nat} {t : TypeId} {l : List Value} {av : Nat → Prop} (h : At w B t l) (k : Keeps av w w') (ha : av B) : At w' B t l := (k.block B h.lt ha).trans h
theorem Keeps.of_step {tb : Nat} {T T' : Tab} {p p' : Place} {w w' : World} (h : Step tb T p T' p' w w') {av : Nat → Prop} (ha : ∀ b, av b → ¬ Mine tb T p b) : Keeps av w w' := ⟨h.size, fun b hb q => h.block b hb (ha b q)⟩
theorem Holds.below {w0 w w' : World} {tb : Nat} {D : Doc} {n : Nat} {av : Nat → Prop} (h : Holds w0 w tb D n av) (b : Below w.heap.size w w') : Holds w0 w' tb D n av := by
  obtain ⟨p, dp, t, i, m, a⟩ := h.ex
  exact ⟨⟨p, dp, t.below b, i, m, a⟩, h.b.trans (b.mono h.b.size), h.f, h.n, fun x hx => Nat.lt_of_lt_of_le (h.lt x hx) b.size⟩
theorem Holds.sub {w0 w : World} {tb : Nat} {D : Doc} {n : Nat} {av av' : Nat → Prop} (h : Holds w0 w tb D n av) (k : ∀ b, av' b → av b) : Holds w0 w tb D n av' := by
  obtain ⟨p, dp, t, i, m, a⟩ := h.ex
  exact ⟨⟨p, dp, t, i, m, fun b hb => a b (k b hb)⟩, h.b, h.f, h.n, fun b hb => h.lt b (k b hb)⟩
theorem Holds.more {w0 w : World} {tb : Nat} {D : Doc} {n n' : Nat} {av : Nat → Prop} (h : Holds w0 w tb D n av) (k : n ≤ n') (k2 : n' ≤ 100000) : Holds w0 w tb D n' av := by
  obtain ⟨p, dp, t, i, m, a⟩ := h.ex
  exact ⟨⟨p, dp, t, i, ⟨Nat.le_trans m.1 k, fun j => Nat.le_trans (m.2 j) k⟩, a⟩, h.b, ⟨Nat.le_trans h.f.l k, Nat.le_trans h.f.e k⟩, k2, h.lt⟩
/-- blocks that came since are others -/
theorem Holds.fresh {w0 w w' : World} {tb : Nat} {D : Doc} {n : Nat} {av : Nat → Prop} (h : Holds w0 w tb D n av) (b : Below w.heap.size w w') : Holds w0 w' tb D n (fun x => av x ∨ (w.heap.size ≤ x ∧ x < w'.heap.size)) := by
  obtain ⟨p, dp, t, i, m, a⟩ := h.ex
  refine ⟨⟨p, dp, t.below b, i, m, fun x hx hm => ?_⟩, h.b.trans (b.mono h.b.size), h.f, h.n, fun x hx => ?_⟩
  · rcases hx with hx | hx
    · exact a x hx hm
    · have := t.mine_lt x hm; omega
  · rcases hx with hx | hx
    · exact Nat.lt_of_lt_of_le (h.lt x hx) b.size
    · exact hx.2
/-- other blocks are written -/
theorem Holds.touch {w0 w w' : World} {tb : Nat} {D : Doc} {n : Nat} {av : Nat → Prop} {ft : List Nat} (h : Holds w0 w tb D n av) (t : Touch ft w w') (k : ∀ b ∈ ft, av b ∧ w0.heap.size ≤ b) : Holds w0 w' tb D n av := by
  obtain ⟨p, dp, T, i, m, a⟩ := h.ex
  exact ⟨⟨p, dp, T.keep (fun b hm => t.block b (T.mine_lt b hm) (fun q => a b (k b q).1 hm)), i, m, a⟩, t.below h.b (fun b hb => (k b hb).2) (Nat.le_refl _), h.f, h.n, fun b hb => Nat.lt_of_lt_of_le (h.lt b hb) t.size⟩
theorem Holds.size {w0 w : World} {tb : Nat} {D : Doc} {n : Nat} {av : Nat → Prop} (h : Holds w0 w tb D n av) : w0.heap.size ≤ w.heap.size := h.b.size
theorem step_holds {w0 w w' : World} {tb : Nat} {D D' : Doc} {n : Nat} {av : Nat → Prop} {p p' : Place} {dp' : Int → Nat} (T : TabAt w0.heap.size w tb D.tab p) (b : Below w0.heap.size w0 w) (mm : p.n ≤ n ∧ ∀ k, p.m k ≤ n) (a : ∀ b, av b → ¬ Mine tb D.tab p b) (hav : ∀ b, av b → b < w.heap.size)
    (T' : TabAt w0.heap.size w' tb D'.tab p') (S : Step tb D.tab p D'.tab p' w w') (M : More p p') (I' : D'.Inv dp') (F' : D'.Few (n + 1)) (hn : n + 1 ≤ 100000) : Holds w0 w' tb D' (n + 1) av ∧ Keeps av w w' := by
  refine ⟨⟨⟨p', dp', T', I', ⟨by have := M.1; omega, fun k => by have := M.2 k; have := mm.2 k; omega⟩, fun x hx hm => ?_⟩, b.trans (S.below T b.size), F', hn, fun x hx => Nat.lt_of_lt_of_le (hav x hx) S.size⟩, Keeps.of_step S a⟩
  rcases S.mine x hm with q | q
  · exact a x hx q
  · have := hav x hx; omega
theorem holds_new (w0 w : World) (b0 : Below w0.heap.size w0 w) (av : Nat → Prop) (hav : ∀ b, av b → b < w.heap.size) (qi qb : Nat) (h1 : 1 ≤ qi) (h2 : qi ≤ 1048576) (h3 : qb ≤ 1073741824) :
    Calls Try.prog 7 #[.agg (quotaV (qi : Int) (qb : Int)).toArray] w fun e w' => ∃ tb, e = .returned (tabV tb) ∧ Holds w0 w' tb (newD qi qb) 1 av ∧ Keeps av w w' := by
  refine (new_any w qi qb h1 h2 h3).mono ?_
  rintro e w' ⟨tb, p, rfl, t, b, n1, m1⟩
  obtain ⟨q1, q2⟩ := new_doc h1 h2 h3
  rw [q1] at t
  refine ⟨tb, rfl, ⟨⟨p, _, t.low b0.size, q2, ⟨n1, fun k => Nat.le_trans (m1 k) (Nat.zero_le _)⟩, fun x hx hm => ?_⟩, b0.trans (b.mono b0.size), ⟨Nat.le_refl _, Nat.zero_le _⟩, by omega, fun x hx => Nat.lt_of_lt_of_le (hav x hx) b.size⟩, Keeps.of_below b⟩
  have := t.mine x hm
  have := hav x hx
  omega
def Doc.made (D : Doc) (d : Int) (s : List UInt8) (k m : Int) (dt : List UInt8) : Doc := if makeE D.tab d s k m dt = 0 then D.make d s k m dt else D
theorem max100 : (100000 : Nat) < maxLen := by unfold maxLen; omega
theorem holds_make {w0 w : World} {tb : Nat} {D : Doc} {n : Nat} {av : Nat → Prop} (h : Holds w0 w tb D n av) (hn : n + 1 ≤ 100000) (d : Int) (hd : (Lit.int .i64 d).wf = true) (s : List UInt8) (hs : s.length ≤ 1000000) (ha : Asc s) (k m : Int) (dt : List UInt8) (hdt : dt.length ≤ 1000000000000) :
    Calls Try.prog 15 #[tabV tb, .int .i64 d, .string (bs s), .int .i64 k, .int .i64 m, .string (bs dt)] w fun e w' => e = .returned (.tuple #[.int .i64 (if makeE D.tab d s k m dt = 0 then (D.L.length : Int) + 1 else 0), .int .i64 (makeE D.tab d s k m dt)]) ∧ Holds w0 w' tb (D.made d s k m dt) (n + 1) av ∧ Keeps av w w' := by
  obtain ⟨p, dp, t, i, mm, a⟩ := h.ex
  have hf := h.f
  have m1 := max100
  refine (make_any w0.heap.size w tb D.tab p t h.size (fair_doc i) d hd s hs ha k m dt (by show D.L.length ≤ _; have := hf.l; omega) hdt (none_doc D) (by have := mm.1; omega) (by have := mm.2 d; omega)).mono ?_
  rintro e w' ⟨rfl, p', t', s', m'⟩
  refine ⟨rfl, ?_⟩
  by_cases q : makeE D.tab d s k m dt = 0
  · obtain ⟨e1, dp', i'⟩ := make_doc i q
    have e2 : D.made d s k m dt = D.make d s k m dt := if_pos q
    rw [e1] at t' s'
    rw [e2]
    refine step_holds t h.b mm a h.lt t' s' m' i' ⟨?_, ?_⟩ hn
    · show (D.L ++ [_]).length ≤ _
      have := hf.l; simp; omega
    · show (D.E ++ [_]).length ≤ _
      have := hf.e; simp; omega
  · have e1 : makeT D.tab d s k m dt = D.tab := by unfold makeT; rw [if_pos q]
    have e2 : D.made d s k m dt = D := if_neg q
    rw [e1] at t' s'
    rw [e2]
    exact step_holds t h.b mm a h.lt t' s' m' i ⟨Nat.le_succ_of_le hf.l, Nat.le_succ_of_le hf.e⟩ hn
def Doc.linked (D : Doc) (d : Int) (s : List UInt8) (x : Int) : Doc := if linkE D.tab d s x = 0 then D.link d s x else D
theorem holds_link {w0 w : World} {tb : Nat} {D : Doc} {n : Nat} {av : Nat → Prop} (h : Holds w0 w tb D n av) (hn : n + 1 ≤ 100000) (d : Int) (hd : (Lit.int .i64 d).wf = true) (s : List UInt8) (hs : s.length ≤ 1000000) (ha : Asc s) (x : Int) (hx : (Lit.int .i64 x).wf = true) :
    Calls Try.prog 19 #[tabV tb, .int .i64 d, .string (bs s), .int .i64 x] w fun e w' => e = .returned (.int .i64 (linkE D.tab d s x)) ∧ Holds w0 w' tb (D.linked d s x) (n + 1) av ∧ Keeps av w w' := by
  obtain ⟨p, dp, t, i, mm, a⟩ := h.ex
  have hf := h.f
  have m1 := max100
  have hok := okay_doc i hf h.n
  refine (link_any w0.heap.size w tb D.tab p t d hd s hs ha x hx (fun k o ho => by have := hok.l k o ho; omega) (by have := mm.2 d; omega)).mono ?_
  rintro e w' ⟨rfl, p', t', s', m'⟩
  refine ⟨rfl, ?_⟩
  by_cases q : linkE D.tab d s x = 0
  · obtain ⟨e1, i'⟩ := link_doc i q
    have e2 : D.linked d s x = D.link d s x := if_pos q
    rw [e1] at t' s'
    rw [e2]
    refine step_holds t h.b mm a h.lt t' s' m' i' ⟨?_, ?_⟩ hn
    · exact Nat.le_succ_of_le hf.l
    · show (D.E ++ [_]).length ≤ _
      have := hf.e; simp; omega
  · have e1 : linkT D.tab d s x = D.tab := by unfold linkT; rw [if_pos q]
    have e2 : D.linked d s x = D := if_neg q
    rw [e1] at t' s'
    rw [e2]
    exact step_holds t h.b mm a h.lt t' s' m' i ⟨Nat.le_succ_of_le hf.l, Nat.le_succ_of_le hf.e⟩ hn
def Doc.unlinked (D : Doc) (d : Int) (s : List UInt8) : Doc := if unlinkE D.tab d s = 0 then (match D.find d s with | some x => D.unlink d s x | none => D) else D
theorem out_len (E : List Ent) (d : Int) (s : List UInt8) : (outE E d s).length ≤ E.length := List.length_filter_le _ _
theorem holds_unlink {w0 w : World} {tb : Nat} {D : Doc} {n : Nat} {av : Nat → Prop} (h : Holds w0 w tb D n av) (hn : n + 1 ≤ 100000) (d : Int) (hd : (Lit.int .i64 d).wf = true) (s : List UInt8) (hs : s.length ≤ maxLen) :
    Calls Try.prog 17 #[tabV tb, .int .i64 d, .string (bs s)] w fun e w' => e = .returned (.int .i64 (unlinkE D.tab d s)) ∧ Holds w0 w' tb (D.unlinked d s) (n + 1) av ∧ Keeps av w w' := by
  obtain ⟨p, dp, t, i, mm, a⟩ := h.ex
  have hf := h.f
  have m1 := max100
  have hok := okay_doc i hf h.n
  refine (unlink_any w0.heap.size w tb D.tab p t d hd s hs (fun k o ho => by have := hok.l k o ho; exact ⟨by omega, this.2.2⟩) (fair_doc i).b (hok.e d)).mono ?_
  rintro e w' ⟨rfl, p', t', s', m'⟩
  refine ⟨rfl, ?_⟩
  by_cases q : unlinkE D.tab d s = 0
  · obtain ⟨x, hx, e1, i'⟩ := unlink_doc i q
    have e2 : D.unlinked d s = D.unlink d s x := by unfold Doc.unlinked; rw [if_pos q, hx]
    rw [e1] at t' s'
    rw [e2]
    refine step_holds t h.b mm a h.lt t' s' m' i' ⟨?_, ?_⟩ hn
    · show (if _ then D.L.set _ _ else D.L).length ≤ _
      have := hf.l
      split <;> simp <;> omega
    · have := out_len D.E d s
      have := hf.e
      show (outE D.E d s).length ≤ _
      omega
  · have e1 : unlinkT D.tab d s = D.tab := by unfold unlinkT; rw [if_pos q]
    have e2 : D.unlinked d s = D := if_neg q
    rw [e1] at t' s'
    rw [e2]
    exact step_holds t h.b mm a h.lt t' s' m' i ⟨Nat.le_succ_of_le hf.l, Nat.le_succ_of_le hf.e⟩ hn
def Doc.moved (D : Doc) (dp : Int → Nat) (d : Int) (s : List UInt8) (t : Int) (a : List UInt8) : Doc := if moveE D.tab d s t a ≠ 0 then D else if t = d ∧ a = s then D else if moveF D.tab dp d s t a ≠ 0 then D else match D.find d s with
  | some x => D.move d s t a x
  | none => D
theorem holds_move {w0 w : World} {tb : Nat} {D : Doc} {n : Nat} {av : Nat → Prop} (h : Holds w0 w tb D n av) (hn : n + 1 ≤ 100000) (d : Int) (hd : (Lit.int .i64 d).wf = true) (s : List UInt8) (hs : s.length ≤ maxLen) (x : Int) (hx : (Lit.int .i64 x).wf = true) (a : List UInt8) (ha : a.length ≤ 1000000) (hasc : Asc a) :
    Calls Try.prog 16 #[tabV tb, .int .i64 d, .string (bs s), .int .i64 x, .string (bs a)] w fun e w' => ∃ dp, D.Inv dp ∧ e = .returned (.int .i64 (moveR D.tab dp d s x a)) ∧ Holds w0 w' tb (D.moved dp d s x a) (n + 1) av ∧ Keeps av w w' := by
  obtain ⟨p, dp, t, i, mm, av'⟩ := h.ex
  have hf := h.f
  have m1 := max100
  have hok := okay_doc i hf h.n
  refine (move_any w0.heap.size w tb D.tab p t d hd s hs x hx a ha hasc hok _ dp (lies_doc i hf h.n) (fun j hj h2 => ?_) (by have := mm.2 x; omega)).mono ?_
  · obtain ⟨r, hr, rfl⟩ := row_at hj
    exact isDir_row.mpr ⟨r, hr, h2⟩
  rintro e w' ⟨rfl, p', t', s', m'⟩
  refine ⟨dp, i, rfl, ?_⟩
  have stay : moveT D.tab dp d s x a = D.tab → D.moved dp d s x a = D → Holds w0 w' tb (D.moved dp d s x a) (n + 1) av ∧ Keeps av w w' := fun e1 e2 => by
    rw [e1] at t' s'
    rw [e2]
    exact step_holds t h.b mm av' h.lt t' s' m' i ⟨Nat.le_succ_of_le hf.l, Nat.le_succ_of_le hf.e⟩ hn
  by_cases q : moveE D.tab d s x a = 0
  · by_cases hs : x = d ∧ a = s
    · exact stay (by unfold moveT; simp [q, hs]) (by unfold Doc.moved; simp [q, hs])
    · by_cases q2 : moveF D.tab dp d s x a = 0
      · obtain ⟨y, hy, e1, dp', i'⟩ := move_doc i hf h.n q q2 hs
        have e2 : D.moved dp d s x a = D.move d s x a y := by unfold Doc.moved; simp [q, hs, q2, hy]
        rw [e1] at t' s'
        rw [e2]
        refine step_holds t h.b mm av' h.lt t' s' m' i' ⟨Nat.le_succ_of_le hf.l, ?_⟩ hn
        show (outE D.E d s ++ [_]).length ≤ _
        have := out_len D.E d s
        have := hf.e
        simp
        omega
      · exact stay (by unfold moveT; simp [q, hs, q2]) (by unfold Doc.moved; simp [q, hs, q2])
  · exact stay (by unfold moveT; simp [q]) (by unfold Doc.moved; simp [q])
def Doc.written (D : Doc) (x : Int) (dt : List UInt8) : Doc := if writeE D.tab x dt = 0 then D.write x dt else D
theorem put_len (D : Doc) (x : Int) (r : Row) : (D.put x r).L.length = D.L.length := by unfold Doc.put; simp
theorem holds_write {w0 w : World} {tb : Nat} {D : Doc} {n : Nat} {av : Nat → Prop} (h : Holds w0 w tb D n av) (hn : n + 1 ≤ 100000) (x : Int) (hx : (Lit.int .i64 x).wf = true) (dt : List UInt8) (hdt : dt.length ≤ 1000000000000) :
    Calls Try.prog 20 #[tabV tb, .int .i64 x, .string (bs dt)] w fun e w' => e = .returned (.int .i64 (writeE D.tab x dt)) ∧ Holds w0 w' tb (D.written x dt) (n + 1) av ∧ Keeps av w w' := by
  obtain ⟨p, dp, t, i, mm, a⟩ := h.ex
  have hf := h.f
  have hok := okay_doc i hf h.n
  refine (write_any w0.heap.size w tb D.tab p t (fair_doc i) x hx dt hdt (fun k o ho => (hok.l k o ho).2.2)).mono ?_
  rintro e w' ⟨rfl, t', s'⟩
  refine ⟨rfl, ?_⟩
  by_cases q : writeE D.tab x dt = 0
  · obtain ⟨e1, i'⟩ := write_doc i q
    have e2 : D.written x dt = D.write x dt := if_pos q
    rw [e1] at t' s'
    rw [e2]
    refine step_holds t h.b mm a h.lt t' s' (More.refl p) i' ?_ hn
    have h1 : (D.write x dt).L.length = D.L.length ∧ (D.write x dt).E = D.E := by
      unfold Doc.write
      cases D.row x with
      | none => exact ⟨rfl, rfl⟩
      | some r => exact ⟨put_len _ _ _, rfl⟩
    exact ⟨by rw [h1.1]; exact Nat.le_succ_of_le hf.l, by rw [h1.2]; exact Nat.le_succ_of_le hf.e⟩
  · have e1 : writeT D.tab x dt = D.tab := by unfold writeT; rw [if_pos q]
    have e2 : D.written x dt = D := if_neg q
    rw [e1] at t' s'
    rw [e2]
    exact step_holds t h.b mm a h.lt t' s' (More.refl p) i ⟨Nat.le_succ_of_le hf.l, Nat.le_succ_of_le hf.e⟩ hn
def Doc.chmoded (D : Doc) (x m : Int) : Doc := if chmodE D.tab x m = 0 then D.chmod x m else D
theorem holds_chmod {w0 w : World} {tb : Nat} {D : Doc} {n : Nat} {av : Nat → Prop} (h : Holds w0 w tb D n av) (hn : n + 1 ≤ 100000) (x : Int) (hx : (Lit.int .i64 x).wf = true) (m : Int) :
    Calls Try.prog 21 #[tabV tb, .int .i64 x, .int .i64 m] w fun e w' => e = .returned (.int .i64 (chmodE D.tab x m)) ∧ Holds w0 w' tb (D.chmoded x m) (n + 1) av ∧ Keeps av w w' := by
  obtain ⟨p, dp, t, i, mm, a⟩ := h.ex
  have hf := h.f
  refine (chmod_any w0.heap.size w tb D.tab p t x hx m).mono ?_
  rintro e w' ⟨rfl, t', s'⟩
  refine ⟨rfl, ?_⟩
  by_cases q : chmodE D.tab x m = 0
  · obtain ⟨e1, i'⟩ := chmod_doc i q
    have e2 : D.chmoded x m = D.chmod x m := if_pos q
    rw [e1] at t' s'
    rw [e2]
    refine step_holds t h.b mm a h.lt t' s' (More.refl p) i' ?_ hn
    have h1 : (D.chmod x m).L.length = D.L.length ∧ (D.chmod x m).E = D.E := by
      unfold Doc.chmod
      cases D.row x with
      | none => exact ⟨rfl, rfl⟩
      | some r => exact ⟨put_len _ _ _, rfl⟩
    exact ⟨by rw [h1.1]; exact Nat.le_succ_of_le hf.l, by rw [h1.2]; exact Nat.le_succ_of_le hf.e⟩
  · have e1 : chmodT D.tab x m = D.tab := by
      unfold chmodT
      by_cases z : modeE m = 0
      · cases hr : D.tab.f x with
        | none => simp
        | some o => exfalso; apply q; unfold chmodE; simp [z, hr]
      · simp [z]
    have e2 : D.chmoded x m = D := if_neg q
    rw [e1] at t' s'
    rw [e2]
    exact step_holds t h.b mm a h.lt t' s' (More.refl p) i ⟨Nat.le_succ_of_le hf.l, Nat.le_succ_of_le hf.e⟩ hn
theorem holds_find {w0 w : World} {tb : Nat} {D : Doc} {n : Nat} {av : Nat → Prop} (h : Holds w0 w tb D n av) (d : Int) (hd : (Lit.int .i64 d).wf = true) (s : List UInt8) (hs : s.length ≤ maxLen) :
    Calls Try.prog 12 #[tabV tb, .int .i64 d, .string (bs s)] w fun e w' => e = .returned (.tuple #[.int .i64 ((D.find d s).getD 0), .bool (D.find d s).isSome]) ∧ Below w.heap.size w w' := by
  obtain ⟨p, dp, t, i, _, _⟩ := h.ex
  have := find_any w0.heap.size w tb D.tab p t d hd s hs
  rw [findT_row i] at this
  exact this
theorem holds_node {w0 w : World} {tb : Nat} {D : Doc} {n : Nat} {av : Nat → Prop} (h : Holds w0 w tb D n av) (d : Int) (hd : (Lit.int .i64 d).wf = true) :
    Calls Try.prog 10 #[tabV tb, .int .i64 d] w fun e w' => e = .returned (.tuple #[.agg (toldV (D.ino d)).toArray, .bool (D.ino d).isSome]) ∧ Below w.heap.size w w' := by
  obtain ⟨p, dp, t, i, _, _⟩ := h.ex
  exact node_any w0.heap.size w tb D.tab p t d hd
theorem holds_up {w0 w : World} {tb : Nat} {D : Doc} {n : Nat} {av : Nat → Prop} (h : Holds w0 w tb D n av) (d : Int) (hd : (Lit.int .i64 d).wf = true) :
    Calls Try.prog 13 #[tabV tb, .int .i64 d] w fun e w' => e = .returned (.int .i64 (upT D.tab d)) ∧ Below w.heap.size w w' := by
  obtain ⟨p, dp, t, i, _, _⟩ := h.ex
  exact up_any w0.heap.size w tb D.tab p t d hd
theorem holds_used {w0 w : World} {tb : Nat} {D : Doc} {n : Nat} {av : Nat → Prop} (h : Holds w0 w tb D n av) :
    Calls Try.prog 8 #[tabV tb] w fun e w' => e = .returned (.agg (quotaV D.inodes D.bytes).toArray) ∧ Below w.heap.size w w' := by
  obtain ⟨p, dp, t, i, _, _⟩ := h.ex
  exact used_any w0.heap.size w tb D.tab p t
theorem holds_root {w0 w : World} {tb : Nat} {D : Doc} {n : Nat} {av : Nat → Prop} (h : Holds w0 w tb D n av) :
    Calls Try.prog 18 #[tabV tb] w fun e w' => e = .returned (.int .i64 1) ∧ w' = w := by
  obtain ⟨p, dp, t, i, _, _⟩ := h.ex
  exact root_any w0.heap.size w tb D.tab p t
theorem holds_quota {w0 w : World} {tb : Nat} {D : Doc} {n : Nat} {av : Nat → Prop} (h : Holds w0 w tb D n av) :
    Calls Try.prog 22 #[tabV tb] w fun e w' => e = .returned (.agg (quotaV D.qi D.qb).toArray) ∧ Below w.heap.size w w' := by
  obtain ⟨p, dp, t, i, _, _⟩ := h.ex
  exact quota_any w0.heap.size w tb D.tab p t
end Go.Proofs.Ytgifdmfnecombaa
