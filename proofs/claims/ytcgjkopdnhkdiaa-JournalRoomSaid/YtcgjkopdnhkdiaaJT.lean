/- Js, Jt, one behind the other. -/
import Derived.Test.YtcgjkopdnhkdiaaJr
namespace Go.Proofs.Ytcgjkopdnhkdiaa
open Go.RowKit
set_option maxRecDepth 100000
def Jn.new (p : Pl) : Jn := ⟨p, ⟨0, 0, 0⟩, 0, [], false⟩
/-- the two heads, as they are read -/
structure Heads where
  e1 : Int
  s1 : Dk
  r1 : List UInt8
  e2 : Int
  s2 : Dk
  r2 : List UInt8
def headsL (n : Nat) (s : Dk) (a : Nat) : Heads :=
  let s1 := s.readD n ((a + 0 : Nat) : Int)
  ⟨s.readE n ((a + 0 : Nat) : Int), s1, s.readS n ((a + 0 : Nat) : Int), s1.readE n ((a + 1 : Nat) : Int), s1.readD n ((a + 1 : Nat) : Int), s1.readS n ((a + 1 : Nat) : Int)⟩
/-- what an Open comes to -/
def openL (n : Nat) (s : Dk) (p : Pl) : Int × Dk × Jn :=
  let h := headsL n s p.at_
  let j1 := chosen h.r1 h.r2 (Jn.new p)
  let l := loadL n h.s2 j1
  if h.e1 ≠ 0 then (h.e1, h.s1, Jn.new p) else
  if h.e2 ≠ 0 then (h.e2, h.s2, Jn.new p) else
  if j1.hd.num = 0 then (12, h.s2, j1) else
  if l.1 ≠ 0 then l else
  ((mendL n l.2.1 l.2.2 h.r1 h.r2).1, (mendL n l.2.1 l.2.2 h.r1 h.r2).2, l.2.2)
structure JOk (p : Pl) (j : Jn) : Prop where
  pl : j.pl = p
  st : j.stands ≤ 1
  half : j.hd.half ≤ 1
  size : j.hd.size ≤ p.span * 128
theorem pick_ok {p : Pl} {j : Jn} (h : JOk p j) (f : List UInt8) (i : Nat) (hi : i ≤ 1) : JOk p (pick f i j) := by
  unfold pick
  split
  · rename_i hd hh
    split
    · obtain ⟨_, h2, h3, _⟩ := headL_num hh
      rw [h.pl] at h3
      exact ⟨h.pl, hi, h2, h3⟩
    · exact h
  · exact h
theorem chosen_ok (p : Pl) (f0 f1 : List UInt8) : JOk p (chosen f0 f1 (Jn.new p)) := by
  have h0 : JOk p (Jn.new p) := ⟨rfl, Nat.zero_le _, Nat.zero_le _, Nat.zero_le _⟩
  exact pick_ok (pick_ok h0 f0 0 (by decide)) f1 1 (by decide)
theorem load_ok {p : Pl} {j : Jn} (h : JOk p j) (n : Nat) (s : Dk) : JOk p (loadL n s j).2.2 := by
  unfold loadL
  simp only []
  split
  · exact ⟨h.pl, h.st, h.half, h.size⟩
  · exact h
theorem readAll_lot (n : Nat) : ∀ (c : Nat) (m : Nat) (s : Dk) (k : Nat) (acc : List UInt8), Lot m s → Lot (m + c) (readAll n c s k acc).2.1
  | 0, m, s, k, acc, h => h
  | c + 1, m, s, k, acc, h => by
    unfold readAll
    split
    · exact (readAll_lot n c (m + 1) _ _ _ (h.read n k)).mono (by omega)
    · exact (h.read n k).mono (by omega)
theorem load_lot {m n : Nat} {s : Dk} {j : Jn} (h : Lot m s) : Lot (m + j.count) (loadL n s j).2.1 := by
  have := readAll_lot n j.count m s j.first [] h
  unfold loadL
  simp only []
  split <;> exact this
section
variable {w0 w wS : World} {av : Nat → Prop} {D F N : Nat} {ao : Option Addr} {cap n : Nat} {s : Dk} {p : Pl} {b3 b8 bf bj bp i0 i1 B : Nat}
/-- what lies still while the steps are done -/
structure Laid5 (wS : World) (D F N : Nat) (ao : Option Addr) (p : Pl) (b3 b8 bf bj bp i0 i1 : Nat) : Prop where
  a3 : At wS b3 23 [.pointer (some ⟨D, 0, none⟩)]
  a8 : At wS b8 83 p.cells
  ap : At wS bp 52 [.pointer (some ⟨bj, 0, none⟩)]
  x0 : At wS i0 3 [.int .i64 0]
  x1 : At wS i1 3 [.int .i64 1]
  n3 : b3 ≠ D ∧ b3 ≠ bf ∧ b3 ≠ bj
  n8 : b8 ≠ D ∧ b8 ≠ bf ∧ b8 ≠ bj
  np : bp ≠ D ∧ bp ≠ bf ∧ bp ≠ bj
  m0 : i0 ≠ D ∧ i0 ≠ bf ∧ i0 ≠ bj
  m1 : i1 ≠ D ∧ i1 ≠ bf ∧ i1 ≠ bj
  nf : bf ∉ foot D F N ao
  nj : bj ∉ foot D F N ao
  fj : bf ≠ bj
/-- where the steps have come to -/
structure OA (wS : World) (D F N : Nat) (ao : Option Addr) (cap n : Nat) (bf bj : Nat) (t : Dk) (g : List UInt8 × List UInt8) (j : Jn) (x : World) : Prop where
  d : DiskAt x D F N ao cap n t
  f : At x bf 92 (fcells g)
  j : At x bj 87 j.cells
  t : Touch [D, bf, bj] wS x
def stRead (b3 b8 i bf : Nat) : St := ⟨54, #[], #[.pointer (some ⟨b3, 0, none⟩), .pointer (some ⟨b8, 0, none⟩), .pointer (some ⟨i, 0, none⟩), .pointer (some ⟨bf, 0, none⟩)]⟩
def stChoose (bp bf : Nat) : St := ⟨57, #[], #[.pointer (some ⟨bp, 0, none⟩), .pointer (some ⟨bf, 0, none⟩)]⟩
def stLoad (bj : Nat) : St := ⟨59, #[.pointer (some ⟨bj, 0, none⟩)], #[]⟩
def stMend (bp bf : Nat) : St := ⟨60, #[], #[.pointer (some ⟨bp, 0, none⟩), .pointer (some ⟨bf, 0, none⟩)]⟩
/-- how the steps end -/
def Opened (w0 w wS : World) (av : Nat → Prop) (n D bj bp : Nat) (O : Int × Dk × Jn) (r : Int) (x : World) : Prop :=
  r = O.1 ∧ Priv w0 x (fun i => i < wS.heap.size ∧ (av i ∨ w.heap.size ≤ i)) n D O.2.1 ∧ At x bj 87 O.2.2.cells ∧ Keeps av w x ∧ At x bp 52 [.pointer (some ⟨bj, 0, none⟩)]
theorem OA.opened {t : Dk} {g : List UInt8 × List UInt8} {j : Jn} {x : World} (h : OA wS D F N ao cap n bf bj t g j x) (hB : Below w0.heap.size w0 wS) (hw : Below w.heap.size w wS) (hv : ∀ i, av i → i < w.heap.size)
    (hf : ∀ i, i ∈ foot D F N ao → w0.heap.size ≤ i ∧ i < w.heap.size ∧ ¬ av i) (hbf : w.heap.size ≤ bf) (hbj : w.heap.size ≤ bj) (O : Int × Dk × Jn) (r : Int) (hr : r = O.1) (ho : O.2.1 = t) (hj : O.2.2 = j) (hap : At x bp 52 [.pointer (some ⟨bj, 0, none⟩)]) : Opened w0 w wS av n D bj bp O r x := by
  have hDf := hf D (by simp [foot])
  have hz := hw.size
  refine ⟨hr, ?_, by rw [hj]; exact h.j, fun i hi => ?_, hap⟩
  · rw [ho]
    refine ⟨fun i hi => Nat.lt_of_lt_of_le hi.1 h.t.size, F, N, ao, cap, h.d, h.t.below hB (fun i hi => by simp at hi; rcases hi with rfl | rfl | rfl <;> omega) (Nat.le_refl _), fun i hi => ⟨(hf i hi).1, fun e => ?_⟩⟩
    rcases e.2 with e | e
    · exact (hf i hi).2.2 e
    · have := (hf i hi).2.1; omega
  · have hlt := hv i hi
    rw [h.t.block i (by omega) (by simp; exact ⟨fun e => hDf.2.2 (e ▸ hi), by omega, by omega⟩), hw.block i hlt]
set_option maxHeartbeats 4000000 in
theorem open_steps (hL : Laid5 wS D F N ao p b3 b8 bf bj bp i0 i1) (hp : p.Ok) (hpD : p.D = D) (cells : List Value) (aB : At wS B 34 cells) (nB : B ≠ D ∧ B ≠ bf ∧ B ≠ bj) (hok : s.Ok n)
    (hB : Below w0.heap.size w0 wS) (hw : Below w.heap.size w wS) (hv : ∀ i, av i → i < w.heap.size) (hf : ∀ i, i ∈ foot D F N ao → w0.heap.size ≤ i ∧ i < w.heap.size ∧ ¬ av i) (hbf : w.heap.size ≤ bf) (hbj : w.heap.size ≤ bj) (hbjS : bj < wS.heap.size) (hbp : w.heap.size ≤ bp)
    (m : Nat) (hm : Lot m s) (hmx : m ≤ 800000) :
    Steps (fun x => At x B 34 cells) [stRead b3 b8 i0 bf, stRead b3 b8 i1 bf, stChoose bp bf, stLoad bj, stMend bp bf] (OA wS D F N ao cap n bf bj s ([], []) (Jn.new p)) (Opened w0 w wS av n D bj bp (openL n s p)) := by
  obtain ⟨h, hh⟩ : ∃ h, h = headsL n s p.at_ := ⟨_, rfl⟩
  obtain ⟨j1, hj1⟩ : ∃ j1, j1 = chosen h.r1 h.r2 (Jn.new p) := ⟨_, rfl⟩
  obtain ⟨l, hl⟩ : ∃ l, l = loadL n h.s2 j1 := ⟨_, rfl⟩
  have hO : openL n s p = if h.e1 ≠ 0 then (h.e1, h.s1, Jn.new p) else if h.e2 ≠ 0 then (h.e2, h.s2, Jn.new p) else if j1.hd.num = 0 then (12, h.s2, j1) else if l.1 ≠ 0 then l else ((mendL n l.2.1 l.2.2 h.r1 h.r2).1, (mendL n l.2.1 l.2.2 h.r1 h.r2).2, l.2.2) := by
    rw [hl, hj1, hh]; rfl
  have kept : ∀ {t g j x}, OA wS D F N ao cap n bf bj t g j x → ∀ {b T c}, At wS b T c → b ≠ D ∧ b ≠ bf ∧ b ≠ bj → At x b T c := fun h _ _ _ ha hn => ha.touch h.t (by simp; exact hn)
  have j1ok : JOk p j1 := by rw [hj1]; exact chosen_ok p _ _
  have lok : JOk p l.2.2 := by rw [hl]; exact load_ok j1ok n _
  have m1 : Lot (m + 1) h.s1 := by rw [hh]; exact hm.read n _
  have m2 : Lot (m + 2) h.s2 := by rw [hh]; exact (hm.read n _).read n _
  have hcnt : j1.count ≤ 4096 := by
    have := j1ok.size
    have := hp.s
    unfold Jn.count
    omega
  have m3 : Lot (m + 2 + 4096) l.2.1 := by rw [hl]; exact (load_lot m2).mono (by omega)
  have ok1 : h.s1.Ok n := by rw [hh]; exact readD_ok hok _
  have l1 : h.e1 = 0 → h.r1.length = 128 := by rw [hh]; exact readS_len hok _
  have l2 : h.e2 = 0 → h.r2.length = 128 := by
    rw [hh] at ok1 ⊢
    exact readS_len ok1 _
  have pre1 : (Jn.new p).pl = p := rfl
  have o0 := hm.ops
  have o1 := m1.ops
  refine ⟨fun x hx => kept hx aB nB, enters_of Try.func54 (by kernel_rfl) rfl, fun x => OA wS D F N ao cap n bf bj h.s1 (h.r1, []) (Jn.new p) x ∧ h.e1 = 0, ?_,
    fun x hx => kept hx.1 aB nB, enters_of Try.func54 (by kernel_rfl) rfl, fun x => OA wS D F N ao cap n bf bj h.s2 (h.r1, h.r2) (Jn.new p) x ∧ h.e1 = 0 ∧ h.e2 = 0, ?_,
    fun x hx => kept hx.1 aB nB, enters_of Try.func57 (by kernel_rfl) rfl, fun x => OA wS D F N ao cap n bf bj h.s2 (h.r1, h.r2) j1 x ∧ h.e1 = 0 ∧ h.e2 = 0 ∧ j1.hd.num ≠ 0, ?_,
    fun x hx => kept hx.1 aB nB, enters_of Try.func59 (by kernel_rfl) rfl, fun x => OA wS D F N ao cap n bf bj l.2.1 (h.r1, h.r2) l.2.2 x ∧ h.e1 = 0 ∧ h.e2 = 0 ∧ j1.hd.num ≠ 0 ∧ l.1 = 0, ?_,
    fun x hx => kept hx.1 aB nB, enters_of Try.func60 (by kernel_rfl) rfl, fun x => Opened w0 w wS av n D bj bp (openL n s p) 0 x, ?_, fun x hx => hx⟩
  · intro x hx
    refine (readStep0_any hx.d p hp b3 b8 i0 bf [] [] (kept hx hL.a3 hL.n3) (kept hx hL.a8 hL.n8) (kept hx hL.x0 hL.m0) hx.f hL.nf hL.n3.1 hL.n8.1 hL.m0.1 (fun e => hL.nf (by rw [e]; simp [foot])) hL.n3.2.1 hL.n8.2.1 hL.m0.2.1 (by omega)).mono ?_
    rintro e y ⟨rfl, d', f', t'⟩
    have hy : OA wS D F N ao cap n bf bj h.s1 (h.r1, []) (Jn.new p) y := by
      rw [hh]
      exact ⟨d', f', hx.j.touch t' (by simp; exact ⟨fun e => hL.nj (by rw [e]; simp [foot]), fun e => hL.fj e.symm⟩), hx.t.step t' (fun i hi => .inl (by simp at hi ⊢; rcases hi with hi | hi <;> simp [hi]))⟩
    have he : h.e1 = s.readE n ((p.at_ + 0 : Nat) : Int) := by rw [hh]; rfl
    rw [← he]
    refine ⟨_, rfl, fun hne => ?_, fun h0 => ⟨hy, h0⟩⟩
    have hOO : openL n s p = (h.e1, h.s1, Jn.new p) := by rw [hO, if_pos hne]
    rw [hOO]
    exact hy.opened hB hw hv hf hbf hbj _ _ rfl rfl rfl (kept hy hL.ap hL.np)
  · rintro x ⟨hx, he1⟩
    refine (readStep1_any hx.d p hp b3 b8 i1 bf h.r1 [] (kept hx hL.a3 hL.n3) (kept hx hL.a8 hL.n8) (kept hx hL.x1 hL.m1) hx.f hL.nf hL.n3.1 hL.n8.1 hL.m1.1 (fun e => hL.nf (by rw [e]; simp [foot])) hL.n3.2.1 hL.n8.2.1 hL.m1.2.1 (by omega)).mono ?_
    rintro e y ⟨rfl, d', f', t'⟩
    have es1 : h.s2 = h.s1.readD n ((p.at_ + 1 : Nat) : Int) := by rw [hh]; rfl
    have es2 : h.r2 = h.s1.readS n ((p.at_ + 1 : Nat) : Int) := by rw [hh]; rfl
    have he : h.e2 = h.s1.readE n ((p.at_ + 1 : Nat) : Int) := by rw [hh]; rfl
    rw [← es1] at d'
    rw [← es2] at f'
    rw [← he]
    have hy : OA wS D F N ao cap n bf bj h.s2 (h.r1, h.r2) (Jn.new p) y :=
      ⟨d', f', hx.j.touch t' (by simp; exact ⟨fun e => hL.nj (by rw [e]; simp [foot]), fun e => hL.fj e.symm⟩), hx.t.step t' (fun i hi => .inl (by simp at hi ⊢; rcases hi with hi | hi <;> simp [hi]))⟩
    refine ⟨_, rfl, fun hne => ?_, fun h0 => ⟨hy, he1, h0⟩⟩
    have hOO : openL n s p = (h.e2, h.s2, Jn.new p) := by rw [hO, if_neg (by simpa using he1), if_pos hne]
    rw [hOO]
    exact hy.opened hB hw hv hf hbf hbj _ _ rfl rfl rfl (kept hy hL.ap hL.np)
  · rintro x ⟨hx, he1, he2⟩
    refine (chooseFn_any bj bp bf (Jn.new p) h.r1 h.r2 hx.j (kept hx hL.ap hL.np) hx.f hp (l1 he1) (l2 he2)).mono ?_
    rintro e y ⟨rfl, h', t'⟩
    rw [← hj1] at h'
    rw [← hj1]
    have hy : OA wS D F N ao cap n bf bj h.s2 (h.r1, h.r2) j1 y :=
      ⟨theDisk_same hx.d (fun i hi => t'.block i (hx.d.lt i hi) (by simp; rintro rfl; exact hL.nj hi)), hx.f.touch t' (by simpa using hL.fj), h', hx.t.step t' (fun i hi => .inl (by simp at hi; simp [hi]))⟩
    refine ⟨_, rfl, fun hne => ?_, fun h0 => ⟨hy, he1, he2, ?_⟩⟩
    · by_cases hn : j1.hd.num = 0
      · have hOO : openL n s p = (12, h.s2, j1) := by rw [hO, if_neg (by simpa using he1), if_neg (by simpa using he2), if_pos hn]
        rw [hOO, if_pos hn]
        exact hy.opened hB hw hv hf hbf hbj _ _ rfl rfl rfl (kept hy hL.ap hL.np)
      · rw [if_neg hn] at hne; exact absurd rfl hne
    · intro hn
      rw [if_pos hn] at h0
      cases h0
  · rintro x ⟨hx, he1, he2, hn⟩
    refine (load_any' hx.d bj j1 hx.j hL.nj (by rw [j1ok.pl, hpD]) (by rw [j1ok.pl]; exact hp) j1ok.half (by rw [j1ok.pl]; exact j1ok.size) (m + 2) m2 (by omega)).mono ?_
    rintro e y ⟨rfl, d', h', t'⟩
    rw [← hl] at d' h'
    rw [← hl]
    have hy : OA wS D F N ao cap n bf bj l.2.1 (h.r1, h.r2) l.2.2 y :=
      ⟨d', hx.f.touch t' (by simp; exact ⟨fun e => hL.nf (by rw [e]; simp [foot]), hL.fj⟩), h', hx.t.step t' (fun i hi => .inl (by simp at hi ⊢; rcases hi with hi | hi <;> simp [hi]))⟩
    refine ⟨_, rfl, fun hne => ?_, fun h0 => ⟨hy, he1, he2, hn, h0⟩⟩
    have hOO : openL n s p = l := by rw [hO, if_neg (by simpa using he1), if_neg (by simpa using he2), if_neg hn, if_pos hne]
    rw [hOO]
    exact hy.opened hB hw hv hf hbf hbj _ _ rfl rfl rfl (kept hy hL.ap hL.np)
  · rintro x ⟨hx, he1, he2, hn, hl0⟩
    obtain ⟨_, hP, hJx, hK, hAP⟩ := hx.opened hB hw hv hf hbf hbj (0, l.2.1, l.2.2) 0 rfl rfl rfl (kept hx hL.ap hL.np)
    refine (mendFn_any hP bj bp bf l.2.2 h.r1 h.r2 hx.j (kept hx hL.ap hL.np) hx.f ⟨hbjS, .inr hbj⟩ (by rw [lok.pl, hpD]) (by rw [lok.pl]; exact hp) lok.st (l1 he1) (l2 he2) (m + 2 + 4096) m3 (by omega)).mono ?_
    rintro e y ⟨rfl, hP', hK'⟩
    have hOO : openL n s p = ((mendL n l.2.1 l.2.2 h.r1 h.r2).1, (mendL n l.2.1 l.2.2 h.r1 h.r2).2, l.2.2) := by rw [hO, if_neg (by simpa using he1), if_neg (by simpa using he2), if_neg hn, if_neg (by simpa using hl0)]
    have hend : Opened w0 w wS av n D bj bp (openL n s p) (mendL n l.2.1 l.2.2 h.r1 h.r2).1 y := by
      rw [hOO]
      refine ⟨rfl, hP', hK'.at hJx ⟨hbjS, .inr hbj⟩, fun i hi => (hK' i ⟨Nat.lt_of_lt_of_le (hv i hi) hw.size, .inl hi⟩).trans (hK i hi), hK'.at hAP ⟨hL.ap.lt, .inr hbp⟩⟩
    refine ⟨_, rfl, fun _ => hend, fun h0 => by rw [h0] at hend; exact hend⟩
end
end Go.Proofs.Ytcgjkopdnhkdiaa

namespace Go.Proofs.Ytcgjkopdnhkdiaa
open Go.RowKit
set_option maxRecDepth 100000
theorem zero_jn : ∀ w, (zeroValue 87).run Try.prog w = .ok (.agg #[.pointer none, .int .i64 0, .int .i64 0, .int .u64 0, .int .i64 0, .int .i64 0, .int .i64 0, .string ⟨#[]⟩, .bool false]) w := fun _ => by kernel_rfl
theorem build_jn {o : Oper} {a : Act} {w : World} (x : Operand) (ho : o.op = .build 87 #[(0, x)]) (p : Pl) (hx : a.eval x = p.v) : (execOp a.eval o).run Try.prog w = .ok (.value (.agg (Jn.new p).cells.toArray)) w := by
  have hz := zero_jn w
  unfold execOp
  simp only [ho, List.map_toArray, List.map_cons, List.map_nil, hx]
  simp [go_sem, hz, Pl.v, Pl.cells, Jn.new, Jn.cells, bs]
def openV (r : Int) (J : Nat) : Value := .tuple #[if r = 0 then .pointer (some ⟨J, 0, none⟩) else .pointer none, .int .i64 r]
theorem zero_f2 : ∀ w, (zeroValue 92).run Try.prog w = .ok (.agg #[.string ⟨#[]⟩, .string ⟨#[]⟩]) w := fun _ => by kernel_rfl
theorem build_five {P : Program} (w : World) (t e : TypeId) (v0 v1 v2 v3 v4 : Value) (ie : TypeInfo) (z : Value) (hu : P.underlying t = some (.slice e)) (hie : P.info? e = some ie) (hz : ie.zero = some z) (hn : ie.size = 1) (h0 : v0.cells = #[v0]) (h1 : v1.cells = #[v1]) (h2 : v2.cells = #[v2]) (h3 : v3.cells = #[v3]) (h4 : v4.cells = #[v4]) :
    (Instr.buildSlice t 5 #[(0, v0), (1, v1), (2, v2), (3, v3), (4, v4)]).run P w = .ok (.slice (some ⟨w.heap.size, 0, none⟩) 5 5) (w.alloc (.cells #[v0, v1, v2, v3, v4] e)) := by
  refine run_buildSlice w t e 5 #[(0, v0), (1, v1), (2, v2), (3, v3), (4, v4)] #[v0, v1, v2, v3, v4] ie z hu hie hz (by rw [hn]; omega) (by rw [hn]; omega) ?_
  have hsz : ((Array.range (5 * ie.size)).map (z.cells[· % z.cells.size]!)).size = 5 := by rw [Array.size_map, Array.size_range, hn]
  generalize (Array.range (5 * ie.size)).map (z.cells[· % z.cells.size]!) = Z at *
  obtain ⟨l, rfl⟩ : ∃ l : List Value, Z = l.toArray := ⟨Z.toList, by simp⟩
  match l, hsz with
  | [x, y, u, v, q], _ => simp [Instr.fill, h0, h1, h2, h3, h4, hn]
theorem run_build5_op {P : Program} {o : Oper} {a : Act} {w w1 : World} (t : TypeId) (x y u p q : Operand) (ho : o.op = .buildSlice t 5 #[(0, x), (1, y), (2, u), (3, p), (4, q)]) (v0 v1 v2 v3 v4 : Value) (hx : a.eval x = v0) (hy : a.eval y = v1) (hu : a.eval u = v2) (hp : a.eval p = v3) (hq : a.eval q = v4) {z : Value} (hr : (Instr.buildSlice t 5 #[(0, v0), (1, v1), (2, v2), (3, v3), (4, v4)]).run P w = .ok z w1) : (execOp a.eval o).run P w = .ok (.value z) w1 := by
  unfold execOp
  simp only [ho, List.map_toArray, List.map_cons, List.map_nil, hx, hy, hu, hp, hq, Sem.run_bind, hr, Result.andThen_ok]
  rfl
theorem enter_readFn : ∀ (args : Array Value) (w : World), (callFunc 53 args).run Try.prog w = .ok (.enter 53 args) w := enters_of Try.func53 (by kernel_rfl) rfl
set_option maxHeartbeats 2000000 in
theorem open_bad (d : Option Addr) (x y : Int) (r : Int) (hr : (r == 0) = false) (w : World) (hc : ∀ w', Below w.heap.size w w' → Calls Try.prog 52 #[.pointer d, .int .i64 x, .int .i64 y] w' fun e w2 => e = .returned (.tuple #[noPl, .int .i64 r]) ∧ Below w'.heap.size w' w2) :
    Calls Try.prog 33 #[.pointer d, .int .i64 x, .int .i64 y] w fun e w' => e = .returned (.tuple #[.pointer none, .int .i64 r]) ∧ Below w.heap.size w w' := by
  have hr2 : (r != 0) = true := by unfold bne; rw [hr]; rfl
  have b0 := (Below.refl w.heap.size w).alloc (Nat.le_refl _) (.cells #[.pointer d] 23)
  have c3 := (At.new w #[.pointer d] 23).cell 0 _ rfl
  have hz0 : (w.alloc (.cells #[.pointer d] 23)).heap.size = w.heap.size + 1 := World.size_alloc _ _
  have HC := Lib.hid (hc _ b0)
  have Z0 := Lib.hid hz0
  have B0 := Lib.hid b0
  clear hc hz0 b0
  go_enter Try.func33, Try.ntmps33
  go_wp2_with fail
  refine (HC.out).mono ?_
  rintro e w1 ⟨rfl, b1⟩
  have hz0 := Z0.out
  have hz1 := b1.size
  have hb1 := B0.out.trans (b1.mono (by omega))
  obtain ⟨s1, s2, s3, s4⟩ := store_new w1 #[Value.pointer none, .int .i64 0, .int .i64 0] #[Value.pointer none, .int .i64 0, .int .i64 0] 83 rfl
  have HTH := Lib.hid s1
  have HE := Lib.hid (Touch.below hb1 s3 (by simp) (Nat.le_refl _))
  clear s1 s2 s3 s4 HC hz0 hz1 Z0 B0 c3 hb1 b1
  unfold noPl
  go_wp2_with (first | (with_reducible refine alloc_agg rfl 83 rfl #[Value.pointer none, .int .i64 0, .int .i64 0] zero_pl ?_) | (with_reducible refine wpList_store_mid rfl 83 (.tmp 8) (.tmp 18) rfl w1.heap.size 0 #[Value.pointer none, .int .i64 0, .int .i64 0] (by kernel_rfl) (by kernel_rfl) HTH.out (by kernel_rfl) noPl_all ?_))
  go_ret2
  exact ⟨rfl, HE.out⟩
section
variable {w0 w : World} {av : Nat → Prop} {n D : Nat} {s : Dk}
set_option maxHeartbeats 16000000 in
theorem open_ok (h : Priv w0 w av n D s) (a k sp : Nat) (hsp : sp = (k - 2) / 2) (hn : n ≤ 4096) (hk : 4 ≤ k) (hb : a + k ≤ n) (m : Nat) (hm : Lot m s) (hmx : m ≤ 800000) :
    Calls Try.prog 33 #[.pointer (some ⟨D, 0, none⟩), .int .i64 (a : Int), .int .i64 (k : Int)] w fun e w' => ∃ J, w.heap.size ≤ J ∧ e = .returned (openV (openL n s ⟨D, a, sp⟩).1 J) ∧
      Priv w0 w' (fun i => av i ∨ i = J) n D (openL n s ⟨D, a, sp⟩).2.1 ∧ At w' J 87 (openL n s ⟨D, a, sp⟩).2.2.cells ∧ Keeps av w w' := by
  have hpl : (Pl.mk D a sp).Ok := ⟨by show a ≤ 4096; omega, by show sp ≤ 4096; omega⟩
  have b0 := (Below.refl w.heap.size w).alloc (Nat.le_refl _) (.cells #[.pointer (some ⟨D, 0, none⟩)] 23)
  have a3 := At.new w #[.pointer (some ⟨D, 0, none⟩)] 23
  have hz0 : (w.alloc (.cells #[.pointer (some ⟨D, 0, none⟩)] 23)).heap.size = w.heap.size + 1 := World.size_alloc _ _
  have hc := place_ok (h.below b0).1 a k sp hn hk hb hsp
  have c3 := a3.cell 0 _ rfl
  have HC := Lib.hid hc
  have H := Lib.hid h
  have HM := Lib.hid hm
  have A3 := Lib.hid a3
  have B0 := Lib.hid b0
  have Z0 := Lib.hid hz0
  obtain ⟨O, hO⟩ : ∃ O, O = openL n s ⟨D, a, sp⟩ := ⟨_, rfl⟩
  rw [← hO]
  have HOO := Lib.hid hO
  clear hc h hm hsp a3 b0 hz0 hO
  go_enter Try.func33, Try.ntmps33
  go_wp2_with fail
  refine (HC.out).mono ?_
  rintro e w1 ⟨rfl, b1⟩
  have hz1 := b1.size
  have hz0 := Z0.out
  obtain ⟨s1, s2, s3, s4⟩ := store_new w1 #[Value.pointer none, .int .i64 0, .int .i64 0] (Pl.cells ⟨D, a, sp⟩).toArray 83 rfl
  have h2 := Touch.below (B0.out.trans (b1.mono (by omega))) s3 (by simp) (Nat.le_refl _)
  have HTH := Lib.hid s1
  have A8 := Lib.hid s2
  have B2 := Lib.hid h2
  have Z2 := Lib.hid s4
  have A3' := Lib.hid ((A3.out.below b1 A3.out.lt).touch s3 (by simp))
  have hwz : w.heap.size + 1 ≤ w1.heap.size := by omega
  clear s1 s2 s3 s4 HC h2 hz0 hz1 Z0 b1 A3 B0 c3
  unfold Pl.v
  go_wp2_with (first | (with_reducible refine alloc_agg rfl 83 rfl #[Value.pointer none, .int .i64 0, .int .i64 0] zero_pl ?_) | (with_reducible refine wpList_store_mid rfl 83 (.tmp 8) (.tmp 18) rfl w1.heap.size 0 (Pl.cells ⟨D, a, sp⟩).toArray (by kernel_rfl) (by kernel_rfl) HTH.out (by kernel_rfl) (Pl.all _) ?_) | (with_reducible refine hold_at 23 rfl ?_))
  unfold held
  generalize hb8 : w1.heap.size = b8 at *
  generalize (w1.alloc (.cells #[Value.pointer none, .int .i64 0, .int .i64 0] 83)).setCells b8 0 (Pl.cells ⟨D, a, sp⟩) = w2 at *
  have hrg := A8.out.range0
  have HRG := Lib.hid hrg
  clear hrg HTH
  go_wp2_with (first | (with_reducible refine wpList_load_mid rfl 83 (.tmp 8) rfl b8 0 (by kernel_rfl) (Pl.cells ⟨D, a, sp⟩) _ HRG.out Try.underlying83 rfl (by kernel_rfl) ?_) | (with_reducible refine list_val rfl (build_jn (.tmp 23) rfl ⟨D, a, sp⟩ (by kernel_rfl)) ?_) | (with_reducible refine alloc_agg rfl 92 rfl #[.string ⟨#[]⟩, .string ⟨#[]⟩] zero_f2 ?_))
  generalize hb9 : w2.heap.size = b9 at *
  have aj := ((At.new w2 (Jn.new ⟨D, a, sp⟩).cells.toArray 87).alloc (.cells #[.pointer (some ⟨b9, 0, none⟩)] 52)).alloc (.cells #[.string ⟨#[]⟩, .string ⟨#[]⟩] 92)
  have ap := (At.new (w2.alloc (.cells (Jn.new ⟨D, a, sp⟩).cells.toArray 87)) #[.pointer (some ⟨b9, 0, none⟩)] 52).alloc (.cells #[.string ⟨#[]⟩, .string ⟨#[]⟩] 92)
  have af := At.new ((w2.alloc (.cells (Jn.new ⟨D, a, sp⟩).cells.toArray 87)).alloc (.cells #[.pointer (some ⟨b9, 0, none⟩)] 52)) #[.string ⟨#[]⟩, .string ⟨#[]⟩] 92
  rw [World.size_alloc, hb9] at ap
  rw [World.size_alloc, World.size_alloc, hb9] at af
  rw [hb9] at aj
  have a3 := ((A3'.out.alloc (.cells (Jn.new ⟨D, a, sp⟩).cells.toArray 87)).alloc (.cells #[.pointer (some ⟨b9, 0, none⟩)] 52)).alloc (.cells #[.string ⟨#[]⟩, .string ⟨#[]⟩] 92)
  have a8 := ((A8.out.alloc (.cells (Jn.new ⟨D, a, sp⟩).cells.toArray 87)).alloc (.cells #[.pointer (some ⟨b9, 0, none⟩)] 52)).alloc (.cells #[.string ⟨#[]⟩, .string ⟨#[]⟩] 92)
  have hz2 := Z2.out
  have hB5 := ((B2.out.alloc B2.out.size (.cells (Jn.new ⟨D, a, sp⟩).cells.toArray 87)).alloc (by rw [World.size_alloc]; have := B2.out.size; omega) (.cells #[.pointer (some ⟨b9, 0, none⟩)] 52)).alloc (by rw [World.size_alloc, World.size_alloc]; have := B2.out.size; omega) (.cells #[.string ⟨#[]⟩, .string ⟨#[]⟩] 92)
  have hz5 : (((w2.alloc (.cells (Jn.new ⟨D, a, sp⟩).cells.toArray 87)).alloc (.cells #[.pointer (some ⟨b9, 0, none⟩)] 52)).alloc (.cells #[.string ⟨#[]⟩, .string ⟨#[]⟩] 92)).heap.size = b9 + 3 := by rw [World.size_alloc, World.size_alloc, World.size_alloc, hb9]
  generalize ((w2.alloc (.cells (Jn.new ⟨D, a, sp⟩).cells.toArray 87)).alloc (.cells #[.pointer (some ⟨b9, 0, none⟩)] 52)).alloc (.cells #[.string ⟨#[]⟩, .string ⟨#[]⟩] 92) = w5 at *
  generalize hb3 : w.heap.size = b3 at *
  clear HRG A3' A8 B2 Z2 hb9 hb8
  refine region_any (fun W => W.cell? ⟨b9 + 1, 0, none⟩ = some (.pointer (some ⟨b9, 0, none⟩))) 11 (by kernel_rfl) ?_
  have S0 : (fun W => W.cell? ⟨b9 + 1, 0, none⟩ = some (.pointer (some ⟨b9, 0, none⟩))) w5.drew := ap.drew.cell 0 _ rfl
  refine wpAnyT_takeN (i := 0) (v := (.func (.func 53) #[] #[.pointer (some ⟨b3, 0, none⟩), .pointer (some ⟨b8, 0, none⟩), .pointer (some ⟨b9 + 1 + 1, 0, none⟩)])) rfl (by decide) (by kernel_rfl) (by kernel_rfl) (by kernel_rfl) (fun _ _ _ h => h) (.inl ⟨by kernel_rfl, fun W hS => by kernel_rfl⟩) S0 ?_
  refine wpAnyT_takeN (i := 2) (v := (.func (.func 53) #[] #[.pointer (some ⟨b3, 0, none⟩), .pointer (some ⟨b8, 0, none⟩), .pointer (some ⟨b9 + 1 + 1, 0, none⟩)])) rfl (by decide) (by kernel_rfl) (by kernel_rfl) (by kernel_rfl) (fun _ _ _ h => h) (.inl ⟨by kernel_rfl, fun W hS => by kernel_rfl⟩) S0 ?_
  refine wpAnyT_takeN (i := 4) (v := (stChoose (b9 + 1) (b9 + 1 + 1)).v) rfl (by decide) (by kernel_rfl) (by kernel_rfl) (by kernel_rfl) (fun _ _ _ h => h) (.inl ⟨by kernel_rfl, fun W hS => by kernel_rfl⟩) S0 ?_
  refine wpAnyT_takeN (i := 5) (v := (.pointer (some ⟨b9, 0, none⟩))) rfl (by decide) (by kernel_rfl) (by kernel_rfl) (by kernel_rfl) (fun _ _ _ h => h) (.inl ⟨by kernel_rfl, fun W hS => run_load_one 52 (.tmp 10) rfl ⟨b9 + 1, 0, none⟩ (by kernel_rfl) _ hS _ Try.underlying52 rfl⟩) S0 ?_
  refine wpAnyT_takeN (i := 6) (v := (stLoad b9).v) rfl (by decide) (by kernel_rfl) (by kernel_rfl) (by kernel_rfl) (fun _ _ _ h => h) (.inl ⟨by kernel_rfl, fun W hS => by kernel_rfl⟩) S0 ?_
  refine wpAnyT_takeN (i := 7) (v := (stMend (b9 + 1) (b9 + 1 + 1)).v) rfl (by decide) (by kernel_rfl) (by kernel_rfl) (by kernel_rfl) (fun _ _ _ h => h) (.inl ⟨by kernel_rfl, fun W hS => by kernel_rfl⟩) S0 ?_
  refine wpAnyT_all (rs := [1]) (by kernel_rfl) (by simp) ?_
  intro q hq
  obtain rfl : q = 1 := by simpa using hq
  refine wpOp_call rfl (by kernel_rfl) 53 #[.int .i64 ((0 : Nat) : Int), .pointer (some ⟨b3, 0, none⟩), .pointer (some ⟨b8, 0, none⟩), .pointer (some ⟨b9 + 1 + 1, 0, none⟩)] (run_call_val rfl #[] #[.pointer (some ⟨b3, 0, none⟩), .pointer (some ⟨b8, 0, none⟩), .pointer (some ⟨b9 + 1 + 1, 0, none⟩)] (by kernel_rfl) enter_readFn _ (by kernel_rfl)) ((readFn_any 0 b3 b8 (b9 + 1 + 1) w5.drew).mono ?_)
  rintro e v1 ⟨rfl, hv1⟩
  have hs1 : v1.heap.size = b9 + 4 := by rw [hv1, World.size_alloc]; show w5.heap.size + 1 = _; omega
  have x0 : At v1 w5.drew.heap.size 3 [.int .i64 0] := by rw [hv1]; exact At.new w5.drew _ _
  have ap1 : At v1 (b9 + 1) 52 [.pointer (some ⟨b9, 0, none⟩)] := by rw [hv1]; exact ap.drew.alloc _
  have g1 : Below w5.drew.heap.size w5.drew v1 := by rw [hv1]; exact (Below.refl _ _).alloc (Nat.le_refl _) _
  have hs0 : w5.drew.heap.size = b9 + 3 := hz5
  rw [hs0] at x0
  refine ⟨_, rfl, fun _ => ap1.cell 0 _ rfl, ?_⟩
  refine wpAnyT_all (rs := [3]) (by kernel_rfl) (by simp) ?_
  intro q hq
  obtain rfl : q = 3 := by simpa using hq
  refine wpOp_call rfl (by kernel_rfl) 53 #[.int .i64 ((1 : Nat) : Int), .pointer (some ⟨b3, 0, none⟩), .pointer (some ⟨b8, 0, none⟩), .pointer (some ⟨b9 + 1 + 1, 0, none⟩)] (run_call_val rfl #[] #[.pointer (some ⟨b3, 0, none⟩), .pointer (some ⟨b8, 0, none⟩), .pointer (some ⟨b9 + 1 + 1, 0, none⟩)] (by kernel_rfl) enter_readFn _ (by kernel_rfl)) ((readFn_any 1 b3 b8 (b9 + 1 + 1) v1).mono ?_)
  rintro e v2 ⟨rfl, hv2⟩
  have hs2 : v2.heap.size = b9 + 5 := by rw [hv2, World.size_alloc]; omega
  have x1 : At v2 v1.heap.size 3 [.int .i64 1] := by rw [hv2]; exact At.new v1 _ _
  have ap2 : At v2 (b9 + 1) 52 [.pointer (some ⟨b9, 0, none⟩)] := by rw [hv2]; exact ap1.alloc _
  have g2 : Below v1.heap.size v1 v2 := by rw [hv2]; exact (Below.refl _ _).alloc (Nat.le_refl _) _
  rw [hs1] at x1
  refine ⟨_, rfl, fun _ => ap2.cell 0 _ rfl, ?_⟩
  obtain ⟨iw, hiw, hq0, hq1, hqb⟩ := info_parts info_fn
  refine wpAnyT_all (rs := [8]) (by kernel_rfl) (by simp) ?_
  intro q hq
  obtain rfl : q = 8 := by simpa using hq
  refine wpOp_val rfl (by kernel_rfl) (run_build5_op 111 (.tmp 28) (.tmp 30) (.tmp 31) (.tmp 33) (.tmp 34) rfl (stRead b3 b8 (b9 + 3) (b9 + 1 + 1)).v (stRead b3 b8 (b9 + 4) (b9 + 1 + 1)).v (stChoose (b9 + 1) (b9 + 1 + 1)).v (stLoad b9).v (stMend (b9 + 1) (b9 + 1 + 1)).v (by rw [← hs0]; kernel_rfl) (by rw [← hs1]; kernel_rfl) (by kernel_rfl) (by kernel_rfl) (by kernel_rfl) (build_five v2 111 34 _ _ _ _ _ iw _ Try.underlying111 hiw hq0 hq1 rfl rfl rfl rfl rfl)) ⟨fun _ => (ap2.alloc _).cell 0 _ rfl, ?_⟩
  have aB := At.new v2 #[(stRead b3 b8 (b9 + 3) (b9 + 1 + 1)).v, (stRead b3 b8 (b9 + 4) (b9 + 1 + 1)).v, (stChoose (b9 + 1) (b9 + 1 + 1)).v, (stLoad b9).v, (stMend (b9 + 1) (b9 + 1 + 1)).v] 34
  have G5 : Below w5.drew.heap.size w5.drew (v2.alloc (.cells #[(stRead b3 b8 (b9 + 3) (b9 + 1 + 1)).v, (stRead b3 b8 (b9 + 4) (b9 + 1 + 1)).v, (stChoose (b9 + 1) (b9 + 1 + 1)).v, (stLoad b9).v, (stMend (b9 + 1) (b9 + 1 + 1)).v] 34)) := ((g1.trans (g2.mono (by omega))).alloc (by omega) _)
  have y0 := (x0.below g2 (by omega)).alloc (.cells #[(stRead b3 b8 (b9 + 3) (b9 + 1 + 1)).v, (stRead b3 b8 (b9 + 4) (b9 + 1 + 1)).v, (stChoose (b9 + 1) (b9 + 1 + 1)).v, (stLoad b9).v, (stMend (b9 + 1) (b9 + 1 + 1)).v] 34)
  have y1 := x1.alloc (.cells #[(stRead b3 b8 (b9 + 3) (b9 + 1 + 1)).v, (stRead b3 b8 (b9 + 4) (b9 + 1 + 1)).v, (stChoose (b9 + 1) (b9 + 1 + 1)).v, (stLoad b9).v, (stMend (b9 + 1) (b9 + 1 + 1)).v] 34)
  have yp := ap2.alloc (.cells #[(stRead b3 b8 (b9 + 3) (b9 + 1 + 1)).v, (stRead b3 b8 (b9 + 4) (b9 + 1 + 1)).v, (stChoose (b9 + 1) (b9 + 1 + 1)).v, (stLoad b9).v, (stMend (b9 + 1) (b9 + 1 + 1)).v] 34)
  have hsB : (v2.alloc (.cells #[(stRead b3 b8 (b9 + 3) (b9 + 1 + 1)).v, (stRead b3 b8 (b9 + 4) (b9 + 1 + 1)).v, (stChoose (b9 + 1) (b9 + 1 + 1)).v, (stLoad b9).v, (stMend (b9 + 1) (b9 + 1 + 1)).v] 34)).heap.size = b9 + 6 := by rw [World.size_alloc]; omega
  rw [hs2] at aB
  generalize v2.alloc (.cells #[(stRead b3 b8 (b9 + 3) (b9 + 1 + 1)).v, (stRead b3 b8 (b9 + 4) (b9 + 1 + 1)).v, (stChoose (b9 + 1) (b9 + 1 + 1)).v, (stLoad b9).v, (stMend (b9 + 1) (b9 + 1 + 1)).v] 34) = wS at *
  have y3 := a3.drew.below G5 (by omega)
  have y8 := a8.drew.below G5 (by omega)
  have yf := af.drew.below G5 (by omega)
  have yj := aj.drew.below G5 (by omega)
  have hPG : Below w.heap.size w wS := by rw [hb3]; exact hB5.drew.trans (G5.mono (by omega))
  obtain ⟨hl, F, N, ao, cap, hd, hB, hf⟩ := H.out
  have hfl := hd.lt
  have hDl := hfl D (by simp [foot])
  have hlaid : Laid5 wS D F N ao ⟨D, a, sp⟩ b3 b8 (b9 + 1 + 1) b9 (b9 + 1) (b9 + 3) (b9 + 4) :=
    ⟨y3, y8, yp, y0, y1, by omega, by omega, by omega, by omega, by omega, fun hi => by have := hfl _ hi; omega, fun hi => by have := hfl _ hi; omega, by omega⟩
  have hOA : OA wS D F N ao cap n (b9 + 1 + 1) b9 s ([], []) (Jn.new ⟨D, a, sp⟩) wS := ⟨hd.below hPG, yf, yj, Touch.refl _ _⟩
  have hsteps := open_steps (cap := cap) hlaid hpl rfl _ aB (by omega) hd.ok (hB.trans (hPG.mono hB.size)) hPG hl (fun i hi => ⟨(hf i hi).1, hfl i hi, (hf i hi).2⟩) (by omega) (by omega) (by omega) (by omega) m HM.out hmx
  refine wpAnyT_all (rs := [9]) (by kernel_rfl) (by simp) ?_
  intro q hq
  obtain rfl : q = 9 := by simpa using hq
  refine wpOp_call rfl (by kernel_rfl) 56 #[.slice (some ⟨b9 + 5, 0, none⟩) 5 5] (run_call_func rfl enter_inOrder _ (by rw [← hs2]; kernel_rfl)) ((inOrder_any (b9 + 5) 5 [stRead b3 b8 (b9 + 3) (b9 + 1 + 1), stRead b3 b8 (b9 + 4) (b9 + 1 + 1), stChoose (b9 + 1) (b9 + 1 + 1), stLoad b9, stMend (b9 + 1) (b9 + 1 + 1)] [] (by simp) _ _ hsteps wS hOA).mono ?_)
  rintro e x ⟨r, rfl, hr, hP, hJ, hK, hap⟩
  refine ⟨_, rfl, fun _ => hap.cell 0 _ rfl, ?_⟩
  refine wpAnyT_takeN (i := 10) (v := (.int .i64 r)) rfl (by decide) (by kernel_rfl) (by kernel_rfl) (by kernel_rfl) (fun _ _ _ h => h) (.inl ⟨by kernel_rfl, fun W hS => by kernel_rfl⟩) (hap.cell 0 _ rfl) ?_
  refine wpAnyT_done (by kernel_rfl) ?_ _
  simp only [Act.put, List.getElem_toArray, List.getElem_cons_succ, List.getElem_cons_zero, List.setIfInBounds_toArray, List.set_cons_zero, List.set_cons_succ]
  rw [← HOO.out] at hr hP hJ
  have hPm := hP.more (av2 := fun i => av i ∨ i = b9) (fun i hi => by
    rcases hi with hi | rfl
    · exact .inr ⟨Nat.lt_of_lt_of_le (hl i hi) hPG.size, .inl hi⟩
    · exact .inr ⟨by omega, .inr (by omega)⟩)
  have HR := Lib.hid hr
  have HP := Lib.hid hPm
  have HJ := Lib.hid hJ
  have HK := Lib.hid hK
  have hJ0 : w.heap.size ≤ b9 := by omega
  have cp := hap.cell 0 _ rfl
  clear hz2 hz5 hs1 hs0 hs2 hsB hwz hb3 hr hPm hP hJ hK hap hsteps hOA hlaid hfl hf hB hd hPG aB G5 y0 y1 yp y3 y8 yf yj ap1 ap2 x0 x1 g1 g2 hv1 hv2 S0 aj ap af a3 a8 hB5
  by_cases h0 : r = 0
  · subst h0
    go_wp2
    go_ret2
    exact ⟨b9, hJ0, ret_of (by unfold openV; rw [← HR.out]; rfl), HP.out, HJ.out, HK.out⟩
  · have h1 : (r == 0) = false := by simpa using h0
    go_wp2
    go_ret2
    exact ⟨b9, hJ0, ret_of (by unfold openV; rw [← HR.out, if_neg h0]; rfl), HP.out, HJ.out, HK.out⟩
end
end Go.Proofs.Ytcgjkopdnhkdiaa
