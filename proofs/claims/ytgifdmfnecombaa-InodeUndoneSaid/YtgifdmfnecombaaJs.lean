/- Names: a directory's names, rising. -/
import Derived.Test.YtgifdmfnecombaaJr
import Derived.Test.YtgifdmfnecombaaSi
namespace Go.Proofs.Ytgifdmfnecombaa
open Go.RowKit Go.Maps Go.Sort
set_option maxRecDepth 100000
/-- the keys, sorted -/
theorem keys_sorted {P : Program} {k : TypeId} {R : Value → Option (DataW Unit × List MemPlace)} {w : World} {b n : Nat} {D : DataW Unit} (hown : w.ownsMap P k R b n D) (K : Keyed P k) (hk : P.underlying k = some .string) {ss : List (List UInt8)} (hp : ss.Perm (strKeys D)) :
    (ss.mergeSort (fun x y => decide (x ≤ y))).length = Maps.size D ∧ (ss.mergeSort (fun x y => decide (x ≤ y))).Nodup ∧ (ss.mergeSort (fun x y => decide (x ≤ y))).Pairwise (fun x y => x ≤ y) ∧ ∀ x, x ∈ ss.mergeSort (fun x y => decide (x ≤ y)) ↔ Maps.has D (.string x) = true := by
  obtain ⟨es, hD, hpw, _⟩ := hown.entries K
  obtain ⟨es', hD', hko⟩ := hown.keysOf
  obtain rfl : es = es' := by rw [hD] at hD'; simpa using hD'
  subst hD
  have hstr : ∀ p ∈ es, ∃ x, p.1 = .string x := fun p hq => by obtain ⟨v, hv⟩ := hko p hq; obtain ⟨x, _, hx, _⟩ := Maps.keyOf_str hk hv; exact ⟨x, hx⟩
  have tr : ∀ a b c : List UInt8, decide (a ≤ b) = true → decide (b ≤ c) = true → decide (a ≤ c) = true := fun a b c h1 h2 => by simp only [decide_eq_true_eq] at *; exact List.le_trans h1 h2
  have tot : ∀ a b : List UInt8, (decide (a ≤ b) || decide (b ≤ a)) = true := fun a b => by simp only [Bool.or_eq_true, decide_eq_true_eq]; exact List.le_total a b
  have hpm := (List.mergeSort_perm ss (fun x y => decide (x ≤ y))).trans hp
  have hnd : (strKeys (.map es : DataW Unit)).Nodup := by
    show (es.map fun p => strOf p.1).Nodup
    refine List.pairwise_map.2 (hpw.imp_of_mem fun {p q} hp' hq' hne e => hne ?_)
    obtain ⟨a, ha⟩ := hstr p hp'
    obtain ⟨b, hb⟩ := hstr q hq'
    rw [ha, hb] at e ⊢
    exact congrArg _ e
  refine ⟨?_, hpm.nodup_iff.mpr hnd, ?_, fun x => ?_⟩
  · rw [hpm.length_eq]
    show (es.map fun p => strOf p.1).length = es.length
    simp
  · have := List.pairwise_mergeSort tr tot ss
    exact this.imp fun h => by simpa using h
  · rw [hpm.mem_iff, has_eq, List.any_eq_true]
    show x ∈ es.map (fun p => strOf p.1) ↔ _
    rw [List.mem_map]
    constructor
    · rintro ⟨p, hp', rfl⟩
      obtain ⟨a, ha⟩ := hstr p hp'
      exact ⟨p, hp', by rw [ha]; simp [Lit.sameKey, strOf]⟩
    · rintro ⟨p, hp', hs⟩
      obtain ⟨a, ha⟩ := hstr p hp'
      rw [ha] at hs
      exact ⟨p, hp', by rw [ha]; simpa [Lit.sameKey, strOf] using hs⟩
/-- what Names hands back -/
def Told (w0 w : World) (v : Value) (f : List UInt8 → Option Int) (c : Nat) : Prop := ∃ (ao : Option Addr) (cap : Nat) (ts : List (List UInt8)), v = .slice ao ts.length cap ∧ Own w 9 1 ao ts.length cap (ts.map tv) ∧ (∀ b ∈ blk ao, w0.heap.size ≤ b) ∧ ts.length = c ∧ ts.Nodup ∧ ts.Pairwise (fun x y => x ≤ y) ∧ ∀ x, x ∈ ts ↔ (f x).isSome = true
set_option maxHeartbeats 4000000 in
theorem names_any (base : Nat) (w : World) (tb : Nat) (T : Tab) (p : Place) (h : TabAt base w tb T p) (k : Int) (hk : (Lit.int .i64 k).wf = true) (i : Ino) (hi : T.f k = some i) (h2 : i.kind = 2) (hc : i.cnt ≤ 1000000) :
    Calls Try.prog 11 #[tabV tb, .int .i64 k] w fun e w' => ∃ v, e = .returned v ∧ Told w w' v i.ents i.cnt ∧ Below w.heap.size w w' := by
  have HH := Lib.hid h
  have HC := Lib.hid hc
  clear h
  go_enter Try.func11, Try.ntmps11
  go_wp2_with fail
  refine (dir_any base w tb T p HH.out k hk).mono ?_
  rintro e w1 ⟨rfl, b1⟩
  have H1 := HH.out.below b1
  have HB1 := Lib.hid b1
  clear b1
  rw [show isDirT T k = true by unfold isDirT; rw [hi]; simpa using h2]
  have hs := H1.s k
  rw [hi] at hs
  obtain ⟨b, hg⟩ : ∃ b, p.g k = some b := Option.isSome_iff_exists.mp hs
  have hI := H1.o k b i hg hi
  have c5 := hI.a.cell 5 _ rfl
  rw [if_pos h2] at c5
  have HM := Lib.hid (hI.m h2)
  rw [hg]
  simp only [ptrV]
  clear hs hI hg hi h2 H1
  go_wp2_with fail
  refine (callsIn_wide.1 (maps_Keys_all (some (p.e k)) w1)).mono ?_
  rintro e w2 ⟨rfl, hw2⟩
  obtain ⟨D, ho, hsz, hat⟩ := HM.out
  have HO := Lib.hid ho
  have HSZ := Lib.hid hsz
  have HAT := Lib.hid hat
  have hcl := callsIn_wide.1 (slices_Sorted_all (p.e k) _ D _ w1 ho (by rw [hsz]; unfold maxLen; have := HC.out; omega) (by rw [hsz]; have := HC.out; omega))
  have hb2 := (Below.refl _ w1).alloc (Nat.le_refl _) (.cells #[.map (some (p.e k))] 61)
  rw [← hw2] at hcl hb2
  have HCL := Lib.hid hcl
  have HB2 := Lib.hid hb2
  clear ho hsz hat hcl hb2 hw2
  go_wp2_with fail
  refine HCL.out.mono ?_
  rintro e w3 ⟨v, ss, rfl, hperm, hrow, _, hb3⟩
  obtain ⟨q1, q2, q3, q4⟩ := keys_sorted HO.out keyed9 Try.underlying9 hperm
  have hsl : ss.length = (ss.mergeSort (fun x y => decide (x ≤ y))).length := (List.length_mergeSort ss).symm
  rw [hsl] at hrow
  have s1 := HB1.out.size
  have s2 := HB2.out.size
  have hT : Told w w3 v i.ents i.cnt := by
    have hmk : ∀ (ao : Option Addr) (cap : Nat), v = .slice ao (ss.mergeSort (fun x y => decide (x ≤ y))).length cap → (∀ b ∈ blk ao, w.heap.size ≤ b) → Told w w3 v i.ents i.cnt := fun ao cap hv hbk => by
      subst hv
      refine ⟨ao, cap, _, rfl, ⟨hrow.1, ?_⟩, hbk, by rw [q1, HSZ.out], q2, q3, fun x => by rw [q4 x, (HAT.out x).1]⟩
      rcases hrow.2 with r | ⟨g, c, cur, r1, r2, r3⟩
      · exact .inl r
      · exact .inr ⟨g, c, cur, r1, Nat.zero_le _, r3⟩
    rcases hrow.2 with ⟨r, r0⟩ | ⟨g, c, cur, r1, r2, _⟩
    · exact hmk none 0 (by rw [r, r0]) (by simp [blk])
    · exact hmk (some ⟨g, 0, none⟩) c r1 (by simp [blk]; omega)
  have HT := Lib.hid hT
  have HB3 := Lib.hid ((HB1.out.trans (HB2.out.mono HB1.out.size)).trans (hb3.mono (Nat.le_trans s1 s2)))
  clear hperm hrow hb3 q1 q2 q3 q4 hsl hT
  go_wp2_with fail
  go_ret
  exact ⟨v, rfl, HT.out, HB3.out⟩
theorem names_none (base : Nat) (w : World) (tb : Nat) (T : Tab) (p : Place) (h : TabAt base w tb T p) (k : Int) (hk : (Lit.int .i64 k).wf = true) (hd : isDirT T k = false) :
    Calls Try.prog 11 #[tabV tb, .int .i64 k] w fun e w' => e = .returned (.slice none 0 0) ∧ Below w.heap.size w w' := by
  have HH := Lib.hid h
  clear h
  go_enter Try.func11, Try.ntmps11
  go_wp2_with fail
  refine (dir_any base w tb T p HH.out k hk).mono ?_
  rintro e w1 ⟨rfl, b1⟩
  have HB1 := Lib.hid b1
  rw [hd]
  clear b1 hd
  go_wp2_with fail
  go_ret
  exact ⟨rfl, HB1.out⟩
/-- of a table of one's own -/
theorem holds_names {w0 w : World} {tb : Nat} {D : Doc} {n : Nat} {av : Nat → Prop} (h : Holds w0 w tb D n av) (d : Int) (hd : (Lit.int .i64 d).wf = true) :
    Calls Try.prog 11 #[tabV tb, .int .i64 d] w fun e w' => ∃ v, e = .returned v ∧ Told w w' v (D.find d) (D.cnt d) ∧ Below w.heap.size w w' := by
  obtain ⟨p, dp, t, i, _, _⟩ := h.ex
  cases hq : isDirT D.tab d with
  | true =>
    obtain ⟨r, hr, h2⟩ := isDir_row.mp hq
    refine names_any w0.heap.size w tb D.tab p t d hd _ (at_row hr) h2 ?_
    have : D.cnt d ≤ D.E.length := List.countP_le_length
    have := h.f.e
    have := h.n
    show D.cnt d ≤ _
    omega
  | false =>
    have hnd : ∀ r, D.row d = some r → r.kind ≠ 2 := fun r hr h2 => by
      rw [isDir_row.mpr ⟨r, hr, h2⟩] at hq; cases hq
    have hc := cnt_zero i hnd
    refine (names_none w0.heap.size w tb D.tab p t d hd hq).mono ?_
    rintro e w' ⟨rfl, b⟩
    refine ⟨_, rfl, ⟨none, 0, [], rfl, Own.nil _ _ _, by simp [blk], by rw [hc]; rfl, .nil, .nil, fun x => ?_⟩, b⟩
    rw [find_none (D := D) (d := d) (nm := x) (fun e he hq => none_of_cnt hc e he hq.1)]
    simp
end Go.Proofs.Ytgifdmfnecombaa
