/- indexOf; copies of nodes. -/
import Derived.Test.YtfflkpggmhlfpaaDoorTg
import Derived.Lib.BufferMore
import Derived.Deep.Slices
namespace Go.Proofs.YtfflkpggmhlfpaaDoor
open Go.RowKit
set_option maxRecDepth 100000
/-- the walk is to stop ahead of the operation that fills this slot -/
def held (p : Prop) : Prop := p
theorem hold_at {P : Program} {ops : Array Oper} {rest : List Oper} {op : Oper} {a : Act} {w : World} {Q : Exit → Act → World → Prop} (k : Nat) (hd : op.dst = some k) (h : held (wpList P ops Q (op :: rest) a w)) : wpList P ops Q (op :: rest) a w := h
set_option maxHeartbeats 4000000 in
theorem indexOf_any (h : Nat) (n : Nd) (ao : Option Addr) (cap : Nat) (nm : List UInt8) (w : World) (hH : Has any_ w (h + 1) n ao) :
    Calls Tryd.prog 27 #[n.v ao cap, .string (bs nm)] w fun e w' => e = .returned (.int .i64 (indexL n nm)) ∧ Below w.heap.size w w' := by
  have HH := Lib.hid hH
  obtain ⟨R, hR⟩ : ∃ R, R = indexL n nm := ⟨_, rfl⟩
  rw [← hR]
  unfold indexL at hR
  have HR := Lib.hid hR
  clear hH hR
  cases n with
  | mk nn kd ex dt ks =>
  go_enter Tryd.func27, Tryd.ntmps27
  by_cases hk : kd = 2
  · subst hk
    by_cases h0 : nm = []
    · subst h0
      go_wp2_with (with_reducible refine box_any rfl 24 (.tmp 0) rfl [.string (bs nn), .int .i64 2, .bool ex, .string (bs dt), .slice ao ks.length cap] rfl ?_; intro u hu bu zu; have HU := Lib.hid hu; have BU := Lib.hid bu; have c1 := hu.cell 1 _ rfl; clear hu bu)
      have hB2 : Below w.heap.size w (u.alloc (.cells #[.string (bs [])] 9)) := BU.out.alloc (by omega) _
      go_ret
      refine ⟨?_, hB2⟩
      rw [HR.out, if_pos (.inr (by trivial))]; rfl
    · have hs : (bs nm).toList.isEmpty = false := by rw [bs_toList]; simpa using h0
      have hs2 : (nm == []) = false := by simpa using h0
      have hs3 : nm.isEmpty = false := by simpa using h0
      go_wp2_with (with_reducible refine box_any rfl 24 (.tmp 0) rfl [.string (bs nn), .int .i64 2, .bool ex, .string (bs dt), .slice ao ks.length cap] rfl ?_; intro u hu bu zu; have HU := Lib.hid hu; have BU := Lib.hid bu; have c1 := hu.cell 1 _ rfl; have c4 := hu.cell 4 _ rfl; clear hu bu)
      have aN : At (u.alloc (.cells #[.string (bs nm)] 9)) (w.heap.size + 1) 9 [.string (bs nm)] := by have h := At.new u #[.string (bs nm)] 9; rw [zu] at h; exact h
      have hB2 : Below w.heap.size w (u.alloc (.cells #[.string (bs nm)] 9)) := BU.out.alloc (by omega) _
      have hz2 : w.heap.size ≤ (u.alloc (.cells #[.string (bs nm)] 9)).heap.size := hB2.size
      generalize u.alloc (.cells #[.string (bs nm)] 9) = u2 at *
      have HB2 := Lib.hid hB2
      refine (indexFunc_any h ⟨nn, 2, ex, dt, ks⟩ ao cap (w.heap.size + 1) nm u2 (HH.out.below hB2) aN).mono ?_
      rintro e w3 ⟨rfl, b3⟩
      have HB3 := Lib.hid (HB2.out.trans (b3.mono hz2))
      clear b3 hB2 aN
      go_wp2
      go_ret
      refine ⟨?_, HB3.out⟩
      rw [HR.out, if_neg (by rintro (h | h); exact h rfl; exact h0 h)]; rfl
  · have h1 : (kd == 2) = false := by simpa using hk
    go_wp2_with (with_reducible refine box_any rfl 24 (.tmp 0) rfl [.string (bs nn), .int .i64 kd, .bool ex, .string (bs dt), .slice ao ks.length cap] rfl ?_; intro u hu bu zu; have HU := Lib.hid hu; have BU := Lib.hid bu; have c1 := hu.cell 1 _ rfl; clear hu bu)
    have hB2 : Below w.heap.size w (u.alloc (.cells #[.string (bs nm)] 9)) := BU.out.alloc (by omega) _
    go_ret
    refine ⟨?_, hB2⟩
    rw [HR.out, if_pos (.inl hk)]; rfl
theorem add_two (a : Addr) (i j : Nat) : (a.add i).add j = a.add (i + j) := Go.Deep.add_add a i j
/-- the rows of these -/
def Rowd (w : World) (ps : List Tri) (ao : Option Addr) : Prop := ∀ i p, ps[i]? = some p → ∃ a, ao = some a ∧ Kid w a i p.cells
theorem Kid.flat {w : World} {a : Addr} {ps : List Tri} (h : ∀ i p, ps[i]? = some p → Kid w a i p.cells) : ∀ j u, (ps.flatMap Tri.cells)[j]? = some u → w.cell? (a.add j) = some u := fun j u hj => by
  have hjl := (List.getElem?_eq_some_iff.1 hj).1
  rw [flat_len] at hjl
  obtain ⟨p, hp⟩ : ∃ p, ps[j / 5]? = some p := ⟨_, List.getElem?_eq_getElem (by omega)⟩
  have h5 : p.cells.length = 5 := rfl
  obtain ⟨v, hv⟩ : ∃ v, p.cells[j % 5]? = some v := ⟨_, List.getElem?_eq_getElem (by rw [h5]; omega)⟩
  have h1 := flat_get ps (j / 5) (j % 5) p v hp hv
  have e : j / 5 * 5 + j % 5 = j := by omega
  rw [e, hj] at h1
  cases h1
  have h2 := h _ p hp _ u hv
  rw [add_two, e] at h2
  exact h2
theorem flat_one (ps : List Tri) : ∀ u ∈ ps.flatMap Tri.cells, u.oneCell' = true := fun u hu => by
  obtain ⟨p, _, hp⟩ := List.mem_flatMap.mp hu
  exact nd_one p.1 p.2.1 p.2.2 u hp
set_option maxHeartbeats 4000000 in
theorem clone_any (ps : List Tri) (ao : Option Addr) (cap : Nat) (w : World) (hR : Rowd w ps ao) (hl : ps.length ≤ 1000000) :
    Calls Tryd.prog 68 #[.slice ao ps.length cap] w fun e w' => Below w.heap.size w w' ∧ ∃ ao' cap', e = .returned (.slice ao' ps.length cap') ∧ Own w' 24 5 ao' ps.length cap' (ps.flatMap Tri.cells) ∧ ∀ i, i ∈ blk ao' → w.heap.size ≤ i := by
  have HR := Lib.hid hR
  clear hR
  cases ao with
  | none =>
    have h0 : ps = [] := by
      cases ps with
      | nil => rfl
      | cons p r => obtain ⟨a, e, _⟩ := HR.out 0 p rfl; cases e
    subst h0
    have hnil : ∀ w : World, (binOp .eql 22 (.slice none 0 cap) (.slice none 0 0)).run Tryd.prog w = .ok (.bool true) w := fun w => Lib.run_eql_slice_nil_nil w 0 cap Tryd.underlying22
    go_enter Tryd.func68, Tryd.ntmps68
    go_wp2
    go_ret
    exact ⟨Below.refl _ _, none, 0, rfl, Own.nil _ _ _, by simp [blk]⟩
  | some a =>
    obtain ⟨i, z, hi, hz, h5, h72, hz5⟩ := info_22
    have HI := Lib.hid (And.intro hi (And.intro hz (And.intro h5 (And.intro h72 hz5))))
    clear hi hz h5 h72 hz5
    have hnil : ∀ w : World, (binOp .eql 22 (.slice (some a) ps.length cap) (.slice none 0 0)).run Tryd.prog w = .ok (.bool false) w := fun w => Lib.run_eql_slice_some_nil w a ps.length cap Tryd.underlying22
    go_enter Tryd.func68, Tryd.ntmps68
    go_wp2_with (with_reducible refine hold_at 7 rfl ?_)
    unfold held
    obtain ⟨u, hu⟩ : ∃ u, u = w.alloc (.cells #[] 24) := ⟨_, rfl⟩
    have bu : Below w.heap.size w u := by rw [hu]; exact (Below.refl _ w).alloc (Nat.le_refl _) _
    have hown : u.ownsRow w.heap.size 24 5 (.slice (some ⟨w.heap.size, 0, none⟩) 0 0) 0 [] := ⟨rfl, .inr ⟨w.heap.size, 0, #[], rfl, Nat.le_refl _, by rw [hu]; exact (MapKept.heap_alloc w _).1, Nat.le_refl _, Nat.zero_le _, rfl, rfl⟩⟩
    rw [← hu]
    have hkd : ∀ i p, ps[i]? = some p → Kid u a i p.cells := fun i p hp => by
      obtain ⟨a', e, hK⟩ := HR.out i p hp
      cases e
      exact hK.kept (bu.block a.block hK.lt)
    obtain ⟨v', w', hrun, ho, hgr, _⟩ := run_append_own (P := Tryd.prog) (w := u) w.heap.size 22 22 24 i z 5 72 Tryd.underlying22 HI.out.1 HI.out.2.1 HI.out.2.2.1 HI.out.2.2.2.1 HI.out.2.2.2.2 (by omega) _ 0 [] hown a ps.length cap (ps.flatMap Tri.cells) (by rw [flat_len]; omega) (Kid.flat hkd) (flat_one ps) (by unfold maxLen; omega) (by omega) bu.size
    have hT : Touch [w.heap.size] u w' := ⟨hgr.os, hgr.tape, hgr.output, hgr.size, fun k hk hne => hgr.block k hk (fun e => hne (by cases e; simp))⟩
    have HBE := Lib.hid (hT.below bu (by simp) (Nat.le_refl _))
    rw [Nat.zero_add, List.nil_append] at ho
    have HO := Lib.hid ho
    have HRUN := Lib.hid hrun
    clear hgr hT hkd hown ho hrun hu bu
    refine list_val rfl (run_append_op (.tmp 5) (.tmp 6) 22 22 rfl _ _ rfl rfl HRUN.out) ?_
    go_wp2
    go_ret
    rcases HO.out.2 with ⟨rfl, h0⟩ | ⟨g, cap', cur, rfl, hb, r1, r2, r3, r4, r5⟩
    · have h00 : ps = [] := List.eq_nil_of_length_eq_zero h0
      subst h00
      exact ⟨HBE.out, none, 0, rfl, Own.nil _ _ _, by simp [blk]⟩
    · exact ⟨HBE.out, _, cap', rfl, ⟨HO.out.1, .inr ⟨g, cap', cur, rfl, Nat.zero_le _, r1, r2, r3, r4, r5⟩⟩, by simp [blk]; exact hb⟩
end Go.Proofs.YtfflkpggmhlfpaaDoor
