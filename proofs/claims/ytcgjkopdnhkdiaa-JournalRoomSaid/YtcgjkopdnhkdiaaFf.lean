/- The document's disk: the walk of Flush. -/
import Derived.Test.YtcgjkopdnhkdiaaFe
namespace Go.Proofs.Ytcgjkopdnhkdiaa
open Go.RowKit
set_option maxRecDepth 100000
section
variable {w : World} {D : Nat} {fo ao : Option Addr} {fc cap n : Nat} {s : Dk}
/-- where so many of the waiting writes are flushed -/
def Dk.upto (s : Dk) (i : Nat) : Dk := { s with fl := putAll s.fl (s.ws.take i) }
theorem refFlush_off (h : RefAt w D fo fc ao cap n s) (ho : s.ops < 9223372036854775807) (hoff : s.tick.off = true) :
    Calls Try.prog 14 #[.pointer (some ⟨D, 0, none⟩)] w fun e w' => e = .returned (.int .i64 11) ∧ RefAt w' D fo fc ao cap n s.tick ∧ Touch [D] w w' := by
  have H := Lib.hid h
  have HO := Lib.hid hoff
  clear h hoff
  go_enter Try.func14, Try.ntmps14
  go_wp2_with fail
  refine (refOp_any H.out ho).mono ?_
  rintro e w1 ⟨rfl, h1, t1⟩
  rw [HO.out]
  go_wp2
  go_ret
  exact ⟨rfl, h1, t1⟩
/-- one text is stored -/
theorem RefAt.text {i : Nat} (h : RefAt w D fo fc ao cap n (s.upto i)) (hs : s.Ok n) {x : Nat × List UInt8} (hx : s.ws[i]? = some x) :
    ∃ g, fo = some ⟨g, 0, none⟩ ∧ w.frozen? ⟨g, x.1, none⟩ = false ∧ (∃ v, w.cell? ⟨g, x.1, none⟩ = some v) ∧ RefAt (w.setCell ⟨g, x.1, none⟩ (tv x.2)) D fo fc ao cap n (s.upto (i + 1)) := by
  have hxm := hs.ws x (List.mem_of_getElem? hx)
  have hfl : (s.upto i).fl.length = n := h.ok.fl
  obtain ⟨g, cur, hfo, hA, _, _⟩ := h.f.there (by omega)
  subst hfo
  have e : s.ws.take (i + 1) = s.ws.take i ++ [x] := by rw [List.take_add_one, hx]; rfl
  have e2 : (s.upto (i + 1)).fl = (s.upto i).fl.set x.1 x.2 := by unfold Dk.upto; simp only [e, putAll_snoc]
  have hT : Touch [g] w (w.setCell ⟨g, x.1, none⟩ (tv x.2)) := (Touch.refl _ _).setCell _ _ (.inl (by simp))
  have hD : D ≠ g := h.d.ne hA (by decide)
  have hg : g ∉ blk ao := h.w.type hA (by decide)
  have hok : (s.upto (i + 1)).Ok n := ⟨hs.n1, hs.n2, by rw [e2, List.length_set]; exact hfl, by
    intro y hy
    rw [e2] at hy
    rcases List.mem_or_eq_of_mem_set hy with hy | rfl
    · exact h.ok.f128 y hy
    · exact hxm.2, hs.ws, hs.f1, hs.f2⟩
  refine ⟨g, rfl, hA.frozen x.1, ⟨_, hA.cell x.1 (tv ((s.upto i).fl[x.1]'(by omega))) (by rw [List.getElem?_append_left (by rw [List.length_map]; omega), List.getElem?_map, List.getElem?_eq_getElem (by omega)]; rfl)⟩, ?_, ?_, ?_, hok⟩
  · have := h.d.touch hT (by simpa using hD)
    have e3 : heads (some ⟨g, 0, none⟩) fc ao cap (s.upto (i + 1)) = heads (some ⟨g, 0, none⟩) fc ao cap (s.upto i) := by
      unfold heads
      rw [e2, List.length_set]; rfl
    rw [e3]; exact this
  · have := (World.ownsRow.stored h.f x.1 (tv x.2)).1
    rw [e2, List.length_set, List.map_set]
    exact this
  · exact h.w.touch hT (fun i hi => by simp; rintro rfl; exact hg hi)
end
end Go.Proofs.Ytcgjkopdnhkdiaa
