/- leave. -/
import Derived.Test.YtgifdmfnecombaaIs
namespace Go.Proofs.Ytgifdmfnecombaa
open Go.RowKit
set_option maxRecDepth 100000
def entOut (i : Ino) (nm : List UInt8) : Ino := i.withE (fun j => if j = nm then none else i.ents j) (if (i.ents nm).isSome then i.cnt - 1 else i.cnt)
def Ino.unlinked (o : Ino) : Ino := { o with links := o.links - 1 }
set_option maxHeartbeats 2000000 in
theorem leave_any (base : Nat) (w : World) (tb : Nat) (T : Tab) (p : Place) (h : TabAt base w tb T p) (d : Int) (hd : (Lit.int .i64 d).wf = true) (nm : List UInt8) (hn : nm.length ≤ maxLen) (x : Int) (hx : (Lit.int .i64 x).wf = true)
    (i : Ino) (hi : T.f d = some i) (h2 : i.kind = 2) (hfx : i.ents nm = some x) (o : Ino) (ho : (T.setI d (entOut i nm)).f x = some o) (hl : -1000000000000 ≤ o.links ∧ o.links ≤ 1000000000000) :
    Calls Try.prog 39 #[tabV tb, .int .i64 d, .string (bs nm)] w fun e w' => e = .returned (.int .i64 x) ∧ TabAt base w' tb ((T.setI d (entOut i nm)).setI x o.unlinked) (p.setM d (p.m d)) ∧ Step tb T p ((T.setI d (entOut i nm)).setI x o.unlinked) (p.setM d (p.m d)) w w' := by
  have c0 := h.t.cell 0 _ rfl
  have hs := h.s d
  rw [hi] at hs
  obtain ⟨b, hg⟩ : ∃ b, p.g d = some b := Option.isSome_iff_exists.mp hs
  have hl1 := h.i.get d hd
  rw [hg] at hl1
  simp only [ptrV] at hl1
  have hIA := h.o d b i hg hi
  have c5 := hIA.a.cell 5 _ rfl
  rw [if_pos h2] at c5
  have hlk := (hIA.m h2).get nm hn
  rw [hfx] at hlk
  simp only [Option.getD] at hlk
  obtain ⟨w1, hrun, hM, ht⟩ := (hIA.m h2).del nm hn 0
  have H1 := h.setE d i hi h2 _ _ _ hM (turned_touch ht)
  change TabAt base w1 tb (T.setI d (entOut i nm)) (p.setM d (p.m d)) ∧ Step tb T p (T.setI d (entOut i nm)) (p.setM d (p.m d)) w w1 at H1
  generalize T.setI d (entOut i nm) = T1 at H1 ho ⊢
  generalize p.setM d (p.m d) = p1 at H1 ⊢
  have hs2 := H1.1.s x
  rw [ho] at hs2
  obtain ⟨b2, hg2⟩ : ∃ b2, p1.g x = some b2 := Option.isSome_iff_exists.mp hs2
  have d0 := H1.1.t.cell 0 _ rfl
  have hl2 := H1.1.i.get x hx
  rw [hg2] at hl2
  simp only [ptrV] at hl2
  have hIB := H1.1.o x b2 o hg2 ho
  have k3 := hIB.a.cell 3 _ rfl
  have W : IntKind.i64.wrap (o.links - 1) = o.links - 1 := wrap_small (by omega) (by omega)
  have HT := Lib.hid H1.1
  have HS := Lib.hid H1.2
  have HO := Lib.hid ho
  have HG2 := Lib.hid hg2
  have HA := Lib.hid hIB.a
  unfold tabV
  clear hl h hs hg hi hIA hM ht H1 ho hs2 hg2 hIB h2 hfx
  go_enter Try.func39, Try.ntmps39
  go_wp2_with (first
    | (refine set_int rfl (.tmp 36) (.tmp 33) rfl b2 3 rfl (o.links - 1) rfl _ _ HA.out (by simp [Ino.cells]) ?_; intro u hu tu; have HU := Lib.hid hu; have TU := Lib.hid tu; clear hu tu))
  go_ret
  have H2 := HT.out.setI x o o.unlinked b2 HO.out HG2.out rfl rfl rfl (by have := HU.out; simpa [Ino.cells, Ino.unlinked] using this) TU.out
  exact ⟨rfl, H2.1, HS.out.trans H2.2⟩
end Go.Proofs.Ytgifdmfnecombaa
