/- drop. -/
import Derived.Test.YtgifdmfnecombaaIt
namespace Go.Proofs.Ytgifdmfnecombaa
open Go.RowKit
set_option maxRecDepth 100000
def Tab.setB (T : Tab) (n : Nat) : Tab := { T with bytes := n }
theorem TabAt.lt' {base : Nat} {w : World} {tb : Nat} {T : Tab} {p : Place} (h : TabAt base w tb T p) : tb < w.heap.size := h.t.lt
set_option maxHeartbeats 2000000 in
theorem drop_any (base : Nat) (w : World) (tb : Nat) (T : Tab) (p : Place) (h : TabAt base w tb T p) (x : Int) (hx : (Lit.int .i64 x).wf = true) (o : Ino) (ho : T.f x = some o) (hd : o.data.length ≤ T.bytes) (hb : T.bytes ≤ 1000000000000) :
    Calls Try.prog 41 #[tabV tb, .int .i64 x] w fun e w' => e = .returned (.tuple #[]) ∧ TabAt base w' tb ((T.setB (T.bytes - o.data.length)).del x) (p.del x) ∧ Step tb T p ((T.setB (T.bytes - o.data.length)).del x) (p.del x) w w' := by
  have c0 := h.t.cell 0 _ rfl
  have c2 := h.t.cell 2 _ rfl
  have hs := h.s x
  rw [ho] at hs
  obtain ⟨b, hg⟩ : ∃ b, p.g x = some b := Option.isSome_iff_exists.mp hs
  have hl1 := h.i.get x hx
  rw [hg] at hl1
  simp only [ptrV] at hl1
  have hq := h.drew.i.get x hx
  rw [hg] at hq
  simp only [ptrV] at hq
  have c3 := (h.o x b o hg ho).a.cell 2 _ rfl
  have W : IntKind.i64.wrap ((T.bytes : Int) - (o.data.length : Int)) = (T.bytes : Int) - (o.data.length : Int) := wrap_small (by omega) (by omega)
  have HH := Lib.hid h
  have HD := Lib.hid hd
  unfold tabV
  clear h hs hg ho hd
  go_enter Try.func41, Try.ntmps41
  go_wp2_with fail
  go_still_tail 18, (by kernel_rfl)
  change wpList _ _ _ _ _ w.drew
  have HT := Lib.hid HH.out.drew.t
  have HW := Lib.hid (show ∀ u, At u tb 59 ((T.cells p.bm).set 2 (.int .i64 ((T.bytes : Int) - (o.data.length : Int)))) → At u tb 59 ((T.setB (T.bytes - o.data.length)).cells p.bm) from fun u hu => by
    have e : ((T.bytes - o.data.length : Nat) : Int) = (T.bytes : Int) - (o.data.length : Int) := Int.ofNat_sub HD.out
    simp only [Tab.cells, Tab.setB, e]
    exact hu)
  have HB := Lib.hid (below_dr w)
  clear hl1 hq c0 c2 c3 W
  go_wp2_with (first
    | (refine set_int rfl (.tmp 21) (.tmp 19) rfl tb 2 rfl ((T.bytes : Int) - (o.data.length : Int)) rfl _ _ HT.out (by simp [Tab.cells]) ?_; intro u hu tu; have H2 := HH.out.drew.setT (T' := T.setB (T.bytes - o.data.length)) rfl rfl (HW.out u hu) tu; have u0 := H2.1.t.cell 0 _ rfl; obtain ⟨w2, hrun, hM, ht⟩ := H2.1.i.del x hx 0; have HS := Lib.hid H2.2; have H3 := Lib.hid (H2.1.del x hM (turned_touch ht)); clear H2 hu tu hM ht))
  go_end0
  exact ⟨rfl, H3.out.1, ((Step.of_below HB.out).trans HS.out).trans H3.out.2⟩
end Go.Proofs.Ytgifdmfnecombaa
