/- nodes, Size. -/
import Derived.Test.YtdpeblchndfdaaaTn
import Derived.Laws.EntriesVeiled
namespace Go.Proofs.Ytdpeblchndfdaaa
open Go.RowKit Go.Shelf
attribute [local go_sem] Oper.semAt_some
set_option maxRecDepth 100000
theorem run_store_fn {o : Oper} {a : Act} {w : World} (ty : TypeId) (x y : Operand) (ho : o.op = .store ty x y) (p : Addr) (hx : a.eval x = .pointer (some p)) (f : Fn) (b c : Array Value) (hy : a.eval y = .func f b c) (v : Value) (hc : w.cell? p = some v) (hf : w.frozen? p = false)
    (hi : (Try.prog.info? ty).map (·.size) = some 1) : (execOp a.eval o).run Try.prog w = .ok .skip (w.setCell p (.func f b c)) := by
  cases hq : Try.prog.info? ty with
  | none => simp [hq] at hi
  | some i =>
    have hs : i.size = 1 := by simpa [hq] using hi
    unfold execOp
    simp only [ho, hx, hy]
    simp [go_sem, hc, hf, sizeOf, typeInfo, hq, hs]
set_option maxHeartbeats 4000000 in
theorem nodes1_stops (n : Nat) (hn : 1 ≤ n) (B h : Nat) (m : Nd) (ao : Option Addr) (cap : Nat) (w : World) (S : Nat → Prop) (hS : ∀ i, w.heap.size ≤ i → S i) (hh : h ≤ 99999) (hB : At w B 24 (m.cells ao cap)) (hH : Has S w h m ao) (Gn : Nat × Nd → Prop) (hG : ∀ p ∈ nodesL h 1 m, Gn p) :
    SeqStopsK Fence.wide n Try.prog 74 #[.pointer (some ⟨B, 0, none⟩)] (fun x : { x : El // Gn x.nd } => x.1.enc) (KC S) (fun xs => xs.map (fun x => x.1.nd) = nodesL h 1 m) (fun _ => True) (nodesL h 1 m).length w := by
  intro y J Jx W hW hJ _ hY h0
  have HJA := Lib.hid hJ
  have HY := Lib.hid hY
  have HJ0 := Lib.hid h0
  have HS := Lib.hid hS
  have hz := hW.size
  have HB := Lib.hid (hB.below hW hB.lt)
  have HH := Lib.hid (hH.below hW)
  have hmf : ∀ (fn : Fn) (first cap : Array Value) (w : World), (Instr.makeFunc fn first cap).run Try.prog w = .ok (.func fn first cap) w := fun _ _ _ _ => rfl
  clear hJ hY h0 hB hH hS hW
  refine callsIn_of_wp Try.func74 rfl trivial ?_ rfl
  simp only [Try.ntmps74, List.size_toArray, List.length_cons, List.length_nil, Nat.reduceAdd, Nat.reduceSub, Array.replicate_succ, Array.replicate_zero, List.push_toArray, List.append_toArray, List.nil_append, List.cons_append]
  have a2 : At (W.alloc (.cells #[.func (.yield y) #[] #[]] 97)) W.heap.size 97 [.func (.yield y) #[] #[]] := At.new W _ _
  have b2 : Below W.heap.size W (W.alloc (.cells #[.func (.yield y) #[] #[]] 97)) := (Below.refl _ W).alloc (Nat.le_refl _) _
  have z2 : (W.alloc (.cells #[.func (.yield y) #[] #[]] 97)).heap.size = W.heap.size + 1 := by rw [World.size_alloc]
  have a3 : At ((W.alloc (.cells #[.func (.yield y) #[] #[]] 97)).alloc (.cells #[.nilFunc] 97)) (W.heap.size + 1) 97 [.nilFunc] := by have h := At.new (W.alloc (.cells #[.func (.yield y) #[] #[]] 97)) #[.nilFunc] 97; rw [z2] at h; exact h
  have b3 : Below W.heap.size W ((W.alloc (.cells #[.func (.yield y) #[] #[]] 97)).alloc (.cells #[.nilFunc] 97)) := b2.alloc (by omega) _
  have a23 := a2.alloc (.cells #[.nilFunc] 97)
  have z3 : ((W.alloc (.cells #[.func (.yield y) #[] #[]] 97)).alloc (.cells #[.nilFunc] 97)).heap.size = W.heap.size + 2 := by rw [World.size_alloc, z2]
  obtain ⟨U, hU⟩ : ∃ U, U = (W.alloc (.cells #[.func (.yield y) #[] #[]] 97)).alloc (.cells #[.nilFunc] 97) := ⟨_, rfl⟩
  rw [← hU] at a3 b3 a23 z3
  have a4 : At (U.setCell ⟨W.heap.size + 1, 0, none⟩ (tellV W.heap.size (W.heap.size + 1))) (W.heap.size + 1) 97 [tellV W.heap.size (W.heap.size + 1)] := a3.setCell 0 _
  have a24 : At (U.setCell ⟨W.heap.size + 1, 0, none⟩ (tellV W.heap.size (W.heap.size + 1))) W.heap.size 97 [.func (.yield y) #[] #[]] := a23.setCell_ne _ _ (show W.heap.size ≠ W.heap.size + 1 by omega)
  have b4 : Below W.heap.size W (U.setCell ⟨W.heap.size + 1, 0, none⟩ (tellV W.heap.size (W.heap.size + 1))) := b3.setCell (show W.heap.size ≤ W.heap.size + 1 by omega) _
  have hst : ∀ (o : Oper) (a : Act) (x z : Operand), o.op = .store 97 x z → a.eval x = .pointer (some ⟨W.heap.size + 1, 0, none⟩) → a.eval z = tellV W.heap.size (W.heap.size + 1) → (execOp a.eval o).run Try.prog U = .ok .skip (U.setCell ⟨W.heap.size + 1, 0, none⟩ (tellV W.heap.size (W.heap.size + 1))) := fun o a x z h1 h2 h3 => run_store_fn _ x z h1 _ h2 _ _ _ h3 _ (a3.cell 0 _ rfl) (a3.frozen 0) (by kernel_rfl)
  have HST := Lib.hid hst
  have HU := Lib.hid hU
  obtain ⟨V, hV⟩ : ∃ V, V = U.setCell ⟨W.heap.size + 1, 0, none⟩ (tellV W.heap.size (W.heap.size + 1)) := ⟨_, rfl⟩
  rw [← hV] at a4 a24 b4 HST
  have hcT := a4.cell 0 _ rfl
  unfold tellV at hcT
  have HBV := Lib.hid (HB.out.below b4 HB.out.lt)
  have A4 := Lib.hid a4
  have A24 := Lib.hid a24
  have B4 := Lib.hid b4
  clear a2 b2 z2 a3 b3 a23 hU hst hV a4 a24 b4
  gi_wp2_with (first
    | (rw [← HU.out]; refine in_skip rfl (by simp [Oper.about]) (Oper.semAt_plain _ _ _ (by intro c hc; cases hc)) (HST.out _ _ _ _ rfl rfl rfl) ?_)
    | (refine load_in rfl 24 (.tmp 1) rfl ⟨B, 0, none⟩ rfl (m.cells ao cap) _ (fun j v hj => by rw [Addr.add0]; exact HBV.out.cell j v hj) Try.underlying24 rfl info_nd ?_))
  refine ⟨trivial, ?_⟩
  refine (callsIn_wide.2 (callsIn_wide.1 (tell_in n hn y W.heap.size (W.heap.size + 1) (nodesL h 1 m).length W.heap.size S (fun i hi => HS.out i (by omega)) (fun pre W => ∃ q : List { x : El // Gn x.nd }, q.map (·.1) = pre ∧ J q W) (fun pre W => ∃ q : List { x : El // Gn x.nd }, q.map (·.1) = pre ∧ Jx q W) Gn (fun s A B row ⟨q, e, hq⟩ hg hr => ⟨q, e, HJA.out q A B row hq hg hr⟩)
    (fun pre x W1 hx ⟨q, e, hq⟩ hl => (HY.out q ⟨x, hx⟩ W1 hq (by rw [← e, List.length_map] at hl; exact hl)).mono (fun e' W' hr => hr.imp (fun h => ⟨h.1, ⟨q ++ [⟨x, hx⟩], by rw [List.map_append, e]; rfl, h.2.1⟩, h.2.2⟩) (fun h => ⟨h.1, q ++ [⟨x, hx⟩], by rw [List.map_append, e]; rfl, h.2⟩))) h 1 (m, ao, cap) [] V (by omega) (HH.out.below B4.out) A24.out A4.out (HS.out _ hz) (HS.out _ (by omega)) B4.out.size
    ⟨[], rfl, HJA.out _ _ _ none HJ0.out ⟨B4.out.os, B4.out.tape, B4.out.output, B4.out.size, fun i hi _ => B4.out.block i hi⟩ (by simp)⟩ (by simp) hG))).mono ?_
  rintro e w6 (⟨rfl, zs, hzs, ⟨q, hq, hJ6⟩, hk6⟩ | ⟨rfl, zs, q, hq, hJx6⟩)
  · have HZS := Lib.hid (show q.map (fun x => x.1.nd) = nodesL h 1 m by rw [← hzs, ← List.nil_append zs, ← hq, List.map_map]; rfl)
    have HJ6 := Lib.hid hJ6
    clear hzs hJ6 hk6 hq
    gi_wp2
    go_end0
    exact ⟨⟨_, rfl⟩, .inl ⟨q, HZS.out, HJ6.out⟩⟩
  · have HJ6 := Lib.hid hJx6
    clear hJx6 hq
    gi_wp2
    go_end0
    exact ⟨⟨_, rfl⟩, .inr ⟨q, trivial, HJ6.out⟩⟩
theorem nodes_any (n : Nd) (ao : Option Addr) (cap : Nat) (w : World) :
    Calls Try.prog 41 #[n.v ao cap] w fun e w' => e = .returned (.func (.func 74) #[] #[.pointer (some ⟨w.heap.size, 0, none⟩)]) ∧ At w' w.heap.size 24 (n.cells ao cap) ∧ Below w.heap.size w w' ∧ w'.heap.size = w.heap.size + 1 := by
  have hmf : ∀ (fn : Fn) (first cap : Array Value) (w : World), (Instr.makeFunc fn first cap).run Try.prog w = .ok (.func fn first cap) w := fun _ _ _ _ => rfl
  go_enter Try.func41, Try.ntmps41
  go_wp2_with (with_reducible refine box_any rfl 24 (.tmp 0) rfl (n.cells ao cap) rfl ?_; intro u hu bu zu; have HU := Lib.hid hu; have BU := Lib.hid bu; clear hu bu)
  go_ret
  exact ⟨rfl, HU.out, BU.out, zu⟩
end Go.Proofs.Ytdpeblchndfdaaa
