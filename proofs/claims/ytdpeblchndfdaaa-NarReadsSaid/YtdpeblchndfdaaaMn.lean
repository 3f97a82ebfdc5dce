/- newReader; what Decode defers. -/
import Derived.Test.YtdpeblchndfdaaaMm
import Derived.Defers
import Derived.Recover
namespace Go.Proofs.Ytdpeblchndfdaaa
open Go.RowKit Go.Maps Go.ChangeMaps Go.MapKept
set_option maxRecDepth 100000
section
variable {ops : Array Oper} {rest : List Oper} {op : Oper} {a : Act} {w : World} {Q : Exit → Act → World → Prop}
theorem set_rmap (hgd : op.guard = none) (x y : Operand) (ho : op.op = .store 61 x y) (b n : Nat) (hx : a.eval x = .pointer (some ⟨b, n, none⟩)) (v : Option Nat) (hy : a.eval y = .map v) (cs : List Value) (t : TypeId) (hB : At w b t cs) (hn : n < cs.length)
    (h : ∀ u, At u b t (cs.set n (.map v)) → Touch [b] w u → wpList Try.prog ops Q rest (a.put op.dst undef) u) : wpList Try.prog ops Q (op :: rest) a w := by
  have hi : (Try.prog.info? 61).map (·.size) = some 1 := by kernel_rfl
  cases hq : Try.prog.info? 61 with
  | none => simp [hq] at hi
  | some i =>
    have hs : i.size = 1 := by simpa [hq] using hi
    have hc : w.cell? ⟨b, n, none⟩ = some (cs[n]) := hB.cell n _ (List.getElem?_eq_getElem hn)
    have hf := hB.frozen n
    refine list_skip hgd (w' := w.setCell ⟨b, n, none⟩ (.map v)) ?_ (h _ (hB.setCell n _) ((Touch.refl [b] w).setCell _ _ (.inl (by simp))))
    unfold execOp
    simp only [ho, hx, hy]
    simp [go_sem, hc, hf, sizeOf, typeInfo, hq, hs]
theorem make_r (b : Nat) (hgd : op.guard = none) (ho : op.op = .makeMap 61 none)
    (h : ∀ u, FMap 82 .u64 u w.heap.size b 0 (fun _ => none) → Below w.heap.size w u → u.heap.size = w.heap.size + 1 → wpList Try.prog ops Q rest (a.put op.dst (.map (some w.heap.size))) u) : wpList Try.prog ops Q (op :: rest) a w := by
  refine list_val hgd (v := .map (some w.heap.size)) (w' := w.alloc (.map #[] 0)) ?_ (h _ (FMap.made 82 .u64 w b) ((Below.refl _ w).alloc (Nat.le_refl _) _) (by rw [World.size_alloc]))
  unfold execOp
  simp [ho, Instr.makeMap, run_underlying Try.underlying61, go_sem]
end
set_option maxHeartbeats 2000000 in
theorem narReader_any (l : List UInt8) (w : World) :
    Calls Try.prog 30 #[.string (bs l)] w fun e w' => ∃ b rb mb, e = .returned (.pointer (some ⟨b, 0, none⟩)) ∧ RAt w' b rb mb l 0 ∧ Below w.heap.size w w' ∧ w.heap.size ≤ b ∧ w.heap.size ≤ rb := by
  have hmf : ∀ (fn : Fn) (first cap : Array Value) (w : World), (Instr.makeFunc fn first cap).run Try.prog w = .ok (.func fn first cap) w := fun _ _ _ _ => rfl
  go_enter Try.func30, Try.ntmps30
  go_wp2_with fail
  refine (newReader_any (bs l) w).mono ?_
  rintro e w1 ⟨rfl, rfl⟩
  have hR : Rd (w.alloc (.cells #[.string (bs l), .bool false] 91)) w.heap.size l false := At.new w _ _
  have hB : Below w.heap.size w (w.alloc (.cells #[.string (bs l), .bool false] 91)) := (Below.refl _ w).alloc (Nat.le_refl _) _
  have hz : (w.alloc (.cells #[.string (bs l), .bool false] 91)).heap.size = w.heap.size + 1 := by rw [World.size_alloc]
  generalize w.alloc (.cells #[.string (bs l), .bool false] 91) = w1 at hR hB hz ⊢
  have HR := Lib.hid hR
  have HB := Lib.hid hB
  clear hR hB
  go_wp2_with (first
    | (refine list_val (op := { dst := some 6, op := _, type := _, pos := _, after := _, guard := _ }) rfl (v := .agg [Value.pointer (some ⟨w.heap.size, 0, none⟩), .int .i64 0, .map none].toArray) (w' := w1) (by kernel_rfl) ?_)
    | (refine box_any rfl 63 (.tmp 6) rfl [Value.pointer (some ⟨w.heap.size, 0, none⟩), .int .i64 0, .map none] rfl ?_; intro u hu bu zu; rw [hz] at hu zu ⊢; have HU := Lib.hid hu; have BU := Lib.hid (HB.out.trans (bu.mono (by omega))); have HR1 := Lib.hid (At.below HR.out bu (At.lt HR.out)); clear hu bu)
    | (with_reducible refine make_r (w.heap.size + 1) rfl rfl ?_; intro u2 hu2 bu2 zu2; rw [zu] at hu2 zu2; obtain ⟨w3, r3, m3, t3⟩ := hu2.put Try.underlying82 Try.underlying61 1 (by decide) 53 (by decide); obtain ⟨w4, r4, m4, t4⟩ := m3.put Try.underlying82 Try.underlying61 2 (by decide) 54 (by decide); obtain ⟨w5, r5, m5, t5⟩ := m4.put Try.underlying82 Try.underlying61 3 (by decide) 55 (by decide); rw [zu]; simp only [fnV] at r3 r4 r5; have T35 := Lib.hid (((turned_touch t3).trans (turned_touch t4)).trans (turned_touch t5)); have HU5 := Lib.hid ((HU.out.below bu2 HU.out.lt).touch T35.out (by simp <;> omega)); have HR5 := Lib.hid (At.touch (At.below HR1.out bu2 (At.lt HR1.out)) T35.out (by simp <;> omega)); have BU5 := Lib.hid (T35.out.below (BU.out.trans (bu2.mono (by omega))) (by simp <;> omega) (Nat.le_refl _)); have M5 := Lib.hid m5; clear hu2 bu2 t3 t4 t5 m3 m4 m5)
    | (refine set_rmap rfl (.tmp 18) (.tmp 16) rfl (w.heap.size + 1) 2 rfl (some (w.heap.size + 2)) rfl _ _ HU5.out (by simp <;> omega) ?_; intro u6 hu6 tu6; have HU6 := Lib.hid hu6; have TU6 := Lib.hid tu6; clear hu6 tu6))
  go_ret
  refine ⟨w.heap.size + 1, w.heap.size, w.heap.size + 2, rfl, ⟨by omega, _, HU6.out, At.touch HR5.out TU6.out (by simp <;> omega), M5.out.keep (TU6.out.block _ M5.out.lt (by simp <;> omega))⟩, TU6.out.below BU5.out (by simp <;> omega) (Nat.le_refl _), by omega, by omega⟩
def zeroN : List Value := [Value.string ⟨#[]⟩, .int .i64 0, .bool false, .string ⟨#[]⟩, .slice none 0 0]
theorem zero_one : ∀ v ∈ zeroN, v.oneCell' = true := by
  intro v hv
  simp only [zeroN, List.mem_cons, List.not_mem_nil, or_false] at hv
  rcases hv with rfl | rfl | rfl | rfl | rfl <;> rfl
/-- what is deferred, where the bytes were amiss -/
theorem catch_amiss (p q : Nat) (old : List Value) (x : Int) (u : TypeId) (pv : Value) (older : List PanicEntry) (w : World) (hp : At w p 24 old) (ho : old.length = 5) (hq : At w q 26 [.int .i64 x]) (hne : p ≠ q) :
    CallsD Try.prog 28 #[.pointer (some ⟨p, 0, none⟩), .pointer (some ⟨q, 0, none⟩)] (.panicking ({ v := .iface u pv, recovered := false } :: older)) w fun e u' w' =>
      e = .returned (.tuple #[]) ∧ u' = .panicking ({ v := .iface u pv, recovered := true } :: older) ∧ Touch [p, q] w w' ∧ At w' p 24 zeroN ∧ At w' q 26 [.int .i64 4] := by
  refine callsD_of_wpS Try.func28 rfl fun c₀ cs hu => ?_
  apply wpS_seq
  apply wpS_region
  simp [wpOpsS, go_sem, recoverD, hu, Try.ntmps28, Exit.thenS]
  refine wpS_cond (t := true) (by simp [Act.eval, Array.replicate]) ?_
  simp only [if_true]
  refine wpS_of_wp ?_
  change Code.wp _ _ _ { tmps := #[.pointer (some ⟨p, 0, none⟩), .pointer (some ⟨q, 0, none⟩), .iface u pv, .bool true, undef], defers := [] } w
  have HQ := Lib.hid hq
  have HP := Lib.hid hp
  clear hq hp
  go_wp2_with (first
    | (refine list_val (op := { dst := some 4, op := _, type := _, pos := _, after := _, guard := _ }) rfl (v := .agg zeroN.toArray) (w' := w) (by kernel_rfl) ?_)
    | (refine store_any rfl 24 (.tmp 0) (.tmp 4) rfl p rfl zeroN rfl _ HP.out (by simp [zeroN, ho]) info_nd zero_one ?_; intro u1 hu1 tu1; have HP1 := Lib.hid hu1; have TU1 := Lib.hid tu1; have HQ1 := Lib.hid (HQ.out.touch tu1 (by simp; omega)); have cq := HQ1.out.cell 0 _ rfl; have fq := HQ1.out.frozen 0; clear hu1 tu1))
  have hT : Touch [p, q] w (u1.setCell ⟨q, 0, none⟩ (.int .i64 4)) := (TU1.out.mono (by simp)).setCell _ _ (.inl (by simp))
  have hQ2 : At (u1.setCell ⟨q, 0, none⟩ (.int .i64 4)) q 26 [.int .i64 4] := HQ1.out.setCell 0 _
  have hP2 : At (u1.setCell ⟨q, 0, none⟩ (.int .i64 4)) p 24 zeroN := HP1.out.setCell_ne _ _ hne
  cases c₀
  simp_all [bodyPostS, results, Try.results28]
theorem catch_idle (p q : Nat) (w : World) :
    CallsD Try.prog 28 #[.pointer (some ⟨p, 0, none⟩), .pointer (some ⟨q, 0, none⟩)] .returning w fun e u' w' => e = .returned (.tuple #[]) ∧ u' = .returning ∧ w' = w := by
  refine callsD_of_wpS Try.func28 rfl fun c₀ cs hu => ?_
  apply wpS_seq
  apply wpS_region
  simp [wpOpsS, go_sem, recoverD, hu, Try.ntmps28, Exit.thenS]
  refine wpS_cond (t := false) (by simp [Act.eval, Array.replicate]) ?_
  simp only [Bool.false_eq_true, if_false]
  refine wpS_of_wp (wp_skip ?_)
  cases c₀
  simp_all [bodyPostS, results, Try.results28]
end Go.Proofs.Ytdpeblchndfdaaa
