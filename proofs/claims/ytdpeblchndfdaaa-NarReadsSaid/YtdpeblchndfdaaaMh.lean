/- newWriter, Encode. -/
import Derived.Test.YtdpeblchndfdaaaMe
import Derived.Test.YtdpeblchndfdaaaMp
namespace Go.Proofs.Ytdpeblchndfdaaa
open Go.RowKit Go.Maps Go.ChangeMaps Go.MapKept
set_option maxRecDepth 100000
section
variable {ops : Array Oper} {rest : List Oper} {op : Oper} {a : Act} {w : World} {Q : Exit → Act → World → Prop}
theorem set_wmap (hgd : op.guard = none) (x y : Operand) (ho : op.op = .store 51 x y) (b n : Nat) (hx : a.eval x = .pointer (some ⟨b, n, none⟩)) (v : Option Nat) (hy : a.eval y = .map v) (cs : List Value) (t : TypeId) (hB : At w b t cs) (hn : n < cs.length)
    (h : ∀ u, At u b t (cs.set n (.map v)) → Touch [b] w u → wpList Try.prog ops Q rest (a.put op.dst undef) u) : wpList Try.prog ops Q (op :: rest) a w := by
  have hi : (Try.prog.info? 51).map (·.size) = some 1 := by kernel_rfl
  cases hq : Try.prog.info? 51 with
  | none => simp [hq] at hi
  | some i =>
    have hs : i.size = 1 := by simpa [hq] using hi
    have hc : w.cell? ⟨b, n, none⟩ = some (cs[n]) := hB.cell n _ (List.getElem?_eq_getElem hn)
    have hf := hB.frozen n
    refine list_skip hgd (w' := w.setCell ⟨b, n, none⟩ (.map v)) ?_ (h _ (hB.setCell n _) ((Touch.refl [b] w).setCell _ _ (.inl (by simp))))
    unfold execOp
    simp only [ho, hx, hy]
    simp [go_sem, hc, hf, sizeOf, typeInfo, hq, hs]
theorem make_w (b : Nat) (hgd : op.guard = none) (ho : op.op = .makeMap 51 none)
    (h : ∀ u, FMap 3 .i64 u w.heap.size b 0 (fun _ => none) → Below w.heap.size w u → u.heap.size = w.heap.size + 1 → wpList Try.prog ops Q rest (a.put op.dst (.map (some w.heap.size))) u) : wpList Try.prog ops Q (op :: rest) a w := by
  refine list_val hgd (v := .map (some w.heap.size)) (w' := w.alloc (.map #[] 0)) ?_ (h _ (FMap.made 3 .i64 w b) ((Below.refl _ w).alloc (Nat.le_refl _) _) (by rw [World.size_alloc]))
  unfold execOp
  simp [ho, Instr.makeMap, run_underlying Try.underlying51, go_sem]
end
set_option maxHeartbeats 2000000 in
theorem newWriter_any (w : World) :
    Calls Try.prog 21 #[] w fun e w' => e = .returned (.pointer (some ⟨w.heap.size, 0, none⟩)) ∧ WAt w.heap.size w' w.heap.size [] ∧ Below w.heap.size w w' := by
  have hmf : ∀ (fn : Fn) (first cap : Array Value) (w : World), (Instr.makeFunc fn first cap).run Try.prog w = .ok (.func fn first cap) w := fun _ _ _ _ => rfl
  go_enter Try.func21, Try.ntmps21
  go_wp2_with (first
    | (refine list_val (op := { dst := some 2, op := _, type := _, pos := _, after := _, guard := _ }) rfl (v := .agg [Value.pointer none, .slice none 0 0, .map none].toArray) (w' := w) (by kernel_rfl) ?_)
    | (with_reducible refine box_any rfl 53 (.tmp 2) rfl [Value.pointer none, .slice none 0 0, .map none] rfl ?_; intro u hu bu zu; have HU := Lib.hid hu; have BU := Lib.hid bu; clear hu bu)
    | (with_reducible refine make_w w.heap.size rfl rfl ?_; intro u2 hu2 bu2 zu2; rw [zu] at hu2 zu2; obtain ⟨w3, r3, m3, t3⟩ := hu2.put Try.underlying3 Try.underlying51 1 (by decide) 43 (by decide); obtain ⟨w4, r4, m4, t4⟩ := m3.put Try.underlying3 Try.underlying51 2 (by decide) 44 (by decide); obtain ⟨w5, r5, m5, t5⟩ := m4.put Try.underlying3 Try.underlying51 3 (by decide) 45 (by decide); rw [zu]; simp only [fnV] at r3 r4 r5; have T35 := Lib.hid (((turned_touch t3).trans (turned_touch t4)).trans (turned_touch t5)); have HU5 := Lib.hid ((HU.out.below bu2 HU.out.lt).touch T35.out (by simp)); have BU5 := Lib.hid (T35.out.below (BU.out.trans (bu2.mono (by omega))) (by simp) (Nat.le_refl _)); have M5 := Lib.hid m5; clear hu2 bu2 t3 t4 t5 m3 m4 m5)
    | (refine set_wmap rfl (.tmp 14) (.tmp 12) rfl w.heap.size 2 rfl (some (w.heap.size + 1)) rfl _ _ HU5.out (by simp) ?_; intro u6 hu6 tu6; have HU6 := Lib.hid hu6; have TU6 := Lib.hid tu6; clear hu6 tu6))
  go_ret
  refine ⟨rfl, ⟨Nat.le_refl _, _, _, _, _, .inl rfl, HU6.out, World.ownsRowF_nil _ _ _ _, Nat.le_succ _, M5.out.keep (TU6.out.block _ M5.out.lt (by simp))⟩, TU6.out.below BU5.out (by simp) (Nat.le_refl _)⟩
/-- how a tree's bytes begin -/
def headB : List UInt8 := txt [119, 104, 105, 115, 107, 45, 116, 114, 101, 101]
/-- what Encode answers -/
def encS (h : Nat) (n : Nd) : List UInt8 := if checkL h n ≠ 0 then [] else if 60000 < (headB ++ encL h n).length then [] else headB ++ encL h n
def encE (h : Nat) (n : Nd) : Int := if checkL h n ≠ 0 then checkL h n else if 60000 < (headB ++ encL h n).length then 3 else 0
theorem check_may {h : Nat} {n : Nd} (hc : checkL h n = 0) : depthL 14 n ≤ 12 ∧ n.name = [] ∧ mayL h n = true ∧ (nodesL h 1 n).length ≤ 2000 ∧ bytesL (nodesL h 1 n) ≤ 100000 := by
  unfold checkL at hc
  split at hc
  · cases hc
  · split at hc
    · cases hc
    · split at hc
      · cases hc
      · rename_i h1 h2 h3
        simp only [Bool.or_eq_true, Bool.not_eq_true', not_or, Bool.not_eq_false] at h2
        refine ⟨by omega, by simpa using h2.1, h2.2, by omega, by omega⟩
set_option maxHeartbeats 2000000 in
theorem encode_any (Dm N : Nat) (hDm : Dm ≤ 1000000) (hDN : Dm * N ≤ 1000000000000000000) (hN0 : N ≤ 1000000000000000000) (h : Nat) (n : Nd) (ao : Option Addr) (cap : Nat) (w : World) (hh : h ≤ 65535) (hH : Has any_ w h n ao) (hGN : depthL 14 n ≤ 12 → mayL h n = true → (∀ p ∈ nodesL h 1 n, GoodD Dm p) ∧ (nodesL h 1 n).length ≤ N)
    (hlen : checkL h n = 0 → (encL h n).length ≤ 900000000) :
    Calls Try.prog 10 #[n.v ao cap] w fun e w' => e = .returned (.tuple #[.string (bs (encS h n)), .int .i64 (encE h n)]) ∧ Below w.heap.size w w' := by
  have HH := Lib.hid hH
  obtain ⟨C, hC⟩ : ∃ C, C = checkL h n := ⟨_, rfl⟩
  obtain ⟨E, hE⟩ : ∃ E, E = headB ++ encL h n := ⟨_, rfl⟩
  have hS : encS h n = if C ≠ 0 then [] else if 60000 < E.length then [] else E := by rw [hC, hE]; rfl
  have hR : encE h n = if C ≠ 0 then C else if 60000 < E.length then 3 else 0 := by rw [hC, hE]; rfl
  rw [hS, hR]
  have HCK := Lib.hid (checkD_any Dm N hDm hDN hN0 h n ao cap)
  have HGN := Lib.hid hGN
  have HC := Lib.hid hC
  have HE := Lib.hid hE
  rw [← hC] at hlen
  have HLEN := Lib.hid hlen
  clear hH hGN hC hE hS hR hlen hDm hDN hN0
  go_enter Try.func10, Try.ntmps10
  go_wp2_with (first
    | (with_reducible refine box_any rfl 24 (.tmp 0) rfl (n.cells ao cap) rfl ?_; intro u hu bu zu; have HU := Lib.hid hu; have BU := Lib.hid bu; clear hu bu)
    | (refine load_any rfl 24 (.tmp 1) rfl ⟨w.heap.size, 0, none⟩ rfl (n.cells ao cap) _ (fun j v hj => by rw [Addr.add0]; exact HU.out.cell j v hj) Try.underlying24 rfl info_nd ?_))
  refine (HCK.out u hh (HH.out.below BU.out) HGN.out).mono ?_
  rintro e w2 ⟨rfl, b2⟩
  rw [← HC.out]
  have z2 := b2.size
  have HU2 := Lib.hid (HU.out.below b2 HU.out.lt)
  have HB2 := Lib.hid (BU.out.trans (b2.mono (by omega)))
  clear b2 HU BU
  by_cases hc : C = 0
  · have hm := check_may (h := h) (n := n) (by rw [← HC.out]; exact hc)
    have HM := Lib.hid hm.2.2.1
    have hle := HLEN.out hc
    clear hm
    subst hc
    go_wp2_with fail
    refine (newWriter_any w2).mono ?_
    rintro e w3 ⟨rfl, h3, b3⟩
    have z3 := b3.size
    have HU3 := Lib.hid (HU2.out.below b3 HU2.out.lt)
    have HS3 := Lib.hid (((HH.out.below HB2.out).mono (S' := fun i => i < w2.heap.size) (fun i _ hi => hi)).under b3)
    have hne : w.heap.size ≠ w2.heap.size := by omega
    have H3 := Lib.hid h3
    have HB3 := Lib.hid b3
    clear h3 b3 HU2
    go_wp2_with fail
    refine (wtext_any w2.heap.size w2.heap.size [] [119, 104, 105, 115, 107, 45, 116, 114, 101, 101] w3 H3.out (by decide) (by decide) z3).mono ?_
    rintro e w4 ⟨rfl, h4, b4, wb4⟩
    have h4' : WAt w2.heap.size w4 w2.heap.size headB := h4
    have z4 := b4.size
    have HU4 := Lib.hid (HU3.out.wb wb4 hne (by decide))
    have H4 := Lib.hid h4'
    have HB4 := Lib.hid (HB3.out.trans b4)
    have HS4 := Lib.hid (HS3.out.under b4)
    have hhl : headB.length ≤ 11 := by decide +kernel
    clear h4 h4' b4 wb4 HU3 HS3 HB3 H3
    go_wp2_with (refine load_any rfl 24 (.tmp 1) rfl ⟨w.heap.size, 0, none⟩ rfl (n.cells ao cap) _ (fun j v hj => by rw [Addr.add0]; exact HU4.out.cell j v hj) Try.underlying24 rfl info_nd ?_)
    refine (wnode_any w2.heap.size h n ao cap w2.heap.size headB w4 (by omega) HS4.out HM.out (by omega) H4.out).mono ?_
    rintro e w5 ⟨rfl, h5, b5, wb5⟩
    rw [← HE.out] at h5
    have z5 := b5.size
    have H5 := Lib.hid h5
    have HB5 := Lib.hid (HB4.out.trans b5)
    have hEl : E ≠ [] := by
      intro e
      have h1 : (headB ++ encL h n).length = 0 := by rw [← HE.out, e]; rfl
      rw [List.length_append] at h1
      have h2 : headB.length = 11 := by decide +kernel
      omega
    clear h5 b5 wb5 HU4 HS4 HB4 H4
    go_wp2_with fail
    refine (wString_any w2.heap.size w2.heap.size E w5 H5.out hEl).mono ?_
    rintro e w6 ⟨rfl, b6⟩
    have HB6 := Lib.hid (HB2.out.trans ((HB5.out.trans b6).mono (by omega)))
    clear b6 HB5 H5
    by_cases h6 : 60000 < E.length
    · have h6' : (60000 : Int) < E.length := by omega
      go_wp2_with fail
      go_ret2
      refine ⟨?_, HB6.out⟩
      show Ending.returned (.tuple #[.string (bs []), .int .i64 3]) = _
      first | rfl | rw [if_neg (by simp), if_pos h6, if_neg (by simp), if_pos h6]
    · have h6' : ¬ (60000 : Int) < E.length := by omega
      go_wp2_with fail
      go_ret2
      refine ⟨?_, HB6.out⟩
      show Ending.returned (.tuple #[.string (bs E), .int .i64 0]) = _
      first | rfl | rw [if_neg (by simp), if_neg h6, if_neg (by simp), if_neg h6]
  · have hc2 : (C != 0) = true := by simpa using hc
    go_wp2_with fail
    go_ret2
    refine ⟨?_, HB2.out⟩
    show Ending.returned (.tuple #[.string (bs []), .int .i64 C]) = _
    first | rfl | rw [if_pos hc, if_pos hc]
end Go.Proofs.Ytdpeblchndfdaaa
