/- kidsMayBe, mayBe, Check. -/
import Derived.Test.YtdpeblchndfdaaaTv
import Derived.Laws.EntriesVeiled
namespace Go.Proofs.Ytdpeblchndfdaaa
open Go.RowKit
set_option maxRecDepth 100000
theorem infoF : (Try.prog.info? 29).map (fun i => (i.zero, i.size, i.bytes)) = some (some Value.nilFunc, 1, 8) := by kernel_rfl
theorem build_three (w : World) (v0 v1 v2 : Value) (h0 : v0.cells = #[v0]) (h1 : v1.cells = #[v1]) (h2 : v2.cells = #[v2]) :
    (Instr.buildSlice 103 3 #[(0, v0), (1, v1), (2, v2)]).run Try.prog w = .ok (.slice (some ⟨w.heap.size, 0, none⟩) 3 3) (w.alloc (.cells #[v0, v1, v2] 29)) := by
  obtain ⟨ie, hie, hz, hn, _⟩ := info_parts infoF
  refine run_buildSlice w 103 29 3 #[(0, v0), (1, v1), (2, v2)] #[v0, v1, v2] ie _ Try.underlying103 hie hz (by rw [hn]; omega) (by rw [hn]; omega) ?_
  have hsz : ((Array.range (3 * ie.size)).map (Value.nilFunc.cells[· % Value.nilFunc.cells.size]!)).size = 3 := by rw [Array.size_map, Array.size_range, hn]
  generalize (Array.range (3 * ie.size)).map (Value.nilFunc.cells[· % Value.nilFunc.cells.size]!) = Z at *
  obtain ⟨l, rfl⟩ : ∃ l : List Value, Z = l.toArray := ⟨Z.toList, by simp⟩
  match l, hsz with
  | [x, y, u], _ => simp [Instr.fill, h0, h1, h2, hn]
theorem build_onef (w : World) (v0 : Value) (h0 : v0.cells = #[v0]) :
    (Instr.buildSlice 103 1 #[(0, v0)]).run Try.prog w = .ok (.slice (some ⟨w.heap.size, 0, none⟩) 1 1) (w.alloc (.cells #[v0] 29)) := by
  obtain ⟨ie, hie, hz, hn, _⟩ := info_parts infoF
  refine run_buildSlice w 103 29 1 #[(0, v0)] #[v0] ie _ Try.underlying103 hie hz (by rw [hn]; omega) (by rw [hn]; omega) ?_
  have hsz : ((Array.range (1 * ie.size)).map (Value.nilFunc.cells[· % Value.nilFunc.cells.size]!)).size = 1 := by rw [Array.size_map, Array.size_range, hn]
  generalize (Array.range (1 * ie.size)).map (Value.nilFunc.cells[· % Value.nilFunc.cells.size]!) = Z at *
  obtain ⟨x, rfl⟩ : ∃ x, Z = #[x] := Array.size_eq_one_iff.1 hsz
  simp [Instr.fill, h0, hn]
section
variable {P : Program} {ops : Array Oper} {rest : List Oper} {op : Oper} {a : Act} {w : World} {Q : Exit → Act → World → Prop}
theorem build_fns (hgd : op.guard = none) (x y u : Operand) (ho : op.op = .buildSlice 103 3 #[(0, x), (1, y), (2, u)]) (v0 v1 v2 : Value) (hx : a.eval x = v0) (hy : a.eval y = v1) (hu : a.eval u = v2) (h0 : v0.cells = #[v0]) (h1 : v1.cells = #[v1]) (h2 : v2.cells = #[v2])
    (h : ∀ z, At z w.heap.size 29 [v0, v1, v2] → Below w.heap.size w z → z.heap.size = w.heap.size + 1 → wpList Try.prog ops Q rest (a.put op.dst (.slice (some ⟨w.heap.size, 0, none⟩) 3 3)) z) : wpList Try.prog ops Q (op :: rest) a w := by
  refine list_val hgd (v := .slice (some ⟨w.heap.size, 0, none⟩) 3 3) (w' := w.alloc (.cells #[v0, v1, v2] 29)) ?_ (h _ (At.new w _ _) ((Below.refl _ w).alloc (Nat.le_refl _) _) (by rw [World.size_alloc]))
  have hr := build_three w v0 v1 v2 h0 h1 h2
  unfold execOp
  simp only [ho, List.map_toArray, List.map_cons, List.map_nil, hx, hy, hu, Sem.run_bind, hr, Result.andThen_ok]
  rfl
theorem build_fn (hgd : op.guard = none) (x : Operand) (ho : op.op = .buildSlice 103 1 #[(0, x)]) (v0 : Value) (hx : a.eval x = v0) (h0 : v0.cells = #[v0])
    (h : ∀ z, At z w.heap.size 29 [v0] → Below w.heap.size w z → z.heap.size = w.heap.size + 1 → wpList Try.prog ops Q rest (a.put op.dst (.slice (some ⟨w.heap.size, 0, none⟩) 1 1)) z) : wpList Try.prog ops Q (op :: rest) a w := by
  refine list_val hgd (v := .slice (some ⟨w.heap.size, 0, none⟩) 1 1) (w' := w.alloc (.cells #[v0] 29)) ?_ (h _ (At.new w _ _) ((Below.refl _ w).alloc (Nat.le_refl _) _) (by rw [World.size_alloc]))
  have hr := build_onef w v0 h0
  unfold execOp
  simp only [ho, List.map_toArray, List.map_cons, List.map_nil, hx, Sem.run_bind, hr, Result.andThen_ok]
  rfl
end
theorem hold_s {P : Program} {ops : Array Oper} {rest : List Oper} {op : Oper} {a : Act} {w : World} {Q : Exit → Act → World → Prop} (x y : Operand) (ho : op.op = .store 24 x y) (h : held (wpList P ops Q (op :: rest) a w)) : wpList P ops Q (op :: rest) a w := h
/-- may it be the kid at this place? -/
def kidOk (f : Nd → Bool) (ks : List Nd) (i : Nat) (m : Nd) : Bool := (decide (i = 0) || (match ks[i - 1]? with | some p => Op.bytesLess p.name m.name | none => true)) && (nameOk m.name && f m)
def kidsOk (f : Nd → Bool) (ks : List Nd) : Bool := ks.zipIdx.all (fun p => kidOk f ks p.2 p.1)
def mayL : Nat → Nd → Bool
  | 0, _ => false
  | h + 1, n => if n.kind = 1 then n.kids.isEmpty else if n.kind = 2 then !n.exec && (n.data.isEmpty && kidsOk (mayL h) n.kids) else if n.kind = 3 then !n.exec && (n.kids.isEmpty && textOk n.data 255) else false
theorem enter70 : ∀ (args : Array Value) (w : World), (callFunc 85 args).run Try.prog w = .ok (.enter 85 args) w := enters_of Try.func85 (by kernel_rfl) rfl
theorem enter71 : ∀ (args : Array Value) (w : World), (callFunc 86 args).run Try.prog w = .ok (.enter 86 args) w := enters_of Try.func86 (by kernel_rfl) rfl
theorem enter73 : ∀ (args : Array Value) (w : World), (callFunc 88 args).run Try.prog w = .ok (.enter 88 args) w := enters_of Try.func88 (by kernel_rfl) rfl
theorem enter50 : ∀ (args : Array Value) (w : World), (callFunc 64 args).run Try.prog w = .ok (.enter 64 args) w := enters_of Try.func64 (by kernel_rfl) rfl
theorem enter51 : ∀ (args : Array Value) (w : World), (callFunc 65 args).run Try.prog w = .ok (.enter 65 args) w := enters_of Try.func65 (by kernel_rfl) rfl
theorem enter52 : ∀ (args : Array Value) (w : World), (callFunc 66 args).run Try.prog w = .ok (.enter 66 args) w := enters_of Try.func66 (by kernel_rfl) rfl
theorem enter54 : ∀ (args : Array Value) (w : World), (callFunc 68 args).run Try.prog w = .ok (.enter 68 args) w := enters_of Try.func68 (by kernel_rfl) rfl
theorem enter56 : ∀ (args : Array Value) (w : World), (callFunc 70 args).run Try.prog w = .ok (.enter 70 args) w := enters_of Try.func70 (by kernel_rfl) rfl
theorem km3_any (f : Nd → Bool) (B : Nat) (m : Nd) (ao : Option Addr) (cap : Nat) (w : World) (hB : At w B 24 (m.cells ao cap)) (hm : Calls Try.prog 39 #[m.v ao cap] w fun e w' => e = .returned (.bool (f m)) ∧ Below w.heap.size w w') :
    Calls Try.prog 88 #[.pointer (some ⟨B, 0, none⟩)] w fun e w' => e = .returned (.bool (f m)) ∧ Below w.heap.size w w' := by
  have HB := Lib.hid hB
  have HM := Lib.hid hm
  clear hB hm
  go_enter Try.func88, Try.ntmps88
  go_wp2_with (refine load_any rfl 24 (.tmp 0) rfl ⟨B, 0, none⟩ rfl (m.cells ao cap) _ (fun j v hj => by rw [Addr.add0]; exact HB.out.cell j v hj) Try.underlying24 rfl info_nd ?_)
  refine HM.out.mono ?_
  rintro e w1 ⟨rfl, b1⟩
  have HB1 := Lib.hid b1
  clear b1
  go_wp2
  go_ret
  exact ⟨rfl, HB1.out⟩
set_option maxHeartbeats 8000000 in
theorem kidsMayBe_any (f : Nd → Bool) (h : Nat) (n : Nd) (ao : Option Addr) (cap : Nat) (w : World) (hH : Has any_ w (h + 1) n ao)
    (hf : ∀ (m : Nd) (g : Option Addr) (c : Nat) (w' : World), Has any_ w' h m g → Calls Try.prog 39 #[m.v g c] w' fun e w'' => e = .returned (.bool (f m)) ∧ Below w'.heap.size w' w'') :
    Calls Try.prog 69 #[.slice ao n.kids.length cap] w fun e w' => e = .returned (.bool (kidsOk f n.kids)) ∧ Below w.heap.size w w' := by
  have hkl := hH.1
  unfold maxLen at hkl
  have HH := Lib.hid hH
  have HF := Lib.hid hf
  have hmf : ∀ (fn : Fn) (first cap : Array Value) (w : World), (Instr.makeFunc fn first cap).run Try.prog w = .ok (.func fn first cap) w := fun _ _ _ _ => rfl
  obtain ⟨R, hR⟩ : ∃ R, R = kidsOk f n.kids := ⟨_, rfl⟩
  rw [← hR]
  have HR := Lib.hid hR
  obtain ⟨ks, hks⟩ : ∃ ks, ks = n.kids := ⟨_, rfl⟩
  rw [← hks] at hkl ⊢
  have HKS := Lib.hid hks
  have aK := At.new w #[.slice ao ks.length cap] 22
  have bK := (Below.refl _ w).alloc (Nat.le_refl _) (.cells #[.slice ao ks.length cap] 22)
  have AK := Lib.hid aK
  have BK := Lib.hid bK
  clear hH hf hR hks aK bK
  go_enter Try.func69, Try.ntmps69
  go_wp2_with fail
  generalize w.alloc (.cells #[.slice ao ks.length cap] 22) = w1 at *
  have z1 := BK.out.size
  have zK := AK.out.lt
  go_loopw [9] (fun i wx => ∃ k : Nat, k ≤ ks.length ∧ i = .int .i64 k ∧ Below w1.heap.size w1 wx ∧ (ks.zipIdx.take k).all (fun p => kidOk f ks p.2 p.1) = true) (fun i _ => ks.length - (intOf i).toNat)
  case atStart => exact ⟨0, Nat.zero_le _, rfl, Below.refl _ _, by simp⟩
  case round =>
    obtain ⟨k, hk, rfl, hBe, hall⟩ := hrel
    have HBE := Lib.hid hBe
    have HALL := Lib.hid hall
    have hwz := hBe.size
    clear hBe hall
    by_cases hlt : k < ks.length
    · have hlt' : (k : Int) < ks.length := by omega
      obtain ⟨m, hm⟩ : ∃ m, ks[k]? = some m := ⟨_, List.getElem?_eq_getElem hlt⟩
      have hH1 := (HH.out.below BK.out).below HBE.out
      obtain ⟨x, g, c, rfl, _, hKd, hM⟩ := hH1.2 k m (by rw [← HKS.out]; exact hm)
      have HKd := Lib.hid hKd
      have HM := Lib.hid hM
      have HMM := Lib.hid hm
      have HH1 := Lib.hid hH1
      clear hKd hM hm hH1
      go_wp2_with (first
        | (refine load_any rfl 24 (.tmp 12) rfl (x.add (k * 5)) rfl (m.cells g c) _ (fun j v hj => HKd.out j v hj) Try.underlying24 rfl info_nd ?_)
        | (refine alloc_int rfl rfl ?_; intro u2 hu2 bu2 zu2; have HI2 := Lib.hid hu2; clear hu2)
        | (with_reducible refine alloc_any rfl 24 rfl _ zero_nd ?_; intro u3 hu3 bu3 zu3; rw [zu2] at hu3; have HU3 := Lib.hid hu3; have HI3 := Lib.hid (HI2.out.below bu3 HI2.out.lt); have BU3 := Lib.hid (bu2.trans (bu3.mono (by omega))); clear hu3 bu3)
        | (refine store_int_any rfl (.tmp 3) (.tmp 11) rfl wr.heap.size 0 rfl (k : Int) rfl _ [.int .i64 (k : Int)] HI3.out (by simp) rfl ?_; intro u4 hu4 tu4; have HI4 := Lib.hid hu4; have HU4 := Lib.hid (HU3.out.touch tu4 (by simp)); have BU4 := Lib.hid (tu4.below BU3.out (by simp) (Nat.le_refl _)); clear hu4 tu4)
        | (with_reducible refine hold_s (.tmp 4) (.tmp 13) rfl ?_))
      unfold held
      refine store_any (hgd := rfl) (ty := 24) (x := .tmp 4) (y := .tmp 13) (ho := rfl) (B := wr.heap.size + 1) (hx := ?hx) (cs := m.cells g c) (hy := ?hy) (hB := HU4.out) (hl := rfl) (hi := info_nd) (h1 := nd_one m g c) (old := _) ?_
      · rfl
      · rfl
      intro u5 hu5 tu5
      have HU5 := Lib.hid hu5
      have HI5 := Lib.hid (HI4.out.touch tu5 (fun e => by simp at e))
      have BU5 := Lib.hid (Touch.below BU4.out tu5 (fun i hi => by
        have : i = wr.heap.size + 1 := by simpa using hi
        omega) (Nat.le_refl _))
      clear hu5 tu5
      go_wp2_with (first
        | (refine build_fns rfl (.tmp 16) (.tmp 17) (.tmp 18) rfl (Cl.v ⟨85, #[.pointer (some ⟨wr.heap.size, 0, none⟩), .pointer (some ⟨w.heap.size, 0, none⟩), .pointer (some ⟨wr.heap.size + 1, 0, none⟩)], (decide (k = 0) || (match ks[k - 1]? with | some p => Op.bytesLess p.name m.name | none => true))⟩) (Cl.v ⟨86, #[.pointer (some ⟨wr.heap.size + 1, 0, none⟩)], nameOk m.name⟩) (Cl.v ⟨88, #[.pointer (some ⟨wr.heap.size + 1, 0, none⟩)], f m⟩) rfl rfl rfl rfl rfl rfl ?_; intro u6 hu6 bu6 zu6; have HB6 := Lib.hid hu6; have BU6 := Lib.hid bu6; clear hu6 bu6))
      have hz5 := BU5.out.size
      have hK5 := ((AK.out.below HBE.out (by omega)).below BU5.out (by omega))
      have hH5 := HH1.out.below BU5.out
      refine (all_any u5.heap.size 3 [⟨85, #[.pointer (some ⟨wr.heap.size, 0, none⟩), .pointer (some ⟨w.heap.size, 0, none⟩), .pointer (some ⟨wr.heap.size + 1, 0, none⟩)], (decide (k = 0) || (match ks[k - 1]? with | some p => Op.bytesLess p.name m.name | none => true))⟩, ⟨86, #[.pointer (some ⟨wr.heap.size + 1, 0, none⟩)], nameOk m.name⟩, ⟨88, #[.pointer (some ⟨wr.heap.size + 1, 0, none⟩)], f m⟩] (by simp) u6 HB6.out ?_).mono ?_
      · intro cl hcl
        simp only [List.mem_cons, List.not_mem_nil, or_false] at hcl
        rcases hcl with rfl | rfl | rfl
        · refine ⟨enter70, fun w' b' => ?_⟩
          have bb := BU6.out.trans (b'.mono BU6.out.size)
          have hh := km1_any wr.heap.size w.heap.size (wr.heap.size + 1) k m g (some x) c cap n h w' (HI5.out.below bb HI5.out.lt) (by rw [← HKS.out]; exact hK5.below bb hK5.lt) (HU5.out.below bb HU5.out.lt) (hH5.below bb) (by rw [← HKS.out]; exact HMM.out)
          rw [← HKS.out] at hh
          exact hh
        · refine ⟨enter71, fun w' b' => ?_⟩
          have bb := BU6.out.trans (b'.mono BU6.out.size)
          exact km2_any (wr.heap.size + 1) m g c w' (HU5.out.below bb HU5.out.lt)
        · refine ⟨enter73, fun w' b' => ?_⟩
          have bb := BU6.out.trans (b'.mono BU6.out.size)
          exact km3_any f (wr.heap.size + 1) m g c w' (HU5.out.below bb HU5.out.lt) (HF.out m g c w' ((HM.out.below BU5.out).below bb))
      · rintro e w7 ⟨rfl, b7⟩
        have HB7 := Lib.hid (((HBE.out.trans (BU5.out.mono hwz)).trans (BU6.out.mono (by omega))).trans (b7.mono (by have := BU6.out.size; omega)))
        have hkk : (List.all [(⟨85, #[.pointer (some ⟨wr.heap.size, 0, none⟩), .pointer (some ⟨w.heap.size, 0, none⟩), .pointer (some ⟨wr.heap.size + 1, 0, none⟩)], (decide (k = 0) || (match ks[k - 1]? with | some p => Op.bytesLess p.name m.name | none => true))⟩ : Cl), ⟨86, #[.pointer (some ⟨wr.heap.size + 1, 0, none⟩)], nameOk m.name⟩, ⟨88, #[.pointer (some ⟨wr.heap.size + 1, 0, none⟩)], f m⟩] (·.r)) = kidOk f ks k m := by
          simp only [List.all_cons, List.all_nil, Bool.and_true]; rfl
        rw [hkk]
        have hzi : ks.zipIdx[k]? = some (m, k) := by rw [List.getElem?_zipIdx, HMM.out]; simp
        have HZI := Lib.hid hzi
        clear b7 hkk hzi hK5 hH5
        cases hq : kidOk f ks k m
        · go_wp2_with fail
          go_ret
          refine ⟨?_, BK.out.trans (HB7.out.mono z1)⟩
          have : kidsOk f ks = false := by
            unfold kidsOk
            rw [List.all_eq_false]
            exact ⟨(m, k), List.mem_of_getElem? HZI.out, by simp [hq]⟩
          rw [HR.out, ← HKS.out, this]; rfl
        · go_wp2_with fail
          go_roundw
          case rel => exact ⟨k + 1, by omega, by go_num, HB7.out, by rw [List.take_add_one, HZI.out, List.all_append, HALL.out]; simp [hq]⟩
          case measure => simp [intOf]; omega
    · obtain rfl : k = ks.length := by omega
      go_wp2_with fail
      go_ret
      refine ⟨?_, BK.out.trans (HBE.out.mono z1)⟩
      have : kidsOk f ks = true := by
        unfold kidsOk
        have h := HALL.out
        rwa [List.take_of_length_le (by rw [List.length_zipIdx]; omega)] at h
      rw [HR.out, ← HKS.out, this]; rfl
end Go.Proofs.Ytdpeblchndfdaaa
