/- The closures of Open. -/
import Derived.Test.YtcgjkopdnhkdiaaJq
namespace Go.Proofs.Ytcgjkopdnhkdiaa
open Go.RowKit
set_option maxRecDepth 100000
theorem run_call_val {P : Program} {o : Oper} {a : Act} {w : World} {f : FuncId} {x : Operand} {args : Array Operand} {ts : Array TypeId} (ho : o.op = .call { callee := .value x, args := args, argTypes := ts }) (b c : Array Value) (hx : a.eval x = .func (.func f) b c)
    (e : ∀ args w, (callFunc f args).run P w = .ok (.enter f args) w) (vals : Array Value) (hv : b ++ args.map a.eval ++ c = vals) : (execOp a.eval o).run P w = .ok (.enter f vals) w := by
  unfold execOp
  have h2 : (invoke (.fn (.func f) c) (b ++ args.map a.eval)).run P w = .ok (.enter f vals) w := by
    unfold invoke
    rw [← hv]; exact e _ _
  simp only [ho, resolve, hx]
  simp [Result.andThen, Deferred.ofValue, h2]
theorem readFn_any (k : Nat) (bd b8 bf : Nat) (w : World) :
    Calls Try.prog 53 #[.int .i64 (k : Int), .pointer (some ⟨bd, 0, none⟩), .pointer (some ⟨b8, 0, none⟩), .pointer (some ⟨bf, 0, none⟩)] w fun e w' => e = .returned (.func (.func 54) #[] #[.pointer (some ⟨bd, 0, none⟩), .pointer (some ⟨b8, 0, none⟩), .pointer (some ⟨w.heap.size, 0, none⟩), .pointer (some ⟨bf, 0, none⟩)]) ∧ w' = w.alloc (.cells #[.int .i64 (k : Int)] 3) := by
  go_enter Try.func53, Try.ntmps53
  go_wp2
  go_ret
  exact ⟨rfl, rfl⟩
def putF (g0 g1 : List UInt8) (k : Nat) (l : List UInt8) : List UInt8 × List UInt8 := if k = 0 then (l, g1) else (g0, l)
def fcells (g : List UInt8 × List UInt8) : List Value := [.string (bs g.1), .string (bs g.2)]
section
variable {w : World} {D F N : Nat} {ao : Option Addr} {cap n : Nat} {s : Dk}
set_option maxHeartbeats 8000000 in
theorem readStep0_any (h : DiskAt w D F N ao cap n s) (p : Pl) (hp : p.Ok) (bd b8 bi bf : Nat) (g0 g1 : List UInt8) (aD : At w bd 23 [.pointer (some ⟨D, 0, none⟩)]) (a8 : At w b8 83 p.cells) (aI : At w bi 3 [.int .i64 0]) (aF : At w bf 92 (fcells (g0, g1)))
    (hne : bf ∉ foot D F N ao) (hn1 : bd ≠ D) (hn2 : b8 ≠ D) (hn3 : bi ≠ D) (hn4 : bf ≠ D) (hm1 : bd ≠ bf) (hm2 : b8 ≠ bf) (hm3 : bi ≠ bf) (ho : s.ops < 9223372036854775807) :
    Calls Try.prog 54 #[.pointer (some ⟨bd, 0, none⟩), .pointer (some ⟨b8, 0, none⟩), .pointer (some ⟨bi, 0, none⟩), .pointer (some ⟨bf, 0, none⟩)] w fun e w' => e = .returned (.int .i64 (s.readE n ((p.at_ + 0 : Nat) : Int))) ∧ DiskAt w' D F N ao cap n (s.readD n ((p.at_ + 0 : Nat) : Int)) ∧ At w' bf 92 (fcells (putF g0 g1 0 (s.readS n ((p.at_ + 0 : Nat) : Int)))) ∧ Touch [D, bf] w w' := by
  have HD := Lib.hid h
  have AD := Lib.hid aD
  have A8 := Lib.hid a8
  have AI := Lib.hid aI
  have AF := Lib.hid aF
  clear h aD a8 aI aF
  go_enter Try.func54, Try.ntmps54
  go_wp2_with fail
  refine region_any (fun W => At W bd 23 [.pointer (some ⟨D, 0, none⟩)] ∧ At W b8 83 p.cells ∧ At W bi 3 [.int .i64 0]) 12 (by kernel_rfl) ?_
  have S0 : (fun W => At W bd 23 [.pointer (some ⟨D, 0, none⟩)] ∧ At W b8 83 p.cells ∧ At W bi 3 [.int .i64 0]) w.drew := ⟨AD.out.drew, A8.out.drew, AI.out.drew⟩
  refine wpAnyT_takeN (i := 0) (v := (.int .i64 0)) rfl (by decide) (by kernel_rfl) (by kernel_rfl) (by kernel_rfl) (fun _ _ _ h => h) (.inl ⟨by kernel_rfl, fun W hS => run_load_one 3 (.tmp 2) rfl ⟨bi, 0, none⟩ (by kernel_rfl) _ (hS.2.2.cell 0 _ rfl) _ Try.underlying3 rfl⟩) S0 ?_
  refine wpAnyT_takeN (i := 1) (v := (.pointer (some ⟨D, 0, none⟩))) rfl (by decide) (by kernel_rfl) (by kernel_rfl) (by kernel_rfl) (fun _ _ _ h => h) (.inl ⟨by kernel_rfl, fun W hS => run_load_one 23 (.tmp 0) rfl ⟨bd, 0, none⟩ (by kernel_rfl) _ (hS.1.cell 0 _ rfl) _ Try.underlying23 rfl⟩) S0 ?_
  refine wpAnyT_takeN (i := 2) (v := (Pl.v p)) rfl (by decide) (by kernel_rfl) (by kernel_rfl) (by kernel_rfl) (fun _ _ _ h => h) (.inl ⟨by kernel_rfl, fun W hS => run_load_op 83 (.tmp 1) rfl b8 0 (by kernel_rfl) p.cells _ hS.2.1.range0 Try.underlying83 rfl (by kernel_rfl)⟩) S0 ?_
  refine wpAnyT_takeN (i := 3) (v := (.int .i64 0)) rfl (by decide) (by kernel_rfl) (by kernel_rfl) (by kernel_rfl) (fun _ _ _ h => h) (.inl ⟨by kernel_rfl, fun W hS => run_load_one 3 (.tmp 2) rfl ⟨bi, 0, none⟩ (by kernel_rfl) _ (hS.2.2.cell 0 _ rfl) _ Try.underlying3 rfl⟩) S0 ?_
  refine wpAnyT_all (rs := [4]) (by kernel_rfl) (by simp) ?_
  intro q hq
  obtain rfl : q = 4 := by simpa using hq
  refine wpOp_call rfl (by kernel_rfl) 55 #[Pl.v p, .int .i64 ((0 : Nat) : Int)] (run_call_func rfl enter_headAt _ (by kernel_rfl)) ((headAt_any p hp 0 (by decide) w.drew).mono ?_)
  rintro e v1 ⟨rfl, c1⟩
  have D1 := AD.out.drew.below c1 AD.out.lt
  have P1 := A8.out.drew.below c1 A8.out.lt
  have I1 := AI.out.drew.below c1 AI.out.lt
  have Q1 := HD.out.drew.below c1
  have G1 := AF.out.drew.below c1 AF.out.lt
  have R1 := (Touch.refl [D, bf] w).drew.step (Touch.of_below (ft := []) c1) (by simp)
  refine ⟨_, rfl, fun _ => ⟨D1, P1, I1⟩, ?_⟩
  refine wpAnyT_all (rs := [5]) (by kernel_rfl) (by simp) ?_
  intro q hq
  obtain rfl : q = 5 := by simpa using hq
  refine wpOp_call rfl (by kernel_rfl) 11 #[.pointer (some ⟨D, 0, none⟩), .int .i64 ((p.at_ + 0 : Nat) : Int)] (run_call_func rfl enter_Read _ (by kernel_rfl)) ((dk_read Q1 ((p.at_ + 0 : Nat) : Int) ho).mono ?_)
  rintro e v2 ⟨rfl, Q2, t2⟩
  have D2 := D1.touch t2 (by simpa using hn1)
  have P2 := P1.touch t2 (by simpa using hn2)
  have I2 := I1.touch t2 (by simpa using hn3)
  have G2 := G1.touch t2 (by simpa using hn4)
  have R2 := R1.step t2 (fun i hi => .inl (by simp at hi; simp [hi]))
  refine ⟨_, rfl, fun _ => ⟨D2, P2, I2⟩, ?_⟩
  refine wpAnyT_takeN (i := 6) (v := (.tuple #[.string (bs (s.readS n ((p.at_ + 0 : Nat) : Int))), .int .i64 (s.readE n ((p.at_ + 0 : Nat) : Int))])) rfl (by decide) (by kernel_rfl) (by kernel_rfl) (by kernel_rfl) (fun _ _ _ h => h) (.inl ⟨by kernel_rfl, fun W hS => by kernel_rfl⟩) ⟨D2, P2, I2⟩ ?_
  refine wpAnyT_takeN (i := 7) (v := (.string (bs (s.readS n ((p.at_ + 0 : Nat) : Int))))) rfl (by decide) (by kernel_rfl) (by kernel_rfl) (by kernel_rfl) (fun _ _ _ h => h) (.inl ⟨by kernel_rfl, fun W hS => by kernel_rfl⟩) ⟨D2, P2, I2⟩ ?_
  refine wpAnyT_takeN (i := 8) (v := (.int .i64 (s.readE n ((p.at_ + 0 : Nat) : Int)))) rfl (by decide) (by kernel_rfl) (by kernel_rfl) (by kernel_rfl) (fun _ _ _ h => h) (.inl ⟨by kernel_rfl, fun W hS => by kernel_rfl⟩) ⟨D2, P2, I2⟩ ?_
  refine wpAnyT_takeN (i := 9) (v := (.pointer (some ⟨bf, 0, none⟩))) rfl (by decide) (by kernel_rfl) (by kernel_rfl) (by kernel_rfl) (fun _ _ _ h => h) (.inl ⟨by kernel_rfl, fun W hS => by kernel_rfl⟩) ⟨D2, P2, I2⟩ ?_
  have G3 := G2.setCell 0 (.string (bs (s.readS n ((p.at_ + 0 : Nat) : Int))))
  have D3 := D2.setCell_ne ⟨bf, 0, none⟩ (.string (bs (s.readS n ((p.at_ + 0 : Nat) : Int)))) hm1
  have P3 := P2.setCell_ne ⟨bf, 0, none⟩ (.string (bs (s.readS n ((p.at_ + 0 : Nat) : Int)))) hm2
  have I3 := I2.setCell_ne ⟨bf, 0, none⟩ (.string (bs (s.readS n ((p.at_ + 0 : Nat) : Int)))) hm3
  have Q3 : DiskAt (v2.setCell ⟨bf, 0, none⟩ (.string (bs (s.readS n ((p.at_ + 0 : Nat) : Int))))) D F N ao cap n (s.readD n ((p.at_ + 0 : Nat) : Int)) := theDisk_same Q2 (fun i hi => Below.heap_setCell _ _ _ _ (fun e => hne (by have e2 : i = bf := e; rw [← e2]; exact hi)))
  have R3 := R2.setCell ⟨bf, 0, none⟩ (.string (bs (s.readS n ((p.at_ + 0 : Nat) : Int)))) (.inl (by simp))
  refine wpAnyT_all (rs := [10]) (by kernel_rfl) (by simp) ?_
  intro q hq
  obtain rfl : q = 10 := by simpa using hq
  refine wpOp_skip rfl (by kernel_rfl) (run_store_str (.tmp 14) (.tmp 12) rfl ⟨bf, 0, none⟩ (by kernel_rfl) (s.readS n ((p.at_ + 0 : Nat) : Int)) (by kernel_rfl) _ (G2.cell 0 _ rfl) (G2.frozen 0)) ⟨fun _ => ⟨D3, P3, I3⟩, ?_⟩
  refine wpAnyT_takeN (i := 11) (v := (.int .i64 (s.readE n ((p.at_ + 0 : Nat) : Int)))) rfl (by decide) (by kernel_rfl) (by kernel_rfl) (by kernel_rfl) (fun _ _ _ h => h) (.inl ⟨by kernel_rfl, fun W hS => by kernel_rfl⟩) ⟨D3, P3, I3⟩ ?_
  refine wpAnyT_done (by kernel_rfl) ?_ _
  simp only [Act.put, List.getElem_toArray, List.getElem_cons_succ, List.getElem_cons_zero, List.setIfInBounds_toArray, List.set_cons_zero, List.set_cons_succ]
  have Q4 := Lib.hid Q3
  have G4 := Lib.hid G3
  have R4 := Lib.hid R3
  clear Q3 G3 R3 D3 P3 I3 D2 P2 I2 G2 Q2 R2 D1 P1 I1 G1 Q1 R1 t2 c1 S0 AD A8 AI AF HD
  go_wp2
  go_ret
  exact ⟨rfl, Q4.out, G4.out, R4.out⟩
set_option maxHeartbeats 8000000 in
theorem readStep1_any (h : DiskAt w D F N ao cap n s) (p : Pl) (hp : p.Ok) (bd b8 bi bf : Nat) (g0 g1 : List UInt8) (aD : At w bd 23 [.pointer (some ⟨D, 0, none⟩)]) (a8 : At w b8 83 p.cells) (aI : At w bi 3 [.int .i64 1]) (aF : At w bf 92 (fcells (g0, g1)))
    (hne : bf ∉ foot D F N ao) (hn1 : bd ≠ D) (hn2 : b8 ≠ D) (hn3 : bi ≠ D) (hn4 : bf ≠ D) (hm1 : bd ≠ bf) (hm2 : b8 ≠ bf) (hm3 : bi ≠ bf) (ho : s.ops < 9223372036854775807) :
    Calls Try.prog 54 #[.pointer (some ⟨bd, 0, none⟩), .pointer (some ⟨b8, 0, none⟩), .pointer (some ⟨bi, 0, none⟩), .pointer (some ⟨bf, 0, none⟩)] w fun e w' => e = .returned (.int .i64 (s.readE n ((p.at_ + 1 : Nat) : Int))) ∧ DiskAt w' D F N ao cap n (s.readD n ((p.at_ + 1 : Nat) : Int)) ∧ At w' bf 92 (fcells (putF g0 g1 1 (s.readS n ((p.at_ + 1 : Nat) : Int)))) ∧ Touch [D, bf] w w' := by
  have HD := Lib.hid h
  have AD := Lib.hid aD
  have A8 := Lib.hid a8
  have AI := Lib.hid aI
  have AF := Lib.hid aF
  clear h aD a8 aI aF
  go_enter Try.func54, Try.ntmps54
  go_wp2_with fail
  refine region_any (fun W => At W bd 23 [.pointer (some ⟨D, 0, none⟩)] ∧ At W b8 83 p.cells ∧ At W bi 3 [.int .i64 1]) 12 (by kernel_rfl) ?_
  have S0 : (fun W => At W bd 23 [.pointer (some ⟨D, 0, none⟩)] ∧ At W b8 83 p.cells ∧ At W bi 3 [.int .i64 1]) w.drew := ⟨AD.out.drew, A8.out.drew, AI.out.drew⟩
  refine wpAnyT_takeN (i := 0) (v := (.int .i64 1)) rfl (by decide) (by kernel_rfl) (by kernel_rfl) (by kernel_rfl) (fun _ _ _ h => h) (.inl ⟨by kernel_rfl, fun W hS => run_load_one 3 (.tmp 2) rfl ⟨bi, 0, none⟩ (by kernel_rfl) _ (hS.2.2.cell 0 _ rfl) _ Try.underlying3 rfl⟩) S0 ?_
  refine wpAnyT_takeN (i := 1) (v := (.pointer (some ⟨D, 0, none⟩))) rfl (by decide) (by kernel_rfl) (by kernel_rfl) (by kernel_rfl) (fun _ _ _ h => h) (.inl ⟨by kernel_rfl, fun W hS => run_load_one 23 (.tmp 0) rfl ⟨bd, 0, none⟩ (by kernel_rfl) _ (hS.1.cell 0 _ rfl) _ Try.underlying23 rfl⟩) S0 ?_
  refine wpAnyT_takeN (i := 2) (v := (Pl.v p)) rfl (by decide) (by kernel_rfl) (by kernel_rfl) (by kernel_rfl) (fun _ _ _ h => h) (.inl ⟨by kernel_rfl, fun W hS => run_load_op 83 (.tmp 1) rfl b8 0 (by kernel_rfl) p.cells _ hS.2.1.range0 Try.underlying83 rfl (by kernel_rfl)⟩) S0 ?_
  refine wpAnyT_takeN (i := 3) (v := (.int .i64 1)) rfl (by decide) (by kernel_rfl) (by kernel_rfl) (by kernel_rfl) (fun _ _ _ h => h) (.inl ⟨by kernel_rfl, fun W hS => run_load_one 3 (.tmp 2) rfl ⟨bi, 0, none⟩ (by kernel_rfl) _ (hS.2.2.cell 0 _ rfl) _ Try.underlying3 rfl⟩) S0 ?_
  refine wpAnyT_all (rs := [4]) (by kernel_rfl) (by simp) ?_
  intro q hq
  obtain rfl : q = 4 := by simpa using hq
  refine wpOp_call rfl (by kernel_rfl) 55 #[Pl.v p, .int .i64 ((1 : Nat) : Int)] (run_call_func rfl enter_headAt _ (by kernel_rfl)) ((headAt_any p hp 1 (by decide) w.drew).mono ?_)
  rintro e v1 ⟨rfl, c1⟩
  have D1 := AD.out.drew.below c1 AD.out.lt
  have P1 := A8.out.drew.below c1 A8.out.lt
  have I1 := AI.out.drew.below c1 AI.out.lt
  have Q1 := HD.out.drew.below c1
  have G1 := AF.out.drew.below c1 AF.out.lt
  have R1 := (Touch.refl [D, bf] w).drew.step (Touch.of_below (ft := []) c1) (by simp)
  refine ⟨_, rfl, fun _ => ⟨D1, P1, I1⟩, ?_⟩
  refine wpAnyT_all (rs := [5]) (by kernel_rfl) (by simp) ?_
  intro q hq
  obtain rfl : q = 5 := by simpa using hq
  refine wpOp_call rfl (by kernel_rfl) 11 #[.pointer (some ⟨D, 0, none⟩), .int .i64 ((p.at_ + 1 : Nat) : Int)] (run_call_func rfl enter_Read _ (by kernel_rfl)) ((dk_read Q1 ((p.at_ + 1 : Nat) : Int) ho).mono ?_)
  rintro e v2 ⟨rfl, Q2, t2⟩
  have D2 := D1.touch t2 (by simpa using hn1)
  have P2 := P1.touch t2 (by simpa using hn2)
  have I2 := I1.touch t2 (by simpa using hn3)
  have G2 := G1.touch t2 (by simpa using hn4)
  have R2 := R1.step t2 (fun i hi => .inl (by simp at hi; simp [hi]))
  refine ⟨_, rfl, fun _ => ⟨D2, P2, I2⟩, ?_⟩
  refine wpAnyT_takeN (i := 6) (v := (.tuple #[.string (bs (s.readS n ((p.at_ + 1 : Nat) : Int))), .int .i64 (s.readE n ((p.at_ + 1 : Nat) : Int))])) rfl (by decide) (by kernel_rfl) (by kernel_rfl) (by kernel_rfl) (fun _ _ _ h => h) (.inl ⟨by kernel_rfl, fun W hS => by kernel_rfl⟩) ⟨D2, P2, I2⟩ ?_
  refine wpAnyT_takeN (i := 7) (v := (.string (bs (s.readS n ((p.at_ + 1 : Nat) : Int))))) rfl (by decide) (by kernel_rfl) (by kernel_rfl) (by kernel_rfl) (fun _ _ _ h => h) (.inl ⟨by kernel_rfl, fun W hS => by kernel_rfl⟩) ⟨D2, P2, I2⟩ ?_
  refine wpAnyT_takeN (i := 8) (v := (.int .i64 (s.readE n ((p.at_ + 1 : Nat) : Int)))) rfl (by decide) (by kernel_rfl) (by kernel_rfl) (by kernel_rfl) (fun _ _ _ h => h) (.inl ⟨by kernel_rfl, fun W hS => by kernel_rfl⟩) ⟨D2, P2, I2⟩ ?_
  refine wpAnyT_takeN (i := 9) (v := (.pointer (some ⟨bf, 1, none⟩))) rfl (by decide) (by kernel_rfl) (by kernel_rfl) (by kernel_rfl) (fun _ _ _ h => h) (.inl ⟨by kernel_rfl, fun W hS => by kernel_rfl⟩) ⟨D2, P2, I2⟩ ?_
  have G3 := G2.setCell 1 (.string (bs (s.readS n ((p.at_ + 1 : Nat) : Int))))
  have D3 := D2.setCell_ne ⟨bf, 1, none⟩ (.string (bs (s.readS n ((p.at_ + 1 : Nat) : Int)))) hm1
  have P3 := P2.setCell_ne ⟨bf, 1, none⟩ (.string (bs (s.readS n ((p.at_ + 1 : Nat) : Int)))) hm2
  have I3 := I2.setCell_ne ⟨bf, 1, none⟩ (.string (bs (s.readS n ((p.at_ + 1 : Nat) : Int)))) hm3
  have Q3 : DiskAt (v2.setCell ⟨bf, 1, none⟩ (.string (bs (s.readS n ((p.at_ + 1 : Nat) : Int))))) D F N ao cap n (s.readD n ((p.at_ + 1 : Nat) : Int)) := theDisk_same Q2 (fun i hi => Below.heap_setCell _ _ _ _ (fun e => hne (by have e2 : i = bf := e; rw [← e2]; exact hi)))
  have R3 := R2.setCell ⟨bf, 1, none⟩ (.string (bs (s.readS n ((p.at_ + 1 : Nat) : Int)))) (.inl (by simp))
  refine wpAnyT_all (rs := [10]) (by kernel_rfl) (by simp) ?_
  intro q hq
  obtain rfl : q = 10 := by simpa using hq
  refine wpOp_skip rfl (by kernel_rfl) (run_store_str (.tmp 14) (.tmp 12) rfl ⟨bf, 1, none⟩ (by kernel_rfl) (s.readS n ((p.at_ + 1 : Nat) : Int)) (by kernel_rfl) _ (G2.cell 1 _ rfl) (G2.frozen 1)) ⟨fun _ => ⟨D3, P3, I3⟩, ?_⟩
  refine wpAnyT_takeN (i := 11) (v := (.int .i64 (s.readE n ((p.at_ + 1 : Nat) : Int)))) rfl (by decide) (by kernel_rfl) (by kernel_rfl) (by kernel_rfl) (fun _ _ _ h => h) (.inl ⟨by kernel_rfl, fun W hS => by kernel_rfl⟩) ⟨D3, P3, I3⟩ ?_
  refine wpAnyT_done (by kernel_rfl) ?_ _
  simp only [Act.put, List.getElem_toArray, List.getElem_cons_succ, List.getElem_cons_zero, List.setIfInBounds_toArray, List.set_cons_zero, List.set_cons_succ]
  have Q4 := Lib.hid Q3
  have G4 := Lib.hid G3
  have R4 := Lib.hid R3
  clear Q3 G3 R3 D3 P3 I3 D2 P2 I2 G2 Q2 R2 D1 P1 I1 G1 Q1 R1 t2 c1 S0 AD A8 AI AF HD
  go_wp2
  go_ret
  exact ⟨rfl, Q4.out, G4.out, R4.out⟩
theorem chooseFn_any (J bp bf : Nat) (j : Jn) (g0 g1 : List UInt8) (hJ : At w J 87 j.cells) (aP : At w bp 52 [.pointer (some ⟨J, 0, none⟩)]) (aF : At w bf 92 (fcells (g0, g1))) (hp : j.pl.Ok) (hl0 : g0.length = 128) (hl1 : g1.length = 128) :
    Calls Try.prog 57 #[.pointer (some ⟨bp, 0, none⟩), .pointer (some ⟨bf, 0, none⟩)] w fun e w' => e = .returned (.int .i64 (if (chosen g0 g1 j).hd.num = 0 then 12 else 0)) ∧ At w' J 87 (chosen g0 g1 j).cells ∧ Touch [J] w w' := by
  have c0 := aP.cell 0 _ rfl
  have hrg := aF.range0
  have HRG := Lib.hid hrg
  have HC := Lib.hid (choose_any J j g0 g1 w hJ hp hl0 hl1)
  obtain ⟨R, hR⟩ : ∃ R : Int, R = (if (chosen g0 g1 j).hd.num = 0 then 12 else 0) := ⟨_, rfl⟩
  rw [← hR] at HC ⊢
  clear hrg hJ aP aF hR
  go_enter Try.func57, Try.ntmps57
  go_wp2_with (with_reducible refine wpList_load_mid rfl 92 (.tmp 1) rfl bf 0 (by kernel_rfl) (fcells (g0, g1)) _ HRG.out Try.underlying92 rfl (by kernel_rfl) ?_)
  refine (HC.out).mono ?_
  rintro e w1 ⟨rfl, h1, t1⟩
  have H1 := Lib.hid h1
  have T1 := Lib.hid t1
  clear h1 t1
  go_wp2
  go_ret
  exact ⟨rfl, H1.out, T1.out⟩
end
section
variable {w0 w : World} {av : Nat → Prop} {n D : Nat} {s : Dk}
theorem mendFn_any (h : Priv w0 w av n D s) (J bp bf : Nat) (j : Jn) (g0 g1 : List UInt8) (hJ : At w J 87 j.cells) (aP : At w bp 52 [.pointer (some ⟨J, 0, none⟩)]) (aF : At w bf 92 (fcells (g0, g1))) (hav : av J) (hD : j.pl.D = D) (hp : j.pl.Ok) (hst : j.stands ≤ 1) (hl0 : g0.length = 128) (hl1 : g1.length = 128) (m : Nat) (hm : Lot m s) (hmx : m ≤ 900000) :
    Calls Try.prog 60 #[.pointer (some ⟨bp, 0, none⟩), .pointer (some ⟨bf, 0, none⟩)] w fun e w' => e = .returned (.int .i64 (mendL n s j g0 g1).1) ∧ PrivTo w0 w av n D (mendL n s j g0 g1).2 w' := by
  have c0 := aP.cell 0 _ rfl
  have hrg := aF.range0
  have HRG := Lib.hid hrg
  have HC := Lib.hid (mend_any h J j g0 g1 hJ hav hD hp hst hl0 hl1 m hm hmx)
  obtain ⟨R, hR⟩ : ∃ R, R = mendL n s j g0 g1 := ⟨_, rfl⟩
  rw [← hR] at HC ⊢
  clear hrg hJ aP aF hR h hm
  go_enter Try.func60, Try.ntmps60
  go_wp2_with (with_reducible refine wpList_load_mid rfl 92 (.tmp 1) rfl bf 0 (by kernel_rfl) (fcells (g0, g1)) _ HRG.out Try.underlying92 rfl (by kernel_rfl) ?_)
  refine (HC.out).mono ?_
  rintro e w1 ⟨rfl, h1⟩
  have H1 := Lib.hid h1
  clear h1
  go_wp2
  go_ret
  exact ⟨rfl, H1.out⟩
end
end Go.Proofs.Ytcgjkopdnhkdiaa
