/- The walk of Format. -/
import Derived.Test.YtcgjkopdnhkdiaaJk
import Derived.Test.YtcgjkopdnhkdiaaJi
import Derived.Test.YtcgjkopdnhkdiaaDx
namespace Go.Proofs.Ytcgjkopdnhkdiaa
open Go.RowKit
set_option maxRecDepth 100000
section
variable {P : Program}
theorem build_two (w : World) (t e : TypeId) (v0 v1 : Value) (ie : TypeInfo) (z : Value) (hu : P.underlying t = some (.slice e)) (hie : P.info? e = some ie) (hz : ie.zero = some z) (hn : ie.size = 1) (h0 : v0.cells = #[v0]) (h1 : v1.cells = #[v1]) :
    (Instr.buildSlice t 2 #[(0, v0), (1, v1)]).run P w = .ok (.slice (some ⟨w.heap.size, 0, none⟩) 2 2) (w.alloc (.cells #[v0, v1] e)) := by
  refine run_buildSlice w t e 2 #[(0, v0), (1, v1)] #[v0, v1] ie z hu hie hz (by rw [hn]; omega) (by rw [hn]; omega) ?_
  have hsz : ((Array.range (2 * ie.size)).map (z.cells[· % z.cells.size]!)).size = 2 := by rw [Array.size_map, Array.size_range, hn]
  generalize (Array.range (2 * ie.size)).map (z.cells[· % z.cells.size]!) = Z at *
  obtain ⟨l, rfl⟩ : ∃ l : List Value, Z = l.toArray := ⟨Z.toList, by simp⟩
  match l, hsz with
  | [x, y], _ => simp [Instr.fill, h0, h1, hn]
theorem build_three (w : World) (t e : TypeId) (v0 v1 v2 : Value) (ie : TypeInfo) (z : Value) (hu : P.underlying t = some (.slice e)) (hie : P.info? e = some ie) (hz : ie.zero = some z) (hn : ie.size = 1) (h0 : v0.cells = #[v0]) (h1 : v1.cells = #[v1]) (h2 : v2.cells = #[v2]) :
    (Instr.buildSlice t 3 #[(0, v0), (1, v1), (2, v2)]).run P w = .ok (.slice (some ⟨w.heap.size, 0, none⟩) 3 3) (w.alloc (.cells #[v0, v1, v2] e)) := by
  refine run_buildSlice w t e 3 #[(0, v0), (1, v1), (2, v2)] #[v0, v1, v2] ie z hu hie hz (by rw [hn]; omega) (by rw [hn]; omega) ?_
  have hsz : ((Array.range (3 * ie.size)).map (z.cells[· % z.cells.size]!)).size = 3 := by rw [Array.size_map, Array.size_range, hn]
  generalize (Array.range (3 * ie.size)).map (z.cells[· % z.cells.size]!) = Z at *
  obtain ⟨l, rfl⟩ : ∃ l : List Value, Z = l.toArray := ⟨Z.toList, by simp⟩
  match l, hsz with
  | [x, y, u], _ => simp [Instr.fill, h0, h1, h2, hn]
theorem run_build3_op {o : Oper} {a : Act} {w w1 : World} (t : TypeId) (x y u : Operand) (ho : o.op = .buildSlice t 3 #[(0, x), (1, y), (2, u)]) (v0 v1 v2 : Value) (hx : a.eval x = v0) (hy : a.eval y = v1) (hu : a.eval u = v2) {z : Value} (hr : (Instr.buildSlice t 3 #[(0, v0), (1, v1), (2, v2)]).run P w = .ok z w1) : (execOp a.eval o).run P w = .ok (.value z) w1 := by
  unfold execOp
  simp only [ho, List.map_toArray, List.map_cons, List.map_nil, hx, hy, hu, Sem.run_bind, hr, Result.andThen_ok]
  rfl
theorem run_build2_op {o : Oper} {a : Act} {w w1 : World} (t : TypeId) (x y : Operand) (ho : o.op = .buildSlice t 2 #[(0, x), (1, y)]) (v0 v1 : Value) (hx : a.eval x = v0) (hy : a.eval y = v1) {z : Value} (hr : (Instr.buildSlice t 2 #[(0, v0), (1, v1)]).run P w = .ok z w1) : (execOp a.eval o).run P w = .ok (.value z) w1 := by
  unfold execOp
  simp only [ho, List.map_toArray, List.map_cons, List.map_nil, hx, hy, Sem.run_bind, hr, Result.andThen_ok]
  rfl
end
theorem info_fn : (Try.prog.info? 34).map (fun i => (i.zero, i.size, i.bytes)) = some (some Value.nilFunc, 1, 8) := by kernel_rfl
theorem info_pl : (Try.prog.info? 83).map (·.size) = some 3 := by kernel_rfl
theorem build_hd1 {o : Oper} {a : Act} {w : World} (ho : o.op = .build 85 #[(0, .const (.int .u64 1))]) : (execOp a.eval o).run Try.prog w = .ok (.value (.agg (Hd.cells ⟨1, 0, 0⟩).toArray)) w := by
  have hz := zero_hd w
  have hc : a.eval (.const (.int .u64 1)) = .int .u64 1 := rfl
  unfold execOp
  simp only [ho, List.map_toArray, List.map_cons, List.map_nil, hc]
  simp [go_sem, hz, Hd.cells]
theorem enter_headAt : ∀ (args : Array Value) (w : World), (callFunc 55 args).run Try.prog w = .ok (.enter 55 args) w := enters_of Try.func55 (by kernel_rfl) rfl
theorem enter_sector : ∀ (args : Array Value) (w : World), (callFunc 70 args).run Try.prog w = .ok (.enter 70 args) w := enters_of Try.func70 (by kernel_rfl) rfl
theorem enter_writing : ∀ (args : Array Value) (w : World), (callFunc 69 args).run Try.prog w = .ok (.enter 69 args) w := enters_of Try.func69 (by kernel_rfl) rfl
theorem enter_inOrder : ∀ (args : Array Value) (w : World), (callFunc 56 args).run Try.prog w = .ok (.enter 56 args) w := enters_of Try.func56 (by kernel_rfl) rfl
def badPlace (n : Nat) (x y : Int) : Bool := decide (x < 0 ∨ y < 4 ∨ (n : Int) - x < y)
def spanOf (y : Int) : Nat := (y.toNat - 2) / 2
/-- the operations of a Format -/
def fmtOps (a : Nat) : List DO := [.w (a : Int) (Hd.sec ⟨1, 0, 0⟩), .w ((a + 1 : Nat) : Int) [], .f]
def fmt (n : Nat) (s : Dk) (x y : Int) : Int × Dk := if badPlace n x y then (2, s) else runs n s (fmtOps x.toNat)
/-- a struct of the call's own: made, and laid whole -/
theorem store_new (w : World) (z c : Array Value) (T : TypeId) (h : z.toList.length = c.toList.length) :
    (w.alloc (.cells z T)).there w.heap.size 0 c.size ∧ At ((w.alloc (.cells z T)).setCells w.heap.size 0 c.toList) w.heap.size T c.toList ∧ Touch [] w ((w.alloc (.cells z T)).setCells w.heap.size 0 c.toList) ∧ ((w.alloc (.cells z T)).setCells w.heap.size 0 c.toList).heap.size = w.heap.size + 1 := by
  obtain ⟨a, t⟩ := fill_new w z T c.toList h
  refine ⟨(At.new w z T).there 0 c.size (by rw [h, Array.length_toList]; omega), a, t, ?_⟩
  have key : ∀ (b : Nat) (vs : List Value) (o : Nat) (w : World), (w.setCells b o vs).heap.size = w.heap.size := by
    intro b vs
    induction vs with
    | nil => intro o w; rfl
    | cons v r ih =>
      intro o w
      have := ih (o + 1) (w.setCell ⟨b, o, none⟩ v)
      rw [show (w.setCell ⟨b, o, none⟩ v).heap.size = w.heap.size by simp [World.setCell]] at this
      exact this
  rw [key, World.size_alloc]
theorem Pl.all (p : Pl) : p.cells.toArray.all (·.oneCell') = true := all_oneCell_toArray p.one
theorem Hd.all (h : Hd) : h.cells.toArray.all (·.oneCell') = true := all_oneCell_toArray h.one
theorem noPl_all : #[Value.pointer none, Value.int .i64 0, Value.int .i64 0].all (·.oneCell') = true := by kernel_rfl
set_option maxHeartbeats 1000000 in
theorem format_bad (d : Value) (x y : Int) (r : Int) (hr : (r == 0) = false) (w : World) (hc : Calls Try.prog 52 #[d, .int .i64 x, .int .i64 y] w fun e w' => e = .returned (.tuple #[noPl, .int .i64 r]) ∧ Below w.heap.size w w') :
    Calls Try.prog 37 #[d, .int .i64 x, .int .i64 y] w fun e w' => e = .returned (.int .i64 r) ∧ Below w.heap.size w w' := by
  have hr2 : (r != 0) = true := by unfold bne; rw [hr]; rfl
  have HC := Lib.hid hc
  clear hc
  go_enter Try.func37, Try.ntmps37
  go_wp2_with fail
  refine (HC.out).mono ?_
  rintro e w1 ⟨rfl, b1⟩
  obtain ⟨s1, s2, s3, s4⟩ := store_new w1 #[Value.pointer none, Value.int .i64 0, Value.int .i64 0] #[Value.pointer none, Value.int .i64 0, Value.int .i64 0] 83 rfl
  have HTH := Lib.hid s1
  have HE := Lib.hid (Touch.below b1 s3 (by simp) (Nat.le_refl _))
  clear s1 s2 s3 s4 HC
  unfold noPl
  go_wp2_with (first | (with_reducible refine alloc_agg rfl 83 rfl #[Value.pointer none, Value.int .i64 0, Value.int .i64 0] zero_pl ?_) | (with_reducible refine wpList_store_mid rfl 83 (.tmp 7) (.tmp 15) rfl w1.heap.size 0 #[Value.pointer none, Value.int .i64 0, Value.int .i64 0] (by kernel_rfl) (by kernel_rfl) HTH.out (by kernel_rfl) noPl_all ?_))
  go_ret
  first | exact ⟨rfl, HE.out⟩ | exact ⟨rfl, b1.alloc b1.size _⟩
section
variable {w0 w : World} {av : Nat → Prop} {n D : Nat} {s : Dk}
set_option maxHeartbeats 8000000 in
theorem format_ok (h : Priv w0 w av n D s) (a k m : Nat) (hn : n ≤ 4096) (hk : 4 ≤ k) (hb : a + k ≤ n) (hm : Lot m s) (hmx : m ≤ 900000) :
    Calls Try.prog 37 #[.pointer (some ⟨D, 0, none⟩), .int .i64 (a : Int), .int .i64 (k : Int)] w fun e w' => e = .returned (.int .i64 (runs n s (fmtOps a)).1) ∧ PrivTo w0 w av n D (runs n s (fmtOps a)).2 w' := by
  obtain ⟨sp, hsp⟩ : ∃ sp, sp = (k - 2) / 2 := ⟨_, rfl⟩
  have hpl : (Pl.mk D a sp).Ok := ⟨by show a ≤ 4096; omega, by show sp ≤ 4096; omega⟩
  have hhd : (Hd.mk 1 0 0).Ok := ⟨by decide, by decide⟩
  have hc := place_ok h a k sp hn hk hb hsp
  have HC := Lib.hid hc
  have H := Lib.hid h
  have HM := Lib.hid hm
  clear hc h hm hsp
  go_enter Try.func37, Try.ntmps37
  go_wp2_with fail
  refine (HC.out).mono ?_
  rintro e w1 ⟨rfl, b1⟩
  obtain ⟨s1, s2, s3, s4⟩ := store_new w1 #[Value.pointer none, Value.int .i64 0, Value.int .i64 0] (Pl.cells ⟨D, a, sp⟩).toArray 83 rfl
  have h2 := Touch.below b1 s3 (by simp) (Nat.le_refl _)
  have HTH := Lib.hid s1
  have A7 := Lib.hid s2
  have B2 := Lib.hid h2
  have Z2 := Lib.hid s4
  clear s1 s2 s3 s4 HC h2
  have hw1 := b1.size
  clear b1
  unfold Pl.v
  go_wp2_with (first | (with_reducible refine alloc_agg rfl 83 rfl #[Value.pointer none, Value.int .i64 0, Value.int .i64 0] zero_pl ?_) | (with_reducible refine wpList_store_mid rfl 83 (.tmp 7) (.tmp 15) rfl w1.heap.size 0 (Pl.cells ⟨D, a, sp⟩).toArray (by kernel_rfl) (by kernel_rfl) HTH.out (by kernel_rfl) (Pl.all _) ?_) | (with_reducible refine hold_at 20 rfl ?_))
  unfold held
  generalize hb7 : w1.heap.size = b7 at *
  generalize (w1.alloc (.cells #[Value.pointer none, Value.int .i64 0, Value.int .i64 0] 83)).setCells b7 0 (Pl.cells ⟨D, a, sp⟩) = w2 at *
  obtain ⟨s1, s2, s3, s4⟩ := store_new w2 #[.int .u64 0, .int .i64 0, .int .i64 0] (Hd.cells ⟨1, 0, 0⟩).toArray 85 rfl
  have h3 := Touch.below B2.out s3 (by simp) (Nat.le_refl _)
  have a7 := A7.out.touch s3 (by simp)
  have HTH2 := Lib.hid s1
  have A9 := Lib.hid s2
  have B3 := Lib.hid h3
  have Z3 := Lib.hid s4
  have A77 := Lib.hid a7
  clear s1 s2 s3 s4 h3 HTH A7 B2 a7
  go_wp2_with (first | (with_reducible refine list_val rfl (build_hd1 rfl) ?_) | (with_reducible refine alloc_agg rfl 85 rfl #[.int .u64 0, .int .i64 0, .int .i64 0] zero_hd ?_) | (with_reducible refine wpList_store_mid rfl 85 (.tmp 9) (.tmp 20) rfl w2.heap.size 0 (Hd.cells ⟨1, 0, 0⟩).toArray (by kernel_rfl) (by kernel_rfl) HTH2.out (by kernel_rfl) (Hd.all _) ?_))
  generalize hb9 : w2.heap.size = b9 at *
  generalize (w2.alloc (.cells #[.int .u64 0, .int .i64 0, .int .i64 0] 85)).setCells b9 0 (Hd.cells ⟨1, 0, 0⟩) = w3 at *
  clear HTH2
  have hz2 := Z2.out
  have hz3 := Z3.out
  clear Z2 Z3 hb7 hb9
  refine region_any (fun W => At W b7 83 (Pl.cells ⟨D, a, sp⟩) ∧ At W b9 85 (Hd.cells ⟨1, 0, 0⟩)) 15 (by kernel_rfl) ?_
  have S0 : (fun W => At W b7 83 (Pl.cells ⟨D, a, sp⟩) ∧ At W b9 85 (Hd.cells ⟨1, 0, 0⟩)) w3.drew := ⟨A77.out.drew, A9.out.drew⟩
  refine wpAnyT_takeN (i := 0) (v := (Pl.v ⟨D, a, sp⟩)) rfl (by decide) (by kernel_rfl) (by kernel_rfl) (by kernel_rfl) (fun _ _ _ h => h) (.inl ⟨by kernel_rfl, fun W hS => run_load_op 83 (.tmp 7) rfl b7 0 (by kernel_rfl) (Pl.cells ⟨D, a, sp⟩) _ hS.1.range0 Try.underlying83 rfl (by kernel_rfl)⟩) S0 ?_
  refine wpAnyT_takeN (i := 1) (v := (Pl.v ⟨D, a, sp⟩)) rfl (by decide) (by kernel_rfl) (by kernel_rfl) (by kernel_rfl) (fun _ _ _ h => h) (.inl ⟨by kernel_rfl, fun W hS => run_load_op 83 (.tmp 7) rfl b7 0 (by kernel_rfl) (Pl.cells ⟨D, a, sp⟩) _ hS.1.range0 Try.underlying83 rfl (by kernel_rfl)⟩) S0 ?_
  refine wpAnyT_takeN (i := 3) (v := (Hd.v ⟨1, 0, 0⟩)) rfl (by decide) (by kernel_rfl) (by kernel_rfl) (by kernel_rfl) (fun _ _ _ h => h) (.inl ⟨by kernel_rfl, fun W hS => run_load_op 85 (.tmp 9) rfl b9 0 (by kernel_rfl) (Hd.cells ⟨1, 0, 0⟩) _ hS.2.range0 Try.underlying85 rfl (by kernel_rfl)⟩) S0 ?_
  refine wpAnyT_takeN (i := 6) (v := (Pl.v ⟨D, a, sp⟩)) rfl (by decide) (by kernel_rfl) (by kernel_rfl) (by kernel_rfl) (fun _ _ _ h => h) (.inl ⟨by kernel_rfl, fun W hS => run_load_op 83 (.tmp 7) rfl b7 0 (by kernel_rfl) (Pl.cells ⟨D, a, sp⟩) _ hS.1.range0 Try.underlying83 rfl (by kernel_rfl)⟩) S0 ?_
  refine wpAnyT_takeN (i := 7) (v := (Pl.v ⟨D, a, sp⟩)) rfl (by decide) (by kernel_rfl) (by kernel_rfl) (by kernel_rfl) (fun _ _ _ h => h) (.inl ⟨by kernel_rfl, fun W hS => run_load_op 83 (.tmp 7) rfl b7 0 (by kernel_rfl) (Pl.cells ⟨D, a, sp⟩) _ hS.1.range0 Try.underlying83 rfl (by kernel_rfl)⟩) S0 ?_
  refine wpAnyT_takeN (i := 10) (v := (.pointer (some ⟨D, 0, none⟩))) rfl (by decide) (by kernel_rfl) (by kernel_rfl) (by kernel_rfl) (fun _ _ _ h => h) (.inl ⟨by kernel_rfl, fun W hS => by kernel_rfl⟩) S0 ?_
  refine wpAnyT_takeN (i := 11) (v := (flSt D).v) rfl (by decide) (by kernel_rfl) (by kernel_rfl) (by kernel_rfl) (fun _ _ _ h => h) (.inl ⟨by kernel_rfl, fun W hS => by kernel_rfl⟩) S0 ?_
  have P0 := A77.out.drew
  have Q0 := A9.out.drew
  have G0 := (Below.refl w3.drew.heap.size w3.drew)
  refine wpAnyT_all (rs := [2]) (by kernel_rfl) (by simp) ?_
  intro q hq
  obtain rfl : q = 2 := by simpa using hq
  refine wpOp_call rfl (by kernel_rfl) 55 #[Pl.v ⟨D, a, sp⟩, .int .i64 ((0 : Nat) : Int)] (run_call_func rfl enter_headAt _ (by kernel_rfl)) ((headAt_any ⟨D, a, sp⟩ hpl 0 (by decide) w3.drew).mono ?_)
  rintro e v1 ⟨rfl, c1⟩
  have P1 := P0.below c1 P0.lt
  have Q1 := Q0.below c1 Q0.lt
  have G1 := G0.trans (c1.mono G0.size)
  refine ⟨_, rfl, fun _ => ⟨P1, Q1⟩, ?_⟩
  refine wpAnyT_all (rs := [4]) (by kernel_rfl) (by simp) ?_
  intro q hq
  obtain rfl : q = 4 := by simpa using hq
  refine wpOp_call rfl (by kernel_rfl) 70 #[Hd.v ⟨1, 0, 0⟩] (run_call_func rfl enter_sector _ (by kernel_rfl)) ((sector_any ⟨1, 0, 0⟩ hhd v1).mono ?_)
  rintro e v2 ⟨rfl, c2⟩
  have P2 := P1.below c2 P1.lt
  have Q2 := Q1.below c2 Q1.lt
  have G2 := G1.trans (c2.mono G1.size)
  refine ⟨_, rfl, fun _ => ⟨P2, Q2⟩, ?_⟩
  refine wpAnyT_all (rs := [5]) (by kernel_rfl) (by simp) ?_
  intro q hq
  obtain rfl : q = 5 := by simpa using hq
  refine wpOp_call rfl (by kernel_rfl) 69 #[Pl.v ⟨D, a, sp⟩, .int .i64 ((a + 0 : Nat) : Int), .string (bs (Hd.sec ⟨1, 0, 0⟩))] (run_call_func rfl enter_writing _ (by kernel_rfl)) ((writing_any ⟨D, a, sp⟩ ((a + 0 : Nat) : Int) (Hd.sec ⟨1, 0, 0⟩) v2).mono ?_)
  rintro e v3 ⟨rfl, W1, z3, c3⟩
  have P3 := P2.below c3 P2.lt
  have Q3 := Q2.below c3 Q2.lt
  have G3 := G2.trans (c3.mono G2.size)
  refine ⟨_, rfl, fun _ => ⟨P3, Q3⟩, ?_⟩
  refine wpAnyT_all (rs := [8]) (by kernel_rfl) (by simp) ?_
  intro q hq
  obtain rfl : q = 8 := by simpa using hq
  refine wpOp_call rfl (by kernel_rfl) 55 #[Pl.v ⟨D, a, sp⟩, .int .i64 ((1 : Nat) : Int)] (run_call_func rfl enter_headAt _ (by kernel_rfl)) ((headAt_any ⟨D, a, sp⟩ hpl 1 (by decide) v3).mono ?_)
  rintro e v4 ⟨rfl, c4⟩
  have P4 := P3.below c4 P3.lt
  have Q4 := Q3.below c4 Q3.lt
  have G4 := G3.trans (c4.mono G3.size)
  refine ⟨_, rfl, fun _ => ⟨P4, Q4⟩, ?_⟩
  refine wpAnyT_all (rs := [9]) (by kernel_rfl) (by simp) ?_
  intro q hq
  obtain rfl : q = 9 := by simpa using hq
  refine wpOp_call rfl (by kernel_rfl) 69 #[Pl.v ⟨D, a, sp⟩, .int .i64 ((a + 1 : Nat) : Int), .string (bs [])] (run_call_func rfl enter_writing _ (by kernel_rfl)) ((writing_any ⟨D, a, sp⟩ ((a + 1 : Nat) : Int) [] v4).mono ?_)
  rintro e v5 ⟨rfl, W2, z5, c5⟩
  have P5 := P4.below c5 P4.lt
  have Q5 := Q4.below c5 Q4.lt
  have G5 := G4.trans (c5.mono G4.size)
  refine ⟨_, rfl, fun _ => ⟨P5, Q5⟩, ?_⟩
  obtain ⟨iw, hiw, hz0, hz1, hzb⟩ := info_parts info_fn
  refine wpAnyT_all (rs := [12]) (by kernel_rfl) (by simp) ?_
  intro q hq
  obtain rfl : q = 12 := by simpa using hq
  refine wpOp_val rfl (by kernel_rfl) (run_build3_op 111 (.tmp 26) (.tmp 30) (.tmp 32) rfl (wrSt v2.heap.size).v (wrSt v4.heap.size).v (flSt D).v (by kernel_rfl) (by kernel_rfl) (by kernel_rfl) (build_three v5 111 34 _ _ _ iw _ Try.underlying111 hiw hz0 hz1 rfl rfl rfl)) ⟨fun _ => ⟨P5.alloc _, Q5.alloc _⟩, ?_⟩
  have a6 := At.new v5 #[(wrSt v2.heap.size).v, (wrSt v4.heap.size).v, (flSt D).v] 34
  have P6 := P5.alloc (.cells #[(wrSt v2.heap.size).v, (wrSt v4.heap.size).v, (flSt D).v] 34)
  have Q6 := Q5.alloc (.cells #[(wrSt v2.heap.size).v, (wrSt v4.heap.size).v, (flSt D).v] 34)
  have G6 := G5.alloc G5.size (.cells #[(wrSt v2.heap.size).v, (wrSt v4.heap.size).v, (flSt D).v] 34)
  have z6 : (v5.alloc (.cells #[(wrSt v2.heap.size).v, (wrSt v4.heap.size).v, (flSt D).v] 34)).heap.size = v5.heap.size + 1 := World.size_alloc _ _
  have hz3' : w3.drew.heap.size = w3.heap.size := rfl
  have u1 := c1.size
  have u2 := c2.size
  have u3 := c3.size
  have u4 := c4.size
  have u5 := c5.size
  have W1' : WrAt (v5.alloc (.cells #[(wrSt v2.heap.size).v, (wrSt v4.heap.size).v, (flSt D).v] 34)) v2.heap.size D ((a : Nat) : Int) (Hd.sec ⟨1, 0, 0⟩) := W1.same fun i h1 h2 => by
    rw [Below.heap_alloc _ _ _ (by omega), c5.block _ (by omega), c4.block _ (by omega)]
  have W2' : WrAt (v5.alloc (.cells #[(wrSt v2.heap.size).v, (wrSt v4.heap.size).v, (flSt D).v] 34)) v4.heap.size D ((a + 1 : Nat) : Int) [] := W2.same fun i h1 h2 => by
    rw [Below.heap_alloc _ _ _ (by omega)]
  generalize v5.alloc (.cells #[(wrSt v2.heap.size).v, (wrSt v4.heap.size).v, (flSt D).v] 34) = v6 at *
  have hPG : Below w.heap.size w v6 := (B3.out.drew).trans (G6.mono (by omega))
  have hPV := H.out.grow hPG
  have hkeep := H.out.keeps hPG
  have hzip : Zip (Is D v6 (fun i => i < v6.heap.size ∧ (av i ∨ w.heap.size ≤ i))) [wrSt v2.heap.size, wrSt v4.heap.size, flSt D] (fmtOps a) :=
    .cons (.wr _ _ _ W1' (fun i h1 h2 => ⟨by omega, .inr (by omega)⟩) (by rw [Hd.sec_len]; decide)) (.cons (.wr _ _ _ W2' (fun i h1 h2 => ⟨by omega, .inr (by omega)⟩) (by decide)) (.cons .fl .nil))
  refine wpAnyT_all (rs := [13]) (by kernel_rfl) (by simp) ?_
  intro q hq
  obtain rfl : q = 13 := by simpa using hq
  refine wpOp_call rfl (by kernel_rfl) 56 #[.slice (some ⟨v5.heap.size, 0, none⟩) 3 3] (run_call_func rfl enter_inOrder _ (by kernel_rfl)) ((inOps_any hPV v5.heap.size 3 [wrSt v2.heap.size, wrSt v4.heap.size, flSt D] (fmtOps a) [] a6 ⟨by omega, .inr (by omega)⟩ hzip m HM.out (by simp; omega)).mono ?_)
  rintro e v7 ⟨rfl, hp⟩
  have P7 := hp.2.at P6 ⟨P6.lt, .inr (by omega)⟩
  have Q7 := hp.2.at Q6 ⟨Q6.lt, .inr (by omega)⟩
  have HP := Lib.hid (PrivTo.back hp (fun i hi => ⟨Nat.lt_of_lt_of_le (H.out.1 i hi) hPG.size, .inl hi⟩) hkeep)
  refine ⟨_, rfl, fun _ => ⟨P7, Q7⟩, ?_⟩
  refine wpAnyT_all (rs := [14]) (by kernel_rfl) (by simp) ?_
  intro q hq
  obtain rfl : q = 14 := by simpa using hq
  refine wpOp_val (v := .int .i64 (runs n s (fmtOps a)).1) (w' := v7) rfl (by kernel_rfl) (by kernel_rfl) ⟨fun _ => ⟨P7, Q7⟩, wpAnyT_done (by kernel_rfl) ?_ _⟩
  simp only [Act.put, List.getElem_toArray, List.getElem_cons_succ, List.getElem_cons_zero, List.setIfInBounds_toArray, List.set_cons_zero, List.set_cons_succ]
  go_wp2
  go_ret
  exact ⟨rfl, HP.out⟩
end
end Go.Proofs.Ytcgjkopdnhkdiaa
