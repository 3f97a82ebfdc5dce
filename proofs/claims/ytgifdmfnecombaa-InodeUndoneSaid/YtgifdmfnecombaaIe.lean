/- Node, Quota. -/
import Derived.Test.YtgifdmfnecombaaId
namespace Go.Proofs.Ytgifdmfnecombaa
open Go.RowKit
set_option maxRecDepth 100000
section
variable {P : Program} {ops : Array Oper} {rest : List Oper} {op : Oper} {a : Act} {w : World} {Q : Exit → Act → World → Prop}
theorem alloc_any (hgd : op.guard = none) (ty : TypeId) (ho : op.op = .alloc ty) (cs : List Value) (hz : ∀ w, (zeroValue ty).run P w = .ok (.agg cs.toArray) w)
    (h : ∀ u, At u w.heap.size ty cs → Below w.heap.size w u → u.heap.size = w.heap.size + 1 → wpList P ops Q rest (a.put op.dst (.pointer (some ⟨w.heap.size, 0, none⟩))) u) : wpList P ops Q (op :: rest) a w :=
  alloc_agg hgd ty ho cs.toArray hz (h _ (At.new w _ _) ((Below.refl _ w).alloc (Nat.le_refl _) _) (by rw [World.size_alloc]))
theorem store_any (hgd : op.guard = none) (ty : TypeId) (x y : Operand) (ho : op.op = .store ty x y) (B : Nat) (hx : a.eval x = .pointer (some ⟨B, 0, none⟩)) (cs : List Value) (hy : a.eval y = .agg cs.toArray) (old : List Value) (hB : At w B ty old) (hl : cs.length = old.length)
    (hi : (P.info? ty).map (·.size) = some cs.length) (h1 : ∀ v ∈ cs, v.oneCell' = true)
    (h : ∀ u, At u B ty cs → Touch [B] w u → wpList P ops Q rest (a.put op.dst undef) u) : wpList P ops Q (op :: rest) a w := by
  refine wpList_store_mid hgd ty x y ho B 0 cs.toArray hx hy (hB.there 0 _ (by simp; omega)) (by simpa using hi) (all_oneCell_toArray h1) (h _ ?_ (Touch.setCells B (.inl (by simp)) _ _ _ (Touch.refl _ w)))
  have := hB.setCells cs 0 _ _ (by omega)
  rw [show splice old 0 cs = cs from ?_] at this
  · simpa using this
  · unfold splice
    simp [hl]
end
theorem results_row_tmp {P : Program} {fn : Func} {p u : Tmp} {ty : TypeId} (h : fn.results = #[.cell p ty, .tmp u]) (tmps : Array Value) (w : World) (g : Nat) (t : TypeId) (cs : Array Value) (fr : Nat × Nat) (d : TypeDesc)
    (hp : tmps.getD p undef = .pointer (some ⟨g, 0, none⟩)) (hg : w.heap[g]? = some (.cells cs t fr))
    (hu : P.underlying ty = some d) (hd : (match d with | .struct _ | .array _ _ => true | _ => false) = true) (hi : (P.info? ty).map (·.size) = some cs.size) (v : Value) (hv : tmps.getD u undef = v) :
    (results fn tmps).run P w = .ok (.tuple #[.agg cs, v]) w := by
  have hp' : tmps[p]?.getD undef = .pointer (some ⟨g, 0, none⟩) := by simpa using hp
  have hv' : tmps[u]?.getD undef = v := by simpa using hv
  rw [results_cell_tmp h]
  simp [hp', hv', asAddr, run_loadVar_row w g t ty cs fr d hg hu hd hi, Result.andThen]
/-- what is told of an inode -/
def toldV (o : Option Ino) : List Value := match o with
  | some i => [.int .i64 i.kind, .int .i64 i.mode, .string (bs i.data), .int .i64 i.links]
  | none => [.int .i64 0, .int .i64 0, .string ⟨#[]⟩, .int .i64 0]
theorem told_len (o : Option Ino) : (toldV o).length = 4 := by cases o <;> rfl
theorem told_one (o : Option Ino) : ∀ v ∈ toldV o, v.oneCell' = true := by
  intro v hv
  cases o <;> simp only [toldV, List.mem_cons, List.not_mem_nil, or_false] at hv <;> rcases hv with rfl | rfl | rfl | rfl <;> rfl
theorem info_ino : (Try.prog.info? 35).map (·.size) = some 4 := by kernel_rfl
theorem zero_ino : ∀ w, (zeroValue 35).run Try.prog w = .ok (.agg (toldV none).toArray) w := fun _ => by kernel_rfl
theorem node_any (base : Nat) (w : World) (tb : Nat) (T : Tab) (p : Place) (h : TabAt base w tb T p) (k : Int) (hk : (Lit.int .i64 k).wf = true) :
    Calls Try.prog 10 #[tabV tb, .int .i64 k] w fun e w' => e = .returned (.tuple #[.agg (toldV (T.f k)).toArray, .bool (T.f k).isSome]) ∧ Below w.heap.size w w' := by
  have HH := Lib.hid h
  clear h
  have hz : ∀ w, (Instr.build 35 #[]).run Try.prog w = .ok (.agg (toldV none).toArray) w := fun _ => by kernel_rfl
  go_enter Try.func10, Try.ntmps10
  go_wp2_with (with_reducible refine alloc_any rfl 35 rfl _ zero_ino ?_; intro u hu bu zu; have HU := Lib.hid hu; have BU := Lib.hid bu; clear hu bu)
  have H0 := Lib.hid (HH.out.below BU.out)
  refine (at_any base u tb T p H0.out k hk).mono ?_
  rintro e w1 ⟨rfl, rfl⟩
  have hs := H0.out.s k
  cases hf : T.f k with
  | none =>
    rw [hf] at hs
    have hg : p.g k = none := by cases hq : p.g k with
      | none => rfl
      | some b => rw [hq] at hs; cases hs
    rw [hg]
    have HF := Lib.hid hf
    simp only [ptrV, Option.isSome]
    clear hs hf hg
    go_wp2_with (first
      | (refine list_val (op := { dst := some 16, op := _, type := _, pos := _, after := _, guard := _ }) rfl (v := .agg (toldV none).toArray) (w' := w1) (by kernel_rfl) ?_)
      | (refine store_any rfl 35 (.tmp 4) (.tmp 16) rfl w.heap.size rfl (toldV none) rfl _ HU.out rfl info_ino (told_one none) ?_; intro u9 hu9 tu9; have HU9 := Lib.hid hu9; have HT9 := Lib.hid tu9; clear hu9 tu9))
    (try simp only [Exit.inBlock, Exit.then])
    refine bodyPost_ret (v := .tuple #[.agg (toldV none).toArray, .bool false]) ?_ rfl ⟨by rw [HF.out]; rfl, HT9.out.below BU.out (by simp) (Nat.le_refl _)⟩
    exact results_row_tmp (fn := Try.f10) (p := 4) (u := 5) (ty := 35) rfl _ _ w.heap.size 35 _ (0, 0) _ rfl HU9.out Try.underlying35 rfl info_ino _ rfl
  | some i =>
    rw [hf] at hs
    obtain ⟨b, hg⟩ : ∃ b, p.g k = some b := Option.isSome_iff_exists.mp hs
    have HI := Lib.hid (H0.out.o k b i hg hf)
    have hbw : b < w.heap.size ∨ True := .inr trivial
    rw [hg]
    have HF := Lib.hid hf
    simp only [ptrV, Option.isSome]
    clear hs hf hg hbw
    go_wp2_with (first
      | (refine load_any rfl 35 (.tmp 19) rfl ⟨b, 0, none⟩ rfl (toldV (some i)) _ (fun j v hj => by
          rw [Addr.add0]
          refine HI.out.a.cell j v ?_
          match j, hj with
          | 0, hj => exact hj
          | 1, hj => exact hj
          | 2, hj => exact hj
          | 3, hj => exact hj) Try.underlying35 rfl info_ino ?_)
      | (refine store_any rfl 35 (.tmp 4) (.tmp 20) rfl w.heap.size rfl (toldV (some i)) rfl _ HU.out rfl info_ino (told_one (some i)) ?_; intro u9 hu9 tu9; have HU9 := Lib.hid hu9; have HT9 := Lib.hid tu9; clear hu9 tu9))
    (try simp only [Exit.inBlock, Exit.then])
    refine bodyPost_ret (v := .tuple #[.agg (toldV (some i)).toArray, .bool true]) ?_ rfl ⟨by rw [HF.out]; rfl, HT9.out.below BU.out (by simp) (Nat.le_refl _)⟩
    exact results_row_tmp (fn := Try.f10) (p := 4) (u := 5) (ty := 35) rfl _ _ w.heap.size 35 _ (0, 0) _ rfl HU9.out Try.underlying35 rfl info_ino _ rfl
end Go.Proofs.Ytgifdmfnecombaa
