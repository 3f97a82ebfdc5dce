/- A table, and its inodes: a model, and how they lie in memory. -/
import Derived.Test.YtgifdmfnecombaaIa
import Derived.WalkSpells
import Derived.WalkLawsBesides
import Derived.Lib.Hide
import Derived.LoopTactic
import Derived.StillTailTactics
import Derived.BigQuiet
import Derived.Laws.ResultCell
namespace Go.Proofs.Ytgifdmfnecombaa
open Go.RowKit
set_option maxRecDepth 100000
structure Ino where
  kind : Int
  mode : Int
  data : List UInt8
  links : Int
  up : Int
  ents : List UInt8 → Option Int
  cnt : Nat
structure Tab where
  f : Int → Option Ino
  cnt : Nat
  last : Nat
  bytes : Nat
  qi : Nat
  qb : Nat
/-- the cells of an inode, whose entries are that map -/
def Ino.cells (i : Ino) (m : Value) : List Value := [.int .i64 i.kind, .int .i64 i.mode, .string (bs i.data), .int .i64 i.links, .int .i64 i.up, m]
structure InoAt (W : World) (b e n : Nat) (i : Ino) : Prop where
  a : At W b 63 (i.cells (if i.kind = 2 then .map (some e) else .map none))
  m : i.kind = 2 → SMap W e n i.ents i.cnt
def Tab.cells (T : Tab) (bm : Nat) : List Value := [.map (some bm), .int .i64 (T.last : Int), .int .i64 (T.bytes : Int), .int .i64 (T.qi : Int), .int .i64 (T.qb : Int)]
/-- where things lie: the map of inodes, each inode's block, each directory's map; how often each map was written at most -/
structure Place where
  bm : Nat
  n : Nat
  g : Int → Option Nat
  e : Int → Nat
  m : Int → Nat
structure TabAt (base : Nat) (W : World) (tb : Nat) (T : Tab) (p : Place) : Prop where
  t : At W tb 59 (T.cells p.bm)
  i : IMap W p.bm p.n p.g T.cnt
  s : ∀ k, (p.g k).isSome = (T.f k).isSome
  o : ∀ k b i, p.g k = some b → T.f k = some i → InoAt W b (p.e k) (p.m k) i
  g1 : ∀ k l b, p.g k = some b → p.g l = some b → k = l
  e1 : ∀ k l i j, T.f k = some i → T.f l = some j → i.kind = 2 → j.kind = 2 → p.e k = p.e l → k = l
  e2 : ∀ k i, T.f k = some i → i.kind = 2 → p.e k ≠ p.bm
  n0 : base ≤ tb ∧ base ≤ p.bm
  n1 : ∀ k b, p.g k = some b → base ≤ b
  n2 : ∀ k i, T.f k = some i → i.kind = 2 → base ≤ p.e k
/-- numbers that are told are words -/
theorem TabAt.below {base : Nat} {W W' : World} {tb : Nat} {T : Tab} {p : Place} (h : TabAt base W tb T p) (b : Below W.heap.size W W') : TabAt base W' tb T p :=
  ⟨h.t.below b h.t.lt, h.i.keep (b.block _ h.i.lt), h.s, fun k c i hg hf => by
    have := h.o k c i hg hf
    exact ⟨this.a.below b this.a.lt, fun hk => (this.m hk).keep (b.block _ (this.m hk).lt)⟩, h.g1, h.e1, h.e2, h.n0, h.n1, h.n2⟩
def tabV (tb : Nat) : Value := .pointer (some ⟨tb, 0, none⟩)
theorem isNone_any (base : Nat) (w : World) (tb : Nat) (T : Tab) (p : Place) (h : TabAt base w tb T p) :
    Calls Try.prog 24 #[tabV tb] w fun e w' => e = .returned (.bool false) ∧ w' = w := by
  have c0 := h.t.cell 0 _ rfl
  have heq : ∀ w, (binOp .eql 57 (.map (some p.bm)) (.map none)).run Try.prog w = .ok (.bool false) w := fun w => by kernel_rfl
  unfold tabV
  clear h
  go_enter Try.func24, Try.ntmps24
  go_wp2_with fail
  go_ret
  exact ⟨rfl, rfl⟩
theorem isNone_nil (w : World) : Calls Try.prog 24 #[.pointer none] w fun e w' => e = .returned (.bool true) ∧ w' = w := by
  go_enter Try.func24, Try.ntmps24
  go_wp2_with fail
  go_ret
  exact ⟨rfl, rfl⟩
/-- what 'at' finds -/
theorem at_any (base : Nat) (w : World) (tb : Nat) (T : Tab) (p : Place) (h : TabAt base w tb T p) (k : Int) (hk : (Lit.int .i64 k).wf = true) :
    Calls Try.prog 25 #[tabV tb, .int .i64 k] w fun e w' => e = .returned (.tuple #[ptrV (p.g k), .bool (T.f k).isSome]) ∧ w' = w := by
  have c0 := h.t.cell 0 _ rfl
  have hl := h.i.look k hk
  rw [h.s k] at hl
  have HH := Lib.hid h
  unfold tabV
  go_enter Try.func25, Try.ntmps25
  go_wp2_with fail
  refine (isNone_any base w tb T p HH.out).mono ?_
  rintro e w1 ⟨rfl, rfl⟩
  go_wp2_with fail
  (try simp only [Exit.inBlock, Exit.then])
  exact bodyPost_ret (results_tmp2 rfl _ _ _) rfl ⟨rfl, rfl⟩
end Go.Proofs.Ytgifdmfnecombaa
