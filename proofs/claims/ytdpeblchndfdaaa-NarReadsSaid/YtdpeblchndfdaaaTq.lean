/- A range over a function whose iterator itself ranges over a function: what holds between rounds abides the turn of whatever block, that is no cells, the iterator has laid. (Beside the library's law, whose iterators turn walks' blocks alone.) -/
import Derived.Test.YtdpeblchndfdaaaTp
namespace Go.Proofs.Ytdpeblchndfdaaa
open Go.RowKit Go.Shelf
set_option maxRecDepth 100000
section
variable {F : Fence} {n : Nat} {P : Program} {w : World}
/-- what a round owes: whether it goes on or leaves -/
def PostF {α : Type} (B : Nat) (Kp : World → World → Prop) (I : List α → World → Prop) (Ix : Code → List α → World → Prop) (xs : List α) (W : World) : Exit → Act → World → Prop
  | .normal, _, W' => KeepsFrom B W W' ∧ Kp W W' ∧ I xs W'
  | .ret, _, W' => KeepsFrom B W W' ∧ Kp W W' ∧ Ix .ret xs W'
  | .exit id, _, W' => KeepsFrom B W W' ∧ Kp W W' ∧ Ix (.exit id) xs W'
  | .goto t, _, W' => KeepsFrom B W W' ∧ Kp W W' ∧ Ix (.goto t) xs W'
  | .panic _, _, _ => False
  | .outgrown, _, _ => False
/-- an iterator's word, over whatever holds that abides its own blocks' turns -/
def Tells {α : Type} (F : Fence) (n : Nat) (P : Program) (g : Nat) (lb : Array Value) (encs : α → Array Value) (Kp : World → World → Prop) (S Sp : List α → Prop) (N l : Nat) (W : World) : Prop :=
  ∀ (J Jx : List α → World → Prop), OwnFrom W.heap.size J → OwnFrom W.heap.size Jx →
    (∀ pre x V, J pre V → pre.length < N → YieldAt F (n - 1) P l (encs x) V fun e V' => (e = .returned (.bool true) ∧ J (pre ++ [x]) V' ∧ Kp V V') ∨ (e = .returned (.bool false) ∧ Jx (pre ++ [x]) V' ∧ Kp V V')) →
    J [] W → CallsIn F n P g (#[.func (.yield l) #[] #[]] ++ lb) W fun e V => (∃ v, e = .returned v) ∧ ((∃ xs, S xs ∧ J xs V) ∨ (∃ pre, Sp pre ∧ Jx pre V))
theorem rf_law {α : Type} {g : Operand} {ps : Array Tmp} {assign body : Code} {Q : Exit → Act → World → Prop} {a : Act} (hro : F.round = none) (h1 : 1 ≤ n) {gf : Nat} {lb : Array Value}
    (hg : a.eval g = .func (.func gf) #[] lb) (hFg : F.fn gf) (eg : ∀ args w, (callFunc gf args).run P w = .ok (.enter gf args) w) {encs : α → Array Value} {Kp : World → World → Prop} {S Sp : List α → Prop} {N : Nat}
    (hseq : ∀ W, Below w.heap.size w W → W.heap.size = w.heap.size + 2 → Tells F (n - 1) P gf lb encs Kp S Sp N (w.heap.size + 1) W)
    (hKt : ∀ {A B C : World}, Kp A B → Kp B C → Kp A C) (hKb : ∀ (W : World) (o o' : Obj), W.heap[w.heap.size + 1]? = some o → o.isCells = false → Kp W (W.putObj (w.heap.size + 1) o')) (hps : ∀ x, (encs x).size = ps.size)
    (I : List α → World → Prop) (Ix : Code → List α → World → Prop) (hI : OwnFrom w.heap.size I) (hIx : ∀ c, OwnFrom w.heap.size (Ix c)) (h0 : I [] w) (Ax : α → Act → World → Prop) (hAx : ∀ x a', OwnFrom w.heap.size (fun (_ : Unit) W => Ax x a' W))
    (hassign : ∀ (l : Nat) (pre : List α) (x : α) (W : World) (K : Act → World → Prop), I pre W → (∀ a' W', KeepsFrom w.heap.size W W' → Kp W W' → I pre W' → Ax x a' W' → K a' W') →
      assign.wpIn (F.inRound l) (n - 1 - 1) P (Exit.then K (fun _ _ _ => False)) { tmps := (ps.zip (encs x)).foldl (fun t (p, v) => t.setIfInBounds p v) a.tmps, defers := [] } W)
    (hbody : ∀ (l : Nat) (pre : List α) (x : α) (a' : Act) (W : World), I pre W → Ax x a' W → pre.length < N → body.wpIn (F.inRound l) (n - 1 - 1) P (PostF w.heap.size Kp I Ix (pre ++ [x]) W) a' W)
    (hdone : ∀ (D : Nat) (xs : List α) (W : World), w.heap.size ≤ D → S xs → I xs W → W.heap[D]? = some (.deferred (some [])) → Q .normal { a with defers := { target := .collected D, args := #[] } :: a.defers } W)
    (hstop : ∀ (D : Nat) (c : Code) (pre : List α) (W : World), w.heap.size ≤ D → Sp pre → Ix c pre W → W.heap[D]? = some (.deferred (some [])) → c.wpIn F n P Q { a with defers := { target := .collected D, args := #[] } :: a.defers } W) :
    (Code.rangeFunc g ps assign body).wpIn F n P Q a w := by
  refine wpIn_rangeFunc ?_
  intro fn hfn
  rw [hro]
  obtain ⟨mk, hmk⟩ : ∃ mk : LoopState → Option Code → Loop, mk = fun st pe => { state := st, pending := pe, fn, tmps := a.tmps, params := ps, assign, body, defers := w.heap.size } := ⟨_, rfl⟩
  obtain ⟨U, hU⟩ : ∃ U, (w.alloc (.deferred (some []))).alloc (.loop (mk .ready none)) = U := ⟨_, rfl⟩
  have zU : U.heap.size = w.heap.size + 2 := by rw [← hU, World.size_alloc, World.size_alloc]
  have lU : U.heap[w.heap.size + 1]? = some (.loop (mk .ready none)) := by
    rw [← hU]
    have h := World.alloc_heap_new (w.alloc (.deferred (some []))) (.loop (mk .ready none))
    rwa [World.size_alloc] at h
  have dU : U.heap[w.heap.size]? = some (.deferred (some [])) := by
    rw [← hU, Below.heap_alloc _ _ _ (by rw [World.size_alloc]; omega)]
    exact World.alloc_heap_new w _
  have bU : Below w.heap.size w U := by rw [← hU]; exact ((Below.refl _ w).alloc (Nat.le_refl _) _).alloc (by rw [World.size_alloc]; omega) _
  have iU : I [] U := by rw [← hU]; exact hI.alloc _ (hI.alloc _ h0)
  refine ⟨w.heap.size + 1, [{ target := .collected w.heap.size, args := #[] }], U, { target := .fn (.func gf) lb, args := #[.func (.yield (w.heap.size + 1)) #[] #[]] }, U, gf, #[.func (.yield (w.heap.size + 1)) #[] #[]] ++ lb, U, ?_, ?_, ?_, ?_, fun _ => h1, ?_⟩
  · rw [← hU, hmk]; exact run_enterLoop_outer _ _ _ _ _
  · simp only [resolve, hg]
    simp [go_sem]
  · intro f' hf'; simp [Target.leads] at hf'; subst hf'; exact hFg
  · simp [invoke, go_sem, eg]
  -- a block that the iterator has laid is neither of the two
  have two : ∀ {A B : World} {row : Option Nat}, A.grownBy B row → (∀ r, row = some r → U.heap.size ≤ r ∧ ∃ o : Obj, A.heap[r]? = some o ∧ o.isCells = false) → ∀ k, k < U.heap.size → ∀ o, A.heap[k]? = some o → B.heap[k]? = some o :=
    fun hg' hr k hk o ho => (hg'.block k (Array.getElem?_eq_some_iff.1 ho).1 (fun e => by have := (hr k e.symm).1; omega)).trans ho
  have lift : ∀ {β : Type} {X : β → World → Prop}, OwnFrom w.heap.size X → OwnFrom U.heap.size X := fun h s A B row hs hg' hr => h s A B row hs hg' (fun r e => ⟨by have := (hr r e).1; omega, (hr r e).2⟩)
  refine (hseq U bU zU (fun pre W => I pre W ∧ W.heap[w.heap.size + 1]? = some (.loop (mk .ready none)) ∧ W.heap[w.heap.size]? = some (.deferred (some [])))
    (fun pre W => ∃ c, Ix c pre W ∧ W.heap[w.heap.size + 1]? = some (.loop (mk .done (some c))) ∧ W.heap[w.heap.size]? = some (.deferred (some [])))
    (fun s A B row hs hg' hr => ⟨lift hI s A B row hs.1 hg' hr, two hg' hr _ (by omega) _ hs.2.1, two hg' hr _ (by omega) _ hs.2.2⟩)
    (fun s A B row ⟨c, hc, hl, hk⟩ hg' hr => ⟨c, lift (hIx c) s A B row hc hg' hr, two hg' hr _ (by omega) _ hl, two hg' hr _ (by omega) _ hk⟩) ?_ ⟨iU, lU, dU⟩).mono ?_
  · rintro pre x W ⟨hi, hl, hk⟩ hlen
    have hy := run_yield (P := P) (args := encs x) hl (by rw [hmk]; exact hps x)
    rw [hmk] at hy
    refine ⟨fn, _, assign, body, hy, roundIn_of_wpIn hfn (hassign _ pre x W _ hi ?_)⟩
    clear hy
    intro a' V hkf hkp hiV hax
    have lV := hkf.same _ _ (by omega) hl rfl
    have dV := hkf.same _ _ (Nat.le_refl _) hk rfl
    have zV : w.heap.size + 1 < V.heap.size := (Array.getElem?_eq_some_iff.1 lV).1
    refine ⟨_, run_beginRound lV (by rw [hmk]), ?_⟩
    have lB : (V.putObj (w.heap.size + 1) (.loop { mk .ready none with state := .busy })).heap[w.heap.size + 1]? = some (.loop { mk .ready none with state := .busy }) := World.putObj_heap_same zV
    have dB : (V.putObj (w.heap.size + 1) (.loop { mk .ready none with state := .busy })).heap[w.heap.size]? = some (.deferred (some [])) := (World.putObj_heap_other (by omega)).trans dV
    have kB : Kp V (V.putObj (w.heap.size + 1) (.loop { mk .ready none with state := .busy })) := hKb _ _ _ lV rfl
    refine wpIn_mono (hbody _ pre x a' _ (hI.putObj _ hiV (by omega) lV rfl) ((hAx x a').putObj (s := ()) _ hax (by omega) lV rfl) hlen) ?_
    have fin : ∀ (jump : Option Code) (X : World), KeepsFrom w.heap.size (V.putObj (w.heap.size + 1) (.loop { mk .ready none with state := .busy })) X →
        (Instr.endRound (w.heap.size + 1) jump).run P X = .ok (.bool jump.isNone) (X.putObj (w.heap.size + 1) (.loop (mk (if jump.isNone then .ready else .done) jump))) ∧
        X.heap[w.heap.size + 1]? = some (.loop { mk .ready none with state := .busy }) ∧
        (X.putObj (w.heap.size + 1) (.loop (mk (if jump.isNone then .ready else .done) jump))).heap[w.heap.size + 1]? = some (.loop (mk (if jump.isNone then .ready else .done) jump)) ∧
        (X.putObj (w.heap.size + 1) (.loop (mk (if jump.isNone then .ready else .done) jump))).heap[w.heap.size]? = some (.deferred (some [])) := fun jump X hX => by
      have lX := hX.same _ _ (by omega) lB rfl
      have h := run_endRound (P := P) jump lX
      rw [hmk] at h ⊢
      exact ⟨h, by rw [hmk] at lX; exact lX, World.putObj_heap_same (Array.getElem?_eq_some_iff.1 lX).1, (World.putObj_heap_other (by omega)).trans (hX.same _ _ (Nat.le_refl _) dB rfl)⟩
    have out : ∀ (c : Code) (X : World), KeepsFrom w.heap.size (V.putObj (w.heap.size + 1) (.loop { mk .ready none with state := .busy })) X → Kp (V.putObj (w.heap.size + 1) (.loop { mk .ready none with state := .busy })) X → Ix c (pre ++ [x]) X →
        ∃ v X', (Instr.endRound (w.heap.size + 1) (some c)).run P X = .ok v X' ∧ v = .bool false ∧ ∃ c', Ix c' (pre ++ [x]) X' ∧ X'.heap[w.heap.size + 1]? = some (.loop (mk .done (some c'))) ∧ X'.heap[w.heap.size]? = some (.deferred (some [])) ∧ Kp W X' := fun c X hX hkX hi3 => by
      obtain ⟨hr, l3, l4, d4⟩ := fin (some c) X hX
      exact ⟨_, _, hr, rfl, c, (hIx c).putObj _ hi3 (by omega) l3 rfl, l4, d4, hKt hkp (hKt (hKt kB hkX) (hKb _ _ _ l3 rfl))⟩
    rintro e a3 X hp
    cases e with
    | normal =>
      obtain ⟨hX, hkX, hiX⟩ := hp
      obtain ⟨hr, l3, l4, d4⟩ := fin none X hX
      exact ⟨_, _, hr, .inl ⟨rfl, ⟨hI.putObj _ hiX (by omega) l3 rfl, l4, d4⟩, hKt hkp (hKt (hKt kB hkX) (hKb _ _ _ l3 rfl))⟩⟩
    | ret =>
      obtain ⟨v, X', hr, rfl, c, q1, q2, q3, q4⟩ := out .ret X hp.1 hp.2.1 hp.2.2
      exact ⟨_, _, hr, .inr ⟨rfl, ⟨c, q1, q2, q3⟩, q4⟩⟩
    | exit id =>
      obtain ⟨v, X', hr, rfl, c, q1, q2, q3, q4⟩ := out (.exit id) X hp.1 hp.2.1 hp.2.2
      exact ⟨_, _, hr, .inr ⟨rfl, ⟨c, q1, q2, q3⟩, q4⟩⟩
    | goto t =>
      obtain ⟨v, X', hr, rfl, c, q1, q2, q3, q4⟩ := out (.goto t) X hp.1 hp.2.1 hp.2.2
      exact ⟨_, _, hr, .inr ⟨rfl, ⟨c, q1, q2, q3⟩, q4⟩⟩
    | panic ch => exact hp.elim
    | outgrown => exact hp.elim
  · rintro e W2 ⟨⟨v, rfl⟩, (⟨xs, hS, hi, hl, hk⟩ | ⟨pre, hSp, c, hi, hl, hk⟩)⟩
    · exact ⟨none, _, by have h := run_endLoop (P := P) hl (by rw [hmk]; simp); rw [hmk] at h; exact h, hdone _ xs _ (Nat.le_refl _) hS (hI.putObj _ hi (by omega) hl rfl) ((World.putObj_heap_other (by omega)).trans hk)⟩
    · exact ⟨some c, _, by have h := run_endLoop (P := P) hl (by rw [hmk]; simp); rw [hmk] at h; exact h, hstop _ c pre _ (Nat.le_refl _) hSp ((hIx c).putObj _ hi (by omega) hl rfl) ((World.putObj_heap_other (by omega)).trans hk)⟩
end
end Go.Proofs.Ytdpeblchndfdaaa
