/- The state of a disk, and the walks of what reads or sets one of its fields. -/
import Derived.Test.YtcgjkopdnhkdiaaRows
import Derived.Test.YtcgjkopdnhkdiaaDa
import Derived.WalkKit
import Derived.WalkSpells
import Derived.WalkLawsBesides
import Derived.Lib.Hide
import Derived.LoopTactic
import Derived.StillTailTactics
namespace Go.Proofs.Ytcgjkopdnhkdiaa
open Go.RowKit
set_option maxRecDepth 100000

/-- a disk: what is flushed, what waits, is it off, the fuse, how many operations -/
structure Dk where
  fl : List (List UInt8)
  ws : List (Nat × List UInt8)
  off : Bool
  fuse : Int
  ops : Nat
def vals (ss : List (List UInt8)) : List Value := ss.flatMap (·.map bv)
def wcell (x : Nat × List UInt8) : List Value := .int .i64 (x.1 : Int) :: x.2.map bv
def wcells (ws : List (Nat × List UInt8)) : List Value := ws.flatMap wcell
def putAll (fl : List (List UInt8)) (ws : List (Nat × List UInt8)) : List (List UInt8) := ws.foldl (fun f x => f.set x.1 x.2) fl
/-- what is read -/
def Dk.nw (s : Dk) : List (List UInt8) := putAll s.fl s.ws
structure Dk.Ok (n : Nat) (s : Dk) : Prop where
  n1 : 1 ≤ n
  n2 : n ≤ 4096
  fl : s.fl.length = n
  f128 : ∀ x ∈ s.fl, x.length = 128
  ws : ∀ x ∈ s.ws, x.1 < n ∧ x.2.length = 128
  f1 : -9223372036854775808 ≤ s.fuse
  f2 : s.fuse ≤ 9223372036854775807
theorem putAll_len : ∀ (ws : List (Nat × List UInt8)) (fl : List (List UInt8)), (putAll fl ws).length = fl.length
  | [], _ => rfl
  | x :: r, fl => by
    have := putAll_len r (fl.set x.1 x.2)
    rw [List.length_set] at this
    exact this
theorem putAll_128 : ∀ (ws : List (Nat × List UInt8)) (fl : List (List UInt8)), (∀ x ∈ fl, x.length = 128) → (∀ x ∈ ws, x.2.length = 128) → ∀ x ∈ putAll fl ws, x.length = 128
  | [], _, h, _ => h
  | y :: r, fl, h, h2 => putAll_128 r (fl.set y.1 y.2) (fun x hx => by
      rcases List.mem_or_eq_of_mem_set hx with hx | rfl
      · exact h x hx
      · exact h2 y (by simp)) (fun x hx => h2 x (by simp [hx]))
theorem putAll_snoc (fl : List (List UInt8)) (ws : List (Nat × List UInt8)) (x : Nat × List UInt8) : putAll fl (ws ++ [x]) = (putAll fl ws).set x.1 x.2 := by
  unfold putAll; rw [List.foldl_append]; rfl
theorem Dk.Ok.nw {n : Nat} {s : Dk} (h : s.Ok n) : s.nw.length = n := by unfold Dk.nw; rw [putAll_len, h.fl]
theorem Dk.Ok.n128 {n : Nat} {s : Dk} (h : s.Ok n) : ∀ x ∈ s.nw, x.length = 128 := putAll_128 _ _ h.f128 (fun x hx => (h.ws x hx).2)
structure DiskAt (w : World) (D F N : Nat) (ao : Option Addr) (cap n : Nat) (s : Dk) : Prop where
  d : At w D 68 [.slice (some ⟨F, 0, none⟩) n n, .slice (some ⟨N, 0, none⟩) n n, .slice ao s.ws.length cap, .bool s.off, .int .i64 s.fuse, .int .u64 (s.ops : Int)]
  f : At w F 74 (vals s.fl)
  v : At w N 74 (vals s.nw)
  w : Own w 78 129 ao s.ws.length cap (wcells s.ws)
  ne : F ≠ N
  ok : s.Ok n
def foot (D F N : Nat) (ao : Option Addr) : List Nat := D :: F :: N :: blk ao
theorem At.ne {w : World} {B B2 : Nat} {T T2 : TypeId} {l l2 : List Value} (h : At w B T l) (h2 : At w B2 T2 l2) (hT : T ≠ T2) : B ≠ B2 := fun e => by
  subst e
  unfold At at h h2
  rw [h] at h2
  cases h2
  exact hT rfl
section
variable {w : World} {D F N : Nat} {ao : Option Addr} {cap n : Nat} {s : Dk}
theorem DiskAt.df (h : DiskAt w D F N ao cap n s) : D ≠ F := h.d.ne h.f (by decide)
theorem DiskAt.dn (h : DiskAt w D F N ao cap n s) : D ≠ N := h.d.ne h.v (by decide)
theorem DiskAt.da (h : DiskAt w D F N ao cap n s) : D ∉ blk ao := h.w.type h.d (by decide)
theorem DiskAt.fa (h : DiskAt w D F N ao cap n s) : F ∉ blk ao := h.w.type h.f (by decide)
theorem DiskAt.na (h : DiskAt w D F N ao cap n s) : N ∉ blk ao := h.w.type h.v (by decide)
theorem DiskAt.lt (h : DiskAt w D F N ao cap n s) : ∀ i, i ∈ foot D F N ao → i < w.heap.size := fun i hi => by
  unfold foot at hi
  simp only [List.mem_cons] at hi
  rcases hi with rfl | rfl | rfl | hi
  · exact h.d.lt
  · exact h.f.lt
  · exact h.v.lt
  · exact h.w.lt i hi
theorem DiskAt.touch {ft : List Nat} {w' : World} (h : DiskAt w D F N ao cap n s) (k : Touch ft w w') (hne : ∀ i, i ∈ foot D F N ao → i ∉ ft) : DiskAt w' D F N ao cap n s :=
  ⟨h.d.touch k (hne D (by simp [foot])), h.f.touch k (hne F (by simp [foot])), h.v.touch k (hne N (by simp [foot])), h.w.touch k (fun i hi => hne i (by simp [foot, hi])), h.ne, h.ok⟩
theorem DiskAt.below {w' : World} (h : DiskAt w D F N ao cap n s) (k : Below w.heap.size w w') : DiskAt w' D F N ao cap n s := h.touch (ft := []) (Touch.of_below k) (by simp)
theorem DiskAt.drew (h : DiskAt w D F N ao cap n s) : DiskAt w.drew D F N ao cap n s := ⟨h.d, h.f, h.v, h.w, h.ne, h.ok⟩
theorem DiskAt.drewN (h : DiskAt w D F N ao cap n s) (q : Nat) : DiskAt (w.drewN q) D F N ao cap n s := ⟨h.d, h.f, h.v, h.w, h.ne, h.ok⟩
theorem DiskAt.alloc (h : DiskAt w D F N ao cap n s) (o : Obj) : DiskAt (w.alloc o) D F N ao cap n s := h.below ((Below.refl _ _).alloc (Nat.le_refl _) _)
/-- one of the disk's own cells is set -/
theorem DiskAt.set (h : DiskAt w D F N ao cap n s) (i : Nat) (v : Value) (s' : Dk) (e : [Value.slice (some ⟨F, 0, none⟩) n n, .slice (some ⟨N, 0, none⟩) n n, .slice ao s.ws.length cap, .bool s.off, .int .i64 s.fuse, .int .u64 (s.ops : Int)].set i v =
      [.slice (some ⟨F, 0, none⟩) n n, .slice (some ⟨N, 0, none⟩) n n, .slice ao s'.ws.length cap, .bool s'.off, .int .i64 s'.fuse, .int .u64 (s'.ops : Int)]) (e1 : s'.fl = s.fl) (e3 : s'.ws = s.ws) (ok : s'.Ok n) :
    DiskAt (w.setCell ⟨D, i, none⟩ v) D F N ao cap n s' := by
  have hT : Touch [D] w (w.setCell ⟨D, i, none⟩ v) := (Touch.refl _ _).setCell _ _ (.inl (by simp))
  refine ⟨by rw [← e]; exact h.d.setCell i v, by rw [e1]; exact h.f.touch hT (by simp [h.df.symm]), by unfold Dk.nw; rw [e1, e3]; exact h.v.touch hT (by simp [h.dn.symm]), by rw [e3]; exact h.w.touch hT (fun i hi => by simp; rintro rfl; exact h.da hi), h.ne, ok⟩
end

def Dk.tick (s : Dk) : Dk := if s.off then s else { s with ops := s.ops + 1, fuse := if 0 < s.fuse then s.fuse - 1 else s.fuse, off := decide (s.fuse = 1) }
theorem Dk.tick_ok {n : Nat} {s : Dk} (h : s.Ok n) : s.tick.Ok n := by
  unfold Dk.tick
  have f1 := h.f1
  have f2 := h.f2
  split
  · exact h
  · refine ⟨h.n1, h.n2, h.fl, h.f128, h.ws, ?_, ?_⟩ <;> (simp only []; split <;> omega)
/-- a fuse is laid -/
def Dk.arm (s : Dk) (k : Int) : Dk := if s.off then s else { s with fuse := k }
def Dk.cut (s : Dk) : Dk := { s with off := true, fuse := 0 }

section
variable {w : World} {D F N : Nat} {ao : Option Addr} {cap n : Nat} {s : Dk}
theorem len_any (h : DiskAt w D F N ao cap n s) : Calls Try.prog 26 #[.pointer (some ⟨D, 0, none⟩)] w fun e w' => e = .returned (.int .i64 (n : Int)) ∧ w' = w := by
  have c := h.d.cell 1 _ rfl
  clear h
  go_enter Try.func26, Try.ntmps26
  go_wp2
  go_ret
  exact ⟨rfl, rfl⟩
theorem ops_any (h : DiskAt w D F N ao cap n s) : Calls Try.prog 25 #[.pointer (some ⟨D, 0, none⟩)] w fun e w' => e = .returned (.int .u64 (s.ops : Int)) ∧ w' = w := by
  have c := h.d.cell 5 _ rfl
  clear h
  go_enter Try.func25, Try.ntmps25
  go_wp2
  go_ret
  exact ⟨rfl, rfl⟩
theorem on_any (h : DiskAt w D F N ao cap n s) : Calls Try.prog 24 #[.pointer (some ⟨D, 0, none⟩)] w fun e w' => e = .returned (.bool (!s.off)) ∧ w' = w := by
  have c := h.d.cell 3 _ rfl
  clear h
  go_enter Try.func24, Try.ntmps24
  go_wp2
  go_ret
  exact ⟨rfl, rfl⟩
theorem off_any (h : DiskAt w D F N ao cap n s) : Calls Try.prog 17 #[.pointer (some ⟨D, 0, none⟩)] w fun e w' => e = .returned (.tuple #[]) ∧ DiskAt w' D F N ao cap n s.cut ∧ Touch [D] w w' := by
  have c3 := h.d.cell 3 _ rfl
  have c4 := h.d.cell 4 _ rfl
  have f3 := h.d.frozen 3
  have f4 := h.d.frozen 4
  have H := Lib.hid h
  clear h
  go_enter Try.func17, Try.ntmps17
  go_wp2
  go_end0
  refine ⟨rfl, ?_, ((Touch.refl _ _).setCell _ _ (.inl (by simp))).setCell _ _ (.inl (by simp))⟩
  have ok := H.out.ok
  exact (H.out.set 3 (.bool true) { s with off := true } rfl rfl rfl ⟨ok.n1, ok.n2, ok.fl, ok.f128, ok.ws, ok.f1, ok.f2⟩).set 4 (.int .i64 0) s.cut rfl rfl rfl ⟨ok.n1, ok.n2, ok.fl, ok.f128, ok.ws, by simp [Dk.cut], by simp [Dk.cut]⟩
end
end Go.Proofs.Ytcgjkopdnhkdiaa
