/- The document's disk: its state in memory, and the walk of one operation's power. -/
import Derived.Test.YtcgjkopdnhkdiaaDc
namespace Go.Proofs.Ytcgjkopdnhkdiaa
open Go.RowKit
set_option maxRecDepth 100000

/-- texts as values; one write that waits -/
def tv (t : List UInt8) : Value := .string (bs t)
def rcell (x : Nat × List UInt8) : List Value := [.int .i64 (x.1 : Int), tv x.2]
def rcells (ws : List (Nat × List UInt8)) : List Value := ws.flatMap rcell
def heads (fo : Option Addr) (fc : Nat) (ao : Option Addr) (cap : Nat) (s : Dk) : List Value :=
  [.slice fo s.fl.length fc, .slice ao s.ws.length cap, .bool (!s.off), .int .i64 (max s.fuse 0), .int .u64 (s.ops : Int)]
/-- the document's disk, in the same states as a disk -/
structure RefAt (w : World) (D : Nat) (fo : Option Addr) (fc : Nat) (ao : Option Addr) (cap n : Nat) (s : Dk) : Prop where
  d : At w D 43 (heads fo fc ao cap s)
  f : Own w 9 1 fo s.fl.length fc (s.fl.map tv)
  w : Own w 76 2 ao s.ws.length cap (rcells s.ws)
  ok : s.Ok n
def rfoot (D : Nat) (fo ao : Option Addr) : List Nat := D :: (blk fo ++ blk ao)
section
variable {w : World} {D : Nat} {fo ao : Option Addr} {fc cap n : Nat} {s : Dk}
theorem RefAt.df (h : RefAt w D fo fc ao cap n s) : D ∉ blk fo := h.f.type h.d (by decide)
theorem RefAt.da (h : RefAt w D fo fc ao cap n s) : D ∉ blk ao := h.w.type h.d (by decide)
theorem RefAt.lt (h : RefAt w D fo fc ao cap n s) : ∀ i, i ∈ rfoot D fo ao → i < w.heap.size := fun i hi => by
  unfold rfoot at hi
  simp only [List.mem_cons, List.mem_append] at hi
  rcases hi with rfl | hi | hi
  · exact h.d.lt
  · exact h.f.lt i hi
  · exact h.w.lt i hi
theorem RefAt.touch {ft : List Nat} {w' : World} (h : RefAt w D fo fc ao cap n s) (k : Touch ft w w') (hne : ∀ i, i ∈ rfoot D fo ao → i ∉ ft) : RefAt w' D fo fc ao cap n s :=
  ⟨h.d.touch k (hne D (by simp [rfoot])), h.f.touch k (fun i hi => hne i (by simp [rfoot, hi])), h.w.touch k (fun i hi => hne i (by simp [rfoot, hi])), h.ok⟩
theorem RefAt.below {w' : World} (h : RefAt w D fo fc ao cap n s) (k : Below w.heap.size w w') : RefAt w' D fo fc ao cap n s := h.touch (ft := []) (Touch.of_below k) (by simp)
theorem RefAt.drew (h : RefAt w D fo fc ao cap n s) : RefAt w.drew D fo fc ao cap n s := ⟨h.d, h.f, h.w, h.ok⟩
theorem RefAt.drewN (h : RefAt w D fo fc ao cap n s) (q : Nat) : RefAt (w.drewN q) D fo fc ao cap n s := ⟨h.d, h.f, h.w, h.ok⟩
theorem RefAt.alloc (h : RefAt w D fo fc ao cap n s) (o : Obj) : RefAt (w.alloc o) D fo fc ao cap n s := h.below ((Below.refl _ _).alloc (Nat.le_refl _) _)
theorem RefAt.set (h : RefAt w D fo fc ao cap n s) (i : Nat) (v : Value) (s' : Dk) (e : (heads fo fc ao cap s).set i v = heads fo fc ao cap s') (e1 : s'.fl = s.fl) (e3 : s'.ws = s.ws) (ok : s'.Ok n) :
    RefAt (w.setCell ⟨D, i, none⟩ v) D fo fc ao cap n s' := by
  have hT : Touch [D] w (w.setCell ⟨D, i, none⟩ v) := (Touch.refl _ _).setCell _ _ (.inl (by simp))
  refine ⟨by rw [← e]; exact h.d.setCell i v, by rw [e1]; exact h.f.touch hT (fun i hi => by simp; rintro rfl; exact h.df hi), by rw [e3]; exact h.w.touch hT (fun i hi => by simp; rintro rfl; exact h.da hi), ok⟩
set_option maxHeartbeats 1000000 in
theorem refOp_any (h : RefAt w D fo fc ao cap n s) (ho : s.ops < 9223372036854775807) :
    Calls Try.prog 43 #[.pointer (some ⟨D, 0, none⟩)] w fun e w' => e = .returned (.bool (!s.tick.off)) ∧ RefAt w' D fo fc ao cap n s.tick ∧ Touch [D] w w' := by
  have c2 := h.d.cell 2 _ rfl
  have c3 := h.d.cell 3 _ rfl
  have c4 := h.d.cell 4 _ rfl
  have f2 := h.d.frozen 2
  have f3 := h.d.frozen 3
  have f4 := h.d.frozen 4
  have H := Lib.hid h
  have OK := Lib.hid h.ok
  clear h
  have u1 := OK.out.f1
  have u2 := OK.out.f2
  cases hoff : s.off
  · have HO := Lib.hid hoff
    rw [hoff] at c2
    clear hoff
    have e1 : IntKind.u64.wrap ((s.ops : Int) + 1) = (s.ops : Int) + 1 := by simp only [IntKind.wrap, IntKind.bits, IntKind.signed]; simp; omega
    have H5 := Lib.hid (H.out.set 4 (.int .u64 ((s.ops : Int) + 1)) { s with ops := s.ops + 1 } (by simp [heads]) rfl rfl ⟨OK.out.n1, OK.out.n2, OK.out.fl, OK.out.f128, OK.out.ws, u1, u2⟩)
    have T5 := Lib.hid ((Touch.refl [D] w).setCell ⟨D, 4, none⟩ (.int .u64 ((s.ops : Int) + 1)) (.inl (by simp)))
    by_cases hf : 0 < s.fuse
    · have em : max s.fuse 0 = s.fuse := by omega
      rw [em] at c3
      have d1 : decide (0 < s.fuse) = true := by simpa using hf
      have et : s.tick = { s with ops := s.ops + 1, fuse := s.fuse - 1, off := decide (s.fuse = 1) } := by unfold Dk.tick; rw [HO.out, if_pos hf]; rfl
      have ET := Lib.hid et
      clear et
      have H4 := Lib.hid (H5.out.set 3 (.int .i64 (s.fuse - 1)) { s with ops := s.ops + 1, fuse := s.fuse - 1 } (by simp only [heads, List.set_cons_succ, List.set_cons_zero]; rw [show max (s.fuse - 1) 0 = s.fuse - 1 by omega]) rfl rfl ⟨OK.out.n1, OK.out.n2, OK.out.fl, OK.out.f128, OK.out.ws, by simp only []; omega, by simp only []; omega⟩)
      have T4 := Lib.hid (T5.out.setCell ⟨D, 3, none⟩ (.int .i64 (s.fuse - 1)) (.inl (by simp)))
      by_cases hone : s.fuse = 1
      · rw [hone] at c3 H4 T4
        have H3 := Lib.hid (H4.out.set 2 (.bool false) { s with ops := s.ops + 1, fuse := 0, off := true } (by simp [heads]) rfl rfl ⟨OK.out.n1, OK.out.n2, OK.out.fl, OK.out.f128, OK.out.ws, by simp only []; omega, by simp only []; omega⟩)
        have T3 := Lib.hid (T4.out.setCell ⟨D, 2, none⟩ (.bool false) (.inl (by simp)))
        go_enter Try.func43, Try.ntmps43
        go_wp2
        go_ret
        rw [ET.out, hone]
        exact ⟨rfl, H3.out, T3.out⟩
      · have hone2 : ¬ s.fuse - 1 = 0 := by omega
        have hone3 : decide (s.fuse = 1) = false := by simp; exact hone
        go_enter Try.func43, Try.ntmps43
        go_wp2
        go_ret
        rw [ET.out, hone3]
        have e5 : ({ s with ops := s.ops + 1, fuse := s.fuse - 1, off := false } : Dk) = { s with ops := s.ops + 1, fuse := s.fuse - 1 } := by rw [← HO.out]
        rw [e5]
        exact ⟨by simp only [HO.out]; rfl, H4.out, T4.out⟩
    · have em : max s.fuse 0 = 0 := by omega
      rw [em] at c3
      have et : s.tick = { s with ops := s.ops + 1 } := by
        unfold Dk.tick; rw [HO.out, if_neg hf]
        have : decide (s.fuse = 1) = false := by simp; omega
        rw [this]; simp [HO.out]
      have ET := Lib.hid et
      clear et
      go_enter Try.func43, Try.ntmps43
      go_wp2
      go_ret
      rw [ET.out]
      exact ⟨by simp only [HO.out]; rfl, H5.out, T5.out⟩
  · have HO := Lib.hid hoff
    rw [hoff] at c2
    clear hoff
    have et : s.tick = s := by unfold Dk.tick; rw [HO.out]; rfl
    have ET := Lib.hid et
    clear et
    go_enter Try.func43, Try.ntmps43
    go_wp2
    go_ret
    rw [ET.out]
    exact ⟨by rw [HO.out]; rfl, H.out, Touch.refl _ _⟩
end
end Go.Proofs.Ytcgjkopdnhkdiaa
