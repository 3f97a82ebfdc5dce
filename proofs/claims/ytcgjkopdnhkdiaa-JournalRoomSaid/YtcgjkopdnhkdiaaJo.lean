/- A journal in memory; which head counts. -/
import Derived.Test.YtcgjkopdnhkdiaaJl
import Derived.Test.YtcgjkopdnhkdiaaJn
namespace Go.Proofs.Ytcgjkopdnhkdiaa
open Go.RowKit
set_option maxRecDepth 100000
/-- a journal: where it lies, the head that counts, which it is, the bytes of its records; did a call say that the power was off -/
structure Jn where
  pl : Pl
  hd : Hd
  stands : Nat
  bytes : List UInt8
  off : Bool
def Jn.cells (j : Jn) : List Value := [.pointer (some ⟨j.pl.D, 0, none⟩), .int .i64 (j.pl.at_ : Int), .int .i64 (j.pl.span : Int), .int .u64 (j.hd.num : Int), .int .i64 (j.hd.half : Int), .int .i64 (j.hd.size : Int), .int .i64 (j.stands : Int), .string (bs j.bytes), .bool j.off]
theorem Jn.place (j : Jn) {w : World} {J : Nat} (h : At w J 87 j.cells) : w.rangeAt J 0 j.pl.cells := fun i v hv => by
  have hi : i < 3 := (List.getElem?_eq_some_iff.1 hv).1
  rw [Nat.zero_add]
  have : i = 0 ∨ i = 1 ∨ i = 2 := by omega
  rcases this with rfl | rfl | rfl <;> (cases hv; exact h.cell _ _ rfl)
/-- where a head says a higher number, it is that -/
def pick (f : List UInt8) (i : Nat) (j : Jn) : Jn :=
  match headL f (j.pl.span * 128) with
  | some h => if j.hd.num < h.num then { j with hd := h, stands := i } else j
  | none => j
theorem pick_pl (f : List UInt8) (i : Nat) (j : Jn) : (pick f i j).pl = j.pl := by unfold pick; split <;> (try split) <;> rfl
def chosen (f0 f1 : List UInt8) (j : Jn) : Jn := pick f1 1 (pick f0 0 j)
def chs (f0 f1 : List UInt8) (j : Jn) : Nat → Jn
  | 0 => j
  | 1 => pick f0 0 j
  | _ => chosen f0 f1 j
theorem chs_pl (f0 f1 : List UInt8) (j : Jn) (k : Nat) : (chs f0 f1 j k).pl = j.pl := by
  unfold chs chosen
  split <;> simp [pick_pl]
theorem headL_num {l : List UInt8} {sp : Nat} {h : Hd} (hh : headL l sp = some h) : h.num < 18446744073709551616 ∧ h.half ≤ 1 ∧ h.size ≤ sp ∧ 0 < h.num := by
  unfold headL at hh
  split at hh
  · rename_i hc
    cases hh
    have := numL_lt (l.take 8)
    have hl : (l.take 8).length ≤ 8 := by rw [List.length_take]; omega
    have h2 : 256 ^ (l.take 8).length ≤ 256 ^ 8 := Nat.pow_le_pow_right (by omega) hl
    refine ⟨Nat.lt_of_lt_of_le this (Nat.le_trans h2 (by decide)), hc.2.2.1, hc.2.2.2, ?_⟩
    show 0 < numL (l.take 8)
    have := hc.2.1
    omega
  · cases hh
theorem splice_hd (j : Jn) (h : Hd) : splice j.cells 3 h.cells = { j with hd := h }.cells := rfl
theorem stored_new (w : World) (z c : Array Value) (T : TypeId) (h : z.toList.length = c.toList.length) : ((w.alloc (.cells z T)).setCells w.heap.size 0 c.toList).heap.size = w.heap.size + 1 := (store_new w z c T h).2.2.2
theorem idx0 (a b : Value) (W : World) : (Instr.index 92 (.agg #[a, b]) (.int .i64 0)).run Try.prog W = .ok a W := by kernel_rfl
theorem idx1 (a b : Value) (W : World) : (Instr.index 92 (.agg #[a, b]) (.int .i64 1)).run Try.prog W = .ok b W := by kernel_rfl
theorem noHd_all : (#[.int .u64 0, .int .i64 0, .int .i64 0] : Array Value).all (·.oneCell') = true := by kernel_rfl
set_option maxHeartbeats 8000000 in
theorem choose_any (J : Nat) (j : Jn) (f0 f1 : List UInt8) (w : World) (hJ : At w J 87 j.cells) (hp : j.pl.Ok) (hl0 : f0.length = 128) (hl1 : f1.length = 128) :
    Calls Try.prog 58 #[.pointer (some ⟨J, 0, none⟩), .agg #[.string (bs f0), .string (bs f1)]] w fun e w' => e = .returned (.int .i64 (if (chosen f0 f1 j).hd.num = 0 then 12 else 0)) ∧ At w' J 87 (chosen f0 f1 j).cells ∧ Touch [J] w w' := by
  have a0 := hJ.alloc (.cells #[.string (bs f0), .string (bs f1)] 92)
  have a1 := (At.new w #[.string (bs f0), .string (bs f1)] 92).range0
  have t0 := (Touch.refl [J] w).alloc (.cells #[.string (bs f0), .string (bs f1)] 92)
  have A0 := Lib.hid a0
  have A1 := Lib.hid a1
  have T0 := Lib.hid t0
  have HP := Lib.hid hp
  have HL0 := Lib.hid hl0
  have HL1 := Lib.hid hl1
  have hJlt := hJ.lt
  obtain ⟨R, hR⟩ : ∃ R : Int, R = (if (chosen f0 f1 j).hd.num = 0 then 12 else 0) := ⟨_, rfl⟩
  rw [← hR]
  have HRES := Lib.hid hR
  clear a0 a1 t0 hp hJ hl0 hl1 hR
  go_enter Try.func58, Try.ntmps58
  go_wp2_with (with_reducible refine load_any rfl 92 (.tmp 3) rfl ⟨w.heap.size, 0, none⟩ (by kernel_rfl) [.string (bs f0), .string (bs f1)] _ (fun i v hv => by rw [Addr.add0, ← Nat.zero_add i]; exact A1.out i v hv) Try.underlying92 rfl (by kernel_rfl) ?_)
  generalize w.alloc (.cells #[.string (bs f0), .string (bs f1)] 92) = w1 at *
  go_loopw [10] (fun i wx => ∃ k : Nat, k ≤ 2 ∧ i = .int .i64 k ∧ At wx J 87 (chs f0 f1 j k).cells ∧ Touch [J] w wx) (fun i _ => 2 - (intOf i).toNat)
  case atStart => exact ⟨0, by omega, rfl, A0.out, T0.out⟩
  clear A0 A1 T0
  case round =>
    obtain ⟨k, hk, rfl, hA, hT⟩ := hrel
    have hpk : (chs f0 f1 j k).pl.Ok := by rw [chs_pl]; exact HP.out
    have HPK := Lib.hid hpk
    have hk3 : k = 0 ∨ k = 1 ∨ k = 2 := by omega
    have HA := Lib.hid hA
    have HT := Lib.hid hT
    clear hA hT hpk
    rcases hk3 with rfl | rfl | rfl
    · obtain ⟨jj, hjj⟩ : ∃ jj, jj = chs f0 f1 j 0 := ⟨_, rfl⟩
      have hnx : chs f0 f1 j (0 + 1) = pick f0 0 jj := by rw [hjj]; rfl
      rw [← hjj] at HA HPK
      have HNX := Lib.hid hnx
      have hrg := jj.place HA.out
      have HRG := Lib.hid hrg
      clear hrg hnx hjj
      have hsp := HPK.out.s
      have hix := idx0 (.string (bs f0)) (.string (bs f1)) wr
      go_wp2_with (with_reducible refine wpList_load_mid rfl 83 (.tmp 18) rfl J 0 (by kernel_rfl) jj.pl.cells _ HRG.out Try.underlying83 rfl (by kernel_rfl) ?_)
      refine (space_any jj.pl HPK.out wr).mono ?_
      rintro e w2 ⟨rfl, b2⟩
      have A2 := Lib.hid (HA.out.below b2 HA.out.lt)
      have T2 := Lib.hid (HT.out.step (Touch.of_below (ft := []) b2) (by simp))
      clear b2 HA HT HRG
      go_wp2_with fail
      refine (headOf_any f0 (jj.pl.span * 128) (by omega) HL0.out w2).mono ?_
      rintro e w3 ⟨rfl, b3⟩
      have A3 := Lib.hid (A2.out.below b3 A2.out.lt)
      have T3 := Lib.hid (T2.out.step (Touch.of_below (ft := []) b3) (by simp))
      clear b3 A2 T2
      cases hh : headL f0 (jj.pl.span * 128) with
      | none =>
        have hpk : pick f0 0 jj = jj := by unfold pick; rw [hh]
        have HPI := Lib.hid hpk
        clear hpk hh
        obtain ⟨s1, s2, s3, s4⟩ := store_new w3 #[.int .u64 0, .int .i64 0, .int .i64 0] #[.int .u64 0, .int .i64 0, .int .i64 0] 85 rfl
        have A4 := Lib.hid (A3.out.touch s3 (by simp))
        have T4 := Lib.hid (T3.out.step s3 (by simp))
        have HTH := Lib.hid s1
        have c7 := s2.cell 0 _ rfl
        clear s1 s2 s3 s4 A3 T3
        unfold headV
        go_wp2_with (first | (with_reducible refine alloc_agg rfl 85 rfl #[.int .u64 0, .int .i64 0, .int .i64 0] zero_hd ?_) | (with_reducible refine wpList_store_mid rfl 85 (.tmp 7) (.tmp 22) rfl w3.heap.size 0 #[.int .u64 0, .int .i64 0, .int .i64 0] (by kernel_rfl) (by kernel_rfl) HTH.out (by kernel_rfl) noHd_all ?_))
        generalize (w3.alloc (.cells #[.int .u64 0, .int .i64 0, .int .i64 0] 85)).setCells w3.heap.size 0 [.int .u64 0, .int .i64 0, .int .i64 0] = w4 at *
        clear HTH hix
        go_quiet (fail)
        go_wp2
        go_roundw
        case rel =>
          refine ⟨0 + 1, by omega, by go_num, ?_, T4.out.drewN _⟩
          rw [HNX.out, HPI.out]
          exact A4.out.drewN _
        case measure => simp [intOf]
      | some h =>
        obtain ⟨n1, n2, n3, n4⟩ := headL_num hh
        obtain ⟨s1, s2, s3, s4⟩ := store_new w3 #[.int .u64 0, .int .i64 0, .int .i64 0] h.cells.toArray 85 rfl
        have A4 := Lib.hid (A3.out.touch s3 (by simp))
        have T4 := Lib.hid (T3.out.step s3 (by simp))
        have HTH := Lib.hid s1
        have H7 := Lib.hid s2
        have hz4 := Nat.lt_of_lt_of_le hJlt T3.out.size
        clear s1 s2 s3 s4 A3 T3
        unfold headV
        go_wp2_with (first | (with_reducible refine alloc_agg rfl 85 rfl #[.int .u64 0, .int .i64 0, .int .i64 0] zero_hd ?_) | (with_reducible refine wpList_store_mid rfl 85 (.tmp 7) (.tmp 22) rfl w3.heap.size 0 h.cells.toArray (by kernel_rfl) (by kernel_rfl) HTH.out (by kernel_rfl) (Hd.all h) ?_))
        generalize hb7 : w3.heap.size = b7 at *
        generalize (w3.alloc (.cells #[.int .u64 0, .int .i64 0, .int .i64 0] 85)).setCells b7 0 h.cells = w4 at *
        clear HTH hix
        have c7 := H7.out.cell 0 _ rfl
        have c3 := A4.out.cell 3 _ rfl
        by_cases hgt : jj.hd.num < h.num
        · have hpk : pick f0 0 jj = { jj with hd := h, stands := 0 } := by unfold pick; rw [hh]; simp only []; rw [if_pos hgt]
          have HPI := Lib.hid hpk
          have hgt2 : decide ((jj.hd.num : Int) < (h.num : Int)) = true := by simp; omega
          clear hpk hh
          go_quiet (fail)
          clear c7 c3
          have hrg := (H7.out.drewN nq).range0
          have hth : (w4.drewN nq).there J 3 h.cells.toArray.size := (A4.out.drewN nq).there 3 3 (by simp [Jn.cells])
          have a5 := (A4.out.drewN nq).setCells h.cells 3 _ _ (by simp [Jn.cells, Hd.cells])
          have t5 := Touch.setCells (ft := [J]) J (.inl (by simp)) h.cells 3 _ (T4.out.drewN nq)
          rw [splice_hd] at a5
          have HRG := Lib.hid hrg
          have HTH := Lib.hid hth
          have A5 := Lib.hid a5
          have T5 := Lib.hid t5
          have f6 := a5.frozen 6
          have c6 := a5.cell 6 _ rfl
          clear hrg hth a5 t5
          go_wp2_with (first | (with_reducible refine wpList_load_mid rfl 85 (.tmp 7) rfl b7 0 (by kernel_rfl) h.cells _ HRG.out Try.underlying85 rfl (by kernel_rfl) ?_) | (with_reducible refine wpList_store_mid rfl 85 (.tmp 40) (.tmp 37) rfl J 3 h.cells.toArray (by kernel_rfl) (by kernel_rfl) HTH.out (by kernel_rfl) (Hd.all h) ?_))
          go_roundw
          case rel =>
            refine ⟨0 + 1, by omega, by go_num, ?_, T5.out.setCell _ _ (.inl (by simp))⟩
            rw [HNX.out, HPI.out]
            exact A5.out.setCell 6 _
          case measure => simp [intOf]
        · have hpk : pick f0 0 jj = jj := by unfold pick; rw [hh]; simp only []; rw [if_neg hgt]
          have HPI := Lib.hid hpk
          have hgt2 : decide ((jj.hd.num : Int) < (h.num : Int)) = false := by simp; omega
          clear hpk hh
          go_quiet (fail)
          go_wp2
          go_roundw
          case rel =>
            refine ⟨0 + 1, by omega, by go_num, ?_, T4.out.drewN _⟩
            rw [HNX.out, HPI.out]
            exact A4.out.drewN _
          case measure => simp [intOf]
    · obtain ⟨jj, hjj⟩ : ∃ jj, jj = chs f0 f1 j 1 := ⟨_, rfl⟩
      have hnx : chs f0 f1 j (1 + 1) = pick f1 1 jj := by rw [hjj]; rfl
      rw [← hjj] at HA HPK
      have HNX := Lib.hid hnx
      have hrg := jj.place HA.out
      have HRG := Lib.hid hrg
      clear hrg hnx hjj
      have hsp := HPK.out.s
      have hix := idx1 (.string (bs f0)) (.string (bs f1)) wr
      go_wp2_with (with_reducible refine wpList_load_mid rfl 83 (.tmp 18) rfl J 0 (by kernel_rfl) jj.pl.cells _ HRG.out Try.underlying83 rfl (by kernel_rfl) ?_)
      refine (space_any jj.pl HPK.out wr).mono ?_
      rintro e w2 ⟨rfl, b2⟩
      have A2 := Lib.hid (HA.out.below b2 HA.out.lt)
      have T2 := Lib.hid (HT.out.step (Touch.of_below (ft := []) b2) (by simp))
      clear b2 HA HT HRG
      go_wp2_with fail
      refine (headOf_any f1 (jj.pl.span * 128) (by omega) HL1.out w2).mono ?_
      rintro e w3 ⟨rfl, b3⟩
      have A3 := Lib.hid (A2.out.below b3 A2.out.lt)
      have T3 := Lib.hid (T2.out.step (Touch.of_below (ft := []) b3) (by simp))
      clear b3 A2 T2
      cases hh : headL f1 (jj.pl.span * 128) with
      | none =>
        have hpk : pick f1 1 jj = jj := by unfold pick; rw [hh]
        have HPI := Lib.hid hpk
        clear hpk hh
        obtain ⟨s1, s2, s3, s4⟩ := store_new w3 #[.int .u64 0, .int .i64 0, .int .i64 0] #[.int .u64 0, .int .i64 0, .int .i64 0] 85 rfl
        have A4 := Lib.hid (A3.out.touch s3 (by simp))
        have T4 := Lib.hid (T3.out.step s3 (by simp))
        have HTH := Lib.hid s1
        have c7 := s2.cell 0 _ rfl
        clear s1 s2 s3 s4 A3 T3
        unfold headV
        go_wp2_with (first | (with_reducible refine alloc_agg rfl 85 rfl #[.int .u64 0, .int .i64 0, .int .i64 0] zero_hd ?_) | (with_reducible refine wpList_store_mid rfl 85 (.tmp 7) (.tmp 22) rfl w3.heap.size 0 #[.int .u64 0, .int .i64 0, .int .i64 0] (by kernel_rfl) (by kernel_rfl) HTH.out (by kernel_rfl) noHd_all ?_))
        generalize (w3.alloc (.cells #[.int .u64 0, .int .i64 0, .int .i64 0] 85)).setCells w3.heap.size 0 [.int .u64 0, .int .i64 0, .int .i64 0] = w4 at *
        clear HTH hix
        go_quiet (fail)
        go_wp2
        go_roundw
        case rel =>
          refine ⟨1 + 1, by omega, by go_num, ?_, T4.out.drewN _⟩
          rw [HNX.out, HPI.out]
          exact A4.out.drewN _
        case measure => simp [intOf]
      | some h =>
        obtain ⟨n1, n2, n3, n4⟩ := headL_num hh
        obtain ⟨s1, s2, s3, s4⟩ := store_new w3 #[.int .u64 0, .int .i64 0, .int .i64 0] h.cells.toArray 85 rfl
        have A4 := Lib.hid (A3.out.touch s3 (by simp))
        have T4 := Lib.hid (T3.out.step s3 (by simp))
        have HTH := Lib.hid s1
        have H7 := Lib.hid s2
        have hz4 := Nat.lt_of_lt_of_le hJlt T3.out.size
        clear s1 s2 s3 s4 A3 T3
        unfold headV
        go_wp2_with (first | (with_reducible refine alloc_agg rfl 85 rfl #[.int .u64 0, .int .i64 0, .int .i64 0] zero_hd ?_) | (with_reducible refine wpList_store_mid rfl 85 (.tmp 7) (.tmp 22) rfl w3.heap.size 0 h.cells.toArray (by kernel_rfl) (by kernel_rfl) HTH.out (by kernel_rfl) (Hd.all h) ?_))
        generalize hb7 : w3.heap.size = b7 at *
        generalize (w3.alloc (.cells #[.int .u64 0, .int .i64 0, .int .i64 0] 85)).setCells b7 0 h.cells = w4 at *
        clear HTH hix
        have c7 := H7.out.cell 0 _ rfl
        have c3 := A4.out.cell 3 _ rfl
        by_cases hgt : jj.hd.num < h.num
        · have hpk : pick f1 1 jj = { jj with hd := h, stands := 1 } := by unfold pick; rw [hh]; simp only []; rw [if_pos hgt]
          have HPI := Lib.hid hpk
          have hgt2 : decide ((jj.hd.num : Int) < (h.num : Int)) = true := by simp; omega
          clear hpk hh
          go_quiet (fail)
          clear c7 c3
          have hrg := (H7.out.drewN nq).range0
          have hth : (w4.drewN nq).there J 3 h.cells.toArray.size := (A4.out.drewN nq).there 3 3 (by simp [Jn.cells])
          have a5 := (A4.out.drewN nq).setCells h.cells 3 _ _ (by simp [Jn.cells, Hd.cells])
          have t5 := Touch.setCells (ft := [J]) J (.inl (by simp)) h.cells 3 _ (T4.out.drewN nq)
          rw [splice_hd] at a5
          have HRG := Lib.hid hrg
          have HTH := Lib.hid hth
          have A5 := Lib.hid a5
          have T5 := Lib.hid t5
          have f6 := a5.frozen 6
          have c6 := a5.cell 6 _ rfl
          clear hrg hth a5 t5
          go_wp2_with (first | (with_reducible refine wpList_load_mid rfl 85 (.tmp 7) rfl b7 0 (by kernel_rfl) h.cells _ HRG.out Try.underlying85 rfl (by kernel_rfl) ?_) | (with_reducible refine wpList_store_mid rfl 85 (.tmp 40) (.tmp 37) rfl J 3 h.cells.toArray (by kernel_rfl) (by kernel_rfl) HTH.out (by kernel_rfl) (Hd.all h) ?_))
          go_roundw
          case rel =>
            refine ⟨1 + 1, by omega, by go_num, ?_, T5.out.setCell _ _ (.inl (by simp))⟩
            rw [HNX.out, HPI.out]
            exact A5.out.setCell 6 _
          case measure => simp [intOf]
        · have hpk : pick f1 1 jj = jj := by unfold pick; rw [hh]; simp only []; rw [if_neg hgt]
          have HPI := Lib.hid hpk
          have hgt2 : decide ((jj.hd.num : Int) < (h.num : Int)) = false := by simp; omega
          clear hpk hh
          go_quiet (fail)
          go_wp2
          go_roundw
          case rel =>
            refine ⟨1 + 1, by omega, by go_num, ?_, T4.out.drewN _⟩
            rw [HNX.out, HPI.out]
            exact A4.out.drewN _
          case measure => simp [intOf]
    · have c3 := HA.out.cell 3 _ rfl
      have e : chs f0 f1 j 2 = chosen f0 f1 j := rfl
      rw [e] at HA c3
      clear e HPK
      by_cases h0 : (chosen f0 f1 j).hd.num = 0
      · rw [h0] at c3
        have H1 := Lib.hid (HRES.out.trans (if_pos h0))
        clear h0
        go_wp2
        go_ret
        exact ⟨ret_of (by rw [H1.out]; rfl), HA.out, HT.out⟩
      · have h1 : (((chosen f0 f1 j).hd.num : Int) == 0) = false := by simp; exact h0
        have H1 := Lib.hid (HRES.out.trans (if_neg h0))
        clear h0
        go_wp2
        go_ret
        exact ⟨ret_of (by rw [H1.out]; rfl), HA.out, HT.out⟩
end Go.Proofs.Ytcgjkopdnhkdiaa
