/- The walk of mend. -/
import Derived.Test.YtcgjkopdnhkdiaaJo
namespace Go.Proofs.Ytcgjkopdnhkdiaa
open Go.RowKit
set_option maxRecDepth 100000
def besideL (j : Jn) (f0 f1 : List UInt8) : List UInt8 := if j.stands = 0 then f1 else f0
/-- the head beside, if it is torn, is wiped -/
def mendOps (j : Jn) : List DO := [.w ((j.pl.at_ + (1 - j.stands) : Nat) : Int) [], .f]
def mendL (n : Nat) (s : Dk) (j : Jn) (f0 f1 : List UInt8) : Int × Dk := if wholeL (besideL j f0 f1) then (0, s) else runs n s (mendOps j)
section
variable {w0 w : World} {av : Nat → Prop} {n D : Nat} {s : Dk}
set_option maxHeartbeats 8000000 in
theorem mend_any (h : Priv w0 w av n D s) (J : Nat) (j : Jn) (f0 f1 : List UInt8) (hJ : At w J 87 j.cells) (hav : av J) (hD : j.pl.D = D) (hp : j.pl.Ok) (hst : j.stands ≤ 1) (hl0 : f0.length = 128) (hl1 : f1.length = 128) (m : Nat) (hm : Lot m s) (hmx : m ≤ 900000) :
    Calls Try.prog 61 #[.pointer (some ⟨J, 0, none⟩), .agg #[.string (bs f0), .string (bs f1)]] w fun e w' => e = .returned (.int .i64 (mendL n s j f0 f1).1) ∧ PrivTo w0 w av n D (mendL n s j f0 f1).2 w' := by
  have b1 := (Below.refl w.heap.size w).alloc (Nat.le_refl _) (.cells #[.string (bs f0), .string (bs f1)] 92)
  have a0 := hJ.alloc (.cells #[.string (bs f0), .string (bs f1)] 92)
  have a1 := At.new w #[.string (bs f0), .string (bs f1)] 92
  have hz1 : (w.alloc (.cells #[.string (bs f0), .string (bs f1)] 92)).heap.size = w.heap.size + 1 := World.size_alloc _ _
  have c6 := a0.cell 6 _ rfl
  have hbl : (besideL j f0 f1).length = 128 := by unfold besideL; split <;> assumption
  have cb : (w.alloc (.cells #[.string (bs f0), .string (bs f1)] 92)).cell? ⟨w.heap.size, 1 - j.stands, none⟩ = some (.string (bs (besideL j f0 f1))) := by
    unfold besideL
    have : j.stands = 0 ∨ j.stands = 1 := by omega
    rcases this with e | e
    · rw [e, if_pos rfl]; exact a1.cell 1 _ rfl
    · rw [e, if_neg (by decide)]; exact a1.cell 0 _ rfl
  have hrg := j.place a0
  have cD := a0.cell 0 _ rfl
  rw [hD] at cD
  have hb2 : 1 - j.stands < 2 := by omega
  obtain ⟨bd, hbd⟩ : ∃ bd, bd = 1 - j.stands := ⟨_, rfl⟩
  have hb1 : bd ≤ 1 := by omega
  rw [← hbd] at cb hb2
  have hb3 : (bd : Int) < 2 := by omega
  obtain ⟨R, hR⟩ : ∃ R, R = mendL n s j f0 f1 := ⟨_, rfl⟩
  rw [← hR]
  unfold mendL at hR
  have HRES := Lib.hid hR
  have H := Lib.hid h
  have HA := Lib.hid a0
  have HRG := Lib.hid hrg
  have HBL := Lib.hid hbl
  have B1 := Lib.hid b1
  have HM := Lib.hid hm
  have HBD := Lib.hid hbd
  have HP := Lib.hid hp
  have HO := Lib.hid (other_any j.stands hst)
  rw [← hbd] at HO
  clear hR h a0 a1 hrg hbl b1 hm hbd hp hJ hl0 hl1
  generalize hbr : besideL j f0 f1 = br at *
  clear hbr
  go_enter Try.func61, Try.ntmps61
  go_wp2_with fail
  refine (HO.out _).mono ?_
  rintro e w2 ⟨rfl, rfl⟩
  go_wp2_with fail
  refine (isWhole_any br HBL.out _).mono ?_
  rintro e w3 ⟨rfl, b3⟩
  have A3 := Lib.hid (HA.out.below b3 HA.out.lt)
  have hwz : w.heap.size ≤ (w.alloc (.cells #[.string (bs f0), .string (bs f1)] 92)).heap.size := by omega
  have B3 := Lib.hid (B1.out.trans (b3.mono hwz))
  clear b3 B1 HA HRG c6 cb cD hz1 hwz
  cases hwh : wholeL br
  · have HW := Lib.hid hwh
    clear hwh
    go_wp2_with fail
    refine region_any (fun W => At W J 87 j.cells) 20 (by kernel_rfl) ?_
    have S0 : (fun W => At W J 87 j.cells) w3.drew := A3.out.drew
    refine wpAnyT_takeN (i := 0) (v := (.pointer (some ⟨J, 0, none⟩))) rfl (by decide) (by kernel_rfl) (by kernel_rfl) (by kernel_rfl) (fun _ _ _ h => h) (.inl ⟨by kernel_rfl, fun W hS => by kernel_rfl⟩) S0 ?_
    refine wpAnyT_takeN (i := 1) (v := (.pointer (some ⟨J, 0, none⟩))) rfl (by decide) (by kernel_rfl) (by kernel_rfl) (by kernel_rfl) (fun _ _ _ h => h) (.inl ⟨by kernel_rfl, fun W hS => by kernel_rfl⟩) S0 ?_
    refine wpAnyT_takeN (i := 2) (v := (.pointer (some ⟨J, 0, none⟩))) rfl (by decide) (by kernel_rfl) (by kernel_rfl) (by kernel_rfl) (fun _ _ _ h => h) (.inl ⟨by kernel_rfl, fun W hS => by kernel_rfl⟩) S0 ?_
    refine wpAnyT_takeN (i := 3) (v := (Pl.v j.pl)) rfl (by decide) (by kernel_rfl) (by kernel_rfl) (by kernel_rfl) (fun _ _ _ h => h) (.inl ⟨by kernel_rfl, fun W hS => run_load_op 83 (.tmp 17) rfl J 0 (by kernel_rfl) j.pl.cells _ (j.place hS) Try.underlying83 rfl (by kernel_rfl)⟩) S0 ?_
    refine wpAnyT_takeN (i := 4) (v := (.pointer (some ⟨J, 0, none⟩))) rfl (by decide) (by kernel_rfl) (by kernel_rfl) (by kernel_rfl) (fun _ _ _ h => h) (.inl ⟨by kernel_rfl, fun W hS => by kernel_rfl⟩) S0 ?_
    refine wpAnyT_takeN (i := 5) (v := (.pointer (some ⟨J, 0, none⟩))) rfl (by decide) (by kernel_rfl) (by kernel_rfl) (by kernel_rfl) (fun _ _ _ h => h) (.inl ⟨by kernel_rfl, fun W hS => by kernel_rfl⟩) S0 ?_
    refine wpAnyT_takeN (i := 6) (v := (.pointer (some ⟨J, 0, none⟩))) rfl (by decide) (by kernel_rfl) (by kernel_rfl) (by kernel_rfl) (fun _ _ _ h => h) (.inl ⟨by kernel_rfl, fun W hS => by kernel_rfl⟩) S0 ?_
    refine wpAnyT_takeN (i := 7) (v := (Pl.v j.pl)) rfl (by decide) (by kernel_rfl) (by kernel_rfl) (by kernel_rfl) (fun _ _ _ h => h) (.inl ⟨by kernel_rfl, fun W hS => run_load_op 83 (.tmp 21) rfl J 0 (by kernel_rfl) j.pl.cells _ (j.place hS) Try.underlying83 rfl (by kernel_rfl)⟩) S0 ?_
    refine wpAnyT_takeN (i := 8) (v := (.int .i64 (bd : Int))) rfl (by decide) (by kernel_rfl) (by kernel_rfl) (by kernel_rfl) (fun _ _ _ h => h) (.inl ⟨by kernel_rfl, fun W hS => by kernel_rfl⟩) S0 ?_
    refine wpAnyT_takeN (i := 11) (v := (.pointer (some ⟨J, 0, none⟩))) rfl (by decide) (by kernel_rfl) (by kernel_rfl) (by kernel_rfl) (fun _ _ _ h => h) (.inl ⟨by kernel_rfl, fun W hS => by kernel_rfl⟩) S0 ?_
    refine wpAnyT_takeN (i := 12) (v := (.pointer (some ⟨J, 0, none⟩))) rfl (by decide) (by kernel_rfl) (by kernel_rfl) (by kernel_rfl) (fun _ _ _ h => h) (.inl ⟨by kernel_rfl, fun W hS => by kernel_rfl⟩) S0 ?_
    refine wpAnyT_takeN (i := 13) (v := (.pointer (some ⟨J, 0, none⟩))) rfl (by decide) (by kernel_rfl) (by kernel_rfl) (by kernel_rfl) (fun _ _ _ h => h) (.inl ⟨by kernel_rfl, fun W hS => by kernel_rfl⟩) S0 ?_
    refine wpAnyT_takeN (i := 14) (v := (.pointer (some ⟨J, 0, none⟩))) rfl (by decide) (by kernel_rfl) (by kernel_rfl) (by kernel_rfl) (fun _ _ _ h => h) (.inl ⟨by kernel_rfl, fun W hS => by kernel_rfl⟩) S0 ?_
    refine wpAnyT_takeN (i := 15) (v := (.pointer (some ⟨D, 0, none⟩))) rfl (by decide) (by kernel_rfl) (by kernel_rfl) (by kernel_rfl) (fun _ _ _ h => h) (.inl ⟨by kernel_rfl, fun W hS => run_load_one 23 (.tmp 29) rfl ⟨J, 0, none⟩ (by kernel_rfl) (.pointer (some ⟨D, 0, none⟩)) (by rw [← hD]; exact hS.cell 0 _ rfl) _ Try.underlying23 rfl⟩) S0 ?_
    refine wpAnyT_takeN (i := 16) (v := (flSt D).v) rfl (by decide) (by kernel_rfl) (by kernel_rfl) (by kernel_rfl) (fun _ _ _ h => h) (.inl ⟨by kernel_rfl, fun W hS => by kernel_rfl⟩) S0 ?_
    have P0 := A3.out.drew
    have G0 := (Below.refl w3.drew.heap.size w3.drew)
    refine wpAnyT_all (rs := [9]) (by kernel_rfl) (by simp) ?_
    intro q hq
    obtain rfl : q = 9 := by simpa using hq
    refine wpOp_call rfl (by kernel_rfl) 55 #[Pl.v j.pl, .int .i64 (bd : Int)] (run_call_func rfl enter_headAt _ (by kernel_rfl)) ((headAt_any j.pl HP.out bd hb1 w3.drew).mono ?_)
    rintro e v1 ⟨rfl, c1⟩
    have P1 := P0.below c1 P0.lt
    have G1 := G0.trans (c1.mono G0.size)
    refine ⟨_, rfl, fun _ => P1, ?_⟩
    refine wpAnyT_all (rs := [10]) (by kernel_rfl) (by simp) ?_
    intro q hq
    obtain rfl : q = 10 := by simpa using hq
    refine wpOp_call rfl (by kernel_rfl) 69 #[Pl.v j.pl, .int .i64 ((j.pl.at_ + bd : Nat) : Int), .string (bs [])] (run_call_func rfl enter_writing _ (by kernel_rfl)) ((writing_any j.pl ((j.pl.at_ + bd : Nat) : Int) [] v1).mono ?_)
    rintro e v2 ⟨rfl, W1, z2, c2⟩
    have P2 := P1.below c2 P1.lt
    have G2 := G1.trans (c2.mono G1.size)
    refine ⟨_, rfl, fun _ => P2, ?_⟩
    obtain ⟨iw, hiw, hz0, hz1, hzb⟩ := info_parts info_fn
    refine wpAnyT_all (rs := [17]) (by kernel_rfl) (by simp) ?_
    intro q hq
    obtain rfl : q = 17 := by simpa using hq
    refine wpOp_val rfl (by kernel_rfl) (run_build2_op 111 (.tmp 25) (.tmp 31) rfl (wrSt v1.heap.size).v (flSt D).v (by kernel_rfl) (by kernel_rfl) (build_two v2 111 34 _ _ iw _ Try.underlying111 hiw hz0 hz1 rfl rfl)) ⟨fun _ => P2.alloc _, ?_⟩
    have a6 := At.new v2 #[(wrSt v1.heap.size).v, (flSt D).v] 34
    have P6 := P2.alloc (.cells #[(wrSt v1.heap.size).v, (flSt D).v] 34)
    have G6 := G2.alloc G2.size (.cells #[(wrSt v1.heap.size).v, (flSt D).v] 34)
    have z6 : (v2.alloc (.cells #[(wrSt v1.heap.size).v, (flSt D).v] 34)).heap.size = v2.heap.size + 1 := World.size_alloc _ _
    have hz3' : w3.drew.heap.size = w3.heap.size := rfl
    have u0 := B3.out.size
    have u1 := c1.size
    have u2 := c2.size
    have W1' : WrAt (v2.alloc (.cells #[(wrSt v1.heap.size).v, (flSt D).v] 34)) v1.heap.size D ((j.pl.at_ + bd : Nat) : Int) [] := by
      have := W1.same (w' := v2.alloc (.cells #[(wrSt v1.heap.size).v, (flSt D).v] 34)) fun i h1 h2 => by rw [Below.heap_alloc _ _ _ (by omega)]
      rw [hD] at this
      exact this
    generalize v2.alloc (.cells #[(wrSt v1.heap.size).v, (flSt D).v] 34) = v6 at *
    have hPG : Below w.heap.size w v6 := (B3.out.drew).trans (G6.mono (by omega))
    have hPV := H.out.grow hPG
    have hkeep := H.out.keeps hPG
    have hmo : mendOps j = [.w ((j.pl.at_ + bd : Nat) : Int) [], .f] := by unfold mendOps; rw [HBD.out]
    have hzip : Zip (Is D v6 (fun i => i < v6.heap.size ∧ (av i ∨ w.heap.size ≤ i))) [wrSt v1.heap.size, flSt D] (mendOps j) := by
      rw [hmo]
      exact .cons (.wr _ _ _ W1' (fun i h1 h2 => ⟨by omega, .inr (by omega)⟩) (by decide)) (.cons .fl .nil)
    refine wpAnyT_all (rs := [18]) (by kernel_rfl) (by simp) ?_
    intro q hq
    obtain rfl : q = 18 := by simpa using hq
    refine wpOp_call rfl (by kernel_rfl) 56 #[.slice (some ⟨v2.heap.size, 0, none⟩) 2 2] (run_call_func rfl enter_inOrder _ (by kernel_rfl)) ((inOps_any hPV v2.heap.size 2 [wrSt v1.heap.size, flSt D] (mendOps j) [] a6 ⟨by omega, .inr (by omega)⟩ hzip m HM.out (by simp; omega)).mono ?_)
    rintro e v7 ⟨rfl, hp⟩
    have P7 := hp.2.at P6 ⟨P6.lt, .inl hav⟩
    have HPT := Lib.hid (PrivTo.back hp (fun i hi => ⟨Nat.lt_of_lt_of_le (H.out.1 i hi) hPG.size, .inl hi⟩) hkeep)
    refine ⟨_, rfl, fun _ => P7, ?_⟩
    refine wpAnyT_all (rs := [19]) (by kernel_rfl) (by simp) ?_
    intro q hq
    obtain rfl : q = 19 := by simpa using hq
    refine wpOp_val (v := .int .i64 (runs n s (mendOps j)).1) (w' := v7) rfl (by kernel_rfl) (by kernel_rfl) ⟨fun _ => P7, wpAnyT_done (by kernel_rfl) ?_ _⟩
    simp only [Act.put, List.getElem_toArray, List.getElem_cons_succ, List.getElem_cons_zero, List.setIfInBounds_toArray, List.set_cons_zero, List.set_cons_succ]
    rw [HW.out, if_neg (by decide)] at HRES
    clear hmo
    go_wp2
    go_ret
    rw [HRES.out]
    exact ⟨rfl, HPT.out⟩
  · rw [hwh] at HRES
    clear hwh
    go_wp2
    go_ret
    have hr : R = (0, s) := by rw [HRES.out]; simp
    rw [hr]
    exact ⟨rfl, H.out.below B3.out⟩
end
end Go.Proofs.Ytcgjkopdnhkdiaa
