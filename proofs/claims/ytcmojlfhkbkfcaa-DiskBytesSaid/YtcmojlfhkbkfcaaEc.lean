/- The statement DiskBytes: its walk, as far as the first round. -/
import Derived.Test.YtcmojlfhkbkfcaaEb
namespace Go.Proofs.Ytcmojlfhkbkfcaa
open Go.RowKit Go.Maps

def zm : Array Value := (List.replicate 512 (Value.map none)).toArray
theorem zero_maps : ∀ w, (zeroValue 50).run Try.prog w = .ok (.agg zm) w := fun _ => by kernel_rfl
theorem info_maps : (Try.prog.info? 50).map (·.size) = some 512 := by kernel_rfl
theorem zm_len : zm.toList.length = 512 := by unfold zm; rw [List.toList_toArray, List.length_replicate]
theorem build_maps {o : Oper} {a : Act} {w : World} (ho : o.op = .build 50 #[]) : (execOp a.eval o).run Try.prog w = .ok (.value (.agg zm)) w := by
  have hz := zero_maps w
  unfold execOp
  simp only [ho, List.map_toArray, List.map_nil]
  simp [go_sem, hz]

theorem make_op {o : Oper} {a : Act} {w : World} (ho : o.op = .makeMap 48 none) : (execOp a.eval o).run Try.prog w = .ok (.value (.map (some w.heap.size))) (w.alloc (.map #[] 0)) := by
  have hr := @run_makeMap Try.prog
  unfold execOp
  simp [ho, Instr.makeMap, run_underlying Try.underlying48, go_sem]
theorem zero_row : ∀ w, (zeroValue 52).run Try.prog w = .ok (.agg #[.bool false, .bool false, .bool false, .bool false]) w := fun _ => by kernel_rfl
theorem info_row : (Try.prog.info? 52).map (·.size) = some 4 := by kernel_rfl
theorem build_row {o : Oper} {a : Act} {w : World} (ho : o.op = .build 52 #[]) : (execOp a.eval o).run Try.prog w = .ok (.value (.agg #[.bool false, .bool false, .bool false, .bool false])) w := by
  have hz := zero_row w
  unfold execOp
  simp only [ho, List.map_toArray, List.map_nil]
  simp [go_sem, hz]
theorem size_cells (b : Nat) : ∀ (vs : List Value) (o : Nat) (w : World), (w.setCells b o vs).heap.size = w.heap.size
  | [], _, _ => rfl
  | v :: r, o, w => by
    have := size_cells b r (o + 1) (w.setCell ⟨b, o, none⟩ v)
    rw [show (w.setCell ⟨b, o, none⟩ v).heap.size = w.heap.size by simp [World.setCell]] at this
    exact this
theorem start_bk {w0 v : World} {D : Nat} {s : Dk} (h : Priv w0 v none_ 4 D s) (M : Nat) (hM : M = v.heap.size) (T : Nat → UInt8 → Prop) :
    Bk w0 ((((v.alloc (.cells zm 50)).setCells M 0 zm.toList).alloc (.cells #[.int .u8 0, .int .u8 0, .int .u8 0, .int .u8 0] 51)).alloc (.cells #[.bool false, .bool false, .bool false, .bool false] 52)) D M (M + 1) (M + 1 + 1) M s [0, 0, 0, 0] [false, false, false, false] (fun _ => 0) 0 1 T := by
  have hs := h.size
  obtain ⟨a2, _⟩ := fill_new v zm 50 zm.toList rfl
  rw [← hM] at a2
  have hz : ((v.alloc (.cells zm 50)).setCells M 0 zm.toList).heap.size = M + 1 := by rw [size_cells, World.size_alloc, hM]
  have p1 := h.alloc (.cells zm 50)
  rw [← hM] at p1
  have p2 := p1.mine (ft := [M]) (Touch.setCells M (.inl (by simp)) zm.toList 0 _ (Touch.refl _ _)) (fun i hi => by simp at hi; exact ⟨.inr hi, by omega⟩)
  generalize (v.alloc (.cells zm 50)).setCells M 0 zm.toList = w1 at *
  have p3 := p2.alloc (.cells #[.int .u8 0, .int .u8 0, .int .u8 0, .int .u8 0] 51)
  have p4 := p3.alloc (.cells #[.bool false, .bool false, .bool false, .bool false] 52)
  have n3 := (At.new w1 #[.int .u8 0, .int .u8 0, .int .u8 0, .int .u8 0] 51).alloc (.cells #[.bool false, .bool false, .bool false, .bool false] 52)
  have r4 := At.new (w1.alloc (.cells #[.int .u8 0, .int .u8 0, .int .u8 0, .int .u8 0] 51)) #[.bool false, .bool false, .bool false, .bool false] 52
  rw [World.size_alloc, hz] at r4
  rw [hz] at n3
  rw [World.size_alloc, hz] at p4
  refine ⟨p4.more (fun i hi => .inr ?_), ?_, n3, r4, fun j hj => absurd hj (by omega), rfl, rfl, by omega, by omega, by omega, fun j hj => absurd hj (by omega), fun i j hi => absurd hi (by omega)⟩
  · rcases hi with rfl | rfl | rfl | rfl | ⟨j, hj, _⟩
    · exact .inl (.inl (.inr rfl))
    · exact .inl (.inr rfl)
    · exact .inr rfl
    · exact .inl (.inl (.inr rfl))
    · omega
  · rw [mapsOf_none]
    have := (a2.alloc (.cells #[.int .u8 0, .int .u8 0, .int .u8 0, .int .u8 0] 51)).alloc (.cells #[.bool false, .bool false, .bool false, .bool false] 52)
    have e : zm.toList = List.replicate 512 (.map none) := by unfold zm; rw [List.toList_toArray]
    rwa [e] at this

set_option maxRecDepth 100000 in
set_option maxHeartbeats 16000000 in
theorem diskBytes_walk (a : Option Addr) (len cap : Nat) (ls : List DoV) (w : World) (hl : ls.length = len) (hlen : len ≤ maxLen) (hD : Dos w a ls) :
    Calls Try.prog 4 #[.slice a len cap] w fun e w' => e = .returned (.bool true) ∧ Below w.heap.size w w' := by
  unfold maxLen at hlen
  have HL := Lib.hid hl
  have HD := Lib.hid hD
  clear hl hD
  go_enter Try.func4, Try.ntmps4
  go_wp2_with fail
  refine (works_any _).mono ?_
  rintro e w1 ⟨rfl, b1⟩
  have HB1 := Lib.hid b1
  clear b1
  go_wp2_with fail
  refine (p_new w w1 HB1.out none_ (fun _ h => h.elim) 4 (by decide) (by decide)).mono ?_
  rintro e v ⟨D, rfl, hD, h⟩
  have HP0 := Lib.hid h.1
  clear h hD
  obtain ⟨M, hM⟩ : ∃ M, M = v.heap.size := ⟨_, rfl⟩
  have hth := (At.new v zm 50).there 0 512 (by rw [zm_len]; omega)
  have hone : zm.all (·.oneCell') = true := by unfold zm; exact all_oneCell_toArray (fun v hv => by rw [List.eq_of_mem_replicate hv]; rfl)
  obtain ⟨a2, t2⟩ := fill_new v zm 50 zm.toList rfl
  have hzs : zm.size = 512 := by have := zm_len; rwa [Array.length_toList] at this
  rw [← hM] at hth a2 t2
  have HTH := Lib.hid hth
  have HN := Lib.hid hone
  have HZ := Lib.hid hzs
  have A2 := Lib.hid a2
  have T2 := Lib.hid t2
  have HM := Lib.hid hM
  clear hth hone a2 t2 hzs hM
  go_wp2_with (first | (with_reducible refine list_val rfl (v := .agg zm) (build_maps rfl) ?_) | (with_reducible refine alloc_agg rfl 50 rfl zm zero_maps ?_) | (rw [← HM.out]; with_reducible refine wpList_store_mid rfl 50 (.tmp 4) (.tmp 24) rfl M 0 zm (by kernel_rfl) (by kernel_rfl) (by rw [HZ.out]; exact HTH.out) (by rw [HZ.out]; exact info_maps) HN.out ?_))
  have hbk := start_bk HP0.out M HM.out (fun _ c => c = 0)
  have hzA : ((v.alloc (.cells zm 50)).setCells M 0 zm.toList).heap.size = M + 1 := by rw [size_cells, World.size_alloc, HM.out]
  simp only [hzA]
  clear hzA
  generalize (((v.alloc (.cells zm 50)).setCells M 0 zm.toList).alloc (.cells #[.int .u8 0, .int .u8 0, .int .u8 0, .int .u8 0] 51)).alloc (.cells #[.bool false, .bool false, .bool false, .bool false] 52) = w2 at *
  obtain ⟨NW, hNW⟩ : ∃ NW, NW = M + 1 := ⟨_, rfl⟩
  obtain ⟨SR, hSR⟩ : ∃ SR, SR = M + 1 + 1 := ⟨_, rfl⟩
  rw [← hSR, ← hNW] at hbk ⊢
  have HB := Lib.hid hbk
  clear hbk HTH HN HZ A2 T2 HM hNW hSR HP0 HB1
  go_loopw [7] (fun x wx => ∃ (k : Nat) (mb : Nat → Nat) (sr : List Bool), k ≤ 4 ∧ x = .int .i64 k ∧ Bk w wx D M NW SR M (Dk.fresh 4) [0, 0, 0, 0] sr mb (k * 128) 1 (fun _ c => c = 0) ∧ ∀ i, i < k → sr[i]? = some true) (fun x _ => 4 - (intOf x).toNat)
  case atStart => exact ⟨0, fun _ => 0, _, by omega, rfl, HB.out, fun i hi => absurd hi (by omega)⟩
  case round =>
    obtain ⟨k, mb, sr, hk, rfl, hb, hsr⟩ := hrel
    have HBk := Lib.hid hb
    have HSR := Lib.hid hsr
    clear hb hsr HB
    by_cases hlt : k < 4
    · have hlt' : (k : Int) < 4 := by omega
      have hrl := HBk.out.rl
      obtain ⟨b0, hb0⟩ : ∃ b0, sr[k]? = some b0 := ⟨_, List.getElem?_eq_getElem (by omega)⟩
      have cr := HBk.out.r.cell k (.bool b0) (by rw [List.getElem?_map, hb0]; rfl)
      have fr := HBk.out.r.frozen k
      have hb1 := HBk.out.setR k true
      have HB1 := Lib.hid hb1
      have HSR1 : Hid (∀ i, i < k + 1 → (sr.set k true)[i]? = some true) := Lib.hid (fun i hi => by
        by_cases e : i = k
        · subst e; rw [List.getElem?_set_self (by omega)]
        · rw [List.getElem?_set_ne (fun h => e h.symm)]; exact HSR.out i (by omega))
      clear hb1 hb0 hrl
      go_wp2_with fail
      generalize sr.set k true = sr1 at *
      generalize wr.setCell ⟨SR, k, none⟩ (.bool true) = wo at *
      clear cr fr HBk HSR
      go_loopw [8] (fun x wx => ∃ (i : Nat) (mb : Nat → Nat), i ≤ 128 ∧ x = .int .i64 i ∧ Bk w wx D M NW SR M (Dk.fresh 4) [0, 0, 0, 0] sr1 mb (k * 128 + i) 1 (fun _ c => c = 0)) (fun x _ => 128 - (intOf x).toNat)
      case atStart => exact ⟨0, mb, by omega, rfl, HB1.out⟩
      clear HB1
      case round =>
        obtain ⟨i, mb2, hi, rfl, hb⟩ := hrel
        have HBi := Lib.hid hb
        clear hb
        by_cases hli : i < 128
        · have hli' : (i : Int) < 128 := by omega
          obtain ⟨w4, hrun, hm4, t4⟩ := (MapHas.made wr).put (by unfold maxLen; omega) 0
          have t4' : Touch [] wr w4 := ((Touch.refl [] wr).alloc (.map #[] 0)).step t4 (by simp)
          have cm := (HBi.out.m.touch t4' (by simp)).cell (k * 128 + i) (.map none) (by rw [mapsOf_at _ _ _ (by omega), if_neg (by omega)])
          have fm := (HBi.out.m.touch t4' (by simp)).frozen (k * 128 + i)
          have hb5 := HBi.out.fresh (by omega) (k * 128 + i) (k * 128 + (i + 1)) (by omega) (by omega) (by omega) wr.heap.size 0 (Nat.le_refl _) (hm4.mono (by omega) |>.sub (fun x hx => .inr hx)) t4' rfl (fun _ c => c = 0) (fun _ _ _ _ h => h) (fun _ h => h)
          have HB5 := Lib.hid hb5
          have HR := Lib.hid hrun
          clear hb5 hrun hm4 t4 t4'
          go_wp2_with (first | (with_reducible refine list_val rfl (make_op rfl) ?_) | (with_reducible refine list_skip rfl (run_upd_op 48 (.tmp 37) (.const (.int .u8 0)) (.const (.bool true)) (.inl rfl) (.map (some wr.heap.size)) (.int .u8 ((0 : UInt8).toNat : Int)) (.bool true) (by kernel_rfl) (by kernel_rfl) (by kernel_rfl) HR.out) ?_))
          exact ⟨⟨i + 1, _, by omega, by go_num, HB5.out⟩, by simp [intOf]; omega⟩
        · obtain rfl : i = 128 := by omega
          have hbe := HBi.out
          rw [show k * 128 + 128 = (k + 1) * 128 by omega] at hbe
          have HBE := Lib.hid hbe
          clear hbe
          go_wp2
          go_roundw
          case rel => exact ⟨k + 1, mb2, sr1, by omega, by go_num, HBE.out, HSR1.out⟩
          case measure => simp [intOf]; omega
    · obtain rfl : k = 4 := by omega
      have hmust : ∀ j c, j < 512 → Must (Dk.fresh 4) (j / 128) (j % 128) c → c = 0 := fun j c hj h => by
        rcases h with h | ⟨x, hx, _⟩
        · have hk : j / 128 < 4 := by omega
          have e : (Dk.fresh 4).fl[j / 128]? = some (List.replicate 128 0) := by
            show (blank 4)[j / 128]? = _
            unfold blank
            rw [List.getElem?_replicate_of_lt hk]
          rw [e, Option.getD_some] at h
          exact List.eq_of_mem_replicate (List.mem_of_getElem? h)
        · simp [Dk.fresh] at hx
      have hb0 : Bk w wr D M NW SR M (Dk.fresh 4) [0, 0, 0, 0] sr mb 512 1 (fun j c => Must (Dk.fresh 4) (j / 128) (j % 128) c) := HBk.out.sub hmust
      have hsure : ∀ i, i < 4 → sr[i]? = some true → (Dk.fresh 4).nw[i]? = some (List.replicate 128 (([0, 0, 0, 0] : List UInt8)[i]?.getD 0)) := fun i hi _ => by
        have : i = 0 ∨ i = 1 ∨ i = 2 ∨ i = 3 := by omega
        rcases this with rfl | rfl | rfl | rfl <;> rfl
      have HB := Lib.hid hb0
      have HSU := Lib.hid hsure
      have HC := Lib.hid (fresh_calm 4)
      clear hmust hb0 hsure HBk HSR
      generalize Dk.fresh 4 = s0 at *
      generalize ([0, 0, 0, 0] : List UInt8) = nw0 at *
      go_wp2_with fail
      have e4 : ((4 : Nat) : Int) = 4 := rfl
      (try simp only [e4])
      clear e4
      obtain ⟨wo, hwo⟩ : ∃ wo, wo = wr := ⟨_, rfl⟩
      rw [← hwo] at HB
      rw [← hwo]
      clear hwo
      go_loopw [9] (fun x wx => ∃ (k : Nat) (s : Dk) (nw : List UInt8) (sr : List Bool) (mb : Nat → Nat), k ≤ len ∧ k ≤ 100 ∧ x = .int .i64 k ∧ Calm (5 * k) s ∧ Bk w wx D M NW SR M s nw sr mb 512 (300 * (k + 1)) (fun j c => Must s (j / 128) (j % 128) c) ∧ ∀ i, i < 4 → sr[i]? = some true → s.nw[i]? = some (List.replicate 128 (nw[i]?.getD 0))) (fun x _ => 100 - (intOf x).toNat)
      case atStart => exact ⟨0, s0, nw0, sr, mb, by omega, by omega, rfl, HC.out, HB.out.mono (by omega), HSU.out⟩
      clear HB HSU HC
      case round =>
        obtain ⟨k, s, nw, sr, mb, hk, hk2, rfl, hcalm, hb, hsure⟩ := hrel
        have HB := Lib.hid hb
        have HSU := Lib.hid hsure
        have HC := Lib.hid hcalm
        clear hb hsure hcalm
        by_cases hlt : k < len ∧ k < 100
        · obtain ⟨hlt, hlt2⟩ := hlt
          obtain ⟨x, hx⟩ : ∃ x, ls[k]? = some x := ⟨_, List.getElem?_eq_getElem (by rw [HL.out]; exact hlt)⟩
          obtain ⟨p, rfl, hdo0⟩ := HD.out k x hx
          have hdo := hdo0.below HB.out.p.bel
          have i1 : decide ((k : Int) < (len : Int)) = true := decide_eq_true (by omega)
          have i2 : decide ((k : Int) < 100) = true := decide_eq_true (by omega)
          have i3 : (k : Int) < (len : Int) := by omega
          have hw0 := HB.out.p.size
          have hcx := hdo.c
          have HCX := Lib.hid hcx
          have hth := (At.new wr zdo 54).there 0 4 (by decide)
          obtain ⟨a2, t2⟩ := fill_new wr zdo 54 x.cells rfl
          have hone := all_oneCell_toArray x.one
          have A2 := Lib.hid a2
          have T2 := Lib.hid t2
          have HTH := Lib.hid hth
          have HNE := Lib.hid hone
          have hlx : x.cells.length = 4 := rfl
          have hsx : x.cells.toArray.size = 4 := rfl
          have HLX := Lib.hid hlx
          have HSX := Lib.hid hsx
          have hbx : wr.heap.size < ((wr.alloc (.cells zdo 54)).setCells wr.heap.size 0 x.cells).heap.size := a2.lt
          have hb2 := HB.out.with t2 wr.heap.size (Nat.le_refl _) hbx
          have HB2 := Lib.hid hb2
          have HDO0 := Lib.hid hdo0
          obtain ⟨k4, hk4⟩ : ∃ k4, k4 = x.at_ % 4 := ⟨_, rfl⟩
          have hm4 : (x.at_ : Int) % 4 = (k4 : Int) := by omega
          have hk4l : k4 < 4 := by omega
          have hat := hdo0.a
          have hat2 : (x.at_ : Int) < 256 := by omega
          have HK4 := Lib.hid hk4
          clear hcx hth a2 t2 hone hlx hsx hb2 hdo hdo0 hx hk4 hbx
          have c0 := A2.out.cell 0 _ rfl
          have c1 := A2.out.cell 1 _ rfl
          have c2 := A2.out.cell 2 _ rfl
          have c3 := A2.out.cell 3 _ rfl
          have hfl := HDO0.out.fl
          by_cases hf : 0 < x.fs.length
          · have f1 : decide (0 < x.fs.length) = true := by simpa using hf
            have f2 : decide ((0 : Int) < (x.fs.length : Int)) = true := by simp; omega
            have f3 : (0 : Int) < (x.fs.length : Int) := by omega
            go_wp2_with (first | (with_reducible refine load_any rfl 54 (.tmp 53) rfl (p.add (k * 4)) (by kernel_rfl) x.cells _ HCX.out Try.underlying54 rfl (by rw [HLX.out]; exact info_do) ?_) | (with_reducible refine alloc_agg rfl 54 rfl zdo zero_do ?_) | (with_reducible refine wpList_store_mid rfl 54 (.tmp 10) (.tmp 54) rfl wr.heap.size 0 x.cells.toArray (by kernel_rfl) (by kernel_rfl) (by rw [HSX.out]; exact HTH.out) (by rw [HSX.out]; exact info_do) HNE.out ?_))
            generalize hbx : wr.heap.size = bx at *
            generalize (wr.alloc (.cells zdo 54)).setCells bx 0 x.cells = w3 at *
            have hwl : s.ws.length ≤ 1000000 := by have := HC.out.ws; omega
            have hops : s.ops < 9223372036854775807 := by have := HC.out.ops; omega
            refine (p_off HB2.out.p).mono ?_
            rintro e v2 ⟨rfl, h⟩
            have HBo := Lib.hid (HB2.out.disk h)
            have ax := h.2.at A2.out (.inr (.inr (.inr (.inl rfl))))
            have c3 := ax.cell 3 _ rfl
            clear h
            go_wp2_with fail
            refine (p_wake HBo.out.p x.fa x.fs x.fc HDO0.out.fc hfl (fun j c hj => HDO0.out.fates HBo.out.p.bel _ j c hj) hwl).mono ?_
            rintro e v3 ⟨rfl, h⟩
            have hbw := HBo.out.disk h
            have hb4 := (hbw.clearR).mono (show 300 * (k + 1) ≤ 300 * (k + 2) by omega) |>.sub (T2 := fun j c => Must (s.cut.wake x.fs) (j / 128) (j % 128) c) (fun j c _ hm => must_wake HC.out (fun y hy => (HB2.out.p.ok.ws y hy).2) x.fs _ _ c hm)
            have hth := hbw.r.there 0 4 (by rw [List.length_map, hbw.rl]; omega)
            have hcl : Calm (5 * k + 1) (s.cut.wake x.fs) := by
              have := HC.out.does x
              have e : s.does x = s.cut.wake x.fs := by unfold Dk.does; rw [if_pos (fun e => by rw [e] at hf; simp at hf)]
              rw [e] at this
              exact this
            have HTR := Lib.hid hth
            have HBT0 := Lib.hid hb4
            have HC1 := Lib.hid hcl
            have hsu : ∀ i, i < 4 → ([false, false, false, false] : List Bool)[i]? = some true → (s.cut.wake x.fs).nw[i]? = some (List.replicate 128 (nw[i]?.getD 0)) := fun i hi h => by
              have : i = 0 ∨ i = 1 ∨ i = 2 ∨ i = 3 := by omega
              rcases this with rfl | rfl | rfl | rfl <;> simp at h
            have HSU1 := Lib.hid hsu
            clear h hbw hb4 hth hcl hsu c3 ax HSU HC
            generalize s.cut.wake x.fs = s1 at *
            generalize hsr : ([false, false, false, false] : List Bool) = sr1 at HBT0 HSU1
            have HR4 : Hid (#[Value.bool false, .bool false, .bool false, .bool false] = (sr1.map Value.bool).toArray) := Lib.hid (by rw [← hsr]; rfl)
            have HL4 : Hid ((sr1.map Value.bool).toArray.size = 4) := Lib.hid (by rw [← hsr]; rfl)
            have HN4 : Hid ((sr1.map Value.bool).toArray.all (·.oneCell') = true) := Lib.hid (all_oneCell_toArray (fun v hv => by obtain ⟨b, _, rfl⟩ := List.mem_map.1 hv; rfl))
            clear hsr
            go_wp2_with (first | (with_reducible refine list_val rfl (v := .agg (sr1.map Value.bool).toArray) (by rw [← HR4.out]; exact build_row rfl) ?_) | (with_reducible refine wpList_store_mid rfl 52 (.tmp 6) (.tmp 94) rfl SR 0 (sr1.map Value.bool).toArray (by kernel_rfl) (by kernel_rfl) (by rw [HL4.out]; exact HTR.out) (by rw [HL4.out]; exact info_row) HN4.out ?_))
            (try simp only [List.toList_toArray])
            have HBT := HBT0
            generalize v3.setCells SR 0 (sr1.map Value.bool) = wt at *
            clear HTR HBT0 HR4 HL4 HN4
            obtain ⟨nw1, hnw1⟩ : ∃ nw1, nw1 = nw := ⟨_, rfl⟩
            obtain ⟨mb1, hmb1⟩ : ∃ mb1, mb1 = mb := ⟨_, rfl⟩
            rw [← hnw1, ← hmb1] at HBT
            rw [← hnw1] at HSU1
            clear hnw1 hmb1
            go_wp2_with fail
            go_loopw [15] (fun y wx => ∃ (i : Nat) (s2 : Dk), i ≤ 4 ∧ y = .int .i64 i ∧ s2.fl = s1.fl ∧ s2.ws = s1.ws ∧ Calm (5 * k + 1 + i) s2 ∧ Bk w wx D M NW SR bx s2 nw1 sr1 mb1 512 (300 * (k + 2)) (fun j c => Must s1 (j / 128) (j % 128) c)) (fun y _ => 4 - (intOf y).toNat)
            case atStart => exact ⟨0, s1, by omega, rfl, rfl, rfl, HC1.out, HBT.out⟩
            clear HBT HC1
            case round =>
              obtain ⟨i, s2, hi, rfl, e1, e2, hc2, hb2⟩ := hrel
              have HB3 := Lib.hid hb2
              have HC3 := Lib.hid hc2
              have E1 := Lib.hid e1
              have E2 := Lib.hid e2
              clear hb2 hc2 e1 e2
              by_cases hi4 : i < 4
              · have hi4' : (i : Int) < 4 := by omega
                have hops : s2.ops < 9223372036854775807 := by have := HC3.out.ops; omega
                obtain ⟨t, ht⟩ : ∃ t, s2.nw[i]? = some t := ⟨_, List.getElem?_eq_getElem (by rw [HB3.out.p.ok.nw]; exact hi4)⟩
                have htl : t.length = 128 := HB3.out.p.ok.n128 t (List.mem_of_getElem? ht)
                have hrS : s2.readS 4 (i : Int) = t := by
                  unfold Dk.readS
                  rw [if_neg (by omega), HC3.out.tick]
                  simp only [HC3.out.off, Int.toNat_natCast, ht]
                  rfl
                have hrE : s2.readE 4 (i : Int) = 0 := by
                  unfold Dk.readE
                  rw [if_neg (by omega), HC3.out.tick]
                  simp only [HC3.out.off]
                  rfl
                obtain ⟨g1, g2, g3, _⟩ := HC3.out.read 4 (i : Int)
                have c := p_read HB3.out.p (i : Int) hops
                rw [hrS, hrE] at c
                have C := Lib.hid c
                have G1 := Lib.hid (g1.trans E1.out)
                have G2 := Lib.hid (g2.trans E2.out)
                have G3 := Lib.hid g3
                have hnw : s1.nw[i]? = some t := by
                  rw [← ht]; unfold Dk.nw; rw [E1.out, E2.out]
                have HNW := Lib.hid hnw
                clear c hrS hrE g1 g2 g3 ht hnw
                generalize s2.readD 4 (i : Int) = s3 at *
                go_wp2_with fail
                refine C.out.mono ?_
                rintro e v4 ⟨rfl, h⟩
                have HB4 := Lib.hid (HB3.out.disk h)
                clear h C HB3
                go_wp2_with fail
                go_loopw [18] (fun y wx => ∃ q : Nat, q ≤ 128 ∧ y = .int .i64 q ∧ Bk w wx D M NW SR bx s3 nw1 sr1 mb1 512 (300 * (k + 2)) (fun j c => Must s1 (j / 128) (j % 128) c)) (fun y _ => 128 - (intOf y).toNat)
                case atStart => exact ⟨0, by omega, rfl, HB4.out⟩
                clear HB4
                case round =>
                  obtain ⟨q, hq, rfl, hb⟩ := hrel
                  have HB5 := Lib.hid hb
                  clear hb
                  by_cases hq1 : q < 128
                  · have hq2 : (q : Int) < 128 := by omega
                    obtain ⟨c, hcq⟩ : ∃ c, t[q]? = some c := ⟨_, List.getElem?_eq_getElem (by omega)⟩
                    have hidx : ∀ h, (bs t)[q]'h = c := fun h => by rw [bs_size] at h; have := List.getElem?_eq_getElem h; rw [hcq] at this; exact (Option.some.inj this).symm
                    have hj : i * 128 + q < 512 := by omega
                    have hmust : Must s1 ((i * 128 + q) / 128) ((i * 128 + q) % 128) c := by
                      rw [show (i * 128 + q) / 128 = i by omega, show (i * 128 + q) % 128 = q by omega]
                      refine must_nw s1 i q c ?_
                      rw [HNW.out, Option.getD_some]; exact hcq
                    have cM := HB5.out.m.cell (i * 128 + q) _ (mapsOf_get mb1 512 (i * 128 + q) hj hj)
                    have hnl := HB5.out.nl
                    have hrl := HB5.out.rl
                    obtain ⟨b, hbq⟩ : ∃ b, sr1[i]? = some b := ⟨_, List.getElem?_eq_getElem (by omega)⟩
                    obtain ⟨d, hdq⟩ : ∃ d, nw1[i]? = some d := ⟨_, List.getElem?_eq_getElem (by omega)⟩
                    have cS := HB5.out.r.cell i (.bool b) (by rw [List.getElem?_map, hbq]; rfl)
                    have cN := HB5.out.n.cell i (bv d) (by rw [List.getElem?_map, hdq]; rfl)
                    unfold bv at cN
                    have hask := fun t2 d2 o2 u2 => MapHas.ask (w := { heap := wr.heap, tape := t2, drawn := d2, os := o2, output := u2 }) ((HB5.out.h (i * 128 + q) hj).eq rfl) c hmust
                    have hask2 := fun n => MapHas.ask (w := wr.drewN n) ((HB5.out.h (i * 128 + q) hj).eq rfl) c hmust
                    have hsd : b = true → c = d := fun hb => by
                      have h1 := HSU1.out i hi4 (by rw [hbq, hb])
                      rw [HNW.out] at h1
                      rw [hdq, Option.getD_some] at h1
                      rw [Option.some.inj h1] at hcq
                      exact List.eq_of_mem_replicate (List.mem_of_getElem? hcq)
                    have HSD := Lib.hid hsd
                    clear hmust hnl hrl hbq hdq hsd hcq
                    cases b
                    · clear HSD
                      go_wp2_with fail
                      go_quiet (fail)
                      have HB6 := Lib.hid (HB5.out.drewN nq)
                      clear hask hask2 cM cS cN hidx
                      go_wp2
                      go_roundw
                      case rel => exact ⟨q + 1, by omega, by go_num, HB6.out⟩
                      case measure => simp [intOf]; omega
                    · have hcd := HSD.out rfl
                      subst hcd
                      clear HSD
                      go_wp2_with fail
                      go_quiet (fail)
                      have HB6 := Lib.hid (HB5.out.drewN nq)
                      clear hask hask2 cM cS cN hidx
                      go_wp2
                      go_roundw
                      case rel => exact ⟨q + 1, by omega, by go_num, HB6.out⟩
                      case measure => simp [intOf]; omega
                  · obtain rfl : q = 128 := by omega
                    go_wp2
                    go_roundw
                    case rel => exact ⟨i + 1, s3, by omega, by go_num, G1.out, G2.out, by rw [show 5 * k + 1 + (i + 1) = 5 * k + 1 + i + 1 by omega]; exact G3.out, HB5.out⟩
                    case measure => simp [intOf]; omega
              · obtain rfl : i = 4 := by omega
                have hme : ∀ j c, j < 512 → Must s2 (j / 128) (j % 128) c → Must s1 (j / 128) (j % 128) c := fun j c _ h => by
                  unfold Must at h ⊢
                  rw [E1.out, E2.out] at h
                  exact h
                have hb7 := HB3.out.without.sub hme
                have hs7 : ∀ i, i < 4 → sr1[i]? = some true → s2.nw[i]? = some (List.replicate 128 (nw1[i]?.getD 0)) := fun i hi h => by
                  have := HSU1.out i hi h
                  rw [← this]; unfold Dk.nw; rw [E1.out, E2.out]
                have HB7 := Lib.hid hb7
                have HS7 := Lib.hid hs7
                clear hme hb7 hs7
                go_wp2
                go_roundw
                case rel => exact ⟨k + 1, s2, nw1, sr1, mb1, by omega, by omega, by go_num, by rw [show 5 * (k + 1) = 5 * k + 1 + 4 by omega]; exact HC3.out, HB7.out, HS7.out⟩
                case measure => simp [intOf]; omega
          · have hf0 : x.fs = [] := List.eq_nil_of_length_eq_zero (by omega)
            have f1 : decide (0 < x.fs.length) = false := by simpa using hf
            have f2 : decide ((0 : Int) < (x.fs.length : Int)) = false := by simp; omega
            have f3 : ¬ (0 : Int) < (x.fs.length : Int) := by omega
            cases hxf : x.fl
            · rw [hxf] at c2
              go_wp2_with (first | (with_reducible refine load_any rfl 54 (.tmp 53) rfl (p.add (k * 4)) (by kernel_rfl) x.cells _ HCX.out Try.underlying54 rfl (by rw [HLX.out]; exact info_do) ?_) | (with_reducible refine alloc_agg rfl 54 rfl zdo zero_do ?_) | (with_reducible refine wpList_store_mid rfl 54 (.tmp 10) (.tmp 54) rfl wr.heap.size 0 x.cells.toArray (by kernel_rfl) (by kernel_rfl) (by rw [HSX.out]; exact HTH.out) (by rw [HSX.out]; exact info_do) HNE.out ?_))
              generalize hbx : wr.heap.size = bx at *
              generalize (wr.alloc (.cells zdo 54)).setCells bx 0 x.cells = w3 at *
              have hwl : s.ws.length ≤ 1000000 := by have := HC.out.ws; omega
              have hops : s.ops < 9223372036854775807 := by have := HC.out.ops; omega
              refine (bytes_any 128 x.b 128 (by decide) _).mono ?_
              rintro e v2 ⟨rfl, b2⟩
              have HBb := Lib.hid (HB2.out.below b2)
              have ax := A2.out.below b2 A2.out.lt
              have AX := Lib.hid ax
              have c := p_write HBb.out.p (k4 : Int) (List.replicate 128 x.b) hops hwl (by simp)
              rw [(HC.out.write 4 k4 (List.replicate 128 x.b) hk4l (by simp)).2] at c
              have C := Lib.hid c
              clear c b2 ax
              go_wp2_with fail
              refine C.out.mono ?_
              rintro e v3 ⟨rfl, h⟩
              have hbw := HBb.out.disk h
              have ax := h.2.at AX.out (.inr (.inr (.inr (.inl rfl))))
              have c1 := ax.cell 1 _ rfl
              have hnl := hbw.nl
              have hrl := hbw.rl
              obtain ⟨d0, hd0⟩ : ∃ d, nw[k4]? = some d := ⟨_, List.getElem?_eq_getElem (by omega)⟩
              obtain ⟨r0, hr0⟩ : ∃ r, sr[k4]? = some r := ⟨_, List.getElem?_eq_getElem (by omega)⟩
              have cn := hbw.n.cell k4 (bv d0) (by rw [List.getElem?_map, hd0]; rfl)
              have fn := hbw.n.frozen k4
              have hb4 := hbw.setN k4 x.b
              have cr := hb4.r.cell k4 (.bool r0) (by rw [List.getElem?_map, hr0]; rfl)
              have fr := hb4.r.frozen k4
              have hb5 := hb4.setR k4 true
              have hnx : bx ≠ NW := fun e => (ax.ne hbw.n (by decide)) e
              have hrx : bx ≠ SR := fun e => (ax.ne hbw.r (by decide)) e
              have a5 := (ax.setCell_ne ⟨NW, k4, none⟩ (bv x.b) hnx).setCell_ne ⟨SR, k4, none⟩ (.bool true) hrx
              have hcl : Calm (5 * k + 1) (s.writeD 4 (k4 : Int) (List.replicate 128 x.b)) := by
                have := HC.out.does x
                have e : s.does x = s.writeD 4 (k4 : Int) (List.replicate 128 x.b) := by unfold Dk.does; rw [if_neg (by simp [hf0]), hxf, ← HK4.out]; rfl
                rw [e] at this
                exact this
              have hmw := fun j i c => must_write HC.out k4 hk4l x.b j i c
              have hsu : ∀ i, i < 4 → (sr.set k4 true)[i]? = some true → (s.writeD 4 (k4 : Int) (List.replicate 128 x.b)).nw[i]? = some (List.replicate 128 ((nw.set k4 x.b)[i]?.getD 0)) := fun i hi h => by
                rw [nw_write HC.out k4 hk4l x.b]
                by_cases e : i = k4
                · subst e
                  rw [List.getElem?_set_self (by rw [HB.out.p.ok.nw]; exact hi), List.getElem?_set_self (by omega)]
                  rfl
                · rw [List.getElem?_set_ne (fun h => e h.symm)] at h
                  rw [List.getElem?_set_ne (fun h => e h.symm), List.getElem?_set_ne (fun h => e h.symm)]
                  exact HSU.out i hi h
              have HB5 := Lib.hid hb5
              have A5 := Lib.hid a5
              have HC1 := Lib.hid hcl
              have HMW := Lib.hid hmw
              have HSU1 := Lib.hid hsu
              clear h C hbw ax hnl hrl hd0 hr0 hb4 hb5 hnx hrx a5 hcl hmw hsu HSU HC HBb AX
              unfold bv at cn cr fr HB5 A5
              go_wp2_with fail
              generalize s.writeD 4 (k4 : Int) (List.replicate 128 x.b) = s1 at *
              generalize hnw1 : nw.set k4 x.b = nw1 at *
              generalize hsr1 : sr.set k4 true = sr1 at *
              generalize (v3.setCell ⟨NW, k4, none⟩ (.int .u8 (x.b.toNat : Int))).setCell ⟨SR, k4, none⟩ (.bool true) = v5 at *
              have hb6 := HB5.out
              have HB5' := hb6
              clear HB5 hb6
              have HBS := Lib.hid (HB5'.sub (T2 := fun j c => Must s (j / 128) (j % 128) c ∨ (j / 128 = k4 ∧ j % 128 < 0 ∧ c = x.b)) (fun j c _ h => h.resolve_right (fun h => absurd h.2.1 (by omega))))
              clear HB5' cn fn cr fr c0 c1 c2 c3 hnw1 hsr1 HB2 HB T2 A2
              go_loopw [14] (fun y wx => ∃ i : Nat, i ≤ 128 ∧ y = .int .i64 i ∧ At wx bx 54 x.cells ∧ Bk w wx D M NW SR bx s1 nw1 sr1 mb 512 (300 * (k + 1) + i) (fun j c => Must s (j / 128) (j % 128) c ∨ (j / 128 = k4 ∧ j % 128 < i ∧ c = x.b))) (fun y _ => 128 - (intOf y).toNat)
              case atStart => exact ⟨0, by omega, rfl, A5.out, HBS.out⟩
              clear HBS A5
              case round =>
                obtain ⟨i, hi, rfl, ha, hb⟩ := hrel
                have HB6 := Lib.hid hb
                have A6 := Lib.hid ha
                clear ha hb
                by_cases hi1 : i < 128
                · have hi2 : (i : Int) < 128 := by omega
                  have hi3 : decide ((i : Int) < 128) = true := by simp; omega
                  have hj : k4 * 128 + i < 512 := by omega
                  have hk4i : (k4 : Int) < 4 := by omega
                  have cM := HB6.out.drew.m.cell (k4 * 128 + i) _ (mapsOf_get mb 512 (k4 * 128 + i) hj hj)
                  have c1 := A6.out.drew.cell 1 _ rfl
                  obtain ⟨w7, hrun, hb7, t7⟩ := HB6.out.drew.put (k4 * 128 + i) hj (by unfold maxLen; omega) x.b
                  have hb8 := hb7.sub (T2 := fun j c => Must s (j / 128) (j % 128) c ∨ (j / 128 = k4 ∧ j % 128 < i + 1 ∧ c = x.b)) (fun j c _ h => by
                    rcases h with h | ⟨h1, h2, h3⟩
                    · exact .inl (.inl h)
                    · by_cases e : j % 128 < i
                      · exact .inl (.inr ⟨h1, e, h3⟩)
                      · exact .inr ⟨by omega, h3⟩)
                  have hne : bx ≠ mb (k4 * 128 + i) := fun e => (HB6.out.h (k4 * 128 + i) hj).noCells A6.out e.symm
                  have a7 := A6.out.drew.touch t7 (by simpa using hne)
                  have HB8 := Lib.hid hb8
                  have A8 := Lib.hid a7
                  clear hb7 hb8 t7 hne a7 HB6 A6
                  go_wp2_with fail
                  go_still_tail 7, (by kernel_rfl)
                  change wpList _ _ _ _ _ wr.drew
                  refine list_skip rfl (run_upd_op 48 (.tmp 80) (.tmp 82) (.const (.bool true)) (.inr rfl) (.map (some (mb (k4 * 128 + i)))) (.int .u8 (x.b.toNat : Int)) (.bool true) (by kernel_rfl) (by kernel_rfl) rfl hrun) ?_
                  simp only [Act.put]
                  clear hrun cM c1
                  go_wp2
                  go_roundw
                  case rel => exact ⟨i + 1, by omega, by go_num, A8.out, HB8.out⟩
                  case measure => simp [intOf]; omega
                · obtain rfl : i = 128 := by omega
                  have hi3 : decide (((128 : Nat) : Int) < 128) = false := by simp
                  obtain ⟨mb1, hmb1⟩ : ∃ mb1, mb1 = mb := ⟨_, rfl⟩
                  rw [← hmb1] at HB6
                  have HBT := Lib.hid ((HB6.out.mono (show 300 * (k + 1) + 128 ≤ 300 * (k + 2) by omega)).sub (T2 := fun j c => Must s1 (j / 128) (j % 128) c) (fun j c _ h => by
                    rcases HMW.out _ _ _ h with h | ⟨h1, h2⟩
                    · exact .inl h
                    · exact .inr ⟨h1, by omega, h2⟩))
                  clear hmb1 HB6 A6 HMW
                  go_wp2_with fail
                  have e4 : ((128 : Nat) : Int) = 128 := rfl
                  (try simp only [e4])
                  clear e4
                  obtain ⟨wt, hwt⟩ : ∃ wt, wt = wr := ⟨_, rfl⟩
                  rw [← hwt] at HBT
                  rw [← hwt]
                  clear hwt
                  go_loopw [15] (fun y wx => ∃ (i : Nat) (s2 : Dk), i ≤ 4 ∧ y = .int .i64 i ∧ s2.fl = s1.fl ∧ s2.ws = s1.ws ∧ Calm (5 * k + 1 + i) s2 ∧ Bk w wx D M NW SR bx s2 nw1 sr1 mb1 512 (300 * (k + 2)) (fun j c => Must s1 (j / 128) (j % 128) c)) (fun y _ => 4 - (intOf y).toNat)
                  case atStart => exact ⟨0, s1, by omega, rfl, rfl, rfl, HC1.out, HBT.out⟩
                  clear HBT HC1
                  case round =>
                    obtain ⟨i, s2, hi, rfl, e1, e2, hc2, hb2⟩ := hrel
                    have HB3 := Lib.hid hb2
                    have HC3 := Lib.hid hc2
                    have E1 := Lib.hid e1
                    have E2 := Lib.hid e2
                    clear hb2 hc2 e1 e2
                    by_cases hi4 : i < 4
                    · have hi4' : (i : Int) < 4 := by omega
                      have hops : s2.ops < 9223372036854775807 := by have := HC3.out.ops; omega
                      obtain ⟨t, ht⟩ : ∃ t, s2.nw[i]? = some t := ⟨_, List.getElem?_eq_getElem (by rw [HB3.out.p.ok.nw]; exact hi4)⟩
                      have htl : t.length = 128 := HB3.out.p.ok.n128 t (List.mem_of_getElem? ht)
                      have hrS : s2.readS 4 (i : Int) = t := by
                        unfold Dk.readS
                        rw [if_neg (by omega), HC3.out.tick]
                        simp only [HC3.out.off, Int.toNat_natCast, ht]
                        rfl
                      have hrE : s2.readE 4 (i : Int) = 0 := by
                        unfold Dk.readE
                        rw [if_neg (by omega), HC3.out.tick]
                        simp only [HC3.out.off]
                        rfl
                      obtain ⟨g1, g2, g3, _⟩ := HC3.out.read 4 (i : Int)
                      have c := p_read HB3.out.p (i : Int) hops
                      rw [hrS, hrE] at c
                      have C := Lib.hid c
                      have G1 := Lib.hid (g1.trans E1.out)
                      have G2 := Lib.hid (g2.trans E2.out)
                      have G3 := Lib.hid g3
                      have hnw : s1.nw[i]? = some t := by
                        rw [← ht]; unfold Dk.nw; rw [E1.out, E2.out]
                      have HNW := Lib.hid hnw
                      clear c hrS hrE g1 g2 g3 ht hnw
                      generalize s2.readD 4 (i : Int) = s3 at *
                      go_wp2_with fail
                      refine C.out.mono ?_
                      rintro e v4 ⟨rfl, h⟩
                      have HB4 := Lib.hid (HB3.out.disk h)
                      clear h C HB3
                      go_wp2_with fail
                      go_loopw [18] (fun y wx => ∃ q : Nat, q ≤ 128 ∧ y = .int .i64 q ∧ Bk w wx D M NW SR bx s3 nw1 sr1 mb1 512 (300 * (k + 2)) (fun j c => Must s1 (j / 128) (j % 128) c)) (fun y _ => 128 - (intOf y).toNat)
                      case atStart => exact ⟨0, by omega, rfl, HB4.out⟩
                      clear HB4
                      case round =>
                        obtain ⟨q, hq, rfl, hb⟩ := hrel
                        have HB5 := Lib.hid hb
                        clear hb
                        by_cases hq1 : q < 128
                        · have hq2 : (q : Int) < 128 := by omega
                          obtain ⟨c, hcq⟩ : ∃ c, t[q]? = some c := ⟨_, List.getElem?_eq_getElem (by omega)⟩
                          have hidx : ∀ h, (bs t)[q]'h = c := fun h => by rw [bs_size] at h; have := List.getElem?_eq_getElem h; rw [hcq] at this; exact (Option.some.inj this).symm
                          have hj : i * 128 + q < 512 := by omega
                          have hmust : Must s1 ((i * 128 + q) / 128) ((i * 128 + q) % 128) c := by
                            rw [show (i * 128 + q) / 128 = i by omega, show (i * 128 + q) % 128 = q by omega]
                            refine must_nw s1 i q c ?_
                            rw [HNW.out, Option.getD_some]; exact hcq
                          have cM := HB5.out.m.cell (i * 128 + q) _ (mapsOf_get mb1 512 (i * 128 + q) hj hj)
                          have hnl := HB5.out.nl
                          have hrl := HB5.out.rl
                          obtain ⟨b, hbq⟩ : ∃ b, sr1[i]? = some b := ⟨_, List.getElem?_eq_getElem (by omega)⟩
                          obtain ⟨d, hdq⟩ : ∃ d, nw1[i]? = some d := ⟨_, List.getElem?_eq_getElem (by omega)⟩
                          have cS := HB5.out.r.cell i (.bool b) (by rw [List.getElem?_map, hbq]; rfl)
                          have cN := HB5.out.n.cell i (bv d) (by rw [List.getElem?_map, hdq]; rfl)
                          unfold bv at cN
                          have hask := fun t2 d2 o2 u2 => MapHas.ask (w := { heap := wr.heap, tape := t2, drawn := d2, os := o2, output := u2 }) ((HB5.out.h (i * 128 + q) hj).eq rfl) c hmust
                          have hask2 := fun n => MapHas.ask (w := wr.drewN n) ((HB5.out.h (i * 128 + q) hj).eq rfl) c hmust
                          have hsd : b = true → c = d := fun hb => by
                            have h1 := HSU1.out i hi4 (by rw [hbq, hb])
                            rw [HNW.out] at h1
                            rw [hdq, Option.getD_some] at h1
                            rw [Option.some.inj h1] at hcq
                            exact List.eq_of_mem_replicate (List.mem_of_getElem? hcq)
                          have HSD := Lib.hid hsd
                          clear hmust hnl hrl hbq hdq hsd hcq
                          cases b
                          · clear HSD
                            go_wp2_with fail
                            go_quiet (fail)
                            have HB6 := Lib.hid (HB5.out.drewN nq)
                            clear hask hask2 cM cS cN hidx
                            go_wp2
                            go_roundw
                            case rel => exact ⟨q + 1, by omega, by go_num, HB6.out⟩
                            case measure => simp [intOf]; omega
                          · have hcd := HSD.out rfl
                            subst hcd
                            clear HSD
                            go_wp2_with fail
                            go_quiet (fail)
                            have HB6 := Lib.hid (HB5.out.drewN nq)
                            clear hask hask2 cM cS cN hidx
                            go_wp2
                            go_roundw
                            case rel => exact ⟨q + 1, by omega, by go_num, HB6.out⟩
                            case measure => simp [intOf]; omega
                        · obtain rfl : q = 128 := by omega
                          go_wp2
                          go_roundw
                          case rel => exact ⟨i + 1, s3, by omega, by go_num, G1.out, G2.out, by rw [show 5 * k + 1 + (i + 1) = 5 * k + 1 + i + 1 by omega]; exact G3.out, HB5.out⟩
                          case measure => simp [intOf]; omega
                    · obtain rfl : i = 4 := by omega
                      have hme : ∀ j c, j < 512 → Must s2 (j / 128) (j % 128) c → Must s1 (j / 128) (j % 128) c := fun j c _ h => by
                        unfold Must at h ⊢
                        rw [E1.out, E2.out] at h
                        exact h
                      have hb7 := HB3.out.without.sub hme
                      have hs7 : ∀ i, i < 4 → sr1[i]? = some true → s2.nw[i]? = some (List.replicate 128 (nw1[i]?.getD 0)) := fun i hi h => by
                        have := HSU1.out i hi h
                        rw [← this]; unfold Dk.nw; rw [E1.out, E2.out]
                      have HB7 := Lib.hid hb7
                      have HS7 := Lib.hid hs7
                      clear hme hb7 hs7
                      go_wp2
                      go_roundw
                      case rel => exact ⟨k + 1, s2, nw1, sr1, mb1, by omega, by omega, by go_num, by rw [show 5 * (k + 1) = 5 * k + 1 + 4 by omega]; exact HC3.out, HB7.out, HS7.out⟩
                      case measure => simp [intOf]; omega
            · rw [hxf] at c2
              go_wp2_with (first | (with_reducible refine load_any rfl 54 (.tmp 53) rfl (p.add (k * 4)) (by kernel_rfl) x.cells _ HCX.out Try.underlying54 rfl (by rw [HLX.out]; exact info_do) ?_) | (with_reducible refine alloc_agg rfl 54 rfl zdo zero_do ?_) | (with_reducible refine wpList_store_mid rfl 54 (.tmp 10) (.tmp 54) rfl wr.heap.size 0 x.cells.toArray (by kernel_rfl) (by kernel_rfl) (by rw [HSX.out]; exact HTH.out) (by rw [HSX.out]; exact info_do) HNE.out ?_))
              generalize hbx : wr.heap.size = bx at *
              generalize (wr.alloc (.cells zdo 54)).setCells bx 0 x.cells = w3 at *
              have hwl : s.ws.length ≤ 1000000 := by have := HC.out.ws; omega
              have hops : s.ops < 9223372036854775807 := by have := HC.out.ops; omega
              have c := p_flush HB2.out.p hops hwl
              rw [HC.out.flush.2] at c
              have C := Lib.hid c
              clear c
              refine C.out.mono ?_
              rintro e v2 ⟨rfl, h⟩
              have hbf := (HB2.out.disk h).mono (show 300 * (k + 1) ≤ 300 * (k + 2) by omega) |>.sub (T2 := fun j c => Must s.flushD (j / 128) (j % 128) c) (fun j c _ hm => must_nw s _ _ c (must_flush HC.out _ _ c hm))
              have hcl : Calm (5 * k + 1) s.flushD := by
                have := HC.out.does x
                have e : s.does x = s.flushD := by unfold Dk.does; rw [if_neg (by simp [hf0]), hxf]; rfl
                rw [e] at this
                exact this
              have hkey : ∀ a b d, a < 4 → b < 128 → sr[a]? = some true → nw[a]? = some d → ∀ c, Must s.flushD ((a * 128 + b) / 128) ((a * 128 + b) % 128) c → c = d := fun a b d ha hb hs hd c hm => by
                rw [show (a * 128 + b) / 128 = a by omega, show (a * 128 + b) % 128 = b by omega] at hm
                have h1 := must_flush HC.out _ _ c hm
                rw [HSU.out a ha hs, hd, Option.getD_some, Option.getD_some] at h1
                exact List.eq_of_mem_replicate (List.mem_of_getElem? h1)
              have hsu : ∀ i, i < 4 → sr[i]? = some true → s.flushD.nw[i]? = some (List.replicate 128 (nw[i]?.getD 0)) := fun i hi h => by
                rw [nw_flush HC.out]; exact HSU.out i hi h
              have HBF := Lib.hid hbf
              have HC1 := Lib.hid hcl
              have HKEY := Lib.hid hkey
              have HSU1 := Lib.hid hsu
              clear h C hbf hcl hkey hsu HSU HC
              generalize s.flushD = s1 at *
              go_wp2_with fail
              go_loopw [12] (fun y wx => ∃ (a : Nat) (mb2 : Nat → Nat), a ≤ 4 ∧ y = .int .i64 a ∧ Bk w wx D M NW SR bx s1 nw sr mb2 512 (300 * (k + 2)) (fun j c => Must s1 (j / 128) (j % 128) c)) (fun y _ => 4 - (intOf y).toNat)
              case atStart => exact ⟨0, mb, by omega, rfl, HBF.out⟩
              clear HBF
              case round =>
                obtain ⟨a, mb2, ha, rfl, hb⟩ := hrel
                have HB3 := Lib.hid hb
                clear hb
                by_cases ha4 : a < 4
                · have ha4' : (a : Int) < 4 := by omega
                  go_wp2_with fail
                  go_loopw [13] (fun y wx => ∃ (b : Nat) (mb3 : Nat → Nat), b ≤ 128 ∧ y = .int .i64 b ∧ Bk w wx D M NW SR bx s1 nw sr mb3 512 (300 * (k + 2)) (fun j c => Must s1 (j / 128) (j % 128) c)) (fun y _ => 128 - (intOf y).toNat)
                  case atStart => exact ⟨0, mb2, by omega, rfl, HB3.out⟩
                  clear HB3
                  case round =>
                    obtain ⟨b, mb3, hb8, rfl, hb⟩ := hrel
                    have HB4 := Lib.hid hb
                    have hrl := HB4.out.rl
                    have hnl := HB4.out.nl
                    clear hb
                    obtain ⟨r, hr⟩ : ∃ r, sr[a]? = some r := ⟨_, List.getElem?_eq_getElem (by omega)⟩
                    obtain ⟨d, hd⟩ : ∃ d, nw[a]? = some d := ⟨_, List.getElem?_eq_getElem (by omega)⟩
                    have cS := HB4.out.r.cell a (.bool r) (by rw [List.getElem?_map, hr]; rfl)
                    have HR := Lib.hid hr
                    have HDD := Lib.hid hd
                    clear hr hd hrl hnl
                    by_cases hb1 : b < 128
                    · have hb2 : (b : Int) < 128 := by omega
                      have hb3 : decide ((b : Int) < 128) = true := by simp; omega
                      cases r
                      · go_wp2
                        go_roundw
                        case rel => exact ⟨a + 1, mb3, by omega, by go_num, HB4.out⟩
                        case measure => simp [intOf]; omega
                      · have hj : a * 128 + b < 512 := by omega
                        have cN := HB4.out.drew.n.cell a (bv d) (by rw [List.getElem?_map, HDD.out]; rfl)
                        obtain ⟨w6, hrun, hm6, t6⟩ := (MapHas.made wr.drew).put (by unfold maxLen; omega) d
                        have t6' : Touch [] wr.drew w6 := ((Touch.refl [] wr.drew).alloc (.map #[] 0)).step t6 (by simp)
                        have hn6 := (HB4.out.drew.n.touch t6' (by simp)).cell a (bv d) (by rw [List.getElem?_map, HDD.out]; rfl)
                        have cm := (HB4.out.drew.m.touch t6' (by simp)).cell (a * 128 + b) _ (mapsOf_get mb3 512 (a * 128 + b) hj hj)
                        have fm := (HB4.out.drew.m.touch t6' (by simp)).frozen (a * 128 + b)
                        have hb5 := HB4.out.drew.fresh (by omega) (a * 128 + b) 512 hj (by omega) (by omega) wr.drew.heap.size d (Nat.le_refl _) (hm6.mono (by omega) |>.sub (fun x hx => .inr hx)) t6' rfl (fun j c => Must s1 (j / 128) (j % 128) c) (fun _ _ _ _ h => h) (HKEY.out a b d ha4 hb1 HR.out HDD.out)
                        have hmn : M ≠ NW := HB4.out.mn
                        have HB5 := Lib.hid hb5
                        have hcl6 : (w6.setCell ⟨M, a * 128 + b, none⟩ (.map (some wr.drew.heap.size))).cell? ⟨NW, a, none⟩ = some (bv d) := by
                          rw [← hn6]; exact World.cell?_setCell_other _ _ _ _ (fun e => hmn (congrArg Addr.block e))
                        go_wp2_with fail
                        refine region_any (fun W => W.cell? ⟨NW, a, none⟩ = some (bv d)) 11 (by kernel_rfl) ?_
                        refine wpAnyT_takeN (v := .int .i64 (a : Int)) (i := 0) rfl (by decide) (by kernel_rfl) (by kernel_rfl) (by kernel_rfl) (fun _ _ _ h => h) (.inl ⟨by kernel_rfl, fun W hS => by kernel_rfl⟩) cN ?_
                        refine wpAnyT_takeN (v := .int .i64 (b : Int)) (i := 1) rfl (by decide) (by kernel_rfl) (by kernel_rfl) (by kernel_rfl) (fun _ _ _ h => h) (.inl ⟨by kernel_rfl, fun W hS => by kernel_rfl⟩) cN ?_
                        refine wpAnyT_takeN (v := .int .i64 (a : Int)) (i := 3) rfl (by decide) (by kernel_rfl) (by kernel_rfl) (by kernel_rfl) (fun _ _ _ h => h) (.inl ⟨by kernel_rfl, fun W hS => by kernel_rfl⟩) cN ?_
                        refine wpAnyT_takeN (v := .pointer (some ⟨NW, a, none⟩)) (i := 4) rfl (by decide) (by kernel_rfl) (by kernel_rfl) (by kernel_rfl) (fun _ _ _ h => h) (.inl ⟨by kernel_rfl, fun W hS => run_index_arr 51 5 (.tmp 5) (.tmp 117) rfl ⟨NW, 0, none⟩ 4 a (by kernel_rfl) (by kernel_rfl) ha4 1 _ (Addr.add0 _ _ |>.trans (by rw [Nat.mul_one])) Try.underlying51 (by kernel_rfl)⟩) cN ?_
                        refine wpAnyT_takeN (v := .int .u8 (d.toNat : Int)) (i := 5) rfl (by decide) (by kernel_rfl) (by kernel_rfl) (by kernel_rfl) (fun _ _ _ h => h) (.inl ⟨by kernel_rfl, fun W hS => run_load_one 5 (.tmp 118) rfl ⟨NW, a, none⟩ (by kernel_rfl) _ hS _ Try.underlying5 rfl⟩) cN ?_
                        refine wpAnyT_takeN (v := .pointer (some ⟨M, a * 128, none⟩)) (i := 8) rfl (by decide) (by kernel_rfl) (by kernel_rfl) (by kernel_rfl) (fun _ _ _ h => h) (.inl ⟨by kernel_rfl, fun W hS => run_index_arr 50 49 (.tmp 4) (.tmp 114) rfl ⟨M, 0, none⟩ 4 a (by kernel_rfl) (by kernel_rfl) ha4 128 _ (Addr.add0 _ _) Try.underlying50 (by kernel_rfl)⟩) cN ?_
                        refine wpAnyT_all (rs := [2]) (by kernel_rfl) (by simp) ?_
                        intro i hi
                        obtain rfl : i = 2 := by simpa using hi
                        refine wpOp_val (v := .map (some wr.drew.heap.size)) (w' := wr.drew.alloc (.map #[] 0)) rfl (by kernel_rfl) (make_op rfl) ⟨fun _ => (HB4.out.drew.alloc _).n.cell a (bv d) (by rw [List.getElem?_map, HDD.out]; rfl), ?_⟩
                        refine wpAnyT_all (rs := [6]) (by kernel_rfl) (by simp) ?_
                        intro i hi
                        obtain rfl : i = 6 := by simpa using hi
                        refine wpOp_skip rfl (by kernel_rfl) (run_upd_op 48 (.tmp 116) (.tmp 119) (.const (.bool true)) (.inl rfl) (.map (some wr.drew.heap.size)) (.int .u8 (d.toNat : Int)) (.bool true) (by kernel_rfl) (by kernel_rfl) rfl hrun) ⟨fun _ => hn6, ?_⟩
                        refine wpAnyT_all (rs := [7]) (by kernel_rfl) (by simp) ?_
                        intro i hi
                        obtain rfl : i = 7 := by simpa using hi
                        refine wpOp_val (v := .map (some wr.drew.heap.size)) (w' := w6) rfl (by kernel_rfl) (by kernel_rfl) ⟨fun _ => hn6, ?_⟩
                        refine wpAnyT_takeN (v := .pointer (some ⟨M, a * 128 + b, none⟩)) (i := 9) rfl (by decide) (by kernel_rfl) (by kernel_rfl) (by kernel_rfl) (fun _ _ _ h => h) (.inl ⟨by kernel_rfl, fun W hS => run_index_arr 49 48 (.tmp 121) (.tmp 115) rfl ⟨M, a * 128, none⟩ 128 b (by kernel_rfl) (by kernel_rfl) hb1 1 _ (by rw [Nat.mul_one]; exact Addr.add_mid _ _ _) Try.underlying49 (by kernel_rfl)⟩) hn6 ?_
                        refine wpAnyT_all (rs := [10]) (by kernel_rfl) (by simp) ?_
                        intro i hi
                        obtain rfl : i = 10 := by simpa using hi
                        refine wpOp_skip rfl (by kernel_rfl) (run_store_map 48 (.tmp 122) (.tmp 120) rfl M (a * 128 + b) (by kernel_rfl) (some wr.drew.heap.size) (by kernel_rfl) _ cm fm (by kernel_rfl)) ⟨fun _ => hcl6, wpAnyT_done (by kernel_rfl) ?_ _⟩
                        simp only [Act.put, List.setIfInBounds_toArray, List.set_cons_zero, List.set_cons_succ]
                        clear hb5 hrun hm6 t6 t6' hn6 cm fm hcl6 cN cS HB4 HDD
                        go_wp2
                        go_roundw
                        case rel => exact ⟨b + 1, _, by omega, by go_num, HB5.out⟩
                        case measure => simp [intOf]; omega
                    · obtain rfl : b = 128 := by omega
                      have hb3 : decide (((128 : Nat) : Int) < 128) = false := by simp
                      go_wp2
                      go_roundw
                      case rel => exact ⟨a + 1, mb3, by omega, by go_num, HB4.out⟩
                      case measure => simp [intOf]; omega
                · obtain rfl : a = 4 := by omega
                  have HBT0 := HB3
                  clear HB3
                  obtain ⟨nw1, hnw1⟩ : ∃ nw1, nw1 = nw := ⟨_, rfl⟩
                  obtain ⟨sr1, hsr1⟩ : ∃ sr1, sr1 = sr := ⟨_, rfl⟩
                  obtain ⟨mb1, hmb1⟩ : ∃ mb1, mb1 = mb2 := ⟨_, rfl⟩
                  rw [← hnw1, ← hsr1, ← hmb1] at HBT0
                  rw [← hnw1, ← hsr1] at HSU1
                  have HBT := HBT0
                  clear hnw1 hsr1 hmb1 HKEY HBT0
                  go_wp2_with fail
                  have e4 : ((4 : Nat) : Int) = 4 := rfl
                  (try simp only [e4])
                  clear e4
                  obtain ⟨wt, hwt⟩ : ∃ wt, wt = wr := ⟨_, rfl⟩
                  rw [← hwt] at HBT
                  rw [← hwt]
                  clear hwt
                  go_loopw [15] (fun y wx => ∃ (i : Nat) (s2 : Dk), i ≤ 4 ∧ y = .int .i64 i ∧ s2.fl = s1.fl ∧ s2.ws = s1.ws ∧ Calm (5 * k + 1 + i) s2 ∧ Bk w wx D M NW SR bx s2 nw1 sr1 mb1 512 (300 * (k + 2)) (fun j c => Must s1 (j / 128) (j % 128) c)) (fun y _ => 4 - (intOf y).toNat)
                  case atStart => exact ⟨0, s1, by omega, rfl, rfl, rfl, HC1.out, HBT.out⟩
                  clear HBT HC1
                  case round =>
                    obtain ⟨i, s2, hi, rfl, e1, e2, hc2, hb2⟩ := hrel
                    have HB3 := Lib.hid hb2
                    have HC3 := Lib.hid hc2
                    have E1 := Lib.hid e1
                    have E2 := Lib.hid e2
                    clear hb2 hc2 e1 e2
                    by_cases hi4 : i < 4
                    · have hi4' : (i : Int) < 4 := by omega
                      have hops : s2.ops < 9223372036854775807 := by have := HC3.out.ops; omega
                      obtain ⟨t, ht⟩ : ∃ t, s2.nw[i]? = some t := ⟨_, List.getElem?_eq_getElem (by rw [HB3.out.p.ok.nw]; exact hi4)⟩
                      have htl : t.length = 128 := HB3.out.p.ok.n128 t (List.mem_of_getElem? ht)
                      have hrS : s2.readS 4 (i : Int) = t := by
                        unfold Dk.readS
                        rw [if_neg (by omega), HC3.out.tick]
                        simp only [HC3.out.off, Int.toNat_natCast, ht]
                        rfl
                      have hrE : s2.readE 4 (i : Int) = 0 := by
                        unfold Dk.readE
                        rw [if_neg (by omega), HC3.out.tick]
                        simp only [HC3.out.off]
                        rfl
                      obtain ⟨g1, g2, g3, _⟩ := HC3.out.read 4 (i : Int)
                      have c := p_read HB3.out.p (i : Int) hops
                      rw [hrS, hrE] at c
                      have C := Lib.hid c
                      have G1 := Lib.hid (g1.trans E1.out)
                      have G2 := Lib.hid (g2.trans E2.out)
                      have G3 := Lib.hid g3
                      have hnw : s1.nw[i]? = some t := by
                        rw [← ht]; unfold Dk.nw; rw [E1.out, E2.out]
                      have HNW := Lib.hid hnw
                      clear c hrS hrE g1 g2 g3 ht hnw
                      generalize s2.readD 4 (i : Int) = s3 at *
                      go_wp2_with fail
                      refine C.out.mono ?_
                      rintro e v4 ⟨rfl, h⟩
                      have HB4 := Lib.hid (HB3.out.disk h)
                      clear h C HB3
                      go_wp2_with fail
                      go_loopw [18] (fun y wx => ∃ q : Nat, q ≤ 128 ∧ y = .int .i64 q ∧ Bk w wx D M NW SR bx s3 nw1 sr1 mb1 512 (300 * (k + 2)) (fun j c => Must s1 (j / 128) (j % 128) c)) (fun y _ => 128 - (intOf y).toNat)
                      case atStart => exact ⟨0, by omega, rfl, HB4.out⟩
                      clear HB4
                      case round =>
                        obtain ⟨q, hq, rfl, hb⟩ := hrel
                        have HB5 := Lib.hid hb
                        clear hb
                        by_cases hq1 : q < 128
                        · have hq2 : (q : Int) < 128 := by omega
                          obtain ⟨c, hcq⟩ : ∃ c, t[q]? = some c := ⟨_, List.getElem?_eq_getElem (by omega)⟩
                          have hidx : ∀ h, (bs t)[q]'h = c := fun h => by rw [bs_size] at h; have := List.getElem?_eq_getElem h; rw [hcq] at this; exact (Option.some.inj this).symm
                          have hj : i * 128 + q < 512 := by omega
                          have hmust : Must s1 ((i * 128 + q) / 128) ((i * 128 + q) % 128) c := by
                            rw [show (i * 128 + q) / 128 = i by omega, show (i * 128 + q) % 128 = q by omega]
                            refine must_nw s1 i q c ?_
                            rw [HNW.out, Option.getD_some]; exact hcq
                          have cM := HB5.out.m.cell (i * 128 + q) _ (mapsOf_get mb1 512 (i * 128 + q) hj hj)
                          have hnl := HB5.out.nl
                          have hrl := HB5.out.rl
                          obtain ⟨b, hbq⟩ : ∃ b, sr1[i]? = some b := ⟨_, List.getElem?_eq_getElem (by omega)⟩
                          obtain ⟨d, hdq⟩ : ∃ d, nw1[i]? = some d := ⟨_, List.getElem?_eq_getElem (by omega)⟩
                          have cS := HB5.out.r.cell i (.bool b) (by rw [List.getElem?_map, hbq]; rfl)
                          have cN := HB5.out.n.cell i (bv d) (by rw [List.getElem?_map, hdq]; rfl)
                          unfold bv at cN
                          have hask := fun t2 d2 o2 u2 => MapHas.ask (w := { heap := wr.heap, tape := t2, drawn := d2, os := o2, output := u2 }) ((HB5.out.h (i * 128 + q) hj).eq rfl) c hmust
                          have hask2 := fun n => MapHas.ask (w := wr.drewN n) ((HB5.out.h (i * 128 + q) hj).eq rfl) c hmust
                          have hsd : b = true → c = d := fun hb => by
                            have h1 := HSU1.out i hi4 (by rw [hbq, hb])
                            rw [HNW.out] at h1
                            rw [hdq, Option.getD_some] at h1
                            rw [Option.some.inj h1] at hcq
                            exact List.eq_of_mem_replicate (List.mem_of_getElem? hcq)
                          have HSD := Lib.hid hsd
                          clear hmust hnl hrl hbq hdq hsd hcq
                          cases b
                          · clear HSD
                            go_wp2_with fail
                            go_quiet (fail)
                            have HB6 := Lib.hid (HB5.out.drewN nq)
                            clear hask hask2 cM cS cN hidx
                            go_wp2
                            go_roundw
                            case rel => exact ⟨q + 1, by omega, by go_num, HB6.out⟩
                            case measure => simp [intOf]; omega
                          · have hcd := HSD.out rfl
                            subst hcd
                            clear HSD
                            go_wp2_with fail
                            go_quiet (fail)
                            have HB6 := Lib.hid (HB5.out.drewN nq)
                            clear hask hask2 cM cS cN hidx
                            go_wp2
                            go_roundw
                            case rel => exact ⟨q + 1, by omega, by go_num, HB6.out⟩
                            case measure => simp [intOf]; omega
                        · obtain rfl : q = 128 := by omega
                          go_wp2
                          go_roundw
                          case rel => exact ⟨i + 1, s3, by omega, by go_num, G1.out, G2.out, by rw [show 5 * k + 1 + (i + 1) = 5 * k + 1 + i + 1 by omega]; exact G3.out, HB5.out⟩
                          case measure => simp [intOf]; omega
                    · obtain rfl : i = 4 := by omega
                      have hme : ∀ j c, j < 512 → Must s2 (j / 128) (j % 128) c → Must s1 (j / 128) (j % 128) c := fun j c _ h => by
                        unfold Must at h ⊢
                        rw [E1.out, E2.out] at h
                        exact h
                      have hb7 := HB3.out.without.sub hme
                      have hs7 : ∀ i, i < 4 → sr1[i]? = some true → s2.nw[i]? = some (List.replicate 128 (nw1[i]?.getD 0)) := fun i hi h => by
                        have := HSU1.out i hi h
                        rw [← this]; unfold Dk.nw; rw [E1.out, E2.out]
                      have HB7 := Lib.hid hb7
                      have HS7 := Lib.hid hs7
                      clear hme hb7 hs7
                      go_wp2
                      go_roundw
                      case rel => exact ⟨k + 1, s2, nw1, sr1, mb1, by omega, by omega, by go_num, by rw [show 5 * (k + 1) = 5 * k + 1 + 4 by omega]; exact HC3.out, HB7.out, HS7.out⟩
                      case measure => simp [intOf]; omega
        · have hd : (decide ((k : Int) < (len : Int)) = false ∧ ¬ (k : Int) < (len : Int)) ∨ ((decide ((k : Int) < (len : Int)) = true ∧ (k : Int) < (len : Int)) ∧ decide ((k : Int) < 100) = false ∧ ¬ (k : Int) < 100) := by
            by_cases h1 : k < len
            · exact .inr ⟨⟨decide_eq_true (by omega), by omega⟩, decide_eq_false (by omega), by omega⟩
            · exact .inl ⟨decide_eq_false (by omega), by omega⟩
          rcases hd with ⟨d1, d2⟩ | ⟨⟨d1, d2⟩, d3, d4⟩
          all_goals
            go_wp2_with fail
            go_ret
            exact ⟨rfl, HB.out.p.bel⟩
end Go.Proofs.Ytcmojlfhkbkfcaa
