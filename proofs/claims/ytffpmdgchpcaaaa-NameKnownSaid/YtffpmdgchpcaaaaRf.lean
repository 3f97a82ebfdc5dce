/- The document's answer: the sum. -/
import Derived.Test.YtffpmdgchpcaaaaRe
import Derived.Test.YtffpmdgchpcaaaaRv
import Derived.Test.YtffpmdgchpcaaaaRd
import Derived.Test.YtffpmdgchpcaaaaSg
import Derived.Test.YtffpmdgchpcaaaaRg
import Derived.Deep.RegionHeld3
namespace Go.Proofs.Ytffpmdgchpcaaaa
open Go.RowKit
attribute [local go_sem] bs_size

theorem cell_lt {w : World} {a : Addr} {v : Value} (h : w.cell? a = some v) : a.block < w.heap.size := by
  unfold World.cell? at h
  cases hb : w.heap[a.block]? with
  | none => rw [hb] at h; cases h
  | some o => exact (Array.getElem?_eq_some_iff.1 hb).1

theorem cell_only {w w' : World} {b : Nat} {p : Addr} {v : Value} (h : w.cell? p = some v) (k : Only b w w') (hne : p.block ≠ b) : w'.cell? p = some v := by
  rw [← h]
  exact World.cell?_of_block (w := w) (k.block p.block (cell_lt h) hne)

theorem blks_take (l : List UInt8) (i : Nat) (h : i < nblk l) : (blks l).take (i + 1) = (blks l).take i ++ [blk l i] := by
  have hl : i < (blks l).length := by simp [blks]; exact h
  rw [List.take_succ_eq_append_getElem hl]
  simp [blks]
theorem zip_at {α β : Type} (f : α → β → Bool) (l : List α) (m : List β) (h : (List.zipWith f l m).all id = true) (i : Nat) (a : α) (b : β) (ha : l[i]? = some a) (hb : m[i]? = some b) : f a b = true := by
  have h1 : (List.zipWith f l m)[i]? = some (f a b) := by rw [List.getElem?_zipWith, ha, hb]
  have := List.all_eq_true.1 h (f a b) (List.mem_of_getElem? h1)
  exact this
theorem prim_small (i d : Nat) (h : (prim 310)[i]? = some d) : d < 18446744073709551616 := by
  have := prim_pos 310 d (List.mem_of_getElem? h)
  omega
theorem cubeK (i d : Nat) (k : Wd) (w : World) (hd : (prim 310)[i]? = some d) (hk : K0[i]? = some k) :
    Calls Try.prog 46 #[.int .u64 (d : Int)] w fun e w' => e = .returned (.int .u32 (wi k)) ∧ Below w.heap.size w w' := by
  have h := zip_at okC _ _ cubes i d k hd hk
  unfold okC at h
  rw [Bool.and_eq_true, decide_eq_true_eq] at h
  have hc := cube_any (BitVec.ofNat 64 d) w h.1
  rw [qi_of d (prim_small i d hd)] at hc
  refine hc.mono fun e w' ⟨he, hb⟩ => ⟨?_, hb⟩
  rw [he, ← eq_of_beq h.2]; rfl
theorem squareK (i d : Nat) (k : Wd) (w : World) (hd : (prim 310)[i]? = some d) (hk : H0[i]? = some k) :
    Calls Try.prog 47 #[.int .u64 (d : Int)] w fun e w' => e = .returned (.int .u32 (wi k)) ∧ Below w.heap.size w w' := by
  have h := zip_at okS _ _ squares i d k hd hk
  unfold okS at h
  rw [Bool.and_eq_true, decide_eq_true_eq] at h
  have hc := square_any (BitVec.ofNat 64 d) w h.1
  rw [qi_of d (prim_small i d hd)] at hc
  refine hc.mono fun e w' ⟨he, hb⟩ => ⟨?_, hb⟩
  rw [he, ← eq_of_beq h.2]; rfl

/-- what has been laid of 8 words -/
def part8 (ws : List Wd) : List Value := ws.map wv ++ List.replicate (8 - ws.length) (wv 0)
theorem part8_set (ws : List Wd) (x : Wd) (h : ws.length < 8) : (part8 ws).set ws.length (wv x) = part8 (ws ++ [x]) := by
  obtain ⟨k, hk⟩ : ∃ k, 8 - ws.length = k + 1 := ⟨7 - ws.length, by omega⟩
  have h2 : 8 - (ws ++ [x]).length = k := by simp; omega
  unfold part8
  rw [h2, hk, List.replicate_succ, List.set_append_right _ _ (by simp), List.map_append]
  simp
theorem part8_hole (ws : List Wd) (h : ws.length < 8) : (part8 ws)[ws.length]? = some (.int .u32 (wi 0)) := by
  unfold part8
  rw [List.getElem?_append_right (by simp), List.getElem?_replicate_of_lt (by simp; omega)]; rfl
theorem part8_full (ws : List Wd) (h : ws.length = 8) : part8 ws = ws.map wv := by
  unfold part8; rw [h]; simp

set_option maxRecDepth 100000 in
set_option maxHeartbeats 4000000 in
theorem refSum_any (l : List UInt8) (w : World) (hl : l.length ≤ 1000000000) :
    Calls Try.prog 30 #[.string (bs l)] w fun e w' => e = .returned (.string (bs (sha l))) ∧ Below w.heap.size w w' := by
  have hpr := fun w => primes_any w prim_64 prim_63
  have PR := Lib.hid hpr
  have HL := Lib.hid hl
  clear hpr hl
  go_enter Try.func30, Try.ntmps30
  go_wp2_with fail
  refine (PR.out _).mono ?_
  rintro e w1 ⟨g, cap, rfl, hO, hB⟩
  have hg := hO.lt g rfl
  have hbg := hB.size
  have HO := Lib.hid hO
  have HB := Lib.hid hB
  clear hO hB
  go_wp2
  have hz : ∀ c1 c2, ((w1.alloc (.cells c1 42)).alloc (.cells c2 44)).heap.size = w1.heap.size + 2 := fun c1 c2 => by simp
  have hstart : ∀ c1 c2, c1.toList = part8 [] → c2.toList = part [] → At ((w1.alloc (.cells c1 42)).alloc (.cells c2 44)) w1.heap.size 42 (part8 []) ∧ At ((w1.alloc (.cells c1 42)).alloc (.cells c2 44)) (w1.heap.size + 1) 44 (part []) := fun c1 c2 h1 h2 =>
    ⟨by rw [← h1]; exact (At.new _ _ _).alloc _, by rw [← h2]; exact At.new1 _ _ _ _⟩
  obtain ⟨n1, hn1⟩ : ∃ n1, n1 = w1.heap.size := ⟨_, rfl⟩
  go_loopw [6] (fun s wx => ∃ i : Nat, i ≤ 64 ∧ s = .int .i64 i ∧ At wx w1.heap.size 42 (part8 (H0.take i)) ∧ At wx (w1.heap.size + 1) 44 (part (K0.take i)) ∧ Own1 wx w.heap.size 68 (some ⟨g, 0, none⟩) cap ((prim 310).map qv) ∧ Below w.heap.size w wx) (fun s _ => 64 - (intOf s).toNat)
  case atStart =>
    obtain ⟨h1, h2⟩ := hstart _ _ rfl rfl
    exact ⟨0, by omega, rfl, h1, h2, (HO.out.alloc _).alloc _, (HB.out.alloc HB.out.size _).alloc (by simp; omega) _⟩
  clear hstart hz HO HB hn1
  case round =>
    obtain ⟨i, hi, rfl, hH, hK, hO, hB⟩ := hrel
    have HH := Lib.hid hH
    have HK := Lib.hid hK
    have HO := Lib.hid hO
    have HB := Lib.hid hB
    clear hH hK hO hB
    by_cases hlt : i < 64
    · have h64 := prim_64
      obtain ⟨d, hd⟩ : ∃ d, (prim 310)[i]? = some d := ⟨_, List.getElem?_eq_getElem (by omega)⟩
      obtain ⟨k, hk⟩ : ∃ k, K0[i]? = some k := ⟨_, List.getElem?_eq_getElem (show i < K0.length from hlt)⟩
      have hcp : wr.cell? ⟨g, i, none⟩ = some (.int .u64 (d : Int)) := by
        obtain ⟨g', hg', _, _, hc⟩ := HO.out.at i (by rw [List.length_map, h64]; exact hlt)
        cases hg'
        rw [hc]
        obtain ⟨h1, h2⟩ := List.getElem?_eq_some_iff.1 hd
        rw [List.getElem_map, h2]; rfl
      have hKs : K0.take (i + 1) = K0.take i ++ [k] := by
        obtain ⟨h1, h2⟩ := List.getElem?_eq_some_iff.1 hk
        rw [List.take_succ_eq_append_getElem h1, h2]
      have hKl : (K0.take i).length = i := by rw [List.length_take]; have : K0.length = 64 := rfl; omega
      have hps := part_set (K0.take i) k (by omega)
      rw [hKl, ← hKs] at hps
      have KS := Lib.hid hps
      have hcube := fun w => cubeK i d k w hd hk
      have CU := Lib.hid hcube
      have i1 : (i : Int) < 64 := by omega
      have gl := HO.out.lt g rfl
      clear h64 hKs hps hcube
      by_cases h8 : i < 8
      · obtain ⟨hh, hhk⟩ : ∃ hh, H0[i]? = some hh := ⟨_, List.getElem?_eq_getElem (show i < H0.length from h8)⟩
        have hHs : H0.take (i + 1) = H0.take i ++ [hh] := by
          obtain ⟨h1, h2⟩ := List.getElem?_eq_some_iff.1 hhk
          rw [List.take_succ_eq_append_getElem h1, h2]
        have hHl : (H0.take i).length = i := by rw [List.length_take]; have : H0.length = 8 := rfl; omega
        have hps8 := part8_set (H0.take i) hh (by omega)
        rw [hHl, ← hHs] at hps8
        have HS8 := Lib.hid hps8
        have hsq := fun w => squareK i d hh w hd hhk
        have SQ := Lib.hid hsq
        have HD := Lib.hid hd
        clear hHs hps8 hsq hd hk hhk
        go_wp2_with fail
        refine (CU.out _).mono ?_
        rintro e w2 ⟨rfl, b2⟩
        have hp2 := (HK.out.below b2 HK.out.lt).cell i _ (by have := part_hole (K0.take i) (by omega); rwa [hKl] at this)
        have hf2 := (HK.out.below b2 HK.out.lt).frozen i
        have hcp2 := (b2.cell (p := ⟨g, i, none⟩) gl).trans hcp
        have B2 := Lib.hid b2
        clear b2 hcp
        have hA3 : At (w2.setCell ⟨w1.heap.size + 1, i, none⟩ (wv k)) (w1.heap.size + 1) 44 (part (K0.take (i + 1))) := by
          have h := (HK.out.below B2.out HK.out.lt).setCell i (wv k)
          rw [KS.out] at h
          exact h
        have hA8 : At (w2.setCell ⟨w1.heap.size + 1, i, none⟩ (wv k)) w1.heap.size 42 (part8 (H0.take i)) := (HH.out.below B2.out HH.out.lt).setCell_ne _ _ (by simp)
        have hOO : Own1 (w2.setCell ⟨w1.heap.size + 1, i, none⟩ (wv k)) w.heap.size 68 (some ⟨g, 0, none⟩) cap ((prim 310).map qv) :=
          (HO.out.below B2.out (fun g' e => HO.out.lt g' e)).below ((Below.refl (w1.heap.size) w2).setCell (p := ⟨w1.heap.size + 1, i, none⟩) (by simp) (wv k)) (fun g' e => by cases e; exact hg)
        have hBB : Below w.heap.size w (w2.setCell ⟨w1.heap.size + 1, i, none⟩ (wv k)) := (HB.out.trans (B2.out.mono HB.out.size)).setCell (p := ⟨_, _, none⟩) (by show w.heap.size ≤ w1.heap.size + 1; omega) _
        have A3 := Lib.hid hA3
        have A8 := Lib.hid hA8
        have OO := Lib.hid hOO
        have BB := Lib.hid hBB
        clear hA3 hA8 hOO hBB
        have i8 : (i : Int) < 8 := by omega
        go_wp2_with fail
        refine (SQ.out _).mono ?_
        rintro e w3 ⟨rfl, b3⟩
        have hp3 := (A8.out.below b3 A8.out.lt).cell i _ (by have := part8_hole (H0.take i) (by omega); rwa [hHl] at this)
        have hf3 := (A8.out.below b3 A8.out.lt).frozen i
        have B3 := Lib.hid b3
        clear b3
        go_wp2
        go_roundw
        case rel =>
          refine ⟨i + 1, by omega, by go_num, ?_, (A3.out.below B3.out A3.out.lt).setCell_ne _ _ (by simp), ?_, (BB.out.trans (B3.out.mono BB.out.size)).setCell (p := ⟨_, _, none⟩) (by show w.heap.size ≤ w1.heap.size; omega) _⟩
          · have h := (A8.out.below B3.out A8.out.lt).setCell i (wv hh)
            rw [HS8.out] at h
            exact h
          · exact (OO.out.below B3.out (fun g' e => OO.out.lt g' e)).below ((Below.refl (w1.heap.size) w3).setCell (p := ⟨w1.heap.size, i, none⟩) (by simp) (wv hh)) (fun g' e => by cases e; exact hg)
        case measure => simp [intOf]; omega
      · have hHs : H0.take (i + 1) = H0.take i := by
          have : H0.length = 8 := rfl
          rw [List.take_of_length_le (by omega), List.take_of_length_le (by omega)]
        have HS := Lib.hid hHs
        clear hHs hd hk
        have i8 : ¬ ((i : Int) < 8) := by omega
        go_wp2_with fail
        refine (CU.out _).mono ?_
        rintro e w2 ⟨rfl, b2⟩
        have hp2 := (HK.out.below b2 HK.out.lt).cell i _ (by have := part_hole (K0.take i) (by omega); rwa [hKl] at this)
        have hf2 := (HK.out.below b2 HK.out.lt).frozen i
        have B2 := Lib.hid b2
        clear b2 hcp
        go_wp2
        go_roundw
        case rel =>
          refine ⟨i + 1, by omega, by go_num, ?_, ?_, ?_, (HB.out.trans (B2.out.mono HB.out.size)).setCell (p := ⟨_, _, none⟩) (by show w.heap.size ≤ w1.heap.size + 1; omega) _⟩
          · rw [HS.out]
            exact (HH.out.below B2.out HH.out.lt).setCell_ne _ _ (by simp)
          · have h := (HK.out.below B2.out HK.out.lt).setCell i (wv k)
            rw [KS.out] at h
            exact h
          · exact (HO.out.below B2.out (fun g' e => HO.out.lt g' e)).below ((Below.refl (w1.heap.size) w2).setCell (p := ⟨w1.heap.size + 1, i, none⟩) (by simp) (wv k)) (fun g' e => by cases e; exact hg)
        case measure => simp [intOf]; omega
    · obtain rfl : i = 64 := by omega
      have hK0 : part (K0.take 64) = K0.map wv := by rw [List.take_of_length_le (by decide)]; exact part_full _ rfl
      have hH0 : part8 (H0.take 64) = H0.map wv := by rw [List.take_of_length_le (by decide)]; exact part8_full _ rfl
      rw [hK0] at HK
      rw [hH0] at HH
      clear hK0 hH0 HO
      go_wp2_with fail
      refine (padded_any l _ (by have := HL.out; omega)).mono ?_
      rintro e w2 ⟨rfl, b2⟩
      have aH := HH.out.below b2 HH.out.lt
      have aK := HK.out.below b2 HK.out.lt
      have bB := HB.out.trans (b2.mono HB.out.size)
      have HH := Lib.hid aH
      have HK := Lib.hid aK
      have HB := Lib.hid bB
      clear b2 aH aK bB
      have hfl := full_len l
      have hnb : (full l).length ≤ 1000000200 := by
        have := HL.out
        rw [full, List.length_append, pad_len]; unfold noughts; omega
      go_wp2
      go_loopw [8] (fun s wx => ∃ i : Nat, i ≤ nblk l ∧ s = .int .i64 ((64 * i : Nat) : Int) ∧ At wx w1.heap.size 42 ((after ((blks l).take i)).map wv) ∧ At wx (w1.heap.size + 1) 44 (K0.map wv) ∧ Below w.heap.size w wx) (fun s _ => (full l).length - (intOf s).toNat)
      case atStart => exact ⟨0, by omega, rfl, HH.out, HK.out, HB.out⟩
      case round =>
        obtain ⟨i, hi, rfl, hH, hK, hB⟩ := hrel
        have HH := Lib.hid hH
        have HK := Lib.hid hK
        have HB := Lib.hid hB
        clear hH hK hB
        by_cases hlt : i < nblk l
        · have hbt := blks_take l i hlt
          have hal := after_len ((blks l).take i)
          have hsn := after_snoc ((blks l).take i) (blk l i)
          rw [← hbt] at hsn
          have hblk := blk_len l i hlt
          have hblkE : blk l i = ((full l).drop (64 * i)).take 64 := rfl
          have SN := Lib.hid hsn
          have hbk := fun w => block_any (after ((blks l).take i)) K0 (blk l i) w hal hblk rfl
          have BK := Lib.hid hbk
          have hi31 : (Try.prog.info? 42).map (·.size) = some ((after ((blks l).take i)).map wv).length := by rw [List.length_map, hal]; kernel_rfl
          have hi33 : (Try.prog.info? 44).map (·.size) = some (K0.map wv).length := by kernel_rfl
          have I31 := Lib.hid hi31
          have I33 := Lib.hid hi33
          have hal2 := after_len ((blks l).take (i + 1))
          have hc2 : (Try.prog.info? 42).map (·.size) = some ((after ((blks l).take (i + 1))).map wv).toArray.size := by rw [List.size_toArray, List.length_map, hal2]; kernel_rfl
          have C2 := Lib.hid hc2
          have L1 := Lib.hid hal
          have L2 := Lib.hid hal2
          have LB := Lib.hid hblkE
          have hcond : 64 * (i : Int) < (full l).length := by omega
          clear hbt hal hsn hblk hbk hi31 hi33 hal2 hc2 hblkE
          go_wp2
          refine region_any (Below wr.heap.size wr) 8 (by kernel_rfl) ?_
          have b0 : Below wr.heap.size wr { wr with drawn := wr.drawn + 1 } := (Below.refl _ wr).drew
          refine wpAnyT_take (i := 0) rfl rfl (by kernel_rfl) (by kernel_rfl) (by kernel_rfl) (by kernel_rfl) (fun _ _ _ h => h) (yieldsIf_load_mid (by kernel_rfl) 42 _ rfl w1.heap.size 0 (by kernel_rfl) _ _ (fun w hw => (HH.out.below hw HH.out.lt).range) Try.underlying42 rfl I31.out) b0 ?_
          refine wpAnyT_take (i := 1) (v := .string (bs (full l))) rfl rfl (by kernel_rfl) (by kernel_rfl) (by kernel_rfl) (by kernel_rfl) (fun _ _ _ h => h) (.inl ⟨by kernel_rfl, fun w _ => by kernel_rfl⟩) b0 ?_
          refine wpAnyT_take (i := 2) (v := .int .i64 (64 * (i : Int))) rfl rfl (by kernel_rfl) (by kernel_rfl) (by kernel_rfl) (by kernel_rfl) (fun _ _ _ h => h) (.inl ⟨by kernel_rfl, fun w _ => by kernel_rfl⟩) b0 ?_
          refine wpAnyT_take (i := 3) (v := .int .i64 (64 * (i : Int))) rfl rfl (by kernel_rfl) (by kernel_rfl) (by kernel_rfl) (by kernel_rfl) (fun _ _ _ h => h) (.inl ⟨by kernel_rfl, fun w _ => by kernel_rfl⟩) b0 ?_
          refine wpAnyT_take (i := 4) rfl rfl (by kernel_rfl) (by kernel_rfl) (by kernel_rfl) (by kernel_rfl) (fun _ _ _ h => h) (.inl ⟨by kernel_rfl, fun w _ => run_add64 _ _ rfl rfl (64 * (i : Int)) 64 (64 * (i : Int) + 64) (by kernel_rfl) (by kernel_rfl) (by rw [IntKind.wrap_i64]; omega)⟩) b0 ?_
          refine wpAnyT_take (i := 5) rfl rfl (by kernel_rfl) (by kernel_rfl) (by kernel_rfl) (by kernel_rfl) (fun _ _ _ h => h) (.inl ⟨by kernel_rfl, fun w _ => run_slice_str _ _ _ rfl (full l) (64 * i) (64 * i + 64) (64 * (i : Int)) (64 * (i : Int) + 64) (by kernel_rfl) (by kernel_rfl) (by kernel_rfl) (by omega) (by omega) (by omega) (by omega)⟩) b0 ?_
          refine wpAnyT_take (i := 6) rfl rfl (by kernel_rfl) (by kernel_rfl) (by kernel_rfl) (by kernel_rfl) (fun _ _ _ h => h) (yieldsIf_load_mid (by kernel_rfl) 44 _ rfl (w1.heap.size + 1) 0 (by kernel_rfl) _ _ (fun w hw => (HK.out.below hw HK.out.lt).range) Try.underlying44 rfl I33.out) b0 ?_
          rw [show ((full l).drop (64 * i)).take (64 * i + 64 - 64 * i) = blk l i by rw [LB.out, show 64 * i + 64 - 64 * i = 64 by omega]]
          refine wpAnyT_all (rs := [7]) (by kernel_rfl) (by simp) ?_
          intro j hj
          obtain rfl : j = 7 := by simpa using hj
          refine wpOp_call rfl (by kernel_rfl) 49 #[.agg ((after ((blks l).take i)).map wv).toArray, .string (bs (blk l i)), .agg (K0.map wv).toArray] (run_call_func rfl (enters_of Try.func49 (by kernel_rfl) rfl) _ (by kernel_rfl)) ?_
          refine (BK.out _).mono ?_
          rintro e w4 ⟨rfl, b4⟩
          have b4' := b0.trans b4
          refine ⟨_, rfl, fun _ => b4', ?_⟩
          refine wpAnyT_all (rs := [8]) (by kernel_rfl) (by simp) ?_
          intro j hj
          obtain rfl : j = 8 := by simpa using hj
          rw [← SN.out]
          have aS := HH.out.below b4' HH.out.lt
          have aK := HK.out.below b4' HK.out.lt
          refine wpOp_skip rfl (by kernel_rfl) (run_store_row 42 _ _ rfl w1.heap.size ((after ((blks l).take (i + 1))).map wv).toArray (by kernel_rfl) (by kernel_rfl) _ aS C2.out (by rw [List.size_toArray, List.length_map, List.length_map, L1.out, L2.out]) (all_oneCell_toArray (wv_one _))) ?_
          refine ⟨fun h => absurd rfl h, wpAnyT_done (by kernel_rfl) ?_ _⟩
          have aS2 := aS.setRow' ((after ((blks l).take (i + 1))).map wv)
          have aK2 := aK.setRow_ne (B' := w1.heap.size) ((after ((blks l).take (i + 1))).map wv).toArray (by omega)
          have bB2 := below_setRow' (HB.out.trans (b4'.mono HB.out.size)) w1.heap.size (by omega) ((after ((blks l).take (i + 1))).map wv).toArray
          have AS := Lib.hid aS2
          have AK := Lib.hid aK2
          have BB := Lib.hid bB2
          clear aS aK aS2 aK2 bB2 b4 b4' b0
          generalize World.setRow w4 _ _ = w5 at *
          have hL8 := L1.out
          go_wp2
          go_roundw
          case rel => exact ⟨i + 1, by omega, by congr 1, AS.out, AK.out, BB.out⟩
          case measure => simp [intOf]; omega
        · obtain rfl : i = nblk l := by omega
          have htake : (blks l).take (nblk l) = blks l := List.take_of_length_le (by simp [blks])
          rw [htake] at HH
          have hcond : ¬ (64 * (nblk l : Int) < (full l).length) := by omega
          have hal := after_len (blks l)
          obtain ⟨i5, hi5, hz0, hz1, hz2⟩ := info_parts info5
          have hmk : ∀ w, (Instr.makeSlice 24 (.int .i64 0) (.int .i64 32)).run Try.prog w = .ok (.slice (some ⟨w.heap.size, 0, none⟩) 0 32) (w.alloc (.cells (madeCells #[.int .u8 0] 32) 5)) := fun w => by
            have := run_make (P := Try.prog) w 24 5 i5 (.int .u8 0) Try.underlying24 hi5 hz0 .i64 .i64 0 32 (by omega) (by omega) (by rw [hz2]; omega) (by omega)
            rw [this, hz1]; rfl
          have hsha : sha l = bytes (after (blks l)) := rfl
          have SHA := Lib.hid hsha
          have HI := Lib.hid hi5
          have HZ := Lib.hid hz1
          have hmr := Room.made wr 32 (.int .u8 0) 5 (by decide)
          generalize madeCells #[.int .u8 0] 32 = mc at *
          have MR := Lib.hid hmr
          generalize after (blks l) = hs at *
          clear htake hsha hi5 hz0 hz1 hz2 hmr
          have h1lt := HH.out.lt
          have hwle := HB.out.size
          go_wp2
          go_loopw [10, 9] (fun s v wx => ∃ j : Nat, j ≤ 8 ∧ s = .int .i64 j ∧ v = .slice (some ⟨wr.heap.size, 0, none⟩) (j * 4) 32 ∧ Room wx wr.heap.size 5 32 ((bytes (hs.take j)).map bv) ∧ At wx w1.heap.size 42 (hs.map wv) ∧ Below w.heap.size w wx) (fun s _ _ => 8 - (intOf s).toNat)
          case atStart => exact ⟨0, by omega, rfl, by simp, by simpa [bytes] using MR.out, HH.out.alloc _, HB.out.alloc HB.out.size _⟩
          clear hmk MR
          case round =>
            obtain ⟨j, hj, rfl, rfl, hR, hA, hB⟩ := hrel
            have HR := Lib.hid hR
            have HA := Lib.hid hA
            have HB := Lib.hid hB
            clear hR hA hB
            by_cases hlt : j < 8
            · have hc := HA.out.cell j _ (wv_get hs j (by omega))
              have hca := fun o => ((HA.out.alloc o).drew).cell j _ (wv_get hs j (by omega))
              have HX := Lib.hid (bytes_take hs j (by omega))
              have HX := HX.out
              generalize hs[j]?.getD 0 = x at hc hca HX
              have HX := Lib.hid HX
              have hbl : (bytes (hs.take j)).length = j * 4 := by rw [bytes_len, List.length_take]; omega
              have j8 : (j : Int) < 8 := by omega
              have HCA := Lib.hid hca
              clear hca
              have HRd := HR.out.drew
              have HRq := Lib.hid HRd
              clear HRd
              go_wp2
              go_region_held3 (fun w' => w'.cell? ⟨w1.heap.size, j, none⟩ = some (.int .u32 (wi x))) (first | exact hc | exact HCA.out _ | exact cell_only (HCA.out _) (by assumption) (by show w1.heap.size ≠ _; omega) | simp [hc]) (first | (refine step_room rfl _ _ 24 rfl 5 i5 Try.underlying24 HI.out HZ.out _ _ _ rfl _ (by rw [List.length_map, hbl]) (HRq.out.alloc _) _ 4 4 rfl _ (At.new _ _ _) rfl (bv_one4 x) (by omega) ?_; intro w4 R4 O4))
              all_goals
                go_wp2
                go_roundw
                case rel => exact ⟨j + 1, by omega, by go_num, by go_num, by rw [HX.out, List.map_append]; exact R4, At.only (by first | exact (HA.out.alloc _).drew | exact HA.out.drew.alloc _) O4 (by omega), Below.then (by first | exact (HB.out.alloc HB.out.size _).drew | exact HB.out.drew.alloc HB.out.size _) O4 hwle⟩
                case measure => simp [intOf]; omega
            · obtain rfl : j = 8 := by omega
              have hR := HR.out
              rw [List.take_of_length_le (by omega), ← SHA.out] at hR
              have hcv := conv_room (P := Try.prog) 24 9 5 (sha l) hR Try.underlying24 Try.underlying5 Try.underlying9 32 (sha_len l)
              clear hR
              go_wp2
              go_ret
              exact ⟨rfl, HB.out⟩
end Go.Proofs.Ytffpmdgchpcaaaa
