/- The sum. -/
import Derived.Test.YtffpmdgchpcaaaaSf
import Derived.Test.YtffpmdgchpcaaaaSk
import Derived.Test.YtffpmdgchpcaaaaSn
namespace Go.Proofs.Ytffpmdgchpcaaaa
open Go.RowKit Go.Shelf
attribute [local go_sem] Oper.semAt_some bs_size bs_append

/-- the eight words behind some blocks -/
def after (bs : List (List UInt8)) : List Wd := bs.foldl (fun st b => comp K0 (sched b) st) H0
theorem after_len (l : List (List UInt8)) : (after l).length = 8 := by
  have : ∀ (l : List (List UInt8)) (st : List Wd), st.length = 8 → (l.foldl (fun st b => comp K0 (sched b) st) st).length = 8 := by
    intro l
    induction l with
    | nil => intro st h; exact h
    | cons b l ih => intro st h; exact ih _ (comp_len _ _ _ h)
  exact this l H0 rfl
theorem after_snoc (l : List (List UInt8)) (b : List UInt8) : after (l ++ [b]) = comp K0 (sched b) (after l) := by
  simp [after]
/-- the sum -/
def sha (l : List UInt8) : List UInt8 := bytes (after (blks l))
theorem sha_len (l : List UInt8) : (sha l).length = 32 := by rw [sha, bytes_len, after_len]

set_option maxRecDepth 100000 in
set_option maxHeartbeats 2000000 in
theorem sum_any (l : List UInt8) (w : World) (hl : l.length ≤ 1152921504606846976) :
    Calls Try.prog 11 #[.string (bs l)] w fun e w' => e = .returned (.string (bs (sha l))) ∧ Below w.heap.size w w' := by
  refine (callsIn_wide (n := 10)).1 ?_
  refine callsIn_of_wp_marks Try.func11 rfl trivial ?_ rfl
  simp only [Try.ntmps11, List.size_toArray, List.length_cons, List.length_nil, Nat.reduceAdd, Nat.reduceSub, Array.replicate_succ, Array.replicate_zero, List.push_toArray, List.append_toArray, List.nil_append, List.cons_append]
  refine wpIn_wide.2 ?_
  go_wp2_with fail
  refine (firstWords_any _).mono ?_
  rintro e w1 ⟨rfl, b1⟩
  have B1 := Lib.hid b1
  clear b1
  go_wp2_with fail
  refine (constants_any _).mono ?_
  rintro e w2 ⟨rfl, b2⟩
  have B2 := Lib.hid b2
  clear b2
  have hH : (Try.prog.info? 42).map (·.size) = some (H0.map wv).toArray.size := by kernel_rfl
  have hK : (Try.prog.info? 44).map (·.size) = some (K0.map wv).toArray.size := by kernel_rfl
  have oH := all_oneCell_toArray (wv_one H0)
  have oK := all_oneCell_toArray (wv_one K0)
  have cH : (H0.map wv).toArray.size = 8 := rfl
  have cK : (K0.map wv).toArray.size = 64 := rfl
  generalize hH0 : (H0.map wv).toArray = AH at *
  generalize hK0 : (K0.map wv).toArray = AK at *
  have HH := Lib.hid hH
  have HK := Lib.hid hK
  have CH := Lib.hid cH
  have CK := Lib.hid cK
  have OH := Lib.hid oH
  have OK := Lib.hid oK
  have EH := Lib.hid hH0
  have EK := Lib.hid hK0
  clear hH hK cH cK oH oK hH0 hK0
  go_wp2_with (first | (refine store_at rfl 42 _ _ rfl _ _ rfl rfl _ ((At.new _ _ _).alloc _) HH.out (by simp [CH.out]) OH.out ?_) | (refine store_at rfl 44 _ _ rfl _ _ rfl rfl _ ((At.new1 _ _ _ _).setRow_ne _ (by simp)) HK.out (by simp [CK.out]) OK.out ?_; generalize hW0 : World.setRow (World.setRow _ _ _) _ _ = W0; have HW0 := Lib.hid hW0; clear hW0) | (go_at_call 26; refine (blocks_any _ _).mono ?_; rintro e w3 ⟨rfl, rfl⟩))
  obtain ⟨aS, aK, bB, zW⟩ := two_rows w2 W0 _ _ 42 44 (H0.map wv) (K0.map wv) (by rw [EH.out, EK.out]; exact HW0.out)
  clear HW0
  obtain ⟨n2, hn2⟩ : ∃ n2, n2 = w2.heap.size := ⟨_, rfl⟩
  rw [← hn2] at aS aK bB zW ⊢
  rw [zW]
  have aB : At (W0.alloc (.cells #[.string (bs l)] 9)) (n2 + 2) 9 [.string (bs l)] := by have h := At.new W0 #[.string (bs l)] 9; rw [zW] at h; exact h
  have aS1 := aS.alloc (.cells #[.string (bs l)] 9)
  have aK1 := aK.alloc (.cells #[.string (bs l)] 9)
  have bB1 : Below n2 w2 (W0.alloc (.cells #[.string (bs l)] 9)) := bB.alloc (by omega) _
  have zW1 : (W0.alloc (.cells #[.string (bs l)] 9)).heap.size = n2 + 3 := by rw [World.size_alloc, zW]
  clear aS aK bB zW
  generalize W0.alloc (.cells #[.string (bs l)] 9) = W1 at *
  have hn2' : n2 ≤ w2.heap.size := by omega
  have HN := Lib.hid hn2
  clear hn2
  refine (wpIn_wide (n := 10)).1 ?_
  refine wpIn_rangeFunc_ownF rfl (by omega) (gf := 42) (lb := #[.pointer (some ⟨n2 + 2, 0, none⟩)]) rfl trivial (enters_of Try.func42 (by kernel_rfl) rfl)
    (blocks_stops 9 (by omega) (n2 + 2) l W1 hl aB) (fun h k => k.trans h) (fun W k o o' hk h1 h2 h3 => World.putObj_heap_other (by omega)) (Below.refl _ _) (fun _ => rfl)
    (fun pre W => (At W n2 42 ((after (pre.map (·.1))).map wv) ∧ At W (n2 + 1) 44 (K0.map wv)) ∧ Below n2 w2 W ∧ n2 + 3 ≤ W.heap.size)
    (fun _ _ _ => False)
    (OwnFrom.and (OwnFrom.and (ownFrom_at (by omega) _) (ownFrom_at (by omega) _)) (OwnFrom.and (ownFrom_below (by omega) (by omega)) (fun s A B row hs hg _ => Nat.le_trans hs hg.size)))
    (fun _ _ _ _ _ hs _ _ => hs)
    ⟨⟨aS1, aK1⟩, bB1, by omega⟩
    (fun x => { tmps := #[.string (bs l), undef, .string ⟨#[]⟩, .pointer (some ⟨n2, 0, none⟩), .pointer (some ⟨n2 + 1, 0, none⟩), .string (bs x.1), .agg AH, .agg AK, .string (bs l), .func (.func 42) #[] #[.pointer (some ⟨n2 + 2, 0, none⟩)], .string (bs x.1), undef, undef, undef, undef, undef, undef, undef], defers := [] }) ?assign ?body ?done ?stop
  case assign =>
    intro k x W K hK
    gi_wp2
    exact hK
  case body =>
    rintro k pre x W ⟨⟨hS, hK⟩, hB, hz⟩ _
    have hal := after_len (pre.map (·.1))
    have hsn := after_snoc (pre.map (·.1)) x.1
    have hcl := comp_len K0 (sched x.1) _ hal
    have hadd := fun w => added_any (after (pre.map (·.1))) (sched x.1) K0 w hal (sched_len _) rfl
    have hi31 : (Try.prog.info? 42).map (·.size) = some ((after (pre.map (·.1))).map wv).length := by rw [List.length_map, hal]; kernel_rfl
    have hi33 : (Try.prog.info? 44).map (·.size) = some (K0.map wv).length := by kernel_rfl
    refine wpIn_block ?_
    refine region_round k _ (Below W.heap.size W) 5 ?_ (by kernel_rfl) ?_ ?_
    · rintro ⟨a, w, h⟩; exact h
    · exact noDefer (by kernel_rfl)
    have b0 : Below W.heap.size W { W with drawn := W.drawn + 1 } := (Below.refl _ W).drew
    refine wpAnyT_take (i := 0) rfl rfl (by kernel_rfl) (by kernel_rfl) (by kernel_rfl) (by kernel_rfl) (fun _ _ _ h => h) (yieldsIf_load_mid (by kernel_rfl) 42 _ rfl n2 0 rfl _ _ (fun w hw => (hS.below hw hS.lt).range) Try.underlying42 rfl hi31) b0 ?_
    refine wpAnyT_take (i := 1) rfl rfl (by kernel_rfl) (by kernel_rfl) (by kernel_rfl) (by kernel_rfl) (fun _ _ _ h => h) (.inl ⟨by kernel_rfl, fun w _ => rfl⟩) b0 ?_
    refine wpAnyT_take (i := 3) rfl rfl (by kernel_rfl) (by kernel_rfl) (by kernel_rfl) (by kernel_rfl) (fun _ _ _ h => h) (yieldsIf_load_mid (by kernel_rfl) 44 _ rfl (n2 + 1) 0 rfl _ _ (fun w hw => (hK.below hw hK.lt).range) Try.underlying44 rfl hi33) b0 ?_
    refine wpAnyT_all (rs := [2]) (by kernel_rfl) (by simp) ?_
    intro i hi
    obtain rfl : i = 2 := by simpa using hi
    refine wpOp_call rfl (by kernel_rfl) 28 #[.string (bs x.1)] (run_call_func rfl (enters_of Try.func28 (by kernel_rfl) rfl) _ (by kernel_rfl)) ?_
    refine (wordsOf_any x.1 _ x.2).mono ?_
    rintro e w4 ⟨rfl, b4⟩
    have b4' := b0.trans b4
    refine ⟨_, rfl, fun _ => b4', ?_⟩
    refine wpAnyT_all (rs := [4]) (by kernel_rfl) (by simp) ?_
    intro i hi
    obtain rfl : i = 4 := by simpa using hi
    refine wpOp_call rfl (by kernel_rfl) 27 #[.agg ((after (pre.map (·.1))).map wv).toArray, .agg ((sched x.1).map wv).toArray, .agg (K0.map wv).toArray] (run_call_func rfl (enters_of Try.func27 (by kernel_rfl) rfl) _ (by kernel_rfl)) ?_
    refine (hadd _).mono ?_
    rintro e w5 ⟨rfl, b5⟩
    have b5' := b4'.trans (b5.mono b4.size)
    refine ⟨_, rfl, fun _ => b5', ?_⟩
    refine wpAnyT_all (rs := [5]) (by kernel_rfl) (by simp) ?_
    intro i hi
    obtain rfl : i = 5 := by simpa using hi
    refine wpOp_skip rfl (by kernel_rfl) (run_store_row 42 _ _ rfl n2 ((comp K0 (sched x.1) (after (pre.map (·.1)))).map wv).toArray rfl rfl _ (hS.below b5' hS.lt) ?_ ?_ (all_oneCell_toArray (wv_one _))) ?_
    · rw [List.size_toArray, List.length_map, hcl]; kernel_rfl
    · rw [List.size_toArray, List.length_map, List.length_map, hcl, hal]
    have aS5 := hS.below b5' hS.lt
    have aK5 := hK.below b5' hK.lt
    refine ⟨fun h => absurd rfl h, wpAnyT_done (by kernel_rfl) ?_ _⟩
    refine ⟨(keepsOthers_below b5').trans (keepsOthers_setRow aS5 _), ?_, ⟨⟨?_, ?_⟩, ?_, ?_⟩⟩
    · have hlt : n2 + 2 < W.heap.size := by omega
      exact ((only_setRow w5 n2 _).block (n2 + 2) (Nat.lt_of_lt_of_le hlt b5'.size) (by omega)).trans (b5'.block _ hlt)
    · rw [List.map_append, List.map_cons, List.map_nil, hsn]
      exact aS5.setRow' _
    · exact aK5.setRow_ne _ (by omega)
    · exact below_setRow' (hB.trans (b5'.mono (by omega))) _ (Nat.le_refl _) _
    · have := (only_setRow w5 n2 ((comp K0 (sched x.1) (after (pre.map (·.1)))).map wv).toArray).size
      have := b5'.size
      omega
  case done =>
    rintro D ys W hD hys ⟨⟨hS, hK⟩, hB, hz⟩ hD2
    have hal := after_len (ys.map (·.1))
    have hbo := bytesOf_any (after (ys.map (·.1))) n2 42 W hS (by omega)
    rw [hal] at hbo
    have hys' : ys.map (·.1) = blks l := hys
    have hsh : bytes (after (ys.map (·.1))) = sha l := by rw [hys']; rfl
    rw [hsh] at hbo
    clear hys
    go_wp2_with (go_at_call 29; refine hbo.mono ?_; rintro e w6 ⟨rfl, b6⟩)
    have hDlt := (Array.getElem?_eq_some_iff.1 hD2).1
    have hK' : w6.heap[D]? = some (.deferred (some [])) := (b6.block D hDlt).trans hD2
    have s1 := B1.out.size
    have s2 := B2.out.size
    have hn2' := HN.out
    have c1 : Below w.heap.size w w2 := B1.out.trans (B2.out.mono s1)
    have c2 : Below w.heap.size w W := c1.trans (hB.mono (by omega))
    have c3 : Below w.heap.size w w6 := c2.trans (b6.mono (by omega))
    refine ⟨by simp, .inl ⟨_, _, rfl, run_takeDeferred hK', ?_⟩⟩
    exact ⟨_, results_tmp rfl _ _ _, rfl, c3.trans (belowK_b (w := W1) (by omega) w6 D _ _ hD hK' rfl rfl)⟩
  case stop =>
    rintro D c pre W _ _ h _
    exact h.elim
end Go.Proofs.Ytffpmdgchpcaaaa
