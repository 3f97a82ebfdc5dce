/- The walk of over: what a fate leaves of a write. -/
import Derived.Test.YtcgjkopdnhkdiaaDi
namespace Go.Proofs.Ytcgjkopdnhkdiaa
open Go.RowKit
set_option maxRecDepth 100000

/-- how many bytes of a write stay -/
def stay (f : Nat) : Nat := if f < 64 then 0 else if f < 128 then 128 else f - 127
def over (b was : List UInt8) (f : Nat) : List UInt8 := b.take (stay f) ++ was.drop (stay f)
theorem stay_le (f : Nat) (h : f < 256) : stay f ≤ 128 := by unfold stay; split <;> (try split) <;> omega
theorem over_len (b was : List UInt8) (f : Nat) (h : f < 256) (hb : b.length = 128) (hw : was.length = 128) : (over b was f).length = 128 := by
  have := stay_le f h
  unfold over; rw [List.length_append, List.length_take, List.length_drop]; omega
def zs : Array Value := ((List.replicate 128 (0 : UInt8)).map bv).toArray
theorem zs_len : zs.toList.length = 128 := by unfold zs; rw [List.toList_toArray, List.length_map, List.length_replicate]
theorem zero_sector : ∀ w, (zeroValue 74).run Try.prog w = .ok (.agg zs) w := fun _ => by kernel_rfl

/-- the blocks of over -/
structure Ov (w w3 : World) (b : Nat) (x : Nat × List UInt8) (was : List UInt8) : Prop where
  a : At w3 b 78 (wcell x)
  c : At w3 (b + 1) 74 (was.map bv)
  r : At w3 (b + 1 + 1) 74 zs.toList
  u : Below b w w3
theorem Ov.made (w : World) (x : Nat × List UInt8) (was : List UInt8) : Ov w (((w.alloc (.cells (wcell x).toArray 78)).alloc (.cells (was.map bv).toArray 74)).alloc (.cells zs 74)) w.heap.size x was := by
  refine ⟨?_, ?_, ?_, (((Below.refl _ w).alloc (Nat.le_refl _) _).alloc (by simp) _).alloc (by simp; omega) _⟩
  · have := ((At.new w (wcell x).toArray 78).alloc (.cells (was.map bv).toArray 74)).alloc (.cells zs 74)
    rwa [List.toList_toArray] at this
  · have := (At.new (w.alloc (.cells (wcell x).toArray 78)) (was.map bv).toArray 74).alloc (.cells zs 74)
    rwa [World.size_alloc, List.toList_toArray] at this
  · have := At.new ((w.alloc (.cells (wcell x).toArray 78)).alloc (.cells (was.map bv).toArray 74)) zs 74
    rwa [World.size_alloc, World.size_alloc] at this

/-- a whole sector over another one -/
theorem At.whole {w : World} {B : Nat} {T : TypeId} {l c : List Value} (h : At w B T l) (hc : l.length = c.length) : At (w.setCells B 0 c) B T c := by
  have := h.setCells c 0 _ _ (by omega)
  rwa [splice_whole _ _ hc] at this

set_option maxRecDepth 100000 in
set_option maxHeartbeats 4000000 in
theorem over_lost (w : World) (x : Nat × List UInt8) (was : List UInt8) (f : Nat) (f1 : f < 64) (hx : x.2.length = 128) (hw : was.length = 128) :
    Calls Try.prog 45 #[.agg (wcell x).toArray, .agg (was.map bv).toArray, .int .u8 (f : Int)] w fun e w' => e = .returned (.agg (was.map bv).toArray) ∧ Below w.heap.size w w' := by
  have hO := Ov.made w x was
  have s1 : (wcell x).toArray.size = 129 := by rw [List.size_toArray]; exact wcell_len x hx
  have s2 : (was.map bv).toArray.size = 128 := by rw [List.size_toArray, List.length_map]; exact hw
  have hl : (was.map bv).length = 128 := by rw [List.length_map]; exact hw
  have hone := all_oneCell_toArray (bv_one was)
  have hth := hO.r.there 0 128 (by rw [zs_len]; omega)
  have hr := hO.r.whole (c := was.map bv) (by rw [zs_len, hl])
  have hB := hO.u
  have hrg := hO.c.range0
  have S2 := Lib.hid s2
  have HL := Lib.hid hl
  have HN := Lib.hid hone
  have HTH := Lib.hid hth
  have HR := Lib.hid hr
  have HU := Lib.hid hB
  have HG := Lib.hid hrg
  clear hO s1 s2 hx hw hl hone hth hr hB hrg
  have d1 : decide (f < 64) = true := by simpa using f1
  have d2 : decide ((f : Int) < 64) = true := by simp; omega
  go_enter Try.func45, Try.ntmps45
  go_wp2_with (first | (with_reducible refine alloc_agg rfl 74 rfl zs zero_sector ?_) | (with_reducible refine wpList_load_mid rfl 74 (.tmp 4) rfl (w.heap.size + 1) 0 (by kernel_rfl) (was.map bv) _ HG.out Try.underlying74 rfl (by rw [HL.out]; exact info_sector) ?_) | (with_reducible refine wpList_store_mid rfl 74 (.tmp 6) (.tmp 19) rfl (w.heap.size + 1 + 1) 0 (was.map bv).toArray (by kernel_rfl) (by kernel_rfl) (by rw [S2.out]; exact HTH.out) (by rw [S2.out]; exact info_sector) HN.out ?_))
  (try simp only [Exit.inBlock, Exit.then])
  refine bodyPost_ret (v := .agg (was.map bv).toArray) ?_ rfl ⟨rfl, (Touch.setCells (ft := []) (u := w) (w.heap.size + 1 + 1) (.inr (by omega)) _ _ _ (Touch.of_below HU.out)).below (S := w.heap.size) (Below.refl _ _) (by simp) (Nat.le_refl _)⟩
  exact results_cell_row (fn := Try.f45) (p := 6) (ty := 74) rfl _ _ (w.heap.size + 1 + 1) 74 (was.map bv).toArray (0, 0) _ rfl HR.out Try.underlying74 rfl (by rw [S2.out]; exact info_sector)

set_option maxRecDepth 100000 in
set_option maxHeartbeats 4000000 in
theorem over_all (w : World) (x : Nat × List UInt8) (was : List UInt8) (f : Nat) (f1 : 64 ≤ f) (f2 : f < 128) (hx : x.2.length = 128) (hw : was.length = 128) :
    Calls Try.prog 45 #[.agg (wcell x).toArray, .agg (was.map bv).toArray, .int .u8 (f : Int)] w fun e w' => e = .returned (.agg ((over x.2 was f).map bv).toArray) ∧ Below w.heap.size w w' := by
  obtain ⟨m, hm⟩ : ∃ m, m = 128 := ⟨_, rfl⟩
  have hst : stay f = m := by rw [hm]; unfold stay; rw [if_neg (by omega), if_pos f2]
  have hm1 : 1 ≤ m := by omega
  have hm2 : m ≤ 128 := by omega
  have hO := Ov.made w x was
  have hol : (over x.2 was f).length = 128 := by unfold over; rw [hst, List.length_append, List.length_take, List.length_drop]; omega
  have s2 : ((over x.2 was f).map bv).toArray.size = 128 := by rw [List.size_toArray, List.length_map]; exact hol
  have s3 : (was.map bv).toArray.size = 128 := by rw [List.size_toArray, List.length_map]; exact hw
  have hl : ((over x.2 was f).map bv).length = 128 := by rw [List.length_map]; exact hol
  have hone := all_oneCell_toArray (bv_one (over x.2 was f))
  have hxl : ((x.2.take m).map bv).length = m := by rw [List.length_map, List.length_take]; omega
  have hov : (was.map bv).take 0 ++ (x.2.take m).map bv ++ (was.map bv).drop (0 + m) = (over x.2 was f).map bv := by
    unfold over
    rw [hst, List.take_zero, List.nil_append, Nat.zero_add, List.map_append, List.map_drop]
  have HST := Lib.hid hst
  have S2 := Lib.hid s2
  have S3 := Lib.hid s3
  have HL := Lib.hid hl
  have HN := Lib.hid hone
  have HXL := Lib.hid hxl
  have HOV := Lib.hid hov
  have HO := Lib.hid hO
  have HX := Lib.hid hx
  clear hst hol s2 s3 hl hone hxl hov hO hx hw
  have d1 : decide ((f : Int) < 64) = false := by simp; omega
  have d3 : decide ((f : Int) < 128) = true := by simp; omega
  have e1 : IntKind.u8.wrap 128 = 128 := by decide
  subst hm
  clear f1 f2
  go_enter Try.func45, Try.ntmps45
  go_wp2_with (with_reducible refine alloc_agg rfl 74 rfl zs zero_sector ?_)
  generalize ((w.alloc (.cells (wcell x).toArray 78)).alloc (.cells (was.map bv).toArray 74)).alloc (.cells zs 74) = w3 at *
  refine wp_region_still_tail 5 (by kernel_rfl) (by kernel_rfl) ?_
  simp only [List.take_succ_cons, List.take_zero, List.drop_succ_cons, List.drop_zero]
  iterate 5 still_step
  refine wpStill_nil ?_
  change wpList _ _ _ _ _ w3.drew
  have hcp := run_copy_row (P := Try.prog) w3.drew 28 28 3 5 (w.heap.size + 1) 0 128 128 ⟨w.heap.size, 1, none⟩ 128 128 (was.map bv).toArray 74 ((x.2.take 128).map bv) Try.underlying28 (by kernel_rfl) HO.out.c.drew (by rw [HXL.out]; show 128 = min 128 128; omega)
    (fun j v hj => by
      rw [Addr.add_mid]
      refine HO.out.a.cell _ _ ?_
      have hj2 := (List.getElem?_eq_some_iff.1 hj).1
      rw [HXL.out] at hj2
      unfold wcell
      rw [Nat.add_comm, List.getElem?_cons_succ, ← hj, List.map_take, List.getElem?_take, if_pos hj2])
    (by rw [HXL.out, S3.out]; omega) (bv_one _)
  have a4 := HO.out.c.drew.setRow ((was.map bv).toArray.toList.take 0 ++ (x.2.take 128).map bv ++ (was.map bv).toArray.toList.drop (0 + ((x.2.take 128).map bv).length)).toArray
  rw [List.toList_toArray, List.toList_toArray, HXL.out, HOV.out] at a4
  rw [List.toList_toArray, HXL.out, HOV.out] at hcp
  have r4 := HO.out.r.drew.setRow_ne (B' := w.heap.size + 1) ((over x.2 was f).map bv).toArray (by omega)
  have t4 : Touch [] w (w3.drew.setRow (w.heap.size + 1) ((over x.2 was f).map bv).toArray) := (Touch.of_below HO.out.u.drew).setRow _ _ (.inr (by omega))
  have C4 := Lib.hid hcp
  have A4 := Lib.hid a4
  have R4 := Lib.hid r4
  have T4 := Lib.hid t4
  clear hcp a4 r4 t4
  generalize w3.drew.setRow (w.heap.size + 1) ((over x.2 was f).map bv).toArray = w4 at *
  have hrg := A4.out.range0
  have hth := R4.out.there 0 128 (by rw [zs_len]; omega)
  have hr := R4.out.whole (c := (over x.2 was f).map bv) (by rw [zs_len, HL.out])
  have HG := Lib.hid hrg
  have HTH := Lib.hid hth
  have HR := Lib.hid hr
  clear hrg hth hr
  go_wp2_with (first | (with_reducible refine list_val rfl (run_copy_op (.tmp 15) (.tmp 17) 28 28 rfl _ _ (by kernel_rfl) (by kernel_rfl) C4.out) ?_) | (with_reducible refine wpList_load_mid rfl 74 (.tmp 4) rfl (w.heap.size + 1) 0 (by kernel_rfl) ((over x.2 was f).map bv) _ HG.out Try.underlying74 rfl (by rw [HL.out]; exact info_sector) ?_) | (with_reducible refine wpList_store_mid rfl 74 (.tmp 6) (.tmp 19) rfl (w.heap.size + 1 + 1) 0 ((over x.2 was f).map bv).toArray (by kernel_rfl) (by kernel_rfl) (by rw [S2.out]; exact HTH.out) (by rw [S2.out]; exact info_sector) HN.out ?_))
  (try simp only [Exit.inBlock, Exit.then])
  refine bodyPost_ret (v := .agg ((over x.2 was f).map bv).toArray) ?_ rfl ⟨rfl, (Touch.setCells (ft := []) (u := w) (w.heap.size + 1 + 1) (.inr (by omega)) _ _ _ T4.out).below (S := w.heap.size) (Below.refl _ _) (by simp) (Nat.le_refl _)⟩
  exact results_cell_row (fn := Try.f45) (p := 6) (ty := 74) rfl _ _ (w.heap.size + 1 + 1) 74 ((over x.2 was f).map bv).toArray (0, 0) _ rfl HR.out Try.underlying74 rfl (by rw [S2.out]; exact info_sector)

set_option maxRecDepth 100000 in
set_option maxHeartbeats 4000000 in
theorem over_torn (w : World) (x : Nat × List UInt8) (was : List UInt8) (f : Nat) (f1 : 128 ≤ f) (f2 : f < 256) (hx : x.2.length = 128) (hw : was.length = 128) :
    Calls Try.prog 45 #[.agg (wcell x).toArray, .agg (was.map bv).toArray, .int .u8 (f : Int)] w fun e w' => e = .returned (.agg ((over x.2 was f).map bv).toArray) ∧ Below w.heap.size w w' := by
  obtain ⟨m, hm⟩ : ∃ m, m = f - 127 := ⟨_, rfl⟩
  have hst : stay f = m := by rw [hm]; unfold stay; rw [if_neg (by omega), if_neg (by omega)]
  have hm1 : 1 ≤ m := by omega
  have hm2 : m ≤ 128 := by omega
  have hO := Ov.made w x was
  have hol : (over x.2 was f).length = 128 := by unfold over; rw [hst, List.length_append, List.length_take, List.length_drop]; omega
  have s2 : ((over x.2 was f).map bv).toArray.size = 128 := by rw [List.size_toArray, List.length_map]; exact hol
  have s3 : (was.map bv).toArray.size = 128 := by rw [List.size_toArray, List.length_map]; exact hw
  have hl : ((over x.2 was f).map bv).length = 128 := by rw [List.length_map]; exact hol
  have hone := all_oneCell_toArray (bv_one (over x.2 was f))
  have hxl : ((x.2.take m).map bv).length = m := by rw [List.length_map, List.length_take]; omega
  have hov : (was.map bv).take 0 ++ (x.2.take m).map bv ++ (was.map bv).drop (0 + m) = (over x.2 was f).map bv := by
    unfold over
    rw [hst, List.take_zero, List.nil_append, Nat.zero_add, List.map_append, List.map_drop]
  have HST := Lib.hid hst
  have S2 := Lib.hid s2
  have S3 := Lib.hid s3
  have HL := Lib.hid hl
  have HN := Lib.hid hone
  have HXL := Lib.hid hxl
  have HOV := Lib.hid hov
  have HO := Lib.hid hO
  have HX := Lib.hid hx
  clear hst hol s2 s3 hl hone hxl hov hO hx hw
  have d1 : decide ((f : Int) < 64) = false := by simp; omega
  have d3 : decide ((f : Int) < 128) = false := by simp; omega
  have e1 : IntKind.u8.wrap ((f : Int) - 127) = (m : Int) := by simp only [IntKind.wrap, IntKind.bits, IntKind.signed]; simp; omega
  have e2 : (m : Int) ≤ 128 := by omega
  have e3 : 0 ≤ (m : Int) := by omega
  clear f1 f2 hm
  go_enter Try.func45, Try.ntmps45
  go_wp2_with (with_reducible refine alloc_agg rfl 74 rfl zs zero_sector ?_)
  generalize ((w.alloc (.cells (wcell x).toArray 78)).alloc (.cells (was.map bv).toArray 74)).alloc (.cells zs 74) = w3 at *
  refine wp_region_still_tail 5 (by kernel_rfl) (by kernel_rfl) ?_
  simp only [List.take_succ_cons, List.take_zero, List.drop_succ_cons, List.drop_zero]
  iterate 5 still_step
  refine wpStill_nil ?_
  change wpList _ _ _ _ _ w3.drew
  have hcp := run_copy_row (P := Try.prog) w3.drew 28 28 3 5 (w.heap.size + 1) 0 m 128 ⟨w.heap.size, 1, none⟩ 128 128 (was.map bv).toArray 74 ((x.2.take m).map bv) Try.underlying28 (by kernel_rfl) HO.out.c.drew (by rw [HXL.out]; show m = min 128 m; omega)
    (fun j v hj => by
      rw [Addr.add_mid]
      refine HO.out.a.cell _ _ ?_
      have hj2 := (List.getElem?_eq_some_iff.1 hj).1
      rw [HXL.out] at hj2
      unfold wcell
      rw [Nat.add_comm, List.getElem?_cons_succ, ← hj, List.map_take, List.getElem?_take, if_pos hj2])
    (by rw [HXL.out, S3.out]; omega) (bv_one _)
  have a4 := HO.out.c.drew.setRow ((was.map bv).toArray.toList.take 0 ++ (x.2.take m).map bv ++ (was.map bv).toArray.toList.drop (0 + ((x.2.take m).map bv).length)).toArray
  rw [List.toList_toArray, List.toList_toArray, HXL.out, HOV.out] at a4
  rw [List.toList_toArray, HXL.out, HOV.out] at hcp
  have r4 := HO.out.r.drew.setRow_ne (B' := w.heap.size + 1) ((over x.2 was f).map bv).toArray (by omega)
  have t4 : Touch [] w (w3.drew.setRow (w.heap.size + 1) ((over x.2 was f).map bv).toArray) := (Touch.of_below HO.out.u.drew).setRow _ _ (.inr (by omega))
  have C4 := Lib.hid hcp
  have A4 := Lib.hid a4
  have R4 := Lib.hid r4
  have T4 := Lib.hid t4
  clear hcp a4 r4 t4
  generalize w3.drew.setRow (w.heap.size + 1) ((over x.2 was f).map bv).toArray = w4 at *
  have hrg := A4.out.range0
  have hth := R4.out.there 0 128 (by rw [zs_len]; omega)
  have hr := R4.out.whole (c := (over x.2 was f).map bv) (by rw [zs_len, HL.out])
  have HG := Lib.hid hrg
  have HTH := Lib.hid hth
  have HR := Lib.hid hr
  clear hrg hth hr
  go_wp2_with (first | (with_reducible refine list_val rfl (run_copy_op (.tmp 15) (.tmp 17) 28 28 rfl _ _ (by kernel_rfl) (by kernel_rfl) C4.out) ?_) | (with_reducible refine wpList_load_mid rfl 74 (.tmp 4) rfl (w.heap.size + 1) 0 (by kernel_rfl) ((over x.2 was f).map bv) _ HG.out Try.underlying74 rfl (by rw [HL.out]; exact info_sector) ?_) | (with_reducible refine wpList_store_mid rfl 74 (.tmp 6) (.tmp 19) rfl (w.heap.size + 1 + 1) 0 ((over x.2 was f).map bv).toArray (by kernel_rfl) (by kernel_rfl) (by rw [S2.out]; exact HTH.out) (by rw [S2.out]; exact info_sector) HN.out ?_))
  (try simp only [Exit.inBlock, Exit.then])
  refine bodyPost_ret (v := .agg ((over x.2 was f).map bv).toArray) ?_ rfl ⟨rfl, (Touch.setCells (ft := []) (u := w) (w.heap.size + 1 + 1) (.inr (by omega)) _ _ _ T4.out).below (S := w.heap.size) (Below.refl _ _) (by simp) (Nat.le_refl _)⟩
  exact results_cell_row (fn := Try.f45) (p := 6) (ty := 74) rfl _ _ (w.heap.size + 1 + 1) 74 ((over x.2 was f).map bv).toArray (0, 0) _ rfl HR.out Try.underlying74 rfl (by rw [S2.out]; exact info_sector)

theorem over_any (w : World) (x : Nat × List UInt8) (was : List UInt8) (f : Nat) (hf : f < 256) (hx : x.2.length = 128) (hw : was.length = 128) :
    Calls Try.prog 45 #[.agg (wcell x).toArray, .agg (was.map bv).toArray, .int .u8 (f : Int)] w fun e w' => e = .returned (.agg ((over x.2 was f).map bv).toArray) ∧ Below w.heap.size w w' := by
  by_cases f1 : f < 64
  · have e : over x.2 was f = was := by unfold over stay; rw [if_pos f1]; simp
    rw [e]
    exact over_lost w x was f f1 hx hw
  · by_cases f2 : f < 128
    · exact over_all w x was f (by omega) f2 hx hw
    · exact over_torn w x was f (by omega) hf hx hw
end Go.Proofs.Ytcgjkopdnhkdiaa
