/- The statement TreeKnown: the walk. -/
import Derived.Test.YtfflkpggmhlfpaaDoorUv
namespace Go.Proofs.YtfflkpggmhlfpaaDoor
open Go.RowKit
set_option maxRecDepth 1000000
theorem ch_form (k : Nat) : chN k = dr [] (chN k).kids := by cases k <;> rfl
theorem Has.alike2 {S : Nat → Prop} {w : World} {h : Nat} {a b : Nd} {ao : Option Addr} (hH : Has S w h a ao) (hk : b.kids = a.kids) : Has S w h b ao := by
  cases h with
  | zero => exact hH
  | succ h => exact ⟨by rw [hk]; exact hH.1, fun i m hm => hH.2 i m (by rw [← hk]; exact hm)⟩
theorem has_row1 {w : World} {S : Nat → Prop} {B h : Nat} (s : List UInt8) (n : Nd) (ao : Option Addr) (c : Nat) (hS : S B) (hA : At w B 24 (n.cells ao c)) (hH : Has S w h n ao) : Has S w (h + 1) (dr s [n]) (some ⟨B, 0, none⟩) :=
  Has.rows _ [(n, ao, c)] h rfl (by show 1 ≤ maxLen; decide) hS hA (fun p hp => by rw [List.mem_singleton] at hp; subst hp; exact hH)
theorem row_cells2 {w : World} {B : Nat} {ps : List Tri} (hA : At w B 24 (ps.flatMap Tri.cells)) {i : Nat} {p : Tri} (hp : ps[i]? = some p) : ∀ j v, p.cells[j]? = some v → w.cell? ((if i * 5 = 0 then (⟨B, 0, none⟩ : Addr) else ⟨B, i * 5, none⟩).add j) = some v := by
  have h := row_cells hA hp
  have e : ((⟨B, 0, none⟩ : Addr).add (i * 5)) = if i * 5 = 0 then (⟨B, 0, none⟩ : Addr) else ⟨B, i * 5, none⟩ := by
    unfold Addr.add
    split <;> simp_all
  rw [e] at h
  exact h
def rowOf (ps : List Tri) : Array Value := (ps.flatMap Tri.cells).toArray
theorem list_val_g {ops : Array Oper} {rest : List Oper} {op : Oper} {a : Act} {w w' : World} {Q : Exit → Act → World → Prop} (hw : Region.wanted op (yielded ops a.tmps) = true) {v : Value} (hr : (execOp a.eval op).run Tryd.prog w = .ok (.value v) w')
    (h : wpList Tryd.prog ops Q rest (a.put op.dst v) w') : wpList Tryd.prog ops Q (op :: rest) a w :=
  wpList_step fun K hK => by
    simp only [hw, if_true]
    unfold Oper.wp
    rw [hr]
    exact hK _ _ h
theorem short_alike {h : Nat} {a b : Nd} (hs : Short h a) (hk : b.kids = a.kids) : Short h b := by
  cases h with
  | zero => trivial
  | succ h => exact fun m hm => hs m (by rw [← hk]; exact hm)
theorem short_ch : ∀ (h k : Nat), Short h (chN k)
  | 0, _ => trivial
  | h + 1, 0 => fun m hm => by cases hm
  | h + 1, k + 1 => fun m hm => by
    have hm2 : m ∈ [dr [100] (chN k).kids] := hm
    rw [List.mem_singleton] at hm2
    subst hm2
    exact ⟨by show 1 ≤ 1000; omega, short_alike (short_ch h k) rfl⟩
/-- the chains, while another one grows -/
structure Wc (w : World) (p6 p8 p9 : Nat) (T U : Nd) (a6 : Option Addr) (c6 : Nat) (a8 : Option Addr) (c8 : Nat) (W : World) : Prop where
  a : At W p6 24 (T.cells a6 c6)
  c : At W p8 24 (U.cells a8 c8)
  t : Has (fun i => i ≠ p9) W 30 T a6
  u : Has (fun i => i ≠ p9) W 30 U a8
  g : Glob W
  b : Below w.heap.size w W
theorem Wc.below {w : World} {p6 p8 p9 : Nat} {T U : Nd} {a6 : Option Addr} {c6 : Nat} {a8 : Option Addr} {c8 : Nat} {W W' : World} (h : Wc w p6 p8 p9 T U a6 c6 a8 c8 W) (b : Below W.heap.size W W') : Wc w p6 p8 p9 T U a6 c6 a8 c8 W' :=
  ⟨h.a.below b h.a.lt, h.c.below b h.c.lt, h.t.below b, h.u.below b, h.g.below b, h.b.trans (b.mono h.b.size)⟩
theorem Wc.touch {w : World} {p6 p8 p9 : Nat} {T U : Nd} {a6 : Option Addr} {c6 : Nat} {a8 : Option Addr} {c8 : Nat} {W W' : World} (h : Wc w p6 p8 p9 T U a6 c6 a8 c8 W) (t : Touch [p9] W W') (h6 : p6 ≠ p9) (h8 : p8 ≠ p9) (h9 : w.heap.size ≤ p9) (h0 : 0 < w.heap.size) (h90 : 0 ≠ p9) : Wc w p6 p8 p9 T U a6 c6 a8 c8 W' :=
  ⟨h.a.touch t (by simpa using h6), h.c.touch t (by simpa using h8), Has.kept (fun _ h _ => h) (fun i hi hl => t.block i hl (by simpa using hi)) 30 T a6 h.t, Has.kept (fun _ h _ => h) (fun i hi hl => t.block i hl (by simpa using hi)) 30 U a8 h.u, by
    obtain ⟨m, hm⟩ := h.g
    exact ⟨m, by rw [← hm]; exact World.cell?_of_block (t.block 0 (World.block_lt_of_cell? W _ hm) (by simpa using h90))⟩, t.below h.b (fun k hk => by rw [List.mem_singleton] at hk; omega) (Nat.le_refl _)⟩
set_option maxHeartbeats 40000000 in
theorem tknown_any (w : World) (hg : Glob w) : Calls Tryd.prog 6 #[] w fun e w' => e = .returned (.bool true) ∧ Below w.heap.size w w' := by
  have HG := Lib.hid hg
  clear hg
  go_enter Tryd.func6, Tryd.ntmps6
  have B0 := Lib.hid (Below.refl w.heap.size w)
  have GS0 := Lib.hid (Goods.nil w)
  go_wp2_with fail
  refine (repeat_any 110 56 w (by omega) (by omega)).mono ?_
  rintro e v1 ⟨bb1, rfl⟩
  have B1 := Lib.hid (B0.out.trans (bb1.mono B0.out.size))
  have GS1 := Lib.hid (GS0.out.below bb1)
  clear B0 GS0
  clear bb1
  obtain ⟨lg, hlg⟩ : ∃ lg, lg = rep 110 56 := ⟨_, rfl⟩
  rw [← hlg]
  have hl56 : lg.length = 56 := by rw [hlg]; exact rep_len _ _
  have HLG := Lib.hid hlg
  clear hlg
  have GL1 := Lib.hid (GS1.out.leaf zeroN rfl)
  clear GS1
  have GS1 := GL1
  clear GL1
  have GL1 := Lib.hid (GS1.out.leaf ⟨[], 4, false, [], []⟩ rfl)
  clear GS1
  have GS1 := GL1
  clear GL1
  have GL1 := Lib.hid (GS1.out.leaf ⟨[], -1, false, [], []⟩ rfl)
  clear GS1
  have GS1 := GL1
  clear GL1
  go_wp2_with (first
    | (refine list_val (op := { dst := some 14, op := _, type := _, pos := _, after := _, guard := _ }) rfl (v := .agg (Nd.cells zeroN none 0).toArray) (w' := v1) (by kernel_rfl) ?_)
    | (refine list_val (op := { dst := some 15, op := _, type := _, pos := _, after := _, guard := _ }) rfl (v := .agg (Nd.cells ⟨[], 4, false, [], []⟩ none 0).toArray) (w' := v1) (by kernel_rfl) ?_)
    | (refine list_val (op := { dst := some 16, op := _, type := _, pos := _, after := _, guard := _ }) rfl (v := .agg (Nd.cells ⟨[], -1, false, [], []⟩ none 0).toArray) (w' := v1) (by kernel_rfl) ?_))
  refine (file_any [97] [] v1).mono ?_
  rintro e v2 ⟨bb2, rfl⟩
  have B2 := Lib.hid (B1.out.trans (bb2.mono B1.out.size))
  have GS2 := Lib.hid (GS1.out.below bb2)
  clear B1 GS1
  clear bb2
  go_wp2_with (first
    | (with_reducible refine build_nd rfl (.tmp 17) rfl (Nd.cells (fl [97] []) none 0) rfl rfl ?_; intro u3 hu3 bu3 zu3; have HU3 := Lib.hid hu3; have BU3 := Lib.hid bu3; clear hu3 bu3 zu3)
    | (refine list_val (op := { dst := some 19, op := _, type := _, pos := _, after := _, guard := _ }) rfl (v := .agg (Nd.cells ⟨[], 1, false, [], [fl [97] []]⟩ (some ⟨v2.heap.size, 0, none⟩) 1).toArray) (w' := u3) (by kernel_rfl) ?_)
    | (refine list_val (op := { dst := some 20, op := _, type := _, pos := _, after := _, guard := _ }) rfl (v := .agg (Nd.cells ⟨[], 2, true, [], []⟩ none 0).toArray) (w' := u3) (by kernel_rfl) ?_)
    | (refine list_val (op := { dst := some 21, op := _, type := _, pos := _, after := _, guard := _ }) rfl (v := .agg (Nd.cells ⟨[], 2, false, [120], []⟩ none 0).toArray) (w' := u3) (by kernel_rfl) ?_)
    | (refine list_val (op := { dst := some 22, op := _, type := _, pos := _, after := _, guard := _ }) rfl (v := .agg (Nd.cells ⟨[], 3, false, [], []⟩ none 0).toArray) (w' := u3) (by kernel_rfl) ?_)
    | (refine list_val (op := { dst := some 23, op := _, type := _, pos := _, after := _, guard := _ }) rfl (v := .agg (Nd.cells ⟨[], 3, true, [97], []⟩ none 0).toArray) (w' := u3) (by kernel_rfl) ?_)
    | (refine list_val (op := { dst := some 24, op := _, type := _, pos := _, after := _, guard := _ }) rfl (v := .agg (Nd.cells ⟨[], 3, false, [97, 0], []⟩ none 0).toArray) (w' := u3) (by kernel_rfl) ?_))
  have B3 := Lib.hid (B2.out.trans (BU3.out.mono B2.out.size))
  have GS3 := Lib.hid (GS2.out.below BU3.out)
  clear B2 GS2 BU3
  have HK3 := Lib.hid (Has.rows (S := any_) ⟨[], 1, false, [], [fl [97] []]⟩ [(fl [97] [], none, 0)] 3 rfl (by show 1 ≤ maxLen; decide) trivial HU3.out (fun p hp => by rw [List.mem_singleton] at hp; subst hp; exact Has.leaf _ _ 2 _ _ rfl))
  have GL3 := Lib.hid (GS3.out.more (⟨[], 1, false, [], [fl [97] []]⟩, (some ⟨v2.heap.size, 0, none⟩), 1) HK3.out)
  clear GS3
  have GS3 := GL3
  clear GL3
  clear HK3 HU3
  have GL3 := Lib.hid (GS3.out.leaf ⟨[], 2, true, [], []⟩ rfl)
  clear GS3
  have GS3 := GL3
  clear GL3
  have GL3 := Lib.hid (GS3.out.leaf ⟨[], 2, false, [120], []⟩ rfl)
  clear GS3
  have GS3 := GL3
  clear GL3
  have GL3 := Lib.hid (GS3.out.leaf ⟨[], 3, false, [], []⟩ rfl)
  clear GS3
  have GS3 := GL3
  clear GL3
  have GL3 := Lib.hid (GS3.out.leaf ⟨[], 3, true, [97], []⟩ rfl)
  clear GS3
  have GS3 := GL3
  clear GL3
  have GL3 := Lib.hid (GS3.out.leaf ⟨[], 3, false, [97, 0], []⟩ rfl)
  clear GS3
  have GS3 := GL3
  clear GL3
  refine (repeat_any 108 256 u3 (by omega) (by omega)).mono ?_
  rintro e v4 ⟨bb4, rfl⟩
  have B4 := Lib.hid (B3.out.trans (bb4.mono B3.out.size))
  have GS4 := Lib.hid (GS3.out.below bb4)
  clear B3 GS3
  clear bb4
  obtain ⟨lk, hlk⟩ : ∃ lk, lk = rep 108 256 := ⟨_, rfl⟩
  rw [← hlk]
  have HLK := Lib.hid hlk
  clear hlk
  have GL4 := Lib.hid (GS4.out.leaf ⟨[], 3, false, lk, []⟩ rfl)
  clear GS4
  have GS4 := GL4
  clear GL4
  go_wp2_with (first
    | (refine list_val (op := { dst := some 26, op := _, type := _, pos := _, after := _, guard := _ }) rfl (v := .agg (Nd.cells ⟨[], 3, false, lk, []⟩ none 0).toArray) (w' := v4) (by kernel_rfl) ?_))
  refine (file_any [] [] v4).mono ?_
  rintro e v5 ⟨bb5, rfl⟩
  have B5 := Lib.hid (B4.out.trans (bb5.mono B4.out.size))
  have GS5 := Lib.hid (GS4.out.below bb5)
  clear B4 GS4
  clear bb5
  go_wp2_with (first
    | (with_reducible refine build_nd rfl (.tmp 27) rfl (Nd.cells (fl [] []) none 0) rfl rfl ?_; intro u6 hu6 bu6 zu6; have HU6 := Lib.hid hu6; have BU6 := Lib.hid bu6; clear hu6 bu6 zu6))
  have B6 := Lib.hid (B5.out.trans (BU6.out.mono B5.out.size))
  have GS6 := Lib.hid (GS5.out.below BU6.out)
  clear B5 GS5 BU6
  refine (dir_any [] [fl [] []] (some ⟨v5.heap.size, 0, none⟩) 1 u6).mono ?_
  rintro e v7 ⟨bb7, rfl⟩
  have HK7 := Lib.hid (has_row1 (S := any_) (h := 3) [] (fl [] []) none 0 trivial (HU6.out.below bb7 HU6.out.lt) (Has.leaf _ _ 2 _ _ rfl))
  have B7 := Lib.hid (B6.out.trans (bb7.mono B6.out.size))
  have GS7 := Lib.hid (GS6.out.below bb7)
  clear B6 GS6
  clear bb7 HU6
  have GL7 := Lib.hid (GS7.out.more (dr [] [fl [] []], (some ⟨v5.heap.size, 0, none⟩), 1) HK7.out)
  clear GS7
  have GS7 := GL7
  clear GL7
  clear HK7
  go_wp2_with fail
  refine (file_any [46] [] v7).mono ?_
  rintro e v8 ⟨bb8, rfl⟩
  have B8 := Lib.hid (B7.out.trans (bb8.mono B7.out.size))
  have GS8 := Lib.hid (GS7.out.below bb8)
  clear B7 GS7
  clear bb8
  go_wp2_with (first
    | (with_reducible refine build_nd rfl (.tmp 30) rfl (Nd.cells (fl [46] []) none 0) rfl rfl ?_; intro u9 hu9 bu9 zu9; have HU9 := Lib.hid hu9; have BU9 := Lib.hid bu9; clear hu9 bu9 zu9))
  have B9 := Lib.hid (B8.out.trans (BU9.out.mono B8.out.size))
  have GS9 := Lib.hid (GS8.out.below BU9.out)
  clear B8 GS8 BU9
  refine (dir_any [] [fl [46] []] (some ⟨v8.heap.size, 0, none⟩) 1 u9).mono ?_
  rintro e v10 ⟨bb10, rfl⟩
  have HK10 := Lib.hid (has_row1 (S := any_) (h := 3) [] (fl [46] []) none 0 trivial (HU9.out.below bb10 HU9.out.lt) (Has.leaf _ _ 2 _ _ rfl))
  have B10 := Lib.hid (B9.out.trans (bb10.mono B9.out.size))
  have GS10 := Lib.hid (GS9.out.below bb10)
  clear B9 GS9
  clear bb10 HU9
  have GL10 := Lib.hid (GS10.out.more (dr [] [fl [46] []], (some ⟨v8.heap.size, 0, none⟩), 1) HK10.out)
  clear GS10
  have GS10 := GL10
  clear GL10
  clear HK10
  go_wp2_with fail
  refine (file_any [46, 46] [] v10).mono ?_
  rintro e v11 ⟨bb11, rfl⟩
  have B11 := Lib.hid (B10.out.trans (bb11.mono B10.out.size))
  have GS11 := Lib.hid (GS10.out.below bb11)
  clear B10 GS10
  clear bb11
  go_wp2_with (first
    | (with_reducible refine build_nd rfl (.tmp 33) rfl (Nd.cells (fl [46, 46] []) none 0) rfl rfl ?_; intro u12 hu12 bu12 zu12; have HU12 := Lib.hid hu12; have BU12 := Lib.hid bu12; clear hu12 bu12 zu12))
  have B12 := Lib.hid (B11.out.trans (BU12.out.mono B11.out.size))
  have GS12 := Lib.hid (GS11.out.below BU12.out)
  clear B11 GS11 BU12
  refine (dir_any [] [fl [46, 46] []] (some ⟨v11.heap.size, 0, none⟩) 1 u12).mono ?_
  rintro e v13 ⟨bb13, rfl⟩
  have HK13 := Lib.hid (has_row1 (S := any_) (h := 3) [] (fl [46, 46] []) none 0 trivial (HU12.out.below bb13 HU12.out.lt) (Has.leaf _ _ 2 _ _ rfl))
  have B13 := Lib.hid (B12.out.trans (bb13.mono B12.out.size))
  have GS13 := Lib.hid (GS12.out.below bb13)
  clear B12 GS12
  clear bb13 HU12
  have GL13 := Lib.hid (GS13.out.more (dr [] [fl [46, 46] []], (some ⟨v11.heap.size, 0, none⟩), 1) HK13.out)
  clear GS13
  have GS13 := GL13
  clear GL13
  clear HK13
  go_wp2_with fail
  refine (file_any [97, 47, 98] [] v13).mono ?_
  rintro e v14 ⟨bb14, rfl⟩
  have B14 := Lib.hid (B13.out.trans (bb14.mono B13.out.size))
  have GS14 := Lib.hid (GS13.out.below bb14)
  clear B13 GS13
  clear bb14
  go_wp2_with (first
    | (with_reducible refine build_nd rfl (.tmp 36) rfl (Nd.cells (fl [97, 47, 98] []) none 0) rfl rfl ?_; intro u15 hu15 bu15 zu15; have HU15 := Lib.hid hu15; have BU15 := Lib.hid bu15; clear hu15 bu15 zu15))
  have B15 := Lib.hid (B14.out.trans (BU15.out.mono B14.out.size))
  have GS15 := Lib.hid (GS14.out.below BU15.out)
  clear B14 GS14 BU15
  refine (dir_any [] [fl [97, 47, 98] []] (some ⟨v14.heap.size, 0, none⟩) 1 u15).mono ?_
  rintro e v16 ⟨bb16, rfl⟩
  have HK16 := Lib.hid (has_row1 (S := any_) (h := 3) [] (fl [97, 47, 98] []) none 0 trivial (HU15.out.below bb16 HU15.out.lt) (Has.leaf _ _ 2 _ _ rfl))
  have B16 := Lib.hid (B15.out.trans (bb16.mono B15.out.size))
  have GS16 := Lib.hid (GS15.out.below bb16)
  clear B15 GS15
  clear bb16 HU15
  have GL16 := Lib.hid (GS16.out.more (dr [] [fl [97, 47, 98] []], (some ⟨v14.heap.size, 0, none⟩), 1) HK16.out)
  clear GS16
  have GS16 := GL16
  clear GL16
  clear HK16
  go_wp2_with fail
  refine (file_any [97, 0] [] v16).mono ?_
  rintro e v17 ⟨bb17, rfl⟩
  have B17 := Lib.hid (B16.out.trans (bb17.mono B16.out.size))
  have GS17 := Lib.hid (GS16.out.below bb17)
  clear B16 GS16
  clear bb17
  go_wp2_with (first
    | (with_reducible refine build_nd rfl (.tmp 39) rfl (Nd.cells (fl [97, 0] []) none 0) rfl rfl ?_; intro u18 hu18 bu18 zu18; have HU18 := Lib.hid hu18; have BU18 := Lib.hid bu18; clear hu18 bu18 zu18))
  have B18 := Lib.hid (B17.out.trans (BU18.out.mono B17.out.size))
  have GS18 := Lib.hid (GS17.out.below BU18.out)
  clear B17 GS17 BU18
  refine (dir_any [] [fl [97, 0] []] (some ⟨v17.heap.size, 0, none⟩) 1 u18).mono ?_
  rintro e v19 ⟨bb19, rfl⟩
  have HK19 := Lib.hid (has_row1 (S := any_) (h := 3) [] (fl [97, 0] []) none 0 trivial (HU18.out.below bb19 HU18.out.lt) (Has.leaf _ _ 2 _ _ rfl))
  have B19 := Lib.hid (B18.out.trans (bb19.mono B18.out.size))
  have GS19 := Lib.hid (GS18.out.below bb19)
  clear B18 GS18
  clear bb19 HU18
  have GL19 := Lib.hid (GS19.out.more (dr [] [fl [97, 0] []], (some ⟨v17.heap.size, 0, none⟩), 1) HK19.out)
  clear GS19
  have GS19 := GL19
  clear GL19
  clear HK19
  have hcat : bs lg ++ ({ data := #[110] } : ByteArray) = bs (lg ++ [110]) := by rw [show ({ data := #[110] } : ByteArray) = bs [110] from rfl, bs_append]
  go_wp2_with fail
  refine (file_any (lg ++ [110]) [] v19).mono ?_
  rintro e v20 ⟨bb20, rfl⟩
  have B20 := Lib.hid (B19.out.trans (bb20.mono B19.out.size))
  have GS20 := Lib.hid (GS19.out.below bb20)
  clear B19 GS19
  clear bb20
  go_wp2_with (first
    | (with_reducible refine build_nd rfl (.tmp 44) rfl (Nd.cells (fl (lg ++ [110]) []) none 0) rfl rfl ?_; intro u21 hu21 bu21 zu21; have HU21 := Lib.hid hu21; have BU21 := Lib.hid bu21; clear hu21 bu21 zu21))
  have B21 := Lib.hid (B20.out.trans (BU21.out.mono B20.out.size))
  have GS21 := Lib.hid (GS20.out.below BU21.out)
  clear B20 GS20 BU21
  refine (dir_any [] [fl (lg ++ [110]) []] (some ⟨v20.heap.size, 0, none⟩) 1 u21).mono ?_
  rintro e v22 ⟨bb22, rfl⟩
  have HK22 := Lib.hid (has_row1 (S := any_) (h := 3) [] (fl (lg ++ [110]) []) none 0 trivial (HU21.out.below bb22 HU21.out.lt) (Has.leaf _ _ 2 _ _ rfl))
  have B22 := Lib.hid (B21.out.trans (bb22.mono B21.out.size))
  have GS22 := Lib.hid (GS21.out.below bb22)
  clear B21 GS21
  clear bb22 HU21
  have GL22 := Lib.hid (GS22.out.more (dr [] [fl (lg ++ [110]) []], (some ⟨v20.heap.size, 0, none⟩), 1) HK22.out)
  clear GS22
  have GS22 := GL22
  clear GL22
  clear HK22
  clear hcat
  go_wp2_with fail
  refine (file_any [97] [] v22).mono ?_
  rintro e v23 ⟨bb23, rfl⟩
  have B23 := Lib.hid (B22.out.trans (bb23.mono B22.out.size))
  have GS23 := Lib.hid (GS22.out.below bb23)
  clear B22 GS22
  clear bb23
  go_wp2_with fail
  refine (file_any [97] [] v23).mono ?_
  rintro e v24 ⟨bb24, rfl⟩
  have B24 := Lib.hid (B23.out.trans (bb24.mono B23.out.size))
  have GS24 := Lib.hid (GS23.out.below bb24)
  clear B23 GS23
  clear bb24
  go_wp2_with (first
    | (with_reducible refine build_nds rfl (.tmp 47) (.tmp 48) rfl (Nd.cells (fl [97] []) none 0) (Nd.cells (fl [97] []) none 0) rfl rfl rfl rfl ?_; intro u25 hu25 bu25 zu25; have HU25 := Lib.hid hu25; have BU25 := Lib.hid bu25; clear hu25 bu25 zu25))
  have B25 := Lib.hid (B24.out.trans (BU25.out.mono B24.out.size))
  have GS25 := Lib.hid (GS24.out.below BU25.out)
  clear B24 GS24 BU25
  refine (dir_any [] [fl [97] [], fl [97] []] (some ⟨v24.heap.size, 0, none⟩) 2 u25).mono ?_
  rintro e v26 ⟨bb26, rfl⟩
  have HK26 := Lib.hid (Has.rows (S := any_) (dr [] [fl [97] [], fl [97] []]) [(fl [97] [], none, 0), (fl [97] [], none, 0)] 3 rfl (by show 2 ≤ maxLen; decide) trivial (HU25.out.below bb26 HU25.out.lt) (fun p hp => by simp only [List.mem_cons, List.not_mem_nil, or_false, or_self] at hp; subst hp; exact Has.leaf _ _ 2 _ _ rfl))
  have B26 := Lib.hid (B25.out.trans (bb26.mono B25.out.size))
  have GS26 := Lib.hid (GS25.out.below bb26)
  clear B25 GS25
  clear bb26 HU25
  have GL26 := Lib.hid (GS26.out.more (dr [] [fl [97] [], fl [97] []], (some ⟨v24.heap.size, 0, none⟩), 2) HK26.out)
  clear GS26
  have GS26 := GL26
  clear GL26
  clear HK26
  go_wp2_with (first
    | (refine list_val (op := { dst := some 51, op := _, type := _, pos := _, after := _, guard := _ }) rfl (v := .agg (Nd.cells ⟨[120], 0, false, [], []⟩ none 0).toArray) (w' := v26) (by kernel_rfl) ?_)
    | (with_reducible refine build_nd rfl (.tmp 51) rfl (Nd.cells ⟨[120], 0, false, [], []⟩ none 0) rfl rfl ?_; intro u27 hu27 bu27 zu27; have HU27 := Lib.hid hu27; have BU27 := Lib.hid bu27; clear hu27 bu27 zu27))
  have B27 := Lib.hid (B26.out.trans (BU27.out.mono B26.out.size))
  have GS27 := Lib.hid (GS26.out.below BU27.out)
  clear B26 GS26 BU27
  refine (dir_any [100] [⟨[120], 0, false, [], []⟩] (some ⟨v26.heap.size, 0, none⟩) 1 u27).mono ?_
  rintro e v28 ⟨bb28, rfl⟩
  have HK28 := Lib.hid (has_row1 (S := any_) (h := 2) [100] ⟨[120], 0, false, [], []⟩ none 0 trivial (HU27.out.below bb28 HU27.out.lt) (Has.leaf _ _ 1 _ _ rfl))
  have B28 := Lib.hid (B27.out.trans (bb28.mono B27.out.size))
  have GS28 := Lib.hid (GS27.out.below bb28)
  clear B27 GS27
  clear bb28 HU27
  go_wp2_with (first
    | (with_reducible refine build_nd rfl (.tmp 53) rfl (Nd.cells (dr [100] [⟨[120], 0, false, [], []⟩]) (some ⟨v26.heap.size, 0, none⟩) 1) rfl rfl ?_; intro u29 hu29 bu29 zu29; have HU29 := Lib.hid hu29; have BU29 := Lib.hid bu29; clear hu29 bu29 zu29))
  have HL28 := Lib.hid (HK28.out.below BU29.out)
  have B29 := Lib.hid (B28.out.trans (BU29.out.mono B28.out.size))
  have GS29 := Lib.hid (GS28.out.below BU29.out)
  clear B28 GS28 BU29
  refine (dir_any [] [dr [100] [⟨[120], 0, false, [], []⟩]] (some ⟨v28.heap.size, 0, none⟩) 1 u29).mono ?_
  rintro e v30 ⟨bb30, rfl⟩
  have HK30 := Lib.hid (has_row1 (S := any_) (h := 3) [] (dr [100] [⟨[120], 0, false, [], []⟩]) (some ⟨v26.heap.size, 0, none⟩) 1 trivial (HU29.out.below bb30 HU29.out.lt) (HL28.out.below bb30))
  have B30 := Lib.hid (B29.out.trans (bb30.mono B29.out.size))
  have GS30 := Lib.hid (GS29.out.below bb30)
  clear B29 GS29
  clear bb30 HU29 HL28 HK28
  have GL30 := Lib.hid (GS30.out.more (dr [] [dr [100] [⟨[120], 0, false, [], []⟩]], (some ⟨v28.heap.size, 0, none⟩), 1) HK30.out)
  clear GS30
  have GS30 := GL30
  clear GL30
  clear HK30
  go_wp2_with fail
  refine (dir_any [120] [] none 0 v30).mono ?_
  rintro e v31 ⟨bb31, rfl⟩
  have B31 := Lib.hid (B30.out.trans (bb31.mono B30.out.size))
  have GS31 := Lib.hid (GS30.out.below bb31)
  clear B30 GS30
  clear bb31
  have GL31 := Lib.hid (GS31.out.leaf (dr [120] []) rfl)
  clear GS31
  have GS31 := GL31
  clear GL31
  obtain ⟨pb, hpb⟩ : ∃ pb : List Tri, pb = [(zeroN, none, 0), (⟨[], 4, false, [], []⟩, none, 0), (⟨[], -1, false, [], []⟩, none, 0), (⟨[], 1, false, [], [fl [97] []]⟩, (some ⟨v2.heap.size, 0, none⟩), 1), (⟨[], 2, true, [], []⟩, none, 0), (⟨[], 2, false, [120], []⟩, none, 0), (⟨[], 3, false, [], []⟩, none, 0), (⟨[], 3, true, [97], []⟩, none, 0), (⟨[], 3, false, [97, 0], []⟩, none, 0), (⟨[], 3, false, lk, []⟩, none, 0), (dr [] [fl [] []], (some ⟨v5.heap.size, 0, none⟩), 1), (dr [] [fl [46] []], (some ⟨v8.heap.size, 0, none⟩), 1), (dr [] [fl [46, 46] []], (some ⟨v11.heap.size, 0, none⟩), 1), (dr [] [fl [97, 47, 98] []], (some ⟨v14.heap.size, 0, none⟩), 1), (dr [] [fl [97, 0] []], (some ⟨v17.heap.size, 0, none⟩), 1), (dr [] [fl (lg ++ [110]) []], (some ⟨v20.heap.size, 0, none⟩), 1), (dr [] [fl [97] [], fl [97] []], (some ⟨v24.heap.size, 0, none⟩), 2), (dr [] [dr [100] [⟨[120], 0, false, [], []⟩]], (some ⟨v28.heap.size, 0, none⟩), 1), ((dr [120] []), none, 0)] := ⟨_, rfl⟩
  have hGpb : Goods pb v31 := by rw [hpb]; exact GS31.out
  have HEpb := Lib.hid hpb
  have hMpb : pb.map (·.1) = badN lg lk := by rw [hpb]; rfl
  have hLpb : pb.length = 19 := by rw [hpb]; rfl
  clear hpb
  go_wp2_with (refine list_val (op := { dst := some 57, op := _, type := _, pos := _, after := _, guard := _ }) rfl (v := .slice (some ⟨v31.heap.size, 0, none⟩) 19 19) (w' := v31.alloc (.cells (rowOf [(zeroN, none, 0), (⟨[], 4, false, [], []⟩, none, 0), (⟨[], -1, false, [], []⟩, none, 0), (⟨[], 1, false, [], [fl [97] []]⟩, (some ⟨v2.heap.size, 0, none⟩), 1), (⟨[], 2, true, [], []⟩, none, 0), (⟨[], 2, false, [120], []⟩, none, 0), (⟨[], 3, false, [], []⟩, none, 0), (⟨[], 3, true, [97], []⟩, none, 0), (⟨[], 3, false, [97, 0], []⟩, none, 0), (⟨[], 3, false, lk, []⟩, none, 0), (dr [] [fl [] []], (some ⟨v5.heap.size, 0, none⟩), 1), (dr [] [fl [46] []], (some ⟨v8.heap.size, 0, none⟩), 1), (dr [] [fl [46, 46] []], (some ⟨v11.heap.size, 0, none⟩), 1), (dr [] [fl [97, 47, 98] []], (some ⟨v14.heap.size, 0, none⟩), 1), (dr [] [fl [97, 0] []], (some ⟨v17.heap.size, 0, none⟩), 1), (dr [] [fl (lg ++ [110]) []], (some ⟨v20.heap.size, 0, none⟩), 1), (dr [] [fl [97] [], fl [97] []], (some ⟨v24.heap.size, 0, none⟩), 2), (dr [] [dr [100] [⟨[120], 0, false, [], []⟩]], (some ⟨v28.heap.size, 0, none⟩), 1), ((dr [120] []), none, 0)]) 24)) (by kernel_rfl) ?_; rw [← HEpb.out])
  have hApb := show At (v31.alloc (.cells (rowOf pb) 24)) v31.heap.size 24 (pb.flatMap Tri.cells) from At.new v31 (rowOf pb) 24
  have bapb := (Below.refl _ v31).alloc (Nat.le_refl _) (.cells (rowOf pb) 24)
  have hBpb := B31.out.trans (bapb.mono B31.out.size)
  have hG2pb := hGpb.below bapb
  obtain ⟨Rpb, hRpb⟩ : ∃ R, R = v31.heap.size := ⟨_, rfl⟩
  rw [← hRpb] at hApb ⊢
  generalize v31.alloc (.cells (rowOf pb) 24) = wpb at *
  have HApb := Lib.hid hApb
  have HBpb := Lib.hid hBpb
  have HGpb := Lib.hid hG2pb
  have HMpb := Lib.hid hMpb
  have HLpb := Lib.hid hLpb
  clear hApb hBpb hG2pb hGpb hMpb hLpb bapb hRpb HEpb B31 GS31
  go_loopw [3] (fun i wx => ∃ k : Nat, k ≤ 19 ∧ i = .int .i64 k ∧ At wx Rpb 24 (pb.flatMap Tri.cells) ∧ Goods pb wx ∧ Below w.heap.size w wx) (fun i _ => 19 - (intOf i).toNat)
  case atStart => exact ⟨0, Nat.zero_le _, rfl, HApb.out, HGpb.out, HBpb.out⟩
  clear HApb HGpb HBpb
  case round =>
    obtain ⟨k, hk, rfl, hA, hGo, hB⟩ := hrel
    have HA := Lib.hid hA
    have HGo := Lib.hid hGo
    have HB := Lib.hid hB
    clear hA hGo hB
    by_cases hlt : k < 19
    · have hlt' : (k : Int) < 19 := by omega
      obtain ⟨p, hp⟩ : ∃ p, pb[k]? = some p := ⟨_, List.getElem?_eq_getElem (by rw [HLpb.out]; exact hlt)⟩
      have hmem := List.mem_of_getElem? hp
      have hch : fitB 4 p.1 = true ∧ checkL 4 p.1 = 2 := by
        have h := bad_all
        rw [List.all_eq_true] at h
        have h2 := h p.1 (by rw [← HLG.out, ← HLK.out]; rw [← HMpb.out]; exact List.mem_map_of_mem hmem)
        simp only [Bool.and_eq_true, beq_iff_eq] at h2
        exact h2
      obtain ⟨hfit, hres⟩ := hch
      have HP := Lib.hid hp
      have HF := Lib.hid (fit_good hfit)
      have HPH := Lib.hid (HGo.out p hmem)
      have HRES := Lib.hid hres
      clear hp hmem hfit hres
      go_wp2_with (first | (refine load_any rfl 24 (.tmp 66) rfl _ rfl p.cells _ (fun j v hj => (congrArg (fun x : Addr => wr.cell? (x.add j)) (by split <;> simp_all)).trans (row_cells2 HA.out HP.out j v hj)) Tryd.underlying24 rfl info_nd ?_))
      refine (check_any 4 p.1 p.2.1 p.2.2 wr (by omega) HPH.out HF.out.1 HF.out.2).mono ?_
      rintro e w5 ⟨rfl, b5⟩
      have HA5 := Lib.hid (HA.out.below b5 HA.out.lt)
      have HG5 := Lib.hid (HGo.out.below b5)
      have HB5 := Lib.hid (HB.out.trans (b5.mono HB.out.size))
      rw [HRES.out]
      clear b5 HA HGo HB HPH HP
      go_wp2_with fail
      go_roundw
      case rel => exact ⟨k + 1, by omega, by go_num, HA5.out, HG5.out, HB5.out⟩
      case measure => simp [intOf]; omega
    · obtain rfl : k = 19 := by omega
      clear HLpb HMpb HLK HA HGo
      have GS0 := Lib.hid (Goods.nil wr)
      have B0 := HB
      clear HB
      go_wp2_with fail
      refine (file_any [] [] wr).mono ?_
      rintro e v1 ⟨bb1, rfl⟩
      have B1 := Lib.hid (B0.out.trans (bb1.mono B0.out.size))
      have GS1 := Lib.hid (GS0.out.below bb1)
      clear B0 GS0
      clear bb1
      have GL1 := Lib.hid (GS1.out.leaf (fl [] []) rfl)
      clear GS1
      have GS1 := GL1
      clear GL1
      go_wp2_with fail
      refine (file_any [] [0] v1).mono ?_
      rintro e v2 ⟨bb2, rfl⟩
      have B2 := Lib.hid (B1.out.trans (bb2.mono B1.out.size))
      have GS2 := Lib.hid (GS1.out.below bb2)
      clear B1 GS1
      clear bb2
      have GL2 := Lib.hid (GS2.out.leaf (fl [] [0]) rfl)
      clear GS2
      have GS2 := GL2
      clear GL2
      have GL2 := Lib.hid (GS2.out.leaf ⟨[], 1, true, [], []⟩ rfl)
      clear GS2
      have GS2 := GL2
      clear GL2
      go_wp2_with (first
        | (refine list_val (op := { dst := some 72, op := _, type := _, pos := _, after := _, guard := _ }) rfl (v := .agg (Nd.cells ⟨[], 1, true, [], []⟩ none 0).toArray) (w' := v2) (by kernel_rfl) ?_))
      refine (repeat_any 108 255 v2 (by omega) (by omega)).mono ?_
      rintro e v3 ⟨bb3, rfl⟩
      have B3 := Lib.hid (B2.out.trans (bb3.mono B2.out.size))
      have GS3 := Lib.hid (GS2.out.below bb3)
      clear B2 GS2
      clear bb3
      obtain ⟨l5, hl5⟩ : ∃ l5, l5 = rep 108 255 := ⟨_, rfl⟩
      rw [← hl5]
      have HL5 := Lib.hid hl5
      clear hl5
      go_wp2_with fail
      refine (link_any [] l5 v3).mono ?_
      rintro e v4 ⟨bb4, rfl⟩
      have B4 := Lib.hid (B3.out.trans (bb4.mono B3.out.size))
      have GS4 := Lib.hid (GS3.out.below bb4)
      clear B3 GS3
      clear bb4
      have GL4 := Lib.hid (GS4.out.leaf ⟨[], 3, false, l5, []⟩ rfl)
      clear GS4
      have GS4 := GL4
      clear GL4
      go_wp2_with fail
      refine (dir_any [] [] none 0 v4).mono ?_
      rintro e v5 ⟨bb5, rfl⟩
      have B5 := Lib.hid (B4.out.trans (bb5.mono B4.out.size))
      have GS5 := Lib.hid (GS4.out.below bb5)
      clear B4 GS4
      clear bb5
      have GL5 := Lib.hid (GS5.out.leaf (dr [] []) rfl)
      clear GS5
      have GS5 := GL5
      clear GL5
      go_wp2_with fail
      refine (file_any [46, 46, 46] [] v5).mono ?_
      rintro e v6 ⟨bb6, rfl⟩
      have B6 := Lib.hid (B5.out.trans (bb6.mono B5.out.size))
      have GS6 := Lib.hid (GS5.out.below bb6)
      clear B5 GS5
      clear bb6
      go_wp2_with fail
      refine (file_any lg [] v6).mono ?_
      rintro e v7 ⟨bb7, rfl⟩
      have B7 := Lib.hid (B6.out.trans (bb7.mono B6.out.size))
      have GS7 := Lib.hid (GS6.out.below bb7)
      clear B6 GS6
      clear bb7
      go_wp2_with fail
      refine (file_any [255] [] v7).mono ?_
      rintro e v8 ⟨bb8, rfl⟩
      have B8 := Lib.hid (B7.out.trans (bb8.mono B7.out.size))
      have GS8 := Lib.hid (GS7.out.below bb8)
      clear B7 GS7
      clear bb8
      go_wp2_with (first
        | (refine list_val (op := { dst := some 80, op := _, type := _, pos := _, after := _, guard := _ }) rfl (v := .slice (some ⟨v8.heap.size, 0, none⟩) 3 3) (w' := v8.alloc (.cells (rowOf [((fl [46, 46, 46] []), none, 0), ((fl lg []), none, 0), ((fl [255] []), none, 0)]) 24)) (by kernel_rfl) ?_))
      have hu9 := show At (v8.alloc (.cells (rowOf [((fl [46, 46, 46] []), none, 0), ((fl lg []), none, 0), ((fl [255] []), none, 0)]) 24)) v8.heap.size 24 (([((fl [46, 46, 46] []), none, 0), ((fl lg []), none, 0), ((fl [255] []), none, 0)] : List Tri).flatMap Tri.cells) from At.new v8 (rowOf [((fl [46, 46, 46] []), none, 0), ((fl lg []), none, 0), ((fl [255] []), none, 0)]) 24
      have bu9 := (Below.refl _ v8).alloc (Nat.le_refl _) (.cells (rowOf [((fl [46, 46, 46] []), none, 0), ((fl lg []), none, 0), ((fl [255] []), none, 0)]) 24)
      obtain ⟨R80, hR80⟩ : ∃ R, R = v8.heap.size := ⟨_, rfl⟩
      rw [← hR80] at hu9 ⊢
      generalize v8.alloc (.cells (rowOf [((fl [46, 46, 46] []), none, 0), ((fl lg []), none, 0), ((fl [255] []), none, 0)]) 24) = u9 at *
      have HU9 := Lib.hid hu9
      have BU9 := Lib.hid bu9
      clear hu9 bu9 hR80
      have B9 := Lib.hid (B8.out.trans (BU9.out.mono B8.out.size))
      have GS9 := Lib.hid (GS8.out.below BU9.out)
      clear B8 GS8 BU9
      refine (dir_any [] [(fl [46, 46, 46] []), (fl lg []), (fl [255] [])] (some ⟨R80, 0, none⟩) 3 u9).mono ?_
      rintro e v10 ⟨bb10, rfl⟩
      have HK10 := Lib.hid (Has.rows (S := any_) (dr [] [(fl [46, 46, 46] []), (fl lg []), (fl [255] [])]) [((fl [46, 46, 46] []), none, 0), ((fl lg []), none, 0), ((fl [255] []), none, 0)] 3 rfl (by show 3 ≤ maxLen; decide) trivial (HU9.out.below bb10 HU9.out.lt) (fun p hp => by simp only [List.mem_cons, List.not_mem_nil, or_false] at hp; rcases hp with rfl | rfl | rfl <;> exact Has.leaf _ _ 2 _ _ rfl))
      have B10 := Lib.hid (B9.out.trans (bb10.mono B9.out.size))
      have GS10 := Lib.hid (GS9.out.below bb10)
      clear B9 GS9
      clear bb10 HU9
      have GL10 := Lib.hid (GS10.out.more (dr [] [(fl [46, 46, 46] []), (fl lg []), (fl [255] [])], (some ⟨R80, 0, none⟩), 3) HK10.out)
      clear GS10
      have GS10 := GL10
      clear GL10
      clear HK10
      obtain ⟨pg, hpg⟩ : ∃ pg : List Tri, pg = [((fl [] []), none, 0), ((fl [] [0]), none, 0), (⟨[], 1, true, [], []⟩, none, 0), (⟨[], 3, false, l5, []⟩, none, 0), ((dr [] []), none, 0), (dr [] [(fl [46, 46, 46] []), (fl lg []), (fl [255] [])], (some ⟨R80, 0, none⟩), 3)] := ⟨_, rfl⟩
      have hGpg : Goods pg v10 := by rw [hpg]; exact GS10.out
      have HEpg := Lib.hid hpg
      have hMpg : pg.map (·.1) = goodL lg l5 := by rw [hpg]; rfl
      have hLpg : pg.length = 6 := by rw [hpg]; rfl
      clear hpg
      go_wp2_with (refine list_val (op := { dst := some 82, op := _, type := _, pos := _, after := _, guard := _ }) rfl (v := .slice (some ⟨v10.heap.size, 0, none⟩) 6 6) (w' := v10.alloc (.cells (rowOf [((fl [] []), none, 0), ((fl [] [0]), none, 0), (⟨[], 1, true, [], []⟩, none, 0), (⟨[], 3, false, l5, []⟩, none, 0), ((dr [] []), none, 0), (dr [] [(fl [46, 46, 46] []), (fl lg []), (fl [255] [])], (some ⟨R80, 0, none⟩), 3)]) 24)) (by kernel_rfl) ?_; rw [← HEpg.out])
      have hApg := show At (v10.alloc (.cells (rowOf pg) 24)) v10.heap.size 24 (pg.flatMap Tri.cells) from At.new v10 (rowOf pg) 24
      have bapg := (Below.refl _ v10).alloc (Nat.le_refl _) (.cells (rowOf pg) 24)
      have hBpg := B10.out.trans (bapg.mono B10.out.size)
      have hG2pg := hGpg.below bapg
      obtain ⟨Rpg, hRpg⟩ : ∃ R, R = v10.heap.size := ⟨_, rfl⟩
      rw [← hRpg] at hApg ⊢
      generalize v10.alloc (.cells (rowOf pg) 24) = wpg at *
      have HApg := Lib.hid hApg
      have HBpg := Lib.hid hBpg
      have HGpg := Lib.hid hG2pg
      have HMpg := Lib.hid hMpg
      have HLpg := Lib.hid hLpg
      clear hApg hBpg hG2pg hGpg hMpg hLpg bapg hRpg HEpg B10 GS10
      go_loopw [5] (fun i wx => ∃ k : Nat, k ≤ 6 ∧ i = .int .i64 k ∧ At wx Rpg 24 (pg.flatMap Tri.cells) ∧ Goods pg wx ∧ Below w.heap.size w wx) (fun i _ => 6 - (intOf i).toNat)
      case atStart => exact ⟨0, Nat.zero_le _, rfl, HApg.out, HGpg.out, HBpg.out⟩
      clear HApg HGpg HBpg
      case round =>
        obtain ⟨k, hk, rfl, hA, hGo, hB⟩ := hrel
        have HA := Lib.hid hA
        have HGo := Lib.hid hGo
        have HB := Lib.hid hB
        clear hA hGo hB
        by_cases hlt : k < 6
        · have hlt' : (k : Int) < 6 := by omega
          obtain ⟨p, hp⟩ : ∃ p, pg[k]? = some p := ⟨_, List.getElem?_eq_getElem (by rw [HLpg.out]; exact hlt)⟩
          have hmem := List.mem_of_getElem? hp
          have hch : fitB 4 p.1 = true ∧ checkL 4 p.1 = 0 := by
            have h := good_all
            rw [List.all_eq_true] at h
            have h2 := h p.1 (by rw [← HLG.out, ← HL5.out]; rw [← HMpg.out]; exact List.mem_map_of_mem hmem)
            simp only [Bool.and_eq_true, beq_iff_eq] at h2
            exact h2
          obtain ⟨hfit, hres⟩ := hch
          have HP := Lib.hid hp
          have HF := Lib.hid (fit_good hfit)
          have HPH := Lib.hid (HGo.out p hmem)
          have HRES := Lib.hid hres
          clear hp hmem hfit hres
          go_wp2_with (first | (refine load_any rfl 24 (.tmp 91) rfl _ rfl p.cells _ (fun j v hj => (congrArg (fun x : Addr => wr.cell? (x.add j)) (by split <;> simp_all)).trans (row_cells2 HA.out HP.out j v hj)) Tryd.underlying24 rfl info_nd ?_))
          refine (check_any 4 p.1 p.2.1 p.2.2 wr (by omega) HPH.out HF.out.1 HF.out.2).mono ?_
          rintro e w5 ⟨rfl, b5⟩
          have HA5 := Lib.hid (HA.out.below b5 HA.out.lt)
          have HG5 := Lib.hid (HGo.out.below b5)
          have HB5 := Lib.hid (HB.out.trans (b5.mono HB.out.size))
          rw [HRES.out]
          clear b5 HA HGo HB HPH HP
          go_wp2_with fail
          go_roundw
          case rel => exact ⟨k + 1, by omega, by go_num, HA5.out, HG5.out, HB5.out⟩
          case measure => simp [intOf]; omega
        · obtain rfl : k = 6 := by omega
          clear HLpg HMpg HL5 HLG HA HGo hl56
          have B0 := HB
          clear HB
          go_wp2_with fail
          refine (dir_any [] [] none 0 wr).mono ?_
          rintro e w1 ⟨b1, rfl⟩
          have B1 := Lib.hid (B0.out.trans (b1.mono B0.out.size))
          clear b1 B0
          go_wp2_with (first
            | (with_reducible refine alloc_any rfl 24 rfl _ zero_nd ?_; intro u2 hu2 bu2 zu2; have HR2 := Lib.hid hu2; have BU2 := Lib.hid (B1.out.trans (bu2.mono B1.out.size)); clear hu2 bu2)
            | (refine store_any rfl 24 (.tmp 6) (.tmp 95) rfl w1.heap.size rfl (Nd.cells (dr [] []) none 0) rfl _ HR2.out rfl info_nd (nd_one (dr [] []) none 0) ?_; intro u3 hu3 tu3; have A3 := Lib.hid hu3; have B3 := Lib.hid (tu3.below BU2.out (fun i hi => by rw [List.mem_singleton] at hi; have := B1.out.size; omega) (Nat.le_refl _)); have Z3 := tu3.size; clear hu3 tu3))
          obtain ⟨p6, hp6⟩ : ∃ p6, p6 = w1.heap.size := ⟨_, rfl⟩
          have hp6w : w.heap.size ≤ p6 := by rw [hp6]; exact B1.out.size
          rw [← hp6] at A3 ⊢
          have hp6l : p6 < u3.heap.size := A3.out.lt
          clear HR2 BU2 B1 hp6
          go_loopw [7] (fun i wx => ∃ (k : Nat) (ao : Option Addr) (c : Nat), k ≤ 11 ∧ i = .int .i64 k ∧ At wx p6 24 (Nd.cells (dr [] (chN k).kids) ao c) ∧ Has (fun i => i ≠ p6) wx (k + 1) (dr [] (chN k).kids) ao ∧ Below w.heap.size w wx) (fun i _ => 11 - (intOf i).toNat)
          case atStart => exact ⟨0, none, 0, Nat.zero_le _, rfl, A3.out, Has.leaf _ _ 0 _ _ rfl, B3.out⟩
          clear A3 B3
          case round =>
            obtain ⟨k, ao, c, hk, rfl, hA, hH, hB⟩ := hrel
            have HA := Lib.hid hA
            have HH := Lib.hid hH
            have HB := Lib.hid hB
            have hpl := hA.lt
            clear hA hH hB
            obtain ⟨K, hK⟩ : ∃ K, K = (chN k).kids := ⟨_, rfl⟩
            rw [← hK] at HA HH
            have HKK := Lib.hid hK
            clear hK
            by_cases hlt : k < 11
            · have hlt' : (k : Int) < 11 := by omega
              go_wp2_with (first
                | (refine store_str_any rfl (.tmp 100) (.const (.string ⟨#[100]⟩)) rfl p6 0 rfl [100] rfl _ (Nd.cells (dr [100] K) ao c) HA.out (by simp [Nd.cells]) rfl ?_
                   intro w5 hu5 tu5
                   have A5 := Lib.hid hu5
                   have H5 := Lib.hid (Has.kept (S' := fun i => i ≠ p6) (fun _ h _ => h) (fun i hi hl => tu5.block i hl (by simpa using hi)) (k + 1) (dr [] K) ao HH.out)
                   have B5 := Lib.hid (tu5.below HB.out (fun i hi => by rw [List.mem_singleton] at hi; omega) (Nat.le_refl _))
                   have Z5 := tu5.size
                   clear hu5 tu5)
                | (refine load_any rfl 24 (.tmp 6) rfl ⟨p6, 0, none⟩ rfl (Nd.cells (dr [100] K) ao c) _ (fun j v hj => by rw [Addr.add0]; exact A5.out.cell j v hj) Tryd.underlying24 rfl info_nd ?_)
                | (with_reducible refine build_nd rfl (.tmp 101) rfl (Nd.cells (dr [100] K) ao c) rfl rfl ?_; intro u6 hu6 bu6 zu6; have HU6 := Lib.hid hu6; have BU6 := Lib.hid bu6; clear hu6 bu6))
              refine (dir_any [] [dr [100] K] (some ⟨w5.heap.size, 0, none⟩) 1 u6).mono ?_
              rintro e w7 ⟨b7, rfl⟩
              have hb7 := BU6.out.trans (b7.mono BU6.out.size)
              have A7 := Lib.hid (A5.out.below hb7 A5.out.lt)
              have H7 := Lib.hid ((H5.out.below hb7).alike2 (b := dr [100] K) rfl)
              have HU7 := Lib.hid (HU6.out.below b7 HU6.out.lt)
              have B7 := Lib.hid (B5.out.trans (hb7.mono B5.out.size))
              have HN7 := Lib.hid (has_row1 (S := fun i => i ≠ p6) [] (dr [100] K) ao c (show w5.heap.size ≠ p6 by omega) HU7.out H7.out)
              have Z7 := hb7.size
              clear b7 hb7 A5 H5 HU6 BU6 B5 HU7 H7 HA HH HB
              go_wp2_with (first
                | (refine store_any rfl 24 (.tmp 6) (.tmp 103) rfl p6 rfl (Nd.cells (dr [] [dr [100] K]) (some ⟨w5.heap.size, 0, none⟩) 1) rfl _ A7.out rfl info_nd (nd_one (dr [] [dr [100] K]) _ 1) ?_
                   intro w8 hu8 tu8
                   have A8 := Lib.hid hu8
                   have H8 := Lib.hid (Has.kept (S' := fun i => i ≠ p6) (fun _ h _ => h) (fun i hi hl => tu8.block i hl (by simpa using hi)) (k + 1 + 1) (dr [] [dr [100] K]) _ HN7.out)
                   have B8 := Lib.hid (tu8.below B7.out (fun i hi => by rw [List.mem_singleton] at hi; omega) (Nat.le_refl _))
                   clear hu8 tu8))
              have hk2 : (chN (k + 1)).kids = [dr [100] K] := by rw [HKK.out]; rfl
              go_roundw
              case rel => exact ⟨k + 1, some ⟨w5.heap.size, 0, none⟩, 1, by omega, by go_num, by rw [hk2]; exact A8.out, by rw [hk2]; exact H8.out, B8.out⟩
              case measure => simp [intOf]; omega
            · obtain rfl : k = 11 := by omega
              have hKe := HKK.out
              subst hKe
              have A0 := Lib.hid (show At wr p6 24 (Nd.cells (chN 11) ao c) from HA.out)
              have H0 := Lib.hid (show Has (fun i => i ≠ p6) wr 12 (chN 11) ao from HH.out)
              have B0 := HB
              obtain ⟨T, hT⟩ : ∃ T, T = chN 11 := ⟨_, rfl⟩
              have hTf : T = dr [] T.kids := by rw [hT]; rfl
              rw [← hT] at A0 H0
              have HT := Lib.hid hT
              have HTF := Lib.hid hTf
              have hz : 0 < w.heap.size := by obtain ⟨m, hm⟩ := HG.out; exact World.block_lt_of_cell? w _ hm
              clear hT hTf HA HH HB HKK hk hlt
              go_wp2_with (first
                | (refine load_any rfl 24 (.tmp 6) rfl ⟨p6, 0, none⟩ rfl (T.cells ao c) _ (fun j v hj => by rw [Addr.add0]; exact A0.out.cell j v hj) Tryd.underlying24 rfl info_nd ?_)
                | (with_reducible refine alloc_any (op := { dst := some 8, op := _, type := _, pos := _, after := _, guard := _ }) rfl 24 rfl _ zero_nd ?_; intro u2 hu2 bu2 zu2; have HR2 := Lib.hid hu2; have A2 := Lib.hid (A0.out.below bu2 A0.out.lt); have H2 := Lib.hid ((H0.out.mono (S' := fun i => i ≠ wr.heap.size) (fun i _ hl => by omega)).below bu2); have B2 := Lib.hid (B0.out.trans (bu2.mono B0.out.size)); clear hu2 bu2)
                | (refine store_any rfl 24 (.tmp 8) (.tmp 104) rfl wr.heap.size rfl (T.cells ao c) rfl _ HR2.out rfl info_nd (nd_one T ao c) ?_
                   intro u3 hu3 tu3
                   have C3 := Lib.hid hu3
                   have A3 := Lib.hid (A2.out.touch tu3 (by simp; omega))
                   have H3 := Lib.hid (Has.kept (S' := fun i => i ≠ wr.heap.size) (fun _ h _ => h) (fun i hi hl => tu3.block i hl (by simpa using hi)) 12 T ao H2.out)
                   have B3 := Lib.hid (tu3.below B2.out (fun i hi => by rw [List.mem_singleton] at hi; have := B0.out.size; omega) (Nat.le_refl _))
                   have z3 := tu3.size
                   clear hu3 tu3)
                | (refine store_str_any rfl (.tmp 105) (.const (.string ⟨#[100]⟩)) rfl wr.heap.size 0 rfl [100] rfl _ (Nd.cells (dr [100] T.kids) ao c) C3.out (by simp [Nd.cells]) (by rw [HTF.out]; rfl) ?_
                   intro u4 hu4 tu4
                   have C4 := Lib.hid hu4
                   have A4 := Lib.hid (A3.out.touch tu4 (by simp; omega))
                   have H4 := Lib.hid (Has.kept (S' := fun i => i ≠ wr.heap.size) (fun _ h _ => h) (fun i hi hl => tu4.block i hl (by simpa using hi)) 12 T ao H3.out)
                   have B4 := Lib.hid (tu4.below B3.out (fun i hi => by rw [List.mem_singleton] at hi; have := B0.out.size; omega) (Nat.le_refl _))
                   have z4 := tu4.size
                   clear hu4 tu4)
                | (refine load_any rfl 24 (.tmp 8) rfl ⟨wr.heap.size, 0, none⟩ rfl (Nd.cells (dr [100] T.kids) ao c) _ (fun j v hj => by rw [Addr.add0]; exact C4.out.cell j v hj) Tryd.underlying24 rfl info_nd ?_)
                | (with_reducible refine build_nd rfl (.tmp 106) rfl (Nd.cells (dr [100] T.kids) ao c) rfl rfl ?_; intro u5 hu5 bu5 zu5; have HU5 := Lib.hid hu5; have BU5 := Lib.hid bu5; clear hu5 bu5))
              refine (dir_any [] [dr [100] T.kids] (some ⟨u4.heap.size, 0, none⟩) 1 u5).mono ?_
              rintro e w7 ⟨b7, rfl⟩
              have hb7 := BU5.out.trans (b7.mono BU5.out.size)
              have A7 := Lib.hid (A4.out.below hb7 A4.out.lt)
              have C7 := Lib.hid (C4.out.below hb7 C4.out.lt)
              have H7 := Lib.hid (H4.out.below hb7)
              have HU7 := Lib.hid (HU5.out.below b7 HU5.out.lt)
              have B7 := Lib.hid (B4.out.trans (hb7.mono B4.out.size))
              obtain ⟨p8, hp8⟩ : ∃ p8, p8 = wr.heap.size := ⟨_, rfl⟩
              rw [← hp8] at C7 H7 ⊢
              have hc8 := C4.out.lt
              have hp68 : p6 < p8 := by omega
              have hw8 : w.heap.size ≤ p8 := by have := B0.out.size; omega
              have hr8 : u4.heap.size ≠ p8 := by omega
              obtain ⟨U, hU⟩ : ∃ U, U = dr [] [dr [100] T.kids] := ⟨_, rfl⟩
              have HN7 := Lib.hid (show Has (fun i => i ≠ p8) w7 13 U (some ⟨u4.heap.size, 0, none⟩) by rw [hU]; exact has_row1 (S := fun i => i ≠ p8) [] (dr [100] T.kids) ao c hr8 HU7.out (H7.out.alike2 rfl))
              rw [show (Nd.v ⟨[], 2, false, [], [dr [100] T.kids]⟩ (some ⟨u4.heap.size, 0, none⟩) 1) = U.v (some ⟨u4.heap.size, 0, none⟩) 1 by rw [hU]; rfl]
              have HUe := Lib.hid hU
              clear b7 hb7 HU5 BU5 A4 C4 H4 B4 HU7 hU HR2 A2 H2 B2 C3 A3 H3 B3 A0 H0 hp8
              go_wp2_with (first
                | (refine store_any rfl 24 (.tmp 8) (.tmp 108) rfl p8 rfl (U.cells (some ⟨u4.heap.size, 0, none⟩) 1) rfl _ C7.out rfl info_nd (nd_one U _ 1) ?_
                   intro u8 hu8 tu8
                   have C8 := Lib.hid hu8
                   have A8 := Lib.hid (A7.out.touch tu8 (by simp; omega))
                   have H8 := Lib.hid (Has.kept (S' := any_) (fun _ _ _ => trivial) (fun i hi hl => tu8.block i hl (by simpa using hi)) 12 T ao H7.out)
                   have N8 := Lib.hid (Has.kept (S' := any_) (fun _ _ _ => trivial) (fun i hi hl => tu8.block i hl (by simpa using hi)) 13 U _ HN7.out)
                   have B8 := Lib.hid (tu8.below B7.out (fun i hi => by rw [List.mem_singleton] at hi; omega) (Nat.le_refl _))
                   clear hu8 tu8)
                | (refine load_any rfl 24 (.tmp 8) rfl ⟨p8, 0, none⟩ rfl (U.cells (some ⟨u4.heap.size, 0, none⟩) 1) _ (fun j v hj => by rw [Addr.add0]; exact C8.out.cell j v hj) Tryd.underlying24 rfl info_nd ?_)
                | (with_reducible refine alloc_any (op := { dst := some 9, op := _, type := _, pos := _, after := _, guard := _ }) rfl 24 rfl _ zero_nd ?_; intro u9 hu9 bu9 zu9; have HR9 := Lib.hid hu9; have W9 := Lib.hid (Wc.mk (w := w) (p9 := u8.heap.size) (A8.out.below bu9 A8.out.lt) (C8.out.below bu9 C8.out.lt) (((H8.out.mono (S' := fun i => i ≠ u8.heap.size) (fun i _ hl => by omega)).below bu9).ups (by omega)) (((N8.out.mono (S' := fun i => i ≠ u8.heap.size) (fun i _ hl => by omega)).below bu9).ups (by omega)) (HG.out.below (B8.out.trans (bu9.mono B8.out.size))) (B8.out.trans (bu9.mono B8.out.size))); clear hu9 bu9)
                | (refine store_any rfl 24 (.tmp 9) (.tmp 109) rfl u8.heap.size rfl (U.cells (some ⟨u4.heap.size, 0, none⟩) 1) rfl _ HR9.out rfl info_nd (nd_one U _ 1) ?_
                   intro u10 hu10 tu10
                   have D10 := Lib.hid hu10
                   have W10 := Lib.hid (W9.out.touch tu10 (by have := A8.out.lt; omega) (by have := C8.out.lt; omega) B8.out.size hz (by have := B8.out.size; omega))
                   clear hu10 tu10))
              obtain ⟨p9, hp9⟩ : ∃ p9, p9 = u8.heap.size := ⟨_, rfl⟩
              have h69 : p6 ≠ p9 := by have := A8.out.lt; omega
              have h89 : p8 ≠ p9 := by have := C8.out.lt; omega
              have hw9 : w.heap.size ≤ p9 := by have := B8.out.size; omega
              have h09 : 0 ≠ p9 := by omega
              rw [← hp9] at W10 D10 ⊢
              obtain ⟨a8, ha8⟩ : ∃ a8 : Option Addr, a8 = some ⟨u4.heap.size, 0, none⟩ := ⟨_, rfl⟩
              rw [← ha8] at W10 D10 ⊢
              have HUT := Lib.hid (show U = chN 12 by rw [HUe.out, HT.out]; rfl)
              clear C8 A8 H8 N8 B8 HR9 W9 hp9 ha8 A7 C7 H7 B7 HN7 HUe HTF hc8 hr8
              go_loopw [10] (fun i wx => ∃ (k : Nat) (a9 : Option Addr) (c9 : Nat), k ≤ 7 ∧ i = .int .i64 k ∧ At wx p9 24 (Nd.cells (dr [] (chN (12 + k)).kids) a9 c9) ∧ Has (fun i => i ≠ p9) wx (30 + k) (dr [] (chN (12 + k)).kids) a9 ∧ Wc w p6 p8 p9 T U ao c a8 1 wx) (fun i _ => 7 - (intOf i).toNat)
              case atStart => exact ⟨0, a8, 1, Nat.zero_le _, rfl, by have h := D10.out; rw [HUT.out] at h; exact h, by have h := W10.out.u; rw [HUT.out] at h; exact h, W10.out⟩
              clear D10 W10
              case round =>
                obtain ⟨k, a9, c9, hk, rfl, hA, hH, hW⟩ := hrel
                have HA := Lib.hid hA
                have HH := Lib.hid hH
                have HW := Lib.hid hW
                have hpl := hA.lt
                clear hA hH hW
                obtain ⟨K, hK⟩ : ∃ K, K = (chN (12 + k)).kids := ⟨_, rfl⟩
                rw [← hK] at HA HH
                have HKK := Lib.hid hK
                clear hK
                by_cases hlt : k < 7
                · have hlt' : (k : Int) < 7 := by omega
                  go_wp2_with (first
                    | (refine store_str_any rfl (.tmp 114) (.const (.string ⟨#[100]⟩)) rfl p9 0 rfl [100] rfl _ (Nd.cells (dr [100] K) a9 c9) HA.out (by simp [Nd.cells]) rfl ?_
                       intro w5 hu5 tu5
                       have A5 := Lib.hid hu5
                       have H5 := Lib.hid (Has.kept (S' := fun i => i ≠ p9) (fun _ h _ => h) (fun i hi hl => tu5.block i hl (by simpa using hi)) (30 + k) (dr [] K) a9 HH.out)
                       have W5 := Lib.hid (HW.out.touch tu5 h69 h89 hw9 hz h09)
                       have Z5 := tu5.size
                       clear hu5 tu5)
                    | (refine load_any rfl 24 (.tmp 9) rfl ⟨p9, 0, none⟩ rfl (Nd.cells (dr [100] K) a9 c9) _ (fun j v hj => by rw [Addr.add0]; exact A5.out.cell j v hj) Tryd.underlying24 rfl info_nd ?_)
                    | (with_reducible refine build_nd rfl (.tmp 115) rfl (Nd.cells (dr [100] K) a9 c9) rfl rfl ?_; intro u6 hu6 bu6 zu6; have HU6 := Lib.hid hu6; have BU6 := Lib.hid bu6; clear hu6 bu6))
                  refine (dir_any [] [dr [100] K] (some ⟨w5.heap.size, 0, none⟩) 1 u6).mono ?_
                  rintro e w7 ⟨b7, rfl⟩
                  have hb7 := BU6.out.trans (b7.mono BU6.out.size)
                  have A7 := Lib.hid (A5.out.below hb7 A5.out.lt)
                  have H7 := Lib.hid ((H5.out.below hb7).alike2 (b := dr [100] K) rfl)
                  have HU7 := Lib.hid (HU6.out.below b7 HU6.out.lt)
                  have W7 := Lib.hid (W5.out.below hb7)
                  have HN7 := Lib.hid (has_row1 (S := fun i => i ≠ p9) [] (dr [100] K) a9 c9 (show w5.heap.size ≠ p9 by omega) HU7.out H7.out)
                  clear b7 hb7 A5 H5 HU6 BU6 W5 HU7 H7 HA HH HW
                  go_wp2_with (first
                    | (refine store_any rfl 24 (.tmp 9) (.tmp 117) rfl p9 rfl (Nd.cells (dr [] [dr [100] K]) (some ⟨w5.heap.size, 0, none⟩) 1) rfl _ A7.out rfl info_nd (nd_one (dr [] [dr [100] K]) _ 1) ?_
                       intro w8 hu8 tu8
                       have A8 := Lib.hid hu8
                       have H8 := Lib.hid (Has.kept (S' := fun i => i ≠ p9) (fun _ h _ => h) (fun i hi hl => tu8.block i hl (by simpa using hi)) (30 + k + 1) (dr [] [dr [100] K]) _ HN7.out)
                       have W8 := Lib.hid (W7.out.touch tu8 h69 h89 hw9 hz h09)
                       clear hu8 tu8))
                  have hk2 : (chN (12 + (k + 1))).kids = [dr [100] K] := by rw [HKK.out]; rfl
                  go_roundw
                  case rel => exact ⟨k + 1, some ⟨w5.heap.size, 0, none⟩, 1, by omega, by go_num, by rw [hk2]; exact A8.out, by rw [hk2]; exact H8.out, W8.out⟩
                  case measure => simp [intOf]; omega
                · obtain rfl : k = 7 := by omega
                  have hKe := HKK.out
                  subst hKe
                  have D0 := Lib.hid (show At wr p9 24 (Nd.cells (chN 19) a9 c9) from HA.out)
                  have E0 := Lib.hid (show Has (fun i => i ≠ p9) wr 37 (chN 19) a9 from HH.out)
                  obtain ⟨V, hV⟩ : ∃ V, V = chN 19 := ⟨_, rfl⟩
                  rw [← hV] at D0 E0
                  have hT1 : depthL 14 T = 12 := by rw [HT.out]; exact ch_twelve.1
                  have hT2 := fit_good (show fitB 30 T = true by rw [HT.out]; exact ch_twelve.2.1)
                  have hT3 : checkL 30 T = 0 := by rw [HT.out]; exact ch_twelve.2.2
                  have hU1 : depthL 14 U = 13 := by rw [HUT.out]; exact ch_thirteen.1
                  have hU2 := fit_good (show fitB 30 U = true by rw [HUT.out]; exact ch_thirteen.2.1)
                  have hU3 : checkL 30 U = 3 := by rw [HUT.out]; exact ch_thirteen.2.2.1
                  have hU4 : nodesL 30 1 U = [] := by rw [HUT.out]; exact ch_thirteen.2.2.2.1
                  have hU5 : eachL 30 U = [] := by rw [HUT.out]; exact ch_thirteen.2.2.2.2.1
                  have hU6 : sameL 30 U U = false := by rw [HUT.out]; exact ch_thirteen.2.2.2.2.2
                  have hU7 : Short 30 U := by rw [HUT.out]; exact short_ch 30 12
                  have hU8 : (pathsL 30 U []).length ≤ 1000000 := by rw [HUT.out, show (pathsL 30 (chN 12) []).length = 12 by kernel_rfl]; omega
                  have hV1 : depthL 14 V = 14 := by rw [hV]; exact ch_twenty.1
                  have hV2 := fit_good (show fitB 37 V = true by rw [hV]; exact ch_twenty.2.1)
                  have hV3 : checkL 37 V = 3 := by rw [hV]; exact ch_twenty.2.2
                  have FT1 := Lib.hid hT1
                  have FT2 := Lib.hid hT2
                  have FT3 := Lib.hid hT3
                  have FU1 := Lib.hid hU1
                  have FU2 := Lib.hid hU2
                  have FU3 := Lib.hid hU3
                  have FU5 := Lib.hid hU5
                  have FU6 := Lib.hid hU6
                  have FU7 := Lib.hid hU7
                  have FV1 := Lib.hid hV1
                  have FV2 := Lib.hid hV2
                  have FV3 := Lib.hid hV3
                  have hS1 : ((nodesL 30 1 U).length : Int) = 0 := by rw [hU4]; rfl
                  have hS2 : ((bytesL (nodesL 30 1 U) : Nat) : Int) = 0 := by rw [hU4]; rfl
                  have FS1 := Lib.hid hS1
                  have FS2 := Lib.hid hS2
                  have W0 := HW
                  have HWA := Lib.hid HW.out.c
                  clear hT1 hT2 hT3 hU1 hU3 hU4 hU5 hU6 hU7 hV1 hV2 hV3 hU2 HA HH HKK hV HW hlt hk HT HUT hS1 hS2
                  go_wp2_with (first | (refine load_any rfl 24 (.tmp 8) rfl ⟨p8, 0, none⟩ rfl (U.cells a8 1) _ (fun j v hj => by rw [Addr.add0]; exact HWA.out.cell j v hj) Tryd.underlying24 rfl info_nd ?_))
                  refine (size_any 30 U a8 1 wr (by omega) W0.out.u.any FU2.out.1 FU2.out.2).mono ?_
                  rintro e v1 ⟨rfl, bb1⟩
                  have W1 := Lib.hid (W0.out.below bb1)
                  have D1 := Lib.hid (D0.out.below bb1 D0.out.lt)
                  have E1 := Lib.hid (E0.out.below bb1)
                  clear W0 D0 E0
                  clear bb1
                  rw [FS1.out, FS2.out]
                  obtain ⟨xa, xb, xc, xd, xe⟩ := W1.out.a.field
                  obtain ⟨ya, yb, yc, yd, ye⟩ := W1.out.c.field
                  obtain ⟨za, zb, zc, zd, ze⟩ := D1.out.field
                  go_wp2_with fail
                  clear xa xb xc xd xe ya yb yc yd ye za zb zc zd ze
                  refine (works_any v1 W1.out.g).mono ?_
                  rintro e v2 ⟨rfl, bb2⟩
                  have W2 := Lib.hid (W1.out.below bb2)
                  have D2 := Lib.hid (D1.out.below bb2 D1.out.lt)
                  have E2 := Lib.hid (E1.out.below bb2)
                  clear W1 D1 E1
                  clear bb2
                  obtain ⟨xa, xb, xc, xd, xe⟩ := W2.out.a.field
                  obtain ⟨ya, yb, yc, yd, ye⟩ := W2.out.c.field
                  obtain ⟨za, zb, zc, zd, ze⟩ := D2.out.field
                  go_wp2_with fail
                  clear xa xb xc xd xe ya yb yc yd ye za zb zc zd ze
                  refine (deep_any 30 T ao c v2 W2.out.t.any).mono ?_
                  rintro e v3 ⟨rfl, bb3⟩
                  have W3 := Lib.hid (W2.out.below bb3)
                  have D3 := Lib.hid (D2.out.below bb3 D2.out.lt)
                  have E3 := Lib.hid (E2.out.below bb3)
                  clear W2 D2 E2
                  clear bb3
                  rw [FT1.out]
                  obtain ⟨xa, xb, xc, xd, xe⟩ := W3.out.a.field
                  obtain ⟨ya, yb, yc, yd, ye⟩ := W3.out.c.field
                  obtain ⟨za, zb, zc, zd, ze⟩ := D3.out.field
                  go_wp2_with fail
                  clear xa xb xc xd xe ya yb yc yd ye za zb zc zd ze
                  refine (check_any 30 T ao c v3 (by omega) W3.out.t.any FT2.out.1 FT2.out.2).mono ?_
                  rintro e v4 ⟨rfl, bb4⟩
                  have W4 := Lib.hid (W3.out.below bb4)
                  have D4 := Lib.hid (D3.out.below bb4 D3.out.lt)
                  have E4 := Lib.hid (E3.out.below bb4)
                  clear W3 D3 E3
                  clear bb4
                  rw [FT3.out]
                  obtain ⟨xa, xb, xc, xd, xe⟩ := W4.out.a.field
                  obtain ⟨ya, yb, yc, yd, ye⟩ := W4.out.c.field
                  obtain ⟨za, zb, zc, zd, ze⟩ := D4.out.field
                  go_wp2_with fail
                  clear xa xb xc xd xe ya yb yc yd ye za zb zc zd ze
                  refine (deep_any 30 U a8 1 v4 W4.out.u.any).mono ?_
                  rintro e v5 ⟨rfl, bb5⟩
                  have W5 := Lib.hid (W4.out.below bb5)
                  have D5 := Lib.hid (D4.out.below bb5 D4.out.lt)
                  have E5 := Lib.hid (E4.out.below bb5)
                  clear W4 D4 E4
                  clear bb5
                  rw [FU1.out]
                  obtain ⟨xa, xb, xc, xd, xe⟩ := W5.out.a.field
                  obtain ⟨ya, yb, yc, yd, ye⟩ := W5.out.c.field
                  obtain ⟨za, zb, zc, zd, ze⟩ := D5.out.field
                  go_wp2_with fail
                  clear xa xb xc xd xe ya yb yc yd ye za zb zc zd ze
                  refine (check_any 30 U a8 1 v5 (by omega) W5.out.u.any FU2.out.1 FU2.out.2).mono ?_
                  rintro e v6 ⟨rfl, bb6⟩
                  have W6 := Lib.hid (W5.out.below bb6)
                  have D6 := Lib.hid (D5.out.below bb6 D5.out.lt)
                  have E6 := Lib.hid (E5.out.below bb6)
                  clear W5 D5 E5
                  clear bb6
                  rw [FU3.out]
                  obtain ⟨xa, xb, xc, xd, xe⟩ := W6.out.a.field
                  obtain ⟨ya, yb, yc, yd, ye⟩ := W6.out.c.field
                  obtain ⟨za, zb, zc, zd, ze⟩ := D6.out.field
                  go_wp2_with fail
                  clear xa xb xc xd xe ya yb yc yd ye za zb zc zd ze
                  refine (each_any 30 U a8 1 v6 W6.out.u.any FU7.out (by omega) hU8).mono ?_
                  rintro e v7 ⟨bb7, sv, rfl, hsv⟩
                  have W7 := Lib.hid (W6.out.below bb7)
                  have D7 := Lib.hid (D6.out.below bb7 D6.out.lt)
                  have E7 := Lib.hid (E6.out.below bb7)
                  clear W6 D6 E6
                  clear bb7
                  rw [FU5.out] at hsv
                  obtain ⟨sa, sc, rfl, _⟩ := hsv
                  rw [show ([] : List (List UInt8)).length = 0 from rfl]
                  obtain ⟨xa, xb, xc, xd, xe⟩ := W7.out.a.field
                  obtain ⟨ya, yb, yc, yd, ye⟩ := W7.out.c.field
                  obtain ⟨za, zb, zc, zd, ze⟩ := D7.out.field
                  go_wp2_with fail
                  clear xa xb xc xd xe ya yb yc yd ye za zb zc zd ze
                  refine (same_wrap 30 30 U U a8 a8 1 1 v7 (by omega) W7.out.u.any W7.out.u.any).mono ?_
                  rintro e v8 ⟨rfl, bb8⟩
                  have W8 := Lib.hid (W7.out.below bb8)
                  have D8 := Lib.hid (D7.out.below bb8 D7.out.lt)
                  have E8 := Lib.hid (E7.out.below bb8)
                  clear W7 D7 E7
                  clear bb8
                  rw [FU6.out]
                  obtain ⟨xa, xb, xc, xd, xe⟩ := W8.out.a.field
                  obtain ⟨ya, yb, yc, yd, ye⟩ := W8.out.c.field
                  obtain ⟨za, zb, zc, zd, ze⟩ := D8.out.field
                  go_wp2_with fail
                  clear xa xb xc xd xe ya yb yc yd ye za zb zc zd ze
                  refine (deep_any 37 V a9 c9 v8 E8.out.any).mono ?_
                  rintro e v9 ⟨rfl, bb9⟩
                  have W9 := Lib.hid (W8.out.below bb9)
                  have D9 := Lib.hid (D8.out.below bb9 D8.out.lt)
                  have E9 := Lib.hid (E8.out.below bb9)
                  clear W8 D8 E8
                  clear bb9
                  rw [FV1.out]
                  obtain ⟨xa, xb, xc, xd, xe⟩ := W9.out.a.field
                  obtain ⟨ya, yb, yc, yd, ye⟩ := W9.out.c.field
                  obtain ⟨za, zb, zc, zd, ze⟩ := D9.out.field
                  go_wp2_with fail
                  clear xa xb xc xd xe ya yb yc yd ye za zb zc zd ze
                  refine (check_any 37 V a9 c9 v9 (by omega) E9.out.any FV2.out.1 FV2.out.2).mono ?_
                  rintro e v10 ⟨rfl, bb10⟩
                  have W10 := Lib.hid (W9.out.below bb10)
                  have D10 := Lib.hid (D9.out.below bb10 D9.out.lt)
                  have E10 := Lib.hid (E9.out.below bb10)
                  clear W9 D9 E9
                  clear bb10
                  rw [FV3.out]
                  obtain ⟨xa, xb, xc, xd, xe⟩ := W10.out.a.field
                  obtain ⟨ya, yb, yc, yd, ye⟩ := W10.out.c.field
                  obtain ⟨za, zb, zc, zd, ze⟩ := D10.out.field
                  go_wp2_with fail
                  clear xa xb xc xd xe ya yb yc yd ye za zb zc zd ze
                  refine (repeat_any 120 100001 v10 (by omega) (by omega)).mono ?_
                  rintro e v11 ⟨bb11, rfl⟩
                  have W11 := Lib.hid (W10.out.below bb11)
                  have D11 := Lib.hid (D10.out.below bb11 D10.out.lt)
                  have E11 := Lib.hid (E10.out.below bb11)
                  clear W10 D10 E10
                  clear bb11
                  obtain ⟨lx100001, hlx100001⟩ : ∃ lx, lx = rep 120 100001 := ⟨_, rfl⟩
                  rw [← hlx100001]
                  have HX100001 := Lib.hid hlx100001
                  clear hlx100001
                  obtain ⟨xa, xb, xc, xd, xe⟩ := W11.out.a.field
                  obtain ⟨ya, yb, yc, yd, ye⟩ := W11.out.c.field
                  obtain ⟨za, zb, zc, zd, ze⟩ := D11.out.field
                  go_wp2_with fail
                  clear xa xb xc xd xe ya yb yc yd ye za zb zc zd ze
                  refine (file_any [] lx100001 v11).mono ?_
                  rintro e v12 ⟨bb12, rfl⟩
                  have W12 := Lib.hid (W11.out.below bb12)
                  have D12 := Lib.hid (D11.out.below bb12 D11.out.lt)
                  have E12 := Lib.hid (E11.out.below bb12)
                  clear W11 D11 E11
                  clear bb12
                  have hbig100001 : fitB 4 (fl [] lx100001) = true ∧ checkL 4 (fl [] lx100001) = 3 := by rw [HX100001.out]; exact big_file 100001 (by omega)
                  have HBF100001 := Lib.hid (fit_good hbig100001.1)
                  have HBC100001 := Lib.hid hbig100001.2
                  clear hbig100001
                  obtain ⟨xa, xb, xc, xd, xe⟩ := W12.out.a.field
                  obtain ⟨ya, yb, yc, yd, ye⟩ := W12.out.c.field
                  obtain ⟨za, zb, zc, zd, ze⟩ := D12.out.field
                  go_wp2_with fail
                  clear xa xb xc xd xe ya yb yc yd ye za zb zc zd ze
                  refine (check_any 4 (fl [] lx100001) none 0 v12 (by omega) (Has.leaf _ _ 3 _ _ rfl) HBF100001.out.1 HBF100001.out.2).mono ?_
                  rintro e v13 ⟨rfl, bb13⟩
                  have W13 := Lib.hid (W12.out.below bb13)
                  have D13 := Lib.hid (D12.out.below bb13 D12.out.lt)
                  have E13 := Lib.hid (E12.out.below bb13)
                  clear W12 D12 E12
                  clear bb13
                  rw [HBC100001.out]
                  obtain ⟨xa, xb, xc, xd, xe⟩ := W13.out.a.field
                  obtain ⟨ya, yb, yc, yd, ye⟩ := W13.out.c.field
                  obtain ⟨za, zb, zc, zd, ze⟩ := D13.out.field
                  go_wp2_with fail
                  clear xa xb xc xd xe ya yb yc yd ye za zb zc zd ze
                  refine (repeat_any 120 100000 v13 (by omega) (by omega)).mono ?_
                  rintro e v14 ⟨bb14, rfl⟩
                  have W14 := Lib.hid (W13.out.below bb14)
                  have D14 := Lib.hid (D13.out.below bb14 D13.out.lt)
                  have E14 := Lib.hid (E13.out.below bb14)
                  clear W13 D13 E13
                  clear bb14
                  obtain ⟨lx100000, hlx100000⟩ : ∃ lx, lx = rep 120 100000 := ⟨_, rfl⟩
                  rw [← hlx100000]
                  have HX100000 := Lib.hid hlx100000
                  clear hlx100000
                  obtain ⟨xa, xb, xc, xd, xe⟩ := W14.out.a.field
                  obtain ⟨ya, yb, yc, yd, ye⟩ := W14.out.c.field
                  obtain ⟨za, zb, zc, zd, ze⟩ := D14.out.field
                  go_wp2_with fail
                  clear xa xb xc xd xe ya yb yc yd ye za zb zc zd ze
                  refine (file_any [] lx100000 v14).mono ?_
                  rintro e v15 ⟨bb15, rfl⟩
                  have W15 := Lib.hid (W14.out.below bb15)
                  have D15 := Lib.hid (D14.out.below bb15 D14.out.lt)
                  have E15 := Lib.hid (E14.out.below bb15)
                  clear W14 D14 E14
                  clear bb15
                  have hbig100000 : fitB 4 (fl [] lx100000) = true ∧ checkL 4 (fl [] lx100000) = 0 := by rw [HX100000.out]; exact big_file 100000 (by omega)
                  have HBF100000 := Lib.hid (fit_good hbig100000.1)
                  have HBC100000 := Lib.hid hbig100000.2
                  clear hbig100000
                  obtain ⟨xa, xb, xc, xd, xe⟩ := W15.out.a.field
                  obtain ⟨ya, yb, yc, yd, ye⟩ := W15.out.c.field
                  obtain ⟨za, zb, zc, zd, ze⟩ := D15.out.field
                  go_wp2_with fail
                  clear xa xb xc xd xe ya yb yc yd ye za zb zc zd ze
                  refine (check_any 4 (fl [] lx100000) none 0 v15 (by omega) (Has.leaf _ _ 3 _ _ rfl) HBF100000.out.1 HBF100000.out.2).mono ?_
                  rintro e v16 ⟨rfl, bb16⟩
                  have W16 := Lib.hid (W15.out.below bb16)
                  have D16 := Lib.hid (D15.out.below bb16 D15.out.lt)
                  have E16 := Lib.hid (E15.out.below bb16)
                  clear W15 D15 E15
                  clear bb16
                  rw [HBC100000.out]
                  obtain ⟨xa, xb, xc, xd, xe⟩ := W16.out.a.field
                  obtain ⟨ya, yb, yc, yd, ye⟩ := W16.out.c.field
                  obtain ⟨za, zb, zc, zd, ze⟩ := D16.out.field
                  go_wp2_with fail
                  clear xa xb xc xd xe ya yb yc yd ye za zb zc zd ze
                  refine (dir_any [97] [] none 0 v16).mono ?_
                  rintro e v17 ⟨bb17, rfl⟩
                  have W17 := Lib.hid (W16.out.below bb17)
                  have D17 := Lib.hid (D16.out.below bb17 D16.out.lt)
                  have E17 := Lib.hid (E16.out.below bb17)
                  clear W16 D16 E16
                  clear bb17
                  obtain ⟨xa, xb, xc, xd, xe⟩ := W17.out.a.field
                  obtain ⟨ya, yb, yc, yd, ye⟩ := W17.out.c.field
                  obtain ⟨za, zb, zc, zd, ze⟩ := D17.out.field
                  go_wp2_with (refine list_val_g (op := { dst := some 190, op := _, type := _, pos := _, after := _, guard := _ }) (by kernel_rfl) (v := .slice (some ⟨v17.heap.size, 0, none⟩) 1 1) (w' := v17.alloc (.cells (Nd.cells (dr [97] []) none 0).toArray 24)) (by kernel_rfl) ?_)
                  clear xa xb xc xd xe ya yb yc yd ye za zb zc zd ze
                  have hAr1 := At.new v17 (Nd.cells (dr [97] []) none 0).toArray 24
                  have bar1 := (Below.refl _ v17).alloc (Nat.le_refl _) (.cells (Nd.cells (dr [97] []) none 0).toArray 24)
                  obtain ⟨R1, hR1⟩ : ∃ R, R = v17.heap.size := ⟨_, rfl⟩
                  rw [← hR1] at hAr1 ⊢
                  generalize v17.alloc (.cells (Nd.cells (dr [97] []) none 0).toArray 24) = v18 at *
                  have HAr1 := Lib.hid hAr1
                  have W18 := Lib.hid (W17.out.below bar1)
                  have D18 := Lib.hid (D17.out.below bar1 D17.out.lt)
                  have E18 := Lib.hid (E17.out.below bar1)
                  clear W17 D17 E17
                  clear hAr1 bar1 hR1
                  refine (dir_any [] [dr [97] []] (some ⟨R1, 0, none⟩) 1 v18).mono ?_
                  rintro e v19 ⟨bb19, rfl⟩
                  have HP1 := Lib.hid (has_row1 (S := any_) (h := 3) [] (dr [97] []) none 0 trivial (HAr1.out.below bb19 HAr1.out.lt) (Has.leaf _ _ 2 _ _ rfl))
                  have W19 := Lib.hid (W18.out.below bb19)
                  have D19 := Lib.hid (D18.out.below bb19 D18.out.lt)
                  have E19 := Lib.hid (E18.out.below bb19)
                  clear W18 D18 E18
                  clear bb19 HAr1
                  obtain ⟨xa, xb, xc, xd, xe⟩ := W19.out.a.field
                  obtain ⟨ya, yb, yc, yd, ye⟩ := W19.out.c.field
                  obtain ⟨za, zb, zc, zd, ze⟩ := D19.out.field
                  go_wp2_with (first
                    | (refine list_val_g (op := { dst := some 192, op := _, type := _, pos := _, after := _, guard := _ }) (by kernel_rfl) (v := .slice (some ⟨v19.heap.size, 0, none⟩) 0 0) (w' := v19.alloc (.cells #[] 24)) (by kernel_rfl) ?_)
                    | (refine list_val_g (op := { dst := some 193, op := _, type := _, pos := _, after := _, guard := _ }) (by kernel_rfl) (v := .agg (Nd.cells (dr [97] []) (some ⟨v19.heap.size, 0, none⟩) 0).toArray) (w' := v19.alloc (.cells #[] 24)) (by kernel_rfl) ?_)
                    | (refine list_val_g (op := { dst := some 194, op := _, type := _, pos := _, after := _, guard := _ }) (by kernel_rfl) (v := .slice (some ⟨(v19.alloc (.cells #[] 24)).heap.size, 0, none⟩) 1 1) (w' := (v19.alloc (.cells #[] 24)).alloc (.cells (Nd.cells (dr [97] []) (some ⟨v19.heap.size, 0, none⟩) 0).toArray 24)) (by kernel_rfl) ?_))
                  clear xa xb xc xd xe ya yb yc yd ye za zb zc zd ze
                  have hb2 := (Below.refl _ v19).alloc (Nat.le_refl _) (.cells #[] 24)
                  have hA2 := At.new (v19.alloc (.cells #[] 24)) (Nd.cells (dr [97] []) (some ⟨v19.heap.size, 0, none⟩) 0).toArray 24
                  have hb3 := hb2.alloc hb2.size (.cells (Nd.cells (dr [97] []) (some ⟨v19.heap.size, 0, none⟩) 0).toArray 24)
                  rw [show (v19.alloc (.cells #[] 24)).heap.size = v19.heap.size + 1 from World.size_alloc _ _] at hA2
                  obtain ⟨R2, hR2⟩ : ∃ R, R = v19.heap.size + 1 := ⟨_, rfl⟩
                  rw [← hR2] at hA2 ⊢
                  generalize (v19.alloc (.cells #[] 24)).alloc (.cells (Nd.cells (dr [97] []) (some ⟨v19.heap.size, 0, none⟩) 0).toArray 24) = v20 at *
                  have HA2 := Lib.hid hA2
                  have HP2 := Lib.hid (HP1.out.below hb3)
                  have W20 := Lib.hid (W19.out.below hb3)
                  have D20 := Lib.hid (D19.out.below hb3 D19.out.lt)
                  have E20 := Lib.hid (E19.out.below hb3)
                  clear W19 D19 E19
                  clear hA2 hb2 hb3 hR2 HP1
                  refine (dir_any [] [dr [97] []] (some ⟨R2, 0, none⟩) 1 v20).mono ?_
                  rintro e v21 ⟨bb21, rfl⟩
                  have HP3 := Lib.hid (HP2.out.below bb21)
                  have HP4 := Lib.hid (has_row1 (S := any_) (h := 3) [] (dr [97] []) (some ⟨v19.heap.size, 0, none⟩) 0 trivial (HA2.out.below bb21 HA2.out.lt) (Has.leaf _ _ 2 _ _ rfl))
                  have W21 := Lib.hid (W20.out.below bb21)
                  have D21 := Lib.hid (D20.out.below bb21 D20.out.lt)
                  have E21 := Lib.hid (E20.out.below bb21)
                  clear W20 D20 E20
                  clear bb21 HA2 HP2
                  obtain ⟨xa, xb, xc, xd, xe⟩ := W21.out.a.field
                  obtain ⟨ya, yb, yc, yd, ye⟩ := W21.out.c.field
                  obtain ⟨za, zb, zc, zd, ze⟩ := D21.out.field
                  go_wp2_with fail
                  clear xa xb xc xd xe ya yb yc yd ye za zb zc zd ze
                  refine (same_wrap 4 4 (dr [] [dr [97] []]) (dr [] [dr [97] []]) (some ⟨R1, 0, none⟩) (some ⟨R2, 0, none⟩) 1 1 v21 (by omega) HP3.out HP4.out).mono ?_
                  rintro e v22 ⟨rfl, bb22⟩
                  have W22 := Lib.hid (W21.out.below bb22)
                  have D22 := Lib.hid (D21.out.below bb22 D21.out.lt)
                  have E22 := Lib.hid (E21.out.below bb22)
                  clear W21 D21 E21
                  clear bb22
                  rw [same_alike]
                  obtain ⟨xa, xb, xc, xd, xe⟩ := W22.out.a.field
                  obtain ⟨ya, yb, yc, yd, ye⟩ := W22.out.c.field
                  obtain ⟨za, zb, zc, zd, ze⟩ := D22.out.field
                  go_wp2_with fail
                  clear xa xb xc xd xe ya yb yc yd ye za zb zc zd ze
                  refine (file_any [] [120] v22).mono ?_
                  rintro e v23 ⟨bb23, rfl⟩
                  have W23 := Lib.hid (W22.out.below bb23)
                  have D23 := Lib.hid (D22.out.below bb23 D22.out.lt)
                  have E23 := Lib.hid (E22.out.below bb23)
                  clear W22 D22 E22
                  clear bb23
                  obtain ⟨xa, xb, xc, xd, xe⟩ := W23.out.a.field
                  obtain ⟨ya, yb, yc, yd, ye⟩ := W23.out.c.field
                  obtain ⟨za, zb, zc, zd, ze⟩ := D23.out.field
                  go_wp2_with fail
                  clear xa xb xc xd xe ya yb yc yd ye za zb zc zd ze
                  refine (each_any 4 (fl [] [120]) none 0 v23 (Has.leaf _ _ 3 _ _ rfl) (fun m hm => by cases hm) (by omega) (by decide)).mono ?_
                  rintro e v24 ⟨bb24, tv, rfl, htv⟩
                  have W24 := Lib.hid (W23.out.below bb24)
                  have D24 := Lib.hid (D23.out.below bb24 D23.out.lt)
                  have E24 := Lib.hid (E23.out.below bb24)
                  clear W23 D23 E23
                  clear bb24
                  rw [each_leaf] at htv
                  obtain ⟨ta, tc, rfl, _⟩ := htv
                  rw [show ([] : List (List UInt8)).length = 0 from rfl]
                  obtain ⟨xa, xb, xc, xd, xe⟩ := W24.out.a.field
                  obtain ⟨ya, yb, yc, yd, ye⟩ := W24.out.c.field
                  obtain ⟨za, zb, zc, zd, ze⟩ := D24.out.field
                  go_wp2_with fail
                  clear xa xb xc xd xe ya yb yc yd ye za zb zc zd ze
                  refine (texts_any ta none [] [] tc 0 (by decide) v24 (fun j t hj => by cases hj) (fun j t hj => by cases hj)).mono ?_
                  rintro e v25 ⟨rfl, bb25⟩
                  have W25 := Lib.hid (W24.out.below bb25)
                  have D25 := Lib.hid (D24.out.below bb25 D24.out.lt)
                  have E25 := Lib.hid (E24.out.below bb25)
                  clear W24 D24 E24
                  clear bb25
                  rw [show decide (([] : List (List UInt8)) = []) = true from rfl]
                  go_wp2_with fail
                  go_ret
                  exact ⟨rfl, W25.out.b⟩
end Go.Proofs.YtfflkpggmhlfpaaDoor
