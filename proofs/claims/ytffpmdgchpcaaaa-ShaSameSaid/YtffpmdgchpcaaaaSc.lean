/- A block's words are added. -/
import Derived.Test.YtffpmdgchpcaaaaSb
namespace Go.Proofs.Ytffpmdgchpcaaaa
open Go.RowKit

def bigE (x : Wd) : Wd := turn [6, 11, 25] x
def bigA (x : Wd) : Wd := turn [2, 13, 22] x
def rx (e f g h k w : Wd) : Wd := h + bigE e + (e &&& f ^^^ ~~~e &&& g) + k + w
def ry (a b c : Wd) : Wd := bigA a + (a &&& b ^^^ a &&& c ^^^ b &&& c)
/-- one of the 64 times -/
def rnd (k w : Wd) : List Wd → List Wd
  | [a, b, c, d, e, f, g, h] => [rx e f g h k w + ry a b c, a, b, c, d + rx e f g h k w, e, f, g]
  | l => l
def rnds (ks ws st : List Wd) : Nat → List Wd
  | 0 => st
  | n + 1 => rnd (ks[n]?.getD 0) (ws[n]?.getD 0) (rnds ks ws st n)
theorem len8 {l : List Wd} (h : l.length = 8) : ∃ a b c d e f g k, l = [a, b, c, d, e, f, g, k] := by
  match l, h with
  | [a, b, c, d, e, f, g, k], _ => exact ⟨a, b, c, d, e, f, g, k, rfl⟩
theorem rnd_len (k w : Wd) (l : List Wd) (h : l.length = 8) : (rnd k w l).length = 8 := by
  obtain ⟨a, b, c, d, e, f, g, k, rfl⟩ := len8 h
  rfl
theorem rnds_len (ks ws st : List Wd) (h : st.length = 8) (n : Nat) : (rnds ks ws st n).length = 8 := by
  induction n with
  | zero => exact h
  | succ n ih => exact rnd_len _ _ _ ih
/-- what comes of the eight words by a block's words -/
def comp (ks ws st : List Wd) : List Wd := List.zipWith (· + ·) st (rnds ks ws st 64)
theorem comp_len (ks ws st : List Wd) (h : st.length = 8) : (comp ks ws st).length = 8 := by
  simp [comp, h, rnds_len ks ws st h]

theorem At.made {v v' : World} {n : Nat} {c : Array Value} {T : TypeId} (h : v.heap.size = n) (e : v.alloc (.cells c T) = v') : At v' n T c.toList := by
  subst h; rw [← e]; exact At.new v c T
theorem At.step {v v' : World} {B : Nat} {T : TypeId} {l : List Value} {o : Obj} (h : At v B T l) (e : v.alloc o = v') : At v' B T l := by
  rw [← e]; exact h.alloc o
theorem below_step {S : Nat} {u v v' : World} {o : Obj} (h : Below S u v) (hs : S ≤ v.heap.size) (e : v.alloc o = v') : Below S u v' := by
  rw [← e]; exact h.alloc hs o
theorem size_step {v v' : World} {o : Obj} {n : Nat} (h : v.heap.size = n) (e : v.alloc o = v') : v'.heap.size = n + 1 := by
  rw [← e, World.size_alloc, h]

theorem wv_get (ws : List Wd) (j : Nat) (h : j < ws.length) : (ws.map wv)[j]? = some (.int .u32 (wi (ws[j]?.getD 0))) := by
  simp [List.getElem?_eq_getElem h, wv]
theorem one8 (a b c d e f g h : Int) : (#[.int .u32 a, .int .u32 b, .int .u32 c, .int .u32 d, .int .u32 e, .int .u32 f, .int .u32 g, .int .u32 h] : Array Value).all (·.oneCell') = true := by
  refine Array.all_eq_true_iff_forall_mem.2 fun v hv => ?_
  simp only [List.mem_toArray, List.mem_cons, List.not_mem_nil, or_false] at hv
  rcases hv with rfl | rfl | rfl | rfl | rfl | rfl | rfl | rfl <;> rfl
theorem index31 (ws : List Wd) (i : Nat) (h : i < ws.length) (h8 : (i:Int) < 8) (w : World) : (Instr.index 42 (.agg (ws.map wv).toArray) (.int .i64 i)).run Try.prog w = .ok (.int .u32 (wi (ws[i]?.getD 0))) w := by
  have h9 : i < 8 := by omega
  simp [Instr.index, run_underlying Try.underlying42, asIntOf, Go.part, go_sem, h9, List.getElem?_eq_getElem h, wv]
/-- the words, added as far as place i -/
def upto (st now : List Wd) (i : Nat) : List Wd := (List.zipWith (· + ·) st now).take i ++ st.drop i
theorem upto_zero (st now : List Wd) : upto st now 0 = st := by simp [upto]
theorem upto_len (st now : List Wd) (i : Nat) (h : st.length = now.length) (hi : i ≤ st.length) : (upto st now i).length = st.length := by
  simp only [upto, List.length_append, List.length_take, List.length_zipWith, List.length_drop]; omega
theorem upto_get (st now : List Wd) (i : Nat) (h : st.length = now.length) (hi : i < st.length) : (upto st now i)[i]?.getD 0 = st[i]?.getD 0 := by
  have hl : ((List.zipWith (· + ·) st now).take i).length = i := by simp only [List.length_take, List.length_zipWith]; omega
  unfold upto
  rw [List.getElem?_append_right (by omega), hl]
  simp
theorem upto_set (st now : List Wd) (i : Nat) (h : st.length = now.length) (hi : i < st.length) : (upto st now i).set i (st[i]?.getD 0 + now[i]?.getD 0) = upto st now (i + 1) := by
  have hz : i < (List.zipWith (· + ·) st now).length := by simp; omega
  have hl : ((List.zipWith (· + ·) st now).take i).length = i := by simp; omega
  unfold upto
  rw [List.set_append_right _ _ (by omega), hl, Nat.sub_self, List.drop_eq_getElem_cons hi, List.set_cons_zero, List.take_succ_eq_append_getElem hz]
  simp [List.getElem?_eq_getElem hi, List.getElem?_eq_getElem (show i < now.length by omega)]
theorem upto_full (st now : List Wd) (n : Nat) (h : st.length = now.length) (hn : n = st.length) : upto st now n = List.zipWith (· + ·) st now := by
  subst hn
  unfold upto
  rw [List.take_of_length_le (by simp; omega), List.drop_length, List.append_nil]
/-- the blocks of 'added', while it goes on -/
structure Held (w wx : World) (n0 n8 : Nat) (S W K N : List Value) : Prop where
  s : At wx n0 42 S
  x : At wx (n0 + 1) 44 W
  k : At wx (n0 + 1 + 1) 44 K
  r : At wx (n0 + 1 + 1 + 1) 42 (List.replicate 8 (.int .u32 0))
  a : At wx (n0 + 1 + 1 + 1 + 1) 3 ([2, 13, 22].map nv)
  ab : At wx (n0 + 1 + 1 + 1 + 1 + 1) 77 [.slice (some ⟨n0 + 1 + 1 + 1 + 1, 0, none⟩) 3 3]
  e : At wx (n0 + 1 + 1 + 1 + 1 + 1 + 1) 3 ([6, 11, 25].map nv)
  eb : At wx (n0 + 1 + 1 + 1 + 1 + 1 + 1 + 1) 77 [.slice (some ⟨n0 + 1 + 1 + 1 + 1 + 1 + 1, 0, none⟩) 3 3]
  n : At wx n8 42 N
  b : Below n0 w wx
theorem Held.drewN {w wx : World} {n0 n8 : Nat} {S W K N : List Value} (h : Held w wx n0 n8 S W K N) (q : Nat) : Held w (wx.drewN q) n0 n8 S W K N :=
  ⟨h.s.drewN q, h.x.drewN q, h.k.drewN q, h.r.drewN q, h.a.drewN q, h.ab.drewN q, h.e.drewN q, h.eb.drewN q, h.n.drewN q, below_drewN' h.b q⟩
theorem Held.drew {w wx : World} {n0 n8 : Nat} {S W K N : List Value} (h : Held w wx n0 n8 S W K N) : Held w wx.drew n0 n8 S W K N :=
  ⟨h.s.drew, h.x.drew, h.k.drew, h.r.drew, h.a.drew, h.ab.drew, h.e.drew, h.eb.drew, h.n.drew, h.b.drew⟩
theorem Held.setN {w wx : World} {n0 n8 : Nat} {S W K N : List Value} (h : Held w wx n0 n8 S W K N) (h8 : n0 + 8 = n8) (c : List Value) : Held w (wx.setRow n8 c.toArray) n0 n8 S W K c :=
  ⟨h.s.setRow_ne _ (by omega), h.x.setRow_ne _ (by omega), h.k.setRow_ne _ (by omega), h.r.setRow_ne _ (by omega), h.a.setRow_ne _ (by omega), h.ab.setRow_ne _ (by omega), h.e.setRow_ne _ (by omega), h.eb.setRow_ne _ (by omega),
    h.n.setRow' c, below_setRow' h.b _ (by omega) _⟩
theorem Held.setS {w wx : World} {n0 n8 : Nat} {S W K N : List Value} (h : Held w wx n0 n8 S W K N) (h8 : n0 + 8 = n8) (i : Nat) (v : Value) : Held w (wx.setCell ⟨n0, i, none⟩ v) n0 n8 (S.set i v) W K N :=
  ⟨h.s.setCell i v, h.x.setCell_ne _ _ (by simp), h.k.setCell_ne _ _ (by simp; omega), h.r.setCell_ne _ _ (by simp; omega), h.a.setCell_ne _ _ (by simp; omega), h.ab.setCell_ne _ _ (by simp; omega), h.e.setCell_ne _ _ (by simp; omega), h.eb.setCell_ne _ _ (by simp; omega),
    h.n.setCell_ne _ _ (by simp; omega), h.b.setCell (p := ⟨_, _, none⟩) (by simp) _⟩

set_option maxRecDepth 100000 in
set_option maxHeartbeats 2000000 in
theorem added_any (st ws ks : List Wd) (w : World) (hst : st.length = 8) (hws : ws.length = 64) (hks : ks.length = 64) :
    Calls Try.prog 27 #[.agg (st.map wv).toArray, .agg (ws.map wv).toArray, .agg (ks.map wv).toArray] w fun e w' => e = .returned (.agg ((comp ks ws st).map wv).toArray) ∧ Below w.heap.size w w' := by
  have cst : ((st.map wv).toArray).size = 8 := by simp [hst]
  have cws : ((ws.map wv).toArray).size = 64 := by simp [hws]
  have cks : ((ks.map wv).toArray).size = 64 := by simp [hks]
  generalize hS : (st.map wv).toArray = S at *
  generalize hW : (ws.map wv).toArray = W at *
  generalize hK : (ks.map wv).toArray = K at *
  have HS := Lib.hid hS
  have HW := Lib.hid hW
  have HK := Lib.hid hK
  clear hS hW hK
  go_enter Try.func27, Try.ntmps27
  go_wp2_with fail
  refine (turned_any _ _ _).mono ?_
  rintro e w1 ⟨rfl, rfl⟩
  go_wp2_with fail
  refine (turned_any _ _ _).mono ?_
  rintro e w1 ⟨rfl, rfl⟩
  obtain ⟨n0, hn0⟩ : ∃ n0, n0 = w.heap.size := ⟨_, rfl⟩
  rw [← hn0]
  generalize hv1 : w.alloc (Obj.cells S 42) = v1
  generalize hv2 : v1.alloc (Obj.cells W 44) = v2
  generalize hv3 : v2.alloc (Obj.cells K 44) = v3
  generalize hv4 : v3.alloc _ = v4
  generalize hv5 : v4.alloc _ = v5
  generalize hv6 : v5.alloc _ = v6
  generalize hv7 : v6.alloc _ = v7
  generalize hv8 : v7.alloc _ = v8
  have z1 := size_step hn0.symm hv1
  have z2 := size_step z1 hv2
  have z3 := size_step z2 hv3
  have z4 := size_step z3 hv4
  have z5 := size_step z4 hv5
  have z6 := size_step z5 hv6
  have z7 := size_step z6 hv7
  have z8 := size_step z7 hv8
  rw [z7]
  have aS := (((((((At.made hn0.symm hv1).step hv2).step hv3).step hv4).step hv5).step hv6).step hv7).step hv8
  have aW := ((((((At.made z1 hv2).step hv3).step hv4).step hv5).step hv6).step hv7).step hv8
  have aK := (((((At.made z2 hv3).step hv4).step hv5).step hv6).step hv7).step hv8
  have aR := ((((At.made z3 hv4).step hv5).step hv6).step hv7).step hv8
  have aA := (((At.made z4 hv5).step hv6).step hv7).step hv8
  have aAb := ((At.made z5 hv6).step hv7).step hv8
  have aE := (At.made z6 hv7).step hv8
  have aEb := At.made z7 hv8
  have bB := below_step (below_step (below_step (below_step (below_step (below_step (below_step (below_step (Below.refl n0 w) (by omega) hv1) (by omega) hv2) (by omega) hv3) (by omega) hv4) (by omega) hv5) (by omega) hv6) (by omega) hv7) (by omega) hv8
  clear hv1 hv2 hv3 hv4 hv5 hv6 hv7 hv8 z1 z2 z3 z4 z5 z6 z7
  rw [← HS.out, List.toList_toArray] at aS
  rw [← HW.out, List.toList_toArray] at aW
  rw [← HK.out, List.toList_toArray] at aK
  have hi : (Try.prog.info? 42).map (·.size) = some (st.map wv).length := by rw [List.length_map, hst]; kernel_rfl
  have hi' : (Try.prog.info? 42).map (·.size) = some (st.map wv).toArray.size := by rw [List.size_toArray]; exact hi
  have GS := Lib.hid aS
  have H8 : ∀ c : Array Value, c.size = 8 → Held w ((v8.alloc (.cells c 42)).setRow v8.heap.size (st.map wv).toArray) n0 v8.heap.size (st.map wv) (ws.map wv) (ks.map wv) (st.map wv) := fun c hc =>
    Held.setN (N := c.toList) ⟨aS.alloc _, aW.alloc _, aK.alloc _, aR.alloc _, aA.alloc _, aAb.alloc _, aE.alloc _, aEb.alloc _, At.new _ _ _, bB.alloc (by omega) _⟩ (by omega) _
  have H8 := Lib.hid H8
  have HN := Lib.hid hn0
  have hz8 : n0 + 8 = v8.heap.size := z8.symm
  clear hn0 z8 aS aW aK aR aA aAb aE aEb bB
  go_wp2_with (first | (refine load_at rfl 42 _ rfl _ rfl _ _ GS.out Try.underlying42 rfl hi ?_) | (refine store_at rfl 42 _ _ rfl _ _ rfl rfl _ (At.new _ _ _) hi' (by simp [hst]) (all_oneCell_toArray (wv_one _)) ?_))
  have h9 := H8.out _ (show (#[.int .u32 0, .int .u32 0, .int .u32 0, .int .u32 0, .int .u32 0, .int .u32 0, .int .u32 0, .int .u32 0] : Array Value).size = 8 from rfl)
  generalize v8.heap.size = n8 at *
  generalize World.setRow _ _ _ = v9 at *
  have H9 := Lib.hid h9
  clear h9 H8 GS
  go_loopw [28] (fun s wx => ∃ i : Nat, i ≤ 64 ∧ s = .int .i64 i ∧ Held w wx n0 n8 (st.map wv) (ws.map wv) (ks.map wv) ((rnds ks ws st i).map wv)) (fun s _ => 64 - (intOf s).toNat)
  case atStart => exact ⟨0, by omega, rfl, H9.out⟩
  case round =>
    obtain ⟨i, hi64, rfl, hH⟩ := hrel
    have HH := Lib.hid hH
    clear hH
    by_cases hlt : i < 64
    · obtain ⟨a, b, c, d, e, f, g, h, hq⟩ := len8 (rnds_len ks ws st hst i)
      have hnext : rnds ks ws st (i + 1) = rnd (ks[i]?.getD 0) (ws[i]?.getD 0) [a, b, c, d, e, f, g, h] := by rw [← hq]; rfl
      have hh := HH.out
      rw [hq] at hh
      have HQ := Lib.hid hnext
      have HH := Lib.hid hh
      clear hq hnext hh
      have ck := HH.out.k.cell i _ (wv_get ks i (by omega))
      have cw := HH.out.x.cell i _ (wv_get ws i (by omega))
      have HQ := HQ.out
      generalize ks[i]?.getD 0 = kk at HQ ck
      generalize ws[i]?.getD 0 = ww at HQ cw
      have HQ := Lib.hid HQ
      have c0 := HH.out.n.cell 0 (.int .u32 (wi a)) rfl
      have c1 := HH.out.n.cell 1 (.int .u32 (wi b)) rfl
      have c2 := HH.out.n.cell 2 (.int .u32 (wi c)) rfl
      have c3 := HH.out.n.cell 3 (.int .u32 (wi d)) rfl
      have c4 := HH.out.n.cell 4 (.int .u32 (wi e)) rfl
      have c5 := HH.out.n.cell 5 (.int .u32 (wi f)) rfl
      have c6 := HH.out.n.cell 6 (.int .u32 (wi g)) rfl
      have c7 := HH.out.n.cell 7 (.int .u32 (wi h)) rfl
      have i1 : (i:Int) < 64 := by omega
      go_wp2
      go_quiet (fail)
      go_wp2
      refine wp_region_still_lit (by kernel_rfl) (by kernel_rfl) ?_
      repeat still_step
      still_call (turned1_any _ [6, 11, 25] (n0 + 1 + 1 + 1 + 1 + 1 + 1 + 1) (n0 + 1 + 1 + 1 + 1 + 1 + 1) 77 3 _ (by decide) (by decide) (HH.out.eb.drewN nq) (HH.out.e.drewN nq))
      repeat still_step
      refine wpStill_nil ?_
      go_wp2_with fail
      refine (turned1_any _ [2, 13, 22] (n0 + 1 + 1 + 1 + 1 + 1) (n0 + 1 + 1 + 1 + 1) 77 3 _ (by decide) (by decide) (HH.out.ab.drewN nq).drew (HH.out.a.drewN nq).drew).mono ?_
      rintro e w1 ⟨rfl, rfl⟩
      have hN := (HH.out.n.drewN nq).drew
      have HN2 := Lib.hid hN
      clear hN
      go_wp2_with (first | (refine store_at rfl 42 _ _ rfl _ _ rfl rfl _ HN2.out (by kernel_rfl) (by rfl) (one8 _ _ _ _ _ _ _ _) ?_))
      go_roundw
      case rel => exact ⟨i + 1, by omega, by go_num, by rw [HQ.out]; exact ((HH.out.drewN nq).drew).setN hz8 (List.map wv (rnd kk ww [a, b, c, d, e, f, g, h]))⟩
      case measure => simp [intOf]; omega
    · obtain rfl : i = 64 := by omega
      have hnl := rnds_len ks ws st hst 64
      have hcomp : comp ks ws st = List.zipWith (· + ·) st (rnds ks ws st 64) := rfl
      generalize rnds ks ws st 64 = now at *
      have hni : (Try.prog.info? 42).map (·.size) = some (now.map wv).length := by rw [List.length_map, hnl]; kernel_rfl
      have HC := Lib.hid hcomp
      clear hcomp
      go_wp2_with (first | (refine load_at rfl 42 _ rfl _ rfl _ _ HH.out.n Try.underlying42 rfl hni ?_))
      go_loopw [99] (fun s wx => ∃ i : Nat, i ≤ 8 ∧ s = .int .i64 i ∧ Held w wx n0 n8 ((upto st now i).map wv) (ws.map wv) (ks.map wv) (now.map wv)) (fun s _ => 8 - (intOf s).toNat)
      case atStart => exact ⟨0, by omega, rfl, by rw [upto_zero]; exact HH.out⟩
      case round =>
        obtain ⟨i, hi8, rfl, hH2⟩ := hrel
        have HH2 := Lib.hid hH2
        clear hH2
        by_cases hlt2 : i < 8
        · have i1 : (i:Int) < 8 := by omega
          have hix := index31 now i (by omega) i1
          have hu := upto_set st now i (by omega) (by omega)
          have hc := HH2.out.s.cell i _ (wv_get _ i (by rw [upto_len _ _ _ (by omega) (by omega)]; omega))
          have hf := HH2.out.s.frozen i
          rw [upto_get st now i (by omega) (by omega)] at hc
          have HU := Lib.hid hu
          clear hu
          generalize st[i]?.getD 0 = a at hc HU
          generalize now[i]?.getD 0 = b at hix HU
          go_wp2
          go_roundw
          case rel =>
            refine ⟨i + 1, by omega, by go_num, ?_⟩
            have h := HH2.out.setS hz8 i (wv (a + b))
            rw [List.map_set.symm, HU.out] at h
            exact h
          case measure => simp [intOf]; omega
        · obtain rfl : i = 8 := by omega
          rw [upto_full st now 8 (by omega) (by omega)] at HH2
          have hcl : ((comp ks ws st).map wv).length = 8 := by rw [List.length_map, comp_len _ _ _ hst]
          rw [← HC.out] at HH2
          have hone := wv_one (comp ks ws st)
          generalize hcs : (comp ks ws st).map wv = cs at *
          have hR3 := HH2.out.r.setRow' cs
          have hi : (Try.prog.info? 42).map (·.size) = some cs.length := by rw [hcl]; kernel_rfl
          have hi' : (Try.prog.info? 42).map (·.size) = some cs.toArray.size := by rw [List.size_toArray]; exact hi
          go_wp2_with (first | (refine load_at rfl 42 _ rfl _ rfl _ _ HH2.out.s Try.underlying42 rfl hi ?_) | (refine store_at rfl 42 _ _ rfl _ _ rfl rfl _ HH2.out.r hi' (by rw [List.size_toArray, hcl]; rfl) (all_oneCell_toArray hone) ?_))
          (try simp only [Exit.inBlock, Exit.then])
          refine bodyPost_ret (v := .agg cs.toArray) ?_ rfl ⟨by rw [hcs], by rw [← HN.out]; exact below_setRow' HH2.out.b _ (by omega) _⟩
          exact results_cell_row (fn := Try.f27) (p := 6) (ty := 42) rfl _ _ (n0 + 1 + 1 + 1) 42 cs.toArray (0, 0) _ rfl hR3 Try.underlying42 rfl hi'
end Go.Proofs.Ytffpmdgchpcaaaa
