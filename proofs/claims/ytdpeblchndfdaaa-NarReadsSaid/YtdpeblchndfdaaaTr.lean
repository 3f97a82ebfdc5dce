/- The paths told one by one. -/
import Derived.Test.YtdpeblchndfdaaaTq
namespace Go.Proofs.Ytdpeblchndfdaaa
open Go.RowKit Go.Shelf
attribute [local go_sem] Oper.semAt_some bs_size bs_append
set_option maxRecDepth 100000
theorem YieldAt.wide {m : Nat} (m' : Nat) {P : Program} {l : Nat} {args : Array Value} {W : World} {R : Ending → World → Prop} (h : YieldAt Fence.wide m P l args W R) : YieldAt Fence.wide m' P l args W R := by
  obtain ⟨fn, tmps, assign, body, hy, hR⟩ := h
  exact ⟨fn, tmps, assign, body, hy, ⟨hR.1, fun c cs _ => hR.2 c cs (room_wide _)⟩⟩
theorem YieldAt.wideIn {m : Nat} (m' k : Nat) {P : Program} {l : Nat} {args : Array Value} {W : World} {R : Ending → World → Prop} (h : YieldAt Fence.wide m P l args W R) : YieldAt (Fence.wide.inRound k) m' P l args W R := by
  obtain ⟨fn, tmps, assign, body, hy, hR⟩ := h
  exact ⟨fn, tmps, assign, body, hy, ⟨hR.1, fun c cs _ => hR.2 c cs (room_wide _)⟩⟩
theorem Tells.any {α : Type} {n n' : Nat} {P : Program} {g : Nat} {lb : Array Value} {encs : α → Array Value} {Kp : World → World → Prop} {S Sp : List α → Prop} {N l : Nat} {W : World} (h : Tells Fence.wide n P g lb encs Kp S Sp N l W) : Tells Fence.wide n' P g lb encs Kp S Sp N l W :=
  fun J Jx hJ hJx hY h0 => callsIn_wide.2 (callsIn_wide.1 (h J Jx hJ hJx (fun pre x V hj hl => YieldAt.wide _ (hY pre x V hj hl)) h0))
def colD (D : Nat) : Deferred := { target := .collected D, args := #[] }
theorem leave_marks {F : Fence} {n : Nat} {P : Program} {fn : Func} {tmps : Array Value} (hr : fn.results = #[]) (b : Nat) (X : World → Prop) (hX : ∀ (W : World) (D : Nat) (o o' : Obj), X W → W.heap[D]? = some o → o.isCells = false → b ≤ D → X (W.putObj D o')) :
    ∀ (ds : List Nat) (W : World), X W → (∀ D ∈ ds, b ≤ D ∧ W.heap[D]? = some (.deferred (some []))) → ds.Nodup → LeavesInM F n P fn tmps (fun e W' => (∃ v, e = .returned v) ∧ X W') (ds.map colD) .returning W
  | [], W, hW, _, _ => ⟨_, results_none hr _ _ _, ⟨_, rfl⟩, hW⟩
  | D :: r, W, hW, hd, hn => by
    obtain ⟨h1, h2⟩ := hd D (List.mem_cons_self ..)
    rw [List.nodup_cons] at hn
    refine ⟨by simp, .inl ⟨D, _, rfl, run_takeDeferred h2, ?_⟩⟩
    refine leave_marks hr b X hX r _ (hX W D _ _ hW h2 rfl h1) (fun E hE => ?_) hn.2
    obtain ⟨h3, h4⟩ := hd E (List.mem_cons_of_mem _ hE)
    exact ⟨h3, (World.putObj_heap_other (fun e => hn.1 (by rw [← e]; exact hE))).trans h4⟩
/-- the paths of all that a node has, behind this -/
def pathsL : Nat → Nd → List UInt8 → List (List UInt8)
  | 0, _, _ => []
  | h + 1, n, ahead => if n.kind ≠ 2 then [] else n.kids.flatMap (fun k => (ahead ++ k.name) :: pathsL h k (ahead ++ k.name ++ [47]))
/-- names that can be joined -/
def Short : Nat → Nd → Prop
  | 0, _ => True
  | h + 1, n => ∀ m ∈ n.kids, m.name.length ≤ 1000 ∧ Short h m
/-- the blocks of cells that are S lie as they lay, but for the rows of texts that were made behind c: of these the first cell does -/
structure KD (S : Nat → Prop) (c : Nat) (W W' : World) : Prop where
  size : W.heap.size ≤ W'.heap.size
  same : ∀ k cs T fr, W.heap[k]? = some (.cells cs T fr) → (T ≠ 9 ∨ k < c) → S k → W'.heap[k]? = some (.cells cs T fr)
  zero : ∀ k v, W.cell? ⟨k, 0, none⟩ = some v → S k → W'.cell? ⟨k, 0, none⟩ = some v
theorem KD.refl (S : Nat → Prop) (c : Nat) (W : World) : KD S c W W := ⟨Nat.le_refl _, fun _ _ _ _ h _ _ => h, fun _ _ h _ => h⟩
theorem KD.trans {S : Nat → Prop} {c : Nat} {U V W : World} (h : KD S c U V) (k : KD S c V W) : KD S c U W := ⟨Nat.le_trans h.size k.size, fun i cs T fr hi ho hs => k.same i cs T fr (h.same i cs T fr hi ho hs) ho hs, fun i v hi hs => k.zero i v (h.zero i v hi hs) hs⟩
theorem cell_bel {W W' : World} (b : Below W.heap.size W W') {p : Addr} {v : Value} (h : W.cell? p = some v) : W'.cell? p = some v := by
  rw [← h]; exact b.cell (World.block_lt_of_cell? W p h)
theorem KD.below {S : Nat → Prop} {c : Nat} {W W' : World} (b : Below W.heap.size W W') : KD S c W W' := ⟨b.size, fun k _ _ _ h _ _ => (b.block k (Array.getElem?_eq_some_iff.1 h).1).trans h, fun k v h _ => cell_bel b h⟩
theorem KD.putObj {S : Nat → Prop} {c : Nat} {W : World} {l : Nat} {o : Obj} (o' : Obj) (h : W.heap[l]? = some o) (hc : o.isCells = false) : KD S c W (W.putObj l o') :=
  ⟨by rw [World.putObj_size]; exact Nat.le_refl _, fun k cs T fr hq _ _ => by
    rw [World.putObj_heap_other (fun e => by subst e; rw [h] at hq; cases hq; cases hc)]
    exact hq, fun k v hv _ => by
    obtain ⟨o2, ho2, hc2⟩ := cells_of_cell hv
    rw [← hv]
    refine World.cell?_of_block (w := W) (World.putObj_heap_other (fun e => ?_))
    have ho3 : W.heap[l]? = some o2 := by rw [← e]; exact ho2
    rw [h] at ho3
    cases ho3
    rw [hc] at hc2
    cases hc2⟩
theorem At.kd {S : Nat → Prop} {c : Nat} {W W' : World} {B : Nat} {T : TypeId} {l : List Value} (h : At W B T l) (k : KD S c W W') (hT : T ≠ 9 ∨ B < c) (hS : S B) : At W' B T l := k.same B _ _ _ h hT hS
theorem Has.kd {S : Nat → Prop} {c : Nat} {W W' : World} (k : KD S c W W') : ∀ (h : Nat) (n : Nd) (ao : Option Addr), Has (fun i => S i ∧ i < c) W h n ao → Has (fun i => S i ∧ i < c) W' h n ao
  | 0, _, _, h => h.elim
  | h + 1, n, ao, ⟨h1, h2⟩ => ⟨h1, fun i m hm => by
    obtain ⟨a, g, q, e, hs, hK, hH⟩ := h2 i m hm
    refine ⟨a, g, q, e, hs, fun j v hj => ?_, Has.kd k h m g hH⟩
    have hc := hK j v hj
    obtain ⟨o, ho, ho2⟩ := cells_of_cell hc
    rw [add_block, add_block] at ho
    rw [← hc]
    refine World.cell?_of_block (w := W) ?_
    rw [add_block, add_block, ho]
    cases o with
    | cells cs T fr => exact k.same _ _ _ _ ho (.inr hs.2) hs.1
    | _ => cases ho2⟩
theorem kd_grown {S : Nat → Prop} {c : Nat} {A B : World} {row : Option Nat} (hg : A.grownBy B row) (hr : ∀ r, row = some r → ∃ o : Obj, A.heap[r]? = some o ∧ o.isCells = false) : KD S c A B :=
  ⟨hg.size, fun i cs T fr hi _ _ => (hg.block i (Array.getElem?_eq_some_iff.1 hi).1 (fun e => by obtain ⟨o2, h2, h3⟩ := hr i e.symm; rw [hi] at h2; cases h2; cases h3)).trans hi, fun k v hv _ => by
    obtain ⟨o2, ho2, hc2⟩ := cells_of_cell hv
    rw [← hv]
    refine World.cell?_of_block (w := A) (hg.block k (Array.getElem?_eq_some_iff.1 ho2).1 (fun e => ?_))
    obtain ⟨o3, h3, h4⟩ := hr k e.symm
    have h5 : A.heap[k]? = some o2 := ho2
    rw [h3] at h5
    cases h5
    rw [h4] at hc2
    cases hc2⟩
def KpB (S : Nat → Prop) (c b : Nat) (W W' : World) : Prop := KD S c W W' ∧ KeepsFrom b W W'
theorem kf_up {b b' : Nat} {X Y : World} (h : KeepsFrom b X Y) (hb : b ≤ b') : KeepsFrom b' X Y := ⟨h.size, fun i o hi hx hc => h.same i o (Nat.le_trans hb hi) hx hc⟩
def encT (x : List UInt8) : Array Value := #[.string (bs x)]
theorem paths_any (n : Nd) (ao : Option Addr) (cap : Nat) (ahead : List UInt8) (w : World) :
    Calls Try.prog 42 #[n.v ao cap, .string (bs ahead)] w fun e w' => e = .returned (.func (.func 76) #[] #[.pointer (some ⟨w.heap.size, 0, none⟩), .pointer (some ⟨w.heap.size + 1, 0, none⟩)]) ∧ At w' w.heap.size 24 (n.cells ao cap) ∧ At w' (w.heap.size + 1) 9 [.string (bs ahead)] ∧ Below w.heap.size w w' ∧ w'.heap.size = w.heap.size + 2 := by
  have hmf : ∀ (fn : Fn) (first cap : Array Value) (w : World), (Instr.makeFunc fn first cap).run Try.prog w = .ok (.func fn first cap) w := fun _ _ _ _ => rfl
  go_enter Try.func42, Try.ntmps42
  go_wp2_with (with_reducible refine box_any rfl 24 (.tmp 0) rfl (n.cells ao cap) rfl ?_; intro u hu bu zu; have HU := Lib.hid hu; have BU := Lib.hid bu; clear hu bu)
  have aN : At (u.alloc (.cells #[.string (bs ahead)] 9)) (w.heap.size + 1) 9 [.string (bs ahead)] := by have h := At.new u #[.string (bs ahead)] 9; rw [zu] at h; exact h
  go_ret
  exact ⟨rfl, HU.out.alloc _, aN, BU.out.alloc (by omega) _, by rw [World.size_alloc, zu]⟩
set_option maxHeartbeats 8000000 in
theorem paths1_tells (S : Nat → Prop) (c0 : Nat) : ∀ (h b : Nat) (m : Nd) (ao : Option Addr) (cap : Nat) (ahead : List UInt8) (Bn Ba N l : Nat) (W : World), b ≤ W.heap.size → (∀ i, b ≤ i → S i) → Has (fun i => S i ∧ i < c0) W h m ao → At W Bn 24 (m.cells ao cap) → W.cell? ⟨Ba, 0, none⟩ = some (.string (bs ahead)) → S Bn → S Ba → Short h m →
    ahead.length + 1001 * h ≤ 1000000 → (pathsL h m ahead).length ≤ N →
    Tells Fence.wide 10 Try.prog 76 #[.pointer (some ⟨Bn, 0, none⟩), .pointer (some ⟨Ba, 0, none⟩)] encT (KpB S c0 b) (fun xs => xs = pathsL h m ahead) (fun _ => True) N l W := by
  intro h
  induction h with
  | zero => intro b m ao cap ahead Bn Ba N l W _ _ hH; exact hH.elim
  | succ h ih =>
    intro b m ao cap ahead Bn Ba N l W hb hS hH hN hA sN sA hSh hal hlen J Jx hJ hJx hY h0
    have IH := Lib.hid ih
    have HS := Lib.hid hS
    have HH := Lib.hid hH
    have HN := Lib.hid hN
    have HA := Lib.hid hA
    have HSH := Lib.hid hSh
    have HLEN := Lib.hid hlen
    have HJA := Lib.hid hJ
    have HJX := Lib.hid hJx
    have HY := Lib.hid hY
    have HJ0 := Lib.hid h0
    clear ih hS hH hN hA hSh hlen hJ hJx hY h0
    cases m with
    | mk nm kd ex dt ks =>
    have b3 := (Below.refl _ W).alloc (Nat.le_refl _) (.cells #[.func (.yield l) #[] #[]] 34)
    have a3 := At.new W #[.func (.yield l) #[] #[]] 34
    have z3 : (W.alloc (.cells #[.func (.yield l) #[] #[]] 34)).heap.size = W.heap.size + 1 := by rw [World.size_alloc]
    have hJ3 : J [] (W.alloc (.cells #[.func (.yield l) #[] #[]] 34)) := HJA.out.alloc _ HJ0.out
    have c1 := (HN.out.below b3 HN.out.lt).cell 1 _ rfl
    have c4 := (HN.out.below b3 HN.out.lt).cell 4 _ rfl
    change (W.alloc (.cells #[.func (.yield l) #[] #[]] 34)).cell? ⟨Bn, 1, none⟩ = some (.int .i64 kd) at c1
    change (W.alloc (.cells #[.func (.yield l) #[] #[]] 34)).cell? ⟨Bn, 4, none⟩ = some (.slice ao ks.length cap) at c4
    have B3 := Lib.hid b3
    have A3 := Lib.hid a3
    have HJ3 := Lib.hid hJ3
    clear b3 a3 hJ3
    refine callsIn_of_wp_marks Try.func76 rfl trivial ?_ rfl
    simp only [Try.ntmps76, List.size_toArray, List.length_cons, List.length_nil, Nat.reduceAdd, Nat.reduceSub, Array.replicate_succ, Array.replicate_zero, List.push_toArray, List.append_toArray, List.nil_append, List.cons_append]
    by_cases hk : kd = 2
    · subst hk
      obtain ⟨FF, hFF⟩ : ∃ FF : Nd → List (List UInt8), FF = fun k => (ahead ++ k.name) :: pathsL h k (ahead ++ k.name ++ [47]) := ⟨_, rfl⟩
      have hPL : pathsL (h + 1) ⟨nm, 2, ex, dt, ks⟩ ahead = ks.flatMap FF := by rw [hFF]; rfl
      have hN2 := HLEN.out
      rw [hPL] at hN2
      have HPL := Lib.hid hPL
      have HFF := Lib.hid hFF
      have hkl := HH.out.1
      unfold maxLen at hkl
      change ks.length ≤ _ at hkl
      clear hPL hFF
      have HX : Hid (∀ (V : World) (D : Nat) (o o' : Obj), ((∃ xs, xs = pathsL (h + 1) ⟨nm, 2, ex, dt, ks⟩ ahead ∧ J xs V) ∨ ∃ pre, True ∧ Jx pre V) → V.heap[D]? = some o → o.isCells = false → W.heap.size ≤ D → ((∃ xs, xs = pathsL (h + 1) ⟨nm, 2, ex, dt, ks⟩ ahead ∧ J xs (V.putObj D o')) ∨ ∃ pre, True ∧ Jx pre (V.putObj D o'))) :=
        Lib.hid (fun V D o o' hx hD hc hb => hx.imp (fun ⟨xs, e, hj⟩ => ⟨xs, e, HJA.out.putObj o' hj hb hD hc⟩) (fun ⟨p, t, hj⟩ => ⟨p, t, HJX.out.putObj o' hj hb hD hc⟩))
      gi_wp2
      generalize W.alloc (.cells #[.func (.yield l) #[] #[]] 34) = W3 at *
      refine wpIn_loop (fun a wx => ∃ (k : Nat) (ds : List Nat) (u4 u5 u6 u7 u15 u16 u17 u18 u19 u20 u21 u22 u23 u24 u25 u26 u27 u28 u29 u30 u31 u32 u33 u34 u35 : Value), (k ≤ ks.length ∧ J ((ks.take k).flatMap FF) wx ∧ KD S c0 W3 wx ∧ (∀ D ∈ ds, W.heap.size ≤ D ∧ wx.heap[D]? = some (.deferred (some []))) ∧ ds.Nodup) ∧ a = { tmps := #[.func (.yield l) #[] #[], .pointer (some ⟨Bn, 0, none⟩), .pointer (some ⟨Ba, 0, none⟩), .pointer (some ⟨W.heap.size, 0, none⟩), u4, u5, u6, u7, .pointer (some ⟨Bn, 1, none⟩), .int .i64 2, .bool false, .pointer (some ⟨Bn, 4, none⟩), .slice ao ks.length cap, .int .i64 (ks.length : Int), .int .i64 (k : Int), u15, u16, u17, u18, u19, u20, u21, u22, u23, u24, u25, u26, u27, u28, u29, u30, u31, u32, u33, u34, u35], defers := ds.map colD }) (fun a _ => ks.length - (intOf (a.tmps.getD 14 undef)).toNat) ⟨0, [], _, _, _, _, _, _, _, _, _, _, _, _, _, _, _, _, _, _, _, _, _, _, _, _, _, ⟨Nat.zero_le _, HJ3.out, KD.refl _ _ _, by simp, List.nodup_nil⟩, rfl⟩ ?_
      rintro a wx ⟨k, ds, u4, u5, u6, u7, u15, u16, u17, u18, u19, u20, u21, u22, u23, u24, u25, u26, u27, u28, u29, u30, u31, u32, u33, u34, u35, ⟨hk, hJ, hK, hD, hnd⟩, rfl⟩
      have HJ := Lib.hid hJ
      have HK := Lib.hid hK
      have HD := Lib.hid hD
      have HND := Lib.hid hnd
      have zx := hK.size
      clear hJ hK hD hnd c1 c4
      by_cases hlt : k < ks.length
      · have hlt' : (k : Int) < ks.length := by omega
        obtain ⟨m, hm⟩ : ∃ m, ks[k]? = some m := ⟨_, List.getElem?_eq_getElem hlt⟩
        obtain ⟨x, g, c, rfl, hSx, hKd, hM⟩ := (Has.kd HK.out (h + 1) _ ao (HH.out.below B3.out)).2 k m hm
        obtain ⟨hf1, hf2⟩ := flat_take FF ks k m hm
        obtain ⟨hs1, hs2⟩ := HSH.out m (List.mem_of_getElem? hm)
        have hFl : (FF m).length = 1 + (pathsL h m (ahead ++ m.name ++ [47])).length := by rw [HFF.out]; simp; omega
        have hFm : FF m = (ahead ++ m.name) :: pathsL h m (ahead ++ m.name ++ [47]) := by rw [HFF.out]
        have HKd := Lib.hid hKd
        have HM := Lib.hid hM
        have HF2 := Lib.hid hf2
        have HSS := Lib.hid hs2
        have HFM := Lib.hid hFm
        have HFL := Lib.hid hFl
        clear hKd hM hm hf2 hs2 hFm hFl
        gi_wp2_with (first
          | (refine load_in rfl 24 (.tmp 16) rfl (x.add (k * 5)) rfl (m.cells g c) _ (fun j v hj => HKd.out j v hj) Try.underlying24 rfl info_nd ?_)
          | (with_reducible refine alloc_in rfl 24 rfl _ zero_nd ?_; intro u2 hu2 bu2 zu2; have HU2 := Lib.hid hu2; clear hu2)
          | (refine store_in rfl 24 (.tmp 5) (.tmp 17) rfl wx.heap.size rfl (m.cells g c) rfl _ HU2.out rfl info_nd (nd_one m g c) ?_; intro w3 hu3 tu3; have HU3 := Lib.hid hu3; have BU3 := Lib.hid (Touch.below bu2 tu3 (by simp) (Nat.le_refl _)); have zz3 := tu3.size; clear tu3 bu2;
              have cN := HU3.out.cell 0 _ rfl; have cA := cell_bel BU3.out (HK.out.zero _ _ (cell_bel B3.out HA.out) sA); have hAY := (A3.out.kd HK.out (.inl (by decide)) (HS.out _ hb)).below BU3.out (A3.out.kd HK.out (.inl (by decide)) (HS.out _ hb)).lt; have cY := hAY.cell 0 _ rfl; have HAY := Lib.hid hAY; clear hAY;
              obtain ⟨fn, tmps, assign, body, hy0, hR⟩ := HY.out ((ks.take k).flatMap FF) (ahead ++ m.name) w3 (HJA.out _ _ _ none HJ.out ⟨BU3.out.os, BU3.out.tape, BU3.out.output, BU3.out.size, fun i hi _ => BU3.out.block i hi⟩ (by simp)) (by have := HFL.out; omega); have hy : (Instr.yield l #[.string (bs (ahead ++ m.name))]).run Try.prog w3 = .ok (.round l fn tmps assign body) w3 := hy0; clear hy0))
        refine hR.mono ?_
        rintro e w4 (⟨rfl, hJ4, hk4, hf4⟩ | ⟨rfl, hJx4, hk4, hf4⟩)
        · have hU4 := HU3.out.kd hk4 (.inl (by decide)) (HS.out _ (by have := B3.out.size; omega))
          have hAY4 := HAY.out.kd hk4 (.inl (by decide)) (HS.out _ hb)
          have HU4 := Lib.hid hU4
          have HAY4 := Lib.hid hAY4
          have HJ4 := Lib.hid hJ4
          have HK4 := Lib.hid hk4
          have HF4 := Lib.hid hf4
          clear hU4 hAY4 hJ4 hk4 hf4 hR hy cY cA cN
          gi_wp2_with (refine load_in rfl 24 (.tmp 5) rfl ⟨wx.heap.size, 0, none⟩ rfl (m.cells g c) _ (fun j v hj => by rw [Addr.add0]; exact HU4.out.cell j v hj) Try.underlying24 rfl info_nd ?_)
          rw [show (bs (ahead ++ m.name) ++ ⟨#[47]⟩ : ByteArray) = bs (ahead ++ m.name ++ [47]) by rw [show (⟨#[47]⟩ : ByteArray) = bs [47] from rfl, bs_append]]
          refine ⟨trivial, ?_⟩
          refine (callsIn_wide.2 (paths_any m g c (ahead ++ m.name ++ [47]) w4)).mono ?_
          rintro e w5 ⟨rfl, hn5, ha5, b5, z5⟩
          have HN5 := Lib.hid hn5
          have HA5 := Lib.hid ha5
          have B5 := Lib.hid b5
          have HM5 := Lib.hid ((Has.kd (HK4.out) h m g (HM.out.below BU3.out)).below b5)
          have HAY5 := Lib.hid (HAY4.out.below b5 HAY4.out.lt)
          have HJ5 := Lib.hid (HJA.out _ _ _ none HJ4.out ⟨b5.os, b5.tape, b5.output, b5.size, fun i hi _ => b5.block i hi⟩ (by simp))
          have hD5 : ∀ D ∈ ds, W.heap.size ≤ D ∧ w5.heap[D]? = some (.deferred (some [])) := fun D hD => by
            obtain ⟨q1, q2⟩ := HD.out D hD
            have e3 : w3.heap[D]? = some (.deferred (some [])) := (BU3.out.block D (Array.getElem?_eq_some_iff.1 q2).1).trans q2
            have e4 := HF4.out.same D _ (by omega) e3 rfl
            exact ⟨q1, (b5.block D (Array.getElem?_eq_some_iff.1 e4).1).trans e4⟩
          have HD5 := Lib.hid hD5
          clear hn5 ha5 b5 hD5 HU4
          gi_wp2
          have zw5 : w5.heap.size = w4.heap.size + 2 := z5
          have zw4 : w3.heap.size ≤ w4.heap.size := HK4.out.size
          have zw0 := B3.out.size
          have hb5 : b ≤ w5.heap.size := by omega
          refine rf_law (w := w5) rfl (by omega) (gf := 76) (lb := #[.pointer (some ⟨w4.heap.size, 0, none⟩), .pointer (some ⟨w4.heap.size + 1, 0, none⟩)]) rfl trivial (enters_of Try.func76 (by kernel_rfl) rfl) (encs := encT) (Kp := KpB S c0 (w5.heap.size + 2)) (S := fun xs => xs = pathsL h m (ahead ++ m.name ++ [47])) (Sp := fun _ => True) (N := (pathsL h m (ahead ++ m.name ++ [47])).length)
            (fun U bU zU => (IH.out (w5.heap.size + 2) m g c (ahead ++ m.name ++ [47]) w4.heap.size (w4.heap.size + 1) _ (w5.heap.size + 1) U (by omega) (fun i hi => HS.out i (by omega)) (HM5.out.below bU) (HN5.out.below bU HN5.out.lt) (cell_bel bU (HA5.out.cell 0 _ rfl)) (HS.out _ (by omega)) (HS.out _ (by omega)) HSS.out (by simp only [List.length_append, List.length_singleton]; omega) (Nat.le_refl _)).any)
            (fun h k => ⟨h.1.trans k.1, h.2.trans k.2⟩)
            (fun V o o' ho hc => ⟨KD.putObj o' ho hc, by rw [World.putObj_size]; exact Nat.le_refl _, fun i q hi hq _ => (World.putObj_heap_other (by omega)).trans hq⟩) (fun _ => rfl)
            (fun pre V => J ((ks.take k).flatMap FF ++ [ahead ++ m.name] ++ pre) V ∧ KD S c0 w5 V ∧ (∀ D ∈ ds, V.heap[D]? = some (.deferred (some []))))
            (fun cd pre V => cd = Code.ret ∧ (∃ q, Jx q V) ∧ (∀ D ∈ ds, V.heap[D]? = some (.deferred (some []))))
            (fun s A B row hs hg hr => ⟨HJA.out _ A B row hs.1 hg (fun r e => ⟨by have := (hr r e).1; omega, (hr r e).2⟩), hs.2.1.trans (kd_grown hg (fun r e => (hr r e).2)), fun D hD => (hg.block D (Array.getElem?_eq_some_iff.1 (hs.2.2 D hD)).1 (fun e => by have := (hr D e.symm).1; have := (Array.getElem?_eq_some_iff.1 (HD5.out D hD).2).1; omega)).trans (hs.2.2 D hD)⟩)
            (fun cd s A B row hs hg hr => ⟨hs.1, hs.2.1.imp (fun q hq => HJX.out q A B row hq hg (fun r e => ⟨by have := (hr r e).1; omega, (hr r e).2⟩)), fun D hD => (hg.block D (Array.getElem?_eq_some_iff.1 (hs.2.2 D hD)).1 (fun e => by have := (hr D e.symm).1; have := (Array.getElem?_eq_some_iff.1 (HD5.out D hD).2).1; omega)).trans (hs.2.2 D hD)⟩)
            ⟨by rw [List.append_nil]; exact HJ5.out, KD.refl _ _ _, fun D hD => (HD5.out D hD).2⟩
            (fun y a' _ => a' = { tmps := #[.func (.yield l) #[] #[], .pointer (some ⟨Bn, 0, none⟩), .pointer (some ⟨Ba, 0, none⟩), .pointer (some ⟨W.heap.size, 0, none⟩), u4, .pointer (some ⟨wx.heap.size, 0, none⟩), .string (bs (ahead ++ m.name)), .string (bs y), .pointer (some ⟨Bn, 1, none⟩), .int .i64 2, .bool false, .pointer (some ⟨Bn, 4, none⟩), .slice (some x) ks.length cap, .int .i64 (ks.length : Int), .int .i64 (k : Int), .bool true, .pointer (some (x.add (k * 5))), .agg (m.cells g c).toArray, .string (bs ahead), .pointer (some ⟨wx.heap.size, 0, none⟩), .string (bs m.name), .string (bs (ahead ++ m.name)), .func (.yield l) #[] #[], .string (bs (ahead ++ m.name)), .bool true, .bool false, .agg (m.cells g c).toArray, .string (bs (ahead ++ m.name)), .string (bs (ahead ++ (m.name ++ [47]))), .func (.func 76) #[] #[.pointer (some ⟨w4.heap.size, 0, none⟩), .pointer (some ⟨w4.heap.size + 1, 0, none⟩)], .string (bs y), u31, u32, u33, u34, u35], defers := [] }) (fun y a' s A B row hs _ _ => hs) ?assign ?body ?done ?stop
          case assign =>
            rintro l2 pre y V K hI hK
            have HK2 := Lib.hid hK
            clear hK
            unfold encT
            simp only [List.zip_toArray, List.zip_cons_cons, List.zip_nil_right, List.foldl_toArray, List.foldl_cons, List.foldl_nil, List.setIfInBounds_toArray, List.set_cons_succ, List.set_cons_zero]
            gi_wp2
            exact HK2.out _ _ (KeepsFrom.refl _ _) ⟨KD.refl _ _ _, KeepsFrom.refl _ _⟩ hI rfl
          case body =>
            rintro l2 pre y a' V ⟨hJV, hKV, hDV⟩ rfl hlenV
            have hAYV := HAY5.out.kd hKV (.inl (by decide)) (HS.out _ hb)
            have cY := hAYV.cell 0 _ rfl
            obtain ⟨fn, tmps, assign, body, hy0, hR⟩ := YieldAt.wideIn 7 l2 (HY.out _ y V hJV (by have := HFL.out; simp only [List.length_append, List.length_singleton]; omega))
            have hy : (Instr.yield l #[.string (bs y)]).run Try.prog V = .ok (.round l fn tmps assign body) V := hy0
            have HKV := Lib.hid hKV
            have HDV := Lib.hid hDV
            clear hy0 hJV hKV hDV hAYV
            gi_wp2
            refine hR.mono ?_
            rintro e V' (⟨rfl, hJ', hk', hf'⟩ | ⟨rfl, hJx', hk', hf'⟩)
            · have HJ' := Lib.hid hJ'
              have HK' := Lib.hid hk'
              have HF' := Lib.hid hf'
              clear hJ' hk' hf' hR hy cY
              gi_wp2
              exact ⟨kf_up HF'.out hb5, ⟨HK'.out, kf_up HF'.out (by omega)⟩, by rw [← List.append_assoc]; exact HJ'.out, HKV.out.trans HK'.out, fun D hD => HF'.out.same D _ (Nat.le_trans hb (HD5.out D hD).1) (HDV.out D hD) rfl⟩
            · have HJ' := Lib.hid hJx'
              have HK' := Lib.hid hk'
              have HF' := Lib.hid hf'
              clear hJx' hk' hf' hR hy cY
              gi_wp2
              exact ⟨kf_up HF'.out hb5, ⟨HK'.out, kf_up HF'.out (by omega)⟩, rfl, ⟨_, HJ'.out⟩, fun D hD => HF'.out.same D _ (Nat.le_trans hb (HD5.out D hD).1) (HDV.out D hD) rfl⟩
          case done =>
            rintro D xs V hDz hxs ⟨hJV, hKV, hDV⟩ hDD
            have HJV := Lib.hid hJV
            have HKV := Lib.hid hKV
            have HDV := Lib.hid hDV
            have HDD := Lib.hid hDD
            have HXS := Lib.hid hxs
            clear hJV hKV hDV hDD hxs
            gi_wp2
            refine ⟨⟨k + 1, D :: ds, _, _, _, _, _, _, _, _, _, _, _, _, _, _, _, _, _, _, _, _, _, _, _, _, _, ⟨by omega, ?_, ?_, ?_, ?_⟩, by rw [show ((k + 1 : Nat) : Int) = (k : Int) + 1 by omega]; rfl⟩, by simp [intOf]; omega⟩
            · rw [HF2.out, HFM.out, ← HXS.out, show (ks.take k).flatMap FF ++ (ahead ++ m.name) :: xs = (ks.take k).flatMap FF ++ [ahead ++ m.name] ++ xs by simp]
              exact HJV.out
            · exact (((HK.out.trans (KD.below BU3.out)).trans HK4.out).trans (KD.below B5.out)).trans HKV.out
            · intro E hE
              rcases List.mem_cons.mp hE with rfl | hE
              · exact ⟨by omega, HDD.out⟩
              · exact ⟨(HD5.out E hE).1, HDV.out E hE⟩
            · rw [List.nodup_cons]
              exact ⟨fun hE => by have := (Array.getElem?_eq_some_iff.1 (HD5.out D hE).2).1; omega, HND.out⟩
          case stop =>
            rintro D cd pre V hDz _ ⟨rfl, ⟨q, hq⟩, hDV⟩ hDD
            have HQ := Lib.hid hq
            have HDV := Lib.hid hDV
            have HDD := Lib.hid hDD
            clear hq hDV hDD
            gi_wp2
            refine leave_marks rfl W.heap.size _ HX.out (D :: ds) V (.inr ⟨_, trivial, HQ.out⟩) ?_ ?_
            · intro E hE
              rcases List.mem_cons.mp hE with rfl | hE
              · exact ⟨by omega, HDD.out⟩
              · exact ⟨(HD5.out E hE).1, HDV.out E hE⟩
            · rw [List.nodup_cons]
              exact ⟨fun hE => by have := (Array.getElem?_eq_some_iff.1 (HD5.out D hE).2).1; omega, HND.out⟩
        · have hD4 : ∀ D ∈ ds, W.heap.size ≤ D ∧ w4.heap[D]? = some (.deferred (some [])) := fun D hD => by
            obtain ⟨q1, q2⟩ := HD.out D hD
            have e3 : w3.heap[D]? = some (.deferred (some [])) := (BU3.out.block D (Array.getElem?_eq_some_iff.1 q2).1).trans q2
            exact ⟨q1, hf4.same D _ (by omega) e3 rfl⟩
          gi_wp2
          exact leave_marks rfl W.heap.size _ HX.out ds w4 (.inr ⟨_, trivial, hJx4⟩) hD4 HND.out
      · obtain rfl : k = ks.length := by omega
        gi_wp2
        exact leave_marks rfl W.heap.size _ HX.out ds wx (.inl ⟨_, by rw [HPL.out, List.take_length], HJ.out⟩) HD.out HND.out
    · have hk2 : (kd == 2) = false := by simpa using hk
      gi_wp2
      refine ⟨_, results_none rfl _ _ _, ⟨_, rfl⟩, .inl ?_⟩
      rw [show pathsL (h + 1) ⟨nm, kd, ex, dt, ks⟩ ahead = [] from if_pos hk]
      exact HJ3.out
end Go.Proofs.Ytdpeblchndfdaaa
