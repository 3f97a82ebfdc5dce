/- kidsAnew, anew. -/
import Derived.Test.YtfflkpggmhlfpaaDoorTh
namespace Go.Proofs.YtfflkpggmhlfpaaDoor
open Go.RowKit
set_option maxRecDepth 100000
theorem Has.tris {S : Nat → Prop} {w : World} {h : Nat} {n : Nd} {ao : Option Addr} (hH : Has S w (h + 1) n ao) : ∃ ps : List Tri, ps.map (·.1) = n.kids ∧ Rowd w ps ao ∧ ∀ p ∈ ps, Has S w h p.1 p.2.1 := by
  have hx : ∀ i : Fin n.kids.length, ∃ p : Tri, p.1 = n.kids[i] ∧ (∃ a, ao = some a ∧ Kid w a i.1 p.cells) ∧ Has S w h p.1 p.2.1 := fun i => by
    obtain ⟨a, g, c, e, _, hK, hM⟩ := hH.2 i.1 (n.kids[i]) (List.getElem?_eq_getElem i.2)
    exact ⟨(n.kids[i], g, c), rfl, ⟨a, e, hK⟩, hM⟩
  refine ⟨List.ofFn fun i => Classical.choose (hx i), ?_, fun i p hp => ?_, fun p hp => ?_⟩
  · apply List.ext_getElem
    · simp
    · intro i h1 h2
      simp only [List.getElem_map, List.getElem_ofFn]
      exact (Classical.choose_spec (hx ⟨i, h2⟩)).1
  · rw [List.getElem?_ofFn] at hp
    split at hp
    · rename_i hil
      cases hp
      exact (Classical.choose_spec (hx ⟨i, hil⟩)).2.1
    · cases hp
  · obtain ⟨i, rfl⟩ := List.mem_ofFn.mp hp
    exact (Classical.choose_spec (hx i)).2.2
/-- no more kids than can be copied -/
def Slim : Nat → Nd → Prop
  | 0, _ => True
  | h + 1, n => n.kids.length ≤ 1000000 ∧ ∀ m ∈ n.kids, Slim h m
/-- kids that were made since w0 are answered -/
def MadeK (w0 w' : World) (h : Nat) (n : Nd) (e : Ending) : Prop := ∃ ao cap, e = .returned (.slice ao n.kids.length cap) ∧ Has (fun i => w0.heap.size ≤ i) w' h n ao
theorem flat_set (qs : List Tri) (cur : List Value) (k : Nat) (p : Tri) (g : Option Addr) (c : Nat) (hk : qs[k]? = some p) : (qs.flatMap Tri.cells ++ cur).set (k * 5 + 4) (.slice g p.1.kids.length c) = (qs.set k (p.1, g, c)).flatMap Tri.cells ++ cur := by
  induction qs generalizing k with
  | nil => simp at hk
  | cons q r ih =>
    cases k with
    | zero =>
      simp only [List.getElem?_cons_zero, Option.some.injEq] at hk
      subst hk
      rfl
    | succ k =>
      have h5 : q.cells.length = 5 := rfl
      rw [List.flatMap_cons, List.append_assoc, List.set_append_right _ _ (by rw [h5]; omega), h5, show (k + 1) * 5 + 4 - 5 = k * 5 + 4 by omega, ih k (by simpa using hk)]
      rw [List.set_cons_succ, List.flatMap_cons, List.append_assoc]
theorem Own.other {w u : World} {e : TypeId} {size n cap g : Nat} {xs xs' cur : List Value} (h : Own w e size (some ⟨g, 0, none⟩) n cap xs) (hA : At w g e (xs ++ cur)) (hU : At u g e (xs' ++ cur)) (hl : xs'.length = xs.length) : Own u e size (some ⟨g, 0, none⟩) n cap xs' := by
  refine ⟨by rw [hl]; exact h.1, ?_⟩
  rcases h.2 with ⟨h0, _⟩ | ⟨g', cap', cur0, hv, hb, hg, r1, r2, r3, r4⟩
  · cases h0
  · cases hv
    refine .inr ⟨g, cap, (xs' ++ cur).toArray, rfl, hb, hU, r1, r2, ?_, ?_⟩
    · unfold At at hA
      rw [hg] at hA
      cases hA
      rw [← r3]
      simp [hl]
    · have h1 := h.1
      rw [← hl] at h1
      simp only []
      rw [← h1, List.take_left]
set_option maxHeartbeats 4000000 in
theorem kidsAnew_any : ∀ (h : Nat) (n : Nd) (ao : Option Addr) (cap : Nat) (w : World), Slim h n → Has any_ w h n ao →
    Calls Tryd.prog 45 #[.slice ao n.kids.length cap] w fun e w' => Below w.heap.size w w' ∧ MadeK w w' h n e := by
  intro h
  induction h with
  | zero => intro n ao cap w _ hH; exact hH.elim
  | succ h ih =>
    intro n ao cap w hsl hH
    have IH := Lib.hid ih
    obtain ⟨ps, hpn, hrow, hhas⟩ := hH.tris
    have hlen : n.kids.length = ps.length := by rw [← hpn, List.length_map]
    have hpl : ps.length ≤ 1000000 := by have := hsl.1; omega
    have hpl2 : (ps.length : Int) ≤ 1000000 := by omega
    have HSL := Lib.hid hsl.2
    have HROW := Lib.hid hrow
    have HPN := Lib.hid hpn
    have HHAS := Lib.hid hhas
    have HLEN := Lib.hid hlen
    rw [hlen]
    clear ih hpn hrow hhas hH hsl hlen
    go_enter Tryd.func45, Tryd.ntmps45
    go_wp2_with fail
    refine (clone_any ps ao cap w HROW.out hpl).mono ?_
    rintro e w1 ⟨b1, ao1, cap1, rfl, hO, hb1⟩
    have hold : ∀ p ∈ ps, Has (fun i => i < w.heap.size) w1 h p.1 p.2.1 := fun p hp => ((HHAS.out p hp).mono (fun i _ hl => hl)).below b1
    have HO := Lib.hid hO
    have HB1 := Lib.hid b1
    have HNEW := Lib.hid hb1
    have HOLD := Lib.hid hold
    clear hO b1 hold hb1
    go_wp2_with fail
    go_loopw [9] (fun i wx => ∃ (k : Nat) (qs : List Tri), qs.length = ps.length ∧ k ≤ ps.length ∧ i = .int .i64 k ∧ qs.map (·.1) = n.kids ∧ Own wx 24 5 ao1 ps.length cap1 (qs.flatMap Tri.cells) ∧ (∀ j p, qs[j]? = some p → (j < k → Has (fun i => w.heap.size ≤ i ∧ i ∉ blk ao1) wx h p.1 p.2.1) ∧ (k ≤ j → Has (fun i => i < w.heap.size) wx h p.1 p.2.1)) ∧ Below w.heap.size w wx) (fun i _ => ps.length - (intOf i).toNat)
    case atStart => exact ⟨0, ps, rfl, Nat.zero_le _, rfl, HPN.out, HO.out, fun j p hp => ⟨fun h => absurd h (Nat.not_lt_zero _), fun _ => HOLD.out p (List.mem_of_getElem? hp)⟩, HB1.out⟩
    clear HO HB1 HOLD HROW HHAS
    case round =>
      obtain ⟨k, qs, hql, hk, rfl, hqn, hO, hhas, hB⟩ := hrel
      have HQN := Lib.hid hqn
      have HHAS := Lib.hid hhas
      have HB := Lib.hid hB
      have HQL := Lib.hid hql
      have hwz := hB.size
      clear hqn hhas hB hql
      by_cases hlt : k < ps.length
      · have hlt' : (k : Int) < ps.length := by omega
        obtain ⟨G, cur, rfl, hA, _, _⟩ := hO.there (by omega)
        obtain ⟨p, hp⟩ : ∃ p, qs[k]? = some p := ⟨_, List.getElem?_eq_getElem (by rw [HQL.out]; exact hlt)⟩
        have hGw := HNEW.out G (by simp [blk])
        have hcell : wr.cell? ⟨G, k * 5 + 4, none⟩ = some (.slice p.2.1 p.1.kids.length p.2.2) := hA.cell _ _ (by
          have := flat_get qs k 4 p (.slice p.2.1 p.1.kids.length p.2.2) hp rfl
          rw [List.getElem?_append_left (by exact (List.getElem?_eq_some_iff.1 this).1)]
          exact this)
        have HA := Lib.hid hA
        have HO := Lib.hid hO
        have HP := Lib.hid hp
        clear hA hO hp
        have hpm : p.1 ∈ n.kids := by rw [← HQN.out]; exact List.mem_map.mpr ⟨p, List.mem_of_getElem? HP.out, rfl⟩
        go_wp2_with fail
        refine (IH.out p.1 p.2.1 p.2.2 wr (HSL.out p.1 hpm) ((HHAS.out k p HP.out).2 (Nat.le_refl _)).any).mono ?_
        rintro e w5 ⟨b5, g5, c5, rfl, h5⟩
        have hA5 := HA.out.below b5 HA.out.lt
        have hO5 := HO.out.touch (ft := []) (Touch.of_below b5) (fun _ _ h => by cases h)
        have z5 := b5.size
        have hGlt := HA.out.lt
        have hcl : k * 5 + 4 < (qs.flatMap Tri.cells ++ cur).length := by rw [List.length_append, flat_len, HQL.out]; omega
        have HA5 := Lib.hid hA5
        have HO5 := Lib.hid hO5
        have H5 := Lib.hid h5
        have B5 := Lib.hid b5
        clear hA5 hO5 h5 b5
        go_wp2_with (refine store_slice_any rfl (.tmp 21) (.tmp 19) rfl G (k * 5 + 4) rfl g5 p.1.kids.length c5 rfl _ ((qs.set k (p.1, g5, c5)).flatMap Tri.cells ++ cur) HA5.out hcl (flat_set qs cur k p g5 c5 HP.out) ?_; intro u6 hu6 tu6; have HU6 := Lib.hid hu6; have TU6 := Lib.hid tu6; clear hu6 tu6)
        have hqm : (qs.set k (p.1, g5, c5)).map (·.1) = n.kids := by
          rw [← HQN.out, List.map_set]
          apply List.ext_getElem?
          intro i
          rw [List.getElem?_set]
          split
          · rename_i e
            subst e
            rw [List.getElem?_map, HP.out, if_pos (by rw [List.length_map]; exact (List.getElem?_eq_some_iff.1 HP.out).1)]
            rfl
          · rfl
        have hO6 := Own.other HO5.out HA5.out HU6.out (by rw [flat_len, flat_len, List.length_set])
        have hB6 : Below w.heap.size w u6 := TU6.out.below (HB.out.trans (B5.out.mono hwz)) (by simp; omega) (by omega)
        have h6 : ∀ j q, (qs.set k (p.1, g5, c5))[j]? = some q → (j < k + 1 → Has (fun i => w.heap.size ≤ i ∧ i ∉ blk (some ⟨G, 0, none⟩)) u6 h q.1 q.2.1) ∧ (k + 1 ≤ j → Has (fun i => i < w.heap.size) u6 h q.1 q.2.1) := fun j q hj => by
          rw [List.getElem?_set] at hj
          split at hj
          · rename_i e
            subst e
            rw [if_pos (by rw [HQL.out]; exact hlt)] at hj
            cases hj
            exact ⟨fun _ => Has.kept (S' := fun i => w.heap.size ≤ i ∧ i ∉ blk (some ⟨G, 0, none⟩)) (fun i (hi : wr.heap.size ≤ i) _ => ⟨(by omega : w.heap.size ≤ i), by simp [blk]; omega⟩) (fun i (hi : wr.heap.size ≤ i) hl => TU6.out.block i hl (by simp; omega)) h p.1 g5 H5.out, fun h => absurd h (by omega)⟩
          · rename_i e
            obtain ⟨q1, q2⟩ := HHAS.out j q hj
            refine ⟨fun hlt => ?_, fun hle => ?_⟩
            · exact Has.kept (S' := fun i => w.heap.size ≤ i ∧ i ∉ blk (some ⟨G, 0, none⟩)) (fun i hi _ => hi) (fun i hi hl => TU6.out.block i hl (by have := hi.2; simpa [blk] using this)) h q.1 q.2.1 ((q1 (by omega)).below B5.out)
            · exact Has.kept (S' := fun i => i < w.heap.size) (fun i hi _ => hi) (fun i (hi : i < w.heap.size) hl => TU6.out.block i hl (by simp; omega)) h q.1 q.2.1 ((q2 (by omega)).below B5.out)
        go_roundw
        case rel => exact ⟨k + 1, qs.set k (p.1, g5, c5), by rw [List.length_set, HQL.out], by omega, by go_num, hqm, hO6, h6, hB6⟩
        case measure => simp [intOf]; omega
      · have hlt' : ¬ (k : Int) < ps.length := by omega
        obtain rfl : k = ps.length := by omega
        have HO := Lib.hid hO
        clear hO
        go_wp2_with fail
        go_ret
        refine ⟨HB.out, ao1, cap1, by rw [HLEN.out]; rfl, ?_⟩
        have hK : KidsAt w.heap.size wr h qs ao1 cap1 := ⟨by rw [HQL.out]; exact HO.out, HNEW.out, fun p hp => by
          obtain ⟨j, hj⟩ := List.getElem?_of_mem hp
          exact (HHAS.out j p hj).1 (by rw [← HQL.out]; exact (List.getElem?_eq_some_iff.1 hj).1)⟩
        exact hK.node n HQN.out.symm
set_option maxHeartbeats 4000000 in
theorem anew_any (h : Nat) (n : Nd) (ao : Option Addr) (cap : Nat) (w : World) (hh : h ≤ 65536) (hsl : Slim h n) (hH : Has any_ w h n ao) :
    Calls Tryd.prog 28 #[n.v ao cap] w fun e w' => Below w.heap.size w w' ∧ Made w w' h n e := by
  have HH := Lib.hid hH
  have HSL := Lib.hid hsl
  clear hH hsl
  cases n with
  | mk nm kd ex dt ks =>
  go_enter Tryd.func28, Tryd.ntmps28
  go_wp2_with (first
    | (with_reducible refine box_any rfl 24 (.tmp 0) rfl [.string (bs nm), .int .i64 kd, .bool ex, .string (bs dt), .slice ao ks.length cap] rfl ?_; intro u hu bu zu; have HU := Lib.hid hu; have BU := Lib.hid bu; clear hu bu)
    | (with_reducible refine alloc_any rfl 24 rfl _ zero_nd ?_; intro u2 hr2 bu2 zu2; rw [zu] at hr2; have HR := Lib.hid hr2; have HU2 := Lib.hid (HU.out.below bu2 HU.out.lt); have BU2 := Lib.hid (BU.out.trans (bu2.mono (by omega))); clear bu2 hr2)
    | (refine load_any rfl 24 (.tmp 1) rfl ⟨w.heap.size, 0, none⟩ rfl [.string (bs nm), .int .i64 kd, .bool ex, .string (bs dt), .slice ao ks.length cap] _ (fun j v hj => by rw [Addr.add0]; exact HU2.out.cell j v hj) Tryd.underlying24 rfl info_nd ?_))
  refine (ends_any h ⟨nm, kd, ex, dt, ks⟩ ao cap u2 65536 hh (by omega) (HH.out.below BU2.out)).mono ?_
  rintro e w3 ⟨rfl, b3⟩
  have z3 := b3.size
  have HU3 := Lib.hid (HU2.out.below b3 HU2.out.lt)
  have HR3 := Lib.hid (HR.out.below b3 HR.out.lt)
  have HB3 := Lib.hid (BU2.out.trans (b3.mono (by omega)))
  have c4 := HU3.out.cell 4 _ rfl
  clear b3 HU HU2 HR BU BU2
  go_wp2_with fail
  refine (kidsAnew_any h ⟨nm, kd, ex, dt, ks⟩ ao cap w3 HSL.out (HH.out.below HB3.out)).mono ?_
  rintro e w4 ⟨b4, ao4, cap4, rfl, h4⟩
  have z4 := b4.size
  have HU4 := Lib.hid (HU3.out.below b4 HU3.out.lt)
  have HR4 := Lib.hid (HR3.out.below b4 HR3.out.lt)
  have HB4 := Lib.hid (HB3.out.trans (b4.mono (by omega)))
  have H4 := Lib.hid h4
  clear b4 h4 c4 HU3 HR3 HB3
  go_wp2_with (first
    | (refine store_slice_any rfl (.tmp 8) (.tmp 7) rfl w.heap.size 4 rfl ao4 ks.length cap4 rfl _ [.string (bs nm), .int .i64 kd, .bool ex, .string (bs dt), .slice ao4 ks.length cap4] HU4.out (by simp) rfl ?_; intro u5 hu5 tu5; have HU5 := Lib.hid hu5; have HR5 := Lib.hid (HR4.out.touch tu5 (by simp)); have HT5 := Lib.hid tu5; clear hu5 tu5)
    | (refine load_any rfl 24 (.tmp 1) rfl ⟨w.heap.size, 0, none⟩ rfl [.string (bs nm), .int .i64 kd, .bool ex, .string (bs dt), .slice ao4 ks.length cap4] _ (fun j v hj => by rw [Addr.add0]; exact HU5.out.cell j v hj) Tryd.underlying24 rfl info_nd ?_)
    | (refine store_any rfl 24 (.tmp 2) (.tmp 9) rfl (w.heap.size + 1) rfl [.string (bs nm), .int .i64 kd, .bool ex, .string (bs dt), .slice ao4 ks.length cap4] rfl _ HR5.out rfl info_nd (nd_one ⟨nm, kd, ex, dt, ks⟩ ao4 cap4) ?_; intro u6 hu6 tu6; have HU6 := Lib.hid hu6; have HT6 := Lib.hid tu6; clear hu6 tu6))
  (try simp only [Exit.inBlock, Exit.then])
  have hT : Touch [w.heap.size, w.heap.size + 1] w4 u6 := (HT5.out.mono (by simp)).trans (HT6.out.mono (by simp))
  refine bodyPost_ret (v := (Nd.mk nm kd ex dt ks).v ao4 cap4) ?_ rfl ⟨hT.below HB4.out (by simp) (Nat.le_refl _), ⟨ao4, cap4, rfl, ?_⟩⟩
  · exact results_cell_row (fn := Tryd.f28) (p := 2) (ty := 24) rfl _ _ (w.heap.size + 1) 24 _ (0, 0) _ rfl HU6.out Tryd.underlying24 rfl info_nd
  · exact Has.kept (S' := fun i => w.heap.size ≤ i) (fun i (hi : w3.heap.size ≤ i) _ => (by omega : w.heap.size ≤ i)) (fun i (hi : w3.heap.size ≤ i) hl => hT.block i hl (by simp; omega)) h _ ao4 H4.out
end Go.Proofs.YtfflkpggmhlfpaaDoor
