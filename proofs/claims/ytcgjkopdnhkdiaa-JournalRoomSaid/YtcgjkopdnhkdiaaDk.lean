/- The walks of Wake. -/
import Derived.Test.YtcgjkopdnhkdiaaDj
import Derived.Test.YtcgjkopdnhkdiaaDn
namespace Go.Proofs.Ytcgjkopdnhkdiaa
open Go.RowKit
set_option maxRecDepth 100000

/-- fates that came in, in no block of those -/
def Fts (w : World) (fa : Option Addr) (fs : List UInt8) (av : List Nat) : Prop := ∀ j c, fs[j]? = some c → ∃ a, fa = some a ∧ w.cell? (a.add j) = some (.int .u8 (c.toNat : Int)) ∧ a.block ∉ av
theorem add_block (a : Addr) (j : Nat) : (a.add j).block = a.block := by unfold Addr.add; split <;> rfl
theorem cell_touch {ft : List Nat} {w w' : World} {p : Addr} {v : Value} (h : w.cell? p = some v) (k : Touch ft w w') (hne : p.block ∉ ft) : w'.cell? p = some v := by
  rw [← h]
  exact World.cell?_of_block (k.block _ (World.block_lt_of_cell? w p h) hne)
theorem Fts.touch {ft av : List Nat} {w w' : World} {fa : Option Addr} {fs : List UInt8} (h : Fts w fa fs av) (k : Touch ft w w') (hs : ∀ i, i ∈ ft → i ∈ av ∨ w.heap.size ≤ i) : Fts w' fa fs av := fun j c hj => by
  obtain ⟨a, e, hc, hn⟩ := h j c hj
  refine ⟨a, e, cell_touch hc k (fun hi => ?_), hn⟩
  rw [add_block] at hi
  rcases hs _ hi with h1 | h1
  · exact hn h1
  · have := World.block_lt_of_cell? w _ hc
    rw [add_block] at this
    omega
/-- what stays of writes with these fates -/
def fated (fl : List (List UInt8)) (l : List ((Nat × List UInt8) × UInt8)) : List (List UInt8) := l.foldl (fun f p => f.set p.1.1 (over p.1.2 (f[p.1.1]?.getD []) p.2.toNat)) fl
def Dk.wake (s : Dk) (fs : List UInt8) : Dk := if s.off then { s with fl := fated s.fl (s.ws.zip fs), ws := [], off := false } else s
def copied (fl nw : List (List UInt8)) (ws : List (Nat × List UInt8)) : List (List UInt8) := ws.foldl (fun v x => v.set x.1 (fl[x.1]?.getD [])) nw

theorem fated_len (fl : List (List UInt8)) : ∀ (l : List ((Nat × List UInt8) × UInt8)), (fated fl l).length = fl.length := fun l => by
  unfold fated
  induction l generalizing fl with
  | nil => rfl
  | cons p r ih => rw [List.foldl_cons, ih, List.length_set]
theorem toNat_lt (c : UInt8) : c.toNat < 256 := c.toNat_lt
theorem fated_128 : ∀ (l : List ((Nat × List UInt8) × UInt8)) (fl : List (List UInt8)), (∀ x ∈ fl, x.length = 128) → (∀ p ∈ l, p.1.2.length = 128) → ∀ x ∈ fated fl l, x.length = 128
  | [], _, h, _ => h
  | p :: r, fl, h, h2 => by
    have e : fated fl (p :: r) = fated (fl.set p.1.1 (over p.1.2 (fl[p.1.1]?.getD []) p.2.toNat)) r := rfl
    rw [e]
    by_cases hl : p.1.1 < fl.length
    · refine fated_128 r _ (fun x hx => ?_) (fun q hq => h2 q (by simp [hq]))
      rcases List.mem_or_eq_of_mem_set hx with hx | rfl
      · exact h x hx
      · rw [List.getElem?_eq_getElem hl, Option.getD_some]
        exact over_len _ _ _ (toNat_lt _) (h2 p (by simp)) (h _ (by simp))
    · rw [List.set_eq_of_length_le (by omega)]
      exact fated_128 r _ h (fun q hq => h2 q (by simp [hq]))
theorem fated_snoc (fl : List (List UInt8)) (l : List ((Nat × List UInt8) × UInt8)) (p : (Nat × List UInt8) × UInt8) : fated fl (l ++ [p]) = (fated fl l).set p.1.1 (over p.1.2 ((fated fl l)[p.1.1]?.getD []) p.2.toNat) := by
  unfold fated; rw [List.foldl_append]; rfl

theorem copied_len (fl nw : List (List UInt8)) (ws : List (Nat × List UInt8)) : (copied fl nw ws).length = nw.length := by
  unfold copied
  induction ws generalizing nw with
  | nil => rfl
  | cons p r ih => rw [List.foldl_cons, ih, List.length_set]
theorem copied_snoc (fl nw : List (List UInt8)) (ws : List (Nat × List UInt8)) (x : Nat × List UInt8) : copied fl nw (ws ++ [x]) = (copied fl nw ws).set x.1 (fl[x.1]?.getD []) := by
  unfold copied; rw [List.foldl_append]; rfl
theorem copied_128 {fl : List (List UInt8)} : ∀ (ws : List (Nat × List UInt8)) (nw : List (List UInt8)), (∀ x ∈ fl, x.length = 128) → (∀ x ∈ nw, x.length = 128) → (∀ x ∈ ws, x.1 < fl.length) → ∀ x ∈ copied fl nw ws, x.length = 128
  | [], _, _, h, _ => h
  | p :: r, nw, hf, h, h2 => by
    have e : copied fl nw (p :: r) = copied fl (nw.set p.1 (fl[p.1]?.getD [])) r := rfl
    rw [e]
    refine copied_128 r _ hf (fun x hx => ?_) (fun q hq => h2 q (by simp [hq]))
    rcases List.mem_or_eq_of_mem_set hx with hx | rfl
    · exact h x hx
    · have := h2 p (by simp)
      rw [List.getElem?_eq_getElem this, Option.getD_some]
      exact hf _ (by simp)
theorem copied_get (fl : List (List UInt8)) (j : Nat) (hj : j < fl.length) : ∀ (ws : List (Nat × List UInt8)) (nw : List (List UInt8)), nw.length = fl.length → (j ∈ ws.map (·.1) → (copied fl nw ws)[j]? = fl[j]?) ∧ ((nw[j]? = fl[j]? ∨ j ∉ ws.map (·.1)) → (copied fl nw ws)[j]? = if j ∈ ws.map (·.1) then fl[j]? else nw[j]?)
  | [], nw, _ => ⟨by simp, fun _ => by simp [copied]⟩
  | p :: r, nw, hl => by
    have e : copied fl nw (p :: r) = copied fl (nw.set p.1 (fl[p.1]?.getD [])) r := rfl
    have ih := copied_get fl j hj r (nw.set p.1 (fl[p.1]?.getD [])) (by rw [List.length_set]; exact hl)
    rw [e]
    by_cases hr : j ∈ r.map (·.1)
    · exact ⟨fun _ => ih.1 hr, fun _ => by rw [ih.1 hr, if_pos (by simp; right; simpa using hr)]⟩
    · have h2 := ih.2 (.inr hr)
      rw [if_neg hr] at h2
      by_cases hp : j = p.1
      · subst hp
        have h3 : (nw.set p.1 (fl[p.1]?.getD []))[p.1]? = fl[p.1]? := by
          rw [List.getElem?_set_self (by omega), List.getElem?_eq_getElem hj]; rfl
        exact ⟨fun _ => by rw [h2, h3], fun _ => by rw [h2, h3, if_pos (by simp)]⟩
      · have h3 : (nw.set p.1 (fl[p.1]?.getD []))[j]? = nw[j]? := by rw [List.getElem?_set_ne (fun e => hp e.symm)]
        have h4 : j ∉ (p :: r).map (·.1) := fun h => by
          rw [List.map_cons] at h
          rcases List.mem_cons.1 h with h | h
          · exact hp h
          · exact hr h
        exact ⟨fun h => absurd h h4, fun _ => by rw [h2, h3, if_neg h4]⟩
theorem putAll_not (j : Nat) : ∀ (ws : List (Nat × List UInt8)) (fl : List (List UInt8)), j ∉ ws.map (·.1) → (putAll fl ws)[j]? = fl[j]?
  | [], _, _ => rfl
  | p :: r, fl, h => by
    have e : putAll fl (p :: r) = putAll (fl.set p.1 p.2) r := rfl
    simp only [List.map_cons, List.mem_cons, not_or] at h
    rw [e, putAll_not j r _ h.2, List.getElem?_set_ne (fun e => h.1 e.symm)]
theorem fated_not (j : Nat) : ∀ (l : List ((Nat × List UInt8) × UInt8)) (fl : List (List UInt8)), j ∉ l.map (·.1.1) → (fated fl l)[j]? = fl[j]?
  | [], _, _ => rfl
  | p :: r, fl, h => by
    have e : fated fl (p :: r) = fated (fl.set p.1.1 (over p.1.2 (fl[p.1.1]?.getD []) p.2.toNat)) r := rfl
    simp only [List.map_cons, List.mem_cons, not_or] at h
    rw [e, fated_not j r _ h.2, List.getElem?_set_ne (fun e => h.1 e.symm)]
theorem copied_all (fl : List (List UInt8)) (ws : List (Nat × List UInt8)) (fs : List UInt8) : copied (fated fl (ws.zip fs)) (putAll fl ws) ws = fated fl (ws.zip fs) := by
  apply List.ext_getElem?
  intro j
  by_cases hj : j < (fated fl (ws.zip fs)).length
  · have h := copied_get (fated fl (ws.zip fs)) j hj ws (putAll fl ws) (by rw [putAll_len, fated_len])
    by_cases hm : j ∈ ws.map (·.1)
    · exact h.1 hm
    · rw [h.2 (.inr hm), if_neg hm, putAll_not j ws fl hm, fated_not]
      intro hi
      obtain ⟨p, hp, rfl⟩ := List.mem_map.1 hi
      exact hm (List.mem_map.2 ⟨p.1, (List.of_mem_zip hp).1, rfl⟩)
  · rw [List.getElem?_eq_none (by rw [copied_len, putAll_len]; rw [fated_len] at hj; omega), List.getElem?_eq_none (by omega)]
theorem enter_over : ∀ (args : Array Value) (w : World), (callFunc 45 args).run Try.prog w = .ok (.enter 45 args) w := enters_of Try.func45 (by kernel_rfl) rfl

section
variable {w : World} {D F N : Nat} {ao : Option Addr} {cap n : Nat} {s : Dk}
theorem wake_nil (w : World) (v : Value) : Calls Try.prog 19 #[.pointer none, v] w fun e w' => e = .returned (.tuple #[]) ∧ w' = w := by
  go_enter Try.func19, Try.ntmps19
  go_wp2
  refine bodyPost_ret (results_none rfl _ _ _) rfl ?_
  exact ⟨rfl, rfl⟩
theorem wake_on (h : DiskAt w D F N ao cap n s) (v : Value) (hoff : s.off = false) : Calls Try.prog 19 #[.pointer (some ⟨D, 0, none⟩), v] w fun e w' => e = .returned (.tuple #[]) ∧ w' = w := by
  have c3 := h.d.cell 3 _ rfl
  rw [hoff] at c3
  clear h hoff
  go_enter Try.func19, Try.ntmps19
  go_wp2
  refine bodyPost_ret (results_none rfl _ _ _) rfl ?_
  exact ⟨rfl, rfl⟩
set_option maxRecDepth 100000 in
set_option maxHeartbeats 8000000 in
theorem wake_off (h : DiskAt w D F N ao cap n s) (hoff : s.off = true) (fa : Option Addr) (fs : List UInt8) (fc : Nat) (hfc : fs.length ≤ fc) (hfs : fs.length ≤ 9223372036854775807) (hF : Fts w fa fs (foot D F N ao)) (hws : s.ws.length ≤ 1000000) :
    Calls Try.prog 19 #[.pointer (some ⟨D, 0, none⟩), .slice fa fs.length fc] w fun e w' => e = .returned (.tuple #[]) ∧ DiskAt w' D F N none 0 n (s.wake fs) ∧ Touch (foot D F N ao) w w' := by
  have c3 := h.d.cell 3 _ rfl
  rw [hoff] at c3
  have f3 := h.d.frozen 3
  have HO1 := Lib.hid hoff
  have ok := h.ok
  have h1 := h.set 3 (.bool false) { s with off := false } rfl rfl rfl ⟨ok.n1, ok.n2, ok.fl, ok.f128, ok.ws, ok.f1, ok.f2⟩
  have T1 : Touch [D] w (w.setCell ⟨D, 3, none⟩ (.bool false)) := (Touch.refl _ _).setCell _ _ (.inl (by simp))
  have hF1 := hF.touch T1 (fun i hi => .inl (by simp at hi; simp [foot, hi]))
  have HT1 := Lib.hid T1
  have H := Lib.hid h1
  have HF := Lib.hid hF1
  clear h h1 hF hF1 T1 hoff ok
  go_enter Try.func19, Try.ntmps19
  go_wp2
  generalize w.setCell ⟨D, 3, none⟩ (.bool false) = w1 at *
  have c2 := H.out.d.cell 2 _ rfl
  have hcap := H.out.w.cap
  have hmax := H.out.w.max
  unfold maxLen at hmax
  clear c3 f3
  obtain ⟨m, hm⟩ : ∃ m, m = min s.ws.length fs.length := ⟨_, rfl⟩
  have hm' : min (s.ws.length : Int) (fs.length : Int) = (m : Int) := by omega
  have e1 : 0 ≤ (m : Int) := by omega
  have e2 : m ≤ cap := by simp only [] at hcap; omega
  go_quiet (fail)
  have H2 := Lib.hid (H.out.drewN nq)
  have HF2 : Hid (Fts (w1.drewN nq) fa fs (foot D F N ao)) := Lib.hid HF.out
  have T2 := Lib.hid (HT1.out.drewN nq)
  have hif : (if fs.length < s.ws.length then (fs.length : Int) else (s.ws.length : Int)) = (m : Int) := by split <;> omega
  have hmx : max (m : Int) 0 = (m : Int) := by omega
  simp only [hif, hmx, Int.toNat_natCast]
  have HM := Lib.hid hm
  clear hm hm' hif hmx e2 hcap hmax c2
  generalize w1.drewN nq = w2 at *
  go_wp2_with fail
  obtain ⟨z, hz⟩ : ∃ z, z = s.ws.zip fs := ⟨_, rfl⟩
  have hzl : z.length = m := by rw [hz, List.length_zip, HM.out]
  have HZ := Lib.hid hz
  have HZL := Lib.hid hzl
  clear hz hzl
  go_loopw [34] (fun i wx => ∃ k : Nat, k ≤ m ∧ i = .int .i64 k ∧ At wx F 74 (vals (fated s.fl (z.take k))) ∧ Touch [F] w2 wx) (fun i _ => m - (intOf i).toNat)
  case atStart => exact ⟨0, by omega, rfl, H2.out.f, Touch.refl _ _⟩
  case round =>
    obtain ⟨k, hk, rfl, hFk, hT⟩ := hrel
    have HFk := Lib.hid hFk
    have HT := Lib.hid hT
    clear hFk hT
    by_cases hlt : k < m
    · have hmw : m ≤ s.ws.length := by rw [HM.out]; omega
      have hmf : m ≤ fs.length := by rw [HM.out]; omega
      obtain ⟨x, hx⟩ : ∃ x, s.ws[k]? = some x := ⟨_, List.getElem?_eq_getElem (by omega)⟩
      obtain ⟨c, hc⟩ : ∃ c, fs[k]? = some c := ⟨_, List.getElem?_eq_getElem (by omega)⟩
      have hxo : x.1 < n ∧ x.2.length = 128 := H2.out.ok.ws x (List.mem_of_getElem? hx)
      have hown := H2.out.w.touch HT.out (fun i hi => by have := H2.out.fa; simp; rintro rfl; exact this hi)
      obtain ⟨g, rfl, hrg⟩ := hown.write (fun y hy => (H2.out.ok.ws y hy).2) k x hx
      obtain ⟨fb, rfl, hfc2, hfn⟩ := (HF2.out.touch HT.out (fun i hi => .inl (by simp at hi; simp [foot, hi]))) k c hc
      have hth := (At.new wr zw 78).there 0 129 (by rw [zw_len]; omega)
      have hone := all_oneCell_toArray (wcell_one x)
      have hwl := wcell_len x hxo.2
      have hsz : (wcell x).toArray.size = 129 := by rw [List.size_toArray]; exact hwl
      obtain ⟨a2, t2⟩ := fill_new wr zw 78 (wcell x) (by rw [zw_len, hwl])
      have A2 := Lib.hid a2
      have U2 := Lib.hid t2
      have HW := Lib.hid hwl
      have HTH := Lib.hid hth
      have HN := Lib.hid hone
      have HX := Lib.hid hx
      have HC := Lib.hid hc
      have HXO := Lib.hid hxo
      have HR := Lib.hid hrg
      have HS := Lib.hid hsz
      have HFC := Lib.hid hfc2
      clear a2 t2 hwl hth hone hx hc hxo hrg hsz hown hfc2
      have hlt' : (k : Int) < (m : Int) := by omega
      go_wp2_with (first | (with_reducible refine wpList_load_mid rfl 78 (.tmp 37) rfl g (k * 129) (by kernel_rfl) (wcell x) _ HR.out Try.underlying78 rfl (by rw [HW.out]; exact info_write) ?_) | (with_reducible refine alloc_agg rfl 78 rfl zw zero_write ?_) | (with_reducible refine wpList_store_mid rfl 78 (.tmp 5) (.tmp 38) rfl wr.heap.size 0 (wcell x).toArray (by kernel_rfl) (by kernel_rfl) (by rw [HS.out]; exact HTH.out) (by rw [HS.out]; exact info_write) HN.out ?_))
      simp only [Act.put, List.setIfInBounds_toArray, List.set_cons_zero, List.set_cons_succ]
      have hz5 : wr.heap.size ≤ ((wr.alloc (.cells zw 78)).setCells wr.heap.size 0 (wcell x)).heap.size := U2.out.size
      have b5lt : wr.heap.size < ((wr.alloc (.cells zw 78)).setCells wr.heap.size 0 (wcell x)).heap.size := A2.out.lt
      have hlr := HT.out.size
      have hlt2 := H2.out.lt
      obtain ⟨b5, hb5⟩ : ∃ b5, b5 = wr.heap.size := ⟨_, rfl⟩
      rw [← hb5] at A2 U2 b5lt hz5 ⊢
      generalize (wr.alloc (.cells zw 78)).setCells b5 0 (wcell x) = w5 at *
      clear HTH HN
      have tw : Touch [F] w2 w5 := HT.out.step U2.out (by simp)
      have hF5 := HFk.out.touch U2.out (by simp)
      have hD5 := H2.out.d.touch tw (by simp [H2.out.df])
      have hl5 := fated_len s.fl (z.take k)
      have h128 := fated_128 (z.take k) s.fl H2.out.ok.f128 (fun p hp => by
        have := List.mem_of_mem_take hp
        rw [HZ.out] at this
        exact (H2.out.ok.ws p.1 (List.of_mem_zip this).1).2)
      obtain ⟨was, hwas⟩ : ∃ was, (fated s.fl (z.take k))[x.1]? = some was := ⟨_, List.getElem?_eq_getElem (by rw [hl5, H2.out.ok.fl]; exact HXO.out.1)⟩
      have hwl : was.length = 128 := h128 _ (List.mem_of_getElem? hwas)
      have hrF := hF5.range (x.1 * 128) 128
      rw [Nat.mul_comm, vals_seg _ h128 _ _ hwas, Nat.mul_comm] at hrF
      have hcf := cell_touch HFC.out U2.out (by simp)
      have hwm : (was.map bv).length = 128 := by rw [List.length_map]; exact hwl
      have HWL := Lib.hid hwm
      have HF5 := Lib.hid hF5
      have HD5 := Lib.hid hD5
      have TW := Lib.hid tw
      have H128 := Lib.hid h128
      have HWAS := Lib.hid hwas
      have HL5 := Lib.hid hl5
      have S0 : (w5.drew).cell? ⟨D, 0, none⟩ = some (.slice (some ⟨F, 0, none⟩) n n) ∧ (w5.drew).cell? ⟨b5, 0, none⟩ = some (.int .i64 (x.1 : Int)) ∧ (w5.drew).rangeAt b5 0 (wcell x) ∧ (w5.drew).rangeAt F (x.1 * 128) (was.map bv) ∧ (w5.drew).cell? (fb.add k) = some (.int .u8 (c.toNat : Int)) :=
        ⟨hD5.drew.cell 0 _ rfl, A2.out.drew.cell 0 _ rfl, A2.out.drew.range0, hrF, hcf⟩
      refine region_any (fun W => W.cell? ⟨D, 0, none⟩ = some (.slice (some ⟨F, 0, none⟩) n n) ∧ W.cell? ⟨b5, 0, none⟩ = some (.int .i64 (x.1 : Int)) ∧ W.rangeAt b5 0 (wcell x) ∧ W.rangeAt F (x.1 * 128) (was.map bv) ∧ W.cell? (fb.add k) = some (.int .u8 (c.toNat : Int))) 21 (by kernel_rfl) ?_
      refine wpAnyT_take (v := .pointer (some ⟨D, 0, none⟩)) (i := 0) rfl rfl (by kernel_rfl) (by kernel_rfl) (by kernel_rfl) (by kernel_rfl) (fun _ _ _ h => h) (.inl ⟨by kernel_rfl, fun W hS => by kernel_rfl⟩) S0 ?_
      refine wpAnyT_take (v := .pointer (some ⟨D, 0, none⟩)) (i := 1) rfl rfl (by kernel_rfl) (by kernel_rfl) (by kernel_rfl) (by kernel_rfl) (fun _ _ _ h => h) (.inl ⟨by kernel_rfl, fun W hS => by kernel_rfl⟩) S0 ?_
      refine wpAnyT_take (v := .pointer (some ⟨D, 0, none⟩)) (i := 2) rfl rfl (by kernel_rfl) (by kernel_rfl) (by kernel_rfl) (by kernel_rfl) (fun _ _ _ h => h) (.inl ⟨by kernel_rfl, fun W hS => by kernel_rfl⟩) S0 ?_
      refine wpAnyT_take (v := .slice (some ⟨F, 0, none⟩) n n) (i := 3) rfl rfl (by kernel_rfl) (by kernel_rfl) (by kernel_rfl) (by kernel_rfl) (fun _ _ _ h => h) (.inl ⟨by kernel_rfl, fun W hS => run_load_one 65 (.tmp 41) rfl ⟨D, 0, none⟩ (by kernel_rfl) _ hS.1 _ Try.underlying65 rfl⟩) S0 ?_
      refine wpAnyT_take (v := .pointer (some ⟨b5, 0, none⟩)) (i := 4) rfl rfl (by kernel_rfl) (by kernel_rfl) (by kernel_rfl) (by kernel_rfl) (fun _ _ _ h => h) (.inl ⟨by kernel_rfl, fun W hS => by kernel_rfl⟩) S0 ?_
      refine wpAnyT_take (v := .int .i64 (x.1 : Int)) (i := 5) rfl rfl (by kernel_rfl) (by kernel_rfl) (by kernel_rfl) (by kernel_rfl) (fun _ _ _ h => h) (.inl ⟨by kernel_rfl, fun W hS => run_load_one 3 (.tmp 43) rfl ⟨b5, 0, none⟩ (by kernel_rfl) _ hS.2.1 _ Try.underlying3 rfl⟩) S0 ?_
      refine wpAnyT_take (v := .agg (wcell x).toArray) (i := 6) rfl rfl (by kernel_rfl) (by kernel_rfl) (by kernel_rfl) (by kernel_rfl) (fun _ _ _ h => h) (.inl ⟨by kernel_rfl, fun W hS => run_load_op 78 (.tmp 5) rfl b5 0 (by kernel_rfl) (wcell x) _ hS.2.2.1 Try.underlying78 rfl (by rw [HW.out]; exact info_write)⟩) S0 ?_
      refine wpAnyT_take (v := .pointer (some ⟨D, 0, none⟩)) (i := 7) rfl rfl (by kernel_rfl) (by kernel_rfl) (by kernel_rfl) (by kernel_rfl) (fun _ _ _ h => h) (.inl ⟨by kernel_rfl, fun W hS => by kernel_rfl⟩) S0 ?_
      refine wpAnyT_take (v := .pointer (some ⟨D, 0, none⟩)) (i := 8) rfl rfl (by kernel_rfl) (by kernel_rfl) (by kernel_rfl) (by kernel_rfl) (fun _ _ _ h => h) (.inl ⟨by kernel_rfl, fun W hS => by kernel_rfl⟩) S0 ?_
      refine wpAnyT_take (v := .pointer (some ⟨D, 0, none⟩)) (i := 9) rfl rfl (by kernel_rfl) (by kernel_rfl) (by kernel_rfl) (by kernel_rfl) (fun _ _ _ h => h) (.inl ⟨by kernel_rfl, fun W hS => by kernel_rfl⟩) S0 ?_
      refine wpAnyT_take (v := .slice (some ⟨F, 0, none⟩) n n) (i := 10) rfl rfl (by kernel_rfl) (by kernel_rfl) (by kernel_rfl) (by kernel_rfl) (fun _ _ _ h => h) (.inl ⟨by kernel_rfl, fun W hS => run_load_one 65 (.tmp 48) rfl ⟨D, 0, none⟩ (by kernel_rfl) _ hS.1 _ Try.underlying65 rfl⟩) S0 ?_
      refine wpAnyT_take (v := .pointer (some ⟨b5, 0, none⟩)) (i := 11) rfl rfl (by kernel_rfl) (by kernel_rfl) (by kernel_rfl) (by kernel_rfl) (fun _ _ _ h => h) (.inl ⟨by kernel_rfl, fun W hS => by kernel_rfl⟩) S0 ?_
      refine wpAnyT_take (v := .int .i64 (x.1 : Int)) (i := 12) rfl rfl (by kernel_rfl) (by kernel_rfl) (by kernel_rfl) (by kernel_rfl) (fun _ _ _ h => h) (.inl ⟨by kernel_rfl, fun W hS => run_load_one 3 (.tmp 50) rfl ⟨b5, 0, none⟩ (by kernel_rfl) _ hS.2.1 _ Try.underlying3 rfl⟩) S0 ?_
      refine wpAnyT_take (v := .pointer (some ⟨F, x.1 * 128, none⟩)) (i := 13) rfl rfl (by kernel_rfl) (by kernel_rfl) (by kernel_rfl) (by kernel_rfl) (fun _ _ _ h => h) (.inl ⟨by kernel_rfl, fun W hS => run_index_op 65 74 (.tmp 49) (.tmp 51) rfl ⟨F, 0, none⟩ n n x.1 (by kernel_rfl) (by kernel_rfl) HXO.out.1 128 _ (Addr.add0 _ _) Try.underlying65 info_sector⟩) S0 ?_
      refine wpAnyT_take (v := .agg (was.map bv).toArray) (i := 14) rfl rfl (by kernel_rfl) (by kernel_rfl) (by kernel_rfl) (by kernel_rfl) (fun _ _ _ h => h) (.inl ⟨by kernel_rfl, fun W hS => run_load_op 74 (.tmp 52) rfl F (x.1 * 128) (by kernel_rfl) (was.map bv) _ hS.2.2.2.1 Try.underlying74 rfl (by rw [HWL.out]; exact info_sector)⟩) S0 ?_
      refine wpAnyT_take (v := .slice (some fb) fs.length fc) (i := 15) rfl rfl (by kernel_rfl) (by kernel_rfl) (by kernel_rfl) (by kernel_rfl) (fun _ _ _ h => h) (.inl ⟨by kernel_rfl, fun W hS => by kernel_rfl⟩) S0 ?_
      refine wpAnyT_take (v := .int .i64 (k : Int)) (i := 16) rfl rfl (by kernel_rfl) (by kernel_rfl) (by kernel_rfl) (by kernel_rfl) (fun _ _ _ h => h) (.inl ⟨by kernel_rfl, fun W hS => by kernel_rfl⟩) S0 ?_
      refine wpAnyT_take (v := .pointer (some (fb.add k))) (i := 17) rfl rfl (by kernel_rfl) (by kernel_rfl) (by kernel_rfl) (by kernel_rfl) (fun _ _ _ h => h) (.inl ⟨by kernel_rfl, fun W hS => run_index_op 28 5 (.tmp 54) (.tmp 55) rfl fb fs.length fc k (by kernel_rfl) (by kernel_rfl) (by omega) 1 _ (by rw [Nat.mul_one]) Try.underlying28 (by kernel_rfl)⟩) S0 ?_
      refine wpAnyT_take (v := .int .u8 (c.toNat : Int)) (i := 18) rfl rfl (by kernel_rfl) (by kernel_rfl) (by kernel_rfl) (by kernel_rfl) (fun _ _ _ h => h) (.inl ⟨by kernel_rfl, fun W hS => run_load_one 5 (.tmp 56) rfl (fb.add k) (by kernel_rfl) _ hS.2.2.2.2 _ Try.underlying5 rfl⟩) S0 ?_
      refine wpAnyT_all (rs := [19]) (by kernel_rfl) (by simp) ?_
      intro i hi
      obtain rfl : i = 19 := by simpa using hi
      refine wpOp_call rfl (by kernel_rfl) 45 #[.agg (wcell x).toArray, .agg (was.map bv).toArray, .int .u8 (c.toNat : Int)] (run_call_func rfl enter_over _ (by kernel_rfl)) ?_
      refine (over_any _ x was c.toNat (toNat_lt c) HXO.out.2 hwl).mono ?_
      rintro e w6 ⟨rfl, b6⟩
      have t6 : Touch [] w5 w6 := ⟨b6.os, b6.tape, b6.output, b6.size, fun k hk _ => b6.block k hk⟩
      have hD6 := HD5.out.touch t6 (by simp)
      have hA6 := A2.out.touch t6 (by simp)
      have hF6 := HF5.out.touch t6 (by simp)
      have hr6 := hF6.range (x.1 * 128) 128
      rw [Nat.mul_comm, vals_seg _ H128.out _ _ HWAS.out, Nat.mul_comm] at hr6
      have hc6 := cell_touch hcf t6 (by simp)
      have hol := over_len x.2 was c.toNat (toNat_lt c) HXO.out.2 hwl
      have hs6 : ((over x.2 was c.toNat).map bv).toArray.size = 128 := by rw [List.size_toArray, List.length_map]; exact hol
      have S6 : w6.cell? ⟨D, 0, none⟩ = some (.slice (some ⟨F, 0, none⟩) n n) ∧ w6.cell? ⟨b5, 0, none⟩ = some (.int .i64 (x.1 : Int)) ∧ w6.rangeAt b5 0 (wcell x) ∧ w6.rangeAt F (x.1 * 128) (was.map bv) ∧ w6.cell? (fb.add k) = some (.int .u8 (c.toNat : Int)) :=
        ⟨hD6.cell 0 _ rfl, hA6.cell 0 _ rfl, hA6.range0, hr6, hc6⟩
      refine ⟨_, rfl, fun _ => S6, ?_⟩
      refine wpAnyT_all (rs := [20]) (by kernel_rfl) (by simp) ?_
      intro i hi
      obtain rfl : i = 20 := by simpa using hi
      refine wpOp_val (w' := w6) (v := .pointer (some ⟨F, x.1 * 128, none⟩)) rfl (by kernel_rfl) (run_index_op 65 74 (.tmp 42) (.tmp 44) rfl ⟨F, 0, none⟩ n n x.1 (by kernel_rfl) (by kernel_rfl) HXO.out.1 128 _ (Addr.add0 _ _) Try.underlying65 info_sector) ⟨fun _ => S6, ?_⟩
      refine wpAnyT_all (rs := [21]) (by kernel_rfl) (by simp) ?_
      intro i hi
      obtain rfl : i = 21 := by simpa using hi
      have hvl : (vals (fated s.fl (z.take k))).length = 128 * n := by rw [vals_len _ H128.out, HL5.out, H2.out.ok.fl]
      refine wpOp_skip rfl (by kernel_rfl) (run_store_op 74 (.tmp 59) (.tmp 58) rfl F (x.1 * 128) ((over x.2 was c.toNat).map bv).toArray (by kernel_rfl) (by kernel_rfl) (by rw [hs6]; exact hF6.there _ _ (by rw [hvl]; have := HXO.out.1; omega)) (by rw [hs6]; exact info_sector) (all_oneCell_toArray (bv_one _))) ⟨fun h => absurd rfl h, wpAnyT_done (by kernel_rfl) ?_ _⟩
      have hF7 := At.setCells ((over x.2 was c.toNat).map bv) (x.1 * 128) _ _ hF6 (by rw [hvl, List.length_map, hol]; have := HXO.out.1; omega)
      have hzk : z[k]? = some (x, c) := by
        rw [HZ.out, List.getElem?_zip_eq_some]
        exact ⟨HX.out, HC.out⟩
      have hstep : fated s.fl (z.take (k + 1)) = (fated s.fl (z.take k)).set x.1 (over x.2 was c.toNat) := by
        rw [List.take_add_one, hzk]
        have := fated_snoc s.fl (z.take k) (x, c)
        rw [HWAS.out] at this
        exact this
      rw [Nat.mul_comm, vals_splice _ H128.out _ (by rw [HL5.out, H2.out.ok.fl]; exact HXO.out.1) _ hol, ← hstep, Nat.mul_comm] at hF7
      have hT7 : Touch [F] w2 (w6.setCells F (x.1 * 128) ((over x.2 was c.toNat).map bv)) := Touch.setCells _ (.inl (by simp)) _ _ _ (TW.out.step t6 (by simp))
      have HF7 := Lib.hid hF7
      have HT7 := Lib.hid hT7
      clear S0 S6 hD6 hA6 hF6 hr6 hc6 hs6 hvl hF7 hT7 hstep hzk hol b6 t6 hF5 hD5 tw h128 hwas hl5 hrF hcf hwm hwl HWAS
      simp only [Act.put, List.setIfInBounds_toArray, List.set_cons_zero, List.set_cons_succ]
      go_wp2
      go_roundw
      case rel => exact ⟨k + 1, by omega, by go_num, HF7.out, HT7.out⟩
      case measure => simp [intOf]; omega
    · obtain rfl : k = m := by omega
      have hzt : z.take k = z := List.take_of_length_le (by rw [HZL.out]; omega)
      have hFk := HFk.out
      rw [hzt] at hFk
      have HFz := Lib.hid hFk
      have hDw := H2.out.d.touch HT.out (by simp [H2.out.df])
      have hNw := H2.out.v.touch HT.out (by simp [H2.out.ne.symm])
      have hOw := H2.out.w.touch HT.out (fun i hi => by have := H2.out.fa; simp; rintro rfl; exact this hi)
      have c2 := hDw.cell 2 _ rfl
      have HD := Lib.hid hDw
      have HN := Lib.hid hNw
      have HO := Lib.hid hOw
      have HFLEN := Lib.hid (fated_len s.fl z)
      have hN128 : ∀ x ∈ s.nw, x.length = 128 := H2.out.ok.n128
      have hNlen : s.nw.length = n := H2.out.ok.nw
      have HN128 := Lib.hid hN128
      have HNLEN := Lib.hid hNlen
      clear hN128 hNlen
      have HF128 := Lib.hid (fated_128 z s.fl H2.out.ok.f128 (fun p hp => by
        rw [HZ.out] at hp
        exact (H2.out.ok.ws p.1 (List.of_mem_zip hp).1).2))
      clear hFk hDw hNw hOw hzt HFk
      go_wp2
      obtain ⟨wo, hwo⟩ : ∃ wo, wo = wr := ⟨_, rfl⟩
      rw [← hwo] at HT HFz HD HN HO
      rw [← hwo]
      clear hwo c2
      go_loopw [66] (fun i wx => ∃ q : Nat, q ≤ s.ws.length ∧ i = .int .i64 q ∧ At wx N 74 (vals (copied (fated s.fl z) s.nw (s.ws.take q))) ∧ Touch [N] wo wx) (fun i _ => s.ws.length - (intOf i).toNat)
      case atStart => exact ⟨0, by omega, rfl, HN.out, Touch.refl _ _⟩
      case round =>
        obtain ⟨q, hq, rfl, hNq, hTq⟩ := hrel
        have HNq := Lib.hid hNq
        have HTq := Lib.hid hTq
        clear hNq hTq
        by_cases hlq : q < s.ws.length
        · obtain ⟨x, hx⟩ : ∃ x, s.ws[q]? = some x := ⟨_, List.getElem?_eq_getElem (by omega)⟩
          have hxo : x.1 < n ∧ x.2.length = 128 := H2.out.ok.ws x (List.mem_of_getElem? hx)
          have hown := HO.out.touch HTq.out (fun i hi => by have := H2.out.na; simp; rintro rfl; exact this hi)
          obtain ⟨g, rfl, hrg⟩ := hown.write (fun y hy => (H2.out.ok.ws y hy).2) q x hx
          have hth := (At.new wr zw 78).there 0 129 (by rw [zw_len]; omega)
          have hone := all_oneCell_toArray (wcell_one x)
          have hwl := wcell_len x hxo.2
          have hsz : (wcell x).toArray.size = 129 := by rw [List.size_toArray]; exact hwl
          obtain ⟨a2, t2⟩ := fill_new wr zw 78 (wcell x) (by rw [zw_len, hwl])
          have A2 := Lib.hid a2
          have U2 := Lib.hid t2
          have HW := Lib.hid hwl
          have HTH := Lib.hid hth
          have HNE := Lib.hid hone
          have HX := Lib.hid hx
          have HXO := Lib.hid hxo
          have HR := Lib.hid hrg
          have HS := Lib.hid hsz
          clear a2 t2 hwl hth hone hx hxo hrg hsz hown
          have hlq' : (q : Int) < (s.ws.length : Int) := by omega
          go_wp2_with (first | (with_reducible refine wpList_load_mid rfl 78 (.tmp 68) rfl g (q * 129) (by kernel_rfl) (wcell x) _ HR.out Try.underlying78 rfl (by rw [HW.out]; exact info_write) ?_) | (with_reducible refine alloc_agg rfl 78 rfl zw zero_write ?_) | (with_reducible refine wpList_store_mid rfl 78 (.tmp 7) (.tmp 69) rfl wr.heap.size 0 (wcell x).toArray (by kernel_rfl) (by kernel_rfl) (by rw [HS.out]; exact HTH.out) (by rw [HS.out]; exact info_write) HNE.out ?_))
          simp only [Act.put, List.setIfInBounds_toArray, List.set_cons_zero, List.set_cons_succ]
          generalize hb5 : wr.heap.size = b5 at *
          generalize (wr.alloc (.cells zw 78)).setCells b5 0 (wcell x) = w5 at *
          clear HTH HNE
          have tw : Touch [N] wo w5 := HTq.out.step U2.out (by simp)
          have hN5 := HNq.out.touch U2.out (by simp)
          have hD5 := HD.out.touch tw (by simp [H2.out.dn])
          have hF5 := HFz.out.touch tw (by simp [H2.out.ne])
          have cd0 := hD5.cell 0 _ rfl
          have cd1 := hD5.cell 1 _ rfl
          have cx0 := A2.out.cell 0 (.int .i64 (x.1 : Int)) rfl
          have hxn : (x.1 : Int) < n := by have := HXO.out.1; omega
          obtain ⟨was, hwas⟩ : ∃ was, (fated s.fl z)[x.1]? = some was := ⟨_, List.getElem?_eq_getElem (by rw [HFLEN.out, H2.out.ok.fl]; exact HXO.out.1)⟩
          have hwl : was.length = 128 := HF128.out _ (List.mem_of_getElem? hwas)
          have hrF := hF5.range (x.1 * 128) 128
          rw [Nat.mul_comm, vals_seg _ HF128.out _ _ hwas, Nat.mul_comm] at hrF
          have hwm : (was.map bv).length = 128 := by rw [List.length_map]; exact hwl
          have hwz : (was.map bv).toArray.size = 128 := by rw [List.size_toArray]; exact hwm
          have HWL := Lib.hid hwl
          have HWM := Lib.hid hwm
          have HWZ := Lib.hid hwz
          have HN5 := Lib.hid hN5
          have TW := Lib.hid tw
          have HWAS := Lib.hid hwas
          have HRF := Lib.hid hrF
          have hcl : (vals (copied (fated s.fl z) s.nw (s.ws.take q))).length = 128 * n := by
            rw [vals_len _ (copied_128 _ _ HF128.out HN128.out (fun y hy => by rw [HFLEN.out, H2.out.ok.fl]; exact (H2.out.ok.ws y (List.mem_of_mem_take hy)).1)), copied_len, HNLEN.out]
          have hth := HN5.out.drew.there (x.1 * 128) 128 (by rw [hcl]; omega)
          have hone := all_oneCell_toArray (bv_one was)
          have HCL := Lib.hid hcl
          have HTH := Lib.hid hth
          have HNE := Lib.hid hone
          clear hN5 hD5 hF5 hwl hwm hwz tw hwas hrF hcl hth hone
          refine wp_region_still_tail 15 (by kernel_rfl) (by kernel_rfl) ?_
          simp only [List.take_succ_cons, List.take_zero, List.drop_succ_cons, List.drop_zero]
          iterate 13 still_step
          refine still_load rfl 74 (.tmp 82) rfl F (x.1 * 128) (by kernel_rfl) (was.map bv) _ HRF.out Try.underlying74 rfl (by rw [HWM.out]; exact info_sector) ?_
          still_step
          refine wpStill_nil ?_
          change wpList _ _ _ _ _ w5.drew
          clear cd0 cd1 cx0
          go_wp2_with (with_reducible refine wpList_store_mid rfl 74 (.tmp 84) (.tmp 83) rfl N (x.1 * 128) (was.map bv).toArray (by kernel_rfl) (by kernel_rfl) (by rw [HWZ.out]; exact HTH.out) (by rw [HWZ.out]; exact info_sector) HNE.out ?_)
          go_roundw
          case rel =>
            refine ⟨q + 1, by omega, by go_num, ?_, Touch.setCells _ (.inl (by simp)) _ _ _ TW.out.drew⟩
            have h := At.setCells (was.map bv) (x.1 * 128) _ _ HN5.out.drew (by rw [HCL.out, HWM.out]; omega)
            have hst : copied (fated s.fl z) s.nw (s.ws.take (q + 1)) = (copied (fated s.fl z) s.nw (s.ws.take q)).set x.1 was := by
              rw [List.take_add_one, HX.out]
              have := copied_snoc (fated s.fl z) s.nw (s.ws.take q) x
              rw [HWAS.out] at this
              exact this
            rw [Nat.mul_comm, vals_splice _ (copied_128 _ _ HF128.out HN128.out (fun y hy => by rw [HFLEN.out, H2.out.ok.fl]; exact (H2.out.ok.ws y (List.mem_of_mem_take hy)).1)) _ (by rw [copied_len, HNLEN.out]; exact HXO.out.1) _ HWL.out, ← hst, Nat.mul_comm] at h
            exact h
          case measure => simp [intOf]; omega
        · obtain rfl : q = s.ws.length := by omega
          have hD5 := HD.out.touch HTq.out (by simp [H2.out.dn])
          have c5 := hD5.cell 2 _ rfl
          have f5 := hD5.frozen 2
          have HD5 := Lib.hid hD5
          clear hD5
          go_wp2
          go_end0
          have hT : Touch [D] wr (wr.setCell ⟨D, 2, none⟩ (.slice none 0 0)) := (Touch.refl _ _).setCell _ _ (.inl (by simp))
          have hwk : s.wake fs = { s with fl := fated s.fl z, ws := [], off := false } := by unfold Dk.wake; rw [HO1.out, HZ.out]; rfl
          rw [hwk]
          have hNf := HNq.out
          rw [List.take_of_length_le (Nat.le_refl _)] at hNf
          have hcp : copied (fated s.fl z) s.nw s.ws = fated s.fl z := by
            rw [HZ.out]; exact copied_all s.fl s.ws fs
          rw [hcp] at hNf
          refine ⟨rfl, ⟨HD5.out.setCell 2 _, (HFz.out.touch HTq.out (by simp [H2.out.ne])).touch hT (by simp [H2.out.df.symm]), hNf.touch hT (by simp [H2.out.dn.symm]), Own.nil _ _ _, H2.out.ne, ?_⟩, (((T2.out.mono (by simp [foot])).step HT.out (by simp [foot])).step HTq.out (by simp [foot])).step hT (by simp [foot])⟩
          exact ⟨H2.out.ok.n1, H2.out.ok.n2, by show (fated s.fl z).length = n; rw [HFLEN.out]; exact H2.out.ok.fl, HF128.out, by simp, H2.out.ok.f1, H2.out.ok.f2⟩
end
end Go.Proofs.Ytcgjkopdnhkdiaa
