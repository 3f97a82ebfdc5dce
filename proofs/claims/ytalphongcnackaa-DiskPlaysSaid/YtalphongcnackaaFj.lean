/- The document's disk: the walk of Wake. -/
import Derived.Test.YtalphongcnackaaFi
import Derived.Test.YtalphongcnackaaDk
namespace Go.Proofs.Ytalphongcnackaa
open Go.RowKit
set_option maxRecDepth 100000
section
variable {w : World} {D : Nat} {fo ao : Option Addr} {fc cap n : Nat} {s : Dk}
/-- a text of a sector is laid -/
theorem RefAt.lay (h : RefAt w D fo fc ao cap n s) (k : Nat) (hk : k < n) (y : List UInt8) (hy : y.length = 128) :
    ∃ g, fo = some ⟨g, 0, none⟩ ∧ w.frozen? ⟨g, k, none⟩ = false ∧ w.cell? ⟨g, k, none⟩ = some (tv (s.fl[k]?.getD [])) ∧ RefAt (w.setCell ⟨g, k, none⟩ (tv y)) D fo fc ao cap n { s with fl := s.fl.set k y } := by
  have hfl := h.ok.fl
  obtain ⟨g, cur, hfo, hA, _, _⟩ := h.f.there (by omega)
  subst hfo
  have hT : Touch [g] w (w.setCell ⟨g, k, none⟩ (tv y)) := (Touch.refl _ _).setCell _ _ (.inl (by simp))
  have hD : D ≠ g := h.d.ne hA (by decide)
  have hg : g ∉ blk ao := h.w.type hA (by decide)
  have hok : ({ s with fl := s.fl.set k y } : Dk).Ok n := ⟨h.ok.n1, h.ok.n2, by simp [hfl], by
    intro z hz
    rcases List.mem_or_eq_of_mem_set hz with hz | rfl
    · exact h.ok.f128 z hz
    · exact hy, h.ok.ws, h.ok.f1, h.ok.f2⟩
  have hkl : k < s.fl.length := by omega
  refine ⟨g, rfl, hA.frozen k, hA.cell k _ (by rw [List.getElem?_append_left (by rw [List.length_map]; omega), List.getElem?_map, List.getElem?_eq_getElem hkl]; rfl), ?_, ?_, ?_, hok⟩
  · have := h.d.touch hT (by simpa using hD)
    have e3 : heads (some ⟨g, 0, none⟩) fc ao cap { s with fl := s.fl.set k y } = heads (some ⟨g, 0, none⟩) fc ao cap s := by
      unfold heads
      simp only [List.length_set]
    rw [e3]; exact this
  · have := (World.ownsRow.stored h.f k (tv y)).1
    simp only [List.length_set, List.map_set]
    exact this
  · exact h.w.touch hT (fun i hi => by simp; rintro rfl; exact hg hi)
/-- where so many of the waiting writes have had their fates -/
def Dk.wk (s : Dk) (z : List ((Nat × List UInt8) × UInt8)) (k : Nat) : Dk := { s with fl := fated s.fl (z.take k), off := false }
theorem wk_next (s : Dk) (z : List ((Nat × List UInt8) × UInt8)) (k : Nat) (p : (Nat × List UInt8) × UInt8) (h : z[k]? = some p) :
    s.wk z (k + 1) = { s.wk z k with fl := (s.wk z k).fl.set p.1.1 (over p.1.2 ((s.wk z k).fl[p.1.1]?.getD []) p.2.toNat) } := by
  unfold Dk.wk
  rw [List.take_add_one, h, Option.toList_some, fated_snoc]
theorem wk_same (s : Dk) (z : List ((Nat × List UInt8) × UInt8)) (k : Nat) (h : z.length ≤ k) : s.wk z (k + 1) = s.wk z k := by
  unfold Dk.wk
  rw [List.take_of_length_le h, List.take_of_length_le (by omega)]
theorem over_none (b was : List UInt8) : over b was 0 = was := by unfold over stay; simp
theorem set_same (l : List (List UInt8)) (k : Nat) : l.set k (l[k]?.getD []) = l := by
  by_cases h : k < l.length
  · rw [List.getElem?_eq_getElem h, Option.getD_some]; exact List.set_getElem_self h
  · rw [List.set_eq_of_length_le (by omega)]
theorem refWake_on (h : RefAt w D fo fc ao cap n s) (v : Value) (hoff : s.off = false) : Calls Try.prog 20 #[.pointer (some ⟨D, 0, none⟩), v] w fun e w' => e = .returned (.tuple #[]) ∧ w' = w := by
  have c2 := h.d.cell 2 _ rfl
  rw [hoff] at c2
  clear h hoff
  go_enter Try.func20, Try.ntmps20
  go_wp2
  refine bodyPost_ret (results_none rfl _ _ _) rfl ?_
  exact ⟨rfl, rfl⟩
set_option maxHeartbeats 8000000 in
theorem refWake_off (h : RefAt w D fo fc ao cap n s) (hoff : s.off = true) (fa : Option Addr) (fs : List UInt8) (fcap : Nat) (hfs : fs.length ≤ 9223372036854775807) (hF : Fts w fa fs (rfoot D fo ao)) (hwl : s.ws.length ≤ 1000000) :
    Calls Try.prog 20 #[.pointer (some ⟨D, 0, none⟩), .slice fa fs.length fcap] w fun e w' => e = .returned (.tuple #[]) ∧ RefAt w' D fo fc none 0 n (s.wake fs) ∧ Touch (D :: blk fo) w w' := by
  have c2 := h.d.cell 2 _ rfl
  rw [hoff] at c2
  have f2 := h.d.frozen 2
  have HO1 := Lib.hid hoff
  have ok := h.ok
  obtain ⟨z, hz⟩ : ∃ z, z = s.ws.zip fs := ⟨_, rfl⟩
  have hzl : z.length = min s.ws.length fs.length := by rw [hz, List.length_zip]
  have h1 := h.set 2 (.bool true) (s.wk z 0) (by simp [heads, Dk.wk, fated]) (by simp [Dk.wk, fated]) rfl ⟨ok.n1, ok.n2, ok.fl, ok.f128, ok.ws, ok.f1, ok.f2⟩
  have T1 : Touch (D :: blk fo) w (w.setCell ⟨D, 2, none⟩ (.bool true)) := (Touch.refl _ _).setCell _ _ (.inl (by simp))
  have OK := Lib.hid ok
  have HZ := Lib.hid hz
  have HZL := Lib.hid hzl
  have H1 := Lib.hid h1
  have HT1 := Lib.hid T1
  have HF := Lib.hid hF
  clear h hoff ok h1 T1 hF hz hzl
  go_enter Try.func20, Try.ntmps20
  go_wp2
  generalize w.setCell ⟨D, 2, none⟩ (.bool true) = w1 at *
  go_loopw [4] (fun y wx => ∃ k : Nat, k ≤ s.ws.length ∧ y = .int .i64 k ∧ RefAt wx D fo fc ao cap n (s.wk z k) ∧ Touch (D :: blk fo) w wx) (fun y _ => s.ws.length - (intOf y).toNat)
  case atStart => exact ⟨0, by omega, rfl, H1.out, HT1.out⟩
  clear H1 HT1 c2 f2
  case round =>
    obtain ⟨k, hk, rfl, hr, ht⟩ := hrel
    have HR := Lib.hid hr
    have HT := Lib.hid ht
    clear hr ht
    have d1 := HR.out.d.cell 1 _ rfl
    have hwe : (s.wk z k).ws = s.ws := rfl
    rw [hwe] at d1
    by_cases hlt : k < s.ws.length
    · have hlt' : (k : Int) < s.ws.length := by omega
      obtain ⟨x, hx⟩ : ∃ x, s.ws[k]? = some x := ⟨_, List.getElem?_eq_getElem hlt⟩
      have hxo : x.1 < n ∧ x.2.length = 128 := OK.out.ws x (List.mem_of_getElem? hx)
      obtain ⟨x1, x2⟩ := rcells_at s.ws k x hx
      obtain ⟨g2, cur2, hao, hA2, _, _⟩ := HR.out.w.there (by rw [hwe]; omega)
      rw [hwe] at hA2
      rw [hao] at d1
      have hrg : wr.rangeAt g2 (k * 2) (rcell x) := fun j v hv => by
        have hj : j < 2 := (List.getElem?_eq_some_iff.1 hv).1
        have : j = 0 ∨ j = 1 := by omega
        rcases this with rfl | rfl
        · cases hv; exact hA2.cell (k * 2) _ (by rw [List.getElem?_append_left (List.getElem?_eq_some_iff.1 x1).1]; exact x1)
        · cases hv; exact hA2.cell _ _ (by rw [List.getElem?_append_left (List.getElem?_eq_some_iff.1 x2).1]; exact x2)
      have hth : (wr.alloc (.cells #[.int .i64 0, .string ⟨#[]⟩] 76)).there wr.heap.size 0 (rcell x).toArray.size := (At.new wr #[.int .i64 0, .string ⟨#[]⟩] 76).there 0 2 (by simp)
      have hone := all_oneCell_toArray (rcell_one x)
      obtain ⟨a2, t2⟩ := fill_new wr #[.int .i64 0, .string ⟨#[]⟩] 76 (rcell x) rfl
      have A2 := Lib.hid a2
      have U2 := Lib.hid t2
      have HTH := Lib.hid hth
      have HN := Lib.hid hone
      have HX := Lib.hid hx
      have HXO := Lib.hid hxo
      have HG := Lib.hid hrg
      clear a2 t2 hth hone hx hxo hrg hao x1 x2 hA2 hwe
      obtain ⟨b5, hb5⟩ : ∃ b5, b5 = wr.heap.size := ⟨_, rfl⟩
      have hb5lt : b5 < ((wr.alloc (.cells #[.int .i64 0, .string ⟨#[]⟩] 76)).setCells wr.heap.size 0 (rcell x)).heap.size := by rw [hb5]; exact A2.out.lt
      have HR5 := Lib.hid (HR.out.touch U2.out (by simp))
      have HT5 := Lib.hid (HT.out.step U2.out (by simp))
      have HRL := Lib.hid HR.out.lt
      by_cases hkf : k < fs.length
      · have hkf' : (k : Int) < fs.length := by omega
        obtain ⟨c, hc⟩ : ∃ c, fs[k]? = some c := ⟨_, List.getElem?_eq_getElem hkf⟩
        obtain ⟨fb, rfl, hfc2, hfn⟩ := (HF.out.touch HT5.out (fun i hi => by simp only [rfoot, List.mem_cons, List.mem_append] at hi ⊢; rcases hi with rfl | hi <;> simp [*])) k c hc
        have hzk : z[k]? = some (x, c) := by rw [HZ.out, List.getElem?_zip_eq_some]; exact ⟨HX.out, hc⟩
        have HZK := Lib.hid hzk
        have ew : IntKind.i64.wrap (c.toNat : Int) = (c.toNat : Int) := by have := toNat_lt c; rw [IntKind.wrap_i64]; omega
        have hcl := toNat_lt c
        clear hzk hc
        have hst : (∃ m, m = stay c.toNat ∧ m ≤ 128 ∧ c.toNat < 64 ∧ m = 0) ∨ (∃ m, m = stay c.toNat ∧ m ≤ 128 ∧ 64 ≤ c.toNat ∧ c.toNat < 128 ∧ m = 128) ∨ (∃ m, m = stay c.toNat ∧ m ≤ 128 ∧ 64 ≤ c.toNat ∧ 128 ≤ c.toNat ∧ m = c.toNat - 127) := by
          have : c.toNat < 64 ∨ (64 ≤ c.toNat ∧ c.toNat < 128) ∨ 128 ≤ c.toNat := by omega
          rcases this with h | h | h
          · exact .inl ⟨_, rfl, stay_le _ hcl, h, by unfold stay; rw [if_pos h]⟩
          · exact .inr (.inl ⟨_, rfl, stay_le _ hcl, h.1, h.2, by unfold stay; rw [if_neg (by omega), if_pos h.2]⟩)
          · exact .inr (.inr ⟨_, rfl, stay_le _ hcl, by omega, h, by unfold stay; rw [if_neg (by omega), if_neg (by omega)]⟩)
        rcases hst with ⟨m, hms, hm, hc1, rfl⟩ | ⟨m, hms, hm, hc1, hc2, rfl⟩ | ⟨m, hms, hm, hc1, hc2, hme⟩
        · have HMS := Lib.hid hms
          clear hms
          have q1 : decide ((64 : Int) ≤ (c.toNat : Int)) = false := by simp; omega
          have q2 : decide ((128 : Int) ≤ (c.toNat : Int)) = false := by simp; omega
          go_wp2_with (first | (with_reducible refine wpList_load_mid rfl 76 (.tmp 29) rfl g2 (k * 2) (by kernel_rfl) (rcell x) _ HG.out Try.underlying76 rfl (by kernel_rfl) ?_) | (with_reducible refine alloc_agg rfl 76 rfl #[.int .i64 0, .string ⟨#[]⟩] zero_rw ?_) | (with_reducible refine wpList_store_mid rfl 76 (.tmp 5) (.tmp 30) rfl wr.heap.size 0 (rcell x).toArray (by kernel_rfl) (by kernel_rfl) HTH.out (by kernel_rfl) HN.out ?_))
          rw [← hb5] at A2 U2 hb5lt HR5 HT5 ⊢
          generalize (wr.alloc (.cells #[.int .i64 0, .string ⟨#[]⟩] 76)).setCells b5 0 (rcell x) = w5 at *
          clear HTH HN HG HR HT
          have hfl := HR5.out.ok.fl
          have e0 := HR5.out.d.cell 0 _ rfl
          rw [hfl] at e0
          obtain ⟨was, hwas⟩ : ∃ was, was = (s.wk z k).fl[x.1]?.getD [] := ⟨_, rfl⟩
          have hwl : was.length = 128 := by
            rw [hwas, List.getElem?_eq_getElem (by rw [hfl]; exact HXO.out.1), Option.getD_some]
            exact HR5.out.ok.f128 _ (List.getElem_mem _)
          obtain ⟨y, hy⟩ : ∃ y, y = x.2.take 0 ++ was.drop 0 := ⟨_, rfl⟩
          obtain ⟨g, hfo, fg, cg, hlay⟩ := HR5.out.drew.lay x.1 HXO.out.1 y (by rw [hy, List.length_append, List.length_take, List.length_drop, HXO.out.2, hwl]; omega)
          rw [← hwas] at cg
          rw [hfo] at e0
          have S0 : (fun W => W.cell? ⟨D, 0, none⟩ = some (.slice (some ⟨g, 0, none⟩) n fc) ∧ W.cell? ⟨b5, 0, none⟩ = some (.int .i64 (x.1 : Int)) ∧ W.cell? ⟨b5, 1, none⟩ = some (tv x.2) ∧ W.cell? ⟨g, x.1, none⟩ = some (tv was)) w5.drew := ⟨e0, A2.out.drew.cell 0 _ rfl, A2.out.drew.cell 1 _ rfl, cg⟩
          refine region_any (fun W => W.cell? ⟨D, 0, none⟩ = some (.slice (some ⟨g, 0, none⟩) n fc) ∧ W.cell? ⟨b5, 0, none⟩ = some (.int .i64 (x.1 : Int)) ∧ W.cell? ⟨b5, 1, none⟩ = some (tv x.2) ∧ W.cell? ⟨g, x.1, none⟩ = some (tv was)) 22 (by kernel_rfl) ?_
          refine wpAnyT_take (i := 0) (v := (.pointer (some ⟨D, 0, none⟩))) rfl rfl (by kernel_rfl) (by kernel_rfl) (by kernel_rfl) (by kernel_rfl) (fun _ _ _ h => h) (.inl ⟨by kernel_rfl, fun W hS => by kernel_rfl⟩) S0 ?_
          refine wpAnyT_take (i := 1) (v := (.pointer (some ⟨D, 0, none⟩))) rfl rfl (by kernel_rfl) (by kernel_rfl) (by kernel_rfl) (by kernel_rfl) (fun _ _ _ h => h) (.inl ⟨by kernel_rfl, fun W hS => by kernel_rfl⟩) S0 ?_
          refine wpAnyT_take (i := 2) (v := (.pointer (some ⟨D, 0, none⟩))) rfl rfl (by kernel_rfl) (by kernel_rfl) (by kernel_rfl) (by kernel_rfl) (fun _ _ _ h => h) (.inl ⟨by kernel_rfl, fun W hS => by kernel_rfl⟩) S0 ?_
          refine wpAnyT_take (i := 3) (v := (.slice (some ⟨g, 0, none⟩) n fc)) rfl rfl (by kernel_rfl) (by kernel_rfl) (by kernel_rfl) (by kernel_rfl) (fun _ _ _ h => h) (.inl ⟨by kernel_rfl, fun W hS => run_load_one 39 (.tmp 48) rfl ⟨D, 0, none⟩ (by kernel_rfl) _ hS.1 _ Try.underlying39 rfl⟩) S0 ?_
          refine wpAnyT_take (i := 4) (v := (.pointer (some ⟨b5, 0, none⟩))) rfl rfl (by kernel_rfl) (by kernel_rfl) (by kernel_rfl) (by kernel_rfl) (fun _ _ _ h => h) (.inl ⟨by kernel_rfl, fun W hS => by kernel_rfl⟩) S0 ?_
          refine wpAnyT_take (i := 5) (v := (.int .i64 (x.1 : Int))) rfl rfl (by kernel_rfl) (by kernel_rfl) (by kernel_rfl) (by kernel_rfl) (fun _ _ _ h => h) (.inl ⟨by kernel_rfl, fun W hS => run_load_one 3 (.tmp 50) rfl ⟨b5, 0, none⟩ (by kernel_rfl) _ hS.2.1 _ Try.underlying3 rfl⟩) S0 ?_
          refine wpAnyT_take (i := 6) (v := (.pointer (some ⟨b5, 1, none⟩))) rfl rfl (by kernel_rfl) (by kernel_rfl) (by kernel_rfl) (by kernel_rfl) (fun _ _ _ h => h) (.inl ⟨by kernel_rfl, fun W hS => by kernel_rfl⟩) S0 ?_
          refine wpAnyT_take (i := 7) (v := (tv x.2)) rfl rfl (by kernel_rfl) (by kernel_rfl) (by kernel_rfl) (by kernel_rfl) (fun _ _ _ h => h) (.inl ⟨by kernel_rfl, fun W hS => run_load_one 9 (.tmp 52) rfl ⟨b5, 1, none⟩ (by kernel_rfl) _ hS.2.2.1 _ Try.underlying9 rfl⟩) S0 ?_
          refine wpAnyT_take (i := 8) (v := (.int .i64 ((0 : Nat) : Int))) rfl rfl (by kernel_rfl) (by kernel_rfl) (by kernel_rfl) (by kernel_rfl) (fun _ _ _ h => h) (.inl ⟨by kernel_rfl, fun W hS => by kernel_rfl⟩) S0 ?_
          refine wpAnyT_take (i := 9) (v := (tv (x.2.take 0))) rfl rfl (by kernel_rfl) (by kernel_rfl) (by kernel_rfl) (by kernel_rfl) (fun _ _ _ h => h) (.inl ⟨by kernel_rfl, fun W hS => run_hi_op (.tmp 53) (.tmp 54) rfl x.2 0 (by rw [HXO.out.2]; omega) (by kernel_rfl) (by kernel_rfl)⟩) S0 ?_
          refine wpAnyT_take (i := 10) (v := (.pointer (some ⟨D, 0, none⟩))) rfl rfl (by kernel_rfl) (by kernel_rfl) (by kernel_rfl) (by kernel_rfl) (fun _ _ _ h => h) (.inl ⟨by kernel_rfl, fun W hS => by kernel_rfl⟩) S0 ?_
          refine wpAnyT_take (i := 11) (v := (.pointer (some ⟨D, 0, none⟩))) rfl rfl (by kernel_rfl) (by kernel_rfl) (by kernel_rfl) (by kernel_rfl) (fun _ _ _ h => h) (.inl ⟨by kernel_rfl, fun W hS => by kernel_rfl⟩) S0 ?_
          refine wpAnyT_take (i := 12) (v := (.pointer (some ⟨D, 0, none⟩))) rfl rfl (by kernel_rfl) (by kernel_rfl) (by kernel_rfl) (by kernel_rfl) (fun _ _ _ h => h) (.inl ⟨by kernel_rfl, fun W hS => by kernel_rfl⟩) S0 ?_
          refine wpAnyT_take (i := 13) (v := (.slice (some ⟨g, 0, none⟩) n fc)) rfl rfl (by kernel_rfl) (by kernel_rfl) (by kernel_rfl) (by kernel_rfl) (fun _ _ _ h => h) (.inl ⟨by kernel_rfl, fun W hS => run_load_one 39 (.tmp 58) rfl ⟨D, 0, none⟩ (by kernel_rfl) _ hS.1 _ Try.underlying39 rfl⟩) S0 ?_
          refine wpAnyT_take (i := 14) (v := (.pointer (some ⟨b5, 0, none⟩))) rfl rfl (by kernel_rfl) (by kernel_rfl) (by kernel_rfl) (by kernel_rfl) (fun _ _ _ h => h) (.inl ⟨by kernel_rfl, fun W hS => by kernel_rfl⟩) S0 ?_
          refine wpAnyT_take (i := 15) (v := (.int .i64 (x.1 : Int))) rfl rfl (by kernel_rfl) (by kernel_rfl) (by kernel_rfl) (by kernel_rfl) (fun _ _ _ h => h) (.inl ⟨by kernel_rfl, fun W hS => run_load_one 3 (.tmp 60) rfl ⟨b5, 0, none⟩ (by kernel_rfl) _ hS.2.1 _ Try.underlying3 rfl⟩) S0 ?_
          refine wpAnyT_take (i := 16) (v := (.pointer (some ⟨g, x.1, none⟩))) rfl rfl (by kernel_rfl) (by kernel_rfl) (by kernel_rfl) (by kernel_rfl) (fun _ _ _ h => h) (.inl ⟨by kernel_rfl, fun W hS => run_index_op 39 9 (.tmp 59) (.tmp 61) rfl ⟨g, 0, none⟩ n fc x.1 (by kernel_rfl) (by kernel_rfl) HXO.out.1 1 _ (by rw [Nat.mul_one, Addr.add0]) Try.underlying39 (by kernel_rfl)⟩) S0 ?_
          refine wpAnyT_take (i := 17) (v := (tv was)) rfl rfl (by kernel_rfl) (by kernel_rfl) (by kernel_rfl) (by kernel_rfl) (fun _ _ _ h => h) (.inl ⟨by kernel_rfl, fun W hS => run_load_one 9 (.tmp 62) rfl ⟨g, x.1, none⟩ (by kernel_rfl) _ hS.2.2.2 _ Try.underlying9 rfl⟩) S0 ?_
          refine wpAnyT_take (i := 18) (v := (.int .i64 ((0 : Nat) : Int))) rfl rfl (by kernel_rfl) (by kernel_rfl) (by kernel_rfl) (by kernel_rfl) (fun _ _ _ h => h) (.inl ⟨by kernel_rfl, fun W hS => by kernel_rfl⟩) S0 ?_
          refine wpAnyT_take (i := 19) (v := (tv (was.drop 0))) rfl rfl (by kernel_rfl) (by kernel_rfl) (by kernel_rfl) (by kernel_rfl) (fun _ _ _ h => h) (.inl ⟨by kernel_rfl, fun W hS => run_lo_op (.tmp 63) (.tmp 64) rfl was 0 (by rw [hwl]; omega) (by kernel_rfl) (by kernel_rfl)⟩) S0 ?_
          refine wpAnyT_take (i := 20) (v := (tv y)) rfl rfl (by kernel_rfl) (by kernel_rfl) (by kernel_rfl) (by kernel_rfl) (fun _ _ _ h => h) (.inl ⟨by kernel_rfl, fun W hS => by rw [hy]; exact run_cat_op (.tmp 55) (.tmp 65) rfl (x.2.take 0) (was.drop 0) (by kernel_rfl) (by kernel_rfl) (by rw [List.length_take, List.length_drop, HXO.out.2, hwl]; omega)⟩) S0 ?_
          refine wpAnyT_take (i := 21) (v := (.pointer (some ⟨g, x.1, none⟩))) rfl rfl (by kernel_rfl) (by kernel_rfl) (by kernel_rfl) (by kernel_rfl) (fun _ _ _ h => h) (.inl ⟨by kernel_rfl, fun W hS => run_index_op 39 9 (.tmp 49) (.tmp 51) rfl ⟨g, 0, none⟩ n fc x.1 (by kernel_rfl) (by kernel_rfl) HXO.out.1 1 _ (by rw [Nat.mul_one, Addr.add0]) Try.underlying39 (by kernel_rfl)⟩) S0 ?_
          refine wpAnyT_all (rs := [22]) (by kernel_rfl) (by simp) ?_
          intro q hq
          obtain rfl : q = 22 := by simpa using hq
          refine wpOp_skip rfl (by kernel_rfl) (run_store_str (.tmp 67) (.tmp 66) rfl ⟨g, x.1, none⟩ (by kernel_rfl) y (by kernel_rfl) _ cg fg) ⟨fun h => absurd rfl h, wpAnyT_done (by kernel_rfl) ?_ _⟩
          have hT6 := HT5.out.drew.setCell ⟨g, x.1, none⟩ (tv y) (.inl (by rw [hfo]; simp [blk]))
          have hst9 : ({ s.wk z k with fl := (s.wk z k).fl.set x.1 y } : Dk) = s.wk z (k + 1) := by
            rw [wk_next s z k (x, c) HZK.out, hy, hwas, HMS.out]; rfl
          rw [hst9] at hlay
          unfold tv at hlay hT6
          clear hst9 hy hwas
          have HR6 := Lib.hid hlay
          have HT6 := Lib.hid hT6
          clear hlay hT6 S0 cg fg
          go_wp2
          go_roundw
          case rel => exact ⟨k + 1, by omega, by go_num, HR6.out, HT6.out⟩
          case measure => simp [intOf]; omega
        · have HMS := Lib.hid hms
          clear hms
          have q1 : decide ((64 : Int) ≤ (c.toNat : Int)) = true := by simp; omega
          have q2 : decide ((128 : Int) ≤ (c.toNat : Int)) = false := by simp; omega
          go_wp2_with (first | (with_reducible refine wpList_load_mid rfl 76 (.tmp 29) rfl g2 (k * 2) (by kernel_rfl) (rcell x) _ HG.out Try.underlying76 rfl (by kernel_rfl) ?_) | (with_reducible refine alloc_agg rfl 76 rfl #[.int .i64 0, .string ⟨#[]⟩] zero_rw ?_) | (with_reducible refine wpList_store_mid rfl 76 (.tmp 5) (.tmp 30) rfl wr.heap.size 0 (rcell x).toArray (by kernel_rfl) (by kernel_rfl) HTH.out (by kernel_rfl) HN.out ?_))
          rw [← hb5] at A2 U2 hb5lt HR5 HT5 ⊢
          generalize (wr.alloc (.cells #[.int .i64 0, .string ⟨#[]⟩] 76)).setCells b5 0 (rcell x) = w5 at *
          clear HTH HN HG HR HT
          have hfl := HR5.out.ok.fl
          have e0 := HR5.out.d.cell 0 _ rfl
          rw [hfl] at e0
          obtain ⟨was, hwas⟩ : ∃ was, was = (s.wk z k).fl[x.1]?.getD [] := ⟨_, rfl⟩
          have hwl : was.length = 128 := by
            rw [hwas, List.getElem?_eq_getElem (by rw [hfl]; exact HXO.out.1), Option.getD_some]
            exact HR5.out.ok.f128 _ (List.getElem_mem _)
          obtain ⟨y, hy⟩ : ∃ y, y = x.2.take 128 ++ was.drop 128 := ⟨_, rfl⟩
          obtain ⟨g, hfo, fg, cg, hlay⟩ := HR5.out.drew.lay x.1 HXO.out.1 y (by rw [hy, List.length_append, List.length_take, List.length_drop, HXO.out.2, hwl]; omega)
          rw [← hwas] at cg
          rw [hfo] at e0
          have S0 : (fun W => W.cell? ⟨D, 0, none⟩ = some (.slice (some ⟨g, 0, none⟩) n fc) ∧ W.cell? ⟨b5, 0, none⟩ = some (.int .i64 (x.1 : Int)) ∧ W.cell? ⟨b5, 1, none⟩ = some (tv x.2) ∧ W.cell? ⟨g, x.1, none⟩ = some (tv was)) w5.drew := ⟨e0, A2.out.drew.cell 0 _ rfl, A2.out.drew.cell 1 _ rfl, cg⟩
          refine region_any (fun W => W.cell? ⟨D, 0, none⟩ = some (.slice (some ⟨g, 0, none⟩) n fc) ∧ W.cell? ⟨b5, 0, none⟩ = some (.int .i64 (x.1 : Int)) ∧ W.cell? ⟨b5, 1, none⟩ = some (tv x.2) ∧ W.cell? ⟨g, x.1, none⟩ = some (tv was)) 22 (by kernel_rfl) ?_
          refine wpAnyT_take (i := 0) (v := (.pointer (some ⟨D, 0, none⟩))) rfl rfl (by kernel_rfl) (by kernel_rfl) (by kernel_rfl) (by kernel_rfl) (fun _ _ _ h => h) (.inl ⟨by kernel_rfl, fun W hS => by kernel_rfl⟩) S0 ?_
          refine wpAnyT_take (i := 1) (v := (.pointer (some ⟨D, 0, none⟩))) rfl rfl (by kernel_rfl) (by kernel_rfl) (by kernel_rfl) (by kernel_rfl) (fun _ _ _ h => h) (.inl ⟨by kernel_rfl, fun W hS => by kernel_rfl⟩) S0 ?_
          refine wpAnyT_take (i := 2) (v := (.pointer (some ⟨D, 0, none⟩))) rfl rfl (by kernel_rfl) (by kernel_rfl) (by kernel_rfl) (by kernel_rfl) (fun _ _ _ h => h) (.inl ⟨by kernel_rfl, fun W hS => by kernel_rfl⟩) S0 ?_
          refine wpAnyT_take (i := 3) (v := (.slice (some ⟨g, 0, none⟩) n fc)) rfl rfl (by kernel_rfl) (by kernel_rfl) (by kernel_rfl) (by kernel_rfl) (fun _ _ _ h => h) (.inl ⟨by kernel_rfl, fun W hS => run_load_one 39 (.tmp 48) rfl ⟨D, 0, none⟩ (by kernel_rfl) _ hS.1 _ Try.underlying39 rfl⟩) S0 ?_
          refine wpAnyT_take (i := 4) (v := (.pointer (some ⟨b5, 0, none⟩))) rfl rfl (by kernel_rfl) (by kernel_rfl) (by kernel_rfl) (by kernel_rfl) (fun _ _ _ h => h) (.inl ⟨by kernel_rfl, fun W hS => by kernel_rfl⟩) S0 ?_
          refine wpAnyT_take (i := 5) (v := (.int .i64 (x.1 : Int))) rfl rfl (by kernel_rfl) (by kernel_rfl) (by kernel_rfl) (by kernel_rfl) (fun _ _ _ h => h) (.inl ⟨by kernel_rfl, fun W hS => run_load_one 3 (.tmp 50) rfl ⟨b5, 0, none⟩ (by kernel_rfl) _ hS.2.1 _ Try.underlying3 rfl⟩) S0 ?_
          refine wpAnyT_take (i := 6) (v := (.pointer (some ⟨b5, 1, none⟩))) rfl rfl (by kernel_rfl) (by kernel_rfl) (by kernel_rfl) (by kernel_rfl) (fun _ _ _ h => h) (.inl ⟨by kernel_rfl, fun W hS => by kernel_rfl⟩) S0 ?_
          refine wpAnyT_take (i := 7) (v := (tv x.2)) rfl rfl (by kernel_rfl) (by kernel_rfl) (by kernel_rfl) (by kernel_rfl) (fun _ _ _ h => h) (.inl ⟨by kernel_rfl, fun W hS => run_load_one 9 (.tmp 52) rfl ⟨b5, 1, none⟩ (by kernel_rfl) _ hS.2.2.1 _ Try.underlying9 rfl⟩) S0 ?_
          refine wpAnyT_take (i := 8) (v := (.int .i64 ((128 : Nat) : Int))) rfl rfl (by kernel_rfl) (by kernel_rfl) (by kernel_rfl) (by kernel_rfl) (fun _ _ _ h => h) (.inl ⟨by kernel_rfl, fun W hS => by kernel_rfl⟩) S0 ?_
          refine wpAnyT_take (i := 9) (v := (tv (x.2.take 128))) rfl rfl (by kernel_rfl) (by kernel_rfl) (by kernel_rfl) (by kernel_rfl) (fun _ _ _ h => h) (.inl ⟨by kernel_rfl, fun W hS => run_hi_op (.tmp 53) (.tmp 54) rfl x.2 128 (by rw [HXO.out.2]; omega) (by kernel_rfl) (by kernel_rfl)⟩) S0 ?_
          refine wpAnyT_take (i := 10) (v := (.pointer (some ⟨D, 0, none⟩))) rfl rfl (by kernel_rfl) (by kernel_rfl) (by kernel_rfl) (by kernel_rfl) (fun _ _ _ h => h) (.inl ⟨by kernel_rfl, fun W hS => by kernel_rfl⟩) S0 ?_
          refine wpAnyT_take (i := 11) (v := (.pointer (some ⟨D, 0, none⟩))) rfl rfl (by kernel_rfl) (by kernel_rfl) (by kernel_rfl) (by kernel_rfl) (fun _ _ _ h => h) (.inl ⟨by kernel_rfl, fun W hS => by kernel_rfl⟩) S0 ?_
          refine wpAnyT_take (i := 12) (v := (.pointer (some ⟨D, 0, none⟩))) rfl rfl (by kernel_rfl) (by kernel_rfl) (by kernel_rfl) (by kernel_rfl) (fun _ _ _ h => h) (.inl ⟨by kernel_rfl, fun W hS => by kernel_rfl⟩) S0 ?_
          refine wpAnyT_take (i := 13) (v := (.slice (some ⟨g, 0, none⟩) n fc)) rfl rfl (by kernel_rfl) (by kernel_rfl) (by kernel_rfl) (by kernel_rfl) (fun _ _ _ h => h) (.inl ⟨by kernel_rfl, fun W hS => run_load_one 39 (.tmp 58) rfl ⟨D, 0, none⟩ (by kernel_rfl) _ hS.1 _ Try.underlying39 rfl⟩) S0 ?_
          refine wpAnyT_take (i := 14) (v := (.pointer (some ⟨b5, 0, none⟩))) rfl rfl (by kernel_rfl) (by kernel_rfl) (by kernel_rfl) (by kernel_rfl) (fun _ _ _ h => h) (.inl ⟨by kernel_rfl, fun W hS => by kernel_rfl⟩) S0 ?_
          refine wpAnyT_take (i := 15) (v := (.int .i64 (x.1 : Int))) rfl rfl (by kernel_rfl) (by kernel_rfl) (by kernel_rfl) (by kernel_rfl) (fun _ _ _ h => h) (.inl ⟨by kernel_rfl, fun W hS => run_load_one 3 (.tmp 60) rfl ⟨b5, 0, none⟩ (by kernel_rfl) _ hS.2.1 _ Try.underlying3 rfl⟩) S0 ?_
          refine wpAnyT_take (i := 16) (v := (.pointer (some ⟨g, x.1, none⟩))) rfl rfl (by kernel_rfl) (by kernel_rfl) (by kernel_rfl) (by kernel_rfl) (fun _ _ _ h => h) (.inl ⟨by kernel_rfl, fun W hS => run_index_op 39 9 (.tmp 59) (.tmp 61) rfl ⟨g, 0, none⟩ n fc x.1 (by kernel_rfl) (by kernel_rfl) HXO.out.1 1 _ (by rw [Nat.mul_one, Addr.add0]) Try.underlying39 (by kernel_rfl)⟩) S0 ?_
          refine wpAnyT_take (i := 17) (v := (tv was)) rfl rfl (by kernel_rfl) (by kernel_rfl) (by kernel_rfl) (by kernel_rfl) (fun _ _ _ h => h) (.inl ⟨by kernel_rfl, fun W hS => run_load_one 9 (.tmp 62) rfl ⟨g, x.1, none⟩ (by kernel_rfl) _ hS.2.2.2 _ Try.underlying9 rfl⟩) S0 ?_
          refine wpAnyT_take (i := 18) (v := (.int .i64 ((128 : Nat) : Int))) rfl rfl (by kernel_rfl) (by kernel_rfl) (by kernel_rfl) (by kernel_rfl) (fun _ _ _ h => h) (.inl ⟨by kernel_rfl, fun W hS => by kernel_rfl⟩) S0 ?_
          refine wpAnyT_take (i := 19) (v := (tv (was.drop 128))) rfl rfl (by kernel_rfl) (by kernel_rfl) (by kernel_rfl) (by kernel_rfl) (fun _ _ _ h => h) (.inl ⟨by kernel_rfl, fun W hS => run_lo_op (.tmp 63) (.tmp 64) rfl was 128 (by rw [hwl]; omega) (by kernel_rfl) (by kernel_rfl)⟩) S0 ?_
          refine wpAnyT_take (i := 20) (v := (tv y)) rfl rfl (by kernel_rfl) (by kernel_rfl) (by kernel_rfl) (by kernel_rfl) (fun _ _ _ h => h) (.inl ⟨by kernel_rfl, fun W hS => by rw [hy]; exact run_cat_op (.tmp 55) (.tmp 65) rfl (x.2.take 128) (was.drop 128) (by kernel_rfl) (by kernel_rfl) (by rw [List.length_take, List.length_drop, HXO.out.2, hwl]; omega)⟩) S0 ?_
          refine wpAnyT_take (i := 21) (v := (.pointer (some ⟨g, x.1, none⟩))) rfl rfl (by kernel_rfl) (by kernel_rfl) (by kernel_rfl) (by kernel_rfl) (fun _ _ _ h => h) (.inl ⟨by kernel_rfl, fun W hS => run_index_op 39 9 (.tmp 49) (.tmp 51) rfl ⟨g, 0, none⟩ n fc x.1 (by kernel_rfl) (by kernel_rfl) HXO.out.1 1 _ (by rw [Nat.mul_one, Addr.add0]) Try.underlying39 (by kernel_rfl)⟩) S0 ?_
          refine wpAnyT_all (rs := [22]) (by kernel_rfl) (by simp) ?_
          intro q hq
          obtain rfl : q = 22 := by simpa using hq
          refine wpOp_skip rfl (by kernel_rfl) (run_store_str (.tmp 67) (.tmp 66) rfl ⟨g, x.1, none⟩ (by kernel_rfl) y (by kernel_rfl) _ cg fg) ⟨fun h => absurd rfl h, wpAnyT_done (by kernel_rfl) ?_ _⟩
          have hT6 := HT5.out.drew.setCell ⟨g, x.1, none⟩ (tv y) (.inl (by rw [hfo]; simp [blk]))
          have hst9 : ({ s.wk z k with fl := (s.wk z k).fl.set x.1 y } : Dk) = s.wk z (k + 1) := by
            rw [wk_next s z k (x, c) HZK.out, hy, hwas, HMS.out]; rfl
          rw [hst9] at hlay
          unfold tv at hlay hT6
          clear hst9 hy hwas
          have HR6 := Lib.hid hlay
          have HT6 := Lib.hid hT6
          clear hlay hT6 S0 cg fg
          go_wp2
          go_roundw
          case rel => exact ⟨k + 1, by omega, by go_num, HR6.out, HT6.out⟩
          case measure => simp [intOf]; omega
        · have HMS := Lib.hid hms
          clear hms
          have q1 : decide ((64 : Int) ≤ (c.toNat : Int)) = true := by simp; omega
          have q2 : decide ((128 : Int) ≤ (c.toNat : Int)) = true := by simp; omega
          have q3 : IntKind.i64.wrap ((c.toNat : Int) - 127) = (m : Int) := by rw [IntKind.wrap_i64]; omega
          clear hme
          go_wp2_with (first | (with_reducible refine wpList_load_mid rfl 76 (.tmp 29) rfl g2 (k * 2) (by kernel_rfl) (rcell x) _ HG.out Try.underlying76 rfl (by kernel_rfl) ?_) | (with_reducible refine alloc_agg rfl 76 rfl #[.int .i64 0, .string ⟨#[]⟩] zero_rw ?_) | (with_reducible refine wpList_store_mid rfl 76 (.tmp 5) (.tmp 30) rfl wr.heap.size 0 (rcell x).toArray (by kernel_rfl) (by kernel_rfl) HTH.out (by kernel_rfl) HN.out ?_))
          rw [← hb5] at A2 U2 hb5lt HR5 HT5 ⊢
          generalize (wr.alloc (.cells #[.int .i64 0, .string ⟨#[]⟩] 76)).setCells b5 0 (rcell x) = w5 at *
          clear HTH HN HG HR HT
          have hfl := HR5.out.ok.fl
          have e0 := HR5.out.d.cell 0 _ rfl
          rw [hfl] at e0
          obtain ⟨was, hwas⟩ : ∃ was, was = (s.wk z k).fl[x.1]?.getD [] := ⟨_, rfl⟩
          have hwl : was.length = 128 := by
            rw [hwas, List.getElem?_eq_getElem (by rw [hfl]; exact HXO.out.1), Option.getD_some]
            exact HR5.out.ok.f128 _ (List.getElem_mem _)
          obtain ⟨y, hy⟩ : ∃ y, y = x.2.take m ++ was.drop m := ⟨_, rfl⟩
          obtain ⟨g, hfo, fg, cg, hlay⟩ := HR5.out.drew.lay x.1 HXO.out.1 y (by rw [hy, List.length_append, List.length_take, List.length_drop, HXO.out.2, hwl]; omega)
          rw [← hwas] at cg
          rw [hfo] at e0
          have S0 : (fun W => W.cell? ⟨D, 0, none⟩ = some (.slice (some ⟨g, 0, none⟩) n fc) ∧ W.cell? ⟨b5, 0, none⟩ = some (.int .i64 (x.1 : Int)) ∧ W.cell? ⟨b5, 1, none⟩ = some (tv x.2) ∧ W.cell? ⟨g, x.1, none⟩ = some (tv was)) w5.drew := ⟨e0, A2.out.drew.cell 0 _ rfl, A2.out.drew.cell 1 _ rfl, cg⟩
          refine region_any (fun W => W.cell? ⟨D, 0, none⟩ = some (.slice (some ⟨g, 0, none⟩) n fc) ∧ W.cell? ⟨b5, 0, none⟩ = some (.int .i64 (x.1 : Int)) ∧ W.cell? ⟨b5, 1, none⟩ = some (tv x.2) ∧ W.cell? ⟨g, x.1, none⟩ = some (tv was)) 22 (by kernel_rfl) ?_
          refine wpAnyT_take (i := 0) (v := (.pointer (some ⟨D, 0, none⟩))) rfl rfl (by kernel_rfl) (by kernel_rfl) (by kernel_rfl) (by kernel_rfl) (fun _ _ _ h => h) (.inl ⟨by kernel_rfl, fun W hS => by kernel_rfl⟩) S0 ?_
          refine wpAnyT_take (i := 1) (v := (.pointer (some ⟨D, 0, none⟩))) rfl rfl (by kernel_rfl) (by kernel_rfl) (by kernel_rfl) (by kernel_rfl) (fun _ _ _ h => h) (.inl ⟨by kernel_rfl, fun W hS => by kernel_rfl⟩) S0 ?_
          refine wpAnyT_take (i := 2) (v := (.pointer (some ⟨D, 0, none⟩))) rfl rfl (by kernel_rfl) (by kernel_rfl) (by kernel_rfl) (by kernel_rfl) (fun _ _ _ h => h) (.inl ⟨by kernel_rfl, fun W hS => by kernel_rfl⟩) S0 ?_
          refine wpAnyT_take (i := 3) (v := (.slice (some ⟨g, 0, none⟩) n fc)) rfl rfl (by kernel_rfl) (by kernel_rfl) (by kernel_rfl) (by kernel_rfl) (fun _ _ _ h => h) (.inl ⟨by kernel_rfl, fun W hS => run_load_one 39 (.tmp 48) rfl ⟨D, 0, none⟩ (by kernel_rfl) _ hS.1 _ Try.underlying39 rfl⟩) S0 ?_
          refine wpAnyT_take (i := 4) (v := (.pointer (some ⟨b5, 0, none⟩))) rfl rfl (by kernel_rfl) (by kernel_rfl) (by kernel_rfl) (by kernel_rfl) (fun _ _ _ h => h) (.inl ⟨by kernel_rfl, fun W hS => by kernel_rfl⟩) S0 ?_
          refine wpAnyT_take (i := 5) (v := (.int .i64 (x.1 : Int))) rfl rfl (by kernel_rfl) (by kernel_rfl) (by kernel_rfl) (by kernel_rfl) (fun _ _ _ h => h) (.inl ⟨by kernel_rfl, fun W hS => run_load_one 3 (.tmp 50) rfl ⟨b5, 0, none⟩ (by kernel_rfl) _ hS.2.1 _ Try.underlying3 rfl⟩) S0 ?_
          refine wpAnyT_take (i := 6) (v := (.pointer (some ⟨b5, 1, none⟩))) rfl rfl (by kernel_rfl) (by kernel_rfl) (by kernel_rfl) (by kernel_rfl) (fun _ _ _ h => h) (.inl ⟨by kernel_rfl, fun W hS => by kernel_rfl⟩) S0 ?_
          refine wpAnyT_take (i := 7) (v := (tv x.2)) rfl rfl (by kernel_rfl) (by kernel_rfl) (by kernel_rfl) (by kernel_rfl) (fun _ _ _ h => h) (.inl ⟨by kernel_rfl, fun W hS => run_load_one 9 (.tmp 52) rfl ⟨b5, 1, none⟩ (by kernel_rfl) _ hS.2.2.1 _ Try.underlying9 rfl⟩) S0 ?_
          refine wpAnyT_take (i := 8) (v := (.int .i64 (m : Int))) rfl rfl (by kernel_rfl) (by kernel_rfl) (by kernel_rfl) (by kernel_rfl) (fun _ _ _ h => h) (.inl ⟨by kernel_rfl, fun W hS => by kernel_rfl⟩) S0 ?_
          refine wpAnyT_take (i := 9) (v := (tv (x.2.take m))) rfl rfl (by kernel_rfl) (by kernel_rfl) (by kernel_rfl) (by kernel_rfl) (fun _ _ _ h => h) (.inl ⟨by kernel_rfl, fun W hS => run_hi_op (.tmp 53) (.tmp 54) rfl x.2 m (by rw [HXO.out.2]; omega) (by kernel_rfl) (by kernel_rfl)⟩) S0 ?_
          refine wpAnyT_take (i := 10) (v := (.pointer (some ⟨D, 0, none⟩))) rfl rfl (by kernel_rfl) (by kernel_rfl) (by kernel_rfl) (by kernel_rfl) (fun _ _ _ h => h) (.inl ⟨by kernel_rfl, fun W hS => by kernel_rfl⟩) S0 ?_
          refine wpAnyT_take (i := 11) (v := (.pointer (some ⟨D, 0, none⟩))) rfl rfl (by kernel_rfl) (by kernel_rfl) (by kernel_rfl) (by kernel_rfl) (fun _ _ _ h => h) (.inl ⟨by kernel_rfl, fun W hS => by kernel_rfl⟩) S0 ?_
          refine wpAnyT_take (i := 12) (v := (.pointer (some ⟨D, 0, none⟩))) rfl rfl (by kernel_rfl) (by kernel_rfl) (by kernel_rfl) (by kernel_rfl) (fun _ _ _ h => h) (.inl ⟨by kernel_rfl, fun W hS => by kernel_rfl⟩) S0 ?_
          refine wpAnyT_take (i := 13) (v := (.slice (some ⟨g, 0, none⟩) n fc)) rfl rfl (by kernel_rfl) (by kernel_rfl) (by kernel_rfl) (by kernel_rfl) (fun _ _ _ h => h) (.inl ⟨by kernel_rfl, fun W hS => run_load_one 39 (.tmp 58) rfl ⟨D, 0, none⟩ (by kernel_rfl) _ hS.1 _ Try.underlying39 rfl⟩) S0 ?_
          refine wpAnyT_take (i := 14) (v := (.pointer (some ⟨b5, 0, none⟩))) rfl rfl (by kernel_rfl) (by kernel_rfl) (by kernel_rfl) (by kernel_rfl) (fun _ _ _ h => h) (.inl ⟨by kernel_rfl, fun W hS => by kernel_rfl⟩) S0 ?_
          refine wpAnyT_take (i := 15) (v := (.int .i64 (x.1 : Int))) rfl rfl (by kernel_rfl) (by kernel_rfl) (by kernel_rfl) (by kernel_rfl) (fun _ _ _ h => h) (.inl ⟨by kernel_rfl, fun W hS => run_load_one 3 (.tmp 60) rfl ⟨b5, 0, none⟩ (by kernel_rfl) _ hS.2.1 _ Try.underlying3 rfl⟩) S0 ?_
          refine wpAnyT_take (i := 16) (v := (.pointer (some ⟨g, x.1, none⟩))) rfl rfl (by kernel_rfl) (by kernel_rfl) (by kernel_rfl) (by kernel_rfl) (fun _ _ _ h => h) (.inl ⟨by kernel_rfl, fun W hS => run_index_op 39 9 (.tmp 59) (.tmp 61) rfl ⟨g, 0, none⟩ n fc x.1 (by kernel_rfl) (by kernel_rfl) HXO.out.1 1 _ (by rw [Nat.mul_one, Addr.add0]) Try.underlying39 (by kernel_rfl)⟩) S0 ?_
          refine wpAnyT_take (i := 17) (v := (tv was)) rfl rfl (by kernel_rfl) (by kernel_rfl) (by kernel_rfl) (by kernel_rfl) (fun _ _ _ h => h) (.inl ⟨by kernel_rfl, fun W hS => run_load_one 9 (.tmp 62) rfl ⟨g, x.1, none⟩ (by kernel_rfl) _ hS.2.2.2 _ Try.underlying9 rfl⟩) S0 ?_
          refine wpAnyT_take (i := 18) (v := (.int .i64 (m : Int))) rfl rfl (by kernel_rfl) (by kernel_rfl) (by kernel_rfl) (by kernel_rfl) (fun _ _ _ h => h) (.inl ⟨by kernel_rfl, fun W hS => by kernel_rfl⟩) S0 ?_
          refine wpAnyT_take (i := 19) (v := (tv (was.drop m))) rfl rfl (by kernel_rfl) (by kernel_rfl) (by kernel_rfl) (by kernel_rfl) (fun _ _ _ h => h) (.inl ⟨by kernel_rfl, fun W hS => run_lo_op (.tmp 63) (.tmp 64) rfl was m (by rw [hwl]; omega) (by kernel_rfl) (by kernel_rfl)⟩) S0 ?_
          refine wpAnyT_take (i := 20) (v := (tv y)) rfl rfl (by kernel_rfl) (by kernel_rfl) (by kernel_rfl) (by kernel_rfl) (fun _ _ _ h => h) (.inl ⟨by kernel_rfl, fun W hS => by rw [hy]; exact run_cat_op (.tmp 55) (.tmp 65) rfl (x.2.take m) (was.drop m) (by kernel_rfl) (by kernel_rfl) (by rw [List.length_take, List.length_drop, HXO.out.2, hwl]; omega)⟩) S0 ?_
          refine wpAnyT_take (i := 21) (v := (.pointer (some ⟨g, x.1, none⟩))) rfl rfl (by kernel_rfl) (by kernel_rfl) (by kernel_rfl) (by kernel_rfl) (fun _ _ _ h => h) (.inl ⟨by kernel_rfl, fun W hS => run_index_op 39 9 (.tmp 49) (.tmp 51) rfl ⟨g, 0, none⟩ n fc x.1 (by kernel_rfl) (by kernel_rfl) HXO.out.1 1 _ (by rw [Nat.mul_one, Addr.add0]) Try.underlying39 (by kernel_rfl)⟩) S0 ?_
          refine wpAnyT_all (rs := [22]) (by kernel_rfl) (by simp) ?_
          intro q hq
          obtain rfl : q = 22 := by simpa using hq
          refine wpOp_skip rfl (by kernel_rfl) (run_store_str (.tmp 67) (.tmp 66) rfl ⟨g, x.1, none⟩ (by kernel_rfl) y (by kernel_rfl) _ cg fg) ⟨fun h => absurd rfl h, wpAnyT_done (by kernel_rfl) ?_ _⟩
          have hT6 := HT5.out.drew.setCell ⟨g, x.1, none⟩ (tv y) (.inl (by rw [hfo]; simp [blk]))
          have hst9 : ({ s.wk z k with fl := (s.wk z k).fl.set x.1 y } : Dk) = s.wk z (k + 1) := by
            rw [wk_next s z k (x, c) HZK.out, hy, hwas, HMS.out]; rfl
          rw [hst9] at hlay
          unfold tv at hlay hT6
          clear hst9 hy hwas
          have HR6 := Lib.hid hlay
          have HT6 := Lib.hid hT6
          clear hlay hT6 S0 cg fg
          go_wp2
          go_roundw
          case rel => exact ⟨k + 1, by omega, by go_num, HR6.out, HT6.out⟩
          case measure => simp [intOf]; omega
      · have hkf' : decide ((k : Int) < fs.length) = false := by simp; omega
        have hsame := wk_same s z k (by rw [HZL.out]; omega)
        have HSM := Lib.hid hsame
        clear hsame
        go_wp2_with (first | (with_reducible refine wpList_load_mid rfl 76 (.tmp 29) rfl g2 (k * 2) (by kernel_rfl) (rcell x) _ HG.out Try.underlying76 rfl (by kernel_rfl) ?_) | (with_reducible refine alloc_agg rfl 76 rfl #[.int .i64 0, .string ⟨#[]⟩] zero_rw ?_) | (with_reducible refine wpList_store_mid rfl 76 (.tmp 5) (.tmp 30) rfl wr.heap.size 0 (rcell x).toArray (by kernel_rfl) (by kernel_rfl) HTH.out (by kernel_rfl) HN.out ?_))
        rw [← hb5] at A2 U2 hb5lt HR5 HT5 ⊢
        generalize (wr.alloc (.cells #[.int .i64 0, .string ⟨#[]⟩] 76)).setCells b5 0 (rcell x) = w5 at *
        clear HTH HN HG HR HT
        have hfl := HR5.out.ok.fl
        have e0 := HR5.out.d.cell 0 _ rfl
        rw [hfl] at e0
        obtain ⟨was, hwas⟩ : ∃ was, was = (s.wk z k).fl[x.1]?.getD [] := ⟨_, rfl⟩
        have hwl : was.length = 128 := by
          rw [hwas, List.getElem?_eq_getElem (by rw [hfl]; exact HXO.out.1), Option.getD_some]
          exact HR5.out.ok.f128 _ (List.getElem_mem _)
        obtain ⟨y, hy⟩ : ∃ y, y = x.2.take 0 ++ was.drop 0 := ⟨_, rfl⟩
        obtain ⟨g, hfo, fg, cg, hlay⟩ := HR5.out.drew.lay x.1 HXO.out.1 y (by rw [hy, List.length_append, List.length_take, List.length_drop, HXO.out.2, hwl]; omega)
        rw [← hwas] at cg
        rw [hfo] at e0
        have S0 : (fun W => W.cell? ⟨D, 0, none⟩ = some (.slice (some ⟨g, 0, none⟩) n fc) ∧ W.cell? ⟨b5, 0, none⟩ = some (.int .i64 (x.1 : Int)) ∧ W.cell? ⟨b5, 1, none⟩ = some (tv x.2) ∧ W.cell? ⟨g, x.1, none⟩ = some (tv was)) w5.drew := ⟨e0, A2.out.drew.cell 0 _ rfl, A2.out.drew.cell 1 _ rfl, cg⟩
        refine region_any (fun W => W.cell? ⟨D, 0, none⟩ = some (.slice (some ⟨g, 0, none⟩) n fc) ∧ W.cell? ⟨b5, 0, none⟩ = some (.int .i64 (x.1 : Int)) ∧ W.cell? ⟨b5, 1, none⟩ = some (tv x.2) ∧ W.cell? ⟨g, x.1, none⟩ = some (tv was)) 22 (by kernel_rfl) ?_
        refine wpAnyT_take (i := 0) (v := (.pointer (some ⟨D, 0, none⟩))) rfl rfl (by kernel_rfl) (by kernel_rfl) (by kernel_rfl) (by kernel_rfl) (fun _ _ _ h => h) (.inl ⟨by kernel_rfl, fun W hS => by kernel_rfl⟩) S0 ?_
        refine wpAnyT_take (i := 1) (v := (.pointer (some ⟨D, 0, none⟩))) rfl rfl (by kernel_rfl) (by kernel_rfl) (by kernel_rfl) (by kernel_rfl) (fun _ _ _ h => h) (.inl ⟨by kernel_rfl, fun W hS => by kernel_rfl⟩) S0 ?_
        refine wpAnyT_take (i := 2) (v := (.pointer (some ⟨D, 0, none⟩))) rfl rfl (by kernel_rfl) (by kernel_rfl) (by kernel_rfl) (by kernel_rfl) (fun _ _ _ h => h) (.inl ⟨by kernel_rfl, fun W hS => by kernel_rfl⟩) S0 ?_
        refine wpAnyT_take (i := 3) (v := (.slice (some ⟨g, 0, none⟩) n fc)) rfl rfl (by kernel_rfl) (by kernel_rfl) (by kernel_rfl) (by kernel_rfl) (fun _ _ _ h => h) (.inl ⟨by kernel_rfl, fun W hS => run_load_one 39 (.tmp 48) rfl ⟨D, 0, none⟩ (by kernel_rfl) _ hS.1 _ Try.underlying39 rfl⟩) S0 ?_
        refine wpAnyT_take (i := 4) (v := (.pointer (some ⟨b5, 0, none⟩))) rfl rfl (by kernel_rfl) (by kernel_rfl) (by kernel_rfl) (by kernel_rfl) (fun _ _ _ h => h) (.inl ⟨by kernel_rfl, fun W hS => by kernel_rfl⟩) S0 ?_
        refine wpAnyT_take (i := 5) (v := (.int .i64 (x.1 : Int))) rfl rfl (by kernel_rfl) (by kernel_rfl) (by kernel_rfl) (by kernel_rfl) (fun _ _ _ h => h) (.inl ⟨by kernel_rfl, fun W hS => run_load_one 3 (.tmp 50) rfl ⟨b5, 0, none⟩ (by kernel_rfl) _ hS.2.1 _ Try.underlying3 rfl⟩) S0 ?_
        refine wpAnyT_take (i := 6) (v := (.pointer (some ⟨b5, 1, none⟩))) rfl rfl (by kernel_rfl) (by kernel_rfl) (by kernel_rfl) (by kernel_rfl) (fun _ _ _ h => h) (.inl ⟨by kernel_rfl, fun W hS => by kernel_rfl⟩) S0 ?_
        refine wpAnyT_take (i := 7) (v := (tv x.2)) rfl rfl (by kernel_rfl) (by kernel_rfl) (by kernel_rfl) (by kernel_rfl) (fun _ _ _ h => h) (.inl ⟨by kernel_rfl, fun W hS => run_load_one 9 (.tmp 52) rfl ⟨b5, 1, none⟩ (by kernel_rfl) _ hS.2.2.1 _ Try.underlying9 rfl⟩) S0 ?_
        refine wpAnyT_take (i := 8) (v := (.int .i64 ((0 : Nat) : Int))) rfl rfl (by kernel_rfl) (by kernel_rfl) (by kernel_rfl) (by kernel_rfl) (fun _ _ _ h => h) (.inl ⟨by kernel_rfl, fun W hS => by kernel_rfl⟩) S0 ?_
        refine wpAnyT_take (i := 9) (v := (tv (x.2.take 0))) rfl rfl (by kernel_rfl) (by kernel_rfl) (by kernel_rfl) (by kernel_rfl) (fun _ _ _ h => h) (.inl ⟨by kernel_rfl, fun W hS => run_hi_op (.tmp 53) (.tmp 54) rfl x.2 0 (by rw [HXO.out.2]; omega) (by kernel_rfl) (by kernel_rfl)⟩) S0 ?_
        refine wpAnyT_take (i := 10) (v := (.pointer (some ⟨D, 0, none⟩))) rfl rfl (by kernel_rfl) (by kernel_rfl) (by kernel_rfl) (by kernel_rfl) (fun _ _ _ h => h) (.inl ⟨by kernel_rfl, fun W hS => by kernel_rfl⟩) S0 ?_
        refine wpAnyT_take (i := 11) (v := (.pointer (some ⟨D, 0, none⟩))) rfl rfl (by kernel_rfl) (by kernel_rfl) (by kernel_rfl) (by kernel_rfl) (fun _ _ _ h => h) (.inl ⟨by kernel_rfl, fun W hS => by kernel_rfl⟩) S0 ?_
        refine wpAnyT_take (i := 12) (v := (.pointer (some ⟨D, 0, none⟩))) rfl rfl (by kernel_rfl) (by kernel_rfl) (by kernel_rfl) (by kernel_rfl) (fun _ _ _ h => h) (.inl ⟨by kernel_rfl, fun W hS => by kernel_rfl⟩) S0 ?_
        refine wpAnyT_take (i := 13) (v := (.slice (some ⟨g, 0, none⟩) n fc)) rfl rfl (by kernel_rfl) (by kernel_rfl) (by kernel_rfl) (by kernel_rfl) (fun _ _ _ h => h) (.inl ⟨by kernel_rfl, fun W hS => run_load_one 39 (.tmp 58) rfl ⟨D, 0, none⟩ (by kernel_rfl) _ hS.1 _ Try.underlying39 rfl⟩) S0 ?_
        refine wpAnyT_take (i := 14) (v := (.pointer (some ⟨b5, 0, none⟩))) rfl rfl (by kernel_rfl) (by kernel_rfl) (by kernel_rfl) (by kernel_rfl) (fun _ _ _ h => h) (.inl ⟨by kernel_rfl, fun W hS => by kernel_rfl⟩) S0 ?_
        refine wpAnyT_take (i := 15) (v := (.int .i64 (x.1 : Int))) rfl rfl (by kernel_rfl) (by kernel_rfl) (by kernel_rfl) (by kernel_rfl) (fun _ _ _ h => h) (.inl ⟨by kernel_rfl, fun W hS => run_load_one 3 (.tmp 60) rfl ⟨b5, 0, none⟩ (by kernel_rfl) _ hS.2.1 _ Try.underlying3 rfl⟩) S0 ?_
        refine wpAnyT_take (i := 16) (v := (.pointer (some ⟨g, x.1, none⟩))) rfl rfl (by kernel_rfl) (by kernel_rfl) (by kernel_rfl) (by kernel_rfl) (fun _ _ _ h => h) (.inl ⟨by kernel_rfl, fun W hS => run_index_op 39 9 (.tmp 59) (.tmp 61) rfl ⟨g, 0, none⟩ n fc x.1 (by kernel_rfl) (by kernel_rfl) HXO.out.1 1 _ (by rw [Nat.mul_one, Addr.add0]) Try.underlying39 (by kernel_rfl)⟩) S0 ?_
        refine wpAnyT_take (i := 17) (v := (tv was)) rfl rfl (by kernel_rfl) (by kernel_rfl) (by kernel_rfl) (by kernel_rfl) (fun _ _ _ h => h) (.inl ⟨by kernel_rfl, fun W hS => run_load_one 9 (.tmp 62) rfl ⟨g, x.1, none⟩ (by kernel_rfl) _ hS.2.2.2 _ Try.underlying9 rfl⟩) S0 ?_
        refine wpAnyT_take (i := 18) (v := (.int .i64 ((0 : Nat) : Int))) rfl rfl (by kernel_rfl) (by kernel_rfl) (by kernel_rfl) (by kernel_rfl) (fun _ _ _ h => h) (.inl ⟨by kernel_rfl, fun W hS => by kernel_rfl⟩) S0 ?_
        refine wpAnyT_take (i := 19) (v := (tv (was.drop 0))) rfl rfl (by kernel_rfl) (by kernel_rfl) (by kernel_rfl) (by kernel_rfl) (fun _ _ _ h => h) (.inl ⟨by kernel_rfl, fun W hS => run_lo_op (.tmp 63) (.tmp 64) rfl was 0 (by rw [hwl]; omega) (by kernel_rfl) (by kernel_rfl)⟩) S0 ?_
        refine wpAnyT_take (i := 20) (v := (tv y)) rfl rfl (by kernel_rfl) (by kernel_rfl) (by kernel_rfl) (by kernel_rfl) (fun _ _ _ h => h) (.inl ⟨by kernel_rfl, fun W hS => by rw [hy]; exact run_cat_op (.tmp 55) (.tmp 65) rfl (x.2.take 0) (was.drop 0) (by kernel_rfl) (by kernel_rfl) (by rw [List.length_take, List.length_drop, HXO.out.2, hwl]; omega)⟩) S0 ?_
        refine wpAnyT_take (i := 21) (v := (.pointer (some ⟨g, x.1, none⟩))) rfl rfl (by kernel_rfl) (by kernel_rfl) (by kernel_rfl) (by kernel_rfl) (fun _ _ _ h => h) (.inl ⟨by kernel_rfl, fun W hS => run_index_op 39 9 (.tmp 49) (.tmp 51) rfl ⟨g, 0, none⟩ n fc x.1 (by kernel_rfl) (by kernel_rfl) HXO.out.1 1 _ (by rw [Nat.mul_one, Addr.add0]) Try.underlying39 (by kernel_rfl)⟩) S0 ?_
        refine wpAnyT_all (rs := [22]) (by kernel_rfl) (by simp) ?_
        intro q hq
        obtain rfl : q = 22 := by simpa using hq
        refine wpOp_skip rfl (by kernel_rfl) (run_store_str (.tmp 67) (.tmp 66) rfl ⟨g, x.1, none⟩ (by kernel_rfl) y (by kernel_rfl) _ cg fg) ⟨fun h => absurd rfl h, wpAnyT_done (by kernel_rfl) ?_ _⟩
        have hT6 := HT5.out.drew.setCell ⟨g, x.1, none⟩ (tv y) (.inl (by rw [hfo]; simp [blk]))
        have hst9 : ({ s.wk z k with fl := (s.wk z k).fl.set x.1 y } : Dk) = s.wk z (k + 1) := by
          rw [HSM.out, hy, show x.2.take 0 ++ was.drop 0 = was by simp, hwas, set_same]
        rw [hst9] at hlay
        unfold tv at hlay hT6
        clear hst9 hy hwas
        have HR6 := Lib.hid hlay
        have HT6 := Lib.hid hT6
        clear hlay hT6 S0 cg fg
        go_wp2
        go_roundw
        case rel => exact ⟨k + 1, by omega, by go_num, HR6.out, HT6.out⟩
        case measure => simp [intOf]; omega
    · obtain rfl : k = s.ws.length := by omega
      have hlt' : decide ((s.ws.length : Int) < s.ws.length) = false := by simp
      have he : s.wk z s.ws.length = { s with fl := fated s.fl (s.ws.zip fs), off := false } := by unfold Dk.wk; rw [List.take_of_length_le (by rw [HZL.out]; omega), HZ.out]
      have hwk : s.wake fs = { s with fl := fated s.fl (s.ws.zip fs), ws := [], off := false } := by unfold Dk.wake; rw [HO1.out]; rfl
      rw [he] at HR
      have hT : Touch [D] wr (wr.setCell ⟨D, 1, none⟩ (.slice none 0 0)) := (Touch.refl _ _).setCell _ _ (.inl (by simp))
      have okf : (s.wake fs).Ok n := by
        rw [hwk]
        have ok := HR.out.ok
        exact ⟨ok.n1, ok.n2, ok.fl, ok.f128, fun x hx => by simp at hx, ok.f1, ok.f2⟩
      have hend : RefAt (wr.setCell ⟨D, 1, none⟩ (.slice none 0 0)) D fo fc none 0 n (s.wake fs) := by
        refine ⟨?_, ?_, ?_, okf⟩
        · have := HR.out.d.setCell 1 (.slice none 0 0)
          rw [hwk]
          exact this
        · rw [hwk]
          exact HR.out.f.touch hT (fun i hi => by simp; rintro rfl; exact HR.out.df hi)
        · rw [hwk]
          exact Own.nil _ _ _
      have f1 := HR.out.d.frozen 1
      have HE := Lib.hid hend
      have HT2 := Lib.hid (HT.out.setCell ⟨D, 1, none⟩ (.slice none 0 0) (.inl (by simp)))
      clear hT hend okf HT HR he hwk hwe
      go_wp2
      go_end0
      exact ⟨rfl, HE.out, HT2.out⟩
end
end Go.Proofs.Ytalphongcnackaa
