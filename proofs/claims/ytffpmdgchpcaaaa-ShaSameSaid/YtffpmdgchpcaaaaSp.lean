/- Rows of texts, and what grows at a step of a region; the statement ShaApart: its walk. -/
import Derived.Test.YtffpmdgchpcaaaaSv
import Derived.Test.YtffpmdgchpcaaaaSo
import Derived.Deep.RegionHeld3
import Derived.BigQuiet
import Derived.Deep.QuietTactic
namespace Go.Proofs.Ytffpmdgchpcaaaa
open Go.RowKit
section
variable {P : Program}
/-- 'append', whether there is room or not, at a step of a region that draws its order -/
theorem step_grow {ops : Array Oper} {o : Oper} {a : Act} {w : World} {K : Act → World → Prop} {Q : Exit → Act → World → Prop} {E : Prop} (hgd : o.guard = none) (s x : Operand) (t : TypeId)
    (ho : o.op = .call { callee := .builtin .append, args := #[s, x], argTypes := #[t, t] })
    (base : Nat) (e : TypeId) (i : TypeInfo) (z : Value) (bytes : Nat) (ht : P.underlying t = some (.slice e)) (hi : P.info? e = some i) (hz : i.zero = some z) (hsize : i.size = 1) (hby : i.bytes = bytes) (hzs : z.cells.size = 1)
    (ao : Option Addr) (n cap : Nat) (hs : a.eval s = .slice ao n cap) (xs : List Value) (hn : xs.length = n) (hO : Own1 w base e ao cap xs)
    (b m c : Nat) (hx : a.eval x = .slice (some ⟨b, 0, none⟩) m c) (news : List Value) {T2 : TypeId} (hN : At w b T2 news) (hm : news.length = m) (h1 : ∀ u ∈ news, u.oneCell' = true) (hm0 : 0 < m)
    (h63 : n + m ≤ maxLen) (hbytes : (n + m) * bytes ≤ 140737488355328) (hbase : base ≤ w.heap.size)
    (h : ∀ ao' cap' w', Own1 w' base e ao' cap' (xs ++ news) → Below base w w' → K (a.put o.dst (.slice ao' (n + m) cap')) w') :
    if Region.wanted o (yielded ops a.tmps) = true then Oper.wp P o a w K Q else E := by
  have hw : Region.wanted o (yielded ops a.tmps) = true := by simp [Region.wanted, hgd]
  rw [if_pos hw]
  subst hn
  obtain ⟨v', w', hrun, hv, hg, _⟩ := run_append_own (P := P) w base t o.type e i z 1 bytes ht hi hz hsize hby hzs (by decide) (.slice ao xs.length cap) xs.length xs hO ⟨b, 0, none⟩ m c news (by omega) (fun j u hj => by rw [Addr.add0]; exact hN.cell j u hj) h1 h63 hbytes hbase
  unfold Oper.wp
  simp [execOp, ho, resolve, invoke, builtin, hs, hx, hrun, Result.andThen]
  have hB : Below base w w' := by
    refine ⟨hg.os, hg.tape, hg.output, hg.size, fun k hk => hg.block k (by omega) (fun e => ?_)⟩
    rcases hO.2 with ⟨h0, _⟩ | ⟨g, cap', cur, h0, hb, _⟩
    · rw [h0] at e; cases e
    · rw [h0] at e; simp [Value.ownBlock] at e; omega
  rcases hv.2 with ⟨_, h0⟩ | ⟨g, cap', cur, rfl, hb, hr⟩
  · omega
  · refine h _ _ w' ?_ hB
    have hl : (xs ++ news).length = xs.length + m := by rw [List.length_append, hm]
    unfold Own1
    rw [hl]
    exact hv
end

/-- a row of texts that came in -/
def Strs (w : World) (a : Option Addr) (ls : List ByteArray) : Prop := ∀ j s, ls[j]? = some s → ∃ x, a = some x ∧ w.cell? (x.add j) = some (.string s)
theorem cell_lt {w : World} {p : Addr} {v : Value} (h : w.cell? p = some v) : p.block < w.heap.size := by
  unfold World.cell? at h
  cases hb : w.heap[p.block]? with
  | none => rw [hb] at h; simp at h
  | some o => exact (Array.getElem?_eq_some_iff.1 hb).1

/-- a text's first 200 bytes -/
def cutL (s : ByteArray) : List UInt8 := (s.extract 0 (min (s.size : Int) 200).toNat).data.toList
theorem cutL_bs (s : ByteArray) : s.extract 0 (min (s.size : Int) 200).toNat = bs (cutL s) := (bs_data _).symm
theorem cutL_len (s : ByteArray) : (cutL s).length ≤ 200 := by
  unfold cutL
  rw [size_data, ByteArray.size_extract]; omega
/-- the sums, as far as the k-th -/
def sumsOf (ls : List ByteArray) (k : Nat) : List Value := (ls.take k).map fun s => .string (bs (sha (cutL s)))
theorem sumsOf_succ (ls : List ByteArray) (k : Nat) (s : ByteArray) (h : ls[k]? = some s) : sumsOf ls (k + 1) = sumsOf ls k ++ [.string (bs (sha (cutL s)))] := by
  obtain ⟨hk, rfl⟩ := List.getElem?_eq_some_iff.1 h
  unfold sumsOf
  rw [List.take_succ_eq_append_getElem hk, List.map_append]; rfl
theorem sumsOf_len (ls : List ByteArray) (k : Nat) (h : k ≤ ls.length) : (sumsOf ls k).length = k := by
  unfold sumsOf; rw [List.length_map, List.length_take]; omega
theorem sumsOf_get (ls : List ByteArray) (k j : Nat) (s : ByteArray) (hj : j < k) (h : ls[j]? = some s) : (sumsOf ls k)[j]? = some (.string (bs (sha (cutL s)))) := by
  unfold sumsOf
  rw [List.getElem?_map, List.getElem?_take, if_pos hj, h]; rfl
theorem info9 : (Try.prog.info? 9).map (fun i => (i.zero, i.size, i.bytes)) = some (some (.string ByteArray.empty), 1, 16) := by kernel_rfl
theorem keep1 {u v : World} {p : Addr} {a : Value} (h : u.cell? p = some a) (hb : Below u.heap.size u v) : v.cell? p = some a := (hb.cell (cell_lt h)).trans h
theorem keepB {S : Nat} {u v : World} {p : Addr} {a : Value} (h : u.cell? p = some a) (hb : Below S u v) (hp : p.block < S) : v.cell? p = some a := (hb.cell hp).trans h
theorem keep1s {u v : World} {p q : Addr} {a b : Value} (h : u.cell? p = some a ∧ u.cell? q = some b) (hb : Below u.heap.size u v) : v.cell? p = some a ∧ v.cell? q = some b := ⟨keep1 h.1 hb, keep1 h.2 hb⟩

set_option maxRecDepth 100000 in
set_option maxHeartbeats 8000000 in
theorem shaApart_walk (ls : List ByteArray) (a : Option Addr) (len cap : Nat) (w : World) (hl : ls.length = len) (hS : Strs w a ls) (hm : len ≤ maxLen) (hsz : ∀ s ∈ ls, s.size ≤ maxLen) :
    Calls Try.prog 4 #[.slice a len cap] w fun e w' => e = .returned (.bool true) ∧ Below w.heap.size w w' := by
  obtain ⟨i9, hi9, hz0, hz1, hz2⟩ := info_parts info9
  have HI := Lib.hid hi9
  have HZ0 := Lib.hid hz0
  have HZ1 := Lib.hid hz1
  have HZ2 := Lib.hid hz2
  have HL := Lib.hid hl
  have HS := Lib.hid hS
  have HSZ := Lib.hid hsz
  clear hi9 hz0 hz1 hz2 hl hS hsz
  unfold maxLen at hm
  go_enter Try.func4, Try.ntmps4
  go_wp2_with fail
  refine (works_any _).mono ?_
  rintro e w1 ⟨rfl, b1⟩
  have HB1 := Lib.hid b1
  clear b1
  go_wp2_with fail
  go_loopw [4, 3] (fun i v wx => ∃ (k : Nat) (ao : Option Addr) (c : Nat), k ≤ len ∧ k ≤ 10 ∧ i = .int .i64 k ∧ v = .slice ao k c ∧ Own1 wx w.heap.size 9 ao c (sumsOf ls k) ∧ Below w.heap.size w wx) (fun i _ _ => 10 - (intOf i).toNat)
  case atStart => exact ⟨0, none, 0, by omega, by omega, rfl, rfl, Own1.nil _ _ _, HB1.out⟩
  case round =>
    obtain ⟨k, ao, c, hk, hk10, rfl, rfl, hO, hB⟩ := hrel
    have HO := Lib.hid hO
    have HB := Lib.hid hB
    clear hO hB HB1
    have hbs := HB.out.size
    by_cases hlt : k < len ∧ k < 10
    · obtain ⟨hlt, hlt10⟩ := hlt
      obtain ⟨s, hs⟩ : ∃ s, ls[k]? = some s := ⟨_, List.getElem?_eq_getElem (by rw [HL.out]; exact hlt)⟩
      obtain ⟨x, rfl, hcw⟩ := HS.out k s hs
      have hcell := (HB.out.cell (cell_lt hcw)).trans hcw
      have hxb := cell_lt hcw
      have hss := sumsOf_succ ls k s hs
      have hlk := sumsOf_len ls k (by rw [HL.out]; exact hk)
      have hsize := HSZ.out s (List.mem_of_getElem? hs)
      unfold maxLen at hsize
      have hcut := cutL_bs s
      have hsum := fun w => sum_any (cutL s) w (by have := cutL_len s; omega)
      have HSS := Lib.hid hss
      have HLK := Lib.hid hlk
      have m1 : 0 ≤ min (s.size : Int) 200 := by omega
      have m2 : min (s.size : Int) 200 ≤ (s.size : Int) := by omega
      have d1 : decide ((k : Int) < (len : Int)) = true := decide_eq_true (by omega)
      have d2 : decide ((k : Int) < 10) = true := decide_eq_true (by omega)
      clear hss hlk hs hcw
      generalize cutL s = t at *
      go_wp2
      go_region_held3 (fun w' => w'.cell? (x.add k) = some (.string s)) (first | exact hcell | exact keep1 (by assumption) (by assumption) | exact keepB (by assumption) (by assumption) hxb | go_keep) (first | (go_at_call 11; refine (hsum _).mono ?_; rintro e w3 ⟨rfl, b3⟩) | (refine step_grow rfl _ _ 27 rfl w.heap.size 9 i9 (.string ByteArray.empty) 16 Try.underlying27 HI.out HZ0.out HZ1.out HZ2.out rfl ao k c rfl _ HLK.out (by exact (HO.out.drew.below (by assumption) HO.out.lt).alloc _) _ 1 1 rfl [.string (bs (sha t))] (by exact At.new _ _ _) rfl (by intro u hu; cases hu with | head => rfl | tail _ h => cases h) (by omega) (by unfold maxLen; omega) (by omega) (by rw [World.size_alloc]; have hq := b3.size; have hq2 : wr.drew.heap.size = wr.heap.size := rfl; omega) ?_; intro ao2 cap2 w4 O4 B4))
      go_wp2
      go_roundw
      case rel =>
        refine ⟨k + 1, ao2, cap2, by omega, by omega, by go_num, by go_num, by rw [HSS.out]; exact O4, ?_⟩
        have q1 := (Below.drew HB.out).trans (b3.mono (by exact hbs))
        exact (q1.alloc q1.size _).trans B4
      case measure => simp [intOf]; omega
    · have hlk := sumsOf_len ls k (by rw [HL.out]; exact hk)
      have HLK := Lib.hid hlk
      have hex : len ≤ k ∨ (k < len ∧ 10 ≤ k) := by omega
      clear hlk
      have hd : decide (k < len) = false ∨ (decide (k < len) = true ∧ decide ((k : Int) < 10) = false) := by
        rcases hex with h | ⟨h, h2⟩
        · exact .inl (decide_eq_false (by omega))
        · exact .inr ⟨decide_eq_true (by omega), decide_eq_false (by omega)⟩
      clear hlt hex
      rcases hd with d1 | ⟨d1, d2⟩
      all_goals
        go_wp2
        obtain ⟨wo, hwo⟩ : ∃ wo, wo = wr := ⟨_, rfl⟩
        rw [← hwo] at HO HB hbs
        rw [← hwo]
        clear hwo d1
        go_loopw [5] (fun v wx => ∃ j : Int, -1 ≤ j ∧ j < k ∧ v = .int .i64 j ∧ Below wo.heap.size wo wx) (fun v _ => (intOf v + 1).toNat)
        case atStart => exact ⟨(k : Int) - 1, by omega, by omega, by go_num, Below.refl _ _⟩
        case round =>
          obtain ⟨j, hj1, hj2, rfl, hB2⟩ := hrel
          have HB2 := Lib.hid hB2
          clear hB2
          by_cases hj0 : 0 ≤ j
          · obtain ⟨p, rfl⟩ := Int.eq_ofNat_of_zero_le hj0
            have hp : p < k := by omega
            obtain ⟨s, hs⟩ : ∃ s, ls[p]? = some s := ⟨_, List.getElem?_eq_getElem (by rw [HL.out]; omega)⟩
            obtain ⟨x, rfl, hcw⟩ := HS.out p s hs
            have hcell := (HB2.out.cell (Nat.lt_of_lt_of_le (cell_lt hcw) hbs)).trans ((HB.out.cell (cell_lt hcw)).trans hcw)
            have hsg := sumsOf_get ls k p s hp hs
            obtain ⟨g, rfl, hg1, hg2, hgc⟩ := HO.out.at p (by rw [HLK.out]; exact hp)
            have hge : (sumsOf ls k)[p]'(by rw [HLK.out]; exact hp) = .string (bs (sha (cutL s))) := by
              rw [List.getElem?_eq_getElem (by rw [HLK.out]; exact hp)] at hsg
              exact Option.some.inj hsg
            rw [hge] at hgc
            have hgcell := (HB2.out.cell (p := ⟨g, p, none⟩) hg2).trans hgc
            have hsize := HSZ.out s (List.mem_of_getElem? hs)
            unfold maxLen at hsize
            have hcut := cutL_bs s
            have hsum := fun w => sum_any (cutL s) w (by have := cutL_len s; omega)
            have hl32 := sha_len (cutL s)
            have m1 : 0 ≤ min (s.size : Int) 200 := by omega
            have m2 : min (s.size : Int) 200 ≤ (s.size : Int) := by omega
            have p1 : (p : Int) < (len : Int) := by omega
            have p2 : (p : Int) < (k : Int) := by omega
            clear hge hsg hs hcw hgc
            generalize sha (cutL s) = y at *
            generalize cutL s = t at *
            have hy : (y.length : Int) = 32 := by omega
            have hyb : (bs y).size = 32 := by rw [bs_size]; exact hl32
            clear hl32
            go_wp2
            go_region_held3 (fun w' => w'.cell? (x.add p) = some (.string s) ∧ w'.cell? ⟨g, p, none⟩ = some (.string (bs y))) (first | exact ⟨hcell, hgcell⟩ | exact keep1s (by assumption) (by assumption) | go_keep) (first | (go_at_call 11; refine (hsum _).mono ?_; rintro e w3 ⟨rfl, b3⟩))
            go_wp2
            go_roundw
            case rel => exact ⟨(p : Int) - 1, by omega, by omega, by go_num, (Below.drew HB2.out).trans (b3.mono (by exact HB2.out.size))⟩
            case measure => simp [intOf]
          · go_wp2
            go_ret
            exact ⟨rfl, HB.out.trans (HB2.out.mono hbs)⟩
end Go.Proofs.Ytffpmdgchpcaaaa
