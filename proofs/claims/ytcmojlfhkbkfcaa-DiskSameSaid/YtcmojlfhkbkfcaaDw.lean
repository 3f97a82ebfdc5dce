/- The statement DiskSame: its walk. -/
import Derived.Test.YtcmojlfhkbkfcaaDv
import Derived.Test.YtcmojlfhkbkfcaaDq
import Derived.Test.YtcmojlfhkbkfcaaDx
namespace Go.Proofs.Ytcmojlfhkbkfcaa
open Go.RowKit

theorem enter_bytes : ∀ (args : Array Value) (w : World), (callFunc 21 args).run Try.prog w = .ok (.enter 21 args) w := enters_of Try.func21 (by kernel_rfl) rfl
theorem enter_Write : ∀ (args : Array Value) (w : World), (callFunc 22 args).run Try.prog w = .ok (.enter 22 args) w := enters_of Try.func22 (by kernel_rfl) rfl
theorem size_setCells (b : Nat) : ∀ (vs : List Value) (o : Nat) (w : World), (w.setCells b o vs).heap.size = w.heap.size
  | [], _, _ => rfl
  | v :: r, o, w => by
    have := size_setCells b r (o + 1) (w.setCell ⟨b, o, none⟩ v)
    rw [show (w.setCell ⟨b, o, none⟩ v).heap.size = w.heap.size by simp [World.setCell]] at this
    exact this
theorem Pair.touch {X Y : Thing} (hX : Stable X) (hY : Stable Y) {w0 w w' : World} {av : Nat → Prop} {ft : List Nat} (h : Pair X Y w0 w av) (k : Touch ft w w') (hf : ∀ i, i ∈ ft → av i ∧ w0.heap.size ≤ i) : Pair X Y w0 w' av := by
  obtain ⟨ha, hB, fx, fy, x, y, hx, hy⟩ := h
  refine ⟨fun i hi => Nat.lt_of_lt_of_le (ha i hi) k.size, k.below hB (fun i hi => (hf i hi).2) (Nat.le_refl _), fx, fy, hX w w' fx x (fun i hi => k.block i (hx i hi).2.1 (fun e => (hx i hi).2.2.1 (hf i e).1)), hY w w' fy y (fun i hi => k.block i (hy i hi).2.1 (fun e => (hy i hi).2.2.1 (hf i e).1)), fun i hi => ⟨(hx i hi).1, Nat.lt_of_lt_of_le (hx i hi).2.1 k.size, (hx i hi).2.2⟩, fun i hi => ⟨(hy i hi).1, Nat.lt_of_lt_of_le (hy i hi).2.1 k.size, (hy i hi).2.2⟩⟩
def stA (s : Dk) (x : DoV) (q : Nat) : Dk := if q = 0 then s else s.does x
def stB (s : Dk) (x : DoV) (q : Nat) : Dk := if q ≤ 1 then s else s.does x
theorem keep3 {u v : World} {p q r : Addr} {a b c : Value} (h : u.cell? p = some a ∧ u.cell? q = some b ∧ u.cell? r = some c) (hb : Below u.heap.size u v) : v.cell? p = some a ∧ v.cell? q = some b ∧ v.cell? r = some c :=
  ⟨cell_below hb h.1, cell_below hb h.2.1, cell_below hb h.2.2⟩

set_option maxRecDepth 100000 in
set_option maxHeartbeats 16000000 in
theorem diskSame_walk (a : Option Addr) (len cap : Nat) (ls : List DoV) (ra : Option Addr) (rl rc : Nat) (w : World) (hl : ls.length = len) (hlen : len ≤ maxLen) (hD : Dos w a ls) (hrl : rl ≤ maxLen) (hR : Bytes1 w ra rl) :
    Calls Try.prog 6 #[.slice a len cap, .slice ra rl rc] w fun e w' => e = .returned (.bool true) ∧ Below w.heap.size w w' := by
  unfold maxLen at hlen hrl
  have HL := Lib.hid hl
  have HD := Lib.hid hD
  have HR := Lib.hid hR
  clear hl hD hR
  go_enter Try.func6, Try.ntmps6
  go_wp2_with fail
  refine (works_any _).mono ?_
  rintro e w1 ⟨rfl, b1⟩
  have HB1 := Lib.hid b1
  clear b1
  go_wp2_with fail
  refine (p_new w w1 HB1.out none_ (fun _ h => h.elim) 4 (by decide) (by decide)).mono ?_
  rintro e v ⟨A, rfl, hA, h⟩
  have HP0 := Lib.hid h.1
  clear h hA
  have hp := HP0.out
  obtain ⟨_, F, N, ao, cp, hd, hB, hf⟩ := hp
  go_wp2_with fail
  refine (p_new w v hB (fun i => none_ i ∨ i ∈ foot A F N ao) (fun i hi => hi.elim (fun h => h.elim) (hd.lt i)) 4 (by decide) (by decide)).mono ?_
  rintro e v1 ⟨B, rfl, hB2, h⟩
  have hpair : Pair (theDisk 4 A (Dk.fresh 4)) (theDisk 4 B (Dk.fresh 4)) w v1 none_ := by
    refine Pair.of (fx := fun i => i ∈ foot A F N ao) (theDisk_stable 4 A _ v v1 _ ⟨F, N, ao, cp, hd, rfl⟩ (fun i hi => h.2 i (.inr hi))) (fun i hi => ⟨(hf i hi).1, ?_, fun e => e.elim⟩) (Alone.of_priv h.1)
    exact h.1.1 i (.inr hi)
  have HP := Lib.hid hpair
  clear h hpair hB2 hd hB hf HP0
  have htw : Twin 0 (Dk.fresh 4) (Dk.fresh 4) := ⟨rfl, rfl, Nat.le_refl _, fresh_calm 4, fresh_calm 4⟩
  have HT := Lib.hid htw
  clear htw
  generalize Dk.fresh 4 = s0 at *
  go_wp2_with fail
  go_loopw [7] (fun x wx => ∃ (k : Nat) (sa sb : Dk), k ≤ len ∧ k ≤ 100 ∧ x = .int .i64 k ∧ Twin (2 * k) sa sb ∧ Pair (theDisk 4 A sa) (theDisk 4 B sb) w wx none_) (fun x _ => 100 - (intOf x).toNat)
  case atStart => exact ⟨0, s0, s0, by omega, by omega, rfl, HT.out, HP.out⟩
  case round =>
    obtain ⟨k, sa, sb, hk, hk2, rfl, htw, hP⟩ := hrel
    have HTW := Lib.hid htw
    have HPP := Lib.hid hP
    clear htw hP
    by_cases hlt : k < len ∧ k < 100
    · obtain ⟨hlt, hlt2⟩ := hlt
      obtain ⟨x, hx⟩ : ∃ x, ls[k]? = some x := ⟨_, List.getElem?_eq_getElem (by rw [HL.out]; exact hlt)⟩
      obtain ⟨p, rfl, hdo⟩ := HD.out k x hx
      have hdo0 := hdo
      have hdo := hdo.below HPP.out.bel
      have HDO := Lib.hid hdo
      have i1 : decide ((k : Int) < (len : Int)) = true := decide_eq_true (by omega)
      have i2 : decide ((k : Int) < 100) = true := decide_eq_true (by omega)
      have i3 : (k : Int) < (len : Int) := by omega
      clear hdo hx
      have hw0 := HPP.out.bel.size
      have hcx := HDO.out.c
      have HCX := Lib.hid hcx
      have hth := (At.new wr zdo 54).there 0 4 (by decide)
      obtain ⟨a2, t2⟩ := fill_new wr zdo 54 x.cells rfl
      have hone := all_oneCell_toArray x.one
      have hpx := (HPP.out.alloc (theDisk_stable _ _ _) (theDisk_stable _ _ _) (.cells zdo 54))
      have A2 := Lib.hid a2
      have T2 := Lib.hid t2
      have HTH := Lib.hid hth
      have HNE := Lib.hid hone
      have HPX := Lib.hid hpx
      have hlx : x.cells.length = 4 := rfl
      have hsx : x.cells.toArray.size = 4 := rfl
      have HLX := Lib.hid hlx
      have HSX := Lib.hid hsx
      clear hcx hth a2 t2 hone hpx hlx hsx
      go_wp2_with (first | (with_reducible refine load_any rfl 54 (.tmp 38) rfl (p.add (k * 4)) (by kernel_rfl) x.cells _ HCX.out Try.underlying54 rfl (by rw [HLX.out]; exact info_do) ?_) | (with_reducible refine alloc_agg rfl 54 rfl zdo zero_do ?_) | (with_reducible refine wpList_store_mid rfl 54 (.tmp 8) (.tmp 39) rfl wr.heap.size 0 x.cells.toArray (by kernel_rfl) (by kernel_rfl) (by rw [HSX.out]; exact HTH.out) (by rw [HSX.out]; exact info_do) HNE.out ?_))
      -- BODY
      obtain ⟨bx, hbx⟩ : ∃ bx, bx = wr.heap.size := ⟨_, rfl⟩
      have hbx0 : w.heap.size ≤ bx := by omega
      rw [← hbx] at A2 T2 HPX HTH ⊢
      have hz2 : ((wr.alloc (.cells zdo 54)).setCells bx 0 x.cells).heap.size = bx + 1 := by rw [size_setCells, World.size_alloc, ← hbx]
      have hp2 := (HPX.out.more (av2 := fun i => i = bx) (fun i hi => .inr (.inr hi))).touch (theDisk_stable _ _ _) (theDisk_stable _ _ _) (ft := [bx]) (Touch.setCells bx (.inl (by simp)) x.cells 0 _ (Touch.refl _ _)) (fun i hi => by simp at hi; exact ⟨hi, by omega⟩)
      have hp3 := hp2.alloc (theDisk_stable _ _ _) (theDisk_stable _ _ _) (.cells #[.pointer (some ⟨A, 0, none⟩), .pointer (some ⟨B, 0, none⟩)] 57)
      have hx3 := A2.out.alloc (.cells #[.pointer (some ⟨A, 0, none⟩), .pointer (some ⟨B, 0, none⟩)] 57)
      have hd3 := At.new ((wr.alloc (.cells zdo 54)).setCells bx 0 x.cells) #[.pointer (some ⟨A, 0, none⟩), .pointer (some ⟨B, 0, none⟩)] 57
      rw [hz2] at hp3 hd3 ⊢
      generalize ((wr.alloc (.cells zdo 54)).setCells bx 0 x.cells).alloc (.cells #[.pointer (some ⟨A, 0, none⟩), .pointer (some ⟨B, 0, none⟩)] 57) = w3 at *
      have HP3 := Lib.hid hp3
      have HX3 := Lib.hid hx3
      have HD3 := Lib.hid hd3
      have HDO0 := Lib.hid hdo0
      clear hp2 hp3 hx3 hd3 hz2 HTH HNE HPX A2 T2 HCX HLX HSX hw0 hbx HDO hdo0
      have htc := HTW.out
      have qa1 := htc.a.ops
      have qa2 := htc.a.ws
      have qb1 := htc.b.ops
      have qb2 := htc.b.ws
      have oa : sa.ops < 9223372036854775807 := by omega
      have ob : sb.ops < 9223372036854775807 := by omega
      have wa : sa.ws.length ≤ 1000000 := by omega
      have wb : sb.ws.length ≤ 1000000 := by omega
      clear htc qa1 qa2 qb1 qb2
      go_loopw [10] (fun y wx => ∃ q : Nat, q ≤ 2 ∧ y = .int .i64 q ∧ Pair (theDisk 4 A (stA sa x q)) (theDisk 4 B (stB sb x q)) w wx (fun i => i = bx ∨ i = bx + 1) ∧ At wx bx 54 x.cells ∧ At wx (bx + 1) 57 [.pointer (some ⟨A, 0, none⟩), .pointer (some ⟨B, 0, none⟩)]) (fun y _ => 2 - (intOf y).toNat)
      case atStart => exact ⟨0, by omega, rfl, HP3.out, HX3.out, HD3.out⟩
      clear HP3 HX3 HD3
      case round =>
        obtain ⟨q, hq, rfl, hP, hX, hDD⟩ := hrel
        have HPq := Lib.hid hP
        have HXq := Lib.hid hX
        have HDq := Lib.hid hDD
        clear hP hX hDD
        have c0 := HXq.out.cell 0 _ rfl
        have c1 := HXq.out.cell 1 _ rfl
        have c2 := HXq.out.cell 2 _ rfl
        have c3 := HXq.out.cell 3 _ rfl
        have d0 := HDq.out.cell 0 _ rfl
        have d1 := HDq.out.cell 1 _ rfl
        have hfl := HDO0.out.fl
        have hat := HDO0.out.a
        have hat2 : (x.at_ : Int) < 256 := by omega
        have hq3 : q = 0 ∨ q = 1 ∨ q = 2 := by omega
        have stA_s := theDisk_stable
        clear stA_s
        rcases hq3 with rfl | rfl | rfl
        · have hPs : Pair (theDisk 4 A sa) (theDisk 4 B sb) w wr (fun i => i = bx ∨ i = bx + 1) := HPq.out
          have HPs := Lib.hid hPs
          clear hPs
          by_cases hf : 0 < x.fs.length
          · have f1 : decide (0 < x.fs.length) = true := by simpa using hf
            have f2 : decide ((0 : Int) < (x.fs.length : Int)) = true := by simp; omega
            have f3 : (0 : Int) < (x.fs.length : Int) := by omega
            have hdx : sa.does x = sa.cut.wake x.fs := by unfold Dk.does; rw [if_pos (fun e => by rw [e] at hf; simp at hf)]
            have HDX := Lib.hid hdx
            clear hdx
            go_wp2_with fail
            refine (l_off (theDisk_stable _ _ _) HPs.out).mono ?_
            rintro e v2 ⟨rfl, hp, hk⟩
            have e0 := (hk.at HDq.out (.inr rfl)).cell 0 _ rfl
            have e3 := (hk.at HXq.out (.inl rfl)).cell 3 _ rfl
            have HPO := Lib.hid hp
            have HKO := Lib.hid hk
            clear hp hk
            go_wp2_with fail
            go_still_tail 5, (by kernel_rfl)
            change wpList _ _ _ _ _ v2.drew
            clear e0 e3
            go_wp2_with fail
            refine (l_wake (theDisk_stable _ _ _) (HPO.out.drew (theDisk_stable _ _ _) (theDisk_stable _ _ _)) x.fa x.fs x.fc HDO0.out.fc HDO0.out.fl (fun j c hj => HDO0.out.fates (HPO.out.drew (theDisk_stable _ _ _) (theDisk_stable _ _ _)).bel (fun i => i = bx ∨ i = bx + 1) j c hj) wa).mono ?_
            rintro e v3 ⟨rfl, hp, hk⟩
            have hpe : Pair (theDisk 4 A (stA sa x 1)) (theDisk 4 B (stB sb x 1)) w v3 (fun i => i = bx ∨ i = bx + 1) := by
              show Pair (theDisk 4 A (sa.does x)) (theDisk 4 B (sb)) w v3 (fun i => i = bx ∨ i = bx + 1)
              rw [HDX.out]
              exact hp
            have HPE := Lib.hid hpe
            have HKE := Lib.hid (Keeps.trans (v := v2) HKO.out (Keeps.trans (v := v2.drew) (fun _ _ => rfl) hk))
            clear hp hk hpe
            go_wp2
            go_roundw
            case rel => exact ⟨1, by omega, by go_num, HPE.out, HKE.out.at HXq.out (.inl rfl), HKE.out.at HDq.out (.inr rfl)⟩
            case measure => simp [intOf]
          · have hf0 : x.fs = [] := List.eq_nil_of_length_eq_zero (by omega)
            have f1 : decide (0 < x.fs.length) = false := by simpa using hf
            have f2 : decide ((0 : Int) < (x.fs.length : Int)) = false := by simp; omega
            have f3 : ¬ (0 : Int) < (x.fs.length : Int) := by omega
            cases hfl2 : x.fl
            · have hdx : sa.does x = sa.writeD 4 ((x.at_ % 4 : Nat) : Int) (List.replicate 128 x.b) := by unfold Dk.does; rw [if_neg (by simp [hf0]), hfl2]; rfl
              have HDX := Lib.hid hdx
              rw [hfl2] at c2
              clear hdx hfl2 hf0
              have hpd := HPs.out.drew (theDisk_stable _ _ _) (theDisk_stable _ _ _)
              have HPD := Lib.hid hpd
              have S0 : wr.drew.cell? ⟨bx + 1, 0, none⟩ = some (.pointer (some ⟨A, 0, none⟩)) ∧ wr.drew.cell? ⟨bx, 0, none⟩ = some (.int .u8 (x.at_ : Int)) ∧ wr.drew.cell? ⟨bx, 1, none⟩ = some (.int .u8 (x.b.toNat : Int)) := ⟨d0, c0, c1⟩
              clear hpd
              go_wp2_with fail
              refine region_any (fun w' => w'.cell? ⟨bx + 1, 0, none⟩ = some (.pointer (some ⟨A, 0, none⟩)) ∧ w'.cell? ⟨bx, 0, none⟩ = some (.int .u8 (x.at_ : Int)) ∧ w'.cell? ⟨bx, 1, none⟩ = some (.int .u8 (x.b.toNat : Int))) 11 (by kernel_rfl) ?_
              refine wpAnyT_takeN (v := .int .i64 0) (i := 0) rfl (by decide) (by kernel_rfl) (by kernel_rfl) (by kernel_rfl) (fun _ _ _ h => h) (.inl ⟨by kernel_rfl, fun W hS => by kernel_rfl⟩) S0 ?_
              refine wpAnyT_takeN (v := .pointer (some ⟨bx + 1, 0, none⟩)) (i := 1) rfl (by decide) (by kernel_rfl) (by kernel_rfl) (by kernel_rfl) (fun _ _ _ h => h) (.inl ⟨by kernel_rfl, fun W hS => by kernel_rfl⟩) S0 ?_
              refine wpAnyT_takeN (v := .pointer (some ⟨A, 0, none⟩)) (i := 2) rfl (by decide) (by kernel_rfl) (by kernel_rfl) (by kernel_rfl) (fun _ _ _ h => h) (.inl ⟨by kernel_rfl, fun W hS => run_load_one 23 (.tmp 48) rfl ⟨bx + 1, 0, none⟩ (by kernel_rfl) _ hS.1 _ Try.underlying23 rfl⟩) S0 ?_
              refine wpAnyT_takeN (v := .pointer (some ⟨bx, 0, none⟩)) (i := 3) rfl (by decide) (by kernel_rfl) (by kernel_rfl) (by kernel_rfl) (fun _ _ _ h => h) (.inl ⟨by kernel_rfl, fun W hS => by kernel_rfl⟩) S0 ?_
              refine wpAnyT_takeN (v := .int .u8 (x.at_ : Int)) (i := 4) rfl (by decide) (by kernel_rfl) (by kernel_rfl) (by kernel_rfl) (fun _ _ _ h => h) (.inl ⟨by kernel_rfl, fun W hS => run_load_one 5 (.tmp 50) rfl ⟨bx, 0, none⟩ (by kernel_rfl) _ hS.2.1 _ Try.underlying5 rfl⟩) S0 ?_
              refine wpAnyT_takeN (v := .int .u8 ((x.at_ % 4 : Nat) : Int)) (i := 5) rfl (by decide) (by kernel_rfl) (by kernel_rfl) (by kernel_rfl) (fun _ _ _ h => h) (.inl ⟨by kernel_rfl, fun W hS => run_rem4 (.tmp 51) 5 5 Try.underlying5 rfl x.at_ (by kernel_rfl)⟩) S0 ?_
              refine wpAnyT_takeN (v := .int .i64 ((x.at_ % 4 : Nat) : Int)) (i := 6) rfl (by decide) (by kernel_rfl) (by kernel_rfl) (by kernel_rfl) (fun _ _ _ h => h) (.inl ⟨by kernel_rfl, fun W hS => run_cv (.tmp 52) rfl (x.at_ % 4) (by omega) (by kernel_rfl)⟩) S0 ?_
              refine wpAnyT_takeN (v := .pointer (some ⟨bx, 1, none⟩)) (i := 7) rfl (by decide) (by kernel_rfl) (by kernel_rfl) (by kernel_rfl) (fun _ _ _ h => h) (.inl ⟨by kernel_rfl, fun W hS => by kernel_rfl⟩) S0 ?_
              refine wpAnyT_takeN (v := .int .u8 (x.b.toNat : Int)) (i := 8) rfl (by decide) (by kernel_rfl) (by kernel_rfl) (by kernel_rfl) (fun _ _ _ h => h) (.inl ⟨by kernel_rfl, fun W hS => run_load_one 5 (.tmp 54) rfl ⟨bx, 1, none⟩ (by kernel_rfl) _ hS.2.2 _ Try.underlying5 rfl⟩) S0 ?_
              refine wpAnyT_all (rs := [9]) (by kernel_rfl) (by simp) ?_
              intro i hi
              obtain rfl : i = 9 := by simpa using hi
              refine wpOp_call rfl (by kernel_rfl) 21 #[.int .i64 128, .int .u8 (x.b.toNat : Int)] (run_call_func rfl enter_bytes _ (by kernel_rfl)) ?_
              refine (bytes_any 128 x.b 128 (by decide) _).mono ?_
              rintro e w4 ⟨rfl, b4⟩
              refine ⟨_, rfl, fun _ => keep3 S0 b4, ?_⟩
              refine wpAnyT_all (rs := [10]) (by kernel_rfl) (by simp) ?_
              intro i hi
              obtain rfl : i = 10 := by simpa using hi
              refine wpOp_call rfl (by kernel_rfl) 22 #[.pointer (some ⟨A, 0, none⟩), .int .i64 ((x.at_ % 4 : Nat) : Int), .string (bs (List.replicate 128 x.b))] (run_call_func rfl enter_Write _ (by kernel_rfl)) ?_
              refine (l_write (w0 := w) (av := fun i => i = bx ∨ i = bx + 1) (n := 4) (D := A) (s := sa) (Y := theDisk 4 B sb) (theDisk_stable _ _ _) (HPD.out.below (theDisk_stable _ _ _) (theDisk_stable _ _ _) b4).1 ((x.at_ % 4 : Nat) : Int) (List.replicate 128 x.b) oa wa (by simp)).mono ?_
              rintro e v5 ⟨rfl, hp, hk⟩
              have hk0 : Keeps (fun i => i = bx ∨ i = bx + 1) wr v5 := Keeps.trans (v := wr.drew) (fun _ _ => rfl) (Keeps.trans (HPD.out.below (theDisk_stable _ _ _) (theDisk_stable _ _ _) b4).2 hk)
              refine ⟨_, rfl, fun _ => ⟨(hk0.at HDq.out (.inr rfl)).cell 0 _ rfl, (hk0.at HXq.out (.inl rfl)).cell 0 _ rfl, (hk0.at HXq.out (.inl rfl)).cell 1 _ rfl⟩, wpAnyT_done (by kernel_rfl) ?_ _⟩
              clear hk0
              have hpe : Pair (theDisk 4 A (stA sa x 1)) (theDisk 4 B (stB sb x 1)) w v5 (fun i => i = bx ∨ i = bx + 1) := by
                show Pair (theDisk 4 A (sa.does x)) (theDisk 4 B (sb)) w v5 (fun i => i = bx ∨ i = bx + 1)
                rw [HDX.out]
                exact hp
              have HPE := Lib.hid hpe
              have hke := Keeps.trans (HPD.out.below (theDisk_stable _ _ _) (theDisk_stable _ _ _) b4).2 hk
              have HKE := Lib.hid (Keeps.trans (u := wr) (v := wr.drew) (fun _ _ => rfl) hke)
              clear hp hk hpe hke S0 b4 HPD
              simp only [Act.put, List.setIfInBounds_toArray, List.set_cons_zero, List.set_cons_succ]
              go_wp2
              go_roundw
              case rel => exact ⟨1, by omega, by go_num, HPE.out, HKE.out.at HXq.out (.inl rfl), HKE.out.at HDq.out (.inr rfl)⟩
              case measure => simp [intOf]
            · have hdx : sa.does x = sa.flushD := by unfold Dk.does; rw [if_neg (by simp [hf0]), hfl2]; rfl
              have HDX := Lib.hid hdx
              rw [hfl2] at c2
              clear hdx hfl2 hf0
              go_wp2_with fail
              refine (l_flush (theDisk_stable _ _ _) HPs.out oa wa).mono ?_
              rintro e v3 ⟨rfl, hp, hk⟩
              have hpe : Pair (theDisk 4 A (stA sa x 1)) (theDisk 4 B (stB sb x 1)) w v3 (fun i => i = bx ∨ i = bx + 1) := by
                show Pair (theDisk 4 A (sa.does x)) (theDisk 4 B (sb)) w v3 (fun i => i = bx ∨ i = bx + 1)
                rw [HDX.out]
                exact hp
              have HPE := Lib.hid hpe
              have HKE := Lib.hid hk
              clear hp hk hpe
              go_wp2
              go_roundw
              case rel => exact ⟨1, by omega, by go_num, HPE.out, HKE.out.at HXq.out (.inl rfl), HKE.out.at HDq.out (.inr rfl)⟩
              case measure => simp [intOf]
        · have hPs : Pair (theDisk 4 A (sa.does x)) (theDisk 4 B sb) w wr (fun i => i = bx ∨ i = bx + 1) := HPq.out
          have HPs := Lib.hid hPs
          clear hPs
          by_cases hf : 0 < x.fs.length
          · have f1 : decide (0 < x.fs.length) = true := by simpa using hf
            have f2 : decide ((0 : Int) < (x.fs.length : Int)) = true := by simp; omega
            have f3 : (0 : Int) < (x.fs.length : Int) := by omega
            have hdx : sb.does x = sb.cut.wake x.fs := by unfold Dk.does; rw [if_pos (fun e => by rw [e] at hf; simp at hf)]
            have HDX := Lib.hid hdx
            clear hdx
            go_wp2_with fail
            refine (r_off (theDisk_stable _ _ _) HPs.out).mono ?_
            rintro e v2 ⟨rfl, hp, hk⟩
            have e0 := (hk.at HDq.out (.inr rfl)).cell 1 _ rfl
            have e3 := (hk.at HXq.out (.inl rfl)).cell 3 _ rfl
            have HPO := Lib.hid hp
            have HKO := Lib.hid hk
            clear hp hk
            go_wp2_with fail
            go_still_tail 5, (by kernel_rfl)
            change wpList _ _ _ _ _ v2.drew
            clear e0 e3
            go_wp2_with fail
            refine (r_wake (theDisk_stable _ _ _) (HPO.out.drew (theDisk_stable _ _ _) (theDisk_stable _ _ _)) x.fa x.fs x.fc HDO0.out.fc HDO0.out.fl (fun j c hj => HDO0.out.fates (HPO.out.drew (theDisk_stable _ _ _) (theDisk_stable _ _ _)).bel (fun i => i = bx ∨ i = bx + 1) j c hj) wb).mono ?_
            rintro e v3 ⟨rfl, hp, hk⟩
            have hpe : Pair (theDisk 4 A (stA sa x 2)) (theDisk 4 B (stB sb x 2)) w v3 (fun i => i = bx ∨ i = bx + 1) := by
              show Pair (theDisk 4 A (sa.does x)) (theDisk 4 B (sb.does x)) w v3 (fun i => i = bx ∨ i = bx + 1)
              rw [HDX.out]
              exact hp
            have HPE := Lib.hid hpe
            have HKE := Lib.hid (Keeps.trans (v := v2) HKO.out (Keeps.trans (v := v2.drew) (fun _ _ => rfl) hk))
            clear hp hk hpe
            go_wp2
            go_roundw
            case rel => exact ⟨2, by omega, by go_num, HPE.out, HKE.out.at HXq.out (.inl rfl), HKE.out.at HDq.out (.inr rfl)⟩
            case measure => simp [intOf]
          · have hf0 : x.fs = [] := List.eq_nil_of_length_eq_zero (by omega)
            have f1 : decide (0 < x.fs.length) = false := by simpa using hf
            have f2 : decide ((0 : Int) < (x.fs.length : Int)) = false := by simp; omega
            have f3 : ¬ (0 : Int) < (x.fs.length : Int) := by omega
            cases hfl2 : x.fl
            · have hdx : sb.does x = sb.writeD 4 ((x.at_ % 4 : Nat) : Int) (List.replicate 128 x.b) := by unfold Dk.does; rw [if_neg (by simp [hf0]), hfl2]; rfl
              have HDX := Lib.hid hdx
              rw [hfl2] at c2
              clear hdx hfl2 hf0
              have hpd := HPs.out.drew (theDisk_stable _ _ _) (theDisk_stable _ _ _)
              have HPD := Lib.hid hpd
              have S0 : wr.drew.cell? ⟨bx + 1, 1, none⟩ = some (.pointer (some ⟨B, 0, none⟩)) ∧ wr.drew.cell? ⟨bx, 0, none⟩ = some (.int .u8 (x.at_ : Int)) ∧ wr.drew.cell? ⟨bx, 1, none⟩ = some (.int .u8 (x.b.toNat : Int)) := ⟨d1, c0, c1⟩
              clear hpd
              go_wp2_with fail
              refine region_any (fun w' => w'.cell? ⟨bx + 1, 1, none⟩ = some (.pointer (some ⟨B, 0, none⟩)) ∧ w'.cell? ⟨bx, 0, none⟩ = some (.int .u8 (x.at_ : Int)) ∧ w'.cell? ⟨bx, 1, none⟩ = some (.int .u8 (x.b.toNat : Int))) 11 (by kernel_rfl) ?_
              refine wpAnyT_takeN (v := .int .i64 1) (i := 0) rfl (by decide) (by kernel_rfl) (by kernel_rfl) (by kernel_rfl) (fun _ _ _ h => h) (.inl ⟨by kernel_rfl, fun W hS => by kernel_rfl⟩) S0 ?_
              refine wpAnyT_takeN (v := .pointer (some ⟨bx + 1, 1, none⟩)) (i := 1) rfl (by decide) (by kernel_rfl) (by kernel_rfl) (by kernel_rfl) (fun _ _ _ h => h) (.inl ⟨by kernel_rfl, fun W hS => by kernel_rfl⟩) S0 ?_
              refine wpAnyT_takeN (v := .pointer (some ⟨B, 0, none⟩)) (i := 2) rfl (by decide) (by kernel_rfl) (by kernel_rfl) (by kernel_rfl) (fun _ _ _ h => h) (.inl ⟨by kernel_rfl, fun W hS => run_load_one 23 (.tmp 48) rfl ⟨bx + 1, 1, none⟩ (by kernel_rfl) _ hS.1 _ Try.underlying23 rfl⟩) S0 ?_
              refine wpAnyT_takeN (v := .pointer (some ⟨bx, 0, none⟩)) (i := 3) rfl (by decide) (by kernel_rfl) (by kernel_rfl) (by kernel_rfl) (fun _ _ _ h => h) (.inl ⟨by kernel_rfl, fun W hS => by kernel_rfl⟩) S0 ?_
              refine wpAnyT_takeN (v := .int .u8 (x.at_ : Int)) (i := 4) rfl (by decide) (by kernel_rfl) (by kernel_rfl) (by kernel_rfl) (fun _ _ _ h => h) (.inl ⟨by kernel_rfl, fun W hS => run_load_one 5 (.tmp 50) rfl ⟨bx, 0, none⟩ (by kernel_rfl) _ hS.2.1 _ Try.underlying5 rfl⟩) S0 ?_
              refine wpAnyT_takeN (v := .int .u8 ((x.at_ % 4 : Nat) : Int)) (i := 5) rfl (by decide) (by kernel_rfl) (by kernel_rfl) (by kernel_rfl) (fun _ _ _ h => h) (.inl ⟨by kernel_rfl, fun W hS => run_rem4 (.tmp 51) 5 5 Try.underlying5 rfl x.at_ (by kernel_rfl)⟩) S0 ?_
              refine wpAnyT_takeN (v := .int .i64 ((x.at_ % 4 : Nat) : Int)) (i := 6) rfl (by decide) (by kernel_rfl) (by kernel_rfl) (by kernel_rfl) (fun _ _ _ h => h) (.inl ⟨by kernel_rfl, fun W hS => run_cv (.tmp 52) rfl (x.at_ % 4) (by omega) (by kernel_rfl)⟩) S0 ?_
              refine wpAnyT_takeN (v := .pointer (some ⟨bx, 1, none⟩)) (i := 7) rfl (by decide) (by kernel_rfl) (by kernel_rfl) (by kernel_rfl) (fun _ _ _ h => h) (.inl ⟨by kernel_rfl, fun W hS => by kernel_rfl⟩) S0 ?_
              refine wpAnyT_takeN (v := .int .u8 (x.b.toNat : Int)) (i := 8) rfl (by decide) (by kernel_rfl) (by kernel_rfl) (by kernel_rfl) (fun _ _ _ h => h) (.inl ⟨by kernel_rfl, fun W hS => run_load_one 5 (.tmp 54) rfl ⟨bx, 1, none⟩ (by kernel_rfl) _ hS.2.2 _ Try.underlying5 rfl⟩) S0 ?_
              refine wpAnyT_all (rs := [9]) (by kernel_rfl) (by simp) ?_
              intro i hi
              obtain rfl : i = 9 := by simpa using hi
              refine wpOp_call rfl (by kernel_rfl) 21 #[.int .i64 128, .int .u8 (x.b.toNat : Int)] (run_call_func rfl enter_bytes _ (by kernel_rfl)) ?_
              refine (bytes_any 128 x.b 128 (by decide) _).mono ?_
              rintro e w4 ⟨rfl, b4⟩
              refine ⟨_, rfl, fun _ => keep3 S0 b4, ?_⟩
              refine wpAnyT_all (rs := [10]) (by kernel_rfl) (by simp) ?_
              intro i hi
              obtain rfl : i = 10 := by simpa using hi
              refine wpOp_call rfl (by kernel_rfl) 22 #[.pointer (some ⟨B, 0, none⟩), .int .i64 ((x.at_ % 4 : Nat) : Int), .string (bs (List.replicate 128 x.b))] (run_call_func rfl enter_Write _ (by kernel_rfl)) ?_
              refine (r_write (w0 := w) (av := fun i => i = bx ∨ i = bx + 1) (n := 4) (D := B) (s := sb) (Y := theDisk 4 A (sa.does x)) (theDisk_stable _ _ _) (HPD.out.below (theDisk_stable _ _ _) (theDisk_stable _ _ _) b4).1 ((x.at_ % 4 : Nat) : Int) (List.replicate 128 x.b) ob wb (by simp)).mono ?_
              rintro e v5 ⟨rfl, hp, hk⟩
              have hk0 : Keeps (fun i => i = bx ∨ i = bx + 1) wr v5 := Keeps.trans (v := wr.drew) (fun _ _ => rfl) (Keeps.trans (HPD.out.below (theDisk_stable _ _ _) (theDisk_stable _ _ _) b4).2 hk)
              refine ⟨_, rfl, fun _ => ⟨(hk0.at HDq.out (.inr rfl)).cell 1 _ rfl, (hk0.at HXq.out (.inl rfl)).cell 0 _ rfl, (hk0.at HXq.out (.inl rfl)).cell 1 _ rfl⟩, wpAnyT_done (by kernel_rfl) ?_ _⟩
              clear hk0
              have hpe : Pair (theDisk 4 A (stA sa x 2)) (theDisk 4 B (stB sb x 2)) w v5 (fun i => i = bx ∨ i = bx + 1) := by
                show Pair (theDisk 4 A (sa.does x)) (theDisk 4 B (sb.does x)) w v5 (fun i => i = bx ∨ i = bx + 1)
                rw [HDX.out]
                exact hp
              have HPE := Lib.hid hpe
              have hke := Keeps.trans (HPD.out.below (theDisk_stable _ _ _) (theDisk_stable _ _ _) b4).2 hk
              have HKE := Lib.hid (Keeps.trans (u := wr) (v := wr.drew) (fun _ _ => rfl) hke)
              clear hp hk hpe hke S0 b4 HPD
              simp only [Act.put, List.setIfInBounds_toArray, List.set_cons_zero, List.set_cons_succ]
              go_wp2
              go_roundw
              case rel => exact ⟨2, by omega, by go_num, HPE.out, HKE.out.at HXq.out (.inl rfl), HKE.out.at HDq.out (.inr rfl)⟩
              case measure => simp [intOf]
            · have hdx : sb.does x = sb.flushD := by unfold Dk.does; rw [if_neg (by simp [hf0]), hfl2]; rfl
              have HDX := Lib.hid hdx
              rw [hfl2] at c2
              clear hdx hfl2 hf0
              go_wp2_with fail
              refine (r_flush (theDisk_stable _ _ _) HPs.out ob wb).mono ?_
              rintro e v3 ⟨rfl, hp, hk⟩
              have hpe : Pair (theDisk 4 A (stA sa x 2)) (theDisk 4 B (stB sb x 2)) w v3 (fun i => i = bx ∨ i = bx + 1) := by
                show Pair (theDisk 4 A (sa.does x)) (theDisk 4 B (sb.does x)) w v3 (fun i => i = bx ∨ i = bx + 1)
                rw [HDX.out]
                exact hp
              have HPE := Lib.hid hpe
              have HKE := Lib.hid hk
              clear hp hk hpe
              go_wp2
              go_roundw
              case rel => exact ⟨2, by omega, by go_num, HPE.out, HKE.out.at HXq.out (.inl rfl), HKE.out.at HDq.out (.inr rfl)⟩
              case measure => simp [intOf]
        · have hPs : Pair (theDisk 4 A (sa.does x)) (theDisk 4 B (sb.does x)) w wr (fun i => i = bx ∨ i = bx + 1) := HPq.out
          have hPs2 := hPs.more (av2 := none_) (fun _ h => h.elim)
          have HPs := Lib.hid hPs2
          have HT2 := Lib.hid (HTW.out.does x)
          clear hPs hPs2 c0 c1 c2 c3 d0 d1 HDq HXq HPq
          generalize sa.does x = ta at *
          generalize sb.does x = tb at *
          have oa2 : ta.ops < 9223372036854775807 := by have := HT2.out.a.ops; omega
          by_cases hr : k < rl
          · obtain ⟨y, hy, m, hm, hcm⟩ := HR.out k hr
            subst hy
            have hcm2 := cell_below HPs.out.bel hcm
            have hr1 : decide ((k : Int) < (rl : Int)) = true := decide_eq_true (by omega)
            have hr2 : (k : Int) < (rl : Int) := by omega
            have hm2 : (m : Int) < 256 := by omega
            clear hcm
            go_wp2_with fail
            refine (l_read (theDisk_stable _ _ _) HPs.out ((m : Int) % 5) oa2).mono ?_
            rintro e v2 ⟨rfl, hp, hk⟩
            have HPE := Lib.hid hp
            have HTE := Lib.hid (HT2.out.read ((m : Int) % 5))
            generalize ta.readD 4 ((m : Int) % 5) = tc at *
            clear hp hk
            go_wp2
            go_roundw
            case rel => exact ⟨k + 1, tc, tb, by omega, by omega, by go_num, HTE.out.mono (by omega), HPE.out⟩
            case measure => simp [intOf]; omega
          · have hr1 : decide ((k : Int) < (rl : Int)) = false := decide_eq_false (by omega)
            have hr2 : ¬ (k : Int) < (rl : Int) := by omega
            go_wp2
            go_roundw
            case rel => exact ⟨k + 1, ta, tb, by omega, by omega, by go_num, HT2.out.mono (by omega), HPs.out⟩
            case measure => simp [intOf]; omega
    · have hex : len ≤ k ∨ (k < len ∧ 100 ≤ k) := by omega
      have hd : decide (k < len) = false ∨ (decide (k < len) = true ∧ decide ((k : Int) < 100) = false) := by
        rcases hex with h | ⟨h, h2⟩
        · exact .inl (decide_eq_false (by omega))
        · exact .inr ⟨decide_eq_true (by omega), decide_eq_false (by omega)⟩
      have hop := HTW.out.a.ops
      clear hlt hex
      rcases hd with d1 | ⟨d1, d2⟩
      all_goals
        go_wp2_with fail
        obtain ⟨wo, hwo⟩ : ∃ wo, wo = wr := ⟨_, rfl⟩
        rw [← hwo] at HPP
        rw [← hwo]
        clear hwo d1
        go_loopw [11] (fun y wx => ∃ (i : Nat) (ta tb : Dk), i ≤ 4 ∧ y = .int .i64 i ∧ Twin (2 * k + i) ta tb ∧ Pair (theDisk 4 A ta) (theDisk 4 B tb) w wx none_) (fun y _ => 4 - (intOf y).toNat)
        case atStart => exact ⟨0, sa, sb, by omega, rfl, HTW.out, HPP.out⟩
        clear HPP HTW
        case round =>
          obtain ⟨i, ta, tb, hi, rfl, htw, hP⟩ := hrel
          have HTW := Lib.hid htw
          have HPi := Lib.hid hP
          clear htw hP
          by_cases hi4 : i < 4
          · have hi5 : (i : Int) < 4 := by omega
            have oa2 : ta.ops < 9223372036854775807 := by have := HTW.out.a.ops; omega
            have ob2 : tb.ops < 9223372036854775807 := by have := HTW.out.b.ops; omega
            obtain ⟨q1, q2, q3⟩ := HTW.out.both (i : Int)
            have cl := fun (v : World) (h : Pair (theDisk 4 A ta) (theDisk 4 B tb) w v none_) => l_read (theDisk_stable _ _ _) h (i : Int) oa2
            have cr := fun (v : World) (h : Pair (theDisk 4 A (ta.readD 4 (i : Int))) (theDisk 4 B tb) w v none_) => r_read (theDisk_stable _ _ _) h (i : Int) ob2
            rw [q1, q2] at cl
            have CL := Lib.hid cl
            have CR := Lib.hid cr
            have HT2 := Lib.hid q3
            clear cl cr q1 q2 q3
            generalize ta.readD 4 (i : Int) = tc at *
            generalize tb.readD 4 (i : Int) = td at *
            generalize tb.readS 4 (i : Int) = sS at *
            generalize tb.readE 4 (i : Int) = sE at *
            go_wp2_with fail
            refine (CL.out _ HPi.out).mono ?_
            rintro e v2 ⟨rfl, hp, hk⟩
            have HP2 := Lib.hid hp
            clear hp hk
            go_wp2_with fail
            refine (CR.out _ HP2.out).mono ?_
            rintro e v3 ⟨rfl, hp, hk⟩
            have HP3 := Lib.hid hp
            clear hp hk
            go_wp2
            go_roundw
            case rel => exact ⟨i + 1, tc, td, by omega, by go_num, HT2.out.mono (by omega), HP3.out⟩
            case measure => simp [intOf]; omega
          · obtain rfl : i = 4 := by omega
            have oa3 := HTW.out.a.ops
            have hge := HTW.out.ops
            have hgi : decide ((tb.ops : Int) ≤ (ta.ops : Int)) = true := by simp; omega
            have hgi2 : (tb.ops : Int) ≤ (ta.ops : Int) := by omega
            go_wp2_with fail
            refine (l_ops HPi.out).mono ?_
            rintro e v2 ⟨rfl, rfl⟩
            go_wp2_with fail
            refine (r_ops HPi.out).mono ?_
            rintro e v3 ⟨rfl, rfl⟩
            go_wp2
            go_ret
            exact ⟨ret_of (by simp), HPi.out.bel⟩
end Go.Proofs.Ytcmojlfhkbkfcaa
