/- Pa, Pb, Pc, Pd, Pe, Pf, one behind the other. -/
import Derived.Test.YtdpeblchndfdaaaMza
import Derived.Test.YtdpeblchndfdaaaW5
import Derived.Test.YtdpeblchndfdaaaW6
namespace Go.Proofs.Ytdpeblchndfdaaa
open Go.RowKit Go.ChangeShapes Go.WideShapes Go.Deep
set_option maxRecDepth 100000
/-- no name, no data are longer than a text may be, so many levels down -/
def NamB : Nat → Nd → Prop
  | 0, _ => True
  | h + 1, n => n.name.length ≤ maxLen ∧ n.data.length ≤ maxLen ∧ ∀ m ∈ n.kids, NamB h m
theorem NamB.leaf (nm : List UInt8) (k : Int) (e : Bool) (d : List UInt8) (h : nm.length ≤ maxLen) (hd : d.length ≤ maxLen) : ∀ j, NamB j ⟨nm, k, e, d, []⟩
  | 0 => trivial
  | _ + 1 => ⟨h, hd, fun m hm => by cases hm⟩
theorem short_namB : ∀ (j l : Nat) (n : Nd), (∀ k, NamB k n) → NamB j (shortL l n)
  | 0, _, _, _ => trivial
  | j + 1, 0, n, h => ⟨(h 1).1, by show (n.data.take 300).length ≤ maxLen; rw [List.length_take]; have := (h 1).2.1; omega, fun m hm => by cases hm⟩
  | j + 1, l + 1, n, h => ⟨(h 1).1, by show (n.data.take 300).length ≤ maxLen; rw [List.length_take]; have := (h 1).2.1; omega, fun m hm => by
    have hm' : m ∈ (n.kids.take 20).map (shortL l) := hm
    obtain ⟨x, hx, rfl⟩ := List.mem_map.mp hm'
    exact short_namB j l x (fun k => (h (k + 1)).2.2 x (List.mem_of_mem_take hx))⟩
section
variable {H : Type} {enc : TypeId × Value → H} {w : World} {base : Nat} {spare : Nat → Bool} {held : Bool}
theorem open_nd2 : ∀ (fuel : Nat) (cs : List Value) (x : DataW H × List MemPlace), DataW.trod enc Try.prog w base spare held fuel 24 cs = some x → ∃ (n : Nd) (ao : Option Addr) (cap : Nat), cs = n.cells ao cap ∧ Has any_ w fuel n ao ∧ ∀ k, NamB k n := by
  intro fuel
  induction fuel using Nat.strongRecOn with
  | ind fuel ih =>
    intro cs x h
    obtain ⟨fs, hu, hone, hty⟩ := nd_hone
    obtain ⟨xs, n, rfl, _, hcl, hxl, hf⟩ := DataW.trod_struct hu h
    rw [nd_size] at hcl
    have hsz : fs.size = 5 := by have := congrArg Array.size hty; simpa using this
    match cs, hcl with
    | [c0, c1, c2, c3, c4], _ =>
    have fld : ∀ (j : Nat) (hj : j < 5) (t : TypeId) (c : Value), #[9, 3, 4, 9, 22][j]? = some t → [c0, c1, c2, c3, c4][j]? = some c → ∃ y, DataW.trod enc Try.prog w base spare held n t [c] = some y := fun j hj t c ht hc => by
      have hjs : j < fs.size := by omega
      have hfj : fs[j]? = some fs[j] := Array.getElem?_eq_getElem hjs
      obtain ⟨ho, hk⟩ := hone_of hone j _ hfj
      have h1 := hf j _ hfj
      rw [ho, hk] at h1
      have htt : fs[j].type = t := by
        have := congrArg (fun a => a[j]?) hty
        simp only [Array.getElem?_map, hfj, Option.map_some] at this
        rw [ht] at this
        exact Option.some.inj this
      have hd : ([c0, c1, c2, c3, c4].drop j).take 1 = [c] := by
        rw [List.drop_eq_getElem_cons (by simpa using hj)]
        have : [c0, c1, c2, c3, c4][j]'(by simpa using hj) = c := by
          have := List.getElem?_eq_getElem (l := [c0, c1, c2, c3, c4]) (i := j) (by simpa using hj)
          rw [hc] at this
          exact (Option.some.inj this).symm
        rw [this]
        rfl
      rw [hd, htt] at h1
      have hys : xs[j]? = some (xs[j]'(by omega)) := List.getElem?_eq_getElem (by omega)
      exact ⟨_, h1.trans hys⟩
    obtain ⟨y0, h0⟩ := fld 0 (by omega) 9 c0 rfl rfl
    obtain ⟨y1, h1⟩ := fld 1 (by omega) 3 c1 rfl rfl
    obtain ⟨y2, h2⟩ := fld 2 (by omega) 4 c2 rfl rfl
    obtain ⟨y3, h3⟩ := fld 3 (by omega) 9 c3 rfl rfl
    obtain ⟨y4, h4⟩ := fld 4 (by omega) 22 c4 rfl rfl
    obtain ⟨s0, e0, _, l0⟩ := DataW.trod_string Try.underlying9 h0
    obtain ⟨k1, e1, _, _⟩ := DataW.trod_int Try.underlying3 h1
    obtain ⟨b2, e2, _⟩ := DataW.trod_bool Try.underlying4 h2
    obtain ⟨s3, e3, _, l3⟩ := DataW.trod_string Try.underlying9 h3
    have hs0 : s0.data.toList.length ≤ maxLen := by simpa using l0
    have hs3 : s3.data.toList.length ≤ maxLen := by simpa using l3
    simp only [List.cons.injEq, and_true] at e0 e1 e2 e3
    subst e0 e1 e2 e3
    rcases DataW.trod_slice Try.underlying22 h4 with ⟨e4, _⟩ | ⟨a, len, cap, elems, rest, n', hn, e4, _, _, hl, hm, hel, hall, _⟩
    · simp only [List.cons.injEq, and_true] at e4
      subst e4
      exact ⟨⟨s0.data.toList, k1, b2, s3.data.toList, []⟩, none, 0, by show _ = [Value.string (bs s0.data.toList), _, _, .string (bs s3.data.toList), _]; rw [← bsd s0, ← bsd s3]; rfl, Has.leaf _ _ _ _ _ rfl, NamB.leaf _ _ _ _ hs0 hs3⟩
    · simp only [List.cons.injEq, and_true] at e4
      subst e4
      obtain ⟨ks, hkl, hk⟩ := list_of_all (p := fun i (m : Nd) => ∃ g c, Kid w a i (m.cells g c) ∧ Has any_ w n m g ∧ ∀ k, NamB k m) len (fun i hi => by
        have hb := hall i hi
        rw [nd_size] at hb
        rw [List.getElem?_eq_getElem (by omega)] at hb
        obtain ⟨cs', hc, ht⟩ := Option.bind_eq_some_iff.1 hb
        obtain ⟨m, g, c, rfl, hH, hNm⟩ := ih n' (by omega) cs' _ ht
        obtain ⟨_, hcl', hat⟩ := World.cells?_some hc
        refine ⟨m, g, c, fun j v hj => ?_, hH.ups (by omega), hNm⟩
        rw [hat j (by have := (List.getElem?_eq_some_iff.1 hj).1; simpa [Nd.cells] using this)]
        exact hj)
      refine ⟨⟨s0.data.toList, k1, b2, s3.data.toList, ks⟩, some a, cap, by show _ = [Value.string (bs s0.data.toList), _, _, .string (bs s3.data.toList), .slice (some a) ks.length cap]; rw [← bsd s0, ← bsd s3, hkl]; rfl, ⟨by show ks.length ≤ maxLen; omega, fun i m hi => ?_⟩, fun j => ?_⟩
      · obtain ⟨g, c, hK, hH, _⟩ := hk i m hi
        exact ⟨a, g, c, rfl, trivial, hK, hH⟩
      · cases j with
        | zero => trivial
        | succ j =>
          refine ⟨hs0, hs3, fun m hm => ?_⟩
          obtain ⟨i, hi⟩ := List.getElem?_of_mem hm
          obtain ⟨g, c, hK, hH, hNm⟩ := hk i m hi
          exact hNm j
theorem open_node2 {r : Reach} {b0 : Nat} {v : Value} {d : DataW H} {ps : List MemPlace} (hv : Value.okWide Try.prog w r b0 24 v) (h : DataW.Trod enc Try.prog w base spare held 24 v d ps) :
    ∃ (n : Nd) (ao : Option Addr) (cap h : Nat), v = n.v ao cap ∧ Has any_ w h n ao ∧ ∀ k, NamB k n := by
  obtain ⟨fs, hu, _, _⟩ := nd_hone
  obtain ⟨cs, rfl, _⟩ := okWide_struct hu hv
  obtain ⟨fuel, hf⟩ := h
  obtain ⟨n, ao, cap, e, hH, hN⟩ := open_nd2 fuel _ _ hf
  refine ⟨n, ao, cap, fuel, ?_, hH, hN⟩
  have e2 : cs.toList = n.cells ao cap := e
  unfold Nd.v
  rw [← e2]
end
theorem nameOk_zero {s : List UInt8} (h : nameOk s = true) : (0 : UInt8) ∉ s := by
  unfold nameOk textOk at h
  simp only [Bool.and_eq_true, decide_eq_true_eq, Bool.not_eq_true'] at h
  obtain ⟨⟨h1, h2, h3⟩, _⟩ := h
  intro hm
  rw [List.contains_iff_mem.mpr hm] at h3
  cases h3
set_option maxHeartbeats 4000000 in
theorem rname_any (s : List UInt8) (w : World) (hs : s.length ≤ maxLen) : Calls Try.prog 79 #[.string (bs s)] w fun e w' => e = .returned (.bool (nameOk s)) ∧ w' = w := by
  unfold maxLen at hs
  obtain ⟨R, hR⟩ : ∃ R, R = nameOk s := ⟨_, rfl⟩
  rw [← hR]
  have HR := Lib.hid hR
  clear hR
  go_enter Try.func79, Try.ntmps79
  go_wp2_with fail
  go_loopw [3] (fun i wx => ∃ k : Nat, k ≤ s.length ∧ i = .int .i64 k ∧ (∀ j c, j < k → s[j]? = some c → c ≠ 47 ∧ c ≠ 0) ∧ wx = w) (fun i _ => s.length - (intOf i).toNat)
  case atStart => exact ⟨0, Nat.zero_le _, rfl, fun j c hj => by omega, rfl⟩
  case round =>
    obtain ⟨k, hk, rfl, hall, rfl⟩ := hrel
    have HALL := Lib.hid hall
    clear hall
    by_cases hlt : k < s.length
    · have hlt' : (k : Int) < s.length := by omega
      obtain ⟨c, hc⟩ : ∃ c, s[k]? = some c := ⟨_, List.getElem?_eq_getElem hlt⟩
      have HC := Lib.hid hc
      clear hc
      by_cases h47 : c = 47
      · have hcn : ((c.toNat : Int) == 47) = true := by rw [h47]; rfl
        have hres : R = false := by
          rw [HR.out]
          cases hq : nameOk s
          · rfl
          · exact absurd (h47 ▸ List.mem_of_getElem? HC.out) (nameOk_len hq).2.2
        have HRES := Lib.hid hres
        clear h47 hres
        go_wp2_with ((with_reducible refine hold_at 12 rfl ?_); unfold held; refine index_str_g (by kernel_rfl) (.tmp 10) (.tmp 11) rfl s k c (by kernel_rfl) (by kernel_rfl) HC.out ?_)
        go_ret
        exact ⟨by rw [HRES.out]; rfl, rfl⟩
      · have hcn : ((c.toNat : Int) == 47) = false := by
          have : c.toNat ≠ 47 := fun e => h47 (UInt8.toNat_inj.mp (by simpa using e))
          simp
          omega
        by_cases h0 : c = 0
        · have hcz : ((c.toNat : Int) == 0) = true := by rw [h0]; rfl
          have hres : R = false := by
            rw [HR.out]
            cases hq : nameOk s
            · rfl
            · exact absurd (h0 ▸ List.mem_of_getElem? HC.out) (nameOk_zero hq)
          have HRES := Lib.hid hres
          clear h47 h0 hres
          go_wp2_with (first
            | ((with_reducible refine hold_at 12 rfl ?_); unfold held; refine index_str_g (by kernel_rfl) (.tmp 10) (.tmp 11) rfl s k c (by kernel_rfl) (by kernel_rfl) HC.out ?_)
            | ((with_reducible refine hold_at 17 rfl ?_); unfold held; refine index_str_g (by kernel_rfl) (.tmp 15) (.tmp 16) rfl s k c (by kernel_rfl) (by kernel_rfl) HC.out ?_))
          go_ret
          exact ⟨by rw [HRES.out]; rfl, rfl⟩
        · have hcz : ((c.toNat : Int) == 0) = false := by
            have : c.toNat ≠ 0 := fun e => h0 (UInt8.toNat_inj.mp (by simpa using e))
            simp
            omega
          have hall2 : ∀ j d, j < k + 1 → s[j]? = some d → d ≠ 47 ∧ d ≠ 0 := fun j d hj hd => by
            by_cases e : j = k
            · subst e
              rw [HC.out] at hd
              cases hd
              exact ⟨h47, h0⟩
            · exact HALL.out j d (by omega) hd
          have HALL2 := Lib.hid hall2
          clear h47 h0 hall2
          go_wp2_with (first
            | ((with_reducible refine hold_at 12 rfl ?_); unfold held; refine index_str_g (by kernel_rfl) (.tmp 10) (.tmp 11) rfl s k c (by kernel_rfl) (by kernel_rfl) HC.out ?_)
            | ((with_reducible refine hold_at 17 rfl ?_); unfold held; refine index_str_g (by kernel_rfl) (.tmp 15) (.tmp 16) rfl s k c (by kernel_rfl) (by kernel_rfl) HC.out ?_))
          go_roundw
          case rel => exact ⟨k + 1, by omega, by go_num, HALL2.out, by first | rfl | trivial⟩
          case measure => simp [intOf] <;> omega
    · obtain rfl : k = s.length := by omega
      have hno : s.contains 47 = false ∧ s.contains 0 = false := by
        constructor
        · cases hq : s.contains 47
          · rfl
          · obtain ⟨i, hi⟩ := List.getElem?_of_mem (List.contains_iff_mem.mp hq)
            exact absurd rfl (HALL.out i 47 (List.getElem?_eq_some_iff.1 hi).1 hi).1
        · cases hq : s.contains 0
          · rfl
          · obtain ⟨i, hi⟩ := List.getElem?_of_mem (List.contains_iff_mem.mp hq)
            exact absurd rfl (HALL.out i 0 (List.getElem?_eq_some_iff.1 hi).1 hi).2
      have hres : R = (decide (1 ≤ s.length) && (decide (s.length ≤ 56) && ((s != [46]) && (s != [46, 46])))) := by
        rw [HR.out]
        unfold nameOk textOk
        rw [hno.1, hno.2]
        cases s with
        | nil => rfl
        | cons a r => simp [bne]
      have HRES := Lib.hid hres
      clear hno hres HALL
      by_cases h1 : 1 ≤ s.length
      · have h1' : (1 : Int) ≤ s.length := by omega
        by_cases h56 : s.length ≤ 56
        · have h56' : (s.length : Int) ≤ 56 := by omega
          cases a1 : (s == [46])
          · cases a2 : (s == [46, 46])
            · go_wp2_with fail
              go_ret
              refine ⟨?_, rfl⟩
              rw [HRES.out]
              simp [bne, a1, a2, h1, h56]
            · go_wp2_with fail
              go_ret
              refine ⟨?_, rfl⟩
              rw [HRES.out]
              simp [bne, a1, a2, h1, h56]
          · go_wp2_with fail
            go_ret
            refine ⟨?_, rfl⟩
            rw [HRES.out]
            simp [bne, a1, h1, h56]
        · have h56' : ¬ (s.length : Int) ≤ 56 := by omega
          go_wp2_with fail
          go_ret
          refine ⟨?_, rfl⟩
          rw [HRES.out]
          simp [h56]
      · have h1' : ¬ (1 : Int) ≤ s.length := by omega
        go_wp2_with fail
        go_ret
        refine ⟨?_, rfl⟩
        rw [HRES.out]
        simp [h1]
end Go.Proofs.Ytdpeblchndfdaaa

namespace Go.Proofs.Ytdpeblchndfdaaa
open Go.RowKit
set_option maxRecDepth 100000
theorem enters_rname : ∀ args w, (callFunc 79 args).run Try.prog w = .ok (.enter 79 args) w := enters_of Try.func79 (by kernel_rfl) rfl
theorem enters_rmay : ∀ args w, (callFunc 49 args).run Try.prog w = .ok (.enter 49 args) w := enters_of Try.func49 (by kernel_rfl) rfl
theorem run_geq_op {o : Oper} {a : Act} {w : World} (x y : Operand) (ho : o.op = .binOp .geq 9 x y 9) (p q : List UInt8) (r : Bool) (hr : Op.bytesLess p q = !r) (hx : a.eval x = .string (bs p)) (hy : a.eval y = .string (bs q)) :
    (execOp a.eval o).run Try.prog w = .ok (.value (.bool r)) w := by
  unfold execOp
  simp only [ho, hx, hy]
  cases r <;> simp [go_sem, Op.stringOp, bs_toList', hr]
theorem run_gtr0_op {o : Oper} {a : Act} {w : World} (x : Operand) (ho : o.op = .binOp .gtr 3 x (.const (.int .i64 0)) 3) (k : Nat) (b : Bool) (hb : decide ((0 : Int) < (k : Int)) = b) (hx : a.eval x = .int .i64 (k : Int)) :
    (execOp a.eval o).run Try.prog w = .ok (.value (.bool b)) w := by
  have hc : a.eval (.const (.int .i64 0)) = .int .i64 0 := rfl
  unfold execOp
  simp only [ho, hx, hc]
  subst hb
  simp [go_sem]
theorem run_dec_op {o : Oper} {a : Act} {w : World} (x : Operand) (ho : o.op = .binOp .sub 3 x (.const (.int .i64 1)) 3) (q : Nat) (hq : q < 9223372036854775807) (hx : a.eval x = .int .i64 ((q + 1 : Nat) : Int)) :
    (execOp a.eval o).run Try.prog w = .ok (.value (.int .i64 (q : Int))) w := by
  have hc : a.eval (.const (.int .i64 1)) = .int .i64 1 := rfl
  have e : IntKind.i64.wrap (((q + 1 : Nat) : Int) - 1) = (q : Int) := by rw [IntKind.wrap_i64]; omega
  unfold execOp
  simp only [ho, hx, hc]
  have e2 : IntKind.i64.wrap (q : Int) = (q : Int) := by rw [IntKind.wrap_i64]; omega
  generalize ((q + 1 : Nat) : Int) - 1 = z at *
  simp [go_sem, e, e2]
theorem kidsOk_bad {f : Nd → Bool} {ks : List Nd} {i : Nat} {m : Nd} (hm : ks[i]? = some m) (h : kidOk f ks i m = false) : kidsOk f ks = false := by
  cases hq : kidsOk f ks
  · rfl
  · unfold kidsOk at hq
    rw [List.all_eq_true] at hq
    have := hq (m, i) (by rw [List.mem_zipIdx_iff_getElem?]; exact hm)
    simp only [] at this
    rw [h] at this
    cases this
theorem kidsOk_good {f : Nd → Bool} {ks : List Nd} (h : ∀ i m, ks[i]? = some m → kidOk f ks i m = true) : kidsOk f ks = true := by
  unfold kidsOk
  rw [List.all_eq_true]
  rintro ⟨m, i⟩ hp
  exact h i m (by simpa using List.mem_zipIdx_iff_getElem?.mp hp)
set_option maxHeartbeats 8000000 in
theorem rmay_any : ∀ (h : Nat) (n : Nd) (ao : Option Addr) (cap : Nat) (w : World), Has any_ w h n ao → (∀ j, NamB j n) →
    Calls Try.prog 49 #[n.v ao cap] w fun e w' => e = .returned (.bool (mayL h n)) ∧ Below w.heap.size w w' := by
  intro h
  induction h with
  | zero => intro n ao cap w hH; exact hH.elim
  | succ h ih =>
    intro n ao cap w hH hN
    have IH : Hid (∀ (m : Nd) (g : Option Addr) (c : Nat) (w : World), Has any_ w h m g → (∀ j, NamB j m) → Calls Try.prog 49 #[m.v g c] w fun e w' => e = .returned (.bool (mayL h m)) ∧ Below w.heap.size w w') := Lib.hid ih
    have HH := Lib.hid hH
    have HNB0 := Lib.hid hN
    clear ih hH hN
    cases n with
    | mk nm kd ex dt ks =>
    obtain ⟨R, hR⟩ : ∃ R, R = mayL (h + 1) ⟨nm, kd, ex, dt, ks⟩ := ⟨_, rfl⟩
    rw [← hR]
    change R = (if kd = 1 then ks.isEmpty else if kd = 2 then !ex && (dt.isEmpty && kidsOk (mayL h) ks) else if kd = 3 then !ex && (ks.isEmpty && textOk dt 255) else false) at hR
    have hdl : dt.length ≤ maxLen := (HNB0.out 1).2.1
    have hkl : ks.length ≤ maxLen := HH.out.1
    unfold maxLen at hdl hkl
    go_enter Try.func49, Try.ntmps49
    by_cases k1 : kd = 1
    · subst k1
      rw [if_pos rfl] at hR
      have HR := Lib.hid hR
      clear hR
      go_wp2_with (with_reducible refine box_any rfl 24 (.tmp 0) rfl [.string (bs nm), .int .i64 1, .bool ex, .string (bs dt), .slice ao ks.length cap] rfl ?_; intro u hu bu zu; have c1 := hu.cell 1 _ rfl; have c4 := hu.cell 4 _ rfl; have BU := Lib.hid bu; clear hu bu)
      go_ret
      refine ⟨?_, BU.out⟩
      rw [HR.out]
      cases ks with
      | nil => rfl
      | cons a r => simp; omega
    rw [if_neg k1] at hR
    by_cases k2 : kd = 2
    · subst k2
      rw [if_pos rfl] at hR
      have HR := Lib.hid hR
      clear hR k1
      go_wp2_with (with_reducible refine box_any rfl 24 (.tmp 0) rfl [.string (bs nm), .int .i64 2, .bool ex, .string (bs dt), .slice ao ks.length cap] rfl ?_; intro u hu bu zu; have c1 := hu.cell 1 _ rfl; have HU := Lib.hid hu; have BU := Lib.hid bu; clear hu bu)
      have HKS := Lib.hid HH.out.2
      go_loopw [4] (fun i wx => ∃ k : Nat, k ≤ ks.length ∧ i = .int .i64 k ∧ (∀ i m, i < k → ks[i]? = some m → kidOk (mayL h) ks i m = true) ∧ At wx w.heap.size 24 [.string (bs nm), .int .i64 2, .bool ex, .string (bs dt), .slice ao ks.length cap] ∧ Below w.heap.size w wx) (fun i _ => ks.length - (intOf i).toNat)
      case atStart => exact ⟨0, Nat.zero_le _, rfl, fun i m hi => by omega, HU.out, BU.out⟩
      clear HU BU c1
      case round =>
        obtain ⟨k, hk, rfl, hall, hA, hB⟩ := hrel
        have c4 := hA.cell 4 _ rfl
        have HALL := Lib.hid hall
        have HA := Lib.hid hA
        have HB := Lib.hid hB
        have hwz := hB.size
        clear hall hA hB
        by_cases hlt : k < ks.length
        · have hlt' : (k : Int) < ks.length := by omega
          obtain ⟨m, hm⟩ : ∃ m, ks[k]? = some m := ⟨_, List.getElem?_eq_getElem hlt⟩
          obtain ⟨x, g, c, rfl, _, hKi, hMi⟩ := HKS.out k m hm
          have HKi := Lib.hid (hKi.kept (HB.out.block x.block hKi.lt))
          have HMi := Lib.hid (hMi.below HB.out)
          have HMM := Lib.hid hm
          have hmem := List.mem_of_getElem? hm
          have HNB := Lib.hid (fun j => (HNB0.out (j + 1)).2.2 m hmem)
          have HNM := Lib.hid (show m.name.length ≤ maxLen from ((HNB0.out 2).2.2 m hmem).1)
          clear hKi hMi hm hmem
          go_wp2_with fail
          refine region_any (fun W => Below wr.heap.size wr W) 37 (by kernel_rfl) ?_
          show wpAnyT _ _ _ _ _ _ _ _ _ wr.drew
          have S0 : Below wr.heap.size wr wr.drew := below_drewN wr 1
          generalize wr.drew = v0 at S0 ⊢
          refine wpAnyT_takeN (i := 0) (v := .pointer (some ⟨w.heap.size, 4, none⟩)) rfl (by decide) (by kernel_rfl) (by kernel_rfl) (by kernel_rfl) (fun _ _ _ h => h) (.inl ⟨by kernel_rfl, fun W hS => by kernel_rfl⟩) S0 ?_
          refine wpAnyT_takeN (i := 1) (v := .slice (some x) ks.length cap) rfl (by decide) (by kernel_rfl) (by kernel_rfl) (by kernel_rfl) (fun _ _ _ h => h) (.inl ⟨by kernel_rfl, fun W hS => run_load_one 22 (.tmp 57) rfl ⟨w.heap.size, 4, none⟩ (by kernel_rfl) _ ((HA.out.below hS HA.out.lt).cell 4 _ rfl) _ Try.underlying22 rfl⟩) S0 ?_
          refine wpAnyT_takeN (i := 2) (v := .int .i64 (k : Int)) rfl (by decide) (by kernel_rfl) (by kernel_rfl) (by kernel_rfl) (fun _ _ _ h => h) (.inl ⟨by kernel_rfl, fun W hS => by kernel_rfl⟩) S0 ?_
          refine wpAnyT_takeN (i := 3) (v := .pointer (some (x.add (k * 5)))) rfl (by decide) (by kernel_rfl) (by kernel_rfl) (by kernel_rfl) (fun _ _ _ h => h) (.inl ⟨by kernel_rfl, fun W hS => run_index_op 22 24 (.tmp 58) (.tmp 59) rfl x ks.length cap k (by kernel_rfl) (by kernel_rfl) hlt 5 _ rfl Try.underlying22 info_nd⟩) S0 ?_
          refine wpAnyT_takeN (i := 4) (v := .pointer (some ((x.add (k * 5)).add 0))) rfl (by decide) (by kernel_rfl) (by kernel_rfl) (by kernel_rfl) (fun _ _ _ h => h) (.inl ⟨by kernel_rfl, fun W hS => by kernel_rfl⟩) S0 ?_
          refine wpAnyT_takeN (i := 5) (v := .string (bs m.name)) rfl (by decide) (by kernel_rfl) (by kernel_rfl) (by kernel_rfl) (fun _ _ _ h => h) (.inl ⟨by kernel_rfl, fun W hS => run_load_one 9 (.tmp 61) rfl ((x.add (k * 5)).add 0) (by kernel_rfl) _ ((HKi.out.kept (hS.block _ HKi.out.lt)) 0 _ rfl) _ Try.underlying9 rfl⟩) S0 ?_
          cases hnb : nameOk m.name
          · refine wpAnyT_call (i := 6) (by kernel_rfl) rfl (by kernel_rfl) 79 #[.string (bs m.name)] (run_call_func rfl enters_rname _ (by kernel_rfl)) ((rname_any m.name v0 HNM.out).mono ?_)
            rintro e v1 ⟨rfl, rfl⟩
            refine ⟨_, rfl, S0, ?_⟩
            rw [hnb]
            refine wpAnyT_takeN (i := 7) (v := .bool true) rfl (by decide) (by kernel_rfl) (by kernel_rfl) (by kernel_rfl) (fun _ _ _ h => h) (.inl ⟨by kernel_rfl, fun W hS => by kernel_rfl⟩) S0 ?_
            refine wpAnyT_takeN (i := 8) (v := .bool true) rfl (by decide) (by kernel_rfl) (by kernel_rfl) (by kernel_rfl) (fun _ _ _ h => h) (.inl ⟨by kernel_rfl, fun W hS => by kernel_rfl⟩) S0 ?_
            refine wpAnyT_takeN (i := 9) (v := undef) rfl (by decide) (by kernel_rfl) (by kernel_rfl) (by kernel_rfl) (fun _ _ _ h => h) (.inr ⟨by kernel_rfl, rfl⟩) S0 ?_
            refine wpAnyT_takeN (i := 10) (v := undef) rfl (by decide) (by kernel_rfl) (by kernel_rfl) (by kernel_rfl) (fun _ _ _ h => h) (.inr ⟨by kernel_rfl, rfl⟩) S0 ?_
            refine wpAnyT_takeN (i := 11) (v := undef) rfl (by decide) (by kernel_rfl) (by kernel_rfl) (by kernel_rfl) (fun _ _ _ h => h) (.inr ⟨by kernel_rfl, rfl⟩) S0 ?_
            refine wpAnyT_takeN (i := 12) (v := undef) rfl (by decide) (by kernel_rfl) (by kernel_rfl) (by kernel_rfl) (fun _ _ _ h => h) (.inr ⟨by kernel_rfl, rfl⟩) S0 ?_
            refine wpAnyT_takeN (i := 13) (v := undef) rfl (by decide) (by kernel_rfl) (by kernel_rfl) (by kernel_rfl) (fun _ _ _ h => h) (.inr ⟨by kernel_rfl, rfl⟩) S0 ?_
            refine wpAnyT_takeN (i := 14) (v := undef) rfl (by decide) (by kernel_rfl) (by kernel_rfl) (by kernel_rfl) (fun _ _ _ h => h) (.inr ⟨by kernel_rfl, rfl⟩) S0 ?_
            refine wpAnyT_takeN (i := 15) (v := undef) rfl (by decide) (by kernel_rfl) (by kernel_rfl) (by kernel_rfl) (fun _ _ _ h => h) (.inr ⟨by kernel_rfl, rfl⟩) S0 ?_
            refine wpAnyT_takeN (i := 16) (v := .bool true) rfl (by decide) (by kernel_rfl) (by kernel_rfl) (by kernel_rfl) (fun _ _ _ h => h) (.inl ⟨by kernel_rfl, fun W hS => by kernel_rfl⟩) S0 ?_
            refine wpAnyT_takeN (i := 17) (v := .bool true) rfl (by decide) (by kernel_rfl) (by kernel_rfl) (by kernel_rfl) (fun _ _ _ h => h) (.inl ⟨by kernel_rfl, fun W hS => by kernel_rfl⟩) S0 ?_
            refine wpAnyT_takeN (i := 18) (v := undef) rfl (by decide) (by kernel_rfl) (by kernel_rfl) (by kernel_rfl) (fun _ _ _ h => h) (.inr ⟨by kernel_rfl, rfl⟩) S0 ?_
            refine wpAnyT_takeN (i := 19) (v := undef) rfl (by decide) (by kernel_rfl) (by kernel_rfl) (by kernel_rfl) (fun _ _ _ h => h) (.inr ⟨by kernel_rfl, rfl⟩) S0 ?_
            refine wpAnyT_takeN (i := 20) (v := undef) rfl (by decide) (by kernel_rfl) (by kernel_rfl) (by kernel_rfl) (fun _ _ _ h => h) (.inr ⟨by kernel_rfl, rfl⟩) S0 ?_
            refine wpAnyT_takeN (i := 21) (v := undef) rfl (by decide) (by kernel_rfl) (by kernel_rfl) (by kernel_rfl) (fun _ _ _ h => h) (.inr ⟨by kernel_rfl, rfl⟩) S0 ?_
            refine wpAnyT_takeN (i := 22) (v := undef) rfl (by decide) (by kernel_rfl) (by kernel_rfl) (by kernel_rfl) (fun _ _ _ h => h) (.inr ⟨by kernel_rfl, rfl⟩) S0 ?_
            refine wpAnyT_takeN (i := 23) (v := undef) rfl (by decide) (by kernel_rfl) (by kernel_rfl) (by kernel_rfl) (fun _ _ _ h => h) (.inr ⟨by kernel_rfl, rfl⟩) S0 ?_
            refine wpAnyT_takeN (i := 24) (v := undef) rfl (by decide) (by kernel_rfl) (by kernel_rfl) (by kernel_rfl) (fun _ _ _ h => h) (.inr ⟨by kernel_rfl, rfl⟩) S0 ?_
            refine wpAnyT_takeN (i := 25) (v := undef) rfl (by decide) (by kernel_rfl) (by kernel_rfl) (by kernel_rfl) (fun _ _ _ h => h) (.inr ⟨by kernel_rfl, rfl⟩) S0 ?_
            refine wpAnyT_takeN (i := 26) (v := undef) rfl (by decide) (by kernel_rfl) (by kernel_rfl) (by kernel_rfl) (fun _ _ _ h => h) (.inr ⟨by kernel_rfl, rfl⟩) S0 ?_
            refine wpAnyT_takeN (i := 27) (v := undef) rfl (by decide) (by kernel_rfl) (by kernel_rfl) (by kernel_rfl) (fun _ _ _ h => h) (.inr ⟨by kernel_rfl, rfl⟩) S0 ?_
            refine wpAnyT_takeN (i := 28) (v := undef) rfl (by decide) (by kernel_rfl) (by kernel_rfl) (by kernel_rfl) (fun _ _ _ h => h) (.inr ⟨by kernel_rfl, rfl⟩) S0 ?_
            refine wpAnyT_takeN (i := 29) (v := undef) rfl (by decide) (by kernel_rfl) (by kernel_rfl) (by kernel_rfl) (fun _ _ _ h => h) (.inr ⟨by kernel_rfl, rfl⟩) S0 ?_
            refine wpAnyT_takeN (i := 30) (v := undef) rfl (by decide) (by kernel_rfl) (by kernel_rfl) (by kernel_rfl) (fun _ _ _ h => h) (.inr ⟨by kernel_rfl, rfl⟩) S0 ?_
            refine wpAnyT_takeN (i := 31) (v := undef) rfl (by decide) (by kernel_rfl) (by kernel_rfl) (by kernel_rfl) (fun _ _ _ h => h) (.inr ⟨by kernel_rfl, rfl⟩) S0 ?_
            refine wpAnyT_takeN (i := 32) (v := undef) rfl (by decide) (by kernel_rfl) (by kernel_rfl) (by kernel_rfl) (fun _ _ _ h => h) (.inr ⟨by kernel_rfl, rfl⟩) S0 ?_
            refine wpAnyT_takeN (i := 33) (v := undef) rfl (by decide) (by kernel_rfl) (by kernel_rfl) (by kernel_rfl) (fun _ _ _ h => h) (.inr ⟨by kernel_rfl, rfl⟩) S0 ?_
            refine wpAnyT_takeN (i := 34) (v := undef) rfl (by decide) (by kernel_rfl) (by kernel_rfl) (by kernel_rfl) (fun _ _ _ h => h) (.inr ⟨by kernel_rfl, rfl⟩) S0 ?_
            refine wpAnyT_takeN (i := 35) (v := undef) rfl (by decide) (by kernel_rfl) (by kernel_rfl) (by kernel_rfl) (fun _ _ _ h => h) (.inr ⟨by kernel_rfl, rfl⟩) S0 ?_
            refine wpAnyT_takeN (i := 36) (v := .bool true) rfl (by decide) (by kernel_rfl) (by kernel_rfl) (by kernel_rfl) (fun _ _ _ h => h) (.inl ⟨by kernel_rfl, fun W hS => by kernel_rfl⟩) S0 ?_
            have hbad : kidsOk (mayL h) ks = false := kidsOk_bad HMM.out (by unfold kidOk; rw [hnb]; simp)
            have hres : R = false := by rw [HR.out, hbad]; simp
            have HRES := Lib.hid hres
            clear hbad hres
            refine wpAnyT_done (by kernel_rfl) ?_ _
            simp only [Act.put, List.getElem_toArray, List.getElem_cons_succ, List.getElem_cons_zero, List.setIfInBounds_toArray, List.set_cons_zero, List.set_cons_succ]
            go_wp2_with fail
            go_ret
            exact ⟨by rw [HRES.out]; rfl, HB.out.trans (S0.mono HB.out.size)⟩
          · refine wpAnyT_call (i := 6) (by kernel_rfl) rfl (by kernel_rfl) 79 #[.string (bs m.name)] (run_call_func rfl enters_rname _ (by kernel_rfl)) ((rname_any m.name v0 HNM.out).mono ?_)
            rintro e v1 ⟨rfl, rfl⟩
            refine ⟨_, rfl, S0, ?_⟩
            rw [hnb]
            refine wpAnyT_takeN (i := 7) (v := .bool false) rfl (by decide) (by kernel_rfl) (by kernel_rfl) (by kernel_rfl) (fun _ _ _ h => h) (.inl ⟨by kernel_rfl, fun W hS => by kernel_rfl⟩) S0 ?_
            refine wpAnyT_takeN (i := 8) (v := .bool false) rfl (by decide) (by kernel_rfl) (by kernel_rfl) (by kernel_rfl) (fun _ _ _ h => h) (.inl ⟨by kernel_rfl, fun W hS => by kernel_rfl⟩) S0 ?_
            refine wpAnyT_takeN (i := 9) (v := .pointer (some ⟨w.heap.size, 4, none⟩)) rfl (by decide) (by kernel_rfl) (by kernel_rfl) (by kernel_rfl) (fun _ _ _ h => h) (.inl ⟨by kernel_rfl, fun W hS => by kernel_rfl⟩) S0 ?_
            refine wpAnyT_takeN (i := 10) (v := .slice (some x) ks.length cap) rfl (by decide) (by kernel_rfl) (by kernel_rfl) (by kernel_rfl) (fun _ _ _ h => h) (.inl ⟨by kernel_rfl, fun W hS => run_load_one 22 (.tmp 66) rfl ⟨w.heap.size, 4, none⟩ (by kernel_rfl) _ ((HA.out.below hS HA.out.lt).cell 4 _ rfl) _ Try.underlying22 rfl⟩) S0 ?_
            refine wpAnyT_takeN (i := 11) (v := .int .i64 (k : Int)) rfl (by decide) (by kernel_rfl) (by kernel_rfl) (by kernel_rfl) (fun _ _ _ h => h) (.inl ⟨by kernel_rfl, fun W hS => by kernel_rfl⟩) S0 ?_
            refine wpAnyT_takeN (i := 12) (v := .pointer (some (x.add (k * 5)))) rfl (by decide) (by kernel_rfl) (by kernel_rfl) (by kernel_rfl) (fun _ _ _ h => h) (.inl ⟨by kernel_rfl, fun W hS => run_index_op 22 24 (.tmp 67) (.tmp 68) rfl x ks.length cap k (by kernel_rfl) (by kernel_rfl) hlt 5 _ rfl Try.underlying22 info_nd⟩) S0 ?_
            refine wpAnyT_takeN (i := 13) (v := m.v g c) rfl (by decide) (by kernel_rfl) (by kernel_rfl) (by kernel_rfl) (fun _ _ _ h => h) (.inl ⟨by kernel_rfl, fun W hS => run_load_nd (.tmp 69) rfl (x.add (k * 5)) (by kernel_rfl) m g c (HKi.out.kept (hS.block _ HKi.out.lt))⟩) S0 ?_
            cases hmb : mayL h m
            · refine wpAnyT_call (i := 14) (by kernel_rfl) rfl (by kernel_rfl) 49 #[m.v g c] (run_call_func rfl enters_rmay _ (by kernel_rfl)) ((IH.out m g c v1 (HMi.out.below S0) HNB.out).mono ?_)
              rintro e v2 ⟨rfl, b2⟩
              have S1 : Below wr.heap.size wr v2 := S0.trans (b2.mono S0.size)
              refine ⟨_, rfl, S1, ?_⟩
              clear S0
              have S0 := S1
              rw [hmb]
              refine wpAnyT_takeN (i := 15) (v := .bool true) rfl (by decide) (by kernel_rfl) (by kernel_rfl) (by kernel_rfl) (fun _ _ _ h => h) (.inl ⟨by kernel_rfl, fun W hS => by kernel_rfl⟩) S0 ?_
              refine wpAnyT_takeN (i := 16) (v := .bool true) rfl (by decide) (by kernel_rfl) (by kernel_rfl) (by kernel_rfl) (fun _ _ _ h => h) (.inl ⟨by kernel_rfl, fun W hS => by kernel_rfl⟩) S0 ?_
              refine wpAnyT_takeN (i := 17) (v := .bool true) rfl (by decide) (by kernel_rfl) (by kernel_rfl) (by kernel_rfl) (fun _ _ _ h => h) (.inl ⟨by kernel_rfl, fun W hS => by kernel_rfl⟩) S0 ?_
              refine wpAnyT_takeN (i := 18) (v := undef) rfl (by decide) (by kernel_rfl) (by kernel_rfl) (by kernel_rfl) (fun _ _ _ h => h) (.inr ⟨by kernel_rfl, rfl⟩) S0 ?_
              refine wpAnyT_takeN (i := 19) (v := undef) rfl (by decide) (by kernel_rfl) (by kernel_rfl) (by kernel_rfl) (fun _ _ _ h => h) (.inr ⟨by kernel_rfl, rfl⟩) S0 ?_
              refine wpAnyT_takeN (i := 20) (v := undef) rfl (by decide) (by kernel_rfl) (by kernel_rfl) (by kernel_rfl) (fun _ _ _ h => h) (.inr ⟨by kernel_rfl, rfl⟩) S0 ?_
              refine wpAnyT_takeN (i := 21) (v := undef) rfl (by decide) (by kernel_rfl) (by kernel_rfl) (by kernel_rfl) (fun _ _ _ h => h) (.inr ⟨by kernel_rfl, rfl⟩) S0 ?_
              refine wpAnyT_takeN (i := 22) (v := undef) rfl (by decide) (by kernel_rfl) (by kernel_rfl) (by kernel_rfl) (fun _ _ _ h => h) (.inr ⟨by kernel_rfl, rfl⟩) S0 ?_
              refine wpAnyT_takeN (i := 23) (v := undef) rfl (by decide) (by kernel_rfl) (by kernel_rfl) (by kernel_rfl) (fun _ _ _ h => h) (.inr ⟨by kernel_rfl, rfl⟩) S0 ?_
              refine wpAnyT_takeN (i := 24) (v := undef) rfl (by decide) (by kernel_rfl) (by kernel_rfl) (by kernel_rfl) (fun _ _ _ h => h) (.inr ⟨by kernel_rfl, rfl⟩) S0 ?_
              refine wpAnyT_takeN (i := 25) (v := undef) rfl (by decide) (by kernel_rfl) (by kernel_rfl) (by kernel_rfl) (fun _ _ _ h => h) (.inr ⟨by kernel_rfl, rfl⟩) S0 ?_
              refine wpAnyT_takeN (i := 26) (v := undef) rfl (by decide) (by kernel_rfl) (by kernel_rfl) (by kernel_rfl) (fun _ _ _ h => h) (.inr ⟨by kernel_rfl, rfl⟩) S0 ?_
              refine wpAnyT_takeN (i := 27) (v := undef) rfl (by decide) (by kernel_rfl) (by kernel_rfl) (by kernel_rfl) (fun _ _ _ h => h) (.inr ⟨by kernel_rfl, rfl⟩) S0 ?_
              refine wpAnyT_takeN (i := 28) (v := undef) rfl (by decide) (by kernel_rfl) (by kernel_rfl) (by kernel_rfl) (fun _ _ _ h => h) (.inr ⟨by kernel_rfl, rfl⟩) S0 ?_
              refine wpAnyT_takeN (i := 29) (v := undef) rfl (by decide) (by kernel_rfl) (by kernel_rfl) (by kernel_rfl) (fun _ _ _ h => h) (.inr ⟨by kernel_rfl, rfl⟩) S0 ?_
              refine wpAnyT_takeN (i := 30) (v := undef) rfl (by decide) (by kernel_rfl) (by kernel_rfl) (by kernel_rfl) (fun _ _ _ h => h) (.inr ⟨by kernel_rfl, rfl⟩) S0 ?_
              refine wpAnyT_takeN (i := 31) (v := undef) rfl (by decide) (by kernel_rfl) (by kernel_rfl) (by kernel_rfl) (fun _ _ _ h => h) (.inr ⟨by kernel_rfl, rfl⟩) S0 ?_
              refine wpAnyT_takeN (i := 32) (v := undef) rfl (by decide) (by kernel_rfl) (by kernel_rfl) (by kernel_rfl) (fun _ _ _ h => h) (.inr ⟨by kernel_rfl, rfl⟩) S0 ?_
              refine wpAnyT_takeN (i := 33) (v := undef) rfl (by decide) (by kernel_rfl) (by kernel_rfl) (by kernel_rfl) (fun _ _ _ h => h) (.inr ⟨by kernel_rfl, rfl⟩) S0 ?_
              refine wpAnyT_takeN (i := 34) (v := undef) rfl (by decide) (by kernel_rfl) (by kernel_rfl) (by kernel_rfl) (fun _ _ _ h => h) (.inr ⟨by kernel_rfl, rfl⟩) S0 ?_
              refine wpAnyT_takeN (i := 35) (v := undef) rfl (by decide) (by kernel_rfl) (by kernel_rfl) (by kernel_rfl) (fun _ _ _ h => h) (.inr ⟨by kernel_rfl, rfl⟩) S0 ?_
              refine wpAnyT_takeN (i := 36) (v := .bool true) rfl (by decide) (by kernel_rfl) (by kernel_rfl) (by kernel_rfl) (fun _ _ _ h => h) (.inl ⟨by kernel_rfl, fun W hS => by kernel_rfl⟩) S0 ?_
              have hbad : kidsOk (mayL h) ks = false := kidsOk_bad HMM.out (by unfold kidOk; rw [hmb]; simp)
              have hres : R = false := by rw [HR.out, hbad]; simp
              have HRES := Lib.hid hres
              clear hbad hres
              refine wpAnyT_done (by kernel_rfl) ?_ _
              simp only [Act.put, List.getElem_toArray, List.getElem_cons_succ, List.getElem_cons_zero, List.setIfInBounds_toArray, List.set_cons_zero, List.set_cons_succ]
              go_wp2_with fail
              go_ret
              exact ⟨by rw [HRES.out]; rfl, HB.out.trans (S0.mono HB.out.size)⟩
            · refine wpAnyT_call (i := 14) (by kernel_rfl) rfl (by kernel_rfl) 49 #[m.v g c] (run_call_func rfl enters_rmay _ (by kernel_rfl)) ((IH.out m g c v1 (HMi.out.below S0) HNB.out).mono ?_)
              rintro e v2 ⟨rfl, b2⟩
              have S1 : Below wr.heap.size wr v2 := S0.trans (b2.mono S0.size)
              refine ⟨_, rfl, S1, ?_⟩
              clear S0
              have S0 := S1
              rw [hmb]
              refine wpAnyT_takeN (i := 15) (v := .bool false) rfl (by decide) (by kernel_rfl) (by kernel_rfl) (by kernel_rfl) (fun _ _ _ h => h) (.inl ⟨by kernel_rfl, fun W hS => by kernel_rfl⟩) S0 ?_
              refine wpAnyT_takeN (i := 16) (v := .bool false) rfl (by decide) (by kernel_rfl) (by kernel_rfl) (by kernel_rfl) (fun _ _ _ h => h) (.inl ⟨by kernel_rfl, fun W hS => by kernel_rfl⟩) S0 ?_
              refine wpAnyT_takeN (i := 17) (v := .bool false) rfl (by decide) (by kernel_rfl) (by kernel_rfl) (by kernel_rfl) (fun _ _ _ h => h) (.inl ⟨by kernel_rfl, fun W hS => by kernel_rfl⟩) S0 ?_
              refine wpAnyT_takeN (i := 18) (v := .int .i64 (k : Int)) rfl (by decide) (by kernel_rfl) (by kernel_rfl) (by kernel_rfl) (fun _ _ _ h => h) (.inl ⟨by kernel_rfl, fun W hS => by kernel_rfl⟩) S0 ?_
              by_cases hk0 : k = 0
              · have hg0 : decide ((0 : Int) < (k : Int)) = false := decide_eq_false (by omega)
                refine wpAnyT_takeN (i := 19) (v := .bool false) rfl (by decide) (by kernel_rfl) (by kernel_rfl) (by kernel_rfl) (fun _ _ _ h => h) (.inl ⟨by kernel_rfl, fun W hS => run_gtr0_op (.tmp 75) rfl k false hg0 (by kernel_rfl)⟩) S0 ?_
                refine wpAnyT_takeN (i := 20) (v := .bool false) rfl (by decide) (by kernel_rfl) (by kernel_rfl) (by kernel_rfl) (fun _ _ _ h => h) (.inl ⟨by kernel_rfl, fun W hS => by kernel_rfl⟩) S0 ?_
                refine wpAnyT_takeN (i := 21) (v := undef) rfl (by decide) (by kernel_rfl) (by kernel_rfl) (by kernel_rfl) (fun _ _ _ h => h) (.inr ⟨by kernel_rfl, rfl⟩) S0 ?_
                refine wpAnyT_takeN (i := 22) (v := undef) rfl (by decide) (by kernel_rfl) (by kernel_rfl) (by kernel_rfl) (fun _ _ _ h => h) (.inr ⟨by kernel_rfl, rfl⟩) S0 ?_
                refine wpAnyT_takeN (i := 23) (v := undef) rfl (by decide) (by kernel_rfl) (by kernel_rfl) (by kernel_rfl) (fun _ _ _ h => h) (.inr ⟨by kernel_rfl, rfl⟩) S0 ?_
                refine wpAnyT_takeN (i := 24) (v := undef) rfl (by decide) (by kernel_rfl) (by kernel_rfl) (by kernel_rfl) (fun _ _ _ h => h) (.inr ⟨by kernel_rfl, rfl⟩) S0 ?_
                refine wpAnyT_takeN (i := 25) (v := undef) rfl (by decide) (by kernel_rfl) (by kernel_rfl) (by kernel_rfl) (fun _ _ _ h => h) (.inr ⟨by kernel_rfl, rfl⟩) S0 ?_
                refine wpAnyT_takeN (i := 26) (v := undef) rfl (by decide) (by kernel_rfl) (by kernel_rfl) (by kernel_rfl) (fun _ _ _ h => h) (.inr ⟨by kernel_rfl, rfl⟩) S0 ?_
                refine wpAnyT_takeN (i := 27) (v := undef) rfl (by decide) (by kernel_rfl) (by kernel_rfl) (by kernel_rfl) (fun _ _ _ h => h) (.inr ⟨by kernel_rfl, rfl⟩) S0 ?_
                refine wpAnyT_takeN (i := 28) (v := undef) rfl (by decide) (by kernel_rfl) (by kernel_rfl) (by kernel_rfl) (fun _ _ _ h => h) (.inr ⟨by kernel_rfl, rfl⟩) S0 ?_
                refine wpAnyT_takeN (i := 29) (v := undef) rfl (by decide) (by kernel_rfl) (by kernel_rfl) (by kernel_rfl) (fun _ _ _ h => h) (.inr ⟨by kernel_rfl, rfl⟩) S0 ?_
                refine wpAnyT_takeN (i := 30) (v := undef) rfl (by decide) (by kernel_rfl) (by kernel_rfl) (by kernel_rfl) (fun _ _ _ h => h) (.inr ⟨by kernel_rfl, rfl⟩) S0 ?_
                refine wpAnyT_takeN (i := 31) (v := undef) rfl (by decide) (by kernel_rfl) (by kernel_rfl) (by kernel_rfl) (fun _ _ _ h => h) (.inr ⟨by kernel_rfl, rfl⟩) S0 ?_
                refine wpAnyT_takeN (i := 32) (v := undef) rfl (by decide) (by kernel_rfl) (by kernel_rfl) (by kernel_rfl) (fun _ _ _ h => h) (.inr ⟨by kernel_rfl, rfl⟩) S0 ?_
                refine wpAnyT_takeN (i := 33) (v := undef) rfl (by decide) (by kernel_rfl) (by kernel_rfl) (by kernel_rfl) (fun _ _ _ h => h) (.inr ⟨by kernel_rfl, rfl⟩) S0 ?_
                refine wpAnyT_takeN (i := 34) (v := undef) rfl (by decide) (by kernel_rfl) (by kernel_rfl) (by kernel_rfl) (fun _ _ _ h => h) (.inr ⟨by kernel_rfl, rfl⟩) S0 ?_
                refine wpAnyT_takeN (i := 35) (v := .bool false) rfl (by decide) (by kernel_rfl) (by kernel_rfl) (by kernel_rfl) (fun _ _ _ h => h) (.inl ⟨by kernel_rfl, fun W hS => by kernel_rfl⟩) S0 ?_
                refine wpAnyT_takeN (i := 36) (v := .bool false) rfl (by decide) (by kernel_rfl) (by kernel_rfl) (by kernel_rfl) (fun _ _ _ h => h) (.inl ⟨by kernel_rfl, fun W hS => by kernel_rfl⟩) S0 ?_
                have hgood : kidOk (mayL h) ks k m = true := by unfold kidOk; rw [hnb, hmb]; rw [hk0]; rfl
                have hall2 : ∀ i d, i < k + 1 → ks[i]? = some d → kidOk (mayL h) ks i d = true := fun i d hi hq => by
                  by_cases e : i = k
                  · subst e
                    rw [HMM.out] at hq
                    cases hq
                    exact hgood
                  · exact HALL.out i d (by omega) hq
                have HALL2 := Lib.hid hall2
                have hA2 := HA.out.below S0 HA.out.lt
                have hB2 := HB.out.trans (S0.mono hwz)
                have HA2 := Lib.hid hA2
                have HB2 := Lib.hid hB2
                clear hgood hall2 hA2 hB2
                refine wpAnyT_done (by kernel_rfl) ?_ _
                simp only [Act.put, List.getElem_toArray, List.getElem_cons_succ, List.getElem_cons_zero, List.setIfInBounds_toArray, List.set_cons_zero, List.set_cons_succ]
                clear S0 S1 b2
                go_wp2_with fail
                go_roundw
                case rel => exact ⟨k + 1, by omega, by go_num, HALL2.out, HA2.out, HB2.out⟩
                case measure => simp [intOf] <;> omega
              · have hg0 : decide ((0 : Int) < (k : Int)) = true := decide_eq_true (by omega)
                obtain ⟨q, rfl⟩ : ∃ q, k = q + 1 := ⟨k - 1, by omega⟩
                obtain ⟨p, hp⟩ : ∃ p, ks[q]? = some p := ⟨_, List.getElem?_eq_getElem (by omega)⟩
                obtain ⟨x', g', c', hx', _, hKp, _⟩ := HKS.out q p hp
                obtain rfl : x = x' := Option.some.inj hx'
                have HKp := Lib.hid (hKp.kept (HB.out.block x.block hKp.lt))
                have HPP := Lib.hid hp
                have hql : q < ks.length := by omega
                clear hKp hp hx'
                refine wpAnyT_takeN (i := 19) (v := .bool true) rfl (by decide) (by kernel_rfl) (by kernel_rfl) (by kernel_rfl) (fun _ _ _ h => h) (.inl ⟨by kernel_rfl, fun W hS => run_gtr0_op (.tmp 75) rfl (q + 1) true hg0 (by kernel_rfl)⟩) S0 ?_
                refine wpAnyT_takeN (i := 20) (v := .bool true) rfl (by decide) (by kernel_rfl) (by kernel_rfl) (by kernel_rfl) (fun _ _ _ h => h) (.inl ⟨by kernel_rfl, fun W hS => by kernel_rfl⟩) S0 ?_
                refine wpAnyT_takeN (i := 21) (v := .pointer (some ⟨w.heap.size, 4, none⟩)) rfl (by decide) (by kernel_rfl) (by kernel_rfl) (by kernel_rfl) (fun _ _ _ h => h) (.inl ⟨by kernel_rfl, fun W hS => by kernel_rfl⟩) S0 ?_
                refine wpAnyT_takeN (i := 22) (v := .slice (some x) ks.length cap) rfl (by decide) (by kernel_rfl) (by kernel_rfl) (by kernel_rfl) (fun _ _ _ h => h) (.inl ⟨by kernel_rfl, fun W hS => run_load_one 22 (.tmp 78) rfl ⟨w.heap.size, 4, none⟩ (by kernel_rfl) _ ((HA.out.below hS HA.out.lt).cell 4 _ rfl) _ Try.underlying22 rfl⟩) S0 ?_
                refine wpAnyT_takeN (i := 23) (v := .int .i64 ((q + 1 : Nat) : Int)) rfl (by decide) (by kernel_rfl) (by kernel_rfl) (by kernel_rfl) (fun _ _ _ h => h) (.inl ⟨by kernel_rfl, fun W hS => by kernel_rfl⟩) S0 ?_
                refine wpAnyT_takeN (i := 24) (v := .int .i64 (q : Int)) rfl (by decide) (by kernel_rfl) (by kernel_rfl) (by kernel_rfl) (fun _ _ _ h => h) (.inl ⟨by kernel_rfl, fun W hS => run_dec_op (.tmp 80) rfl q (by omega) (by kernel_rfl)⟩) S0 ?_
                refine wpAnyT_takeN (i := 25) (v := .pointer (some (x.add (q * 5)))) rfl (by decide) (by kernel_rfl) (by kernel_rfl) (by kernel_rfl) (fun _ _ _ h => h) (.inl ⟨by kernel_rfl, fun W hS => run_index_op 22 24 (.tmp 79) (.tmp 81) rfl x ks.length cap q (by kernel_rfl) (by kernel_rfl) hql 5 _ rfl Try.underlying22 info_nd⟩) S0 ?_
                refine wpAnyT_takeN (i := 26) (v := .pointer (some ((x.add (q * 5)).add 0))) rfl (by decide) (by kernel_rfl) (by kernel_rfl) (by kernel_rfl) (fun _ _ _ h => h) (.inl ⟨by kernel_rfl, fun W hS => by kernel_rfl⟩) S0 ?_
                refine wpAnyT_takeN (i := 27) (v := .string (bs p.name)) rfl (by decide) (by kernel_rfl) (by kernel_rfl) (by kernel_rfl) (fun _ _ _ h => h) (.inl ⟨by kernel_rfl, fun W hS => run_load_one 9 (.tmp 83) rfl ((x.add (q * 5)).add 0) (by kernel_rfl) _ ((HKp.out.kept (hS.block _ HKp.out.lt)) 0 _ rfl) _ Try.underlying9 rfl⟩) S0 ?_
                refine wpAnyT_takeN (i := 28) (v := .pointer (some ⟨w.heap.size, 4, none⟩)) rfl (by decide) (by kernel_rfl) (by kernel_rfl) (by kernel_rfl) (fun _ _ _ h => h) (.inl ⟨by kernel_rfl, fun W hS => by kernel_rfl⟩) S0 ?_
                refine wpAnyT_takeN (i := 29) (v := .slice (some x) ks.length cap) rfl (by decide) (by kernel_rfl) (by kernel_rfl) (by kernel_rfl) (fun _ _ _ h => h) (.inl ⟨by kernel_rfl, fun W hS => run_load_one 22 (.tmp 85) rfl ⟨w.heap.size, 4, none⟩ (by kernel_rfl) _ ((HA.out.below hS HA.out.lt).cell 4 _ rfl) _ Try.underlying22 rfl⟩) S0 ?_
                refine wpAnyT_takeN (i := 30) (v := .int .i64 ((q + 1 : Nat) : Int)) rfl (by decide) (by kernel_rfl) (by kernel_rfl) (by kernel_rfl) (fun _ _ _ h => h) (.inl ⟨by kernel_rfl, fun W hS => by kernel_rfl⟩) S0 ?_
                refine wpAnyT_takeN (i := 31) (v := .pointer (some (x.add ((q + 1) * 5)))) rfl (by decide) (by kernel_rfl) (by kernel_rfl) (by kernel_rfl) (fun _ _ _ h => h) (.inl ⟨by kernel_rfl, fun W hS => run_index_op 22 24 (.tmp 86) (.tmp 87) rfl x ks.length cap (q + 1) (by kernel_rfl) (by kernel_rfl) hlt 5 _ rfl Try.underlying22 info_nd⟩) S0 ?_
                refine wpAnyT_takeN (i := 32) (v := .pointer (some ((x.add ((q + 1) * 5)).add 0))) rfl (by decide) (by kernel_rfl) (by kernel_rfl) (by kernel_rfl) (fun _ _ _ h => h) (.inl ⟨by kernel_rfl, fun W hS => by kernel_rfl⟩) S0 ?_
                refine wpAnyT_takeN (i := 33) (v := .string (bs m.name)) rfl (by decide) (by kernel_rfl) (by kernel_rfl) (by kernel_rfl) (fun _ _ _ h => h) (.inl ⟨by kernel_rfl, fun W hS => run_load_one 9 (.tmp 89) rfl ((x.add ((q + 1) * 5)).add 0) (by kernel_rfl) _ ((HKi.out.kept (hS.block _ HKi.out.lt)) 0 _ rfl) _ Try.underlying9 rfl⟩) S0 ?_
                cases hls : Op.bytesLess p.name m.name
                · refine wpAnyT_takeN (i := 34) (v := .bool true) rfl (by decide) (by kernel_rfl) (by kernel_rfl) (by kernel_rfl) (fun _ _ _ h => h) (.inl ⟨by kernel_rfl, fun W hS => run_geq_op (.tmp 84) (.tmp 90) rfl p.name m.name _ hls (by kernel_rfl) (by kernel_rfl)⟩) S0 ?_
                  refine wpAnyT_takeN (i := 35) (v := .bool true) rfl (by decide) (by kernel_rfl) (by kernel_rfl) (by kernel_rfl) (fun _ _ _ h => h) (.inl ⟨by kernel_rfl, fun W hS => by kernel_rfl⟩) S0 ?_
                  refine wpAnyT_takeN (i := 36) (v := .bool true) rfl (by decide) (by kernel_rfl) (by kernel_rfl) (by kernel_rfl) (fun _ _ _ h => h) (.inl ⟨by kernel_rfl, fun W hS => by kernel_rfl⟩) S0 ?_
                  have hbad : kidsOk (mayL h) ks = false := kidsOk_bad HMM.out (by unfold kidOk; rw [hnb, hmb]; simp [HPP.out, hls])
                  have hres : R = false := by rw [HR.out, hbad]; simp
                  have HRES := Lib.hid hres
                  clear hbad hres
                  refine wpAnyT_done (by kernel_rfl) ?_ _
                  simp only [Act.put, List.getElem_toArray, List.getElem_cons_succ, List.getElem_cons_zero, List.setIfInBounds_toArray, List.set_cons_zero, List.set_cons_succ]
                  go_wp2_with fail
                  go_ret
                  exact ⟨by rw [HRES.out]; rfl, HB.out.trans (S0.mono HB.out.size)⟩
                · refine wpAnyT_takeN (i := 34) (v := .bool false) rfl (by decide) (by kernel_rfl) (by kernel_rfl) (by kernel_rfl) (fun _ _ _ h => h) (.inl ⟨by kernel_rfl, fun W hS => run_geq_op (.tmp 84) (.tmp 90) rfl p.name m.name _ hls (by kernel_rfl) (by kernel_rfl)⟩) S0 ?_
                  refine wpAnyT_takeN (i := 35) (v := .bool false) rfl (by decide) (by kernel_rfl) (by kernel_rfl) (by kernel_rfl) (fun _ _ _ h => h) (.inl ⟨by kernel_rfl, fun W hS => by kernel_rfl⟩) S0 ?_
                  refine wpAnyT_takeN (i := 36) (v := .bool false) rfl (by decide) (by kernel_rfl) (by kernel_rfl) (by kernel_rfl) (fun _ _ _ h => h) (.inl ⟨by kernel_rfl, fun W hS => by kernel_rfl⟩) S0 ?_
                  have hgood : kidOk (mayL h) ks (q + 1) m = true := by unfold kidOk; rw [hnb, hmb]; simp [HPP.out, hls]
                  have hall2 : ∀ i d, i < q + 1 + 1 → ks[i]? = some d → kidOk (mayL h) ks i d = true := fun i d hi hq => by
                    by_cases e : i = q + 1
                    · subst e
                      rw [HMM.out] at hq
                      cases hq
                      exact hgood
                    · exact HALL.out i d (by omega) hq
                  have HALL2 := Lib.hid hall2
                  have hA2 := HA.out.below S0 HA.out.lt
                  have hB2 := HB.out.trans (S0.mono hwz)
                  have HA2 := Lib.hid hA2
                  have HB2 := Lib.hid hB2
                  clear hgood hall2 hA2 hB2
                  refine wpAnyT_done (by kernel_rfl) ?_ _
                  simp only [Act.put, List.getElem_toArray, List.getElem_cons_succ, List.getElem_cons_zero, List.setIfInBounds_toArray, List.set_cons_zero, List.set_cons_succ]
                  clear S0 S1 b2
                  go_wp2_with fail
                  go_roundw
                  case rel => exact ⟨q + 1 + 1, by omega, by go_num, HALL2.out, HA2.out, HB2.out⟩
                  case measure => simp [intOf] <;> omega
        · obtain rfl : k = ks.length := by omega
          have hok : kidsOk (mayL h) ks = true := kidsOk_good (fun i m hm => HALL.out i m (List.getElem?_eq_some_iff.1 hm).1 hm)
          have hres : R = (!ex && dt.isEmpty) := by rw [HR.out, hok]; simp
          have HRES := Lib.hid hres
          have c2 := HA.out.cell 2 _ rfl
          have c3 := HA.out.cell 3 _ rfl
          clear hok hres HALL
          cases ex
          · go_wp2_with fail
            go_ret
            refine ⟨?_, HB.out⟩
            rw [HRES.out]
            cases dt <;> rfl
          · go_wp2_with fail
            go_ret
            refine ⟨?_, HB.out⟩
            rw [HRES.out]
            rfl
    rw [if_neg k2] at hR
    by_cases k3 : kd = 3
    · subst k3
      rw [if_pos rfl] at hR
      have HR := Lib.hid hR
      clear hR k1 k2
      go_wp2_with (with_reducible refine box_any rfl 24 (.tmp 0) rfl [.string (bs nm), .int .i64 3, .bool ex, .string (bs dt), .slice ao ks.length cap] rfl ?_; intro u hu bu zu; have c1 := hu.cell 1 _ rfl; have c2 := hu.cell 2 _ rfl; have c3 := hu.cell 3 _ rfl; have c4 := hu.cell 4 _ rfl; have BU := Lib.hid bu; clear hu bu)
      go_loopw [3] (fun i wx => ∃ k : Nat, k ≤ dt.length ∧ i = .int .i64 k ∧ (∀ j c, j < k → dt[j]? = some c → c ≠ 0) ∧ wx = u) (fun i _ => dt.length - (intOf i).toNat)
      case atStart => exact ⟨0, Nat.zero_le _, rfl, fun j c hj => by omega, rfl⟩
      case round =>
        obtain ⟨k, hk, rfl, hall, rfl⟩ := hrel
        have HALL := Lib.hid hall
        clear hall
        by_cases hlt : k < dt.length
        · have hlt' : (k : Int) < dt.length := by omega
          obtain ⟨c, hc⟩ : ∃ c, dt[k]? = some c := ⟨_, List.getElem?_eq_getElem hlt⟩
          have HC := Lib.hid hc
          clear hc
          by_cases h0 : c = 0
          · have hcz : ((c.toNat : Int) == 0) = true := by rw [h0]; rfl
            have hres : R = false := by
              have hcon : dt.contains 0 = true := List.contains_iff_mem.mpr (h0 ▸ List.mem_of_getElem? HC.out)
              rw [HR.out]
              unfold textOk
              rw [hcon]
              simp
            have HRES := Lib.hid hres
            clear h0 hres
            go_wp2_with ((with_reducible refine hold_at 25 rfl ?_); unfold held; refine index_str_g (by kernel_rfl) (.tmp 23) (.tmp 24) rfl dt k c (by kernel_rfl) (by kernel_rfl) HC.out ?_)
            go_ret
            exact ⟨by rw [HRES.out]; rfl, BU.out⟩
          · have hcz : ((c.toNat : Int) == 0) = false := by
              have : c.toNat ≠ 0 := fun e => h0 (UInt8.toNat_inj.mp (by simpa using e))
              simp
              omega
            have hall2 : ∀ j d, j < k + 1 → dt[j]? = some d → d ≠ 0 := fun j d hj hd => by
              by_cases e : j = k
              · subst e
                rw [HC.out] at hd
                cases hd
                exact h0
              · exact HALL.out j d (by omega) hd
            have HALL2 := Lib.hid hall2
            clear h0 hall2
            go_wp2_with ((with_reducible refine hold_at 25 rfl ?_); unfold held; refine index_str_g (by kernel_rfl) (.tmp 23) (.tmp 24) rfl dt k c (by kernel_rfl) (by kernel_rfl) HC.out ?_)
            go_roundw
            case rel => exact ⟨k + 1, by omega, by go_num, HALL2.out, by first | rfl | trivial⟩
            case measure => simp [intOf] <;> omega
        · obtain rfl : k = dt.length := by omega
          have hno : dt.contains 0 = false := by
            cases hq : dt.contains 0
            · rfl
            · obtain ⟨i, hi⟩ := List.getElem?_of_mem (List.contains_iff_mem.mp hq)
              exact absurd rfl (HALL.out i 0 (List.getElem?_eq_some_iff.1 hi).1 hi)
          have hres : R = (!ex && (decide (ks.length = 0) && (decide (1 ≤ dt.length) && decide (dt.length ≤ 255)))) := by
            rw [HR.out]
            unfold textOk
            rw [hno]
            cases ks <;> cases dt <;> simp
          have HRES := Lib.hid hres
          clear hno hres HALL
          cases ex
          · by_cases q0 : ks.length = 0
            · have q0' : ((ks.length : Int) == 0) = true := beq_iff_eq.mpr (by omega)
              by_cases q1 : 1 ≤ dt.length
              · have q1' : (1 : Int) ≤ dt.length := by omega
                go_wp2_with fail
                go_ret
                refine ⟨?_, BU.out⟩
                rw [HRES.out]
                simp [q0, q1]
                omega
              · have q1' : ¬ (1 : Int) ≤ dt.length := by omega
                go_wp2_with fail
                go_ret
                refine ⟨?_, BU.out⟩
                rw [HRES.out]
                simp [q0, q1]
            · have q0' : ((ks.length : Int) == 0) = false := beq_eq_false_iff_ne.mpr (by omega)
              go_wp2_with fail
              go_ret
              refine ⟨?_, BU.out⟩
              rw [HRES.out]
              simp [q0]
          · go_wp2_with fail
            go_ret
            refine ⟨?_, BU.out⟩
            rw [HRES.out]
            rfl
    · rw [if_neg k3] at hR
      have k1' : (kd == 1) = false := by simpa using k1
      have k2' : (kd == 2) = false := by simpa using k2
      have k3' : (kd == 3) = false := by simpa using k3
      have HR := Lib.hid hR
      clear hR k1 k2 k3
      go_wp2_with (with_reducible refine box_any rfl 24 (.tmp 0) rfl [.string (bs nm), .int .i64 kd, .bool ex, .string (bs dt), .slice ao ks.length cap] rfl ?_; intro u hu bu zu; have c1 := hu.cell 1 _ rfl; have BU := Lib.hid bu; clear hu bu)
      go_ret
      exact ⟨by rw [HR.out]; rfl, BU.out⟩
end Go.Proofs.Ytdpeblchndfdaaa

namespace Go.Proofs.Ytdpeblchndfdaaa
open Go.RowKit
set_option maxRecDepth 100000
theorem run_max_op {op : Oper} {a : Act} {w : World} (x y : Operand) (ho : op.op = .call { callee := .builtin .max, args := #[x, y], argTypes := #[3, 3] }) (m n r : Int) (hx : a.eval x = .int .i64 m) (hy : a.eval y = .int .i64 n) (hr : (if n > m then n else m) = r) :
    (execOp a.eval op).run Try.prog w = .ok (.value (.int .i64 r)) w := by
  have h2 : (Builtin.max_ #[3, 3] op.type #[.int .i64 m, .int .i64 n]).run Try.prog w = .ok (.int .i64 r) w := by rw [run_max_int2, hr]
  unfold execOp
  simp [ho, resolve, invoke, builtin, hx, hy, h2, Result.andThen]
set_option maxHeartbeats 4000000 in
theorem rdeep_any : ∀ (l h : Nat) (n : Nd) (ao : Option Addr) (cap : Nat) (w : World), 1 ≤ l → l ≤ 100 → Has any_ w h n ao →
    Calls Try.prog 62 #[n.v ao cap, .int .i64 (l : Int)] w fun e w' => e = .returned (.int .i64 (depthL l n : Int)) ∧ Below w.heap.size w w' := by
  intro l
  induction l with
  | zero => intro h n ao cap w h1; omega
  | succ l ih =>
    intro h n ao cap w _ hl hH
    have IH := Lib.hid ih
    have HH := Lib.hid hH
    clear ih hH
    obtain ⟨D, hD⟩ : ∃ D, D = depthL (l + 1) n := ⟨_, rfl⟩
    rw [← hD]
    unfold depthL at hD
    have HD := Lib.hid hD
    clear hD
    cases n with
    | mk nm kd ex dt ks =>
    go_enter Try.func62, Try.ntmps62
    by_cases hk : kd = 2
    · subst hk
      by_cases h0 : l = 0
      · subst h0
        go_wp2_with (with_reducible refine box_any rfl 24 (.tmp 0) rfl [.string (bs nm), .int .i64 2, .bool ex, .string (bs dt), .slice ao ks.length cap] rfl ?_; intro u hu bu zu; have c1 := hu.cell 1 _ rfl; have c4 := hu.cell 4 _ rfl; have HU := Lib.hid hu; have BU := Lib.hid bu; clear hu bu zu)
        go_ret
        refine ⟨?_, BU.out⟩
        rw [HD.out, if_pos (.inr (by trivial))]; rfl
      · have h1 : ((l : Int) + 1 == 1) = false := by simp; omega
        go_wp2_with (with_reducible refine box_any rfl 24 (.tmp 0) rfl [.string (bs nm), .int .i64 2, .bool ex, .string (bs dt), .slice ao ks.length cap] rfl ?_; intro u hu bu zu; have c1 := hu.cell 1 _ rfl; have HU := Lib.hid hu; have BU := Lib.hid bu; clear hu bu zu)
        cases h with
        | zero => exact HH.out.elim
        | succ h =>
        have hkl := HH.out.1
        unfold maxLen at hkl
        change ks.length ≤ _ at hkl
        have HKS := Lib.hid HH.out.2
        go_loopw [5, 6] (fun g i wx => ∃ k : Nat, k ≤ ks.length ∧ i = .int .i64 k ∧ g = .int .i64 (((1 + (ks.take k).foldl (fun g k => max g (depthL l k)) 0 : Nat)) : Int) ∧ At wx w.heap.size 24 [.string (bs nm), .int .i64 2, .bool ex, .string (bs dt), .slice ao ks.length cap] ∧ Below w.heap.size w wx) (fun _ i _ => ks.length - (intOf i).toNat)
        case atStart => exact ⟨0, Nat.zero_le _, rfl, rfl, HU.out, BU.out⟩
        clear HU BU c1
        case round =>
          obtain ⟨k, hk, rfl, rfl, hA, hB⟩ := hrel
          have c4 := hA.cell 4 _ rfl
          have HA := Lib.hid hA
          have HB := Lib.hid hB
          have hwz := hB.size
          clear hA hB
          obtain ⟨F, hF⟩ : ∃ F, F = (ks.take k).foldl (fun g k => max g (depthL l k)) 0 := ⟨_, rfl⟩
          rw [← hF]
          have hFl : F ≤ l := by rw [hF]; exact (foldl_max (depthL l) l _ 0 (Nat.zero_le _) (fun m _ => depthL_le l m (by omega))).2
          have HF := Lib.hid hF
          clear hF
          by_cases hlt : k < ks.length
          · have hlt' : (k : Int) < ks.length := by omega
            obtain ⟨m, hm⟩ : ∃ m, ks[k]? = some m := ⟨_, List.getElem?_eq_getElem hlt⟩
            obtain ⟨x, g, c, rfl, _, hK, hM⟩ := HKS.out k m hm
            have HK := Lib.hid (hK.kept (HB.out.block x.block hK.lt))
            have HM := Lib.hid (hM.below HB.out)
            have hMl := depthL_le l m (by omega)
            have hst : (ks.take (k + 1)).foldl (fun g k => max g (depthL l k)) 0 = max F (depthL l m) := by rw [List.take_add_one, hm, Option.toList_some, List.foldl_append, ← HF.out]; rfl
            have HST := Lib.hid hst
            clear hK hM hm hst
            go_wp2_with (first | (refine load_any rfl 24 (.tmp 25) rfl (x.add (k * 5)) rfl (m.cells g c) _ (fun j v hj => HK.out j v hj) Try.underlying24 rfl info_nd ?_))
            refine (IH.out h m g c wr (by omega) (by omega) HM.out).mono ?_
            rintro e w5 ⟨rfl, b5⟩
            have HA5 := Lib.hid (HA.out.below b5 HA.out.lt)
            have HB5 := Lib.hid (HB.out.trans (b5.mono hwz))
            generalize depthL l m = M at hMl HST ⊢
            have hmx : (if (1 + (M : Int)) > ((1 + F : Nat) : Int) then (1 + (M : Int)) else ((1 + F : Nat) : Int)) = ((1 + max F M : Nat) : Int) := by split <;> omega
            have HMX := Lib.hid hmx
            clear b5 HA HB HK HM hmx
            go_wp2_with (first
              | (refine list_val rfl (run_max_op (.tmp 21) (.tmp 30) rfl ((1 + F : Nat) : Int) (1 + (M : Int)) _ rfl rfl HMX.out) ?_))
            go_roundw
            case rel => exact ⟨k + 1, by omega, by go_num, by first | (rw [HST.out]; done) | (rw [HST.out]; congr 1; omega) | (rw [HST.out]; rfl), HA5.out, HB5.out⟩
            case measure => simp [intOf]; omega
          · obtain rfl : k = ks.length := by omega
            have hlt' : ¬ (ks.length : Int) < ks.length := by omega
            go_wp2_with fail
            go_ret
            refine ⟨?_, HB.out⟩
            rw [HD.out, if_neg (by rintro (h | h); exact h rfl; exact h0 h)]
            show Ending.returned (Value.int .i64 ((1 + F : Nat) : Int)) = .returned (.int .i64 ((1 + ks.foldl (fun g k => max g (depthL l k)) 0 : Nat) : Int))
            rw [HF.out, List.take_length]
    · have h1 : (kd == 2) = false := by simpa using hk
      go_wp2_with (with_reducible refine box_any rfl 24 (.tmp 0) rfl [.string (bs nm), .int .i64 kd, .bool ex, .string (bs dt), .slice ao ks.length cap] rfl ?_; intro u hu bu zu; have c1 := hu.cell 1 _ rfl; have HU := Lib.hid hu; have BU := Lib.hid bu; clear hu bu zu)
      go_ret
      refine ⟨?_, BU.out⟩
      rw [HD.out, if_pos (.inl hk)]; rfl
theorem rDeep_any (h : Nat) (n : Nd) (ao : Option Addr) (cap : Nat) (w : World) (hH : Has any_ w h n ao) :
    Calls Try.prog 37 #[n.v ao cap] w fun e w' => e = .returned (.int .i64 (depthL 14 n : Int)) ∧ Below w.heap.size w w' := by
  have HH := Lib.hid hH
  clear hH
  go_enter Try.func37, Try.ntmps37
  go_wp2_with (first | (with_reducible refine box_any rfl 24 (.tmp 0) rfl (n.cells ao cap) rfl ?_; intro u hu bu zu; have HU := Lib.hid hu; have BU := Lib.hid bu; clear hu bu) | (refine load_any rfl 24 (.tmp 1) rfl ⟨w.heap.size, 0, none⟩ rfl (n.cells ao cap) _ (fun j v hj => by rw [Addr.add0]; exact HU.out.cell j v hj) Try.underlying24 rfl info_nd ?_))
  refine (rdeep_any 14 h n ao cap u (by omega) (by omega) (HH.out.below BU.out)).mono ?_
  rintro e w5 ⟨rfl, b5⟩
  have HB := Lib.hid (BU.out.trans (b5.mono (by omega)))
  clear b5
  go_wp2
  go_ret
  exact ⟨rfl, HB.out⟩
/-- of the first kids -/
def sumN (h v : Nat) (l : List Nd) : Nat := (l.flatMap (nodesL h v)).length
def sumB (h v : Nat) (l : List Nd) : Nat := bytesL (l.flatMap (nodesL h v))
theorem sum_take (h v : Nat) (ks : List Nd) (k : Nat) (m : Nd) (hm : ks[k]? = some m) :
    sumN h v (ks.take (k + 1)) = sumN h v (ks.take k) + (nodesL h v m).length ∧ sumB h v (ks.take (k + 1)) = sumB h v (ks.take k) + bytesL (nodesL h v m) ∧
    sumN h v (ks.take (k + 1)) ≤ sumN h v ks ∧ sumB h v (ks.take (k + 1)) ≤ sumB h v ks := by
  have e := (flat_take (nodesL h v) ks k m hm).2
  have e2 : ks.flatMap (nodesL h v) = (ks.take (k + 1)).flatMap (nodesL h v) ++ (ks.drop (k + 1)).flatMap (nodesL h v) := by
    conv => lhs; rw [← List.take_append_drop (k + 1) ks, List.flatMap_append]
  refine ⟨?_, ?_, ?_, ?_⟩
  · unfold sumN; rw [e, List.length_append]
  · unfold sumB; rw [e, bytesL_app]
  · unfold sumN; rw [e2, List.length_append]; omega
  · unfold sumB; rw [e2, bytesL_app]; omega
theorem nodes_kids {h v : Nat} {n : Nd} (hd : depthL 14 n ≤ 12) : (nodesL (h + 1) v n).length = 1 + sumN h (v + 1) n.kids ∧ bytesL (nodesL (h + 1) v n) = n.data.length + sumB h (v + 1) n.kids := by
  rw [nodesL_succ, if_neg (by omega)]
  refine ⟨by rw [List.length_cons]; unfold sumN; omega, ?_⟩
  unfold sumB bytesL
  rw [List.map_cons, List.sum_cons]
set_option maxHeartbeats 4000000 in
theorem rsize_any : ∀ (h v : Nat) (n : Nd) (ao : Option Addr) (cap : Nat) (w : World), mayL h n = true → depthL 14 n ≤ 12 → Has any_ w h n ao → (nodesL h v n).length ≤ 1000000000000000000 → bytesL (nodesL h v n) ≤ 1000000000000000000 →
    Calls Try.prog 50 #[n.v ao cap] w fun e w' => e = .returned (.tuple #[.int .i64 ((nodesL h v n).length : Int), .int .i64 (bytesL (nodesL h v n) : Int)]) ∧ Below w.heap.size w w' := by
  intro h
  induction h with
  | zero => intro v n ao cap w hm; cases hm
  | succ h ih =>
    intro v n ao cap w hm hd hH hN hB
    have IH := Lib.hid ih
    have HH := Lib.hid hH
    obtain ⟨hn1, hn2⟩ := nodes_kids (h := h) (v := v) hd
    have hkid : ∀ m ∈ n.kids, mayL h m = true ∧ depthL 14 m ≤ 12 := fun m hmm => by
      rcases may_cases hm with ⟨_, h2⟩ | ⟨h1, _, _, h5⟩ | ⟨_, _, h2, _⟩
      · rw [h2] at hmm; cases hmm
      · exact ⟨kidsOk_all h5 m hmm, depth_kid h1 hmm hd⟩
      · rw [h2] at hmm; cases hmm
    rw [hn1] at hN ⊢
    rw [hn2] at hB ⊢
    have HKID := Lib.hid hkid
    have hdl : n.data.length ≤ 1000000000000000000 := by omega
    have HD := Lib.hid hd
    clear ih hH hn1 hn2 hkid hm hd
    cases n with
    | mk nm kd ex dt ks =>
    change dt.length ≤ _ at hdl
    change 1 + sumN h (v + 1) ks ≤ _ at hN
    change dt.length + sumB h (v + 1) ks ≤ _ at hB
    show Calls _ _ _ _ fun e w' => e = .returned (.tuple #[.int .i64 ((1 + sumN h (v + 1) ks : Nat) : Int), .int .i64 ((dt.length + sumB h (v + 1) ks : Nat) : Int)]) ∧ Below w.heap.size w w'
    go_enter Try.func50, Try.ntmps50
    go_wp2_with (first | (with_reducible refine box_any rfl 24 (.tmp 0) rfl [.string (bs nm), .int .i64 kd, .bool ex, .string (bs dt), .slice ao ks.length cap] rfl ?_; intro u hu bu zu; have HU := Lib.hid hu; have BU := Lib.hid bu; clear hu bu) | (refine load_any rfl 24 (.tmp 1) rfl ⟨w.heap.size, 0, none⟩ rfl [.string (bs nm), .int .i64 kd, .bool ex, .string (bs dt), .slice ao ks.length cap] _ (fun j v hj => by rw [Addr.add0]; exact HU.out.cell j v hj) Try.underlying24 rfl info_nd ?_))
    refine (rDeep_any (h + 1) ⟨nm, kd, ex, dt, ks⟩ ao cap u (HH.out.below BU.out)).mono ?_
    rintro e w1 ⟨rfl, b1⟩
    have z1 := b1.size
    have HU1 := Lib.hid (HU.out.below b1 HU.out.lt)
    have HB1 := Lib.hid (BU.out.trans (b1.mono (by omega)))
    have c3 := HU1.out.cell 3 _ rfl
    have hd12 : ¬ (12 : Int) < (depthL 14 ⟨nm, kd, ex, dt, ks⟩ : Int) := by have := HD.out; omega
    generalize (depthL 14 ⟨nm, kd, ex, dt, ks⟩ : Int) = dd at hd12 ⊢
    clear b1 HU BU
    go_wp2_with (first | go_quiet (fail) | go_region)
    clear c3
    have hkl := HH.out.1
    unfold maxLen at hkl
    change ks.length ≤ _ at hkl
    have HKS := Lib.hid HH.out.2
    go_loopw [4, 5, 6] (fun a b i wx => ∃ k : Nat, k ≤ ks.length ∧ a = .int .i64 ((1 + sumN h (v + 1) (ks.take k) : Nat) : Int) ∧ b = .int .i64 ((dt.length + sumB h (v + 1) (ks.take k) : Nat) : Int) ∧ i = .int .i64 k ∧ At wx w.heap.size 24 [.string (bs nm), .int .i64 kd, .bool ex, .string (bs dt), .slice ao ks.length cap] ∧ Below w.heap.size w wx) (fun _ _ i _ => ks.length - (intOf i).toNat)
    case atStart => exact ⟨0, Nat.zero_le _, rfl, rfl, rfl, HU1.out.below (below_drewN _ _) HU1.out.lt, HB1.out.trans ((below_drewN _ _).mono (by omega))⟩
    clear HU1 HB1
    case round =>
      obtain ⟨k, hk, rfl, rfl, rfl, hA, hB⟩ := hrel
      have c4 := hA.cell 4 _ rfl
      have HA := Lib.hid hA
      have HB := Lib.hid hB
      have hwz := hB.size
      clear hA hB
      by_cases hlt : k < ks.length
      · have hlt' : (k : Int) < ks.length := by omega
        obtain ⟨m, hm⟩ : ∃ m, ks[k]? = some m := ⟨_, List.getElem?_eq_getElem hlt⟩
        obtain ⟨x, g, c, rfl, _, hK, hM⟩ := HKS.out k m hm
        obtain ⟨hmm, hmd⟩ := HKID.out m (List.mem_of_getElem? hm)
        obtain ⟨s1, s2, s3, s4⟩ := sum_take h (v + 1) ks k m hm
        have HK := Lib.hid (hK.kept (HB.out.block x.block hK.lt))
        have HM := Lib.hid (hM.below HB.out)
        have HMM := Lib.hid hmm
        have HMD := Lib.hid hmd
        generalize sumN h (v + 1) (ks.take k) = SN at s1 ⊢
        generalize sumB h (v + 1) (ks.take k) = SB at s2 ⊢
        obtain ⟨TN, hTN⟩ : ∃ T, T = sumN h (v + 1) (ks.take (k + 1)) := ⟨_, rfl⟩
        obtain ⟨TB, hTB⟩ : ∃ T, T = sumB h (v + 1) (ks.take (k + 1)) := ⟨_, rfl⟩
        rw [← hTN] at s1 s3
        rw [← hTB] at s2 s4
        have HTN := Lib.hid hTN
        have HTB := Lib.hid hTB
        clear hK hM hm hmm hmd hTN hTB
        go_wp2_with (first | (refine load_any rfl 24 (.tmp 26) rfl (x.add (k * 5)) rfl (m.cells g c) _ (fun j v hj => HK.out j v hj) Try.underlying24 rfl info_nd ?_))
        refine (IH.out (v + 1) m g c wr HMM.out HMD.out HM.out (by omega) (by omega)).mono ?_
        rintro e w5 ⟨rfl, b5⟩
        have HA5 := Lib.hid (HA.out.below b5 HA.out.lt)
        have HB5 := Lib.hid (HB.out.trans (b5.mono hwz))
        generalize (nodesL h (v + 1) m).length = MN at s1 ⊢
        generalize bytesL (nodesL h (v + 1) m) = MB at s2 ⊢
        clear b5 HA HB HK HM HMM HMD
        go_wp2_with fail
        go_roundw
        case rel => exact ⟨k + 1, by omega, by rw [← HTN.out]; go_num, by rw [← HTB.out]; go_num, by go_num, HA5.out, HB5.out⟩
        case measure => simp [intOf] <;> omega
      · obtain rfl : k = ks.length := by omega
        have hlt' : ¬ (ks.length : Int) < ks.length := by omega
        rw [List.take_length]
        go_wp2_with fail
        go_ret2
        exact ⟨rfl, HB.out⟩
end Go.Proofs.Ytdpeblchndfdaaa

namespace Go.Proofs.Ytdpeblchndfdaaa
open Go.RowKit
set_option maxRecDepth 100000
theorem enters_rPutNum : ∀ args w, (callFunc 51 args).run Try.prog w = .ok (.enter 51 args) w := enters_of Try.func51 (by kernel_rfl) rfl
theorem enters_rPutText : ∀ args w, (callFunc 27 args).run Try.prog w = .ok (.enter 27 args) w := enters_of Try.func27 (by kernel_rfl) rfl
theorem enters_rnode : ∀ args w, (callFunc 26 args).run Try.prog w = .ok (.enter 26 args) w := enters_of Try.func26 (by kernel_rfl) rfl
set_option maxHeartbeats 2000000 in
theorem rCheck_any (h : Nat) (n : Nd) (ao : Option Addr) (cap : Nat) (w : World) (hH : Has any_ w h n ao) (hNB : ∀ j, NamB j n) (hGN : depthL 14 n ≤ 12 → mayL h n = true → (nodesL h 1 n).length ≤ 1000000000000000000 ∧ bytesL (nodesL h 1 n) ≤ 1000000000000000000) :
    Calls Try.prog 25 #[n.v ao cap] w fun e w' => e = .returned (.int .i64 (checkL h n)) ∧ Below w.heap.size w w' := by
  have HH := Lib.hid hH
  have HGN := Lib.hid hGN
  have HNB := Lib.hid hNB
  obtain ⟨R, hR⟩ : ∃ R, R = checkL h n := ⟨_, rfl⟩
  rw [← hR]
  unfold checkL at hR
  obtain ⟨D, hD⟩ : ∃ D, D = depthL 14 n := ⟨_, rfl⟩
  obtain ⟨M, hM⟩ : ∃ M, M = mayL h n := ⟨_, rfl⟩
  obtain ⟨C, hC⟩ : ∃ C, C = (nodesL h 1 n).length := ⟨_, rfl⟩
  obtain ⟨Y, hY⟩ : ∃ Y, Y = bytesL (nodesL h 1 n) := ⟨_, rfl⟩
  rw [← hD, ← hM, ← hC, ← hY] at hR
  have HD := Lib.hid hD
  have HM := Lib.hid hM
  have HC := Lib.hid hC
  have HY := Lib.hid hY
  have HR := Lib.hid hR
  clear hH hGN hNB hR hD hM hC hY
  cases n with
  | mk nm kd ex dt ks =>
  change Hid (R = if 12 < D then 3 else if !nm.isEmpty || !M then 2 else if 2000 < C ∨ 100000 < Y then 3 else 0) at HR
  go_enter Try.func25, Try.ntmps25
  go_wp2_with (first
    | (with_reducible refine box_any rfl 24 (.tmp 0) rfl [.string (bs nm), .int .i64 kd, .bool ex, .string (bs dt), .slice ao ks.length cap] rfl ?_; intro u hu bu zu; have HU := Lib.hid hu; have BU := Lib.hid bu; clear hu bu)
    | (refine load_any rfl 24 (.tmp 1) rfl ⟨w.heap.size, 0, none⟩ rfl [.string (bs nm), .int .i64 kd, .bool ex, .string (bs dt), .slice ao ks.length cap] _ (fun j v hj => by rw [Addr.add0]; exact HU.out.cell j v hj) Try.underlying24 rfl info_nd ?_))
  refine (rDeep_any h ⟨nm, kd, ex, dt, ks⟩ ao cap u (HH.out.below BU.out)).mono ?_
  rintro e w2 ⟨rfl, b2⟩
  rw [← HD.out]
  have z2 := b2.size
  have HU2 := Lib.hid (HU.out.below b2 HU.out.lt)
  have HB2 := Lib.hid (BU.out.trans (b2.mono (by omega)))
  clear b2 HU BU
  have a0 := HU2.out.cell 0 _ rfl
  have a1 := HU2.out.cell 1 _ rfl
  have a2 := HU2.out.cell 2 _ rfl
  have a3 := HU2.out.cell 3 _ rfl
  have a4 := HU2.out.cell 4 _ rfl
  by_cases hd : 12 < D
  · have hd' : (12 : Int) < D := by omega
    go_wp2_with fail
    go_ret
    refine ⟨?_, HB2.out⟩
    rw [HR.out, if_pos hd]; rfl
  · have hd' : ¬ (12 : Int) < D := by omega
    by_cases hn : nm = []
    · subst hn
      go_wp2_with fail
      refine (rmay_any h ⟨[], kd, ex, dt, ks⟩ ao cap w2 (HH.out.below HB2.out) HNB.out).mono ?_
      rintro e w3 ⟨rfl, b3⟩
      rw [← HM.out]
      have z3 := b3.size
      have HU3 := Lib.hid (HU2.out.below b3 HU2.out.lt)
      have HB3 := Lib.hid (HB2.out.trans (b3.mono (by omega)))
      clear b3 a0 a1 a2 a3 a4 HU2 HB2
      cases M
      · go_wp2_with fail
        go_ret
        refine ⟨?_, HB3.out⟩
        rw [HR.out, if_neg hd]; rfl
      · go_wp2_with (refine load_any rfl 24 (.tmp 1) rfl ⟨w.heap.size, 0, none⟩ rfl [.string (bs []), .int .i64 kd, .bool ex, .string (bs dt), .slice ao ks.length cap] _ (fun j v hj => by rw [Addr.add0]; exact HU3.out.cell j v hj) Try.underlying24 rfl info_nd ?_)
        obtain ⟨hG, hN⟩ := HGN.out (by rw [← HD.out]; omega) HM.out.symm
        have hCN : C ≤ 1000000000000000000 := by rw [HC.out]; omega
        refine (rsize_any h 1 ⟨[], kd, ex, dt, ks⟩ ao cap w3 HM.out.symm (by rw [← HD.out]; omega) (HH.out.below HB3.out) hG hN).mono ?_
        clear hG hN
        rintro e w4 ⟨rfl, b4⟩
        rw [← HC.out, ← HY.out]
        have HB4 := Lib.hid (HB3.out.trans (b4.mono (by omega)))
        clear b4 HU3 HB3
        by_cases hC : 2000 < C
        · have hC' : (2000 : Int) < C := by omega
          go_wp2_with fail
          go_ret
          refine ⟨?_, HB4.out⟩
          rw [HR.out, if_neg hd, if_neg (by simp), if_pos (.inl hC)]; rfl
        have hC' : ¬ (2000 : Int) < C := by omega
        by_cases hY : 100000 < Y
        · have hY' : (100000 : Int) < Y := by omega
          go_wp2_with fail
          go_ret
          refine ⟨?_, HB4.out⟩
          rw [HR.out, if_neg hd, if_neg (by simp), if_pos (.inr hY)]; rfl
        · have hY' : ¬ (100000 : Int) < Y := by omega
          go_wp2_with fail
          go_ret
          refine ⟨?_, HB4.out⟩
          rw [HR.out, if_neg hd, if_neg (by simp), if_neg (by omega)]; rfl
    · have hn2 : (nm == []) = false := by simpa using hn
      have hn3 : nm.isEmpty = false := by simpa using hn
      go_wp2_with fail
      go_ret
      refine ⟨?_, HB2.out⟩
      rw [HR.out, if_neg hd, hn3]; rfl
theorem refnum_l (l : List UInt8) (n : Nat) (w : World) (hl : l.length ≤ 1152921504606846976) (hn : n < Plain.big) :
    Calls Try.prog 51 #[.string (bs l), .int .u64 n] w fun e w' => e = .returned (.string (bs (l ++ Plain.row n))) ∧ Below w.heap.size w w' := by
  refine (refPutNum_any (bs l) n w (by rw [bs_size]; omega) hn).mono ?_
  rintro e w' ⟨rfl, b⟩
  exact ⟨by rw [bs_append], b⟩
theorem reftext_l (l t : List UInt8) (w : World) (hl : l.length ≤ 1152921504606846976) (ht : t.length ≤ 1152921504606846976) :
    Calls Try.prog 27 #[.string (bs l), .string (bs t)] w fun e w' => e = .returned (.string (bs (l ++ txt t))) ∧ Below w.heap.size w w' := by
  refine (refPutText_any (bs l) (bs t) w (by rw [bs_size]; omega) (by rw [bs_size]; omega)).mono ?_
  rintro e w' ⟨rfl, b⟩
  exact ⟨by rw [bs_size, bs_append, bs_append, List.append_assoc]; rfl, b⟩
set_option maxHeartbeats 8000000 in
theorem dnode_any : ∀ (h : Nat) (n : Nd) (ao : Option Addr) (cap : Nat) (l : List UInt8) (w : World), mayL h n = true → Has any_ w h n ao → l.length + (encL h n).length ≤ 1000000000 →
    Calls Try.prog 26 #[.string (bs l), n.v ao cap] w fun e w' => e = .returned (.string (bs (l ++ encL h n))) ∧ Below w.heap.size w w' := by
  intro h
  induction h with
  | zero => intro n ao cap l w hm; cases hm
  | succ h ih =>
    intro n ao cap l w hm hH hL
    have IH := Lib.hid ih
    have HH := Lib.hid hH
    have hmc := may_cases hm
    have hE : encL (h + 1) n = Plain.row n.kind.toNat ++ (if n.kind = 1 then Plain.row (if n.exec then 1 else 0) ++ txt n.data else if n.kind = 3 then txt n.data else Plain.row n.kids.length ++ n.kids.flatMap (entryL (encL h))) := rfl
    obtain ⟨R, hR⟩ : ∃ R, R = l ++ encL (h + 1) n := ⟨_, rfl⟩
    rw [← hR]
    rw [hE] at hR hL
    clear ih hH hm hE
    cases n with
    | mk nm kd ex dt ks =>
    rcases hmc with ⟨h1, _⟩ | ⟨h1, _, _, h5⟩ | ⟨h1, _, _, _⟩
    · change kd = 1 at h1
      subst h1
      change R = l ++ (Plain.row 1 ++ if (1 : Int) = 1 then Plain.row (if ex then 1 else 0) ++ txt dt else _) at hR
      change l.length + (Plain.row 1 ++ if (1 : Int) = 1 then Plain.row (if ex then 1 else 0) ++ txt dt else _).length ≤ _ at hL
      rw [if_pos rfl] at hR hL
      have hdl : dt.length ≤ (txt dt).length := by unfold txt; rw [List.length_append]; omega
      simp only [List.length_append] at hL
      have HR := Lib.hid hR
      clear hR
      go_enter Try.func26, Try.ntmps26
      go_wp2_with (with_reducible refine box_any rfl 24 (.tmp 1) rfl [.string (bs nm), .int .i64 1, .bool ex, .string (bs dt), .slice ao ks.length cap] rfl ?_; intro u hu bu zu; have c1 := hu.cell 1 _ rfl; have HU := Lib.hid hu; have BU := Lib.hid bu; clear hu bu)
      refine (refnum_l l 1 u (by omega) (by decide)).mono ?_
      rintro e w1 ⟨rfl, b1⟩
      have z1 := b1.size
      have HU1 := Lib.hid (HU.out.below b1 HU.out.lt)
      have HB1 := Lib.hid (BU.out.trans (b1.mono (by omega)))
      clear b1 HU BU c1
      have c1 := HU1.out.cell 1 _ rfl
      have c2 := HU1.out.cell 2 _ rfl
      have hxb : ∀ b : Bool, (if b then 1 else 0 : Nat) < Plain.big := by intro b; cases b <;> decide
      generalize hlf : l ++ Plain.row 1 = lf
      have hlfl : lf.length = l.length + (Plain.row 1).length := by rw [← hlf, List.length_append]
      have HLF := Lib.hid hlf
      clear hlf
      have hr1 : (Plain.row 0).length = 1 ∧ (Plain.row 1).length = 1 := ⟨row_one (by decide), row_one (by decide)⟩
      cases ex
      · go_wp2_with fail
        refine region_any (fun W => Below w1.heap.size w1 W) 7 (by kernel_rfl) ?_
        show wpAnyT _ _ _ _ _ _ _ _ _ w1.drew
        have S0 : Below w1.heap.size w1 w1.drew := below_drewN w1 1
        generalize w1.drew = v0 at S0 ⊢
        refine wpAnyT_takeN (i := 0) (v := .string (bs lf)) rfl (by decide) (by kernel_rfl) (by kernel_rfl) (by kernel_rfl) (fun _ _ _ h => h) (.inl ⟨by kernel_rfl, fun W hS => by kernel_rfl⟩) S0 ?_
        refine wpAnyT_takeN (i := 1) (v := .int .u64 0) rfl (by decide) (by kernel_rfl) (by kernel_rfl) (by kernel_rfl) (fun _ _ _ h => h) (.inl ⟨by kernel_rfl, fun W hS => by kernel_rfl⟩) S0 ?_
        refine wpAnyT_takeN (i := 3) (v := .pointer (some ⟨w.heap.size, 3, none⟩)) rfl (by decide) (by kernel_rfl) (by kernel_rfl) (by kernel_rfl) (fun _ _ _ h => h) (.inl ⟨by kernel_rfl, fun W hS => by kernel_rfl⟩) S0 ?_
        refine wpAnyT_takeN (i := 4) (v := .string (bs dt)) rfl (by decide) (by kernel_rfl) (by kernel_rfl) (by kernel_rfl) (fun _ _ _ h => h) (.inl ⟨by kernel_rfl, fun W hS => run_load_one 9 (.tmp 21) rfl ⟨w.heap.size, 3, none⟩ (by kernel_rfl) _ ((HU1.out.below hS HU1.out.lt).cell 3 _ rfl) _ Try.underlying9 rfl⟩) S0 ?_
        refine wpAnyT_call (i := 2) (by kernel_rfl) rfl (by kernel_rfl) 51 #[.string (bs lf), .int .u64 0] (run_call_func rfl enters_rPutNum _ (by kernel_rfl)) ((refnum_l lf 0 v0 (by omega) (by decide)).mono ?_)
        rintro e v2 ⟨rfl, b2⟩
        have S1 : Below w1.heap.size w1 v2 := S0.trans (b2.mono S0.size)
        refine ⟨_, rfl, S1, ?_⟩
        clear S0
        have S0 := S1
        refine wpAnyT_call (i := 5) (by kernel_rfl) rfl (by kernel_rfl) 27 #[.string (bs (lf ++ Plain.row 0)), .string (bs dt)] (run_call_func rfl enters_rPutText _ (by kernel_rfl)) ((reftext_l (lf ++ Plain.row 0) dt v2 (by rw [List.length_append]; omega) (by omega)).mono ?_)
        rintro e v3 ⟨rfl, b3⟩
        have S3 : Below w1.heap.size w1 v3 := S1.trans (b3.mono S1.size)
        refine ⟨_, rfl, S3, ?_⟩
        clear S0
        have S0 := S3
        refine wpAnyT_takeN (i := 6) (v := .string (bs (lf ++ Plain.row 0 ++ txt dt))) rfl (by decide) (by kernel_rfl) (by kernel_rfl) (by kernel_rfl) (fun _ _ _ h => h) (.inl ⟨by kernel_rfl, fun W hS => by kernel_rfl⟩) S0 ?_
        refine wpAnyT_done (by kernel_rfl) ?_ _
        simp only [Act.put, List.getElem_toArray, List.getElem_cons_succ, List.getElem_cons_zero, List.setIfInBounds_toArray, List.set_cons_zero, List.set_cons_succ]
        clear S0
        go_wp2_with fail
        go_ret
        exact ⟨by rw [HR.out, ← HLF.out]; simp only [List.append_assoc]; rfl, HB1.out.trans (S3.mono HB1.out.size)⟩
      · go_wp2_with fail
        refine region_any (fun W => Below w1.heap.size w1 W) 7 (by kernel_rfl) ?_
        show wpAnyT _ _ _ _ _ _ _ _ _ w1.drew
        have S0 : Below w1.heap.size w1 w1.drew := below_drewN w1 1
        generalize w1.drew = v0 at S0 ⊢
        refine wpAnyT_takeN (i := 0) (v := .string (bs lf)) rfl (by decide) (by kernel_rfl) (by kernel_rfl) (by kernel_rfl) (fun _ _ _ h => h) (.inl ⟨by kernel_rfl, fun W hS => by kernel_rfl⟩) S0 ?_
        refine wpAnyT_takeN (i := 1) (v := .int .u64 1) rfl (by decide) (by kernel_rfl) (by kernel_rfl) (by kernel_rfl) (fun _ _ _ h => h) (.inl ⟨by kernel_rfl, fun W hS => by kernel_rfl⟩) S0 ?_
        refine wpAnyT_takeN (i := 3) (v := .pointer (some ⟨w.heap.size, 3, none⟩)) rfl (by decide) (by kernel_rfl) (by kernel_rfl) (by kernel_rfl) (fun _ _ _ h => h) (.inl ⟨by kernel_rfl, fun W hS => by kernel_rfl⟩) S0 ?_
        refine wpAnyT_takeN (i := 4) (v := .string (bs dt)) rfl (by decide) (by kernel_rfl) (by kernel_rfl) (by kernel_rfl) (fun _ _ _ h => h) (.inl ⟨by kernel_rfl, fun W hS => run_load_one 9 (.tmp 21) rfl ⟨w.heap.size, 3, none⟩ (by kernel_rfl) _ ((HU1.out.below hS HU1.out.lt).cell 3 _ rfl) _ Try.underlying9 rfl⟩) S0 ?_
        refine wpAnyT_call (i := 2) (by kernel_rfl) rfl (by kernel_rfl) 51 #[.string (bs lf), .int .u64 1] (run_call_func rfl enters_rPutNum _ (by kernel_rfl)) ((refnum_l lf 1 v0 (by omega) (by decide)).mono ?_)
        rintro e v2 ⟨rfl, b2⟩
        have S1 : Below w1.heap.size w1 v2 := S0.trans (b2.mono S0.size)
        refine ⟨_, rfl, S1, ?_⟩
        clear S0
        have S0 := S1
        refine wpAnyT_call (i := 5) (by kernel_rfl) rfl (by kernel_rfl) 27 #[.string (bs (lf ++ Plain.row 1)), .string (bs dt)] (run_call_func rfl enters_rPutText _ (by kernel_rfl)) ((reftext_l (lf ++ Plain.row 1) dt v2 (by rw [List.length_append]; omega) (by omega)).mono ?_)
        rintro e v3 ⟨rfl, b3⟩
        have S3 : Below w1.heap.size w1 v3 := S1.trans (b3.mono S1.size)
        refine ⟨_, rfl, S3, ?_⟩
        clear S0
        have S0 := S3
        refine wpAnyT_takeN (i := 6) (v := .string (bs (lf ++ Plain.row 1 ++ txt dt))) rfl (by decide) (by kernel_rfl) (by kernel_rfl) (by kernel_rfl) (fun _ _ _ h => h) (.inl ⟨by kernel_rfl, fun W hS => by kernel_rfl⟩) S0 ?_
        refine wpAnyT_done (by kernel_rfl) ?_ _
        simp only [Act.put, List.getElem_toArray, List.getElem_cons_succ, List.getElem_cons_zero, List.setIfInBounds_toArray, List.set_cons_zero, List.set_cons_succ]
        clear S0
        go_wp2_with fail
        go_ret
        exact ⟨by rw [HR.out, ← HLF.out]; simp only [List.append_assoc]; rfl, HB1.out.trans (S3.mono HB1.out.size)⟩
    · change kd = 2 at h1
      change kidsOk (mayL h) ks = true at h5
      subst h1
      change R = l ++ (Plain.row 2 ++ if (2 : Int) = 1 then _ else if (2 : Int) = 3 then _ else Plain.row ks.length ++ ks.flatMap (entryL (encL h))) at hR
      change l.length + (Plain.row 2 ++ if (2 : Int) = 1 then _ else if (2 : Int) = 3 then _ else Plain.row ks.length ++ ks.flatMap (entryL (encL h))).length ≤ _ at hL
      rw [if_neg (by decide), if_neg (by decide)] at hR hL
      simp only [List.length_append] at hL
      have HR := Lib.hid hR
      have hkk := Lib.hid (kidsOk_all h5)
      have hkl := HH.out.1
      unfold maxLen at hkl
      change ks.length ≤ _ at hkl
      have HKS := Lib.hid HH.out.2
      clear hR h5
      go_enter Try.func26, Try.ntmps26
      go_wp2_with (with_reducible refine box_any rfl 24 (.tmp 1) rfl [.string (bs nm), .int .i64 2, .bool ex, .string (bs dt), .slice ao ks.length cap] rfl ?_; intro u hu bu zu; have c1 := hu.cell 1 _ rfl; have HU := Lib.hid hu; have BU := Lib.hid bu; clear hu bu)
      refine (refnum_l l 2 u (by omega) (by decide)).mono ?_
      rintro e w1 ⟨rfl, b1⟩
      have z1 := b1.size
      have HU1 := Lib.hid (HU.out.below b1 HU.out.lt)
      have HB1 := Lib.hid (BU.out.trans (b1.mono (by omega)))
      clear b1 HU BU c1
      have c1 := HU1.out.cell 1 _ rfl
      have c4 := HU1.out.cell 4 _ rfl
      generalize hlf : l ++ Plain.row 2 = lf
      have hlfl : lf.length = l.length + (Plain.row 2).length := by rw [← hlf, List.length_append]
      have HLF := Lib.hid hlf
      clear hlf
      have hwr : IntKind.u64.wrap (ks.length : Int) = (ks.length : Int) := by rw [IntKind.wrap_u64]; omega
      go_wp2_with fail
      refine (refnum_l lf ks.length w1 (by omega) (by unfold Plain.big; omega)).mono ?_
      rintro e w2 ⟨rfl, b2⟩
      have HU2 := Lib.hid (HU1.out.below b2 HU1.out.lt)
      have HB2 := Lib.hid (HB1.out.trans (b2.mono HB1.out.size))
      clear b2 HU1 HB1 c1 c4
      generalize hlg : lf ++ Plain.row ks.length = lg
      have hlgl : lg.length = lf.length + (Plain.row ks.length).length := by rw [← hlg, List.length_append]
      have HLG := Lib.hid hlg
      clear hlg
      go_wp2_with fail
      go_loopw [0, 6] (fun s i wx => ∃ k : Nat, k ≤ ks.length ∧ s = .string (bs (lg ++ (ks.take k).flatMap (entryL (encL h)))) ∧ i = .int .i64 k ∧ At wx w.heap.size 24 [.string (bs nm), .int .i64 2, .bool ex, .string (bs dt), .slice ao ks.length cap] ∧ Below w.heap.size w wx) (fun _ i _ => ks.length - (intOf i).toNat)
      case atStart => exact ⟨0, Nat.zero_le _, by rw [List.take_zero, List.flatMap_nil, List.append_nil], rfl, HU2.out, HB2.out⟩
      clear HU2 HB2
      case round =>
        obtain ⟨k, hk, rfl, rfl, hA, hB⟩ := hrel
        have c4 := hA.cell 4 _ rfl
        have HA := Lib.hid hA
        have HB := Lib.hid hB
        have hwz := hB.size
        clear hA hB
        by_cases hlt : k < ks.length
        · have hlt' : (k : Int) < ks.length := by omega
          obtain ⟨m, hm⟩ : ∃ m, ks[k]? = some m := ⟨_, List.getElem?_eq_getElem hlt⟩
          obtain ⟨x, g, c, rfl, _, hK, hM⟩ := HKS.out k m hm
          have HMM := Lib.hid (hkk.out m (List.mem_of_getElem? hm))
          obtain ⟨f1, f2⟩ := flat_take (entryL (encL h)) ks k m hm
          have HK := Lib.hid (hK.kept (HB.out.block x.block hK.lt))
          have HM := Lib.hid (hM.below HB.out)
          have HF2 := Lib.hid f2
          generalize (ks.take k).flatMap (entryL (encL h)) = P at f1 HF2 ⊢
          have hel : (entryL (encL h) m).length = (txt m.name).length + (encL h m).length := by unfold entryL; rw [List.length_append]
          have htl : m.name.length ≤ (txt m.name).length := by unfold txt; rw [List.length_append]; omega
          clear hK hM hm f2
          go_wp2_with fail
          refine region_any (fun W => Below wr.heap.size wr W) 15 (by kernel_rfl) ?_
          show wpAnyT _ _ _ _ _ _ _ _ _ wr.drew
          have S0 : Below wr.heap.size wr wr.drew := below_drewN wr 1
          generalize wr.drew = v0 at S0 ⊢
          refine wpAnyT_takeN (i := 0) (v := .string (bs (lg ++ P))) rfl (by decide) (by kernel_rfl) (by kernel_rfl) (by kernel_rfl) (fun _ _ _ h => h) (.inl ⟨by kernel_rfl, fun W hS => by kernel_rfl⟩) S0 ?_
          refine wpAnyT_takeN (i := 1) (v := .pointer (some ⟨w.heap.size, 4, none⟩)) rfl (by decide) (by kernel_rfl) (by kernel_rfl) (by kernel_rfl) (fun _ _ _ h => h) (.inl ⟨by kernel_rfl, fun W hS => by kernel_rfl⟩) S0 ?_
          refine wpAnyT_takeN (i := 2) (v := .slice (some x) ks.length cap) rfl (by decide) (by kernel_rfl) (by kernel_rfl) (by kernel_rfl) (fun _ _ _ h => h) (.inl ⟨by kernel_rfl, fun W hS => run_load_one 22 (.tmp 44) rfl ⟨w.heap.size, 4, none⟩ (by kernel_rfl) _ ((HA.out.below hS HA.out.lt).cell 4 _ rfl) _ Try.underlying22 rfl⟩) S0 ?_
          refine wpAnyT_takeN (i := 3) (v := .int .i64 (k : Int)) rfl (by decide) (by kernel_rfl) (by kernel_rfl) (by kernel_rfl) (fun _ _ _ h => h) (.inl ⟨by kernel_rfl, fun W hS => by kernel_rfl⟩) S0 ?_
          refine wpAnyT_takeN (i := 4) (v := .pointer (some (x.add (k * 5)))) rfl (by decide) (by kernel_rfl) (by kernel_rfl) (by kernel_rfl) (fun _ _ _ h => h) (.inl ⟨by kernel_rfl, fun W hS => run_index_op 22 24 (.tmp 45) (.tmp 46) rfl x ks.length cap k (by kernel_rfl) (by kernel_rfl) hlt 5 _ rfl Try.underlying22 info_nd⟩) S0 ?_
          refine wpAnyT_takeN (i := 5) (v := .pointer (some ((x.add (k * 5)).add 0))) rfl (by decide) (by kernel_rfl) (by kernel_rfl) (by kernel_rfl) (fun _ _ _ h => h) (.inl ⟨by kernel_rfl, fun W hS => by kernel_rfl⟩) S0 ?_
          refine wpAnyT_takeN (i := 6) (v := .string (bs m.name)) rfl (by decide) (by kernel_rfl) (by kernel_rfl) (by kernel_rfl) (fun _ _ _ h => h) (.inl ⟨by kernel_rfl, fun W hS => run_load_one 9 (.tmp 48) rfl ((x.add (k * 5)).add 0) (by kernel_rfl) _ ((HK.out.kept (hS.block _ HK.out.lt)) 0 _ rfl) _ Try.underlying9 rfl⟩) S0 ?_
          refine wpAnyT_takeN (i := 8) (v := .pointer (some ⟨w.heap.size, 4, none⟩)) rfl (by decide) (by kernel_rfl) (by kernel_rfl) (by kernel_rfl) (fun _ _ _ h => h) (.inl ⟨by kernel_rfl, fun W hS => by kernel_rfl⟩) S0 ?_
          refine wpAnyT_takeN (i := 9) (v := .slice (some x) ks.length cap) rfl (by decide) (by kernel_rfl) (by kernel_rfl) (by kernel_rfl) (fun _ _ _ h => h) (.inl ⟨by kernel_rfl, fun W hS => run_load_one 22 (.tmp 51) rfl ⟨w.heap.size, 4, none⟩ (by kernel_rfl) _ ((HA.out.below hS HA.out.lt).cell 4 _ rfl) _ Try.underlying22 rfl⟩) S0 ?_
          refine wpAnyT_takeN (i := 10) (v := .int .i64 (k : Int)) rfl (by decide) (by kernel_rfl) (by kernel_rfl) (by kernel_rfl) (fun _ _ _ h => h) (.inl ⟨by kernel_rfl, fun W hS => by kernel_rfl⟩) S0 ?_
          refine wpAnyT_takeN (i := 11) (v := .pointer (some (x.add (k * 5)))) rfl (by decide) (by kernel_rfl) (by kernel_rfl) (by kernel_rfl) (fun _ _ _ h => h) (.inl ⟨by kernel_rfl, fun W hS => run_index_op 22 24 (.tmp 52) (.tmp 53) rfl x ks.length cap k (by kernel_rfl) (by kernel_rfl) hlt 5 _ rfl Try.underlying22 info_nd⟩) S0 ?_
          refine wpAnyT_takeN (i := 12) (v := m.v g c) rfl (by decide) (by kernel_rfl) (by kernel_rfl) (by kernel_rfl) (fun _ _ _ h => h) (.inl ⟨by kernel_rfl, fun W hS => run_load_nd (.tmp 54) rfl (x.add (k * 5)) (by kernel_rfl) m g c (HK.out.kept (hS.block _ HK.out.lt))⟩) S0 ?_
          refine wpAnyT_call (i := 7) (by kernel_rfl) rfl (by kernel_rfl) 27 #[.string (bs (lg ++ P)), .string (bs m.name)] (run_call_func rfl enters_rPutText _ (by kernel_rfl)) ((reftext_l (lg ++ P) m.name v0 (by rw [List.length_append]; omega) (by omega)).mono ?_)
          rintro e v2 ⟨rfl, b2⟩
          have S1 : Below wr.heap.size wr v2 := S0.trans (b2.mono S0.size)
          refine ⟨_, rfl, S1, ?_⟩
          clear S0
          refine wpAnyT_call (i := 13) (by kernel_rfl) rfl (by kernel_rfl) 26 #[.string (bs (lg ++ P ++ txt m.name)), m.v g c] (run_call_func rfl enters_rnode _ (by kernel_rfl)) ((IH.out m g c (lg ++ P ++ txt m.name) v2 HMM.out (HM.out.below S1) (by simp only [List.length_append]; omega)).mono ?_)
          rintro e v3 ⟨rfl, b3⟩
          have S0 : Below wr.heap.size wr v3 := S1.trans (b3.mono S1.size)
          refine ⟨_, rfl, S0, ?_⟩
          refine wpAnyT_takeN (i := 14) (v := .string (bs (lg ++ P ++ txt m.name ++ encL h m))) rfl (by decide) (by kernel_rfl) (by kernel_rfl) (by kernel_rfl) (fun _ _ _ h => h) (.inl ⟨by kernel_rfl, fun W hS => by kernel_rfl⟩) S0 ?_
          refine wpAnyT_done (by kernel_rfl) ?_ _
          simp only [Act.put, List.getElem_toArray, List.getElem_cons_succ, List.getElem_cons_zero, List.setIfInBounds_toArray, List.set_cons_zero, List.set_cons_succ]
          have HA2 := Lib.hid (HA.out.below S0 HA.out.lt)
          have HB2 := Lib.hid (HB.out.trans (S0.mono hwz))
          clear S0 S1 b2 b3
          go_wp2_with fail
          go_roundw
          case rel => exact ⟨k + 1, by omega, by rw [HF2.out]; simp only [entryL, List.append_assoc], by go_num, HA2.out, HB2.out⟩
          case measure => simp [intOf] <;> omega
        · obtain rfl : k = ks.length := by omega
          have hlt' : ¬ (ks.length : Int) < ks.length := by omega
          rw [List.take_length]
          go_wp2_with fail
          go_ret
          refine ⟨?_, HB.out⟩
          rw [HR.out, ← HLG.out, ← HLF.out]
          simp only [List.append_assoc]
          rfl
    · change kd = 3 at h1
      subst h1
      change R = l ++ (Plain.row 3 ++ if (3 : Int) = 1 then _ else if (3 : Int) = 3 then txt dt else _) at hR
      change l.length + (Plain.row 3 ++ if (3 : Int) = 1 then _ else if (3 : Int) = 3 then txt dt else _).length ≤ _ at hL
      rw [if_neg (by decide), if_pos rfl] at hR hL
      have hdl : dt.length ≤ (txt dt).length := by unfold txt; rw [List.length_append]; omega
      simp only [List.length_append] at hL
      have HR := Lib.hid hR
      clear hR
      go_enter Try.func26, Try.ntmps26
      go_wp2_with (with_reducible refine box_any rfl 24 (.tmp 1) rfl [.string (bs nm), .int .i64 3, .bool ex, .string (bs dt), .slice ao ks.length cap] rfl ?_; intro u hu bu zu; have c1 := hu.cell 1 _ rfl; have HU := Lib.hid hu; have BU := Lib.hid bu; clear hu bu)
      refine (refnum_l l 3 u (by omega) (by decide)).mono ?_
      rintro e w1 ⟨rfl, b1⟩
      have z1 := b1.size
      have HU1 := Lib.hid (HU.out.below b1 HU.out.lt)
      have HB1 := Lib.hid (BU.out.trans (b1.mono (by omega)))
      clear b1 HU BU c1
      have c1 := HU1.out.cell 1 _ rfl
      have c3 := HU1.out.cell 3 _ rfl
      generalize hlf : l ++ Plain.row 3 = lf
      have hlfl : lf.length = l.length + (Plain.row 3).length := by rw [← hlf, List.length_append]
      have HLF := Lib.hid hlf
      clear hlf
      go_wp2_with fail
      refine (reftext_l lf dt w1 (by omega) (by omega)).mono ?_
      rintro e w2 ⟨rfl, b2⟩
      have HB2 := Lib.hid (HB1.out.trans (b2.mono HB1.out.size))
      clear b2 HU1 HB1 c1 c3
      go_wp2_with fail
      go_ret
      refine ⟨?_, HB2.out⟩
      rw [HR.out, ← HLF.out]
      simp only [List.append_assoc]
      rfl
set_option maxHeartbeats 1000000 in
theorem rEncode_any (h : Nat) (n : Nd) (ao : Option Addr) (cap : Nat) (w : World) (hH : Has any_ w h n ao) (hNB : ∀ j, NamB j n) (hGN : depthL 14 n ≤ 12 → mayL h n = true → (nodesL h 1 n).length ≤ 1000000000000000000 ∧ bytesL (nodesL h 1 n) ≤ 1000000000000000000)
    (hEL : checkL h n = 0 → (encL h n).length ≤ 900000000) :
    Calls Try.prog 11 #[n.v ao cap] w fun e w' => e = .returned (.tuple #[.string (bs (encS h n)), .int .i64 (encE h n)]) ∧ Below w.heap.size w w' := by
  have HH := Lib.hid hH
  have HC := Lib.hid (fun u (b : Below w.heap.size w u) => rCheck_any h n ao cap u (hH.below b) hNB hGN)
  have HEL := Lib.hid hEL
  obtain ⟨S, hS⟩ : ∃ S, S = encS h n := ⟨_, rfl⟩
  obtain ⟨E, hE⟩ : ∃ E, E = encE h n := ⟨_, rfl⟩
  rw [← hS, ← hE]
  unfold encS at hS
  unfold encE at hE
  have HS := Lib.hid hS
  have HE := Lib.hid hE
  clear hH hNB hGN hEL hS hE
  cases n with
  | mk nm kd ex dt ks =>
  go_enter Try.func11, Try.ntmps11
  go_wp2_with (first
    | (with_reducible refine box_any rfl 24 (.tmp 0) rfl [.string (bs nm), .int .i64 kd, .bool ex, .string (bs dt), .slice ao ks.length cap] rfl ?_; intro u hu bu zu; have HU := Lib.hid hu; have BU := Lib.hid bu; clear hu bu)
    | (refine load_any rfl 24 (.tmp 1) rfl ⟨w.heap.size, 0, none⟩ rfl [.string (bs nm), .int .i64 kd, .bool ex, .string (bs dt), .slice ao ks.length cap] _ (fun j v hj => by rw [Addr.add0]; exact HU.out.cell j v hj) Try.underlying24 rfl info_nd ?_))
  refine (HC.out u BU.out).mono ?_
  rintro e w2 ⟨rfl, b2⟩
  have z2 := b2.size
  have HU2 := Lib.hid (HU.out.below b2 HU.out.lt)
  have HB2 := Lib.hid (BU.out.trans (b2.mono (by omega)))
  clear b2 HU BU HC
  obtain ⟨C, hC⟩ : ∃ C, C = checkL h ⟨nm, kd, ex, dt, ks⟩ := ⟨_, rfl⟩
  rw [← hC] at HS HE HEL ⊢
  have HCC := Lib.hid hC
  clear hC
  by_cases h0 : C = 0
  · subst h0
    obtain ⟨g1, g2, g3, g4, g5⟩ := check_may HCC.out.symm
    have hel := HEL.out rfl
    have HG3 := Lib.hid g3
    clear HEL g1 g2 g3 g4 g5 HCC
    go_wp2_with fail
    refine region_any (fun W => Below w2.heap.size w2 W) 4 (by kernel_rfl) ?_
    show wpAnyT _ _ _ _ _ _ _ _ _ w2.drew
    have S0 : Below w2.heap.size w2 w2.drew := below_drewN w2 1
    generalize w2.drew = v0 at S0 ⊢
    refine wpAnyT_takeN (i := 1) (v := Nd.v ⟨nm, kd, ex, dt, ks⟩ ao cap) rfl (by decide) (by kernel_rfl) (by kernel_rfl) (by kernel_rfl) (fun _ _ _ h => h) (.inl ⟨by kernel_rfl, fun W hS => run_load_nd (.tmp 1) rfl ⟨w.heap.size, 0, none⟩ (by kernel_rfl) ⟨nm, kd, ex, dt, ks⟩ ao cap (fun j v hj => by rw [Addr.add0]; exact (HU2.out.below hS HU2.out.lt).cell j v hj)⟩) S0 ?_
    refine wpAnyT_call (i := 0) (by kernel_rfl) rfl (by kernel_rfl) 27 #[.string (bs []), .string (bs [119, 104, 105, 115, 107, 45, 116, 114, 101, 101])] (run_call_func rfl enters_rPutText _ (by kernel_rfl)) ((reftext_l [] [119, 104, 105, 115, 107, 45, 116, 114, 101, 101] v0 (by decide) (by decide)).mono ?_)
    rintro e v2 ⟨rfl, b3⟩
    have S1 : Below w2.heap.size w2 v2 := S0.trans (b3.mono S0.size)
    refine ⟨_, rfl, S1, ?_⟩
    clear S0
    rw [show ([] : List UInt8) ++ txt [119, 104, 105, 115, 107, 45, 116, 114, 101, 101] = headB from rfl]
    have hhl : headB.length = 11 := by decide +kernel
    refine wpAnyT_call (i := 2) (by kernel_rfl) rfl (by kernel_rfl) 26 #[.string (bs headB), Nd.v ⟨nm, kd, ex, dt, ks⟩ ao cap] (run_call_func rfl enters_rnode _ (by kernel_rfl)) ((dnode_any h ⟨nm, kd, ex, dt, ks⟩ ao cap headB v2 HG3.out ((HH.out.below HB2.out).below S1) (by omega)).mono ?_)
    rintro e v3 ⟨rfl, b4⟩
    have S0 : Below w2.heap.size w2 v3 := S1.trans (b4.mono S1.size)
    refine ⟨_, rfl, S0, ?_⟩
    generalize hX : headB ++ encL h ⟨nm, kd, ex, dt, ks⟩ = X at HS HE ⊢
    have hxl : X.length = 11 + (encL h ⟨nm, kd, ex, dt, ks⟩).length := by rw [← hX, List.length_append, hhl]
    clear hX
    refine wpAnyT_takeN (i := 3) (v := .string (bs X)) rfl (by decide) (by kernel_rfl) (by kernel_rfl) (by kernel_rfl) (fun _ _ _ h => h) (.inl ⟨by kernel_rfl, fun W hS => by kernel_rfl⟩) S0 ?_
    refine wpAnyT_done (by kernel_rfl) ?_ _
    simp only [Act.put, List.getElem_toArray, List.getElem_cons_succ, List.getElem_cons_zero, List.setIfInBounds_toArray, List.set_cons_zero, List.set_cons_succ]
    have HB3 := Lib.hid (HB2.out.trans (S0.mono HB2.out.size))
    clear S0 S1 b3 b4
    by_cases hl : 60000 < X.length
    · have hl' : (60000 : Int) < X.length := by omega
      go_wp2_with fail
      go_ret2
      refine ⟨?_, HB3.out⟩
      have e1 := HS.out
      have e2 := HE.out
      rw [if_neg (fun k => k rfl), if_pos hl] at e1 e2
      rw [e1, e2]
      rfl
    · have hl' : ¬ (60000 : Int) < X.length := by omega
      go_wp2_with fail
      go_ret2
      refine ⟨?_, HB3.out⟩
      have e1 := HS.out
      have e2 := HE.out
      rw [if_neg (fun k => k rfl), if_neg hl] at e1 e2
      rw [e1, e2]
      rfl
  · have h0' : (C == 0) = false := by simpa using h0
    go_wp2_with fail
    go_ret2
    refine ⟨?_, HB2.out⟩
    rw [HS.out, HE.out, if_pos h0, if_pos h0]
    rfl
end Go.Proofs.Ytdpeblchndfdaaa

namespace Go.Proofs.Ytdpeblchndfdaaa
open Go.RowKit
set_option maxRecDepth 100000
theorem bytes_le {l : List (Nat × Nd)} {b : Nat} : (∀ p ∈ l, p.2.data.length ≤ b) → bytesL l ≤ b * l.length := by
  induction l with
  | nil => intro _; exact Nat.zero_le _
  | cons p r ih =>
    intro h
    have := ih (fun q hq => h q (List.mem_cons_of_mem _ hq))
    have h1 := h p (List.mem_cons_self ..)
    have e : bytesL (p :: r) = p.2.data.length + bytesL r := by unfold bytesL; rw [List.map_cons, List.sum_cons]
    rw [e, List.length_cons, Nat.mul_add, Nat.mul_one]
    omega
theorem renc_any (l : Nat) (n : Nd) (ao : Option Addr) (cap : Nat) (w : World) (hH : Has any_ w 15 (shortL l n) ao) (hN : ∀ k, NamB k n) :
    Calls Try.prog 11 #[(shortL l n).v ao cap] w fun e w' => e = .returned (.tuple #[.string (bs (encS 15 (shortL l n))), .int .i64 (encE 15 (shortL l n))]) ∧ Below w.heap.size w w' :=
  rEncode_any 15 _ ao cap w hH (fun j => short_namB j l n hN) (fun hd hm => by
    obtain ⟨h1, h2⟩ := short_good l n hd hm
    have h2' : (nodesL 15 1 (shortL l n)).length ≤ lim := h2
    have l1 := lim_ok
    have l2 := lim_ok2
    have hb := bytes_le (b := 300) (fun p hp => (h1 p hp).2)
    have hc : 300 * (nodesL 15 1 (shortL l n)).length ≤ 300 * lim := Nat.mul_le_mul_left _ h2'
    exact ⟨by omega, by omega⟩) enc_short
set_option maxHeartbeats 2000000 in
theorem lays_law (g1 : Nat) (n1 : Nd) (o1 : Option Addr) (c1 : Nat) (w : World) (h1 : Has any_ w g1 n1 o1) (hNB : ∀ k, NamB k n1) :
    Calls Try.prog 3 #[n1.v o1 c1] w fun e w' => e = .returned (.bool true) ∧ Below w.heap.size w w' := by
  have H1 := Lib.hid h1
  have HNB := Lib.hid hNB
  clear h1 hNB
  go_enter Try.func3, Try.ntmps3
  go_wp2_with (first
    | (with_reducible refine box_any rfl 24 (.tmp 0) rfl (n1.cells o1 c1) rfl ?_; intro u1 hu1 bu1 zu1; have HA1 := Lib.hid hu1; have BU1 := Lib.hid bu1; clear hu1 bu1)
    | (refine load_any rfl 24 (.tmp 1) rfl ⟨w.heap.size, 0, none⟩ rfl (n1.cells o1 c1) _ (fun j v hj => by rw [Addr.add0]; exact HA1.out.cell j v hj) Try.underlying24 rfl info_nd ?_))
  refine (short_any 14 g1 n1 o1 c1 u1 (by decide) (H1.out.below BU1.out)).mono ?_
  rintro e w3 ⟨b3, aoA, cA, rfl, hA3⟩
  have z3 := b3.size
  obtain ⟨A, hA⟩ : ∃ A, A = shortL 14 n1 := ⟨_, rfl⟩
  rw [← hA] at hA3 ⊢
  have HX3 := Lib.hid hA3
  have HA3 := Lib.hid (HA1.out.below b3 HA1.out.lt)
  have BU3 := Lib.hid (BU1.out.trans (b3.mono (by omega)))
  have HNA := Lib.hid hA
  clear b3 hA3 hA HA1 BU1
  go_wp2_with (first
    | (refine store_any rfl 24 (.tmp 1) (.tmp 8) rfl w.heap.size rfl (A.cells aoA cA) rfl _ HA3.out rfl info_nd (nd_one _ _ _) ?_; intro u4 hu4 tu4; have HA4 := Lib.hid hu4; have BU4 := Lib.hid (tu4.below BU3.out (by simp) (Nat.le_refl _)); have z4 := tu4.size; have HX4 := Lib.hid ((Has.kept (S := fun i => u1.heap.size ≤ i) (fun _ h _ => h) (fun i (hi : u1.heap.size ≤ i) hlt => tu4.block i hlt (by simp; omega)) _ _ _ HX3.out).any); clear hu4 tu4)
    | (refine load_any rfl 24 (.tmp 1) rfl ⟨w.heap.size, 0, none⟩ rfl (A.cells aoA cA) _ (fun j v hj => by rw [Addr.add0]; exact HA4.out.cell j v hj) Try.underlying24 rfl info_nd ?_))
  clear HA3 HX3 BU3 z3 z4 zu1
  have EA : ∀ W, Has any_ W 15 A aoA → Calls Try.prog 10 #[A.v aoA cA] W fun e w' => e = .returned (.tuple #[.string (bs (encS 15 A)), .int .i64 (encE 15 A)]) ∧ Below W.heap.size W w' := by rw [HNA.out]; exact fun W h => enc_any 14 n1 aoA cA W h
  have EB : ∀ W, Has any_ W 15 A aoA → Calls Try.prog 11 #[A.v aoA cA] W fun e w' => e = .returned (.tuple #[.string (bs (encS 15 A)), .int .i64 (encE 15 A)]) ∧ Below W.heap.size W w' := by rw [HNA.out]; exact fun W h => renc_any 14 n1 aoA cA W h HNB.out
  have HEB := Lib.hid EB
  refine (EA u4 HX4.out).mono ?_
  rintro e w5 ⟨rfl, b5⟩
  have HA5 := Lib.hid (HA4.out.below b5 HA4.out.lt)
  have HX5 := Lib.hid (HX4.out.below b5)
  have BU5 := Lib.hid (BU4.out.trans (b5.mono BU4.out.size))
  clear b5 EA EB HA4 HX4 BU4 HNA
  go_wp2_with (refine load_any rfl 24 (.tmp 1) rfl ⟨w.heap.size, 0, none⟩ rfl (A.cells aoA cA) _ (fun j v hj => by rw [Addr.add0]; exact HA5.out.cell j v hj) Try.underlying24 rfl info_nd ?_)
  refine (HEB.out w5 HX5.out).mono ?_
  rintro e w6 ⟨rfl, b6⟩
  have BU6 := Lib.hid (BU5.out.trans (b6.mono BU5.out.size))
  clear b6 HA5 HX5 BU5 HEB
  generalize encS 15 A = S
  generalize encE 15 A = E
  go_wp2_with fail
  refine (works_any w6).mono ?_
  rintro e w20 ⟨rfl, bw⟩
  have KW := Lib.hid (BU6.out.trans (bw.mono BU6.out.size))
  clear bw
  go_wp2_with fail
  go_ret
  exact ⟨rfl, KW.out⟩
end Go.Proofs.Ytdpeblchndfdaaa

namespace Go.Proofs.Ytdpeblchndfdaaa
open Go.RowKit
set_option maxRecDepth 100000

def rft (l : List UInt8) (lost : Bool) : List UInt8 × List UInt8 × Bool :=
  if (rf l lost).2.1.length < (rf l lost).1 then ([], [], true) else
    ((rf l lost).2.1.take (rf l lost).1, (rf l lost).2.1.drop (rf l lost).1, (rf l lost).2.2)

theorem rf_len (l : List UInt8) (lost : Bool) : (rf l lost).2.1.length ≤ l.length := by
  unfold rf
  split
  · rename_i n r h; exact cut_len h
  · simp
theorem rf_big (l : List UInt8) (lost : Bool) : (rf l lost).1 < Plain.big := by
  unfold rf
  split
  · rename_i n r h; exact (Plain.cut_back h).2
  · decide

set_option maxHeartbeats 1000000 in
theorem refText_any (b : Nat) (l : List UInt8) (lost : Bool) (w : World) (h : Rf w b l lost) (hs : l.length ≤ 1099511627776) :
    Calls Try.prog 34 #[.pointer (some ⟨b, 0, none⟩)] w fun e w' =>
      e = .returned (.string (bs (rft l lost).1)) ∧ Rf w' b (rft l lost).2.1 (rft l lost).2.2 ∧ Only b w w' := by
  have H := Lib.hid h
  have hlen := rf_len l lost
  have hbig := rf_big l lost
  have hn := refNum_any b (bs l) lost w h (by rw [bs_size]; exact hs)
  rw [data_bs] at hn
  have HN := Lib.hid hn
  clear hn h
  generalize hR : rft l lost = R
  unfold rft at hR
  generalize rf l lost = X at hR HN hlen hbig
  obtain ⟨n, r, lo⟩ := X
  have hr : r.length ≤ 1099511627776 := by simp only at hlen; omega
  have hz : (bs r).size ≤ 9223372036854775807 := by rw [bs_size]; omega
  have hn64 : n < 18446744073709551616 := hbig
  clear hlen hbig
  simp only at hR
  by_cases hlt : r.length < n
  · rw [if_pos hlt] at hR
    subst hR
    have hl2 : (bs r).size < n := by rw [bs_size]; exact hlt
    go_enter Try.func34, Try.ntmps34
    go_wp2_with fail
    refine HN.out.mono ?_
    rintro e w1 ⟨rfl, h1, h2⟩
    have g0 := At.cell h1 0 _ rfl
    have H1 := Lib.hid h1
    have H2 := Lib.hid h2
    clear h1 h2
    go_wp2_with fail
    refine (lose_any b _ _ _ H1.out).mono ?_
    rintro e w2 ⟨rfl, h1, h2⟩
    have H3 := Lib.hid h1
    have H4 := Lib.hid h2
    clear h1 h2
    go_wp2
    go_ret
    exact ⟨rfl, H3.out, H2.out.trans H4.out⟩
  · rw [if_neg hlt] at hR
    subst hR
    have hl2 : n ≤ (bs r).size := by rw [bs_size]; omega
    go_enter Try.func34, Try.ntmps34
    go_wp2_with fail
    refine HN.out.mono ?_
    rintro e w1 ⟨rfl, h1, h2⟩
    have g0 := At.cell h1 0 _ rfl
    have f0 := At.frozen h1 0
    have H1 := Lib.hid h1
    have H2 := Lib.hid h2
    clear h1 h2
    go_wp2
    go_ret
    refine ⟨ret_of (by rw [← bs_take_bs]; rfl), ?_, H2.out.trans (Only.setCell _ _ _ _)⟩
    have := At.setCell H1.out 0 (.string ((bs r).extract n (bs r).size))
    simp only [bs_drop_bs] at this
    rw [show (bs r).extract n r.length = bs (r.drop n) by rw [← bs_drop_bs, bs_size]]
    exact this

/-- the document's reader, and the program's: lost ones have nothing left -/
theorem rf_rnum (l : List UInt8) (lost : Bool) (h : lost = true → l = []) : rf l lost = rnum l lost := by
  cases lost with
  | true => rw [h rfl]; rfl
  | false => rfl
theorem rft_rtext (l : List UInt8) (lost : Bool) (h : lost = true → l = []) : rft l lost = rtext l lost := by
  cases lost with
  | true => rw [h rfl]; rfl
  | false =>
    unfold rft rtext rf Plain.cutT
    cases hc : Plain.cut l with
    | none => rfl
    | some x =>
      obtain ⟨n, r⟩ := x
      by_cases hlt : r.length < n
      · simp [hlt]
      · simp [hlt]
theorem rnum_lost (l : List UInt8) (lost : Bool) (h : lost = true → l = []) : (rnum l lost).2.2 = true → (rnum l lost).2.1 = [] := by
  cases lost with
  | true => intro _; exact h rfl
  | false =>
    unfold rnum
    cases hc : Plain.cut l <;> simp
theorem rtext_lost (l : List UInt8) (lost : Bool) (h : lost = true → l = []) : (rtext l lost).2.2 = true → (rtext l lost).2.1 = [] := by
  cases lost with
  | true => intro _; exact h rfl
  | false =>
    unfold rtext
    cases hc : Plain.cutT l <;> simp
theorem rnum_len (l : List UInt8) (lost : Bool) : (rnum l lost).2.1.length ≤ l.length := by
  cases lost with
  | true => exact Nat.le_refl _
  | false =>
    unfold rnum
    cases hc : Plain.cut l with
    | none => simp
    | some x => exact cut_len (r := x.2) hc
theorem rtext_len (l : List UInt8) (lost : Bool) : (rtext l lost).2.1.length ≤ l.length := by
  cases lost with
  | true => exact Nat.le_refl _
  | false =>
    unfold rtext
    cases hc : Plain.cutT l with
    | none => simp
    | some x => exact (cutT_len (t := x.1) (r := x.2) hc).2

theorem refNum_bs (b : Nat) (l : List UInt8) (lost : Bool) (w : World) (h : Rf w b l lost) (hs : l.length ≤ 1099511627776) (hlo : lost = true → l = []) :
    Calls Try.prog 59 #[.pointer (some ⟨b, 0, none⟩)] w fun e w' =>
      e = .returned (.int .u64 (rnum l lost).1) ∧ Rf w' b (rnum l lost).2.1 (rnum l lost).2.2 ∧ Only b w w' := by
  have := refNum_any b (bs l) lost w h (by rw [bs_size]; exact hs)
  rw [data_bs, rf_rnum l lost hlo] at this
  exact this
theorem refText_bs (b : Nat) (l : List UInt8) (lost : Bool) (w : World) (h : Rf w b l lost) (hs : l.length ≤ 1099511627776) (hlo : lost = true → l = []) :
    Calls Try.prog 34 #[.pointer (some ⟨b, 0, none⟩)] w fun e w' =>
      e = .returned (.string (bs (rtext l lost).1)) ∧ Rf w' b (rtext l lost).2.1 (rtext l lost).2.2 ∧ Only b w w' := by
  have := refText_any b l lost w h hs
  rw [rft_rtext l lost hlo] at this
  exact this


end Go.Proofs.Ytdpeblchndfdaaa
