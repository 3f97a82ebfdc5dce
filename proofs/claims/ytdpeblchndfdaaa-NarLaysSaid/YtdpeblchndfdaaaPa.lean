/- A node that came in: its names are texts; the document's Name. -/
import Derived.Test.YtdpeblchndfdaaaMza
namespace Go.Proofs.Ytdpeblchndfdaaa
open Go.RowKit Go.ChangeShapes Go.WideShapes Go.Deep
set_option maxRecDepth 100000
/-- no name, no data are longer than a text may be, so many levels down -/
def NamB : Nat → Nd → Prop
  | 0, _ => True
  | h + 1, n => n.name.length ≤ maxLen ∧ n.data.length ≤ maxLen ∧ ∀ m ∈ n.kids, NamB h m
theorem NamB.leaf (nm : List UInt8) (k : Int) (e : Bool) (d : List UInt8) (h : nm.length ≤ maxLen) (hd : d.length ≤ maxLen) : ∀ j, NamB j ⟨nm, k, e, d, []⟩
  | 0 => trivial
  | _ + 1 => ⟨h, hd, fun m hm => by cases hm⟩
theorem short_namB : ∀ (j l : Nat) (n : Nd), (∀ k, NamB k n) → NamB j (shortL l n)
  | 0, _, _, _ => trivial
  | j + 1, 0, n, h => ⟨(h 1).1, by show (n.data.take 300).length ≤ maxLen; rw [List.length_take]; have := (h 1).2.1; omega, fun m hm => by cases hm⟩
  | j + 1, l + 1, n, h => ⟨(h 1).1, by show (n.data.take 300).length ≤ maxLen; rw [List.length_take]; have := (h 1).2.1; omega, fun m hm => by
    have hm' : m ∈ (n.kids.take 20).map (shortL l) := hm
    obtain ⟨x, hx, rfl⟩ := List.mem_map.mp hm'
    exact short_namB j l x (fun k => (h (k + 1)).2.2 x (List.mem_of_mem_take hx))⟩
section
variable {H : Type} {enc : TypeId × Value → H} {w : World} {base : Nat} {spare : Nat → Bool} {held : Bool}
theorem open_nd2 : ∀ (fuel : Nat) (cs : List Value) (x : DataW H × List MemPlace), DataW.trod enc Try.prog w base spare held fuel 24 cs = some x → ∃ (n : Nd) (ao : Option Addr) (cap : Nat), cs = n.cells ao cap ∧ Has any_ w fuel n ao ∧ ∀ k, NamB k n := by
  intro fuel
  induction fuel using Nat.strongRecOn with
  | ind fuel ih =>
    intro cs x h
    obtain ⟨fs, hu, hone, hty⟩ := nd_hone
    obtain ⟨xs, n, rfl, _, hcl, hxl, hf⟩ := DataW.trod_struct hu h
    rw [nd_size] at hcl
    have hsz : fs.size = 5 := by have := congrArg Array.size hty; simpa using this
    match cs, hcl with
    | [c0, c1, c2, c3, c4], _ =>
    have fld : ∀ (j : Nat) (hj : j < 5) (t : TypeId) (c : Value), #[9, 3, 4, 9, 22][j]? = some t → [c0, c1, c2, c3, c4][j]? = some c → ∃ y, DataW.trod enc Try.prog w base spare held n t [c] = some y := fun j hj t c ht hc => by
      have hjs : j < fs.size := by omega
      have hfj : fs[j]? = some fs[j] := Array.getElem?_eq_getElem hjs
      obtain ⟨ho, hk⟩ := hone_of hone j _ hfj
      have h1 := hf j _ hfj
      rw [ho, hk] at h1
      have htt : fs[j].type = t := by
        have := congrArg (fun a => a[j]?) hty
        simp only [Array.getElem?_map, hfj, Option.map_some] at this
        rw [ht] at this
        exact Option.some.inj this
      have hd : ([c0, c1, c2, c3, c4].drop j).take 1 = [c] := by
        rw [List.drop_eq_getElem_cons (by simpa using hj)]
        have : [c0, c1, c2, c3, c4][j]'(by simpa using hj) = c := by
          have := List.getElem?_eq_getElem (l := [c0, c1, c2, c3, c4]) (i := j) (by simpa using hj)
          rw [hc] at this
          exact (Option.some.inj this).symm
        rw [this]
        rfl
      rw [hd, htt] at h1
      have hys : xs[j]? = some (xs[j]'(by omega)) := List.getElem?_eq_getElem (by omega)
      exact ⟨_, h1.trans hys⟩
    obtain ⟨y0, h0⟩ := fld 0 (by omega) 9 c0 rfl rfl
    obtain ⟨y1, h1⟩ := fld 1 (by omega) 3 c1 rfl rfl
    obtain ⟨y2, h2⟩ := fld 2 (by omega) 4 c2 rfl rfl
    obtain ⟨y3, h3⟩ := fld 3 (by omega) 9 c3 rfl rfl
    obtain ⟨y4, h4⟩ := fld 4 (by omega) 22 c4 rfl rfl
    obtain ⟨s0, e0, _, l0⟩ := DataW.trod_string Try.underlying9 h0
    obtain ⟨k1, e1, _, _⟩ := DataW.trod_int Try.underlying3 h1
    obtain ⟨b2, e2, _⟩ := DataW.trod_bool Try.underlying4 h2
    obtain ⟨s3, e3, _, l3⟩ := DataW.trod_string Try.underlying9 h3
    have hs0 : s0.data.toList.length ≤ maxLen := by simpa using l0
    have hs3 : s3.data.toList.length ≤ maxLen := by simpa using l3
    simp only [List.cons.injEq, and_true] at e0 e1 e2 e3
    subst e0 e1 e2 e3
    rcases DataW.trod_slice Try.underlying22 h4 with ⟨e4, _⟩ | ⟨a, len, cap, elems, rest, n', hn, e4, _, _, hl, hm, hel, hall, _⟩
    · simp only [List.cons.injEq, and_true] at e4
      subst e4
      exact ⟨⟨s0.data.toList, k1, b2, s3.data.toList, []⟩, none, 0, by show _ = [Value.string (bs s0.data.toList), _, _, .string (bs s3.data.toList), _]; rw [← bsd s0, ← bsd s3]; rfl, Has.leaf _ _ _ _ _ rfl, NamB.leaf _ _ _ _ hs0 hs3⟩
    · simp only [List.cons.injEq, and_true] at e4
      subst e4
      obtain ⟨ks, hkl, hk⟩ := list_of_all (p := fun i (m : Nd) => ∃ g c, Kid w a i (m.cells g c) ∧ Has any_ w n m g ∧ ∀ k, NamB k m) len (fun i hi => by
        have hb := hall i hi
        rw [nd_size] at hb
        rw [List.getElem?_eq_getElem (by omega)] at hb
        obtain ⟨cs', hc, ht⟩ := Option.bind_eq_some_iff.1 hb
        obtain ⟨m, g, c, rfl, hH, hNm⟩ := ih n' (by omega) cs' _ ht
        obtain ⟨_, hcl', hat⟩ := World.cells?_some hc
        refine ⟨m, g, c, fun j v hj => ?_, hH.ups (by omega), hNm⟩
        rw [hat j (by have := (List.getElem?_eq_some_iff.1 hj).1; simpa [Nd.cells] using this)]
        exact hj)
      refine ⟨⟨s0.data.toList, k1, b2, s3.data.toList, ks⟩, some a, cap, by show _ = [Value.string (bs s0.data.toList), _, _, .string (bs s3.data.toList), .slice (some a) ks.length cap]; rw [← bsd s0, ← bsd s3, hkl]; rfl, ⟨by show ks.length ≤ maxLen; omega, fun i m hi => ?_⟩, fun j => ?_⟩
      · obtain ⟨g, c, hK, hH, _⟩ := hk i m hi
        exact ⟨a, g, c, rfl, trivial, hK, hH⟩
      · cases j with
        | zero => trivial
        | succ j =>
          refine ⟨hs0, hs3, fun m hm => ?_⟩
          obtain ⟨i, hi⟩ := List.getElem?_of_mem hm
          obtain ⟨g, c, hK, hH, hNm⟩ := hk i m hi
          exact hNm j
theorem open_node2 {r : Reach} {b0 : Nat} {v : Value} {d : DataW H} {ps : List MemPlace} (hv : Value.okWide Try.prog w r b0 24 v) (h : DataW.Trod enc Try.prog w base spare held 24 v d ps) :
    ∃ (n : Nd) (ao : Option Addr) (cap h : Nat), v = n.v ao cap ∧ Has any_ w h n ao ∧ ∀ k, NamB k n := by
  obtain ⟨fs, hu, _, _⟩ := nd_hone
  obtain ⟨cs, rfl, _⟩ := okWide_struct hu hv
  obtain ⟨fuel, hf⟩ := h
  obtain ⟨n, ao, cap, e, hH, hN⟩ := open_nd2 fuel _ _ hf
  refine ⟨n, ao, cap, fuel, ?_, hH, hN⟩
  have e2 : cs.toList = n.cells ao cap := e
  unfold Nd.v
  rw [← e2]
end
theorem nameOk_zero {s : List UInt8} (h : nameOk s = true) : (0 : UInt8) ∉ s := by
  unfold nameOk textOk at h
  simp only [Bool.and_eq_true, decide_eq_true_eq, Bool.not_eq_true'] at h
  obtain ⟨⟨h1, h2, h3⟩, _⟩ := h
  intro hm
  rw [List.contains_iff_mem.mpr hm] at h3
  cases h3
set_option maxHeartbeats 4000000 in
theorem rname_any (s : List UInt8) (w : World) (hs : s.length ≤ maxLen) : Calls Try.prog 79 #[.string (bs s)] w fun e w' => e = .returned (.bool (nameOk s)) ∧ w' = w := by
  unfold maxLen at hs
  obtain ⟨R, hR⟩ : ∃ R, R = nameOk s := ⟨_, rfl⟩
  rw [← hR]
  have HR := Lib.hid hR
  clear hR
  go_enter Try.func79, Try.ntmps79
  go_wp2_with fail
  go_loopw [3] (fun i wx => ∃ k : Nat, k ≤ s.length ∧ i = .int .i64 k ∧ (∀ j c, j < k → s[j]? = some c → c ≠ 47 ∧ c ≠ 0) ∧ wx = w) (fun i _ => s.length - (intOf i).toNat)
  case atStart => exact ⟨0, Nat.zero_le _, rfl, fun j c hj => by omega, rfl⟩
  case round =>
    obtain ⟨k, hk, rfl, hall, rfl⟩ := hrel
    have HALL := Lib.hid hall
    clear hall
    by_cases hlt : k < s.length
    · have hlt' : (k : Int) < s.length := by omega
      obtain ⟨c, hc⟩ : ∃ c, s[k]? = some c := ⟨_, List.getElem?_eq_getElem hlt⟩
      have HC := Lib.hid hc
      clear hc
      by_cases h47 : c = 47
      · have hcn : ((c.toNat : Int) == 47) = true := by rw [h47]; rfl
        have hres : R = false := by
          rw [HR.out]
          cases hq : nameOk s
          · rfl
          · exact absurd (h47 ▸ List.mem_of_getElem? HC.out) (nameOk_len hq).2.2
        have HRES := Lib.hid hres
        clear h47 hres
        go_wp2_with ((with_reducible refine hold_at 12 rfl ?_); unfold held; refine index_str_g (by kernel_rfl) (.tmp 10) (.tmp 11) rfl s k c (by kernel_rfl) (by kernel_rfl) HC.out ?_)
        go_ret
        exact ⟨by rw [HRES.out]; rfl, rfl⟩
      · have hcn : ((c.toNat : Int) == 47) = false := by
          have : c.toNat ≠ 47 := fun e => h47 (UInt8.toNat_inj.mp (by simpa using e))
          simp
          omega
        by_cases h0 : c = 0
        · have hcz : ((c.toNat : Int) == 0) = true := by rw [h0]; rfl
          have hres : R = false := by
            rw [HR.out]
            cases hq : nameOk s
            · rfl
            · exact absurd (h0 ▸ List.mem_of_getElem? HC.out) (nameOk_zero hq)
          have HRES := Lib.hid hres
          clear h47 h0 hres
          go_wp2_with (first
            | ((with_reducible refine hold_at 12 rfl ?_); unfold held; refine index_str_g (by kernel_rfl) (.tmp 10) (.tmp 11) rfl s k c (by kernel_rfl) (by kernel_rfl) HC.out ?_)
            | ((with_reducible refine hold_at 17 rfl ?_); unfold held; refine index_str_g (by kernel_rfl) (.tmp 15) (.tmp 16) rfl s k c (by kernel_rfl) (by kernel_rfl) HC.out ?_))
          go_ret
          exact ⟨by rw [HRES.out]; rfl, rfl⟩
        · have hcz : ((c.toNat : Int) == 0) = false := by
            have : c.toNat ≠ 0 := fun e => h0 (UInt8.toNat_inj.mp (by simpa using e))
            simp
            omega
          have hall2 : ∀ j d, j < k + 1 → s[j]? = some d → d ≠ 47 ∧ d ≠ 0 := fun j d hj hd => by
            by_cases e : j = k
            · subst e
              rw [HC.out] at hd
              cases hd
              exact ⟨h47, h0⟩
            · exact HALL.out j d (by omega) hd
          have HALL2 := Lib.hid hall2
          clear h47 h0 hall2
          go_wp2_with (first
            | ((with_reducible refine hold_at 12 rfl ?_); unfold held; refine index_str_g (by kernel_rfl) (.tmp 10) (.tmp 11) rfl s k c (by kernel_rfl) (by kernel_rfl) HC.out ?_)
            | ((with_reducible refine hold_at 17 rfl ?_); unfold held; refine index_str_g (by kernel_rfl) (.tmp 15) (.tmp 16) rfl s k c (by kernel_rfl) (by kernel_rfl) HC.out ?_))
          go_roundw
          case rel => exact ⟨k + 1, by omega, by go_num, HALL2.out, by first | rfl | trivial⟩
          case measure => simp [intOf] <;> omega
    · obtain rfl : k = s.length := by omega
      have hno : s.contains 47 = false ∧ s.contains 0 = false := by
        constructor
        · cases hq : s.contains 47
          · rfl
          · obtain ⟨i, hi⟩ := List.getElem?_of_mem (List.contains_iff_mem.mp hq)
            exact absurd rfl (HALL.out i 47 (List.getElem?_eq_some_iff.1 hi).1 hi).1
        · cases hq : s.contains 0
          · rfl
          · obtain ⟨i, hi⟩ := List.getElem?_of_mem (List.contains_iff_mem.mp hq)
            exact absurd rfl (HALL.out i 0 (List.getElem?_eq_some_iff.1 hi).1 hi).2
      have hres : R = (decide (1 ≤ s.length) && (decide (s.length ≤ 56) && ((s != [46]) && (s != [46, 46])))) := by
        rw [HR.out]
        unfold nameOk textOk
        rw [hno.1, hno.2]
        cases s with
        | nil => rfl
        | cons a r => simp [bne]
      have HRES := Lib.hid hres
      clear hno hres HALL
      by_cases h1 : 1 ≤ s.length
      · have h1' : (1 : Int) ≤ s.length := by omega
        by_cases h56 : s.length ≤ 56
        · have h56' : (s.length : Int) ≤ 56 := by omega
          cases a1 : (s == [46])
          · cases a2 : (s == [46, 46])
            · go_wp2_with fail
              go_ret
              refine ⟨?_, rfl⟩
              rw [HRES.out]
              simp [bne, a1, a2, h1, h56]
            · go_wp2_with fail
              go_ret
              refine ⟨?_, rfl⟩
              rw [HRES.out]
              simp [bne, a1, a2, h1, h56]
          · go_wp2_with fail
            go_ret
            refine ⟨?_, rfl⟩
            rw [HRES.out]
            simp [bne, a1, h1, h56]
        · have h56' : ¬ (s.length : Int) ≤ 56 := by omega
          go_wp2_with fail
          go_ret
          refine ⟨?_, rfl⟩
          rw [HRES.out]
          simp [h56]
      · have h1' : ¬ (1 : Int) ≤ s.length := by omega
        go_wp2_with fail
        go_ret
        refine ⟨?_, rfl⟩
        rw [HRES.out]
        simp [h1]
end Go.Proofs.Ytdpeblchndfdaaa
