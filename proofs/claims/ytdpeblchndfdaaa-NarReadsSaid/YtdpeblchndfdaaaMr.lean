/- A node that came in, opened. -/
import Derived.Test.YtdpeblchndfdaaaMq
import Derived.Deep.Slices
import Derived.Deep.Fields
import Derived.ChangeSame
import Derived.ChangeArms
import Derived.ChangeSlices
import Derived.DataElems
namespace Go.Proofs.Ytdpeblchndfdaaa
open Go.RowKit Go.ChangeShapes Go.WideShapes Go.Deep
set_option maxRecDepth 100000
theorem list_of_all {α : Type} {p : Nat → α → Prop} : ∀ len : Nat, (∀ i, i < len → ∃ m, p i m) → ∃ ks : List α, ks.length = len ∧ ∀ i m, ks[i]? = some m → p i m
  | 0, _ => ⟨[], rfl, fun i m h => by simp at h⟩
  | len + 1, h => by
    obtain ⟨ks, hl, hk⟩ := list_of_all len (fun i hi => h i (by omega))
    obtain ⟨m, hm⟩ := h len (by omega)
    refine ⟨ks ++ [m], by simp [hl], fun i x hx => ?_⟩
    by_cases hi : i < ks.length
    · rw [List.getElem?_append_left hi] at hx; exact hk i x hx
    · rw [List.getElem?_append_right (by omega)] at hx
      have : i - ks.length = 0 := by
        have := (List.getElem?_eq_some_iff.1 hx).1
        simp at this; omega
      rw [this] at hx
      simp at hx
      subst hx
      rw [show i = len by omega]
      exact hm
theorem bsd (s : ByteArray) : s = bs s.data.toList := by cases s; simp [bs]
section
variable {H : Type} {enc : TypeId × Value → H} {w : World} {base : Nat} {spare : Nat → Bool} {held : Bool}
theorem nd_hone : ∃ fs : Array Field, Try.prog.underlying 24 = some (.struct fs) ∧ oneCellFields Try.prog fs = true ∧ fs.map (·.type) = #[9, 3, 4, 9, 22] := ⟨_, Try.underlying24, by kernel_rfl, by kernel_rfl⟩
theorem nd_size : Try.prog.cellsOf 24 = 5 := by kernel_rfl
theorem open_nd : ∀ (fuel : Nat) (cs : List Value) (x : DataW H × List MemPlace), DataW.trod enc Try.prog w base spare held fuel 24 cs = some x → ∃ (n : Nd) (ao : Option Addr) (cap : Nat), cs = n.cells ao cap ∧ Has any_ w fuel n ao := by
  intro fuel
  induction fuel using Nat.strongRecOn with
  | ind fuel ih =>
    intro cs x h
    obtain ⟨fs, hu, hone, hty⟩ := nd_hone
    obtain ⟨xs, n, rfl, _, hcl, hxl, hf⟩ := DataW.trod_struct hu h
    rw [nd_size] at hcl
    have hsz : fs.size = 5 := by have := congrArg Array.size hty; simpa using this
    match cs, hcl with
    | [c0, c1, c2, c3, c4], _ =>
    have fld : ∀ (j : Nat) (hj : j < 5) (t : TypeId) (c : Value), #[9, 3, 4, 9, 22][j]? = some t → [c0, c1, c2, c3, c4][j]? = some c → ∃ y, DataW.trod enc Try.prog w base spare held n t [c] = some y := fun j hj t c ht hc => by
      have hjs : j < fs.size := by omega
      have hfj : fs[j]? = some fs[j] := Array.getElem?_eq_getElem hjs
      obtain ⟨ho, hk⟩ := hone_of hone j _ hfj
      have h1 := hf j _ hfj
      rw [ho, hk] at h1
      have htt : fs[j].type = t := by
        have := congrArg (fun a => a[j]?) hty
        simp only [Array.getElem?_map, hfj, Option.map_some] at this
        rw [ht] at this
        exact Option.some.inj this
      have hd : ([c0, c1, c2, c3, c4].drop j).take 1 = [c] := by
        rw [List.drop_eq_getElem_cons (by simpa using hj)]
        have : [c0, c1, c2, c3, c4][j]'(by simpa using hj) = c := by
          have := List.getElem?_eq_getElem (l := [c0, c1, c2, c3, c4]) (i := j) (by simpa using hj)
          rw [hc] at this
          exact (Option.some.inj this).symm
        rw [this]
        rfl
      rw [hd, htt] at h1
      have hys : xs[j]? = some (xs[j]'(by omega)) := List.getElem?_eq_getElem (by omega)
      exact ⟨_, h1.trans hys⟩
    obtain ⟨y0, h0⟩ := fld 0 (by omega) 9 c0 rfl rfl
    obtain ⟨y1, h1⟩ := fld 1 (by omega) 3 c1 rfl rfl
    obtain ⟨y2, h2⟩ := fld 2 (by omega) 4 c2 rfl rfl
    obtain ⟨y3, h3⟩ := fld 3 (by omega) 9 c3 rfl rfl
    obtain ⟨y4, h4⟩ := fld 4 (by omega) 22 c4 rfl rfl
    obtain ⟨s0, e0, _, _⟩ := DataW.trod_string Try.underlying9 h0
    obtain ⟨k1, e1, _, _⟩ := DataW.trod_int Try.underlying3 h1
    obtain ⟨b2, e2, _⟩ := DataW.trod_bool Try.underlying4 h2
    obtain ⟨s3, e3, _, _⟩ := DataW.trod_string Try.underlying9 h3
    simp only [List.cons.injEq, and_true] at e0 e1 e2 e3
    subst e0 e1 e2 e3
    rcases DataW.trod_slice Try.underlying22 h4 with ⟨e4, _⟩ | ⟨a, len, cap, elems, rest, n', hn, e4, _, _, hl, hm, hel, hall, _⟩
    · simp only [List.cons.injEq, and_true] at e4
      subst e4
      exact ⟨⟨s0.data.toList, k1, b2, s3.data.toList, []⟩, none, 0, by show _ = [Value.string (bs s0.data.toList), _, _, .string (bs s3.data.toList), _]; rw [← bsd s0, ← bsd s3]; rfl, Has.leaf _ _ _ _ _ rfl⟩
    · simp only [List.cons.injEq, and_true] at e4
      subst e4
      obtain ⟨ks, hkl, hk⟩ := list_of_all (p := fun i (m : Nd) => ∃ g c, Kid w a i (m.cells g c) ∧ Has any_ w n m g) len (fun i hi => by
        have hb := hall i hi
        rw [nd_size] at hb
        rw [List.getElem?_eq_getElem (by omega)] at hb
        obtain ⟨cs', hc, ht⟩ := Option.bind_eq_some_iff.1 hb
        obtain ⟨m, g, c, rfl, hH⟩ := ih n' (by omega) cs' _ ht
        obtain ⟨_, hcl', hat⟩ := World.cells?_some hc
        refine ⟨m, g, c, fun j v hj => ?_, hH.ups (by omega)⟩
        rw [hat j (by have := (List.getElem?_eq_some_iff.1 hj).1; simpa [Nd.cells] using this)]
        exact hj)
      refine ⟨⟨s0.data.toList, k1, b2, s3.data.toList, ks⟩, some a, cap, by show _ = [Value.string (bs s0.data.toList), _, _, .string (bs s3.data.toList), .slice (some a) ks.length cap]; rw [← bsd s0, ← bsd s3, hkl]; rfl, ⟨by show ks.length ≤ maxLen; omega, fun i m hi => ?_⟩⟩
      obtain ⟨g, c, hK, hH⟩ := hk i m hi
      exact ⟨a, g, c, rfl, trivial, hK, hH⟩
/-- a node as an argument -/
theorem open_node {r : Reach} {b0 : Nat} {v : Value} {d : DataW H} {ps : List MemPlace} (hv : Value.okWide Try.prog w r b0 24 v) (h : DataW.Trod enc Try.prog w base spare held 24 v d ps) :
    ∃ (n : Nd) (ao : Option Addr) (cap h : Nat), v = n.v ao cap ∧ Has any_ w h n ao := by
  obtain ⟨fs, hu, _, _⟩ := nd_hone
  obtain ⟨cs, rfl, _⟩ := okWide_struct hu hv
  obtain ⟨fuel, hf⟩ := h
  obtain ⟨n, ao, cap, e, hH⟩ := open_nd fuel _ _ hf
  refine ⟨n, ao, cap, fuel, ?_, hH⟩
  have e2 : cs.toList = n.cells ao cap := e
  unfold Nd.v
  rw [← e2]
end
end Go.Proofs.Ytdpeblchndfdaaa
