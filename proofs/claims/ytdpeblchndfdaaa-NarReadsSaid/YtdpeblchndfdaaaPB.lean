/- Ph, Pi, Pj, Pk, one behind the other. -/
import Derived.Test.YtdpeblchndfdaaaPg
namespace Go.Proofs.Ytdpeblchndfdaaa
open Go.RowKit
set_option maxRecDepth 100000
theorem dreads : ∀ d, d ≤ 100 → DReads d
  | 0, h => dread_any 0 h (fun d' e => by omega)
  | d + 1, h => dread_any (d + 1) h (fun d' e => by
      have : d' = d := by omega
      subst this
      exact dreads d' (by omega))
theorem rnum_ok {l : List UInt8} {lo : Bool} (h : (rnum l lo).2.2 = false) : lo = false ∧ Plain.cut l = some ((rnum l lo).1, (rnum l lo).2.1) := by
  unfold rnum at h ⊢
  cases lo
  · rw [if_neg (by simp)] at h ⊢
    cases hc : Plain.cut l with
    | none => rw [hc] at h; cases h
    | some x => exact ⟨rfl, rfl⟩
  · cases h
theorem rtext_ok {l : List UInt8} {lo : Bool} (h : (rtext l lo).2.2 = false) : lo = false ∧ Plain.cutT l = some ((rtext l lo).1, (rtext l lo).2.1) := by
  unfold rtext at h ⊢
  cases lo
  · rw [if_neg (by simp)] at h ⊢
    cases hc : Plain.cutT l with
    | none => rw [hc] at h; cases h
    | some x => exact ⟨rfl, rfl⟩
  · cases h
theorem rnum_of {l : List UInt8} {n : Nat} {r : List UInt8} (h : Plain.cut l = some (n, r)) : rnum l false = (n, r, false) := by
  unfold rnum; rw [if_neg (by simp), h]
theorem rtext_of {l t r : List UInt8} (h : Plain.cutT l = some (t, r)) : rtext l false = (t, r, false) := by
  unfold rtext; rw [if_neg (by simp), h]
theorem dfile_some {l : List UInt8} {n : Nd} {r : List UInt8} (h : dfile l = some (n, r)) : ∃ x r1 t, Plain.cut l = some (x, r1) ∧ x ≤ 1 ∧ Plain.cutT r1 = some (t, r) ∧ n = ⟨[], 1, decide (x = 1), t, []⟩ := by
  unfold dfile at h
  split at h
  · rename_i hc
    obtain ⟨h1, h2⟩ := rtext_ok hc.2
    obtain ⟨_, h3⟩ := rnum_ok h1
    simp only [Option.some.injEq, Prod.mk.injEq] at h
    refine ⟨_, _, _, h3, hc.1, ?_, h.1.symm⟩
    rw [h2, h.2]
  · cases h
theorem dlink_some {l : List UInt8} {n : Nd} {r : List UInt8} (h : dlink l = some (n, r)) : ∃ t, Plain.cutT l = some (t, r) ∧ n = ⟨[], 3, false, t, []⟩ := by
  unfold dlink at h
  split at h
  · rename_i hc
    obtain ⟨_, h2⟩ := rtext_ok hc
    simp only [Option.some.injEq, Prod.mk.injEq] at h
    refine ⟨_, ?_, h.1.symm⟩
    rw [h2, h.2]
  · cases h
theorem ddir_some {f : List UInt8 → Option (Nd × List UInt8)} {l : List UInt8} {n : Nd} {r : List UInt8} (h : ddir f l = some (n, r)) : ∃ c r1 ks, Plain.cut l = some (c, r1) ∧ readK f c r1 = some (ks, r) ∧ n = ⟨[], 2, false, [], ks⟩ := by
  unfold ddir at h
  split at h
  · cases h
  · rename_i hc
    have hlo : (rnum l false).2.2 = false := by
      cases hq : (rnum l false).2.2
      · rfl
      · exact absurd (.inr hq) hc
    obtain ⟨_, h2⟩ := rnum_ok hlo
    simp only [Option.map_eq_some_iff, Prod.exists, Prod.mk.injEq] at h
    obtain ⟨ks, r', hk, e, rfl⟩ := h
    exact ⟨_, _, ks, h2, hk, e.symm⟩
theorem dnode_some {g : List UInt8 → Option (Nd × List UInt8)} {l : List UInt8} {n : Nd} {r : List UInt8} (h : dnode g l = some (n, r)) : ∃ x q, Plain.cut l = some (x, q) ∧ (dfile q = some (n, r) ∨ dlink q = some (n, r) ∨ g q = some (n, r)) := by
  unfold dnode dtail at h
  split at h
  · cases h
  · rename_i hc
    obtain ⟨_, h2⟩ := rnum_ok (by simpa using hc : (rnum l false).2.2 = false)
    refine ⟨_, _, h2, ?_⟩
    split at h
    · exact .inl h
    · split at h
      · exact .inr (.inl h)
      · split at h
        · exact .inr (.inr h)
        · cases h
/-- how few, how short -/
theorem dnode_few {g : List UInt8 → Option (Nd × List UInt8)} (hg : Counts g) : Counts (dnode g) := by
  intro l n r h
  obtain ⟨x, q, hc, h⟩ := dnode_some h
  have h1 := cut_lt hc
  rcases h with h | h | h
  · obtain ⟨y, r1, t, hc2, _, ht, rfl⟩ := dfile_some h
    have h2 := cut_lt hc2
    have h3 := cutT_sum ht
    exact ⟨by omega, FewN.leaf (by omega) (by omega)⟩
  · obtain ⟨t, ht, rfl⟩ := dlink_some h
    have h3 := cutT_sum ht
    exact ⟨by omega, FewN.leaf (by omega) (by omega)⟩
  · obtain ⟨h2, h3⟩ := hg _ _ _ h
    exact ⟨by omega, h3.mono (by omega)⟩
theorem ddir_few {f : List UInt8 → Option (Nd × List UInt8)} (hf : Counts f) : Counts (ddir f) := by
  intro l n r h
  obtain ⟨c, r1, ks, hc, hk, rfl⟩ := ddir_some h
  have h1 := cut_lt hc
  obtain ⟨h3, hfk⟩ := readK_few hf c r1 ks r hk
  exact ⟨by omega, (FewK.node hfk).mono (by omega)⟩
theorem dread_few : ∀ d, Counts (dreadN d)
  | 0 => dnode_few (fun _ _ _ h => by cases h)
  | d + 1 => dnode_few (ddir_few (dread_few d))
theorem NamB.named {m : Nd} (t : List UInt8) (ht : t.length ≤ maxLen) (h : ∀ j, NamB j m) : ∀ j, NamB j (m.named t)
  | 0 => trivial
  | j + 1 => ⟨ht, (h (j + 1)).2.1, (h (j + 1)).2.2⟩
def Names (f : List UInt8 → Option (Nd × List UInt8)) : Prop := ∀ l n r, f l = some (n, r) → l.length ≤ 1000000 → ∀ j, NamB j n
theorem readK_names {f : List UInt8 → Option (Nd × List UInt8)} (hl : Less f) (hf : Names f) : ∀ (c : Nat) (l : List UInt8) (ks : List Nd) (r : List UInt8), readK f c l = some (ks, r) → l.length ≤ 1000000 → ∀ m ∈ ks, ∀ j, NamB j m
  | 0, l, ks, r, h, _ => by
    simp only [readK, Option.some.injEq, Prod.mk.injEq] at h
    obtain ⟨rfl, rfl⟩ := h
    intro m hm
    cases hm
  | c + 1, l, ks, r, h, hll => by
    rw [readK_succ] at h
    cases ht : Plain.cutT l with
    | none => simp [ht] at h
    | some y =>
      obtain ⟨t, r1⟩ := y
      have h1 := cutT_lt ht
      simp only [ht] at h
      cases hn : f r1 with
      | none => simp [hn] at h
      | some z =>
        obtain ⟨m, r2⟩ := z
        have h2 := hl _ _ _ hn
        have h3 := hf _ _ _ hn (by omega)
        simp only [hn, Option.map_eq_some_iff, Prod.exists, Prod.mk.injEq] at h
        obtain ⟨ks', r', hk, rfl, rfl⟩ := h
        intro k hk2
        rcases List.mem_cons.mp hk2 with rfl | hk2
        · exact NamB.named t (by unfold maxLen; omega) h3
        · exact readK_names hl hf c r2 ks' r' hk (by omega) k hk2
theorem ddir_names {f : List UInt8 → Option (Nd × List UInt8)} (hl : Less f) (hf : Names f) : Names (ddir f) := by
  intro l n r h hll
  obtain ⟨c, r1, ks, hc, hk, rfl⟩ := ddir_some h
  have h1 := cut_lt hc
  have h2 := readK_names hl hf c r1 ks r hk (by omega)
  intro j
  cases j with
  | zero => trivial
  | succ j => exact ⟨Nat.zero_le _, Nat.zero_le _, fun m hm => h2 m hm j⟩
theorem dnode_names {g : List UInt8 → Option (Nd × List UInt8)} (hg : Names g) : Names (dnode g) := by
  intro l n r h hll
  obtain ⟨x, q, hc, h⟩ := dnode_some h
  have h1 := cut_lt hc
  rcases h with h | h | h
  · obtain ⟨y, r1, t, hc2, _, ht, rfl⟩ := dfile_some h
    have h2 := cut_lt hc2
    have h3 := cutT_sum ht
    exact NamB.leaf _ _ _ _ (Nat.zero_le _) (by unfold maxLen; omega)
  · obtain ⟨t, ht, rfl⟩ := dlink_some h
    have h3 := cutT_sum ht
    exact NamB.leaf _ _ _ _ (Nat.zero_le _) (by unfold maxLen; omega)
  · exact hg _ _ _ h (by omega)
theorem dread_names : ∀ d, Names (dreadN d)
  | 0 => dnode_names (fun _ _ _ h => by cases h)
  | d + 1 => dnode_names (ddir_names (dreadN_less d) (dread_names d))
/-- what the program reads, the document reads -/
theorem readN_lt (k : Nat) {l : List UInt8} {n : Nd} {r : List UInt8} (h : readN k l = some (n, r)) : r.length < l.length := by
  cases k with
  | zero => simp [readN] at h
  | succ k =>
    unfold readN at h
    cases hc : Plain.cut l with
    | none => simp [hc] at h
    | some x =>
      obtain ⟨x, q⟩ := x
      have h1 := cut_lt hc
      simp only [hc] at h
      split at h
      · have := readFile_less _ _ _ h; omega
      · split at h
        · unfold readDir at h
          cases hc2 : Plain.cut q with
          | none => simp [hc2] at h
          | some y =>
            obtain ⟨c, q2⟩ := y
            have h2 := cut_lt hc2
            simp only [hc2, Option.map_eq_some_iff, Prod.exists, Prod.mk.injEq] at h
            obtain ⟨ks', r', hk, _, rfl⟩ := h
            have := readK_less (readN_less k) c q2 ks' r' hk
            omega
        · split at h
          · have := readLink_less _ _ _ h; omega
          · cases h
theorem readK_two (k : Nat) : ∀ (c : Nat) (l : List UInt8) (ks : List Nd) (r : List UInt8), readK (readN k) c l = some (ks, r) → r.length + 2 * c ≤ l.length
  | 0, l, ks, r, h => by
    simp only [readK, Option.some.injEq, Prod.mk.injEq] at h
    obtain ⟨rfl, rfl⟩ := h
    omega
  | c + 1, l, ks, r, h => by
    rw [readK_succ] at h
    cases ht : Plain.cutT l with
    | none => simp [ht] at h
    | some y =>
      obtain ⟨t, r1⟩ := y
      have h1 := cutT_lt ht
      simp only [ht] at h
      cases hn : readN k r1 with
      | none => simp [hn] at h
      | some z =>
        obtain ⟨m, r2⟩ := z
        have h2 := readN_lt k hn
        simp only [hn, Option.map_eq_some_iff, Prod.exists, Prod.mk.injEq] at h
        obtain ⟨ks', r', hk, rfl, rfl⟩ := h
        have := readK_two k c r2 ks' r' hk
        omega
theorem readK_up {f g : List UInt8 → Option (Nd × List UInt8)} (B : Nat) (hl : Less f) (hfg : ∀ l x, l.length ≤ B → f l = some x → g l = some x) : ∀ (c : Nat) (l : List UInt8) (x : List Nd × List UInt8), l.length ≤ B → readK f c l = some x → readK g c l = some x
  | 0, l, x, _, h => by
    simp only [readK] at h ⊢
    exact h
  | c + 1, l, x, hB, h => by
    rw [readK_succ] at h ⊢
    cases ht : Plain.cutT l with
    | none => simp [ht] at h
    | some y =>
      obtain ⟨t, r1⟩ := y
      have h1 := cutT_lt ht
      simp only [ht] at h ⊢
      cases hn : f r1 with
      | none => simp [hn] at h
      | some z =>
        obtain ⟨m, r2⟩ := z
        have h2 := hl _ _ _ hn
        rw [hfg r1 _ (by omega) hn]
        simp only [hn, Option.map_eq_some_iff] at h ⊢
        obtain ⟨y, hk, rfl⟩ := h
        exact ⟨y, readK_up B hl hfg c r2 y (by omega) hk, rfl⟩
theorem read_dread : ∀ (k d : Nat) (l : List UInt8) (x : Nd × List UInt8), k ≤ d → l.length ≤ 3000 → readN k l = some x → dreadN d l = some x
  | 0, d, l, x, _, _, h => by simp [readN] at h
  | k + 1, 0, l, x, hd, _, _ => by omega
  | k + 1, d + 1, l, x, hd, hl, h => by
    show dnode (ddir (dreadN d)) l = some x
    unfold readN at h
    cases hc : Plain.cut l with
    | none => simp [hc] at h
    | some y =>
      obtain ⟨n, r⟩ := y
      have h1 := cut_lt hc
      simp only [hc] at h
      unfold dnode
      rw [rnum_of hc]
      simp only []
      rw [if_neg (by simp)]
      unfold dtail
      by_cases e1 : n = 1
      · subst e1
        rw [if_pos rfl] at h
        rw [if_pos rfl]
        unfold readFile at h
        cases hc2 : Plain.cut r with
        | none => simp [hc2] at h
        | some y =>
          obtain ⟨y, q2⟩ := y
          simp only [hc2] at h
          split at h
          · rename_i hy
            cases ht : Plain.cutT q2 with
            | none => simp [ht] at h
            | some z =>
              obtain ⟨t, q3⟩ := z
              simp only [ht] at h
              unfold dfile
              rw [rnum_of hc2]
              simp only []
              rw [rtext_of ht]
              simp only []
              rw [if_pos ⟨by omega, by trivial⟩]
              exact h
          · cases h
      · rw [if_neg e1] at h
        by_cases e2 : n = 2
        · subst e2
          rw [if_pos rfl] at h
          rw [if_neg (by decide), if_neg (by decide), if_pos rfl]
          unfold readDir at h
          cases hc2 : Plain.cut r with
          | none => simp [hc2] at h
          | some y =>
            obtain ⟨c, q2⟩ := y
            have h2 := cut_lt hc2
            simp only [hc2, Option.map_eq_some_iff] at h
            obtain ⟨y, hk, e⟩ := h
            obtain ⟨ks, r'⟩ := y
            have h3 := readK_two k c q2 ks r' hk
            have h4 := readK_up 3000 (readN_less k) (fun l x hl h => read_dread k d l x (by omega) hl h) c q2 _ (by omega) hk
            unfold ddir
            rw [rnum_of hc2]
            simp only []
            rw [if_neg (by rintro (a | a); omega; cases a), h4]
            exact congrArg some e
        · rw [if_neg e2] at h
          split at h
          · rename_i e3
            subst e3
            rw [if_neg (by decide), if_pos rfl]
            unfold readLink at h
            cases ht : Plain.cutT r with
            | none => simp [ht] at h
            | some z =>
              obtain ⟨t, q3⟩ := z
              simp only [ht] at h
              unfold dlink
              rw [rtext_of ht]
              simp only []
              rw [if_pos (by trivial)]
              exact h
          · cases h
theorem dec_parts {l : List UInt8} {n : Nd} (h : decL l = some n) : ∃ r, Plain.cutT l = some (magicL, r) ∧ readN 12 r = some (n, []) := by
  unfold decL at h
  split at h
  · cases h
  · cases ht : Plain.cutT l with
    | none => simp [ht] at h
    | some x =>
      obtain ⟨t, r⟩ := x
      simp only [ht] at h
      split at h
      · cases h
      · rename_i hm
        cases hn : readN 12 r with
        | none => simp [hn] at h
        | some y =>
          obtain ⟨m, r2⟩ := y
          simp only [hn] at h
          split at h
          · cases h
          · rename_i hr2
            split at h
            · cases h
            · simp only [Option.some.injEq] at h
              subst h
              have hmt : t = magicL := by simpa using hm
              have hr0 : r2 = [] := by simpa using hr2
              subst hr0 hmt
              exact ⟨r, rfl, hn⟩
/-- the document's Decode -/
def ddec (l : List UInt8) : Option Nd :=
  match Plain.cutT l with
  | none => none
  | some (t, r) =>
    if t ≠ magicL then none else
    match dreadN 13 r with
    | none => none
    | some (n, r2) => if r2 ≠ [] then none else if encE 15 n ≠ 0 ∨ encS 15 n ≠ l then none else some n
theorem ddec_eq (l : List UInt8) (hl : l.length ≤ 3000) : ddec l = decL l := by
  cases hd : decL l with
  | some n =>
    obtain ⟨r, ht, hn⟩ := dec_parts hd
    obtain ⟨hc, he, h6⟩ := dec_back hd
    have h1 := cutT_lt ht
    have hdr := read_dread 12 13 r _ (by decide) (by omega) hn
    rw [he] at h6
    obtain ⟨g1, g2⟩ := enc_good hc (by omega)
    unfold ddec
    simp only [ht, hdr]
    rw [if_neg (by simp), if_neg (by simp), if_neg]
    rintro (a | a)
    · exact a g2
    · exact a (g1.trans he.symm)
  | none =>
    unfold ddec
    split
    · rfl
    · split
      · rfl
      · split
        · rfl
        · split
          · rfl
          · split
            · rfl
            · rename_i n r2 _ _ hcond
              have h1 : encE 15 n = 0 := by
                by_cases h : encE 15 n = 0
                · exact h
                · exact absurd (.inl h) hcond
              have h2 : encS 15 n = l := by
                by_cases h : encS 15 n = l
                · exact h
                · exact absurd (.inr h) hcond
              have := (enc_zero h1).2
              rw [h2, hd] at this
              cases this
end Go.Proofs.Ytdpeblchndfdaaa

namespace Go.Proofs.Ytdpeblchndfdaaa
open Go.RowKit
set_option maxRecDepth 100000
theorem res_ddec (tmps : Array Value) (w : World) (p : Nat) (cs : List Value) (n : Int) (hp : tmps.getD 2 undef = .pointer (some ⟨p, 0, none⟩)) (hq : tmps.getD 3 undef = .int .i64 n) (hA : At w p 24 cs) (hl : cs.length = 5) :
    (results Try.f14 tmps).run Try.prog w = .ok (.tuple #[.agg cs.toArray, .int .i64 n]) w := by
  have hp' : tmps[2]?.getD undef = .pointer (some ⟨p, 0, none⟩) := by simpa using hp
  have hq' : tmps[3]?.getD undef = .int .i64 n := by simpa using hq
  have hr : Try.f14.results = #[.cell 2 24, .tmp 3] := rfl
  simp only [results, hr]
  simp [hp', hq', asAddr, Sem.run_bind, loadVar_nd w p cs hA hl, Result.andThen]
theorem zeroN_one : ∀ v ∈ zeroN, v.oneCell' = true := by
  intro v hv
  simp only [zeroN, List.mem_cons, List.not_mem_nil, or_false] at hv
  rcases hv with rfl | rfl | rfl | rfl | rfl <;> rfl
theorem denc_any {d : Nat} {l1 : List UInt8} {m : Nd} {r2 : List UInt8} (hn : dreadN d l1 = some (m, r2)) (hl : l1.length ≤ 3000) (ao : Option Addr) (cap : Nat) (w : World) (hH : Has any_ w 15 m ao) :
    Calls Try.prog 11 #[m.v ao cap] w fun e w' => e = .returned (.tuple #[.string (bs (encS 15 m)), .int .i64 (encE 15 m)]) ∧ Below w.heap.size w w' := by
  obtain ⟨_, hf⟩ := dread_few d l1 m r2 hn
  obtain ⟨h1, h2⟩ := hf 15 1
  have hb := bytes_le (b := 3000) (l := nodesL 15 1 m) (fun p hp => by have := (h2 p hp).2; omega)
  exact rEncode_any 15 m ao cap w hH (dread_names d l1 m r2 hn (by omega)) (fun _ _ => ⟨by omega, by omega⟩) enc_short
set_option maxHeartbeats 8000000 in
theorem ddecode_any (l : List UInt8) (w : World) (hl : l.length ≤ 3000) :
    Calls Try.prog 14 #[.string (bs l)] w fun e w' => Below w.heap.size w w' ∧ match ddec l with
      | some n => ∃ ao cap, e = .returned (.tuple #[.agg (n.cells ao cap).toArray, .int .i64 0]) ∧ Has any_ w' 15 n ao
      | none => e = .returned (.tuple #[.agg zeroN.toArray, .int .i64 4]) := by
  obtain ⟨RES, hRES⟩ : ∃ RES, RES = ddec l := ⟨_, rfl⟩
  rw [← hRES]
  unfold ddec at hRES
  have HRES := Lib.hid hRES
  have HTX := Lib.hid (fun rb u (h : Rf u rb l false) => refText_bs rb l false u h (by omega) (by simp))
  have hlst := rtext_lost l false (by simp)
  have hrl := rtext_len l false
  obtain ⟨Y, hY⟩ : ∃ Y, Y = rtext l false := ⟨_, rfl⟩
  rw [← hY] at HTX hlst hrl
  have HY := Lib.hid hY
  obtain ⟨tx, l1, lo1⟩ := Y
  simp only at hlst hrl
  have HLST := Lib.hid hlst
  clear hRES hlst hY
  go_enter Try.func14, Try.ntmps14
  go_wp2_with (first
    | (with_reducible refine alloc_any rfl 24 rfl _ zero_nd ?_; intro u hu bu zu; have HU := Lib.hid hu; have BU := Lib.hid bu; clear hu bu)
    | ((with_reducible refine hold_at 11 rfl ?_); unfold held; refine list_val rfl (v := .agg #[.string (bs l), .bool false]) (w' := u) (by kernel_rfl) ?_)
    | (with_reducible refine box_any rfl 66 (.tmp 11) rfl [.string (bs l), .bool false] rfl ?_; intro u2 hu2 bu2 zu2; rw [zu] at hu2 zu2 ⊢; have HR2 := Lib.hid hu2; have HU2 := Lib.hid (HU.out.below bu2 HU.out.lt); have BU2 := Lib.hid (BU.out.trans (bu2.mono (by omega))); clear hu2 bu2))
  refine (HTX.out (w.heap.size + 1) u2 HR2.out).mono ?_
  rintro e w3 ⟨rfl, h3, o3⟩
  have t3 : Touch [w.heap.size + 1, w.heap.size + 1] u2 w3 := touch_only o3
  have z3 := t3.size
  have H3 := Lib.hid h3
  have HU3 := Lib.hid (HU2.out.touch t3 (by simp))
  have B3 := Lib.hid (t3.below BU2.out (by simp) (Nat.le_refl _))
  clear h3 o3 t3 HU HU2 HR2 BU BU2 HTX
  go_wp2_with fail
  refine (dreads 13 (by decide) (w.heap.size + 1) l1 lo1 w3 HLST.out H3.out (by omega)).mono ?_
  rintro e w4 ⟨t4, h4⟩
  have z4 := t4.size
  have HU4 := Lib.hid (HU3.out.touch t4 (by simp))
  have B4 := Lib.hid (t4.below B3.out (by simp) (Nat.le_refl _))
  have hu4 := HU4.out.lt
  clear t4 HU3 B3 H3 HLST
  cases hn : (if lo1 then none else dreadN 13 l1) with
  | none =>
    rw [hn] at h4
    obtain ⟨n', ao', cap', rfl⟩ := h4
    have hnone : RES = none := by
      rw [HRES.out]
      have hh := HY.out
      unfold rtext at hh
      cases ht : Plain.cutT l with
      | none => rfl
      | some y =>
        obtain ⟨a, b⟩ := y
        simp [ht] at hh
        obtain ⟨rfl, rfl, rfl⟩ := hh
        rw [if_neg (by simp)] at hn
        simp only [hn]
        split <;> rfl
    have HNONE := Lib.hid hnone
    clear hn hnone HRES HY
    cases hmg : (tx == magicL)
    · have hmg2 : (tx == [119, 104, 105, 115, 107, 45, 116, 114, 101, 101]) = false := hmg
      go_wp2_with (first
        | (with_reducible refine alloc_any rfl 24 rfl _ zero_nd ?_; intro u7 hu7 bu7 zu7; have HV7 := Lib.hid hu7; have BU7 := Lib.hid bu7; clear hu7 bu7)
        | (refine store_any rfl 24 (.tmp 6) (.tmp 18) rfl w4.heap.size rfl (Nd.cells n' ao' cap') rfl _ HV7.out rfl info_nd (nd_one _ _ _) ?_; intro u8 hu8 tu8; have BU8 := Lib.hid (tu8.below BU7.out (by simp) (Nat.le_refl _)); have HU8 := Lib.hid (HU4.out.below BU8.out HU4.out.lt); have B8 := Lib.hid (B4.out.trans (BU8.out.mono B4.out.size)); clear hu8 tu8)
        | ((with_reducible refine hold_at 31 rfl ?_); unfold held; refine list_val rfl (v := .agg zeroN.toArray) (by kernel_rfl) ?_)
        | (refine store_any rfl 24 (.tmp 2) (.tmp 31) rfl w.heap.size rfl zeroN rfl _ HU8.out rfl info_nd zeroN_one ?_; intro u9 hu9 tu9; have HU9 := Lib.hid hu9; have B9 := Lib.hid (tu9.below B8.out (by simp) (Nat.le_refl _)); clear hu9 tu9))
      (try simp only [Exit.inBlock, Exit.then])
      refine bodyPost_ret (v := .tuple #[.agg zeroN.toArray, .int .i64 4]) (res_ddec _ _ w.heap.size zeroN 4 rfl rfl HU9.out rfl) rfl ?_
      first | exact ⟨B9.out, rfl⟩ | exact ⟨B9.out, by rw [HNONE.out]⟩
    · have htx : tx = magicL := by simpa using hmg
      subst htx
      unfold magicL
      go_wp2_with (first
        | (with_reducible refine alloc_any rfl 24 rfl _ zero_nd ?_; intro u7 hu7 bu7 zu7; have HV7 := Lib.hid hu7; have BU7 := Lib.hid bu7; clear hu7 bu7)
        | (refine store_any rfl 24 (.tmp 6) (.tmp 18) rfl w4.heap.size rfl (Nd.cells n' ao' cap') rfl _ HV7.out rfl info_nd (nd_one _ _ _) ?_; intro u8 hu8 tu8; have BU8 := Lib.hid (tu8.below BU7.out (by simp) (Nat.le_refl _)); have HU8 := Lib.hid (HU4.out.below BU8.out HU4.out.lt); have B8 := Lib.hid (B4.out.trans (BU8.out.mono B4.out.size)); clear hu8 tu8)
        | ((with_reducible refine hold_at 31 rfl ?_); unfold held; refine list_val rfl (v := .agg zeroN.toArray) (by kernel_rfl) ?_)
        | (refine store_any rfl 24 (.tmp 2) (.tmp 31) rfl w.heap.size rfl zeroN rfl _ HU8.out rfl info_nd zeroN_one ?_; intro u9 hu9 tu9; have HU9 := Lib.hid hu9; have B9 := Lib.hid (tu9.below B8.out (by simp) (Nat.le_refl _)); clear hu9 tu9))
      (try simp only [Exit.inBlock, Exit.then])
      refine bodyPost_ret (v := .tuple #[.agg zeroN.toArray, .int .i64 4]) (res_ddec _ _ w.heap.size zeroN 4 rfl rfl HU9.out rfl) rfl ?_
      first | exact ⟨B9.out, rfl⟩ | exact ⟨B9.out, by rw [HNONE.out]⟩
  | some y =>
    obtain ⟨m, r2⟩ := y
    rw [hn] at h4
    obtain ⟨⟨ao4, cap4, rfl, hH4⟩, hR4⟩ := h4
    have hlo1 : lo1 = false := by cases lo1 with | false => rfl | true => cases hn
    subst hlo1
    rw [if_neg (by simp)] at hn
    have hres : RES = if tx ≠ magicL then none else if r2 ≠ [] then none else if encE 15 m ≠ 0 ∨ encS 15 m ≠ l then none else some m := by
      rw [HRES.out]
      have hh := HY.out
      unfold rtext at hh
      cases ht : Plain.cutT l with
      | none => simp [ht] at hh
      | some y =>
        obtain ⟨a, b⟩ := y
        simp [ht] at hh
        obtain ⟨rfl, rfl⟩ := hh
        simp only [hn]
    have HRES1 := Lib.hid hres
    have HENC := Lib.hid (fun W (h : Has any_ W 15 m ao4) => denc_any hn (by omega) ao4 cap4 W h)
    have HH4 := Lib.hid (hH4.ups (show 13 + 1 ≤ 15 by omega))
    have HR4 := Lib.hid hR4
    clear hn hres HRES HY hH4 hR4
    cases hmg : (tx == magicL)
    · have hmg2 : (tx == [119, 104, 105, 115, 107, 45, 116, 114, 101, 101]) = false := hmg
      have hnone : RES = none := by rw [HRES1.out, if_pos (by simpa using hmg)]
      have HNONE := Lib.hid hnone
      clear hnone HRES1
      go_wp2_with (first
        | (with_reducible refine alloc_any rfl 24 rfl _ zero_nd ?_; intro u7 hu7 bu7 zu7; have HV7 := Lib.hid hu7; have BU7 := Lib.hid bu7; clear hu7 bu7)
        | (refine store_any rfl 24 (.tmp 6) (.tmp 18) rfl w4.heap.size rfl (Nd.cells m ao4 cap4) rfl _ HV7.out rfl info_nd (nd_one _ _ _) ?_; intro u8 hu8 tu8; have BU8 := Lib.hid (tu8.below BU7.out (by simp) (Nat.le_refl _)); have HU8 := Lib.hid (HU4.out.below BU8.out HU4.out.lt); have B8 := Lib.hid (B4.out.trans (BU8.out.mono B4.out.size)); clear hu8 tu8)
        | ((with_reducible refine hold_at 31 rfl ?_); unfold held; refine list_val rfl (v := .agg zeroN.toArray) (by kernel_rfl) ?_)
        | (refine store_any rfl 24 (.tmp 2) (.tmp 31) rfl w.heap.size rfl zeroN rfl _ HU8.out rfl info_nd zeroN_one ?_; intro u9 hu9 tu9; have HU9 := Lib.hid hu9; have B9 := Lib.hid (tu9.below B8.out (by simp) (Nat.le_refl _)); clear hu9 tu9))
      (try simp only [Exit.inBlock, Exit.then])
      refine bodyPost_ret (v := .tuple #[.agg zeroN.toArray, .int .i64 4]) (res_ddec _ _ w.heap.size zeroN 4 rfl rfl HU9.out rfl) rfl ?_
      first | exact ⟨B9.out, rfl⟩ | exact ⟨B9.out, by rw [HNONE.out]⟩
    · have htx : tx = magicL := by simpa using hmg
      subst htx
      rw [if_neg (by simp)] at HRES1
      unfold magicL
      go_wp2_with (first
        | (with_reducible refine alloc_any rfl 24 rfl _ zero_nd ?_; intro u7 hu7 bu7 zu7; have HV7 := Lib.hid hu7; have BU7 := Lib.hid bu7; clear hu7 bu7)
        | (refine store_any rfl 24 (.tmp 6) (.tmp 18) rfl w4.heap.size rfl (Nd.cells m ao4 cap4) rfl _ HV7.out rfl info_nd (nd_one _ _ _) ?_; intro u8 hu8 tu8; have BU8 := Lib.hid (tu8.below BU7.out (by simp) (Nat.le_refl _)); have HV8 := Lib.hid hu8; have HU8 := Lib.hid (HU4.out.below BU8.out HU4.out.lt); have B8 := Lib.hid (B4.out.trans (BU8.out.mono B4.out.size)); have HR8 := Lib.hid (At.below HR4.out BU8.out (At.lt HR4.out)); have HH8 := Lib.hid (HH4.out.below BU8.out); clear hu8 tu8))
      clear HV7 BU7 HU4 HR4 HH4
      refine (refEnd_any (w.heap.size + 1) r2 false u8 HR8.out).mono ?_
      rintro e w9 ⟨rfl, rfl⟩
      cases r2 with
      | cons a r2 =>
        have hnone : RES = none := by rw [HRES1.out, if_pos (by simp)]
        have HNONE := Lib.hid hnone
        clear hnone HRES1
        go_wp2_with (first
          | ((with_reducible refine hold_at 31 rfl ?_); unfold held; refine list_val rfl (v := .agg zeroN.toArray) (by kernel_rfl) ?_)
          | (refine store_any rfl 24 (.tmp 2) (.tmp 31) rfl w.heap.size rfl zeroN rfl _ HU8.out rfl info_nd zeroN_one ?_; intro u9 hu9 tu9; have HU9 := Lib.hid hu9; have B9 := Lib.hid (tu9.below B8.out (by simp) (Nat.le_refl _)); clear hu9 tu9))
        (try simp only [Exit.inBlock, Exit.then])
        refine bodyPost_ret (v := .tuple #[.agg zeroN.toArray, .int .i64 4]) (res_ddec _ _ w.heap.size zeroN 4 rfl rfl HU9.out rfl) rfl ?_
        first | exact ⟨B9.out, rfl⟩ | exact ⟨B9.out, by rw [HNONE.out]⟩
      | nil =>
        have hres : RES = if encE 15 m ≠ 0 ∨ encS 15 m ≠ l then none else some m := by rw [HRES1.out, if_neg (by simp)]
        have HRES2 := Lib.hid hres
        clear hres HRES1
        go_wp2_with (refine load_any rfl 24 (.tmp 6) rfl ⟨w4.heap.size, 0, none⟩ rfl (Nd.cells m ao4 cap4) _ (fun j v hj => by rw [Addr.add0]; exact HV8.out.cell j v hj) Try.underlying24 rfl info_nd ?_)
        refine (HENC.out w9 HH8.out.any).mono ?_
        rintro e w10 ⟨rfl, b10⟩
        have HV10 := Lib.hid (HV8.out.below b10 HV8.out.lt)
        have HU8 := Lib.hid (HU8.out.below b10 HU8.out.lt)
        have B8 := Lib.hid (B8.out.trans (b10.mono B8.out.size))
        have HH10 := Lib.hid (HH8.out.below b10)
        clear b10 HV8 HH8 HR8 HENC
        generalize encS 15 m = S at HRES2 ⊢
        generalize encE 15 m = E at HRES2 ⊢
        by_cases hE : E = 0
        · subst hE
          cases hS : (S == l)
          · have hnone : RES = none := by rw [HRES2.out, if_pos (.inr (by simpa using hS))]
            have HNONE := Lib.hid hnone
            clear hnone HRES2
            go_wp2_with (first
              | ((with_reducible refine hold_at 44 rfl ?_); unfold held; refine list_val rfl (v := .agg zeroN.toArray) (by kernel_rfl) ?_)
              | (refine store_any rfl 24 (.tmp 2) (.tmp 44) rfl w.heap.size rfl zeroN rfl _ HU8.out rfl info_nd zeroN_one ?_; intro u9 hu9 tu9; have HU9 := Lib.hid hu9; have B9 := Lib.hid (tu9.below B8.out (by simp) (Nat.le_refl _)); clear hu9 tu9))
            (try simp only [Exit.inBlock, Exit.then])
            refine bodyPost_ret (v := .tuple #[.agg zeroN.toArray, .int .i64 4]) (res_ddec _ _ w.heap.size zeroN 4 rfl rfl HU9.out rfl) rfl ?_
            first | exact ⟨B9.out, rfl⟩ | exact ⟨B9.out, by rw [HNONE.out]⟩
          · have hSl : S = l := by simpa using hS
            subst hSl
            have hsome : RES = some m := by rw [HRES2.out, if_neg (by simp)]
            have HSOME := Lib.hid hsome
            clear hsome HRES2 hS
            go_wp2_with (first
              | (refine load_any rfl 24 (.tmp 6) rfl ⟨w4.heap.size, 0, none⟩ rfl (Nd.cells m ao4 cap4) _ (fun j v hj => by rw [Addr.add0]; exact HV10.out.cell j v hj) Try.underlying24 rfl info_nd ?_)
              | (refine store_any rfl 24 (.tmp 2) (.tmp 45) rfl w.heap.size rfl (Nd.cells m ao4 cap4) rfl _ HU8.out rfl info_nd (nd_one _ _ _) ?_; intro u9 hu9 tu9; have HU9 := Lib.hid hu9; have T9 := Lib.hid tu9; have B9 := Lib.hid (tu9.below B8.out (by simp) (Nat.le_refl _)); clear hu9 tu9))
            (try simp only [Exit.inBlock, Exit.then])
            refine bodyPost_ret (v := .tuple #[.agg (Nd.cells m ao4 cap4).toArray, .int .i64 0]) (res_ddec _ _ w.heap.size (Nd.cells m ao4 cap4) 0 rfl rfl HU9.out rfl) rfl ⟨B9.out, ?_⟩
            have hfin : Has any_ u9 15 m ao4 := (Has.kept (S := fun i => w3.heap.size ≤ i) (fun _ h _ => h) (fun i (hi : w3.heap.size ≤ i) hlt => T9.out.block i hlt (by simp; omega)) _ _ _ HH10.out).any
            have hs2 := HSOME.out
            first
              | (simp only [Option.some.injEq] at hs2; subst hs2; exact ⟨ao4, cap4, rfl, hfin⟩)
              | (rw [hs2]; exact ⟨ao4, cap4, rfl, hfin⟩)
        · have hE' : (E == 0) = false := by simpa using hE
          have hnone : RES = none := by rw [HRES2.out, if_pos (.inl hE)]
          have HNONE := Lib.hid hnone
          clear hnone HRES2
          go_wp2_with (first
            | ((with_reducible refine hold_at 44 rfl ?_); unfold held; refine list_val rfl (v := .agg zeroN.toArray) (by kernel_rfl) ?_)
            | (refine store_any rfl 24 (.tmp 2) (.tmp 44) rfl w.heap.size rfl zeroN rfl _ HU8.out rfl info_nd zeroN_one ?_; intro u9 hu9 tu9; have HU9 := Lib.hid hu9; have B9 := Lib.hid (tu9.below B8.out (by simp) (Nat.le_refl _)); clear hu9 tu9))
          (try simp only [Exit.inBlock, Exit.then])
          refine bodyPost_ret (v := .tuple #[.agg zeroN.toArray, .int .i64 4]) (res_ddec _ _ w.heap.size zeroN 4 rfl rfl HU9.out rfl) rfl ?_
          first | exact ⟨B9.out, rfl⟩ | exact ⟨B9.out, by rw [HNONE.out]⟩
end Go.Proofs.Ytdpeblchndfdaaa

namespace Go.Proofs.Ytdpeblchndfdaaa
open Go.RowKit
set_option maxRecDepth 100000
/-- alike nodes are as deep -/
theorem sameL_depth : ∀ (h : Nat) (a b : Nd), sameL h a b = true → ∀ l, depthL l a = depthL l b
  | 0, _, _, hs, _ => by cases hs
  | h + 1, a, b, hs, l => by
    unfold sameL eqKids at hs
    simp only [Bool.and_eq_true, decide_eq_true_eq, beq_iff_eq] at hs
    obtain ⟨_, _, hk, _, _, hl, hz⟩ := hs
    cases l with
    | zero => rfl
    | succ l =>
      unfold depthL
      rw [hk]
      split
      · rfl
      · congr 1
        have key : ∀ (x y : List Nd) (g : Nat), x.length = y.length → (x.zip y).all (fun p => sameL h p.1 p.2) = true → x.foldl (fun g k => max g (depthL l k)) g = y.foldl (fun g k => max g (depthL l k)) g := by
          intro x
          induction x with
          | nil => intro y g hl _; cases y with | nil => rfl | cons _ _ => cases hl
          | cons p r ih =>
            intro y g hl hz
            cases y with
            | nil => cases hl
            | cons q s =>
              rw [List.zip_cons_cons, List.all_cons, Bool.and_eq_true] at hz
              rw [List.foldl_cons, List.foldl_cons, sameL_depth h p q hz.1 l]
              exact ih s _ (by simpa using hl) hz.2
        exact key a.kids b.kids 0 hl hz
structure Wr (w : World) (ac bc : List Value) (W : World) : Prop where
  a : At W w.heap.size 24 ac
  c : At W (w.heap.size + 1) 24 bc
  b : Below w.heap.size w W
theorem Wr.below {w : World} {ac bc : List Value} {W W' : World} (h : Wr w ac bc W) (b : Below W.heap.size W W') : Wr w ac bc W' := ⟨h.a.below b h.a.lt, h.c.below b h.c.lt, h.b.trans (b.mono h.b.size)⟩
theorem enter_rsame : ∀ (args : Array Value) (w : World), (callFunc 15 args).run Try.prog w = .ok (.enter 15 args) w := enters_of Try.func15 (by kernel_rfl) rfl
theorem same_facts {h : Nat} {a b : Nd} (hd : depthL 14 a ≤ 12) : sameL (h + 1) a b = ((a.name == b.name) && ((a.kind == b.kind) && ((a.exec == b.exec) && ((a.data == b.data) && eqKids (sameL h) a.kids b.kids)))) := by
  show (decide (depthL 14 a ≤ 12) && _) = _
  rw [decide_eq_true hd]; rfl
set_option maxHeartbeats 8000000 in
theorem rsame_any : ∀ (h hb : Nat) (a b : Nd) (ao bo : Option Addr) (ca cb : Nat) (w : World), Has any_ w h a ao → Has any_ w hb b bo →
    Calls Try.prog 15 #[a.v ao ca, b.v bo cb] w fun e w' => e = .returned (.bool (sameL h a b)) ∧ Below w.heap.size w w' := by
  intro h
  induction h with
  | zero => intro hb a b ao bo ca cb w hA; exact hA.elim
  | succ h ih =>
    intro hb a b ao bo ca cb w hA hB
    cases hb with
    | zero => exact hB.elim
    | succ hc =>
    cases a with
    | mk an ak ae ad aks =>
    cases b with
    | mk bn bk be bd bks =>
    have hla := hA.1
    have hlb := hB.1
    unfold maxLen at hla hlb
    change aks.length ≤ _ at hla
    change bks.length ≤ _ at hlb
    obtain ⟨R, hR⟩ : ∃ R, R = sameL (h + 1) ⟨an, ak, ae, ad, aks⟩ ⟨bn, bk, be, bd, bks⟩ := ⟨_, rfl⟩
    rw [← hR]
    have IH := Lib.hid ih
    have HA := Lib.hid hA
    have HB := Lib.hid hB
    have HR := Lib.hid hR
    clear ih hA hB hR
    go_enter Try.func15, Try.ntmps15
    go_wp2_with (first
      | (with_reducible refine box_any rfl 24 (.tmp 0) rfl [.string (bs an), .int .i64 ak, .bool ae, .string (bs ad), .slice ao aks.length ca] rfl ?_; intro u hu bu zu; have HU := Lib.hid hu; have BU := Lib.hid bu; clear hu bu)
      | (with_reducible refine box_any rfl 24 (.tmp 1) rfl [.string (bs bn), .int .i64 bk, .bool be, .string (bs bd), .slice bo bks.length cb] rfl ?_; intro u2 hu2 bu2 zu2; rw [zu] at hu2; have S2 := Lib.hid (Wr.mk (w := w) (HU.out.below bu2 HU.out.lt) hu2 (BU.out.trans (bu2.mono (by omega)))); clear hu2 bu2; have SA2 := Lib.hid S2.out.a)
      | (refine load_any rfl 24 (.tmp 2) rfl ⟨w.heap.size, 0, none⟩ rfl ([.string (bs an), .int .i64 ak, .bool ae, .string (bs ad), .slice ao aks.length ca] : List Value) _ (fun j v hj => by rw [Addr.add0]; exact SA2.out.cell j v hj) Try.underlying24 rfl info_nd ?_))
    refine (rDeep_any (h + 1) ⟨an, ak, ae, ad, aks⟩ ao ca u2 (HA.out.below S2.out.b)).mono ?_
    rintro e w3 ⟨rfl, b3⟩
    have S3 := Lib.hid (S2.out.below b3)
    clear b3 HU BU S2 SA2
    obtain ⟨D, hD⟩ : ∃ D, D = depthL 14 (Nd.mk an ak ae ad aks) := ⟨_, rfl⟩
    obtain ⟨E, hE⟩ : ∃ E, E = depthL 14 (Nd.mk bn bk be bd bks) := ⟨_, rfl⟩
    rw [← hD]
    have HD := Lib.hid hD
    have HE := Lib.hid hE
    clear hD hE
    by_cases hdp : 12 < D
    · have hdp' : (12 : Int) < D := by omega
      go_wp2_with fail
      go_ret
      refine ⟨?_, S3.out.b⟩
      have hr : R = false := by rw [HR.out]; show (decide (depthL 14 (Nd.mk an ak ae ad aks) ≤ 12) && _) = false; rw [← HD.out]; simp; omega
      rw [hr]; rfl
    have hdp' : ¬ (12 : Int) < D := by omega
    have hD12 : depthL 14 (Nd.mk an ak ae ad aks) ≤ 12 := by rw [← HD.out]; omega
    have HR2 := Lib.hid (HR.out.trans (same_facts hD12))
    have b0 := S3.out.c.cell 0 _ rfl
    have b1 := S3.out.c.cell 1 _ rfl
    have b2 := S3.out.c.cell 2 _ rfl
    have b3 := S3.out.c.cell 3 _ rfl
    have b4 := S3.out.c.cell 4 _ rfl
    clear hD12
    go_wp2_with fail
    refine (rDeep_any (hc + 1) ⟨bn, bk, be, bd, bks⟩ bo cb w3 (HB.out.below S3.out.b)).mono ?_
    rintro e w4 ⟨rfl, bb4⟩
    have S4 := Lib.hid (S3.out.below bb4)
    clear bb4 b0 b1 b2 b3 b4 S3
    rw [← HE.out]
    by_cases hdq : 12 < E
    · have hdq' : (12 : Int) < E := by omega
      go_wp2_with fail
      go_ret
      refine ⟨?_, S4.out.b⟩
      have hr : R = false := by
        cases hq : R
        · rfl
        · rw [HR.out] at hq
          have := sameL_depth _ _ _ hq 14
          rw [← HD.out, ← HE.out] at this
          omega
      rw [hr]; rfl
    have hdq' : ¬ (12 : Int) < E := by omega
    have a0 := S4.out.a.cell 0 _ rfl
    have a1 := S4.out.a.cell 1 _ rfl
    have a2 := S4.out.a.cell 2 _ rfl
    have a3 := S4.out.a.cell 3 _ rfl
    have a4 := S4.out.a.cell 4 _ rfl
    have b0 := S4.out.c.cell 0 _ rfl
    have b1 := S4.out.c.cell 1 _ rfl
    have b2 := S4.out.c.cell 2 _ rfl
    have b3 := S4.out.c.cell 3 _ rfl
    have b4 := S4.out.c.cell 4 _ rfl

    by_cases e0 : an = bn
    case neg =>
      have e0' : (an == bn) = false := by simpa using e0
      go_wp2_with fail
      go_ret
      refine ⟨?_, S4.out.b⟩
      have hr : R = false := by rw [HR2.out]; simp [Nd.name, e0]
      rw [hr]; rfl
    subst e0
    by_cases e1 : ak = bk
    case neg =>
      have e1' : (ak == bk) = false := by simpa using e1
      go_wp2_with fail
      go_ret
      refine ⟨?_, S4.out.b⟩
      have hr : R = false := by rw [HR2.out]; simp [Nd.kind, e1]
      rw [hr]; rfl
    subst e1
    by_cases e2 : ae = be
    case neg =>
      have e2' : (ae == be) = false := by simpa using e2
      go_wp2_with fail
      go_ret
      refine ⟨?_, S4.out.b⟩
      have hr : R = false := by rw [HR2.out]; simp [Nd.exec, e2]
      rw [hr]; rfl
    subst e2
    by_cases e3 : ad = bd
    case neg =>
      have e3' : (ad == bd) = false := by simpa using e3
      go_wp2_with fail
      go_ret
      refine ⟨?_, S4.out.b⟩
      have hr : R = false := by rw [HR2.out]; simp [Nd.data, e3]
      rw [hr]; rfl
    subst e3
    by_cases hl : aks.length = bks.length
    case neg =>
      have hl' : ((aks.length : Int) == (bks.length : Int)) = false := by simp; omega
      go_wp2_with fail
      go_ret
      refine ⟨?_, S4.out.b⟩
      have hr : R = false := by rw [HR2.out]; simp [Nd.kids, eqKids, hl]
      rw [hr]; rfl
    have HR3 := Lib.hid (show R = (aks.zip bks).all (fun p => sameL h p.1 p.2) by rw [HR2.out]; simp [Nd.name, Nd.kind, Nd.exec, Nd.data, Nd.kids, eqKids, hl])
    have hl' : ((aks.length : Int) == (bks.length : Int)) = true := by simp; omega
    have HL := Lib.hid hl
    clear hl
    go_wp2_with fail
    clear a0 a1 a2 a3 a4 b0 b1 b2 b3 b4 hl'
    go_loopw [5] (fun i wx => ∃ k : Nat, k ≤ aks.length ∧ i = .int .i64 k ∧ Wr w [.string (bs an), .int .i64 ak, .bool ae, .string (bs ad), .slice ao aks.length ca] [.string (bs an), .int .i64 ak, .bool ae, .string (bs ad), .slice bo bks.length cb] wx ∧ ((aks.zip bks).take k).all (fun p => sameL h p.1 p.2) = true) (fun i _ => aks.length - (intOf i).toNat)
    case atStart => exact ⟨0, Nat.zero_le _, rfl, S4.out, by simp⟩
    clear S4
    case round =>
      obtain ⟨k, hk, rfl, hS, hall⟩ := hrel
      have a4 := hS.a.cell 4 _ rfl
      have S := Lib.hid hS
      have HALL := Lib.hid hall
      clear hS hall
      by_cases hlt : k < aks.length
      · have hlt' : (k : Int) < aks.length := by omega
        have hltb : k < bks.length := by rw [← HL.out]; exact hlt
        obtain ⟨m1, hm1⟩ : ∃ m, aks[k]? = some m := ⟨_, List.getElem?_eq_getElem hlt⟩
        obtain ⟨m2, hm2⟩ : ∃ m, bks[k]? = some m := ⟨_, List.getElem?_eq_getElem hltb⟩
        obtain ⟨x, g1, c1, rfl, _, hK1, hM1⟩ := HA.out.2 k m1 hm1
        obtain ⟨y, g2, c2, rfl, _, hK2, hM2⟩ := HB.out.2 k m2 hm2
        have hzip : (aks.zip bks).take (k + 1) = (aks.zip bks).take k ++ [(m1, m2)] := by rw [List.take_add_one, zip_get hm1 hm2]; rfl
        have hmem : (m1, m2) ∈ aks.zip bks := List.mem_of_getElem? (zip_get hm1 hm2)
        have HK1 := Lib.hid hK1
        have HK2 := Lib.hid hK2
        have HM1 := Lib.hid hM1
        have HM2 := Lib.hid hM2
        have HZ := Lib.hid hzip
        have HME := Lib.hid hmem
        clear hK1 hK2 hM1 hM2 hm1 hm2 hzip hmem
        go_wp2_with fail
        clear a4
        obtain ⟨AC, hAC⟩ : ∃ AC : List Value, AC = [.string (bs an), .int .i64 ak, .bool ae, .string (bs ad), .slice (some x) aks.length ca] := ⟨_, rfl⟩
        obtain ⟨BC, hBC⟩ : ∃ BC : List Value, BC = [.string (bs an), .int .i64 ak, .bool ae, .string (bs ad), .slice (some y) bks.length cb] := ⟨_, rfl⟩
        have S0 : Wr w AC BC wr.drew := by rw [hAC, hBC]; exact ⟨S.out.a.drew, S.out.c.drew, S.out.b.drew⟩
        refine region_any (Wr w AC BC) 12 (by kernel_rfl) ?_
        refine wpAnyT_takeN (i := 0) (v := .pointer (some ⟨w.heap.size, 4, none⟩)) rfl (by decide) (by kernel_rfl) (by kernel_rfl) (by kernel_rfl) (fun _ _ _ h => h) (.inl ⟨by kernel_rfl, fun W hS => by kernel_rfl⟩) S0 ?_
        refine wpAnyT_takeN (i := 1) (v := .slice (some x) aks.length ca) rfl (by decide) (by kernel_rfl) (by kernel_rfl) (by kernel_rfl) (fun _ _ _ h => h) (.inl ⟨by kernel_rfl, fun W hS => run_load_one 22 (.tmp 56) rfl ⟨w.heap.size, 4, none⟩ (by kernel_rfl) _ (hS.a.cell 4 _ (by rw [hAC]; rfl)) _ Try.underlying22 rfl⟩) S0 ?_
        refine wpAnyT_takeN (i := 2) (v := .int .i64 (k : Int)) rfl (by decide) (by kernel_rfl) (by kernel_rfl) (by kernel_rfl) (fun _ _ _ h => h) (.inl ⟨by kernel_rfl, fun W hS => by kernel_rfl⟩) S0 ?_
        refine wpAnyT_takeN (i := 3) (v := .pointer (some (x.add (k * 5)))) rfl (by decide) (by kernel_rfl) (by kernel_rfl) (by kernel_rfl) (fun _ _ _ h => h) (.inl ⟨by kernel_rfl, fun W hS => run_index_op 22 24 (.tmp 57) (.tmp 58) rfl x aks.length ca k (by kernel_rfl) (by kernel_rfl) hlt 5 _ rfl Try.underlying22 info_nd⟩) S0 ?_
        refine wpAnyT_takeN (i := 4) (v := m1.v g1 c1) rfl (by decide) (by kernel_rfl) (by kernel_rfl) (by kernel_rfl) (fun _ _ _ h => h) (.inl ⟨by kernel_rfl, fun W hS => run_load_nd (.tmp 59) rfl (x.add (k * 5)) (by kernel_rfl) m1 g1 c1 (fun j v hj => (HK1.out.kept (hS.b.block x.block HK1.out.lt)) j v hj)⟩) S0 ?_
        refine wpAnyT_takeN (i := 5) (v := .pointer (some ⟨(w.heap.size + 1), 4, none⟩)) rfl (by decide) (by kernel_rfl) (by kernel_rfl) (by kernel_rfl) (fun _ _ _ h => h) (.inl ⟨by kernel_rfl, fun W hS => by kernel_rfl⟩) S0 ?_
        refine wpAnyT_takeN (i := 6) (v := .slice (some y) bks.length cb) rfl (by decide) (by kernel_rfl) (by kernel_rfl) (by kernel_rfl) (fun _ _ _ h => h) (.inl ⟨by kernel_rfl, fun W hS => run_load_one 22 (.tmp 61) rfl ⟨(w.heap.size + 1), 4, none⟩ (by kernel_rfl) _ (hS.c.cell 4 _ (by rw [hBC]; rfl)) _ Try.underlying22 rfl⟩) S0 ?_
        refine wpAnyT_takeN (i := 7) (v := .int .i64 (k : Int)) rfl (by decide) (by kernel_rfl) (by kernel_rfl) (by kernel_rfl) (fun _ _ _ h => h) (.inl ⟨by kernel_rfl, fun W hS => by kernel_rfl⟩) S0 ?_
        refine wpAnyT_takeN (i := 8) (v := .pointer (some (y.add (k * 5)))) rfl (by decide) (by kernel_rfl) (by kernel_rfl) (by kernel_rfl) (fun _ _ _ h => h) (.inl ⟨by kernel_rfl, fun W hS => run_index_op 22 24 (.tmp 62) (.tmp 63) rfl y bks.length cb k (by kernel_rfl) (by kernel_rfl) hltb 5 _ rfl Try.underlying22 info_nd⟩) S0 ?_
        refine wpAnyT_takeN (i := 9) (v := m2.v g2 c2) rfl (by decide) (by kernel_rfl) (by kernel_rfl) (by kernel_rfl) (fun _ _ _ h => h) (.inl ⟨by kernel_rfl, fun W hS => run_load_nd (.tmp 64) rfl (y.add (k * 5)) (by kernel_rfl) m2 g2 c2 (fun j v hj => (HK2.out.kept (hS.b.block y.block HK2.out.lt)) j v hj)⟩) S0 ?_
        refine wpAnyT_call (i := 10) (by kernel_rfl) rfl (by kernel_rfl) 15 #[m1.v g1 c1, m2.v g2 c2] (run_call_func rfl enter_rsame _ (by kernel_rfl)) ((IH.out hc m1 m2 g1 g2 c1 c2 wr.drew (HM1.out.below S0.b) (HM2.out.below S0.b)).mono ?_)
        rintro e w5 ⟨rfl, b5⟩
        have S1 := Wr.below S0 b5
        refine ⟨_, rfl, S1, ?_⟩
        refine wpAnyT_takeN (i := 11) (v := .bool (!sameL h m1 m2)) rfl (by decide) (by kernel_rfl) (by kernel_rfl) (by kernel_rfl) (fun _ _ _ h => h) (.inl ⟨by kernel_rfl, fun W hS => by kernel_rfl⟩) S1 ?_
        refine wpAnyT_done (by kernel_rfl) ?_ _
        simp only [Act.put, List.getElem_toArray, List.getElem_cons_succ, List.getElem_cons_zero, List.setIfInBounds_toArray, List.set_cons_zero, List.set_cons_succ]
        have S5 := Lib.hid (show Wr w [.string (bs an), .int .i64 ak, .bool ae, .string (bs ad), .slice (some x) aks.length ca] [.string (bs an), .int .i64 ak, .bool ae, .string (bs ad), .slice (some y) bks.length cb] w5 by rw [← hAC, ← hBC]; exact S1)
        clear S1 S0 hAC hBC b5 S
        cases hq : sameL h m1 m2
        · go_wp2_with fail
          go_ret
          refine ⟨?_, S5.out.b⟩
          have : (aks.zip bks).all (fun p => sameL h p.1 p.2) = false := by rw [List.all_eq_false]; exact ⟨(m1, m2), HME.out, by simp [hq]⟩
          rw [HR3.out, this]; rfl
        · go_wp2_with fail
          go_roundw
          case rel => exact ⟨k + 1, by omega, by go_num, S5.out, by rw [HZ.out, List.all_append, HALL.out]; simp [hq]⟩
          case measure => simp [intOf]; omega
      · obtain rfl : k = aks.length := by omega
        have hlt' : ¬ (aks.length : Int) < aks.length := by omega
        go_wp2_with fail
        go_ret
        refine ⟨?_, S.out.b⟩
        have : (aks.zip bks).all (fun p => sameL h p.1 p.2) = true := by
          have := HALL.out
          have hle := HL.out
          rwa [List.take_of_length_le (by rw [List.length_zip]; omega)] at this
        rw [HR3.out, this]; rfl
end Go.Proofs.Ytdpeblchndfdaaa

namespace Go.Proofs.Ytdpeblchndfdaaa
open Go.RowKit
set_option maxRecDepth 100000
theorem ctake3 (s : List UInt8) : s.take (min s.length 3000) = s.take 3000 := by rw [List.take_eq_take_iff]; omega
def zNd : Nd := ⟨[], 0, false, [], []⟩
theorem zNd_cells : zNd.cells none 0 = zeroN := rfl
/-- what both answer -/
def ansN (o : Option Nd) : Nd := o.getD zNd
def ansE (o : Option Nd) : Int := if o.isSome then 0 else 4
theorem pdec_any (l : List UInt8) (w : World) : Calls Try.prog 13 #[.string (bs l)] w fun e w' => Below w.heap.size w w' ∧ ∃ ao cap, e = .returned (.tuple #[.agg ((ansN (decL l)).cells ao cap).toArray, .int .i64 (ansE (decL l))]) ∧ Has any_ w' 15 (ansN (decL l)) ao := by
  cases hd : decL l with
  | some n =>
    refine (decode_some hd w).mono ?_
    rintro e w' ⟨b, ao, cap, rfl, h⟩
    exact ⟨b, ao, cap, rfl, h.any⟩
  | none =>
    refine (decode_none hd w).mono ?_
    rintro e w' ⟨b, rfl⟩
    exact ⟨b, none, 0, rfl, Has.leaf _ _ _ _ _ rfl⟩
theorem rdec_any (l : List UInt8) (hl : l.length ≤ 3000) (w : World) : Calls Try.prog 14 #[.string (bs l)] w fun e w' => Below w.heap.size w w' ∧ ∃ ao cap, e = .returned (.tuple #[.agg ((ansN (decL l)).cells ao cap).toArray, .int .i64 (ansE (decL l))]) ∧ Has any_ w' 15 (ansN (decL l)) ao := by
  refine (ddecode_any l w hl).mono ?_
  rintro e w' ⟨b, h⟩
  rw [ddec_eq l hl] at h
  cases hd : decL l with
  | some n =>
    rw [hd] at h
    obtain ⟨ao, cap, rfl, h⟩ := h
    exact ⟨b, ao, cap, rfl, h⟩
  | none =>
    rw [hd] at h
    obtain rfl := h
    exact ⟨b, none, 0, rfl, Has.leaf _ _ _ _ _ rfl⟩
theorem ans_same (l : List UInt8) : sameL 15 (ansN (decL l)) (ansN (decL l)) = true := by
  cases hd : decL l with
  | some n => exact same_may (dec_back hd).1
  | none => decide +kernel
set_option maxHeartbeats 4000000 in
theorem reads_any (s : List UInt8) (w : World) :
    Calls Try.prog 4 #[.string (bs s)] w fun e w' => e = .returned (.bool true) ∧ Below w.heap.size w w' := by
  have e2 : (if (3000 : Int) < (s.length : Int) then (3000 : Int) else (s.length : Int)) = ((min s.length 3000 : Nat) : Int) := by split <;> omega
  obtain ⟨L, hL⟩ : ∃ L, L = s.take 3000 := ⟨_, rfl⟩
  have hLl : L.length ≤ 3000 := by rw [hL, List.length_take]; omega
  have t2 : s.take (min s.length 3000) = L := by rw [ctake3, hL]
  have E2 := Lib.hid e2
  have T2 := Lib.hid t2
  have HSA := Lib.hid (ans_same L)
  have HD := Lib.hid (pdec_any L)
  have HF := Lib.hid (rdec_any L hLl)
  clear e2 t2 hL
  generalize ansN (decL L) = A at HSA HD HF
  generalize ansE (decL L) = E at HD HF
  go_enter Try.func4, Try.ntmps4
  go_wp2_with (first
    | (with_reducible refine list_val rfl (run_min_op (.tmp 9) (.const (.int .i64 3000)) rfl (s.length : Int) 3000 _ rfl rfl E2.out) ?_)
    | (with_reducible refine list_val rfl (run_hi_op (.tmp 7) (.tmp 10) rfl s (min s.length 3000) (by omega) rfl rfl) ?_; rw [T2.out]))
  refine (HD.out w).mono ?_
  rintro e w2 ⟨b2, ao, cap, rfl, hA⟩
  have BW2 := Lib.hid b2
  have HX2 := Lib.hid hA
  clear b2 hA HD
  go_wp2_with (first
    | (with_reducible refine alloc_any rfl 24 rfl _ zero_nd ?_; intro u hu bu zu; have HU := Lib.hid hu; have BU := Lib.hid bu; clear hu bu)
    | (refine store_any rfl 24 (.tmp 3) (.tmp 15) rfl w2.heap.size rfl (A.cells ao cap) rfl _ HU.out rfl info_nd (nd_one _ _ _) ?_; intro u3 hu3 tu3; have HA3 := Lib.hid hu3; have b3 := Lib.hid (tu3.below BU.out (by simp) (Nat.le_refl _)); have BU3 := Lib.hid (BW2.out.trans (b3.out.mono BW2.out.size)); have HX3 := Lib.hid (HX2.out.below b3.out); clear hu3 tu3))
  clear HU BU b3 HX2 BW2
  refine (HF.out u3).mono ?_
  rintro e w4 ⟨b4, bo, cap2, rfl, hB⟩
  have HA4 := Lib.hid (HA3.out.below b4 HA3.out.lt)
  have HX4 := Lib.hid (HX3.out.below b4)
  have BU4 := Lib.hid (BU3.out.trans (b4.mono BU3.out.size))
  have HY4 := Lib.hid hB
  clear b4 hB HF HA3 HX3 BU3
  have hEE : (E == E) = true := by simp
  have hw4 : w2.heap.size < w4.heap.size := HA4.out.lt
  go_wp2_with (first
    | (with_reducible refine alloc_any rfl 24 rfl _ zero_nd ?_; intro u hu bu zu; have HU := Lib.hid hu; have BU := Lib.hid bu; clear hu bu)
    | (refine store_any rfl 24 (.tmp 5) (.tmp 20) rfl w4.heap.size rfl (A.cells bo cap2) rfl _ HU.out rfl info_nd (nd_one _ _ _) ?_; intro u5 hu5 tu5; have HB5 := Lib.hid hu5; have b5 := Lib.hid (tu5.below BU.out (by simp) (Nat.le_refl _)); have BU5 := Lib.hid (BU4.out.trans (b5.out.mono BU4.out.size)); have HA5 := Lib.hid (HA4.out.below b5.out HA4.out.lt); have HX5 := Lib.hid (HX4.out.below b5.out); have HY5 := Lib.hid (HY4.out.below b5.out); clear hu5 tu5)
    | (refine load_any_g (by kernel_rfl) 24 (.tmp 3) rfl ⟨w2.heap.size, 0, none⟩ rfl (A.cells ao cap) _ (fun j v hj => by rw [Addr.add0]; exact HA5.out.cell j v hj) Try.underlying24 rfl info_nd ?_)
    | (refine load_any_g (by kernel_rfl) 24 (.tmp 5) rfl ⟨w4.heap.size, 0, none⟩ rfl (A.cells bo cap2) _ (fun j v hj => by rw [Addr.add0]; exact HB5.out.cell j v hj) Try.underlying24 rfl info_nd ?_))
  refine (rsame_any 15 15 A A ao bo cap cap2 u5 HX5.out HY5.out).mono ?_
  rintro e w6 ⟨rfl, b6⟩
  rw [HSA.out]
  have BU6 := Lib.hid (BU5.out.trans (b6.mono BU5.out.size))
  clear b6 HB5 BU5 HA5 HX5 HY5 HSA
  go_wp2_with fail
  refine (works_any w6).mono ?_
  rintro e w20 ⟨rfl, bw⟩
  have KW := Lib.hid (BU6.out.trans (bw.mono BU6.out.size))
  clear bw
  go_wp2_with fail
  go_ret
  exact ⟨rfl, KW.out⟩
end Go.Proofs.Ytdpeblchndfdaaa
