/- A reader's node. -/
import Derived.Test.YtdpeblchndfdaaaMl
namespace Go.Proofs.Ytdpeblchndfdaaa
open Go.RowKit Go.Maps Go.ChangeMaps Go.MapKept
set_option maxRecDepth 100000
theorem wpAnyT_fail {P : Program} {md : Region.Mode} {ops : Array Oper} {Q : Exit → Act → World → Prop} {S : World → Prop} {t i fuel : Nat} {listed : Array Bool} {a : Act} {w : World} {o : Oper} (hrd : Region.ready md ops listed = [i]) (hi : ops[i]? = some o) (hw : Region.wanted o (yielded ops a.tmps) = true) (f : FuncId) (args : Array Value)
    (hr : (execOp a.eval o).run P w = .ok (.enter f args) w) (hc : Calls P f args w fun e w' => ∃ ch, e = .panicked ch ∧ Q (.panic ch) a w') : wpAnyT P md ops Q S t (fuel + 1) listed a w :=
  wpAnyT_all hrd (by simp) (fun j hj => by
    obtain rfl : j = i := by simpa using hj
    unfold wpOp
    simp only [hi, hw, if_true]
    refine .inl ?_
    unfold Oper.wp
    rw [hr]
    refine hc.mono ?_
    rintro e w' ⟨ch, rfl, h⟩
    exact h)
def rcells (rb mb lvl : Nat) : List Value := [.pointer (some ⟨rb, 0, none⟩), .int .i64 (lvl : Int), .map (some mb)]
theorem RAt.at {w : World} {b rb mb : Nat} {l : List UInt8} {lvl : Nat} (h : RAt w b rb mb l lvl) : At w b 63 (rcells rb mb lvl) := by
  obtain ⟨hne, n, hA, hR, hM⟩ := h
  exact hA
/-- another level -/
theorem RAt.relevel {w u : World} {b rb mb : Nat} {l : List UInt8} {lvl lvl' : Nat} (h : RAt w b rb mb l lvl) (hA : At u b 63 (rcells rb mb lvl')) (t : Touch [b] w u) : RAt u b rb mb l lvl' := by
  obtain ⟨hne, n, hA0, hR, hM⟩ := h
  exact ⟨hne, n, hA, At.touch hR t (by simp; exact fun e => hne e.symm), hM.keep (t.block mb hM.lt (by simp; exact hM.ne hA0))⟩
/-- what node's region reads -/
def RS (b mb : Nat) (W : World) : Prop := W.cell? ⟨b, 2, none⟩ = some (.map (some mb)) ∧ ∃ n, FMap 82 .u64 W mb b n rtab
theorem RAt.rs {w : World} {b rb mb : Nat} {l : List UInt8} {lvl : Nat} (h : RAt w b rb mb l lvl) : RS b mb w := by
  obtain ⟨hne, n, hA, hR, hM⟩ := h
  exact ⟨hA.cell 2 _ rfl, n, hM⟩
theorem enters_rnum : ∀ args w, (callFunc 58 args).run Try.prog w = .ok (.enter 58 args) w := enters_of Try.func58 (by kernel_rfl) rfl
theorem enters_rfile : ∀ args w, (callFunc 53 args).run Try.prog w = .ok (.enter 53 args) w := enters_of Try.func53 (by kernel_rfl) rfl
theorem enters_rdir : ∀ args w, (callFunc 54 args).run Try.prog w = .ok (.enter 54 args) w := enters_of Try.func54 (by kernel_rfl) rfl
theorem enters_rlink : ∀ args w, (callFunc 55 args).run Try.prog w = .ok (.enter 55 args) w := enters_of Try.func55 (by kernel_rfl) rfl
theorem u64_wf (n : Nat) (h : n < Plain.big) : (Lit.int .u64 (n : Int)).wf = true := by
  have hb : Plain.big = 18446744073709551616 := rfl
  have h1 : IntKind.u64.min = 0 := by decide
  have h2 : IntKind.u64.max = 18446744073709551615 := by decide
  show (decide (IntKind.u64.min ≤ (n : Int)) && decide ((n : Int) ≤ IntKind.u64.max)) = true
  rw [h1, h2]
  simp
  omega
/-- what is read behind a kind's number -/
def restN (k n : Nat) (r : List UInt8) : Option (Nd × List UInt8) := if n = 1 then readFile r else if n = 2 then readDir (readN k) r else if n = 3 then readLink r else none
/-- what takes it -/
theorem taker (k : Nat) (ih : Reads k) (b rb mb lvl : Nat) (hk : lvl + k = 12) (n : Nat) (r : List UInt8) (hl : r.length ≤ 1000000) (fn : Nat) (hf : rtab (n : Int) = some fn) :
    (∀ args w, (callFunc fn args).run Try.prog w = .ok (.enter fn args) w) ∧ ∀ w, RAt w b rb mb r lvl → Calls Try.prog fn #[.pointer (some ⟨b, 0, none⟩)] w fun e w' => NodeEnd w w' b rb mb lvl (k + 1) (restN k n r) e := by
  unfold rtab at hf
  split at hf
  · rename_i h3
    obtain rfl : n = 3 := by omega
    cases hf
    exact ⟨enters_rlink, fun w h => rlink_any b rb mb lvl k r w h hl⟩
  · split at hf
    · rename_i h2
      obtain rfl : n = 2 := by omega
      cases hf
      exact ⟨enters_rdir, fun w h => rdir_any k ih b rb mb lvl r w hk h hl⟩
    · split at hf
      · rename_i h1
        obtain rfl : n = 1 := by omega
        cases hf
        exact ⟨enters_rfile, fun w h => rfile_any b rb mb lvl k r w h hl⟩
      · cases hf
theorem rest_none (k n : Nat) (r : List UInt8) (hf : rtab (n : Int) = none) : restN k n r = none := by
  unfold rtab at hf
  split at hf
  · cases hf
  · split at hf
    · cases hf
    · split at hf
      · cases hf
      · unfold restN
        rw [if_neg (by omega), if_neg (by omega), if_neg (by omega)]
set_option maxHeartbeats 1000000 in
theorem rnode_deep (b rb mb : Nat) (l : List UInt8) (w : World) (hA : RAt w b rb mb l 12) :
    Calls Try.prog 32 #[.pointer (some ⟨b, 0, none⟩)] w fun e w' => NodeEnd w w' b rb mb 12 0 none e := by
  have H := Lib.hid hA
  have hlt := hA.lt
  obtain ⟨lvl, hlvl⟩ : ∃ lvl, lvl = 12 := ⟨_, rfl⟩
  rw [← hlvl] at H ⊢
  have hdec := Lib.hid (decide_eq_false (show ¬ ((lvl : Int) + 1 ≤ 12) by omega))
  have hl12 : lvl ≤ 12 := by omega
  clear hA hlvl
  go_enter Try.func32, Try.ntmps32
  go_wp2_with (first
    | (with_reducible refine alloc_any rfl 24 rfl _ zero_nd ?_; intro u hu bu zu; have HU := Lib.hid hu; have BU := Lib.hid bu; have HA1 := Lib.hid (H.out.at.below bu H.out.at.lt); have c1 := HA1.out.cell 1 _ rfl; clear hu bu)
    | (refine store_int_any rfl (.tmp 12) (.tmp 10) rfl b 1 rfl ((lvl : Int) + 1) rfl _ (rcells rb mb (lvl + 1)) HA1.out (by simp [rcells]) rfl ?_; intro u2 hu2 tu2; have HA2 := Lib.hid hu2; have HT2 := Lib.hid tu2; have c2 := hu2.cell 1 _ rfl; clear hu2 tu2))
  rw [hdec.out]
  refine (must_no u2).mono ?_
  rintro e w2 ⟨rfl, rfl⟩
  have T2 := Lib.hid (((Touch.of_below (ft := [b, rb]) BU.out).step HT2.out (by simp)))
  go_wp2_with fail
  exact ⟨rfl, T2.out, rfl⟩
set_option maxHeartbeats 2000000 in
theorem rnode_bad (k : Nat) (ih : Reads k) (b rb mb lvl : Nat) (l : List UInt8) (w : World) (hk : lvl + (k + 1) = 12) (hA : RAt w b rb mb l lvl) (hl : l.length ≤ 1000000) (hc : Plain.cut l = none) :
    Calls Try.prog 32 #[.pointer (some ⟨b, 0, none⟩)] w fun e w' => NodeEnd w w' b rb mb lvl (k + 1) (readN (k + 1) l) e := by
  have H := Lib.hid hA
  have hlt := hA.lt
  clear hA
  have IH := Lib.hid ih
  clear ih
  obtain ⟨RES, hRES⟩ : ∃ RES, RES = readN (k + 1) l := ⟨_, rfl⟩
  rw [← hRES]
  have hlv : lvl + 1 ≤ 12 := by omega
  have hdec := Lib.hid (decide_eq_true (show ((lvl : Int) + 1 ≤ 12) by omega))
  have hnone : RES = none := by rw [hRES]; unfold readN; simp [hc]
  have HNONE := Lib.hid hnone
  have HC := Lib.hid hc
  clear hRES hnone hc
  go_enter Try.func32, Try.ntmps32
  go_wp2_with (first
    | (with_reducible refine alloc_any rfl 24 rfl _ zero_nd ?_; intro u hu bu zu; have HU := Lib.hid hu; have BU := Lib.hid bu; have HA1 := Lib.hid (H.out.at.below bu H.out.at.lt); have c1 := HA1.out.cell 1 _ rfl; clear hu bu)
    | (refine store_int_any rfl (.tmp 12) (.tmp 10) rfl b 1 rfl ((lvl : Int) + 1) rfl _ (rcells rb mb (lvl + 1)) HA1.out (by simp [rcells]) rfl ?_; intro u2 hu2 tu2; have HA2 := Lib.hid hu2; have HT2 := Lib.hid tu2; have c2 := hu2.cell 1 _ rfl; clear hu2 tu2))
  rw [hdec.out]
  refine (must_ok u2).mono ?_
  rintro e w2 ⟨rfl, rfl⟩
  have HR2 := Lib.hid ((H.out.below BU.out).relevel HA2.out HT2.out)
  have HU2 := Lib.hid (HU.out.touch HT2.out (by simp; omega))
  have T2 := Lib.hid (((Touch.of_below (ft := [b, rb]) BU.out).step HT2.out (by simp)))
  have z2 := HT2.out.size
  clear c1 c2 HA1 HA2 HU HT2
  go_wp2_with fail
  have S0 : RS b mb w2.drew := HR2.out.rs
  have R2 : RAt w2.drew b rb mb l (lvl + 1) := HR2.out
  have U2 : At w2.drew w.heap.size 24 [Value.string ⟨#[]⟩, .int .i64 0, .bool false, .string ⟨#[]⟩, .slice none 0 0] := HU2.out
  have T2' : Touch [b, rb] w w2.drew := T2.out.drew
  have z2' : w.heap.size + 1 ≤ w2.drew.heap.size := by show _ ≤ w2.heap.size; omega
  clear HR2 HU2 T2
  refine region_any (RS b mb) 12 (by kernel_rfl) ?_
  show wpAnyT _ _ _ _ _ _ _ _ _ w2.drew
  generalize w2.drew = v0 at S0 R2 U2 T2' z2' ⊢
  refine wpAnyT_takeN (i := 0) (v := .pointer (some ⟨b, 0, none⟩)) rfl (by decide) (by kernel_rfl) (by kernel_rfl) (by kernel_rfl) (fun _ _ _ h => h) (.inl ⟨by kernel_rfl, fun W hS => by kernel_rfl⟩) S0 ?_
  refine wpAnyT_takeN (i := 1) (v := .pointer (some ⟨b, 0, none⟩)) rfl (by decide) (by kernel_rfl) (by kernel_rfl) (by kernel_rfl) (fun _ _ _ h => h) (.inl ⟨by kernel_rfl, fun W hS => by kernel_rfl⟩) S0 ?_
  refine wpAnyT_takeN (i := 2) (v := .pointer (some ⟨b, 2, none⟩)) rfl (by decide) (by kernel_rfl) (by kernel_rfl) (by kernel_rfl) (fun _ _ _ h => h) (.inl ⟨by kernel_rfl, fun W hS => by kernel_rfl⟩) S0 ?_
  refine wpAnyT_takeN (i := 3) (v := .map (some mb)) rfl (by decide) (by kernel_rfl) (by kernel_rfl) (by kernel_rfl) (fun _ _ _ h => h) (.inl ⟨by kernel_rfl, fun W hS => run_load_one 61 (.tmp 22) rfl ⟨b, 2, none⟩ (by kernel_rfl) _ hS.1 _ Try.underlying61 rfl⟩) S0 ?_
  refine wpAnyT_takeN (i := 4) (v := .pointer (some ⟨b, 0, none⟩)) rfl (by decide) (by kernel_rfl) (by kernel_rfl) (by kernel_rfl) (fun _ _ _ h => h) (.inl ⟨by kernel_rfl, fun W hS => by kernel_rfl⟩) S0 ?_
  refine wpAnyT_fail (i := 5) (by kernel_rfl) rfl (by kernel_rfl) 58 #[.pointer (some ⟨b, 0, none⟩)] (run_call_func rfl enters_rnum _ (by kernel_rfl)) ((rnum_none b rb mb (lvl + 1) l v0 R2 hl HC.out).mono ?_)
  rintro e w3 ⟨rfl, t3⟩
  refine ⟨_, rfl, ?_⟩
  refine ⟨rfl, T2'.trans t3, ?_⟩
  rw [HNONE.out]
set_option maxHeartbeats 4000000 in
theorem rnode_some (k : Nat) (ih : Reads k) (b rb mb lvl n : Nat) (l r : List UInt8) (w : World) (hk : lvl + (k + 1) = 12) (hA : RAt w b rb mb l lvl) (hl : l.length ≤ 1000000) (hc : Plain.cut l = some (n, r)) :
    Calls Try.prog 32 #[.pointer (some ⟨b, 0, none⟩)] w fun e w' => NodeEnd w w' b rb mb lvl (k + 1) (readN (k + 1) l) e := by
  have H := Lib.hid hA
  have hlt := hA.lt
  clear hA
  have IH := Lib.hid ih
  clear ih
  obtain ⟨RES, hRES⟩ : ∃ RES, RES = readN (k + 1) l := ⟨_, rfl⟩
  rw [← hRES]
  have hlv : lvl + 1 ≤ 12 := by omega
  have hdec := Lib.hid (decide_eq_true (show ((lvl : Int) + 1 ≤ 12) by omega))
  have hres : RES = restN k n r := by rw [hRES]; unfold readN restN; simp [hc]
  have hrl := cut_lt hc
  have HWF := Lib.hid (u64_wf n (Plain.cut_back hc).2)
  obtain ⟨F, hF⟩ : ∃ F, F = rtab (n : Int) := ⟨_, rfl⟩
  have HF := Lib.hid hF
  have HRES := Lib.hid hres
  have HC := Lib.hid hc
  clear hRES hres hc hF
  go_enter Try.func32, Try.ntmps32
  go_wp2_with (first
    | (with_reducible refine alloc_any rfl 24 rfl _ zero_nd ?_; intro u hu bu zu; have HU := Lib.hid hu; have BU := Lib.hid bu; have HA1 := Lib.hid (H.out.at.below bu H.out.at.lt); have c1 := HA1.out.cell 1 _ rfl; clear hu bu)
    | (refine store_int_any rfl (.tmp 12) (.tmp 10) rfl b 1 rfl ((lvl : Int) + 1) rfl _ (rcells rb mb (lvl + 1)) HA1.out (by simp [rcells]) rfl ?_; intro u2 hu2 tu2; have HA2 := Lib.hid hu2; have HT2 := Lib.hid tu2; have c2 := hu2.cell 1 _ rfl; clear hu2 tu2))
  rw [hdec.out]
  refine (must_ok u2).mono ?_
  rintro e w2 ⟨rfl, rfl⟩
  have HR2 := Lib.hid ((H.out.below BU.out).relevel HA2.out HT2.out)
  have HU2 := Lib.hid (HU.out.touch HT2.out (by simp; omega))
  have T2 := Lib.hid (((Touch.of_below (ft := [b, rb]) BU.out).step HT2.out (by simp)))
  have z2 := HT2.out.size
  clear c1 c2 HA1 HA2 HU HT2
  go_wp2_with fail
  have S0 : RS b mb w2.drew := HR2.out.rs
  have R2 : RAt w2.drew b rb mb l (lvl + 1) := HR2.out
  have U2 : At w2.drew w.heap.size 24 [Value.string ⟨#[]⟩, .int .i64 0, .bool false, .string ⟨#[]⟩, .slice none 0 0] := HU2.out
  have T2' : Touch [b, rb] w w2.drew := T2.out.drew
  have z2' : w.heap.size + 1 ≤ w2.drew.heap.size := by show _ ≤ w2.heap.size; omega
  clear HR2 HU2 T2
  refine region_any (RS b mb) 12 (by kernel_rfl) ?_
  show wpAnyT _ _ _ _ _ _ _ _ _ w2.drew
  generalize w2.drew = v0 at S0 R2 U2 T2' z2' ⊢
  refine wpAnyT_takeN (i := 0) (v := .pointer (some ⟨b, 0, none⟩)) rfl (by decide) (by kernel_rfl) (by kernel_rfl) (by kernel_rfl) (fun _ _ _ h => h) (.inl ⟨by kernel_rfl, fun W hS => by kernel_rfl⟩) S0 ?_
  refine wpAnyT_takeN (i := 1) (v := .pointer (some ⟨b, 0, none⟩)) rfl (by decide) (by kernel_rfl) (by kernel_rfl) (by kernel_rfl) (fun _ _ _ h => h) (.inl ⟨by kernel_rfl, fun W hS => by kernel_rfl⟩) S0 ?_
  refine wpAnyT_takeN (i := 2) (v := .pointer (some ⟨b, 2, none⟩)) rfl (by decide) (by kernel_rfl) (by kernel_rfl) (by kernel_rfl) (fun _ _ _ h => h) (.inl ⟨by kernel_rfl, fun W hS => by kernel_rfl⟩) S0 ?_
  refine wpAnyT_takeN (i := 3) (v := .map (some mb)) rfl (by decide) (by kernel_rfl) (by kernel_rfl) (by kernel_rfl) (fun _ _ _ h => h) (.inl ⟨by kernel_rfl, fun W hS => run_load_one 61 (.tmp 22) rfl ⟨b, 2, none⟩ (by kernel_rfl) _ hS.1 _ Try.underlying61 rfl⟩) S0 ?_
  refine wpAnyT_takeN (i := 4) (v := .pointer (some ⟨b, 0, none⟩)) rfl (by decide) (by kernel_rfl) (by kernel_rfl) (by kernel_rfl) (fun _ _ _ h => h) (.inl ⟨by kernel_rfl, fun W hS => by kernel_rfl⟩) S0 ?_
  refine wpAnyT_call (i := 5) (by kernel_rfl) rfl (by kernel_rfl) 58 #[.pointer (some ⟨b, 0, none⟩)] (run_call_func rfl enters_rnum _ (by kernel_rfl)) ((rnum_some b rb mb (lvl + 1) n l r v0 R2 hl HC.out).mono ?_)
  rintro e w3 ⟨rfl, h3, t3⟩
  refine ⟨_, rfl, h3.rs, ?_⟩
  have S0 := h3.rs
  have z3 := t3.size
  have HU3 := Lib.hid (U2.touch t3 (by simp; omega))
  have HR3 := Lib.hid h3
  have T3 := Lib.hid (T2'.trans t3)
  refine wpAnyT_takeN (i := 6) (v := .tuple #[fnV b F, .bool F.isSome]) rfl (by decide) (by kernel_rfl) (by kernel_rfl) (by kernel_rfl) (fun _ _ _ h => h) (.inl ⟨by kernel_rfl, fun W hS => run_lookup_op 61 (.tmp 23) (.tmp 25) true rfl (.map (some mb)) (.int .u64 (n : Int)) _ (by kernel_rfl) (by kernel_rfl) (hS.2.elim fun q hM => by rw [HF.out]; exact hM.look Try.underlying82 Try.underlying61 (zero_rfn W) n HWF.out)⟩) S0 ?_
  refine wpAnyT_takeN (i := 7) (v := .tuple #[fnV b F, .bool F.isSome]) rfl (by decide) (by kernel_rfl) (by kernel_rfl) (by kernel_rfl) (fun _ _ _ h => h) (.inl ⟨by kernel_rfl, fun W hS => by kernel_rfl⟩) S0 ?_
  refine wpAnyT_takeN (i := 8) (v := fnV b F) rfl (by decide) (by kernel_rfl) (by kernel_rfl) (by kernel_rfl) (fun _ _ _ h => h) (.inl ⟨by kernel_rfl, fun W hS => by kernel_rfl⟩) S0 ?_
  refine wpAnyT_takeN (i := 9) (v := .bool F.isSome) rfl (by decide) (by kernel_rfl) (by kernel_rfl) (by kernel_rfl) (fun _ _ _ h => h) (.inl ⟨by kernel_rfl, fun W hS => by kernel_rfl⟩) S0 ?_
  refine wpAnyT_takeN (i := 10) (v := fnV b F) rfl (by decide) (by kernel_rfl) (by kernel_rfl) (by kernel_rfl) (fun _ _ _ h => h) (.inl ⟨by kernel_rfl, fun W hS => by kernel_rfl⟩) S0 ?_
  refine wpAnyT_takeN (i := 11) (v := .bool F.isSome) rfl (by decide) (by kernel_rfl) (by kernel_rfl) (by kernel_rfl) (fun _ _ _ h => h) (.inl ⟨by kernel_rfl, fun W hS => by kernel_rfl⟩) S0 ?_
  refine wpAnyT_done (by kernel_rfl) ?_ _
  simp only [Act.put, List.getElem_toArray, List.getElem_cons_succ, List.getElem_cons_zero, List.setIfInBounds_toArray, List.set_cons_zero, List.set_cons_succ]
  clear S0 h3 t3 R2 U2 T2' 
  cases F with
  | none =>
    have hnone : RES = none := by rw [HRES.out]; exact rest_none k n r HF.out.symm
    have HNONE := Lib.hid hnone
    clear hnone
    simp only [Option.isSome_none]
    go_wp2_with fail
    refine (must_no w3).mono ?_
    rintro e w4 ⟨rfl, rfl⟩
    go_wp2_with fail
    refine ⟨rfl, T3.out, ?_⟩
    rw [HNONE.out]
  | some fn =>
    obtain ⟨hen, htk⟩ := taker k IH.out b rb mb (lvl + 1) (by omega) n r (by omega) fn HF.out.symm
    have HTK := Lib.hid htk
    clear htk
    simp only [Option.isSome_some, fnV]
    go_wp2_with fail
    refine (must_ok w3).mono ?_
    rintro e w4 ⟨rfl, rfl⟩
    go_wp2_with fail
    refine (HTK.out w4 HR3.out).mono ?_
    rintro e w5 ⟨t5, h5⟩
    rw [← HRES.out] at h5
    cases RES with
    | none =>
      obtain rfl := h5
      have T5 := Lib.hid (T3.out.trans t5)
      clear t5
      go_wp2_with fail
      exact ⟨rfl, T5.out, rfl⟩
    | some y =>
      obtain ⟨m, r2⟩ := y
      obtain ⟨⟨ao5, cap5, rfl, hH5⟩, hR5⟩ := h5
      have z5 := t5.size
      have HU5 := Lib.hid (HU3.out.touch t5 (by simp; omega))
      have HH5 := Lib.hid hH5
      have HR5 := Lib.hid hR5
      have T5 := Lib.hid (T3.out.trans t5)
      have HA5 := Lib.hid hR5.at
      clear t5 hH5 hR5 HU3 HR3 T3 HRES
      go_wp2_with (first
        | (with_reducible refine alloc_any rfl 24 rfl _ zero_nd ?_; intro u7 hu7 bu7 zu7; have HV7 := Lib.hid hu7; have BU7 := Lib.hid bu7; clear hu7 bu7)
        | (refine store_any rfl 24 (.tmp 5) (.tmp 32) rfl w5.heap.size rfl (m.cells ao5 cap5) rfl _ HV7.out rfl info_nd (nd_one _ _ _) ?_; intro u8 hu8 tu8; have HV8 := Lib.hid hu8; have BU8 := Lib.hid (tu8.below BU7.out (by simp) (Nat.le_refl _)); have HA8 := Lib.hid (HA5.out.below BU8.out HA5.out.lt); have c8 := HA8.out.cell 1 _ rfl; clear hu8 tu8)
        | (refine store_int_any rfl (.tmp 39) (.tmp 37) rfl b 1 rfl ((lvl : Int)) rfl _ (rcells rb mb lvl) HA8.out (by simp [rcells]) rfl ?_; intro u9 hu9 tu9; have HA9 := Lib.hid hu9; have HT9 := Lib.hid tu9; have HV9 := Lib.hid (HV8.out.touch tu9 (by simp; omega)); clear hu9 tu9)
        | (refine load_any rfl 24 (.tmp 5) rfl ⟨w5.heap.size, 0, none⟩ rfl (m.cells ao5 cap5) _ (fun j v hj => by rw [Addr.add0]; exact HV9.out.cell j v hj) Try.underlying24 rfl info_nd ?_)
        | (refine store_any rfl 24 (.tmp 2) (.tmp 40) rfl w.heap.size rfl (m.cells ao5 cap5) rfl _ ((HU5.out.below BU8.out HU5.out.lt).touch HT9.out (by simp; omega)) rfl info_nd (nd_one _ _ _) ?_; intro u10 hu10 tu10; have HU10 := Lib.hid hu10; have TU10 := Lib.hid tu10; clear hu10 tu10))
      (try simp only [Exit.inBlock, Exit.then])
      have hU8 := HU5.out.below BU8.out HU5.out.lt
      have hT10 : Touch [b, rb] w u10 := ((T5.out.trans (Touch.of_below BU8.out)).step HT9.out (by simp)).step TU10.out (by simp)
      have hR9 := (HR5.out.below BU8.out).relevel HA9.out HT9.out
      have hH9 : Has (fun i => w.heap.size + 1 ≤ i) u10 (k + 1) m ao5 := Has.kept (S := fun i => w.heap.size + 1 ≤ i) (fun _ h _ => h) (fun i (hi : w.heap.size + 1 ≤ i) hlt => (TU10.out.block i (by have := HT9.out.size; omega) (by simp; omega)).trans (HT9.out.block i hlt (by simp; omega))) _ _ _ ((HH5.out.below BU8.out).mono (fun i (hi : w4.heap.size ≤ i) _ => (by omega : w.heap.size + 1 ≤ i)))
      refine bodyPost_ret (v := m.v ao5 cap5) ?_ rfl ⟨hT10, ⟨ao5, cap5, rfl, hH9.mono (fun i (hi : w.heap.size + 1 ≤ i) _ => (by omega : w.heap.size ≤ i))⟩, hR9.touch TU10.out (by simp; exact ⟨_, hU8.touch HT9.out (by simp; omega)⟩)⟩
      exact results_cell_row (fn := Try.f32) (p := 2) (ty := 24) rfl _ _ w.heap.size 24 _ (0, 0) _ rfl HU10.out Try.underlying24 rfl info_nd
/-- .. whatever they are -/
theorem rnode_any : ∀ k : Nat, Reads k
  | 0 => by
    intro b rb mb lvl l w hk hA hl
    obtain rfl : lvl = 12 := by omega
    exact rnode_deep b rb mb l w hA
  | k + 1 => by
    intro b rb mb lvl l w hk hA hl
    cases hc : Plain.cut l with
    | none => exact rnode_bad k (rnode_any k) b rb mb lvl l w hk hA hl hc
    | some x => exact rnode_some k (rnode_any k) b rb mb lvl x.1 l x.2 w hk hA hl hc
end Go.Proofs.Ytdpeblchndfdaaa
