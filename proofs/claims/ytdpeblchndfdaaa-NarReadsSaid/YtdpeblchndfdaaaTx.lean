/- mayBe, Check. -/
import Derived.Test.YtdpeblchndfdaaaTw
namespace Go.Proofs.Ytdpeblchndfdaaa
open Go.RowKit
set_option maxRecDepth 100000
theorem mb4_any (f : Nd → Bool) (B : Nat) (m : Nd) (ao : Option Addr) (cap h : Nat) (w : World) (hB : At w B 24 (m.cells ao cap)) (hH : Has any_ w (h + 1) m ao)
    (hf : ∀ (m : Nd) (g : Option Addr) (c : Nat) (w' : World), Has any_ w' h m g → Calls Try.prog 39 #[m.v g c] w' fun e w'' => e = .returned (.bool (f m)) ∧ Below w'.heap.size w' w'') :
    Calls Try.prog 68 #[.pointer (some ⟨B, 0, none⟩)] w fun e w' => e = .returned (.bool (kidsOk f m.kids)) ∧ Below w.heap.size w w' := by
  have c := hB.cell 4 (.slice ao m.kids.length cap) rfl
  have HK := Lib.hid (kidsMayBe_any f h m ao cap w hH hf)
  clear hB hH hf
  go_enter Try.func68, Try.ntmps68
  go_wp2_with fail
  refine HK.out.mono ?_
  rintro e w1 ⟨rfl, b1⟩
  have HB1 := Lib.hid b1
  clear b1
  go_wp2
  go_ret
  exact ⟨rfl, HB1.out⟩
set_option maxHeartbeats 1000000 in
theorem mayBe_any : ∀ (h : Nat) (n : Nd) (ao : Option Addr) (cap : Nat) (w : World), Has any_ w h n ao →
    Calls Try.prog 39 #[n.v ao cap] w fun e w' => e = .returned (.bool (mayL h n)) ∧ Below w.heap.size w w' := by
  intro h
  induction h with
  | zero => intro n ao cap w hH; exact hH.elim
  | succ h ih =>
    intro n ao cap w hH
    have IH := Lib.hid ih
    have HH := Lib.hid hH
    have hmf : ∀ (fn : Fn) (first cap : Array Value) (w : World), (Instr.makeFunc fn first cap).run Try.prog w = .ok (.func fn first cap) w := fun _ _ _ _ => rfl
    obtain ⟨R, hR⟩ : ∃ R, R = mayL (h + 1) n := ⟨_, rfl⟩
    rw [← hR]
    clear ih hH
    cases n with
    | mk nm kd ex dt ks =>
    change R = (if kd = 1 then ks.isEmpty else if kd = 2 then !ex && (dt.isEmpty && kidsOk (mayL h) ks) else if kd = 3 then !ex && (ks.isEmpty && textOk dt 255) else false) at hR
    have HR := Lib.hid hR
    clear hR
    go_enter Try.func39, Try.ntmps39
    by_cases k1 : kd = 1
    · subst k1
      go_wp2_with (first
        | (with_reducible refine box_any rfl 24 (.tmp 0) rfl [.string (bs nm), .int .i64 1, .bool ex, .string (bs dt), .slice ao ks.length cap] rfl ?_; intro u hu bu zu; have HU := Lib.hid hu; have BU := Lib.hid bu; have c1 := hu.cell 1 _ rfl; clear hu bu)
        | (with_reducible refine build_fn rfl (.tmp 13) rfl (.func (.func 66) #[] #[.pointer (some ⟨w.heap.size, 0, none⟩)]) rfl rfl ?_; intro u6 hu6 bu6 zu6; rw [zu] at hu6; have HB6 := Lib.hid hu6; have BU6 := Lib.hid bu6; clear hu6 bu6))
      refine (all_any (w.heap.size + 1) 1 [⟨66, #[.pointer (some ⟨w.heap.size, 0, none⟩)], ks.isEmpty⟩] (by simp) u6 HB6.out ?_).mono ?_
      · intro c hc
        simp only [List.mem_cons, List.not_mem_nil, or_false] at hc
        obtain rfl := hc
        · refine ⟨enter52, fun w' b' => ?_⟩
          have bb := BU6.out.trans (b'.mono BU6.out.size)
          exact mb3_any w.heap.size ⟨nm, 1, ex, dt, ks⟩ ao cap w' (HU.out.below bb HU.out.lt)
      · rintro e w7 ⟨rfl, b7⟩
        have HB7 := Lib.hid ((BU.out.trans (BU6.out.mono (by omega))).trans (b7.mono (by have := BU6.out.size; omega)))
        have hkk : (List.all [⟨66, #[.pointer (some ⟨w.heap.size, 0, none⟩)], ks.isEmpty⟩] (fun x : Cl => x.r)) = R := by
          rw [HR.out]
          simp only [List.all_cons, List.all_nil, Bool.and_true]
          rfl
        rw [hkk]
        clear b7 hkk
        go_wp2_with fail
        go_ret
        exact ⟨rfl, HB7.out⟩
    · have k1' : (kd == 1) = false := by simpa using k1
      by_cases k2 : kd = 2
      · subst k2
        go_wp2_with (first
          | (with_reducible refine box_any rfl 24 (.tmp 0) rfl [.string (bs nm), .int .i64 2, .bool ex, .string (bs dt), .slice ao ks.length cap] rfl ?_; intro u hu bu zu; have HU := Lib.hid hu; have BU := Lib.hid bu; have c1 := hu.cell 1 _ rfl; clear hu bu)
          | (with_reducible refine build_fns rfl (.tmp 18) (.tmp 19) (.tmp 20) rfl (.func (.func 64) #[] #[.pointer (some ⟨w.heap.size, 0, none⟩)]) (.func (.func 65) #[] #[.pointer (some ⟨w.heap.size, 0, none⟩)]) (.func (.func 68) #[] #[.pointer (some ⟨w.heap.size, 0, none⟩)]) rfl rfl rfl rfl rfl rfl ?_; intro u6 hu6 bu6 zu6; rw [zu] at hu6; have HB6 := Lib.hid hu6; have BU6 := Lib.hid bu6; clear hu6 bu6))
        refine (all_any (w.heap.size + 1) 3 [⟨64, #[.pointer (some ⟨w.heap.size, 0, none⟩)], (!ex)⟩, ⟨65, #[.pointer (some ⟨w.heap.size, 0, none⟩)], dt.isEmpty⟩, ⟨68, #[.pointer (some ⟨w.heap.size, 0, none⟩)], (kidsOk (mayL h) ks)⟩] (by simp) u6 HB6.out ?_).mono ?_
        · intro c hc
          simp only [List.mem_cons, List.not_mem_nil, or_false] at hc
          rcases hc with rfl | rfl | rfl
          · refine ⟨enter50, fun w' b' => ?_⟩
            have bb := BU6.out.trans (b'.mono BU6.out.size)
            exact mb1_any w.heap.size ⟨nm, 2, ex, dt, ks⟩ ao cap w' (HU.out.below bb HU.out.lt)
          · refine ⟨enter51, fun w' b' => ?_⟩
            have bb := BU6.out.trans (b'.mono BU6.out.size)
            exact mb2_any w.heap.size ⟨nm, 2, ex, dt, ks⟩ ao cap w' (HU.out.below bb HU.out.lt)
          · refine ⟨enter54, fun w' b' => ?_⟩
            have bb := BU6.out.trans (b'.mono BU6.out.size)
            exact mb4_any (mayL h) w.heap.size ⟨nm, 2, ex, dt, ks⟩ ao cap h w' (HU.out.below bb HU.out.lt) ((HH.out.below BU.out).below bb) (fun m g c w2 hm => IH.out m g c w2 hm)
        · rintro e w7 ⟨rfl, b7⟩
          have HB7 := Lib.hid ((BU.out.trans (BU6.out.mono (by omega))).trans (b7.mono (by have := BU6.out.size; omega)))
          have hkk : (List.all [⟨64, #[.pointer (some ⟨w.heap.size, 0, none⟩)], (!ex)⟩, ⟨65, #[.pointer (some ⟨w.heap.size, 0, none⟩)], dt.isEmpty⟩, ⟨68, #[.pointer (some ⟨w.heap.size, 0, none⟩)], (kidsOk (mayL h) ks)⟩] (fun x : Cl => x.r)) = R := by
            rw [HR.out]
            simp only [List.all_cons, List.all_nil, Bool.and_true]
            rfl
          rw [hkk]
          clear b7 hkk
          go_wp2_with fail
          go_ret
          exact ⟨rfl, HB7.out⟩
      · have k2' : (kd == 2) = false := by simpa using k2
        by_cases k3 : kd = 3
        · subst k3
          go_wp2_with (first
            | (with_reducible refine box_any rfl 24 (.tmp 0) rfl [.string (bs nm), .int .i64 3, .bool ex, .string (bs dt), .slice ao ks.length cap] rfl ?_; intro u hu bu zu; have HU := Lib.hid hu; have BU := Lib.hid bu; have c1 := hu.cell 1 _ rfl; clear hu bu)
            | (with_reducible refine build_fns rfl (.tmp 25) (.tmp 26) (.tmp 27) rfl (.func (.func 64) #[] #[.pointer (some ⟨w.heap.size, 0, none⟩)]) (.func (.func 66) #[] #[.pointer (some ⟨w.heap.size, 0, none⟩)]) (.func (.func 70) #[] #[.pointer (some ⟨w.heap.size, 0, none⟩)]) rfl rfl rfl rfl rfl rfl ?_; intro u6 hu6 bu6 zu6; rw [zu] at hu6; have HB6 := Lib.hid hu6; have BU6 := Lib.hid bu6; clear hu6 bu6))
          refine (all_any (w.heap.size + 1) 3 [⟨64, #[.pointer (some ⟨w.heap.size, 0, none⟩)], (!ex)⟩, ⟨66, #[.pointer (some ⟨w.heap.size, 0, none⟩)], ks.isEmpty⟩, ⟨70, #[.pointer (some ⟨w.heap.size, 0, none⟩)], (textOk dt 255)⟩] (by simp) u6 HB6.out ?_).mono ?_
          · intro c hc
            simp only [List.mem_cons, List.not_mem_nil, or_false] at hc
            rcases hc with rfl | rfl | rfl
            · refine ⟨enter50, fun w' b' => ?_⟩
              have bb := BU6.out.trans (b'.mono BU6.out.size)
              exact mb1_any w.heap.size ⟨nm, 3, ex, dt, ks⟩ ao cap w' (HU.out.below bb HU.out.lt)
            · refine ⟨enter52, fun w' b' => ?_⟩
              have bb := BU6.out.trans (b'.mono BU6.out.size)
              exact mb3_any w.heap.size ⟨nm, 3, ex, dt, ks⟩ ao cap w' (HU.out.below bb HU.out.lt)
            · refine ⟨enter56, fun w' b' => ?_⟩
              have bb := BU6.out.trans (b'.mono BU6.out.size)
              exact mb5_any w.heap.size ⟨nm, 3, ex, dt, ks⟩ ao cap w' (HU.out.below bb HU.out.lt)
          · rintro e w7 ⟨rfl, b7⟩
            have HB7 := Lib.hid ((BU.out.trans (BU6.out.mono (by omega))).trans (b7.mono (by have := BU6.out.size; omega)))
            have hkk : (List.all [⟨64, #[.pointer (some ⟨w.heap.size, 0, none⟩)], (!ex)⟩, ⟨66, #[.pointer (some ⟨w.heap.size, 0, none⟩)], ks.isEmpty⟩, ⟨70, #[.pointer (some ⟨w.heap.size, 0, none⟩)], (textOk dt 255)⟩] (fun x : Cl => x.r)) = R := by
              rw [HR.out]
              simp only [List.all_cons, List.all_nil, Bool.and_true]
              rfl
            rw [hkk]
            clear b7 hkk
            go_wp2_with fail
            go_ret
            exact ⟨rfl, HB7.out⟩
        · have k3' : (kd == 3) = false := by simpa using k3
          go_wp2_with (with_reducible refine box_any rfl 24 (.tmp 0) rfl [.string (bs nm), .int .i64 kd, .bool ex, .string (bs dt), .slice ao ks.length cap] rfl ?_; intro u hu bu zu; have BU := Lib.hid bu; have c1 := hu.cell 1 _ rfl; clear hu bu)
          go_ret
          refine ⟨?_, BU.out⟩
          rw [HR.out, if_neg k1, if_neg k2, if_neg k3]; rfl
/-- what Check answers -/
def checkL (h : Nat) (n : Nd) : Int := if 12 < depthL 14 n then 3 else if !n.name.isEmpty || !mayL h n then 2 else if 2000 < (nodesL h 1 n).length ∨ 100000 < bytesL (nodesL h 1 n) then 3 else 0
set_option maxHeartbeats 1000000 in
theorem check_any (h : Nat) (n : Nd) (ao : Option Addr) (cap : Nat) (w : World) (hh : h ≤ 65535) (hH : Has any_ w h n ao) (hG : ∀ p ∈ nodesL h 1 n, GoodN p) (hN : (nodesL h 1 n).length ≤ 2000) :
    Calls Try.prog 16 #[n.v ao cap] w fun e w' => e = .returned (.int .i64 (checkL h n)) ∧ Below w.heap.size w w' := by
  have HH := Lib.hid hH
  have HG := Lib.hid hG
  obtain ⟨R, hR⟩ : ∃ R, R = checkL h n := ⟨_, rfl⟩
  rw [← hR]
  unfold checkL at hR
  obtain ⟨D, hD⟩ : ∃ D, D = depthL 14 n := ⟨_, rfl⟩
  obtain ⟨M, hM⟩ : ∃ M, M = mayL h n := ⟨_, rfl⟩
  obtain ⟨C, hC⟩ : ∃ C, C = (nodesL h 1 n).length := ⟨_, rfl⟩
  obtain ⟨Y, hY⟩ : ∃ Y, Y = bytesL (nodesL h 1 n) := ⟨_, rfl⟩
  rw [← hD, ← hM, ← hC, ← hY] at hR
  have HD := Lib.hid hD
  have HM := Lib.hid hM
  have HC := Lib.hid hC
  have HY := Lib.hid hY
  have HR := Lib.hid hR
  rw [← hC] at hN
  clear hH hG hR hD hM hC hY
  cases n with
  | mk nm kd ex dt ks =>
  change Hid (R = if 12 < D then 3 else if !nm.isEmpty || !M then 2 else if 2000 < C ∨ 100000 < Y then 3 else 0) at HR
  go_enter Try.func16, Try.ntmps16
  go_wp2_with (first
    | (with_reducible refine box_any rfl 24 (.tmp 0) rfl [.string (bs nm), .int .i64 kd, .bool ex, .string (bs dt), .slice ao ks.length cap] rfl ?_; intro u hu bu zu; have HU := Lib.hid hu; have BU := Lib.hid bu; clear hu bu)
    | (refine load_any rfl 24 (.tmp 1) rfl ⟨w.heap.size, 0, none⟩ rfl [.string (bs nm), .int .i64 kd, .bool ex, .string (bs dt), .slice ao ks.length cap] _ (fun j v hj => by rw [Addr.add0]; exact HU.out.cell j v hj) Try.underlying24 rfl info_nd ?_))
  refine (deep_any h ⟨nm, kd, ex, dt, ks⟩ ao cap u (HH.out.below BU.out)).mono ?_
  rintro e w2 ⟨rfl, b2⟩
  rw [← HD.out]
  have z2 := b2.size
  have HU2 := Lib.hid (HU.out.below b2 HU.out.lt)
  have HB2 := Lib.hid (BU.out.trans (b2.mono (by omega)))
  clear b2 HU BU
  have a0 := HU2.out.cell 0 _ rfl
  have a1 := HU2.out.cell 1 _ rfl
  have a2 := HU2.out.cell 2 _ rfl
  have a3 := HU2.out.cell 3 _ rfl
  have a4 := HU2.out.cell 4 _ rfl
  by_cases hd : 12 < D
  · have hd' : (12 : Int) < D := by omega
    go_wp2_with fail
    go_ret
    refine ⟨?_, HB2.out⟩
    rw [HR.out, if_pos hd]; rfl
  · have hd' : ¬ (12 : Int) < D := by omega
    by_cases hn : nm = []
    · subst hn
      go_wp2_with fail
      refine (mayBe_any h ⟨[], kd, ex, dt, ks⟩ ao cap w2 (HH.out.below HB2.out)).mono ?_
      rintro e w3 ⟨rfl, b3⟩
      rw [← HM.out]
      have z3 := b3.size
      have HU3 := Lib.hid (HU2.out.below b3 HU2.out.lt)
      have HB3 := Lib.hid (HB2.out.trans (b3.mono (by omega)))
      clear b3 a0 a1 a2 a3 a4 HU2 HB2
      cases M
      · go_wp2_with fail
        go_ret
        refine ⟨?_, HB3.out⟩
        rw [HR.out, if_neg hd]; rfl
      · go_wp2_with (refine load_any rfl 24 (.tmp 1) rfl ⟨w.heap.size, 0, none⟩ rfl [.string (bs []), .int .i64 kd, .bool ex, .string (bs dt), .slice ao ks.length cap] _ (fun j v hj => by rw [Addr.add0]; exact HU3.out.cell j v hj) Try.underlying24 rfl info_nd ?_)
        refine (size_any h ⟨[], kd, ex, dt, ks⟩ ao cap w3 hh (HH.out.below HB3.out) HG.out (by rw [← HC.out]; exact hN)).mono ?_
        rintro e w4 ⟨rfl, b4⟩
        rw [← HC.out, ← HY.out]
        have HB4 := Lib.hid (HB3.out.trans (b4.mono (by omega)))
        clear b4 HU3 HB3
        have hC' : ¬ (2000 : Int) < C := by omega
        by_cases hY : 100000 < Y
        · have hY' : (100000 : Int) < Y := by omega
          go_wp2_with fail
          go_ret
          refine ⟨?_, HB4.out⟩
          rw [HR.out, if_neg hd, if_neg (by simp), if_pos (.inr hY)]; rfl
        · have hY' : ¬ (100000 : Int) < Y := by omega
          go_wp2_with fail
          go_ret
          refine ⟨?_, HB4.out⟩
          rw [HR.out, if_neg hd, if_neg (by simp), if_neg (by omega)]; rfl
    · have hn2 : (nm == []) = false := by simpa using hn
      have hn3 : nm.isEmpty = false := by simpa using hn
      go_wp2_with fail
      go_ret
      refine ⟨?_, HB2.out⟩
      rw [HR.out, if_neg hd, hn3]; rfl
theorem same_wrap (h hb : Nat) (a b : Nd) (ao bo : Option Addr) (ca cb : Nat) (w : World) (hh : h ≤ 65536) (hA : Has any_ w h a ao) (hB : Has any_ w hb b bo) :
    Calls Try.prog 17 #[a.v ao ca, b.v bo cb] w fun e w' => e = .returned (.bool (sameL h a b)) ∧ Below w.heap.size w w' := by
  have HA := Lib.hid hA
  have HB := Lib.hid hB
  clear hA hB
  go_enter Try.func17, Try.ntmps17
  go_wp2_with (first
    | (with_reducible refine box_any rfl 24 (.tmp 0) rfl (a.cells ao ca) rfl ?_; intro u hu bu zu; have HU := Lib.hid hu; have BU := Lib.hid bu; clear hu bu)
    | (with_reducible refine box_any rfl 24 (.tmp 1) rfl (b.cells bo cb) rfl ?_; intro u2 hu2 bu2 zu2; rw [zu] at hu2; have HU2 := Lib.hid hu2; have HU1 := Lib.hid (HU.out.below bu2 HU.out.lt); have BU2 := Lib.hid (BU.out.trans (bu2.mono (by omega))); clear hu2 bu2)
    | (refine load_any rfl 24 (.tmp 2) rfl ⟨w.heap.size, 0, none⟩ rfl (a.cells ao ca) _ (fun j v hj => by rw [Addr.add0]; exact HU1.out.cell j v hj) Try.underlying24 rfl info_nd ?_)
    | (refine load_any rfl 24 (.tmp 3) rfl ⟨(w.heap.size + 1), 0, none⟩ rfl (b.cells bo cb) _ (fun j v hj => by rw [Addr.add0]; exact HU2.out.cell j v hj) Try.underlying24 rfl info_nd ?_))
  refine (same_any h hb a b ao bo ca cb u2 1 (by omega) (HA.out.below BU2.out) (HB.out.below BU2.out)).mono ?_
  rintro e w3 ⟨rfl, b3⟩
  have HB3 := Lib.hid (BU2.out.trans (b3.mono (by omega)))
  clear b3
  go_wp2
  go_ret
  exact ⟨rfl, HB3.out⟩
end Go.Proofs.Ytdpeblchndfdaaa
