/- NarLays. -/
import Derived.Test.YtdpeblchndfdaaaPd
namespace Go.Proofs.Ytdpeblchndfdaaa
open Go.RowKit
set_option maxRecDepth 100000
theorem bytes_le {l : List (Nat × Nd)} {b : Nat} : (∀ p ∈ l, p.2.data.length ≤ b) → bytesL l ≤ b * l.length := by
  induction l with
  | nil => intro _; exact Nat.zero_le _
  | cons p r ih =>
    intro h
    have := ih (fun q hq => h q (List.mem_cons_of_mem _ hq))
    have h1 := h p (List.mem_cons_self ..)
    have e : bytesL (p :: r) = p.2.data.length + bytesL r := by unfold bytesL; rw [List.map_cons, List.sum_cons]
    rw [e, List.length_cons, Nat.mul_add, Nat.mul_one]
    omega
theorem renc_any (l : Nat) (n : Nd) (ao : Option Addr) (cap : Nat) (w : World) (hH : Has any_ w 15 (shortL l n) ao) (hN : ∀ k, NamB k n) :
    Calls Try.prog 11 #[(shortL l n).v ao cap] w fun e w' => e = .returned (.tuple #[.string (bs (encS 15 (shortL l n))), .int .i64 (encE 15 (shortL l n))]) ∧ Below w.heap.size w w' :=
  rEncode_any 15 _ ao cap w hH (fun j => short_namB j l n hN) (fun hd hm => by
    obtain ⟨h1, h2⟩ := short_good l n hd hm
    have h2' : (nodesL 15 1 (shortL l n)).length ≤ lim := h2
    have l1 := lim_ok
    have l2 := lim_ok2
    have hb := bytes_le (b := 300) (fun p hp => (h1 p hp).2)
    have hc : 300 * (nodesL 15 1 (shortL l n)).length ≤ 300 * lim := Nat.mul_le_mul_left _ h2'
    exact ⟨by omega, by omega⟩) enc_short
set_option maxHeartbeats 2000000 in
theorem lays_law (g1 : Nat) (n1 : Nd) (o1 : Option Addr) (c1 : Nat) (w : World) (h1 : Has any_ w g1 n1 o1) (hNB : ∀ k, NamB k n1) :
    Calls Try.prog 3 #[n1.v o1 c1] w fun e w' => e = .returned (.bool true) ∧ Below w.heap.size w w' := by
  have H1 := Lib.hid h1
  have HNB := Lib.hid hNB
  clear h1 hNB
  go_enter Try.func3, Try.ntmps3
  go_wp2_with (first
    | (with_reducible refine box_any rfl 24 (.tmp 0) rfl (n1.cells o1 c1) rfl ?_; intro u1 hu1 bu1 zu1; have HA1 := Lib.hid hu1; have BU1 := Lib.hid bu1; clear hu1 bu1)
    | (refine load_any rfl 24 (.tmp 1) rfl ⟨w.heap.size, 0, none⟩ rfl (n1.cells o1 c1) _ (fun j v hj => by rw [Addr.add0]; exact HA1.out.cell j v hj) Try.underlying24 rfl info_nd ?_))
  refine (short_any 14 g1 n1 o1 c1 u1 (by decide) (H1.out.below BU1.out)).mono ?_
  rintro e w3 ⟨b3, aoA, cA, rfl, hA3⟩
  have z3 := b3.size
  obtain ⟨A, hA⟩ : ∃ A, A = shortL 14 n1 := ⟨_, rfl⟩
  rw [← hA] at hA3 ⊢
  have HX3 := Lib.hid hA3
  have HA3 := Lib.hid (HA1.out.below b3 HA1.out.lt)
  have BU3 := Lib.hid (BU1.out.trans (b3.mono (by omega)))
  have HNA := Lib.hid hA
  clear b3 hA3 hA HA1 BU1
  go_wp2_with (first
    | (refine store_any rfl 24 (.tmp 1) (.tmp 8) rfl w.heap.size rfl (A.cells aoA cA) rfl _ HA3.out rfl info_nd (nd_one _ _ _) ?_; intro u4 hu4 tu4; have HA4 := Lib.hid hu4; have BU4 := Lib.hid (tu4.below BU3.out (by simp) (Nat.le_refl _)); have z4 := tu4.size; have HX4 := Lib.hid ((Has.kept (S := fun i => u1.heap.size ≤ i) (fun _ h _ => h) (fun i (hi : u1.heap.size ≤ i) hlt => tu4.block i hlt (by simp; omega)) _ _ _ HX3.out).any); clear hu4 tu4)
    | (refine load_any rfl 24 (.tmp 1) rfl ⟨w.heap.size, 0, none⟩ rfl (A.cells aoA cA) _ (fun j v hj => by rw [Addr.add0]; exact HA4.out.cell j v hj) Try.underlying24 rfl info_nd ?_))
  clear HA3 HX3 BU3 z3 z4 zu1
  have EA : ∀ W, Has any_ W 15 A aoA → Calls Try.prog 10 #[A.v aoA cA] W fun e w' => e = .returned (.tuple #[.string (bs (encS 15 A)), .int .i64 (encE 15 A)]) ∧ Below W.heap.size W w' := by rw [HNA.out]; exact fun W h => enc_any 14 n1 aoA cA W h
  have EB : ∀ W, Has any_ W 15 A aoA → Calls Try.prog 11 #[A.v aoA cA] W fun e w' => e = .returned (.tuple #[.string (bs (encS 15 A)), .int .i64 (encE 15 A)]) ∧ Below W.heap.size W w' := by rw [HNA.out]; exact fun W h => renc_any 14 n1 aoA cA W h HNB.out
  have HEB := Lib.hid EB
  refine (EA u4 HX4.out).mono ?_
  rintro e w5 ⟨rfl, b5⟩
  have HA5 := Lib.hid (HA4.out.below b5 HA4.out.lt)
  have HX5 := Lib.hid (HX4.out.below b5)
  have BU5 := Lib.hid (BU4.out.trans (b5.mono BU4.out.size))
  clear b5 EA EB HA4 HX4 BU4 HNA
  go_wp2_with (refine load_any rfl 24 (.tmp 1) rfl ⟨w.heap.size, 0, none⟩ rfl (A.cells aoA cA) _ (fun j v hj => by rw [Addr.add0]; exact HA5.out.cell j v hj) Try.underlying24 rfl info_nd ?_)
  refine (HEB.out w5 HX5.out).mono ?_
  rintro e w6 ⟨rfl, b6⟩
  have BU6 := Lib.hid (BU5.out.trans (b6.mono BU5.out.size))
  clear b6 HA5 HX5 BU5 HEB
  generalize encS 15 A = S
  generalize encE 15 A = E
  go_wp2_with fail
  refine (works_any w6).mono ?_
  rintro e w20 ⟨rfl, bw⟩
  have KW := Lib.hid (BU6.out.trans (bw.mono BU6.out.size))
  clear bw
  go_wp2_with fail
  go_ret
  exact ⟨rfl, KW.out⟩
end Go.Proofs.Ytdpeblchndfdaaa
