/- The sum's rounds on plain numbers, as the kernel reckons them quickly. -/
import Derived.Test.YtkonpljefmkhbaaSv
namespace Go.Proofs.Ytkonpljefmkhbaa

def M32 : Nat := nat_lit 4294967296
/-- go on with a number that has been reckoned -/
def force (n : Nat) (k : Nat → List Nat) : List Nat := Nat.casesOn (motive := fun _ => List Nat) n (k (nat_lit 0)) (fun m => k (Nat.succ m))
def rotN (n m x : Nat) : Nat := Nat.lor (Nat.shiftRight x n) (Nat.mod (Nat.shiftLeft x m) (nat_lit 4294967296))
def kx (e f g h kw : Nat) : Nat :=
  Nat.add (Nat.add (Nat.add h (Nat.xor (Nat.xor (rotN (nat_lit 6) (nat_lit 26) e) (rotN (nat_lit 11) (nat_lit 21) e)) (rotN (nat_lit 25) (nat_lit 7) e)))
    (Nat.xor (Nat.land e f) (Nat.land (Nat.sub (nat_lit 4294967295) e) g))) kw
def ky (a b c : Nat) : Nat :=
  Nat.add (Nat.xor (Nat.xor (rotN (nat_lit 2) (nat_lit 30) a) (rotN (nat_lit 13) (nat_lit 19) a)) (rotN (nat_lit 22) (nat_lit 10) a))
    (Nat.xor (Nat.xor (Nat.land a b) (Nat.land a c)) (Nat.land b c))
abbrev Fn8 := Nat → Nat → Nat → Nat → Nat → Nat → Nat → Nat → List Nat
/-- the rounds, with what is to be added in each -/
noncomputable def kruns (kws : List Nat) (fin : Fn8) : Fn8 :=
  List.rec (motive := fun _ => Fn8) fin (fun kw _ next a b c d e f g h =>
    force (kx e f g h kw) fun x => force (Nat.mod (Nat.add x (ky a b c)) (nat_lit 4294967296)) fun a' => force (Nat.mod (Nat.add d x) (nat_lit 4294967296)) fun e' => next a' a b c e' e f g) kws
/-- so many blocks, all alike -/
noncomputable def kblocks (kws : List Nat) (n : Nat) : Fn8 :=
  Nat.rec (motive := fun _ => Fn8) (fun a b c d e f g h => [a, b, c, d, e, f, g, h]) (fun _ next a b c d e f g h =>
    kruns kws (fun a' b' c' d' e' f' g' h' =>
      force (Nat.mod (Nat.add a a') (nat_lit 4294967296)) fun a => force (Nat.mod (Nat.add b b') (nat_lit 4294967296)) fun b => force (Nat.mod (Nat.add c c') (nat_lit 4294967296)) fun c => force (Nat.mod (Nat.add d d') (nat_lit 4294967296)) fun d =>
      force (Nat.mod (Nat.add e e') (nat_lit 4294967296)) fun e => force (Nat.mod (Nat.add f f') (nat_lit 4294967296)) fun f => force (Nat.mod (Nat.add g g') (nat_lit 4294967296)) fun g => force (Nat.mod (Nat.add h h') (nat_lit 4294967296)) fun h =>
      next a b c d e f g h) a b c d e f g h) n

theorem zx (x : Wd) : (0 : Wd) ^^^ x = x := BitVec.zero_xor
theorem az (x : Wd) : x + (0 : Wd) = x := BitVec.add_zero x
theorem force_eq (n : Nat) (k : Nat → List Nat) : force n k = k n := by cases n <;> rfl
theorem rotN_eq (n m : Nat) (h : m = 32 - n) (x : Wd) : rotN n m x.toNat = (rot n x).toNat := by
  subst h
  simp only [rotN, rot, BitVec.toNat_or, BitVec.toNat_ushiftRight, BitVec.toNat_shiftLeft]
  rfl
/-- one of the 64 times, what is added put together ahead -/
def rnd1 (l : List Wd) (kw : Wd) : List Wd := rnd kw 0 l
theorem rnd_rnd1 (k w : Wd) (l : List Wd) : rnd k w l = rnd1 l (k + w) := by
  unfold rnd1
  unfold rnd
  split
  · simp only [rx, az, BitVec.add_assoc]
  · rfl
theorem rnds_fold (ks ws st : List Wd) (hk : ks.length = 64) (hw : ws.length = 64) : ∀ n, n ≤ 64 → rnds ks ws st n = ((List.zipWith (· + ·) ks ws).take n).foldl rnd1 st
  | 0, _ => by simp [rnds]
  | n + 1, h => by
    have hz : n < (List.zipWith (· + ·) ks ws).length := by simp [hk, hw]; omega
    rw [rnds, rnds_fold ks ws st hk hw n (by omega), rnd_rnd1, List.take_succ_eq_append_getElem hz, List.foldl_append]
    simp [List.getElem?_eq_getElem (show n < ks.length by omega), List.getElem?_eq_getElem (show n < ws.length by omega)]
theorem kx_eq (e f g h kw : Wd) : kx e.toNat f.toNat g.toNat h.toNat kw.toNat % 4294967296 = (rx e f g h kw 0).toNat := by
  have hn : (~~~e).toNat = Nat.sub (nat_lit 4294967295) e.toNat := by rw [BitVec.toNat_not]; rfl
  have hE : (bigE e).toNat = Nat.xor (Nat.xor (rotN (nat_lit 6) (nat_lit 26) e.toNat) (rotN (nat_lit 11) (nat_lit 21) e.toNat)) (rotN (nat_lit 25) (nat_lit 7) e.toNat) := by
    rw [rotN_eq 6 26 rfl, rotN_eq 11 21 rfl, rotN_eq 25 7 rfl]
    show (turn [6, 11, 25] e).toNat = _
    unfold turn
    simp only [List.foldl_cons, List.foldl_nil, zx, BitVec.toNat_xor]
    rfl
  have hC : (e &&& f ^^^ ~~~e &&& g).toNat = Nat.xor (Nat.land e.toNat f.toNat) (Nat.land (Nat.sub (nat_lit 4294967295) e.toNat) g.toNat) := by
    rw [BitVec.toNat_xor, BitVec.toNat_and, BitVec.toNat_and, hn]; rfl
  unfold kx
  rw [← hE, ← hC]
  simp only [rx, az, BitVec.toNat_add, Nat.add_eq]
  omega
theorem ky_eq (a b c : Wd) : ky a.toNat b.toNat c.toNat % 4294967296 = (ry a b c).toNat := by
  have hE : (bigA a).toNat = Nat.xor (Nat.xor (rotN (nat_lit 2) (nat_lit 30) a.toNat) (rotN (nat_lit 13) (nat_lit 19) a.toNat)) (rotN (nat_lit 22) (nat_lit 10) a.toNat) := by
    rw [rotN_eq 2 30 rfl, rotN_eq 13 19 rfl, rotN_eq 22 10 rfl]
    show (turn [2, 13, 22] a).toNat = _
    unfold turn
    simp only [List.foldl_cons, List.foldl_nil, zx, BitVec.toNat_xor]
    rfl
  have hC : (a &&& b ^^^ a &&& c ^^^ b &&& c).toNat = Nat.xor (Nat.xor (Nat.land a.toNat b.toNat) (Nat.land a.toNat c.toNat)) (Nat.land b.toNat c.toNat) := by
    rw [BitVec.toNat_xor, BitVec.toNat_xor, BitVec.toNat_and, BitVec.toNat_and, BitVec.toNat_and]; rfl
  unfold ky
  rw [← hE, ← hC]
  simp only [ry, BitVec.toNat_add, Nat.add_eq]
/-- a function of eight numbers, at eight words -/
def at8 (f : Fn8) : List Wd → List Nat
  | [a, b, c, d, e, f', g, h] => f a.toNat b.toNat c.toNat d.toNat e.toNat f'.toNat g.toNat h.toNat
  | _ => []
theorem kruns_eq (fin : Fn8) : ∀ (kws l : List Wd), l.length = 8 → at8 (kruns (kws.map BitVec.toNat) fin) l = at8 fin (kws.foldl rnd1 l)
  | [], l, _ => rfl
  | kw :: kws, l, hl => by
    obtain ⟨a, b, c, d, e, f, g, h, rfl⟩ := len8 hl
    have ih := kruns_eq fin kws (rnd1 [a, b, c, d, e, f, g, h] kw) rfl
    rw [List.foldl_cons, ← ih]
    have hx := kx_eq e f g h kw
    have hy := ky_eq a b c
    have ha : (rx e f g h kw 0 + ry a b c).toNat = (kx e.toNat f.toNat g.toNat h.toNat kw.toNat + ky a.toNat b.toNat c.toNat) % 4294967296 := by
      rw [BitVec.toNat_add]; omega
    have he : (d + rx e f g h kw 0).toNat = (d.toNat + kx e.toNat f.toNat g.toNat h.toNat kw.toNat) % 4294967296 := by
      rw [BitVec.toNat_add]; omega
    have hL : at8 (kruns ((kw :: kws).map BitVec.toNat) fin) [a, b, c, d, e, f, g, h] = force (kx e.toNat f.toNat g.toNat h.toNat kw.toNat) fun x => force (Nat.mod (Nat.add x (ky a.toNat b.toNat c.toNat)) (nat_lit 4294967296)) fun a' => force (Nat.mod (Nat.add d.toNat x) (nat_lit 4294967296)) fun e' => kruns (kws.map BitVec.toNat) fin a' a.toNat b.toNat c.toNat e' e.toNat f.toNat g.toNat := rfl
    rw [hL]
    show _ = kruns (kws.map BitVec.toNat) fin (rx e f g h kw 0 + ry a b c).toNat a.toNat b.toNat c.toNat (d + rx e f g h kw 0).toNat e.toNat f.toNat g.toNat
    rw [force_eq, force_eq, force_eq, ha, he]
    rfl

/-- the eight words behind n blocks that are alike -/
def many (kws : List Wd) : Nat → List Wd → List Wd
  | 0, l => l
  | n + 1, l => many kws n (List.zipWith (· + ·) l (kws.foldl rnd1 l))
theorem fold_len (kws l : List Wd) (h : l.length = 8) : (kws.foldl rnd1 l).length = 8 := by
  induction kws generalizing l with
  | nil => exact h
  | cons k t ih => exact ih _ (rnd_len _ _ _ h)
theorem many_len (kws : List Wd) (n : Nat) (l : List Wd) (h : l.length = 8) : (many kws n l).length = 8 := by
  induction n generalizing l with
  | zero => exact h
  | succ n ih => exact ih _ (by simp [h, fold_len kws l h])
theorem many_add (kws : List Wd) (n m : Nat) (l : List Wd) : many kws (n + m) l = many kws m (many kws n l) := by
  induction n generalizing l with
  | zero => rw [Nat.zero_add]; rfl
  | succ n ih =>
    rw [show n + 1 + m = (n + m) + 1 by omega]
    exact ih _
theorem kblocks_eq (kws : List Wd) : ∀ (n : Nat) (l : List Wd), l.length = 8 → at8 (kblocks (kws.map BitVec.toNat) n) l = (many kws n l).map BitVec.toNat
  | 0, l, hl => by
    obtain ⟨a, b, c, d, e, f, g, h, rfl⟩ := len8 hl
    rfl
  | n + 1, l, hl => by
    have hz : (List.zipWith (· + ·) l (kws.foldl rnd1 l)).length = 8 := by simp [hl, fold_len kws l hl]
    have ih := kblocks_eq kws n (List.zipWith (· + ·) l (kws.foldl rnd1 l)) hz
    show _ = (many kws n _).map BitVec.toNat
    rw [← ih]
    obtain ⟨a, b, c, d, e, f, g, h, rfl⟩ := len8 hl
    obtain ⟨a', b', c', d', e', f', g', h', hf⟩ := len8 (fold_len kws _ hl)
    rw [hf]
    have hk := fun fin => kruns_eq fin kws [a, b, c, d, e, f, g, h] rfl
    rw [hf] at hk
    refine (hk _).trans ?_
    have hR : (force (Nat.mod (Nat.add a.toNat a'.toNat) (nat_lit 4294967296)) fun a1 => force (Nat.mod (Nat.add b.toNat b'.toNat) (nat_lit 4294967296)) fun b1 => force (Nat.mod (Nat.add c.toNat c'.toNat) (nat_lit 4294967296)) fun c1 => force (Nat.mod (Nat.add d.toNat d'.toNat) (nat_lit 4294967296)) fun d1 => force (Nat.mod (Nat.add e.toNat e'.toNat) (nat_lit 4294967296)) fun e1 => force (Nat.mod (Nat.add f.toNat f'.toNat) (nat_lit 4294967296)) fun f1 => force (Nat.mod (Nat.add g.toNat g'.toNat) (nat_lit 4294967296)) fun g1 => force (Nat.mod (Nat.add h.toNat h'.toNat) (nat_lit 4294967296)) fun h1 => kblocks (kws.map BitVec.toNat) n a1 b1 c1 d1 e1 f1 g1 h1) = kblocks (kws.map BitVec.toNat) n (a + a').toNat (b + b').toNat (c + c').toNat (d + d').toNat (e + e').toNat (f + f').toNat (g + g').toNat (h + h').toNat := by
      rw [force_eq, force_eq, force_eq, force_eq, force_eq, force_eq, force_eq, force_eq]
      simp only [BitVec.toNat_add]
      rfl
    exact hR
theorem comp_many (ws st : List Wd) (hw : ws.length = 64) : comp K0 ws st = many (List.zipWith (· + ·) K0 ws) 1 st := by
  show List.zipWith (· + ·) st (rnds K0 ws st 64) = _
  rw [rnds_fold K0 ws st rfl hw 64 (Nat.le_refl _), List.take_of_length_le (by rw [List.length_zipWith]; omega)]
  rfl
theorem toNat_inj (l m : List Wd) (h : l.map BitVec.toNat = m.map BitVec.toNat) : l = m := by
  induction l generalizing m with
  | nil => cases m with
    | nil => rfl
    | cons _ _ => simp at h
  | cons a t ih => cases m with
    | nil => simp at h
    | cons b u =>
      simp only [List.map_cons, List.cons.injEq] at h
      rw [BitVec.eq_of_toNat_eq h.1, ih u h.2]
/-- so many blocks reckoned: as words -/
theorem many_step (kws : List Wd) (KN : List Nat) (hK : kws.map BitVec.toNat = KN) (n : Nat) (l m : List Wd) (hl : l.length = 8) (h : at8 (kblocks KN n) l = m.map BitVec.toNat) : many kws n l = m :=
  toNat_inj _ _ (by rw [← kblocks_eq kws n l hl, hK, h])
end Go.Proofs.Ytkonpljefmkhbaa
