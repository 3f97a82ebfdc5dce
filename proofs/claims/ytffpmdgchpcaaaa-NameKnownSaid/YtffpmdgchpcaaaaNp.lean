/- The statement NameKnown: its walk. -/
import Derived.Test.YtffpmdgchpcaaaaNm
import Derived.Deep.RegionHeld3
namespace Go.Proofs.Ytffpmdgchpcaaaa
open Go.RowKit

/-- the chapter's rows -/
def rows3 : List (List UInt8 × Int) := [([], 2), ([97, 32, 98], 2), ([43], 0), ([46, 97], 2), ([97, 46], 0), ([45], 0), ([95, 90, 57], 0), ([49, 50, 51, 52, 53, 54, 55, 56, 57, 48, 49, 50, 51, 52, 53, 54, 55, 56, 57, 48], 0), ([49, 50, 51, 52, 53, 54, 55, 56, 57, 48, 49, 50, 51, 52, 53, 54, 55, 56, 57, 48, 49], 3), ([97, 47, 98], 2), ([0], 2)]
def cells3 (l : List (List UInt8 × Int)) : List Value := l.flatMap fun r => [.string (bs r.1), .int .i64 r.2]
theorem cells3_0 : ∀ (l : List (List UInt8 × Int)) (k : Nat) (n : List UInt8) (x : Int), l[k]? = some (n, x) → (cells3 l)[k * 2]? = some (.string (bs n))
  | [], k, n, x, h => by cases h
  | r :: l, 0, n, x, h => by
    have : r = (n, x) := Option.some.inj h
    subst this; rfl
  | r :: l, k + 1, n, x, h => by
    have := cells3_0 l k n x h
    rw [show (k + 1) * 2 = k * 2 + 1 + 1 by omega]
    exact this
theorem cells3_1 : ∀ (l : List (List UInt8 × Int)) (k : Nat) (n : List UInt8) (x : Int), l[k]? = some (n, x) → (cells3 l)[k * 2 + 1]? = some (.int .i64 x)
  | [], k, n, x, h => by cases h
  | r :: l, 0, n, x, h => by
    have : r = (n, x) := Option.some.inj h
    subst this; rfl
  | r :: l, k + 1, n, x, h => by
    have := cells3_1 l k n x h
    rw [show (k + 1) * 2 + 1 = k * 2 + 1 + 1 + 1 by omega]
    exact this
theorem cell_lt2 {w : World} {p : Addr} {v : Value} (h : w.cell? p = some v) : p.block < w.heap.size := by
  unfold World.cell? at h
  cases hb : w.heap[p.block]? with
  | none => rw [hb] at h; simp at h
  | some o => exact (Array.getElem?_eq_some_iff.1 hb).1
theorem keep2 {u v : World} {B : Nat} {a b : Value} (h : u.cell? ⟨B, 0, none⟩ = some a ∧ u.cell? ⟨B, 1, none⟩ = some b) (hb : Below u.heap.size u v) : v.cell? ⟨B, 0, none⟩ = some a ∧ v.cell? ⟨B, 1, none⟩ = some b :=
  ⟨(hb.cell (p := ⟨B, 0, none⟩) (cell_lt2 h.1)).trans h.1, (hb.cell (p := ⟨B, 1, none⟩) (cell_lt2 h.2)).trans h.2⟩
theorem rows3_len : ∀ r ∈ rows3, r.1.length ≤ 140737488351232 := by decide
theorem rows3_chk : ∀ r ∈ rows3, chk r.1 = r.2 := by decide

theorem path_is (h n S : List UInt8) (E : Int) (w : World) (hl : h.length ≤ 70368744175616) (hl2 : n.length ≤ 70368744175616) (hS : pathS h n = S) (hE : pathE h n = E) :
    Calls Try.prog 15 #[.string (bs h), .string (bs n)] w fun e w' => e = .returned (.tuple #[.string (bs S), .int .i64 E]) ∧ Below w.heap.size w w' := by
  have := path_any h n w hl hl2
  rw [hS, hE] at this
  exact this
theorem split_no (l : List UInt8) (w : World) (hl : l.length ≤ 70368744175616) (h : pathOk l = false) :
    Calls Try.prog 17 #[.string (bs l)] w fun e w' => e = .returned (.tuple #[.string (bs []), .string (bs []), .int .i64 4]) ∧ Below w.heap.size w w' := by
  have := split_any l w hl
  rw [splitV_no h] at this
  exact this
set_option maxRecDepth 100000 in
theorem hashes_apart : (hashL (sha [97]) == hashL (sha [98])) = false := by decide +kernel
attribute [local go_sem] bs_size bs_append bs_take_bs
set_option maxRecDepth 100000 in
set_option maxHeartbeats 16000000 in
theorem nameKnown_walk (w : World) : Calls Try.prog 9 #[] w fun e w' => e = .returned (.bool true) ∧ Below w.heap.size w w' := by
  go_enter Try.func9, Try.ntmps9
  go_wp2
  have hA : At (w.alloc (.cells #[.string ⟨#[]⟩, .int .i64 2, .string ⟨#[97, 32, 98]⟩, .int .i64 2, .string ⟨#[43]⟩, .int .i64 0, .string ⟨#[46, 97]⟩, .int .i64 2, .string ⟨#[97, 46]⟩, .int .i64 0, .string ⟨#[45]⟩, .int .i64 0, .string ⟨#[95, 90, 57]⟩, .int .i64 0,
      .string ⟨#[49, 50, 51, 52, 53, 54, 55, 56, 57, 48, 49, 50, 51, 52, 53, 54, 55, 56, 57, 48]⟩, .int .i64 0, .string ⟨#[49, 50, 51, 52, 53, 54, 55, 56, 57, 48, 49, 50, 51, 52, 53, 54, 55, 56, 57, 48, 49]⟩, .int .i64 3, .string ⟨#[97, 47, 98]⟩, .int .i64 2, .string ⟨#[0]⟩, .int .i64 2] 38)) w.heap.size 38 (cells3 rows3) := At.new _ _ _
  have hB := (Below.refl _ w).alloc (Nat.le_refl _) (.cells #[.string ⟨#[]⟩, .int .i64 2, .string ⟨#[97, 32, 98]⟩, .int .i64 2, .string ⟨#[43]⟩, .int .i64 0, .string ⟨#[46, 97]⟩, .int .i64 2, .string ⟨#[97, 46]⟩, .int .i64 0, .string ⟨#[45]⟩, .int .i64 0, .string ⟨#[95, 90, 57]⟩, .int .i64 0,
      .string ⟨#[49, 50, 51, 52, 53, 54, 55, 56, 57, 48, 49, 50, 51, 52, 53, 54, 55, 56, 57, 48]⟩, .int .i64 0, .string ⟨#[49, 50, 51, 52, 53, 54, 55, 56, 57, 48, 49, 50, 51, 52, 53, 54, 55, 56, 57, 48, 49]⟩, .int .i64 3, .string ⟨#[97, 47, 98]⟩, .int .i64 2, .string ⟨#[0]⟩, .int .i64 2] 38)
  generalize w.alloc _ = w1 at *
  have HA := Lib.hid hA
  have HB := Lib.hid hB
  clear hA hB
  go_loopw [38] (fun i wx => ∃ k : Nat, k ≤ 11 ∧ i = .int .i64 k ∧ At wx w.heap.size 38 (cells3 rows3) ∧ Below w.heap.size w wx) (fun i _ => 11 - (intOf i).toNat)
  case atStart => exact ⟨0, by omega, rfl, HA.out, HB.out⟩
  case round =>
    obtain ⟨k, hk, rfl, hA, hB⟩ := hrel
    clear HA HB
    have HA := Lib.hid hA
    have HB := Lib.hid hB
    clear hA hB
    by_cases hlt : k < 11
    · obtain ⟨n, x, hr⟩ : ∃ n x, rows3[k]? = some (n, x) := ⟨_, _, List.getElem?_eq_getElem (show k < rows3.length from hlt)⟩
      have hn := HA.out.cell (k * 2) _ (cells3_0 rows3 k n x hr)
      have hx := HA.out.cell (k * 2 + 1) _ (cells3_1 rows3 k n x hr)
      have hc := fun w => check_any n x w (rows3_len _ (List.mem_of_getElem? hr)) (rows3_chk _ (List.mem_of_getElem? hr))
      clear hr
      go_wp2
      have hW := At.new wr #[.string (bs n), .int .i64 x] 38
      have h0 := hW.cell 0 _ rfl
      have h1 := hW.cell 1 _ rfl
      have HW := HA.out.alloc (.cells #[.string (bs n), .int .i64 x] 38)
      have HWB := HB.out.alloc HB.out.size (.cells #[.string (bs n), .int .i64 x] 38)
      have HSZ : w.heap.size < (wr.alloc (.cells #[.string (bs n), .int .i64 x] 38)).heap.size := by rw [World.size_alloc]; have := HB.out.size; omega
      generalize wr.alloc (.cells #[.string (bs n), .int .i64 x] 38) = W at *
      generalize wr.heap.size = B at *
      have HW := Lib.hid HW
      have HWB := Lib.hid HWB
      clear hW hn hx HA HB
      go_region_held3 (fun w' => w'.cell? ⟨B, 0, none⟩ = some (.string (bs n)) ∧ w'.cell? ⟨B, 1, none⟩ = some (.int .i64 x)) (first | exact ⟨h0, h1⟩ | exact keep2 (by assumption) (by assumption) | go_keep) (first | (go_at_call 19; refine (hc _).mono ?_; rintro e w3 ⟨rfl, b3⟩))
      go_wp2
      go_roundw
      case rel => exact ⟨k + 1, by omega, by go_num, HW.out.drew.below b3 HSZ, (Below.drew HWB.out).trans (b3.mono HWB.out.size)⟩
      case measure => simp [intOf]; omega
    · obtain rfl : k = 11 := by omega
      clear HA
      have d1 : ({ data := #[101] } : ByteArray) = bs [101] := rfl
      have d2 : ({ data := #[45] } : ByteArray) = bs [45] := rfl
      have d3 : ({ data := #[95, 97] } : ByteArray) = bs [95, 97] := rfl
      have d4 : ({ data := #[45, 97] } : ByteArray) = bs [45, 97] := rfl
      have hn0 : n0.length = 32 := rfl
      have hq := hashes_apart
      have hX := fun w => hash_any [97] w (by decide)
      have hY := fun w => hash_any [98] w (by decide)
      generalize hashL (sha [97]) = X at *
      generalize hashL (sha [98]) = Y at *
      have hq1 : ((bs X).toList == (bs Y).toList) = false := by rw [bs_beq]; exact hq
      have hq2 : ((bs X).toList != (bs Y).toList) = true := by rw [bne, hq1]; rfl
      clear hq
      go_wp2_with fail
      refine (noughts_any _).mono ?_
      rintro e w0 ⟨rfl, rfl⟩
      go_wp2_with fail
      refine (path_is n0 [46, 97] [] 2 _ (by decide) (by decide) (by decide) (by decide)).mono ?_
      rintro e w1 ⟨rfl, b1⟩
      have HB1 := Lib.hid (HB.out.trans (b1.mono HB.out.size))
      clear b1
      go_wp2_with fail
      refine (path_is [48] [97] [] 2 _ (by decide) (by decide) (by decide) (by decide)).mono ?_
      rintro e w2 ⟨rfl, b2⟩
      have HB2 := Lib.hid (HB1.out.trans (b2.mono HB1.out.size))
      clear b2
      go_wp2_with fail
      refine (noughts_any _).mono ?_
      rintro e w0 ⟨rfl, rfl⟩
      go_wp2_with fail
      refine (path_is n0 [49, 50, 51, 52, 53, 54, 55, 56, 57, 48, 49, 50, 51, 52, 53, 54, 55, 56, 57, 48, 49] [] 3 _ (by decide) (by decide) (by decide) (by decide)).mono ?_
      rintro e w3 ⟨rfl, b3⟩
      have HB3 := Lib.hid (HB2.out.trans (b3.mono HB2.out.size))
      clear b3
      go_wp2_with fail
      refine (noughts_any _).mono ?_
      rintro e w0 ⟨rfl, rfl⟩
      go_wp2_with fail
      refine (path_is (n0.take 31 ++ [101]) [97] [] 2 _ (by decide) (by decide) (by decide) (by decide)).mono ?_
      rintro e w4 ⟨rfl, b4⟩
      have HB4 := Lib.hid (HB3.out.trans (b4.mono HB3.out.size))
      clear b4
      go_wp2_with fail
      refine (path_is [] [] [] 2 _ (by decide) (by decide) (by decide) (by decide)).mono ?_
      rintro e w5 ⟨rfl, b5⟩
      have HB5 := Lib.hid (HB4.out.trans (b5.mono HB4.out.size))
      clear b5
      go_wp2_with fail
      refine (noughts_any _).mono ?_
      rintro e w0 ⟨rfl, rfl⟩
      go_wp2_with fail
      refine (split_no n0 _ (by decide) (by decide)).mono ?_
      rintro e w6 ⟨rfl, b6⟩
      have HB6 := Lib.hid (HB5.out.trans (b6.mono HB5.out.size))
      clear b6
      go_wp2_with fail
      refine (noughts_any _).mono ?_
      rintro e w0 ⟨rfl, rfl⟩
      go_wp2_with fail
      refine (split_no (n0 ++ [45]) _ (by decide) (by decide)).mono ?_
      rintro e w7 ⟨rfl, b7⟩
      have HB7 := Lib.hid (HB6.out.trans (b7.mono HB6.out.size))
      clear b7
      go_wp2_with fail
      refine (noughts_any _).mono ?_
      rintro e w0 ⟨rfl, rfl⟩
      go_wp2_with fail
      refine (split_no (n0 ++ [95, 97]) _ (by decide) (by decide)).mono ?_
      rintro e w8 ⟨rfl, b8⟩
      have HB8 := Lib.hid (HB7.out.trans (b8.mono HB7.out.size))
      clear b8
      go_wp2_with fail
      refine (noughts_any _).mono ?_
      rintro e w0 ⟨rfl, rfl⟩
      go_wp2_with fail
      refine (split_no (n0.take 31 ++ [45, 97]) _ (by decide) (by decide)).mono ?_
      rintro e w9 ⟨rfl, b9⟩
      have HB9 := Lib.hid (HB8.out.trans (b9.mono HB8.out.size))
      clear b9
      go_wp2_with fail
      refine (hX _).mono ?_
      rintro e w10 ⟨rfl, b10⟩
      have HB10 := Lib.hid (HB9.out.trans (b10.mono HB9.out.size))
      clear b10
      go_wp2_with fail
      refine (hY _).mono ?_
      rintro e w11 ⟨rfl, b11⟩
      have HB11 := Lib.hid (HB10.out.trans (b11.mono HB10.out.size))
      clear b11
      go_wp2_with fail
      refine (works_any3 _).mono ?_
      rintro e w12 ⟨rfl, b12⟩
      have HB12 := Lib.hid (HB11.out.trans (b12.mono HB11.out.size))
      clear b12
      go_wp2
      go_ret
      exact ⟨rfl, HB12.out⟩
end Go.Proofs.Ytffpmdgchpcaaaa
