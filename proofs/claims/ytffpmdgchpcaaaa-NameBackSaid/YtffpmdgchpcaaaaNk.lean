/- What each statement on names asks besides. -/
import Derived.Test.YtffpmdgchpcaaaaNj
namespace Go.Proofs.Ytffpmdgchpcaaaa
open Go.RowKit
attribute [local go_sem] bs_size bs_append

def n0 : List UInt8 := List.replicate 32 48
theorem noughts_any (w : World) : Calls Try.prog 22 #[] w fun e w' => e = .returned (.string (bs n0)) ∧ w' = w := by
  go_enter Try.func22, Try.ntmps22
  go_wp2
  go_ret
  exact ⟨rfl, rfl⟩
theorem hashL_len (s : List UInt8) : (hashL s).length = 32 := hls_len s 32

theorem w_path (w : World) : Calls Try.prog 15 #[.string (bs n0), .string ⟨#[97, 46, 98]⟩] w fun e w' => e = .returned (.tuple #[.string (bs (n0 ++ [45, 97, 46, 98])), .int .i64 0]) ∧ Below w.heap.size w w' := by
  have h := path_any n0 [97, 46, 98] w (by decide) (by decide)
  rw [show pathS n0 [97, 46, 98] = n0 ++ [45, 97, 46, 98] by decide, show pathE n0 [97, 46, 98] = 0 by decide] at h
  exact h
theorem w_split (w : World) : Calls Try.prog 17 #[.string (bs (n0 ++ [45, 97, 45, 98]))] w fun e w' => e = .returned (.tuple #[.string (bs n0), .string (bs [97, 45, 98]), .int .i64 0]) ∧ Below w.heap.size w w' := by
  have h := split_any (n0 ++ [45, 97, 45, 98]) w (by decide)
  rw [splitV_yes (by decide)] at h
  exact h
theorem w_hash (w : World) : Calls Try.prog 12 #[.string ⟨#[]⟩] w fun e w' => e = .returned (.string (bs (hashL (sha [])))) ∧ Below w.heap.size w w' := hash_any [] w (by decide)

theorem bs_beq (a b : List UInt8) : ((bs a).toList == (bs b).toList) = (a == b) := by rw [ByteArray.toList_eq, ByteArray.toList_eq, data_bs, data_bs]
set_option maxRecDepth 100000 in
set_option maxHeartbeats 4000000 in
theorem works_any3 (w : World) : Calls Try.prog 14 #[] w fun e w' => e = .returned (.bool true) ∧ Below w.heap.size w w' := by
  have hlen : (hashL (sha [])).length = 32 := hashL_len _
  have d1 : ({ data := #[45, 97, 45, 98] } : ByteArray) = bs [45, 97, 45, 98] := rfl
  have d2 : ({ data := #[45, 97, 46, 98] } : ByteArray) = bs [45, 97, 46, 98] := rfl
  have hn0 : n0.length = 32 := rfl
  have hh := w_hash
  generalize hashL (sha []) = H at *
  have q0 : ((bs [97, 45, 98]).toList == [97, 45, 98]) = true := by rw [ByteArray.toList_eq, data_bs]; rfl
  go_enter Try.func14, Try.ntmps14
  go_wp2_with fail
  refine (noughts_any _).mono ?_
  rintro e w1 ⟨rfl, rfl⟩
  go_wp2_with fail
  refine (w_path _).mono ?_
  rintro e w2 ⟨rfl, b2⟩
  have B2 := Lib.hid b2
  clear b2
  go_wp2_with fail
  refine (noughts_any _).mono ?_
  rintro e w1 ⟨rfl, rfl⟩
  go_wp2_with fail
  refine (w_split _).mono ?_
  rintro e w3 ⟨rfl, b3⟩
  have B3 := Lib.hid (b3.mono B2.out.size)
  clear b3
  go_wp2_with fail
  refine (noughts_any _).mono ?_
  rintro e w1 ⟨rfl, rfl⟩
  go_wp2_with fail
  refine (noughts_any _).mono ?_
  rintro e w1 ⟨rfl, rfl⟩
  go_wp2_with fail
  refine (hh _).mono ?_
  rintro e w4 ⟨rfl, b4⟩
  have B4 := Lib.hid (b4.mono (B2.out.trans B3.out).size)
  clear b4
  go_wp2
  go_ret
  exact ⟨rfl, (B2.out.trans B3.out).trans B4.out⟩
end Go.Proofs.Ytffpmdgchpcaaaa
