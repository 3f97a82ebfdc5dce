import Derived.Test.YtdpeblchndfdaaaW4
namespace Go.Proofs.Ytdpeblchndfdaaa
open Go.RowKit

theorem conv1 (c : Int) (h0 : 0 ≤ c) (h1 : c < 256) (W : World) :
    (convert 37 9 (.slice (some ⟨W.heap.size, 0, none⟩) 1 1)).run Try.prog (W.alloc (.cells #[.int .u8 c] 5)) =
      .ok (.string (bs [UInt8.ofNat c.toNat])) (W.alloc (.cells #[.int .u8 c] 5)) := by
  have e : ((UInt8.ofNat c.toNat).toNat : Int) = c := by rw [Plain.toNat_of (by omega)]; omega
  refine run_convert_bytes_back _ 37 9 5 ⟨W.heap.size, 0, none⟩ 1 [UInt8.ofNat c.toNat] Try.underlying37 Try.underlying5 Try.underlying9 ?_
  intro j hj
  obtain rfl : j = 0 := by simpa using hj
  refine (At.new W #[.int .u8 c] 5).cell 0 _ ?_
  simp
  omega

theorem quo128 (n : Nat) (hn : n < Plain.big) : IntKind.u64.wrap ((n : Int) / 128) = ((n / 128 : Nat) : Int) := by
  have hb : Plain.big = 18446744073709551616 := rfl
  simp only [IntKind.wrap, IntKind.bits, IntKind.signed]; simp; omega

set_option maxHeartbeats 400000 in
theorem refPutNum_any (s : ByteArray) (n : Nat) (w : World) (hs : s.size ≤ 4611686018427387904) (hn : n < Plain.big) :
    Calls Try.prog 51 #[.string s, .int .u64 n] w fun e w' => e = .returned (.string (s ++ bs (Plain.row n))) ∧ Below w.heap.size w w' := by
  have hc := conv1 ((n : Int) % 128) (by omega) (by omega)
  rw [show ((n : Int) % 128).toNat = n % 128 by omega] at hc
  have hq := quo128 n hn
  go_enter Try.func51, Try.ntmps51
  go_wp2
  clear hc hq
  go_loopw [1, 5] (fun n' d wr => ∃ (m : Nat) (ds : List UInt8), n' = .int .u64 m ∧ d = .string (bs ds) ∧ m < Plain.big ∧ Plain.hi m ++ ds = Plain.row n ∧ Below w.heap.size w wr) (fun i _ _ => (intOf i).toNat)
  case atStart =>
    exact ⟨n / 128, [UInt8.ofNat (n % 128)], by go_num, rfl, by omega, rfl, (Below.refl _ _).alloc (Nat.le_refl _) _⟩
  case round =>
    obtain ⟨m, ds, rfl, rfl, hm, hds, hbe⟩ := hrel
    have hlen : (Plain.hi m).length + ds.length ≤ 10 := by
      have := Plain.row_length_le n hn
      rw [← hds] at this
      simpa using this
    have hsz : s.size + (bs ds).size ≤ 9223372036854775807 := by rw [bs_size]; omega
    by_cases h0 : m = 0
    · subst h0
      have hd : ds = Plain.row n := by rw [Plain.hi_zero] at hds; simpa using hds
      have HD := Lib.hid hd
      clear hds hd
      go_wp2
      go_ret
      refine ⟨?_, hbe⟩
      rw [← HD.out]; rfl
    · have hm0 : (0 : Int) < m := by omega
      have hc := conv1 ((m : Int) % 128 + 128) (by omega) (by omega)
      rw [show ((m : Int) % 128 + 128).toNat = m % 128 + 128 by omega] at hc
      have hsz2 : (bs [UInt8.ofNat (m % 128 + 128)]).size + (bs ds).size ≤ 9223372036854775807 := by rw [bs_size, bs_size]; simp; omega
      have hd2 : Plain.hi (m / 128) ++ UInt8.ofNat (m % 128 + 128) :: ds = Plain.row n := by
        rw [← hds, Plain.hi_pos h0]; simp
      have hq := quo128 m hm
      generalize UInt8.ofNat (m % 128 + 128) = c at hc hsz2 hd2
      have HD := Lib.hid hd2
      clear hds h0 hd2
      go_wp2
      go_roundw
      case rel =>
        exact ⟨m / 128, c :: ds, by go_num, by rw [bs_append]; rfl, by omega, HD.out, hbe.alloc hbe.size _⟩
      case measure => simp [intOf]; omega

set_option maxHeartbeats 400000 in
theorem refPutText_any (s t : ByteArray) (w : World) (hs : s.size ≤ 1152921504606846976) (ht : t.size ≤ 1152921504606846976) :
    Calls Try.prog 27 #[.string s, .string t] w fun e w' => e = .returned (.string (s ++ bs (Plain.row t.size) ++ t)) ∧ Below w.heap.size w w' := by
  have hb : t.size < Plain.big := by unfold Plain.big; omega
  have h10 := Plain.row_length_le t.size hb
  have hz2 : (s ++ bs (Plain.row t.size)).size ≤ s.size + 10 := by rw [ByteArray.size_append, bs_size]; omega
  clear h10
  go_enter Try.func27, Try.ntmps27
  go_wp2_with fail
  refine (refPutNum_any _ _ _ (by omega) hb).mono ?_
  rintro e w1 ⟨rfl, hb1⟩
  go_wp2
  go_ret
  exact ⟨rfl, hb1⟩

/-- the document's reader in memory -/
def Rf (w : World) (b : Nat) (l : List UInt8) (lost : Bool) : Prop := At w b 66 [.string (bs l), .bool lost]

set_option maxHeartbeats 400000 in
theorem lose_any (b : Nat) (l : List UInt8) (lost : Bool) (w : World) (h : Rf w b l lost) :
    Calls Try.prog 60 #[.pointer (some ⟨b, 0, none⟩)] w fun e w' => e = .returned (.tuple #[]) ∧ Rf w' b [] true ∧ Only b w w' := by
  have h0 := At.cell h 0 _ rfl
  have h1 := At.cell h 1 _ rfl
  have f0 := At.frozen h 0
  have f1 := At.frozen h 1
  have H := Lib.hid h
  clear h
  go_enter Try.func60, Try.ntmps60
  go_wp2
  go_end0
  exact ⟨rfl, (At.setCell H.out 0 _).setCell 1 _, (Only.setCell _ _ _ _).trans (Only.setCell _ _ _ _)⟩

set_option maxHeartbeats 400000 in
theorem refOK_any (b : Nat) (l : List UInt8) (lost : Bool) (w : World) (h : Rf w b l lost) :
    Calls Try.prog 61 #[.pointer (some ⟨b, 0, none⟩)] w fun e w' => e = .returned (.bool !lost) ∧ w' = w := by
  have h1 := At.cell h 1 _ rfl
  clear h
  go_enter Try.func61, Try.ntmps61
  go_wp2
  go_ret
  exact ⟨rfl, rfl⟩

set_option maxHeartbeats 400000 in
theorem refEnd_any (b : Nat) (l : List UInt8) (lost : Bool) (w : World) (h : Rf w b l lost) :
    Calls Try.prog 36 #[.pointer (some ⟨b, 0, none⟩)] w fun e w' => e = .returned (.bool (!lost && (bs l).toList.isEmpty)) ∧ w' = w := by
  have h0 := At.cell h 0 _ rfl
  have h1 := At.cell h 1 _ rfl
  clear h
  cases lost
  all_goals
    go_enter Try.func36, Try.ntmps36
    go_wp2
    go_ret
    exact ⟨rfl, rfl⟩
end Go.Proofs.Ytdpeblchndfdaaa
