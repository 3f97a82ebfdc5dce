import Derived.Test.YtdpeblchndfdaaaW2
import Derived.Test.YtdpeblchndfdaaaSh
namespace Go.Proofs.Ytdpeblchndfdaaa
open Go.RowKit

def Plain.cutT (l : List UInt8) : Option (List UInt8 × List UInt8) :=
  match Plain.cut l with
  | none => none
  | some (n, r) => if r.length < n then none else some (r.take n, r.drop n)

def cutTV (l : List UInt8) : Value :=
  match Plain.cutT l with
  | some (t, r) => .tuple #[.string (bs t), .string (bs r), .bool true]
  | none => .tuple #[.string ⟨#[]⟩, .string ⟨#[]⟩, .bool false]

theorem cut_len {l : List UInt8} {n : Nat} {r : List UInt8} (h : Plain.cut l = some (n, r)) : r.length ≤ l.length := by
  have := (Plain.cut_back h).1
  rw [this]; simp

set_option maxHeartbeats 400000 in
theorem cutText_none (s : ByteArray) (w : World) (hs : s.size ≤ maxLen) (h : Plain.cut s.data.toList = none) :
    Calls Try.prog 82 #[.string s] w fun e w' => e = .returned (.tuple #[.string ⟨#[]⟩, .string ⟨#[]⟩, .bool false]) ∧ Below w.heap.size w w' := by
  have hv : cutV s.data.toList = .tuple #[.int .u64 0, .string ⟨#[]⟩, .bool false] := by simp [cutV, h]
  have HV := Lib.hid hv
  clear hv h
  go_enter Try.func82, Try.ntmps82
  go_wp2_with fail
  refine (cutNum_any _ _ hs).mono ?_
  rintro e w1 ⟨rfl, hb1⟩
  rw [HV.out]
  go_wp2
  go_ret3
  exact ⟨rfl, hb1⟩

set_option maxHeartbeats 400000 in
theorem cutText_long (s : ByteArray) (n : Nat) (r : List UInt8) (w : World) (hs : s.size ≤ maxLen) (h : Plain.cut s.data.toList = some (n, r)) (hn : r.length < n) :
    Calls Try.prog 82 #[.string s] w fun e w' => e = .returned (.tuple #[.string ⟨#[]⟩, .string ⟨#[]⟩, .bool false]) ∧ Below w.heap.size w w' := by
  have hv : cutV s.data.toList = .tuple #[.int .u64 n, .string (bs r), .bool true] := by simp [cutV, h]
  have HV := Lib.hid hv
  have hr := cut_len h
  rw [size_data] at hr
  have hz : (bs r).size < n := by rw [bs_size]; exact hn
  have hz2 : (bs r).size ≤ 9223372036854775807 := by rw [bs_size]; unfold maxLen at hs; omega
  clear hv h
  go_enter Try.func82, Try.ntmps82
  go_wp2_with fail
  refine (cutNum_any _ _ hs).mono ?_
  rintro e w1 ⟨rfl, hb1⟩
  rw [HV.out]
  go_wp2
  go_ret3
  exact ⟨rfl, hb1⟩

set_option maxHeartbeats 400000 in
theorem cutText_some (s : ByteArray) (n : Nat) (r : List UInt8) (w : World) (hs : s.size ≤ maxLen) (h : Plain.cut s.data.toList = some (n, r)) (hn : n ≤ r.length) :
    Calls Try.prog 82 #[.string s] w fun e w' => e = .returned (.tuple #[.string (bs (r.take n)), .string (bs (r.drop n)), .bool true]) ∧ Below w.heap.size w w' := by
  have hv : cutV s.data.toList = .tuple #[.int .u64 n, .string (bs r), .bool true] := by simp [cutV, h]
  have HV := Lib.hid hv
  have hr := cut_len h
  rw [size_data] at hr
  have hz : n ≤ (bs r).size := by rw [bs_size]; exact hn
  have hz2 : (bs r).size ≤ 9223372036854775807 := by rw [bs_size]; unfold maxLen at hs; omega
  clear hv h
  go_enter Try.func82, Try.ntmps82
  go_wp2_with fail
  refine (cutNum_any _ _ hs).mono ?_
  rintro e w1 ⟨rfl, hb1⟩
  rw [HV.out]
  go_wp2
  go_quiet (fail)
  go_wp2
  go_ret3
  exact ⟨ret_of (by rw [← bs_take_bs, ← bs_drop_bs]; rfl), below_drewN' hb1 _⟩

theorem cutText_any (s : ByteArray) (w : World) (hs : s.size ≤ maxLen) :
    Calls Try.prog 82 #[.string s] w fun e w' => e = .returned (cutTV s.data.toList) ∧ Below w.heap.size w w' := by
  cases h : Plain.cut s.data.toList with
  | none =>
    refine (cutText_none s w hs h).mono fun e w' ⟨he, hb⟩ => ⟨?_, hb⟩
    simp [he, cutTV, Plain.cutT, h]
  | some x =>
    obtain ⟨n, r⟩ := x
    by_cases hn : r.length < n
    · refine (cutText_long s n r w hs h hn).mono fun e w' ⟨he, hb⟩ => ⟨?_, hb⟩
      simp [he, cutTV, Plain.cutT, h, hn]
    · refine (cutText_some s n r w hs h (by omega)).mono fun e w' ⟨he, hb⟩ => ⟨?_, hb⟩
      simp [he, cutTV, Plain.cutT, h, hn]

set_option maxHeartbeats 400000 in
theorem numLit (s : ByteArray) (c : Nat) (x : Int) (n : Int) (r : ByteArray) (ok : Bool) (w : World) (hs : s.size ≤ maxLen) (hat : At w c 82 [.int .u64 x])
    (hv : cutV s.data.toList = .tuple #[.int .u64 n, .string r, .bool ok]) :
    Calls Try.prog 93 #[.string s, .pointer (some ⟨c, 0, none⟩)] w fun e w' => e = .returned (.tuple #[.string r, .bool ok]) ∧ At w' c 82 [.int .u64 n] ∧ Only c w w' := by
  have HV := Lib.hid hv
  have HA := Lib.hid hat
  clear hv hat
  go_enter Try.func93, Try.ntmps93
  go_wp2_with fail
  refine (cutNum_any _ _ hs).mono ?_
  rintro e w1 ⟨rfl, hb1⟩
  rw [HV.out]
  have h1 := HA.out.below hb1 HA.out.lt
  have hc := h1.cell 0 _ rfl
  have hf := h1.frozen 0
  have H1 := Lib.hid h1
  clear h1
  go_wp2
  go_ret2
  exact ⟨rfl, H1.out.setCell 0 _, (Only.of_below hb1).trans (Only.setCell _ _ _ _)⟩

set_option maxHeartbeats 400000 in
theorem textLit (s : ByteArray) (c : Nat) (x : ByteArray) (t : ByteArray) (r : ByteArray) (ok : Bool) (w : World) (hs : s.size ≤ maxLen) (hat : At w c 9 [.string x])
    (hv : cutTV s.data.toList = .tuple #[.string t, .string r, .bool ok]) :
    Calls Try.prog 81 #[.string s, .pointer (some ⟨c, 0, none⟩)] w fun e w' => e = .returned (.tuple #[.string r, .bool ok]) ∧ At w' c 9 [.string t] ∧ Only c w w' := by
  have HV := Lib.hid hv
  have HA := Lib.hid hat
  clear hv hat
  go_enter Try.func81, Try.ntmps81
  go_wp2_with fail
  refine (cutText_any _ _ hs).mono ?_
  rintro e w1 ⟨rfl, hb1⟩
  rw [HV.out]
  have h1 := HA.out.below hb1 HA.out.lt
  have hc := h1.cell 0 _ rfl
  have hf := h1.frozen 0
  have H1 := Lib.hid h1
  clear h1
  go_wp2
  go_ret2
  exact ⟨rfl, H1.out.setCell 0 _, (Only.of_below hb1).trans (Only.setCell _ _ _ _)⟩

/-- what a reader's Num comes to -/
def rnum (l : List UInt8) (lost : Bool) : Nat × List UInt8 × Bool :=
  if lost then (0, l, true) else
  match Plain.cut l with
  | some (n, r) => (n, r, false)
  | none => (0, [], true)
def rtext (l : List UInt8) (lost : Bool) : List UInt8 × List UInt8 × Bool :=
  if lost then ([], l, true) else
  match Plain.cutT l with
  | some (t, r) => (t, r, false)
  | none => ([], [], true)

/-- a reader in memory -/
def Rd (w : World) (b : Nat) (l : List UInt8) (lost : Bool) : Prop := At w b 91 [.string (bs l), .bool lost]

set_option maxHeartbeats 400000 in
theorem takeNum_lost (b c : Nat) (l : List UInt8) (w : World) (h : Rd w b l true) :
    Calls Try.prog 80 #[.pointer (some ⟨b, 0, none⟩), .func (.func 93) #[] #[.pointer (some ⟨c, 0, none⟩)]] w fun e w' => e = .returned (.tuple #[]) ∧ w' = w := by
  have H := Lib.hid h
  clear h
  go_enter Try.func80, Try.ntmps80
  go_wp2_with fail
  refine (ok_any b _ _ _ H.out).mono ?_
  rintro e w1 ⟨rfl, rfl⟩
  go_wp2
  (try simp only [Exit.inBlock, Exit.then]); refine bodyPost_ret (results_none rfl _ _ _) rfl ?_
  exact ⟨rfl, rfl⟩

set_option maxHeartbeats 400000 in
theorem takeNum_nil (c : Nat) (w : World) :
    Calls Try.prog 80 #[.pointer none, .func (.func 93) #[] #[.pointer (some ⟨c, 0, none⟩)]] w fun e w' => e = .returned (.tuple #[]) ∧ w' = w := by
  go_enter Try.func80, Try.ntmps80
  go_wp2_with fail
  refine (ok_nil _).mono ?_
  rintro e w1 ⟨rfl, rfl⟩
  go_wp2
  (try simp only [Exit.inBlock, Exit.then]); refine bodyPost_ret (results_none rfl _ _ _) rfl ?_
  exact ⟨rfl, rfl⟩

set_option maxHeartbeats 400000 in
theorem takeNum_ok (b c : Nat) (l : List UInt8) (x n : Int) (r : ByteArray) (ok : Bool) (w : World) (h : Rd w b l false) (hl : l.length ≤ maxLen) (hc : At w c 82 [.int .u64 x]) (hne : b ≠ c)
    (hv : cutV l = .tuple #[.int .u64 n, .string r, .bool ok]) :
    Calls Try.prog 80 #[.pointer (some ⟨b, 0, none⟩), .func (.func 93) #[] #[.pointer (some ⟨c, 0, none⟩)]] w fun e w' => e = .returned (.tuple #[]) ∧
      At w' b 91 [.string r, .bool !ok] ∧ At w' c 82 [.int .u64 n] ∧ ∃ w1, Only c w w1 ∧ Only b w1 w' := by
  have H := Lib.hid h
  have h0 := At.cell h 0 _ rfl
  have HC := Lib.hid hc
  have HV := Lib.hid hv
  have HN := Lib.hid hne
  have hz : (bs l).size ≤ maxLen := by rw [bs_size]; exact hl
  clear h hc hv hne
  go_enter Try.func80, Try.ntmps80
  go_wp2_with fail
  refine (ok_any b _ _ _ H.out).mono ?_
  rintro e w1 ⟨rfl, rfl⟩
  go_wp2_with fail
  refine (numLit (bs l) c x n r ok _ hz HC.out (by rw [data_bs]; exact HV.out)).mono ?_
  rintro e w2 ⟨rfl, h2, h3⟩
  have hb := At.only H.out h3 HN.out
  have hc0 := hb.cell 0 _ rfl
  have hc1 := hb.cell 1 _ rfl
  have hf0 := hb.frozen 0
  have hf1 := hb.frozen 1
  have HB := Lib.hid hb
  have H2 := Lib.hid h2
  have H3 := Lib.hid h3
  clear hb h2 h3
  go_wp2
  go_end0
  exact ⟨rfl, (HB.out.setCell 0 _).setCell 1 _, ((H2.out.setCell_ne _ _ (by simpa using HN.out.symm)).setCell_ne _ _ (by simpa using HN.out.symm)), _, H3.out, (Only.setCell _ _ _ _).trans (Only.setCell _ _ _ _)⟩
end Go.Proofs.Ytdpeblchndfdaaa
