/- InodeKnown: its states (tools/gen_jo7.py). -/
import Derived.Test.YtgifdmfnecombaaJn
import Derived.Test.YtgifdmfnecombaaJl
namespace Go.Proofs.Ytgifdmfnecombaa
open Go.RowKit
set_option maxRecDepth 100000
section
variable {w0 w : World} {tb : Nat} {D : Doc} {n : Nat} {av : Nat → Prop}
theorem link_ok (h : Holds w0 w tb D n av) (hn : n + 1 ≤ 100000) (d : Int) (hd : (Lit.int .i64 d).wf = true) (s : List UInt8) (hs : s.length ≤ 1000000) (ha : Asc s) (x : Int) (hx : (Lit.int .i64 x).wf = true) (r : Int) (hr : linkE D.tab d s x = r) (D' : Doc) (hD : D.linked d s x = D') :
    Calls Try.prog 19 #[tabV tb, .int .i64 d, .string (bs s), .int .i64 x] w fun e w' => e = .returned (.int .i64 r) ∧ Holds w0 w' tb D' (n + 1) av ∧ Keeps av w w' := by
  have := holds_link h hn d hd s hs ha x hx
  rw [hr, hD] at this
  exact this
theorem unlink_ok (h : Holds w0 w tb D n av) (hn : n + 1 ≤ 100000) (d : Int) (hd : (Lit.int .i64 d).wf = true) (s : List UInt8) (hs : s.length ≤ maxLen) (r : Int) (hr : unlinkE D.tab d s = r) (D' : Doc) (hD : D.unlinked d s = D') :
    Calls Try.prog 17 #[tabV tb, .int .i64 d, .string (bs s)] w fun e w' => e = .returned (.int .i64 r) ∧ Holds w0 w' tb D' (n + 1) av ∧ Keeps av w w' := by
  have := holds_unlink h hn d hd s hs
  rw [hr, hD] at this
  exact this
theorem write_ok (h : Holds w0 w tb D n av) (hn : n + 1 ≤ 100000) (x : Int) (hx : (Lit.int .i64 x).wf = true) (dt : List UInt8) (hdt : dt.length ≤ 1000000000000) (r : Int) (hr : writeE D.tab x dt = r) (D' : Doc) (hD : D.written x dt = D') :
    Calls Try.prog 20 #[tabV tb, .int .i64 x, .string (bs dt)] w fun e w' => e = .returned (.int .i64 r) ∧ Holds w0 w' tb D' (n + 1) av ∧ Keeps av w w' := by
  have := holds_write h hn x hx dt hdt
  rw [hr, hD] at this
  exact this
theorem chmod_ok (h : Holds w0 w tb D n av) (hn : n + 1 ≤ 100000) (x : Int) (hx : (Lit.int .i64 x).wf = true) (m : Int) (r : Int) (hr : chmodE D.tab x m = r) (D' : Doc) (hD : D.chmoded x m = D') :
    Calls Try.prog 21 #[tabV tb, .int .i64 x, .int .i64 m] w fun e w' => e = .returned (.int .i64 r) ∧ Holds w0 w' tb D' (n + 1) av ∧ Keeps av w w' := by
  have := holds_chmod h hn x hx m
  rw [hr, hD] at this
  exact this
theorem move_ok (h : Holds w0 w tb D n av) (hn : n + 1 ≤ 100000) (d : Int) (hd : (Lit.int .i64 d).wf = true) (s : List UInt8) (hs : s.length ≤ maxLen) (x : Int) (hx : (Lit.int .i64 x).wf = true) (a : List UInt8) (ha : a.length ≤ 1000000) (hasc : Asc a) (r : Int) (D' : Doc) (hr : ∀ dp, D.Inv dp → moveR D.tab dp d s x a = r ∧ D.moved dp d s x a = D') :
    Calls Try.prog 16 #[tabV tb, .int .i64 d, .string (bs s), .int .i64 x, .string (bs a)] w fun e w' => e = .returned (.int .i64 r) ∧ Holds w0 w' tb D' (n + 1) av ∧ Keeps av w w' := by
  refine (holds_move h hn d hd s hs x hx a ha hasc).mono ?_
  rintro e w' ⟨dp, I, rfl, h2, k2⟩
  rw [(hr dp I).1]
  rw [(hr dp I).2] at h2
  exact ⟨rfl, h2, k2⟩
end
namespace Kn
def r2 : Row := ⟨2, 493, []⟩
def D0 : Doc := ⟨[r2], [], 4, 10⟩
def D1 : Doc := ⟨[r2, r2], [⟨1, [100], 2⟩], 4, 10⟩
def D2 : Doc := ⟨[r2, r2, ⟨1, 420, [104, 105]⟩], [⟨1, [100], 2⟩, ⟨2, [102], 3⟩], 4, 10⟩
def D3 : Doc := ⟨[r2, r2, ⟨1, 420, [104, 105]⟩], [⟨1, [100], 2⟩, ⟨2, [102], 3⟩, ⟨1, [103], 3⟩], 4, 10⟩
def ten : List UInt8 := [49, 50, 51, 52, 53, 54, 55, 56, 57, 48]
def D4 : Doc := ⟨[r2, r2, ⟨1, 420, ten⟩], [⟨1, [100], 2⟩, ⟨2, [102], 3⟩, ⟨1, [103], 3⟩], 4, 10⟩
def D5 : Doc := ⟨[r2, r2, ⟨1, 0, ten⟩], [⟨1, [100], 2⟩, ⟨2, [102], 3⟩, ⟨1, [103], 3⟩], 4, 10⟩
def D6 : Doc := ⟨[r2, r2, ⟨1, 0, ten⟩], [⟨1, [100], 2⟩, ⟨1, [103], 3⟩], 4, 10⟩
def D7 : Doc := ⟨[r2, r2, ⟨0, 0, []⟩], [⟨1, [100], 2⟩], 4, 10⟩
def s56 : List UInt8 := [49, 50, 51, 52, 53, 54, 55, 56, 57, 48, 49, 50, 51, 52, 53, 54, 55, 56, 57, 48, 49, 50, 51, 52, 53, 54, 55, 56, 57, 48, 49, 50, 51, 52, 53, 54, 55, 56, 57, 48, 49, 50, 51, 52, 53, 54, 55, 56, 57, 48, 49, 50, 51, 52, 53, 54]
def D8 : Doc := ⟨[r2, r2, ⟨0, 0, []⟩, ⟨3, 0, [120]⟩], [⟨1, [100], 2⟩, ⟨1, s56, 4⟩], 4, 10⟩
def D9 : Doc := ⟨[r2, r2, ⟨0, 0, []⟩, ⟨3, 0, [120]⟩, ⟨2, 0, []⟩], [⟨1, [100], 2⟩, ⟨1, s56, 4⟩, ⟨1, [97], 5⟩], 4, 10⟩
structure T where
  d : Int
  nm : List UInt8
  k : Int
  m : Int
  dt : List UInt8
  e : Int
def T.cells (t : T) : List Value := [.int .i64 t.d, .string (bs t.nm), .int .i64 t.k, .int .i64 t.m, .string (bs t.dt), .int .i64 t.e]
def q0 : T := ⟨9, [97], 1, 0, [], 5⟩
def q1 : T := ⟨1, [], 1, 0, [], 2⟩
def q2 : T := ⟨1, [46], 1, 0, [], 2⟩
def q3 : T := ⟨1, [46, 46], 1, 0, [], 2⟩
def q4 : T := ⟨1, [97, 47, 98], 1, 0, [], 2⟩
def q5 : T := ⟨1, [0], 1, 0, [], 2⟩
def q6 : T := ⟨1, [49, 50, 51, 52, 53, 54, 55, 56, 57, 48, 49, 50, 51, 52, 53, 54, 55, 56, 57, 48, 49, 50, 51, 52, 53, 54, 55, 56, 57, 48, 49, 50, 51, 52, 53, 54, 55, 56, 57, 48, 49, 50, 51, 52, 53, 54, 55, 56, 57, 48, 49, 50, 51, 52, 53, 54, 55], 1, 0, [], 3⟩
def q7 : T := ⟨1, [97], 0, 0, [], 2⟩
def q8 : T := ⟨1, [97], 4, 0, [], 2⟩
def q9 : T := ⟨1, [97], 1, -1, [], 2⟩
def q10 : T := ⟨1, [97], 2, 0, [120], 2⟩
def q11 : T := ⟨1, [97], 3, 0, [], 2⟩
def q12 : T := ⟨1, [97], 3, 0, [0], 2⟩
def q13 : T := ⟨1, [100], 1, 0, [], 6⟩
def q14 : T := ⟨1, [49, 50, 51, 52, 53, 54, 55, 56, 57, 48, 49, 50, 51, 52, 53, 54, 55, 56, 57, 48, 49, 50, 51, 52, 53, 54, 55, 56, 57, 48, 49, 50, 51, 52, 53, 54, 55, 56, 57, 48, 49, 50, 51, 52, 53, 54, 55, 56, 57, 48, 49, 50, 51, 52, 53, 54], 3, 0, [120], 0⟩
def q15 : T := ⟨4, [97], 1, 0, [], 8⟩
def q16 : T := ⟨1, [97], 2, 0, [], 0⟩
def q17 : T := ⟨1, [98], 2, 0, [], 10⟩
def ts : List T := [q0, q1, q2, q3, q4, q5, q6, q7, q8, q9, q10, q11, q12, q13, q14, q15, q16, q17]
def DK (k : Nat) : Doc := if k ≤ 14 then D7 else if k ≤ 16 then D8 else D9
def all (l : List T) : List Value := l.flatMap T.cells
theorem t0 : ts[0]? = some q0 := by kernel_rfl
theorem e0 : makeE (DK 0).tab q0.d q0.nm q0.k q0.m q0.dt = q0.e := by kernel_rfl
theorem d0 : (DK 0).made q0.d q0.nm q0.k q0.m q0.dt = DK 1 := by kernel_rfl
theorem t1 : ts[1]? = some q1 := by kernel_rfl
theorem e1 : makeE (DK 1).tab q1.d q1.nm q1.k q1.m q1.dt = q1.e := by kernel_rfl
theorem d1 : (DK 1).made q1.d q1.nm q1.k q1.m q1.dt = DK 2 := by kernel_rfl
theorem t2 : ts[2]? = some q2 := by kernel_rfl
theorem e2 : makeE (DK 2).tab q2.d q2.nm q2.k q2.m q2.dt = q2.e := by kernel_rfl
theorem d2 : (DK 2).made q2.d q2.nm q2.k q2.m q2.dt = DK 3 := by kernel_rfl
theorem t3 : ts[3]? = some q3 := by kernel_rfl
theorem e3 : makeE (DK 3).tab q3.d q3.nm q3.k q3.m q3.dt = q3.e := by kernel_rfl
theorem d3 : (DK 3).made q3.d q3.nm q3.k q3.m q3.dt = DK 4 := by kernel_rfl
theorem t4 : ts[4]? = some q4 := by kernel_rfl
theorem e4 : makeE (DK 4).tab q4.d q4.nm q4.k q4.m q4.dt = q4.e := by kernel_rfl
theorem d4 : (DK 4).made q4.d q4.nm q4.k q4.m q4.dt = DK 5 := by kernel_rfl
theorem t5 : ts[5]? = some q5 := by kernel_rfl
theorem e5 : makeE (DK 5).tab q5.d q5.nm q5.k q5.m q5.dt = q5.e := by kernel_rfl
theorem d5 : (DK 5).made q5.d q5.nm q5.k q5.m q5.dt = DK 6 := by kernel_rfl
theorem t6 : ts[6]? = some q6 := by kernel_rfl
theorem e6 : makeE (DK 6).tab q6.d q6.nm q6.k q6.m q6.dt = q6.e := by kernel_rfl
theorem d6 : (DK 6).made q6.d q6.nm q6.k q6.m q6.dt = DK 7 := by kernel_rfl
theorem t7 : ts[7]? = some q7 := by kernel_rfl
theorem e7 : makeE (DK 7).tab q7.d q7.nm q7.k q7.m q7.dt = q7.e := by kernel_rfl
theorem d7 : (DK 7).made q7.d q7.nm q7.k q7.m q7.dt = DK 8 := by kernel_rfl
theorem t8 : ts[8]? = some q8 := by kernel_rfl
theorem e8 : makeE (DK 8).tab q8.d q8.nm q8.k q8.m q8.dt = q8.e := by kernel_rfl
theorem d8 : (DK 8).made q8.d q8.nm q8.k q8.m q8.dt = DK 9 := by kernel_rfl
theorem t9 : ts[9]? = some q9 := by kernel_rfl
theorem e9 : makeE (DK 9).tab q9.d q9.nm q9.k q9.m q9.dt = q9.e := by kernel_rfl
theorem d9 : (DK 9).made q9.d q9.nm q9.k q9.m q9.dt = DK 10 := by kernel_rfl
theorem t10 : ts[10]? = some q10 := by kernel_rfl
theorem e10 : makeE (DK 10).tab q10.d q10.nm q10.k q10.m q10.dt = q10.e := by kernel_rfl
theorem d10 : (DK 10).made q10.d q10.nm q10.k q10.m q10.dt = DK 11 := by kernel_rfl
theorem t11 : ts[11]? = some q11 := by kernel_rfl
theorem e11 : makeE (DK 11).tab q11.d q11.nm q11.k q11.m q11.dt = q11.e := by kernel_rfl
theorem d11 : (DK 11).made q11.d q11.nm q11.k q11.m q11.dt = DK 12 := by kernel_rfl
theorem t12 : ts[12]? = some q12 := by kernel_rfl
theorem e12 : makeE (DK 12).tab q12.d q12.nm q12.k q12.m q12.dt = q12.e := by kernel_rfl
theorem d12 : (DK 12).made q12.d q12.nm q12.k q12.m q12.dt = DK 13 := by kernel_rfl
theorem t13 : ts[13]? = some q13 := by kernel_rfl
theorem e13 : makeE (DK 13).tab q13.d q13.nm q13.k q13.m q13.dt = q13.e := by kernel_rfl
theorem d13 : (DK 13).made q13.d q13.nm q13.k q13.m q13.dt = DK 14 := by kernel_rfl
theorem t14 : ts[14]? = some q14 := by kernel_rfl
theorem e14 : makeE (DK 14).tab q14.d q14.nm q14.k q14.m q14.dt = q14.e := by kernel_rfl
theorem d14 : (DK 14).made q14.d q14.nm q14.k q14.m q14.dt = DK 15 := by kernel_rfl
theorem t15 : ts[15]? = some q15 := by kernel_rfl
theorem e15 : makeE (DK 15).tab q15.d q15.nm q15.k q15.m q15.dt = q15.e := by kernel_rfl
theorem d15 : (DK 15).made q15.d q15.nm q15.k q15.m q15.dt = DK 16 := by kernel_rfl
theorem t16 : ts[16]? = some q16 := by kernel_rfl
theorem e16 : makeE (DK 16).tab q16.d q16.nm q16.k q16.m q16.dt = q16.e := by kernel_rfl
theorem d16 : (DK 16).made q16.d q16.nm q16.k q16.m q16.dt = DK 17 := by kernel_rfl
theorem t17 : ts[17]? = some q17 := by kernel_rfl
theorem e17 : makeE (DK 17).tab q17.d q17.nm q17.k q17.m q17.dt = q17.e := by kernel_rfl
theorem d17 : (DK 17).made q17.d q17.nm q17.k q17.m q17.dt = DK 18 := by kernel_rfl
theorem step (k : Nat) (hk : k < 18) : ∃ t : T, ts[k]? = some t ∧ makeE (DK k).tab t.d t.nm t.k t.m t.dt = t.e ∧ (DK k).made t.d t.nm t.k t.m t.dt = DK (k + 1) ∧ t.nm.length ≤ 57 ∧ asc t.nm = true ∧ t.dt.length ≤ 57 ∧ (Lit.int .i64 t.d).wf = true := by
  match k, hk with
  | 0, _ => exact ⟨_, t0, e0, d0, by decide, by decide, by decide, by decide⟩
  | 1, _ => exact ⟨_, t1, e1, d1, by decide, by decide, by decide, by decide⟩
  | 2, _ => exact ⟨_, t2, e2, d2, by decide, by decide, by decide, by decide⟩
  | 3, _ => exact ⟨_, t3, e3, d3, by decide, by decide, by decide, by decide⟩
  | 4, _ => exact ⟨_, t4, e4, d4, by decide, by decide, by decide, by decide⟩
  | 5, _ => exact ⟨_, t5, e5, d5, by decide, by decide, by decide, by decide⟩
  | 6, _ => exact ⟨_, t6, e6, d6, by decide, by decide, by decide, by decide⟩
  | 7, _ => exact ⟨_, t7, e7, d7, by decide, by decide, by decide, by decide⟩
  | 8, _ => exact ⟨_, t8, e8, d8, by decide, by decide, by decide, by decide⟩
  | 9, _ => exact ⟨_, t9, e9, d9, by decide, by decide, by decide, by decide⟩
  | 10, _ => exact ⟨_, t10, e10, d10, by decide, by decide, by decide, by decide⟩
  | 11, _ => exact ⟨_, t11, e11, d11, by decide, by decide, by decide, by decide⟩
  | 12, _ => exact ⟨_, t12, e12, d12, by decide, by decide, by decide, by decide⟩
  | 13, _ => exact ⟨_, t13, e13, d13, by decide, by decide, by decide, by decide⟩
  | 14, _ => exact ⟨_, t14, e14, d14, by decide, by decide, by decide, by decide⟩
  | 15, _ => exact ⟨_, t15, e15, d15, by decide, by decide, by decide, by decide⟩
  | 16, _ => exact ⟨_, t16, e16, d16, by decide, by decide, by decide, by decide⟩
  | 17, _ => exact ⟨_, t17, e17, d17, by decide, by decide, by decide, by decide⟩
  | n + 18, h => exact absurd h (by omega)
theorem cells6 {l : List T} {k : Nat} {t : T} (h : l[k]? = some t) (j : Nat) (hj : j < 6) : (all l)[6 * k + j]? = t.cells[j]? := by
  induction l generalizing k with
  | nil => cases h
  | cons a r ih =>
    have e : all (a :: r) = a.cells ++ all r := by unfold all; simp
    have hl : a.cells.length = 6 := rfl
    rw [e]
    cases k with
    | zero =>
      simp only [List.getElem?_cons_zero, Option.some.injEq] at h
      subst h
      rw [List.getElem?_append_left (by omega)]
      congr 1
      omega
    | succ k =>
      simp only [List.getElem?_cons_succ] at h
      rw [List.getElem?_append_right (by omega), hl, ← ih h]
      congr 1
      omega
theorem addr_add (g k j : Nat) : ((⟨g, 0, none⟩ : Addr).add k).add j = ⟨g, k + j, none⟩ := by
  rw [Addr.add0]
  unfold Addr.add
  split <;> simp_all
theorem mv1 (dp : Int → Nat) : moveR D3.tab dp 2 [102] 1 [100] = 6 ∧ D3.moved dp 2 [102] 1 [100] = D3 := ⟨by kernel_rfl, by kernel_rfl⟩
theorem mv2 (dp : Int → Nat) : moveR D3.tab dp 1 [100] 2 [120] = 2 ∧ D3.moved dp 1 [100] 2 [120] = D3 := by
  have e1 : moveE D3.tab 1 [100] 2 [120] = 0 := by kernel_rfl
  have e2 : moveF D3.tab dp 1 [100] 2 [120] = aboveE D3.tab 2 dp 2 := by kernel_rfl
  rw [above_here] at e2
  refine ⟨?_, ?_⟩
  · unfold moveR; rw [e1, e2]; rfl
  · unfold Doc.moved; rw [e1, e2]; rfl
theorem mv3 (dp : Int → Nat) : moveR D3.tab dp 1 [100] 1 [100] = 0 ∧ D3.moved dp 1 [100] 1 [100] = D3 := ⟨by kernel_rfl, by kernel_rfl⟩
theorem mv4 (dp : Int → Nat) : moveR D9.tab dp 4 [97] 1 [98] = 8 ∧ D9.moved dp 4 [97] 1 [98] = D9 := ⟨by kernel_rfl, by kernel_rfl⟩
theorem mv5 (dp : Int → Nat) : moveR D9.tab dp 1 [110, 111] 1 [98] = 5 ∧ D9.moved dp 1 [110, 111] 1 [98] = D9 := ⟨by kernel_rfl, by kernel_rfl⟩
end Kn
end Go.Proofs.Ytgifdmfnecombaa
