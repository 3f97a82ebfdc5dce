/- Sets of bytes as maps; which bytes a place of a disk may have. -/
import Derived.Test.YtcmojlfhkbkfcaaDv
import Derived.Maps.OwnOps
import Derived.Maps.Views
namespace Go.Proofs.Ytcmojlfhkbkfcaa
open Go.RowKit Go.Maps

theorem keyU8 : Keyed Try.prog 5 := int_keyed Try.underlying5
theorem wfU8 (c : UInt8) : (Lit.int .u8 (c.toNat : Int)).wf = true := by have := c.toNat_lt; simp [Lit.wf, IntKind.min, IntKind.max, IntKind.signed, IntKind.bits]; omega
theorem keyOfU8 (c : UInt8) : keyOf Try.prog 5 (.int .u8 (c.toNat : Int)) = some (.int .u8 (c.toNat : Int)) := keyOf_int_mk Try.underlying5 (wfU8 c)
theorem zeroB (w : World) : (zeroValue 4).run Try.prog w = .ok (.bool false) w := by kernel_rfl
def yes : DataW Unit := .lit (.bool true)
def no : DataW Unit := .lit (.bool false)
/-- the map at b has at most n entries, and has all of S -/
def MapHas (w : World) (b n : Nat) (S : UInt8 → Prop) : Prop :=
  ∃ D : DataW Unit, IsMap D ∧ w.ownsMap Try.prog 5 (plainElem Try.prog 4) b n D ∧ ∀ c, S c → D.atKey (.int .u8 (c.toNat : Int)) no = yes
theorem MapHas.sub {w : World} {b n : Nat} {S T : UInt8 → Prop} (h : MapHas w b n S) (hs : ∀ c, T c → S c) : MapHas w b n T := by
  obtain ⟨D, h1, h2, h3⟩ := h
  exact ⟨D, h1, h2, fun c hc => h3 c (hs c hc)⟩
theorem MapHas.mono {w : World} {b n m : Nat} {S : UInt8 → Prop} (h : MapHas w b n S) (hm : n ≤ m) : MapHas w b m S := by
  obtain ⟨D, h1, h2, h3⟩ := h
  exact ⟨D, h1, h2.mono hm, h3⟩
theorem MapHas.lt {w : World} {b n : Nat} {S : UInt8 → Prop} (h : MapHas w b n S) : b < w.heap.size := by
  obtain ⟨D, h1, h2, h3⟩ := h
  exact World.ownsMap.lt h2
theorem MapHas.eq {w w' : World} {b n : Nat} {S : UInt8 → Prop} (h : MapHas w b n S) (e : w'.heap[b]? = w.heap[b]?) : MapHas w' b n S := by
  obtain ⟨D, h1, ⟨es, clock, h2, h4⟩, h3⟩ := h
  exact ⟨D, h1, ⟨es, clock, e.trans h2, h4⟩, h3⟩
theorem MapHas.touch {ft : List Nat} {w w' : World} {b n : Nat} {S : UInt8 → Prop} (h : MapHas w b n S) (k : Touch ft w w') (hne : b ∉ ft) : MapHas w' b n S := h.eq (k.block b h.lt hne)
theorem MapHas.noCells {w : World} {b n B : Nat} {S : UInt8 → Prop} {T : TypeId} {l : List Value} (h : MapHas w b n S) (hB : At w B T l) : b ≠ B := fun e => by
  subst e
  obtain ⟨D, h1, ⟨es, clock, h2, h4⟩, h3⟩ := h
  unfold At at hB
  rw [hB] at h2
  cases h2
theorem MapHas.made (w : World) : MapHas (w.alloc (.map #[] 0)) w.heap.size 0 (fun _ => False) :=
  ⟨.map [], ⟨_, rfl⟩, World.ownsMap_made _ _ _ _, fun _ h => h.elim⟩
theorem MapHas.put {w : World} {b n : Nat} {S : UInt8 → Prop} (h : MapHas w b n S) (hn : n < maxLen) (c : UInt8) :
    ∃ w', (Instr.mapUpdate 48 (.map (some b)) (.int .u8 (c.toNat : Int)) (.bool true)).run Try.prog w = .ok () w' ∧ MapHas w' b (n + 1) (fun x => S x ∨ x = c) ∧ Touch [b] w w' := by
  obtain ⟨D, h1, h2, h3⟩ := h
  obtain ⟨w', hrun, ho, hg⟩ := World.ownsMap.update h2 keyU8 Try.underlying48 hn (keyOfU8 c) (plainElem_bool Try.underlying4 true)
  refine ⟨w', hrun, ⟨_, IsMap.put h1 _ _, ho, fun x hx => ?_⟩, ⟨hg.os, hg.tape, hg.output, hg.size, fun k hk hne => hg.block k hk (fun e => hne (by cases e; simp))⟩⟩
  by_cases e : x = c
  · subst e
    exact atKey_put_same h1 (keyU8.key (keyOfU8 x)) _ _
  · rw [atKey_put_other (fun e2 => e (by
      injection e2 with _ e3
      exact UInt8.toNat_inj.1 (by omega)))]
    exact h3 x (hx.resolve_right e)
theorem MapHas.ask {w : World} {b n : Nat} {S : UInt8 → Prop} (h : MapHas w b n S) (c : UInt8) (hc : S c) :
    (Instr.lookup 48 (.map (some b)) (.int .u8 (c.toNat : Int)) false).run Try.prog w = .ok (.bool true) w := by
  obtain ⟨D, h1, h2, h3⟩ := h
  obtain ⟨v, ps, hrun, hv⟩ := World.ownsMap.lookup h2 keyU8 Try.underlying48 (zeroB w) (plainElem_bool Try.underlying4 false) (keyOfU8 c)
  have h4 := h3 c hc
  unfold no yes at h4
  rw [h4] at hv
  have e : v = .bool true := by
    unfold plainElem at hv
    rw [Try.underlying4] at hv
    cases v <;> simp at hv
    rw [hv.1]
  rw [hrun, e]

/-- the bytes that a place may have -/
def Must (s : Dk) (k i : Nat) (c : UInt8) : Prop := (s.fl[k]?.getD [])[i]? = some c ∨ ∃ x ∈ s.ws, x.1 = k ∧ x.2[i]? = some c
theorem putAll_byte (k i : Nat) (c : UInt8) : ∀ (ws : List (Nat × List UInt8)) (fl : List (List UInt8)), ((putAll fl ws)[k]?.getD [])[i]? = some c → (fl[k]?.getD [])[i]? = some c ∨ ∃ x ∈ ws, x.1 = k ∧ x.2[i]? = some c
  | [], _, h => .inl h
  | p :: r, fl, h => by
    have e : putAll fl (p :: r) = putAll (fl.set p.1 p.2) r := rfl
    rw [e] at h
    rcases putAll_byte k i c r _ h with h | ⟨x, hx, h⟩
    · by_cases hp : p.1 = k
      · subst hp
        by_cases hl : p.1 < fl.length
        · rw [List.getElem?_set_self hl, Option.getD_some] at h
          exact .inr ⟨p, by simp, rfl, h⟩
        · rw [List.set_eq_of_length_le (by omega)] at h
          exact .inl h
      · rw [List.getElem?_set_ne hp] at h
        exact .inl h
    · exact .inr ⟨x, by simp [hx], h⟩
theorem must_nw (s : Dk) (k i : Nat) (c : UInt8) (h : (s.nw[k]?.getD [])[i]? = some c) : Must s k i c := putAll_byte k i c s.ws s.fl h
theorem over_byte (b was : List UInt8) (f i : Nat) (c : UInt8) (hl : stay f ≤ b.length) (h : (over b was f)[i]? = some c) : b[i]? = some c ∨ was[i]? = some c := by
  unfold over at h
  by_cases hi : i < stay f
  · rw [List.getElem?_append_left (by rw [List.length_take]; omega), List.getElem?_take, if_pos hi] at h
    exact .inl h
  · rw [List.getElem?_append_right (by rw [List.length_take]; omega), List.getElem?_drop, List.length_take] at h
    right
    rw [← h]
    congr 1
    omega
theorem fated_byte (k i : Nat) (c : UInt8) : ∀ (l : List ((Nat × List UInt8) × UInt8)) (fl : List (List UInt8)), (∀ p ∈ l, p.1.2.length = 128) → ((fated fl l)[k]?.getD [])[i]? = some c → (fl[k]?.getD [])[i]? = some c ∨ ∃ p ∈ l, p.1.1 = k ∧ p.1.2[i]? = some c
  | [], _, _, h => .inl h
  | p :: r, fl, h128, h => by
    have e : fated fl (p :: r) = fated (fl.set p.1.1 (over p.1.2 (fl[p.1.1]?.getD []) p.2.toNat)) r := rfl
    rw [e] at h
    rcases fated_byte k i c r _ (fun q hq => h128 q (by simp [hq])) h with h | ⟨x, hx, h⟩
    · by_cases hp : p.1.1 = k
      · subst hp
        by_cases hl : p.1.1 < fl.length
        · rw [List.getElem?_set_self hl, Option.getD_some] at h
          rcases over_byte _ _ _ _ _ (by rw [h128 p (by simp)]; exact stay_le _ (toNat_lt _)) h with h | h
          · exact .inr ⟨p, by simp, rfl, h⟩
          · exact .inl h
        · rw [List.set_eq_of_length_le (by omega)] at h
          exact .inl h
      · rw [List.getElem?_set_ne hp] at h
        exact .inl h
    · exact .inr ⟨x, by simp [hx], h⟩
/-- behind a power that went and came -/
theorem must_wake {m : Nat} {s : Dk} (h : Calm m s) (h128 : ∀ x ∈ s.ws, x.2.length = 128) (fs : List UInt8) (k i : Nat) (c : UInt8) (hm : Must (s.cut.wake fs) k i c) : Must s k i c := by
  rw [h.again] at hm
  rcases hm with hm | ⟨x, hx, _⟩
  · rcases fated_byte k i c (s.ws.zip fs) s.fl (fun p hp => h128 p.1 (List.of_mem_zip hp).1) hm with h | ⟨p, hp, h1, h2⟩
    · exact .inl h
    · exact .inr ⟨p.1, (List.of_mem_zip hp).1, h1, h2⟩
  · simp at hx
/-- behind a flush -/
theorem must_flush {m : Nat} {s : Dk} (h : Calm m s) (k i : Nat) (c : UInt8) (hm : Must s.flushD k i c) : (s.nw[k]?.getD [])[i]? = some c := by
  rw [h.flush.1] at hm
  rcases hm with hm | ⟨x, hx, _⟩
  · exact hm
  · simp at hx
theorem nw_flush {m : Nat} {s : Dk} (h : Calm m s) : s.flushD.nw = s.nw := by
  rw [h.flush.1]; rfl
theorem pad_rep (b : UInt8) : pad (List.replicate 128 b) = List.replicate 128 b := by
  unfold pad
  rw [List.length_replicate, Nat.sub_self, List.replicate_zero, List.append_nil]
/-- behind a write of one byte all over -/
theorem must_write {m : Nat} {s : Dk} (h : Calm m s) (q : Nat) (hq : q < 4) (b : UInt8) (k i : Nat) (c : UInt8) (hm : Must (s.writeD 4 (q : Int) (List.replicate 128 b)) k i c) : Must s k i c ∨ (k = q ∧ c = b) := by
  rw [(h.write 4 q _ hq (by simp)).1] at hm
  rcases hm with hm | ⟨x, hx, h1, h2⟩
  · exact .inl (.inl hm)
  · simp only [List.mem_append, List.mem_singleton] at hx
    rcases hx with hx | rfl
    · exact .inl (.inr ⟨x, hx, h1, h2⟩)
    · right
      refine ⟨h1.symm, ?_⟩
      rw [pad_rep] at h2
      exact List.eq_of_mem_replicate (List.mem_of_getElem? h2)
theorem nw_write {m : Nat} {s : Dk} (h : Calm m s) (q : Nat) (hq : q < 4) (b : UInt8) : (s.writeD 4 (q : Int) (List.replicate 128 b)).nw = s.nw.set q (List.replicate 128 b) := by
  rw [(h.write 4 q _ hq (by simp)).1]
  have : pad (List.replicate 128 b) = List.replicate 128 b := pad_rep b
  show putAll s.fl (s.ws ++ [(q, pad (List.replicate 128 b))]) = _
  rw [putAll_snoc, this]
  rfl
end Go.Proofs.Ytcmojlfhkbkfcaa
