/-
  NARROWER THAN 'FOR EVERY INPUT', by the rows' own cells (each row's printed sentence says how): NarLays: loops · NarBack: loops · NarSize: loops.
  DERIVED. THE GIVEN ROWS OF THIS SEAT. 6 by the template 'for every input the law returns true; each argument reads behind the call as it read before'; 0 by the template 'total and deterministic' (their statements: YtdpeblchndfdaaaTotals.lean).
  GIVEN WITH THE SEED: the statements are not yours to turn. If you find one false, say at which input.
  Laid BY PROGRAM, IN A SANDBOX (cutbox-rows.mjs): the forced cells as the released guide's own fill.sh prints them over the translation f73421c0316154e6… (all of the seat's roots in one cut). By AI agents, Wed Nov 11 2026. No macro, syntax, notation, axiom, sorry.
-/
import Derived.Test.YtdpeblchndfdaaaChecked
import GoSem.Claim
import GoSem.ClaimJoined
import GoSem.ClaimMapViews
import Derived.JoinedTies
import Derived.KernelRfl
namespace Go.Proofs.Ytdpeblchndfdaaa
/- THE CELL 'sum', in the pinned program and in every row, IS THE sha256 OF THE DUMP (.gsa) THAT YtdpeblchndfdaaaProg.lean LOADS. Nothing in Lean hashes anything: it is a label: what it is worth is what the hold of that sum in a sandbox is worth. -/
noncomputable def Try.pinned : Pinned := { name := "ytdpeblchndfdaaa", sum := "f73421c0316154e6db005ffa7ea127ce3a4e0b1938caec23970f5469ea140df0", checked := Try.checked }
namespace Rows
def none {H : Type} : Left H := { results := [], args := [] }

/-- 'whisklaw09.NarLays': WHATEVER THE INPUT: true; the input reads as it did. -/
def narLaysSpec : ChangeSpec := { name := "narLays", fn := fun _ => fun
  | [d] => { results := [.lit (.bool true)], args := [d] }
  | _ => none }
def narLaysRow : OpenClaim := { program := "ytdpeblchndfdaaa", sum := "f73421c0316154e6db005ffa7ea127ce3a4e0b1938caec23970f5469ea140df0", func := "whisk/whisklaw09.NarLays", spec := "narLays", inPlace := ["internal/bytealg.IndexByteString", "internal/bytealg.IndexString", "internal/abi.NoEscape"], unfollowed := true, recurses := true, named := ["internal/bytealg.MaxLen"], loops := true, apart := false }
def NarLaysSaid : Prop := narLaysRow.holds Try.pinned (OpenSpec.ofChange narLaysSpec)

/-- ITS FALSE NEIGHBOUR: 'it returns false'. Refute it at one input. -/
def narLaysWrong : ChangeSpec := { name := "narLays", fn := fun _ => fun
  | [d] => { results := [.lit (.bool false)], args := [d] }
  | _ => none }
def NarLaysWrongFalsely : Prop := narLaysRow.holds Try.pinned (OpenSpec.ofChange narLaysWrong)

/-- 'whisklaw09.NarReads': WHATEVER THE INPUT: true; the input reads as it did. -/
def narReadsSpec : ChangeSpec := { name := "narReads", fn := fun _ => fun
  | [d] => { results := [.lit (.bool true)], args := [d] }
  | _ => none }
def narReadsRow : OpenClaim := { program := "ytdpeblchndfdaaa", sum := "f73421c0316154e6db005ffa7ea127ce3a4e0b1938caec23970f5469ea140df0", func := "whisk/whisklaw09.NarReads", spec := "narReads", inPlace := ["internal/bytealg.IndexByteString", "internal/bytealg.IndexString", "internal/abi.NoEscape"], unfollowed := true, recurses := true, named := ["internal/bytealg.MaxLen"], apart := false }
def NarReadsSaid : Prop := narReadsRow.holds Try.pinned (OpenSpec.ofChange narReadsSpec)

/-- ITS FALSE NEIGHBOUR: 'it returns false'. Refute it at one input. -/
def narReadsWrong : ChangeSpec := { name := "narReads", fn := fun _ => fun
  | [d] => { results := [.lit (.bool false)], args := [d] }
  | _ => none }
def NarReadsWrongFalsely : Prop := narReadsRow.holds Try.pinned (OpenSpec.ofChange narReadsWrong)

/-- 'whisklaw09.NarBack': WHATEVER THE INPUT: true; the input reads as it did. -/
def narBackSpec : ChangeSpec := { name := "narBack", fn := fun _ => fun
  | [d1, d2] => { results := [.lit (.bool true)], args := [d1, d2] }
  | _ => none }
def narBackRow : OpenClaim := { program := "ytdpeblchndfdaaa", sum := "f73421c0316154e6db005ffa7ea127ce3a4e0b1938caec23970f5469ea140df0", func := "whisk/whisklaw09.NarBack", spec := "narBack", inPlace := ["internal/bytealg.IndexByteString", "internal/bytealg.IndexString", "internal/abi.NoEscape"], unfollowed := true, recurses := true, named := ["internal/bytealg.MaxLen"], loops := true, apart := false }
def NarBackSaid : Prop := narBackRow.holds Try.pinned (OpenSpec.ofChange narBackSpec)

/-- ITS FALSE NEIGHBOUR: 'it returns false'. Refute it at one input. -/
def narBackWrong : ChangeSpec := { name := "narBack", fn := fun _ => fun
  | [d1, d2] => { results := [.lit (.bool false)], args := [d1, d2] }
  | _ => none }
def NarBackWrongFalsely : Prop := narBackRow.holds Try.pinned (OpenSpec.ofChange narBackWrong)

/-- 'whisklaw09.NarOne': WHATEVER THE INPUT: true; the input reads as it did. -/
def narOneSpec : ChangeSpec := { name := "narOne", fn := fun _ => fun
  | [d1, d2, d3] => { results := [.lit (.bool true)], args := [d1, d2, d3] }
  | _ => none }
def narOneRow : OpenClaim := { program := "ytdpeblchndfdaaa", sum := "f73421c0316154e6db005ffa7ea127ce3a4e0b1938caec23970f5469ea140df0", func := "whisk/whisklaw09.NarOne", spec := "narOne", inPlace := ["internal/bytealg.IndexByteString", "internal/bytealg.IndexString", "internal/abi.NoEscape"], unfollowed := true, recurses := true, named := ["internal/bytealg.MaxLen"], apart := false }
def NarOneSaid : Prop := narOneRow.holds Try.pinned (OpenSpec.ofChange narOneSpec)

/-- ITS FALSE NEIGHBOUR: 'it returns false'. Refute it at one input. -/
def narOneWrong : ChangeSpec := { name := "narOne", fn := fun _ => fun
  | [d1, d2, d3] => { results := [.lit (.bool false)], args := [d1, d2, d3] }
  | _ => none }
def NarOneWrongFalsely : Prop := narOneRow.holds Try.pinned (OpenSpec.ofChange narOneWrong)

/-- 'whisklaw09.NarKnown': WHATEVER THE INPUT: true; the input reads as it did. -/
def narKnownSpec : ChangeSpec := { name := "narKnown", fn := fun _ => fun
  | [] => { results := [.lit (.bool true)], args := [] }
  | _ => none }
def narKnownRow : OpenClaim := { program := "ytdpeblchndfdaaa", sum := "f73421c0316154e6db005ffa7ea127ce3a4e0b1938caec23970f5469ea140df0", func := "whisk/whisklaw09.NarKnown", spec := "narKnown", inPlace := ["internal/bytealg.IndexByteString", "internal/bytealg.IndexString", "internal/abi.NoEscape"], unfollowed := true, recurses := true, named := ["internal/bytealg.MaxLen"], apart := false }
def NarKnownSaid : Prop := narKnownRow.holds Try.pinned (OpenSpec.ofChange narKnownSpec)

/-- ITS FALSE NEIGHBOUR: 'it returns false'. Refute it at one input. -/
def narKnownWrong : ChangeSpec := { name := "narKnown", fn := fun _ => fun
  | [] => { results := [.lit (.bool false)], args := [] }
  | _ => none }
def NarKnownWrongFalsely : Prop := narKnownRow.holds Try.pinned (OpenSpec.ofChange narKnownWrong)

/-- 'whisklaw09.NarSize': WHATEVER THE INPUT: true; the input reads as it did. -/
def narSizeSpec : ChangeSpec := { name := "narSize", fn := fun _ => fun
  | [d] => { results := [.lit (.bool true)], args := [d] }
  | _ => none }
def narSizeRow : OpenClaim := { program := "ytdpeblchndfdaaa", sum := "f73421c0316154e6db005ffa7ea127ce3a4e0b1938caec23970f5469ea140df0", func := "whisk/whisklaw09.NarSize", spec := "narSize", inPlace := ["internal/bytealg.IndexByteString", "internal/bytealg.IndexString", "internal/abi.NoEscape"], unfollowed := true, recurses := true, named := ["internal/bytealg.MaxLen"], loops := true, apart := false }
def NarSizeSaid : Prop := narSizeRow.holds Try.pinned (OpenSpec.ofChange narSizeSpec)

/-- ITS FALSE NEIGHBOUR: 'it returns false'. Refute it at one input. -/
def narSizeWrong : ChangeSpec := { name := "narSize", fn := fun _ => fun
  | [d] => { results := [.lit (.bool false)], args := [d] }
  | _ => none }
def NarSizeWrongFalsely : Prop := narSizeRow.holds Try.pinned (OpenSpec.ofChange narSizeWrong)

/- THE SECOND FORM. 'bulk': how many values and letters a reading holds, each counted each time it is reached (what is shared counts as often as it is met; a slice's spare places count too). A statement '..UptoSaid' is the law's where the arguments, and the package variables that the reading takes, are together of bulk at most 1048576: NARROWER than '..Said'. Prove '..Said' where nothing that the law and all that it calls make is longer than what came in: it says more and counts as full. Else prove '..UptoSaid'. A law counts once. -/
mutual
def uptoBulk {H : Type} : DataW H → Nat
  | .lit (.string bytes) => bytes.length + 1
  | .lit _ => 1
  | .nil => 1
  | .ptr d => uptoBulk d + 1
  | .slice elems spare => uptoBulkAll elems + uptoBulkAll spare + 1
  | .agg parts => uptoBulkAll parts + 1
  | .iface _ d => uptoBulk d + 1
  | .map entries => uptoBulkEntries entries + 1
  | .held _ => 1
def uptoBulkAll {H : Type} : List (DataW H) → Nat
  | [] => 0
  | d :: r => uptoBulk d + uptoBulkAll r
def uptoBulkEntries {H : Type} : List (Lit × DataW H) → Nat
  | [] => 0
  | x :: r => uptoBulkEntry x + uptoBulkEntries r
def uptoBulkEntry {H : Type} : Lit × DataW H → Nat
  | (.string bytes, d) => bytes.length + uptoBulk d + 1
  | (_, d) => uptoBulk d + 1
 end
def uptoSmall : (H : Type) → List (DataW H) → Bool := fun _ ds => decide (uptoBulkAll ds ≤ 1048576)
def OpenSpec.upto (s : _root_.Go.ChangeSpec) : _root_.Go.OpenSpec := { _root_.Go.OpenSpec.ofChange s with cond := some uptoSmall }

/-- 'whisklaw09.NarLays', WHERE WHAT IT READS IS OF BULK AT MOST 1048576: true; the input reads as it did. -/
def narLaysUptoRow : OpenClaim := { program := "ytdpeblchndfdaaa", sum := "f73421c0316154e6db005ffa7ea127ce3a4e0b1938caec23970f5469ea140df0", func := "whisk/whisklaw09.NarLays", spec := "narLays", inPlace := ["internal/bytealg.IndexByteString", "internal/bytealg.IndexString", "internal/abi.NoEscape"], unfollowed := true, recurses := true, named := ["internal/bytealg.MaxLen"], loops := true, apart := false, narrowed := true }
def NarLaysUptoSaid : Prop := narLaysUptoRow.holds Try.pinned (OpenSpec.upto narLaysSpec)

/-- 'whisklaw09.NarReads', WHERE WHAT IT READS IS OF BULK AT MOST 1048576: true; the input reads as it did. -/
def narReadsUptoRow : OpenClaim := { program := "ytdpeblchndfdaaa", sum := "f73421c0316154e6db005ffa7ea127ce3a4e0b1938caec23970f5469ea140df0", func := "whisk/whisklaw09.NarReads", spec := "narReads", inPlace := ["internal/bytealg.IndexByteString", "internal/bytealg.IndexString", "internal/abi.NoEscape"], unfollowed := true, recurses := true, named := ["internal/bytealg.MaxLen"], apart := false, narrowed := true }
def NarReadsUptoSaid : Prop := narReadsUptoRow.holds Try.pinned (OpenSpec.upto narReadsSpec)

/-- 'whisklaw09.NarBack', WHERE WHAT IT READS IS OF BULK AT MOST 1048576: true; the input reads as it did. -/
def narBackUptoRow : OpenClaim := { program := "ytdpeblchndfdaaa", sum := "f73421c0316154e6db005ffa7ea127ce3a4e0b1938caec23970f5469ea140df0", func := "whisk/whisklaw09.NarBack", spec := "narBack", inPlace := ["internal/bytealg.IndexByteString", "internal/bytealg.IndexString", "internal/abi.NoEscape"], unfollowed := true, recurses := true, named := ["internal/bytealg.MaxLen"], loops := true, apart := false, narrowed := true }
def NarBackUptoSaid : Prop := narBackUptoRow.holds Try.pinned (OpenSpec.upto narBackSpec)

/-- 'whisklaw09.NarOne', WHERE WHAT IT READS IS OF BULK AT MOST 1048576: true; the input reads as it did. -/
def narOneUptoRow : OpenClaim := { program := "ytdpeblchndfdaaa", sum := "f73421c0316154e6db005ffa7ea127ce3a4e0b1938caec23970f5469ea140df0", func := "whisk/whisklaw09.NarOne", spec := "narOne", inPlace := ["internal/bytealg.IndexByteString", "internal/bytealg.IndexString", "internal/abi.NoEscape"], unfollowed := true, recurses := true, named := ["internal/bytealg.MaxLen"], apart := false, narrowed := true }
def NarOneUptoSaid : Prop := narOneUptoRow.holds Try.pinned (OpenSpec.upto narOneSpec)

/-- 'whisklaw09.NarKnown', WHERE WHAT IT READS IS OF BULK AT MOST 1048576: true; the input reads as it did. -/
def narKnownUptoRow : OpenClaim := { program := "ytdpeblchndfdaaa", sum := "f73421c0316154e6db005ffa7ea127ce3a4e0b1938caec23970f5469ea140df0", func := "whisk/whisklaw09.NarKnown", spec := "narKnown", inPlace := ["internal/bytealg.IndexByteString", "internal/bytealg.IndexString", "internal/abi.NoEscape"], unfollowed := true, recurses := true, named := ["internal/bytealg.MaxLen"], apart := false, narrowed := true }
def NarKnownUptoSaid : Prop := narKnownUptoRow.holds Try.pinned (OpenSpec.upto narKnownSpec)

/-- 'whisklaw09.NarSize', WHERE WHAT IT READS IS OF BULK AT MOST 1048576: true; the input reads as it did. -/
def narSizeUptoRow : OpenClaim := { program := "ytdpeblchndfdaaa", sum := "f73421c0316154e6db005ffa7ea127ce3a4e0b1938caec23970f5469ea140df0", func := "whisk/whisklaw09.NarSize", spec := "narSize", inPlace := ["internal/bytealg.IndexByteString", "internal/bytealg.IndexString", "internal/abi.NoEscape"], unfollowed := true, recurses := true, named := ["internal/bytealg.MaxLen"], loops := true, apart := false, narrowed := true }
def NarSizeUptoSaid : Prop := narSizeUptoRow.holds Try.pinned (OpenSpec.upto narSizeSpec)

end Rows
end Go.Proofs.Ytdpeblchndfdaaa
