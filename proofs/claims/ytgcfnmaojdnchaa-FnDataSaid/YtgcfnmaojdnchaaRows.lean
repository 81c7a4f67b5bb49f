/-
  No cell of these rows narrows 'for every input' (looked for: loops, veiled, ifaces, maps, wideKeys, modest, calm, conditions, laid).
  DERIVED. THE GIVEN ROWS OF THIS SEAT. 8 by the template 'for every input the law returns true; each argument reads behind the call as it read before'; 0 by the template 'total and deterministic' (their statements: YtgcfnmaojdnchaaTotals.lean).
  GIVEN WITH THE SEED: the statements are not yours to turn. If you find one false, say at which input.
  Laid BY PROGRAM, IN A SANDBOX (cutbox-rows.mjs): the forced cells as the released guide's own fill.sh prints them over the translation 67a9d2c2faa78f31… (all of the seat's roots in one cut). By AI agents, Wed Nov 11 2026. No macro, syntax, notation, axiom, sorry.
-/
import Derived.Test.YtgcfnmaojdnchaaChecked
import GoSem.Claim
import GoSem.ClaimJoined
import GoSem.ClaimMapViews
import Derived.JoinedTies
import Derived.KernelRfl
namespace Go.Proofs.Ytgcfnmaojdnchaa
/- THE CELL 'sum', in the pinned program and in every row, IS THE sha256 OF THE DUMP (.gsa) THAT YtgcfnmaojdnchaaProg.lean LOADS. Nothing in Lean hashes anything: it is a label: what it is worth is what the hold of that sum in a sandbox is worth. -/
noncomputable def Try.pinned : Pinned := { name := "ytgcfnmaojdnchaa", sum := "67a9d2c2faa78f31b5a438b7a264ff73e930d4c80711d7023649c4026cb0b0be", checked := Try.checked }
namespace Rows
def none {H : Type} : Left H := { results := [], args := [] }

/-- 'laws.FnData': WHATEVER THE INPUT: true; the input reads as it did. -/
def fnDataSpec : ChangeSpec := { name := "fnData", fn := fun _ => fun
  | [d1, d2] => { results := [.lit (.bool true)], args := [d1, d2] }
  | _ => none }
def fnDataRow : OpenClaim := { program := "ytgcfnmaojdnchaa", sum := "67a9d2c2faa78f31b5a438b7a264ff73e930d4c80711d7023649c4026cb0b0be", func := "loop.example/s0083/laws.FnData", spec := "fnData", apart := false }
def FnDataSaid : Prop := fnDataRow.holds Try.pinned (OpenSpec.ofChange fnDataSpec)

/-- ITS FALSE NEIGHBOUR: 'it returns false'. Refute it at one input. -/
def fnDataWrong : ChangeSpec := { name := "fnData", fn := fun _ => fun
  | [d1, d2] => { results := [.lit (.bool false)], args := [d1, d2] }
  | _ => none }
def FnDataWrongFalsely : Prop := fnDataRow.holds Try.pinned (OpenSpec.ofChange fnDataWrong)

/-- 'laws.FnExactWordRight': WHATEVER THE INPUT: true; the input reads as it did. -/
def fnExactWordRightSpec : ChangeSpec := { name := "fnExactWordRight", fn := fun _ => fun
  | [d] => { results := [.lit (.bool true)], args := [d] }
  | _ => none }
def fnExactWordRightRow : OpenClaim := { program := "ytgcfnmaojdnchaa", sum := "67a9d2c2faa78f31b5a438b7a264ff73e930d4c80711d7023649c4026cb0b0be", func := "loop.example/s0083/laws.FnExactWordRight", spec := "fnExactWordRight", apart := false }
def FnExactWordRightSaid : Prop := fnExactWordRightRow.holds Try.pinned (OpenSpec.ofChange fnExactWordRightSpec)

/-- ITS FALSE NEIGHBOUR: 'it returns false'. Refute it at one input. -/
def fnExactWordRightWrong : ChangeSpec := { name := "fnExactWordRight", fn := fun _ => fun
  | [d] => { results := [.lit (.bool false)], args := [d] }
  | _ => none }
def FnExactWordRightWrongFalsely : Prop := fnExactWordRightRow.holds Try.pinned (OpenSpec.ofChange fnExactWordRightWrong)

/-- 'laws.FnExactWordLess': WHATEVER THE INPUT: true; the input reads as it did. -/
def fnExactWordLessSpec : ChangeSpec := { name := "fnExactWordLess", fn := fun _ => fun
  | [d1, d2] => { results := [.lit (.bool true)], args := [d1, d2] }
  | _ => none }
def fnExactWordLessRow : OpenClaim := { program := "ytgcfnmaojdnchaa", sum := "67a9d2c2faa78f31b5a438b7a264ff73e930d4c80711d7023649c4026cb0b0be", func := "loop.example/s0083/laws.FnExactWordLess", spec := "fnExactWordLess", apart := false }
def FnExactWordLessSaid : Prop := fnExactWordLessRow.holds Try.pinned (OpenSpec.ofChange fnExactWordLessSpec)

/-- ITS FALSE NEIGHBOUR: 'it returns false'. Refute it at one input. -/
def fnExactWordLessWrong : ChangeSpec := { name := "fnExactWordLess", fn := fun _ => fun
  | [d1, d2] => { results := [.lit (.bool false)], args := [d1, d2] }
  | _ => none }
def FnExactWordLessWrongFalsely : Prop := fnExactWordLessRow.holds Try.pinned (OpenSpec.ofChange fnExactWordLessWrong)

/-- 'laws.FnExactWordAnd': WHATEVER THE INPUT: true; the input reads as it did. -/
def fnExactWordAndSpec : ChangeSpec := { name := "fnExactWordAnd", fn := fun _ => fun
  | [d1, d2] => { results := [.lit (.bool true)], args := [d1, d2] }
  | _ => none }
def fnExactWordAndRow : OpenClaim := { program := "ytgcfnmaojdnchaa", sum := "67a9d2c2faa78f31b5a438b7a264ff73e930d4c80711d7023649c4026cb0b0be", func := "loop.example/s0083/laws.FnExactWordAnd", spec := "fnExactWordAnd", apart := false }
def FnExactWordAndSaid : Prop := fnExactWordAndRow.holds Try.pinned (OpenSpec.ofChange fnExactWordAndSpec)

/-- ITS FALSE NEIGHBOUR: 'it returns false'. Refute it at one input. -/
def fnExactWordAndWrong : ChangeSpec := { name := "fnExactWordAnd", fn := fun _ => fun
  | [d1, d2] => { results := [.lit (.bool false)], args := [d1, d2] }
  | _ => none }
def FnExactWordAndWrongFalsely : Prop := fnExactWordAndRow.holds Try.pinned (OpenSpec.ofChange fnExactWordAndWrong)

/-- 'laws.FnExactRecordRight': WHATEVER THE INPUT: true; the input reads as it did. -/
def fnExactRecordRightSpec : ChangeSpec := { name := "fnExactRecordRight", fn := fun _ => fun
  | [d] => { results := [.lit (.bool true)], args := [d] }
  | _ => none }
def fnExactRecordRightRow : OpenClaim := { program := "ytgcfnmaojdnchaa", sum := "67a9d2c2faa78f31b5a438b7a264ff73e930d4c80711d7023649c4026cb0b0be", func := "loop.example/s0083/laws.FnExactRecordRight", spec := "fnExactRecordRight", apart := false }
def FnExactRecordRightSaid : Prop := fnExactRecordRightRow.holds Try.pinned (OpenSpec.ofChange fnExactRecordRightSpec)

/-- ITS FALSE NEIGHBOUR: 'it returns false'. Refute it at one input. -/
def fnExactRecordRightWrong : ChangeSpec := { name := "fnExactRecordRight", fn := fun _ => fun
  | [d] => { results := [.lit (.bool false)], args := [d] }
  | _ => none }
def FnExactRecordRightWrongFalsely : Prop := fnExactRecordRightRow.holds Try.pinned (OpenSpec.ofChange fnExactRecordRightWrong)

/-- 'laws.FnExactRecordBytes': WHATEVER THE INPUT: true; the input reads as it did. -/
def fnExactRecordBytesSpec : ChangeSpec := { name := "fnExactRecordBytes", fn := fun _ => fun
  | [d] => { results := [.lit (.bool true)], args := [d] }
  | _ => none }
def fnExactRecordBytesRow : OpenClaim := { program := "ytgcfnmaojdnchaa", sum := "67a9d2c2faa78f31b5a438b7a264ff73e930d4c80711d7023649c4026cb0b0be", func := "loop.example/s0083/laws.FnExactRecordBytes", spec := "fnExactRecordBytes", apart := false }
def FnExactRecordBytesSaid : Prop := fnExactRecordBytesRow.holds Try.pinned (OpenSpec.ofChange fnExactRecordBytesSpec)

/-- ITS FALSE NEIGHBOUR: 'it returns false'. Refute it at one input. -/
def fnExactRecordBytesWrong : ChangeSpec := { name := "fnExactRecordBytes", fn := fun _ => fun
  | [d] => { results := [.lit (.bool false)], args := [d] }
  | _ => none }
def FnExactRecordBytesWrongFalsely : Prop := fnExactRecordBytesRow.holds Try.pinned (OpenSpec.ofChange fnExactRecordBytesWrong)

/-- 'laws.FnExactRecordRead': WHATEVER THE INPUT: true; the input reads as it did. -/
def fnExactRecordReadSpec : ChangeSpec := { name := "fnExactRecordRead", fn := fun _ => fun
  | [d] => { results := [.lit (.bool true)], args := [d] }
  | _ => none }
def fnExactRecordReadRow : OpenClaim := { program := "ytgcfnmaojdnchaa", sum := "67a9d2c2faa78f31b5a438b7a264ff73e930d4c80711d7023649c4026cb0b0be", func := "loop.example/s0083/laws.FnExactRecordRead", spec := "fnExactRecordRead", apart := false }
def FnExactRecordReadSaid : Prop := fnExactRecordReadRow.holds Try.pinned (OpenSpec.ofChange fnExactRecordReadSpec)

/-- ITS FALSE NEIGHBOUR: 'it returns false'. Refute it at one input. -/
def fnExactRecordReadWrong : ChangeSpec := { name := "fnExactRecordRead", fn := fun _ => fun
  | [d] => { results := [.lit (.bool false)], args := [d] }
  | _ => none }
def FnExactRecordReadWrongFalsely : Prop := fnExactRecordReadRow.holds Try.pinned (OpenSpec.ofChange fnExactRecordReadWrong)

/-- 'laws.FnExactLoad': WHATEVER THE INPUT: true; the input reads as it did. -/
def fnExactLoadSpec : ChangeSpec := { name := "fnExactLoad", fn := fun _ => fun
  | [d1, d2] => { results := [.lit (.bool true)], args := [d1, d2] }
  | _ => none }
def fnExactLoadRow : OpenClaim := { program := "ytgcfnmaojdnchaa", sum := "67a9d2c2faa78f31b5a438b7a264ff73e930d4c80711d7023649c4026cb0b0be", func := "loop.example/s0083/laws.FnExactLoad", spec := "fnExactLoad", apart := false }
def FnExactLoadSaid : Prop := fnExactLoadRow.holds Try.pinned (OpenSpec.ofChange fnExactLoadSpec)

/-- ITS FALSE NEIGHBOUR: 'it returns false'. Refute it at one input. -/
def fnExactLoadWrong : ChangeSpec := { name := "fnExactLoad", fn := fun _ => fun
  | [d1, d2] => { results := [.lit (.bool false)], args := [d1, d2] }
  | _ => none }
def FnExactLoadWrongFalsely : Prop := fnExactLoadRow.holds Try.pinned (OpenSpec.ofChange fnExactLoadWrong)

/- THE SECOND FORM. 'bulk': how many values and letters a reading holds, each counted each time it is reached (what is shared counts as often as it is met; a slice's spare places count too). A statement '..UptoSaid' is the law's where the arguments, and the package variables that the reading takes, are together of bulk at most 1048576: NARROWER than '..Said'. Prove '..Said' where nothing that the law and all that it calls make is longer than what came in: it says more and counts as full. Else prove '..UptoSaid'. A law counts once. -/
mutual
def uptoBulk {H : Type} : DataW H → Nat
  | .lit (.string bytes) => bytes.length + 1
  | .lit _ => 1
  | .nil => 1
  | .ptr d => uptoBulk d + 1
  | .slice elems spare => uptoBulkAll elems + uptoBulkAll spare + 1
  | .agg parts => uptoBulkAll parts + 1
  | .iface _ d => uptoBulk d + 1
  | .map entries => uptoBulkEntries entries + 1
  | .held _ => 1
def uptoBulkAll {H : Type} : List (DataW H) → Nat
  | [] => 0
  | d :: r => uptoBulk d + uptoBulkAll r
def uptoBulkEntries {H : Type} : List (Lit × DataW H) → Nat
  | [] => 0
  | x :: r => uptoBulkEntry x + uptoBulkEntries r
def uptoBulkEntry {H : Type} : Lit × DataW H → Nat
  | (.string bytes, d) => bytes.length + uptoBulk d + 1
  | (_, d) => uptoBulk d + 1
 end
def uptoSmall : (H : Type) → List (DataW H) → Bool := fun _ ds => decide (uptoBulkAll ds ≤ 1048576)
def OpenSpec.upto (s : _root_.Go.ChangeSpec) : _root_.Go.OpenSpec := { _root_.Go.OpenSpec.ofChange s with cond := some uptoSmall }

/-- 'laws.FnData', WHERE WHAT IT READS IS OF BULK AT MOST 1048576: true; the input reads as it did. -/
def fnDataUptoRow : OpenClaim := { program := "ytgcfnmaojdnchaa", sum := "67a9d2c2faa78f31b5a438b7a264ff73e930d4c80711d7023649c4026cb0b0be", func := "loop.example/s0083/laws.FnData", spec := "fnData", apart := false, narrowed := true }
def FnDataUptoSaid : Prop := fnDataUptoRow.holds Try.pinned (OpenSpec.upto fnDataSpec)

/-- 'laws.FnExactWordRight', WHERE WHAT IT READS IS OF BULK AT MOST 1048576: true; the input reads as it did. -/
def fnExactWordRightUptoRow : OpenClaim := { program := "ytgcfnmaojdnchaa", sum := "67a9d2c2faa78f31b5a438b7a264ff73e930d4c80711d7023649c4026cb0b0be", func := "loop.example/s0083/laws.FnExactWordRight", spec := "fnExactWordRight", apart := false, narrowed := true }
def FnExactWordRightUptoSaid : Prop := fnExactWordRightUptoRow.holds Try.pinned (OpenSpec.upto fnExactWordRightSpec)

/-- 'laws.FnExactWordLess', WHERE WHAT IT READS IS OF BULK AT MOST 1048576: true; the input reads as it did. -/
def fnExactWordLessUptoRow : OpenClaim := { program := "ytgcfnmaojdnchaa", sum := "67a9d2c2faa78f31b5a438b7a264ff73e930d4c80711d7023649c4026cb0b0be", func := "loop.example/s0083/laws.FnExactWordLess", spec := "fnExactWordLess", apart := false, narrowed := true }
def FnExactWordLessUptoSaid : Prop := fnExactWordLessUptoRow.holds Try.pinned (OpenSpec.upto fnExactWordLessSpec)

/-- 'laws.FnExactWordAnd', WHERE WHAT IT READS IS OF BULK AT MOST 1048576: true; the input reads as it did. -/
def fnExactWordAndUptoRow : OpenClaim := { program := "ytgcfnmaojdnchaa", sum := "67a9d2c2faa78f31b5a438b7a264ff73e930d4c80711d7023649c4026cb0b0be", func := "loop.example/s0083/laws.FnExactWordAnd", spec := "fnExactWordAnd", apart := false, narrowed := true }
def FnExactWordAndUptoSaid : Prop := fnExactWordAndUptoRow.holds Try.pinned (OpenSpec.upto fnExactWordAndSpec)

/-- 'laws.FnExactRecordRight', WHERE WHAT IT READS IS OF BULK AT MOST 1048576: true; the input reads as it did. -/
def fnExactRecordRightUptoRow : OpenClaim := { program := "ytgcfnmaojdnchaa", sum := "67a9d2c2faa78f31b5a438b7a264ff73e930d4c80711d7023649c4026cb0b0be", func := "loop.example/s0083/laws.FnExactRecordRight", spec := "fnExactRecordRight", apart := false, narrowed := true }
def FnExactRecordRightUptoSaid : Prop := fnExactRecordRightUptoRow.holds Try.pinned (OpenSpec.upto fnExactRecordRightSpec)

/-- 'laws.FnExactRecordBytes', WHERE WHAT IT READS IS OF BULK AT MOST 1048576: true; the input reads as it did. -/
def fnExactRecordBytesUptoRow : OpenClaim := { program := "ytgcfnmaojdnchaa", sum := "67a9d2c2faa78f31b5a438b7a264ff73e930d4c80711d7023649c4026cb0b0be", func := "loop.example/s0083/laws.FnExactRecordBytes", spec := "fnExactRecordBytes", apart := false, narrowed := true }
def FnExactRecordBytesUptoSaid : Prop := fnExactRecordBytesUptoRow.holds Try.pinned (OpenSpec.upto fnExactRecordBytesSpec)

/-- 'laws.FnExactRecordRead', WHERE WHAT IT READS IS OF BULK AT MOST 1048576: true; the input reads as it did. -/
def fnExactRecordReadUptoRow : OpenClaim := { program := "ytgcfnmaojdnchaa", sum := "67a9d2c2faa78f31b5a438b7a264ff73e930d4c80711d7023649c4026cb0b0be", func := "loop.example/s0083/laws.FnExactRecordRead", spec := "fnExactRecordRead", apart := false, narrowed := true }
def FnExactRecordReadUptoSaid : Prop := fnExactRecordReadUptoRow.holds Try.pinned (OpenSpec.upto fnExactRecordReadSpec)

/-- 'laws.FnExactLoad', WHERE WHAT IT READS IS OF BULK AT MOST 1048576: true; the input reads as it did. -/
def fnExactLoadUptoRow : OpenClaim := { program := "ytgcfnmaojdnchaa", sum := "67a9d2c2faa78f31b5a438b7a264ff73e930d4c80711d7023649c4026cb0b0be", func := "loop.example/s0083/laws.FnExactLoad", spec := "fnExactLoad", apart := false, narrowed := true }
def FnExactLoadUptoSaid : Prop := fnExactLoadUptoRow.holds Try.pinned (OpenSpec.upto fnExactLoadSpec)

end Rows
end Go.Proofs.Ytgcfnmaojdnchaa
