/-
  No cell of these rows narrows 'for every input' (looked for: loops, veiled, ifaces, maps, wideKeys, modest, calm, conditions, laid).
  DERIVED. THE GIVEN ROWS OF THIS SEAT. 3 by the template 'for every input the law returns true; each argument reads behind the call as it read before'; 0 by the template 'total and deterministic' (their statements: YtlocglafocnghaaTotals.lean).
  GIVEN WITH THE SEED: the statements are not yours to turn. If you find one false, say at which input.
  Laid BY PROGRAM, IN A SANDBOX (cutbox-rows.mjs): the forced cells as the released guide's own fill.sh prints them over the translation ae54041c58a96baa… (all of the seat's roots in one cut). By AI agents, Wed Nov 11 2026. No macro, syntax, notation, axiom, sorry.
-/
import Derived.Test.YtlocglafocnghaaChecked
import GoSem.Claim
import GoSem.ClaimJoined
import GoSem.ClaimMapViews
import Derived.JoinedTies
import Derived.KernelRfl
namespace Go.Proofs.Ytlocglafocnghaa
/- THE CELL 'sum', in the pinned program and in every row, IS THE sha256 OF THE DUMP (.gsa) THAT YtlocglafocnghaaProg.lean LOADS. Nothing in Lean hashes anything: it is a label: what it is worth is what the hold of that sum in a sandbox is worth. -/
noncomputable def Try.pinned : Pinned := { name := "ytlocglafocnghaa", sum := "ae54041c58a96baaed48e10279a6966bb8161d108a393f08dd781845c4c09253", checked := Try.checked }
namespace Rows
def none {H : Type} : Left H := { results := [], args := [] }

/-- 'laws.FnExactInsnRight': WHATEVER THE INPUT: true; the input reads as it did. -/
def fnExactInsnRightSpec : ChangeSpec := { name := "fnExactInsnRight", fn := fun _ => fun
  | [d] => { results := [.lit (.bool true)], args := [d] }
  | _ => none }
def fnExactInsnRightRow : OpenClaim := { program := "ytlocglafocnghaa", sum := "ae54041c58a96baaed48e10279a6966bb8161d108a393f08dd781845c4c09253", func := "loop.example/s0083/laws.FnExactInsnRight", spec := "fnExactInsnRight", apart := false }
def FnExactInsnRightSaid : Prop := fnExactInsnRightRow.holds Try.pinned (OpenSpec.ofChange fnExactInsnRightSpec)

/-- ITS FALSE NEIGHBOUR: 'it returns false'. Refute it at one input. -/
def fnExactInsnRightWrong : ChangeSpec := { name := "fnExactInsnRight", fn := fun _ => fun
  | [d] => { results := [.lit (.bool false)], args := [d] }
  | _ => none }
def FnExactInsnRightWrongFalsely : Prop := fnExactInsnRightRow.holds Try.pinned (OpenSpec.ofChange fnExactInsnRightWrong)

/-- 'laws.FnExactProgBytes': WHATEVER THE INPUT: true; the input reads as it did. -/
def fnExactProgBytesSpec : ChangeSpec := { name := "fnExactProgBytes", fn := fun _ => fun
  | [d] => { results := [.lit (.bool true)], args := [d] }
  | _ => none }
def fnExactProgBytesRow : OpenClaim := { program := "ytlocglafocnghaa", sum := "ae54041c58a96baaed48e10279a6966bb8161d108a393f08dd781845c4c09253", func := "loop.example/s0083/laws.FnExactProgBytes", spec := "fnExactProgBytes", apart := false }
def FnExactProgBytesSaid : Prop := fnExactProgBytesRow.holds Try.pinned (OpenSpec.ofChange fnExactProgBytesSpec)

/-- ITS FALSE NEIGHBOUR: 'it returns false'. Refute it at one input. -/
def fnExactProgBytesWrong : ChangeSpec := { name := "fnExactProgBytes", fn := fun _ => fun
  | [d] => { results := [.lit (.bool false)], args := [d] }
  | _ => none }
def FnExactProgBytesWrongFalsely : Prop := fnExactProgBytesRow.holds Try.pinned (OpenSpec.ofChange fnExactProgBytesWrong)

/-- 'laws.FnExactProgRead': WHATEVER THE INPUT: true; the input reads as it did. -/
def fnExactProgReadSpec : ChangeSpec := { name := "fnExactProgRead", fn := fun _ => fun
  | [d] => { results := [.lit (.bool true)], args := [d] }
  | _ => none }
def fnExactProgReadRow : OpenClaim := { program := "ytlocglafocnghaa", sum := "ae54041c58a96baaed48e10279a6966bb8161d108a393f08dd781845c4c09253", func := "loop.example/s0083/laws.FnExactProgRead", spec := "fnExactProgRead", apart := false }
def FnExactProgReadSaid : Prop := fnExactProgReadRow.holds Try.pinned (OpenSpec.ofChange fnExactProgReadSpec)

/-- ITS FALSE NEIGHBOUR: 'it returns false'. Refute it at one input. -/
def fnExactProgReadWrong : ChangeSpec := { name := "fnExactProgRead", fn := fun _ => fun
  | [d] => { results := [.lit (.bool false)], args := [d] }
  | _ => none }
def FnExactProgReadWrongFalsely : Prop := fnExactProgReadRow.holds Try.pinned (OpenSpec.ofChange fnExactProgReadWrong)

/- THE SECOND FORM. 'bulk': how many values and letters a reading holds, each counted each time it is reached (what is shared counts as often as it is met; a slice's spare places count too). A statement '..UptoSaid' is the law's where the arguments, and the package variables that the reading takes, are together of bulk at most 1048576: NARROWER than '..Said'. Prove '..Said' where nothing that the law and all that it calls make is longer than what came in: it says more and counts as full. Else prove '..UptoSaid'. A law counts once. -/
mutual
def uptoBulk {H : Type} : DataW H → Nat
  | .lit (.string bytes) => bytes.length + 1
  | .lit _ => 1
  | .nil => 1
  | .ptr d => uptoBulk d + 1
  | .slice elems spare => uptoBulkAll elems + uptoBulkAll spare + 1
  | .agg parts => uptoBulkAll parts + 1
  | .iface _ d => uptoBulk d + 1
  | .map entries => uptoBulkEntries entries + 1
  | .held _ => 1
def uptoBulkAll {H : Type} : List (DataW H) → Nat
  | [] => 0
  | d :: r => uptoBulk d + uptoBulkAll r
def uptoBulkEntries {H : Type} : List (Lit × DataW H) → Nat
  | [] => 0
  | x :: r => uptoBulkEntry x + uptoBulkEntries r
def uptoBulkEntry {H : Type} : Lit × DataW H → Nat
  | (.string bytes, d) => bytes.length + uptoBulk d + 1
  | (_, d) => uptoBulk d + 1
 end
def uptoSmall : (H : Type) → List (DataW H) → Bool := fun _ ds => decide (uptoBulkAll ds ≤ 1048576)
def OpenSpec.upto (s : _root_.Go.ChangeSpec) : _root_.Go.OpenSpec := { _root_.Go.OpenSpec.ofChange s with cond := some uptoSmall }

/-- 'laws.FnExactInsnRight', WHERE WHAT IT READS IS OF BULK AT MOST 1048576: true; the input reads as it did. -/
def fnExactInsnRightUptoRow : OpenClaim := { program := "ytlocglafocnghaa", sum := "ae54041c58a96baaed48e10279a6966bb8161d108a393f08dd781845c4c09253", func := "loop.example/s0083/laws.FnExactInsnRight", spec := "fnExactInsnRight", apart := false, narrowed := true }
def FnExactInsnRightUptoSaid : Prop := fnExactInsnRightUptoRow.holds Try.pinned (OpenSpec.upto fnExactInsnRightSpec)

/-- 'laws.FnExactProgBytes', WHERE WHAT IT READS IS OF BULK AT MOST 1048576: true; the input reads as it did. -/
def fnExactProgBytesUptoRow : OpenClaim := { program := "ytlocglafocnghaa", sum := "ae54041c58a96baaed48e10279a6966bb8161d108a393f08dd781845c4c09253", func := "loop.example/s0083/laws.FnExactProgBytes", spec := "fnExactProgBytes", apart := false, narrowed := true }
def FnExactProgBytesUptoSaid : Prop := fnExactProgBytesUptoRow.holds Try.pinned (OpenSpec.upto fnExactProgBytesSpec)

/-- 'laws.FnExactProgRead', WHERE WHAT IT READS IS OF BULK AT MOST 1048576: true; the input reads as it did. -/
def fnExactProgReadUptoRow : OpenClaim := { program := "ytlocglafocnghaa", sum := "ae54041c58a96baaed48e10279a6966bb8161d108a393f08dd781845c4c09253", func := "loop.example/s0083/laws.FnExactProgRead", spec := "fnExactProgRead", apart := false, narrowed := true }
def FnExactProgReadUptoSaid : Prop := fnExactProgReadUptoRow.holds Try.pinned (OpenSpec.upto fnExactProgReadSpec)

end Rows
end Go.Proofs.Ytlocglafocnghaa
