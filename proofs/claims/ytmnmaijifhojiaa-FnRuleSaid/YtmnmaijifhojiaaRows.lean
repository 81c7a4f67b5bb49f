/-
  No cell of these rows narrows 'for every input' (looked for: loops, veiled, ifaces, maps, wideKeys, modest, calm, conditions, laid).
  DERIVED. THE GIVEN ROWS OF THIS SEAT. 10 by the template 'for every input the law returns true; each argument reads behind the call as it read before'; 0 by the template 'total and deterministic' (their statements: YtmnmaijifhojiaaTotals.lean).
  GIVEN WITH THE SEED: the statements are not yours to turn. If you find one false, say at which input.
  Laid BY PROGRAM, IN A SANDBOX (cutbox-rows.mjs): the forced cells as the released guide's own fill.sh prints them over the translation 3cfd2ab8be886ffb… (all of the seat's roots in one cut). By AI agents, Wed Nov 11 2026. No macro, syntax, notation, axiom, sorry.
-/
import Derived.Test.YtmnmaijifhojiaaChecked
import GoSem.Claim
import GoSem.ClaimJoined
import GoSem.ClaimMapViews
import Derived.JoinedTies
import Derived.KernelRfl
namespace Go.Proofs.Ytmnmaijifhojiaa
/- THE CELL 'sum', in the pinned program and in every row, IS THE sha256 OF THE DUMP (.gsa) THAT YtmnmaijifhojiaaProg.lean LOADS. Nothing in Lean hashes anything: it is a label: what it is worth is what the hold of that sum in a sandbox is worth. -/
noncomputable def Try.pinned : Pinned := { name := "ytmnmaijifhojiaa", sum := "3cfd2ab8be886ffbefeb2d7e743f4186e5760a4f542eb2369982b317d22b3f26", checked := Try.checked }
namespace Rows
def none {H : Type} : Left H := { results := [], args := [] }

/-- 'laws.FnRule': WHATEVER THE INPUT: true; the input reads as it did. -/
def fnRuleSpec : ChangeSpec := { name := "fnRule", fn := fun _ => fun
  | [d1, d2] => { results := [.lit (.bool true)], args := [d1, d2] }
  | _ => none }
def fnRuleRow : OpenClaim := { program := "ytmnmaijifhojiaa", sum := "3cfd2ab8be886ffbefeb2d7e743f4186e5760a4f542eb2369982b317d22b3f26", func := "loop.example/s0083/laws.FnRule", spec := "fnRule", unfollowed := true, recurses := true, apart := false }
def FnRuleSaid : Prop := fnRuleRow.holds Try.pinned (OpenSpec.ofChange fnRuleSpec)

/-- ITS FALSE NEIGHBOUR: 'it returns false'. Refute it at one input. -/
def fnRuleWrong : ChangeSpec := { name := "fnRule", fn := fun _ => fun
  | [d1, d2] => { results := [.lit (.bool false)], args := [d1, d2] }
  | _ => none }
def FnRuleWrongFalsely : Prop := fnRuleRow.holds Try.pinned (OpenSpec.ofChange fnRuleWrong)

/-- 'laws.FnExactCmpRight': WHATEVER THE INPUT: true; the input reads as it did. -/
def fnExactCmpRightSpec : ChangeSpec := { name := "fnExactCmpRight", fn := fun _ => fun
  | [d] => { results := [.lit (.bool true)], args := [d] }
  | _ => none }
def fnExactCmpRightRow : OpenClaim := { program := "ytmnmaijifhojiaa", sum := "3cfd2ab8be886ffbefeb2d7e743f4186e5760a4f542eb2369982b317d22b3f26", func := "loop.example/s0083/laws.FnExactCmpRight", spec := "fnExactCmpRight", apart := false }
def FnExactCmpRightSaid : Prop := fnExactCmpRightRow.holds Try.pinned (OpenSpec.ofChange fnExactCmpRightSpec)

/-- ITS FALSE NEIGHBOUR: 'it returns false'. Refute it at one input. -/
def fnExactCmpRightWrong : ChangeSpec := { name := "fnExactCmpRight", fn := fun _ => fun
  | [d] => { results := [.lit (.bool false)], args := [d] }
  | _ => none }
def FnExactCmpRightWrongFalsely : Prop := fnExactCmpRightRow.holds Try.pinned (OpenSpec.ofChange fnExactCmpRightWrong)

/-- 'laws.FnExactCmpHolds': WHATEVER THE INPUT: true; the input reads as it did. -/
def fnExactCmpHoldsSpec : ChangeSpec := { name := "fnExactCmpHolds", fn := fun _ => fun
  | [d1, d2] => { results := [.lit (.bool true)], args := [d1, d2] }
  | _ => none }
def fnExactCmpHoldsRow : OpenClaim := { program := "ytmnmaijifhojiaa", sum := "3cfd2ab8be886ffbefeb2d7e743f4186e5760a4f542eb2369982b317d22b3f26", func := "loop.example/s0083/laws.FnExactCmpHolds", spec := "fnExactCmpHolds", unfollowed := true, recurses := true, apart := false }
def FnExactCmpHoldsSaid : Prop := fnExactCmpHoldsRow.holds Try.pinned (OpenSpec.ofChange fnExactCmpHoldsSpec)

/-- ITS FALSE NEIGHBOUR: 'it returns false'. Refute it at one input. -/
def fnExactCmpHoldsWrong : ChangeSpec := { name := "fnExactCmpHolds", fn := fun _ => fun
  | [d1, d2] => { results := [.lit (.bool false)], args := [d1, d2] }
  | _ => none }
def FnExactCmpHoldsWrongFalsely : Prop := fnExactCmpHoldsRow.holds Try.pinned (OpenSpec.ofChange fnExactCmpHoldsWrong)

/-- 'laws.FnExactRuleRight': WHATEVER THE INPUT: true; the input reads as it did. -/
def fnExactRuleRightSpec : ChangeSpec := { name := "fnExactRuleRight", fn := fun _ => fun
  | [d] => { results := [.lit (.bool true)], args := [d] }
  | _ => none }
def fnExactRuleRightRow : OpenClaim := { program := "ytmnmaijifhojiaa", sum := "3cfd2ab8be886ffbefeb2d7e743f4186e5760a4f542eb2369982b317d22b3f26", func := "loop.example/s0083/laws.FnExactRuleRight", spec := "fnExactRuleRight", apart := false }
def FnExactRuleRightSaid : Prop := fnExactRuleRightRow.holds Try.pinned (OpenSpec.ofChange fnExactRuleRightSpec)

/-- ITS FALSE NEIGHBOUR: 'it returns false'. Refute it at one input. -/
def fnExactRuleRightWrong : ChangeSpec := { name := "fnExactRuleRight", fn := fun _ => fun
  | [d] => { results := [.lit (.bool false)], args := [d] }
  | _ => none }
def FnExactRuleRightWrongFalsely : Prop := fnExactRuleRightRow.holds Try.pinned (OpenSpec.ofChange fnExactRuleRightWrong)

/-- 'laws.FnExactRuleSame': WHATEVER THE INPUT: true; the input reads as it did. -/
def fnExactRuleSameSpec : ChangeSpec := { name := "fnExactRuleSame", fn := fun _ => fun
  | [d1, d2] => { results := [.lit (.bool true)], args := [d1, d2] }
  | _ => none }
def fnExactRuleSameRow : OpenClaim := { program := "ytmnmaijifhojiaa", sum := "3cfd2ab8be886ffbefeb2d7e743f4186e5760a4f542eb2369982b317d22b3f26", func := "loop.example/s0083/laws.FnExactRuleSame", spec := "fnExactRuleSame", apart := false }
def FnExactRuleSameSaid : Prop := fnExactRuleSameRow.holds Try.pinned (OpenSpec.ofChange fnExactRuleSameSpec)

/-- ITS FALSE NEIGHBOUR: 'it returns false'. Refute it at one input. -/
def fnExactRuleSameWrong : ChangeSpec := { name := "fnExactRuleSame", fn := fun _ => fun
  | [d1, d2] => { results := [.lit (.bool false)], args := [d1, d2] }
  | _ => none }
def FnExactRuleSameWrongFalsely : Prop := fnExactRuleSameRow.holds Try.pinned (OpenSpec.ofChange fnExactRuleSameWrong)

/-- 'laws.FnExactRuleHolds': WHATEVER THE INPUT: true; the input reads as it did. -/
def fnExactRuleHoldsSpec : ChangeSpec := { name := "fnExactRuleHolds", fn := fun _ => fun
  | [d1, d2] => { results := [.lit (.bool true)], args := [d1, d2] }
  | _ => none }
def fnExactRuleHoldsRow : OpenClaim := { program := "ytmnmaijifhojiaa", sum := "3cfd2ab8be886ffbefeb2d7e743f4186e5760a4f542eb2369982b317d22b3f26", func := "loop.example/s0083/laws.FnExactRuleHolds", spec := "fnExactRuleHolds", unfollowed := true, recurses := true, apart := false }
def FnExactRuleHoldsSaid : Prop := fnExactRuleHoldsRow.holds Try.pinned (OpenSpec.ofChange fnExactRuleHoldsSpec)

/-- ITS FALSE NEIGHBOUR: 'it returns false'. Refute it at one input. -/
def fnExactRuleHoldsWrong : ChangeSpec := { name := "fnExactRuleHolds", fn := fun _ => fun
  | [d1, d2] => { results := [.lit (.bool false)], args := [d1, d2] }
  | _ => none }
def FnExactRuleHoldsWrongFalsely : Prop := fnExactRuleHoldsRow.holds Try.pinned (OpenSpec.ofChange fnExactRuleHoldsWrong)

/-- 'laws.FnExactPolicyRight': WHATEVER THE INPUT: true; the input reads as it did. -/
def fnExactPolicyRightSpec : ChangeSpec := { name := "fnExactPolicyRight", fn := fun _ => fun
  | [d] => { results := [.lit (.bool true)], args := [d] }
  | _ => none }
def fnExactPolicyRightRow : OpenClaim := { program := "ytmnmaijifhojiaa", sum := "3cfd2ab8be886ffbefeb2d7e743f4186e5760a4f542eb2369982b317d22b3f26", func := "loop.example/s0083/laws.FnExactPolicyRight", spec := "fnExactPolicyRight", apart := false }
def FnExactPolicyRightSaid : Prop := fnExactPolicyRightRow.holds Try.pinned (OpenSpec.ofChange fnExactPolicyRightSpec)

/-- ITS FALSE NEIGHBOUR: 'it returns false'. Refute it at one input. -/
def fnExactPolicyRightWrong : ChangeSpec := { name := "fnExactPolicyRight", fn := fun _ => fun
  | [d] => { results := [.lit (.bool false)], args := [d] }
  | _ => none }
def FnExactPolicyRightWrongFalsely : Prop := fnExactPolicyRightRow.holds Try.pinned (OpenSpec.ofChange fnExactPolicyRightWrong)

/-- 'laws.FnExactPolicyAdd': WHATEVER THE INPUT: true; the input reads as it did. -/
def fnExactPolicyAddSpec : ChangeSpec := { name := "fnExactPolicyAdd", fn := fun _ => fun
  | [d1, d2] => { results := [.lit (.bool true)], args := [d1, d2] }
  | _ => none }
def fnExactPolicyAddRow : OpenClaim := { program := "ytmnmaijifhojiaa", sum := "3cfd2ab8be886ffbefeb2d7e743f4186e5760a4f542eb2369982b317d22b3f26", func := "loop.example/s0083/laws.FnExactPolicyAdd", spec := "fnExactPolicyAdd", apart := false }
def FnExactPolicyAddSaid : Prop := fnExactPolicyAddRow.holds Try.pinned (OpenSpec.ofChange fnExactPolicyAddSpec)

/-- ITS FALSE NEIGHBOUR: 'it returns false'. Refute it at one input. -/
def fnExactPolicyAddWrong : ChangeSpec := { name := "fnExactPolicyAdd", fn := fun _ => fun
  | [d1, d2] => { results := [.lit (.bool false)], args := [d1, d2] }
  | _ => none }
def FnExactPolicyAddWrongFalsely : Prop := fnExactPolicyAddRow.holds Try.pinned (OpenSpec.ofChange fnExactPolicyAddWrong)

/-- 'laws.FnExactPolicyDrop': WHATEVER THE INPUT: true; the input reads as it did. -/
def fnExactPolicyDropSpec : ChangeSpec := { name := "fnExactPolicyDrop", fn := fun _ => fun
  | [d1, d2] => { results := [.lit (.bool true)], args := [d1, d2] }
  | _ => none }
def fnExactPolicyDropRow : OpenClaim := { program := "ytmnmaijifhojiaa", sum := "3cfd2ab8be886ffbefeb2d7e743f4186e5760a4f542eb2369982b317d22b3f26", func := "loop.example/s0083/laws.FnExactPolicyDrop", spec := "fnExactPolicyDrop", apart := false }
def FnExactPolicyDropSaid : Prop := fnExactPolicyDropRow.holds Try.pinned (OpenSpec.ofChange fnExactPolicyDropSpec)

/-- ITS FALSE NEIGHBOUR: 'it returns false'. Refute it at one input. -/
def fnExactPolicyDropWrong : ChangeSpec := { name := "fnExactPolicyDrop", fn := fun _ => fun
  | [d1, d2] => { results := [.lit (.bool false)], args := [d1, d2] }
  | _ => none }
def FnExactPolicyDropWrongFalsely : Prop := fnExactPolicyDropRow.holds Try.pinned (OpenSpec.ofChange fnExactPolicyDropWrong)

/-- 'laws.FnExactDecide': WHATEVER THE INPUT: true; the input reads as it did. -/
def fnExactDecideSpec : ChangeSpec := { name := "fnExactDecide", fn := fun _ => fun
  | [d1, d2] => { results := [.lit (.bool true)], args := [d1, d2] }
  | _ => none }
def fnExactDecideRow : OpenClaim := { program := "ytmnmaijifhojiaa", sum := "3cfd2ab8be886ffbefeb2d7e743f4186e5760a4f542eb2369982b317d22b3f26", func := "loop.example/s0083/laws.FnExactDecide", spec := "fnExactDecide", unfollowed := true, recurses := true, apart := false }
def FnExactDecideSaid : Prop := fnExactDecideRow.holds Try.pinned (OpenSpec.ofChange fnExactDecideSpec)

/-- ITS FALSE NEIGHBOUR: 'it returns false'. Refute it at one input. -/
def fnExactDecideWrong : ChangeSpec := { name := "fnExactDecide", fn := fun _ => fun
  | [d1, d2] => { results := [.lit (.bool false)], args := [d1, d2] }
  | _ => none }
def FnExactDecideWrongFalsely : Prop := fnExactDecideRow.holds Try.pinned (OpenSpec.ofChange fnExactDecideWrong)

/- THE SECOND FORM. 'bulk': how many values and letters a reading holds, each counted each time it is reached (what is shared counts as often as it is met; a slice's spare places count too). A statement '..UptoSaid' is the law's where the arguments, and the package variables that the reading takes, are together of bulk at most 1048576: NARROWER than '..Said'. Prove '..Said' where nothing that the law and all that it calls make is longer than what came in: it says more and counts as full. Else prove '..UptoSaid'. A law counts once. -/
mutual
def uptoBulk {H : Type} : DataW H → Nat
  | .lit (.string bytes) => bytes.length + 1
  | .lit _ => 1
  | .nil => 1
  | .ptr d => uptoBulk d + 1
  | .slice elems spare => uptoBulkAll elems + uptoBulkAll spare + 1
  | .agg parts => uptoBulkAll parts + 1
  | .iface _ d => uptoBulk d + 1
  | .map entries => uptoBulkEntries entries + 1
  | .held _ => 1
def uptoBulkAll {H : Type} : List (DataW H) → Nat
  | [] => 0
  | d :: r => uptoBulk d + uptoBulkAll r
def uptoBulkEntries {H : Type} : List (Lit × DataW H) → Nat
  | [] => 0
  | x :: r => uptoBulkEntry x + uptoBulkEntries r
def uptoBulkEntry {H : Type} : Lit × DataW H → Nat
  | (.string bytes, d) => bytes.length + uptoBulk d + 1
  | (_, d) => uptoBulk d + 1
 end
def uptoSmall : (H : Type) → List (DataW H) → Bool := fun _ ds => decide (uptoBulkAll ds ≤ 1048576)
def OpenSpec.upto (s : _root_.Go.ChangeSpec) : _root_.Go.OpenSpec := { _root_.Go.OpenSpec.ofChange s with cond := some uptoSmall }

/-- 'laws.FnRule', WHERE WHAT IT READS IS OF BULK AT MOST 1048576: true; the input reads as it did. -/
def fnRuleUptoRow : OpenClaim := { program := "ytmnmaijifhojiaa", sum := "3cfd2ab8be886ffbefeb2d7e743f4186e5760a4f542eb2369982b317d22b3f26", func := "loop.example/s0083/laws.FnRule", spec := "fnRule", unfollowed := true, recurses := true, apart := false, narrowed := true }
def FnRuleUptoSaid : Prop := fnRuleUptoRow.holds Try.pinned (OpenSpec.upto fnRuleSpec)

/-- 'laws.FnExactCmpRight', WHERE WHAT IT READS IS OF BULK AT MOST 1048576: true; the input reads as it did. -/
def fnExactCmpRightUptoRow : OpenClaim := { program := "ytmnmaijifhojiaa", sum := "3cfd2ab8be886ffbefeb2d7e743f4186e5760a4f542eb2369982b317d22b3f26", func := "loop.example/s0083/laws.FnExactCmpRight", spec := "fnExactCmpRight", apart := false, narrowed := true }
def FnExactCmpRightUptoSaid : Prop := fnExactCmpRightUptoRow.holds Try.pinned (OpenSpec.upto fnExactCmpRightSpec)

/-- 'laws.FnExactCmpHolds', WHERE WHAT IT READS IS OF BULK AT MOST 1048576: true; the input reads as it did. -/
def fnExactCmpHoldsUptoRow : OpenClaim := { program := "ytmnmaijifhojiaa", sum := "3cfd2ab8be886ffbefeb2d7e743f4186e5760a4f542eb2369982b317d22b3f26", func := "loop.example/s0083/laws.FnExactCmpHolds", spec := "fnExactCmpHolds", unfollowed := true, recurses := true, apart := false, narrowed := true }
def FnExactCmpHoldsUptoSaid : Prop := fnExactCmpHoldsUptoRow.holds Try.pinned (OpenSpec.upto fnExactCmpHoldsSpec)

/-- 'laws.FnExactRuleRight', WHERE WHAT IT READS IS OF BULK AT MOST 1048576: true; the input reads as it did. -/
def fnExactRuleRightUptoRow : OpenClaim := { program := "ytmnmaijifhojiaa", sum := "3cfd2ab8be886ffbefeb2d7e743f4186e5760a4f542eb2369982b317d22b3f26", func := "loop.example/s0083/laws.FnExactRuleRight", spec := "fnExactRuleRight", apart := false, narrowed := true }
def FnExactRuleRightUptoSaid : Prop := fnExactRuleRightUptoRow.holds Try.pinned (OpenSpec.upto fnExactRuleRightSpec)

/-- 'laws.FnExactRuleSame', WHERE WHAT IT READS IS OF BULK AT MOST 1048576: true; the input reads as it did. -/
def fnExactRuleSameUptoRow : OpenClaim := { program := "ytmnmaijifhojiaa", sum := "3cfd2ab8be886ffbefeb2d7e743f4186e5760a4f542eb2369982b317d22b3f26", func := "loop.example/s0083/laws.FnExactRuleSame", spec := "fnExactRuleSame", apart := false, narrowed := true }
def FnExactRuleSameUptoSaid : Prop := fnExactRuleSameUptoRow.holds Try.pinned (OpenSpec.upto fnExactRuleSameSpec)

/-- 'laws.FnExactRuleHolds', WHERE WHAT IT READS IS OF BULK AT MOST 1048576: true; the input reads as it did. -/
def fnExactRuleHoldsUptoRow : OpenClaim := { program := "ytmnmaijifhojiaa", sum := "3cfd2ab8be886ffbefeb2d7e743f4186e5760a4f542eb2369982b317d22b3f26", func := "loop.example/s0083/laws.FnExactRuleHolds", spec := "fnExactRuleHolds", unfollowed := true, recurses := true, apart := false, narrowed := true }
def FnExactRuleHoldsUptoSaid : Prop := fnExactRuleHoldsUptoRow.holds Try.pinned (OpenSpec.upto fnExactRuleHoldsSpec)

/-- 'laws.FnExactPolicyRight', WHERE WHAT IT READS IS OF BULK AT MOST 1048576: true; the input reads as it did. -/
def fnExactPolicyRightUptoRow : OpenClaim := { program := "ytmnmaijifhojiaa", sum := "3cfd2ab8be886ffbefeb2d7e743f4186e5760a4f542eb2369982b317d22b3f26", func := "loop.example/s0083/laws.FnExactPolicyRight", spec := "fnExactPolicyRight", apart := false, narrowed := true }
def FnExactPolicyRightUptoSaid : Prop := fnExactPolicyRightUptoRow.holds Try.pinned (OpenSpec.upto fnExactPolicyRightSpec)

/-- 'laws.FnExactPolicyAdd', WHERE WHAT IT READS IS OF BULK AT MOST 1048576: true; the input reads as it did. -/
def fnExactPolicyAddUptoRow : OpenClaim := { program := "ytmnmaijifhojiaa", sum := "3cfd2ab8be886ffbefeb2d7e743f4186e5760a4f542eb2369982b317d22b3f26", func := "loop.example/s0083/laws.FnExactPolicyAdd", spec := "fnExactPolicyAdd", apart := false, narrowed := true }
def FnExactPolicyAddUptoSaid : Prop := fnExactPolicyAddUptoRow.holds Try.pinned (OpenSpec.upto fnExactPolicyAddSpec)

/-- 'laws.FnExactPolicyDrop', WHERE WHAT IT READS IS OF BULK AT MOST 1048576: true; the input reads as it did. -/
def fnExactPolicyDropUptoRow : OpenClaim := { program := "ytmnmaijifhojiaa", sum := "3cfd2ab8be886ffbefeb2d7e743f4186e5760a4f542eb2369982b317d22b3f26", func := "loop.example/s0083/laws.FnExactPolicyDrop", spec := "fnExactPolicyDrop", apart := false, narrowed := true }
def FnExactPolicyDropUptoSaid : Prop := fnExactPolicyDropUptoRow.holds Try.pinned (OpenSpec.upto fnExactPolicyDropSpec)

/-- 'laws.FnExactDecide', WHERE WHAT IT READS IS OF BULK AT MOST 1048576: true; the input reads as it did. -/
def fnExactDecideUptoRow : OpenClaim := { program := "ytmnmaijifhojiaa", sum := "3cfd2ab8be886ffbefeb2d7e743f4186e5760a4f542eb2369982b317d22b3f26", func := "loop.example/s0083/laws.FnExactDecide", spec := "fnExactDecide", unfollowed := true, recurses := true, apart := false, narrowed := true }
def FnExactDecideUptoSaid : Prop := fnExactDecideUptoRow.holds Try.pinned (OpenSpec.upto fnExactDecideSpec)

end Rows
end Go.Proofs.Ytmnmaijifhojiaa
