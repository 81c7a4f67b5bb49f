/-
  DERIVED. GIVEN WITH THE SEED: THE CARDS: each row of YtibbcafhchoiiaaDoorRows.lean that lists a variable, with what it lists TIED to the program's text (the seventh form; the later family's looks); each row that meets fmt, with fmt's text TOLD by the authors' own Lean function (tested against real Go, not proved from fmt's source: count such statements apart). THE CARD IS WHAT COUNTS. Prove the row's statement (the work); the ties are given (YtibbcafhchoiiaaDoorTie.lean); close each card by the builder's one call (the guide's Derived/Test/ToyasCard.lean, 'card_holds'). Laid BY PROGRAM, IN A SANDBOX (cutbox-door.mjs). By AI agents, Wed Nov 11 2026. No macro, syntax, notation, axiom, sorry.
-/
import Derived.Test.YtibbcafhchoiiaaDoorRows
import GoSem.ClaimSeven
namespace Go.Proofs.YtibbcafhchoiiaaDoor
namespace Rows

/-- THE TIED CARD OF 'laws.FnExactProgText'. -/
def fnExactProgTextCard : Claim7 := { stood := { row := fnExactProgTextRow, standIns := [], harness := (true, "1fc2a3e474c44fe0d766fd0be04a186945d326ef4df0ced945bf14a02ce9451b"), looks := false }, kinds := [], alts := [], laidByText := true, laidKinds := [.data, .data, .data], laidTests := true, laidLooks := .later }
def FnExactProgTextCardSaid : Prop := Claim7.holds Tryd.pinned (.plain (OpenSpec.ofChange fnExactProgTextSpec)) fnExactProgTextCard

/-- THE TIED CARD OF 'laws.FnExactProgParse'. -/
def fnExactProgParseCard : Claim7 := { stood := { row := fnExactProgParseRow, standIns := [], harness := (true, "1fc2a3e474c44fe0d766fd0be04a186945d326ef4df0ced945bf14a02ce9451b"), looks := false }, kinds := [], alts := [], laidByText := true, laidKinds := [.data, .pinned], laidTests := true, laidLooks := .later }
def FnExactProgParseCardSaid : Prop := Claim7.holds Tryd.pinned (.plain (OpenSpec.ofChange fnExactProgParseSpec)) fnExactProgParseCard

/-- THE SECOND FORM's CARD OF 'laws.FnExactProgText'. -/
def fnExactProgTextUptoCard : Claim7 := { stood := { row := fnExactProgTextUptoRow, standIns := [], harness := (true, "1fc2a3e474c44fe0d766fd0be04a186945d326ef4df0ced945bf14a02ce9451b"), looks := false }, kinds := [], alts := [], laidByText := true, laidKinds := [.data, .data, .data], laidTests := true, laidLooks := .later }
def FnExactProgTextUptoCardSaid : Prop := Claim7.holds Tryd.pinned (.plain (OpenSpec.upto fnExactProgTextSpec)) fnExactProgTextUptoCard

/-- THE SECOND FORM's CARD OF 'laws.FnExactProgParse'. -/
def fnExactProgParseUptoCard : Claim7 := { stood := { row := fnExactProgParseUptoRow, standIns := [], harness := (true, "1fc2a3e474c44fe0d766fd0be04a186945d326ef4df0ced945bf14a02ce9451b"), looks := false }, kinds := [], alts := [], laidByText := true, laidKinds := [.data, .pinned], laidTests := true, laidLooks := .later }
def FnExactProgParseUptoCardSaid : Prop := Claim7.holds Tryd.pinned (.plain (OpenSpec.upto fnExactProgParseSpec)) fnExactProgParseUptoCard
end Rows
end Go.Proofs.YtibbcafhchoiiaaDoor
