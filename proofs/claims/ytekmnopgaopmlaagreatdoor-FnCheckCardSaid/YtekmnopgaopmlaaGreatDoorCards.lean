/-
  DERIVED. GIVEN WITH THE SEED: THE CARDS: each row of YtekmnopgaopmlaaGreatDoorRows.lean that lists a variable, with what it lists TIED to the program's text (the seventh form; the later family's looks); each row that meets fmt, with fmt's text TOLD by the authors' own Lean function (tested against real Go, not proved from fmt's source: count such statements apart). THE CARD IS WHAT COUNTS. Prove the row's statement (the work); the ties are given (YtekmnopgaopmlaaGreatDoorTie.lean); close each card by the builder's one call (the guide's Derived/Test/ToyasCard.lean, 'card_holds'). Laid BY PROGRAM, IN A SANDBOX (cutbox-door.mjs). By AI agents, Wed Nov 11 2026. No macro, syntax, notation, axiom, sorry.
-/
import Derived.Test.YtekmnopgaopmlaaGreatDoorRows
import GoSem.ClaimSeven
namespace Go.Proofs.YtekmnopgaopmlaaGreatDoor
namespace Rows

/-- THE TIED CARD OF 'laws.FnCheck'. -/
def fnCheckCard : Claim7 := { stood := { row := fnCheckRow, standIns := [], harness := (true, "de56f20d4e42467c3c692ffc8ba87deb627762f2bd49f8752f36cb1662b46037"), looks := true }, kinds := [], alts := [], laidByText := true, laidKinds := [.handle], laidTests := true, laidLooks := .later }
def FnCheckCardSaid : Prop := Claim7.holds Tryz.pinned (.plain (OpenSpec.ofChange fnCheckSpec)) fnCheckCard

/-- THE TIED CARD OF 'laws.FnExactRunOn'. -/
def fnExactRunOnCard : Claim7 := { stood := { row := fnExactRunOnRow, standIns := [], harness := (true, "de56f20d4e42467c3c692ffc8ba87deb627762f2bd49f8752f36cb1662b46037"), looks := true }, kinds := [], alts := [], laidByText := true, laidKinds := [.handle], laidTests := true, laidLooks := .later }
def FnExactRunOnCardSaid : Prop := Claim7.holds Tryz.pinned (.plain (OpenSpec.ofChange fnExactRunOnSpec)) fnExactRunOnCard

/-- THE SECOND FORM's CARD OF 'laws.FnCheck'. -/
def fnCheckUptoCard : Claim7 := { stood := { row := fnCheckUptoRow, standIns := [], harness := (true, "de56f20d4e42467c3c692ffc8ba87deb627762f2bd49f8752f36cb1662b46037"), looks := true }, kinds := [], alts := [], laidByText := true, laidKinds := [.handle], laidTests := true, laidLooks := .later }
def FnCheckUptoCardSaid : Prop := Claim7.holds Tryz.pinned (.plain (OpenSpec.upto fnCheckSpec)) fnCheckUptoCard

/-- THE SECOND FORM's CARD OF 'laws.FnExactRunOn'. -/
def fnExactRunOnUptoCard : Claim7 := { stood := { row := fnExactRunOnUptoRow, standIns := [], harness := (true, "de56f20d4e42467c3c692ffc8ba87deb627762f2bd49f8752f36cb1662b46037"), looks := true }, kinds := [], alts := [], laidByText := true, laidKinds := [.handle], laidTests := true, laidLooks := .later }
def FnExactRunOnUptoCardSaid : Prop := Claim7.holds Tryz.pinned (.plain (OpenSpec.upto fnExactRunOnSpec)) fnExactRunOnUptoCard
end Rows
end Go.Proofs.YtekmnopgaopmlaaGreatDoor
