/-
  DERIVED. GIVEN WITH THE SEED: THE CARDS: each row of YtmdcdhdjojimeaaGreatDoorRows.lean that lists a variable, with what it lists TIED to the program's text (the seventh form; the later family's looks); each row that meets fmt, with fmt's text TOLD by the authors' own Lean function (tested against real Go, not proved from fmt's source: count such statements apart). THE CARD IS WHAT COUNTS. Prove the row's statement (the work); the ties are given (YtmdcdhdjojimeaaGreatDoorTie.lean); close each card by the builder's one call (the guide's Derived/Test/ToyasCard.lean, 'card_holds'). Laid BY PROGRAM, IN A SANDBOX (cutbox-door.mjs). By AI agents, Wed Nov 11 2026. No macro, syntax, notation, axiom, sorry.
-/
import Derived.Test.YtmdcdhdjojimeaaGreatDoorRows
import GoSem.ClaimSeven
namespace Go.Proofs.YtmdcdhdjojimeaaGreatDoor
namespace Rows

/-- THE TIED CARD OF 'pleachlaw09.RulesTell'. -/
def rulesTellCard : Claim7 := { stood := { row := rulesTellRow, standIns := [], harness := (true, "42ab8a516ad25ece2e04f641d55ee375499bba19ad63d7f4ce6cd6e41eada5e4"), looks := true }, kinds := [], alts := [], laidByText := true, laidKinds := [.handle, .data, .data, .data], laidTests := true, laidLooks := .later }
def RulesTellCardSaid : Prop := Claim7.holds Tryz.pinned (.plain (OpenSpec.ofChange rulesTellSpec)) rulesTellCard

/-- THE SECOND FORM's CARD OF 'pleachlaw09.RulesTell'. -/
def rulesTellUptoCard : Claim7 := { stood := { row := rulesTellUptoRow, standIns := [], harness := (true, "42ab8a516ad25ece2e04f641d55ee375499bba19ad63d7f4ce6cd6e41eada5e4"), looks := true }, kinds := [], alts := [], laidByText := true, laidKinds := [.handle, .data, .data, .data], laidTests := true, laidLooks := .later }
def RulesTellUptoCardSaid : Prop := Claim7.holds Tryz.pinned (.plain (OpenSpec.upto rulesTellSpec)) rulesTellUptoCard
end Rows
end Go.Proofs.YtmdcdhdjojimeaaGreatDoor
