/-
  DERIVED. GIVEN WITH THE SEED: THE CARDS: each row of YtdimcddbmccniaaGreatDoorRows.lean that lists a variable, with what it lists TIED to the program's text (the seventh form; the later family's looks); each row that meets fmt, with fmt's text TOLD by the authors' own Lean function (tested against real Go, not proved from fmt's source: count such statements apart). THE CARD IS WHAT COUNTS. Prove the row's statement (the work); the ties are given (YtdimcddbmccniaaGreatDoorTie.lean); close each card by the builder's one call (the guide's Derived/Test/ToyasCard.lean, 'card_holds'). Laid BY PROGRAM, IN A SANDBOX (cutbox-door.mjs). By AI agents, Wed Nov 11 2026. No macro, syntax, notation, axiom, sorry.
-/
import Derived.Test.YtdimcddbmccniaaGreatDoorRows
import GoSem.ClaimSeven
namespace Go.Proofs.YtdimcddbmccniaaGreatDoor
namespace Rows

/-- THE TIED CARD OF 'pleachlaw09.RulesTell'. -/
def rulesTellCard : Claim7 := { stood := { row := rulesTellRow, standIns := [], harness := (true, "7bad8dc8461a0189a5287bd68cdfbeef0ac4beff105c5a6cfa39d54048738b4a"), looks := true }, kinds := [], alts := [], laidByText := true, laidKinds := [.handle, .data, .data, .data], laidTests := true, laidLooks := .later }
def RulesTellCardSaid : Prop := Claim7.holds Tryz.pinned (.plain (OpenSpec.ofChange rulesTellSpec)) rulesTellCard

/-- THE TIED CARD OF 'pleachlaw13.CodeEach'. -/
def codeEachCard : Claim7 := { stood := { row := codeEachRow, standIns := [], harness := (true, "7bad8dc8461a0189a5287bd68cdfbeef0ac4beff105c5a6cfa39d54048738b4a"), looks := true }, kinds := [], alts := [], laidByText := true, laidKinds := [.data, .data, .data, .data, .data, .data, .data], laidTests := true, laidLooks := .later }
def CodeEachCardSaid : Prop := Claim7.holds Tryz.pinned (.plain (OpenSpec.ofChange codeEachSpec)) codeEachCard

/-- THE SECOND FORM's CARD OF 'pleachlaw09.RulesTell'. -/
def rulesTellUptoCard : Claim7 := { stood := { row := rulesTellUptoRow, standIns := [], harness := (true, "7bad8dc8461a0189a5287bd68cdfbeef0ac4beff105c5a6cfa39d54048738b4a"), looks := true }, kinds := [], alts := [], laidByText := true, laidKinds := [.handle, .data, .data, .data], laidTests := true, laidLooks := .later }
def RulesTellUptoCardSaid : Prop := Claim7.holds Tryz.pinned (.plain (OpenSpec.upto rulesTellSpec)) rulesTellUptoCard

/-- THE SECOND FORM's CARD OF 'pleachlaw13.CodeEach'. -/
def codeEachUptoCard : Claim7 := { stood := { row := codeEachUptoRow, standIns := [], harness := (true, "7bad8dc8461a0189a5287bd68cdfbeef0ac4beff105c5a6cfa39d54048738b4a"), looks := true }, kinds := [], alts := [], laidByText := true, laidKinds := [.data, .data, .data, .data, .data, .data, .data], laidTests := true, laidLooks := .later }
def CodeEachUptoCardSaid : Prop := Claim7.holds Tryz.pinned (.plain (OpenSpec.upto codeEachSpec)) codeEachUptoCard
end Rows
end Go.Proofs.YtdimcddbmccniaaGreatDoor
