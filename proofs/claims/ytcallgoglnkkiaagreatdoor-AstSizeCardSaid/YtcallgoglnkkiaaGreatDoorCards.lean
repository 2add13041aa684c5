/-
  DERIVED. GIVEN WITH THE SEED: THE CARDS: each row of YtcallgoglnkkiaaGreatDoorRows.lean that lists a variable, with what it lists TIED to the program's text (the seventh form; the later family's looks); each row that meets fmt, with fmt's text TOLD by the authors' own Lean function (tested against real Go, not proved from fmt's source: count such statements apart). THE CARD IS WHAT COUNTS. Prove the row's statement (the work); the ties are given (YtcallgoglnkkiaaGreatDoorTie.lean); close each card by the builder's one call (the guide's Derived/Test/ToyasCard.lean, 'card_holds'). Laid BY PROGRAM, IN A SANDBOX (cutbox-door.mjs). By AI agents, Wed Nov 11 2026. No macro, syntax, notation, axiom, sorry.
-/
import Derived.Test.YtcallgoglnkkiaaGreatDoorRows
import GoSem.ClaimSeven
namespace Go.Proofs.YtcallgoglnkkiaaGreatDoor
namespace Rows

/-- THE TIED CARD OF 'pleachlaw07.AstOne'. -/
def astOneCard : Claim7 := { stood := { row := astOneRow, standIns := [], harness := (true, "37aadaca425f4490e7705fe7328b9424388ce56a5a01a0edf64b1b51c284de07"), looks := false }, kinds := [], alts := [], laidByText := true, laidKinds := [.data, .data, .data, .data, .data, .data], laidTests := true, laidLooks := .later }
def AstOneCardSaid : Prop := Claim7.holds Tryz.pinned (.plain (OpenSpec.ofChange astOneSpec)) astOneCard

/-- THE TIED CARD OF 'pleachlaw07.AstParts'. -/
def astPartsCard : Claim7 := { stood := { row := astPartsRow, standIns := [], harness := (true, "37aadaca425f4490e7705fe7328b9424388ce56a5a01a0edf64b1b51c284de07"), looks := false }, kinds := [], alts := [], laidByText := true, laidKinds := [.data, .data, .data, .data, .data, .data], laidTests := true, laidLooks := .later }
def AstPartsCardSaid : Prop := Claim7.holds Tryz.pinned (.plain (OpenSpec.ofChange astPartsSpec)) astPartsCard

/-- THE TIED CARD OF 'pleachlaw07.AstSize'. -/
def astSizeCard : Claim7 := { stood := { row := astSizeRow, standIns := [], harness := (true, "37aadaca425f4490e7705fe7328b9424388ce56a5a01a0edf64b1b51c284de07"), looks := false }, kinds := [], alts := [], laidByText := true, laidKinds := [.data, .data, .data, .data, .data, .data], laidTests := true, laidLooks := .later }
def AstSizeCardSaid : Prop := Claim7.holds Tryz.pinned (.plain (OpenSpec.ofChange astSizeSpec)) astSizeCard

/-- THE TIED CARD OF 'pleachlaw07.AstWraps'. -/
def astWrapsCard : Claim7 := { stood := { row := astWrapsRow, standIns := [], harness := (true, "37aadaca425f4490e7705fe7328b9424388ce56a5a01a0edf64b1b51c284de07"), looks := false }, kinds := [], alts := [], laidByText := true, laidKinds := [.data, .data, .data, .data, .data, .data], laidTests := true, laidLooks := .later }
def AstWrapsCardSaid : Prop := Claim7.holds Tryz.pinned (.plain (OpenSpec.ofChange astWrapsSpec)) astWrapsCard

/-- THE SECOND FORM's CARD OF 'pleachlaw07.AstOne'. -/
def astOneUptoCard : Claim7 := { stood := { row := astOneUptoRow, standIns := [], harness := (true, "37aadaca425f4490e7705fe7328b9424388ce56a5a01a0edf64b1b51c284de07"), looks := false }, kinds := [], alts := [], laidByText := true, laidKinds := [.data, .data, .data, .data, .data, .data], laidTests := true, laidLooks := .later }
def AstOneUptoCardSaid : Prop := Claim7.holds Tryz.pinned (.plain (OpenSpec.upto astOneSpec)) astOneUptoCard

/-- THE SECOND FORM's CARD OF 'pleachlaw07.AstParts'. -/
def astPartsUptoCard : Claim7 := { stood := { row := astPartsUptoRow, standIns := [], harness := (true, "37aadaca425f4490e7705fe7328b9424388ce56a5a01a0edf64b1b51c284de07"), looks := false }, kinds := [], alts := [], laidByText := true, laidKinds := [.data, .data, .data, .data, .data, .data], laidTests := true, laidLooks := .later }
def AstPartsUptoCardSaid : Prop := Claim7.holds Tryz.pinned (.plain (OpenSpec.upto astPartsSpec)) astPartsUptoCard

/-- THE SECOND FORM's CARD OF 'pleachlaw07.AstSize'. -/
def astSizeUptoCard : Claim7 := { stood := { row := astSizeUptoRow, standIns := [], harness := (true, "37aadaca425f4490e7705fe7328b9424388ce56a5a01a0edf64b1b51c284de07"), looks := false }, kinds := [], alts := [], laidByText := true, laidKinds := [.data, .data, .data, .data, .data, .data], laidTests := true, laidLooks := .later }
def AstSizeUptoCardSaid : Prop := Claim7.holds Tryz.pinned (.plain (OpenSpec.upto astSizeSpec)) astSizeUptoCard

/-- THE SECOND FORM's CARD OF 'pleachlaw07.AstWraps'. -/
def astWrapsUptoCard : Claim7 := { stood := { row := astWrapsUptoRow, standIns := [], harness := (true, "37aadaca425f4490e7705fe7328b9424388ce56a5a01a0edf64b1b51c284de07"), looks := false }, kinds := [], alts := [], laidByText := true, laidKinds := [.data, .data, .data, .data, .data, .data], laidTests := true, laidLooks := .later }
def AstWrapsUptoCardSaid : Prop := Claim7.holds Tryz.pinned (.plain (OpenSpec.upto astWrapsSpec)) astWrapsUptoCard
end Rows
end Go.Proofs.YtcallgoglnkkiaaGreatDoor
