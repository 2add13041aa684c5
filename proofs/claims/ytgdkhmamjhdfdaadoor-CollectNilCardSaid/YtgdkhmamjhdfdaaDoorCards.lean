/-
  DERIVED. GIVEN WITH THE SEED: THE CARDS: each row of YtgdkhmamjhdfdaaDoorRows.lean that lists a variable, with what it lists TIED to the program's text (the seventh form; the later family's looks); each row that meets fmt, with fmt's text TOLD by the authors' own Lean function (tested against real Go, not proved from fmt's source: count such statements apart). THE CARD IS WHAT COUNTS. Prove the row's statement (the work); the ties are given (YtgdkhmamjhdfdaaDoorTie.lean); close each card by the builder's one call (the guide's Derived/Test/ToyasCard.lean, 'card_holds'). Laid BY PROGRAM, IN A SANDBOX (cutbox-door.mjs). By AI agents, Wed Nov 11 2026. No macro, syntax, notation, axiom, sorry.
-/
import Derived.Test.YtgdkhmamjhdfdaaDoorRows
import GoSem.ClaimSeven
namespace Go.Proofs.YtgdkhmamjhdfdaaDoor
namespace Rows

/-- THE TIED CARD OF 'pleachlaw05.CollectNil'. -/
def collectNilCard : Claim7 := { stood := { row := collectNilRow, standIns := [], harness := (true, "2b96fb515facf56ab785358a547bfd82f6f91e4c1dbb26621fe6cb1e606c3812"), looks := true }, kinds := [], alts := [], laidByText := true, laidKinds := [.data], laidTests := true, laidLooks := .later }
def CollectNilCardSaid : Prop := Claim7.holds Tryd.pinned (.plain (OpenSpec.ofChange collectNilSpec)) collectNilCard

/-- THE SECOND FORM's CARD OF 'pleachlaw05.CollectNil'. -/
def collectNilUptoCard : Claim7 := { stood := { row := collectNilUptoRow, standIns := [], harness := (true, "2b96fb515facf56ab785358a547bfd82f6f91e4c1dbb26621fe6cb1e606c3812"), looks := true }, kinds := [], alts := [], laidByText := true, laidKinds := [.data], laidTests := true, laidLooks := .later }
def CollectNilUptoCardSaid : Prop := Claim7.holds Tryd.pinned (.plain (OpenSpec.upto collectNilSpec)) collectNilUptoCard
end Rows
end Go.Proofs.YtgdkhmamjhdfdaaDoor
