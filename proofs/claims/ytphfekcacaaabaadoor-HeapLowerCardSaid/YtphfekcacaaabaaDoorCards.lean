/-
  DERIVED. GIVEN WITH THE SEED: THE CARDS: each row of YtphfekcacaaabaaDoorRows.lean that lists a variable, with what it lists TIED to the program's text (the seventh form; the later family's looks); each row that meets fmt, with fmt's text TOLD by the authors' own Lean function (tested against real Go, not proved from fmt's source: count such statements apart). THE CARD IS WHAT COUNTS. Prove the row's statement (the work); the ties are given (YtphfekcacaaabaaDoorTie.lean); close each card by the builder's one call (the guide's Derived/Test/ToyasCard.lean, 'card_holds'). Laid BY PROGRAM, IN A SANDBOX (cutbox-door.mjs). By AI agents, Wed Nov 11 2026. No macro, syntax, notation, axiom, sorry.
-/
import Derived.Test.YtphfekcacaaabaaDoorRows
import GoSem.ClaimSeven
namespace Go.Proofs.YtphfekcacaaabaaDoor
namespace Rows

/-- THE TIED CARD OF 'pleachlaw04.HeapNil'. -/
def heapNilCard : Claim7 := { stood := { row := heapNilRow, standIns := [], harness := (true, "cf6810b7208e3889fc5da475885713c23a9a3465a0b7ea653de540bc8811a872"), looks := true }, kinds := [], alts := [], laidByText := true, laidKinds := [.data, .data, .data, .data], laidTests := true, laidLooks := .later }
def HeapNilCardSaid : Prop := Claim7.holds Tryd.pinned (.plain (OpenSpec.ofChange heapNilSpec)) heapNilCard

/-- THE TIED CARD OF 'pleachlaw04.HeapBack'. -/
def heapBackCard : Claim7 := { stood := { row := heapBackRow, standIns := [], harness := (true, "cf6810b7208e3889fc5da475885713c23a9a3465a0b7ea653de540bc8811a872"), looks := true }, kinds := [], alts := [], laidByText := true, laidKinds := [.data, .data, .data, .data], laidTests := true, laidLooks := .later }
def HeapBackCardSaid : Prop := Claim7.holds Tryd.pinned (.plain (OpenSpec.ofChange heapBackSpec)) heapBackCard

/-- THE TIED CARD OF 'pleachlaw04.HeapLower'. -/
def heapLowerCard : Claim7 := { stood := { row := heapLowerRow, standIns := [], harness := (true, "cf6810b7208e3889fc5da475885713c23a9a3465a0b7ea653de540bc8811a872"), looks := true }, kinds := [], alts := [], laidByText := true, laidKinds := [.data, .data, .data, .data], laidTests := true, laidLooks := .later }
def HeapLowerCardSaid : Prop := Claim7.holds Tryd.pinned (.plain (OpenSpec.ofChange heapLowerSpec)) heapLowerCard

/-- THE TIED CARD OF 'pleachlaw05.CollectNil'. -/
def collectNilCard : Claim7 := { stood := { row := collectNilRow, standIns := [], harness := (true, "cf6810b7208e3889fc5da475885713c23a9a3465a0b7ea653de540bc8811a872"), looks := true }, kinds := [], alts := [], laidByText := true, laidKinds := [.data], laidTests := true, laidLooks := .later }
def CollectNilCardSaid : Prop := Claim7.holds Tryd.pinned (.plain (OpenSpec.ofChange collectNilSpec)) collectNilCard

/-- THE SECOND FORM's CARD OF 'pleachlaw04.HeapNil'. -/
def heapNilUptoCard : Claim7 := { stood := { row := heapNilUptoRow, standIns := [], harness := (true, "cf6810b7208e3889fc5da475885713c23a9a3465a0b7ea653de540bc8811a872"), looks := true }, kinds := [], alts := [], laidByText := true, laidKinds := [.data, .data, .data, .data], laidTests := true, laidLooks := .later }
def HeapNilUptoCardSaid : Prop := Claim7.holds Tryd.pinned (.plain (OpenSpec.upto heapNilSpec)) heapNilUptoCard

/-- THE SECOND FORM's CARD OF 'pleachlaw04.HeapBack'. -/
def heapBackUptoCard : Claim7 := { stood := { row := heapBackUptoRow, standIns := [], harness := (true, "cf6810b7208e3889fc5da475885713c23a9a3465a0b7ea653de540bc8811a872"), looks := true }, kinds := [], alts := [], laidByText := true, laidKinds := [.data, .data, .data, .data], laidTests := true, laidLooks := .later }
def HeapBackUptoCardSaid : Prop := Claim7.holds Tryd.pinned (.plain (OpenSpec.upto heapBackSpec)) heapBackUptoCard

/-- THE SECOND FORM's CARD OF 'pleachlaw04.HeapLower'. -/
def heapLowerUptoCard : Claim7 := { stood := { row := heapLowerUptoRow, standIns := [], harness := (true, "cf6810b7208e3889fc5da475885713c23a9a3465a0b7ea653de540bc8811a872"), looks := true }, kinds := [], alts := [], laidByText := true, laidKinds := [.data, .data, .data, .data], laidTests := true, laidLooks := .later }
def HeapLowerUptoCardSaid : Prop := Claim7.holds Tryd.pinned (.plain (OpenSpec.upto heapLowerSpec)) heapLowerUptoCard

/-- THE SECOND FORM's CARD OF 'pleachlaw05.CollectNil'. -/
def collectNilUptoCard : Claim7 := { stood := { row := collectNilUptoRow, standIns := [], harness := (true, "cf6810b7208e3889fc5da475885713c23a9a3465a0b7ea653de540bc8811a872"), looks := true }, kinds := [], alts := [], laidByText := true, laidKinds := [.data], laidTests := true, laidLooks := .later }
def CollectNilUptoCardSaid : Prop := Claim7.holds Tryd.pinned (.plain (OpenSpec.upto collectNilSpec)) collectNilUptoCard
end Rows
end Go.Proofs.YtphfekcacaaabaaDoor
