/-
  DERIVED. GIVEN WITH THE SEED: THE CARDS: each row of YtkceoiaaiaomoaaGreatDoorRows.lean that lists a variable, with what it lists TIED to the program's text (the seventh form; the later family's looks); each row that meets fmt, with fmt's text TOLD by the authors' own Lean function (tested against real Go, not proved from fmt's source: count such statements apart). THE CARD IS WHAT COUNTS. Prove the row's statement (the work); the ties are given (YtkceoiaaiaomoaaGreatDoorTie.lean); close each card by the builder's one call (the guide's Derived/Test/ToyasCard.lean, 'card_holds'). Laid BY PROGRAM, IN A SANDBOX (cutbox-door.mjs). By AI agents, Wed Nov 11 2026. No macro, syntax, notation, axiom, sorry.
-/
import Derived.Test.YtkceoiaaiaomoaaGreatDoorRows
import GoSem.ClaimSeven
namespace Go.Proofs.YtkceoiaaiaomoaaGreatDoor
namespace Rows

/-- THE TIED CARD OF 'pleachlaw09.RulesTell'. -/
def rulesTellCard : Claim7 := { stood := { row := rulesTellRow, standIns := [], harness := (true, "d6a987499b427d08c7cd532b3caa6486026f78bcc59d563a2bb245098cbd17b6"), looks := true }, kinds := [], alts := [], laidByText := true, laidKinds := [.handle, .data, .data, .data], laidTests := true, laidLooks := .later }
def RulesTellCardSaid : Prop := Claim7.holds Tryz.pinned (.plain (OpenSpec.ofChange rulesTellSpec)) rulesTellCard

/-- THE TIED CARD OF 'pleachlaw10.MatchOne'. -/
def matchOneCard : Claim7 := { stood := { row := matchOneRow, standIns := [], harness := (true, "d6a987499b427d08c7cd532b3caa6486026f78bcc59d563a2bb245098cbd17b6"), looks := true }, kinds := [], alts := [], laidByText := true, laidKinds := [.data, .data, .data], laidTests := true, laidLooks := .later }
def MatchOneCardSaid : Prop := Claim7.holds Tryz.pinned (.plain (OpenSpec.ofChange matchOneSpec)) matchOneCard

/-- THE TIED CARD OF 'pleachlaw10.MatchAll'. -/
def matchAllCard : Claim7 := { stood := { row := matchAllRow, standIns := [], harness := (true, "d6a987499b427d08c7cd532b3caa6486026f78bcc59d563a2bb245098cbd17b6"), looks := true }, kinds := [], alts := [], laidByText := true, laidKinds := [.data, .data, .data], laidTests := true, laidLooks := .later }
def MatchAllCardSaid : Prop := Claim7.holds Tryz.pinned (.plain (OpenSpec.ofChange matchAllSpec)) matchAllCard

/-- THE TIED CARD OF 'pleachlaw10.MatchFill'. -/
def matchFillCard : Claim7 := { stood := { row := matchFillRow, standIns := [], harness := (true, "d6a987499b427d08c7cd532b3caa6486026f78bcc59d563a2bb245098cbd17b6"), looks := true }, kinds := [], alts := [], laidByText := true, laidKinds := [.data, .data, .data], laidTests := true, laidLooks := .later }
def MatchFillCardSaid : Prop := Claim7.holds Tryz.pinned (.plain (OpenSpec.ofChange matchFillSpec)) matchFillCard

/-- THE TIED CARD OF 'pleachlaw10.MatchMore'. -/
def matchMoreCard : Claim7 := { stood := { row := matchMoreRow, standIns := [], harness := (true, "d6a987499b427d08c7cd532b3caa6486026f78bcc59d563a2bb245098cbd17b6"), looks := true }, kinds := [], alts := [], laidByText := true, laidKinds := [.data, .data, .data], laidTests := true, laidLooks := .later }
def MatchMoreCardSaid : Prop := Claim7.holds Tryz.pinned (.plain (OpenSpec.ofChange matchMoreSpec)) matchMoreCard

/-- THE TIED CARD OF 'pleachlaw11.GuardTells'. -/
def guardTellsCard : Claim7 := { stood := { row := guardTellsRow, standIns := [], harness := (true, "d6a987499b427d08c7cd532b3caa6486026f78bcc59d563a2bb245098cbd17b6"), looks := true }, kinds := [], alts := [], laidByText := true, laidKinds := [.data, .data, .data, .data], laidTests := true, laidLooks := .later }
def GuardTellsCardSaid : Prop := Claim7.holds Tryz.pinned (.plain (OpenSpec.ofChange guardTellsSpec)) guardTellsCard

/-- THE SECOND FORM's CARD OF 'pleachlaw09.RulesTell'. -/
def rulesTellUptoCard : Claim7 := { stood := { row := rulesTellUptoRow, standIns := [], harness := (true, "d6a987499b427d08c7cd532b3caa6486026f78bcc59d563a2bb245098cbd17b6"), looks := true }, kinds := [], alts := [], laidByText := true, laidKinds := [.handle, .data, .data, .data], laidTests := true, laidLooks := .later }
def RulesTellUptoCardSaid : Prop := Claim7.holds Tryz.pinned (.plain (OpenSpec.upto rulesTellSpec)) rulesTellUptoCard

/-- THE SECOND FORM's CARD OF 'pleachlaw10.MatchOne'. -/
def matchOneUptoCard : Claim7 := { stood := { row := matchOneUptoRow, standIns := [], harness := (true, "d6a987499b427d08c7cd532b3caa6486026f78bcc59d563a2bb245098cbd17b6"), looks := true }, kinds := [], alts := [], laidByText := true, laidKinds := [.data, .data, .data], laidTests := true, laidLooks := .later }
def MatchOneUptoCardSaid : Prop := Claim7.holds Tryz.pinned (.plain (OpenSpec.upto matchOneSpec)) matchOneUptoCard

/-- THE SECOND FORM's CARD OF 'pleachlaw10.MatchAll'. -/
def matchAllUptoCard : Claim7 := { stood := { row := matchAllUptoRow, standIns := [], harness := (true, "d6a987499b427d08c7cd532b3caa6486026f78bcc59d563a2bb245098cbd17b6"), looks := true }, kinds := [], alts := [], laidByText := true, laidKinds := [.data, .data, .data], laidTests := true, laidLooks := .later }
def MatchAllUptoCardSaid : Prop := Claim7.holds Tryz.pinned (.plain (OpenSpec.upto matchAllSpec)) matchAllUptoCard

/-- THE SECOND FORM's CARD OF 'pleachlaw10.MatchFill'. -/
def matchFillUptoCard : Claim7 := { stood := { row := matchFillUptoRow, standIns := [], harness := (true, "d6a987499b427d08c7cd532b3caa6486026f78bcc59d563a2bb245098cbd17b6"), looks := true }, kinds := [], alts := [], laidByText := true, laidKinds := [.data, .data, .data], laidTests := true, laidLooks := .later }
def MatchFillUptoCardSaid : Prop := Claim7.holds Tryz.pinned (.plain (OpenSpec.upto matchFillSpec)) matchFillUptoCard

/-- THE SECOND FORM's CARD OF 'pleachlaw10.MatchMore'. -/
def matchMoreUptoCard : Claim7 := { stood := { row := matchMoreUptoRow, standIns := [], harness := (true, "d6a987499b427d08c7cd532b3caa6486026f78bcc59d563a2bb245098cbd17b6"), looks := true }, kinds := [], alts := [], laidByText := true, laidKinds := [.data, .data, .data], laidTests := true, laidLooks := .later }
def MatchMoreUptoCardSaid : Prop := Claim7.holds Tryz.pinned (.plain (OpenSpec.upto matchMoreSpec)) matchMoreUptoCard

/-- THE SECOND FORM's CARD OF 'pleachlaw11.GuardTells'. -/
def guardTellsUptoCard : Claim7 := { stood := { row := guardTellsUptoRow, standIns := [], harness := (true, "d6a987499b427d08c7cd532b3caa6486026f78bcc59d563a2bb245098cbd17b6"), looks := true }, kinds := [], alts := [], laidByText := true, laidKinds := [.data, .data, .data, .data], laidTests := true, laidLooks := .later }
def GuardTellsUptoCardSaid : Prop := Claim7.holds Tryz.pinned (.plain (OpenSpec.upto guardTellsSpec)) guardTellsUptoCard
end Rows
end Go.Proofs.YtkceoiaaiaomoaaGreatDoor
