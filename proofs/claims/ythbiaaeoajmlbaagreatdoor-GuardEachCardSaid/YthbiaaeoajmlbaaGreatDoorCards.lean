/-
  DERIVED. GIVEN WITH THE SEED: THE CARDS: each row of YthbiaaeoajmlbaaGreatDoorRows.lean that lists a variable, with what it lists TIED to the program's text (the seventh form; the later family's looks); each row that meets fmt, with fmt's text TOLD by the authors' own Lean function (tested against real Go, not proved from fmt's source: count such statements apart). THE CARD IS WHAT COUNTS. Prove the row's statement (the work); the ties are given (YthbiaaeoajmlbaaGreatDoorTie.lean); close each card by the builder's one call (the guide's Derived/Test/ToyasCard.lean, 'card_holds'). Laid BY PROGRAM, IN A SANDBOX (cutbox-door.mjs). By AI agents, Wed Nov 11 2026. No macro, syntax, notation, axiom, sorry.
-/
import Derived.Test.YthbiaaeoajmlbaaGreatDoorRows
import GoSem.ClaimSeven
namespace Go.Proofs.YthbiaaeoajmlbaaGreatDoor
namespace Rows

/-- THE TIED CARD OF 'pleachlaw09.RulesTell'. -/
def rulesTellCard : Claim7 := { stood := { row := rulesTellRow, standIns := [], harness := (true, "621286d938b6012e4948dd08ece3caaf98b75e3e7bf540e4846e77ec84dda1ab"), looks := true }, kinds := [], alts := [], laidByText := true, laidKinds := [.handle, .data, .data, .data], laidTests := true, laidLooks := .later }
def RulesTellCardSaid : Prop := Claim7.holds Tryz.pinned (.plain (OpenSpec.ofChange rulesTellSpec)) rulesTellCard

/-- THE TIED CARD OF 'pleachlaw09.RulesTwice'. -/
def rulesTwiceCard : Claim7 := { stood := { row := rulesTwiceRow, standIns := [], harness := (true, "621286d938b6012e4948dd08ece3caaf98b75e3e7bf540e4846e77ec84dda1ab"), looks := true }, kinds := [], alts := [], laidByText := true, laidKinds := [.handle, .data, .data, .data], laidTests := true, laidLooks := .later }
def RulesTwiceCardSaid : Prop := Claim7.holds Tryz.pinned (.plain (OpenSpec.ofChange rulesTwiceSpec)) rulesTwiceCard

/-- THE TIED CARD OF 'pleachlaw10.MatchOne'. -/
def matchOneCard : Claim7 := { stood := { row := matchOneRow, standIns := [], harness := (true, "621286d938b6012e4948dd08ece3caaf98b75e3e7bf540e4846e77ec84dda1ab"), looks := true }, kinds := [], alts := [], laidByText := true, laidKinds := [.data, .data, .data], laidTests := true, laidLooks := .later }
def MatchOneCardSaid : Prop := Claim7.holds Tryz.pinned (.plain (OpenSpec.ofChange matchOneSpec)) matchOneCard

/-- THE TIED CARD OF 'pleachlaw10.MatchAll'. -/
def matchAllCard : Claim7 := { stood := { row := matchAllRow, standIns := [], harness := (true, "621286d938b6012e4948dd08ece3caaf98b75e3e7bf540e4846e77ec84dda1ab"), looks := true }, kinds := [], alts := [], laidByText := true, laidKinds := [.data, .data, .data], laidTests := true, laidLooks := .later }
def MatchAllCardSaid : Prop := Claim7.holds Tryz.pinned (.plain (OpenSpec.ofChange matchAllSpec)) matchAllCard

/-- THE TIED CARD OF 'pleachlaw10.MatchFill'. -/
def matchFillCard : Claim7 := { stood := { row := matchFillRow, standIns := [], harness := (true, "621286d938b6012e4948dd08ece3caaf98b75e3e7bf540e4846e77ec84dda1ab"), looks := true }, kinds := [], alts := [], laidByText := true, laidKinds := [.data, .data, .data], laidTests := true, laidLooks := .later }
def MatchFillCardSaid : Prop := Claim7.holds Tryz.pinned (.plain (OpenSpec.ofChange matchFillSpec)) matchFillCard

/-- THE TIED CARD OF 'pleachlaw10.MatchMore'. -/
def matchMoreCard : Claim7 := { stood := { row := matchMoreRow, standIns := [], harness := (true, "621286d938b6012e4948dd08ece3caaf98b75e3e7bf540e4846e77ec84dda1ab"), looks := true }, kinds := [], alts := [], laidByText := true, laidKinds := [.data, .data, .data], laidTests := true, laidLooks := .later }
def MatchMoreCardSaid : Prop := Claim7.holds Tryz.pinned (.plain (OpenSpec.ofChange matchMoreSpec)) matchMoreCard

/-- THE TIED CARD OF 'pleachlaw11.GuardTells'. -/
def guardTellsCard : Claim7 := { stood := { row := guardTellsRow, standIns := [], harness := (true, "621286d938b6012e4948dd08ece3caaf98b75e3e7bf540e4846e77ec84dda1ab"), looks := true }, kinds := [], alts := [], laidByText := true, laidKinds := [.data, .data, .data, .data], laidTests := true, laidLooks := .later }
def GuardTellsCardSaid : Prop := Claim7.holds Tryz.pinned (.plain (OpenSpec.ofChange guardTellsSpec)) guardTellsCard

/-- THE TIED CARD OF 'pleachlaw11.GuardEach'. -/
def guardEachCard : Claim7 := { stood := { row := guardEachRow, standIns := [], harness := (true, "621286d938b6012e4948dd08ece3caaf98b75e3e7bf540e4846e77ec84dda1ab"), looks := true }, kinds := [], alts := [], laidByText := true, laidKinds := [.data, .data, .data, .data], laidTests := true, laidLooks := .later }
def GuardEachCardSaid : Prop := Claim7.holds Tryz.pinned (.plain (OpenSpec.ofChange guardEachSpec)) guardEachCard

/-- THE TIED CARD OF 'pleachlaw11.GuardNots'. -/
def guardNotsCard : Claim7 := { stood := { row := guardNotsRow, standIns := [], harness := (true, "621286d938b6012e4948dd08ece3caaf98b75e3e7bf540e4846e77ec84dda1ab"), looks := true }, kinds := [], alts := [], laidByText := true, laidKinds := [.data, .data, .data, .data], laidTests := true, laidLooks := .later }
def GuardNotsCardSaid : Prop := Claim7.holds Tryz.pinned (.plain (OpenSpec.ofChange guardNotsSpec)) guardNotsCard

/-- THE TIED CARD OF 'pleachlaw11.GuardFirst'. -/
def guardFirstCard : Claim7 := { stood := { row := guardFirstRow, standIns := [], harness := (true, "621286d938b6012e4948dd08ece3caaf98b75e3e7bf540e4846e77ec84dda1ab"), looks := true }, kinds := [], alts := [], laidByText := true, laidKinds := [.data, .data, .data, .data], laidTests := true, laidLooks := .later }
def GuardFirstCardSaid : Prop := Claim7.holds Tryz.pinned (.plain (OpenSpec.ofChange guardFirstSpec)) guardFirstCard

/-- THE SECOND FORM's CARD OF 'pleachlaw09.RulesTell'. -/
def rulesTellUptoCard : Claim7 := { stood := { row := rulesTellUptoRow, standIns := [], harness := (true, "621286d938b6012e4948dd08ece3caaf98b75e3e7bf540e4846e77ec84dda1ab"), looks := true }, kinds := [], alts := [], laidByText := true, laidKinds := [.handle, .data, .data, .data], laidTests := true, laidLooks := .later }
def RulesTellUptoCardSaid : Prop := Claim7.holds Tryz.pinned (.plain (OpenSpec.upto rulesTellSpec)) rulesTellUptoCard

/-- THE SECOND FORM's CARD OF 'pleachlaw09.RulesTwice'. -/
def rulesTwiceUptoCard : Claim7 := { stood := { row := rulesTwiceUptoRow, standIns := [], harness := (true, "621286d938b6012e4948dd08ece3caaf98b75e3e7bf540e4846e77ec84dda1ab"), looks := true }, kinds := [], alts := [], laidByText := true, laidKinds := [.handle, .data, .data, .data], laidTests := true, laidLooks := .later }
def RulesTwiceUptoCardSaid : Prop := Claim7.holds Tryz.pinned (.plain (OpenSpec.upto rulesTwiceSpec)) rulesTwiceUptoCard

/-- THE SECOND FORM's CARD OF 'pleachlaw10.MatchOne'. -/
def matchOneUptoCard : Claim7 := { stood := { row := matchOneUptoRow, standIns := [], harness := (true, "621286d938b6012e4948dd08ece3caaf98b75e3e7bf540e4846e77ec84dda1ab"), looks := true }, kinds := [], alts := [], laidByText := true, laidKinds := [.data, .data, .data], laidTests := true, laidLooks := .later }
def MatchOneUptoCardSaid : Prop := Claim7.holds Tryz.pinned (.plain (OpenSpec.upto matchOneSpec)) matchOneUptoCard

/-- THE SECOND FORM's CARD OF 'pleachlaw10.MatchAll'. -/
def matchAllUptoCard : Claim7 := { stood := { row := matchAllUptoRow, standIns := [], harness := (true, "621286d938b6012e4948dd08ece3caaf98b75e3e7bf540e4846e77ec84dda1ab"), looks := true }, kinds := [], alts := [], laidByText := true, laidKinds := [.data, .data, .data], laidTests := true, laidLooks := .later }
def MatchAllUptoCardSaid : Prop := Claim7.holds Tryz.pinned (.plain (OpenSpec.upto matchAllSpec)) matchAllUptoCard

/-- THE SECOND FORM's CARD OF 'pleachlaw10.MatchFill'. -/
def matchFillUptoCard : Claim7 := { stood := { row := matchFillUptoRow, standIns := [], harness := (true, "621286d938b6012e4948dd08ece3caaf98b75e3e7bf540e4846e77ec84dda1ab"), looks := true }, kinds := [], alts := [], laidByText := true, laidKinds := [.data, .data, .data], laidTests := true, laidLooks := .later }
def MatchFillUptoCardSaid : Prop := Claim7.holds Tryz.pinned (.plain (OpenSpec.upto matchFillSpec)) matchFillUptoCard

/-- THE SECOND FORM's CARD OF 'pleachlaw10.MatchMore'. -/
def matchMoreUptoCard : Claim7 := { stood := { row := matchMoreUptoRow, standIns := [], harness := (true, "621286d938b6012e4948dd08ece3caaf98b75e3e7bf540e4846e77ec84dda1ab"), looks := true }, kinds := [], alts := [], laidByText := true, laidKinds := [.data, .data, .data], laidTests := true, laidLooks := .later }
def MatchMoreUptoCardSaid : Prop := Claim7.holds Tryz.pinned (.plain (OpenSpec.upto matchMoreSpec)) matchMoreUptoCard

/-- THE SECOND FORM's CARD OF 'pleachlaw11.GuardTells'. -/
def guardTellsUptoCard : Claim7 := { stood := { row := guardTellsUptoRow, standIns := [], harness := (true, "621286d938b6012e4948dd08ece3caaf98b75e3e7bf540e4846e77ec84dda1ab"), looks := true }, kinds := [], alts := [], laidByText := true, laidKinds := [.data, .data, .data, .data], laidTests := true, laidLooks := .later }
def GuardTellsUptoCardSaid : Prop := Claim7.holds Tryz.pinned (.plain (OpenSpec.upto guardTellsSpec)) guardTellsUptoCard

/-- THE SECOND FORM's CARD OF 'pleachlaw11.GuardEach'. -/
def guardEachUptoCard : Claim7 := { stood := { row := guardEachUptoRow, standIns := [], harness := (true, "621286d938b6012e4948dd08ece3caaf98b75e3e7bf540e4846e77ec84dda1ab"), looks := true }, kinds := [], alts := [], laidByText := true, laidKinds := [.data, .data, .data, .data], laidTests := true, laidLooks := .later }
def GuardEachUptoCardSaid : Prop := Claim7.holds Tryz.pinned (.plain (OpenSpec.upto guardEachSpec)) guardEachUptoCard

/-- THE SECOND FORM's CARD OF 'pleachlaw11.GuardNots'. -/
def guardNotsUptoCard : Claim7 := { stood := { row := guardNotsUptoRow, standIns := [], harness := (true, "621286d938b6012e4948dd08ece3caaf98b75e3e7bf540e4846e77ec84dda1ab"), looks := true }, kinds := [], alts := [], laidByText := true, laidKinds := [.data, .data, .data, .data], laidTests := true, laidLooks := .later }
def GuardNotsUptoCardSaid : Prop := Claim7.holds Tryz.pinned (.plain (OpenSpec.upto guardNotsSpec)) guardNotsUptoCard

/-- THE SECOND FORM's CARD OF 'pleachlaw11.GuardFirst'. -/
def guardFirstUptoCard : Claim7 := { stood := { row := guardFirstUptoRow, standIns := [], harness := (true, "621286d938b6012e4948dd08ece3caaf98b75e3e7bf540e4846e77ec84dda1ab"), looks := true }, kinds := [], alts := [], laidByText := true, laidKinds := [.data, .data, .data, .data], laidTests := true, laidLooks := .later }
def GuardFirstUptoCardSaid : Prop := Claim7.holds Tryz.pinned (.plain (OpenSpec.upto guardFirstSpec)) guardFirstUptoCard
end Rows
end Go.Proofs.YthbiaaeoajmlbaaGreatDoor
