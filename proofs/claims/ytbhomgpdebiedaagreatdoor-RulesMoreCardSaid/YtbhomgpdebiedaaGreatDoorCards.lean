/-
  DERIVED. GIVEN WITH THE SEED: THE CARDS: each row of YtbhomgpdebiedaaGreatDoorRows.lean that lists a variable, with what it lists TIED to the program's text (the seventh form; the later family's looks); each row that meets fmt, with fmt's text TOLD by the authors' own Lean function (tested against real Go, not proved from fmt's source: count such statements apart). THE CARD IS WHAT COUNTS. Prove the row's statement (the work); the ties are given (YtbhomgpdebiedaaGreatDoorTie.lean); close each card by the builder's one call (the guide's Derived/Test/ToyasCard.lean, 'card_holds'). Laid BY PROGRAM, IN A SANDBOX (cutbox-door.mjs). By AI agents, Wed Nov 11 2026. No macro, syntax, notation, axiom, sorry.
-/
import Derived.Test.YtbhomgpdebiedaaGreatDoorRows
import GoSem.ClaimSeven
namespace Go.Proofs.YtbhomgpdebiedaaGreatDoor
namespace Rows

/-- THE TIED CARD OF 'pleachlaw09.RulesTell'. -/
def rulesTellCard : Claim7 := { stood := { row := rulesTellRow, standIns := [], harness := (true, "d109de5dd6743712ba9ef7630c51ac6d1f04a625b81820b5726dc1948049e511"), looks := true }, kinds := [], alts := [], laidByText := true, laidKinds := [.handle, .data, .data, .data], laidTests := true, laidLooks := .later }
def RulesTellCardSaid : Prop := Claim7.holds Tryz.pinned (.plain (OpenSpec.ofChange rulesTellSpec)) rulesTellCard

/-- THE TIED CARD OF 'pleachlaw09.RulesMore'. -/
def rulesMoreCard : Claim7 := { stood := { row := rulesMoreRow, standIns := [], harness := (true, "d109de5dd6743712ba9ef7630c51ac6d1f04a625b81820b5726dc1948049e511"), looks := true }, kinds := [], alts := [], laidByText := true, laidKinds := [.handle, .data, .data, .data], laidTests := true, laidLooks := .later }
def RulesMoreCardSaid : Prop := Claim7.holds Tryz.pinned (.plain (OpenSpec.ofChange rulesMoreSpec)) rulesMoreCard

/-- THE TIED CARD OF 'pleachlaw09.RulesTwice'. -/
def rulesTwiceCard : Claim7 := { stood := { row := rulesTwiceRow, standIns := [], harness := (true, "d109de5dd6743712ba9ef7630c51ac6d1f04a625b81820b5726dc1948049e511"), looks := true }, kinds := [], alts := [], laidByText := true, laidKinds := [.handle, .data, .data, .data], laidTests := true, laidLooks := .later }
def RulesTwiceCardSaid : Prop := Claim7.holds Tryz.pinned (.plain (OpenSpec.ofChange rulesTwiceSpec)) rulesTwiceCard

/-- THE TIED CARD OF 'pleachlaw09.RulesBound'. -/
def rulesBoundCard : Claim7 := { stood := { row := rulesBoundRow, standIns := [], harness := (true, "d109de5dd6743712ba9ef7630c51ac6d1f04a625b81820b5726dc1948049e511"), looks := true }, kinds := [], alts := [], laidByText := true, laidKinds := [.handle, .data, .data, .data], laidTests := true, laidLooks := .later }
def RulesBoundCardSaid : Prop := Claim7.holds Tryz.pinned (.plain (OpenSpec.ofChange rulesBoundSpec)) rulesBoundCard

/-- THE TIED CARD OF 'pleachlaw10.MatchOne'. -/
def matchOneCard : Claim7 := { stood := { row := matchOneRow, standIns := [], harness := (true, "d109de5dd6743712ba9ef7630c51ac6d1f04a625b81820b5726dc1948049e511"), looks := true }, kinds := [], alts := [], laidByText := true, laidKinds := [.data, .data, .data], laidTests := true, laidLooks := .later }
def MatchOneCardSaid : Prop := Claim7.holds Tryz.pinned (.plain (OpenSpec.ofChange matchOneSpec)) matchOneCard

/-- THE TIED CARD OF 'pleachlaw10.MatchAll'. -/
def matchAllCard : Claim7 := { stood := { row := matchAllRow, standIns := [], harness := (true, "d109de5dd6743712ba9ef7630c51ac6d1f04a625b81820b5726dc1948049e511"), looks := true }, kinds := [], alts := [], laidByText := true, laidKinds := [.data, .data, .data], laidTests := true, laidLooks := .later }
def MatchAllCardSaid : Prop := Claim7.holds Tryz.pinned (.plain (OpenSpec.ofChange matchAllSpec)) matchAllCard

/-- THE TIED CARD OF 'pleachlaw10.MatchFill'. -/
def matchFillCard : Claim7 := { stood := { row := matchFillRow, standIns := [], harness := (true, "d109de5dd6743712ba9ef7630c51ac6d1f04a625b81820b5726dc1948049e511"), looks := true }, kinds := [], alts := [], laidByText := true, laidKinds := [.data, .data, .data], laidTests := true, laidLooks := .later }
def MatchFillCardSaid : Prop := Claim7.holds Tryz.pinned (.plain (OpenSpec.ofChange matchFillSpec)) matchFillCard

/-- THE TIED CARD OF 'pleachlaw10.MatchMore'. -/
def matchMoreCard : Claim7 := { stood := { row := matchMoreRow, standIns := [], harness := (true, "d109de5dd6743712ba9ef7630c51ac6d1f04a625b81820b5726dc1948049e511"), looks := true }, kinds := [], alts := [], laidByText := true, laidKinds := [.data, .data, .data], laidTests := true, laidLooks := .later }
def MatchMoreCardSaid : Prop := Claim7.holds Tryz.pinned (.plain (OpenSpec.ofChange matchMoreSpec)) matchMoreCard

/-- THE SECOND FORM's CARD OF 'pleachlaw09.RulesTell'. -/
def rulesTellUptoCard : Claim7 := { stood := { row := rulesTellUptoRow, standIns := [], harness := (true, "d109de5dd6743712ba9ef7630c51ac6d1f04a625b81820b5726dc1948049e511"), looks := true }, kinds := [], alts := [], laidByText := true, laidKinds := [.handle, .data, .data, .data], laidTests := true, laidLooks := .later }
def RulesTellUptoCardSaid : Prop := Claim7.holds Tryz.pinned (.plain (OpenSpec.upto rulesTellSpec)) rulesTellUptoCard

/-- THE SECOND FORM's CARD OF 'pleachlaw09.RulesMore'. -/
def rulesMoreUptoCard : Claim7 := { stood := { row := rulesMoreUptoRow, standIns := [], harness := (true, "d109de5dd6743712ba9ef7630c51ac6d1f04a625b81820b5726dc1948049e511"), looks := true }, kinds := [], alts := [], laidByText := true, laidKinds := [.handle, .data, .data, .data], laidTests := true, laidLooks := .later }
def RulesMoreUptoCardSaid : Prop := Claim7.holds Tryz.pinned (.plain (OpenSpec.upto rulesMoreSpec)) rulesMoreUptoCard

/-- THE SECOND FORM's CARD OF 'pleachlaw09.RulesTwice'. -/
def rulesTwiceUptoCard : Claim7 := { stood := { row := rulesTwiceUptoRow, standIns := [], harness := (true, "d109de5dd6743712ba9ef7630c51ac6d1f04a625b81820b5726dc1948049e511"), looks := true }, kinds := [], alts := [], laidByText := true, laidKinds := [.handle, .data, .data, .data], laidTests := true, laidLooks := .later }
def RulesTwiceUptoCardSaid : Prop := Claim7.holds Tryz.pinned (.plain (OpenSpec.upto rulesTwiceSpec)) rulesTwiceUptoCard

/-- THE SECOND FORM's CARD OF 'pleachlaw09.RulesBound'. -/
def rulesBoundUptoCard : Claim7 := { stood := { row := rulesBoundUptoRow, standIns := [], harness := (true, "d109de5dd6743712ba9ef7630c51ac6d1f04a625b81820b5726dc1948049e511"), looks := true }, kinds := [], alts := [], laidByText := true, laidKinds := [.handle, .data, .data, .data], laidTests := true, laidLooks := .later }
def RulesBoundUptoCardSaid : Prop := Claim7.holds Tryz.pinned (.plain (OpenSpec.upto rulesBoundSpec)) rulesBoundUptoCard

/-- THE SECOND FORM's CARD OF 'pleachlaw10.MatchOne'. -/
def matchOneUptoCard : Claim7 := { stood := { row := matchOneUptoRow, standIns := [], harness := (true, "d109de5dd6743712ba9ef7630c51ac6d1f04a625b81820b5726dc1948049e511"), looks := true }, kinds := [], alts := [], laidByText := true, laidKinds := [.data, .data, .data], laidTests := true, laidLooks := .later }
def MatchOneUptoCardSaid : Prop := Claim7.holds Tryz.pinned (.plain (OpenSpec.upto matchOneSpec)) matchOneUptoCard

/-- THE SECOND FORM's CARD OF 'pleachlaw10.MatchAll'. -/
def matchAllUptoCard : Claim7 := { stood := { row := matchAllUptoRow, standIns := [], harness := (true, "d109de5dd6743712ba9ef7630c51ac6d1f04a625b81820b5726dc1948049e511"), looks := true }, kinds := [], alts := [], laidByText := true, laidKinds := [.data, .data, .data], laidTests := true, laidLooks := .later }
def MatchAllUptoCardSaid : Prop := Claim7.holds Tryz.pinned (.plain (OpenSpec.upto matchAllSpec)) matchAllUptoCard

/-- THE SECOND FORM's CARD OF 'pleachlaw10.MatchFill'. -/
def matchFillUptoCard : Claim7 := { stood := { row := matchFillUptoRow, standIns := [], harness := (true, "d109de5dd6743712ba9ef7630c51ac6d1f04a625b81820b5726dc1948049e511"), looks := true }, kinds := [], alts := [], laidByText := true, laidKinds := [.data, .data, .data], laidTests := true, laidLooks := .later }
def MatchFillUptoCardSaid : Prop := Claim7.holds Tryz.pinned (.plain (OpenSpec.upto matchFillSpec)) matchFillUptoCard

/-- THE SECOND FORM's CARD OF 'pleachlaw10.MatchMore'. -/
def matchMoreUptoCard : Claim7 := { stood := { row := matchMoreUptoRow, standIns := [], harness := (true, "d109de5dd6743712ba9ef7630c51ac6d1f04a625b81820b5726dc1948049e511"), looks := true }, kinds := [], alts := [], laidByText := true, laidKinds := [.data, .data, .data], laidTests := true, laidLooks := .later }
def MatchMoreUptoCardSaid : Prop := Claim7.holds Tryz.pinned (.plain (OpenSpec.upto matchMoreSpec)) matchMoreUptoCard
end Rows
end Go.Proofs.YtbhomgpdebiedaaGreatDoor
