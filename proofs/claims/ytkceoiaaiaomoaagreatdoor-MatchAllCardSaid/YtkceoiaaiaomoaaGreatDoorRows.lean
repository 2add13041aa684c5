/-
  NARROWER THAN 'FOR EVERY INPUT', by the rows' own cells (each row's printed sentence says how): RulesTell: loops, laid · MatchOne: loops, laid · MatchAll: loops, laid · MatchFill: loops, laid · MatchMore: loops, laid · GuardTells: loops, laid.
  DERIVED. THE GIVEN ROWS OF THIS SEAT. 6 by the template 'for every input the law returns true; each argument reads behind the call as it read before'; 0 by the template 'total and deterministic' (their statements: YtkceoiaaiaomoaaGreatDoorTotals.lean).
  GIVEN WITH THE SEED: the statements are not yours to turn. If you find one false, say at which input.
  Laid BY PROGRAM, IN A SANDBOX (cutbox-rows.mjs): the forced cells as the released guide's own fill.sh prints them over the translation 7e61105282a44555… (all of the seat's roots in one cut). By AI agents, Wed Nov 11 2026. No macro, syntax, notation, axiom, sorry.
-/
import Derived.Test.YtkceoiaaiaomoaaGreatDoorChecked
import GoSem.Claim
import GoSem.ClaimJoined
import GoSem.ClaimMapViews
import Derived.JoinedTies
import Derived.KernelRfl
namespace Go.Proofs.YtkceoiaaiaomoaaGreatDoor
/- THE CELL 'sum', in the pinned program and in every row, IS THE sha256 OF THE DUMP (.gsa) THAT YtkceoiaaiaomoaaGreatDoorProg.lean LOADS. Nothing in Lean hashes anything: it is a label: what it is worth is what the hold of that sum in a sandbox is worth. -/
noncomputable def Tryz.pinned : Pinned := { name := "ytkceoiaaiaomoaagreatdoor", sum := "7e61105282a445552c9bbc179ee2dcecc3bb2f429605ede915e1608db1df7a71", checked := Tryz.checked }
namespace Rows
def none {H : Type} : Left H := { results := [], args := [] }

/- WHAT THE LISTED PACKAGE-LEVEL VARIABLES READ AS WHEN THE CALL BEGINS. Each datum BY PROGRAM (the guide's laid-datum.mjs) off the statement by which the dump's own 'gosem.cut.vars' lays the variable. In a bare row this is a premise. The card (YtkceoiaaiaomoaaGreatDoorCards.lean) ties it to the program's text. -/
def laid_errors_errorType {H : Type} : DataW H := .iface "internal/reflectlite.rtype" (.agg [.ptr (.lit (.string [101, 114, 114, 111, 114]))])
def laid_pleach_atoms_spans {H : Type} : DataW H := .agg [.agg [.lit (.int .u8 97), .lit (.int .u8 122), .lit (.int .u8 2)], .agg [.lit (.int .u8 65), .lit (.int .u8 90), .lit (.int .u8 3)], .agg [.lit (.int .u8 95), .lit (.int .u8 95), .lit (.int .u8 3)], .agg [.lit (.int .u8 48), .lit (.int .u8 57), .lit (.int .u8 1)]]
def laid_pleach_scan_words {H : Type} : DataW H := .agg [.lit (.string [109, 111, 100, 117, 108, 101]), .lit (.string [119, 104, 101, 110]), .lit (.string [99, 97, 115, 101]), .lit (.string [111, 102]), .lit (.string [101, 110, 100]), .lit (.string [116, 114, 121]), .lit (.string [99, 97, 116, 99, 104]), .lit (.string [114, 101, 99, 101, 105, 118, 101]), .lit (.string [97, 102, 116, 101, 114]), .lit (.string [102, 117, 110]), .lit (.string [100, 105, 118]), .lit (.string [114, 101, 109]), .lit (.string [99, 111, 110, 102, 105, 103])]
def laid_pleach_ast_natures {H : Type} : DataW H := .agg [.agg [.lit (.int .u16 1), .lit (.int .u8 8)], .agg [.lit (.int .u16 2), .lit (.int .u8 10)], .agg [.lit (.int .u16 4), .lit (.int .u8 11)], .agg [.lit (.int .u16 8), .lit (.int .u8 9)], .agg [.lit (.int .u16 16), .lit (.int .u8 8)], .agg [.lit (.int .u16 448), .lit (.int .u8 2)], .agg [.lit (.int .u16 448), .lit (.int .u8 1)], .agg [.lit (.int .u16 448), .lit (.int .u8 2)], .agg [.lit (.int .u16 448), .lit (.int .u8 0)], .agg [.lit (.int .u16 448), .lit (.int .u8 8)], .agg [.lit (.int .u16 448), .lit (.int .u8 8)], .agg [.lit (.int .u16 352), .lit (.int .u8 10)], .agg [.lit (.int .u16 32), .lit (.int .u8 10)], .agg [.lit (.int .u16 256), .lit (.int .u8 8)], .agg [.lit (.int .u16 256), .lit (.int .u8 10)], .agg [.lit (.int .u16 256), .lit (.int .u8 14)], .agg [.lit (.int .u16 256), .lit (.int .u8 8)], .agg [.lit (.int .u16 256), .lit (.int .u8 7)], .agg [.lit (.int .u16 256), .lit (.int .u8 8)], .agg [.lit (.int .u16 256), .lit (.int .u8 8)], .agg [.lit (.int .u16 256), .lit (.int .u8 9)], .agg [.lit (.int .u16 512), .lit (.int .u8 8)]]
def laid_pleach_guard_words {H : Type} : DataW H := .agg [.lit (.string [105, 115, 95, 105, 110, 116, 101, 103, 101, 114]), .lit (.string [105, 115, 95, 97, 116, 111, 109]), .lit (.string [105, 115, 95, 114, 101, 102, 101, 114, 101, 110, 99, 101]), .lit (.string [105, 115, 95, 102, 117, 110, 99, 116, 105, 111, 110]), .lit (.string [105, 115, 95, 112, 105, 100]), .lit (.string [105, 115, 95, 116, 117, 112, 108, 101]), .lit (.string [105, 115, 95, 108, 105, 115, 116]), .lit (.string [105, 115, 95, 108, 105, 115, 116])]

/-- 'pleachlaw09.RulesTell': WHATEVER THE INPUT: true; the input reads as it did. -/
def rulesTellSpec : ChangeSpec := { name := "rulesTell", fn := fun _ => fun
  | [d1, d2, d3, d4, d5] => { results := [.lit (.bool true)], args := [d1, d2, d3, d4, d5] }
  | _ => none }
def rulesTellRow : OpenClaim := { program := "ytkceoiaaiaomoaagreatdoor", sum := "7e61105282a445552c9bbc179ee2dcecc3bb2f429605ede915e1608db1df7a71", func := "pleach/pleachlaw09.RulesTell", spec := "rulesTell", inPlace := ["internal/reflectlite.TypeOf", "internal/reflectlite.ValueOf", "(internal/reflectlite.Value).Type", "(internal/reflectlite.Value).IsNil", "(internal/reflectlite.Value).Elem", "(internal/reflectlite.Value).Set"], unfollowed := true, recurses := true, named := ["pleach/ast.natures", "pleach/atoms.spans", "pleach/scan.words", "errors.errorType"], loops := true, plainKeys := false, apart := false, laid := [("errors.errorType", laid_errors_errorType), ("pleach/atoms.spans", laid_pleach_atoms_spans), ("pleach/scan.words", laid_pleach_scan_words), ("pleach/ast.natures", laid_pleach_ast_natures)] }
def RulesTellSaid : Prop := rulesTellRow.holds Tryz.pinned (OpenSpec.ofChange rulesTellSpec)

/-- ITS FALSE NEIGHBOUR: 'it returns false'. Refute it at one input. -/
def rulesTellWrong : ChangeSpec := { name := "rulesTell", fn := fun _ => fun
  | [d1, d2, d3, d4, d5] => { results := [.lit (.bool false)], args := [d1, d2, d3, d4, d5] }
  | _ => none }
def RulesTellWrongFalsely : Prop := rulesTellRow.holds Tryz.pinned (OpenSpec.ofChange rulesTellWrong)

/-- 'pleachlaw10.MatchOne': WHATEVER THE INPUT: true; the input reads as it did. -/
def matchOneSpec : ChangeSpec := { name := "matchOne", fn := fun _ => fun
  | [d1, d2, d3] => { results := [.lit (.bool true)], args := [d1, d2, d3] }
  | _ => none }
def matchOneRow : OpenClaim := { program := "ytkceoiaaiaomoaagreatdoor", sum := "7e61105282a445552c9bbc179ee2dcecc3bb2f429605ede915e1608db1df7a71", func := "pleach/pleachlaw10.MatchOne", spec := "matchOne", unfollowed := true, recurses := true, named := ["pleach/ast.natures", "pleach/atoms.spans", "pleach/scan.words"], loops := true, plainKeys := false, apart := false, laid := [("pleach/atoms.spans", laid_pleach_atoms_spans), ("pleach/scan.words", laid_pleach_scan_words), ("pleach/ast.natures", laid_pleach_ast_natures)] }
def MatchOneSaid : Prop := matchOneRow.holds Tryz.pinned (OpenSpec.ofChange matchOneSpec)

/-- ITS FALSE NEIGHBOUR: 'it returns false'. Refute it at one input. -/
def matchOneWrong : ChangeSpec := { name := "matchOne", fn := fun _ => fun
  | [d1, d2, d3] => { results := [.lit (.bool false)], args := [d1, d2, d3] }
  | _ => none }
def MatchOneWrongFalsely : Prop := matchOneRow.holds Tryz.pinned (OpenSpec.ofChange matchOneWrong)

/-- 'pleachlaw10.MatchAll': WHATEVER THE INPUT: true; the input reads as it did. -/
def matchAllSpec : ChangeSpec := { name := "matchAll", fn := fun _ => fun
  | [d1, d2, d3] => { results := [.lit (.bool true)], args := [d1, d2, d3] }
  | _ => none }
def matchAllRow : OpenClaim := { program := "ytkceoiaaiaomoaagreatdoor", sum := "7e61105282a445552c9bbc179ee2dcecc3bb2f429605ede915e1608db1df7a71", func := "pleach/pleachlaw10.MatchAll", spec := "matchAll", unfollowed := true, recurses := true, named := ["pleach/ast.natures", "pleach/atoms.spans", "pleach/scan.words"], loops := true, plainKeys := false, apart := false, laid := [("pleach/atoms.spans", laid_pleach_atoms_spans), ("pleach/scan.words", laid_pleach_scan_words), ("pleach/ast.natures", laid_pleach_ast_natures)] }
def MatchAllSaid : Prop := matchAllRow.holds Tryz.pinned (OpenSpec.ofChange matchAllSpec)

/-- ITS FALSE NEIGHBOUR: 'it returns false'. Refute it at one input. -/
def matchAllWrong : ChangeSpec := { name := "matchAll", fn := fun _ => fun
  | [d1, d2, d3] => { results := [.lit (.bool false)], args := [d1, d2, d3] }
  | _ => none }
def MatchAllWrongFalsely : Prop := matchAllRow.holds Tryz.pinned (OpenSpec.ofChange matchAllWrong)

/-- 'pleachlaw10.MatchFill': WHATEVER THE INPUT: true; the input reads as it did. -/
def matchFillSpec : ChangeSpec := { name := "matchFill", fn := fun _ => fun
  | [d1, d2, d3] => { results := [.lit (.bool true)], args := [d1, d2, d3] }
  | _ => none }
def matchFillRow : OpenClaim := { program := "ytkceoiaaiaomoaagreatdoor", sum := "7e61105282a445552c9bbc179ee2dcecc3bb2f429605ede915e1608db1df7a71", func := "pleach/pleachlaw10.MatchFill", spec := "matchFill", unfollowed := true, recurses := true, named := ["pleach/ast.natures", "pleach/atoms.spans", "pleach/scan.words"], loops := true, plainKeys := false, apart := false, laid := [("pleach/atoms.spans", laid_pleach_atoms_spans), ("pleach/scan.words", laid_pleach_scan_words), ("pleach/ast.natures", laid_pleach_ast_natures)] }
def MatchFillSaid : Prop := matchFillRow.holds Tryz.pinned (OpenSpec.ofChange matchFillSpec)

/-- ITS FALSE NEIGHBOUR: 'it returns false'. Refute it at one input. -/
def matchFillWrong : ChangeSpec := { name := "matchFill", fn := fun _ => fun
  | [d1, d2, d3] => { results := [.lit (.bool false)], args := [d1, d2, d3] }
  | _ => none }
def MatchFillWrongFalsely : Prop := matchFillRow.holds Tryz.pinned (OpenSpec.ofChange matchFillWrong)

/-- 'pleachlaw10.MatchMore': WHATEVER THE INPUT: true; the input reads as it did. -/
def matchMoreSpec : ChangeSpec := { name := "matchMore", fn := fun _ => fun
  | [d1, d2, d3, d4] => { results := [.lit (.bool true)], args := [d1, d2, d3, d4] }
  | _ => none }
def matchMoreRow : OpenClaim := { program := "ytkceoiaaiaomoaagreatdoor", sum := "7e61105282a445552c9bbc179ee2dcecc3bb2f429605ede915e1608db1df7a71", func := "pleach/pleachlaw10.MatchMore", spec := "matchMore", unfollowed := true, recurses := true, named := ["pleach/ast.natures", "pleach/atoms.spans", "pleach/scan.words"], loops := true, plainKeys := false, apart := false, laid := [("pleach/atoms.spans", laid_pleach_atoms_spans), ("pleach/scan.words", laid_pleach_scan_words), ("pleach/ast.natures", laid_pleach_ast_natures)] }
def MatchMoreSaid : Prop := matchMoreRow.holds Tryz.pinned (OpenSpec.ofChange matchMoreSpec)

/-- ITS FALSE NEIGHBOUR: 'it returns false'. Refute it at one input. -/
def matchMoreWrong : ChangeSpec := { name := "matchMore", fn := fun _ => fun
  | [d1, d2, d3, d4] => { results := [.lit (.bool false)], args := [d1, d2, d3, d4] }
  | _ => none }
def MatchMoreWrongFalsely : Prop := matchMoreRow.holds Tryz.pinned (OpenSpec.ofChange matchMoreWrong)

/-- 'pleachlaw11.GuardTells': WHATEVER THE INPUT: true; the input reads as it did. -/
def guardTellsSpec : ChangeSpec := { name := "guardTells", fn := fun _ => fun
  | [d1, d2, d3] => { results := [.lit (.bool true)], args := [d1, d2, d3] }
  | _ => none }
def guardTellsRow : OpenClaim := { program := "ytkceoiaaiaomoaagreatdoor", sum := "7e61105282a445552c9bbc179ee2dcecc3bb2f429605ede915e1608db1df7a71", func := "pleach/pleachlaw11.GuardTells", spec := "guardTells", inPlace := ["internal/reflectlite.TypeOf"], unfollowed := true, recurses := true, named := ["pleach/ast.natures", "pleach/atoms.spans", "pleach/scan.words", "pleach/guard.words"], loops := true, plainKeys := false, apart := false, laid := [("pleach/atoms.spans", laid_pleach_atoms_spans), ("pleach/scan.words", laid_pleach_scan_words), ("pleach/ast.natures", laid_pleach_ast_natures), ("pleach/guard.words", laid_pleach_guard_words)] }
def GuardTellsSaid : Prop := guardTellsRow.holds Tryz.pinned (OpenSpec.ofChange guardTellsSpec)

/-- ITS FALSE NEIGHBOUR: 'it returns false'. Refute it at one input. -/
def guardTellsWrong : ChangeSpec := { name := "guardTells", fn := fun _ => fun
  | [d1, d2, d3] => { results := [.lit (.bool false)], args := [d1, d2, d3] }
  | _ => none }
def GuardTellsWrongFalsely : Prop := guardTellsRow.holds Tryz.pinned (OpenSpec.ofChange guardTellsWrong)

/- THE SECOND FORM. 'bulk': how many values and letters a reading holds, each counted each time it is reached (what is shared counts as often as it is met; a slice's spare places count too). A statement '..UptoSaid' is the law's where the arguments, and the package variables that the reading takes, are together of bulk at most 1048576: NARROWER than '..Said'. Prove '..Said' where nothing that the law and all that it calls make is longer than what came in: it says more and counts as full. Else prove '..UptoSaid'. A law counts once. -/
mutual
def uptoBulk {H : Type} : DataW H → Nat
  | .lit (.string bytes) => bytes.length + 1
  | .lit _ => 1
  | .nil => 1
  | .ptr d => uptoBulk d + 1
  | .slice elems spare => uptoBulkAll elems + uptoBulkAll spare + 1
  | .agg parts => uptoBulkAll parts + 1
  | .iface _ d => uptoBulk d + 1
  | .map entries => uptoBulkEntries entries + 1
  | .held _ => 1
def uptoBulkAll {H : Type} : List (DataW H) → Nat
  | [] => 0
  | d :: r => uptoBulk d + uptoBulkAll r
def uptoBulkEntries {H : Type} : List (Lit × DataW H) → Nat
  | [] => 0
  | x :: r => uptoBulkEntry x + uptoBulkEntries r
def uptoBulkEntry {H : Type} : Lit × DataW H → Nat
  | (.string bytes, d) => bytes.length + uptoBulk d + 1
  | (_, d) => uptoBulk d + 1
 end
def uptoSmall : (H : Type) → List (DataW H) → Bool := fun _ ds => decide (uptoBulkAll ds ≤ 1048576)
def OpenSpec.upto (s : _root_.Go.ChangeSpec) : _root_.Go.OpenSpec := { _root_.Go.OpenSpec.ofChange s with cond := some uptoSmall }

/-- 'pleachlaw09.RulesTell', WHERE WHAT IT READS IS OF BULK AT MOST 1048576: true; the input reads as it did. -/
def rulesTellUptoRow : OpenClaim := { program := "ytkceoiaaiaomoaagreatdoor", sum := "7e61105282a445552c9bbc179ee2dcecc3bb2f429605ede915e1608db1df7a71", func := "pleach/pleachlaw09.RulesTell", spec := "rulesTell", inPlace := ["internal/reflectlite.TypeOf", "internal/reflectlite.ValueOf", "(internal/reflectlite.Value).Type", "(internal/reflectlite.Value).IsNil", "(internal/reflectlite.Value).Elem", "(internal/reflectlite.Value).Set"], unfollowed := true, recurses := true, named := ["pleach/ast.natures", "pleach/atoms.spans", "pleach/scan.words", "errors.errorType"], loops := true, plainKeys := false, apart := false, laid := [("errors.errorType", laid_errors_errorType), ("pleach/atoms.spans", laid_pleach_atoms_spans), ("pleach/scan.words", laid_pleach_scan_words), ("pleach/ast.natures", laid_pleach_ast_natures)], narrowed := true }
def RulesTellUptoSaid : Prop := rulesTellUptoRow.holds Tryz.pinned (OpenSpec.upto rulesTellSpec)

/-- 'pleachlaw10.MatchOne', WHERE WHAT IT READS IS OF BULK AT MOST 1048576: true; the input reads as it did. -/
def matchOneUptoRow : OpenClaim := { program := "ytkceoiaaiaomoaagreatdoor", sum := "7e61105282a445552c9bbc179ee2dcecc3bb2f429605ede915e1608db1df7a71", func := "pleach/pleachlaw10.MatchOne", spec := "matchOne", unfollowed := true, recurses := true, named := ["pleach/ast.natures", "pleach/atoms.spans", "pleach/scan.words"], loops := true, plainKeys := false, apart := false, laid := [("pleach/atoms.spans", laid_pleach_atoms_spans), ("pleach/scan.words", laid_pleach_scan_words), ("pleach/ast.natures", laid_pleach_ast_natures)], narrowed := true }
def MatchOneUptoSaid : Prop := matchOneUptoRow.holds Tryz.pinned (OpenSpec.upto matchOneSpec)

/-- 'pleachlaw10.MatchAll', WHERE WHAT IT READS IS OF BULK AT MOST 1048576: true; the input reads as it did. -/
def matchAllUptoRow : OpenClaim := { program := "ytkceoiaaiaomoaagreatdoor", sum := "7e61105282a445552c9bbc179ee2dcecc3bb2f429605ede915e1608db1df7a71", func := "pleach/pleachlaw10.MatchAll", spec := "matchAll", unfollowed := true, recurses := true, named := ["pleach/ast.natures", "pleach/atoms.spans", "pleach/scan.words"], loops := true, plainKeys := false, apart := false, laid := [("pleach/atoms.spans", laid_pleach_atoms_spans), ("pleach/scan.words", laid_pleach_scan_words), ("pleach/ast.natures", laid_pleach_ast_natures)], narrowed := true }
def MatchAllUptoSaid : Prop := matchAllUptoRow.holds Tryz.pinned (OpenSpec.upto matchAllSpec)

/-- 'pleachlaw10.MatchFill', WHERE WHAT IT READS IS OF BULK AT MOST 1048576: true; the input reads as it did. -/
def matchFillUptoRow : OpenClaim := { program := "ytkceoiaaiaomoaagreatdoor", sum := "7e61105282a445552c9bbc179ee2dcecc3bb2f429605ede915e1608db1df7a71", func := "pleach/pleachlaw10.MatchFill", spec := "matchFill", unfollowed := true, recurses := true, named := ["pleach/ast.natures", "pleach/atoms.spans", "pleach/scan.words"], loops := true, plainKeys := false, apart := false, laid := [("pleach/atoms.spans", laid_pleach_atoms_spans), ("pleach/scan.words", laid_pleach_scan_words), ("pleach/ast.natures", laid_pleach_ast_natures)], narrowed := true }
def MatchFillUptoSaid : Prop := matchFillUptoRow.holds Tryz.pinned (OpenSpec.upto matchFillSpec)

/-- 'pleachlaw10.MatchMore', WHERE WHAT IT READS IS OF BULK AT MOST 1048576: true; the input reads as it did. -/
def matchMoreUptoRow : OpenClaim := { program := "ytkceoiaaiaomoaagreatdoor", sum := "7e61105282a445552c9bbc179ee2dcecc3bb2f429605ede915e1608db1df7a71", func := "pleach/pleachlaw10.MatchMore", spec := "matchMore", unfollowed := true, recurses := true, named := ["pleach/ast.natures", "pleach/atoms.spans", "pleach/scan.words"], loops := true, plainKeys := false, apart := false, laid := [("pleach/atoms.spans", laid_pleach_atoms_spans), ("pleach/scan.words", laid_pleach_scan_words), ("pleach/ast.natures", laid_pleach_ast_natures)], narrowed := true }
def MatchMoreUptoSaid : Prop := matchMoreUptoRow.holds Tryz.pinned (OpenSpec.upto matchMoreSpec)

/-- 'pleachlaw11.GuardTells', WHERE WHAT IT READS IS OF BULK AT MOST 1048576: true; the input reads as it did. -/
def guardTellsUptoRow : OpenClaim := { program := "ytkceoiaaiaomoaagreatdoor", sum := "7e61105282a445552c9bbc179ee2dcecc3bb2f429605ede915e1608db1df7a71", func := "pleach/pleachlaw11.GuardTells", spec := "guardTells", inPlace := ["internal/reflectlite.TypeOf"], unfollowed := true, recurses := true, named := ["pleach/ast.natures", "pleach/atoms.spans", "pleach/scan.words", "pleach/guard.words"], loops := true, plainKeys := false, apart := false, laid := [("pleach/atoms.spans", laid_pleach_atoms_spans), ("pleach/scan.words", laid_pleach_scan_words), ("pleach/ast.natures", laid_pleach_ast_natures), ("pleach/guard.words", laid_pleach_guard_words)], narrowed := true }
def GuardTellsUptoSaid : Prop := guardTellsUptoRow.holds Tryz.pinned (OpenSpec.upto guardTellsSpec)

end Rows
end Go.Proofs.YtkceoiaaiaomoaaGreatDoor
