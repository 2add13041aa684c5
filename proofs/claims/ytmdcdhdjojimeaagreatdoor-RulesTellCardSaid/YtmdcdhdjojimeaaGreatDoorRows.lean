/-
  NARROWER THAN 'FOR EVERY INPUT', by the rows' own cells (each row's printed sentence says how): RulesTell: loops, laid.
  DERIVED. THE GIVEN ROWS OF THIS SEAT. 1 by the template 'for every input the law returns true; each argument reads behind the call as it read before'; 0 by the template 'total and deterministic' (their statements: YtmdcdhdjojimeaaGreatDoorTotals.lean).
  GIVEN WITH THE SEED: the statements are not yours to turn. If you find one false, say at which input.
  Laid BY PROGRAM, IN A SANDBOX (cutbox-rows.mjs): the forced cells as the released guide's own fill.sh prints them over the translation 168f1548420a9399… (all of the seat's roots in one cut). By AI agents, Wed Nov 11 2026. No macro, syntax, notation, axiom, sorry.
-/
import Derived.Test.YtmdcdhdjojimeaaGreatDoorChecked
import GoSem.Claim
import GoSem.ClaimJoined
import GoSem.ClaimMapViews
import Derived.JoinedTies
import Derived.KernelRfl
namespace Go.Proofs.YtmdcdhdjojimeaaGreatDoor
/- THE CELL 'sum', in the pinned program and in every row, IS THE sha256 OF THE DUMP (.gsa) THAT YtmdcdhdjojimeaaGreatDoorProg.lean LOADS. Nothing in Lean hashes anything: it is a label: what it is worth is what the hold of that sum in a sandbox is worth. -/
noncomputable def Tryz.pinned : Pinned := { name := "ytmdcdhdjojimeaagreatdoor", sum := "168f1548420a93990fca0a90e81334e603c3cdf418a5779887650dc141da3267", checked := Tryz.checked }
namespace Rows
def none {H : Type} : Left H := { results := [], args := [] }

/- WHAT THE LISTED PACKAGE-LEVEL VARIABLES READ AS WHEN THE CALL BEGINS. Each datum BY PROGRAM (the guide's laid-datum.mjs) off the statement by which the dump's own 'gosem.cut.vars' lays the variable. In a bare row this is a premise. The card (YtmdcdhdjojimeaaGreatDoorCards.lean) ties it to the program's text. -/
def laid_errors_errorType {H : Type} : DataW H := .iface "internal/reflectlite.rtype" (.agg [.ptr (.lit (.string [101, 114, 114, 111, 114]))])
def laid_pleach_atoms_spans {H : Type} : DataW H := .agg [.agg [.lit (.int .u8 97), .lit (.int .u8 122), .lit (.int .u8 2)], .agg [.lit (.int .u8 65), .lit (.int .u8 90), .lit (.int .u8 3)], .agg [.lit (.int .u8 95), .lit (.int .u8 95), .lit (.int .u8 3)], .agg [.lit (.int .u8 48), .lit (.int .u8 57), .lit (.int .u8 1)]]
def laid_pleach_scan_words {H : Type} : DataW H := .agg [.lit (.string [109, 111, 100, 117, 108, 101]), .lit (.string [119, 104, 101, 110]), .lit (.string [99, 97, 115, 101]), .lit (.string [111, 102]), .lit (.string [101, 110, 100]), .lit (.string [116, 114, 121]), .lit (.string [99, 97, 116, 99, 104]), .lit (.string [114, 101, 99, 101, 105, 118, 101]), .lit (.string [97, 102, 116, 101, 114]), .lit (.string [102, 117, 110]), .lit (.string [100, 105, 118]), .lit (.string [114, 101, 109]), .lit (.string [99, 111, 110, 102, 105, 103])]
def laid_pleach_ast_natures {H : Type} : DataW H := .agg [.agg [.lit (.int .u16 1), .lit (.int .u8 8)], .agg [.lit (.int .u16 2), .lit (.int .u8 10)], .agg [.lit (.int .u16 4), .lit (.int .u8 11)], .agg [.lit (.int .u16 8), .lit (.int .u8 9)], .agg [.lit (.int .u16 16), .lit (.int .u8 8)], .agg [.lit (.int .u16 448), .lit (.int .u8 2)], .agg [.lit (.int .u16 448), .lit (.int .u8 1)], .agg [.lit (.int .u16 448), .lit (.int .u8 2)], .agg [.lit (.int .u16 448), .lit (.int .u8 0)], .agg [.lit (.int .u16 448), .lit (.int .u8 8)], .agg [.lit (.int .u16 448), .lit (.int .u8 8)], .agg [.lit (.int .u16 352), .lit (.int .u8 10)], .agg [.lit (.int .u16 32), .lit (.int .u8 10)], .agg [.lit (.int .u16 256), .lit (.int .u8 8)], .agg [.lit (.int .u16 256), .lit (.int .u8 10)], .agg [.lit (.int .u16 256), .lit (.int .u8 14)], .agg [.lit (.int .u16 256), .lit (.int .u8 8)], .agg [.lit (.int .u16 256), .lit (.int .u8 7)], .agg [.lit (.int .u16 256), .lit (.int .u8 8)], .agg [.lit (.int .u16 256), .lit (.int .u8 8)], .agg [.lit (.int .u16 256), .lit (.int .u8 9)], .agg [.lit (.int .u16 512), .lit (.int .u8 8)]]

/-- 'pleachlaw09.RulesTell': WHATEVER THE INPUT: true; the input reads as it did. -/
def rulesTellSpec : ChangeSpec := { name := "rulesTell", fn := fun _ => fun
  | [d1, d2, d3, d4, d5] => { results := [.lit (.bool true)], args := [d1, d2, d3, d4, d5] }
  | _ => none }
def rulesTellRow : OpenClaim := { program := "ytmdcdhdjojimeaagreatdoor", sum := "168f1548420a93990fca0a90e81334e603c3cdf418a5779887650dc141da3267", func := "pleach/pleachlaw09.RulesTell", spec := "rulesTell", inPlace := ["internal/reflectlite.TypeOf", "internal/reflectlite.ValueOf", "(internal/reflectlite.Value).Type", "(internal/reflectlite.Value).IsNil", "(internal/reflectlite.Value).Elem", "(internal/reflectlite.Value).Set"], unfollowed := true, recurses := true, named := ["pleach/ast.natures", "pleach/atoms.spans", "pleach/scan.words", "errors.errorType"], loops := true, plainKeys := false, apart := false, laid := [("errors.errorType", laid_errors_errorType), ("pleach/atoms.spans", laid_pleach_atoms_spans), ("pleach/scan.words", laid_pleach_scan_words), ("pleach/ast.natures", laid_pleach_ast_natures)] }
def RulesTellSaid : Prop := rulesTellRow.holds Tryz.pinned (OpenSpec.ofChange rulesTellSpec)

/-- ITS FALSE NEIGHBOUR: 'it returns false'. Refute it at one input. -/
def rulesTellWrong : ChangeSpec := { name := "rulesTell", fn := fun _ => fun
  | [d1, d2, d3, d4, d5] => { results := [.lit (.bool false)], args := [d1, d2, d3, d4, d5] }
  | _ => none }
def RulesTellWrongFalsely : Prop := rulesTellRow.holds Tryz.pinned (OpenSpec.ofChange rulesTellWrong)

/- THE SECOND FORM. 'bulk': how many values and letters a reading holds, each counted each time it is reached (what is shared counts as often as it is met; a slice's spare places count too). A statement '..UptoSaid' is the law's where the arguments, and the package variables that the reading takes, are together of bulk at most 1048576: NARROWER than '..Said'. Prove '..Said' where nothing that the law and all that it calls make is longer than what came in: it says more and counts as full. Else prove '..UptoSaid'. A law counts once. -/
mutual
def uptoBulk {H : Type} : DataW H → Nat
  | .lit (.string bytes) => bytes.length + 1
  | .lit _ => 1
  | .nil => 1
  | .ptr d => uptoBulk d + 1
  | .slice elems spare => uptoBulkAll elems + uptoBulkAll spare + 1
  | .agg parts => uptoBulkAll parts + 1
  | .iface _ d => uptoBulk d + 1
  | .map entries => uptoBulkEntries entries + 1
  | .held _ => 1
def uptoBulkAll {H : Type} : List (DataW H) → Nat
  | [] => 0
  | d :: r => uptoBulk d + uptoBulkAll r
def uptoBulkEntries {H : Type} : List (Lit × DataW H) → Nat
  | [] => 0
  | x :: r => uptoBulkEntry x + uptoBulkEntries r
def uptoBulkEntry {H : Type} : Lit × DataW H → Nat
  | (.string bytes, d) => bytes.length + uptoBulk d + 1
  | (_, d) => uptoBulk d + 1
 end
def uptoSmall : (H : Type) → List (DataW H) → Bool := fun _ ds => decide (uptoBulkAll ds ≤ 1048576)
def OpenSpec.upto (s : _root_.Go.ChangeSpec) : _root_.Go.OpenSpec := { _root_.Go.OpenSpec.ofChange s with cond := some uptoSmall }

/-- 'pleachlaw09.RulesTell', WHERE WHAT IT READS IS OF BULK AT MOST 1048576: true; the input reads as it did. -/
def rulesTellUptoRow : OpenClaim := { program := "ytmdcdhdjojimeaagreatdoor", sum := "168f1548420a93990fca0a90e81334e603c3cdf418a5779887650dc141da3267", func := "pleach/pleachlaw09.RulesTell", spec := "rulesTell", inPlace := ["internal/reflectlite.TypeOf", "internal/reflectlite.ValueOf", "(internal/reflectlite.Value).Type", "(internal/reflectlite.Value).IsNil", "(internal/reflectlite.Value).Elem", "(internal/reflectlite.Value).Set"], unfollowed := true, recurses := true, named := ["pleach/ast.natures", "pleach/atoms.spans", "pleach/scan.words", "errors.errorType"], loops := true, plainKeys := false, apart := false, laid := [("errors.errorType", laid_errors_errorType), ("pleach/atoms.spans", laid_pleach_atoms_spans), ("pleach/scan.words", laid_pleach_scan_words), ("pleach/ast.natures", laid_pleach_ast_natures)], narrowed := true }
def RulesTellUptoSaid : Prop := rulesTellUptoRow.holds Tryz.pinned (OpenSpec.upto rulesTellSpec)

end Rows
end Go.Proofs.YtmdcdhdjojimeaaGreatDoor
