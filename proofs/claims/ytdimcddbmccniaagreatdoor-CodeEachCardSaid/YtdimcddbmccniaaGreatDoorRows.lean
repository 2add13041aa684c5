/-
  NARROWER THAN 'FOR EVERY INPUT', by the rows' own cells (each row's printed sentence says how): RulesTell: loops, laid · CodeEach: loops, laid.
  DERIVED. THE GIVEN ROWS OF THIS SEAT. 2 by the template 'for every input the law returns true; each argument reads behind the call as it read before'; 0 by the template 'total and deterministic' (their statements: YtdimcddbmccniaaGreatDoorTotals.lean).
  GIVEN WITH THE SEED: the statements are not yours to turn. If you find one false, say at which input.
  Laid BY PROGRAM, IN A SANDBOX (cutbox-rows.mjs): the forced cells as the released guide's own fill.sh prints them over the translation a7dc4e81a45bf4c0… (all of the seat's roots in one cut). By AI agents, Wed Nov 11 2026. No macro, syntax, notation, axiom, sorry.
-/
import Derived.Test.YtdimcddbmccniaaGreatDoorChecked
import GoSem.Claim
import GoSem.ClaimJoined
import GoSem.ClaimMapViews
import Derived.JoinedTies
import Derived.KernelRfl
namespace Go.Proofs.YtdimcddbmccniaaGreatDoor
/- THE CELL 'sum', in the pinned program and in every row, IS THE sha256 OF THE DUMP (.gsa) THAT YtdimcddbmccniaaGreatDoorProg.lean LOADS. Nothing in Lean hashes anything: it is a label: what it is worth is what the hold of that sum in a sandbox is worth. -/
noncomputable def Tryz.pinned : Pinned := { name := "ytdimcddbmccniaagreatdoor", sum := "a7dc4e81a45bf4c098525325339440e5038514a82131d834f61630cf99874d18", checked := Tryz.checked }
namespace Rows
def none {H : Type} : Left H := { results := [], args := [] }

/- WHAT THE LISTED PACKAGE-LEVEL VARIABLES READ AS WHEN THE CALL BEGINS. Each datum BY PROGRAM (the guide's laid-datum.mjs) off the statement by which the dump's own 'gosem.cut.vars' lays the variable. In a bare row this is a premise. The card (YtdimcddbmccniaaGreatDoorCards.lean) ties it to the program's text. -/
def laid_errors_errorType {H : Type} : DataW H := .iface "internal/reflectlite.rtype" (.agg [.ptr (.lit (.string [101, 114, 114, 111, 114]))])
def laid_pleach_atoms_spans {H : Type} : DataW H := .agg [.agg [.lit (.int .u8 97), .lit (.int .u8 122), .lit (.int .u8 2)], .agg [.lit (.int .u8 65), .lit (.int .u8 90), .lit (.int .u8 3)], .agg [.lit (.int .u8 95), .lit (.int .u8 95), .lit (.int .u8 3)], .agg [.lit (.int .u8 48), .lit (.int .u8 57), .lit (.int .u8 1)]]
def laid_pleach_scan_words {H : Type} : DataW H := .agg [.lit (.string [109, 111, 100, 117, 108, 101]), .lit (.string [119, 104, 101, 110]), .lit (.string [99, 97, 115, 101]), .lit (.string [111, 102]), .lit (.string [101, 110, 100]), .lit (.string [116, 114, 121]), .lit (.string [99, 97, 116, 99, 104]), .lit (.string [114, 101, 99, 101, 105, 118, 101]), .lit (.string [97, 102, 116, 101, 114]), .lit (.string [102, 117, 110]), .lit (.string [100, 105, 118]), .lit (.string [114, 101, 109]), .lit (.string [99, 111, 110, 102, 105, 103])]
def laid_pleach_ast_natures {H : Type} : DataW H := .agg [.agg [.lit (.int .u16 1), .lit (.int .u8 8)], .agg [.lit (.int .u16 2), .lit (.int .u8 10)], .agg [.lit (.int .u16 4), .lit (.int .u8 11)], .agg [.lit (.int .u16 8), .lit (.int .u8 9)], .agg [.lit (.int .u16 16), .lit (.int .u8 8)], .agg [.lit (.int .u16 448), .lit (.int .u8 2)], .agg [.lit (.int .u16 448), .lit (.int .u8 1)], .agg [.lit (.int .u16 448), .lit (.int .u8 2)], .agg [.lit (.int .u16 448), .lit (.int .u8 0)], .agg [.lit (.int .u16 448), .lit (.int .u8 8)], .agg [.lit (.int .u16 448), .lit (.int .u8 8)], .agg [.lit (.int .u16 352), .lit (.int .u8 10)], .agg [.lit (.int .u16 32), .lit (.int .u8 10)], .agg [.lit (.int .u16 256), .lit (.int .u8 8)], .agg [.lit (.int .u16 256), .lit (.int .u8 10)], .agg [.lit (.int .u16 256), .lit (.int .u8 14)], .agg [.lit (.int .u16 256), .lit (.int .u8 8)], .agg [.lit (.int .u16 256), .lit (.int .u8 7)], .agg [.lit (.int .u16 256), .lit (.int .u8 8)], .agg [.lit (.int .u16 256), .lit (.int .u8 8)], .agg [.lit (.int .u16 256), .lit (.int .u8 9)], .agg [.lit (.int .u16 512), .lit (.int .u8 8)]]
def laid_math_bits_deBruijn32tab {H : Type} : DataW H := .agg [.lit (.int .u8 0), .lit (.int .u8 1), .lit (.int .u8 28), .lit (.int .u8 2), .lit (.int .u8 29), .lit (.int .u8 14), .lit (.int .u8 24), .lit (.int .u8 3), .lit (.int .u8 30), .lit (.int .u8 22), .lit (.int .u8 20), .lit (.int .u8 15), .lit (.int .u8 25), .lit (.int .u8 17), .lit (.int .u8 4), .lit (.int .u8 8), .lit (.int .u8 31), .lit (.int .u8 27), .lit (.int .u8 13), .lit (.int .u8 23), .lit (.int .u8 21), .lit (.int .u8 19), .lit (.int .u8 16), .lit (.int .u8 7), .lit (.int .u8 26), .lit (.int .u8 12), .lit (.int .u8 18), .lit (.int .u8 6), .lit (.int .u8 11), .lit (.int .u8 5), .lit (.int .u8 10), .lit (.int .u8 9)]
def laid_math_bits_deBruijn64tab {H : Type} : DataW H := .agg [.lit (.int .u8 0), .lit (.int .u8 1), .lit (.int .u8 56), .lit (.int .u8 2), .lit (.int .u8 57), .lit (.int .u8 49), .lit (.int .u8 28), .lit (.int .u8 3), .lit (.int .u8 61), .lit (.int .u8 58), .lit (.int .u8 42), .lit (.int .u8 50), .lit (.int .u8 38), .lit (.int .u8 29), .lit (.int .u8 17), .lit (.int .u8 4), .lit (.int .u8 62), .lit (.int .u8 47), .lit (.int .u8 59), .lit (.int .u8 36), .lit (.int .u8 45), .lit (.int .u8 43), .lit (.int .u8 51), .lit (.int .u8 22), .lit (.int .u8 53), .lit (.int .u8 39), .lit (.int .u8 33), .lit (.int .u8 30), .lit (.int .u8 24), .lit (.int .u8 18), .lit (.int .u8 12), .lit (.int .u8 5), .lit (.int .u8 63), .lit (.int .u8 55), .lit (.int .u8 48), .lit (.int .u8 27), .lit (.int .u8 60), .lit (.int .u8 41), .lit (.int .u8 37), .lit (.int .u8 16), .lit (.int .u8 46), .lit (.int .u8 35), .lit (.int .u8 44), .lit (.int .u8 21), .lit (.int .u8 52), .lit (.int .u8 32), .lit (.int .u8 23), .lit (.int .u8 11), .lit (.int .u8 54), .lit (.int .u8 26), .lit (.int .u8 40), .lit (.int .u8 15), .lit (.int .u8 34), .lit (.int .u8 20), .lit (.int .u8 31), .lit (.int .u8 10), .lit (.int .u8 25), .lit (.int .u8 14), .lit (.int .u8 19), .lit (.int .u8 9), .lit (.int .u8 13), .lit (.int .u8 8), .lit (.int .u8 7), .lit (.int .u8 6)]
def laid_internal_strconv_uint64pow10 {H : Type} : DataW H := .agg [.lit (.int .u64 1), .lit (.int .u64 10), .lit (.int .u64 100), .lit (.int .u64 1000), .lit (.int .u64 10000), .lit (.int .u64 100000), .lit (.int .u64 1000000), .lit (.int .u64 10000000), .lit (.int .u64 100000000), .lit (.int .u64 1000000000), .lit (.int .u64 10000000000), .lit (.int .u64 100000000000), .lit (.int .u64 1000000000000), .lit (.int .u64 10000000000000), .lit (.int .u64 100000000000000), .lit (.int .u64 1000000000000000), .lit (.int .u64 10000000000000000), .lit (.int .u64 100000000000000000), .lit (.int .u64 1000000000000000000), .lit (.int .u64 10000000000000000000)]
def laid_pleach_code_fields {H : Type} : DataW H := .agg [.lit (.int .u8 4), .lit (.int .u8 1), .lit (.int .u8 1), .lit (.int .u8 0), .lit (.int .u8 1), .lit (.int .u8 0), .lit (.int .u8 4), .lit (.int .u8 5), .lit (.int .u8 3), .lit (.int .u8 3), .lit (.int .u8 1), .lit (.int .u8 0), .lit (.int .u8 1), .lit (.int .u8 11), .lit (.int .u8 9), .lit (.int .u8 6), .lit (.int .u8 1), .lit (.int .u8 0), .lit (.int .u8 23), .lit (.int .u8 0)]

/-- 'pleachlaw09.RulesTell': WHATEVER THE INPUT: true; the input reads as it did. -/
def rulesTellSpec : ChangeSpec := { name := "rulesTell", fn := fun _ => fun
  | [d1, d2, d3, d4, d5] => { results := [.lit (.bool true)], args := [d1, d2, d3, d4, d5] }
  | _ => none }
def rulesTellRow : OpenClaim := { program := "ytdimcddbmccniaagreatdoor", sum := "a7dc4e81a45bf4c098525325339440e5038514a82131d834f61630cf99874d18", func := "pleach/pleachlaw09.RulesTell", spec := "rulesTell", inPlace := ["internal/reflectlite.TypeOf", "internal/reflectlite.ValueOf", "(internal/reflectlite.Value).Type", "(internal/reflectlite.Value).IsNil", "(internal/reflectlite.Value).Elem", "(internal/reflectlite.Value).Set"], unfollowed := true, recurses := true, named := ["pleach/ast.natures", "pleach/atoms.spans", "pleach/scan.words", "errors.errorType"], loops := true, plainKeys := false, apart := false, laid := [("errors.errorType", laid_errors_errorType), ("pleach/atoms.spans", laid_pleach_atoms_spans), ("pleach/scan.words", laid_pleach_scan_words), ("pleach/ast.natures", laid_pleach_ast_natures)] }
def RulesTellSaid : Prop := rulesTellRow.holds Tryz.pinned (OpenSpec.ofChange rulesTellSpec)

/-- ITS FALSE NEIGHBOUR: 'it returns false'. Refute it at one input. -/
def rulesTellWrong : ChangeSpec := { name := "rulesTell", fn := fun _ => fun
  | [d1, d2, d3, d4, d5] => { results := [.lit (.bool false)], args := [d1, d2, d3, d4, d5] }
  | _ => none }
def RulesTellWrongFalsely : Prop := rulesTellRow.holds Tryz.pinned (OpenSpec.ofChange rulesTellWrong)

/-- 'pleachlaw13.CodeEach': WHATEVER THE INPUT: true; the input reads as it did. -/
def codeEachSpec : ChangeSpec := { name := "codeEach", fn := fun _ => fun
  | [d1, d2, d3] => { results := [.lit (.bool true)], args := [d1, d2, d3] }
  | _ => none }
def codeEachRow : OpenClaim := { program := "ytdimcddbmccniaagreatdoor", sum := "a7dc4e81a45bf4c098525325339440e5038514a82131d834f61630cf99874d18", func := "pleach/pleachlaw13.CodeEach", spec := "codeEach", inPlace := ["internal/abi.NoEscape", "internal/bytealg.MakeNoZero"], unfollowed := true, recurses := true, named := ["pleach/atoms.spans", "pleach/ast.natures", "pleach/scan.words", "internal/strconv.uint64pow10", "math/bits.deBruijn32tab", "math/bits.deBruijn64tab", "pleach/code.fields"], loops := true, plainKeys := false, apart := false, laid := [("math/bits.deBruijn32tab", laid_math_bits_deBruijn32tab), ("math/bits.deBruijn64tab", laid_math_bits_deBruijn64tab), ("internal/strconv.uint64pow10", laid_internal_strconv_uint64pow10), ("pleach/atoms.spans", laid_pleach_atoms_spans), ("pleach/scan.words", laid_pleach_scan_words), ("pleach/ast.natures", laid_pleach_ast_natures), ("pleach/code.fields", laid_pleach_code_fields)] }
def CodeEachSaid : Prop := codeEachRow.holds Tryz.pinned (OpenSpec.ofChange codeEachSpec)

/-- ITS FALSE NEIGHBOUR: 'it returns false'. Refute it at one input. -/
def codeEachWrong : ChangeSpec := { name := "codeEach", fn := fun _ => fun
  | [d1, d2, d3] => { results := [.lit (.bool false)], args := [d1, d2, d3] }
  | _ => none }
def CodeEachWrongFalsely : Prop := codeEachRow.holds Tryz.pinned (OpenSpec.ofChange codeEachWrong)

/- THE SECOND FORM. 'bulk': how many values and letters a reading holds, each counted each time it is reached (what is shared counts as often as it is met; a slice's spare places count too). A statement '..UptoSaid' is the law's where the arguments, and the package variables that the reading takes, are together of bulk at most 1048576: NARROWER than '..Said'. Prove '..Said' where nothing that the law and all that it calls make is longer than what came in: it says more and counts as full. Else prove '..UptoSaid'. A law counts once. -/
mutual
def uptoBulk {H : Type} : DataW H → Nat
  | .lit (.string bytes) => bytes.length + 1
  | .lit _ => 1
  | .nil => 1
  | .ptr d => uptoBulk d + 1
  | .slice elems spare => uptoBulkAll elems + uptoBulkAll spare + 1
  | .agg parts => uptoBulkAll parts + 1
  | .iface _ d => uptoBulk d + 1
  | .map entries => uptoBulkEntries entries + 1
  | .held _ => 1
def uptoBulkAll {H : Type} : List (DataW H) → Nat
  | [] => 0
  | d :: r => uptoBulk d + uptoBulkAll r
def uptoBulkEntries {H : Type} : List (Lit × DataW H) → Nat
  | [] => 0
  | x :: r => uptoBulkEntry x + uptoBulkEntries r
def uptoBulkEntry {H : Type} : Lit × DataW H → Nat
  | (.string bytes, d) => bytes.length + uptoBulk d + 1
  | (_, d) => uptoBulk d + 1
 end
def uptoSmall : (H : Type) → List (DataW H) → Bool := fun _ ds => decide (uptoBulkAll ds ≤ 1048576)
def OpenSpec.upto (s : _root_.Go.ChangeSpec) : _root_.Go.OpenSpec := { _root_.Go.OpenSpec.ofChange s with cond := some uptoSmall }

/-- 'pleachlaw09.RulesTell', WHERE WHAT IT READS IS OF BULK AT MOST 1048576: true; the input reads as it did. -/
def rulesTellUptoRow : OpenClaim := { program := "ytdimcddbmccniaagreatdoor", sum := "a7dc4e81a45bf4c098525325339440e5038514a82131d834f61630cf99874d18", func := "pleach/pleachlaw09.RulesTell", spec := "rulesTell", inPlace := ["internal/reflectlite.TypeOf", "internal/reflectlite.ValueOf", "(internal/reflectlite.Value).Type", "(internal/reflectlite.Value).IsNil", "(internal/reflectlite.Value).Elem", "(internal/reflectlite.Value).Set"], unfollowed := true, recurses := true, named := ["pleach/ast.natures", "pleach/atoms.spans", "pleach/scan.words", "errors.errorType"], loops := true, plainKeys := false, apart := false, laid := [("errors.errorType", laid_errors_errorType), ("pleach/atoms.spans", laid_pleach_atoms_spans), ("pleach/scan.words", laid_pleach_scan_words), ("pleach/ast.natures", laid_pleach_ast_natures)], narrowed := true }
def RulesTellUptoSaid : Prop := rulesTellUptoRow.holds Tryz.pinned (OpenSpec.upto rulesTellSpec)

/-- 'pleachlaw13.CodeEach', WHERE WHAT IT READS IS OF BULK AT MOST 1048576: true; the input reads as it did. -/
def codeEachUptoRow : OpenClaim := { program := "ytdimcddbmccniaagreatdoor", sum := "a7dc4e81a45bf4c098525325339440e5038514a82131d834f61630cf99874d18", func := "pleach/pleachlaw13.CodeEach", spec := "codeEach", inPlace := ["internal/abi.NoEscape", "internal/bytealg.MakeNoZero"], unfollowed := true, recurses := true, named := ["pleach/atoms.spans", "pleach/ast.natures", "pleach/scan.words", "internal/strconv.uint64pow10", "math/bits.deBruijn32tab", "math/bits.deBruijn64tab", "pleach/code.fields"], loops := true, plainKeys := false, apart := false, laid := [("math/bits.deBruijn32tab", laid_math_bits_deBruijn32tab), ("math/bits.deBruijn64tab", laid_math_bits_deBruijn64tab), ("internal/strconv.uint64pow10", laid_internal_strconv_uint64pow10), ("pleach/atoms.spans", laid_pleach_atoms_spans), ("pleach/scan.words", laid_pleach_scan_words), ("pleach/ast.natures", laid_pleach_ast_natures), ("pleach/code.fields", laid_pleach_code_fields)], narrowed := true }
def CodeEachUptoSaid : Prop := codeEachUptoRow.holds Tryz.pinned (OpenSpec.upto codeEachSpec)

end Rows
end Go.Proofs.YtdimcddbmccniaaGreatDoor
