/- An argument that is a word, opened. An argument that is a row of acts, opened. -/
import Derived.Test.YtaemfjmmklpjeaaGreatDoorHeapN
set_option linter.unusedVariables false
namespace Go.Proofs.YtaemfjmmklpjeaaGreatDoor
open Go.RowKit Go.ChangeShapes Go.WideShapes Go.Deep

theorem tcells_bool : Tryz.prog.cellsOf 4 = 1 := by kernel_rfl

def WordIs (w : World) (q : AW) (v : Value) : Prop :=
  ∃ k n s t l A cap, q.x = .mk k n s t l ∧ v = .agg #[.bool q.c, .int .i64 q.a, .int .i8 k, .int .i64 n, .string s, .string t, .slice A l.length cap] ∧ TmAt (· < w.heap.size) w (.mk k n s t l) (.agg #[.int .i8 k, .int .i64 n, .string s, .string t, .slice A l.length cap]) ∧ (-9223372036854775808 ≤ q.a ∧ q.a ≤ 9223372036854775807)

end Go.Proofs.YtaemfjmmklpjeaaGreatDoor
set_option linter.unusedVariables false
namespace Go.Proofs.YtaemfjmmklpjeaaGreatDoor
open Go.RowKit Go.ChangeShapes Go.WideShapes Go.Deep

end Go.Proofs.YtaemfjmmklpjeaaGreatDoor
