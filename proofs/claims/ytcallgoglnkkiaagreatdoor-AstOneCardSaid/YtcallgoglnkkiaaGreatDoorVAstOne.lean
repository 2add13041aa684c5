/- The law AstOne's walk, from the program's own contracts. -/
import Derived.Test.YtcallgoglnkkiaaGreatDoorWAstOne
import Derived.Test.YtcallgoglnkkiaaGreatDoorAstN
import Derived.Test.YtcallgoglnkkiaaGreatDoorSam7
import Derived.Test.YtcallgoglnkkiaaGreatDoorVAstParts
set_option linter.unusedVariables false
namespace Go.Proofs.YtcallgoglnkkiaaGreatDoor
open Go.RowKit

theorem walk_AstOne (v0 v1 : Value) (w : World) (o0 : ∃ t, TmAt (· < w.heap.size) w t v0) (o1 : ∃ t, TmAt (· < w.heap.size) w t v1) (hS : Env7 w) :
    Calls Tryz.prog 3 #[v0, v1] w fun e w' => e = .returned (.bool true) ∧ Below w.heap.size w w' := by
  obtain ⟨x, hT⟩ := o0
  obtain ⟨y, hU⟩ := o1
  exact astOne_of env7_E wakes_ok7 check7_ok text7_ok same7_ok inj7_ok x y v0 v1 w hT hU hS
end Go.Proofs.YtcallgoglnkkiaaGreatDoor
