/- The law AstParts' walk, from the program's own contracts. -/
import Derived.Test.YtcallgoglnkkiaaGreatDoorWAstParts
import Derived.Test.YtcallgoglnkkiaaGreatDoorTxt7
import Derived.Test.YtcallgoglnkkiaaGreatDoorVar7
set_option linter.unusedVariables false
namespace Go.Proofs.YtcallgoglnkkiaaGreatDoor
open Go.RowKit

theorem wakes_ok7 : WakesC Env7 := wakes7_ok env7_E check7_ok text7_ok vars7_ok
theorem walk_AstParts (v0 : Value) (w : World) (o0 : ∃ t, TmAt (· < w.heap.size) w t v0) (hS : Env7 w) :
    Calls Tryz.prog 4 #[v0] w fun e w' => e = .returned (.bool true) ∧ Below w.heap.size w w' := by
  obtain ⟨x, hT⟩ := o0
  exact astParts_of env7_E wakes_ok7 pattern7_ok expr7_ok guarded7_ok guard7_ok test7_ok check7_ok clause7_ok x v0 w hT hS
end Go.Proofs.YtcallgoglnkkiaaGreatDoor
