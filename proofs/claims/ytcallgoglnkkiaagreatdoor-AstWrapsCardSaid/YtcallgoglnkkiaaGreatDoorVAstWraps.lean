/- The law AstWraps' walk, from the program's own contracts. -/
import Derived.Test.YtcallgoglnkkiaaGreatDoorWAstWraps
import Derived.Test.YtcallgoglnkkiaaGreatDoorSiz8
import Derived.Test.YtcallgoglnkkiaaGreatDoorTxt7
import Derived.Test.YtcallgoglnkkiaaGreatDoorVar7
set_option linter.unusedVariables false
namespace Go.Proofs.YtcallgoglnkkiaaGreatDoor
open Go.RowKit

theorem walk_AstWraps (v0 : Value) (w : World) (o0 : ∃ t, TmAt (· < w.heap.size) w t v0 ∧ FreeT w t v0 ∧ Szd t) (hS : Env7 w) :
    Calls Tryz.prog 6 #[v0] w fun e w' => e = .returned (.bool true) ∧ Below w.heap.size w w' := by
  obtain ⟨x, hT, hF, _⟩ := o0
  exact astWraps_of env7_E (wakes7_ok env7_E check7_ok text7_ok vars7_ok) (fun x v w hT hF hn _ => size_any x v w hT hF hn) pattern7_ok expr7_ok guarded7_ok clause7_ok x v0 w hT hF hS
end Go.Proofs.YtcallgoglnkkiaaGreatDoor
