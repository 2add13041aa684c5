/- The law AstSize's walk, from the program's own contracts. -/
import Derived.Test.YtcallgoglnkkiaaGreatDoorWAstSize
import Derived.Test.YtcallgoglnkkiaaGreatDoorSiz8
import Derived.Test.YtcallgoglnkkiaaGreatDoorTxt7
import Derived.Test.YtcallgoglnkkiaaGreatDoorVar7
set_option linter.unusedVariables false
namespace Go.Proofs.YtcallgoglnkkiaaGreatDoor
open Go.RowKit

theorem walk_AstSize (v0 : Value) (w : World) (o0 : ∃ t, TmAt (· < w.heap.size) w t v0 ∧ FreeT w t v0 ∧ Szd t) (hS : Env7 w) :
    Calls Tryz.prog 5 #[v0] w fun e w' => e = .returned (.bool true) ∧ Below w.heap.size w w' := by
  obtain ⟨x, hT, hF, hZ⟩ := o0
  exact astSize_of env7_E (wakes7_ok env7_E check7_ok text7_ok vars7_ok) (fun x v w hT hF hn _ => size_any x v w hT hF hn) vars7_ok x v0 w hT hF hZ hS
end Go.Proofs.YtcallgoglnkkiaaGreatDoor
