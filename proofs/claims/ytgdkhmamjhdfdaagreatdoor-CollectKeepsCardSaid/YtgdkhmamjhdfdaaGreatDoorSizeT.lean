/- term.Size: its contract. -/
import Derived.Test.YtgdkhmamjhdfdaaGreatDoorNodes
set_option linter.unusedVariables false
namespace Go.Proofs.YtgdkhmamjhdfdaaGreatDoor
open Go.RowKit Go.Shelf
attribute [local go_sem] Oper.semAt_some

end Go.Proofs.YtgdkhmamjhdfdaaGreatDoor
