/- term.Size: its contract. -/
import Derived.Test.YtaemfjmmklpjeaaGreatDoorNodes
set_option linter.unusedVariables false
namespace Go.Proofs.YtaemfjmmklpjeaaGreatDoor
open Go.RowKit Go.Shelf
attribute [local go_sem] Oper.semAt_some

end Go.Proofs.YtaemfjmmklpjeaaGreatDoor
