/- term.Size: its contract. -/
import Derived.Test.YtgdkhmamjhdfdaaDoorNodes
set_option linter.unusedVariables false
namespace Go.Proofs.YtgdkhmamjhdfdaaDoor
open Go.RowKit Go.Shelf
attribute [local go_sem] Oper.semAt_some

end Go.Proofs.YtgdkhmamjhdfdaaDoor
