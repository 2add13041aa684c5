/- term.Size: its contract. -/
import Derived.Test.YtphfekcacaaabaaDoorNodes
set_option linter.unusedVariables false
namespace Go.Proofs.YtphfekcacaaabaaDoor
open Go.RowKit Go.Shelf
attribute [local go_sem] Oper.semAt_some

end Go.Proofs.YtphfekcacaaabaaDoor
