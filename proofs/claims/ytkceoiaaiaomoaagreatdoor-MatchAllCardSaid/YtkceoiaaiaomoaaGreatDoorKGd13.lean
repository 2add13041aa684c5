/- Nothing of its own. -/
import Derived.Test.YtkceoiaaiaomoaaGreatDoorKGd6
import Derived.Test.YtkceoiaaiaomoaaGreatDoorKOrd
import Derived.Test.YtkceoiaaiaomoaaGreatDoorKRef01
import Derived.Test.YtkceoiaaiaomoaaGreatDoorKListT
import Derived.Deep.DeepCutAuto
import Derived.Tactics2
section
set_option linter.unusedVariables false
set_option linter.unusedSimpArgs false
namespace Go.Proofs.YtkceoiaaiaomoaaGreatDoor
open Go.RowKit

end Go.Proofs.YtkceoiaaiaomoaaGreatDoor
end
section

end
section

end
section

end
section

end
section

end
