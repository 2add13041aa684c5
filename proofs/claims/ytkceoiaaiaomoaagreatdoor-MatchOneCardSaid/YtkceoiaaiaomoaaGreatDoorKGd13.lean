/- Nothing of its own. -/
import Derived.Test.YtkceoiaaiaomoaaGreatDoorKGd6
import Derived.Test.YtkceoiaaiaomoaaGreatDoorKOrd
import Derived.Test.YtkceoiaaiaomoaaGreatDoorKRef01
import Derived.Deep.DeepCutAuto
import Derived.Tactics2
section

end
section

end
section

end
section

end
section

end
section

end
