/- 'append(l, ys...)' where the row l is the call's own and ys came in. -/
import Derived.Test.YtaemfjmmklpjeaaGreatDoorOwnT
import Derived.Test.YtaemfjmmklpjeaaGreatDoorCheck
import Derived.Test.YtaemfjmmklpjeaaGreatDoorSizeT
import Derived.Test.YtaemfjmmklpjeaaGreatDoorBoxes
import Derived.Maps.AppendAt
set_option linter.unusedVariables false
namespace Go.Proofs.YtaemfjmmklpjeaaGreatDoor
open Go.RowKit

theorem append_nought {P : Program} {w : World} {base : Nat} {t ty e : TypeId} {i : TypeInfo} {size : Nat} (ht : P.underlying t = some (.slice e)) (hi : P.info? e = some i)
    {v : Value} {n : Nat} {xs : List Value} (ho : w.ownsRow base e size v n xs) (c : Nat) : (Builtin.append_ #[t, t] ty #[v, .slice none 0 c]).run P w = .ok v w := by
  rcases ho.2 with ⟨e1, _⟩ | ⟨g, cap, cur, e1, _, _, hnc, _⟩
  · subst e1; simp [Builtin.append_, run_underlying ht, sizeOf, typeInfo, hi, Builtin.lenOf, Builtin.firstCells]
  · subst e1; simp [Builtin.append_, run_underlying ht, sizeOf, typeInfo, hi, Builtin.lenOf, Builtin.firstCells, hnc, storeCells]

section
variable {ops : Array Oper} {rest : List Oper} {o : Oper} {a : Act} {w : World}
end

end Go.Proofs.YtaemfjmmklpjeaaGreatDoor
