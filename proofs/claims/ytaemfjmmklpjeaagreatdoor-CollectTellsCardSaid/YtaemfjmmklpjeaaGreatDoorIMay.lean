/- Contracts of ints.May and ints.told. -/
import Derived.Test.YtaemfjmmklpjeaaGreatDoorIntsFn
import Derived.Test.YtaemfjmmklpjeaaGreatDoorBase
import Derived.Lib.Hide
import Derived.WalkLawsBesides
import Derived.WalkSpells
import Derived.Outline
set_option linter.unusedVariables false
namespace Go.Proofs.YtaemfjmmklpjeaaGreatDoor
open Go.RowKit

theorem IMay_any (n : Int) (w : World) : Calls Tryz.prog 113 #[.int .i64 n] w fun e w' => e = .returned (.bool (mayB n)) ∧ w = w' := by
  have hd : mayB n = (decide (-576460752303423488 ≤ n) && decide (n ≤ 576460752303423487)) := by unfold mayB; rw [Bool.eq_iff_iff]; simp
  have H := Lib.hid hd
  clear hd
  by_cases h1 : -576460752303423488 ≤ n
  · go_enter Tryz.func113, Tryz.ntmps113
    go_wp2
    go_ret
    exact ⟨ret_bool (by rw [H.out]; simp [h1]), rfl⟩
  · go_enter Tryz.func113, Tryz.ntmps113
    go_wp2
    go_ret
    exact ⟨ret_bool (by rw [H.out]; simp; omega), rfl⟩

end Go.Proofs.YtaemfjmmklpjeaaGreatDoor
