/- package heap: no heap; kinds; fields that are empty. -/
import Derived.Test.YtaemfjmmklpjeaaGreatDoorOkPure
import Derived.Test.YtaemfjmmklpjeaaGreatDoorAppOwn
import Derived.Test.YtaemfjmmklpjeaaGreatDoorUnroll
set_option linter.unusedVariables false
namespace Go.Proofs.YtaemfjmmklpjeaaGreatDoor
open Go.RowKit

set_option maxHeartbeats 1000000 in
theorem parted_any (k : Int) (w : World) : Calls Tryz.prog 44 #[.int .i8 k] w fun e w' => e = .returned (.bool (k == 5 || k == 7)) ∧ w = w' := by
  cases h5 : (k == 5)
  · cases h7 : (k == 7)
    · go_enter Tryz.func44, Tryz.ntmps44
      go_wp2_with fail
      go_ret
      exact ⟨rfl, rfl⟩
    · go_enter Tryz.func44, Tryz.ntmps44
      go_wp2_with fail
      go_ret
      exact ⟨rfl, rfl⟩
  · go_enter Tryz.func44, Tryz.ntmps44
    go_wp2_with fail
    go_ret
    exact ⟨rfl, rfl⟩

def word0 : Value := .agg #[.bool false, .int .i64 0, .int .i8 0, .int .i64 0, .string ⟨#[]⟩, .string ⟨#[]⟩, .slice none 0 0]
def cell0 : Value := .agg #[.int .i8 0, .int .i64 0, .slice none 0 0]
def term0 : Value := .agg #[.int .i8 0, .int .i64 0, .string ⟨#[]⟩, .string ⟨#[]⟩, .slice none 0 0]

end Go.Proofs.YtaemfjmmklpjeaaGreatDoor
