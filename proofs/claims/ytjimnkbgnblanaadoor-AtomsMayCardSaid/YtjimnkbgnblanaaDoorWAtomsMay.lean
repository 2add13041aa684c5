/- The walk of AtomsMay: what may be an atom, a variable's name; how far a text is such bytes. -/
import Derived.Test.YtjimnkbgnblanaaDoorWakes02
import Derived.Test.YtjimnkbgnblanaaDoorRef02
set_option linter.unusedVariables false
namespace Go.Proofs.YtjimnkbgnblanaaDoor
open Go.RowKit

set_option maxHeartbeats 1000000 in
theorem walk_AtomsMay (s : ByteArray) (hs : s.size ≤ maxLen) (w : World) (hS : Spans w) :
    Calls Tryd.prog 3 #[.string s] w fun e w' => e = .returned (.bool true) ∧ Below w.heap.size w w' := by
  have HZ := Lib.hid hs
  clear hs
  go_enter Tryd.func3, Tryd.ntmps3
  go_wp2_with fail
  refine (May_any s HZ.out _ hS).mono ?_
  rintro e w1 ⟨rfl, b1⟩
  go_wp2_with fail
  refine (rMay_any s _ HZ.out).mono ?_
  rintro e w2 ⟨rfl, rfl⟩
  go_wp2_with fail
  refine (Name_any s HZ.out _ (hS.below b1 hS.lt)).mono ?_
  rintro e w3 ⟨rfl, b3⟩
  have B3 := b1.trans (b3.mono b1.size)
  go_wp2_with fail
  refine (rName_any s _ HZ.out).mono ?_
  rintro e w4 ⟨rfl, rfl⟩
  go_wp2_with fail
  refine (Prefix_any s HZ.out _ (hS.below B3 hS.lt)).mono ?_
  rintro e w5 ⟨rfl, b5⟩
  have B5 := B3.trans (b5.mono B3.size)
  go_wp2_with fail
  refine (rPrefix_any s _ HZ.out).mono ?_
  rintro e w6 ⟨rfl, rfl⟩
  go_wp2_with fail
  refine (wakes_any _ (hS.below B5 hS.lt)).mono ?_
  rintro e w7 ⟨rfl, b7⟩
  go_wp2_with fail
  go_ret
  exact ⟨rfl, B5.trans (b7.mono B5.size)⟩
end Go.Proofs.YtjimnkbgnblanaaDoor
