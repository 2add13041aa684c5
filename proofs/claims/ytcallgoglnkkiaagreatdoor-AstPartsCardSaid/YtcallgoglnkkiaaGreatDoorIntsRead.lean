/- Contract of ints.Read: for any text that may be read. -/
import Derived.Test.YtcallgoglnkkiaaGreatDoorIMay
import Derived.Test.YtcallgoglnkkiaaGreatDoorDigits
import Derived.IntWalk
namespace Go.Proofs.YtcallgoglnkkiaaGreatDoor
open Go.RowKit

theorem readR_none {l : List UInt8} (h : dg l = 0) : readR l = (0, 0, 2) := by rw [readR, if_pos h]
theorem readR_some {l : List UInt8} {k : Nat} (h : dg l = k) (h0 : ¬ k = 0) : readR l = ((fit (held (vl l k))).1, (k : Int), (fit (held (vl l k))).2) := by
  subst h
  rw [readR, if_neg h0]
  by_cases h : 576460752303423487 < vl l (dg l)
  · rw [if_pos h, fit_no (by unfold mayB held; split <;> simp <;> omega)]
  · rw [if_neg h, fit_yes (by unfold mayB held; split <;> simp <;> omega)]
    simp only [held]
    rw [if_pos (by omega)]

end Go.Proofs.YtcallgoglnkkiaaGreatDoor
