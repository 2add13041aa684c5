/- What the operations, comparisons and texts of integers of 60 bits come to, as plain functions on whole numbers. -/
import Derived.WalkKit
namespace Go.Proofs.YtaemfjmmklpjeaaGreatDoor
open Go.RowKit

def mayB (n : Int) : Bool := decide (-576460752303423488 ≤ n ∧ n ≤ 576460752303423487)
theorem may_bd {n : Int} (h : mayB n = true) : -576460752303423488 ≤ n ∧ n ≤ 576460752303423487 := of_decide_eq_true h
end Go.Proofs.YtaemfjmmklpjeaaGreatDoor
