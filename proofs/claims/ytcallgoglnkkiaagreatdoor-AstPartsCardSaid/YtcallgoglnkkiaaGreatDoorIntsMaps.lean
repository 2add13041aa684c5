/- The two tables of package ints, as the program makes them anew at each call. -/
import Derived.Test.YtcallgoglnkkiaaGreatDoorTab
import Derived.ProofKit
namespace Go.Proofs.YtcallgoglnkkiaaGreatDoor
open Go.RowKit

/-- The first k entries of the table of operations. -/
def opTab (k : Nat) : Array MapEntry := (#[⟨.string ⟨#[43]⟩, .func (.func 138) #[] #[], 0⟩, ⟨.string ⟨#[45]⟩, .func (.func 139) #[] #[], 1⟩, ⟨.string ⟨#[42]⟩, .func (.func 140) #[] #[], 2⟩,
  ⟨.string ⟨#[100, 105, 118]⟩, .func (.func 141) #[] #[], 3⟩, ⟨.string ⟨#[114, 101, 109]⟩, .func (.func 142) #[] #[], 4⟩] : Array MapEntry).take k

theorem operations_any (w : World) : Calls Tryz.prog 128 #[] w fun e w' => e = .returned (.map (some w.heap.size)) ∧ w' = w.alloc (.map (opTab 5) 5) := by
  have hmm := @run_makeMap Tryz.prog
  have i1 : Sem.run Tryz.prog (Instr.mapUpdate 135 (.map (some w.heap.size)) (.string ⟨#[43]⟩) (.func (.func 138) #[] #[])) (w.alloc (.map #[] 0)) = .ok () (w.alloc (.map (opTab 1) 1)) :=
    run_put_last Tryz.underlying135 Tryz.underlying9 w (opTab 0) 0 _ _ rfl
  have i2 : Sem.run Tryz.prog (Instr.mapUpdate 135 (.map (some w.heap.size)) (.string ⟨#[45]⟩) (.func (.func 139) #[] #[])) (w.alloc (.map (opTab 1) 1)) = .ok () (w.alloc (.map (opTab 2) 2)) :=
    run_put_last Tryz.underlying135 Tryz.underlying9 w (opTab 1) 1 _ _ rfl
  have i3 : Sem.run Tryz.prog (Instr.mapUpdate 135 (.map (some w.heap.size)) (.string ⟨#[42]⟩) (.func (.func 140) #[] #[])) (w.alloc (.map (opTab 2) 2)) = .ok () (w.alloc (.map (opTab 3) 3)) :=
    run_put_last Tryz.underlying135 Tryz.underlying9 w (opTab 2) 2 _ _ rfl
  have i4 : Sem.run Tryz.prog (Instr.mapUpdate 135 (.map (some w.heap.size)) (.string ⟨#[100, 105, 118]⟩) (.func (.func 141) #[] #[])) (w.alloc (.map (opTab 3) 3)) = .ok () (w.alloc (.map (opTab 4) 4)) :=
    run_put_last Tryz.underlying135 Tryz.underlying9 w (opTab 3) 3 _ _ rfl
  have i5 : Sem.run Tryz.prog (Instr.mapUpdate 135 (.map (some w.heap.size)) (.string ⟨#[114, 101, 109]⟩) (.func (.func 142) #[] #[])) (w.alloc (.map (opTab 4) 4)) = .ok () (w.alloc (.map (opTab 5) 5)) :=
    run_put_last Tryz.underlying135 Tryz.underlying9 w (opTab 4) 4 _ _ rfl
  go_enter Tryz.func128, Tryz.ntmps128
  go_wp2
  go_ret
  exact ⟨rfl, rfl⟩
end Go.Proofs.YtcallgoglnkkiaaGreatDoor
