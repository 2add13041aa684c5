/- The two tables of package ints, as the program makes them anew at each call. -/
import Derived.Test.YthbbpcgaakbolaaTab
import Derived.ProofKit
namespace Go.Proofs.Ythbbpcgaakbolaa
open Go.RowKit

/-- The first k entries of the table of operations. -/
def opTab (k : Nat) : Array MapEntry := (#[⟨.string ⟨#[43]⟩, .func (.func 24) #[] #[], 0⟩, ⟨.string ⟨#[45]⟩, .func (.func 25) #[] #[], 1⟩, ⟨.string ⟨#[42]⟩, .func (.func 26) #[] #[], 2⟩,
  ⟨.string ⟨#[100, 105, 118]⟩, .func (.func 27) #[] #[], 3⟩, ⟨.string ⟨#[114, 101, 109]⟩, .func (.func 28) #[] #[], 4⟩] : Array MapEntry).take k

theorem operations_any (w : World) : Calls Try.prog 19 #[] w fun e w' => e = .returned (.map (some w.heap.size)) ∧ w' = w.alloc (.map (opTab 5) 5) := by
  have hmm := @run_makeMap Try.prog
  have i1 : Sem.run Try.prog (Instr.mapUpdate 39 (.map (some w.heap.size)) (.string ⟨#[43]⟩) (.func (.func 24) #[] #[])) (w.alloc (.map #[] 0)) = .ok () (w.alloc (.map (opTab 1) 1)) :=
    run_put_last Try.underlying39 Try.underlying9 w (opTab 0) 0 _ _ rfl
  have i2 : Sem.run Try.prog (Instr.mapUpdate 39 (.map (some w.heap.size)) (.string ⟨#[45]⟩) (.func (.func 25) #[] #[])) (w.alloc (.map (opTab 1) 1)) = .ok () (w.alloc (.map (opTab 2) 2)) :=
    run_put_last Try.underlying39 Try.underlying9 w (opTab 1) 1 _ _ rfl
  have i3 : Sem.run Try.prog (Instr.mapUpdate 39 (.map (some w.heap.size)) (.string ⟨#[42]⟩) (.func (.func 26) #[] #[])) (w.alloc (.map (opTab 2) 2)) = .ok () (w.alloc (.map (opTab 3) 3)) :=
    run_put_last Try.underlying39 Try.underlying9 w (opTab 2) 2 _ _ rfl
  have i4 : Sem.run Try.prog (Instr.mapUpdate 39 (.map (some w.heap.size)) (.string ⟨#[100, 105, 118]⟩) (.func (.func 27) #[] #[])) (w.alloc (.map (opTab 3) 3)) = .ok () (w.alloc (.map (opTab 4) 4)) :=
    run_put_last Try.underlying39 Try.underlying9 w (opTab 3) 3 _ _ rfl
  have i5 : Sem.run Try.prog (Instr.mapUpdate 39 (.map (some w.heap.size)) (.string ⟨#[114, 101, 109]⟩) (.func (.func 28) #[] #[])) (w.alloc (.map (opTab 4) 4)) = .ok () (w.alloc (.map (opTab 5) 5)) :=
    run_put_last Try.underlying39 Try.underlying9 w (opTab 4) 4 _ _ rfl
  go_enter Try.func19, Try.ntmps19
  go_wp2
  go_ret
  exact ⟨rfl, rfl⟩
end Go.Proofs.Ythbbpcgaakbolaa
