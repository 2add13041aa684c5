/- package heap: no heap; kinds; fields that are empty. -/
import Derived.Test.YtgdkhmamjhdfdaaGreatDoorOkPure
import Derived.Test.YtgdkhmamjhdfdaaGreatDoorAppOwn
import Derived.Test.YtgdkhmamjhdfdaaGreatDoorUnroll
set_option linter.unusedVariables false
namespace Go.Proofs.YtgdkhmamjhdfdaaGreatDoor
open Go.RowKit

theorem info_word : (Tryz.prog.info? 51).map (fun i => (i.zero, i.size)) = some (some (.agg #[.bool false, .int .i64 0, .int .i8 0, .int .i64 0, .string ⟨#[]⟩, .string ⟨#[]⟩, .slice none 0 0]), 7) := by kernel_rfl
theorem info_cell : (Tryz.prog.info? 62).map (fun i => (i.zero, i.size)) = some (some (.agg #[.int .i8 0, .int .i64 0, .slice none 0 0]), 3) := by kernel_rfl
theorem info_heap : (Tryz.prog.info? 94).map (fun i => (i.zero, i.size)) = some (some (.agg #[.slice none 0 0, .int .i64 0, .slice none 0 0]), 3) := by kernel_rfl

set_option maxHeartbeats 1000000 in
theorem parted_any (k : Int) (w : World) : Calls Tryz.prog 44 #[.int .i8 k] w fun e w' => e = .returned (.bool (k == 5 || k == 7)) ∧ w = w' := by
  cases h5 : (k == 5)
  · cases h7 : (k == 7)
    · go_enter Tryz.func44, Tryz.ntmps44
      go_wp2_with fail
      go_ret
      exact ⟨rfl, rfl⟩
    · go_enter Tryz.func44, Tryz.ntmps44
      go_wp2_with fail
      go_ret
      exact ⟨rfl, rfl⟩
  · go_enter Tryz.func44, Tryz.ntmps44
    go_wp2_with fail
    go_ret
    exact ⟨rfl, rfl⟩

/-- A word without anything. -/
def word0 : Value := .agg #[.bool false, .int .i64 0, .int .i8 0, .int .i64 0, .string ⟨#[]⟩, .string ⟨#[]⟩, .slice none 0 0]
def cell0 : Value := .agg #[.int .i8 0, .int .i64 0, .slice none 0 0]
def term0 : Value := .agg #[.int .i8 0, .int .i64 0, .string ⟨#[]⟩, .string ⟨#[]⟩, .slice none 0 0]

set_option maxHeartbeats 1000000 in
set_option maxRecDepth 100000 in
theorem Len_nil (w : World) : Calls Tryz.prog 21 #[.pointer none] w fun e w' => e = .returned (.int .i64 0) ∧ w = w' := by
  go_enter Tryz.func21, Tryz.ntmps21
  go_wp2_with fail
  go_ret
  exact ⟨rfl, rfl⟩
set_option maxHeartbeats 1000000 in
set_option maxRecDepth 100000 in
theorem May_nil (c0 c1 c2 c3 c4 c5 c6 : Value) (w : World) : Calls Tryz.prog 35 #[.pointer none, .agg #[c0, c1, c2, c3, c4, c5, c6]] w fun e w' => e = .returned (.bool false) ∧ Below w.heap.size w w' := by
  go_enter Tryz.func35, Tryz.ntmps35
  go_wp2_with fail
  go_ret
  exact ⟨rfl, (Below.refl _ w).alloc (Nat.le_refl _) _⟩
set_option maxHeartbeats 2000000 in
set_option maxRecDepth 100000 in
theorem Put_nil (c0 c1 c2 c3 c4 : Value) (w : World) : Calls Tryz.prog 51 #[.pointer none, .agg #[c0, c1, c2, c3, c4]] w fun e w' => e = .returned (.tuple #[word0, .int .i64 1]) ∧ Below w.heap.size w w' := by
  go_enter Tryz.func51, Tryz.ntmps51
  go_wp2_with fail
  refine bodyPost_ret (v := .tuple #[word0, .int .i64 1]) (by simp [results, Tryz.f51, go_sem, word0]) rfl ⟨rfl, ?_⟩
  exact (((Below.refl _ w).alloc (Nat.le_refl _) _).alloc (by simp) _).alloc (by simp; omega) _

set_option maxHeartbeats 2000000 in
set_option maxRecDepth 100000 in
theorem Make_nil (k : Int) (A : Option Addr) (n cap : Nat) (w : World) : Calls Tryz.prog 25 #[.pointer none, .int .i8 k, .slice A n cap] w fun e w' => e = .returned (.tuple #[word0, .int .i64 1]) ∧ Below w.heap.size w w' := by
  go_enter Tryz.func25, Tryz.ntmps25
  go_wp2_with fail
  refine bodyPost_ret (v := .tuple #[word0, .int .i64 1]) (by simp [results, Tryz.f25, go_sem, word0]) rfl ⟨rfl, ?_⟩
  exact (Below.refl _ w).alloc (Nat.le_refl _) _

set_option maxHeartbeats 2000000 in
set_option maxRecDepth 100000 in
theorem Take_nil (c0 c1 c2 c3 c4 c5 c6 : Value) (w : World) : Calls Tryz.prog 38 #[.pointer none, .agg #[c0, c1, c2, c3, c4, c5, c6]] w fun e w' => e = .returned (.tuple #[term0, .int .i64 1]) ∧ Below w.heap.size w w' := by
  go_enter Tryz.func38, Tryz.ntmps38
  go_wp2_with fail
  refine bodyPost_ret (v := .tuple #[term0, .int .i64 1]) (by simp [results, Tryz.f38, go_sem, term0]) rfl ⟨rfl, ?_⟩
  exact (((Below.refl _ w).alloc (Nat.le_refl _) _).alloc (by simp) _).alloc (by simp; omega) _

set_option maxHeartbeats 2000000 in
set_option maxRecDepth 100000 in
theorem Cell_nil (n : Int) (w : World) : Calls Tryz.prog 56 #[.pointer none, .int .i64 n] w fun e w' => e = .returned (.tuple #[cell0, .int .i64 1]) ∧ Below w.heap.size w w' := by
  go_enter Tryz.func56, Tryz.ntmps56
  go_wp2_with fail
  refine bodyPost_ret (v := .tuple #[cell0, .int .i64 1]) (by simp [results, Tryz.f56, go_sem, cell0]) rfl ⟨rfl, ?_⟩
  exact (Below.refl _ w).alloc (Nat.le_refl _) _
end Go.Proofs.YtgdkhmamjhdfdaaGreatDoor
