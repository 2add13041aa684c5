/- package heap: no heap; kinds; fields that are empty. -/
import Derived.Test.YtgdkhmamjhdfdaaDoorOkPure
import Derived.Test.YtgdkhmamjhdfdaaDoorAppOwn
import Derived.Test.YtgdkhmamjhdfdaaDoorUnroll
set_option linter.unusedVariables false
namespace Go.Proofs.YtgdkhmamjhdfdaaDoor
open Go.RowKit

theorem info_word : (Tryd.prog.info? 49).map (fun i => (i.zero, i.size)) = some (some (.agg #[.bool false, .int .i64 0, .int .i8 0, .int .i64 0, .string ⟨#[]⟩, .string ⟨#[]⟩, .slice none 0 0]), 7) := by kernel_rfl
theorem info_cell : (Tryd.prog.info? 75).map (fun i => (i.zero, i.size)) = some (some (.agg #[.int .i8 0, .int .i64 0, .slice none 0 0]), 3) := by kernel_rfl
theorem info_heap : (Tryd.prog.info? 67).map (fun i => (i.zero, i.size)) = some (some (.agg #[.slice none 0 0, .int .i64 0, .slice none 0 0]), 3) := by kernel_rfl

set_option maxHeartbeats 1000000 in
theorem parted_any (k : Int) (w : World) : Calls Tryd.prog 24 #[.int .i8 k] w fun e w' => e = .returned (.bool (k == 5 || k == 7)) ∧ w = w' := by
  cases h5 : (k == 5)
  · cases h7 : (k == 7)
    · go_enter Tryd.func24, Tryd.ntmps24
      go_wp2_with fail
      go_ret
      exact ⟨rfl, rfl⟩
    · go_enter Tryd.func24, Tryd.ntmps24
      go_wp2_with fail
      go_ret
      exact ⟨rfl, rfl⟩
  · go_enter Tryd.func24, Tryd.ntmps24
    go_wp2_with fail
    go_ret
    exact ⟨rfl, rfl⟩

/-- A word without anything. -/
def word0 : Value := .agg #[.bool false, .int .i64 0, .int .i8 0, .int .i64 0, .string ⟨#[]⟩, .string ⟨#[]⟩, .slice none 0 0]
def cell0 : Value := .agg #[.int .i8 0, .int .i64 0, .slice none 0 0]
def term0 : Value := .agg #[.int .i8 0, .int .i64 0, .string ⟨#[]⟩, .string ⟨#[]⟩, .slice none 0 0]

set_option maxHeartbeats 1000000 in
set_option maxRecDepth 100000 in
theorem Len_nil (w : World) : Calls Tryd.prog 15 #[.pointer none] w fun e w' => e = .returned (.int .i64 0) ∧ w = w' := by
  go_enter Tryd.func15, Tryd.ntmps15
  go_wp2_with fail
  go_ret
  exact ⟨rfl, rfl⟩
set_option maxHeartbeats 1000000 in
set_option maxRecDepth 100000 in
theorem May_nil (c0 c1 c2 c3 c4 c5 c6 : Value) (w : World) : Calls Tryd.prog 19 #[.pointer none, .agg #[c0, c1, c2, c3, c4, c5, c6]] w fun e w' => e = .returned (.bool false) ∧ Below w.heap.size w w' := by
  go_enter Tryd.func19, Tryd.ntmps19
  go_wp2_with fail
  go_ret
  exact ⟨rfl, (Below.refl _ w).alloc (Nat.le_refl _) _⟩
set_option maxHeartbeats 2000000 in
set_option maxRecDepth 100000 in
theorem Put_nil (c0 c1 c2 c3 c4 : Value) (w : World) : Calls Tryd.prog 30 #[.pointer none, .agg #[c0, c1, c2, c3, c4]] w fun e w' => e = .returned (.tuple #[word0, .int .i64 1]) ∧ Below w.heap.size w w' := by
  go_enter Tryd.func30, Tryd.ntmps30
  go_wp2_with fail
  refine bodyPost_ret (v := .tuple #[word0, .int .i64 1]) (by simp [results, Tryd.f30, go_sem, word0]) rfl ⟨rfl, ?_⟩
  exact (((Below.refl _ w).alloc (Nat.le_refl _) _).alloc (by simp) _).alloc (by simp; omega) _

set_option maxHeartbeats 2000000 in
set_option maxRecDepth 100000 in
theorem Make_nil (k : Int) (A : Option Addr) (n cap : Nat) (w : World) : Calls Tryd.prog 12 #[.pointer none, .int .i8 k, .slice A n cap] w fun e w' => e = .returned (.tuple #[word0, .int .i64 1]) ∧ Below w.heap.size w w' := by
  go_enter Tryd.func12, Tryd.ntmps12
  go_wp2_with fail
  refine bodyPost_ret (v := .tuple #[word0, .int .i64 1]) (by simp [results, Tryd.f12, go_sem, word0]) rfl ⟨rfl, ?_⟩
  exact (Below.refl _ w).alloc (Nat.le_refl _) _

set_option maxHeartbeats 2000000 in
set_option maxRecDepth 100000 in
theorem Take_nil (c0 c1 c2 c3 c4 c5 c6 : Value) (w : World) : Calls Tryd.prog 29 #[.pointer none, .agg #[c0, c1, c2, c3, c4, c5, c6]] w fun e w' => e = .returned (.tuple #[term0, .int .i64 1]) ∧ Below w.heap.size w w' := by
  go_enter Tryd.func29, Tryd.ntmps29
  go_wp2_with fail
  refine bodyPost_ret (v := .tuple #[term0, .int .i64 1]) (by simp [results, Tryd.f29, go_sem, term0]) rfl ⟨rfl, ?_⟩
  exact (((Below.refl _ w).alloc (Nat.le_refl _) _).alloc (by simp) _).alloc (by simp; omega) _

set_option maxHeartbeats 2000000 in
set_option maxRecDepth 100000 in
theorem Cell_nil (n : Int) (w : World) : Calls Tryd.prog 35 #[.pointer none, .int .i64 n] w fun e w' => e = .returned (.tuple #[cell0, .int .i64 1]) ∧ Below w.heap.size w w' := by
  go_enter Tryd.func35, Tryd.ntmps35
  go_wp2_with fail
  refine bodyPost_ret (v := .tuple #[cell0, .int .i64 1]) (by simp [results, Tryd.f35, go_sem, cell0]) rfl ⟨rfl, ?_⟩
  exact (Below.refl _ w).alloc (Nat.le_refl _) _
end Go.Proofs.YtgdkhmamjhdfdaaDoor
