/- package heap: no heap; kinds; fields that are empty. -/
import Derived.Test.YtphfekcacaaabaaDoorOkPure
import Derived.Test.YtphfekcacaaabaaDoorAppOwn
import Derived.Test.YtphfekcacaaabaaDoorUnroll
set_option linter.unusedVariables false
namespace Go.Proofs.YtphfekcacaaabaaDoor
open Go.RowKit

theorem info_word : (Tryd.prog.info? 27).map (fun i => (i.zero, i.size)) = some (some (.agg #[.bool false, .int .i64 0, .int .i8 0, .int .i64 0, .string ⟨#[]⟩, .string ⟨#[]⟩, .slice none 0 0]), 7) := by kernel_rfl
theorem info_cell : (Tryd.prog.info? 39).map (fun i => (i.zero, i.size)) = some (some (.agg #[.int .i8 0, .int .i64 0, .slice none 0 0]), 3) := by kernel_rfl
theorem info_heap : (Tryd.prog.info? 76).map (fun i => (i.zero, i.size)) = some (some (.agg #[.slice none 0 0, .int .i64 0, .slice none 0 0]), 3) := by kernel_rfl

set_option maxHeartbeats 1000000 in
theorem parted_any (k : Int) (w : World) : Calls Tryd.prog 31 #[.int .i8 k] w fun e w' => e = .returned (.bool (k == 5 || k == 7)) ∧ w = w' := by
  cases h5 : (k == 5)
  · cases h7 : (k == 7)
    · go_enter Tryd.func31, Tryd.ntmps31
      go_wp2_with fail
      go_ret
      exact ⟨rfl, rfl⟩
    · go_enter Tryd.func31, Tryd.ntmps31
      go_wp2_with fail
      go_ret
      exact ⟨rfl, rfl⟩
  · go_enter Tryd.func31, Tryd.ntmps31
    go_wp2_with fail
    go_ret
    exact ⟨rfl, rfl⟩

/-- A word without anything. -/
def word0 : Value := .agg #[.bool false, .int .i64 0, .int .i8 0, .int .i64 0, .string ⟨#[]⟩, .string ⟨#[]⟩, .slice none 0 0]
def cell0 : Value := .agg #[.int .i8 0, .int .i64 0, .slice none 0 0]
def term0 : Value := .agg #[.int .i8 0, .int .i64 0, .string ⟨#[]⟩, .string ⟨#[]⟩, .slice none 0 0]

set_option maxHeartbeats 1000000 in
set_option maxRecDepth 100000 in
theorem Len_nil (w : World) : Calls Tryd.prog 13 #[.pointer none] w fun e w' => e = .returned (.int .i64 0) ∧ w = w' := by
  go_enter Tryd.func13, Tryd.ntmps13
  go_wp2_with fail
  go_ret
  exact ⟨rfl, rfl⟩
set_option maxHeartbeats 1000000 in
set_option maxRecDepth 100000 in
theorem Words_nil (w : World) : Calls Tryd.prog 14 #[.pointer none] w fun e w' => e = .returned (.int .i64 0) ∧ w = w' := by
  go_enter Tryd.func14, Tryd.ntmps14
  go_wp2_with fail
  go_ret
  exact ⟨rfl, rfl⟩
set_option maxHeartbeats 1000000 in
set_option maxRecDepth 100000 in
theorem May_nil (c0 c1 c2 c3 c4 c5 c6 : Value) (w : World) : Calls Tryd.prog 12 #[.pointer none, .agg #[c0, c1, c2, c3, c4, c5, c6]] w fun e w' => e = .returned (.bool false) ∧ Below w.heap.size w w' := by
  go_enter Tryd.func12, Tryd.ntmps12
  go_wp2_with fail
  go_ret
  exact ⟨rfl, (Below.refl _ w).alloc (Nat.le_refl _) _⟩
set_option maxHeartbeats 1000000 in
set_option maxRecDepth 100000 in
theorem Size_nil (c0 c1 c2 c3 c4 c5 c6 : Value) (w : World) : Calls Tryd.prog 10 #[.pointer none, .agg #[c0, c1, c2, c3, c4, c5, c6]] w fun e w' => e = .returned (.tuple #[.int .i64 0, .int .i64 1]) ∧ Below w.heap.size w w' := by
  go_enter Tryd.func10, Tryd.ntmps10
  go_wp2_with fail
  go_ret2
  exact ⟨rfl, (Below.refl _ w).alloc (Nat.le_refl _) _⟩

set_option maxHeartbeats 2000000 in
set_option maxRecDepth 100000 in
theorem Put_nil (c0 c1 c2 c3 c4 : Value) (w : World) : Calls Tryd.prog 7 #[.pointer none, .agg #[c0, c1, c2, c3, c4]] w fun e w' => e = .returned (.tuple #[word0, .int .i64 1]) ∧ Below w.heap.size w w' := by
  go_enter Tryd.func7, Tryd.ntmps7
  go_wp2_with fail
  refine bodyPost_ret (v := .tuple #[word0, .int .i64 1]) (by simp [results, Tryd.f7, go_sem, word0]) rfl ⟨rfl, ?_⟩
  exact (((Below.refl _ w).alloc (Nat.le_refl _) _).alloc (by simp) _).alloc (by simp; omega) _

set_option maxHeartbeats 2000000 in
set_option maxRecDepth 100000 in
theorem Make_nil (k : Int) (A : Option Addr) (n cap : Nat) (w : World) : Calls Tryd.prog 8 #[.pointer none, .int .i8 k, .slice A n cap] w fun e w' => e = .returned (.tuple #[word0, .int .i64 1]) ∧ Below w.heap.size w w' := by
  go_enter Tryd.func8, Tryd.ntmps8
  go_wp2_with fail
  refine bodyPost_ret (v := .tuple #[word0, .int .i64 1]) (by simp [results, Tryd.f8, go_sem, word0]) rfl ⟨rfl, ?_⟩
  exact (Below.refl _ w).alloc (Nat.le_refl _) _

set_option maxHeartbeats 2000000 in
set_option maxRecDepth 100000 in
theorem Take_nil (c0 c1 c2 c3 c4 c5 c6 : Value) (w : World) : Calls Tryd.prog 9 #[.pointer none, .agg #[c0, c1, c2, c3, c4, c5, c6]] w fun e w' => e = .returned (.tuple #[term0, .int .i64 1]) ∧ Below w.heap.size w w' := by
  go_enter Tryd.func9, Tryd.ntmps9
  go_wp2_with fail
  refine bodyPost_ret (v := .tuple #[term0, .int .i64 1]) (by simp [results, Tryd.f9, go_sem, term0]) rfl ⟨rfl, ?_⟩
  exact (((Below.refl _ w).alloc (Nat.le_refl _) _).alloc (by simp) _).alloc (by simp; omega) _

set_option maxHeartbeats 2000000 in
set_option maxRecDepth 100000 in
theorem Cell_nil (n : Int) (w : World) : Calls Tryd.prog 11 #[.pointer none, .int .i64 n] w fun e w' => e = .returned (.tuple #[cell0, .int .i64 1]) ∧ Below w.heap.size w w' := by
  go_enter Tryd.func11, Tryd.ntmps11
  go_wp2_with fail
  refine bodyPost_ret (v := .tuple #[cell0, .int .i64 1]) (by simp [results, Tryd.f11, go_sem, cell0]) rfl ⟨rfl, ?_⟩
  exact (Below.refl _ w).alloc (Nat.le_refl _) _
end Go.Proofs.YtphfekcacaaabaaDoor
