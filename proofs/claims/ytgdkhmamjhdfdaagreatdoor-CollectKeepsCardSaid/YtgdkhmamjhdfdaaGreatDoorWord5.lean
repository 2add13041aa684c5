/- pleachlaw05: word, words. -/
import Derived.Test.YtgdkhmamjhdfdaaGreatDoorOpen5
set_option linter.unusedVariables false
namespace Go.Proofs.YtgdkhmamjhdfdaaGreatDoor
open Go.RowKit

set_option maxRecDepth 100000 in
set_option maxHeartbeats 4000000 in
theorem word5_cell (a k n : Int) (s t : ByteArray) (A : Option Addr) (len cap : Nat) (w : World) : Calls Tryz.prog 18 #[.agg #[(.bool true), (.int .i64 a), (.int .i8 k), (.int .i64 n), (.string s), (.string t), (.slice A len cap)]] w fun e w' => e = .returned (.agg #[(.bool true), (.int .i64 a), (.int .i8 0), (.int .i64 0), (.string ⟨#[]⟩), (.string ⟨#[]⟩), (.slice none 0 0)]) ∧ Below w.heap.size w w' := by
  obtain ⟨w1, hw1⟩ : ∃ w1, w1 = w.alloc (.cells #[(.bool true), (.int .i64 a), (.int .i8 k), (.int .i64 n), (.string s), (.string t), (.slice A len cap)] 29) := ⟨_, rfl⟩
  have b1 : Below w.heap.size w w1 := by rw [hw1]; exact (Below.refl _ _).alloc (Nat.le_refl _) _
  have g1 : w1.heap[w.heap.size]? = some (.cells #[(.bool true), (.int .i64 a), (.int .i8 k), (.int .i64 n), (.string s), (.string t), (.slice A len cap)] 29 (0, 0)) := by rw [hw1]; exact block_alloc _ _
  have z0 : (w1.alloc (.cells #[(.bool false), (.int .i64 0), (.int .i8 0), (.int .i64 0), (.string ⟨#[]⟩), (.string ⟨#[]⟩), (.slice none 0 0)] 51)).cell? ⟨w1.heap.size, 0, none⟩ = some (.bool false) := cell_of_row (block_alloc _ _) rfl
  have zf0 : (w1.alloc (.cells #[(.bool false), (.int .i64 0), (.int .i8 0), (.int .i64 0), (.string ⟨#[]⟩), (.string ⟨#[]⟩), (.slice none 0 0)] 51)).frozen? ⟨w1.heap.size, 0, none⟩ = false := free_of_row (block_alloc _ _)
  have x0 : (w1.alloc (.cells #[(.bool true), (.int .i64 a), (.int .i8 0), (.int .i64 0), (.string ⟨#[]⟩), (.string ⟨#[]⟩), (.slice none 0 0)] 51)).cell? ⟨w1.heap.size, 0, none⟩ = some (.bool true) := cell_of_row (block_alloc _ _) rfl
  have p0 : (w1.alloc (.cells #[(.bool false), (.int .i64 0), (.int .i8 0), (.int .i64 0), (.string ⟨#[]⟩), (.string ⟨#[]⟩), (.slice none 0 0)] 51)).cell? ⟨w.heap.size, 0, none⟩ = some (.bool true) := cell_of_row ((Below.heap_alloc _ _ _ (heap_lt g1)).trans g1) rfl
  have z1 : (w1.alloc (.cells #[(.bool false), (.int .i64 0), (.int .i8 0), (.int .i64 0), (.string ⟨#[]⟩), (.string ⟨#[]⟩), (.slice none 0 0)] 51)).cell? ⟨w1.heap.size, 1, none⟩ = some (.int .i64 0) := cell_of_row (block_alloc _ _) rfl
  have zf1 : (w1.alloc (.cells #[(.bool false), (.int .i64 0), (.int .i8 0), (.int .i64 0), (.string ⟨#[]⟩), (.string ⟨#[]⟩), (.slice none 0 0)] 51)).frozen? ⟨w1.heap.size, 1, none⟩ = false := free_of_row (block_alloc _ _)
  have x1 : (w1.alloc (.cells #[(.bool true), (.int .i64 a), (.int .i8 0), (.int .i64 0), (.string ⟨#[]⟩), (.string ⟨#[]⟩), (.slice none 0 0)] 51)).cell? ⟨w1.heap.size, 1, none⟩ = some (.int .i64 a) := cell_of_row (block_alloc _ _) rfl
  have p1 : (w1.alloc (.cells #[(.bool false), (.int .i64 0), (.int .i8 0), (.int .i64 0), (.string ⟨#[]⟩), (.string ⟨#[]⟩), (.slice none 0 0)] 51)).cell? ⟨w.heap.size, 1, none⟩ = some (.int .i64 a) := cell_of_row ((Below.heap_alloc _ _ _ (heap_lt g1)).trans g1) rfl
  have z2 : (w1.alloc (.cells #[(.bool false), (.int .i64 0), (.int .i8 0), (.int .i64 0), (.string ⟨#[]⟩), (.string ⟨#[]⟩), (.slice none 0 0)] 51)).cell? ⟨w1.heap.size, 2, none⟩ = some (.int .i8 0) := cell_of_row (block_alloc _ _) rfl
  have zf2 : (w1.alloc (.cells #[(.bool false), (.int .i64 0), (.int .i8 0), (.int .i64 0), (.string ⟨#[]⟩), (.string ⟨#[]⟩), (.slice none 0 0)] 51)).frozen? ⟨w1.heap.size, 2, none⟩ = false := free_of_row (block_alloc _ _)
  have x2 : (w1.alloc (.cells #[(.bool true), (.int .i64 a), (.int .i8 0), (.int .i64 0), (.string ⟨#[]⟩), (.string ⟨#[]⟩), (.slice none 0 0)] 51)).cell? ⟨w1.heap.size, 2, none⟩ = some (.int .i8 0) := cell_of_row (block_alloc _ _) rfl
  have p2 : (w1.alloc (.cells #[(.bool false), (.int .i64 0), (.int .i8 0), (.int .i64 0), (.string ⟨#[]⟩), (.string ⟨#[]⟩), (.slice none 0 0)] 51)).cell? ⟨w.heap.size, 2, none⟩ = some (.int .i8 k) := cell_of_row ((Below.heap_alloc _ _ _ (heap_lt g1)).trans g1) rfl
  have z3 : (w1.alloc (.cells #[(.bool false), (.int .i64 0), (.int .i8 0), (.int .i64 0), (.string ⟨#[]⟩), (.string ⟨#[]⟩), (.slice none 0 0)] 51)).cell? ⟨w1.heap.size, 3, none⟩ = some (.int .i64 0) := cell_of_row (block_alloc _ _) rfl
  have zf3 : (w1.alloc (.cells #[(.bool false), (.int .i64 0), (.int .i8 0), (.int .i64 0), (.string ⟨#[]⟩), (.string ⟨#[]⟩), (.slice none 0 0)] 51)).frozen? ⟨w1.heap.size, 3, none⟩ = false := free_of_row (block_alloc _ _)
  have x3 : (w1.alloc (.cells #[(.bool true), (.int .i64 a), (.int .i8 0), (.int .i64 0), (.string ⟨#[]⟩), (.string ⟨#[]⟩), (.slice none 0 0)] 51)).cell? ⟨w1.heap.size, 3, none⟩ = some (.int .i64 0) := cell_of_row (block_alloc _ _) rfl
  have p3 : (w1.alloc (.cells #[(.bool false), (.int .i64 0), (.int .i8 0), (.int .i64 0), (.string ⟨#[]⟩), (.string ⟨#[]⟩), (.slice none 0 0)] 51)).cell? ⟨w.heap.size, 3, none⟩ = some (.int .i64 n) := cell_of_row ((Below.heap_alloc _ _ _ (heap_lt g1)).trans g1) rfl
  have z4 : (w1.alloc (.cells #[(.bool false), (.int .i64 0), (.int .i8 0), (.int .i64 0), (.string ⟨#[]⟩), (.string ⟨#[]⟩), (.slice none 0 0)] 51)).cell? ⟨w1.heap.size, 4, none⟩ = some (.string ⟨#[]⟩) := cell_of_row (block_alloc _ _) rfl
  have zf4 : (w1.alloc (.cells #[(.bool false), (.int .i64 0), (.int .i8 0), (.int .i64 0), (.string ⟨#[]⟩), (.string ⟨#[]⟩), (.slice none 0 0)] 51)).frozen? ⟨w1.heap.size, 4, none⟩ = false := free_of_row (block_alloc _ _)
  have x4 : (w1.alloc (.cells #[(.bool true), (.int .i64 a), (.int .i8 0), (.int .i64 0), (.string ⟨#[]⟩), (.string ⟨#[]⟩), (.slice none 0 0)] 51)).cell? ⟨w1.heap.size, 4, none⟩ = some (.string ⟨#[]⟩) := cell_of_row (block_alloc _ _) rfl
  have p4 : (w1.alloc (.cells #[(.bool false), (.int .i64 0), (.int .i8 0), (.int .i64 0), (.string ⟨#[]⟩), (.string ⟨#[]⟩), (.slice none 0 0)] 51)).cell? ⟨w.heap.size, 4, none⟩ = some (.string s) := cell_of_row ((Below.heap_alloc _ _ _ (heap_lt g1)).trans g1) rfl
  have z5 : (w1.alloc (.cells #[(.bool false), (.int .i64 0), (.int .i8 0), (.int .i64 0), (.string ⟨#[]⟩), (.string ⟨#[]⟩), (.slice none 0 0)] 51)).cell? ⟨w1.heap.size, 5, none⟩ = some (.string ⟨#[]⟩) := cell_of_row (block_alloc _ _) rfl
  have zf5 : (w1.alloc (.cells #[(.bool false), (.int .i64 0), (.int .i8 0), (.int .i64 0), (.string ⟨#[]⟩), (.string ⟨#[]⟩), (.slice none 0 0)] 51)).frozen? ⟨w1.heap.size, 5, none⟩ = false := free_of_row (block_alloc _ _)
  have x5 : (w1.alloc (.cells #[(.bool true), (.int .i64 a), (.int .i8 0), (.int .i64 0), (.string ⟨#[]⟩), (.string ⟨#[]⟩), (.slice none 0 0)] 51)).cell? ⟨w1.heap.size, 5, none⟩ = some (.string ⟨#[]⟩) := cell_of_row (block_alloc _ _) rfl
  have p5 : (w1.alloc (.cells #[(.bool false), (.int .i64 0), (.int .i8 0), (.int .i64 0), (.string ⟨#[]⟩), (.string ⟨#[]⟩), (.slice none 0 0)] 51)).cell? ⟨w.heap.size, 5, none⟩ = some (.string t) := cell_of_row ((Below.heap_alloc _ _ _ (heap_lt g1)).trans g1) rfl
  have z6 : (w1.alloc (.cells #[(.bool false), (.int .i64 0), (.int .i8 0), (.int .i64 0), (.string ⟨#[]⟩), (.string ⟨#[]⟩), (.slice none 0 0)] 51)).cell? ⟨w1.heap.size, 6, none⟩ = some (.slice none 0 0) := cell_of_row (block_alloc _ _) rfl
  have zf6 : (w1.alloc (.cells #[(.bool false), (.int .i64 0), (.int .i8 0), (.int .i64 0), (.string ⟨#[]⟩), (.string ⟨#[]⟩), (.slice none 0 0)] 51)).frozen? ⟨w1.heap.size, 6, none⟩ = false := free_of_row (block_alloc _ _)
  have x6 : (w1.alloc (.cells #[(.bool true), (.int .i64 a), (.int .i8 0), (.int .i64 0), (.string ⟨#[]⟩), (.string ⟨#[]⟩), (.slice none 0 0)] 51)).cell? ⟨w1.heap.size, 6, none⟩ = some (.slice none 0 0) := cell_of_row (block_alloc _ _) rfl
  have p6 : (w1.alloc (.cells #[(.bool false), (.int .i64 0), (.int .i8 0), (.int .i64 0), (.string ⟨#[]⟩), (.string ⟨#[]⟩), (.slice none 0 0)] 51)).cell? ⟨w.heap.size, 6, none⟩ = some (.slice A len cap) := cell_of_row ((Below.heap_alloc _ _ _ (heap_lt g1)).trans g1) rfl
  have B1 := Lib.hid b1
  have hs1 : w1.heap.size = w.heap.size + 1 := by rw [hw1]; simp
  clear b1 g1
  rw [hw1] at z0 zf0 x0 p0 z1 zf1 x1 p1 z2 zf2 x2 p2 z3 zf3 x3 p3 z4 zf4 x4 p4 z5 zf5 x5 p5 z6 zf6 x6 p6
  go_enter Tryz.func18, Tryz.ntmps18
  go_wp2_with fail
  rw [← hw1] at x0 x1 x2 x3 x4 x5 x6 ⊢
  rw [hs1] at x0 x1 x2 x3 x4 x5 x6
  refine bodyPost_ret (v := .agg #[(.bool true), (.int .i64 a), (.int .i8 0), (.int .i64 0), (.string ⟨#[]⟩), (.string ⟨#[]⟩), (.slice none 0 0)]) (by simp [results, Tryz.f18, go_sem, x0, x1, x2, x3, x4, x5, x6]) rfl ⟨rfl, B1.out.trans ((Below.refl _ _).alloc B1.out.size _)⟩
set_option maxRecDepth 100000 in
set_option maxHeartbeats 4000000 in
theorem word5_leaf (a k n : Int) (s t : ByteArray) (A : Option Addr) (len cap : Nat) (w : World) : Calls Tryz.prog 18 #[.agg #[(.bool false), (.int .i64 a), (.int .i8 k), (.int .i64 n), (.string s), (.string t), (.slice A len cap)]] w fun e w' => e = .returned (.agg #[(.bool false), (.int .i64 0), (.int .i8 k), (.int .i64 n), (.string s), (.string t), (.slice A len cap)]) ∧ Below w.heap.size w w' := by
  obtain ⟨w1, hw1⟩ : ∃ w1, w1 = w.alloc (.cells #[(.bool false), (.int .i64 a), (.int .i8 k), (.int .i64 n), (.string s), (.string t), (.slice A len cap)] 29) := ⟨_, rfl⟩
  have b1 : Below w.heap.size w w1 := by rw [hw1]; exact (Below.refl _ _).alloc (Nat.le_refl _) _
  have g1 : w1.heap[w.heap.size]? = some (.cells #[(.bool false), (.int .i64 a), (.int .i8 k), (.int .i64 n), (.string s), (.string t), (.slice A len cap)] 29 (0, 0)) := by rw [hw1]; exact block_alloc _ _
  have z0 : (w1.alloc (.cells #[(.bool false), (.int .i64 0), (.int .i8 0), (.int .i64 0), (.string ⟨#[]⟩), (.string ⟨#[]⟩), (.slice none 0 0)] 51)).cell? ⟨w1.heap.size, 0, none⟩ = some (.bool false) := cell_of_row (block_alloc _ _) rfl
  have zf0 : (w1.alloc (.cells #[(.bool false), (.int .i64 0), (.int .i8 0), (.int .i64 0), (.string ⟨#[]⟩), (.string ⟨#[]⟩), (.slice none 0 0)] 51)).frozen? ⟨w1.heap.size, 0, none⟩ = false := free_of_row (block_alloc _ _)
  have x0 : (w1.alloc (.cells #[(.bool false), (.int .i64 0), (.int .i8 k), (.int .i64 n), (.string s), (.string t), (.slice A len cap)] 51)).cell? ⟨w1.heap.size, 0, none⟩ = some (.bool false) := cell_of_row (block_alloc _ _) rfl
  have p0 : (w1.alloc (.cells #[(.bool false), (.int .i64 0), (.int .i8 0), (.int .i64 0), (.string ⟨#[]⟩), (.string ⟨#[]⟩), (.slice none 0 0)] 51)).cell? ⟨w.heap.size, 0, none⟩ = some (.bool false) := cell_of_row ((Below.heap_alloc _ _ _ (heap_lt g1)).trans g1) rfl
  have z1 : (w1.alloc (.cells #[(.bool false), (.int .i64 0), (.int .i8 0), (.int .i64 0), (.string ⟨#[]⟩), (.string ⟨#[]⟩), (.slice none 0 0)] 51)).cell? ⟨w1.heap.size, 1, none⟩ = some (.int .i64 0) := cell_of_row (block_alloc _ _) rfl
  have zf1 : (w1.alloc (.cells #[(.bool false), (.int .i64 0), (.int .i8 0), (.int .i64 0), (.string ⟨#[]⟩), (.string ⟨#[]⟩), (.slice none 0 0)] 51)).frozen? ⟨w1.heap.size, 1, none⟩ = false := free_of_row (block_alloc _ _)
  have x1 : (w1.alloc (.cells #[(.bool false), (.int .i64 0), (.int .i8 k), (.int .i64 n), (.string s), (.string t), (.slice A len cap)] 51)).cell? ⟨w1.heap.size, 1, none⟩ = some (.int .i64 0) := cell_of_row (block_alloc _ _) rfl
  have p1 : (w1.alloc (.cells #[(.bool false), (.int .i64 0), (.int .i8 0), (.int .i64 0), (.string ⟨#[]⟩), (.string ⟨#[]⟩), (.slice none 0 0)] 51)).cell? ⟨w.heap.size, 1, none⟩ = some (.int .i64 a) := cell_of_row ((Below.heap_alloc _ _ _ (heap_lt g1)).trans g1) rfl
  have z2 : (w1.alloc (.cells #[(.bool false), (.int .i64 0), (.int .i8 0), (.int .i64 0), (.string ⟨#[]⟩), (.string ⟨#[]⟩), (.slice none 0 0)] 51)).cell? ⟨w1.heap.size, 2, none⟩ = some (.int .i8 0) := cell_of_row (block_alloc _ _) rfl
  have zf2 : (w1.alloc (.cells #[(.bool false), (.int .i64 0), (.int .i8 0), (.int .i64 0), (.string ⟨#[]⟩), (.string ⟨#[]⟩), (.slice none 0 0)] 51)).frozen? ⟨w1.heap.size, 2, none⟩ = false := free_of_row (block_alloc _ _)
  have x2 : (w1.alloc (.cells #[(.bool false), (.int .i64 0), (.int .i8 k), (.int .i64 n), (.string s), (.string t), (.slice A len cap)] 51)).cell? ⟨w1.heap.size, 2, none⟩ = some (.int .i8 k) := cell_of_row (block_alloc _ _) rfl
  have p2 : (w1.alloc (.cells #[(.bool false), (.int .i64 0), (.int .i8 0), (.int .i64 0), (.string ⟨#[]⟩), (.string ⟨#[]⟩), (.slice none 0 0)] 51)).cell? ⟨w.heap.size, 2, none⟩ = some (.int .i8 k) := cell_of_row ((Below.heap_alloc _ _ _ (heap_lt g1)).trans g1) rfl
  have z3 : (w1.alloc (.cells #[(.bool false), (.int .i64 0), (.int .i8 0), (.int .i64 0), (.string ⟨#[]⟩), (.string ⟨#[]⟩), (.slice none 0 0)] 51)).cell? ⟨w1.heap.size, 3, none⟩ = some (.int .i64 0) := cell_of_row (block_alloc _ _) rfl
  have zf3 : (w1.alloc (.cells #[(.bool false), (.int .i64 0), (.int .i8 0), (.int .i64 0), (.string ⟨#[]⟩), (.string ⟨#[]⟩), (.slice none 0 0)] 51)).frozen? ⟨w1.heap.size, 3, none⟩ = false := free_of_row (block_alloc _ _)
  have x3 : (w1.alloc (.cells #[(.bool false), (.int .i64 0), (.int .i8 k), (.int .i64 n), (.string s), (.string t), (.slice A len cap)] 51)).cell? ⟨w1.heap.size, 3, none⟩ = some (.int .i64 n) := cell_of_row (block_alloc _ _) rfl
  have p3 : (w1.alloc (.cells #[(.bool false), (.int .i64 0), (.int .i8 0), (.int .i64 0), (.string ⟨#[]⟩), (.string ⟨#[]⟩), (.slice none 0 0)] 51)).cell? ⟨w.heap.size, 3, none⟩ = some (.int .i64 n) := cell_of_row ((Below.heap_alloc _ _ _ (heap_lt g1)).trans g1) rfl
  have z4 : (w1.alloc (.cells #[(.bool false), (.int .i64 0), (.int .i8 0), (.int .i64 0), (.string ⟨#[]⟩), (.string ⟨#[]⟩), (.slice none 0 0)] 51)).cell? ⟨w1.heap.size, 4, none⟩ = some (.string ⟨#[]⟩) := cell_of_row (block_alloc _ _) rfl
  have zf4 : (w1.alloc (.cells #[(.bool false), (.int .i64 0), (.int .i8 0), (.int .i64 0), (.string ⟨#[]⟩), (.string ⟨#[]⟩), (.slice none 0 0)] 51)).frozen? ⟨w1.heap.size, 4, none⟩ = false := free_of_row (block_alloc _ _)
  have x4 : (w1.alloc (.cells #[(.bool false), (.int .i64 0), (.int .i8 k), (.int .i64 n), (.string s), (.string t), (.slice A len cap)] 51)).cell? ⟨w1.heap.size, 4, none⟩ = some (.string s) := cell_of_row (block_alloc _ _) rfl
  have p4 : (w1.alloc (.cells #[(.bool false), (.int .i64 0), (.int .i8 0), (.int .i64 0), (.string ⟨#[]⟩), (.string ⟨#[]⟩), (.slice none 0 0)] 51)).cell? ⟨w.heap.size, 4, none⟩ = some (.string s) := cell_of_row ((Below.heap_alloc _ _ _ (heap_lt g1)).trans g1) rfl
  have z5 : (w1.alloc (.cells #[(.bool false), (.int .i64 0), (.int .i8 0), (.int .i64 0), (.string ⟨#[]⟩), (.string ⟨#[]⟩), (.slice none 0 0)] 51)).cell? ⟨w1.heap.size, 5, none⟩ = some (.string ⟨#[]⟩) := cell_of_row (block_alloc _ _) rfl
  have zf5 : (w1.alloc (.cells #[(.bool false), (.int .i64 0), (.int .i8 0), (.int .i64 0), (.string ⟨#[]⟩), (.string ⟨#[]⟩), (.slice none 0 0)] 51)).frozen? ⟨w1.heap.size, 5, none⟩ = false := free_of_row (block_alloc _ _)
  have x5 : (w1.alloc (.cells #[(.bool false), (.int .i64 0), (.int .i8 k), (.int .i64 n), (.string s), (.string t), (.slice A len cap)] 51)).cell? ⟨w1.heap.size, 5, none⟩ = some (.string t) := cell_of_row (block_alloc _ _) rfl
  have p5 : (w1.alloc (.cells #[(.bool false), (.int .i64 0), (.int .i8 0), (.int .i64 0), (.string ⟨#[]⟩), (.string ⟨#[]⟩), (.slice none 0 0)] 51)).cell? ⟨w.heap.size, 5, none⟩ = some (.string t) := cell_of_row ((Below.heap_alloc _ _ _ (heap_lt g1)).trans g1) rfl
  have z6 : (w1.alloc (.cells #[(.bool false), (.int .i64 0), (.int .i8 0), (.int .i64 0), (.string ⟨#[]⟩), (.string ⟨#[]⟩), (.slice none 0 0)] 51)).cell? ⟨w1.heap.size, 6, none⟩ = some (.slice none 0 0) := cell_of_row (block_alloc _ _) rfl
  have zf6 : (w1.alloc (.cells #[(.bool false), (.int .i64 0), (.int .i8 0), (.int .i64 0), (.string ⟨#[]⟩), (.string ⟨#[]⟩), (.slice none 0 0)] 51)).frozen? ⟨w1.heap.size, 6, none⟩ = false := free_of_row (block_alloc _ _)
  have x6 : (w1.alloc (.cells #[(.bool false), (.int .i64 0), (.int .i8 k), (.int .i64 n), (.string s), (.string t), (.slice A len cap)] 51)).cell? ⟨w1.heap.size, 6, none⟩ = some (.slice A len cap) := cell_of_row (block_alloc _ _) rfl
  have p6 : (w1.alloc (.cells #[(.bool false), (.int .i64 0), (.int .i8 0), (.int .i64 0), (.string ⟨#[]⟩), (.string ⟨#[]⟩), (.slice none 0 0)] 51)).cell? ⟨w.heap.size, 6, none⟩ = some (.slice A len cap) := cell_of_row ((Below.heap_alloc _ _ _ (heap_lt g1)).trans g1) rfl
  have B1 := Lib.hid b1
  have hs1 : w1.heap.size = w.heap.size + 1 := by rw [hw1]; simp
  clear b1 g1
  rw [hw1] at z0 zf0 x0 p0 z1 zf1 x1 p1 z2 zf2 x2 p2 z3 zf3 x3 p3 z4 zf4 x4 p4 z5 zf5 x5 p5 z6 zf6 x6 p6
  go_enter Tryz.func18, Tryz.ntmps18
  go_wp2_with fail
  rw [← hw1] at x0 x1 x2 x3 x4 x5 x6 ⊢
  rw [hs1] at x0 x1 x2 x3 x4 x5 x6
  refine bodyPost_ret (v := .agg #[(.bool false), (.int .i64 0), (.int .i8 k), (.int .i64 n), (.string s), (.string t), (.slice A len cap)]) (by simp [results, Tryz.f18, go_sem, x0, x1, x2, x3, x4, x5, x6]) rfl ⟨rfl, B1.out.trans ((Below.refl _ _).alloc B1.out.size _)⟩

/-- A part's word. -/
def wordOf (q : AW) : AW := if q.c = true then ⟨true, q.a, iW 0⟩ else ⟨false, 0, q.x⟩
theorem iW_at (P : Nat → Prop) (w : World) : TmAt P w (iW 0) (.agg #[.int .i8 0, .int .i64 0, .string ⟨#[]⟩, .string ⟨#[]⟩, .slice none 0 0]) := leaf_at P w (by decide) (by decide) (by show 0 ≤ maxLen; omega) (by show 0 ≤ maxLen; omega)
/-- The seven cells of a part's word. -/
def PC (P : Nat → Prop) (w : World) (q : AW) (cs : List Value) : Prop :=
  ∃ k n s t A len cap, cs = [.bool (wordOf q).c, .int .i64 (wordOf q).a, .int .i8 k, .int .i64 n, .string s, .string t, .slice A len cap] ∧ TmAt P w (wordOf q).x (.agg #[.int .i8 k, .int .i64 n, .string s, .string t, .slice A len cap])
theorem flat7_at : ∀ (cs : List (List Value)), (∀ x ∈ cs, x.length = 7) → ∀ (i k : Nat) (x : List Value) (u : Value), cs[i]? = some x → x[k]? = some u → cs.flatten[i * 7 + k]? = some u
  | [], _, i, k, x, u, h, _ => by simp at h
  | y :: cs, hl, 0, k, x, u, h, hu => by
    simp at h
    subst h
    have hk := (List.getElem?_eq_some_iff.1 hu).1
    rw [List.flatten_cons, Nat.zero_mul, Nat.zero_add, List.getElem?_append_left hk]
    exact hu
  | y :: cs, hl, i + 1, k, x, u, h, hu => by
    have hy := hl y (by simp)
    rw [List.flatten_cons, List.getElem?_append_right (by omega), hy, show (i + 1) * 7 + k - 7 = i * 7 + k by omega]
    exact flat7_at cs (fun z hz => hl z (by simp [hz])) i k x u (by simpa using h) hu
theorem flat7_len : ∀ (cs : List (List Value)), (∀ x ∈ cs, x.length = 7) → cs.flatten.length = cs.length * 7
  | [], _ => rfl
  | y :: cs, h => by
    have := flat7_len cs (fun z hz => h z (by simp [hz]))
    rw [List.flatten_cons, List.length_append, this, h y (by simp), List.length_cons]
    omega
/-- A row of words that was built of parts. -/
theorem wrow_flat {P Q : Nat → Prop} {w w' : World} {base : Nat} {v : Value} {L : List AW} {cs : List (List Value)} (hlen : cs.length = L.length) (hcs : ∀ (i : Nat) (x : List Value), cs[i]? = some x → ∃ q, L[i]? = some q ∧ PC P w q x) (hrow : w'.ownsRow base 51 7 v L.length cs.flatten)
    (hk : ∀ b, P b → w'.heap[b]? = w.heap[b]?) (hP : ∀ b, P b → Q b) (hQ : ∀ b, base ≤ b → b < w'.heap.size → Q b) : ∃ A cap, v = .slice A L.length cap ∧ WRow Q w' A L.length cap (L.map wordOf) := by
  have hown := hrow
  rcases hrow.2 with ⟨rfl, h0⟩ | ⟨g, cap, cur, rfl, h1, h2, h3, h4, h5, h6⟩
  · rw [List.eq_nil_of_length_eq_zero h0]
    exact ⟨none, 0, rfl, ⟨rfl, Nat.zero_le _, fun j q h => by simp at h⟩⟩
  · refine ⟨some ⟨g, 0, none⟩, cap, rfl, ⟨by rw [List.length_map], by omega, fun j q hj => ?_⟩⟩
    rw [List.getElem?_map] at hj
    cases hy : L[j]? with
    | none => rw [hy] at hj; cases hj
    | some y =>
      rw [hy] at hj
      obtain rfl : wordOf y = q := Option.some.inj hj
      have hjl := (List.getElem?_eq_some_iff.1 hy).1
      obtain ⟨x, hx⟩ : ∃ x, cs[j]? = some x := ⟨cs[j], List.getElem?_eq_getElem (by omega)⟩
      obtain ⟨q', hq', k, n, s, t, A, len, cap2, rfl, hT⟩ := hcs j x hx
      rw [hy] at hq'
      cases hq'
      have h7 : ∀ z ∈ cs, z.length = 7 := fun z hz => by
        obtain ⟨i, hi, e⟩ := List.mem_iff_getElem.1 hz
        obtain ⟨q9, _, k9, n9, s9, t9, A9, l9, c9, e9, _⟩ := hcs i z (by rw [← e]; exact List.getElem?_eq_getElem hi)
        rw [e9]; rfl
      have hc : ∀ (i : Nat) (u : Value), [Value.bool (wordOf y).c, .int .i64 (wordOf y).a, .int .i8 k, .int .i64 n, .string s, .string t, .slice A len cap2][i]? = some u → w'.cell? ⟨g, j * 7 + i, none⟩ = some u := fun i u hu => by
        have := hown.cells (g := g) rfl _ _ (flat7_at cs h7 j i _ u hx hu)
        rwa [show (⟨g, 0, none⟩ : Addr).add (j * 7 + i) = ⟨g, j * 7 + i, none⟩ by unfold Addr.add; split <;> simp_all] at this
      exact ⟨⟨g, 0, none⟩, _, rfl, hQ g h1 (heap_lt h2), RowW.elem ⟨_, _, _, _, _, _, _, rfl, hc 0 _ rfl, hc 1 _ rfl, hc 2 _ rfl, hc 3 _ rfl, hc 4 _ rfl, hc 5 _ rfl, hc 6 _ rfl⟩, k, n, s, t, A, len, cap2, rfl, hT.keep hk hP⟩

set_option maxRecDepth 100000 in
set_option maxHeartbeats 8000000 in
theorem words5_any (P : Nat → Prop) (A : Option Addr) (n cap : Nat) (L : List AW) (w : World) (hR : WRow P w A n cap L) (hP : ∀ b, P b → b < w.heap.size) (hn : n ≤ 1000000) :
    Calls Tryz.prog 11 #[.slice A n cap] w fun e w' => ∃ A' cap', e = .returned (.slice A' n cap') ∧ WRow (fun b => P b ∨ (w.heap.size ≤ b ∧ b < w'.heap.size)) w' A' n cap' (L.map wordOf) ∧ Below w.heap.size w w' := by
  obtain rfl := hR.len
  obtain ⟨i0, hi, hz⟩ := Option.map_eq_some_iff.1 info_wordb
  simp only [Prod.mk.injEq] at hz
  obtain ⟨hz0, hz1, hz2⟩ := hz
  have HI := Lib.hid (And.intro hi (And.intro hz0 (And.intro hz1 hz2)))
  have HR := Lib.hid hR
  have HP := Lib.hid hP
  clear hR hP hi hz0 hz1 hz2
  go_enter Tryz.func11, Tryz.ntmps11
  go_wp2_with fail
  go_loopw [3, 7] (fun ov i wr => ∃ j : Nat, j ≤ L.length ∧ i = .int .i64 j ∧ Hid (∃ cs : List (List Value), cs.length = j ∧ (∀ (i : Nat) (x : List Value), cs[i]? = some x → ∃ q, L[i]? = some q ∧ PC P w q x) ∧ wr.ownsRow w.heap.size 51 7 ov j cs.flatten) ∧ Hid (Below w.heap.size w wr)) (fun _ i _ => L.length - (intOf i).toNat)
  case atStart => exact ⟨0, Nat.zero_le _, rfl, ⟨[], rfl, (fun i x h => by simp at h), ⟨rfl, .inl ⟨rfl, rfl⟩⟩⟩, Below.refl _ _⟩
  case round =>
    obtain ⟨j, hj, rfl, HC, HB⟩ := hrel
    by_cases hlt : j < L.length
    · obtain ⟨y, hy⟩ : ∃ y, L[j]? = some y := ⟨L[j], List.getElem?_eq_getElem hlt⟩
      obtain ⟨ad, u, rfl, had, hE, hA⟩ := HR.out.at_ j y hy
      have hEr : ElemW wr ad j u := hE.keep (HB.out.block ad.block (HP.out _ had))
      obtain ⟨k', m, sx, tx, A3, len3, cap3, rfl, hT⟩ := hA
      obtain ⟨c0, c1, c2, c3, c4, c5, c6, hcc, e0, e1, e2, e3, e4, e5, e6⟩ := hEr
      simp only [Value.agg.injEq, Array.mk.injEq, List.cons.injEq, and_true] at hcc
      obtain ⟨rfl, rfl, rfl, rfl, rfl, rfl, rfl⟩ := hcc
      obtain ⟨wc, hwc⟩ : ∃ wc, wc = [Value.bool (wordOf y).c, .int .i64 (wordOf y).a, .int .i8 (if y.c = true then 0 else k'), .int .i64 (if y.c = true then 0 else m), .string (if y.c = true then ⟨#[]⟩ else sx), .string (if y.c = true then ⟨#[]⟩ else tx), (if y.c = true then .slice none 0 0 else .slice A3 len3 cap3)] := ⟨_, rfl⟩
      have hcall : Calls Tryz.prog 18 #[.agg #[.bool y.c, .int .i64 y.a, .int .i8 k', .int .i64 m, .string sx, .string tx, .slice A3 len3 cap3]] wr fun e w' => e = .returned (.agg wc.toArray) ∧ Below wr.heap.size wr w' := by
        rw [hwc]
        unfold wordOf
        cases hc : y.c with
        | true => exact word5_cell _ _ _ _ _ _ _ _ wr
        | false => exact word5_leaf _ _ _ _ _ _ _ _ wr
      have hpc : PC P w y wc := by
        rw [hwc]
        unfold PC wordOf
        cases hc : y.c with
        | true => exact ⟨0, 0, _, _, none, 0, 0, rfl, iW_at _ _⟩
        | false => exact ⟨k', m, sx, tx, A3, len3, cap3, rfl, hT⟩
      have hwl : wc.length = 7 := by rw [hwc]; rfl
      have hone : ∀ u ∈ wc, u.oneCell' = true := by
        rw [hwc]
        cases y.c <;> (intro u hu; simp at hu; rcases hu with rfl | rfl | rfl | rfl | rfl | rfl | rfl <;> rfl)
      obtain ⟨v0, v1, v2, v3, v4, v5, v6, hv⟩ : ∃ v0 v1 v2 v3 v4 v5 v6, wc = [v0, v1, v2, v3, v4, v5, v6] := ⟨_, _, _, _, _, _, _, hwc⟩
      rw [hv] at hcall hpc hone
      have HCL := Lib.hid hcall
      have HPC := Lib.hid (And.intro hpc hone)
      have HY := Lib.hid hy
      clear hE hT hy hwc hcall hpc hwl hone hv
      go_wp2_with fail
      refine HCL.out.mono ?_
      rintro e w2 ⟨rfl, b2⟩
      obtain ⟨cs, hcl, hcs, hrow⟩ := HC.out
      have hb2 : Below w.heap.size w w2 := HB.out.trans (b2.mono HB.out.size)
      have R2 := (Mod.of_below (F := fun _ => False) b2).row hrow (fun _ _ f => f)
      have HBB := Lib.hid hb2
      have HCC := Lib.hid (And.intro hcl hcs)
      obtain ⟨hi, hz0, hz1, hz2⟩ := HI.out
      have hbs := hb2.size
      clear b2 hb2 hrow hcl hcs e0 e1 e2 e3 e4 e5 e6
      go_wp2_with (at_builtin; refine wpList_append_at _ rfl _ _ 37 rfl w.heap.size 51 i0 word0 7 88 Tryz.underlying37 hi hz0 hz1 hz2 rfl (by decide) _ _ _ rfl (R2.alloc _) ⟨w2.heap.size, 0, none⟩ 1 1 [v0, v1, v2, v3, v4, v5, v6] rfl (by decide) rfl ?c1 ?c2 ?c3 ?c4 ?c5 ?_)
      case c1 =>
        intro i u hu
        exact (by
          have hg := block_alloc w2 (.cells #[v0, v1, v2, v3, v4, v5, v6] 51)
          have ea : (⟨w2.heap.size, 0, none⟩ : Addr).add i = ⟨w2.heap.size, i, none⟩ := by unfold Addr.add; split <;> simp_all
          rw [ea]
          match i, hu with
          | 0, hu => simp at hu; subst hu; exact cell_of_row (i := 0) hg rfl
          | 1, hu => simp at hu; subst hu; exact cell_of_row (i := 1) hg rfl
          | 2, hu => simp at hu; subst hu; exact cell_of_row (i := 2) hg rfl
          | 3, hu => simp at hu; subst hu; exact cell_of_row (i := 3) hg rfl
          | 4, hu => simp at hu; subst hu; exact cell_of_row (i := 4) hg rfl
          | 5, hu => simp at hu; subst hu; exact cell_of_row (i := 5) hg rfl
          | 6, hu => simp at hu; subst hu; exact cell_of_row (i := 6) hg rfl
          | i + 7, hu => simp at hu)
      case c2 => exact HPC.out.2
      case c3 => unfold maxLen; omega
      case c4 => omega
      case c5 => simp; omega
      intro g9 cap9 w9 R9 grow9 hwh
      have hal : Below w.heap.size w2 (w2.alloc (.cells #[v0, v1, v2, v3, v4, v5, v6] 51)) := (Below.refl _ _).alloc hbs _
      have hb9 : Below w.heap.size (w2.alloc (.cells #[v0, v1, v2, v3, v4, v5, v6] 51)) w9 := (Mod.grown (F := fun k => (w.heap.size ≤ k)) grow9 (fun k hk e => (R2.lt k e).1)).below (by simp; omega) (fun i e => e)
      have HR9 : Hid (∃ cs : List (List Value), cs.length = j + 1 ∧ (∀ (i : Nat) (x : List Value), cs[i]? = some x → ∃ q, L[i]? = some q ∧ PC P w q x) ∧ w9.ownsRow w.heap.size 51 7 (.slice (some ⟨g9, 0, none⟩) (j + 1) cap9) (j + 1) cs.flatten) := by
        refine ⟨cs ++ [[v0, v1, v2, v3, v4, v5, v6]], by simp [HCC.out.1], fun i x hx => ?_, by rw [List.flatten_append]; simpa using R9⟩
        by_cases h : i < cs.length
        · rw [List.getElem?_append_left h] at hx
          exact HCC.out.2 i x hx
        · rw [List.getElem?_append_right (by omega)] at hx
          have hij : i = j := by
            have := (List.getElem?_eq_some_iff.1 hx).1
            have := HCC.out.1
            simp at *
            omega
          subst hij
          rw [HCC.out.1, Nat.sub_self] at hx
          simp at hx
          subst hx
          exact ⟨y, HY.out, HPC.out.1⟩
      have HB9 : Hid (Below w.heap.size w w9) := HBB.out.trans (hal.trans hb9)
      clear R9 grow9 hwh hal hb9 R2
      go_wp2_with fail
      go_roundw
      case rel => exact ⟨j + 1, by omega, by go_num, HR9, HB9⟩
      case measure => simp [intOf]; omega
    · obtain rfl : j = L.length := by omega
      go_wp2_with fail
      go_ret
      obtain ⟨cs, hcl, hcs, hrow⟩ := HC.out
      obtain ⟨A', cap', rfl, hW⟩ := wrow_flat (Q := fun b => P b ∨ (w.heap.size ≤ b ∧ b < _)) hcl hcs hrow (fun b hb => HB.out.block b (HP.out b hb)) (fun b hb => .inl hb) (fun b h1 h2 => .inr ⟨h1, h2⟩)
      exact ⟨A', cap', rfl, hW, HB.out⟩
end Go.Proofs.YtgdkhmamjhdfdaaGreatDoor
