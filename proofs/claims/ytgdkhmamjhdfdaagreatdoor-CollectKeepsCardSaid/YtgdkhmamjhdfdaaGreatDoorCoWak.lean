/- pleachlaw05: leaf, cell, wakes. -/
import Derived.Test.YtgdkhmamjhdfdaaGreatDoorCoRun2
import Derived.Test.YtgdkhmamjhdfdaaGreatDoorWRowA
set_option linter.unusedVariables false
namespace Go.Proofs.YtgdkhmamjhdfdaaGreatDoor
open Go.RowKit

set_option maxRecDepth 100000 in
set_option maxHeartbeats 4000000 in
theorem leaf5_any (n : Int) (w : World) : Calls Tryz.prog 26 #[.int .i64 n] w fun e w' => e = .returned (.agg #[(.bool false), (.int .i64 0), (.int .i8 0), (.int .i64 n), (.string ⟨#[]⟩), (.string ⟨#[]⟩), (.slice none 0 0)]) ∧ Below w.heap.size w w' := by
  have z0 : (w.alloc (.cells #[(.bool false), (.int .i64 0), (.int .i8 0), (.int .i64 0), (.string ⟨#[]⟩), (.string ⟨#[]⟩), (.slice none 0 0)] 51)).cell? ⟨w.heap.size, 0, none⟩ = some (.bool false) := cell_of_row (block_alloc _ _) rfl
  have zf0 : (w.alloc (.cells #[(.bool false), (.int .i64 0), (.int .i8 0), (.int .i64 0), (.string ⟨#[]⟩), (.string ⟨#[]⟩), (.slice none 0 0)] 51)).frozen? ⟨w.heap.size, 0, none⟩ = false := free_of_row (block_alloc _ _)
  have z1 : (w.alloc (.cells #[(.bool false), (.int .i64 0), (.int .i8 0), (.int .i64 0), (.string ⟨#[]⟩), (.string ⟨#[]⟩), (.slice none 0 0)] 51)).cell? ⟨w.heap.size, 1, none⟩ = some (.int .i64 0) := cell_of_row (block_alloc _ _) rfl
  have zf1 : (w.alloc (.cells #[(.bool false), (.int .i64 0), (.int .i8 0), (.int .i64 0), (.string ⟨#[]⟩), (.string ⟨#[]⟩), (.slice none 0 0)] 51)).frozen? ⟨w.heap.size, 1, none⟩ = false := free_of_row (block_alloc _ _)
  have z2 : (w.alloc (.cells #[(.bool false), (.int .i64 0), (.int .i8 0), (.int .i64 0), (.string ⟨#[]⟩), (.string ⟨#[]⟩), (.slice none 0 0)] 51)).cell? ⟨w.heap.size, 2, none⟩ = some (.int .i8 0) := cell_of_row (block_alloc _ _) rfl
  have zf2 : (w.alloc (.cells #[(.bool false), (.int .i64 0), (.int .i8 0), (.int .i64 0), (.string ⟨#[]⟩), (.string ⟨#[]⟩), (.slice none 0 0)] 51)).frozen? ⟨w.heap.size, 2, none⟩ = false := free_of_row (block_alloc _ _)
  have z3 : (w.alloc (.cells #[(.bool false), (.int .i64 0), (.int .i8 0), (.int .i64 0), (.string ⟨#[]⟩), (.string ⟨#[]⟩), (.slice none 0 0)] 51)).cell? ⟨w.heap.size, 3, none⟩ = some (.int .i64 0) := cell_of_row (block_alloc _ _) rfl
  have zf3 : (w.alloc (.cells #[(.bool false), (.int .i64 0), (.int .i8 0), (.int .i64 0), (.string ⟨#[]⟩), (.string ⟨#[]⟩), (.slice none 0 0)] 51)).frozen? ⟨w.heap.size, 3, none⟩ = false := free_of_row (block_alloc _ _)
  have z4 : (w.alloc (.cells #[(.bool false), (.int .i64 0), (.int .i8 0), (.int .i64 0), (.string ⟨#[]⟩), (.string ⟨#[]⟩), (.slice none 0 0)] 51)).cell? ⟨w.heap.size, 4, none⟩ = some (.string ⟨#[]⟩) := cell_of_row (block_alloc _ _) rfl
  have zf4 : (w.alloc (.cells #[(.bool false), (.int .i64 0), (.int .i8 0), (.int .i64 0), (.string ⟨#[]⟩), (.string ⟨#[]⟩), (.slice none 0 0)] 51)).frozen? ⟨w.heap.size, 4, none⟩ = false := free_of_row (block_alloc _ _)
  have z5 : (w.alloc (.cells #[(.bool false), (.int .i64 0), (.int .i8 0), (.int .i64 0), (.string ⟨#[]⟩), (.string ⟨#[]⟩), (.slice none 0 0)] 51)).cell? ⟨w.heap.size, 5, none⟩ = some (.string ⟨#[]⟩) := cell_of_row (block_alloc _ _) rfl
  have zf5 : (w.alloc (.cells #[(.bool false), (.int .i64 0), (.int .i8 0), (.int .i64 0), (.string ⟨#[]⟩), (.string ⟨#[]⟩), (.slice none 0 0)] 51)).frozen? ⟨w.heap.size, 5, none⟩ = false := free_of_row (block_alloc _ _)
  have z6 : (w.alloc (.cells #[(.bool false), (.int .i64 0), (.int .i8 0), (.int .i64 0), (.string ⟨#[]⟩), (.string ⟨#[]⟩), (.slice none 0 0)] 51)).cell? ⟨w.heap.size, 6, none⟩ = some (.slice none 0 0) := cell_of_row (block_alloc _ _) rfl
  have zf6 : (w.alloc (.cells #[(.bool false), (.int .i64 0), (.int .i8 0), (.int .i64 0), (.string ⟨#[]⟩), (.string ⟨#[]⟩), (.slice none 0 0)] 51)).frozen? ⟨w.heap.size, 6, none⟩ = false := free_of_row (block_alloc _ _)
  have x0 : (w.alloc (.cells #[(.bool false), (.int .i64 0), (.int .i8 0), (.int .i64 n), (.string ⟨#[]⟩), (.string ⟨#[]⟩), (.slice none 0 0)] 51)).cell? ⟨w.heap.size, 0, none⟩ = some (.bool false) := cell_of_row (block_alloc _ _) rfl
  have x1 : (w.alloc (.cells #[(.bool false), (.int .i64 0), (.int .i8 0), (.int .i64 n), (.string ⟨#[]⟩), (.string ⟨#[]⟩), (.slice none 0 0)] 51)).cell? ⟨w.heap.size, 1, none⟩ = some (.int .i64 0) := cell_of_row (block_alloc _ _) rfl
  have x2 : (w.alloc (.cells #[(.bool false), (.int .i64 0), (.int .i8 0), (.int .i64 n), (.string ⟨#[]⟩), (.string ⟨#[]⟩), (.slice none 0 0)] 51)).cell? ⟨w.heap.size, 2, none⟩ = some (.int .i8 0) := cell_of_row (block_alloc _ _) rfl
  have x3 : (w.alloc (.cells #[(.bool false), (.int .i64 0), (.int .i8 0), (.int .i64 n), (.string ⟨#[]⟩), (.string ⟨#[]⟩), (.slice none 0 0)] 51)).cell? ⟨w.heap.size, 3, none⟩ = some (.int .i64 n) := cell_of_row (block_alloc _ _) rfl
  have x4 : (w.alloc (.cells #[(.bool false), (.int .i64 0), (.int .i8 0), (.int .i64 n), (.string ⟨#[]⟩), (.string ⟨#[]⟩), (.slice none 0 0)] 51)).cell? ⟨w.heap.size, 4, none⟩ = some (.string ⟨#[]⟩) := cell_of_row (block_alloc _ _) rfl
  have x5 : (w.alloc (.cells #[(.bool false), (.int .i64 0), (.int .i8 0), (.int .i64 n), (.string ⟨#[]⟩), (.string ⟨#[]⟩), (.slice none 0 0)] 51)).cell? ⟨w.heap.size, 5, none⟩ = some (.string ⟨#[]⟩) := cell_of_row (block_alloc _ _) rfl
  have x6 : (w.alloc (.cells #[(.bool false), (.int .i64 0), (.int .i8 0), (.int .i64 n), (.string ⟨#[]⟩), (.string ⟨#[]⟩), (.slice none 0 0)] 51)).cell? ⟨w.heap.size, 6, none⟩ = some (.slice none 0 0) := cell_of_row (block_alloc _ _) rfl
  go_enter Tryz.func26, Tryz.ntmps26
  go_wp2_with fail
  refine bodyPost_ret (v := .agg #[(.bool false), (.int .i64 0), (.int .i8 0), (.int .i64 n), (.string ⟨#[]⟩), (.string ⟨#[]⟩), (.slice none 0 0)]) (by simp [results, Tryz.f26, go_sem, x0, x1, x2, x3, x4, x5, x6]) rfl ⟨rfl, (Below.refl _ _).alloc (Nat.le_refl _) _⟩
set_option maxRecDepth 100000 in
set_option maxHeartbeats 4000000 in
theorem cell5_any (n : Int) (w : World) : Calls Tryz.prog 27 #[.int .i64 n] w fun e w' => e = .returned (.agg #[(.bool true), (.int .i64 n), (.int .i8 0), (.int .i64 0), (.string ⟨#[]⟩), (.string ⟨#[]⟩), (.slice none 0 0)]) ∧ Below w.heap.size w w' := by
  have z0 : (w.alloc (.cells #[(.bool false), (.int .i64 0), (.int .i8 0), (.int .i64 0), (.string ⟨#[]⟩), (.string ⟨#[]⟩), (.slice none 0 0)] 51)).cell? ⟨w.heap.size, 0, none⟩ = some (.bool false) := cell_of_row (block_alloc _ _) rfl
  have zf0 : (w.alloc (.cells #[(.bool false), (.int .i64 0), (.int .i8 0), (.int .i64 0), (.string ⟨#[]⟩), (.string ⟨#[]⟩), (.slice none 0 0)] 51)).frozen? ⟨w.heap.size, 0, none⟩ = false := free_of_row (block_alloc _ _)
  have z1 : (w.alloc (.cells #[(.bool false), (.int .i64 0), (.int .i8 0), (.int .i64 0), (.string ⟨#[]⟩), (.string ⟨#[]⟩), (.slice none 0 0)] 51)).cell? ⟨w.heap.size, 1, none⟩ = some (.int .i64 0) := cell_of_row (block_alloc _ _) rfl
  have zf1 : (w.alloc (.cells #[(.bool false), (.int .i64 0), (.int .i8 0), (.int .i64 0), (.string ⟨#[]⟩), (.string ⟨#[]⟩), (.slice none 0 0)] 51)).frozen? ⟨w.heap.size, 1, none⟩ = false := free_of_row (block_alloc _ _)
  have z2 : (w.alloc (.cells #[(.bool false), (.int .i64 0), (.int .i8 0), (.int .i64 0), (.string ⟨#[]⟩), (.string ⟨#[]⟩), (.slice none 0 0)] 51)).cell? ⟨w.heap.size, 2, none⟩ = some (.int .i8 0) := cell_of_row (block_alloc _ _) rfl
  have zf2 : (w.alloc (.cells #[(.bool false), (.int .i64 0), (.int .i8 0), (.int .i64 0), (.string ⟨#[]⟩), (.string ⟨#[]⟩), (.slice none 0 0)] 51)).frozen? ⟨w.heap.size, 2, none⟩ = false := free_of_row (block_alloc _ _)
  have z3 : (w.alloc (.cells #[(.bool false), (.int .i64 0), (.int .i8 0), (.int .i64 0), (.string ⟨#[]⟩), (.string ⟨#[]⟩), (.slice none 0 0)] 51)).cell? ⟨w.heap.size, 3, none⟩ = some (.int .i64 0) := cell_of_row (block_alloc _ _) rfl
  have zf3 : (w.alloc (.cells #[(.bool false), (.int .i64 0), (.int .i8 0), (.int .i64 0), (.string ⟨#[]⟩), (.string ⟨#[]⟩), (.slice none 0 0)] 51)).frozen? ⟨w.heap.size, 3, none⟩ = false := free_of_row (block_alloc _ _)
  have z4 : (w.alloc (.cells #[(.bool false), (.int .i64 0), (.int .i8 0), (.int .i64 0), (.string ⟨#[]⟩), (.string ⟨#[]⟩), (.slice none 0 0)] 51)).cell? ⟨w.heap.size, 4, none⟩ = some (.string ⟨#[]⟩) := cell_of_row (block_alloc _ _) rfl
  have zf4 : (w.alloc (.cells #[(.bool false), (.int .i64 0), (.int .i8 0), (.int .i64 0), (.string ⟨#[]⟩), (.string ⟨#[]⟩), (.slice none 0 0)] 51)).frozen? ⟨w.heap.size, 4, none⟩ = false := free_of_row (block_alloc _ _)
  have z5 : (w.alloc (.cells #[(.bool false), (.int .i64 0), (.int .i8 0), (.int .i64 0), (.string ⟨#[]⟩), (.string ⟨#[]⟩), (.slice none 0 0)] 51)).cell? ⟨w.heap.size, 5, none⟩ = some (.string ⟨#[]⟩) := cell_of_row (block_alloc _ _) rfl
  have zf5 : (w.alloc (.cells #[(.bool false), (.int .i64 0), (.int .i8 0), (.int .i64 0), (.string ⟨#[]⟩), (.string ⟨#[]⟩), (.slice none 0 0)] 51)).frozen? ⟨w.heap.size, 5, none⟩ = false := free_of_row (block_alloc _ _)
  have z6 : (w.alloc (.cells #[(.bool false), (.int .i64 0), (.int .i8 0), (.int .i64 0), (.string ⟨#[]⟩), (.string ⟨#[]⟩), (.slice none 0 0)] 51)).cell? ⟨w.heap.size, 6, none⟩ = some (.slice none 0 0) := cell_of_row (block_alloc _ _) rfl
  have zf6 : (w.alloc (.cells #[(.bool false), (.int .i64 0), (.int .i8 0), (.int .i64 0), (.string ⟨#[]⟩), (.string ⟨#[]⟩), (.slice none 0 0)] 51)).frozen? ⟨w.heap.size, 6, none⟩ = false := free_of_row (block_alloc _ _)
  have x0 : (w.alloc (.cells #[(.bool true), (.int .i64 n), (.int .i8 0), (.int .i64 0), (.string ⟨#[]⟩), (.string ⟨#[]⟩), (.slice none 0 0)] 51)).cell? ⟨w.heap.size, 0, none⟩ = some (.bool true) := cell_of_row (block_alloc _ _) rfl
  have x1 : (w.alloc (.cells #[(.bool true), (.int .i64 n), (.int .i8 0), (.int .i64 0), (.string ⟨#[]⟩), (.string ⟨#[]⟩), (.slice none 0 0)] 51)).cell? ⟨w.heap.size, 1, none⟩ = some (.int .i64 n) := cell_of_row (block_alloc _ _) rfl
  have x2 : (w.alloc (.cells #[(.bool true), (.int .i64 n), (.int .i8 0), (.int .i64 0), (.string ⟨#[]⟩), (.string ⟨#[]⟩), (.slice none 0 0)] 51)).cell? ⟨w.heap.size, 2, none⟩ = some (.int .i8 0) := cell_of_row (block_alloc _ _) rfl
  have x3 : (w.alloc (.cells #[(.bool true), (.int .i64 n), (.int .i8 0), (.int .i64 0), (.string ⟨#[]⟩), (.string ⟨#[]⟩), (.slice none 0 0)] 51)).cell? ⟨w.heap.size, 3, none⟩ = some (.int .i64 0) := cell_of_row (block_alloc _ _) rfl
  have x4 : (w.alloc (.cells #[(.bool true), (.int .i64 n), (.int .i8 0), (.int .i64 0), (.string ⟨#[]⟩), (.string ⟨#[]⟩), (.slice none 0 0)] 51)).cell? ⟨w.heap.size, 4, none⟩ = some (.string ⟨#[]⟩) := cell_of_row (block_alloc _ _) rfl
  have x5 : (w.alloc (.cells #[(.bool true), (.int .i64 n), (.int .i8 0), (.int .i64 0), (.string ⟨#[]⟩), (.string ⟨#[]⟩), (.slice none 0 0)] 51)).cell? ⟨w.heap.size, 5, none⟩ = some (.string ⟨#[]⟩) := cell_of_row (block_alloc _ _) rfl
  have x6 : (w.alloc (.cells #[(.bool true), (.int .i64 n), (.int .i8 0), (.int .i64 0), (.string ⟨#[]⟩), (.string ⟨#[]⟩), (.slice none 0 0)] 51)).cell? ⟨w.heap.size, 6, none⟩ = some (.slice none 0 0) := cell_of_row (block_alloc _ _) rfl
  go_enter Tryz.func27, Tryz.ntmps27
  go_wp2_with fail
  refine bodyPost_ret (v := .agg #[(.bool true), (.int .i64 n), (.int .i8 0), (.int .i64 0), (.string ⟨#[]⟩), (.string ⟨#[]⟩), (.slice none 0 0)]) (by simp [results, Tryz.f27, go_sem, x0, x1, x2, x3, x4, x5, x6]) rfl ⟨rfl, (Below.refl _ _).alloc (Nat.le_refl _) _⟩
/-- Make, of one word that a call has just laid. -/
theorem make1 {base ho : Nat} {s : HSt} (hok : HOk s) (q : AW) (c0 c1 c2 c3 c4 c5 c6 : Value) (w : World) (hbw : base ≤ w.heap.size) (hat : s.At base w ho) (hlen : s.cs.length < 1048576) (hm : mayW s.cs.length q.c q.a q.x = true) (hg : wgood s.cs.length q.hw) (hsz : wsize s.cs q.hw ≤ 255)
    (ha : ∀ V : World, AWAt (fun b => b = w.heap.size) V q (.agg #[c0, c1, c2, c3, c4, c5, c6])) (hS : Spans w) :
    Calls Tryz.prog 25 #[.pointer (some ⟨ho, 0, none⟩), .int .i8 5, .slice (some ⟨w.heap.size, 0, none⟩) 1 1] (w.alloc (.cells #[c0, c1, c2, c3, c4, c5, c6] 51)) fun e w' =>
      e = .returned (.tuple #[refV s.cs.length, .int .i64 0]) ∧ ∃ s' : HSt, HOk s' ∧ s'.cs = s.cs ++ [⟨5, wsum s.cs [q.hw], [q.hw]⟩] ∧ HMove base ho s s' w w' := by
  obtain ⟨W, hW⟩ : ∃ W, W = w.alloc (.cells #[c0, c1, c2, c3, c4, c5, c6] 51) := ⟨_, rfl⟩
  have bW : Below w.heap.size w W := by rw [hW]; exact (Below.refl _ _).alloc (Nat.le_refl _) _
  have gW : W.heap[w.heap.size]? = some (.cells #[c0, c1, c2, c3, c4, c5, c6] 51 (0, 0)) := by rw [hW]; exact block_alloc _ _
  rw [← hW]
  have hlt := hat.lt
  refine (Make_any 5 [q] (some ⟨w.heap.size, 0, none⟩) 1 (fun b => b = w.heap.size) W (Nat.le_trans hbw bW.size) (hat.under bW) hok.rn hok.good.most (wrow_one gW q (ha W)) (fun b e => by subst e; exact ⟨heap_lt gW, (hat.new bW).not_fp (by omega)⟩) (by show 1 ≤ 1000; omega) hok.ws_le hok.good.len (by rfl) (hS.below bW hS.lt)).mono ?_
  have hsum : wsum s.cs [q.hw] ≤ 256 := by simp [wsum]; omega
  have hmk : makeE s.cs [q] = 0 := by
    unfold makeE
    rw [if_pos (by simp [hm]), if_neg (by show ¬ 256 < wsum s.cs [q.hw]; omega), if_neg (by omega)]
  rintro e w' (⟨hne, -⟩ | ⟨-, rfl, s', e1, e2, hmv⟩)
  · exact absurd hmk hne
  · refine ⟨rfl, s', ⟨?_, ?_, hmv.rn⟩, e1, hmv.of_below bW hat hok.rn⟩
    · rw [e1]
      exact hok.good.snoc 5 [q.hw] (.inl rfl) (fun y hy => by simp at hy; subst hy; exact hg) hsum (by omega)
    · rw [e2, e1, hok.ws]
      unfold HSt.more
      rw [wordsOf_append]
      simp [wordsOf]
theorem hok0 : HOk ⟨[], 0, .slice none 0 0, none, 0⟩ := ⟨⟨(fun n c h => by simp at h), (fun n c h => by simp at h), (fun n c h => by simp at h), (fun n c h => by simp at h), by simp⟩, rfl, by simp⟩
def wk0 : HC := ⟨5, 2, [.leaf (iW 0)]⟩
def wk1 : HC := ⟨5, 2, [.leaf (iW 1)]⟩
def wk2 : HC := ⟨5, 3, [.ref 0]⟩
theorem wk_may0 : mayW 0 false 0 (iW 0) = true := by decide +kernel
theorem wk_may1 : mayW 1 false 0 (iW 1) = true := by decide +kernel
theorem wk_may2 : mayW 2 true 0 (iW 0) = true := by decide +kernel
theorem wk_leaf (n : Int) (h : n = 0 ∨ n = 1) : leafE (iW n) = 0 := by rcases h with rfl | rfl <;> decide +kernel
theorem wk_all : allMay 3 [⟨true, 2, iW 0⟩] = true := by decide +kernel
theorem wk_roots : rootsOf [⟨true, 2, iW 0⟩] = [2] := rfl
theorem wk_reach (hg : HGood [wk0, wk1, wk2]) : reachL [wk0, wk1, wk2] [2] = [0, 2] := by
  refine up_ext (reachL_up _ _) (by decide) fun n => ?_
  rw [reachL_mem hg (by simp)]
  constructor
  · intro h
    refine h.least (S := fun n => n ∈ [0, 2]) (by simp) ?_
    intro a c b ha hc hb
    simp at ha
    rcases ha with rfl | rfl
    · cases hc
      simp [wk0] at hb
    · cases hc
      simp [wk2] at hb
      subst hb
      simp
  · intro h
    simp at h
    have h2 : Rch [wk0, wk1, wk2] [2] 2 := .root (by simp)
    rcases h with rfl | rfl
    · exact .part h2 (c := wk2) rfl (by simp [wk2])
    · exact h2

set_option maxRecDepth 100000 in
set_option maxHeartbeats 8000000 in
theorem wakes5_ok (w : World) (hS : Spans w) : Calls Tryz.prog 8 #[] w fun e w' => e = .returned (.bool true) ∧ Below w.heap.size w w' := by
  have HSP := Lib.hid hS
  have HN := Lib.hid (New_any w.heap.size w (Nat.le_refl _))
  clear hS
  go_enter Tryz.func8, Tryz.ntmps8
  go_wp2_with fail
  refine HN.out.mono ?_
  rintro e V1 ⟨rfl, h1, b1⟩
  obtain ⟨s0, hs0⟩ : ∃ s0 : HSt, s0 = ⟨[], 0, .slice none 0 0, none, 0⟩ := ⟨_, rfl⟩
  have H0 : Hid (s0.At w.heap.size V1 w.heap.size ∧ HOk s0 ∧ s0.cs = [] ∧ Below w.heap.size w V1) := ⟨by rw [hs0]; exact h1, by rw [hs0]; exact hok0, by rw [hs0], b1⟩
  clear h1 b1 hs0
  go_wp2_with fail
  refine (leaf5_any 0 V1).mono ?_
  rintro e V2 ⟨rfl, b⟩
  have H0b : Hid (s0.At w.heap.size V2 w.heap.size ∧ Below w.heap.size w V2) := ⟨H0.out.1.under b, H0.out.2.2.2.trans (b.mono H0.out.2.2.2.size)⟩
  have HM0 := Lib.hid (make1 H0.out.2.1 ⟨false, 0, iW 0⟩ (.bool false) (.int .i64 0) (.int .i8 0) (.int .i64 0) (.string ⟨#[]⟩) (.string ⟨#[]⟩) (.slice none 0 0) V2 H0b.out.2.size H0b.out.1 (by rw [H0.out.2.2.1]; decide) (by rw [H0.out.2.2.1]; exact wk_may0) (by rw [H0.out.2.2.1]; exact wk_leaf 0 (.inl rfl)) (by rw [H0.out.2.2.1]; decide) (fun V => aw_leaf _ _ _ _ _ (by decide)) (HSP.out.below H0b.out.2 HSP.out.lt))
  clear b
  go_wp2_with fail
  refine HM0.out.mono ?_
  rintro e V3 ⟨rfl, s1, hok, hcs, hmv⟩
  rw [H0.out.2.2.1] at hcs
  have hcs' : s1.cs = [wk0] := hcs
  have hbY : Below w.heap.size w V3 := H0b.out.2.trans (hmv.above H0b.out.1 H0b.out.2.size)
  have H0c := Lib.hid (And.intro hmv.at_ (And.intro hok (And.intro hcs' hbY)))
  clear hmv hok hcs hcs' hbY HM0
  rw [show (refV (s0.cs.length : Nat)) = .agg #[(.bool true), (.int .i64 0), (.int .i8 0), (.int .i64 0), (.string ⟨#[]⟩), (.string ⟨#[]⟩), (.slice none 0 0)] by rw [H0.out.2.2.1]; rfl]
  have z0 : (V3.alloc (.cells #[(.bool false), (.int .i64 0), (.int .i8 0), (.int .i64 0), (.string ⟨#[]⟩), (.string ⟨#[]⟩), (.slice none 0 0)] 51)).cell? ⟨V3.heap.size, 0, none⟩ = some (.bool false) := cell_of_row (block_alloc _ _) rfl
  have zf0 : (V3.alloc (.cells #[(.bool false), (.int .i64 0), (.int .i8 0), (.int .i64 0), (.string ⟨#[]⟩), (.string ⟨#[]⟩), (.slice none 0 0)] 51)).frozen? ⟨V3.heap.size, 0, none⟩ = false := free_of_row (block_alloc _ _)
  have z1 : (V3.alloc (.cells #[(.bool false), (.int .i64 0), (.int .i8 0), (.int .i64 0), (.string ⟨#[]⟩), (.string ⟨#[]⟩), (.slice none 0 0)] 51)).cell? ⟨V3.heap.size, 1, none⟩ = some (.int .i64 0) := cell_of_row (block_alloc _ _) rfl
  have zf1 : (V3.alloc (.cells #[(.bool false), (.int .i64 0), (.int .i8 0), (.int .i64 0), (.string ⟨#[]⟩), (.string ⟨#[]⟩), (.slice none 0 0)] 51)).frozen? ⟨V3.heap.size, 1, none⟩ = false := free_of_row (block_alloc _ _)
  have z2 : (V3.alloc (.cells #[(.bool false), (.int .i64 0), (.int .i8 0), (.int .i64 0), (.string ⟨#[]⟩), (.string ⟨#[]⟩), (.slice none 0 0)] 51)).cell? ⟨V3.heap.size, 2, none⟩ = some (.int .i8 0) := cell_of_row (block_alloc _ _) rfl
  have zf2 : (V3.alloc (.cells #[(.bool false), (.int .i64 0), (.int .i8 0), (.int .i64 0), (.string ⟨#[]⟩), (.string ⟨#[]⟩), (.slice none 0 0)] 51)).frozen? ⟨V3.heap.size, 2, none⟩ = false := free_of_row (block_alloc _ _)
  have z3 : (V3.alloc (.cells #[(.bool false), (.int .i64 0), (.int .i8 0), (.int .i64 0), (.string ⟨#[]⟩), (.string ⟨#[]⟩), (.slice none 0 0)] 51)).cell? ⟨V3.heap.size, 3, none⟩ = some (.int .i64 0) := cell_of_row (block_alloc _ _) rfl
  have zf3 : (V3.alloc (.cells #[(.bool false), (.int .i64 0), (.int .i8 0), (.int .i64 0), (.string ⟨#[]⟩), (.string ⟨#[]⟩), (.slice none 0 0)] 51)).frozen? ⟨V3.heap.size, 3, none⟩ = false := free_of_row (block_alloc _ _)
  have z4 : (V3.alloc (.cells #[(.bool false), (.int .i64 0), (.int .i8 0), (.int .i64 0), (.string ⟨#[]⟩), (.string ⟨#[]⟩), (.slice none 0 0)] 51)).cell? ⟨V3.heap.size, 4, none⟩ = some (.string ⟨#[]⟩) := cell_of_row (block_alloc _ _) rfl
  have zf4 : (V3.alloc (.cells #[(.bool false), (.int .i64 0), (.int .i8 0), (.int .i64 0), (.string ⟨#[]⟩), (.string ⟨#[]⟩), (.slice none 0 0)] 51)).frozen? ⟨V3.heap.size, 4, none⟩ = false := free_of_row (block_alloc _ _)
  have z5 : (V3.alloc (.cells #[(.bool false), (.int .i64 0), (.int .i8 0), (.int .i64 0), (.string ⟨#[]⟩), (.string ⟨#[]⟩), (.slice none 0 0)] 51)).cell? ⟨V3.heap.size, 5, none⟩ = some (.string ⟨#[]⟩) := cell_of_row (block_alloc _ _) rfl
  have zf5 : (V3.alloc (.cells #[(.bool false), (.int .i64 0), (.int .i8 0), (.int .i64 0), (.string ⟨#[]⟩), (.string ⟨#[]⟩), (.slice none 0 0)] 51)).frozen? ⟨V3.heap.size, 5, none⟩ = false := free_of_row (block_alloc _ _)
  have z6 : (V3.alloc (.cells #[(.bool false), (.int .i64 0), (.int .i8 0), (.int .i64 0), (.string ⟨#[]⟩), (.string ⟨#[]⟩), (.slice none 0 0)] 51)).cell? ⟨V3.heap.size, 6, none⟩ = some (.slice none 0 0) := cell_of_row (block_alloc _ _) rfl
  have zf6 : (V3.alloc (.cells #[(.bool false), (.int .i64 0), (.int .i8 0), (.int .i64 0), (.string ⟨#[]⟩), (.string ⟨#[]⟩), (.slice none 0 0)] 51)).frozen? ⟨V3.heap.size, 6, none⟩ = false := free_of_row (block_alloc _ _)
  go_wp2_with fail
  have b : Below V3.heap.size V3 (V3.alloc (.cells #[(.bool true), (.int .i64 0), (.int .i8 0), (.int .i64 0), (.string ⟨#[]⟩), (.string ⟨#[]⟩), (.slice none 0 0)] 51)) := (Below.refl _ _).alloc (Nat.le_refl _) _
  generalize (V3.alloc (.cells #[(.bool true), (.int .i64 0), (.int .i8 0), (.int .i64 0), (.string ⟨#[]⟩), (.string ⟨#[]⟩), (.slice none 0 0)] 51)) = V4 at b ⊢
  have H1 : Hid (s1.At w.heap.size V4 w.heap.size ∧ HOk s1 ∧ s1.cs = [wk0] ∧ Below w.heap.size w V4) := ⟨H0c.out.1.under b, H0c.out.2.1, H0c.out.2.2.1, H0c.out.2.2.2.trans (b.mono H0c.out.2.2.2.size)⟩
  clear b z0 z1 z2 z3 z4 z5 z6 zf0 zf1 zf2 zf3 zf4 zf5 zf6
  refine (leaf5_any 1 V4).mono ?_
  rintro e V5 ⟨rfl, b⟩
  have H1b : Hid (s1.At w.heap.size V5 w.heap.size ∧ Below w.heap.size w V5) := ⟨H1.out.1.under b, H1.out.2.2.2.trans (b.mono H1.out.2.2.2.size)⟩
  have HM1 := Lib.hid (make1 H1.out.2.1 ⟨false, 0, iW 1⟩ (.bool false) (.int .i64 0) (.int .i8 0) (.int .i64 1) (.string ⟨#[]⟩) (.string ⟨#[]⟩) (.slice none 0 0) V5 H1b.out.2.size H1b.out.1 (by rw [H1.out.2.2.1]; decide) (by rw [H1.out.2.2.1]; exact wk_may1) (by rw [H1.out.2.2.1]; exact wk_leaf 1 (.inr rfl)) (by rw [H1.out.2.2.1]; decide) (fun V => aw_leaf _ _ _ _ _ (by decide)) (HSP.out.below H1b.out.2 HSP.out.lt))
  clear b
  go_wp2_with fail
  refine HM1.out.mono ?_
  rintro e V6 ⟨rfl, s2, hok, hcs, hmv⟩
  rw [H1.out.2.2.1] at hcs
  have hcs' : s2.cs = [wk0, wk1] := hcs
  have hbY : Below w.heap.size w V6 := H1b.out.2.trans (hmv.above H1b.out.1 H1b.out.2.size)
  have H1c := Lib.hid (And.intro hmv.at_ (And.intro hok (And.intro hcs' hbY)))
  clear hmv hok hcs hcs' hbY HM1
  rw [show (refV (s1.cs.length : Nat)) = .agg #[(.bool true), (.int .i64 1), (.int .i8 0), (.int .i64 0), (.string ⟨#[]⟩), (.string ⟨#[]⟩), (.slice none 0 0)] by rw [H1.out.2.2.1]; rfl]
  have z0 : (V6.alloc (.cells #[(.bool false), (.int .i64 0), (.int .i8 0), (.int .i64 0), (.string ⟨#[]⟩), (.string ⟨#[]⟩), (.slice none 0 0)] 51)).cell? ⟨V6.heap.size, 0, none⟩ = some (.bool false) := cell_of_row (block_alloc _ _) rfl
  have zf0 : (V6.alloc (.cells #[(.bool false), (.int .i64 0), (.int .i8 0), (.int .i64 0), (.string ⟨#[]⟩), (.string ⟨#[]⟩), (.slice none 0 0)] 51)).frozen? ⟨V6.heap.size, 0, none⟩ = false := free_of_row (block_alloc _ _)
  have z1 : (V6.alloc (.cells #[(.bool false), (.int .i64 0), (.int .i8 0), (.int .i64 0), (.string ⟨#[]⟩), (.string ⟨#[]⟩), (.slice none 0 0)] 51)).cell? ⟨V6.heap.size, 1, none⟩ = some (.int .i64 0) := cell_of_row (block_alloc _ _) rfl
  have zf1 : (V6.alloc (.cells #[(.bool false), (.int .i64 0), (.int .i8 0), (.int .i64 0), (.string ⟨#[]⟩), (.string ⟨#[]⟩), (.slice none 0 0)] 51)).frozen? ⟨V6.heap.size, 1, none⟩ = false := free_of_row (block_alloc _ _)
  have z2 : (V6.alloc (.cells #[(.bool false), (.int .i64 0), (.int .i8 0), (.int .i64 0), (.string ⟨#[]⟩), (.string ⟨#[]⟩), (.slice none 0 0)] 51)).cell? ⟨V6.heap.size, 2, none⟩ = some (.int .i8 0) := cell_of_row (block_alloc _ _) rfl
  have zf2 : (V6.alloc (.cells #[(.bool false), (.int .i64 0), (.int .i8 0), (.int .i64 0), (.string ⟨#[]⟩), (.string ⟨#[]⟩), (.slice none 0 0)] 51)).frozen? ⟨V6.heap.size, 2, none⟩ = false := free_of_row (block_alloc _ _)
  have z3 : (V6.alloc (.cells #[(.bool false), (.int .i64 0), (.int .i8 0), (.int .i64 0), (.string ⟨#[]⟩), (.string ⟨#[]⟩), (.slice none 0 0)] 51)).cell? ⟨V6.heap.size, 3, none⟩ = some (.int .i64 0) := cell_of_row (block_alloc _ _) rfl
  have zf3 : (V6.alloc (.cells #[(.bool false), (.int .i64 0), (.int .i8 0), (.int .i64 0), (.string ⟨#[]⟩), (.string ⟨#[]⟩), (.slice none 0 0)] 51)).frozen? ⟨V6.heap.size, 3, none⟩ = false := free_of_row (block_alloc _ _)
  have z4 : (V6.alloc (.cells #[(.bool false), (.int .i64 0), (.int .i8 0), (.int .i64 0), (.string ⟨#[]⟩), (.string ⟨#[]⟩), (.slice none 0 0)] 51)).cell? ⟨V6.heap.size, 4, none⟩ = some (.string ⟨#[]⟩) := cell_of_row (block_alloc _ _) rfl
  have zf4 : (V6.alloc (.cells #[(.bool false), (.int .i64 0), (.int .i8 0), (.int .i64 0), (.string ⟨#[]⟩), (.string ⟨#[]⟩), (.slice none 0 0)] 51)).frozen? ⟨V6.heap.size, 4, none⟩ = false := free_of_row (block_alloc _ _)
  have z5 : (V6.alloc (.cells #[(.bool false), (.int .i64 0), (.int .i8 0), (.int .i64 0), (.string ⟨#[]⟩), (.string ⟨#[]⟩), (.slice none 0 0)] 51)).cell? ⟨V6.heap.size, 5, none⟩ = some (.string ⟨#[]⟩) := cell_of_row (block_alloc _ _) rfl
  have zf5 : (V6.alloc (.cells #[(.bool false), (.int .i64 0), (.int .i8 0), (.int .i64 0), (.string ⟨#[]⟩), (.string ⟨#[]⟩), (.slice none 0 0)] 51)).frozen? ⟨V6.heap.size, 5, none⟩ = false := free_of_row (block_alloc _ _)
  have z6 : (V6.alloc (.cells #[(.bool false), (.int .i64 0), (.int .i8 0), (.int .i64 0), (.string ⟨#[]⟩), (.string ⟨#[]⟩), (.slice none 0 0)] 51)).cell? ⟨V6.heap.size, 6, none⟩ = some (.slice none 0 0) := cell_of_row (block_alloc _ _) rfl
  have zf6 : (V6.alloc (.cells #[(.bool false), (.int .i64 0), (.int .i8 0), (.int .i64 0), (.string ⟨#[]⟩), (.string ⟨#[]⟩), (.slice none 0 0)] 51)).frozen? ⟨V6.heap.size, 6, none⟩ = false := free_of_row (block_alloc _ _)
  go_wp2_with fail
  have b : Below V6.heap.size V6 (V6.alloc (.cells #[(.bool true), (.int .i64 1), (.int .i8 0), (.int .i64 0), (.string ⟨#[]⟩), (.string ⟨#[]⟩), (.slice none 0 0)] 51)) := (Below.refl _ _).alloc (Nat.le_refl _) _
  generalize (V6.alloc (.cells #[(.bool true), (.int .i64 1), (.int .i8 0), (.int .i64 0), (.string ⟨#[]⟩), (.string ⟨#[]⟩), (.slice none 0 0)] 51)) = V7 at b ⊢
  have H2 : Hid (s2.At w.heap.size V7 w.heap.size ∧ HOk s2 ∧ s2.cs = [wk0, wk1] ∧ Below w.heap.size w V7) := ⟨H1c.out.1.under b, H1c.out.2.1, H1c.out.2.2.1, H1c.out.2.2.2.trans (b.mono H1c.out.2.2.2.size)⟩
  clear b z0 z1 z2 z3 z4 z5 z6 zf0 zf1 zf2 zf3 zf4 zf5 zf6
  refine (cell5_any 0 V7).mono ?_
  rintro e V8 ⟨rfl, b⟩
  have H2b : Hid (s2.At w.heap.size V8 w.heap.size ∧ Below w.heap.size w V8) := ⟨H2.out.1.under b, H2.out.2.2.2.trans (b.mono H2.out.2.2.2.size)⟩
  have HM2 := Lib.hid (make1 H2.out.2.1 ⟨true, 0, iW 0⟩ (.bool true) (.int .i64 0) (.int .i8 0) (.int .i64 0) (.string ⟨#[]⟩) (.string ⟨#[]⟩) (.slice none 0 0) V8 H2b.out.2.size H2b.out.1 (by rw [H2.out.2.2.1]; decide) (by rw [H2.out.2.2.1]; exact wk_may2) (by rw [H2.out.2.2.1]; exact (by decide : 0 < 2)) (by rw [H2.out.2.2.1]; decide) (fun V => aw_leaf _ _ _ _ _ (by decide)) (HSP.out.below H2b.out.2 HSP.out.lt))
  clear b
  go_wp2_with fail
  refine HM2.out.mono ?_
  rintro e V9 ⟨rfl, s3, hok, hcs, hmv⟩
  rw [H2.out.2.2.1] at hcs
  have hcs' : s3.cs = [wk0, wk1, wk2] := hcs
  have hbY : Below w.heap.size w V9 := H2b.out.2.trans (hmv.above H2b.out.1 H2b.out.2.size)
  have H2c := Lib.hid (And.intro hmv.at_ (And.intro hok (And.intro hcs' hbY)))
  clear hmv hok hcs hcs' hbY HM2
  rw [show (refV (s2.cs.length : Nat)) = .agg #[(.bool true), (.int .i64 2), (.int .i8 0), (.int .i64 0), (.string ⟨#[]⟩), (.string ⟨#[]⟩), (.slice none 0 0)] by rw [H2.out.2.2.1]; rfl]
  have z0 : (V9.alloc (.cells #[(.bool false), (.int .i64 0), (.int .i8 0), (.int .i64 0), (.string ⟨#[]⟩), (.string ⟨#[]⟩), (.slice none 0 0)] 51)).cell? ⟨V9.heap.size, 0, none⟩ = some (.bool false) := cell_of_row (block_alloc _ _) rfl
  have zf0 : (V9.alloc (.cells #[(.bool false), (.int .i64 0), (.int .i8 0), (.int .i64 0), (.string ⟨#[]⟩), (.string ⟨#[]⟩), (.slice none 0 0)] 51)).frozen? ⟨V9.heap.size, 0, none⟩ = false := free_of_row (block_alloc _ _)
  have z1 : (V9.alloc (.cells #[(.bool false), (.int .i64 0), (.int .i8 0), (.int .i64 0), (.string ⟨#[]⟩), (.string ⟨#[]⟩), (.slice none 0 0)] 51)).cell? ⟨V9.heap.size, 1, none⟩ = some (.int .i64 0) := cell_of_row (block_alloc _ _) rfl
  have zf1 : (V9.alloc (.cells #[(.bool false), (.int .i64 0), (.int .i8 0), (.int .i64 0), (.string ⟨#[]⟩), (.string ⟨#[]⟩), (.slice none 0 0)] 51)).frozen? ⟨V9.heap.size, 1, none⟩ = false := free_of_row (block_alloc _ _)
  have z2 : (V9.alloc (.cells #[(.bool false), (.int .i64 0), (.int .i8 0), (.int .i64 0), (.string ⟨#[]⟩), (.string ⟨#[]⟩), (.slice none 0 0)] 51)).cell? ⟨V9.heap.size, 2, none⟩ = some (.int .i8 0) := cell_of_row (block_alloc _ _) rfl
  have zf2 : (V9.alloc (.cells #[(.bool false), (.int .i64 0), (.int .i8 0), (.int .i64 0), (.string ⟨#[]⟩), (.string ⟨#[]⟩), (.slice none 0 0)] 51)).frozen? ⟨V9.heap.size, 2, none⟩ = false := free_of_row (block_alloc _ _)
  have z3 : (V9.alloc (.cells #[(.bool false), (.int .i64 0), (.int .i8 0), (.int .i64 0), (.string ⟨#[]⟩), (.string ⟨#[]⟩), (.slice none 0 0)] 51)).cell? ⟨V9.heap.size, 3, none⟩ = some (.int .i64 0) := cell_of_row (block_alloc _ _) rfl
  have zf3 : (V9.alloc (.cells #[(.bool false), (.int .i64 0), (.int .i8 0), (.int .i64 0), (.string ⟨#[]⟩), (.string ⟨#[]⟩), (.slice none 0 0)] 51)).frozen? ⟨V9.heap.size, 3, none⟩ = false := free_of_row (block_alloc _ _)
  have z4 : (V9.alloc (.cells #[(.bool false), (.int .i64 0), (.int .i8 0), (.int .i64 0), (.string ⟨#[]⟩), (.string ⟨#[]⟩), (.slice none 0 0)] 51)).cell? ⟨V9.heap.size, 4, none⟩ = some (.string ⟨#[]⟩) := cell_of_row (block_alloc _ _) rfl
  have zf4 : (V9.alloc (.cells #[(.bool false), (.int .i64 0), (.int .i8 0), (.int .i64 0), (.string ⟨#[]⟩), (.string ⟨#[]⟩), (.slice none 0 0)] 51)).frozen? ⟨V9.heap.size, 4, none⟩ = false := free_of_row (block_alloc _ _)
  have z5 : (V9.alloc (.cells #[(.bool false), (.int .i64 0), (.int .i8 0), (.int .i64 0), (.string ⟨#[]⟩), (.string ⟨#[]⟩), (.slice none 0 0)] 51)).cell? ⟨V9.heap.size, 5, none⟩ = some (.string ⟨#[]⟩) := cell_of_row (block_alloc _ _) rfl
  have zf5 : (V9.alloc (.cells #[(.bool false), (.int .i64 0), (.int .i8 0), (.int .i64 0), (.string ⟨#[]⟩), (.string ⟨#[]⟩), (.slice none 0 0)] 51)).frozen? ⟨V9.heap.size, 5, none⟩ = false := free_of_row (block_alloc _ _)
  have z6 : (V9.alloc (.cells #[(.bool false), (.int .i64 0), (.int .i8 0), (.int .i64 0), (.string ⟨#[]⟩), (.string ⟨#[]⟩), (.slice none 0 0)] 51)).cell? ⟨V9.heap.size, 6, none⟩ = some (.slice none 0 0) := cell_of_row (block_alloc _ _) rfl
  have zf6 : (V9.alloc (.cells #[(.bool false), (.int .i64 0), (.int .i8 0), (.int .i64 0), (.string ⟨#[]⟩), (.string ⟨#[]⟩), (.slice none 0 0)] 51)).frozen? ⟨V9.heap.size, 6, none⟩ = false := free_of_row (block_alloc _ _)
  go_wp2_with fail
  have b : Below V9.heap.size V9 (V9.alloc (.cells #[(.bool true), (.int .i64 2), (.int .i8 0), (.int .i64 0), (.string ⟨#[]⟩), (.string ⟨#[]⟩), (.slice none 0 0)] 51)) := (Below.refl _ _).alloc (Nat.le_refl _) _
  generalize (V9.alloc (.cells #[(.bool true), (.int .i64 2), (.int .i8 0), (.int .i64 0), (.string ⟨#[]⟩), (.string ⟨#[]⟩), (.slice none 0 0)] 51)) = V10 at b ⊢
  have H3 : Hid (s3.At w.heap.size V10 w.heap.size ∧ HOk s3 ∧ s3.cs = [wk0, wk1, wk2] ∧ Below w.heap.size w V10) := ⟨H2c.out.1.under b, H2c.out.2.1, H2c.out.2.2.1, H2c.out.2.2.2.trans (b.mono H2c.out.2.2.2.size)⟩
  clear b z0 z1 z2 z3 z4 z5 z6 zf0 zf1 zf2 zf3 zf4 zf5 zf6
  refine (cell5_any 2 V10).mono ?_
  rintro e V11 ⟨rfl, b⟩
  obtain ⟨W, hW⟩ : ∃ W, W = V11.alloc (.cells #[(.bool true), (.int .i64 2), (.int .i8 0), (.int .i64 0), (.string ⟨#[]⟩), (.string ⟨#[]⟩), (.slice none 0 0)] 51) := ⟨_, rfl⟩
  have bW : Below V10.heap.size V10 W := b.trans (by rw [hW]; exact (Below.refl _ _).alloc b.size _)
  have gW : W.heap[V11.heap.size]? = some (.cells #[(.bool true), (.int .i64 2), (.int .i8 0), (.int .i64 0), (.string ⟨#[]⟩), (.string ⟨#[]⟩), (.slice none 0 0)] 51 (0, 0)) := by rw [hW]; exact block_alloc _ _
  have hBW : Below w.heap.size w W := H3.out.2.2.2.trans (bW.mono H3.out.2.2.2.size)
  have hrow : WRow (· < W.heap.size) W (some ⟨V11.heap.size, 0, none⟩) 1 1 [⟨true, 2, iW 0⟩] := (wrow_one gW ⟨true, 2, iW 0⟩ (aw_leaf _ _ _ _ _ (by decide))).keep (fun _ _ => rfl) (fun b e => by subst e; exact heap_lt gW)
  have HR := Lib.hid (Run_any H3.out.2.1.good W (H3.out.1.under bW) [⟨true, 2, iW 0⟩] (some ⟨V11.heap.size, 0, none⟩) 1 1 hrow (HSP.out.below hBW HSP.out.lt) (by show 1 ≤ 1000000; omega))
  have HBW := Lib.hid (And.intro hBW (H3.out.1.under bW))
  clear b bW gW hBW hrow
  go_wp2_with fail
  rw [← hW]
  clear hW
  refine HR.out.mono ?_
  rintro e V12 ⟨b12, (⟨-, so, ho, g, hcs, hok, hat, hgl, hge, hwi, rfl⟩ | ⟨hno, -⟩)⟩
  · have hrl : reachL s3.cs (rootsOf [⟨true, 2, iW 0⟩]) = [0, 2] := by
      have h := H3.out.2.1.good
      rw [H3.out.2.2.1] at h
      rw [H3.out.2.2.1, wk_roots]
      exact wk_reach h
    rw [hrl] at hcs hwi
    have hl2 : so.cs.length = 2 := by rw [hcs, colC_len]; rfl
    have hto : V12.cell? ⟨g, 1, none⟩ = some (.int .i64 1) := hwi 0 _ rfl 1 _ rfl
    have hl3 : s3.cs.length = 3 := by rw [H3.out.2.2.1]; rfl
    have HLN := Lib.hid (Len_any V12 hat)
    rw [hl2] at HLN
    have HLH := Lib.hid (Len_any V12 (HBW.out.2.under b12))
    rw [hl3] at HLH
    have HB12 := Lib.hid (HBW.out.1.trans (b12.mono HBW.out.1.size))
    clear hcs hok hat hgl hge hwi b12 hl2 hl3 hrl
    go_wp2_with (first | (refine HLN.out.mono ?_; rintro e w' ⟨rfl, hq⟩; subst w') | (refine HLH.out.mono ?_; rintro e w' ⟨rfl, hq⟩; subst w'))
    go_ret
    exact ⟨rfl, HB12.out⟩
  · exfalso
    rw [H3.out.2.2.1] at hno
    exact absurd wk_all (by rw [show [wk0, wk1, wk2].length = 3 from rfl] at hno; rw [hno]; decide)
end Go.Proofs.YtgdkhmamjhdfdaaGreatDoor
