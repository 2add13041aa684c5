/- package heap: blank, has, own, Leaf. -/
import Derived.Test.YtaemfjmmklpjeaaGreatDoorHeapA
import Derived.Test.YtaemfjmmklpjeaaGreatDoorStrClone
import Derived.Deep.RegionHeld
import Derived.OrdersHeld
set_option linter.unusedVariables false
namespace Go.Proofs.YtaemfjmmklpjeaaGreatDoor
open Go.RowKit

def blankB (k n : Int) (s t : ByteArray) (len : Nat) : Bool := (k == 0) && (n == 0) && (s.toList.isEmpty) && (t.toList.isEmpty) && ((len : Int) == 0)

set_option maxHeartbeats 2000000 in
set_option maxRecDepth 100000 in
theorem blank_any (k n : Int) (s t : ByteArray) (A : Option Addr) (len cap : Nat) (w : World) : Calls Tryz.prog 54 #[.agg #[(.int .i8 k), (.int .i64 n), (.string s), (.string t), (.slice A len cap)]] w fun e w' => e = .returned (.bool (blankB k n s t len)) ∧ Below w.heap.size w w' := by
  obtain ⟨R, hR⟩ : ∃ R, R = blankB k n s t len := ⟨_, rfl⟩
  have HR := Lib.hid hR
  rw [← hR]
  clear hR
  obtain ⟨w1, hw1⟩ : ∃ w1, w1 = w.alloc (.cells #[(.int .i8 k), (.int .i64 n), (.string s), (.string t), (.slice A len cap)] 27) := ⟨_, rfl⟩
  have g1 : w1.heap[w.heap.size]? = some (.cells #[(.int .i8 k), (.int .i64 n), (.string s), (.string t), (.slice A len cap)] 27 (0, 0)) := by rw [hw1]; exact block_alloc _ _
  have hB : Below w.heap.size w w1 := by rw [hw1]; exact (Below.refl _ _).alloc (Nat.le_refl _) _
  have x0 : w1.cell? ⟨w.heap.size, 0, none⟩ = some (.int .i8 k) := cell_of_row g1 rfl
  have x1 : w1.cell? ⟨w.heap.size, 1, none⟩ = some (.int .i64 n) := cell_of_row g1 rfl
  have x2 : w1.cell? ⟨w.heap.size, 2, none⟩ = some (.string s) := cell_of_row g1 rfl
  have x3 : w1.cell? ⟨w.heap.size, 3, none⟩ = some (.string t) := cell_of_row g1 rfl
  have x4 : w1.cell? ⟨w.heap.size, 4, none⟩ = some (.slice A len cap) := cell_of_row g1 rfl
  have HB := Lib.hid hB
  clear hB g1
  subst hw1
  cases hk : (k == 0)
  case false =>
    have hR0 : R = false := by rw [HR.out]; unfold blankB; simp only [hk]; rfl
    have HR0 := Lib.hid hR0
    clear hR0
    go_enter Tryz.func54, Tryz.ntmps54
    go_wp2_with fail
    go_ret
    exact ⟨ret_bool HR0.out.symm, HB.out⟩
  cases hn : (n == 0)
  case false =>
    have hR0 : R = false := by rw [HR.out]; unfold blankB; simp only [hn, hk]; rfl
    have HR0 := Lib.hid hR0
    clear hR0
    go_enter Tryz.func54, Tryz.ntmps54
    go_wp2_with fail
    go_ret
    exact ⟨ret_bool HR0.out.symm, HB.out⟩
  cases hs : (s.toList.isEmpty)
  case false =>
    have hs1 : (s.toList == []) = false := by cases h : s.toList <;> simp_all
    have hs2 : ¬ (s.toList = []) := by simpa using hs
    have hR0 : R = false := by rw [HR.out]; unfold blankB; simp only [hs, hk, hn]; rfl
    have HR0 := Lib.hid hR0
    clear hR0
    go_enter Tryz.func54, Tryz.ntmps54
    go_wp2_with fail
    go_ret
    exact ⟨ret_bool HR0.out.symm, HB.out⟩
  have hs1 : (s.toList == []) = true := by cases h : s.toList <;> simp_all
  have hs2 : (s.toList = []) := by simpa using hs
  cases ht : (t.toList.isEmpty)
  case false =>
    have ht1 : (t.toList == []) = false := by cases h : t.toList <;> simp_all
    have ht2 : ¬ (t.toList = []) := by simpa using ht
    have hR0 : R = false := by rw [HR.out]; unfold blankB; simp only [ht, hk, hn, hs]; rfl
    have HR0 := Lib.hid hR0
    clear hR0
    go_enter Tryz.func54, Tryz.ntmps54
    go_wp2_with fail
    go_ret
    exact ⟨ret_bool HR0.out.symm, HB.out⟩
  have ht1 : (t.toList == []) = true := by cases h : t.toList <;> simp_all
  have ht2 : (t.toList = []) := by simpa using ht
  cases hl : ((len : Int) == 0)
  case false =>
    have hR0 : R = false := by rw [HR.out]; unfold blankB; simp only [hl, hk, hn, hs, ht]; rfl
    have HR0 := Lib.hid hR0
    clear hR0
    go_enter Tryz.func54, Tryz.ntmps54
    go_wp2_with fail
    go_ret
    exact ⟨ret_bool HR0.out.symm, HB.out⟩
  have hR0 : R = true := by rw [HR.out]; unfold blankB; simp only [hk, hn, hs, ht, hl]; rfl
  have HR0 := Lib.hid hR0
  clear hR0
  go_enter Tryz.func54, Tryz.ntmps54
  go_wp2_with fail
  go_ret
  exact ⟨ret_bool HR0.out.symm, HB.out⟩

set_option maxHeartbeats 2000000 in
set_option maxRecDepth 100000 in
theorem has_any (hb : Nat) (A : Option Addr) (N cap : Nat) (n : Int) (w : World) (hc : w.cell? ⟨hb, 0, none⟩ = some (.slice A N cap)) :
    Calls Tryz.prog 53 #[.pointer (some ⟨hb, 0, none⟩), .int .i64 n] w fun e w' => e = .returned (.bool (decide (0 ≤ n) && decide (n < (N : Int)))) ∧ w = w' := by
  cases h0 : decide (0 ≤ n)
  · go_enter Tryz.func53, Tryz.ntmps53
    go_wp2_with fail
    go_ret
    exact ⟨rfl, rfl⟩
  · cases h1 : decide (n < (N : Int))
    · go_enter Tryz.func53, Tryz.ntmps53
      go_wp2_with fail
      go_ret
      exact ⟨rfl, rfl⟩
    · go_enter Tryz.func53, Tryz.ntmps53
      go_wp2_with fail
      go_ret
      exact ⟨rfl, rfl⟩
end Go.Proofs.YtaemfjmmklpjeaaGreatDoor
