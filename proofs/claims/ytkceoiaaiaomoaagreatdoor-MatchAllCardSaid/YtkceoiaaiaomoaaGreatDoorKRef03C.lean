/- The document's own answers of layer 3: bare, one, count, Check, Size, Int. The document's own answers of layer 3: one, kind by kind. The document's own answers of layer 3: count, Check, Size, Int. -/
import Derived.Test.YtkceoiaaiaomoaaGreatDoorKAstC
import Derived.Test.YtkceoiaaiaomoaaGreatDoorKListT
set_option linter.unusedVariables false
namespace Go.Proofs.YtkceoiaaiaomoaaGreatDoor
open Go.RowKit

theorem r1May_any (n : Int) (w : World) : Calls Tryz.prog 209 #[.int .i64 n] w fun e w' => e = .returned (.bool (mayB n)) ∧ w = w' := by
  have hd : mayB n = (decide (-576460752303423488 ≤ n) && decide (n ≤ 576460752303423487)) := by unfold mayB; rw [Bool.eq_iff_iff]; simp
  have H := Lib.hid hd
  clear hd
  by_cases h1 : -576460752303423488 ≤ n
  · go_enter Tryz.func209, Tryz.ntmps209
    go_wp2
    go_ret
    exact ⟨ret_bool (by rw [H.out]; simp [h1]), rfl⟩
  · go_enter Tryz.func209, Tryz.ntmps209
    go_wp2
    go_ret
    exact ⟨ret_bool (by rw [H.out]; simp; omega), rfl⟩

def bare_int (n : Int) (s t : ByteArray) (len : Nat) : Bool := (s.toList.isEmpty) && (t.toList.isEmpty) && ((len : Int) == 0)
set_option maxHeartbeats 2000000 in
set_option maxRecDepth 100000 in
theorem rbare_int (k n : Int) (s t : ByteArray) (A : Option Addr) (len cap : Nat) (w : World) : Calls Tryz.prog 233 #[.agg #[(.int .i8 k), (.int .i64 n), (.string s), (.string t), (.slice A len cap)], .bool true, .bool false, .bool false, .bool false] w fun e w' => e = .returned (.bool (bare_int n s t len)) ∧ Below w.heap.size w w' := by
  obtain ⟨R, hR⟩ : ∃ R, R = bare_int n s t len := ⟨_, rfl⟩
  have HR := Lib.hid hR
  rw [← hR]
  clear hR
  obtain ⟨w1, hw1⟩ : ∃ w1, w1 = w.alloc (.cells #[(.int .i8 k), (.int .i64 n), (.string s), (.string t), (.slice A len cap)] 44) := ⟨_, rfl⟩
  have g1 : w1.heap[w.heap.size]? = some (.cells #[(.int .i8 k), (.int .i64 n), (.string s), (.string t), (.slice A len cap)] 44 (0, 0)) := by rw [hw1]; exact block_alloc _ _
  have hB : Below w.heap.size w w1 := by rw [hw1]; exact (Below.refl _ _).alloc (Nat.le_refl _) _
  have x0 : w1.cell? ⟨w.heap.size, 0, none⟩ = some (.int .i8 k) := cell_of_row g1 rfl
  have x1 : w1.cell? ⟨w.heap.size, 1, none⟩ = some (.int .i64 n) := cell_of_row g1 rfl
  have x2 : w1.cell? ⟨w.heap.size, 2, none⟩ = some (.string s) := cell_of_row g1 rfl
  have x3 : w1.cell? ⟨w.heap.size, 3, none⟩ = some (.string t) := cell_of_row g1 rfl
  have x4 : w1.cell? ⟨w.heap.size, 4, none⟩ = some (.slice A len cap) := cell_of_row g1 rfl
  have HB := Lib.hid hB
  clear hB g1
  subst hw1
  cases hs : (s.toList.isEmpty)
  case false =>
    have s1 : (s.toList == []) = false := by cases h : s.toList <;> simp_all
    have s2 : ¬ (s.toList = []) := by simpa using hs
    have hR0 : R = false := by rw [HR.out]; unfold bare_int; simp only [hs] <;> rfl
    have HR0 := Lib.hid hR0
    clear hR0
    go_enter Tryz.func233, Tryz.ntmps233
    go_wp2_with fail
    go_ret
    exact ⟨ret_bool HR0.out.symm, HB.out⟩
  have s1 : (s.toList == []) = true := by cases h : s.toList <;> simp_all
  have s2 : (s.toList = []) := by simpa using hs
  cases ht : (t.toList.isEmpty)
  case false =>
    have t1 : (t.toList == []) = false := by cases h : t.toList <;> simp_all
    have t2 : ¬ (t.toList = []) := by simpa using ht
    have hR0 : R = false := by rw [HR.out]; unfold bare_int; simp only [ht, hs] <;> rfl
    have HR0 := Lib.hid hR0
    clear hR0
    go_enter Tryz.func233, Tryz.ntmps233
    go_wp2_with fail
    go_ret
    exact ⟨ret_bool HR0.out.symm, HB.out⟩
  have t1 : (t.toList == []) = true := by cases h : t.toList <;> simp_all
  have t2 : (t.toList = []) := by simpa using ht
  cases hl : ((len : Int) == 0)
  case false =>
    have hR0 : R = false := by rw [HR.out]; unfold bare_int; simp only [hl, hs, ht] <;> rfl
    have HR0 := Lib.hid hR0
    clear hR0
    go_enter Tryz.func233, Tryz.ntmps233
    go_wp2_with fail
    go_ret
    exact ⟨ret_bool HR0.out.symm, HB.out⟩
  have hR0 : R = true := by rw [HR.out]; unfold bare_int; simp only [hs, ht, hl] <;> rfl
  have HR0 := Lib.hid hR0
  clear hR0
  go_enter Tryz.func233, Tryz.ntmps233
  go_wp2_with fail
  go_ret
  exact ⟨ret_bool HR0.out.symm, HB.out⟩

def bare_atom (n : Int) (s t : ByteArray) (len : Nat) : Bool := (n == 0) && (t.toList.isEmpty) && ((len : Int) == 0)
set_option maxHeartbeats 2000000 in
set_option maxRecDepth 100000 in
theorem rbare_atom (k n : Int) (s t : ByteArray) (A : Option Addr) (len cap : Nat) (w : World) : Calls Tryz.prog 233 #[.agg #[(.int .i8 k), (.int .i64 n), (.string s), (.string t), (.slice A len cap)], .bool false, .bool true, .bool false, .bool false] w fun e w' => e = .returned (.bool (bare_atom n s t len)) ∧ Below w.heap.size w w' := by
  obtain ⟨R, hR⟩ : ∃ R, R = bare_atom n s t len := ⟨_, rfl⟩
  have HR := Lib.hid hR
  rw [← hR]
  clear hR
  obtain ⟨w1, hw1⟩ : ∃ w1, w1 = w.alloc (.cells #[(.int .i8 k), (.int .i64 n), (.string s), (.string t), (.slice A len cap)] 44) := ⟨_, rfl⟩
  have g1 : w1.heap[w.heap.size]? = some (.cells #[(.int .i8 k), (.int .i64 n), (.string s), (.string t), (.slice A len cap)] 44 (0, 0)) := by rw [hw1]; exact block_alloc _ _
  have hB : Below w.heap.size w w1 := by rw [hw1]; exact (Below.refl _ _).alloc (Nat.le_refl _) _
  have x0 : w1.cell? ⟨w.heap.size, 0, none⟩ = some (.int .i8 k) := cell_of_row g1 rfl
  have x1 : w1.cell? ⟨w.heap.size, 1, none⟩ = some (.int .i64 n) := cell_of_row g1 rfl
  have x2 : w1.cell? ⟨w.heap.size, 2, none⟩ = some (.string s) := cell_of_row g1 rfl
  have x3 : w1.cell? ⟨w.heap.size, 3, none⟩ = some (.string t) := cell_of_row g1 rfl
  have x4 : w1.cell? ⟨w.heap.size, 4, none⟩ = some (.slice A len cap) := cell_of_row g1 rfl
  have HB := Lib.hid hB
  clear hB g1
  subst hw1
  cases hn : (n == 0)
  case false =>
    have hR0 : R = false := by rw [HR.out]; unfold bare_atom; simp only [hn] <;> rfl
    have HR0 := Lib.hid hR0
    clear hR0
    go_enter Tryz.func233, Tryz.ntmps233
    go_wp2_with fail
    go_ret
    exact ⟨ret_bool HR0.out.symm, HB.out⟩
  cases ht : (t.toList.isEmpty)
  case false =>
    have t1 : (t.toList == []) = false := by cases h : t.toList <;> simp_all
    have t2 : ¬ (t.toList = []) := by simpa using ht
    have hR0 : R = false := by rw [HR.out]; unfold bare_atom; simp only [ht, hn] <;> rfl
    have HR0 := Lib.hid hR0
    clear hR0
    go_enter Tryz.func233, Tryz.ntmps233
    go_wp2_with fail
    go_ret
    exact ⟨ret_bool HR0.out.symm, HB.out⟩
  have t1 : (t.toList == []) = true := by cases h : t.toList <;> simp_all
  have t2 : (t.toList = []) := by simpa using ht
  cases hl : ((len : Int) == 0)
  case false =>
    have hR0 : R = false := by rw [HR.out]; unfold bare_atom; simp only [hl, hn, ht] <;> rfl
    have HR0 := Lib.hid hR0
    clear hR0
    go_enter Tryz.func233, Tryz.ntmps233
    go_wp2_with fail
    go_ret
    exact ⟨ret_bool HR0.out.symm, HB.out⟩
  have hR0 : R = true := by rw [HR.out]; unfold bare_atom; simp only [hn, ht, hl] <;> rfl
  have HR0 := Lib.hid hR0
  clear hR0
  go_enter Tryz.func233, Tryz.ntmps233
  go_wp2_with fail
  go_ret
  exact ⟨ret_bool HR0.out.symm, HB.out⟩

def bare_fun (n : Int) (s t : ByteArray) (len : Nat) : Bool := ((len : Int) == 0)
set_option maxHeartbeats 2000000 in
set_option maxRecDepth 100000 in
theorem rbare_fun (k n : Int) (s t : ByteArray) (A : Option Addr) (len cap : Nat) (w : World) : Calls Tryz.prog 233 #[.agg #[(.int .i8 k), (.int .i64 n), (.string s), (.string t), (.slice A len cap)], .bool true, .bool true, .bool true, .bool false] w fun e w' => e = .returned (.bool (bare_fun n s t len)) ∧ Below w.heap.size w w' := by
  obtain ⟨R, hR⟩ : ∃ R, R = bare_fun n s t len := ⟨_, rfl⟩
  have HR := Lib.hid hR
  rw [← hR]
  clear hR
  obtain ⟨w1, hw1⟩ : ∃ w1, w1 = w.alloc (.cells #[(.int .i8 k), (.int .i64 n), (.string s), (.string t), (.slice A len cap)] 44) := ⟨_, rfl⟩
  have g1 : w1.heap[w.heap.size]? = some (.cells #[(.int .i8 k), (.int .i64 n), (.string s), (.string t), (.slice A len cap)] 44 (0, 0)) := by rw [hw1]; exact block_alloc _ _
  have hB : Below w.heap.size w w1 := by rw [hw1]; exact (Below.refl _ _).alloc (Nat.le_refl _) _
  have x0 : w1.cell? ⟨w.heap.size, 0, none⟩ = some (.int .i8 k) := cell_of_row g1 rfl
  have x1 : w1.cell? ⟨w.heap.size, 1, none⟩ = some (.int .i64 n) := cell_of_row g1 rfl
  have x2 : w1.cell? ⟨w.heap.size, 2, none⟩ = some (.string s) := cell_of_row g1 rfl
  have x3 : w1.cell? ⟨w.heap.size, 3, none⟩ = some (.string t) := cell_of_row g1 rfl
  have x4 : w1.cell? ⟨w.heap.size, 4, none⟩ = some (.slice A len cap) := cell_of_row g1 rfl
  have HB := Lib.hid hB
  clear hB g1
  subst hw1
  cases hl : ((len : Int) == 0)
  case false =>
    have hR0 : R = false := by rw [HR.out]; unfold bare_fun; simp only [hl] <;> rfl
    have HR0 := Lib.hid hR0
    clear hR0
    go_enter Tryz.func233, Tryz.ntmps233
    go_wp2_with fail
    go_ret
    exact ⟨ret_bool HR0.out.symm, HB.out⟩
  have hR0 : R = true := by rw [HR.out]; unfold bare_fun; simp only [hl] <;> rfl
  have HR0 := Lib.hid hR0
  clear hR0
  go_enter Tryz.func233, Tryz.ntmps233
  go_wp2_with fail
  go_ret
  exact ⟨ret_bool HR0.out.symm, HB.out⟩

def bare_row (n : Int) (s t : ByteArray) (len : Nat) : Bool := (n == 0) && (s.toList.isEmpty) && (t.toList.isEmpty)
set_option maxHeartbeats 2000000 in
set_option maxRecDepth 100000 in
theorem rbare_row (k n : Int) (s t : ByteArray) (A : Option Addr) (len cap : Nat) (w : World) : Calls Tryz.prog 233 #[.agg #[(.int .i8 k), (.int .i64 n), (.string s), (.string t), (.slice A len cap)], .bool false, .bool false, .bool false, .bool true] w fun e w' => e = .returned (.bool (bare_row n s t len)) ∧ Below w.heap.size w w' := by
  obtain ⟨R, hR⟩ : ∃ R, R = bare_row n s t len := ⟨_, rfl⟩
  have HR := Lib.hid hR
  rw [← hR]
  clear hR
  obtain ⟨w1, hw1⟩ : ∃ w1, w1 = w.alloc (.cells #[(.int .i8 k), (.int .i64 n), (.string s), (.string t), (.slice A len cap)] 44) := ⟨_, rfl⟩
  have g1 : w1.heap[w.heap.size]? = some (.cells #[(.int .i8 k), (.int .i64 n), (.string s), (.string t), (.slice A len cap)] 44 (0, 0)) := by rw [hw1]; exact block_alloc _ _
  have hB : Below w.heap.size w w1 := by rw [hw1]; exact (Below.refl _ _).alloc (Nat.le_refl _) _
  have x0 : w1.cell? ⟨w.heap.size, 0, none⟩ = some (.int .i8 k) := cell_of_row g1 rfl
  have x1 : w1.cell? ⟨w.heap.size, 1, none⟩ = some (.int .i64 n) := cell_of_row g1 rfl
  have x2 : w1.cell? ⟨w.heap.size, 2, none⟩ = some (.string s) := cell_of_row g1 rfl
  have x3 : w1.cell? ⟨w.heap.size, 3, none⟩ = some (.string t) := cell_of_row g1 rfl
  have x4 : w1.cell? ⟨w.heap.size, 4, none⟩ = some (.slice A len cap) := cell_of_row g1 rfl
  have HB := Lib.hid hB
  clear hB g1
  subst hw1
  cases hn : (n == 0)
  case false =>
    have hR0 : R = false := by rw [HR.out]; unfold bare_row; simp only [hn] <;> rfl
    have HR0 := Lib.hid hR0
    clear hR0
    go_enter Tryz.func233, Tryz.ntmps233
    go_wp2_with fail
    go_ret
    exact ⟨ret_bool HR0.out.symm, HB.out⟩
  cases hs : (s.toList.isEmpty)
  case false =>
    have s1 : (s.toList == []) = false := by cases h : s.toList <;> simp_all
    have s2 : ¬ (s.toList = []) := by simpa using hs
    have hR0 : R = false := by rw [HR.out]; unfold bare_row; simp only [hs, hn] <;> rfl
    have HR0 := Lib.hid hR0
    clear hR0
    go_enter Tryz.func233, Tryz.ntmps233
    go_wp2_with fail
    go_ret
    exact ⟨ret_bool HR0.out.symm, HB.out⟩
  have s1 : (s.toList == []) = true := by cases h : s.toList <;> simp_all
  have s2 : (s.toList = []) := by simpa using hs
  cases ht : (t.toList.isEmpty)
  case false =>
    have t1 : (t.toList == []) = false := by cases h : t.toList <;> simp_all
    have t2 : ¬ (t.toList = []) := by simpa using ht
    have hR0 : R = false := by rw [HR.out]; unfold bare_row; simp only [ht, hn, hs] <;> rfl
    have HR0 := Lib.hid hR0
    clear hR0
    go_enter Tryz.func233, Tryz.ntmps233
    go_wp2_with fail
    go_ret
    exact ⟨ret_bool HR0.out.symm, HB.out⟩
  have t1 : (t.toList == []) = true := by cases h : t.toList <;> simp_all
  have t2 : (t.toList = []) := by simpa using ht
  have hR0 : R = true := by rw [HR.out]; unfold bare_row; simp only [hn, hs, ht] <;> rfl
  have HR0 := Lib.hid hR0
  clear hR0
  go_enter Tryz.func233, Tryz.ntmps233
  go_wp2_with fail
  go_ret
  exact ⟨ret_bool HR0.out.symm, HB.out⟩

def bare_nil (n : Int) (s t : ByteArray) (len : Nat) : Bool := (n == 0) && (s.toList.isEmpty) && (t.toList.isEmpty) && ((len : Int) == 0)
set_option maxHeartbeats 2000000 in
set_option maxRecDepth 100000 in
theorem rbare_nil (k n : Int) (s t : ByteArray) (A : Option Addr) (len cap : Nat) (w : World) : Calls Tryz.prog 233 #[.agg #[(.int .i8 k), (.int .i64 n), (.string s), (.string t), (.slice A len cap)], .bool false, .bool false, .bool false, .bool false] w fun e w' => e = .returned (.bool (bare_nil n s t len)) ∧ Below w.heap.size w w' := by
  obtain ⟨R, hR⟩ : ∃ R, R = bare_nil n s t len := ⟨_, rfl⟩
  have HR := Lib.hid hR
  rw [← hR]
  clear hR
  obtain ⟨w1, hw1⟩ : ∃ w1, w1 = w.alloc (.cells #[(.int .i8 k), (.int .i64 n), (.string s), (.string t), (.slice A len cap)] 44) := ⟨_, rfl⟩
  have g1 : w1.heap[w.heap.size]? = some (.cells #[(.int .i8 k), (.int .i64 n), (.string s), (.string t), (.slice A len cap)] 44 (0, 0)) := by rw [hw1]; exact block_alloc _ _
  have hB : Below w.heap.size w w1 := by rw [hw1]; exact (Below.refl _ _).alloc (Nat.le_refl _) _
  have x0 : w1.cell? ⟨w.heap.size, 0, none⟩ = some (.int .i8 k) := cell_of_row g1 rfl
  have x1 : w1.cell? ⟨w.heap.size, 1, none⟩ = some (.int .i64 n) := cell_of_row g1 rfl
  have x2 : w1.cell? ⟨w.heap.size, 2, none⟩ = some (.string s) := cell_of_row g1 rfl
  have x3 : w1.cell? ⟨w.heap.size, 3, none⟩ = some (.string t) := cell_of_row g1 rfl
  have x4 : w1.cell? ⟨w.heap.size, 4, none⟩ = some (.slice A len cap) := cell_of_row g1 rfl
  have HB := Lib.hid hB
  clear hB g1
  subst hw1
  cases hn : (n == 0)
  case false =>
    have hR0 : R = false := by rw [HR.out]; unfold bare_nil; simp only [hn] <;> rfl
    have HR0 := Lib.hid hR0
    clear hR0
    go_enter Tryz.func233, Tryz.ntmps233
    go_wp2_with fail
    go_ret
    exact ⟨ret_bool HR0.out.symm, HB.out⟩
  cases hs : (s.toList.isEmpty)
  case false =>
    have s1 : (s.toList == []) = false := by cases h : s.toList <;> simp_all
    have s2 : ¬ (s.toList = []) := by simpa using hs
    have hR0 : R = false := by rw [HR.out]; unfold bare_nil; simp only [hs, hn] <;> rfl
    have HR0 := Lib.hid hR0
    clear hR0
    go_enter Tryz.func233, Tryz.ntmps233
    go_wp2_with fail
    go_ret
    exact ⟨ret_bool HR0.out.symm, HB.out⟩
  have s1 : (s.toList == []) = true := by cases h : s.toList <;> simp_all
  have s2 : (s.toList = []) := by simpa using hs
  cases ht : (t.toList.isEmpty)
  case false =>
    have t1 : (t.toList == []) = false := by cases h : t.toList <;> simp_all
    have t2 : ¬ (t.toList = []) := by simpa using ht
    have hR0 : R = false := by rw [HR.out]; unfold bare_nil; simp only [ht, hn, hs] <;> rfl
    have HR0 := Lib.hid hR0
    clear hR0
    go_enter Tryz.func233, Tryz.ntmps233
    go_wp2_with fail
    go_ret
    exact ⟨ret_bool HR0.out.symm, HB.out⟩
  have t1 : (t.toList == []) = true := by cases h : t.toList <;> simp_all
  have t2 : (t.toList = []) := by simpa using ht
  cases hl : ((len : Int) == 0)
  case false =>
    have hR0 : R = false := by rw [HR.out]; unfold bare_nil; simp only [hl, hn, hs, ht] <;> rfl
    have HR0 := Lib.hid hR0
    clear hR0
    go_enter Tryz.func233, Tryz.ntmps233
    go_wp2_with fail
    go_ret
    exact ⟨ret_bool HR0.out.symm, HB.out⟩
  have hR0 : R = true := by rw [HR.out]; unfold bare_nil; simp only [hn, hs, ht, hl] <;> rfl
  have HR0 := Lib.hid hR0
  clear hR0
  go_enter Tryz.func233, Tryz.ntmps233
  go_wp2_with fail
  go_ret
  exact ⟨ret_bool HR0.out.symm, HB.out⟩
end Go.Proofs.YtkceoiaaiaomoaaGreatDoor
set_option linter.unusedVariables false
namespace Go.Proofs.YtkceoiaaiaomoaaGreatDoor
open Go.RowKit

set_option maxHeartbeats 4000000 in
set_option maxRecDepth 100000 in
theorem rone_0 (n : Int) (s t : ByteArray) (A : Option Addr) (len cap : Nat) (hsz : s.size ≤ maxLen) (htz : t.size ≤ maxLen) (w : World) : Calls Tryz.prog 194 #[.agg #[(.int .i8 0), (.int .i64 n), (.string s), (.string t), (.slice A len cap)]] w fun e w' => e = .returned (.bool (ok_integer n s t len)) ∧ Below w.heap.size w w' := by
  obtain ⟨R, hR⟩ : ∃ R, R = ok_integer n s t len := ⟨_, rfl⟩
  have HR := Lib.hid hR
  rw [← hR]
  clear hR
  obtain ⟨w1, hw1⟩ : ∃ w1, w1 = w.alloc (.cells #[(.int .i8 0), (.int .i64 n), (.string s), (.string t), (.slice A len cap)] 44) := ⟨_, rfl⟩
  have g1 : w1.heap[w.heap.size]? = some (.cells #[(.int .i8 0), (.int .i64 n), (.string s), (.string t), (.slice A len cap)] 44 (0, 0)) := by rw [hw1]; exact block_alloc _ _
  have hB : Below w.heap.size w w1 := by rw [hw1]; exact (Below.refl _ _).alloc (Nat.le_refl _) _
  have x0 : w1.cell? ⟨w.heap.size, 0, none⟩ = some (.int .i8 0) := cell_of_row g1 rfl
  have x1 : w1.cell? ⟨w.heap.size, 1, none⟩ = some (.int .i64 n) := cell_of_row g1 rfl
  have x2 : w1.cell? ⟨w.heap.size, 2, none⟩ = some (.string s) := cell_of_row g1 rfl
  have x3 : w1.cell? ⟨w.heap.size, 3, none⟩ = some (.string t) := cell_of_row g1 rfl
  have x4 : w1.cell? ⟨w.heap.size, 4, none⟩ = some (.slice A len cap) := cell_of_row g1 rfl
  have HBA := Lib.hid (rbare_int 0 n s t A len cap w1)
  have HB := Lib.hid hB
  have HG := Lib.hid g1
  clear hB g1 hsz htz
  subst hw1
  cases hb : bare_int n s t len
  case false =>
    have hR0 : R = false := by
      rw [HR.out]
      unfold ok_integer; unfold bare_int at hb
      rw [← Bool.not_eq_true] at hb ⊢
      intro hh
      apply hb
      simp only [Bool.and_eq_true] at hh ⊢
      simp [hh]
    have HR0 := Lib.hid hR0
    have HBB := Lib.hid hb
    clear hR0 hb
    go_enter Tryz.func194, Tryz.ntmps194
    go_wp2_with fail
    refine HBA.out.mono ?_
    rintro e V1 ⟨rfl, b1⟩
    rw [HBB.out]
    have HB1 := Lib.hid (HB.out.trans (b1.mono HB.out.size))
    have g2 := (b1.block _ (heap_lt HG.out)).trans HG.out
    have y0 : V1.cell? ⟨w.heap.size, 0, none⟩ = some (.int .i8 0) := cell_of_row g2 rfl
    have y1 : V1.cell? ⟨w.heap.size, 1, none⟩ = some (.int .i64 n) := cell_of_row g2 rfl
    have y2 : V1.cell? ⟨w.heap.size, 2, none⟩ = some (.string s) := cell_of_row g2 rfl
    have y3 : V1.cell? ⟨w.heap.size, 3, none⟩ = some (.string t) := cell_of_row g2 rfl
    have y4 : V1.cell? ⟨w.heap.size, 4, none⟩ = some (.slice A len cap) := cell_of_row g2 rfl
    clear b1 g2 x0 x1 x2 x3 x4
    go_wp2_with fail
    go_ret
    exact ⟨ret_bool HR0.out.symm, HB1.out⟩
  case true =>
    cases c0 : mayB n
    case false =>
      have hR0 : R = false := by
        rw [HR.out]
        unfold ok_integer; unfold bare_int at hb
        (try simp only [Bool.and_eq_true] at hb)
        simp [hb, c0]
      have HR0 := Lib.hid hR0
      have HBB := Lib.hid hb
      clear hR0 hb
      have HC0 := Lib.hid c0
      clear c0
      go_enter Tryz.func194, Tryz.ntmps194
      go_wp2_with fail
      refine HBA.out.mono ?_
      rintro e V1 ⟨rfl, b1⟩
      rw [HBB.out]
      have HB1 := Lib.hid (HB.out.trans (b1.mono HB.out.size))
      have g2 := (b1.block _ (heap_lt HG.out)).trans HG.out
      have y0 : V1.cell? ⟨w.heap.size, 0, none⟩ = some (.int .i8 0) := cell_of_row g2 rfl
      have y1 : V1.cell? ⟨w.heap.size, 1, none⟩ = some (.int .i64 n) := cell_of_row g2 rfl
      have y2 : V1.cell? ⟨w.heap.size, 2, none⟩ = some (.string s) := cell_of_row g2 rfl
      have y3 : V1.cell? ⟨w.heap.size, 3, none⟩ = some (.string t) := cell_of_row g2 rfl
      have y4 : V1.cell? ⟨w.heap.size, 4, none⟩ = some (.slice A len cap) := cell_of_row g2 rfl
      clear b1 g2 x0 x1 x2 x3 x4
      go_wp2_with fail
      refine (r1May_any _ _).mono ?_
      rintro e V2 ⟨rfl, rfl⟩
      rw [HC0.out]
      go_wp2_with fail
      go_ret
      first | exact ⟨ret_bool HR0.out.symm, HB1.out⟩ | exact ⟨ret_bool (by rw [HR0.out]; simp; omega), HB1.out⟩
    case true =>
      have hR0 : R = true := by
        rw [HR.out]
        unfold ok_integer; unfold bare_int at hb
        (try simp only [Bool.and_eq_true] at hb)
        simp [hb, c0]
      have HR0 := Lib.hid hR0
      have HBB := Lib.hid hb
      clear hR0 hb
      have HC0 := Lib.hid c0
      clear c0
      go_enter Tryz.func194, Tryz.ntmps194
      go_wp2_with fail
      refine HBA.out.mono ?_
      rintro e V1 ⟨rfl, b1⟩
      rw [HBB.out]
      have HB1 := Lib.hid (HB.out.trans (b1.mono HB.out.size))
      have g2 := (b1.block _ (heap_lt HG.out)).trans HG.out
      have y0 : V1.cell? ⟨w.heap.size, 0, none⟩ = some (.int .i8 0) := cell_of_row g2 rfl
      have y1 : V1.cell? ⟨w.heap.size, 1, none⟩ = some (.int .i64 n) := cell_of_row g2 rfl
      have y2 : V1.cell? ⟨w.heap.size, 2, none⟩ = some (.string s) := cell_of_row g2 rfl
      have y3 : V1.cell? ⟨w.heap.size, 3, none⟩ = some (.string t) := cell_of_row g2 rfl
      have y4 : V1.cell? ⟨w.heap.size, 4, none⟩ = some (.slice A len cap) := cell_of_row g2 rfl
      clear b1 g2 x0 x1 x2 x3 x4
      go_wp2_with fail
      refine (r1May_any _ _).mono ?_
      rintro e V2 ⟨rfl, rfl⟩
      rw [HC0.out]
      go_wp2_with fail
      go_ret
      first | exact ⟨ret_bool HR0.out.symm, HB1.out⟩ | exact ⟨ret_bool (by rw [HR0.out]; simp; omega), HB1.out⟩

set_option maxHeartbeats 4000000 in
set_option maxRecDepth 100000 in
theorem rone_1 (n : Int) (s t : ByteArray) (A : Option Addr) (len cap : Nat) (hsz : s.size ≤ maxLen) (htz : t.size ≤ maxLen) (w : World) : Calls Tryz.prog 194 #[.agg #[(.int .i8 1), (.int .i64 n), (.string s), (.string t), (.slice A len cap)]] w fun e w' => e = .returned (.bool (ok_atom n s t len)) ∧ Below w.heap.size w w' := by
  obtain ⟨R, hR⟩ : ∃ R, R = ok_atom n s t len := ⟨_, rfl⟩
  have HR := Lib.hid hR
  rw [← hR]
  clear hR
  obtain ⟨w1, hw1⟩ : ∃ w1, w1 = w.alloc (.cells #[(.int .i8 1), (.int .i64 n), (.string s), (.string t), (.slice A len cap)] 44) := ⟨_, rfl⟩
  have g1 : w1.heap[w.heap.size]? = some (.cells #[(.int .i8 1), (.int .i64 n), (.string s), (.string t), (.slice A len cap)] 44 (0, 0)) := by rw [hw1]; exact block_alloc _ _
  have hB : Below w.heap.size w w1 := by rw [hw1]; exact (Below.refl _ _).alloc (Nat.le_refl _) _
  have x0 : w1.cell? ⟨w.heap.size, 0, none⟩ = some (.int .i8 1) := cell_of_row g1 rfl
  have x1 : w1.cell? ⟨w.heap.size, 1, none⟩ = some (.int .i64 n) := cell_of_row g1 rfl
  have x2 : w1.cell? ⟨w.heap.size, 2, none⟩ = some (.string s) := cell_of_row g1 rfl
  have x3 : w1.cell? ⟨w.heap.size, 3, none⟩ = some (.string t) := cell_of_row g1 rfl
  have x4 : w1.cell? ⟨w.heap.size, 4, none⟩ = some (.slice A len cap) := cell_of_row g1 rfl
  have HBA := Lib.hid (rbare_atom 1 n s t A len cap w1)
  have HB := Lib.hid hB
  have HG := Lib.hid g1
  have HN0 := Lib.hid (fun V => rMay_any s V hsz)
  clear hB g1 hsz htz
  subst hw1
  cases hb : bare_atom n s t len
  case false =>
    have hR0 : R = false := by
      rw [HR.out]
      unfold ok_atom; unfold bare_atom at hb
      rw [← Bool.not_eq_true] at hb ⊢
      intro hh
      apply hb
      simp only [Bool.and_eq_true] at hh ⊢
      simp [hh]
    have HR0 := Lib.hid hR0
    have HBB := Lib.hid hb
    clear hR0 hb
    go_enter Tryz.func194, Tryz.ntmps194
    go_wp2_with fail
    refine HBA.out.mono ?_
    rintro e V1 ⟨rfl, b1⟩
    rw [HBB.out]
    have HB1 := Lib.hid (HB.out.trans (b1.mono HB.out.size))
    have g2 := (b1.block _ (heap_lt HG.out)).trans HG.out
    have y0 : V1.cell? ⟨w.heap.size, 0, none⟩ = some (.int .i8 1) := cell_of_row g2 rfl
    have y1 : V1.cell? ⟨w.heap.size, 1, none⟩ = some (.int .i64 n) := cell_of_row g2 rfl
    have y2 : V1.cell? ⟨w.heap.size, 2, none⟩ = some (.string s) := cell_of_row g2 rfl
    have y3 : V1.cell? ⟨w.heap.size, 3, none⟩ = some (.string t) := cell_of_row g2 rfl
    have y4 : V1.cell? ⟨w.heap.size, 4, none⟩ = some (.slice A len cap) := cell_of_row g2 rfl
    clear b1 g2 x0 x1 x2 x3 x4
    go_wp2_with fail
    go_ret
    exact ⟨ret_bool HR0.out.symm, HB1.out⟩
  case true =>
    cases c0 : nameB s 2
    case false =>
      have hR0 : R = false := by
        rw [HR.out]
        unfold ok_atom; unfold bare_atom at hb
        (try simp only [Bool.and_eq_true] at hb)
        simp [hb, c0]
      have HR0 := Lib.hid hR0
      have HBB := Lib.hid hb
      clear hR0 hb
      have HC0 := Lib.hid c0
      clear c0
      go_enter Tryz.func194, Tryz.ntmps194
      go_wp2_with fail
      refine HBA.out.mono ?_
      rintro e V1 ⟨rfl, b1⟩
      rw [HBB.out]
      have HB1 := Lib.hid (HB.out.trans (b1.mono HB.out.size))
      have g2 := (b1.block _ (heap_lt HG.out)).trans HG.out
      have y0 : V1.cell? ⟨w.heap.size, 0, none⟩ = some (.int .i8 1) := cell_of_row g2 rfl
      have y1 : V1.cell? ⟨w.heap.size, 1, none⟩ = some (.int .i64 n) := cell_of_row g2 rfl
      have y2 : V1.cell? ⟨w.heap.size, 2, none⟩ = some (.string s) := cell_of_row g2 rfl
      have y3 : V1.cell? ⟨w.heap.size, 3, none⟩ = some (.string t) := cell_of_row g2 rfl
      have y4 : V1.cell? ⟨w.heap.size, 4, none⟩ = some (.slice A len cap) := cell_of_row g2 rfl
      clear b1 g2 x0 x1 x2 x3 x4
      go_wp2_with fail
      refine (HN0.out _).mono ?_
      rintro e V2 ⟨rfl, rfl⟩
      rw [HC0.out]
      go_wp2_with fail
      go_ret
      first | exact ⟨ret_bool HR0.out.symm, HB1.out⟩ | exact ⟨ret_bool (by rw [HR0.out]; simp; omega), HB1.out⟩
    case true =>
      have hR0 : R = true := by
        rw [HR.out]
        unfold ok_atom; unfold bare_atom at hb
        (try simp only [Bool.and_eq_true] at hb)
        simp [hb, c0]
      have HR0 := Lib.hid hR0
      have HBB := Lib.hid hb
      clear hR0 hb
      have HC0 := Lib.hid c0
      clear c0
      go_enter Tryz.func194, Tryz.ntmps194
      go_wp2_with fail
      refine HBA.out.mono ?_
      rintro e V1 ⟨rfl, b1⟩
      rw [HBB.out]
      have HB1 := Lib.hid (HB.out.trans (b1.mono HB.out.size))
      have g2 := (b1.block _ (heap_lt HG.out)).trans HG.out
      have y0 : V1.cell? ⟨w.heap.size, 0, none⟩ = some (.int .i8 1) := cell_of_row g2 rfl
      have y1 : V1.cell? ⟨w.heap.size, 1, none⟩ = some (.int .i64 n) := cell_of_row g2 rfl
      have y2 : V1.cell? ⟨w.heap.size, 2, none⟩ = some (.string s) := cell_of_row g2 rfl
      have y3 : V1.cell? ⟨w.heap.size, 3, none⟩ = some (.string t) := cell_of_row g2 rfl
      have y4 : V1.cell? ⟨w.heap.size, 4, none⟩ = some (.slice A len cap) := cell_of_row g2 rfl
      clear b1 g2 x0 x1 x2 x3 x4
      go_wp2_with fail
      refine (HN0.out _).mono ?_
      rintro e V2 ⟨rfl, rfl⟩
      rw [HC0.out]
      go_wp2_with fail
      go_ret
      first | exact ⟨ret_bool HR0.out.symm, HB1.out⟩ | exact ⟨ret_bool (by rw [HR0.out]; simp; omega), HB1.out⟩

set_option maxHeartbeats 4000000 in
set_option maxRecDepth 100000 in
theorem rone_2 (n : Int) (s t : ByteArray) (A : Option Addr) (len cap : Nat) (hsz : s.size ≤ maxLen) (htz : t.size ≤ maxLen) (w : World) : Calls Tryz.prog 194 #[.agg #[(.int .i8 2), (.int .i64 n), (.string s), (.string t), (.slice A len cap)]] w fun e w' => e = .returned (.bool (ok_ref n s t len)) ∧ Below w.heap.size w w' := by
  obtain ⟨R, hR⟩ : ∃ R, R = ok_ref n s t len := ⟨_, rfl⟩
  have HR := Lib.hid hR
  rw [← hR]
  clear hR
  obtain ⟨w1, hw1⟩ : ∃ w1, w1 = w.alloc (.cells #[(.int .i8 2), (.int .i64 n), (.string s), (.string t), (.slice A len cap)] 44) := ⟨_, rfl⟩
  have g1 : w1.heap[w.heap.size]? = some (.cells #[(.int .i8 2), (.int .i64 n), (.string s), (.string t), (.slice A len cap)] 44 (0, 0)) := by rw [hw1]; exact block_alloc _ _
  have hB : Below w.heap.size w w1 := by rw [hw1]; exact (Below.refl _ _).alloc (Nat.le_refl _) _
  have x0 : w1.cell? ⟨w.heap.size, 0, none⟩ = some (.int .i8 2) := cell_of_row g1 rfl
  have x1 : w1.cell? ⟨w.heap.size, 1, none⟩ = some (.int .i64 n) := cell_of_row g1 rfl
  have x2 : w1.cell? ⟨w.heap.size, 2, none⟩ = some (.string s) := cell_of_row g1 rfl
  have x3 : w1.cell? ⟨w.heap.size, 3, none⟩ = some (.string t) := cell_of_row g1 rfl
  have x4 : w1.cell? ⟨w.heap.size, 4, none⟩ = some (.slice A len cap) := cell_of_row g1 rfl
  have HBA := Lib.hid (rbare_int 2 n s t A len cap w1)
  have HB := Lib.hid hB
  have HG := Lib.hid g1
  clear hB g1 hsz htz
  subst hw1
  cases hb : bare_int n s t len
  case false =>
    have hR0 : R = false := by
      rw [HR.out]
      unfold ok_ref; unfold bare_int at hb
      rw [← Bool.not_eq_true] at hb ⊢
      intro hh
      apply hb
      simp only [Bool.and_eq_true] at hh ⊢
      simp [hh]
    have HR0 := Lib.hid hR0
    have HBB := Lib.hid hb
    clear hR0 hb
    go_enter Tryz.func194, Tryz.ntmps194
    go_wp2_with fail
    refine HBA.out.mono ?_
    rintro e V1 ⟨rfl, b1⟩
    rw [HBB.out]
    have HB1 := Lib.hid (HB.out.trans (b1.mono HB.out.size))
    have g2 := (b1.block _ (heap_lt HG.out)).trans HG.out
    have y0 : V1.cell? ⟨w.heap.size, 0, none⟩ = some (.int .i8 2) := cell_of_row g2 rfl
    have y1 : V1.cell? ⟨w.heap.size, 1, none⟩ = some (.int .i64 n) := cell_of_row g2 rfl
    have y2 : V1.cell? ⟨w.heap.size, 2, none⟩ = some (.string s) := cell_of_row g2 rfl
    have y3 : V1.cell? ⟨w.heap.size, 3, none⟩ = some (.string t) := cell_of_row g2 rfl
    have y4 : V1.cell? ⟨w.heap.size, 4, none⟩ = some (.slice A len cap) := cell_of_row g2 rfl
    clear b1 g2 x0 x1 x2 x3 x4
    go_wp2_with fail
    go_ret
    exact ⟨ret_bool HR0.out.symm, HB1.out⟩
  case true =>
    by_cases p0 : 0 ≤ n
    case neg =>
      have hR0 : R = false := by
        rw [HR.out]
        unfold ok_ref; unfold bare_int at hb
        (try simp only [Bool.and_eq_true] at hb)
        simp [hb, p0, pidB]
      have HR0 := Lib.hid hR0
      have HBB := Lib.hid hb
      clear hR0 hb
      go_enter Tryz.func194, Tryz.ntmps194
      go_wp2_with fail
      refine HBA.out.mono ?_
      rintro e V1 ⟨rfl, b1⟩
      rw [HBB.out]
      have HB1 := Lib.hid (HB.out.trans (b1.mono HB.out.size))
      have g2 := (b1.block _ (heap_lt HG.out)).trans HG.out
      have y0 : V1.cell? ⟨w.heap.size, 0, none⟩ = some (.int .i8 2) := cell_of_row g2 rfl
      have y1 : V1.cell? ⟨w.heap.size, 1, none⟩ = some (.int .i64 n) := cell_of_row g2 rfl
      have y2 : V1.cell? ⟨w.heap.size, 2, none⟩ = some (.string s) := cell_of_row g2 rfl
      have y3 : V1.cell? ⟨w.heap.size, 3, none⟩ = some (.string t) := cell_of_row g2 rfl
      have y4 : V1.cell? ⟨w.heap.size, 4, none⟩ = some (.slice A len cap) := cell_of_row g2 rfl
      clear b1 g2 x0 x1 x2 x3 x4
      go_wp2_with fail
      go_ret
      first | exact ⟨ret_bool HR0.out.symm, HB1.out⟩ | exact ⟨ret_bool (by rw [HR0.out]; simp; omega), HB1.out⟩
    case pos =>
      by_cases p1 : n ≤ 576460752303423487
      case neg =>
        have hR0 : R = false := by
          rw [HR.out]
          unfold ok_ref; unfold bare_int at hb
          (try simp only [Bool.and_eq_true] at hb)
          simp [hb, p0, pidB, p1, pidB]
        have HR0 := Lib.hid hR0
        have HBB := Lib.hid hb
        clear hR0 hb
        go_enter Tryz.func194, Tryz.ntmps194
        go_wp2_with fail
        refine HBA.out.mono ?_
        rintro e V1 ⟨rfl, b1⟩
        rw [HBB.out]
        have HB1 := Lib.hid (HB.out.trans (b1.mono HB.out.size))
        have g2 := (b1.block _ (heap_lt HG.out)).trans HG.out
        have y0 : V1.cell? ⟨w.heap.size, 0, none⟩ = some (.int .i8 2) := cell_of_row g2 rfl
        have y1 : V1.cell? ⟨w.heap.size, 1, none⟩ = some (.int .i64 n) := cell_of_row g2 rfl
        have y2 : V1.cell? ⟨w.heap.size, 2, none⟩ = some (.string s) := cell_of_row g2 rfl
        have y3 : V1.cell? ⟨w.heap.size, 3, none⟩ = some (.string t) := cell_of_row g2 rfl
        have y4 : V1.cell? ⟨w.heap.size, 4, none⟩ = some (.slice A len cap) := cell_of_row g2 rfl
        clear b1 g2 x0 x1 x2 x3 x4
        go_wp2_with fail
        go_ret
        first | exact ⟨ret_bool HR0.out.symm, HB1.out⟩ | exact ⟨ret_bool (by rw [HR0.out]; simp; omega), HB1.out⟩
      case pos =>
        have hR0 : R = true := by
          rw [HR.out]
          unfold ok_ref; unfold bare_int at hb
          (try simp only [Bool.and_eq_true] at hb)
          simp [hb, p0, pidB, p1, pidB]
        have HR0 := Lib.hid hR0
        have HBB := Lib.hid hb
        clear hR0 hb
        go_enter Tryz.func194, Tryz.ntmps194
        go_wp2_with fail
        refine HBA.out.mono ?_
        rintro e V1 ⟨rfl, b1⟩
        rw [HBB.out]
        have HB1 := Lib.hid (HB.out.trans (b1.mono HB.out.size))
        have g2 := (b1.block _ (heap_lt HG.out)).trans HG.out
        have y0 : V1.cell? ⟨w.heap.size, 0, none⟩ = some (.int .i8 2) := cell_of_row g2 rfl
        have y1 : V1.cell? ⟨w.heap.size, 1, none⟩ = some (.int .i64 n) := cell_of_row g2 rfl
        have y2 : V1.cell? ⟨w.heap.size, 2, none⟩ = some (.string s) := cell_of_row g2 rfl
        have y3 : V1.cell? ⟨w.heap.size, 3, none⟩ = some (.string t) := cell_of_row g2 rfl
        have y4 : V1.cell? ⟨w.heap.size, 4, none⟩ = some (.slice A len cap) := cell_of_row g2 rfl
        clear b1 g2 x0 x1 x2 x3 x4
        go_wp2_with fail
        go_ret
        first | exact ⟨ret_bool HR0.out.symm, HB1.out⟩ | exact ⟨ret_bool (by rw [HR0.out]; simp; omega), HB1.out⟩

set_option maxHeartbeats 4000000 in
set_option maxRecDepth 100000 in
theorem rone_4 (n : Int) (s t : ByteArray) (A : Option Addr) (len cap : Nat) (hsz : s.size ≤ maxLen) (htz : t.size ≤ maxLen) (w : World) : Calls Tryz.prog 194 #[.agg #[(.int .i8 4), (.int .i64 n), (.string s), (.string t), (.slice A len cap)]] w fun e w' => e = .returned (.bool (ok_pid n s t len)) ∧ Below w.heap.size w w' := by
  obtain ⟨R, hR⟩ : ∃ R, R = ok_pid n s t len := ⟨_, rfl⟩
  have HR := Lib.hid hR
  rw [← hR]
  clear hR
  obtain ⟨w1, hw1⟩ : ∃ w1, w1 = w.alloc (.cells #[(.int .i8 4), (.int .i64 n), (.string s), (.string t), (.slice A len cap)] 44) := ⟨_, rfl⟩
  have g1 : w1.heap[w.heap.size]? = some (.cells #[(.int .i8 4), (.int .i64 n), (.string s), (.string t), (.slice A len cap)] 44 (0, 0)) := by rw [hw1]; exact block_alloc _ _
  have hB : Below w.heap.size w w1 := by rw [hw1]; exact (Below.refl _ _).alloc (Nat.le_refl _) _
  have x0 : w1.cell? ⟨w.heap.size, 0, none⟩ = some (.int .i8 4) := cell_of_row g1 rfl
  have x1 : w1.cell? ⟨w.heap.size, 1, none⟩ = some (.int .i64 n) := cell_of_row g1 rfl
  have x2 : w1.cell? ⟨w.heap.size, 2, none⟩ = some (.string s) := cell_of_row g1 rfl
  have x3 : w1.cell? ⟨w.heap.size, 3, none⟩ = some (.string t) := cell_of_row g1 rfl
  have x4 : w1.cell? ⟨w.heap.size, 4, none⟩ = some (.slice A len cap) := cell_of_row g1 rfl
  have HBA := Lib.hid (rbare_int 4 n s t A len cap w1)
  have HB := Lib.hid hB
  have HG := Lib.hid g1
  clear hB g1 hsz htz
  subst hw1
  cases hb : bare_int n s t len
  case false =>
    have hR0 : R = false := by
      rw [HR.out]
      unfold ok_pid; unfold bare_int at hb
      rw [← Bool.not_eq_true] at hb ⊢
      intro hh
      apply hb
      simp only [Bool.and_eq_true] at hh ⊢
      simp [hh]
    have HR0 := Lib.hid hR0
    have HBB := Lib.hid hb
    clear hR0 hb
    go_enter Tryz.func194, Tryz.ntmps194
    go_wp2_with fail
    refine HBA.out.mono ?_
    rintro e V1 ⟨rfl, b1⟩
    rw [HBB.out]
    have HB1 := Lib.hid (HB.out.trans (b1.mono HB.out.size))
    have g2 := (b1.block _ (heap_lt HG.out)).trans HG.out
    have y0 : V1.cell? ⟨w.heap.size, 0, none⟩ = some (.int .i8 4) := cell_of_row g2 rfl
    have y1 : V1.cell? ⟨w.heap.size, 1, none⟩ = some (.int .i64 n) := cell_of_row g2 rfl
    have y2 : V1.cell? ⟨w.heap.size, 2, none⟩ = some (.string s) := cell_of_row g2 rfl
    have y3 : V1.cell? ⟨w.heap.size, 3, none⟩ = some (.string t) := cell_of_row g2 rfl
    have y4 : V1.cell? ⟨w.heap.size, 4, none⟩ = some (.slice A len cap) := cell_of_row g2 rfl
    clear b1 g2 x0 x1 x2 x3 x4
    go_wp2_with fail
    go_ret
    exact ⟨ret_bool HR0.out.symm, HB1.out⟩
  case true =>
    by_cases p0 : 0 ≤ n
    case neg =>
      have hR0 : R = false := by
        rw [HR.out]
        unfold ok_pid; unfold bare_int at hb
        (try simp only [Bool.and_eq_true] at hb)
        simp [hb, p0, pidB]
      have HR0 := Lib.hid hR0
      have HBB := Lib.hid hb
      clear hR0 hb
      go_enter Tryz.func194, Tryz.ntmps194
      go_wp2_with fail
      refine HBA.out.mono ?_
      rintro e V1 ⟨rfl, b1⟩
      rw [HBB.out]
      have HB1 := Lib.hid (HB.out.trans (b1.mono HB.out.size))
      have g2 := (b1.block _ (heap_lt HG.out)).trans HG.out
      have y0 : V1.cell? ⟨w.heap.size, 0, none⟩ = some (.int .i8 4) := cell_of_row g2 rfl
      have y1 : V1.cell? ⟨w.heap.size, 1, none⟩ = some (.int .i64 n) := cell_of_row g2 rfl
      have y2 : V1.cell? ⟨w.heap.size, 2, none⟩ = some (.string s) := cell_of_row g2 rfl
      have y3 : V1.cell? ⟨w.heap.size, 3, none⟩ = some (.string t) := cell_of_row g2 rfl
      have y4 : V1.cell? ⟨w.heap.size, 4, none⟩ = some (.slice A len cap) := cell_of_row g2 rfl
      clear b1 g2 x0 x1 x2 x3 x4
      go_wp2_with fail
      go_ret
      first | exact ⟨ret_bool HR0.out.symm, HB1.out⟩ | exact ⟨ret_bool (by rw [HR0.out]; simp; omega), HB1.out⟩
    case pos =>
      by_cases p1 : n ≤ 576460752303423487
      case neg =>
        have hR0 : R = false := by
          rw [HR.out]
          unfold ok_pid; unfold bare_int at hb
          (try simp only [Bool.and_eq_true] at hb)
          simp [hb, p0, pidB, p1, pidB]
        have HR0 := Lib.hid hR0
        have HBB := Lib.hid hb
        clear hR0 hb
        go_enter Tryz.func194, Tryz.ntmps194
        go_wp2_with fail
        refine HBA.out.mono ?_
        rintro e V1 ⟨rfl, b1⟩
        rw [HBB.out]
        have HB1 := Lib.hid (HB.out.trans (b1.mono HB.out.size))
        have g2 := (b1.block _ (heap_lt HG.out)).trans HG.out
        have y0 : V1.cell? ⟨w.heap.size, 0, none⟩ = some (.int .i8 4) := cell_of_row g2 rfl
        have y1 : V1.cell? ⟨w.heap.size, 1, none⟩ = some (.int .i64 n) := cell_of_row g2 rfl
        have y2 : V1.cell? ⟨w.heap.size, 2, none⟩ = some (.string s) := cell_of_row g2 rfl
        have y3 : V1.cell? ⟨w.heap.size, 3, none⟩ = some (.string t) := cell_of_row g2 rfl
        have y4 : V1.cell? ⟨w.heap.size, 4, none⟩ = some (.slice A len cap) := cell_of_row g2 rfl
        clear b1 g2 x0 x1 x2 x3 x4
        go_wp2_with fail
        go_ret
        first | exact ⟨ret_bool HR0.out.symm, HB1.out⟩ | exact ⟨ret_bool (by rw [HR0.out]; simp; omega), HB1.out⟩
      case pos =>
        have hR0 : R = true := by
          rw [HR.out]
          unfold ok_pid; unfold bare_int at hb
          (try simp only [Bool.and_eq_true] at hb)
          simp [hb, p0, pidB, p1, pidB]
        have HR0 := Lib.hid hR0
        have HBB := Lib.hid hb
        clear hR0 hb
        go_enter Tryz.func194, Tryz.ntmps194
        go_wp2_with fail
        refine HBA.out.mono ?_
        rintro e V1 ⟨rfl, b1⟩
        rw [HBB.out]
        have HB1 := Lib.hid (HB.out.trans (b1.mono HB.out.size))
        have g2 := (b1.block _ (heap_lt HG.out)).trans HG.out
        have y0 : V1.cell? ⟨w.heap.size, 0, none⟩ = some (.int .i8 4) := cell_of_row g2 rfl
        have y1 : V1.cell? ⟨w.heap.size, 1, none⟩ = some (.int .i64 n) := cell_of_row g2 rfl
        have y2 : V1.cell? ⟨w.heap.size, 2, none⟩ = some (.string s) := cell_of_row g2 rfl
        have y3 : V1.cell? ⟨w.heap.size, 3, none⟩ = some (.string t) := cell_of_row g2 rfl
        have y4 : V1.cell? ⟨w.heap.size, 4, none⟩ = some (.slice A len cap) := cell_of_row g2 rfl
        clear b1 g2 x0 x1 x2 x3 x4
        go_wp2_with fail
        go_ret
        first | exact ⟨ret_bool HR0.out.symm, HB1.out⟩ | exact ⟨ret_bool (by rw [HR0.out]; simp; omega), HB1.out⟩

set_option maxHeartbeats 4000000 in
set_option maxRecDepth 100000 in
theorem rone_3 (n : Int) (s t : ByteArray) (A : Option Addr) (len cap : Nat) (hsz : s.size ≤ maxLen) (htz : t.size ≤ maxLen) (w : World) : Calls Tryz.prog 194 #[.agg #[(.int .i8 3), (.int .i64 n), (.string s), (.string t), (.slice A len cap)]] w fun e w' => e = .returned (.bool (ok_fun n s t len)) ∧ Below w.heap.size w w' := by
  obtain ⟨R, hR⟩ : ∃ R, R = ok_fun n s t len := ⟨_, rfl⟩
  have HR := Lib.hid hR
  rw [← hR]
  clear hR
  obtain ⟨w1, hw1⟩ : ∃ w1, w1 = w.alloc (.cells #[(.int .i8 3), (.int .i64 n), (.string s), (.string t), (.slice A len cap)] 44) := ⟨_, rfl⟩
  have g1 : w1.heap[w.heap.size]? = some (.cells #[(.int .i8 3), (.int .i64 n), (.string s), (.string t), (.slice A len cap)] 44 (0, 0)) := by rw [hw1]; exact block_alloc _ _
  have hB : Below w.heap.size w w1 := by rw [hw1]; exact (Below.refl _ _).alloc (Nat.le_refl _) _
  have x0 : w1.cell? ⟨w.heap.size, 0, none⟩ = some (.int .i8 3) := cell_of_row g1 rfl
  have x1 : w1.cell? ⟨w.heap.size, 1, none⟩ = some (.int .i64 n) := cell_of_row g1 rfl
  have x2 : w1.cell? ⟨w.heap.size, 2, none⟩ = some (.string s) := cell_of_row g1 rfl
  have x3 : w1.cell? ⟨w.heap.size, 3, none⟩ = some (.string t) := cell_of_row g1 rfl
  have x4 : w1.cell? ⟨w.heap.size, 4, none⟩ = some (.slice A len cap) := cell_of_row g1 rfl
  have HBA := Lib.hid (rbare_fun 3 n s t A len cap w1)
  have HB := Lib.hid hB
  have HG := Lib.hid g1
  have HN0 := Lib.hid (fun V => rMay_any s V hsz)
  have HN1 := Lib.hid (fun V => rMay_any t V htz)
  clear hB g1 hsz htz
  subst hw1
  cases hb : bare_fun n s t len
  case false =>
    have hR0 : R = false := by
      rw [HR.out]
      unfold ok_fun; unfold bare_fun at hb
      rw [← Bool.not_eq_true] at hb ⊢
      intro hh
      apply hb
      simp only [Bool.and_eq_true] at hh ⊢
      simp [hh]
    have HR0 := Lib.hid hR0
    have HBB := Lib.hid hb
    clear hR0 hb
    go_enter Tryz.func194, Tryz.ntmps194
    go_wp2_with fail
    refine HBA.out.mono ?_
    rintro e V1 ⟨rfl, b1⟩
    rw [HBB.out]
    have HB1 := Lib.hid (HB.out.trans (b1.mono HB.out.size))
    have g2 := (b1.block _ (heap_lt HG.out)).trans HG.out
    have y0 : V1.cell? ⟨w.heap.size, 0, none⟩ = some (.int .i8 3) := cell_of_row g2 rfl
    have y1 : V1.cell? ⟨w.heap.size, 1, none⟩ = some (.int .i64 n) := cell_of_row g2 rfl
    have y2 : V1.cell? ⟨w.heap.size, 2, none⟩ = some (.string s) := cell_of_row g2 rfl
    have y3 : V1.cell? ⟨w.heap.size, 3, none⟩ = some (.string t) := cell_of_row g2 rfl
    have y4 : V1.cell? ⟨w.heap.size, 4, none⟩ = some (.slice A len cap) := cell_of_row g2 rfl
    clear b1 g2 x0 x1 x2 x3 x4
    go_wp2_with fail
    go_ret
    exact ⟨ret_bool HR0.out.symm, HB1.out⟩
  case true =>
    cases c0 : nameB s 2
    case false =>
      have hR0 : R = false := by
        rw [HR.out]
        unfold ok_fun; unfold bare_fun at hb
        (try simp only [Bool.and_eq_true] at hb)
        simp [hb, c0]
      have HR0 := Lib.hid hR0
      have HBB := Lib.hid hb
      clear hR0 hb
      have HC0 := Lib.hid c0
      clear c0
      go_enter Tryz.func194, Tryz.ntmps194
      go_wp2_with fail
      refine HBA.out.mono ?_
      rintro e V1 ⟨rfl, b1⟩
      rw [HBB.out]
      have HB1 := Lib.hid (HB.out.trans (b1.mono HB.out.size))
      have g2 := (b1.block _ (heap_lt HG.out)).trans HG.out
      have y0 : V1.cell? ⟨w.heap.size, 0, none⟩ = some (.int .i8 3) := cell_of_row g2 rfl
      have y1 : V1.cell? ⟨w.heap.size, 1, none⟩ = some (.int .i64 n) := cell_of_row g2 rfl
      have y2 : V1.cell? ⟨w.heap.size, 2, none⟩ = some (.string s) := cell_of_row g2 rfl
      have y3 : V1.cell? ⟨w.heap.size, 3, none⟩ = some (.string t) := cell_of_row g2 rfl
      have y4 : V1.cell? ⟨w.heap.size, 4, none⟩ = some (.slice A len cap) := cell_of_row g2 rfl
      clear b1 g2 x0 x1 x2 x3 x4
      go_wp2_with fail
      refine (HN0.out _).mono ?_
      rintro e V2 ⟨rfl, rfl⟩
      rw [HC0.out]
      go_wp2_with fail
      go_ret
      first | exact ⟨ret_bool HR0.out.symm, HB1.out⟩ | exact ⟨ret_bool (by rw [HR0.out]; simp; omega), HB1.out⟩
    case true =>
      cases c1 : nameB t 2
      case false =>
        have hR0 : R = false := by
          rw [HR.out]
          unfold ok_fun; unfold bare_fun at hb
          (try simp only [Bool.and_eq_true] at hb)
          simp [hb, c0, c1]
        have HR0 := Lib.hid hR0
        have HBB := Lib.hid hb
        clear hR0 hb
        have HC0 := Lib.hid c0
        clear c0
        have HC1 := Lib.hid c1
        clear c1
        go_enter Tryz.func194, Tryz.ntmps194
        go_wp2_with fail
        refine HBA.out.mono ?_
        rintro e V1 ⟨rfl, b1⟩
        rw [HBB.out]
        have HB1 := Lib.hid (HB.out.trans (b1.mono HB.out.size))
        have g2 := (b1.block _ (heap_lt HG.out)).trans HG.out
        have y0 : V1.cell? ⟨w.heap.size, 0, none⟩ = some (.int .i8 3) := cell_of_row g2 rfl
        have y1 : V1.cell? ⟨w.heap.size, 1, none⟩ = some (.int .i64 n) := cell_of_row g2 rfl
        have y2 : V1.cell? ⟨w.heap.size, 2, none⟩ = some (.string s) := cell_of_row g2 rfl
        have y3 : V1.cell? ⟨w.heap.size, 3, none⟩ = some (.string t) := cell_of_row g2 rfl
        have y4 : V1.cell? ⟨w.heap.size, 4, none⟩ = some (.slice A len cap) := cell_of_row g2 rfl
        clear b1 g2 x0 x1 x2 x3 x4
        go_wp2_with fail
        refine (HN0.out _).mono ?_
        rintro e V2 ⟨rfl, rfl⟩
        rw [HC0.out]
        go_wp2_with fail
        refine (HN1.out _).mono ?_
        rintro e V2 ⟨rfl, rfl⟩
        rw [HC1.out]
        go_wp2_with fail
        go_ret
        first | exact ⟨ret_bool HR0.out.symm, HB1.out⟩ | exact ⟨ret_bool (by rw [HR0.out]; simp; omega), HB1.out⟩
      case true =>
        by_cases p0 : 0 ≤ n
        case neg =>
          have hR0 : R = false := by
            rw [HR.out]
            unfold ok_fun; unfold bare_fun at hb
            (try simp only [Bool.and_eq_true] at hb)
            simp [hb, c0, c1, p0, arB]
          have HR0 := Lib.hid hR0
          have HBB := Lib.hid hb
          clear hR0 hb
          have HC0 := Lib.hid c0
          clear c0
          have HC1 := Lib.hid c1
          clear c1
          go_enter Tryz.func194, Tryz.ntmps194
          go_wp2_with fail
          refine HBA.out.mono ?_
          rintro e V1 ⟨rfl, b1⟩
          rw [HBB.out]
          have HB1 := Lib.hid (HB.out.trans (b1.mono HB.out.size))
          have g2 := (b1.block _ (heap_lt HG.out)).trans HG.out
          have y0 : V1.cell? ⟨w.heap.size, 0, none⟩ = some (.int .i8 3) := cell_of_row g2 rfl
          have y1 : V1.cell? ⟨w.heap.size, 1, none⟩ = some (.int .i64 n) := cell_of_row g2 rfl
          have y2 : V1.cell? ⟨w.heap.size, 2, none⟩ = some (.string s) := cell_of_row g2 rfl
          have y3 : V1.cell? ⟨w.heap.size, 3, none⟩ = some (.string t) := cell_of_row g2 rfl
          have y4 : V1.cell? ⟨w.heap.size, 4, none⟩ = some (.slice A len cap) := cell_of_row g2 rfl
          clear b1 g2 x0 x1 x2 x3 x4
          go_wp2_with fail
          refine (HN0.out _).mono ?_
          rintro e V2 ⟨rfl, rfl⟩
          rw [HC0.out]
          go_wp2_with fail
          refine (HN1.out _).mono ?_
          rintro e V2 ⟨rfl, rfl⟩
          rw [HC1.out]
          go_wp2_with fail
          go_ret
          first | exact ⟨ret_bool HR0.out.symm, HB1.out⟩ | exact ⟨ret_bool (by rw [HR0.out]; simp; omega), HB1.out⟩
        case pos =>
          by_cases p1 : n ≤ 8
          case neg =>
            have hR0 : R = false := by
              rw [HR.out]
              unfold ok_fun; unfold bare_fun at hb
              (try simp only [Bool.and_eq_true] at hb)
              simp [hb, c0, c1, p0, arB, p1, arB]
            have HR0 := Lib.hid hR0
            have HBB := Lib.hid hb
            clear hR0 hb
            have HC0 := Lib.hid c0
            clear c0
            have HC1 := Lib.hid c1
            clear c1
            go_enter Tryz.func194, Tryz.ntmps194
            go_wp2_with fail
            refine HBA.out.mono ?_
            rintro e V1 ⟨rfl, b1⟩
            rw [HBB.out]
            have HB1 := Lib.hid (HB.out.trans (b1.mono HB.out.size))
            have g2 := (b1.block _ (heap_lt HG.out)).trans HG.out
            have y0 : V1.cell? ⟨w.heap.size, 0, none⟩ = some (.int .i8 3) := cell_of_row g2 rfl
            have y1 : V1.cell? ⟨w.heap.size, 1, none⟩ = some (.int .i64 n) := cell_of_row g2 rfl
            have y2 : V1.cell? ⟨w.heap.size, 2, none⟩ = some (.string s) := cell_of_row g2 rfl
            have y3 : V1.cell? ⟨w.heap.size, 3, none⟩ = some (.string t) := cell_of_row g2 rfl
            have y4 : V1.cell? ⟨w.heap.size, 4, none⟩ = some (.slice A len cap) := cell_of_row g2 rfl
            clear b1 g2 x0 x1 x2 x3 x4
            go_wp2_with fail
            refine (HN0.out _).mono ?_
            rintro e V2 ⟨rfl, rfl⟩
            rw [HC0.out]
            go_wp2_with fail
            refine (HN1.out _).mono ?_
            rintro e V2 ⟨rfl, rfl⟩
            rw [HC1.out]
            go_wp2_with fail
            go_ret
            first | exact ⟨ret_bool HR0.out.symm, HB1.out⟩ | exact ⟨ret_bool (by rw [HR0.out]; simp; omega), HB1.out⟩
          case pos =>
            have hR0 : R = true := by
              rw [HR.out]
              unfold ok_fun; unfold bare_fun at hb
              (try simp only [Bool.and_eq_true] at hb)
              simp [hb, c0, c1, p0, arB, p1, arB]
            have HR0 := Lib.hid hR0
            have HBB := Lib.hid hb
            clear hR0 hb
            have HC0 := Lib.hid c0
            clear c0
            have HC1 := Lib.hid c1
            clear c1
            go_enter Tryz.func194, Tryz.ntmps194
            go_wp2_with fail
            refine HBA.out.mono ?_
            rintro e V1 ⟨rfl, b1⟩
            rw [HBB.out]
            have HB1 := Lib.hid (HB.out.trans (b1.mono HB.out.size))
            have g2 := (b1.block _ (heap_lt HG.out)).trans HG.out
            have y0 : V1.cell? ⟨w.heap.size, 0, none⟩ = some (.int .i8 3) := cell_of_row g2 rfl
            have y1 : V1.cell? ⟨w.heap.size, 1, none⟩ = some (.int .i64 n) := cell_of_row g2 rfl
            have y2 : V1.cell? ⟨w.heap.size, 2, none⟩ = some (.string s) := cell_of_row g2 rfl
            have y3 : V1.cell? ⟨w.heap.size, 3, none⟩ = some (.string t) := cell_of_row g2 rfl
            have y4 : V1.cell? ⟨w.heap.size, 4, none⟩ = some (.slice A len cap) := cell_of_row g2 rfl
            clear b1 g2 x0 x1 x2 x3 x4
            go_wp2_with fail
            refine (HN0.out _).mono ?_
            rintro e V2 ⟨rfl, rfl⟩
            rw [HC0.out]
            go_wp2_with fail
            refine (HN1.out _).mono ?_
            rintro e V2 ⟨rfl, rfl⟩
            rw [HC1.out]
            go_wp2_with fail
            go_ret
            first | exact ⟨ret_bool HR0.out.symm, HB1.out⟩ | exact ⟨ret_bool (by rw [HR0.out]; simp; omega), HB1.out⟩

set_option maxHeartbeats 4000000 in
set_option maxRecDepth 100000 in
theorem rone_5 (n : Int) (s t : ByteArray) (A : Option Addr) (len cap : Nat) (hsz : s.size ≤ maxLen) (htz : t.size ≤ maxLen) (w : World) : Calls Tryz.prog 194 #[.agg #[(.int .i8 5), (.int .i64 n), (.string s), (.string t), (.slice A len cap)]] w fun e w' => e = .returned (.bool (ok_tuple n s t len)) ∧ Below w.heap.size w w' := by
  obtain ⟨R, hR⟩ : ∃ R, R = ok_tuple n s t len := ⟨_, rfl⟩
  have HR := Lib.hid hR
  rw [← hR]
  clear hR
  obtain ⟨w1, hw1⟩ : ∃ w1, w1 = w.alloc (.cells #[(.int .i8 5), (.int .i64 n), (.string s), (.string t), (.slice A len cap)] 44) := ⟨_, rfl⟩
  have g1 : w1.heap[w.heap.size]? = some (.cells #[(.int .i8 5), (.int .i64 n), (.string s), (.string t), (.slice A len cap)] 44 (0, 0)) := by rw [hw1]; exact block_alloc _ _
  have hB : Below w.heap.size w w1 := by rw [hw1]; exact (Below.refl _ _).alloc (Nat.le_refl _) _
  have x0 : w1.cell? ⟨w.heap.size, 0, none⟩ = some (.int .i8 5) := cell_of_row g1 rfl
  have x1 : w1.cell? ⟨w.heap.size, 1, none⟩ = some (.int .i64 n) := cell_of_row g1 rfl
  have x2 : w1.cell? ⟨w.heap.size, 2, none⟩ = some (.string s) := cell_of_row g1 rfl
  have x3 : w1.cell? ⟨w.heap.size, 3, none⟩ = some (.string t) := cell_of_row g1 rfl
  have x4 : w1.cell? ⟨w.heap.size, 4, none⟩ = some (.slice A len cap) := cell_of_row g1 rfl
  have HBA := Lib.hid (rbare_row 5 n s t A len cap w1)
  have HB := Lib.hid hB
  have HG := Lib.hid g1
  clear hB g1 hsz htz
  subst hw1
  cases hb : bare_row n s t len
  case false =>
    have hR0 : R = false := by
      rw [HR.out]
      unfold ok_tuple; unfold bare_row at hb
      rw [← Bool.not_eq_true] at hb ⊢
      intro hh
      apply hb
      simp only [Bool.and_eq_true] at hh ⊢
      simp [hh]
    have HR0 := Lib.hid hR0
    have HBB := Lib.hid hb
    clear hR0 hb
    go_enter Tryz.func194, Tryz.ntmps194
    go_wp2_with fail
    refine HBA.out.mono ?_
    rintro e V1 ⟨rfl, b1⟩
    rw [HBB.out]
    have HB1 := Lib.hid (HB.out.trans (b1.mono HB.out.size))
    have g2 := (b1.block _ (heap_lt HG.out)).trans HG.out
    have y0 : V1.cell? ⟨w.heap.size, 0, none⟩ = some (.int .i8 5) := cell_of_row g2 rfl
    have y1 : V1.cell? ⟨w.heap.size, 1, none⟩ = some (.int .i64 n) := cell_of_row g2 rfl
    have y2 : V1.cell? ⟨w.heap.size, 2, none⟩ = some (.string s) := cell_of_row g2 rfl
    have y3 : V1.cell? ⟨w.heap.size, 3, none⟩ = some (.string t) := cell_of_row g2 rfl
    have y4 : V1.cell? ⟨w.heap.size, 4, none⟩ = some (.slice A len cap) := cell_of_row g2 rfl
    clear b1 g2 x0 x1 x2 x3 x4
    go_wp2_with fail
    go_ret
    exact ⟨ret_bool HR0.out.symm, HB1.out⟩
  case true =>
    have hR0 : R = true := by
      rw [HR.out]
      unfold ok_tuple; unfold bare_row at hb
      (try simp only [Bool.and_eq_true] at hb)
      simp [hb]
    have HR0 := Lib.hid hR0
    have HBB := Lib.hid hb
    clear hR0 hb
    go_enter Tryz.func194, Tryz.ntmps194
    go_wp2_with fail
    refine HBA.out.mono ?_
    rintro e V1 ⟨rfl, b1⟩
    rw [HBB.out]
    have HB1 := Lib.hid (HB.out.trans (b1.mono HB.out.size))
    have g2 := (b1.block _ (heap_lt HG.out)).trans HG.out
    have y0 : V1.cell? ⟨w.heap.size, 0, none⟩ = some (.int .i8 5) := cell_of_row g2 rfl
    have y1 : V1.cell? ⟨w.heap.size, 1, none⟩ = some (.int .i64 n) := cell_of_row g2 rfl
    have y2 : V1.cell? ⟨w.heap.size, 2, none⟩ = some (.string s) := cell_of_row g2 rfl
    have y3 : V1.cell? ⟨w.heap.size, 3, none⟩ = some (.string t) := cell_of_row g2 rfl
    have y4 : V1.cell? ⟨w.heap.size, 4, none⟩ = some (.slice A len cap) := cell_of_row g2 rfl
    clear b1 g2 x0 x1 x2 x3 x4
    go_wp2_with fail
    go_ret
    first | exact ⟨ret_bool HR0.out.symm, HB1.out⟩ | exact ⟨ret_bool (by rw [HR0.out]; simp; omega), HB1.out⟩

set_option maxHeartbeats 4000000 in
set_option maxRecDepth 100000 in
theorem rone_6 (n : Int) (s t : ByteArray) (A : Option Addr) (len cap : Nat) (hsz : s.size ≤ maxLen) (htz : t.size ≤ maxLen) (w : World) : Calls Tryz.prog 194 #[.agg #[(.int .i8 6), (.int .i64 n), (.string s), (.string t), (.slice A len cap)]] w fun e w' => e = .returned (.bool (ok_empty n s t len)) ∧ Below w.heap.size w w' := by
  obtain ⟨R, hR⟩ : ∃ R, R = ok_empty n s t len := ⟨_, rfl⟩
  have HR := Lib.hid hR
  rw [← hR]
  clear hR
  obtain ⟨w1, hw1⟩ : ∃ w1, w1 = w.alloc (.cells #[(.int .i8 6), (.int .i64 n), (.string s), (.string t), (.slice A len cap)] 44) := ⟨_, rfl⟩
  have g1 : w1.heap[w.heap.size]? = some (.cells #[(.int .i8 6), (.int .i64 n), (.string s), (.string t), (.slice A len cap)] 44 (0, 0)) := by rw [hw1]; exact block_alloc _ _
  have hB : Below w.heap.size w w1 := by rw [hw1]; exact (Below.refl _ _).alloc (Nat.le_refl _) _
  have x0 : w1.cell? ⟨w.heap.size, 0, none⟩ = some (.int .i8 6) := cell_of_row g1 rfl
  have x1 : w1.cell? ⟨w.heap.size, 1, none⟩ = some (.int .i64 n) := cell_of_row g1 rfl
  have x2 : w1.cell? ⟨w.heap.size, 2, none⟩ = some (.string s) := cell_of_row g1 rfl
  have x3 : w1.cell? ⟨w.heap.size, 3, none⟩ = some (.string t) := cell_of_row g1 rfl
  have x4 : w1.cell? ⟨w.heap.size, 4, none⟩ = some (.slice A len cap) := cell_of_row g1 rfl
  have HBA := Lib.hid (rbare_nil 6 n s t A len cap w1)
  have HB := Lib.hid hB
  have HG := Lib.hid g1
  clear hB g1 hsz htz
  subst hw1
  cases hb : bare_nil n s t len
  case false =>
    have hR0 : R = false := by
      rw [HR.out]
      unfold ok_empty; unfold bare_nil at hb
      rw [← Bool.not_eq_true] at hb ⊢
      intro hh
      apply hb
      simp only [Bool.and_eq_true] at hh ⊢
      simp [hh]
    have HR0 := Lib.hid hR0
    have HBB := Lib.hid hb
    clear hR0 hb
    go_enter Tryz.func194, Tryz.ntmps194
    go_wp2_with fail
    refine HBA.out.mono ?_
    rintro e V1 ⟨rfl, b1⟩
    rw [HBB.out]
    have HB1 := Lib.hid (HB.out.trans (b1.mono HB.out.size))
    have g2 := (b1.block _ (heap_lt HG.out)).trans HG.out
    have y0 : V1.cell? ⟨w.heap.size, 0, none⟩ = some (.int .i8 6) := cell_of_row g2 rfl
    have y1 : V1.cell? ⟨w.heap.size, 1, none⟩ = some (.int .i64 n) := cell_of_row g2 rfl
    have y2 : V1.cell? ⟨w.heap.size, 2, none⟩ = some (.string s) := cell_of_row g2 rfl
    have y3 : V1.cell? ⟨w.heap.size, 3, none⟩ = some (.string t) := cell_of_row g2 rfl
    have y4 : V1.cell? ⟨w.heap.size, 4, none⟩ = some (.slice A len cap) := cell_of_row g2 rfl
    clear b1 g2 x0 x1 x2 x3 x4
    go_wp2_with fail
    go_ret
    exact ⟨ret_bool HR0.out.symm, HB1.out⟩
  case true =>
    have hR0 : R = true := by
      rw [HR.out]
      unfold ok_empty; unfold bare_nil at hb
      (try simp only [Bool.and_eq_true] at hb)
      simp [hb]
    have HR0 := Lib.hid hR0
    have HBB := Lib.hid hb
    clear hR0 hb
    go_enter Tryz.func194, Tryz.ntmps194
    go_wp2_with fail
    refine HBA.out.mono ?_
    rintro e V1 ⟨rfl, b1⟩
    rw [HBB.out]
    have HB1 := Lib.hid (HB.out.trans (b1.mono HB.out.size))
    have g2 := (b1.block _ (heap_lt HG.out)).trans HG.out
    have y0 : V1.cell? ⟨w.heap.size, 0, none⟩ = some (.int .i8 6) := cell_of_row g2 rfl
    have y1 : V1.cell? ⟨w.heap.size, 1, none⟩ = some (.int .i64 n) := cell_of_row g2 rfl
    have y2 : V1.cell? ⟨w.heap.size, 2, none⟩ = some (.string s) := cell_of_row g2 rfl
    have y3 : V1.cell? ⟨w.heap.size, 3, none⟩ = some (.string t) := cell_of_row g2 rfl
    have y4 : V1.cell? ⟨w.heap.size, 4, none⟩ = some (.slice A len cap) := cell_of_row g2 rfl
    clear b1 g2 x0 x1 x2 x3 x4
    go_wp2_with fail
    go_ret
    first | exact ⟨ret_bool HR0.out.symm, HB1.out⟩ | exact ⟨ret_bool (by rw [HR0.out]; simp; omega), HB1.out⟩

set_option maxHeartbeats 4000000 in
set_option maxRecDepth 100000 in
theorem rone_7 (n : Int) (s t : ByteArray) (A : Option Addr) (len cap : Nat) (hsz : s.size ≤ maxLen) (htz : t.size ≤ maxLen) (w : World) : Calls Tryz.prog 194 #[.agg #[(.int .i8 7), (.int .i64 n), (.string s), (.string t), (.slice A len cap)]] w fun e w' => e = .returned (.bool (ok_cons n s t len)) ∧ Below w.heap.size w w' := by
  obtain ⟨R, hR⟩ : ∃ R, R = ok_cons n s t len := ⟨_, rfl⟩
  have HR := Lib.hid hR
  rw [← hR]
  clear hR
  obtain ⟨w1, hw1⟩ : ∃ w1, w1 = w.alloc (.cells #[(.int .i8 7), (.int .i64 n), (.string s), (.string t), (.slice A len cap)] 44) := ⟨_, rfl⟩
  have g1 : w1.heap[w.heap.size]? = some (.cells #[(.int .i8 7), (.int .i64 n), (.string s), (.string t), (.slice A len cap)] 44 (0, 0)) := by rw [hw1]; exact block_alloc _ _
  have hB : Below w.heap.size w w1 := by rw [hw1]; exact (Below.refl _ _).alloc (Nat.le_refl _) _
  have x0 : w1.cell? ⟨w.heap.size, 0, none⟩ = some (.int .i8 7) := cell_of_row g1 rfl
  have x1 : w1.cell? ⟨w.heap.size, 1, none⟩ = some (.int .i64 n) := cell_of_row g1 rfl
  have x2 : w1.cell? ⟨w.heap.size, 2, none⟩ = some (.string s) := cell_of_row g1 rfl
  have x3 : w1.cell? ⟨w.heap.size, 3, none⟩ = some (.string t) := cell_of_row g1 rfl
  have x4 : w1.cell? ⟨w.heap.size, 4, none⟩ = some (.slice A len cap) := cell_of_row g1 rfl
  have HBA := Lib.hid (rbare_row 7 n s t A len cap w1)
  have HB := Lib.hid hB
  have HG := Lib.hid g1
  clear hB g1 hsz htz
  subst hw1
  cases hb : bare_row n s t len
  case false =>
    have hR0 : R = false := by
      rw [HR.out]
      unfold ok_cons; unfold bare_row at hb
      rw [← Bool.not_eq_true] at hb ⊢
      intro hh
      apply hb
      simp only [Bool.and_eq_true] at hh ⊢
      simp [hh]
    have HR0 := Lib.hid hR0
    have HBB := Lib.hid hb
    clear hR0 hb
    go_enter Tryz.func194, Tryz.ntmps194
    go_wp2_with fail
    refine HBA.out.mono ?_
    rintro e V1 ⟨rfl, b1⟩
    rw [HBB.out]
    have HB1 := Lib.hid (HB.out.trans (b1.mono HB.out.size))
    have g2 := (b1.block _ (heap_lt HG.out)).trans HG.out
    have y0 : V1.cell? ⟨w.heap.size, 0, none⟩ = some (.int .i8 7) := cell_of_row g2 rfl
    have y1 : V1.cell? ⟨w.heap.size, 1, none⟩ = some (.int .i64 n) := cell_of_row g2 rfl
    have y2 : V1.cell? ⟨w.heap.size, 2, none⟩ = some (.string s) := cell_of_row g2 rfl
    have y3 : V1.cell? ⟨w.heap.size, 3, none⟩ = some (.string t) := cell_of_row g2 rfl
    have y4 : V1.cell? ⟨w.heap.size, 4, none⟩ = some (.slice A len cap) := cell_of_row g2 rfl
    clear b1 g2 x0 x1 x2 x3 x4
    go_wp2_with fail
    go_ret
    exact ⟨ret_bool HR0.out.symm, HB1.out⟩
  case true =>
    cases c0 : ((len : Int) == 2)
    case false =>
      have hR0 : R = false := by
        rw [HR.out]
        unfold ok_cons; unfold bare_row at hb
        (try simp only [Bool.and_eq_true] at hb)
        simp [hb, c0]
      have HR0 := Lib.hid hR0
      have HBB := Lib.hid hb
      clear hR0 hb
      go_enter Tryz.func194, Tryz.ntmps194
      go_wp2_with fail
      refine HBA.out.mono ?_
      rintro e V1 ⟨rfl, b1⟩
      rw [HBB.out]
      have HB1 := Lib.hid (HB.out.trans (b1.mono HB.out.size))
      have g2 := (b1.block _ (heap_lt HG.out)).trans HG.out
      have y0 : V1.cell? ⟨w.heap.size, 0, none⟩ = some (.int .i8 7) := cell_of_row g2 rfl
      have y1 : V1.cell? ⟨w.heap.size, 1, none⟩ = some (.int .i64 n) := cell_of_row g2 rfl
      have y2 : V1.cell? ⟨w.heap.size, 2, none⟩ = some (.string s) := cell_of_row g2 rfl
      have y3 : V1.cell? ⟨w.heap.size, 3, none⟩ = some (.string t) := cell_of_row g2 rfl
      have y4 : V1.cell? ⟨w.heap.size, 4, none⟩ = some (.slice A len cap) := cell_of_row g2 rfl
      clear b1 g2 x0 x1 x2 x3 x4
      go_wp2_with fail
      go_ret
      first | exact ⟨ret_bool HR0.out.symm, HB1.out⟩ | exact ⟨ret_bool (by rw [HR0.out]; simp; omega), HB1.out⟩
    case true =>
      have hR0 : R = true := by
        rw [HR.out]
        unfold ok_cons; unfold bare_row at hb
        (try simp only [Bool.and_eq_true] at hb)
        simp [hb, c0]
      have HR0 := Lib.hid hR0
      have HBB := Lib.hid hb
      clear hR0 hb
      go_enter Tryz.func194, Tryz.ntmps194
      go_wp2_with fail
      refine HBA.out.mono ?_
      rintro e V1 ⟨rfl, b1⟩
      rw [HBB.out]
      have HB1 := Lib.hid (HB.out.trans (b1.mono HB.out.size))
      have g2 := (b1.block _ (heap_lt HG.out)).trans HG.out
      have y0 : V1.cell? ⟨w.heap.size, 0, none⟩ = some (.int .i8 7) := cell_of_row g2 rfl
      have y1 : V1.cell? ⟨w.heap.size, 1, none⟩ = some (.int .i64 n) := cell_of_row g2 rfl
      have y2 : V1.cell? ⟨w.heap.size, 2, none⟩ = some (.string s) := cell_of_row g2 rfl
      have y3 : V1.cell? ⟨w.heap.size, 3, none⟩ = some (.string t) := cell_of_row g2 rfl
      have y4 : V1.cell? ⟨w.heap.size, 4, none⟩ = some (.slice A len cap) := cell_of_row g2 rfl
      clear b1 g2 x0 x1 x2 x3 x4
      go_wp2_with fail
      go_ret
      first | exact ⟨ret_bool HR0.out.symm, HB1.out⟩ | exact ⟨ret_bool (by rw [HR0.out]; simp; omega), HB1.out⟩

set_option maxHeartbeats 4000000 in
set_option maxRecDepth 100000 in
theorem rone_no (k n : Int) (s t : ByteArray) (A : Option Addr) (len cap : Nat) (hk : k < 0 ∨ 7 < k) (w : World) : Calls Tryz.prog 194 #[.agg #[(.int .i8 k), (.int .i64 n), (.string s), (.string t), (.slice A len cap)]] w fun e w' => e = .returned (.bool false) ∧ Below w.heap.size w w' := by
  obtain ⟨w1, hw1⟩ : ∃ w1, w1 = w.alloc (.cells #[(.int .i8 k), (.int .i64 n), (.string s), (.string t), (.slice A len cap)] 44) := ⟨_, rfl⟩
  have g1 : w1.heap[w.heap.size]? = some (.cells #[(.int .i8 k), (.int .i64 n), (.string s), (.string t), (.slice A len cap)] 44 (0, 0)) := by rw [hw1]; exact block_alloc _ _
  have hB : Below w.heap.size w w1 := by rw [hw1]; exact (Below.refl _ _).alloc (Nat.le_refl _) _
  have x0 : w1.cell? ⟨w.heap.size, 0, none⟩ = some (.int .i8 k) := cell_of_row g1 rfl
  have x1 : w1.cell? ⟨w.heap.size, 1, none⟩ = some (.int .i64 n) := cell_of_row g1 rfl
  have x2 : w1.cell? ⟨w.heap.size, 2, none⟩ = some (.string s) := cell_of_row g1 rfl
  have x3 : w1.cell? ⟨w.heap.size, 3, none⟩ = some (.string t) := cell_of_row g1 rfl
  have x4 : w1.cell? ⟨w.heap.size, 4, none⟩ = some (.slice A len cap) := cell_of_row g1 rfl
  have HB := Lib.hid hB
  clear hB g1
  subst hw1
  have k0 : (k == 0) = false := by rw [beq_eq_false_iff_ne]; omega
  have k1 : (k == 1) = false := by rw [beq_eq_false_iff_ne]; omega
  have k2 : (k == 2) = false := by rw [beq_eq_false_iff_ne]; omega
  have k3 : (k == 3) = false := by rw [beq_eq_false_iff_ne]; omega
  have k4 : (k == 4) = false := by rw [beq_eq_false_iff_ne]; omega
  have k5 : (k == 5) = false := by rw [beq_eq_false_iff_ne]; omega
  have k6 : (k == 6) = false := by rw [beq_eq_false_iff_ne]; omega
  have k7 : (k == 7) = false := by rw [beq_eq_false_iff_ne]; omega
  clear hk
  go_enter Tryz.func194, Tryz.ntmps194
  go_wp2_with fail
  go_ret
  exact ⟨rfl, HB.out⟩

theorem rone_any (k n : Int) (s t : ByteArray) (A : Option Addr) (len cap : Nat) (hsz : s.size ≤ maxLen) (htz : t.size ≤ maxLen) (w : World) : Calls Tryz.prog 194 #[.agg #[(.int .i8 k), (.int .i64 n), (.string s), (.string t), (.slice A len cap)]] w fun e w' => e = .returned (.bool (okN k n s t len)) ∧ Below w.heap.size w w' := by
  by_cases h8 : k < 0 ∨ 7 < k
  · rw [okN_no h8]; exact rone_no k n s t A len cap h8 w
  · have h8 : k = 0 ∨ k = 1 ∨ k = 2 ∨ k = 3 ∨ k = 4 ∨ k = 5 ∨ k = 6 ∨ k = 7 := by omega
    rcases h8 with rfl | rfl | rfl | rfl | rfl | rfl | rfl | rfl
    · exact rone_0 n s t A len cap hsz htz w
    · exact rone_1 n s t A len cap hsz htz w
    · exact rone_2 n s t A len cap hsz htz w
    · exact rone_3 n s t A len cap hsz htz w
    · exact rone_4 n s t A len cap hsz htz w
    · exact rone_5 n s t A len cap hsz htz w
    · exact rone_6 n s t A len cap hsz htz w
    · exact rone_7 n s t A len cap hsz htz w
end Go.Proofs.YtkceoiaaiaomoaaGreatDoor
set_option linter.unusedVariables false
namespace Go.Proofs.YtkceoiaaiaomoaaGreatDoor
open Go.RowKit

theorem pre_parts {k n : Int} {s t : ByteArray} {l : List Tm} {j : Nat} {y : Tm} (hy : l[j]? = some y) : (Tm.mk k n s t l).pre = (Tm.mk k n s t l :: Tm.pres (l.take j)) ++ (y.pre ++ Tm.pres (l.drop (j + 1))) := by
  have hl : l = l.take j ++ (y :: l.drop (j + 1)) := by
    obtain ⟨h, e⟩ := List.getElem?_eq_some_iff.1 hy
    rw [← e, List.getElem_cons_drop, List.take_append_drop]
  rw [show (Tm.mk k n s t l).pre = Tm.mk k n s t l :: Tm.pres l by rw [Tm.pre]]
  have h2 : Tm.pres l = Tm.pres (l.take j) ++ (y.pre ++ Tm.pres (l.drop (j + 1))) := by
    have h3 := Tm.pres_append_cons (l.take j) (l.drop (j + 1)) y
    rw [← hl] at h3
    exact h3
  rw [h2, List.cons_append]
def CountP (x : Tm) (most : Nat) (w : World) (e : Ending) (w' : World) : Prop :=
  ∃ q : Nat, e = .returned (.tuple #[.int .i64 q, .bool ((x.pre.take most).all okB)]) ∧ ((x.pre.take most).all okB = true → q = min x.nodes most) ∧ 1 ≤ q ∧ q ≤ most ∧ Below w.heap.size w w'

set_option maxHeartbeats 4000000 in
set_option maxRecDepth 100000 in
theorem count_any (x : Tm) : ∀ (v : Value) (most : Nat) (w : World), TmAt (· < w.heap.size) w x v → 1 ≤ most → most ≤ 1000000 →
    Calls Tryz.prog 124 #[v, .int .i64 most] w (CountP x most w) := by
  induction x using Tm.ind with
  | h k n s t l ih =>
    intro v most w hT h1 hmost
    obtain ⟨A, cap, rfl, hR, hk, hn, hs, ht⟩ := hT.parts
    have hlen := hR.max
    have HR := Lib.hid hR
    have HIH := Lib.hid ih
    clear hR ih hT hk hn
    obtain ⟨w1, hw1⟩ : ∃ w1, w1 = w.alloc (.cells #[.int .i8 k, .int .i64 n, .string s, .string t, .slice A l.length cap] 44) := ⟨_, rfl⟩
    have hB1 : Below w.heap.size w w1 := by rw [hw1]; exact (Below.refl _ w).alloc (Nat.le_refl _) _
    have hbox : w1.heap[w.heap.size]? = some (.cells #[.int .i8 k, .int .i64 n, .string s, .string t, .slice A l.length cap] 44 (0, 0)) := by rw [hw1]; exact block_alloc _ _
    have HO := Lib.hid (rone_any k n s t A l.length cap hs ht w1)
    have x0 : w1.cell? ⟨w.heap.size, 0, none⟩ = some (.int .i8 k) := cell_of_row hbox rfl
    have x1 : w1.cell? ⟨w.heap.size, 1, none⟩ = some (.int .i64 n) := cell_of_row hbox rfl
    have x2 : w1.cell? ⟨w.heap.size, 2, none⟩ = some (.string s) := cell_of_row hbox rfl
    have x3 : w1.cell? ⟨w.heap.size, 3, none⟩ = some (.string t) := cell_of_row hbox rfl
    have x4 : w1.cell? ⟨w.heap.size, 4, none⟩ = some (.slice A l.length cap) := cell_of_row hbox rfl
    have HB1 := Lib.hid hB1
    have HX1 := Lib.hid hbox
    clear hB1 hbox hs ht
    unfold maxLen at hlen
    have hpm : ∃ rest, (Tm.mk k n s t l).pre.take most = Tm.mk k n s t l :: rest := by
      obtain ⟨m', rfl⟩ : ∃ m', most = m' + 1 := ⟨most - 1, by omega⟩
      exact ⟨(Tm.pres l).take m', by rw [Tm.pre]; rfl⟩
    have HPM := Lib.hid hpm
    clear hpm
    go_enter Tryz.func124, Tryz.ntmps124
    go_wp2_with fail
    rw [← hw1]
    clear hw1
    go_wp2_with fail
    refine HO.out.mono ?_
    rintro e w2 ⟨rfl, b2⟩
    have HB2 := Lib.hid (HB1.out.trans (b2.mono HB1.out.size))
    have HX2 := Lib.hid ((b2.block _ (heap_lt HX1.out)).trans HX1.out)
    clear b2 x0 x1 x2 x3 x4 HO
    cases hok : okN k n s t l.length
    · have hall : ((Tm.mk k n s t l).pre.take most).all okB = false := by
        obtain ⟨rest, e⟩ := HPM.out
        rw [e, List.all_cons, show okB (Tm.mk k n s t l) = false from hok, Bool.false_and]
      have HAL := Lib.hid hall
      clear hall hok
      go_wp2_with fail
      go_ret2
      refine ⟨1, by rw [HAL.out]; rfl, fun h => ?_, by omega, by omega, HB2.out⟩
      rw [HAL.out] at h
      cases h
    · have HOK : Hid (okB (Tm.mk k n s t l) = true) := hok
      have HLT : Hid (w.heap.size < w2.heap.size) := heap_lt HX2.out
      clear hok
      go_wp2_with fail
      go_loopw [6, 7] (fun r i wr => ∃ j : Nat, j ≤ l.length ∧ i = .int .i64 j ∧ (∃ q : Nat, r = .int .i64 q ∧ q = min (1 + (Tm.pres (l.take j)).length) most ∧ ((Tm.mk k n s t l :: Tm.pres (l.take j)).take most).all okB = true) ∧ Below w2.heap.size w2 wr) (fun _ i _ => l.length - (intOf i).toNat)
      case atStart =>
        refine ⟨0, Nat.zero_le _, rfl, ⟨1, rfl, by simp [Tm.pres]; omega, ?_⟩, Below.refl _ _⟩
        obtain ⟨m', rfl⟩ : ∃ m', most = m' + 1 := ⟨most - 1, by omega⟩
        simp [Tm.pres, HOK.out]
      case round =>
        obtain ⟨j, hj, rfl, ⟨q, rfl, hq, hal⟩, hB⟩ := hrel
        have hbw := (hB.block w.heap.size HLT.out).trans HX2.out
        have hc4 : wr.cell? ⟨w.heap.size, 4, none⟩ = some (.slice A l.length cap) := cell_of_row hbw rfl
        have hq1 : 1 ≤ q := by omega
        have hq2 : q ≤ most := by omega
        have HQ := Lib.hid hq
        have HAL := Lib.hid hal
        have HB := Lib.hid hB
        have HW : Hid (Below w.heap.size w wr) := HB2.out.trans (hB.mono HB2.out.size)
        clear hq hB hbw hal
        by_cases hlt : j < l.length
        · obtain ⟨y, hy⟩ : ∃ y, l[j]? = some y := ⟨l[j], List.getElem?_eq_getElem hlt⟩
          have HPP := Lib.hid (pre_parts (k := k) (n := n) (s := s) (t := t) hy)
          by_cases hm : q < most
          · obtain ⟨ad, u, rfl, had, hE, hTy⟩ := HR.out.at_ j y hy
            have hEr : ElemAt wr ad j u := hE.keep (HW.out.block ad.block had)
            have hTr : TmAt (· < wr.heap.size) wr y u := hTy.later HW.out
            obtain ⟨c0, c1, c2, c3, c4, rfl, e0, e1, e2, e3, e4⟩ := hEr
            have hmem := List.mem_of_getElem? hy
            have HY := Lib.hid hy
            have he : (most : Int) - q = ((most - q : Nat) : Int) := by omega
            have HC := Lib.hid (HIH.out y hmem _ (most - q) wr hTr (by omega) (by omega))
            rw [← he] at HC
            have hql : q = 1 + (Tm.pres (l.take j)).length := by have := HQ.out; omega
            have HQL := Lib.hid hql
            clear hE hTy hy hTr hmem hql he
            go_wp2_with fail
            refine HC.out.mono ?_
            rintro e w3 ⟨z, rfl, hz, hz1, hz2, b3⟩
            have HZ := Lib.hid hz
            have HB3 := Lib.hid (HB.out.trans (b3.mono HB.out.size))
            clear hz b3 e0 e1 e2 e3 e4 hc4
            have htk : ((Tm.mk k n s t l).pre.take most) = (Tm.mk k n s t l :: Tm.pres (l.take j)) ++ ((y.pre.take (most - q)) ++ (Tm.pres (l.drop (j + 1))).take (most - q - y.pre.length)) := by
              rw [HPP.out, List.take_append, List.take_of_length_le (by have := HQL.out; simp; omega), List.take_append]
              rw [show (Tm.mk k n s t l :: Tm.pres (l.take j)).length = q by have := HQL.out; simp; omega]
            have HTK := Lib.hid htk
            clear htk
            cases hby : (y.pre.take (most - q)).all okB
            · have hall : ((Tm.mk k n s t l).pre.take most).all okB = false := by
                rw [HTK.out, List.all_append, List.all_append, hby, Bool.false_and, Bool.and_false]
              have HALL := Lib.hid hall
              clear hall hby
              go_wp2_with fail
              go_ret2
              refine ⟨q, (show Ending.returned (.tuple #[.int .i64 (q : Int), .bool false]) = _ by rw [HALL.out]), fun h => ?_, hq1, hq2, HB2.out.trans (HB3.out.mono HB2.out.size)⟩
              rw [HALL.out] at h
              cases h
            · have hzv := HZ.out hby
              have hr : q + z = min (1 + (Tm.pres (l.take (j + 1))).length) most := by
                rw [Tm.pres_take_succ HY.out, List.length_append, hzv]
                have := HQL.out
                unfold Tm.nodes
                omega
              have hal2 : ((Tm.mk k n s t l :: Tm.pres (l.take (j + 1))).take most).all okB = true := by
                rw [Tm.pres_take_succ HY.out, ← List.cons_append, List.take_append, List.all_append, HAL.out, Bool.true_and]
                rw [show (Tm.mk k n s t l :: Tm.pres (l.take j)).length = q by have := HQL.out; simp; omega]
                exact hby
              have HRR := Lib.hid hr
              have HA2 := Lib.hid hal2
              clear hr hal2 hzv hby
              go_wp2_with fail
              go_roundw
              case rel => exact ⟨j + 1, by omega, by go_num, ⟨q + z, by go_num, HRR.out, HA2.out⟩, HB3.out⟩
              case measure => simp [intOf]; omega
          · have hqm : q = most := by omega
            clear hy
            go_wp2_with fail
            go_ret2
            have hge : most ≤ (Tm.mk k n s t l :: Tm.pres (l.take j)).length := by have := HQ.out; simp; omega
            have hte : (Tm.mk k n s t l).pre.take most = (Tm.mk k n s t l :: Tm.pres (l.take j)).take most := by
              rw [HPP.out, List.take_append_of_le_length hge]
            have hall : ((Tm.mk k n s t l).pre.take most).all okB = true := by rw [hte]; exact HAL.out
            refine ⟨q, (show Ending.returned (.tuple #[.int .i64 (q : Int), .bool true]) = _ by rw [hall]), fun _ => ?_, hq1, hq2, HW.out⟩
            have h2 : most ≤ (Tm.mk k n s t l).nodes := by
              unfold Tm.nodes
              rw [HPP.out, List.length_append]
              omega
            omega
        · obtain rfl : j = l.length := by omega
          go_wp2_with fail
          go_ret2
          have h2 := HAL.out
          have h3 := HQ.out
          rw [List.take_length] at h2 h3
          have h4 : (Tm.mk k n s t l).pre = Tm.mk k n s t l :: Tm.pres l := by rw [Tm.pre]
          refine ⟨q, (show Ending.returned (.tuple #[.int .i64 (q : Int), .bool true]) = _ by rw [h4, h2]), fun _ => ?_, hq1, hq2, HW.out⟩
          unfold Tm.nodes
          rw [h4, h3]
          simp; omega

set_option maxHeartbeats 2000000 in
set_option maxRecDepth 100000 in
theorem rCheck_any (x : Tm) (v : Value) (w : World) (hT : TmAt (· < w.heap.size) w x v) : Calls Tryz.prog 71 #[v] w fun e w' => e = .returned (.int .i64 (checkN x)) ∧ Below w.heap.size w w' := by
  obtain ⟨k, n, s, t, l⟩ := x
  obtain ⟨A, cap, rfl, -⟩ := hT.parts
  obtain ⟨w1, hw1⟩ : ∃ w1, w1 = w.alloc (.cells #[.int .i8 k, .int .i64 n, .string s, .string t, .slice A l.length cap] 44) := ⟨_, rfl⟩
  have hB1 : Below w.heap.size w w1 := by rw [hw1]; exact (Below.refl _ w).alloc (Nat.le_refl _) _
  have hbox : w1.heap[w.heap.size]? = some (.cells #[.int .i8 k, .int .i64 n, .string s, .string t, .slice A l.length cap] 44 (0, 0)) := by rw [hw1]; exact block_alloc _ _
  have HC := Lib.hid (count_any _ _ 257 w1 (hT.later hB1) (by decide) (by decide))
  rw [show ((257 : Nat) : Int) = 257 from rfl] at HC
  have x0 : w1.cell? ⟨w.heap.size, 0, none⟩ = some (.int .i8 k) := cell_of_row hbox rfl
  have x1 : w1.cell? ⟨w.heap.size, 1, none⟩ = some (.int .i64 n) := cell_of_row hbox rfl
  have x2 : w1.cell? ⟨w.heap.size, 2, none⟩ = some (.string s) := cell_of_row hbox rfl
  have x3 : w1.cell? ⟨w.heap.size, 3, none⟩ = some (.string t) := cell_of_row hbox rfl
  have x4 : w1.cell? ⟨w.heap.size, 4, none⟩ = some (.slice A l.length cap) := cell_of_row hbox rfl
  have HB1 := Lib.hid hB1
  clear hT hB1 hbox
  go_enter Tryz.func71, Tryz.ntmps71
  go_wp2_with fail
  rw [← hw1]
  clear hw1
  go_wp2_with fail
  refine HC.out.mono ?_
  rintro e w2 ⟨q, rfl, hq, h1, h2, b2⟩
  have HB2 := Lib.hid (HB1.out.trans (b2.mono HB1.out.size))
  clear b2 x0 x1 x2 x3 x4
  cases hall : ((Tm.mk k n s t l).pre.take 257).all okB
  · have HV : Hid (checkN (.mk k n s t l) = 30) := by unfold checkN; rw [hall]; rfl
    clear hq hall
    go_wp2_with fail
    go_ret
    exact ⟨ret_int HV.out.symm, HB2.out⟩
  · have hq := hq hall
    have HV : Hid (checkN (.mk k n s t l) = if 256 < (Tm.mk k n s t l).nodes then 11 else 0) := by unfold checkN; rw [hall]; rfl
    by_cases hn : 256 < (Tm.mk k n s t l).nodes
    · have HV2 : Hid (checkN (.mk k n s t l) = 11) := HV.out.trans (if_pos hn)
      have hq' : (256 : Int) < (q : Int) := by omega
      clear hq hall hn
      go_wp2_with fail
      go_ret
      exact ⟨ret_int HV2.out.symm, HB2.out⟩
    · have HV2 : Hid (checkN (.mk k n s t l) = 0) := HV.out.trans (if_neg hn)
      have hq' : ¬ (256 : Int) < (q : Int) := by omega
      clear hq hall hn
      go_wp2_with fail
      go_ret
      exact ⟨ret_int HV2.out.symm, HB2.out⟩

set_option maxHeartbeats 2000000 in
set_option maxRecDepth 100000 in
theorem rSize_any (x : Tm) (v : Value) (w : World) (hT : TmAt (· < w.heap.size) w x v) : Calls Tryz.prog 87 #[v] w fun e w' => e = .returned (.int .i64 (min x.nodes 257 : Nat)) ∧ Below w.heap.size w w' := by
  obtain ⟨k, n, s, t, l⟩ := x
  obtain ⟨A, cap, rfl, -⟩ := hT.parts
  obtain ⟨w1, hw1⟩ : ∃ w1, w1 = w.alloc (.cells #[.int .i8 k, .int .i64 n, .string s, .string t, .slice A l.length cap] 44) := ⟨_, rfl⟩
  have hB1 : Below w.heap.size w w1 := by rw [hw1]; exact (Below.refl _ w).alloc (Nat.le_refl _) _
  have hbox : w1.heap[w.heap.size]? = some (.cells #[.int .i8 k, .int .i64 n, .string s, .string t, .slice A l.length cap] 44 (0, 0)) := by rw [hw1]; exact block_alloc _ _
  have HC := Lib.hid (rsize_any _ _ 257 w1 (hT.later hB1) (by decide) (by decide))
  rw [show ((257 : Nat) : Int) = 257 from rfl] at HC
  have x0 : w1.cell? ⟨w.heap.size, 0, none⟩ = some (.int .i8 k) := cell_of_row hbox rfl
  have x1 : w1.cell? ⟨w.heap.size, 1, none⟩ = some (.int .i64 n) := cell_of_row hbox rfl
  have x2 : w1.cell? ⟨w.heap.size, 2, none⟩ = some (.string s) := cell_of_row hbox rfl
  have x3 : w1.cell? ⟨w.heap.size, 3, none⟩ = some (.string t) := cell_of_row hbox rfl
  have x4 : w1.cell? ⟨w.heap.size, 4, none⟩ = some (.slice A l.length cap) := cell_of_row hbox rfl
  have HB1 := Lib.hid hB1
  clear hT hB1 hbox
  go_enter Tryz.func87, Tryz.ntmps87
  go_wp2_with fail
  rw [← hw1]
  clear hw1
  go_wp2_with fail
  refine HC.out.mono ?_
  rintro e w2 ⟨rfl, b2⟩
  have HB2 := Lib.hid (HB1.out.trans (b2.mono HB1.out.size))
  obtain ⟨q, hq⟩ : ∃ q, q = min (Tm.mk k n s t l).nodes 257 := ⟨_, rfl⟩
  have hq2 : q ≤ 257 := by omega
  rw [← hq]
  have HQ := Lib.hid hq
  clear b2 x0 x1 x2 x3 x4 hq
  go_wp2_with fail
  go_ret
  refine ⟨ret_int ?_, HB2.out⟩
  have := HQ.out
  omega

set_option maxHeartbeats 2000000 in
set_option maxRecDepth 100000 in
theorem rInt_any (n : Int) (w : World) : Calls Tryz.prog 122 #[.int .i64 n] w fun e w' => e = .returned (.agg #[.int .i8 0, .int .i64 n, .string ⟨#[]⟩, .string ⟨#[]⟩, .slice none 0 0]) ∧ Below w.heap.size w w' := by
  go_enter Tryz.func122, Tryz.ntmps122
  go_wp2_with fail
  refine bodyPost_ret (v := .agg #[.int .i8 0, .int .i64 n, .string ⟨#[]⟩, .string ⟨#[]⟩, .slice none 0 0]) (by simp [results, Tryz.f122, go_sem]) rfl ⟨rfl, ?_⟩
  exact (Below.refl _ w).alloc (Nat.le_refl _) _
end Go.Proofs.YtkceoiaaiaomoaaGreatDoor
