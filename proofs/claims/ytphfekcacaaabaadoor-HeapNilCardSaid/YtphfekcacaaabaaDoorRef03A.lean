/- The document's own answers of layer 3: bare, one, count, Check, Size, Int. -/
import Derived.Test.YtphfekcacaaabaaDoorRef02
import Derived.Test.YtphfekcacaaabaaDoorBoxes
import Derived.Test.YtphfekcacaaabaaDoorOkPure
set_option linter.unusedVariables false
namespace Go.Proofs.YtphfekcacaaabaaDoor
open Go.RowKit

theorem r1May_any (n : Int) (w : World) : Calls Tryd.prog 78 #[.int .i64 n] w fun e w' => e = .returned (.bool (mayB n)) ∧ w = w' := by
  have hd : mayB n = (decide (-576460752303423488 ≤ n) && decide (n ≤ 576460752303423487)) := by unfold mayB; rw [Bool.eq_iff_iff]; simp
  have H := Lib.hid hd
  clear hd
  by_cases h1 : -576460752303423488 ≤ n
  · go_enter Tryd.func78, Tryd.ntmps78
    go_wp2
    go_ret
    exact ⟨ret_bool (by rw [H.out]; simp [h1]), rfl⟩
  · go_enter Tryd.func78, Tryd.ntmps78
    go_wp2
    go_ret
    exact ⟨ret_bool (by rw [H.out]; simp; omega), rfl⟩

def bare_int (n : Int) (s t : ByteArray) (len : Nat) : Bool := (s.toList.isEmpty) && (t.toList.isEmpty) && ((len : Int) == 0)
set_option maxHeartbeats 2000000 in
set_option maxRecDepth 100000 in
theorem rbare_int (k n : Int) (s t : ByteArray) (A : Option Addr) (len cap : Nat) (w : World) : Calls Tryd.prog 77 #[.agg #[(.int .i8 k), (.int .i64 n), (.string s), (.string t), (.slice A len cap)], .bool true, .bool false, .bool false, .bool false] w fun e w' => e = .returned (.bool (bare_int n s t len)) ∧ Below w.heap.size w w' := by
  obtain ⟨R, hR⟩ : ∃ R, R = bare_int n s t len := ⟨_, rfl⟩
  have HR := Lib.hid hR
  rw [← hR]
  clear hR
  obtain ⟨w1, hw1⟩ : ∃ w1, w1 = w.alloc (.cells #[(.int .i8 k), (.int .i64 n), (.string s), (.string t), (.slice A len cap)] 25) := ⟨_, rfl⟩
  have g1 : w1.heap[w.heap.size]? = some (.cells #[(.int .i8 k), (.int .i64 n), (.string s), (.string t), (.slice A len cap)] 25 (0, 0)) := by rw [hw1]; exact block_alloc _ _
  have hB : Below w.heap.size w w1 := by rw [hw1]; exact (Below.refl _ _).alloc (Nat.le_refl _) _
  have x0 : w1.cell? ⟨w.heap.size, 0, none⟩ = some (.int .i8 k) := cell_of_row g1 rfl
  have x1 : w1.cell? ⟨w.heap.size, 1, none⟩ = some (.int .i64 n) := cell_of_row g1 rfl
  have x2 : w1.cell? ⟨w.heap.size, 2, none⟩ = some (.string s) := cell_of_row g1 rfl
  have x3 : w1.cell? ⟨w.heap.size, 3, none⟩ = some (.string t) := cell_of_row g1 rfl
  have x4 : w1.cell? ⟨w.heap.size, 4, none⟩ = some (.slice A len cap) := cell_of_row g1 rfl
  have HB := Lib.hid hB
  clear hB g1
  subst hw1
  cases hs : (s.toList.isEmpty)
  case false =>
    have s1 : (s.toList == []) = false := by cases h : s.toList <;> simp_all
    have s2 : ¬ (s.toList = []) := by simpa using hs
    have hR0 : R = false := by rw [HR.out]; unfold bare_int; simp only [hs] <;> rfl
    have HR0 := Lib.hid hR0
    clear hR0
    go_enter Tryd.func77, Tryd.ntmps77
    go_wp2_with fail
    go_ret
    exact ⟨ret_bool HR0.out.symm, HB.out⟩
  have s1 : (s.toList == []) = true := by cases h : s.toList <;> simp_all
  have s2 : (s.toList = []) := by simpa using hs
  cases ht : (t.toList.isEmpty)
  case false =>
    have t1 : (t.toList == []) = false := by cases h : t.toList <;> simp_all
    have t2 : ¬ (t.toList = []) := by simpa using ht
    have hR0 : R = false := by rw [HR.out]; unfold bare_int; simp only [ht, hs] <;> rfl
    have HR0 := Lib.hid hR0
    clear hR0
    go_enter Tryd.func77, Tryd.ntmps77
    go_wp2_with fail
    go_ret
    exact ⟨ret_bool HR0.out.symm, HB.out⟩
  have t1 : (t.toList == []) = true := by cases h : t.toList <;> simp_all
  have t2 : (t.toList = []) := by simpa using ht
  cases hl : ((len : Int) == 0)
  case false =>
    have hR0 : R = false := by rw [HR.out]; unfold bare_int; simp only [hl, hs, ht] <;> rfl
    have HR0 := Lib.hid hR0
    clear hR0
    go_enter Tryd.func77, Tryd.ntmps77
    go_wp2_with fail
    go_ret
    exact ⟨ret_bool HR0.out.symm, HB.out⟩
  have hR0 : R = true := by rw [HR.out]; unfold bare_int; simp only [hs, ht, hl] <;> rfl
  have HR0 := Lib.hid hR0
  clear hR0
  go_enter Tryd.func77, Tryd.ntmps77
  go_wp2_with fail
  go_ret
  exact ⟨ret_bool HR0.out.symm, HB.out⟩

def bare_atom (n : Int) (s t : ByteArray) (len : Nat) : Bool := (n == 0) && (t.toList.isEmpty) && ((len : Int) == 0)
set_option maxHeartbeats 2000000 in
set_option maxRecDepth 100000 in
theorem rbare_atom (k n : Int) (s t : ByteArray) (A : Option Addr) (len cap : Nat) (w : World) : Calls Tryd.prog 77 #[.agg #[(.int .i8 k), (.int .i64 n), (.string s), (.string t), (.slice A len cap)], .bool false, .bool true, .bool false, .bool false] w fun e w' => e = .returned (.bool (bare_atom n s t len)) ∧ Below w.heap.size w w' := by
  obtain ⟨R, hR⟩ : ∃ R, R = bare_atom n s t len := ⟨_, rfl⟩
  have HR := Lib.hid hR
  rw [← hR]
  clear hR
  obtain ⟨w1, hw1⟩ : ∃ w1, w1 = w.alloc (.cells #[(.int .i8 k), (.int .i64 n), (.string s), (.string t), (.slice A len cap)] 25) := ⟨_, rfl⟩
  have g1 : w1.heap[w.heap.size]? = some (.cells #[(.int .i8 k), (.int .i64 n), (.string s), (.string t), (.slice A len cap)] 25 (0, 0)) := by rw [hw1]; exact block_alloc _ _
  have hB : Below w.heap.size w w1 := by rw [hw1]; exact (Below.refl _ _).alloc (Nat.le_refl _) _
  have x0 : w1.cell? ⟨w.heap.size, 0, none⟩ = some (.int .i8 k) := cell_of_row g1 rfl
  have x1 : w1.cell? ⟨w.heap.size, 1, none⟩ = some (.int .i64 n) := cell_of_row g1 rfl
  have x2 : w1.cell? ⟨w.heap.size, 2, none⟩ = some (.string s) := cell_of_row g1 rfl
  have x3 : w1.cell? ⟨w.heap.size, 3, none⟩ = some (.string t) := cell_of_row g1 rfl
  have x4 : w1.cell? ⟨w.heap.size, 4, none⟩ = some (.slice A len cap) := cell_of_row g1 rfl
  have HB := Lib.hid hB
  clear hB g1
  subst hw1
  cases hn : (n == 0)
  case false =>
    have hR0 : R = false := by rw [HR.out]; unfold bare_atom; simp only [hn] <;> rfl
    have HR0 := Lib.hid hR0
    clear hR0
    go_enter Tryd.func77, Tryd.ntmps77
    go_wp2_with fail
    go_ret
    exact ⟨ret_bool HR0.out.symm, HB.out⟩
  cases ht : (t.toList.isEmpty)
  case false =>
    have t1 : (t.toList == []) = false := by cases h : t.toList <;> simp_all
    have t2 : ¬ (t.toList = []) := by simpa using ht
    have hR0 : R = false := by rw [HR.out]; unfold bare_atom; simp only [ht, hn] <;> rfl
    have HR0 := Lib.hid hR0
    clear hR0
    go_enter Tryd.func77, Tryd.ntmps77
    go_wp2_with fail
    go_ret
    exact ⟨ret_bool HR0.out.symm, HB.out⟩
  have t1 : (t.toList == []) = true := by cases h : t.toList <;> simp_all
  have t2 : (t.toList = []) := by simpa using ht
  cases hl : ((len : Int) == 0)
  case false =>
    have hR0 : R = false := by rw [HR.out]; unfold bare_atom; simp only [hl, hn, ht] <;> rfl
    have HR0 := Lib.hid hR0
    clear hR0
    go_enter Tryd.func77, Tryd.ntmps77
    go_wp2_with fail
    go_ret
    exact ⟨ret_bool HR0.out.symm, HB.out⟩
  have hR0 : R = true := by rw [HR.out]; unfold bare_atom; simp only [hn, ht, hl] <;> rfl
  have HR0 := Lib.hid hR0
  clear hR0
  go_enter Tryd.func77, Tryd.ntmps77
  go_wp2_with fail
  go_ret
  exact ⟨ret_bool HR0.out.symm, HB.out⟩

def bare_fun (n : Int) (s t : ByteArray) (len : Nat) : Bool := ((len : Int) == 0)
set_option maxHeartbeats 2000000 in
set_option maxRecDepth 100000 in
theorem rbare_fun (k n : Int) (s t : ByteArray) (A : Option Addr) (len cap : Nat) (w : World) : Calls Tryd.prog 77 #[.agg #[(.int .i8 k), (.int .i64 n), (.string s), (.string t), (.slice A len cap)], .bool true, .bool true, .bool true, .bool false] w fun e w' => e = .returned (.bool (bare_fun n s t len)) ∧ Below w.heap.size w w' := by
  obtain ⟨R, hR⟩ : ∃ R, R = bare_fun n s t len := ⟨_, rfl⟩
  have HR := Lib.hid hR
  rw [← hR]
  clear hR
  obtain ⟨w1, hw1⟩ : ∃ w1, w1 = w.alloc (.cells #[(.int .i8 k), (.int .i64 n), (.string s), (.string t), (.slice A len cap)] 25) := ⟨_, rfl⟩
  have g1 : w1.heap[w.heap.size]? = some (.cells #[(.int .i8 k), (.int .i64 n), (.string s), (.string t), (.slice A len cap)] 25 (0, 0)) := by rw [hw1]; exact block_alloc _ _
  have hB : Below w.heap.size w w1 := by rw [hw1]; exact (Below.refl _ _).alloc (Nat.le_refl _) _
  have x0 : w1.cell? ⟨w.heap.size, 0, none⟩ = some (.int .i8 k) := cell_of_row g1 rfl
  have x1 : w1.cell? ⟨w.heap.size, 1, none⟩ = some (.int .i64 n) := cell_of_row g1 rfl
  have x2 : w1.cell? ⟨w.heap.size, 2, none⟩ = some (.string s) := cell_of_row g1 rfl
  have x3 : w1.cell? ⟨w.heap.size, 3, none⟩ = some (.string t) := cell_of_row g1 rfl
  have x4 : w1.cell? ⟨w.heap.size, 4, none⟩ = some (.slice A len cap) := cell_of_row g1 rfl
  have HB := Lib.hid hB
  clear hB g1
  subst hw1
  cases hl : ((len : Int) == 0)
  case false =>
    have hR0 : R = false := by rw [HR.out]; unfold bare_fun; simp only [hl] <;> rfl
    have HR0 := Lib.hid hR0
    clear hR0
    go_enter Tryd.func77, Tryd.ntmps77
    go_wp2_with fail
    go_ret
    exact ⟨ret_bool HR0.out.symm, HB.out⟩
  have hR0 : R = true := by rw [HR.out]; unfold bare_fun; simp only [hl] <;> rfl
  have HR0 := Lib.hid hR0
  clear hR0
  go_enter Tryd.func77, Tryd.ntmps77
  go_wp2_with fail
  go_ret
  exact ⟨ret_bool HR0.out.symm, HB.out⟩

def bare_row (n : Int) (s t : ByteArray) (len : Nat) : Bool := (n == 0) && (s.toList.isEmpty) && (t.toList.isEmpty)
set_option maxHeartbeats 2000000 in
set_option maxRecDepth 100000 in
theorem rbare_row (k n : Int) (s t : ByteArray) (A : Option Addr) (len cap : Nat) (w : World) : Calls Tryd.prog 77 #[.agg #[(.int .i8 k), (.int .i64 n), (.string s), (.string t), (.slice A len cap)], .bool false, .bool false, .bool false, .bool true] w fun e w' => e = .returned (.bool (bare_row n s t len)) ∧ Below w.heap.size w w' := by
  obtain ⟨R, hR⟩ : ∃ R, R = bare_row n s t len := ⟨_, rfl⟩
  have HR := Lib.hid hR
  rw [← hR]
  clear hR
  obtain ⟨w1, hw1⟩ : ∃ w1, w1 = w.alloc (.cells #[(.int .i8 k), (.int .i64 n), (.string s), (.string t), (.slice A len cap)] 25) := ⟨_, rfl⟩
  have g1 : w1.heap[w.heap.size]? = some (.cells #[(.int .i8 k), (.int .i64 n), (.string s), (.string t), (.slice A len cap)] 25 (0, 0)) := by rw [hw1]; exact block_alloc _ _
  have hB : Below w.heap.size w w1 := by rw [hw1]; exact (Below.refl _ _).alloc (Nat.le_refl _) _
  have x0 : w1.cell? ⟨w.heap.size, 0, none⟩ = some (.int .i8 k) := cell_of_row g1 rfl
  have x1 : w1.cell? ⟨w.heap.size, 1, none⟩ = some (.int .i64 n) := cell_of_row g1 rfl
  have x2 : w1.cell? ⟨w.heap.size, 2, none⟩ = some (.string s) := cell_of_row g1 rfl
  have x3 : w1.cell? ⟨w.heap.size, 3, none⟩ = some (.string t) := cell_of_row g1 rfl
  have x4 : w1.cell? ⟨w.heap.size, 4, none⟩ = some (.slice A len cap) := cell_of_row g1 rfl
  have HB := Lib.hid hB
  clear hB g1
  subst hw1
  cases hn : (n == 0)
  case false =>
    have hR0 : R = false := by rw [HR.out]; unfold bare_row; simp only [hn] <;> rfl
    have HR0 := Lib.hid hR0
    clear hR0
    go_enter Tryd.func77, Tryd.ntmps77
    go_wp2_with fail
    go_ret
    exact ⟨ret_bool HR0.out.symm, HB.out⟩
  cases hs : (s.toList.isEmpty)
  case false =>
    have s1 : (s.toList == []) = false := by cases h : s.toList <;> simp_all
    have s2 : ¬ (s.toList = []) := by simpa using hs
    have hR0 : R = false := by rw [HR.out]; unfold bare_row; simp only [hs, hn] <;> rfl
    have HR0 := Lib.hid hR0
    clear hR0
    go_enter Tryd.func77, Tryd.ntmps77
    go_wp2_with fail
    go_ret
    exact ⟨ret_bool HR0.out.symm, HB.out⟩
  have s1 : (s.toList == []) = true := by cases h : s.toList <;> simp_all
  have s2 : (s.toList = []) := by simpa using hs
  cases ht : (t.toList.isEmpty)
  case false =>
    have t1 : (t.toList == []) = false := by cases h : t.toList <;> simp_all
    have t2 : ¬ (t.toList = []) := by simpa using ht
    have hR0 : R = false := by rw [HR.out]; unfold bare_row; simp only [ht, hn, hs] <;> rfl
    have HR0 := Lib.hid hR0
    clear hR0
    go_enter Tryd.func77, Tryd.ntmps77
    go_wp2_with fail
    go_ret
    exact ⟨ret_bool HR0.out.symm, HB.out⟩
  have t1 : (t.toList == []) = true := by cases h : t.toList <;> simp_all
  have t2 : (t.toList = []) := by simpa using ht
  have hR0 : R = true := by rw [HR.out]; unfold bare_row; simp only [hn, hs, ht] <;> rfl
  have HR0 := Lib.hid hR0
  clear hR0
  go_enter Tryd.func77, Tryd.ntmps77
  go_wp2_with fail
  go_ret
  exact ⟨ret_bool HR0.out.symm, HB.out⟩

def bare_nil (n : Int) (s t : ByteArray) (len : Nat) : Bool := (n == 0) && (s.toList.isEmpty) && (t.toList.isEmpty) && ((len : Int) == 0)
set_option maxHeartbeats 2000000 in
set_option maxRecDepth 100000 in
theorem rbare_nil (k n : Int) (s t : ByteArray) (A : Option Addr) (len cap : Nat) (w : World) : Calls Tryd.prog 77 #[.agg #[(.int .i8 k), (.int .i64 n), (.string s), (.string t), (.slice A len cap)], .bool false, .bool false, .bool false, .bool false] w fun e w' => e = .returned (.bool (bare_nil n s t len)) ∧ Below w.heap.size w w' := by
  obtain ⟨R, hR⟩ : ∃ R, R = bare_nil n s t len := ⟨_, rfl⟩
  have HR := Lib.hid hR
  rw [← hR]
  clear hR
  obtain ⟨w1, hw1⟩ : ∃ w1, w1 = w.alloc (.cells #[(.int .i8 k), (.int .i64 n), (.string s), (.string t), (.slice A len cap)] 25) := ⟨_, rfl⟩
  have g1 : w1.heap[w.heap.size]? = some (.cells #[(.int .i8 k), (.int .i64 n), (.string s), (.string t), (.slice A len cap)] 25 (0, 0)) := by rw [hw1]; exact block_alloc _ _
  have hB : Below w.heap.size w w1 := by rw [hw1]; exact (Below.refl _ _).alloc (Nat.le_refl _) _
  have x0 : w1.cell? ⟨w.heap.size, 0, none⟩ = some (.int .i8 k) := cell_of_row g1 rfl
  have x1 : w1.cell? ⟨w.heap.size, 1, none⟩ = some (.int .i64 n) := cell_of_row g1 rfl
  have x2 : w1.cell? ⟨w.heap.size, 2, none⟩ = some (.string s) := cell_of_row g1 rfl
  have x3 : w1.cell? ⟨w.heap.size, 3, none⟩ = some (.string t) := cell_of_row g1 rfl
  have x4 : w1.cell? ⟨w.heap.size, 4, none⟩ = some (.slice A len cap) := cell_of_row g1 rfl
  have HB := Lib.hid hB
  clear hB g1
  subst hw1
  cases hn : (n == 0)
  case false =>
    have hR0 : R = false := by rw [HR.out]; unfold bare_nil; simp only [hn] <;> rfl
    have HR0 := Lib.hid hR0
    clear hR0
    go_enter Tryd.func77, Tryd.ntmps77
    go_wp2_with fail
    go_ret
    exact ⟨ret_bool HR0.out.symm, HB.out⟩
  cases hs : (s.toList.isEmpty)
  case false =>
    have s1 : (s.toList == []) = false := by cases h : s.toList <;> simp_all
    have s2 : ¬ (s.toList = []) := by simpa using hs
    have hR0 : R = false := by rw [HR.out]; unfold bare_nil; simp only [hs, hn] <;> rfl
    have HR0 := Lib.hid hR0
    clear hR0
    go_enter Tryd.func77, Tryd.ntmps77
    go_wp2_with fail
    go_ret
    exact ⟨ret_bool HR0.out.symm, HB.out⟩
  have s1 : (s.toList == []) = true := by cases h : s.toList <;> simp_all
  have s2 : (s.toList = []) := by simpa using hs
  cases ht : (t.toList.isEmpty)
  case false =>
    have t1 : (t.toList == []) = false := by cases h : t.toList <;> simp_all
    have t2 : ¬ (t.toList = []) := by simpa using ht
    have hR0 : R = false := by rw [HR.out]; unfold bare_nil; simp only [ht, hn, hs] <;> rfl
    have HR0 := Lib.hid hR0
    clear hR0
    go_enter Tryd.func77, Tryd.ntmps77
    go_wp2_with fail
    go_ret
    exact ⟨ret_bool HR0.out.symm, HB.out⟩
  have t1 : (t.toList == []) = true := by cases h : t.toList <;> simp_all
  have t2 : (t.toList = []) := by simpa using ht
  cases hl : ((len : Int) == 0)
  case false =>
    have hR0 : R = false := by rw [HR.out]; unfold bare_nil; simp only [hl, hn, hs, ht] <;> rfl
    have HR0 := Lib.hid hR0
    clear hR0
    go_enter Tryd.func77, Tryd.ntmps77
    go_wp2_with fail
    go_ret
    exact ⟨ret_bool HR0.out.symm, HB.out⟩
  have hR0 : R = true := by rw [HR.out]; unfold bare_nil; simp only [hn, hs, ht, hl] <;> rfl
  have HR0 := Lib.hid hR0
  clear hR0
  go_enter Tryd.func77, Tryd.ntmps77
  go_wp2_with fail
  go_ret
  exact ⟨ret_bool HR0.out.symm, HB.out⟩
end Go.Proofs.YtphfekcacaaabaaDoor
