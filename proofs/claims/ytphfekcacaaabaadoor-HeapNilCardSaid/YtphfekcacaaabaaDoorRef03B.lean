/- The document's own answers of layer 3: one, kind by kind. -/
import Derived.Test.YtphfekcacaaabaaDoorRef03A
set_option linter.unusedVariables false
namespace Go.Proofs.YtphfekcacaaabaaDoor
open Go.RowKit

set_option maxHeartbeats 4000000 in
set_option maxRecDepth 100000 in
theorem rone_0 (n : Int) (s t : ByteArray) (A : Option Addr) (len cap : Nat) (hsz : s.size ≤ maxLen) (htz : t.size ≤ maxLen) (w : World) : Calls Tryd.prog 61 #[.agg #[(.int .i8 0), (.int .i64 n), (.string s), (.string t), (.slice A len cap)]] w fun e w' => e = .returned (.bool (ok_integer n s t len)) ∧ Below w.heap.size w w' := by
  obtain ⟨R, hR⟩ : ∃ R, R = ok_integer n s t len := ⟨_, rfl⟩
  have HR := Lib.hid hR
  rw [← hR]
  clear hR
  obtain ⟨w1, hw1⟩ : ∃ w1, w1 = w.alloc (.cells #[(.int .i8 0), (.int .i64 n), (.string s), (.string t), (.slice A len cap)] 25) := ⟨_, rfl⟩
  have g1 : w1.heap[w.heap.size]? = some (.cells #[(.int .i8 0), (.int .i64 n), (.string s), (.string t), (.slice A len cap)] 25 (0, 0)) := by rw [hw1]; exact block_alloc _ _
  have hB : Below w.heap.size w w1 := by rw [hw1]; exact (Below.refl _ _).alloc (Nat.le_refl _) _
  have x0 : w1.cell? ⟨w.heap.size, 0, none⟩ = some (.int .i8 0) := cell_of_row g1 rfl
  have x1 : w1.cell? ⟨w.heap.size, 1, none⟩ = some (.int .i64 n) := cell_of_row g1 rfl
  have x2 : w1.cell? ⟨w.heap.size, 2, none⟩ = some (.string s) := cell_of_row g1 rfl
  have x3 : w1.cell? ⟨w.heap.size, 3, none⟩ = some (.string t) := cell_of_row g1 rfl
  have x4 : w1.cell? ⟨w.heap.size, 4, none⟩ = some (.slice A len cap) := cell_of_row g1 rfl
  have HBA := Lib.hid (rbare_int 0 n s t A len cap w1)
  have HB := Lib.hid hB
  have HG := Lib.hid g1
  clear hB g1 hsz htz
  subst hw1
  cases hb : bare_int n s t len
  case false =>
    have hR0 : R = false := by
      rw [HR.out]
      unfold ok_integer; unfold bare_int at hb
      rw [← Bool.not_eq_true] at hb ⊢
      intro hh
      apply hb
      simp only [Bool.and_eq_true] at hh ⊢
      simp [hh]
    have HR0 := Lib.hid hR0
    have HBB := Lib.hid hb
    clear hR0 hb
    go_enter Tryd.func61, Tryd.ntmps61
    go_wp2_with fail
    refine HBA.out.mono ?_
    rintro e V1 ⟨rfl, b1⟩
    rw [HBB.out]
    have HB1 := Lib.hid (HB.out.trans (b1.mono HB.out.size))
    have g2 := (b1.block _ (heap_lt HG.out)).trans HG.out
    have y0 : V1.cell? ⟨w.heap.size, 0, none⟩ = some (.int .i8 0) := cell_of_row g2 rfl
    have y1 : V1.cell? ⟨w.heap.size, 1, none⟩ = some (.int .i64 n) := cell_of_row g2 rfl
    have y2 : V1.cell? ⟨w.heap.size, 2, none⟩ = some (.string s) := cell_of_row g2 rfl
    have y3 : V1.cell? ⟨w.heap.size, 3, none⟩ = some (.string t) := cell_of_row g2 rfl
    have y4 : V1.cell? ⟨w.heap.size, 4, none⟩ = some (.slice A len cap) := cell_of_row g2 rfl
    clear b1 g2 x0 x1 x2 x3 x4
    go_wp2_with fail
    go_ret
    exact ⟨ret_bool HR0.out.symm, HB1.out⟩
  case true =>
    cases c0 : mayB n
    case false =>
      have hR0 : R = false := by
        rw [HR.out]
        unfold ok_integer; unfold bare_int at hb
        (try simp only [Bool.and_eq_true] at hb)
        simp [hb, c0]
      have HR0 := Lib.hid hR0
      have HBB := Lib.hid hb
      clear hR0 hb
      have HC0 := Lib.hid c0
      clear c0
      go_enter Tryd.func61, Tryd.ntmps61
      go_wp2_with fail
      refine HBA.out.mono ?_
      rintro e V1 ⟨rfl, b1⟩
      rw [HBB.out]
      have HB1 := Lib.hid (HB.out.trans (b1.mono HB.out.size))
      have g2 := (b1.block _ (heap_lt HG.out)).trans HG.out
      have y0 : V1.cell? ⟨w.heap.size, 0, none⟩ = some (.int .i8 0) := cell_of_row g2 rfl
      have y1 : V1.cell? ⟨w.heap.size, 1, none⟩ = some (.int .i64 n) := cell_of_row g2 rfl
      have y2 : V1.cell? ⟨w.heap.size, 2, none⟩ = some (.string s) := cell_of_row g2 rfl
      have y3 : V1.cell? ⟨w.heap.size, 3, none⟩ = some (.string t) := cell_of_row g2 rfl
      have y4 : V1.cell? ⟨w.heap.size, 4, none⟩ = some (.slice A len cap) := cell_of_row g2 rfl
      clear b1 g2 x0 x1 x2 x3 x4
      go_wp2_with fail
      refine (r1May_any _ _).mono ?_
      rintro e V2 ⟨rfl, rfl⟩
      rw [HC0.out]
      go_wp2_with fail
      go_ret
      first | exact ⟨ret_bool HR0.out.symm, HB1.out⟩ | exact ⟨ret_bool (by rw [HR0.out]; simp; omega), HB1.out⟩
    case true =>
      have hR0 : R = true := by
        rw [HR.out]
        unfold ok_integer; unfold bare_int at hb
        (try simp only [Bool.and_eq_true] at hb)
        simp [hb, c0]
      have HR0 := Lib.hid hR0
      have HBB := Lib.hid hb
      clear hR0 hb
      have HC0 := Lib.hid c0
      clear c0
      go_enter Tryd.func61, Tryd.ntmps61
      go_wp2_with fail
      refine HBA.out.mono ?_
      rintro e V1 ⟨rfl, b1⟩
      rw [HBB.out]
      have HB1 := Lib.hid (HB.out.trans (b1.mono HB.out.size))
      have g2 := (b1.block _ (heap_lt HG.out)).trans HG.out
      have y0 : V1.cell? ⟨w.heap.size, 0, none⟩ = some (.int .i8 0) := cell_of_row g2 rfl
      have y1 : V1.cell? ⟨w.heap.size, 1, none⟩ = some (.int .i64 n) := cell_of_row g2 rfl
      have y2 : V1.cell? ⟨w.heap.size, 2, none⟩ = some (.string s) := cell_of_row g2 rfl
      have y3 : V1.cell? ⟨w.heap.size, 3, none⟩ = some (.string t) := cell_of_row g2 rfl
      have y4 : V1.cell? ⟨w.heap.size, 4, none⟩ = some (.slice A len cap) := cell_of_row g2 rfl
      clear b1 g2 x0 x1 x2 x3 x4
      go_wp2_with fail
      refine (r1May_any _ _).mono ?_
      rintro e V2 ⟨rfl, rfl⟩
      rw [HC0.out]
      go_wp2_with fail
      go_ret
      first | exact ⟨ret_bool HR0.out.symm, HB1.out⟩ | exact ⟨ret_bool (by rw [HR0.out]; simp; omega), HB1.out⟩

set_option maxHeartbeats 4000000 in
set_option maxRecDepth 100000 in
theorem rone_1 (n : Int) (s t : ByteArray) (A : Option Addr) (len cap : Nat) (hsz : s.size ≤ maxLen) (htz : t.size ≤ maxLen) (w : World) : Calls Tryd.prog 61 #[.agg #[(.int .i8 1), (.int .i64 n), (.string s), (.string t), (.slice A len cap)]] w fun e w' => e = .returned (.bool (ok_atom n s t len)) ∧ Below w.heap.size w w' := by
  obtain ⟨R, hR⟩ : ∃ R, R = ok_atom n s t len := ⟨_, rfl⟩
  have HR := Lib.hid hR
  rw [← hR]
  clear hR
  obtain ⟨w1, hw1⟩ : ∃ w1, w1 = w.alloc (.cells #[(.int .i8 1), (.int .i64 n), (.string s), (.string t), (.slice A len cap)] 25) := ⟨_, rfl⟩
  have g1 : w1.heap[w.heap.size]? = some (.cells #[(.int .i8 1), (.int .i64 n), (.string s), (.string t), (.slice A len cap)] 25 (0, 0)) := by rw [hw1]; exact block_alloc _ _
  have hB : Below w.heap.size w w1 := by rw [hw1]; exact (Below.refl _ _).alloc (Nat.le_refl _) _
  have x0 : w1.cell? ⟨w.heap.size, 0, none⟩ = some (.int .i8 1) := cell_of_row g1 rfl
  have x1 : w1.cell? ⟨w.heap.size, 1, none⟩ = some (.int .i64 n) := cell_of_row g1 rfl
  have x2 : w1.cell? ⟨w.heap.size, 2, none⟩ = some (.string s) := cell_of_row g1 rfl
  have x3 : w1.cell? ⟨w.heap.size, 3, none⟩ = some (.string t) := cell_of_row g1 rfl
  have x4 : w1.cell? ⟨w.heap.size, 4, none⟩ = some (.slice A len cap) := cell_of_row g1 rfl
  have HBA := Lib.hid (rbare_atom 1 n s t A len cap w1)
  have HB := Lib.hid hB
  have HG := Lib.hid g1
  have HN0 := Lib.hid (fun V => rMay_any s V hsz)
  clear hB g1 hsz htz
  subst hw1
  cases hb : bare_atom n s t len
  case false =>
    have hR0 : R = false := by
      rw [HR.out]
      unfold ok_atom; unfold bare_atom at hb
      rw [← Bool.not_eq_true] at hb ⊢
      intro hh
      apply hb
      simp only [Bool.and_eq_true] at hh ⊢
      simp [hh]
    have HR0 := Lib.hid hR0
    have HBB := Lib.hid hb
    clear hR0 hb
    go_enter Tryd.func61, Tryd.ntmps61
    go_wp2_with fail
    refine HBA.out.mono ?_
    rintro e V1 ⟨rfl, b1⟩
    rw [HBB.out]
    have HB1 := Lib.hid (HB.out.trans (b1.mono HB.out.size))
    have g2 := (b1.block _ (heap_lt HG.out)).trans HG.out
    have y0 : V1.cell? ⟨w.heap.size, 0, none⟩ = some (.int .i8 1) := cell_of_row g2 rfl
    have y1 : V1.cell? ⟨w.heap.size, 1, none⟩ = some (.int .i64 n) := cell_of_row g2 rfl
    have y2 : V1.cell? ⟨w.heap.size, 2, none⟩ = some (.string s) := cell_of_row g2 rfl
    have y3 : V1.cell? ⟨w.heap.size, 3, none⟩ = some (.string t) := cell_of_row g2 rfl
    have y4 : V1.cell? ⟨w.heap.size, 4, none⟩ = some (.slice A len cap) := cell_of_row g2 rfl
    clear b1 g2 x0 x1 x2 x3 x4
    go_wp2_with fail
    go_ret
    exact ⟨ret_bool HR0.out.symm, HB1.out⟩
  case true =>
    cases c0 : nameB s 2
    case false =>
      have hR0 : R = false := by
        rw [HR.out]
        unfold ok_atom; unfold bare_atom at hb
        (try simp only [Bool.and_eq_true] at hb)
        simp [hb, c0]
      have HR0 := Lib.hid hR0
      have HBB := Lib.hid hb
      clear hR0 hb
      have HC0 := Lib.hid c0
      clear c0
      go_enter Tryd.func61, Tryd.ntmps61
      go_wp2_with fail
      refine HBA.out.mono ?_
      rintro e V1 ⟨rfl, b1⟩
      rw [HBB.out]
      have HB1 := Lib.hid (HB.out.trans (b1.mono HB.out.size))
      have g2 := (b1.block _ (heap_lt HG.out)).trans HG.out
      have y0 : V1.cell? ⟨w.heap.size, 0, none⟩ = some (.int .i8 1) := cell_of_row g2 rfl
      have y1 : V1.cell? ⟨w.heap.size, 1, none⟩ = some (.int .i64 n) := cell_of_row g2 rfl
      have y2 : V1.cell? ⟨w.heap.size, 2, none⟩ = some (.string s) := cell_of_row g2 rfl
      have y3 : V1.cell? ⟨w.heap.size, 3, none⟩ = some (.string t) := cell_of_row g2 rfl
      have y4 : V1.cell? ⟨w.heap.size, 4, none⟩ = some (.slice A len cap) := cell_of_row g2 rfl
      clear b1 g2 x0 x1 x2 x3 x4
      go_wp2_with fail
      refine (HN0.out _).mono ?_
      rintro e V2 ⟨rfl, rfl⟩
      rw [HC0.out]
      go_wp2_with fail
      go_ret
      first | exact ⟨ret_bool HR0.out.symm, HB1.out⟩ | exact ⟨ret_bool (by rw [HR0.out]; simp; omega), HB1.out⟩
    case true =>
      have hR0 : R = true := by
        rw [HR.out]
        unfold ok_atom; unfold bare_atom at hb
        (try simp only [Bool.and_eq_true] at hb)
        simp [hb, c0]
      have HR0 := Lib.hid hR0
      have HBB := Lib.hid hb
      clear hR0 hb
      have HC0 := Lib.hid c0
      clear c0
      go_enter Tryd.func61, Tryd.ntmps61
      go_wp2_with fail
      refine HBA.out.mono ?_
      rintro e V1 ⟨rfl, b1⟩
      rw [HBB.out]
      have HB1 := Lib.hid (HB.out.trans (b1.mono HB.out.size))
      have g2 := (b1.block _ (heap_lt HG.out)).trans HG.out
      have y0 : V1.cell? ⟨w.heap.size, 0, none⟩ = some (.int .i8 1) := cell_of_row g2 rfl
      have y1 : V1.cell? ⟨w.heap.size, 1, none⟩ = some (.int .i64 n) := cell_of_row g2 rfl
      have y2 : V1.cell? ⟨w.heap.size, 2, none⟩ = some (.string s) := cell_of_row g2 rfl
      have y3 : V1.cell? ⟨w.heap.size, 3, none⟩ = some (.string t) := cell_of_row g2 rfl
      have y4 : V1.cell? ⟨w.heap.size, 4, none⟩ = some (.slice A len cap) := cell_of_row g2 rfl
      clear b1 g2 x0 x1 x2 x3 x4
      go_wp2_with fail
      refine (HN0.out _).mono ?_
      rintro e V2 ⟨rfl, rfl⟩
      rw [HC0.out]
      go_wp2_with fail
      go_ret
      first | exact ⟨ret_bool HR0.out.symm, HB1.out⟩ | exact ⟨ret_bool (by rw [HR0.out]; simp; omega), HB1.out⟩

set_option maxHeartbeats 4000000 in
set_option maxRecDepth 100000 in
theorem rone_2 (n : Int) (s t : ByteArray) (A : Option Addr) (len cap : Nat) (hsz : s.size ≤ maxLen) (htz : t.size ≤ maxLen) (w : World) : Calls Tryd.prog 61 #[.agg #[(.int .i8 2), (.int .i64 n), (.string s), (.string t), (.slice A len cap)]] w fun e w' => e = .returned (.bool (ok_ref n s t len)) ∧ Below w.heap.size w w' := by
  obtain ⟨R, hR⟩ : ∃ R, R = ok_ref n s t len := ⟨_, rfl⟩
  have HR := Lib.hid hR
  rw [← hR]
  clear hR
  obtain ⟨w1, hw1⟩ : ∃ w1, w1 = w.alloc (.cells #[(.int .i8 2), (.int .i64 n), (.string s), (.string t), (.slice A len cap)] 25) := ⟨_, rfl⟩
  have g1 : w1.heap[w.heap.size]? = some (.cells #[(.int .i8 2), (.int .i64 n), (.string s), (.string t), (.slice A len cap)] 25 (0, 0)) := by rw [hw1]; exact block_alloc _ _
  have hB : Below w.heap.size w w1 := by rw [hw1]; exact (Below.refl _ _).alloc (Nat.le_refl _) _
  have x0 : w1.cell? ⟨w.heap.size, 0, none⟩ = some (.int .i8 2) := cell_of_row g1 rfl
  have x1 : w1.cell? ⟨w.heap.size, 1, none⟩ = some (.int .i64 n) := cell_of_row g1 rfl
  have x2 : w1.cell? ⟨w.heap.size, 2, none⟩ = some (.string s) := cell_of_row g1 rfl
  have x3 : w1.cell? ⟨w.heap.size, 3, none⟩ = some (.string t) := cell_of_row g1 rfl
  have x4 : w1.cell? ⟨w.heap.size, 4, none⟩ = some (.slice A len cap) := cell_of_row g1 rfl
  have HBA := Lib.hid (rbare_int 2 n s t A len cap w1)
  have HB := Lib.hid hB
  have HG := Lib.hid g1
  clear hB g1 hsz htz
  subst hw1
  cases hb : bare_int n s t len
  case false =>
    have hR0 : R = false := by
      rw [HR.out]
      unfold ok_ref; unfold bare_int at hb
      rw [← Bool.not_eq_true] at hb ⊢
      intro hh
      apply hb
      simp only [Bool.and_eq_true] at hh ⊢
      simp [hh]
    have HR0 := Lib.hid hR0
    have HBB := Lib.hid hb
    clear hR0 hb
    go_enter Tryd.func61, Tryd.ntmps61
    go_wp2_with fail
    refine HBA.out.mono ?_
    rintro e V1 ⟨rfl, b1⟩
    rw [HBB.out]
    have HB1 := Lib.hid (HB.out.trans (b1.mono HB.out.size))
    have g2 := (b1.block _ (heap_lt HG.out)).trans HG.out
    have y0 : V1.cell? ⟨w.heap.size, 0, none⟩ = some (.int .i8 2) := cell_of_row g2 rfl
    have y1 : V1.cell? ⟨w.heap.size, 1, none⟩ = some (.int .i64 n) := cell_of_row g2 rfl
    have y2 : V1.cell? ⟨w.heap.size, 2, none⟩ = some (.string s) := cell_of_row g2 rfl
    have y3 : V1.cell? ⟨w.heap.size, 3, none⟩ = some (.string t) := cell_of_row g2 rfl
    have y4 : V1.cell? ⟨w.heap.size, 4, none⟩ = some (.slice A len cap) := cell_of_row g2 rfl
    clear b1 g2 x0 x1 x2 x3 x4
    go_wp2_with fail
    go_ret
    exact ⟨ret_bool HR0.out.symm, HB1.out⟩
  case true =>
    by_cases p0 : 0 ≤ n
    case neg =>
      have hR0 : R = false := by
        rw [HR.out]
        unfold ok_ref; unfold bare_int at hb
        (try simp only [Bool.and_eq_true] at hb)
        simp [hb, p0, pidB]
      have HR0 := Lib.hid hR0
      have HBB := Lib.hid hb
      clear hR0 hb
      go_enter Tryd.func61, Tryd.ntmps61
      go_wp2_with fail
      refine HBA.out.mono ?_
      rintro e V1 ⟨rfl, b1⟩
      rw [HBB.out]
      have HB1 := Lib.hid (HB.out.trans (b1.mono HB.out.size))
      have g2 := (b1.block _ (heap_lt HG.out)).trans HG.out
      have y0 : V1.cell? ⟨w.heap.size, 0, none⟩ = some (.int .i8 2) := cell_of_row g2 rfl
      have y1 : V1.cell? ⟨w.heap.size, 1, none⟩ = some (.int .i64 n) := cell_of_row g2 rfl
      have y2 : V1.cell? ⟨w.heap.size, 2, none⟩ = some (.string s) := cell_of_row g2 rfl
      have y3 : V1.cell? ⟨w.heap.size, 3, none⟩ = some (.string t) := cell_of_row g2 rfl
      have y4 : V1.cell? ⟨w.heap.size, 4, none⟩ = some (.slice A len cap) := cell_of_row g2 rfl
      clear b1 g2 x0 x1 x2 x3 x4
      go_wp2_with fail
      go_ret
      first | exact ⟨ret_bool HR0.out.symm, HB1.out⟩ | exact ⟨ret_bool (by rw [HR0.out]; simp; omega), HB1.out⟩
    case pos =>
      by_cases p1 : n ≤ 576460752303423487
      case neg =>
        have hR0 : R = false := by
          rw [HR.out]
          unfold ok_ref; unfold bare_int at hb
          (try simp only [Bool.and_eq_true] at hb)
          simp [hb, p0, pidB, p1, pidB]
        have HR0 := Lib.hid hR0
        have HBB := Lib.hid hb
        clear hR0 hb
        go_enter Tryd.func61, Tryd.ntmps61
        go_wp2_with fail
        refine HBA.out.mono ?_
        rintro e V1 ⟨rfl, b1⟩
        rw [HBB.out]
        have HB1 := Lib.hid (HB.out.trans (b1.mono HB.out.size))
        have g2 := (b1.block _ (heap_lt HG.out)).trans HG.out
        have y0 : V1.cell? ⟨w.heap.size, 0, none⟩ = some (.int .i8 2) := cell_of_row g2 rfl
        have y1 : V1.cell? ⟨w.heap.size, 1, none⟩ = some (.int .i64 n) := cell_of_row g2 rfl
        have y2 : V1.cell? ⟨w.heap.size, 2, none⟩ = some (.string s) := cell_of_row g2 rfl
        have y3 : V1.cell? ⟨w.heap.size, 3, none⟩ = some (.string t) := cell_of_row g2 rfl
        have y4 : V1.cell? ⟨w.heap.size, 4, none⟩ = some (.slice A len cap) := cell_of_row g2 rfl
        clear b1 g2 x0 x1 x2 x3 x4
        go_wp2_with fail
        go_ret
        first | exact ⟨ret_bool HR0.out.symm, HB1.out⟩ | exact ⟨ret_bool (by rw [HR0.out]; simp; omega), HB1.out⟩
      case pos =>
        have hR0 : R = true := by
          rw [HR.out]
          unfold ok_ref; unfold bare_int at hb
          (try simp only [Bool.and_eq_true] at hb)
          simp [hb, p0, pidB, p1, pidB]
        have HR0 := Lib.hid hR0
        have HBB := Lib.hid hb
        clear hR0 hb
        go_enter Tryd.func61, Tryd.ntmps61
        go_wp2_with fail
        refine HBA.out.mono ?_
        rintro e V1 ⟨rfl, b1⟩
        rw [HBB.out]
        have HB1 := Lib.hid (HB.out.trans (b1.mono HB.out.size))
        have g2 := (b1.block _ (heap_lt HG.out)).trans HG.out
        have y0 : V1.cell? ⟨w.heap.size, 0, none⟩ = some (.int .i8 2) := cell_of_row g2 rfl
        have y1 : V1.cell? ⟨w.heap.size, 1, none⟩ = some (.int .i64 n) := cell_of_row g2 rfl
        have y2 : V1.cell? ⟨w.heap.size, 2, none⟩ = some (.string s) := cell_of_row g2 rfl
        have y3 : V1.cell? ⟨w.heap.size, 3, none⟩ = some (.string t) := cell_of_row g2 rfl
        have y4 : V1.cell? ⟨w.heap.size, 4, none⟩ = some (.slice A len cap) := cell_of_row g2 rfl
        clear b1 g2 x0 x1 x2 x3 x4
        go_wp2_with fail
        go_ret
        first | exact ⟨ret_bool HR0.out.symm, HB1.out⟩ | exact ⟨ret_bool (by rw [HR0.out]; simp; omega), HB1.out⟩

set_option maxHeartbeats 4000000 in
set_option maxRecDepth 100000 in
theorem rone_4 (n : Int) (s t : ByteArray) (A : Option Addr) (len cap : Nat) (hsz : s.size ≤ maxLen) (htz : t.size ≤ maxLen) (w : World) : Calls Tryd.prog 61 #[.agg #[(.int .i8 4), (.int .i64 n), (.string s), (.string t), (.slice A len cap)]] w fun e w' => e = .returned (.bool (ok_pid n s t len)) ∧ Below w.heap.size w w' := by
  obtain ⟨R, hR⟩ : ∃ R, R = ok_pid n s t len := ⟨_, rfl⟩
  have HR := Lib.hid hR
  rw [← hR]
  clear hR
  obtain ⟨w1, hw1⟩ : ∃ w1, w1 = w.alloc (.cells #[(.int .i8 4), (.int .i64 n), (.string s), (.string t), (.slice A len cap)] 25) := ⟨_, rfl⟩
  have g1 : w1.heap[w.heap.size]? = some (.cells #[(.int .i8 4), (.int .i64 n), (.string s), (.string t), (.slice A len cap)] 25 (0, 0)) := by rw [hw1]; exact block_alloc _ _
  have hB : Below w.heap.size w w1 := by rw [hw1]; exact (Below.refl _ _).alloc (Nat.le_refl _) _
  have x0 : w1.cell? ⟨w.heap.size, 0, none⟩ = some (.int .i8 4) := cell_of_row g1 rfl
  have x1 : w1.cell? ⟨w.heap.size, 1, none⟩ = some (.int .i64 n) := cell_of_row g1 rfl
  have x2 : w1.cell? ⟨w.heap.size, 2, none⟩ = some (.string s) := cell_of_row g1 rfl
  have x3 : w1.cell? ⟨w.heap.size, 3, none⟩ = some (.string t) := cell_of_row g1 rfl
  have x4 : w1.cell? ⟨w.heap.size, 4, none⟩ = some (.slice A len cap) := cell_of_row g1 rfl
  have HBA := Lib.hid (rbare_int 4 n s t A len cap w1)
  have HB := Lib.hid hB
  have HG := Lib.hid g1
  clear hB g1 hsz htz
  subst hw1
  cases hb : bare_int n s t len
  case false =>
    have hR0 : R = false := by
      rw [HR.out]
      unfold ok_pid; unfold bare_int at hb
      rw [← Bool.not_eq_true] at hb ⊢
      intro hh
      apply hb
      simp only [Bool.and_eq_true] at hh ⊢
      simp [hh]
    have HR0 := Lib.hid hR0
    have HBB := Lib.hid hb
    clear hR0 hb
    go_enter Tryd.func61, Tryd.ntmps61
    go_wp2_with fail
    refine HBA.out.mono ?_
    rintro e V1 ⟨rfl, b1⟩
    rw [HBB.out]
    have HB1 := Lib.hid (HB.out.trans (b1.mono HB.out.size))
    have g2 := (b1.block _ (heap_lt HG.out)).trans HG.out
    have y0 : V1.cell? ⟨w.heap.size, 0, none⟩ = some (.int .i8 4) := cell_of_row g2 rfl
    have y1 : V1.cell? ⟨w.heap.size, 1, none⟩ = some (.int .i64 n) := cell_of_row g2 rfl
    have y2 : V1.cell? ⟨w.heap.size, 2, none⟩ = some (.string s) := cell_of_row g2 rfl
    have y3 : V1.cell? ⟨w.heap.size, 3, none⟩ = some (.string t) := cell_of_row g2 rfl
    have y4 : V1.cell? ⟨w.heap.size, 4, none⟩ = some (.slice A len cap) := cell_of_row g2 rfl
    clear b1 g2 x0 x1 x2 x3 x4
    go_wp2_with fail
    go_ret
    exact ⟨ret_bool HR0.out.symm, HB1.out⟩
  case true =>
    by_cases p0 : 0 ≤ n
    case neg =>
      have hR0 : R = false := by
        rw [HR.out]
        unfold ok_pid; unfold bare_int at hb
        (try simp only [Bool.and_eq_true] at hb)
        simp [hb, p0, pidB]
      have HR0 := Lib.hid hR0
      have HBB := Lib.hid hb
      clear hR0 hb
      go_enter Tryd.func61, Tryd.ntmps61
      go_wp2_with fail
      refine HBA.out.mono ?_
      rintro e V1 ⟨rfl, b1⟩
      rw [HBB.out]
      have HB1 := Lib.hid (HB.out.trans (b1.mono HB.out.size))
      have g2 := (b1.block _ (heap_lt HG.out)).trans HG.out
      have y0 : V1.cell? ⟨w.heap.size, 0, none⟩ = some (.int .i8 4) := cell_of_row g2 rfl
      have y1 : V1.cell? ⟨w.heap.size, 1, none⟩ = some (.int .i64 n) := cell_of_row g2 rfl
      have y2 : V1.cell? ⟨w.heap.size, 2, none⟩ = some (.string s) := cell_of_row g2 rfl
      have y3 : V1.cell? ⟨w.heap.size, 3, none⟩ = some (.string t) := cell_of_row g2 rfl
      have y4 : V1.cell? ⟨w.heap.size, 4, none⟩ = some (.slice A len cap) := cell_of_row g2 rfl
      clear b1 g2 x0 x1 x2 x3 x4
      go_wp2_with fail
      go_ret
      first | exact ⟨ret_bool HR0.out.symm, HB1.out⟩ | exact ⟨ret_bool (by rw [HR0.out]; simp; omega), HB1.out⟩
    case pos =>
      by_cases p1 : n ≤ 576460752303423487
      case neg =>
        have hR0 : R = false := by
          rw [HR.out]
          unfold ok_pid; unfold bare_int at hb
          (try simp only [Bool.and_eq_true] at hb)
          simp [hb, p0, pidB, p1, pidB]
        have HR0 := Lib.hid hR0
        have HBB := Lib.hid hb
        clear hR0 hb
        go_enter Tryd.func61, Tryd.ntmps61
        go_wp2_with fail
        refine HBA.out.mono ?_
        rintro e V1 ⟨rfl, b1⟩
        rw [HBB.out]
        have HB1 := Lib.hid (HB.out.trans (b1.mono HB.out.size))
        have g2 := (b1.block _ (heap_lt HG.out)).trans HG.out
        have y0 : V1.cell? ⟨w.heap.size, 0, none⟩ = some (.int .i8 4) := cell_of_row g2 rfl
        have y1 : V1.cell? ⟨w.heap.size, 1, none⟩ = some (.int .i64 n) := cell_of_row g2 rfl
        have y2 : V1.cell? ⟨w.heap.size, 2, none⟩ = some (.string s) := cell_of_row g2 rfl
        have y3 : V1.cell? ⟨w.heap.size, 3, none⟩ = some (.string t) := cell_of_row g2 rfl
        have y4 : V1.cell? ⟨w.heap.size, 4, none⟩ = some (.slice A len cap) := cell_of_row g2 rfl
        clear b1 g2 x0 x1 x2 x3 x4
        go_wp2_with fail
        go_ret
        first | exact ⟨ret_bool HR0.out.symm, HB1.out⟩ | exact ⟨ret_bool (by rw [HR0.out]; simp; omega), HB1.out⟩
      case pos =>
        have hR0 : R = true := by
          rw [HR.out]
          unfold ok_pid; unfold bare_int at hb
          (try simp only [Bool.and_eq_true] at hb)
          simp [hb, p0, pidB, p1, pidB]
        have HR0 := Lib.hid hR0
        have HBB := Lib.hid hb
        clear hR0 hb
        go_enter Tryd.func61, Tryd.ntmps61
        go_wp2_with fail
        refine HBA.out.mono ?_
        rintro e V1 ⟨rfl, b1⟩
        rw [HBB.out]
        have HB1 := Lib.hid (HB.out.trans (b1.mono HB.out.size))
        have g2 := (b1.block _ (heap_lt HG.out)).trans HG.out
        have y0 : V1.cell? ⟨w.heap.size, 0, none⟩ = some (.int .i8 4) := cell_of_row g2 rfl
        have y1 : V1.cell? ⟨w.heap.size, 1, none⟩ = some (.int .i64 n) := cell_of_row g2 rfl
        have y2 : V1.cell? ⟨w.heap.size, 2, none⟩ = some (.string s) := cell_of_row g2 rfl
        have y3 : V1.cell? ⟨w.heap.size, 3, none⟩ = some (.string t) := cell_of_row g2 rfl
        have y4 : V1.cell? ⟨w.heap.size, 4, none⟩ = some (.slice A len cap) := cell_of_row g2 rfl
        clear b1 g2 x0 x1 x2 x3 x4
        go_wp2_with fail
        go_ret
        first | exact ⟨ret_bool HR0.out.symm, HB1.out⟩ | exact ⟨ret_bool (by rw [HR0.out]; simp; omega), HB1.out⟩

set_option maxHeartbeats 4000000 in
set_option maxRecDepth 100000 in
theorem rone_3 (n : Int) (s t : ByteArray) (A : Option Addr) (len cap : Nat) (hsz : s.size ≤ maxLen) (htz : t.size ≤ maxLen) (w : World) : Calls Tryd.prog 61 #[.agg #[(.int .i8 3), (.int .i64 n), (.string s), (.string t), (.slice A len cap)]] w fun e w' => e = .returned (.bool (ok_fun n s t len)) ∧ Below w.heap.size w w' := by
  obtain ⟨R, hR⟩ : ∃ R, R = ok_fun n s t len := ⟨_, rfl⟩
  have HR := Lib.hid hR
  rw [← hR]
  clear hR
  obtain ⟨w1, hw1⟩ : ∃ w1, w1 = w.alloc (.cells #[(.int .i8 3), (.int .i64 n), (.string s), (.string t), (.slice A len cap)] 25) := ⟨_, rfl⟩
  have g1 : w1.heap[w.heap.size]? = some (.cells #[(.int .i8 3), (.int .i64 n), (.string s), (.string t), (.slice A len cap)] 25 (0, 0)) := by rw [hw1]; exact block_alloc _ _
  have hB : Below w.heap.size w w1 := by rw [hw1]; exact (Below.refl _ _).alloc (Nat.le_refl _) _
  have x0 : w1.cell? ⟨w.heap.size, 0, none⟩ = some (.int .i8 3) := cell_of_row g1 rfl
  have x1 : w1.cell? ⟨w.heap.size, 1, none⟩ = some (.int .i64 n) := cell_of_row g1 rfl
  have x2 : w1.cell? ⟨w.heap.size, 2, none⟩ = some (.string s) := cell_of_row g1 rfl
  have x3 : w1.cell? ⟨w.heap.size, 3, none⟩ = some (.string t) := cell_of_row g1 rfl
  have x4 : w1.cell? ⟨w.heap.size, 4, none⟩ = some (.slice A len cap) := cell_of_row g1 rfl
  have HBA := Lib.hid (rbare_fun 3 n s t A len cap w1)
  have HB := Lib.hid hB
  have HG := Lib.hid g1
  have HN0 := Lib.hid (fun V => rMay_any s V hsz)
  have HN1 := Lib.hid (fun V => rMay_any t V htz)
  clear hB g1 hsz htz
  subst hw1
  cases hb : bare_fun n s t len
  case false =>
    have hR0 : R = false := by
      rw [HR.out]
      unfold ok_fun; unfold bare_fun at hb
      rw [← Bool.not_eq_true] at hb ⊢
      intro hh
      apply hb
      simp only [Bool.and_eq_true] at hh ⊢
      simp [hh]
    have HR0 := Lib.hid hR0
    have HBB := Lib.hid hb
    clear hR0 hb
    go_enter Tryd.func61, Tryd.ntmps61
    go_wp2_with fail
    refine HBA.out.mono ?_
    rintro e V1 ⟨rfl, b1⟩
    rw [HBB.out]
    have HB1 := Lib.hid (HB.out.trans (b1.mono HB.out.size))
    have g2 := (b1.block _ (heap_lt HG.out)).trans HG.out
    have y0 : V1.cell? ⟨w.heap.size, 0, none⟩ = some (.int .i8 3) := cell_of_row g2 rfl
    have y1 : V1.cell? ⟨w.heap.size, 1, none⟩ = some (.int .i64 n) := cell_of_row g2 rfl
    have y2 : V1.cell? ⟨w.heap.size, 2, none⟩ = some (.string s) := cell_of_row g2 rfl
    have y3 : V1.cell? ⟨w.heap.size, 3, none⟩ = some (.string t) := cell_of_row g2 rfl
    have y4 : V1.cell? ⟨w.heap.size, 4, none⟩ = some (.slice A len cap) := cell_of_row g2 rfl
    clear b1 g2 x0 x1 x2 x3 x4
    go_wp2_with fail
    go_ret
    exact ⟨ret_bool HR0.out.symm, HB1.out⟩
  case true =>
    cases c0 : nameB s 2
    case false =>
      have hR0 : R = false := by
        rw [HR.out]
        unfold ok_fun; unfold bare_fun at hb
        (try simp only [Bool.and_eq_true] at hb)
        simp [hb, c0]
      have HR0 := Lib.hid hR0
      have HBB := Lib.hid hb
      clear hR0 hb
      have HC0 := Lib.hid c0
      clear c0
      go_enter Tryd.func61, Tryd.ntmps61
      go_wp2_with fail
      refine HBA.out.mono ?_
      rintro e V1 ⟨rfl, b1⟩
      rw [HBB.out]
      have HB1 := Lib.hid (HB.out.trans (b1.mono HB.out.size))
      have g2 := (b1.block _ (heap_lt HG.out)).trans HG.out
      have y0 : V1.cell? ⟨w.heap.size, 0, none⟩ = some (.int .i8 3) := cell_of_row g2 rfl
      have y1 : V1.cell? ⟨w.heap.size, 1, none⟩ = some (.int .i64 n) := cell_of_row g2 rfl
      have y2 : V1.cell? ⟨w.heap.size, 2, none⟩ = some (.string s) := cell_of_row g2 rfl
      have y3 : V1.cell? ⟨w.heap.size, 3, none⟩ = some (.string t) := cell_of_row g2 rfl
      have y4 : V1.cell? ⟨w.heap.size, 4, none⟩ = some (.slice A len cap) := cell_of_row g2 rfl
      clear b1 g2 x0 x1 x2 x3 x4
      go_wp2_with fail
      refine (HN0.out _).mono ?_
      rintro e V2 ⟨rfl, rfl⟩
      rw [HC0.out]
      go_wp2_with fail
      go_ret
      first | exact ⟨ret_bool HR0.out.symm, HB1.out⟩ | exact ⟨ret_bool (by rw [HR0.out]; simp; omega), HB1.out⟩
    case true =>
      cases c1 : nameB t 2
      case false =>
        have hR0 : R = false := by
          rw [HR.out]
          unfold ok_fun; unfold bare_fun at hb
          (try simp only [Bool.and_eq_true] at hb)
          simp [hb, c0, c1]
        have HR0 := Lib.hid hR0
        have HBB := Lib.hid hb
        clear hR0 hb
        have HC0 := Lib.hid c0
        clear c0
        have HC1 := Lib.hid c1
        clear c1
        go_enter Tryd.func61, Tryd.ntmps61
        go_wp2_with fail
        refine HBA.out.mono ?_
        rintro e V1 ⟨rfl, b1⟩
        rw [HBB.out]
        have HB1 := Lib.hid (HB.out.trans (b1.mono HB.out.size))
        have g2 := (b1.block _ (heap_lt HG.out)).trans HG.out
        have y0 : V1.cell? ⟨w.heap.size, 0, none⟩ = some (.int .i8 3) := cell_of_row g2 rfl
        have y1 : V1.cell? ⟨w.heap.size, 1, none⟩ = some (.int .i64 n) := cell_of_row g2 rfl
        have y2 : V1.cell? ⟨w.heap.size, 2, none⟩ = some (.string s) := cell_of_row g2 rfl
        have y3 : V1.cell? ⟨w.heap.size, 3, none⟩ = some (.string t) := cell_of_row g2 rfl
        have y4 : V1.cell? ⟨w.heap.size, 4, none⟩ = some (.slice A len cap) := cell_of_row g2 rfl
        clear b1 g2 x0 x1 x2 x3 x4
        go_wp2_with fail
        refine (HN0.out _).mono ?_
        rintro e V2 ⟨rfl, rfl⟩
        rw [HC0.out]
        go_wp2_with fail
        refine (HN1.out _).mono ?_
        rintro e V2 ⟨rfl, rfl⟩
        rw [HC1.out]
        go_wp2_with fail
        go_ret
        first | exact ⟨ret_bool HR0.out.symm, HB1.out⟩ | exact ⟨ret_bool (by rw [HR0.out]; simp; omega), HB1.out⟩
      case true =>
        by_cases p0 : 0 ≤ n
        case neg =>
          have hR0 : R = false := by
            rw [HR.out]
            unfold ok_fun; unfold bare_fun at hb
            (try simp only [Bool.and_eq_true] at hb)
            simp [hb, c0, c1, p0, arB]
          have HR0 := Lib.hid hR0
          have HBB := Lib.hid hb
          clear hR0 hb
          have HC0 := Lib.hid c0
          clear c0
          have HC1 := Lib.hid c1
          clear c1
          go_enter Tryd.func61, Tryd.ntmps61
          go_wp2_with fail
          refine HBA.out.mono ?_
          rintro e V1 ⟨rfl, b1⟩
          rw [HBB.out]
          have HB1 := Lib.hid (HB.out.trans (b1.mono HB.out.size))
          have g2 := (b1.block _ (heap_lt HG.out)).trans HG.out
          have y0 : V1.cell? ⟨w.heap.size, 0, none⟩ = some (.int .i8 3) := cell_of_row g2 rfl
          have y1 : V1.cell? ⟨w.heap.size, 1, none⟩ = some (.int .i64 n) := cell_of_row g2 rfl
          have y2 : V1.cell? ⟨w.heap.size, 2, none⟩ = some (.string s) := cell_of_row g2 rfl
          have y3 : V1.cell? ⟨w.heap.size, 3, none⟩ = some (.string t) := cell_of_row g2 rfl
          have y4 : V1.cell? ⟨w.heap.size, 4, none⟩ = some (.slice A len cap) := cell_of_row g2 rfl
          clear b1 g2 x0 x1 x2 x3 x4
          go_wp2_with fail
          refine (HN0.out _).mono ?_
          rintro e V2 ⟨rfl, rfl⟩
          rw [HC0.out]
          go_wp2_with fail
          refine (HN1.out _).mono ?_
          rintro e V2 ⟨rfl, rfl⟩
          rw [HC1.out]
          go_wp2_with fail
          go_ret
          first | exact ⟨ret_bool HR0.out.symm, HB1.out⟩ | exact ⟨ret_bool (by rw [HR0.out]; simp; omega), HB1.out⟩
        case pos =>
          by_cases p1 : n ≤ 8
          case neg =>
            have hR0 : R = false := by
              rw [HR.out]
              unfold ok_fun; unfold bare_fun at hb
              (try simp only [Bool.and_eq_true] at hb)
              simp [hb, c0, c1, p0, arB, p1, arB]
            have HR0 := Lib.hid hR0
            have HBB := Lib.hid hb
            clear hR0 hb
            have HC0 := Lib.hid c0
            clear c0
            have HC1 := Lib.hid c1
            clear c1
            go_enter Tryd.func61, Tryd.ntmps61
            go_wp2_with fail
            refine HBA.out.mono ?_
            rintro e V1 ⟨rfl, b1⟩
            rw [HBB.out]
            have HB1 := Lib.hid (HB.out.trans (b1.mono HB.out.size))
            have g2 := (b1.block _ (heap_lt HG.out)).trans HG.out
            have y0 : V1.cell? ⟨w.heap.size, 0, none⟩ = some (.int .i8 3) := cell_of_row g2 rfl
            have y1 : V1.cell? ⟨w.heap.size, 1, none⟩ = some (.int .i64 n) := cell_of_row g2 rfl
            have y2 : V1.cell? ⟨w.heap.size, 2, none⟩ = some (.string s) := cell_of_row g2 rfl
            have y3 : V1.cell? ⟨w.heap.size, 3, none⟩ = some (.string t) := cell_of_row g2 rfl
            have y4 : V1.cell? ⟨w.heap.size, 4, none⟩ = some (.slice A len cap) := cell_of_row g2 rfl
            clear b1 g2 x0 x1 x2 x3 x4
            go_wp2_with fail
            refine (HN0.out _).mono ?_
            rintro e V2 ⟨rfl, rfl⟩
            rw [HC0.out]
            go_wp2_with fail
            refine (HN1.out _).mono ?_
            rintro e V2 ⟨rfl, rfl⟩
            rw [HC1.out]
            go_wp2_with fail
            go_ret
            first | exact ⟨ret_bool HR0.out.symm, HB1.out⟩ | exact ⟨ret_bool (by rw [HR0.out]; simp; omega), HB1.out⟩
          case pos =>
            have hR0 : R = true := by
              rw [HR.out]
              unfold ok_fun; unfold bare_fun at hb
              (try simp only [Bool.and_eq_true] at hb)
              simp [hb, c0, c1, p0, arB, p1, arB]
            have HR0 := Lib.hid hR0
            have HBB := Lib.hid hb
            clear hR0 hb
            have HC0 := Lib.hid c0
            clear c0
            have HC1 := Lib.hid c1
            clear c1
            go_enter Tryd.func61, Tryd.ntmps61
            go_wp2_with fail
            refine HBA.out.mono ?_
            rintro e V1 ⟨rfl, b1⟩
            rw [HBB.out]
            have HB1 := Lib.hid (HB.out.trans (b1.mono HB.out.size))
            have g2 := (b1.block _ (heap_lt HG.out)).trans HG.out
            have y0 : V1.cell? ⟨w.heap.size, 0, none⟩ = some (.int .i8 3) := cell_of_row g2 rfl
            have y1 : V1.cell? ⟨w.heap.size, 1, none⟩ = some (.int .i64 n) := cell_of_row g2 rfl
            have y2 : V1.cell? ⟨w.heap.size, 2, none⟩ = some (.string s) := cell_of_row g2 rfl
            have y3 : V1.cell? ⟨w.heap.size, 3, none⟩ = some (.string t) := cell_of_row g2 rfl
            have y4 : V1.cell? ⟨w.heap.size, 4, none⟩ = some (.slice A len cap) := cell_of_row g2 rfl
            clear b1 g2 x0 x1 x2 x3 x4
            go_wp2_with fail
            refine (HN0.out _).mono ?_
            rintro e V2 ⟨rfl, rfl⟩
            rw [HC0.out]
            go_wp2_with fail
            refine (HN1.out _).mono ?_
            rintro e V2 ⟨rfl, rfl⟩
            rw [HC1.out]
            go_wp2_with fail
            go_ret
            first | exact ⟨ret_bool HR0.out.symm, HB1.out⟩ | exact ⟨ret_bool (by rw [HR0.out]; simp; omega), HB1.out⟩

set_option maxHeartbeats 4000000 in
set_option maxRecDepth 100000 in
theorem rone_5 (n : Int) (s t : ByteArray) (A : Option Addr) (len cap : Nat) (hsz : s.size ≤ maxLen) (htz : t.size ≤ maxLen) (w : World) : Calls Tryd.prog 61 #[.agg #[(.int .i8 5), (.int .i64 n), (.string s), (.string t), (.slice A len cap)]] w fun e w' => e = .returned (.bool (ok_tuple n s t len)) ∧ Below w.heap.size w w' := by
  obtain ⟨R, hR⟩ : ∃ R, R = ok_tuple n s t len := ⟨_, rfl⟩
  have HR := Lib.hid hR
  rw [← hR]
  clear hR
  obtain ⟨w1, hw1⟩ : ∃ w1, w1 = w.alloc (.cells #[(.int .i8 5), (.int .i64 n), (.string s), (.string t), (.slice A len cap)] 25) := ⟨_, rfl⟩
  have g1 : w1.heap[w.heap.size]? = some (.cells #[(.int .i8 5), (.int .i64 n), (.string s), (.string t), (.slice A len cap)] 25 (0, 0)) := by rw [hw1]; exact block_alloc _ _
  have hB : Below w.heap.size w w1 := by rw [hw1]; exact (Below.refl _ _).alloc (Nat.le_refl _) _
  have x0 : w1.cell? ⟨w.heap.size, 0, none⟩ = some (.int .i8 5) := cell_of_row g1 rfl
  have x1 : w1.cell? ⟨w.heap.size, 1, none⟩ = some (.int .i64 n) := cell_of_row g1 rfl
  have x2 : w1.cell? ⟨w.heap.size, 2, none⟩ = some (.string s) := cell_of_row g1 rfl
  have x3 : w1.cell? ⟨w.heap.size, 3, none⟩ = some (.string t) := cell_of_row g1 rfl
  have x4 : w1.cell? ⟨w.heap.size, 4, none⟩ = some (.slice A len cap) := cell_of_row g1 rfl
  have HBA := Lib.hid (rbare_row 5 n s t A len cap w1)
  have HB := Lib.hid hB
  have HG := Lib.hid g1
  clear hB g1 hsz htz
  subst hw1
  cases hb : bare_row n s t len
  case false =>
    have hR0 : R = false := by
      rw [HR.out]
      unfold ok_tuple; unfold bare_row at hb
      rw [← Bool.not_eq_true] at hb ⊢
      intro hh
      apply hb
      simp only [Bool.and_eq_true] at hh ⊢
      simp [hh]
    have HR0 := Lib.hid hR0
    have HBB := Lib.hid hb
    clear hR0 hb
    go_enter Tryd.func61, Tryd.ntmps61
    go_wp2_with fail
    refine HBA.out.mono ?_
    rintro e V1 ⟨rfl, b1⟩
    rw [HBB.out]
    have HB1 := Lib.hid (HB.out.trans (b1.mono HB.out.size))
    have g2 := (b1.block _ (heap_lt HG.out)).trans HG.out
    have y0 : V1.cell? ⟨w.heap.size, 0, none⟩ = some (.int .i8 5) := cell_of_row g2 rfl
    have y1 : V1.cell? ⟨w.heap.size, 1, none⟩ = some (.int .i64 n) := cell_of_row g2 rfl
    have y2 : V1.cell? ⟨w.heap.size, 2, none⟩ = some (.string s) := cell_of_row g2 rfl
    have y3 : V1.cell? ⟨w.heap.size, 3, none⟩ = some (.string t) := cell_of_row g2 rfl
    have y4 : V1.cell? ⟨w.heap.size, 4, none⟩ = some (.slice A len cap) := cell_of_row g2 rfl
    clear b1 g2 x0 x1 x2 x3 x4
    go_wp2_with fail
    go_ret
    exact ⟨ret_bool HR0.out.symm, HB1.out⟩
  case true =>
    have hR0 : R = true := by
      rw [HR.out]
      unfold ok_tuple; unfold bare_row at hb
      (try simp only [Bool.and_eq_true] at hb)
      simp [hb]
    have HR0 := Lib.hid hR0
    have HBB := Lib.hid hb
    clear hR0 hb
    go_enter Tryd.func61, Tryd.ntmps61
    go_wp2_with fail
    refine HBA.out.mono ?_
    rintro e V1 ⟨rfl, b1⟩
    rw [HBB.out]
    have HB1 := Lib.hid (HB.out.trans (b1.mono HB.out.size))
    have g2 := (b1.block _ (heap_lt HG.out)).trans HG.out
    have y0 : V1.cell? ⟨w.heap.size, 0, none⟩ = some (.int .i8 5) := cell_of_row g2 rfl
    have y1 : V1.cell? ⟨w.heap.size, 1, none⟩ = some (.int .i64 n) := cell_of_row g2 rfl
    have y2 : V1.cell? ⟨w.heap.size, 2, none⟩ = some (.string s) := cell_of_row g2 rfl
    have y3 : V1.cell? ⟨w.heap.size, 3, none⟩ = some (.string t) := cell_of_row g2 rfl
    have y4 : V1.cell? ⟨w.heap.size, 4, none⟩ = some (.slice A len cap) := cell_of_row g2 rfl
    clear b1 g2 x0 x1 x2 x3 x4
    go_wp2_with fail
    go_ret
    first | exact ⟨ret_bool HR0.out.symm, HB1.out⟩ | exact ⟨ret_bool (by rw [HR0.out]; simp; omega), HB1.out⟩

set_option maxHeartbeats 4000000 in
set_option maxRecDepth 100000 in
theorem rone_6 (n : Int) (s t : ByteArray) (A : Option Addr) (len cap : Nat) (hsz : s.size ≤ maxLen) (htz : t.size ≤ maxLen) (w : World) : Calls Tryd.prog 61 #[.agg #[(.int .i8 6), (.int .i64 n), (.string s), (.string t), (.slice A len cap)]] w fun e w' => e = .returned (.bool (ok_empty n s t len)) ∧ Below w.heap.size w w' := by
  obtain ⟨R, hR⟩ : ∃ R, R = ok_empty n s t len := ⟨_, rfl⟩
  have HR := Lib.hid hR
  rw [← hR]
  clear hR
  obtain ⟨w1, hw1⟩ : ∃ w1, w1 = w.alloc (.cells #[(.int .i8 6), (.int .i64 n), (.string s), (.string t), (.slice A len cap)] 25) := ⟨_, rfl⟩
  have g1 : w1.heap[w.heap.size]? = some (.cells #[(.int .i8 6), (.int .i64 n), (.string s), (.string t), (.slice A len cap)] 25 (0, 0)) := by rw [hw1]; exact block_alloc _ _
  have hB : Below w.heap.size w w1 := by rw [hw1]; exact (Below.refl _ _).alloc (Nat.le_refl _) _
  have x0 : w1.cell? ⟨w.heap.size, 0, none⟩ = some (.int .i8 6) := cell_of_row g1 rfl
  have x1 : w1.cell? ⟨w.heap.size, 1, none⟩ = some (.int .i64 n) := cell_of_row g1 rfl
  have x2 : w1.cell? ⟨w.heap.size, 2, none⟩ = some (.string s) := cell_of_row g1 rfl
  have x3 : w1.cell? ⟨w.heap.size, 3, none⟩ = some (.string t) := cell_of_row g1 rfl
  have x4 : w1.cell? ⟨w.heap.size, 4, none⟩ = some (.slice A len cap) := cell_of_row g1 rfl
  have HBA := Lib.hid (rbare_nil 6 n s t A len cap w1)
  have HB := Lib.hid hB
  have HG := Lib.hid g1
  clear hB g1 hsz htz
  subst hw1
  cases hb : bare_nil n s t len
  case false =>
    have hR0 : R = false := by
      rw [HR.out]
      unfold ok_empty; unfold bare_nil at hb
      rw [← Bool.not_eq_true] at hb ⊢
      intro hh
      apply hb
      simp only [Bool.and_eq_true] at hh ⊢
      simp [hh]
    have HR0 := Lib.hid hR0
    have HBB := Lib.hid hb
    clear hR0 hb
    go_enter Tryd.func61, Tryd.ntmps61
    go_wp2_with fail
    refine HBA.out.mono ?_
    rintro e V1 ⟨rfl, b1⟩
    rw [HBB.out]
    have HB1 := Lib.hid (HB.out.trans (b1.mono HB.out.size))
    have g2 := (b1.block _ (heap_lt HG.out)).trans HG.out
    have y0 : V1.cell? ⟨w.heap.size, 0, none⟩ = some (.int .i8 6) := cell_of_row g2 rfl
    have y1 : V1.cell? ⟨w.heap.size, 1, none⟩ = some (.int .i64 n) := cell_of_row g2 rfl
    have y2 : V1.cell? ⟨w.heap.size, 2, none⟩ = some (.string s) := cell_of_row g2 rfl
    have y3 : V1.cell? ⟨w.heap.size, 3, none⟩ = some (.string t) := cell_of_row g2 rfl
    have y4 : V1.cell? ⟨w.heap.size, 4, none⟩ = some (.slice A len cap) := cell_of_row g2 rfl
    clear b1 g2 x0 x1 x2 x3 x4
    go_wp2_with fail
    go_ret
    exact ⟨ret_bool HR0.out.symm, HB1.out⟩
  case true =>
    have hR0 : R = true := by
      rw [HR.out]
      unfold ok_empty; unfold bare_nil at hb
      (try simp only [Bool.and_eq_true] at hb)
      simp [hb]
    have HR0 := Lib.hid hR0
    have HBB := Lib.hid hb
    clear hR0 hb
    go_enter Tryd.func61, Tryd.ntmps61
    go_wp2_with fail
    refine HBA.out.mono ?_
    rintro e V1 ⟨rfl, b1⟩
    rw [HBB.out]
    have HB1 := Lib.hid (HB.out.trans (b1.mono HB.out.size))
    have g2 := (b1.block _ (heap_lt HG.out)).trans HG.out
    have y0 : V1.cell? ⟨w.heap.size, 0, none⟩ = some (.int .i8 6) := cell_of_row g2 rfl
    have y1 : V1.cell? ⟨w.heap.size, 1, none⟩ = some (.int .i64 n) := cell_of_row g2 rfl
    have y2 : V1.cell? ⟨w.heap.size, 2, none⟩ = some (.string s) := cell_of_row g2 rfl
    have y3 : V1.cell? ⟨w.heap.size, 3, none⟩ = some (.string t) := cell_of_row g2 rfl
    have y4 : V1.cell? ⟨w.heap.size, 4, none⟩ = some (.slice A len cap) := cell_of_row g2 rfl
    clear b1 g2 x0 x1 x2 x3 x4
    go_wp2_with fail
    go_ret
    first | exact ⟨ret_bool HR0.out.symm, HB1.out⟩ | exact ⟨ret_bool (by rw [HR0.out]; simp; omega), HB1.out⟩

set_option maxHeartbeats 4000000 in
set_option maxRecDepth 100000 in
theorem rone_7 (n : Int) (s t : ByteArray) (A : Option Addr) (len cap : Nat) (hsz : s.size ≤ maxLen) (htz : t.size ≤ maxLen) (w : World) : Calls Tryd.prog 61 #[.agg #[(.int .i8 7), (.int .i64 n), (.string s), (.string t), (.slice A len cap)]] w fun e w' => e = .returned (.bool (ok_cons n s t len)) ∧ Below w.heap.size w w' := by
  obtain ⟨R, hR⟩ : ∃ R, R = ok_cons n s t len := ⟨_, rfl⟩
  have HR := Lib.hid hR
  rw [← hR]
  clear hR
  obtain ⟨w1, hw1⟩ : ∃ w1, w1 = w.alloc (.cells #[(.int .i8 7), (.int .i64 n), (.string s), (.string t), (.slice A len cap)] 25) := ⟨_, rfl⟩
  have g1 : w1.heap[w.heap.size]? = some (.cells #[(.int .i8 7), (.int .i64 n), (.string s), (.string t), (.slice A len cap)] 25 (0, 0)) := by rw [hw1]; exact block_alloc _ _
  have hB : Below w.heap.size w w1 := by rw [hw1]; exact (Below.refl _ _).alloc (Nat.le_refl _) _
  have x0 : w1.cell? ⟨w.heap.size, 0, none⟩ = some (.int .i8 7) := cell_of_row g1 rfl
  have x1 : w1.cell? ⟨w.heap.size, 1, none⟩ = some (.int .i64 n) := cell_of_row g1 rfl
  have x2 : w1.cell? ⟨w.heap.size, 2, none⟩ = some (.string s) := cell_of_row g1 rfl
  have x3 : w1.cell? ⟨w.heap.size, 3, none⟩ = some (.string t) := cell_of_row g1 rfl
  have x4 : w1.cell? ⟨w.heap.size, 4, none⟩ = some (.slice A len cap) := cell_of_row g1 rfl
  have HBA := Lib.hid (rbare_row 7 n s t A len cap w1)
  have HB := Lib.hid hB
  have HG := Lib.hid g1
  clear hB g1 hsz htz
  subst hw1
  cases hb : bare_row n s t len
  case false =>
    have hR0 : R = false := by
      rw [HR.out]
      unfold ok_cons; unfold bare_row at hb
      rw [← Bool.not_eq_true] at hb ⊢
      intro hh
      apply hb
      simp only [Bool.and_eq_true] at hh ⊢
      simp [hh]
    have HR0 := Lib.hid hR0
    have HBB := Lib.hid hb
    clear hR0 hb
    go_enter Tryd.func61, Tryd.ntmps61
    go_wp2_with fail
    refine HBA.out.mono ?_
    rintro e V1 ⟨rfl, b1⟩
    rw [HBB.out]
    have HB1 := Lib.hid (HB.out.trans (b1.mono HB.out.size))
    have g2 := (b1.block _ (heap_lt HG.out)).trans HG.out
    have y0 : V1.cell? ⟨w.heap.size, 0, none⟩ = some (.int .i8 7) := cell_of_row g2 rfl
    have y1 : V1.cell? ⟨w.heap.size, 1, none⟩ = some (.int .i64 n) := cell_of_row g2 rfl
    have y2 : V1.cell? ⟨w.heap.size, 2, none⟩ = some (.string s) := cell_of_row g2 rfl
    have y3 : V1.cell? ⟨w.heap.size, 3, none⟩ = some (.string t) := cell_of_row g2 rfl
    have y4 : V1.cell? ⟨w.heap.size, 4, none⟩ = some (.slice A len cap) := cell_of_row g2 rfl
    clear b1 g2 x0 x1 x2 x3 x4
    go_wp2_with fail
    go_ret
    exact ⟨ret_bool HR0.out.symm, HB1.out⟩
  case true =>
    cases c0 : ((len : Int) == 2)
    case false =>
      have hR0 : R = false := by
        rw [HR.out]
        unfold ok_cons; unfold bare_row at hb
        (try simp only [Bool.and_eq_true] at hb)
        simp [hb, c0]
      have HR0 := Lib.hid hR0
      have HBB := Lib.hid hb
      clear hR0 hb
      go_enter Tryd.func61, Tryd.ntmps61
      go_wp2_with fail
      refine HBA.out.mono ?_
      rintro e V1 ⟨rfl, b1⟩
      rw [HBB.out]
      have HB1 := Lib.hid (HB.out.trans (b1.mono HB.out.size))
      have g2 := (b1.block _ (heap_lt HG.out)).trans HG.out
      have y0 : V1.cell? ⟨w.heap.size, 0, none⟩ = some (.int .i8 7) := cell_of_row g2 rfl
      have y1 : V1.cell? ⟨w.heap.size, 1, none⟩ = some (.int .i64 n) := cell_of_row g2 rfl
      have y2 : V1.cell? ⟨w.heap.size, 2, none⟩ = some (.string s) := cell_of_row g2 rfl
      have y3 : V1.cell? ⟨w.heap.size, 3, none⟩ = some (.string t) := cell_of_row g2 rfl
      have y4 : V1.cell? ⟨w.heap.size, 4, none⟩ = some (.slice A len cap) := cell_of_row g2 rfl
      clear b1 g2 x0 x1 x2 x3 x4
      go_wp2_with fail
      go_ret
      first | exact ⟨ret_bool HR0.out.symm, HB1.out⟩ | exact ⟨ret_bool (by rw [HR0.out]; simp; omega), HB1.out⟩
    case true =>
      have hR0 : R = true := by
        rw [HR.out]
        unfold ok_cons; unfold bare_row at hb
        (try simp only [Bool.and_eq_true] at hb)
        simp [hb, c0]
      have HR0 := Lib.hid hR0
      have HBB := Lib.hid hb
      clear hR0 hb
      go_enter Tryd.func61, Tryd.ntmps61
      go_wp2_with fail
      refine HBA.out.mono ?_
      rintro e V1 ⟨rfl, b1⟩
      rw [HBB.out]
      have HB1 := Lib.hid (HB.out.trans (b1.mono HB.out.size))
      have g2 := (b1.block _ (heap_lt HG.out)).trans HG.out
      have y0 : V1.cell? ⟨w.heap.size, 0, none⟩ = some (.int .i8 7) := cell_of_row g2 rfl
      have y1 : V1.cell? ⟨w.heap.size, 1, none⟩ = some (.int .i64 n) := cell_of_row g2 rfl
      have y2 : V1.cell? ⟨w.heap.size, 2, none⟩ = some (.string s) := cell_of_row g2 rfl
      have y3 : V1.cell? ⟨w.heap.size, 3, none⟩ = some (.string t) := cell_of_row g2 rfl
      have y4 : V1.cell? ⟨w.heap.size, 4, none⟩ = some (.slice A len cap) := cell_of_row g2 rfl
      clear b1 g2 x0 x1 x2 x3 x4
      go_wp2_with fail
      go_ret
      first | exact ⟨ret_bool HR0.out.symm, HB1.out⟩ | exact ⟨ret_bool (by rw [HR0.out]; simp; omega), HB1.out⟩

set_option maxHeartbeats 4000000 in
set_option maxRecDepth 100000 in
theorem rone_no (k n : Int) (s t : ByteArray) (A : Option Addr) (len cap : Nat) (hk : k < 0 ∨ 7 < k) (w : World) : Calls Tryd.prog 61 #[.agg #[(.int .i8 k), (.int .i64 n), (.string s), (.string t), (.slice A len cap)]] w fun e w' => e = .returned (.bool false) ∧ Below w.heap.size w w' := by
  obtain ⟨w1, hw1⟩ : ∃ w1, w1 = w.alloc (.cells #[(.int .i8 k), (.int .i64 n), (.string s), (.string t), (.slice A len cap)] 25) := ⟨_, rfl⟩
  have g1 : w1.heap[w.heap.size]? = some (.cells #[(.int .i8 k), (.int .i64 n), (.string s), (.string t), (.slice A len cap)] 25 (0, 0)) := by rw [hw1]; exact block_alloc _ _
  have hB : Below w.heap.size w w1 := by rw [hw1]; exact (Below.refl _ _).alloc (Nat.le_refl _) _
  have x0 : w1.cell? ⟨w.heap.size, 0, none⟩ = some (.int .i8 k) := cell_of_row g1 rfl
  have x1 : w1.cell? ⟨w.heap.size, 1, none⟩ = some (.int .i64 n) := cell_of_row g1 rfl
  have x2 : w1.cell? ⟨w.heap.size, 2, none⟩ = some (.string s) := cell_of_row g1 rfl
  have x3 : w1.cell? ⟨w.heap.size, 3, none⟩ = some (.string t) := cell_of_row g1 rfl
  have x4 : w1.cell? ⟨w.heap.size, 4, none⟩ = some (.slice A len cap) := cell_of_row g1 rfl
  have HB := Lib.hid hB
  clear hB g1
  subst hw1
  have k0 : (k == 0) = false := by rw [beq_eq_false_iff_ne]; omega
  have k1 : (k == 1) = false := by rw [beq_eq_false_iff_ne]; omega
  have k2 : (k == 2) = false := by rw [beq_eq_false_iff_ne]; omega
  have k3 : (k == 3) = false := by rw [beq_eq_false_iff_ne]; omega
  have k4 : (k == 4) = false := by rw [beq_eq_false_iff_ne]; omega
  have k5 : (k == 5) = false := by rw [beq_eq_false_iff_ne]; omega
  have k6 : (k == 6) = false := by rw [beq_eq_false_iff_ne]; omega
  have k7 : (k == 7) = false := by rw [beq_eq_false_iff_ne]; omega
  clear hk
  go_enter Tryd.func61, Tryd.ntmps61
  go_wp2_with fail
  go_ret
  exact ⟨rfl, HB.out⟩

theorem rone_any (k n : Int) (s t : ByteArray) (A : Option Addr) (len cap : Nat) (hsz : s.size ≤ maxLen) (htz : t.size ≤ maxLen) (w : World) : Calls Tryd.prog 61 #[.agg #[(.int .i8 k), (.int .i64 n), (.string s), (.string t), (.slice A len cap)]] w fun e w' => e = .returned (.bool (okN k n s t len)) ∧ Below w.heap.size w w' := by
  by_cases h8 : k < 0 ∨ 7 < k
  · rw [okN_no h8]; exact rone_no k n s t A len cap h8 w
  · have h8 : k = 0 ∨ k = 1 ∨ k = 2 ∨ k = 3 ∨ k = 4 ∨ k = 5 ∨ k = 6 ∨ k = 7 := by omega
    rcases h8 with rfl | rfl | rfl | rfl | rfl | rfl | rfl | rfl
    · exact rone_0 n s t A len cap hsz htz w
    · exact rone_1 n s t A len cap hsz htz w
    · exact rone_2 n s t A len cap hsz htz w
    · exact rone_3 n s t A len cap hsz htz w
    · exact rone_4 n s t A len cap hsz htz w
    · exact rone_5 n s t A len cap hsz htz w
    · exact rone_6 n s t A len cap hsz htz w
    · exact rone_7 n s t A len cap hsz htz w
end Go.Proofs.YtphfekcacaaabaaDoor
