/- Layer 7: what an expression of each kind is (plain facts). -/
import Derived.Test.YtmdcdhdjojimeaaGreatDoorKRf7D
section
set_option linter.unusedVariables false
set_option linter.unusedSimpArgs false
namespace Go.Proofs.YtmdcdhdjojimeaaGreatDoor
open Go.RowKit

def ExprAt (x : Tm) : Prop := ∀ (v : Value) (w : World), TmAt (· < w.heap.size) w x v → Calls Tryz.prog 86 #[v] w fun e w' => e = .returned (.bool (exprB x)) ∧ Below w.heap.size w w'
def ClauseAt (x : Tm) : Prop := ∀ (m : Nat) (v : Value) (w : World), m ≤ 1000 → TmAt (· < w.heap.size) w x v → Calls Tryz.prog 64 #[v, .int .i64 m] w fun e w' => e = .returned (.bool (clB m x)) ∧ Below w.heap.size w w'
set_option maxHeartbeats 4000000 in
set_option maxRecDepth 100000 in
theorem rall_of {l : List Tm} (hx : ∀ y ∈ l, ExprAt y) (A : Option Addr) (cap : Nat) (w : World) (hR : TRow (· < w.heap.size) w A l.length cap l) :
  Calls Tryz.prog 96 #[.slice A l.length cap] w fun e w' => e = .returned (.bool (exprsB l)) ∧ Below w.heap.size w w' := by
 have hlen := hR.max
 unfold maxLen at hlen
 have HR := Lib.hid hR
 have HX := Lib.hid hx
 clear hR hx
 obtain ⟨R, hRR⟩ : ∃ R, R = exprsB l := ⟨_, rfl⟩
 have HP := Lib.hid hRR
 rw [← hRR]
 clear hRR
 go_enter Tryz.func96, Tryz.ntmps96
 go_wp2_with fail
 go_loopw [3] (fun i wr => ∃ j : Nat, j ≤ l.length ∧ i = .int .i64 j ∧ Below w.heap.size w wr ∧ Hid (∀ y ∈ l.take j, exprB y = true)) (fun i _ => l.length - (intOf i).toNat)
 case atStart => exact ⟨0, Nat.zero_le _, rfl, Below.refl _ _, Lib.hid (fun y hy => by simp at hy)⟩
 case round =>
  obtain ⟨j, hj, rfl, hbx, hd⟩ := hrel
  have HW := Lib.hid hbx
  clear hbx
  by_cases hlt : j < l.length
  ·obtain ⟨y, hy⟩ : ∃ y, l[j]? = some y := ⟨l[j], List.getElem?_eq_getElem hlt⟩
   have HMEM := Lib.hid (List.mem_of_getElem? hy)
   obtain ⟨g, off, o, c0, c1, c2, c3, c4, rfl, hTy, hEy⟩ := row_at7 HR.out HW.out hy
   obtain ⟨d0, d1, d2, d3, d4, he, e0, e1, e2, e3, e4⟩ := hEy
   cases he
   have HTY := Lib.hid hTy
   have HY := Lib.hid hy
   clear hTy hy
   go_wp2_with fail
   refine (HX.out y HMEM.out _ _ HTY.out).mono ?_
   rintro e w9 ⟨rfl, b9⟩
   have H9 := Lib.hid (HW.out.trans (b9.mono HW.out.size))
   clear b9 e0 e1 e2 e3 e4
   obtain ⟨c, hc⟩ : ∃ c, c = exprB y := ⟨_, rfl⟩
   rw [← hc]
   have HC := Lib.hid hc
   clear hc
   cases c
   ·go_wp2_with fail
    go_ret
    exact ⟨ret_bool (by rw [HP.out, eq_comm, Bool.eq_false_iff]; intro h; have := exprsB_all.1 h y HMEM.out; rw [← HC.out] at this; cases this), H9.out⟩
   ·go_wp2_with fail
    go_roundw
    case rel => exact ⟨j + 1, by omega, by go_num, H9.out, Lib.hid (fun z hz => by
     rw [List.take_add_one, HY.out] at hz
     rcases List.mem_append.1 hz with hz | hz
     ·exact hd.out z hz
     ·simp at hz; subst hz; exact HC.out.symm)⟩
    case measure => simp [intOf]; omega
  ·obtain rfl : j = l.length := by omega
   have HALL : Hid (∀ y ∈ l, exprB y = true) := Lib.hid (fun y hy => hd.out y (by rw [List.take_length]; exact hy))
   clear hd
   go_wp2_with fail
   go_ret
   exact ⟨ret_bool (by rw [HP.out, exprsB_all.2 HALL.out]), HW.out⟩

set_option maxHeartbeats 4000000 in
set_option maxRecDepth 100000 in
theorem rclauses_of {l : List Tm} (m : Nat) (hm : m ≤ 1000) (hx : ∀ y ∈ l, ClauseAt y) (A : Option Addr) (cap : Nat) (w : World) (hR : TRow (· < w.heap.size) w A l.length cap l) :
  Calls Tryz.prog 44 #[.slice A l.length cap, .int .i64 m] w fun e w' => e = .returned (.bool (clsB m l && !l.isEmpty)) ∧ Below w.heap.size w w' := by
 have hlen := hR.max
 unfold maxLen at hlen
 have HR := Lib.hid hR
 have HX := Lib.hid hx
 have HMM := Lib.hid hm
 clear hR hx hm
 obtain ⟨R, hRR⟩ : ∃ R, R = (clsB m l && !l.isEmpty) := ⟨_, rfl⟩
 have HP := Lib.hid hRR
 rw [← hRR]
 clear hRR
 go_enter Tryz.func44, Tryz.ntmps44
 go_wp2_with fail
 go_loopw [5] (fun i wr => ∃ j : Nat, j ≤ l.length ∧ i = .int .i64 j ∧ Below w.heap.size w wr ∧ Hid (∀ y ∈ l.take j, clB m y = true)) (fun i _ => l.length - (intOf i).toNat)
 case atStart => exact ⟨0, Nat.zero_le _, rfl, Below.refl _ _, Lib.hid (fun y hy => by simp at hy)⟩
 case round =>
  obtain ⟨j, hj, rfl, hbx, hd⟩ := hrel
  have HW := Lib.hid hbx
  clear hbx
  by_cases hlt : j < l.length
  ·obtain ⟨y, hy⟩ : ∃ y, l[j]? = some y := ⟨l[j], List.getElem?_eq_getElem hlt⟩
   have HMEM := Lib.hid (List.mem_of_getElem? hy)
   obtain ⟨g, off, o, c0, c1, c2, c3, c4, rfl, hTy, hEy⟩ := row_at7 HR.out HW.out hy
   obtain ⟨d0, d1, d2, d3, d4, he, e0, e1, e2, e3, e4⟩ := hEy
   cases he
   have HTY := Lib.hid hTy
   have HY := Lib.hid hy
   clear hTy hy
   go_wp2_with fail
   refine (HX.out y HMEM.out m _ _ HMM.out HTY.out).mono ?_
   rintro e w9 ⟨rfl, b9⟩
   have H9 := Lib.hid (HW.out.trans (b9.mono HW.out.size))
   clear b9 e0 e1 e2 e3 e4
   obtain ⟨c, hc⟩ : ∃ c, c = clB m y := ⟨_, rfl⟩
   rw [← hc]
   have HC := Lib.hid hc
   clear hc
   cases c
   ·go_wp2_with fail
    go_ret
    exact ⟨ret_bool (by rw [HP.out]; have h : clsB m l = false := by { rw [Bool.eq_false_iff]; intro h; have := clsB_all.1 h y HMEM.out; rw [← HC.out] at this; cases this }; rw [h]; rfl), H9.out⟩
   ·go_wp2_with fail
    go_roundw
    case rel => exact ⟨j + 1, by omega, by go_num, H9.out, Lib.hid (fun z hz => by
     rw [List.take_add_one, HY.out] at hz
     rcases List.mem_append.1 hz with hz | hz
     ·exact hd.out z hz
     ·simp at hz; subst hz; exact HC.out.symm)⟩
    case measure => simp [intOf]; omega
  ·obtain rfl : j = l.length := by omega
   have HALL : Hid (∀ y ∈ l, clB m y = true) := Lib.hid (fun y hy => hd.out y (by rw [List.take_length]; exact hy))
   clear hd
   go_wp2_with fail
   go_ret
   exact ⟨ret_bool (by rw [HP.out, clsB_all.2 HALL.out, Bool.true_and]; cases l with
    | nil => rfl
    | cons a b => simp), HW.out⟩
theorem parts_iff : ∀ {m : Nat} {l : List Tm}, partsB m l = true ↔ m + 2 ≤ l.length ∧ (∀ y ∈ l.take m, patB y = true) ∧ (∃ g, l[m]? = some g ∧ guardB g = true) ∧ ∀ y ∈ l.drop (m + 1), exprB y = true
 | 0, [] => by simp [partsB]
 | m + 1, [] => by simp [partsB]
 | 0, g :: l => by
  simp only [partsB, Bool.and_eq_true, exprsB_all, List.take_zero, List.not_mem_nil, false_imp_iff, implies_true, true_and, List.length_cons, List.getElem?_cons_zero, Option.some.injEq, List.drop_succ_cons, List.drop_zero]
  constructor
  ·rintro ⟨⟨h1, h2⟩, h3⟩
   refine ⟨?_, ⟨g, rfl, h1⟩, h3⟩
   cases l with
   | nil => simp at h2
   | cons a b => simp
  ·rintro ⟨h1, ⟨g', rfl, h2⟩, h3⟩
   refine ⟨⟨h2, ?_⟩, h3⟩
   cases l with
   | nil => simp at h1
   | cons a b => rfl
 | m + 1, p :: l => by
  simp only [partsB, Bool.and_eq_true, parts_iff (m := m) (l := l), List.take_succ_cons, List.mem_cons, forall_eq_or_imp, List.length_cons, List.getElem?_cons_succ, List.drop_succ_cons]
  constructor
  ·rintro ⟨h0, h1, h2, h3, h4⟩; exact ⟨by omega, ⟨h0, h2⟩, h3, h4⟩
  ·rintro ⟨h1, ⟨h0, h2⟩, h3, h4⟩; exact ⟨h0, by omega, h2, h3, h4⟩
theorem bareTFFT (n : Int) (s t : ByteArray) (len : Nat) : bareB true false false true n s t len = (emp s && emp t) := by
 unfold bareB; simp
theorem cl_iff {m : Nat} {k n : Int} {s t : ByteArray} {l : List Tm} : clB m (.mk k n s t l) = true ↔ k = 3 ∧ bareB true false false true n s t l.length = true ∧ n = (m : Int) ∧ partsB m l = true := by
 rw [bareTFFT]
 unfold clB
 simp only [Bool.and_eq_true, beq_iff_eq]
 constructor
 ·rintro ⟨⟨⟨⟨h1, h2⟩, h3⟩, h4⟩, h5⟩; exact ⟨h1, ⟨h3, h4⟩, h2, h5⟩
 ·rintro ⟨h1, ⟨h3, h4⟩, h2, h5⟩; exact ⟨⟨⟨⟨h1, h2⟩, h3⟩, h4⟩, h5⟩
theorem mem_takeQ {l : List Tm} {m : Nat} {y : Tm} : y ∈ l.take m ↔ ∃ q, q < m ∧ l[q]? = some y := by
 rw [List.mem_iff_getElem?]
 constructor
 ·rintro ⟨q, h⟩
  rw [List.getElem?_take] at h
  split at h
  ·rename_i hq; exact ⟨q, hq, h⟩
  ·cases h
 ·rintro ⟨q, hq, h⟩
  exact ⟨q, by rw [List.getElem?_take, if_pos hq]; exact h⟩
theorem mem_dropQ {l : List Tm} {m : Nat} {y : Tm} : y ∈ l.drop m ↔ ∃ q, m ≤ q ∧ l[q]? = some y := by
 rw [List.mem_iff_getElem?]
 constructor
 ·rintro ⟨q, h⟩
  rw [List.getElem?_drop] at h
  exact ⟨m + q, by omega, h⟩
 ·rintro ⟨q, hq, h⟩
  exact ⟨q - m, by rw [List.getElem?_drop, show m + (q - m) = q by omega]; exact h⟩
set_option maxHeartbeats 8000000 in
set_option maxRecDepth 100000 in
theorem rclause_of {k n : Int} {s t : ByteArray} {l : List Tm} (hx : ∀ y ∈ l, ExprAt y) : ClauseAt (.mk k n s t l) := by
 intro m v w hm hT
 obtain ⟨A, cap, rfl, hR, hk, hn, hs, ht⟩ := hT.parts
 have hlen := hR.max
 unfold maxLen at hlen
 have HR := Lib.hid hR
 have HX := Lib.hid hx
 have HMM := Lib.hid hm
 have HBR := Lib.hid (fun b1 b2 b3 b4 W => rbare_any b1 b2 b3 b4 n k s t A l.length cap W)
 clear hR hT hs ht hn hx
 obtain ⟨R, hRR⟩ : ∃ R, R = clB m (.mk k n s t l) := ⟨_, rfl⟩
 have HP : Hid (R = true ↔ k = 3 ∧ bareB true false false true n s t l.length = true ∧ n = (m : Int) ∧ partsB m l = true) := by rw [hRR]; exact cl_iff
 rw [← hRR]
 clear hRR
 obtain ⟨w1, hw1⟩ : ∃ w1, w1 = w.alloc (.cells #[.int .i8 k, .int .i64 n, .string s, .string t, .slice A l.length cap] 25) := ⟨_, rfl⟩
 have hb1 : Bx7 w w1 #[.int .i8 k, .int .i64 n, .string s, .string t, .slice A l.length cap] := bx7_of w _ w1 hw1
 have H1 := Lib.hid hb1
 clear hb1
 have hx := H1.out
 have x0 : w1.cell? ⟨w.heap.size, 0, none⟩ = some (.int .i8 k) := hx.cell 0 rfl
 have x1 : w1.cell? ⟨w.heap.size, 1, none⟩ = some (.int .i64 n) := hx.cell 1 rfl
 have x2 : w1.cell? ⟨w.heap.size, 2, none⟩ = some (.string s) := hx.cell 2 rfl
 have x3 : w1.cell? ⟨w.heap.size, 3, none⟩ = some (.string t) := hx.cell 3 rfl
 have x4 : w1.cell? ⟨w.heap.size, 4, none⟩ = some (.slice A l.length cap) := hx.cell 4 rfl
 clear hx
 go_enter Tryz.func64, Tryz.ntmps64
 by_cases hk3 : k = 3
 rotate_left
 ·have q3 : (k == 3) = false := by simpa using hk3
  have HRF : Hid (R = false) := Lib.hid (by rw [Bool.eq_false_iff]; intro h; exact hk3 (HP.out.1 h).1)
  go_wp2_with fail
  rw [← hw1]
  go_ret
  exact ⟨ret_bool HRF.out.symm, H1.out.below⟩
 subst hk3
 go_wp2_with fail
 rw [← hw1]
 clear hw1
 refine (HBR.out true false false true w1).mono ?_
 rintro e w2 ⟨rfl, b2⟩
 have H2 := Lib.hid (H1.out.under b2)
 clear b2
 obtain ⟨c2, hc2⟩ : ∃ c2, c2 = bareB true false false true n s t l.length := ⟨_, rfl⟩
 rw [← hc2] at HP ⊢
 clear hc2 x0 x1 x2 x3 x4
 have x1 : w2.cell? ⟨w.heap.size, 1, none⟩ = some (.int .i64 n) := H2.out.cell 1 rfl
 have x4 : w2.cell? ⟨w.heap.size, 4, none⟩ = some (.slice A l.length cap) := H2.out.cell 4 rfl
 cases c2
 ·have HRF : Hid (R = false) := Lib.hid (by rw [Bool.eq_false_iff]; intro h; exact absurd (HP.out.1 h).2.1 (by decide))
  go_wp2_with fail
  go_ret
  exact ⟨ret_bool HRF.out.symm, H2.out.below⟩
 by_cases hnm : n = (m : Int)
 rotate_left
 ·have HRF : Hid (R = false) := Lib.hid (by rw [Bool.eq_false_iff]; intro h; exact hnm (HP.out.1 h).2.2.1)
  have qn : (n == (m : Int)) = false := by simpa using hnm
  go_wp2_with fail
  go_ret
  exact ⟨ret_bool HRF.out.symm, H2.out.below⟩
 have HNM := Lib.hid hnm
 by_cases hl2 : (l.length : Int) < (m : Int) + 2
 ·have HRF : Hid (R = false) := Lib.hid (by rw [Bool.eq_false_iff]; intro h; have h9 := (parts_iff.1 (HP.out.1 h).2.2.2).1; omega)
  have hm0 : (0 : Int) ≤ (m : Int) := by omega
  go_wp2_with fail
  go_ret
  exact ⟨ret_bool HRF.out.symm, H2.out.below⟩
 have HL2 := Lib.hid hl2
 have hm0 : (0 : Int) ≤ (m : Int) := by omega
 go_wp2_with fail
 clear hnm hl2 x1 x4
 go_loopw [5] (fun i wr => ∃ j : Nat, 0 ≤ j ∧ j ≤ m ∧ i = .int .i64 j ∧ Bx7 w wr #[.int .i8 3, .int .i64 n, .string s, .string t, .slice A l.length cap] ∧ Hid (∀ q y, 0 ≤ q → q < j → l[q]? = some y → patB y = true)) (fun i _ => m - (intOf i).toNat)
 case atStart => exact ⟨0, Nat.zero_le _, Nat.zero_le _, rfl, H2.out, Lib.hid (fun q y h1 h2 h3 => by omega)⟩
 case round =>
  obtain ⟨j, hjl, hj, rfl, hbx, hd⟩ := hrel
  have HW := Lib.hid hbx
  have x4 : wr.cell? ⟨w.heap.size, 4, none⟩ = some (.slice A l.length cap) := hbx.cell 4 rfl
  clear hbx
  by_cases hlt : j < m
  ·have hjll : j < l.length := by omega
   obtain ⟨y, hy⟩ : ∃ y, l[j]? = some y := ⟨l[j], List.getElem?_eq_getElem hjll⟩
   have HMEM := Lib.hid (List.mem_of_getElem? hy)
   obtain ⟨g, off, o, c0, c1, c2, c3, c4, rfl, hTy, hEy⟩ := row_at7 HR.out HW.out.below hy
   obtain ⟨d0, d1, d2, d3, d4, he, e0, e1, e2, e3, e4⟩ := hEy
   cases he
   have HTY := Lib.hid hTy
   have HY := Lib.hid hy
   clear hTy hy
   go_wp2_with fail
   refine (rpattern_any y _ _ HTY.out).mono ?_
   rintro e w9 ⟨rfl, b9⟩
   have H9 := Lib.hid (HW.out.under b9)
   clear b9 e0 e1 e2 e3 e4 x4
   obtain ⟨c, hc⟩ : ∃ c, c = patB y := ⟨_, rfl⟩
   rw [← hc]
   have HC := Lib.hid hc
   clear hc
   cases c
   ·go_wp2_with fail
    go_ret
    exact ⟨ret_bool (by rw [eq_comm, Bool.eq_false_iff]; intro h; have h2 := (parts_iff.1 (HP.out.1 h).2.2.2).2.1 y (mem_takeQ.2 ⟨j, hlt, HY.out⟩); rw [← HC.out] at h2; cases h2), H9.out.below⟩
   ·go_wp2_with fail
    go_roundw
    case rel => exact ⟨j + 1, by omega, by omega, by go_num, H9.out, Lib.hid (fun q z hq1 hq2 hz => by
     by_cases e : q = j
     ·subst e; rw [HY.out] at hz; cases hz; exact HC.out.symm
     ·exact hd.out q z hq1 (by omega) hz)⟩
    case measure => simp [intOf]; omega
  ·obtain rfl : m = j := by omega
   have HALL : Hid (∀ q y, 0 ≤ q → q < m → l[q]? = some y → patB y = true) := hd
   clear hd
   have hml : m < l.length := by omega
   obtain ⟨y, hy⟩ : ∃ y, l[m]? = some y := ⟨l[m], List.getElem?_eq_getElem hml⟩
   obtain ⟨g, off, o, c0, c1, c2, c3, c4, rfl, hTy, hEy⟩ := row_at7 HR.out HW.out.below hy
   obtain ⟨d0, d1, d2, d3, d4, he, e0, e1, e2, e3, e4⟩ := hEy
   cases he
   have HTY := Lib.hid hTy
   have HY := Lib.hid hy
   clear hTy hy
   go_wp2_with fail
   refine (rguard_any y _ _ HTY.out).mono ?_
   rintro e w9 ⟨rfl, b9⟩
   have H9 := Lib.hid (HW.out.under b9)
   clear b9 e0 e1 e2 e3 e4 x4
   obtain ⟨c, hc⟩ : ∃ c, c = guardB y := ⟨_, rfl⟩
   rw [← hc]
   have HC := Lib.hid hc
   clear hc
   cases c
   ·have HRF : Hid (R = false) := Lib.hid (by rw [Bool.eq_false_iff]; intro h; obtain ⟨g9, h2, h3⟩ := (parts_iff.1 (HP.out.1 h).2.2.2).2.2.1; rw [HY.out] at h2; cases h2; rw [← HC.out] at h3; cases h3)
    go_wp2_with fail
    go_ret
    exact ⟨ret_bool HRF.out.symm, H9.out.below⟩
   have HALLP := HALL
   clear HALL
   have HG9 := HC
   have HYG := HY
   clear HC HY HTY HW
   have x4 : w9.cell? ⟨w.heap.size, 4, none⟩ = some (.slice (some ⟨g, off, o⟩) l.length cap) := H9.out.cell 4 rfl
   go_wp2_with fail
   clear x4
   go_loopw [6] (fun i wr => ∃ j : Nat, m + 1 ≤ j ∧ j ≤ l.length ∧ i = .int .i64 j ∧ Bx7 w wr #[.int .i8 3, .int .i64 n, .string s, .string t, .slice (some ⟨g, off, o⟩) l.length cap] ∧ Hid (∀ q y, m + 1 ≤ q → q < j → l[q]? = some y → exprB y = true)) (fun i _ => l.length - (intOf i).toNat)
   case atStart => exact ⟨m + 1, Nat.le_refl _, by omega, by go_num, H9.out, Lib.hid (fun q y h1 h2 h3 => by omega)⟩
   case round =>
    obtain ⟨j, hjl, hj, rfl, hbx, hd⟩ := hrel
    have HW := Lib.hid hbx
    have x4 : wr.cell? ⟨w.heap.size, 4, none⟩ = some (.slice (some ⟨g, off, o⟩) l.length cap) := hbx.cell 4 rfl
    clear hbx
    by_cases hlt : j < l.length
    ·have hjll : j < l.length := by omega
     obtain ⟨y, hy⟩ : ∃ y, l[j]? = some y := ⟨l[j], List.getElem?_eq_getElem hjll⟩
     have HMEM := Lib.hid (List.mem_of_getElem? hy)
     obtain ⟨g2, off2, o2, c0, c1, c2, c3, c4, hA2, hTy, hEy⟩ := row_at7 HR.out HW.out.below hy
     obtain ⟨d0, d1, d2, d3, d4, he, e0, e1, e2, e3, e4⟩ := hEy
     cases he
     cases hA2
     have HTY := Lib.hid hTy
     have HY := Lib.hid hy
     clear hTy hy
     go_wp2_with fail
     refine (HX.out y HMEM.out _ _ HTY.out).mono ?_
     rintro e w9 ⟨rfl, b9⟩
     have H9 := Lib.hid (HW.out.under b9)
     clear b9 e0 e1 e2 e3 e4 x4
     obtain ⟨c, hc⟩ : ∃ c, c = exprB y := ⟨_, rfl⟩
     rw [← hc]
     have HC := Lib.hid hc
     clear hc
     cases c
     ·go_wp2_with fail
      go_ret
      exact ⟨ret_bool (by rw [eq_comm, Bool.eq_false_iff]; intro h; have h2 := (parts_iff.1 (HP.out.1 h).2.2.2).2.2.2 y (mem_dropQ.2 ⟨j, hjl, HY.out⟩); rw [← HC.out] at h2; cases h2), H9.out.below⟩
     ·go_wp2_with fail
      go_roundw
      case rel => exact ⟨j + 1, by omega, by omega, by go_num, H9.out, Lib.hid (fun q z hq1 hq2 hz => by
       by_cases e : q = j
       ·subst e; rw [HY.out] at hz; cases hz; exact HC.out.symm
       ·exact hd.out q z hq1 (by omega) hz)⟩
      case measure => simp [intOf]; omega
    ·obtain rfl : l.length = j := by omega
     have HALL : Hid (∀ q y, m + 1 ≤ q → q < l.length → l[q]? = some y → exprB y = true) := hd
     clear hd
     have HRT : Hid (R = true) := Lib.hid (HP.out.2 ⟨by trivial, by trivial, HNM.out, parts_iff.2 ⟨by have := HL2.out; omega, fun z hz => by obtain ⟨q, h1, h2⟩ := mem_takeQ.1 hz; exact HALLP.out q z (Nat.zero_le _) h1 h2, ⟨_, HYG.out, HG9.out.symm⟩, fun z hz => by obtain ⟨q, h1, h2⟩ := mem_dropQ.1 hz; exact HALL.out q z h1 (List.getElem?_eq_some_iff.1 h2).1 h2⟩⟩)
     go_wp2_with fail
     go_ret
     exact ⟨ret_bool HRT.out.symm, HW.out.below⟩
end Go.Proofs.YtmdcdhdjojimeaaGreatDoor
end
section
set_option linter.unusedVariables false
set_option linter.unusedSimpArgs false
namespace Go.Proofs.YtmdcdhdjojimeaaGreatDoor
open Go.RowKit

theorem class_cases (s : ByteArray) : (classB s = true ∧ (s.toList = [101, 114, 114, 111, 114] ∨ s.toList = [101, 120, 105, 116] ∨ s.toList = [116, 104, 114, 111, 119])) ∨ (classB s = false ∧ (s.toList == [101, 114, 114, 111, 114]) = false ∧ (s.toList == [101, 120, 105, 116]) = false ∧ (s.toList == [116, 104, 114, 111, 119]) = false) := by
 unfold classB
 rw [← Go.Lib.toList_data]
 simp only [List.any_cons, List.any_nil, Bool.or_false]
 by_cases h1 : s.toList = [101, 114, 114, 111, 114]
 ·exact .inl ⟨by rw [h1]; rfl, .inl h1⟩
 ·by_cases h2 : s.toList = [101, 120, 105, 116]
  ·exact .inl ⟨by rw [h2]; rfl, .inr (.inl h2)⟩
  ·by_cases h3 : s.toList = [116, 104, 114, 111, 119]
   ·exact .inl ⟨by rw [h3]; rfl, .inr (.inr h3)⟩
   ·have e1 : (s.toList == [101, 114, 114, 111, 114]) = false := by simpa using h1
    have e2 : (s.toList == [101, 120, 105, 116]) = false := by simpa using h2
    have e3 : (s.toList == [116, 104, 114, 111, 119]) = false := by simpa using h3
    exact .inr ⟨by rw [e1, e2, e3]; rfl, e1, e2, e3⟩
set_option maxHeartbeats 8000000 in
set_option maxRecDepth 100000 in
theorem rclasses_of {l : List Tm} (hx : ∀ y ∈ l, clB 2 y = true) (A : Option Addr) (cap : Nat) (w : World) (hR : TRow (· < w.heap.size) w A l.length cap l) :
  Calls Tryz.prog 99 #[.slice A l.length cap] w fun e w' => e = .returned (.bool (l.all classedB)) ∧ Below w.heap.size w w' := by
 have hlen := hR.max
 unfold maxLen at hlen
 have HR := Lib.hid hR
 have HX := Lib.hid hx
 clear hR hx
 obtain ⟨R, hRR⟩ : ∃ R, R = l.all classedB := ⟨_, rfl⟩
 have HP := Lib.hid hRR
 rw [← hRR]
 clear hRR
 go_enter Tryz.func99, Tryz.ntmps99
 go_wp2_with fail
 go_loopw [3] (fun i wr => ∃ j : Nat, j ≤ l.length ∧ i = .int .i64 j ∧ Below w.heap.size w wr ∧ Hid (∀ y ∈ l.take j, classedB y = true)) (fun i _ => l.length - (intOf i).toNat)
 case atStart => exact ⟨0, Nat.zero_le _, rfl, Below.refl _ _, Lib.hid (fun y hy => by simp at hy)⟩
 case round =>
  obtain ⟨j, hj, rfl, hbx, hd⟩ := hrel
  have HW := Lib.hid hbx
  clear hbx
  by_cases hlt : j < l.length
  ·obtain ⟨y, hy⟩ : ∃ y, l[j]? = some y := ⟨l[j], List.getElem?_eq_getElem hlt⟩
   have hcl := HX.out y (List.mem_of_getElem? hy)
   have HMEM := Lib.hid (List.mem_of_getElem? hy)
   obtain ⟨yk, yn, ys, yt, yl, hye⟩ : ∃ yk yn ys yt yl, y = Tm.mk yk yn ys yt yl := by cases y; exact ⟨_, _, _, _, _, rfl⟩
   have hyl : 4 ≤ yl.length := by rw [hye] at hcl; exact (parts_iff.1 (cl_iff.1 hcl).2.2.2).1
   obtain ⟨p, hp0⟩ : ∃ p, yl[0]? = some p := ⟨yl[0], List.getElem?_eq_getElem (by omega)⟩
   obtain ⟨pk, pn, ps, pt, pl, hpe⟩ : ∃ pk pn ps pt pl, p = Tm.mk pk pn ps pt pl := by cases p; exact ⟨_, _, _, _, _, rfl⟩
   obtain ⟨g, off, o, c0, c1, c2, c3, c4, rfl, hTy, hEy⟩ := row_at7 HR.out HW.out hy
   obtain ⟨d0, d1, d2, d3, d4, he, e0, e1, e2, e3, e4⟩ := hEy
   cases he
   rw [hye] at hTy
   obtain ⟨A2, cap2, hv, hR2, -⟩ := hTy.parts
   simp only [Value.agg.injEq, Array.mk.injEq, List.cons.injEq, and_true] at hv
   obtain ⟨rfl, rfl, rfl, rfl, rfl⟩ := hv
   obtain ⟨g2, off2, o2, q0, q1, q2, q3, q4, rfl, hTp, f0, f1, f2, f3, f4⟩ := nrow_0 hR2 (Below.refl _ _) hp0
   rw [hpe] at hTp
   obtain ⟨A3, cap3, hv, -⟩ := hTp.parts
   simp only [Value.agg.injEq, Array.mk.injEq, List.cons.injEq, and_true] at hv
   obtain ⟨rfl, rfl, rfl, rfl, rfl⟩ := hv
   have hcb : classedB y = (pk == 5 || (pk == 7 && classB ps)) := by
    rw [hye]
    cases yl with
    | nil => simp at hp0
    | cons a b => simp at hp0; rw [hp0, hpe]; rfl
   have HCB := Lib.hid hcb
   have HY := Lib.hid hy
   have i0 : (0 : Int) < (yl.length : Int) := by omega
   have HBN : Hid (∀ o : Obj, Below w.heap.size w (wr.alloc o)) := fun o => HW.out.trans ((Below.refl _ wr).alloc (Nat.le_refl _) o |>.mono HW.out.size)
   clear hcl hye hyl hp0 hpe hTy hR2 hTp hcb hy
   have HT : Hid (classedB y = true → ∀ z ∈ l.take (j + 1), classedB z = true) := fun hc z hz => by
    rw [List.take_add_one, HY.out] at hz
    rcases List.mem_append.1 hz with hz | hz
    ·exact hd.out z hz
    ·simp at hz; subst hz; exact hc
   have HF : Hid (classedB y = false → R = false) := fun hc => by
    rw [HP.out, Bool.eq_false_iff]; intro h; have := List.all_eq_true.1 h y HMEM.out; rw [hc] at this; cases this
   by_cases h5 : pk = 5
   ·subst h5
    go_wp2_with fail
    go_roundw
    case rel => exact ⟨j + 1, by omega, by go_num, HBN.out _, Lib.hid (HT.out (by rw [HCB.out]; rfl))⟩
    case measure => simp [intOf]; omega
   have p5 : (pk == 5) = false := by simpa using h5
   by_cases h7 : pk = 7
   ·subst h7
    rcases class_cases ps with ⟨hc, hs9 | hs9 | hs9⟩ | ⟨hc, z1, z2, z3⟩
    rotate_right
    ·go_wp2_with fail
     go_ret
     exact ⟨ret_bool (HF.out (by rw [HCB.out, hc]; rfl)).symm, HBN.out _⟩
    all_goals
     go_wp2_with fail
     go_roundw
     case rel => exact ⟨j + 1, by omega, by go_num, HBN.out _, Lib.hid (HT.out (by rw [HCB.out, hc]; rfl))⟩
     case measure => simp [intOf]; omega
   have p7 : (pk == 7) = false := by simpa using h7
   go_wp2_with fail
   go_ret
   exact ⟨ret_bool (HF.out (by rw [HCB.out, p5, p7]; rfl)).symm, HBN.out _⟩
  ·obtain rfl : j = l.length := by omega
   have HALL : Hid (∀ y ∈ l, classedB y = true) := Lib.hid (fun y hy => hd.out y (by rw [List.take_length]; exact hy))
   clear hd
   go_wp2_with fail
   go_ret
   exact ⟨ret_bool (by rw [HP.out, List.all_eq_true.2 HALL.out]), HW.out⟩
end Go.Proofs.YtmdcdhdjojimeaaGreatDoor
end
section
set_option linter.unusedVariables false
set_option linter.unusedSimpArgs false
namespace Go.Proofs.YtmdcdhdjojimeaaGreatDoor
open Go.RowKit

theorem take_row {P : Nat → Prop} {w : World} {A : Option Addr} {n cap : Nat} {l : List Tm} (h : TRow P w A n cap l) (q : Nat) (hq : q ≤ l.length) : TRow P w A q cap (l.take q) := by
 have h1 := h.len
 have h2 := h.max
 have h3 := h.cap
 refine ⟨by rw [List.length_take]; omega, by omega, by omega, fun j y hj => ?_⟩
 rw [List.getElem?_take] at hj
 split at hj
 ·exact h.at_ j y hj
 ·cases hj
theorem recv_snoc {a : Tm} : ∀ {l : List Tm}, recvB (l ++ [a]) = (clsB 1 l && afterB a)
 | [] => by simp [recvB, clsB]
 | c :: l => by
  rw [List.cons_append, recvB, recv_snoc (l := l), clsB]
  have : (l ++ [a]).isEmpty = false := by cases l <;> rfl
  rw [this]
  simp [Bool.and_assoc]
theorem after_eq (k n : Int) (s t : ByteArray) (l : List Tm) : afterB (.mk k n s t l) = (k == 21 && bareB false false false true n s t l.length && decide (2 ≤ l.length) && exprsB l) := by
 rw [bareFFFT]
 unfold afterB
 simp [Bool.and_assoc]
def recvP (n : Int) (s t : ByteArray) (l : List Tm) : Bool := bareB true false false true n s t l.length && ((n == 0 && !l.isEmpty && clsB 1 l) || (n == 1 && recvB l))
set_option maxHeartbeats 8000000 in
set_option maxRecDepth 100000 in
theorem rreceived_of {k n : Int} {s t : ByteArray} {l : List Tm} (hx : ∀ y ∈ l, ClauseAt y ∧ ∀ z ∈ y.l, ExprAt z) (v : Value) (w : World) (hT : TmAt (· < w.heap.size) w (.mk k n s t l) v) :
  Calls Tryz.prog 100 #[v] w fun e w' => e = .returned (.bool (recvP n s t l)) ∧ Below w.heap.size w w' := by
 obtain ⟨A, cap, rfl, hR, hk, hn, hs, ht⟩ := hT.parts
 have hlen := hR.max
 unfold maxLen at hlen
 have HR := Lib.hid hR
 have HX := Lib.hid hx
 have HBR := Lib.hid (fun b1 b2 b3 b4 W => rbare_any b1 b2 b3 b4 n k s t A l.length cap W)
 clear hR hT hs ht hn hx hk
 obtain ⟨R, hRR⟩ : ∃ R, R = recvP n s t l := ⟨_, rfl⟩
 have HP : Hid (R = (bareB true false false true n s t l.length && ((n == 0 && !l.isEmpty && clsB 1 l) || (n == 1 && recvB l)))) := hRR
 rw [← hRR]
 clear hRR
 obtain ⟨w1, hw1⟩ : ∃ w1, w1 = w.alloc (.cells #[.int .i8 k, .int .i64 n, .string s, .string t, .slice A l.length cap] 25) := ⟨_, rfl⟩
 have hb1 : Bx7 w w1 #[.int .i8 k, .int .i64 n, .string s, .string t, .slice A l.length cap] := bx7_of w _ w1 hw1
 have H1 := Lib.hid hb1
 clear hb1
 have hx := H1.out
 have x0 : w1.cell? ⟨w.heap.size, 0, none⟩ = some (.int .i8 k) := hx.cell 0 rfl
 have x1 : w1.cell? ⟨w.heap.size, 1, none⟩ = some (.int .i64 n) := hx.cell 1 rfl
 have x2 : w1.cell? ⟨w.heap.size, 2, none⟩ = some (.string s) := hx.cell 2 rfl
 have x3 : w1.cell? ⟨w.heap.size, 3, none⟩ = some (.string t) := hx.cell 3 rfl
 have x4 : w1.cell? ⟨w.heap.size, 4, none⟩ = some (.slice A l.length cap) := hx.cell 4 rfl
 clear hx
 go_enter Tryz.func100, Tryz.ntmps100
 go_wp2_with fail
 rw [← hw1]
 clear hw1
 refine (HBR.out true false false true w1).mono ?_
 rintro e w2 ⟨rfl, b2⟩
 have H2 := Lib.hid (H1.out.under b2)
 clear b2
 obtain ⟨c2, hc2⟩ : ∃ c2, c2 = bareB true false false true n s t l.length := ⟨_, rfl⟩
 rw [← hc2] at HP ⊢
 clear hc2 x0 x1 x2 x3 x4
 have x1 : w2.cell? ⟨w.heap.size, 1, none⟩ = some (.int .i64 n) := H2.out.cell 1 rfl
 have x4 : w2.cell? ⟨w.heap.size, 4, none⟩ = some (.slice A l.length cap) := H2.out.cell 4 rfl
 cases c2
 ·go_wp2_with fail
  go_ret
  exact ⟨ret_bool (by rw [HP.out]; rfl), H2.out.below⟩
 by_cases h0 : n < 0
 ·have HRF : Hid (R = false) := Lib.hid (by rw [HP.out, show (n == 0) = false by simp; omega, show (n == 1) = false by simp; omega]; rfl)
  go_wp2_with fail
  go_ret
  exact ⟨ret_bool HRF.out.symm, H2.out.below⟩
 by_cases h1 : 1 < n
 ·have HRF : Hid (R = false) := Lib.hid (by rw [HP.out, show (n == 0) = false by simp; omega, show (n == 1) = false by simp; omega]; rfl)
  go_wp2_with fail
  go_ret
  exact ⟨ret_bool HRF.out.symm, H2.out.below⟩
 by_cases hl0 : (l.length : Int) = 0
 ·have hln : l = [] := List.length_eq_zero_iff.1 (by omega)
  have HRF : Hid (R = false) := Lib.hid (by rw [HP.out, hln]; simp [recvB])
  clear hln
  go_wp2_with fail
  go_ret
  exact ⟨ret_bool HRF.out.symm, H2.out.below⟩
 have HL0 := Lib.hid hl0
 have hle : l.isEmpty = false := by cases l with
  | nil => exact absurd rfl hl0
  | cons a b => rfl
 rw [hle] at HP
 clear hle
 have hlnat : ¬ l.length = 0 := by omega
 have hcp := HR.out.cap
 have hcpi : (l.length : Int) ≤ (cap : Int) := by omega
 by_cases hn1 : n = 1
 rotate_left
 ·obtain rfl : n = 0 := by omega
  have HPR : Hid (R = clsB 1 l) := Lib.hid (by rw [HP.out]; simp)
  clear h0 h1 hn1
  go_wp2_with fail
  have hc := rclauses_of (l := l) 1 (by omega) (fun y hy => (HX.out y hy).1) A cap w2 (HR.out.keep (fun b hb => H2.out.below.block b hb) (fun b hb => Nat.lt_of_lt_of_le hb H2.out.below.size))
  rw [show ((1 : Nat) : Int) = 1 from rfl] at hc
  refine hc.mono ?_
  rintro e w3 ⟨rfl, b3⟩
  have H3 := Lib.hid (H2.out.under b3)
  clear b3 hc
  go_wp2_with fail
  go_ret
  exact ⟨ret_bool (by rw [HPR.out]; cases l with
   | nil => exact absurd rfl hl0
   | cons a b => simp), H3.out.below⟩
 subst hn1
 have HPR : Hid (R = recvB l) := Lib.hid (by rw [HP.out]; simp)
 obtain ⟨q, hq⟩ : ∃ q, l.length = q + 1 := ⟨l.length - 1, by omega⟩
 obtain ⟨a, ha⟩ : ∃ a, l[q]? = some a := ⟨l[q], List.getElem?_eq_getElem (by omega)⟩
 have hsn : l = l.take q ++ [a] := by
  rw [← List.take_append_drop q l]
  conv => lhs; rw [show l.drop q = [a] from by
   rw [List.drop_eq_getElem_cons (by omega), show l.drop (q + 1) = [] from List.drop_eq_nil_of_le (by omega)]
   congr 1
   have := List.getElem?_eq_getElem (l := l) (i := q) (by omega)
   rw [ha] at this
   exact (Option.some.inj this).symm]
  rw [List.take_append_drop]
 have HRV : Hid (R = (clsB 1 (l.take q) && afterB a)) := Lib.hid ((show R = recvB (l.take q ++ [a]) by rw [HPR.out, ← hsn]).trans recv_snoc)
 obtain ⟨g, off, o, c0, c1, c2, c3, c4, rfl, hTy, hEy⟩ := row_at7 HR.out H2.out.below ha
 obtain ⟨d0, d1, d2, d3, d4, he, e0, e1, e2, e3, e4⟩ := hEy
 cases he
 have HAX := Lib.hid (HX.out a (List.mem_of_getElem? ha)).2
 obtain ⟨ak, an, as9, at9, al, hae⟩ : ∃ ak an as9 at9 al, a = Tm.mk ak an as9 at9 al := by cases a; exact ⟨_, _, _, _, _, rfl⟩
 have hTa := hTy
 rw [hae] at hTa
 obtain ⟨A2, cap2, hv, hR2, -⟩ := hTa.parts
 simp only [Value.agg.injEq, Array.mk.injEq, List.cons.injEq, and_true] at hv
 obtain ⟨rfl, rfl, rfl, rfl, rfl⟩ := hv
 obtain ⟨w3, hw3⟩ : ∃ w3, w3 = w2.alloc (.cells #[.int .i8 ak, .int .i64 an, .string as9, .string at9, .slice A2 al.length cap2] 25) := ⟨_, rfl⟩
 have hb3 : Below w2.heap.size w2 w3 := by rw [hw3]; exact (Below.refl _ _).alloc (Nat.le_refl _) _
 have hg3 : w3.heap[w2.heap.size]? = some (.cells #[.int .i8 ak, .int .i64 an, .string as9, .string at9, .slice A2 al.length cap2] 25 (0, 0)) := by rw [hw3]; exact block_alloc _ _
 have H3 := Lib.hid (H2.out.under hb3)
 have HG3 := Lib.hid hg3
 have HR2 := Lib.hid (hR2.keep (Q := (· < w3.heap.size)) (fun b hb => hb3.block b hb) (fun b hb => Nat.lt_of_lt_of_le hb hb3.size))
 have HAE := Lib.hid hae
 have HAL : Hid (∀ z ∈ al, ExprAt z) := Lib.hid (fun z hz => HAX.out z (by rw [hae]; exact hz))
 have HRB := Lib.hid (fun b1 b2 b3 b4 W => rbare_any b1 b2 b3 b4 an ak as9 at9 A2 al.length cap2 W)
 have hq1 : (l.length : Int) - 1 = (q : Int) := by omega
 have hq2 : (q : Int) < (l.length : Int) := by omega
 have HQQ := Lib.hid hq
 have HRW : Hid (R = (clsB 1 (l.take q) && (ak == 21 && bareB false false false true an as9 at9 al.length && decide (2 ≤ al.length) && exprsB al))) := Lib.hid (by rw [HRV.out, hae, after_eq])
 clear hTy hTa hae hb3 hg3 hR2 hq hsn ha h0 h1
 by_cases ha21 : ak = 21
 rotate_left
 ·have p21 : (ak == 21) = false := by simpa using ha21
  go_wp2_with fail
  rw [← hw3]
  go_ret
  exact ⟨ret_bool (by rw [HRW.out, p21]; simp), H3.out.below⟩
 subst ha21
 go_wp2_with fail
 rw [← hw3]
 clear hw3 x1 x4 e0 e1 e2 e3 e4
 refine (HRB.out false false false true w3).mono ?_
 rintro e w4 ⟨rfl, b4⟩
 have H4 := Lib.hid (H3.out.under b4)
 have HG4 := Lib.hid ((b4.block _ (heap_lt HG3.out)).trans HG3.out)
 have HR4 := Lib.hid (HR2.out.keep (Q := (· < w4.heap.size)) (fun b hb => b4.block b hb) (fun b hb => Nat.lt_of_lt_of_le hb b4.size))
 obtain ⟨c5, hc5⟩ : ∃ c5, c5 = bareB false false false true an as9 at9 al.length := ⟨_, rfl⟩
 rw [← hc5] at HRW ⊢
 clear hc5 b4
 have y4 : w4.cell? ⟨w2.heap.size, 4, none⟩ = some (.slice A2 al.length cap2) := cell_of_row (i := 4) HG4.out rfl
 cases c5
 ·have HRF : Hid (R = false) := Lib.hid (by rw [HRW.out]; simp)
  go_wp2_with fail
  go_ret
  exact ⟨ret_bool HRF.out.symm, H4.out.below⟩
 by_cases hal : (al.length : Int) < 2
 ·have HRF : Hid (R = false) := Lib.hid (by rw [HRW.out, show decide (2 ≤ al.length) = false by rw [decide_eq_false_iff_not]; omega]; simp)
  go_wp2_with fail
  go_ret
  exact ⟨ret_bool HRF.out.symm, H4.out.below⟩
 have HRX : Hid (R = (clsB 1 (l.take q) && exprsB al)) := Lib.hid (by rw [HRW.out, show decide (2 ≤ al.length) = true by rw [decide_eq_true_eq]; omega]; simp)
 go_wp2_with fail
 refine (rall_of HAL.out A2 cap2 w4 HR4.out).mono ?_
 rintro e w5 ⟨rfl, b5⟩
 have H5 := Lib.hid (H4.out.under b5)
 obtain ⟨c6, hc6⟩ : ∃ c6, c6 = exprsB al := ⟨_, rfl⟩
 rw [← hc6] at HRX ⊢
 clear hc6 b5 y4
 cases c6
 ·have HRF : Hid (R = false) := Lib.hid (by rw [HRX.out]; simp)
  go_wp2_with fail
  go_ret
  exact ⟨ret_bool HRF.out.symm, H5.out.below⟩
 have x4 : w5.cell? ⟨w.heap.size, 4, none⟩ = some (.slice (some ⟨g, off, o⟩) l.length cap) := H5.out.cell 4 rfl
 by_cases hq0 : (q : Int) = 0
 ·have HRF : Hid (R = true) := Lib.hid (by rw [HRX.out, show q = 0 by omega]; simp [clsB])
  go_wp2_with fail
  go_ret
  exact ⟨ret_bool HRF.out.symm, H5.out.below⟩
 have hqn : ¬ q = 0 := by omega
 have hqc : (q : Int) ≤ (cap : Int) := by omega
 have hqz : (0 : Int) ≤ (q : Int) := by omega
 go_wp2_with fail
 have hl9 : (l.take q).length = q := by rw [List.length_take]; have := HQQ.out; omega
 have hc := rclauses_of (l := l.take q) 1 (by omega) (fun y hy => (HX.out y (List.mem_of_mem_take hy)).1) (some ⟨g, off, o⟩) cap w5 (by
  rw [hl9]
  exact take_row (HR.out.keep (fun b hb => H5.out.below.block b hb) (fun b hb => Nat.lt_of_lt_of_le hb H5.out.below.size)) q (by have := HQQ.out; omega))
 rw [show ((1 : Nat) : Int) = 1 from rfl, hl9] at hc
 have hne : (l.take q).isEmpty = false := by
  cases hh : l.take q with
  | nil => rw [hh] at hl9; simp at hl9; omega
  | cons a b => rfl
 rw [hne] at hc
 refine hc.mono ?_
 rintro e w6 ⟨rfl, b6⟩
 have H6 := Lib.hid (H5.out.under b6)
 clear b6 hc hl9 hne
 go_wp2_with fail
 go_ret
 exact ⟨ret_bool (by rw [HRX.out]; simp; try (intro h9; exact absurd h9 hqn)), H6.out.below⟩
end Go.Proofs.YtmdcdhdjojimeaaGreatDoor
end
section
set_option linter.unusedVariables false
set_option linter.unusedSimpArgs false
namespace Go.Proofs.YtmdcdhdjojimeaaGreatDoor
open Go.RowKit
theorem leafN (k : Int) (h : k ≠ 5 ∧ k ≠ 6 ∧ k ≠ 7 ∧ k ≠ 8) (n : Int) (s t : ByteArray) (l : List Tm) : leafB k n s t l = false := leaf_no h.1 h.2.1 h.2.2.1 h.2.2.2 n s t l
theorem ex9 (n : Int) (s t : ByteArray) (l : List Tm) : exprB (.mk 9 n s t l) = (bareB false false false true n s t l.length && (l.length == 2) && exprsB l) := by
 rw [bareFFFT]; unfold exprB; rw [leafN 9 (by decide)]; simp [Bool.and_assoc]
theorem ex10 (n : Int) (s t : ByteArray) (l : List Tm) : exprB (.mk 10 n s t l) = (bareB false false false true n s t l.length && exprsB l) := by
 rw [bareFFFT]; unfold exprB; rw [leafN 10 (by decide)]; simp [Bool.and_assoc]
theorem ex11 (n : Int) (s t : ByteArray) (l : List Tm) : exprB (.mk 11 n s t l) = ((cmpB s || ariB s) && bareB false true false true n s t l.length && (l.length == 2) && exprsB l) := by
 rw [bareFTFT]; unfold exprB; rw [leafN 11 (by decide)]; simp [Bool.and_assoc, Bool.and_comm, Bool.and_left_comm]
theorem ex13 (n : Int) (s t : ByteArray) (l : List Tm) : exprB (.mk 13 n s t l) = (bareB false false false true n s t l.length && (l.length == 2) && patFirst l) := by
 rw [bareFFFT]; unfold exprB; rw [leafN 13 (by decide)]; simp [Bool.and_assoc]
theorem ex14 (n : Int) (s t : ByteArray) (l : List Tm) : exprB (.mk 14 n s t l) = (bareB false true false true n s t l.length && atomB s && decide (l.length ≤ 8) && exprsB l) := by
 rw [bareFTFT]; unfold exprB; rw [leafN 14 (by decide)]; simp [Bool.and_assoc]
theorem bareFTTT (n : Int) (s t : ByteArray) (len : Nat) : bareB false true true true n s t len = (n == 0) := by unfold bareB; simp
theorem bareTTTF (n : Int) (s t : ByteArray) (l : List Tm) : bareB true true true false n s t l.length = l.isEmpty := by unfold bareB; rw [len0]; simp
theorem ex15 (n : Int) (s t : ByteArray) (l : List Tm) : exprB (.mk 15 n s t l) = (bareB false true true true n s t l.length && atomB s && atomB t && decide (l.length ≤ 8) && exprsB l) := by
 rw [bareFTTT]; unfold exprB; rw [leafN 15 (by decide)]; simp [Bool.and_assoc]
theorem ex16 (n : Int) (s t : ByteArray) (l : List Tm) : exprB (.mk 16 n s t l) = (bareB false false false true n s t l.length && decide (l.length ≤ 9) && varFirst l && exprsB l) := by
 rw [bareFFFT]; unfold exprB; rw [leafN 16 (by decide)]; simp [Bool.and_assoc]
theorem ex17 (n : Int) (s t : ByteArray) (l : List Tm) : exprB (.mk 17 n s t l) = (bareB true true true false n s t l.length && atomB s && atomB t && decide (0 ≤ n ∧ n ≤ 8)) := by
 rw [bareTTTF]; unfold exprB; rw [leafN 17 (by decide)]; simp [Bool.and_assoc, Bool.and_comm, Bool.and_left_comm]
theorem ex18 (n : Int) (s t : ByteArray) (l : List Tm) : exprB (.mk 18 n s t l) = (bareB false false false true n s t l.length && decide (2 ≤ l.length) && caseB 1 l) := by
 rw [bareFFFT]; unfold exprB; rw [leafN 18 (by decide)]; simp [Bool.and_assoc]
theorem ex19 (n : Int) (s t : ByteArray) (l : List Tm) : exprB (.mk 19 n s t l) = (bareB false false false true n s t l.length && decide (2 ≤ l.length) && caseB 2 l && l.tail.all classedB) := by
 rw [bareFFFT]; unfold exprB; rw [leafN 19 (by decide)]; simp [Bool.and_assoc]
theorem ex20 (n : Int) (s t : ByteArray) (l : List Tm) : exprB (.mk 20 n s t l) = recvP n s t l := by
 unfold recvP; rw [bareTFFT]; unfold exprB; rw [leafN 20 (by decide)]; simp [Bool.and_assoc]
theorem ex_no {k : Int} (h : k ≠ 9 ∧ k ≠ 10 ∧ k ≠ 11 ∧ k ≠ 13 ∧ k ≠ 14 ∧ k ≠ 15 ∧ k ≠ 16 ∧ k ≠ 17 ∧ k ≠ 18 ∧ k ≠ 19 ∧ k ≠ 20) (n : Int) (s t : ByteArray) (l : List Tm) : exprB (.mk k n s t l) = leafB k n s t l := by
 obtain ⟨h1, h2, h3, h4, h5, h6, h7, h8, h9, h10, h11⟩ := h
 unfold exprB
 simp [beq_eq_false_iff_ne.2 h1, beq_eq_false_iff_ne.2 h2, beq_eq_false_iff_ne.2 h3, beq_eq_false_iff_ne.2 h4, beq_eq_false_iff_ne.2 h5, beq_eq_false_iff_ne.2 h6, beq_eq_false_iff_ne.2 h7, beq_eq_false_iff_ne.2 h8, beq_eq_false_iff_ne.2 h9, beq_eq_false_iff_ne.2 h10, beq_eq_false_iff_ne.2 h11]
theorem ex_leaf {k n : Int} {s t : ByteArray} {l : List Tm} (h : leafB k n s t l = true) : exprB (.mk k n s t l) = true := by
 unfold exprB; rw [h]; simp
end Go.Proofs.YtmdcdhdjojimeaaGreatDoor
end
