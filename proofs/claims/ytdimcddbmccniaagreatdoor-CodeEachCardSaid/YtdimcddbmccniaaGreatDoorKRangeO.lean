/- A range over a function whose iterator keeps a state in cells of its own, and whose rounds turn blocks made behind the iterator's beginning (rows that grow): 'Own k A': block k is the iterator's at A; rounds leave those be, the iterator turns no other. -/
import Derived.Test.YtdimcddbmccniaaGreatDoorKNd7
import Derived.Test.YtdimcddbmccniaaGreatDoorKAstT
import Derived.Test.YtdimcddbmccniaaGreatDoorKTmL
import Derived.Test.YtdimcddbmccniaaGreatDoorKPub7
import Derived.Test.YtdimcddbmccniaaGreatDoorKCd1
import Derived.Test.YtdimcddbmccniaaGreatDoorKNodes
section
set_option linter.unusedVariables false
set_option linter.unusedSimpArgs false
namespace Go.Proofs.YtdimcddbmccniaaGreatDoor
open Go.RowKit
open Go.Lib (decDigits itoa)

set_option maxHeartbeats 1000000 in
theorem within_any (n a b : Int) (w : World) : Calls Tryz.prog 78 #[.int .i64 n, .int .i64 a, .int .i64 b] w fun e w' => e = .returned (.bool (withinB n a b)) ∧ w = w' := by
  have H := Lib.hid (show withinB n a b = (decide (a ≤ n) && decide (n ≤ b)) from rfl)
  by_cases h1 : a ≤ n
  · by_cases h2 : n ≤ b
    · go_enter Tryz.func78, Tryz.ntmps78
      go_wp2
      go_ret
      exact ⟨ret_bool (by rw [H.out]; simp [h1, h2]), rfl⟩
    · go_enter Tryz.func78, Tryz.ntmps78
      go_wp2
      go_ret
      exact ⟨ret_bool (by rw [H.out]; simp [h1, h2]), rfl⟩
  · go_enter Tryz.func78, Tryz.ntmps78
    go_wp2
    go_ret
    exact ⟨ret_bool (by rw [H.out]; simp; omega), rfl⟩

set_option maxHeartbeats 2000000 in
set_option maxRecDepth 100000 in
theorem noTerm_any (k n : Int) (s t : ByteArray) (A : Option Addr) (len cap : Nat) (w : World) : Calls Tryz.prog 130 #[.agg #[.int .i8 k, .int .i64 n, .string s, .string t, .slice A len cap]] w fun e w' => e = .returned (.bool (blank5 k n s t len)) ∧ Below w.heap.size w w' := by
  obtain ⟨R, hR⟩ : ∃ R, R = blank5 k n s t len := ⟨_, rfl⟩
  have HR := Lib.hid hR
  rw [← hR]
  clear hR
  obtain ⟨w1, hw1⟩ : ∃ w1, w1 = w.alloc (.cells #[.int .i8 k, .int .i64 n, .string s, .string t, .slice A len cap] 48) := ⟨_, rfl⟩
  have g1 : w1.heap[w.heap.size]? = some (.cells #[.int .i8 k, .int .i64 n, .string s, .string t, .slice A len cap] 48 (0, 0)) := by rw [hw1]; exact block_alloc _ _
  have HB : Hid (Below w.heap.size w w1) := Lib.hid (by rw [hw1]; exact (Below.refl _ _).alloc (Nat.le_refl _) _)
  obtain ⟨x0, x1, x2, x3, x4⟩ := five_of g1
  clear g1
  cases hk : (k == 0)
  case false =>
    have HR0 : Hid (R = false) := Lib.hid (by rw [HR.out]; unfold blank5; simp only [hk]; rfl)
    go_enter Tryz.func130, Tryz.ntmps130
    go_upto_region 1 with fail
    rw [← hw1]
    clear hw1
    go_wp2_with fail
    go_ret
    exact ⟨ret_bool HR0.out.symm, HB.out⟩
  cases hn : (n == 0)
  case false =>
    have HR0 : Hid (R = false) := Lib.hid (by rw [HR.out]; unfold blank5; simp only [hn, hk]; rfl)
    go_enter Tryz.func130, Tryz.ntmps130
    go_upto_region 1 with fail
    rw [← hw1]
    clear hw1
    go_wp2_with fail
    go_ret
    exact ⟨ret_bool HR0.out.symm, HB.out⟩
  cases hs : (s.toList.isEmpty)
  case false =>
    have hs1 : (s.toList == []) = false := by cases h : s.toList <;> simp_all
    have hs2 : ¬ (s.toList = []) := by simpa using hs
    have HR0 : Hid (R = false) := Lib.hid (by rw [HR.out]; unfold blank5; simp only [hs, hk, hn]; rfl)
    go_enter Tryz.func130, Tryz.ntmps130
    go_upto_region 1 with fail
    rw [← hw1]
    clear hw1
    go_wp2_with fail
    go_ret
    exact ⟨ret_bool HR0.out.symm, HB.out⟩
  have hs1 : (s.toList == []) = true := by cases h : s.toList <;> simp_all
  have hs2 : (s.toList = []) := by simpa using hs
  cases ht : (t.toList.isEmpty)
  case false =>
    have ht1 : (t.toList == []) = false := by cases h : t.toList <;> simp_all
    have ht2 : ¬ (t.toList = []) := by simpa using ht
    have HR0 : Hid (R = false) := Lib.hid (by rw [HR.out]; unfold blank5; simp only [ht, hk, hn, hs]; rfl)
    go_enter Tryz.func130, Tryz.ntmps130
    go_upto_region 1 with fail
    rw [← hw1]
    clear hw1
    go_wp2_with fail
    go_ret
    exact ⟨ret_bool HR0.out.symm, HB.out⟩
  have ht1 : (t.toList == []) = true := by cases h : t.toList <;> simp_all
  have ht2 : (t.toList = []) := by simpa using ht
  cases hl : ((len : Int) == 0)
  case false =>
    have HR0 : Hid (R = false) := Lib.hid (by rw [HR.out]; unfold blank5; simp only [hl, hk, hn, hs, ht]; rfl)
    go_enter Tryz.func130, Tryz.ntmps130
    go_upto_region 1 with fail
    rw [← hw1]
    clear hw1
    go_wp2_with fail
    go_ret
    exact ⟨ret_bool HR0.out.symm, HB.out⟩
  have HR0 : Hid (R = true) := Lib.hid (by rw [HR.out]; unfold blank5; simp only [hk, hn, hs, ht, hl]; rfl)
  go_enter Tryz.func130, Tryz.ntmps130
  go_upto_region 1 with fail
  rw [← hw1]
  clear hw1
  go_wp2_with fail
  go_ret
  exact ⟨ret_bool HR0.out.symm, HB.out⟩

set_option maxHeartbeats 2000000 in
set_option maxRecDepth 100000 in
theorem noTree_any (k n : Int) (s t : ByteArray) (A : Option Addr) (len cap : Nat) (w : World) : Calls Tryz.prog 131 #[.agg #[.int .i8 k, .int .i64 n, .string s, .string t, .slice A len cap]] w fun e w' => e = .returned (.bool (blank5 k n s t len)) ∧ Below w.heap.size w w' := by
  obtain ⟨R, hR⟩ : ∃ R, R = blank5 k n s t len := ⟨_, rfl⟩
  have HR := Lib.hid hR
  rw [← hR]
  clear hR
  obtain ⟨w1, hw1⟩ : ∃ w1, w1 = w.alloc (.cells #[.int .i8 k, .int .i64 n, .string s, .string t, .slice A len cap] 25) := ⟨_, rfl⟩
  have g1 : w1.heap[w.heap.size]? = some (.cells #[.int .i8 k, .int .i64 n, .string s, .string t, .slice A len cap] 25 (0, 0)) := by rw [hw1]; exact block_alloc _ _
  have HB : Hid (Below w.heap.size w w1) := Lib.hid (by rw [hw1]; exact (Below.refl _ _).alloc (Nat.le_refl _) _)
  obtain ⟨x0, x1, x2, x3, x4⟩ := five_of g1
  clear g1
  cases hk : (k == 0)
  case false =>
    have HR0 : Hid (R = false) := Lib.hid (by rw [HR.out]; unfold blank5; simp only [hk]; rfl)
    go_enter Tryz.func131, Tryz.ntmps131
    go_upto_region 1 with fail
    rw [← hw1]
    clear hw1
    go_wp2_with fail
    go_ret
    exact ⟨ret_bool HR0.out.symm, HB.out⟩
  cases hn : (n == 0)
  case false =>
    have HR0 : Hid (R = false) := Lib.hid (by rw [HR.out]; unfold blank5; simp only [hn, hk]; rfl)
    go_enter Tryz.func131, Tryz.ntmps131
    go_upto_region 1 with fail
    rw [← hw1]
    clear hw1
    go_wp2_with fail
    go_ret
    exact ⟨ret_bool HR0.out.symm, HB.out⟩
  cases hs : (s.toList.isEmpty)
  case false =>
    have hs1 : (s.toList == []) = false := by cases h : s.toList <;> simp_all
    have hs2 : ¬ (s.toList = []) := by simpa using hs
    have HR0 : Hid (R = false) := Lib.hid (by rw [HR.out]; unfold blank5; simp only [hs, hk, hn]; rfl)
    go_enter Tryz.func131, Tryz.ntmps131
    go_upto_region 1 with fail
    rw [← hw1]
    clear hw1
    go_wp2_with fail
    go_ret
    exact ⟨ret_bool HR0.out.symm, HB.out⟩
  have hs1 : (s.toList == []) = true := by cases h : s.toList <;> simp_all
  have hs2 : (s.toList = []) := by simpa using hs
  cases ht : (t.toList.isEmpty)
  case false =>
    have ht1 : (t.toList == []) = false := by cases h : t.toList <;> simp_all
    have ht2 : ¬ (t.toList = []) := by simpa using ht
    have HR0 : Hid (R = false) := Lib.hid (by rw [HR.out]; unfold blank5; simp only [ht, hk, hn, hs]; rfl)
    go_enter Tryz.func131, Tryz.ntmps131
    go_upto_region 1 with fail
    rw [← hw1]
    clear hw1
    go_wp2_with fail
    go_ret
    exact ⟨ret_bool HR0.out.symm, HB.out⟩
  have ht1 : (t.toList == []) = true := by cases h : t.toList <;> simp_all
  have ht2 : (t.toList = []) := by simpa using ht
  cases hl : ((len : Int) == 0)
  case false =>
    have HR0 : Hid (R = false) := Lib.hid (by rw [HR.out]; unfold blank5; simp only [hl, hk, hn, hs, ht]; rfl)
    go_enter Tryz.func131, Tryz.ntmps131
    go_upto_region 1 with fail
    rw [← hw1]
    clear hw1
    go_wp2_with fail
    go_ret
    exact ⟨ret_bool HR0.out.symm, HB.out⟩
  have HR0 : Hid (R = true) := Lib.hid (by rw [HR.out]; unfold blank5; simp only [hk, hn, hs, ht, hl]; rfl)
  go_enter Tryz.func131, Tryz.ntmps131
  go_upto_region 1 with fail
  rw [← hw1]
  clear hw1
  go_wp2_with fail
  go_ret
  exact ⟨ret_bool HR0.out.symm, HB.out⟩

set_option maxHeartbeats 2000000 in
set_option maxRecDepth 100000 in
theorem bare_any (k n : Int) (s t : ByteArray) (A : Option Addr) (len cap : Nat) (w : World) : Calls Tryz.prog 120 #[.agg #[.int .i8 k, .int .i64 n, .string s, .string t, .slice A len cap]] w fun e w' => e = .returned (.bool (bare5 k n t len)) ∧ Below w.heap.size w w' := by
  obtain ⟨R, hR⟩ : ∃ R, R = bare5 k n t len := ⟨_, rfl⟩
  have HR := Lib.hid hR
  rw [← hR]
  clear hR
  obtain ⟨w1, hw1⟩ : ∃ w1, w1 = w.alloc (.cells #[.int .i8 k, .int .i64 n, .string s, .string t, .slice A len cap] 48) := ⟨_, rfl⟩
  have g1 : w1.heap[w.heap.size]? = some (.cells #[.int .i8 k, .int .i64 n, .string s, .string t, .slice A len cap] 48 (0, 0)) := by rw [hw1]; exact block_alloc _ _
  have HB : Hid (Below w.heap.size w w1) := Lib.hid (by rw [hw1]; exact (Below.refl _ _).alloc (Nat.le_refl _) _)
  obtain ⟨x0, x1, x2, x3, x4⟩ := five_of g1
  clear g1
  cases hk : (k == 1)
  case false =>
    have HR0 : Hid (R = false) := Lib.hid (by rw [HR.out]; unfold bare5; simp only [hk]; rfl)
    go_enter Tryz.func120, Tryz.ntmps120
    go_upto_region 1 with fail
    rw [← hw1]
    clear hw1
    go_wp2_with fail
    go_ret
    exact ⟨ret_bool HR0.out.symm, HB.out⟩
  cases hn : (n == 0)
  case false =>
    have HR0 : Hid (R = false) := Lib.hid (by rw [HR.out]; unfold bare5; simp only [hn, hk]; rfl)
    go_enter Tryz.func120, Tryz.ntmps120
    go_upto_region 1 with fail
    rw [← hw1]
    clear hw1
    go_wp2_with fail
    go_ret
    exact ⟨ret_bool HR0.out.symm, HB.out⟩
  cases ht : (t.toList.isEmpty)
  case false =>
    have ht1 : (t.toList == []) = false := by cases h : t.toList <;> simp_all
    have ht2 : ¬ (t.toList = []) := by simpa using ht
    have HR0 : Hid (R = false) := Lib.hid (by rw [HR.out]; unfold bare5; simp only [ht, hk, hn]; rfl)
    go_enter Tryz.func120, Tryz.ntmps120
    go_upto_region 1 with fail
    rw [← hw1]
    clear hw1
    go_wp2_with fail
    go_ret
    exact ⟨ret_bool HR0.out.symm, HB.out⟩
  have ht1 : (t.toList == []) = true := by cases h : t.toList <;> simp_all
  have ht2 : (t.toList = []) := by simpa using ht
  cases hl : ((len : Int) == 0)
  case false =>
    have HR0 : Hid (R = false) := Lib.hid (by rw [HR.out]; unfold bare5; simp only [hl, hk, hn, ht]; rfl)
    go_enter Tryz.func120, Tryz.ntmps120
    go_upto_region 1 with fail
    rw [← hw1]
    clear hw1
    go_wp2_with fail
    go_ret
    exact ⟨ret_bool HR0.out.symm, HB.out⟩
  have HR0 : Hid (R = true) := Lib.hid (by rw [HR.out]; unfold bare5; simp only [hk, hn, ht, hl]; rfl)
  go_enter Tryz.func120, Tryz.ntmps120
  go_upto_region 1 with fail
  rw [← hw1]
  clear hw1
  go_wp2_with fail
  go_ret
  exact ⟨ret_bool HR0.out.symm, HB.out⟩

set_option maxHeartbeats 1000000 in
theorem isTerm_any (t : Tm) (v : Value) (w : World) (hT : TmAt (· < w.heap.size) w t v) (hS : Spans w) :
    Calls Tryz.prog 117 #[v] w fun e w' => e = .returned (.bool (isT t)) ∧ Below w.heap.size w w' := by
  obtain ⟨k, n, s, t9, A, m, c, rfl⟩ : ∃ k n s t A m c, v = .agg #[.int .i8 k, .int .i64 n, .string s, .string t, .slice A m c] := by cases hT; exact ⟨_, _, _, _, _, _, _, rfl⟩
  obtain ⟨w1, hw1⟩ : ∃ w1, w1 = w.alloc (.cells #[.int .i8 k, .int .i64 n, .string s, .string t9, .slice A m c] 48) := ⟨_, rfl⟩
  have hb1 : Below w.heap.size w w1 := by rw [hw1]; exact (Below.refl _ w).alloc (Nat.le_refl _) _
  have hg1 : w1.heap[w.heap.size]? = some (.cells #[.int .i8 k, .int .i64 n, .string s, .string t9, .slice A m c] 48 (0, 0)) := by rw [hw1]; exact block_alloc _ _
  have HC := Lib.hid (Check_any t _ w1 (hT.laterN hb1) (hS.below hb1 hS.lt))
  have HB1 := Lib.hid hb1
  obtain ⟨x0, x1, x2, x3, x4⟩ := five_of hg1
  clear hb1 hg1 hT hS
  go_enter Tryz.func117, Tryz.ntmps117
  go_upto_region 1 with fail
  rw [← hw1]
  clear hw1
  go_wp2_with fail
  refine HC.out.mono ?_
  rintro e w2 ⟨rfl, b2⟩
  go_wp2_with fail
  go_ret
  exact ⟨rfl, HB1.out.trans (b2.mono HB1.out.size)⟩
def operB (s : ByteArray) : Bool := (cmpR s 0).2 || arithB s
set_option maxHeartbeats 1000000 in
theorem oper13_any (s : ByteArray) (w : World) : Calls Tryz.prog 121 #[.string s] w fun e w' => e = .returned (.bool (operB s)) ∧ Below w.heap.size w w' := by
  have HC := Lib.hid (Compare_any s 0 w)
  have HA := Lib.hid (fun V => Arith_any s V)
  obtain ⟨q, hq⟩ : ∃ q, q = cmpR s 0 := ⟨_, rfl⟩
  rw [← hq] at HC
  obtain ⟨q1, q2⟩ := q
  have HQ : Hid (operB s = (q2 || arithB s)) := Lib.hid (by unfold operB; rw [← hq])
  clear hq
  go_enter Tryz.func121, Tryz.ntmps121
  go_wp2_with fail
  refine HC.out.mono ?_
  rintro e w2 ⟨rfl, b2⟩
  have HB := Lib.hid b2
  have HA2 := Lib.hid (HA.out w2)
  clear b2
  cases q2
  · go_wp2_with fail
    refine HA2.out.mono ?_
    rintro e w3 ⟨rfl, b3⟩
    go_wp2_with fail
    go_ret
    exact ⟨ret_bool (by rw [HQ.out]; rfl), HB.out.trans (b3.mono HB.out.size)⟩
  · go_wp2_with fail
    go_ret
    exact ⟨ret_bool (by rw [HQ.out]; rfl), HB.out⟩
end Go.Proofs.YtdimcddbmccniaaGreatDoor
end
section
set_option linter.unusedVariables false
set_option linter.unusedSimpArgs false
namespace Go.Proofs.YtdimcddbmccniaaGreatDoor
open Go.RowKit

def anyB13 (y : Tm) : Prop := patB y = true ∨ guaB y = true ∨ testB y = true ∨ guardB y = true ∨ exprB y = true ∨ (∃ m, m ≤ 8 ∧ clB m y = true) ∨ afterB y = true
theorem patsB_mem13 : ∀ {l : List Tm} {y : Tm}, patsB l = true → y ∈ l → anyB13 y
  | x :: l, y, h, hy => by
    rw [patsB, Bool.and_eq_true] at h
    rcases List.mem_cons.1 hy with rfl | hy
    · exact .inl h.1
    · exact patsB_mem13 h.2 hy
theorem guasB_mem13 : ∀ {l : List Tm} {y : Tm}, guasB l = true → y ∈ l → anyB13 y
  | x :: l, y, h, hy => by
    rw [guasB, Bool.and_eq_true] at h
    rcases List.mem_cons.1 hy with rfl | hy
    · exact .inr (.inl h.1)
    · exact guasB_mem13 h.2 hy
theorem exprsB_mem13 : ∀ {l : List Tm} {y : Tm}, exprsB l = true → y ∈ l → anyB13 y
  | x :: l, y, h, hy => by
    rw [exprsB, Bool.and_eq_true] at h
    rcases List.mem_cons.1 hy with rfl | hy
    · exact .inr (.inr (.inr (.inr (.inl h.1))))
    · exact exprsB_mem13 h.2 hy
theorem patFirst_mem13 : ∀ {l : List Tm} {y : Tm}, patFirst l = true → y ∈ l → anyB13 y
  | x :: l, y, h, hy => by
    rw [patFirst, Bool.and_eq_true] at h
    rcases List.mem_cons.1 hy with rfl | hy
    · exact .inl h.1
    · exact exprsB_mem13 h.2 hy
theorem clsB_mem13 {m : Nat} (hm : m ≤ 8) : ∀ {l : List Tm} {y : Tm}, clsB m l = true → y ∈ l → clB m y = true
  | x :: l, y, h, hy => by
    rw [clsB, Bool.and_eq_true] at h
    rcases List.mem_cons.1 hy with rfl | hy
    · exact h.1
    · exact clsB_mem13 hm h.2 hy
theorem cl_any13 {m : Nat} (hm : m ≤ 8) {y : Tm} (h : clB m y = true) : anyB13 y := .inr (.inr (.inr (.inr (.inr (.inl ⟨m, hm, h⟩)))))
theorem caseB_mem13 {m : Nat} (hm : m ≤ 8) : ∀ {l : List Tm} {y : Tm}, caseB m l = true → y ∈ l → anyB13 y
  | x :: l, y, h, hy => by
    rw [caseB, Bool.and_eq_true] at h
    rcases List.mem_cons.1 hy with rfl | hy
    · exact .inr (.inr (.inr (.inr (.inl h.1))))
    · exact cl_any13 hm (clsB_mem13 hm h.2 hy)
theorem recvB_mem13 : ∀ {l : List Tm} {y : Tm}, recvB l = true → y ∈ l → anyB13 y
  | x :: l, y, h, hy => by
    rw [recvB] at h
    by_cases he : l.isEmpty = true
    · rw [if_pos he] at h
      rcases List.mem_cons.1 hy with rfl | hy
      · exact .inr (.inr (.inr (.inr (.inr (.inr h)))))
      · rw [List.isEmpty_iff.1 he] at hy; cases hy
    · rw [if_neg he, Bool.and_eq_true] at h
      rcases List.mem_cons.1 hy with rfl | hy
      · exact cl_any13 (by decide) h.1
      · exact recvB_mem13 h.2 hy
theorem partsB_mem13 : ∀ {m : Nat} {l : List Tm} {y : Tm}, partsB m l = true → y ∈ l → anyB13 y
  | 0, g :: l, y, h, hy => by
    rw [partsB, Bool.and_eq_true, Bool.and_eq_true] at h
    rcases List.mem_cons.1 hy with rfl | hy
    · exact .inr (.inr (.inr (.inl h.1.1)))
    · exact exprsB_mem13 h.2 hy
  | m + 1, p :: l, y, h, hy => by
    rw [partsB, Bool.and_eq_true] at h
    rcases List.mem_cons.1 hy with rfl | hy
    · exact .inl h.1
    · exact partsB_mem13 h.2 hy
theorem emp_small {s : ByteArray} (h : emp s = true) : s.size ≤ 281474976710656 := by unfold emp at h; have := of_decide_eq_true h; omega
theorem name_small {s : ByteArray} {k : Int} (h : nameB s k = true) : s.size ≤ 281474976710656 := by unfold nameB at h; have := (of_decide_eq_true h).2.1; omega
theorem atom_small {s : ByteArray} (h : atomB s = true) : s.size ≤ 281474976710656 := by unfold atomB at h; rw [Bool.and_eq_true] at h; exact name_small h.1
theorem lit_small {s : ByteArray} {L : List (List UInt8)} (hL : ∀ x ∈ L, x.length ≤ 64) (h : (L.any fun x => s.data.toList == x) = true) : s.size ≤ 281474976710656 := by
  obtain ⟨x, hx, e⟩ := List.any_eq_true.1 h
  have e2 : s.data.toList = x := eq_of_beq e
  have := hL x hx
  have h3 : s.data.toList.length = s.size := by rw [Array.length_toList]; rfl
  rw [e2] at h3
  omega
theorem cmp_small {s : ByteArray} (h : cmpB s = true) : s.size ≤ 281474976710656 := lit_small (by decide) h
theorem ari_small {s : ByteArray} (h : ariB s = true) : s.size ≤ 281474976710656 := lit_small (by decide) h
theorem plus_small {s : ByteArray} (h : plusB s = true) : s.size ≤ 281474976710656 := lit_small (by decide) h
theorem kind_small {s : ByteArray} (h : kindB s = true) : s.size ≤ 281474976710656 := lit_small (by decide) h
theorem leaf_small {k n : Int} {s t : ByteArray} {l : List Tm} (h : leafB k n s t l = true) : s.size ≤ 281474976710656 ∧ ∀ y ∈ l, anyB13 y := by
  unfold leafB at h
  simp only [Bool.and_eq_true, Bool.or_eq_true] at h
  obtain ⟨⟨hl, -⟩, h⟩ := h
  rw [List.isEmpty_iff.1 hl]
  refine ⟨?_, fun y hy => by cases hy⟩
  rcases h with ((h | h) | h) | h
  · exact name_small h.2
  · exact emp_small h.1.2
  · exact atom_small h.2
  · exact emp_small h.2
theorem step13 {k n : Int} {s t : ByteArray} {l : List Tm} (h : anyB13 (.mk k n s t l)) : s.size ≤ 281474976710656 ∧ ∀ y ∈ l, anyB13 y := by
  rcases h with h | h | h | h | h | ⟨m, hm, h⟩ | h
  · rw [patB, Bool.or_eq_true] at h
    rcases h with h | h
    · exact leaf_small h
    · simp only [Bool.and_eq_true] at h
      exact ⟨emp_small h.1.1.2, fun y hy => patsB_mem13 h.2 hy⟩
  · rw [guaB, Bool.or_eq_true] at h
    rcases h with h | h
    · exact leaf_small h
    · simp only [Bool.and_eq_true, Bool.or_eq_true] at h
      refine ⟨?_, fun y hy => guasB_mem13 h.2 hy⟩
      rcases h.1.1.1 with (h | h) | h
      · exact emp_small h.2
      · exact emp_small h.1.2
      · exact plus_small h.1.2
  · rw [testB] at h
    simp only [Bool.and_eq_true, Bool.or_eq_true] at h
    refine ⟨?_, fun y hy => guasB_mem13 h.2 hy⟩
    rcases h.1.1.1 with h | h
    · exact cmp_small h.1.2
    · exact kind_small h.1.2
  · rw [guardB] at h
    simp only [Bool.and_eq_true, List.all_eq_true] at h
    exact ⟨emp_small h.1.1.2, fun y hy => .inr (.inr (.inl (h.2 y hy)))⟩
  · rw [exprB] at h
    simp only [Bool.or_eq_true, or_assoc] at h
    rcases h with h | h | h | h | h | h | h | h | h | h | h | h
    · exact leaf_small h
    · simp only [Bool.and_eq_true] at h
      exact ⟨emp_small h.1.1.1.2, fun y hy => exprsB_mem13 h.2 hy⟩
    · simp only [Bool.and_eq_true] at h
      exact ⟨emp_small h.1.1.2, fun y hy => exprsB_mem13 h.2 hy⟩
    · simp only [Bool.and_eq_true, Bool.or_eq_true] at h
      exact ⟨by rcases h.1.1.2 with h | h; exact cmp_small h; exact ari_small h, fun y hy => exprsB_mem13 h.2 hy⟩
    · simp only [Bool.and_eq_true] at h
      exact ⟨emp_small h.1.1.1.2, fun y hy => patFirst_mem13 h.2 hy⟩
    · simp only [Bool.and_eq_true] at h
      exact ⟨atom_small h.1.1.2, fun y hy => exprsB_mem13 h.2 hy⟩
    · simp only [Bool.and_eq_true] at h
      exact ⟨atom_small h.1.1.1.2, fun y hy => exprsB_mem13 h.2 hy⟩
    · simp only [Bool.and_eq_true] at h
      exact ⟨emp_small h.1.1.1.1.2, fun y hy => exprsB_mem13 h.2 hy⟩
    · simp only [Bool.and_eq_true] at h
      rw [List.isEmpty_iff.1 h.2]
      exact ⟨atom_small h.1.1.1.2, fun y hy => by cases hy⟩
    · simp only [Bool.and_eq_true] at h
      exact ⟨emp_small h.1.1.1.2, fun y hy => caseB_mem13 (by decide) h.2 hy⟩
    · simp only [Bool.and_eq_true] at h
      exact ⟨emp_small h.1.1.1.1.2, fun y hy => caseB_mem13 (m := 2) (by decide) h.1.2 hy⟩
    · simp only [Bool.and_eq_true, Bool.or_eq_true] at h
      refine ⟨emp_small h.1.1.2, fun y hy => ?_⟩
      rcases h.2 with h | h
      · exact cl_any13 (by decide) (clsB_mem13 (m := 1) (by decide) h.2 hy)
      · exact recvB_mem13 h.2 hy
  · rw [clB] at h
    simp only [Bool.and_eq_true] at h
    exact ⟨emp_small h.1.1.2, fun y hy => partsB_mem13 h.2 hy⟩
  · rw [afterB] at h
    simp only [Bool.and_eq_true] at h
    exact ⟨emp_small h.1.1.1.2, fun y hy => exprsB_mem13 h.2 hy⟩
theorem mem_pres13 : ∀ {l : List Tm} {z : Tm}, z ∈ Tm.pres l → ∃ y ∈ l, z ∈ y.pre
  | y :: l, z, h => by
    rw [Tm.pres, List.mem_append] at h
    rcases h with h | h
    · exact ⟨y, List.mem_cons_self, h⟩
    · obtain ⟨y', h1, h2⟩ := mem_pres13 h
      exact ⟨y', List.mem_cons_of_mem _ h1, h2⟩
theorem any_szd (x : Tm) : anyB13 x → Szd x := by
  induction x using Tm.ind with
  | h k n s t l ih =>
  intro h z hz
  obtain ⟨h1, h3⟩ := step13 h
  rw [Tm.pre] at hz
  rcases List.mem_cons.1 hz with rfl | hz
  · exact h1
  · obtain ⟨y, hy, hzy⟩ := mem_pres13 hz
    exact ih y hy (h3 y hy) z hzy
theorem pat_szd {x : Tm} (h : patB x = true) : Szd x := any_szd x (.inl h)
theorem guard_szd {x : Tm} (h : guardB x = true) : Szd x := any_szd x (.inr (.inr (.inr (.inl h))))
theorem clause_szd {x : Tm} (h : clauseR x 1 = true) : Szd x := by
  unfold clauseR at h
  simp only [Bool.and_eq_true] at h
  exact any_szd x (.inr (.inr (.inr (.inr (.inr (.inl ⟨1, by decide, h.2⟩))))))
end Go.Proofs.YtdimcddbmccniaaGreatDoor
end
section
set_option linter.unusedVariables false
namespace Go.Proofs.YtdimcddbmccniaaGreatDoor
open Go.RowKit

structure KO (Own : Nat → World → Prop) (n₀ : Nat) (A B : World) : Prop where
  size : A.heap.size ≤ B.heap.size
  low : ∀ k, k < n₀ → B.heap[k]? = A.heap[k]?
  own : ∀ k, Own k A → B.heap[k]? = A.heap[k]? ∧ Own k B
theorem KO.trans {Own : Nat → World → Prop} {n₀ : Nat} {A B C : World} (h : KO Own n₀ A B) (g : KO Own n₀ B C) : KO Own n₀ A C :=
  ⟨Nat.le_trans h.size g.size, fun k hk => (g.low k hk).trans (h.low k hk), fun k hk => ⟨(g.own k (h.own k hk).2).1.trans (h.own k hk).1, (g.own k (h.own k hk).2).2⟩⟩

def SeqO {α : Type} (n : Nat) (P : Program) (g : Nat) (lb : Array Value) (encs : α → Array Value) (n₀ : Nat) (E : α → Prop) (S Sp : List α → Prop) (N : Nat) (w : World) : Prop :=
  ∀ (Own : Nat → World → Prop) (l : Nat) (J Jx : List α → World → Prop) (W : World), Below w.heap.size w W →
    (∀ k A, Own k A → k < A.heap.size ∧ W.heap.size ≤ k) → (∀ k A B F, Own k A → Mod F A B → (∀ j, j < A.heap.size → F j → Own j A) → Own k B) →
    (∀ s A o, J s A → W.heap.size ≤ A.heap.size → Own A.heap.size (A.alloc o)) →
    (∀ s A B F, J s A → Mod F A B → (∀ j, j < A.heap.size → F j → Own j A) → J s B) →
    (∀ pre x W1, J pre W1 → E x → pre.length < N → YieldAt Fence.wide (n - 1) P l (encs x) W1 fun e W' =>
      (e = .returned (.bool true) ∧ J (pre ++ [x]) W' ∧ KO Own n₀ W1 W') ∨ (e = .returned (.bool false) ∧ Jx (pre ++ [x]) W')) →
    (∀ s A B F, Jx s A → Mod F A B → (∀ j, j < A.heap.size → F j → Own j A) → Jx s B) →
    J [] W →
    CallsIn Fence.wide n P g (#[.func (.yield l) #[] #[]] ++ lb) W fun e W' => (∃ v, e = .returned v) ∧ ((∃ xs, S xs ∧ J xs W') ∨ (∃ pre, Sp pre ∧ Jx pre W'))

def roundO {α : Type} (KB : World → World → Prop) (I : List α → World → Prop) (Ix : Code → List α → World → Prop) (xs : List α) (W : World) : Exit → Act → World → Prop
  | .normal, _, W' => KB W W' ∧ I xs W'
  | .ret, _, W' => KB W W' ∧ Ix .ret xs W'
  | .exit id, _, W' => KB W W' ∧ Ix (.exit id) xs W'
  | .goto t, _, W' => KB W W' ∧ Ix (.goto t) xs W'
  | .panic _, _, _ => False
  | .outgrown, _, _ => False
structure KB (Own : Nat → World → Prop) (n₀ B : Nat) (A C : World) : Prop where
  ko : KO Own n₀ A C
  loop_ : C.heap[B + 1]? = A.heap[B + 1]?
  dfr : C.heap[B]? = A.heap[B]?

theorem kb_at {Own : Nat → World → Prop} {n₀ B C : Nat} {X Y : World} (e : B = C) (h : KB Own n₀ C X Y) : KB Own n₀ B X Y := by subst e; exact h
theorem range_own {α : Type} {n : Nat} {P : Program} {w : World} {g : Operand} {ps : Array Tmp} {assign body : Code} {Q : Exit → Act → World → Prop} {a : Act}
    {gf : Nat} {lb : Array Value} (hg : a.eval g = .func (.func gf) #[] lb) (eg : ∀ args w, (callFunc gf args).run P w = .ok (.enter gf args) w)
    {encs : α → Array Value} (hps : ∀ x, (encs x).size = ps.size) {n₀ : Nat} {E : α → Prop} {S Sp : List α → Prop} {N : Nat} (hseq : SeqO (n - 1) P gf lb encs n₀ E S Sp N w) (hn₀ : n₀ ≤ w.heap.size)
    (Own : Nat → World → Prop) (hO : ∀ k A, Own k A → k < A.heap.size ∧ w.heap.size + 2 ≤ k)
    (hOs : ∀ k A B F, w.heap.size ≤ A.heap.size → Own k A → Mod F A B → (∀ j, j < A.heap.size → F j → Own j A ∨ j = w.heap.size ∨ j = w.heap.size + 1) → Own k B)
    (I : List α → World → Prop) (Ix : Code → List α → World → Prop) (hOn : ∀ s A o, I s A → w.heap.size + 2 ≤ A.heap.size → Own A.heap.size (A.alloc o))
    (hI : ∀ s A B F, w.heap.size ≤ A.heap.size → I s A → Mod F A B → (∀ j, j < A.heap.size → F j → Own j A ∨ j = w.heap.size ∨ j = w.heap.size + 1) → I s B)
    (hIx : ∀ c s A B F, w.heap.size ≤ A.heap.size → Ix c s A → Mod F A B → (∀ j, j < A.heap.size → F j → Own j A ∨ j = w.heap.size ∨ j = w.heap.size + 1) → Ix c s B) (h0 : I [] w)
    (Ax : α → Act → World → Prop) (hAx : ∀ x a' X Y, Mod (fun k => k = w.heap.size + 1) X Y → Ax x a' X → Ax x a' Y)
    (hassign : ∀ (l : Nat) (pre : List α) (x : α) (W : World) (K : Act → World → Prop), I pre W → E x → w.heap.size + 2 ≤ W.heap.size → (∀ a' W', Below W.heap.size W W' → Ax x a' W' → K a' W') →
      assign.wpIn (Fence.wide.inRound l) (n - 1 - 1) P (Exit.then K (fun _ _ _ => False)) { tmps := (ps.zip (encs x)).foldl (fun t (p, v) => t.setIfInBounds p v) a.tmps, defers := [] } W)
    (hbody : ∀ (l : Nat) (pre : List α) (x : α) (a' : Act) (W : World), I pre W → E x → Ax x a' W → pre.length < N → w.heap.size + 2 ≤ W.heap.size → (∀ k, k < n₀ → W.heap[k]? = w.heap[k]?) → body.wpIn (Fence.wide.inRound l) (n - 1 - 1) P (roundO (KB Own n₀ w.heap.size) I Ix (pre ++ [x]) W) a' W)
    (hdone : ∀ (xs : List α) (W : World), S xs → I xs W → W.heap[w.heap.size]? = some (.deferred (some [])) → Q .normal { a with defers := { target := .collected w.heap.size, args := #[] } :: a.defers } W)
    (hstop : ∀ (c : Code) (pre : List α) (W : World), Sp pre → Ix c pre W → W.heap[w.heap.size]? = some (.deferred (some [])) → c.wpIn Fence.wide n P Q { a with defers := { target := .collected w.heap.size, args := #[] } :: a.defers } W)
    (h1 : 1 ≤ n) : (Code.rangeFunc g ps assign body).wpIn Fence.wide n P Q a w := by
  obtain ⟨B, hB⟩ : ∃ B, B = w.heap.size := ⟨_, rfl⟩
  refine wpIn_rangeFunc fun fn hfn => ?_
  -- the record, in each of its states
  let rec_ (st : LoopState) (pe : Option Code) : Loop := { state := st, pending := pe, fn, tmps := a.tmps, params := ps, assign, body, defers := w.heap.size }
  obtain ⟨W1, hW1⟩ : ∃ W1, W1 = (w.alloc (.deferred (some []))).alloc (.loop (rec_ .ready none)) := ⟨_, rfl⟩
  have hsz : W1.heap.size = B + 2 := by rw [hW1, hB]; simp
  have hrec : W1.heap[B + 1]? = some (.loop (rec_ .ready none)) := by
    have := World.alloc_heap_new (w.alloc (.deferred (some []))) (.loop (rec_ .ready none))
    rw [World.size_alloc] at this; rw [hW1, hB]; exact this
  have hdef : W1.heap[B]? = some (.deferred (some [])) := by
    rw [hW1, hB]; exact (Below.heap_alloc _ _ _ (by simp)).trans (World.alloc_heap_new w _)
  have hwW : Below w.heap.size w W1 := by rw [hW1]; exact ((Below.refl _ w).alloc (Nat.le_refl _) _).alloc (by simp) _
  have keep : ∀ {X Y : World} {F : Nat → Prop} {k : Nat} {o : Obj}, Mod F X Y → ¬ F k → X.heap[k]? = some o → Y.heap[k]? = some o := fun h hF hk => (h.block _ (heap_lt hk) hF).trans hk
  have putB : ∀ (X : World) (o : Obj), Mod (fun k => k = B + 1) X (X.putObj (B + 1) o) := fun X o => Mod.put X _ o rfl
  have getB : ∀ (X : World) (o : Obj), B + 1 < X.heap.size → (X.putObj (B + 1) o).heap[B + 1]? = some o := fun X o h => World.putObj_heap_same h
  have fB : ∀ {X : World} {j : Nat}, j = B + 1 → Own j X ∨ j = w.heap.size ∨ j = w.heap.size + 1 := fun e => .inr (.inr (by rw [e, hB]))
  have oB : ∀ {X : World}, ¬ Own (B + 1) X ∧ ¬ Own B X := ⟨fun h => by have := (hO _ _ h).2; omega, fun h => by have := (hO _ _ h).2; omega⟩
  refine ⟨B + 1, [{ target := .collected w.heap.size, args := #[] }], W1, { target := .fn (.func gf) lb, args := #[.func (.yield (B + 1)) #[] #[]] }, W1, gf, #[.func (.yield (B + 1)) #[] #[]] ++ lb, W1, ?_, ?_, fun _ _ => trivial, ?_, fun _ => h1, ?_⟩
  · rw [hB, hW1]; exact run_enterLoop_outer _ _ _ _ _
  · simp only [resolve, hg]; simp [go_sem]
  · simp [invoke, go_sem, eg]
  have hmod1 : Mod (fun _ => False) w W1 := by rw [hW1]; exact (Mod.alloc _ _ _).trans (Mod.alloc _ _ _) (fun _ _ h => h)
  have hI1 : I [] W1 := hI _ _ _ _ (Nat.le_refl _) h0 hmod1 (fun _ _ h => h.elim)
  refine (hseq Own (B + 1) (fun pre W => I pre W ∧ W.heap[B + 1]? = some (.loop (rec_ .ready none)) ∧ W.heap[B]? = some (.deferred (some [])) ∧ (∀ k, k < n₀ → W.heap[k]? = w.heap[k]?))
    (fun pre W => ∃ c, Ix c pre W ∧ W.heap[B + 1]? = some (.loop (rec_ .done (some c))) ∧ W.heap[B]? = some (.deferred (some []))) W1 hwW ?_ ?_ ?_ ?_ ?_ ?_ ⟨hI1, hrec, hdef, fun k hk => hwW.block k (by omega)⟩).mono ?_
  · intro k A h; have := hO k A h; omega
  · intro k A C F h hm hF
    have hsA : w.heap.size ≤ A.heap.size := by have := hO k A h; omega
    exact hOs k A C F hsA h hm (fun j hj hf => .inl (hF j hj hf))
  · rintro s A o ⟨i, r, d, -⟩ hs
    exact hOn s A o i (by omega)
  · rintro s A C F ⟨i, r, d, lo⟩ hm hF
    have hA := heap_lt r
    exact ⟨hI _ _ _ _ (by omega) i hm (fun j hj hf => .inl (hF j hj hf)), keep hm (fun hf => oB.1 (hF _ hA hf)) r, keep hm (fun hf => oB.2 (hF _ (by omega) hf)) d,
      fun k hk => (hm.block k (by omega) (fun hf => by have := (hO _ _ (hF k (by omega) hf)).2; omega)).trans (lo k hk)⟩
  · rintro pre x W ⟨i, r, d, lo⟩ hex hlen
    have hlt := heap_lt r
    refine ⟨fn, _, assign, body, run_yield (P := P) (args := encs x) r (hps x), roundIn_of_wpIn hfn (hassign _ pre x W _ i hex (by omega) ?_)⟩
    intro a' Wa hba hax
    have ma : Mod (fun _ => False) W Wa := Mod.of_below hba
    have ia : I pre Wa := hI _ _ _ _ (by omega) i ma (fun _ _ h => h.elim)
    have ra : Wa.heap[B + 1]? = some (.loop (rec_ .ready none)) := (hba.block _ hlt).trans r
    have da : Wa.heap[B]? = some (.deferred (some [])) := (hba.block _ (by omega)).trans d
    have hla := heap_lt ra
    have oa : ∀ k, Own k W → Wa.heap[k]? = W.heap[k]? ∧ Own k Wa := fun k hk => ⟨hba.block k (hO _ _ hk).1, hOs _ _ _ _ (by omega) hk ma (fun _ _ h => h.elim)⟩
    refine ⟨_, run_beginRound ra rfl, ?_⟩
    have m1 := putB Wa (.loop { rec_ .ready none with state := .busy })
    have rb := getB Wa (.loop { rec_ .ready none with state := .busy }) hla
    have db : (Wa.putObj (B + 1) (.loop { rec_ .ready none with state := .busy })).heap[B]? = some (.deferred (some [])) := keep m1 (by omega) da
    have ib := hI _ _ _ _ (by omega) ia m1 (fun j _ e => fB e)
    have ob : ∀ k, Own k Wa → (Wa.putObj (B + 1) (.loop { rec_ .ready none with state := .busy })).heap[k]? = Wa.heap[k]? ∧ Own k (Wa.putObj (B + 1) (.loop { rec_ .ready none with state := .busy })) := fun k hk =>
      ⟨m1.block k (hO _ _ hk).1 (fun e => by have := (hO _ _ hk).2; omega), hOs _ _ _ _ (by omega) hk m1 (fun j _ e => fB e)⟩
    have lob : ∀ k, k < n₀ → (Wa.putObj (B + 1) (.loop { rec_ .ready none with state := .busy })).heap[k]? = W.heap[k]? := fun k hk => (m1.block k (by omega) (by omega)).trans (hba.block k (by omega))
    have sb : (Wa.putObj (B + 1) (.loop { rec_ .ready none with state := .busy })).heap.size = Wa.heap.size := World.putObj_size
    refine wpIn_mono (hbody _ pre x a' _ ib hex (hAx _ _ _ _ (by rw [← hB]; exact m1) hax) hlen (by rw [sb]; omega) (fun k hk => (lob k hk).trans (lo k hk))) ?_
    have fin : ∀ (jump : Option Code) (W3 : World), KB Own n₀ B (Wa.putObj (B + 1) (.loop { rec_ .ready none with state := .busy })) W3 →
        (Instr.endRound (B + 1) jump).run P W3 = .ok (.bool jump.isNone) (W3.putObj (B + 1) (.loop (rec_ (if jump.isNone then .ready else .done) jump))) ∧
        (W3.putObj (B + 1) (.loop (rec_ (if jump.isNone then .ready else .done) jump))).heap[B + 1]? = some (.loop (rec_ (if jump.isNone then .ready else .done) jump)) ∧
        (W3.putObj (B + 1) (.loop (rec_ (if jump.isNone then .ready else .done) jump))).heap[B]? = some (.deferred (some [])) ∧
        KO Own n₀ W (W3.putObj (B + 1) (.loop (rec_ (if jump.isNone then .ready else .done) jump))) ∧ w.heap.size ≤ W3.heap.size := fun jump W3 hm3 => by
      have r3 : W3.heap[B + 1]? = _ := hm3.loop_.trans rb
      have d3 : W3.heap[B]? = _ := hm3.dfr.trans db
      have hl3 := heap_lt r3
      have m4 := putB W3 (.loop (rec_ (if jump.isNone then .ready else .done) jump))
      refine ⟨run_endRound (P := P) jump r3, getB _ _ hl3, keep m4 (by omega) d3, ⟨?_, fun k hk => ?_, fun k hk => ?_⟩, by omega⟩
      · rw [World.putObj_size]; have := hm3.ko.size; have := hba.size; omega
      · exact (m4.block k (by omega) (by omega)).trans ((hm3.ko.low k hk).trans (lob k hk))
      · obtain ⟨e1, o1⟩ := oa k hk
        obtain ⟨e2, o2⟩ := ob k o1
        obtain ⟨e3, o3⟩ := hm3.ko.own k o2
        exact ⟨(m4.block k (hO _ _ o3).1 (fun e => by have := (hO _ _ o3).2; omega)).trans (e3.trans (e2.trans e1)), hOs _ _ _ _ (by omega) o3 m4 (fun j _ e => fB e)⟩
    rintro e a3 W3 hp
    cases e with
    | normal =>
      obtain ⟨hm3', i3⟩ := hp
      have hm3 := kb_at hB hm3'
      obtain ⟨hr, r4, d4, k4, s4⟩ := fin none W3 hm3
      exact ⟨_, _, hr, .inl ⟨rfl, ⟨hI _ _ _ _ s4 i3 (putB _ _) (fun j _ e => fB e), r4, d4, fun k hk => (k4.low k hk).trans (lo k hk)⟩, k4⟩⟩
    | ret =>
      obtain ⟨hm3', i3⟩ := hp
      have hm3 := kb_at hB hm3'
      obtain ⟨hr, r4, d4, k4, s4⟩ := fin (some .ret) W3 hm3
      exact ⟨_, _, hr, .inr ⟨rfl, .ret, hIx _ _ _ _ _ s4 i3 (putB _ _) (fun j _ e => fB e), r4, d4⟩⟩
    | exit id =>
      obtain ⟨hm3', i3⟩ := hp
      have hm3 := kb_at hB hm3'
      obtain ⟨hr, r4, d4, k4, s4⟩ := fin (some (.exit id)) W3 hm3
      exact ⟨_, _, hr, .inr ⟨rfl, .exit id, hIx _ _ _ _ _ s4 i3 (putB _ _) (fun j _ e => fB e), r4, d4⟩⟩
    | goto t =>
      obtain ⟨hm3', i3⟩ := hp
      have hm3 := kb_at hB hm3'
      obtain ⟨hr, r4, d4, k4, s4⟩ := fin (some (.goto t)) W3 hm3
      exact ⟨_, _, hr, .inr ⟨rfl, .goto t, hIx _ _ _ _ _ s4 i3 (putB _ _) (fun j _ e => fB e), r4, d4⟩⟩
    | panic ch => exact hp.elim
    | outgrown => exact hp.elim
  · rintro s A C F ⟨c, i, r, d⟩ hm hF
    have hA := heap_lt r
    exact ⟨c, hIx _ _ _ _ _ (by omega) i hm (fun j hj hf => .inl (hF j hj hf)), keep hm (fun hf => oB.1 (hF _ hA hf)) r, keep hm (fun hf => oB.2 (hF _ (by omega) hf)) d⟩
  · rintro e W2 ⟨⟨v, rfl⟩, (⟨xs, hS, i, r, d, -⟩ | ⟨pre, hSp, c, i, r, d⟩)⟩
    · have h := run_endLoop (P := P) r (by simp [rec_])
      have hA := heap_lt d
      exact ⟨none, _, h, hdone xs _ hS (hI _ _ _ _ (by omega) i (putB _ _) (fun j _ e => fB e)) (by rw [← hB]; exact keep (putB _ _) (by omega) d)⟩
    · have h := run_endLoop (P := P) r (by simp [rec_])
      have hA := heap_lt d
      exact ⟨some c, _, h, hstop c pre _ hSp (hIx _ _ _ _ _ (by omega) i (putB _ _) (fun j _ e => fB e)) (by rw [← hB]; exact keep (putB _ _) (by omega) d)⟩
end Go.Proofs.YtdimcddbmccniaaGreatDoor
end
