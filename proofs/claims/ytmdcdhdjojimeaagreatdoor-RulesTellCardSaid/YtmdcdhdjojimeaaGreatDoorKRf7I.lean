/- The document's own answer of layer 7: expressions. -/
import Derived.Test.YtmdcdhdjojimeaaGreatDoorKRf7H
set_option linter.unusedVariables false
set_option linter.unusedSimpArgs false
namespace Go.Proofs.YtmdcdhdjojimeaaGreatDoor
open Go.RowKit

theorem tail_rowC {P : Nat → Prop} {w : World} {g off : Nat} {oo : Option Nat} {n cap : Nat} {x : Tm} {l : List Tm} (h : TRow P w (some ⟨g, off, oo⟩) n cap (x :: l)) : TRow P w (some ⟨g, off + 5, none⟩) (n - 1) (cap - 1) l := by
 have hlen := h.len
 have hmax := h.max
 have hcap := h.cap
 rw [List.length_cons] at hlen
 refine ⟨by omega, by omega, by omega, fun j y hj => ?_⟩
 obtain ⟨ad, u, hA, had, hE, hT⟩ := h.at_ (j + 1) y (by simpa using hj)
 cases hA
 refine ⟨_, u, rfl, had, ?_, hT⟩
 have e : (⟨g, off + 5, none⟩ : Addr).add (j * 5) = (⟨g, off, oo⟩ : Addr).add ((j + 1) * 5) := by
  unfold Addr.add
  rw [if_neg (by omega : ¬ (j + 1) * 5 = 0)]
  split
  ·simp; omega
  ·simp; omega
 unfold ElemAt
 rw [e]
 exact hE
set_option maxHeartbeats 16000000 in
set_option maxRecDepth 100000 in
theorem rexpr_of {k n : Int} {s t : ByteArray} {l : List Tm} (hE : ∀ y ∈ l, ExprAt y) (hC : ∀ y ∈ l, ClauseAt y ∧ ∀ z ∈ y.l, ExprAt z) : ExprAt (.mk k n s t l) := by
 intro v w hT
 obtain ⟨A, cap, rfl, hR, hk, hn, hs, ht⟩ := hT.parts
 have hlen := hR.max
 unfold maxLen at hlen
 have HR := Lib.hid hR
 have HE := Lib.hid hE
 have HC := Lib.hid hC
 have HTT := Lib.hid hT
 have HLF := Lib.hid (fun W => rleaf_any k n s t A l cap W hs)
 have HBR := Lib.hid (fun b1 b2 b3 b4 W => rbare_any b1 b2 b3 b4 n k s t A l.length cap W)
 have HCM := Lib.hid (fun W => rCompare_any s 0 W)
 have HAR := Lib.hid (fun W => rArith_any s W)
 have HAS := Lib.hid (fun W => rAtom7_any s W hs)
 have HAT := Lib.hid (fun W => rAtom7_any t W ht)
 clear hR hT hs ht hn hE hC hk
 obtain ⟨R, hRR⟩ : ∃ R, R = exprB (.mk k n s t l) := ⟨_, rfl⟩
 have HRR := Lib.hid hRR
 rw [← hRR]
 clear hRR
 obtain ⟨w1, hw1⟩ : ∃ w1, w1 = w.alloc (.cells #[.int .i8 k, .int .i64 n, .string s, .string t, .slice A l.length cap] 25) := ⟨_, rfl⟩
 have hb1 : Bx7 w w1 #[.int .i8 k, .int .i64 n, .string s, .string t, .slice A l.length cap] := bx7_of w _ w1 hw1
 have H1 := Lib.hid hb1
 clear hb1
 go_enter Tryz.func86, Tryz.ntmps86
 go_wp2_with fail
 rw [← hw1]
 clear hw1
 refine (HLF.out w1).mono ?_
 rintro e w2 ⟨rfl, b2⟩
 have H2 := Lib.hid (H1.out.under b2)
 clear b2
 obtain ⟨c1, hc1⟩ : ∃ c1, c1 = leafB k n s t l := ⟨_, rfl⟩
 rw [← hc1]
 have HC1 := Lib.hid hc1
 clear hc1
 cases c1
 rotate_left
 ·go_wp2_with fail
  go_ret
  exact ⟨ret_bool (by rw [HRR.out]; exact (ex_leaf HC1.out.symm).symm), H2.out.below⟩
 have x0 : w2.cell? ⟨w.heap.size, 0, none⟩ = some (.int .i8 k) := H2.out.cell 0 rfl
 have x1 : w2.cell? ⟨w.heap.size, 1, none⟩ = some (.int .i64 n) := H2.out.cell 1 rfl
 have x2 : w2.cell? ⟨w.heap.size, 2, none⟩ = some (.string s) := H2.out.cell 2 rfl
 have x3 : w2.cell? ⟨w.heap.size, 3, none⟩ = some (.string t) := H2.out.cell 3 rfl
 have x4 : w2.cell? ⟨w.heap.size, 4, none⟩ = some (.slice A l.length cap) := H2.out.cell 4 rfl
 by_cases hk9 : k = 9
 ·subst hk9
  have HP : Hid (R = (bareB false false false true n s t l.length && (l.length == 2) && exprsB l)) := Lib.hid (by rw [HRR.out, ex9])
  go_wp2_with fail
  refine (HBR.out false false false true w2).mono ?_
  rintro e w3 ⟨rfl, b3⟩
  have H3 := Lib.hid (H2.out.under b3)
  clear b3
  obtain ⟨cb, hcb⟩ : ∃ cb, cb = bareB false false false true n s t l.length := ⟨_, rfl⟩
  rw [← hcb] at HP ⊢
  clear hcb x0 x1 x2 x3 x4
  have x0 : w3.cell? ⟨w.heap.size, 0, none⟩ = some (.int .i8 9) := H3.out.cell 0 rfl
  have x1 : w3.cell? ⟨w.heap.size, 1, none⟩ = some (.int .i64 n) := H3.out.cell 1 rfl
  have x2 : w3.cell? ⟨w.heap.size, 2, none⟩ = some (.string s) := H3.out.cell 2 rfl
  have x3 : w3.cell? ⟨w.heap.size, 3, none⟩ = some (.string t) := H3.out.cell 3 rfl
  have x4 : w3.cell? ⟨w.heap.size, 4, none⟩ = some (.slice A l.length cap) := H3.out.cell 4 rfl
  cases cb
  ·go_wp2_with fail
   go_ret
   exact ⟨ret_bool (by rw [HP.out]; simp), H3.out.below⟩
  by_cases hl : (l.length : Int) = 2
  rotate_left
  ·have q2 : (l.length == 2) = false := by simp; omega
   rw [q2] at HP
   go_wp2_with fail
   go_ret
   exact ⟨ret_bool (by rw [HP.out]; simp), H3.out.below⟩
  have q2 : (l.length == 2) = true := by simp; omega
  rw [q2] at HP
  clear q2
  go_wp2_with fail
  refine (rall_of HE.out A cap w3 (HR.out.keep (fun b hb => H3.out.below.block b hb) (fun b hb => Nat.lt_of_lt_of_le hb H3.out.below.size))).mono ?_
  rintro e w4 ⟨rfl, b4⟩
  have H4 := Lib.hid (H3.out.under b4)
  clear b4 x0 x1 x2 x3 x4
  go_wp2_with fail
  go_ret
  exact ⟨ret_bool (by rw [HP.out]; simp), H4.out.below⟩
 by_cases hk10 : k = 10
 ·subst hk10
  have HP : Hid (R = (bareB false false false true n s t l.length && exprsB l)) := Lib.hid (by rw [HRR.out, ex10])
  go_wp2_with fail
  refine (HBR.out false false false true w2).mono ?_
  rintro e w3 ⟨rfl, b3⟩
  have H3 := Lib.hid (H2.out.under b3)
  clear b3
  obtain ⟨cb, hcb⟩ : ∃ cb, cb = bareB false false false true n s t l.length := ⟨_, rfl⟩
  rw [← hcb] at HP ⊢
  clear hcb x0 x1 x2 x3 x4
  have x0 : w3.cell? ⟨w.heap.size, 0, none⟩ = some (.int .i8 10) := H3.out.cell 0 rfl
  have x1 : w3.cell? ⟨w.heap.size, 1, none⟩ = some (.int .i64 n) := H3.out.cell 1 rfl
  have x2 : w3.cell? ⟨w.heap.size, 2, none⟩ = some (.string s) := H3.out.cell 2 rfl
  have x3 : w3.cell? ⟨w.heap.size, 3, none⟩ = some (.string t) := H3.out.cell 3 rfl
  have x4 : w3.cell? ⟨w.heap.size, 4, none⟩ = some (.slice A l.length cap) := H3.out.cell 4 rfl
  cases cb
  ·go_wp2_with fail
   go_ret
   exact ⟨ret_bool (by rw [HP.out]; simp), H3.out.below⟩
  go_wp2_with fail
  refine (rall_of HE.out A cap w3 (HR.out.keep (fun b hb => H3.out.below.block b hb) (fun b hb => Nat.lt_of_lt_of_le hb H3.out.below.size))).mono ?_
  rintro e w4 ⟨rfl, b4⟩
  have H4 := Lib.hid (H3.out.under b4)
  clear b4 x0 x1 x2 x3 x4
  go_wp2_with fail
  go_ret
  exact ⟨ret_bool (by rw [HP.out]; simp), H4.out.below⟩
 by_cases hk14 : k = 14
 ·subst hk14
  have HP : Hid (R = (bareB false true false true n s t l.length && atomB s && decide (l.length ≤ 8) && exprsB l)) := Lib.hid (by rw [HRR.out, ex14])
  go_wp2_with fail
  refine (HBR.out false true false true w2).mono ?_
  rintro e w3 ⟨rfl, b3⟩
  have H3 := Lib.hid (H2.out.under b3)
  clear b3
  obtain ⟨cb, hcb⟩ : ∃ cb, cb = bareB false true false true n s t l.length := ⟨_, rfl⟩
  rw [← hcb] at HP ⊢
  clear hcb x0 x1 x2 x3 x4
  have x0 : w3.cell? ⟨w.heap.size, 0, none⟩ = some (.int .i8 14) := H3.out.cell 0 rfl
  have x1 : w3.cell? ⟨w.heap.size, 1, none⟩ = some (.int .i64 n) := H3.out.cell 1 rfl
  have x2 : w3.cell? ⟨w.heap.size, 2, none⟩ = some (.string s) := H3.out.cell 2 rfl
  have x3 : w3.cell? ⟨w.heap.size, 3, none⟩ = some (.string t) := H3.out.cell 3 rfl
  have x4 : w3.cell? ⟨w.heap.size, 4, none⟩ = some (.slice A l.length cap) := H3.out.cell 4 rfl
  cases cb
  ·go_wp2_with fail
   go_ret
   exact ⟨ret_bool (by rw [HP.out]; simp), H3.out.below⟩
  go_wp2_with fail
  refine (HAS.out w3).mono ?_
  rintro e w' ⟨rfl, rfl⟩
  obtain ⟨cs, hcs⟩ : ∃ cs, cs = atomB s := ⟨_, rfl⟩
  rw [← hcs] at HP ⊢
  clear hcs
  cases cs
  ·go_wp2_with fail
   go_ret
   exact ⟨ret_bool (by rw [HP.out]; simp), H3.out.below⟩
  by_cases hl : (l.length : Int) ≤ 8
  rotate_left
  ·have q2 : decide (l.length ≤ 8) = false := by rw [decide_eq_false_iff_not]; omega
   rw [q2] at HP
   have q3 : (8 : Int) < (l.length : Int) := by omega
   go_wp2_with fail
   go_ret
   exact ⟨ret_bool (by rw [HP.out]; simp), H3.out.below⟩
  have q2 : decide (l.length ≤ 8) = true := by rw [decide_eq_true_eq]; omega
  rw [q2] at HP
  clear q2
  go_wp2_with fail
  refine (rall_of HE.out A cap w3 (HR.out.keep (fun b hb => H3.out.below.block b hb) (fun b hb => Nat.lt_of_lt_of_le hb H3.out.below.size))).mono ?_
  rintro e w4 ⟨rfl, b4⟩
  have H4 := Lib.hid (H3.out.under b4)
  clear b4 x0 x1 x2 x3 x4
  go_wp2_with fail
  go_ret
  exact ⟨ret_bool (by rw [HP.out]; simp), H4.out.below⟩
 by_cases hk15 : k = 15
 ·subst hk15
  have HP : Hid (R = (bareB false true true true n s t l.length && atomB s && atomB t && decide (l.length ≤ 8) && exprsB l)) := Lib.hid (by rw [HRR.out, ex15])
  go_wp2_with fail
  refine (HBR.out false true true true w2).mono ?_
  rintro e w3 ⟨rfl, b3⟩
  have H3 := Lib.hid (H2.out.under b3)
  clear b3
  obtain ⟨cb, hcb⟩ : ∃ cb, cb = bareB false true true true n s t l.length := ⟨_, rfl⟩
  rw [← hcb] at HP ⊢
  clear hcb x0 x1 x2 x3 x4
  have x0 : w3.cell? ⟨w.heap.size, 0, none⟩ = some (.int .i8 15) := H3.out.cell 0 rfl
  have x1 : w3.cell? ⟨w.heap.size, 1, none⟩ = some (.int .i64 n) := H3.out.cell 1 rfl
  have x2 : w3.cell? ⟨w.heap.size, 2, none⟩ = some (.string s) := H3.out.cell 2 rfl
  have x3 : w3.cell? ⟨w.heap.size, 3, none⟩ = some (.string t) := H3.out.cell 3 rfl
  have x4 : w3.cell? ⟨w.heap.size, 4, none⟩ = some (.slice A l.length cap) := H3.out.cell 4 rfl
  cases cb
  ·go_wp2_with fail
   go_ret
   exact ⟨ret_bool (by rw [HP.out]; simp), H3.out.below⟩
  go_wp2_with fail
  refine (HAS.out w3).mono ?_
  rintro e w' ⟨rfl, rfl⟩
  obtain ⟨cs, hcs⟩ : ∃ cs, cs = atomB s := ⟨_, rfl⟩
  rw [← hcs] at HP ⊢
  clear hcs
  cases cs
  ·go_wp2_with fail
   go_ret
   exact ⟨ret_bool (by rw [HP.out]; simp), H3.out.below⟩
  go_wp2_with fail
  refine (HAT.out w3).mono ?_
  rintro e w' ⟨rfl, rfl⟩
  obtain ⟨cs, hcs⟩ : ∃ cs, cs = atomB t := ⟨_, rfl⟩
  rw [← hcs] at HP ⊢
  clear hcs
  cases cs
  ·go_wp2_with fail
   go_ret
   exact ⟨ret_bool (by rw [HP.out]; simp), H3.out.below⟩
  by_cases hl : (l.length : Int) ≤ 8
  rotate_left
  ·have q2 : decide (l.length ≤ 8) = false := by rw [decide_eq_false_iff_not]; omega
   rw [q2] at HP
   have q3 : (8 : Int) < (l.length : Int) := by omega
   go_wp2_with fail
   go_ret
   exact ⟨ret_bool (by rw [HP.out]; simp), H3.out.below⟩
  have q2 : decide (l.length ≤ 8) = true := by rw [decide_eq_true_eq]; omega
  rw [q2] at HP
  clear q2
  go_wp2_with fail
  refine (rall_of HE.out A cap w3 (HR.out.keep (fun b hb => H3.out.below.block b hb) (fun b hb => Nat.lt_of_lt_of_le hb H3.out.below.size))).mono ?_
  rintro e w4 ⟨rfl, b4⟩
  have H4 := Lib.hid (H3.out.under b4)
  clear b4 x0 x1 x2 x3 x4
  go_wp2_with fail
  go_ret
  exact ⟨ret_bool (by rw [HP.out]; simp), H4.out.below⟩
 by_cases hk11 : k = 11
 ·subst hk11
  have HP : Hid (R = ((cmpB s || ariB s) && bareB false true false true n s t l.length && (l.length == 2) && exprsB l)) := Lib.hid (by rw [HRR.out, ex11])
  go_wp2_with fail
  refine (HCM.out w2).mono ?_
  rintro e w' ⟨rfl, rfl⟩
  rw [cmpR_cmpB]
  obtain ⟨c3, hc3⟩ : ∃ c3, c3 = cmpB s := ⟨_, rfl⟩
  rw [← hc3] at HP ⊢
  clear hc3
  have HGO : Hid (∀ x : Bool, R = x → True) := Lib.hid (fun _ _ => trivial)
  clear HGO
  cases c3
  ·go_wp2_with fail
   refine (HAR.out w2).mono ?_
   rintro e w' ⟨rfl, rfl⟩
   rw [arith_ariB]
   obtain ⟨c4, hc4⟩ : ∃ c4, c4 = ariB s := ⟨_, rfl⟩
   rw [← hc4] at HP ⊢
   clear hc4
   cases c4
   ·go_wp2_with fail
    go_ret
    exact ⟨ret_bool (by rw [HP.out]; simp), H2.out.below⟩
   go_wp2_with fail
   refine (HBR.out false true false true w2).mono ?_
   rintro e w3 ⟨rfl, b3⟩
   have H3 := Lib.hid (H2.out.under b3)
   clear b3
   obtain ⟨cb, hcb⟩ : ∃ cb, cb = bareB false true false true n s t l.length := ⟨_, rfl⟩
   rw [← hcb] at HP ⊢
   clear hcb x0 x1 x2 x3 x4
   have x0 : w3.cell? ⟨w.heap.size, 0, none⟩ = some (.int .i8 11) := H3.out.cell 0 rfl
   have x1 : w3.cell? ⟨w.heap.size, 1, none⟩ = some (.int .i64 n) := H3.out.cell 1 rfl
   have x2 : w3.cell? ⟨w.heap.size, 2, none⟩ = some (.string s) := H3.out.cell 2 rfl
   have x3 : w3.cell? ⟨w.heap.size, 3, none⟩ = some (.string t) := H3.out.cell 3 rfl
   have x4 : w3.cell? ⟨w.heap.size, 4, none⟩ = some (.slice A l.length cap) := H3.out.cell 4 rfl
   cases cb
   ·go_wp2_with fail
    go_ret
    exact ⟨ret_bool (by rw [HP.out]; simp), H3.out.below⟩
   by_cases hl : (l.length : Int) = 2
   rotate_left
   ·have q2 : (l.length == 2) = false := by simp; omega
    rw [q2] at HP
    go_wp2_with fail
    go_ret
    exact ⟨ret_bool (by rw [HP.out]; simp), H3.out.below⟩
   have q2 : (l.length == 2) = true := by simp; omega
   rw [q2] at HP
   clear q2
   go_wp2_with fail
   refine (rall_of HE.out A cap w3 (HR.out.keep (fun b hb => H3.out.below.block b hb) (fun b hb => Nat.lt_of_lt_of_le hb H3.out.below.size))).mono ?_
   rintro e w4 ⟨rfl, b4⟩
   have H4 := Lib.hid (H3.out.under b4)
   clear b4 x0 x1 x2 x3 x4
   go_wp2_with fail
   go_ret
   exact ⟨ret_bool (by rw [HP.out]; simp), H4.out.below⟩
  ·go_wp2_with fail
   refine (HBR.out false true false true w2).mono ?_
   rintro e w3 ⟨rfl, b3⟩
   have H3 := Lib.hid (H2.out.under b3)
   clear b3
   obtain ⟨cb, hcb⟩ : ∃ cb, cb = bareB false true false true n s t l.length := ⟨_, rfl⟩
   rw [← hcb] at HP ⊢
   clear hcb x0 x1 x2 x3 x4
   have x0 : w3.cell? ⟨w.heap.size, 0, none⟩ = some (.int .i8 11) := H3.out.cell 0 rfl
   have x1 : w3.cell? ⟨w.heap.size, 1, none⟩ = some (.int .i64 n) := H3.out.cell 1 rfl
   have x2 : w3.cell? ⟨w.heap.size, 2, none⟩ = some (.string s) := H3.out.cell 2 rfl
   have x3 : w3.cell? ⟨w.heap.size, 3, none⟩ = some (.string t) := H3.out.cell 3 rfl
   have x4 : w3.cell? ⟨w.heap.size, 4, none⟩ = some (.slice A l.length cap) := H3.out.cell 4 rfl
   cases cb
   ·go_wp2_with fail
    go_ret
    exact ⟨ret_bool (by rw [HP.out]; simp), H3.out.below⟩
   by_cases hl : (l.length : Int) = 2
   rotate_left
   ·have q2 : (l.length == 2) = false := by simp; omega
    rw [q2] at HP
    go_wp2_with fail
    go_ret
    exact ⟨ret_bool (by rw [HP.out]; simp), H3.out.below⟩
   have q2 : (l.length == 2) = true := by simp; omega
   rw [q2] at HP
   clear q2
   go_wp2_with fail
   refine (rall_of HE.out A cap w3 (HR.out.keep (fun b hb => H3.out.below.block b hb) (fun b hb => Nat.lt_of_lt_of_le hb H3.out.below.size))).mono ?_
   rintro e w4 ⟨rfl, b4⟩
   have H4 := Lib.hid (H3.out.under b4)
   clear b4 x0 x1 x2 x3 x4
   go_wp2_with fail
   go_ret
   exact ⟨ret_bool (by rw [HP.out]; simp), H4.out.below⟩
 by_cases hk17 : k = 17
 ·subst hk17
  have HP : Hid (R = (bareB true true true false n s t l.length && atomB s && atomB t && decide (0 ≤ n ∧ n ≤ 8))) := Lib.hid (by rw [HRR.out, ex17])
  go_wp2_with fail
  refine (HBR.out true true true false w2).mono ?_
  rintro e w3 ⟨rfl, b3⟩
  have H3 := Lib.hid (H2.out.under b3)
  clear b3
  obtain ⟨cb, hcb⟩ : ∃ cb, cb = bareB true true true false n s t l.length := ⟨_, rfl⟩
  rw [← hcb] at HP ⊢
  clear hcb x0 x1 x2 x3 x4
  have x0 : w3.cell? ⟨w.heap.size, 0, none⟩ = some (.int .i8 17) := H3.out.cell 0 rfl
  have x1 : w3.cell? ⟨w.heap.size, 1, none⟩ = some (.int .i64 n) := H3.out.cell 1 rfl
  have x2 : w3.cell? ⟨w.heap.size, 2, none⟩ = some (.string s) := H3.out.cell 2 rfl
  have x3 : w3.cell? ⟨w.heap.size, 3, none⟩ = some (.string t) := H3.out.cell 3 rfl
  have x4 : w3.cell? ⟨w.heap.size, 4, none⟩ = some (.slice A l.length cap) := H3.out.cell 4 rfl
  cases cb
  ·go_wp2_with fail
   go_ret
   exact ⟨ret_bool (by rw [HP.out]; simp), H3.out.below⟩
  go_wp2_with fail
  refine (HAS.out w3).mono ?_
  rintro e w' ⟨rfl, rfl⟩
  obtain ⟨cs, hcs⟩ : ∃ cs, cs = atomB s := ⟨_, rfl⟩
  rw [← hcs] at HP ⊢
  clear hcs
  cases cs
  ·go_wp2_with fail
   go_ret
   exact ⟨ret_bool (by rw [HP.out]; simp), H3.out.below⟩
  go_wp2_with fail
  refine (HAT.out w3).mono ?_
  rintro e w' ⟨rfl, rfl⟩
  obtain ⟨cs, hcs⟩ : ∃ cs, cs = atomB t := ⟨_, rfl⟩
  rw [← hcs] at HP ⊢
  clear hcs
  cases cs
  ·go_wp2_with fail
   go_ret
   exact ⟨ret_bool (by rw [HP.out]; simp), H3.out.below⟩
  by_cases h0 : 0 ≤ n
  rotate_left
  ·have q2 : decide (0 ≤ n ∧ n ≤ 8) = false := by rw [decide_eq_false_iff_not]; omega
   rw [q2] at HP
   have q3 : n < 0 := by omega
   go_wp2_with fail
   go_ret
   exact ⟨ret_bool (by rw [HP.out]; simp), H3.out.below⟩
  by_cases h8 : n ≤ 8
  rotate_left
  ·have q2 : decide (0 ≤ n ∧ n ≤ 8) = false := by rw [decide_eq_false_iff_not]; omega
   rw [q2] at HP
   have q3 : 8 < n := by omega
   go_wp2_with fail
   go_ret
   exact ⟨ret_bool (by rw [HP.out]; simp; try omega), H3.out.below⟩
  have q2 : decide (0 ≤ n ∧ n ≤ 8) = true := by rw [decide_eq_true_eq]; omega
  rw [q2] at HP
  clear q2
  go_wp2_with fail
  go_ret
  exact ⟨ret_bool (by rw [HP.out]; simp), H3.out.below⟩
 by_cases hk20 : k = 20
 ·subst hk20
  have HP : Hid (R = recvP n s t l) := Lib.hid (by rw [HRR.out, ex20])
  go_wp2_with fail
  refine (rreceived_of HC.out _ w2 (HTT.out.laterN H2.out.below)).mono ?_
  rintro e w3 ⟨rfl, b3⟩
  have H3 := Lib.hid (H2.out.under b3)
  clear b3
  rw [← HP.out]
  go_wp2_with fail
  go_ret
  exact ⟨rfl, H3.out.below⟩
 by_cases hk13 : k = 13
 ·subst hk13
  have HP : Hid (R = (bareB false false false true n s t l.length && (l.length == 2) && patFirst l)) := Lib.hid (by rw [HRR.out, ex13])
  go_wp2_with fail
  refine (HBR.out false false false true w2).mono ?_
  rintro e w3 ⟨rfl, b3⟩
  have H3 := Lib.hid (H2.out.under b3)
  clear b3
  obtain ⟨cb, hcb⟩ : ∃ cb, cb = bareB false false false true n s t l.length := ⟨_, rfl⟩
  rw [← hcb] at HP ⊢
  clear hcb x0 x1 x2 x3 x4
  have x0 : w3.cell? ⟨w.heap.size, 0, none⟩ = some (.int .i8 13) := H3.out.cell 0 rfl
  have x1 : w3.cell? ⟨w.heap.size, 1, none⟩ = some (.int .i64 n) := H3.out.cell 1 rfl
  have x2 : w3.cell? ⟨w.heap.size, 2, none⟩ = some (.string s) := H3.out.cell 2 rfl
  have x3 : w3.cell? ⟨w.heap.size, 3, none⟩ = some (.string t) := H3.out.cell 3 rfl
  have x4 : w3.cell? ⟨w.heap.size, 4, none⟩ = some (.slice A l.length cap) := H3.out.cell 4 rfl
  cases cb
  ·go_wp2_with fail
   go_ret
   exact ⟨ret_bool (by rw [HP.out]; simp), H3.out.below⟩
  by_cases hl : (l.length : Int) = 2
  rotate_left
  ·have q2 : (l.length == 2) = false := by simp; omega
   rw [q2] at HP
   go_wp2_with fail
   go_ret
   exact ⟨ret_bool (by rw [HP.out]; simp), H3.out.below⟩
  have q2 : (l.length == 2) = true := by simp; omega
  rw [q2] at HP
  clear q2
  obtain ⟨a, b, hab⟩ : ∃ a b, l = [a, b] := by
   match l, hl with
   | [a, b], _ => exact ⟨a, b, rfl⟩
   | [], h => simp at h
   | [_], h => simp at h
   | _ :: _ :: _ :: _, h => simp at h; omega
  have HA0 : Hid (l[0]? = some a) := Lib.hid (by rw [hab]; rfl)
  have HA1 : Hid (l[1]? = some b) := Lib.hid (by rw [hab]; rfl)
  have hgs : patFirst l = (patB a && exprB b) := by rw [hab]; simp [patFirst, exprsB]
  rw [hgs] at HP
  clear hgs hab
  obtain ⟨g, off, oo, c0, c1, c2, c3, c4, rfl, hTy, e0, e1, e2, e3, e4⟩ := nrow_0 HR.out H3.out.below HA0.out
  have HTY := Lib.hid hTy
  clear hTy
  have i0 : (0 : Int) < (l.length : Int) := by omega
  have i1 : (1 : Int) < (l.length : Int) := by omega
  go_wp2_with fail
  refine (rpattern_any a _ w3 HTY.out).mono ?_
  rintro e w4 ⟨rfl, b4⟩
  have H4 := Lib.hid (H3.out.under b4)
  clear b4 x0 x1 x2 x3 x4 e0 e1 e2 e3 e4 HTY
  obtain ⟨c5, hc5⟩ : ∃ c5, c5 = patB a := ⟨_, rfl⟩
  rw [← hc5] at HP ⊢
  clear hc5
  cases c5
  ·go_wp2_with fail
   go_ret
   exact ⟨ret_bool (by rw [HP.out]; simp), H4.out.below⟩
  have x4 : w4.cell? ⟨w.heap.size, 4, none⟩ = some (.slice (some ⟨g, off, oo⟩) l.length cap) := H4.out.cell 4 rfl
  obtain ⟨c0, c1, c2, c3, c4, hTy, e0, e1, e2, e3, e4⟩ := nrow_1 HR.out H4.out.below HA1.out
  have HTY := Lib.hid hTy
  clear hTy
  go_wp2_with fail
  refine (HE.out b (List.mem_of_getElem? HA1.out) _ w4 HTY.out).mono ?_
  rintro e w5 ⟨rfl, b5⟩
  have H5 := Lib.hid (H4.out.under b5)
  clear b5 x4 e0 e1 e2 e3 e4 HTY
  go_wp2_with fail
  go_ret
  exact ⟨ret_bool (by rw [HP.out]; simp), H5.out.below⟩
 by_cases hk16 : k = 16
 ·subst hk16
  have HP : Hid (R = (bareB false false false true n s t l.length && decide (l.length ≤ 9) && varFirst l && exprsB l)) := Lib.hid (by rw [HRR.out, ex16])
  go_wp2_with fail
  refine (HBR.out false false false true w2).mono ?_
  rintro e w3 ⟨rfl, b3⟩
  have H3 := Lib.hid (H2.out.under b3)
  clear b3
  obtain ⟨cb, hcb⟩ : ∃ cb, cb = bareB false false false true n s t l.length := ⟨_, rfl⟩
  rw [← hcb] at HP ⊢
  clear hcb x0 x1 x2 x3 x4
  have x0 : w3.cell? ⟨w.heap.size, 0, none⟩ = some (.int .i8 16) := H3.out.cell 0 rfl
  have x1 : w3.cell? ⟨w.heap.size, 1, none⟩ = some (.int .i64 n) := H3.out.cell 1 rfl
  have x2 : w3.cell? ⟨w.heap.size, 2, none⟩ = some (.string s) := H3.out.cell 2 rfl
  have x3 : w3.cell? ⟨w.heap.size, 3, none⟩ = some (.string t) := H3.out.cell 3 rfl
  have x4 : w3.cell? ⟨w.heap.size, 4, none⟩ = some (.slice A l.length cap) := H3.out.cell 4 rfl
  cases cb
  ·go_wp2_with fail
   go_ret
   exact ⟨ret_bool (by rw [HP.out]; simp), H3.out.below⟩
  by_cases hl : (1 : Int) ≤ (l.length : Int)
  rotate_left
  ·have HRF : Hid (R = false) := Lib.hid (by rw [HP.out]; cases l with | nil => simp [varFirst] | cons a b => exfalso; apply hl; simp; omega)
   have q3 : (l.length : Int) < 1 := by omega
   go_wp2_with fail
   go_ret
   exact ⟨ret_bool HRF.out.symm, H3.out.below⟩
  by_cases hl : (l.length : Int) ≤ 9
  rotate_left
  ·have q2 : decide (l.length ≤ 9) = false := by rw [decide_eq_false_iff_not]; omega
   rw [q2] at HP
   have q3 : (9 : Int) < (l.length : Int) := by omega
   go_wp2_with fail
   go_ret
   exact ⟨ret_bool (by rw [HP.out]; simp), H3.out.below⟩
  have q2 : decide (l.length ≤ 9) = true := by rw [decide_eq_true_eq]; omega
  rw [q2] at HP
  clear q2
  have hlp : 0 < l.length := by omega
  obtain ⟨a, ha⟩ : ∃ a, l[0]? = some a := ⟨l[0], List.getElem?_eq_getElem hlp⟩
  have hv0 : varFirst l = (a.k == 5) := by
   cases l with
   | nil => simp at hlp
   | cons x y => simp at ha; subst ha; cases x; rfl
  rw [hv0] at HP
  obtain ⟨ak, an, as9, at9, al, hae⟩ : ∃ ak an as9 at9 al, a = Tm.mk ak an as9 at9 al := by cases a; exact ⟨_, _, _, _, _, rfl⟩
  have hak : a.k = ak := by rw [hae]; rfl
  rw [hak] at HP
  obtain ⟨g, off, oo, c0, c1, c2, c3, c4, rfl, hTy, e0, e1, e2, e3, e4⟩ := nrow_0 HR.out H3.out.below ha
  rw [hae] at hTy
  obtain ⟨A2, cap2, hv, -⟩ := hTy.parts
  simp only [Value.agg.injEq, Array.mk.injEq, List.cons.injEq, and_true] at hv
  obtain ⟨rfl, rfl, rfl, rfl, rfl⟩ := hv
  have i0 : (0 : Int) < (l.length : Int) := by omega
  clear hTy ha hae hak hv0
  by_cases h5 : ak = 5
  rotate_left
  ·have q5 : (ak == 5) = false := by simpa using h5
   rw [q5] at HP
   go_wp2_with fail
   go_ret
   exact ⟨ret_bool (by rw [HP.out]; simp), H3.out.below⟩
  subst h5
  go_wp2_with fail
  refine (rall_of HE.out (some ⟨g, off, oo⟩) cap w3 (HR.out.keep (fun b hb => H3.out.below.block b hb) (fun b hb => Nat.lt_of_lt_of_le hb H3.out.below.size))).mono ?_
  rintro e w4 ⟨rfl, b4⟩
  have H4 := Lib.hid (H3.out.under b4)
  clear b4 x0 x1 x2 x3 x4 e0 e1 e2 e3 e4
  go_wp2_with fail
  go_ret
  exact ⟨ret_bool (by rw [HP.out]; simp), H4.out.below⟩
 by_cases hk18 : k = 18
 ·subst hk18
  have HP : Hid (R = (bareB false false false true n s t l.length && decide (2 ≤ l.length) && caseB 1 l)) := Lib.hid (by rw [HRR.out, ex18])
  go_wp2_with fail
  refine (HBR.out false false false true w2).mono ?_
  rintro e w3 ⟨rfl, b3⟩
  have H3 := Lib.hid (H2.out.under b3)
  clear b3
  obtain ⟨cb, hcb⟩ : ∃ cb, cb = bareB false false false true n s t l.length := ⟨_, rfl⟩
  rw [← hcb] at HP ⊢
  clear hcb x0 x1 x2 x3 x4
  have x0 : w3.cell? ⟨w.heap.size, 0, none⟩ = some (.int .i8 18) := H3.out.cell 0 rfl
  have x1 : w3.cell? ⟨w.heap.size, 1, none⟩ = some (.int .i64 n) := H3.out.cell 1 rfl
  have x2 : w3.cell? ⟨w.heap.size, 2, none⟩ = some (.string s) := H3.out.cell 2 rfl
  have x3 : w3.cell? ⟨w.heap.size, 3, none⟩ = some (.string t) := H3.out.cell 3 rfl
  have x4 : w3.cell? ⟨w.heap.size, 4, none⟩ = some (.slice A l.length cap) := H3.out.cell 4 rfl
  cases cb
  ·go_wp2_with fail
   go_ret
   exact ⟨ret_bool (by rw [HP.out]; simp), H3.out.below⟩
  by_cases hl : (2 : Int) ≤ (l.length : Int)
  rotate_left
  ·have HRF : Hid (R = false) := Lib.hid (by rw [HP.out]; rw [show decide (2 ≤ l.length) = false by rw [decide_eq_false_iff_not]; omega]; simp)
   have q3 : (l.length : Int) < 2 := by omega
   go_wp2_with fail
   go_ret
   exact ⟨ret_bool HRF.out.symm, H3.out.below⟩
  have hq2 : decide (2 ≤ l.length) = true := by rw [decide_eq_true_eq]; omega
  rw [hq2] at HP
  clear hq2
  obtain ⟨a, r, har⟩ : ∃ a r, l = a :: r := by
   cases l with
   | nil => exact absurd hl (by simp)
   | cons x y => exact ⟨x, y, rfl⟩
  have hcs : caseB 1 l = (exprB a && clsB 1 r) := by rw [har]; rfl
  rw [hcs] at HP
  have hrl : r.length = l.length - 1 := by rw [har]; simp
  have htl : l.tail = r := by rw [har]; rfl
  skip
  have HA0 : Hid (l[0]? = some a) := Lib.hid (by rw [har]; rfl)
  have HAR2 := Lib.hid har
  have HRL := Lib.hid hrl
  have hre : r.isEmpty = false := by cases r with
   | nil => simp at hrl; omega
   | cons x y => rfl
  have HRE := Lib.hid hre
  clear hcs har hrl htl hre
  obtain ⟨g, off, oo, c0, c1, c2, c3, c4, rfl, hTy, e0, e1, e2, e3, e4⟩ := nrow_0 HR.out H3.out.below HA0.out
  have HTY := Lib.hid hTy
  clear hTy
  have i0 : (0 : Int) < (l.length : Int) := by omega
  go_wp2_with fail
  refine (HE.out a (List.mem_of_getElem? HA0.out) _ w3 HTY.out).mono ?_
  rintro e w4 ⟨rfl, b4⟩
  have H4 := Lib.hid (H3.out.under b4)
  clear b4 x0 x1 x2 x3 x4 e0 e1 e2 e3 e4 HTY
  obtain ⟨c5, hc5⟩ : ∃ c5, c5 = exprB a := ⟨_, rfl⟩
  rw [← hc5] at HP ⊢
  clear hc5
  cases c5
  ·go_wp2_with fail
   go_ret
   exact ⟨ret_bool (by rw [HP.out]; simp), H4.out.below⟩
  have x4 : w4.cell? ⟨w.heap.size, 4, none⟩ = some (.slice (some ⟨g, off, oo⟩) l.length cap) := H4.out.cell 4 rfl
  have hcp := HR.out.cap
  have hcpi : (l.length : Int) ≤ (cap : Int) := by omega
  have hc1 : ¬ cap = 1 := by omega
  have i1 : (1 : Int) ≤ (l.length : Int) := by omega
  have i1n : 1 ≤ l.length := by omega
  have HTS : Hid (∀ V, Below w.heap.size w V → TRow (· < V.heap.size) V (some ⟨g, off + 5, none⟩) r.length (cap - 1) r) := fun V hb => by
   have h1 := HR.out.keep (Q := (· < V.heap.size)) (w' := V) (fun b hb' => hb.block b hb') (fun b hb' => Nat.lt_of_lt_of_le hb' hb.size)
   rw [HAR2.out] at h1
   have h2 := tail_rowC h1
   rw [show (a :: r).length - 1 = r.length by simp] at h2
   exact h2
  go_wp2_with fail
  have hc := rclauses_of (l := r) 1 (by omega) (fun y hy => (HC.out y (by rw [HAR2.out]; exact List.mem_cons_of_mem _ hy)).1) (some ⟨g, off + 5, none⟩) (cap - 1) w4 (HTS.out w4 H4.out.below)
  rw [show ((1 : Nat) : Int) = 1 from rfl, HRL.out, HRE.out] at hc
  refine hc.mono ?_
  rintro e w5 ⟨rfl, b5⟩
  have H5 := Lib.hid (H4.out.under b5)
  clear b5 hc
  obtain ⟨c6, hc6⟩ : ∃ c6, c6 = clsB 1 r := ⟨_, rfl⟩
  rw [← hc6] at HP ⊢
  have HC6 := Lib.hid hc6
  clear hc6 x4
  cases c6
  ·go_wp2_with fail
   go_ret
   exact ⟨ret_bool (by rw [HP.out]; simp), H5.out.below⟩
  go_wp2_with fail
  go_ret
  exact ⟨ret_bool (by rw [HP.out]; simp), H5.out.below⟩
 by_cases hk19 : k = 19
 ·subst hk19
  have HP : Hid (R = (bareB false false false true n s t l.length && decide (2 ≤ l.length) && caseB 2 l && l.tail.all classedB)) := Lib.hid (by rw [HRR.out, ex19])
  go_wp2_with fail
  refine (HBR.out false false false true w2).mono ?_
  rintro e w3 ⟨rfl, b3⟩
  have H3 := Lib.hid (H2.out.under b3)
  clear b3
  obtain ⟨cb, hcb⟩ : ∃ cb, cb = bareB false false false true n s t l.length := ⟨_, rfl⟩
  rw [← hcb] at HP ⊢
  clear hcb x0 x1 x2 x3 x4
  have x0 : w3.cell? ⟨w.heap.size, 0, none⟩ = some (.int .i8 19) := H3.out.cell 0 rfl
  have x1 : w3.cell? ⟨w.heap.size, 1, none⟩ = some (.int .i64 n) := H3.out.cell 1 rfl
  have x2 : w3.cell? ⟨w.heap.size, 2, none⟩ = some (.string s) := H3.out.cell 2 rfl
  have x3 : w3.cell? ⟨w.heap.size, 3, none⟩ = some (.string t) := H3.out.cell 3 rfl
  have x4 : w3.cell? ⟨w.heap.size, 4, none⟩ = some (.slice A l.length cap) := H3.out.cell 4 rfl
  cases cb
  ·go_wp2_with fail
   go_ret
   exact ⟨ret_bool (by rw [HP.out]; simp), H3.out.below⟩
  by_cases hl : (2 : Int) ≤ (l.length : Int)
  rotate_left
  ·have HRF : Hid (R = false) := Lib.hid (by rw [HP.out]; rw [show decide (2 ≤ l.length) = false by rw [decide_eq_false_iff_not]; omega]; simp)
   have q3 : (l.length : Int) < 2 := by omega
   go_wp2_with fail
   go_ret
   exact ⟨ret_bool HRF.out.symm, H3.out.below⟩
  have hq2 : decide (2 ≤ l.length) = true := by rw [decide_eq_true_eq]; omega
  rw [hq2] at HP
  clear hq2
  obtain ⟨a, r, har⟩ : ∃ a r, l = a :: r := by
   cases l with
   | nil => exact absurd hl (by simp)
   | cons x y => exact ⟨x, y, rfl⟩
  have hcs : caseB 2 l = (exprB a && clsB 2 r) := by rw [har]; rfl
  rw [hcs] at HP
  have hrl : r.length = l.length - 1 := by rw [har]; simp
  have htl : l.tail = r := by rw [har]; rfl
  rw [htl] at HP
  have HA0 : Hid (l[0]? = some a) := Lib.hid (by rw [har]; rfl)
  have HAR2 := Lib.hid har
  have HRL := Lib.hid hrl
  have hre : r.isEmpty = false := by cases r with
   | nil => simp at hrl; omega
   | cons x y => rfl
  have HRE := Lib.hid hre
  clear hcs har hrl htl hre
  obtain ⟨g, off, oo, c0, c1, c2, c3, c4, rfl, hTy, e0, e1, e2, e3, e4⟩ := nrow_0 HR.out H3.out.below HA0.out
  have HTY := Lib.hid hTy
  clear hTy
  have i0 : (0 : Int) < (l.length : Int) := by omega
  go_wp2_with fail
  refine (HE.out a (List.mem_of_getElem? HA0.out) _ w3 HTY.out).mono ?_
  rintro e w4 ⟨rfl, b4⟩
  have H4 := Lib.hid (H3.out.under b4)
  clear b4 x0 x1 x2 x3 x4 e0 e1 e2 e3 e4 HTY
  obtain ⟨c5, hc5⟩ : ∃ c5, c5 = exprB a := ⟨_, rfl⟩
  rw [← hc5] at HP ⊢
  clear hc5
  cases c5
  ·go_wp2_with fail
   go_ret
   exact ⟨ret_bool (by rw [HP.out]; simp), H4.out.below⟩
  have x4 : w4.cell? ⟨w.heap.size, 4, none⟩ = some (.slice (some ⟨g, off, oo⟩) l.length cap) := H4.out.cell 4 rfl
  have hcp := HR.out.cap
  have hcpi : (l.length : Int) ≤ (cap : Int) := by omega
  have hc1 : ¬ cap = 1 := by omega
  have i1 : (1 : Int) ≤ (l.length : Int) := by omega
  have i1n : 1 ≤ l.length := by omega
  have HTS : Hid (∀ V, Below w.heap.size w V → TRow (· < V.heap.size) V (some ⟨g, off + 5, none⟩) r.length (cap - 1) r) := fun V hb => by
   have h1 := HR.out.keep (Q := (· < V.heap.size)) (w' := V) (fun b hb' => hb.block b hb') (fun b hb' => Nat.lt_of_lt_of_le hb' hb.size)
   rw [HAR2.out] at h1
   have h2 := tail_rowC h1
   rw [show (a :: r).length - 1 = r.length by simp] at h2
   exact h2
  go_wp2_with fail
  have hc := rclauses_of (l := r) 2 (by omega) (fun y hy => (HC.out y (by rw [HAR2.out]; exact List.mem_cons_of_mem _ hy)).1) (some ⟨g, off + 5, none⟩) (cap - 1) w4 (HTS.out w4 H4.out.below)
  rw [show ((2 : Nat) : Int) = 2 from rfl, HRL.out, HRE.out] at hc
  refine hc.mono ?_
  rintro e w5 ⟨rfl, b5⟩
  have H5 := Lib.hid (H4.out.under b5)
  clear b5 hc
  obtain ⟨c6, hc6⟩ : ∃ c6, c6 = clsB 2 r := ⟨_, rfl⟩
  rw [← hc6] at HP ⊢
  have HC6 := Lib.hid hc6
  clear hc6 x4
  cases c6
  ·go_wp2_with fail
   go_ret
   exact ⟨ret_bool (by rw [HP.out]; simp), H5.out.below⟩
  have x4 : w5.cell? ⟨w.heap.size, 4, none⟩ = some (.slice (some ⟨g, off, oo⟩) l.length cap) := H5.out.cell 4 rfl
  go_wp2_with fail
  have hd := rclasses_of (l := r) (clsB_all.1 HC6.out.symm) (some ⟨g, off + 5, none⟩) (cap - 1) w5 (HTS.out w5 H5.out.below)
  rw [HRL.out] at hd
  refine hd.mono ?_
  rintro e w6 ⟨rfl, b6⟩
  have H6 := Lib.hid (H5.out.under b6)
  clear b6 hd x4
  go_wp2_with fail
  go_ret
  exact ⟨ret_bool (by rw [HP.out]; simp), H6.out.below⟩
 have p9 : (k == 9) = false := by simpa using hk9
 have p10 : (k == 10) = false := by simpa using hk10
 have p11 : (k == 11) = false := by simpa using hk11
 have p13 : (k == 13) = false := by simpa using hk13
 have p14 : (k == 14) = false := by simpa using hk14
 have p15 : (k == 15) = false := by simpa using hk15
 have p16 : (k == 16) = false := by simpa using hk16
 have p17 : (k == 17) = false := by simpa using hk17
 have p18 : (k == 18) = false := by simpa using hk18
 have p19 : (k == 19) = false := by simpa using hk19
 have p20 : (k == 20) = false := by simpa using hk20
 go_wp2_with fail
 go_ret
 exact ⟨ret_bool (by rw [HRR.out, ex_no ⟨hk9, hk10, hk11, hk13, hk14, hk15, hk16, hk17, hk18, hk19, hk20⟩, ← HC1.out]), H2.out.below⟩
theorem rall7 (x : Tm) : ExprAt x ∧ ClauseAt x ∧ ∀ z ∈ x.l, ExprAt z := by
 induction x using Tm.ind with
 | h k n s t l ih => exact ⟨rexpr_of (fun y hy => (ih y hy).1) (fun y hy => (ih y hy).2), rclause_of (fun y hy => (ih y hy).1), fun y hy => (ih y hy).1⟩
end Go.Proofs.YtmdcdhdjojimeaaGreatDoor
