/- Layer 7: plain facts: the table of natures and what is told of each kind come to what a tree may be at a place. Layer 7: may of any tree; such, Check, Pattern, Expr, Guard, Test, Guarded, Clause: the contracts that the laws take. -/
import Derived.Test.YtmdcdhdjojimeaaGreatDoorKShr7
set_option linter.unusedVariables false
set_option linter.unusedSimpArgs false
namespace Go.Proofs.YtmdcdhdjojimeaaGreatDoor
open Go.RowKit

theorem patsB_eq : ∀ l, patsB l = l.all patB
 | [] => rfl
 | x :: l => by rw [patsB, patsB_eq l]; rfl
theorem guasB_eq : ∀ l, guasB l = l.all guaB
 | [] => rfl
 | x :: l => by rw [guasB, guasB_eq l]; rfl
theorem exprsB_eq : ∀ l, exprsB l = l.all exprB
 | [] => rfl
 | x :: l => by rw [exprsB, exprsB_eq l]; rfl
theorem clsB_eq (m : Nat) : ∀ l, clsB m l = l.all (clB m)
 | [] => rfl
 | x :: l => by rw [clsB, clsB_eq m l]; rfl
theorem plc_1 : plcB 1 = modsB := rfl
theorem plc_2 : plcB 2 = modB := rfl
theorem plc_4 : plcB 4 = funB := rfl
theorem plc_8 : plcB 8 = claB := rfl
theorem plc_16 : plcB 16 = guardB := rfl
theorem plc_32 : plcB 32 = testB := rfl
theorem plc_64 : plcB 64 = guaB := rfl
theorem plc_128 : plcB 128 = patB := rfl
theorem plc_256 : plcB 256 = exprB := rfl
theorem plc_512 : plcB 512 = afterB := rfl

theorem list_emp (s : ByteArray) : s.toList.isEmpty = emp s := by
 unfold emp
 rw [Go.Lib.toList_data, Bool.eq_iff_iff, List.isEmpty_iff, decide_eq_true_eq, ← size_list]
 exact ⟨fun h => by rw [h]; rfl, fun h => List.length_eq_zero_iff.1 h⟩
theorem len_emp (l : List Tm) : ((l.length : Int) == 0) = l.isEmpty := by
 cases l with
 | nil => rfl
 | cons x l => rw [List.length_cons]; exact beq_eq_false_iff_ne.2 (by omega)
theorem len_2 (l : List Tm) : ((l.length : Int) == 2) = (l.length == 2) := by
 rw [Bool.eq_iff_iff, beq_iff_eq, beq_iff_eq]; omega
theorem len_1 (l : List Tm) : ((l.length : Int) == 1) = (l.length == 1) := by
 rw [Bool.eq_iff_iff, beq_iff_eq, beq_iff_eq]; omega
theorem blk8 (n : Int) (s t : ByteArray) (l : List Tm) : blankB n s t l.length 8 = (n == 0 && emp s && emp t) := by
 unfold blankB
 rw [list_emp, list_emp, len_emp, show (bits .and .u8 8 1 != 0) = false from rfl, show (bits .and .u8 8 2 != 0) = false from rfl, show (bits .and .u8 8 4 != 0) = false from rfl, show (bits .and .u8 8 8 != 0) = true from rfl]
 simp [Bool.and_assoc]
theorem blk10 (n : Int) (s t : ByteArray) (l : List Tm) : blankB n s t l.length 10 = (n == 0 && emp t) := by
 unfold blankB
 rw [list_emp, list_emp, len_emp, show (bits .and .u8 10 1 != 0) = false from rfl, show (bits .and .u8 10 2 != 0) = true from rfl, show (bits .and .u8 10 4 != 0) = false from rfl, show (bits .and .u8 10 8 != 0) = true from rfl]
 simp [Bool.and_assoc]
theorem blk11 (n : Int) (s t : ByteArray) (l : List Tm) : blankB n s t l.length 11 = (emp t) := by
 unfold blankB
 rw [list_emp, list_emp, len_emp, show (bits .and .u8 11 1 != 0) = true from rfl, show (bits .and .u8 11 2 != 0) = true from rfl, show (bits .and .u8 11 4 != 0) = false from rfl, show (bits .and .u8 11 8 != 0) = true from rfl]
 simp [Bool.and_assoc]
theorem blk9 (n : Int) (s t : ByteArray) (l : List Tm) : blankB n s t l.length 9 = (emp s && emp t) := by
 unfold blankB
 rw [list_emp, list_emp, len_emp, show (bits .and .u8 9 1 != 0) = true from rfl, show (bits .and .u8 9 2 != 0) = false from rfl, show (bits .and .u8 9 4 != 0) = false from rfl, show (bits .and .u8 9 8 != 0) = true from rfl]
 simp [Bool.and_assoc]
theorem blk2 (n : Int) (s t : ByteArray) (l : List Tm) : blankB n s t l.length 2 = (n == 0 && emp t && l.isEmpty) := by
 unfold blankB
 rw [list_emp, list_emp, len_emp, show (bits .and .u8 2 1 != 0) = false from rfl, show (bits .and .u8 2 2 != 0) = true from rfl, show (bits .and .u8 2 4 != 0) = false from rfl, show (bits .and .u8 2 8 != 0) = false from rfl]
 simp [Bool.and_assoc]
theorem blk1 (n : Int) (s t : ByteArray) (l : List Tm) : blankB n s t l.length 1 = (emp s && emp t && l.isEmpty) := by
 unfold blankB
 rw [list_emp, list_emp, len_emp, show (bits .and .u8 1 1 != 0) = true from rfl, show (bits .and .u8 1 2 != 0) = false from rfl, show (bits .and .u8 1 4 != 0) = false from rfl, show (bits .and .u8 1 8 != 0) = false from rfl]
 simp [Bool.and_assoc]
theorem blk0 (n : Int) (s t : ByteArray) (l : List Tm) : blankB n s t l.length 0 = (n == 0 && emp s && emp t && l.isEmpty) := by
 unfold blankB
 rw [list_emp, list_emp, len_emp, show (bits .and .u8 0 1 != 0) = false from rfl, show (bits .and .u8 0 2 != 0) = false from rfl, show (bits .and .u8 0 4 != 0) = false from rfl, show (bits .and .u8 0 8 != 0) = false from rfl]
 simp [Bool.and_assoc]
theorem blk14 (n : Int) (s t : ByteArray) (l : List Tm) : blankB n s t l.length 14 = (n == 0) := by
 unfold blankB
 rw [list_emp, list_emp, len_emp, show (bits .and .u8 14 1 != 0) = false from rfl, show (bits .and .u8 14 2 != 0) = true from rfl, show (bits .and .u8 14 4 != 0) = true from rfl, show (bits .and .u8 14 8 != 0) = true from rfl]
 simp [Bool.and_assoc]
theorem blk7 (n : Int) (s t : ByteArray) (l : List Tm) : blankB n s t l.length 7 = (l.isEmpty) := by
 unfold blankB
 rw [list_emp, list_emp, len_emp, show (bits .and .u8 7 1 != 0) = true from rfl, show (bits .and .u8 7 2 != 0) = true from rfl, show (bits .and .u8 7 4 != 0) = true from rfl, show (bits .and .u8 7 8 != 0) = false from rfl]
 simp [Bool.and_assoc]
def shR (j : Nat) (p n : Int) (s t : ByteArray) (l : List Tm) : Bool :=
 match j with
 | 0 => l.all (plcB 2)
 | 1 => atomB s && l.all (plcB 4)
 | 2 => atomB s && arQ n && clausesR l n
 | 3 => claR n l
 | 4 => l.all (plcB 32)
 | 5 => nameB s 3
 | 6 => mayB n
 | 7 => atomB s
 | 8 => true
 | 9 => ((l.length : Int) == 2) && l.all (plcB p)
 | 10 => l.all (plcB p)
 | 11 => operR s p && ((l.length : Int) == 2) && l.all (plcB (opdQ p))
 | 12 => kindB s && ((l.length : Int) == 1) && l.all (plcB 64)
 | 13 => ((l.length : Int) == 2) && ((l.take 1).all (plcB 128) && (l.drop 1).all (plcB 256))
 | 14 => atomB s && (decide (l.length ≤ 8) && l.all (plcB 256))
 | 15 => atomB s && atomB t && (decide (l.length ≤ 8) && l.all (plcB 256))
 | 16 => decide (0 < l.length) && varFirst l && ((l.take 1).all (plcB 256) && (decide (l.tail.length ≤ 8) && l.tail.all (plcB 256)))
 | 17 => atomB s && atomB t && arQ n
 | 18 => choiceR l 1
 | 19 => choiceR l 2 && l.tail.all classedB
 | 20 => recvR n l
 | _ => decide (2 ≤ l.length) && l.all (plcB 256)

theorem parts_eq : ∀ (m : Nat) (l : List Tm), partsB m l = (decide (m + 2 ≤ l.length) && ((l.take m).all patB && ((l.drop m).take 1).all guardB && (l.drop (m + 1)).all exprB))
 | 0, [] => by rw [partsB]; simp
 | 0, [g] => by rw [partsB]; simp
 | 0, g :: x :: l => by rw [partsB, exprsB_eq]; simp
 | m + 1, [] => by rw [partsB]; simp
 | m + 1, q :: l => by
  rw [partsB, parts_eq m l]
  have e : decide (m + 1 + 2 ≤ (q :: l).length) = decide (m + 2 ≤ l.length) := decide_eq_decide.2 (by rw [List.length_cons]; omega)
  rw [e]
  simp only [List.take_succ_cons, List.drop_succ_cons, List.all_cons]
  cases patB q <;> simp
theorem cla_eq (n : Int) (s t : ByteArray) (l : List Tm) : (emp s && emp t && claR n l) = claB (.mk 3 n s t l) := by
 unfold claB claR
 show _ = (decide (0 ≤ n) && clB n.toNat (.mk 3 n s t l))
 rw [clB, parts_eq, plc_128, plc_16, plc_256]
 by_cases h : 0 ≤ n
 ·have e1 : (n == ((n.toNat : Nat) : Int)) = true := by rw [beq_iff_eq]; omega
  have e2 : decide (0 ≤ n ∧ n + 2 ≤ (l.length : Int)) = decide (n.toNat + 2 ≤ l.length) := decide_eq_decide.2 (by omega)
  rw [e1, e2, decide_eq_true h]
  simp [Bool.and_assoc]
 ·rw [decide_eq_false h, decide_eq_false (fun h2 => h h2.1)]
  simp
theorem fun_cls (n : Int) (h : 0 ≤ n) (l : List Tm) : (l.all (fun c => c.n == n) && l.all claB) = l.all (clB n.toNat) := by
 induction l with
 | nil => rfl
 | cons c l ih =>
  rw [List.all_cons, List.all_cons, List.all_cons, ← ih]
  have e : ((c.n == n) && claB c) = clB n.toNat c := by
   obtain ⟨k, m, s, t, q⟩ := c
   show ((m == n) && (decide (0 ≤ m) && clB m.toNat (.mk k m s t q))) = _
   by_cases hm : m = n
   ·subst hm; rw [decide_eq_true h]; simp
   ·rw [show (m == n) = false by simpa using hm]
    cases hc : clB n.toNat (.mk k m s t q)
    ·rfl
    ·have := clB_n hc; omega
  rw [← e]
  cases (c.n == n) <;> cases claB c <;> simp
theorem clauses_eq (m : Nat) (l : List Tm) : clausesR l m = (!l.isEmpty && clsB m l) := by
 unfold clausesR
 have h := fun_cls (m : Int) (by omega) l
 rw [Int.toNat_natCast] at h
 rw [plc_8, clsB_eq, ← h]
 have e : decide (0 < l.length) = !l.isEmpty := by cases l <;> simp
 rw [e]
 cases l.all (fun c => c.n == (m : Int)) <;> cases l.isEmpty <;> simp
theorem choice_eq (m : Nat) (l : List Tm) : choiceR l m = (decide (2 ≤ l.length) && caseB m l) := by
 unfold choiceR
 rw [clauses_eq, plc_256]
 match l with
 | [] => rfl
 | [y] => simp
 | y :: c :: l => rw [caseB]; simp
theorem recv_last (l : List Tm) : ∀ c, recvB (l ++ [c]) = (afterB c && clsB 1 l) := by
 induction l with
 | nil => intro c; rw [List.nil_append, recvB, clsB]; simp
 | cons x l ih =>
  intro c
  rw [List.cons_append, recvB, ih, clsB, if_neg (by simp)]
  cases clB 1 x <;> cases afterB c <;> simp
theorem recv_eq (n : Int) (l : List Tm) : recvR n l = ((n == 0 && !l.isEmpty && clsB 1 l) || (n == 1 && recvB l)) := by
 unfold recvR
 rcases List.eq_nil_or_concat l with rfl | ⟨i, c, rfl⟩
 ·rw [recvB]; simp [clausesR]
 ·rw [List.concat_eq_append, recv_last]
  by_cases h0 : n = 0
  ·rw [if_pos h0, h0]; have := clauses_eq 1 (i ++ [c]); rw [show ((1 : Nat) : Int) = 1 from rfl] at this; rw [this]; simp
  ·rw [if_neg h0, show (n == 0) = false by simpa using h0]
   by_cases h1 : n = 1
   ·rw [if_pos ⟨h1, by simp⟩, h1]
    have e1 : (i ++ [c]).length - 1 = i.length := by simp
    rw [e1, List.drop_left, List.take_left]
    have e2 := clauses_eq 1 i
    rw [show ((1 : Nat) : Int) = 1 from rfl] at e2
    rw [e2, plc_512]
    have e3 : decide ((i ++ [c]).length = 1) = i.isEmpty := by cases i <;> simp
    rw [e3]
    cases i with
    | nil => simp [clsB]
    | cons x i => simp
   ·rw [if_neg (fun h => h1 h.1), show (n == 1) = false by simpa using h1]; simp
theorem apply_eq (l : List Tm) : (decide (0 < l.length) && varFirst l && ((l.take 1).all exprB && (decide (l.tail.length ≤ 8) && l.tail.all exprB))) = (decide (l.length ≤ 9) && varFirst l && exprsB l) := by
 rw [exprsB_eq]
 match l with
 | [] => rfl
 | x :: l =>
  have e : decide ((x :: l).length ≤ 9) = decide (l.length ≤ 8) := decide_eq_decide.2 (by rw [List.length_cons]; omega)
  rw [e]
  simp only [List.length_cons, List.take_succ_cons, List.take_zero, List.tail_cons, List.all_cons, List.all_nil, Bool.and_true]
  cases varFirst (x :: l) <;> cases exprB x <;> simp <;> rfl
theorem match_eq (l : List Tm) : ((l.length == 2) && ((l.take 1).all patB && (l.drop 1).all exprB)) = ((l.length == 2) && patFirst l) := by
 match l with
 | [] => rfl
 | x :: l => rw [patFirst, exprsB_eq]; simp
set_option maxHeartbeats 4000000 in
theorem pure_1 (n : Int) (s t : ByteArray) (l : List Tm) : ∀ j, j < 22 → ((bits .and .u16 (plN j) 1 != 0 && blankB n s t l.length (flN j)) && shR j 1 n s t l) = plcB 1 (.mk (j : Nat) n s t l)
 | 0, _ => by
  rw [show (bits .and .u16 (plN 0) 1 != 0) = true from rfl, show flN 0 = 8 from rfl, blk8, plc_1]
  show ((true && _) && (l.all (plcB 2))) = _
  rw [plc_2]
  simp [modsB, patsB_eq, guasB_eq, exprsB_eq, Bool.and_assoc, Bool.and_comm, Bool.and_left_comm]
 | 1, _ => by rw [show (bits .and .u16 (plN 1) 1 != 0) = false from rfl, plc_1]; simp [modsB]
 | 2, _ => by rw [show (bits .and .u16 (plN 2) 1 != 0) = false from rfl, plc_1]; simp [modsB]
 | 3, _ => by rw [show (bits .and .u16 (plN 3) 1 != 0) = false from rfl, plc_1]; simp [modsB]
 | 4, _ => by rw [show (bits .and .u16 (plN 4) 1 != 0) = false from rfl, plc_1]; simp [modsB]
 | 5, _ => by rw [show (bits .and .u16 (plN 5) 1 != 0) = false from rfl, plc_1]; simp [modsB]
 | 6, _ => by rw [show (bits .and .u16 (plN 6) 1 != 0) = false from rfl, plc_1]; simp [modsB]
 | 7, _ => by rw [show (bits .and .u16 (plN 7) 1 != 0) = false from rfl, plc_1]; simp [modsB]
 | 8, _ => by rw [show (bits .and .u16 (plN 8) 1 != 0) = false from rfl, plc_1]; simp [modsB]
 | 9, _ => by rw [show (bits .and .u16 (plN 9) 1 != 0) = false from rfl, plc_1]; simp [modsB]
 | 10, _ => by rw [show (bits .and .u16 (plN 10) 1 != 0) = false from rfl, plc_1]; simp [modsB]
 | 11, _ => by rw [show (bits .and .u16 (plN 11) 1 != 0) = false from rfl, plc_1]; simp [modsB]
 | 12, _ => by rw [show (bits .and .u16 (plN 12) 1 != 0) = false from rfl, plc_1]; simp [modsB]
 | 13, _ => by rw [show (bits .and .u16 (plN 13) 1 != 0) = false from rfl, plc_1]; simp [modsB]
 | 14, _ => by rw [show (bits .and .u16 (plN 14) 1 != 0) = false from rfl, plc_1]; simp [modsB]
 | 15, _ => by rw [show (bits .and .u16 (plN 15) 1 != 0) = false from rfl, plc_1]; simp [modsB]
 | 16, _ => by rw [show (bits .and .u16 (plN 16) 1 != 0) = false from rfl, plc_1]; simp [modsB]
 | 17, _ => by rw [show (bits .and .u16 (plN 17) 1 != 0) = false from rfl, plc_1]; simp [modsB]
 | 18, _ => by rw [show (bits .and .u16 (plN 18) 1 != 0) = false from rfl, plc_1]; simp [modsB]
 | 19, _ => by rw [show (bits .and .u16 (plN 19) 1 != 0) = false from rfl, plc_1]; simp [modsB]
 | 20, _ => by rw [show (bits .and .u16 (plN 20) 1 != 0) = false from rfl, plc_1]; simp [modsB]
 | 21, _ => by rw [show (bits .and .u16 (plN 21) 1 != 0) = false from rfl, plc_1]; simp [modsB]
 | j + 22, h => by omega
set_option maxHeartbeats 4000000 in
theorem pure_2 (n : Int) (s t : ByteArray) (l : List Tm) : ∀ j, j < 22 → ((bits .and .u16 (plN j) 2 != 0 && blankB n s t l.length (flN j)) && shR j 2 n s t l) = plcB 2 (.mk (j : Nat) n s t l)
 | 0, _ => by rw [show (bits .and .u16 (plN 0) 2 != 0) = false from rfl, plc_2]; simp [modB]
 | 1, _ => by
  rw [show (bits .and .u16 (plN 1) 2 != 0) = true from rfl, show flN 1 = 10 from rfl, blk10, plc_2]
  show ((true && _) && (atomB s && l.all (plcB 4))) = _
  rw [plc_4]
  simp [modB, patsB_eq, guasB_eq, exprsB_eq, Bool.and_assoc, Bool.and_comm, Bool.and_left_comm]
 | 2, _ => by rw [show (bits .and .u16 (plN 2) 2 != 0) = false from rfl, plc_2]; simp [modB]
 | 3, _ => by rw [show (bits .and .u16 (plN 3) 2 != 0) = false from rfl, plc_2]; simp [modB]
 | 4, _ => by rw [show (bits .and .u16 (plN 4) 2 != 0) = false from rfl, plc_2]; simp [modB]
 | 5, _ => by rw [show (bits .and .u16 (plN 5) 2 != 0) = false from rfl, plc_2]; simp [modB]
 | 6, _ => by rw [show (bits .and .u16 (plN 6) 2 != 0) = false from rfl, plc_2]; simp [modB]
 | 7, _ => by rw [show (bits .and .u16 (plN 7) 2 != 0) = false from rfl, plc_2]; simp [modB]
 | 8, _ => by rw [show (bits .and .u16 (plN 8) 2 != 0) = false from rfl, plc_2]; simp [modB]
 | 9, _ => by rw [show (bits .and .u16 (plN 9) 2 != 0) = false from rfl, plc_2]; simp [modB]
 | 10, _ => by rw [show (bits .and .u16 (plN 10) 2 != 0) = false from rfl, plc_2]; simp [modB]
 | 11, _ => by rw [show (bits .and .u16 (plN 11) 2 != 0) = false from rfl, plc_2]; simp [modB]
 | 12, _ => by rw [show (bits .and .u16 (plN 12) 2 != 0) = false from rfl, plc_2]; simp [modB]
 | 13, _ => by rw [show (bits .and .u16 (plN 13) 2 != 0) = false from rfl, plc_2]; simp [modB]
 | 14, _ => by rw [show (bits .and .u16 (plN 14) 2 != 0) = false from rfl, plc_2]; simp [modB]
 | 15, _ => by rw [show (bits .and .u16 (plN 15) 2 != 0) = false from rfl, plc_2]; simp [modB]
 | 16, _ => by rw [show (bits .and .u16 (plN 16) 2 != 0) = false from rfl, plc_2]; simp [modB]
 | 17, _ => by rw [show (bits .and .u16 (plN 17) 2 != 0) = false from rfl, plc_2]; simp [modB]
 | 18, _ => by rw [show (bits .and .u16 (plN 18) 2 != 0) = false from rfl, plc_2]; simp [modB]
 | 19, _ => by rw [show (bits .and .u16 (plN 19) 2 != 0) = false from rfl, plc_2]; simp [modB]
 | 20, _ => by rw [show (bits .and .u16 (plN 20) 2 != 0) = false from rfl, plc_2]; simp [modB]
 | 21, _ => by rw [show (bits .and .u16 (plN 21) 2 != 0) = false from rfl, plc_2]; simp [modB]
 | j + 22, h => by omega
set_option maxHeartbeats 4000000 in
theorem pure_4 (n : Int) (s t : ByteArray) (l : List Tm) : ∀ j, j < 22 → ((bits .and .u16 (plN j) 4 != 0 && blankB n s t l.length (flN j)) && shR j 4 n s t l) = plcB 4 (.mk (j : Nat) n s t l)
 | 0, _ => by rw [show (bits .and .u16 (plN 0) 4 != 0) = false from rfl, plc_4]; simp [funB]
 | 1, _ => by rw [show (bits .and .u16 (plN 1) 4 != 0) = false from rfl, plc_4]; simp [funB]
 | 2, _ => by
  rw [show (bits .and .u16 (plN 2) 4 != 0) = true from rfl, show flN 2 = 11 from rfl, blk11, plc_4]
  show ((true && emp t) && (atomB s && arQ n && clausesR l n)) = funB (.mk 2 n s t l)
  rw [funB]
  unfold arQ
  by_cases h : 0 ≤ n ∧ n ≤ 8
  ·have hc := clauses_eq n.toNat l
   rw [Int.toNat_of_nonneg h.1] at hc
   rw [hc, decide_eq_true h]
   simp [Bool.and_assoc, Bool.and_comm, Bool.and_left_comm]
  ·rw [decide_eq_false h]; simp
 | 3, _ => by rw [show (bits .and .u16 (plN 3) 4 != 0) = false from rfl, plc_4]; simp [funB]
 | 4, _ => by rw [show (bits .and .u16 (plN 4) 4 != 0) = false from rfl, plc_4]; simp [funB]
 | 5, _ => by rw [show (bits .and .u16 (plN 5) 4 != 0) = false from rfl, plc_4]; simp [funB]
 | 6, _ => by rw [show (bits .and .u16 (plN 6) 4 != 0) = false from rfl, plc_4]; simp [funB]
 | 7, _ => by rw [show (bits .and .u16 (plN 7) 4 != 0) = false from rfl, plc_4]; simp [funB]
 | 8, _ => by rw [show (bits .and .u16 (plN 8) 4 != 0) = false from rfl, plc_4]; simp [funB]
 | 9, _ => by rw [show (bits .and .u16 (plN 9) 4 != 0) = false from rfl, plc_4]; simp [funB]
 | 10, _ => by rw [show (bits .and .u16 (plN 10) 4 != 0) = false from rfl, plc_4]; simp [funB]
 | 11, _ => by rw [show (bits .and .u16 (plN 11) 4 != 0) = false from rfl, plc_4]; simp [funB]
 | 12, _ => by rw [show (bits .and .u16 (plN 12) 4 != 0) = false from rfl, plc_4]; simp [funB]
 | 13, _ => by rw [show (bits .and .u16 (plN 13) 4 != 0) = false from rfl, plc_4]; simp [funB]
 | 14, _ => by rw [show (bits .and .u16 (plN 14) 4 != 0) = false from rfl, plc_4]; simp [funB]
 | 15, _ => by rw [show (bits .and .u16 (plN 15) 4 != 0) = false from rfl, plc_4]; simp [funB]
 | 16, _ => by rw [show (bits .and .u16 (plN 16) 4 != 0) = false from rfl, plc_4]; simp [funB]
 | 17, _ => by rw [show (bits .and .u16 (plN 17) 4 != 0) = false from rfl, plc_4]; simp [funB]
 | 18, _ => by rw [show (bits .and .u16 (plN 18) 4 != 0) = false from rfl, plc_4]; simp [funB]
 | 19, _ => by rw [show (bits .and .u16 (plN 19) 4 != 0) = false from rfl, plc_4]; simp [funB]
 | 20, _ => by rw [show (bits .and .u16 (plN 20) 4 != 0) = false from rfl, plc_4]; simp [funB]
 | 21, _ => by rw [show (bits .and .u16 (plN 21) 4 != 0) = false from rfl, plc_4]; simp [funB]
 | j + 22, h => by omega
set_option maxHeartbeats 4000000 in
theorem pure_8 (n : Int) (s t : ByteArray) (l : List Tm) : ∀ j, j < 22 → ((bits .and .u16 (plN j) 8 != 0 && blankB n s t l.length (flN j)) && shR j 8 n s t l) = plcB 8 (.mk (j : Nat) n s t l)
 | 0, _ => by rw [show (bits .and .u16 (plN 0) 8 != 0) = false from rfl, plc_8]; simp [claB, clB]
 | 1, _ => by rw [show (bits .and .u16 (plN 1) 8 != 0) = false from rfl, plc_8]; simp [claB, clB]
 | 2, _ => by rw [show (bits .and .u16 (plN 2) 8 != 0) = false from rfl, plc_8]; simp [claB, clB]
 | 3, _ => by rw [show (bits .and .u16 (plN 3) 8 != 0) = true from rfl, show flN 3 = 9 from rfl, blk9, plc_8]; exact cla_eq n s t l
 | 4, _ => by rw [show (bits .and .u16 (plN 4) 8 != 0) = false from rfl, plc_8]; simp [claB, clB]
 | 5, _ => by rw [show (bits .and .u16 (plN 5) 8 != 0) = false from rfl, plc_8]; simp [claB, clB]
 | 6, _ => by rw [show (bits .and .u16 (plN 6) 8 != 0) = false from rfl, plc_8]; simp [claB, clB]
 | 7, _ => by rw [show (bits .and .u16 (plN 7) 8 != 0) = false from rfl, plc_8]; simp [claB, clB]
 | 8, _ => by rw [show (bits .and .u16 (plN 8) 8 != 0) = false from rfl, plc_8]; simp [claB, clB]
 | 9, _ => by rw [show (bits .and .u16 (plN 9) 8 != 0) = false from rfl, plc_8]; simp [claB, clB]
 | 10, _ => by rw [show (bits .and .u16 (plN 10) 8 != 0) = false from rfl, plc_8]; simp [claB, clB]
 | 11, _ => by rw [show (bits .and .u16 (plN 11) 8 != 0) = false from rfl, plc_8]; simp [claB, clB]
 | 12, _ => by rw [show (bits .and .u16 (plN 12) 8 != 0) = false from rfl, plc_8]; simp [claB, clB]
 | 13, _ => by rw [show (bits .and .u16 (plN 13) 8 != 0) = false from rfl, plc_8]; simp [claB, clB]
 | 14, _ => by rw [show (bits .and .u16 (plN 14) 8 != 0) = false from rfl, plc_8]; simp [claB, clB]
 | 15, _ => by rw [show (bits .and .u16 (plN 15) 8 != 0) = false from rfl, plc_8]; simp [claB, clB]
 | 16, _ => by rw [show (bits .and .u16 (plN 16) 8 != 0) = false from rfl, plc_8]; simp [claB, clB]
 | 17, _ => by rw [show (bits .and .u16 (plN 17) 8 != 0) = false from rfl, plc_8]; simp [claB, clB]
 | 18, _ => by rw [show (bits .and .u16 (plN 18) 8 != 0) = false from rfl, plc_8]; simp [claB, clB]
 | 19, _ => by rw [show (bits .and .u16 (plN 19) 8 != 0) = false from rfl, plc_8]; simp [claB, clB]
 | 20, _ => by rw [show (bits .and .u16 (plN 20) 8 != 0) = false from rfl, plc_8]; simp [claB, clB]
 | 21, _ => by rw [show (bits .and .u16 (plN 21) 8 != 0) = false from rfl, plc_8]; simp [claB, clB]
 | j + 22, h => by omega
set_option maxHeartbeats 4000000 in
theorem pure_16 (n : Int) (s t : ByteArray) (l : List Tm) : ∀ j, j < 22 → ((bits .and .u16 (plN j) 16 != 0 && blankB n s t l.length (flN j)) && shR j 16 n s t l) = plcB 16 (.mk (j : Nat) n s t l)
 | 0, _ => by rw [show (bits .and .u16 (plN 0) 16 != 0) = false from rfl, plc_16]; simp [guardB]
 | 1, _ => by rw [show (bits .and .u16 (plN 1) 16 != 0) = false from rfl, plc_16]; simp [guardB]
 | 2, _ => by rw [show (bits .and .u16 (plN 2) 16 != 0) = false from rfl, plc_16]; simp [guardB]
 | 3, _ => by rw [show (bits .and .u16 (plN 3) 16 != 0) = false from rfl, plc_16]; simp [guardB]
 | 4, _ => by
  rw [show (bits .and .u16 (plN 4) 16 != 0) = true from rfl, show flN 4 = 8 from rfl, blk8, plc_16]
  show ((true && _) && (l.all (plcB 32))) = _
  rw [plc_32]
  simp [guardB, patsB_eq, guasB_eq, exprsB_eq, Bool.and_assoc, Bool.and_comm, Bool.and_left_comm]
 | 5, _ => by rw [show (bits .and .u16 (plN 5) 16 != 0) = false from rfl, plc_16]; simp [guardB]
 | 6, _ => by rw [show (bits .and .u16 (plN 6) 16 != 0) = false from rfl, plc_16]; simp [guardB]
 | 7, _ => by rw [show (bits .and .u16 (plN 7) 16 != 0) = false from rfl, plc_16]; simp [guardB]
 | 8, _ => by rw [show (bits .and .u16 (plN 8) 16 != 0) = false from rfl, plc_16]; simp [guardB]
 | 9, _ => by rw [show (bits .and .u16 (plN 9) 16 != 0) = false from rfl, plc_16]; simp [guardB]
 | 10, _ => by rw [show (bits .and .u16 (plN 10) 16 != 0) = false from rfl, plc_16]; simp [guardB]
 | 11, _ => by rw [show (bits .and .u16 (plN 11) 16 != 0) = false from rfl, plc_16]; simp [guardB]
 | 12, _ => by rw [show (bits .and .u16 (plN 12) 16 != 0) = false from rfl, plc_16]; simp [guardB]
 | 13, _ => by rw [show (bits .and .u16 (plN 13) 16 != 0) = false from rfl, plc_16]; simp [guardB]
 | 14, _ => by rw [show (bits .and .u16 (plN 14) 16 != 0) = false from rfl, plc_16]; simp [guardB]
 | 15, _ => by rw [show (bits .and .u16 (plN 15) 16 != 0) = false from rfl, plc_16]; simp [guardB]
 | 16, _ => by rw [show (bits .and .u16 (plN 16) 16 != 0) = false from rfl, plc_16]; simp [guardB]
 | 17, _ => by rw [show (bits .and .u16 (plN 17) 16 != 0) = false from rfl, plc_16]; simp [guardB]
 | 18, _ => by rw [show (bits .and .u16 (plN 18) 16 != 0) = false from rfl, plc_16]; simp [guardB]
 | 19, _ => by rw [show (bits .and .u16 (plN 19) 16 != 0) = false from rfl, plc_16]; simp [guardB]
 | 20, _ => by rw [show (bits .and .u16 (plN 20) 16 != 0) = false from rfl, plc_16]; simp [guardB]
 | 21, _ => by rw [show (bits .and .u16 (plN 21) 16 != 0) = false from rfl, plc_16]; simp [guardB]
 | j + 22, h => by omega
set_option maxHeartbeats 4000000 in
theorem pure_32 (n : Int) (s t : ByteArray) (l : List Tm) : ∀ j, j < 22 → ((bits .and .u16 (plN j) 32 != 0 && blankB n s t l.length (flN j)) && shR j 32 n s t l) = plcB 32 (.mk (j : Nat) n s t l)
 | 0, _ => by rw [show (bits .and .u16 (plN 0) 32 != 0) = false from rfl, plc_32]; simp [testB]
 | 1, _ => by rw [show (bits .and .u16 (plN 1) 32 != 0) = false from rfl, plc_32]; simp [testB]
 | 2, _ => by rw [show (bits .and .u16 (plN 2) 32 != 0) = false from rfl, plc_32]; simp [testB]
 | 3, _ => by rw [show (bits .and .u16 (plN 3) 32 != 0) = false from rfl, plc_32]; simp [testB]
 | 4, _ => by rw [show (bits .and .u16 (plN 4) 32 != 0) = false from rfl, plc_32]; simp [testB]
 | 5, _ => by rw [show (bits .and .u16 (plN 5) 32 != 0) = false from rfl, plc_32]; simp [testB]
 | 6, _ => by rw [show (bits .and .u16 (plN 6) 32 != 0) = false from rfl, plc_32]; simp [testB]
 | 7, _ => by rw [show (bits .and .u16 (plN 7) 32 != 0) = false from rfl, plc_32]; simp [testB]
 | 8, _ => by rw [show (bits .and .u16 (plN 8) 32 != 0) = false from rfl, plc_32]; simp [testB]
 | 9, _ => by rw [show (bits .and .u16 (plN 9) 32 != 0) = false from rfl, plc_32]; simp [testB]
 | 10, _ => by rw [show (bits .and .u16 (plN 10) 32 != 0) = false from rfl, plc_32]; simp [testB]
 | 11, _ => by
  rw [show (bits .and .u16 (plN 11) 32 != 0) = true from rfl, show flN 11 = 10 from rfl, blk10, plc_32]
  show ((true && _) && (operR s 32 && ((l.length : Int) == 2) && l.all (plcB (opdQ 32)))) = _
  rw [show opdQ 32 = 64 from rfl, plc_64, len_2]
  unfold operR
  simp [testB, guasB_eq, Bool.and_assoc, Bool.and_comm, Bool.and_left_comm]
 | 12, _ => by
  rw [show (bits .and .u16 (plN 12) 32 != 0) = true from rfl, show flN 12 = 10 from rfl, blk10, plc_32]
  show ((true && _) && (kindB s && ((l.length : Int) == 1) && l.all (plcB 64))) = _
  rw [plc_64, len_1]
  simp [testB, patsB_eq, guasB_eq, exprsB_eq, Bool.and_assoc, Bool.and_comm, Bool.and_left_comm]
 | 13, _ => by rw [show (bits .and .u16 (plN 13) 32 != 0) = false from rfl, plc_32]; simp [testB]
 | 14, _ => by rw [show (bits .and .u16 (plN 14) 32 != 0) = false from rfl, plc_32]; simp [testB]
 | 15, _ => by rw [show (bits .and .u16 (plN 15) 32 != 0) = false from rfl, plc_32]; simp [testB]
 | 16, _ => by rw [show (bits .and .u16 (plN 16) 32 != 0) = false from rfl, plc_32]; simp [testB]
 | 17, _ => by rw [show (bits .and .u16 (plN 17) 32 != 0) = false from rfl, plc_32]; simp [testB]
 | 18, _ => by rw [show (bits .and .u16 (plN 18) 32 != 0) = false from rfl, plc_32]; simp [testB]
 | 19, _ => by rw [show (bits .and .u16 (plN 19) 32 != 0) = false from rfl, plc_32]; simp [testB]
 | 20, _ => by rw [show (bits .and .u16 (plN 20) 32 != 0) = false from rfl, plc_32]; simp [testB]
 | 21, _ => by rw [show (bits .and .u16 (plN 21) 32 != 0) = false from rfl, plc_32]; simp [testB]
 | j + 22, h => by omega
set_option maxHeartbeats 4000000 in
theorem pure_64 (n : Int) (s t : ByteArray) (l : List Tm) : ∀ j, j < 22 → ((bits .and .u16 (plN j) 64 != 0 && blankB n s t l.length (flN j)) && shR j 64 n s t l) = plcB 64 (.mk (j : Nat) n s t l)
 | 0, _ => by rw [show (bits .and .u16 (plN 0) 64 != 0) = false from rfl, plc_64]; simp [guaB, leafB]
 | 1, _ => by rw [show (bits .and .u16 (plN 1) 64 != 0) = false from rfl, plc_64]; simp [guaB, leafB]
 | 2, _ => by rw [show (bits .and .u16 (plN 2) 64 != 0) = false from rfl, plc_64]; simp [guaB, leafB]
 | 3, _ => by rw [show (bits .and .u16 (plN 3) 64 != 0) = false from rfl, plc_64]; simp [guaB, leafB]
 | 4, _ => by rw [show (bits .and .u16 (plN 4) 64 != 0) = false from rfl, plc_64]; simp [guaB, leafB]
 | 5, _ => by
  rw [show (bits .and .u16 (plN 5) 64 != 0) = true from rfl, show flN 5 = 2 from rfl, blk2, plc_64]
  show ((true && _) && (nameB s 3)) = _
  simp [guaB, leafB, patsB_eq, guasB_eq, exprsB_eq, Bool.and_assoc, Bool.and_comm, Bool.and_left_comm]
 | 6, _ => by
  rw [show (bits .and .u16 (plN 6) 64 != 0) = true from rfl, show flN 6 = 1 from rfl, blk1, plc_64]
  show ((true && _) && (mayB n)) = _
  simp [guaB, leafB, patsB_eq, guasB_eq, exprsB_eq, Bool.and_assoc, Bool.and_comm, Bool.and_left_comm]
 | 7, _ => by
  rw [show (bits .and .u16 (plN 7) 64 != 0) = true from rfl, show flN 7 = 2 from rfl, blk2, plc_64]
  show ((true && _) && (atomB s)) = _
  simp [guaB, leafB, patsB_eq, guasB_eq, exprsB_eq, Bool.and_assoc, Bool.and_comm, Bool.and_left_comm]
 | 8, _ => by
  rw [show (bits .and .u16 (plN 8) 64 != 0) = true from rfl, show flN 8 = 0 from rfl, blk0, plc_64]
  show ((true && _) && (true)) = _
  simp [guaB, leafB, patsB_eq, guasB_eq, exprsB_eq, Bool.and_assoc, Bool.and_comm, Bool.and_left_comm]
 | 9, _ => by
  rw [show (bits .and .u16 (plN 9) 64 != 0) = true from rfl, show flN 9 = 8 from rfl, blk8, plc_64]
  show ((true && _) && (((l.length : Int) == 2) && l.all (plcB 64))) = _
  rw [plc_64, len_2]
  simp [guaB, leafB, patsB_eq, guasB_eq, exprsB_eq, Bool.and_assoc, Bool.and_comm, Bool.and_left_comm]
 | 10, _ => by
  rw [show (bits .and .u16 (plN 10) 64 != 0) = true from rfl, show flN 10 = 8 from rfl, blk8, plc_64]
  show ((true && _) && (l.all (plcB 64))) = _
  rw [plc_64]
  simp [guaB, leafB, patsB_eq, guasB_eq, exprsB_eq, Bool.and_assoc, Bool.and_comm, Bool.and_left_comm]
 | 11, _ => by
  rw [show (bits .and .u16 (plN 11) 64 != 0) = true from rfl, show flN 11 = 10 from rfl, blk10, plc_64]
  show ((true && _) && (operR s 64 && ((l.length : Int) == 2) && l.all (plcB (opdQ 64)))) = _
  rw [show opdQ 64 = 64 from rfl, plc_64, len_2]
  unfold operR
  simp [guaB, leafB, guasB_eq, Bool.and_assoc, Bool.and_comm, Bool.and_left_comm]
 | 12, _ => by rw [show (bits .and .u16 (plN 12) 64 != 0) = false from rfl, plc_64]; simp [guaB, leafB]
 | 13, _ => by rw [show (bits .and .u16 (plN 13) 64 != 0) = false from rfl, plc_64]; simp [guaB, leafB]
 | 14, _ => by rw [show (bits .and .u16 (plN 14) 64 != 0) = false from rfl, plc_64]; simp [guaB, leafB]
 | 15, _ => by rw [show (bits .and .u16 (plN 15) 64 != 0) = false from rfl, plc_64]; simp [guaB, leafB]
 | 16, _ => by rw [show (bits .and .u16 (plN 16) 64 != 0) = false from rfl, plc_64]; simp [guaB, leafB]
 | 17, _ => by rw [show (bits .and .u16 (plN 17) 64 != 0) = false from rfl, plc_64]; simp [guaB, leafB]
 | 18, _ => by rw [show (bits .and .u16 (plN 18) 64 != 0) = false from rfl, plc_64]; simp [guaB, leafB]
 | 19, _ => by rw [show (bits .and .u16 (plN 19) 64 != 0) = false from rfl, plc_64]; simp [guaB, leafB]
 | 20, _ => by rw [show (bits .and .u16 (plN 20) 64 != 0) = false from rfl, plc_64]; simp [guaB, leafB]
 | 21, _ => by rw [show (bits .and .u16 (plN 21) 64 != 0) = false from rfl, plc_64]; simp [guaB, leafB]
 | j + 22, h => by omega
set_option maxHeartbeats 4000000 in
theorem pure_128 (n : Int) (s t : ByteArray) (l : List Tm) : ∀ j, j < 22 → ((bits .and .u16 (plN j) 128 != 0 && blankB n s t l.length (flN j)) && shR j 128 n s t l) = plcB 128 (.mk (j : Nat) n s t l)
 | 0, _ => by rw [show (bits .and .u16 (plN 0) 128 != 0) = false from rfl, plc_128]; simp [patB, leafB]
 | 1, _ => by rw [show (bits .and .u16 (plN 1) 128 != 0) = false from rfl, plc_128]; simp [patB, leafB]
 | 2, _ => by rw [show (bits .and .u16 (plN 2) 128 != 0) = false from rfl, plc_128]; simp [patB, leafB]
 | 3, _ => by rw [show (bits .and .u16 (plN 3) 128 != 0) = false from rfl, plc_128]; simp [patB, leafB]
 | 4, _ => by rw [show (bits .and .u16 (plN 4) 128 != 0) = false from rfl, plc_128]; simp [patB, leafB]
 | 5, _ => by
  rw [show (bits .and .u16 (plN 5) 128 != 0) = true from rfl, show flN 5 = 2 from rfl, blk2, plc_128]
  show ((true && _) && (nameB s 3)) = _
  simp [patB, leafB, patsB_eq, guasB_eq, exprsB_eq, Bool.and_assoc, Bool.and_comm, Bool.and_left_comm]
 | 6, _ => by
  rw [show (bits .and .u16 (plN 6) 128 != 0) = true from rfl, show flN 6 = 1 from rfl, blk1, plc_128]
  show ((true && _) && (mayB n)) = _
  simp [patB, leafB, patsB_eq, guasB_eq, exprsB_eq, Bool.and_assoc, Bool.and_comm, Bool.and_left_comm]
 | 7, _ => by
  rw [show (bits .and .u16 (plN 7) 128 != 0) = true from rfl, show flN 7 = 2 from rfl, blk2, plc_128]
  show ((true && _) && (atomB s)) = _
  simp [patB, leafB, patsB_eq, guasB_eq, exprsB_eq, Bool.and_assoc, Bool.and_comm, Bool.and_left_comm]
 | 8, _ => by
  rw [show (bits .and .u16 (plN 8) 128 != 0) = true from rfl, show flN 8 = 0 from rfl, blk0, plc_128]
  show ((true && _) && (true)) = _
  simp [patB, leafB, patsB_eq, guasB_eq, exprsB_eq, Bool.and_assoc, Bool.and_comm, Bool.and_left_comm]
 | 9, _ => by
  rw [show (bits .and .u16 (plN 9) 128 != 0) = true from rfl, show flN 9 = 8 from rfl, blk8, plc_128]
  show ((true && _) && (((l.length : Int) == 2) && l.all (plcB 128))) = _
  rw [plc_128, len_2]
  simp [patB, leafB, patsB_eq, guasB_eq, exprsB_eq, Bool.and_assoc, Bool.and_comm, Bool.and_left_comm]
 | 10, _ => by
  rw [show (bits .and .u16 (plN 10) 128 != 0) = true from rfl, show flN 10 = 8 from rfl, blk8, plc_128]
  show ((true && _) && (l.all (plcB 128))) = _
  rw [plc_128]
  simp [patB, leafB, patsB_eq, guasB_eq, exprsB_eq, Bool.and_assoc, Bool.and_comm, Bool.and_left_comm]
 | 11, _ => by rw [show (bits .and .u16 (plN 11) 128 != 0) = false from rfl, plc_128]; simp [patB, leafB]
 | 12, _ => by rw [show (bits .and .u16 (plN 12) 128 != 0) = false from rfl, plc_128]; simp [patB, leafB]
 | 13, _ => by rw [show (bits .and .u16 (plN 13) 128 != 0) = false from rfl, plc_128]; simp [patB, leafB]
 | 14, _ => by rw [show (bits .and .u16 (plN 14) 128 != 0) = false from rfl, plc_128]; simp [patB, leafB]
 | 15, _ => by rw [show (bits .and .u16 (plN 15) 128 != 0) = false from rfl, plc_128]; simp [patB, leafB]
 | 16, _ => by rw [show (bits .and .u16 (plN 16) 128 != 0) = false from rfl, plc_128]; simp [patB, leafB]
 | 17, _ => by rw [show (bits .and .u16 (plN 17) 128 != 0) = false from rfl, plc_128]; simp [patB, leafB]
 | 18, _ => by rw [show (bits .and .u16 (plN 18) 128 != 0) = false from rfl, plc_128]; simp [patB, leafB]
 | 19, _ => by rw [show (bits .and .u16 (plN 19) 128 != 0) = false from rfl, plc_128]; simp [patB, leafB]
 | 20, _ => by rw [show (bits .and .u16 (plN 20) 128 != 0) = false from rfl, plc_128]; simp [patB, leafB]
 | 21, _ => by rw [show (bits .and .u16 (plN 21) 128 != 0) = false from rfl, plc_128]; simp [patB, leafB]
 | j + 22, h => by omega
set_option maxHeartbeats 4000000 in
theorem pure_256 (n : Int) (s t : ByteArray) (l : List Tm) : ∀ j, j < 22 → ((bits .and .u16 (plN j) 256 != 0 && blankB n s t l.length (flN j)) && shR j 256 n s t l) = plcB 256 (.mk (j : Nat) n s t l)
 | 0, _ => by rw [show (bits .and .u16 (plN 0) 256 != 0) = false from rfl, plc_256]; simp [exprB, leafB]
 | 1, _ => by rw [show (bits .and .u16 (plN 1) 256 != 0) = false from rfl, plc_256]; simp [exprB, leafB]
 | 2, _ => by rw [show (bits .and .u16 (plN 2) 256 != 0) = false from rfl, plc_256]; simp [exprB, leafB]
 | 3, _ => by rw [show (bits .and .u16 (plN 3) 256 != 0) = false from rfl, plc_256]; simp [exprB, leafB]
 | 4, _ => by rw [show (bits .and .u16 (plN 4) 256 != 0) = false from rfl, plc_256]; simp [exprB, leafB]
 | 5, _ => by
  rw [show (bits .and .u16 (plN 5) 256 != 0) = true from rfl, show flN 5 = 2 from rfl, blk2, plc_256]
  show ((true && _) && (nameB s 3)) = _
  simp [exprB, leafB, patsB_eq, guasB_eq, exprsB_eq, Bool.and_assoc, Bool.and_comm, Bool.and_left_comm]
 | 6, _ => by
  rw [show (bits .and .u16 (plN 6) 256 != 0) = true from rfl, show flN 6 = 1 from rfl, blk1, plc_256]
  show ((true && _) && (mayB n)) = _
  simp [exprB, leafB, patsB_eq, guasB_eq, exprsB_eq, Bool.and_assoc, Bool.and_comm, Bool.and_left_comm]
 | 7, _ => by
  rw [show (bits .and .u16 (plN 7) 256 != 0) = true from rfl, show flN 7 = 2 from rfl, blk2, plc_256]
  show ((true && _) && (atomB s)) = _
  simp [exprB, leafB, patsB_eq, guasB_eq, exprsB_eq, Bool.and_assoc, Bool.and_comm, Bool.and_left_comm]
 | 8, _ => by
  rw [show (bits .and .u16 (plN 8) 256 != 0) = true from rfl, show flN 8 = 0 from rfl, blk0, plc_256]
  show ((true && _) && (true)) = _
  simp [exprB, leafB, patsB_eq, guasB_eq, exprsB_eq, Bool.and_assoc, Bool.and_comm, Bool.and_left_comm]
 | 9, _ => by
  rw [show (bits .and .u16 (plN 9) 256 != 0) = true from rfl, show flN 9 = 8 from rfl, blk8, plc_256]
  show ((true && _) && (((l.length : Int) == 2) && l.all (plcB 256))) = _
  rw [plc_256, len_2]
  simp [exprB, leafB, patsB_eq, guasB_eq, exprsB_eq, Bool.and_assoc, Bool.and_comm, Bool.and_left_comm]
 | 10, _ => by
  rw [show (bits .and .u16 (plN 10) 256 != 0) = true from rfl, show flN 10 = 8 from rfl, blk8, plc_256]
  show ((true && _) && (l.all (plcB 256))) = _
  rw [plc_256]
  simp [exprB, leafB, patsB_eq, guasB_eq, exprsB_eq, Bool.and_assoc, Bool.and_comm, Bool.and_left_comm]
 | 11, _ => by
  rw [show (bits .and .u16 (plN 11) 256 != 0) = true from rfl, show flN 11 = 10 from rfl, blk10, plc_256]
  show ((true && _) && (operR s 256 && ((l.length : Int) == 2) && l.all (plcB (opdQ 256)))) = _
  rw [show opdQ 256 = 256 from rfl, plc_256, len_2]
  unfold operR
  simp [exprB, leafB, exprsB_eq, Bool.and_assoc, Bool.and_comm, Bool.and_left_comm]
 | 12, _ => by rw [show (bits .and .u16 (plN 12) 256 != 0) = false from rfl, plc_256]; simp [exprB, leafB]
 | 13, _ => by
  rw [show (bits .and .u16 (plN 13) 256 != 0) = true from rfl, show flN 13 = 8 from rfl, blk8, plc_256]
  show ((true && _) && (((l.length : Int) == 2) && ((l.take 1).all (plcB 128) && (l.drop 1).all (plcB 256)))) = _
  rw [plc_128, plc_256, len_2, match_eq]
  simp [exprB, leafB, Bool.and_assoc, Bool.and_comm, Bool.and_left_comm]
 | 14, _ => by
  rw [show (bits .and .u16 (plN 14) 256 != 0) = true from rfl, show flN 14 = 10 from rfl, blk10, plc_256]
  show ((true && _) && (atomB s && (decide (l.length ≤ 8) && l.all (plcB 256)))) = _
  rw [plc_256]
  simp [exprB, leafB, patsB_eq, guasB_eq, exprsB_eq, Bool.and_assoc, Bool.and_comm, Bool.and_left_comm]
 | 15, _ => by
  rw [show (bits .and .u16 (plN 15) 256 != 0) = true from rfl, show flN 15 = 14 from rfl, blk14, plc_256]
  show ((true && _) && (atomB s && atomB t && (decide (l.length ≤ 8) && l.all (plcB 256)))) = _
  rw [plc_256]
  simp [exprB, leafB, patsB_eq, guasB_eq, exprsB_eq, Bool.and_assoc, Bool.and_comm, Bool.and_left_comm]
 | 16, _ => by
  rw [show (bits .and .u16 (plN 16) 256 != 0) = true from rfl, show flN 16 = 8 from rfl, blk8, plc_256]
  show ((true && _) && (decide (0 < l.length) && varFirst l && ((l.take 1).all (plcB 256) && (decide (l.tail.length ≤ 8) && l.tail.all (plcB 256))))) = _
  rw [plc_256, apply_eq]
  simp [exprB, leafB, Bool.and_assoc, Bool.and_comm, Bool.and_left_comm]
 | 17, _ => by
  rw [show (bits .and .u16 (plN 17) 256 != 0) = true from rfl, show flN 17 = 7 from rfl, blk7, plc_256]
  show ((true && _) && (atomB s && atomB t && arQ n)) = _
  simp [exprB, leafB, arQ, patsB_eq, guasB_eq, exprsB_eq, Bool.and_assoc, Bool.and_comm, Bool.and_left_comm]
 | 18, _ => by
  rw [show (bits .and .u16 (plN 18) 256 != 0) = true from rfl, show flN 18 = 8 from rfl, blk8, plc_256]
  show ((true && _) && choiceR l (1 : Nat)) = _
  rw [choice_eq]
  simp [exprB, leafB, Bool.and_assoc, Bool.and_comm, Bool.and_left_comm]
 | 19, _ => by
  rw [show (bits .and .u16 (plN 19) 256 != 0) = true from rfl, show flN 19 = 8 from rfl, blk8, plc_256]
  show ((true && _) && (choiceR l (2 : Nat) && l.tail.all classedB)) = _
  rw [choice_eq]
  simp [exprB, leafB, Bool.and_assoc, Bool.and_comm, Bool.and_left_comm]
 | 20, _ => by
  rw [show (bits .and .u16 (plN 20) 256 != 0) = true from rfl, show flN 20 = 9 from rfl, blk9, plc_256]
  show ((true && _) && recvR n l) = _
  rw [recv_eq]
  simp [exprB, leafB, Bool.and_assoc, Bool.and_comm, Bool.and_left_comm]
 | 21, _ => by rw [show (bits .and .u16 (plN 21) 256 != 0) = false from rfl, plc_256]; simp [exprB, leafB]
 | j + 22, h => by omega
set_option maxHeartbeats 4000000 in
theorem pure_512 (n : Int) (s t : ByteArray) (l : List Tm) : ∀ j, j < 22 → ((bits .and .u16 (plN j) 512 != 0 && blankB n s t l.length (flN j)) && shR j 512 n s t l) = plcB 512 (.mk (j : Nat) n s t l)
 | 0, _ => by rw [show (bits .and .u16 (plN 0) 512 != 0) = false from rfl, plc_512]; simp [afterB]
 | 1, _ => by rw [show (bits .and .u16 (plN 1) 512 != 0) = false from rfl, plc_512]; simp [afterB]
 | 2, _ => by rw [show (bits .and .u16 (plN 2) 512 != 0) = false from rfl, plc_512]; simp [afterB]
 | 3, _ => by rw [show (bits .and .u16 (plN 3) 512 != 0) = false from rfl, plc_512]; simp [afterB]
 | 4, _ => by rw [show (bits .and .u16 (plN 4) 512 != 0) = false from rfl, plc_512]; simp [afterB]
 | 5, _ => by rw [show (bits .and .u16 (plN 5) 512 != 0) = false from rfl, plc_512]; simp [afterB]
 | 6, _ => by rw [show (bits .and .u16 (plN 6) 512 != 0) = false from rfl, plc_512]; simp [afterB]
 | 7, _ => by rw [show (bits .and .u16 (plN 7) 512 != 0) = false from rfl, plc_512]; simp [afterB]
 | 8, _ => by rw [show (bits .and .u16 (plN 8) 512 != 0) = false from rfl, plc_512]; simp [afterB]
 | 9, _ => by rw [show (bits .and .u16 (plN 9) 512 != 0) = false from rfl, plc_512]; simp [afterB]
 | 10, _ => by rw [show (bits .and .u16 (plN 10) 512 != 0) = false from rfl, plc_512]; simp [afterB]
 | 11, _ => by rw [show (bits .and .u16 (plN 11) 512 != 0) = false from rfl, plc_512]; simp [afterB]
 | 12, _ => by rw [show (bits .and .u16 (plN 12) 512 != 0) = false from rfl, plc_512]; simp [afterB]
 | 13, _ => by rw [show (bits .and .u16 (plN 13) 512 != 0) = false from rfl, plc_512]; simp [afterB]
 | 14, _ => by rw [show (bits .and .u16 (plN 14) 512 != 0) = false from rfl, plc_512]; simp [afterB]
 | 15, _ => by rw [show (bits .and .u16 (plN 15) 512 != 0) = false from rfl, plc_512]; simp [afterB]
 | 16, _ => by rw [show (bits .and .u16 (plN 16) 512 != 0) = false from rfl, plc_512]; simp [afterB]
 | 17, _ => by rw [show (bits .and .u16 (plN 17) 512 != 0) = false from rfl, plc_512]; simp [afterB]
 | 18, _ => by rw [show (bits .and .u16 (plN 18) 512 != 0) = false from rfl, plc_512]; simp [afterB]
 | 19, _ => by rw [show (bits .and .u16 (plN 19) 512 != 0) = false from rfl, plc_512]; simp [afterB]
 | 20, _ => by rw [show (bits .and .u16 (plN 20) 512 != 0) = false from rfl, plc_512]; simp [afterB]
 | 21, _ => by
  rw [show (bits .and .u16 (plN 21) 512 != 0) = true from rfl, show flN 21 = 8 from rfl, blk8, plc_512]
  show ((true && _) && (decide (2 ≤ l.length) && l.all (plcB 256))) = _
  rw [plc_256]
  simp [afterB, patsB_eq, guasB_eq, exprsB_eq, Bool.and_assoc, Bool.and_comm, Bool.and_left_comm]
 | j + 22, h => by omega
end Go.Proofs.YtmdcdhdjojimeaaGreatDoor
set_option linter.unusedVariables false
namespace Go.Proofs.YtmdcdhdjojimeaaGreatDoor
open Go.RowKit

def Pl (p : Int) : Prop := p = 1 ∨ p = 2 ∨ p = 4 ∨ p = 8 ∨ p = 16 ∨ p = 32 ∨ p = 64 ∨ p = 128 ∨ p = 256 ∨ p = 512
theorem pure_all {p : Int} (hp : Pl p) (n : Int) (s t : ByteArray) (l : List Tm) (j : Nat) (hj : j < 22) : ((bits .and .u16 (plN j) p != 0 && blankB n s t l.length (flN j)) && shR j p n s t l) = plcB p (.mk (j : Nat) n s t l) := by
 rcases hp with rfl | rfl | rfl | rfl | rfl | rfl | rfl | rfl | rfl | rfl
 ·exact pure_1 n s t l j hj
 ·exact pure_2 n s t l j hj
 ·exact pure_4 n s t l j hj
 ·exact pure_8 n s t l j hj
 ·exact pure_16 n s t l j hj
 ·exact pure_32 n s t l j hj
 ·exact pure_64 n s t l j hj
 ·exact pure_128 n s t l j hj
 ·exact pure_256 n s t l j hj
 ·exact pure_512 n s t l j hj
theorem opd_pl {p : Int} (hp : Pl p) : Pl (opdQ p) := by
 unfold opdQ
 split
 ·unfold Pl; omega
 ·exact hp
theorem plc_no {p : Int} (hp : Pl p) (k n : Int) (s t : ByteArray) (l : List Tm) (hk : k < 0 ∨ 22 ≤ k) : plcB p (.mk k n s t l) = false := by
 have hne : ∀ m : Int, 0 ≤ m → m < 22 → (k == m) = false := fun m h0 h1 => beq_eq_false_iff_ne.2 (by omega)
 have e0 := hne 0 (by omega) (by omega); have e1 := hne 1 (by omega) (by omega); have e2 := hne 2 (by omega) (by omega); have e3 := hne 3 (by omega) (by omega); have e4 := hne 4 (by omega) (by omega); have e5 := hne 5 (by omega) (by omega)
 have e6 := hne 6 (by omega) (by omega); have e7 := hne 7 (by omega) (by omega); have e8 := hne 8 (by omega) (by omega); have e9 := hne 9 (by omega) (by omega); have e10 := hne 10 (by omega) (by omega); have e11 := hne 11 (by omega) (by omega)
 have e12 := hne 12 (by omega) (by omega); have e13 := hne 13 (by omega) (by omega); have e14 := hne 14 (by omega) (by omega); have e15 := hne 15 (by omega) (by omega); have e16 := hne 16 (by omega) (by omega); have e17 := hne 17 (by omega) (by omega)
 have e18 := hne 18 (by omega) (by omega); have e19 := hne 19 (by omega) (by omega); have e20 := hne 20 (by omega) (by omega); have e21 := hne 21 (by omega) (by omega)
 rcases hp with rfl | rfl | rfl | rfl | rfl | rfl | rfl | rfl | rfl | rfl
 ·rw [plc_1, modsB, e0]; rfl
 ·rw [plc_2, modB, e1]; rfl
 ·rw [plc_4, funB, e2]; rfl
 ·rw [plc_8]; unfold claB; rw [clB, e3]; simp
 ·rw [plc_16, guardB, e4]; rfl
 ·rw [plc_32, testB, e11, e12]; rfl
 ·rw [plc_64, guaB]; unfold leafB; rw [e5, e6, e7, e8, e9, e10, e11]; simp
 ·rw [plc_128, patB]; unfold leafB; rw [e5, e6, e7, e8, e9, e10]; simp
 ·rw [plc_256, exprB]; unfold leafB; rw [e5, e6, e7, e8, e9, e10, e11, e13, e14, e15, e16, e17, e18, e19, e20]; simp
 ·rw [plc_512, afterB, e21]; rfl

set_option maxHeartbeats 4000000 in
set_option maxRecDepth 100000 in
theorem may_out (k n : Int) (s t : ByteArray) (A : Option Addr) (len cap : Nat) (a : Int) (w : World) (hk : k < 0 ∨ 22 ≤ k) (hk8 : -128 ≤ k ∧ k ≤ 127) :
  Calls Tryz.prog 70 #[.agg #[.int .i8 k, .int .i64 n, .string s, .string t, .slice A len cap], .int .u16 a] w fun e w' => e = .returned (.bool false) ∧ Below w.heap.size w w' := by
 have HB : Hid (Below w.heap.size w (w.alloc (.cells #[.int .i8 k, .int .i64 n, .string s, .string t, .slice A len cap] 25))) := (Below.refl _ w).alloc (Nat.le_refl _) _
 by_cases h0 : k < 0
 ·go_enter Tryz.func70, Tryz.ntmps70
  go_wp2_with fail
  go_ret
  exact ⟨rfl, HB.out⟩
 ·have h1 : (22 : Int) ≤ k := by omega
  go_enter Tryz.func70, Tryz.ntmps70
  go_wp2_with fail
  go_ret
  exact ⟨rfl, HB.out⟩

set_option maxHeartbeats 4000000 in
theorem may_all (x : Tm) : ∀ p, Pl p → MayAt p x := by
 induction x using Tm.ind with
 | h k n s t l ih =>
  intro p hp v w hT hE
  obtain ⟨A, cap, rfl, hR, hk, hn, hs, ht⟩ := hT.parts
  by_cases ho : k < 0 ∨ 22 ≤ k
  ·refine (may_out k n s t A l.length cap p w ho hk).mono ?_
   rintro e w' ⟨rfl, b⟩
   exact ⟨ret_bool (plc_no hp k n s t l ho).symm, b⟩
  obtain ⟨j, rfl⟩ : ∃ j : Nat, k = j := ⟨k.toNat, by omega⟩
  have hj : j < 22 := by omega
  have hM : ∀ (q : Int), Pl q → ∀ y ∈ l, MayAt q y := fun q hq y hy => ih y hy q hq
  have P1 : ∀ m : Int, m = 1 ∨ m = 2 ∨ m = 4 ∨ m = 8 ∨ m = 16 ∨ m = 32 ∨ m = 64 ∨ m = 128 ∨ m = 256 ∨ m = 512 → Pl m := fun m h => h
  have key : ∀ V, Below w.heap.size w V → Env7 V → Calls Tryz.prog (shN j) #[.agg #[.int .i8 j, .int .i64 n, .string s, .string t, .slice A l.length cap], .int .u16 p] V fun e w' => e = .returned (.bool (shR j p n s t l)) ∧ Below V.heap.size V w' := by
   intro V hV hEV
   have hRV : TRow (· < V.heap.size) V A l.length cap l := hR.later hV
   match j, hj with
   | 0, _ => exact shp_mods _ n s t l A cap p V hRV hs ht hn hEV (hM 2 (P1 2 (by omega)))
   | 1, _ => exact shp_mod _ n s t l A cap p V hRV hs ht hn hEV (hM 4 (P1 4 (by omega)))
   | 2, _ => exact shp_fun _ n s t l A cap p V hRV hs ht hn hEV (hM 8 (P1 8 (by omega)))
   | 3, _ => exact shp_clause _ n s t l A cap p V hRV hs ht hn hEV (fun y hy => ⟨hM 128 (P1 128 (by omega)) y hy, hM 16 (P1 16 (by omega)) y hy, hM 256 (P1 256 (by omega)) y hy⟩)
   | 4, _ => exact shp_guard _ n s t l A cap p V hRV hs ht hn hEV (hM 32 (P1 32 (by omega)))
   | 5, _ => exact shp_var _ n s t l A cap p V hRV hs ht hn hEV 
   | 6, _ => exact shp_int _ n s t l A cap p V hRV hs ht hn hEV 
   | 7, _ => exact shp_atom _ n s t l A cap p V hRV hs ht hn hEV 
   | 8, _ => exact shp_nil _ n s t l A cap p V hRV hs ht hn hEV 
   | 9, _ => exact shp_cons _ n s t l A cap p V hRV hs ht hn hEV (hM p hp)
   | 10, _ => exact shp_tuple _ n s t l A cap p V hRV hs ht hn hEV (hM p hp)
   | 11, _ => exact shp_op _ n s t l A cap p V hRV hs ht hn hEV (hM (opdQ p) (opd_pl hp))
   | 12, _ => exact shp_test _ n s t l A cap p V hRV hs ht hn hEV (hM 64 (P1 64 (by omega)))
   | 13, _ => exact shp_match _ n s t l A cap p V hRV hs ht hn hEV (fun y hy => ⟨hM 128 (P1 128 (by omega)) y hy, hM 256 (P1 256 (by omega)) y hy⟩)
   | 14, _ => exact shp_call _ n s t l A cap p V hRV hs ht hn hEV (hM 256 (P1 256 (by omega)))
   | 15, _ => exact shp_remote _ n s t l A cap p V hRV hs ht hn hEV (hM 256 (P1 256 (by omega)))
   | 16, _ => exact shp_apply _ n s t l A cap p V hRV hs ht hn hEV (hM 256 (P1 256 (by omega)))
   | 17, _ => exact shp_ref _ n s t l A cap p V hRV hs ht hn hEV 
   | 18, _ => exact shp_case _ n s t l A cap p V hRV hs ht hn hEV (fun y hy => ⟨hM 256 (P1 256 (by omega)) y hy, hM 8 (P1 8 (by omega)) y hy⟩)
   | 19, _ => exact shp_try _ n s t l A cap p V hRV hs ht hn hEV (fun y hy => ⟨hM 256 (P1 256 (by omega)) y hy, hM 8 (P1 8 (by omega)) y hy⟩)
   | 20, _ => exact shp_recv _ n s t l A cap p V hRV hs ht hn hEV (fun y hy => ⟨hM 8 (P1 8 (by omega)) y hy, hM 512 (P1 512 (by omega)) y hy⟩)
   | 21, _ => exact shp_after _ n s t l A cap p V hRV hs ht hn hEV (hM 256 (P1 256 (by omega)))
   | j + 22, h => omega
  refine (may_go j hj n s t A l.length cap p w hE _ key).mono ?_
  rintro e w' ⟨rfl, b⟩
  exact ⟨ret_bool (pure_all hp n s t l j hj), b⟩

set_option maxHeartbeats 4000000 in
set_option maxRecDepth 100000 in
theorem such7_any (p : Int) (hp : Pl p) (x : Tm) (v : Value) (w : World) (hT : TmAt (· < w.heap.size) w x v) (hE : Env7 w) :
  Calls Tryz.prog 50 #[v, .int .u16 p] w fun e w' => e = .returned (.bool (fitsB x && plcB p x)) ∧ Below w.heap.size w w' := by
 obtain ⟨k, n, s, t, l⟩ := x
 obtain ⟨A, cap, rfl, hR, hk, hn, hs, ht⟩ := hT.parts
 obtain ⟨X, hX⟩ : ∃ X, X = Tm.mk k n s t l := ⟨_, rfl⟩
 rw [← hX] at hT ⊢
 have HT := Lib.hid hT
 have HB := Lib.hid (nbx_of env7_E hE #[.int .i8 k, .int .i64 n, .string s, .string t, .slice A l.length cap])
 have HM := Lib.hid (may_all X p hp)
 have HW := Lib.hid (walked_fits X)
 obtain ⟨R, hRR⟩ : ∃ R, R = (fitsB X && plcB p X) := ⟨_, rfl⟩
 have HR := Lib.hid hRR
 rw [← hRR]
 obtain ⟨a, ha⟩ : ∃ a : Int, a = ((min 4097 X.nodes : Nat) : Int) := ⟨_, rfl⟩
 obtain ⟨d, hd⟩ : ∃ d : Int, d = ((walkedD X : Nat) : Int) := ⟨_, rfl⟩
 have HWK : Hid (∀ V, NBx Env7 w V w.heap.size #[.int .i8 k, .int .i64 n, .string s, .string t, .slice A l.length cap] → Calls Tryz.prog 68 #[.agg #[.int .i8 k, .int .i64 n, .string s, .string t, .slice A l.length cap]] V fun e w' => e = .returned (.agg #[.int .i64 a, .int .i64 d]) ∧ Below V.heap.size V w') := fun V h => by
  rw [ha, hd]; exact walked_any X _ V (HT.out.laterN h.below)
 have HF : Hid (∀ V, Calls Tryz.prog 69 #[.agg #[.int .i64 a, .int .i64 d]] V fun e w' => e = .returned (.bool (fitsB X)) ∧ Below V.heap.size V w') := fun V => by
  rw [ha, hd, ← HW.out]; exact fits_any _ _ V
 clear hR hX hT hE hRR ha hd
 go_enter Tryz.func50, Tryz.ntmps50
 go_upto_region 1 with fail
 generalize w.alloc (.cells #[.int .i8 k, .int .i64 n, .string s, .string t, .slice A l.length cap] 25) = w1 at HB ⊢
 obtain ⟨x0, x1, x2, x3, x4⟩ := five_of HB.out.box
 go_wp2_with fail
 refine (HWK.out w1 HB.out).mono ?_
 rintro e w2 ⟨rfl, b2⟩
 have HB2 := Lib.hid (HB.out.under env7_E b2)
 clear b2 x0 x1 x2 x3 x4
 obtain ⟨x0, x1, x2, x3, x4⟩ := five_of HB2.out.box
 go_wp2_with fail
 refine (HF.out w2).mono ?_
 rintro e w3 ⟨rfl, b3⟩
 have HB3 := Lib.hid (HB2.out.under env7_E b3)
 clear b3 x0 x1 x2 x3 x4
 obtain ⟨x0, x1, x2, x3, x4⟩ := five_of HB3.out.box
 cases h0 : fitsB X
 ·go_wp2_with fail
  go_ret
  exact ⟨ret_bool (by rw [HR.out, h0]; rfl), HB3.out.below⟩
 ·go_wp2_with fail
  refine (HM.out _ w3 (HT.out.laterN HB3.out.below) HB3.out.env).mono ?_
  rintro e w4 ⟨rfl, b4⟩
  go_wp2_with fail
  go_ret
  exact ⟨ret_bool (by rw [HR.out, h0]; rfl), HB3.out.below.trans (b4.mono HB3.out.below.size)⟩

set_option maxHeartbeats 1000000 in
theorem check7_ok : CheckC Env7 := by
 intro x v w hT _ hE
 obtain ⟨k, n, s, t, l⟩ := x
 obtain ⟨A, cap, rfl, hR, hk, hn, hs, ht⟩ := hT.parts
 obtain ⟨X, hX⟩ : ∃ X, X = Tm.mk k n s t l := ⟨_, rfl⟩
 rw [← hX] at hT ⊢
 have HB := Lib.hid (nbx_of env7_E hE #[.int .i8 k, .int .i64 n, .string s, .string t, .slice A l.length cap])
 have HC := Lib.hid (such7_any 1 (by unfold Pl; omega) X _ _ (hT.laterN HB.out.below) HB.out.env)
 rw [plc_1] at HC
 obtain ⟨R, hRR⟩ : ∃ R, R = checkR X := ⟨_, rfl⟩
 have HR := Lib.hid hRR
 rw [← hRR]
 clear hR hX hT hE hRR
 go_enter Tryz.func32, Tryz.ntmps32
 go_wp2_with fail
 refine HC.out.mono ?_
 rintro e w2 ⟨rfl, b2⟩
 cases h0 : (fitsB X && modsB X)
 ·go_wp2_with fail
  go_ret
  exact ⟨ret_int (by rw [HR.out]; unfold checkR; rw [if_neg (by rw [← Bool.and_eq_true, h0]; simp)]), HB.out.below.trans (b2.mono HB.out.below.size)⟩
 ·go_wp2_with fail
  go_ret
  exact ⟨ret_int (by rw [HR.out]; unfold checkR; rw [if_pos (by rw [← Bool.and_eq_true, h0])]), HB.out.below.trans (b2.mono HB.out.below.size)⟩
end Go.Proofs.YtmdcdhdjojimeaaGreatDoor
