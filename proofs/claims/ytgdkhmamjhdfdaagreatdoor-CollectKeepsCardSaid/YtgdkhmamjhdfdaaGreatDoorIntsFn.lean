/- What the operations, comparisons and texts of integers of 60 bits come to, as plain functions on whole numbers. -/
import Derived.WalkKit
namespace Go.Proofs.YtgdkhmamjhdfdaaGreatDoor
open Go.RowKit

/-- May it be an integer of 60 bits? -/
def mayB (n : Int) : Bool := decide (-576460752303423488 ≤ n ∧ n ≤ 576460752303423487)
theorem may_bd {n : Int} (h : mayB n = true) : -576460752303423488 ≤ n ∧ n ≤ 576460752303423487 := of_decide_eq_true h
theorem may_mk {n : Int} (h1 : -576460752303423488 ≤ n) (h2 : n ≤ 576460752303423487) : mayB n = true := decide_eq_true ⟨h1, h2⟩
theorem may_no {n : Int} (h : mayB n = false) : n < -576460752303423488 ∨ 576460752303423487 < n := by
  have := of_decide_eq_false h; omega

/-- The number, or ErrLimit. -/
def fit (n : Int) : Int × Int := if mayB n = true then (n, 0) else (0, 11)
theorem fit_yes {n : Int} (h : mayB n = true) : fit n = (n, 0) := by rw [fit, if_pos h]
theorem fit_no {n : Int} (h : mayB n = false) : fit n = (0, 11) := by rw [fit, if_neg (by simp [h])]

def sPlus : ByteArray := ⟨#[43]⟩
def sMinus : ByteArray := ⟨#[45]⟩
def sTimes : ByteArray := ⟨#[42]⟩
def sDiv : ByteArray := ⟨#[100, 105, 118]⟩
def sRem : ByteArray := ⟨#[114, 101, 109]⟩

/-- What Do answers: the number and the error's number. -/
def doR (s : ByteArray) (a b : Int) : Int × Int :=
  if mayB a = false ∨ mayB b = false then (0, 2)
  else if s = sPlus then fit (a + b)
  else if s = sMinus then fit (a - b)
  else if s = sTimes then fit (a * b)
  else if s = sDiv then (if b = 0 then (0, 10) else fit (a.tdiv b))
  else if s = sRem then (if b = 0 then (0, 10) else fit (a.tmod b))
  else (0, 2)

/-- A product that went round 64 bits: dividing it again shows it. -/
theorem wrap_form (x : Int) : ∃ k : Int, wrap64 x = x - k * 18446744073709551616 := by
  refine ⟨(x - wrap64 x) / 18446744073709551616, ?_⟩
  unfold wrap64
  omega

theorem quo_rem (p b : Int) : p = b * p.tdiv b + p.tmod b := (Int.mul_tdiv_add_tmod p b).symm
theorem rem_lt (p : Int) {b : Int} (hb : b ≠ 0) : -(b.natAbs : Int) < p.tmod b ∧ p.tmod b < b.natAbs := by
  have h1 := Int.tmod_lt_of_pos p (b := b.natAbs) (by omega)
  have h2 := Int.lt_tmod_of_pos p (b := b.natAbs) (by omega)
  have e : p.tmod (b.natAbs : Int) = p.tmod b := by
    rcases Int.natAbs_eq b with h | h
    · rw [← h]
    · conv => rhs; rw [h, Int.tmod_neg]
  rw [e] at h1 h2
  omega

theorem quo_small (p b : Int) : -(p.natAbs : Int) ≤ p.tdiv b ∧ p.tdiv b ≤ p.natAbs := by
  have h := Int.natAbs_tdiv_le_natAbs p b
  omega
theorem quo_bd (p b : Int) (h : -9223372036854775808 ≤ p ∧ p ≤ 9223372036854775807) :
    (-9223372036854775808 ≤ p.tdiv b ∧ p.tdiv b ≤ 9223372036854775807) ∨ p.tdiv b = 9223372036854775808 := by
  have h := Int.natAbs_tdiv_le_natAbs p b
  omega

theorem times_back {a b : Int} (hb : mayB b = true) (hb0 : b ≠ 0) (h : (wrap64 (a * b)).tdiv b = a) : wrap64 (a * b) = a * b := by
  obtain ⟨k, hk⟩ := wrap_form (a * b)
  have hq := quo_rem (wrap64 (a * b)) b
  have hr := rem_lt (wrap64 (a * b)) hb0
  have hb' := may_bd hb
  rw [h, Int.mul_comm b a] at hq
  generalize a * b = m at *
  generalize (wrap64 m).tmod b = r at *
  generalize wrap64 m = p at *
  omega

theorem times_fits {a b : Int} (h : mayB (a * b) = true) : wrap64 (a * b) = a * b := by
  have := may_bd h
  unfold wrap64
  omega

end Go.Proofs.YtgdkhmamjhdfdaaGreatDoor
