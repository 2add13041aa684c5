/- Contracts of the document's own answers for layer 1 (package pleachref01), and of ints.Arith. -/
import Derived.Test.YtcallgoglnkkiaaGreatDoorIntsDo
import Derived.Test.YtcallgoglnkkiaaGreatDoorIntsCmp
import Derived.Test.YtcallgoglnkkiaaGreatDoorIntsRead
namespace Go.Proofs.YtcallgoglnkkiaaGreatDoor
open Go.RowKit

/-- Two texts that differ, as a walk asks it. -/
theorem txt_ne {s t : ByteArray} {l : List UInt8} (h : ¬ s = t) (e : t.data.toList = l) : (s.toList == l) = false := by
  cases k : s.toList == l
  · rfl
  · have k1 : s.toList = l := by simpa using k
    rw [ByteArray.toList_eq, ← e] at k1
    exact absurd (WideShapes.bytes_inj k1) h

/-- Is it one of the five? -/
def arithB (s : ByteArray) : Bool := decide (s = sPlus ∨ s = sMinus ∨ s = sTimes ∨ s = sDiv ∨ s = sRem)

theorem Arith_plus (w : World) : Calls Tryz.prog 119 #[.string ⟨#[43]⟩] w fun e w' => e = .returned (.bool true) ∧ Below w.heap.size w w' := by
  have hl := look_plus w
  go_enter Tryz.func119, Tryz.ntmps119
  go_wp2_with (go_at_call 128; refine (operations_any _).mono ?_; rintro e w' ⟨rfl, rfl⟩)
  go_ret
  exact ⟨rfl, (Below.refl _ _).alloc (Nat.le_refl _) _⟩

theorem Arith_minus (w : World) : Calls Tryz.prog 119 #[.string ⟨#[45]⟩] w fun e w' => e = .returned (.bool true) ∧ Below w.heap.size w w' := by
  have hl := look_minus w
  go_enter Tryz.func119, Tryz.ntmps119
  go_wp2_with (go_at_call 128; refine (operations_any _).mono ?_; rintro e w' ⟨rfl, rfl⟩)
  go_ret
  exact ⟨rfl, (Below.refl _ _).alloc (Nat.le_refl _) _⟩

theorem Arith_times (w : World) : Calls Tryz.prog 119 #[.string ⟨#[42]⟩] w fun e w' => e = .returned (.bool true) ∧ Below w.heap.size w w' := by
  have hl := look_times w
  go_enter Tryz.func119, Tryz.ntmps119
  go_wp2_with (go_at_call 128; refine (operations_any _).mono ?_; rintro e w' ⟨rfl, rfl⟩)
  go_ret
  exact ⟨rfl, (Below.refl _ _).alloc (Nat.le_refl _) _⟩

theorem Arith_div (w : World) : Calls Tryz.prog 119 #[.string ⟨#[100, 105, 118]⟩] w fun e w' => e = .returned (.bool true) ∧ Below w.heap.size w w' := by
  have hl := look_quotient w
  go_enter Tryz.func119, Tryz.ntmps119
  go_wp2_with (go_at_call 128; refine (operations_any _).mono ?_; rintro e w' ⟨rfl, rfl⟩)
  go_ret
  exact ⟨rfl, (Below.refl _ _).alloc (Nat.le_refl _) _⟩

theorem Arith_rem (w : World) : Calls Tryz.prog 119 #[.string ⟨#[114, 101, 109]⟩] w fun e w' => e = .returned (.bool true) ∧ Below w.heap.size w w' := by
  have hl := look_rest w
  go_enter Tryz.func119, Tryz.ntmps119
  go_wp2_with (go_at_call 128; refine (operations_any _).mono ?_; rintro e w' ⟨rfl, rfl⟩)
  go_ret
  exact ⟨rfl, (Below.refl _ _).alloc (Nat.le_refl _) _⟩

theorem Arith_none (s : ByteArray) (w : World) (hn : Instr.findNow .string (.string s) (opTab 5).toList 0 = some none) : Calls Tryz.prog 119 #[.string s] w fun e w' => e = .returned (.bool false) ∧ Below w.heap.size w w' := by
  have hl := run_miss_last Tryz.underlying135 Tryz.underlying9 w (opTab 5) 5 s .nilFunc zero_op hn
  clear hn
  go_enter Tryz.func119, Tryz.ntmps119
  go_wp2_with (go_at_call 128; refine (operations_any _).mono ?_; rintro e w' ⟨rfl, rfl⟩)
  go_ret
  exact ⟨rfl, (Below.refl _ _).alloc (Nat.le_refl _) _⟩

theorem Arith_any (s : ByteArray) (w : World) : Calls Tryz.prog 119 #[.string s] w fun e w' => e = .returned (.bool (arithB s)) ∧ Below w.heap.size w w' := by
  by_cases h1 : s = sPlus
  · subst h1
    rw [show arithB sPlus = true from by unfold arithB; rw [decide_eq_true_eq]; simp]
    exact Arith_plus w
  by_cases h2 : s = sMinus
  · subst h2
    rw [show arithB sMinus = true from by unfold arithB; rw [decide_eq_true_eq]; simp]
    exact Arith_minus w
  by_cases h3 : s = sTimes
  · subst h3
    rw [show arithB sTimes = true from by unfold arithB; rw [decide_eq_true_eq]; simp]
    exact Arith_times w
  by_cases h4 : s = sDiv
  · subst h4
    rw [show arithB sDiv = true from by unfold arithB; rw [decide_eq_true_eq]; simp]
    exact Arith_div w
  by_cases h5 : s = sRem
  · subst h5
    rw [show arithB sRem = true from by unfold arithB; rw [decide_eq_true_eq]; simp]
    exact Arith_rem w
  · rw [show arithB s = false from by unfold arithB; rw [decide_eq_false_iff_not]; simp [h1, h2, h3, h4, h5]]
    exact Arith_none s w (miss_op h1 h2 h3 h4 h5)

/-- What is behind the division. -/
def backB (a b : Int) : Bool := (wrap64 ((wrap64 (a * b)).tdiv b) == a) && ((wrap64 (a * b)).tmod b == 0) && mayB (wrap64 (a * b))

theorem backB_fits {a b : Int} (hb0 : ¬ b = 0) (ha : mayB a = true) (h : mayB (a * b) = true) : backB a b = true := by
  have hA := may_bd ha
  unfold backB
  rw [times_fits h, Int.mul_tdiv_cancel _ hb0, Int.mul_tmod_left, h, wrap_in (by omega) (by omega)]
  simp

theorem backB_eq {a b : Int} (hb : mayB b = true) (hb0 : ¬ b = 0) (ha : mayB a = true) (h : backB a b = true) : wrap64 (a * b) = a * b ∧ mayB (a * b) = true := by
  unfold backB at h
  simp only [Bool.and_eq_true, beq_iff_eq] at h
  obtain ⟨⟨h1, _⟩, h3⟩ := h
  have hA := may_bd ha
  have hw : -9223372036854775808 ≤ wrap64 (a * b) ∧ wrap64 (a * b) ≤ 9223372036854775807 := by unfold wrap64; omega
  have hq : (wrap64 (a * b)).tdiv b = a := by
    rcases quo_bd (wrap64 (a * b)) b hw with hB | hB
    · rw [wrap_in hB.1 hB.2] at h1; exact h1
    · rw [hB] at h1; unfold wrap64 at h1; omega
  have e := times_back hb hb0 hq
  exact ⟨e, by rw [← e]; exact h3⟩

theorem rem_form {a b : Int} (ha : mayB a = true) : wrap64 (a - wrap64 (wrap64 (a.tdiv b) * b)) = a.tmod b := by
  have hA := may_bd ha
  have hs := quo_small a b
  rw [wrap_in (n := a.tdiv b) (by omega) (by omega)]
  have hq := quo_rem a b
  rw [Int.mul_comm] at hq
  generalize a.tdiv b * b = m at *
  have hr : -(a.natAbs : Int) ≤ a.tmod b ∧ a.tmod b ≤ a.natAbs := by
    have h1 := Int.natAbs_tmod a b; have h2 := Nat.mod_le a.natAbs b.natAbs; omega
  rw [wrap_in (n := m) (by omega) (by omega), wrap_in (by omega) (by omega)]
  omega

end Go.Proofs.YtcallgoglnkkiaaGreatDoor
