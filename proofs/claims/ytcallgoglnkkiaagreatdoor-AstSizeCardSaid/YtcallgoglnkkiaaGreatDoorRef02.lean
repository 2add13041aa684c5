/- The document's own answers of layer 2 for texts, by definition: May, Name, Prefix come to the same. -/
import Derived.Test.YtcallgoglnkkiaaGreatDoorAtomsPrefix
import Derived.IntWalk
set_option linter.unusedVariables false
namespace Go.Proofs.YtcallgoglnkkiaaGreatDoor
open Go.RowKit

def letB (c : Int) : Bool := decide (kindN c ≠ 0)
theorem letB_iff (c : Int) : letB c = true ↔ ((97 ≤ c ∧ c ≤ 122) ∨ (65 ≤ c ∧ c ≤ 90) ∨ (48 ≤ c ∧ c ≤ 57) ∨ c = 95) := by
  unfold letB kindN
  rw [decide_eq_true_eq]
  split <;> (try split) <;> (try split) <;> (try split) <;> omega

theorem kindN2 (c : Int) : kindN c = 2 ↔ 97 ≤ c ∧ c ≤ 122 := by
  unfold kindN
  split <;> (try split) <;> (try split) <;> (try split) <;> omega
theorem kindN3 (c : Int) : kindN c = 3 ↔ (65 ≤ c ∧ c ≤ 90) ∨ c = 95 := by
  unfold kindN
  split <;> (try split) <;> (try split) <;> (try split) <;> omega

theorem nameB_iff (s : ByteArray) (k : Int) (h0 : 0 < s.size) : nameB s k = true ↔ s.size ≤ 32 ∧ kindN ((s[0]).toNat : Int) = k ∧ prefN s = s.size := by
  unfold nameB
  rw [decide_eq_true_eq, kd_at s 0 h0]
  constructor
  · rintro ⟨_, h⟩; exact h
  · intro h; exact ⟨h0, h⟩
theorem nameB_0 (s : ByteArray) (k : Int) (h0 : ¬ 0 < s.size) : nameB s k = false := by
  unfold nameB
  rw [decide_eq_false_iff_not]
  rintro ⟨h, _⟩
  omega

end Go.Proofs.YtcallgoglnkkiaaGreatDoor
