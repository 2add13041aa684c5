/- The document's own answers of layer 2 for texts, by definition: May, Name, Prefix come to the same. -/
import Derived.Test.YtaemfjmmklpjeaaGreatDoorAtomsPrefix
import Derived.IntWalk
set_option linter.unusedVariables false
namespace Go.Proofs.YtaemfjmmklpjeaaGreatDoor
open Go.RowKit

def letB (c : Int) : Bool := decide (kindN c ≠ 0)
theorem letB_iff (c : Int) : letB c = true ↔ ((97 ≤ c ∧ c ≤ 122) ∨ (65 ≤ c ∧ c ≤ 90) ∨ (48 ≤ c ∧ c ≤ 57) ∨ c = 95) := by
  unfold letB kindN
  rw [decide_eq_true_eq]
  split <;> (try split) <;> (try split) <;> (try split) <;> omega

theorem letter_any (c : Int) (w : World) : Calls Tryz.prog 123 #[.int .u8 c] w fun e w' => e = .returned (.bool (letB c)) ∧ w = w' := by
  go_enter Tryz.func123, Tryz.ntmps123
  go_wp2
  all_goals
    go_ret
    refine ⟨ret_bool ?_, rfl⟩
    rw [Bool.eq_iff_iff, letB_iff]
    first | (simp; done) | (simp; omega)

set_option maxHeartbeats 1000000 in
theorem rPrefix_any (s : ByteArray) (w : World) (hs : s.size ≤ maxLen) :
    Calls Tryz.prog 120 #[.string s] w fun e w' => e = .returned (.int .i64 (prefN s)) ∧ w = w' := by
  unfold maxLen at hs
  go_enter Tryz.func120, Tryz.ntmps120
  go_wp2
  go_loop [3] (fun i => ∃ k : Nat, k ≤ s.size ∧ i = .int .i64 k ∧ Hid (∀ j, j < k → kd s j ≠ 0)) (fun i => s.size - (intOf i).toNat)
  case atStart => exact ⟨0, Nat.zero_le _, rfl, fun j h => by omega⟩
  case round =>
    obtain ⟨k, hk, rfl, hd⟩ := hrel
    by_cases hlt : k < s.size
    · have hkd := kd_at s k hlt
      cases hb : letB ((s[k]).toNat : Int)
      · have hz : Hid (kd s k = 0) := by
          show _ = _
          unfold letB at hb
          rw [← hkd]
          simpa using hb
        clear hkd
        go_wp2_with (go_at_call 123; refine (letter_any _ _).mono ?_; rintro e w' ⟨rfl, rfl⟩)
        go_ret
        exact ⟨ret_int (by rw [prefN_eq s k hk hd.out (.inr ⟨hlt, hz.out⟩)]), rfl⟩
      · have hz : Hid (kd s k ≠ 0) := by
          show _ ≠ _
          unfold letB at hb
          rw [← hkd]
          simpa using hb
        clear hkd
        go_wp2_with (go_at_call 123; refine (letter_any _ _).mono ?_; rintro e w' ⟨rfl, rfl⟩)
        go_round
        case rel => exact ⟨k + 1, by omega, by go_num, fun j hj => by
          by_cases e : j = k
          · subst e; exact hz.out
          · exact hd.out j (by omega)⟩
        case measure => simp [intOf]; omega
    · go_wp2
      go_ret
      exact ⟨ret_int (by rw [prefN_eq s k hk hd.out (.inl (by omega))]), rfl⟩

theorem kindN2 (c : Int) : kindN c = 2 ↔ 97 ≤ c ∧ c ≤ 122 := by
  unfold kindN
  split <;> (try split) <;> (try split) <;> (try split) <;> omega
theorem nameB_iff (s : ByteArray) (k : Int) (h0 : 0 < s.size) : nameB s k = true ↔ s.size ≤ 32 ∧ kindN ((s[0]).toNat : Int) = k ∧ prefN s = s.size := by
  unfold nameB
  rw [decide_eq_true_eq, kd_at s 0 h0]
  constructor
  · rintro ⟨_, h⟩; exact h
  · intro h; exact ⟨h0, h⟩
theorem nameB_0 (s : ByteArray) (k : Int) (h0 : ¬ 0 < s.size) : nameB s k = false := by
  unfold nameB
  rw [decide_eq_false_iff_not]
  rintro ⟨h, _⟩
  omega

set_option maxHeartbeats 1000000 in
theorem rMay_any (s : ByteArray) (w : World) (hs : s.size ≤ maxLen) :
    Calls Tryz.prog 112 #[.string s] w fun e w' => e = .returned (.bool (nameB s 2)) ∧ w = w' := by
  have hp := prefN_le s
  by_cases h0 : 0 < s.size
  · have hI := Lib.hid (nameB_iff s 2 h0)
    have HP := Lib.hid (rPrefix_any s w hs)
    unfold maxLen at hs
    by_cases h32 : s.size ≤ 32
    · go_enter Tryz.func112, Tryz.ntmps112
      go_wp2_with (go_at_call 120; refine HP.out.mono ?_; rintro e w' ⟨rfl, rfl⟩)
      all_goals
        go_ret
        refine ⟨ret_bool ?_, rfl⟩
        rw [Bool.eq_iff_iff, hI.out, kindN2]
        first | (simp; done) | (simp; omega)
    · go_enter Tryz.func112, Tryz.ntmps112
      go_wp2_with (go_at_call 120; refine HP.out.mono ?_; rintro e w' ⟨rfl, rfl⟩)
      all_goals
        go_ret
        refine ⟨ret_bool ?_, rfl⟩
        rw [Bool.eq_iff_iff, hI.out, kindN2]
        first | (simp; done) | (simp; omega)
  · have HZ := Lib.hid (nameB_0 s 2 h0)
    go_enter Tryz.func112, Tryz.ntmps112
    go_wp2
    go_ret
    exact ⟨ret_bool HZ.out.symm, rfl⟩

end Go.Proofs.YtaemfjmmklpjeaaGreatDoor
