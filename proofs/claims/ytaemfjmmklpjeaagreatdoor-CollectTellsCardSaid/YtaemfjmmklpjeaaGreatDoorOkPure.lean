/- Terms that may be: what that says of their fields; nodes of rows. -/
import Derived.Test.YtaemfjmmklpjeaaGreatDoorCheck
import Derived.Test.YtaemfjmmklpjeaaGreatDoorUnroll
set_option linter.unusedVariables false
namespace Go.Proofs.YtaemfjmmklpjeaaGreatDoor
open Go.RowKit

theorem okN_no {k n : Int} {s t : ByteArray} {len : Nat} (h : k < 0 ∨ 7 < k) : okN k n s t len = false := by
  unfold okN
  rw [if_neg (by omega), if_neg (by omega), if_neg (by omega), if_neg (by omega), if_neg (by omega), if_neg (by omega), if_neg (by omega), if_neg (by omega)]

theorem check_valid {x : Tm} (h : checkN x = 0) : Valid x ∧ x.nodes ≤ 256 := by
  unfold checkN at h
  by_cases ha : (x.pre.take 257).all okB = true
  · rw [if_pos ha] at h
    by_cases hn : 256 < x.nodes
    · rw [if_pos hn] at h; cases h
    · refine ⟨fun y hy => ?_, by omega⟩
      have : x.pre.take 257 = x.pre := List.take_of_length_le (by unfold Tm.nodes at hn; omega)
      rw [this] at ha
      exact List.all_eq_true.1 ha y hy
  · rw [if_neg ha] at h; cases h

theorem name_size {s : ByteArray} {k : Int} (h : nameB s k = true) : 1 ≤ s.size ∧ s.size ≤ 32 := by
  have := of_decide_eq_true h; exact ⟨this.1, this.2.1⟩
theorem valid_cases {k n : Int} {s t : ByteArray} {l : List Tm} (h : okB (.mk k n s t l) = true) :
    (k = 0 ∧ s = ⟨#[]⟩ ∧ t = ⟨#[]⟩ ∧ l = []) ∨ (k = 1 ∧ n = 0 ∧ t = ⟨#[]⟩ ∧ l = []) ∨ (k = 2 ∧ s = ⟨#[]⟩ ∧ t = ⟨#[]⟩ ∧ l = []) ∨ (k = 3 ∧ l = []) ∨ (k = 4 ∧ s = ⟨#[]⟩ ∧ t = ⟨#[]⟩ ∧ l = []) ∨
    (k = 5 ∧ n = 0 ∧ s = ⟨#[]⟩ ∧ t = ⟨#[]⟩) ∨ (k = 6 ∧ n = 0 ∧ s = ⟨#[]⟩ ∧ t = ⟨#[]⟩ ∧ l = []) ∨ (k = 7 ∧ n = 0 ∧ s = ⟨#[]⟩ ∧ t = ⟨#[]⟩ ∧ l.length = 2) := by
  by_cases h8 : k < 0 ∨ 7 < k
  · rw [show okB (.mk k n s t l) = okN k n s t l.length from rfl, okN_no h8] at h
    cases h
  · have h8 : k = 0 ∨ k = 1 ∨ k = 2 ∨ k = 3 ∨ k = 4 ∨ k = 5 ∨ k = 6 ∨ k = 7 := by omega
    have em : ∀ {u : ByteArray}, u.toList.isEmpty = true → u = ⟨#[]⟩ := fun {u} hu => by
      apply ByteArray.ext
      apply Array.toList_inj.1
      rw [← ByteArray.toList_eq]
      simpa using hu
    have nl : ((l.length : Int) == 0) = true → l = [] := fun hl => by
      have : (l.length : Int) = 0 := by simpa using hl
      exact List.length_eq_zero_iff.1 (by omega)
    rcases h8 with rfl | rfl | rfl | rfl | rfl | rfl | rfl | rfl
    · have h := (show ok_integer n s t l.length = true from h)
      unfold ok_integer at h; simp only [Bool.and_eq_true] at h
      exact .inl ⟨rfl, em h.1.1.2, em h.1.2, nl h.2⟩
    · have h := (show ok_atom n s t l.length = true from h)
      unfold ok_atom at h; simp only [Bool.and_eq_true] at h
      exact .inr (.inl ⟨rfl, beq_iff_eq.1 h.1.1.2, em h.1.2, nl h.2⟩)
    · have h := (show ok_ref n s t l.length = true from h)
      unfold ok_ref at h; simp only [Bool.and_eq_true] at h
      exact .inr (.inr (.inl ⟨rfl, em h.1.1.2, em h.1.2, nl h.2⟩))
    · have h := (show ok_fun n s t l.length = true from h)
      unfold ok_fun at h; simp only [Bool.and_eq_true] at h
      exact .inr (.inr (.inr (.inl ⟨rfl, nl h.2⟩)))
    · have h := (show ok_pid n s t l.length = true from h)
      unfold ok_pid at h; simp only [Bool.and_eq_true] at h
      exact .inr (.inr (.inr (.inr (.inl ⟨rfl, em h.1.1.2, em h.1.2, nl h.2⟩))))
    · have h := (show ok_tuple n s t l.length = true from h)
      unfold ok_tuple at h; simp only [Bool.and_eq_true] at h
      exact .inr (.inr (.inr (.inr (.inr (.inl ⟨rfl, beq_iff_eq.1 h.1.1, em h.1.2, em h.2⟩)))))
    · have h := (show ok_empty n s t l.length = true from h)
      unfold ok_empty at h; simp only [Bool.and_eq_true] at h
      exact .inr (.inr (.inr (.inr (.inr (.inr (.inl ⟨rfl, beq_iff_eq.1 h.1.1.1, em h.1.1.2, em h.1.2, nl h.2⟩))))))
    · have h := (show ok_cons n s t l.length = true from h)
      unfold ok_cons at h; simp only [Bool.and_eq_true] at h
      have : (l.length : Int) = 2 := by simpa using h.1.1.1
      exact .inr (.inr (.inr (.inr (.inr (.inr (.inr ⟨rfl, beq_iff_eq.1 h.1.1.2, em h.1.2, em h.2, by omega⟩))))))

theorem check_of {x : Tm} (hV : Valid x) (hn : x.nodes ≤ 256) : checkN x = 0 := by
  unfold checkN
  rw [if_pos (List.all_eq_true.2 (fun y hy => hV y (List.mem_of_mem_take hy))), if_neg (by omega)]

theorem leaf_at (P : Nat → Prop) (w : World) {k n : Int} {s t : ByteArray} (hk : -128 ≤ k ∧ k ≤ 127) (hn : -9223372036854775808 ≤ n ∧ n ≤ 9223372036854775807) (hs : s.size ≤ maxLen) (ht : t.size ≤ maxLen) :
    TmAt P w (.mk k n s t []) (.agg #[.int .i8 k, .int .i64 n, .string s, .string t, .slice none 0 0]) := TmAt.of_row (l := []) (TRow.nil P w none 0) hk hn hs ht

end Go.Proofs.YtaemfjmmklpjeaaGreatDoor
