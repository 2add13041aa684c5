/- pleachref06.Word, mark. -/
import Derived.Test.YtkaijnbefbggeaaDoorScanP
set_option linter.unusedVariables false
namespace Go.Proofs.YtkaijnbefbggeaaDoor
open Go.RowKit

set_option maxHeartbeats 4000000 in
theorem rWord_any (s : ByteArray) (w : World) : Calls Tryd.prog 17 #[.string s] w fun e w' => e = .returned (.bool (wordL s.data.toList)) ∧ w = w' := by
  go_enter Tryd.func17, Tryd.ntmps17
  go_wp2
  all_goals
    go_ret
    refine ⟨ret_bool ?_, rfl⟩
    rw [← Go.Lib.toList_data]
    unfold wordL wordList
    simp only [List.any_cons, List.any_nil]
    simp_all

set_option maxHeartbeats 4000000 in
theorem rmark_any (s : ByteArray) (w : World) (h0 : 0 < s.size) (hs : s.size ≤ maxLen) : Calls Tryd.prog 18 #[.string s] w fun e w' => e = .returned (.int .i64 (markL s.data.toList : Nat)) ∧ w = w' := by
  unfold maxLen at hs
  go_enter Tryd.func18, Tryd.ntmps18
  go_wp2
  all_goals
    go_ret
    refine ⟨ret_int ?_, rfl⟩
    rw [markL_s s h0]
    unfold oneL
    simp only [List.any_cons, List.any_nil]
    simp_all <;> first
      | (rw [if_neg (fun (e : _ ∧ _) => by have h5 := e.1; omega), if_neg (fun (e : _ ∧ _) => by have h5 := e.1; omega)]; rfl)
      | (rw [if_neg (fun (e : _ ∧ _) => by have h5 := e.1; omega)]; simp_all; done)
      | (rw [if_neg (fun (e : _ ∧ _) => by have h5 := e.1; omega)]; rfl)
end Go.Proofs.YtkaijnbefbggeaaDoor
