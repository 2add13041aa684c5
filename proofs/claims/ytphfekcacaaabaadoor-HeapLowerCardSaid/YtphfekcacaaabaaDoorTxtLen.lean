/- How long texts of terms are. -/
import Derived.Test.YtphfekcacaaabaaDoorOkPure
import Derived.Test.YtphfekcacaaabaaDoorTxt
set_option linter.unusedVariables false
namespace Go.Proofs.YtphfekcacaaabaaDoor
open Go.RowKit
open Go.Lib (itoa)

theorem txt_len (x : Tm) : Valid x → x.tx.1.length + 1 ≤ 100 * x.nodes ∧ x.tx.2.length ≤ 100 * x.nodes := by
  induction x using Tm.ind with
  | h k n s t l ih =>
    intro hV
    have hok := hV.own
    have hrow : (joinC ((l.map Tm.tx).map (·.1))).length ≤ 100 * (Tm.pres l).length := by
      have : ∀ m : List Tm, (∀ y ∈ m, y.tx.1.length + 1 ≤ 100 * y.nodes) → (joinC ((m.map Tm.tx).map (·.1))).length ≤ 100 * (Tm.pres m).length := by
        intro m
        induction m with
        | nil => intro _; simp [joinC]
        | cons y m ihm =>
          intro hm
          have h1 := hm y (by simp)
          have h2 := ihm (fun z hz => hm z (by simp [hz]))
          rw [Tm.pres, List.length_append]
          unfold Tm.nodes at h1
          cases m with
          | nil => simp [joinC]; omega
          | cons z m => simp only [List.map_cons, joinC, List.length_append, List.length_cons] at h2 ⊢; omega
      exact this l (fun y hy => (ih y hy (hV.part hy)).1)
    have hnod : (Tm.mk k n s t l).nodes = 1 + (Tm.pres l).length := by unfold Tm.nodes Tm.pre; simp; omega
    have key : (ownB k n s t (l.map Tm.tx)).length + 1 ≤ 100 * (1 + (Tm.pres l).length) ∧ (k = 7 → (consB (l.map Tm.tx)).length ≤ 100 * (Tm.pres l).length) := by
      by_cases h : k < 0 ∨ 7 < k
      · rw [show okB (.mk k n s t l) = okN k n s t l.length from rfl, okN_no h] at hok
        cases hok
      · have h8 : k = 0 ∨ k = 1 ∨ k = 2 ∨ k = 3 ∨ k = 4 ∨ k = 5 ∨ k = 6 ∨ k = 7 := by omega
        rcases h8 with rfl | rfl | rfl | rfl | rfl | rfl | rfl | rfl
        · have h := (show ok_integer n s t l.length = true from hok)
          simp [ok_integer] at h
          have hb := may_bd h.1.1.1
          have := Go.Lib.itoa_length_le n (by omega) (by omega)
          exact ⟨by simp [ownB]; omega, fun h => by cases h⟩
        · have h := (show ok_atom n s t l.length = true from hok)
          simp [ok_atom] at h
          have := name_size h.1.1.1
          have := toList_size s
          exact ⟨by simp [ownB]; omega, fun h => by cases h⟩
        · have h := (show ok_ref n s t l.length = true from hok)
          simp [ok_ref] at h
          have hb := of_decide_eq_true h.1.1.1
          have := Go.Lib.itoa_length_le n (by omega) (by omega)
          exact ⟨by simp [ownB]; omega, fun h => by cases h⟩
        · have h := (show ok_fun n s t l.length = true from hok)
          simp [ok_fun] at h
          have hb := of_decide_eq_true h.1.2
          have := Go.Lib.itoa_length_le n (by omega) (by omega)
          have := name_size h.1.1.1
          have := name_size h.1.1.2
          have := toList_size s
          have := toList_size t
          exact ⟨by simp [ownB]; omega, fun h => by cases h⟩
        · have h := (show ok_pid n s t l.length = true from hok)
          simp [ok_pid] at h
          have hb := of_decide_eq_true h.1.1.1
          have := Go.Lib.itoa_length_le n (by omega) (by omega)
          exact ⟨by simp [ownB]; omega, fun h => by cases h⟩
        · exact ⟨by simp [ownB]; simp at hrow; omega, fun h => by cases h⟩
        · exact ⟨by simp [ownB]; omega, fun h => by cases h⟩
        · obtain ⟨a, b, rfl⟩ := cons_two hok
          have h1 := (ih a (by simp) (hV.part (by simp))).1
          have h2 := (ih b (by simp) (hV.part (by simp))).2
          have hc : (consB ([a, b].map Tm.tx)).length ≤ 100 * (Tm.pres [a, b]).length := by
            simp only [List.map_cons, List.map_nil, consB, List.length_append, Tm.pres, List.append_nil]
            unfold Tm.nodes at h1 h2
            omega
          refine ⟨?_, fun _ => hc⟩
          rw [show ownB 7 n s t ([a, b].map Tm.tx) = [91] ++ consB ([a, b].map Tm.tx) ++ [93] from rfl]
          simp only [List.length_append, List.length_singleton]
          omega
    rw [Tm.tx, Tm.txs_map, hnod]
    refine ⟨key.1, ?_⟩
    dsimp only
    by_cases h7 : k = 7
    · rw [if_pos h7]; have := key.2 h7; simp only [List.length_cons]; omega
    · rw [if_neg h7]
      by_cases h6 : k = 6
      · rw [if_pos h6]; simp
      · rw [if_neg h6]; simp only [List.length_cons]; exact key.1
end Go.Proofs.YtphfekcacaaabaaDoor
set_option linter.unusedVariables false
namespace Go.Proofs.YtphfekcacaaabaaDoor
open Go.RowKit
open Go.Lib (itoa byteCells)

theorem row_len : ∀ m : List Tm, (∀ y ∈ m, Valid y) → (joinC (m.map txt)).length ≤ 100 * (Tm.pres m).length := by
  intro m
  induction m with
  | nil => intro _; simp [joinC]
  | cons y m ihm =>
    intro hm
    have h1 := (txt_len y (hm y (by simp))).1
    have h2 := ihm (fun z hz => hm z (by simp [hz]))
    rw [Tm.pres, List.length_append]
    have e : txt y = y.tx.1 := rfl
    unfold Tm.nodes at h1
    cases m with
    | nil => simp [joinC, e]; omega
    | cons z m => simp only [List.map_cons, joinC, List.length_append, List.length_cons] at h2 ⊢; rw [e]; omega
theorem pres_take_le (l : List Tm) (j : Nat) : (Tm.pres (l.take j)).length ≤ (Tm.pres l).length := by
  rw [show Tm.pres l = Tm.pres (l.take j) ++ Tm.pres (l.drop j) by rw [← Tm.pres_append, List.take_append_drop]]
  simp
theorem pres_mem_le {l : List Tm} {y : Tm} (hy : y ∈ l) : y.nodes ≤ (Tm.pres l).length := by
  have := nodes_part (k := 0) (n := 0) (s := ⟨#[]⟩) (t := ⟨#[]⟩) hy
  have h2 : (Tm.mk 0 0 ⟨#[]⟩ ⟨#[]⟩ l).nodes = 1 + (Tm.pres l).length := by unfold Tm.nodes Tm.pre; simp; omega
  omega
end Go.Proofs.YtphfekcacaaabaaDoor
