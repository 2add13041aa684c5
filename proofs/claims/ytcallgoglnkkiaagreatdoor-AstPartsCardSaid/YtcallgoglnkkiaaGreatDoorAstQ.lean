/- Layer 7: what follows of trees that may be. -/
import Derived.Test.YtcallgoglnkkiaaGreatDoorAstP
set_option linter.unusedVariables false
namespace Go.Proofs.YtcallgoglnkkiaaGreatDoor
open Go.RowKit

theorem patsB_all : ∀ {l : List Tm}, patsB l = true ↔ ∀ x ∈ l, patB x = true
  | [] => by simp [patsB]
  | x :: l => by simp [patsB, patsB_all (l := l)]
theorem guasB_all : ∀ {l : List Tm}, guasB l = true ↔ ∀ x ∈ l, guaB x = true
  | [] => by simp [guasB]
  | x :: l => by simp [guasB, guasB_all (l := l)]
theorem exprsB_all : ∀ {l : List Tm}, exprsB l = true ↔ ∀ x ∈ l, exprB x = true
  | [] => by simp [exprsB]
  | x :: l => by simp [exprsB, exprsB_all (l := l)]
theorem clsB_all {m : Nat} : ∀ {l : List Tm}, clsB m l = true ↔ ∀ x ∈ l, clB m x = true
  | [] => by simp [clsB]
  | x :: l => by simp [clsB, clsB_all (l := l)]

theorem pat_gua (x : Tm) : patB x = true → guaB x = true := by
  induction x using Tm.ind with
  | h k n s t l ih =>
    intro h
    rw [patB, Bool.or_eq_true] at h
    rw [guaB, Bool.or_eq_true]
    rcases h with h | h
    · exact .inl h
    · simp only [Bool.and_eq_true, Bool.or_eq_true] at h
      obtain ⟨⟨⟨⟨h1, h2⟩, h3⟩, h4⟩, h5⟩ := h
      have h6 : guasB l = true := guasB_all.2 fun x hx => ih x hx (patsB_all.1 h5 x hx)
      right
      simp only [Bool.and_eq_true, Bool.or_eq_true]
      refine ⟨⟨⟨?_, h2⟩, h4⟩, h6⟩
      rcases h1 with h1 | ⟨h1, h7⟩
      · exact .inl (.inl ⟨h1, h3⟩)
      · exact .inl (.inr ⟨⟨h1, h3⟩, h7⟩)
theorem gua_expr (x : Tm) : guaB x = true → exprB x = true := by
  induction x using Tm.ind with
  | h k n s t l ih =>
    intro h
    rw [guaB, Bool.or_eq_true] at h
    rw [exprB]
    simp only [Bool.or_eq_true]
    rcases h with h | h
    · simp [h]
    · simp only [Bool.and_eq_true, Bool.or_eq_true] at h
      obtain ⟨⟨⟨h1, h2⟩, h4⟩, h5⟩ := h
      have h6 : exprsB l = true := exprsB_all.2 fun x hx => ih x hx (guasB_all.1 h5 x hx)
      rcases h1 with (⟨h1, h3⟩ | ⟨⟨h1, h3⟩, h7⟩) | ⟨⟨h1, h3⟩, h7⟩
      · simp [h1, h2, h3, h4, h6]
      · simp [h1, h2, h3, h4, h6, h7]
      · simp [h1, h2, plus_ari h3, h4, h6, h7]
theorem pat_expr (x : Tm) (h : patB x = true) : exprB x = true := gua_expr x (pat_gua x h)

theorem guard_tests {k n : Int} {s t : ByteArray} {l : List Tm} (h : guardB (.mk k n s t l) = true) : ∀ x ∈ l, testB x = true := by
  rw [guardB] at h
  simp only [Bool.and_eq_true] at h
  exact List.all_eq_true.1 h.2
/-- What Clause answers. -/
def clauseR (x : Tm) (m : Int) : Bool := fitsB x && decide (0 ≤ m) && clB m.toNat x
theorem clB_n {m : Nat} {k n : Int} {s t : ByteArray} {l : List Tm} (h : clB m (.mk k n s t l) = true) : n = (m : Int) := by
  rw [clB] at h
  simp only [Bool.and_eq_true] at h
  exact eq_of_beq h.1.1.1.2
theorem cls_one {x : Tm} {m : Int} (h : clauseR x m = true) : clauseR x (m + 1) = false := by
  obtain ⟨k, n, s, t, l⟩ := x
  unfold clauseR at h ⊢
  simp only [Bool.and_eq_true] at h
  have h1 := clB_n h.2
  have h2 : 0 ≤ m := of_decide_eq_true h.1.2
  cases hx : clB (m + 1).toNat (Tm.mk k n s t l)
  · simp
  · have h3 := clB_n hx
    omega
/-- What Check says of its parts. -/
theorem mods_parts {x m f c : Tm} (h : fitsB x = true) (hx : modsB x = true) (hm : m ∈ x.l) (hf : f ∈ m.l) (hc : c ∈ f.l) : clauseR c f.n = true ∧ 0 ≤ f.n ∧ f.n ≤ 8 := by
  obtain ⟨k0, n0, s0, t0, l0⟩ := x
  obtain ⟨k1, n1, s1, t1, l1⟩ := m
  obtain ⟨k2, n2, s2, t2, l2⟩ := f
  have hm' : Tm.mk k1 n1 s1 t1 l1 ∈ l0 := hm
  have hf' : Tm.mk k2 n2 s2 t2 l2 ∈ l1 := hf
  have hc' : c ∈ l2 := hc
  rw [modsB] at hx
  simp only [Bool.and_eq_true] at hx
  have e1 := List.all_eq_true.1 hx.2 _ hm'
  rw [modB] at e1
  simp only [Bool.and_eq_true] at e1
  have e2 := List.all_eq_true.1 e1.2 _ hf'
  rw [funB] at e2
  simp only [Bool.and_eq_true] at e2
  have e3 := of_decide_eq_true e2.1.1.2
  have e4 := clsB_all.1 e2.2 _ hc'
  have fc : fitsB c = true := fits_mem (fits_mem (fits_mem h hm') hf') hc'
  refine ⟨?_, e3⟩
  show clauseR c n2 = true
  unfold clauseR
  rw [fc, e4, decide_eq_true e3.1]
  rfl
end Go.Proofs.YtcallgoglnkkiaaGreatDoor
