/- Layer 7: are two trees the same? -/
import Derived.Test.YtcallgoglnkkiaaGreatDoorAstC
set_option linter.unusedVariables false
namespace Go.Proofs.YtcallgoglnkkiaaGreatDoor
open Go.RowKit

mutual
def eqT : Tm → Tm → Bool
  | .mk k n s t l, .mk k' n' s' t' l' => k == k' && n == n' && s.data.toList == s'.data.toList && t.data.toList == t'.data.toList && eqTs l l'
def eqTs : List Tm → List Tm → Bool
  | [], [] => true
  | x :: l, y :: m => eqT x y && eqTs l m
  | _, _ => false
end
theorem bytes_ext {a b : ByteArray} : a.data.toList = b.data.toList ↔ a = b := ⟨fun h => ByteArray.ext (Array.toList_inj.1 h), fun h => by rw [h]⟩
theorem eqTs_iff : ∀ (l m : List Tm), (∀ x ∈ l, ∀ y, eqT x y = true ↔ x = y) → (eqTs l m = true ↔ l = m)
  | [], [], _ => by simp [eqTs]
  | [], y :: m, _ => by simp [eqTs]
  | x :: l, [], _ => by simp [eqTs]
  | x :: l, y :: m, h => by
    have h1 := h x (by simp) y
    have h2 := eqTs_iff l m (fun z hz => h z (by simp [hz]))
    rw [eqTs, Bool.and_eq_true, h1, h2]
    simp
theorem eqT_iff (x : Tm) : ∀ y, eqT x y = true ↔ x = y := by
  induction x using Tm.ind with
  | h k n s t l ih =>
    intro y
    obtain ⟨k', n', s', t', l'⟩ := y
    have h := eqTs_iff l l' ih
    rw [eqT]
    simp only [Bool.and_eq_true, beq_iff_eq, h, bytes_ext, Tm.mk.injEq]
    constructor
    · rintro ⟨⟨⟨⟨a, b⟩, c⟩, d⟩, e⟩; exact ⟨a, b, c, d, e⟩
    · rintro ⟨a, b, c, d, e⟩; exact ⟨⟨⟨⟨a, b⟩, c⟩, d⟩, e⟩
/-- What Same answers. -/
def sameR (x y : Tm) : Bool := fitsB x && fitsB y && eqT x y
def SameC (E : World → Prop) : Prop := ∀ (x y : Tm) (u v : Value) (w : World), TmAt (· < w.heap.size) w x u → TmAt (· < w.heap.size) w y v → x.nodes ≤ 8200 → y.nodes ≤ 8200 → E w →
  Calls Tryz.prog 11 #[u, v] w fun e w' => e = .returned (.bool (sameR x y)) ∧ Below w.heap.size w w'
end Go.Proofs.YtcallgoglnkkiaaGreatDoor
