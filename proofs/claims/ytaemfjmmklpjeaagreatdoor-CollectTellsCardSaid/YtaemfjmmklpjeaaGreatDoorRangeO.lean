/- A range over a function whose iterator keeps a state in cells of its own, and whose rounds turn blocks made behind the iterator's beginning (rows that grow): 'Own k A': block k is the iterator's at A; rounds leave those be, the iterator turns no other. -/
import Derived.Test.YtaemfjmmklpjeaaGreatDoorMod
import Derived.Test.YtaemfjmmklpjeaaGreatDoorRange
set_option linter.unusedVariables false
namespace Go.Proofs.YtaemfjmmklpjeaaGreatDoor
open Go.RowKit

structure KO (Own : Nat → World → Prop) (n₀ : Nat) (A B : World) : Prop where
  size : A.heap.size ≤ B.heap.size
  low : ∀ k, k < n₀ → B.heap[k]? = A.heap[k]?
  own : ∀ k, Own k A → B.heap[k]? = A.heap[k]? ∧ Own k B
theorem KO.trans {Own : Nat → World → Prop} {n₀ : Nat} {A B C : World} (h : KO Own n₀ A B) (g : KO Own n₀ B C) : KO Own n₀ A C :=
  ⟨Nat.le_trans h.size g.size, fun k hk => (g.low k hk).trans (h.low k hk), fun k hk => ⟨(g.own k (h.own k hk).2).1.trans (h.own k hk).1, (g.own k (h.own k hk).2).2⟩⟩

def roundO {α : Type} (KB : World → World → Prop) (I : List α → World → Prop) (Ix : Code → List α → World → Prop) (xs : List α) (W : World) : Exit → Act → World → Prop
  | .normal, _, W' => KB W W' ∧ I xs W'
  | .ret, _, W' => KB W W' ∧ Ix .ret xs W'
  | .exit id, _, W' => KB W W' ∧ Ix (.exit id) xs W'
  | .goto t, _, W' => KB W W' ∧ Ix (.goto t) xs W'
  | .panic _, _, _ => False
  | .outgrown, _, _ => False
structure KB (Own : Nat → World → Prop) (n₀ B : Nat) (A C : World) : Prop where
  ko : KO Own n₀ A C
  loop_ : C.heap[B + 1]? = A.heap[B + 1]?
  dfr : C.heap[B]? = A.heap[B]?

end Go.Proofs.YtaemfjmmklpjeaaGreatDoor
