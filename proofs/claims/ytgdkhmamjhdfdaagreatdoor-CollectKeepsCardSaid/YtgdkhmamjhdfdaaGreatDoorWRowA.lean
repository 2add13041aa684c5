/- Rows of one word, of two. -/
import Derived.Test.YtgdkhmamjhdfdaaGreatDoorHeapN
set_option linter.unusedVariables false
namespace Go.Proofs.YtgdkhmamjhdfdaaGreatDoor
open Go.RowKit

/-- A row of one word, of two, that a call has just laid. -/
theorem wrow_one {w : World} {g : Nat} {c0 c1 c2 c3 c4 c5 c6 : Value} {T : TypeId} (h : w.heap[g]? = some (.cells #[c0, c1, c2, c3, c4, c5, c6] T (0, 0))) (q : AW) (ha : AWAt (fun b => b = g) w q (.agg #[c0, c1, c2, c3, c4, c5, c6])) :
    WRow (fun b => b = g) w (some ⟨g, 0, none⟩) 1 1 [q] := by
  refine ⟨rfl, Nat.le_refl _, fun j p hj => ?_⟩
  match j, hj with
  | 0, hj =>
    cases hj
    exact ⟨_, _, rfl, rfl, ⟨c0, c1, c2, c3, c4, c5, c6, rfl, cell_of_row (i := 0) h rfl, cell_of_row (i := 1) h rfl, cell_of_row (i := 2) h rfl, cell_of_row (i := 3) h rfl, cell_of_row (i := 4) h rfl, cell_of_row (i := 5) h rfl, cell_of_row (i := 6) h rfl⟩, ha⟩
  | j + 1, hj => simp at hj
theorem wrow_two {w : World} {g : Nat} {c0 c1 c2 c3 c4 c5 c6 d0 d1 d2 d3 d4 d5 d6 : Value} {T : TypeId} (h : w.heap[g]? = some (.cells #[c0, c1, c2, c3, c4, c5, c6, d0, d1, d2, d3, d4, d5, d6] T (0, 0))) (q r : AW) (ha : AWAt (fun b => b = g) w q (.agg #[c0, c1, c2, c3, c4, c5, c6])) (hc : AWAt (fun b => b = g) w r (.agg #[d0, d1, d2, d3, d4, d5, d6])) :
    WRow (fun b => b = g) w (some ⟨g, 0, none⟩) 2 2 [q, r] := by
  refine ⟨rfl, Nat.le_refl _, fun j p hj => ?_⟩
  match j, hj with
  | 0, hj =>
    cases hj
    exact ⟨_, _, rfl, rfl, ⟨c0, c1, c2, c3, c4, c5, c6, rfl, cell_of_row (i := 0) h rfl, cell_of_row (i := 1) h rfl, cell_of_row (i := 2) h rfl, cell_of_row (i := 3) h rfl, cell_of_row (i := 4) h rfl, cell_of_row (i := 5) h rfl, cell_of_row (i := 6) h rfl⟩, ha⟩
  | 1, hj =>
    cases hj
    exact ⟨_, _, rfl, rfl, ⟨d0, d1, d2, d3, d4, d5, d6, rfl, cell_of_row (i := 7) h rfl, cell_of_row (i := 8) h rfl, cell_of_row (i := 9) h rfl, cell_of_row (i := 10) h rfl, cell_of_row (i := 11) h rfl, cell_of_row (i := 12) h rfl, cell_of_row (i := 13) h rfl⟩, hc⟩
  | j + 2, hj => simp at hj
theorem aw_leaf (P : Nat → Prop) (w : World) (c : Bool) (a n : Int) (hn : -9223372036854775808 ≤ n ∧ n ≤ 9223372036854775807) : AWAt P w ⟨c, a, .mk 0 n ⟨#[]⟩ ⟨#[]⟩ []⟩ (.agg #[.bool c, .int .i64 a, .int .i8 0, .int .i64 n, .string ⟨#[]⟩, .string ⟨#[]⟩, .slice none 0 0]) :=
  ⟨0, n, _, _, none, 0, 0, rfl, leaf_at P w (by decide) hn (by show 0 ≤ maxLen; omega) (by show 0 ≤ maxLen; omega)⟩

def iW (n : Int) : Tm := .mk 0 n ⟨#[]⟩ ⟨#[]⟩ []
end Go.Proofs.YtgdkhmamjhdfdaaGreatDoor
