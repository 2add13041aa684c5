/- term.unroll: the heads of a term's conses, and the tail behind the last one. -/
import Derived.Test.YtgdkhmamjhdfdaaGreatDoorOwnT
import Derived.Test.YtgdkhmamjhdfdaaGreatDoorSuch
import Derived.LoopTactic
import Derived.LoopNIn
import Derived.StillTailTactics
import Derived.RegionTactic
import Derived.Outline
set_option linter.unusedVariables false
namespace Go.Proofs.YtgdkhmamjhdfdaaGreatDoor
open Go.RowKit

/-- Each node is such as a term may have. -/
def Valid (x : Tm) : Prop := ∀ y ∈ x.pre, okB y = true
theorem Valid.own {x : Tm} (h : Valid x) : okB x = true := h x (by cases x; simp [Tm.pre])
theorem Tm.pre_sub {y : Tm} {l : List Tm} (h : y ∈ l) : ∀ z ∈ y.pre, z ∈ Tm.pres l := by
  induction l with
  | nil => simp at h
  | cons a l ih =>
    intro z hz
    rw [Tm.pres]
    rcases List.mem_cons.1 h with rfl | h
    · exact List.mem_append_left _ hz
    · exact List.mem_append_right _ (ih h z hz)
theorem Valid.part {k n : Int} {s t : ByteArray} {l : List Tm} (h : Valid (.mk k n s t l)) {y : Tm} (hy : y ∈ l) : Valid y := fun z hz => h z (by rw [Tm.pre]; exact List.mem_cons_of_mem _ (Tm.pre_sub hy z hz))
theorem nodes_part {k n : Int} {s t : ByteArray} {l : List Tm} {y : Tm} (hy : y ∈ l) : y.nodes < (Tm.mk k n s t l).nodes := by
  unfold Tm.nodes
  rw [Tm.pre, List.length_cons]
  have : ∀ l : List Tm, y ∈ l → y.pre.length ≤ (Tm.pres l).length := by
    intro l
    induction l with
    | nil => intro h; simp at h
    | cons a l ih =>
      intro h
      rw [Tm.pres, List.length_append]
      rcases List.mem_cons.1 h with rfl | h
      · omega
      · have := ih h; omega
  have := this l hy
  omega

/-- What a valid node is, kind by kind. -/
theorem cons_two {n : Int} {s t : ByteArray} {l : List Tm} (h : okB (.mk 7 n s t l) = true) : ∃ a b, l = [a, b] := by
  unfold okB okN at h
  dsimp only [Tm.k, Tm.n, Tm.s, Tm.t, Tm.l] at h
  simp [ok_cons] at h
  match l, h with
  | [a, b], _ => exact ⟨a, b, rfl⟩
  | [], h => simp at h
  | [a], h => simp at h
  | a :: b :: c :: l, h => simp at h; omega

/-- From x over the tails of conses with those heads to z. -/
inductive Chain (x : Tm) : List Tm → Tm → Prop
  | nil : Chain x [] x
  | snoc {hs : List Tm} {n : Int} {s t : ByteArray} {h tl : Tm} : Chain x hs (.mk 7 n s t [h, tl]) → Chain x (hs ++ [h]) tl

theorem Chain.nodes {x : Tm} {hs : List Tm} {z : Tm} (h : Chain x hs z) : hs.length + z.nodes ≤ x.nodes := by
  induction h with
  | nil => simp
  | @snoc hs n s t a b _ ih => have := nodes_part (k := 7) (n := n) (s := s) (t := t) (l := [a, b]) (y := b) (by simp); simp; omega
theorem Chain.valid {x : Tm} {hs : List Tm} {z : Tm} (h : Chain x hs z) (hv : Valid x) : Valid z ∧ ∀ y ∈ hs, Valid y := by
  induction h with
  | nil => exact ⟨hv, fun y h => by simp at h⟩
  | @snoc hs n s t a b _ ih =>
    refine ⟨ih.1.part (by simp), fun y hy => ?_⟩
    rcases List.mem_append.1 hy with hy | hy
    · exact ih.2 y hy
    · simp at hy; subst hy; exact ih.1.part (by simp)

def lenOf (v : Value) : Nat := match v with | .slice _ n _ => n | _ => 0

/-- What unroll hands back. -/
def UnrollP (P : Nat → Prop) (x : Tm) (w : World) (e : Ending) (w' : World) : Prop :=
  ∃ A n cap tv hs z, e = .returned (.tuple #[.slice A n cap, tv]) ∧ Chain x hs z ∧ z.k ≠ 7 ∧ TRow (fun b => P b ∨ (w.heap.size ≤ b ∧ ∃ c fz, w'.heap[b]? = some (.cells c 27 fz))) w' A n cap hs ∧ TmAt P w' z tv ∧ Below w.heap.size w w'

end Go.Proofs.YtgdkhmamjhdfdaaGreatDoor
