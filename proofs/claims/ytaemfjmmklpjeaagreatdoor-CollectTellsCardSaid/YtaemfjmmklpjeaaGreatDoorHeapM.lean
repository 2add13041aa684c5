/- Heaps: a plain model, and how memory holds it. -/
import Derived.Test.YtaemfjmmklpjeaaGreatDoorHeapLeaf
set_option linter.unusedVariables false
namespace Go.Proofs.YtaemfjmmklpjeaaGreatDoor
open Go.RowKit

inductive HW where
  | ref (a : Nat)
  | leaf (x : Tm)
def HW.cells : HW → List Value
  | .ref a => [.bool true, .int .i64 a, .int .i8 0, .int .i64 0, .string ⟨#[]⟩, .string ⟨#[]⟩, .slice none 0 0]
  | .leaf x => [.bool false, .int .i64 0, .int .i8 x.k, .int .i64 x.n, .string x.s, .string x.t, .slice none 0 0]
structure HC where
  k : Int
  size : Nat
  L : List HW
def wsize (cs : List HC) : HW → Nat
  | .ref a => match cs[a]? with | some c => c.size | none => 1
  | .leaf _ => 1
def wsum (cs : List HC) : List HW → Nat
  | [] => 1
  | x :: l => wsize cs x + wsum cs l
def wgood (n : Nat) : HW → Prop
  | .ref a => a < n
  | .leaf x => leafE x = 0
structure HGood (cs : List HC) : Prop where
  kind : ∀ (n : Nat) (c : HC), cs[n]? = some c → c.k = 5 ∨ (c.k = 7 ∧ c.L.length = 2)
  low : ∀ (n : Nat) (c : HC), cs[n]? = some c → ∀ x ∈ c.L, wgood n x
  size : ∀ (n : Nat) (c : HC), cs[n]? = some c → c.size = wsum cs c.L
  most : ∀ (n : Nat) (c : HC), cs[n]? = some c → c.size ≤ 256
  len : cs.length ≤ 1048576

def WordsAt (w : World) (A : Option Addr) (L : List HW) : Prop :=
  ∀ (j : Nat) (x : HW), L[j]? = some x → ∃ g o, A = some ⟨g, o, none⟩ ∧ ∀ (i : Nat) (u : Value), x.cells[i]? = some u → w.cell? ⟨g, o + j * 7 + i, none⟩ = some u

def rowC : List HC → List Value → List Value
  | c :: cs, v :: vs => .int .i8 c.k :: .int .i64 c.size :: v :: rowC cs vs
  | _, _ => []
theorem rowC_at : ∀ {cs : List HC} {vs : List Value} {n : Nat} {c : HC} {v : Value}, cs[n]? = some c → vs[n]? = some v → (rowC cs vs)[n * 3]? = some (.int .i8 c.k) ∧ (rowC cs vs)[n * 3 + 1]? = some (.int .i64 c.size) ∧ (rowC cs vs)[n * 3 + 2]? = some v
  | c :: cs, v :: vs, 0, _, _, hc, hv => by
    simp at hc hv; subst hc hv; simp [rowC]
  | c :: cs, v :: vs, n + 1, _, _, hc, hv => by
    have := rowC_at (cs := cs) (vs := vs) (n := n) (by simpa using hc) (by simpa using hv)
    rw [show (n + 1) * 3 = n * 3 + 3 by omega, show n * 3 + 3 + 1 = n * 3 + 1 + 3 by omega, show n * 3 + 3 + 2 = n * 3 + 2 + 3 by omega]
    simpa [rowC] using this
theorem rowC_snoc : ∀ {cs : List HC} {vs : List Value} (c : HC) (v : Value), cs.length = vs.length → rowC (cs ++ [c]) (vs ++ [v]) = rowC cs vs ++ [.int .i8 c.k, .int .i64 c.size, v]
  | [], [], c, v, _ => rfl
  | a :: cs, b :: vs, c, v, h => by have := rowC_snoc (cs := cs) (vs := vs) c v (by simpa using h); simp [rowC, this]

structure HeapCore (base : Nat) (w : World) (hb : Nat) (cs : List HC) (CS RM : Value) : Prop where
  row : ∃ vs : List Value, vs.length = cs.length ∧ w.ownsRow base 62 3 CS cs.length (rowC cs vs) ∧
    ∀ (n : Nat) (c : HC), cs[n]? = some c → ∃ A, vs[n]? = some (.slice A c.L.length c.L.length) ∧ WordsAt w A c.L ∧
      (∀ g o, A = some ⟨g, o, none⟩ → c.L ≠ [] → base ≤ g ∧ g ≠ hb ∧ CS.ownBlock ≠ some g ∧ ∀ ro rn, RM = .slice (some ⟨g, ro, none⟩) rn rn → 0 < rn → o + c.L.length * 7 ≤ ro)
  room : ∃ A rn, RM = .slice A rn rn ∧ (0 < rn → ∃ g o cur, A = some ⟨g, o, none⟩ ∧ base ≤ g ∧ g ≠ hb ∧ CS.ownBlock ≠ some g ∧ w.heap[g]? = some (.cells cur 51 (0, 0)) ∧ o + rn * 7 ≤ cur.size)
  apart : CS.ownBlock ≠ some hb
structure HeapAt (base : Nat) (w : World) (hb : Nat) (cs : List HC) (ws : Nat) (CS RM : Value) : Prop where
  low : base ≤ hb
  box : w.heap[hb]? = some (.cells #[CS, .int .i64 ws, RM] 94 (0, 0))
  core : HeapCore base w hb cs CS RM

theorem HeapAt.shape {base : Nat} {w : World} {hb : Nat} {cs : List HC} {ws : Nat} {CS RM : Value} (h : HeapAt base w hb cs ws CS RM) : ∃ A cap, CS = .slice A cs.length cap := by
  obtain ⟨vs, _, ho, _⟩ := h.core.row
  rcases ho.2 with ⟨rfl, hn⟩ | ⟨g, cap', cur, rfl, _⟩
  · exact ⟨none, 0, by rw [hn]⟩
  · exact ⟨_, _, rfl⟩
theorem HeapAt.cell {base : Nat} {w : World} {hb : Nat} {cs : List HC} {ws : Nat} {CS RM : Value} (h : HeapAt base w hb cs ws CS RM) {n : Nat} {c : HC} (hc : cs[n]? = some c) :
    ∃ g cap A, CS = .slice (some ⟨g, 0, none⟩) cs.length cap ∧ w.cell? ⟨g, n * 3, none⟩ = some (.int .i8 c.k) ∧ w.cell? ⟨g, n * 3 + 1, none⟩ = some (.int .i64 c.size) ∧ w.cell? ⟨g, n * 3 + 2, none⟩ = some (.slice A c.L.length c.L.length) ∧ WordsAt w A c.L := by
  obtain ⟨vs, hl, ho, hp⟩ := h.core.row
  obtain ⟨A, hv, hw, -⟩ := hp n c hc
  obtain ⟨h0, h1, h2⟩ := rowC_at hc hv
  have hn := (List.getElem?_eq_some_iff.1 hc).1
  have hown := ho
  rcases ho.2 with ⟨_, hz⟩ | ⟨g, cap, cur, rfl, _⟩
  · omega
  · have at_ : ∀ i u, (rowC cs vs)[i]? = some u → w.cell? ⟨g, i, none⟩ = some u := by
      intro i u hi
      have := hown.cells (g := g) rfl i u hi
      rwa [show (⟨g, 0, none⟩ : Addr).add i = ⟨g, i, none⟩ by unfold Addr.add; split <;> simp_all] at this
    exact ⟨g, cap, A, rfl, at_ _ _ h0, at_ _ _ h1, at_ _ _ h2, hw⟩
end Go.Proofs.YtaemfjmmklpjeaaGreatDoor
