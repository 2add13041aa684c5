/- Layer 7: what the program's functions over trees are to answer, as contracts. -/
import Derived.Test.YtcallgoglnkkiaaGreatDoorAstQ
import Derived.Test.YtcallgoglnkkiaaGreatDoorNdT
import Derived.Deep.DeepCutAuto
import Derived.Tactics2
set_option linter.unusedVariables false
namespace Go.Proofs.YtcallgoglnkkiaaGreatDoor
open Go.RowKit

/-- What Check answers. -/
def checkR (x : Tm) : Int := if fitsB x = true ∧ modsB x = true then 0 else 70
theorem checkR_or (x : Tm) : (checkR x = 0 ∧ fitsB x = true ∧ modsB x = true) ∨ (checkR x = 70 ∧ ¬ (fitsB x = true ∧ modsB x = true)) := by
  unfold checkR
  by_cases h : fitsB x = true ∧ modsB x = true
  · rw [if_pos h]; exact .inl ⟨rfl, h⟩
  · rw [if_neg h]; exact .inr ⟨rfl, h⟩
/-- A function that tells whether a tree may be something. -/
def BoolC (E : World → Prop) (f : Nat) (p : Tm → Bool) : Prop := ∀ (x : Tm) (v : Value) (w : World), TmAt (· < w.heap.size) w x v → x.nodes ≤ 8200 → E w →
  Calls Tryz.prog f #[v] w fun e w' => e = .returned (.bool (fitsB x && p x)) ∧ Below w.heap.size w w'
def CheckC (E : World → Prop) : Prop := ∀ (x : Tm) (v : Value) (w : World), TmAt (· < w.heap.size) w x v → x.nodes ≤ 8200 → E w →
  Calls Tryz.prog 8 #[v] w fun e w' => e = .returned (.int .i64 (checkR x)) ∧ Below w.heap.size w w'
def ClauseC (E : World → Prop) : Prop := ∀ (x : Tm) (m : Int) (v : Value) (w : World), TmAt (· < w.heap.size) w x v → x.nodes ≤ 8200 → E w →
  Calls Tryz.prog 17 #[v, .int .i64 m] w fun e w' => e = .returned (.bool (clauseR x m)) ∧ Below w.heap.size w w'
def WakesC (E : World → Prop) : Prop := ∀ w : World, E w → Calls Tryz.prog 9 #[] w fun e w' => e = .returned (.bool true) ∧ Below w.heap.size w w'

/-- A tree's box, as it was laid; what stands else. -/
structure NBx (E : World → Prop) (w V : World) (g : Nat) (c : Array Value) : Prop where
  below : Below w.heap.size w V
  box : V.heap[g]? = some (.cells c 25 (0, 0))
  env : E V
theorem NBx.under {E : World → Prop} (hE : ∀ w w', E w → Below w.heap.size w w' → E w') {w V V' : World} {g : Nat} {c : Array Value} (h : NBx E w V g c) (b : Below V.heap.size V V') : NBx E w V' g c :=
  ⟨h.below.trans (b.mono h.below.size), (b.block _ (heap_lt h.box)).trans h.box, hE _ _ h.env b⟩
theorem nbx_of {E : World → Prop} (hE : ∀ w w', E w → Below w.heap.size w w' → E w') {w : World} (hw : E w) (c : Array Value) : NBx E w (w.alloc (.cells c 25)) w.heap.size c :=
  ⟨(Below.refl _ _).alloc (Nat.le_refl _) _, block_alloc _ _, hE _ _ hw ((Below.refl _ _).alloc (Nat.le_refl _) _)⟩
theorem TmAt.laterN {w V : World} {x : Tm} {v : Value} (h : TmAt (· < w.heap.size) w x v) (hb : Below w.heap.size w V) : TmAt (· < V.heap.size) V x v :=
  h.keep (fun b hb' => hb.block b hb') (fun b hb' => Nat.lt_of_lt_of_le hb' hb.size)
theorem nodes_le_mem {k n : Int} {s t : ByteArray} {l : List Tm} {x : Tm} (hx : x ∈ l) : x.nodes ≤ (Tm.mk k n s t l).nodes := by
  rw [Tm.nodes_mk]; exact Nat.le_succ_of_le (Tm.nodes_mem hx)
end Go.Proofs.YtcallgoglnkkiaaGreatDoor
