/- An argument that is a row of ints, opened. -/
import Derived.Test.YtkaijnbefbggeaaDoorBase
import Derived.Test.YtkaijnbefbggeaaDoorMod
import Derived.ProofKit
import Derived.Deep.Slices
import Derived.Deep.Fields
import Derived.ChangeSame
import Derived.Below
set_option linter.unusedVariables false
namespace Go.Proofs.YtkaijnbefbggeaaDoor
open Go.RowKit Go.ChangeShapes Go.WideShapes Go.Deep

theorem tcells_int0 : Tryd.prog.cellsOf 3 = 1 := by kernel_rfl

/-- A slice value that holds ints. -/
def IRow (W : World) (A : Option Addr) (n cap : Nat) : Prop := n ≤ maxLen ∧ n ≤ cap ∧ ∀ i, i < n → ∃ bd m, A = some bd ∧ bd.block < W.heap.size ∧ W.cell? (bd.add i) = some (.int .i64 m) ∧ -9223372036854775808 ≤ m ∧ m ≤ 9223372036854775807

set_option maxRecDepth 100000 in
theorem open_irow {H : Type} {enc : TypeId × Value → H} {W : World} {base : Nat} {v : Value} {d : DataW H} {p : List MemPlace} (hv : Value.okWide Tryd.prog W .any base 33 v) (h : DataW.Trod enc Tryd.prog W 0 (fun _ => true) true 33 v d p) : ∃ A n cap, v = .slice A n cap ∧ IRow W A n cap := by
  obtain ⟨a0, len0, cap0, rfl⟩ := okWide_slice Tryd.underlying33 hv
  obtain ⟨fuel, hf⟩ := h
  simp [Value.cells] at hf
  rcases DataW.trod_slice Tryd.underlying33 hf with ⟨hcs, _⟩ | ⟨a, len, cap, elems, rest, n, hfu, hcs, _, hb, hl, hm, hlen, hel, _, _⟩
  · simp at hcs
    obtain ⟨rfl, rfl, rfl⟩ := hcs
    exact ⟨none, 0, 0, rfl, Nat.zero_le _, Nat.le_refl _, fun i hi => by omega⟩
  · simp at hcs
    obtain ⟨rfl, rfl, rfl⟩ := hcs
    rw [tcells_int0] at hel
    refine ⟨some a, len0, cap0, rfl, Nat.le_trans hl hm, hl, fun i hi => ?_⟩
    have h1 := hel i hi
    rw [List.getElem?_eq_getElem (by omega)] at h1
    obtain ⟨cs, hc, ht⟩ := Option.bind_eq_some_iff.1 h1
    obtain ⟨m, e0, _, hm0⟩ := DataW.trod_int Tryd.underlying3 ht
    subst e0
    obtain ⟨_, hcl, hat⟩ := World.cells?_some hc
    have e0 := hat 0 (by decide)
    rw [Nat.mul_one] at e0
    have e1 : (a.add i).add 0 = a.add i := by simp [Addr.add]
    rw [e1] at e0
    have hlt := World.block_lt_of_cell? W _ (e0.trans rfl)
    rw [add_block] at hlt
    unfold Lit.wf at hm0
    simp only [Bool.and_eq_true, decide_eq_true_eq] at hm0
    exact ⟨a, m, rfl, hlt, e0, hm0.1, hm0.2⟩
end Go.Proofs.YtkaijnbefbggeaaDoor
