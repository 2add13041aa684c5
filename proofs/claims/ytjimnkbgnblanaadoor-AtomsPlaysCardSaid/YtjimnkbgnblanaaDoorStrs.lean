/- An argument that is a slice of texts, opened. -/
import Derived.Test.YtjimnkbgnblanaaDoorRows
import Derived.ProofKit
import Derived.SliceStrings
import Derived.Below
set_option linter.unusedVariables false
namespace Go.Proofs.YtjimnkbgnblanaaDoor
open Go.RowKit Go.ChangeShapes Go.WideShapes

/-- The value v is a slice that holds texts; all lie below the heap's end. -/
def StrsAt (w : World) (v : Value) : Prop :=
  ∃ A n cap, ∃ ss : List ByteArray, v = .slice A n cap ∧ ss.length = n ∧ n ≤ maxLen ∧ ∀ k s, ss[k]? = some s → s.size ≤ maxLen ∧ ∃ ad, A = some ad ∧ ad.block < w.heap.size ∧ w.cell? (ad.add k) = some (.string s)

theorem cells_str : Tryd.prog.cellsOf 9 = 1 := by kernel_rfl

theorem add_block (a : Addr) (n : Nat) : (a.add n).block = a.block := by unfold Addr.add; split <;> rfl

theorem open_strs {H : Type} {enc : TypeId × Value → H} {W : World} {base : Nat} {v : Value} {d : DataW H} {p : List MemPlace} (hv : Value.okWide Tryd.prog W .any base 42 v) (h : DataW.Trod enc Tryd.prog W 0 (fun _ => true) true 42 v d p) : StrsAt W v := by
  obtain ⟨a0, len, cap, rfl⟩ := okWide_slice Tryd.underlying42 hv
  obtain ⟨fuel, hf⟩ := h
  rcases open_strings Tryd.underlying42 Tryd.underlying9 cells_str hf with ⟨hcs, _⟩ | ⟨a, len', cap', ss, hcs, _, hl, hm, hz, _, hcell, hsz⟩
  · simp [Value.cells] at hcs
    obtain ⟨rfl, rfl, rfl⟩ := hcs
    exact ⟨none, 0, 0, [], rfl, rfl, Nat.zero_le _, fun k s h => by simp at h⟩
  · simp [Value.cells] at hcs
    obtain ⟨rfl, rfl, rfl⟩ := hcs
    simp at hz
    refine ⟨some a, len, cap, ss.take len, rfl, by rw [List.length_take]; omega, by omega, fun k s hk => ?_⟩
    rw [List.getElem?_take] at hk
    split at hk
    · rename_i hkl
      have hks : k < ss.length := by omega
      have hc := hcell k hks
      have e : ss.getD k ByteArray.empty = s := by rw [List.getD_eq_getElem?_getD, hk]; rfl
      rw [e] at hc
      refine ⟨hsz s (List.mem_of_getElem? hk), a, rfl, ?_, hc⟩
      have := World.block_lt_of_cell? W _ hc
      rw [add_block] at this
      exact this
    · cases hk
end Go.Proofs.YtjimnkbgnblanaaDoor
