/- A map from texts to bools that a call makes itself: a set of texts. -/
import Derived.Test.YtcallgoglnkkiaaGreatDoorMod
import Derived.MapKept
set_option linter.unusedVariables false
namespace Go.Proofs.YtcallgoglnkkiaaGreatDoor
open Go.RowKit

def entsB (L : List ByteArray) : Array MapEntry := (L.mapIdx (fun i s => (⟨.string s, .bool true, i⟩ : MapEntry))).toArray
theorem entsB_snoc (L : List ByteArray) (s : ByteArray) : entsB (L ++ [s]) = (entsB L).push ⟨.string s, .bool true, L.length⟩ := by
  simp [entsB, List.mapIdx_append]
theorem entsB_miss {L : List ByteArray} {s : ByteArray} (h : s ∉ L) : Instr.findNow .string (.string s) (entsB L).toList 0 = some none := by
  have hkey : MapKept.IsKey .string (.string s) := by simp [MapKept.IsKey]
  rcases MapKept.findNow_spec hkey (entsB L).toList 0 (fun x hx => by
      simp only [entsB, List.mem_mapIdx] at hx
      obtain ⟨i, hi, rfl⟩ := hx
      simp [MapKept.IsKey]) with ⟨h1, h2⟩ | ⟨j, e, h1, h2, h3⟩
  · exact h1
  · exfalso
    simp only [entsB, List.getElem?_mapIdx] at h2
    cases hl : L[j]? with
    | none => simp [hl] at h2
    | some t =>
      simp [hl] at h2
      subst h2
      simp at h3
      subst h3
      exact h (List.mem_of_getElem? hl)
theorem entsB_hit {L : List ByteArray} {s : ByteArray} (h : s ∈ L) : ∃ j, Instr.findNow .string (.string s) (entsB L).toList 0 = some (some (j, .bool true)) := by
  have hkey : MapKept.IsKey .string (.string s) := by simp [MapKept.IsKey]
  rcases MapKept.findNow_spec hkey (entsB L).toList 0 (fun x hx => by
      simp only [entsB, List.mem_mapIdx] at hx
      obtain ⟨i, hi, rfl⟩ := hx
      simp [MapKept.IsKey]) with ⟨h1, h2⟩ | ⟨j, e, h1, h2, h3⟩
  · exfalso
    obtain ⟨i, hi, e⟩ := List.mem_iff_getElem.1 h
    exact h2 ⟨.string s, .bool true, i⟩ (by simp only [entsB, List.mem_mapIdx]; exact ⟨i, hi, by rw [e]⟩) rfl
  · simp only [entsB, List.getElem?_mapIdx] at h2
    cases hl : L[j]? with
    | none => simp [hl] at h2
    | some t =>
      simp [hl] at h2
      subst h2
      exact ⟨j, by simpa using h1⟩
theorem look1_hit {P : Program} {t k e : TypeId} (ht : P.underlying t = some (.map k e)) (hk : P.underlying k = some .string) (w : World) (mb : Nat) (es : Array MapEntry) (c : Nat) (s : ByteArray) (i : Nat) (v : Value) (hb : w.heap[mb]? = some (.map es c))
    (hn : Instr.findNow .string (.string s) es.toList 0 = some (some (i, v))) :
    (Instr.lookup t (.map (some mb)) (.string s) false).run P w = .ok v w := by
  have hkey : MapKept.IsKey .string (.string s) := by simp [MapKept.IsKey]
  simp [Instr.lookup, run_underlying ht, MapKept.run_getObj_map hb, MapKept.run_checkKey hk hkey, MapKept.run_findKey hk hn, Result.andThen]
theorem look1_miss {P : Program} {t k e : TypeId} (ht : P.underlying t = some (.map k e)) (hk : P.underlying k = some .string) (w : World) (mb : Nat) (es : Array MapEntry) (c : Nat) (s : ByteArray) (z : Value) (hb : w.heap[mb]? = some (.map es c))
    (hz : ∀ w, (zeroValue e).run P w = .ok z w) (hn : Instr.findNow .string (.string s) es.toList 0 = some none) :
    (Instr.lookup t (.map (some mb)) (.string s) false).run P w = .ok z w := by
  have hkey : MapKept.IsKey .string (.string s) := by simp [MapKept.IsKey]
  simp [Instr.lookup, run_underlying ht, MapKept.run_getObj_map hb, MapKept.run_checkKey hk hkey, MapKept.run_findKey hk hn, hz, Result.andThen]
end Go.Proofs.YtcallgoglnkkiaaGreatDoor
