/- Maps with texts as keys that a call makes itself and asks once: what a store and a look-up do to the newest block. -/
import Derived.Test.YtcallgoglnkkiaaGreatDoorRows
import Derived.WalkKit
import Derived.MapKept
namespace Go.Proofs.YtcallgoglnkkiaaGreatDoor
open Go.RowKit

/-- A store under a key that is not there yet. -/
theorem run_put_last {P : Program} {t k e : TypeId} (ht : P.underlying t = some (.map k e)) (hk : P.underlying k = some .string) (w : World) (es : Array MapEntry) (c : Nat) (s : ByteArray) (v : Value)
    (hn : Instr.findNow .string (.string s) es.toList 0 = some none) :
    (Instr.mapUpdate t (.map (some w.heap.size)) (.string s) v).run P (w.alloc (.map es c)) = .ok () (w.alloc (.map (es.push ⟨.string s, v, c⟩) (c + 1))) := by
  have hb : (w.alloc (.map es c)).heap[w.heap.size]? = some (.map es c) := (MapKept.heap_alloc w _).1
  have hkey : MapKept.IsKey .string (.string s) := by simp [MapKept.IsKey]
  have hset : ({ w.alloc (.map es c) with heap := (w.alloc (.map es c)).heap.setIfInBounds w.heap.size (.map (es.push ⟨.string s, v, c⟩) (c + 1)) } : World) = w.alloc (.map (es.push ⟨.string s, v, c⟩) (c + 1)) := by
    have e : (w.alloc (.map es c)).heap = w.heap.push (.map es c) := rfl
    have e2 : ((w.heap.push (.map es c)).setIfInBounds w.heap.size (.map (es.push ⟨.string s, v, c⟩) (c + 1))) = w.heap.push (.map (es.push ⟨.string s, v, c⟩) (c + 1)) := by
      apply Array.ext_getElem?
      intro i
      simp only [Array.getElem?_setIfInBounds, Array.getElem?_push, Array.size_push]
      by_cases hi : i = w.heap.size
      · subst hi; simp
      · simp [hi, Ne.symm hi]
    rw [e, e2]; rfl
  simp [Instr.mapUpdate, run_underlying ht, MapKept.run_getObj_map hb, MapKept.run_checkKey hk hkey, MapKept.run_findKey hk hn, MapKept.run_setObj_map _ hb, Result.andThen]
  exact hset

/-- A look-up that finds. -/
theorem run_look_last {P : Program} {t k e : TypeId} (ht : P.underlying t = some (.map k e)) (hk : P.underlying k = some .string) (w : World) (es : Array MapEntry) (c : Nat) (s : ByteArray) (i : Nat) (v : Value)
    (hn : Instr.findNow .string (.string s) es.toList 0 = some (some (i, v))) :
    (Instr.lookup t (.map (some w.heap.size)) (.string s) true).run P (w.alloc (.map es c)) = .ok (.tuple #[v, .bool true]) (w.alloc (.map es c)) := by
  have hb : (w.alloc (.map es c)).heap[w.heap.size]? = some (.map es c) := (MapKept.heap_alloc w _).1
  have hkey : MapKept.IsKey .string (.string s) := by simp [MapKept.IsKey]
  simp [Instr.lookup, run_underlying ht, MapKept.run_getObj_map hb, MapKept.run_checkKey hk hkey, MapKept.run_findKey hk hn, Result.andThen]

/-- A look-up that finds nothing. -/
theorem run_miss_last {P : Program} {t k e : TypeId} (ht : P.underlying t = some (.map k e)) (hk : P.underlying k = some .string) (w : World) (es : Array MapEntry) (c : Nat) (s : ByteArray) (z : Value)
    (hz : ∀ w, (zeroValue e).run P w = .ok z w) (hn : Instr.findNow .string (.string s) es.toList 0 = some none) :
    (Instr.lookup t (.map (some w.heap.size)) (.string s) true).run P (w.alloc (.map es c)) = .ok (.tuple #[z, .bool false]) (w.alloc (.map es c)) := by
  have hb : (w.alloc (.map es c)).heap[w.heap.size]? = some (.map es c) := (MapKept.heap_alloc w _).1
  have hkey : MapKept.IsKey .string (.string s) := by simp [MapKept.IsKey]
  simp [Instr.lookup, run_underlying ht, MapKept.run_getObj_map hb, MapKept.run_checkKey hk hkey, MapKept.run_findKey hk hn, hz, Result.andThen]

end Go.Proofs.YtcallgoglnkkiaaGreatDoor
