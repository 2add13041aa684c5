/- Contract of ints.Do: for any text and any two numbers. -/
import Derived.Test.YtcallgoglnkkiaaGreatDoorInts
namespace Go.Proofs.YtcallgoglnkkiaaGreatDoor
open Go.RowKit

theorem zero_op (w : World) : (zeroValue 133).run Tryz.prog w = .ok .nilFunc w := by kernel_rfl

theorem look_plus (w : World) : Sem.run Tryz.prog (Instr.lookup 135 (.map (some w.heap.size)) (.string ⟨#[43]⟩) true) (w.alloc (.map (opTab 5) 5)) = .ok (.tuple #[.func (.func 138) #[] #[], .bool true]) (w.alloc (.map (opTab 5) 5)) :=
  run_look_last Tryz.underlying135 Tryz.underlying9 w (opTab 5) 5 _ 0 _ rfl

theorem look_minus (w : World) : Sem.run Tryz.prog (Instr.lookup 135 (.map (some w.heap.size)) (.string ⟨#[45]⟩) true) (w.alloc (.map (opTab 5) 5)) = .ok (.tuple #[.func (.func 139) #[] #[], .bool true]) (w.alloc (.map (opTab 5) 5)) :=
  run_look_last Tryz.underlying135 Tryz.underlying9 w (opTab 5) 5 _ 1 _ rfl

theorem look_times (w : World) : Sem.run Tryz.prog (Instr.lookup 135 (.map (some w.heap.size)) (.string ⟨#[42]⟩) true) (w.alloc (.map (opTab 5) 5)) = .ok (.tuple #[.func (.func 140) #[] #[], .bool true]) (w.alloc (.map (opTab 5) 5)) :=
  run_look_last Tryz.underlying135 Tryz.underlying9 w (opTab 5) 5 _ 2 _ rfl

theorem look_quotient (w : World) : Sem.run Tryz.prog (Instr.lookup 135 (.map (some w.heap.size)) (.string ⟨#[100, 105, 118]⟩) true) (w.alloc (.map (opTab 5) 5)) = .ok (.tuple #[.func (.func 141) #[] #[], .bool true]) (w.alloc (.map (opTab 5) 5)) :=
  run_look_last Tryz.underlying135 Tryz.underlying9 w (opTab 5) 5 _ 3 _ rfl

theorem look_rest (w : World) : Sem.run Tryz.prog (Instr.lookup 135 (.map (some w.heap.size)) (.string ⟨#[114, 101, 109]⟩) true) (w.alloc (.map (opTab 5) 5)) = .ok (.tuple #[.func (.func 142) #[] #[], .bool true]) (w.alloc (.map (opTab 5) 5)) :=
  run_look_last Tryz.underlying135 Tryz.underlying9 w (opTab 5) 5 _ 4 _ rfl

/-- Is it none of the five? -/
theorem miss_op {s : ByteArray} (h1 : ¬ s = sPlus) (h2 : ¬ s = sMinus) (h3 : ¬ s = sTimes) (h4 : ¬ s = sDiv) (h5 : ¬ s = sRem) : Instr.findNow .string (.string s) (opTab 5).toList 0 = some none := by
  have f : ∀ t : ByteArray, ¬ s = t → (s == t) = false := fun t h => by
    cases e : s == t
    · rfl
    · exact absurd ((MapKept.bytes_beq s t).1 e) h
  have e : (opTab 5).toList = [⟨.string sPlus, .func (.func 138) #[] #[], 0⟩, ⟨.string sMinus, .func (.func 139) #[] #[], 1⟩, ⟨.string sTimes, .func (.func 140) #[] #[], 2⟩,
    ⟨.string sDiv, .func (.func 141) #[] #[], 3⟩, ⟨.string sRem, .func (.func 142) #[] #[], 4⟩] := rfl
  rw [e]
  simp [Instr.findNow, Instr.sameNow, f _ h1, f _ h2, f _ h3, f _ h4, f _ h5]

theorem wrap_in {n : Int} (h1 : -9223372036854775808 ≤ n) (h2 : n ≤ 9223372036854775807) : wrap64 n = n := by unfold wrap64; omega

end Go.Proofs.YtcallgoglnkkiaaGreatDoor
