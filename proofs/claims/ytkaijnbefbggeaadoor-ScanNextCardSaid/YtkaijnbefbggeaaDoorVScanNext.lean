/- The law ScanNext's walk, from the program's own contracts. -/
import Derived.Test.YtkaijnbefbggeaaDoorWScanNext
import Derived.Test.YtkaijnbefbggeaaDoorScanS
set_option linter.unusedVariables false
namespace Go.Proofs.YtkaijnbefbggeaaDoor
open Go.RowKit

theorem sScanC : ScanC ScanE := fun s w hs hE => sScan_any s w hs hE
theorem sNextC : NextC ScanE := fun s a w hs hE => sNext_any s a w hs hE
theorem sBlankC : BlankC ScanE := fun s a w hs _ => (sBlank_any s a w hs).mono fun e w' h => ⟨h.1, h.2 ▸ Below.refl _ _⟩
theorem walk_ScanNext (a0 : ByteArray) (a1 : Int) (_w0 : a0.size ≤ maxLen) (_w1 : (Lit.int .i64 a1).wf = true) (w : World) (hS : ScanE w) :
    Calls Tryd.prog 3 #[.string a0, .int .i64 a1] w fun e w' => e = .returned (.bool true) ∧ Below w.heap.size w w' := scanNext_of (fun _ _ h b => h.under b) sScanC sNextC sBlankC a0 a1 w hS
end Go.Proofs.YtkaijnbefbggeaaDoor
