/- The law ScanJoin's walk, from the program's own contracts. -/
import Derived.Test.YtkaijnbefbggeaaDoorWScanJoin
import Derived.Test.YtkaijnbefbggeaaDoorScanS
set_option linter.unusedVariables false
namespace Go.Proofs.YtkaijnbefbggeaaDoor
open Go.RowKit

theorem sScanC : ScanC ScanE := fun s w hs hE => sScan_any s w hs hE
theorem sNextC : NextC ScanE := fun s a w hs hE => sNext_any s a w hs hE
theorem sBlankC : BlankC ScanE := fun s a w hs _ => (sBlank_any s a w hs).mono fun e w' h => ⟨h.1, h.2 ▸ Below.refl _ _⟩
theorem walk_ScanJoin (a0 a1 : ByteArray) (_w0 : a0.size ≤ maxLen) (_w1 : a1.size ≤ maxLen) (w : World) (hS : ScanE w) :
    Calls Tryd.prog 5 #[.string a0, .string a1] w fun e w' => e = .returned (.bool true) ∧ Below w.heap.size w w' := scanJoin_of (fun _ _ h b => h.under b) sScanC a0 a1 _w0 _w1 w hS
end Go.Proofs.YtkaijnbefbggeaaDoor
