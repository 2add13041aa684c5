/- The law ScanBlanks's walk, from the program's own contracts. -/
import Derived.Test.YtkaijnbefbggeaaDoorWScanBlanks
import Derived.Test.YtkaijnbefbggeaaDoorScanS
import Derived.Test.YtkaijnbefbggeaaDoorOpenI
set_option linter.unusedVariables false
namespace Go.Proofs.YtkaijnbefbggeaaDoor
open Go.RowKit

theorem sScanC : ScanC ScanE := fun s w hs hE => sScan_any s w hs hE
theorem sNextC : NextC ScanE := fun s a w hs hE => sNext_any s a w hs hE
theorem sBlankC : BlankC ScanE := fun s a w hs _ => (sBlank_any s a w hs).mono fun e w' h => ⟨h.1, h.2 ▸ Below.refl _ _⟩
theorem walk_ScanBlanks (a0 : ByteArray) (v1 : Value) (_w0 : a0.size ≤ maxLen) (w : World) (o1 : ∃ A n cap, v1 = .slice A n cap ∧ IRow w A n cap) (hS : ScanE w) :
    Calls Tryd.prog 4 #[.string a0, v1] w fun e w' => e = .returned (.bool true) ∧ Below w.heap.size w w' := by
  obtain ⟨A, n, cap, rfl, hr⟩ := o1
  exact scanBlanks_of (fun _ _ h b => h.under b) sScanC sNextC sBlankC a0 _w0 A n cap hr.1 w hr.2.2 hS
end Go.Proofs.YtkaijnbefbggeaaDoor
