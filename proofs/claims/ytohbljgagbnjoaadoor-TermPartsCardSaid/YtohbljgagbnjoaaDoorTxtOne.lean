/- Terms of one text are one: the reader reads it as both. -/
import Derived.Test.YtohbljgagbnjoaaDoorRdRead
import Derived.Test.YtohbljgagbnjoaaDoorOrdPure
import Derived.Test.YtohbljgagbnjoaaDoorWakes03
set_option linter.unusedVariables false
namespace Go.Proofs.YtohbljgagbnjoaaDoor
open Go.RowKit

theorem txt_one {w : World} (hS : Spans w) (hp : PowTab w) {x y : Tm} (hx : Valid x) (hy : Valid y) (nx : x.nodes ≤ 256) (ny : y.nodes ≤ 256) (h : txt x = txt y) : x = y := by
  have hsz : (⟨(txt x).toArray⟩ : ByteArray).size ≤ 1099511627776 := by
    have := (txt_len x hx).1
    show (txt x).toArray.size ≤ _
    rw [List.size_toArray]; show x.tx.1.length ≤ _; omega
  have c1 := Read_ok x hx nx ⟨(txt x).toArray⟩ hsz (r := []) (by simp) good_nil w hS hp
  have c2 := Read_ok y hy ny ⟨(txt x).toArray⟩ hsz (r := []) (by simp [h]) good_nil w hS hp
  obtain ⟨v, w', ⟨tv, e1, h1, -⟩, ⟨tv', e2, h2, -⟩⟩ := both c1 c2 (fun e w' ⟨tv, he, _⟩ => ⟨_, he⟩) (fun e w' ⟨tv, he, _⟩ => ⟨_, he⟩)
  rw [e1] at e2
  injection e2 with e2
  injection e2 with e2
  simp only [Array.mk.injEq, List.cons.injEq] at e2
  obtain ⟨rfl, -⟩ := e2
  exact h1.one h2
end Go.Proofs.YtohbljgagbnjoaaDoor
