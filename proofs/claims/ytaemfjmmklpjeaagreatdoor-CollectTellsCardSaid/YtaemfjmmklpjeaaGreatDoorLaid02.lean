/- What the rows' condition on the program's variables gives the walks: the table of stretches. -/
-- LAIDS: [("pleach/atoms.spans", Rows.laid_pleach_atoms_spans)]
import Derived.Test.YtaemfjmmklpjeaaGreatDoorAtomsPrefix
import Derived.ProofKit
import Derived.LaidMore
import Derived.OpenShut
import Derived.Stop.Joined
set_option linter.unusedVariables false
namespace Go.Proofs.YtaemfjmmklpjeaaGreatDoor
open Go.ChangeShapes Go.WideShapes Go.ChangeAt Go.RowKit

theorem gSpans : Tryz.prog.globalNamed "pleach/atoms.spans" = some 0 := by kernel_rfl
theorem tSpans : (Tryz.prog.globals[0]?).map (·.type) = some 177 := by kernel_rfl

theorem door_met (os : Os) (args : Array Value) : laidMetH Tryz.prog [("pleach/atoms.spans", Rows.laid_pleach_atoms_spans)] ((World.doorLaid Tryz.prog 400 os).forCall (fun _ _ => 0) ⟨#[], args, []⟩).memory :=
  laidMetH_of_parts3 (fuel := 8) (laidMet_of_run' 8 (by kernel_rfl) (by kernel_rfl)) (by kernel_rfl) (by kernel_rfl)

set_option maxRecDepth 100000 in
theorem span_cells {H : Type} {enc : TypeId × Value → H} {W : World} {base : Nat} {sp : Nat → Bool} {held : Bool} {n : Nat} {cs : List Value} {x : DataW H × List MemPlace} {a b c : Int}
    (h : DataW.trod enc Tryz.prog W base sp held n 176 cs = some x) (hx : x.1 = .agg [.lit (.int .u8 a), .lit (.int .u8 b), .lit (.int .u8 c)]) : cs = [.int .u8 a, .int .u8 b, .int .u8 c] := by
  obtain ⟨xs, m, rfl, rfl, hlen, hn, hf⟩ := DataW.trod_struct Tryz.underlying176 h
  have c3 : Tryz.prog.cellsOf 176 = 3 := by kernel_rfl
  have c1 : Tryz.prog.cellsOf 5 = 1 := by kernel_rfl
  have ck : Tryz.prog.cellsOf 169 = 1 := by kernel_rfl
  rw [c3] at hlen
  match cs, hlen with
  | [u, v, z], _ =>
    have f0 : DataW.trod enc Tryz.prog W base sp held m 5 (([u, v, z].drop 0).take (Tryz.prog.cellsOf 5)) = xs[0]? := hf 0 _ rfl
    have f1 : DataW.trod enc Tryz.prog W base sp held m 5 (([u, v, z].drop 1).take (Tryz.prog.cellsOf 5)) = xs[1]? := hf 1 _ rfl
    have f2 : DataW.trod enc Tryz.prog W base sp held m 169 (([u, v, z].drop 2).take (Tryz.prog.cellsOf 169)) = xs[2]? := hf 2 _ rfl

    rw [c1] at f0 f1
    rw [ck] at f2
    match xs, hn with
    | [x0, x1, x2], _ =>
      simp at f0 f1 f2 hx
      obtain ⟨k0, e0, y0, _⟩ := DataW.trod_int Tryz.underlying5 f0
      obtain ⟨k1, e1, y1, _⟩ := DataW.trod_int Tryz.underlying5 f1
      obtain ⟨k2, e2, y2, _⟩ := DataW.trod_int Tryz.underlying169 f2
      subst y0 y1 y2
      simp at e0 e1 e2 hx
      obtain ⟨rfl, rfl, rfl⟩ := hx
      rw [e0, e1, e2]

set_option maxRecDepth 100000 in
theorem of_laid {W : World} (h : laidMetH Tryz.prog [("pleach/atoms.spans", Rows.laid_pleach_atoms_spans)] W) : Spans W := by
  rw [MakeChecks.laidMetH_plain _ _ _ (by kernel_rfl)] at h
  obtain ⟨ps, ⟨g0, t0, cs0, f0, p0, q0, hg0, ht0, hv0, hd0, _, _⟩, _, _⟩ := h
  obtain rfl := Option.some.inj (gSpans.symm.trans hg0)
  obtain rfl := Option.some.inj (tSpans.symm.trans ht0)
  obtain ⟨xs, m, rfl, hx, hlen, hn, hel⟩ := DataW.trod_array Tryz.underlying177 hd0
  have c3 : Tryz.prog.cellsOf 176 = 3 := by kernel_rfl
  have c12 : Tryz.prog.cellsOf 177 = 12 := by kernel_rfl
  rw [c12] at hlen
  rw [c3] at hel
  have e0 := hel 0 (by decide)
  have e1 := hel 1 (by decide)
  have e2 := hel 2 (by decide)
  have e3 := hel 3 (by decide)
  match xs, hn with
  | [x0, x1, x2, x3], _ =>
    simp [Rows.laid_pleach_atoms_spans] at hx
    obtain ⟨⟨h0, h1, h2, h3⟩, _⟩ := hx
    have s0 := span_cells (e0.trans rfl) h0.symm
    have s1 := span_cells (e1.trans rfl) h1.symm
    have s2 := span_cells (e2.trans rfl) h2.symm
    have s3 := span_cells (e3.trans rfl) h3.symm
    have hcs : cs0 = spansRow := by
      apply Array.ext'
      have key : cs0.toList = (cs0.toList.drop 0).take 3 ++ ((cs0.toList.drop 3).take 3 ++ ((cs0.toList.drop 6).take 3 ++ (cs0.toList.drop 9).take 3)) := by
        have hl : cs0.toList.length = 12 := hlen
        match cs0.toList, hl with
        | [_, _, _, _, _, _, _, _, _, _, _, _], _ => rfl
      rw [key]
      simp at s0 s1 s2 s3
      simp [s0, s1, s2, s3, spansRow]
    subst hcs
    simp only [World.var?, hg0, Option.bind_some] at hv0
    split at hv0
    · rename_i c t fr hb
      cases hv0
      exact ⟨t, fr, hb⟩
    · cases hv0
end Go.Proofs.YtaemfjmmklpjeaaGreatDoor
