/- What the rows' condition on the program's variables gives the walks: the tables of stretches, of words, of marks. -/
-- LAIDS: [("pleach/atoms.spans", Rows.laid_pleach_atoms_spans), ("pleach/scan.words", Rows.laid_pleach_scan_words), ("pleach/scan.marks", Rows.laid_pleach_scan_marks)]
import Derived.Test.YtkaijnbefbggeaaDoorScanN
import Derived.Lib.LaidTab
import Derived.ProofKit
import Derived.LaidMore
import Derived.OpenShut
import Derived.Stop.Joined
set_option linter.unusedVariables false
namespace Go.Proofs.YtkaijnbefbggeaaDoor
open Go.ChangeShapes Go.WideShapes Go.ChangeAt Go.RowKit

theorem gSpans : Tryd.prog.globalNamed "pleach/atoms.spans" = some 2 := by kernel_rfl
theorem tSpans : (Tryd.prog.globals[2]?).map (·.type) = some 61 := by kernel_rfl
theorem gWords : Tryd.prog.globalNamed "pleach/scan.words" = some 1 := by kernel_rfl
theorem tWords : (Tryd.prog.globals[1]?).map (·.type) = some 57 := by kernel_rfl
theorem gMarks : Tryd.prog.globalNamed "pleach/scan.marks" = some 0 := by kernel_rfl
theorem tMarks : (Tryd.prog.globals[0]?).map (·.type) = some 54 := by kernel_rfl

set_option maxRecDepth 100000 in
theorem door_met (os : Os) (args : Array Value) : laidMetH Tryd.prog [("pleach/atoms.spans", Rows.laid_pleach_atoms_spans), ("pleach/scan.words", Rows.laid_pleach_scan_words), ("pleach/scan.marks", Rows.laid_pleach_scan_marks)] ((World.doorLaid Tryd.prog 400 os).forCall (fun _ _ => 0) ⟨#[], args, []⟩).memory :=
  laidMetH_of_parts3 (fuel := 8) (laidMet_of_run' 8 (by kernel_rfl) (by kernel_rfl)) (by kernel_rfl) (by kernel_rfl)

/-- A table of texts, off its datum. -/
theorem cells_of_strs {P : Program} {H : Type} {enc : TypeId × Value → H} {W : World} {base : Nat} {sp : Nat → Bool} {held : Bool} {fuel : Nat} {t e : TypeId} {n : Nat} {cs : List Value} {x : DataW H × List MemPlace} {L : List (List UInt8)}
    (ht : P.underlying t = some (.array n e)) (he : P.underlying e = some .string) (hce : P.cellsOf e = 1) (hct : P.cellsOf t = n) (h : DataW.trod enc P W base sp held fuel t cs = some x)
    (hx : x.1 = .agg (L.map fun l => .lit (.string l))) : cs = L.map fun l => Value.string ⟨l.toArray⟩ := by
  obtain ⟨xs, m, rfl, rfl, hlen, hn, hel⟩ := DataW.trod_array ht h
  rw [hct] at hlen
  rw [hce] at hel
  simp only [DataW.agg.injEq] at hx
  have hL : L.length = n := by have := congrArg List.length hx; simp only [List.length_map] at this; omega
  apply List.ext_getElem (by simp [hlen, hL])
  intro i h1 h2
  have hi : i < n := by omega
  have h3 := hel i hi
  rw [List.getElem?_eq_getElem (by omega)] at h3
  obtain ⟨s, hs, hxs, _⟩ := DataW.trod_string he h3
  have h4 : (xs.map (·.1))[i]'(by simp; omega) = (L.map fun l => DataW.lit (H := H) (.string l))[i]'(by simp; omega) := by simp only [hx]
  simp only [List.getElem_map, hxs, DataW.lit.injEq, Lit.string.injEq] at h4
  rw [Nat.mul_one, List.drop_eq_getElem_cons h1, List.take_succ_cons, List.take_zero] at hs
  simp only [List.cons.injEq, and_true] at hs
  rw [hs, List.getElem_map, ← h4]

set_option maxRecDepth 100000 in
theorem span_cells {H : Type} {enc : TypeId × Value → H} {W : World} {base : Nat} {sp : Nat → Bool} {held : Bool} {n : Nat} {cs : List Value} {x : DataW H × List MemPlace} {a b c : Int}
    (h : DataW.trod enc Tryd.prog W base sp held n 60 cs = some x) (hx : x.1 = .agg [.lit (.int .u8 a), .lit (.int .u8 b), .lit (.int .u8 c)]) : cs = [.int .u8 a, .int .u8 b, .int .u8 c] := by
  obtain ⟨xs, m, rfl, rfl, hlen, hn, hf⟩ := DataW.trod_struct Tryd.underlying60 h
  have c3 : Tryd.prog.cellsOf 60 = 3 := by kernel_rfl
  have c1 : Tryd.prog.cellsOf 5 = 1 := by kernel_rfl
  have ck : Tryd.prog.cellsOf 52 = 1 := by kernel_rfl
  rw [c3] at hlen
  match cs, hlen with
  | [u, v, z], _ =>
    have f0 : DataW.trod enc Tryd.prog W base sp held m 5 (([u, v, z].drop 0).take (Tryd.prog.cellsOf 5)) = xs[0]? := hf 0 _ rfl
    have f1 : DataW.trod enc Tryd.prog W base sp held m 5 (([u, v, z].drop 1).take (Tryd.prog.cellsOf 5)) = xs[1]? := hf 1 _ rfl
    have f2 : DataW.trod enc Tryd.prog W base sp held m 52 (([u, v, z].drop 2).take (Tryd.prog.cellsOf 52)) = xs[2]? := hf 2 _ rfl
    rw [c1] at f0 f1
    rw [ck] at f2
    match xs, hn with
    | [x0, x1, x2], _ =>
      simp at f0 f1 f2 hx
      obtain ⟨k0, e0, y0, _⟩ := DataW.trod_int Tryd.underlying5 f0
      obtain ⟨k1, e1, y1, _⟩ := DataW.trod_int Tryd.underlying5 f1
      obtain ⟨k2, e2, y2, _⟩ := DataW.trod_int Tryd.underlying52 f2
      subst y0 y1 y2
      simp at e0 e1 e2 hx
      obtain ⟨rfl, rfl, rfl⟩ := hx
      rw [e0, e1, e2]

set_option maxRecDepth 100000 in
theorem of_laid {W : World} (h : laidMetH Tryd.prog [("pleach/atoms.spans", Rows.laid_pleach_atoms_spans), ("pleach/scan.words", Rows.laid_pleach_scan_words), ("pleach/scan.marks", Rows.laid_pleach_scan_marks)] W) : ScanE W := by
  rw [MakeChecks.laidMetH_plain _ _ _ (by kernel_rfl)] at h
  obtain ⟨ps, ⟨g0, t0, cs0, f0, p0, q0, hg0, ht0, hv0, hd0, ⟨g1, t1, cs1, f1, p1, q1, hg1, ht1, hv1, hd1, ⟨g2, t2, cs2, f2, p2, q2, hg2, ht2, hv2, hd2, _, _⟩, _⟩, _⟩, _⟩ := h
  have var : ∀ {nm : String} {g : Nat} {cs : Array Value}, Tryd.prog.globalNamed nm = some g → W.var? Tryd.prog nm = some cs → ∃ t fr, W.heap[g]? = some (.cells cs t fr) := by
    intro nm g cs hg hv
    simp only [World.var?, hg, Option.bind_some] at hv
    split at hv
    · rename_i c t fr hb
      cases hv
      exact ⟨t, fr, hb⟩
    · cases hv
  refine ⟨?_, ?_, ?_⟩
  · obtain rfl := Option.some.inj (gSpans.symm.trans hg0)
    obtain rfl := Option.some.inj (tSpans.symm.trans ht0)
    obtain ⟨xs, m, rfl, hx, hlen, hn, hel⟩ := DataW.trod_array Tryd.underlying61 hd0
    have c3 : Tryd.prog.cellsOf 60 = 3 := by kernel_rfl
    have c12 : Tryd.prog.cellsOf 61 = 12 := by kernel_rfl
    rw [c12] at hlen
    rw [c3] at hel
    have e0 := hel 0 (by decide)
    have e1 := hel 1 (by decide)
    have e2 := hel 2 (by decide)
    have e3 := hel 3 (by decide)
    match xs, hn with
    | [x0, x1, x2, x3], _ =>
      simp [Rows.laid_pleach_atoms_spans] at hx
      obtain ⟨⟨h0, h1, h2, h3⟩, _⟩ := hx
      have s0 := span_cells (e0.trans rfl) h0.symm
      have s1 := span_cells (e1.trans rfl) h1.symm
      have s2 := span_cells (e2.trans rfl) h2.symm
      have s3 := span_cells (e3.trans rfl) h3.symm
      have hcs : cs0 = spansRow := by
        apply Array.ext'
        have key : cs0.toList = (cs0.toList.drop 0).take 3 ++ ((cs0.toList.drop 3).take 3 ++ ((cs0.toList.drop 6).take 3 ++ (cs0.toList.drop 9).take 3)) := by
          have hl : cs0.toList.length = 12 := hlen
          match cs0.toList, hl with
          | [_, _, _, _, _, _, _, _, _, _, _, _], _ => rfl
        rw [key]
        simp at s0 s1 s2 s3
        simp [s0, s1, s2, s3, spansRow]
      subst hcs
      exact var gSpans hv0
  · obtain rfl := Option.some.inj (gWords.symm.trans hg1)
    obtain rfl := Option.some.inj (tWords.symm.trans ht1)
    have hcs := cells_of_strs (L := wordList) Tryd.underlying57 Tryd.underlying9 (by kernel_rfl) (by kernel_rfl) hd1 rfl
    have hcs2 : cs1 = wordsRow := Array.toList_inj.1 hcs
    subst hcs2
    exact var gWords hv1
  · obtain rfl := Option.some.inj (gMarks.symm.trans hg2)
    obtain rfl := Option.some.inj (tMarks.symm.trans ht2)
    have hcs := cells_of_strs (L := markList) Tryd.underlying54 Tryd.underlying9 (by kernel_rfl) (by kernel_rfl) hd2 rfl
    have hcs2 : cs2 = marksRow := Array.toList_inj.1 hcs
    subst hcs2
    exact var gMarks hv2
end Go.Proofs.YtkaijnbefbggeaaDoor
