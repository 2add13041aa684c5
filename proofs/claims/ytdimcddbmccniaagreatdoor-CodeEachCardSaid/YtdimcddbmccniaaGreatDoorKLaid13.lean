/- What the rows' condition on the program's variables gives the walks: the tables of layer 13 (stretches, words, natures, powers of ten, fields of instructions). -/
import Derived.Test.YtdimcddbmccniaaGreatDoorKCd6
import Derived.Test.YtdimcddbmccniaaGreatDoorKTmL
import Derived.Lib.LaidTab
import Derived.ProofKit
import Derived.LaidMore
import Derived.OpenShut
import Derived.Stop.Joined
set_option linter.unusedVariables false
namespace Go.Proofs.YtdimcddbmccniaaGreatDoor
open Go.ChangeShapes Go.WideShapes Go.ChangeAt Go.RowKit

theorem gSpans : Tryz.prog.globalNamed "pleach/atoms.spans" = some 3 := by kernel_rfl
theorem tSpans : (Tryz.prog.globals[3]?).map (·.type) = some 242 := by kernel_rfl
theorem gWords : Tryz.prog.globalNamed "pleach/scan.words" = some 5 := by kernel_rfl
theorem tWords : (Tryz.prog.globals[5]?).map (·.type) = some 275 := by kernel_rfl
theorem gNats : Tryz.prog.globalNamed "pleach/ast.natures" = some 2 := by kernel_rfl
theorem tNats : (Tryz.prog.globals[2]?).map (·.type) = some 193 := by kernel_rfl
theorem gPow : Tryz.prog.globalNamed "internal/strconv.uint64pow10" = some 4 := by kernel_rfl
theorem tPow : (Tryz.prog.globals[4]?).map (·.type) = some 261 := by kernel_rfl

theorem gFld : Tryz.prog.globalNamed "pleach/code.fields" = some 1 := by kernel_rfl
theorem tFld : (Tryz.prog.globals[1]?).map (·.type) = some 139 := by kernel_rfl
set_option maxRecDepth 100000 in
theorem door_met (os : Os) (args : Array Value) : laidMetH Tryz.prog [("math/bits.deBruijn32tab", Rows.laid_math_bits_deBruijn32tab), ("math/bits.deBruijn64tab", Rows.laid_math_bits_deBruijn64tab), ("internal/strconv.uint64pow10", Rows.laid_internal_strconv_uint64pow10), ("pleach/atoms.spans", Rows.laid_pleach_atoms_spans), ("pleach/scan.words", Rows.laid_pleach_scan_words), ("pleach/ast.natures", Rows.laid_pleach_ast_natures), ("pleach/code.fields", Rows.laid_pleach_code_fields)] ((World.doorLaid Tryz.prog 400 os).forCall (fun _ _ => 0) ⟨#[], args, []⟩).memory :=
  laidMetH_of_parts3 (fuel := 8) (laidMet_of_run' 8 (by kernel_rfl) (by kernel_rfl)) (by kernel_rfl) (by kernel_rfl)

theorem cells_of_strs {P : Program} {H : Type} {enc : TypeId × Value → H} {W : World} {base : Nat} {sp : Nat → Bool} {held : Bool} {fuel : Nat} {t e : TypeId} {n : Nat} {cs : List Value} {x : DataW H × List MemPlace} {L : List (List UInt8)}
    (ht : P.underlying t = some (.array n e)) (he : P.underlying e = some .string) (hce : P.cellsOf e = 1) (hct : P.cellsOf t = n) (h : DataW.trod enc P W base sp held fuel t cs = some x)
    (hx : x.1 = .agg (L.map fun l => .lit (.string l))) : cs = L.map fun l => Value.string ⟨l.toArray⟩ := by
  obtain ⟨xs, m, rfl, rfl, hlen, hn, hel⟩ := DataW.trod_array ht h
  rw [hct] at hlen
  rw [hce] at hel
  simp only [DataW.agg.injEq] at hx
  have hL : L.length = n := by have := congrArg List.length hx; simp only [List.length_map] at this; omega
  apply List.ext_getElem (by simp [hlen, hL])
  intro i h1 h2
  have hi : i < n := by omega
  have h3 := hel i hi
  rw [List.getElem?_eq_getElem (by omega)] at h3
  obtain ⟨s, hs, hxs, _⟩ := DataW.trod_string he h3
  have h4 : (xs.map (·.1))[i]'(by simp; omega) = (L.map fun l => DataW.lit (H := H) (.string l))[i]'(by simp; omega) := by simp only [hx]
  simp only [List.getElem_map, hxs, DataW.lit.injEq, Lit.string.injEq] at h4
  rw [Nat.mul_one, List.drop_eq_getElem_cons h1, List.take_succ_cons, List.take_zero] at hs
  simp only [List.cons.injEq, and_true] at hs
  rw [hs, List.getElem_map, ← h4]

set_option maxRecDepth 100000 in
theorem span_cells {H : Type} {enc : TypeId × Value → H} {W : World} {base : Nat} {sp : Nat → Bool} {held : Bool} {n : Nat} {cs : List Value} {x : DataW H × List MemPlace} {a b c : Int}
    (h : DataW.trod enc Tryz.prog W base sp held n 241 cs = some x) (hx : x.1 = .agg [.lit (.int .u8 a), .lit (.int .u8 b), .lit (.int .u8 c)]) : cs = [.int .u8 a, .int .u8 b, .int .u8 c] := by
  obtain ⟨xs, m, rfl, rfl, hlen, hn, hf⟩ := DataW.trod_struct Tryz.underlying241 h
  have c3 : Tryz.prog.cellsOf 241 = 3 := by kernel_rfl
  have c1 : Tryz.prog.cellsOf 5 = 1 := by kernel_rfl
  have ck : Tryz.prog.cellsOf 198 = 1 := by kernel_rfl
  rw [c3] at hlen
  match cs, hlen with
  | [u, v, z], _ =>
    have f0 : DataW.trod enc Tryz.prog W base sp held m 5 (([u, v, z].drop 0).take (Tryz.prog.cellsOf 5)) = xs[0]? := hf 0 _ rfl
    have f1 : DataW.trod enc Tryz.prog W base sp held m 5 (([u, v, z].drop 1).take (Tryz.prog.cellsOf 5)) = xs[1]? := hf 1 _ rfl
    have f2 : DataW.trod enc Tryz.prog W base sp held m 198 (([u, v, z].drop 2).take (Tryz.prog.cellsOf 198)) = xs[2]? := hf 2 _ rfl
    rw [c1] at f0 f1
    rw [ck] at f2
    match xs, hn with
    | [x0, x1, x2], _ =>
      simp at f0 f1 f2 hx
      obtain ⟨k0, e0, y0, _⟩ := DataW.trod_int Tryz.underlying5 f0
      obtain ⟨k1, e1, y1, _⟩ := DataW.trod_int Tryz.underlying5 f1
      obtain ⟨k2, e2, y2, _⟩ := DataW.trod_int Tryz.underlying198 f2
      subst y0 y1 y2
      simp at e0 e1 e2 hx
      obtain ⟨rfl, rfl, rfl⟩ := hx
      rw [e0, e1, e2]

set_option maxRecDepth 100000 in
theorem nature_cells {H : Type} {enc : TypeId × Value → H} {W : World} {base : Nat} {sp : Nat → Bool} {held : Bool} {n : Nat} {cs : List Value} {x : DataW H × List MemPlace} {a b : Int}
    (h : DataW.trod enc Tryz.prog W base sp held n 192 cs = some x) (hx : x.1 = .agg [.lit (.int .u16 a), .lit (.int .u8 b)]) : cs = [.int .u16 a, .int .u8 b] := by
  obtain ⟨xs, m, rfl, rfl, hlen, hn, hf⟩ := DataW.trod_struct Tryz.underlying192 h
  have c2 : Tryz.prog.cellsOf 192 = 2 := by kernel_rfl
  have c1 : Tryz.prog.cellsOf 126 = 1 := by kernel_rfl
  have ck : Tryz.prog.cellsOf 190 = 1 := by kernel_rfl
  rw [c2] at hlen
  match cs, hlen with
  | [u, v], _ =>
    have f0 : DataW.trod enc Tryz.prog W base sp held m 126 (([u, v].drop 0).take (Tryz.prog.cellsOf 126)) = xs[0]? := hf 0 _ rfl
    have f1 : DataW.trod enc Tryz.prog W base sp held m 190 (([u, v].drop 1).take (Tryz.prog.cellsOf 190)) = xs[1]? := hf 1 _ rfl
    rw [c1] at f0
    rw [ck] at f1
    match xs, hn with
    | [x0, x1], _ =>
      simp at f0 f1 hx
      obtain ⟨k0, e0, y0, _⟩ := DataW.trod_int Tryz.underlying126 f0
      obtain ⟨k1, e1, y1, _⟩ := DataW.trod_int Tryz.underlying190 f1
      subst y0 y1
      simp at e0 e1 hx
      obtain ⟨rfl, rfl⟩ := hx
      rw [e0, e1]

theorem pairs_eq : ∀ (L : List (Int × Int)) (cs : List Value), cs.length = 2 * L.length → (∀ i p, L[i]? = some p → (cs.drop (i * 2)).take 2 = [.int .u16 p.1, .int .u8 p.2]) → cs = L.flatMap fun p => [Value.int .u16 p.1, Value.int .u8 p.2]
  | [], cs, hl, _ => List.length_eq_zero_iff.1 hl
  | p :: L, cs, hl, h => by
    match cs, hl with
    | a :: b :: cs, hl =>
      have h0 := h 0 p rfl
      simp only [Nat.zero_mul, List.drop_zero, List.take_succ_cons, List.take_zero, List.cons.injEq, and_true] at h0
      obtain ⟨rfl, rfl⟩ := h0
      have ih := pairs_eq L cs (by simp only [List.length_cons] at hl; omega) fun i q hq => by
        have h1 := h (i + 1) q hq
        rwa [show (i + 1) * 2 = i * 2 + 2 by omega, List.drop_succ_cons, List.drop_succ_cons] at h1
      rw [List.flatMap_cons, ← ih]
      rfl

def naturesList : List (Int × Int) := [(1, 8), (2, 10), (4, 11), (8, 9), (16, 8), (448, 2), (448, 1), (448, 2), (448, 0), (448, 8), (448, 8), (352, 10), (32, 10), (256, 8), (256, 10), (256, 14), (256, 8), (256, 7), (256, 8), (256, 8), (256, 9), (512, 8)]

set_option maxRecDepth 100000 in
theorem natures_cells {H : Type} {enc : TypeId × Value → H} {W : World} {base : Nat} {sp : Nat → Bool} {held : Bool} {fuel : Nat} {cs : List Value} {x : DataW H × List MemPlace}
    (h : DataW.trod enc Tryz.prog W base sp held fuel 193 cs = some x) (hx : x.1 = .agg (naturesList.map fun p => .agg [.lit (.int .u16 p.1), .lit (.int .u8 p.2)])) : cs = naturesRow.toList := by
  obtain ⟨xs, m, rfl, rfl, hlen, hn, hel⟩ := DataW.trod_array Tryz.underlying193 h
  have ce : Tryz.prog.cellsOf 192 = 2 := by kernel_rfl
  have ct : Tryz.prog.cellsOf 193 = 44 := by kernel_rfl
  rw [ct] at hlen
  rw [ce] at hel
  simp only [DataW.agg.injEq] at hx
  refine (pairs_eq naturesList cs hlen fun i p hp => ?_).trans rfl
  have hi : i < naturesList.length := by
    rcases Nat.lt_or_ge i naturesList.length with h | h
    · exact h
    · rw [List.getElem?_eq_none h] at hp; cases hp
  have hi2 : i < 22 := hi
  have h3 := hel i hi2
  have h4 := congrArg (fun l => l[i]?) hx
  simp only [List.getElem?_map, hp, Option.map_some] at h4
  rw [List.getElem?_eq_getElem (by omega : i < xs.length)] at h3 h4
  simp only [Option.map_some, Option.some.injEq] at h4
  exact nature_cells h3 h4

set_option maxRecDepth 100000 in
theorem of_laid {W : World} (h : laidMetH Tryz.prog [("math/bits.deBruijn32tab", Rows.laid_math_bits_deBruijn32tab), ("math/bits.deBruijn64tab", Rows.laid_math_bits_deBruijn64tab), ("internal/strconv.uint64pow10", Rows.laid_internal_strconv_uint64pow10), ("pleach/atoms.spans", Rows.laid_pleach_atoms_spans), ("pleach/scan.words", Rows.laid_pleach_scan_words), ("pleach/ast.natures", Rows.laid_pleach_ast_natures), ("pleach/code.fields", Rows.laid_pleach_code_fields)] W) : Env13 W := by
  rw [MakeChecks.laidMetH_plain _ _ _ (by kernel_rfl)] at h
  obtain ⟨ps, ⟨_, _, _, _, _, _, _, _, _, _, ⟨_, _, _, _, _, _, _, _, _, _, ⟨gp, tp, cp, fp, pp, qp, hgp, htp, hvp, hdp, ⟨g0, t0, cs0, f0, p0, q0, hg0, ht0, hv0, hd0, ⟨g1, t1, cs1, f1, p1, q1, hg1, ht1, hv1, hd1, ⟨g2, t2, cs2, f2, p2, q2, hg2, ht2, hv2, hd2, ⟨g3, t3, cs3, f3, p3, q3, hg3, ht3, hv3, hd3, _, _⟩, _⟩, _⟩, _⟩, _⟩, _⟩, _⟩, _⟩ := h
  have var : ∀ {nm : String} {g : Nat} {cs : Array Value}, Tryz.prog.globalNamed nm = some g → W.var? Tryz.prog nm = some cs → ∃ t fr, W.heap[g]? = some (.cells cs t fr) := by
    intro nm g cs hg hv
    simp only [World.var?, hg, Option.bind_some] at hv
    split at hv
    · rename_i c t fr hb
      cases hv
      exact ⟨t, fr, hb⟩
    · cases hv
  refine ⟨⟨?_, ?_, ?_, ?_⟩, ?_⟩
  · obtain rfl := Option.some.inj (gSpans.symm.trans hg0)
    obtain rfl := Option.some.inj (tSpans.symm.trans ht0)
    obtain ⟨xs, m, rfl, hx, hlen, hn, hel⟩ := DataW.trod_array Tryz.underlying242 hd0
    have c3 : Tryz.prog.cellsOf 241 = 3 := by kernel_rfl
    have c12 : Tryz.prog.cellsOf 242 = 12 := by kernel_rfl
    rw [c12] at hlen
    rw [c3] at hel
    have e0 := hel 0 (by decide)
    have e1 := hel 1 (by decide)
    have e2 := hel 2 (by decide)
    have e3 := hel 3 (by decide)
    match xs, hn with
    | [x0, x1, x2, x3], _ =>
      simp [Rows.laid_pleach_atoms_spans] at hx
      obtain ⟨⟨h0, h1, h2, h3⟩, _⟩ := hx
      have s0 := span_cells (e0.trans rfl) h0.symm
      have s1 := span_cells (e1.trans rfl) h1.symm
      have s2 := span_cells (e2.trans rfl) h2.symm
      have s3 := span_cells (e3.trans rfl) h3.symm
      have hcs : cs0 = spansRow := by
        apply Array.ext'
        have key : cs0.toList = (cs0.toList.drop 0).take 3 ++ ((cs0.toList.drop 3).take 3 ++ ((cs0.toList.drop 6).take 3 ++ (cs0.toList.drop 9).take 3)) := by
          have hl : cs0.toList.length = 12 := hlen
          match cs0.toList, hl with
          | [_, _, _, _, _, _, _, _, _, _, _, _], _ => rfl
        rw [key]
        simp at s0 s1 s2 s3
        simp [s0, s1, s2, s3, spansRow]
      subst hcs
      exact var gSpans hv0
  · obtain rfl := Option.some.inj (gWords.symm.trans hg1)
    obtain rfl := Option.some.inj (tWords.symm.trans ht1)
    have hcs := cells_of_strs (L := wordList) Tryz.underlying275 Tryz.underlying9 (by kernel_rfl) (by kernel_rfl) hd1 rfl
    have hcs2 : cs1 = wordsRow := Array.toList_inj.1 hcs
    subst hcs2
    exact var gWords hv1
  · obtain rfl := Option.some.inj (gNats.symm.trans hg2)
    obtain rfl := Option.some.inj (tNats.symm.trans ht2)
    have hcs2 : cs2 = naturesRow := Array.toList_inj.1 (natures_cells hd2 rfl)
    subst hcs2
    exact var gNats hv2
  · obtain rfl := Option.some.inj (gPow.symm.trans hgp)
    obtain rfl := Option.some.inj (tPow.symm.trans htp)
    have hcp := Go.Lib.cells_of_tab (zs := Go.Lib.pow10Tab) (k := .u64) Tryz.underlying261 Tryz.underlying215 (by kernel_rfl) (by kernel_rfl) hdp
    unfold PowTab7 Go.Lib.TabIs
    intro _
    rw [hvp, ← hcp]
  · obtain rfl := Option.some.inj (gFld.symm.trans hg3)
    obtain rfl := Option.some.inj (tFld.symm.trans ht3)
    have hcf := Go.Lib.cells_of_tab (zs := [4, 1, 1, 0, 1, 0, 4, 5, 3, 3, 1, 0, 1, 11, 9, 6, 1, 0, 23, 0]) (k := .u8) Tryz.underlying139 Tryz.underlying138 (by kernel_rfl) (by kernel_rfl) hd3
    have hcs3 : cs3 = fldRow := Array.toList_inj.1 hcf
    subst hcs3
    exact var gFld hv3
end Go.Proofs.YtdimcddbmccniaaGreatDoor
