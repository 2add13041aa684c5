/- What the rows' condition on the program's variables gives the walks: the tables of layer 7, and the handle of the type error. -/
import Derived.Test.YtmdcdhdjojimeaaGreatDoorKFind9
import Derived.LaidHandle
import Derived.Lib.LaidTab
import Derived.ProofKit
import Derived.LaidMore
import Derived.OpenShut
import Derived.Stop.Joined
set_option linter.unusedVariables false
namespace Go.Proofs.YtmdcdhdjojimeaaGreatDoor
open Go.ChangeShapes Go.WideShapes Go.ChangeAt Go.RowKit

theorem gSpans : Tryz.prog.globalNamed "pleach/atoms.spans" = some 3 := by kernel_rfl
theorem tSpans : (Tryz.prog.globals[3]?).map (·.type) = some 167 := by kernel_rfl
theorem gWords : Tryz.prog.globalNamed "pleach/scan.words" = some 2 := by kernel_rfl
theorem tWords : (Tryz.prog.globals[2]?).map (·.type) = some 163 := by kernel_rfl
theorem gNats : Tryz.prog.globalNamed "pleach/ast.natures" = some 1 := by kernel_rfl
theorem tNats : (Tryz.prog.globals[1]?).map (·.type) = some 142 := by kernel_rfl
set_option maxRecDepth 100000 in
theorem door_met (os : Os) (args : Array Value) : laidMetH Tryz.prog [("errors.errorType", Rows.laid_errors_errorType), ("pleach/atoms.spans", Rows.laid_pleach_atoms_spans), ("pleach/scan.words", Rows.laid_pleach_scan_words), ("pleach/ast.natures", Rows.laid_pleach_ast_natures)] ((World.doorLaid Tryz.prog 400 os).forCall (fun _ _ => 0) ⟨#[], args, []⟩).memory :=
 laidMetH_of_parts3 (fuel := 8) (laidMet_of_run' 8 (by kernel_rfl) (by kernel_rfl)) (by kernel_rfl) (by kernel_rfl)

theorem cells_of_strs {P : Program} {H : Type} {enc : TypeId × Value → H} {W : World} {base : Nat} {sp : Nat → Bool} {held : Bool} {fuel : Nat} {t e : TypeId} {n : Nat} {cs : List Value} {x : DataW H × List MemPlace} {L : List (List UInt8)}
  (ht : P.underlying t = some (.array n e)) (he : P.underlying e = some .string) (hce : P.cellsOf e = 1) (hct : P.cellsOf t = n) (h : DataW.trod enc P W base sp held fuel t cs = some x)
  (hx : x.1 = .agg (L.map fun l => .lit (.string l))) : cs = L.map fun l => Value.string ⟨l.toArray⟩ := by
 obtain ⟨xs, m, rfl, rfl, hlen, hn, hel⟩ := DataW.trod_array ht h
 rw [hct] at hlen
 rw [hce] at hel
 simp only [DataW.agg.injEq] at hx
 have hL : L.length = n := by have := congrArg List.length hx; simp only [List.length_map] at this; omega
 apply List.ext_getElem (by simp [hlen, hL])
 intro i h1 h2
 have hi : i < n := by omega
 have h3 := hel i hi
 rw [List.getElem?_eq_getElem (by omega)] at h3
 obtain ⟨s, hs, hxs, _⟩ := DataW.trod_string he h3
 have h4 : (xs.map (·.1))[i]'(by simp; omega) = (L.map fun l => DataW.lit (H := H) (.string l))[i]'(by simp; omega) := by simp only [hx]
 simp only [List.getElem_map, hxs, DataW.lit.injEq, Lit.string.injEq] at h4
 rw [Nat.mul_one, List.drop_eq_getElem_cons h1, List.take_succ_cons, List.take_zero] at hs
 simp only [List.cons.injEq, and_true] at hs
 rw [hs, List.getElem_map, ← h4]

set_option maxRecDepth 100000 in
theorem span_cells {H : Type} {enc : TypeId × Value → H} {W : World} {base : Nat} {sp : Nat → Bool} {held : Bool} {n : Nat} {cs : List Value} {x : DataW H × List MemPlace} {a b c : Int}
  (h : DataW.trod enc Tryz.prog W base sp held n 166 cs = some x) (hx : x.1 = .agg [.lit (.int .u8 a), .lit (.int .u8 b), .lit (.int .u8 c)]) : cs = [.int .u8 a, .int .u8 b, .int .u8 c] := by
 obtain ⟨xs, m, rfl, rfl, hlen, hn, hf⟩ := DataW.trod_struct Tryz.underlying166 h
 have c3 : Tryz.prog.cellsOf 166 = 3 := by kernel_rfl
 have c1 : Tryz.prog.cellsOf 5 = 1 := by kernel_rfl
 have ck : Tryz.prog.cellsOf 157 = 1 := by kernel_rfl
 rw [c3] at hlen
 match cs, hlen with
 | [u, v, z], _ =>
  have f0 : DataW.trod enc Tryz.prog W base sp held m 5 (([u, v, z].drop 0).take (Tryz.prog.cellsOf 5)) = xs[0]? := hf 0 _ rfl
  have f1 : DataW.trod enc Tryz.prog W base sp held m 5 (([u, v, z].drop 1).take (Tryz.prog.cellsOf 5)) = xs[1]? := hf 1 _ rfl
  have f2 : DataW.trod enc Tryz.prog W base sp held m 157 (([u, v, z].drop 2).take (Tryz.prog.cellsOf 157)) = xs[2]? := hf 2 _ rfl
  rw [c1] at f0 f1
  rw [ck] at f2
  match xs, hn with
  | [x0, x1, x2], _ =>
   simp at f0 f1 f2 hx
   obtain ⟨k0, e0, y0, _⟩ := DataW.trod_int Tryz.underlying5 f0
   obtain ⟨k1, e1, y1, _⟩ := DataW.trod_int Tryz.underlying5 f1
   obtain ⟨k2, e2, y2, _⟩ := DataW.trod_int Tryz.underlying157 f2
   subst y0 y1 y2
   simp at e0 e1 e2 hx
   obtain ⟨rfl, rfl, rfl⟩ := hx
   rw [e0, e1, e2]

set_option maxRecDepth 100000 in
theorem nature_cells {H : Type} {enc : TypeId × Value → H} {W : World} {base : Nat} {sp : Nat → Bool} {held : Bool} {n : Nat} {cs : List Value} {x : DataW H × List MemPlace} {a b : Int}
  (h : DataW.trod enc Tryz.prog W base sp held n 141 cs = some x) (hx : x.1 = .agg [.lit (.int .u16 a), .lit (.int .u8 b)]) : cs = [.int .u16 a, .int .u8 b] := by
 obtain ⟨xs, m, rfl, rfl, hlen, hn, hf⟩ := DataW.trod_struct Tryz.underlying141 h
 have c2 : Tryz.prog.cellsOf 141 = 2 := by kernel_rfl
 have c1 : Tryz.prog.cellsOf 100 = 1 := by kernel_rfl
 have ck : Tryz.prog.cellsOf 139 = 1 := by kernel_rfl
 rw [c2] at hlen
 match cs, hlen with
 | [u, v], _ =>
  have f0 : DataW.trod enc Tryz.prog W base sp held m 100 (([u, v].drop 0).take (Tryz.prog.cellsOf 100)) = xs[0]? := hf 0 _ rfl
  have f1 : DataW.trod enc Tryz.prog W base sp held m 139 (([u, v].drop 1).take (Tryz.prog.cellsOf 139)) = xs[1]? := hf 1 _ rfl
  rw [c1] at f0
  rw [ck] at f1
  match xs, hn with
  | [x0, x1], _ =>
   simp at f0 f1 hx
   obtain ⟨k0, e0, y0, _⟩ := DataW.trod_int Tryz.underlying100 f0
   obtain ⟨k1, e1, y1, _⟩ := DataW.trod_int Tryz.underlying139 f1
   subst y0 y1
   simp at e0 e1 hx
   obtain ⟨rfl, rfl⟩ := hx
   rw [e0, e1]

theorem pairs_eq : ∀ (L : List (Int × Int)) (cs : List Value), cs.length = 2 * L.length → (∀ i p, L[i]? = some p → (cs.drop (i * 2)).take 2 = [.int .u16 p.1, .int .u8 p.2]) → cs = L.flatMap fun p => [Value.int .u16 p.1, Value.int .u8 p.2]
 | [], cs, hl, _ => List.length_eq_zero_iff.1 hl
 | p :: L, cs, hl, h => by
  match cs, hl with
  | a :: b :: cs, hl =>
   have h0 := h 0 p rfl
   simp only [Nat.zero_mul, List.drop_zero, List.take_succ_cons, List.take_zero, List.cons.injEq, and_true] at h0
   obtain ⟨rfl, rfl⟩ := h0
   have ih := pairs_eq L cs (by simp only [List.length_cons] at hl; omega) fun i q hq => by
    have h1 := h (i + 1) q hq
    rwa [show (i + 1) * 2 = i * 2 + 2 by omega, List.drop_succ_cons, List.drop_succ_cons] at h1
   rw [List.flatMap_cons, ← ih]
   rfl

def naturesList : List (Int × Int) := [(1, 8), (2, 10), (4, 11), (8, 9), (16, 8), (448, 2), (448, 1), (448, 2), (448, 0), (448, 8), (448, 8), (352, 10), (32, 10), (256, 8), (256, 10), (256, 14), (256, 8), (256, 7), (256, 8), (256, 8), (256, 9), (512, 8)]

set_option maxRecDepth 100000 in
theorem natures_cells {H : Type} {enc : TypeId × Value → H} {W : World} {base : Nat} {sp : Nat → Bool} {held : Bool} {fuel : Nat} {cs : List Value} {x : DataW H × List MemPlace}
  (h : DataW.trod enc Tryz.prog W base sp held fuel 142 cs = some x) (hx : x.1 = .agg (naturesList.map fun p => .agg [.lit (.int .u16 p.1), .lit (.int .u8 p.2)])) : cs = naturesRow.toList := by
 obtain ⟨xs, m, rfl, rfl, hlen, hn, hel⟩ := DataW.trod_array Tryz.underlying142 h
 have ce : Tryz.prog.cellsOf 141 = 2 := by kernel_rfl
 have ct : Tryz.prog.cellsOf 142 = 44 := by kernel_rfl
 rw [ct] at hlen
 rw [ce] at hel
 simp only [DataW.agg.injEq] at hx
 refine (pairs_eq naturesList cs hlen fun i p hp => ?_).trans rfl
 have hi : i < naturesList.length := by
  rcases Nat.lt_or_ge i naturesList.length with h | h
  ·exact h
  ·rw [List.getElem?_eq_none h] at hp; cases hp
 have hi2 : i < 22 := hi
 have h3 := hel i hi2
 have h4 := congrArg (fun l => l[i]?) hx
 simp only [List.getElem?_map, hp, Option.map_some] at h4
 rw [List.getElem?_eq_getElem (by omega : i < xs.length)] at h3 h4
 simp only [Option.map_some, Option.some.injEq] at h4
 exact nature_cells h3 h4

theorem gErr : Tryz.prog.globalNamed "errors.errorType" = some 0 := by kernel_rfl
theorem tRt : (Tryz.prog.cutTypes.find? (·.1 == "internal/reflectlite.rtype")).map (·.2) = some 105 := by kernel_rfl
theorem oneErr : ((List.range Tryz.prog.types.size).filter fun t => Tryz.prog.rowNamed t [101, 114, 114, 111, 114]) = [47] := by kernel_rfl
theorem hErr : typeHandle Tryz.prog 47 = .pointer (some ⟨hb9, 47, none⟩) := by kernel_rfl
theorem handle_of_laid {W : World} (h : handlesMet Tryz.prog [("errors.errorType", Rows.laid_errors_errorType)] W) : W.cell? ⟨0, 0, none⟩ = some (.iface 105 (.agg #[.pointer (some ⟨hb9, 47, none⟩)])) := by
 obtain ⟨name, u, ty, e1, e2, e3, e4, e5⟩ := h _ (List.mem_singleton.2 rfl)
 have en : name = [101, 114, 114, 111, 114] := (Option.some.inj e1).symm
 subst en
 obtain rfl := Option.some.inj (tRt.symm.trans e2)
 have hm : ty ∈ (List.range Tryz.prog.types.size).filter fun t => Tryz.prog.rowNamed t [101, 114, 114, 111, 114] := List.mem_filter.2 ⟨List.mem_range.2 e3, e4⟩
 rw [oneErr] at hm
 obtain rfl := List.mem_singleton.1 hm
 rw [hErr] at e5
 simpa using World.var?_cell gErr e5 0
set_option maxRecDepth 100000 in
theorem of_laid {W : World} (h : laidMetH Tryz.prog [("errors.errorType", Rows.laid_errors_errorType), ("pleach/atoms.spans", Rows.laid_pleach_atoms_spans), ("pleach/scan.words", Rows.laid_pleach_scan_words), ("pleach/ast.natures", Rows.laid_pleach_ast_natures)] W) : Env9 W := by
 have h' : laidMet Tryz.prog [("pleach/atoms.spans", Rows.laid_pleach_atoms_spans), ("pleach/scan.words", Rows.laid_pleach_scan_words), ("pleach/ast.natures", Rows.laid_pleach_ast_natures)] W ∧ handlesMet Tryz.prog [("errors.errorType", Rows.laid_errors_errorType)] W := h
 have hh := handle_of_laid h'.2
 obtain ⟨ps, ⟨g0, t0, cs0, f0, p0, q0, hg0, ht0, hv0, hd0, ⟨g1, t1, cs1, f1, p1, q1, hg1, ht1, hv1, hd1, ⟨g2, t2, cs2, f2, p2, q2, hg2, ht2, hv2, hd2, _, _⟩, _⟩, _⟩, _⟩ := h'.1
 have var : ∀ {nm : String} {g : Nat} {cs : Array Value}, Tryz.prog.globalNamed nm = some g → W.var? Tryz.prog nm = some cs → ∃ t fr, W.heap[g]? = some (.cells cs t fr) := by
  intro nm g cs hg hv
  simp only [World.var?, hg, Option.bind_some] at hv
  split at hv
  ·rename_i c t fr hb
   cases hv
   exact ⟨t, fr, hb⟩
  ·cases hv
 refine ⟨⟨?_, ?_, ?_, ?_⟩, hh⟩
 ·obtain rfl := Option.some.inj (gSpans.symm.trans hg0)
  obtain rfl := Option.some.inj (tSpans.symm.trans ht0)
  obtain ⟨xs, m, rfl, hx, hlen, hn, hel⟩ := DataW.trod_array Tryz.underlying167 hd0
  have c3 : Tryz.prog.cellsOf 166 = 3 := by kernel_rfl
  have c12 : Tryz.prog.cellsOf 167 = 12 := by kernel_rfl
  rw [c12] at hlen
  rw [c3] at hel
  have e0 := hel 0 (by decide)
  have e1 := hel 1 (by decide)
  have e2 := hel 2 (by decide)
  have e3 := hel 3 (by decide)
  match xs, hn with
  | [x0, x1, x2, x3], _ =>
   simp [Rows.laid_pleach_atoms_spans] at hx
   obtain ⟨⟨h0, h1, h2, h3⟩, _⟩ := hx
   have s0 := span_cells (e0.trans rfl) h0.symm
   have s1 := span_cells (e1.trans rfl) h1.symm
   have s2 := span_cells (e2.trans rfl) h2.symm
   have s3 := span_cells (e3.trans rfl) h3.symm
   have hcs : cs0 = spansRow := by
    apply Array.ext'
    have key : cs0.toList = (cs0.toList.drop 0).take 3 ++ ((cs0.toList.drop 3).take 3 ++ ((cs0.toList.drop 6).take 3 ++ (cs0.toList.drop 9).take 3)) := by
     have hl : cs0.toList.length = 12 := hlen
     match cs0.toList, hl with
     | [_, _, _, _, _, _, _, _, _, _, _, _], _ => rfl
    rw [key]
    simp at s0 s1 s2 s3
    simp [s0, s1, s2, s3, spansRow]
   subst hcs
   exact var gSpans hv0
 ·obtain rfl := Option.some.inj (gWords.symm.trans hg1)
  obtain rfl := Option.some.inj (tWords.symm.trans ht1)
  have hcs := cells_of_strs (L := wordList) Tryz.underlying163 Tryz.underlying9 (by kernel_rfl) (by kernel_rfl) hd1 rfl
  have hcs2 : cs1 = wordsRow := Array.toList_inj.1 hcs
  subst hcs2
  exact var gWords hv1
 ·obtain rfl := Option.some.inj (gNats.symm.trans hg2)
  obtain rfl := Option.some.inj (tNats.symm.trans ht2)
  have hcs2 : cs2 = naturesRow := Array.toList_inj.1 (natures_cells hd2 rfl)
  subst hcs2
  exact var gNats hv2
 ·unfold PowTab7
  intro h9
  exact absurd h9 powNo
end Go.Proofs.YtmdcdhdjojimeaaGreatDoor
