/- An argument that is a word, opened. -/
import Derived.Test.YtphfekcacaaabaaDoorHeapN
set_option linter.unusedVariables false
namespace Go.Proofs.YtphfekcacaaabaaDoor
open Go.RowKit Go.ChangeShapes Go.WideShapes Go.Deep

theorem tcells_word : Tryd.prog.cellsOf 27 = 7 := by kernel_rfl
theorem tcells_bool : Tryd.prog.cellsOf 4 = 1 := by kernel_rfl

/-- The value is that word. -/
def WordIs (w : World) (q : AW) (v : Value) : Prop :=
  ∃ k n s t l A cap, q.x = .mk k n s t l ∧ v = .agg #[.bool q.c, .int .i64 q.a, .int .i8 k, .int .i64 n, .string s, .string t, .slice A l.length cap] ∧ TmAt (· < w.heap.size) w (.mk k n s t l) (.agg #[.int .i8 k, .int .i64 n, .string s, .string t, .slice A l.length cap]) ∧ (-9223372036854775808 ≤ q.a ∧ q.a ≤ 9223372036854775807)

set_option maxRecDepth 100000 in
theorem open_word_fuel {H : Type} {enc : TypeId × Value → H} {W : World} (fuel : Nat) (cs : List Value) (x : DataW H × List MemPlace) (h : DataW.trod enc Tryd.prog W 0 (fun _ => true) true fuel 27 cs = some x) : ∃ q, WordIs W q (.agg cs.toArray) := by
  obtain ⟨xs, n, hfu, _, hlen, hxl, hf⟩ := DataW.trod_struct Tryd.underlying27 h
  rw [tcells_word] at hlen
  match cs, hlen with
  | [c0, c1, c2, c3, c4, c5, c6], _ =>
    have f0 : DataW.trod enc Tryd.prog W 0 (fun _ => true) true n 4 (([c0, c1, c2, c3, c4, c5, c6].drop 0).take (Tryd.prog.cellsOf 4)) = xs[0]? := hf 0 _ rfl
    have f1 : DataW.trod enc Tryd.prog W 0 (fun _ => true) true n 3 (([c0, c1, c2, c3, c4, c5, c6].drop 1).take (Tryd.prog.cellsOf 3)) = xs[1]? := hf 1 _ rfl
    have f2 : DataW.trod enc Tryd.prog W 0 (fun _ => true) true n 25 (([c0, c1, c2, c3, c4, c5, c6].drop 2).take (Tryd.prog.cellsOf 25)) = xs[2]? := hf 2 _ rfl
    rw [tcells_bool] at f0
    rw [tcells_int] at f1
    rw [tcells_term] at f2
    match xs, hxl with
    | [y0, y1, y2], _ =>
      simp at f0 f1 f2
      obtain ⟨b, e0, _⟩ := DataW.trod_bool Tryd.underlying4 f0
      obtain ⟨m, e1, _, hm⟩ := DataW.trod_int Tryd.underlying3 f1
      obtain ⟨t, hT⟩ := open_term_fuel n _ _ f2
      simp at e0 e1
      subst e0 e1
      obtain ⟨k, n', s, t', l⟩ := t
      obtain ⟨A, cap, ev, -⟩ := hT.parts
      simp only [Value.agg.injEq, Array.mk.injEq, List.cons.injEq, and_true] at ev
      obtain ⟨rfl, rfl, rfl, rfl, rfl⟩ := ev
      exact ⟨⟨b, m, .mk k n' s t' l⟩, k, n', s, t', l, A, cap, rfl, rfl, hT, i64_wf hm⟩

set_option maxRecDepth 100000 in
theorem open_word {H : Type} {enc : TypeId × Value → H} {W : World} {base : Nat} {v : Value} {d : DataW H} {p : List MemPlace} (hv : Value.okWide Tryd.prog W .any base 27 v) (h : DataW.Trod enc Tryd.prog W 0 (fun _ => true) true 27 v d p) : ∃ q, WordIs W q v := by
  obtain ⟨cs, rfl, hsz⟩ := okWide_struct Tryd.underlying27 hv
  obtain ⟨fuel, hf⟩ := h
  obtain ⟨q, hq⟩ := open_word_fuel fuel _ _ hf
  simp [Value.cells] at hq
  exact ⟨q, hq⟩
end Go.Proofs.YtphfekcacaaabaaDoor
