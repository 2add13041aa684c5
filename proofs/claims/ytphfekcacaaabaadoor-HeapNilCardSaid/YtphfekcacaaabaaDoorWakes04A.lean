/- What the chapter of layer 4 says of two cells: the walk of wakes. -/
import Derived.Test.YtphfekcacaaabaaDoorHeapK
import Derived.Test.YtphfekcacaaabaaDoorHeapS
import Derived.Test.YtphfekcacaaabaaDoorHeapU
import Derived.Test.YtphfekcacaaabaaDoorRef03T
set_option linter.unusedVariables false
namespace Go.Proofs.YtphfekcacaaabaaDoor
open Go.RowKit

theorem HSt.At.fp_ge {s : HSt} {base hb : Nat} {w : World} (h : s.At base w hb) {k : Nat} (hk : s.FP hb k) : base ≤ k := by
  rcases hk with e | e | ⟨h1, o, e⟩
  · rw [e]; exact HeapAt.low h
  · obtain ⟨vs, -, ho, -⟩ := (HeapAt.core h).row
    exact (ho.lt k e).1
  · obtain ⟨A, rn, e1, h2⟩ := (HeapAt.core h).room
    cases e1
    obtain ⟨g, o', cur, e2, h3, _⟩ := h2 h1
    rw [e] at e2
    cases e2
    exact h3
/-- What a heap's call has done lies above where the heap began. -/
theorem HMove.above {base hb : Nat} {s s' : HSt} {w w' : World} (m : HMove base hb s s' w w') (h : s.At base w hb) (hb' : base ≤ w.heap.size) : Below base w w' := m.mod.below hb' (fun k hk => h.fp_ge hk)

/-- A row of one word, of two, that a call has just laid. -/
theorem wrow_one {w : World} {g : Nat} {c0 c1 c2 c3 c4 c5 c6 : Value} {T : TypeId} (h : w.heap[g]? = some (.cells #[c0, c1, c2, c3, c4, c5, c6] T (0, 0))) (q : AW) (ha : AWAt (fun b => b = g) w q (.agg #[c0, c1, c2, c3, c4, c5, c6])) :
    WRow (fun b => b = g) w (some ⟨g, 0, none⟩) 1 1 [q] := by
  refine ⟨rfl, Nat.le_refl _, fun j p hj => ?_⟩
  match j, hj with
  | 0, hj =>
    cases hj
    exact ⟨_, _, rfl, rfl, ⟨c0, c1, c2, c3, c4, c5, c6, rfl, cell_of_row (i := 0) h rfl, cell_of_row (i := 1) h rfl, cell_of_row (i := 2) h rfl, cell_of_row (i := 3) h rfl, cell_of_row (i := 4) h rfl, cell_of_row (i := 5) h rfl, cell_of_row (i := 6) h rfl⟩, ha⟩
  | j + 1, hj => simp at hj
theorem wrow_two {w : World} {g : Nat} {c0 c1 c2 c3 c4 c5 c6 d0 d1 d2 d3 d4 d5 d6 : Value} {T : TypeId} (h : w.heap[g]? = some (.cells #[c0, c1, c2, c3, c4, c5, c6, d0, d1, d2, d3, d4, d5, d6] T (0, 0))) (q r : AW) (ha : AWAt (fun b => b = g) w q (.agg #[c0, c1, c2, c3, c4, c5, c6])) (hc : AWAt (fun b => b = g) w r (.agg #[d0, d1, d2, d3, d4, d5, d6])) :
    WRow (fun b => b = g) w (some ⟨g, 0, none⟩) 2 2 [q, r] := by
  refine ⟨rfl, Nat.le_refl _, fun j p hj => ?_⟩
  match j, hj with
  | 0, hj =>
    cases hj
    exact ⟨_, _, rfl, rfl, ⟨c0, c1, c2, c3, c4, c5, c6, rfl, cell_of_row (i := 0) h rfl, cell_of_row (i := 1) h rfl, cell_of_row (i := 2) h rfl, cell_of_row (i := 3) h rfl, cell_of_row (i := 4) h rfl, cell_of_row (i := 5) h rfl, cell_of_row (i := 6) h rfl⟩, ha⟩
  | 1, hj =>
    cases hj
    exact ⟨_, _, rfl, rfl, ⟨d0, d1, d2, d3, d4, d5, d6, rfl, cell_of_row (i := 7) h rfl, cell_of_row (i := 8) h rfl, cell_of_row (i := 9) h rfl, cell_of_row (i := 10) h rfl, cell_of_row (i := 11) h rfl, cell_of_row (i := 12) h rfl, cell_of_row (i := 13) h rfl⟩, hc⟩
  | j + 2, hj => simp at hj
theorem aw_leaf (P : Nat → Prop) (w : World) (c : Bool) (a n : Int) (hn : -9223372036854775808 ≤ n ∧ n ≤ 9223372036854775807) : AWAt P w ⟨c, a, .mk 0 n ⟨#[]⟩ ⟨#[]⟩ []⟩ (.agg #[.bool c, .int .i64 a, .int .i8 0, .int .i64 n, .string ⟨#[]⟩, .string ⟨#[]⟩, .slice none 0 0]) :=
  ⟨0, n, _, _, none, 0, 0, rfl, leaf_at P w (by decide) hn (by show 0 ≤ maxLen; omega) (by show 0 ≤ maxLen; omega)⟩

set_option maxHeartbeats 2000000 in
set_option maxRecDepth 100000 in
theorem lone_any (n : Int) (w : World) : Calls Tryd.prog 40 #[.int .i64 n] w fun e w' => e = .returned (.agg #[(.bool false), (.int .i64 0), (.int .i8 0), (.int .i64 n), (.string ⟨#[]⟩), (.string ⟨#[]⟩), (.slice none 0 0)]) ∧ Below w.heap.size w w' := by
  obtain ⟨w1, hw1⟩ : ∃ w1, w1 = w.alloc (.cells #[(.bool false), (.int .i64 0), (.int .i8 0), (.int .i64 0), (.string ⟨#[]⟩), (.string ⟨#[]⟩), (.slice none 0 0)] 27) := ⟨_, rfl⟩
  have b1 : Below w.heap.size w w1 := by rw [hw1]; exact (Below.refl _ _).alloc (Nat.le_refl _) _
  have g1 : w1.heap[w.heap.size]? = some (.cells #[(.bool false), (.int .i64 0), (.int .i8 0), (.int .i64 0), (.string ⟨#[]⟩), (.string ⟨#[]⟩), (.slice none 0 0)] 27 (0, 0)) := by rw [hw1]; exact block_alloc _ _
  have HB1 := Lib.hid b1
  have HG1 := Lib.hid g1
  clear b1 g1
  go_enter Tryd.func40, Tryd.ntmps40
  go_wp2_with fail
  rw [← hw1]
  clear hw1
  refine (rInt_any n w1).mono ?_
  rintro e V ⟨rfl, b2⟩
  have gB := (b2.block _ (heap_lt HG1.out)).trans HG1.out
  have HB2 := Lib.hid (HB1.out.trans (b2.mono HB1.out.size))
  have SV := Lib.hid (set_seven (.bool false) (.int .i64 0) (.int .i8 0) (.int .i64 n) (.string ⟨#[]⟩) (.string ⟨#[]⟩) (.slice none 0 0) gB)
  have q0 := cell_of_row (i := 0) gB rfl
  have f0 := free_of_row (i := 0) gB
  have q1 := cell_of_row (i := 1) gB rfl
  have f1 := free_of_row (i := 1) gB
  have q2 := cell_of_row (i := 2) gB rfl
  have f2 := free_of_row (i := 2) gB
  have q3 := cell_of_row (i := 3) gB rfl
  have f3 := free_of_row (i := 3) gB
  have q4 := cell_of_row (i := 4) gB rfl
  have f4 := free_of_row (i := 4) gB
  have q5 := cell_of_row (i := 5) gB rfl
  have f5 := free_of_row (i := 5) gB
  have q6 := cell_of_row (i := 6) gB rfl
  have f6 := free_of_row (i := 6) gB
  clear gB b2
  go_wp2_with fail
  obtain ⟨s7, m7⟩ := SV.out
  generalize ((((((V.setCell ⟨w.heap.size, 0, none⟩ (.bool false)).setCell ⟨w.heap.size, 1, none⟩ (.int .i64 0)).setCell ⟨w.heap.size, 2, none⟩ (.int .i8 0)).setCell ⟨w.heap.size, 3, none⟩ (.int .i64 n)).setCell ⟨w.heap.size, 4, none⟩ (.string ⟨#[]⟩)).setCell ⟨w.heap.size, 5, none⟩ (.string ⟨#[]⟩)).setCell ⟨w.heap.size, 6, none⟩ (.slice none 0 0) = VX at s7 m7 ⊢
  have y0 := cell_of_row (i := 0) s7 rfl
  have y1 := cell_of_row (i := 1) s7 rfl
  have y2 := cell_of_row (i := 2) s7 rfl
  have y3 := cell_of_row (i := 3) s7 rfl
  have y4 := cell_of_row (i := 4) s7 rfl
  have y5 := cell_of_row (i := 5) s7 rfl
  have y6 := cell_of_row (i := 6) s7 rfl
  refine bodyPost_ret (v := .agg #[(.bool false), (.int .i64 0), (.int .i8 0), (.int .i64 n), (.string ⟨#[]⟩), (.string ⟨#[]⟩), (.slice none 0 0)]) (by simp [results, Tryd.f40, go_sem, y0, y1, y2, y3, y4, y5, y6]) rfl ⟨rfl, ?_⟩
  exact HB2.out.trans (m7.below HB2.out.size (fun k (e : k = w.heap.size) => by omega))

def iW (n : Int) : Tm := .mk 0 n ⟨#[]⟩ ⟨#[]⟩ []
def cW1 : HC := ⟨5, 2, [.leaf (iW 1)]⟩
def cW2 : HC := ⟨5, 5, [.ref 0, .ref 0]⟩
def tW : Tm := .mk 5 0 ⟨#[]⟩ ⟨#[]⟩ [.mk 5 0 ⟨#[]⟩ ⟨#[]⟩ [iW 1], .mk 5 0 ⟨#[]⟩ ⟨#[]⟩ [iW 1]]
theorem tW_check : checkN tW = 0 := by decide +kernel
theorem tW_text : txt tW = [123, 123, 49, 125, 44, 123, 49, 125, 125] := by decide +kernel
theorem tW_plain : Plain tW := by
  intro y hy
  have h : tW.pre = [tW, .mk 5 0 ⟨#[]⟩ ⟨#[]⟩ [iW 1], iW 1, .mk 5 0 ⟨#[]⟩ ⟨#[]⟩ [iW 1], iW 1] := rfl
  rw [h] at hy
  simp at hy
  rcases hy with rfl | rfl | rfl | rfl | rfl <;> first | exact .inl rfl | exact .inr rfl
theorem mk1_e : makeE [] [⟨false, 0, iW 1⟩] = 0 := by decide +kernel
theorem mk2_e : makeE [cW1] [⟨true, 0, iW 0⟩, ⟨true, 0, iW 0⟩] = 0 := by decide +kernel
theorem may2 : mayW 2 true 1 (iW 0) = true := by decide +kernel
theorem wt2 : wt [cW1, cW2] 2 (.ref 1) = tW := rfl
theorem good2 : HGood [cW1, cW2] := by
  have h0 : leafE (iW 1) = 0 := by decide +kernel
  refine ⟨fun n c h => ?_, fun n c h x hx => ?_, fun n c h => ?_, fun n c h => ?_, by decide⟩
  all_goals
    match n, h with
    | 0, h => ?_
    | 1, h => ?_
    | n + 2, h => exact absurd h (by simp)
  all_goals cases h
  · exact .inl rfl
  · exact .inl rfl
  · have hx : x = .leaf (iW 1) := by simpa [cW1] using hx
    subst hx; exact h0
  · have hx : x = .ref 0 := by simpa [cW2] using hx
    subst hx; exact Nat.zero_lt_one
  · rfl
  · rfl
  · decide
  · decide
end Go.Proofs.YtphfekcacaaabaaDoor
