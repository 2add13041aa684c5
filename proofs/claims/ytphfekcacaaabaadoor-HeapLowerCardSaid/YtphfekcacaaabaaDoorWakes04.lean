/- What the chapter of layer 4 says of two cells: the walk of wakes. What the chapter of layer 4 says of two cells: the walk of wakes. -/
import Derived.Test.YtphfekcacaaabaaDoorHeapK
import Derived.Test.YtphfekcacaaabaaDoorHeapS
import Derived.Test.YtphfekcacaaabaaDoorHeapU
import Derived.Test.YtphfekcacaaabaaDoorRef03T
set_option linter.unusedVariables false
namespace Go.Proofs.YtphfekcacaaabaaDoor
open Go.RowKit

/-- A row of one word, of two, that a call has just laid. -/
theorem wrow_one {w : World} {g : Nat} {c0 c1 c2 c3 c4 c5 c6 : Value} {T : TypeId} (h : w.heap[g]? = some (.cells #[c0, c1, c2, c3, c4, c5, c6] T (0, 0))) (q : AW) (ha : AWAt (fun b => b = g) w q (.agg #[c0, c1, c2, c3, c4, c5, c6])) :
    WRow (fun b => b = g) w (some ⟨g, 0, none⟩) 1 1 [q] := by
  refine ⟨rfl, Nat.le_refl _, fun j p hj => ?_⟩
  match j, hj with
  | 0, hj =>
    cases hj
    exact ⟨_, _, rfl, rfl, ⟨c0, c1, c2, c3, c4, c5, c6, rfl, cell_of_row (i := 0) h rfl, cell_of_row (i := 1) h rfl, cell_of_row (i := 2) h rfl, cell_of_row (i := 3) h rfl, cell_of_row (i := 4) h rfl, cell_of_row (i := 5) h rfl, cell_of_row (i := 6) h rfl⟩, ha⟩
  | j + 1, hj => simp at hj
theorem wrow_two {w : World} {g : Nat} {c0 c1 c2 c3 c4 c5 c6 d0 d1 d2 d3 d4 d5 d6 : Value} {T : TypeId} (h : w.heap[g]? = some (.cells #[c0, c1, c2, c3, c4, c5, c6, d0, d1, d2, d3, d4, d5, d6] T (0, 0))) (q r : AW) (ha : AWAt (fun b => b = g) w q (.agg #[c0, c1, c2, c3, c4, c5, c6])) (hc : AWAt (fun b => b = g) w r (.agg #[d0, d1, d2, d3, d4, d5, d6])) :
    WRow (fun b => b = g) w (some ⟨g, 0, none⟩) 2 2 [q, r] := by
  refine ⟨rfl, Nat.le_refl _, fun j p hj => ?_⟩
  match j, hj with
  | 0, hj =>
    cases hj
    exact ⟨_, _, rfl, rfl, ⟨c0, c1, c2, c3, c4, c5, c6, rfl, cell_of_row (i := 0) h rfl, cell_of_row (i := 1) h rfl, cell_of_row (i := 2) h rfl, cell_of_row (i := 3) h rfl, cell_of_row (i := 4) h rfl, cell_of_row (i := 5) h rfl, cell_of_row (i := 6) h rfl⟩, ha⟩
  | 1, hj =>
    cases hj
    exact ⟨_, _, rfl, rfl, ⟨d0, d1, d2, d3, d4, d5, d6, rfl, cell_of_row (i := 7) h rfl, cell_of_row (i := 8) h rfl, cell_of_row (i := 9) h rfl, cell_of_row (i := 10) h rfl, cell_of_row (i := 11) h rfl, cell_of_row (i := 12) h rfl, cell_of_row (i := 13) h rfl⟩, hc⟩
  | j + 2, hj => simp at hj
theorem aw_leaf (P : Nat → Prop) (w : World) (c : Bool) (a n : Int) (hn : -9223372036854775808 ≤ n ∧ n ≤ 9223372036854775807) : AWAt P w ⟨c, a, .mk 0 n ⟨#[]⟩ ⟨#[]⟩ []⟩ (.agg #[.bool c, .int .i64 a, .int .i8 0, .int .i64 n, .string ⟨#[]⟩, .string ⟨#[]⟩, .slice none 0 0]) :=
  ⟨0, n, _, _, none, 0, 0, rfl, leaf_at P w (by decide) hn (by show 0 ≤ maxLen; omega) (by show 0 ≤ maxLen; omega)⟩

set_option maxHeartbeats 2000000 in
set_option maxRecDepth 100000 in
theorem lone_any (n : Int) (w : World) : Calls Tryd.prog 40 #[.int .i64 n] w fun e w' => e = .returned (.agg #[(.bool false), (.int .i64 0), (.int .i8 0), (.int .i64 n), (.string ⟨#[]⟩), (.string ⟨#[]⟩), (.slice none 0 0)]) ∧ Below w.heap.size w w' := by
  obtain ⟨w1, hw1⟩ : ∃ w1, w1 = w.alloc (.cells #[(.bool false), (.int .i64 0), (.int .i8 0), (.int .i64 0), (.string ⟨#[]⟩), (.string ⟨#[]⟩), (.slice none 0 0)] 27) := ⟨_, rfl⟩
  have b1 : Below w.heap.size w w1 := by rw [hw1]; exact (Below.refl _ _).alloc (Nat.le_refl _) _
  have g1 : w1.heap[w.heap.size]? = some (.cells #[(.bool false), (.int .i64 0), (.int .i8 0), (.int .i64 0), (.string ⟨#[]⟩), (.string ⟨#[]⟩), (.slice none 0 0)] 27 (0, 0)) := by rw [hw1]; exact block_alloc _ _
  have HB1 := Lib.hid b1
  have HG1 := Lib.hid g1
  clear b1 g1
  go_enter Tryd.func40, Tryd.ntmps40
  go_wp2_with fail
  rw [← hw1]
  clear hw1
  refine (rInt_any n w1).mono ?_
  rintro e V ⟨rfl, b2⟩
  have gB := (b2.block _ (heap_lt HG1.out)).trans HG1.out
  have HB2 := Lib.hid (HB1.out.trans (b2.mono HB1.out.size))
  have SV := Lib.hid (set_seven (.bool false) (.int .i64 0) (.int .i8 0) (.int .i64 n) (.string ⟨#[]⟩) (.string ⟨#[]⟩) (.slice none 0 0) gB)
  have q0 := cell_of_row (i := 0) gB rfl
  have f0 := free_of_row (i := 0) gB
  have q1 := cell_of_row (i := 1) gB rfl
  have f1 := free_of_row (i := 1) gB
  have q2 := cell_of_row (i := 2) gB rfl
  have f2 := free_of_row (i := 2) gB
  have q3 := cell_of_row (i := 3) gB rfl
  have f3 := free_of_row (i := 3) gB
  have q4 := cell_of_row (i := 4) gB rfl
  have f4 := free_of_row (i := 4) gB
  have q5 := cell_of_row (i := 5) gB rfl
  have f5 := free_of_row (i := 5) gB
  have q6 := cell_of_row (i := 6) gB rfl
  have f6 := free_of_row (i := 6) gB
  clear gB b2
  go_wp2_with fail
  obtain ⟨s7, m7⟩ := SV.out
  generalize ((((((V.setCell ⟨w.heap.size, 0, none⟩ (.bool false)).setCell ⟨w.heap.size, 1, none⟩ (.int .i64 0)).setCell ⟨w.heap.size, 2, none⟩ (.int .i8 0)).setCell ⟨w.heap.size, 3, none⟩ (.int .i64 n)).setCell ⟨w.heap.size, 4, none⟩ (.string ⟨#[]⟩)).setCell ⟨w.heap.size, 5, none⟩ (.string ⟨#[]⟩)).setCell ⟨w.heap.size, 6, none⟩ (.slice none 0 0) = VX at s7 m7 ⊢
  have y0 := cell_of_row (i := 0) s7 rfl
  have y1 := cell_of_row (i := 1) s7 rfl
  have y2 := cell_of_row (i := 2) s7 rfl
  have y3 := cell_of_row (i := 3) s7 rfl
  have y4 := cell_of_row (i := 4) s7 rfl
  have y5 := cell_of_row (i := 5) s7 rfl
  have y6 := cell_of_row (i := 6) s7 rfl
  refine bodyPost_ret (v := .agg #[(.bool false), (.int .i64 0), (.int .i8 0), (.int .i64 n), (.string ⟨#[]⟩), (.string ⟨#[]⟩), (.slice none 0 0)]) (by simp [results, Tryd.f40, go_sem, y0, y1, y2, y3, y4, y5, y6]) rfl ⟨rfl, ?_⟩
  exact HB2.out.trans (m7.below HB2.out.size (fun k (e : k = w.heap.size) => by omega))

def iW (n : Int) : Tm := .mk 0 n ⟨#[]⟩ ⟨#[]⟩ []
def cW1 : HC := ⟨5, 2, [.leaf (iW 1)]⟩
def cW2 : HC := ⟨5, 5, [.ref 0, .ref 0]⟩
def tW : Tm := .mk 5 0 ⟨#[]⟩ ⟨#[]⟩ [.mk 5 0 ⟨#[]⟩ ⟨#[]⟩ [iW 1], .mk 5 0 ⟨#[]⟩ ⟨#[]⟩ [iW 1]]
theorem tW_check : checkN tW = 0 := by decide +kernel
theorem tW_text : txt tW = [123, 123, 49, 125, 44, 123, 49, 125, 125] := by decide +kernel
theorem tW_plain : Plain tW := by
  intro y hy
  have h : tW.pre = [tW, .mk 5 0 ⟨#[]⟩ ⟨#[]⟩ [iW 1], iW 1, .mk 5 0 ⟨#[]⟩ ⟨#[]⟩ [iW 1], iW 1] := rfl
  rw [h] at hy
  simp at hy
  rcases hy with rfl | rfl | rfl | rfl | rfl <;> first | exact .inl rfl | exact .inr rfl
theorem mk1_e : makeE [] [⟨false, 0, iW 1⟩] = 0 := by decide +kernel
theorem mk2_e : makeE [cW1] [⟨true, 0, iW 0⟩, ⟨true, 0, iW 0⟩] = 0 := by decide +kernel
theorem may2 : mayW 2 true 1 (iW 0) = true := by decide +kernel
theorem wt2 : wt [cW1, cW2] 2 (.ref 1) = tW := rfl
theorem good2 : HGood [cW1, cW2] := by
  have h0 : leafE (iW 1) = 0 := by decide +kernel
  refine ⟨fun n c h => ?_, fun n c h x hx => ?_, fun n c h => ?_, fun n c h => ?_, by decide⟩
  all_goals
    match n, h with
    | 0, h => ?_
    | 1, h => ?_
    | n + 2, h => exact absurd h (by simp)
  all_goals cases h
  · exact .inl rfl
  · exact .inl rfl
  · have hx : x = .leaf (iW 1) := by simpa [cW1] using hx
    subst hx; exact h0
  · have hx : x = .ref 0 := by simpa [cW2] using hx
    subst hx; exact Nat.zero_lt_one
  · rfl
  · rfl
  · decide
  · decide
end Go.Proofs.YtphfekcacaaabaaDoor
set_option linter.unusedVariables false
namespace Go.Proofs.YtphfekcacaaabaaDoor
open Go.RowKit

theorem tW_shape {P : Nat → Prop} {w : World} {v : Value} (h : TmAt P w tW v) : ∃ (A : Option Addr) (cap : Nat), v = .agg #[.int .i8 5, .int .i64 0, .string ⟨#[]⟩, .string ⟨#[]⟩, .slice A 2 cap] := by
  obtain ⟨A, cap, rfl, -⟩ := h.parts
  exact ⟨A, cap, rfl⟩

set_option maxHeartbeats 8000000 in
set_option maxRecDepth 100000 in
theorem wakes4_ok (w : World) (hS : Spans w) (hp : PowTab w) : Calls Tryd.prog 15 #[] w fun e w' => e = .returned (.bool true) ∧ Below w.heap.size w w' := by
  have HSP := Lib.hid hS
  have HPW := Lib.hid hp
  have HN := Lib.hid (New_any w.heap.size w (Nat.le_refl _))
  clear hS hp
  go_enter Tryd.func15, Tryd.ntmps15
  go_wp2_with fail
  refine HN.out.mono ?_
  rintro e V1 ⟨rfl, h1, b1⟩
  have HA1 : Hid (HSt.At ⟨[], 0, .slice none 0 0, none, 0⟩ w.heap.size V1 w.heap.size) := h1
  have HB1 := Lib.hid b1
  clear h1 b1
  go_wp2_with fail
  refine (lone_any 1 V1).mono ?_
  rintro e V2 ⟨rfl, b2⟩
  -- the first cell
  obtain ⟨W2, hW2⟩ : ∃ W2, W2 = V2.alloc (.cells #[(.bool false), (.int .i64 0), (.int .i8 0), (.int .i64 1), (.string ⟨#[]⟩), (.string ⟨#[]⟩), (.slice none 0 0)] 27) := ⟨_, rfl⟩
  have bW2 : Below V1.heap.size V1 W2 := b2.trans (by rw [hW2]; exact (Below.refl _ _).alloc b2.size _)
  have gW2 : W2.heap[V2.heap.size]? = some (.cells #[(.bool false), (.int .i64 0), (.int .i8 0), (.int .i64 1), (.string ⟨#[]⟩), (.string ⟨#[]⟩), (.slice none 0 0)] 27 (0, 0)) := by rw [hW2]; exact block_alloc _ _
  have hA2 := HA1.out.under bW2
  have hB2 : Below w.heap.size w W2 := HB1.out.trans (bW2.mono HB1.out.size)
  have hcore : (HSt.mk [] 0 (.slice none 0 0) none 0).Core w.heap.size W2 V2.heap.size := by
    have h3 := (HA1.out.under b2).core.off
    exact h3.under (by rw [hW2]; exact (Below.refl _ _).alloc (Nat.le_refl _) _)
  have HM1 := Lib.hid (Make_any (hb := w.heap.size) 5 [⟨false, 0, iW 1⟩] (some ⟨V2.heap.size, 0, none⟩) 1 (fun b => b = V2.heap.size) W2 hB2.size hA2 (by show 0 ≤ 1000000; omega) (fun n c h => by simp at h) (wrow_one gW2 _ (aw_leaf _ _ _ _ _ (by decide))) (fun b hb => ⟨by rw [hb]; exact heap_lt gW2, by rw [hb]; exact hcore.not_fp (by have := HA1.out.lt; have := b2.size; omega)⟩) (by decide) (by show 0 ≤ 1000000000000; omega) (by decide) (by decide) (HSP.out.below hB2 HSP.out.lt))
  have HB2 := Lib.hid hB2
  have HA2 := Lib.hid hA2
  have HW2 := Lib.hid hW2
  clear hB2 hA2 gW2 bW2 b2 hcore hW2
  go_wp2_with fail
  have hw2 := HW2.out
  rw [← hw2]
  clear hw2
  refine HM1.out.mono ?_
  rintro e V3 (⟨h0, -⟩ | ⟨-, rfl, s1, hcs, hws, hmv⟩)
  · exact absurd mk1_e h0
  have hcs : s1.cs = [cW1] := hcs
  have hws : s1.ws = 2 := hws
  have HM2 := Lib.hid hmv
  have HC1 := Lib.hid hcs
  have HS1 := Lib.hid hws
  clear hcs hws hmv
  rw [show (refV ((HSt.mk [] 0 (.slice none 0 0) none 0).cs.length : Nat)) = .agg #[(.bool true), (.int .i64 0), (.int .i8 0), (.int .i64 0), (.string ⟨#[]⟩), (.string ⟨#[]⟩), (.slice none 0 0)] from rfl]
  -- its word in its box, and two of them in a row
  obtain ⟨W3, hW3⟩ : ∃ W3, W3 = V3.alloc (.cells #[(.bool true), (.int .i64 0), (.int .i8 0), (.int .i64 0), (.string ⟨#[]⟩), (.string ⟨#[]⟩), (.slice none 0 0)] 27) := ⟨_, rfl⟩
  have bW3 : Below V3.heap.size V3 W3 := by rw [hW3]; exact (Below.refl _ _).alloc (Nat.le_refl _) _
  have gW3 : W3.heap[V3.heap.size]? = some (.cells #[(.bool true), (.int .i64 0), (.int .i8 0), (.int .i64 0), (.string ⟨#[]⟩), (.string ⟨#[]⟩), (.slice none 0 0)] 27 (0, 0)) := by rw [hW3]; exact block_alloc _ _
  obtain ⟨W4, hW4⟩ : ∃ W4, W4 = W3.alloc (.cells #[(.bool true), (.int .i64 0), (.int .i8 0), (.int .i64 0), (.string ⟨#[]⟩), (.string ⟨#[]⟩), (.slice none 0 0), (.bool true), (.int .i64 0), (.int .i8 0), (.int .i64 0), (.string ⟨#[]⟩), (.string ⟨#[]⟩), (.slice none 0 0)] 27) := ⟨_, rfl⟩
  have z3 : W3.heap.size = V3.heap.size + 1 := by rw [hW3]; exact World.size_alloc _ _
  have bW4 : Below W3.heap.size W3 W4 := by rw [hW4]; exact (Below.refl _ _).alloc (Nat.le_refl _) _
  have gW4 : W4.heap[V3.heap.size + 1]? = some (.cells #[(.bool true), (.int .i64 0), (.int .i8 0), (.int .i64 0), (.string ⟨#[]⟩), (.string ⟨#[]⟩), (.slice none 0 0), (.bool true), (.int .i64 0), (.int .i8 0), (.int .i64 0), (.string ⟨#[]⟩), (.string ⟨#[]⟩), (.slice none 0 0)] 27 (0, 0)) := by rw [hW4, ← z3]; exact block_alloc _ _
  have bV4 : Below V3.heap.size V3 W4 := bW3.trans (bW4.mono (by omega))
  have hA4 := HM2.out.at_.under bV4
  have hV3 : Below w.heap.size w V3 := HB2.out.trans (HM2.out.above HA2.out HB2.out.size)
  have hB4 : Below w.heap.size w W4 := hV3.trans (bV4.mono hV3.size)
  have hcore : s1.Core w.heap.size W4 (V3.heap.size + 1) := by
    have h3 := (HM2.out.at_.under bW3).core.off
    rw [z3] at h3
    exact h3.under bW4
  have x0 : W3.cell? ⟨V3.heap.size, 0, none⟩ = some (.bool true) := cell_of_row gW3 rfl
  have x1 : W3.cell? ⟨V3.heap.size, 1, none⟩ = some (.int .i64 0) := cell_of_row gW3 rfl
  have x2 : W3.cell? ⟨V3.heap.size, 2, none⟩ = some (.int .i8 0) := cell_of_row gW3 rfl
  have x3 : W3.cell? ⟨V3.heap.size, 3, none⟩ = some (.int .i64 0) := cell_of_row gW3 rfl
  have x4 : W3.cell? ⟨V3.heap.size, 4, none⟩ = some (.string ⟨#[]⟩) := cell_of_row gW3 rfl
  have x5 : W3.cell? ⟨V3.heap.size, 5, none⟩ = some (.string ⟨#[]⟩) := cell_of_row gW3 rfl
  have x6 : W3.cell? ⟨V3.heap.size, 6, none⟩ = some (.slice none 0 0) := cell_of_row gW3 rfl
  have HM3 := Lib.hid (Make_any (hb := w.heap.size) (s := s1) 5 [⟨true, 0, iW 0⟩, ⟨true, 0, iW 0⟩] (some ⟨V3.heap.size + 1, 0, none⟩) 2 (fun b => b = V3.heap.size + 1) W4 hB4.size hA4 HM2.out.rn (fun n c h => by
      rw [HC1.out] at h
      match n, h with
      | 0, h => cases h; decide
      | n + 1, h => exact absurd h (by simp)) (wrow_two gW4 _ _ (aw_leaf _ _ _ _ _ (by decide)) (aw_leaf _ _ _ _ _ (by decide))) (fun b hb => ⟨by rw [hb]; exact heap_lt gW4, by rw [hb]; exact hcore.not_fp (by have := HA1.out.lt; have := hV3.size; omega)⟩) (by decide) (by rw [HS1.out]; decide) (by rw [HC1.out]; decide) (by decide) (HSP.out.below hB4 HSP.out.lt))
  have HB4 := Lib.hid hB4
  have HA4 := Lib.hid hA4
  have HW4 := Lib.hid hW4
  have HBV4 := Lib.hid bV4
  have HG4 : Hid (W4.heap[V3.heap.size]? = some (.cells #[(.bool true), (.int .i64 0), (.int .i8 0), (.int .i64 0), (.string ⟨#[]⟩), (.string ⟨#[]⟩), (.slice none 0 0)] 27 (0, 0))) := (bW4.block _ (by omega)).trans gW3
  clear hB4 hA4 bW3 gW3 bW4 gW4 bV4 hcore hV3 hW4
  subst hW3
  go_wp2_with fail
  have hw4 := HW4.out
  try rw [z3] at hw4
  rw [← hw4]
  clear hw4
  refine HM3.out.mono ?_
  rintro e V5 (⟨h0, -⟩ | ⟨-, rfl, s2, hcs, hws, hmv⟩)
  · rw [HC1.out] at h0
    exact absurd mk2_e h0
  have hcs : s2.cs = [cW1, cW2] := by
    have h4 := hcs
    unfold HSt.more at h4
    rw [HC1.out] at h4
    exact h4
  have hws : s2.ws = 5 := by rw [hws, HS1.out]; rfl
  rw [show (refV (s1.cs.length : Nat)) = .agg #[(.bool true), (.int .i64 1), (.int .i8 0), (.int .i64 0), (.string ⟨#[]⟩), (.string ⟨#[]⟩), (.slice none 0 0)] by rw [HC1.out]; rfl]
  have HM5 := Lib.hid hmv
  have HC2 := Lib.hid hcs
  have HS2 := Lib.hid hws
  clear hcs hws hmv x0 x1 x2 x3 x4 x5 x6 z3
  obtain ⟨W5, hW5⟩ : ∃ W5, W5 = V5.alloc (.cells #[(.bool true), (.int .i64 1), (.int .i8 0), (.int .i64 0), (.string ⟨#[]⟩), (.string ⟨#[]⟩), (.slice none 0 0)] 27) := ⟨_, rfl⟩
  have bW5 : Below V5.heap.size V5 W5 := by rw [hW5]; exact (Below.refl _ _).alloc (Nat.le_refl _) _
  have gW5 : W5.heap[V5.heap.size]? = some (.cells #[(.bool true), (.int .i64 1), (.int .i8 0), (.int .i64 0), (.string ⟨#[]⟩), (.string ⟨#[]⟩), (.slice none 0 0)] 27 (0, 0)) := by rw [hW5]; exact block_alloc _ _
  have hA5 := HM5.out.at_.under bW5
  have hB5 : Below w.heap.size w W5 := by
    have h5 : Below w.heap.size w V5 := HB4.out.trans (HM5.out.above HA4.out HB4.out.size)
    exact h5.trans (bW5.mono h5.size)
  have tz : ∀ V : World, TmAt (· < V.heap.size) V (iW 0) (.agg #[.int .i8 0, .int .i64 0, .string ⟨#[]⟩, .string ⟨#[]⟩, .slice none 0 0]) := fun V => leaf_at _ V (by decide) (by decide) (by show 0 ≤ maxLen; omega) (by show 0 ≤ maxLen; omega)
  have HSZ := Lib.hid (HSize_any (base := w.heap.size) (hb := w.heap.size) (cs := s2.cs) (ws := s2.ws) true 1 0 0 ⟨#[]⟩ ⟨#[]⟩ [] none 0 W5 hA5 (tz W5) (HSP.out.below hB5 HSP.out.lt))
  rw [HC2.out, if_pos (show mayW [cW1, cW2].length true 1 (.mk 0 0 ⟨#[]⟩ ⟨#[]⟩ []) = true from may2), show (wsize [cW1, cW2] (AW.hw ⟨true, 1, .mk 0 0 ⟨#[]⟩ ⟨#[]⟩ []⟩) : Nat) = 5 from rfl] at HSZ
  have HT : Hid (∀ V, Below W5.heap.size W5 V → Calls Tryd.prog 9 #[.pointer (some ⟨w.heap.size, 0, none⟩), .agg #[(.bool true), (.int .i64 1), (.int .i8 0), (.int .i64 0), (.string ⟨#[]⟩), (.string ⟨#[]⟩), (.slice none 0 0)]] V (TakeP s2 ⟨true, 1, .mk 0 0 ⟨#[]⟩ ⟨#[]⟩ []⟩ V)) := fun V hV => Take_any (by rw [HC2.out]; exact good2) true 1 0 0 ⟨#[]⟩ ⟨#[]⟩ [] none 0 V (hA5.under hV) (tz V) (HSP.out.below (hB5.trans (hV.mono hB5.size)) HSP.out.lt)
  have x0 : W5.cell? ⟨V5.heap.size, 0, none⟩ = some (.bool true) := cell_of_row gW5 rfl
  have x1 : W5.cell? ⟨V5.heap.size, 1, none⟩ = some (.int .i64 1) := cell_of_row gW5 rfl
  have x2 : W5.cell? ⟨V5.heap.size, 2, none⟩ = some (.int .i8 0) := cell_of_row gW5 rfl
  have x3 : W5.cell? ⟨V5.heap.size, 3, none⟩ = some (.int .i64 0) := cell_of_row gW5 rfl
  have x4 : W5.cell? ⟨V5.heap.size, 4, none⟩ = some (.string ⟨#[]⟩) := cell_of_row gW5 rfl
  have x5 : W5.cell? ⟨V5.heap.size, 5, none⟩ = some (.string ⟨#[]⟩) := cell_of_row gW5 rfl
  have x6 : W5.cell? ⟨V5.heap.size, 6, none⟩ = some (.slice none 0 0) := cell_of_row gW5 rfl
  have HB5 := Lib.hid hB5
  have HG5 := Lib.hid gW5
  have HA5 := Lib.hid hA5
  clear hA5 hB5 gW5 bW5 tz
  subst hW5
  go_wp2_with fail
  refine HSZ.out.mono ?_
  rintro e V6 ⟨rfl, b6⟩
  have gV6 := (b6.block _ (heap_lt HG5.out)).trans HG5.out
  have HT6 := Lib.hid (HT.out V6 b6)
  have HB6 := Lib.hid (HB5.out.trans (b6.mono HB5.out.size))
  have HA6 := Lib.hid (HA5.out.under b6)
  rw [show (((5 : Nat) : Int)) = 5 from rfl]
  clear x0 x1 x2 x3 x4 x5 x6
  have x0 : V6.cell? ⟨V5.heap.size, 0, none⟩ = some (.bool true) := cell_of_row gV6 rfl
  have x1 : V6.cell? ⟨V5.heap.size, 1, none⟩ = some (.int .i64 1) := cell_of_row gV6 rfl
  have x2 : V6.cell? ⟨V5.heap.size, 2, none⟩ = some (.int .i8 0) := cell_of_row gV6 rfl
  have x3 : V6.cell? ⟨V5.heap.size, 3, none⟩ = some (.int .i64 0) := cell_of_row gV6 rfl
  have x4 : V6.cell? ⟨V5.heap.size, 4, none⟩ = some (.string ⟨#[]⟩) := cell_of_row gV6 rfl
  have x5 : V6.cell? ⟨V5.heap.size, 5, none⟩ = some (.string ⟨#[]⟩) := cell_of_row gV6 rfl
  have x6 : V6.cell? ⟨V5.heap.size, 6, none⟩ = some (.slice none 0 0) := cell_of_row gV6 rfl
  clear gV6 b6
  go_wp2_with fail
  refine HT6.out.mono ?_
  rintro e V7 (⟨h0, -⟩ | ⟨-, tv, rfl, hTm, b7⟩)
  · rw [HC2.out] at h0
    exact absurd (may2.symm.trans h0) (by decide)
  rw [HC2.out] at hTm
  have hTm : TmAt (fun b => V6.heap.size ≤ b ∧ b < V7.heap.size) V7 tW tv := hTm
  obtain ⟨A, cap, rfl⟩ := tW_shape hTm
  obtain ⟨W7, hW7⟩ : ∃ W7, W7 = V7.alloc (.cells #[.int .i8 5, .int .i64 0, .string ⟨#[]⟩, .string ⟨#[]⟩, .slice A 2 cap] 25) := ⟨_, rfl⟩
  have bW7 : Below V7.heap.size V7 W7 := by rw [hW7]; exact (Below.refl _ _).alloc (Nat.le_refl _) _
  have gW7 : W7.heap[V7.heap.size]? = some (.cells #[.int .i8 5, .int .i64 0, .string ⟨#[]⟩, .string ⟨#[]⟩, .slice A 2 cap] 25 (0, 0)) := by rw [hW7]; exact block_alloc _ _
  have h67 : Below V6.heap.size V6 W7 := b7.trans (bW7.mono b7.size)
  have hB7 : Below w.heap.size w W7 := HB6.out.trans (h67.mono HB6.out.size)
  have hT7 : TmAt (· < W7.heap.size) W7 tW (.agg #[.int .i8 5, .int .i64 0, .string ⟨#[]⟩, .string ⟨#[]⟩, .slice A 2 cap]) := hTm.keep (fun b hb => bW7.block b hb.2) (fun b hb => Nat.lt_of_lt_of_le hb.2 bW7.size)
  have TX := rText_any tW _ W7 tW_plain tW_check hT7 (Go.Lib.tabBelow_of_tabIs HPW.out _ hB7)
  rw [tW_text] at TX
  have HTX := Lib.hid TX
  have HB7 := Lib.hid hB7
  have HA7 := Lib.hid (HA6.out.under h67)
  have y0 : W7.cell? ⟨V7.heap.size, 0, none⟩ = some (.int .i8 5) := cell_of_row gW7 rfl
  have y1 : W7.cell? ⟨V7.heap.size, 1, none⟩ = some (.int .i64 0) := cell_of_row gW7 rfl
  have y2 : W7.cell? ⟨V7.heap.size, 2, none⟩ = some (.string ⟨#[]⟩) := cell_of_row gW7 rfl
  have y3 : W7.cell? ⟨V7.heap.size, 3, none⟩ = some (.string ⟨#[]⟩) := cell_of_row gW7 rfl
  have y4 : W7.cell? ⟨V7.heap.size, 4, none⟩ = some (.slice A 2 cap) := cell_of_row gW7 rfl
  clear TX hB7 h67 gW7 bW7 hT7 hTm b7 x0 x1 x2 x3 x4 x5 x6
  subst hW7
  go_wp2_with fail
  refine HTX.out.mono ?_
  rintro e V8 ⟨rfl, b8⟩
  have HA8 := Lib.hid (HA7.out.under b8)
  have HB8 := Lib.hid (HB7.out.trans (b8.mono HB7.out.size))
  have HL := Lib.hid (Len_any V8 HA8.out)
  have HWD := Lib.hid (Words_any V8 HA8.out)
  rw [HC2.out, show (([cW1, cW2].length : Nat) : Int) = 2 from rfl] at HL
  rw [HS2.out, show ((5 : Nat) : Int) = 5 from rfl] at HWD
  clear b8 y0 y1 y2 y3 y4
  go_wp2_with fail
  refine HL.out.mono ?_
  rintro e V9 ⟨rfl, rfl⟩
  go_wp2_with fail
  refine HWD.out.mono ?_
  rintro e V9 ⟨rfl, rfl⟩
  go_wp2_with fail
  go_ret
  exact ⟨rfl, HB8.out⟩
end Go.Proofs.YtphfekcacaaabaaDoor
