/- HeapNil: its walk. -/
import Derived.Test.YtphfekcacaaabaaDoorWakes04
import Derived.Test.YtphfekcacaaabaaDoorOpenW
set_option linter.unusedVariables false
namespace Go.Proofs.YtphfekcacaaabaaDoor
open Go.RowKit

set_option maxHeartbeats 4000000 in
set_option maxRecDepth 100000 in
theorem walk_HeapNil (v0 v1 : Value) (n : Int) (hn : (Lit.int .i64 n).wf = true) (w : World) (o0 : ∃ t, TmAt (· < w.heap.size) w t v0) (o1 : ∃ q, WordIs w q v1) (hL : Spans w ∧ PowTab w) :
    Calls Tryd.prog 3 #[v0, v1, .int .i64 n] w fun e w' => e = .returned (.bool true) ∧ Below w.heap.size w w' := by
  obtain ⟨x, hx⟩ := o0
  obtain ⟨k, m, s, t, l⟩ := x
  obtain ⟨A, cap, rfl, -⟩ := hx.parts
  obtain ⟨q, k', m', s', t', l', A', cap', -, rfl, -, -⟩ := o1
  obtain ⟨c, a, y⟩ := q
  have HSP := Lib.hid hL.1
  have HPW := Lib.hid hL.2
  obtain ⟨wa, hwa⟩ : ∃ wa, wa = w.alloc (.cells #[.int .i8 k, .int .i64 m, .string s, .string t, .slice A l.length cap] 25) := ⟨_, rfl⟩
  obtain ⟨w1, hw1⟩ : ∃ w1, w1 = wa.alloc (.cells #[.bool c, .int .i64 a, .int .i8 k', .int .i64 m', .string s', .string t', .slice A' l'.length cap'] 27) := ⟨_, rfl⟩
  have za : wa.heap.size = w.heap.size + 1 := by rw [hwa]; exact World.size_alloc _ _
  have B1 : Below w.heap.size w w1 := by rw [hw1, hwa]; exact ((Below.refl _ w).alloc (Nat.le_refl _) _).alloc (by simp) _
  have gT : w1.heap[w.heap.size]? = some (.cells #[.int .i8 k, .int .i64 m, .string s, .string t, .slice A l.length cap] 25 (0, 0)) := by
    rw [hw1, Below.heap_alloc _ _ _ (by omega), hwa]; exact block_alloc _ _
  have gW : w1.heap[w.heap.size + 1]? = some (.cells #[.bool c, .int .i64 a, .int .i8 k', .int .i64 m', .string s', .string t', .slice A' l'.length cap'] 27 (0, 0)) := by
    rw [hw1, ← za]; exact block_alloc _ _
  have HB1 := Lib.hid B1
  have HGW := Lib.hid gW
  clear hL hx B1 gW gT za hn
  subst hwa
  go_enter Tryd.func3, Tryd.ntmps3
  go_wp2_with fail
  rw [← hw1]
  clear hw1
  refine (Put_nil _ _ _ _ _ w1).mono ?_
  rintro e V1 ⟨rfl, b1⟩
  have HB2 := Lib.hid (HB1.out.trans (b1.mono HB1.out.size))
  have HG2 := Lib.hid ((b1.block _ (heap_lt HGW.out)).trans HGW.out)
  clear b1
  unfold word0
  go_wp2_with fail
  obtain ⟨W2, hW2⟩ : ∃ W2, W2 = V1.alloc (.cells #[.bool false, .int .i64 0, .int .i8 0, .int .i64 0, .string ⟨#[]⟩, .string ⟨#[]⟩, .slice none 0 0] 27) := ⟨_, rfl⟩
  have b2 : Below V1.heap.size V1 W2 := by rw [hW2]; exact (Below.refl _ _).alloc (Nat.le_refl _) _
  have HB3 := Lib.hid (HB2.out.trans (b2.mono HB2.out.size))
  have HG3 := Lib.hid ((b2.block _ (heap_lt HG2.out)).trans HG2.out)
  rw [← hW2]
  clear b2 hW2
  refine (Make_nil _ _ _ _ W2).mono ?_
  rintro e V3 ⟨rfl, b3⟩
  have HB4 := Lib.hid (HB3.out.trans (b3.mono HB3.out.size))
  have HG4 := Lib.hid ((b3.block _ (heap_lt HG3.out)).trans HG3.out)
  clear b3
  unfold word0
  obtain ⟨W4, hW4⟩ : ∃ W4, W4 = V3.alloc (.cells #[.bool false, .int .i64 0, .int .i8 0, .int .i64 0, .string ⟨#[]⟩, .string ⟨#[]⟩, .slice none 0 0] 27) := ⟨_, rfl⟩
  have b4 : Below V3.heap.size V3 W4 := by rw [hW4]; exact (Below.refl _ _).alloc (Nat.le_refl _) _
  have HB5 := Lib.hid (HB4.out.trans (b4.mono HB4.out.size))
  have g5 := (b4.block _ (heap_lt HG4.out)).trans HG4.out
  have x0 := cell_of_row (i := 0) g5 rfl
  have x1 := cell_of_row (i := 1) g5 rfl
  have x2 := cell_of_row (i := 2) g5 rfl
  have x3 := cell_of_row (i := 3) g5 rfl
  have x4 := cell_of_row (i := 4) g5 rfl
  have x5 := cell_of_row (i := 5) g5 rfl
  have x6 := cell_of_row (i := 6) g5 rfl
  have HG5 := Lib.hid g5
  clear b4 g5
  subst hW4
  go_wp2_with fail
  refine (Take_nil _ _ _ _ _ _ _ _).mono ?_
  rintro e V6 ⟨rfl, b6⟩
  have HB6 := Lib.hid (HB5.out.trans (b6.mono HB5.out.size))
  have HG6 := Lib.hid ((b6.block _ (heap_lt HG5.out)).trans HG5.out)
  clear b6 x0 x1 x2 x3 x4 x5 x6
  unfold term0
  obtain ⟨W7, hW7⟩ : ∃ W7, W7 = V6.alloc (.cells #[.int .i8 0, .int .i64 0, .string ⟨#[]⟩, .string ⟨#[]⟩, .slice none 0 0] 25) := ⟨_, rfl⟩
  have b7 : Below V6.heap.size V6 W7 := by rw [hW7]; exact (Below.refl _ _).alloc (Nat.le_refl _) _
  have HB7 := Lib.hid (HB6.out.trans (b7.mono HB6.out.size))
  have g7 := (b7.block _ (heap_lt HG6.out)).trans HG6.out
  have x0 := cell_of_row (i := 0) g7 rfl
  have x1 := cell_of_row (i := 1) g7 rfl
  have x2 := cell_of_row (i := 2) g7 rfl
  have x3 := cell_of_row (i := 3) g7 rfl
  have x4 := cell_of_row (i := 4) g7 rfl
  have x5 := cell_of_row (i := 5) g7 rfl
  have x6 := cell_of_row (i := 6) g7 rfl
  have HG7 := Lib.hid g7
  clear b7 g7
  subst hW7
  go_wp2_with fail
  refine (Size_nil _ _ _ _ _ _ _ _).mono ?_
  rintro e V8 ⟨rfl, b8⟩
  have HB8 := Lib.hid (HB7.out.trans (b8.mono HB7.out.size))
  have HG8 := Lib.hid ((b8.block _ (heap_lt HG7.out)).trans HG7.out)
  clear b8 x0 x1 x2 x3 x4 x5 x6
  go_wp2_with fail
  refine (Cell_nil _ _).mono ?_
  rintro e V9 ⟨rfl, b9⟩
  have HB9 := Lib.hid (HB8.out.trans (b9.mono HB8.out.size))
  have HG9 := Lib.hid ((b9.block _ (heap_lt HG8.out)).trans HG8.out)
  clear b9
  unfold cell0
  obtain ⟨W10, hW10⟩ : ∃ W10, W10 = V9.alloc (.cells #[.int .i8 0, .int .i64 0, .slice none 0 0] 39) := ⟨_, rfl⟩
  have b10 : Below V9.heap.size V9 W10 := by rw [hW10]; exact (Below.refl _ _).alloc (Nat.le_refl _) _
  have HB10 := Lib.hid (HB9.out.trans (b10.mono HB9.out.size))
  have g10 := (b10.block _ (heap_lt HG9.out)).trans HG9.out
  have x0 := cell_of_row (i := 0) g10 rfl
  have x1 := cell_of_row (i := 1) g10 rfl
  have x2 := cell_of_row (i := 2) g10 rfl
  have x3 := cell_of_row (i := 3) g10 rfl
  have x4 := cell_of_row (i := 4) g10 rfl
  have x5 := cell_of_row (i := 5) g10 rfl
  have x6 := cell_of_row (i := 6) g10 rfl
  clear b10 g10
  subst hW10
  go_wp2_with fail
  refine (May_nil _ _ _ _ _ _ _ _).mono ?_
  rintro e V11 ⟨rfl, b11⟩
  have HB11 := Lib.hid (HB10.out.trans (b11.mono HB10.out.size))
  clear b11 x0 x1 x2 x3 x4 x5 x6
  go_wp2_with fail
  refine (Len_nil _).mono ?_
  rintro e V12 ⟨rfl, rfl⟩
  go_wp2_with fail
  refine (Words_nil _).mono ?_
  rintro e V12 ⟨rfl, rfl⟩
  go_wp2_with fail
  refine (wakes4_ok _ (HSP.out.below HB11.out HSP.out.lt) (Go.Lib.tabBelow_of_tabIs HPW.out _ HB11.out)).mono ?_
  rintro e V13 ⟨rfl, b13⟩
  have HB13 := Lib.hid (HB11.out.trans (b13.mono HB11.out.size))
  clear b13
  go_wp2_with fail
  go_ret
  exact ⟨rfl, HB13.out⟩
end Go.Proofs.YtphfekcacaaabaaDoor
