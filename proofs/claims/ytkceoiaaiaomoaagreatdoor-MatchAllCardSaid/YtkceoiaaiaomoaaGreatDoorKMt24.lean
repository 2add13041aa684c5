/- Layer 10: the document's own fill: its contract. -/
import Derived.Test.YtkceoiaaiaomoaaGreatDoorKMt23
set_option linter.unusedVariables false
set_option linter.unusedSimpArgs false
namespace Go.Proofs.YtkceoiaaiaomoaaGreatDoor
open Go.RowKit

def RfilC (l : List Bd) (x : Tm) : Prop := ∀ (n0 n1 : Nat) (v : Value) (A : Option Addr) (m cap : Nat) (W : World), TmAt (· < W.heap.size) W x v → BRT n0 n1 W A m cap l → n1 ≤ W.heap.size →
  Calls Tryz.prog 86 #[v, .slice A m cap] W fun e w' => ∃ (k n : Int) (s t : ByteArray) (A' : Option Addr) (m' c' : Nat), e = .returned (.agg #[.int .i8 k, .int .i64 n, .string s, .string t, .slice A' m' c']) ∧
    TmAt (fun b => b < n0 ∨ (W.heap.size ≤ b ∧ b < w'.heap.size)) w' (filT l x) (.agg #[.int .i8 k, .int .i64 n, .string s, .string t, .slice A' m' c']) ∧ Below W.heap.size W w'
set_option maxHeartbeats 8000000 in
set_option maxRecDepth 100000 in
theorem rfil_8 (l : List Bd) (n : Int) (s t : ByteArray) : RfilC l (.mk 8 n s t []) := by
  intro n0 n1 v A m cap W hT hR hn1
  obtain ⟨NA, nc, rfl, hRN, -, hn, hs, -⟩ := hT.parts
  obtain ⟨W2, hW2⟩ : ∃ w1, w1 = (W.alloc (.cells #[.int .i8 8, .int .i64 n, .string s, .string t, .slice NA 0 nc] 25)).alloc (.cells #[.int .i8 0, .int .i64 0, .string ⟨#[]⟩, .string ⟨#[]⟩, .slice none 0 0] 44) := ⟨_, rfl⟩
  have g0 := there_of (.cells #[.int .i8 0, .int .i64 0, .string ⟨#[]⟩, .string ⟨#[]⟩, .slice none 0 0] 44) (block_alloc W (.cells #[.int .i8 8, .int .i64 n, .string s, .string t, .slice NA 0 nc] 25))
  have g1 := block_alloc (W.alloc (.cells #[.int .i8 8, .int .i64 n, .string s, .string t, .slice NA 0 nc] 25)) (.cells #[.int .i8 0, .int .i64 0, .string ⟨#[]⟩, .string ⟨#[]⟩, .slice none 0 0] 44)
  rw [World.size_alloc] at g1
  have b2 : Below W.heap.size W W2 := by rw [hW2]; exact ((Below.refl _ W).alloc (Nat.le_refl _) _).alloc (by simp) _
  have z2 : W2.heap.size = W.heap.size + 2 := by rw [hW2, World.size_alloc, World.size_alloc]
  rw [← hW2] at g0 g1
  have HB2 := Lib.hid b2
  have HG0 := Lib.hid g0
  have HG1 := Lib.hid g1
  have HZ2 := Lib.hid z2
  have HNN := Lib.hid hn
  have HSS := Lib.hid hs
  have HN1 : Hid (n1 ≤ W.heap.size) := hn1
  have HN0 : Hid (n0 ≤ W.heap.size) := Nat.le_trans hR.le hn1
  have HR := Lib.hid (hR.under b2 hn1)
  have HRN := Lib.hid hRN
  have hml := hRN.max
  unfold maxLen at hml
  obtain ⟨x0, x1, x2, x3, x4⟩ := five_of g0
  clear g0 b2 z2 hT hR hRN hn1 hn hs
  clear g1
  go_enter Tryz.func86, Tryz.ntmps86
  go_upto_region 1 with fail
  rw [← hW2]
  clear hW2
  have g9 := HG1.out
  obtain ⟨⟨r0, r1, r2, r3, r4⟩, rf0, rf1, rf2, rf3, rf4⟩ := five_fr g9
  have S5 := Lib.hid (set_five (.int .i8 6) (.int .i64 0) (.string ⟨#[]⟩) (.string ⟨#[]⟩) (.slice none 0 0) g9)
  go_wp2_with fail
  obtain ⟨s5, m5⟩ := S5.out
  generalize ((((((W2).setCell ⟨W.heap.size + 1, 0, none⟩ (.int .i8 6)).setCell ⟨W.heap.size + 1, 1, none⟩ (.int .i64 0)).setCell ⟨W.heap.size + 1, 2, none⟩ (.string ⟨#[]⟩)).setCell ⟨W.heap.size + 1, 3, none⟩ (.string ⟨#[]⟩)).setCell ⟨W.heap.size + 1, 4, none⟩ (.slice none 0 0)) = VX at s5 m5 ⊢
  obtain ⟨z0, z1, z2, z3, z4⟩ := five_of s5
  refine bodyPost_ret (v := .agg #[.int .i8 6, .int .i64 0, .string ⟨#[]⟩, .string ⟨#[]⟩, .slice none 0 0]) (by simp [results, Tryz.f86, go_sem, z0, z1, z2, z3, z4]) rfl ?_
  have hx9 := m5.size
  refine ⟨_, _, _, _, _, _, _, rfl, ?_, HB2.out.trans (m5.below HB2.out.size (fun q (e : q = _) => by omega))⟩
  rw [filT_8]
  exact TmAt.of_row (.nil _ _ none 0) (by decide) (by decide) (by decide) (by decide)
set_option maxHeartbeats 8000000 in
set_option maxRecDepth 100000 in
theorem rfil_6 (l : List Bd) (n : Int) (s t : ByteArray) : RfilC l (.mk 6 n s t []) := by
  intro n0 n1 v A m cap W hT hR hn1
  obtain ⟨NA, nc, rfl, hRN, -, hn, hs, -⟩ := hT.parts
  obtain ⟨W2, hW2⟩ : ∃ w1, w1 = (W.alloc (.cells #[.int .i8 6, .int .i64 n, .string s, .string t, .slice NA 0 nc] 25)).alloc (.cells #[.int .i8 0, .int .i64 0, .string ⟨#[]⟩, .string ⟨#[]⟩, .slice none 0 0] 44) := ⟨_, rfl⟩
  have g0 := there_of (.cells #[.int .i8 0, .int .i64 0, .string ⟨#[]⟩, .string ⟨#[]⟩, .slice none 0 0] 44) (block_alloc W (.cells #[.int .i8 6, .int .i64 n, .string s, .string t, .slice NA 0 nc] 25))
  have g1 := block_alloc (W.alloc (.cells #[.int .i8 6, .int .i64 n, .string s, .string t, .slice NA 0 nc] 25)) (.cells #[.int .i8 0, .int .i64 0, .string ⟨#[]⟩, .string ⟨#[]⟩, .slice none 0 0] 44)
  rw [World.size_alloc] at g1
  have b2 : Below W.heap.size W W2 := by rw [hW2]; exact ((Below.refl _ W).alloc (Nat.le_refl _) _).alloc (by simp) _
  have z2 : W2.heap.size = W.heap.size + 2 := by rw [hW2, World.size_alloc, World.size_alloc]
  rw [← hW2] at g0 g1
  have HB2 := Lib.hid b2
  have HG0 := Lib.hid g0
  have HG1 := Lib.hid g1
  have HZ2 := Lib.hid z2
  have HNN := Lib.hid hn
  have HSS := Lib.hid hs
  have HN1 : Hid (n1 ≤ W.heap.size) := hn1
  have HN0 : Hid (n0 ≤ W.heap.size) := Nat.le_trans hR.le hn1
  have HR := Lib.hid (hR.under b2 hn1)
  have HRN := Lib.hid hRN
  have hml := hRN.max
  unfold maxLen at hml
  obtain ⟨x0, x1, x2, x3, x4⟩ := five_of g0
  clear g0 b2 z2 hT hR hRN hn1 hn hs
  clear g1
  go_enter Tryz.func86, Tryz.ntmps86
  go_upto_region 1 with fail
  rw [← hW2]
  clear hW2
  go_wp2_with fail
  refine (rInt_any n W2).mono ?_
  rintro e W3 ⟨rfl, b3⟩
  have HB3 := Lib.hid (HB2.out.trans (b3.mono HB2.out.size))
  have HG13 := Lib.hid ((b3.block _ (heap_lt HG1.out)).trans HG1.out)
  clear b3 x0 x1 x2 x3 x4
  have g9 := HG13.out
  obtain ⟨⟨r0, r1, r2, r3, r4⟩, rf0, rf1, rf2, rf3, rf4⟩ := five_fr g9
  have S5 := Lib.hid (set_five (.int .i8 0) (.int .i64 n) (.string ⟨#[]⟩) (.string ⟨#[]⟩) (.slice none 0 0) g9)
  go_wp2_with fail
  obtain ⟨s5, m5⟩ := S5.out
  generalize ((((((W3).setCell ⟨W.heap.size + 1, 0, none⟩ (.int .i8 0)).setCell ⟨W.heap.size + 1, 1, none⟩ (.int .i64 n)).setCell ⟨W.heap.size + 1, 2, none⟩ (.string ⟨#[]⟩)).setCell ⟨W.heap.size + 1, 3, none⟩ (.string ⟨#[]⟩)).setCell ⟨W.heap.size + 1, 4, none⟩ (.slice none 0 0)) = VX at s5 m5 ⊢
  obtain ⟨z0, z1, z2, z3, z4⟩ := five_of s5
  refine bodyPost_ret (v := .agg #[.int .i8 0, .int .i64 n, .string ⟨#[]⟩, .string ⟨#[]⟩, .slice none 0 0]) (by simp [results, Tryz.f86, go_sem, z0, z1, z2, z3, z4]) rfl ?_
  have hx9 := m5.size
  refine ⟨_, _, _, _, _, _, _, rfl, ?_, HB3.out.trans (m5.below HB3.out.size (fun q (e : q = _) => by omega))⟩
  rw [filT_6]
  exact TmAt.of_row (.nil _ _ none 0) (by decide) HNN.out (by decide) (by decide)
set_option maxHeartbeats 8000000 in
set_option maxRecDepth 100000 in
theorem rfil_7 (l : List Bd) (n : Int) (s t : ByteArray) : RfilC l (.mk 7 n s t []) := by
  intro n0 n1 v A m cap W hT hR hn1
  obtain ⟨NA, nc, rfl, hRN, -, hn, hs, -⟩ := hT.parts
  obtain ⟨W2, hW2⟩ : ∃ w1, w1 = (W.alloc (.cells #[.int .i8 7, .int .i64 n, .string s, .string t, .slice NA 0 nc] 25)).alloc (.cells #[.int .i8 0, .int .i64 0, .string ⟨#[]⟩, .string ⟨#[]⟩, .slice none 0 0] 44) := ⟨_, rfl⟩
  have g0 := there_of (.cells #[.int .i8 0, .int .i64 0, .string ⟨#[]⟩, .string ⟨#[]⟩, .slice none 0 0] 44) (block_alloc W (.cells #[.int .i8 7, .int .i64 n, .string s, .string t, .slice NA 0 nc] 25))
  have g1 := block_alloc (W.alloc (.cells #[.int .i8 7, .int .i64 n, .string s, .string t, .slice NA 0 nc] 25)) (.cells #[.int .i8 0, .int .i64 0, .string ⟨#[]⟩, .string ⟨#[]⟩, .slice none 0 0] 44)
  rw [World.size_alloc] at g1
  have b2 : Below W.heap.size W W2 := by rw [hW2]; exact ((Below.refl _ W).alloc (Nat.le_refl _) _).alloc (by simp) _
  have z2 : W2.heap.size = W.heap.size + 2 := by rw [hW2, World.size_alloc, World.size_alloc]
  rw [← hW2] at g0 g1
  have HB2 := Lib.hid b2
  have HG0 := Lib.hid g0
  have HG1 := Lib.hid g1
  have HZ2 := Lib.hid z2
  have HNN := Lib.hid hn
  have HSS := Lib.hid hs
  have HN1 : Hid (n1 ≤ W.heap.size) := hn1
  have HN0 : Hid (n0 ≤ W.heap.size) := Nat.le_trans hR.le hn1
  have HR := Lib.hid (hR.under b2 hn1)
  have HRN := Lib.hid hRN
  have hml := hRN.max
  unfold maxLen at hml
  obtain ⟨x0, x1, x2, x3, x4⟩ := five_of g0
  clear g0 b2 z2 hT hR hRN hn1 hn hs
  clear g1
  go_enter Tryz.func86, Tryz.ntmps86
  go_upto_region 1 with fail
  rw [← hW2]
  clear hW2
  go_wp2_with fail
  refine (rAtom_any s W2).mono ?_
  rintro e W3 ⟨rfl, b3⟩
  have HB3 := Lib.hid (HB2.out.trans (b3.mono HB2.out.size))
  have HG13 := Lib.hid ((b3.block _ (heap_lt HG1.out)).trans HG1.out)
  clear b3 x0 x1 x2 x3 x4
  have g9 := HG13.out
  obtain ⟨⟨r0, r1, r2, r3, r4⟩, rf0, rf1, rf2, rf3, rf4⟩ := five_fr g9
  have S5 := Lib.hid (set_five (.int .i8 1) (.int .i64 0) (.string s) (.string ⟨#[]⟩) (.slice none 0 0) g9)
  go_wp2_with fail
  obtain ⟨s5, m5⟩ := S5.out
  generalize ((((((W3).setCell ⟨W.heap.size + 1, 0, none⟩ (.int .i8 1)).setCell ⟨W.heap.size + 1, 1, none⟩ (.int .i64 0)).setCell ⟨W.heap.size + 1, 2, none⟩ (.string s)).setCell ⟨W.heap.size + 1, 3, none⟩ (.string ⟨#[]⟩)).setCell ⟨W.heap.size + 1, 4, none⟩ (.slice none 0 0)) = VX at s5 m5 ⊢
  obtain ⟨z0, z1, z2, z3, z4⟩ := five_of s5
  refine bodyPost_ret (v := .agg #[.int .i8 1, .int .i64 0, .string s, .string ⟨#[]⟩, .slice none 0 0]) (by simp [results, Tryz.f86, go_sem, z0, z1, z2, z3, z4]) rfl ?_
  have hx9 := m5.size
  refine ⟨_, _, _, _, _, _, _, rfl, ?_, HB3.out.trans (m5.below HB3.out.size (fun q (e : q = _) => by omega))⟩
  rw [filT_7]
  exact TmAt.of_row (.nil _ _ none 0) (by decide) (by decide) HSS.out (by decide)
set_option maxHeartbeats 8000000 in
set_option maxRecDepth 100000 in
theorem rfil_5 (l : List Bd) (n : Int) (s t : ByteArray) : RfilC l (.mk 5 n s t []) := by
  intro n0 n1 v A m cap W hT hR hn1
  obtain ⟨NA, nc, rfl, hRN, -, hn, hs, -⟩ := hT.parts
  obtain ⟨W2, hW2⟩ : ∃ w1, w1 = (W.alloc (.cells #[.int .i8 5, .int .i64 n, .string s, .string t, .slice NA 0 nc] 25)).alloc (.cells #[.int .i8 0, .int .i64 0, .string ⟨#[]⟩, .string ⟨#[]⟩, .slice none 0 0] 44) := ⟨_, rfl⟩
  have g0 := there_of (.cells #[.int .i8 0, .int .i64 0, .string ⟨#[]⟩, .string ⟨#[]⟩, .slice none 0 0] 44) (block_alloc W (.cells #[.int .i8 5, .int .i64 n, .string s, .string t, .slice NA 0 nc] 25))
  have g1 := block_alloc (W.alloc (.cells #[.int .i8 5, .int .i64 n, .string s, .string t, .slice NA 0 nc] 25)) (.cells #[.int .i8 0, .int .i64 0, .string ⟨#[]⟩, .string ⟨#[]⟩, .slice none 0 0] 44)
  rw [World.size_alloc] at g1
  have b2 : Below W.heap.size W W2 := by rw [hW2]; exact ((Below.refl _ W).alloc (Nat.le_refl _) _).alloc (by simp) _
  have z2 : W2.heap.size = W.heap.size + 2 := by rw [hW2, World.size_alloc, World.size_alloc]
  rw [← hW2] at g0 g1
  have HB2 := Lib.hid b2
  have HG0 := Lib.hid g0
  have HG1 := Lib.hid g1
  have HZ2 := Lib.hid z2
  have HNN := Lib.hid hn
  have HSS := Lib.hid hs
  have HN1 : Hid (n1 ≤ W.heap.size) := hn1
  have HN0 : Hid (n0 ≤ W.heap.size) := Nat.le_trans hR.le hn1
  have HR := Lib.hid (hR.under b2 hn1)
  have HRN := Lib.hid hRN
  have hml := hRN.max
  unfold maxLen at hml
  obtain ⟨x0, x1, x2, x3, x4⟩ := five_of g0
  clear g0 b2 z2 hT hR hRN hn1 hn hs
  clear g1
  go_enter Tryz.func86, Tryz.ntmps86
  go_upto_region 1 with fail
  rw [← hW2]
  clear hW2
  go_wp2_with fail
  refine (rFind10_any n0 n1 l s A m cap W2 HR.out (Nat.le_trans HN1.out HB2.out.size)).mono ?_
  rintro e W3 ⟨k9, n9, s9, t9, A9, m9, c9, rfl, hy, hno, b3⟩
  have hv : TmAt (fun b => b < n0 ∨ (W2.heap.size ≤ b ∧ b < W3.heap.size)) W3 ((findB l s).getD (intT 0)) (.agg #[.int .i8 k9, .int .i64 n9, .string s9, .string t9, .slice A9 m9 c9]) := by
    cases hf : findB l s with
    | none => exact (hno hf).mono (fun q hq => .inl hq)
    | some y => exact hy y hf
  have HV := Lib.hid hv
  have HB3 := Lib.hid (HB2.out.trans (b3.mono HB2.out.size))
  have HB23 : Hid (W2.heap.size ≤ W3.heap.size) := b3.size
  obtain ⟨W4, hW4⟩ : ∃ w, w = W3.alloc (.cells #[.int .i8 k9, .int .i64 n9, .string s9, .string t9, .slice A9 m9 c9] 44) := ⟨_, rfl⟩
  obtain ⟨g4, hg4⟩ : ∃ g, g = W3.heap.size := ⟨_, rfl⟩
  have b4 : Below W3.heap.size W3 W4 := by rw [hW4]; exact (Below.refl _ _).alloc (Nat.le_refl _) _
  have r4 : W4.heap[g4]? = some (.cells #[.int .i8 k9, .int .i64 n9, .string s9, .string t9, .slice A9 m9 c9] 44 (0, 0)) := by rw [hW4, hg4]; exact block_alloc _ _
  have HB4 := Lib.hid (HB3.out.trans (b4.mono HB3.out.size))
  have HB34 := Lib.hid b4
  have HG14 := Lib.hid ((b4.block _ (by have := heap_lt HG1.out; have := b3.size; omega)).trans ((b3.block _ (heap_lt HG1.out)).trans HG1.out))
  clear hy hno hv b3 b4 x0 x1 x2 x3 x4
  generalize (findB l s).isSome = bf
  go_upto_region 4 with fail
  rw [← hW4, ← hg4]
  clear hW4 hg4
  obtain ⟨y0, y1, y2, y3, y4⟩ := five_of r4
  clear r4
  have g9 := HG14.out
  obtain ⟨⟨r0, r1, r2, r3, r4⟩, rf0, rf1, rf2, rf3, rf4⟩ := five_fr g9
  have S5 := Lib.hid (set_five (.int .i8 k9) (.int .i64 n9) (.string s9) (.string t9) (.slice A9 m9 c9) g9)
  go_wp2_with fail
  obtain ⟨s5, m5⟩ := S5.out
  generalize ((((((W4).setCell ⟨W.heap.size + 1, 0, none⟩ (.int .i8 k9)).setCell ⟨W.heap.size + 1, 1, none⟩ (.int .i64 n9)).setCell ⟨W.heap.size + 1, 2, none⟩ (.string s9)).setCell ⟨W.heap.size + 1, 3, none⟩ (.string t9)).setCell ⟨W.heap.size + 1, 4, none⟩ (.slice A9 m9 c9)) = VX at s5 m5 ⊢
  obtain ⟨z0, z1, z2, z3, z4⟩ := five_of s5
  refine bodyPost_ret (v := .agg #[.int .i8 k9, .int .i64 n9, .string s9, .string t9, .slice A9 m9 c9]) (by simp [results, Tryz.f86, go_sem, z0, z1, z2, z3, z4]) rfl ?_
  have hx9 := m5.size
  refine ⟨_, _, _, _, _, _, _, rfl, ?_, HB4.out.trans (m5.below HB4.out.size (fun q (e : q = _) => by omega))⟩
  rw [filT_5]
  have h1 := HB23.out
  have h2 := HB34.out.size
  have h3 := HZ2.out
  have h4 := HN0.out
  exact HV.out.keep (fun q hb => (m5.block q (by rcases hb with h | h <;> omega) (by rcases hb with h | h <;> omega)).trans (HB34.out.block q (by rcases hb with h | h <;> omega))) (fun q hb => by rcases hb with h | h; (exact .inl h); (exact .inr ⟨by omega, by omega⟩))
set_option maxHeartbeats 8000000 in
set_option maxRecDepth 100000 in
theorem rfil_10 (l : List Bd) (n : Int) (s t : ByteArray) (ps : List Tm) (ih : ∀ y ∈ ps, RfilC l y) (hpl : ps.length ≤ 100000) : RfilC l (.mk 10 n s t ps) := by
  intro n0 n1 v A m cap W hT hR hn1
  obtain ⟨NA, nc, rfl, hRN, -, hn, hs, -⟩ := hT.parts
  obtain ⟨W2, hW2⟩ : ∃ w1, w1 = (W.alloc (.cells #[.int .i8 10, .int .i64 n, .string s, .string t, .slice NA ps.length nc] 25)).alloc (.cells #[.int .i8 0, .int .i64 0, .string ⟨#[]⟩, .string ⟨#[]⟩, .slice none 0 0] 44) := ⟨_, rfl⟩
  have g0 := there_of (.cells #[.int .i8 0, .int .i64 0, .string ⟨#[]⟩, .string ⟨#[]⟩, .slice none 0 0] 44) (block_alloc W (.cells #[.int .i8 10, .int .i64 n, .string s, .string t, .slice NA ps.length nc] 25))
  have g1 := block_alloc (W.alloc (.cells #[.int .i8 10, .int .i64 n, .string s, .string t, .slice NA ps.length nc] 25)) (.cells #[.int .i8 0, .int .i64 0, .string ⟨#[]⟩, .string ⟨#[]⟩, .slice none 0 0] 44)
  rw [World.size_alloc] at g1
  have b2 : Below W.heap.size W W2 := by rw [hW2]; exact ((Below.refl _ W).alloc (Nat.le_refl _) _).alloc (by simp) _
  have z2 : W2.heap.size = W.heap.size + 2 := by rw [hW2, World.size_alloc, World.size_alloc]
  rw [← hW2] at g0 g1
  have HB2 := Lib.hid b2
  have HG0 := Lib.hid g0
  have HG1 := Lib.hid g1
  have HZ2 := Lib.hid z2
  have HNN := Lib.hid hn
  have HSS := Lib.hid hs
  have HN1 : Hid (n1 ≤ W.heap.size) := hn1
  have HN0 : Hid (n0 ≤ W.heap.size) := Nat.le_trans hR.le hn1
  have HR := Lib.hid (hR.under b2 hn1)
  have HRN := Lib.hid hRN
  have hml := hRN.max
  unfold maxLen at hml
  obtain ⟨x0, x1, x2, x3, x4⟩ := five_of g0
  clear g0 b2 z2 hT hR hRN hn1 hn hs
  have HIH := Lib.hid ih
  have HPL : Hid (ps.length ≤ 100000) := hpl
  obtain ⟨W3, hW3⟩ : ∃ w, w = W2.alloc (.cells #[.int .i8 5, .int .i64 0, .string ⟨#[]⟩, .string ⟨#[]⟩, .slice none 0 0] 44) := ⟨_, rfl⟩
  obtain ⟨g7, hg7⟩ : ∃ g, g = W2.heap.size := ⟨_, rfl⟩
  have b3 : Below W2.heap.size W2 W3 := by rw [hW3]; exact (Below.refl _ _).alloc (Nat.le_refl _) _
  have r3 : W3.heap[g7]? = some (.cells #[.int .i8 5, .int .i64 0, .string ⟨#[]⟩, .string ⟨#[]⟩, .slice none 0 0] 44 (0, 0)) := by rw [hW3, hg7]; exact block_alloc _ _
  have HG7 : Hid (g7 = W2.heap.size) := hg7
  have z3 : W3.heap.size = g7 + 1 := by rw [hW3, World.size_alloc, hg7]
  clear ih hpl g1
  go_enter Tryz.func86, Tryz.ntmps86
  go_upto_region 1 with fail
  rw [← hW2]
  clear hW2
  go_upto_region 12 with fail
  rw [← hW3, ← hg7]
  clear hW3 hg7 x0 x1 x2 x3 x4
  have x0 : W3.cell? ⟨W.heap.size, 0, none⟩ = some (.int .i8 10) := cell_of_row (i := 0) ((b3.block _ (heap_lt HG0.out)).trans HG0.out) rfl
  have HB7 := Lib.hid b3
  have HR7 : Hid (W3.heap[g7]? = some (.cells #[.int .i8 5, .int .i64 0, .string ⟨#[]⟩, .string ⟨#[]⟩, .slice none 0 0] 44 (0, 0))) := r3
  clear r3 b3 z3
  generalize W3 = W7 at HB7 HR7 x0 ⊢
  go_upto_region 14 with fail
  clear x0
  have HOWN : Hid (OwnT (g7 + 1) (PB n0 (g7 + 1) W7 (.slice none 0 0)) W7 (.slice none 0 0) ((ps.take 0).map (filT l))) := OwnT.nil _ _ _
  go_wp2_with fail
  go_loopw [8] (fun i wr => ∃ (j : Nat) (RA : Option Addr) (rc : Nat), j ≤ ps.length ∧ i = .int .i64 j ∧ Hid (Below W2.heap.size W2 wr) ∧ Hid (wr.heap[g7]? = some (.cells #[.int .i8 5, .int .i64 0, .string ⟨#[]⟩, .string ⟨#[]⟩, .slice RA j rc] 44 (0, 0))) ∧ Hid (OwnT (g7 + 1) (PB n0 (g7 + 1) wr (.slice RA j rc)) wr (.slice RA j rc) ((ps.take j).map (filT l)))) (fun i _ => ps.length - (intOf i).toNat)
  case atStart => exact ⟨0, none, 0, Nat.zero_le _, rfl, HB7, HR7, HOWN⟩
  case round =>
    obtain ⟨j, RA, rc, hj, rfl, HB, HRB, HO⟩ := hrel
    have HBW := Lib.hid (HB2.out.trans (HB.out.mono HB2.out.size))
    have hr0 := (HB.out.block _ (heap_lt HG0.out)).trans HG0.out
    have x4 : wr.cell? ⟨W.heap.size, 4, none⟩ = some (.slice NA ps.length nc) := cell_of_row (i := 4) hr0 rfl
    have HR0 := Lib.hid hr0
    clear hr0
    by_cases hlt : j < ps.length
    case neg =>
      obtain rfl : j = ps.length := by omega
      have hr1 := (HB.out.block _ (heap_lt HG1.out)).trans HG1.out
      have HR1 := Lib.hid hr1
      have hO := HO.out
      rw [List.take_length, ← filTs_map] at hO
      obtain ⟨hlen, htr⟩ := hO.trow (Q := fun b => b < n0 ∨ (g7 + 1 ≤ b ∧ b < wr.heap.size)) (fun b hb => hb.1) (fun b h1 h2 _ => .inr ⟨h1, h2⟩)
      have HTR := Lib.hid htr
      have hgb := HRB.out
      obtain ⟨y0, y1, y2, y3, y4⟩ := five_of hgb
      clear hr1 hO htr hgb hlen
      have g9 := HR1.out
      obtain ⟨⟨r0, r1, r2, r3, r4⟩, rf0, rf1, rf2, rf3, rf4⟩ := five_fr g9
      have S5 := Lib.hid (set_five (.int .i8 5) (.int .i64 0) (.string ⟨#[]⟩) (.string ⟨#[]⟩) (.slice RA ps.length rc) g9)
      go_wp2_with fail
      obtain ⟨s5, m5⟩ := S5.out
      generalize ((((((wr).setCell ⟨W.heap.size + 1, 0, none⟩ (.int .i8 5)).setCell ⟨W.heap.size + 1, 1, none⟩ (.int .i64 0)).setCell ⟨W.heap.size + 1, 2, none⟩ (.string ⟨#[]⟩)).setCell ⟨W.heap.size + 1, 3, none⟩ (.string ⟨#[]⟩)).setCell ⟨W.heap.size + 1, 4, none⟩ (.slice RA ps.length rc)) = VX at s5 m5 ⊢
      obtain ⟨z0, z1, z2, z3, z4⟩ := five_of s5
      refine bodyPost_ret (v := .agg #[.int .i8 5, .int .i64 0, .string ⟨#[]⟩, .string ⟨#[]⟩, .slice RA ps.length rc]) (by simp [results, Tryz.f86, go_sem, z0, z1, z2, z3, z4]) rfl ?_
      have hx9 := m5.size
      refine ⟨_, _, _, _, _, _, _, rfl, ?_, HBW.out.trans (m5.below HBW.out.size (fun q (e : q = _) => by omega))⟩
      have h3 := HZ2.out
      have h4 := HN0.out
      have h5 := HG7.out
      have hfin : TRow (fun b => b < n0 ∨ (W.heap.size ≤ b ∧ b < VX.heap.size)) VX RA ps.length rc (filTs l ps) := HTR.out.keep (fun q hb => m5.block q (by have := HBW.out.size; rcases hb with h | h <;> omega) (by rcases hb with h | h <;> omega)) (fun q hb => by rcases hb with h | h; (exact .inl h); (exact .inr ⟨by omega, by omega⟩))
      rw [filT_10]
      have hlf := hfin.len
      have hz := TmAt.of_row (k := 5) (n := 0) (s := ⟨#[]⟩) (t := ⟨#[]⟩) (l := filTs l ps) (by rw [hlf]; exact hfin) (by decide) (by decide) (by decide) (by decide)
      rw [hlf] at hz
      exact hz
    obtain ⟨y, hy⟩ : ∃ y, ps[j]? = some y := ⟨ps[j], List.getElem?_eq_getElem hlt⟩
    obtain ⟨ad, u1, rfl, had, hE, hTy⟩ := HRN.out.at_ j y hy
    have HTK : Hid ((ps.take (j + 1)).map (filT l) = (ps.take j).map (filT l) ++ [filT l y]) := by show _ = _; rw [List.take_add_one, hy, List.map_append]; rfl
    have HTY := Lib.hid hTy
    have HMEM := Lib.hid (List.mem_of_getElem? hy)
    obtain ⟨yk, yn, ys, yu, yL, yA, yc, hye, rfl⟩ : ∃ k' n' s' t' L' A' cap', y = Tm.mk k' n' s' t' L' ∧ u1 = .agg #[.int .i8 k', .int .i64 n', .string s', .string t', .slice A' L'.length cap'] := by
      cases hTy; exact ⟨_, _, _, _, _, _, _, rfl, rfl⟩
    have HEY : Hid (∀ V, Below W.heap.size W V → ElemAt V ad j (.agg #[.int .i8 yk, .int .i64 yn, .string ys, .string yu, .slice yA yL.length yc])) := fun V hV => hE.keep (hV.block ad.block had)
    have HLJ : Hid (((ps.take j).map (filT l)).length + 1 ≤ 1000000) := by have h := HPL.out; show _ ≤ _; rw [List.length_map, List.length_take]; omega
    have HJL : Hid (((ps.take j).map (filT l)).length = j) := by show _ = _; rw [List.length_map, List.length_take]; omega
    obtain ⟨z, hz⟩ : ∃ z, z = filT l y := ⟨_, rfl⟩
    have hih := HIH.out y HMEM.out n0 n1 (.agg #[.int .i8 yk, .int .i64 yn, .string ys, .string yu, .slice yA yL.length yc]) A m cap
    unfold RfilC at HIH
    rw [← hz] at hih HTK
    have HIHY := Lib.hid hih
    have i0 : (0 : Int) ≤ (j : Int) := by omega
    have i1 : (j : Int) < (ps.length : Int) := by omega
    have HGS : Hid (g7 + 1 ≤ wr.heap.size) := heap_lt HRB.out
    clear hy hE hTy had hye hz hih
    go_upto_region 17 with fail
    clear x4
    refine wp_region_E (S := fun V => Below (g7 + 1) wr V) [12] (by kernel_rfl) ⟨rfl, rfl, rfl, Nat.le_refl _, fun _ _ => rfl⟩ (fun hS => ?_)
    have hO : OwnT (g7 + 1) (PB n0 (g7 + 1) wr.drew (.slice RA j rc)) wr.drew (.slice RA j rc) ((ps.take j).map (filT l)) := HO.out.keep (F := fun _ => False) ⟨rfl, rfl, rfl, Nat.le_refl _, fun _ _ _ => rfl⟩ (fun _ _ f => f) (fun b hb => ⟨by have h1 := HGS.out; have h2 := HN0.out; have h3 := HZ2.out; have h4 := HG7.out; rcases hb.1 with h | h <;> omega, fun f => f⟩) (fun _ h => h)
    have hD : g7 + 1 ≤ wr.drew.heap.size := HGS.out
    generalize wr.drew = D at hS hO hD ⊢
    refine wpAnyE_take (i := 0) (oi := ⟨some 46, _, _, _, _, _⟩) (v := ?_) rfl (by kernel_rfl) (by kernel_rfl) (by kernel_rfl) (by kernel_rfl) (fun _ _ _ h => h) (Or.inl ⟨by kernel_rfl, ?_⟩) (by assumption) ?_; rotate_left; (intro w hSw; (try dsimp only at hSw); go_simp; first | done | with_reducible rfl); (try simp only [Act.put, sI, sZ, sS])
    refine wpAnyE_take (i := 1) (oi := ⟨some 47, _, _, _, _, _⟩) (v := ?_) rfl (by kernel_rfl) (by kernel_rfl) (by kernel_rfl) (by kernel_rfl) (fun _ _ _ h => h) (Or.inl ⟨by kernel_rfl, ?_⟩) (by assumption) ?_; rotate_left; (intro w hSw; (try dsimp only at hSw); have hb7 := (hSw.block g7 (by omega)).trans HRB.out; have y4 : w.cell? ⟨g7, 4, none⟩ = some (.slice RA j rc) := cell_of_row (i := 4) hb7 rfl; go_simp; first | done | with_reducible rfl); (try simp only [Act.put, sI, sZ, sS])
    refine wpAnyE_take (i := 2) (oi := ⟨some 48, _, _, _, _, _⟩) (v := ?_) rfl (by kernel_rfl) (by kernel_rfl) (by kernel_rfl) (by kernel_rfl) (fun _ _ _ h => h) (Or.inl ⟨by kernel_rfl, ?_⟩) (by assumption) ?_; rotate_left; (intro w hSw; (try dsimp only at hSw); go_simp; first | done | with_reducible rfl); (try simp only [Act.put, sI, sZ, sS])
    refine wpAnyE_take (i := 3) (oi := ⟨some 49, _, _, _, _, _⟩) (v := ?_) rfl (by kernel_rfl) (by kernel_rfl) (by kernel_rfl) (by kernel_rfl) (fun _ _ _ h => h) (Or.inl ⟨by kernel_rfl, ?_⟩) (by assumption) ?_; rotate_left; (intro w hSw; (try dsimp only at hSw); have hb0 := (hSw.block W.heap.size (by have := HG7.out; have := HZ2.out; omega)).trans HR0.out; have x4 : w.cell? ⟨W.heap.size, 4, none⟩ = some (.slice (some ad) ps.length nc) := cell_of_row (i := 4) hb0 rfl; go_simp; first | done | with_reducible rfl); (try simp only [Act.put, sI, sZ, sS])
    refine wpAnyE_take (i := 4) (oi := ⟨some 50, _, _, _, _, _⟩) (v := ?_) rfl (by kernel_rfl) (by kernel_rfl) (by kernel_rfl) (by kernel_rfl) (fun _ _ _ h => h) (Or.inl ⟨by kernel_rfl, ?_⟩) (by assumption) ?_; rotate_left; (intro w hSw; (try dsimp only at hSw); go_simp; first | done | with_reducible rfl); (try simp only [Act.put, sI, sZ, sS])
    refine wpAnyE_take (i := 5) (oi := ⟨some 51, _, _, _, _, _⟩) (v := ?_) rfl (by kernel_rfl) (by kernel_rfl) (by kernel_rfl) (by kernel_rfl) (fun _ _ _ h => h) (Or.inl ⟨by kernel_rfl, ?_⟩) (by assumption) ?_; rotate_left; (intro w hSw; (try dsimp only at hSw); go_simp; first | done | with_reducible rfl); (try simp only [Act.put, sI, sZ, sS])
    refine wpAnyE_take (i := 6) (oi := ⟨some 52, _, _, _, _, _⟩) (v := ?_) rfl (by kernel_rfl) (by kernel_rfl) (by kernel_rfl) (by kernel_rfl) (fun _ _ _ h => h) (Or.inl ⟨by kernel_rfl, ?_⟩) (by assumption) ?_; rotate_left; (intro w hSw; (try dsimp only at hSw); obtain ⟨d0, d1, d2, d3, d4, he, e0, e1, e2, e3, e4⟩ := HEY.out w (HBW.out.trans (hSw.mono (by have := HG7.out; have := HZ2.out; omega))); simp only [Value.agg.injEq, Array.mk.injEq, List.cons.injEq, and_true] at he; obtain ⟨rfl, rfl, rfl, rfl, rfl⟩ := he; go_simp; first | done | with_reducible rfl); (try simp only [Act.put, sI, sZ, sS])
    refine wpAnyE_take (i := 7) (oi := ⟨some 53, _, _, _, _, _⟩) (v := ?_) rfl (by kernel_rfl) (by kernel_rfl) (by kernel_rfl) (by kernel_rfl) (fun _ _ _ h => h) (Or.inl ⟨by kernel_rfl, ?_⟩) (by assumption) ?_; rotate_left; (intro w hSw; (try dsimp only at hSw); go_simp; first | done | with_reducible rfl); (try simp only [Act.put, sI, sZ, sS])
    refine wpAnyE_one (i := 8) (o := ⟨some 54, _, _, _, _, _⟩) (by kernel_rfl) rfl (fun K hK => ?_)
    rw [if_pos (by rfl)]
    go_simp
    have hBD : Below W.heap.size W D := HBW.out.trans (hS.mono (by have := HG7.out; have := HZ2.out; omega))
    refine (HIHY.out D (HTY.out.laterN hBD) (HR.out.under (HB.out.trans (hS.mono (by have := HG7.out; omega))) (Nat.le_trans HN1.out HB2.out.size)) (Nat.le_trans HN1.out hBD.size)).mono ?_
    rintro e V1 ⟨k9, n9, s9, t9, A9, m9, c9, rfl, hv, b5⟩
    have hS1 := hS.trans (b5.mono hD)
    have hn0D : n0 ≤ D.heap.size := Nat.le_trans HN0.out hBD.size
    have hO1 := own_later hO b5 hn0D
    have hD1 := Nat.le_trans hD b5.size
    refine hK.out _ _ hS1 (fun hSn => ?_)
    clear hK K hSn; (try simp only [Act.put, sI, sZ, sS])
    refine wpAnyE_one (i := 9) (o := ⟨some 55, _, _, _, _, _⟩) (by kernel_rfl) rfl (fun K hK => ?_)
    rw [if_pos (by rfl)]
    go_simp
    have hg5 := block_alloc V1 (.cells #[.int .i8 k9, .int .i64 n9, .string s9, .string t9, .slice A9 m9 c9] 44)
    have bD : Below V1.heap.size V1 (V1.alloc (.cells #[.int .i8 k9, .int .i64 n9, .string s9, .string t9, .slice A9 m9 c9] 44)) := (Below.refl _ V1).alloc (Nat.le_refl _) _
    have hS2 := hS1.trans (bD.mono hD1)
    have hn0V : n0 ≤ V1.heap.size := Nat.le_trans hn0D b5.size
    have hO2 := own_later hO1 bD hn0V
    have hD2 := Nat.le_trans hD1 bD.size
    obtain ⟨g5, hg⟩ : ∃ g, g = V1.heap.size := ⟨_, rfl⟩
    rw [← hg] at hg5
    refine hK.out _ _ hS2 (fun hSn => ?_)
    clear hK K hSn; (try simp only [Act.put, sI, sZ, sS])
    rw [← hg]
    clear hg
    generalize V1.alloc (.cells #[.int .i8 k9, .int .i64 n9, .string s9, .string t9, .slice A9 m9 c9] 44) = D1 at hg5 hS2 hO2 hD2 bD ⊢
    refine wpAnyE_one (i := 10) (o := ⟨some 56, _, _, _, _, _⟩) (by kernel_rfl) rfl (fun K hK => ?_)
    rw [if_pos (by rfl)]
    have hPP : ∀ b, PB n0 (g7 + 1) D1 (.slice RA j rc) b → b < D1.heap.size ∧ (Value.slice RA j rc).ownBlock ≠ some b := fun b hb => ⟨by have := bD.size; rcases hb.1 with h | h <;> omega, hb.2⟩
    have hTz : TmAt (PB n0 (g7 + 1) D1 (.slice RA j rc)) D1 z (.agg #[.int .i8 k9, .int .i64 n9, .string s9, .string t9, .slice A9 m9 c9]) := hv.keep (fun q hq => bD.block q (by rcases hq with h | h <;> omega)) (fun q hq => ⟨by have := bD.size; rcases hq with h | h; (exact .inl h); (exact .inr ⟨by omega, by omega⟩), fun e => by
      have h1 := hO.own q e
      have h2 := HN0.out
      have h3 := HZ2.out
      have h4 := HG7.out
      rcases hq with h | h <;> omega⟩)
    refine wp_own_term (.tmp 47) (.tmp 55) rfl hO2 hD2 hPP rfl g5 rfl hg5 hTz HLJ.out ?_
    intro v2 D2 O hg hb
    rw [← HTK.out] at O
    have mg : Mod (fun g => (Value.slice RA j rc).ownBlock = some g) D1 D2 := Mod.grown hg (fun _ _ e => e)
    have hS3 : Below (g7 + 1) wr D2 := hS2.trans (mg.below hD2 (fun g e => (hO2.own g e).1))
    have O8 : OwnT (g7 + 1) (PB n0 (g7 + 1) D2 v2) D2 v2 ((ps.take (j + 1)).map (filT l)) := O.keep (.refl (fun _ => False) _) (fun _ _ f => f) (fun b hb2 => ⟨by have := (hPP b hb2).1; have := mg.size; omega, fun f => f⟩) (fun b hb2 => ⟨by have := mg.size; rcases hb2.1 with h | h; (exact .inl h); (exact .inr ⟨h.1, by omega⟩), fun e => by
      rcases hb with h | h
      · exact hb2.2 (h.trans e)
      · rw [h] at e; injection e with e; have := (hPP b hb2).1; omega⟩)
    have hlen8 : ((ps.take (j + 1)).map (filT l)).length = j + 1 := by rw [List.length_map, List.length_take]; omega
    obtain ⟨A7, cap7, hv2⟩ := O8.shape
    rw [hlen8] at hv2
    subst hv2
    have gx2 := (hS3.block g7 (by omega)).trans HRB.out
    have r9 := set_row (.slice A7 (j + 1) cap7) (i := 4) gx2
    have m9 : Mod (fun q => q = g7) D2 (D2.setCell ⟨g7, 4, none⟩ (.slice A7 (j + 1) cap7)) := Mod.setCell _ _ _ (.inl rfl)
    have hBX : Below W2.heap.size W2 D2 := HB.out.trans (hS3.mono (by have := HG7.out; omega))
    have HB9 : Hid (Below W2.heap.size W2 (D2.setCell ⟨g7, 4, none⟩ (.slice A7 (j + 1) cap7))) := Lib.hid (hBX.trans (m9.below hBX.size (fun q (e : q = g7) => by have := HG7.out; omega)))
    have HR9 : Hid ((D2.setCell ⟨g7, 4, none⟩ (.slice A7 (j + 1) cap7)).heap[g7]? = some (.cells #[.int .i8 5, .int .i64 0, .string ⟨#[]⟩, .string ⟨#[]⟩, .slice A7 (j + 1) cap7] 44 (0, 0))) := r9
    have hlt7 : n0 ≤ g7 := by have h2 := HN0.out; have h3 := HZ2.out; have h4 := HG7.out; omega
    have HO9 : Hid (OwnT (g7 + 1) (PB n0 (g7 + 1) (D2.setCell ⟨g7, 4, none⟩ (.slice A7 (j + 1) cap7)) (.slice A7 (j + 1) cap7)) (D2.setCell ⟨g7, 4, none⟩ (.slice A7 (j + 1) cap7)) (.slice A7 (j + 1) cap7) ((ps.take (j + 1)).map (filT l))) := Lib.hid (O8.keep m9 (fun g e f => by have := (O8.own g e).1; omega) (fun b hb2 => ⟨by have := mg.size; rcases hb2.1 with h | h <;> omega, fun f => by rcases hb2.1 with h | h <;> omega⟩) (fun b hb2 => ⟨by have := m9.size; rcases hb2.1 with h | h; (exact .inl h); (exact .inr ⟨h.1, by omega⟩), hb2.2⟩))
    have y4 : D2.cell? ⟨g7, 4, none⟩ = some (.slice RA j rc) := cell_of_row (i := 4) gx2 rfl
    have yf : D2.frozen? ⟨g7, 4, none⟩ = false := free_of_row (i := 4) gx2
    refine hK.out _ _ hS3 (fun hSn => ?_)
    clear hK K hSn; (try simp only [Act.put, sI, sZ, sS])
    clear O hg hb mg gx2 hPP hTz hO hO1 hO2 hS1 hS2 hD hD1 hD2 hg5 bD b5 hv O8 r9 m9 hBX hlt7 hlen8 hn0D hn0V hBD
    refine wpAnyE_take (i := 11) (oi := ⟨some 57, _, _, _, _, _⟩) (v := ?_) rfl (by kernel_rfl) (by kernel_rfl) (by kernel_rfl) (by kernel_rfl) (fun _ _ _ h => h) (Or.inl ⟨by kernel_rfl, ?_⟩) hS3 ?_; rotate_left; (intro w hSw; (try dsimp only at hSw); go_simp; first | done | with_reducible rfl); (try simp only [Act.put, sI, sZ, sS])
    refine wpAnyE_late (i := 12) (o := ⟨none, _, _, _, _, _⟩) (by kernel_rfl) rfl (by kernel_rfl) (fun K hK => ?_)
    rw [if_pos (by rfl)]
    go_simp
    refine hK.out _ _ ?_
    clear hK K; (try simp only [Act.put, sI, sZ, sS])
    refine wpAny_done (by kernel_rfl) ?_ _
    clear y4 yf hS3
    generalize D2.setCell ⟨g7, 4, none⟩ (.slice A7 (j + 1) cap7) = w10 at HB9 HR9 HO9 ⊢
    go_wp2_with fail
    go_roundw
    case rel => exact ⟨j + 1, A7, cap7, by omega, by go_num, HB9, HR9, HO9⟩
    case measure => simp [intOf]; omega
set_option maxHeartbeats 8000000 in
set_option maxRecDepth 100000 in
theorem rfil_9 (l : List Bd) (n : Int) (s t : ByteArray) (ps : List Tm) (ih : ∀ y ∈ ps, RfilC l y) (hpl : ps.length ≤ 100000) : RfilC l (.mk 9 n s t ps) := by
  intro n0 n1 v A m cap W hT hR hn1
  obtain ⟨NA, nc, rfl, hRN, -, hn, hs, -⟩ := hT.parts
  obtain ⟨W2, hW2⟩ : ∃ w1, w1 = (W.alloc (.cells #[.int .i8 9, .int .i64 n, .string s, .string t, .slice NA ps.length nc] 25)).alloc (.cells #[.int .i8 0, .int .i64 0, .string ⟨#[]⟩, .string ⟨#[]⟩, .slice none 0 0] 44) := ⟨_, rfl⟩
  have g0 := there_of (.cells #[.int .i8 0, .int .i64 0, .string ⟨#[]⟩, .string ⟨#[]⟩, .slice none 0 0] 44) (block_alloc W (.cells #[.int .i8 9, .int .i64 n, .string s, .string t, .slice NA ps.length nc] 25))
  have g1 := block_alloc (W.alloc (.cells #[.int .i8 9, .int .i64 n, .string s, .string t, .slice NA ps.length nc] 25)) (.cells #[.int .i8 0, .int .i64 0, .string ⟨#[]⟩, .string ⟨#[]⟩, .slice none 0 0] 44)
  rw [World.size_alloc] at g1
  have b2 : Below W.heap.size W W2 := by rw [hW2]; exact ((Below.refl _ W).alloc (Nat.le_refl _) _).alloc (by simp) _
  have z2 : W2.heap.size = W.heap.size + 2 := by rw [hW2, World.size_alloc, World.size_alloc]
  rw [← hW2] at g0 g1
  have HB2 := Lib.hid b2
  have HG0 := Lib.hid g0
  have HG1 := Lib.hid g1
  have HZ2 := Lib.hid z2
  have HNN := Lib.hid hn
  have HSS := Lib.hid hs
  have HN1 : Hid (n1 ≤ W.heap.size) := hn1
  have HN0 : Hid (n0 ≤ W.heap.size) := Nat.le_trans hR.le hn1
  have HR := Lib.hid (hR.under b2 hn1)
  have HRN := Lib.hid hRN
  have hml := hRN.max
  unfold maxLen at hml
  obtain ⟨x0, x1, x2, x3, x4⟩ := five_of g0
  clear g0 b2 z2 hT hR hRN hn1 hn hs
  have HIH := Lib.hid ih
  have HPL : Hid (ps.length ≤ 100000) := hpl
  obtain ⟨W3, hW3⟩ : ∃ w, w = W2.alloc (.cells #[.int .i8 5, .int .i64 0, .string ⟨#[]⟩, .string ⟨#[]⟩, .slice none 0 0] 44) := ⟨_, rfl⟩
  obtain ⟨g7, hg7⟩ : ∃ g, g = W2.heap.size := ⟨_, rfl⟩
  have b3 : Below W2.heap.size W2 W3 := by rw [hW3]; exact (Below.refl _ _).alloc (Nat.le_refl _) _
  have r3 : W3.heap[g7]? = some (.cells #[.int .i8 5, .int .i64 0, .string ⟨#[]⟩, .string ⟨#[]⟩, .slice none 0 0] 44 (0, 0)) := by rw [hW3, hg7]; exact block_alloc _ _
  have HG7 : Hid (g7 = W2.heap.size) := hg7
  have z3 : W3.heap.size = g7 + 1 := by rw [hW3, World.size_alloc, hg7]
  clear ih hpl g1
  go_enter Tryz.func86, Tryz.ntmps86
  go_upto_region 1 with fail
  rw [← hW2]
  clear hW2
  go_upto_region 12 with fail
  rw [← hW3, ← hg7]
  clear hW3 hg7 x0 x1 x2 x3 x4
  have x0 : W3.cell? ⟨W.heap.size, 0, none⟩ = some (.int .i8 9) := cell_of_row (i := 0) ((b3.block _ (heap_lt HG0.out)).trans HG0.out) rfl
  have z0 : W3.cell? ⟨g7, 0, none⟩ = some (.int .i8 5) := cell_of_row (i := 0) r3 rfl
  have zf : W3.frozen? ⟨g7, 0, none⟩ = false := free_of_row (i := 0) r3
  have r7 := set_row (.int .i8 7) (i := 0) r3
  have m7 : Mod (fun q => q = g7) W3 (W3.setCell ⟨g7, 0, none⟩ (.int .i8 7)) := Mod.setCell _ _ _ (.inl rfl)
  have HB7 : Hid (Below W2.heap.size W2 (W3.setCell ⟨g7, 0, none⟩ (.int .i8 7))) := Lib.hid (b3.trans (m7.below b3.size (fun q (e : q = g7) => by have := HG7.out; omega)))
  have HR7 : Hid ((W3.setCell ⟨g7, 0, none⟩ (.int .i8 7)).heap[g7]? = some (.cells #[.int .i8 7, .int .i64 0, .string ⟨#[]⟩, .string ⟨#[]⟩, .slice none 0 0] 44 (0, 0))) := r7
  clear r3 r7 m7 b3 z3
  generalize hV7 : W3.setCell ⟨g7, 0, none⟩ (.int .i8 7) = W7 at HB7 HR7
  go_upto_region 14 with fail
  try rw [hV7]
  clear x0 z0 zf hV7
  have HOWN : Hid (OwnT (g7 + 1) (PB n0 (g7 + 1) W7 (.slice none 0 0)) W7 (.slice none 0 0) ((ps.take 0).map (filT l))) := OwnT.nil _ _ _
  go_wp2_with fail
  go_loopw [8] (fun i wr => ∃ (j : Nat) (RA : Option Addr) (rc : Nat), j ≤ ps.length ∧ i = .int .i64 j ∧ Hid (Below W2.heap.size W2 wr) ∧ Hid (wr.heap[g7]? = some (.cells #[.int .i8 7, .int .i64 0, .string ⟨#[]⟩, .string ⟨#[]⟩, .slice RA j rc] 44 (0, 0))) ∧ Hid (OwnT (g7 + 1) (PB n0 (g7 + 1) wr (.slice RA j rc)) wr (.slice RA j rc) ((ps.take j).map (filT l)))) (fun i _ => ps.length - (intOf i).toNat)
  case atStart => exact ⟨0, none, 0, Nat.zero_le _, rfl, HB7, HR7, HOWN⟩
  case round =>
    obtain ⟨j, RA, rc, hj, rfl, HB, HRB, HO⟩ := hrel
    have HBW := Lib.hid (HB2.out.trans (HB.out.mono HB2.out.size))
    have hr0 := (HB.out.block _ (heap_lt HG0.out)).trans HG0.out
    have x4 : wr.cell? ⟨W.heap.size, 4, none⟩ = some (.slice NA ps.length nc) := cell_of_row (i := 4) hr0 rfl
    have HR0 := Lib.hid hr0
    clear hr0
    by_cases hlt : j < ps.length
    case neg =>
      obtain rfl : j = ps.length := by omega
      have hr1 := (HB.out.block _ (heap_lt HG1.out)).trans HG1.out
      have HR1 := Lib.hid hr1
      have hO := HO.out
      rw [List.take_length, ← filTs_map] at hO
      obtain ⟨hlen, htr⟩ := hO.trow (Q := fun b => b < n0 ∨ (g7 + 1 ≤ b ∧ b < wr.heap.size)) (fun b hb => hb.1) (fun b h1 h2 _ => .inr ⟨h1, h2⟩)
      have HTR := Lib.hid htr
      have hgb := HRB.out
      obtain ⟨y0, y1, y2, y3, y4⟩ := five_of hgb
      clear hr1 hO htr hgb hlen
      have g9 := HR1.out
      obtain ⟨⟨r0, r1, r2, r3, r4⟩, rf0, rf1, rf2, rf3, rf4⟩ := five_fr g9
      have S5 := Lib.hid (set_five (.int .i8 7) (.int .i64 0) (.string ⟨#[]⟩) (.string ⟨#[]⟩) (.slice RA ps.length rc) g9)
      go_wp2_with fail
      obtain ⟨s5, m5⟩ := S5.out
      generalize ((((((wr).setCell ⟨W.heap.size + 1, 0, none⟩ (.int .i8 7)).setCell ⟨W.heap.size + 1, 1, none⟩ (.int .i64 0)).setCell ⟨W.heap.size + 1, 2, none⟩ (.string ⟨#[]⟩)).setCell ⟨W.heap.size + 1, 3, none⟩ (.string ⟨#[]⟩)).setCell ⟨W.heap.size + 1, 4, none⟩ (.slice RA ps.length rc)) = VX at s5 m5 ⊢
      obtain ⟨z0, z1, z2, z3, z4⟩ := five_of s5
      refine bodyPost_ret (v := .agg #[.int .i8 7, .int .i64 0, .string ⟨#[]⟩, .string ⟨#[]⟩, .slice RA ps.length rc]) (by simp [results, Tryz.f86, go_sem, z0, z1, z2, z3, z4]) rfl ?_
      have hx9 := m5.size
      refine ⟨_, _, _, _, _, _, _, rfl, ?_, HBW.out.trans (m5.below HBW.out.size (fun q (e : q = _) => by omega))⟩
      have h3 := HZ2.out
      have h4 := HN0.out
      have h5 := HG7.out
      have hfin : TRow (fun b => b < n0 ∨ (W.heap.size ≤ b ∧ b < VX.heap.size)) VX RA ps.length rc (filTs l ps) := HTR.out.keep (fun q hb => m5.block q (by have := HBW.out.size; rcases hb with h | h <;> omega) (by rcases hb with h | h <;> omega)) (fun q hb => by rcases hb with h | h; (exact .inl h); (exact .inr ⟨by omega, by omega⟩))
      rw [filT_9]
      have hlf := hfin.len
      have hz := TmAt.of_row (k := 7) (n := 0) (s := ⟨#[]⟩) (t := ⟨#[]⟩) (l := filTs l ps) (by rw [hlf]; exact hfin) (by decide) (by decide) (by decide) (by decide)
      rw [hlf] at hz
      exact hz
    obtain ⟨y, hy⟩ : ∃ y, ps[j]? = some y := ⟨ps[j], List.getElem?_eq_getElem hlt⟩
    obtain ⟨ad, u1, rfl, had, hE, hTy⟩ := HRN.out.at_ j y hy
    have HTK : Hid ((ps.take (j + 1)).map (filT l) = (ps.take j).map (filT l) ++ [filT l y]) := by show _ = _; rw [List.take_add_one, hy, List.map_append]; rfl
    have HTY := Lib.hid hTy
    have HMEM := Lib.hid (List.mem_of_getElem? hy)
    obtain ⟨yk, yn, ys, yu, yL, yA, yc, hye, rfl⟩ : ∃ k' n' s' t' L' A' cap', y = Tm.mk k' n' s' t' L' ∧ u1 = .agg #[.int .i8 k', .int .i64 n', .string s', .string t', .slice A' L'.length cap'] := by
      cases hTy; exact ⟨_, _, _, _, _, _, _, rfl, rfl⟩
    have HEY : Hid (∀ V, Below W.heap.size W V → ElemAt V ad j (.agg #[.int .i8 yk, .int .i64 yn, .string ys, .string yu, .slice yA yL.length yc])) := fun V hV => hE.keep (hV.block ad.block had)
    have HLJ : Hid (((ps.take j).map (filT l)).length + 1 ≤ 1000000) := by have h := HPL.out; show _ ≤ _; rw [List.length_map, List.length_take]; omega
    have HJL : Hid (((ps.take j).map (filT l)).length = j) := by show _ = _; rw [List.length_map, List.length_take]; omega
    obtain ⟨z, hz⟩ : ∃ z, z = filT l y := ⟨_, rfl⟩
    have hih := HIH.out y HMEM.out n0 n1 (.agg #[.int .i8 yk, .int .i64 yn, .string ys, .string yu, .slice yA yL.length yc]) A m cap
    unfold RfilC at HIH
    rw [← hz] at hih HTK
    have HIHY := Lib.hid hih
    have i0 : (0 : Int) ≤ (j : Int) := by omega
    have i1 : (j : Int) < (ps.length : Int) := by omega
    have HGS : Hid (g7 + 1 ≤ wr.heap.size) := heap_lt HRB.out
    clear hy hE hTy had hye hz hih
    go_upto_region 17 with fail
    clear x4
    refine wp_region_E (S := fun V => Below (g7 + 1) wr V) [12] (by kernel_rfl) ⟨rfl, rfl, rfl, Nat.le_refl _, fun _ _ => rfl⟩ (fun hS => ?_)
    have hO : OwnT (g7 + 1) (PB n0 (g7 + 1) wr.drew (.slice RA j rc)) wr.drew (.slice RA j rc) ((ps.take j).map (filT l)) := HO.out.keep (F := fun _ => False) ⟨rfl, rfl, rfl, Nat.le_refl _, fun _ _ _ => rfl⟩ (fun _ _ f => f) (fun b hb => ⟨by have h1 := HGS.out; have h2 := HN0.out; have h3 := HZ2.out; have h4 := HG7.out; rcases hb.1 with h | h <;> omega, fun f => f⟩) (fun _ h => h)
    have hD : g7 + 1 ≤ wr.drew.heap.size := HGS.out
    generalize wr.drew = D at hS hO hD ⊢
    refine wpAnyE_take (i := 0) (oi := ⟨some 46, _, _, _, _, _⟩) (v := ?_) rfl (by kernel_rfl) (by kernel_rfl) (by kernel_rfl) (by kernel_rfl) (fun _ _ _ h => h) (Or.inl ⟨by kernel_rfl, ?_⟩) (by assumption) ?_; rotate_left; (intro w hSw; (try dsimp only at hSw); go_simp; first | done | with_reducible rfl); (try simp only [Act.put, sI, sZ, sS])
    refine wpAnyE_take (i := 1) (oi := ⟨some 47, _, _, _, _, _⟩) (v := ?_) rfl (by kernel_rfl) (by kernel_rfl) (by kernel_rfl) (by kernel_rfl) (fun _ _ _ h => h) (Or.inl ⟨by kernel_rfl, ?_⟩) (by assumption) ?_; rotate_left; (intro w hSw; (try dsimp only at hSw); have hb7 := (hSw.block g7 (by omega)).trans HRB.out; have y4 : w.cell? ⟨g7, 4, none⟩ = some (.slice RA j rc) := cell_of_row (i := 4) hb7 rfl; go_simp; first | done | with_reducible rfl); (try simp only [Act.put, sI, sZ, sS])
    refine wpAnyE_take (i := 2) (oi := ⟨some 48, _, _, _, _, _⟩) (v := ?_) rfl (by kernel_rfl) (by kernel_rfl) (by kernel_rfl) (by kernel_rfl) (fun _ _ _ h => h) (Or.inl ⟨by kernel_rfl, ?_⟩) (by assumption) ?_; rotate_left; (intro w hSw; (try dsimp only at hSw); go_simp; first | done | with_reducible rfl); (try simp only [Act.put, sI, sZ, sS])
    refine wpAnyE_take (i := 3) (oi := ⟨some 49, _, _, _, _, _⟩) (v := ?_) rfl (by kernel_rfl) (by kernel_rfl) (by kernel_rfl) (by kernel_rfl) (fun _ _ _ h => h) (Or.inl ⟨by kernel_rfl, ?_⟩) (by assumption) ?_; rotate_left; (intro w hSw; (try dsimp only at hSw); have hb0 := (hSw.block W.heap.size (by have := HG7.out; have := HZ2.out; omega)).trans HR0.out; have x4 : w.cell? ⟨W.heap.size, 4, none⟩ = some (.slice (some ad) ps.length nc) := cell_of_row (i := 4) hb0 rfl; go_simp; first | done | with_reducible rfl); (try simp only [Act.put, sI, sZ, sS])
    refine wpAnyE_take (i := 4) (oi := ⟨some 50, _, _, _, _, _⟩) (v := ?_) rfl (by kernel_rfl) (by kernel_rfl) (by kernel_rfl) (by kernel_rfl) (fun _ _ _ h => h) (Or.inl ⟨by kernel_rfl, ?_⟩) (by assumption) ?_; rotate_left; (intro w hSw; (try dsimp only at hSw); go_simp; first | done | with_reducible rfl); (try simp only [Act.put, sI, sZ, sS])
    refine wpAnyE_take (i := 5) (oi := ⟨some 51, _, _, _, _, _⟩) (v := ?_) rfl (by kernel_rfl) (by kernel_rfl) (by kernel_rfl) (by kernel_rfl) (fun _ _ _ h => h) (Or.inl ⟨by kernel_rfl, ?_⟩) (by assumption) ?_; rotate_left; (intro w hSw; (try dsimp only at hSw); go_simp; first | done | with_reducible rfl); (try simp only [Act.put, sI, sZ, sS])
    refine wpAnyE_take (i := 6) (oi := ⟨some 52, _, _, _, _, _⟩) (v := ?_) rfl (by kernel_rfl) (by kernel_rfl) (by kernel_rfl) (by kernel_rfl) (fun _ _ _ h => h) (Or.inl ⟨by kernel_rfl, ?_⟩) (by assumption) ?_; rotate_left; (intro w hSw; (try dsimp only at hSw); obtain ⟨d0, d1, d2, d3, d4, he, e0, e1, e2, e3, e4⟩ := HEY.out w (HBW.out.trans (hSw.mono (by have := HG7.out; have := HZ2.out; omega))); simp only [Value.agg.injEq, Array.mk.injEq, List.cons.injEq, and_true] at he; obtain ⟨rfl, rfl, rfl, rfl, rfl⟩ := he; go_simp; first | done | with_reducible rfl); (try simp only [Act.put, sI, sZ, sS])
    refine wpAnyE_take (i := 7) (oi := ⟨some 53, _, _, _, _, _⟩) (v := ?_) rfl (by kernel_rfl) (by kernel_rfl) (by kernel_rfl) (by kernel_rfl) (fun _ _ _ h => h) (Or.inl ⟨by kernel_rfl, ?_⟩) (by assumption) ?_; rotate_left; (intro w hSw; (try dsimp only at hSw); go_simp; first | done | with_reducible rfl); (try simp only [Act.put, sI, sZ, sS])
    refine wpAnyE_one (i := 8) (o := ⟨some 54, _, _, _, _, _⟩) (by kernel_rfl) rfl (fun K hK => ?_)
    rw [if_pos (by rfl)]
    go_simp
    have hBD : Below W.heap.size W D := HBW.out.trans (hS.mono (by have := HG7.out; have := HZ2.out; omega))
    refine (HIHY.out D (HTY.out.laterN hBD) (HR.out.under (HB.out.trans (hS.mono (by have := HG7.out; omega))) (Nat.le_trans HN1.out HB2.out.size)) (Nat.le_trans HN1.out hBD.size)).mono ?_
    rintro e V1 ⟨k9, n9, s9, t9, A9, m9, c9, rfl, hv, b5⟩
    have hS1 := hS.trans (b5.mono hD)
    have hn0D : n0 ≤ D.heap.size := Nat.le_trans HN0.out hBD.size
    have hO1 := own_later hO b5 hn0D
    have hD1 := Nat.le_trans hD b5.size
    refine hK.out _ _ hS1 (fun hSn => ?_)
    clear hK K hSn; (try simp only [Act.put, sI, sZ, sS])
    refine wpAnyE_one (i := 9) (o := ⟨some 55, _, _, _, _, _⟩) (by kernel_rfl) rfl (fun K hK => ?_)
    rw [if_pos (by rfl)]
    go_simp
    have hg5 := block_alloc V1 (.cells #[.int .i8 k9, .int .i64 n9, .string s9, .string t9, .slice A9 m9 c9] 44)
    have bD : Below V1.heap.size V1 (V1.alloc (.cells #[.int .i8 k9, .int .i64 n9, .string s9, .string t9, .slice A9 m9 c9] 44)) := (Below.refl _ V1).alloc (Nat.le_refl _) _
    have hS2 := hS1.trans (bD.mono hD1)
    have hn0V : n0 ≤ V1.heap.size := Nat.le_trans hn0D b5.size
    have hO2 := own_later hO1 bD hn0V
    have hD2 := Nat.le_trans hD1 bD.size
    obtain ⟨g5, hg⟩ : ∃ g, g = V1.heap.size := ⟨_, rfl⟩
    rw [← hg] at hg5
    refine hK.out _ _ hS2 (fun hSn => ?_)
    clear hK K hSn; (try simp only [Act.put, sI, sZ, sS])
    rw [← hg]
    clear hg
    generalize V1.alloc (.cells #[.int .i8 k9, .int .i64 n9, .string s9, .string t9, .slice A9 m9 c9] 44) = D1 at hg5 hS2 hO2 hD2 bD ⊢
    refine wpAnyE_one (i := 10) (o := ⟨some 56, _, _, _, _, _⟩) (by kernel_rfl) rfl (fun K hK => ?_)
    rw [if_pos (by rfl)]
    have hPP : ∀ b, PB n0 (g7 + 1) D1 (.slice RA j rc) b → b < D1.heap.size ∧ (Value.slice RA j rc).ownBlock ≠ some b := fun b hb => ⟨by have := bD.size; rcases hb.1 with h | h <;> omega, hb.2⟩
    have hTz : TmAt (PB n0 (g7 + 1) D1 (.slice RA j rc)) D1 z (.agg #[.int .i8 k9, .int .i64 n9, .string s9, .string t9, .slice A9 m9 c9]) := hv.keep (fun q hq => bD.block q (by rcases hq with h | h <;> omega)) (fun q hq => ⟨by have := bD.size; rcases hq with h | h; (exact .inl h); (exact .inr ⟨by omega, by omega⟩), fun e => by
      have h1 := hO.own q e
      have h2 := HN0.out
      have h3 := HZ2.out
      have h4 := HG7.out
      rcases hq with h | h <;> omega⟩)
    refine wp_own_term (.tmp 47) (.tmp 55) rfl hO2 hD2 hPP rfl g5 rfl hg5 hTz HLJ.out ?_
    intro v2 D2 O hg hb
    rw [← HTK.out] at O
    have mg : Mod (fun g => (Value.slice RA j rc).ownBlock = some g) D1 D2 := Mod.grown hg (fun _ _ e => e)
    have hS3 : Below (g7 + 1) wr D2 := hS2.trans (mg.below hD2 (fun g e => (hO2.own g e).1))
    have O8 : OwnT (g7 + 1) (PB n0 (g7 + 1) D2 v2) D2 v2 ((ps.take (j + 1)).map (filT l)) := O.keep (.refl (fun _ => False) _) (fun _ _ f => f) (fun b hb2 => ⟨by have := (hPP b hb2).1; have := mg.size; omega, fun f => f⟩) (fun b hb2 => ⟨by have := mg.size; rcases hb2.1 with h | h; (exact .inl h); (exact .inr ⟨h.1, by omega⟩), fun e => by
      rcases hb with h | h
      · exact hb2.2 (h.trans e)
      · rw [h] at e; injection e with e; have := (hPP b hb2).1; omega⟩)
    have hlen8 : ((ps.take (j + 1)).map (filT l)).length = j + 1 := by rw [List.length_map, List.length_take]; omega
    obtain ⟨A7, cap7, hv2⟩ := O8.shape
    rw [hlen8] at hv2
    subst hv2
    have gx2 := (hS3.block g7 (by omega)).trans HRB.out
    have r9 := set_row (.slice A7 (j + 1) cap7) (i := 4) gx2
    have m9 : Mod (fun q => q = g7) D2 (D2.setCell ⟨g7, 4, none⟩ (.slice A7 (j + 1) cap7)) := Mod.setCell _ _ _ (.inl rfl)
    have hBX : Below W2.heap.size W2 D2 := HB.out.trans (hS3.mono (by have := HG7.out; omega))
    have HB9 : Hid (Below W2.heap.size W2 (D2.setCell ⟨g7, 4, none⟩ (.slice A7 (j + 1) cap7))) := Lib.hid (hBX.trans (m9.below hBX.size (fun q (e : q = g7) => by have := HG7.out; omega)))
    have HR9 : Hid ((D2.setCell ⟨g7, 4, none⟩ (.slice A7 (j + 1) cap7)).heap[g7]? = some (.cells #[.int .i8 7, .int .i64 0, .string ⟨#[]⟩, .string ⟨#[]⟩, .slice A7 (j + 1) cap7] 44 (0, 0))) := r9
    have hlt7 : n0 ≤ g7 := by have h2 := HN0.out; have h3 := HZ2.out; have h4 := HG7.out; omega
    have HO9 : Hid (OwnT (g7 + 1) (PB n0 (g7 + 1) (D2.setCell ⟨g7, 4, none⟩ (.slice A7 (j + 1) cap7)) (.slice A7 (j + 1) cap7)) (D2.setCell ⟨g7, 4, none⟩ (.slice A7 (j + 1) cap7)) (.slice A7 (j + 1) cap7) ((ps.take (j + 1)).map (filT l))) := Lib.hid (O8.keep m9 (fun g e f => by have := (O8.own g e).1; omega) (fun b hb2 => ⟨by have := mg.size; rcases hb2.1 with h | h <;> omega, fun f => by rcases hb2.1 with h | h <;> omega⟩) (fun b hb2 => ⟨by have := m9.size; rcases hb2.1 with h | h; (exact .inl h); (exact .inr ⟨h.1, by omega⟩), hb2.2⟩))
    have y4 : D2.cell? ⟨g7, 4, none⟩ = some (.slice RA j rc) := cell_of_row (i := 4) gx2 rfl
    have yf : D2.frozen? ⟨g7, 4, none⟩ = false := free_of_row (i := 4) gx2
    refine hK.out _ _ hS3 (fun hSn => ?_)
    clear hK K hSn; (try simp only [Act.put, sI, sZ, sS])
    clear O hg hb mg gx2 hPP hTz hO hO1 hO2 hS1 hS2 hD hD1 hD2 hg5 bD b5 hv O8 r9 m9 hBX hlt7 hlen8 hn0D hn0V hBD
    refine wpAnyE_take (i := 11) (oi := ⟨some 57, _, _, _, _, _⟩) (v := ?_) rfl (by kernel_rfl) (by kernel_rfl) (by kernel_rfl) (by kernel_rfl) (fun _ _ _ h => h) (Or.inl ⟨by kernel_rfl, ?_⟩) hS3 ?_; rotate_left; (intro w hSw; (try dsimp only at hSw); go_simp; first | done | with_reducible rfl); (try simp only [Act.put, sI, sZ, sS])
    refine wpAnyE_late (i := 12) (o := ⟨none, _, _, _, _, _⟩) (by kernel_rfl) rfl (by kernel_rfl) (fun K hK => ?_)
    rw [if_pos (by rfl)]
    go_simp
    refine hK.out _ _ ?_
    clear hK K; (try simp only [Act.put, sI, sZ, sS])
    refine wpAny_done (by kernel_rfl) ?_ _
    clear y4 yf hS3
    generalize D2.setCell ⟨g7, 4, none⟩ (.slice A7 (j + 1) cap7) = w10 at HB9 HR9 HO9 ⊢
    go_wp2_with fail
    go_roundw
    case rel => exact ⟨j + 1, A7, cap7, by omega, by go_num, HB9, HR9, HO9⟩
    case measure => simp [intOf]; omega
theorem rfill_any (l : List Bd) (p : Tm) : patB p = true → p.nodes ≤ 100000 → RfilC l p := by
  induction p using Tm.ind with
  | h k n s t ps ih =>
    intro hp hn
    have hsub : (∀ y ∈ ps, patB y = true) → ∀ y ∈ ps, RfilC l y := fun hps y hy => ih y hy (hps y hy) (by
      have h1 := Tm.nodes_mem hy
      rw [Tm.nodes_mk] at hn
      omega)
    have hpl : ps.length ≤ 100000 := by
      have := len_pres11 ps
      rw [Tm.nodes_mk] at hn
      omega
    rcases pat_cases hp with ⟨rfl, rfl, _⟩ | ⟨rfl, rfl⟩ | ⟨rfl, rfl⟩ | ⟨rfl, rfl⟩ | ⟨⟨rfl, _⟩ | rfl, hps⟩
    · exact rfil_5 l n s t
    · exact rfil_6 l n s t
    · exact rfil_7 l n s t
    · exact rfil_8 l n s t
    · exact rfil_9 l n s t ps (hsub hps) hpl
    · exact rfil_10 l n s t ps (hsub hps) hpl
end Go.Proofs.YtkceoiaaiaomoaaGreatDoor
