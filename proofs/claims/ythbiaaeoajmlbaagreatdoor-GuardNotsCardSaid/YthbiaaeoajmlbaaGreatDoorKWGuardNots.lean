/- The law GuardNots' walk, from the program's own contracts. -/
import Derived.Test.YthbiaaeoajmlbaaGreatDoorKGd13
import Derived.Test.YthbiaaeoajmlbaaGreatDoorKSz7
import Derived.Deep.DeepCutAuto
import Derived.Tactics2
set_option linter.unusedVariables false
set_option linter.unusedSimpArgs false
namespace Go.Proofs.YthbiaaeoajmlbaaGreatDoor
open Go.RowKit

set_option maxHeartbeats 16000000 in
set_option maxRecDepth 100000 in
theorem walk_GuardNots (v0 v1 v2 : Value) (w : World) (o0 : ∃ t, TmAt (· < w.heap.size) w t v0) (o1 : ∃ t, TmAt (· < w.heap.size) w t v1) (o2 : ∃ A n cap l, v2 = .slice A n cap ∧ BRow (· < w.heap.size) w A n cap l) (hE : Env11 w) :
    Calls Tryz.prog 11 #[v0, v1, v2] w fun e w' => e = .returned (.bool true) ∧ Below w.heap.size w w' := by
  obtain ⟨a, hTa⟩ := o0
  obtain ⟨b, hTb⟩ := o1
  obtain ⟨A, m, cap, l, rfl, hR⟩ := o2
  obtain ⟨ak, an, as_, at_, aA, am, ac, rfl⟩ : ∃ k n s t A m c, v0 = .agg #[.int .i8 k, .int .i64 n, .string s, .string t, .slice A m c] := by cases hTa; exact ⟨_, _, _, _, _, _, _, rfl⟩
  obtain ⟨bk, bn, bs_, bt_, bA, bm, bc, rfl⟩ : ∃ k n s t A m c, v1 = .agg #[.int .i8 k, .int .i64 n, .string s, .string t, .slice A m c] := by cases hTb; exact ⟨_, _, _, _, _, _, _, rfl⟩
  obtain ⟨h0, z0⟩ := here_of (.cells #[.int .i8 ak, .int .i64 an, .string as_, .string at_, .slice aA am ac] 25) (rfl : w.heap.size = w.heap.size)
  obtain ⟨h1, z1⟩ := here_of (.cells #[.int .i8 bk, .int .i64 bn, .string bs_, .string bt_, .slice bA bm bc] 25) z0
  have g0 := there_of (.cells #[.int .i8 bk, .int .i64 bn, .string bs_, .string bt_, .slice bA bm bc] 25) h0
  obtain ⟨w1, hw1⟩ : ∃ w1, w1 = (w.alloc (.cells #[.int .i8 ak, .int .i64 an, .string as_, .string at_, .slice aA am ac] 25)).alloc (.cells #[.int .i8 bk, .int .i64 bn, .string bs_, .string bt_, .slice bA bm bc] 25) := ⟨_, rfl⟩
  have b1 : Below w.heap.size w w1 := by rw [hw1]; exact ((Below.refl _ w).alloc (Nat.le_refl _) _).alloc (by omega) _
  rw [← hw1] at g0 h1 z1
  have HTA := Lib.hid (hTa.laterN b1)
  have HTB := Lib.hid (hTb.laterN b1)
  have HR := Lib.hid (hR.later b1)
  have HE := Lib.hid (hE.under b1)
  have HB1 := Lib.hid b1
  have HG0 := Lib.hid g0
  have HG1 := Lib.hid h1
  have HB := Lib.hid (Below.refl w1.heap.size w1)
  have x0 : (w1).cell? ⟨w.heap.size, 0, none⟩ = some (.int .i8 ak) := cell_of_row (i := 0) g0 rfl
  have x1 : (w1).cell? ⟨w.heap.size, 1, none⟩ = some (.int .i64 an) := cell_of_row (i := 1) g0 rfl
  have x2 : (w1).cell? ⟨w.heap.size, 2, none⟩ = some (.string as_) := cell_of_row (i := 2) g0 rfl
  have x3 : (w1).cell? ⟨w.heap.size, 3, none⟩ = some (.string at_) := cell_of_row (i := 3) g0 rfl
  have x4 : (w1).cell? ⟨w.heap.size, 4, none⟩ = some (.slice aA am ac) := cell_of_row (i := 4) g0 rfl
  have y0 : (w1).cell? ⟨w.heap.size + 1, 0, none⟩ = some (.int .i8 bk) := cell_of_row (i := 0) h1 rfl
  have y1 : (w1).cell? ⟨w.heap.size + 1, 1, none⟩ = some (.int .i64 bn) := cell_of_row (i := 1) h1 rfl
  have y2 : (w1).cell? ⟨w.heap.size + 1, 2, none⟩ = some (.string bs_) := cell_of_row (i := 2) h1 rfl
  have y3 : (w1).cell? ⟨w.heap.size + 1, 3, none⟩ = some (.string bt_) := cell_of_row (i := 3) h1 rfl
  have y4 : (w1).cell? ⟨w.heap.size + 1, 4, none⟩ = some (.slice bA bm bc) := cell_of_row (i := 4) h1 rfl
  clear h0 z0 z1 h1 g0 b1 hE hTa hTb hR
  go_enter Tryz.func11, Tryz.ntmps11
  go_upto_region 1 with fail
  rw [← hw1]
  clear hw1
  go_wp2_with fail
  refine (GreatN_any a _ w1 HTA.out).mono ?_
  rintro e w2 ⟨q0, rfl, hq0, b2⟩
  have HBn := Lib.hid (HB.out.trans (b2.mono HB.out.size))
  clear HB x0 x1 x2 x3 x4 y0 y1 y2 y3 y4
  have HB := HBn
  clear HBn
  have gx := (HB.out.block _ (heap_lt HG0.out)).trans HG0.out
  have gy := (HB.out.block _ (heap_lt HG1.out)).trans HG1.out
  have x0 : (w2).cell? ⟨w.heap.size, 0, none⟩ = some (.int .i8 ak) := cell_of_row (i := 0) gx rfl
  have x1 : (w2).cell? ⟨w.heap.size, 1, none⟩ = some (.int .i64 an) := cell_of_row (i := 1) gx rfl
  have x2 : (w2).cell? ⟨w.heap.size, 2, none⟩ = some (.string as_) := cell_of_row (i := 2) gx rfl
  have x3 : (w2).cell? ⟨w.heap.size, 3, none⟩ = some (.string at_) := cell_of_row (i := 3) gx rfl
  have x4 : (w2).cell? ⟨w.heap.size, 4, none⟩ = some (.slice aA am ac) := cell_of_row (i := 4) gx rfl
  have y0 : (w2).cell? ⟨w.heap.size + 1, 0, none⟩ = some (.int .i8 bk) := cell_of_row (i := 0) gy rfl
  have y1 : (w2).cell? ⟨w.heap.size + 1, 1, none⟩ = some (.int .i64 bn) := cell_of_row (i := 1) gy rfl
  have y2 : (w2).cell? ⟨w.heap.size + 1, 2, none⟩ = some (.string bs_) := cell_of_row (i := 2) gy rfl
  have y3 : (w2).cell? ⟨w.heap.size + 1, 3, none⟩ = some (.string bt_) := cell_of_row (i := 3) gy rfl
  have y4 : (w2).cell? ⟨w.heap.size + 1, 4, none⟩ = some (.slice bA bm bc) := cell_of_row (i := 4) gy rfl
  clear gx gy
  clear b2
  cases q0 with
  | true =>
    go_wp2_with fail
    refine (wakes11_any w2 (HE.out.under HB.out)).mono ?_
    rintro e w9 ⟨rfl, b9⟩
    have HF := Lib.hid (HB1.out.trans ((HB.out.trans (b9.mono HB.out.size)).mono HB1.out.size))
    clear b9
    go_wp2_with fail
    go_ret
    exact ⟨rfl, HF.out⟩
  | false =>
  have HNA := Lib.hid (hq0 rfl)
  clear hq0
  go_wp2_with fail
  refine (GreatN_any b _ w2 (HTB.out.laterN HB.out)).mono ?_
  rintro e w3 ⟨q1, rfl, hq1, b3⟩
  have HBn := Lib.hid (HB.out.trans (b3.mono HB.out.size))
  clear HB x0 x1 x2 x3 x4 y0 y1 y2 y3 y4
  have HB := HBn
  clear HBn
  have gx := (HB.out.block _ (heap_lt HG0.out)).trans HG0.out
  have gy := (HB.out.block _ (heap_lt HG1.out)).trans HG1.out
  have x0 : (w3).cell? ⟨w.heap.size, 0, none⟩ = some (.int .i8 ak) := cell_of_row (i := 0) gx rfl
  have x1 : (w3).cell? ⟨w.heap.size, 1, none⟩ = some (.int .i64 an) := cell_of_row (i := 1) gx rfl
  have x2 : (w3).cell? ⟨w.heap.size, 2, none⟩ = some (.string as_) := cell_of_row (i := 2) gx rfl
  have x3 : (w3).cell? ⟨w.heap.size, 3, none⟩ = some (.string at_) := cell_of_row (i := 3) gx rfl
  have x4 : (w3).cell? ⟨w.heap.size, 4, none⟩ = some (.slice aA am ac) := cell_of_row (i := 4) gx rfl
  have y0 : (w3).cell? ⟨w.heap.size + 1, 0, none⟩ = some (.int .i8 bk) := cell_of_row (i := 0) gy rfl
  have y1 : (w3).cell? ⟨w.heap.size + 1, 1, none⟩ = some (.int .i64 bn) := cell_of_row (i := 1) gy rfl
  have y2 : (w3).cell? ⟨w.heap.size + 1, 2, none⟩ = some (.string bs_) := cell_of_row (i := 2) gy rfl
  have y3 : (w3).cell? ⟨w.heap.size + 1, 3, none⟩ = some (.string bt_) := cell_of_row (i := 3) gy rfl
  have y4 : (w3).cell? ⟨w.heap.size + 1, 4, none⟩ = some (.slice bA bm bc) := cell_of_row (i := 4) gy rfl
  clear gx gy
  clear b3
  cases q1 with
  | true =>
    go_wp2_with fail
    refine (wakes11_any w3 (HE.out.under HB.out)).mono ?_
    rintro e w9 ⟨rfl, b9⟩
    have HF := Lib.hid (HB1.out.trans ((HB.out.trans (b9.mono HB.out.size)).mono HB1.out.size))
    clear b9
    go_wp2_with fail
    go_ret
    exact ⟨rfl, HF.out⟩
  | false =>
  have HNB := Lib.hid (hq1 rfl)
  clear hq1
  go_wp2_with fail
  refine (great11_any l A m cap w3 (HR.out.later HB.out)).mono ?_
  rintro e w4 ⟨⟨q2, rfl⟩, b4⟩
  have HBn := Lib.hid (HB.out.trans (b4.mono HB.out.size))
  clear HB x0 x1 x2 x3 x4 y0 y1 y2 y3 y4
  have HB := HBn
  clear HBn
  have gx := (HB.out.block _ (heap_lt HG0.out)).trans HG0.out
  have gy := (HB.out.block _ (heap_lt HG1.out)).trans HG1.out
  have x0 : (w4).cell? ⟨w.heap.size, 0, none⟩ = some (.int .i8 ak) := cell_of_row (i := 0) gx rfl
  have x1 : (w4).cell? ⟨w.heap.size, 1, none⟩ = some (.int .i64 an) := cell_of_row (i := 1) gx rfl
  have x2 : (w4).cell? ⟨w.heap.size, 2, none⟩ = some (.string as_) := cell_of_row (i := 2) gx rfl
  have x3 : (w4).cell? ⟨w.heap.size, 3, none⟩ = some (.string at_) := cell_of_row (i := 3) gx rfl
  have x4 : (w4).cell? ⟨w.heap.size, 4, none⟩ = some (.slice aA am ac) := cell_of_row (i := 4) gx rfl
  have y0 : (w4).cell? ⟨w.heap.size + 1, 0, none⟩ = some (.int .i8 bk) := cell_of_row (i := 0) gy rfl
  have y1 : (w4).cell? ⟨w.heap.size + 1, 1, none⟩ = some (.int .i64 bn) := cell_of_row (i := 1) gy rfl
  have y2 : (w4).cell? ⟨w.heap.size + 1, 2, none⟩ = some (.string bs_) := cell_of_row (i := 2) gy rfl
  have y3 : (w4).cell? ⟨w.heap.size + 1, 3, none⟩ = some (.string bt_) := cell_of_row (i := 3) gy rfl
  have y4 : (w4).cell? ⟨w.heap.size + 1, 4, none⟩ = some (.slice bA bm bc) := cell_of_row (i := 4) gy rfl
  clear gx gy
  clear b4
  cases q2 with
  | true =>
    go_wp2_with fail
    refine (wakes11_any w4 (HE.out.under HB.out)).mono ?_
    rintro e w9 ⟨rfl, b9⟩
    have HF := Lib.hid (HB1.out.trans ((HB.out.trans (b9.mono HB.out.size)).mono HB1.out.size))
    clear b9
    go_wp2_with fail
    go_ret
    exact ⟨rfl, HF.out⟩
  | false =>
  go_wp2_with fail
  refine (Value_any l a _ A m cap w4 (HTA.out.laterN HB.out) (HR.out.later HB.out) (by have := HNA.out; omega) (HE.out.under HB.out).env).mono ?_
  rintro e w5 ⟨k9, n9, s9, t9, A9, m9, c9, rfl, hv9, b9⟩
  have HBn := Lib.hid (HB.out.trans (b9.mono HB.out.size))
  clear HB x0 x1 x2 x3 x4 y0 y1 y2 y3 y4
  have HB := HBn
  clear HBn
  have gx := (HB.out.block _ (heap_lt HG0.out)).trans HG0.out
  have gy := (HB.out.block _ (heap_lt HG1.out)).trans HG1.out
  have x0 : (w5).cell? ⟨w.heap.size, 0, none⟩ = some (.int .i8 ak) := cell_of_row (i := 0) gx rfl
  have x1 : (w5).cell? ⟨w.heap.size, 1, none⟩ = some (.int .i64 an) := cell_of_row (i := 1) gx rfl
  have x2 : (w5).cell? ⟨w.heap.size, 2, none⟩ = some (.string as_) := cell_of_row (i := 2) gx rfl
  have x3 : (w5).cell? ⟨w.heap.size, 3, none⟩ = some (.string at_) := cell_of_row (i := 3) gx rfl
  have x4 : (w5).cell? ⟨w.heap.size, 4, none⟩ = some (.slice aA am ac) := cell_of_row (i := 4) gx rfl
  have y0 : (w5).cell? ⟨w.heap.size + 1, 0, none⟩ = some (.int .i8 bk) := cell_of_row (i := 0) gy rfl
  have y1 : (w5).cell? ⟨w.heap.size + 1, 1, none⟩ = some (.int .i64 bn) := cell_of_row (i := 1) gy rfl
  have y2 : (w5).cell? ⟨w.heap.size + 1, 2, none⟩ = some (.string bs_) := cell_of_row (i := 2) gy rfl
  have y3 : (w5).cell? ⟨w.heap.size + 1, 3, none⟩ = some (.string bt_) := cell_of_row (i := 3) gy rfl
  have y4 : (w5).cell? ⟨w.heap.size + 1, 4, none⟩ = some (.slice bA bm bc) := cell_of_row (i := 4) gy rfl
  clear gx gy
  clear b9 hv9
  obtain ⟨ea, hea⟩ : ∃ e, e = valE l a := ⟨_, rfl⟩
  rw [← hea]
  have Hea := Lib.hid hea
  clear hea
  obtain ⟨w6, hw6⟩ : ∃ W, W = w5.alloc (.cells #[.int .i8 k9, .int .i64 n9, .string s9, .string t9, .slice A9 m9 c9] 48) := ⟨_, rfl⟩
  have HBn : Hid (Below w1.heap.size w1 w6) := Lib.hid (by rw [hw6]; exact HB.out.alloc HB.out.size _)
  clear HB x0 x1 x2 x3 x4 y0 y1 y2 y3 y4
  have HB := HBn
  clear HBn
  go_upto_region 4 with fail
  rw [← hw6]
  clear hw6
  have gx := (HB.out.block _ (heap_lt HG0.out)).trans HG0.out
  have gy := (HB.out.block _ (heap_lt HG1.out)).trans HG1.out
  have x0 : (w6).cell? ⟨w.heap.size, 0, none⟩ = some (.int .i8 ak) := cell_of_row (i := 0) gx rfl
  have x1 : (w6).cell? ⟨w.heap.size, 1, none⟩ = some (.int .i64 an) := cell_of_row (i := 1) gx rfl
  have x2 : (w6).cell? ⟨w.heap.size, 2, none⟩ = some (.string as_) := cell_of_row (i := 2) gx rfl
  have x3 : (w6).cell? ⟨w.heap.size, 3, none⟩ = some (.string at_) := cell_of_row (i := 3) gx rfl
  have x4 : (w6).cell? ⟨w.heap.size, 4, none⟩ = some (.slice aA am ac) := cell_of_row (i := 4) gx rfl
  have y0 : (w6).cell? ⟨w.heap.size + 1, 0, none⟩ = some (.int .i8 bk) := cell_of_row (i := 0) gy rfl
  have y1 : (w6).cell? ⟨w.heap.size + 1, 1, none⟩ = some (.int .i64 bn) := cell_of_row (i := 1) gy rfl
  have y2 : (w6).cell? ⟨w.heap.size + 1, 2, none⟩ = some (.string bs_) := cell_of_row (i := 2) gy rfl
  have y3 : (w6).cell? ⟨w.heap.size + 1, 3, none⟩ = some (.string bt_) := cell_of_row (i := 3) gy rfl
  have y4 : (w6).cell? ⟨w.heap.size + 1, 4, none⟩ = some (.slice bA bm bc) := cell_of_row (i := 4) gy rfl
  clear gx gy
  go_wp2_with fail
  refine (Value_any l b _ A m cap w6 (HTB.out.laterN HB.out) (HR.out.later HB.out) (by have := HNB.out; omega) (HE.out.under HB.out).env).mono ?_
  rintro e w7 ⟨k9, n9, s9, t9, A9, m9, c9, rfl, hv9, b9⟩
  have HBn := Lib.hid (HB.out.trans (b9.mono HB.out.size))
  clear HB x0 x1 x2 x3 x4 y0 y1 y2 y3 y4
  have HB := HBn
  clear HBn
  have gx := (HB.out.block _ (heap_lt HG0.out)).trans HG0.out
  have gy := (HB.out.block _ (heap_lt HG1.out)).trans HG1.out
  have x0 : (w7).cell? ⟨w.heap.size, 0, none⟩ = some (.int .i8 ak) := cell_of_row (i := 0) gx rfl
  have x1 : (w7).cell? ⟨w.heap.size, 1, none⟩ = some (.int .i64 an) := cell_of_row (i := 1) gx rfl
  have x2 : (w7).cell? ⟨w.heap.size, 2, none⟩ = some (.string as_) := cell_of_row (i := 2) gx rfl
  have x3 : (w7).cell? ⟨w.heap.size, 3, none⟩ = some (.string at_) := cell_of_row (i := 3) gx rfl
  have x4 : (w7).cell? ⟨w.heap.size, 4, none⟩ = some (.slice aA am ac) := cell_of_row (i := 4) gx rfl
  have y0 : (w7).cell? ⟨w.heap.size + 1, 0, none⟩ = some (.int .i8 bk) := cell_of_row (i := 0) gy rfl
  have y1 : (w7).cell? ⟨w.heap.size + 1, 1, none⟩ = some (.int .i64 bn) := cell_of_row (i := 1) gy rfl
  have y2 : (w7).cell? ⟨w.heap.size + 1, 2, none⟩ = some (.string bs_) := cell_of_row (i := 2) gy rfl
  have y3 : (w7).cell? ⟨w.heap.size + 1, 3, none⟩ = some (.string bt_) := cell_of_row (i := 3) gy rfl
  have y4 : (w7).cell? ⟨w.heap.size + 1, 4, none⟩ = some (.slice bA bm bc) := cell_of_row (i := 4) gy rfl
  clear gx gy
  clear b9 hv9
  obtain ⟨eb, heb⟩ : ∃ e, e = valE l b := ⟨_, rfl⟩
  rw [← heb]
  have Heb := Lib.hid heb
  clear heb
  obtain ⟨w8, hw8⟩ : ∃ W, W = w7.alloc (.cells #[.int .i8 k9, .int .i64 n9, .string s9, .string t9, .slice A9 m9 c9] 48) := ⟨_, rfl⟩
  have HBn : Hid (Below w1.heap.size w1 w8) := Lib.hid (by rw [hw8]; exact HB.out.alloc HB.out.size _)
  clear HB x0 x1 x2 x3 x4 y0 y1 y2 y3 y4
  have HB := HBn
  clear HBn
  go_upto_region 5 with fail
  rw [← hw8]
  clear hw8
  have gx := (HB.out.block _ (heap_lt HG0.out)).trans HG0.out
  have gy := (HB.out.block _ (heap_lt HG1.out)).trans HG1.out
  have x0 : (w8).cell? ⟨w.heap.size, 0, none⟩ = some (.int .i8 ak) := cell_of_row (i := 0) gx rfl
  have x1 : (w8).cell? ⟨w.heap.size, 1, none⟩ = some (.int .i64 an) := cell_of_row (i := 1) gx rfl
  have x2 : (w8).cell? ⟨w.heap.size, 2, none⟩ = some (.string as_) := cell_of_row (i := 2) gx rfl
  have x3 : (w8).cell? ⟨w.heap.size, 3, none⟩ = some (.string at_) := cell_of_row (i := 3) gx rfl
  have x4 : (w8).cell? ⟨w.heap.size, 4, none⟩ = some (.slice aA am ac) := cell_of_row (i := 4) gx rfl
  have y0 : (w8).cell? ⟨w.heap.size + 1, 0, none⟩ = some (.int .i8 bk) := cell_of_row (i := 0) gy rfl
  have y1 : (w8).cell? ⟨w.heap.size + 1, 1, none⟩ = some (.int .i64 bn) := cell_of_row (i := 1) gy rfl
  have y2 : (w8).cell? ⟨w.heap.size + 1, 2, none⟩ = some (.string bs_) := cell_of_row (i := 2) gy rfl
  have y3 : (w8).cell? ⟨w.heap.size + 1, 3, none⟩ = some (.string bt_) := cell_of_row (i := 3) gy rfl
  have y4 : (w8).cell? ⟨w.heap.size + 1, 4, none⟩ = some (.slice bA bm bc) := cell_of_row (i := 4) gy rfl
  clear gx gy
  go_wp2_with fail
  refine (rSizeN_any a _ w8 (HTA.out.laterN HB.out)).mono ?_
  rintro e u0 ⟨rfl, bz⟩
  have HBn := Lib.hid (HB.out.trans (bz.mono HB.out.size))
  clear HB x0 x1 x2 x3 x4 y0 y1 y2 y3 y4
  have HB := HBn
  clear HBn
  have gx := (HB.out.block _ (heap_lt HG0.out)).trans HG0.out
  have gy := (HB.out.block _ (heap_lt HG1.out)).trans HG1.out
  have x0 : (u0).cell? ⟨w.heap.size, 0, none⟩ = some (.int .i8 ak) := cell_of_row (i := 0) gx rfl
  have x1 : (u0).cell? ⟨w.heap.size, 1, none⟩ = some (.int .i64 an) := cell_of_row (i := 1) gx rfl
  have x2 : (u0).cell? ⟨w.heap.size, 2, none⟩ = some (.string as_) := cell_of_row (i := 2) gx rfl
  have x3 : (u0).cell? ⟨w.heap.size, 3, none⟩ = some (.string at_) := cell_of_row (i := 3) gx rfl
  have x4 : (u0).cell? ⟨w.heap.size, 4, none⟩ = some (.slice aA am ac) := cell_of_row (i := 4) gx rfl
  have y0 : (u0).cell? ⟨w.heap.size + 1, 0, none⟩ = some (.int .i8 bk) := cell_of_row (i := 0) gy rfl
  have y1 : (u0).cell? ⟨w.heap.size + 1, 1, none⟩ = some (.int .i64 bn) := cell_of_row (i := 1) gy rfl
  have y2 : (u0).cell? ⟨w.heap.size + 1, 2, none⟩ = some (.string bs_) := cell_of_row (i := 2) gy rfl
  have y3 : (u0).cell? ⟨w.heap.size + 1, 3, none⟩ = some (.string bt_) := cell_of_row (i := 3) gy rfl
  have y4 : (u0).cell? ⟨w.heap.size + 1, 4, none⟩ = some (.slice bA bm bc) := cell_of_row (i := 4) gy rfl
  clear gx gy
  clear bz
  obtain ⟨N0, hN0⟩ : ∃ N, N = min a.nodes 4097 := ⟨_, rfl⟩
  obtain ⟨D0, hD0⟩ : ∃ D, D = min a.deep 65 := ⟨_, rfl⟩
  rw [← hN0, ← hD0]
  have HN0 := Lib.hid hN0
  have HD0 := Lib.hid hD0
  have n90 : N0 ≤ 4097 := by omega
  have d90 : D0 ≤ 65 := by omega
  clear hN0 hD0
  go_wp2_with fail
  refine (rSizeN_any b _ u0 (HTB.out.laterN HB.out)).mono ?_
  rintro e u1 ⟨rfl, bz⟩
  have HBn := Lib.hid (HB.out.trans (bz.mono HB.out.size))
  clear HB x0 x1 x2 x3 x4 y0 y1 y2 y3 y4
  have HB := HBn
  clear HBn
  have gx := (HB.out.block _ (heap_lt HG0.out)).trans HG0.out
  have gy := (HB.out.block _ (heap_lt HG1.out)).trans HG1.out
  have x0 : (u1).cell? ⟨w.heap.size, 0, none⟩ = some (.int .i8 ak) := cell_of_row (i := 0) gx rfl
  have x1 : (u1).cell? ⟨w.heap.size, 1, none⟩ = some (.int .i64 an) := cell_of_row (i := 1) gx rfl
  have x2 : (u1).cell? ⟨w.heap.size, 2, none⟩ = some (.string as_) := cell_of_row (i := 2) gx rfl
  have x3 : (u1).cell? ⟨w.heap.size, 3, none⟩ = some (.string at_) := cell_of_row (i := 3) gx rfl
  have x4 : (u1).cell? ⟨w.heap.size, 4, none⟩ = some (.slice aA am ac) := cell_of_row (i := 4) gx rfl
  have y0 : (u1).cell? ⟨w.heap.size + 1, 0, none⟩ = some (.int .i8 bk) := cell_of_row (i := 0) gy rfl
  have y1 : (u1).cell? ⟨w.heap.size + 1, 1, none⟩ = some (.int .i64 bn) := cell_of_row (i := 1) gy rfl
  have y2 : (u1).cell? ⟨w.heap.size + 1, 2, none⟩ = some (.string bs_) := cell_of_row (i := 2) gy rfl
  have y3 : (u1).cell? ⟨w.heap.size + 1, 3, none⟩ = some (.string bt_) := cell_of_row (i := 3) gy rfl
  have y4 : (u1).cell? ⟨w.heap.size + 1, 4, none⟩ = some (.slice bA bm bc) := cell_of_row (i := 4) gy rfl
  clear gx gy
  clear bz
  obtain ⟨N1, hN1⟩ : ∃ N, N = min b.nodes 4097 := ⟨_, rfl⟩
  obtain ⟨D1, hD1⟩ : ∃ D, D = min b.deep 65 := ⟨_, rfl⟩
  rw [← hN1, ← hD1]
  have HN1 := Lib.hid hN1
  have HD1 := Lib.hid hD1
  have n91 : N1 ≤ 4097 := by omega
  have d91 : D1 ≤ 65 := by omega
  clear hN1 hD1
  go_wp2_with fail
  refine (rSizeN_any a _ u1 (HTA.out.laterN HB.out)).mono ?_
  rintro e u2 ⟨rfl, bz⟩
  have HBn := Lib.hid (HB.out.trans (bz.mono HB.out.size))
  clear HB x0 x1 x2 x3 x4 y0 y1 y2 y3 y4
  have HB := HBn
  clear HBn
  have gx := (HB.out.block _ (heap_lt HG0.out)).trans HG0.out
  have gy := (HB.out.block _ (heap_lt HG1.out)).trans HG1.out
  have x0 : (u2).cell? ⟨w.heap.size, 0, none⟩ = some (.int .i8 ak) := cell_of_row (i := 0) gx rfl
  have x1 : (u2).cell? ⟨w.heap.size, 1, none⟩ = some (.int .i64 an) := cell_of_row (i := 1) gx rfl
  have x2 : (u2).cell? ⟨w.heap.size, 2, none⟩ = some (.string as_) := cell_of_row (i := 2) gx rfl
  have x3 : (u2).cell? ⟨w.heap.size, 3, none⟩ = some (.string at_) := cell_of_row (i := 3) gx rfl
  have x4 : (u2).cell? ⟨w.heap.size, 4, none⟩ = some (.slice aA am ac) := cell_of_row (i := 4) gx rfl
  have y0 : (u2).cell? ⟨w.heap.size + 1, 0, none⟩ = some (.int .i8 bk) := cell_of_row (i := 0) gy rfl
  have y1 : (u2).cell? ⟨w.heap.size + 1, 1, none⟩ = some (.int .i64 bn) := cell_of_row (i := 1) gy rfl
  have y2 : (u2).cell? ⟨w.heap.size + 1, 2, none⟩ = some (.string bs_) := cell_of_row (i := 2) gy rfl
  have y3 : (u2).cell? ⟨w.heap.size + 1, 3, none⟩ = some (.string bt_) := cell_of_row (i := 3) gy rfl
  have y4 : (u2).cell? ⟨w.heap.size + 1, 4, none⟩ = some (.slice bA bm bc) := cell_of_row (i := 4) gy rfl
  clear gx gy
  clear bz
  obtain ⟨N2, hN2⟩ : ∃ N, N = min a.nodes 4097 := ⟨_, rfl⟩
  obtain ⟨D2, hD2⟩ : ∃ D, D = min a.deep 65 := ⟨_, rfl⟩
  rw [← hN2, ← hD2]
  have HN2 := Lib.hid hN2
  have HD2 := Lib.hid hD2
  have n92 : N2 ≤ 4097 := by omega
  have d92 : D2 ≤ 65 := by omega
  clear hN2 hD2
  go_wp2_with fail
  refine (rSizeN_any b _ u2 (HTB.out.laterN HB.out)).mono ?_
  rintro e u3 ⟨rfl, bz⟩
  have HBn := Lib.hid (HB.out.trans (bz.mono HB.out.size))
  clear HB x0 x1 x2 x3 x4 y0 y1 y2 y3 y4
  have HB := HBn
  clear HBn
  have gx := (HB.out.block _ (heap_lt HG0.out)).trans HG0.out
  have gy := (HB.out.block _ (heap_lt HG1.out)).trans HG1.out
  have x0 : (u3).cell? ⟨w.heap.size, 0, none⟩ = some (.int .i8 ak) := cell_of_row (i := 0) gx rfl
  have x1 : (u3).cell? ⟨w.heap.size, 1, none⟩ = some (.int .i64 an) := cell_of_row (i := 1) gx rfl
  have x2 : (u3).cell? ⟨w.heap.size, 2, none⟩ = some (.string as_) := cell_of_row (i := 2) gx rfl
  have x3 : (u3).cell? ⟨w.heap.size, 3, none⟩ = some (.string at_) := cell_of_row (i := 3) gx rfl
  have x4 : (u3).cell? ⟨w.heap.size, 4, none⟩ = some (.slice aA am ac) := cell_of_row (i := 4) gx rfl
  have y0 : (u3).cell? ⟨w.heap.size + 1, 0, none⟩ = some (.int .i8 bk) := cell_of_row (i := 0) gy rfl
  have y1 : (u3).cell? ⟨w.heap.size + 1, 1, none⟩ = some (.int .i64 bn) := cell_of_row (i := 1) gy rfl
  have y2 : (u3).cell? ⟨w.heap.size + 1, 2, none⟩ = some (.string bs_) := cell_of_row (i := 2) gy rfl
  have y3 : (u3).cell? ⟨w.heap.size + 1, 3, none⟩ = some (.string bt_) := cell_of_row (i := 3) gy rfl
  have y4 : (u3).cell? ⟨w.heap.size + 1, 4, none⟩ = some (.slice bA bm bc) := cell_of_row (i := 4) gy rfl
  clear gx gy
  clear bz
  obtain ⟨N3, hN3⟩ : ∃ N, N = min b.nodes 4097 := ⟨_, rfl⟩
  obtain ⟨D3, hD3⟩ : ∃ D, D = min b.deep 65 := ⟨_, rfl⟩
  rw [← hN3, ← hD3]
  have HN3 := Lib.hid hN3
  have HD3 := Lib.hid hD3
  have n93 : N3 ≤ 4097 := by omega
  have d93 : D3 ≤ 65 := by omega
  clear hN3 hD3
  by_cases hbig : (4096 : Int) < (N0 : Int) + (N1 : Int) + 2
  · have hb1 : decide ((4096 : Int) < (N0 : Int) + (N1 : Int) + 2) = true := by simpa using hbig
    go_wp2_with fail
    refine (wakes11_any u3 (HE.out.under HB.out)).mono ?_
    rintro e w9 ⟨rfl, b9⟩
    have HF := Lib.hid (HB1.out.trans ((HB.out.trans (b9.mono HB.out.size)).mono HB1.out.size))
    clear b9
    go_wp2_with fail
    go_ret
    exact ⟨rfl, HF.out⟩
  have hb1 : decide ((4096 : Int) < (N0 : Int) + (N1 : Int) + 2) = false := by simpa using hbig
  obtain ⟨DD, hDD, hd1, hd2⟩ : ∃ DD : Nat, (if D2 < D3 then (D3 : Int) else (D2 : Int)) = (DD : Int) ∧ D2 ≤ DD ∧ D3 ≤ DD := by
    by_cases h : D2 < D3
    · exact ⟨D3, if_pos h, Nat.le_of_lt h, Nat.le_refl _⟩
    · exact ⟨D2, if_neg h, Nat.le_refl _, by omega⟩
  have hdz : DD ≤ 65 := by
    by_cases h : D2 < D3
    · rw [if_pos h] at hDD; omega
    · rw [if_neg h] at hDD; omega
  by_cases hdeep : (64 : Int) < (DD : Int) + 2
  · have hb2 : decide ((64 : Int) < (DD : Int) + 2) = true := by simpa using hdeep
    go_wp2_with fail
    refine (wakes11_any u3 (HE.out.under HB.out)).mono ?_
    rintro e w9 ⟨rfl, b9⟩
    have HF := Lib.hid (HB1.out.trans ((HB.out.trans (b9.mono HB.out.size)).mono HB1.out.size))
    clear b9
    go_wp2_with fail
    go_ret
    exact ⟨rfl, HF.out⟩
  have hb2 : decide ((64 : Int) < (DD : Int) + 2) = false := by simpa using hdeep
  have HNOD : Hid (a.nodes + b.nodes + 2 ≤ 4096) := Lib.hid (by have h1 := HN0.out; have h2 := HN1.out; omega)
  have HDA : Hid (a.deep + 2 ≤ 64) := Lib.hid (by have h1 := HD2.out; omega)
  have HDB : Hid (b.deep + 2 ≤ 64) := Lib.hid (by have h1 := HD3.out; omega)
  go_upto_region 11 with fail
  clear hbig hb1 hb2 hdeep hDD hd1 hd2 hdz n90 n91 n92 n93 d90 d91 d92 d93 HN0 HN1 HN2 HN3 HD0 HD1 HD2 HD3
  obtain ⟨BB, hBB⟩ : ∃ BB, BB = bothB l a b := ⟨_, rfl⟩
  go_cut [19] (fun p wx => p = .bool BB ∧ Hid (Below w1.heap.size w1 wx))
  case first =>
    have hB2 : BB = (decide (ea = 0) && decide (eb = 0)) := by rw [hBB, Hea.out, Heb.out]; rfl
    clear hBB
    by_cases h1 : ea = 0
    · by_cases h2 : eb = 0
      · have hB3 : BB = true := by rw [hB2, h1, h2]; rfl
        clear hB2
        subst hB3
        go_wp2_with fail
        go_meet
        exact ⟨rfl, HB⟩
      · have hB3 : BB = false := by rw [hB2]; simp [h2]
        have h3 : (eb == 0) = false := by simpa using h2
        clear hB2
        subst hB3
        go_wp2_with fail
        go_meet
        exact ⟨rfl, HB⟩
    · have hB3 : BB = false := by rw [hB2]; simp [h1]
      have h3 : (ea == 0) = false := by simpa using h1
      clear hB2
      subst hB3
      go_wp2_with fail
      go_meet
      exact ⟨rfl, HB⟩
  case rest =>
  obtain ⟨rfl, hcut⟩ := hcut
  obtain ⟨w9, hw9⟩ : ∃ w, w = wc := ⟨_, rfl⟩
  subst hw9
  clear HB x0 x1 x2 x3 x4 y0 y1 y2 y3 y4
  have HB := hcut
  have HBB := Lib.hid hBB
  clear hcut hBB
  obtain ⟨w10, hw10⟩ : ∃ w10, w10 = w9.alloc (.cells #[.string ⟨#[61, 58, 61]⟩, .string ⟨#[61, 47, 61]⟩, .string ⟨#[60]⟩, .string ⟨#[62, 61]⟩, .string ⟨#[62]⟩, .string ⟨#[61, 60]⟩] 73) := ⟨_, rfl⟩
  have HGP : Hid (w10.heap[w9.heap.size]? = some (.cells #[.string ⟨#[61, 58, 61]⟩, .string ⟨#[61, 47, 61]⟩, .string ⟨#[60]⟩, .string ⟨#[62, 61]⟩, .string ⟨#[62]⟩, .string ⟨#[61, 60]⟩] 73 (0, 0))) := Lib.hid (by rw [hw10]; exact block_alloc _ _)
  have HB10 : Hid (Below w1.heap.size w1 w10) := Lib.hid (by rw [hw10]; exact HB.out.alloc HB.out.size _)
  go_wp2_with fail
  rw [← hw10]
  clear hw10 HB
  obtain ⟨gp, hgp⟩ : ∃ gp, gp = w9.heap.size := ⟨_, rfl⟩
  rw [← hgp] at HGP ⊢
  clear hgp
  go_loopw [91] (fun i wr => ∃ j : Nat, j ≤ 3 ∧ i = .int .i64 j ∧ Hid (Below w10.heap.size w10 wr)) (fun i _ => 3 - (intOf i).toNat)
  case atStart => exact ⟨0, Nat.zero_le _, rfl, Lib.hid (Below.refl _ _)⟩
  case round =>
    obtain ⟨j, hj, rfl, HBr⟩ := hrel
    by_cases hlt : j < 3
    · have HB := Lib.hid (HB10.out.trans (HBr.out.mono HB10.out.size))
      obtain ⟨s1, s2, hopp, e0, e1⟩ := nots_at ((HBr.out.block _ (heap_lt HGP.out)).trans HGP.out) j hlt
      have HO := Lib.hid hopp
      clear hopp
      have i1 : (j : Int) < 3 := by omega
      obtain ⟨W2, hW2⟩ : ∃ W2, W2 = wr.alloc (.cells #[.string s1, .string s2] 73) := ⟨_, rfl⟩
      have HPB : Hid (W2.heap[wr.heap.size]? = some (.cells #[.string s1, .string s2] 73 (0, 0))) := Lib.hid (by rw [hW2]; exact block_alloc _ _)
      have HBr2 : Hid (Below w10.heap.size w10 W2) := Lib.hid (by rw [hW2]; exact HBr.out.alloc HBr.out.size _)
      have HB2 : Hid (Below w1.heap.size w1 W2) := Lib.hid (by rw [hW2]; exact HB.out.alloc HB.out.size _)
      go_upto_region 15 with fail
      rw [← hW2]
      clear hW2
      obtain ⟨gq, hgq⟩ : ∃ gq, gq = wr.heap.size := ⟨_, rfl⟩
      rw [← hgq] at HPB ⊢
      clear hgq e0 e1 HB HBr
      have p0 : W2.cell? ⟨gq, 0, none⟩ = some (.string s1) := cell_of_row (i := 0) HPB.out rfl
      have p1 : W2.cell? ⟨gq, 1, none⟩ = some (.string s2) := cell_of_row (i := 1) HPB.out rfl
      have gx := (HB2.out.block _ (heap_lt HG0.out)).trans HG0.out
      have gy := (HB2.out.block _ (heap_lt HG1.out)).trans HG1.out
      have x0 : (W2).cell? ⟨w.heap.size, 0, none⟩ = some (.int .i8 ak) := cell_of_row (i := 0) gx rfl
      have x1 : (W2).cell? ⟨w.heap.size, 1, none⟩ = some (.int .i64 an) := cell_of_row (i := 1) gx rfl
      have x2 : (W2).cell? ⟨w.heap.size, 2, none⟩ = some (.string as_) := cell_of_row (i := 2) gx rfl
      have x3 : (W2).cell? ⟨w.heap.size, 3, none⟩ = some (.string at_) := cell_of_row (i := 3) gx rfl
      have x4 : (W2).cell? ⟨w.heap.size, 4, none⟩ = some (.slice aA am ac) := cell_of_row (i := 4) gx rfl
      have y0 : (W2).cell? ⟨w.heap.size + 1, 0, none⟩ = some (.int .i8 bk) := cell_of_row (i := 0) gy rfl
      have y1 : (W2).cell? ⟨w.heap.size + 1, 1, none⟩ = some (.int .i64 bn) := cell_of_row (i := 1) gy rfl
      have y2 : (W2).cell? ⟨w.heap.size + 1, 2, none⟩ = some (.string bs_) := cell_of_row (i := 2) gy rfl
      have y3 : (W2).cell? ⟨w.heap.size + 1, 3, none⟩ = some (.string bt_) := cell_of_row (i := 3) gy rfl
      have y4 : (W2).cell? ⟨w.heap.size + 1, 4, none⟩ = some (.slice bA bm bc) := cell_of_row (i := 4) gy rfl
      clear gx gy
      obtain ⟨W3, hW3⟩ : ∃ W, W = W2.alloc (.cells #[.int .i8 ak, .int .i64 an, .string as_, .string at_, .slice aA am ac, .int .i8 bk, .int .i64 bn, .string bs_, .string bt_, .slice bA bm bc] 25) := ⟨_, rfl⟩
      have r3 : W3.heap[W2.heap.size]? = some (.cells #[.int .i8 ak, .int .i64 an, .string as_, .string at_, .slice aA am ac, .int .i8 bk, .int .i64 bn, .string bs_, .string bt_, .slice bA bm bc] 25 (0, 0)) := by rw [hW3]; exact block_alloc _ _
      have b3 : Below W2.heap.size W2 W3 := by rw [hW3]; exact (Below.refl _ _).alloc (Nat.le_refl _) _
      have B3 := HB2.out.trans (b3.mono HB2.out.size)
      have HT3 : Hid (TmAt (· < W3.heap.size) W3 (.mk 11 0 s1 ⟨#[]⟩ [a, b]) (.agg #[.int .i8 11, .int .i64 0, .string s1, .string ⟨#[]⟩, .slice (some ⟨W2.heap.size, 0, none⟩) 2 2])) :=
        Lib.hid (TmAt.of_row (k := 11) (n := 0) (s := s1) (t := ⟨#[]⟩) (l := [_, _]) (row2_of (P := (· < W3.heap.size)) r3 (heap_lt r3) (HTA.out.laterN B3) (HTB.out.laterN B3)) (by decide) (by decide) (Nat.le_trans (HO.out.2.2.1) (by decide)) (by decide))
      have HW3 := Lib.hid B3
      have Hb3 := Lib.hid b3
      have hN3 : (Tm.mk 11 0 s1 ⟨#[]⟩ [a, b]).nodes ≤ 8200 := by rw [nodes_two]; have := HNOD.out; omega
      have HN3 := Lib.hid hN3
      clear r3 b3 B3 hN3
      go_wp2_with fail
      rw [← hW3]
      clear hW3 x0 x1 x2 x3 x4 y0 y1 y2 y3 y4 p0 p1
      refine (Test_any l (.mk 11 0 s1 ⟨#[]⟩ [a, b]) _ A m cap W3 HT3.out (HR.out.later HW3.out) HN3.out (HE.out.under HW3.out)).mono ?_
      rintro e W4 ⟨rfl, c3⟩
      rw [test_op l s1 a b HO.out.1 HNOD.out HDA.out HDB.out, ← HBB.out]
      have HB2n := Lib.hid (HW3.out.trans (c3.mono HW3.out.size))
      have bb3 := Hb3.out.trans (c3.mono Hb3.out.size)
      have HBr2n := Lib.hid (HBr2.out.trans (bb3.mono HBr2.out.size))
      have HPBn := Lib.hid ((bb3.block _ (heap_lt HPB.out)).trans HPB.out)
      clear bb3 c3 HB2 HBr2 HPB HT3 HW3 Hb3 HN3
      have p0 : W4.cell? ⟨gq, 0, none⟩ = some (.string s1) := cell_of_row (i := 0) HPBn.out rfl
      have p1 : W4.cell? ⟨gq, 1, none⟩ = some (.string s2) := cell_of_row (i := 1) HPBn.out rfl
      have gx := (HB2n.out.block _ (heap_lt HG0.out)).trans HG0.out
      have gy := (HB2n.out.block _ (heap_lt HG1.out)).trans HG1.out
      have x0 : (W4).cell? ⟨w.heap.size, 0, none⟩ = some (.int .i8 ak) := cell_of_row (i := 0) gx rfl
      have x1 : (W4).cell? ⟨w.heap.size, 1, none⟩ = some (.int .i64 an) := cell_of_row (i := 1) gx rfl
      have x2 : (W4).cell? ⟨w.heap.size, 2, none⟩ = some (.string as_) := cell_of_row (i := 2) gx rfl
      have x3 : (W4).cell? ⟨w.heap.size, 3, none⟩ = some (.string at_) := cell_of_row (i := 3) gx rfl
      have x4 : (W4).cell? ⟨w.heap.size, 4, none⟩ = some (.slice aA am ac) := cell_of_row (i := 4) gx rfl
      have y0 : (W4).cell? ⟨w.heap.size + 1, 0, none⟩ = some (.int .i8 bk) := cell_of_row (i := 0) gy rfl
      have y1 : (W4).cell? ⟨w.heap.size + 1, 1, none⟩ = some (.int .i64 bn) := cell_of_row (i := 1) gy rfl
      have y2 : (W4).cell? ⟨w.heap.size + 1, 2, none⟩ = some (.string bs_) := cell_of_row (i := 2) gy rfl
      have y3 : (W4).cell? ⟨w.heap.size + 1, 3, none⟩ = some (.string bt_) := cell_of_row (i := 3) gy rfl
      have y4 : (W4).cell? ⟨w.heap.size + 1, 4, none⟩ = some (.slice bA bm bc) := cell_of_row (i := 4) gy rfl
      clear gx gy
      obtain ⟨W5, hW5⟩ : ∃ W, W = W4.alloc (.cells #[.int .i8 ak, .int .i64 an, .string as_, .string at_, .slice aA am ac, .int .i8 bk, .int .i64 bn, .string bs_, .string bt_, .slice bA bm bc] 25) := ⟨_, rfl⟩
      have r5 : W5.heap[W4.heap.size]? = some (.cells #[.int .i8 ak, .int .i64 an, .string as_, .string at_, .slice aA am ac, .int .i8 bk, .int .i64 bn, .string bs_, .string bt_, .slice bA bm bc] 25 (0, 0)) := by rw [hW5]; exact block_alloc _ _
      have b5 : Below W4.heap.size W4 W5 := by rw [hW5]; exact (Below.refl _ _).alloc (Nat.le_refl _) _
      have B5 := HB2n.out.trans (b5.mono HB2n.out.size)
      have HT5 : Hid (TmAt (· < W5.heap.size) W5 (.mk 11 0 s2 ⟨#[]⟩ [a, b]) (.agg #[.int .i8 11, .int .i64 0, .string s2, .string ⟨#[]⟩, .slice (some ⟨W4.heap.size, 0, none⟩) 2 2])) :=
        Lib.hid (TmAt.of_row (k := 11) (n := 0) (s := s2) (t := ⟨#[]⟩) (l := [_, _]) (row2_of (P := (· < W5.heap.size)) r5 (heap_lt r5) (HTA.out.laterN B5) (HTB.out.laterN B5)) (by decide) (by decide) (Nat.le_trans (HO.out.2.2.2.1) (by decide)) (by decide))
      have HW5 := Lib.hid B5
      have Hb5 := Lib.hid b5
      have hN5 : (Tm.mk 11 0 s2 ⟨#[]⟩ [a, b]).nodes ≤ 8200 := by rw [nodes_two]; have := HNOD.out; omega
      have HN5 := Lib.hid hN5
      clear r5 b5 B5 hN5
      go_wp2_with fail
      rw [← hW5]
      clear hW5 x0 x1 x2 x3 x4 y0 y1 y2 y3 y4 p0 p1
      refine (Test_any l (.mk 11 0 s2 ⟨#[]⟩ [a, b]) _ A m cap W5 HT5.out (HR.out.later HW5.out) HN5.out (HE.out.under HW5.out)).mono ?_
      rintro e W6 ⟨rfl, c5⟩
      rw [test_op l s2 a b HO.out.2.1 HNOD.out HDA.out HDB.out, ← HBB.out]
      have HB2nn := Lib.hid (HW5.out.trans (c5.mono HW5.out.size))
      have bb5 := Hb5.out.trans (c5.mono Hb5.out.size)
      have HBr2nn := Lib.hid (HBr2n.out.trans (bb5.mono HBr2n.out.size))
      have HPBnn := Lib.hid ((bb5.block _ (heap_lt HPBn.out)).trans HPBn.out)
      clear bb5 c5 HB2n HBr2n HPBn HT5 HW5 Hb5 HN5
      rw [HO.out.2.2.2.2 (cmpV l a b)]
      generalize (cmpR s1 (cmpV l a b)).1 = X
      clear HBB
      have HF := HBr2nn
      clear HB2nn HPBnn HBr2nn HO
      cases BB <;> cases X <;> simp only [Bool.false_and, Bool.true_and, Bool.not_true, Bool.not_false, Bool.and_true, Bool.and_false]
      all_goals go_wp2_with fail
      all_goals go_roundw
      all_goals first | exact ⟨j + 1, by omega, by go_num, HF⟩ | (simp [intOf]; omega)
    · obtain rfl : j = 3 := by omega
      have HB := Lib.hid (HB10.out.trans (HBr.out.mono HB10.out.size))
      go_wp2_with fail
      refine (wakes11_any wr (HE.out.under HB.out)).mono ?_
      rintro e w9 ⟨rfl, b9⟩
      have HF := Lib.hid (HB1.out.trans ((HB.out.trans (b9.mono HB.out.size)).mono HB1.out.size))
      clear b9
      go_wp2_with fail
      go_ret
      exact ⟨rfl, HF.out⟩
end Go.Proofs.YthbiaaeoajmlbaaGreatDoor
