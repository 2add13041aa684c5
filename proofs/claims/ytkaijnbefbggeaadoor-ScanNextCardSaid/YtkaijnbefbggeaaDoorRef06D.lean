/- pleachref06.Next. -/
import Derived.Test.YtkaijnbefbggeaaDoorRef06A
import Derived.Test.YtkaijnbefbggeaaDoorRef06B
import Derived.Test.YtkaijnbefbggeaaDoorRef06C
import Derived.Deep.DeepCutAuto
import Derived.Tactics2
set_option linter.unusedVariables false
namespace Go.Proofs.YtkaijnbefbggeaaDoor
open Go.RowKit

theorem tokL_s (r : ByteArray) (h0 : 0 < r.size) : tokL r.data.toList =
    if isDig (r[0]'h0) = true then (if 576460752303423488 < vl r.data.toList (dg r.data.toList) then .bad 11 else .tok 2 (vl r.data.toList (dg r.data.toList)) (dg r.data.toList) 0)
    else if kindN ((r[0]'h0).toNat : Int) ≠ 0 then (if 32 < prefL r.data.toList then .bad 11 else .tok (if wordL (r.data.toList.take (prefL r.data.toList)) = true then 3 else if kindN ((r[0]'h0).toNat : Int) = 2 then 0 else 1) 0 (prefL r.data.toList) (prefL r.data.toList))
    else if (r[0]'h0).toNat = 46 then .tok 4 0 1 0
    else if markL r.data.toList = 0 then .bad 60 else .tok 3 0 (markL r.data.toList) (markL r.data.toList) := by
  have hl := size_list r
  have hc : r.data.toList = r[0]'h0 :: r.data.toList.drop 1 := by
    have := drop_cons (l := r.data.toList) (k := 0) (by omega)
    rw [List.drop_zero] at this
    exact this
  generalize r.data.toList = L at hc ⊢
  rw [hc]
  rfl
theorem tokAt_bad {s : ByteArray} {b : Nat} {e : Int} (h : tokL (s.data.toList.drop b) = .bad e) : tokAt s b = ⟨tk0, b, e, b⟩ := by unfold tokAt; rw [h]
theorem tokAt_tok {s : ByteArray} {b : Nat} {k n : Int} {len sl : Nat} (h : tokL (s.data.toList.drop b) = .tok k n len sl) : tokAt s b = ⟨⟨k, n, if sl = 0 then ⟨#[]⟩ else s.extract b (b + sl), b⟩, b + len, 0, 0⟩ := by unfold tokAt; rw [h]
theorem prefL_le' (r : ByteArray) : prefN r ≤ r.size := by unfold prefN; rw [← size_list]; exact prefL_le _
theorem pref_pos (r : ByteArray) (h0 : 0 < r.size) (h : kindN ((r[0]'h0).toNat : Int) ≠ 0) : 1 ≤ prefN r := by
  have hl := size_list r
  have hc : r.data.toList = r[0]'h0 :: r.data.toList.drop 1 := by
    have := drop_cons (l := r.data.toList) (k := 0) (by omega)
    rw [List.drop_zero] at this
    exact this
  unfold prefN
  rw [hc, prefL, if_neg h]
  omega

set_option maxHeartbeats 16000000 in
set_option maxRecDepth 100000 in
theorem rNext_any (s : ByteArray) (a : Int) (hs : s.size ≤ 1000000000000000000) (w : World) : Calls Tryd.prog 8 #[.string s, .int .i64 a] w fun r w' => r = .returned (nextR s a).v ∧ Below w.heap.size w w' := by
  obtain ⟨w2, hw2⟩ : ∃ w2, w2 = (w.alloc (.cells #[.int .i8 0, .int .i64 0, .string ⟨#[]⟩, .int .i64 0] 25)).alloc (.cells #[.int .i64 0, .int .i64 0] 28) := ⟨_, rfl⟩
  have hb2 := box42 w w2 hw2
  have HB2 := Lib.hid hb2
  obtain ⟨g4, g6, -⟩ := hb2
  have HS2 : Hid (w2.heap.size = w.heap.size + 2) := by show _ = _; rw [hw2]; simp
  have x0 : w2.cell? ⟨w.heap.size, 0, none⟩ = some (.int .i8 0) := cell_of_row g4 rfl
  have x1 : w2.cell? ⟨w.heap.size, 1, none⟩ = some (.int .i64 0) := cell_of_row g4 rfl
  have x2 : w2.cell? ⟨w.heap.size, 2, none⟩ = some (.string ⟨#[]⟩) := cell_of_row g4 rfl
  have x3 : w2.cell? ⟨w.heap.size, 3, none⟩ = some (.int .i64 0) := cell_of_row g4 rfl
  have fx0 : w2.frozen? ⟨w.heap.size, 0, none⟩ = false := free_of_row g4
  have fx1 : w2.frozen? ⟨w.heap.size, 1, none⟩ = false := free_of_row g4
  have fx2 : w2.frozen? ⟨w.heap.size, 2, none⟩ = false := free_of_row g4
  have fx3 : w2.frozen? ⟨w.heap.size, 3, none⟩ = false := free_of_row g4
  have y0 : w2.cell? ⟨(w.heap.size + 1), 0, none⟩ = some (.int .i64 0) := cell_of_row g6 rfl
  have y1 : w2.cell? ⟨(w.heap.size + 1), 1, none⟩ = some (.int .i64 0) := cell_of_row g6 rfl
  have fy0 : w2.frozen? ⟨(w.heap.size + 1), 0, none⟩ = false := free_of_row g6
  have fy1 : w2.frozen? ⟨(w.heap.size + 1), 1, none⟩ = false := free_of_row g6
  clear g4 g6
  by_cases ha : a < 0
  · have HT : Hid (nextR s a = ⟨tk0, a, 60, a⟩) := by show _ = _; unfold nextR; rw [if_pos (.inl ha)]
    subst hw2
    go_enter Tryd.func8, Tryd.ntmps8
    go_upto_region 1 with fail
    generalize (w.alloc (.cells #[.int .i8 0, .int .i64 0, .string ⟨#[]⟩, .int .i64 0] 25)).alloc (.cells #[.int .i64 0, .int .i64 0] 28) = w2 at *
    go_wp2_with fail
    refine (rflaw_any 60 a w2).mono ?_
    rintro r5 w5 ⟨rfl, b5⟩
    have HB5 := Lib.hid (HB2.out.under b5)
    obtain ⟨g4, g6, -⟩ := HB5.out
    clear x0 x1 x2 x3 fx0 fx1 fx2 fx3 y0 y1 fy0 fy1 b5
    have x0 : w5.cell? ⟨w.heap.size, 0, none⟩ = some (.int .i8 0) := cell_of_row g4 rfl
    have x1 : w5.cell? ⟨w.heap.size, 1, none⟩ = some (.int .i64 0) := cell_of_row g4 rfl
    have x2 : w5.cell? ⟨w.heap.size, 2, none⟩ = some (.string ⟨#[]⟩) := cell_of_row g4 rfl
    have x3 : w5.cell? ⟨w.heap.size, 3, none⟩ = some (.int .i64 0) := cell_of_row g4 rfl
    have fx0 : w5.frozen? ⟨w.heap.size, 0, none⟩ = false := free_of_row g4
    have fx1 : w5.frozen? ⟨w.heap.size, 1, none⟩ = false := free_of_row g4
    have fx2 : w5.frozen? ⟨w.heap.size, 2, none⟩ = false := free_of_row g4
    have fx3 : w5.frozen? ⟨w.heap.size, 3, none⟩ = false := free_of_row g4
    have y0 : w5.cell? ⟨(w.heap.size + 1), 0, none⟩ = some (.int .i64 0) := cell_of_row g6 rfl
    have y1 : w5.cell? ⟨(w.heap.size + 1), 1, none⟩ = some (.int .i64 0) := cell_of_row g6 rfl
    have fy0 : w5.frozen? ⟨(w.heap.size + 1), 0, none⟩ = false := free_of_row g6
    have fy1 : w5.frozen? ⟨(w.heap.size + 1), 1, none⟩ = false := free_of_row g6
    clear g4 g6
    simp only [NR.v, Tk.v, tk0]
    go_wp2_with fail
    obtain ⟨s4, s6, m7⟩ := fin_spec (.int .i8 0) (.int .i64 0) (.string ⟨#[]⟩) (.int .i64 0) (.int .i64 60) (.int .i64 a) HB5.out
    generalize ((((((w5).setCell ⟨w.heap.size, 0, none⟩ (.int .i8 0)).setCell ⟨w.heap.size, 1, none⟩ (.int .i64 0)).setCell ⟨w.heap.size, 2, none⟩ (.string ⟨#[]⟩)).setCell ⟨w.heap.size, 3, none⟩ (.int .i64 0)).setCell ⟨w.heap.size + 1, 0, none⟩ (.int .i64 60)).setCell ⟨w.heap.size + 1, 1, none⟩ (.int .i64 a) = w7 at s4 s6 m7 ⊢
    clear x0 x1 x2 x3 fx0 fx1 fx2 fx3 y0 y1 fy0 fy1
    have x0 : w7.cell? ⟨w.heap.size, 0, none⟩ = some (.int .i8 0) := cell_of_row s4 rfl
    have x1 : w7.cell? ⟨w.heap.size, 1, none⟩ = some (.int .i64 0) := cell_of_row s4 rfl
    have x2 : w7.cell? ⟨w.heap.size, 2, none⟩ = some (.string ⟨#[]⟩) := cell_of_row s4 rfl
    have x3 : w7.cell? ⟨w.heap.size, 3, none⟩ = some (.int .i64 0) := cell_of_row s4 rfl
    have y0 : w7.cell? ⟨(w.heap.size + 1), 0, none⟩ = some (.int .i64 60) := cell_of_row s6 rfl
    have y1 : w7.cell? ⟨(w.heap.size + 1), 1, none⟩ = some (.int .i64 a) := cell_of_row s6 rfl
    have HM7 := Lib.hid m7
    clear s4 s6 m7
    refine bodyPost_ret (v := .tuple #[.agg #[.int .i8 0, .int .i64 0, .string ⟨#[]⟩, .int .i64 0], .int .i64 a, .agg #[.int .i64 60, .int .i64 a]]) (by simp [results, Tryd.f8, go_sem, x0, x1, x2, x3, y0, y1]) rfl ⟨by rw [HT.out]; rfl, HM7.out⟩
  by_cases hg : (s.size : Int) < a
  · have HT : Hid (nextR s a = ⟨tk0, a, 60, a⟩) := by show _ = _; unfold nextR; rw [if_pos (.inr hg)]
    subst hw2
    go_enter Tryd.func8, Tryd.ntmps8
    go_upto_region 1 with fail
    generalize (w.alloc (.cells #[.int .i8 0, .int .i64 0, .string ⟨#[]⟩, .int .i64 0] 25)).alloc (.cells #[.int .i64 0, .int .i64 0] 28) = w2 at *
    go_wp2_with fail
    refine (rflaw_any 60 a w2).mono ?_
    rintro r5 w5 ⟨rfl, b5⟩
    have HB5 := Lib.hid (HB2.out.under b5)
    obtain ⟨g4, g6, -⟩ := HB5.out
    clear x0 x1 x2 x3 fx0 fx1 fx2 fx3 y0 y1 fy0 fy1 b5
    have x0 : w5.cell? ⟨w.heap.size, 0, none⟩ = some (.int .i8 0) := cell_of_row g4 rfl
    have x1 : w5.cell? ⟨w.heap.size, 1, none⟩ = some (.int .i64 0) := cell_of_row g4 rfl
    have x2 : w5.cell? ⟨w.heap.size, 2, none⟩ = some (.string ⟨#[]⟩) := cell_of_row g4 rfl
    have x3 : w5.cell? ⟨w.heap.size, 3, none⟩ = some (.int .i64 0) := cell_of_row g4 rfl
    have fx0 : w5.frozen? ⟨w.heap.size, 0, none⟩ = false := free_of_row g4
    have fx1 : w5.frozen? ⟨w.heap.size, 1, none⟩ = false := free_of_row g4
    have fx2 : w5.frozen? ⟨w.heap.size, 2, none⟩ = false := free_of_row g4
    have fx3 : w5.frozen? ⟨w.heap.size, 3, none⟩ = false := free_of_row g4
    have y0 : w5.cell? ⟨(w.heap.size + 1), 0, none⟩ = some (.int .i64 0) := cell_of_row g6 rfl
    have y1 : w5.cell? ⟨(w.heap.size + 1), 1, none⟩ = some (.int .i64 0) := cell_of_row g6 rfl
    have fy0 : w5.frozen? ⟨(w.heap.size + 1), 0, none⟩ = false := free_of_row g6
    have fy1 : w5.frozen? ⟨(w.heap.size + 1), 1, none⟩ = false := free_of_row g6
    clear g4 g6
    simp only [NR.v, Tk.v, tk0]
    go_wp2_with fail
    obtain ⟨s4, s6, m7⟩ := fin_spec (.int .i8 0) (.int .i64 0) (.string ⟨#[]⟩) (.int .i64 0) (.int .i64 60) (.int .i64 a) HB5.out
    generalize ((((((w5).setCell ⟨w.heap.size, 0, none⟩ (.int .i8 0)).setCell ⟨w.heap.size, 1, none⟩ (.int .i64 0)).setCell ⟨w.heap.size, 2, none⟩ (.string ⟨#[]⟩)).setCell ⟨w.heap.size, 3, none⟩ (.int .i64 0)).setCell ⟨w.heap.size + 1, 0, none⟩ (.int .i64 60)).setCell ⟨w.heap.size + 1, 1, none⟩ (.int .i64 a) = w7 at s4 s6 m7 ⊢
    clear x0 x1 x2 x3 fx0 fx1 fx2 fx3 y0 y1 fy0 fy1
    have x0 : w7.cell? ⟨w.heap.size, 0, none⟩ = some (.int .i8 0) := cell_of_row s4 rfl
    have x1 : w7.cell? ⟨w.heap.size, 1, none⟩ = some (.int .i64 0) := cell_of_row s4 rfl
    have x2 : w7.cell? ⟨w.heap.size, 2, none⟩ = some (.string ⟨#[]⟩) := cell_of_row s4 rfl
    have x3 : w7.cell? ⟨w.heap.size, 3, none⟩ = some (.int .i64 0) := cell_of_row s4 rfl
    have y0 : w7.cell? ⟨(w.heap.size + 1), 0, none⟩ = some (.int .i64 60) := cell_of_row s6 rfl
    have y1 : w7.cell? ⟨(w.heap.size + 1), 1, none⟩ = some (.int .i64 a) := cell_of_row s6 rfl
    have HM7 := Lib.hid m7
    clear s4 s6 m7
    refine bodyPost_ret (v := .tuple #[.agg #[.int .i8 0, .int .i64 0, .string ⟨#[]⟩, .int .i64 0], .int .i64 a, .agg #[.int .i64 60, .int .i64 a]]) (by simp [results, Tryd.f8, go_sem, x0, x1, x2, x3, y0, y1]) rfl ⟨by rw [HT.out]; rfl, HM7.out⟩
  obtain ⟨k, rfl⟩ : ∃ k : Nat, a = k := ⟨a.toNat, by omega⟩
  obtain ⟨b, hb⟩ : ∃ b : Nat, b = k + blk false (s.data.toList.drop k) := ⟨_, rfl⟩
  have hB : blankR s k = b := by unfold blankR; rw [if_neg (by omega), Int.toNat_natCast, ← hb]
  have hbs : b ≤ s.size := by
    have := blk_le false (s.data.toList.drop k)
    rw [List.length_drop, size_list] at this
    omega
  have HBL : Hid (∀ V : World, Calls Tryd.prog 10 #[.string s, .int .i64 k] V fun e w' => e = .returned (.int .i64 b) ∧ V = w') := fun V => by rw [← hB]; exact rBlank_any s k V (by omega)
  have HBB := Lib.hid hB
  clear hb hB
  by_cases hend : s.size ≤ b
  · have HT : Hid (nextR s k = ⟨tk0, s.size, 60, s.size⟩) := by show _ = _; unfold nextR; rw [if_neg (by omega), if_pos (by rw [HBB.out]; omega)]
    subst hw2
    go_enter Tryd.func8, Tryd.ntmps8
    go_upto_region 1 with fail
    generalize (w.alloc (.cells #[.int .i8 0, .int .i64 0, .string ⟨#[]⟩, .int .i64 0] 25)).alloc (.cells #[.int .i64 0, .int .i64 0] 28) = w2 at *
    go_wp2_with fail
    refine (HBL.out w2).mono ?_
    rintro e V ⟨rfl, hVV⟩
    subst V
    go_wp2_with fail
    refine (rflaw_any 60 s.size w2).mono ?_
    rintro r5 w5 ⟨rfl, b5⟩
    have HB5 := Lib.hid (HB2.out.under b5)
    obtain ⟨g4, g6, -⟩ := HB5.out
    clear x0 x1 x2 x3 fx0 fx1 fx2 fx3 y0 y1 fy0 fy1 b5
    have x0 : w5.cell? ⟨w.heap.size, 0, none⟩ = some (.int .i8 0) := cell_of_row g4 rfl
    have x1 : w5.cell? ⟨w.heap.size, 1, none⟩ = some (.int .i64 0) := cell_of_row g4 rfl
    have x2 : w5.cell? ⟨w.heap.size, 2, none⟩ = some (.string ⟨#[]⟩) := cell_of_row g4 rfl
    have x3 : w5.cell? ⟨w.heap.size, 3, none⟩ = some (.int .i64 0) := cell_of_row g4 rfl
    have fx0 : w5.frozen? ⟨w.heap.size, 0, none⟩ = false := free_of_row g4
    have fx1 : w5.frozen? ⟨w.heap.size, 1, none⟩ = false := free_of_row g4
    have fx2 : w5.frozen? ⟨w.heap.size, 2, none⟩ = false := free_of_row g4
    have fx3 : w5.frozen? ⟨w.heap.size, 3, none⟩ = false := free_of_row g4
    have y0 : w5.cell? ⟨(w.heap.size + 1), 0, none⟩ = some (.int .i64 0) := cell_of_row g6 rfl
    have y1 : w5.cell? ⟨(w.heap.size + 1), 1, none⟩ = some (.int .i64 0) := cell_of_row g6 rfl
    have fy0 : w5.frozen? ⟨(w.heap.size + 1), 0, none⟩ = false := free_of_row g6
    have fy1 : w5.frozen? ⟨(w.heap.size + 1), 1, none⟩ = false := free_of_row g6
    clear g4 g6
    simp only [NR.v, Tk.v, tk0]
    go_wp2_with fail
    obtain ⟨s4, s6, m7⟩ := fin_spec (.int .i8 0) (.int .i64 0) (.string ⟨#[]⟩) (.int .i64 0) (.int .i64 60) (.int .i64 s.size) HB5.out
    generalize ((((((w5).setCell ⟨w.heap.size, 0, none⟩ (.int .i8 0)).setCell ⟨w.heap.size, 1, none⟩ (.int .i64 0)).setCell ⟨w.heap.size, 2, none⟩ (.string ⟨#[]⟩)).setCell ⟨w.heap.size, 3, none⟩ (.int .i64 0)).setCell ⟨w.heap.size + 1, 0, none⟩ (.int .i64 60)).setCell ⟨w.heap.size + 1, 1, none⟩ (.int .i64 s.size) = w7 at s4 s6 m7 ⊢
    clear x0 x1 x2 x3 fx0 fx1 fx2 fx3 y0 y1 fy0 fy1
    have x0 : w7.cell? ⟨w.heap.size, 0, none⟩ = some (.int .i8 0) := cell_of_row s4 rfl
    have x1 : w7.cell? ⟨w.heap.size, 1, none⟩ = some (.int .i64 0) := cell_of_row s4 rfl
    have x2 : w7.cell? ⟨w.heap.size, 2, none⟩ = some (.string ⟨#[]⟩) := cell_of_row s4 rfl
    have x3 : w7.cell? ⟨w.heap.size, 3, none⟩ = some (.int .i64 0) := cell_of_row s4 rfl
    have y0 : w7.cell? ⟨(w.heap.size + 1), 0, none⟩ = some (.int .i64 60) := cell_of_row s6 rfl
    have y1 : w7.cell? ⟨(w.heap.size + 1), 1, none⟩ = some (.int .i64 s.size) := cell_of_row s6 rfl
    have HM7 := Lib.hid m7
    clear s4 s6 m7
    refine bodyPost_ret (v := .tuple #[.agg #[.int .i8 0, .int .i64 0, .string ⟨#[]⟩, .int .i64 0], .int .i64 s.size, .agg #[.int .i64 60, .int .i64 s.size]]) (by simp [results, Tryd.f8, go_sem, x0, x1, x2, x3, y0, y1]) rfl ⟨by rw [HT.out]; rfl, HM7.out⟩
  obtain ⟨r, hr⟩ : ∃ r, s.extract b s.size = r := ⟨_, rfl⟩
  have hrs : r.size = s.size - b := by rw [← hr, ByteArray.size_extract]; omega
  have h0 : 0 < r.size := by omega
  have HN : Hid (nextR s k = tokAt s b) := by show _ = _; unfold nextR; rw [if_neg (by omega), if_neg (by rw [HBB.out]; omega), HBB.out, Int.toNat_natCast]
  have HL : Hid (s.data.toList.drop b = r.data.toList) := by show _ = _; rw [← hr, ext_rest]
  have HRR : Hid (r = s.extract b s.size) := hr.symm
  obtain ⟨x, hx⟩ : ∃ x : Nat, (r[0]'h0).toNat = x := ⟨_, rfl⟩
  have hx255 : x < 256 := by rw [← hx]; exact (r[0]'h0).toNat_lt
  have HX := Lib.hid hx
  subst hw2
  go_enter Tryd.func8, Tryd.ntmps8
  go_upto_region 1 with fail
  generalize (w.alloc (.cells #[.int .i8 0, .int .i64 0, .string ⟨#[]⟩, .int .i64 0] 25)).alloc (.cells #[.int .i64 0, .int .i64 0] 28) = w2 at *
  go_wp2_with fail
  refine (HBL.out w2).mono ?_
  rintro e V ⟨rfl, hVV⟩
  subst V
  go_upto_region 8 with fail
  by_cases hdg : 48 ≤ x ∧ x ≤ 57
  · have hisd : isDig (r[0]'h0) = true := decide_eq_true (by rw [HX.out]; exact hdg)
    have f48 : (48 : Int) ≤ (x : Int) := by omega
    have f57 : (x : Int) ≤ 57 := by omega
    by_cases hv : 576460752303423488 < vl r.data.toList (dg r.data.toList)
    · have HT : Hid (nextR s k = ⟨tk0, b, 11, b⟩) := by show _ = _; rw [HN.out]; exact tokAt_bad (by rw [HL.out, tokL_s r h0, if_pos hisd, if_pos hv])
      have HNM : Hid (numR r.data.toList b = ⟨tk0, b, 11, b⟩) := if_pos hv
      clear hisd hv hdg hr hx
      go_wp2_with fail
      refine (rnumber_any r b (by omega) w2).mono ?_
      rintro r5 w5 ⟨rfl, b5⟩
      rw [HNM.out]
      have HB5 := Lib.hid (HB2.out.under b5)
      obtain ⟨g4, g6, -⟩ := HB5.out
      clear x0 x1 x2 x3 fx0 fx1 fx2 fx3 y0 y1 fy0 fy1 b5
      have x0 : w5.cell? ⟨w.heap.size, 0, none⟩ = some (.int .i8 0) := cell_of_row g4 rfl
      have x1 : w5.cell? ⟨w.heap.size, 1, none⟩ = some (.int .i64 0) := cell_of_row g4 rfl
      have x2 : w5.cell? ⟨w.heap.size, 2, none⟩ = some (.string ⟨#[]⟩) := cell_of_row g4 rfl
      have x3 : w5.cell? ⟨w.heap.size, 3, none⟩ = some (.int .i64 0) := cell_of_row g4 rfl
      have fx0 : w5.frozen? ⟨w.heap.size, 0, none⟩ = false := free_of_row g4
      have fx1 : w5.frozen? ⟨w.heap.size, 1, none⟩ = false := free_of_row g4
      have fx2 : w5.frozen? ⟨w.heap.size, 2, none⟩ = false := free_of_row g4
      have fx3 : w5.frozen? ⟨w.heap.size, 3, none⟩ = false := free_of_row g4
      have y0 : w5.cell? ⟨(w.heap.size + 1), 0, none⟩ = some (.int .i64 0) := cell_of_row g6 rfl
      have y1 : w5.cell? ⟨(w.heap.size + 1), 1, none⟩ = some (.int .i64 0) := cell_of_row g6 rfl
      have fy0 : w5.frozen? ⟨(w.heap.size + 1), 0, none⟩ = false := free_of_row g6
      have fy1 : w5.frozen? ⟨(w.heap.size + 1), 1, none⟩ = false := free_of_row g6
      clear g4 g6
      simp only [NR.v, Tk.v, tk0]
      go_wp2_with fail
      obtain ⟨s4, s6, m7⟩ := fin_spec (.int .i8 0) (.int .i64 0) (.string ⟨#[]⟩) (.int .i64 0) (.int .i64 11) (.int .i64 b) HB5.out
      generalize ((((((w5).setCell ⟨w.heap.size, 0, none⟩ (.int .i8 0)).setCell ⟨w.heap.size, 1, none⟩ (.int .i64 0)).setCell ⟨w.heap.size, 2, none⟩ (.string ⟨#[]⟩)).setCell ⟨w.heap.size, 3, none⟩ (.int .i64 0)).setCell ⟨w.heap.size + 1, 0, none⟩ (.int .i64 11)).setCell ⟨w.heap.size + 1, 1, none⟩ (.int .i64 b) = w7 at s4 s6 m7 ⊢
      clear x0 x1 x2 x3 fx0 fx1 fx2 fx3 y0 y1 fy0 fy1
      have x0 : w7.cell? ⟨w.heap.size, 0, none⟩ = some (.int .i8 0) := cell_of_row s4 rfl
      have x1 : w7.cell? ⟨w.heap.size, 1, none⟩ = some (.int .i64 0) := cell_of_row s4 rfl
      have x2 : w7.cell? ⟨w.heap.size, 2, none⟩ = some (.string ⟨#[]⟩) := cell_of_row s4 rfl
      have x3 : w7.cell? ⟨w.heap.size, 3, none⟩ = some (.int .i64 0) := cell_of_row s4 rfl
      have y0 : w7.cell? ⟨(w.heap.size + 1), 0, none⟩ = some (.int .i64 11) := cell_of_row s6 rfl
      have y1 : w7.cell? ⟨(w.heap.size + 1), 1, none⟩ = some (.int .i64 b) := cell_of_row s6 rfl
      have HM7 := Lib.hid m7
      clear s4 s6 m7
      refine bodyPost_ret (v := .tuple #[.agg #[.int .i8 0, .int .i64 0, .string ⟨#[]⟩, .int .i64 0], .int .i64 b, .agg #[.int .i64 11, .int .i64 b]]) (by simp [results, Tryd.f8, go_sem, x0, x1, x2, x3, y0, y1]) rfl ⟨by rw [HT.out]; rfl, HM7.out⟩
    · obtain ⟨vv, hvv⟩ : ∃ vv, vv = vl r.data.toList (dg r.data.toList) := ⟨_, rfl⟩
      obtain ⟨dd, hdd⟩ : ∃ dd, dd = dg r.data.toList := ⟨_, rfl⟩
      have HT : Hid (nextR s k = ⟨⟨2, vv, ⟨#[]⟩, b⟩, b + dd, 0, 0⟩) := by show _ = _; rw [HN.out, tokAt_tok (by rw [HL.out, tokL_s r h0, if_pos hisd, if_neg hv]), if_pos rfl, hvv, hdd]
      have HNM : Hid (numR r.data.toList b = ⟨⟨2, vv, ⟨#[]⟩, b⟩, b + dd, 0, 0⟩) := by show _ = _; unfold numR; rw [if_neg hv, hvv, hdd]
      clear hisd hv hdg hr hx hvv hdd
      go_wp2_with fail
      refine (rnumber_any r b (by omega) w2).mono ?_
      rintro r5 w5 ⟨rfl, b5⟩
      rw [HNM.out]
      have HB5 := Lib.hid (HB2.out.under b5)
      obtain ⟨g4, g6, -⟩ := HB5.out
      clear x0 x1 x2 x3 fx0 fx1 fx2 fx3 y0 y1 fy0 fy1 b5
      have x0 : w5.cell? ⟨w.heap.size, 0, none⟩ = some (.int .i8 0) := cell_of_row g4 rfl
      have x1 : w5.cell? ⟨w.heap.size, 1, none⟩ = some (.int .i64 0) := cell_of_row g4 rfl
      have x2 : w5.cell? ⟨w.heap.size, 2, none⟩ = some (.string ⟨#[]⟩) := cell_of_row g4 rfl
      have x3 : w5.cell? ⟨w.heap.size, 3, none⟩ = some (.int .i64 0) := cell_of_row g4 rfl
      have fx0 : w5.frozen? ⟨w.heap.size, 0, none⟩ = false := free_of_row g4
      have fx1 : w5.frozen? ⟨w.heap.size, 1, none⟩ = false := free_of_row g4
      have fx2 : w5.frozen? ⟨w.heap.size, 2, none⟩ = false := free_of_row g4
      have fx3 : w5.frozen? ⟨w.heap.size, 3, none⟩ = false := free_of_row g4
      have y0 : w5.cell? ⟨(w.heap.size + 1), 0, none⟩ = some (.int .i64 0) := cell_of_row g6 rfl
      have y1 : w5.cell? ⟨(w.heap.size + 1), 1, none⟩ = some (.int .i64 0) := cell_of_row g6 rfl
      have fy0 : w5.frozen? ⟨(w.heap.size + 1), 0, none⟩ = false := free_of_row g6
      have fy1 : w5.frozen? ⟨(w.heap.size + 1), 1, none⟩ = false := free_of_row g6
      clear g4 g6
      simp only [NR.v, Tk.v]
      go_wp2_with fail
      obtain ⟨s4, s6, m7⟩ := fin_spec (.int .i8 2) (.int .i64 vv) (.string ⟨#[]⟩) (.int .i64 b) (.int .i64 0) (.int .i64 0) HB5.out
      generalize ((((((w5).setCell ⟨w.heap.size, 0, none⟩ (.int .i8 2)).setCell ⟨w.heap.size, 1, none⟩ (.int .i64 vv)).setCell ⟨w.heap.size, 2, none⟩ (.string ⟨#[]⟩)).setCell ⟨w.heap.size, 3, none⟩ (.int .i64 b)).setCell ⟨w.heap.size + 1, 0, none⟩ (.int .i64 0)).setCell ⟨w.heap.size + 1, 1, none⟩ (.int .i64 0) = w7 at s4 s6 m7 ⊢
      clear x0 x1 x2 x3 fx0 fx1 fx2 fx3 y0 y1 fy0 fy1
      have x0 : w7.cell? ⟨w.heap.size, 0, none⟩ = some (.int .i8 2) := cell_of_row s4 rfl
      have x1 : w7.cell? ⟨w.heap.size, 1, none⟩ = some (.int .i64 vv) := cell_of_row s4 rfl
      have x2 : w7.cell? ⟨w.heap.size, 2, none⟩ = some (.string ⟨#[]⟩) := cell_of_row s4 rfl
      have x3 : w7.cell? ⟨w.heap.size, 3, none⟩ = some (.int .i64 b) := cell_of_row s4 rfl
      have y0 : w7.cell? ⟨(w.heap.size + 1), 0, none⟩ = some (.int .i64 0) := cell_of_row s6 rfl
      have y1 : w7.cell? ⟨(w.heap.size + 1), 1, none⟩ = some (.int .i64 0) := cell_of_row s6 rfl
      have HM7 := Lib.hid m7
      clear s4 s6 m7
      refine bodyPost_ret (v := .tuple #[.agg #[.int .i8 2, .int .i64 vv, .string ⟨#[]⟩, .int .i64 b], .int .i64 (b + dd), .agg #[.int .i64 0, .int .i64 0]]) (by simp [results, Tryd.f8, go_sem, x0, x1, x2, x3, y0, y1]) rfl ⟨by rw [HT.out]; rfl, HM7.out⟩
  have HD : Hid (¬ isDig (r[0]'h0) = true) := fun h => hdg (by have h5 := of_decide_eq_true h; rw [HX.out] at h5; exact h5)
  by_cases hlo : 97 ≤ x ∧ x ≤ 122
  · have HK2 : Hid (kindN ((r[0]'h0).toNat : Int) = 2) := by show _ = _; rw [HX.out, kindN2]; omega
    have HK : Hid (kindN ((r[0]'h0).toNat : Int) ≠ 0) := by show _ ≠ _; rw [HK2.out]; decide
    have f48 : (48 : Int) ≤ (x : Int) := by omega
    have f57 : ¬ (x : Int) ≤ 57 := by omega
    have f97 : (97 : Int) ≤ (x : Int) := by omega
    have f122 : (x : Int) ≤ 122 := by omega
    clear hdg hlo hr hx
    have hpl : prefN r ≤ r.size := prefL_le' r
    have hp1 : 1 ≤ prefN r := pref_pos r h0 HK.out
    obtain ⟨n, hn⟩ : ∃ n, n = prefN r := ⟨_, rfl⟩
    rw [← hn] at hpl hp1
    have HPN := Lib.hid hn
    have HPR : Hid (∀ V : World, Calls Tryd.prog 16 #[.string r] V fun e w' => e = .returned (.int .i64 n) ∧ V = w') := fun V => by rw [hn]; exact rPrefix_any r V (by unfold maxLen; omega)
    clear hn
    by_cases h32 : 32 < n
    · have HT : Hid (nextR s k = ⟨tk0, b, 11, b⟩) := by show _ = _; rw [HN.out]; exact tokAt_bad (by rw [HL.out, tokL_s r h0, if_neg HD.out, if_pos HK.out, if_pos (by show 32 < prefN r; rw [← HPN.out]; exact h32)])
      go_wp2_with fail
      refine (HPR.out w2).mono ?_
      rintro e V ⟨rfl, hVV⟩
      subst V
      go_wp2_with fail
      refine (rflaw_any 11 b w2).mono ?_
      rintro r5 w5 ⟨rfl, b5⟩
      have HB5 := Lib.hid (HB2.out.under b5)
      obtain ⟨g4, g6, -⟩ := HB5.out
      clear x0 x1 x2 x3 fx0 fx1 fx2 fx3 y0 y1 fy0 fy1 b5
      have x0 : w5.cell? ⟨w.heap.size, 0, none⟩ = some (.int .i8 0) := cell_of_row g4 rfl
      have x1 : w5.cell? ⟨w.heap.size, 1, none⟩ = some (.int .i64 0) := cell_of_row g4 rfl
      have x2 : w5.cell? ⟨w.heap.size, 2, none⟩ = some (.string ⟨#[]⟩) := cell_of_row g4 rfl
      have x3 : w5.cell? ⟨w.heap.size, 3, none⟩ = some (.int .i64 0) := cell_of_row g4 rfl
      have fx0 : w5.frozen? ⟨w.heap.size, 0, none⟩ = false := free_of_row g4
      have fx1 : w5.frozen? ⟨w.heap.size, 1, none⟩ = false := free_of_row g4
      have fx2 : w5.frozen? ⟨w.heap.size, 2, none⟩ = false := free_of_row g4
      have fx3 : w5.frozen? ⟨w.heap.size, 3, none⟩ = false := free_of_row g4
      have y0 : w5.cell? ⟨(w.heap.size + 1), 0, none⟩ = some (.int .i64 0) := cell_of_row g6 rfl
      have y1 : w5.cell? ⟨(w.heap.size + 1), 1, none⟩ = some (.int .i64 0) := cell_of_row g6 rfl
      have fy0 : w5.frozen? ⟨(w.heap.size + 1), 0, none⟩ = false := free_of_row g6
      have fy1 : w5.frozen? ⟨(w.heap.size + 1), 1, none⟩ = false := free_of_row g6
      clear g4 g6
      simp only [NR.v, Tk.v, tk0]
      go_wp2_with fail
      obtain ⟨s4, s6, m7⟩ := fin_spec (.int .i8 0) (.int .i64 0) (.string ⟨#[]⟩) (.int .i64 0) (.int .i64 11) (.int .i64 b) HB5.out
      generalize ((((((w5).setCell ⟨w.heap.size, 0, none⟩ (.int .i8 0)).setCell ⟨w.heap.size, 1, none⟩ (.int .i64 0)).setCell ⟨w.heap.size, 2, none⟩ (.string ⟨#[]⟩)).setCell ⟨w.heap.size, 3, none⟩ (.int .i64 0)).setCell ⟨w.heap.size + 1, 0, none⟩ (.int .i64 11)).setCell ⟨w.heap.size + 1, 1, none⟩ (.int .i64 b) = w7 at s4 s6 m7 ⊢
      clear x0 x1 x2 x3 fx0 fx1 fx2 fx3 y0 y1 fy0 fy1
      have x0 : w7.cell? ⟨w.heap.size, 0, none⟩ = some (.int .i8 0) := cell_of_row s4 rfl
      have x1 : w7.cell? ⟨w.heap.size, 1, none⟩ = some (.int .i64 0) := cell_of_row s4 rfl
      have x2 : w7.cell? ⟨w.heap.size, 2, none⟩ = some (.string ⟨#[]⟩) := cell_of_row s4 rfl
      have x3 : w7.cell? ⟨w.heap.size, 3, none⟩ = some (.int .i64 0) := cell_of_row s4 rfl
      have y0 : w7.cell? ⟨(w.heap.size + 1), 0, none⟩ = some (.int .i64 11) := cell_of_row s6 rfl
      have y1 : w7.cell? ⟨(w.heap.size + 1), 1, none⟩ = some (.int .i64 b) := cell_of_row s6 rfl
      have HM7 := Lib.hid m7
      clear s4 s6 m7
      refine bodyPost_ret (v := .tuple #[.agg #[.int .i8 0, .int .i64 0, .string ⟨#[]⟩, .int .i64 0], .int .i64 b, .agg #[.int .i64 11, .int .i64 b]]) (by simp [results, Tryd.f8, go_sem, x0, x1, x2, x3, y0, y1]) rfl ⟨by rw [HT.out]; rfl, HM7.out⟩
    · obtain ⟨q, hq⟩ : ∃ q, q = wordL (r.extract 0 n).data.toList := ⟨_, rfl⟩
      have hq2 : wordL (r.data.toList.take n) = q := by rw [hq, ext_list, List.drop_zero]
      have HQ2 := Lib.hid hq2
      have HWR : Hid (∀ V : World, Calls Tryd.prog 17 #[.string (r.extract 0 n)] V fun e w' => e = .returned (.bool q) ∧ V = w') := fun V => by rw [hq]; exact rWord_any _ V
      have HT0 : Hid (nextR s k = ⟨⟨if q = true then 3 else 0, 0, r.extract 0 n, b⟩, b + n, 0, 0⟩) := by
        show _ = _
        rw [HN.out, tokAt_tok (k := if q = true then 3 else 0) (n := 0) (len := n) (sl := n) (by rw [HL.out, tokL_s r h0, if_neg HD.out, if_pos HK.out, if_neg (by show ¬ 32 < prefN r; rw [← HPN.out]; exact h32), show prefL r.data.toList = n from HPN.out.symm, HQ2.out, if_pos HK2.out]), if_neg (show ¬ n = 0 by omega), HRR.out, ext_ext s b n (by omega)]
      clear hq hq2
      cases q with
      | true =>
        have HT : Hid (nextR s k = ⟨⟨3, 0, r.extract 0 n, b⟩, b + n, 0, 0⟩) := HT0.out
        have B3 : Below w2.heap.size w2 (w2.alloc (.cells #[.int .i8 3, .int .i64 0, .string (r.extract 0 n), .int .i64 b] 25)) := (Below.refl _ _).alloc (Nat.le_refl _) _
        have hbu := HB2.out.under B3
        obtain ⟨g4, g6, -⟩ := hbu
        have HBU := Lib.hid (HB2.out.under B3)
        clear x0 x1 x2 x3 fx0 fx1 fx2 fx3 y0 y1 fy0 fy1
        have x0 : (w2.alloc (.cells #[.int .i8 3, .int .i64 0, .string (r.extract 0 n), .int .i64 b] 25)).cell? ⟨w.heap.size, 0, none⟩ = some (.int .i8 0) := cell_of_row g4 rfl
        have x1 : (w2.alloc (.cells #[.int .i8 3, .int .i64 0, .string (r.extract 0 n), .int .i64 b] 25)).cell? ⟨w.heap.size, 1, none⟩ = some (.int .i64 0) := cell_of_row g4 rfl
        have x2 : (w2.alloc (.cells #[.int .i8 3, .int .i64 0, .string (r.extract 0 n), .int .i64 b] 25)).cell? ⟨w.heap.size, 2, none⟩ = some (.string ⟨#[]⟩) := cell_of_row g4 rfl
        have x3 : (w2.alloc (.cells #[.int .i8 3, .int .i64 0, .string (r.extract 0 n), .int .i64 b] 25)).cell? ⟨w.heap.size, 3, none⟩ = some (.int .i64 0) := cell_of_row g4 rfl
        have fx0 : (w2.alloc (.cells #[.int .i8 3, .int .i64 0, .string (r.extract 0 n), .int .i64 b] 25)).frozen? ⟨w.heap.size, 0, none⟩ = false := free_of_row g4
        have fx1 : (w2.alloc (.cells #[.int .i8 3, .int .i64 0, .string (r.extract 0 n), .int .i64 b] 25)).frozen? ⟨w.heap.size, 1, none⟩ = false := free_of_row g4
        have fx2 : (w2.alloc (.cells #[.int .i8 3, .int .i64 0, .string (r.extract 0 n), .int .i64 b] 25)).frozen? ⟨w.heap.size, 2, none⟩ = false := free_of_row g4
        have fx3 : (w2.alloc (.cells #[.int .i8 3, .int .i64 0, .string (r.extract 0 n), .int .i64 b] 25)).frozen? ⟨w.heap.size, 3, none⟩ = false := free_of_row g4
        have y0 : (w2.alloc (.cells #[.int .i8 3, .int .i64 0, .string (r.extract 0 n), .int .i64 b] 25)).cell? ⟨(w.heap.size + 1), 0, none⟩ = some (.int .i64 0) := cell_of_row g6 rfl
        have y1 : (w2.alloc (.cells #[.int .i8 3, .int .i64 0, .string (r.extract 0 n), .int .i64 b] 25)).cell? ⟨(w.heap.size + 1), 1, none⟩ = some (.int .i64 0) := cell_of_row g6 rfl
        have fy0 : (w2.alloc (.cells #[.int .i8 3, .int .i64 0, .string (r.extract 0 n), .int .i64 b] 25)).frozen? ⟨(w.heap.size + 1), 0, none⟩ = false := free_of_row g6
        have fy1 : (w2.alloc (.cells #[.int .i8 3, .int .i64 0, .string (r.extract 0 n), .int .i64 b] 25)).frozen? ⟨(w.heap.size + 1), 1, none⟩ = false := free_of_row g6
        clear g4 g6 B3
        go_wp2_with fail
        refine (HPR.out w2).mono ?_
        rintro e V ⟨rfl, hVV⟩
        subst V
        go_wp2_with fail
        refine (HWR.out _).mono ?_
        rintro e V ⟨rfl, hVV⟩
        subst V
        go_wp2_with fail
        obtain ⟨s4, s6, m7⟩ := fin_spec (.int .i8 3) (.int .i64 0) (.string (r.extract 0 n)) (.int .i64 b) (.int .i64 0) (.int .i64 0) HBU.out
        generalize (((((((w2.alloc (.cells #[.int .i8 3, .int .i64 0, .string (r.extract 0 n), .int .i64 b] 25))).setCell ⟨w.heap.size, 0, none⟩ (.int .i8 3)).setCell ⟨w.heap.size, 1, none⟩ (.int .i64 0)).setCell ⟨w.heap.size, 2, none⟩ (.string (r.extract 0 n))).setCell ⟨w.heap.size, 3, none⟩ (.int .i64 b)).setCell ⟨w.heap.size + 1, 0, none⟩ (.int .i64 0)).setCell ⟨w.heap.size + 1, 1, none⟩ (.int .i64 0) = w7 at s4 s6 m7 ⊢
        clear x0 x1 x2 x3 fx0 fx1 fx2 fx3 y0 y1 fy0 fy1
        have x0 : w7.cell? ⟨w.heap.size, 0, none⟩ = some (.int .i8 3) := cell_of_row s4 rfl
        have x1 : w7.cell? ⟨w.heap.size, 1, none⟩ = some (.int .i64 0) := cell_of_row s4 rfl
        have x2 : w7.cell? ⟨w.heap.size, 2, none⟩ = some (.string (r.extract 0 n)) := cell_of_row s4 rfl
        have x3 : w7.cell? ⟨w.heap.size, 3, none⟩ = some (.int .i64 b) := cell_of_row s4 rfl
        have y0 : w7.cell? ⟨(w.heap.size + 1), 0, none⟩ = some (.int .i64 0) := cell_of_row s6 rfl
        have y1 : w7.cell? ⟨(w.heap.size + 1), 1, none⟩ = some (.int .i64 0) := cell_of_row s6 rfl
        have HM7 := Lib.hid m7
        clear s4 s6 m7
        refine bodyPost_ret (v := .tuple #[.agg #[.int .i8 3, .int .i64 0, .string (r.extract 0 n), .int .i64 b], .int .i64 (b + n), .agg #[.int .i64 0, .int .i64 0]]) (by simp [results, Tryd.f8, go_sem, x0, x1, x2, x3, y0, y1]) rfl ⟨by rw [HT.out]; rfl, HM7.out⟩
      | false =>
        have HT : Hid (nextR s k = ⟨⟨0, 0, r.extract 0 n, b⟩, b + n, 0, 0⟩) := HT0.out
        have B3 : Below w2.heap.size w2 (w2.alloc (.cells #[.int .i8 0, .int .i64 0, .string (r.extract 0 n), .int .i64 b] 25)) := (Below.refl _ _).alloc (Nat.le_refl _) _
        have hbu := HB2.out.under B3
        obtain ⟨g4, g6, -⟩ := hbu
        have HBU := Lib.hid (HB2.out.under B3)
        clear x0 x1 x2 x3 fx0 fx1 fx2 fx3 y0 y1 fy0 fy1
        have x0 : (w2.alloc (.cells #[.int .i8 0, .int .i64 0, .string (r.extract 0 n), .int .i64 b] 25)).cell? ⟨w.heap.size, 0, none⟩ = some (.int .i8 0) := cell_of_row g4 rfl
        have x1 : (w2.alloc (.cells #[.int .i8 0, .int .i64 0, .string (r.extract 0 n), .int .i64 b] 25)).cell? ⟨w.heap.size, 1, none⟩ = some (.int .i64 0) := cell_of_row g4 rfl
        have x2 : (w2.alloc (.cells #[.int .i8 0, .int .i64 0, .string (r.extract 0 n), .int .i64 b] 25)).cell? ⟨w.heap.size, 2, none⟩ = some (.string ⟨#[]⟩) := cell_of_row g4 rfl
        have x3 : (w2.alloc (.cells #[.int .i8 0, .int .i64 0, .string (r.extract 0 n), .int .i64 b] 25)).cell? ⟨w.heap.size, 3, none⟩ = some (.int .i64 0) := cell_of_row g4 rfl
        have fx0 : (w2.alloc (.cells #[.int .i8 0, .int .i64 0, .string (r.extract 0 n), .int .i64 b] 25)).frozen? ⟨w.heap.size, 0, none⟩ = false := free_of_row g4
        have fx1 : (w2.alloc (.cells #[.int .i8 0, .int .i64 0, .string (r.extract 0 n), .int .i64 b] 25)).frozen? ⟨w.heap.size, 1, none⟩ = false := free_of_row g4
        have fx2 : (w2.alloc (.cells #[.int .i8 0, .int .i64 0, .string (r.extract 0 n), .int .i64 b] 25)).frozen? ⟨w.heap.size, 2, none⟩ = false := free_of_row g4
        have fx3 : (w2.alloc (.cells #[.int .i8 0, .int .i64 0, .string (r.extract 0 n), .int .i64 b] 25)).frozen? ⟨w.heap.size, 3, none⟩ = false := free_of_row g4
        have y0 : (w2.alloc (.cells #[.int .i8 0, .int .i64 0, .string (r.extract 0 n), .int .i64 b] 25)).cell? ⟨(w.heap.size + 1), 0, none⟩ = some (.int .i64 0) := cell_of_row g6 rfl
        have y1 : (w2.alloc (.cells #[.int .i8 0, .int .i64 0, .string (r.extract 0 n), .int .i64 b] 25)).cell? ⟨(w.heap.size + 1), 1, none⟩ = some (.int .i64 0) := cell_of_row g6 rfl
        have fy0 : (w2.alloc (.cells #[.int .i8 0, .int .i64 0, .string (r.extract 0 n), .int .i64 b] 25)).frozen? ⟨(w.heap.size + 1), 0, none⟩ = false := free_of_row g6
        have fy1 : (w2.alloc (.cells #[.int .i8 0, .int .i64 0, .string (r.extract 0 n), .int .i64 b] 25)).frozen? ⟨(w.heap.size + 1), 1, none⟩ = false := free_of_row g6
        clear g4 g6 B3
        go_wp2_with fail
        refine (HPR.out w2).mono ?_
        rintro e V ⟨rfl, hVV⟩
        subst V
        go_wp2_with fail
        refine (HWR.out _).mono ?_
        rintro e V ⟨rfl, hVV⟩
        subst V
        go_wp2_with fail
        obtain ⟨s4, s6, m7⟩ := fin_spec (.int .i8 0) (.int .i64 0) (.string (r.extract 0 n)) (.int .i64 b) (.int .i64 0) (.int .i64 0) HBU.out
        generalize (((((((w2.alloc (.cells #[.int .i8 0, .int .i64 0, .string (r.extract 0 n), .int .i64 b] 25))).setCell ⟨w.heap.size, 0, none⟩ (.int .i8 0)).setCell ⟨w.heap.size, 1, none⟩ (.int .i64 0)).setCell ⟨w.heap.size, 2, none⟩ (.string (r.extract 0 n))).setCell ⟨w.heap.size, 3, none⟩ (.int .i64 b)).setCell ⟨w.heap.size + 1, 0, none⟩ (.int .i64 0)).setCell ⟨w.heap.size + 1, 1, none⟩ (.int .i64 0) = w7 at s4 s6 m7 ⊢
        clear x0 x1 x2 x3 fx0 fx1 fx2 fx3 y0 y1 fy0 fy1
        have x0 : w7.cell? ⟨w.heap.size, 0, none⟩ = some (.int .i8 0) := cell_of_row s4 rfl
        have x1 : w7.cell? ⟨w.heap.size, 1, none⟩ = some (.int .i64 0) := cell_of_row s4 rfl
        have x2 : w7.cell? ⟨w.heap.size, 2, none⟩ = some (.string (r.extract 0 n)) := cell_of_row s4 rfl
        have x3 : w7.cell? ⟨w.heap.size, 3, none⟩ = some (.int .i64 b) := cell_of_row s4 rfl
        have y0 : w7.cell? ⟨(w.heap.size + 1), 0, none⟩ = some (.int .i64 0) := cell_of_row s6 rfl
        have y1 : w7.cell? ⟨(w.heap.size + 1), 1, none⟩ = some (.int .i64 0) := cell_of_row s6 rfl
        have HM7 := Lib.hid m7
        clear s4 s6 m7
        refine bodyPost_ret (v := .tuple #[.agg #[.int .i8 0, .int .i64 0, .string (r.extract 0 n), .int .i64 b], .int .i64 (b + n), .agg #[.int .i64 0, .int .i64 0]]) (by simp [results, Tryd.f8, go_sem, x0, x1, x2, x3, y0, y1]) rfl ⟨by rw [HT.out]; rfl, HM7.out⟩
  by_cases hup : 65 ≤ x ∧ x ≤ 90
  · have HK3 : Hid (kindN ((r[0]'h0).toNat : Int) = 3) := by show _ = _; rw [HX.out, kindN3]; omega
    have HK2 : Hid (¬ kindN ((r[0]'h0).toNat : Int) = 2) := by show ¬ _; rw [HK3.out]; decide
    have HK : Hid (kindN ((r[0]'h0).toNat : Int) ≠ 0) := by show _ ≠ _; rw [HK3.out]; decide
    have f48 : (48 : Int) ≤ (x : Int) := by omega
    have f57 : ¬ (x : Int) ≤ 57 := by omega
    have f97 : ¬ (97 : Int) ≤ (x : Int) := by omega
    have f65 : (65 : Int) ≤ (x : Int) := by omega
    have f90 : (x : Int) ≤ 90 := by omega
    clear hdg hlo hup hr hx
    have hpl : prefN r ≤ r.size := prefL_le' r
    have hp1 : 1 ≤ prefN r := pref_pos r h0 HK.out
    obtain ⟨n, hn⟩ : ∃ n, n = prefN r := ⟨_, rfl⟩
    rw [← hn] at hpl hp1
    have HPN := Lib.hid hn
    have HPR : Hid (∀ V : World, Calls Tryd.prog 16 #[.string r] V fun e w' => e = .returned (.int .i64 n) ∧ V = w') := fun V => by rw [hn]; exact rPrefix_any r V (by unfold maxLen; omega)
    clear hn
    by_cases h32 : 32 < n
    · have HT : Hid (nextR s k = ⟨tk0, b, 11, b⟩) := by show _ = _; rw [HN.out]; exact tokAt_bad (by rw [HL.out, tokL_s r h0, if_neg HD.out, if_pos HK.out, if_pos (by show 32 < prefN r; rw [← HPN.out]; exact h32)])
      go_wp2_with fail
      refine (HPR.out w2).mono ?_
      rintro e V ⟨rfl, hVV⟩
      subst V
      go_wp2_with fail
      refine (rflaw_any 11 b w2).mono ?_
      rintro r5 w5 ⟨rfl, b5⟩
      have HB5 := Lib.hid (HB2.out.under b5)
      obtain ⟨g4, g6, -⟩ := HB5.out
      clear x0 x1 x2 x3 fx0 fx1 fx2 fx3 y0 y1 fy0 fy1 b5
      have x0 : w5.cell? ⟨w.heap.size, 0, none⟩ = some (.int .i8 0) := cell_of_row g4 rfl
      have x1 : w5.cell? ⟨w.heap.size, 1, none⟩ = some (.int .i64 0) := cell_of_row g4 rfl
      have x2 : w5.cell? ⟨w.heap.size, 2, none⟩ = some (.string ⟨#[]⟩) := cell_of_row g4 rfl
      have x3 : w5.cell? ⟨w.heap.size, 3, none⟩ = some (.int .i64 0) := cell_of_row g4 rfl
      have fx0 : w5.frozen? ⟨w.heap.size, 0, none⟩ = false := free_of_row g4
      have fx1 : w5.frozen? ⟨w.heap.size, 1, none⟩ = false := free_of_row g4
      have fx2 : w5.frozen? ⟨w.heap.size, 2, none⟩ = false := free_of_row g4
      have fx3 : w5.frozen? ⟨w.heap.size, 3, none⟩ = false := free_of_row g4
      have y0 : w5.cell? ⟨(w.heap.size + 1), 0, none⟩ = some (.int .i64 0) := cell_of_row g6 rfl
      have y1 : w5.cell? ⟨(w.heap.size + 1), 1, none⟩ = some (.int .i64 0) := cell_of_row g6 rfl
      have fy0 : w5.frozen? ⟨(w.heap.size + 1), 0, none⟩ = false := free_of_row g6
      have fy1 : w5.frozen? ⟨(w.heap.size + 1), 1, none⟩ = false := free_of_row g6
      clear g4 g6
      simp only [NR.v, Tk.v, tk0]
      go_wp2_with fail
      obtain ⟨s4, s6, m7⟩ := fin_spec (.int .i8 0) (.int .i64 0) (.string ⟨#[]⟩) (.int .i64 0) (.int .i64 11) (.int .i64 b) HB5.out
      generalize ((((((w5).setCell ⟨w.heap.size, 0, none⟩ (.int .i8 0)).setCell ⟨w.heap.size, 1, none⟩ (.int .i64 0)).setCell ⟨w.heap.size, 2, none⟩ (.string ⟨#[]⟩)).setCell ⟨w.heap.size, 3, none⟩ (.int .i64 0)).setCell ⟨w.heap.size + 1, 0, none⟩ (.int .i64 11)).setCell ⟨w.heap.size + 1, 1, none⟩ (.int .i64 b) = w7 at s4 s6 m7 ⊢
      clear x0 x1 x2 x3 fx0 fx1 fx2 fx3 y0 y1 fy0 fy1
      have x0 : w7.cell? ⟨w.heap.size, 0, none⟩ = some (.int .i8 0) := cell_of_row s4 rfl
      have x1 : w7.cell? ⟨w.heap.size, 1, none⟩ = some (.int .i64 0) := cell_of_row s4 rfl
      have x2 : w7.cell? ⟨w.heap.size, 2, none⟩ = some (.string ⟨#[]⟩) := cell_of_row s4 rfl
      have x3 : w7.cell? ⟨w.heap.size, 3, none⟩ = some (.int .i64 0) := cell_of_row s4 rfl
      have y0 : w7.cell? ⟨(w.heap.size + 1), 0, none⟩ = some (.int .i64 11) := cell_of_row s6 rfl
      have y1 : w7.cell? ⟨(w.heap.size + 1), 1, none⟩ = some (.int .i64 b) := cell_of_row s6 rfl
      have HM7 := Lib.hid m7
      clear s4 s6 m7
      refine bodyPost_ret (v := .tuple #[.agg #[.int .i8 0, .int .i64 0, .string ⟨#[]⟩, .int .i64 0], .int .i64 b, .agg #[.int .i64 11, .int .i64 b]]) (by simp [results, Tryd.f8, go_sem, x0, x1, x2, x3, y0, y1]) rfl ⟨by rw [HT.out]; rfl, HM7.out⟩
    · obtain ⟨q, hq⟩ : ∃ q, q = wordL (r.extract 0 n).data.toList := ⟨_, rfl⟩
      have hq2 : wordL (r.data.toList.take n) = q := by rw [hq, ext_list, List.drop_zero]
      have HQ2 := Lib.hid hq2
      have HWR : Hid (∀ V : World, Calls Tryd.prog 17 #[.string (r.extract 0 n)] V fun e w' => e = .returned (.bool q) ∧ V = w') := fun V => by rw [hq]; exact rWord_any _ V
      have HT0 : Hid (nextR s k = ⟨⟨if q = true then 3 else 1, 0, r.extract 0 n, b⟩, b + n, 0, 0⟩) := by
        show _ = _
        rw [HN.out, tokAt_tok (k := if q = true then 3 else 1) (n := 0) (len := n) (sl := n) (by rw [HL.out, tokL_s r h0, if_neg HD.out, if_pos HK.out, if_neg (by show ¬ 32 < prefN r; rw [← HPN.out]; exact h32), show prefL r.data.toList = n from HPN.out.symm, HQ2.out, if_neg HK2.out]), if_neg (show ¬ n = 0 by omega), HRR.out, ext_ext s b n (by omega)]
      clear hq hq2
      cases q with
      | true =>
        have HT : Hid (nextR s k = ⟨⟨3, 0, r.extract 0 n, b⟩, b + n, 0, 0⟩) := HT0.out
        have B3 : Below w2.heap.size w2 (w2.alloc (.cells #[.int .i8 3, .int .i64 0, .string (r.extract 0 n), .int .i64 b] 25)) := (Below.refl _ _).alloc (Nat.le_refl _) _
        have hbu := HB2.out.under B3
        obtain ⟨g4, g6, -⟩ := hbu
        have HBU := Lib.hid (HB2.out.under B3)
        clear x0 x1 x2 x3 fx0 fx1 fx2 fx3 y0 y1 fy0 fy1
        have x0 : (w2.alloc (.cells #[.int .i8 3, .int .i64 0, .string (r.extract 0 n), .int .i64 b] 25)).cell? ⟨w.heap.size, 0, none⟩ = some (.int .i8 0) := cell_of_row g4 rfl
        have x1 : (w2.alloc (.cells #[.int .i8 3, .int .i64 0, .string (r.extract 0 n), .int .i64 b] 25)).cell? ⟨w.heap.size, 1, none⟩ = some (.int .i64 0) := cell_of_row g4 rfl
        have x2 : (w2.alloc (.cells #[.int .i8 3, .int .i64 0, .string (r.extract 0 n), .int .i64 b] 25)).cell? ⟨w.heap.size, 2, none⟩ = some (.string ⟨#[]⟩) := cell_of_row g4 rfl
        have x3 : (w2.alloc (.cells #[.int .i8 3, .int .i64 0, .string (r.extract 0 n), .int .i64 b] 25)).cell? ⟨w.heap.size, 3, none⟩ = some (.int .i64 0) := cell_of_row g4 rfl
        have fx0 : (w2.alloc (.cells #[.int .i8 3, .int .i64 0, .string (r.extract 0 n), .int .i64 b] 25)).frozen? ⟨w.heap.size, 0, none⟩ = false := free_of_row g4
        have fx1 : (w2.alloc (.cells #[.int .i8 3, .int .i64 0, .string (r.extract 0 n), .int .i64 b] 25)).frozen? ⟨w.heap.size, 1, none⟩ = false := free_of_row g4
        have fx2 : (w2.alloc (.cells #[.int .i8 3, .int .i64 0, .string (r.extract 0 n), .int .i64 b] 25)).frozen? ⟨w.heap.size, 2, none⟩ = false := free_of_row g4
        have fx3 : (w2.alloc (.cells #[.int .i8 3, .int .i64 0, .string (r.extract 0 n), .int .i64 b] 25)).frozen? ⟨w.heap.size, 3, none⟩ = false := free_of_row g4
        have y0 : (w2.alloc (.cells #[.int .i8 3, .int .i64 0, .string (r.extract 0 n), .int .i64 b] 25)).cell? ⟨(w.heap.size + 1), 0, none⟩ = some (.int .i64 0) := cell_of_row g6 rfl
        have y1 : (w2.alloc (.cells #[.int .i8 3, .int .i64 0, .string (r.extract 0 n), .int .i64 b] 25)).cell? ⟨(w.heap.size + 1), 1, none⟩ = some (.int .i64 0) := cell_of_row g6 rfl
        have fy0 : (w2.alloc (.cells #[.int .i8 3, .int .i64 0, .string (r.extract 0 n), .int .i64 b] 25)).frozen? ⟨(w.heap.size + 1), 0, none⟩ = false := free_of_row g6
        have fy1 : (w2.alloc (.cells #[.int .i8 3, .int .i64 0, .string (r.extract 0 n), .int .i64 b] 25)).frozen? ⟨(w.heap.size + 1), 1, none⟩ = false := free_of_row g6
        clear g4 g6 B3
        go_wp2_with fail
        refine (HPR.out w2).mono ?_
        rintro e V ⟨rfl, hVV⟩
        subst V
        go_wp2_with fail
        refine (HWR.out _).mono ?_
        rintro e V ⟨rfl, hVV⟩
        subst V
        go_wp2_with fail
        obtain ⟨s4, s6, m7⟩ := fin_spec (.int .i8 3) (.int .i64 0) (.string (r.extract 0 n)) (.int .i64 b) (.int .i64 0) (.int .i64 0) HBU.out
        generalize (((((((w2.alloc (.cells #[.int .i8 3, .int .i64 0, .string (r.extract 0 n), .int .i64 b] 25))).setCell ⟨w.heap.size, 0, none⟩ (.int .i8 3)).setCell ⟨w.heap.size, 1, none⟩ (.int .i64 0)).setCell ⟨w.heap.size, 2, none⟩ (.string (r.extract 0 n))).setCell ⟨w.heap.size, 3, none⟩ (.int .i64 b)).setCell ⟨w.heap.size + 1, 0, none⟩ (.int .i64 0)).setCell ⟨w.heap.size + 1, 1, none⟩ (.int .i64 0) = w7 at s4 s6 m7 ⊢
        clear x0 x1 x2 x3 fx0 fx1 fx2 fx3 y0 y1 fy0 fy1
        have x0 : w7.cell? ⟨w.heap.size, 0, none⟩ = some (.int .i8 3) := cell_of_row s4 rfl
        have x1 : w7.cell? ⟨w.heap.size, 1, none⟩ = some (.int .i64 0) := cell_of_row s4 rfl
        have x2 : w7.cell? ⟨w.heap.size, 2, none⟩ = some (.string (r.extract 0 n)) := cell_of_row s4 rfl
        have x3 : w7.cell? ⟨w.heap.size, 3, none⟩ = some (.int .i64 b) := cell_of_row s4 rfl
        have y0 : w7.cell? ⟨(w.heap.size + 1), 0, none⟩ = some (.int .i64 0) := cell_of_row s6 rfl
        have y1 : w7.cell? ⟨(w.heap.size + 1), 1, none⟩ = some (.int .i64 0) := cell_of_row s6 rfl
        have HM7 := Lib.hid m7
        clear s4 s6 m7
        refine bodyPost_ret (v := .tuple #[.agg #[.int .i8 3, .int .i64 0, .string (r.extract 0 n), .int .i64 b], .int .i64 (b + n), .agg #[.int .i64 0, .int .i64 0]]) (by simp [results, Tryd.f8, go_sem, x0, x1, x2, x3, y0, y1]) rfl ⟨by rw [HT.out]; rfl, HM7.out⟩
      | false =>
        have HT : Hid (nextR s k = ⟨⟨1, 0, r.extract 0 n, b⟩, b + n, 0, 0⟩) := HT0.out
        have B3 : Below w2.heap.size w2 (w2.alloc (.cells #[.int .i8 1, .int .i64 0, .string (r.extract 0 n), .int .i64 b] 25)) := (Below.refl _ _).alloc (Nat.le_refl _) _
        have hbu := HB2.out.under B3
        obtain ⟨g4, g6, -⟩ := hbu
        have HBU := Lib.hid (HB2.out.under B3)
        clear x0 x1 x2 x3 fx0 fx1 fx2 fx3 y0 y1 fy0 fy1
        have x0 : (w2.alloc (.cells #[.int .i8 1, .int .i64 0, .string (r.extract 0 n), .int .i64 b] 25)).cell? ⟨w.heap.size, 0, none⟩ = some (.int .i8 0) := cell_of_row g4 rfl
        have x1 : (w2.alloc (.cells #[.int .i8 1, .int .i64 0, .string (r.extract 0 n), .int .i64 b] 25)).cell? ⟨w.heap.size, 1, none⟩ = some (.int .i64 0) := cell_of_row g4 rfl
        have x2 : (w2.alloc (.cells #[.int .i8 1, .int .i64 0, .string (r.extract 0 n), .int .i64 b] 25)).cell? ⟨w.heap.size, 2, none⟩ = some (.string ⟨#[]⟩) := cell_of_row g4 rfl
        have x3 : (w2.alloc (.cells #[.int .i8 1, .int .i64 0, .string (r.extract 0 n), .int .i64 b] 25)).cell? ⟨w.heap.size, 3, none⟩ = some (.int .i64 0) := cell_of_row g4 rfl
        have fx0 : (w2.alloc (.cells #[.int .i8 1, .int .i64 0, .string (r.extract 0 n), .int .i64 b] 25)).frozen? ⟨w.heap.size, 0, none⟩ = false := free_of_row g4
        have fx1 : (w2.alloc (.cells #[.int .i8 1, .int .i64 0, .string (r.extract 0 n), .int .i64 b] 25)).frozen? ⟨w.heap.size, 1, none⟩ = false := free_of_row g4
        have fx2 : (w2.alloc (.cells #[.int .i8 1, .int .i64 0, .string (r.extract 0 n), .int .i64 b] 25)).frozen? ⟨w.heap.size, 2, none⟩ = false := free_of_row g4
        have fx3 : (w2.alloc (.cells #[.int .i8 1, .int .i64 0, .string (r.extract 0 n), .int .i64 b] 25)).frozen? ⟨w.heap.size, 3, none⟩ = false := free_of_row g4
        have y0 : (w2.alloc (.cells #[.int .i8 1, .int .i64 0, .string (r.extract 0 n), .int .i64 b] 25)).cell? ⟨(w.heap.size + 1), 0, none⟩ = some (.int .i64 0) := cell_of_row g6 rfl
        have y1 : (w2.alloc (.cells #[.int .i8 1, .int .i64 0, .string (r.extract 0 n), .int .i64 b] 25)).cell? ⟨(w.heap.size + 1), 1, none⟩ = some (.int .i64 0) := cell_of_row g6 rfl
        have fy0 : (w2.alloc (.cells #[.int .i8 1, .int .i64 0, .string (r.extract 0 n), .int .i64 b] 25)).frozen? ⟨(w.heap.size + 1), 0, none⟩ = false := free_of_row g6
        have fy1 : (w2.alloc (.cells #[.int .i8 1, .int .i64 0, .string (r.extract 0 n), .int .i64 b] 25)).frozen? ⟨(w.heap.size + 1), 1, none⟩ = false := free_of_row g6
        clear g4 g6 B3
        go_wp2_with fail
        refine (HPR.out w2).mono ?_
        rintro e V ⟨rfl, hVV⟩
        subst V
        go_wp2_with fail
        refine (HWR.out _).mono ?_
        rintro e V ⟨rfl, hVV⟩
        subst V
        go_wp2_with fail
        obtain ⟨s4, s6, m7⟩ := fin_spec (.int .i8 1) (.int .i64 0) (.string (r.extract 0 n)) (.int .i64 b) (.int .i64 0) (.int .i64 0) HBU.out
        generalize (((((((w2.alloc (.cells #[.int .i8 1, .int .i64 0, .string (r.extract 0 n), .int .i64 b] 25))).setCell ⟨w.heap.size, 0, none⟩ (.int .i8 1)).setCell ⟨w.heap.size, 1, none⟩ (.int .i64 0)).setCell ⟨w.heap.size, 2, none⟩ (.string (r.extract 0 n))).setCell ⟨w.heap.size, 3, none⟩ (.int .i64 b)).setCell ⟨w.heap.size + 1, 0, none⟩ (.int .i64 0)).setCell ⟨w.heap.size + 1, 1, none⟩ (.int .i64 0) = w7 at s4 s6 m7 ⊢
        clear x0 x1 x2 x3 fx0 fx1 fx2 fx3 y0 y1 fy0 fy1
        have x0 : w7.cell? ⟨w.heap.size, 0, none⟩ = some (.int .i8 1) := cell_of_row s4 rfl
        have x1 : w7.cell? ⟨w.heap.size, 1, none⟩ = some (.int .i64 0) := cell_of_row s4 rfl
        have x2 : w7.cell? ⟨w.heap.size, 2, none⟩ = some (.string (r.extract 0 n)) := cell_of_row s4 rfl
        have x3 : w7.cell? ⟨w.heap.size, 3, none⟩ = some (.int .i64 b) := cell_of_row s4 rfl
        have y0 : w7.cell? ⟨(w.heap.size + 1), 0, none⟩ = some (.int .i64 0) := cell_of_row s6 rfl
        have y1 : w7.cell? ⟨(w.heap.size + 1), 1, none⟩ = some (.int .i64 0) := cell_of_row s6 rfl
        have HM7 := Lib.hid m7
        clear s4 s6 m7
        refine bodyPost_ret (v := .tuple #[.agg #[.int .i8 1, .int .i64 0, .string (r.extract 0 n), .int .i64 b], .int .i64 (b + n), .agg #[.int .i64 0, .int .i64 0]]) (by simp [results, Tryd.f8, go_sem, x0, x1, x2, x3, y0, y1]) rfl ⟨by rw [HT.out]; rfl, HM7.out⟩
  by_cases h95 : x = 95
  · subst h95
    have HK3 : Hid (kindN ((r[0]'h0).toNat : Int) = 3) := by show _ = _; rw [HX.out]; decide
    have HK2 : Hid (¬ kindN ((r[0]'h0).toNat : Int) = 2) := by show ¬ _; rw [HK3.out]; decide
    have HK : Hid (kindN ((r[0]'h0).toNat : Int) ≠ 0) := by show _ ≠ _; rw [HK3.out]; decide
    clear hdg hlo hup hr hx
    have hpl : prefN r ≤ r.size := prefL_le' r
    have hp1 : 1 ≤ prefN r := pref_pos r h0 HK.out
    obtain ⟨n, hn⟩ : ∃ n, n = prefN r := ⟨_, rfl⟩
    rw [← hn] at hpl hp1
    have HPN := Lib.hid hn
    have HPR : Hid (∀ V : World, Calls Tryd.prog 16 #[.string r] V fun e w' => e = .returned (.int .i64 n) ∧ V = w') := fun V => by rw [hn]; exact rPrefix_any r V (by unfold maxLen; omega)
    clear hn
    by_cases h32 : 32 < n
    · have HT : Hid (nextR s k = ⟨tk0, b, 11, b⟩) := by show _ = _; rw [HN.out]; exact tokAt_bad (by rw [HL.out, tokL_s r h0, if_neg HD.out, if_pos HK.out, if_pos (by show 32 < prefN r; rw [← HPN.out]; exact h32)])
      go_wp2_with fail
      refine (HPR.out w2).mono ?_
      rintro e V ⟨rfl, hVV⟩
      subst V
      go_wp2_with fail
      refine (rflaw_any 11 b w2).mono ?_
      rintro r5 w5 ⟨rfl, b5⟩
      have HB5 := Lib.hid (HB2.out.under b5)
      obtain ⟨g4, g6, -⟩ := HB5.out
      clear x0 x1 x2 x3 fx0 fx1 fx2 fx3 y0 y1 fy0 fy1 b5
      have x0 : w5.cell? ⟨w.heap.size, 0, none⟩ = some (.int .i8 0) := cell_of_row g4 rfl
      have x1 : w5.cell? ⟨w.heap.size, 1, none⟩ = some (.int .i64 0) := cell_of_row g4 rfl
      have x2 : w5.cell? ⟨w.heap.size, 2, none⟩ = some (.string ⟨#[]⟩) := cell_of_row g4 rfl
      have x3 : w5.cell? ⟨w.heap.size, 3, none⟩ = some (.int .i64 0) := cell_of_row g4 rfl
      have fx0 : w5.frozen? ⟨w.heap.size, 0, none⟩ = false := free_of_row g4
      have fx1 : w5.frozen? ⟨w.heap.size, 1, none⟩ = false := free_of_row g4
      have fx2 : w5.frozen? ⟨w.heap.size, 2, none⟩ = false := free_of_row g4
      have fx3 : w5.frozen? ⟨w.heap.size, 3, none⟩ = false := free_of_row g4
      have y0 : w5.cell? ⟨(w.heap.size + 1), 0, none⟩ = some (.int .i64 0) := cell_of_row g6 rfl
      have y1 : w5.cell? ⟨(w.heap.size + 1), 1, none⟩ = some (.int .i64 0) := cell_of_row g6 rfl
      have fy0 : w5.frozen? ⟨(w.heap.size + 1), 0, none⟩ = false := free_of_row g6
      have fy1 : w5.frozen? ⟨(w.heap.size + 1), 1, none⟩ = false := free_of_row g6
      clear g4 g6
      simp only [NR.v, Tk.v, tk0]
      go_wp2_with fail
      obtain ⟨s4, s6, m7⟩ := fin_spec (.int .i8 0) (.int .i64 0) (.string ⟨#[]⟩) (.int .i64 0) (.int .i64 11) (.int .i64 b) HB5.out
      generalize ((((((w5).setCell ⟨w.heap.size, 0, none⟩ (.int .i8 0)).setCell ⟨w.heap.size, 1, none⟩ (.int .i64 0)).setCell ⟨w.heap.size, 2, none⟩ (.string ⟨#[]⟩)).setCell ⟨w.heap.size, 3, none⟩ (.int .i64 0)).setCell ⟨w.heap.size + 1, 0, none⟩ (.int .i64 11)).setCell ⟨w.heap.size + 1, 1, none⟩ (.int .i64 b) = w7 at s4 s6 m7 ⊢
      clear x0 x1 x2 x3 fx0 fx1 fx2 fx3 y0 y1 fy0 fy1
      have x0 : w7.cell? ⟨w.heap.size, 0, none⟩ = some (.int .i8 0) := cell_of_row s4 rfl
      have x1 : w7.cell? ⟨w.heap.size, 1, none⟩ = some (.int .i64 0) := cell_of_row s4 rfl
      have x2 : w7.cell? ⟨w.heap.size, 2, none⟩ = some (.string ⟨#[]⟩) := cell_of_row s4 rfl
      have x3 : w7.cell? ⟨w.heap.size, 3, none⟩ = some (.int .i64 0) := cell_of_row s4 rfl
      have y0 : w7.cell? ⟨(w.heap.size + 1), 0, none⟩ = some (.int .i64 11) := cell_of_row s6 rfl
      have y1 : w7.cell? ⟨(w.heap.size + 1), 1, none⟩ = some (.int .i64 b) := cell_of_row s6 rfl
      have HM7 := Lib.hid m7
      clear s4 s6 m7
      refine bodyPost_ret (v := .tuple #[.agg #[.int .i8 0, .int .i64 0, .string ⟨#[]⟩, .int .i64 0], .int .i64 b, .agg #[.int .i64 11, .int .i64 b]]) (by simp [results, Tryd.f8, go_sem, x0, x1, x2, x3, y0, y1]) rfl ⟨by rw [HT.out]; rfl, HM7.out⟩
    · obtain ⟨q, hq⟩ : ∃ q, q = wordL (r.extract 0 n).data.toList := ⟨_, rfl⟩
      have hq2 : wordL (r.data.toList.take n) = q := by rw [hq, ext_list, List.drop_zero]
      have HQ2 := Lib.hid hq2
      have HWR : Hid (∀ V : World, Calls Tryd.prog 17 #[.string (r.extract 0 n)] V fun e w' => e = .returned (.bool q) ∧ V = w') := fun V => by rw [hq]; exact rWord_any _ V
      have HT0 : Hid (nextR s k = ⟨⟨if q = true then 3 else 1, 0, r.extract 0 n, b⟩, b + n, 0, 0⟩) := by
        show _ = _
        rw [HN.out, tokAt_tok (k := if q = true then 3 else 1) (n := 0) (len := n) (sl := n) (by rw [HL.out, tokL_s r h0, if_neg HD.out, if_pos HK.out, if_neg (by show ¬ 32 < prefN r; rw [← HPN.out]; exact h32), show prefL r.data.toList = n from HPN.out.symm, HQ2.out, if_neg HK2.out]), if_neg (show ¬ n = 0 by omega), HRR.out, ext_ext s b n (by omega)]
      clear hq hq2
      cases q with
      | true =>
        have HT : Hid (nextR s k = ⟨⟨3, 0, r.extract 0 n, b⟩, b + n, 0, 0⟩) := HT0.out
        have B3 : Below w2.heap.size w2 (w2.alloc (.cells #[.int .i8 3, .int .i64 0, .string (r.extract 0 n), .int .i64 b] 25)) := (Below.refl _ _).alloc (Nat.le_refl _) _
        have hbu := HB2.out.under B3
        obtain ⟨g4, g6, -⟩ := hbu
        have HBU := Lib.hid (HB2.out.under B3)
        clear x0 x1 x2 x3 fx0 fx1 fx2 fx3 y0 y1 fy0 fy1
        have x0 : (w2.alloc (.cells #[.int .i8 3, .int .i64 0, .string (r.extract 0 n), .int .i64 b] 25)).cell? ⟨w.heap.size, 0, none⟩ = some (.int .i8 0) := cell_of_row g4 rfl
        have x1 : (w2.alloc (.cells #[.int .i8 3, .int .i64 0, .string (r.extract 0 n), .int .i64 b] 25)).cell? ⟨w.heap.size, 1, none⟩ = some (.int .i64 0) := cell_of_row g4 rfl
        have x2 : (w2.alloc (.cells #[.int .i8 3, .int .i64 0, .string (r.extract 0 n), .int .i64 b] 25)).cell? ⟨w.heap.size, 2, none⟩ = some (.string ⟨#[]⟩) := cell_of_row g4 rfl
        have x3 : (w2.alloc (.cells #[.int .i8 3, .int .i64 0, .string (r.extract 0 n), .int .i64 b] 25)).cell? ⟨w.heap.size, 3, none⟩ = some (.int .i64 0) := cell_of_row g4 rfl
        have fx0 : (w2.alloc (.cells #[.int .i8 3, .int .i64 0, .string (r.extract 0 n), .int .i64 b] 25)).frozen? ⟨w.heap.size, 0, none⟩ = false := free_of_row g4
        have fx1 : (w2.alloc (.cells #[.int .i8 3, .int .i64 0, .string (r.extract 0 n), .int .i64 b] 25)).frozen? ⟨w.heap.size, 1, none⟩ = false := free_of_row g4
        have fx2 : (w2.alloc (.cells #[.int .i8 3, .int .i64 0, .string (r.extract 0 n), .int .i64 b] 25)).frozen? ⟨w.heap.size, 2, none⟩ = false := free_of_row g4
        have fx3 : (w2.alloc (.cells #[.int .i8 3, .int .i64 0, .string (r.extract 0 n), .int .i64 b] 25)).frozen? ⟨w.heap.size, 3, none⟩ = false := free_of_row g4
        have y0 : (w2.alloc (.cells #[.int .i8 3, .int .i64 0, .string (r.extract 0 n), .int .i64 b] 25)).cell? ⟨(w.heap.size + 1), 0, none⟩ = some (.int .i64 0) := cell_of_row g6 rfl
        have y1 : (w2.alloc (.cells #[.int .i8 3, .int .i64 0, .string (r.extract 0 n), .int .i64 b] 25)).cell? ⟨(w.heap.size + 1), 1, none⟩ = some (.int .i64 0) := cell_of_row g6 rfl
        have fy0 : (w2.alloc (.cells #[.int .i8 3, .int .i64 0, .string (r.extract 0 n), .int .i64 b] 25)).frozen? ⟨(w.heap.size + 1), 0, none⟩ = false := free_of_row g6
        have fy1 : (w2.alloc (.cells #[.int .i8 3, .int .i64 0, .string (r.extract 0 n), .int .i64 b] 25)).frozen? ⟨(w.heap.size + 1), 1, none⟩ = false := free_of_row g6
        clear g4 g6 B3
        go_wp2_with fail
        refine (HPR.out w2).mono ?_
        rintro e V ⟨rfl, hVV⟩
        subst V
        go_wp2_with fail
        refine (HWR.out _).mono ?_
        rintro e V ⟨rfl, hVV⟩
        subst V
        go_wp2_with fail
        obtain ⟨s4, s6, m7⟩ := fin_spec (.int .i8 3) (.int .i64 0) (.string (r.extract 0 n)) (.int .i64 b) (.int .i64 0) (.int .i64 0) HBU.out
        generalize (((((((w2.alloc (.cells #[.int .i8 3, .int .i64 0, .string (r.extract 0 n), .int .i64 b] 25))).setCell ⟨w.heap.size, 0, none⟩ (.int .i8 3)).setCell ⟨w.heap.size, 1, none⟩ (.int .i64 0)).setCell ⟨w.heap.size, 2, none⟩ (.string (r.extract 0 n))).setCell ⟨w.heap.size, 3, none⟩ (.int .i64 b)).setCell ⟨w.heap.size + 1, 0, none⟩ (.int .i64 0)).setCell ⟨w.heap.size + 1, 1, none⟩ (.int .i64 0) = w7 at s4 s6 m7 ⊢
        clear x0 x1 x2 x3 fx0 fx1 fx2 fx3 y0 y1 fy0 fy1
        have x0 : w7.cell? ⟨w.heap.size, 0, none⟩ = some (.int .i8 3) := cell_of_row s4 rfl
        have x1 : w7.cell? ⟨w.heap.size, 1, none⟩ = some (.int .i64 0) := cell_of_row s4 rfl
        have x2 : w7.cell? ⟨w.heap.size, 2, none⟩ = some (.string (r.extract 0 n)) := cell_of_row s4 rfl
        have x3 : w7.cell? ⟨w.heap.size, 3, none⟩ = some (.int .i64 b) := cell_of_row s4 rfl
        have y0 : w7.cell? ⟨(w.heap.size + 1), 0, none⟩ = some (.int .i64 0) := cell_of_row s6 rfl
        have y1 : w7.cell? ⟨(w.heap.size + 1), 1, none⟩ = some (.int .i64 0) := cell_of_row s6 rfl
        have HM7 := Lib.hid m7
        clear s4 s6 m7
        refine bodyPost_ret (v := .tuple #[.agg #[.int .i8 3, .int .i64 0, .string (r.extract 0 n), .int .i64 b], .int .i64 (b + n), .agg #[.int .i64 0, .int .i64 0]]) (by simp [results, Tryd.f8, go_sem, x0, x1, x2, x3, y0, y1]) rfl ⟨by rw [HT.out]; rfl, HM7.out⟩
      | false =>
        have HT : Hid (nextR s k = ⟨⟨1, 0, r.extract 0 n, b⟩, b + n, 0, 0⟩) := HT0.out
        have B3 : Below w2.heap.size w2 (w2.alloc (.cells #[.int .i8 1, .int .i64 0, .string (r.extract 0 n), .int .i64 b] 25)) := (Below.refl _ _).alloc (Nat.le_refl _) _
        have hbu := HB2.out.under B3
        obtain ⟨g4, g6, -⟩ := hbu
        have HBU := Lib.hid (HB2.out.under B3)
        clear x0 x1 x2 x3 fx0 fx1 fx2 fx3 y0 y1 fy0 fy1
        have x0 : (w2.alloc (.cells #[.int .i8 1, .int .i64 0, .string (r.extract 0 n), .int .i64 b] 25)).cell? ⟨w.heap.size, 0, none⟩ = some (.int .i8 0) := cell_of_row g4 rfl
        have x1 : (w2.alloc (.cells #[.int .i8 1, .int .i64 0, .string (r.extract 0 n), .int .i64 b] 25)).cell? ⟨w.heap.size, 1, none⟩ = some (.int .i64 0) := cell_of_row g4 rfl
        have x2 : (w2.alloc (.cells #[.int .i8 1, .int .i64 0, .string (r.extract 0 n), .int .i64 b] 25)).cell? ⟨w.heap.size, 2, none⟩ = some (.string ⟨#[]⟩) := cell_of_row g4 rfl
        have x3 : (w2.alloc (.cells #[.int .i8 1, .int .i64 0, .string (r.extract 0 n), .int .i64 b] 25)).cell? ⟨w.heap.size, 3, none⟩ = some (.int .i64 0) := cell_of_row g4 rfl
        have fx0 : (w2.alloc (.cells #[.int .i8 1, .int .i64 0, .string (r.extract 0 n), .int .i64 b] 25)).frozen? ⟨w.heap.size, 0, none⟩ = false := free_of_row g4
        have fx1 : (w2.alloc (.cells #[.int .i8 1, .int .i64 0, .string (r.extract 0 n), .int .i64 b] 25)).frozen? ⟨w.heap.size, 1, none⟩ = false := free_of_row g4
        have fx2 : (w2.alloc (.cells #[.int .i8 1, .int .i64 0, .string (r.extract 0 n), .int .i64 b] 25)).frozen? ⟨w.heap.size, 2, none⟩ = false := free_of_row g4
        have fx3 : (w2.alloc (.cells #[.int .i8 1, .int .i64 0, .string (r.extract 0 n), .int .i64 b] 25)).frozen? ⟨w.heap.size, 3, none⟩ = false := free_of_row g4
        have y0 : (w2.alloc (.cells #[.int .i8 1, .int .i64 0, .string (r.extract 0 n), .int .i64 b] 25)).cell? ⟨(w.heap.size + 1), 0, none⟩ = some (.int .i64 0) := cell_of_row g6 rfl
        have y1 : (w2.alloc (.cells #[.int .i8 1, .int .i64 0, .string (r.extract 0 n), .int .i64 b] 25)).cell? ⟨(w.heap.size + 1), 1, none⟩ = some (.int .i64 0) := cell_of_row g6 rfl
        have fy0 : (w2.alloc (.cells #[.int .i8 1, .int .i64 0, .string (r.extract 0 n), .int .i64 b] 25)).frozen? ⟨(w.heap.size + 1), 0, none⟩ = false := free_of_row g6
        have fy1 : (w2.alloc (.cells #[.int .i8 1, .int .i64 0, .string (r.extract 0 n), .int .i64 b] 25)).frozen? ⟨(w.heap.size + 1), 1, none⟩ = false := free_of_row g6
        clear g4 g6 B3
        go_wp2_with fail
        refine (HPR.out w2).mono ?_
        rintro e V ⟨rfl, hVV⟩
        subst V
        go_wp2_with fail
        refine (HWR.out _).mono ?_
        rintro e V ⟨rfl, hVV⟩
        subst V
        go_wp2_with fail
        obtain ⟨s4, s6, m7⟩ := fin_spec (.int .i8 1) (.int .i64 0) (.string (r.extract 0 n)) (.int .i64 b) (.int .i64 0) (.int .i64 0) HBU.out
        generalize (((((((w2.alloc (.cells #[.int .i8 1, .int .i64 0, .string (r.extract 0 n), .int .i64 b] 25))).setCell ⟨w.heap.size, 0, none⟩ (.int .i8 1)).setCell ⟨w.heap.size, 1, none⟩ (.int .i64 0)).setCell ⟨w.heap.size, 2, none⟩ (.string (r.extract 0 n))).setCell ⟨w.heap.size, 3, none⟩ (.int .i64 b)).setCell ⟨w.heap.size + 1, 0, none⟩ (.int .i64 0)).setCell ⟨w.heap.size + 1, 1, none⟩ (.int .i64 0) = w7 at s4 s6 m7 ⊢
        clear x0 x1 x2 x3 fx0 fx1 fx2 fx3 y0 y1 fy0 fy1
        have x0 : w7.cell? ⟨w.heap.size, 0, none⟩ = some (.int .i8 1) := cell_of_row s4 rfl
        have x1 : w7.cell? ⟨w.heap.size, 1, none⟩ = some (.int .i64 0) := cell_of_row s4 rfl
        have x2 : w7.cell? ⟨w.heap.size, 2, none⟩ = some (.string (r.extract 0 n)) := cell_of_row s4 rfl
        have x3 : w7.cell? ⟨w.heap.size, 3, none⟩ = some (.int .i64 b) := cell_of_row s4 rfl
        have y0 : w7.cell? ⟨(w.heap.size + 1), 0, none⟩ = some (.int .i64 0) := cell_of_row s6 rfl
        have y1 : w7.cell? ⟨(w.heap.size + 1), 1, none⟩ = some (.int .i64 0) := cell_of_row s6 rfl
        have HM7 := Lib.hid m7
        clear s4 s6 m7
        refine bodyPost_ret (v := .tuple #[.agg #[.int .i8 1, .int .i64 0, .string (r.extract 0 n), .int .i64 b], .int .i64 (b + n), .agg #[.int .i64 0, .int .i64 0]]) (by simp [results, Tryd.f8, go_sem, x0, x1, x2, x3, y0, y1]) rfl ⟨by rw [HT.out]; rfl, HM7.out⟩
  have HK0 : Hid (¬ kindN ((r[0]'h0).toNat : Int) ≠ 0) := by
    show ¬ _
    rw [HX.out]
    unfold kindN
    rw [if_neg (by omega), if_neg (by omega), if_neg (by omega), if_neg (by omega)]
    decide
  have hc1 : ¬ (48 ≤ (x : Int) ∧ (x : Int) ≤ 57) := by omega
  have F1 : ((x : Int) ≤ 57 → ¬ (48 : Int) ≤ (x : Int)) ∧ ((x : Int) ≤ 122 → ¬ (97 : Int) ≤ (x : Int)) ∧ ((x : Int) ≤ 90 → ¬ (65 : Int) ≤ (x : Int)) := by omega
  have H95 : ((x : Int) == 95) = false := by rw [beq_eq_false_iff_ne]; omega
  have HF1 := Lib.hid F1
  clear F1 hc1 hdg hlo hup h95 hr
  by_cases h46 : x = 46
  · have HT : Hid (nextR s k = ⟨⟨4, 0, ⟨#[]⟩, b⟩, b + (1 : Nat), 0, 0⟩) := by show _ = _; rw [HN.out, tokAt_tok (k := 4) (n := 0) (len := 1) (sl := 0) (by rw [HL.out, tokL_s r h0, if_neg HD.out, if_neg HK0.out, if_pos (by rw [HX.out]; exact h46)]), if_pos rfl]
    subst h46
    clear H95
    go_wp2_with fail
    obtain ⟨s4, s6, m7⟩ := fin_spec (.int .i8 4) (.int .i64 0) (.string ⟨#[]⟩) (.int .i64 b) (.int .i64 0) (.int .i64 0) HB2.out
    generalize ((((((w2).setCell ⟨w.heap.size, 0, none⟩ (.int .i8 4)).setCell ⟨w.heap.size, 1, none⟩ (.int .i64 0)).setCell ⟨w.heap.size, 2, none⟩ (.string ⟨#[]⟩)).setCell ⟨w.heap.size, 3, none⟩ (.int .i64 b)).setCell ⟨w.heap.size + 1, 0, none⟩ (.int .i64 0)).setCell ⟨w.heap.size + 1, 1, none⟩ (.int .i64 0) = w7 at s4 s6 m7 ⊢
    clear x0 x1 x2 x3 fx0 fx1 fx2 fx3 y0 y1 fy0 fy1
    have x0 : w7.cell? ⟨w.heap.size, 0, none⟩ = some (.int .i8 4) := cell_of_row s4 rfl
    have x1 : w7.cell? ⟨w.heap.size, 1, none⟩ = some (.int .i64 0) := cell_of_row s4 rfl
    have x2 : w7.cell? ⟨w.heap.size, 2, none⟩ = some (.string ⟨#[]⟩) := cell_of_row s4 rfl
    have x3 : w7.cell? ⟨w.heap.size, 3, none⟩ = some (.int .i64 b) := cell_of_row s4 rfl
    have y0 : w7.cell? ⟨(w.heap.size + 1), 0, none⟩ = some (.int .i64 0) := cell_of_row s6 rfl
    have y1 : w7.cell? ⟨(w.heap.size + 1), 1, none⟩ = some (.int .i64 0) := cell_of_row s6 rfl
    have HM7 := Lib.hid m7
    clear s4 s6 m7
    refine bodyPost_ret (v := .tuple #[.agg #[.int .i8 4, .int .i64 0, .string ⟨#[]⟩, .int .i64 b], .int .i64 (b + 1), .agg #[.int .i64 0, .int .i64 0]]) (by simp [results, Tryd.f8, go_sem, x0, x1, x2, x3, y0, y1]) rfl ⟨by rw [HT.out]; rfl, HM7.out⟩

  have H46 : ((x : Int) == 46) = false := by rw [beq_eq_false_iff_ne]; omega
  obtain ⟨m, hm⟩ : ∃ m, m = markL r.data.toList := ⟨_, rfl⟩
  have hml : m ≤ r.size := by rw [hm, ← size_list]; exact markL_le _
  have HMK : Hid (∀ V : World, Calls Tryd.prog 18 #[.string r] V fun e w' => e = .returned (.int .i64 (m : Nat)) ∧ V = w') := fun V => by rw [hm]; exact rmark_any r V h0 (by unfold maxLen; omega)
  have HMM := Lib.hid hm
  have HX46 : Hid (¬ x = 46) := h46
  clear hm h46 hx
  by_cases hr1 : x < 48
  · have HFF := HF1.out
    have q0 : ¬ (48 : Int) ≤ (x : Int) := by omega
    have q1 : ¬ (97 : Int) ≤ (x : Int) := by omega
    have q2 : ¬ (65 : Int) ≤ (x : Int) := by omega
    clear HFF
    clear hr1
    by_cases hm0 : m = 0
    · subst hm0
      have HT : Hid (nextR s k = ⟨tk0, b, 60, b⟩) := by show _ = _; rw [HN.out]; exact tokAt_bad (by rw [HL.out, tokL_s r h0, if_neg HD.out, if_neg HK0.out, if_neg (by rw [HX.out]; exact HX46.out), if_pos HMM.out.symm])
      go_wp2_with fail
      refine (HMK.out w2).mono ?_
      rintro e V ⟨rfl, hVV⟩
      subst V
      go_wp2_with fail
      refine (rflaw_any 60 b w2).mono ?_
      rintro r5 w5 ⟨rfl, b5⟩
      have HB5 := Lib.hid (HB2.out.under b5)
      obtain ⟨g4, g6, -⟩ := HB5.out
      clear x0 x1 x2 x3 fx0 fx1 fx2 fx3 y0 y1 fy0 fy1 b5
      have x0 : w5.cell? ⟨w.heap.size, 0, none⟩ = some (.int .i8 0) := cell_of_row g4 rfl
      have x1 : w5.cell? ⟨w.heap.size, 1, none⟩ = some (.int .i64 0) := cell_of_row g4 rfl
      have x2 : w5.cell? ⟨w.heap.size, 2, none⟩ = some (.string ⟨#[]⟩) := cell_of_row g4 rfl
      have x3 : w5.cell? ⟨w.heap.size, 3, none⟩ = some (.int .i64 0) := cell_of_row g4 rfl
      have fx0 : w5.frozen? ⟨w.heap.size, 0, none⟩ = false := free_of_row g4
      have fx1 : w5.frozen? ⟨w.heap.size, 1, none⟩ = false := free_of_row g4
      have fx2 : w5.frozen? ⟨w.heap.size, 2, none⟩ = false := free_of_row g4
      have fx3 : w5.frozen? ⟨w.heap.size, 3, none⟩ = false := free_of_row g4
      have y0 : w5.cell? ⟨(w.heap.size + 1), 0, none⟩ = some (.int .i64 0) := cell_of_row g6 rfl
      have y1 : w5.cell? ⟨(w.heap.size + 1), 1, none⟩ = some (.int .i64 0) := cell_of_row g6 rfl
      have fy0 : w5.frozen? ⟨(w.heap.size + 1), 0, none⟩ = false := free_of_row g6
      have fy1 : w5.frozen? ⟨(w.heap.size + 1), 1, none⟩ = false := free_of_row g6
      clear g4 g6
      simp only [NR.v, Tk.v, tk0]
      go_wp2_with fail
      obtain ⟨s4, s6, m7⟩ := fin_spec (.int .i8 0) (.int .i64 0) (.string ⟨#[]⟩) (.int .i64 0) (.int .i64 60) (.int .i64 b) HB5.out
      generalize ((((((w5).setCell ⟨w.heap.size, 0, none⟩ (.int .i8 0)).setCell ⟨w.heap.size, 1, none⟩ (.int .i64 0)).setCell ⟨w.heap.size, 2, none⟩ (.string ⟨#[]⟩)).setCell ⟨w.heap.size, 3, none⟩ (.int .i64 0)).setCell ⟨w.heap.size + 1, 0, none⟩ (.int .i64 60)).setCell ⟨w.heap.size + 1, 1, none⟩ (.int .i64 b) = w7 at s4 s6 m7 ⊢
      clear x0 x1 x2 x3 fx0 fx1 fx2 fx3 y0 y1 fy0 fy1
      have x0 : w7.cell? ⟨w.heap.size, 0, none⟩ = some (.int .i8 0) := cell_of_row s4 rfl
      have x1 : w7.cell? ⟨w.heap.size, 1, none⟩ = some (.int .i64 0) := cell_of_row s4 rfl
      have x2 : w7.cell? ⟨w.heap.size, 2, none⟩ = some (.string ⟨#[]⟩) := cell_of_row s4 rfl
      have x3 : w7.cell? ⟨w.heap.size, 3, none⟩ = some (.int .i64 0) := cell_of_row s4 rfl
      have y0 : w7.cell? ⟨(w.heap.size + 1), 0, none⟩ = some (.int .i64 60) := cell_of_row s6 rfl
      have y1 : w7.cell? ⟨(w.heap.size + 1), 1, none⟩ = some (.int .i64 b) := cell_of_row s6 rfl
      have HM7 := Lib.hid m7
      clear s4 s6 m7
      refine bodyPost_ret (v := .tuple #[.agg #[.int .i8 0, .int .i64 0, .string ⟨#[]⟩, .int .i64 0], .int .i64 b, .agg #[.int .i64 60, .int .i64 b]]) (by simp [results, Tryd.f8, go_sem, x0, x1, x2, x3, y0, y1]) rfl ⟨by rw [HT.out]; rfl, HM7.out⟩
    · have HT : Hid (nextR s k = ⟨⟨3, 0, r.extract 0 m, b⟩, b + m, 0, 0⟩) := by show _ = _; rw [HN.out, tokAt_tok (k := 3) (n := 0) (len := m) (sl := m) (by rw [HL.out, tokL_s r h0, if_neg HD.out, if_neg HK0.out, if_neg (by rw [HX.out]; exact HX46.out), if_neg (by rw [← HMM.out]; exact hm0), ← HMM.out]), if_neg hm0, HRR.out, ext_ext s b m (by omega)]
      have hmb : ((m : Int) == 0) = false := by rw [beq_eq_false_iff_ne]; omega
      go_wp2_with fail
      refine (HMK.out w2).mono ?_
      rintro e V ⟨rfl, hVV⟩
      subst V
      go_wp2_with fail
      obtain ⟨s4, s6, m7⟩ := fin_spec (.int .i8 3) (.int .i64 0) (.string (r.extract 0 m)) (.int .i64 b) (.int .i64 0) (.int .i64 0) HB2.out
      generalize ((((((w2).setCell ⟨w.heap.size, 0, none⟩ (.int .i8 3)).setCell ⟨w.heap.size, 1, none⟩ (.int .i64 0)).setCell ⟨w.heap.size, 2, none⟩ (.string (r.extract 0 m))).setCell ⟨w.heap.size, 3, none⟩ (.int .i64 b)).setCell ⟨w.heap.size + 1, 0, none⟩ (.int .i64 0)).setCell ⟨w.heap.size + 1, 1, none⟩ (.int .i64 0) = w7 at s4 s6 m7 ⊢
      clear x0 x1 x2 x3 fx0 fx1 fx2 fx3 y0 y1 fy0 fy1
      have x0 : w7.cell? ⟨w.heap.size, 0, none⟩ = some (.int .i8 3) := cell_of_row s4 rfl
      have x1 : w7.cell? ⟨w.heap.size, 1, none⟩ = some (.int .i64 0) := cell_of_row s4 rfl
      have x2 : w7.cell? ⟨w.heap.size, 2, none⟩ = some (.string (r.extract 0 m)) := cell_of_row s4 rfl
      have x3 : w7.cell? ⟨w.heap.size, 3, none⟩ = some (.int .i64 b) := cell_of_row s4 rfl
      have y0 : w7.cell? ⟨(w.heap.size + 1), 0, none⟩ = some (.int .i64 0) := cell_of_row s6 rfl
      have y1 : w7.cell? ⟨(w.heap.size + 1), 1, none⟩ = some (.int .i64 0) := cell_of_row s6 rfl
      have HM7 := Lib.hid m7
      clear s4 s6 m7
      refine bodyPost_ret (v := .tuple #[.agg #[.int .i8 3, .int .i64 0, .string (r.extract 0 m), .int .i64 b], .int .i64 (b + m), .agg #[.int .i64 0, .int .i64 0]]) (by simp [results, Tryd.f8, go_sem, x0, x1, x2, x3, y0, y1]) rfl ⟨by rw [HT.out]; rfl, HM7.out⟩
  by_cases hr2 : x < 65
  · have HFF := HF1.out
    have q0 : (48 : Int) ≤ (x : Int) := by omega
    have q1 : ¬ (x : Int) ≤ 57 := by omega
    have q2 : ¬ (97 : Int) ≤ (x : Int) := by omega
    have q3 : ¬ (65 : Int) ≤ (x : Int) := by omega
    clear HFF
    clear hr2
    by_cases hm0 : m = 0
    · subst hm0
      have HT : Hid (nextR s k = ⟨tk0, b, 60, b⟩) := by show _ = _; rw [HN.out]; exact tokAt_bad (by rw [HL.out, tokL_s r h0, if_neg HD.out, if_neg HK0.out, if_neg (by rw [HX.out]; exact HX46.out), if_pos HMM.out.symm])
      go_wp2_with fail
      refine (HMK.out w2).mono ?_
      rintro e V ⟨rfl, hVV⟩
      subst V
      go_wp2_with fail
      refine (rflaw_any 60 b w2).mono ?_
      rintro r5 w5 ⟨rfl, b5⟩
      have HB5 := Lib.hid (HB2.out.under b5)
      obtain ⟨g4, g6, -⟩ := HB5.out
      clear x0 x1 x2 x3 fx0 fx1 fx2 fx3 y0 y1 fy0 fy1 b5
      have x0 : w5.cell? ⟨w.heap.size, 0, none⟩ = some (.int .i8 0) := cell_of_row g4 rfl
      have x1 : w5.cell? ⟨w.heap.size, 1, none⟩ = some (.int .i64 0) := cell_of_row g4 rfl
      have x2 : w5.cell? ⟨w.heap.size, 2, none⟩ = some (.string ⟨#[]⟩) := cell_of_row g4 rfl
      have x3 : w5.cell? ⟨w.heap.size, 3, none⟩ = some (.int .i64 0) := cell_of_row g4 rfl
      have fx0 : w5.frozen? ⟨w.heap.size, 0, none⟩ = false := free_of_row g4
      have fx1 : w5.frozen? ⟨w.heap.size, 1, none⟩ = false := free_of_row g4
      have fx2 : w5.frozen? ⟨w.heap.size, 2, none⟩ = false := free_of_row g4
      have fx3 : w5.frozen? ⟨w.heap.size, 3, none⟩ = false := free_of_row g4
      have y0 : w5.cell? ⟨(w.heap.size + 1), 0, none⟩ = some (.int .i64 0) := cell_of_row g6 rfl
      have y1 : w5.cell? ⟨(w.heap.size + 1), 1, none⟩ = some (.int .i64 0) := cell_of_row g6 rfl
      have fy0 : w5.frozen? ⟨(w.heap.size + 1), 0, none⟩ = false := free_of_row g6
      have fy1 : w5.frozen? ⟨(w.heap.size + 1), 1, none⟩ = false := free_of_row g6
      clear g4 g6
      simp only [NR.v, Tk.v, tk0]
      go_wp2_with fail
      obtain ⟨s4, s6, m7⟩ := fin_spec (.int .i8 0) (.int .i64 0) (.string ⟨#[]⟩) (.int .i64 0) (.int .i64 60) (.int .i64 b) HB5.out
      generalize ((((((w5).setCell ⟨w.heap.size, 0, none⟩ (.int .i8 0)).setCell ⟨w.heap.size, 1, none⟩ (.int .i64 0)).setCell ⟨w.heap.size, 2, none⟩ (.string ⟨#[]⟩)).setCell ⟨w.heap.size, 3, none⟩ (.int .i64 0)).setCell ⟨w.heap.size + 1, 0, none⟩ (.int .i64 60)).setCell ⟨w.heap.size + 1, 1, none⟩ (.int .i64 b) = w7 at s4 s6 m7 ⊢
      clear x0 x1 x2 x3 fx0 fx1 fx2 fx3 y0 y1 fy0 fy1
      have x0 : w7.cell? ⟨w.heap.size, 0, none⟩ = some (.int .i8 0) := cell_of_row s4 rfl
      have x1 : w7.cell? ⟨w.heap.size, 1, none⟩ = some (.int .i64 0) := cell_of_row s4 rfl
      have x2 : w7.cell? ⟨w.heap.size, 2, none⟩ = some (.string ⟨#[]⟩) := cell_of_row s4 rfl
      have x3 : w7.cell? ⟨w.heap.size, 3, none⟩ = some (.int .i64 0) := cell_of_row s4 rfl
      have y0 : w7.cell? ⟨(w.heap.size + 1), 0, none⟩ = some (.int .i64 60) := cell_of_row s6 rfl
      have y1 : w7.cell? ⟨(w.heap.size + 1), 1, none⟩ = some (.int .i64 b) := cell_of_row s6 rfl
      have HM7 := Lib.hid m7
      clear s4 s6 m7
      refine bodyPost_ret (v := .tuple #[.agg #[.int .i8 0, .int .i64 0, .string ⟨#[]⟩, .int .i64 0], .int .i64 b, .agg #[.int .i64 60, .int .i64 b]]) (by simp [results, Tryd.f8, go_sem, x0, x1, x2, x3, y0, y1]) rfl ⟨by rw [HT.out]; rfl, HM7.out⟩
    · have HT : Hid (nextR s k = ⟨⟨3, 0, r.extract 0 m, b⟩, b + m, 0, 0⟩) := by show _ = _; rw [HN.out, tokAt_tok (k := 3) (n := 0) (len := m) (sl := m) (by rw [HL.out, tokL_s r h0, if_neg HD.out, if_neg HK0.out, if_neg (by rw [HX.out]; exact HX46.out), if_neg (by rw [← HMM.out]; exact hm0), ← HMM.out]), if_neg hm0, HRR.out, ext_ext s b m (by omega)]
      have hmb : ((m : Int) == 0) = false := by rw [beq_eq_false_iff_ne]; omega
      go_wp2_with fail
      refine (HMK.out w2).mono ?_
      rintro e V ⟨rfl, hVV⟩
      subst V
      go_wp2_with fail
      obtain ⟨s4, s6, m7⟩ := fin_spec (.int .i8 3) (.int .i64 0) (.string (r.extract 0 m)) (.int .i64 b) (.int .i64 0) (.int .i64 0) HB2.out
      generalize ((((((w2).setCell ⟨w.heap.size, 0, none⟩ (.int .i8 3)).setCell ⟨w.heap.size, 1, none⟩ (.int .i64 0)).setCell ⟨w.heap.size, 2, none⟩ (.string (r.extract 0 m))).setCell ⟨w.heap.size, 3, none⟩ (.int .i64 b)).setCell ⟨w.heap.size + 1, 0, none⟩ (.int .i64 0)).setCell ⟨w.heap.size + 1, 1, none⟩ (.int .i64 0) = w7 at s4 s6 m7 ⊢
      clear x0 x1 x2 x3 fx0 fx1 fx2 fx3 y0 y1 fy0 fy1
      have x0 : w7.cell? ⟨w.heap.size, 0, none⟩ = some (.int .i8 3) := cell_of_row s4 rfl
      have x1 : w7.cell? ⟨w.heap.size, 1, none⟩ = some (.int .i64 0) := cell_of_row s4 rfl
      have x2 : w7.cell? ⟨w.heap.size, 2, none⟩ = some (.string (r.extract 0 m)) := cell_of_row s4 rfl
      have x3 : w7.cell? ⟨w.heap.size, 3, none⟩ = some (.int .i64 b) := cell_of_row s4 rfl
      have y0 : w7.cell? ⟨(w.heap.size + 1), 0, none⟩ = some (.int .i64 0) := cell_of_row s6 rfl
      have y1 : w7.cell? ⟨(w.heap.size + 1), 1, none⟩ = some (.int .i64 0) := cell_of_row s6 rfl
      have HM7 := Lib.hid m7
      clear s4 s6 m7
      refine bodyPost_ret (v := .tuple #[.agg #[.int .i8 3, .int .i64 0, .string (r.extract 0 m), .int .i64 b], .int .i64 (b + m), .agg #[.int .i64 0, .int .i64 0]]) (by simp [results, Tryd.f8, go_sem, x0, x1, x2, x3, y0, y1]) rfl ⟨by rw [HT.out]; rfl, HM7.out⟩
  by_cases hr3 : x < 97
  · have HFF := HF1.out
    have q0 : (48 : Int) ≤ (x : Int) := by omega
    have q1 : ¬ (x : Int) ≤ 57 := by omega
    have q2 : ¬ (97 : Int) ≤ (x : Int) := by omega
    have q3 : (65 : Int) ≤ (x : Int) := by omega
    have q4 : ¬ (x : Int) ≤ 90 := by omega
    clear HFF
    clear hr3
    by_cases hm0 : m = 0
    · subst hm0
      have HT : Hid (nextR s k = ⟨tk0, b, 60, b⟩) := by show _ = _; rw [HN.out]; exact tokAt_bad (by rw [HL.out, tokL_s r h0, if_neg HD.out, if_neg HK0.out, if_neg (by rw [HX.out]; exact HX46.out), if_pos HMM.out.symm])
      go_wp2_with fail
      refine (HMK.out w2).mono ?_
      rintro e V ⟨rfl, hVV⟩
      subst V
      go_wp2_with fail
      refine (rflaw_any 60 b w2).mono ?_
      rintro r5 w5 ⟨rfl, b5⟩
      have HB5 := Lib.hid (HB2.out.under b5)
      obtain ⟨g4, g6, -⟩ := HB5.out
      clear x0 x1 x2 x3 fx0 fx1 fx2 fx3 y0 y1 fy0 fy1 b5
      have x0 : w5.cell? ⟨w.heap.size, 0, none⟩ = some (.int .i8 0) := cell_of_row g4 rfl
      have x1 : w5.cell? ⟨w.heap.size, 1, none⟩ = some (.int .i64 0) := cell_of_row g4 rfl
      have x2 : w5.cell? ⟨w.heap.size, 2, none⟩ = some (.string ⟨#[]⟩) := cell_of_row g4 rfl
      have x3 : w5.cell? ⟨w.heap.size, 3, none⟩ = some (.int .i64 0) := cell_of_row g4 rfl
      have fx0 : w5.frozen? ⟨w.heap.size, 0, none⟩ = false := free_of_row g4
      have fx1 : w5.frozen? ⟨w.heap.size, 1, none⟩ = false := free_of_row g4
      have fx2 : w5.frozen? ⟨w.heap.size, 2, none⟩ = false := free_of_row g4
      have fx3 : w5.frozen? ⟨w.heap.size, 3, none⟩ = false := free_of_row g4
      have y0 : w5.cell? ⟨(w.heap.size + 1), 0, none⟩ = some (.int .i64 0) := cell_of_row g6 rfl
      have y1 : w5.cell? ⟨(w.heap.size + 1), 1, none⟩ = some (.int .i64 0) := cell_of_row g6 rfl
      have fy0 : w5.frozen? ⟨(w.heap.size + 1), 0, none⟩ = false := free_of_row g6
      have fy1 : w5.frozen? ⟨(w.heap.size + 1), 1, none⟩ = false := free_of_row g6
      clear g4 g6
      simp only [NR.v, Tk.v, tk0]
      go_wp2_with fail
      obtain ⟨s4, s6, m7⟩ := fin_spec (.int .i8 0) (.int .i64 0) (.string ⟨#[]⟩) (.int .i64 0) (.int .i64 60) (.int .i64 b) HB5.out
      generalize ((((((w5).setCell ⟨w.heap.size, 0, none⟩ (.int .i8 0)).setCell ⟨w.heap.size, 1, none⟩ (.int .i64 0)).setCell ⟨w.heap.size, 2, none⟩ (.string ⟨#[]⟩)).setCell ⟨w.heap.size, 3, none⟩ (.int .i64 0)).setCell ⟨w.heap.size + 1, 0, none⟩ (.int .i64 60)).setCell ⟨w.heap.size + 1, 1, none⟩ (.int .i64 b) = w7 at s4 s6 m7 ⊢
      clear x0 x1 x2 x3 fx0 fx1 fx2 fx3 y0 y1 fy0 fy1
      have x0 : w7.cell? ⟨w.heap.size, 0, none⟩ = some (.int .i8 0) := cell_of_row s4 rfl
      have x1 : w7.cell? ⟨w.heap.size, 1, none⟩ = some (.int .i64 0) := cell_of_row s4 rfl
      have x2 : w7.cell? ⟨w.heap.size, 2, none⟩ = some (.string ⟨#[]⟩) := cell_of_row s4 rfl
      have x3 : w7.cell? ⟨w.heap.size, 3, none⟩ = some (.int .i64 0) := cell_of_row s4 rfl
      have y0 : w7.cell? ⟨(w.heap.size + 1), 0, none⟩ = some (.int .i64 60) := cell_of_row s6 rfl
      have y1 : w7.cell? ⟨(w.heap.size + 1), 1, none⟩ = some (.int .i64 b) := cell_of_row s6 rfl
      have HM7 := Lib.hid m7
      clear s4 s6 m7
      refine bodyPost_ret (v := .tuple #[.agg #[.int .i8 0, .int .i64 0, .string ⟨#[]⟩, .int .i64 0], .int .i64 b, .agg #[.int .i64 60, .int .i64 b]]) (by simp [results, Tryd.f8, go_sem, x0, x1, x2, x3, y0, y1]) rfl ⟨by rw [HT.out]; rfl, HM7.out⟩
    · have HT : Hid (nextR s k = ⟨⟨3, 0, r.extract 0 m, b⟩, b + m, 0, 0⟩) := by show _ = _; rw [HN.out, tokAt_tok (k := 3) (n := 0) (len := m) (sl := m) (by rw [HL.out, tokL_s r h0, if_neg HD.out, if_neg HK0.out, if_neg (by rw [HX.out]; exact HX46.out), if_neg (by rw [← HMM.out]; exact hm0), ← HMM.out]), if_neg hm0, HRR.out, ext_ext s b m (by omega)]
      have hmb : ((m : Int) == 0) = false := by rw [beq_eq_false_iff_ne]; omega
      go_wp2_with fail
      refine (HMK.out w2).mono ?_
      rintro e V ⟨rfl, hVV⟩
      subst V
      go_wp2_with fail
      obtain ⟨s4, s6, m7⟩ := fin_spec (.int .i8 3) (.int .i64 0) (.string (r.extract 0 m)) (.int .i64 b) (.int .i64 0) (.int .i64 0) HB2.out
      generalize ((((((w2).setCell ⟨w.heap.size, 0, none⟩ (.int .i8 3)).setCell ⟨w.heap.size, 1, none⟩ (.int .i64 0)).setCell ⟨w.heap.size, 2, none⟩ (.string (r.extract 0 m))).setCell ⟨w.heap.size, 3, none⟩ (.int .i64 b)).setCell ⟨w.heap.size + 1, 0, none⟩ (.int .i64 0)).setCell ⟨w.heap.size + 1, 1, none⟩ (.int .i64 0) = w7 at s4 s6 m7 ⊢
      clear x0 x1 x2 x3 fx0 fx1 fx2 fx3 y0 y1 fy0 fy1
      have x0 : w7.cell? ⟨w.heap.size, 0, none⟩ = some (.int .i8 3) := cell_of_row s4 rfl
      have x1 : w7.cell? ⟨w.heap.size, 1, none⟩ = some (.int .i64 0) := cell_of_row s4 rfl
      have x2 : w7.cell? ⟨w.heap.size, 2, none⟩ = some (.string (r.extract 0 m)) := cell_of_row s4 rfl
      have x3 : w7.cell? ⟨w.heap.size, 3, none⟩ = some (.int .i64 b) := cell_of_row s4 rfl
      have y0 : w7.cell? ⟨(w.heap.size + 1), 0, none⟩ = some (.int .i64 0) := cell_of_row s6 rfl
      have y1 : w7.cell? ⟨(w.heap.size + 1), 1, none⟩ = some (.int .i64 0) := cell_of_row s6 rfl
      have HM7 := Lib.hid m7
      clear s4 s6 m7
      refine bodyPost_ret (v := .tuple #[.agg #[.int .i8 3, .int .i64 0, .string (r.extract 0 m), .int .i64 b], .int .i64 (b + m), .agg #[.int .i64 0, .int .i64 0]]) (by simp [results, Tryd.f8, go_sem, x0, x1, x2, x3, y0, y1]) rfl ⟨by rw [HT.out]; rfl, HM7.out⟩
  have HFF := HF1.out
  have q0 : (48 : Int) ≤ (x : Int) := by omega
  have q1 : ¬ (x : Int) ≤ 57 := by omega
  have q2 : (97 : Int) ≤ (x : Int) := by omega
  have q3 : ¬ (x : Int) ≤ 122 := by omega
  have q4 : (65 : Int) ≤ (x : Int) := by omega
  have q5 : ¬ (x : Int) ≤ 90 := by omega
  clear HFF
  by_cases hm0 : m = 0
  · subst hm0
    have HT : Hid (nextR s k = ⟨tk0, b, 60, b⟩) := by show _ = _; rw [HN.out]; exact tokAt_bad (by rw [HL.out, tokL_s r h0, if_neg HD.out, if_neg HK0.out, if_neg (by rw [HX.out]; exact HX46.out), if_pos HMM.out.symm])
    go_wp2_with fail
    refine (HMK.out w2).mono ?_
    rintro e V ⟨rfl, hVV⟩
    subst V
    go_wp2_with fail
    refine (rflaw_any 60 b w2).mono ?_
    rintro r5 w5 ⟨rfl, b5⟩
    have HB5 := Lib.hid (HB2.out.under b5)
    obtain ⟨g4, g6, -⟩ := HB5.out
    clear x0 x1 x2 x3 fx0 fx1 fx2 fx3 y0 y1 fy0 fy1 b5
    have x0 : w5.cell? ⟨w.heap.size, 0, none⟩ = some (.int .i8 0) := cell_of_row g4 rfl
    have x1 : w5.cell? ⟨w.heap.size, 1, none⟩ = some (.int .i64 0) := cell_of_row g4 rfl
    have x2 : w5.cell? ⟨w.heap.size, 2, none⟩ = some (.string ⟨#[]⟩) := cell_of_row g4 rfl
    have x3 : w5.cell? ⟨w.heap.size, 3, none⟩ = some (.int .i64 0) := cell_of_row g4 rfl
    have fx0 : w5.frozen? ⟨w.heap.size, 0, none⟩ = false := free_of_row g4
    have fx1 : w5.frozen? ⟨w.heap.size, 1, none⟩ = false := free_of_row g4
    have fx2 : w5.frozen? ⟨w.heap.size, 2, none⟩ = false := free_of_row g4
    have fx3 : w5.frozen? ⟨w.heap.size, 3, none⟩ = false := free_of_row g4
    have y0 : w5.cell? ⟨(w.heap.size + 1), 0, none⟩ = some (.int .i64 0) := cell_of_row g6 rfl
    have y1 : w5.cell? ⟨(w.heap.size + 1), 1, none⟩ = some (.int .i64 0) := cell_of_row g6 rfl
    have fy0 : w5.frozen? ⟨(w.heap.size + 1), 0, none⟩ = false := free_of_row g6
    have fy1 : w5.frozen? ⟨(w.heap.size + 1), 1, none⟩ = false := free_of_row g6
    clear g4 g6
    simp only [NR.v, Tk.v, tk0]
    go_wp2_with fail
    obtain ⟨s4, s6, m7⟩ := fin_spec (.int .i8 0) (.int .i64 0) (.string ⟨#[]⟩) (.int .i64 0) (.int .i64 60) (.int .i64 b) HB5.out
    generalize ((((((w5).setCell ⟨w.heap.size, 0, none⟩ (.int .i8 0)).setCell ⟨w.heap.size, 1, none⟩ (.int .i64 0)).setCell ⟨w.heap.size, 2, none⟩ (.string ⟨#[]⟩)).setCell ⟨w.heap.size, 3, none⟩ (.int .i64 0)).setCell ⟨w.heap.size + 1, 0, none⟩ (.int .i64 60)).setCell ⟨w.heap.size + 1, 1, none⟩ (.int .i64 b) = w7 at s4 s6 m7 ⊢
    clear x0 x1 x2 x3 fx0 fx1 fx2 fx3 y0 y1 fy0 fy1
    have x0 : w7.cell? ⟨w.heap.size, 0, none⟩ = some (.int .i8 0) := cell_of_row s4 rfl
    have x1 : w7.cell? ⟨w.heap.size, 1, none⟩ = some (.int .i64 0) := cell_of_row s4 rfl
    have x2 : w7.cell? ⟨w.heap.size, 2, none⟩ = some (.string ⟨#[]⟩) := cell_of_row s4 rfl
    have x3 : w7.cell? ⟨w.heap.size, 3, none⟩ = some (.int .i64 0) := cell_of_row s4 rfl
    have y0 : w7.cell? ⟨(w.heap.size + 1), 0, none⟩ = some (.int .i64 60) := cell_of_row s6 rfl
    have y1 : w7.cell? ⟨(w.heap.size + 1), 1, none⟩ = some (.int .i64 b) := cell_of_row s6 rfl
    have HM7 := Lib.hid m7
    clear s4 s6 m7
    refine bodyPost_ret (v := .tuple #[.agg #[.int .i8 0, .int .i64 0, .string ⟨#[]⟩, .int .i64 0], .int .i64 b, .agg #[.int .i64 60, .int .i64 b]]) (by simp [results, Tryd.f8, go_sem, x0, x1, x2, x3, y0, y1]) rfl ⟨by rw [HT.out]; rfl, HM7.out⟩
  · have HT : Hid (nextR s k = ⟨⟨3, 0, r.extract 0 m, b⟩, b + m, 0, 0⟩) := by show _ = _; rw [HN.out, tokAt_tok (k := 3) (n := 0) (len := m) (sl := m) (by rw [HL.out, tokL_s r h0, if_neg HD.out, if_neg HK0.out, if_neg (by rw [HX.out]; exact HX46.out), if_neg (by rw [← HMM.out]; exact hm0), ← HMM.out]), if_neg hm0, HRR.out, ext_ext s b m (by omega)]
    have hmb : ((m : Int) == 0) = false := by rw [beq_eq_false_iff_ne]; omega
    go_wp2_with fail
    refine (HMK.out w2).mono ?_
    rintro e V ⟨rfl, hVV⟩
    subst V
    go_wp2_with fail
    obtain ⟨s4, s6, m7⟩ := fin_spec (.int .i8 3) (.int .i64 0) (.string (r.extract 0 m)) (.int .i64 b) (.int .i64 0) (.int .i64 0) HB2.out
    generalize ((((((w2).setCell ⟨w.heap.size, 0, none⟩ (.int .i8 3)).setCell ⟨w.heap.size, 1, none⟩ (.int .i64 0)).setCell ⟨w.heap.size, 2, none⟩ (.string (r.extract 0 m))).setCell ⟨w.heap.size, 3, none⟩ (.int .i64 b)).setCell ⟨w.heap.size + 1, 0, none⟩ (.int .i64 0)).setCell ⟨w.heap.size + 1, 1, none⟩ (.int .i64 0) = w7 at s4 s6 m7 ⊢
    clear x0 x1 x2 x3 fx0 fx1 fx2 fx3 y0 y1 fy0 fy1
    have x0 : w7.cell? ⟨w.heap.size, 0, none⟩ = some (.int .i8 3) := cell_of_row s4 rfl
    have x1 : w7.cell? ⟨w.heap.size, 1, none⟩ = some (.int .i64 0) := cell_of_row s4 rfl
    have x2 : w7.cell? ⟨w.heap.size, 2, none⟩ = some (.string (r.extract 0 m)) := cell_of_row s4 rfl
    have x3 : w7.cell? ⟨w.heap.size, 3, none⟩ = some (.int .i64 b) := cell_of_row s4 rfl
    have y0 : w7.cell? ⟨(w.heap.size + 1), 0, none⟩ = some (.int .i64 0) := cell_of_row s6 rfl
    have y1 : w7.cell? ⟨(w.heap.size + 1), 1, none⟩ = some (.int .i64 0) := cell_of_row s6 rfl
    have HM7 := Lib.hid m7
    clear s4 s6 m7
    refine bodyPost_ret (v := .tuple #[.agg #[.int .i8 3, .int .i64 0, .string (r.extract 0 m), .int .i64 b], .int .i64 (b + m), .agg #[.int .i64 0, .int .i64 0]]) (by simp [results, Tryd.f8, go_sem, x0, x1, x2, x3, y0, y1]) rfl ⟨by rw [HT.out]; rfl, HM7.out⟩

end Go.Proofs.YtkaijnbefbggeaaDoor
