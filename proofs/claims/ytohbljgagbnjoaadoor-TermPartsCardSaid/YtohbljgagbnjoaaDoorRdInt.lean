/- The reader: integer. -/
import Derived.Test.YtohbljgagbnjoaaDoorRdWord
set_option linter.unusedVariables false
namespace Go.Proofs.YtohbljgagbnjoaaDoor
open Go.RowKit
open Go.Lib (decDigits itoa)

set_option maxHeartbeats 4000000 in
set_option maxRecDepth 100000 in
theorem int_nat {w0 W : World} {rb pos bg : Nat} {s : ByteArray} (h : RS w0 rb s pos bg W) (hs : s.size ≤ 1099511627776) (n : Nat) (hn : n ≤ 576460752303423487) {r : List UInt8} (hr : Sep r) (hd : s.data.toList.drop pos = decDigits n ++ r) :
    Calls Tryd.prog 78 #[.pointer (some ⟨rb, 0, none⟩)] W fun e W' => e = .returned (.tuple #[.agg #[.int .i8 0, .int .i64 n, .string ⟨#[]⟩, .string ⟨#[]⟩, .slice none 0 0], .int .i64 0]) ∧ RS w0 rb s (pos + (decDigits n).length) bg W' ∧ Mod (fun k => k = rb) W W' := by
  have hrb := h.lt
  have hI := inBox_of h
  have hnb : Go.Lib.hasPrefix (s.data.toList.drop pos) [45] = false := by
    obtain ⟨c, t, e⟩ : ∃ c t, decDigits n = c :: t := by
      cases e : decDigits n with
      | nil => exact ((dec_facts n).2.2.2.2 e).elim
      | cons c t => exact ⟨c, t, rfl⟩
    have hc := (dec_facts n).1 c (by rw [e]; simp)
    rw [hd, e]
    unfold Go.Lib.hasPrefix
    rw [List.cons_append, List.isPrefixOf]
    have : ((45 : UInt8) == c) = false := by
      rw [beq_eq_false_iff_ne]; intro e2; subst e2; revert hc; decide
    rw [this]; rfl
  have hpos : pos ≤ s.size := Nat.le_trans (Nat.le_add_right _ _) ((drop_more hd).2 (dec_facts n).2.2.2.2)
  have T1 : Hid (∀ V, RS w0 rb s pos bg V → Calls Tryd.prog 93 #[.pointer (some ⟨rb, 0, none⟩), .string ⟨#[45]⟩] V fun e W' => e = .returned (.bool false) ∧ RS w0 rb s pos bg W' ∧ Mod (fun k => k = rb) V W') := fun V hV =>
    take_is hV hpos hs ⟨#[45]⟩ (by decide) false hnb
  have T2 : Hid (∀ V, RS w0 rb s pos bg V → Calls Tryd.prog 96 #[.pointer (some ⟨rb, 0, none⟩)] V fun e W' => e = .returned (.tuple #[.int .i64 n, .int .i64 0]) ∧ RS w0 rb s (pos + (decDigits n).length) bg W' ∧ Mod (fun k => k = rb) V W') := fun V hV =>
    digits_at hV hs n hn hr hd
  have HI := Lib.hid hI
  have HRB := Lib.hid hrb
  clear h hd hI hrb hnb hpos
  go_enter Tryd.func78, Tryd.ntmps78
  go_wp2_with fail
  refine (T1.out _ HI.out.rs).mono ?_
  rintro e V1 ⟨rfl, h1, m1⟩
  have I1 := Lib.hid (HI.out.on HRB.out h1 m1)
  clear h1 m1
  go_wp2_with fail
  refine (T2.out _ I1.out.rs).mono ?_
  rintro e V2 ⟨rfl, h1, m1⟩
  have I2 := Lib.hid (I1.out.on HRB.out h1 m1)
  clear h1 m1
  go_wp2_with fail
  refine (termOf_integer n ⟨#[]⟩ ⟨#[]⟩ none 0 0 _).mono ?_
  rintro e V9 ⟨rfl, b9⟩
  have i9 := I2.out.under b9
  have g9 := i9.box
  unfold termZ at g9
  have r0 : (V9).cell? ⟨W.heap.size, 0, none⟩ = some (.int .i8 0) := cell_of_row g9 rfl
  have r1 : (V9).cell? ⟨W.heap.size, 1, none⟩ = some (.int .i64 0) := cell_of_row g9 rfl
  have r2 : (V9).cell? ⟨W.heap.size, 2, none⟩ = some (.string ⟨#[]⟩) := cell_of_row g9 rfl
  have r3 : (V9).cell? ⟨W.heap.size, 3, none⟩ = some (.string ⟨#[]⟩) := cell_of_row g9 rfl
  have r4 : (V9).cell? ⟨W.heap.size, 4, none⟩ = some (.slice none 0 0) := cell_of_row g9 rfl
  have f0 : (V9).frozen? ⟨W.heap.size, 0, none⟩ = false := free_of_row g9
  have f1 : (V9).frozen? ⟨W.heap.size, 1, none⟩ = false := free_of_row g9
  have f2 : (V9).frozen? ⟨W.heap.size, 2, none⟩ = false := free_of_row g9
  have f3 : (V9).frozen? ⟨W.heap.size, 3, none⟩ = false := free_of_row g9
  have f4 : (V9).frozen? ⟨W.heap.size, 4, none⟩ = false := free_of_row g9
  have S5 := Lib.hid (set_five (.int .i8 0) (.int .i64 n) (.string ⟨#[]⟩) (.string ⟨#[]⟩) (.slice none 0 0) g9)
  have I9 := Lib.hid i9
  clear i9 g9 b9
  go_wp2_with fail
  obtain ⟨s5, m5⟩ := S5.out
  generalize ((((((V9).setCell ⟨W.heap.size, 0, none⟩ (.int .i8 0)).setCell ⟨W.heap.size, 1, none⟩ (.int .i64 n)).setCell ⟨W.heap.size, 2, none⟩ (.string ⟨#[]⟩)).setCell ⟨W.heap.size, 3, none⟩ (.string ⟨#[]⟩)).setCell ⟨W.heap.size, 4, none⟩ (.slice none 0 0)) = VX at s5 m5 ⊢
  have z0 : VX.cell? ⟨W.heap.size, 0, none⟩ = some (.int .i8 0) := cell_of_row s5 rfl
  have z1 : VX.cell? ⟨W.heap.size, 1, none⟩ = some (.int .i64 n) := cell_of_row s5 rfl
  have z2 : VX.cell? ⟨W.heap.size, 2, none⟩ = some (.string ⟨#[]⟩) := cell_of_row s5 rfl
  have z3 : VX.cell? ⟨W.heap.size, 3, none⟩ = some (.string ⟨#[]⟩) := cell_of_row s5 rfl
  have z4 : VX.cell? ⟨W.heap.size, 4, none⟩ = some (.slice none 0 0) := cell_of_row s5 rfl
  refine bodyPost_ret (v := .tuple #[.agg #[(.int .i8 0), (.int .i64 n), (.string ⟨#[]⟩), (.string ⟨#[]⟩), (.slice none 0 0)], (.int .i64 0)]) (by simp [results, Tryd.f78, go_sem, z0, z1, z2, z3, z4]) rfl ?_
  exact ⟨rfl, I9.out.done HRB.out m5⟩

set_option maxHeartbeats 4000000 in
set_option maxRecDepth 100000 in
theorem int_neg {w0 W : World} {rb pos bg : Nat} {s : ByteArray} (h : RS w0 rb s pos bg W) (hs : s.size ≤ 1099511627776) (n : Nat) (hn0 : 1 ≤ n) (hn : n ≤ 576460752303423487) {r : List UInt8} (hr : Sep r) (hd : s.data.toList.drop pos = 45 :: (decDigits n ++ r)) :
    Calls Tryd.prog 78 #[.pointer (some ⟨rb, 0, none⟩)] W fun e W' => e = .returned (.tuple #[.agg #[.int .i8 0, .int .i64 (-(n : Int)), .string ⟨#[]⟩, .string ⟨#[]⟩, .slice none 0 0], .int .i64 0]) ∧ RS w0 rb s (pos + 1 + (decDigits n).length) bg W' ∧ Mod (fun k => k = rb) W W' := by
  have hrb := h.lt
  have hI := inBox_of h
  obtain ⟨-, -, -, hd2⟩ := drop_one hd
  have T1 : Hid (∀ V, RS w0 rb s pos bg V → Calls Tryd.prog 93 #[.pointer (some ⟨rb, 0, none⟩), .string ⟨#[45]⟩] V fun e W' => e = .returned (.bool true) ∧ RS w0 rb s (pos + 1) bg W' ∧ Mod (fun k => k = rb) V W') := fun V hV => take_at hV hs 45 hd
  have T2 : Hid (∀ V, RS w0 rb s (pos + 1) bg V → Calls Tryd.prog 96 #[.pointer (some ⟨rb, 0, none⟩)] V fun e W' => e = .returned (.tuple #[.int .i64 n, .int .i64 0]) ∧ RS w0 rb s (pos + 1 + (decDigits n).length) bg W' ∧ Mod (fun k => k = rb) V W') := fun V hV =>
    digits_at hV hs n hn hr hd2
  have HI := Lib.hid hI
  have HRB := Lib.hid hrb
  have hz : ((n : Int) == 0) = false := by rw [beq_eq_false_iff_ne]; omega
  have hz' : (n == 0) = false := by rw [beq_eq_false_iff_ne]; omega
  clear h hd hI hrb hd2
  go_enter Tryd.func78, Tryd.ntmps78
  go_wp2_with fail
  refine (T1.out _ HI.out.rs).mono ?_
  rintro e V1 ⟨rfl, h1, m1⟩
  have i1 := HI.out.on HRB.out h1 m1
  have c1 : V1.cell? ⟨rb, 1, none⟩ = some (.int .i64 ((pos + 1 : Nat) : Int)) := cell_of_row i1.rs.rd rfl
  have I1 := Lib.hid i1
  clear h1 m1 i1
  go_wp2_with fail
  refine (T2.out _ I1.out.rs).mono ?_
  rintro e V2 ⟨rfl, h1, m1⟩
  have I2 := Lib.hid (I1.out.on HRB.out h1 m1)
  clear h1 m1 c1
  go_wp2_with fail
  go_quiet (fail)
  have I3 : Hid (InBox w0 W rb s (pos + 1 + (decDigits n).length) bg (V2.drewN nq)) := I2.out.under ⟨rfl, rfl, rfl, Nat.le_refl _, fun _ _ => rfl⟩
  generalize V2.drewN nq = V3 at I3 ⊢
  go_wp2_with fail
  refine (termOf_integer (-(n : Int)) ⟨#[]⟩ ⟨#[]⟩ none 0 0 _).mono ?_
  rintro e V9 ⟨rfl, b9⟩
  have i9 := I3.out.under b9
  have g9 := i9.box
  unfold termZ at g9
  have r0 : (V9).cell? ⟨W.heap.size, 0, none⟩ = some (.int .i8 0) := cell_of_row g9 rfl
  have r1 : (V9).cell? ⟨W.heap.size, 1, none⟩ = some (.int .i64 0) := cell_of_row g9 rfl
  have r2 : (V9).cell? ⟨W.heap.size, 2, none⟩ = some (.string ⟨#[]⟩) := cell_of_row g9 rfl
  have r3 : (V9).cell? ⟨W.heap.size, 3, none⟩ = some (.string ⟨#[]⟩) := cell_of_row g9 rfl
  have r4 : (V9).cell? ⟨W.heap.size, 4, none⟩ = some (.slice none 0 0) := cell_of_row g9 rfl
  have f0 : (V9).frozen? ⟨W.heap.size, 0, none⟩ = false := free_of_row g9
  have f1 : (V9).frozen? ⟨W.heap.size, 1, none⟩ = false := free_of_row g9
  have f2 : (V9).frozen? ⟨W.heap.size, 2, none⟩ = false := free_of_row g9
  have f3 : (V9).frozen? ⟨W.heap.size, 3, none⟩ = false := free_of_row g9
  have f4 : (V9).frozen? ⟨W.heap.size, 4, none⟩ = false := free_of_row g9
  have S5 := Lib.hid (set_five (.int .i8 0) (.int .i64 (-(n : Int))) (.string ⟨#[]⟩) (.string ⟨#[]⟩) (.slice none 0 0) g9)
  have I9 := Lib.hid i9
  clear i9 g9 b9
  go_wp2_with fail
  obtain ⟨s5, m5⟩ := S5.out
  generalize ((((((V9).setCell ⟨W.heap.size, 0, none⟩ (.int .i8 0)).setCell ⟨W.heap.size, 1, none⟩ (.int .i64 (-(n : Int)))).setCell ⟨W.heap.size, 2, none⟩ (.string ⟨#[]⟩)).setCell ⟨W.heap.size, 3, none⟩ (.string ⟨#[]⟩)).setCell ⟨W.heap.size, 4, none⟩ (.slice none 0 0)) = VX at s5 m5 ⊢
  have z0 : VX.cell? ⟨W.heap.size, 0, none⟩ = some (.int .i8 0) := cell_of_row s5 rfl
  have z1 : VX.cell? ⟨W.heap.size, 1, none⟩ = some (.int .i64 (-(n : Int))) := cell_of_row s5 rfl
  have z2 : VX.cell? ⟨W.heap.size, 2, none⟩ = some (.string ⟨#[]⟩) := cell_of_row s5 rfl
  have z3 : VX.cell? ⟨W.heap.size, 3, none⟩ = some (.string ⟨#[]⟩) := cell_of_row s5 rfl
  have z4 : VX.cell? ⟨W.heap.size, 4, none⟩ = some (.slice none 0 0) := cell_of_row s5 rfl
  refine bodyPost_ret (v := .tuple #[.agg #[(.int .i8 0), (.int .i64 (-(n : Int))), (.string ⟨#[]⟩), (.string ⟨#[]⟩), (.slice none 0 0)], (.int .i64 0)]) (by simp [results, Tryd.f78, go_sem, z0, z1, z2, z3, z4]) rfl ?_
  exact ⟨rfl, I9.out.done HRB.out m5⟩
end Go.Proofs.YtohbljgagbnjoaaDoor
