/- The reader: part at pids and references. -/
import Derived.Test.YtohbljgagbnjoaaDoorRdPart
set_option linter.unusedVariables false
namespace Go.Proofs.YtohbljgagbnjoaaDoor
open Go.RowKit
open Go.Lib (decDigits itoa)

set_option maxHeartbeats 4000000 in
set_option maxRecDepth 100000 in
theorem part_pid {w0 W : World} {rb pos bg : Nat} {s : ByteArray} (h : RS w0 rb s pos bg W) (hS : Spans w0) (hsz : s.size ≤ 1099511627776) (hbg : bg < 256) (n : Nat) (hn : n ≤ 576460752303423487) {r : List UInt8} (hdm : s.data.toList.drop pos = (⟨#[60]⟩ : ByteArray).data.toList ++ (decDigits n ++ 62 :: r)) :
    Calls Tryd.prog 42 #[.pointer (some ⟨rb, 0, none⟩)] W fun e W' => ∃ bg', e = .returned (.tuple #[.agg #[.int .i8 4, .int .i64 n, .string ⟨#[]⟩, .string ⟨#[]⟩, .slice none 0 0], .int .i64 0]) ∧ RS w0 rb s (pos + 1 + (decDigits n).length + 1) bg' W' ∧ bg' ≤ bg + 1 ∧ Mod (fun k => k = rb) W W' := by
  have hd : s.data.toList.drop pos = 60 :: _ := hdm
  have hc : firstB 60 = true := by decide
  have hC : ∀ V, RS w0 rb s pos (bg + 1) V → Calls Tryd.prog 77 #[.pointer (some ⟨rb, 0, none⟩), .string ⟨#[60]⟩] V fun e W' => e = .returned (.tuple #[.int .i64 n, .int .i64 0]) ∧ RS w0 rb s (pos + 1 + (decDigits n).length + 1) (bg + 1) W' ∧ Mod (fun k => k = rb) V W' := fun V hV =>
    marked_is hV hsz ⟨#[60]⟩ (by decide) n hn hdm
  have hrb := h.lt
  have hI := inBox_of h
  obtain ⟨hp, hcp, -, -⟩ := drop_one hd
  have h123 : (((s[pos]).toNat : Int) == 123) = false := by rw [hcp]; rfl
  have h91 : (((s[pos]).toNat : Int) == 91) = false := by rw [hcp]; rfl
  have h60 : (((s[pos]).toNat : Int) == 60) = true := by rw [hcp]; rfl
  have T1 : Hid (∀ V, RS w0 rb s pos bg V → Calls Tryd.prog 74 #[.pointer (some ⟨rb, 0, none⟩)] V fun e W' => e = .returned (.bool true) ∧ Below V.heap.size V W') := fun V hV => begins_is hV hS hsz hd hc
  have hb256 : ((bg : Int) == 256) = false := by rw [beq_eq_false_iff_ne]; omega
  have hb256' : (bg == 256) = false := by rw [beq_eq_false_iff_ne]; omega
  have HI := Lib.hid hI
  have HRB := Lib.hid hrb
  have HC := Lib.hid hC
  clear h hd hdm hI hrb hC hcp hc
  go_enter Tryd.func42, Tryd.ntmps42
  go_wp2_with fail
  refine (T1.out _ HI.out.rs).mono ?_
  rintro e V1 ⟨rfl, b1⟩
  have i1 := HI.out.under b1
  have c2 : V1.cell? ⟨rb, 2, none⟩ = some (.int .i64 bg) := cell_of_row i1.rs.rd rfl
  have f2 : V1.frozen? ⟨rb, 2, none⟩ = false := free_of_row i1.rs.rd
  have I1 := Lib.hid i1
  clear b1 i1
  have hset : Mod (fun k => k = rb) V1 (V1.setCell ⟨rb, 2, none⟩ (.int .i64 ((bg : Int) + 1))) := Mod.setCell _ _ _ (.inl rfl)
  have I2 : Hid (InBox w0 W rb s pos (bg + 1) (V1.setCell ⟨rb, 2, none⟩ (.int .i64 ((bg : Int) + 1)))) := by
    refine I1.out.on HRB.out ⟨?_, I1.out.rs.below.trans (hset.below I1.out.rs.below.size (fun k (e : k = rb) => by have := I1.out.rs.lo; omega)), I1.out.rs.lo⟩ hset
    rw [show ((bg + 1 : Nat) : Int) = (bg : Int) + 1 by omega]
    exact set_row (i := 2) _ I1.out.rs.rd
  clear hset
  have c0 : (V1.setCell ⟨rb, 2, none⟩ (.int .i64 ((bg : Int) + 1))).cell? ⟨rb, 0, none⟩ = some (.string s) := cell_of_row I2.out.rs.rd rfl
  have c1 : (V1.setCell ⟨rb, 2, none⟩ (.int .i64 ((bg : Int) + 1))).cell? ⟨rb, 1, none⟩ = some (.int .i64 pos) := cell_of_row I2.out.rs.rd rfl
  go_wp2_with fail
  go_quiet (fail)
  have I3 : Hid (InBox w0 W rb s pos (bg + 1) ((V1.setCell ⟨rb, 2, none⟩ (.int .i64 ((bg : Int) + 1))).drewN nq)) := I2.out.under ⟨rfl, rfl, rfl, Nat.le_refl _, fun _ _ => rfl⟩
  generalize (V1.setCell ⟨rb, 2, none⟩ (.int .i64 ((bg : Int) + 1))).drewN nq = V3 at I3 ⊢
  clear c0 c1 c2 f2 I2
  go_wp2_with fail
  refine (HC.out _ I3.out.rs).mono ?_
  rintro e V4 ⟨rfl, h4, m4⟩
  have I4 := Lib.hid (I3.out.on HRB.out h4 m4)
  clear h4 m4
  go_wp2_with fail
  refine (termOf_pid n ⟨#[]⟩ ⟨#[]⟩ none 0 0 _).mono ?_
  rintro e V9 ⟨rfl, b9⟩
  have i9 := I4.out.under b9
  have g9 := i9.box
  unfold termZ at g9
  have r0 : (V9).cell? ⟨W.heap.size, 0, none⟩ = some (.int .i8 0) := cell_of_row g9 rfl
  have r1 : (V9).cell? ⟨W.heap.size, 1, none⟩ = some (.int .i64 0) := cell_of_row g9 rfl
  have r2 : (V9).cell? ⟨W.heap.size, 2, none⟩ = some (.string ⟨#[]⟩) := cell_of_row g9 rfl
  have r3 : (V9).cell? ⟨W.heap.size, 3, none⟩ = some (.string ⟨#[]⟩) := cell_of_row g9 rfl
  have r4 : (V9).cell? ⟨W.heap.size, 4, none⟩ = some (.slice none 0 0) := cell_of_row g9 rfl
  have f0 : (V9).frozen? ⟨W.heap.size, 0, none⟩ = false := free_of_row g9
  have f1 : (V9).frozen? ⟨W.heap.size, 1, none⟩ = false := free_of_row g9
  have f2 : (V9).frozen? ⟨W.heap.size, 2, none⟩ = false := free_of_row g9
  have f3 : (V9).frozen? ⟨W.heap.size, 3, none⟩ = false := free_of_row g9
  have f4 : (V9).frozen? ⟨W.heap.size, 4, none⟩ = false := free_of_row g9
  have S5 := Lib.hid (set_five (.int .i8 4) (.int .i64 n) (.string ⟨#[]⟩) (.string ⟨#[]⟩) (.slice none 0 0) g9)
  have I9 := Lib.hid i9
  clear i9 g9 b9
  go_wp2_with fail
  obtain ⟨s5, m5⟩ := S5.out
  generalize ((((((V9).setCell ⟨W.heap.size, 0, none⟩ (.int .i8 4)).setCell ⟨W.heap.size, 1, none⟩ (.int .i64 n)).setCell ⟨W.heap.size, 2, none⟩ (.string ⟨#[]⟩)).setCell ⟨W.heap.size, 3, none⟩ (.string ⟨#[]⟩)).setCell ⟨W.heap.size, 4, none⟩ (.slice none 0 0)) = VX at s5 m5 ⊢
  have z0 : VX.cell? ⟨W.heap.size, 0, none⟩ = some (.int .i8 4) := cell_of_row s5 rfl
  have z1 : VX.cell? ⟨W.heap.size, 1, none⟩ = some (.int .i64 n) := cell_of_row s5 rfl
  have z2 : VX.cell? ⟨W.heap.size, 2, none⟩ = some (.string ⟨#[]⟩) := cell_of_row s5 rfl
  have z3 : VX.cell? ⟨W.heap.size, 3, none⟩ = some (.string ⟨#[]⟩) := cell_of_row s5 rfl
  have z4 : VX.cell? ⟨W.heap.size, 4, none⟩ = some (.slice none 0 0) := cell_of_row s5 rfl
  refine bodyPost_ret (v := .tuple #[.agg #[(.int .i8 4), (.int .i64 n), (.string ⟨#[]⟩), (.string ⟨#[]⟩), (.slice none 0 0)], (.int .i64 0)]) (by simp [results, Tryd.f42, go_sem, z0, z1, z2, z3, z4]) rfl ?_
  obtain ⟨hr9, hm9⟩ := I9.out.done HRB.out m5
  exact ⟨bg + 1, rfl, hr9, Nat.le_refl _, hm9⟩

set_option maxHeartbeats 4000000 in
set_option maxRecDepth 100000 in
theorem part_ref {w0 W : World} {rb pos bg : Nat} {s : ByteArray} (h : RS w0 rb s pos bg W) (hS : Spans w0) (hsz : s.size ≤ 1099511627776) (hbg : bg < 256) (n : Nat) (hn : n ≤ 576460752303423487) {r : List UInt8} (hdm : s.data.toList.drop pos = (⟨#[35, 82, 101, 102, 60]⟩ : ByteArray).data.toList ++ (decDigits n ++ 62 :: r)) :
    Calls Tryd.prog 42 #[.pointer (some ⟨rb, 0, none⟩)] W fun e W' => ∃ bg', e = .returned (.tuple #[.agg #[.int .i8 2, .int .i64 n, .string ⟨#[]⟩, .string ⟨#[]⟩, .slice none 0 0], .int .i64 0]) ∧ RS w0 rb s (pos + 5 + (decDigits n).length + 1) bg' W' ∧ bg' ≤ bg + 1 ∧ Mod (fun k => k = rb) W W' := by
  have hd : s.data.toList.drop pos = 35 :: _ := hdm
  have hc : firstB 35 = true := by decide
  have hC : ∀ V, RS w0 rb s pos (bg + 1) V → Calls Tryd.prog 77 #[.pointer (some ⟨rb, 0, none⟩), .string ⟨#[35, 82, 101, 102, 60]⟩] V fun e W' => e = .returned (.tuple #[.int .i64 n, .int .i64 0]) ∧ RS w0 rb s (pos + 5 + (decDigits n).length + 1) (bg + 1) W' ∧ Mod (fun k => k = rb) V W' := fun V hV =>
    marked_is hV hsz ⟨#[35, 82, 101, 102, 60]⟩ (by decide) n hn hdm
  have hrb := h.lt
  have hI := inBox_of h
  obtain ⟨hp, hcp, -, -⟩ := drop_one hd
  have h123 : (((s[pos]).toNat : Int) == 123) = false := by rw [hcp]; rfl
  have h91 : (((s[pos]).toNat : Int) == 91) = false := by rw [hcp]; rfl
  have h60 : (((s[pos]).toNat : Int) == 60) = false := by rw [hcp]; rfl
  have h35 : (((s[pos]).toNat : Int) == 35) = true := by rw [hcp]; rfl
  have T1 : Hid (∀ V, RS w0 rb s pos bg V → Calls Tryd.prog 74 #[.pointer (some ⟨rb, 0, none⟩)] V fun e W' => e = .returned (.bool true) ∧ Below V.heap.size V W') := fun V hV => begins_is hV hS hsz hd hc
  have hb256 : ((bg : Int) == 256) = false := by rw [beq_eq_false_iff_ne]; omega
  have hb256' : (bg == 256) = false := by rw [beq_eq_false_iff_ne]; omega
  have HI := Lib.hid hI
  have HRB := Lib.hid hrb
  have HC := Lib.hid hC
  clear h hd hdm hI hrb hC hcp hc
  go_enter Tryd.func42, Tryd.ntmps42
  go_wp2_with fail
  refine (T1.out _ HI.out.rs).mono ?_
  rintro e V1 ⟨rfl, b1⟩
  have i1 := HI.out.under b1
  have c2 : V1.cell? ⟨rb, 2, none⟩ = some (.int .i64 bg) := cell_of_row i1.rs.rd rfl
  have f2 : V1.frozen? ⟨rb, 2, none⟩ = false := free_of_row i1.rs.rd
  have I1 := Lib.hid i1
  clear b1 i1
  have hset : Mod (fun k => k = rb) V1 (V1.setCell ⟨rb, 2, none⟩ (.int .i64 ((bg : Int) + 1))) := Mod.setCell _ _ _ (.inl rfl)
  have I2 : Hid (InBox w0 W rb s pos (bg + 1) (V1.setCell ⟨rb, 2, none⟩ (.int .i64 ((bg : Int) + 1)))) := by
    refine I1.out.on HRB.out ⟨?_, I1.out.rs.below.trans (hset.below I1.out.rs.below.size (fun k (e : k = rb) => by have := I1.out.rs.lo; omega)), I1.out.rs.lo⟩ hset
    rw [show ((bg + 1 : Nat) : Int) = (bg : Int) + 1 by omega]
    exact set_row (i := 2) _ I1.out.rs.rd
  clear hset
  have c0 : (V1.setCell ⟨rb, 2, none⟩ (.int .i64 ((bg : Int) + 1))).cell? ⟨rb, 0, none⟩ = some (.string s) := cell_of_row I2.out.rs.rd rfl
  have c1 : (V1.setCell ⟨rb, 2, none⟩ (.int .i64 ((bg : Int) + 1))).cell? ⟨rb, 1, none⟩ = some (.int .i64 pos) := cell_of_row I2.out.rs.rd rfl
  go_wp2_with fail
  go_quiet (fail)
  have I3 : Hid (InBox w0 W rb s pos (bg + 1) ((V1.setCell ⟨rb, 2, none⟩ (.int .i64 ((bg : Int) + 1))).drewN nq)) := I2.out.under ⟨rfl, rfl, rfl, Nat.le_refl _, fun _ _ => rfl⟩
  generalize (V1.setCell ⟨rb, 2, none⟩ (.int .i64 ((bg : Int) + 1))).drewN nq = V3 at I3 ⊢
  clear c0 c1 c2 f2 I2
  go_wp2_with fail
  refine (HC.out _ I3.out.rs).mono ?_
  rintro e V4 ⟨rfl, h4, m4⟩
  have I4 := Lib.hid (I3.out.on HRB.out h4 m4)
  clear h4 m4
  go_wp2_with fail
  refine (termOf_ref n ⟨#[]⟩ ⟨#[]⟩ none 0 0 _).mono ?_
  rintro e V9 ⟨rfl, b9⟩
  have i9 := I4.out.under b9
  have g9 := i9.box
  unfold termZ at g9
  have r0 : (V9).cell? ⟨W.heap.size, 0, none⟩ = some (.int .i8 0) := cell_of_row g9 rfl
  have r1 : (V9).cell? ⟨W.heap.size, 1, none⟩ = some (.int .i64 0) := cell_of_row g9 rfl
  have r2 : (V9).cell? ⟨W.heap.size, 2, none⟩ = some (.string ⟨#[]⟩) := cell_of_row g9 rfl
  have r3 : (V9).cell? ⟨W.heap.size, 3, none⟩ = some (.string ⟨#[]⟩) := cell_of_row g9 rfl
  have r4 : (V9).cell? ⟨W.heap.size, 4, none⟩ = some (.slice none 0 0) := cell_of_row g9 rfl
  have f0 : (V9).frozen? ⟨W.heap.size, 0, none⟩ = false := free_of_row g9
  have f1 : (V9).frozen? ⟨W.heap.size, 1, none⟩ = false := free_of_row g9
  have f2 : (V9).frozen? ⟨W.heap.size, 2, none⟩ = false := free_of_row g9
  have f3 : (V9).frozen? ⟨W.heap.size, 3, none⟩ = false := free_of_row g9
  have f4 : (V9).frozen? ⟨W.heap.size, 4, none⟩ = false := free_of_row g9
  have S5 := Lib.hid (set_five (.int .i8 2) (.int .i64 n) (.string ⟨#[]⟩) (.string ⟨#[]⟩) (.slice none 0 0) g9)
  have I9 := Lib.hid i9
  clear i9 g9 b9
  go_wp2_with fail
  obtain ⟨s5, m5⟩ := S5.out
  generalize ((((((V9).setCell ⟨W.heap.size, 0, none⟩ (.int .i8 2)).setCell ⟨W.heap.size, 1, none⟩ (.int .i64 n)).setCell ⟨W.heap.size, 2, none⟩ (.string ⟨#[]⟩)).setCell ⟨W.heap.size, 3, none⟩ (.string ⟨#[]⟩)).setCell ⟨W.heap.size, 4, none⟩ (.slice none 0 0)) = VX at s5 m5 ⊢
  have z0 : VX.cell? ⟨W.heap.size, 0, none⟩ = some (.int .i8 2) := cell_of_row s5 rfl
  have z1 : VX.cell? ⟨W.heap.size, 1, none⟩ = some (.int .i64 n) := cell_of_row s5 rfl
  have z2 : VX.cell? ⟨W.heap.size, 2, none⟩ = some (.string ⟨#[]⟩) := cell_of_row s5 rfl
  have z3 : VX.cell? ⟨W.heap.size, 3, none⟩ = some (.string ⟨#[]⟩) := cell_of_row s5 rfl
  have z4 : VX.cell? ⟨W.heap.size, 4, none⟩ = some (.slice none 0 0) := cell_of_row s5 rfl
  refine bodyPost_ret (v := .tuple #[.agg #[(.int .i8 2), (.int .i64 n), (.string ⟨#[]⟩), (.string ⟨#[]⟩), (.slice none 0 0)], (.int .i64 0)]) (by simp [results, Tryd.f42, go_sem, z0, z1, z2, z3, z4]) rfl ?_
  obtain ⟨hr9, hm9⟩ := I9.out.done HRB.out m5
  exact ⟨bg + 1, rfl, hr9, Nat.le_refl _, hm9⟩
end Go.Proofs.YtohbljgagbnjoaaDoor
