/- The reader: tuple. -/
import Derived.Test.YtohbljgagbnjoaaDoorRdRow
set_option linter.unusedVariables false
namespace Go.Proofs.YtohbljgagbnjoaaDoor
open Go.RowKit
open Go.Lib (decDigits itoa)

theorem dec_first (u : Nat) : ∃ c t, decDigits u = c :: t ∧ isDig c = true := by
  cases e : decDigits u with
  | nil => exact ((dec_facts u).2.2.2.2 e).elim
  | cons c t => exact ⟨c, t, rfl, (dec_facts u).1 c (by rw [e]; simp)⟩
theorem firstB_kind {c : UInt8} (h : kindN (c.toNat : Int) ≠ 0) : firstB c = true := by
  unfold firstB; rw [decide_eq_true h, Bool.or_true]
theorem firstB_not {c : UInt8} (h : firstB c = true) : c ≠ 125 ∧ c ≠ 93 ∧ c ≠ 44 ∧ c ≠ 124 := by
  refine ⟨?_, ?_, ?_, ?_⟩ <;> (intro e; subst e; revert h; decide)
/-- What a term's text begins with. -/
theorem txt_first {x : Tm} (hV : Valid x) : ∃ c t, txt x = c :: t ∧ firstB c = true := by
  obtain ⟨k, n, s, t, l⟩ := x
  have hok := hV.own
  rw [txt_mk]
  by_cases h : k < 0 ∨ 7 < k
  · rw [show okB (.mk k n s t l) = okN k n s t l.length from rfl, okN_no h] at hok
    cases hok
  · have h8 : k = 0 ∨ k = 1 ∨ k = 2 ∨ k = 3 ∨ k = 4 ∨ k = 5 ∨ k = 6 ∨ k = 7 := by omega
    rcases h8 with rfl | rfl | rfl | rfl | rfl | rfl | rfl | rfl
    · show ∃ c t, itoa n = c :: t ∧ firstB c = true
      unfold Go.Lib.itoa
      split
      · exact ⟨45, _, rfl, by decide⟩
      · obtain ⟨c, t, e, hc⟩ := dec_first n.toNat
        exact ⟨c, t, e, firstB_kind (dig_kind hc)⟩
    · have h := (show ok_atom n s t l.length = true from hok)
      simp [ok_atom] at h
      have h1 := name_len h.1.1.1
      have h2 := toList_size s
      have h3 := name_all h.1.1.1
      show ∃ c t, s.data.toList = c :: t ∧ firstB c = true
      cases e : s.data.toList with
      | nil => rw [e] at h2; simp at h2; omega
      | cons c t => exact ⟨c, t, rfl, firstB_kind (h3 c (by rw [e]; simp))⟩
    · exact ⟨35, _, rfl, by decide⟩
    · exact ⟨102, _, rfl, by decide⟩
    · exact ⟨60, _, rfl, by decide⟩
    · exact ⟨123, _, rfl, by decide⟩
    · exact ⟨91, _, rfl, by decide⟩
    · exact ⟨91, _, rfl, by decide⟩
theorem not_prefix {c d : UInt8} {r : List UInt8} (h : d ≠ c) : Go.Lib.hasPrefix (d :: r) [c] = false := by
  unfold Go.Lib.hasPrefix
  rw [List.isPrefixOf, beq_eq_false_iff_ne.2 (Ne.symm h)]; rfl
theorem join_first {l : List Tm} (hne : l ≠ []) (hV : ∀ y ∈ l, Valid y) : ∃ c t, joinC (l.map txt) = c :: t ∧ firstB c = true := by
  match l, hne with
  | [y], _ => exact txt_first (hV y (by simp))
  | y :: z :: l, _ =>
    obtain ⟨c, t, e, h⟩ := txt_first (hV y (by simp))
    exact ⟨c, t ++ 44 :: joinC ((z :: l).map txt), by simp [joinC, e], h⟩

theorem txt_tuple (n : Int) (s t : ByteArray) (l : List Tm) : txt (.mk 5 n s t l) = 123 :: (joinC (l.map txt) ++ [125]) := by
  rw [txt_mk]
  show [123] ++ joinC ((l.map Tm.tx).map (·.1)) ++ [125] = _
  rw [map_tx]; simp

set_option maxHeartbeats 4000000 in
set_option maxRecDepth 100000 in
theorem tuple_nil {w0 W : World} {rb pos bg : Nat} {s : ByteArray} (h : RS w0 rb s pos bg W) (hs : s.size ≤ 1099511627776) {r : List UInt8} (hd : s.data.toList.drop pos = 123 :: 125 :: r) :
    Calls Tryd.prog 75 #[.pointer (some ⟨rb, 0, none⟩)] W fun e W' => e = .returned (.tuple #[.agg #[.int .i8 5, .int .i64 0, .string ⟨#[]⟩, .string ⟨#[]⟩, .slice none 0 0], .int .i64 0]) ∧ RS w0 rb s (pos + 1 + 1) bg W' ∧ Mod (fun k => k = rb) W W' := by
  have hrb := h.lt
  have hI := inBox_of h
  obtain ⟨-, -, -, hd2⟩ := drop_one hd
  have T1 : Hid (∀ V, RS w0 rb s pos bg V → Calls Tryd.prog 93 #[.pointer (some ⟨rb, 0, none⟩), .string ⟨#[123]⟩] V fun e W' => e = .returned (.bool true) ∧ RS w0 rb s (pos + 1) bg W' ∧ Mod (fun k => k = rb) V W') := fun V hV => take_at hV hs 123 hd
  have T2 : Hid (∀ V, RS w0 rb s (pos + 1) bg V → Calls Tryd.prog 93 #[.pointer (some ⟨rb, 0, none⟩), .string ⟨#[125]⟩] V fun e W' => e = .returned (.bool true) ∧ RS w0 rb s (pos + 1 + 1) bg W' ∧ Mod (fun k => k = rb) V W') := fun V hV => take_at hV hs 125 hd2
  have HI := Lib.hid hI
  have HRB := Lib.hid hrb
  clear h hd hI hrb hd2
  go_enter Tryd.func75, Tryd.ntmps75
  go_wp2_with fail
  refine (T1.out _ HI.out.rs).mono ?_
  rintro e V1 ⟨rfl, h1, m1⟩
  have I1 := Lib.hid (HI.out.on HRB.out h1 m1)
  clear h1 m1
  go_wp2_with fail
  refine (T2.out _ I1.out.rs).mono ?_
  rintro e V2 ⟨rfl, h1, m1⟩
  have I2 := Lib.hid (I1.out.on HRB.out h1 m1)
  clear h1 m1
  go_wp2_with fail
  refine (termOf_tuple 0 ⟨#[]⟩ ⟨#[]⟩ none 0 0 _).mono ?_
  rintro e V9 ⟨rfl, b9⟩
  have i9 := I2.out.under b9
  have g9 := i9.box
  unfold termZ at g9
  have r0 : (V9).cell? ⟨W.heap.size, 0, none⟩ = some (.int .i8 0) := cell_of_row g9 rfl
  have r1 : (V9).cell? ⟨W.heap.size, 1, none⟩ = some (.int .i64 0) := cell_of_row g9 rfl
  have r2 : (V9).cell? ⟨W.heap.size, 2, none⟩ = some (.string ⟨#[]⟩) := cell_of_row g9 rfl
  have r3 : (V9).cell? ⟨W.heap.size, 3, none⟩ = some (.string ⟨#[]⟩) := cell_of_row g9 rfl
  have r4 : (V9).cell? ⟨W.heap.size, 4, none⟩ = some (.slice none 0 0) := cell_of_row g9 rfl
  have f0 : (V9).frozen? ⟨W.heap.size, 0, none⟩ = false := free_of_row g9
  have f1 : (V9).frozen? ⟨W.heap.size, 1, none⟩ = false := free_of_row g9
  have f2 : (V9).frozen? ⟨W.heap.size, 2, none⟩ = false := free_of_row g9
  have f3 : (V9).frozen? ⟨W.heap.size, 3, none⟩ = false := free_of_row g9
  have f4 : (V9).frozen? ⟨W.heap.size, 4, none⟩ = false := free_of_row g9
  have S5 := Lib.hid (set_five (.int .i8 5) (.int .i64 0) (.string ⟨#[]⟩) (.string ⟨#[]⟩) (.slice none 0 0) g9)
  have I9 := Lib.hid i9
  have HB9 := Lib.hid b9
  clear i9 g9 b9
  go_wp2_with fail
  obtain ⟨s5, m5⟩ := S5.out
  generalize ((((((V9).setCell ⟨W.heap.size, 0, none⟩ (.int .i8 5)).setCell ⟨W.heap.size, 1, none⟩ (.int .i64 0)).setCell ⟨W.heap.size, 2, none⟩ (.string ⟨#[]⟩)).setCell ⟨W.heap.size, 3, none⟩ (.string ⟨#[]⟩)).setCell ⟨W.heap.size, 4, none⟩ (.slice none 0 0)) = VX at s5 m5 ⊢
  have z0 : VX.cell? ⟨W.heap.size, 0, none⟩ = some (.int .i8 5) := cell_of_row s5 rfl
  have z1 : VX.cell? ⟨W.heap.size, 1, none⟩ = some (.int .i64 0) := cell_of_row s5 rfl
  have z2 : VX.cell? ⟨W.heap.size, 2, none⟩ = some (.string ⟨#[]⟩) := cell_of_row s5 rfl
  have z3 : VX.cell? ⟨W.heap.size, 3, none⟩ = some (.string ⟨#[]⟩) := cell_of_row s5 rfl
  have z4 : VX.cell? ⟨W.heap.size, 4, none⟩ = some (.slice none 0 0) := cell_of_row s5 rfl
  refine bodyPost_ret (v := .tuple #[.agg #[(.int .i8 5), (.int .i64 0), (.string ⟨#[]⟩), (.string ⟨#[]⟩), (.slice none 0 0)], (.int .i64 0)]) (by simp [results, Tryd.f75, go_sem, z0, z1, z2, z3, z4]) rfl ?_
  exact ⟨rfl, I9.out.done HRB.out m5⟩

set_option maxHeartbeats 4000000 in
set_option maxRecDepth 100000 in
theorem tuple_is {w0 W : World} {rb pos bg : Nat} {s : ByteArray} (l : List Tm) (hne : l ≠ []) (hV : ∀ y ∈ l, Valid y) (hO : ∀ y ∈ l, ReadOf w0 s y) (h : RS w0 rb s pos bg W) (hs : s.size ≤ 1099511627776) {r : List UInt8} (hd : s.data.toList.drop pos = 123 :: (joinC (l.map txt) ++ 125 :: r)) (hb : bg + (Tm.pres l).length ≤ 256) (hll : l.length ≤ 1000) :
    Calls Tryd.prog 75 #[.pointer (some ⟨rb, 0, none⟩)] W fun e W' => ∃ A cap bg', e = .returned (.tuple #[.agg #[.int .i8 5, .int .i64 0, .string ⟨#[]⟩, .string ⟨#[]⟩, .slice A l.length cap], .int .i64 0]) ∧ TRow (fun b => W.heap.size ≤ b ∧ b < W'.heap.size) W' A l.length cap l ∧ RS w0 rb s (pos + 1 + (joinC (l.map txt)).length + 1) bg' W' ∧ bg' ≤ bg + (Tm.pres l).length ∧ Mod (fun k => k = rb) W W' := by
  have hrb := h.lt
  have hI := inBox_of h
  obtain ⟨-, -, -, hd2⟩ := drop_one hd
  obtain ⟨c, t, hjc, hcf⟩ := join_first hne hV
  obtain ⟨hd3, hle⟩ := drop_more hd2
  have hle := hle (by rw [hjc]; simp)
  have T1 : Hid (∀ V, RS w0 rb s pos bg V → Calls Tryd.prog 93 #[.pointer (some ⟨rb, 0, none⟩), .string ⟨#[123]⟩] V fun e W' => e = .returned (.bool true) ∧ RS w0 rb s (pos + 1) bg W' ∧ Mod (fun k => k = rb) V W') := fun V hV => take_at hV hs 123 hd
  have T2 : Hid (∀ V, RS w0 rb s (pos + 1) bg V → Calls Tryd.prog 93 #[.pointer (some ⟨rb, 0, none⟩), .string ⟨#[125]⟩] V fun e W' => e = .returned (.bool false) ∧ RS w0 rb s (pos + 1) bg W' ∧ Mod (fun k => k = rb) V W') := fun V hV =>
    take_is hV (by omega) hs ⟨#[125]⟩ (by decide) false (by rw [hd2, hjc]; exact not_prefix (firstB_not hcf).1)
  have T3 : Hid (∀ V, RS w0 rb s (pos + 1) bg V → Calls Tryd.prog 94 #[.pointer (some ⟨rb, 0, none⟩)] V fun e W' => ∃ A cap bg', e = .returned (.tuple #[.slice A l.length cap, .int .i64 0]) ∧ TRow (fun b => V.heap.size ≤ b ∧ b < W'.heap.size) W' A l.length cap l ∧ RS w0 rb s (pos + 1 + (joinC (l.map txt)).length) bg' W' ∧ bg' ≤ bg + (Tm.pres l).length ∧ Mod (fun k => k = rb) V W') := fun V hV =>
    row_is l hne hO hV hs (good_of (c := 125) (by decide) (by decide)) (not_prefix (by decide)) hd2 hb hll hle
  have T4 : Hid (∀ V bg', RS w0 rb s (pos + 1 + (joinC (l.map txt)).length) bg' V → Calls Tryd.prog 93 #[.pointer (some ⟨rb, 0, none⟩), .string ⟨#[125]⟩] V fun e W' => e = .returned (.bool true) ∧ RS w0 rb s (pos + 1 + (joinC (l.map txt)).length + 1) bg' W' ∧ Mod (fun k => k = rb) V W') := fun V bg' hV => take_at hV hs 125 hd3
  have HI := Lib.hid hI
  have HRB := Lib.hid hrb
  clear h hd hI hrb hd2 hd3 hO hV hne hjc hcf hle hb hll
  go_enter Tryd.func75, Tryd.ntmps75
  go_wp2_with fail
  refine (T1.out _ HI.out.rs).mono ?_
  rintro e V1 ⟨rfl, h1, m1⟩
  have I1 := Lib.hid (HI.out.on HRB.out h1 m1)
  clear h1 m1
  go_wp2_with fail
  refine (T2.out _ I1.out.rs).mono ?_
  rintro e V2 ⟨rfl, h1, m1⟩
  have I2 := Lib.hid (I1.out.on HRB.out h1 m1)
  clear h1 m1
  go_wp2_with fail
  refine (T3.out _ I2.out.rs).mono ?_
  rintro e V3 ⟨A, cap, bg', rfl, hT, h1, hbg, m1⟩
  have I3 := Lib.hid (I2.out.on HRB.out h1 m1)
  have HT3 := Lib.hid hT
  have HBG := Lib.hid hbg
  clear h1 m1 hT hbg
  go_wp2_with fail
  refine (T4.out _ _ I3.out.rs).mono ?_
  rintro e V4 ⟨rfl, h1, m1⟩
  have I4 := Lib.hid (I3.out.on HRB.out h1 m1)
  have HM4 := Lib.hid m1
  clear h1 m1
  go_wp2_with fail
  refine (termOf_tuple 0 ⟨#[]⟩ ⟨#[]⟩ A l.length cap _).mono ?_
  rintro e V9 ⟨rfl, b9⟩
  have i9 := I4.out.under b9
  have g9 := i9.box
  unfold termZ at g9
  have r0 : (V9).cell? ⟨W.heap.size, 0, none⟩ = some (.int .i8 0) := cell_of_row g9 rfl
  have r1 : (V9).cell? ⟨W.heap.size, 1, none⟩ = some (.int .i64 0) := cell_of_row g9 rfl
  have r2 : (V9).cell? ⟨W.heap.size, 2, none⟩ = some (.string ⟨#[]⟩) := cell_of_row g9 rfl
  have r3 : (V9).cell? ⟨W.heap.size, 3, none⟩ = some (.string ⟨#[]⟩) := cell_of_row g9 rfl
  have r4 : (V9).cell? ⟨W.heap.size, 4, none⟩ = some (.slice none 0 0) := cell_of_row g9 rfl
  have f0 : (V9).frozen? ⟨W.heap.size, 0, none⟩ = false := free_of_row g9
  have f1 : (V9).frozen? ⟨W.heap.size, 1, none⟩ = false := free_of_row g9
  have f2 : (V9).frozen? ⟨W.heap.size, 2, none⟩ = false := free_of_row g9
  have f3 : (V9).frozen? ⟨W.heap.size, 3, none⟩ = false := free_of_row g9
  have f4 : (V9).frozen? ⟨W.heap.size, 4, none⟩ = false := free_of_row g9
  have S5 := Lib.hid (set_five (.int .i8 5) (.int .i64 0) (.string ⟨#[]⟩) (.string ⟨#[]⟩) (.slice A l.length cap) g9)
  have I9 := Lib.hid i9
  have HB9 := Lib.hid b9
  clear i9 g9 b9
  go_wp2_with fail
  obtain ⟨s5, m5⟩ := S5.out
  generalize ((((((V9).setCell ⟨W.heap.size, 0, none⟩ (.int .i8 5)).setCell ⟨W.heap.size, 1, none⟩ (.int .i64 0)).setCell ⟨W.heap.size, 2, none⟩ (.string ⟨#[]⟩)).setCell ⟨W.heap.size, 3, none⟩ (.string ⟨#[]⟩)).setCell ⟨W.heap.size, 4, none⟩ (.slice A l.length cap)) = VX at s5 m5 ⊢
  have z0 : VX.cell? ⟨W.heap.size, 0, none⟩ = some (.int .i8 5) := cell_of_row s5 rfl
  have z1 : VX.cell? ⟨W.heap.size, 1, none⟩ = some (.int .i64 0) := cell_of_row s5 rfl
  have z2 : VX.cell? ⟨W.heap.size, 2, none⟩ = some (.string ⟨#[]⟩) := cell_of_row s5 rfl
  have z3 : VX.cell? ⟨W.heap.size, 3, none⟩ = some (.string ⟨#[]⟩) := cell_of_row s5 rfl
  have z4 : VX.cell? ⟨W.heap.size, 4, none⟩ = some (.slice A l.length cap) := cell_of_row s5 rfl
  refine bodyPost_ret (v := .tuple #[.agg #[(.int .i8 5), (.int .i64 0), (.string ⟨#[]⟩), (.string ⟨#[]⟩), (.slice A l.length cap)], (.int .i64 0)]) (by simp [results, Tryd.f75, go_sem, z0, z1, z2, z3, z4]) rfl ?_
  obtain ⟨hr9, hm9⟩ := I9.out.done HRB.out m5
  have z2 := I2.out.mod.size
  have zb := heap_lt I2.out.box
  have z4 := HM4.out.size
  have z9 := HB9.out.size
  have zx := m5.size
  have hrb := HRB.out
  refine ⟨A, cap, bg', rfl, HT3.out.keep (fun b hb => ?_) (fun b hb => ⟨by omega, by omega⟩), hr9, HBG.out, hm9⟩
  exact (m5.block b (by omega) (by omega)).trans ((HB9.out.block b (by omega)).trans (HM4.out.block b (by omega) (by omega)))
end Go.Proofs.YtohbljgagbnjoaaDoor
