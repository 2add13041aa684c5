/- The reader: part. -/
import Derived.Test.YtohbljgagbnjoaaDoorRdList
set_option linter.unusedVariables false
namespace Go.Proofs.YtohbljgagbnjoaaDoor
open Go.RowKit
open Go.Lib (decDigits itoa)

set_option maxHeartbeats 4000000 in
set_option maxRecDepth 100000 in
theorem part_tuple {w0 W : World} {rb pos bg q bgx : Nat} {s : ByteArray} (x : Tm) (h : RS w0 rb s pos bg W) (hS : Spans w0) (hsz : s.size ≤ 1099511627776) (hbg : bg < 256) {c : UInt8} {r : List UInt8} (hd : s.data.toList.drop pos = c :: r) (hc : firstB c = true) (hcn : c = 123)
    (hC : ∀ V, RS w0 rb s pos (bg + 1) V → Calls Tryd.prog 75 #[.pointer (some ⟨rb, 0, none⟩)] V fun e W' => ∃ tv bg', e = .returned (.tuple #[tv, .int .i64 0]) ∧ TmAt (fun b => V.heap.size ≤ b ∧ b < W'.heap.size) W' x tv ∧ RS w0 rb s q bg' W' ∧ bg' ≤ bgx ∧ Mod (fun k => k = rb) V W') :
    Calls Tryd.prog 42 #[.pointer (some ⟨rb, 0, none⟩)] W fun e W' => ∃ tv bg', e = .returned (.tuple #[tv, .int .i64 0]) ∧ TmAt (fun b => W.heap.size ≤ b ∧ b < W'.heap.size) W' x tv ∧ RS w0 rb s q bg' W' ∧ bg' ≤ bgx ∧ Mod (fun k => k = rb) W W' := by
  have hrb := h.lt
  have hI := inBox_of h
  obtain ⟨hp, hcp, -, -⟩ := drop_one hd
  have hn : c.toNat = 123 := by rw [hcn]; rfl
  have h123 : (((s[pos]).toNat : Int) == 123) = true := by rw [hcp, hcn]; rfl
  have T1 : Hid (∀ V, RS w0 rb s pos bg V → Calls Tryd.prog 74 #[.pointer (some ⟨rb, 0, none⟩)] V fun e W' => e = .returned (.bool true) ∧ Below V.heap.size V W') := fun V hV => begins_is hV hS hsz hd hc
  have hb256 : ((bg : Int) == 256) = false := by rw [beq_eq_false_iff_ne]; omega
  have hb256' : (bg == 256) = false := by rw [beq_eq_false_iff_ne]; omega
  have HI := Lib.hid hI
  have HRB := Lib.hid hrb
  have HC := Lib.hid hC
  clear h hd hI hrb hC hcp hc
  go_enter Tryd.func42, Tryd.ntmps42
  go_wp2_with fail
  refine (T1.out _ HI.out.rs).mono ?_
  rintro e V1 ⟨rfl, b1⟩
  have i1 := HI.out.under b1
  have c2 : V1.cell? ⟨rb, 2, none⟩ = some (.int .i64 bg) := cell_of_row i1.rs.rd rfl
  have f2 : V1.frozen? ⟨rb, 2, none⟩ = false := free_of_row i1.rs.rd
  have I1 := Lib.hid i1
  clear b1 i1
  have hset : Mod (fun k => k = rb) V1 (V1.setCell ⟨rb, 2, none⟩ (.int .i64 ((bg : Int) + 1))) := Mod.setCell _ _ _ (.inl rfl)
  have I2 : Hid (InBox w0 W rb s pos (bg + 1) (V1.setCell ⟨rb, 2, none⟩ (.int .i64 ((bg : Int) + 1)))) := by
    refine I1.out.on HRB.out ⟨?_, I1.out.rs.below.trans (hset.below I1.out.rs.below.size (fun k (e : k = rb) => by have := I1.out.rs.lo; omega)), I1.out.rs.lo⟩ hset
    rw [show ((bg + 1 : Nat) : Int) = (bg : Int) + 1 by omega]
    exact set_row (i := 2) _ I1.out.rs.rd
  clear hset
  have c0 : (V1.setCell ⟨rb, 2, none⟩ (.int .i64 ((bg : Int) + 1))).cell? ⟨rb, 0, none⟩ = some (.string s) := cell_of_row I2.out.rs.rd rfl
  have c1 : (V1.setCell ⟨rb, 2, none⟩ (.int .i64 ((bg : Int) + 1))).cell? ⟨rb, 1, none⟩ = some (.int .i64 pos) := cell_of_row I2.out.rs.rd rfl
  go_wp2_with fail
  go_quiet (fail)
  have I3 : Hid (InBox w0 W rb s pos (bg + 1) ((V1.setCell ⟨rb, 2, none⟩ (.int .i64 ((bg : Int) + 1))).drewN nq)) := I2.out.under ⟨rfl, rfl, rfl, Nat.le_refl _, fun _ _ => rfl⟩
  generalize (V1.setCell ⟨rb, 2, none⟩ (.int .i64 ((bg : Int) + 1))).drewN nq = V3 at I3 ⊢
  clear c0 c1 c2 f2 I2
  go_wp2_with fail
  refine (HC.out _ I3.out.rs).mono ?_
  rintro e V4 ⟨tv, bg', rfl, hT, h4, hbg', m4⟩
  obtain ⟨kz, nz, sz, tz, Lz, Az, capz, hzz, rfl⟩ : ∃ k' n' s' t' L' A' cap', x = Tm.mk k' n' s' t' L' ∧ tv = .agg #[.int .i8 k', .int .i64 n', .string s', .string t', .slice A' L'.length cap'] := by
    cases hT; exact ⟨_, _, _, _, _, _, _, rfl, rfl⟩
  clear hzz
  have i4 := I3.out.on HRB.out h4 m4
  have g4 := i4.box
  unfold termZ at g4
  have r0 : (V4).cell? ⟨W.heap.size, 0, none⟩ = some (.int .i8 0) := cell_of_row g4 rfl
  have r1 : (V4).cell? ⟨W.heap.size, 1, none⟩ = some (.int .i64 0) := cell_of_row g4 rfl
  have r2 : (V4).cell? ⟨W.heap.size, 2, none⟩ = some (.string ⟨#[]⟩) := cell_of_row g4 rfl
  have r3 : (V4).cell? ⟨W.heap.size, 3, none⟩ = some (.string ⟨#[]⟩) := cell_of_row g4 rfl
  have r4 : (V4).cell? ⟨W.heap.size, 4, none⟩ = some (.slice none 0 0) := cell_of_row g4 rfl
  have f0 : (V4).frozen? ⟨W.heap.size, 0, none⟩ = false := free_of_row g4
  have f1 : (V4).frozen? ⟨W.heap.size, 1, none⟩ = false := free_of_row g4
  have f2 : (V4).frozen? ⟨W.heap.size, 2, none⟩ = false := free_of_row g4
  have f3 : (V4).frozen? ⟨W.heap.size, 3, none⟩ = false := free_of_row g4
  have f4 : (V4).frozen? ⟨W.heap.size, 4, none⟩ = false := free_of_row g4
  have S5 := Lib.hid (set_five (.int .i8 kz) (.int .i64 nz) (.string sz) (.string tz) (.slice Az Lz.length capz) g4)
  have I4 := Lib.hid i4
  have HT := Lib.hid hT
  have HBG := Lib.hid hbg'
  clear i4 g4 h4 m4 hT hbg'
  go_wp2_with fail
  obtain ⟨s5, m5⟩ := S5.out
  generalize ((((((V4).setCell ⟨W.heap.size, 0, none⟩ (.int .i8 kz)).setCell ⟨W.heap.size, 1, none⟩ (.int .i64 nz)).setCell ⟨W.heap.size, 2, none⟩ (.string sz)).setCell ⟨W.heap.size, 3, none⟩ (.string tz)).setCell ⟨W.heap.size, 4, none⟩ (.slice Az Lz.length capz)) = VX at s5 m5 ⊢
  have z0 : VX.cell? ⟨W.heap.size, 0, none⟩ = some (.int .i8 kz) := cell_of_row s5 rfl
  have z1 : VX.cell? ⟨W.heap.size, 1, none⟩ = some (.int .i64 nz) := cell_of_row s5 rfl
  have z2 : VX.cell? ⟨W.heap.size, 2, none⟩ = some (.string sz) := cell_of_row s5 rfl
  have z3 : VX.cell? ⟨W.heap.size, 3, none⟩ = some (.string tz) := cell_of_row s5 rfl
  have z4 : VX.cell? ⟨W.heap.size, 4, none⟩ = some (.slice Az Lz.length capz) := cell_of_row s5 rfl
  refine bodyPost_ret (v := .tuple #[.agg #[(.int .i8 kz), (.int .i64 nz), (.string sz), (.string tz), (.slice Az Lz.length capz)], (.int .i64 0)]) (by simp [results, Tryd.f42, go_sem, z0, z1, z2, z3, z4]) rfl ?_
  obtain ⟨hr9, hm9⟩ := I4.out.done HRB.out m5
  have zb := heap_lt I3.out.box
  have zx := m5.size
  exact ⟨_, bg', rfl, HT.out.keep (fun b hb => m5.block b hb.2 (by omega)) (fun b hb => ⟨by omega, by omega⟩), hr9, HBG.out, hm9⟩

set_option maxHeartbeats 4000000 in
set_option maxRecDepth 100000 in
theorem part_list {w0 W : World} {rb pos bg q bgx : Nat} {s : ByteArray} (x : Tm) (h : RS w0 rb s pos bg W) (hS : Spans w0) (hsz : s.size ≤ 1099511627776) (hbg : bg < 256) {c : UInt8} {r : List UInt8} (hd : s.data.toList.drop pos = c :: r) (hc : firstB c = true) (hcn : c = 91)
    (hC : ∀ V, RS w0 rb s pos (bg + 1) V → Calls Tryd.prog 76 #[.pointer (some ⟨rb, 0, none⟩)] V fun e W' => ∃ tv bg', e = .returned (.tuple #[tv, .int .i64 0]) ∧ TmAt (fun b => V.heap.size ≤ b ∧ b < W'.heap.size) W' x tv ∧ RS w0 rb s q bg' W' ∧ bg' ≤ bgx ∧ Mod (fun k => k = rb) V W') :
    Calls Tryd.prog 42 #[.pointer (some ⟨rb, 0, none⟩)] W fun e W' => ∃ tv bg', e = .returned (.tuple #[tv, .int .i64 0]) ∧ TmAt (fun b => W.heap.size ≤ b ∧ b < W'.heap.size) W' x tv ∧ RS w0 rb s q bg' W' ∧ bg' ≤ bgx ∧ Mod (fun k => k = rb) W W' := by
  have hrb := h.lt
  have hI := inBox_of h
  obtain ⟨hp, hcp, -, -⟩ := drop_one hd
  have hn : c.toNat = 91 := by rw [hcn]; rfl
  have h123 : (((s[pos]).toNat : Int) == 123) = false := by rw [hcp, hcn]; rfl
  have h91 : (((s[pos]).toNat : Int) == 91) = true := by rw [hcp, hcn]; rfl
  have T1 : Hid (∀ V, RS w0 rb s pos bg V → Calls Tryd.prog 74 #[.pointer (some ⟨rb, 0, none⟩)] V fun e W' => e = .returned (.bool true) ∧ Below V.heap.size V W') := fun V hV => begins_is hV hS hsz hd hc
  have hb256 : ((bg : Int) == 256) = false := by rw [beq_eq_false_iff_ne]; omega
  have hb256' : (bg == 256) = false := by rw [beq_eq_false_iff_ne]; omega
  have HI := Lib.hid hI
  have HRB := Lib.hid hrb
  have HC := Lib.hid hC
  clear h hd hI hrb hC hcp hc
  go_enter Tryd.func42, Tryd.ntmps42
  go_wp2_with fail
  refine (T1.out _ HI.out.rs).mono ?_
  rintro e V1 ⟨rfl, b1⟩
  have i1 := HI.out.under b1
  have c2 : V1.cell? ⟨rb, 2, none⟩ = some (.int .i64 bg) := cell_of_row i1.rs.rd rfl
  have f2 : V1.frozen? ⟨rb, 2, none⟩ = false := free_of_row i1.rs.rd
  have I1 := Lib.hid i1
  clear b1 i1
  have hset : Mod (fun k => k = rb) V1 (V1.setCell ⟨rb, 2, none⟩ (.int .i64 ((bg : Int) + 1))) := Mod.setCell _ _ _ (.inl rfl)
  have I2 : Hid (InBox w0 W rb s pos (bg + 1) (V1.setCell ⟨rb, 2, none⟩ (.int .i64 ((bg : Int) + 1)))) := by
    refine I1.out.on HRB.out ⟨?_, I1.out.rs.below.trans (hset.below I1.out.rs.below.size (fun k (e : k = rb) => by have := I1.out.rs.lo; omega)), I1.out.rs.lo⟩ hset
    rw [show ((bg + 1 : Nat) : Int) = (bg : Int) + 1 by omega]
    exact set_row (i := 2) _ I1.out.rs.rd
  clear hset
  have c0 : (V1.setCell ⟨rb, 2, none⟩ (.int .i64 ((bg : Int) + 1))).cell? ⟨rb, 0, none⟩ = some (.string s) := cell_of_row I2.out.rs.rd rfl
  have c1 : (V1.setCell ⟨rb, 2, none⟩ (.int .i64 ((bg : Int) + 1))).cell? ⟨rb, 1, none⟩ = some (.int .i64 pos) := cell_of_row I2.out.rs.rd rfl
  go_wp2_with fail
  go_quiet (fail)
  have I3 : Hid (InBox w0 W rb s pos (bg + 1) ((V1.setCell ⟨rb, 2, none⟩ (.int .i64 ((bg : Int) + 1))).drewN nq)) := I2.out.under ⟨rfl, rfl, rfl, Nat.le_refl _, fun _ _ => rfl⟩
  generalize (V1.setCell ⟨rb, 2, none⟩ (.int .i64 ((bg : Int) + 1))).drewN nq = V3 at I3 ⊢
  clear c0 c1 c2 f2 I2
  go_wp2_with fail
  refine (HC.out _ I3.out.rs).mono ?_
  rintro e V4 ⟨tv, bg', rfl, hT, h4, hbg', m4⟩
  obtain ⟨kz, nz, sz, tz, Lz, Az, capz, hzz, rfl⟩ : ∃ k' n' s' t' L' A' cap', x = Tm.mk k' n' s' t' L' ∧ tv = .agg #[.int .i8 k', .int .i64 n', .string s', .string t', .slice A' L'.length cap'] := by
    cases hT; exact ⟨_, _, _, _, _, _, _, rfl, rfl⟩
  clear hzz
  have i4 := I3.out.on HRB.out h4 m4
  have g4 := i4.box
  unfold termZ at g4
  have r0 : (V4).cell? ⟨W.heap.size, 0, none⟩ = some (.int .i8 0) := cell_of_row g4 rfl
  have r1 : (V4).cell? ⟨W.heap.size, 1, none⟩ = some (.int .i64 0) := cell_of_row g4 rfl
  have r2 : (V4).cell? ⟨W.heap.size, 2, none⟩ = some (.string ⟨#[]⟩) := cell_of_row g4 rfl
  have r3 : (V4).cell? ⟨W.heap.size, 3, none⟩ = some (.string ⟨#[]⟩) := cell_of_row g4 rfl
  have r4 : (V4).cell? ⟨W.heap.size, 4, none⟩ = some (.slice none 0 0) := cell_of_row g4 rfl
  have f0 : (V4).frozen? ⟨W.heap.size, 0, none⟩ = false := free_of_row g4
  have f1 : (V4).frozen? ⟨W.heap.size, 1, none⟩ = false := free_of_row g4
  have f2 : (V4).frozen? ⟨W.heap.size, 2, none⟩ = false := free_of_row g4
  have f3 : (V4).frozen? ⟨W.heap.size, 3, none⟩ = false := free_of_row g4
  have f4 : (V4).frozen? ⟨W.heap.size, 4, none⟩ = false := free_of_row g4
  have S5 := Lib.hid (set_five (.int .i8 kz) (.int .i64 nz) (.string sz) (.string tz) (.slice Az Lz.length capz) g4)
  have I4 := Lib.hid i4
  have HT := Lib.hid hT
  have HBG := Lib.hid hbg'
  clear i4 g4 h4 m4 hT hbg'
  go_wp2_with fail
  obtain ⟨s5, m5⟩ := S5.out
  generalize ((((((V4).setCell ⟨W.heap.size, 0, none⟩ (.int .i8 kz)).setCell ⟨W.heap.size, 1, none⟩ (.int .i64 nz)).setCell ⟨W.heap.size, 2, none⟩ (.string sz)).setCell ⟨W.heap.size, 3, none⟩ (.string tz)).setCell ⟨W.heap.size, 4, none⟩ (.slice Az Lz.length capz)) = VX at s5 m5 ⊢
  have z0 : VX.cell? ⟨W.heap.size, 0, none⟩ = some (.int .i8 kz) := cell_of_row s5 rfl
  have z1 : VX.cell? ⟨W.heap.size, 1, none⟩ = some (.int .i64 nz) := cell_of_row s5 rfl
  have z2 : VX.cell? ⟨W.heap.size, 2, none⟩ = some (.string sz) := cell_of_row s5 rfl
  have z3 : VX.cell? ⟨W.heap.size, 3, none⟩ = some (.string tz) := cell_of_row s5 rfl
  have z4 : VX.cell? ⟨W.heap.size, 4, none⟩ = some (.slice Az Lz.length capz) := cell_of_row s5 rfl
  refine bodyPost_ret (v := .tuple #[.agg #[(.int .i8 kz), (.int .i64 nz), (.string sz), (.string tz), (.slice Az Lz.length capz)], (.int .i64 0)]) (by simp [results, Tryd.f42, go_sem, z0, z1, z2, z3, z4]) rfl ?_
  obtain ⟨hr9, hm9⟩ := I4.out.done HRB.out m5
  have zb := heap_lt I3.out.box
  have zx := m5.size
  exact ⟨_, bg', rfl, HT.out.keep (fun b hb => m5.block b hb.2 (by omega)) (fun b hb => ⟨by omega, by omega⟩), hr9, HBG.out, hm9⟩

set_option maxHeartbeats 4000000 in
set_option maxRecDepth 100000 in
theorem part_minus {w0 W : World} {rb pos bg q bgx : Nat} {s : ByteArray} (x : Tm) (h : RS w0 rb s pos bg W) (hS : Spans w0) (hsz : s.size ≤ 1099511627776) (hbg : bg < 256) {c : UInt8} {r : List UInt8} (hd : s.data.toList.drop pos = c :: r) (hc : firstB c = true) (hcn : c = 45)
    (hC : ∀ V, RS w0 rb s pos (bg + 1) V → Calls Tryd.prog 78 #[.pointer (some ⟨rb, 0, none⟩)] V fun e W' => ∃ tv bg', e = .returned (.tuple #[tv, .int .i64 0]) ∧ TmAt (fun b => V.heap.size ≤ b ∧ b < W'.heap.size) W' x tv ∧ RS w0 rb s q bg' W' ∧ bg' ≤ bgx ∧ Mod (fun k => k = rb) V W') :
    Calls Tryd.prog 42 #[.pointer (some ⟨rb, 0, none⟩)] W fun e W' => ∃ tv bg', e = .returned (.tuple #[tv, .int .i64 0]) ∧ TmAt (fun b => W.heap.size ≤ b ∧ b < W'.heap.size) W' x tv ∧ RS w0 rb s q bg' W' ∧ bg' ≤ bgx ∧ Mod (fun k => k = rb) W W' := by
  have hrb := h.lt
  have hI := inBox_of h
  obtain ⟨hp, hcp, -, -⟩ := drop_one hd
  have hn : c.toNat = 45 := by rw [hcn]; rfl
  have h123 : (((s[pos]).toNat : Int) == 123) = false := by rw [hcp, beq_eq_false_iff_ne]; omega
  have h91 : (((s[pos]).toNat : Int) == 91) = false := by rw [hcp, beq_eq_false_iff_ne]; omega
  have h60 : (((s[pos]).toNat : Int) == 60) = false := by rw [hcp, beq_eq_false_iff_ne]; omega
  have h35 : (((s[pos]).toNat : Int) == 35) = false := by rw [hcp, beq_eq_false_iff_ne]; omega
  have h45 : (((s[pos]).toNat : Int) == 45) = true := by rw [hcp, hcn]; rfl
  have T1 : Hid (∀ V, RS w0 rb s pos bg V → Calls Tryd.prog 74 #[.pointer (some ⟨rb, 0, none⟩)] V fun e W' => e = .returned (.bool true) ∧ Below V.heap.size V W') := fun V hV => begins_is hV hS hsz hd hc
  have hb256 : ((bg : Int) == 256) = false := by rw [beq_eq_false_iff_ne]; omega
  have hb256' : (bg == 256) = false := by rw [beq_eq_false_iff_ne]; omega
  have HI := Lib.hid hI
  have HRB := Lib.hid hrb
  have HC := Lib.hid hC
  clear h hd hI hrb hC hcp hc
  go_enter Tryd.func42, Tryd.ntmps42
  go_wp2_with fail
  refine (T1.out _ HI.out.rs).mono ?_
  rintro e V1 ⟨rfl, b1⟩
  have i1 := HI.out.under b1
  have c2 : V1.cell? ⟨rb, 2, none⟩ = some (.int .i64 bg) := cell_of_row i1.rs.rd rfl
  have f2 : V1.frozen? ⟨rb, 2, none⟩ = false := free_of_row i1.rs.rd
  have I1 := Lib.hid i1
  clear b1 i1
  have hset : Mod (fun k => k = rb) V1 (V1.setCell ⟨rb, 2, none⟩ (.int .i64 ((bg : Int) + 1))) := Mod.setCell _ _ _ (.inl rfl)
  have I2 : Hid (InBox w0 W rb s pos (bg + 1) (V1.setCell ⟨rb, 2, none⟩ (.int .i64 ((bg : Int) + 1)))) := by
    refine I1.out.on HRB.out ⟨?_, I1.out.rs.below.trans (hset.below I1.out.rs.below.size (fun k (e : k = rb) => by have := I1.out.rs.lo; omega)), I1.out.rs.lo⟩ hset
    rw [show ((bg + 1 : Nat) : Int) = (bg : Int) + 1 by omega]
    exact set_row (i := 2) _ I1.out.rs.rd
  clear hset
  have c0 : (V1.setCell ⟨rb, 2, none⟩ (.int .i64 ((bg : Int) + 1))).cell? ⟨rb, 0, none⟩ = some (.string s) := cell_of_row I2.out.rs.rd rfl
  have c1 : (V1.setCell ⟨rb, 2, none⟩ (.int .i64 ((bg : Int) + 1))).cell? ⟨rb, 1, none⟩ = some (.int .i64 pos) := cell_of_row I2.out.rs.rd rfl
  go_wp2_with fail
  go_quiet (fail)
  have I3 : Hid (InBox w0 W rb s pos (bg + 1) ((V1.setCell ⟨rb, 2, none⟩ (.int .i64 ((bg : Int) + 1))).drewN nq)) := I2.out.under ⟨rfl, rfl, rfl, Nat.le_refl _, fun _ _ => rfl⟩
  generalize (V1.setCell ⟨rb, 2, none⟩ (.int .i64 ((bg : Int) + 1))).drewN nq = V3 at I3 ⊢
  clear c0 c1 c2 f2 I2
  go_wp2_with fail
  refine (HC.out _ I3.out.rs).mono ?_
  rintro e V4 ⟨tv, bg', rfl, hT, h4, hbg', m4⟩
  obtain ⟨kz, nz, sz, tz, Lz, Az, capz, hzz, rfl⟩ : ∃ k' n' s' t' L' A' cap', x = Tm.mk k' n' s' t' L' ∧ tv = .agg #[.int .i8 k', .int .i64 n', .string s', .string t', .slice A' L'.length cap'] := by
    cases hT; exact ⟨_, _, _, _, _, _, _, rfl, rfl⟩
  clear hzz
  have i4 := I3.out.on HRB.out h4 m4
  have g4 := i4.box
  unfold termZ at g4
  have r0 : (V4).cell? ⟨W.heap.size, 0, none⟩ = some (.int .i8 0) := cell_of_row g4 rfl
  have r1 : (V4).cell? ⟨W.heap.size, 1, none⟩ = some (.int .i64 0) := cell_of_row g4 rfl
  have r2 : (V4).cell? ⟨W.heap.size, 2, none⟩ = some (.string ⟨#[]⟩) := cell_of_row g4 rfl
  have r3 : (V4).cell? ⟨W.heap.size, 3, none⟩ = some (.string ⟨#[]⟩) := cell_of_row g4 rfl
  have r4 : (V4).cell? ⟨W.heap.size, 4, none⟩ = some (.slice none 0 0) := cell_of_row g4 rfl
  have f0 : (V4).frozen? ⟨W.heap.size, 0, none⟩ = false := free_of_row g4
  have f1 : (V4).frozen? ⟨W.heap.size, 1, none⟩ = false := free_of_row g4
  have f2 : (V4).frozen? ⟨W.heap.size, 2, none⟩ = false := free_of_row g4
  have f3 : (V4).frozen? ⟨W.heap.size, 3, none⟩ = false := free_of_row g4
  have f4 : (V4).frozen? ⟨W.heap.size, 4, none⟩ = false := free_of_row g4
  have S5 := Lib.hid (set_five (.int .i8 kz) (.int .i64 nz) (.string sz) (.string tz) (.slice Az Lz.length capz) g4)
  have I4 := Lib.hid i4
  have HT := Lib.hid hT
  have HBG := Lib.hid hbg'
  clear i4 g4 h4 m4 hT hbg'
  go_wp2_with fail
  obtain ⟨s5, m5⟩ := S5.out
  generalize ((((((V4).setCell ⟨W.heap.size, 0, none⟩ (.int .i8 kz)).setCell ⟨W.heap.size, 1, none⟩ (.int .i64 nz)).setCell ⟨W.heap.size, 2, none⟩ (.string sz)).setCell ⟨W.heap.size, 3, none⟩ (.string tz)).setCell ⟨W.heap.size, 4, none⟩ (.slice Az Lz.length capz)) = VX at s5 m5 ⊢
  have z0 : VX.cell? ⟨W.heap.size, 0, none⟩ = some (.int .i8 kz) := cell_of_row s5 rfl
  have z1 : VX.cell? ⟨W.heap.size, 1, none⟩ = some (.int .i64 nz) := cell_of_row s5 rfl
  have z2 : VX.cell? ⟨W.heap.size, 2, none⟩ = some (.string sz) := cell_of_row s5 rfl
  have z3 : VX.cell? ⟨W.heap.size, 3, none⟩ = some (.string tz) := cell_of_row s5 rfl
  have z4 : VX.cell? ⟨W.heap.size, 4, none⟩ = some (.slice Az Lz.length capz) := cell_of_row s5 rfl
  refine bodyPost_ret (v := .tuple #[.agg #[(.int .i8 kz), (.int .i64 nz), (.string sz), (.string tz), (.slice Az Lz.length capz)], (.int .i64 0)]) (by simp [results, Tryd.f42, go_sem, z0, z1, z2, z3, z4]) rfl ?_
  obtain ⟨hr9, hm9⟩ := I4.out.done HRB.out m5
  have zb := heap_lt I3.out.box
  have zx := m5.size
  exact ⟨_, bg', rfl, HT.out.keep (fun b hb => m5.block b hb.2 (by omega)) (fun b hb => ⟨by omega, by omega⟩), hr9, HBG.out, hm9⟩

set_option maxHeartbeats 4000000 in
set_option maxRecDepth 100000 in
theorem part_digit {w0 W : World} {rb pos bg q bgx : Nat} {s : ByteArray} (x : Tm) (h : RS w0 rb s pos bg W) (hS : Spans w0) (hsz : s.size ≤ 1099511627776) (hbg : bg < 256) {c : UInt8} {r : List UInt8} (hd : s.data.toList.drop pos = c :: r) (hc : firstB c = true) (hcn : 48 ≤ c.toNat ∧ c.toNat ≤ 57)
    (hC : ∀ V, RS w0 rb s pos (bg + 1) V → Calls Tryd.prog 78 #[.pointer (some ⟨rb, 0, none⟩)] V fun e W' => ∃ tv bg', e = .returned (.tuple #[tv, .int .i64 0]) ∧ TmAt (fun b => V.heap.size ≤ b ∧ b < W'.heap.size) W' x tv ∧ RS w0 rb s q bg' W' ∧ bg' ≤ bgx ∧ Mod (fun k => k = rb) V W') :
    Calls Tryd.prog 42 #[.pointer (some ⟨rb, 0, none⟩)] W fun e W' => ∃ tv bg', e = .returned (.tuple #[tv, .int .i64 0]) ∧ TmAt (fun b => W.heap.size ≤ b ∧ b < W'.heap.size) W' x tv ∧ RS w0 rb s q bg' W' ∧ bg' ≤ bgx ∧ Mod (fun k => k = rb) W W' := by
  have hrb := h.lt
  have hI := inBox_of h
  obtain ⟨hp, hcp, -, -⟩ := drop_one hd
  have h123 : (((s[pos]).toNat : Int) == 123) = false := by rw [hcp, beq_eq_false_iff_ne]; omega
  have h91 : (((s[pos]).toNat : Int) == 91) = false := by rw [hcp, beq_eq_false_iff_ne]; omega
  have h60 : (((s[pos]).toNat : Int) == 60) = false := by rw [hcp, beq_eq_false_iff_ne]; omega
  have h35 : (((s[pos]).toNat : Int) == 35) = false := by rw [hcp, beq_eq_false_iff_ne]; omega
  have h45 : (((s[pos]).toNat : Int) == 45) = false := by rw [hcp, beq_eq_false_iff_ne]; omega
  have l1 : decide ((48 : Int) ≤ ((s[pos]).toNat : Int)) = true := by rw [hcp]; exact decide_eq_true (by omega)
  have l2 : decide (48 ≤ (s[pos]).toNat) = true := by rw [hcp]; exact decide_eq_true hcn.1
  have l3 : decide (((s[pos]).toNat : Int) ≤ 57) = true := by rw [hcp]; exact decide_eq_true (by omega)
  have l4 : decide ((s[pos]).toNat ≤ 57) = true := by rw [hcp]; exact decide_eq_true hcn.2
  have T1 : Hid (∀ V, RS w0 rb s pos bg V → Calls Tryd.prog 74 #[.pointer (some ⟨rb, 0, none⟩)] V fun e W' => e = .returned (.bool true) ∧ Below V.heap.size V W') := fun V hV => begins_is hV hS hsz hd hc
  have hb256 : ((bg : Int) == 256) = false := by rw [beq_eq_false_iff_ne]; omega
  have hb256' : (bg == 256) = false := by rw [beq_eq_false_iff_ne]; omega
  have HI := Lib.hid hI
  have HRB := Lib.hid hrb
  have HC := Lib.hid hC
  clear h hd hI hrb hC hcp hc
  go_enter Tryd.func42, Tryd.ntmps42
  go_wp2_with fail
  refine (T1.out _ HI.out.rs).mono ?_
  rintro e V1 ⟨rfl, b1⟩
  have i1 := HI.out.under b1
  have c2 : V1.cell? ⟨rb, 2, none⟩ = some (.int .i64 bg) := cell_of_row i1.rs.rd rfl
  have f2 : V1.frozen? ⟨rb, 2, none⟩ = false := free_of_row i1.rs.rd
  have I1 := Lib.hid i1
  clear b1 i1
  have hset : Mod (fun k => k = rb) V1 (V1.setCell ⟨rb, 2, none⟩ (.int .i64 ((bg : Int) + 1))) := Mod.setCell _ _ _ (.inl rfl)
  have I2 : Hid (InBox w0 W rb s pos (bg + 1) (V1.setCell ⟨rb, 2, none⟩ (.int .i64 ((bg : Int) + 1)))) := by
    refine I1.out.on HRB.out ⟨?_, I1.out.rs.below.trans (hset.below I1.out.rs.below.size (fun k (e : k = rb) => by have := I1.out.rs.lo; omega)), I1.out.rs.lo⟩ hset
    rw [show ((bg + 1 : Nat) : Int) = (bg : Int) + 1 by omega]
    exact set_row (i := 2) _ I1.out.rs.rd
  clear hset
  have c0 : (V1.setCell ⟨rb, 2, none⟩ (.int .i64 ((bg : Int) + 1))).cell? ⟨rb, 0, none⟩ = some (.string s) := cell_of_row I2.out.rs.rd rfl
  have c1 : (V1.setCell ⟨rb, 2, none⟩ (.int .i64 ((bg : Int) + 1))).cell? ⟨rb, 1, none⟩ = some (.int .i64 pos) := cell_of_row I2.out.rs.rd rfl
  go_wp2_with fail
  go_quiet (fail)
  have I3 : Hid (InBox w0 W rb s pos (bg + 1) ((V1.setCell ⟨rb, 2, none⟩ (.int .i64 ((bg : Int) + 1))).drewN nq)) := I2.out.under ⟨rfl, rfl, rfl, Nat.le_refl _, fun _ _ => rfl⟩
  generalize (V1.setCell ⟨rb, 2, none⟩ (.int .i64 ((bg : Int) + 1))).drewN nq = V3 at I3 ⊢
  clear c0 c1 c2 f2 I2
  go_wp2_with fail
  refine (HC.out _ I3.out.rs).mono ?_
  rintro e V4 ⟨tv, bg', rfl, hT, h4, hbg', m4⟩
  obtain ⟨kz, nz, sz, tz, Lz, Az, capz, hzz, rfl⟩ : ∃ k' n' s' t' L' A' cap', x = Tm.mk k' n' s' t' L' ∧ tv = .agg #[.int .i8 k', .int .i64 n', .string s', .string t', .slice A' L'.length cap'] := by
    cases hT; exact ⟨_, _, _, _, _, _, _, rfl, rfl⟩
  clear hzz
  have i4 := I3.out.on HRB.out h4 m4
  have g4 := i4.box
  unfold termZ at g4
  have r0 : (V4).cell? ⟨W.heap.size, 0, none⟩ = some (.int .i8 0) := cell_of_row g4 rfl
  have r1 : (V4).cell? ⟨W.heap.size, 1, none⟩ = some (.int .i64 0) := cell_of_row g4 rfl
  have r2 : (V4).cell? ⟨W.heap.size, 2, none⟩ = some (.string ⟨#[]⟩) := cell_of_row g4 rfl
  have r3 : (V4).cell? ⟨W.heap.size, 3, none⟩ = some (.string ⟨#[]⟩) := cell_of_row g4 rfl
  have r4 : (V4).cell? ⟨W.heap.size, 4, none⟩ = some (.slice none 0 0) := cell_of_row g4 rfl
  have f0 : (V4).frozen? ⟨W.heap.size, 0, none⟩ = false := free_of_row g4
  have f1 : (V4).frozen? ⟨W.heap.size, 1, none⟩ = false := free_of_row g4
  have f2 : (V4).frozen? ⟨W.heap.size, 2, none⟩ = false := free_of_row g4
  have f3 : (V4).frozen? ⟨W.heap.size, 3, none⟩ = false := free_of_row g4
  have f4 : (V4).frozen? ⟨W.heap.size, 4, none⟩ = false := free_of_row g4
  have S5 := Lib.hid (set_five (.int .i8 kz) (.int .i64 nz) (.string sz) (.string tz) (.slice Az Lz.length capz) g4)
  have I4 := Lib.hid i4
  have HT := Lib.hid hT
  have HBG := Lib.hid hbg'
  clear i4 g4 h4 m4 hT hbg'
  go_wp2_with fail
  obtain ⟨s5, m5⟩ := S5.out
  generalize ((((((V4).setCell ⟨W.heap.size, 0, none⟩ (.int .i8 kz)).setCell ⟨W.heap.size, 1, none⟩ (.int .i64 nz)).setCell ⟨W.heap.size, 2, none⟩ (.string sz)).setCell ⟨W.heap.size, 3, none⟩ (.string tz)).setCell ⟨W.heap.size, 4, none⟩ (.slice Az Lz.length capz)) = VX at s5 m5 ⊢
  have z0 : VX.cell? ⟨W.heap.size, 0, none⟩ = some (.int .i8 kz) := cell_of_row s5 rfl
  have z1 : VX.cell? ⟨W.heap.size, 1, none⟩ = some (.int .i64 nz) := cell_of_row s5 rfl
  have z2 : VX.cell? ⟨W.heap.size, 2, none⟩ = some (.string sz) := cell_of_row s5 rfl
  have z3 : VX.cell? ⟨W.heap.size, 3, none⟩ = some (.string tz) := cell_of_row s5 rfl
  have z4 : VX.cell? ⟨W.heap.size, 4, none⟩ = some (.slice Az Lz.length capz) := cell_of_row s5 rfl
  refine bodyPost_ret (v := .tuple #[.agg #[(.int .i8 kz), (.int .i64 nz), (.string sz), (.string tz), (.slice Az Lz.length capz)], (.int .i64 0)]) (by simp [results, Tryd.f42, go_sem, z0, z1, z2, z3, z4]) rfl ?_
  obtain ⟨hr9, hm9⟩ := I4.out.done HRB.out m5
  have zb := heap_lt I3.out.box
  have zx := m5.size
  exact ⟨_, bg', rfl, HT.out.keep (fun b hb => m5.block b hb.2 (by omega)) (fun b hb => ⟨by omega, by omega⟩), hr9, HBG.out, hm9⟩

set_option maxHeartbeats 4000000 in
set_option maxRecDepth 100000 in
theorem part_name {w0 W : World} {rb pos bg q bgx : Nat} {s : ByteArray} (x : Tm) (h : RS w0 rb s pos bg W) (hS : Spans w0) (hsz : s.size ≤ 1099511627776) (hbg : bg < 256) {c : UInt8} {r : List UInt8} (hd : s.data.toList.drop pos = c :: r) (hc : firstB c = true) (hcn : 58 ≤ c.toNat ∧ c.toNat ≠ 123 ∧ c.toNat ≠ 91 ∧ c.toNat ≠ 60)
    (hC : ∀ V, RS w0 rb s pos (bg + 1) V → Calls Tryd.prog 79 #[.pointer (some ⟨rb, 0, none⟩)] V fun e W' => ∃ tv bg', e = .returned (.tuple #[tv, .int .i64 0]) ∧ TmAt (fun b => V.heap.size ≤ b ∧ b < W'.heap.size) W' x tv ∧ RS w0 rb s q bg' W' ∧ bg' ≤ bgx ∧ Mod (fun k => k = rb) V W') :
    Calls Tryd.prog 42 #[.pointer (some ⟨rb, 0, none⟩)] W fun e W' => ∃ tv bg', e = .returned (.tuple #[tv, .int .i64 0]) ∧ TmAt (fun b => W.heap.size ≤ b ∧ b < W'.heap.size) W' x tv ∧ RS w0 rb s q bg' W' ∧ bg' ≤ bgx ∧ Mod (fun k => k = rb) W W' := by
  have hrb := h.lt
  have hI := inBox_of h
  obtain ⟨hp, hcp, -, -⟩ := drop_one hd
  have h123 : (((s[pos]).toNat : Int) == 123) = false := by rw [hcp, beq_eq_false_iff_ne]; omega
  have h91 : (((s[pos]).toNat : Int) == 91) = false := by rw [hcp, beq_eq_false_iff_ne]; omega
  have h60 : (((s[pos]).toNat : Int) == 60) = false := by rw [hcp, beq_eq_false_iff_ne]; omega
  have h35 : (((s[pos]).toNat : Int) == 35) = false := by rw [hcp, beq_eq_false_iff_ne]; omega
  have h45 : (((s[pos]).toNat : Int) == 45) = false := by rw [hcp, beq_eq_false_iff_ne]; omega
  have l1 : decide ((48 : Int) ≤ ((s[pos]).toNat : Int)) = true := by rw [hcp]; exact decide_eq_true (by omega)
  have l2 : decide (48 ≤ (s[pos]).toNat) = true := by rw [hcp]; exact decide_eq_true (by omega)
  have l3 : decide (((s[pos]).toNat : Int) ≤ 57) = false := by rw [hcp]; exact decide_eq_false (by omega)
  have l4 : decide ((s[pos]).toNat ≤ 57) = false := by rw [hcp]; exact decide_eq_false (by omega)
  have T1 : Hid (∀ V, RS w0 rb s pos bg V → Calls Tryd.prog 74 #[.pointer (some ⟨rb, 0, none⟩)] V fun e W' => e = .returned (.bool true) ∧ Below V.heap.size V W') := fun V hV => begins_is hV hS hsz hd hc
  have hb256 : ((bg : Int) == 256) = false := by rw [beq_eq_false_iff_ne]; omega
  have hb256' : (bg == 256) = false := by rw [beq_eq_false_iff_ne]; omega
  have HI := Lib.hid hI
  have HRB := Lib.hid hrb
  have HC := Lib.hid hC
  clear h hd hI hrb hC hcp hc
  go_enter Tryd.func42, Tryd.ntmps42
  go_wp2_with fail
  refine (T1.out _ HI.out.rs).mono ?_
  rintro e V1 ⟨rfl, b1⟩
  have i1 := HI.out.under b1
  have c2 : V1.cell? ⟨rb, 2, none⟩ = some (.int .i64 bg) := cell_of_row i1.rs.rd rfl
  have f2 : V1.frozen? ⟨rb, 2, none⟩ = false := free_of_row i1.rs.rd
  have I1 := Lib.hid i1
  clear b1 i1
  have hset : Mod (fun k => k = rb) V1 (V1.setCell ⟨rb, 2, none⟩ (.int .i64 ((bg : Int) + 1))) := Mod.setCell _ _ _ (.inl rfl)
  have I2 : Hid (InBox w0 W rb s pos (bg + 1) (V1.setCell ⟨rb, 2, none⟩ (.int .i64 ((bg : Int) + 1)))) := by
    refine I1.out.on HRB.out ⟨?_, I1.out.rs.below.trans (hset.below I1.out.rs.below.size (fun k (e : k = rb) => by have := I1.out.rs.lo; omega)), I1.out.rs.lo⟩ hset
    rw [show ((bg + 1 : Nat) : Int) = (bg : Int) + 1 by omega]
    exact set_row (i := 2) _ I1.out.rs.rd
  clear hset
  have c0 : (V1.setCell ⟨rb, 2, none⟩ (.int .i64 ((bg : Int) + 1))).cell? ⟨rb, 0, none⟩ = some (.string s) := cell_of_row I2.out.rs.rd rfl
  have c1 : (V1.setCell ⟨rb, 2, none⟩ (.int .i64 ((bg : Int) + 1))).cell? ⟨rb, 1, none⟩ = some (.int .i64 pos) := cell_of_row I2.out.rs.rd rfl
  go_wp2_with fail
  go_quiet (fail)
  have I3 : Hid (InBox w0 W rb s pos (bg + 1) ((V1.setCell ⟨rb, 2, none⟩ (.int .i64 ((bg : Int) + 1))).drewN nq)) := I2.out.under ⟨rfl, rfl, rfl, Nat.le_refl _, fun _ _ => rfl⟩
  generalize (V1.setCell ⟨rb, 2, none⟩ (.int .i64 ((bg : Int) + 1))).drewN nq = V3 at I3 ⊢
  clear c0 c1 c2 f2 I2
  go_wp2_with fail
  refine (HC.out _ I3.out.rs).mono ?_
  rintro e V4 ⟨tv, bg', rfl, hT, h4, hbg', m4⟩
  obtain ⟨kz, nz, sz, tz, Lz, Az, capz, hzz, rfl⟩ : ∃ k' n' s' t' L' A' cap', x = Tm.mk k' n' s' t' L' ∧ tv = .agg #[.int .i8 k', .int .i64 n', .string s', .string t', .slice A' L'.length cap'] := by
    cases hT; exact ⟨_, _, _, _, _, _, _, rfl, rfl⟩
  clear hzz
  have i4 := I3.out.on HRB.out h4 m4
  have g4 := i4.box
  unfold termZ at g4
  have r0 : (V4).cell? ⟨W.heap.size, 0, none⟩ = some (.int .i8 0) := cell_of_row g4 rfl
  have r1 : (V4).cell? ⟨W.heap.size, 1, none⟩ = some (.int .i64 0) := cell_of_row g4 rfl
  have r2 : (V4).cell? ⟨W.heap.size, 2, none⟩ = some (.string ⟨#[]⟩) := cell_of_row g4 rfl
  have r3 : (V4).cell? ⟨W.heap.size, 3, none⟩ = some (.string ⟨#[]⟩) := cell_of_row g4 rfl
  have r4 : (V4).cell? ⟨W.heap.size, 4, none⟩ = some (.slice none 0 0) := cell_of_row g4 rfl
  have f0 : (V4).frozen? ⟨W.heap.size, 0, none⟩ = false := free_of_row g4
  have f1 : (V4).frozen? ⟨W.heap.size, 1, none⟩ = false := free_of_row g4
  have f2 : (V4).frozen? ⟨W.heap.size, 2, none⟩ = false := free_of_row g4
  have f3 : (V4).frozen? ⟨W.heap.size, 3, none⟩ = false := free_of_row g4
  have f4 : (V4).frozen? ⟨W.heap.size, 4, none⟩ = false := free_of_row g4
  have S5 := Lib.hid (set_five (.int .i8 kz) (.int .i64 nz) (.string sz) (.string tz) (.slice Az Lz.length capz) g4)
  have I4 := Lib.hid i4
  have HT := Lib.hid hT
  have HBG := Lib.hid hbg'
  clear i4 g4 h4 m4 hT hbg'
  go_wp2_with fail
  obtain ⟨s5, m5⟩ := S5.out
  generalize ((((((V4).setCell ⟨W.heap.size, 0, none⟩ (.int .i8 kz)).setCell ⟨W.heap.size, 1, none⟩ (.int .i64 nz)).setCell ⟨W.heap.size, 2, none⟩ (.string sz)).setCell ⟨W.heap.size, 3, none⟩ (.string tz)).setCell ⟨W.heap.size, 4, none⟩ (.slice Az Lz.length capz)) = VX at s5 m5 ⊢
  have z0 : VX.cell? ⟨W.heap.size, 0, none⟩ = some (.int .i8 kz) := cell_of_row s5 rfl
  have z1 : VX.cell? ⟨W.heap.size, 1, none⟩ = some (.int .i64 nz) := cell_of_row s5 rfl
  have z2 : VX.cell? ⟨W.heap.size, 2, none⟩ = some (.string sz) := cell_of_row s5 rfl
  have z3 : VX.cell? ⟨W.heap.size, 3, none⟩ = some (.string tz) := cell_of_row s5 rfl
  have z4 : VX.cell? ⟨W.heap.size, 4, none⟩ = some (.slice Az Lz.length capz) := cell_of_row s5 rfl
  refine bodyPost_ret (v := .tuple #[.agg #[(.int .i8 kz), (.int .i64 nz), (.string sz), (.string tz), (.slice Az Lz.length capz)], (.int .i64 0)]) (by simp [results, Tryd.f42, go_sem, z0, z1, z2, z3, z4]) rfl ?_
  obtain ⟨hr9, hm9⟩ := I4.out.done HRB.out m5
  have zb := heap_lt I3.out.box
  have zx := m5.size
  exact ⟨_, bg', rfl, HT.out.keep (fun b hb => m5.block b hb.2 (by omega)) (fun b hb => ⟨by omega, by omega⟩), hr9, HBG.out, hm9⟩
end Go.Proofs.YtohbljgagbnjoaaDoor
