/- The reader: a list behind a |: no term's text. -/
import Derived.Test.YtohbljgagbnjoaaDoorRdTm
set_option linter.unusedVariables false
namespace Go.Proofs.YtohbljgagbnjoaaDoor
open Go.RowKit
open Go.Lib (decDigits itoa)

set_option maxHeartbeats 4000000 in
set_option maxRecDepth 100000 in
theorem list_bad {w0 W : World} {rb pos bg : Nat} {s : ByteArray} (hs : List Tm) (hne : hs ≠ []) (hV : ∀ y ∈ hs, Valid y) (hO : ∀ y ∈ hs, ReadOf w0 s y) (z : Tm) (hzO : ReadOf w0 s z) (hzk : z.k = 6 ∨ z.k = 7) (h : RS w0 rb s pos bg W) (hsz : s.size ≤ 1099511627776) {r : List UInt8} (hd : s.data.toList.drop pos = 91 :: (joinC (hs.map txt) ++ 124 :: (txt z ++ 93 :: r))) (hb : bg + (Tm.pres hs).length + z.nodes ≤ 256) (hll : hs.length ≤ 1000) :
    Calls Tryd.prog 76 #[.pointer (some ⟨rb, 0, none⟩)] W fun e W' => ∃ tv bg', e = .returned (.tuple #[tv, .int .i64 2]) ∧ TmAt (fun b => W.heap.size ≤ b ∧ b < W'.heap.size) W' (rollT hs z) tv ∧ RS w0 rb s (pos + 1 + (joinC (hs.map txt)).length + 1 + (txt z).length) bg' W' ∧ bg' ≤ bg + (Tm.pres hs).length + z.nodes ∧ Mod (fun k => k = rb) W W' := by
  have hrb := h.lt
  have hI := inBox_of h
  obtain ⟨-, -, -, hd2⟩ := drop_one hd
  obtain ⟨c, t, hjc, hcf⟩ := join_first hne hV
  obtain ⟨hd3, hle⟩ := drop_more hd2
  have hle := hle (by rw [hjc]; simp)
  have T1 : Hid (∀ V bg', RS w0 rb s (pos) bg' V → Calls Tryd.prog 93 #[.pointer (some ⟨rb, 0, none⟩), .string ⟨#[91]⟩] V fun e W' => e = .returned (.bool true) ∧ RS w0 rb s (pos + 1) bg' W' ∧ Mod (fun k => k = rb) V W') := fun V bg' hV => take_at hV hsz 91 hd
  have T2 : Hid (∀ V, RS w0 rb s (pos + 1) bg V → Calls Tryd.prog 93 #[.pointer (some ⟨rb, 0, none⟩), .string ⟨#[93]⟩] V fun e W' => e = .returned (.bool false) ∧ RS w0 rb s (pos + 1) bg W' ∧ Mod (fun k => k = rb) V W') := fun V hV =>
    take_is hV (by omega) hsz ⟨#[93]⟩ (by decide) false (by rw [hd2, hjc]; exact not_prefix (firstB_not hcf).2.1)
  have T3 : Hid (∀ V, RS w0 rb s (pos + 1) bg V → Calls Tryd.prog 94 #[.pointer (some ⟨rb, 0, none⟩)] V fun e W' => ∃ A cap bg', e = .returned (.tuple #[.slice A hs.length cap, .int .i64 0]) ∧ TRow (fun b => V.heap.size ≤ b ∧ b < W'.heap.size) W' A hs.length cap hs ∧ RS w0 rb s (pos + 1 + (joinC (hs.map txt)).length) bg' W' ∧ bg' ≤ bg + (Tm.pres hs).length ∧ Mod (fun k => k = rb) V W') := fun V hV =>
    row_is hs hne hO hV hsz (good_of (c := 124) (by decide) (by decide)) (not_prefix (by decide)) hd2 (by omega) hll hle
  obtain ⟨-, -, -, hd4⟩ := drop_one hd3
  obtain ⟨hd5, -⟩ := drop_more hd4
  have T4 : Hid (∀ V bg', RS w0 rb s (pos + 1 + (joinC (hs.map txt)).length) bg' V → Calls Tryd.prog 93 #[.pointer (some ⟨rb, 0, none⟩), .string ⟨#[124]⟩] V fun e W' => e = .returned (.bool true) ∧ RS w0 rb s (pos + 1 + (joinC (hs.map txt)).length + 1) bg' W' ∧ Mod (fun k => k = rb) V W') := fun V bg' hV => take_at hV hsz 124 hd3
  have T5 : Hid (∀ V bg', bg' ≤ bg + (Tm.pres hs).length → RS w0 rb s (pos + 1 + (joinC (hs.map txt)).length + 1) bg' V → Calls Tryd.prog 95 #[.pointer (some ⟨rb, 0, none⟩)] V fun e W' => ∃ tv bg2, e = .returned (.tuple #[tv, .int .i64 2]) ∧ TmAt (fun b => V.heap.size ≤ b ∧ b < W'.heap.size) W' z tv ∧ RS w0 rb s (pos + 1 + (joinC (hs.map txt)).length + 1 + (txt z).length) bg2 W' ∧ bg2 ≤ bg' + z.nodes ∧ Mod (fun k => k = rb) V W') := fun V bg' hbg hV =>
    tail_is z hzO hV hd4 (good_of (c := 93) (by decide) (by decide)) (by omega) 2 (by rw [if_pos hzk])
  have HI := Lib.hid hI
  have HRB := Lib.hid hrb
  clear h hd hI hrb hd2 hd3 hd4 hd5 hzO hzk hO hV hne hjc hcf hle hb hll
  go_enter Tryd.func76, Tryd.ntmps76
  go_wp2_with fail
  refine (T1.out _ _ HI.out.rs).mono ?_
  rintro e V1 ⟨rfl, h1, m1⟩
  have I1 := Lib.hid (HI.out.on HRB.out h1 m1)
  clear h1 m1
  go_wp2_with fail
  refine (termOf_empty 0 ⟨#[]⟩ ⟨#[]⟩ none 0 0 _).mono ?_
  rintro e V2 ⟨rfl, b2⟩
  have J2 := Lib.hid (inBox2_of (I1.out.under b2) emptyO)
  have Z2 : Hid ((V2.alloc emptyO).heap.size = V2.heap.size + 1) := World.size_alloc _ _
  clear b2
  go_wp2_with fail
  refine (T2.out _ J2.out.ib.rs).mono ?_
  rintro e V3 ⟨rfl, h1, m1⟩
  have J3 := Lib.hid (J2.out.on HRB.out h1 m1)
  have Z3 : Hid (V2.heap.size < V3.heap.size) := heap_lt J3.out.box2
  clear h1 m1
  go_wp2_with fail
  refine (T3.out _ J3.out.ib.rs).mono ?_
  rintro e V4 ⟨A, cap, bg1, rfl, hT, h1, hbg, m1⟩
  have J4 := Lib.hid (J3.out.on HRB.out h1 m1)
  have HR4 := Lib.hid hT
  have HBG := Lib.hid hbg
  clear h1 m1 hT hbg
  go_wp2_with fail
  refine (T4.out _ _ J4.out.ib.rs).mono ?_
  rintro e V5 ⟨rfl, h1, m1⟩
  have J5 := Lib.hid (J4.out.on HRB.out h1 m1)
  have M5 := Lib.hid m1
  clear h1 m1
  go_wp2_with fail
  refine (T5.out _ _ HBG.out J5.out.ib.rs).mono ?_
  rintro e V6 ⟨tv, bg2, rfl, hT, h1, hbg, m1⟩
  obtain ⟨kz, nz, sz, tz, Lz, Az, capz, hzz, rfl⟩ : ∃ k' n' s' t' L' A' cap', z = Tm.mk k' n' s' t' L' ∧ tv = .agg #[.int .i8 k', .int .i64 n', .string s', .string t', .slice A' L'.length cap'] := by
    cases hT; exact ⟨_, _, _, _, _, _, _, rfl, rfl⟩
  clear hzz
  have j6 := J5.out.on HRB.out h1 m1
  have M6 := Lib.hid (M5.out.trans m1 (fun _ _ h => h))
  have Z5 := Lib.hid (Nat.le_trans (heap_lt J5.out.box2) (Nat.le_refl _))
  have HT6 := Lib.hid hT
  have HBG2 := Lib.hid hbg
  have g6 := j6.box2
  unfold emptyO at g6
  have S6 := Lib.hid (set_five (.int .i8 kz) (.int .i64 nz) (.string sz) (.string tz) (.slice Az Lz.length capz) g6)
  have x0 : (V6).cell? ⟨V2.heap.size, 0, none⟩ = some (.int .i8 6) := cell_of_row g6 rfl
  have x1 : (V6).cell? ⟨V2.heap.size, 1, none⟩ = some (.int .i64 0) := cell_of_row g6 rfl
  have x2 : (V6).cell? ⟨V2.heap.size, 2, none⟩ = some (.string ⟨#[]⟩) := cell_of_row g6 rfl
  have x3 : (V6).cell? ⟨V2.heap.size, 3, none⟩ = some (.string ⟨#[]⟩) := cell_of_row g6 rfl
  have x4 : (V6).cell? ⟨V2.heap.size, 4, none⟩ = some (.slice none 0 0) := cell_of_row g6 rfl
  have fx0 : (V6).frozen? ⟨V2.heap.size, 0, none⟩ = false := free_of_row g6
  have fx1 : (V6).frozen? ⟨V2.heap.size, 1, none⟩ = false := free_of_row g6
  have fx2 : (V6).frozen? ⟨V2.heap.size, 2, none⟩ = false := free_of_row g6
  have fx3 : (V6).frozen? ⟨V2.heap.size, 3, none⟩ = false := free_of_row g6
  have fx4 : (V6).frozen? ⟨V2.heap.size, 4, none⟩ = false := free_of_row g6
  have J6 := Lib.hid j6
  clear j6 g6 h1 m1 hT hbg
  go_wp2_with fail
  obtain ⟨s7, m7⟩ := S6.out
  generalize ((((((V6).setCell ⟨V2.heap.size, 0, none⟩ (.int .i8 kz)).setCell ⟨V2.heap.size, 1, none⟩ (.int .i64 nz)).setCell ⟨V2.heap.size, 2, none⟩ (.string sz)).setCell ⟨V2.heap.size, 3, none⟩ (.string tz)).setCell ⟨V2.heap.size, 4, none⟩ (.slice Az Lz.length capz)) = V7 at s7 m7 ⊢
  have J7 := Lib.hid (J6.out.set HRB.out m7 s7)
  have M7 := Lib.hid m7
  clear m7 s7 x0 fx0 x1 fx1 x2 fx2 x3 fx3 x4 fx4
  obtain ⟨V8, hV8⟩ : ∃ V8, V8 = V7 := ⟨_, rfl⟩
  subst hV8
  have j8 := J7.out
  have g8 := j8.box2
  have x0 : (V8).cell? ⟨V2.heap.size, 0, none⟩ = some (.int .i8 kz) := cell_of_row g8 rfl
  have x1 : (V8).cell? ⟨V2.heap.size, 1, none⟩ = some (.int .i64 nz) := cell_of_row g8 rfl
  have x2 : (V8).cell? ⟨V2.heap.size, 2, none⟩ = some (.string sz) := cell_of_row g8 rfl
  have x3 : (V8).cell? ⟨V2.heap.size, 3, none⟩ = some (.string tz) := cell_of_row g8 rfl
  have x4 : (V8).cell? ⟨V2.heap.size, 4, none⟩ = some (.slice Az Lz.length capz) := cell_of_row g8 rfl
  have fx0 : (V8).frozen? ⟨V2.heap.size, 0, none⟩ = false := free_of_row g8
  have fx1 : (V8).frozen? ⟨V2.heap.size, 1, none⟩ = false := free_of_row g8
  have fx2 : (V8).frozen? ⟨V2.heap.size, 2, none⟩ = false := free_of_row g8
  have fx3 : (V8).frozen? ⟨V2.heap.size, 3, none⟩ = false := free_of_row g8
  have fx4 : (V8).frozen? ⟨V2.heap.size, 4, none⟩ = false := free_of_row g8
  have J8 := Lib.hid j8
  clear j8 g8
  have HZ8 : Hid (TmAt (fun b => V2.heap.size < b ∧ b < V8.heap.size) V8 z (.agg #[(.int .i8 kz), (.int .i64 nz), (.string sz), (.string tz), (.slice Az Lz.length capz)])) := by
    have hz5 := Z5.out
    have h7 := M7.out.size
    have hlt := J8.out.lt
    have hrb := HRB.out
    exact HT6.out.keep (fun b hb => M7.out.block b hb.2 (by omega)) (fun b hb => ⟨by omega, by omega⟩)
  have M8 : Hid (Mod (fun k => k = rb ∨ k = V2.heap.size) V4 V8) := ((M6.out.mono (fun _ _ h => .inl h)).trans (M7.out.mono (G := fun k => k = rb ∨ k = V2.heap.size) (fun _ _ h => .inr h)) (fun _ _ h => h))
  have HR8 : Hid (TRow (fun b => V2.heap.size < b ∧ b < V8.heap.size) V8 A hs.length cap hs) := by
    have hz3 := Z3.out
    have h8 := M8.out.size
    have hlt := J8.out.lt
    have hrb := HRB.out
    exact HR4.out.keep (fun b hb => M8.out.block b hb.2 (by omega)) (fun b hb => ⟨by omega, by omega⟩)
  go_wp2_with fail
  refine (roll_any (fun b => V2.heap.size < b ∧ b < V8.heap.size) hs z A cap _ _ (fun b hb => hb.2) HR8.out HZ8.out).mono ?_
  rintro e V9 ⟨v, rfl, hT, b9⟩
  obtain ⟨ku, nu, su, tu, Lu, Au, capu, hc⟩ : ∃ k' n' s' t' L' A' cap', v = .agg #[.int .i8 k', .int .i64 n', .string s', .string t', .slice A' (List.length (α := Tm) L') cap'] := by
    have h2 := hT
    generalize rollT hs z = q at h2
    cases h2; exact ⟨_, _, _, _, _, _, _, rfl⟩
  subst hc
  have j9 := J8.out.under b9
  have g9 := j9.ib.box
  unfold termZ at g9
  have y0 : (V9).cell? ⟨W.heap.size, 0, none⟩ = some (.int .i8 0) := cell_of_row g9 rfl
  have y1 : (V9).cell? ⟨W.heap.size, 1, none⟩ = some (.int .i64 0) := cell_of_row g9 rfl
  have y2 : (V9).cell? ⟨W.heap.size, 2, none⟩ = some (.string ⟨#[]⟩) := cell_of_row g9 rfl
  have y3 : (V9).cell? ⟨W.heap.size, 3, none⟩ = some (.string ⟨#[]⟩) := cell_of_row g9 rfl
  have y4 : (V9).cell? ⟨W.heap.size, 4, none⟩ = some (.slice none 0 0) := cell_of_row g9 rfl
  have fy0 : (V9).frozen? ⟨W.heap.size, 0, none⟩ = false := free_of_row g9
  have fy1 : (V9).frozen? ⟨W.heap.size, 1, none⟩ = false := free_of_row g9
  have fy2 : (V9).frozen? ⟨W.heap.size, 2, none⟩ = false := free_of_row g9
  have fy3 : (V9).frozen? ⟨W.heap.size, 3, none⟩ = false := free_of_row g9
  have fy4 : (V9).frozen? ⟨W.heap.size, 4, none⟩ = false := free_of_row g9
  have S5 := Lib.hid (set_five (.int .i8 ku) (.int .i64 nu) (.string su) (.string tu) (.slice Au Lu.length capu) g9)
  have J9 := Lib.hid j9
  have HT9 := Lib.hid hT
  have Z9 := Lib.hid b9.size
  clear j9 g9 b9 hT
  go_wp2_with fail
  obtain ⟨s5, m5⟩ := S5.out
  generalize ((((((V9).setCell ⟨W.heap.size, 0, none⟩ (.int .i8 ku)).setCell ⟨W.heap.size, 1, none⟩ (.int .i64 nu)).setCell ⟨W.heap.size, 2, none⟩ (.string su)).setCell ⟨W.heap.size, 3, none⟩ (.string tu)).setCell ⟨W.heap.size, 4, none⟩ (.slice Au Lu.length capu)) = VX at s5 m5 ⊢
  have z0 : VX.cell? ⟨W.heap.size, 0, none⟩ = some (.int .i8 ku) := cell_of_row s5 rfl
  have z1 : VX.cell? ⟨W.heap.size, 1, none⟩ = some (.int .i64 nu) := cell_of_row s5 rfl
  have z2 : VX.cell? ⟨W.heap.size, 2, none⟩ = some (.string su) := cell_of_row s5 rfl
  have z3 : VX.cell? ⟨W.heap.size, 3, none⟩ = some (.string tu) := cell_of_row s5 rfl
  have z4 : VX.cell? ⟨W.heap.size, 4, none⟩ = some (.slice Au Lu.length capu) := cell_of_row s5 rfl
  refine bodyPost_ret (v := .tuple #[.agg #[(.int .i8 ku), (.int .i64 nu), (.string su), (.string tu), (.slice Au Lu.length capu)], (.int .i64 2)]) (by simp [results, Tryd.f76, go_sem, z0, z1, z2, z3, z4]) rfl ?_
  obtain ⟨hr9, hm9⟩ := J9.out.ib.done HRB.out m5
  have hlt := J9.out.lt
  have hv8 := heap_lt J8.out.box2
  have z9 := Z9.out
  have zx := m5.size
  refine ⟨_, _, rfl, HT9.out.keep (fun b hb => m5.block b ?_ ?_) (fun b hb => ⟨?_, ?_⟩), hr9, ?_, hm9⟩
  · rcases hb with hb | hb
    · have h1 := hb.2; omega
    · exact hb.2
  · rcases hb with hb | hb
    · have h1 := hb.1; omega
    · have h1 := hb.1; omega
  · rcases hb with hb | hb
    · have h1 := hb.1; omega
    · have h1 := hb.1; omega
  · rcases hb with hb | hb
    · have h1 := hb.2; omega
    · have h1 := hb.2; omega
  · have h1 := HBG.out; have h2 := HBG2.out; omega

set_option maxHeartbeats 4000000 in
set_option maxRecDepth 100000 in
theorem part_bad {w0 W : World} {rb pos bg q bgx : Nat} {s : ByteArray} (x : Tm) (h : RS w0 rb s pos bg W) (hS : Spans w0) (hsz : s.size ≤ 1099511627776) (hbg : bg < 256) {c : UInt8} {r : List UInt8} (hd : s.data.toList.drop pos = c :: r) (hc : firstB c = true) (hcn : c = 91)
    (hC : ∀ V, RS w0 rb s pos (bg + 1) V → Calls Tryd.prog 76 #[.pointer (some ⟨rb, 0, none⟩)] V fun e W' => ∃ tv bg', e = .returned (.tuple #[tv, .int .i64 2]) ∧ TmAt (fun b => V.heap.size ≤ b ∧ b < W'.heap.size) W' x tv ∧ RS w0 rb s q bg' W' ∧ bg' ≤ bgx ∧ Mod (fun k => k = rb) V W') :
    Calls Tryd.prog 42 #[.pointer (some ⟨rb, 0, none⟩)] W fun e W' => ∃ tv bg', e = .returned (.tuple #[tv, .int .i64 2]) ∧ TmAt (fun b => W.heap.size ≤ b ∧ b < W'.heap.size) W' x tv ∧ RS w0 rb s q bg' W' ∧ bg' ≤ bgx ∧ Mod (fun k => k = rb) W W' := by
  have hrb := h.lt
  have hI := inBox_of h
  obtain ⟨hp, hcp, -, -⟩ := drop_one hd
  have hn : c.toNat = 91 := by rw [hcn]; rfl
  have h123 : (((s[pos]).toNat : Int) == 123) = false := by rw [hcp, hcn]; rfl
  have h91 : (((s[pos]).toNat : Int) == 91) = true := by rw [hcp, hcn]; rfl
  have T1 : Hid (∀ V, RS w0 rb s pos bg V → Calls Tryd.prog 74 #[.pointer (some ⟨rb, 0, none⟩)] V fun e W' => e = .returned (.bool true) ∧ Below V.heap.size V W') := fun V hV => begins_is hV hS hsz hd hc
  have hb256 : ((bg : Int) == 256) = false := by rw [beq_eq_false_iff_ne]; omega
  have hb256' : (bg == 256) = false := by rw [beq_eq_false_iff_ne]; omega
  have HI := Lib.hid hI
  have HRB := Lib.hid hrb
  have HC := Lib.hid hC
  clear h hd hI hrb hC hcp hc
  go_enter Tryd.func42, Tryd.ntmps42
  go_wp2_with fail
  refine (T1.out _ HI.out.rs).mono ?_
  rintro e V1 ⟨rfl, b1⟩
  have i1 := HI.out.under b1
  have c2 : V1.cell? ⟨rb, 2, none⟩ = some (.int .i64 bg) := cell_of_row i1.rs.rd rfl
  have f2 : V1.frozen? ⟨rb, 2, none⟩ = false := free_of_row i1.rs.rd
  have I1 := Lib.hid i1
  clear b1 i1
  have hset : Mod (fun k => k = rb) V1 (V1.setCell ⟨rb, 2, none⟩ (.int .i64 ((bg : Int) + 1))) := Mod.setCell _ _ _ (.inl rfl)
  have I2 : Hid (InBox w0 W rb s pos (bg + 1) (V1.setCell ⟨rb, 2, none⟩ (.int .i64 ((bg : Int) + 1)))) := by
    refine I1.out.on HRB.out ⟨?_, I1.out.rs.below.trans (hset.below I1.out.rs.below.size (fun k (e : k = rb) => by have := I1.out.rs.lo; omega)), I1.out.rs.lo⟩ hset
    rw [show ((bg + 1 : Nat) : Int) = (bg : Int) + 1 by omega]
    exact set_row (i := 2) _ I1.out.rs.rd
  clear hset
  have c0 : (V1.setCell ⟨rb, 2, none⟩ (.int .i64 ((bg : Int) + 1))).cell? ⟨rb, 0, none⟩ = some (.string s) := cell_of_row I2.out.rs.rd rfl
  have c1 : (V1.setCell ⟨rb, 2, none⟩ (.int .i64 ((bg : Int) + 1))).cell? ⟨rb, 1, none⟩ = some (.int .i64 pos) := cell_of_row I2.out.rs.rd rfl
  go_wp2_with fail
  go_quiet (fail)
  have I3 : Hid (InBox w0 W rb s pos (bg + 1) ((V1.setCell ⟨rb, 2, none⟩ (.int .i64 ((bg : Int) + 1))).drewN nq)) := I2.out.under ⟨rfl, rfl, rfl, Nat.le_refl _, fun _ _ => rfl⟩
  generalize (V1.setCell ⟨rb, 2, none⟩ (.int .i64 ((bg : Int) + 1))).drewN nq = V3 at I3 ⊢
  clear c0 c1 c2 f2 I2
  go_wp2_with fail
  refine (HC.out _ I3.out.rs).mono ?_
  rintro e V4 ⟨tv, bg', rfl, hT, h4, hbg', m4⟩
  obtain ⟨kz, nz, sz, tz, Lz, Az, capz, hzz, rfl⟩ : ∃ k' n' s' t' L' A' cap', x = Tm.mk k' n' s' t' L' ∧ tv = .agg #[.int .i8 k', .int .i64 n', .string s', .string t', .slice A' L'.length cap'] := by
    cases hT; exact ⟨_, _, _, _, _, _, _, rfl, rfl⟩
  clear hzz
  have i4 := I3.out.on HRB.out h4 m4
  have g4 := i4.box
  unfold termZ at g4
  have r0 : (V4).cell? ⟨W.heap.size, 0, none⟩ = some (.int .i8 0) := cell_of_row g4 rfl
  have r1 : (V4).cell? ⟨W.heap.size, 1, none⟩ = some (.int .i64 0) := cell_of_row g4 rfl
  have r2 : (V4).cell? ⟨W.heap.size, 2, none⟩ = some (.string ⟨#[]⟩) := cell_of_row g4 rfl
  have r3 : (V4).cell? ⟨W.heap.size, 3, none⟩ = some (.string ⟨#[]⟩) := cell_of_row g4 rfl
  have r4 : (V4).cell? ⟨W.heap.size, 4, none⟩ = some (.slice none 0 0) := cell_of_row g4 rfl
  have f0 : (V4).frozen? ⟨W.heap.size, 0, none⟩ = false := free_of_row g4
  have f1 : (V4).frozen? ⟨W.heap.size, 1, none⟩ = false := free_of_row g4
  have f2 : (V4).frozen? ⟨W.heap.size, 2, none⟩ = false := free_of_row g4
  have f3 : (V4).frozen? ⟨W.heap.size, 3, none⟩ = false := free_of_row g4
  have f4 : (V4).frozen? ⟨W.heap.size, 4, none⟩ = false := free_of_row g4
  have S5 := Lib.hid (set_five (.int .i8 kz) (.int .i64 nz) (.string sz) (.string tz) (.slice Az Lz.length capz) g4)
  have I4 := Lib.hid i4
  have HT := Lib.hid hT
  have HBG := Lib.hid hbg'
  clear i4 g4 h4 m4 hT hbg'
  go_wp2_with fail
  obtain ⟨s5, m5⟩ := S5.out
  generalize ((((((V4).setCell ⟨W.heap.size, 0, none⟩ (.int .i8 kz)).setCell ⟨W.heap.size, 1, none⟩ (.int .i64 nz)).setCell ⟨W.heap.size, 2, none⟩ (.string sz)).setCell ⟨W.heap.size, 3, none⟩ (.string tz)).setCell ⟨W.heap.size, 4, none⟩ (.slice Az Lz.length capz)) = VX at s5 m5 ⊢
  have z0 : VX.cell? ⟨W.heap.size, 0, none⟩ = some (.int .i8 kz) := cell_of_row s5 rfl
  have z1 : VX.cell? ⟨W.heap.size, 1, none⟩ = some (.int .i64 nz) := cell_of_row s5 rfl
  have z2 : VX.cell? ⟨W.heap.size, 2, none⟩ = some (.string sz) := cell_of_row s5 rfl
  have z3 : VX.cell? ⟨W.heap.size, 3, none⟩ = some (.string tz) := cell_of_row s5 rfl
  have z4 : VX.cell? ⟨W.heap.size, 4, none⟩ = some (.slice Az Lz.length capz) := cell_of_row s5 rfl
  refine bodyPost_ret (v := .tuple #[.agg #[(.int .i8 kz), (.int .i64 nz), (.string sz), (.string tz), (.slice Az Lz.length capz)], (.int .i64 2)]) (by simp [results, Tryd.f42, go_sem, z0, z1, z2, z3, z4]) rfl ?_
  obtain ⟨hr9, hm9⟩ := I4.out.done HRB.out m5
  have zb := heap_lt I3.out.box
  have zx := m5.size
  exact ⟨_, bg', rfl, HT.out.keep (fun b hb => m5.block b hb.2 (by omega)) (fun b hb => ⟨by omega, by omega⟩), hr9, HBG.out, hm9⟩
end Go.Proofs.YtohbljgagbnjoaaDoor
