/- TermOne: its walk. -/
import Derived.Test.YtohbljgagbnjoaaDoorTxtOne
import Derived.Test.YtohbljgagbnjoaaDoorBoxes
set_option linter.unusedVariables false
namespace Go.Proofs.YtohbljgagbnjoaaDoor
open Go.RowKit

theorem check_of {x : Tm} (hV : Valid x) (hn : x.nodes ≤ 256) : checkN x = 0 := by
  unfold checkN
  rw [if_pos (List.all_eq_true.2 (fun y hy => hV y (List.mem_of_mem_take hy))), if_neg (by omega)]

set_option maxHeartbeats 16000000 in
set_option maxRecDepth 100000 in
theorem walk_TermOne (v u : Value) (w : World) (o0 : ∃ t, TmAt (· < w.heap.size) w t v) (o1 : ∃ t, TmAt (· < w.heap.size) w t u) (hL : Spans w ∧ PowTab w) :
    Calls Tryd.prog 4 #[v, u] w fun e w' => e = .returned (.bool true) ∧ Below w.heap.size w w' := by
  obtain ⟨x, hx⟩ := o0
  obtain ⟨y, hy⟩ := o1
  obtain ⟨kx, nx, sx, tx, Lx, Ax, capx, ex, rfl⟩ : ∃ k' n' s' t' L' A' cap', x = Tm.mk k' n' s' t' L' ∧ v = .agg #[.int .i8 k', .int .i64 n', .string s', .string t', .slice A' L'.length cap'] := by
    cases hx; exact ⟨_, _, _, _, _, _, _, rfl, rfl⟩
  obtain ⟨ky, ny, sy, ty, Ly, Ay, capy, ey, rfl⟩ : ∃ k' n' s' t' L' A' cap', y = Tm.mk k' n' s' t' L' ∧ u = .agg #[.int .i8 k', .int .i64 n', .string s', .string t', .slice A' L'.length cap'] := by
    cases hy; exact ⟨_, _, _, _, _, _, _, rfl, rfl⟩
  obtain ⟨w1, hw1⟩ : ∃ w1, w1 = (w.alloc (.cells #[(.int .i8 kx), (.int .i64 nx), (.string sx), (.string tx), (.slice Ax Lx.length capx)] 25)).alloc (.cells #[(.int .i8 ky), (.int .i64 ny), (.string sy), (.string ty), (.slice Ay Ly.length capy)] 25) := ⟨_, rfl⟩
  have h0 : Bx2 w w1 #[(.int .i8 kx), (.int .i64 nx), (.string sx), (.string tx), (.slice Ax Lx.length capx)] #[(.int .i8 ky), (.int .i64 ny), (.string sy), (.string ty), (.slice Ay Ly.length capy)] := by rw [hw1]; exact bx2_of _ _ _
  have HX := Lib.hid (fun V (h : Below w.heap.size w V) => hx.later h)
  have HY := Lib.hid (fun V (h : Below w.heap.size w V) => hy.later h)
  have HWK : Hid (∀ V, Below w.heap.size w V → Calls Tryd.prog 11 #[] V fun e w' => e = .returned (.bool true) ∧ Below w.heap.size w w') := fun V h =>
    (wakes_ok V (hL.1.below h hL.1.lt) (Go.Lib.tabBelow_of_tabIs hL.2 _ h)).mono fun e w' ⟨he, hb⟩ => ⟨he, h.trans (hb.mono h.size)⟩
  have HSP : Hid (∀ V, Below w.heap.size w V → Spans V ∧ PowTab V) := fun V h => ⟨hL.1.below h hL.1.lt, Go.Lib.tabBelow_of_tabIs hL.2 _ h⟩
  have HL := Lib.hid hL
  have H0 := Lib.hid h0
  have HEX := Lib.hid ex
  have HEY := Lib.hid ey
  clear hx hy hL ex ey
  go_enter Tryd.func4, Tryd.ntmps4
  have x0 : w1.cell? ⟨w.heap.size, 0, none⟩ = some (.int .i8 kx) := cell_of_row h0.bx rfl
  have x1 : w1.cell? ⟨w.heap.size, 1, none⟩ = some (.int .i64 nx) := cell_of_row h0.bx rfl
  have x2 : w1.cell? ⟨w.heap.size, 2, none⟩ = some (.string sx) := cell_of_row h0.bx rfl
  have x3 : w1.cell? ⟨w.heap.size, 3, none⟩ = some (.string tx) := cell_of_row h0.bx rfl
  have x4 : w1.cell? ⟨w.heap.size, 4, none⟩ = some (.slice Ax Lx.length capx) := cell_of_row h0.bx rfl
  have y0 : w1.cell? ⟨(w.heap.size + 1), 0, none⟩ = some (.int .i8 ky) := cell_of_row h0.by_ rfl
  have y1 : w1.cell? ⟨(w.heap.size + 1), 1, none⟩ = some (.int .i64 ny) := cell_of_row h0.by_ rfl
  have y2 : w1.cell? ⟨(w.heap.size + 1), 2, none⟩ = some (.string sy) := cell_of_row h0.by_ rfl
  have y3 : w1.cell? ⟨(w.heap.size + 1), 3, none⟩ = some (.string ty) := cell_of_row h0.by_ rfl
  have y4 : w1.cell? ⟨(w.heap.size + 1), 4, none⟩ = some (.slice Ay Ly.length capy) := cell_of_row h0.by_ rfl
  clear h0
  subst hw1
  go_wp2_with fail
  refine (Great_any x _ _ (HX.out _ H0.out.below)).mono ?_
  rintro e V1 ⟨q1, rfl, hq1, b1⟩
  have H1 := Lib.hid (H0.out.on b1)
  have HQ1 := Lib.hid hq1
  clear hq1 b1 x0 x1 x2 x3 x4 y0 y1 y2 y3 y4
  cases q1
  case true =>
    go_wp2_with fail
    refine (HWK.out _ H1.out.below).mono ?_
    rintro e V ⟨rfl, hb⟩
    have HB := Lib.hid hb
    clear hb
    go_wp2_with fail
    go_ret
    exact ⟨rfl, HB.out⟩
  have h1 := H1.out
  have x0 : V1.cell? ⟨w.heap.size, 0, none⟩ = some (.int .i8 kx) := cell_of_row h1.bx rfl
  have x1 : V1.cell? ⟨w.heap.size, 1, none⟩ = some (.int .i64 nx) := cell_of_row h1.bx rfl
  have x2 : V1.cell? ⟨w.heap.size, 2, none⟩ = some (.string sx) := cell_of_row h1.bx rfl
  have x3 : V1.cell? ⟨w.heap.size, 3, none⟩ = some (.string tx) := cell_of_row h1.bx rfl
  have x4 : V1.cell? ⟨w.heap.size, 4, none⟩ = some (.slice Ax Lx.length capx) := cell_of_row h1.bx rfl
  have y0 : V1.cell? ⟨(w.heap.size + 1), 0, none⟩ = some (.int .i8 ky) := cell_of_row h1.by_ rfl
  have y1 : V1.cell? ⟨(w.heap.size + 1), 1, none⟩ = some (.int .i64 ny) := cell_of_row h1.by_ rfl
  have y2 : V1.cell? ⟨(w.heap.size + 1), 2, none⟩ = some (.string sy) := cell_of_row h1.by_ rfl
  have y3 : V1.cell? ⟨(w.heap.size + 1), 3, none⟩ = some (.string ty) := cell_of_row h1.by_ rfl
  have y4 : V1.cell? ⟨(w.heap.size + 1), 4, none⟩ = some (.slice Ay Ly.length capy) := cell_of_row h1.by_ rfl
  clear h1
  go_wp2_with fail
  refine (Great_any y _ _ (HY.out _ H1.out.below)).mono ?_
  rintro e V2 ⟨q2, rfl, hq2, b2⟩
  have H2 := Lib.hid (H1.out.on b2)
  have HQ2 := Lib.hid hq2
  clear hq2 b2 x0 x1 x2 x3 x4 y0 y1 y2 y3 y4
  cases q2
  case true =>
    go_wp2_with fail
    refine (HWK.out _ H2.out.below).mono ?_
    rintro e V ⟨rfl, hb⟩
    have HB := Lib.hid hb
    clear hb
    go_wp2_with fail
    go_ret
    exact ⟨rfl, HB.out⟩
  have h2 := H2.out
  have x0 : V2.cell? ⟨w.heap.size, 0, none⟩ = some (.int .i8 kx) := cell_of_row h2.bx rfl
  have x1 : V2.cell? ⟨w.heap.size, 1, none⟩ = some (.int .i64 nx) := cell_of_row h2.bx rfl
  have x2 : V2.cell? ⟨w.heap.size, 2, none⟩ = some (.string sx) := cell_of_row h2.bx rfl
  have x3 : V2.cell? ⟨w.heap.size, 3, none⟩ = some (.string tx) := cell_of_row h2.bx rfl
  have x4 : V2.cell? ⟨w.heap.size, 4, none⟩ = some (.slice Ax Lx.length capx) := cell_of_row h2.bx rfl
  have y0 : V2.cell? ⟨(w.heap.size + 1), 0, none⟩ = some (.int .i8 ky) := cell_of_row h2.by_ rfl
  have y1 : V2.cell? ⟨(w.heap.size + 1), 1, none⟩ = some (.int .i64 ny) := cell_of_row h2.by_ rfl
  have y2 : V2.cell? ⟨(w.heap.size + 1), 2, none⟩ = some (.string sy) := cell_of_row h2.by_ rfl
  have y3 : V2.cell? ⟨(w.heap.size + 1), 3, none⟩ = some (.string ty) := cell_of_row h2.by_ rfl
  have y4 : V2.cell? ⟨(w.heap.size + 1), 4, none⟩ = some (.slice Ay Ly.length capy) := cell_of_row h2.by_ rfl
  clear h2
  go_wp2_with fail
  refine (Check_any x _ _ (HX.out _ H2.out.below) (HSP.out _ H2.out.below).1).mono ?_
  rintro e V3 ⟨rfl, b3⟩
  have H3 := Lib.hid (H2.out.on b3)
  clear b3 x0 x1 x2 x3 x4 y0 y1 y2 y3 y4
  by_cases hcx : checkN x = 0
  case neg =>
    have hcx1 : (checkN x != 0) = true := by simpa using hcx
    clear hcx
    go_wp2_with fail
    refine (HWK.out _ H3.out.below).mono ?_
    rintro e V ⟨rfl, hb⟩
    have HB := Lib.hid hb
    clear hb
    go_wp2_with fail
    go_ret
    exact ⟨rfl, HB.out⟩
  have hcx1 : (checkN x != 0) = false := by simpa using hcx
  have HCX := Lib.hid hcx
  clear hcx
  have h3 := H3.out
  have x0 : V3.cell? ⟨w.heap.size, 0, none⟩ = some (.int .i8 kx) := cell_of_row h3.bx rfl
  have x1 : V3.cell? ⟨w.heap.size, 1, none⟩ = some (.int .i64 nx) := cell_of_row h3.bx rfl
  have x2 : V3.cell? ⟨w.heap.size, 2, none⟩ = some (.string sx) := cell_of_row h3.bx rfl
  have x3 : V3.cell? ⟨w.heap.size, 3, none⟩ = some (.string tx) := cell_of_row h3.bx rfl
  have x4 : V3.cell? ⟨w.heap.size, 4, none⟩ = some (.slice Ax Lx.length capx) := cell_of_row h3.bx rfl
  have y0 : V3.cell? ⟨(w.heap.size + 1), 0, none⟩ = some (.int .i8 ky) := cell_of_row h3.by_ rfl
  have y1 : V3.cell? ⟨(w.heap.size + 1), 1, none⟩ = some (.int .i64 ny) := cell_of_row h3.by_ rfl
  have y2 : V3.cell? ⟨(w.heap.size + 1), 2, none⟩ = some (.string sy) := cell_of_row h3.by_ rfl
  have y3 : V3.cell? ⟨(w.heap.size + 1), 3, none⟩ = some (.string ty) := cell_of_row h3.by_ rfl
  have y4 : V3.cell? ⟨(w.heap.size + 1), 4, none⟩ = some (.slice Ay Ly.length capy) := cell_of_row h3.by_ rfl
  clear h3
  go_wp2_with fail
  refine (Check_any y _ _ (HY.out _ H3.out.below) (HSP.out _ H3.out.below).1).mono ?_
  rintro e V4 ⟨rfl, b4⟩
  have H4 := Lib.hid (H3.out.on b4)
  clear b4 hcx1 x0 x1 x2 x3 x4 y0 y1 y2 y3 y4
  by_cases hcy : checkN y = 0
  case neg =>
    have hcy1 : (checkN y != 0) = true := by simpa using hcy
    clear hcy
    go_wp2_with fail
    refine (HWK.out _ H4.out.below).mono ?_
    rintro e V ⟨rfl, hb⟩
    have HB := Lib.hid hb
    clear hb
    go_wp2_with fail
    go_ret
    exact ⟨rfl, HB.out⟩
  have hcy1 : (checkN y != 0) = false := by simpa using hcy
  have HCY := Lib.hid hcy
  clear hcy
  have h4 := H4.out
  have x0 : V4.cell? ⟨w.heap.size, 0, none⟩ = some (.int .i8 kx) := cell_of_row h4.bx rfl
  have x1 : V4.cell? ⟨w.heap.size, 1, none⟩ = some (.int .i64 nx) := cell_of_row h4.bx rfl
  have x2 : V4.cell? ⟨w.heap.size, 2, none⟩ = some (.string sx) := cell_of_row h4.bx rfl
  have x3 : V4.cell? ⟨w.heap.size, 3, none⟩ = some (.string tx) := cell_of_row h4.bx rfl
  have x4 : V4.cell? ⟨w.heap.size, 4, none⟩ = some (.slice Ax Lx.length capx) := cell_of_row h4.bx rfl
  have y0 : V4.cell? ⟨(w.heap.size + 1), 0, none⟩ = some (.int .i8 ky) := cell_of_row h4.by_ rfl
  have y1 : V4.cell? ⟨(w.heap.size + 1), 1, none⟩ = some (.int .i64 ny) := cell_of_row h4.by_ rfl
  have y2 : V4.cell? ⟨(w.heap.size + 1), 2, none⟩ = some (.string sy) := cell_of_row h4.by_ rfl
  have y3 : V4.cell? ⟨(w.heap.size + 1), 3, none⟩ = some (.string ty) := cell_of_row h4.by_ rfl
  have y4 : V4.cell? ⟨(w.heap.size + 1), 4, none⟩ = some (.slice Ay Ly.length capy) := cell_of_row h4.by_ rfl
  clear h4
  -- the texts, and how they stand to each other
  obtain ⟨xV, xN⟩ := check_valid HCX.out
  obtain ⟨yV, yN⟩ := check_valid HCY.out
  obtain ⟨T1, hT1⟩ : ∃ T1 : ByteArray, T1 = ⟨(txt x).toArray⟩ := ⟨_, rfl⟩
  obtain ⟨T2, hT2⟩ : ∃ T2 : ByteArray, T2 = ⟨(txt y).toArray⟩ := ⟨_, rfl⟩
  obtain ⟨c, hc⟩ : ∃ c, c = ordN x y := ⟨_, rfl⟩
  have TX1 : Hid (∀ V, Below w.heap.size w V → Calls Tryd.prog 14 #[.agg #[(.int .i8 kx), (.int .i64 nx), (.string sx), (.string tx), (.slice Ax Lx.length capx)]] V fun e w' => e = .returned (.string T1) ∧ Below V.heap.size V w') := fun V h => by
    have := Text_any x _ V (HX.out V h) (HSP.out V h).1 (HSP.out V h).2
    rwa [show textN x = txt x by unfold textN; rw [if_pos HCX.out], ← hT1] at this
  have TX2 : Hid (∀ V, Below w.heap.size w V → Calls Tryd.prog 14 #[.agg #[(.int .i8 ky), (.int .i64 ny), (.string sy), (.string ty), (.slice Ay Ly.length capy)]] V fun e w' => e = .returned (.string T2) ∧ Below V.heap.size V w') := fun V h => by
    have := Text_any y _ V (HY.out V h) (HSP.out V h).1 (HSP.out V h).2
    rwa [show textN y = txt y by unfold textN; rw [if_pos HCY.out], ← hT2] at this
  have CMP : Hid (∀ V, Below w.heap.size w V → Calls Tryd.prog 12 #[.agg #[(.int .i8 kx), (.int .i64 nx), (.string sx), (.string tx), (.slice Ax Lx.length capx)], .agg #[(.int .i8 ky), (.int .i64 ny), (.string sy), (.string ty), (.slice Ay Ly.length capy)]] V fun e w' => e = .returned (.int .i64 c) ∧ Below V.heap.size V w') := fun V h => by
    have := Compare_any x y _ _ V (HX.out V h) (HY.out V h) (HSP.out V h).1
    rwa [show compN x y = ordN x y by unfold compN; rw [if_pos ⟨HCX.out, HCY.out⟩], ← hc] at this
  obtain ⟨q, hq1, hq2⟩ : ∃ q : Bool, (T1.toList == T2.toList) = q ∧ (c == 0) = q := by
    refine ⟨_, rfl, ?_⟩
    rw [Bool.eq_iff_iff, beq_iff_eq, beq_iff_eq, hc, hT1, hT2, ByteArray.toList_eq, ByteArray.toList_eq]
    constructor
    · intro h; rw [ordN_zero x y xV yV h]
    · intro h; rw [txt_one HL.out.1 HL.out.2 xV yV xN yN (by simpa using h), ordN_self]
  have HXV := Lib.hid xV
  have HXN := Lib.hid xN
  clear xV xN yV yN hT1 hT2 hc
  go_wp2_with fail
  clear x0 x1 x2 x3 x4 y0 y1 y2 y3 y4
  have hS0 : Bx2 w V4.drew #[(.int .i8 kx), (.int .i64 nx), (.string sx), (.string tx), (.slice Ax Lx.length capx)] #[(.int .i8 ky), (.int .i64 ny), (.string sy), (.string ty), (.slice Ay Ly.length capy)] := H4.out.on ⟨rfl, rfl, rfl, Nat.le_refl _, fun _ _ => rfl⟩
  refine wp_region_held (S := fun V => Bx2 w V #[(.int .i8 kx), (.int .i64 nx), (.string sx), (.string tx), (.slice Ax Lx.length capx)] #[(.int .i8 ky), (.int .i64 ny), (.string sy), (.string ty), (.slice Ay Ly.length capy)]) (by kernel_rfl) ?_
  refine wpAnyH_take (i := 0) (oi := ⟨some 25, _, _, _, _, _⟩) (v := ?_) rfl (by kernel_rfl) (by kernel_rfl) (by kernel_rfl) (fun _ _ _ h => h) (Or.inl ⟨by kernel_rfl, ?_⟩) (by assumption) ?_; rotate_left; (intro w hSw; (try dsimp only at hSw); have z0 := cell_of_row (i := 0) hSw.bx rfl; have z1 := cell_of_row (i := 1) hSw.bx rfl; have z2 := cell_of_row (i := 2) hSw.bx rfl; have z3 := cell_of_row (i := 3) hSw.bx rfl; have z4 := cell_of_row (i := 4) hSw.bx rfl; have y0 := cell_of_row (i := 0) hSw.by_ rfl; have y1 := cell_of_row (i := 1) hSw.by_ rfl; have y2 := cell_of_row (i := 2) hSw.by_ rfl; have y3 := cell_of_row (i := 3) hSw.by_ rfl; have y4 := cell_of_row (i := 4) hSw.by_ rfl; go_simp; first | done | with_reducible rfl); (try simp only [Act.put, List.setIfInBounds_toArray, List.set_cons_zero, List.set_cons_succ])
  refine wpAnyH_take (i := 2) (oi := ⟨some 27, _, _, _, _, _⟩) (v := ?_) rfl (by kernel_rfl) (by kernel_rfl) (by kernel_rfl) (fun _ _ _ h => h) (Or.inl ⟨by kernel_rfl, ?_⟩) (by assumption) ?_; rotate_left; (intro w hSw; (try dsimp only at hSw); have z0 := cell_of_row (i := 0) hSw.bx rfl; have z1 := cell_of_row (i := 1) hSw.bx rfl; have z2 := cell_of_row (i := 2) hSw.bx rfl; have z3 := cell_of_row (i := 3) hSw.bx rfl; have z4 := cell_of_row (i := 4) hSw.bx rfl; have y0 := cell_of_row (i := 0) hSw.by_ rfl; have y1 := cell_of_row (i := 1) hSw.by_ rfl; have y2 := cell_of_row (i := 2) hSw.by_ rfl; have y3 := cell_of_row (i := 3) hSw.by_ rfl; have y4 := cell_of_row (i := 4) hSw.by_ rfl; go_simp; first | done | with_reducible rfl); (try simp only [Act.put, List.setIfInBounds_toArray, List.set_cons_zero, List.set_cons_succ])
  refine wpAnyH_take (i := 5) (oi := ⟨some 30, _, _, _, _, _⟩) (v := ?_) rfl (by kernel_rfl) (by kernel_rfl) (by kernel_rfl) (fun _ _ _ h => h) (Or.inl ⟨by kernel_rfl, ?_⟩) (by assumption) ?_; rotate_left; (intro w hSw; (try dsimp only at hSw); have z0 := cell_of_row (i := 0) hSw.bx rfl; have z1 := cell_of_row (i := 1) hSw.bx rfl; have z2 := cell_of_row (i := 2) hSw.bx rfl; have z3 := cell_of_row (i := 3) hSw.bx rfl; have z4 := cell_of_row (i := 4) hSw.bx rfl; have y0 := cell_of_row (i := 0) hSw.by_ rfl; have y1 := cell_of_row (i := 1) hSw.by_ rfl; have y2 := cell_of_row (i := 2) hSw.by_ rfl; have y3 := cell_of_row (i := 3) hSw.by_ rfl; have y4 := cell_of_row (i := 4) hSw.by_ rfl; go_simp; first | done | with_reducible rfl); (try simp only [Act.put, List.setIfInBounds_toArray, List.set_cons_zero, List.set_cons_succ])
  refine wpAnyH_take (i := 6) (oi := ⟨some 31, _, _, _, _, _⟩) (v := ?_) rfl (by kernel_rfl) (by kernel_rfl) (by kernel_rfl) (fun _ _ _ h => h) (Or.inl ⟨by kernel_rfl, ?_⟩) (by assumption) ?_; rotate_left; (intro w hSw; (try dsimp only at hSw); have z0 := cell_of_row (i := 0) hSw.bx rfl; have z1 := cell_of_row (i := 1) hSw.bx rfl; have z2 := cell_of_row (i := 2) hSw.bx rfl; have z3 := cell_of_row (i := 3) hSw.bx rfl; have z4 := cell_of_row (i := 4) hSw.bx rfl; have y0 := cell_of_row (i := 0) hSw.by_ rfl; have y1 := cell_of_row (i := 1) hSw.by_ rfl; have y2 := cell_of_row (i := 2) hSw.by_ rfl; have y3 := cell_of_row (i := 3) hSw.by_ rfl; have y4 := cell_of_row (i := 4) hSw.by_ rfl; go_simp; first | done | with_reducible rfl); (try simp only [Act.put, List.setIfInBounds_toArray, List.set_cons_zero, List.set_cons_succ])
  refine wpAnyH_ready (rs := [1]) (by kernel_rfl) (by simp) ?_
  refine AllReadyH.cons (o := ⟨some 26, _, _, _, _, _⟩) rfl (fun K hK => ?_) AllReadyH.nil
  rw [if_pos (by rfl)]
  go_simp
  refine (TX1.out _ hS0.below).mono ?_
  rintro e hS1V ⟨rfl, bb⟩
  have hS1 := hS0.on bb
  clear bb
  refine hK.out _ _ hS1 (fun hSn => ?_)
  clear hK K; (try simp only [Act.put, List.setIfInBounds_toArray, List.set_cons_zero, List.set_cons_succ])
  refine wpAnyH_ready (rs := [3]) (by kernel_rfl) (by simp) ?_
  refine AllReadyH.cons (o := ⟨some 28, _, _, _, _, _⟩) rfl (fun K hK => ?_) AllReadyH.nil
  rw [if_pos (by rfl)]
  go_simp
  refine (TX2.out _ hS1.below).mono ?_
  rintro e hS2V ⟨rfl, bb⟩
  have hS2 := hS1.on bb
  clear bb
  refine hK.out _ _ hS2 (fun hSn => ?_)
  clear hK K; (try simp only [Act.put, List.setIfInBounds_toArray, List.set_cons_zero, List.set_cons_succ])
  refine wpAnyH_take (i := 4) (oi := ⟨some 29, _, _, _, _, _⟩) (v := ?_) rfl (by kernel_rfl) (by kernel_rfl) (by kernel_rfl) (fun _ _ _ h => h) (Or.inl ⟨by kernel_rfl, ?_⟩) (by assumption) ?_; rotate_left; (intro w hSw; (try dsimp only at hSw); go_simp; first | done | with_reducible rfl); (try simp only [Act.put, List.setIfInBounds_toArray, List.set_cons_zero, List.set_cons_succ])
  refine wpAnyH_ready (rs := [7]) (by kernel_rfl) (by simp) ?_
  refine AllReadyH.cons (o := ⟨some 32, _, _, _, _, _⟩) rfl (fun K hK => ?_) AllReadyH.nil
  rw [if_pos (by rfl)]
  go_simp
  refine (CMP.out _ hS2.below).mono ?_
  rintro e hS3V ⟨rfl, bb⟩
  have hS3 := hS2.on bb
  clear bb
  refine hK.out _ _ hS3 (fun hSn => ?_)
  clear hK K; (try simp only [Act.put, List.setIfInBounds_toArray, List.set_cons_zero, List.set_cons_succ])
  refine wpAnyH_take (i := 8) (oi := ⟨some 33, _, _, _, _, _⟩) (v := ?_) rfl (by kernel_rfl) (by kernel_rfl) (by kernel_rfl) (fun _ _ _ h => h) (Or.inl ⟨by kernel_rfl, ?_⟩) (by assumption) ?_; rotate_left; (intro w hSw; (try dsimp only at hSw); go_simp; first | done | with_reducible rfl); (try simp only [Act.put, List.setIfInBounds_toArray, List.set_cons_zero, List.set_cons_succ])
  refine wpAnyH_take (i := 9) (oi := ⟨some 34, _, _, _, _, _⟩) (v := ?_) rfl (by kernel_rfl) (by kernel_rfl) (by kernel_rfl) (fun _ _ _ h => h) (Or.inl ⟨by kernel_rfl, ?_⟩) (by assumption) ?_; rotate_left; (intro w hSw; (try dsimp only at hSw); go_simp; first | done | with_reducible rfl); (try simp only [Act.put, List.setIfInBounds_toArray, List.set_cons_zero, List.set_cons_succ])
  refine wpAnyH_done (by kernel_rfl) ?_ _
  have H5 := Lib.hid hS3
  clear hS0 hS1 hS2 hS3
  have hnod : x.nodes = 1 + (Tm.pres Lx).length := by rw [HEX.out]; unfold Tm.nodes; rw [Tm.pre, List.length_cons]; omega
  have hxn := HXN.out
  have hlp := len_pres Lx
  have hle : Lx.length ≤ 256 := by omega
  have HNOD := Lib.hid hnod
  have SZX : Hid (∀ V, Below w.heap.size w V → Calls Tryd.prog 19 #[.agg #[(.int .i8 kx), (.int .i64 nx), (.string sx), (.string tx), (.slice Ax Lx.length capx)]] V fun e w' => e = .returned (.int .i64 x.nodes) ∧ Below V.heap.size V w') := fun V h => by
    have := Size_any x _ V (HX.out V h)
    rwa [show min 257 x.nodes = x.nodes by omega] at this
  have h5 := H5.out
  have x0 : hS3V.cell? ⟨w.heap.size, 0, none⟩ = some (.int .i8 kx) := cell_of_row h5.bx rfl
  have x1 : hS3V.cell? ⟨w.heap.size, 1, none⟩ = some (.int .i64 nx) := cell_of_row h5.bx rfl
  have x2 : hS3V.cell? ⟨w.heap.size, 2, none⟩ = some (.string sx) := cell_of_row h5.bx rfl
  have x3 : hS3V.cell? ⟨w.heap.size, 3, none⟩ = some (.string tx) := cell_of_row h5.bx rfl
  have x4 : hS3V.cell? ⟨w.heap.size, 4, none⟩ = some (.slice Ax Lx.length capx) := cell_of_row h5.bx rfl
  clear h5 hnod hlp TX1 TX2 CMP
  go_wp2_with fail
  clear x0 x1 x2 x3 x4
  go_loopw [5, 38] (fun n i wr => ∃ j : Nat, j ≤ Lx.length ∧ i = .int .i64 j ∧ (∃ q : Nat, n = .int .i64 q ∧ q = 1 + (Tm.pres (Lx.take j)).length) ∧ Bx2 w wr #[(.int .i8 kx), (.int .i64 nx), (.string sx), (.string tx), (.slice Ax Lx.length capx)] #[(.int .i8 ky), (.int .i64 ny), (.string sy), (.string ty), (.slice Ay Ly.length capy)]) (fun _ i _ => Lx.length - (intOf i).toNat)
  case atStart => exact ⟨0, Nat.zero_le _, rfl, ⟨1, rfl, by simp [Tm.pres]⟩, H5.out⟩
  case round =>
    obtain ⟨j, hj, rfl, ⟨q, rfl, hq⟩, hB⟩ := hrel
    have hqle : q ≤ 256 := by
      have h1 := HNOD.out
      have : (Tm.pres (Lx.take j)).length ≤ (Tm.pres Lx).length := by
        rw [show Tm.pres Lx = Tm.pres (Lx.take j) ++ Tm.pres (Lx.drop j) by rw [← Tm.pres_append, List.take_append_drop]]
        simp
      omega
    have HQ := Lib.hid hq
    have HB := Lib.hid hB
    clear hq
    by_cases hlt : j < Lx.length
    · obtain ⟨z, hz⟩ : ∃ z, Lx[j]? = some z := ⟨Lx[j], List.getElem?_eq_getElem hlt⟩
      have hTx := HX.out wr hB.below
      have HEX2 := HEX.out
      rw [HEX2] at hTx
      obtain ⟨A', cap', e4, hR, -⟩ := hTx.parts
      simp only [Value.agg.injEq, Array.mk.injEq, List.cons.injEq, and_true, true_and, Value.slice.injEq] at e4
      obtain ⟨e5, e6⟩ := e4
      subst e5
      subst e6
      obtain ⟨ad, uz, rfl, had, hE, hTz⟩ := hR.at_ j z hz
      have hzl := nodes_part (k := kx) (n := nx) (s := sx) (t := tx) (List.mem_of_getElem? hz)
      have hzV : Valid z := by have h := HXV.out; rw [HEX2] at h; exact h.part (List.mem_of_getElem? hz)
      have hq' : q + z.nodes = 1 + (Tm.pres (Lx.take (j + 1))).length := by
        rw [Tm.pres_take_succ hz, List.length_append, HQ.out]; unfold Tm.nodes; omega
      rw [← HEX2] at hzl
      have hzc := check_of hzV (by omega)
      clear hTx HEX2 hR hz hB
      obtain ⟨kz, nz, sz, tz, Lz, Az, capz, ez, rfl⟩ : ∃ k' n' s' t' L' A' cap', z = Tm.mk k' n' s' t' L' ∧ uz = .agg #[.int .i8 k', .int .i64 n', .string s', .string t', .slice A' L'.length cap'] := by
        cases hTz; exact ⟨_, _, _, _, _, _, _, rfl, rfl⟩
      clear ez
      obtain ⟨c0, c1, c2, c3, c4, hcc, e0, e1, e2, e3, e4⟩ := hE
      simp only [Value.agg.injEq, Array.mk.injEq, List.cons.injEq, and_true] at hcc
      obtain ⟨rfl, rfl, rfl, rfl, rfl⟩ := hcc
      obtain ⟨wz, hwz⟩ : ∃ wz, wz = wr.alloc (.cells #[(.int .i8 kz), (.int .i64 nz), (.string sz), (.string tz), (.slice Az Lz.length capz)] 25) := ⟨_, rfl⟩
      have hB3 : Bx3 w wz #[(.int .i8 kx), (.int .i64 nx), (.string sx), (.string tx), (.slice (some ad) Lx.length capx)] #[(.int .i8 ky), (.int .i64 ny), (.string sy), (.string ty), (.slice Ay Ly.length capy)] wr.heap.size #[(.int .i8 kz), (.int .i64 nz), (.string sz), (.string tz), (.slice Az Lz.length capz)] := by rw [hwz]; exact bx3_of HB.out _
      have HZ : Hid (∀ V, Below wr.heap.size wr V → TmAt (· < V.heap.size) V z (.agg #[(.int .i8 kz), (.int .i64 nz), (.string sz), (.string tz), (.slice Az Lz.length capz)])) := fun V h => hTz.later h
      have HBZ : Hid (Below wr.heap.size wr wz) := by rw [hwz]; exact (Below.refl _ _).alloc (Nat.le_refl _) _
      have CHZ : Hid (∀ V, Below w.heap.size w V → Below wr.heap.size wr V → Calls Tryd.prog 10 #[.agg #[(.int .i8 kz), (.int .i64 nz), (.string sz), (.string tz), (.slice Az Lz.length capz)]] V fun e w' => e = .returned (.int .i64 0) ∧ Below V.heap.size V w') := fun V h h' => by
        have := Check_any z _ V (HZ.out V h') (HSP.out V h).1
        rwa [hzc] at this
      have SZZ : Hid (∀ V, Below wr.heap.size wr V → Calls Tryd.prog 19 #[.agg #[(.int .i8 kz), (.int .i64 nz), (.string sz), (.string tz), (.slice Az Lz.length capz)]] V fun e w' => e = .returned (.int .i64 z.nodes) ∧ Below V.heap.size V w') := fun V h => by
        have := Size_any z _ V (HZ.out V h)
        rwa [show min 257 z.nodes = z.nodes by omega] at this
      have HQ' := Lib.hid hq'
      have hzd : decide ((x.nodes : Int) ≤ (z.nodes : Int)) = false := decide_eq_false (by omega)
      have hzd2 : decide (x.nodes ≤ z.nodes) = false := decide_eq_false (by omega)
      have hzn : z.nodes ≤ 256 := by omega
      have H6 := Lib.hid hB3
      have HWZ := Lib.hid hwz
      clear hzV hzc hq' hTz had hB3 hwz hxn
      go_wp2_with fail
      have HWZ2 := HWZ.out
      rw [← HWZ2]
      clear HWZ2 e0 e1 e2 e3 e4
      have hS0 : Bx4 w wr wz.drew #[(.int .i8 kx), (.int .i64 nx), (.string sx), (.string tx), (.slice (some ad) Lx.length capx)] #[(.int .i8 ky), (.int .i64 ny), (.string sy), (.string ty), (.slice Ay Ly.length capy)] wr.heap.size #[(.int .i8 kz), (.int .i64 nz), (.string sz), (.string tz), (.slice Az Lz.length capz)] := ⟨H6.out.on ⟨rfl, rfl, rfl, Nat.le_refl _, fun _ _ => rfl⟩, HBZ.out.trans ⟨rfl, rfl, rfl, Nat.le_refl _, fun _ _ => rfl⟩⟩
      refine wp_region_held (S := fun V => Bx4 w wr V #[(.int .i8 kx), (.int .i64 nx), (.string sx), (.string tx), (.slice (some ad) Lx.length capx)] #[(.int .i8 ky), (.int .i64 ny), (.string sy), (.string ty), (.slice Ay Ly.length capy)] wr.heap.size #[(.int .i8 kz), (.int .i64 nz), (.string sz), (.string tz), (.slice Az Lz.length capz)]) (by kernel_rfl) ?_
      refine wpAnyH_take (i := 0) (oi := ⟨some 42, _, _, _, _, _⟩) (v := ?_) rfl (by kernel_rfl) (by kernel_rfl) (by kernel_rfl) (fun _ _ _ h => h) (Or.inl ⟨by kernel_rfl, ?_⟩) (by assumption) ?_; rotate_left; (intro w hSw; (try dsimp only at hSw); have z0 := cell_of_row (i := 0) hSw.b3.bz rfl; have z1 := cell_of_row (i := 1) hSw.b3.bz rfl; have z2 := cell_of_row (i := 2) hSw.b3.bz rfl; have z3 := cell_of_row (i := 3) hSw.b3.bz rfl; have z4 := cell_of_row (i := 4) hSw.b3.bz rfl; have y0 := cell_of_row (i := 0) hSw.b3.base.bx rfl; have y1 := cell_of_row (i := 1) hSw.b3.base.bx rfl; have y2 := cell_of_row (i := 2) hSw.b3.base.bx rfl; have y3 := cell_of_row (i := 3) hSw.b3.base.bx rfl; have y4 := cell_of_row (i := 4) hSw.b3.base.bx rfl; go_simp; first | done | with_reducible rfl); (try simp only [Act.put, List.setIfInBounds_toArray, List.set_cons_zero, List.set_cons_succ])
      refine wpAnyH_ready (rs := [1]) (by kernel_rfl) (by simp) ?_
      refine AllReadyH.cons (o := ⟨some 43, _, _, _, _, _⟩) rfl (fun K hK => ?_) AllReadyH.nil
      rw [if_pos (by rfl)]
      go_simp
      refine (CHZ.out _ hS0.b3.base.below hS0.up).mono ?_
      rintro e hS1V ⟨rfl, bb⟩
      have hS1 := hS0.on bb
      clear bb
      refine hK.out _ _ hS1 (fun hSn => ?_)
      clear hK K; (try simp only [Act.put, List.setIfInBounds_toArray, List.set_cons_zero, List.set_cons_succ])
      refine wpAnyH_take (i := 2) (oi := ⟨some 44, _, _, _, _, _⟩) (v := ?_) rfl (by kernel_rfl) (by kernel_rfl) (by kernel_rfl) (fun _ _ _ h => h) (Or.inl ⟨by kernel_rfl, ?_⟩) (by assumption) ?_; rotate_left; (intro w hSw; (try dsimp only at hSw); go_simp; first | done | with_reducible rfl); (try simp only [Act.put, List.setIfInBounds_toArray, List.set_cons_zero, List.set_cons_succ])
      refine wpAnyH_take (i := 3) (oi := ⟨some 45, _, _, _, _, _⟩) (v := ?_) rfl (by kernel_rfl) (by kernel_rfl) (by kernel_rfl) (fun _ _ _ h => h) (Or.inl ⟨by kernel_rfl, ?_⟩) (by assumption) ?_; rotate_left; (intro w hSw; (try dsimp only at hSw); go_simp; first | done | with_reducible rfl); (try simp only [Act.put, List.setIfInBounds_toArray, List.set_cons_zero, List.set_cons_succ])
      refine wpAnyH_take (i := 4) (oi := ⟨some 46, _, _, _, _, _⟩) (v := ?_) rfl (by kernel_rfl) (by kernel_rfl) (by kernel_rfl) (fun _ _ _ h => h) (Or.inl ⟨by kernel_rfl, ?_⟩) (by assumption) ?_; rotate_left; (intro w hSw; (try dsimp only at hSw); have z0 := cell_of_row (i := 0) hSw.b3.bz rfl; have z1 := cell_of_row (i := 1) hSw.b3.bz rfl; have z2 := cell_of_row (i := 2) hSw.b3.bz rfl; have z3 := cell_of_row (i := 3) hSw.b3.bz rfl; have z4 := cell_of_row (i := 4) hSw.b3.bz rfl; have y0 := cell_of_row (i := 0) hSw.b3.base.bx rfl; have y1 := cell_of_row (i := 1) hSw.b3.base.bx rfl; have y2 := cell_of_row (i := 2) hSw.b3.base.bx rfl; have y3 := cell_of_row (i := 3) hSw.b3.base.bx rfl; have y4 := cell_of_row (i := 4) hSw.b3.base.bx rfl; go_simp; first | done | with_reducible rfl); (try simp only [Act.put, List.setIfInBounds_toArray, List.set_cons_zero, List.set_cons_succ])
      refine wpAnyH_take (i := 6) (oi := ⟨some 48, _, _, _, _, _⟩) (v := ?_) rfl (by kernel_rfl) (by kernel_rfl) (by kernel_rfl) (fun _ _ _ h => h) (Or.inl ⟨by kernel_rfl, ?_⟩) (by assumption) ?_; rotate_left; (intro w hSw; (try dsimp only at hSw); have z0 := cell_of_row (i := 0) hSw.b3.bz rfl; have z1 := cell_of_row (i := 1) hSw.b3.bz rfl; have z2 := cell_of_row (i := 2) hSw.b3.bz rfl; have z3 := cell_of_row (i := 3) hSw.b3.bz rfl; have z4 := cell_of_row (i := 4) hSw.b3.bz rfl; have y0 := cell_of_row (i := 0) hSw.b3.base.bx rfl; have y1 := cell_of_row (i := 1) hSw.b3.base.bx rfl; have y2 := cell_of_row (i := 2) hSw.b3.base.bx rfl; have y3 := cell_of_row (i := 3) hSw.b3.base.bx rfl; have y4 := cell_of_row (i := 4) hSw.b3.base.bx rfl; go_simp; first | done | with_reducible rfl); (try simp only [Act.put, List.setIfInBounds_toArray, List.set_cons_zero, List.set_cons_succ])
      refine wpAnyH_ready (rs := [5]) (by kernel_rfl) (by simp) ?_
      refine AllReadyH.cons (o := ⟨some 47, _, _, _, _, _⟩) rfl (fun K hK => ?_) AllReadyH.nil
      rw [if_pos (by rfl)]
      go_simp
      refine (SZZ.out _ hS1.up).mono ?_
      rintro e hS2V ⟨rfl, bb⟩
      have hS2 := hS1.on bb
      clear bb
      refine hK.out _ _ hS2 (fun hSn => ?_)
      clear hK K; (try simp only [Act.put, List.setIfInBounds_toArray, List.set_cons_zero, List.set_cons_succ])
      refine wpAnyH_ready (rs := [7]) (by kernel_rfl) (by simp) ?_
      refine AllReadyH.cons (o := ⟨some 49, _, _, _, _, _⟩) rfl (fun K hK => ?_) AllReadyH.nil
      rw [if_pos (by rfl)]
      go_simp
      refine (SZX.out _ hS2.b3.base.below).mono ?_
      rintro e hS3V ⟨rfl, bb⟩
      have hS3 := hS2.on bb
      clear bb
      refine hK.out _ _ hS3 (fun hSn => ?_)
      clear hK K; (try simp only [Act.put, List.setIfInBounds_toArray, List.set_cons_zero, List.set_cons_succ])
      refine wpAnyH_take (i := 8) (oi := ⟨some 50, _, _, _, _, _⟩) (v := ?_) rfl (by kernel_rfl) (by kernel_rfl) (by kernel_rfl) (fun _ _ _ h => h) (Or.inl ⟨by kernel_rfl, ?_⟩) (by assumption) ?_; rotate_left; (intro w hSw; (try dsimp only at hSw); go_simp; first | done | with_reducible rfl); (try simp only [Act.put, List.setIfInBounds_toArray, List.set_cons_zero, List.set_cons_succ])
      refine wpAnyH_take (i := 9) (oi := ⟨some 51, _, _, _, _, _⟩) (v := ?_) rfl (by kernel_rfl) (by kernel_rfl) (by kernel_rfl) (fun _ _ _ h => h) (Or.inl ⟨by kernel_rfl, ?_⟩) (by assumption) ?_; rotate_left; (intro w hSw; (try dsimp only at hSw); go_simp; first | done | with_reducible rfl); (try simp only [Act.put, List.setIfInBounds_toArray, List.set_cons_zero, List.set_cons_succ])
      refine wpAnyH_done (by kernel_rfl) ?_ _
      have H7 := Lib.hid hS3
      clear hS0 hS1 hS2 hS3
      have h7 := H7.out.b3
      have z0 : hS3V.cell? ⟨wr.heap.size, 0, none⟩ = some (.int .i8 kz) := cell_of_row h7.bz rfl
      have z1 : hS3V.cell? ⟨wr.heap.size, 1, none⟩ = some (.int .i64 nz) := cell_of_row h7.bz rfl
      have z2 : hS3V.cell? ⟨wr.heap.size, 2, none⟩ = some (.string sz) := cell_of_row h7.bz rfl
      have z3 : hS3V.cell? ⟨wr.heap.size, 3, none⟩ = some (.string tz) := cell_of_row h7.bz rfl
      have z4 : hS3V.cell? ⟨wr.heap.size, 4, none⟩ = some (.slice Az Lz.length capz) := cell_of_row h7.bz rfl
      clear h7
      go_wp2_with fail
      refine (SZZ.out _ H7.out.up).mono ?_
      rintro e V8 ⟨rfl, b8⟩
      have H8 := Lib.hid (H7.out.b3.base.on b8)
      clear b8 z0 z1 z2 z3 z4 hzd hzd2
      generalize z.nodes = zn at HQ' hzn ⊢
      go_wp2_with fail
      go_roundw
      case rel => exact ⟨j + 1, by omega, by go_num, ⟨q + zn, by go_num, HQ'.out⟩, H8.out⟩
      case measure => simp [intOf]; omega
    · obtain rfl : j = Lx.length := by omega
      have h5 := hB
      have x0 : wr.cell? ⟨w.heap.size, 0, none⟩ = some (.int .i8 kx) := cell_of_row h5.bx rfl
      have x1 : wr.cell? ⟨w.heap.size, 1, none⟩ = some (.int .i64 nx) := cell_of_row h5.bx rfl
      have x2 : wr.cell? ⟨w.heap.size, 2, none⟩ = some (.string sx) := cell_of_row h5.bx rfl
      have x3 : wr.cell? ⟨w.heap.size, 3, none⟩ = some (.string tx) := cell_of_row h5.bx rfl
      have x4 : wr.cell? ⟨w.heap.size, 4, none⟩ = some (.slice Ax Lx.length capx) := cell_of_row h5.bx rfl
      have hqn : q = x.nodes := by have := HQ.out; rw [List.take_length] at this; have := HNOD.out; omega
      subst hqn
      clear h5 hB hxn
      go_wp2_with fail
      refine (SZX.out _ HB.out.below).mono ?_
      rintro e V8 ⟨rfl, b8⟩
      have H8 := Lib.hid (HB.out.on b8)
      clear b8 x0 x1 x2 x3 x4
      go_wp2_with fail
      refine (HWK.out _ H8.out.below).mono ?_
      rintro e V ⟨rfl, hb⟩
      have HB9 := Lib.hid hb
      clear hb
      go_wp2_with fail
      go_ret
      exact ⟨rfl, HB9.out⟩
end Go.Proofs.YtohbljgagbnjoaaDoor
