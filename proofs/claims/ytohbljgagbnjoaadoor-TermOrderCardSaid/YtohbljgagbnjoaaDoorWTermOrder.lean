/- TermOrder: its walk. -/
import Derived.Test.YtohbljgagbnjoaaDoorTxtOne
import Derived.Test.YtohbljgagbnjoaaDoorListR
import Derived.Test.YtohbljgagbnjoaaDoorSame
import Derived.Deep.DeepCutAuto
import Derived.Tactics2
set_option linter.unusedVariables false
namespace Go.Proofs.YtohbljgagbnjoaaDoor
open Go.RowKit

theorem cmpI_bd (a b : Int) : -1 ≤ cmpI a b ∧ cmpI a b ≤ 1 := by
  unfold cmpI
  by_cases h1 : a < b
  · simp [h1]
  · by_cases h2 : b < a <;> simp [h1, h2]
theorem cmpS_bd (a b : ByteArray) : -1 ≤ cmpS a b ∧ cmpS a b ≤ 1 := by
  unfold cmpS
  split
  · omega
  · split <;> omega
theorem ordN_bd (x : Tm) : ∀ y, -1 ≤ ordN x y ∧ ordN x y ≤ 1 := by
  induction x using Tm.ind with
  | h k n s t l ih =>
    intro y
    obtain ⟨k', n', s', t', m⟩ := y
    by_cases hk : k = k'
    · subst hk
      rw [ordN_eq]
      split
      · exact cmpS_bd _ _
      · split
        · rw [or3]; split
          · split
            · exact cmpI_bd _ _
            · exact cmpS_bd _ _
          · exact cmpS_bd _ _
        · split
          · unfold ordR; split
            · exact cmpI_bd _ _
            · rename_i hl
              clear hl
              induction l generalizing m with
              | nil => cases m <;> simp [ordL]
              | cons a l ihl =>
                cases m with
                | nil => simp [ordL]
                | cons b m =>
                  rw [ordL]; split
                  · exact ihl (fun x hx => ih x (by simp [hx])) m
                  · exact ih a (by simp) b
          · exact cmpI_bd _ _
    · have e1 : ordN (.mk k n s t l) (.mk k' n' s' t' m) = cmpI k k' := by rw [ordN]; exact if_pos hk
      rw [e1]; exact cmpI_bd _ _

theorem Same_yes (x : Tm) (v u : Value) (w : World) (hv : TmAt (· < w.heap.size) w x v) (hu : TmAt (· < w.heap.size) w x u) : Calls Tryd.prog 13 #[v, u] w fun e w' => e = .returned (.bool true) ∧ Below w.heap.size w w' :=
  (Same_any x x v u w hv hu).mono fun e w' ⟨b, he, hb, h⟩ => ⟨by rw [he, hb.2 rfl], h⟩

set_option maxHeartbeats 32000000 in
set_option maxRecDepth 100000 in
theorem walk_TermOrder (v u t : Value) (w : World) (o0 : ∃ x, TmAt (· < w.heap.size) w x v) (o1 : ∃ x, TmAt (· < w.heap.size) w x u) (o2 : ∃ x, TmAt (· < w.heap.size) w x t) (hL : Spans w ∧ PowTab w) :
    Calls Tryd.prog 3 #[v, u, t] w fun e w' => e = .returned (.bool true) ∧ Below w.heap.size w w' := by
  obtain ⟨x, hx⟩ := o0
  obtain ⟨y, hy⟩ := o1
  obtain ⟨z, hz⟩ := o2
  obtain ⟨kx, nx, sx, tx, Lx, Ax, capx, ex, rfl⟩ : ∃ k' n' s' t' L' A' cap', x = Tm.mk k' n' s' t' L' ∧ v = .agg #[.int .i8 k', .int .i64 n', .string s', .string t', .slice A' L'.length cap'] := by
    cases hx; exact ⟨_, _, _, _, _, _, _, rfl, rfl⟩
  obtain ⟨ky, ny, sy, ty, Ly, Ay, capy, ey, rfl⟩ : ∃ k' n' s' t' L' A' cap', y = Tm.mk k' n' s' t' L' ∧ u = .agg #[.int .i8 k', .int .i64 n', .string s', .string t', .slice A' L'.length cap'] := by
    cases hy; exact ⟨_, _, _, _, _, _, _, rfl, rfl⟩
  obtain ⟨kz, nz, sz, tz, Lz, Az, capz, ez, rfl⟩ : ∃ k' n' s' t' L' A' cap', z = Tm.mk k' n' s' t' L' ∧ t = .agg #[.int .i8 k', .int .i64 n', .string s', .string t', .slice A' L'.length cap'] := by
    cases hz; exact ⟨_, _, _, _, _, _, _, rfl, rfl⟩
  obtain ⟨w1, hw1⟩ : ∃ w1, w1 = ((w.alloc (.cells #[(.int .i8 kx), (.int .i64 nx), (.string sx), (.string tx), (.slice Ax Lx.length capx)] 25)).alloc (.cells #[(.int .i8 ky), (.int .i64 ny), (.string sy), (.string ty), (.slice Ay Ly.length capy)] 25)).alloc (.cells #[(.int .i8 kz), (.int .i64 nz), (.string sz), (.string tz), (.slice Az Lz.length capz)] 25) := ⟨_, rfl⟩
  have h0 : Bx3 w w1 #[(.int .i8 kx), (.int .i64 nx), (.string sx), (.string tx), (.slice Ax Lx.length capx)] #[(.int .i8 ky), (.int .i64 ny), (.string sy), (.string ty), (.slice Ay Ly.length capy)] (w.heap.size + 2) #[(.int .i8 kz), (.int .i64 nz), (.string sz), (.string tz), (.slice Az Lz.length capz)] := by
    have h := bx3_of (bx2_of w #[(.int .i8 kx), (.int .i64 nx), (.string sx), (.string tx), (.slice Ax Lx.length capx)] #[(.int .i8 ky), (.int .i64 ny), (.string sy), (.string ty), (.slice Ay Ly.length capy)]) #[(.int .i8 kz), (.int .i64 nz), (.string sz), (.string tz), (.slice Az Lz.length capz)]
    rw [World.size_alloc, World.size_alloc, ← hw1] at h
    exact h
  have HX := Lib.hid (fun V (h : Below w.heap.size w V) => hx.later h)
  have HY := Lib.hid (fun V (h : Below w.heap.size w V) => hy.later h)
  have HZ := Lib.hid (fun V (h : Below w.heap.size w V) => hz.later h)
  have HWK : Hid (∀ V, Below w.heap.size w V → Calls Tryd.prog 11 #[] V fun e w' => e = .returned (.bool true) ∧ Below w.heap.size w w') := fun V h =>
    (wakes_ok V (hL.1.below h hL.1.lt) (Go.Lib.tabBelow_of_tabIs hL.2 _ h)).mono fun e w' ⟨he, hb⟩ => ⟨he, h.trans (hb.mono h.size)⟩
  have HSP : Hid (∀ V, Below w.heap.size w V → Spans V ∧ PowTab V) := fun V h => ⟨hL.1.below h hL.1.lt, Go.Lib.tabBelow_of_tabIs hL.2 _ h⟩
  have H0 := Lib.hid h0
  have HEX := Lib.hid ex
  clear hx hy hz hL ex ey ez
  have x0 : w1.cell? ⟨w.heap.size, 0, none⟩ = some (.int .i8 kx) := cell_of_row h0.base.bx rfl
  have x1 : w1.cell? ⟨w.heap.size, 1, none⟩ = some (.int .i64 nx) := cell_of_row h0.base.bx rfl
  have x2 : w1.cell? ⟨w.heap.size, 2, none⟩ = some (.string sx) := cell_of_row h0.base.bx rfl
  have x3 : w1.cell? ⟨w.heap.size, 3, none⟩ = some (.string tx) := cell_of_row h0.base.bx rfl
  have x4 : w1.cell? ⟨w.heap.size, 4, none⟩ = some (.slice Ax Lx.length capx) := cell_of_row h0.base.bx rfl
  have y0 : w1.cell? ⟨(w.heap.size + 1), 0, none⟩ = some (.int .i8 ky) := cell_of_row h0.base.by_ rfl
  have y1 : w1.cell? ⟨(w.heap.size + 1), 1, none⟩ = some (.int .i64 ny) := cell_of_row h0.base.by_ rfl
  have y2 : w1.cell? ⟨(w.heap.size + 1), 2, none⟩ = some (.string sy) := cell_of_row h0.base.by_ rfl
  have y3 : w1.cell? ⟨(w.heap.size + 1), 3, none⟩ = some (.string ty) := cell_of_row h0.base.by_ rfl
  have y4 : w1.cell? ⟨(w.heap.size + 1), 4, none⟩ = some (.slice Ay Ly.length capy) := cell_of_row h0.base.by_ rfl
  have z0 : w1.cell? ⟨(w.heap.size + 2), 0, none⟩ = some (.int .i8 kz) := cell_of_row h0.bz rfl
  have z1 : w1.cell? ⟨(w.heap.size + 2), 1, none⟩ = some (.int .i64 nz) := cell_of_row h0.bz rfl
  have z2 : w1.cell? ⟨(w.heap.size + 2), 2, none⟩ = some (.string sz) := cell_of_row h0.bz rfl
  have z3 : w1.cell? ⟨(w.heap.size + 2), 3, none⟩ = some (.string tz) := cell_of_row h0.bz rfl
  have z4 : w1.cell? ⟨(w.heap.size + 2), 4, none⟩ = some (.slice Az Lz.length capz) := cell_of_row h0.bz rfl
  clear h0
  subst hw1
  go_enter Tryd.func3, Tryd.ntmps3
  go_wp2_with fail
  refine (Great_any x _ _ (HX.out _ H0.out.base.below)).mono ?_
  rintro e V1 ⟨q, rfl, hq, b1⟩
  have H1 := Lib.hid (H0.out.on b1)
  clear hq b1 x0 x1 x2 x3 x4 y0 y1 y2 y3 y4 z0 z1 z2 z3 z4
  cases q
  case true =>
    go_wp2_with fail
    refine (HWK.out _ H1.out.base.below).mono ?_
    rintro e V ⟨rfl, hb⟩
    have HBW := Lib.hid hb
    clear hb
    go_wp2_with fail
    go_ret
    exact ⟨rfl, HBW.out⟩
  have hh := H1.out
  have x0 : V1.cell? ⟨w.heap.size, 0, none⟩ = some (.int .i8 kx) := cell_of_row hh.base.bx rfl
  have x1 : V1.cell? ⟨w.heap.size, 1, none⟩ = some (.int .i64 nx) := cell_of_row hh.base.bx rfl
  have x2 : V1.cell? ⟨w.heap.size, 2, none⟩ = some (.string sx) := cell_of_row hh.base.bx rfl
  have x3 : V1.cell? ⟨w.heap.size, 3, none⟩ = some (.string tx) := cell_of_row hh.base.bx rfl
  have x4 : V1.cell? ⟨w.heap.size, 4, none⟩ = some (.slice Ax Lx.length capx) := cell_of_row hh.base.bx rfl
  have y0 : V1.cell? ⟨(w.heap.size + 1), 0, none⟩ = some (.int .i8 ky) := cell_of_row hh.base.by_ rfl
  have y1 : V1.cell? ⟨(w.heap.size + 1), 1, none⟩ = some (.int .i64 ny) := cell_of_row hh.base.by_ rfl
  have y2 : V1.cell? ⟨(w.heap.size + 1), 2, none⟩ = some (.string sy) := cell_of_row hh.base.by_ rfl
  have y3 : V1.cell? ⟨(w.heap.size + 1), 3, none⟩ = some (.string ty) := cell_of_row hh.base.by_ rfl
  have y4 : V1.cell? ⟨(w.heap.size + 1), 4, none⟩ = some (.slice Ay Ly.length capy) := cell_of_row hh.base.by_ rfl
  have z0 : V1.cell? ⟨(w.heap.size + 2), 0, none⟩ = some (.int .i8 kz) := cell_of_row hh.bz rfl
  have z1 : V1.cell? ⟨(w.heap.size + 2), 1, none⟩ = some (.int .i64 nz) := cell_of_row hh.bz rfl
  have z2 : V1.cell? ⟨(w.heap.size + 2), 2, none⟩ = some (.string sz) := cell_of_row hh.bz rfl
  have z3 : V1.cell? ⟨(w.heap.size + 2), 3, none⟩ = some (.string tz) := cell_of_row hh.bz rfl
  have z4 : V1.cell? ⟨(w.heap.size + 2), 4, none⟩ = some (.slice Az Lz.length capz) := cell_of_row hh.bz rfl
  clear hh
  go_wp2_with fail
  refine (Great_any y _ _ (HY.out _ H1.out.base.below)).mono ?_
  rintro e V2 ⟨q, rfl, hq, b1⟩
  have H2 := Lib.hid (H1.out.on b1)
  clear hq b1 x0 x1 x2 x3 x4 y0 y1 y2 y3 y4 z0 z1 z2 z3 z4
  cases q
  case true =>
    go_wp2_with fail
    refine (HWK.out _ H2.out.base.below).mono ?_
    rintro e V ⟨rfl, hb⟩
    have HBW := Lib.hid hb
    clear hb
    go_wp2_with fail
    go_ret
    exact ⟨rfl, HBW.out⟩
  have hh := H2.out
  have x0 : V2.cell? ⟨w.heap.size, 0, none⟩ = some (.int .i8 kx) := cell_of_row hh.base.bx rfl
  have x1 : V2.cell? ⟨w.heap.size, 1, none⟩ = some (.int .i64 nx) := cell_of_row hh.base.bx rfl
  have x2 : V2.cell? ⟨w.heap.size, 2, none⟩ = some (.string sx) := cell_of_row hh.base.bx rfl
  have x3 : V2.cell? ⟨w.heap.size, 3, none⟩ = some (.string tx) := cell_of_row hh.base.bx rfl
  have x4 : V2.cell? ⟨w.heap.size, 4, none⟩ = some (.slice Ax Lx.length capx) := cell_of_row hh.base.bx rfl
  have y0 : V2.cell? ⟨(w.heap.size + 1), 0, none⟩ = some (.int .i8 ky) := cell_of_row hh.base.by_ rfl
  have y1 : V2.cell? ⟨(w.heap.size + 1), 1, none⟩ = some (.int .i64 ny) := cell_of_row hh.base.by_ rfl
  have y2 : V2.cell? ⟨(w.heap.size + 1), 2, none⟩ = some (.string sy) := cell_of_row hh.base.by_ rfl
  have y3 : V2.cell? ⟨(w.heap.size + 1), 3, none⟩ = some (.string ty) := cell_of_row hh.base.by_ rfl
  have y4 : V2.cell? ⟨(w.heap.size + 1), 4, none⟩ = some (.slice Ay Ly.length capy) := cell_of_row hh.base.by_ rfl
  have z0 : V2.cell? ⟨(w.heap.size + 2), 0, none⟩ = some (.int .i8 kz) := cell_of_row hh.bz rfl
  have z1 : V2.cell? ⟨(w.heap.size + 2), 1, none⟩ = some (.int .i64 nz) := cell_of_row hh.bz rfl
  have z2 : V2.cell? ⟨(w.heap.size + 2), 2, none⟩ = some (.string sz) := cell_of_row hh.bz rfl
  have z3 : V2.cell? ⟨(w.heap.size + 2), 3, none⟩ = some (.string tz) := cell_of_row hh.bz rfl
  have z4 : V2.cell? ⟨(w.heap.size + 2), 4, none⟩ = some (.slice Az Lz.length capz) := cell_of_row hh.bz rfl
  clear hh
  go_wp2_with fail
  refine (Great_any z _ _ (HZ.out _ H2.out.base.below)).mono ?_
  rintro e V3 ⟨q, rfl, hq, b1⟩
  have H3 := Lib.hid (H2.out.on b1)
  clear hq b1 x0 x1 x2 x3 x4 y0 y1 y2 y3 y4 z0 z1 z2 z3 z4
  cases q
  case true =>
    go_wp2_with fail
    refine (HWK.out _ H3.out.base.below).mono ?_
    rintro e V ⟨rfl, hb⟩
    have HBW := Lib.hid hb
    clear hb
    go_wp2_with fail
    go_ret
    exact ⟨rfl, HBW.out⟩
  have hh := H3.out
  have x0 : V3.cell? ⟨w.heap.size, 0, none⟩ = some (.int .i8 kx) := cell_of_row hh.base.bx rfl
  have x1 : V3.cell? ⟨w.heap.size, 1, none⟩ = some (.int .i64 nx) := cell_of_row hh.base.bx rfl
  have x2 : V3.cell? ⟨w.heap.size, 2, none⟩ = some (.string sx) := cell_of_row hh.base.bx rfl
  have x3 : V3.cell? ⟨w.heap.size, 3, none⟩ = some (.string tx) := cell_of_row hh.base.bx rfl
  have x4 : V3.cell? ⟨w.heap.size, 4, none⟩ = some (.slice Ax Lx.length capx) := cell_of_row hh.base.bx rfl
  have y0 : V3.cell? ⟨(w.heap.size + 1), 0, none⟩ = some (.int .i8 ky) := cell_of_row hh.base.by_ rfl
  have y1 : V3.cell? ⟨(w.heap.size + 1), 1, none⟩ = some (.int .i64 ny) := cell_of_row hh.base.by_ rfl
  have y2 : V3.cell? ⟨(w.heap.size + 1), 2, none⟩ = some (.string sy) := cell_of_row hh.base.by_ rfl
  have y3 : V3.cell? ⟨(w.heap.size + 1), 3, none⟩ = some (.string ty) := cell_of_row hh.base.by_ rfl
  have y4 : V3.cell? ⟨(w.heap.size + 1), 4, none⟩ = some (.slice Ay Ly.length capy) := cell_of_row hh.base.by_ rfl
  have z0 : V3.cell? ⟨(w.heap.size + 2), 0, none⟩ = some (.int .i8 kz) := cell_of_row hh.bz rfl
  have z1 : V3.cell? ⟨(w.heap.size + 2), 1, none⟩ = some (.int .i64 nz) := cell_of_row hh.bz rfl
  have z2 : V3.cell? ⟨(w.heap.size + 2), 2, none⟩ = some (.string sz) := cell_of_row hh.bz rfl
  have z3 : V3.cell? ⟨(w.heap.size + 2), 3, none⟩ = some (.string tz) := cell_of_row hh.bz rfl
  have z4 : V3.cell? ⟨(w.heap.size + 2), 4, none⟩ = some (.slice Az Lz.length capz) := cell_of_row hh.bz rfl
  clear hh
  go_wp2_with fail
  refine (Check_any x _ _ (HX.out _ H3.out.base.below) (HSP.out _ H3.out.base.below).1).mono ?_
  rintro e V4 ⟨rfl, b1⟩
  have H4 := Lib.hid (H3.out.on b1)
  clear b1 x0 x1 x2 x3 x4 y0 y1 y2 y3 y4 z0 z1 z2 z3 z4
  by_cases hcx : checkN x = 0
  case neg =>
    have hc1 : (checkN x != 0) = true := by simpa using hcx
    clear hcx
    go_wp2_with fail
    refine (HWK.out _ H4.out.base.below).mono ?_
    rintro e V ⟨rfl, hb⟩
    have HBW := Lib.hid hb
    clear hb
    go_wp2_with fail
    go_ret
    exact ⟨rfl, HBW.out⟩
  have hcx1 : (checkN x != 0) = false := by simpa using hcx
  have HCX := Lib.hid hcx
  clear hcx
  have hh := H4.out
  have x0 : V4.cell? ⟨w.heap.size, 0, none⟩ = some (.int .i8 kx) := cell_of_row hh.base.bx rfl
  have x1 : V4.cell? ⟨w.heap.size, 1, none⟩ = some (.int .i64 nx) := cell_of_row hh.base.bx rfl
  have x2 : V4.cell? ⟨w.heap.size, 2, none⟩ = some (.string sx) := cell_of_row hh.base.bx rfl
  have x3 : V4.cell? ⟨w.heap.size, 3, none⟩ = some (.string tx) := cell_of_row hh.base.bx rfl
  have x4 : V4.cell? ⟨w.heap.size, 4, none⟩ = some (.slice Ax Lx.length capx) := cell_of_row hh.base.bx rfl
  have y0 : V4.cell? ⟨(w.heap.size + 1), 0, none⟩ = some (.int .i8 ky) := cell_of_row hh.base.by_ rfl
  have y1 : V4.cell? ⟨(w.heap.size + 1), 1, none⟩ = some (.int .i64 ny) := cell_of_row hh.base.by_ rfl
  have y2 : V4.cell? ⟨(w.heap.size + 1), 2, none⟩ = some (.string sy) := cell_of_row hh.base.by_ rfl
  have y3 : V4.cell? ⟨(w.heap.size + 1), 3, none⟩ = some (.string ty) := cell_of_row hh.base.by_ rfl
  have y4 : V4.cell? ⟨(w.heap.size + 1), 4, none⟩ = some (.slice Ay Ly.length capy) := cell_of_row hh.base.by_ rfl
  have z0 : V4.cell? ⟨(w.heap.size + 2), 0, none⟩ = some (.int .i8 kz) := cell_of_row hh.bz rfl
  have z1 : V4.cell? ⟨(w.heap.size + 2), 1, none⟩ = some (.int .i64 nz) := cell_of_row hh.bz rfl
  have z2 : V4.cell? ⟨(w.heap.size + 2), 2, none⟩ = some (.string sz) := cell_of_row hh.bz rfl
  have z3 : V4.cell? ⟨(w.heap.size + 2), 3, none⟩ = some (.string tz) := cell_of_row hh.bz rfl
  have z4 : V4.cell? ⟨(w.heap.size + 2), 4, none⟩ = some (.slice Az Lz.length capz) := cell_of_row hh.bz rfl
  clear hh
  go_wp2_with fail
  clear hcx1
  refine (Check_any y _ _ (HY.out _ H4.out.base.below) (HSP.out _ H4.out.base.below).1).mono ?_
  rintro e V5 ⟨rfl, b1⟩
  have H5 := Lib.hid (H4.out.on b1)
  clear b1 x0 x1 x2 x3 x4 y0 y1 y2 y3 y4 z0 z1 z2 z3 z4
  by_cases hcy : checkN y = 0
  case neg =>
    have hc1 : (checkN y != 0) = true := by simpa using hcy
    clear hcy
    go_wp2_with fail
    refine (HWK.out _ H5.out.base.below).mono ?_
    rintro e V ⟨rfl, hb⟩
    have HBW := Lib.hid hb
    clear hb
    go_wp2_with fail
    go_ret
    exact ⟨rfl, HBW.out⟩
  have hcy1 : (checkN y != 0) = false := by simpa using hcy
  have HCY := Lib.hid hcy
  clear hcy
  have hh := H5.out
  have x0 : V5.cell? ⟨w.heap.size, 0, none⟩ = some (.int .i8 kx) := cell_of_row hh.base.bx rfl
  have x1 : V5.cell? ⟨w.heap.size, 1, none⟩ = some (.int .i64 nx) := cell_of_row hh.base.bx rfl
  have x2 : V5.cell? ⟨w.heap.size, 2, none⟩ = some (.string sx) := cell_of_row hh.base.bx rfl
  have x3 : V5.cell? ⟨w.heap.size, 3, none⟩ = some (.string tx) := cell_of_row hh.base.bx rfl
  have x4 : V5.cell? ⟨w.heap.size, 4, none⟩ = some (.slice Ax Lx.length capx) := cell_of_row hh.base.bx rfl
  have y0 : V5.cell? ⟨(w.heap.size + 1), 0, none⟩ = some (.int .i8 ky) := cell_of_row hh.base.by_ rfl
  have y1 : V5.cell? ⟨(w.heap.size + 1), 1, none⟩ = some (.int .i64 ny) := cell_of_row hh.base.by_ rfl
  have y2 : V5.cell? ⟨(w.heap.size + 1), 2, none⟩ = some (.string sy) := cell_of_row hh.base.by_ rfl
  have y3 : V5.cell? ⟨(w.heap.size + 1), 3, none⟩ = some (.string ty) := cell_of_row hh.base.by_ rfl
  have y4 : V5.cell? ⟨(w.heap.size + 1), 4, none⟩ = some (.slice Ay Ly.length capy) := cell_of_row hh.base.by_ rfl
  have z0 : V5.cell? ⟨(w.heap.size + 2), 0, none⟩ = some (.int .i8 kz) := cell_of_row hh.bz rfl
  have z1 : V5.cell? ⟨(w.heap.size + 2), 1, none⟩ = some (.int .i64 nz) := cell_of_row hh.bz rfl
  have z2 : V5.cell? ⟨(w.heap.size + 2), 2, none⟩ = some (.string sz) := cell_of_row hh.bz rfl
  have z3 : V5.cell? ⟨(w.heap.size + 2), 3, none⟩ = some (.string tz) := cell_of_row hh.bz rfl
  have z4 : V5.cell? ⟨(w.heap.size + 2), 4, none⟩ = some (.slice Az Lz.length capz) := cell_of_row hh.bz rfl
  clear hh
  go_wp2_with fail
  clear hcy1
  refine (Check_any z _ _ (HZ.out _ H5.out.base.below) (HSP.out _ H5.out.base.below).1).mono ?_
  rintro e V6 ⟨rfl, b1⟩
  have H6 := Lib.hid (H5.out.on b1)
  clear b1 x0 x1 x2 x3 x4 y0 y1 y2 y3 y4 z0 z1 z2 z3 z4
  by_cases hcz : checkN z = 0
  case neg =>
    have hc1 : (checkN z != 0) = true := by simpa using hcz
    clear hcz
    go_wp2_with fail
    refine (HWK.out _ H6.out.base.below).mono ?_
    rintro e V ⟨rfl, hb⟩
    have HBW := Lib.hid hb
    clear hb
    go_wp2_with fail
    go_ret
    exact ⟨rfl, HBW.out⟩
  have hcz1 : (checkN z != 0) = false := by simpa using hcz
  have HCZ := Lib.hid hcz
  clear hcz
  have hh := H6.out
  have x0 : V6.cell? ⟨w.heap.size, 0, none⟩ = some (.int .i8 kx) := cell_of_row hh.base.bx rfl
  have x1 : V6.cell? ⟨w.heap.size, 1, none⟩ = some (.int .i64 nx) := cell_of_row hh.base.bx rfl
  have x2 : V6.cell? ⟨w.heap.size, 2, none⟩ = some (.string sx) := cell_of_row hh.base.bx rfl
  have x3 : V6.cell? ⟨w.heap.size, 3, none⟩ = some (.string tx) := cell_of_row hh.base.bx rfl
  have x4 : V6.cell? ⟨w.heap.size, 4, none⟩ = some (.slice Ax Lx.length capx) := cell_of_row hh.base.bx rfl
  have y0 : V6.cell? ⟨(w.heap.size + 1), 0, none⟩ = some (.int .i8 ky) := cell_of_row hh.base.by_ rfl
  have y1 : V6.cell? ⟨(w.heap.size + 1), 1, none⟩ = some (.int .i64 ny) := cell_of_row hh.base.by_ rfl
  have y2 : V6.cell? ⟨(w.heap.size + 1), 2, none⟩ = some (.string sy) := cell_of_row hh.base.by_ rfl
  have y3 : V6.cell? ⟨(w.heap.size + 1), 3, none⟩ = some (.string ty) := cell_of_row hh.base.by_ rfl
  have y4 : V6.cell? ⟨(w.heap.size + 1), 4, none⟩ = some (.slice Ay Ly.length capy) := cell_of_row hh.base.by_ rfl
  have z0 : V6.cell? ⟨(w.heap.size + 2), 0, none⟩ = some (.int .i8 kz) := cell_of_row hh.bz rfl
  have z1 : V6.cell? ⟨(w.heap.size + 2), 1, none⟩ = some (.int .i64 nz) := cell_of_row hh.bz rfl
  have z2 : V6.cell? ⟨(w.heap.size + 2), 2, none⟩ = some (.string sz) := cell_of_row hh.bz rfl
  have z3 : V6.cell? ⟨(w.heap.size + 2), 3, none⟩ = some (.string tz) := cell_of_row hh.bz rfl
  have z4 : V6.cell? ⟨(w.heap.size + 2), 4, none⟩ = some (.slice Az Lz.length capz) := cell_of_row hh.bz rfl
  clear hh
  -- how they stand to each other
  obtain ⟨xV, xN⟩ := check_valid HCX.out
  obtain ⟨yV, yN⟩ := check_valid HCY.out
  obtain ⟨zV, zN⟩ := check_valid HCZ.out
  obtain ⟨p, hp⟩ : ∃ p, p = ordN x y := ⟨_, rfl⟩
  obtain ⟨q, hq⟩ : ∃ q, q = ordN y x := ⟨_, rfl⟩
  obtain ⟨b, hb⟩ : ∃ b, b = ordN y z := ⟨_, rfl⟩
  obtain ⟨a, ha⟩ : ∃ a, a = ordN x z := ⟨_, rfl⟩
  have C1 : Hid (∀ V, Below w.heap.size w V → Calls Tryd.prog 12 #[.agg #[(.int .i8 kx), (.int .i64 nx), (.string sx), (.string tx), (.slice Ax Lx.length capx)], .agg #[(.int .i8 ky), (.int .i64 ny), (.string sy), (.string ty), (.slice Ay Ly.length capy)]] V fun e w' => e = .returned (.int .i64 p) ∧ Below V.heap.size V w') := fun V h => by
    have := Compare_any x y _ _ V (HX.out V h) (HY.out V h) (HSP.out V h).1
    rwa [show compN x y = ordN x y by unfold compN; rw [if_pos ⟨HCX.out, HCY.out⟩], ← hp] at this
  have C2 : Hid (∀ V, Below w.heap.size w V → Calls Tryd.prog 12 #[.agg #[(.int .i8 ky), (.int .i64 ny), (.string sy), (.string ty), (.slice Ay Ly.length capy)], .agg #[(.int .i8 kx), (.int .i64 nx), (.string sx), (.string tx), (.slice Ax Lx.length capx)]] V fun e w' => e = .returned (.int .i64 q) ∧ Below V.heap.size V w') := fun V h => by
    have := Compare_any y x _ _ V (HY.out V h) (HX.out V h) (HSP.out V h).1
    rwa [show compN y x = ordN y x by unfold compN; rw [if_pos ⟨HCY.out, HCX.out⟩], ← hq] at this
  have C3 : Hid (∀ V, Below w.heap.size w V → Calls Tryd.prog 12 #[.agg #[(.int .i8 ky), (.int .i64 ny), (.string sy), (.string ty), (.slice Ay Ly.length capy)], .agg #[(.int .i8 kz), (.int .i64 nz), (.string sz), (.string tz), (.slice Az Lz.length capz)]] V fun e w' => e = .returned (.int .i64 b) ∧ Below V.heap.size V w') := fun V h => by
    have := Compare_any y z _ _ V (HY.out V h) (HZ.out V h) (HSP.out V h).1
    rwa [show compN y z = ordN y z by unfold compN; rw [if_pos ⟨HCY.out, HCZ.out⟩], ← hb] at this
  have C4 : Hid (∀ V, Below w.heap.size w V → Calls Tryd.prog 12 #[.agg #[(.int .i8 kx), (.int .i64 nx), (.string sx), (.string tx), (.slice Ax Lx.length capx)], .agg #[(.int .i8 kz), (.int .i64 nz), (.string sz), (.string tz), (.slice Az Lz.length capz)]] V fun e w' => e = .returned (.int .i64 a) ∧ Below V.heap.size V w') := fun V h => by
    have := Compare_any x z _ _ V (HX.out V h) (HZ.out V h) (HSP.out V h).1
    rwa [show compN x z = ordN x z by unfold compN; rw [if_pos ⟨HCX.out, HCZ.out⟩], ← ha] at this
  have hqp : q = -p := by rw [hq, hp]; exact ordN_neg x y
  have hpb : -1 ≤ p ∧ p ≤ 1 := by rw [hp]; exact ordN_bd x y
  have hbb : -1 ≤ b ∧ b ≤ 1 := by rw [hb]; exact ordN_bd y z
  have hab : -1 ≤ a ∧ a ≤ 1 := by rw [ha]; exact ordN_bd x z
  have hxy : p = 0 ↔ x = y := by rw [hp]; exact ⟨ordN_zero x y xV yV, fun h => by rw [h]; exact ordN_self _⟩
  have hle : p ≤ 0 → b ≤ 0 → a ≤ 0 := by
    intro h1 h2
    by_cases e1 : x = y
    · subst e1; rw [ha, ← hb]; exact h2
    · by_cases e2 : b = 0
      · have := ordN_zero y z yV zV (hb ▸ e2); subst this; rw [ha, ← hp]; exact h1
      · have h3 : p ≠ 0 := fun h => e1 (hxy.1 h)
        have := ordN_trans x y z xV yV zV (by rw [← hp]; omega) (by rw [← hb]; omega)
        omega
  have hge : 0 ≤ p → 0 ≤ b → 0 ≤ a := by
    intro h1 h2
    by_cases e1 : x = y
    · subst e1; rw [ha, ← hb]; exact h2
    · by_cases e2 : b = 0
      · have := ordN_zero y z yV zV (hb ▸ e2); subst this; rw [ha, ← hp]; exact h1
      · have h3 : p ≠ 0 := fun h => e1 (hxy.1 h)
        have r1 := ordN_neg x y
        have r2 := ordN_neg y z
        have r3 := ordN_neg x z
        have := ordN_trans z y x zV yV xV (by omega) (by omega)
        omega
  have HXY := Lib.hid hxy
  have HLE := Lib.hid hle
  have HGE := Lib.hid hge
  have HXV := Lib.hid xV
  have HXN := Lib.hid xN
  have HQP := Lib.hid hqp
  obtain ⟨hp1, hp2⟩ := hpb
  obtain ⟨hb1, hb2⟩ := hbb
  obtain ⟨ha1, ha2⟩ := hab
  have hq1 : -1 ≤ q := by omega
  have hq2 : q ≤ 1 := by omega
  clear xV xN yV yN zV zN hp hq hb ha hqp hxy hle hge
  go_wp2_with fail
  clear hcz1 x0 x1 x2 x3 x4 y0 y1 y2 y3 y4 z0 z1 z2 z3 z4
  have hS0 : Bx3 w V6.drew #[(.int .i8 kx), (.int .i64 nx), (.string sx), (.string tx), (.slice Ax Lx.length capx)] #[(.int .i8 ky), (.int .i64 ny), (.string sy), (.string ty), (.slice Ay Ly.length capy)] (w.heap.size + 2) #[(.int .i8 kz), (.int .i64 nz), (.string sz), (.string tz), (.slice Az Lz.length capz)] := H6.out.on ⟨rfl, rfl, rfl, Nat.le_refl _, fun _ _ => rfl⟩
  refine wp_region_held (S := fun V => Bx3 w V #[(.int .i8 kx), (.int .i64 nx), (.string sx), (.string tx), (.slice Ax Lx.length capx)] #[(.int .i8 ky), (.int .i64 ny), (.string sy), (.string ty), (.slice Ay Ly.length capy)] (w.heap.size + 2) #[(.int .i8 kz), (.int .i64 nz), (.string sz), (.string tz), (.slice Az Lz.length capz)]) (by kernel_rfl) ?_
  refine wpAnyH_take (i := 0) (oi := ⟨some 45, _, _, _, _, _⟩) (v := ?_) rfl (by kernel_rfl) (by kernel_rfl) (by kernel_rfl) (fun _ _ _ h => h) (Or.inl ⟨by kernel_rfl, ?_⟩) (by assumption) ?_; rotate_left; (intro w hSw; (try dsimp only at hSw); have z0 := cell_of_row (i := 0) hSw.base.bx rfl; have z1 := cell_of_row (i := 1) hSw.base.bx rfl; have z2 := cell_of_row (i := 2) hSw.base.bx rfl; have z3 := cell_of_row (i := 3) hSw.base.bx rfl; have z4 := cell_of_row (i := 4) hSw.base.bx rfl; have y0 := cell_of_row (i := 0) hSw.base.by_ rfl; have y1 := cell_of_row (i := 1) hSw.base.by_ rfl; have y2 := cell_of_row (i := 2) hSw.base.by_ rfl; have y3 := cell_of_row (i := 3) hSw.base.by_ rfl; have y4 := cell_of_row (i := 4) hSw.base.by_ rfl; have v0 := cell_of_row (i := 0) hSw.bz rfl; have v1 := cell_of_row (i := 1) hSw.bz rfl; have v2 := cell_of_row (i := 2) hSw.bz rfl; have v3 := cell_of_row (i := 3) hSw.bz rfl; have v4 := cell_of_row (i := 4) hSw.bz rfl; go_simp; first | done | with_reducible rfl); (try simp only [Act.put, List.setIfInBounds_toArray, List.set_cons_zero, List.set_cons_succ])
  refine wpAnyH_take (i := 1) (oi := ⟨some 46, _, _, _, _, _⟩) (v := ?_) rfl (by kernel_rfl) (by kernel_rfl) (by kernel_rfl) (fun _ _ _ h => h) (Or.inl ⟨by kernel_rfl, ?_⟩) (by assumption) ?_; rotate_left; (intro w hSw; (try dsimp only at hSw); have z0 := cell_of_row (i := 0) hSw.base.bx rfl; have z1 := cell_of_row (i := 1) hSw.base.bx rfl; have z2 := cell_of_row (i := 2) hSw.base.bx rfl; have z3 := cell_of_row (i := 3) hSw.base.bx rfl; have z4 := cell_of_row (i := 4) hSw.base.bx rfl; have y0 := cell_of_row (i := 0) hSw.base.by_ rfl; have y1 := cell_of_row (i := 1) hSw.base.by_ rfl; have y2 := cell_of_row (i := 2) hSw.base.by_ rfl; have y3 := cell_of_row (i := 3) hSw.base.by_ rfl; have y4 := cell_of_row (i := 4) hSw.base.by_ rfl; have v0 := cell_of_row (i := 0) hSw.bz rfl; have v1 := cell_of_row (i := 1) hSw.bz rfl; have v2 := cell_of_row (i := 2) hSw.bz rfl; have v3 := cell_of_row (i := 3) hSw.bz rfl; have v4 := cell_of_row (i := 4) hSw.bz rfl; go_simp; first | done | with_reducible rfl); (try simp only [Act.put, List.setIfInBounds_toArray, List.set_cons_zero, List.set_cons_succ])
  refine wpAnyH_take (i := 3) (oi := ⟨some 48, _, _, _, _, _⟩) (v := ?_) rfl (by kernel_rfl) (by kernel_rfl) (by kernel_rfl) (fun _ _ _ h => h) (Or.inl ⟨by kernel_rfl, ?_⟩) (by assumption) ?_; rotate_left; (intro w hSw; (try dsimp only at hSw); have z0 := cell_of_row (i := 0) hSw.base.bx rfl; have z1 := cell_of_row (i := 1) hSw.base.bx rfl; have z2 := cell_of_row (i := 2) hSw.base.bx rfl; have z3 := cell_of_row (i := 3) hSw.base.bx rfl; have z4 := cell_of_row (i := 4) hSw.base.bx rfl; have y0 := cell_of_row (i := 0) hSw.base.by_ rfl; have y1 := cell_of_row (i := 1) hSw.base.by_ rfl; have y2 := cell_of_row (i := 2) hSw.base.by_ rfl; have y3 := cell_of_row (i := 3) hSw.base.by_ rfl; have y4 := cell_of_row (i := 4) hSw.base.by_ rfl; have v0 := cell_of_row (i := 0) hSw.bz rfl; have v1 := cell_of_row (i := 1) hSw.bz rfl; have v2 := cell_of_row (i := 2) hSw.bz rfl; have v3 := cell_of_row (i := 3) hSw.bz rfl; have v4 := cell_of_row (i := 4) hSw.bz rfl; go_simp; first | done | with_reducible rfl); (try simp only [Act.put, List.setIfInBounds_toArray, List.set_cons_zero, List.set_cons_succ])
  refine wpAnyH_take (i := 4) (oi := ⟨some 49, _, _, _, _, _⟩) (v := ?_) rfl (by kernel_rfl) (by kernel_rfl) (by kernel_rfl) (fun _ _ _ h => h) (Or.inl ⟨by kernel_rfl, ?_⟩) (by assumption) ?_; rotate_left; (intro w hSw; (try dsimp only at hSw); have z0 := cell_of_row (i := 0) hSw.base.bx rfl; have z1 := cell_of_row (i := 1) hSw.base.bx rfl; have z2 := cell_of_row (i := 2) hSw.base.bx rfl; have z3 := cell_of_row (i := 3) hSw.base.bx rfl; have z4 := cell_of_row (i := 4) hSw.base.bx rfl; have y0 := cell_of_row (i := 0) hSw.base.by_ rfl; have y1 := cell_of_row (i := 1) hSw.base.by_ rfl; have y2 := cell_of_row (i := 2) hSw.base.by_ rfl; have y3 := cell_of_row (i := 3) hSw.base.by_ rfl; have y4 := cell_of_row (i := 4) hSw.base.by_ rfl; have v0 := cell_of_row (i := 0) hSw.bz rfl; have v1 := cell_of_row (i := 1) hSw.bz rfl; have v2 := cell_of_row (i := 2) hSw.bz rfl; have v3 := cell_of_row (i := 3) hSw.bz rfl; have v4 := cell_of_row (i := 4) hSw.bz rfl; go_simp; first | done | with_reducible rfl); (try simp only [Act.put, List.setIfInBounds_toArray, List.set_cons_zero, List.set_cons_succ])
  refine wpAnyH_take (i := 6) (oi := ⟨some 51, _, _, _, _, _⟩) (v := ?_) rfl (by kernel_rfl) (by kernel_rfl) (by kernel_rfl) (fun _ _ _ h => h) (Or.inl ⟨by kernel_rfl, ?_⟩) (by assumption) ?_; rotate_left; (intro w hSw; (try dsimp only at hSw); have z0 := cell_of_row (i := 0) hSw.base.bx rfl; have z1 := cell_of_row (i := 1) hSw.base.bx rfl; have z2 := cell_of_row (i := 2) hSw.base.bx rfl; have z3 := cell_of_row (i := 3) hSw.base.bx rfl; have z4 := cell_of_row (i := 4) hSw.base.bx rfl; have y0 := cell_of_row (i := 0) hSw.base.by_ rfl; have y1 := cell_of_row (i := 1) hSw.base.by_ rfl; have y2 := cell_of_row (i := 2) hSw.base.by_ rfl; have y3 := cell_of_row (i := 3) hSw.base.by_ rfl; have y4 := cell_of_row (i := 4) hSw.base.by_ rfl; have v0 := cell_of_row (i := 0) hSw.bz rfl; have v1 := cell_of_row (i := 1) hSw.bz rfl; have v2 := cell_of_row (i := 2) hSw.bz rfl; have v3 := cell_of_row (i := 3) hSw.bz rfl; have v4 := cell_of_row (i := 4) hSw.bz rfl; go_simp; first | done | with_reducible rfl); (try simp only [Act.put, List.setIfInBounds_toArray, List.set_cons_zero, List.set_cons_succ])
  refine wpAnyH_take (i := 7) (oi := ⟨some 52, _, _, _, _, _⟩) (v := ?_) rfl (by kernel_rfl) (by kernel_rfl) (by kernel_rfl) (fun _ _ _ h => h) (Or.inl ⟨by kernel_rfl, ?_⟩) (by assumption) ?_; rotate_left; (intro w hSw; (try dsimp only at hSw); have z0 := cell_of_row (i := 0) hSw.base.bx rfl; have z1 := cell_of_row (i := 1) hSw.base.bx rfl; have z2 := cell_of_row (i := 2) hSw.base.bx rfl; have z3 := cell_of_row (i := 3) hSw.base.bx rfl; have z4 := cell_of_row (i := 4) hSw.base.bx rfl; have y0 := cell_of_row (i := 0) hSw.base.by_ rfl; have y1 := cell_of_row (i := 1) hSw.base.by_ rfl; have y2 := cell_of_row (i := 2) hSw.base.by_ rfl; have y3 := cell_of_row (i := 3) hSw.base.by_ rfl; have y4 := cell_of_row (i := 4) hSw.base.by_ rfl; have v0 := cell_of_row (i := 0) hSw.bz rfl; have v1 := cell_of_row (i := 1) hSw.bz rfl; have v2 := cell_of_row (i := 2) hSw.bz rfl; have v3 := cell_of_row (i := 3) hSw.bz rfl; have v4 := cell_of_row (i := 4) hSw.bz rfl; go_simp; first | done | with_reducible rfl); (try simp only [Act.put, List.setIfInBounds_toArray, List.set_cons_zero, List.set_cons_succ])
  refine wpAnyH_take (i := 9) (oi := ⟨some 54, _, _, _, _, _⟩) (v := ?_) rfl (by kernel_rfl) (by kernel_rfl) (by kernel_rfl) (fun _ _ _ h => h) (Or.inl ⟨by kernel_rfl, ?_⟩) (by assumption) ?_; rotate_left; (intro w hSw; (try dsimp only at hSw); have z0 := cell_of_row (i := 0) hSw.base.bx rfl; have z1 := cell_of_row (i := 1) hSw.base.bx rfl; have z2 := cell_of_row (i := 2) hSw.base.bx rfl; have z3 := cell_of_row (i := 3) hSw.base.bx rfl; have z4 := cell_of_row (i := 4) hSw.base.bx rfl; have y0 := cell_of_row (i := 0) hSw.base.by_ rfl; have y1 := cell_of_row (i := 1) hSw.base.by_ rfl; have y2 := cell_of_row (i := 2) hSw.base.by_ rfl; have y3 := cell_of_row (i := 3) hSw.base.by_ rfl; have y4 := cell_of_row (i := 4) hSw.base.by_ rfl; have v0 := cell_of_row (i := 0) hSw.bz rfl; have v1 := cell_of_row (i := 1) hSw.bz rfl; have v2 := cell_of_row (i := 2) hSw.bz rfl; have v3 := cell_of_row (i := 3) hSw.bz rfl; have v4 := cell_of_row (i := 4) hSw.bz rfl; go_simp; first | done | with_reducible rfl); (try simp only [Act.put, List.setIfInBounds_toArray, List.set_cons_zero, List.set_cons_succ])
  refine wpAnyH_take (i := 10) (oi := ⟨some 55, _, _, _, _, _⟩) (v := ?_) rfl (by kernel_rfl) (by kernel_rfl) (by kernel_rfl) (fun _ _ _ h => h) (Or.inl ⟨by kernel_rfl, ?_⟩) (by assumption) ?_; rotate_left; (intro w hSw; (try dsimp only at hSw); have z0 := cell_of_row (i := 0) hSw.base.bx rfl; have z1 := cell_of_row (i := 1) hSw.base.bx rfl; have z2 := cell_of_row (i := 2) hSw.base.bx rfl; have z3 := cell_of_row (i := 3) hSw.base.bx rfl; have z4 := cell_of_row (i := 4) hSw.base.bx rfl; have y0 := cell_of_row (i := 0) hSw.base.by_ rfl; have y1 := cell_of_row (i := 1) hSw.base.by_ rfl; have y2 := cell_of_row (i := 2) hSw.base.by_ rfl; have y3 := cell_of_row (i := 3) hSw.base.by_ rfl; have y4 := cell_of_row (i := 4) hSw.base.by_ rfl; have v0 := cell_of_row (i := 0) hSw.bz rfl; have v1 := cell_of_row (i := 1) hSw.bz rfl; have v2 := cell_of_row (i := 2) hSw.bz rfl; have v3 := cell_of_row (i := 3) hSw.bz rfl; have v4 := cell_of_row (i := 4) hSw.bz rfl; go_simp; first | done | with_reducible rfl); (try simp only [Act.put, List.setIfInBounds_toArray, List.set_cons_zero, List.set_cons_succ])
  refine wpAnyH_ready (rs := [2]) (by kernel_rfl) (by simp) ?_
  refine AllReadyH.cons (o := ⟨some 47, _, _, _, _, _⟩) rfl (fun K hK => ?_) AllReadyH.nil
  rw [if_pos (by rfl)]
  go_simp
  refine (C1.out _ hS0.base.below).mono ?_
  rintro e hS1V ⟨rfl, bb⟩
  have hS1 := hS0.on bb
  clear bb
  refine hK.out _ _ hS1 (fun hSn => ?_)
  clear hK K; (try simp only [Act.put, List.setIfInBounds_toArray, List.set_cons_zero, List.set_cons_succ])
  refine wpAnyH_ready (rs := [5]) (by kernel_rfl) (by simp) ?_
  refine AllReadyH.cons (o := ⟨some 50, _, _, _, _, _⟩) rfl (fun K hK => ?_) AllReadyH.nil
  rw [if_pos (by rfl)]
  go_simp
  refine (C2.out _ hS1.base.below).mono ?_
  rintro e hS2V ⟨rfl, bb⟩
  have hS2 := hS1.on bb
  clear bb
  refine hK.out _ _ hS2 (fun hSn => ?_)
  clear hK K; (try simp only [Act.put, List.setIfInBounds_toArray, List.set_cons_zero, List.set_cons_succ])
  refine wpAnyH_ready (rs := [8]) (by kernel_rfl) (by simp) ?_
  refine AllReadyH.cons (o := ⟨some 53, _, _, _, _, _⟩) rfl (fun K hK => ?_) AllReadyH.nil
  rw [if_pos (by rfl)]
  go_simp
  refine (C3.out _ hS2.base.below).mono ?_
  rintro e hS3V ⟨rfl, bb⟩
  have hS3 := hS2.on bb
  clear bb
  refine hK.out _ _ hS3 (fun hSn => ?_)
  clear hK K; (try simp only [Act.put, List.setIfInBounds_toArray, List.set_cons_zero, List.set_cons_succ])
  refine wpAnyH_ready (rs := [11]) (by kernel_rfl) (by simp) ?_
  refine AllReadyH.cons (o := ⟨some 56, _, _, _, _, _⟩) rfl (fun K hK => ?_) AllReadyH.nil
  rw [if_pos (by rfl)]
  go_simp
  refine (C4.out _ hS3.base.below).mono ?_
  rintro e hS4V ⟨rfl, bb⟩
  have hS4 := hS3.on bb
  clear bb
  refine hK.out _ _ hS4 (fun hSn => ?_)
  clear hK K; (try simp only [Act.put, List.setIfInBounds_toArray, List.set_cons_zero, List.set_cons_succ])
  refine wpAnyH_take (i := 12) (oi := ⟨some 7, _, _, _, _, _⟩) (v := ?_) rfl (by kernel_rfl) (by kernel_rfl) (by kernel_rfl) (fun _ _ _ h => h) (Or.inl ⟨by kernel_rfl, ?_⟩) (by assumption) ?_; rotate_left; (intro w hSw; (try dsimp only at hSw); go_simp; first | done | with_reducible rfl); (try simp only [Act.put, List.setIfInBounds_toArray, List.set_cons_zero, List.set_cons_succ])
  refine wpAnyH_take (i := 13) (oi := ⟨some 8, _, _, _, _, _⟩) (v := ?_) rfl (by kernel_rfl) (by kernel_rfl) (by kernel_rfl) (fun _ _ _ h => h) (Or.inl ⟨by kernel_rfl, ?_⟩) (by assumption) ?_; rotate_left; (intro w hSw; (try dsimp only at hSw); go_simp; first | done | with_reducible rfl); (try simp only [Act.put, List.setIfInBounds_toArray, List.set_cons_zero, List.set_cons_succ])
  refine wpAnyH_take (i := 14) (oi := ⟨some 9, _, _, _, _, _⟩) (v := ?_) rfl (by kernel_rfl) (by kernel_rfl) (by kernel_rfl) (fun _ _ _ h => h) (Or.inl ⟨by kernel_rfl, ?_⟩) (by assumption) ?_; rotate_left; (intro w hSw; (try dsimp only at hSw); go_simp; first | done | with_reducible rfl); (try simp only [Act.put, List.setIfInBounds_toArray, List.set_cons_zero, List.set_cons_succ])
  refine wpAnyH_take (i := 15) (oi := ⟨some 10, _, _, _, _, _⟩) (v := ?_) rfl (by kernel_rfl) (by kernel_rfl) (by kernel_rfl) (fun _ _ _ h => h) (Or.inl ⟨by kernel_rfl, ?_⟩) (by assumption) ?_; rotate_left; (intro w hSw; (try dsimp only at hSw); go_simp; first | done | with_reducible rfl); (try simp only [Act.put, List.setIfInBounds_toArray, List.set_cons_zero, List.set_cons_succ])
  refine wpAnyH_done (by kernel_rfl) ?_ _
  have H7 := Lib.hid hS4
  have hh := hS4
  clear hS0 hS1 hS2 hS3 hS4
  have x0 : hS4V.cell? ⟨w.heap.size, 0, none⟩ = some (.int .i8 kx) := cell_of_row hh.base.bx rfl
  have x1 : hS4V.cell? ⟨w.heap.size, 1, none⟩ = some (.int .i64 nx) := cell_of_row hh.base.bx rfl
  have x2 : hS4V.cell? ⟨w.heap.size, 2, none⟩ = some (.string sx) := cell_of_row hh.base.bx rfl
  have x3 : hS4V.cell? ⟨w.heap.size, 3, none⟩ = some (.string tx) := cell_of_row hh.base.bx rfl
  have x4 : hS4V.cell? ⟨w.heap.size, 4, none⟩ = some (.slice Ax Lx.length capx) := cell_of_row hh.base.bx rfl
  have y0 : hS4V.cell? ⟨(w.heap.size + 1), 0, none⟩ = some (.int .i8 ky) := cell_of_row hh.base.by_ rfl
  have y1 : hS4V.cell? ⟨(w.heap.size + 1), 1, none⟩ = some (.int .i64 ny) := cell_of_row hh.base.by_ rfl
  have y2 : hS4V.cell? ⟨(w.heap.size + 1), 2, none⟩ = some (.string sy) := cell_of_row hh.base.by_ rfl
  have y3 : hS4V.cell? ⟨(w.heap.size + 1), 3, none⟩ = some (.string ty) := cell_of_row hh.base.by_ rfl
  have y4 : hS4V.cell? ⟨(w.heap.size + 1), 4, none⟩ = some (.slice Ay Ly.length capy) := cell_of_row hh.base.by_ rfl
  clear hh C1 C2 C3 C4
  go_upto_region 4 with fail
  go_cut [92] (fun s92 wx => s92 = .bool false ∧ Bx3 w wx #[(.int .i8 kx), (.int .i64 nx), (.string sx), (.string tx), (.slice Ax Lx.length capx)] #[(.int .i8 ky), (.int .i64 ny), (.string sy), (.string ty), (.slice Ay Ly.length capy)] (w.heap.size + 2) #[(.int .i8 kz), (.int .i64 nz), (.string sz), (.string tz), (.slice Az Lz.length capz)])
  case first =>
    have hn0 : (p != -q) = false := by rw [HQP.out, Int.neg_neg]; simp
    have SXY := Lib.hid (Same_any x y _ _ hS4V (HX.out _ H7.out.base.below) (HY.out _ H7.out.base.below))
    have hcase : (p < 0 ∧ b ≤ 0) ∨ (p < 0 ∧ 0 < b) ∨ (0 < p ∧ 0 ≤ b) ∨ (0 < p ∧ b < 0) ∨ (p = 0 ∧ b < 0) ∨ (p = 0 ∧ b = 0) ∨ (p = 0 ∧ 0 < b) := by omega
    rcases hcase with hc | hc | hc | hc | hc | hc | hc
    · obtain ⟨c1, c2⟩ := hc
      have l1 := HLE.out (by omega) (by omega)
      have d1 : decide (p ≤ 0) = true := decide_eq_true (by omega)
      have d2 : decide (b ≤ 0) = true := decide_eq_true (by omega)
      have d3 : decide (0 < a) = false := decide_eq_false (by omega)
      have d4 : decide (0 ≤ p) = false := decide_eq_false (by omega)
      have d7 : (p == 0) = false := by rw [beq_eq_false_iff_ne]; omega
      have hsb0 : ∀ sb : Bool, (sb = true ↔ x = y) → sb = false := fun sb h => by
        rw [← Bool.not_eq_true]; intro e; have := HXY.out.2 (h.1 e); omega
      have HSB := Lib.hid hsb0
      clear hsb0 c1 c2 l1
      go_wp2_with fail
      refine SXY.out.mono ?_
      rintro e V9 ⟨sb, rfl, hsb, b9⟩
      obtain rfl := HSB.out sb hsb
      have H9 := Lib.hid (H7.out.on b9)
      clear hsb b9
      go_wp2_with fail
      go_meet
      exact ⟨rfl, H9.out⟩
    · obtain ⟨c1, c2⟩ := hc
      have d1 : decide (p ≤ 0) = true := decide_eq_true (by omega)
      have d2 : decide (b ≤ 0) = false := decide_eq_false (by omega)
      have d4 : decide (0 ≤ p) = false := decide_eq_false (by omega)
      have d7 : (p == 0) = false := by rw [beq_eq_false_iff_ne]; omega
      have hsb0 : ∀ sb : Bool, (sb = true ↔ x = y) → sb = false := fun sb h => by
        rw [← Bool.not_eq_true]; intro e; have := HXY.out.2 (h.1 e); omega
      have HSB := Lib.hid hsb0
      clear hsb0 c1 c2
      go_wp2_with fail
      refine SXY.out.mono ?_
      rintro e V9 ⟨sb, rfl, hsb, b9⟩
      obtain rfl := HSB.out sb hsb
      have H9 := Lib.hid (H7.out.on b9)
      clear hsb b9
      go_wp2_with fail
      go_meet
      exact ⟨rfl, H9.out⟩
    · obtain ⟨c1, c2⟩ := hc
      have l2 := HGE.out (by omega) (by omega)
      have d1 : decide (p ≤ 0) = false := decide_eq_false (by omega)
      have d4 : decide (0 ≤ p) = true := decide_eq_true (by omega)
      have d5 : decide (0 ≤ b) = true := decide_eq_true (by omega)
      have d6 : decide (a < 0) = false := decide_eq_false (by omega)
      have d7 : (p == 0) = false := by rw [beq_eq_false_iff_ne]; omega
      have hsb0 : ∀ sb : Bool, (sb = true ↔ x = y) → sb = false := fun sb h => by
        rw [← Bool.not_eq_true]; intro e; have := HXY.out.2 (h.1 e); omega
      have HSB := Lib.hid hsb0
      clear hsb0 c1 c2 l2
      go_wp2_with fail
      refine SXY.out.mono ?_
      rintro e V9 ⟨sb, rfl, hsb, b9⟩
      obtain rfl := HSB.out sb hsb
      have H9 := Lib.hid (H7.out.on b9)
      clear hsb b9
      go_wp2_with fail
      go_meet
      exact ⟨rfl, H9.out⟩
    · obtain ⟨c1, c2⟩ := hc
      have d1 : decide (p ≤ 0) = false := decide_eq_false (by omega)
      have d4 : decide (0 ≤ p) = true := decide_eq_true (by omega)
      have d5 : decide (0 ≤ b) = false := decide_eq_false (by omega)
      have d7 : (p == 0) = false := by rw [beq_eq_false_iff_ne]; omega
      have hsb0 : ∀ sb : Bool, (sb = true ↔ x = y) → sb = false := fun sb h => by
        rw [← Bool.not_eq_true]; intro e; have := HXY.out.2 (h.1 e); omega
      have HSB := Lib.hid hsb0
      clear hsb0 c1 c2
      go_wp2_with fail
      refine SXY.out.mono ?_
      rintro e V9 ⟨sb, rfl, hsb, b9⟩
      obtain rfl := HSB.out sb hsb
      have H9 := Lib.hid (H7.out.on b9)
      clear hsb b9
      go_wp2_with fail
      go_meet
      exact ⟨rfl, H9.out⟩
    · obtain ⟨c1, c2⟩ := hc
      have l1 := HLE.out (by omega) (by omega)
      have d1 : decide (p ≤ 0) = true := decide_eq_true (by omega)
      have d2 : decide (b ≤ 0) = true := decide_eq_true (by omega)
      have d3 : decide (0 < a) = false := decide_eq_false (by omega)
      have d4 : decide (0 ≤ p) = true := decide_eq_true (by omega)
      have d5 : decide (0 ≤ b) = false := decide_eq_false (by omega)
      have d7 : (p == 0) = true := by rw [beq_iff_eq]; omega
      have hsb0 : ∀ sb : Bool, (sb = true ↔ x = y) → sb = true := fun sb h => h.2 (HXY.out.1 (by omega))
      have HSB := Lib.hid hsb0
      clear hsb0 c1 c2 l1
      go_wp2_with fail
      refine SXY.out.mono ?_
      rintro e V9 ⟨sb, rfl, hsb, b9⟩
      obtain rfl := HSB.out sb hsb
      have H9 := Lib.hid (H7.out.on b9)
      clear hsb b9
      go_wp2_with fail
      go_meet
      exact ⟨rfl, H9.out⟩
    · obtain ⟨c1, c2⟩ := hc
      have l1 := HLE.out (by omega) (by omega)
      have l2 := HGE.out (by omega) (by omega)
      have d1 : decide (p ≤ 0) = true := decide_eq_true (by omega)
      have d2 : decide (b ≤ 0) = true := decide_eq_true (by omega)
      have d3 : decide (0 < a) = false := decide_eq_false (by omega)
      have d4 : decide (0 ≤ p) = true := decide_eq_true (by omega)
      have d5 : decide (0 ≤ b) = true := decide_eq_true (by omega)
      have d6 : decide (a < 0) = false := decide_eq_false (by omega)
      have d7 : (p == 0) = true := by rw [beq_iff_eq]; omega
      have hsb0 : ∀ sb : Bool, (sb = true ↔ x = y) → sb = true := fun sb h => h.2 (HXY.out.1 (by omega))
      have HSB := Lib.hid hsb0
      clear hsb0 c1 c2 l1 l2
      go_wp2_with fail
      refine SXY.out.mono ?_
      rintro e V9 ⟨sb, rfl, hsb, b9⟩
      obtain rfl := HSB.out sb hsb
      have H9 := Lib.hid (H7.out.on b9)
      clear hsb b9
      go_wp2_with fail
      go_meet
      exact ⟨rfl, H9.out⟩
    · obtain ⟨c1, c2⟩ := hc
      have l2 := HGE.out (by omega) (by omega)
      have d1 : decide (p ≤ 0) = true := decide_eq_true (by omega)
      have d2 : decide (b ≤ 0) = false := decide_eq_false (by omega)
      have d4 : decide (0 ≤ p) = true := decide_eq_true (by omega)
      have d5 : decide (0 ≤ b) = true := decide_eq_true (by omega)
      have d6 : decide (a < 0) = false := decide_eq_false (by omega)
      have d7 : (p == 0) = true := by rw [beq_iff_eq]; omega
      have hsb0 : ∀ sb : Bool, (sb = true ↔ x = y) → sb = true := fun sb h => h.2 (HXY.out.1 (by omega))
      have HSB := Lib.hid hsb0
      clear hsb0 c1 c2 l2
      go_wp2_with fail
      refine SXY.out.mono ?_
      rintro e V9 ⟨sb, rfl, hsb, b9⟩
      obtain rfl := HSB.out sb hsb
      have H9 := Lib.hid (H7.out.on b9)
      clear hsb b9
      go_wp2_with fail
      go_meet
      exact ⟨rfl, H9.out⟩
  case rest =>
    obtain ⟨rfl, h8⟩ := hcut
    have H8 := Lib.hid h8
    obtain ⟨T, hT⟩ : ∃ T : ByteArray, T = ⟨(txt x).toArray⟩ := ⟨_, rfl⟩
    have hTs : T.size = (txt x).length := by rw [hT]; show (txt x).toArray.size = _; simp
    have hTb : T.size ≤ 1099511627776 := by
      have := (txt_len x HXV.out).1; have := HXN.out
      rw [hTs]; show x.tx.1.length ≤ _; omega
    have TX : Hid (∀ V, Below w.heap.size w V → Calls Tryd.prog 14 #[.agg #[(.int .i8 kx), (.int .i64 nx), (.string sx), (.string tx), (.slice Ax Lx.length capx)]] V fun e w' => e = .returned (.string T) ∧ Below V.heap.size V w') := fun V h => by
      have := Text_any x _ V (HX.out V h) (HSP.out V h).1 (HSP.out V h).2
      rwa [show textN x = txt x by unfold textN; rw [if_pos HCX.out], ← hT] at this
    have RD : Hid (∀ V, Below w.heap.size w V → Calls Tryd.prog 15 #[.string T] V fun e w' => ∃ tv, e = .returned (.tuple #[tv, .int .i64 T.size, .int .i64 0]) ∧ TmAt (· < w'.heap.size) w' x tv ∧ Below V.heap.size V w') := fun V h =>
      (Read_ok x HXV.out HXN.out T hTb (r := []) (by rw [hT]; simp) good_nil V (HSP.out V h).1 (HSP.out V h).2).mono fun e w' ⟨tv, he, ht, hb⟩ => ⟨tv, by rw [he, hTs], ht.mono (fun b hb => hb.2), hb⟩
    clear hT hTs
    have hh := h8
    have x0 : wc.cell? ⟨w.heap.size, 0, none⟩ = some (.int .i8 kx) := cell_of_row hh.base.bx rfl
    have x1 : wc.cell? ⟨w.heap.size, 1, none⟩ = some (.int .i64 nx) := cell_of_row hh.base.bx rfl
    have x2 : wc.cell? ⟨w.heap.size, 2, none⟩ = some (.string sx) := cell_of_row hh.base.bx rfl
    have x3 : wc.cell? ⟨w.heap.size, 3, none⟩ = some (.string tx) := cell_of_row hh.base.bx rfl
    have x4 : wc.cell? ⟨w.heap.size, 4, none⟩ = some (.slice Ax Lx.length capx) := cell_of_row hh.base.bx rfl
    clear hh h8
    go_wp2_with fail
    refine (TX.out _ H8.out.base.below).mono ?_
    rintro e V9 ⟨rfl, b9⟩
    have H9 := Lib.hid (H8.out.on b9)
    clear b9 x0 x1 x2 x3 x4
    go_wp2_with fail
    refine (RD.out _ H9.out.base.below).mono ?_
    rintro e V10 ⟨rv, rfl, hR, b10⟩
    obtain ⟨kr, nr, sr, tr, Lr, Ar, capr, er, rfl⟩ : ∃ k' n' s' t' L' A' cap', x = Tm.mk k' n' s' t' L' ∧ rv = .agg #[.int .i8 k', .int .i64 n', .string s', .string t', .slice A' L'.length cap'] := by
      cases hR; exact ⟨_, _, _, _, _, _, _, rfl, rfl⟩
    clear er
    obtain ⟨W10, hW10⟩ : ∃ W10, W10 = V10.alloc (.cells #[(.int .i8 kr), (.int .i64 nr), (.string sr), (.string tr), (.slice Ar Lr.length capr)] 25) := ⟨_, rfl⟩
    have bb : Below V10.heap.size V10 W10 := by rw [hW10]; exact (Below.refl _ _).alloc (Nat.le_refl _) _
    have gg : W10.heap[V10.heap.size]? = some (.cells #[(.int .i8 kr), (.int .i64 nr), (.string sr), (.string tr), (.slice Ar Lr.length capr)] 25 (0, 0)) := by rw [hW10]; exact block_alloc _ _
    have hh := (H9.out.on b10).on bb
    have H10 := Lib.hid hh
    have HTR := Lib.hid (hR.later bb)
    have r0 : W10.cell? ⟨V10.heap.size, 0, none⟩ = some (.int .i8 kr) := cell_of_row gg rfl
    have r1 : W10.cell? ⟨V10.heap.size, 1, none⟩ = some (.int .i64 nr) := cell_of_row gg rfl
    have r2 : W10.cell? ⟨V10.heap.size, 2, none⟩ = some (.string sr) := cell_of_row gg rfl
    have r3 : W10.cell? ⟨V10.heap.size, 3, none⟩ = some (.string tr) := cell_of_row gg rfl
    have r4 : W10.cell? ⟨V10.heap.size, 4, none⟩ = some (.slice Ar Lr.length capr) := cell_of_row gg rfl
    have x0 : W10.cell? ⟨w.heap.size, 0, none⟩ = some (.int .i8 kx) := cell_of_row hh.base.bx rfl
    have x1 : W10.cell? ⟨w.heap.size, 1, none⟩ = some (.int .i64 nx) := cell_of_row hh.base.bx rfl
    have x2 : W10.cell? ⟨w.heap.size, 2, none⟩ = some (.string sx) := cell_of_row hh.base.bx rfl
    have x3 : W10.cell? ⟨w.heap.size, 3, none⟩ = some (.string tx) := cell_of_row hh.base.bx rfl
    have x4 : W10.cell? ⟨w.heap.size, 4, none⟩ = some (.slice Ax Lx.length capx) := cell_of_row hh.base.bx rfl
    clear hR b10 bb gg hh hTb
    subst hW10
    go_wp2_with fail
    refine (Same_yes x _ _ _ HTR.out (HX.out _ H10.out.base.below)).mono ?_
    rintro e V11 ⟨rfl, b11⟩
    have hh := H10.out.on b11
    have H11 := Lib.hid hh
    clear x0 x1 x2 x3 x4 r0 r1 r2 r3 r4 b11
    have x0 : V11.cell? ⟨w.heap.size, 0, none⟩ = some (.int .i8 kx) := cell_of_row hh.base.bx rfl
    have x1 : V11.cell? ⟨w.heap.size, 1, none⟩ = some (.int .i64 nx) := cell_of_row hh.base.bx rfl
    have x2 : V11.cell? ⟨w.heap.size, 2, none⟩ = some (.string sx) := cell_of_row hh.base.bx rfl
    have x3 : V11.cell? ⟨w.heap.size, 3, none⟩ = some (.string tx) := cell_of_row hh.base.bx rfl
    have x4 : V11.cell? ⟨w.heap.size, 4, none⟩ = some (.slice Ax Lx.length capx) := cell_of_row hh.base.bx rfl
    clear hh
    go_wp2_with fail
    refine (List_ok x _ _ (HX.out _ H11.out.base.below) HXV.out HXN.out (HSP.out _ H11.out.base.below).1).mono ?_
    rintro e V12 ⟨hs, z', hch, hz7, b12, hcase⟩
    have H12 := Lib.hid (H11.out.on b12)
    have HCH := Lib.hid hch
    have HZ7 := Lib.hid hz7
    clear hch hz7 b12 x0 x1 x2 x3 x4
    have PRO : Hid (∀ V, Below w.heap.size w V → Calls Tryd.prog 18 #[.agg #[(.int .i8 kx), (.int .i64 nx), (.string sx), (.string tx), (.slice Ax Lx.length capx)]] V fun e w' => e = .returned (.bool (z'.k == 6)) ∧ Below V.heap.size V w') := fun V h =>
      (proper_ok x _ V (HX.out V h) HXV.out).mono fun e w' ⟨hs2, z2, h1, h2, h3, h4⟩ => ⟨by rw [h3, (chain_one HXV.out h1 HCH.out h2 HZ7.out).2], h4⟩
    rcases hcase with ⟨h6, A, cap, rfl, hRow⟩ | ⟨h6, rfl⟩
    · have hx : x = rollT hs nilT := by rw [← nil_shape (HCH.out.valid HXV.out).1 h6]; exact chain_roll HXV.out HCH.out
      have hxn := HXN.out
      have hll := HCH.out.nodes
      have hfit := fit_roll hs (HCH.out.valid HXV.out).2 (by rw [← hx]; exact hxn)
      have FL : Hid (Calls Tryd.prog 17 #[.slice A hs.length cap] V12 fun e w' => ∃ v, e = .returned (.tuple #[v, .int .i64 0]) ∧ TmAt (· < w'.heap.size) w' x v ∧ Below V12.heap.size V12 w') := by
        rw [hx]
        exact FromList_ok hs A cap V12 hRow (HSP.out _ H12.out.base.below).1 hfit (by omega)
      have hk67 : kx = 6 ∨ kx = 7 := by
        by_cases h : kx = 7
        · exact .inr h
        · left
          have e1 := (chain_one HXV.out HCH.out .nil HZ7.out (by rw [HEX.out]; exact h)).2
          rw [e1, HEX.out] at h6; exact h6
      have h61 : (z'.k == 6) = true := by rw [beq_iff_eq]; exact h6
      have H61 := Lib.hid h61
      clear hx hxn hll hfit hRow h6 h61
      go_wp2_with fail
      refine FL.out.mono ?_
      rintro e V13 ⟨fv, rfl, hF, b13⟩
      obtain ⟨kf, nf, sf, tf, Lf, Af, capf, ef, rfl⟩ : ∃ k' n' s' t' L' A' cap', x = Tm.mk k' n' s' t' L' ∧ fv = .agg #[.int .i8 k', .int .i64 n', .string s', .string t', .slice A' L'.length cap'] := by
        cases hF; exact ⟨_, _, _, _, _, _, _, rfl, rfl⟩
      clear ef
      obtain ⟨W13, hW13⟩ : ∃ W13, W13 = V13.alloc (.cells #[(.int .i8 kf), (.int .i64 nf), (.string sf), (.string tf), (.slice Af Lf.length capf)] 25) := ⟨_, rfl⟩
      have bb : Below V13.heap.size V13 W13 := by rw [hW13]; exact (Below.refl _ _).alloc (Nat.le_refl _) _
      have gg : W13.heap[V13.heap.size]? = some (.cells #[(.int .i8 kf), (.int .i64 nf), (.string sf), (.string tf), (.slice Af Lf.length capf)] 25 (0, 0)) := by rw [hW13]; exact block_alloc _ _
      have hh := (H12.out.on b13).on bb
      have H13 := Lib.hid hh
      have HTF := Lib.hid (hF.later bb)
      have r0 : W13.cell? ⟨V13.heap.size, 0, none⟩ = some (.int .i8 kf) := cell_of_row gg rfl
      have r1 : W13.cell? ⟨V13.heap.size, 1, none⟩ = some (.int .i64 nf) := cell_of_row gg rfl
      have r2 : W13.cell? ⟨V13.heap.size, 2, none⟩ = some (.string sf) := cell_of_row gg rfl
      have r3 : W13.cell? ⟨V13.heap.size, 3, none⟩ = some (.string tf) := cell_of_row gg rfl
      have r4 : W13.cell? ⟨V13.heap.size, 4, none⟩ = some (.slice Af Lf.length capf) := cell_of_row gg rfl
      have x0 : W13.cell? ⟨w.heap.size, 0, none⟩ = some (.int .i8 kx) := cell_of_row hh.base.bx rfl
      have x1 : W13.cell? ⟨w.heap.size, 1, none⟩ = some (.int .i64 nx) := cell_of_row hh.base.bx rfl
      have x2 : W13.cell? ⟨w.heap.size, 2, none⟩ = some (.string sx) := cell_of_row hh.base.bx rfl
      have x3 : W13.cell? ⟨w.heap.size, 3, none⟩ = some (.string tx) := cell_of_row hh.base.bx rfl
      have x4 : W13.cell? ⟨w.heap.size, 4, none⟩ = some (.slice Ax Lx.length capx) := cell_of_row hh.base.bx rfl
      clear hF b13 bb gg hh
      subst hW13
      go_wp2_with fail
      refine (Same_yes x _ _ _ HTF.out (HX.out _ H13.out.base.below)).mono ?_
      rintro e V14 ⟨rfl, b14⟩
      have hh := H13.out.on b14
      have H14 := Lib.hid hh
      clear x0 x1 x2 x3 x4 r0 r1 r2 r3 r4 b14
      have x0 : V14.cell? ⟨w.heap.size, 0, none⟩ = some (.int .i8 kx) := cell_of_row hh.base.bx rfl
      have x1 : V14.cell? ⟨w.heap.size, 1, none⟩ = some (.int .i64 nx) := cell_of_row hh.base.bx rfl
      have x2 : V14.cell? ⟨w.heap.size, 2, none⟩ = some (.string sx) := cell_of_row hh.base.bx rfl
      have x3 : V14.cell? ⟨w.heap.size, 3, none⟩ = some (.string tx) := cell_of_row hh.base.bx rfl
      have x4 : V14.cell? ⟨w.heap.size, 4, none⟩ = some (.slice Ax Lx.length capx) := cell_of_row hh.base.bx rfl
      clear hh
      rcases hk67 with hk | hk
      · have k6 : (kx == 6) = true := by rw [beq_iff_eq]; exact hk
        clear hk
        go_wp2_with fail
        refine (HWK.out _ H14.out.base.below).mono ?_
        rintro e V ⟨rfl, hb⟩
        have HBW := Lib.hid hb
        clear hb
        go_wp2_with fail
        go_ret
        exact ⟨rfl, HBW.out⟩
      · have k6 : (kx == 6) = false := by rw [beq_eq_false_iff_ne, hk]; decide
        have k7 : (kx == 7) = true := by rw [beq_iff_eq]; exact hk
        clear hk
        go_wp2_with fail
        refine (PRO.out _ H14.out.base.below).mono ?_
        rintro e V15 ⟨rfl, b15⟩
        rw [H61.out]
        have H15 := Lib.hid (H14.out.on b15)
        clear b15 x0 x1 x2 x3 x4
        go_wp2_with fail
        refine (HWK.out _ H15.out.base.below).mono ?_
        rintro e V ⟨rfl, hb⟩
        have HBW := Lib.hid hb
        clear hb
        go_wp2_with fail
        go_ret
        exact ⟨rfl, HBW.out⟩
    · have h61 : (z'.k == 6) = false := by rw [beq_eq_false_iff_ne]; exact h6
      have hk6 : kx ≠ 6 := fun h => by
        have e1 := (chain_one HXV.out HCH.out .nil HZ7.out (by rw [HEX.out]; show kx ≠ 7; omega)).2
        apply h6; rw [e1, HEX.out]; exact h
      have k6 : (kx == 6) = false := by rw [beq_eq_false_iff_ne]; exact hk6
      have H61 := Lib.hid h61
      clear h6 h61 hk6
      have hh := H12.out
      have x0 : V12.cell? ⟨w.heap.size, 0, none⟩ = some (.int .i8 kx) := cell_of_row hh.base.bx rfl
      have x1 : V12.cell? ⟨w.heap.size, 1, none⟩ = some (.int .i64 nx) := cell_of_row hh.base.bx rfl
      have x2 : V12.cell? ⟨w.heap.size, 2, none⟩ = some (.string sx) := cell_of_row hh.base.bx rfl
      have x3 : V12.cell? ⟨w.heap.size, 3, none⟩ = some (.string tx) := cell_of_row hh.base.bx rfl
      have x4 : V12.cell? ⟨w.heap.size, 4, none⟩ = some (.slice Ax Lx.length capx) := cell_of_row hh.base.bx rfl
      clear hh
      by_cases hk : kx = 7
      · have k7 : (kx == 7) = true := by rw [beq_iff_eq]; exact hk
        clear hk
        go_wp2_with fail
        refine (PRO.out _ H12.out.base.below).mono ?_
        rintro e V15 ⟨rfl, b15⟩
        rw [H61.out]
        have H15 := Lib.hid (H12.out.on b15)
        clear b15 x0 x1 x2 x3 x4
        go_wp2_with fail
        refine (HWK.out _ H15.out.base.below).mono ?_
        rintro e V ⟨rfl, hb⟩
        have HBW := Lib.hid hb
        clear hb
        go_wp2_with fail
        go_ret
        exact ⟨rfl, HBW.out⟩
      · have k7 : (kx == 7) = false := by rw [beq_eq_false_iff_ne]; exact hk
        clear hk
        go_wp2_with fail
        refine (HWK.out _ H12.out.base.below).mono ?_
        rintro e V ⟨rfl, hb⟩
        have HBW := Lib.hid hb
        clear hb
        go_wp2_with fail
        go_ret
        exact ⟨rfl, HBW.out⟩
end Go.Proofs.YtohbljgagbnjoaaDoor
