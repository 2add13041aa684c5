/- The law MatchAll's walk. -/
import Derived.Test.YtkceoiaaiaomoaaGreatDoorKMt24
import Derived.Test.YtkceoiaaiaomoaaGreatDoorKMt22
import Derived.Test.YtkceoiaaiaomoaaGreatDoorKRName7
import Derived.Deep.DeepCutAuto
import Derived.Tactics2
section
set_option linter.unusedVariables false
set_option linter.unusedSimpArgs false
namespace Go.Proofs.YtkceoiaaiaomoaaGreatDoor
open Go.RowKit

theorem rf_unbound {p : Tm} {l : List Bd} {y : Tm} (hk : filOk p l = true) (hy : y ∈ p.pre) (h5 : y.k = 5) (hf : findB l y.s = none) : fillE p l = 2 ∧ fillV p l = intT 0 := by
  have hm : may10 l = true := by unfold filOk at hk; rw [Bool.and_eq_true] at hk; exact hk.2
  have hb : bndB l p = false := by
    unfold bndB
    rw [List.all_eq_false]
    refine ⟨y, hy, ?_⟩
    rw [if_pos h5, may10_any_name hm, hf]
    simp
  have hg : gvT l p = none := by
    cases hq : gvT l p with
    | none => rfl
    | some v => rw [gv_bnd l p v hq] at hb; cases hb
  unfold fillE fillV
  rw [if_pos hk, if_pos hk, hg]
  exact ⟨(fil_two l p).2 hb, rfl⟩
theorem rf_bound {p : Tm} {l : List Bd} (hk : filOk p l = true) (h : ∀ y ∈ p.pre, y.k = 5 → ∃ x, findB l y.s = some x) : fillE p l = (if (filT l p).nodes ≤ 256 then 0 else 11) ∧ fillV p l = (if (filT l p).nodes ≤ 256 then filT l p else intT 0) := by
  have hm : may10 l = true := by unfold filOk at hk; rw [Bool.and_eq_true] at hk; exact hk.2
  have hp : patB p = true := by unfold filOk patOk at hk; rw [Bool.and_eq_true, Bool.and_eq_true] at hk; exact hk.1.2
  have hb : bndB l p = true := by
    unfold bndB
    rw [List.all_eq_true]
    intro y hy
    by_cases h5 : y.k = 5
    · rw [if_pos h5, may10_any_name hm]
      obtain ⟨x, hx⟩ := h y hy h5
      rw [hx]; rfl
    · rw [if_neg h5]
  have hl := fil_link l hm p hp hb
  unfold fillE fillV filE
  rw [if_pos hk, if_pos hk]
  by_cases hn : (filT l p).nodes ≤ 256
  · rw [if_pos hn] at hl
    rw [hl, if_pos hn, if_pos hn]
    exact ⟨rfl, rfl⟩
  · rw [if_neg hn] at hl
    rw [hl, if_neg hn, if_neg hn]
    dsimp only
    rw [hb]
    exact ⟨rfl, rfl⟩
set_option maxHeartbeats 8000000 in
set_option maxRecDepth 100000 in
theorem rFill10_any (p : Tm) (l : List Bd) (v : Value) (A : Option Addr) (n cap : Nat) (W : World) (hP : TmAt (· < W.heap.size) W p v) (hR : BRow (· < W.heap.size) W A n cap l) (hN : p.nodes ≤ 8200) :
    Calls Tryz.prog 36 #[v, .slice A n cap] W (FillP (fillE p l) (fillV p l) W) := by
  obtain rfl := hR.len
  obtain ⟨xk, xn, xs, xt, NA, nm, nc, rfl⟩ : ∃ k n s t A m c, v = .agg #[.int .i8 k, .int .i64 n, .string s, .string t, .slice A m c] := by cases hP; exact ⟨_, _, _, _, _, _, _, rfl⟩
  obtain ⟨W2, hW2⟩ : ∃ w1, w1 = (W.alloc (.cells #[.int .i8 xk, .int .i64 xn, .string xs, .string xt, .slice NA nm nc] 25)).alloc (.cells #[.int .i8 0, .int .i64 0, .string ⟨#[]⟩, .string ⟨#[]⟩, .slice none 0 0] 44) := ⟨_, rfl⟩
  have g0 := there_of (.cells #[.int .i8 0, .int .i64 0, .string ⟨#[]⟩, .string ⟨#[]⟩, .slice none 0 0] 44) (block_alloc W (.cells #[.int .i8 xk, .int .i64 xn, .string xs, .string xt, .slice NA nm nc] 25))
  have g1 := block_alloc (W.alloc (.cells #[.int .i8 xk, .int .i64 xn, .string xs, .string xt, .slice NA nm nc] 25)) (.cells #[.int .i8 0, .int .i64 0, .string ⟨#[]⟩, .string ⟨#[]⟩, .slice none 0 0] 44)
  rw [World.size_alloc] at g1
  have b2 : Below W.heap.size W W2 := by rw [hW2]; exact ((Below.refl _ W).alloc (Nat.le_refl _) _).alloc (by simp) _
  have z2 : W2.heap.size = W.heap.size + 2 := by rw [hW2, World.size_alloc, World.size_alloc]
  rw [← hW2] at g0 g1
  have HB2 := Lib.hid b2
  have HG0 := Lib.hid g0
  have HG1 := Lib.hid g1
  have HZ2 := Lib.hid z2
  have HP : Hid (∀ V, Below W.heap.size W V → TmAt (· < V.heap.size) V p (.agg #[.int .i8 xk, .int .i64 xn, .string xs, .string xt, .slice NA nm nc])) := fun V hb => hP.laterN hb
  have HR : Hid (∀ V, Below W.heap.size W V → BRow (· < V.heap.size) V A l.length cap l) := fun V hb => hR.later hb
  have HRT : Hid (∀ V, Below W.heap.size W V → BRT W.heap.size W.heap.size V A l.length cap l) := fun V hb => hR.brt.under hb (Nat.le_refl _)
  have HN : Hid (p.nodes ≤ 8200) := hN
  have hmx := hR.max
  unfold maxLen at hmx
  have HPC := Lib.hid (rPattern_any p _ W2 (hP.laterN b2))
  have HPK : Hid ((fitsB p && patB p) = patOk p) := rfl
  rw [HPK.out] at HPC
  have hno : filOk p l = false → fillE p l = 2 ∧ fillV p l = intT 0 := fun h => by unfold fillE fillV; rw [h]; exact ⟨rfl, rfl⟩
  have hun := fun y hk hy h5 hf => rf_unbound (p := p) (l := l) (y := y) hk hy h5 hf
  have hbo := fun hk h => rf_bound (p := p) (l := l) hk h
  obtain ⟨EE, hEE⟩ : ∃ x, x = fillE p l := ⟨_, rfl⟩
  obtain ⟨VV0, hVV⟩ : ∃ x, x = fillV p l := ⟨_, rfl⟩
  rw [← hEE, ← hVV] at hno hbo ⊢
  simp only [← hEE, ← hVV] at hun
  obtain ⟨PB, hPB⟩ : ∃ b, b = patOk p := ⟨_, rfl⟩
  obtain ⟨MB, hMB⟩ : ∃ b, b = may10 l := ⟨_, rfl⟩
  have hfo : filOk p l = (PB && MB) := by unfold filOk; rw [hPB, hMB]
  rw [hfo] at hno
  rw [← hPB] at HPC
  have HNO := Lib.hid hno
  have HUN := Lib.hid hun
  have HBO := Lib.hid hbo
  have HFO := Lib.hid hfo
  have HPB := Lib.hid hPB
  have HMB := Lib.hid hMB
  obtain ⟨x0, x1, x2, x3, x4⟩ := five_of g0
  clear hP hR hN g0 g1 b2 z2 hEE hVV hPB hMB hno hun hbo hfo HPK
  go_enter Tryz.func36, Tryz.ntmps36
  go_upto_region 1 with fail
  rw [← hW2]
  clear hW2
  go_wp2_with fail
  refine HPC.out.mono ?_
  rintro e W3 ⟨rfl, b3⟩
  have HB3 := Lib.hid (HB2.out.trans (b3.mono HB2.out.size))
  have HG03 := Lib.hid ((b3.block _ (heap_lt HG0.out)).trans HG0.out)
  have HG13 := Lib.hid ((b3.block _ (heap_lt HG1.out)).trans HG1.out)
  clear b3 x0 x1 x2 x3 x4
  cases PB with
  | false =>
    have HNN := Lib.hid (HNO.out rfl)
    have g9 := HG13.out
    obtain ⟨⟨r0, r1, r2, r3, r4⟩, rf0, rf1, rf2, rf3, rf4⟩ := five_fr g9
    have S5 := Lib.hid (set_five (.int .i8 0) (.int .i64 0) (.string ⟨#[]⟩) (.string ⟨#[]⟩) (.slice none 0 0) g9)
    go_wp2_with fail
    obtain ⟨s5, m5⟩ := S5.out
    generalize ((((((W3).setCell ⟨W.heap.size + 1, 0, none⟩ (.int .i8 0)).setCell ⟨W.heap.size + 1, 1, none⟩ (.int .i64 0)).setCell ⟨W.heap.size + 1, 2, none⟩ (.string ⟨#[]⟩)).setCell ⟨W.heap.size + 1, 3, none⟩ (.string ⟨#[]⟩)).setCell ⟨W.heap.size + 1, 4, none⟩ (.slice none 0 0)) = VX at s5 m5 ⊢
    obtain ⟨z0, z1, z2, z3, z4⟩ := five_of s5
    refine bodyPost_ret (v := .tuple #[.agg #[.int .i8 0, .int .i64 0, .string ⟨#[]⟩, .string ⟨#[]⟩, .slice none 0 0], .int .i64 2]) (by simp [results, Tryz.f36, go_sem, z0, z1, z2, z3, z4]) rfl ?_
    exact ⟨_, _, _, _, _, _, _, by rw [HNN.out.1], by rw [HNN.out.2]; exact zero_at _ _, HB3.out.trans (m5.below HB3.out.size (fun q (e : q = _) => by omega))⟩
  | true =>
  have HMY := Lib.hid (rMay10_any l A l.length cap W3 (HR.out W3 HB3.out))
  rw [← HMB.out] at HMY
  go_wp2_with fail
  refine HMY.out.mono ?_
  rintro e W4 ⟨rfl, b4⟩
  have HB4 := Lib.hid (HB3.out.trans (b4.mono HB3.out.size))
  have HG04 := Lib.hid ((b4.block _ (heap_lt HG03.out)).trans HG03.out)
  have HG14 := Lib.hid ((b4.block _ (heap_lt HG13.out)).trans HG13.out)
  clear b4
  cases MB with
  | false =>
    have HNN := Lib.hid (HNO.out rfl)
    have g9 := HG14.out
    obtain ⟨⟨r0, r1, r2, r3, r4⟩, rf0, rf1, rf2, rf3, rf4⟩ := five_fr g9
    have S5 := Lib.hid (set_five (.int .i8 0) (.int .i64 0) (.string ⟨#[]⟩) (.string ⟨#[]⟩) (.slice none 0 0) g9)
    go_wp2_with fail
    obtain ⟨s5, m5⟩ := S5.out
    generalize ((((((W4).setCell ⟨W.heap.size + 1, 0, none⟩ (.int .i8 0)).setCell ⟨W.heap.size + 1, 1, none⟩ (.int .i64 0)).setCell ⟨W.heap.size + 1, 2, none⟩ (.string ⟨#[]⟩)).setCell ⟨W.heap.size + 1, 3, none⟩ (.string ⟨#[]⟩)).setCell ⟨W.heap.size + 1, 4, none⟩ (.slice none 0 0)) = VX at s5 m5 ⊢
    obtain ⟨z0, z1, z2, z3, z4⟩ := five_of s5
    refine bodyPost_ret (v := .tuple #[.agg #[.int .i8 0, .int .i64 0, .string ⟨#[]⟩, .string ⟨#[]⟩, .slice none 0 0], .int .i64 2]) (by simp [results, Tryz.f36, go_sem, z0, z1, z2, z3, z4]) rfl ?_
    exact ⟨_, _, _, _, _, _, _, by rw [HNN.out.1], by rw [HNN.out.2]; exact zero_at _ _, HB4.out.trans (m5.below HB4.out.size (fun q (e : q = _) => by omega))⟩
  | true =>
  obtain ⟨x0, x1, x2, x3, x4⟩ := five_of HG04.out
  go_wp2_with fail
  refine (rWalk_any p (· < W4.heap.size) _ 4097 W4 (HP.out W4 HB4.out) (fun _ h => h) (by decide) (by decide)).mono ?_
  rintro e W5 ⟨WA, wcap, rfl, hw, b5⟩
  have htr := (hw.trow (Q := (· < W5.heap.size)) (fun b hb => Nat.lt_of_lt_of_le hb b5.size) (fun b _ h _ => h)).2
  have hpok : fitsB p = true ∧ patB p = true := by have h := HPB.out.symm; unfold patOk at h; rw [Bool.and_eq_true] at h; exact h
  have hnl : p.pre.take 4097 = p.pre := by
    have h := hpok.1
    unfold fitsB at h
    have h2 := (of_decide_eq_true h).1
    exact List.take_of_length_le (by show p.nodes ≤ _; omega)
  rw [hnl] at htr ⊢
  have HTR := Lib.hid htr
  have HPAT := Lib.hid hpok.2
  have HB5 := Lib.hid (HB4.out.trans (b5.mono HB4.out.size))
  have HG05 := Lib.hid ((b5.block _ (heap_lt HG04.out)).trans HG04.out)
  have HG15 := Lib.hid ((b5.block _ (heap_lt HG14.out)).trans HG14.out)
  have hpl := htr.max
  unfold maxLen at hpl
  obtain ⟨PL, hPL⟩ : ∃ L, L = p.pre := ⟨_, rfl⟩
  have HPL := Lib.hid hPL
  rw [← hPL] at HTR hpl ⊢
  clear hw htr hnl hpok b5 hPL x0 x1 x2 x3 x4
  go_wp2_with fail
  go_loopw [7] (fun i wr => ∃ j : Nat, j ≤ PL.length ∧ i = .int .i64 j ∧ Hid (Below W5.heap.size W5 wr) ∧ Hid (∀ y ∈ PL.take j, y.k = 5 → ∃ x, findB l y.s = some x)) (fun i _ => PL.length - (intOf i).toNat)
  case atStart => exact ⟨0, Nat.zero_le _, rfl, Lib.hid (Below.refl _ _), Lib.hid (fun y hy => by simp at hy)⟩
  case round =>
    obtain ⟨j, hj, rfl, HB, HBD⟩ := hrel
    have HBW := Lib.hid (HB5.out.trans (HB.out.mono HB5.out.size))
    have HG1R := Lib.hid ((HB.out.block _ (heap_lt HG15.out)).trans HG15.out)
    by_cases hlt : j < PL.length
    case neg =>
      obtain rfl : j = PL.length := by omega
      have hall : ∀ y ∈ p.pre, y.k = 5 → ∃ x, findB l y.s = some x := fun y hy h5 => HBD.out y (by rw [List.take_length, HPL.out]; exact hy) h5
      have HRES := Lib.hid (HBO.out HFO.out hall)
      have HG0R := Lib.hid ((HB.out.block _ (heap_lt HG05.out)).trans HG05.out)
      have HFC := Lib.hid (rfill_any l p HPAT.out (by have := HN.out; omega) W.heap.size W.heap.size _ A l.length cap wr (HP.out wr HBW.out) (HRT.out wr HBW.out) HBW.out.size)
      clear hall
      obtain ⟨x0, x1, x2, x3, x4⟩ := five_of HG0R.out
      go_wp2_with fail
      refine HFC.out.mono ?_
      rintro e W7 ⟨k9, n9, s9, t9, A9, m9, c9, rfl, hv, b7⟩
      obtain ⟨W8, hW8⟩ : ∃ w, w = W7.alloc (.cells #[.int .i8 k9, .int .i64 n9, .string s9, .string t9, .slice A9 m9 c9] 44) := ⟨_, rfl⟩
      obtain ⟨g8, hg8⟩ : ∃ g, g = W7.heap.size := ⟨_, rfl⟩
      have b8 : Below W7.heap.size W7 W8 := by rw [hW8]; exact (Below.refl _ _).alloc (Nat.le_refl _) _
      have HQ8 : Hid (W8.heap[g8]? = some (.cells #[.int .i8 k9, .int .i64 n9, .string s9, .string t9, .slice A9 m9 c9] 44 (0, 0))) := Lib.hid (by rw [hW8, hg8]; exact block_alloc _ _)
      have b78 := b7.trans (b8.mono b7.size)
      have HV8 := Lib.hid (hv.keep (Q := fun b => b < W.heap.size ∨ (wr.heap.size ≤ b ∧ b < W8.heap.size)) (w' := W8) (fun q hq => b8.block q (by have := HBW.out.size; have := b7.size; rcases hq with h | h <;> omega)) (fun q hq => by have := b8.size; rcases hq with h | h; (exact .inl h); (exact .inr ⟨h.1, by omega⟩)))
      have HB8 := Lib.hid (HBW.out.trans (b78.mono HBW.out.size))
      have HG18 := Lib.hid ((b78.block _ (heap_lt HG1R.out)).trans HG1R.out)
      have HWR : Hid (W.heap.size + 2 ≤ wr.heap.size) := by have h1 := HB5.out.size; have h2 := heap_lt HG1R.out; have h3 := HZ2.out; have h4 := HB.out.size; have h5 := HB4.out.size; have h6 := heap_lt HG15.out; show _ ≤ _; omega
      clear hv b7 b8 b78 x0 x1 x2 x3 x4
      go_upto_region 12 with fail
      rw [← hW8, ← hg8]
      clear hW8 hg8
      obtain ⟨y0, y1, y2, y3, y4⟩ := five_of HQ8.out
      go_wp2_with fail
      refine (rSize_any (filT l p) _ W8 (HV8.out.mono (fun q hq => by show q < _; have := HB8.out.size; have := HWR.out; rcases hq with h | h <;> omega))).mono ?_
      rintro e W9 ⟨rfl, b9⟩
      have HB9 := Lib.hid (HB8.out.trans (b9.mono HB8.out.size))
      have HG19 := Lib.hid ((b9.block _ (heap_lt HG18.out)).trans HG18.out)
      have HQ9 := Lib.hid ((b9.block _ (heap_lt HQ8.out)).trans HQ8.out)
      have HK9 := Lib.hid b9
      clear b9 y0 y1 y2 y3 y4
      obtain ⟨sz, hsz⟩ : ∃ s, s = min (filT l p).nodes 257 := ⟨_, rfl⟩
      rw [← hsz]
      have HSZ := Lib.hid hsz
      clear hsz
      by_cases h256 : (filT l p).nodes ≤ 256
      case neg =>
        have hgt : (256 : Int) < (sz : Int) := by have := HSZ.out; omega
        have HR2 : Hid (EE = 11 ∧ VV0 = intT 0) := by have h := HRES.out; rw [if_neg h256, if_neg h256] at h; exact h
        clear h256
        have HNN := Lib.hid (HR2.out)
        have g9 := HG19.out
        obtain ⟨⟨r0, r1, r2, r3, r4⟩, rf0, rf1, rf2, rf3, rf4⟩ := five_fr g9
        have S5 := Lib.hid (set_five (.int .i8 0) (.int .i64 0) (.string ⟨#[]⟩) (.string ⟨#[]⟩) (.slice none 0 0) g9)
        go_wp2_with fail
        obtain ⟨s5, m5⟩ := S5.out
        generalize ((((((W9).setCell ⟨W.heap.size + 1, 0, none⟩ (.int .i8 0)).setCell ⟨W.heap.size + 1, 1, none⟩ (.int .i64 0)).setCell ⟨W.heap.size + 1, 2, none⟩ (.string ⟨#[]⟩)).setCell ⟨W.heap.size + 1, 3, none⟩ (.string ⟨#[]⟩)).setCell ⟨W.heap.size + 1, 4, none⟩ (.slice none 0 0)) = VX at s5 m5 ⊢
        obtain ⟨z0, z1, z2, z3, z4⟩ := five_of s5
        refine bodyPost_ret (v := .tuple #[.agg #[.int .i8 0, .int .i64 0, .string ⟨#[]⟩, .string ⟨#[]⟩, .slice none 0 0], .int .i64 11]) (by simp [results, Tryz.f36, go_sem, z0, z1, z2, z3, z4]) rfl ?_
        exact ⟨_, _, _, _, _, _, _, by rw [HNN.out.1], by rw [HNN.out.2]; exact zero_at _ _, HB9.out.trans (m5.below HB9.out.size (fun q (e : q = _) => by omega))⟩
      have hgt : ¬ (256 : Int) < (sz : Int) := by have := HSZ.out; omega
      have HR2 : Hid (EE = 0 ∧ VV0 = filT l p) := by have h := HRES.out; rw [if_pos h256, if_pos h256] at h; exact h
      clear h256
      obtain ⟨y0, y1, y2, y3, y4⟩ := five_of HQ9.out
      have g9 := HG19.out
      obtain ⟨⟨r0, r1, r2, r3, r4⟩, rf0, rf1, rf2, rf3, rf4⟩ := five_fr g9
      have S5 := Lib.hid (set_five (.int .i8 k9) (.int .i64 n9) (.string s9) (.string t9) (.slice A9 m9 c9) g9)
      go_wp2_with fail
      obtain ⟨s5, m5⟩ := S5.out
      generalize ((((((W9).setCell ⟨W.heap.size + 1, 0, none⟩ (.int .i8 k9)).setCell ⟨W.heap.size + 1, 1, none⟩ (.int .i64 n9)).setCell ⟨W.heap.size + 1, 2, none⟩ (.string s9)).setCell ⟨W.heap.size + 1, 3, none⟩ (.string t9)).setCell ⟨W.heap.size + 1, 4, none⟩ (.slice A9 m9 c9)) = VX at s5 m5 ⊢
      obtain ⟨z0, z1, z2, z3, z4⟩ := five_of s5
      refine bodyPost_ret (v := .tuple #[.agg #[.int .i8 k9, .int .i64 n9, .string s9, .string t9, .slice A9 m9 c9], .int .i64 0]) (by simp [results, Tryz.f36, go_sem, z0, z1, z2, z3, z4]) rfl ?_
      have h1 := HWR.out
      have h2 := HK9.out.size
      have h3 := m5.size
      refine ⟨_, _, _, _, _, _, _, by rw [HR2.out.1], ?_, HB9.out.trans (m5.below HB9.out.size (fun q (e : q = _) => by omega))⟩
      rw [HR2.out.2]
      have h4 := HB8.out.size
      exact HV8.out.keep (fun q hq => (m5.block q (by rcases hq with h | h <;> omega) (by rcases hq with h | h <;> omega)).trans (HK9.out.block q (by rcases hq with h | h <;> omega))) (fun q hq => by show q < _; rcases hq with h | h <;> omega)
    obtain ⟨y, hy⟩ : ∃ y, PL[j]? = some y := ⟨PL[j], List.getElem?_eq_getElem hlt⟩
    obtain ⟨ad, u, rfl, had, hEl, hTy⟩ := HTR.out.at_ j y hy
    have HMEM : Hid (y ∈ p.pre) := by have h := List.mem_of_getElem? hy; rw [HPL.out] at h; exact h
    have HTKJ : Hid (PL.take (j + 1) = PL.take j ++ [y]) := by show _ = _; rw [List.take_add_one, hy]; rfl
    obtain ⟨k', n', s', t', L', A', cap', hye, rfl⟩ : ∃ k' n' s' t' L' A' cap', y = Tm.mk k' n' s' t' L' ∧ u = .agg #[.int .i8 k', .int .i64 n', .string s', .string t', .slice A' L'.length cap'] := by
      cases hTy; exact ⟨_, _, _, _, _, _, _, rfl, rfl⟩
    obtain ⟨c0, c1, c2, c3, c4, hcc, e0, e1, e2, e3, e4⟩ := hEl.keep (HB.out.block ad.block had)
    simp only [Value.agg.injEq, Array.mk.injEq, List.cons.injEq, and_true] at hcc
    obtain ⟨rfl, rfl, rfl, rfl, rfl⟩ := hcc
    have HYK : Hid (y.k = k' ∧ y.s = s') := by rw [hye]; exact ⟨rfl, rfl⟩
    have i0 : (0 : Int) ≤ (j : Int) := by omega
    have i1 : (j : Int) < (PL.length : Int) := by omega
    clear hTy hy had hye hEl
    have hgo : (k' = 5 → ∃ x, findB l s' = some x) → Hid (∀ z ∈ PL.take (j + 1), z.k = 5 → ∃ x, findB l z.s = some x) := fun h => Lib.hid (fun z hz h5 => by
      rw [HTKJ.out] at hz
      rcases List.mem_append.1 hz with hz | hz
      · exact HBD.out z hz h5
      · obtain rfl := List.mem_singleton.1 hz
        rw [HYK.out.1] at h5
        rw [HYK.out.2]
        exact h h5)
    by_cases h5 : k' = 5
    case neg =>
      have hb5 : (k' == 5) = false := beq_eq_false_iff_ne.2 h5
      have HGJ := hgo (fun h => absurd h h5)
      clear h5 hgo
      go_wp2_with fail
      go_roundw
      case rel => exact ⟨j + 1, by omega, by go_num, HB, HGJ⟩
      case measure => simp [intOf]; omega
    have hb5 : (k' == 5) = true := beq_iff_eq.2 h5
    have HH5 : Hid (k' = 5) := h5
    have HGO := Lib.hid hgo
    clear hgo h5
    go_wp2_with fail
    refine (rFind10_any W.heap.size W.heap.size l s' A l.length cap wr (HRT.out wr HBW.out) HBW.out.size).mono ?_
    rintro e W7 ⟨k8, n8, s8, t8, A8, m8, c8, rfl, -, -, b7⟩
    obtain ⟨W8, hW8⟩ : ∃ w, w = W7.alloc (.cells #[.int .i8 k8, .int .i64 n8, .string s8, .string t8, .slice A8 m8 c8] 44) := ⟨_, rfl⟩
    have b8 : Below W7.heap.size W7 W8 := by rw [hW8]; exact (Below.refl _ _).alloc (Nat.le_refl _) _
    have b78 := b7.trans (b8.mono b7.size)
    have HB8 := Lib.hid (HB.out.trans (b78.mono HB.out.size))
    have HB9 := Lib.hid (HBW.out.trans (b78.mono HBW.out.size))
    have HG18 := Lib.hid ((b78.block _ (heap_lt HG1R.out)).trans HG1R.out)
    clear b7 b8 b78 e0 e1 e2 e3 e4
    cases hf : findB l s' with
    | none =>
      have HR2 := Lib.hid (HUN.out y HFO.out HMEM.out (HYK.out.1.trans HH5.out) (by rw [HYK.out.2]; exact hf))
      clear hf
      simp only [Option.isSome_none]
      go_upto_region 9 with fail
      rw [← hW8]
      clear hW8
      have HNN := Lib.hid (HR2.out)
      have g9 := HG18.out
      obtain ⟨⟨r0, r1, r2, r3, r4⟩, rf0, rf1, rf2, rf3, rf4⟩ := five_fr g9
      have S5 := Lib.hid (set_five (.int .i8 0) (.int .i64 0) (.string ⟨#[]⟩) (.string ⟨#[]⟩) (.slice none 0 0) g9)
      go_wp2_with fail
      obtain ⟨s5, m5⟩ := S5.out
      generalize ((((((W8).setCell ⟨W.heap.size + 1, 0, none⟩ (.int .i8 0)).setCell ⟨W.heap.size + 1, 1, none⟩ (.int .i64 0)).setCell ⟨W.heap.size + 1, 2, none⟩ (.string ⟨#[]⟩)).setCell ⟨W.heap.size + 1, 3, none⟩ (.string ⟨#[]⟩)).setCell ⟨W.heap.size + 1, 4, none⟩ (.slice none 0 0)) = VX at s5 m5 ⊢
      obtain ⟨z0, z1, z2, z3, z4⟩ := five_of s5
      refine bodyPost_ret (v := .tuple #[.agg #[.int .i8 0, .int .i64 0, .string ⟨#[]⟩, .string ⟨#[]⟩, .slice none 0 0], .int .i64 2]) (by simp [results, Tryz.f36, go_sem, z0, z1, z2, z3, z4]) rfl ?_
      exact ⟨_, _, _, _, _, _, _, by rw [HNN.out.1], by rw [HNN.out.2]; exact zero_at _ _, HB9.out.trans (m5.below HB9.out.size (fun q (e : q = _) => by omega))⟩
    | some x =>
      have HGJ := HGO.out (fun _ => ⟨x, hf⟩)
      clear hf
      simp only [Option.isSome_some]
      go_upto_region 9 with fail
      rw [← hW8]
      clear hW8
      go_wp2_with fail
      go_roundw
      case rel => exact ⟨j + 1, by omega, by go_num, HB8, HGJ⟩
      case measure => simp [intOf]; omega
end Go.Proofs.YtkceoiaaiaomoaaGreatDoor
end
section
set_option linter.unusedVariables false
set_option linter.unusedSimpArgs false
namespace Go.Proofs.YtkceoiaaiaomoaaGreatDoor
open Go.RowKit

set_option maxHeartbeats 16000000 in
set_option maxRecDepth 100000 in
theorem walk_MatchAll (v0 v1 v2 : Value) (w : World) (o0 : ∃ A n cap l, v0 = .slice A n cap ∧ TRow (· < w.heap.size) w A n cap l) (o1 : ∃ A n cap l, v1 = .slice A n cap ∧ TRow (· < w.heap.size) w A n cap l) (o2 : ∃ A n cap l, v2 = .slice A n cap ∧ BRow (· < w.heap.size) w A n cap l) (hE : Env7 w) :
    Calls Tryz.prog 5 #[v0, v1, v2] w fun e w' => e = .returned (.bool true) ∧ Below w.heap.size w w' := by
  obtain ⟨PA, pn, pc, ps, rfl, hP⟩ := o0
  obtain ⟨TA, tn, tc, ts, rfl, hT⟩ := o1
  obtain ⟨A, m, cap, l, rfl, hR⟩ := o2
  obtain rfl := hP.len
  obtain rfl := hT.len
  obtain rfl := hR.len
  have hm1 := hP.max
  have hm2 := hT.max
  have hm3 := hR.max
  unfold maxLen at hm1 hm2 hm3
  have HP := Lib.hid hP
  have HPV : Hid (∀ V, Below w.heap.size w V → TRow (· < V.heap.size) V PA ps.length pc ps) := fun V hb => hP.later hb
  have HTV : Hid (∀ V, Below w.heap.size w V → TRow (· < V.heap.size) V TA ts.length tc ts) := fun V hb => hT.later hb
  have HR : Hid (∀ V, Below w.heap.size w V → BRow (· < V.heap.size) V A l.length cap l) := fun V hb => hR.later hb
  have HE : Hid (∀ V, Below w.heap.size w V → Env7 V) := fun V hb => hE.under hb
  have HB0 := Lib.hid (Below.refl w.heap.size w)
  clear hP hT hR hE
  by_cases hp20 : ps.length ≤ 20
  case neg =>
    have h1 : (20 : Int) < (ps.length : Int) := by omega
    clear hp20
    go_enter Tryz.func5, Tryz.ntmps5
    go_wp2_with fail
    refine (wakes10_any w (HE.out w HB0.out)).mono ?_
    rintro e w99 ⟨rfl, b9⟩
    have HF := Lib.hid (HB0.out.trans (b9.mono HB0.out.size))
    clear b9
    go_wp2_with fail
    go_ret
    exact ⟨rfl, HF.out⟩
  have h1 : ¬ (20 : Int) < (ps.length : Int) := by omega
  by_cases ht20 : ts.length ≤ 20
  case neg =>
    have h2 : (20 : Int) < (ts.length : Int) := by omega
    clear hp20 ht20
    go_enter Tryz.func5, Tryz.ntmps5
    go_wp2_with fail
    refine (wakes10_any w (HE.out w HB0.out)).mono ?_
    rintro e w99 ⟨rfl, b9⟩
    have HF := Lib.hid (HB0.out.trans (b9.mono HB0.out.size))
    clear b9
    go_wp2_with fail
    go_ret
    exact ⟨rfl, HF.out⟩
  have h2 : ¬ (20 : Int) < (ts.length : Int) := by omega
  have HP20 : Hid (ps.length ≤ 20) := hp20
  clear hp20 ht20
  go_enter Tryz.func5, Tryz.ntmps5
  go_wp2_with fail
  refine (GreatAll_any TA ts.length tc ts w (HTV.out w HB0.out)).mono ?_
  rintro e w1 ⟨q, rfl, -, b1⟩
  have HB1 := Lib.hid b1
  clear b1
  cases q with
  | true =>
    go_wp2_with fail
    refine (wakes10_any w1 (HE.out w1 HB1.out)).mono ?_
    rintro e w99 ⟨rfl, b9⟩
    have HF := Lib.hid (HB1.out.trans (b9.mono HB1.out.size))
    clear b9
    go_wp2_with fail
    go_ret
    exact ⟨rfl, HF.out⟩
  | false =>
  go_wp2_with fail
  refine (Great10_any l A l.length cap w1 (HR.out w1 HB1.out)).mono ?_
  rintro e w2 ⟨⟨q, rfl, -⟩, b2⟩
  have HB2 := Lib.hid (HB1.out.trans (b2.mono HB1.out.size))
  clear b2
  cases q with
  | true =>
    go_wp2_with fail
    refine (wakes10_any w2 (HE.out w2 HB2.out)).mono ?_
    rintro e w99 ⟨rfl, b9⟩
    have HF := Lib.hid (HB2.out.trans (b9.mono HB2.out.size))
    clear b9
    go_wp2_with fail
    go_ret
    exact ⟨rfl, HF.out⟩
  | false =>
  go_wp2_with fail
  go_loopw [7] (fun i wr => ∃ j : Nat, j ≤ ps.length ∧ i = .int .i64 j ∧ Hid (Below w.heap.size w wr) ∧ Hid (∀ i y, i < j → ps[i]? = some y → y.nodes ≤ 8200)) (fun i _ => ps.length - (intOf i).toNat)
  case atStart => exact ⟨0, Nat.zero_le _, rfl, HB2, Lib.hid (fun i y h => by omega)⟩
  case round =>
    obtain ⟨j, hj, rfl, HB, HN⟩ := hrel
    by_cases hlt : j < ps.length
    · skip
      obtain ⟨y, hy⟩ : ∃ y, ps[j]? = some y := ⟨ps[j], List.getElem?_eq_getElem hlt⟩
      obtain ⟨ad, u, rfl, had, hEl, hTy⟩ := HP.out.at_ j y hy
      have HMEM : Hid (ps[j]? = some y) := hy
      have HTY := Lib.hid hTy
      obtain ⟨yk, yn, ys, yu, yL, yA, yc, hye, rfl⟩ : ∃ k' n' s' t' L' A' cap', y = Tm.mk k' n' s' t' L' ∧ u = .agg #[.int .i8 k', .int .i64 n', .string s', .string t', .slice A' L'.length cap'] := by
        cases hTy; exact ⟨_, _, _, _, _, _, _, rfl, rfl⟩
      have HEY : Hid (∀ V, Below w.heap.size w V → ElemAt V ad j (.agg #[.int .i8 yk, .int .i64 yn, .string ys, .string yu, .slice yA yL.length yc])) := fun V hV => hEl.keep (hV.block ad.block had)
      have i0 : (0 : Int) ≤ (j : Int) := by omega
      have i1 : (j : Int) < (ps.length : Int) := by omega
      clear hTy hy had hye hEl
      obtain ⟨q0, q1, q2, q3, q4, he, e0, e1, e2, e3, e4⟩ := HEY.out wr HB.out
      simp only [Value.agg.injEq, Array.mk.injEq, List.cons.injEq, and_true] at he
      obtain ⟨rfl, rfl, rfl, rfl, rfl⟩ := he
      go_wp2_with fail
      refine (GreatN_any y _ wr (HTY.out.laterN HB.out)).mono ?_
      rintro e w3 ⟨q, rfl, hq, b3⟩
      have HB3 := Lib.hid (HB.out.trans (b3.mono HB.out.size))
      clear b3 e0 e1 e2 e3 e4
      cases q with
      | true =>
        clear hq
        go_wp2_with fail
        refine (wakes10_any w3 (HE.out w3 HB3.out)).mono ?_
        rintro e w99 ⟨rfl, b9⟩
        have HF := Lib.hid (HB3.out.trans (b9.mono HB3.out.size))
        clear b9
        go_wp2_with fail
        go_ret
        exact ⟨rfl, HF.out⟩
      | false =>
      have HN2 : Hid (∀ i z, i < j + 1 → ps[i]? = some z → z.nodes ≤ 8200) := Lib.hid (fun i z hi hz => by
        by_cases h : i < j
        · exact HN.out i z h hz
        · obtain rfl : i = j := by omega
          rw [HMEM.out] at hz
          cases hz
          have := hq rfl
          omega)
      clear hq
      go_wp2_with fail
      go_roundw
      case rel => exact ⟨j + 1, by omega, by go_num, HB3, HN2⟩
      case measure => simp [intOf]; omega
    · obtain rfl : j = ps.length := by omega
      have HNA : Hid (∀ y ∈ ps, y.nodes ≤ 8200) := Lib.hid (fun y hy => by
        obtain ⟨i, hi⟩ := List.getElem?_of_mem hy
        exact HN.out i y (List.getElem?_eq_some_iff.1 hi).1 hi)
      have hc0 := All10_any ps ts l PA ps.length pc TA ts.length tc A l.length cap wr (HPV.out wr HB.out) (HTV.out wr HB.out) (HR.out wr HB.out) HNA.out (by have := HP20.out; omega) (HE.out wr HB.out)
      have hc1 := fun W h1 h2 h3 => rAll10_any ps ts l PA ps.length pc TA ts.length tc A l.length cap W h1 h2 h3 HNA.out (by have := HP20.out; omega)
      obtain ⟨EE, hEE⟩ : ∃ x, x = allE ps ts l := ⟨_, rfl⟩
      obtain ⟨BB, hBB⟩ : ∃ x, x = allB ps ts l := ⟨_, rfl⟩
      obtain ⟨LL, hLL⟩ : ∃ x, x = allL ps ts l := ⟨_, rfl⟩
      rw [← hEE, ← hBB, ← hLL] at hc0 hc1
      have HC0 := Lib.hid hc0
      have HC1 := Lib.hid hc1
      clear hc0 hc1 hEE hBB hLL hlt
      go_wp2_with fail
      refine HC0.out.mono ?_
      rintro e w5 ⟨A5, n5, c5, rfl, hr5, b5⟩
      have HR5 := Lib.hid hr5
      have HB5 := Lib.hid (HB.out.trans (b5.mono HB.out.size))
      clear hr5 b5
      go_wp2_with fail
      refine (HC1.out w5 (HPV.out w5 HB5.out) (HTV.out w5 HB5.out) (HR.out w5 HB5.out)).mono ?_
      rintro e w6 ⟨A6, n6, c6, rfl, hr6, b6⟩
      have HR6 := Lib.hid hr6
      have HR56 := Lib.hid (HR5.out.later b6)
      have HB6 := Lib.hid (HB5.out.trans (b6.mono HB5.out.size))
      clear hr6 b6
      go_wp2_with fail
      refine (Same10_any LL LL A5 n5 c5 A6 n6 c6 w6 HR56.out HR6.out).mono ?_
      rintro e w7 ⟨b, rfl, hb, b7⟩
      obtain rfl : b = true := hb.2 rfl
      have HB7 := Lib.hid (HB6.out.trans (b7.mono HB6.out.size))
      clear hb b7
      have hb1 : (BB != BB) = false := by simp
      have hb2 : (EE != EE) = false := by simp
      go_wp2_with fail
      go_loopw [14] (fun i wr => ∃ j : Nat, j ≤ ps.length ∧ i = .int .i64 j ∧ Hid (Below w.heap.size w wr)) (fun i _ => ps.length - (intOf i).toNat)
      case atStart => exact ⟨0, Nat.zero_le _, rfl, HB7⟩
      case round =>
        obtain ⟨j, hj, rfl, HBR⟩ := hrel
        by_cases hlt : j < ps.length
        case neg =>
          go_wp2_with fail
          refine (wakes10_any wr (HE.out wr HBR.out)).mono ?_
          rintro e w99 ⟨rfl, b9⟩
          have HF := Lib.hid (HBR.out.trans (b9.mono HBR.out.size))
          clear b9
          go_wp2_with fail
          go_ret
          exact ⟨rfl, HF.out⟩
        obtain ⟨y, hy⟩ : ∃ y, ps[j]? = some y := ⟨ps[j], List.getElem?_eq_getElem hlt⟩
        obtain ⟨ad, u, rfl, had, hEl, hTy⟩ := HP.out.at_ j y hy
        have HMEM : Hid (ps[j]? = some y) := hy
        have HTY := Lib.hid hTy
        obtain ⟨yk, yn, ys, yu, yL, yA, yc, hye, rfl⟩ : ∃ k' n' s' t' L' A' cap', y = Tm.mk k' n' s' t' L' ∧ u = .agg #[.int .i8 k', .int .i64 n', .string s', .string t', .slice A' L'.length cap'] := by
          cases hTy; exact ⟨_, _, _, _, _, _, _, rfl, rfl⟩
        have HEY : Hid (∀ V, Below w.heap.size w V → ElemAt V ad j (.agg #[.int .i8 yk, .int .i64 yn, .string ys, .string yu, .slice yA yL.length yc])) := fun V hV => hEl.keep (hV.block ad.block had)
        have i0 : (0 : Int) ≤ (j : Int) := by omega
        have i1 : (j : Int) < (ps.length : Int) := by omega
        clear hTy hy had hye hEl
        obtain ⟨q0, q1, q2, q3, q4, he, e0, e1, e2, e3, e4⟩ := HEY.out wr HBR.out
        simp only [Value.agg.injEq, Array.mk.injEq, List.cons.injEq, and_true] at he
        obtain ⟨rfl, rfl, rfl, rfl, rfl⟩ := he
        have HNY : Hid (y.nodes ≤ 8200) := HNA.out y (List.mem_of_getElem? HMEM.out)
        have hf0 := fun W h1 h2 h4 => Fill_any y l (.agg #[.int .i8 yk, .int .i64 yn, .string ys, .string yu, .slice yA yL.length yc]) A l.length cap W h1 h2 HNY.out h4
        have hf1 := fun W h1 h2 => rFill10_any y l (.agg #[.int .i8 yk, .int .i64 yn, .string ys, .string yu, .slice yA yL.length yc]) A l.length cap W h1 h2 HNY.out
        obtain ⟨EF, hEF⟩ : ∃ x, x = fillE y l := ⟨_, rfl⟩
        obtain ⟨VF, hVF⟩ : ∃ x, x = fillV y l := ⟨_, rfl⟩
        rw [← hEF, ← hVF] at hf0 hf1
        have HF0 := Lib.hid hf0
        have HF1 := Lib.hid hf1
        clear hf0 hf1 hEF hVF
        go_wp2_with fail
        refine (HF0.out wr (HTY.out.laterN HBR.out) (HR.out wr HBR.out) (HE.out wr HBR.out)).mono ?_
        rintro e w8 ⟨k7, n7, s7, t7, A7, m7, c7, rfl, hv, b⟩
        obtain ⟨w9, hw9⟩ : ∃ W, W = w8.alloc (.cells #[.int .i8 k7, .int .i64 n7, .string s7, .string t7, .slice A7 m7 c7] 44) := ⟨_, rfl⟩
        obtain ⟨g7, hg7⟩ : ∃ g, g = w8.heap.size := ⟨_, rfl⟩
        have b' : Below w8.heap.size w8 w9 := by rw [hw9]; exact (Below.refl _ _).alloc (Nat.le_refl _) _
        have HQ7 : Hid (w9.heap[g7]? = some (.cells #[.int .i8 k7, .int .i64 n7, .string s7, .string t7, .slice A7 m7 c7] 44 (0, 0))) := Lib.hid (by rw [hw9, hg7]; exact block_alloc _ _)
        have HY7 := Lib.hid (hv.later b')
        have HB9 := Lib.hid (HBR.out.trans ((b.trans (b'.mono b.size)).mono HBR.out.size))
        clear hv b b' e0 e1 e2 e3 e4
        obtain ⟨q0, q1, q2, q3, q4, he, e0, e1, e2, e3, e4⟩ := HEY.out w9 HB9.out
        simp only [Value.agg.injEq, Array.mk.injEq, List.cons.injEq, and_true] at he
        obtain ⟨rfl, rfl, rfl, rfl, rfl⟩ := he
        go_upto_region 16 with fail
        rw [← hw9, ← hg7]
        clear hw9 hg7
        go_wp2_with fail
        refine (HF1.out w9 (HTY.out.laterN HB9.out) (HR.out w9 HB9.out)).mono ?_
        rintro e w10 ⟨k8, n8, s8, t8, A8, m8, c8, rfl, hv, b⟩
        obtain ⟨w11, hw11⟩ : ∃ W, W = w10.alloc (.cells #[.int .i8 k8, .int .i64 n8, .string s8, .string t8, .slice A8 m8 c8] 44) := ⟨_, rfl⟩
        obtain ⟨g8, hg8⟩ : ∃ g, g = w10.heap.size := ⟨_, rfl⟩
        have b' : Below w10.heap.size w10 w11 := by rw [hw11]; exact (Below.refl _ _).alloc (Nat.le_refl _) _
        have HQ8 : Hid (w11.heap[g8]? = some (.cells #[.int .i8 k8, .int .i64 n8, .string s8, .string t8, .slice A8 m8 c8] 44 (0, 0))) := Lib.hid (by rw [hw11, hg8]; exact block_alloc _ _)
        have HY8 := Lib.hid (hv.later b')
        have b3 := b.trans (b'.mono b.size)
        have HQ79 := Lib.hid ((b3.block _ (heap_lt HQ7.out)).trans HQ7.out)
        have HY79 := Lib.hid (HY7.out.later b3)
        have HB11 := Lib.hid (HB9.out.trans (b3.mono HB9.out.size))
        clear hv b b' b3 e0 e1 e2 e3 e4
        go_upto_region 17 with fail
        rw [← hw11, ← hg8]
        clear hw11 hg8
        obtain ⟨y0, y1, y2, y3, y4⟩ := five_of HQ79.out
        obtain ⟨z0, z1, z2, z3, z4⟩ := five_of HQ8.out
        go_wp2_with fail
        refine (Same_any VF VF _ _ w11 HY79.out HY8.out).mono ?_
        rintro e w12 ⟨b, rfl, hb, b12⟩
        obtain rfl : b = true := hb.2 rfl
        have HB12 := Lib.hid (HB11.out.trans (b12.mono HB11.out.size))
        clear hb b12 y0 y1 y2 y3 y4 z0 z1 z2 z3 z4
        have hb3 : (EF != EF) = false := by simp
        go_wp2_with fail
        go_roundw
        case rel => exact ⟨j + 1, by omega, by go_num, HB12⟩
        case measure => simp [intOf]; omega
end Go.Proofs.YtkceoiaaiaomoaaGreatDoor
end
