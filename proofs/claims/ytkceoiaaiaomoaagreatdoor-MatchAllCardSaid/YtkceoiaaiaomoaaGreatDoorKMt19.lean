/- Layer 10: newFiller; what a filler's table does at every pattern. -/
import Derived.Test.YtkceoiaaiaomoaaGreatDoorKMt17
import Derived.Test.YtkceoiaaiaomoaaGreatDoorKMt5
section
set_option linter.unusedVariables false
set_option linter.unusedSimpArgs false
namespace Go.Proofs.YtkceoiaaiaomoaaGreatDoor
open Go.RowKit

theorem two_mod {w V : World} {ad : Addr} {k1 n1 k2 n2 : Int} {s1 t1 s2 t2 : ByteArray} {A1 A2 : Option Addr} {m1 c1 m2 c2 : Nat} (hE1 : ElemAt w ad 0 (.agg #[.int .i8 k1, .int .i64 n1, .string s1, .string t1, .slice A1 m1 c1])) (hE2 : ElemAt w ad 1 (.agg #[.int .i8 k2, .int .i64 n2, .string s2, .string t2, .slice A2 m2 c2])) (hb : V.heap[ad.block]? = w.heap[ad.block]?) :
    V.cell? ad = some (.int .i8 k1) ∧ V.cell? ⟨(ad).block, (ad).off + 1, none⟩ = some (.int .i64 n1) ∧ V.cell? ⟨(ad).block, (ad).off + 2, none⟩ = some (.string s1) ∧ V.cell? ⟨(ad).block, (ad).off + 3, none⟩ = some (.string t1) ∧ V.cell? ⟨(ad).block, (ad).off + 4, none⟩ = some (.slice A1 m1 c1) ∧ V.cell? ⟨ad.block, ad.off + 5, none⟩ = some (.int .i8 k2) ∧ V.cell? ⟨ad.block, ad.off + 5 + 1, none⟩ = some (.int .i64 n2) ∧ V.cell? ⟨ad.block, ad.off + 5 + 2, none⟩ = some (.string s2) ∧ V.cell? ⟨ad.block, ad.off + 5 + 3, none⟩ = some (.string t2) ∧ V.cell? ⟨ad.block, ad.off + 5 + 4, none⟩ = some (.slice A2 m2 c2) := by
  obtain ⟨p0, p1, p2, p3, p4, hp, d0, d1, d2, d3, d4⟩ := hE1.keep hb
  obtain ⟨q0, q1, q2, q3, q4, hq, e0, e1, e2, e3, e4⟩ := hE2.keep hb
  simp only [Value.agg.injEq, Array.mk.injEq, List.cons.injEq, and_true] at hp hq
  obtain ⟨rfl, rfl, rfl, rfl, rfl⟩ := hp
  obtain ⟨rfl, rfl, rfl, rfl, rfl⟩ := hq
  rw [show ad.add (0 * 5) = ad from rfl] at d0 d1 d2 d3 d4
  rw [show ad.add (1 * 5) = ⟨ad.block, ad.off + 5, none⟩ by simp [Addr.add]] at e0 e1 e2 e3 e4
  exact ⟨d0, d1, d2, d3, d4, e0, e1, e2, e3, e4⟩
set_option maxHeartbeats 8000000 in
set_option maxRecDepth 100000 in
theorem fil_10 (l : List Bd) (n : Int) (s t : ByteArray) (ps : List Tm) (hG : ∀ y ∈ ps, FilG l y) (hp : ∀ y ∈ ps, patB y = true) (hpl : ps.length ≤ 100000) : FilK l (.mk 10 n s t ps) 146 ptrA := by
  intro n0 W0 X mb W v hF hT
  unfold ptrA
  obtain ⟨A, cap, rfl, hR, -⟩ := hT.parts
  obtain ⟨W2, hW2⟩ : ∃ w1, w1 = (W.alloc (.cells #[.int .i8 10, .int .i64 n, .string s, .string t, .slice A ps.length cap] 25)).alloc (.cells #[.int .i8 0, .int .i64 0, .string ⟨#[]⟩, .string ⟨#[]⟩, .slice none 0 0] 44) := ⟨_, rfl⟩
  have g0 := there_of (.cells #[.int .i8 0, .int .i64 0, .string ⟨#[]⟩, .string ⟨#[]⟩, .slice none 0 0] 44) (block_alloc W (.cells #[.int .i8 10, .int .i64 n, .string s, .string t, .slice A ps.length cap] 25))
  have g1 := block_alloc (W.alloc (.cells #[.int .i8 10, .int .i64 n, .string s, .string t, .slice A ps.length cap] 25)) (.cells #[.int .i8 0, .int .i64 0, .string ⟨#[]⟩, .string ⟨#[]⟩, .slice none 0 0] 44)
  rw [World.size_alloc] at g1
  have b2 : Below W.heap.size W W2 := by rw [hW2]; exact ((Below.refl _ W).alloc (Nat.le_refl _) _).alloc (by simp) _
  have z2 : W2.heap.size = W.heap.size + 2 := by rw [hW2, World.size_alloc, World.size_alloc]
  rw [← hW2] at g0 g1
  have HB2 := Lib.hid b2
  have HG1 := Lib.hid g1
  have HZ2 := Lib.hid z2
  have HF2 := Lib.hid (hF.under b2)
  have HSPL := Lib.hid hF.sp.lt
  have HMY := Lib.hid (may10_mayL hF.ok)
  have HN0 : Hid (n0 ≤ W.heap.size) := Nat.le_trans hF.size hF.below.size
  have hpar := parts_any l 10 n s t ps hG (by omega) n0 W0 X mb A cap W2 (hF.under b2) (hR.later b2)
  obtain ⟨PE, hPE⟩ : ∃ e, e = parE l ps := ⟨_, rfl⟩
  unfold PartsP at hpar
  rw [← hPE] at hpar
  have HPAR := Lib.hid hpar
  have HPE := Lib.hid hPE
  have HPAT := Lib.hid hp
  have HPL : Hid (ps.length ≤ 100000) := hpl
  obtain ⟨x0, x1, x2, x3, x4⟩ := five_of g0
  clear hF hT hR hG hp g0 g1 b2 z2 hpar hPE hpl
  go_enter Tryz.func146, Tryz.ntmps146
  go_upto_region 1 with fail
  rw [← hW2]
  clear hW2
  have hcase : gvTsO (gvT l) ps = none ∨ ∃ vs, gvTsO (gvT l) ps = some vs := by cases gvTsO (gvT l) ps; exact .inl rfl; exact .inr ⟨_, rfl⟩
  rcases hcase with hg | ⟨vs, hg⟩
  · obtain ⟨h1, h3⟩ := fil_row (k := 10) (n := n) (s := s) (t := t) (by decide) hg
    rw [← HPE.out] at h1
    have HFE := Lib.hid h1
    have HGN := Lib.hid h3
    have hne : (PE != 0) = true := by rw [HPE.out]; simpa using par_no hg
    clear h1 h3 hg
    go_wp2_with fail
    refine HPAR.out.mono ?_
    rintro e W3 ⟨PA, pm, pc, rfl, -, b3⟩
    have HB3 := Lib.hid (HB2.out.trans (b3.mono HB2.out.size))
    have g3 := (b3.block _ (heap_lt HG1.out)).trans HG1.out
    clear b3 x0 x1 x2 x3 x4
    obtain ⟨⟨r0, r1, r2, r3, r4⟩, rf0, rf1, rf2, rf3, rf4⟩ := five_fr g3
    have S5 := Lib.hid (set_five (.int .i8 0) (.int .i64 0) (.string ⟨#[]⟩) (.string ⟨#[]⟩) (.slice none 0 0) g3)
    go_wp2_with fail
    obtain ⟨s5, m5⟩ := S5.out
    generalize ((((((W3).setCell ⟨W.heap.size + 1, 0, none⟩ (.int .i8 0)).setCell ⟨W.heap.size + 1, 1, none⟩ (.int .i64 0)).setCell ⟨W.heap.size + 1, 2, none⟩ (.string ⟨#[]⟩)).setCell ⟨W.heap.size + 1, 3, none⟩ (.string ⟨#[]⟩)).setCell ⟨W.heap.size + 1, 4, none⟩ (.slice none 0 0)) = VX at s5 m5 ⊢
    obtain ⟨z0, z1, z2, z3, z4⟩ := five_of s5
    refine bodyPost_ret (v := .tuple #[.agg #[.int .i8 0, .int .i64 0, .string ⟨#[]⟩, .string ⟨#[]⟩, .slice none 0 0], .int .i64 PE]) (by simp [results, Tryz.f146, go_sem, z0, z1, z2, z3, z4]) rfl ?_
    exact ⟨_, _, _, _, _, _, _, by rw [HFE.out], (fun y hy => by rw [HGN.out] at hy; cases hy), (fun _ => rfl), HB3.out.trans (m5.below HB3.out.size (fun q (e : q = _) => by omega))⟩
  · obtain ⟨h1, h3⟩ := fil_put (k := 10) (n := n) (s := s) (t := t) (by decide) hg
    have hck := gvTsO_check HMY.out hg (fun y hy => pat_gua y (HPAT.out y hy))
    have hfit := fitN_ok hck
    have hlen := gvTsO_len hg
    obtain rfl : PE = 0 := HPE.out.trans (par_zero hg)
    have HGP := Lib.hid h1
    have HG3 := Lib.hid h3
    have HGS := Lib.hid hg
    have HFIT := Lib.hid hfit
    have HLEN := Lib.hid hlen
    clear h1 h3 hck hfit hlen hg
    go_wp2_with fail
    refine HPAR.out.mono ?_
    rintro e W3 ⟨PA, pm, pc, rfl, hrows, b3⟩
    have hrow := hrows vs HGS.out
    have HB3 := Lib.hid (HB2.out.trans (b3.mono HB2.out.size))
    have HB23 : Hid (W2.heap.size ≤ W3.heap.size) := b3.size
    have HG13 := Lib.hid ((b3.block _ (heap_lt HG1.out)).trans HG1.out)
    have HF3 := Lib.hid (HF2.out.under b3)
    clear b3 hrows x0 x1 x2 x3 x4
    have HTP := Lib.hid (TupleZ_any (fun b => b < n0 ∨ (W2.heap.size ≤ b ∧ b < W3.heap.size)) vs PA pm pc W3 (fun b hb => by have := HB23.out; have := HN0.out; have := HZ2.out; rcases hb with h | h <;> omega) hrow HF3.out.sp (by have := HLEN.out; have := HPL.out; omega))
    obtain ⟨ec, hec⟩ : ∃ ec, ec = fitN 1 vs := ⟨_, rfl⟩
    have HEC := Lib.hid hec
    clear hrow hec
    go_wp2_with fail
    refine HTP.out.mono ?_
    rintro e W4 ⟨v, rfl, ⟨k9, n9, s9, t9, A9, L9, c9, rfl⟩, hT, hZ, b4⟩
    obtain ⟨m9, hm9⟩ : ∃ m, m = L9.length := ⟨_, rfl⟩
    rw [← HEC.out] at hT hZ ⊢
    rw [← hm9] at hT hZ ⊢
    clear hm9
    have HT := Lib.hid hT
    have HZV := Lib.hid hZ
    have HB4 := Lib.hid (HB3.out.trans (b4.mono HB3.out.size))
    have HB34 : Hid (W3.heap.size ≤ W4.heap.size) := b4.size
    have g4 := (b4.block _ (heap_lt HG13.out)).trans HG13.out
    clear hT hZ b4
    obtain ⟨⟨r0, r1, r2, r3, r4⟩, rf0, rf1, rf2, rf3, rf4⟩ := five_fr g4
    have S5 := Lib.hid (set_five (.int .i8 k9) (.int .i64 n9) (.string s9) (.string t9) (.slice A9 m9 c9) g4)
    go_wp2_with fail
    obtain ⟨s5, m5⟩ := S5.out
    generalize ((((((W4).setCell ⟨W.heap.size + 1, 0, none⟩ (.int .i8 k9)).setCell ⟨W.heap.size + 1, 1, none⟩ (.int .i64 n9)).setCell ⟨W.heap.size + 1, 2, none⟩ (.string s9)).setCell ⟨W.heap.size + 1, 3, none⟩ (.string t9)).setCell ⟨W.heap.size + 1, 4, none⟩ (.slice A9 m9 c9)) = VX at s5 m5 ⊢
    obtain ⟨z0, z1, z2, z3, z4⟩ := five_of s5
    refine bodyPost_ret (v := .tuple #[.agg #[.int .i8 k9, .int .i64 n9, .string s9, .string t9, .slice A9 m9 c9], .int .i64 ec]) (by simp [results, Tryz.f146, go_sem, z0, z1, z2, z3, z4]) rfl ?_
    have hput : putT l 10 n s vs = tupR vs := by unfold putT; rw [if_neg (by decide), if_neg (by decide), if_neg (by decide), if_neg (by decide), if_neg (by decide), if_pos rfl]
    have hFE : filE l (.mk 10 n s t ps) = ec := by
      rcases HFIT.out with h | h
      · rw [fil_ok (y := tupT vs) (by rw [HGP.out, hput]; unfold tupR; rw [if_pos h]), HEC.out, h]
      · rw [HG3.out (by rw [hput]; unfold tupR; rw [if_neg (by rw [h]; decide)]), HEC.out, h]
    have hx := m5.size
    have hy1 := HZ2.out
    have hy2 := HN0.out
    have hy3 := HB23.out
    have hy4 := HB34.out
    refine ⟨_, _, _, _, _, _, _, by rw [hFE], fun y hy => ?_, fun h => ?_, HB4.out.trans (m5.below HB4.out.size (fun q (e : q = _) => by omega))⟩
    · rw [HGP.out, hput] at hy
      unfold tupR at hy
      rw [← HEC.out] at hy
      by_cases h0 : ec = 0
      · rw [if_pos h0] at hy
        cases hy
        exact (HT.out h0).keep (fun q hb => m5.block q (by rcases hb with (h | h) | h <;> omega) (by rcases hb with (h | h) | h <;> omega)) (fun q hb => by rcases hb with (h | h) | h; (exact .inl h); (exact .inr ⟨by omega, by omega⟩); (exact .inr ⟨by omega, by omega⟩))
      · rw [if_neg h0] at hy; cases hy
    · rw [HGP.out, hput] at h
      unfold tupR at h
      rw [← HEC.out] at h
      by_cases h0 : ec = 0
      · rw [if_pos h0] at h; cases h
      · exact HZV.out h0
set_option maxHeartbeats 8000000 in
set_option maxRecDepth 100000 in
theorem fil_9 (l : List Bd) (n : Int) (s t : ByteArray) (ps : List Tm) (hG : ∀ y ∈ ps, FilG l y) (hp : ∀ y ∈ ps, patB y = true) (h2 : ps.length = 2) : FilK l (.mk 9 n s t ps) 145 ptrA := by
  intro n0 W0 X mb W v hF hT
  unfold ptrA
  obtain ⟨A, cap, rfl, hR, -⟩ := hT.parts
  obtain ⟨W2, hW2⟩ : ∃ w1, w1 = (W.alloc (.cells #[.int .i8 9, .int .i64 n, .string s, .string t, .slice A ps.length cap] 25)).alloc (.cells #[.int .i8 0, .int .i64 0, .string ⟨#[]⟩, .string ⟨#[]⟩, .slice none 0 0] 44) := ⟨_, rfl⟩
  have g0 := there_of (.cells #[.int .i8 0, .int .i64 0, .string ⟨#[]⟩, .string ⟨#[]⟩, .slice none 0 0] 44) (block_alloc W (.cells #[.int .i8 9, .int .i64 n, .string s, .string t, .slice A ps.length cap] 25))
  have g1 := block_alloc (W.alloc (.cells #[.int .i8 9, .int .i64 n, .string s, .string t, .slice A ps.length cap] 25)) (.cells #[.int .i8 0, .int .i64 0, .string ⟨#[]⟩, .string ⟨#[]⟩, .slice none 0 0] 44)
  rw [World.size_alloc] at g1
  have b2 : Below W.heap.size W W2 := by rw [hW2]; exact ((Below.refl _ W).alloc (Nat.le_refl _) _).alloc (by simp) _
  have z2 : W2.heap.size = W.heap.size + 2 := by rw [hW2, World.size_alloc, World.size_alloc]
  rw [← hW2] at g0 g1
  have HB2 := Lib.hid b2
  have HG1 := Lib.hid g1
  have HZ2 := Lib.hid z2
  have HF2 := Lib.hid (hF.under b2)
  have HSPL := Lib.hid hF.sp.lt
  have HMY := Lib.hid (may10_mayL hF.ok)
  have HN0 : Hid (n0 ≤ W.heap.size) := Nat.le_trans hF.size hF.below.size
  have hpar := parts_any l 9 n s t ps hG (by omega) n0 W0 X mb A cap W2 (hF.under b2) (hR.later b2)
  obtain ⟨PE, hPE⟩ : ∃ e, e = parE l ps := ⟨_, rfl⟩
  unfold PartsP at hpar
  rw [← hPE] at hpar
  have HPAR := Lib.hid hpar
  have HPE := Lib.hid hPE
  have HPAT := Lib.hid hp
  have H2 := Lib.hid h2
  obtain ⟨x0, x1, x2, x3, x4⟩ := five_of g0
  clear hF hT hR hG hp g0 g1 b2 z2 hpar hPE h2
  go_enter Tryz.func145, Tryz.ntmps145
  go_upto_region 1 with fail
  rw [← hW2]
  clear hW2
  have hcase : gvTsO (gvT l) ps = none ∨ ∃ vs, gvTsO (gvT l) ps = some vs := by cases gvTsO (gvT l) ps; exact .inl rfl; exact .inr ⟨_, rfl⟩
  rcases hcase with hg | ⟨vs, hg⟩
  · obtain ⟨h1, h3⟩ := fil_row (k := 9) (n := n) (s := s) (t := t) (by decide) hg
    rw [← HPE.out] at h1
    have HFE := Lib.hid h1
    have HGN := Lib.hid h3
    have hne : (PE != 0) = true := by rw [HPE.out]; simpa using par_no hg
    clear h1 h3 hg
    go_wp2_with fail
    refine HPAR.out.mono ?_
    rintro e W3 ⟨PA, pm, pc, rfl, -, b3⟩
    have HB3 := Lib.hid (HB2.out.trans (b3.mono HB2.out.size))
    have g3 := (b3.block _ (heap_lt HG1.out)).trans HG1.out
    clear b3 x0 x1 x2 x3 x4
    obtain ⟨⟨r0, r1, r2, r3, r4⟩, rf0, rf1, rf2, rf3, rf4⟩ := five_fr g3
    have S5 := Lib.hid (set_five (.int .i8 0) (.int .i64 0) (.string ⟨#[]⟩) (.string ⟨#[]⟩) (.slice none 0 0) g3)
    go_wp2_with fail
    obtain ⟨s5, m5⟩ := S5.out
    generalize ((((((W3).setCell ⟨W.heap.size + 1, 0, none⟩ (.int .i8 0)).setCell ⟨W.heap.size + 1, 1, none⟩ (.int .i64 0)).setCell ⟨W.heap.size + 1, 2, none⟩ (.string ⟨#[]⟩)).setCell ⟨W.heap.size + 1, 3, none⟩ (.string ⟨#[]⟩)).setCell ⟨W.heap.size + 1, 4, none⟩ (.slice none 0 0)) = VX at s5 m5 ⊢
    obtain ⟨z0, z1, z2, z3, z4⟩ := five_of s5
    refine bodyPost_ret (v := .tuple #[.agg #[.int .i8 0, .int .i64 0, .string ⟨#[]⟩, .string ⟨#[]⟩, .slice none 0 0], .int .i64 PE]) (by simp [results, Tryz.f145, go_sem, z0, z1, z2, z3, z4]) rfl ?_
    exact ⟨_, _, _, _, _, _, _, by rw [HFE.out], (fun y hy => by rw [HGN.out] at hy; cases hy), (fun _ => rfl), HB3.out.trans (m5.below HB3.out.size (fun q (e : q = _) => by omega))⟩
  · obtain ⟨h1, h3⟩ := fil_put (k := 9) (n := n) (s := s) (t := t) (by decide) hg
    have hck := gvTsO_check HMY.out hg (fun y hy => pat_gua y (HPAT.out y hy))
    have hfit := fitN_ok hck
    have hlen := gvTsO_len hg
    obtain rfl : PE = 0 := HPE.out.trans (par_zero hg)
    have HGP := Lib.hid h1
    have HG3 := Lib.hid h3
    have HGS := Lib.hid hg
    have HFIT := Lib.hid hfit
    have HLEN := Lib.hid hlen
    clear h1 h3 hck hfit hlen hg
    go_wp2_with fail
    refine HPAR.out.mono ?_
    rintro e W3 ⟨PA, pm, pc, rfl, hrows, b3⟩
    have hrow := hrows vs HGS.out
    have HB3 := Lib.hid (HB2.out.trans (b3.mono HB2.out.size))
    have HB23 : Hid (W2.heap.size ≤ W3.heap.size) := b3.size
    have HG13 := Lib.hid ((b3.block _ (heap_lt HG1.out)).trans HG1.out)
    have HF3 := Lib.hid (HF2.out.under b3)
    clear b3 hrows x0 x1 x2 x3 x4
    obtain ⟨a, b, rfl⟩ := two_of (HLEN.out.trans H2.out)
    obtain ⟨ad, k1, n1, s1, t1, A1, m1, c1, k2, n2, s2, t2, A2, m2, c2, rfl, rfl, hE1, hE2, hT1, hT2, had, hpc, -, -, -, -⟩ := row_two hrow
    have hQ : ∀ b, (b < n0 ∨ (W2.heap.size ≤ b ∧ b < W3.heap.size)) → b < W3.heap.size ∧ ¬ b = W.heap.size + 1 := fun b hb => by have := HB23.out; have := HN0.out; have := HZ2.out; rcases hb with h | h <;> (constructor <;> omega)
    have HSP : Hid (∀ V, Mod (fun q => q = W.heap.size + 1) W3 V → Below W.heap.size W V) := fun V mV => HB3.out.trans (mV.below HB3.out.size (fun q (e : q = _) => by omega))
    have HC : Hid (∀ V, Mod (fun q => q = W.heap.size + 1) W3 V → _) := fun V (mV : Mod (fun q => q = W.heap.size + 1) W3 V) => ConsZ_any (fun b => b < n0 ∨ (W2.heap.size ≤ b ∧ b < W3.heap.size)) a b k1 n1 k2 n2 s1 t1 s2 t2 A1 A2 m1 c1 m2 c2 V (fun q hq => Nat.lt_of_lt_of_le (hQ q hq).1 mV.size) (hT1.keep (fun q hq => mV.block q (hQ q hq).1 (hQ q hq).2) (fun _ h => h)) (hT2.keep (fun q hq => mV.block q (hQ q hq).1 (hQ q hq).2) (fun _ h => h)) (HF3.out.sp.below (B := W.heap.size) (mV.below HB3.out.size (fun q (e : q = _) => by omega)) HSPL.out)
    have HEL : Hid (∀ V, Mod (fun q => q = W.heap.size + 1) W3 V → _) := fun V (mV : Mod (fun q => q = W.heap.size + 1) W3 V) => two_mod hE1 hE2 (mV.block _ (hQ _ had).1 (hQ _ had).2)
    have HQ := Lib.hid hQ
    obtain ⟨ec, hec⟩ : ∃ ec, ec = fitN 1 [a, b] := ⟨_, rfl⟩
    have HEC := Lib.hid hec
    clear hrow hec hE1 hE2 hT1 hT2 had hQ hpc
    go_upto_region 4 with fail
    refine wp_region_held (S := fun V => Mod (fun q => q = W.heap.size + 1) W3 V) (by kernel_rfl) ?_
    show wpAnyH _ _ _ _ _ _ _ _ W3.drew
    have hS : Mod (fun q => q = W.heap.size + 1) W3 W3.drew := Mod.drew _ _
    have hg0 : W3.drew.heap[W.heap.size + 1]? = some (.cells #[.int .i8 0, .int .i64 0, .string ⟨#[]⟩, .string ⟨#[]⟩, .slice none 0 0] 44 (0, 0)) := HG13.out
    generalize W3.drew = V0 at hS hg0 ⊢
    refine wpAnyH_take (i := 0) (oi := ⟨some 18, _, _, _, _, _⟩) (v := ?_) rfl (by kernel_rfl) (by kernel_rfl) (by kernel_rfl) (fun _ _ _ h => h) (Or.inl ⟨by kernel_rfl, ?_⟩) (by assumption) ?_; rotate_left; (intro VV hSw; (try dsimp only at hSw); go_simp; first | done | with_reducible rfl); (try simp only [Act.put, sI, sZ, sS])
    refine wpAnyH_take (i := 1) (oi := ⟨some 19, _, _, _, _, _⟩) (v := ?_) rfl (by kernel_rfl) (by kernel_rfl) (by kernel_rfl) (fun _ _ _ h => h) (Or.inl ⟨by kernel_rfl, ?_⟩) (by assumption) ?_; rotate_left; (intro VV hSw; (try dsimp only at hSw); have h02 : (0 : Int) < 2 := (by decide); have h12 : (1 : Int) < 2 := (by decide); go_simp; first | done | with_reducible rfl); (try simp only [Act.put, sI, sZ, sS])
    refine wpAnyH_take (i := 2) (oi := ⟨some 20, _, _, _, _, _⟩) (v := ?_) rfl (by kernel_rfl) (by kernel_rfl) (by kernel_rfl) (fun _ _ _ h => h) (Or.inl ⟨by kernel_rfl, ?_⟩) (by assumption) ?_; rotate_left; (intro VV hSw; (try dsimp only at hSw); obtain ⟨d0, d1, d2, d3, d4, e0, e1, e2, e3, e4⟩ := HEL.out VV hSw; go_simp; first | done | with_reducible rfl); (try simp only [Act.put, sI, sZ, sS])
    refine wpAnyH_take (i := 3) (oi := ⟨some 21, _, _, _, _, _⟩) (v := ?_) rfl (by kernel_rfl) (by kernel_rfl) (by kernel_rfl) (fun _ _ _ h => h) (Or.inl ⟨by kernel_rfl, ?_⟩) (by assumption) ?_; rotate_left; (intro VV hSw; (try dsimp only at hSw); go_simp; first | done | with_reducible rfl); (try simp only [Act.put, sI, sZ, sS])
    refine wpAnyH_take (i := 4) (oi := ⟨some 22, _, _, _, _, _⟩) (v := ?_) rfl (by kernel_rfl) (by kernel_rfl) (by kernel_rfl) (fun _ _ _ h => h) (Or.inl ⟨by kernel_rfl, ?_⟩) (by assumption) ?_; rotate_left; (intro VV hSw; (try dsimp only at hSw); have h02 : (0 : Int) < 2 := (by decide); have h12 : (1 : Int) < 2 := (by decide); go_simp; first | done | with_reducible rfl); (try simp only [Act.put, sI, sZ, sS])
    refine wpAnyH_take (i := 5) (oi := ⟨some 23, _, _, _, _, _⟩) (v := ?_) rfl (by kernel_rfl) (by kernel_rfl) (by kernel_rfl) (fun _ _ _ h => h) (Or.inl ⟨by kernel_rfl, ?_⟩) (by assumption) ?_; rotate_left; (intro VV hSw; (try dsimp only at hSw); obtain ⟨d0, d1, d2, d3, d4, e0, e1, e2, e3, e4⟩ := HEL.out VV hSw; go_simp; first | done | with_reducible rfl); (try simp only [Act.put, sI, sZ, sS])
    refine wpAnyH_ready (rs := [6]) (by kernel_rfl) (by simp) ?_
    refine AllReadyH.cons (o := ⟨some 24, _, _, _, _, _⟩) rfl (fun K hK => ?_) AllReadyH.nil
    · rw [if_pos (by rfl)]
      go_simp
      refine (HC.out V0 hS).mono ?_
      rintro e V1 ⟨v, rfl, ⟨k9, n9, s9, t9, A9, m9, c9, rfl⟩, hT, hZ, b3⟩
      have hS1 := hS.trans (Mod.of_below (F := fun _ => False) b3) (fun _ _ f => f.elim)
      have hg1 := (b3.block _ (heap_lt hg0)).trans hg0
      rw [← HEC.out] at hT hZ ⊢
      refine hK.out _ _ hS1 (fun hSn => ?_)
      clear hK K hSn; (try simp only [Act.put, sI, sZ, sS])
      refine wpAnyH_take (i := 7) (oi := ⟨some 25, _, _, _, _, _⟩) (v := ?_) rfl (by kernel_rfl) (by kernel_rfl) (by kernel_rfl) (fun _ _ _ h => h) (Or.inl ⟨by kernel_rfl, ?_⟩) (by assumption) ?_; rotate_left; (intro VV hSw; (try dsimp only at hSw); go_simp; first | done | with_reducible rfl); (try simp only [Act.put, sI, sZ, sS])
      refine wpAnyH_take (i := 8) (oi := ⟨some 26, _, _, _, _, _⟩) (v := ?_) rfl (by kernel_rfl) (by kernel_rfl) (by kernel_rfl) (fun _ _ _ h => h) (Or.inl ⟨by kernel_rfl, ?_⟩) (by assumption) ?_; rotate_left; (intro VV hSw; (try dsimp only at hSw); go_simp; first | done | with_reducible rfl); (try simp only [Act.put, sI, sZ, sS])
      obtain ⟨⟨r0, r1, r2, r3, r4⟩, rf0, rf1, rf2, rf3, rf4⟩ := five_fr hg1
      obtain ⟨s5, m5⟩ := set_five (.int .i8 k9) (.int .i64 n9) (.string s9) (.string t9) (.slice A9 m9 c9) hg1
      refine wpAnyH_ready (rs := [9]) (by kernel_rfl) (by simp) ?_
      refine AllReadyH.cons (o := ⟨none, _, _, _, _, _⟩) rfl (fun K hK => ?_) AllReadyH.nil
      · rw [if_pos (by rfl)]
        go_simp
        generalize ((((((V1).setCell ⟨W.heap.size + 1, 0, none⟩ (.int .i8 k9)).setCell ⟨W.heap.size + 1, 1, none⟩ (.int .i64 n9)).setCell ⟨W.heap.size + 1, 2, none⟩ (.string s9)).setCell ⟨W.heap.size + 1, 3, none⟩ (.string t9)).setCell ⟨W.heap.size + 1, 4, none⟩ (.slice A9 m9 c9)) = VX at s5 m5 ⊢
        have hS9 : Mod (fun q => q = W.heap.size + 1) W3 VX := hS1.trans m5 (fun _ _ f => f)
        refine hK.out _ _ hS9 (fun hSn => ?_)
        clear hK K hSn; (try simp only [Act.put, sI, sZ, sS])
        refine wpAnyH_take (i := 10) (oi := ⟨some 5, _, _, _, _, _⟩) (v := ?_) rfl (by kernel_rfl) (by kernel_rfl) (by kernel_rfl) (fun _ _ _ h => h) (Or.inl ⟨by kernel_rfl, ?_⟩) (by assumption) ?_; rotate_left; (intro VV hSw; (try dsimp only at hSw); go_simp; first | done | with_reducible rfl); (try simp only [Act.put, sI, sZ, sS])
        refine wpAnyH_done (by kernel_rfl) ?_ _
        clear r0 rf0 r1 rf1 r2 rf2 r3 rf3 r4 rf4
        obtain ⟨z0, z1, z2, z3, z4⟩ := five_of s5
        go_wp2_with fail
        refine bodyPost_ret (v := .tuple #[.agg #[.int .i8 k9, .int .i64 n9, .string s9, .string t9, .slice A9 m9 c9], .int .i64 ec]) (by simp [results, Tryz.f145, go_sem, z0, z1, z2, z3, z4]) rfl ?_
        have hput : putT l 9 n s [a, b] = consR [a, b] := by unfold putT; rw [if_neg (by decide), if_neg (by decide), if_neg (by decide), if_neg (by decide), if_pos rfl]
        have hFE : filE l (.mk 9 n s t ps) = ec := by
          rcases HFIT.out with h | h
          · rw [fil_ok (y := consT a b) (by rw [HGP.out, hput]; unfold consR; dsimp only; rw [if_pos h]), HEC.out, h]
          · rw [HG3.out (by rw [hput]; unfold consR; dsimp only; rw [if_neg (by rw [h]; decide)]), HEC.out, h]
        have hz := HZ2.out
        have hz0 := hS.size
        have hz1 := b3.size
        have hz5 := m5.size
        have hz6 := HN0.out
        have hz7 := HB23.out
        refine ⟨_, _, _, _, _, _, _, by rw [hFE], fun y hy => ?_, fun h => ?_, HSP.out VX hS9⟩
        · rw [HGP.out, hput] at hy
          unfold consR at hy
          dsimp only at hy
          rw [← HEC.out] at hy
          by_cases h0 : ec = 0
          · rw [if_pos h0] at hy
            cases hy
            exact (hT h0).keep (fun q hb => m5.block q (by rcases hb with (h | h) | h <;> omega) (by rcases hb with (h | h) | h <;> omega)) (fun q hb => by rcases hb with (h | h) | h; (exact .inl h); (exact .inr ⟨by omega, by omega⟩); (exact .inr ⟨by omega, by omega⟩))
          · rw [if_neg h0] at hy; cases hy
        · rw [HGP.out, hput] at h
          unfold consR at h
          dsimp only at h
          rw [← HEC.out] at h
          by_cases h0 : ec = 0
          · rw [if_pos h0] at h; cases h
          · exact hZ h0
end Go.Proofs.YtkceoiaaiaomoaaGreatDoor
end
section
set_option linter.unusedVariables false
set_option linter.unusedSimpArgs false
namespace Go.Proofs.YtkceoiaaiaomoaaGreatDoor
open Go.RowKit

def fkRow (X : Nat) : Array Value := #[.nilFunc, .nilFunc, .nilFunc, .nilFunc, .nilFunc, .func (.func 141) #[.pointer (some ⟨X, 0, none⟩)] #[], .func (.func 142) #[] #[], .func (.func 143) #[] #[], .func (.func 144) #[] #[], .func (.func 145) #[.pointer (some ⟨X, 0, none⟩)] #[], .func (.func 146) #[.pointer (some ⟨X, 0, none⟩)] #[]]
theorem fkRow_set (mb X : Nat) : setF10 #[.map (some mb), .nilFunc, .nilFunc, .nilFunc, .nilFunc, .nilFunc, .nilFunc, .nilFunc, .nilFunc, .nilFunc, .nilFunc, .nilFunc] 1 (fkRow X).toList = fRow mb X := by kernel_rfl
theorem fkRow_one (X : Nat) : (fkRow X).all (·.oneCell') = true := by kernel_rfl
theorem fkRow_info : (Tryz.prog.info? 121).map (·.size) = some 11 := by kernel_rfl
theorem fkRow_size (X : Nat) : (fkRow X).size = 11 := rfl
set_option maxHeartbeats 4000000 in
set_option maxRecDepth 100000 in
theorem newF_any (n0 : Nat) (l : List Bd) (A : Option Addr) (pn cap : Nat) (W : World) (hR : BRow (· < n0) W A pn cap l) (hn0 : n0 ≤ W.heap.size) (hS : Spans W) (hok : may10 l = true) :
    Calls Tryz.prog 84 #[.slice A pn cap] W fun e w' => ∃ X mb, e = .returned (.pointer (some ⟨X, 0, none⟩)) ∧ FAt n0 W X mb l w' ∧ Below W.heap.size W w' := by
  have HC := Lib.hid (firsts10_any n0 l A pn cap W hR hn0)
  have HSP := Lib.hid hS
  have HOK := Lib.hid hok
  have HN0 : Hid (n0 ≤ W.heap.size) := hn0
  clear hR hS hok hn0
  go_enter Tryz.func84, Tryz.ntmps84
  go_wp2_with fail
  refine HC.out.mono ?_
  rintro e V3 ⟨rfl, b3, es, c, hm, hMB⟩
  obtain ⟨mb, hmb⟩ : ∃ mb, mb = W.heap.size := ⟨_, rfl⟩
  rw [← hmb] at hm ⊢
  obtain ⟨V4, hV4⟩ : ∃ V4, V4 = V3.alloc (.cells #[.map (some mb), .nilFunc, .nilFunc, .nilFunc, .nilFunc, .nilFunc, .nilFunc, .nilFunc, .nilFunc, .nilFunc, .nilFunc, .nilFunc] 123) := ⟨_, rfl⟩
  obtain ⟨X, hX⟩ : ∃ X, X = V3.heap.size := ⟨_, rfl⟩
  have b4 : Below V3.heap.size V3 V4 := by rw [hV4]; exact (Below.refl _ _).alloc (Nat.le_refl _) _
  have hx4 : V4.heap[X]? = some (.cells #[.map (some mb), .nilFunc, .nilFunc, .nilFunc, .nilFunc, .nilFunc, .nilFunc, .nilFunc, .nilFunc, .nilFunc, .nilFunc, .nilFunc] 123 (0, 0)) := by rw [hV4, hX]; exact block_alloc _ _
  have hm4 := (b4.block _ (heap_lt hm)).trans hm
  have hB4 := b3.trans (b4.mono b3.size)
  have hth : V4.there X 1 (fkRow X).size := fun j hj => by
    rw [fkRow_size] at hj
    have hlt : 1 + j < ((#[.map (some mb), .nilFunc, .nilFunc, .nilFunc, .nilFunc, .nilFunc, .nilFunc, .nilFunc, .nilFunc, .nilFunc, .nilFunc, .nilFunc] : Array Value)).size := by show 1 + j < 12; omega
    exact ⟨by rw [cell_of_row hx4 (Array.getElem?_eq_getElem hlt)]; rfl, free_of_row hx4⟩
  obtain ⟨V8, hV8⟩ : ∃ V8, V8 = V4.setCells X 1 (fkRow X).toList := ⟨_, rfl⟩
  have m8 : Mod (fun k => k = X) V4 V8 := by rw [hV8]; exact setCells_mod10 _ _ _
  have HFIN : Hid (FAt n0 W X mb l V8 ∧ Below W.heap.size W V8) := by
    have hm8 := (m8.block _ (heap_lt hm4) (fun e => by rw [e, hx4] at hm4; cases hm4)).trans hm4
    have hx8 : V8.heap[X]? = some (.cells (fRow mb X) 123 (0, 0)) := by rw [hV8, setCells_heap10 _ _ _ _ hx4, fkRow_set]
    have b8 : Below W.heap.size W V8 := hB4.trans (m8.below hB4.size (fun q (e : q = X) => by have := b3.size; omega))
    exact ⟨⟨b8.mono HN0.out, HN0.out, hx8, ⟨es, c, hm8, hMB⟩, HOK.out, HSP.out.below b8 HSP.out.lt⟩, b8⟩
  have HTH := Lib.hid hth
  have HV8 := Lib.hid hV8
  have HV4 := Lib.hid hV4
  have HX := Lib.hid hX
  clear b3 hm hMB hmb b4 hx4 hm4 hB4 hth m8 hV8 hV4 hX HC
  go_upto_region 2 with fail
  rw [← HV4.out, ← HX.out]
  clear HV4 HX
  go_upto_region 3 with (refine wpList_store_mid rfl 121 _ _ rfl X 1 (fkRow X) rfl rfl HTH.out (fkRow_info.trans (by rw [fkRow_size])) (fkRow_one X) ?_)
  rw [← HV8.out]
  clear HTH HV8
  go_wp2_with fail
  go_ret
  exact ⟨X, mb, rfl, HFIN.out.1, HFIN.out.2⟩
theorem fil_any (l : List Bd) (p : Tm) : patB p = true → p.nodes ≤ 100000 → FilG l p := by
  induction p using Tm.ind with
  | h k n s t ps ih =>
    intro hp hn n0 W0 X mb
    have hleaf : (k = 5 ∨ k = 6 ∨ k = 7 ∨ k = 8) ∧ ps = [] ∨ (k = 9 ∧ ps.length = 2) ∨ k = 10 := by
      have h := hp
      unfold patB leafB at h
      simp only [Bool.or_eq_true, Bool.and_eq_true, beq_iff_eq, List.isEmpty_iff] at h
      rcases h with h | h
      · exact .inl ⟨by omega, h.1.1⟩
      · rcases h.1.1.1.1 with h | h
        · exact .inr (.inr h)
        · exact .inr (.inl h)
    have hsub : (k = 9 ∨ k = 10) → ∀ y ∈ ps, FilG l y := fun hk y hy => ih y hy (pats_of hp hk y hy) (by
      have h1 := Tm.nodes_mem hy
      rw [Tm.nodes_mk] at hn
      omega)
    have hpl : ps.length ≤ 100000 := by
      have := len_pres11 ps
      rw [Tm.nodes_mk] at hn
      omega
    rcases hleaf with ⟨h, rfl⟩ | ⟨rfl, h2⟩ | rfl
    · rcases h with rfl | rfl | rfl | rfl
      · exact ⟨141, #[.pointer (some ⟨X, 0, none⟩)], 5, rfl, by decide, rfl, enters_of Tryz.func141 (by kernel_rfl) rfl, fun W v hF hT => fil_5 l n s t n0 W0 X mb W v hF hT⟩
      · exact ⟨142, #[], 6, rfl, by decide, rfl, enters_of Tryz.func142 (by kernel_rfl) rfl, fun W v hF hT => fil_6 l n s t n0 W0 X mb W v hF hT⟩
      · exact ⟨143, #[], 7, rfl, by decide, rfl, enters_of Tryz.func143 (by kernel_rfl) rfl, fun W v hF hT => fil_7 l n s t n0 W0 X mb W v hF hT⟩
      · exact ⟨144, #[], 8, rfl, by decide, rfl, enters_of Tryz.func144 (by kernel_rfl) rfl, fun W v hF hT => fil_8 l n s t n0 W0 X mb W v hF hT⟩
    · exact ⟨145, #[.pointer (some ⟨X, 0, none⟩)], 9, rfl, by decide, rfl, enters_of Tryz.func145 (by kernel_rfl) rfl, fun W v hF hT => fil_9 l n s t ps (hsub (.inl rfl)) (pats_of hp (.inl rfl)) h2 n0 W0 X mb W v hF hT⟩
    · exact ⟨146, #[.pointer (some ⟨X, 0, none⟩)], 10, rfl, by decide, rfl, enters_of Tryz.func146 (by kernel_rfl) rfl, fun W v hF hT => fil_10 l n s t ps (hsub (.inr rfl)) (pats_of hp (.inr rfl)) hpl n0 W0 X mb W v hF hT⟩
end Go.Proofs.YtkceoiaaiaomoaaGreatDoor
end
