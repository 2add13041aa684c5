/- The law GuardEach's walk, from the program's own contracts. -/
import Derived.Test.YthbiaaeoajmlbaaGreatDoorKStB
import Derived.Test.YthbiaaeoajmlbaaGreatDoorKHeldE
import Derived.Deep.DeepCutAuto
import Derived.Deep.RegionHeld
import Derived.OrdersHeld
import Derived.Tactics2
set_option linter.unusedVariables false
set_option linter.unusedSimpArgs false
namespace Go.Proofs.YthbiaaeoajmlbaaGreatDoor
open Go.RowKit

theorem pres_ge11 : ∀ l : List Tm, l.length ≤ (Tm.pres l).length := by
  intro l
  induction l with
  | nil => simp [Tm.pres]
  | cons x l ih =>
    rw [Tm.pres, List.length_append, List.length_cons]
    have h1 : 1 ≤ x.pre.length := (by obtain ⟨k, n, s, t, L⟩ := x; rw [Tm.pre]; simp)
    omega
def T9 (w6 w7 : World) (gt : Nat) (hs : List Tm) (wx : World) : Prop := Below w6.heap.size w6 wx ∧ ∃ RA rc, wx.heap[gt]? = some (.cells #[.int .i8 4, .int .i64 0, .string ⟨#[]⟩, .string ⟨#[]⟩, .slice RA hs.length rc] 25 (0, 0)) ∧ OwnTN w7.heap.size (· < w6.heap.size) wx (.slice RA hs.length rc) hs
theorem t9_of {w6 w7 wx V2 : World} {gt j : Nat} {RA RA2 : Option Addr} {rc rc2 : Nat} {hs2 : List Tm} (hgt : gt = w6.heap.size) (hz7 : w7.heap.size = w6.heap.size + 1) (hB6 : Below w6.heap.size w6 wx) (hS : Below w7.heap.size wx V2)
    (gR : V2.heap[gt]? = some (.cells #[.int .i8 4, .int .i64 0, .string ⟨#[]⟩, .string ⟨#[]⟩, .slice RA j rc] 25 (0, 0))) (O : OwnTN w7.heap.size (· < w6.heap.size) V2 (.slice RA2 hs2.length rc2) hs2) : T9 w6 w7 gt hs2 (V2.setCell ⟨gt, 4, none⟩ (.slice RA2 hs2.length rc2)) := by
  have m : Mod (fun k => k = gt) V2 (V2.setCell ⟨gt, 4, none⟩ (.slice RA2 hs2.length rc2)) := Mod.setCell _ _ _ (.inl rfl)
  have b2 : Below w6.heap.size w6 V2 := hB6.trans (hS.mono (by omega))
  refine ⟨b2.trans (m.below b2.size (fun k (e : k = gt) => by omega)), RA2, rc2, set_row _ (i := 4) gR, O.keep m (fun g hg e => by have h1 := (O.own g hg).1; omega) (fun b (hb : b < w6.heap.size) => ⟨Nat.lt_of_lt_of_le hb b2.size, by omega⟩) (fun _ h => h)⟩
set_option maxHeartbeats 16000000 in
set_option maxRecDepth 100000 in
theorem walk_GuardEach (v0 v1 : Value) (nm : ByteArray) (v3 : Value) (hnm : nm.size ≤ maxLen) (w : World) (o0 : ∃ t, TmAt (· < w.heap.size) w t v0) (o1 : ∃ A n cap l, v1 = .slice A n cap ∧ BRow (· < w.heap.size) w A n cap l) (o3 : ∃ t, TmAt (· < w.heap.size) w t v3) (hE : Env11 w) :
    Calls Tryz.prog 10 #[v0, v1, .string nm, v3] w fun e w' => e = .returned (.bool true) ∧ Below w.heap.size w w' := by
  obtain ⟨G, hG⟩ := o0
  obtain ⟨A, m, cap, l, rfl, hR⟩ := o1
  obtain ⟨t, hT⟩ := o3
  obtain ⟨tk, tn, ts_, tt_, tA, tm, tc, rfl⟩ : ∃ k n s t A m c, v3 = .agg #[.int .i8 k, .int .i64 n, .string s, .string t, .slice A m c] := by cases hT; exact ⟨_, _, _, _, _, _, _, rfl⟩
  obtain ⟨ps, hps⟩ : ∃ ps, ps = G.l := ⟨_, rfl⟩
  obtain ⟨gk, gn, gs_, gt_, gA, gc, rfl, hRG⟩ : ∃ k n s t A c, v0 = .agg #[.int .i8 k, .int .i64 n, .string s, .string t, .slice A ps.length c] ∧ TRow (· < w.heap.size) w A ps.length c ps := by
    obtain ⟨k, n, s, t, L⟩ := G
    obtain ⟨A, c, rfl, hRn, -⟩ := hG.parts
    have e : ps = L := hps
    subst e
    exact ⟨_, _, _, _, _, _, rfl, hRn⟩
  obtain ⟨pn, hpn⟩ : ∃ pn, pn = ps.length := ⟨_, rfl⟩
  rw [← hpn] at hG hRG ⊢
  obtain ⟨h0, z0⟩ := here_of (.cells #[.int .i8 gk, .int .i64 gn, .string gs_, .string gt_, .slice gA pn gc] 25) (rfl : w.heap.size = w.heap.size)
  obtain ⟨h1, z1⟩ := here_of (.cells #[.int .i8 tk, .int .i64 tn, .string ts_, .string tt_, .slice tA tm tc] 48) z0
  have g0 := there_of (.cells #[.int .i8 tk, .int .i64 tn, .string ts_, .string tt_, .slice tA tm tc] 48) h0
  obtain ⟨w1, hw1⟩ : ∃ w1, w1 = (w.alloc (.cells #[.int .i8 gk, .int .i64 gn, .string gs_, .string gt_, .slice gA pn gc] 25)).alloc (.cells #[.int .i8 tk, .int .i64 tn, .string ts_, .string tt_, .slice tA tm tc] 48) := ⟨_, rfl⟩
  have b1 : Below w.heap.size w w1 := by rw [hw1]; exact ((Below.refl _ w).alloc (Nat.le_refl _) _).alloc (by omega) _
  rw [← hw1] at g0 h1 z1
  have HTG := Lib.hid (hG.laterN b1)
  have HRG := Lib.hid (hRG.later b1)
  have HT := Lib.hid (hT.laterN b1)
  have HR := Lib.hid (hR.later b1)
  have HE := Lib.hid (hE.under b1)
  have HB1 := Lib.hid b1
  have HG0 := Lib.hid g0
  have HG1 := Lib.hid h1
  have HPS := Lib.hid hps
  have HPN := Lib.hid hpn
  have HNM := Lib.hid hnm
  have HB := Lib.hid (Below.refl w1.heap.size w1)
  obtain ⟨x0, x1, x2, x3, x4⟩ := five_of g0
  obtain ⟨y0, y1, y2, y3, y4⟩ := five_of h1
  clear h0 z0 z1 h1 g0 b1 hE hG hT hR hRG hps hpn
  go_enter Tryz.func10, Tryz.ntmps10
  go_upto_region 1 with fail
  rw [← hw1]
  clear hw1
  go_wp2_with fail
  refine (GreatN_any G _ w1 HTG.out).mono ?_
  rintro e w2 ⟨q0, rfl, hq0, b2⟩
  have HBn := Lib.hid (HB.out.trans (b2.mono HB.out.size))
  clear HB x0 x1 x2 x3 x4 y0 y1 y2 y3 y4
  have HB := HBn
  clear HBn
  have gx := (HB.out.block _ (heap_lt HG0.out)).trans HG0.out
  have gy := (HB.out.block _ (heap_lt HG1.out)).trans HG1.out
  obtain ⟨x0, x1, x2, x3, x4⟩ := five_of gx
  obtain ⟨y0, y1, y2, y3, y4⟩ := five_of gy
  clear gx gy
  clear b2
  cases q0 with
  | true =>
    go_wp2_with fail
    refine (wakes11_any w2 (HE.out.under HB.out)).mono ?_
    rintro e w9 ⟨rfl, b9⟩
    have HF := Lib.hid (HB1.out.trans ((HB.out.trans (b9.mono HB.out.size)).mono HB1.out.size))
    clear b9
    go_wp2_with fail
    go_ret
    exact ⟨rfl, HF.out⟩
  | false =>
  have HNG := Lib.hid (hq0 rfl)
  clear hq0
  go_wp2_with fail
  refine (great11_le l A m cap w2 (HR.out.later HB.out)).mono ?_
  rintro e w3 ⟨⟨q1, rfl, hq1⟩, b3⟩
  have HBn := Lib.hid (HB.out.trans (b3.mono HB.out.size))
  clear HB x0 x1 x2 x3 x4 y0 y1 y2 y3 y4
  have HB := HBn
  clear HBn
  have gx := (HB.out.block _ (heap_lt HG0.out)).trans HG0.out
  have gy := (HB.out.block _ (heap_lt HG1.out)).trans HG1.out
  obtain ⟨x0, x1, x2, x3, x4⟩ := five_of gx
  obtain ⟨y0, y1, y2, y3, y4⟩ := five_of gy
  clear gx gy
  clear b3
  cases q1 with
  | true =>
    go_wp2_with fail
    refine (wakes11_any w3 (HE.out.under HB.out)).mono ?_
    rintro e w9 ⟨rfl, b9⟩
    have HF := Lib.hid (HB1.out.trans ((HB.out.trans (b9.mono HB.out.size)).mono HB1.out.size))
    clear b9
    go_wp2_with fail
    go_ret
    exact ⟨rfl, HF.out⟩
  | false =>
  have HL := Lib.hid (hq1 rfl)
  clear hq1
  go_wp2_with fail
  refine (rCheck_any t _ w3 (HT.out.laterN HB.out)).mono ?_
  rintro e w4 ⟨rfl, b4⟩
  have HBn := Lib.hid (HB.out.trans (b4.mono HB.out.size))
  clear HB x0 x1 x2 x3 x4 y0 y1 y2 y3 y4
  have HB := HBn
  clear HBn
  have gx := (HB.out.block _ (heap_lt HG0.out)).trans HG0.out
  have gy := (HB.out.block _ (heap_lt HG1.out)).trans HG1.out
  obtain ⟨x0, x1, x2, x3, x4⟩ := five_of gx
  obtain ⟨y0, y1, y2, y3, y4⟩ := five_of gy
  clear gx gy
  clear b4
  by_cases hck : checkN t = 0
  rotate_left
  · have hc2 : (checkN t != 0) = true := by simpa using hck
    go_wp2_with fail
    refine (wakes11_any w4 (HE.out.under HB.out)).mono ?_
    rintro e w9 ⟨rfl, b9⟩
    have HF := Lib.hid (HB1.out.trans ((HB.out.trans (b9.mono HB.out.size)).mono HB1.out.size))
    clear b9
    go_wp2_with fail
    go_ret
    exact ⟨rfl, HF.out⟩
  rw [hck]
  have HCK := Lib.hid hck
  clear hck
  go_wp2_with fail
  refine (rGuard_any G _ w4 (HTG.out.laterN HB.out)).mono ?_
  rintro e w5 ⟨rfl, b5⟩
  have HBn := Lib.hid (HB.out.trans (b5.mono HB.out.size))
  clear HB x0 x1 x2 x3 x4 y0 y1 y2 y3 y4
  have HB := HBn
  clear HBn
  have gx := (HB.out.block _ (heap_lt HG0.out)).trans HG0.out
  have gy := (HB.out.block _ (heap_lt HG1.out)).trans HG1.out
  obtain ⟨x0, x1, x2, x3, x4⟩ := five_of gx
  obtain ⟨y0, y1, y2, y3, y4⟩ := five_of gy
  clear gx gy
  clear b5
  cases hgu : (fitsB G && guardB G) with
  | false =>
    go_wp2_with fail
    refine (wakes11_any w5 (HE.out.under HB.out)).mono ?_
    rintro e w9 ⟨rfl, b9⟩
    have HF := Lib.hid (HB1.out.trans ((HB.out.trans (b9.mono HB.out.size)).mono HB1.out.size))
    clear b9
    go_wp2_with fail
    go_ret
    exact ⟨rfl, HF.out⟩
  | true =>
  have HFG : Hid (fitsB G = true) := Lib.hid (by simp at hgu; exact hgu.1)
  have HGU : Hid (guardB G = true) := Lib.hid (by simp at hgu; exact hgu.2)
  clear hgu
  go_wp2_with fail
  refine (rmay_any l A m cap w5 (HR.out.later HB.out)).mono ?_
  rintro e w6 ⟨rfl, b6⟩
  have HBn := Lib.hid (HB.out.trans (b6.mono HB.out.size))
  clear HB x0 x1 x2 x3 x4 y0 y1 y2 y3 y4
  have HB := HBn
  clear HBn
  have gx := (HB.out.block _ (heap_lt HG0.out)).trans HG0.out
  have gy := (HB.out.block _ (heap_lt HG1.out)).trans HG1.out
  obtain ⟨x0, x1, x2, x3, x4⟩ := five_of gx
  obtain ⟨y0, y1, y2, y3, y4⟩ := five_of gy
  clear gx gy
  clear b6
  cases hml : mayL l with
  | false =>
    go_wp2_with fail
    refine (wakes11_any w6 (HE.out.under HB.out)).mono ?_
    rintro e w9 ⟨rfl, b9⟩
    have HF := Lib.hid (HB1.out.trans ((HB.out.trans (b9.mono HB.out.size)).mono HB1.out.size))
    clear b9
    go_wp2_with fail
    go_ret
    exact ⟨rfl, HF.out⟩
  | true =>
  have HML := Lib.hid hml
  clear hml
  go_upto_region 4 with fail
  obtain ⟨w7, hw7⟩ : ∃ w7, w7 = w6.alloc (.cells #[.int .i8 4, .int .i64 0, .string ⟨#[]⟩, .string ⟨#[]⟩, .slice none 0 0] 25) := ⟨_, rfl⟩
  obtain ⟨gt, hgt⟩ : ∃ gt, gt = w6.heap.size := ⟨_, rfl⟩
  have HT7 : Hid (T9 w6 w7 gt [] w7) := Lib.hid ⟨by rw [hw7]; exact (Below.refl _ _).alloc (Nat.le_refl _) _, none, 0, by rw [hw7, hgt]; exact block_alloc _ _, OwnTN.nil _ _ _⟩
  have HGT : Hid (gt = w6.heap.size) := Lib.hid hgt
  have HZ7 : Hid (w7.heap.size = w6.heap.size + 1) := Lib.hid (by rw [hw7, World.size_alloc])
  have HB6 := HB
  have HBn : Hid (Below w1.heap.size w1 w7) := Lib.hid (HB.out.trans (HT7.out.1.mono HB.out.size))
  clear HB x0 x1 x2 x3 x4 y0 y1 y2 y3 y4
  have HB := HBn
  clear HBn
  go_upto_region 5 with fail
  rw [← hw7, ← hgt]
  clear hw7 hgt
  have gx := (HB.out.block _ (heap_lt HG0.out)).trans HG0.out
  have gy := (HB.out.block _ (heap_lt HG1.out)).trans HG1.out
  obtain ⟨x0, x1, x2, x3, x4⟩ := five_of gx
  obtain ⟨y0, y1, y2, y3, y4⟩ := five_of gy
  clear gx gy
  have hpz : pn ≤ 8200 := by
    have h1 := HNG.out
    have h2 : G.nodes = (Tm.pres ps).length + 1 := by rw [HPS.out]; obtain ⟨k, n, s, t, L⟩ := G; exact Tm.nodes_mk _ _ _ _ _
    have h3 := pres_ge11 ps
    have h4 := HPN.out
    omega
  go_wp2_with fail
  go_loopw [9, 39] (fun p i wr => ∃ j : Nat, j ≤ pn ∧ i = .int .i64 j ∧ p = .bool ((ps.take j).all (tstT l)) ∧ Hid (T9 w6 w7 gt (ps.reverse.take j) wr)) (fun _ i _ => pn - (intOf i).toNat)
  case atStart => exact ⟨0, Nat.zero_le _, rfl, rfl, HT7⟩
  case round =>
    obtain ⟨j, hj, rfl, rfl, HTJ⟩ := hrel
    by_cases hlt : j < pn
    · obtain ⟨y, hy⟩ : ∃ y, ps[j]? = some y := ⟨ps[j]'(by rw [← HPN.out]; exact hlt), List.getElem?_eq_getElem _⟩
      obtain ⟨r, hr⟩ : ∃ r, pn = j + 1 + r := ⟨pn - (j + 1), by omega⟩
      have hrl : r < ps.length := by rw [← HPN.out]; omega
      obtain ⟨z, hz⟩ : ∃ z, ps[r]? = some z := ⟨ps[r], List.getElem?_eq_getElem hrl⟩
      obtain ⟨bT, RA, rc, gR, hO⟩ := HTJ.out
      have hjl : (ps.reverse.take j).length = j := by rw [List.length_take, List.length_reverse, ← HPN.out]; omega
      rw [hjl] at gR hO
      have hzr : ps.reverse[j]? = some z := by
        rw [List.getElem?_reverse (by rw [← HPN.out]; exact hlt), ← HPN.out, show pn - 1 - j = r by omega]; exact hz
      obtain ⟨hs2, hh2⟩ : ∃ hs2, hs2 = ps.reverse.take j ++ [z] := ⟨_, rfl⟩
      have HNX : Hid (ps.reverse.take (j + 1) = hs2) := Lib.hid (by rw [List.take_add_one, hzr, hh2]; rfl)
      have HH2 := Lib.hid hh2
      have HJL := Lib.hid hjl
      have HB := Lib.hid (HB6.out.trans (bT.mono HB6.out.size))
      have HGR := Lib.hid gR
      have HO := Lib.hid hO
      have HBT := Lib.hid bT
      obtain ⟨ad, u, rfl, had, hE, hTy⟩ := HRG.out.at_ j y hy
      obtain ⟨ad2, u2, hA2, -, hE2, hTz⟩ := HRG.out.at_ r z hz
      obtain rfl : ad = ad2 := Option.some.inj hA2
      obtain ⟨yk, yn, ys_, yt_, yA, ym, yc, rfl⟩ : ∃ k n s t A m c, u = .agg #[.int .i8 k, .int .i64 n, .string s, .string t, .slice A m c] := by cases hTy; exact ⟨_, _, _, _, _, _, _, rfl⟩
      obtain ⟨zk, zn, zs_, zt_, zA, zm, zc, rfl⟩ : ∃ k n s t A m c, u2 = .agg #[.int .i8 k, .int .i64 n, .string s, .string t, .slice A m c] := by cases hTz; exact ⟨_, _, _, _, _, _, _, rfl⟩
      have HEY : Hid (∀ V : World, (∀ b, b < w1.heap.size → V.heap[b]? = w1.heap[b]?) → V.cell? (ad.add (j * 5)) = some (.int .i8 yk) ∧ V.cell? ⟨(ad.add (j * 5)).block, (ad.add (j * 5)).off + 1, none⟩ = some (.int .i64 yn) ∧ V.cell? ⟨(ad.add (j * 5)).block, (ad.add (j * 5)).off + 2, none⟩ = some (.string ys_) ∧ V.cell? ⟨(ad.add (j * 5)).block, (ad.add (j * 5)).off + 3, none⟩ = some (.string yt_) ∧ V.cell? ⟨(ad.add (j * 5)).block, (ad.add (j * 5)).off + 4, none⟩ = some (.slice yA ym yc)) := Lib.hid (fun V hb => by
        obtain ⟨d0, d1, d2, d3, d4, he, e0, e1, e2, e3, e4⟩ := hE.keep (hb _ had)
        simp only [Value.agg.injEq, Array.mk.injEq, List.cons.injEq, and_true] at he
        obtain ⟨rfl, rfl, rfl, rfl, rfl⟩ := he
        exact ⟨e0, e1, e2, e3, e4⟩)
      have HEZ : Hid (∀ V : World, (∀ b, b < w1.heap.size → V.heap[b]? = w1.heap[b]?) → V.cell? (ad.add (r * 5)) = some (.int .i8 zk) ∧ V.cell? ⟨(ad.add (r * 5)).block, (ad.add (r * 5)).off + 1, none⟩ = some (.int .i64 zn) ∧ V.cell? ⟨(ad.add (r * 5)).block, (ad.add (r * 5)).off + 2, none⟩ = some (.string zs_) ∧ V.cell? ⟨(ad.add (r * 5)).block, (ad.add (r * 5)).off + 3, none⟩ = some (.string zt_) ∧ V.cell? ⟨(ad.add (r * 5)).block, (ad.add (r * 5)).off + 4, none⟩ = some (.slice zA zm zc)) := Lib.hid (fun V hb => by
        obtain ⟨d0, d1, d2, d3, d4, he, e0, e1, e2, e3, e4⟩ := hE2.keep (hb _ had)
        simp only [Value.agg.injEq, Array.mk.injEq, List.cons.injEq, and_true] at he
        obtain ⟨rfl, rfl, rfl, rfl, rfl⟩ := he
        exact ⟨e0, e1, e2, e3, e4⟩)
      have HTY := Lib.hid hTy
      have HTZ := Lib.hid hTz
      obtain ⟨PJ, hPJ⟩ : ∃ PJ, PJ = (ps.take (j + 1)).all (tstT l) := ⟨_, rfl⟩
      have hpj : PJ = ((ps.take j).all (tstT l) && tstT l y) := by rw [hPJ, List.take_add_one, hy, List.all_append]; simp
      have hmem : y ∈ G.l := by rw [← HPS.out]; exact List.mem_of_getElem? hy
      have HYT : Hid (testR l y = tstT l y) := Lib.hid (test_part l G HFG.out HGU.out HML.out y hmem)
      have HNY : Hid (y.nodes ≤ 8200) := Lib.hid (by
        have h1 : fitsB y = true := by
          have h := HFG.out
          revert h hmem
          generalize G = g
          intro hm h
          obtain ⟨k, n, s, t, L⟩ := g
          exact fits_mem h hm
        have h2 := of_decide_eq_true (show decide (y.nodes ≤ 4096 ∧ y.deep ≤ 64) = true from h1)
        omega)
      have HPJ := Lib.hid hPJ
      have HPJ2 := Lib.hid hpj
      have i1 : (j : Int) < (pn : Int) := by omega
      have HRR := Lib.hid hr
      clear hr hy hz bT gR hO hjl hzr hh2 had hE hE2 hTy hTz hA2 hPJ hpj hmem hrl x0 x1 x2 x3 x4 y0 y1 y2 y3 y4
      have gx := (HB.out.block _ (heap_lt HG0.out)).trans HG0.out
      have gy := (HB.out.block _ (heap_lt HG1.out)).trans HG1.out
      obtain ⟨x0, x1, x2, x3, x4⟩ := five_of gx
      obtain ⟨y0, y1, y2, y3, y4⟩ := five_of gy
      clear gx gy
      obtain ⟨e0, e1, e2, e3, e4⟩ := HEY.out wr (fun b hb => HB.out.block b hb)
      go_upto_region 8 with fail
      go_cut [9] (fun p wx => p = .bool PJ ∧ Hid (Below wr.heap.size wr wx))
      case first =>
        cases hall : (ps.take j).all (tstT l) with
        | false =>
          have hP2 : PJ = false := by rw [HPJ2.out, hall]; rfl
          clear hall
          subst hP2
          go_wp2_with fail
          go_meet
          exact ⟨rfl, Lib.hid (Below.refl _ _)⟩
        | true =>
          have hP2 : Hid (tstT l y = PJ) := Lib.hid (by rw [HPJ2.out, hall]; rfl)
          clear hall
          go_wp2_with fail
          refine (Test_any l y _ A m cap wr (HTY.out.laterN HB.out) (HR.out.later HB.out) HNY.out (HE.out.under HB.out)).mono ?_
          rintro e w5 ⟨rfl, b5⟩
          rw [HYT.out, hP2.out]
          have HB5 := Lib.hid b5
          clear b5
          go_wp2_with fail
          go_meet
          exact ⟨rfl, HB5⟩
      case rest =>
      obtain ⟨rfl, hcut⟩ := hcut
      obtain ⟨wx, hwx⟩ : ∃ w, w = wc := ⟨_, rfl⟩
      subst hwx
      have HBX := Lib.hid (HB.out.trans (hcut.out.mono HB.out.size))
      have HBT2 := Lib.hid (HBT.out.trans (hcut.out.mono HBT.out.size))
      have HGX := Lib.hid ((hcut.out.block _ (heap_lt HGR.out)).trans HGR.out)
      have HOX : Hid (OwnTN w7.heap.size (· < w6.heap.size) wx (.slice RA j rc) (ps.reverse.take j)) := Lib.hid (HO.out.keep (Mod.of_below (F := fun _ => False) hcut.out) (fun _ _ f => f) (fun b hb => ⟨Nat.lt_of_lt_of_le hb HBT.out.size, fun f => f⟩) (fun _ h => h))
      have HGL : Hid (gt < wx.heap.size) := Lib.hid (heap_lt HGX.out)
      have HG0X := Lib.hid ((HBX.out.block _ (heap_lt HG0.out)).trans HG0.out)
      have H17 : Hid (w1.heap.size ≤ w6.heap.size) := Lib.hid HB6.out.size
      have HL0 : Hid (w.heap.size < w1.heap.size) := Lib.hid (heap_lt HG0.out)
      clear hcut HO HGR e0 e1 e2 e3 e4 x0 x1 x2 x3 x4 y0 y1 y2 y3 y4
      go_upto_region 9 with fail
      · refine wp_region_E (S := fun V => Below w7.heap.size wx V) [15] (by kernel_rfl) ⟨rfl, rfl, rfl, Nat.le_refl _, fun _ _ => rfl⟩ (fun hS => ?_)
        have hO : OwnTN w7.heap.size (· < w6.heap.size) wx.drew (.slice RA j rc) (ps.reverse.take j) := HOX.out.keep (F := fun _ => False) ⟨rfl, rfl, rfl, Nat.le_refl _, fun _ _ _ => rfl⟩ (fun _ _ f => f) (fun b hb => ⟨Nat.lt_of_lt_of_le hb HBT2.out.size, fun f => f⟩) (fun _ h => h)
        have h7D : w7.heap.size ≤ wx.drew.heap.size := by have h1 := HZ7.out; have h2 := HGT.out; have h3 := HGL.out; show _ ≤ wx.heap.size; omega
        generalize wx.drew = D at hS hO h7D ⊢
        refine wpAnyE_take (i := 0) (oi := ⟨some 52, _, _, _, _, _⟩) (v := ?_) rfl (by kernel_rfl) (by kernel_rfl) (by kernel_rfl) (by kernel_rfl) (fun _ _ _ h => h) (Or.inl ⟨by kernel_rfl, ?_⟩) (by assumption) ?_; rotate_left; (intro VV hSw; (try dsimp only at hSw); go_simp; first | done | with_reducible rfl); (try simp only [Act.put, sI, sZ, sS])
        refine wpAnyE_take (i := 1) (oi := ⟨some 53, _, _, _, _, _⟩) (v := ?_) rfl (by kernel_rfl) (by kernel_rfl) (by kernel_rfl) (by kernel_rfl) (fun _ _ _ h => h) (Or.inl ⟨by kernel_rfl, ?_⟩) (by assumption) ?_; rotate_left; (intro VV hSw; (try dsimp only at hSw); have l1 := HZ7.out; have l2 := HGT.out; have l3 := H17.out; have l4 := HL0.out; have hx := (hSw.block _ (by omega)).trans HGX.out; have x4 : VV.cell? ⟨gt, 4, none⟩ = some (.slice RA j rc) := cell_of_row (i := 4) hx rfl; clear l1 l2 l3 l4; go_simp; first | done | with_reducible rfl); (try simp only [Act.put, sI, sZ, sS])
        refine wpAnyE_take (i := 2) (oi := ⟨some 54, _, _, _, _, _⟩) (v := ?_) rfl (by kernel_rfl) (by kernel_rfl) (by kernel_rfl) (by kernel_rfl) (fun _ _ _ h => h) (Or.inl ⟨by kernel_rfl, ?_⟩) (by assumption) ?_; rotate_left; (intro VV hSw; (try dsimp only at hSw); go_simp; first | done | with_reducible rfl); (try simp only [Act.put, sI, sZ, sS])
        refine wpAnyE_take (i := 3) (oi := ⟨some 55, _, _, _, _, _⟩) (v := ?_) rfl (by kernel_rfl) (by kernel_rfl) (by kernel_rfl) (by kernel_rfl) (fun _ _ _ h => h) (Or.inl ⟨by kernel_rfl, ?_⟩) (by assumption) ?_; rotate_left; (intro VV hSw; (try dsimp only at hSw); have l1 := HZ7.out; have l2 := HGT.out; have l3 := H17.out; have l4 := HL0.out; have hx := (hSw.block _ (by omega)).trans HG0X.out; have x4 : VV.cell? ⟨w.heap.size, 4, none⟩ = some (.slice (some ad) pn gc) := cell_of_row (i := 4) hx rfl; clear l1 l2 l3 l4; go_simp; first | done | with_reducible rfl); (try simp only [Act.put, sI, sZ, sS])
        refine wpAnyE_take (i := 4) (oi := ⟨some 56, _, _, _, _, _⟩) (v := ?_) rfl (by kernel_rfl) (by kernel_rfl) (by kernel_rfl) (by kernel_rfl) (fun _ _ _ h => h) (Or.inl ⟨by kernel_rfl, ?_⟩) (by assumption) ?_; rotate_left; (intro VV hSw; (try dsimp only at hSw); go_simp; first | done | with_reducible rfl); (try simp only [Act.put, sI, sZ, sS])
        refine wpAnyE_take (i := 5) (oi := ⟨some 57, _, _, _, _, _⟩) (v := ?_) rfl (by kernel_rfl) (by kernel_rfl) (by kernel_rfl) (by kernel_rfl) (fun _ _ _ h => h) (Or.inl ⟨by kernel_rfl, ?_⟩) (by assumption) ?_; rotate_left; (intro VV hSw; (try dsimp only at hSw); have l1 := HZ7.out; have l2 := HGT.out; have l3 := H17.out; have l4 := HL0.out; have hx := (hSw.block _ (by omega)).trans HG0X.out; have x4 : VV.cell? ⟨w.heap.size, 4, none⟩ = some (.slice (some ad) pn gc) := cell_of_row (i := 4) hx rfl; clear l1 l2 l3 l4; go_simp; first | done | with_reducible rfl); (try simp only [Act.put, sI, sZ, sS])
        refine wpAnyE_take (i := 6) (oi := ⟨some 58, _, _, _, _, _⟩) (v := ?_) rfl (by kernel_rfl) (by kernel_rfl) (by kernel_rfl) (by kernel_rfl) (fun _ _ _ h => h) (Or.inl ⟨by kernel_rfl, ?_⟩) (by assumption) ?_; rotate_left; (intro VV hSw; (try dsimp only at hSw); go_simp; first | done | with_reducible rfl); (try simp only [Act.put, sI, sZ, sS])
        refine wpAnyE_take (i := 7) (oi := ⟨some 59, _, _, _, _, _⟩) (v := ?_) rfl (by kernel_rfl) (by kernel_rfl) (by kernel_rfl) (by kernel_rfl) (fun _ _ _ h => h) (Or.inl ⟨by kernel_rfl, ?_⟩) (by assumption) ?_; rotate_left; (intro VV hSw; (try dsimp only at hSw); have s5 : IntKind.i64.wrap ((pn : Int) - 1) = (pn : Int) - 1 := (by rw [IntKind.wrap_i64]; omega); go_simp; first | done | with_reducible rfl); (try simp only [Act.put, sI, sZ, sS])
        refine wpAnyE_take (i := 8) (oi := ⟨some 60, _, _, _, _, _⟩) (v := ?_) rfl (by kernel_rfl) (by kernel_rfl) (by kernel_rfl) (by kernel_rfl) (fun _ _ _ h => h) (Or.inl ⟨by kernel_rfl, ?_⟩) (by assumption) ?_; rotate_left; (intro VV hSw; (try dsimp only at hSw); go_simp; first | done | with_reducible rfl); (try simp only [Act.put, sI, sZ, sS])
        refine wpAnyE_take (i := 9) (oi := ⟨some 61, _, _, _, _, _⟩) (v := ?_) rfl (by kernel_rfl) (by kernel_rfl) (by kernel_rfl) (by kernel_rfl) (fun _ _ _ h => h) (Or.inl ⟨by kernel_rfl, ?_⟩) (by assumption) ?_; rotate_left; (intro VV hSw; (try dsimp only at hSw); have s0 := HRR.out; have s6 : IntKind.i64.wrap ((pn : Int) - 1 - (j : Int)) = (r : Int) := (by rw [IntKind.wrap_i64]; omega); clear s0; go_simp; first | done | with_reducible rfl); (try simp only [Act.put, sI, sZ, sS])
        refine wpAnyE_take (i := 10) (oi := ⟨some 62, _, _, _, _, _⟩) (v := ?_) rfl (by kernel_rfl) (by kernel_rfl) (by kernel_rfl) (by kernel_rfl) (fun _ _ _ h => h) (Or.inl ⟨by kernel_rfl, ?_⟩) (by assumption) ?_; rotate_left; (intro VV hSw; (try dsimp only at hSw); have s0 := HRR.out; have s2 : (r : Int) < (pn : Int) := (by omega); have s3 : r < pn := (by omega); clear s0; go_simp; first | done | with_reducible rfl); (try simp only [Act.put, sI, sZ, sS])
        refine wpAnyE_take (i := 11) (oi := ⟨some 63, _, _, _, _, _⟩) (v := ?_) rfl (by kernel_rfl) (by kernel_rfl) (by kernel_rfl) (by kernel_rfl) (fun _ _ _ h => h) (Or.inl ⟨by kernel_rfl, ?_⟩) (by assumption) ?_; rotate_left; (intro VV hSw; (try dsimp only at hSw); have l1 := HZ7.out; have l2 := HGT.out; have l3 := H17.out; have l4 := HL0.out; obtain ⟨f0, f1, f2, f3, f4⟩ := HEZ.out VV (fun b hb => (hSw.block b (by omega)).trans (HBX.out.block b hb)); clear l1 l2 l3 l4; go_simp; first | done | with_reducible rfl); (try simp only [Act.put, sI, sZ, sS])
        refine wpAnyE_one (i := 12) (o := ⟨some 64, _, _, _, _, _⟩) (by kernel_rfl) rfl (fun K hK => ?_)
        rw [if_pos (by rfl)]
        go_simp
        have hg5 := block_alloc D (.cells #[.int .i8 zk, .int .i64 zn, .string zs_, .string zt_, .slice zA zm zc] 25)
        have hS1 : Below w7.heap.size wx (D.alloc (.cells #[.int .i8 zk, .int .i64 zn, .string zs_, .string zt_, .slice zA zm zc] 25)) := hS.trans ((Below.refl _ D).alloc h7D _)
        have bD : Below D.heap.size D (D.alloc (.cells #[.int .i8 zk, .int .i64 zn, .string zs_, .string zt_, .slice zA zm zc] 25)) := (Below.refl _ D).alloc (Nat.le_refl _) _
        have hO1 : OwnTN w7.heap.size (· < w6.heap.size) (D.alloc (.cells #[.int .i8 zk, .int .i64 zn, .string zs_, .string zt_, .slice zA zm zc] 25)) (.slice RA j rc) (ps.reverse.take j) := hO.keep (Mod.of_below (F := fun _ => False) bD) (fun _ _ f => f) (fun b (hb : b < w6.heap.size) => ⟨by have := HZ7.out; omega, fun f => f⟩) (fun _ h => h)
        have h71 := Nat.le_trans h7D bD.size
        obtain ⟨g5, hg⟩ : ∃ g, g = D.heap.size := ⟨_, rfl⟩
        rw [← hg] at hg5
        refine hK.out _ _ hS1 (fun hSn => ?_)
        clear hK K hSn; (try simp only [Act.put, sI, sZ, sS])
        rw [← hg]
        clear hg bD
        generalize D.alloc (.cells #[.int .i8 zk, .int .i64 zn, .string zs_, .string zt_, .slice zA zm zc] 25) = D1 at hg5 hS1 hO1 h71 ⊢
        clear hS hO h7D
        refine wpAnyE_one (i := 13) (o := ⟨some 65, _, _, _, _, _⟩) (by kernel_rfl) rfl (fun K hK => ?_)
        rw [if_pos (by rfl)]
        have hPP : ∀ b, (· < w6.heap.size) b → b < D1.heap.size ∧ (Value.slice RA j rc).ownBlock ≠ some b := fun b (hb : b < w6.heap.size) => ⟨by have := HZ7.out; omega, fun e => by have h1 := (hO1.own b e).1; have := HZ7.out; omega⟩
        have hTz : TmAt (· < w6.heap.size) D1 z (.agg #[.int .i8 zk, .int .i64 zn, .string zs_, .string zt_, .slice zA zm zc]) := HTZ.out.keep (fun b hb => (hS1.block b (by have := HZ7.out; have := H17.out; omega)).trans (HBX.out.block b hb)) (fun b (hb : b < w1.heap.size) => by have := H17.out; show b < _; omega)
        refine wp_own_termN (.tmp 53) (.tmp 64) rfl hO1 h71 hPP rfl g5 rfl hg5 hTz (by have h1 := HJL.out; omega) ?_
        intro v2 D2 O hg hb
        rw [← HH2.out] at O
        have mg : Mod (fun g => (Value.slice RA j rc).ownBlock = some g) D1 D2 := Mod.grown hg (fun _ _ e => e)
        have hS2 : Below w7.heap.size wx D2 := hS1.trans (mg.below h71 (fun g e => (hO1.own g e).1))
        obtain ⟨A7, cap7, rfl⟩ := O.shape
        have gx2 := (hS2.block gt (by have := HZ7.out; have := HGT.out; omega)).trans HGX.out
        have HT9 := Lib.hid (t9_of HGT.out HZ7.out HBT2.out hS2 gx2 O)
        have y4 : D2.cell? ⟨gt, 4, none⟩ = some (.slice RA j rc) := cell_of_row (i := 4) gx2 rfl
        have yf : D2.frozen? ⟨gt, 4, none⟩ = false := free_of_row (i := 4) gx2
        refine hK.out _ _ hS2 (fun hSn => ?_)
        clear hK K hSn; (try simp only [Act.put, sI, sZ, sS])
        clear O hg hb mg gx2 hPP hTz hO1 hS1 h71 hg5
        refine wpAnyE_take (i := 14) (oi := ⟨some 66, _, _, _, _, _⟩) (v := ?_) rfl (by kernel_rfl) (by kernel_rfl) (by kernel_rfl) (by kernel_rfl) (fun _ _ _ h => h) (Or.inl ⟨by kernel_rfl, ?_⟩) hS2 ?_; rotate_left; (intro VV hSw; (try dsimp only at hSw); go_simp; first | done | with_reducible rfl); (try simp only [Act.put, sI, sZ, sS])
        refine wpAnyE_late (i := 15) (o := ⟨none, _, _, _, _, _⟩) (by kernel_rfl) rfl (by kernel_rfl) (fun K hK => ?_)
        rw [if_pos (by rfl)]
        go_simp
        refine hK.out _ _ ?_
        clear hK K; (try simp only [Act.put, sI, sZ, sS])
        refine wpAny_done (by kernel_rfl) ?_ _
        clear y4 yf
        have HT10 : Hid (T9 w6 w7 gt (ps.reverse.take (j + 1)) (D2.setCell ⟨gt, 4, none⟩ (.slice A7 hs2.length cap7))) := Lib.hid (by rw [HNX.out]; exact HT9.out)
        have HPJ3 := HPJ.out
        generalize D2.setCell ⟨gt, 4, none⟩ (.slice A7 hs2.length cap7) = w10 at HT10 ⊢
        clear HT9
        go_wp2_with fail
        go_roundw
        case rel => exact ⟨j + 1, by omega, by go_num, by rw [HPJ3], HT10⟩
        case measure => simp [intOf]; omega
    · obtain rfl : pn = j := by omega
      obtain ⟨bT, RA, rc, gR, hO⟩ := HTJ.out
      have hrl : ps.reverse.take pn = ps.reverse := List.take_of_length_le (by rw [List.length_reverse, ← HPN.out]; exact Nat.le_refl _)
      have hrn : ps.reverse.length = pn := by rw [List.length_reverse, ← HPN.out]
      have hal : (ps.take pn).all (tstT l) = ps.all (tstT l) := by rw [HPN.out, List.take_length]
      rw [hrl] at gR hO
      rw [hrn] at gR hO
      rw [hal]
      have hTT : TmAt (· < wr.heap.size) wr (turnT11 ps.reverse) (.agg #[.int .i8 4, .int .i64 0, .string ⟨#[]⟩, .string ⟨#[]⟩, .slice RA pn rc]) := by
        have hr := (hO.trow (Q := (· < wr.heap.size)) (fun b hb => Nat.lt_of_lt_of_le hb bT.size) (fun b _ h _ => h)).2
        have hr2 : TRow (· < wr.heap.size) wr RA ps.reverse.length rc ps.reverse := by rw [hrn]; exact hr
        have e2 := TmAt.of_row (k := 4) (n := 0) (s := ⟨#[]⟩) (t := ⟨#[]⟩) hr2 (by decide) (by decide) (by decide) (by decide)
        rw [hrn] at e2
        exact e2
      obtain ⟨AL, hAL⟩ : ∃ AL, AL = ps.all (tstT l) := ⟨_, rfl⟩
      rw [← hAL]
      have HH1 : Hid (holdR l G = AL) := Lib.hid (by rw [hold_all l G HFG.out HGU.out HML.out, ← HPS.out]; exact hAL.symm)
      have HH2 : Hid (holdR l (turnT11 ps.reverse) = AL) := Lib.hid (by rw [HPS.out, hold_turned l G HFG.out HGU.out]; exact HH1.out)
      have HNT : Hid ((turnT11 ps.reverse).nodes ≤ 8200) := Lib.hid (by
        have h1 := HNG.out
        have h2 : G.nodes = (Tm.pres ps).length + 1 := by rw [HPS.out]; obtain ⟨k, n, s, t, L⟩ := G; exact Tm.nodes_mk _ _ _ _ _
        unfold turnT11
        rw [Tm.nodes_mk, pres_len_rev]
        omega)
      have HTT := Lib.hid hTT
      have HGR := Lib.hid gR
      have HB := Lib.hid (HB6.out.trans (bT.mono HB6.out.size))
      have HBR := Lib.hid (Below.refl wr.heap.size wr)
      clear bT gR hO hrl hrn hal hTT hAL HTJ x0 x1 x2 x3 x4 y0 y1 y2 y3 y4
      have gx := (HB.out.block _ (heap_lt HG0.out)).trans HG0.out
      have gy := (HB.out.block _ (heap_lt HG1.out)).trans HG1.out
      obtain ⟨x0, x1, x2, x3, x4⟩ := five_of gx
      obtain ⟨y0, y1, y2, y3, y4⟩ := five_of gy
      clear gx gy
      have gz := (HBR.out.block _ (heap_lt HGR.out)).trans HGR.out
      obtain ⟨z0, z1, z2, z3, z4⟩ := five_of gz
      clear gz
      cases AL with
      | false =>
        go_wp2_with fail
        refine (Holds_any l G _ A m cap wr (HTG.out.laterN HB.out) (HR.out.later HB.out) (by have := HNG.out; omega) (HE.out.under HB.out)).mono ?_
        rintro e w11 ⟨rfl, c11⟩
        have HBn := Lib.hid (HB.out.trans (c11.mono HB.out.size))
        have HBRn := Lib.hid (HBR.out.trans (c11.mono HBR.out.size))
        clear HB HBR x0 x1 x2 x3 x4 y0 y1 y2 y3 y4 z0 z1 z2 z3 z4
        have HB := HBn
        have HBR := HBRn
        clear HBn HBRn
        have gx := (HB.out.block _ (heap_lt HG0.out)).trans HG0.out
        have gy := (HB.out.block _ (heap_lt HG1.out)).trans HG1.out
        obtain ⟨x0, x1, x2, x3, x4⟩ := five_of gx
        obtain ⟨y0, y1, y2, y3, y4⟩ := five_of gy
        clear gx gy
        have gz := (HBR.out.block _ (heap_lt HGR.out)).trans HGR.out
        obtain ⟨z0, z1, z2, z3, z4⟩ := five_of gz
        clear gz
        clear c11
        rw [HH1.out]
        go_wp2_with fail
        refine (Holds_any l (turnT11 ps.reverse) _ A m cap w11 (HTT.out.laterN HBR.out) (HR.out.later HB.out) HNT.out (HE.out.under HB.out)).mono ?_
        rintro e w12 ⟨rfl, c12⟩
        have HBn := Lib.hid (HB.out.trans (c12.mono HB.out.size))
        have HBRn := Lib.hid (HBR.out.trans (c12.mono HBR.out.size))
        clear HB HBR x0 x1 x2 x3 x4 y0 y1 y2 y3 y4 z0 z1 z2 z3 z4
        have HB := HBn
        have HBR := HBRn
        clear HBn HBRn
        have gx := (HB.out.block _ (heap_lt HG0.out)).trans HG0.out
        have gy := (HB.out.block _ (heap_lt HG1.out)).trans HG1.out
        obtain ⟨x0, x1, x2, x3, x4⟩ := five_of gx
        obtain ⟨y0, y1, y2, y3, y4⟩ := five_of gy
        clear gx gy
        have gz := (HBR.out.block _ (heap_lt HGR.out)).trans HGR.out
        obtain ⟨z0, z1, z2, z3, z4⟩ := five_of gz
        clear gz
        clear c12
        rw [HH2.out]
        go_wp2_with fail
        refine (rVars_any G _ w12 (HTG.out.laterN HB.out)).mono ?_
        rintro e w13 ⟨VA, vc, rfl, hV, hvl, c13⟩
        have HBn := Lib.hid (HB.out.trans (c13.mono HB.out.size))
        have HBRn := Lib.hid (HBR.out.trans (c13.mono HBR.out.size))
        clear HB HBR x0 x1 x2 x3 x4 y0 y1 y2 y3 y4 z0 z1 z2 z3 z4
        have HB := HBn
        have HBR := HBRn
        clear HBn HBRn
        have gx := (HB.out.block _ (heap_lt HG0.out)).trans HG0.out
        have gy := (HB.out.block _ (heap_lt HG1.out)).trans HG1.out
        obtain ⟨x0, x1, x2, x3, x4⟩ := five_of gx
        obtain ⟨y0, y1, y2, y3, y4⟩ := five_of gy
        clear gx gy
        have gz := (HBR.out.block _ (heap_lt HGR.out)).trans HGR.out
        obtain ⟨z0, z1, z2, z3, z4⟩ := five_of gz
        clear gz
        clear c13
        have HC := Lib.hid (rhas_any (varsL G) nm VA vc w13 (by unfold maxLen; omega) hV)
        clear hV
        obtain ⟨vn, hvn⟩ : ∃ vn, vn = (varsL G).length := ⟨_, rfl⟩
        rw [← hvn] at HC hvl ⊢
        clear hvn
        go_wp2_with fail
        refine (HC.out).mono ?_
        rintro e w14 ⟨rfl, c14⟩
        have HBn := Lib.hid (HB.out.trans (c14.mono HB.out.size))
        have HBRn := Lib.hid (HBR.out.trans (c14.mono HBR.out.size))
        clear HB HBR x0 x1 x2 x3 x4 y0 y1 y2 y3 y4 z0 z1 z2 z3 z4
        have HB := HBn
        have HBR := HBRn
        clear HBn HBRn
        have gx := (HB.out.block _ (heap_lt HG0.out)).trans HG0.out
        have gy := (HB.out.block _ (heap_lt HG1.out)).trans HG1.out
        obtain ⟨x0, x1, x2, x3, x4⟩ := five_of gx
        obtain ⟨y0, y1, y2, y3, y4⟩ := five_of gy
        clear gx gy
        have gz := (HBR.out.block _ (heap_lt HGR.out)).trans HGR.out
        obtain ⟨z0, z1, z2, z3, z4⟩ := five_of gz
        clear gz
        clear c14 HC
        cases hvh : hasL (varsL G) nm with
        | true =>
          go_wp2_with fail
          refine (wakes11_any w14 (HE.out.under HB.out)).mono ?_
          rintro e w9 ⟨rfl, b9⟩
          have HF := Lib.hid (HB1.out.trans ((HB.out.trans (b9.mono HB.out.size)).mono HB1.out.size))
          clear b9
          go_wp2_with fail
          go_ret
          exact ⟨rfl, HF.out⟩
        | false =>
        have HH3 : Hid (holdR ([(nm, t)] ++ l) G = false) := Lib.hid (by rw [hold_fresh l nm t G HFG.out hvh HCK.out]; exact HH1.out)
        clear hvh
        obtain ⟨w15, hw15⟩ : ∃ w15, w15 = w14.alloc (.cells #[.string nm, .int .i8 tk, .int .i64 tn, .string ts_, .string tt_, .slice tA tm tc] 65) := ⟨_, rfl⟩
        obtain ⟨gb, hgb⟩ : ∃ gb, gb = w14.heap.size := ⟨_, rfl⟩
        have hB5 : w15.heap[gb]? = some (.cells #[.string nm, .int .i8 tk, .int .i64 tn, .string ts_, .string tt_, .slice tA tm tc] 65 (0, 0)) := by rw [hw15, hgb]; exact block_alloc _ _
        have b15 : Below w14.heap.size w14 w15 := by rw [hw15]; exact (Below.refl _ _).alloc (Nat.le_refl _) _
        have HB15 := Lib.hid (HB.out.trans (b15.mono HB.out.size))
        have HO := Lib.hid (OwnB.one (base := gb) (P := (· < gb)) hB5 (Nat.le_refl _) HNM.out ((HT.out.laterN HB.out).keep (Q := (· < gb)) (fun b hb => b15.block b hb) (fun b hb => by rw [hgb]; exact hb)))
        have HR7 := Lib.hid (((HR.out.later HB.out).keep (Q := (· < gb)) (fun b hb => b15.block b hb) (fun b hb => by rw [hgb]; exact hb)).rowB)
        have HGBZ := Lib.hid (heap_lt hB5)
        have HGB1 : Hid (w14.heap.size ≤ gb) := Lib.hid (Nat.le_of_eq hgb.symm)
        have HP7 : Hid (∀ b, b < gb → b < w15.heap.size ∧ (Value.slice (some ⟨gb, 0, none⟩) 1 1).ownBlock ≠ some b) := Lib.hid (fun b hb => ⟨Nat.lt_trans hb HGBZ.out, by simp [Value.ownBlock]; omega⟩)
        have HLE : Hid ([(nm, t)].length + l.length ≤ 1000000) := Lib.hid (by have := HL.out; simp; omega)
        clear hB5 b15
        go_wp2_with (at_builtin; rw [← hw15, ← hgb]; clear hw15 hgb; refine wpList_own_binds rfl (.tmp 88) (.tmp 89) rfl HO.out (Nat.le_of_lt HGBZ.out) HP7.out rfl rfl HR7.out HLE.out ?_)
        intro v7 w16 O hg hb
        have O2 : OwnB gb (· < gb) w16 v7 ([(nm, t)] ++ l) := O
        obtain ⟨L5, hL5⟩ : ∃ L5, L5 = [(nm, t)] ++ l := ⟨_, rfl⟩
        rw [← hL5] at O2
        obtain ⟨A5, cap5, rfl⟩ := O2.shape
        have mg : Mod (fun g => (Value.slice (some ⟨gb, 0, none⟩) 1 1).ownBlock = some g) w15 w16 := Mod.grown hg (fun _ _ e => e)
        have hbel := HB15.out.trans (mg.below HB15.out.size (fun g e => by simp [Value.ownBlock] at e; have := HB.out.size; have := HGB1.out; omega))
        have HBM : Hid (BRow (· < w16.heap.size) w16 A5 L5.length cap5 L5) := Lib.hid (O2.brow (fun b hb => Nat.lt_trans hb (Nat.lt_of_lt_of_le HGBZ.out mg.size)) (fun b _ h => h))
        have HB := Lib.hid hbel
        rw [← hL5] at HH3
        clear O O2 hg hb mg hbel hL5 x0 x1 x2 x3 x4 y0 y1 y2 y3 y4 z0 z1 z2 z3 z4 HBR
        have gx := (HB.out.block _ (heap_lt HG0.out)).trans HG0.out
        have gy := (HB.out.block _ (heap_lt HG1.out)).trans HG1.out
        obtain ⟨x0, x1, x2, x3, x4⟩ := five_of gx
        obtain ⟨y0, y1, y2, y3, y4⟩ := five_of gy
        clear gx gy
        go_wp2_with fail
        refine (Holds_any L5 G _ A5 L5.length cap5 w16 (HTG.out.laterN HB.out) HBM.out (by have := HNG.out; omega) (HE.out.under HB.out)).mono ?_
        rintro e w17 ⟨rfl, c17⟩
        have HBn := Lib.hid (HB.out.trans (c17.mono HB.out.size))
        clear HB x0 x1 x2 x3 x4 y0 y1 y2 y3 y4
        have HB := HBn
        clear HBn
        have gx := (HB.out.block _ (heap_lt HG0.out)).trans HG0.out
        have gy := (HB.out.block _ (heap_lt HG1.out)).trans HG1.out
        obtain ⟨x0, x1, x2, x3, x4⟩ := five_of gx
        obtain ⟨y0, y1, y2, y3, y4⟩ := five_of gy
        clear gx gy
        clear c17
        rw [HH3.out]
        go_wp2_with fail
        refine (wakes11_any w17 (HE.out.under HB.out)).mono ?_
        rintro e w9 ⟨rfl, b9⟩
        have HF := Lib.hid (HB1.out.trans ((HB.out.trans (b9.mono HB.out.size)).mono HB1.out.size))
        clear b9
        go_wp2_with fail
        go_ret
        exact ⟨rfl, HF.out⟩
      | true =>
        go_wp2_with fail
        refine (Holds_any l G _ A m cap wr (HTG.out.laterN HB.out) (HR.out.later HB.out) (by have := HNG.out; omega) (HE.out.under HB.out)).mono ?_
        rintro e w11 ⟨rfl, c11⟩
        have HBn := Lib.hid (HB.out.trans (c11.mono HB.out.size))
        have HBRn := Lib.hid (HBR.out.trans (c11.mono HBR.out.size))
        clear HB HBR x0 x1 x2 x3 x4 y0 y1 y2 y3 y4 z0 z1 z2 z3 z4
        have HB := HBn
        have HBR := HBRn
        clear HBn HBRn
        have gx := (HB.out.block _ (heap_lt HG0.out)).trans HG0.out
        have gy := (HB.out.block _ (heap_lt HG1.out)).trans HG1.out
        obtain ⟨x0, x1, x2, x3, x4⟩ := five_of gx
        obtain ⟨y0, y1, y2, y3, y4⟩ := five_of gy
        clear gx gy
        have gz := (HBR.out.block _ (heap_lt HGR.out)).trans HGR.out
        obtain ⟨z0, z1, z2, z3, z4⟩ := five_of gz
        clear gz
        clear c11
        rw [HH1.out]
        go_wp2_with fail
        refine (Holds_any l (turnT11 ps.reverse) _ A m cap w11 (HTT.out.laterN HBR.out) (HR.out.later HB.out) HNT.out (HE.out.under HB.out)).mono ?_
        rintro e w12 ⟨rfl, c12⟩
        have HBn := Lib.hid (HB.out.trans (c12.mono HB.out.size))
        have HBRn := Lib.hid (HBR.out.trans (c12.mono HBR.out.size))
        clear HB HBR x0 x1 x2 x3 x4 y0 y1 y2 y3 y4 z0 z1 z2 z3 z4
        have HB := HBn
        have HBR := HBRn
        clear HBn HBRn
        have gx := (HB.out.block _ (heap_lt HG0.out)).trans HG0.out
        have gy := (HB.out.block _ (heap_lt HG1.out)).trans HG1.out
        obtain ⟨x0, x1, x2, x3, x4⟩ := five_of gx
        obtain ⟨y0, y1, y2, y3, y4⟩ := five_of gy
        clear gx gy
        have gz := (HBR.out.block _ (heap_lt HGR.out)).trans HGR.out
        obtain ⟨z0, z1, z2, z3, z4⟩ := five_of gz
        clear gz
        clear c12
        rw [HH2.out]
        go_wp2_with fail
        refine (rVars_any G _ w12 (HTG.out.laterN HB.out)).mono ?_
        rintro e w13 ⟨VA, vc, rfl, hV, hvl, c13⟩
        have HBn := Lib.hid (HB.out.trans (c13.mono HB.out.size))
        have HBRn := Lib.hid (HBR.out.trans (c13.mono HBR.out.size))
        clear HB HBR x0 x1 x2 x3 x4 y0 y1 y2 y3 y4 z0 z1 z2 z3 z4
        have HB := HBn
        have HBR := HBRn
        clear HBn HBRn
        have gx := (HB.out.block _ (heap_lt HG0.out)).trans HG0.out
        have gy := (HB.out.block _ (heap_lt HG1.out)).trans HG1.out
        obtain ⟨x0, x1, x2, x3, x4⟩ := five_of gx
        obtain ⟨y0, y1, y2, y3, y4⟩ := five_of gy
        clear gx gy
        have gz := (HBR.out.block _ (heap_lt HGR.out)).trans HGR.out
        obtain ⟨z0, z1, z2, z3, z4⟩ := five_of gz
        clear gz
        clear c13
        have HC := Lib.hid (rhas_any (varsL G) nm VA vc w13 (by unfold maxLen; omega) hV)
        clear hV
        obtain ⟨vn, hvn⟩ : ∃ vn, vn = (varsL G).length := ⟨_, rfl⟩
        rw [← hvn] at HC hvl ⊢
        clear hvn
        go_wp2_with fail
        refine (HC.out).mono ?_
        rintro e w14 ⟨rfl, c14⟩
        have HBn := Lib.hid (HB.out.trans (c14.mono HB.out.size))
        have HBRn := Lib.hid (HBR.out.trans (c14.mono HBR.out.size))
        clear HB HBR x0 x1 x2 x3 x4 y0 y1 y2 y3 y4 z0 z1 z2 z3 z4
        have HB := HBn
        have HBR := HBRn
        clear HBn HBRn
        have gx := (HB.out.block _ (heap_lt HG0.out)).trans HG0.out
        have gy := (HB.out.block _ (heap_lt HG1.out)).trans HG1.out
        obtain ⟨x0, x1, x2, x3, x4⟩ := five_of gx
        obtain ⟨y0, y1, y2, y3, y4⟩ := five_of gy
        clear gx gy
        have gz := (HBR.out.block _ (heap_lt HGR.out)).trans HGR.out
        obtain ⟨z0, z1, z2, z3, z4⟩ := five_of gz
        clear gz
        clear c14 HC
        cases hvh : hasL (varsL G) nm with
        | true =>
          go_wp2_with fail
          refine (wakes11_any w14 (HE.out.under HB.out)).mono ?_
          rintro e w9 ⟨rfl, b9⟩
          have HF := Lib.hid (HB1.out.trans ((HB.out.trans (b9.mono HB.out.size)).mono HB1.out.size))
          clear b9
          go_wp2_with fail
          go_ret
          exact ⟨rfl, HF.out⟩
        | false =>
        have HH3 : Hid (holdR ([(nm, t)] ++ l) G = true) := Lib.hid (by rw [hold_fresh l nm t G HFG.out hvh HCK.out]; exact HH1.out)
        clear hvh
        obtain ⟨w15, hw15⟩ : ∃ w15, w15 = w14.alloc (.cells #[.string nm, .int .i8 tk, .int .i64 tn, .string ts_, .string tt_, .slice tA tm tc] 65) := ⟨_, rfl⟩
        obtain ⟨gb, hgb⟩ : ∃ gb, gb = w14.heap.size := ⟨_, rfl⟩
        have hB5 : w15.heap[gb]? = some (.cells #[.string nm, .int .i8 tk, .int .i64 tn, .string ts_, .string tt_, .slice tA tm tc] 65 (0, 0)) := by rw [hw15, hgb]; exact block_alloc _ _
        have b15 : Below w14.heap.size w14 w15 := by rw [hw15]; exact (Below.refl _ _).alloc (Nat.le_refl _) _
        have HB15 := Lib.hid (HB.out.trans (b15.mono HB.out.size))
        have HO := Lib.hid (OwnB.one (base := gb) (P := (· < gb)) hB5 (Nat.le_refl _) HNM.out ((HT.out.laterN HB.out).keep (Q := (· < gb)) (fun b hb => b15.block b hb) (fun b hb => by rw [hgb]; exact hb)))
        have HR7 := Lib.hid (((HR.out.later HB.out).keep (Q := (· < gb)) (fun b hb => b15.block b hb) (fun b hb => by rw [hgb]; exact hb)).rowB)
        have HGBZ := Lib.hid (heap_lt hB5)
        have HGB1 : Hid (w14.heap.size ≤ gb) := Lib.hid (Nat.le_of_eq hgb.symm)
        have HP7 : Hid (∀ b, b < gb → b < w15.heap.size ∧ (Value.slice (some ⟨gb, 0, none⟩) 1 1).ownBlock ≠ some b) := Lib.hid (fun b hb => ⟨Nat.lt_trans hb HGBZ.out, by simp [Value.ownBlock]; omega⟩)
        have HLE : Hid ([(nm, t)].length + l.length ≤ 1000000) := Lib.hid (by have := HL.out; simp; omega)
        clear hB5 b15
        go_wp2_with (at_builtin; rw [← hw15, ← hgb]; clear hw15 hgb; refine wpList_own_binds rfl (.tmp 88) (.tmp 89) rfl HO.out (Nat.le_of_lt HGBZ.out) HP7.out rfl rfl HR7.out HLE.out ?_)
        intro v7 w16 O hg hb
        have O2 : OwnB gb (· < gb) w16 v7 ([(nm, t)] ++ l) := O
        obtain ⟨L5, hL5⟩ : ∃ L5, L5 = [(nm, t)] ++ l := ⟨_, rfl⟩
        rw [← hL5] at O2
        obtain ⟨A5, cap5, rfl⟩ := O2.shape
        have mg : Mod (fun g => (Value.slice (some ⟨gb, 0, none⟩) 1 1).ownBlock = some g) w15 w16 := Mod.grown hg (fun _ _ e => e)
        have hbel := HB15.out.trans (mg.below HB15.out.size (fun g e => by simp [Value.ownBlock] at e; have := HB.out.size; have := HGB1.out; omega))
        have HBM : Hid (BRow (· < w16.heap.size) w16 A5 L5.length cap5 L5) := Lib.hid (O2.brow (fun b hb => Nat.lt_trans hb (Nat.lt_of_lt_of_le HGBZ.out mg.size)) (fun b _ h => h))
        have HB := Lib.hid hbel
        rw [← hL5] at HH3
        clear O O2 hg hb mg hbel hL5 x0 x1 x2 x3 x4 y0 y1 y2 y3 y4 z0 z1 z2 z3 z4 HBR
        have gx := (HB.out.block _ (heap_lt HG0.out)).trans HG0.out
        have gy := (HB.out.block _ (heap_lt HG1.out)).trans HG1.out
        obtain ⟨x0, x1, x2, x3, x4⟩ := five_of gx
        obtain ⟨y0, y1, y2, y3, y4⟩ := five_of gy
        clear gx gy
        go_wp2_with fail
        refine (Holds_any L5 G _ A5 L5.length cap5 w16 (HTG.out.laterN HB.out) HBM.out (by have := HNG.out; omega) (HE.out.under HB.out)).mono ?_
        rintro e w17 ⟨rfl, c17⟩
        have HBn := Lib.hid (HB.out.trans (c17.mono HB.out.size))
        clear HB x0 x1 x2 x3 x4 y0 y1 y2 y3 y4
        have HB := HBn
        clear HBn
        have gx := (HB.out.block _ (heap_lt HG0.out)).trans HG0.out
        have gy := (HB.out.block _ (heap_lt HG1.out)).trans HG1.out
        obtain ⟨x0, x1, x2, x3, x4⟩ := five_of gx
        obtain ⟨y0, y1, y2, y3, y4⟩ := five_of gy
        clear gx gy
        clear c17
        rw [HH3.out]
        go_wp2_with fail
        refine (wakes11_any w17 (HE.out.under HB.out)).mono ?_
        rintro e w9 ⟨rfl, b9⟩
        have HF := Lib.hid (HB1.out.trans ((HB.out.trans (b9.mono HB.out.size)).mono HB1.out.size))
        clear b9
        go_wp2_with fail
        go_ret
        exact ⟨rfl, HF.out⟩
end Go.Proofs.YthbiaaeoajmlbaaGreatDoor
