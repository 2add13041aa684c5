/- Layer 13: the rules of instructions that name places, functions, tables, trees (written by gen_cd11.py). -/
import Derived.Test.YtdimcddbmccniaaGreatDoorKCd8
import Derived.Test.YtdimcddbmccniaaGreatDoorKQuietC
set_option linter.unusedVariables false
set_option linter.unusedSimpArgs false
namespace Go.Proofs.YtdimcddbmccniaaGreatDoor
open Go.RowKit
attribute [local irreducible] Go.wpQuiet

theorem gather_one (A : Option Addr) (a ca : Nat) (B : Option Addr) (b cb : Nat) (C : Option Addr) (c cc : Nat) (mb : Nat) (n : Int) (S : List Int) (W : World) (hG : GS mb S W) (hn : -9223372036854775808 ≤ n ∧ n ≤ 9223372036854775807) :
    Calls Tryz.prog 70 #[.agg #[.slice A a ca, .slice B b cb, .slice C c cc, .map (some mb)], .slice (some ⟨W.heap.size, 0, none⟩) 1 1] (W.alloc (.cells #[.int .i64 n] 3)) fun e w' => e = .returned (.tuple #[]) ∧ GS mb (S ++ [n]) w' ∧ Mod (fun k => k = mb) W w' := by
  have hb : Below W.heap.size W (W.alloc (.cells #[.int .i64 n] 3)) := (Below.refl _ W).alloc (Nat.le_refl _) _
  have hg := block_alloc W (.cells #[.int .i64 n] 3)
  have hl := hG.lt
  refine (gather_any A a ca B b cb C c cc mb (some ⟨W.heap.size, 0, none⟩) 1 [n] S _ ⟨rfl, by unfold maxLen; simp, Nat.le_refl _, fun j x hj => ?_⟩ (hG.keep hb)).mono ?_
  · cases j with
    | succ j => simp at hj
    | zero =>
      simp at hj; subst hj
      refine ⟨_, rfl, ⟨by simp, by simp; omega⟩, ?_, hn⟩
      exact cell_of_row (i := 0) hg rfl
  · rintro e w' ⟨rfl, h1, h2⟩
    exact ⟨rfl, h1, (Mod.of_below hb).trans h2 (fun _ _ e => e)⟩
set_option maxHeartbeats 2000000 in
theorem recv1_any (y : Tm) (u : Value) (W : World) (hT : TmAt (· < W.heap.size) W y u) (hn : y.nodes ≤ 8200) (hE : Env7 W) :
    Calls Tryz.prog 156 #[u] W fun e w' => e = .returned (.bool (!takesB y)) ∧ Below W.heap.size W w' := by
  obtain ⟨k', n', s', t', A', m', c', rfl⟩ : ∃ k n s t A m c, u = .agg #[.int .i8 k, .int .i64 n, .string s, .string t, .slice A m c] := by cases hT; exact ⟨_, _, _, _, _, _, _, rfl⟩
  obtain ⟨W2, hW2⟩ : ∃ W2, W2 = W.alloc (.cells #[.int .i8 k', .int .i64 n', .string s', .string t', .slice A' m' c'] 25) := ⟨_, rfl⟩
  have b2 : Below W.heap.size W W2 := by rw [hW2]; exact (Below.refl _ W).alloc (Nat.le_refl _) _
  have g0 : W2.heap[W.heap.size]? = some (.cells #[.int .i8 k', .int .i64 n', .string s', .string t', .slice A' m' c'] 25 (0, 0)) := by rw [hW2]; exact block_alloc _ _
  have HB2 := Lib.hid b2
  have HC := Lib.hid (takes_any y _ W2 (hT.laterN b2) hn (hE.under b2))
  obtain ⟨x0, x1, x2, x3, x4⟩ := five_of g0
  clear g0 b2 hT hE
  go_enter Tryz.func156, Tryz.ntmps156
  go_upto_region 1 with fail
  rw [← hW2]
  clear hW2
  go_wp2_with fail
  refine HC.out.mono ?_
  rintro e W3 ⟨rfl, b3⟩
  go_wp2_with fail
  go_ret
  exact ⟨rfl, HB2.out.trans (b3.mono HB2.out.size)⟩
set_option maxHeartbeats 2000000 in
set_option maxRecDepth 100000 in
theorem idxN13_any (ps : List Tm) (A : Option Addr) (cap : Nat) (W : World) (hn : ∀ y ∈ ps, y.nodes ≤ 8200) (hR : TRow (· < W.heap.size) W A ps.length cap ps) (hE : Env7 W) :
    Calls Tryz.prog 218 #[.slice A ps.length cap, .func (.func 156) #[] #[]] W
      fun e w' => (∃ r : Int, e = .returned (.int .i64 r) ∧ decide (0 ≤ r) = !ps.all takesB) ∧ Below W.heap.size W w' := by
  have hmax := hR.max
  unfold maxLen at hmax
  have HR := Lib.hid hR
  have HN := Lib.hid hn
  have HE := Lib.hid hE
  clear hR hn hE
  go_enter Tryz.func218, Tryz.ntmps218
  go_wp2_with fail
  go_loopw [8] (fun i wr => ∃ j : Nat, j ≤ ps.length ∧ i = .int .i64 j ∧ Hid ((ps.take j).all takesB = true) ∧ Hid (Below W.heap.size W wr)) (fun i _ => ps.length - (intOf i).toNat)
  case atStart => exact ⟨0, Nat.zero_le _, rfl, Lib.hid (by simp), Lib.hid (Below.refl _ _)⟩
  case round =>
    obtain ⟨j, hj, rfl, HM, HB⟩ := hrel
    by_cases hlt : j < ps.length
    · obtain ⟨y, hy⟩ : ∃ y, ps[j]? = some y := ⟨ps[j], List.getElem?_eq_getElem hlt⟩
      obtain ⟨ad, u, rfl, had, hE, hTy⟩ := HR.out.at_ j y hy
      have hEr := hE.keep (HB.out.block ad.block had)
      have hTr := hTy.keep (Q := (· < wr.heap.size)) (w' := wr) (fun b hb => HB.out.block b hb) (fun b hb => Nat.lt_of_lt_of_le hb HB.out.size)
      have HC := Lib.hid (recv1_any y u wr hTr (HN.out y (List.mem_of_getElem? hy)) (HE.out.under HB.out))
      obtain ⟨k', n', s', t', A', m', cap', rfl⟩ : ∃ k' n' s' t' A' m' cap', u = .agg #[.int .i8 k', .int .i64 n', .string s', .string t', .slice A' m' cap'] := by
        cases hTy; exact ⟨_, _, _, _, _, _, _, rfl⟩
      obtain ⟨c0, c1, c2, c3, c4, hcc, e0, e1, e2, e3, e4⟩ := hEr
      simp only [Value.agg.injEq, Array.mk.injEq, List.cons.injEq, and_true] at hcc
      obtain ⟨rfl, rfl, rfl, rfl, rfl⟩ := hcc
      have HY := Lib.hid hy
      clear hE hTy hTr hy had
      go_wp2_with fail
      refine HC.out.mono ?_
      rintro e w2 ⟨rfl, b2⟩
      have HB2 := Lib.hid (HB.out.trans (b2.mono HB.out.size))
      clear b2 e0 e1 e2 e3 e4
      cases hc : takesB y
      · go_wp2_with fail
        go_ret
        refine ⟨⟨_, rfl, ?_⟩, HB2.out⟩
        have hm : ps.all takesB = false := by
          rw [List.all_eq_false]
          exact ⟨y, List.mem_of_getElem? HY.out, by simp [hc]⟩
        rw [hm]
        simp
      · go_wp2_with fail
        go_roundw
        case rel =>
          refine ⟨j + 1, by omega, by go_num, Lib.hid ?_, HB2⟩
          rw [List.take_add_one, HY.out, List.all_append, HM.out]
          simp [hc]
        case measure => simp [intOf]; omega
    · obtain rfl : j = ps.length := by omega
      go_wp2_with fail
      go_ret
      refine ⟨⟨_, rfl, ?_⟩, HB.out⟩
      have hm := HM.out
      rw [List.take_length] at hm
      rw [hm]
      rfl
set_option maxHeartbeats 1000000 in
set_option maxRecDepth 100000 in
theorem hasN13_any (ps : List Tm) (A : Option Addr) (cap : Nat) (W : World) (hn : ∀ y ∈ ps, y.nodes ≤ 8200) (hR : TRow (· < W.heap.size) W A ps.length cap ps) (hE : Env7 W) :
    Calls Tryz.prog 155 #[.slice A ps.length cap, .func (.func 156) #[] #[]] W
      fun e w' => e = .returned (.bool (!ps.all takesB)) ∧ Below W.heap.size W w' := by
  have HC := Lib.hid (idxN13_any ps A cap W hn hR hE)
  clear hR hn hE
  go_enter Tryz.func155, Tryz.ntmps155
  go_wp2_with fail
  refine HC.out.mono ?_
  rintro e w2 ⟨⟨r, rfl, hr⟩, b2⟩
  have HRR := Lib.hid hr
  clear hr
  go_wp2_with fail
  go_ret
  exact ⟨ret_bool HRR.out, b2⟩

set_option maxHeartbeats 40000000 in
set_option maxRecDepth 100000 in
theorem rule12_any : RuleC 12 115 := by
  intro x A ca B cb C cc mb c v S W N hop hX hC hCB hG hE hN
  obtain ⟨op, a, b, ⟨tk, tn, ts, tt, tl⟩, ⟨pk, pn, ps, pt, pl⟩, l⟩ := c
  obtain rfl : op = 12 := hop
  obtain ⟨TA, tcap, PA, pcap, LA, lcap, rfl, ht, hp, hl, -, ha, hb⟩ := hC.parts
  have e1 : gathN ⟨12, a, b, .mk tk tn ts tt tl, .mk pk pn ps pt pl, l⟩ = [a] := rfl
  rw [e1]
  obtain ⟨R, hR⟩ : ∃ R, R = ruleB x.fns x.tab ⟨12, a, b, .mk tk tn ts tt tl, .mk pk pn ps pt pl, l⟩ := ⟨_, rfl⟩
  rw [← hR]
  have HR : Hid (R = (true)) := Lib.hid (by rw [hR]; rfl)
  clear hR e1 hC
  obtain ⟨W2, hW2⟩ : ∃ W2, W2 = (W.alloc (.cells #[.slice A x.fns.length ca, .slice B x.ops.length cb, .slice C x.tab.length cc, .map (some mb)] 96)).alloc (.cells #[.int .i8 12, .int .i64 a, .int .i64 b, .int .i8 tk, .int .i64 tn, .string ts, .string tt, .slice TA tl.length tcap, .int .i8 pk, .int .i64 pn, .string ps, .string pt, .slice PA pl.length pcap, .slice LA l.length lcap] 50) := ⟨_, rfl⟩
  obtain ⟨gk, gc, b2, -⟩ := two13 W _ _ W2 hW2
  have HB2 := Lib.hid b2
  have HMB := Lib.hid hG.lt
  have HGK := Lib.hid gk
  have HGC := Lib.hid gc
  have HX := Lib.hid (hX.mod (Mod.of_below b2))
  have HT := Lib.hid (ht.modL (Mod.of_below b2))
  have HP := Lib.hid (hp.modL (Mod.of_below b2))
  have HL := Lib.hid (hl.modL (Mod.of_below b2))
  have HCB := Lib.hid hCB
  have HE := Lib.hid (hE.under (b2.mono hE.le))
  have HN := Lib.hid hN
  have HA := Lib.hid ha
  have HBB := Lib.hid hb
  have HGS := Lib.hid (hG.keep b2)
  have HMD : Hid (Mod (fun k => k = mb) W2 W2) := Lib.hid (Mod.refl _ _)
  have x1 : (W2).cell? ⟨W.heap.size + 1, 1, none⟩ = some (.int .i64 a) := cell_of_row (i := 1) gc rfl
  obtain ⟨y0, y1, y2, y3⟩ := c4 gk
  clear gk gc b2 hX ht hp hl hCB hE hN ha hb hG
  have HC0 := Lib.hid (gather_one A x.fns.length ca B x.ops.length cb C x.tab.length cc mb a S W2 HGS.out HA.out)
  go_enter Tryz.func115, Tryz.ntmps115
  go_upto_region 1 with fail
  rw [← hW2]
  clear hW2
  go_wp2_with fail
  refine HC0.out.mono ?_
  rintro e w3 ⟨rfl, hgs, mm⟩
  have hmd := HMD.out.trans mm (fun _ _ e => e)
  clear HMD HGS x1 y0 y1 y2 y3
  have HGS := Lib.hid hgs
  have HMD := Lib.hid hmd
  have gk := (hmd.block _ (heap_lt HGK.out) (by have := HMB.out; omega)).trans HGK.out
  have gc := (hmd.block _ (heap_lt HGC.out) (by have := HMB.out; omega)).trans HGC.out
  have x1 : (w3).cell? ⟨W.heap.size + 1, 1, none⟩ = some (.int .i64 a) := cell_of_row (i := 1) gc rfl
  obtain ⟨y0, y1, y2, y3⟩ := c4 gk
  clear gk gc hmd hgs mm
  have HF : Hid (R = true) := Lib.hid (by rw [HR.out]; try rfl)
  go_wp2_with fail
  go_ret
  exact ⟨ret_bool HF.out.symm, HGS.out, (Mod.of_below HB2.out).trans HMD.out (fun _ _ e => e)⟩
set_option maxHeartbeats 40000000 in
set_option maxRecDepth 100000 in
theorem rule16_any : RuleC 16 115 := by
  intro x A ca B cb C cc mb c v S W N hop hX hC hCB hG hE hN
  obtain ⟨op, a, b, ⟨tk, tn, ts, tt, tl⟩, ⟨pk, pn, ps, pt, pl⟩, l⟩ := c
  obtain rfl : op = 16 := hop
  obtain ⟨TA, tcap, PA, pcap, LA, lcap, rfl, ht, hp, hl, -, ha, hb⟩ := hC.parts
  have e1 : gathN ⟨16, a, b, .mk tk tn ts tt tl, .mk pk pn ps pt pl, l⟩ = [a] := rfl
  rw [e1]
  obtain ⟨R, hR⟩ : ∃ R, R = ruleB x.fns x.tab ⟨16, a, b, .mk tk tn ts tt tl, .mk pk pn ps pt pl, l⟩ := ⟨_, rfl⟩
  rw [← hR]
  have HR : Hid (R = (true)) := Lib.hid (by rw [hR]; rfl)
  clear hR e1 hC
  obtain ⟨W2, hW2⟩ : ∃ W2, W2 = (W.alloc (.cells #[.slice A x.fns.length ca, .slice B x.ops.length cb, .slice C x.tab.length cc, .map (some mb)] 96)).alloc (.cells #[.int .i8 16, .int .i64 a, .int .i64 b, .int .i8 tk, .int .i64 tn, .string ts, .string tt, .slice TA tl.length tcap, .int .i8 pk, .int .i64 pn, .string ps, .string pt, .slice PA pl.length pcap, .slice LA l.length lcap] 50) := ⟨_, rfl⟩
  obtain ⟨gk, gc, b2, -⟩ := two13 W _ _ W2 hW2
  have HB2 := Lib.hid b2
  have HMB := Lib.hid hG.lt
  have HGK := Lib.hid gk
  have HGC := Lib.hid gc
  have HX := Lib.hid (hX.mod (Mod.of_below b2))
  have HT := Lib.hid (ht.modL (Mod.of_below b2))
  have HP := Lib.hid (hp.modL (Mod.of_below b2))
  have HL := Lib.hid (hl.modL (Mod.of_below b2))
  have HCB := Lib.hid hCB
  have HE := Lib.hid (hE.under (b2.mono hE.le))
  have HN := Lib.hid hN
  have HA := Lib.hid ha
  have HBB := Lib.hid hb
  have HGS := Lib.hid (hG.keep b2)
  have HMD : Hid (Mod (fun k => k = mb) W2 W2) := Lib.hid (Mod.refl _ _)
  have x1 : (W2).cell? ⟨W.heap.size + 1, 1, none⟩ = some (.int .i64 a) := cell_of_row (i := 1) gc rfl
  obtain ⟨y0, y1, y2, y3⟩ := c4 gk
  clear gk gc b2 hX ht hp hl hCB hE hN ha hb hG
  have HC0 := Lib.hid (gather_one A x.fns.length ca B x.ops.length cb C x.tab.length cc mb a S W2 HGS.out HA.out)
  go_enter Tryz.func115, Tryz.ntmps115
  go_upto_region 1 with fail
  rw [← hW2]
  clear hW2
  go_wp2_with fail
  refine HC0.out.mono ?_
  rintro e w3 ⟨rfl, hgs, mm⟩
  have hmd := HMD.out.trans mm (fun _ _ e => e)
  clear HMD HGS x1 y0 y1 y2 y3
  have HGS := Lib.hid hgs
  have HMD := Lib.hid hmd
  have gk := (hmd.block _ (heap_lt HGK.out) (by have := HMB.out; omega)).trans HGK.out
  have gc := (hmd.block _ (heap_lt HGC.out) (by have := HMB.out; omega)).trans HGC.out
  have x1 : (w3).cell? ⟨W.heap.size + 1, 1, none⟩ = some (.int .i64 a) := cell_of_row (i := 1) gc rfl
  obtain ⟨y0, y1, y2, y3⟩ := c4 gk
  clear gk gc hmd hgs mm
  have HF : Hid (R = true) := Lib.hid (by rw [HR.out]; try rfl)
  go_wp2_with fail
  go_ret
  exact ⟨ret_bool HF.out.symm, HGS.out, (Mod.of_below HB2.out).trans HMD.out (fun _ _ e => e)⟩
set_option maxHeartbeats 40000000 in
set_option maxRecDepth 100000 in
theorem rule13_any : RuleC 13 125 := by
  intro x A ca B cb C cc mb c v S W N hop hX hC hCB hG hE hN
  obtain ⟨op, a, b, ⟨tk, tn, ts, tt, tl⟩, ⟨pk, pn, ps, pt, pl⟩, l⟩ := c
  obtain rfl : op = 13 := hop
  obtain ⟨TA, tcap, PA, pcap, LA, lcap, rfl, ht, hp, hl, -, ha, hb⟩ := hC.parts
  have e1 : gathN ⟨13, a, b, .mk tk tn ts tt tl, .mk pk pn ps pt pl, l⟩ = [a] := rfl
  rw [e1]
  obtain ⟨R, hR⟩ : ∃ R, R = ruleB x.fns x.tab ⟨13, a, b, .mk tk tn ts tt tl, .mk pk pn ps pt pl, l⟩ := ⟨_, rfl⟩
  rw [← hR]
  have HR : Hid (R = (withinB b 0 32 && (fitsB (.mk pk pn ps pt pl) && patB (.mk pk pn ps pt pl) && (inSlotsB (.mk pk pn ps pt pl))))) := Lib.hid (by rw [hR]; rfl)
  clear hR e1 hC
  obtain ⟨W2, hW2⟩ : ∃ W2, W2 = (W.alloc (.cells #[.slice A x.fns.length ca, .slice B x.ops.length cb, .slice C x.tab.length cc, .map (some mb)] 96)).alloc (.cells #[.int .i8 13, .int .i64 a, .int .i64 b, .int .i8 tk, .int .i64 tn, .string ts, .string tt, .slice TA tl.length tcap, .int .i8 pk, .int .i64 pn, .string ps, .string pt, .slice PA pl.length pcap, .slice LA l.length lcap] 50) := ⟨_, rfl⟩
  obtain ⟨gk, gc, b2, -⟩ := two13 W _ _ W2 hW2
  have HB2 := Lib.hid b2
  have HMB := Lib.hid hG.lt
  have HGK := Lib.hid gk
  have HGC := Lib.hid gc
  have HX := Lib.hid (hX.mod (Mod.of_below b2))
  have HT := Lib.hid (ht.modL (Mod.of_below b2))
  have HP := Lib.hid (hp.modL (Mod.of_below b2))
  have HL := Lib.hid (hl.modL (Mod.of_below b2))
  have HCB := Lib.hid hCB
  have HE := Lib.hid (hE.under (b2.mono hE.le))
  have HN := Lib.hid hN
  have HA := Lib.hid ha
  have HBB := Lib.hid hb
  have HGS := Lib.hid (hG.keep b2)
  have HMD : Hid (Mod (fun k => k = mb) W2 W2) := Lib.hid (Mod.refl _ _)
  have x1 : (W2).cell? ⟨W.heap.size + 1, 1, none⟩ = some (.int .i64 a) := cell_of_row (i := 1) gc rfl
  have x2 : (W2).cell? ⟨W.heap.size + 1, 2, none⟩ = some (.int .i64 b) := cell_of_row (i := 2) gc rfl
  have x8 : (W2).cell? ⟨W.heap.size + 1, 8, none⟩ = some (.int .i8 pk) := cell_of_row (i := 8) gc rfl
  have x9 : (W2).cell? ⟨W.heap.size + 1, 9, none⟩ = some (.int .i64 pn) := cell_of_row (i := 9) gc rfl
  have x10 : (W2).cell? ⟨W.heap.size + 1, 10, none⟩ = some (.string ps) := cell_of_row (i := 10) gc rfl
  have x11 : (W2).cell? ⟨W.heap.size + 1, 11, none⟩ = some (.string pt) := cell_of_row (i := 11) gc rfl
  have x12 : (W2).cell? ⟨W.heap.size + 1, 12, none⟩ = some (.slice PA pl.length pcap) := cell_of_row (i := 12) gc rfl
  obtain ⟨y0, y1, y2, y3⟩ := c4 gk
  clear gk gc b2 hX ht hp hl hCB hE hN ha hb hG
  have HC0 := Lib.hid (gather_one A x.fns.length ca B x.ops.length cb C x.tab.length cc mb a S W2 HGS.out HA.out)
  go_enter Tryz.func125, Tryz.ntmps125
  go_upto_region 1 with fail
  rw [← hW2]
  clear hW2
  go_wp2_with fail
  refine HC0.out.mono ?_
  rintro e w3 ⟨rfl, hgs, mm⟩
  have hmd := HMD.out.trans mm (fun _ _ e => e)
  clear HMD HGS x1 x2 x8 x9 x10 x11 x12 y0 y1 y2 y3
  have HGS := Lib.hid hgs
  have HMD := Lib.hid hmd
  have gk := (hmd.block _ (heap_lt HGK.out) (by have := HMB.out; omega)).trans HGK.out
  have gc := (hmd.block _ (heap_lt HGC.out) (by have := HMB.out; omega)).trans HGC.out
  have x1 : (w3).cell? ⟨W.heap.size + 1, 1, none⟩ = some (.int .i64 a) := cell_of_row (i := 1) gc rfl
  have x2 : (w3).cell? ⟨W.heap.size + 1, 2, none⟩ = some (.int .i64 b) := cell_of_row (i := 2) gc rfl
  have x8 : (w3).cell? ⟨W.heap.size + 1, 8, none⟩ = some (.int .i8 pk) := cell_of_row (i := 8) gc rfl
  have x9 : (w3).cell? ⟨W.heap.size + 1, 9, none⟩ = some (.int .i64 pn) := cell_of_row (i := 9) gc rfl
  have x10 : (w3).cell? ⟨W.heap.size + 1, 10, none⟩ = some (.string ps) := cell_of_row (i := 10) gc rfl
  have x11 : (w3).cell? ⟨W.heap.size + 1, 11, none⟩ = some (.string pt) := cell_of_row (i := 11) gc rfl
  have x12 : (w3).cell? ⟨W.heap.size + 1, 12, none⟩ = some (.slice PA pl.length pcap) := cell_of_row (i := 12) gc rfl
  obtain ⟨y0, y1, y2, y3⟩ := c4 gk
  clear gk gc hmd hgs mm
  have HC1 := Lib.hid (within_any b 0 32 w3)
  go_wp2_with fail
  refine HC1.out.mono ?_
  rintro e w4 ⟨rfl, rfl⟩
  cases h1 : (withinB b 0 32)
  case false =>
    have HF : Hid (R = false) := Lib.hid (by rw [HR.out, h1]; try rfl)
    go_wp2_with fail
    go_ret
    exact ⟨ret_bool HF.out.symm, HGS.out, (Mod.of_below HB2.out).trans HMD.out (fun _ _ e => e)⟩
  have HC2 := Lib.hid (pattern7_ok (.mk pk pn ps pt pl) _ w3 (HP.out.modL HMD.out).loLt HCB.out.p (HE.out.mod HN.out HMD.out).env.env)
  go_wp2_with fail
  refine HC2.out.mono ?_
  rintro e w5 ⟨rfl, bb⟩
  have hmd := HMD.out.trans (Mod.of_below bb) (fun _ _ e => e)
  have hgs := HGS.out.keep bb
  clear HMD HGS x1 x2 x8 x9 x10 x11 x12 y0 y1 y2 y3
  have HGS := Lib.hid hgs
  have HMD := Lib.hid hmd
  have gk := (hmd.block _ (heap_lt HGK.out) (by have := HMB.out; omega)).trans HGK.out
  have gc := (hmd.block _ (heap_lt HGC.out) (by have := HMB.out; omega)).trans HGC.out
  have x1 : (w5).cell? ⟨W.heap.size + 1, 1, none⟩ = some (.int .i64 a) := cell_of_row (i := 1) gc rfl
  have x2 : (w5).cell? ⟨W.heap.size + 1, 2, none⟩ = some (.int .i64 b) := cell_of_row (i := 2) gc rfl
  have x8 : (w5).cell? ⟨W.heap.size + 1, 8, none⟩ = some (.int .i8 pk) := cell_of_row (i := 8) gc rfl
  have x9 : (w5).cell? ⟨W.heap.size + 1, 9, none⟩ = some (.int .i64 pn) := cell_of_row (i := 9) gc rfl
  have x10 : (w5).cell? ⟨W.heap.size + 1, 10, none⟩ = some (.string ps) := cell_of_row (i := 10) gc rfl
  have x11 : (w5).cell? ⟨W.heap.size + 1, 11, none⟩ = some (.string pt) := cell_of_row (i := 11) gc rfl
  have x12 : (w5).cell? ⟨W.heap.size + 1, 12, none⟩ = some (.slice PA pl.length pcap) := cell_of_row (i := 12) gc rfl
  obtain ⟨y0, y1, y2, y3⟩ := c4 gk
  clear gk gc hmd hgs bb
  cases h2 : (fitsB (.mk pk pn ps pt pl) && patB (.mk pk pn ps pt pl))
  case false =>
    have HF : Hid (R = false) := Lib.hid (by rw [HR.out, h1, h2]; try rfl)
    go_wp2_with fail
    go_ret
    exact ⟨ret_bool HF.out.symm, HGS.out, (Mod.of_below HB2.out).trans HMD.out (fun _ _ e => e)⟩
  have HSZ := Lib.hid (pat_szd (Bool.and_eq_true_iff.1 h2).2)
  have HC3 := Lib.hid (inSlots_any (.mk pk pn ps pt pl) _ w5 (HP.out.modL HMD.out).loLt HCB.out.p HSZ.out (HE.out.mod HN.out HMD.out).env.env)
  go_wp2_with fail
  refine HC3.out.mono ?_
  rintro e w6 ⟨rfl, bb⟩
  have hmd := HMD.out.trans (Mod.of_below bb) (fun _ _ e => e)
  have hgs := HGS.out.keep bb
  clear HMD HGS x1 x2 x8 x9 x10 x11 x12 y0 y1 y2 y3
  have HGS := Lib.hid hgs
  have HMD := Lib.hid hmd
  have gk := (hmd.block _ (heap_lt HGK.out) (by have := HMB.out; omega)).trans HGK.out
  have gc := (hmd.block _ (heap_lt HGC.out) (by have := HMB.out; omega)).trans HGC.out
  have x1 : (w6).cell? ⟨W.heap.size + 1, 1, none⟩ = some (.int .i64 a) := cell_of_row (i := 1) gc rfl
  have x2 : (w6).cell? ⟨W.heap.size + 1, 2, none⟩ = some (.int .i64 b) := cell_of_row (i := 2) gc rfl
  have x8 : (w6).cell? ⟨W.heap.size + 1, 8, none⟩ = some (.int .i8 pk) := cell_of_row (i := 8) gc rfl
  have x9 : (w6).cell? ⟨W.heap.size + 1, 9, none⟩ = some (.int .i64 pn) := cell_of_row (i := 9) gc rfl
  have x10 : (w6).cell? ⟨W.heap.size + 1, 10, none⟩ = some (.string ps) := cell_of_row (i := 10) gc rfl
  have x11 : (w6).cell? ⟨W.heap.size + 1, 11, none⟩ = some (.string pt) := cell_of_row (i := 11) gc rfl
  have x12 : (w6).cell? ⟨W.heap.size + 1, 12, none⟩ = some (.slice PA pl.length pcap) := cell_of_row (i := 12) gc rfl
  obtain ⟨y0, y1, y2, y3⟩ := c4 gk
  clear gk gc hmd hgs bb
  cases h3 : (inSlotsB (.mk pk pn ps pt pl))
  case false =>
    have HF : Hid (R = false) := Lib.hid (by rw [HR.out, h1, h2, h3]; try rfl)
    go_wp2_with fail
    go_ret
    exact ⟨ret_bool HF.out.symm, HGS.out, (Mod.of_below HB2.out).trans HMD.out (fun _ _ e => e)⟩
  have HF : Hid (R = true) := Lib.hid (by rw [HR.out, h1, h2, h3]; try rfl)
  go_wp2_with fail
  go_ret
  exact ⟨ret_bool HF.out.symm, HGS.out, (Mod.of_below HB2.out).trans HMD.out (fun _ _ e => e)⟩
set_option maxHeartbeats 40000000 in
set_option maxRecDepth 100000 in
theorem rule14_any : RuleC 14 126 := by
  intro x A ca B cb C cc mb c v S W N hop hX hC hCB hG hE hN
  obtain ⟨op, a, b, ⟨tk, tn, ts, tt, tl⟩, ⟨pk, pn, ps, pt, pl⟩, l⟩ := c
  obtain rfl : op = 14 := hop
  obtain ⟨TA, tcap, PA, pcap, LA, lcap, rfl, ht, hp, hl, -, ha, hb⟩ := hC.parts
  have e1 : gathN ⟨14, a, b, .mk tk tn ts tt tl, .mk pk pn ps pt pl, l⟩ = [a] := rfl
  rw [e1]
  obtain ⟨R, hR⟩ : ∃ R, R = ruleB x.fns x.tab ⟨14, a, b, .mk tk tn ts tt tl, .mk pk pn ps pt pl, l⟩ := ⟨_, rfl⟩
  rw [← hR]
  have HR : Hid (R = (fitsB (.mk pk pn ps pt pl) && guardB (.mk pk pn ps pt pl) && (inSlotsB (.mk pk pn ps pt pl)))) := Lib.hid (by rw [hR]; rfl)
  clear hR e1 hC
  obtain ⟨W2, hW2⟩ : ∃ W2, W2 = (W.alloc (.cells #[.slice A x.fns.length ca, .slice B x.ops.length cb, .slice C x.tab.length cc, .map (some mb)] 96)).alloc (.cells #[.int .i8 14, .int .i64 a, .int .i64 b, .int .i8 tk, .int .i64 tn, .string ts, .string tt, .slice TA tl.length tcap, .int .i8 pk, .int .i64 pn, .string ps, .string pt, .slice PA pl.length pcap, .slice LA l.length lcap] 50) := ⟨_, rfl⟩
  obtain ⟨gk, gc, b2, -⟩ := two13 W _ _ W2 hW2
  have HB2 := Lib.hid b2
  have HMB := Lib.hid hG.lt
  have HGK := Lib.hid gk
  have HGC := Lib.hid gc
  have HX := Lib.hid (hX.mod (Mod.of_below b2))
  have HT := Lib.hid (ht.modL (Mod.of_below b2))
  have HP := Lib.hid (hp.modL (Mod.of_below b2))
  have HL := Lib.hid (hl.modL (Mod.of_below b2))
  have HCB := Lib.hid hCB
  have HE := Lib.hid (hE.under (b2.mono hE.le))
  have HN := Lib.hid hN
  have HA := Lib.hid ha
  have HBB := Lib.hid hb
  have HGS := Lib.hid (hG.keep b2)
  have HMD : Hid (Mod (fun k => k = mb) W2 W2) := Lib.hid (Mod.refl _ _)
  have x1 : (W2).cell? ⟨W.heap.size + 1, 1, none⟩ = some (.int .i64 a) := cell_of_row (i := 1) gc rfl
  have x8 : (W2).cell? ⟨W.heap.size + 1, 8, none⟩ = some (.int .i8 pk) := cell_of_row (i := 8) gc rfl
  have x9 : (W2).cell? ⟨W.heap.size + 1, 9, none⟩ = some (.int .i64 pn) := cell_of_row (i := 9) gc rfl
  have x10 : (W2).cell? ⟨W.heap.size + 1, 10, none⟩ = some (.string ps) := cell_of_row (i := 10) gc rfl
  have x11 : (W2).cell? ⟨W.heap.size + 1, 11, none⟩ = some (.string pt) := cell_of_row (i := 11) gc rfl
  have x12 : (W2).cell? ⟨W.heap.size + 1, 12, none⟩ = some (.slice PA pl.length pcap) := cell_of_row (i := 12) gc rfl
  obtain ⟨y0, y1, y2, y3⟩ := c4 gk
  clear gk gc b2 hX ht hp hl hCB hE hN ha hb hG
  have HC0 := Lib.hid (gather_one A x.fns.length ca B x.ops.length cb C x.tab.length cc mb a S W2 HGS.out HA.out)
  go_enter Tryz.func126, Tryz.ntmps126
  go_upto_region 1 with fail
  rw [← hW2]
  clear hW2
  go_wp2_with fail
  refine HC0.out.mono ?_
  rintro e w3 ⟨rfl, hgs, mm⟩
  have hmd := HMD.out.trans mm (fun _ _ e => e)
  clear HMD HGS x1 x8 x9 x10 x11 x12 y0 y1 y2 y3
  have HGS := Lib.hid hgs
  have HMD := Lib.hid hmd
  have gk := (hmd.block _ (heap_lt HGK.out) (by have := HMB.out; omega)).trans HGK.out
  have gc := (hmd.block _ (heap_lt HGC.out) (by have := HMB.out; omega)).trans HGC.out
  have x1 : (w3).cell? ⟨W.heap.size + 1, 1, none⟩ = some (.int .i64 a) := cell_of_row (i := 1) gc rfl
  have x8 : (w3).cell? ⟨W.heap.size + 1, 8, none⟩ = some (.int .i8 pk) := cell_of_row (i := 8) gc rfl
  have x9 : (w3).cell? ⟨W.heap.size + 1, 9, none⟩ = some (.int .i64 pn) := cell_of_row (i := 9) gc rfl
  have x10 : (w3).cell? ⟨W.heap.size + 1, 10, none⟩ = some (.string ps) := cell_of_row (i := 10) gc rfl
  have x11 : (w3).cell? ⟨W.heap.size + 1, 11, none⟩ = some (.string pt) := cell_of_row (i := 11) gc rfl
  have x12 : (w3).cell? ⟨W.heap.size + 1, 12, none⟩ = some (.slice PA pl.length pcap) := cell_of_row (i := 12) gc rfl
  obtain ⟨y0, y1, y2, y3⟩ := c4 gk
  clear gk gc hmd hgs mm
  have HC1 := Lib.hid (guard7_ok (.mk pk pn ps pt pl) _ w3 (HP.out.modL HMD.out).loLt HCB.out.p (HE.out.mod HN.out HMD.out).env.env)
  go_wp2_with fail
  refine HC1.out.mono ?_
  rintro e w4 ⟨rfl, bb⟩
  have hmd := HMD.out.trans (Mod.of_below bb) (fun _ _ e => e)
  have hgs := HGS.out.keep bb
  clear HMD HGS x1 x8 x9 x10 x11 x12 y0 y1 y2 y3
  have HGS := Lib.hid hgs
  have HMD := Lib.hid hmd
  have gk := (hmd.block _ (heap_lt HGK.out) (by have := HMB.out; omega)).trans HGK.out
  have gc := (hmd.block _ (heap_lt HGC.out) (by have := HMB.out; omega)).trans HGC.out
  have x1 : (w4).cell? ⟨W.heap.size + 1, 1, none⟩ = some (.int .i64 a) := cell_of_row (i := 1) gc rfl
  have x8 : (w4).cell? ⟨W.heap.size + 1, 8, none⟩ = some (.int .i8 pk) := cell_of_row (i := 8) gc rfl
  have x9 : (w4).cell? ⟨W.heap.size + 1, 9, none⟩ = some (.int .i64 pn) := cell_of_row (i := 9) gc rfl
  have x10 : (w4).cell? ⟨W.heap.size + 1, 10, none⟩ = some (.string ps) := cell_of_row (i := 10) gc rfl
  have x11 : (w4).cell? ⟨W.heap.size + 1, 11, none⟩ = some (.string pt) := cell_of_row (i := 11) gc rfl
  have x12 : (w4).cell? ⟨W.heap.size + 1, 12, none⟩ = some (.slice PA pl.length pcap) := cell_of_row (i := 12) gc rfl
  obtain ⟨y0, y1, y2, y3⟩ := c4 gk
  clear gk gc hmd hgs bb
  cases h1 : (fitsB (.mk pk pn ps pt pl) && guardB (.mk pk pn ps pt pl))
  case false =>
    have HF : Hid (R = false) := Lib.hid (by rw [HR.out, h1]; try rfl)
    go_wp2_with fail
    go_ret
    exact ⟨ret_bool HF.out.symm, HGS.out, (Mod.of_below HB2.out).trans HMD.out (fun _ _ e => e)⟩
  have HSZ := Lib.hid (guard_szd (Bool.and_eq_true_iff.1 h1).2)
  have HC2 := Lib.hid (inSlots_any (.mk pk pn ps pt pl) _ w4 (HP.out.modL HMD.out).loLt HCB.out.p HSZ.out (HE.out.mod HN.out HMD.out).env.env)
  go_wp2_with fail
  refine HC2.out.mono ?_
  rintro e w5 ⟨rfl, bb⟩
  have hmd := HMD.out.trans (Mod.of_below bb) (fun _ _ e => e)
  have hgs := HGS.out.keep bb
  clear HMD HGS x1 x8 x9 x10 x11 x12 y0 y1 y2 y3
  have HGS := Lib.hid hgs
  have HMD := Lib.hid hmd
  have gk := (hmd.block _ (heap_lt HGK.out) (by have := HMB.out; omega)).trans HGK.out
  have gc := (hmd.block _ (heap_lt HGC.out) (by have := HMB.out; omega)).trans HGC.out
  have x1 : (w5).cell? ⟨W.heap.size + 1, 1, none⟩ = some (.int .i64 a) := cell_of_row (i := 1) gc rfl
  have x8 : (w5).cell? ⟨W.heap.size + 1, 8, none⟩ = some (.int .i8 pk) := cell_of_row (i := 8) gc rfl
  have x9 : (w5).cell? ⟨W.heap.size + 1, 9, none⟩ = some (.int .i64 pn) := cell_of_row (i := 9) gc rfl
  have x10 : (w5).cell? ⟨W.heap.size + 1, 10, none⟩ = some (.string ps) := cell_of_row (i := 10) gc rfl
  have x11 : (w5).cell? ⟨W.heap.size + 1, 11, none⟩ = some (.string pt) := cell_of_row (i := 11) gc rfl
  have x12 : (w5).cell? ⟨W.heap.size + 1, 12, none⟩ = some (.slice PA pl.length pcap) := cell_of_row (i := 12) gc rfl
  obtain ⟨y0, y1, y2, y3⟩ := c4 gk
  clear gk gc hmd hgs bb
  cases h2 : (inSlotsB (.mk pk pn ps pt pl))
  case false =>
    have HF : Hid (R = false) := Lib.hid (by rw [HR.out, h1, h2]; try rfl)
    go_wp2_with fail
    go_ret
    exact ⟨ret_bool HF.out.symm, HGS.out, (Mod.of_below HB2.out).trans HMD.out (fun _ _ e => e)⟩
  have HF : Hid (R = true) := Lib.hid (by rw [HR.out, h1, h2]; try rfl)
  go_wp2_with fail
  go_ret
  exact ⟨ret_bool HF.out.symm, HGS.out, (Mod.of_below HB2.out).trans HMD.out (fun _ _ e => e)⟩
set_option maxHeartbeats 40000000 in
set_option maxRecDepth 100000 in
theorem rule8_any : RuleC 8 123 := by
  intro x A ca B cb C cc mb c v S W N hop hX hC hCB hG hE hN
  obtain ⟨op, a, b, ⟨tk, tn, ts, tt, tl⟩, ⟨pk, pn, ps, pt, pl⟩, l⟩ := c
  obtain rfl : op = 8 := hop
  obtain ⟨TA, tcap, PA, pcap, LA, lcap, rfl, ht, hp, hl, -, ha, hb⟩ := hC.parts
  have e1 : gathN ⟨8, a, b, .mk tk tn ts tt tl, .mk pk pn ps pt pl, l⟩ = ([] : List Int) := rfl
  rw [e1]
  obtain ⟨R, hR⟩ : ∃ R, R = ruleB x.fns x.tab ⟨8, a, b, .mk tk tn ts tt tl, .mk pk pn ps pt pl, l⟩ := ⟨_, rfl⟩
  rw [← hR]
  have HR : Hid (R = (withinB b 0 ((x.fns.length : Int) - 1) && (match x.fns[b.toNat]? with | some f => f.n == a | none => false))) := Lib.hid (by rw [hR]; rfl)
  clear hR e1 hC
  obtain ⟨W2, hW2⟩ : ∃ W2, W2 = (W.alloc (.cells #[.slice A x.fns.length ca, .slice B x.ops.length cb, .slice C x.tab.length cc, .map (some mb)] 96)).alloc (.cells #[.int .i8 8, .int .i64 a, .int .i64 b, .int .i8 tk, .int .i64 tn, .string ts, .string tt, .slice TA tl.length tcap, .int .i8 pk, .int .i64 pn, .string ps, .string pt, .slice PA pl.length pcap, .slice LA l.length lcap] 50) := ⟨_, rfl⟩
  obtain ⟨gk, gc, b2, -⟩ := two13 W _ _ W2 hW2
  have HB2 := Lib.hid b2
  have HMB := Lib.hid hG.lt
  have HGK := Lib.hid gk
  have HGC := Lib.hid gc
  have HX := Lib.hid (hX.mod (Mod.of_below b2))
  have HT := Lib.hid (ht.modL (Mod.of_below b2))
  have HP := Lib.hid (hp.modL (Mod.of_below b2))
  have HL := Lib.hid (hl.modL (Mod.of_below b2))
  have HCB := Lib.hid hCB
  have HE := Lib.hid (hE.under (b2.mono hE.le))
  have HN := Lib.hid hN
  have HA := Lib.hid ha
  have HBB := Lib.hid hb
  have HGS := Lib.hid (hG.keep b2)
  have HMD : Hid (Mod (fun k => k = mb) W2 W2) := Lib.hid (Mod.refl _ _)
  clear gk gc b2 hX ht hp hl hCB hE hN ha hb hG
  rw [List.append_nil]
  have hfl := HX.out.fns.max
  unfold maxLen at hfl
  have HW : Hid (IntKind.i64.wrap ((x.fns.length : Int) - 1) = (x.fns.length : Int) - 1) := Lib.hid (by rw [IntKind.wrap_i64]; omega)
  cases h0 : withinB b 0 ((x.fns.length : Int) - 1)
  case false =>
    have HF : Hid (R = false) := Lib.hid (by rw [HR.out, h0]; rfl)
    have H0 := Lib.hid h0
    clear h0
    go_enter Tryz.func123, Tryz.ntmps123
    go_upto_region 1 with fail
    rw [← hW2]
    clear hW2
    refine wp_region_qC (C := fun V => Below (W2).heap.size (W2) V) (by kernel_rfl) (by kernel_rfl) (drewC (W2)) ?_
    refine wpqC (v := ?_) (by kernel_rfl) ?_ ?_; rotate_left; (intro V hV; (try dsimp only at hV); go_simp; first | done | with_reducible rfl); (try simp only [Act.put, sI, sZ, sS])
    refine wpqC (v := ?_) (by kernel_rfl) ?_ ?_; rotate_left; (intro V hV; (try dsimp only at hV); have gc := (hV.block _ (heap_lt HGC.out)).trans HGC.out; have x2 := cell_of_row (i := 2) gc rfl; go_simp; first | done | with_reducible rfl); (try simp only [Act.put, sI, sZ, sS])
    refine wpqC (v := ?_) (by kernel_rfl) ?_ ?_; rotate_left; (intro V hV; (try dsimp only at hV); go_simp; first | done | with_reducible rfl); (try simp only [Act.put, sI, sZ, sS])
    refine wpqC (v := ?_) (by kernel_rfl) ?_ ?_; rotate_left; (intro V hV; (try dsimp only at hV); go_simp; first | done | with_reducible rfl); (try simp only [Act.put, sI, sZ, sS])
    refine wpqC (v := ?_) (by kernel_rfl) ?_ ?_; rotate_left; (intro V hV; (try dsimp only at hV); have gk := (hV.block _ (heap_lt HGK.out)).trans HGK.out; have y0 := cell_of_row (i := 0) gk rfl; go_simp; first | done | with_reducible rfl); (try simp only [Act.put, sI, sZ, sS])
    refine wpqC (v := ?_) (by kernel_rfl) ?_ ?_; rotate_left; (intro V hV; (try dsimp only at hV); go_simp; first | done | with_reducible rfl); (try simp only [Act.put, sI, sZ, sS])
    refine wpqC (v := ?_) (by kernel_rfl) ?_ ?_; rotate_left; (intro V hV; (try dsimp only at hV); go_simp; first | done | with_reducible rfl); (try simp only [Act.put, sI, sZ, sS])
    refine wpqC (v := .bool false) (by kernel_rfl) ?_ ?_; (· intro V hV; (try dsimp only at hV); go_simp; refine (within_any _ _ _ V).mono ?_; rintro e V2 ⟨rfl, rfl⟩; exact ⟨by rw [HW.out, H0.out], hV⟩); (try simp only [Act.put, sI, sZ, sS])
    refine wpqC (v := ?_) (by kernel_rfl) ?_ ?_; rotate_left; (intro V hV; (try dsimp only at hV); go_simp; first | done | with_reducible rfl); (try simp only [Act.put, sI, sZ, sS])
    refine wpqC_skip (by kernel_rfl) ?_; (try simp only [Act.put, sI, sZ, sS])
    refine wpqC_skip (by kernel_rfl) ?_; (try simp only [Act.put, sI, sZ, sS])
    refine wpqC_skip (by kernel_rfl) ?_; (try simp only [Act.put, sI, sZ, sS])
    refine wpqC_skip (by kernel_rfl) ?_; (try simp only [Act.put, sI, sZ, sS])
    refine wpqC_skip (by kernel_rfl) ?_; (try simp only [Act.put, sI, sZ, sS])
    refine wpqC_skip (by kernel_rfl) ?_; (try simp only [Act.put, sI, sZ, sS])
    refine wpqC_skip (by kernel_rfl) ?_; (try simp only [Act.put, sI, sZ, sS])
    refine wpqC_skip (by kernel_rfl) ?_; (try simp only [Act.put, sI, sZ, sS])
    refine wpqC_skip (by kernel_rfl) ?_; (try simp only [Act.put, sI, sZ, sS])
    refine wpqC_skip (by kernel_rfl) ?_; (try simp only [Act.put, sI, sZ, sS])
    refine wpqC_skip (by kernel_rfl) ?_; (try simp only [Act.put, sI, sZ, sS])
    refine wpqC (v := ?_) (by kernel_rfl) ?_ ?_; rotate_left; (intro V hV; (try dsimp only at hV); go_simp; first | done | with_reducible rfl); (try simp only [Act.put, sI, sZ, sS])
    refine wpqC (v := ?_) (by kernel_rfl) ?_ ?_; rotate_left; (intro V hV; (try dsimp only at hV); go_simp; first | done | with_reducible rfl); (try simp only [Act.put, sI, sZ, sS])
    refine wpQuiet_nil ?_
    intro V9 h9
    (try dsimp only at h9)
    have HB9 := Lib.hid h9
    clear h9
    go_wp2_with fail
    go_ret
    exact ⟨ret_bool HF.out.symm, HGS.out.keep HB9.out, (Mod.of_below HB2.out).trans (Mod.of_below HB9.out) (fun _ _ e => e)⟩
  have h1 : (0 : Int) ≤ b ∧ b ≤ (x.fns.length : Int) - 1 := by unfold withinB at h0; simpa using h0
  obtain ⟨q, rfl⟩ : ∃ q : Nat, b = q := ⟨b.toNat, by omega⟩
  obtain ⟨f, hf⟩ : ∃ f, x.fns[q]? = some f := ⟨x.fns[q]'(by omega), List.getElem?_eq_getElem _⟩
  obtain ⟨ad, hA, had, hE', hF⟩ := HX.out.fns.at_ q f hf
  subst hA
  obtain ⟨c0, c1, c2, c3, c4, hcc, e0, e1, e2, e3, e4⟩ := hE'
  simp only [fn13V, Value.agg.injEq, Array.mk.injEq, List.cons.injEq, and_true] at hcc
  obtain ⟨rfl, rfl, rfl, rfl, rfl⟩ := hcc
  have HR2 : Hid (R = (f.n == a)) := Lib.hid (by rw [HR.out, h0, Bool.true_and, show ((q : Int)).toNat = q from rfl, hf])
  have HAD := Lib.hid had
  have HE2 := Lib.hid e2
  have i1 : (q : Int) < (x.fns.length : Int) := by omega
  have i0 : (0 : Int) ≤ (q : Int) := by omega
  have H0 := Lib.hid h0
  clear h0 h1 hf hF had HR e0 e1 e2 e3 e4
  cases h2 : (f.n == a)
  all_goals
    have HF := Lib.hid (HR2.out.trans h2)
    go_enter Tryz.func123, Tryz.ntmps123
    go_upto_region 1 with fail
    rw [← hW2]
    clear hW2
    refine wp_region_qC (C := fun V => Below (W2).heap.size (W2) V) (by kernel_rfl) (by kernel_rfl) (drewC (W2)) ?_
    refine wpqC (v := ?_) (by kernel_rfl) ?_ ?_; rotate_left; (intro V hV; (try dsimp only at hV); go_simp; first | done | with_reducible rfl); (try simp only [Act.put, sI, sZ, sS])
    refine wpqC (v := ?_) (by kernel_rfl) ?_ ?_; rotate_left; (intro V hV; (try dsimp only at hV); have gc := (hV.block _ (heap_lt HGC.out)).trans HGC.out; have x2 := cell_of_row (i := 2) gc rfl; go_simp; first | done | with_reducible rfl); (try simp only [Act.put, sI, sZ, sS])
    refine wpqC (v := ?_) (by kernel_rfl) ?_ ?_; rotate_left; (intro V hV; (try dsimp only at hV); go_simp; first | done | with_reducible rfl); (try simp only [Act.put, sI, sZ, sS])
    refine wpqC (v := ?_) (by kernel_rfl) ?_ ?_; rotate_left; (intro V hV; (try dsimp only at hV); go_simp; first | done | with_reducible rfl); (try simp only [Act.put, sI, sZ, sS])
    refine wpqC (v := ?_) (by kernel_rfl) ?_ ?_; rotate_left; (intro V hV; (try dsimp only at hV); have gk := (hV.block _ (heap_lt HGK.out)).trans HGK.out; have y0 := cell_of_row (i := 0) gk rfl; go_simp; first | done | with_reducible rfl); (try simp only [Act.put, sI, sZ, sS])
    refine wpqC (v := ?_) (by kernel_rfl) ?_ ?_; rotate_left; (intro V hV; (try dsimp only at hV); go_simp; first | done | with_reducible rfl); (try simp only [Act.put, sI, sZ, sS])
    refine wpqC (v := ?_) (by kernel_rfl) ?_ ?_; rotate_left; (intro V hV; (try dsimp only at hV); go_simp; first | done | with_reducible rfl); (try simp only [Act.put, sI, sZ, sS])
    refine wpqC (v := .bool true) (by kernel_rfl) ?_ ?_; (· intro V hV; (try dsimp only at hV); go_simp; refine (within_any _ _ _ V).mono ?_; rintro e V2 ⟨rfl, rfl⟩; exact ⟨by rw [HW.out, H0.out], hV⟩); (try simp only [Act.put, sI, sZ, sS])
    refine wpqC (v := ?_) (by kernel_rfl) ?_ ?_; rotate_left; (intro V hV; (try dsimp only at hV); go_simp; first | done | with_reducible rfl); (try simp only [Act.put, sI, sZ, sS])
    refine wpqC (v := ?_) (by kernel_rfl) ?_ ?_; rotate_left; (intro V hV; (try dsimp only at hV); go_simp; first | done | with_reducible rfl); (try simp only [Act.put, sI, sZ, sS])
    refine wpqC (v := ?_) (by kernel_rfl) ?_ ?_; rotate_left; (intro V hV; (try dsimp only at hV); go_simp; first | done | with_reducible rfl); (try simp only [Act.put, sI, sZ, sS])
    refine wpqC (v := ?_) (by kernel_rfl) ?_ ?_; rotate_left; (intro V hV; (try dsimp only at hV); have gk := (hV.block _ (heap_lt HGK.out)).trans HGK.out; have y0 := cell_of_row (i := 0) gk rfl; go_simp; first | done | with_reducible rfl); (try simp only [Act.put, sI, sZ, sS])
    refine wpqC (v := ?_) (by kernel_rfl) ?_ ?_; rotate_left; (intro V hV; (try dsimp only at hV); go_simp; first | done | with_reducible rfl); (try simp only [Act.put, sI, sZ, sS])
    refine wpqC (v := ?_) (by kernel_rfl) ?_ ?_; rotate_left; (intro V hV; (try dsimp only at hV); have gc := (hV.block _ (heap_lt HGC.out)).trans HGC.out; have x2 := cell_of_row (i := 2) gc rfl; go_simp; first | done | with_reducible rfl); (try simp only [Act.put, sI, sZ, sS])
    refine wpqC (v := ?_) (by kernel_rfl) ?_ ?_; rotate_left; (intro V hV; (try dsimp only at hV); go_simp; first | done | with_reducible rfl); (try simp only [Act.put, sI, sZ, sS])
    refine wpqC (v := ?_) (by kernel_rfl) ?_ ?_; rotate_left; (intro V hV; (try dsimp only at hV); go_simp; first | done | with_reducible rfl); (try simp only [Act.put, sI, sZ, sS])
    refine wpqC (v := ?_) (by kernel_rfl) ?_ ?_; rotate_left; (intro V hV; (try dsimp only at hV); have e9 := (hV.cell (by show (ad.add (q * 5)).block < _; rw [add_block]; exact HAD.out.1)).trans HE2.out; go_simp; first | done | with_reducible rfl); (try simp only [Act.put, sI, sZ, sS])
    refine wpqC (v := ?_) (by kernel_rfl) ?_ ?_; rotate_left; (intro V hV; (try dsimp only at hV); go_simp; first | done | with_reducible rfl); (try simp only [Act.put, sI, sZ, sS])
    refine wpqC (v := ?_) (by kernel_rfl) ?_ ?_; rotate_left; (intro V hV; (try dsimp only at hV); have gc := (hV.block _ (heap_lt HGC.out)).trans HGC.out; have x1 := cell_of_row (i := 1) gc rfl; go_simp; first | done | with_reducible rfl); (try simp only [Act.put, sI, sZ, sS])
    refine wpqC (v := ?_) (by kernel_rfl) ?_ ?_; rotate_left; (intro V hV; (try dsimp only at hV); go_simp; first | done | with_reducible rfl); (try simp only [Act.put, sI, sZ, sS])
    refine wpqC (v := ?_) (by kernel_rfl) ?_ ?_; rotate_left; (intro V hV; (try dsimp only at hV); go_simp; first | done | with_reducible rfl); (try simp only [Act.put, sI, sZ, sS])
    refine wpqC (v := ?_) (by kernel_rfl) ?_ ?_; rotate_left; (intro V hV; (try dsimp only at hV); go_simp; first | done | with_reducible rfl); (try simp only [Act.put, sI, sZ, sS])
    refine wpQuiet_nil ?_
    intro V9 h9
    (try dsimp only at h9)
    have HB9 := Lib.hid h9
    clear h9
    go_wp2_with fail
    go_ret
    exact ⟨ret_bool HF.out.symm, HGS.out.keep HB9.out, (Mod.of_below HB2.out).trans (Mod.of_below HB9.out) (fun _ _ e => e)⟩
set_option maxHeartbeats 40000000 in
set_option maxRecDepth 100000 in
theorem rule9_any : RuleC 9 123 := by
  intro x A ca B cb C cc mb c v S W N hop hX hC hCB hG hE hN
  obtain ⟨op, a, b, ⟨tk, tn, ts, tt, tl⟩, ⟨pk, pn, ps, pt, pl⟩, l⟩ := c
  obtain rfl : op = 9 := hop
  obtain ⟨TA, tcap, PA, pcap, LA, lcap, rfl, ht, hp, hl, -, ha, hb⟩ := hC.parts
  have e1 : gathN ⟨9, a, b, .mk tk tn ts tt tl, .mk pk pn ps pt pl, l⟩ = ([] : List Int) := rfl
  rw [e1]
  obtain ⟨R, hR⟩ : ∃ R, R = ruleB x.fns x.tab ⟨9, a, b, .mk tk tn ts tt tl, .mk pk pn ps pt pl, l⟩ := ⟨_, rfl⟩
  rw [← hR]
  have HR : Hid (R = (withinB b 0 ((x.fns.length : Int) - 1) && (match x.fns[b.toNat]? with | some f => f.n == a | none => false))) := Lib.hid (by rw [hR]; rfl)
  clear hR e1 hC
  obtain ⟨W2, hW2⟩ : ∃ W2, W2 = (W.alloc (.cells #[.slice A x.fns.length ca, .slice B x.ops.length cb, .slice C x.tab.length cc, .map (some mb)] 96)).alloc (.cells #[.int .i8 9, .int .i64 a, .int .i64 b, .int .i8 tk, .int .i64 tn, .string ts, .string tt, .slice TA tl.length tcap, .int .i8 pk, .int .i64 pn, .string ps, .string pt, .slice PA pl.length pcap, .slice LA l.length lcap] 50) := ⟨_, rfl⟩
  obtain ⟨gk, gc, b2, -⟩ := two13 W _ _ W2 hW2
  have HB2 := Lib.hid b2
  have HMB := Lib.hid hG.lt
  have HGK := Lib.hid gk
  have HGC := Lib.hid gc
  have HX := Lib.hid (hX.mod (Mod.of_below b2))
  have HT := Lib.hid (ht.modL (Mod.of_below b2))
  have HP := Lib.hid (hp.modL (Mod.of_below b2))
  have HL := Lib.hid (hl.modL (Mod.of_below b2))
  have HCB := Lib.hid hCB
  have HE := Lib.hid (hE.under (b2.mono hE.le))
  have HN := Lib.hid hN
  have HA := Lib.hid ha
  have HBB := Lib.hid hb
  have HGS := Lib.hid (hG.keep b2)
  have HMD : Hid (Mod (fun k => k = mb) W2 W2) := Lib.hid (Mod.refl _ _)
  clear gk gc b2 hX ht hp hl hCB hE hN ha hb hG
  rw [List.append_nil]
  have hfl := HX.out.fns.max
  unfold maxLen at hfl
  have HW : Hid (IntKind.i64.wrap ((x.fns.length : Int) - 1) = (x.fns.length : Int) - 1) := Lib.hid (by rw [IntKind.wrap_i64]; omega)
  cases h0 : withinB b 0 ((x.fns.length : Int) - 1)
  case false =>
    have HF : Hid (R = false) := Lib.hid (by rw [HR.out, h0]; rfl)
    have H0 := Lib.hid h0
    clear h0
    go_enter Tryz.func123, Tryz.ntmps123
    go_upto_region 1 with fail
    rw [← hW2]
    clear hW2
    refine wp_region_qC (C := fun V => Below (W2).heap.size (W2) V) (by kernel_rfl) (by kernel_rfl) (drewC (W2)) ?_
    refine wpqC (v := ?_) (by kernel_rfl) ?_ ?_; rotate_left; (intro V hV; (try dsimp only at hV); go_simp; first | done | with_reducible rfl); (try simp only [Act.put, sI, sZ, sS])
    refine wpqC (v := ?_) (by kernel_rfl) ?_ ?_; rotate_left; (intro V hV; (try dsimp only at hV); have gc := (hV.block _ (heap_lt HGC.out)).trans HGC.out; have x2 := cell_of_row (i := 2) gc rfl; go_simp; first | done | with_reducible rfl); (try simp only [Act.put, sI, sZ, sS])
    refine wpqC (v := ?_) (by kernel_rfl) ?_ ?_; rotate_left; (intro V hV; (try dsimp only at hV); go_simp; first | done | with_reducible rfl); (try simp only [Act.put, sI, sZ, sS])
    refine wpqC (v := ?_) (by kernel_rfl) ?_ ?_; rotate_left; (intro V hV; (try dsimp only at hV); go_simp; first | done | with_reducible rfl); (try simp only [Act.put, sI, sZ, sS])
    refine wpqC (v := ?_) (by kernel_rfl) ?_ ?_; rotate_left; (intro V hV; (try dsimp only at hV); have gk := (hV.block _ (heap_lt HGK.out)).trans HGK.out; have y0 := cell_of_row (i := 0) gk rfl; go_simp; first | done | with_reducible rfl); (try simp only [Act.put, sI, sZ, sS])
    refine wpqC (v := ?_) (by kernel_rfl) ?_ ?_; rotate_left; (intro V hV; (try dsimp only at hV); go_simp; first | done | with_reducible rfl); (try simp only [Act.put, sI, sZ, sS])
    refine wpqC (v := ?_) (by kernel_rfl) ?_ ?_; rotate_left; (intro V hV; (try dsimp only at hV); go_simp; first | done | with_reducible rfl); (try simp only [Act.put, sI, sZ, sS])
    refine wpqC (v := .bool false) (by kernel_rfl) ?_ ?_; (· intro V hV; (try dsimp only at hV); go_simp; refine (within_any _ _ _ V).mono ?_; rintro e V2 ⟨rfl, rfl⟩; exact ⟨by rw [HW.out, H0.out], hV⟩); (try simp only [Act.put, sI, sZ, sS])
    refine wpqC (v := ?_) (by kernel_rfl) ?_ ?_; rotate_left; (intro V hV; (try dsimp only at hV); go_simp; first | done | with_reducible rfl); (try simp only [Act.put, sI, sZ, sS])
    refine wpqC_skip (by kernel_rfl) ?_; (try simp only [Act.put, sI, sZ, sS])
    refine wpqC_skip (by kernel_rfl) ?_; (try simp only [Act.put, sI, sZ, sS])
    refine wpqC_skip (by kernel_rfl) ?_; (try simp only [Act.put, sI, sZ, sS])
    refine wpqC_skip (by kernel_rfl) ?_; (try simp only [Act.put, sI, sZ, sS])
    refine wpqC_skip (by kernel_rfl) ?_; (try simp only [Act.put, sI, sZ, sS])
    refine wpqC_skip (by kernel_rfl) ?_; (try simp only [Act.put, sI, sZ, sS])
    refine wpqC_skip (by kernel_rfl) ?_; (try simp only [Act.put, sI, sZ, sS])
    refine wpqC_skip (by kernel_rfl) ?_; (try simp only [Act.put, sI, sZ, sS])
    refine wpqC_skip (by kernel_rfl) ?_; (try simp only [Act.put, sI, sZ, sS])
    refine wpqC_skip (by kernel_rfl) ?_; (try simp only [Act.put, sI, sZ, sS])
    refine wpqC_skip (by kernel_rfl) ?_; (try simp only [Act.put, sI, sZ, sS])
    refine wpqC (v := ?_) (by kernel_rfl) ?_ ?_; rotate_left; (intro V hV; (try dsimp only at hV); go_simp; first | done | with_reducible rfl); (try simp only [Act.put, sI, sZ, sS])
    refine wpqC (v := ?_) (by kernel_rfl) ?_ ?_; rotate_left; (intro V hV; (try dsimp only at hV); go_simp; first | done | with_reducible rfl); (try simp only [Act.put, sI, sZ, sS])
    refine wpQuiet_nil ?_
    intro V9 h9
    (try dsimp only at h9)
    have HB9 := Lib.hid h9
    clear h9
    go_wp2_with fail
    go_ret
    exact ⟨ret_bool HF.out.symm, HGS.out.keep HB9.out, (Mod.of_below HB2.out).trans (Mod.of_below HB9.out) (fun _ _ e => e)⟩
  have h1 : (0 : Int) ≤ b ∧ b ≤ (x.fns.length : Int) - 1 := by unfold withinB at h0; simpa using h0
  obtain ⟨q, rfl⟩ : ∃ q : Nat, b = q := ⟨b.toNat, by omega⟩
  obtain ⟨f, hf⟩ : ∃ f, x.fns[q]? = some f := ⟨x.fns[q]'(by omega), List.getElem?_eq_getElem _⟩
  obtain ⟨ad, hA, had, hE', hF⟩ := HX.out.fns.at_ q f hf
  subst hA
  obtain ⟨c0, c1, c2, c3, c4, hcc, e0, e1, e2, e3, e4⟩ := hE'
  simp only [fn13V, Value.agg.injEq, Array.mk.injEq, List.cons.injEq, and_true] at hcc
  obtain ⟨rfl, rfl, rfl, rfl, rfl⟩ := hcc
  have HR2 : Hid (R = (f.n == a)) := Lib.hid (by rw [HR.out, h0, Bool.true_and, show ((q : Int)).toNat = q from rfl, hf])
  have HAD := Lib.hid had
  have HE2 := Lib.hid e2
  have i1 : (q : Int) < (x.fns.length : Int) := by omega
  have i0 : (0 : Int) ≤ (q : Int) := by omega
  have H0 := Lib.hid h0
  clear h0 h1 hf hF had HR e0 e1 e2 e3 e4
  cases h2 : (f.n == a)
  all_goals
    have HF := Lib.hid (HR2.out.trans h2)
    go_enter Tryz.func123, Tryz.ntmps123
    go_upto_region 1 with fail
    rw [← hW2]
    clear hW2
    refine wp_region_qC (C := fun V => Below (W2).heap.size (W2) V) (by kernel_rfl) (by kernel_rfl) (drewC (W2)) ?_
    refine wpqC (v := ?_) (by kernel_rfl) ?_ ?_; rotate_left; (intro V hV; (try dsimp only at hV); go_simp; first | done | with_reducible rfl); (try simp only [Act.put, sI, sZ, sS])
    refine wpqC (v := ?_) (by kernel_rfl) ?_ ?_; rotate_left; (intro V hV; (try dsimp only at hV); have gc := (hV.block _ (heap_lt HGC.out)).trans HGC.out; have x2 := cell_of_row (i := 2) gc rfl; go_simp; first | done | with_reducible rfl); (try simp only [Act.put, sI, sZ, sS])
    refine wpqC (v := ?_) (by kernel_rfl) ?_ ?_; rotate_left; (intro V hV; (try dsimp only at hV); go_simp; first | done | with_reducible rfl); (try simp only [Act.put, sI, sZ, sS])
    refine wpqC (v := ?_) (by kernel_rfl) ?_ ?_; rotate_left; (intro V hV; (try dsimp only at hV); go_simp; first | done | with_reducible rfl); (try simp only [Act.put, sI, sZ, sS])
    refine wpqC (v := ?_) (by kernel_rfl) ?_ ?_; rotate_left; (intro V hV; (try dsimp only at hV); have gk := (hV.block _ (heap_lt HGK.out)).trans HGK.out; have y0 := cell_of_row (i := 0) gk rfl; go_simp; first | done | with_reducible rfl); (try simp only [Act.put, sI, sZ, sS])
    refine wpqC (v := ?_) (by kernel_rfl) ?_ ?_; rotate_left; (intro V hV; (try dsimp only at hV); go_simp; first | done | with_reducible rfl); (try simp only [Act.put, sI, sZ, sS])
    refine wpqC (v := ?_) (by kernel_rfl) ?_ ?_; rotate_left; (intro V hV; (try dsimp only at hV); go_simp; first | done | with_reducible rfl); (try simp only [Act.put, sI, sZ, sS])
    refine wpqC (v := .bool true) (by kernel_rfl) ?_ ?_; (· intro V hV; (try dsimp only at hV); go_simp; refine (within_any _ _ _ V).mono ?_; rintro e V2 ⟨rfl, rfl⟩; exact ⟨by rw [HW.out, H0.out], hV⟩); (try simp only [Act.put, sI, sZ, sS])
    refine wpqC (v := ?_) (by kernel_rfl) ?_ ?_; rotate_left; (intro V hV; (try dsimp only at hV); go_simp; first | done | with_reducible rfl); (try simp only [Act.put, sI, sZ, sS])
    refine wpqC (v := ?_) (by kernel_rfl) ?_ ?_; rotate_left; (intro V hV; (try dsimp only at hV); go_simp; first | done | with_reducible rfl); (try simp only [Act.put, sI, sZ, sS])
    refine wpqC (v := ?_) (by kernel_rfl) ?_ ?_; rotate_left; (intro V hV; (try dsimp only at hV); go_simp; first | done | with_reducible rfl); (try simp only [Act.put, sI, sZ, sS])
    refine wpqC (v := ?_) (by kernel_rfl) ?_ ?_; rotate_left; (intro V hV; (try dsimp only at hV); have gk := (hV.block _ (heap_lt HGK.out)).trans HGK.out; have y0 := cell_of_row (i := 0) gk rfl; go_simp; first | done | with_reducible rfl); (try simp only [Act.put, sI, sZ, sS])
    refine wpqC (v := ?_) (by kernel_rfl) ?_ ?_; rotate_left; (intro V hV; (try dsimp only at hV); go_simp; first | done | with_reducible rfl); (try simp only [Act.put, sI, sZ, sS])
    refine wpqC (v := ?_) (by kernel_rfl) ?_ ?_; rotate_left; (intro V hV; (try dsimp only at hV); have gc := (hV.block _ (heap_lt HGC.out)).trans HGC.out; have x2 := cell_of_row (i := 2) gc rfl; go_simp; first | done | with_reducible rfl); (try simp only [Act.put, sI, sZ, sS])
    refine wpqC (v := ?_) (by kernel_rfl) ?_ ?_; rotate_left; (intro V hV; (try dsimp only at hV); go_simp; first | done | with_reducible rfl); (try simp only [Act.put, sI, sZ, sS])
    refine wpqC (v := ?_) (by kernel_rfl) ?_ ?_; rotate_left; (intro V hV; (try dsimp only at hV); go_simp; first | done | with_reducible rfl); (try simp only [Act.put, sI, sZ, sS])
    refine wpqC (v := ?_) (by kernel_rfl) ?_ ?_; rotate_left; (intro V hV; (try dsimp only at hV); have e9 := (hV.cell (by show (ad.add (q * 5)).block < _; rw [add_block]; exact HAD.out.1)).trans HE2.out; go_simp; first | done | with_reducible rfl); (try simp only [Act.put, sI, sZ, sS])
    refine wpqC (v := ?_) (by kernel_rfl) ?_ ?_; rotate_left; (intro V hV; (try dsimp only at hV); go_simp; first | done | with_reducible rfl); (try simp only [Act.put, sI, sZ, sS])
    refine wpqC (v := ?_) (by kernel_rfl) ?_ ?_; rotate_left; (intro V hV; (try dsimp only at hV); have gc := (hV.block _ (heap_lt HGC.out)).trans HGC.out; have x1 := cell_of_row (i := 1) gc rfl; go_simp; first | done | with_reducible rfl); (try simp only [Act.put, sI, sZ, sS])
    refine wpqC (v := ?_) (by kernel_rfl) ?_ ?_; rotate_left; (intro V hV; (try dsimp only at hV); go_simp; first | done | with_reducible rfl); (try simp only [Act.put, sI, sZ, sS])
    refine wpqC (v := ?_) (by kernel_rfl) ?_ ?_; rotate_left; (intro V hV; (try dsimp only at hV); go_simp; first | done | with_reducible rfl); (try simp only [Act.put, sI, sZ, sS])
    refine wpqC (v := ?_) (by kernel_rfl) ?_ ?_; rotate_left; (intro V hV; (try dsimp only at hV); go_simp; first | done | with_reducible rfl); (try simp only [Act.put, sI, sZ, sS])
    refine wpQuiet_nil ?_
    intro V9 h9
    (try dsimp only at h9)
    have HB9 := Lib.hid h9
    clear h9
    go_wp2_with fail
    go_ret
    exact ⟨ret_bool HF.out.symm, HGS.out.keep HB9.out, (Mod.of_below HB2.out).trans (Mod.of_below HB9.out) (fun _ _ e => e)⟩
end Go.Proofs.YtdimcddbmccniaaGreatDoor
