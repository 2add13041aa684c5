/- Layer 13: each kind's rule of instructions (written by gen_cd8.py). -/
import Derived.Test.YtdimcddbmccniaaGreatDoorKCd6
import Derived.Test.YtdimcddbmccniaaGreatDoorKBuilt9
set_option linter.unusedVariables false
set_option linter.unusedSimpArgs false
namespace Go.Proofs.YtdimcddbmccniaaGreatDoor
open Go.RowKit

structure CdB (c : Cd) : Prop where
  p : c.p.nodes ≤ 8200
  l : ∀ y ∈ c.l, y.nodes ≤ 8200
  len : c.l.length ≤ 6000
def RuleC (j : Int) (f : Nat) : Prop := ∀ (x : Pg) (A : Option Addr) (ca : Nat) (B : Option Addr) (cb : Nat) (C : Option Addr) (cc mb : Nat) (c : Cd) (v : Value) (S : List Int) (W : World) (N : Nat),
  c.op = j → PgAt (Lo mb W) W x A ca B cb C cc → CdAt (Lo mb W) W c v → CdB c → GS mb S W → EnvB N W → N ≤ mb →
  Calls Tryz.prog f #[.agg #[.slice A x.fns.length ca, .slice B x.ops.length cb, .slice C x.tab.length cc, .map (some mb)], v] W fun e w' => e = .returned (.bool (ruleB x.fns x.tab c)) ∧ GS mb (S ++ gathN c) w' ∧ Mod (fun k => k = mb) W w'
theorem two13 (w : World) (o0 o1 : Obj) (V : World) (hV : V = (w.alloc o0).alloc o1) : V.heap[w.heap.size]? = some o0 ∧ V.heap[w.heap.size + 1]? = some o1 ∧ Below w.heap.size w V ∧ V.heap.size = w.heap.size + 2 := by
  have h1 := block_alloc w o0
  have h2 := block_alloc (w.alloc o0) o1
  rw [World.size_alloc] at h2
  subst hV
  exact ⟨(Below.heap_alloc _ _ _ (by simp)).trans h1, h2, ((Below.refl _ _).alloc (Nat.le_refl _) _).alloc (by simp) _, by simp⟩
theorem spansB {N : Nat} {W : World} (h : EnvB N W) : Spans W := h.env.env.spans

set_option maxHeartbeats 4000000 in
set_option maxRecDepth 100000 in
theorem rule3_any : RuleC 3 113 := by
  intro x A ca B cb C cc mb c v S W N hop hX hC hCB hG hE hN
  obtain ⟨op, a, b, ⟨tk, tn, ts, tt, tl⟩, ⟨pk, pn, ps, pt, pl⟩, l⟩ := c
  obtain rfl : op = 3 := hop
  obtain ⟨TA, tcap, PA, pcap, LA, lcap, rfl, ht, hp, hl, -, ha, hb⟩ := hC.parts
  have e1 : gathN ⟨3, a, b, .mk tk tn ts tt tl, .mk pk pn ps pt pl, l⟩ = ([] : List Int) := rfl
  rw [e1]
  obtain ⟨R, hR⟩ : ∃ R, R = ruleB x.fns x.tab ⟨3, a, b, .mk tk tn ts tt tl, .mk pk pn ps pt pl, l⟩ := ⟨_, rfl⟩
  rw [← hR]
  have HR : Hid (R = (true)) := Lib.hid (by rw [hR]; rfl)
  clear hR e1 hC
  obtain ⟨W2, hW2⟩ : ∃ W2, W2 = (W.alloc (.cells #[.slice A x.fns.length ca, .slice B x.ops.length cb, .slice C x.tab.length cc, .map (some mb)] 96)).alloc (.cells #[.int .i8 3, .int .i64 a, .int .i64 b, .int .i8 tk, .int .i64 tn, .string ts, .string tt, .slice TA tl.length tcap, .int .i8 pk, .int .i64 pn, .string ps, .string pt, .slice PA pl.length pcap, .slice LA l.length lcap] 50) := ⟨_, rfl⟩
  obtain ⟨gk, gc, b2, -⟩ := two13 W _ _ W2 hW2
  have HB2 := Lib.hid b2
  have HMB := Lib.hid hG.lt
  have HGK := Lib.hid gk
  have HGC := Lib.hid gc
  have HX := Lib.hid (hX.mod (Mod.of_below b2))
  have HT := Lib.hid (ht.modL (Mod.of_below b2))
  have HP := Lib.hid (hp.modL (Mod.of_below b2))
  have HL := Lib.hid (hl.modL (Mod.of_below b2))
  have HCB := Lib.hid hCB
  have HE := Lib.hid (hE.under (b2.mono hE.le))
  have HN := Lib.hid hN
  have HA := Lib.hid ha
  have HBB := Lib.hid hb
  have HGS := Lib.hid (hG.keep b2)
  have HMD : Hid (Mod (fun k => k = mb) W2 W2) := Lib.hid (Mod.refl _ _)
  clear gk gc b2 hX ht hp hl hCB hE hN ha hb hG
  rw [List.append_nil]
  have HF : Hid (R = true) := Lib.hid (by rw [HR.out]; try rfl)
  go_enter Tryz.func113, Tryz.ntmps113
  go_upto_region 1 with fail
  rw [← hW2]
  clear hW2
  go_wp2_with fail
  go_ret
  exact ⟨ret_bool HF.out.symm, HGS.out, (Mod.of_below HB2.out).trans HMD.out (fun _ _ e => e)⟩
set_option maxHeartbeats 4000000 in
set_option maxRecDepth 100000 in
theorem rule5_any : RuleC 5 113 := by
  intro x A ca B cb C cc mb c v S W N hop hX hC hCB hG hE hN
  obtain ⟨op, a, b, ⟨tk, tn, ts, tt, tl⟩, ⟨pk, pn, ps, pt, pl⟩, l⟩ := c
  obtain rfl : op = 5 := hop
  obtain ⟨TA, tcap, PA, pcap, LA, lcap, rfl, ht, hp, hl, -, ha, hb⟩ := hC.parts
  have e1 : gathN ⟨5, a, b, .mk tk tn ts tt tl, .mk pk pn ps pt pl, l⟩ = ([] : List Int) := rfl
  rw [e1]
  obtain ⟨R, hR⟩ : ∃ R, R = ruleB x.fns x.tab ⟨5, a, b, .mk tk tn ts tt tl, .mk pk pn ps pt pl, l⟩ := ⟨_, rfl⟩
  rw [← hR]
  have HR : Hid (R = (true)) := Lib.hid (by rw [hR]; rfl)
  clear hR e1 hC
  obtain ⟨W2, hW2⟩ : ∃ W2, W2 = (W.alloc (.cells #[.slice A x.fns.length ca, .slice B x.ops.length cb, .slice C x.tab.length cc, .map (some mb)] 96)).alloc (.cells #[.int .i8 5, .int .i64 a, .int .i64 b, .int .i8 tk, .int .i64 tn, .string ts, .string tt, .slice TA tl.length tcap, .int .i8 pk, .int .i64 pn, .string ps, .string pt, .slice PA pl.length pcap, .slice LA l.length lcap] 50) := ⟨_, rfl⟩
  obtain ⟨gk, gc, b2, -⟩ := two13 W _ _ W2 hW2
  have HB2 := Lib.hid b2
  have HMB := Lib.hid hG.lt
  have HGK := Lib.hid gk
  have HGC := Lib.hid gc
  have HX := Lib.hid (hX.mod (Mod.of_below b2))
  have HT := Lib.hid (ht.modL (Mod.of_below b2))
  have HP := Lib.hid (hp.modL (Mod.of_below b2))
  have HL := Lib.hid (hl.modL (Mod.of_below b2))
  have HCB := Lib.hid hCB
  have HE := Lib.hid (hE.under (b2.mono hE.le))
  have HN := Lib.hid hN
  have HA := Lib.hid ha
  have HBB := Lib.hid hb
  have HGS := Lib.hid (hG.keep b2)
  have HMD : Hid (Mod (fun k => k = mb) W2 W2) := Lib.hid (Mod.refl _ _)
  clear gk gc b2 hX ht hp hl hCB hE hN ha hb hG
  rw [List.append_nil]
  have HF : Hid (R = true) := Lib.hid (by rw [HR.out]; try rfl)
  go_enter Tryz.func113, Tryz.ntmps113
  go_upto_region 1 with fail
  rw [← hW2]
  clear hW2
  go_wp2_with fail
  go_ret
  exact ⟨ret_bool HF.out.symm, HGS.out, (Mod.of_below HB2.out).trans HMD.out (fun _ _ e => e)⟩
set_option maxHeartbeats 4000000 in
set_option maxRecDepth 100000 in
theorem rule11_any : RuleC 11 113 := by
  intro x A ca B cb C cc mb c v S W N hop hX hC hCB hG hE hN
  obtain ⟨op, a, b, ⟨tk, tn, ts, tt, tl⟩, ⟨pk, pn, ps, pt, pl⟩, l⟩ := c
  obtain rfl : op = 11 := hop
  obtain ⟨TA, tcap, PA, pcap, LA, lcap, rfl, ht, hp, hl, -, ha, hb⟩ := hC.parts
  have e1 : gathN ⟨11, a, b, .mk tk tn ts tt tl, .mk pk pn ps pt pl, l⟩ = ([] : List Int) := rfl
  rw [e1]
  obtain ⟨R, hR⟩ : ∃ R, R = ruleB x.fns x.tab ⟨11, a, b, .mk tk tn ts tt tl, .mk pk pn ps pt pl, l⟩ := ⟨_, rfl⟩
  rw [← hR]
  have HR : Hid (R = (true)) := Lib.hid (by rw [hR]; rfl)
  clear hR e1 hC
  obtain ⟨W2, hW2⟩ : ∃ W2, W2 = (W.alloc (.cells #[.slice A x.fns.length ca, .slice B x.ops.length cb, .slice C x.tab.length cc, .map (some mb)] 96)).alloc (.cells #[.int .i8 11, .int .i64 a, .int .i64 b, .int .i8 tk, .int .i64 tn, .string ts, .string tt, .slice TA tl.length tcap, .int .i8 pk, .int .i64 pn, .string ps, .string pt, .slice PA pl.length pcap, .slice LA l.length lcap] 50) := ⟨_, rfl⟩
  obtain ⟨gk, gc, b2, -⟩ := two13 W _ _ W2 hW2
  have HB2 := Lib.hid b2
  have HMB := Lib.hid hG.lt
  have HGK := Lib.hid gk
  have HGC := Lib.hid gc
  have HX := Lib.hid (hX.mod (Mod.of_below b2))
  have HT := Lib.hid (ht.modL (Mod.of_below b2))
  have HP := Lib.hid (hp.modL (Mod.of_below b2))
  have HL := Lib.hid (hl.modL (Mod.of_below b2))
  have HCB := Lib.hid hCB
  have HE := Lib.hid (hE.under (b2.mono hE.le))
  have HN := Lib.hid hN
  have HA := Lib.hid ha
  have HBB := Lib.hid hb
  have HGS := Lib.hid (hG.keep b2)
  have HMD : Hid (Mod (fun k => k = mb) W2 W2) := Lib.hid (Mod.refl _ _)
  clear gk gc b2 hX ht hp hl hCB hE hN ha hb hG
  rw [List.append_nil]
  have HF : Hid (R = true) := Lib.hid (by rw [HR.out]; try rfl)
  go_enter Tryz.func113, Tryz.ntmps113
  go_upto_region 1 with fail
  rw [← hW2]
  clear hW2
  go_wp2_with fail
  go_ret
  exact ⟨ret_bool HF.out.symm, HGS.out, (Mod.of_below HB2.out).trans HMD.out (fun _ _ e => e)⟩
set_option maxHeartbeats 4000000 in
set_option maxRecDepth 100000 in
theorem rule17_any : RuleC 17 113 := by
  intro x A ca B cb C cc mb c v S W N hop hX hC hCB hG hE hN
  obtain ⟨op, a, b, ⟨tk, tn, ts, tt, tl⟩, ⟨pk, pn, ps, pt, pl⟩, l⟩ := c
  obtain rfl : op = 17 := hop
  obtain ⟨TA, tcap, PA, pcap, LA, lcap, rfl, ht, hp, hl, -, ha, hb⟩ := hC.parts
  have e1 : gathN ⟨17, a, b, .mk tk tn ts tt tl, .mk pk pn ps pt pl, l⟩ = ([] : List Int) := rfl
  rw [e1]
  obtain ⟨R, hR⟩ : ∃ R, R = ruleB x.fns x.tab ⟨17, a, b, .mk tk tn ts tt tl, .mk pk pn ps pt pl, l⟩ := ⟨_, rfl⟩
  rw [← hR]
  have HR : Hid (R = (true)) := Lib.hid (by rw [hR]; rfl)
  clear hR e1 hC
  obtain ⟨W2, hW2⟩ : ∃ W2, W2 = (W.alloc (.cells #[.slice A x.fns.length ca, .slice B x.ops.length cb, .slice C x.tab.length cc, .map (some mb)] 96)).alloc (.cells #[.int .i8 17, .int .i64 a, .int .i64 b, .int .i8 tk, .int .i64 tn, .string ts, .string tt, .slice TA tl.length tcap, .int .i8 pk, .int .i64 pn, .string ps, .string pt, .slice PA pl.length pcap, .slice LA l.length lcap] 50) := ⟨_, rfl⟩
  obtain ⟨gk, gc, b2, -⟩ := two13 W _ _ W2 hW2
  have HB2 := Lib.hid b2
  have HMB := Lib.hid hG.lt
  have HGK := Lib.hid gk
  have HGC := Lib.hid gc
  have HX := Lib.hid (hX.mod (Mod.of_below b2))
  have HT := Lib.hid (ht.modL (Mod.of_below b2))
  have HP := Lib.hid (hp.modL (Mod.of_below b2))
  have HL := Lib.hid (hl.modL (Mod.of_below b2))
  have HCB := Lib.hid hCB
  have HE := Lib.hid (hE.under (b2.mono hE.le))
  have HN := Lib.hid hN
  have HA := Lib.hid ha
  have HBB := Lib.hid hb
  have HGS := Lib.hid (hG.keep b2)
  have HMD : Hid (Mod (fun k => k = mb) W2 W2) := Lib.hid (Mod.refl _ _)
  clear gk gc b2 hX ht hp hl hCB hE hN ha hb hG
  rw [List.append_nil]
  have HF : Hid (R = true) := Lib.hid (by rw [HR.out]; try rfl)
  go_enter Tryz.func113, Tryz.ntmps113
  go_upto_region 1 with fail
  rw [← hW2]
  clear hW2
  go_wp2_with fail
  go_ret
  exact ⟨ret_bool HF.out.symm, HGS.out, (Mod.of_below HB2.out).trans HMD.out (fun _ _ e => e)⟩
set_option maxHeartbeats 4000000 in
set_option maxRecDepth 100000 in
theorem rule19_any : RuleC 19 113 := by
  intro x A ca B cb C cc mb c v S W N hop hX hC hCB hG hE hN
  obtain ⟨op, a, b, ⟨tk, tn, ts, tt, tl⟩, ⟨pk, pn, ps, pt, pl⟩, l⟩ := c
  obtain rfl : op = 19 := hop
  obtain ⟨TA, tcap, PA, pcap, LA, lcap, rfl, ht, hp, hl, -, ha, hb⟩ := hC.parts
  have e1 : gathN ⟨19, a, b, .mk tk tn ts tt tl, .mk pk pn ps pt pl, l⟩ = ([] : List Int) := rfl
  rw [e1]
  obtain ⟨R, hR⟩ : ∃ R, R = ruleB x.fns x.tab ⟨19, a, b, .mk tk tn ts tt tl, .mk pk pn ps pt pl, l⟩ := ⟨_, rfl⟩
  rw [← hR]
  have HR : Hid (R = (true)) := Lib.hid (by rw [hR]; rfl)
  clear hR e1 hC
  obtain ⟨W2, hW2⟩ : ∃ W2, W2 = (W.alloc (.cells #[.slice A x.fns.length ca, .slice B x.ops.length cb, .slice C x.tab.length cc, .map (some mb)] 96)).alloc (.cells #[.int .i8 19, .int .i64 a, .int .i64 b, .int .i8 tk, .int .i64 tn, .string ts, .string tt, .slice TA tl.length tcap, .int .i8 pk, .int .i64 pn, .string ps, .string pt, .slice PA pl.length pcap, .slice LA l.length lcap] 50) := ⟨_, rfl⟩
  obtain ⟨gk, gc, b2, -⟩ := two13 W _ _ W2 hW2
  have HB2 := Lib.hid b2
  have HMB := Lib.hid hG.lt
  have HGK := Lib.hid gk
  have HGC := Lib.hid gc
  have HX := Lib.hid (hX.mod (Mod.of_below b2))
  have HT := Lib.hid (ht.modL (Mod.of_below b2))
  have HP := Lib.hid (hp.modL (Mod.of_below b2))
  have HL := Lib.hid (hl.modL (Mod.of_below b2))
  have HCB := Lib.hid hCB
  have HE := Lib.hid (hE.under (b2.mono hE.le))
  have HN := Lib.hid hN
  have HA := Lib.hid ha
  have HBB := Lib.hid hb
  have HGS := Lib.hid (hG.keep b2)
  have HMD : Hid (Mod (fun k => k = mb) W2 W2) := Lib.hid (Mod.refl _ _)
  clear gk gc b2 hX ht hp hl hCB hE hN ha hb hG
  rw [List.append_nil]
  have HF : Hid (R = true) := Lib.hid (by rw [HR.out]; try rfl)
  go_enter Tryz.func113, Tryz.ntmps113
  go_upto_region 1 with fail
  rw [← hW2]
  clear hW2
  go_wp2_with fail
  go_ret
  exact ⟨ret_bool HF.out.symm, HGS.out, (Mod.of_below HB2.out).trans HMD.out (fun _ _ e => e)⟩
set_option maxHeartbeats 4000000 in
set_option maxRecDepth 100000 in
theorem rule1_any : RuleC 1 114 := by
  intro x A ca B cb C cc mb c v S W N hop hX hC hCB hG hE hN
  obtain ⟨op, a, b, ⟨tk, tn, ts, tt, tl⟩, ⟨pk, pn, ps, pt, pl⟩, l⟩ := c
  obtain rfl : op = 1 := hop
  obtain ⟨TA, tcap, PA, pcap, LA, lcap, rfl, ht, hp, hl, -, ha, hb⟩ := hC.parts
  have e1 : gathN ⟨1, a, b, .mk tk tn ts tt tl, .mk pk pn ps pt pl, l⟩ = ([] : List Int) := rfl
  rw [e1]
  obtain ⟨R, hR⟩ : ∃ R, R = ruleB x.fns x.tab ⟨1, a, b, .mk tk tn ts tt tl, .mk pk pn ps pt pl, l⟩ := ⟨_, rfl⟩
  rw [← hR]
  have HR : Hid (R = (withinB a 0 31)) := Lib.hid (by rw [hR]; rfl)
  clear hR e1 hC
  obtain ⟨W2, hW2⟩ : ∃ W2, W2 = (W.alloc (.cells #[.slice A x.fns.length ca, .slice B x.ops.length cb, .slice C x.tab.length cc, .map (some mb)] 96)).alloc (.cells #[.int .i8 1, .int .i64 a, .int .i64 b, .int .i8 tk, .int .i64 tn, .string ts, .string tt, .slice TA tl.length tcap, .int .i8 pk, .int .i64 pn, .string ps, .string pt, .slice PA pl.length pcap, .slice LA l.length lcap] 50) := ⟨_, rfl⟩
  obtain ⟨gk, gc, b2, -⟩ := two13 W _ _ W2 hW2
  have HB2 := Lib.hid b2
  have HMB := Lib.hid hG.lt
  have HGK := Lib.hid gk
  have HGC := Lib.hid gc
  have HX := Lib.hid (hX.mod (Mod.of_below b2))
  have HT := Lib.hid (ht.modL (Mod.of_below b2))
  have HP := Lib.hid (hp.modL (Mod.of_below b2))
  have HL := Lib.hid (hl.modL (Mod.of_below b2))
  have HCB := Lib.hid hCB
  have HE := Lib.hid (hE.under (b2.mono hE.le))
  have HN := Lib.hid hN
  have HA := Lib.hid ha
  have HBB := Lib.hid hb
  have HGS := Lib.hid (hG.keep b2)
  have HMD : Hid (Mod (fun k => k = mb) W2 W2) := Lib.hid (Mod.refl _ _)
  have x1 : (W2).cell? ⟨W.heap.size + 1, 1, none⟩ = some (.int .i64 a) := cell_of_row (i := 1) gc rfl
  clear gk gc b2 hX ht hp hl hCB hE hN ha hb hG
  rw [List.append_nil]
  have HC0 := Lib.hid (within_any a 0 31 W2)
  go_enter Tryz.func114, Tryz.ntmps114
  go_upto_region 1 with fail
  rw [← hW2]
  clear hW2
  go_wp2_with fail
  refine HC0.out.mono ?_
  rintro e w3 ⟨rfl, rfl⟩
  cases h0 : (withinB a 0 31)
  case false =>
    have HF : Hid (R = false) := Lib.hid (by rw [HR.out, h0]; try rfl)
    go_wp2_with fail
    go_ret
    exact ⟨ret_bool HF.out.symm, HGS.out, (Mod.of_below HB2.out).trans HMD.out (fun _ _ e => e)⟩
  have HF : Hid (R = true) := Lib.hid (by rw [HR.out, h0]; try rfl)
  go_wp2_with fail
  go_ret
  exact ⟨ret_bool HF.out.symm, HGS.out, (Mod.of_below HB2.out).trans HMD.out (fun _ _ e => e)⟩
set_option maxHeartbeats 4000000 in
set_option maxRecDepth 100000 in
theorem rule2_any : RuleC 2 114 := by
  intro x A ca B cb C cc mb c v S W N hop hX hC hCB hG hE hN
  obtain ⟨op, a, b, ⟨tk, tn, ts, tt, tl⟩, ⟨pk, pn, ps, pt, pl⟩, l⟩ := c
  obtain rfl : op = 2 := hop
  obtain ⟨TA, tcap, PA, pcap, LA, lcap, rfl, ht, hp, hl, -, ha, hb⟩ := hC.parts
  have e1 : gathN ⟨2, a, b, .mk tk tn ts tt tl, .mk pk pn ps pt pl, l⟩ = ([] : List Int) := rfl
  rw [e1]
  obtain ⟨R, hR⟩ : ∃ R, R = ruleB x.fns x.tab ⟨2, a, b, .mk tk tn ts tt tl, .mk pk pn ps pt pl, l⟩ := ⟨_, rfl⟩
  rw [← hR]
  have HR : Hid (R = (withinB a 0 31)) := Lib.hid (by rw [hR]; rfl)
  clear hR e1 hC
  obtain ⟨W2, hW2⟩ : ∃ W2, W2 = (W.alloc (.cells #[.slice A x.fns.length ca, .slice B x.ops.length cb, .slice C x.tab.length cc, .map (some mb)] 96)).alloc (.cells #[.int .i8 2, .int .i64 a, .int .i64 b, .int .i8 tk, .int .i64 tn, .string ts, .string tt, .slice TA tl.length tcap, .int .i8 pk, .int .i64 pn, .string ps, .string pt, .slice PA pl.length pcap, .slice LA l.length lcap] 50) := ⟨_, rfl⟩
  obtain ⟨gk, gc, b2, -⟩ := two13 W _ _ W2 hW2
  have HB2 := Lib.hid b2
  have HMB := Lib.hid hG.lt
  have HGK := Lib.hid gk
  have HGC := Lib.hid gc
  have HX := Lib.hid (hX.mod (Mod.of_below b2))
  have HT := Lib.hid (ht.modL (Mod.of_below b2))
  have HP := Lib.hid (hp.modL (Mod.of_below b2))
  have HL := Lib.hid (hl.modL (Mod.of_below b2))
  have HCB := Lib.hid hCB
  have HE := Lib.hid (hE.under (b2.mono hE.le))
  have HN := Lib.hid hN
  have HA := Lib.hid ha
  have HBB := Lib.hid hb
  have HGS := Lib.hid (hG.keep b2)
  have HMD : Hid (Mod (fun k => k = mb) W2 W2) := Lib.hid (Mod.refl _ _)
  have x1 : (W2).cell? ⟨W.heap.size + 1, 1, none⟩ = some (.int .i64 a) := cell_of_row (i := 1) gc rfl
  clear gk gc b2 hX ht hp hl hCB hE hN ha hb hG
  rw [List.append_nil]
  have HC0 := Lib.hid (within_any a 0 31 W2)
  go_enter Tryz.func114, Tryz.ntmps114
  go_upto_region 1 with fail
  rw [← hW2]
  clear hW2
  go_wp2_with fail
  refine HC0.out.mono ?_
  rintro e w3 ⟨rfl, rfl⟩
  cases h0 : (withinB a 0 31)
  case false =>
    have HF : Hid (R = false) := Lib.hid (by rw [HR.out, h0]; try rfl)
    go_wp2_with fail
    go_ret
    exact ⟨ret_bool HF.out.symm, HGS.out, (Mod.of_below HB2.out).trans HMD.out (fun _ _ e => e)⟩
  have HF : Hid (R = true) := Lib.hid (by rw [HR.out, h0]; try rfl)
  go_wp2_with fail
  go_ret
  exact ⟨ret_bool HF.out.symm, HGS.out, (Mod.of_below HB2.out).trans HMD.out (fun _ _ e => e)⟩
set_option maxHeartbeats 4000000 in
set_option maxRecDepth 100000 in
theorem rule4_any : RuleC 4 118 := by
  intro x A ca B cb C cc mb c v S W N hop hX hC hCB hG hE hN
  obtain ⟨op, a, b, ⟨tk, tn, ts, tt, tl⟩, ⟨pk, pn, ps, pt, pl⟩, l⟩ := c
  obtain rfl : op = 4 := hop
  obtain ⟨TA, tcap, PA, pcap, LA, lcap, rfl, ht, hp, hl, -, ha, hb⟩ := hC.parts
  have e1 : gathN ⟨4, a, b, .mk tk tn ts tt tl, .mk pk pn ps pt pl, l⟩ = ([] : List Int) := rfl
  rw [e1]
  obtain ⟨R, hR⟩ : ∃ R, R = ruleB x.fns x.tab ⟨4, a, b, .mk tk tn ts tt tl, .mk pk pn ps pt pl, l⟩ := ⟨_, rfl⟩
  rw [← hR]
  have HR : Hid (R = (withinB a 0 256)) := Lib.hid (by rw [hR]; rfl)
  clear hR e1 hC
  obtain ⟨W2, hW2⟩ : ∃ W2, W2 = (W.alloc (.cells #[.slice A x.fns.length ca, .slice B x.ops.length cb, .slice C x.tab.length cc, .map (some mb)] 96)).alloc (.cells #[.int .i8 4, .int .i64 a, .int .i64 b, .int .i8 tk, .int .i64 tn, .string ts, .string tt, .slice TA tl.length tcap, .int .i8 pk, .int .i64 pn, .string ps, .string pt, .slice PA pl.length pcap, .slice LA l.length lcap] 50) := ⟨_, rfl⟩
  obtain ⟨gk, gc, b2, -⟩ := two13 W _ _ W2 hW2
  have HB2 := Lib.hid b2
  have HMB := Lib.hid hG.lt
  have HGK := Lib.hid gk
  have HGC := Lib.hid gc
  have HX := Lib.hid (hX.mod (Mod.of_below b2))
  have HT := Lib.hid (ht.modL (Mod.of_below b2))
  have HP := Lib.hid (hp.modL (Mod.of_below b2))
  have HL := Lib.hid (hl.modL (Mod.of_below b2))
  have HCB := Lib.hid hCB
  have HE := Lib.hid (hE.under (b2.mono hE.le))
  have HN := Lib.hid hN
  have HA := Lib.hid ha
  have HBB := Lib.hid hb
  have HGS := Lib.hid (hG.keep b2)
  have HMD : Hid (Mod (fun k => k = mb) W2 W2) := Lib.hid (Mod.refl _ _)
  have x1 : (W2).cell? ⟨W.heap.size + 1, 1, none⟩ = some (.int .i64 a) := cell_of_row (i := 1) gc rfl
  clear gk gc b2 hX ht hp hl hCB hE hN ha hb hG
  rw [List.append_nil]
  have HC0 := Lib.hid (within_any a 0 256 W2)
  go_enter Tryz.func118, Tryz.ntmps118
  go_upto_region 1 with fail
  rw [← hW2]
  clear hW2
  go_wp2_with fail
  refine HC0.out.mono ?_
  rintro e w3 ⟨rfl, rfl⟩
  cases h0 : (withinB a 0 256)
  case false =>
    have HF : Hid (R = false) := Lib.hid (by rw [HR.out, h0]; try rfl)
    go_wp2_with fail
    go_ret
    exact ⟨ret_bool HF.out.symm, HGS.out, (Mod.of_below HB2.out).trans HMD.out (fun _ _ e => e)⟩
  have HF : Hid (R = true) := Lib.hid (by rw [HR.out, h0]; try rfl)
  go_wp2_with fail
  go_ret
  exact ⟨ret_bool HF.out.symm, HGS.out, (Mod.of_below HB2.out).trans HMD.out (fun _ _ e => e)⟩
set_option maxHeartbeats 4000000 in
set_option maxRecDepth 100000 in
theorem rule10_any : RuleC 10 124 := by
  intro x A ca B cb C cc mb c v S W N hop hX hC hCB hG hE hN
  obtain ⟨op, a, b, ⟨tk, tn, ts, tt, tl⟩, ⟨pk, pn, ps, pt, pl⟩, l⟩ := c
  obtain rfl : op = 10 := hop
  obtain ⟨TA, tcap, PA, pcap, LA, lcap, rfl, ht, hp, hl, -, ha, hb⟩ := hC.parts
  have e1 : gathN ⟨10, a, b, .mk tk tn ts tt tl, .mk pk pn ps pt pl, l⟩ = ([] : List Int) := rfl
  rw [e1]
  obtain ⟨R, hR⟩ : ∃ R, R = ruleB x.fns x.tab ⟨10, a, b, .mk tk tn ts tt tl, .mk pk pn ps pt pl, l⟩ := ⟨_, rfl⟩
  rw [← hR]
  have HR : Hid (R = (withinB a 0 8)) := Lib.hid (by rw [hR]; rfl)
  clear hR e1 hC
  obtain ⟨W2, hW2⟩ : ∃ W2, W2 = (W.alloc (.cells #[.slice A x.fns.length ca, .slice B x.ops.length cb, .slice C x.tab.length cc, .map (some mb)] 96)).alloc (.cells #[.int .i8 10, .int .i64 a, .int .i64 b, .int .i8 tk, .int .i64 tn, .string ts, .string tt, .slice TA tl.length tcap, .int .i8 pk, .int .i64 pn, .string ps, .string pt, .slice PA pl.length pcap, .slice LA l.length lcap] 50) := ⟨_, rfl⟩
  obtain ⟨gk, gc, b2, -⟩ := two13 W _ _ W2 hW2
  have HB2 := Lib.hid b2
  have HMB := Lib.hid hG.lt
  have HGK := Lib.hid gk
  have HGC := Lib.hid gc
  have HX := Lib.hid (hX.mod (Mod.of_below b2))
  have HT := Lib.hid (ht.modL (Mod.of_below b2))
  have HP := Lib.hid (hp.modL (Mod.of_below b2))
  have HL := Lib.hid (hl.modL (Mod.of_below b2))
  have HCB := Lib.hid hCB
  have HE := Lib.hid (hE.under (b2.mono hE.le))
  have HN := Lib.hid hN
  have HA := Lib.hid ha
  have HBB := Lib.hid hb
  have HGS := Lib.hid (hG.keep b2)
  have HMD : Hid (Mod (fun k => k = mb) W2 W2) := Lib.hid (Mod.refl _ _)
  have x1 : (W2).cell? ⟨W.heap.size + 1, 1, none⟩ = some (.int .i64 a) := cell_of_row (i := 1) gc rfl
  clear gk gc b2 hX ht hp hl hCB hE hN ha hb hG
  rw [List.append_nil]
  have HC0 := Lib.hid (within_any a 0 8 W2)
  go_enter Tryz.func124, Tryz.ntmps124
  go_upto_region 1 with fail
  rw [← hW2]
  clear hW2
  go_wp2_with fail
  refine HC0.out.mono ?_
  rintro e w3 ⟨rfl, rfl⟩
  cases h0 : (withinB a 0 8)
  case false =>
    have HF : Hid (R = false) := Lib.hid (by rw [HR.out, h0]; try rfl)
    go_wp2_with fail
    go_ret
    exact ⟨ret_bool HF.out.symm, HGS.out, (Mod.of_below HB2.out).trans HMD.out (fun _ _ e => e)⟩
  have HF : Hid (R = true) := Lib.hid (by rw [HR.out, h0]; try rfl)
  go_wp2_with fail
  go_ret
  exact ⟨ret_bool HF.out.symm, HGS.out, (Mod.of_below HB2.out).trans HMD.out (fun _ _ e => e)⟩
set_option maxHeartbeats 4000000 in
set_option maxRecDepth 100000 in
theorem rule0_any : RuleC 0 116 := by
  intro x A ca B cb C cc mb c v S W N hop hX hC hCB hG hE hN
  obtain ⟨op, a, b, ⟨tk, tn, ts, tt, tl⟩, ⟨pk, pn, ps, pt, pl⟩, l⟩ := c
  obtain rfl : op = 0 := hop
  obtain ⟨TA, tcap, PA, pcap, LA, lcap, rfl, ht, hp, hl, -, ha, hb⟩ := hC.parts
  have e1 : gathN ⟨0, a, b, .mk tk tn ts tt tl, .mk pk pn ps pt pl, l⟩ = ([] : List Int) := rfl
  rw [e1]
  obtain ⟨R, hR⟩ : ∃ R, R = ruleB x.fns x.tab ⟨0, a, b, .mk tk tn ts tt tl, .mk pk pn ps pt pl, l⟩ := ⟨_, rfl⟩
  rw [← hR]
  have HR : Hid (R = (isT (.mk tk tn ts tt tl))) := Lib.hid (by rw [hR]; rfl)
  clear hR e1 hC
  obtain ⟨W2, hW2⟩ : ∃ W2, W2 = (W.alloc (.cells #[.slice A x.fns.length ca, .slice B x.ops.length cb, .slice C x.tab.length cc, .map (some mb)] 96)).alloc (.cells #[.int .i8 0, .int .i64 a, .int .i64 b, .int .i8 tk, .int .i64 tn, .string ts, .string tt, .slice TA tl.length tcap, .int .i8 pk, .int .i64 pn, .string ps, .string pt, .slice PA pl.length pcap, .slice LA l.length lcap] 50) := ⟨_, rfl⟩
  obtain ⟨gk, gc, b2, -⟩ := two13 W _ _ W2 hW2
  have HB2 := Lib.hid b2
  have HMB := Lib.hid hG.lt
  have HGK := Lib.hid gk
  have HGC := Lib.hid gc
  have HX := Lib.hid (hX.mod (Mod.of_below b2))
  have HT := Lib.hid (ht.modL (Mod.of_below b2))
  have HP := Lib.hid (hp.modL (Mod.of_below b2))
  have HL := Lib.hid (hl.modL (Mod.of_below b2))
  have HCB := Lib.hid hCB
  have HE := Lib.hid (hE.under (b2.mono hE.le))
  have HN := Lib.hid hN
  have HA := Lib.hid ha
  have HBB := Lib.hid hb
  have HGS := Lib.hid (hG.keep b2)
  have HMD : Hid (Mod (fun k => k = mb) W2 W2) := Lib.hid (Mod.refl _ _)
  have x3 : (W2).cell? ⟨W.heap.size + 1, 3, none⟩ = some (.int .i8 tk) := cell_of_row (i := 3) gc rfl
  have x4 : (W2).cell? ⟨W.heap.size + 1, 4, none⟩ = some (.int .i64 tn) := cell_of_row (i := 4) gc rfl
  have x5 : (W2).cell? ⟨W.heap.size + 1, 5, none⟩ = some (.string ts) := cell_of_row (i := 5) gc rfl
  have x6 : (W2).cell? ⟨W.heap.size + 1, 6, none⟩ = some (.string tt) := cell_of_row (i := 6) gc rfl
  have x7 : (W2).cell? ⟨W.heap.size + 1, 7, none⟩ = some (.slice TA tl.length tcap) := cell_of_row (i := 7) gc rfl
  clear gk gc b2 hX ht hp hl hCB hE hN ha hb hG
  rw [List.append_nil]
  have HC0 := Lib.hid (isTerm_any (.mk tk tn ts tt tl) _ W2 HT.out.loLt (spansB HE.out))
  go_enter Tryz.func116, Tryz.ntmps116
  go_upto_region 1 with fail
  rw [← hW2]
  clear hW2
  go_wp2_with fail
  refine HC0.out.mono ?_
  rintro e w3 ⟨rfl, bb⟩
  have hmd := HMD.out.trans (Mod.of_below bb) (fun _ _ e => e)
  have hgs := HGS.out.keep bb
  clear HMD HGS x3 x4 x5 x6 x7
  have HGS := Lib.hid hgs
  have HMD := Lib.hid hmd
  have gk := (hmd.block _ (heap_lt HGK.out) (by have := HMB.out; omega)).trans HGK.out
  have gc := (hmd.block _ (heap_lt HGC.out) (by have := HMB.out; omega)).trans HGC.out
  have x3 : (w3).cell? ⟨W.heap.size + 1, 3, none⟩ = some (.int .i8 tk) := cell_of_row (i := 3) gc rfl
  have x4 : (w3).cell? ⟨W.heap.size + 1, 4, none⟩ = some (.int .i64 tn) := cell_of_row (i := 4) gc rfl
  have x5 : (w3).cell? ⟨W.heap.size + 1, 5, none⟩ = some (.string ts) := cell_of_row (i := 5) gc rfl
  have x6 : (w3).cell? ⟨W.heap.size + 1, 6, none⟩ = some (.string tt) := cell_of_row (i := 6) gc rfl
  have x7 : (w3).cell? ⟨W.heap.size + 1, 7, none⟩ = some (.slice TA tl.length tcap) := cell_of_row (i := 7) gc rfl
  clear gk gc hmd hgs bb
  cases h0 : (isT (.mk tk tn ts tt tl))
  case false =>
    have HF : Hid (R = false) := Lib.hid (by rw [HR.out, h0]; try rfl)
    go_wp2_with fail
    go_ret
    exact ⟨ret_bool HF.out.symm, HGS.out, (Mod.of_below HB2.out).trans HMD.out (fun _ _ e => e)⟩
  have HF : Hid (R = true) := Lib.hid (by rw [HR.out, h0]; try rfl)
  go_wp2_with fail
  go_ret
  exact ⟨ret_bool HF.out.symm, HGS.out, (Mod.of_below HB2.out).trans HMD.out (fun _ _ e => e)⟩
set_option maxHeartbeats 4000000 in
set_option maxRecDepth 100000 in
theorem rule6_any : RuleC 6 119 := by
  intro x A ca B cb C cc mb c v S W N hop hX hC hCB hG hE hN
  obtain ⟨op, a, b, ⟨tk, tn, ts, tt, tl⟩, ⟨pk, pn, ps, pt, pl⟩, l⟩ := c
  obtain rfl : op = 6 := hop
  obtain ⟨TA, tcap, PA, pcap, LA, lcap, rfl, ht, hp, hl, -, ha, hb⟩ := hC.parts
  have e1 : gathN ⟨6, a, b, .mk tk tn ts tt tl, .mk pk pn ps pt pl, l⟩ = ([] : List Int) := rfl
  rw [e1]
  obtain ⟨R, hR⟩ : ∃ R, R = ruleB x.fns x.tab ⟨6, a, b, .mk tk tn ts tt tl, .mk pk pn ps pt pl, l⟩ := ⟨_, rfl⟩
  rw [← hR]
  have HR : Hid (R = (bare5 tk tn tt tl.length && (operB ts))) := Lib.hid (by rw [hR]; rfl)
  clear hR e1 hC
  obtain ⟨W2, hW2⟩ : ∃ W2, W2 = (W.alloc (.cells #[.slice A x.fns.length ca, .slice B x.ops.length cb, .slice C x.tab.length cc, .map (some mb)] 96)).alloc (.cells #[.int .i8 6, .int .i64 a, .int .i64 b, .int .i8 tk, .int .i64 tn, .string ts, .string tt, .slice TA tl.length tcap, .int .i8 pk, .int .i64 pn, .string ps, .string pt, .slice PA pl.length pcap, .slice LA l.length lcap] 50) := ⟨_, rfl⟩
  obtain ⟨gk, gc, b2, -⟩ := two13 W _ _ W2 hW2
  have HB2 := Lib.hid b2
  have HMB := Lib.hid hG.lt
  have HGK := Lib.hid gk
  have HGC := Lib.hid gc
  have HX := Lib.hid (hX.mod (Mod.of_below b2))
  have HT := Lib.hid (ht.modL (Mod.of_below b2))
  have HP := Lib.hid (hp.modL (Mod.of_below b2))
  have HL := Lib.hid (hl.modL (Mod.of_below b2))
  have HCB := Lib.hid hCB
  have HE := Lib.hid (hE.under (b2.mono hE.le))
  have HN := Lib.hid hN
  have HA := Lib.hid ha
  have HBB := Lib.hid hb
  have HGS := Lib.hid (hG.keep b2)
  have HMD : Hid (Mod (fun k => k = mb) W2 W2) := Lib.hid (Mod.refl _ _)
  have x3 : (W2).cell? ⟨W.heap.size + 1, 3, none⟩ = some (.int .i8 tk) := cell_of_row (i := 3) gc rfl
  have x4 : (W2).cell? ⟨W.heap.size + 1, 4, none⟩ = some (.int .i64 tn) := cell_of_row (i := 4) gc rfl
  have x5 : (W2).cell? ⟨W.heap.size + 1, 5, none⟩ = some (.string ts) := cell_of_row (i := 5) gc rfl
  have x6 : (W2).cell? ⟨W.heap.size + 1, 6, none⟩ = some (.string tt) := cell_of_row (i := 6) gc rfl
  have x7 : (W2).cell? ⟨W.heap.size + 1, 7, none⟩ = some (.slice TA tl.length tcap) := cell_of_row (i := 7) gc rfl
  clear gk gc b2 hX ht hp hl hCB hE hN ha hb hG
  rw [List.append_nil]
  have HC0 := Lib.hid (bare_any tk tn ts tt TA tl.length tcap W2)
  go_enter Tryz.func119, Tryz.ntmps119
  go_upto_region 1 with fail
  rw [← hW2]
  clear hW2
  go_wp2_with fail
  refine HC0.out.mono ?_
  rintro e w3 ⟨rfl, bb⟩
  have hmd := HMD.out.trans (Mod.of_below bb) (fun _ _ e => e)
  have hgs := HGS.out.keep bb
  clear HMD HGS x3 x4 x5 x6 x7
  have HGS := Lib.hid hgs
  have HMD := Lib.hid hmd
  have gk := (hmd.block _ (heap_lt HGK.out) (by have := HMB.out; omega)).trans HGK.out
  have gc := (hmd.block _ (heap_lt HGC.out) (by have := HMB.out; omega)).trans HGC.out
  have x3 : (w3).cell? ⟨W.heap.size + 1, 3, none⟩ = some (.int .i8 tk) := cell_of_row (i := 3) gc rfl
  have x4 : (w3).cell? ⟨W.heap.size + 1, 4, none⟩ = some (.int .i64 tn) := cell_of_row (i := 4) gc rfl
  have x5 : (w3).cell? ⟨W.heap.size + 1, 5, none⟩ = some (.string ts) := cell_of_row (i := 5) gc rfl
  have x6 : (w3).cell? ⟨W.heap.size + 1, 6, none⟩ = some (.string tt) := cell_of_row (i := 6) gc rfl
  have x7 : (w3).cell? ⟨W.heap.size + 1, 7, none⟩ = some (.slice TA tl.length tcap) := cell_of_row (i := 7) gc rfl
  clear gk gc hmd hgs bb
  cases h0 : (bare5 tk tn tt tl.length)
  case false =>
    have HF : Hid (R = false) := Lib.hid (by rw [HR.out, h0]; try rfl)
    go_wp2_with fail
    go_ret
    exact ⟨ret_bool HF.out.symm, HGS.out, (Mod.of_below HB2.out).trans HMD.out (fun _ _ e => e)⟩
  have HC1 := Lib.hid (oper13_any ts w3)
  go_wp2_with fail
  refine HC1.out.mono ?_
  rintro e w4 ⟨rfl, bb⟩
  have hmd := HMD.out.trans (Mod.of_below bb) (fun _ _ e => e)
  have hgs := HGS.out.keep bb
  clear HMD HGS x3 x4 x5 x6 x7
  have HGS := Lib.hid hgs
  have HMD := Lib.hid hmd
  have gk := (hmd.block _ (heap_lt HGK.out) (by have := HMB.out; omega)).trans HGK.out
  have gc := (hmd.block _ (heap_lt HGC.out) (by have := HMB.out; omega)).trans HGC.out
  have x3 : (w4).cell? ⟨W.heap.size + 1, 3, none⟩ = some (.int .i8 tk) := cell_of_row (i := 3) gc rfl
  have x4 : (w4).cell? ⟨W.heap.size + 1, 4, none⟩ = some (.int .i64 tn) := cell_of_row (i := 4) gc rfl
  have x5 : (w4).cell? ⟨W.heap.size + 1, 5, none⟩ = some (.string ts) := cell_of_row (i := 5) gc rfl
  have x6 : (w4).cell? ⟨W.heap.size + 1, 6, none⟩ = some (.string tt) := cell_of_row (i := 6) gc rfl
  have x7 : (w4).cell? ⟨W.heap.size + 1, 7, none⟩ = some (.slice TA tl.length tcap) := cell_of_row (i := 7) gc rfl
  clear gk gc hmd hgs bb
  cases h1 : (operB ts)
  case false =>
    have HF : Hid (R = false) := Lib.hid (by rw [HR.out, h0, h1]; try rfl)
    go_wp2_with fail
    go_ret
    exact ⟨ret_bool HF.out.symm, HGS.out, (Mod.of_below HB2.out).trans HMD.out (fun _ _ e => e)⟩
  have HF : Hid (R = true) := Lib.hid (by rw [HR.out, h0, h1]; try rfl)
  go_wp2_with fail
  go_ret
  exact ⟨ret_bool HF.out.symm, HGS.out, (Mod.of_below HB2.out).trans HMD.out (fun _ _ e => e)⟩
set_option maxHeartbeats 4000000 in
set_option maxRecDepth 100000 in
theorem rule7_any : RuleC 7 122 := by
  intro x A ca B cb C cc mb c v S W N hop hX hC hCB hG hE hN
  obtain ⟨op, a, b, ⟨tk, tn, ts, tt, tl⟩, ⟨pk, pn, ps, pt, pl⟩, l⟩ := c
  obtain rfl : op = 7 := hop
  obtain ⟨TA, tcap, PA, pcap, LA, lcap, rfl, ht, hp, hl, -, ha, hb⟩ := hC.parts
  have e1 : gathN ⟨7, a, b, .mk tk tn ts tt tl, .mk pk pn ps pt pl, l⟩ = ([] : List Int) := rfl
  rw [e1]
  obtain ⟨R, hR⟩ : ∃ R, R = ruleB x.fns x.tab ⟨7, a, b, .mk tk tn ts tt tl, .mk pk pn ps pt pl, l⟩ := ⟨_, rfl⟩
  rw [← hR]
  have HR : Hid (R = (bare5 tk tn tt tl.length && (builtB ts a))) := Lib.hid (by rw [hR]; rfl)
  clear hR e1 hC
  obtain ⟨W2, hW2⟩ : ∃ W2, W2 = (W.alloc (.cells #[.slice A x.fns.length ca, .slice B x.ops.length cb, .slice C x.tab.length cc, .map (some mb)] 96)).alloc (.cells #[.int .i8 7, .int .i64 a, .int .i64 b, .int .i8 tk, .int .i64 tn, .string ts, .string tt, .slice TA tl.length tcap, .int .i8 pk, .int .i64 pn, .string ps, .string pt, .slice PA pl.length pcap, .slice LA l.length lcap] 50) := ⟨_, rfl⟩
  obtain ⟨gk, gc, b2, -⟩ := two13 W _ _ W2 hW2
  have HB2 := Lib.hid b2
  have HMB := Lib.hid hG.lt
  have HGK := Lib.hid gk
  have HGC := Lib.hid gc
  have HX := Lib.hid (hX.mod (Mod.of_below b2))
  have HT := Lib.hid (ht.modL (Mod.of_below b2))
  have HP := Lib.hid (hp.modL (Mod.of_below b2))
  have HL := Lib.hid (hl.modL (Mod.of_below b2))
  have HCB := Lib.hid hCB
  have HE := Lib.hid (hE.under (b2.mono hE.le))
  have HN := Lib.hid hN
  have HA := Lib.hid ha
  have HBB := Lib.hid hb
  have HGS := Lib.hid (hG.keep b2)
  have HMD : Hid (Mod (fun k => k = mb) W2 W2) := Lib.hid (Mod.refl _ _)
  have x1 : (W2).cell? ⟨W.heap.size + 1, 1, none⟩ = some (.int .i64 a) := cell_of_row (i := 1) gc rfl
  have x3 : (W2).cell? ⟨W.heap.size + 1, 3, none⟩ = some (.int .i8 tk) := cell_of_row (i := 3) gc rfl
  have x4 : (W2).cell? ⟨W.heap.size + 1, 4, none⟩ = some (.int .i64 tn) := cell_of_row (i := 4) gc rfl
  have x5 : (W2).cell? ⟨W.heap.size + 1, 5, none⟩ = some (.string ts) := cell_of_row (i := 5) gc rfl
  have x6 : (W2).cell? ⟨W.heap.size + 1, 6, none⟩ = some (.string tt) := cell_of_row (i := 6) gc rfl
  have x7 : (W2).cell? ⟨W.heap.size + 1, 7, none⟩ = some (.slice TA tl.length tcap) := cell_of_row (i := 7) gc rfl
  clear gk gc b2 hX ht hp hl hCB hE hN ha hb hG
  rw [List.append_nil]
  have HC0 := Lib.hid (bare_any tk tn ts tt TA tl.length tcap W2)
  go_enter Tryz.func122, Tryz.ntmps122
  go_upto_region 1 with fail
  rw [← hW2]
  clear hW2
  go_wp2_with fail
  refine HC0.out.mono ?_
  rintro e w3 ⟨rfl, bb⟩
  have hmd := HMD.out.trans (Mod.of_below bb) (fun _ _ e => e)
  have hgs := HGS.out.keep bb
  clear HMD HGS x1 x3 x4 x5 x6 x7
  have HGS := Lib.hid hgs
  have HMD := Lib.hid hmd
  have gk := (hmd.block _ (heap_lt HGK.out) (by have := HMB.out; omega)).trans HGK.out
  have gc := (hmd.block _ (heap_lt HGC.out) (by have := HMB.out; omega)).trans HGC.out
  have x1 : (w3).cell? ⟨W.heap.size + 1, 1, none⟩ = some (.int .i64 a) := cell_of_row (i := 1) gc rfl
  have x3 : (w3).cell? ⟨W.heap.size + 1, 3, none⟩ = some (.int .i8 tk) := cell_of_row (i := 3) gc rfl
  have x4 : (w3).cell? ⟨W.heap.size + 1, 4, none⟩ = some (.int .i64 tn) := cell_of_row (i := 4) gc rfl
  have x5 : (w3).cell? ⟨W.heap.size + 1, 5, none⟩ = some (.string ts) := cell_of_row (i := 5) gc rfl
  have x6 : (w3).cell? ⟨W.heap.size + 1, 6, none⟩ = some (.string tt) := cell_of_row (i := 6) gc rfl
  have x7 : (w3).cell? ⟨W.heap.size + 1, 7, none⟩ = some (.slice TA tl.length tcap) := cell_of_row (i := 7) gc rfl
  clear gk gc hmd hgs bb
  cases h0 : (bare5 tk tn tt tl.length)
  case false =>
    have HF : Hid (R = false) := Lib.hid (by rw [HR.out, h0]; try rfl)
    go_wp2_with fail
    go_ret
    exact ⟨ret_bool HF.out.symm, HGS.out, (Mod.of_below HB2.out).trans HMD.out (fun _ _ e => e)⟩
  have HC1 := Lib.hid (built_any ts a w3)
  go_wp2_with fail
  refine HC1.out.mono ?_
  rintro e w4 ⟨rfl, h⟩
  subst h
  cases h1 : (builtB ts a)
  case false =>
    have HF : Hid (R = false) := Lib.hid (by rw [HR.out, h0, h1]; try rfl)
    go_wp2_with fail
    go_ret
    exact ⟨ret_bool HF.out.symm, HGS.out, (Mod.of_below HB2.out).trans HMD.out (fun _ _ e => e)⟩
  have HF : Hid (R = true) := Lib.hid (by rw [HR.out, h0, h1]; try rfl)
  go_wp2_with fail
  go_ret
  exact ⟨ret_bool HF.out.symm, HGS.out, (Mod.of_below HB2.out).trans HMD.out (fun _ _ e => e)⟩
set_option maxHeartbeats 4000000 in
set_option maxRecDepth 100000 in
theorem rule15_any : RuleC 15 127 := by
  intro x A ca B cb C cc mb c v S W N hop hX hC hCB hG hE hN
  obtain ⟨op, a, b, ⟨tk, tn, ts, tt, tl⟩, ⟨pk, pn, ps, pt, pl⟩, l⟩ := c
  obtain rfl : op = 15 := hop
  obtain ⟨TA, tcap, PA, pcap, LA, lcap, rfl, ht, hp, hl, -, ha, hb⟩ := hC.parts
  have e1 : gathN ⟨15, a, b, .mk tk tn ts tt tl, .mk pk pn ps pt pl, l⟩ = ([] : List Int) := rfl
  rw [e1]
  obtain ⟨R, hR⟩ : ∃ R, R = ruleB x.fns x.tab ⟨15, a, b, .mk tk tn ts tt tl, .mk pk pn ps pt pl, l⟩ := ⟨_, rfl⟩
  rw [← hR]
  have HR : Hid (R = (withinB b 0 2 && (isT (.mk tk tn ts tt tl)))) := Lib.hid (by rw [hR]; rfl)
  clear hR e1 hC
  obtain ⟨W2, hW2⟩ : ∃ W2, W2 = (W.alloc (.cells #[.slice A x.fns.length ca, .slice B x.ops.length cb, .slice C x.tab.length cc, .map (some mb)] 96)).alloc (.cells #[.int .i8 15, .int .i64 a, .int .i64 b, .int .i8 tk, .int .i64 tn, .string ts, .string tt, .slice TA tl.length tcap, .int .i8 pk, .int .i64 pn, .string ps, .string pt, .slice PA pl.length pcap, .slice LA l.length lcap] 50) := ⟨_, rfl⟩
  obtain ⟨gk, gc, b2, -⟩ := two13 W _ _ W2 hW2
  have HB2 := Lib.hid b2
  have HMB := Lib.hid hG.lt
  have HGK := Lib.hid gk
  have HGC := Lib.hid gc
  have HX := Lib.hid (hX.mod (Mod.of_below b2))
  have HT := Lib.hid (ht.modL (Mod.of_below b2))
  have HP := Lib.hid (hp.modL (Mod.of_below b2))
  have HL := Lib.hid (hl.modL (Mod.of_below b2))
  have HCB := Lib.hid hCB
  have HE := Lib.hid (hE.under (b2.mono hE.le))
  have HN := Lib.hid hN
  have HA := Lib.hid ha
  have HBB := Lib.hid hb
  have HGS := Lib.hid (hG.keep b2)
  have HMD : Hid (Mod (fun k => k = mb) W2 W2) := Lib.hid (Mod.refl _ _)
  have x2 : (W2).cell? ⟨W.heap.size + 1, 2, none⟩ = some (.int .i64 b) := cell_of_row (i := 2) gc rfl
  have x3 : (W2).cell? ⟨W.heap.size + 1, 3, none⟩ = some (.int .i8 tk) := cell_of_row (i := 3) gc rfl
  have x4 : (W2).cell? ⟨W.heap.size + 1, 4, none⟩ = some (.int .i64 tn) := cell_of_row (i := 4) gc rfl
  have x5 : (W2).cell? ⟨W.heap.size + 1, 5, none⟩ = some (.string ts) := cell_of_row (i := 5) gc rfl
  have x6 : (W2).cell? ⟨W.heap.size + 1, 6, none⟩ = some (.string tt) := cell_of_row (i := 6) gc rfl
  have x7 : (W2).cell? ⟨W.heap.size + 1, 7, none⟩ = some (.slice TA tl.length tcap) := cell_of_row (i := 7) gc rfl
  clear gk gc b2 hX ht hp hl hCB hE hN ha hb hG
  rw [List.append_nil]
  have HC0 := Lib.hid (within_any b 0 2 W2)
  go_enter Tryz.func127, Tryz.ntmps127
  go_upto_region 1 with fail
  rw [← hW2]
  clear hW2
  go_wp2_with fail
  refine HC0.out.mono ?_
  rintro e w3 ⟨rfl, rfl⟩
  cases h0 : (withinB b 0 2)
  case false =>
    have HF : Hid (R = false) := Lib.hid (by rw [HR.out, h0]; try rfl)
    go_wp2_with fail
    go_ret
    exact ⟨ret_bool HF.out.symm, HGS.out, (Mod.of_below HB2.out).trans HMD.out (fun _ _ e => e)⟩
  have HC1 := Lib.hid (isTerm_any (.mk tk tn ts tt tl) _ W2 (HT.out.modL HMD.out).loLt (spansB (HE.out.mod HN.out HMD.out)))
  go_wp2_with fail
  refine HC1.out.mono ?_
  rintro e w4 ⟨rfl, bb⟩
  have hmd := HMD.out.trans (Mod.of_below bb) (fun _ _ e => e)
  have hgs := HGS.out.keep bb
  clear HMD HGS x2 x3 x4 x5 x6 x7
  have HGS := Lib.hid hgs
  have HMD := Lib.hid hmd
  have gk := (hmd.block _ (heap_lt HGK.out) (by have := HMB.out; omega)).trans HGK.out
  have gc := (hmd.block _ (heap_lt HGC.out) (by have := HMB.out; omega)).trans HGC.out
  have x2 : (w4).cell? ⟨W.heap.size + 1, 2, none⟩ = some (.int .i64 b) := cell_of_row (i := 2) gc rfl
  have x3 : (w4).cell? ⟨W.heap.size + 1, 3, none⟩ = some (.int .i8 tk) := cell_of_row (i := 3) gc rfl
  have x4 : (w4).cell? ⟨W.heap.size + 1, 4, none⟩ = some (.int .i64 tn) := cell_of_row (i := 4) gc rfl
  have x5 : (w4).cell? ⟨W.heap.size + 1, 5, none⟩ = some (.string ts) := cell_of_row (i := 5) gc rfl
  have x6 : (w4).cell? ⟨W.heap.size + 1, 6, none⟩ = some (.string tt) := cell_of_row (i := 6) gc rfl
  have x7 : (w4).cell? ⟨W.heap.size + 1, 7, none⟩ = some (.slice TA tl.length tcap) := cell_of_row (i := 7) gc rfl
  clear gk gc hmd hgs bb
  cases h1 : (isT (.mk tk tn ts tt tl))
  case false =>
    have HF : Hid (R = false) := Lib.hid (by rw [HR.out, h0, h1]; try rfl)
    go_wp2_with fail
    go_ret
    exact ⟨ret_bool HF.out.symm, HGS.out, (Mod.of_below HB2.out).trans HMD.out (fun _ _ e => e)⟩
  have HF : Hid (R = true) := Lib.hid (by rw [HR.out, h0, h1]; try rfl)
  go_wp2_with fail
  go_ret
  exact ⟨ret_bool HF.out.symm, HGS.out, (Mod.of_below HB2.out).trans HMD.out (fun _ _ e => e)⟩
end Go.Proofs.YtdimcddbmccniaaGreatDoor
