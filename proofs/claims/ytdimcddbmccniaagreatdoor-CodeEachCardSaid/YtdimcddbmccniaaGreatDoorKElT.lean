/- 'append(l, x)' of a row of the call's own, x one element that the statement has just laid. -/
import Derived.Test.YtdimcddbmccniaaGreatDoorKCd13
import Derived.Test.YtdimcddbmccniaaGreatDoorKCd16
import Derived.Test.YtdimcddbmccniaaGreatDoorKCd1
import Derived.Deep.RegionHeld
import Derived.OrdersHeld
import Derived.Maps.AppendAt
import Derived.Maps.OwnIn
import Derived.OneCell
import Derived.WalkKit
import Derived.Tactics2
section
set_option linter.unusedVariables false
set_option linter.unusedSimpArgs false
namespace Go.Proofs.YtdimcddbmccniaaGreatDoor
open Go.RowKit

theorem CRow.mod {mb : Nat} {W V : World} {A : Option Addr} {n cap : Nat} {l : List Cd} (h : CRow (Lo mb W) W A n cap l) (m : Mod (fun k => k = mb) W V) : CRow (Lo mb V) V A n cap l :=
  h.keep (fun b hb => m.block b hb.1 hb.2) (fun b hb => ⟨Nat.lt_of_lt_of_le hb.1 m.size, hb.2⟩)
set_option maxHeartbeats 8000000 in
set_option maxRecDepth 100000 in
theorem idxC13_any (x : Pg) (A : Option Addr) (ca : Nat) (B : Option Addr) (cb : Nat) (C : Option Addr) (cc mb kb fb : Nat) (l : List Cd) (LA : Option Addr) (lcap : Nat) (S : List Int) (W : World) (N : Nat)
    (hX : PgAt (Lo mb W) W x A ca B cb C cc) (hR : CRow (Lo mb W) W LA l.length lcap l) (hCB : ∀ c ∈ l, CdB c) (hG : GS mb S W) (hE : EnvB N W) (hN : N ≤ mb)
    (hK : ∃ T, W.heap[kb]? = some (.cells #[.slice A x.fns.length ca, .slice B x.ops.length cb, .slice C x.tab.length cc, .map (some mb)] T (0, 0))) (hF : ∃ T, W.heap[fb]? = some (.cells keepsRow T (0, 0))) :
    Calls Tryz.prog 129 #[.slice LA l.length lcap, .func (.func 76) #[] #[.pointer (some ⟨fb, 0, none⟩), .pointer (some ⟨kb, 0, none⟩)]] W
      fun e w' => (∃ r : Int, e = .returned (.int .i64 r) ∧ decide (0 ≤ r) = !l.all (instB x.fns x.tab)) ∧ Mod (fun k => k = mb) W w' ∧ ∃ S', GS mb S' w' ∧ (l.all (instB x.fns x.tab) = true → S' = S ++ l.flatMap gathN) := by
  have hmax := hR.max
  unfold maxLen at hmax
  obtain ⟨TK, gk⟩ := hK
  obtain ⟨TF, gf⟩ := hF
  obtain ⟨es, clk, gm, hS⟩ := hG
  have hnk : kb ≠ mb := fun e => by rw [e, gm] at gk; cases gk
  have hnf : fb ≠ mb := fun e => by rw [e, gm] at gf; cases gf
  have HG0 : Hid (GS mb S W) := Lib.hid ⟨es, clk, gm, hS⟩
  have HR := Lib.hid hR
  have HX := Lib.hid hX
  have HCB := Lib.hid hCB
  have HE := Lib.hid hE
  have HN := Lib.hid hN
  have HGK := Lib.hid gk
  have HGF := Lib.hid gf
  have HNK := Lib.hid (And.intro hnk hnf)
  clear hR hX hCB hE hN gk gf gm hS hnk hnf
  go_enter Tryz.func129, Tryz.ntmps129
  go_wp2_with fail
  go_loopw [8] (fun i wr => ∃ j : Nat, j ≤ l.length ∧ i = .int .i64 j ∧ Hid ((l.take j).all (instB x.fns x.tab) = true) ∧ Hid (Mod (fun k => k = mb) W wr) ∧ Hid (GS mb (S ++ (l.take j).flatMap gathN) wr)) (fun i _ => l.length - (intOf i).toNat)
  case atStart => exact ⟨0, Nat.zero_le _, rfl, Lib.hid (by simp), Lib.hid (Mod.refl _ _), Lib.hid (by simpa using HG0.out)⟩
  case round =>
    obtain ⟨j, hj, rfl, HM, HB, HS⟩ := hrel
    by_cases hlt : j < l.length
    · obtain ⟨y, hy⟩ : ∃ y, l[j]? = some y := ⟨l[j], List.getElem?_eq_getElem hlt⟩
      obtain ⟨ad, u, hA, had, hE, hTy⟩ := HR.out.at_ j y hy
      subst hA
      have hEr := hE.keep (HB.out.block ad.block had.1 had.2)
      have HC := Lib.hid (inst1_any x A ca B cb C cc mb kb fb y u _ wr N (HX.out.mod HB.out) (hTy.mod HB.out) (HCB.out y (List.mem_of_getElem? hy)) HS.out (HE.out.mod HN.out HB.out) HN.out ⟨TK, (HB.out.block _ (heap_lt HGK.out) HNK.out.1).trans HGK.out⟩ ⟨TF, (HB.out.block _ (heap_lt HGF.out) HNK.out.2).trans HGF.out⟩)
      have HY := Lib.hid hy
      obtain ⟨yo, ya, yb, ⟨tk, tn, ts, tt, tl⟩, ⟨pk, pn, ps, pt, pl⟩, yl⟩ := y
      obtain ⟨TA, tcap, PA, pcap, LB, lcap2, rfl, -⟩ := hTy.parts
      obtain ⟨c0, c1, c2, c3, c4, c5, c6, c7, c8, c9, c10, c11, c12, c13, hcc, e0, e1, e2, e3, e4, e5, e6, e7, e8, e9, e10, e11, e12, e13⟩ := hEr
      simp only [Value.agg.injEq, Array.mk.injEq, List.cons.injEq, and_true] at hcc
      obtain ⟨rfl, rfl, rfl, rfl, rfl, rfl, rfl, rfl, rfl, rfl, rfl, rfl, rfl, rfl⟩ := hcc
      clear hE hTy hy had
      obtain ⟨yy, hyy⟩ : ∃ yy : Cd, yy = ⟨yo, ya, yb, .mk tk tn ts tt tl, .mk pk pn ps pt pl, yl⟩ := ⟨_, rfl⟩
      rw [← hyy] at HC HY
      clear hyy
      go_wp2_with fail
      refine HC.out.mono ?_
      rintro e w2 ⟨rfl, m2, S2, g2, h2⟩
      have HB2 := Lib.hid (HB.out.trans m2 (fun _ _ e => e))
      have HG2 := Lib.hid g2
      have HH2 := Lib.hid h2
      clear m2 g2 h2 e0 e1 e2 e3 e4 e5 e6 e7 e8 e9 e10 e11 e12 e13
      cases hc : instB x.fns x.tab yy
      · have hm : l.all (instB x.fns x.tab) = false := by
          rw [List.all_eq_false]
          exact ⟨yy, List.mem_of_getElem? HY.out, by simp [hc]⟩
        have HMM := Lib.hid hm
        clear hm
        go_wp2_with fail
        go_ret
        refine ⟨⟨_, rfl, ?_⟩, HB2.out, S2, HG2.out, fun e => by rw [HMM.out] at e; cases e⟩
        rw [HMM.out]
        simp
      · have HS2 := Lib.hid (HH2.out hc)
        have HCC := Lib.hid hc
        clear hc
        go_wp2_with fail
        go_roundw
        case rel =>
          refine ⟨j + 1, by omega, by go_num, Lib.hid ?_, HB2, Lib.hid ?_⟩
          · rw [List.take_add_one, HY.out, List.all_append, HM.out]
            simp [HCC.out]
          · rw [List.take_add_one, HY.out, List.flatMap_append, ← List.append_assoc]
            have h9 := HG2.out
            rw [HS2.out] at h9
            simpa using h9
        case measure => simp [intOf]; omega
    · have hjn : j = l.length := by omega
      subst hjn
      have hm := HM.out
      rw [List.take_length] at hm
      have HMM := Lib.hid hm
      have HSS : Hid (GS mb (S ++ l.flatMap gathN) wr) := Lib.hid (by have := HS.out; rwa [List.take_length] at this)
      clear hm HM HS
      go_wp2_with fail
      go_ret
      refine ⟨⟨_, rfl, ?_⟩, HB.out, _, HSS.out, fun _ => rfl⟩
      rw [HMM.out]
      rfl
set_option maxHeartbeats 2000000 in
set_option maxRecDepth 100000 in
theorem hasC13_any (x : Pg) (A : Option Addr) (ca : Nat) (B : Option Addr) (cb : Nat) (C : Option Addr) (cc mb kb fb : Nat) (l : List Cd) (LA : Option Addr) (lcap : Nat) (S : List Int) (W : World) (N : Nat)
    (hX : PgAt (Lo mb W) W x A ca B cb C cc) (hR : CRow (Lo mb W) W LA l.length lcap l) (hCB : ∀ c ∈ l, CdB c) (hG : GS mb S W) (hE : EnvB N W) (hN : N ≤ mb)
    (hK : ∃ T, W.heap[kb]? = some (.cells #[.slice A x.fns.length ca, .slice B x.ops.length cb, .slice C x.tab.length cc, .map (some mb)] T (0, 0))) (hF : ∃ T, W.heap[fb]? = some (.cells keepsRow T (0, 0))) :
    Calls Tryz.prog 75 #[.slice LA l.length lcap, .func (.func 76) #[] #[.pointer (some ⟨fb, 0, none⟩), .pointer (some ⟨kb, 0, none⟩)]] W
      fun e w' => e = .returned (.bool (!l.all (instB x.fns x.tab))) ∧ Mod (fun k => k = mb) W w' ∧ ∃ S', GS mb S' w' ∧ (l.all (instB x.fns x.tab) = true → S' = S ++ l.flatMap gathN) := by
  have HC := Lib.hid (idxC13_any x A ca B cb C cc mb kb fb l LA lcap S W N hX hR hCB hG hE hN hK hF)
  clear hX hR hCB hG hE hN hK hF
  go_enter Tryz.func75, Tryz.ntmps75
  go_wp2_with fail
  refine HC.out.mono ?_
  rintro e w2 ⟨⟨r, rfl, hr⟩, b2, S2, g2, h2⟩
  have HRR := Lib.hid hr
  have HG2 := Lib.hid (And.intro b2 (And.intro g2 h2))
  clear hr b2 g2 h2
  go_wp2_with fail
  go_ret
  exact ⟨ret_bool HRR.out, HG2.out.1, S2, HG2.out.2.1, HG2.out.2.2⟩
set_option maxHeartbeats 4000000 in
set_option maxRecDepth 100000 in
theorem insts13_any (x : Pg) (A : Option Addr) (ca : Nat) (B : Option Addr) (cb : Nat) (C : Option Addr) (cc mb : Nat) (l : List Cd) (LA : Option Addr) (lcap : Nat) (S : List Int) (W : World) (N : Nat)
    (hX : PgAt (Lo mb W) W x A ca B cb C cc) (hR : CRow (Lo mb W) W LA l.length lcap l) (hCB : ∀ c ∈ l, CdB c) (hG : GS mb S W) (hE : EnvB N W) (hN : N ≤ mb) :
    Calls Tryz.prog 47 #[.agg #[.slice A x.fns.length ca, .slice B x.ops.length cb, .slice C x.tab.length cc, .map (some mb)], .slice LA l.length lcap] W
      fun e w' => e = .returned (.bool (l.all (instB x.fns x.tab))) ∧ Mod (fun k => k = mb) W w' ∧ ∃ S', GS mb S' w' ∧ (l.all (instB x.fns x.tab) = true → S' = S ++ l.flatMap gathN) := by
  obtain ⟨W1, hW1⟩ : ∃ W1, W1 = W.alloc (.cells #[.slice A x.fns.length ca, .slice B x.ops.length cb, .slice C x.tab.length cc, .map (some mb)] 96) := ⟨_, rfl⟩
  have b1 : Below W.heap.size W W1 := by rw [hW1]; exact (Below.refl _ W).alloc (Nat.le_refl _) _
  have g1 : W1.heap[W.heap.size]? = some (.cells #[.slice A x.fns.length ca, .slice B x.ops.length cb, .slice C x.tab.length cc, .map (some mb)] 96 (0, 0)) := by rw [hW1]; exact block_alloc _ _
  have HC1 := Lib.hid (rulesOf_any W1)
  have HB1 := Lib.hid b1
  have HGK := Lib.hid g1
  have HR := Lib.hid hR
  have HX := Lib.hid hX
  have HCB := Lib.hid hCB
  have HE := Lib.hid hE
  have HN := Lib.hid hN
  have HG := Lib.hid hG
  clear hX hR hCB hG hE hN b1 g1
  obtain ⟨RB, hRB⟩ : ∃ RB, RB = l.all (instB x.fns x.tab) := ⟨_, rfl⟩
  rw [← hRB]
  have HRB := Lib.hid hRB
  clear hRB
  go_enter Tryz.func47, Tryz.ntmps47
  go_upto_region 1 with fail
  rw [← hW1]
  clear hW1
  go_wp2_with fail
  refine HC1.out.mono ?_
  rintro e W3 ⟨rfl, b3⟩
  have HB3 := Lib.hid (HB1.out.trans (b3.mono HB1.out.size))
  have HGK3 := Lib.hid ((b3.block _ (heap_lt HGK.out)).trans HGK.out)
  clear b3
  have HZ := Lib.hid (block_alloc W3 (.cells #[.nilFunc, .nilFunc, .nilFunc, .nilFunc, .nilFunc, .nilFunc, .nilFunc, .nilFunc, .nilFunc, .nilFunc, .nilFunc, .nilFunc, .nilFunc, .nilFunc, .nilFunc, .nilFunc, .nilFunc, .nilFunc, .nilFunc, .nilFunc] 134))
  have HZB : Hid (Below W3.heap.size W3 (W3.alloc (.cells #[.nilFunc, .nilFunc, .nilFunc, .nilFunc, .nilFunc, .nilFunc, .nilFunc, .nilFunc, .nilFunc, .nilFunc, .nilFunc, .nilFunc, .nilFunc, .nilFunc, .nilFunc, .nilFunc, .nilFunc, .nilFunc, .nilFunc, .nilFunc] 134))) := Lib.hid ((Below.refl _ _).alloc (Nat.le_refl _) _)
  have HZS : Hid ((W3.alloc (.cells #[.nilFunc, .nilFunc, .nilFunc, .nilFunc, .nilFunc, .nilFunc, .nilFunc, .nilFunc, .nilFunc, .nilFunc, .nilFunc, .nilFunc, .nilFunc, .nilFunc, .nilFunc, .nilFunc, .nilFunc, .nilFunc, .nilFunc, .nilFunc] 134)).heap.size = W3.heap.size + 1) := Lib.hid (by simp)
  go_upto_region 2 with (refine wpList_store_row rfl _ _ _ rfl W3.heap.size keepsRow rfl (by kernel_rfl) 134 _ HZ.out (by kernel_rfl) rfl (by kernel_rfl) ?_)
  obtain ⟨W4, hW4⟩ : ∃ W4, W4 = (W3.alloc (.cells #[.nilFunc, .nilFunc, .nilFunc, .nilFunc, .nilFunc, .nilFunc, .nilFunc, .nilFunc, .nilFunc, .nilFunc, .nilFunc, .nilFunc, .nilFunc, .nilFunc, .nilFunc, .nilFunc, .nilFunc, .nilFunc, .nilFunc, .nilFunc] 134)).setRow W3.heap.size keepsRow := ⟨_, rfl⟩
  rw [← hW4]
  have g4 : W4.heap[W3.heap.size]? = some (.cells keepsRow 134 (0, 0)) := by rw [hW4]; exact setRow_heap _ _ _ _ _ _ HZ.out
  have b4 : Below W3.heap.size W3 W4 := by
    rw [hW4]
    exact ⟨HZB.out.os, HZB.out.tape, HZB.out.output, by simp only [World.setRow, Array.size_modify]; exact HZB.out.size, fun k hk => (setRow_other _ _ _ _ (by omega)).trans (HZB.out.block k hk)⟩
  have hb4 := HB3.out.trans (b4.mono HB3.out.size)
  have HC4 := Lib.hid (hasC13_any x A ca B cb C cc mb W.heap.size W3.heap.size l LA lcap S W4 N (HX.out.mod (Mod.of_below hb4)) (HR.out.mod (Mod.of_below hb4)) HCB.out (HG.out.keep hb4) (HE.out.under (hb4.mono HE.out.le)) HN.out ⟨_, (b4.block _ (heap_lt HGK3.out)).trans HGK3.out⟩ ⟨_, g4⟩)
  have HB4 := Lib.hid hb4
  clear hW4 g4 b4 hb4
  rw [← HRB.out] at HC4
  go_wp2_with fail
  refine HC4.out.mono ?_
  rintro e w2 ⟨rfl, b2, S2, g2, h2⟩
  have HG2 := Lib.hid (And.intro b2 (And.intro g2 h2))
  clear b2 g2 h2
  go_wp2_with fail
  go_ret
  exact ⟨by simp, (Mod.of_below HB4.out).trans HG2.out.1 (fun _ _ e => e), S2, HG2.out.2.1, HG2.out.2.2⟩
end Go.Proofs.YtdimcddbmccniaaGreatDoor
end
section
set_option linter.unusedVariables false
set_option linter.unusedSimpArgs false
namespace Go.Proofs.YtdimcddbmccniaaGreatDoor
open Go.RowKit

structure PgB (x : Pg) : Prop where
  ops : ∀ c ∈ x.ops, CdB c
  flat : x.tab.flatten.length ≤ 6000
theorem PgAt.lo {mb : Nat} {W V : World} {x : Pg} {A B C : Option Addr} {ca cb cc : Nat} (h : PgAt (· < W.heap.size) W x A ca B cb C cc) (hb : Below W.heap.size W V) (hm : W.heap.size ≤ mb) : PgAt (Lo mb V) V x A ca B cb C cc :=
  h.keep (fun b hb' => hb.block b hb') (fun b hb' => ⟨Nat.lt_of_lt_of_le hb' hb.size, by omega⟩)
theorem CRow.lo {mb : Nat} {W V : World} {A : Option Addr} {k cap : Nat} {l : List Cd} (h : CRow (· < W.heap.size) W A k cap l) (hb : Below W.heap.size W V) (hm : W.heap.size ≤ mb) : CRow (Lo mb V) V A k cap l :=
  h.keep (fun b hb' => hb.block b hb') (fun b hb' => ⟨Nat.lt_of_lt_of_le hb' hb.size, by omega⟩)
theorem mkmapP (w : World) : Sem.run Tryz.prog (Instr.makeMap 94 none) w = .ok (.map (some w.heap.size)) (w.alloc (.map #[] 0)) := by kernel_rfl
set_option maxHeartbeats 2000000 in
theorem checkerOf_any (x : Pg) (A : Option Addr) (ca : Nat) (B : Option Addr) (cb : Nat) (C : Option Addr) (cc : Nat) (W : World) :
    Calls Tryz.prog 46 #[.agg #[.slice A x.fns.length ca, .slice B x.ops.length cb, .slice C x.tab.length cc]] W fun e w' => ∃ mb, e = .returned (.agg #[.slice A x.fns.length ca, .slice B x.ops.length cb, .slice C x.tab.length cc, .map (some mb)]) ∧ w'.heap[mb]? = some (.map #[] 0) ∧ W.heap.size ≤ mb ∧ Below W.heap.size W w' := by
  obtain ⟨W1, hW1⟩ : ∃ W1, W1 = (W.alloc (.cells #[.slice A x.fns.length ca, .slice B x.ops.length cb, .slice C x.tab.length cc] 45)).alloc (.cells #[.slice none 0 0, .slice none 0 0, .slice none 0 0, .map none] 96) := ⟨_, rfl⟩
  obtain ⟨g0, g1, b1, z1⟩ := two13 W _ _ W1 hW1
  obtain ⟨p0, p1, p2⟩ := c3 g0
  have HG1 := Lib.hid g1
  have HB1 := Lib.hid b1
  have HZ1 := Lib.hid z1
  have hmm := mkmapP W1
  clear g0 g1 b1 z1
  go_enter Tryz.func46, Tryz.ntmps46
  go_upto_region 1 with fail
  rw [← hW1]
  clear hW1
  have HM := Lib.hid (block_alloc W1 (.map #[] 0))
  have hbm : Below W1.heap.size W1 (W1.alloc (.map #[] 0)) := (Below.refl _ _).alloc (Nat.le_refl _) _
  have hz := (hbm.block _ (heap_lt HG1.out)).trans HG1.out
  have HBM := Lib.hid hbm
  have HZ := Lib.hid hz
  clear hbm hz
  go_wp2_with (refine wpList_store_row rfl _ _ _ rfl (W.heap.size + 1) #[.slice A x.fns.length ca, .slice B x.ops.length cb, .slice C x.tab.length cc, .map (some W1.heap.size)] rfl (by kernel_rfl) 96 _ HZ.out (by kernel_rfl) rfl (by kernel_rfl) ?_)
  refine bodyPost_ret (v := .agg #[.slice A x.fns.length ca, .slice B x.ops.length cb, .slice C x.tab.length cc, .map (some W1.heap.size)]) ?_ rfl ?_
  · exact results_cell_row rfl _ _ (W.heap.size + 1) 96 #[.slice A x.fns.length ca, .slice B x.ops.length cb, .slice C x.tab.length cc, .map (some W1.heap.size)] (0, 0) _ rfl (setRow_heap _ _ _ _ _ _ HZ.out) Tryz.underlying96 rfl (by kernel_rfl)
  have hz1 := HZ1.out
  refine ⟨W1.heap.size, rfl, (setRow_other _ _ _ _ (by omega)).trans HM.out, by omega, ?_⟩
  have hbb := HB1.out.trans (HBM.out.mono HB1.out.size)
  exact ⟨hbb.os, hbb.tape, hbb.output, by simp only [World.setRow, Array.size_modify]; exact hbb.size, fun k hk => (setRow_other _ _ _ _ (by omega)).trans (hbb.block k hk)⟩
set_option maxHeartbeats 8000000 in
set_option maxRecDepth 100000 in
theorem may13_any (x : Pg) (A : Option Addr) (ca : Nat) (B : Option Addr) (cb : Nat) (C : Option Addr) (cc : Nat) (W : World) (hX : PgAt (· < W.heap.size) W x A ca B cb C cc) (hB : PgB x) (hE : Env13 W) :
    Calls Tryz.prog 42 #[.agg #[.slice A x.fns.length ca, .slice B x.ops.length cb, .slice C x.tab.length cc]] W fun e w' => e = .returned (.bool (mayP x)) ∧ Below W.heap.size W w' := by
  obtain ⟨R, hR⟩ : ∃ R, R = mayP x := ⟨_, rfl⟩
  rw [← hR]
  have HR : Hid (R = (fitsP x && (overB x.ops && (fnsB [] x.fns && (x.ops.all (instB x.fns x.tab) && (namedP x).all (placeB x.ops.length)))))) := Lib.hid (by rw [hR]; rfl)
  clear hR
  obtain ⟨W1, hW1⟩ : ∃ W1, W1 = W.alloc (.cells #[.slice A x.fns.length ca, .slice B x.ops.length cb, .slice C x.tab.length cc] 45) := ⟨_, rfl⟩
  have b1 : Below W.heap.size W W1 := by rw [hW1]; exact (Below.refl _ W).alloc (Nat.le_refl _) _
  have g1 : W1.heap[W.heap.size]? = some (.cells #[.slice A x.fns.length ca, .slice B x.ops.length cb, .slice C x.tab.length cc] 45 (0, 0)) := by rw [hW1]; exact block_alloc _ _
  obtain ⟨p0, p1, p2⟩ := c3 g1
  have HX := Lib.hid hX
  have HPB := Lib.hid hB
  have HE := Lib.hid (EnvB.of hE)
  have hmt := hX.tab.max
  have hmo := hX.ops.max
  unfold maxLen at hmt hmo
  have HB1 := Lib.hid b1
  have HG1 := Lib.hid g1
  have HC1 := Lib.hid (fits13_any x A ca B cb C cc W1 (hX.later b1) hB.flat)
  clear hX hB hE b1 g1
  go_enter Tryz.func42, Tryz.ntmps42
  go_upto_region 1 with fail
  rw [← hW1]
  clear hW1
  go_wp2_with fail
  refine HC1.out.mono ?_
  rintro e W2 ⟨rfl, b2⟩
  have HB2 := Lib.hid (HB1.out.trans (b2.mono HB1.out.size))
  have HG2 := Lib.hid ((b2.block _ (heap_lt HG1.out)).trans HG1.out)
  clear p0 p1 p2 b2
  obtain ⟨p0, p1, p2⟩ := c3 HG2.out
  cases h1 : fitsP x
  case false =>
    have HF : Hid (R = false) := Lib.hid (by rw [HR.out, h1]; rfl)
    go_wp2_with fail
    go_ret
    exact ⟨ret_bool HF.out.symm, HB2.out⟩
  have HC2 := Lib.hid (over13_any x.ops B cb W2 (HX.out.ops.keep (fun b hb => HB2.out.block b hb) (fun b hb => Nat.lt_of_lt_of_le hb HB2.out.size)))
  go_wp2_with fail
  refine HC2.out.mono ?_
  rintro e W9 ⟨rfl, hw9⟩
  rw [hw9]
  clear hw9
  cases h2 : overB x.ops
  case false =>
    have HF : Hid (R = false) := Lib.hid (by rw [HR.out, h1, h2]; rfl)
    go_wp2_with fail
    go_ret
    exact ⟨ret_bool HF.out.symm, HB2.out⟩
  have HR2 : Hid (R = (fnsB [] x.fns && (x.ops.all (instB x.fns x.tab) && (namedP x).all (placeB x.ops.length)))) := Lib.hid (by rw [HR.out, h1, h2]; rfl)
  clear h1 h2 HR
  have HC3 := Lib.hid (checkerOf_any x A ca B cb C cc W2)
  go_wp2_with fail
  refine HC3.out.mono ?_
  rintro e W5 ⟨mb, rfl, hmb, hle, b5⟩
  have HB5 := Lib.hid (HB2.out.trans (b5.mono HB2.out.size))
  have HG5 := Lib.hid ((b5.block _ (heap_lt HG2.out)).trans HG2.out)
  have HMB : Hid (W.heap.size < mb ∧ mb < W5.heap.size) := Lib.hid ⟨by have := heap_lt HG2.out; omega, heap_lt hmb⟩
  have HMAP := Lib.hid hmb
  clear p0 p1 p2 b5 hmb hle
  obtain ⟨p0, p1, p2⟩ := c3 HG5.out
  go_upto_region 4 with fail
  obtain ⟨W6, hW6⟩ : ∃ W6, W6 = W5.alloc (.cells #[.slice A x.fns.length ca, .slice B x.ops.length cb, .slice C x.tab.length cc, .map (some mb)] 96) := ⟨_, rfl⟩
  rw [← hW6]
  have b6 : Below W5.heap.size W5 W6 := by rw [hW6]; exact (Below.refl _ _).alloc (Nat.le_refl _) _
  have gk : W6.heap[W5.heap.size]? = some (.cells #[.slice A x.fns.length ca, .slice B x.ops.length cb, .slice C x.tab.length cc, .map (some mb)] 96 (0, 0)) := by rw [hW6]; exact block_alloc _ _
  have HB6 := Lib.hid (HB5.out.trans (b6.mono HB5.out.size))
  have HG6 := Lib.hid ((b6.block _ (heap_lt HG5.out)).trans HG5.out)
  have HGK := Lib.hid gk
  have HS6 : Hid (GS mb [] W6) := Lib.hid (GS.nil ((b6.block _ (heap_lt HMAP.out)).trans HMAP.out))
  clear hW6 b6 gk p0 p1 p2
  obtain ⟨p0, p1, p2⟩ := c3 HG6.out
  go_wp2_with fail
  go_loopw [20] (fun i wr => ∃ j : Nat, j ≤ x.tab.length ∧ i = .int .i64 j ∧ Hid (Mod (fun k => k = mb) W6 wr) ∧ Hid (GS mb (x.tab.take j).flatten wr)) (fun i _ => x.tab.length - (intOf i).toNat)
  case atStart => exact ⟨0, Nat.zero_le _, rfl, Lib.hid (Mod.refl _ _), Lib.hid (by simpa using HS6.out)⟩
  case round =>
    obtain ⟨j, hj, rfl, HM, HS⟩ := hrel
    have hgp := (HM.out.block _ (heap_lt HG6.out) (by have := HMB.out; omega)).trans HG6.out
    have hgk := (HM.out.block _ (heap_lt HGK.out) (by have := HMB.out; omega)).trans HGK.out
    have HBW : Hid (Below W.heap.size W wr) := Lib.hid (HB6.out.trans (HM.out.below HB6.out.size (fun i e => by have := HMB.out; omega)))
    have HGP := Lib.hid hgp
    have HGK2 := Lib.hid hgk
    clear p0 p1 p2
    obtain ⟨p0, p1, p2⟩ := c3 hgp
    obtain ⟨k0, k1, k2, k3⟩ := c4 hgk
    clear hgp hgk
    by_cases hlt : j < x.tab.length
    case pos =>
      obtain ⟨y, hy⟩ : ∃ y, x.tab[j]? = some y := ⟨x.tab[j], List.getElem?_eq_getElem hlt⟩
      obtain ⟨ad, BB, mm, hA, had, hc, hN⟩ := (HX.out.lo HBW.out (Nat.le_of_lt HMB.out.1)).tab.at_ j y hy
      have HC7 := Lib.hid (gather_any A x.fns.length ca B x.ops.length cb C x.tab.length cc mb BB mm y _ wr hN HS.out)
      have HY := Lib.hid hy
      subst hA
      clear hy hN had
      go_wp2_with fail
      refine HC7.out.mono ?_
      rintro e V ⟨rfl, g8, m8⟩
      have HI8 : Hid (GS mb (x.tab.take (j + 1)).flatten V) := Lib.hid (by rw [List.take_add_one, HY.out]; simpa using g8)
      have HM8 := Lib.hid (HM.out.trans m8 (fun _ _ e => e))
      clear g8 m8 p0 p1 p2 k0 k1 k2 k3 hc
      go_wp2_with fail
      go_roundw
      case rel => exact ⟨j + 1, by omega, by go_num, HM8, HI8⟩
      case measure => simp [intOf]; omega
    have hjn : j = x.tab.length := by omega
    subst hjn
    have HS9 : Hid (GS mb x.tab.flatten wr) := Lib.hid (by have := HS.out; rwa [List.take_length] at this)
    have hEW := HE.out.under HBW.out
    have HEW := Lib.hid hEW
    have hNm : W.heap.size ≤ mb := Nat.le_of_lt HMB.out.1
    have HNM := Lib.hid hNm
    have HC8 := Lib.hid (functions13_any x A ca B cb C cc mb _ wr _ (HX.out.lo HBW.out hNm) HS9.out hEW hNm)
    clear HS hEW hNm
    go_wp2_with fail
    refine HC8.out.mono ?_
    rintro e V ⟨rfl, m9, S9, g9, h9⟩
    have HB9 : Hid (Below W.heap.size W V) := Lib.hid (HBW.out.trans (m9.below HBW.out.size (fun i e => by have := HMB.out; omega)))
    have hgp := (m9.block _ (heap_lt HGP.out) (by have := HMB.out; omega)).trans HGP.out
    have hgk := (m9.block _ (heap_lt HGK2.out) (by have := HMB.out; omega)).trans HGK2.out
    have HGP9 := Lib.hid hgp
    have HGK9 := Lib.hid hgk
    have HG9 := Lib.hid g9
    have HH9 := Lib.hid h9
    have HE9 := Lib.hid (HEW.out.mod HNM.out m9)
    clear p0 p1 p2 k0 k1 k2 k3 m9 g9 h9
    obtain ⟨p0, p1, p2⟩ := c3 hgp
    obtain ⟨k0, k1, k2, k3⟩ := c4 hgk
    clear hgp hgk
    cases h3 : fnsB [] x.fns
    case false =>
      have HF : Hid (R = false) := Lib.hid (by rw [HR2.out, h3]; rfl)
      go_wp2_with fail
      go_ret
      exact ⟨ret_bool HF.out.symm, HB9.out⟩
    have HS10 := Lib.hid (HH9.out h3)
    have HC9 := Lib.hid (insts13_any x A ca B cb C cc mb x.ops B cb S9 V _ (HX.out.lo HB9.out HNM.out) (HX.out.ops.lo HB9.out HNM.out) HPB.out.ops HG9.out HE9.out HNM.out)
    have HR3 : Hid (R = (x.ops.all (instB x.fns x.tab) && (namedP x).all (placeB x.ops.length))) := Lib.hid (by rw [HR2.out, h3]; rfl)
    clear h3 HR2
    obtain ⟨ri, hri⟩ : ∃ ri, ri = x.ops.all (instB x.fns x.tab) := ⟨_, rfl⟩
    rw [← hri] at HC9 HR3
    clear hri
    go_wp2_with fail
    refine HC9.out.mono ?_
    rintro e U ⟨rfl, m9, S11, g9, h9⟩
    have HB11 : Hid (Below W.heap.size W U) := Lib.hid (HB9.out.trans (m9.below HB9.out.size (fun i e => by have := HMB.out; omega)))
    have hgp := (m9.block _ (heap_lt HGP9.out) (by have := HMB.out; omega)).trans HGP9.out
    have hgk := (m9.block _ (heap_lt HGK9.out) (by have := HMB.out; omega)).trans HGK9.out
    have HG11 := Lib.hid g9
    have HH11 := Lib.hid h9
    clear p0 p1 p2 k0 k1 k2 k3 m9 g9 h9
    obtain ⟨p0, p1, p2⟩ := c3 hgp
    obtain ⟨k0, k1, k2, k3⟩ := c4 hgk
    clear hgp hgk
    cases ri
    case false =>
      have HF : Hid (R = false) := Lib.hid (by rw [HR3.out]; rfl)
      go_wp2_with fail
      go_ret
      exact ⟨ret_bool HF.out.symm, HB11.out⟩
    have HS12 := Lib.hid (HH11.out rfl)
    have HC10 := Lib.hid (below13_any mb S11 x.ops.length U hmo HG11.out)
    have HF : Hid (R = S11.all (placeB x.ops.length)) := Lib.hid (by rw [HR3.out, Bool.true_and, HS12.out, HS10.out]; unfold namedP; rw [List.append_assoc])
    rw [← HF.out] at HC10
    go_wp2_with fail
    refine HC10.out.mono ?_
    rintro e Z ⟨rfl, b12⟩
    go_wp2_with fail
    go_ret
    exact ⟨rfl, HB11.out.trans (b12.mono HB11.out.size)⟩
set_option maxHeartbeats 2000000 in
theorem Check13_any (x : Pg) (A : Option Addr) (ca : Nat) (B : Option Addr) (cb : Nat) (C : Option Addr) (cc : Nat) (W : World) (hX : PgAt (· < W.heap.size) W x A ca B cb C cc) (hB : PgB x) (hE : Env13 W) :
    Calls Tryz.prog 21 #[.agg #[.slice A x.fns.length ca, .slice B x.ops.length cb, .slice C x.tab.length cc]] W fun e w' => e = .returned (.int .i64 (checkP x)) ∧ Below W.heap.size W w' := by
  obtain ⟨R, hR⟩ : ∃ R, R = checkP x := ⟨_, rfl⟩
  rw [← hR]
  have HR : Hid (R = if mayP x = true then 0 else 130) := Lib.hid (by rw [hR]; rfl)
  clear hR
  obtain ⟨W1, hW1⟩ : ∃ W1, W1 = W.alloc (.cells #[.slice A x.fns.length ca, .slice B x.ops.length cb, .slice C x.tab.length cc] 45) := ⟨_, rfl⟩
  have b1 : Below W.heap.size W W1 := by rw [hW1]; exact (Below.refl _ W).alloc (Nat.le_refl _) _
  have g1 : W1.heap[W.heap.size]? = some (.cells #[.slice A x.fns.length ca, .slice B x.ops.length cb, .slice C x.tab.length cc] 45 (0, 0)) := by rw [hW1]; exact block_alloc _ _
  obtain ⟨p0, p1, p2⟩ := c3 g1
  have HC1 := Lib.hid (may13_any x A ca B cb C cc W1 (hX.later b1) hB (hE.under b1))
  have HB1 := Lib.hid b1
  clear hX hB hE b1 g1
  go_enter Tryz.func21, Tryz.ntmps21
  go_upto_region 1 with fail
  rw [← hW1]
  clear hW1
  go_wp2_with fail
  refine HC1.out.mono ?_
  rintro e W2 ⟨rfl, b2⟩
  have HB2 := Lib.hid (HB1.out.trans (b2.mono HB1.out.size))
  clear b2 p0 p1 p2
  cases h : mayP x
  · have HF : Hid (R = 130) := Lib.hid (by rw [HR.out, h]; rfl)
    go_wp2_with fail
    go_ret
    exact ⟨ret_int HF.out.symm, HB2.out⟩
  · have HF : Hid (R = 0) := Lib.hid (by rw [HR.out, h]; rfl)
    go_wp2_with fail
    go_ret
    exact ⟨ret_int HF.out.symm, HB2.out⟩
end Go.Proofs.YtdimcddbmccniaaGreatDoor
end
section

end
section
set_option linter.unusedVariables false
set_option linter.unusedSimpArgs false
namespace Go.Proofs.YtdimcddbmccniaaGreatDoor
open Go.RowKit

structure ElT (T E : TypeId) (z : Value) (size : Nat) : Prop where
  sl : Tryz.prog.underlying T = some (.slice E)
  info : ∃ i, Tryz.prog.info? E = some i ∧ i.zero = some z ∧ i.size = size ∧ i.bytes ≤ 200
  zs : z.cells.size = size
  pos : 0 < size
set_option maxRecDepth 100000 in
theorem run_own1 {T E : TypeId} {z : Value} {size : Nat} (hT : ElT T E z size) (w : World) (ty : TypeId) {base : Nat} {v : Value} {n : Nat} {xs : List Value} (hown : w.ownsRow base E size v n xs) (hbase : base ≤ w.heap.size)
    (g : Nat) {news : Array Value} {fr : Nat × Nat} (hg : w.heap[g]? = some (.cells news E fr)) (hl : news.size = size) (h1 : ∀ u ∈ news.toList, u.oneCell' = true) (hlen : n + 1 ≤ 2000000) :
    ∃ v' w', (Builtin.append_ #[T, T] ty #[v, .slice (some ⟨g, 0, none⟩) 1 1]).run Tryz.prog w = .ok v' w' ∧ w'.ownsRow base E size v' (n + 1) (xs ++ news.toList) ∧ w.grownBy w' v.ownBlock ∧ (v'.ownBlock = v.ownBlock ∨ v'.ownBlock = some w.heap.size) := by
  obtain ⟨i, hi, hz, hsz, hby⟩ := hT.info
  have hnews : ∀ j u, news.toList[j]? = some u → w.cell? ((⟨g, 0, none⟩ : Addr).add j) = some u := by
    intro j u hj
    have e : (⟨g, 0, none⟩ : Addr).add j = ⟨g, j, none⟩ := by unfold Addr.add; split <;> simp_all
    rw [e]
    exact cell_of_row hg (by simpa using hj)
  obtain ⟨v', w', hr, h2, h3, _, h5⟩ := run_append_own_at (P := Tryz.prog) w base T ty E i z size i.bytes hT.sl hi hz hsz rfl hT.zs hT.pos v n xs hown ⟨g, 0, none⟩ 1 1 news.toList (by simpa using hl) hnews h1 (by unfold maxLen; omega)
    (by have h9 : (n + 1) * i.bytes ≤ 2000000 * 200 := Nat.mul_le_mul hlen hby
        omega) hbase
  exact ⟨v', w', hr, h2, h3, h5⟩
set_option maxRecDepth 100000 in
theorem wp_own1 {T E : TypeId} {z : Value} {size : Nat} (hT : ElT T E z size) {o : Oper} {a : Act} {w : World} {K : Act → World → Prop} {Q : Exit → Act → World → Prop} (sl x : Operand)
    (ho : o.op = .call { callee := .builtin .append, args := #[sl, x], argTypes := #[T, T] })
    {base : Nat} {v : Value} {n : Nat} {xs : List Value} (hown : w.ownsRow base E size v n xs) (hbase : base ≤ w.heap.size) (he : a.eval sl = v)
    (g : Nat) {news : Array Value} {fr : Nat × Nat} (hx : a.eval x = .slice (some ⟨g, 0, none⟩) 1 1) (hg : w.heap[g]? = some (.cells news E fr)) (hl : news.size = size) (h1 : ∀ u ∈ news.toList, u.oneCell' = true) (hlen : n + 1 ≤ 2000000)
    (h : ∀ v' w', w'.ownsRow base E size v' (n + 1) (xs ++ news.toList) → w.grownBy w' v.ownBlock → (v'.ownBlock = v.ownBlock ∨ v'.ownBlock = some w.heap.size) → K (a.put o.dst v') w') : o.wp Tryz.prog a w K Q := by
  obtain ⟨v', w', hr, h2, h3, h5⟩ := run_own1 hT w o.type hown hbase g hg hl h1 hlen
  unfold Oper.wp execOp
  simp only [ho, resolve, invoke, builtin, Sem.run_bind, Sem.run_pure, Result.andThen_ok, List.map_toArray, List.map_cons, List.map_nil, he, hx, hr]
  exact h _ _ h2 h3 h5
theorem wpList_own1 {T E : TypeId} {z : Value} {size : Nat} (hT : ElT T E z size) {ops : Array Oper} {rest : List Oper} {o : Oper} {a : Act} {w : World} {Q : Exit → Act → World → Prop} (hgd : o.guard = none) (sl x : Operand)
    (ho : o.op = .call { callee := .builtin .append, args := #[sl, x], argTypes := #[T, T] })
    {base : Nat} {v : Value} {n : Nat} {xs : List Value} (hown : w.ownsRow base E size v n xs) (hbase : base ≤ w.heap.size) (he : a.eval sl = v)
    (g : Nat) {news : Array Value} {fr : Nat × Nat} (hx : a.eval x = .slice (some ⟨g, 0, none⟩) 1 1) (hg : w.heap[g]? = some (.cells news E fr)) (hl : news.size = size) (h1 : ∀ u ∈ news.toList, u.oneCell' = true) (hlen : n + 1 ≤ 2000000)
    (h : ∀ v' w', w'.ownsRow base E size v' (n + 1) (xs ++ news.toList) → w.grownBy w' v.ownBlock → (v'.ownBlock = v.ownBlock ∨ v'.ownBlock = some w.heap.size) → wpList Tryz.prog ops Q rest (a.put o.dst v') w') : wpList Tryz.prog ops Q (o :: rest) a w :=
  wpList_plain hgd fun K hK => wp_own1 hT sl x ho hown hbase he g hx hg hl h1 hlen fun v' w' h1 h2 h3 => hK _ _ (h v' w' h1 h2 h3)

theorem elt_of {T E : TypeId} {z : Value} {size bytes : Nat} (h : Tryz.prog.underlying T = some (.slice E)) (hi : (Tryz.prog.info? E).map (fun i => (i.zero, i.size, i.bytes)) = some (some z, size, bytes)) (hb : bytes ≤ 200) (hz : z.cells.size = size) (hp : 0 < size) : ElT T E z size := by
  obtain ⟨i, h1, h2⟩ := Option.map_eq_some_iff.1 hi
  simp only [Prod.mk.injEq] at h2
  exact ⟨h, ⟨i, h1, h2.1, h2.2.1, by rw [h2.2.2]; exact hb⟩, hz, hp⟩
end Go.Proofs.YtdimcddbmccniaaGreatDoor
end
