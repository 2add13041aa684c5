/- Layer 13: the rule of receives (written by gen_cd11.py). -/
import Derived.Test.YtdimcddbmccniaaGreatDoorKCd11
set_option linter.unusedVariables false
set_option linter.unusedSimpArgs false
namespace Go.Proofs.YtdimcddbmccniaaGreatDoor
open Go.RowKit
attribute [local irreducible] Go.wpQuiet

set_option maxHeartbeats 100000000 in
set_option maxRecDepth 100000 in
theorem rule18_any : RuleC 18 128 := by
  intro x A ca B cb C cc mb c v S W N hop hX hC hCB hG hE hN
  obtain ⟨op, a, b, ⟨tk, tn, ts, tt, tl⟩, ⟨pk, pn, ps, pt, pl⟩, l⟩ := c
  obtain rfl : op = 18 := hop
  obtain ⟨TA, tcap, PA, pcap, LA, lcap, rfl, ht, hp, hl, -, ha, hb⟩ := hC.parts
  have e1 : gathN ⟨18, a, b, .mk tk tn ts tt tl, .mk pk pn ps pt pl, l⟩ = ([] : List Int) := rfl
  rw [e1]
  obtain ⟨R, hR⟩ : ∃ R, R = ruleB x.fns x.tab ⟨18, a, b, .mk tk tn ts tt tl, .mk pk pn ps pt pl, l⟩ := ⟨_, rfl⟩
  rw [← hR]
  have HR : Hid (R = (withinB a 0 1 && ((tk == 0) && (isT (.mk tk tn ts tt tl) && (withinB tn 0 32 && (withinB b 0 ((x.tab.length : Int) - 1) && ((match x.tab[b.toNat]? with | some y => y.length == l.length + 1 | none => false) && l.all takesB))))))) := Lib.hid (by rw [hR]; rfl)
  clear hR e1 hC
  obtain ⟨W2, hW2⟩ : ∃ W2, W2 = (W.alloc (.cells #[.slice A x.fns.length ca, .slice B x.ops.length cb, .slice C x.tab.length cc, .map (some mb)] 96)).alloc (.cells #[.int .i8 18, .int .i64 a, .int .i64 b, .int .i8 tk, .int .i64 tn, .string ts, .string tt, .slice TA tl.length tcap, .int .i8 pk, .int .i64 pn, .string ps, .string pt, .slice PA pl.length pcap, .slice LA l.length lcap] 50) := ⟨_, rfl⟩
  obtain ⟨gk, gc, b2, -⟩ := two13 W _ _ W2 hW2
  have HB2 := Lib.hid b2
  have HMB := Lib.hid hG.lt
  have HGK := Lib.hid gk
  have HGC := Lib.hid gc
  have HX := Lib.hid (hX.mod (Mod.of_below b2))
  have HT := Lib.hid (ht.modL (Mod.of_below b2))
  have HP := Lib.hid (hp.modL (Mod.of_below b2))
  have HL := Lib.hid (hl.modL (Mod.of_below b2))
  have HCB := Lib.hid hCB
  have HE := Lib.hid (hE.under (b2.mono hE.le))
  have HN := Lib.hid hN
  have HA := Lib.hid ha
  have HBB := Lib.hid hb
  have HGS := Lib.hid (hG.keep b2)
  have HMD : Hid (Mod (fun k => k = mb) W2 W2) := Lib.hid (Mod.refl _ _)
  clear gk gc b2 hX ht hp hl hCB hE hN ha hb hG
  rw [List.append_nil]
  have htl := HX.out.tab.max
  unfold maxLen at htl
  have HW : Hid (IntKind.i64.wrap ((x.tab.length : Int) - 1) = (x.tab.length : Int) - 1) := Lib.hid (by rw [IntKind.wrap_i64]; omega)
  have hll := HCB.out.len
  have HW2 : Hid (IntKind.i64.wrap ((l.length : Int) + 1) = (l.length : Int) + 1) := Lib.hid (by have h9 : l.length ≤ 6000 := hll; rw [IntKind.wrap_i64]; omega)
  clear hll
  cases h0 : (withinB a 0 1)
  case false =>
    have HF : Hid (R = false) := Lib.hid (by rw [HR.out, h0]; rfl)
    have H0 := Lib.hid h0
    clear h0
    go_enter Tryz.func128, Tryz.ntmps128
    go_upto_region 1 with fail
    rw [← hW2]
    clear hW2
    refine wp_region_qC (C := fun V => Below (W2).heap.size (W2) V) (by kernel_rfl) (by kernel_rfl) (drewC (W2)) ?_
    refine wpqC (v := ?_) (by kernel_rfl) ?_ ?_; rotate_left; (intro V hV; (try dsimp only at hV); go_simp; first | done | with_reducible rfl); (try simp only [Act.put, sI, sZ, sS])
    refine wpqC (v := ?_) (by kernel_rfl) ?_ ?_; rotate_left; (intro V hV; (try dsimp only at hV); have gc := (hV.block _ (heap_lt HGC.out)).trans HGC.out; have x1 := cell_of_row (i := 1) gc rfl; go_simp; first | done | with_reducible rfl); (try simp only [Act.put, sI, sZ, sS])
    refine wpqC (v := .bool false) (by kernel_rfl) ?_ ?_; (· intro V hV; (try dsimp only at hV); go_simp; refine (within_any _ _ _ V).mono ?_; rintro e V2 ⟨rfl, rfl⟩; exact ⟨by rw [H0.out], hV⟩); (try simp only [Act.put, sI, sZ, sS])
    refine wpqC (v := ?_) (by kernel_rfl) ?_ ?_; rotate_left; (intro V hV; (try dsimp only at hV); go_simp; first | done | with_reducible rfl); (try simp only [Act.put, sI, sZ, sS])
    refine wpqC_skip (by kernel_rfl) ?_; (try simp only [Act.put, sI, sZ, sS])
    refine wpqC_skip (by kernel_rfl) ?_; (try simp only [Act.put, sI, sZ, sS])
    refine wpqC_skip (by kernel_rfl) ?_; (try simp only [Act.put, sI, sZ, sS])
    refine wpqC_skip (by kernel_rfl) ?_; (try simp only [Act.put, sI, sZ, sS])
    refine wpqC (v := ?_) (by kernel_rfl) ?_ ?_; rotate_left; (intro V hV; (try dsimp only at hV); go_simp; first | done | with_reducible rfl); (try simp only [Act.put, sI, sZ, sS])
    refine wpqC (v := ?_) (by kernel_rfl) ?_ ?_; rotate_left; (intro V hV; (try dsimp only at hV); go_simp; first | done | with_reducible rfl); (try simp only [Act.put, sI, sZ, sS])
    refine wpqC_skip (by kernel_rfl) ?_; (try simp only [Act.put, sI, sZ, sS])
    refine wpqC_skip (by kernel_rfl) ?_; (try simp only [Act.put, sI, sZ, sS])
    refine wpqC_skip (by kernel_rfl) ?_; (try simp only [Act.put, sI, sZ, sS])
    refine wpqC (v := ?_) (by kernel_rfl) ?_ ?_; rotate_left; (intro V hV; (try dsimp only at hV); go_simp; first | done | with_reducible rfl); (try simp only [Act.put, sI, sZ, sS])
    refine wpqC (v := ?_) (by kernel_rfl) ?_ ?_; rotate_left; (intro V hV; (try dsimp only at hV); go_simp; first | done | with_reducible rfl); (try simp only [Act.put, sI, sZ, sS])
    refine wpqC_skip (by kernel_rfl) ?_; (try simp only [Act.put, sI, sZ, sS])
    refine wpqC_skip (by kernel_rfl) ?_; (try simp only [Act.put, sI, sZ, sS])
    refine wpqC_skip (by kernel_rfl) ?_; (try simp only [Act.put, sI, sZ, sS])
    refine wpqC_skip (by kernel_rfl) ?_; (try simp only [Act.put, sI, sZ, sS])
    refine wpqC (v := ?_) (by kernel_rfl) ?_ ?_; rotate_left; (intro V hV; (try dsimp only at hV); go_simp; first | done | with_reducible rfl); (try simp only [Act.put, sI, sZ, sS])
    refine wpqC (v := ?_) (by kernel_rfl) ?_ ?_; rotate_left; (intro V hV; (try dsimp only at hV); go_simp; first | done | with_reducible rfl); (try simp only [Act.put, sI, sZ, sS])
    refine wpqC_skip (by kernel_rfl) ?_; (try simp only [Act.put, sI, sZ, sS])
    refine wpqC_skip (by kernel_rfl) ?_; (try simp only [Act.put, sI, sZ, sS])
    refine wpqC_skip (by kernel_rfl) ?_; (try simp only [Act.put, sI, sZ, sS])
    refine wpqC_skip (by kernel_rfl) ?_; (try simp only [Act.put, sI, sZ, sS])
    refine wpqC_skip (by kernel_rfl) ?_; (try simp only [Act.put, sI, sZ, sS])
    refine wpqC_skip (by kernel_rfl) ?_; (try simp only [Act.put, sI, sZ, sS])
    refine wpqC_skip (by kernel_rfl) ?_; (try simp only [Act.put, sI, sZ, sS])
    refine wpqC_skip (by kernel_rfl) ?_; (try simp only [Act.put, sI, sZ, sS])
    refine wpqC (v := ?_) (by kernel_rfl) ?_ ?_; rotate_left; (intro V hV; (try dsimp only at hV); go_simp; first | done | with_reducible rfl); (try simp only [Act.put, sI, sZ, sS])
    refine wpqC (v := ?_) (by kernel_rfl) ?_ ?_; rotate_left; (intro V hV; (try dsimp only at hV); go_simp; first | done | with_reducible rfl); (try simp only [Act.put, sI, sZ, sS])
    refine wpqC_skip (by kernel_rfl) ?_; (try simp only [Act.put, sI, sZ, sS])
    refine wpqC_skip (by kernel_rfl) ?_; (try simp only [Act.put, sI, sZ, sS])
    refine wpqC_skip (by kernel_rfl) ?_; (try simp only [Act.put, sI, sZ, sS])
    refine wpqC_skip (by kernel_rfl) ?_; (try simp only [Act.put, sI, sZ, sS])
    refine wpqC_skip (by kernel_rfl) ?_; (try simp only [Act.put, sI, sZ, sS])
    refine wpqC_skip (by kernel_rfl) ?_; (try simp only [Act.put, sI, sZ, sS])
    refine wpqC_skip (by kernel_rfl) ?_; (try simp only [Act.put, sI, sZ, sS])
    refine wpqC_skip (by kernel_rfl) ?_; (try simp only [Act.put, sI, sZ, sS])
    refine wpqC_skip (by kernel_rfl) ?_; (try simp only [Act.put, sI, sZ, sS])
    refine wpqC_skip (by kernel_rfl) ?_; (try simp only [Act.put, sI, sZ, sS])
    refine wpqC_skip (by kernel_rfl) ?_; (try simp only [Act.put, sI, sZ, sS])
    refine wpqC_skip (by kernel_rfl) ?_; (try simp only [Act.put, sI, sZ, sS])
    refine wpqC_skip (by kernel_rfl) ?_; (try simp only [Act.put, sI, sZ, sS])
    refine wpqC (v := ?_) (by kernel_rfl) ?_ ?_; rotate_left; (intro V hV; (try dsimp only at hV); go_simp; first | done | with_reducible rfl); (try simp only [Act.put, sI, sZ, sS])
    refine wpqC (v := ?_) (by kernel_rfl) ?_ ?_; rotate_left; (intro V hV; (try dsimp only at hV); go_simp; first | done | with_reducible rfl); (try simp only [Act.put, sI, sZ, sS])
    refine wpqC_skip (by kernel_rfl) ?_; (try simp only [Act.put, sI, sZ, sS])
    refine wpqC_skip (by kernel_rfl) ?_; (try simp only [Act.put, sI, sZ, sS])
    refine wpqC_skip (by kernel_rfl) ?_; (try simp only [Act.put, sI, sZ, sS])
    refine wpqC_skip (by kernel_rfl) ?_; (try simp only [Act.put, sI, sZ, sS])
    refine wpqC (v := ?_) (by kernel_rfl) ?_ ?_; rotate_left; (intro V hV; (try dsimp only at hV); go_simp; first | done | with_reducible rfl); (try simp only [Act.put, sI, sZ, sS])
    refine wpqC (v := ?_) (by kernel_rfl) ?_ ?_; rotate_left; (intro V hV; (try dsimp only at hV); go_simp; first | done | with_reducible rfl); (try simp only [Act.put, sI, sZ, sS])
    refine wpQuiet_nil ?_
    intro V9 h9
    (try dsimp only at h9)
    have HB9 := Lib.hid h9
    clear h9
    go_wp2_with fail
    go_ret
    exact ⟨ret_bool HF.out.symm, HGS.out.keep HB9.out, (Mod.of_below HB2.out).trans (Mod.of_below HB9.out) (fun _ _ e => e)⟩
  have H0 := Lib.hid h0
  clear h0
  cases h1 : (tk == 0)
  case false =>
    have HF : Hid (R = false) := Lib.hid (by rw [HR.out, H0.out, h1]; rfl)
    go_enter Tryz.func128, Tryz.ntmps128
    go_upto_region 1 with fail
    rw [← hW2]
    clear hW2
    refine wp_region_qC (C := fun V => Below (W2).heap.size (W2) V) (by kernel_rfl) (by kernel_rfl) (drewC (W2)) ?_
    refine wpqC (v := ?_) (by kernel_rfl) ?_ ?_; rotate_left; (intro V hV; (try dsimp only at hV); go_simp; first | done | with_reducible rfl); (try simp only [Act.put, sI, sZ, sS])
    refine wpqC (v := ?_) (by kernel_rfl) ?_ ?_; rotate_left; (intro V hV; (try dsimp only at hV); have gc := (hV.block _ (heap_lt HGC.out)).trans HGC.out; have x1 := cell_of_row (i := 1) gc rfl; go_simp; first | done | with_reducible rfl); (try simp only [Act.put, sI, sZ, sS])
    refine wpqC (v := .bool true) (by kernel_rfl) ?_ ?_; (· intro V hV; (try dsimp only at hV); go_simp; refine (within_any _ _ _ V).mono ?_; rintro e V2 ⟨rfl, rfl⟩; exact ⟨by rw [H0.out], hV⟩); (try simp only [Act.put, sI, sZ, sS])
    refine wpqC (v := ?_) (by kernel_rfl) ?_ ?_; rotate_left; (intro V hV; (try dsimp only at hV); go_simp; first | done | with_reducible rfl); (try simp only [Act.put, sI, sZ, sS])
    refine wpqC (v := ?_) (by kernel_rfl) ?_ ?_; rotate_left; (intro V hV; (try dsimp only at hV); go_simp; first | done | with_reducible rfl); (try simp only [Act.put, sI, sZ, sS])
    refine wpqC (v := ?_) (by kernel_rfl) ?_ ?_; rotate_left; (intro V hV; (try dsimp only at hV); go_simp; first | done | with_reducible rfl); (try simp only [Act.put, sI, sZ, sS])
    refine wpqC (v := ?_) (by kernel_rfl) ?_ ?_; rotate_left; (intro V hV; (try dsimp only at hV); have gc := (hV.block _ (heap_lt HGC.out)).trans HGC.out; have x3 := cell_of_row (i := 3) gc rfl; go_simp; first | done | with_reducible rfl); (try simp only [Act.put, sI, sZ, sS])
    refine wpqC (v := ?_) (by kernel_rfl) ?_ ?_; rotate_left; (intro V hV; (try dsimp only at hV); go_simp; first | done | with_reducible rfl); (try simp only [Act.put, sI, sZ, sS])
    refine wpqC (v := ?_) (by kernel_rfl) ?_ ?_; rotate_left; (intro V hV; (try dsimp only at hV); go_simp; first | done | with_reducible rfl); (try simp only [Act.put, sI, sZ, sS])
    refine wpqC (v := ?_) (by kernel_rfl) ?_ ?_; rotate_left; (intro V hV; (try dsimp only at hV); go_simp; first | done | with_reducible rfl); (try simp only [Act.put, sI, sZ, sS])
    refine wpqC_skip (by kernel_rfl) ?_; (try simp only [Act.put, sI, sZ, sS])
    refine wpqC_skip (by kernel_rfl) ?_; (try simp only [Act.put, sI, sZ, sS])
    refine wpqC_skip (by kernel_rfl) ?_; (try simp only [Act.put, sI, sZ, sS])
    refine wpqC (v := ?_) (by kernel_rfl) ?_ ?_; rotate_left; (intro V hV; (try dsimp only at hV); go_simp; first | done | with_reducible rfl); (try simp only [Act.put, sI, sZ, sS])
    refine wpqC (v := ?_) (by kernel_rfl) ?_ ?_; rotate_left; (intro V hV; (try dsimp only at hV); go_simp; first | done | with_reducible rfl); (try simp only [Act.put, sI, sZ, sS])
    refine wpqC_skip (by kernel_rfl) ?_; (try simp only [Act.put, sI, sZ, sS])
    refine wpqC_skip (by kernel_rfl) ?_; (try simp only [Act.put, sI, sZ, sS])
    refine wpqC_skip (by kernel_rfl) ?_; (try simp only [Act.put, sI, sZ, sS])
    refine wpqC_skip (by kernel_rfl) ?_; (try simp only [Act.put, sI, sZ, sS])
    refine wpqC (v := ?_) (by kernel_rfl) ?_ ?_; rotate_left; (intro V hV; (try dsimp only at hV); go_simp; first | done | with_reducible rfl); (try simp only [Act.put, sI, sZ, sS])
    refine wpqC (v := ?_) (by kernel_rfl) ?_ ?_; rotate_left; (intro V hV; (try dsimp only at hV); go_simp; first | done | with_reducible rfl); (try simp only [Act.put, sI, sZ, sS])
    refine wpqC_skip (by kernel_rfl) ?_; (try simp only [Act.put, sI, sZ, sS])
    refine wpqC_skip (by kernel_rfl) ?_; (try simp only [Act.put, sI, sZ, sS])
    refine wpqC_skip (by kernel_rfl) ?_; (try simp only [Act.put, sI, sZ, sS])
    refine wpqC_skip (by kernel_rfl) ?_; (try simp only [Act.put, sI, sZ, sS])
    refine wpqC_skip (by kernel_rfl) ?_; (try simp only [Act.put, sI, sZ, sS])
    refine wpqC_skip (by kernel_rfl) ?_; (try simp only [Act.put, sI, sZ, sS])
    refine wpqC_skip (by kernel_rfl) ?_; (try simp only [Act.put, sI, sZ, sS])
    refine wpqC_skip (by kernel_rfl) ?_; (try simp only [Act.put, sI, sZ, sS])
    refine wpqC (v := ?_) (by kernel_rfl) ?_ ?_; rotate_left; (intro V hV; (try dsimp only at hV); go_simp; first | done | with_reducible rfl); (try simp only [Act.put, sI, sZ, sS])
    refine wpqC (v := ?_) (by kernel_rfl) ?_ ?_; rotate_left; (intro V hV; (try dsimp only at hV); go_simp; first | done | with_reducible rfl); (try simp only [Act.put, sI, sZ, sS])
    refine wpqC_skip (by kernel_rfl) ?_; (try simp only [Act.put, sI, sZ, sS])
    refine wpqC_skip (by kernel_rfl) ?_; (try simp only [Act.put, sI, sZ, sS])
    refine wpqC_skip (by kernel_rfl) ?_; (try simp only [Act.put, sI, sZ, sS])
    refine wpqC_skip (by kernel_rfl) ?_; (try simp only [Act.put, sI, sZ, sS])
    refine wpqC_skip (by kernel_rfl) ?_; (try simp only [Act.put, sI, sZ, sS])
    refine wpqC_skip (by kernel_rfl) ?_; (try simp only [Act.put, sI, sZ, sS])
    refine wpqC_skip (by kernel_rfl) ?_; (try simp only [Act.put, sI, sZ, sS])
    refine wpqC_skip (by kernel_rfl) ?_; (try simp only [Act.put, sI, sZ, sS])
    refine wpqC_skip (by kernel_rfl) ?_; (try simp only [Act.put, sI, sZ, sS])
    refine wpqC_skip (by kernel_rfl) ?_; (try simp only [Act.put, sI, sZ, sS])
    refine wpqC_skip (by kernel_rfl) ?_; (try simp only [Act.put, sI, sZ, sS])
    refine wpqC_skip (by kernel_rfl) ?_; (try simp only [Act.put, sI, sZ, sS])
    refine wpqC_skip (by kernel_rfl) ?_; (try simp only [Act.put, sI, sZ, sS])
    refine wpqC (v := ?_) (by kernel_rfl) ?_ ?_; rotate_left; (intro V hV; (try dsimp only at hV); go_simp; first | done | with_reducible rfl); (try simp only [Act.put, sI, sZ, sS])
    refine wpqC (v := ?_) (by kernel_rfl) ?_ ?_; rotate_left; (intro V hV; (try dsimp only at hV); go_simp; first | done | with_reducible rfl); (try simp only [Act.put, sI, sZ, sS])
    refine wpqC_skip (by kernel_rfl) ?_; (try simp only [Act.put, sI, sZ, sS])
    refine wpqC_skip (by kernel_rfl) ?_; (try simp only [Act.put, sI, sZ, sS])
    refine wpqC_skip (by kernel_rfl) ?_; (try simp only [Act.put, sI, sZ, sS])
    refine wpqC_skip (by kernel_rfl) ?_; (try simp only [Act.put, sI, sZ, sS])
    refine wpqC (v := ?_) (by kernel_rfl) ?_ ?_; rotate_left; (intro V hV; (try dsimp only at hV); go_simp; first | done | with_reducible rfl); (try simp only [Act.put, sI, sZ, sS])
    refine wpqC (v := ?_) (by kernel_rfl) ?_ ?_; rotate_left; (intro V hV; (try dsimp only at hV); go_simp; first | done | with_reducible rfl); (try simp only [Act.put, sI, sZ, sS])
    refine wpQuiet_nil ?_
    intro V9 h9
    (try dsimp only at h9)
    have HB9 := Lib.hid h9
    clear h9
    go_wp2_with fail
    go_ret
    exact ⟨ret_bool HF.out.symm, HGS.out.keep HB9.out, (Mod.of_below HB2.out).trans (Mod.of_below HB9.out) (fun _ _ e => e)⟩
  cases h2 : (isT (.mk tk tn ts tt tl))
  case false =>
    have HF : Hid (R = false) := Lib.hid (by rw [HR.out, H0.out, h1, h2]; rfl)
    have H2 := Lib.hid h2
    clear h2
    go_enter Tryz.func128, Tryz.ntmps128
    go_upto_region 1 with fail
    rw [← hW2]
    clear hW2
    refine wp_region_qC (C := fun V => Below (W2).heap.size (W2) V) (by kernel_rfl) (by kernel_rfl) (drewC (W2)) ?_
    refine wpqC (v := ?_) (by kernel_rfl) ?_ ?_; rotate_left; (intro V hV; (try dsimp only at hV); go_simp; first | done | with_reducible rfl); (try simp only [Act.put, sI, sZ, sS])
    refine wpqC (v := ?_) (by kernel_rfl) ?_ ?_; rotate_left; (intro V hV; (try dsimp only at hV); have gc := (hV.block _ (heap_lt HGC.out)).trans HGC.out; have x1 := cell_of_row (i := 1) gc rfl; go_simp; first | done | with_reducible rfl); (try simp only [Act.put, sI, sZ, sS])
    refine wpqC (v := .bool true) (by kernel_rfl) ?_ ?_; (· intro V hV; (try dsimp only at hV); go_simp; refine (within_any _ _ _ V).mono ?_; rintro e V2 ⟨rfl, rfl⟩; exact ⟨by rw [H0.out], hV⟩); (try simp only [Act.put, sI, sZ, sS])
    refine wpqC (v := ?_) (by kernel_rfl) ?_ ?_; rotate_left; (intro V hV; (try dsimp only at hV); go_simp; first | done | with_reducible rfl); (try simp only [Act.put, sI, sZ, sS])
    refine wpqC (v := ?_) (by kernel_rfl) ?_ ?_; rotate_left; (intro V hV; (try dsimp only at hV); go_simp; first | done | with_reducible rfl); (try simp only [Act.put, sI, sZ, sS])
    refine wpqC (v := ?_) (by kernel_rfl) ?_ ?_; rotate_left; (intro V hV; (try dsimp only at hV); go_simp; first | done | with_reducible rfl); (try simp only [Act.put, sI, sZ, sS])
    refine wpqC (v := ?_) (by kernel_rfl) ?_ ?_; rotate_left; (intro V hV; (try dsimp only at hV); have gc := (hV.block _ (heap_lt HGC.out)).trans HGC.out; have x3 := cell_of_row (i := 3) gc rfl; go_simp; first | done | with_reducible rfl); (try simp only [Act.put, sI, sZ, sS])
    refine wpqC (v := ?_) (by kernel_rfl) ?_ ?_; rotate_left; (intro V hV; (try dsimp only at hV); go_simp; first | done | with_reducible rfl); (try simp only [Act.put, sI, sZ, sS])
    refine wpqC (v := ?_) (by kernel_rfl) ?_ ?_; rotate_left; (intro V hV; (try dsimp only at hV); go_simp; first | done | with_reducible rfl); (try simp only [Act.put, sI, sZ, sS])
    refine wpqC (v := ?_) (by kernel_rfl) ?_ ?_; rotate_left; (intro V hV; (try dsimp only at hV); go_simp; first | done | with_reducible rfl); (try simp only [Act.put, sI, sZ, sS])
    refine wpqC (v := ?_) (by kernel_rfl) ?_ ?_; rotate_left; (intro V hV; (try dsimp only at hV); go_simp; first | done | with_reducible rfl); (try simp only [Act.put, sI, sZ, sS])
    refine wpqC (v := ?_) (by kernel_rfl) ?_ ?_; rotate_left; (intro V hV; (try dsimp only at hV); have gc := (hV.block _ (heap_lt HGC.out)).trans HGC.out; have x3 := cell_of_row (i := 3) gc rfl; have x4 := cell_of_row (i := 4) gc rfl; have x5 := cell_of_row (i := 5) gc rfl; have x6 := cell_of_row (i := 6) gc rfl; have x7 := cell_of_row (i := 7) gc rfl; go_simp; first | done | with_reducible rfl); (try simp only [Act.put, sI, sZ, sS])
    refine wpqC (v := .bool false) (by kernel_rfl) ?_ ?_; (· intro V hV; (try dsimp only at hV); go_simp; refine (isTerm_any (.mk tk tn ts tt tl) _ V (HT.out.modL (Mod.of_below hV)).loLt (spansB (HE.out.under (hV.mono HE.out.le)))).mono ?_; rintro e V2 ⟨rfl, b2⟩; exact ⟨by rw [H2.out], hV.trans (b2.mono hV.size)⟩); (try simp only [Act.put, sI, sZ, sS])
    refine wpqC (v := ?_) (by kernel_rfl) ?_ ?_; rotate_left; (intro V hV; (try dsimp only at hV); go_simp; first | done | with_reducible rfl); (try simp only [Act.put, sI, sZ, sS])
    refine wpqC (v := ?_) (by kernel_rfl) ?_ ?_; rotate_left; (intro V hV; (try dsimp only at hV); go_simp; first | done | with_reducible rfl); (try simp only [Act.put, sI, sZ, sS])
    refine wpqC_skip (by kernel_rfl) ?_; (try simp only [Act.put, sI, sZ, sS])
    refine wpqC_skip (by kernel_rfl) ?_; (try simp only [Act.put, sI, sZ, sS])
    refine wpqC_skip (by kernel_rfl) ?_; (try simp only [Act.put, sI, sZ, sS])
    refine wpqC_skip (by kernel_rfl) ?_; (try simp only [Act.put, sI, sZ, sS])
    refine wpqC (v := ?_) (by kernel_rfl) ?_ ?_; rotate_left; (intro V hV; (try dsimp only at hV); go_simp; first | done | with_reducible rfl); (try simp only [Act.put, sI, sZ, sS])
    refine wpqC (v := ?_) (by kernel_rfl) ?_ ?_; rotate_left; (intro V hV; (try dsimp only at hV); go_simp; first | done | with_reducible rfl); (try simp only [Act.put, sI, sZ, sS])
    refine wpqC_skip (by kernel_rfl) ?_; (try simp only [Act.put, sI, sZ, sS])
    refine wpqC_skip (by kernel_rfl) ?_; (try simp only [Act.put, sI, sZ, sS])
    refine wpqC_skip (by kernel_rfl) ?_; (try simp only [Act.put, sI, sZ, sS])
    refine wpqC_skip (by kernel_rfl) ?_; (try simp only [Act.put, sI, sZ, sS])
    refine wpqC_skip (by kernel_rfl) ?_; (try simp only [Act.put, sI, sZ, sS])
    refine wpqC_skip (by kernel_rfl) ?_; (try simp only [Act.put, sI, sZ, sS])
    refine wpqC_skip (by kernel_rfl) ?_; (try simp only [Act.put, sI, sZ, sS])
    refine wpqC_skip (by kernel_rfl) ?_; (try simp only [Act.put, sI, sZ, sS])
    refine wpqC (v := ?_) (by kernel_rfl) ?_ ?_; rotate_left; (intro V hV; (try dsimp only at hV); go_simp; first | done | with_reducible rfl); (try simp only [Act.put, sI, sZ, sS])
    refine wpqC (v := ?_) (by kernel_rfl) ?_ ?_; rotate_left; (intro V hV; (try dsimp only at hV); go_simp; first | done | with_reducible rfl); (try simp only [Act.put, sI, sZ, sS])
    refine wpqC_skip (by kernel_rfl) ?_; (try simp only [Act.put, sI, sZ, sS])
    refine wpqC_skip (by kernel_rfl) ?_; (try simp only [Act.put, sI, sZ, sS])
    refine wpqC_skip (by kernel_rfl) ?_; (try simp only [Act.put, sI, sZ, sS])
    refine wpqC_skip (by kernel_rfl) ?_; (try simp only [Act.put, sI, sZ, sS])
    refine wpqC_skip (by kernel_rfl) ?_; (try simp only [Act.put, sI, sZ, sS])
    refine wpqC_skip (by kernel_rfl) ?_; (try simp only [Act.put, sI, sZ, sS])
    refine wpqC_skip (by kernel_rfl) ?_; (try simp only [Act.put, sI, sZ, sS])
    refine wpqC_skip (by kernel_rfl) ?_; (try simp only [Act.put, sI, sZ, sS])
    refine wpqC_skip (by kernel_rfl) ?_; (try simp only [Act.put, sI, sZ, sS])
    refine wpqC_skip (by kernel_rfl) ?_; (try simp only [Act.put, sI, sZ, sS])
    refine wpqC_skip (by kernel_rfl) ?_; (try simp only [Act.put, sI, sZ, sS])
    refine wpqC_skip (by kernel_rfl) ?_; (try simp only [Act.put, sI, sZ, sS])
    refine wpqC_skip (by kernel_rfl) ?_; (try simp only [Act.put, sI, sZ, sS])
    refine wpqC (v := ?_) (by kernel_rfl) ?_ ?_; rotate_left; (intro V hV; (try dsimp only at hV); go_simp; first | done | with_reducible rfl); (try simp only [Act.put, sI, sZ, sS])
    refine wpqC (v := ?_) (by kernel_rfl) ?_ ?_; rotate_left; (intro V hV; (try dsimp only at hV); go_simp; first | done | with_reducible rfl); (try simp only [Act.put, sI, sZ, sS])
    refine wpqC_skip (by kernel_rfl) ?_; (try simp only [Act.put, sI, sZ, sS])
    refine wpqC_skip (by kernel_rfl) ?_; (try simp only [Act.put, sI, sZ, sS])
    refine wpqC_skip (by kernel_rfl) ?_; (try simp only [Act.put, sI, sZ, sS])
    refine wpqC_skip (by kernel_rfl) ?_; (try simp only [Act.put, sI, sZ, sS])
    refine wpqC (v := ?_) (by kernel_rfl) ?_ ?_; rotate_left; (intro V hV; (try dsimp only at hV); go_simp; first | done | with_reducible rfl); (try simp only [Act.put, sI, sZ, sS])
    refine wpqC (v := ?_) (by kernel_rfl) ?_ ?_; rotate_left; (intro V hV; (try dsimp only at hV); go_simp; first | done | with_reducible rfl); (try simp only [Act.put, sI, sZ, sS])
    refine wpQuiet_nil ?_
    intro V9 h9
    (try dsimp only at h9)
    have HB9 := Lib.hid h9
    clear h9
    go_wp2_with fail
    go_ret
    exact ⟨ret_bool HF.out.symm, HGS.out.keep HB9.out, (Mod.of_below HB2.out).trans (Mod.of_below HB9.out) (fun _ _ e => e)⟩
  have H2 := Lib.hid h2
  clear h2
  cases h3 : (withinB tn 0 32)
  case false =>
    have HF : Hid (R = false) := Lib.hid (by rw [HR.out, H0.out, h1, H2.out, h3]; rfl)
    have H3 := Lib.hid h3
    clear h3
    go_enter Tryz.func128, Tryz.ntmps128
    go_upto_region 1 with fail
    rw [← hW2]
    clear hW2
    refine wp_region_qC (C := fun V => Below (W2).heap.size (W2) V) (by kernel_rfl) (by kernel_rfl) (drewC (W2)) ?_
    refine wpqC (v := ?_) (by kernel_rfl) ?_ ?_; rotate_left; (intro V hV; (try dsimp only at hV); go_simp; first | done | with_reducible rfl); (try simp only [Act.put, sI, sZ, sS])
    refine wpqC (v := ?_) (by kernel_rfl) ?_ ?_; rotate_left; (intro V hV; (try dsimp only at hV); have gc := (hV.block _ (heap_lt HGC.out)).trans HGC.out; have x1 := cell_of_row (i := 1) gc rfl; go_simp; first | done | with_reducible rfl); (try simp only [Act.put, sI, sZ, sS])
    refine wpqC (v := .bool true) (by kernel_rfl) ?_ ?_; (· intro V hV; (try dsimp only at hV); go_simp; refine (within_any _ _ _ V).mono ?_; rintro e V2 ⟨rfl, rfl⟩; exact ⟨by rw [H0.out], hV⟩); (try simp only [Act.put, sI, sZ, sS])
    refine wpqC (v := ?_) (by kernel_rfl) ?_ ?_; rotate_left; (intro V hV; (try dsimp only at hV); go_simp; first | done | with_reducible rfl); (try simp only [Act.put, sI, sZ, sS])
    refine wpqC (v := ?_) (by kernel_rfl) ?_ ?_; rotate_left; (intro V hV; (try dsimp only at hV); go_simp; first | done | with_reducible rfl); (try simp only [Act.put, sI, sZ, sS])
    refine wpqC (v := ?_) (by kernel_rfl) ?_ ?_; rotate_left; (intro V hV; (try dsimp only at hV); go_simp; first | done | with_reducible rfl); (try simp only [Act.put, sI, sZ, sS])
    refine wpqC (v := ?_) (by kernel_rfl) ?_ ?_; rotate_left; (intro V hV; (try dsimp only at hV); have gc := (hV.block _ (heap_lt HGC.out)).trans HGC.out; have x3 := cell_of_row (i := 3) gc rfl; go_simp; first | done | with_reducible rfl); (try simp only [Act.put, sI, sZ, sS])
    refine wpqC (v := ?_) (by kernel_rfl) ?_ ?_; rotate_left; (intro V hV; (try dsimp only at hV); go_simp; first | done | with_reducible rfl); (try simp only [Act.put, sI, sZ, sS])
    refine wpqC (v := ?_) (by kernel_rfl) ?_ ?_; rotate_left; (intro V hV; (try dsimp only at hV); go_simp; first | done | with_reducible rfl); (try simp only [Act.put, sI, sZ, sS])
    refine wpqC (v := ?_) (by kernel_rfl) ?_ ?_; rotate_left; (intro V hV; (try dsimp only at hV); go_simp; first | done | with_reducible rfl); (try simp only [Act.put, sI, sZ, sS])
    refine wpqC (v := ?_) (by kernel_rfl) ?_ ?_; rotate_left; (intro V hV; (try dsimp only at hV); go_simp; first | done | with_reducible rfl); (try simp only [Act.put, sI, sZ, sS])
    refine wpqC (v := ?_) (by kernel_rfl) ?_ ?_; rotate_left; (intro V hV; (try dsimp only at hV); have gc := (hV.block _ (heap_lt HGC.out)).trans HGC.out; have x3 := cell_of_row (i := 3) gc rfl; have x4 := cell_of_row (i := 4) gc rfl; have x5 := cell_of_row (i := 5) gc rfl; have x6 := cell_of_row (i := 6) gc rfl; have x7 := cell_of_row (i := 7) gc rfl; go_simp; first | done | with_reducible rfl); (try simp only [Act.put, sI, sZ, sS])
    refine wpqC (v := .bool true) (by kernel_rfl) ?_ ?_; (· intro V hV; (try dsimp only at hV); go_simp; refine (isTerm_any (.mk tk tn ts tt tl) _ V (HT.out.modL (Mod.of_below hV)).loLt (spansB (HE.out.under (hV.mono HE.out.le)))).mono ?_; rintro e V2 ⟨rfl, b2⟩; exact ⟨by rw [H2.out], hV.trans (b2.mono hV.size)⟩); (try simp only [Act.put, sI, sZ, sS])
    refine wpqC (v := ?_) (by kernel_rfl) ?_ ?_; rotate_left; (intro V hV; (try dsimp only at hV); go_simp; first | done | with_reducible rfl); (try simp only [Act.put, sI, sZ, sS])
    refine wpqC (v := ?_) (by kernel_rfl) ?_ ?_; rotate_left; (intro V hV; (try dsimp only at hV); go_simp; first | done | with_reducible rfl); (try simp only [Act.put, sI, sZ, sS])
    refine wpqC (v := ?_) (by kernel_rfl) ?_ ?_; rotate_left; (intro V hV; (try dsimp only at hV); go_simp; first | done | with_reducible rfl); (try simp only [Act.put, sI, sZ, sS])
    refine wpqC (v := ?_) (by kernel_rfl) ?_ ?_; rotate_left; (intro V hV; (try dsimp only at hV); go_simp; first | done | with_reducible rfl); (try simp only [Act.put, sI, sZ, sS])
    refine wpqC (v := ?_) (by kernel_rfl) ?_ ?_; rotate_left; (intro V hV; (try dsimp only at hV); have gc := (hV.block _ (heap_lt HGC.out)).trans HGC.out; have x4 := cell_of_row (i := 4) gc rfl; go_simp; first | done | with_reducible rfl); (try simp only [Act.put, sI, sZ, sS])
    refine wpqC (v := .bool false) (by kernel_rfl) ?_ ?_; (· intro V hV; (try dsimp only at hV); go_simp; refine (within_any _ _ _ V).mono ?_; rintro e V2 ⟨rfl, rfl⟩; exact ⟨by rw [H3.out], hV⟩); (try simp only [Act.put, sI, sZ, sS])
    refine wpqC (v := ?_) (by kernel_rfl) ?_ ?_; rotate_left; (intro V hV; (try dsimp only at hV); go_simp; first | done | with_reducible rfl); (try simp only [Act.put, sI, sZ, sS])
    refine wpqC (v := ?_) (by kernel_rfl) ?_ ?_; rotate_left; (intro V hV; (try dsimp only at hV); go_simp; first | done | with_reducible rfl); (try simp only [Act.put, sI, sZ, sS])
    refine wpqC_skip (by kernel_rfl) ?_; (try simp only [Act.put, sI, sZ, sS])
    refine wpqC_skip (by kernel_rfl) ?_; (try simp only [Act.put, sI, sZ, sS])
    refine wpqC_skip (by kernel_rfl) ?_; (try simp only [Act.put, sI, sZ, sS])
    refine wpqC_skip (by kernel_rfl) ?_; (try simp only [Act.put, sI, sZ, sS])
    refine wpqC_skip (by kernel_rfl) ?_; (try simp only [Act.put, sI, sZ, sS])
    refine wpqC_skip (by kernel_rfl) ?_; (try simp only [Act.put, sI, sZ, sS])
    refine wpqC_skip (by kernel_rfl) ?_; (try simp only [Act.put, sI, sZ, sS])
    refine wpqC_skip (by kernel_rfl) ?_; (try simp only [Act.put, sI, sZ, sS])
    refine wpqC (v := ?_) (by kernel_rfl) ?_ ?_; rotate_left; (intro V hV; (try dsimp only at hV); go_simp; first | done | with_reducible rfl); (try simp only [Act.put, sI, sZ, sS])
    refine wpqC (v := ?_) (by kernel_rfl) ?_ ?_; rotate_left; (intro V hV; (try dsimp only at hV); go_simp; first | done | with_reducible rfl); (try simp only [Act.put, sI, sZ, sS])
    refine wpqC_skip (by kernel_rfl) ?_; (try simp only [Act.put, sI, sZ, sS])
    refine wpqC_skip (by kernel_rfl) ?_; (try simp only [Act.put, sI, sZ, sS])
    refine wpqC_skip (by kernel_rfl) ?_; (try simp only [Act.put, sI, sZ, sS])
    refine wpqC_skip (by kernel_rfl) ?_; (try simp only [Act.put, sI, sZ, sS])
    refine wpqC_skip (by kernel_rfl) ?_; (try simp only [Act.put, sI, sZ, sS])
    refine wpqC_skip (by kernel_rfl) ?_; (try simp only [Act.put, sI, sZ, sS])
    refine wpqC_skip (by kernel_rfl) ?_; (try simp only [Act.put, sI, sZ, sS])
    refine wpqC_skip (by kernel_rfl) ?_; (try simp only [Act.put, sI, sZ, sS])
    refine wpqC_skip (by kernel_rfl) ?_; (try simp only [Act.put, sI, sZ, sS])
    refine wpqC_skip (by kernel_rfl) ?_; (try simp only [Act.put, sI, sZ, sS])
    refine wpqC_skip (by kernel_rfl) ?_; (try simp only [Act.put, sI, sZ, sS])
    refine wpqC_skip (by kernel_rfl) ?_; (try simp only [Act.put, sI, sZ, sS])
    refine wpqC_skip (by kernel_rfl) ?_; (try simp only [Act.put, sI, sZ, sS])
    refine wpqC (v := ?_) (by kernel_rfl) ?_ ?_; rotate_left; (intro V hV; (try dsimp only at hV); go_simp; first | done | with_reducible rfl); (try simp only [Act.put, sI, sZ, sS])
    refine wpqC (v := ?_) (by kernel_rfl) ?_ ?_; rotate_left; (intro V hV; (try dsimp only at hV); go_simp; first | done | with_reducible rfl); (try simp only [Act.put, sI, sZ, sS])
    refine wpqC_skip (by kernel_rfl) ?_; (try simp only [Act.put, sI, sZ, sS])
    refine wpqC_skip (by kernel_rfl) ?_; (try simp only [Act.put, sI, sZ, sS])
    refine wpqC_skip (by kernel_rfl) ?_; (try simp only [Act.put, sI, sZ, sS])
    refine wpqC_skip (by kernel_rfl) ?_; (try simp only [Act.put, sI, sZ, sS])
    refine wpqC (v := ?_) (by kernel_rfl) ?_ ?_; rotate_left; (intro V hV; (try dsimp only at hV); go_simp; first | done | with_reducible rfl); (try simp only [Act.put, sI, sZ, sS])
    refine wpqC (v := ?_) (by kernel_rfl) ?_ ?_; rotate_left; (intro V hV; (try dsimp only at hV); go_simp; first | done | with_reducible rfl); (try simp only [Act.put, sI, sZ, sS])
    refine wpQuiet_nil ?_
    intro V9 h9
    (try dsimp only at h9)
    have HB9 := Lib.hid h9
    clear h9
    go_wp2_with fail
    go_ret
    exact ⟨ret_bool HF.out.symm, HGS.out.keep HB9.out, (Mod.of_below HB2.out).trans (Mod.of_below HB9.out) (fun _ _ e => e)⟩
  have H3 := Lib.hid h3
  clear h3
  cases h4 : (withinB b 0 ((x.tab.length : Int) - 1))
  case false =>
    have HF : Hid (R = false) := Lib.hid (by rw [HR.out, H0.out, h1, H2.out, H3.out, h4]; rfl)
    have H4 := Lib.hid h4
    clear h4
    go_enter Tryz.func128, Tryz.ntmps128
    go_upto_region 1 with fail
    rw [← hW2]
    clear hW2
    refine wp_region_qC (C := fun V => Below (W2).heap.size (W2) V) (by kernel_rfl) (by kernel_rfl) (drewC (W2)) ?_
    refine wpqC (v := ?_) (by kernel_rfl) ?_ ?_; rotate_left; (intro V hV; (try dsimp only at hV); go_simp; first | done | with_reducible rfl); (try simp only [Act.put, sI, sZ, sS])
    refine wpqC (v := ?_) (by kernel_rfl) ?_ ?_; rotate_left; (intro V hV; (try dsimp only at hV); have gc := (hV.block _ (heap_lt HGC.out)).trans HGC.out; have x1 := cell_of_row (i := 1) gc rfl; go_simp; first | done | with_reducible rfl); (try simp only [Act.put, sI, sZ, sS])
    refine wpqC (v := .bool true) (by kernel_rfl) ?_ ?_; (· intro V hV; (try dsimp only at hV); go_simp; refine (within_any _ _ _ V).mono ?_; rintro e V2 ⟨rfl, rfl⟩; exact ⟨by rw [H0.out], hV⟩); (try simp only [Act.put, sI, sZ, sS])
    refine wpqC (v := ?_) (by kernel_rfl) ?_ ?_; rotate_left; (intro V hV; (try dsimp only at hV); go_simp; first | done | with_reducible rfl); (try simp only [Act.put, sI, sZ, sS])
    refine wpqC (v := ?_) (by kernel_rfl) ?_ ?_; rotate_left; (intro V hV; (try dsimp only at hV); go_simp; first | done | with_reducible rfl); (try simp only [Act.put, sI, sZ, sS])
    refine wpqC (v := ?_) (by kernel_rfl) ?_ ?_; rotate_left; (intro V hV; (try dsimp only at hV); go_simp; first | done | with_reducible rfl); (try simp only [Act.put, sI, sZ, sS])
    refine wpqC (v := ?_) (by kernel_rfl) ?_ ?_; rotate_left; (intro V hV; (try dsimp only at hV); have gc := (hV.block _ (heap_lt HGC.out)).trans HGC.out; have x3 := cell_of_row (i := 3) gc rfl; go_simp; first | done | with_reducible rfl); (try simp only [Act.put, sI, sZ, sS])
    refine wpqC (v := ?_) (by kernel_rfl) ?_ ?_; rotate_left; (intro V hV; (try dsimp only at hV); go_simp; first | done | with_reducible rfl); (try simp only [Act.put, sI, sZ, sS])
    refine wpqC (v := ?_) (by kernel_rfl) ?_ ?_; rotate_left; (intro V hV; (try dsimp only at hV); go_simp; first | done | with_reducible rfl); (try simp only [Act.put, sI, sZ, sS])
    refine wpqC (v := ?_) (by kernel_rfl) ?_ ?_; rotate_left; (intro V hV; (try dsimp only at hV); go_simp; first | done | with_reducible rfl); (try simp only [Act.put, sI, sZ, sS])
    refine wpqC (v := ?_) (by kernel_rfl) ?_ ?_; rotate_left; (intro V hV; (try dsimp only at hV); go_simp; first | done | with_reducible rfl); (try simp only [Act.put, sI, sZ, sS])
    refine wpqC (v := ?_) (by kernel_rfl) ?_ ?_; rotate_left; (intro V hV; (try dsimp only at hV); have gc := (hV.block _ (heap_lt HGC.out)).trans HGC.out; have x3 := cell_of_row (i := 3) gc rfl; have x4 := cell_of_row (i := 4) gc rfl; have x5 := cell_of_row (i := 5) gc rfl; have x6 := cell_of_row (i := 6) gc rfl; have x7 := cell_of_row (i := 7) gc rfl; go_simp; first | done | with_reducible rfl); (try simp only [Act.put, sI, sZ, sS])
    refine wpqC (v := .bool true) (by kernel_rfl) ?_ ?_; (· intro V hV; (try dsimp only at hV); go_simp; refine (isTerm_any (.mk tk tn ts tt tl) _ V (HT.out.modL (Mod.of_below hV)).loLt (spansB (HE.out.under (hV.mono HE.out.le)))).mono ?_; rintro e V2 ⟨rfl, b2⟩; exact ⟨by rw [H2.out], hV.trans (b2.mono hV.size)⟩); (try simp only [Act.put, sI, sZ, sS])
    refine wpqC (v := ?_) (by kernel_rfl) ?_ ?_; rotate_left; (intro V hV; (try dsimp only at hV); go_simp; first | done | with_reducible rfl); (try simp only [Act.put, sI, sZ, sS])
    refine wpqC (v := ?_) (by kernel_rfl) ?_ ?_; rotate_left; (intro V hV; (try dsimp only at hV); go_simp; first | done | with_reducible rfl); (try simp only [Act.put, sI, sZ, sS])
    refine wpqC (v := ?_) (by kernel_rfl) ?_ ?_; rotate_left; (intro V hV; (try dsimp only at hV); go_simp; first | done | with_reducible rfl); (try simp only [Act.put, sI, sZ, sS])
    refine wpqC (v := ?_) (by kernel_rfl) ?_ ?_; rotate_left; (intro V hV; (try dsimp only at hV); go_simp; first | done | with_reducible rfl); (try simp only [Act.put, sI, sZ, sS])
    refine wpqC (v := ?_) (by kernel_rfl) ?_ ?_; rotate_left; (intro V hV; (try dsimp only at hV); have gc := (hV.block _ (heap_lt HGC.out)).trans HGC.out; have x4 := cell_of_row (i := 4) gc rfl; go_simp; first | done | with_reducible rfl); (try simp only [Act.put, sI, sZ, sS])
    refine wpqC (v := .bool true) (by kernel_rfl) ?_ ?_; (· intro V hV; (try dsimp only at hV); go_simp; refine (within_any _ _ _ V).mono ?_; rintro e V2 ⟨rfl, rfl⟩; exact ⟨by rw [H3.out], hV⟩); (try simp only [Act.put, sI, sZ, sS])
    refine wpqC (v := ?_) (by kernel_rfl) ?_ ?_; rotate_left; (intro V hV; (try dsimp only at hV); go_simp; first | done | with_reducible rfl); (try simp only [Act.put, sI, sZ, sS])
    refine wpqC (v := ?_) (by kernel_rfl) ?_ ?_; rotate_left; (intro V hV; (try dsimp only at hV); go_simp; first | done | with_reducible rfl); (try simp only [Act.put, sI, sZ, sS])
    refine wpqC (v := ?_) (by kernel_rfl) ?_ ?_; rotate_left; (intro V hV; (try dsimp only at hV); go_simp; first | done | with_reducible rfl); (try simp only [Act.put, sI, sZ, sS])
    refine wpqC (v := ?_) (by kernel_rfl) ?_ ?_; rotate_left; (intro V hV; (try dsimp only at hV); have gc := (hV.block _ (heap_lt HGC.out)).trans HGC.out; have x2 := cell_of_row (i := 2) gc rfl; go_simp; first | done | with_reducible rfl); (try simp only [Act.put, sI, sZ, sS])
    refine wpqC (v := ?_) (by kernel_rfl) ?_ ?_; rotate_left; (intro V hV; (try dsimp only at hV); go_simp; first | done | with_reducible rfl); (try simp only [Act.put, sI, sZ, sS])
    refine wpqC (v := ?_) (by kernel_rfl) ?_ ?_; rotate_left; (intro V hV; (try dsimp only at hV); go_simp; first | done | with_reducible rfl); (try simp only [Act.put, sI, sZ, sS])
    refine wpqC (v := ?_) (by kernel_rfl) ?_ ?_; rotate_left; (intro V hV; (try dsimp only at hV); have gk := (hV.block _ (heap_lt HGK.out)).trans HGK.out; have y2 := cell_of_row (i := 2) gk rfl; go_simp; first | done | with_reducible rfl); (try simp only [Act.put, sI, sZ, sS])
    refine wpqC (v := ?_) (by kernel_rfl) ?_ ?_; rotate_left; (intro V hV; (try dsimp only at hV); go_simp; first | done | with_reducible rfl); (try simp only [Act.put, sI, sZ, sS])
    refine wpqC (v := ?_) (by kernel_rfl) ?_ ?_; rotate_left; (intro V hV; (try dsimp only at hV); go_simp; first | done | with_reducible rfl); (try simp only [Act.put, sI, sZ, sS])
    refine wpqC (v := .bool false) (by kernel_rfl) ?_ ?_; (· intro V hV; (try dsimp only at hV); go_simp; refine (within_any _ _ _ V).mono ?_; rintro e V2 ⟨rfl, rfl⟩; exact ⟨by rw [HW.out, H4.out], hV⟩); (try simp only [Act.put, sI, sZ, sS])
    refine wpqC (v := ?_) (by kernel_rfl) ?_ ?_; rotate_left; (intro V hV; (try dsimp only at hV); go_simp; first | done | with_reducible rfl); (try simp only [Act.put, sI, sZ, sS])
    refine wpqC (v := ?_) (by kernel_rfl) ?_ ?_; rotate_left; (intro V hV; (try dsimp only at hV); go_simp; first | done | with_reducible rfl); (try simp only [Act.put, sI, sZ, sS])
    refine wpqC_skip (by kernel_rfl) ?_; (try simp only [Act.put, sI, sZ, sS])
    refine wpqC_skip (by kernel_rfl) ?_; (try simp only [Act.put, sI, sZ, sS])
    refine wpqC_skip (by kernel_rfl) ?_; (try simp only [Act.put, sI, sZ, sS])
    refine wpqC_skip (by kernel_rfl) ?_; (try simp only [Act.put, sI, sZ, sS])
    refine wpqC_skip (by kernel_rfl) ?_; (try simp only [Act.put, sI, sZ, sS])
    refine wpqC_skip (by kernel_rfl) ?_; (try simp only [Act.put, sI, sZ, sS])
    refine wpqC_skip (by kernel_rfl) ?_; (try simp only [Act.put, sI, sZ, sS])
    refine wpqC_skip (by kernel_rfl) ?_; (try simp only [Act.put, sI, sZ, sS])
    refine wpqC_skip (by kernel_rfl) ?_; (try simp only [Act.put, sI, sZ, sS])
    refine wpqC_skip (by kernel_rfl) ?_; (try simp only [Act.put, sI, sZ, sS])
    refine wpqC_skip (by kernel_rfl) ?_; (try simp only [Act.put, sI, sZ, sS])
    refine wpqC_skip (by kernel_rfl) ?_; (try simp only [Act.put, sI, sZ, sS])
    refine wpqC_skip (by kernel_rfl) ?_; (try simp only [Act.put, sI, sZ, sS])
    refine wpqC (v := ?_) (by kernel_rfl) ?_ ?_; rotate_left; (intro V hV; (try dsimp only at hV); go_simp; first | done | with_reducible rfl); (try simp only [Act.put, sI, sZ, sS])
    refine wpqC (v := ?_) (by kernel_rfl) ?_ ?_; rotate_left; (intro V hV; (try dsimp only at hV); go_simp; first | done | with_reducible rfl); (try simp only [Act.put, sI, sZ, sS])
    refine wpqC_skip (by kernel_rfl) ?_; (try simp only [Act.put, sI, sZ, sS])
    refine wpqC_skip (by kernel_rfl) ?_; (try simp only [Act.put, sI, sZ, sS])
    refine wpqC_skip (by kernel_rfl) ?_; (try simp only [Act.put, sI, sZ, sS])
    refine wpqC_skip (by kernel_rfl) ?_; (try simp only [Act.put, sI, sZ, sS])
    refine wpqC (v := ?_) (by kernel_rfl) ?_ ?_; rotate_left; (intro V hV; (try dsimp only at hV); go_simp; first | done | with_reducible rfl); (try simp only [Act.put, sI, sZ, sS])
    refine wpqC (v := ?_) (by kernel_rfl) ?_ ?_; rotate_left; (intro V hV; (try dsimp only at hV); go_simp; first | done | with_reducible rfl); (try simp only [Act.put, sI, sZ, sS])
    refine wpQuiet_nil ?_
    intro V9 h9
    (try dsimp only at h9)
    have HB9 := Lib.hid h9
    clear h9
    go_wp2_with fail
    go_ret
    exact ⟨ret_bool HF.out.symm, HGS.out.keep HB9.out, (Mod.of_below HB2.out).trans (Mod.of_below HB9.out) (fun _ _ e => e)⟩
  have h9 : (0 : Int) ≤ b ∧ b ≤ (x.tab.length : Int) - 1 := by unfold withinB at h4; simpa using h4
  obtain ⟨q, rfl⟩ : ∃ q : Nat, b = q := ⟨b.toNat, by omega⟩
  obtain ⟨tb, htb⟩ : ∃ tb, x.tab[q]? = some tb := ⟨x.tab[q]'(by omega), List.getElem?_eq_getElem _⟩
  obtain ⟨ad, BB, mm, hA, had, hcc, hN⟩ := HX.out.tab.at_ q tb htb
  subst hA
  have htm := hN.max
  unfold maxLen at htm
  have HR2 : Hid (R = (((tb.length : Int) == (l.length : Int) + 1) && l.all takesB)) := Lib.hid (by
    rw [HR.out, H0.out, h1, H2.out, H3.out, h4, show ((q : Int)).toNat = q from rfl, htb]
    simp only [Bool.true_and]
    congr 1
    rw [Bool.eq_iff_iff, beq_iff_eq, beq_iff_eq]; omega)
  have HAD := Lib.hid had
  have HE2 := Lib.hid hcc
  have i1 : (q : Int) < (x.tab.length : Int) := by omega
  have i0 : (0 : Int) ≤ (q : Int) := by omega
  have H4 := Lib.hid h4
  clear HR htb h9 had hN hcc h4
  have HR := HR2
  clear HR2
  cases h5 : ((tb.length : Int) == (l.length : Int) + 1)
  case false =>
    have HF : Hid (R = false) := Lib.hid (by rw [HR.out, h5]; rfl)
    go_enter Tryz.func128, Tryz.ntmps128
    go_upto_region 1 with fail
    rw [← hW2]
    clear hW2
    refine wp_region_qC (C := fun V => Below (W2).heap.size (W2) V) (by kernel_rfl) (by kernel_rfl) (drewC (W2)) ?_
    refine wpqC (v := ?_) (by kernel_rfl) ?_ ?_; rotate_left; (intro V hV; (try dsimp only at hV); go_simp; first | done | with_reducible rfl); (try simp only [Act.put, sI, sZ, sS])
    refine wpqC (v := ?_) (by kernel_rfl) ?_ ?_; rotate_left; (intro V hV; (try dsimp only at hV); have gc := (hV.block _ (heap_lt HGC.out)).trans HGC.out; have x1 := cell_of_row (i := 1) gc rfl; go_simp; first | done | with_reducible rfl); (try simp only [Act.put, sI, sZ, sS])
    refine wpqC (v := .bool true) (by kernel_rfl) ?_ ?_; (· intro V hV; (try dsimp only at hV); go_simp; refine (within_any _ _ _ V).mono ?_; rintro e V2 ⟨rfl, rfl⟩; exact ⟨by rw [H0.out], hV⟩); (try simp only [Act.put, sI, sZ, sS])
    refine wpqC (v := ?_) (by kernel_rfl) ?_ ?_; rotate_left; (intro V hV; (try dsimp only at hV); go_simp; first | done | with_reducible rfl); (try simp only [Act.put, sI, sZ, sS])
    refine wpqC (v := ?_) (by kernel_rfl) ?_ ?_; rotate_left; (intro V hV; (try dsimp only at hV); go_simp; first | done | with_reducible rfl); (try simp only [Act.put, sI, sZ, sS])
    refine wpqC (v := ?_) (by kernel_rfl) ?_ ?_; rotate_left; (intro V hV; (try dsimp only at hV); go_simp; first | done | with_reducible rfl); (try simp only [Act.put, sI, sZ, sS])
    refine wpqC (v := ?_) (by kernel_rfl) ?_ ?_; rotate_left; (intro V hV; (try dsimp only at hV); have gc := (hV.block _ (heap_lt HGC.out)).trans HGC.out; have x3 := cell_of_row (i := 3) gc rfl; go_simp; first | done | with_reducible rfl); (try simp only [Act.put, sI, sZ, sS])
    refine wpqC (v := ?_) (by kernel_rfl) ?_ ?_; rotate_left; (intro V hV; (try dsimp only at hV); go_simp; first | done | with_reducible rfl); (try simp only [Act.put, sI, sZ, sS])
    refine wpqC (v := ?_) (by kernel_rfl) ?_ ?_; rotate_left; (intro V hV; (try dsimp only at hV); go_simp; first | done | with_reducible rfl); (try simp only [Act.put, sI, sZ, sS])
    refine wpqC (v := ?_) (by kernel_rfl) ?_ ?_; rotate_left; (intro V hV; (try dsimp only at hV); go_simp; first | done | with_reducible rfl); (try simp only [Act.put, sI, sZ, sS])
    refine wpqC (v := ?_) (by kernel_rfl) ?_ ?_; rotate_left; (intro V hV; (try dsimp only at hV); go_simp; first | done | with_reducible rfl); (try simp only [Act.put, sI, sZ, sS])
    refine wpqC (v := ?_) (by kernel_rfl) ?_ ?_; rotate_left; (intro V hV; (try dsimp only at hV); have gc := (hV.block _ (heap_lt HGC.out)).trans HGC.out; have x3 := cell_of_row (i := 3) gc rfl; have x4 := cell_of_row (i := 4) gc rfl; have x5 := cell_of_row (i := 5) gc rfl; have x6 := cell_of_row (i := 6) gc rfl; have x7 := cell_of_row (i := 7) gc rfl; go_simp; first | done | with_reducible rfl); (try simp only [Act.put, sI, sZ, sS])
    refine wpqC (v := .bool true) (by kernel_rfl) ?_ ?_; (· intro V hV; (try dsimp only at hV); go_simp; refine (isTerm_any (.mk tk tn ts tt tl) _ V (HT.out.modL (Mod.of_below hV)).loLt (spansB (HE.out.under (hV.mono HE.out.le)))).mono ?_; rintro e V2 ⟨rfl, b2⟩; exact ⟨by rw [H2.out], hV.trans (b2.mono hV.size)⟩); (try simp only [Act.put, sI, sZ, sS])
    refine wpqC (v := ?_) (by kernel_rfl) ?_ ?_; rotate_left; (intro V hV; (try dsimp only at hV); go_simp; first | done | with_reducible rfl); (try simp only [Act.put, sI, sZ, sS])
    refine wpqC (v := ?_) (by kernel_rfl) ?_ ?_; rotate_left; (intro V hV; (try dsimp only at hV); go_simp; first | done | with_reducible rfl); (try simp only [Act.put, sI, sZ, sS])
    refine wpqC (v := ?_) (by kernel_rfl) ?_ ?_; rotate_left; (intro V hV; (try dsimp only at hV); go_simp; first | done | with_reducible rfl); (try simp only [Act.put, sI, sZ, sS])
    refine wpqC (v := ?_) (by kernel_rfl) ?_ ?_; rotate_left; (intro V hV; (try dsimp only at hV); go_simp; first | done | with_reducible rfl); (try simp only [Act.put, sI, sZ, sS])
    refine wpqC (v := ?_) (by kernel_rfl) ?_ ?_; rotate_left; (intro V hV; (try dsimp only at hV); have gc := (hV.block _ (heap_lt HGC.out)).trans HGC.out; have x4 := cell_of_row (i := 4) gc rfl; go_simp; first | done | with_reducible rfl); (try simp only [Act.put, sI, sZ, sS])
    refine wpqC (v := .bool true) (by kernel_rfl) ?_ ?_; (· intro V hV; (try dsimp only at hV); go_simp; refine (within_any _ _ _ V).mono ?_; rintro e V2 ⟨rfl, rfl⟩; exact ⟨by rw [H3.out], hV⟩); (try simp only [Act.put, sI, sZ, sS])
    refine wpqC (v := ?_) (by kernel_rfl) ?_ ?_; rotate_left; (intro V hV; (try dsimp only at hV); go_simp; first | done | with_reducible rfl); (try simp only [Act.put, sI, sZ, sS])
    refine wpqC (v := ?_) (by kernel_rfl) ?_ ?_; rotate_left; (intro V hV; (try dsimp only at hV); go_simp; first | done | with_reducible rfl); (try simp only [Act.put, sI, sZ, sS])
    refine wpqC (v := ?_) (by kernel_rfl) ?_ ?_; rotate_left; (intro V hV; (try dsimp only at hV); go_simp; first | done | with_reducible rfl); (try simp only [Act.put, sI, sZ, sS])
    refine wpqC (v := ?_) (by kernel_rfl) ?_ ?_; rotate_left; (intro V hV; (try dsimp only at hV); have gc := (hV.block _ (heap_lt HGC.out)).trans HGC.out; have x2 := cell_of_row (i := 2) gc rfl; go_simp; first | done | with_reducible rfl); (try simp only [Act.put, sI, sZ, sS])
    refine wpqC (v := ?_) (by kernel_rfl) ?_ ?_; rotate_left; (intro V hV; (try dsimp only at hV); go_simp; first | done | with_reducible rfl); (try simp only [Act.put, sI, sZ, sS])
    refine wpqC (v := ?_) (by kernel_rfl) ?_ ?_; rotate_left; (intro V hV; (try dsimp only at hV); go_simp; first | done | with_reducible rfl); (try simp only [Act.put, sI, sZ, sS])
    refine wpqC (v := ?_) (by kernel_rfl) ?_ ?_; rotate_left; (intro V hV; (try dsimp only at hV); have gk := (hV.block _ (heap_lt HGK.out)).trans HGK.out; have y2 := cell_of_row (i := 2) gk rfl; go_simp; first | done | with_reducible rfl); (try simp only [Act.put, sI, sZ, sS])
    refine wpqC (v := ?_) (by kernel_rfl) ?_ ?_; rotate_left; (intro V hV; (try dsimp only at hV); go_simp; first | done | with_reducible rfl); (try simp only [Act.put, sI, sZ, sS])
    refine wpqC (v := ?_) (by kernel_rfl) ?_ ?_; rotate_left; (intro V hV; (try dsimp only at hV); go_simp; first | done | with_reducible rfl); (try simp only [Act.put, sI, sZ, sS])
    refine wpqC (v := .bool true) (by kernel_rfl) ?_ ?_; (· intro V hV; (try dsimp only at hV); go_simp; refine (within_any _ _ _ V).mono ?_; rintro e V2 ⟨rfl, rfl⟩; exact ⟨by rw [HW.out, H4.out], hV⟩); (try simp only [Act.put, sI, sZ, sS])
    refine wpqC (v := ?_) (by kernel_rfl) ?_ ?_; rotate_left; (intro V hV; (try dsimp only at hV); go_simp; first | done | with_reducible rfl); (try simp only [Act.put, sI, sZ, sS])
    refine wpqC (v := ?_) (by kernel_rfl) ?_ ?_; rotate_left; (intro V hV; (try dsimp only at hV); go_simp; first | done | with_reducible rfl); (try simp only [Act.put, sI, sZ, sS])
    refine wpqC (v := ?_) (by kernel_rfl) ?_ ?_; rotate_left; (intro V hV; (try dsimp only at hV); go_simp; first | done | with_reducible rfl); (try simp only [Act.put, sI, sZ, sS])
    refine wpqC (v := ?_) (by kernel_rfl) ?_ ?_; rotate_left; (intro V hV; (try dsimp only at hV); go_simp; first | done | with_reducible rfl); (try simp only [Act.put, sI, sZ, sS])
    refine wpqC (v := ?_) (by kernel_rfl) ?_ ?_; rotate_left; (intro V hV; (try dsimp only at hV); have gk := (hV.block _ (heap_lt HGK.out)).trans HGK.out; have y2 := cell_of_row (i := 2) gk rfl; go_simp; first | done | with_reducible rfl); (try simp only [Act.put, sI, sZ, sS])
    refine wpqC (v := ?_) (by kernel_rfl) ?_ ?_; rotate_left; (intro V hV; (try dsimp only at hV); go_simp; first | done | with_reducible rfl); (try simp only [Act.put, sI, sZ, sS])
    refine wpqC (v := ?_) (by kernel_rfl) ?_ ?_; rotate_left; (intro V hV; (try dsimp only at hV); have gc := (hV.block _ (heap_lt HGC.out)).trans HGC.out; have x2 := cell_of_row (i := 2) gc rfl; go_simp; first | done | with_reducible rfl); (try simp only [Act.put, sI, sZ, sS])
    refine wpqC (v := ?_) (by kernel_rfl) ?_ ?_; rotate_left; (intro V hV; (try dsimp only at hV); go_simp; first | done | with_reducible rfl); (try simp only [Act.put, sI, sZ, sS])
    refine wpqC (v := ?_) (by kernel_rfl) ?_ ?_; rotate_left; (intro V hV; (try dsimp only at hV); have e9 := (hV.cell (by rw [add_block]; exact HAD.out.1)).trans HE2.out; go_simp; first | done | with_reducible rfl); (try simp only [Act.put, sI, sZ, sS])
    refine wpqC (v := ?_) (by kernel_rfl) ?_ ?_; rotate_left; (intro V hV; (try dsimp only at hV); go_simp; first | done | with_reducible rfl); (try simp only [Act.put, sI, sZ, sS])
    refine wpqC (v := ?_) (by kernel_rfl) ?_ ?_; rotate_left; (intro V hV; (try dsimp only at hV); go_simp; first | done | with_reducible rfl); (try simp only [Act.put, sI, sZ, sS])
    refine wpqC (v := ?_) (by kernel_rfl) ?_ ?_; rotate_left; (intro V hV; (try dsimp only at hV); have gc := (hV.block _ (heap_lt HGC.out)).trans HGC.out; have x13 := cell_of_row (i := 13) gc rfl; go_simp; first | done | with_reducible rfl); (try simp only [Act.put, sI, sZ, sS])
    refine wpqC (v := ?_) (by kernel_rfl) ?_ ?_; rotate_left; (intro V hV; (try dsimp only at hV); go_simp; first | done | with_reducible rfl); (try simp only [Act.put, sI, sZ, sS])
    refine wpqC (v := ?_) (by kernel_rfl) ?_ ?_; rotate_left; (intro V hV; (try dsimp only at hV); have hw2 := HW2.out; go_simp; first | done | with_reducible rfl); (try simp only [Act.put, sI, sZ, sS])
    refine wpqC (v := ?_) (by kernel_rfl) ?_ ?_; rotate_left; (intro V hV; (try dsimp only at hV); go_simp; first | done | with_reducible rfl); (try simp only [Act.put, sI, sZ, sS])
    refine wpqC (v := ?_) (by kernel_rfl) ?_ ?_; rotate_left; (intro V hV; (try dsimp only at hV); go_simp; first | done | with_reducible rfl); (try simp only [Act.put, sI, sZ, sS])
    refine wpqC (v := ?_) (by kernel_rfl) ?_ ?_; rotate_left; (intro V hV; (try dsimp only at hV); go_simp; first | done | with_reducible rfl); (try simp only [Act.put, sI, sZ, sS])
    refine wpqC_skip (by kernel_rfl) ?_; (try simp only [Act.put, sI, sZ, sS])
    refine wpqC_skip (by kernel_rfl) ?_; (try simp only [Act.put, sI, sZ, sS])
    refine wpqC_skip (by kernel_rfl) ?_; (try simp only [Act.put, sI, sZ, sS])
    refine wpqC_skip (by kernel_rfl) ?_; (try simp only [Act.put, sI, sZ, sS])
    refine wpqC (v := ?_) (by kernel_rfl) ?_ ?_; rotate_left; (intro V hV; (try dsimp only at hV); go_simp; first | done | with_reducible rfl); (try simp only [Act.put, sI, sZ, sS])
    refine wpqC (v := ?_) (by kernel_rfl) ?_ ?_; rotate_left; (intro V hV; (try dsimp only at hV); go_simp; first | done | with_reducible rfl); (try simp only [Act.put, sI, sZ, sS])
    refine wpQuiet_nil ?_
    intro V9 h9
    (try dsimp only at h9)
    have HB9 := Lib.hid h9
    clear h9
    go_wp2_with fail
    go_ret
    exact ⟨ret_bool HF.out.symm, HGS.out.keep HB9.out, (Mod.of_below HB2.out).trans (Mod.of_below HB9.out) (fun _ _ e => e)⟩
  cases h6 : (l.all takesB)
  case false =>
    have HF : Hid (R = false) := Lib.hid (by rw [HR.out, h5, h6]; rfl)
    have H6 := Lib.hid h6
    clear h6
    go_enter Tryz.func128, Tryz.ntmps128
    go_upto_region 1 with fail
    rw [← hW2]
    clear hW2
    refine wp_region_qC (C := fun V => Below (W2).heap.size (W2) V) (by kernel_rfl) (by kernel_rfl) (drewC (W2)) ?_
    refine wpqC (v := ?_) (by kernel_rfl) ?_ ?_; rotate_left; (intro V hV; (try dsimp only at hV); go_simp; first | done | with_reducible rfl); (try simp only [Act.put, sI, sZ, sS])
    refine wpqC (v := ?_) (by kernel_rfl) ?_ ?_; rotate_left; (intro V hV; (try dsimp only at hV); have gc := (hV.block _ (heap_lt HGC.out)).trans HGC.out; have x1 := cell_of_row (i := 1) gc rfl; go_simp; first | done | with_reducible rfl); (try simp only [Act.put, sI, sZ, sS])
    refine wpqC (v := .bool true) (by kernel_rfl) ?_ ?_; (· intro V hV; (try dsimp only at hV); go_simp; refine (within_any _ _ _ V).mono ?_; rintro e V2 ⟨rfl, rfl⟩; exact ⟨by rw [H0.out], hV⟩); (try simp only [Act.put, sI, sZ, sS])
    refine wpqC (v := ?_) (by kernel_rfl) ?_ ?_; rotate_left; (intro V hV; (try dsimp only at hV); go_simp; first | done | with_reducible rfl); (try simp only [Act.put, sI, sZ, sS])
    refine wpqC (v := ?_) (by kernel_rfl) ?_ ?_; rotate_left; (intro V hV; (try dsimp only at hV); go_simp; first | done | with_reducible rfl); (try simp only [Act.put, sI, sZ, sS])
    refine wpqC (v := ?_) (by kernel_rfl) ?_ ?_; rotate_left; (intro V hV; (try dsimp only at hV); go_simp; first | done | with_reducible rfl); (try simp only [Act.put, sI, sZ, sS])
    refine wpqC (v := ?_) (by kernel_rfl) ?_ ?_; rotate_left; (intro V hV; (try dsimp only at hV); have gc := (hV.block _ (heap_lt HGC.out)).trans HGC.out; have x3 := cell_of_row (i := 3) gc rfl; go_simp; first | done | with_reducible rfl); (try simp only [Act.put, sI, sZ, sS])
    refine wpqC (v := ?_) (by kernel_rfl) ?_ ?_; rotate_left; (intro V hV; (try dsimp only at hV); go_simp; first | done | with_reducible rfl); (try simp only [Act.put, sI, sZ, sS])
    refine wpqC (v := ?_) (by kernel_rfl) ?_ ?_; rotate_left; (intro V hV; (try dsimp only at hV); go_simp; first | done | with_reducible rfl); (try simp only [Act.put, sI, sZ, sS])
    refine wpqC (v := ?_) (by kernel_rfl) ?_ ?_; rotate_left; (intro V hV; (try dsimp only at hV); go_simp; first | done | with_reducible rfl); (try simp only [Act.put, sI, sZ, sS])
    refine wpqC (v := ?_) (by kernel_rfl) ?_ ?_; rotate_left; (intro V hV; (try dsimp only at hV); go_simp; first | done | with_reducible rfl); (try simp only [Act.put, sI, sZ, sS])
    refine wpqC (v := ?_) (by kernel_rfl) ?_ ?_; rotate_left; (intro V hV; (try dsimp only at hV); have gc := (hV.block _ (heap_lt HGC.out)).trans HGC.out; have x3 := cell_of_row (i := 3) gc rfl; have x4 := cell_of_row (i := 4) gc rfl; have x5 := cell_of_row (i := 5) gc rfl; have x6 := cell_of_row (i := 6) gc rfl; have x7 := cell_of_row (i := 7) gc rfl; go_simp; first | done | with_reducible rfl); (try simp only [Act.put, sI, sZ, sS])
    refine wpqC (v := .bool true) (by kernel_rfl) ?_ ?_; (· intro V hV; (try dsimp only at hV); go_simp; refine (isTerm_any (.mk tk tn ts tt tl) _ V (HT.out.modL (Mod.of_below hV)).loLt (spansB (HE.out.under (hV.mono HE.out.le)))).mono ?_; rintro e V2 ⟨rfl, b2⟩; exact ⟨by rw [H2.out], hV.trans (b2.mono hV.size)⟩); (try simp only [Act.put, sI, sZ, sS])
    refine wpqC (v := ?_) (by kernel_rfl) ?_ ?_; rotate_left; (intro V hV; (try dsimp only at hV); go_simp; first | done | with_reducible rfl); (try simp only [Act.put, sI, sZ, sS])
    refine wpqC (v := ?_) (by kernel_rfl) ?_ ?_; rotate_left; (intro V hV; (try dsimp only at hV); go_simp; first | done | with_reducible rfl); (try simp only [Act.put, sI, sZ, sS])
    refine wpqC (v := ?_) (by kernel_rfl) ?_ ?_; rotate_left; (intro V hV; (try dsimp only at hV); go_simp; first | done | with_reducible rfl); (try simp only [Act.put, sI, sZ, sS])
    refine wpqC (v := ?_) (by kernel_rfl) ?_ ?_; rotate_left; (intro V hV; (try dsimp only at hV); go_simp; first | done | with_reducible rfl); (try simp only [Act.put, sI, sZ, sS])
    refine wpqC (v := ?_) (by kernel_rfl) ?_ ?_; rotate_left; (intro V hV; (try dsimp only at hV); have gc := (hV.block _ (heap_lt HGC.out)).trans HGC.out; have x4 := cell_of_row (i := 4) gc rfl; go_simp; first | done | with_reducible rfl); (try simp only [Act.put, sI, sZ, sS])
    refine wpqC (v := .bool true) (by kernel_rfl) ?_ ?_; (· intro V hV; (try dsimp only at hV); go_simp; refine (within_any _ _ _ V).mono ?_; rintro e V2 ⟨rfl, rfl⟩; exact ⟨by rw [H3.out], hV⟩); (try simp only [Act.put, sI, sZ, sS])
    refine wpqC (v := ?_) (by kernel_rfl) ?_ ?_; rotate_left; (intro V hV; (try dsimp only at hV); go_simp; first | done | with_reducible rfl); (try simp only [Act.put, sI, sZ, sS])
    refine wpqC (v := ?_) (by kernel_rfl) ?_ ?_; rotate_left; (intro V hV; (try dsimp only at hV); go_simp; first | done | with_reducible rfl); (try simp only [Act.put, sI, sZ, sS])
    refine wpqC (v := ?_) (by kernel_rfl) ?_ ?_; rotate_left; (intro V hV; (try dsimp only at hV); go_simp; first | done | with_reducible rfl); (try simp only [Act.put, sI, sZ, sS])
    refine wpqC (v := ?_) (by kernel_rfl) ?_ ?_; rotate_left; (intro V hV; (try dsimp only at hV); have gc := (hV.block _ (heap_lt HGC.out)).trans HGC.out; have x2 := cell_of_row (i := 2) gc rfl; go_simp; first | done | with_reducible rfl); (try simp only [Act.put, sI, sZ, sS])
    refine wpqC (v := ?_) (by kernel_rfl) ?_ ?_; rotate_left; (intro V hV; (try dsimp only at hV); go_simp; first | done | with_reducible rfl); (try simp only [Act.put, sI, sZ, sS])
    refine wpqC (v := ?_) (by kernel_rfl) ?_ ?_; rotate_left; (intro V hV; (try dsimp only at hV); go_simp; first | done | with_reducible rfl); (try simp only [Act.put, sI, sZ, sS])
    refine wpqC (v := ?_) (by kernel_rfl) ?_ ?_; rotate_left; (intro V hV; (try dsimp only at hV); have gk := (hV.block _ (heap_lt HGK.out)).trans HGK.out; have y2 := cell_of_row (i := 2) gk rfl; go_simp; first | done | with_reducible rfl); (try simp only [Act.put, sI, sZ, sS])
    refine wpqC (v := ?_) (by kernel_rfl) ?_ ?_; rotate_left; (intro V hV; (try dsimp only at hV); go_simp; first | done | with_reducible rfl); (try simp only [Act.put, sI, sZ, sS])
    refine wpqC (v := ?_) (by kernel_rfl) ?_ ?_; rotate_left; (intro V hV; (try dsimp only at hV); go_simp; first | done | with_reducible rfl); (try simp only [Act.put, sI, sZ, sS])
    refine wpqC (v := .bool true) (by kernel_rfl) ?_ ?_; (· intro V hV; (try dsimp only at hV); go_simp; refine (within_any _ _ _ V).mono ?_; rintro e V2 ⟨rfl, rfl⟩; exact ⟨by rw [HW.out, H4.out], hV⟩); (try simp only [Act.put, sI, sZ, sS])
    refine wpqC (v := ?_) (by kernel_rfl) ?_ ?_; rotate_left; (intro V hV; (try dsimp only at hV); go_simp; first | done | with_reducible rfl); (try simp only [Act.put, sI, sZ, sS])
    refine wpqC (v := ?_) (by kernel_rfl) ?_ ?_; rotate_left; (intro V hV; (try dsimp only at hV); go_simp; first | done | with_reducible rfl); (try simp only [Act.put, sI, sZ, sS])
    refine wpqC (v := ?_) (by kernel_rfl) ?_ ?_; rotate_left; (intro V hV; (try dsimp only at hV); go_simp; first | done | with_reducible rfl); (try simp only [Act.put, sI, sZ, sS])
    refine wpqC (v := ?_) (by kernel_rfl) ?_ ?_; rotate_left; (intro V hV; (try dsimp only at hV); go_simp; first | done | with_reducible rfl); (try simp only [Act.put, sI, sZ, sS])
    refine wpqC (v := ?_) (by kernel_rfl) ?_ ?_; rotate_left; (intro V hV; (try dsimp only at hV); have gk := (hV.block _ (heap_lt HGK.out)).trans HGK.out; have y2 := cell_of_row (i := 2) gk rfl; go_simp; first | done | with_reducible rfl); (try simp only [Act.put, sI, sZ, sS])
    refine wpqC (v := ?_) (by kernel_rfl) ?_ ?_; rotate_left; (intro V hV; (try dsimp only at hV); go_simp; first | done | with_reducible rfl); (try simp only [Act.put, sI, sZ, sS])
    refine wpqC (v := ?_) (by kernel_rfl) ?_ ?_; rotate_left; (intro V hV; (try dsimp only at hV); have gc := (hV.block _ (heap_lt HGC.out)).trans HGC.out; have x2 := cell_of_row (i := 2) gc rfl; go_simp; first | done | with_reducible rfl); (try simp only [Act.put, sI, sZ, sS])
    refine wpqC (v := ?_) (by kernel_rfl) ?_ ?_; rotate_left; (intro V hV; (try dsimp only at hV); go_simp; first | done | with_reducible rfl); (try simp only [Act.put, sI, sZ, sS])
    refine wpqC (v := ?_) (by kernel_rfl) ?_ ?_; rotate_left; (intro V hV; (try dsimp only at hV); have e9 := (hV.cell (by rw [add_block]; exact HAD.out.1)).trans HE2.out; go_simp; first | done | with_reducible rfl); (try simp only [Act.put, sI, sZ, sS])
    refine wpqC (v := ?_) (by kernel_rfl) ?_ ?_; rotate_left; (intro V hV; (try dsimp only at hV); go_simp; first | done | with_reducible rfl); (try simp only [Act.put, sI, sZ, sS])
    refine wpqC (v := ?_) (by kernel_rfl) ?_ ?_; rotate_left; (intro V hV; (try dsimp only at hV); go_simp; first | done | with_reducible rfl); (try simp only [Act.put, sI, sZ, sS])
    refine wpqC (v := ?_) (by kernel_rfl) ?_ ?_; rotate_left; (intro V hV; (try dsimp only at hV); have gc := (hV.block _ (heap_lt HGC.out)).trans HGC.out; have x13 := cell_of_row (i := 13) gc rfl; go_simp; first | done | with_reducible rfl); (try simp only [Act.put, sI, sZ, sS])
    refine wpqC (v := ?_) (by kernel_rfl) ?_ ?_; rotate_left; (intro V hV; (try dsimp only at hV); go_simp; first | done | with_reducible rfl); (try simp only [Act.put, sI, sZ, sS])
    refine wpqC (v := ?_) (by kernel_rfl) ?_ ?_; rotate_left; (intro V hV; (try dsimp only at hV); have hw2 := HW2.out; go_simp; first | done | with_reducible rfl); (try simp only [Act.put, sI, sZ, sS])
    refine wpqC (v := ?_) (by kernel_rfl) ?_ ?_; rotate_left; (intro V hV; (try dsimp only at hV); go_simp; first | done | with_reducible rfl); (try simp only [Act.put, sI, sZ, sS])
    refine wpqC (v := ?_) (by kernel_rfl) ?_ ?_; rotate_left; (intro V hV; (try dsimp only at hV); go_simp; first | done | with_reducible rfl); (try simp only [Act.put, sI, sZ, sS])
    refine wpqC (v := ?_) (by kernel_rfl) ?_ ?_; rotate_left; (intro V hV; (try dsimp only at hV); go_simp; first | done | with_reducible rfl); (try simp only [Act.put, sI, sZ, sS])
    refine wpqC (v := ?_) (by kernel_rfl) ?_ ?_; rotate_left; (intro V hV; (try dsimp only at hV); go_simp; first | done | with_reducible rfl); (try simp only [Act.put, sI, sZ, sS])
    refine wpqC (v := ?_) (by kernel_rfl) ?_ ?_; rotate_left; (intro V hV; (try dsimp only at hV); have gc := (hV.block _ (heap_lt HGC.out)).trans HGC.out; have x13 := cell_of_row (i := 13) gc rfl; go_simp; first | done | with_reducible rfl); (try simp only [Act.put, sI, sZ, sS])
    refine wpqC (v := .bool true) (by kernel_rfl) ?_ ?_; (· intro V hV; (try dsimp only at hV); go_simp; refine (hasN13_any l LA lcap V HCB.out.l (HL.out.modL (Mod.of_below hV)).loLt (HE.out.under (hV.mono HE.out.le)).env.env).mono ?_; rintro e V2 ⟨rfl, b2⟩; exact ⟨by rw [H6.out]; rfl, hV.trans (b2.mono hV.size)⟩); (try simp only [Act.put, sI, sZ, sS])
    refine wpqC (v := ?_) (by kernel_rfl) ?_ ?_; rotate_left; (intro V hV; (try dsimp only at hV); go_simp; first | done | with_reducible rfl); (try simp only [Act.put, sI, sZ, sS])
    refine wpqC (v := ?_) (by kernel_rfl) ?_ ?_; rotate_left; (intro V hV; (try dsimp only at hV); go_simp; first | done | with_reducible rfl); (try simp only [Act.put, sI, sZ, sS])
    refine wpqC (v := ?_) (by kernel_rfl) ?_ ?_; rotate_left; (intro V hV; (try dsimp only at hV); go_simp; first | done | with_reducible rfl); (try simp only [Act.put, sI, sZ, sS])
    refine wpQuiet_nil ?_
    intro V9 h9
    (try dsimp only at h9)
    have HB9 := Lib.hid h9
    clear h9
    go_wp2_with fail
    go_ret
    exact ⟨ret_bool HF.out.symm, HGS.out.keep HB9.out, (Mod.of_below HB2.out).trans (Mod.of_below HB9.out) (fun _ _ e => e)⟩
  have H6 := Lib.hid h6
  clear h6
  have HF : Hid (R = true) := Lib.hid (by rw [HR.out, h5, H6.out]; rfl)
  go_enter Tryz.func128, Tryz.ntmps128
  go_upto_region 1 with fail
  rw [← hW2]
  clear hW2
  refine wp_region_qC (C := fun V => Below (W2).heap.size (W2) V) (by kernel_rfl) (by kernel_rfl) (drewC (W2)) ?_
  refine wpqC (v := ?_) (by kernel_rfl) ?_ ?_; rotate_left; (intro V hV; (try dsimp only at hV); go_simp; first | done | with_reducible rfl); (try simp only [Act.put, sI, sZ, sS])
  refine wpqC (v := ?_) (by kernel_rfl) ?_ ?_; rotate_left; (intro V hV; (try dsimp only at hV); have gc := (hV.block _ (heap_lt HGC.out)).trans HGC.out; have x1 := cell_of_row (i := 1) gc rfl; go_simp; first | done | with_reducible rfl); (try simp only [Act.put, sI, sZ, sS])
  refine wpqC (v := .bool true) (by kernel_rfl) ?_ ?_; (· intro V hV; (try dsimp only at hV); go_simp; refine (within_any _ _ _ V).mono ?_; rintro e V2 ⟨rfl, rfl⟩; exact ⟨by rw [H0.out], hV⟩); (try simp only [Act.put, sI, sZ, sS])
  refine wpqC (v := ?_) (by kernel_rfl) ?_ ?_; rotate_left; (intro V hV; (try dsimp only at hV); go_simp; first | done | with_reducible rfl); (try simp only [Act.put, sI, sZ, sS])
  refine wpqC (v := ?_) (by kernel_rfl) ?_ ?_; rotate_left; (intro V hV; (try dsimp only at hV); go_simp; first | done | with_reducible rfl); (try simp only [Act.put, sI, sZ, sS])
  refine wpqC (v := ?_) (by kernel_rfl) ?_ ?_; rotate_left; (intro V hV; (try dsimp only at hV); go_simp; first | done | with_reducible rfl); (try simp only [Act.put, sI, sZ, sS])
  refine wpqC (v := ?_) (by kernel_rfl) ?_ ?_; rotate_left; (intro V hV; (try dsimp only at hV); have gc := (hV.block _ (heap_lt HGC.out)).trans HGC.out; have x3 := cell_of_row (i := 3) gc rfl; go_simp; first | done | with_reducible rfl); (try simp only [Act.put, sI, sZ, sS])
  refine wpqC (v := ?_) (by kernel_rfl) ?_ ?_; rotate_left; (intro V hV; (try dsimp only at hV); go_simp; first | done | with_reducible rfl); (try simp only [Act.put, sI, sZ, sS])
  refine wpqC (v := ?_) (by kernel_rfl) ?_ ?_; rotate_left; (intro V hV; (try dsimp only at hV); go_simp; first | done | with_reducible rfl); (try simp only [Act.put, sI, sZ, sS])
  refine wpqC (v := ?_) (by kernel_rfl) ?_ ?_; rotate_left; (intro V hV; (try dsimp only at hV); go_simp; first | done | with_reducible rfl); (try simp only [Act.put, sI, sZ, sS])
  refine wpqC (v := ?_) (by kernel_rfl) ?_ ?_; rotate_left; (intro V hV; (try dsimp only at hV); go_simp; first | done | with_reducible rfl); (try simp only [Act.put, sI, sZ, sS])
  refine wpqC (v := ?_) (by kernel_rfl) ?_ ?_; rotate_left; (intro V hV; (try dsimp only at hV); have gc := (hV.block _ (heap_lt HGC.out)).trans HGC.out; have x3 := cell_of_row (i := 3) gc rfl; have x4 := cell_of_row (i := 4) gc rfl; have x5 := cell_of_row (i := 5) gc rfl; have x6 := cell_of_row (i := 6) gc rfl; have x7 := cell_of_row (i := 7) gc rfl; go_simp; first | done | with_reducible rfl); (try simp only [Act.put, sI, sZ, sS])
  refine wpqC (v := .bool true) (by kernel_rfl) ?_ ?_; (· intro V hV; (try dsimp only at hV); go_simp; refine (isTerm_any (.mk tk tn ts tt tl) _ V (HT.out.modL (Mod.of_below hV)).loLt (spansB (HE.out.under (hV.mono HE.out.le)))).mono ?_; rintro e V2 ⟨rfl, b2⟩; exact ⟨by rw [H2.out], hV.trans (b2.mono hV.size)⟩); (try simp only [Act.put, sI, sZ, sS])
  refine wpqC (v := ?_) (by kernel_rfl) ?_ ?_; rotate_left; (intro V hV; (try dsimp only at hV); go_simp; first | done | with_reducible rfl); (try simp only [Act.put, sI, sZ, sS])
  refine wpqC (v := ?_) (by kernel_rfl) ?_ ?_; rotate_left; (intro V hV; (try dsimp only at hV); go_simp; first | done | with_reducible rfl); (try simp only [Act.put, sI, sZ, sS])
  refine wpqC (v := ?_) (by kernel_rfl) ?_ ?_; rotate_left; (intro V hV; (try dsimp only at hV); go_simp; first | done | with_reducible rfl); (try simp only [Act.put, sI, sZ, sS])
  refine wpqC (v := ?_) (by kernel_rfl) ?_ ?_; rotate_left; (intro V hV; (try dsimp only at hV); go_simp; first | done | with_reducible rfl); (try simp only [Act.put, sI, sZ, sS])
  refine wpqC (v := ?_) (by kernel_rfl) ?_ ?_; rotate_left; (intro V hV; (try dsimp only at hV); have gc := (hV.block _ (heap_lt HGC.out)).trans HGC.out; have x4 := cell_of_row (i := 4) gc rfl; go_simp; first | done | with_reducible rfl); (try simp only [Act.put, sI, sZ, sS])
  refine wpqC (v := .bool true) (by kernel_rfl) ?_ ?_; (· intro V hV; (try dsimp only at hV); go_simp; refine (within_any _ _ _ V).mono ?_; rintro e V2 ⟨rfl, rfl⟩; exact ⟨by rw [H3.out], hV⟩); (try simp only [Act.put, sI, sZ, sS])
  refine wpqC (v := ?_) (by kernel_rfl) ?_ ?_; rotate_left; (intro V hV; (try dsimp only at hV); go_simp; first | done | with_reducible rfl); (try simp only [Act.put, sI, sZ, sS])
  refine wpqC (v := ?_) (by kernel_rfl) ?_ ?_; rotate_left; (intro V hV; (try dsimp only at hV); go_simp; first | done | with_reducible rfl); (try simp only [Act.put, sI, sZ, sS])
  refine wpqC (v := ?_) (by kernel_rfl) ?_ ?_; rotate_left; (intro V hV; (try dsimp only at hV); go_simp; first | done | with_reducible rfl); (try simp only [Act.put, sI, sZ, sS])
  refine wpqC (v := ?_) (by kernel_rfl) ?_ ?_; rotate_left; (intro V hV; (try dsimp only at hV); have gc := (hV.block _ (heap_lt HGC.out)).trans HGC.out; have x2 := cell_of_row (i := 2) gc rfl; go_simp; first | done | with_reducible rfl); (try simp only [Act.put, sI, sZ, sS])
  refine wpqC (v := ?_) (by kernel_rfl) ?_ ?_; rotate_left; (intro V hV; (try dsimp only at hV); go_simp; first | done | with_reducible rfl); (try simp only [Act.put, sI, sZ, sS])
  refine wpqC (v := ?_) (by kernel_rfl) ?_ ?_; rotate_left; (intro V hV; (try dsimp only at hV); go_simp; first | done | with_reducible rfl); (try simp only [Act.put, sI, sZ, sS])
  refine wpqC (v := ?_) (by kernel_rfl) ?_ ?_; rotate_left; (intro V hV; (try dsimp only at hV); have gk := (hV.block _ (heap_lt HGK.out)).trans HGK.out; have y2 := cell_of_row (i := 2) gk rfl; go_simp; first | done | with_reducible rfl); (try simp only [Act.put, sI, sZ, sS])
  refine wpqC (v := ?_) (by kernel_rfl) ?_ ?_; rotate_left; (intro V hV; (try dsimp only at hV); go_simp; first | done | with_reducible rfl); (try simp only [Act.put, sI, sZ, sS])
  refine wpqC (v := ?_) (by kernel_rfl) ?_ ?_; rotate_left; (intro V hV; (try dsimp only at hV); go_simp; first | done | with_reducible rfl); (try simp only [Act.put, sI, sZ, sS])
  refine wpqC (v := .bool true) (by kernel_rfl) ?_ ?_; (· intro V hV; (try dsimp only at hV); go_simp; refine (within_any _ _ _ V).mono ?_; rintro e V2 ⟨rfl, rfl⟩; exact ⟨by rw [HW.out, H4.out], hV⟩); (try simp only [Act.put, sI, sZ, sS])
  refine wpqC (v := ?_) (by kernel_rfl) ?_ ?_; rotate_left; (intro V hV; (try dsimp only at hV); go_simp; first | done | with_reducible rfl); (try simp only [Act.put, sI, sZ, sS])
  refine wpqC (v := ?_) (by kernel_rfl) ?_ ?_; rotate_left; (intro V hV; (try dsimp only at hV); go_simp; first | done | with_reducible rfl); (try simp only [Act.put, sI, sZ, sS])
  refine wpqC (v := ?_) (by kernel_rfl) ?_ ?_; rotate_left; (intro V hV; (try dsimp only at hV); go_simp; first | done | with_reducible rfl); (try simp only [Act.put, sI, sZ, sS])
  refine wpqC (v := ?_) (by kernel_rfl) ?_ ?_; rotate_left; (intro V hV; (try dsimp only at hV); go_simp; first | done | with_reducible rfl); (try simp only [Act.put, sI, sZ, sS])
  refine wpqC (v := ?_) (by kernel_rfl) ?_ ?_; rotate_left; (intro V hV; (try dsimp only at hV); have gk := (hV.block _ (heap_lt HGK.out)).trans HGK.out; have y2 := cell_of_row (i := 2) gk rfl; go_simp; first | done | with_reducible rfl); (try simp only [Act.put, sI, sZ, sS])
  refine wpqC (v := ?_) (by kernel_rfl) ?_ ?_; rotate_left; (intro V hV; (try dsimp only at hV); go_simp; first | done | with_reducible rfl); (try simp only [Act.put, sI, sZ, sS])
  refine wpqC (v := ?_) (by kernel_rfl) ?_ ?_; rotate_left; (intro V hV; (try dsimp only at hV); have gc := (hV.block _ (heap_lt HGC.out)).trans HGC.out; have x2 := cell_of_row (i := 2) gc rfl; go_simp; first | done | with_reducible rfl); (try simp only [Act.put, sI, sZ, sS])
  refine wpqC (v := ?_) (by kernel_rfl) ?_ ?_; rotate_left; (intro V hV; (try dsimp only at hV); go_simp; first | done | with_reducible rfl); (try simp only [Act.put, sI, sZ, sS])
  refine wpqC (v := ?_) (by kernel_rfl) ?_ ?_; rotate_left; (intro V hV; (try dsimp only at hV); have e9 := (hV.cell (by rw [add_block]; exact HAD.out.1)).trans HE2.out; go_simp; first | done | with_reducible rfl); (try simp only [Act.put, sI, sZ, sS])
  refine wpqC (v := ?_) (by kernel_rfl) ?_ ?_; rotate_left; (intro V hV; (try dsimp only at hV); go_simp; first | done | with_reducible rfl); (try simp only [Act.put, sI, sZ, sS])
  refine wpqC (v := ?_) (by kernel_rfl) ?_ ?_; rotate_left; (intro V hV; (try dsimp only at hV); go_simp; first | done | with_reducible rfl); (try simp only [Act.put, sI, sZ, sS])
  refine wpqC (v := ?_) (by kernel_rfl) ?_ ?_; rotate_left; (intro V hV; (try dsimp only at hV); have gc := (hV.block _ (heap_lt HGC.out)).trans HGC.out; have x13 := cell_of_row (i := 13) gc rfl; go_simp; first | done | with_reducible rfl); (try simp only [Act.put, sI, sZ, sS])
  refine wpqC (v := ?_) (by kernel_rfl) ?_ ?_; rotate_left; (intro V hV; (try dsimp only at hV); go_simp; first | done | with_reducible rfl); (try simp only [Act.put, sI, sZ, sS])
  refine wpqC (v := ?_) (by kernel_rfl) ?_ ?_; rotate_left; (intro V hV; (try dsimp only at hV); have hw2 := HW2.out; go_simp; first | done | with_reducible rfl); (try simp only [Act.put, sI, sZ, sS])
  refine wpqC (v := ?_) (by kernel_rfl) ?_ ?_; rotate_left; (intro V hV; (try dsimp only at hV); go_simp; first | done | with_reducible rfl); (try simp only [Act.put, sI, sZ, sS])
  refine wpqC (v := ?_) (by kernel_rfl) ?_ ?_; rotate_left; (intro V hV; (try dsimp only at hV); go_simp; first | done | with_reducible rfl); (try simp only [Act.put, sI, sZ, sS])
  refine wpqC (v := ?_) (by kernel_rfl) ?_ ?_; rotate_left; (intro V hV; (try dsimp only at hV); go_simp; first | done | with_reducible rfl); (try simp only [Act.put, sI, sZ, sS])
  refine wpqC (v := ?_) (by kernel_rfl) ?_ ?_; rotate_left; (intro V hV; (try dsimp only at hV); go_simp; first | done | with_reducible rfl); (try simp only [Act.put, sI, sZ, sS])
  refine wpqC (v := ?_) (by kernel_rfl) ?_ ?_; rotate_left; (intro V hV; (try dsimp only at hV); have gc := (hV.block _ (heap_lt HGC.out)).trans HGC.out; have x13 := cell_of_row (i := 13) gc rfl; go_simp; first | done | with_reducible rfl); (try simp only [Act.put, sI, sZ, sS])
  refine wpqC (v := .bool false) (by kernel_rfl) ?_ ?_; (· intro V hV; (try dsimp only at hV); go_simp; refine (hasN13_any l LA lcap V HCB.out.l (HL.out.modL (Mod.of_below hV)).loLt (HE.out.under (hV.mono HE.out.le)).env.env).mono ?_; rintro e V2 ⟨rfl, b2⟩; exact ⟨by rw [H6.out]; rfl, hV.trans (b2.mono hV.size)⟩); (try simp only [Act.put, sI, sZ, sS])
  refine wpqC (v := ?_) (by kernel_rfl) ?_ ?_; rotate_left; (intro V hV; (try dsimp only at hV); go_simp; first | done | with_reducible rfl); (try simp only [Act.put, sI, sZ, sS])
  refine wpqC (v := ?_) (by kernel_rfl) ?_ ?_; rotate_left; (intro V hV; (try dsimp only at hV); go_simp; first | done | with_reducible rfl); (try simp only [Act.put, sI, sZ, sS])
  refine wpqC (v := ?_) (by kernel_rfl) ?_ ?_; rotate_left; (intro V hV; (try dsimp only at hV); go_simp; first | done | with_reducible rfl); (try simp only [Act.put, sI, sZ, sS])
  refine wpQuiet_nil ?_
  intro V9 h9
  (try dsimp only at h9)
  have HB9 := Lib.hid h9
  clear h9
  go_wp2_with fail
  go_ret
  exact ⟨ret_bool HF.out.symm, HGS.out.keep HB9.out, (Mod.of_below HB2.out).trans (Mod.of_below HB9.out) (fun _ _ e => e)⟩
end Go.Proofs.YtdimcddbmccniaaGreatDoor
