/- Layer 13: are the fields empty that an instruction does not name? (written by gen_cd9.py) -/
import Derived.Test.YtndihgdhpfjgmaaGreatDoorKRangeO
set_option linter.unusedVariables false
set_option linter.unusedSimpArgs false
namespace Go.Proofs.YtndihgdhpfjgmaaGreatDoor
open Go.RowKit

set_option maxHeartbeats 8000000 in
set_option maxRecDepth 100000 in
theorem blank13_5 (c : Cd) (v : Value) (P : Nat → Prop) (W : World) (hC : CdAt P W c v) :
    Calls Tryz.prog 44 #[v, .int .u8 5] W fun e w' => e = .returned (.bool (blankC c 5)) ∧ Below W.heap.size W w' := by
  obtain ⟨op, a, b, ⟨tk, tn, ts, tt, tl⟩, ⟨pk, pn, ps, pt, pl⟩, l⟩ := c
  obtain ⟨TA, tcap, PA, pcap, LA, lcap, rfl, -⟩ := hC.parts
  obtain ⟨R, hR⟩ : ∃ R, R = blankC ⟨op, a, b, .mk tk tn ts tt tl, .mk pk pn ps pt pl, l⟩ 5 := ⟨_, rfl⟩
  rw [← hR]
  have HR : Hid (R = (((a == 0) || true) && (((b == 0) || false) && (((blank5 tk tn ts tt tl.length) || true) && (((blank5 pk pn ps pt pl.length) || false) && ((((l.length : Int) == 0) || false))))))) := Lib.hid (by rw [hR]; rfl)
  clear hR hC
  obtain ⟨W1, hW1⟩ : ∃ W1, W1 = W.alloc (.cells #[.int .i8 op, .int .i64 a, .int .i64 b, .int .i8 tk, .int .i64 tn, .string ts, .string tt, .slice TA tl.length tcap, .int .i8 pk, .int .i64 pn, .string ps, .string pt, .slice PA pl.length pcap, .slice LA l.length lcap] 48) := ⟨_, rfl⟩
  have gc : W1.heap[W.heap.size]? = some (.cells #[.int .i8 op, .int .i64 a, .int .i64 b, .int .i8 tk, .int .i64 tn, .string ts, .string tt, .slice TA tl.length tcap, .int .i8 pk, .int .i64 pn, .string ps, .string pt, .slice PA pl.length pcap, .slice LA l.length lcap] 48 (0, 0)) := by rw [hW1]; exact block_alloc _ _
  have HB : Hid (Below W.heap.size W W1) := Lib.hid (by rw [hW1]; exact (Below.refl _ _).alloc (Nat.le_refl _) _)
  have HGC := Lib.hid gc
  have x0 : (W1).cell? ⟨W.heap.size, 0, none⟩ = some (.int .i8 op) := cell_of_row (i := 0) gc rfl
  have x1 : (W1).cell? ⟨W.heap.size, 1, none⟩ = some (.int .i64 a) := cell_of_row (i := 1) gc rfl
  have x2 : (W1).cell? ⟨W.heap.size, 2, none⟩ = some (.int .i64 b) := cell_of_row (i := 2) gc rfl
  have x3 : (W1).cell? ⟨W.heap.size, 3, none⟩ = some (.int .i8 tk) := cell_of_row (i := 3) gc rfl
  have x4 : (W1).cell? ⟨W.heap.size, 4, none⟩ = some (.int .i64 tn) := cell_of_row (i := 4) gc rfl
  have x5 : (W1).cell? ⟨W.heap.size, 5, none⟩ = some (.string ts) := cell_of_row (i := 5) gc rfl
  have x6 : (W1).cell? ⟨W.heap.size, 6, none⟩ = some (.string tt) := cell_of_row (i := 6) gc rfl
  have x7 : (W1).cell? ⟨W.heap.size, 7, none⟩ = some (.slice TA tl.length tcap) := cell_of_row (i := 7) gc rfl
  have x8 : (W1).cell? ⟨W.heap.size, 8, none⟩ = some (.int .i8 pk) := cell_of_row (i := 8) gc rfl
  have x9 : (W1).cell? ⟨W.heap.size, 9, none⟩ = some (.int .i64 pn) := cell_of_row (i := 9) gc rfl
  have x10 : (W1).cell? ⟨W.heap.size, 10, none⟩ = some (.string ps) := cell_of_row (i := 10) gc rfl
  have x11 : (W1).cell? ⟨W.heap.size, 11, none⟩ = some (.string pt) := cell_of_row (i := 11) gc rfl
  have x12 : (W1).cell? ⟨W.heap.size, 12, none⟩ = some (.slice PA pl.length pcap) := cell_of_row (i := 12) gc rfl
  have x13 : (W1).cell? ⟨W.heap.size, 13, none⟩ = some (.slice LA l.length lcap) := cell_of_row (i := 13) gc rfl
  clear gc
  cases h0 : (a == 0)
  case false =>
    cases h1 : (b == 0)
    case false =>
      have HF : Hid (R = false) := Lib.hid (by rw [HR.out, h0, h1]; try rfl)
      go_enter Tryz.func44, Tryz.ntmps44
      go_upto_region 1 with fail
      rw [← hW1]
      clear hW1
      go_wp2_with fail
      go_ret
      exact ⟨ret_bool HF.out.symm, HB.out⟩
    have HC2 := Lib.hid (noTerm_any tk tn ts tt TA tl.length tcap W1)
    go_enter Tryz.func44, Tryz.ntmps44
    go_upto_region 1 with fail
    rw [← hW1]
    clear hW1
    go_wp2_with fail
    refine HC2.out.mono ?_
    rintro e w2 ⟨rfl, bb⟩
    have hb := HB.out.trans (bb.mono HB.out.size)
    have gc := (bb.block _ (heap_lt HGC.out)).trans HGC.out
    clear HB HGC x0 x1 x2 x3 x4 x5 x6 x7 x8 x9 x10 x11 x12 x13
    have HB := Lib.hid hb
    have HGC := Lib.hid gc
    have x0 : (w2).cell? ⟨W.heap.size, 0, none⟩ = some (.int .i8 op) := cell_of_row (i := 0) gc rfl
    have x1 : (w2).cell? ⟨W.heap.size, 1, none⟩ = some (.int .i64 a) := cell_of_row (i := 1) gc rfl
    have x2 : (w2).cell? ⟨W.heap.size, 2, none⟩ = some (.int .i64 b) := cell_of_row (i := 2) gc rfl
    have x3 : (w2).cell? ⟨W.heap.size, 3, none⟩ = some (.int .i8 tk) := cell_of_row (i := 3) gc rfl
    have x4 : (w2).cell? ⟨W.heap.size, 4, none⟩ = some (.int .i64 tn) := cell_of_row (i := 4) gc rfl
    have x5 : (w2).cell? ⟨W.heap.size, 5, none⟩ = some (.string ts) := cell_of_row (i := 5) gc rfl
    have x6 : (w2).cell? ⟨W.heap.size, 6, none⟩ = some (.string tt) := cell_of_row (i := 6) gc rfl
    have x7 : (w2).cell? ⟨W.heap.size, 7, none⟩ = some (.slice TA tl.length tcap) := cell_of_row (i := 7) gc rfl
    have x8 : (w2).cell? ⟨W.heap.size, 8, none⟩ = some (.int .i8 pk) := cell_of_row (i := 8) gc rfl
    have x9 : (w2).cell? ⟨W.heap.size, 9, none⟩ = some (.int .i64 pn) := cell_of_row (i := 9) gc rfl
    have x10 : (w2).cell? ⟨W.heap.size, 10, none⟩ = some (.string ps) := cell_of_row (i := 10) gc rfl
    have x11 : (w2).cell? ⟨W.heap.size, 11, none⟩ = some (.string pt) := cell_of_row (i := 11) gc rfl
    have x12 : (w2).cell? ⟨W.heap.size, 12, none⟩ = some (.slice PA pl.length pcap) := cell_of_row (i := 12) gc rfl
    have x13 : (w2).cell? ⟨W.heap.size, 13, none⟩ = some (.slice LA l.length lcap) := cell_of_row (i := 13) gc rfl
    clear gc hb bb
    cases h2 : (blank5 tk tn ts tt tl.length)
    case false =>
      have HC3 := Lib.hid (noTree_any pk pn ps pt PA pl.length pcap w2)
      go_wp2_with fail
      refine HC3.out.mono ?_
      rintro e w3 ⟨rfl, bb⟩
      have hb := HB.out.trans (bb.mono HB.out.size)
      have gc := (bb.block _ (heap_lt HGC.out)).trans HGC.out
      clear HB HGC x0 x1 x2 x3 x4 x5 x6 x7 x8 x9 x10 x11 x12 x13
      have HB := Lib.hid hb
      have HGC := Lib.hid gc
      have x0 : (w3).cell? ⟨W.heap.size, 0, none⟩ = some (.int .i8 op) := cell_of_row (i := 0) gc rfl
      have x1 : (w3).cell? ⟨W.heap.size, 1, none⟩ = some (.int .i64 a) := cell_of_row (i := 1) gc rfl
      have x2 : (w3).cell? ⟨W.heap.size, 2, none⟩ = some (.int .i64 b) := cell_of_row (i := 2) gc rfl
      have x3 : (w3).cell? ⟨W.heap.size, 3, none⟩ = some (.int .i8 tk) := cell_of_row (i := 3) gc rfl
      have x4 : (w3).cell? ⟨W.heap.size, 4, none⟩ = some (.int .i64 tn) := cell_of_row (i := 4) gc rfl
      have x5 : (w3).cell? ⟨W.heap.size, 5, none⟩ = some (.string ts) := cell_of_row (i := 5) gc rfl
      have x6 : (w3).cell? ⟨W.heap.size, 6, none⟩ = some (.string tt) := cell_of_row (i := 6) gc rfl
      have x7 : (w3).cell? ⟨W.heap.size, 7, none⟩ = some (.slice TA tl.length tcap) := cell_of_row (i := 7) gc rfl
      have x8 : (w3).cell? ⟨W.heap.size, 8, none⟩ = some (.int .i8 pk) := cell_of_row (i := 8) gc rfl
      have x9 : (w3).cell? ⟨W.heap.size, 9, none⟩ = some (.int .i64 pn) := cell_of_row (i := 9) gc rfl
      have x10 : (w3).cell? ⟨W.heap.size, 10, none⟩ = some (.string ps) := cell_of_row (i := 10) gc rfl
      have x11 : (w3).cell? ⟨W.heap.size, 11, none⟩ = some (.string pt) := cell_of_row (i := 11) gc rfl
      have x12 : (w3).cell? ⟨W.heap.size, 12, none⟩ = some (.slice PA pl.length pcap) := cell_of_row (i := 12) gc rfl
      have x13 : (w3).cell? ⟨W.heap.size, 13, none⟩ = some (.slice LA l.length lcap) := cell_of_row (i := 13) gc rfl
      clear gc hb bb
      cases h3 : (blank5 pk pn ps pt pl.length)
      case false =>
        have HF : Hid (R = false) := Lib.hid (by rw [HR.out, h0, h1, h2, h3]; try rfl)
        go_wp2_with fail
        go_ret
        exact ⟨ret_bool HF.out.symm, HB.out⟩
      cases h4 : ((l.length : Int) == 0)
      case false =>
        have HF : Hid (R = false) := Lib.hid (by rw [HR.out, h0, h1, h2, h3, h4]; try rfl)
        go_wp2_with fail
        go_ret
        exact ⟨ret_bool HF.out.symm, HB.out⟩
      have HF : Hid (R = true) := Lib.hid (by rw [HR.out, h0, h1, h2, h3, h4]; try rfl)
      go_wp2_with fail
      go_ret
      exact ⟨ret_bool HF.out.symm, HB.out⟩
    have HC3 := Lib.hid (noTree_any pk pn ps pt PA pl.length pcap w2)
    go_wp2_with fail
    refine HC3.out.mono ?_
    rintro e w4 ⟨rfl, bb⟩
    have hb := HB.out.trans (bb.mono HB.out.size)
    have gc := (bb.block _ (heap_lt HGC.out)).trans HGC.out
    clear HB HGC x0 x1 x2 x3 x4 x5 x6 x7 x8 x9 x10 x11 x12 x13
    have HB := Lib.hid hb
    have HGC := Lib.hid gc
    have x0 : (w4).cell? ⟨W.heap.size, 0, none⟩ = some (.int .i8 op) := cell_of_row (i := 0) gc rfl
    have x1 : (w4).cell? ⟨W.heap.size, 1, none⟩ = some (.int .i64 a) := cell_of_row (i := 1) gc rfl
    have x2 : (w4).cell? ⟨W.heap.size, 2, none⟩ = some (.int .i64 b) := cell_of_row (i := 2) gc rfl
    have x3 : (w4).cell? ⟨W.heap.size, 3, none⟩ = some (.int .i8 tk) := cell_of_row (i := 3) gc rfl
    have x4 : (w4).cell? ⟨W.heap.size, 4, none⟩ = some (.int .i64 tn) := cell_of_row (i := 4) gc rfl
    have x5 : (w4).cell? ⟨W.heap.size, 5, none⟩ = some (.string ts) := cell_of_row (i := 5) gc rfl
    have x6 : (w4).cell? ⟨W.heap.size, 6, none⟩ = some (.string tt) := cell_of_row (i := 6) gc rfl
    have x7 : (w4).cell? ⟨W.heap.size, 7, none⟩ = some (.slice TA tl.length tcap) := cell_of_row (i := 7) gc rfl
    have x8 : (w4).cell? ⟨W.heap.size, 8, none⟩ = some (.int .i8 pk) := cell_of_row (i := 8) gc rfl
    have x9 : (w4).cell? ⟨W.heap.size, 9, none⟩ = some (.int .i64 pn) := cell_of_row (i := 9) gc rfl
    have x10 : (w4).cell? ⟨W.heap.size, 10, none⟩ = some (.string ps) := cell_of_row (i := 10) gc rfl
    have x11 : (w4).cell? ⟨W.heap.size, 11, none⟩ = some (.string pt) := cell_of_row (i := 11) gc rfl
    have x12 : (w4).cell? ⟨W.heap.size, 12, none⟩ = some (.slice PA pl.length pcap) := cell_of_row (i := 12) gc rfl
    have x13 : (w4).cell? ⟨W.heap.size, 13, none⟩ = some (.slice LA l.length lcap) := cell_of_row (i := 13) gc rfl
    clear gc hb bb
    cases h3 : (blank5 pk pn ps pt pl.length)
    case false =>
      have HF : Hid (R = false) := Lib.hid (by rw [HR.out, h0, h1, h2, h3]; try rfl)
      go_wp2_with fail
      go_ret
      exact ⟨ret_bool HF.out.symm, HB.out⟩
    cases h4 : ((l.length : Int) == 0)
    case false =>
      have HF : Hid (R = false) := Lib.hid (by rw [HR.out, h0, h1, h2, h3, h4]; try rfl)
      go_wp2_with fail
      go_ret
      exact ⟨ret_bool HF.out.symm, HB.out⟩
    have HF : Hid (R = true) := Lib.hid (by rw [HR.out, h0, h1, h2, h3, h4]; try rfl)
    go_wp2_with fail
    go_ret
    exact ⟨ret_bool HF.out.symm, HB.out⟩
  cases h1 : (b == 0)
  case false =>
    have HF : Hid (R = false) := Lib.hid (by rw [HR.out, h0, h1]; try rfl)
    go_enter Tryz.func44, Tryz.ntmps44
    go_upto_region 1 with fail
    rw [← hW1]
    clear hW1
    go_wp2_with fail
    go_ret
    exact ⟨ret_bool HF.out.symm, HB.out⟩
  have HC2 := Lib.hid (noTerm_any tk tn ts tt TA tl.length tcap W1)
  go_enter Tryz.func44, Tryz.ntmps44
  go_upto_region 1 with fail
  rw [← hW1]
  clear hW1
  go_wp2_with fail
  refine HC2.out.mono ?_
  rintro e w5 ⟨rfl, bb⟩
  have hb := HB.out.trans (bb.mono HB.out.size)
  have gc := (bb.block _ (heap_lt HGC.out)).trans HGC.out
  clear HB HGC x0 x1 x2 x3 x4 x5 x6 x7 x8 x9 x10 x11 x12 x13
  have HB := Lib.hid hb
  have HGC := Lib.hid gc
  have x0 : (w5).cell? ⟨W.heap.size, 0, none⟩ = some (.int .i8 op) := cell_of_row (i := 0) gc rfl
  have x1 : (w5).cell? ⟨W.heap.size, 1, none⟩ = some (.int .i64 a) := cell_of_row (i := 1) gc rfl
  have x2 : (w5).cell? ⟨W.heap.size, 2, none⟩ = some (.int .i64 b) := cell_of_row (i := 2) gc rfl
  have x3 : (w5).cell? ⟨W.heap.size, 3, none⟩ = some (.int .i8 tk) := cell_of_row (i := 3) gc rfl
  have x4 : (w5).cell? ⟨W.heap.size, 4, none⟩ = some (.int .i64 tn) := cell_of_row (i := 4) gc rfl
  have x5 : (w5).cell? ⟨W.heap.size, 5, none⟩ = some (.string ts) := cell_of_row (i := 5) gc rfl
  have x6 : (w5).cell? ⟨W.heap.size, 6, none⟩ = some (.string tt) := cell_of_row (i := 6) gc rfl
  have x7 : (w5).cell? ⟨W.heap.size, 7, none⟩ = some (.slice TA tl.length tcap) := cell_of_row (i := 7) gc rfl
  have x8 : (w5).cell? ⟨W.heap.size, 8, none⟩ = some (.int .i8 pk) := cell_of_row (i := 8) gc rfl
  have x9 : (w5).cell? ⟨W.heap.size, 9, none⟩ = some (.int .i64 pn) := cell_of_row (i := 9) gc rfl
  have x10 : (w5).cell? ⟨W.heap.size, 10, none⟩ = some (.string ps) := cell_of_row (i := 10) gc rfl
  have x11 : (w5).cell? ⟨W.heap.size, 11, none⟩ = some (.string pt) := cell_of_row (i := 11) gc rfl
  have x12 : (w5).cell? ⟨W.heap.size, 12, none⟩ = some (.slice PA pl.length pcap) := cell_of_row (i := 12) gc rfl
  have x13 : (w5).cell? ⟨W.heap.size, 13, none⟩ = some (.slice LA l.length lcap) := cell_of_row (i := 13) gc rfl
  clear gc hb bb
  cases h2 : (blank5 tk tn ts tt tl.length)
  case false =>
    have HC3 := Lib.hid (noTree_any pk pn ps pt PA pl.length pcap w5)
    go_wp2_with fail
    refine HC3.out.mono ?_
    rintro e w6 ⟨rfl, bb⟩
    have hb := HB.out.trans (bb.mono HB.out.size)
    have gc := (bb.block _ (heap_lt HGC.out)).trans HGC.out
    clear HB HGC x0 x1 x2 x3 x4 x5 x6 x7 x8 x9 x10 x11 x12 x13
    have HB := Lib.hid hb
    have HGC := Lib.hid gc
    have x0 : (w6).cell? ⟨W.heap.size, 0, none⟩ = some (.int .i8 op) := cell_of_row (i := 0) gc rfl
    have x1 : (w6).cell? ⟨W.heap.size, 1, none⟩ = some (.int .i64 a) := cell_of_row (i := 1) gc rfl
    have x2 : (w6).cell? ⟨W.heap.size, 2, none⟩ = some (.int .i64 b) := cell_of_row (i := 2) gc rfl
    have x3 : (w6).cell? ⟨W.heap.size, 3, none⟩ = some (.int .i8 tk) := cell_of_row (i := 3) gc rfl
    have x4 : (w6).cell? ⟨W.heap.size, 4, none⟩ = some (.int .i64 tn) := cell_of_row (i := 4) gc rfl
    have x5 : (w6).cell? ⟨W.heap.size, 5, none⟩ = some (.string ts) := cell_of_row (i := 5) gc rfl
    have x6 : (w6).cell? ⟨W.heap.size, 6, none⟩ = some (.string tt) := cell_of_row (i := 6) gc rfl
    have x7 : (w6).cell? ⟨W.heap.size, 7, none⟩ = some (.slice TA tl.length tcap) := cell_of_row (i := 7) gc rfl
    have x8 : (w6).cell? ⟨W.heap.size, 8, none⟩ = some (.int .i8 pk) := cell_of_row (i := 8) gc rfl
    have x9 : (w6).cell? ⟨W.heap.size, 9, none⟩ = some (.int .i64 pn) := cell_of_row (i := 9) gc rfl
    have x10 : (w6).cell? ⟨W.heap.size, 10, none⟩ = some (.string ps) := cell_of_row (i := 10) gc rfl
    have x11 : (w6).cell? ⟨W.heap.size, 11, none⟩ = some (.string pt) := cell_of_row (i := 11) gc rfl
    have x12 : (w6).cell? ⟨W.heap.size, 12, none⟩ = some (.slice PA pl.length pcap) := cell_of_row (i := 12) gc rfl
    have x13 : (w6).cell? ⟨W.heap.size, 13, none⟩ = some (.slice LA l.length lcap) := cell_of_row (i := 13) gc rfl
    clear gc hb bb
    cases h3 : (blank5 pk pn ps pt pl.length)
    case false =>
      have HF : Hid (R = false) := Lib.hid (by rw [HR.out, h0, h1, h2, h3]; try rfl)
      go_wp2_with fail
      go_ret
      exact ⟨ret_bool HF.out.symm, HB.out⟩
    cases h4 : ((l.length : Int) == 0)
    case false =>
      have HF : Hid (R = false) := Lib.hid (by rw [HR.out, h0, h1, h2, h3, h4]; try rfl)
      go_wp2_with fail
      go_ret
      exact ⟨ret_bool HF.out.symm, HB.out⟩
    have HF : Hid (R = true) := Lib.hid (by rw [HR.out, h0, h1, h2, h3, h4]; try rfl)
    go_wp2_with fail
    go_ret
    exact ⟨ret_bool HF.out.symm, HB.out⟩
  have HC3 := Lib.hid (noTree_any pk pn ps pt PA pl.length pcap w5)
  go_wp2_with fail
  refine HC3.out.mono ?_
  rintro e w7 ⟨rfl, bb⟩
  have hb := HB.out.trans (bb.mono HB.out.size)
  have gc := (bb.block _ (heap_lt HGC.out)).trans HGC.out
  clear HB HGC x0 x1 x2 x3 x4 x5 x6 x7 x8 x9 x10 x11 x12 x13
  have HB := Lib.hid hb
  have HGC := Lib.hid gc
  have x0 : (w7).cell? ⟨W.heap.size, 0, none⟩ = some (.int .i8 op) := cell_of_row (i := 0) gc rfl
  have x1 : (w7).cell? ⟨W.heap.size, 1, none⟩ = some (.int .i64 a) := cell_of_row (i := 1) gc rfl
  have x2 : (w7).cell? ⟨W.heap.size, 2, none⟩ = some (.int .i64 b) := cell_of_row (i := 2) gc rfl
  have x3 : (w7).cell? ⟨W.heap.size, 3, none⟩ = some (.int .i8 tk) := cell_of_row (i := 3) gc rfl
  have x4 : (w7).cell? ⟨W.heap.size, 4, none⟩ = some (.int .i64 tn) := cell_of_row (i := 4) gc rfl
  have x5 : (w7).cell? ⟨W.heap.size, 5, none⟩ = some (.string ts) := cell_of_row (i := 5) gc rfl
  have x6 : (w7).cell? ⟨W.heap.size, 6, none⟩ = some (.string tt) := cell_of_row (i := 6) gc rfl
  have x7 : (w7).cell? ⟨W.heap.size, 7, none⟩ = some (.slice TA tl.length tcap) := cell_of_row (i := 7) gc rfl
  have x8 : (w7).cell? ⟨W.heap.size, 8, none⟩ = some (.int .i8 pk) := cell_of_row (i := 8) gc rfl
  have x9 : (w7).cell? ⟨W.heap.size, 9, none⟩ = some (.int .i64 pn) := cell_of_row (i := 9) gc rfl
  have x10 : (w7).cell? ⟨W.heap.size, 10, none⟩ = some (.string ps) := cell_of_row (i := 10) gc rfl
  have x11 : (w7).cell? ⟨W.heap.size, 11, none⟩ = some (.string pt) := cell_of_row (i := 11) gc rfl
  have x12 : (w7).cell? ⟨W.heap.size, 12, none⟩ = some (.slice PA pl.length pcap) := cell_of_row (i := 12) gc rfl
  have x13 : (w7).cell? ⟨W.heap.size, 13, none⟩ = some (.slice LA l.length lcap) := cell_of_row (i := 13) gc rfl
  clear gc hb bb
  cases h3 : (blank5 pk pn ps pt pl.length)
  case false =>
    have HF : Hid (R = false) := Lib.hid (by rw [HR.out, h0, h1, h2, h3]; try rfl)
    go_wp2_with fail
    go_ret
    exact ⟨ret_bool HF.out.symm, HB.out⟩
  cases h4 : ((l.length : Int) == 0)
  case false =>
    have HF : Hid (R = false) := Lib.hid (by rw [HR.out, h0, h1, h2, h3, h4]; try rfl)
    go_wp2_with fail
    go_ret
    exact ⟨ret_bool HF.out.symm, HB.out⟩
  have HF : Hid (R = true) := Lib.hid (by rw [HR.out, h0, h1, h2, h3, h4]; try rfl)
  go_wp2_with fail
  go_ret
  exact ⟨ret_bool HF.out.symm, HB.out⟩
set_option maxHeartbeats 8000000 in
set_option maxRecDepth 100000 in
theorem blank13_6 (c : Cd) (v : Value) (P : Nat → Prop) (W : World) (hC : CdAt P W c v) :
    Calls Tryz.prog 44 #[v, .int .u8 6] W fun e w' => e = .returned (.bool (blankC c 6)) ∧ Below W.heap.size W w' := by
  obtain ⟨op, a, b, ⟨tk, tn, ts, tt, tl⟩, ⟨pk, pn, ps, pt, pl⟩, l⟩ := c
  obtain ⟨TA, tcap, PA, pcap, LA, lcap, rfl, -⟩ := hC.parts
  obtain ⟨R, hR⟩ : ∃ R, R = blankC ⟨op, a, b, .mk tk tn ts tt tl, .mk pk pn ps pt pl, l⟩ 6 := ⟨_, rfl⟩
  rw [← hR]
  have HR : Hid (R = (((a == 0) || false) && (((b == 0) || true) && (((blank5 tk tn ts tt tl.length) || true) && (((blank5 pk pn ps pt pl.length) || false) && ((((l.length : Int) == 0) || false))))))) := Lib.hid (by rw [hR]; rfl)
  clear hR hC
  obtain ⟨W1, hW1⟩ : ∃ W1, W1 = W.alloc (.cells #[.int .i8 op, .int .i64 a, .int .i64 b, .int .i8 tk, .int .i64 tn, .string ts, .string tt, .slice TA tl.length tcap, .int .i8 pk, .int .i64 pn, .string ps, .string pt, .slice PA pl.length pcap, .slice LA l.length lcap] 48) := ⟨_, rfl⟩
  have gc : W1.heap[W.heap.size]? = some (.cells #[.int .i8 op, .int .i64 a, .int .i64 b, .int .i8 tk, .int .i64 tn, .string ts, .string tt, .slice TA tl.length tcap, .int .i8 pk, .int .i64 pn, .string ps, .string pt, .slice PA pl.length pcap, .slice LA l.length lcap] 48 (0, 0)) := by rw [hW1]; exact block_alloc _ _
  have HB : Hid (Below W.heap.size W W1) := Lib.hid (by rw [hW1]; exact (Below.refl _ _).alloc (Nat.le_refl _) _)
  have HGC := Lib.hid gc
  have x0 : (W1).cell? ⟨W.heap.size, 0, none⟩ = some (.int .i8 op) := cell_of_row (i := 0) gc rfl
  have x1 : (W1).cell? ⟨W.heap.size, 1, none⟩ = some (.int .i64 a) := cell_of_row (i := 1) gc rfl
  have x2 : (W1).cell? ⟨W.heap.size, 2, none⟩ = some (.int .i64 b) := cell_of_row (i := 2) gc rfl
  have x3 : (W1).cell? ⟨W.heap.size, 3, none⟩ = some (.int .i8 tk) := cell_of_row (i := 3) gc rfl
  have x4 : (W1).cell? ⟨W.heap.size, 4, none⟩ = some (.int .i64 tn) := cell_of_row (i := 4) gc rfl
  have x5 : (W1).cell? ⟨W.heap.size, 5, none⟩ = some (.string ts) := cell_of_row (i := 5) gc rfl
  have x6 : (W1).cell? ⟨W.heap.size, 6, none⟩ = some (.string tt) := cell_of_row (i := 6) gc rfl
  have x7 : (W1).cell? ⟨W.heap.size, 7, none⟩ = some (.slice TA tl.length tcap) := cell_of_row (i := 7) gc rfl
  have x8 : (W1).cell? ⟨W.heap.size, 8, none⟩ = some (.int .i8 pk) := cell_of_row (i := 8) gc rfl
  have x9 : (W1).cell? ⟨W.heap.size, 9, none⟩ = some (.int .i64 pn) := cell_of_row (i := 9) gc rfl
  have x10 : (W1).cell? ⟨W.heap.size, 10, none⟩ = some (.string ps) := cell_of_row (i := 10) gc rfl
  have x11 : (W1).cell? ⟨W.heap.size, 11, none⟩ = some (.string pt) := cell_of_row (i := 11) gc rfl
  have x12 : (W1).cell? ⟨W.heap.size, 12, none⟩ = some (.slice PA pl.length pcap) := cell_of_row (i := 12) gc rfl
  have x13 : (W1).cell? ⟨W.heap.size, 13, none⟩ = some (.slice LA l.length lcap) := cell_of_row (i := 13) gc rfl
  clear gc
  cases h0 : (a == 0)
  case false =>
    have HF : Hid (R = false) := Lib.hid (by rw [HR.out, h0]; try rfl)
    go_enter Tryz.func44, Tryz.ntmps44
    go_upto_region 1 with fail
    rw [← hW1]
    clear hW1
    go_wp2_with fail
    go_ret
    exact ⟨ret_bool HF.out.symm, HB.out⟩
  cases h1 : (b == 0)
  case false =>
    have HC2 := Lib.hid (noTerm_any tk tn ts tt TA tl.length tcap W1)
    go_enter Tryz.func44, Tryz.ntmps44
    go_upto_region 1 with fail
    rw [← hW1]
    clear hW1
    go_wp2_with fail
    refine HC2.out.mono ?_
    rintro e w2 ⟨rfl, bb⟩
    have hb := HB.out.trans (bb.mono HB.out.size)
    have gc := (bb.block _ (heap_lt HGC.out)).trans HGC.out
    clear HB HGC x0 x1 x2 x3 x4 x5 x6 x7 x8 x9 x10 x11 x12 x13
    have HB := Lib.hid hb
    have HGC := Lib.hid gc
    have x0 : (w2).cell? ⟨W.heap.size, 0, none⟩ = some (.int .i8 op) := cell_of_row (i := 0) gc rfl
    have x1 : (w2).cell? ⟨W.heap.size, 1, none⟩ = some (.int .i64 a) := cell_of_row (i := 1) gc rfl
    have x2 : (w2).cell? ⟨W.heap.size, 2, none⟩ = some (.int .i64 b) := cell_of_row (i := 2) gc rfl
    have x3 : (w2).cell? ⟨W.heap.size, 3, none⟩ = some (.int .i8 tk) := cell_of_row (i := 3) gc rfl
    have x4 : (w2).cell? ⟨W.heap.size, 4, none⟩ = some (.int .i64 tn) := cell_of_row (i := 4) gc rfl
    have x5 : (w2).cell? ⟨W.heap.size, 5, none⟩ = some (.string ts) := cell_of_row (i := 5) gc rfl
    have x6 : (w2).cell? ⟨W.heap.size, 6, none⟩ = some (.string tt) := cell_of_row (i := 6) gc rfl
    have x7 : (w2).cell? ⟨W.heap.size, 7, none⟩ = some (.slice TA tl.length tcap) := cell_of_row (i := 7) gc rfl
    have x8 : (w2).cell? ⟨W.heap.size, 8, none⟩ = some (.int .i8 pk) := cell_of_row (i := 8) gc rfl
    have x9 : (w2).cell? ⟨W.heap.size, 9, none⟩ = some (.int .i64 pn) := cell_of_row (i := 9) gc rfl
    have x10 : (w2).cell? ⟨W.heap.size, 10, none⟩ = some (.string ps) := cell_of_row (i := 10) gc rfl
    have x11 : (w2).cell? ⟨W.heap.size, 11, none⟩ = some (.string pt) := cell_of_row (i := 11) gc rfl
    have x12 : (w2).cell? ⟨W.heap.size, 12, none⟩ = some (.slice PA pl.length pcap) := cell_of_row (i := 12) gc rfl
    have x13 : (w2).cell? ⟨W.heap.size, 13, none⟩ = some (.slice LA l.length lcap) := cell_of_row (i := 13) gc rfl
    clear gc hb bb
    cases h2 : (blank5 tk tn ts tt tl.length)
    case false =>
      have HC3 := Lib.hid (noTree_any pk pn ps pt PA pl.length pcap w2)
      go_wp2_with fail
      refine HC3.out.mono ?_
      rintro e w3 ⟨rfl, bb⟩
      have hb := HB.out.trans (bb.mono HB.out.size)
      have gc := (bb.block _ (heap_lt HGC.out)).trans HGC.out
      clear HB HGC x0 x1 x2 x3 x4 x5 x6 x7 x8 x9 x10 x11 x12 x13
      have HB := Lib.hid hb
      have HGC := Lib.hid gc
      have x0 : (w3).cell? ⟨W.heap.size, 0, none⟩ = some (.int .i8 op) := cell_of_row (i := 0) gc rfl
      have x1 : (w3).cell? ⟨W.heap.size, 1, none⟩ = some (.int .i64 a) := cell_of_row (i := 1) gc rfl
      have x2 : (w3).cell? ⟨W.heap.size, 2, none⟩ = some (.int .i64 b) := cell_of_row (i := 2) gc rfl
      have x3 : (w3).cell? ⟨W.heap.size, 3, none⟩ = some (.int .i8 tk) := cell_of_row (i := 3) gc rfl
      have x4 : (w3).cell? ⟨W.heap.size, 4, none⟩ = some (.int .i64 tn) := cell_of_row (i := 4) gc rfl
      have x5 : (w3).cell? ⟨W.heap.size, 5, none⟩ = some (.string ts) := cell_of_row (i := 5) gc rfl
      have x6 : (w3).cell? ⟨W.heap.size, 6, none⟩ = some (.string tt) := cell_of_row (i := 6) gc rfl
      have x7 : (w3).cell? ⟨W.heap.size, 7, none⟩ = some (.slice TA tl.length tcap) := cell_of_row (i := 7) gc rfl
      have x8 : (w3).cell? ⟨W.heap.size, 8, none⟩ = some (.int .i8 pk) := cell_of_row (i := 8) gc rfl
      have x9 : (w3).cell? ⟨W.heap.size, 9, none⟩ = some (.int .i64 pn) := cell_of_row (i := 9) gc rfl
      have x10 : (w3).cell? ⟨W.heap.size, 10, none⟩ = some (.string ps) := cell_of_row (i := 10) gc rfl
      have x11 : (w3).cell? ⟨W.heap.size, 11, none⟩ = some (.string pt) := cell_of_row (i := 11) gc rfl
      have x12 : (w3).cell? ⟨W.heap.size, 12, none⟩ = some (.slice PA pl.length pcap) := cell_of_row (i := 12) gc rfl
      have x13 : (w3).cell? ⟨W.heap.size, 13, none⟩ = some (.slice LA l.length lcap) := cell_of_row (i := 13) gc rfl
      clear gc hb bb
      cases h3 : (blank5 pk pn ps pt pl.length)
      case false =>
        have HF : Hid (R = false) := Lib.hid (by rw [HR.out, h0, h1, h2, h3]; try rfl)
        go_wp2_with fail
        go_ret
        exact ⟨ret_bool HF.out.symm, HB.out⟩
      cases h4 : ((l.length : Int) == 0)
      case false =>
        have HF : Hid (R = false) := Lib.hid (by rw [HR.out, h0, h1, h2, h3, h4]; try rfl)
        go_wp2_with fail
        go_ret
        exact ⟨ret_bool HF.out.symm, HB.out⟩
      have HF : Hid (R = true) := Lib.hid (by rw [HR.out, h0, h1, h2, h3, h4]; try rfl)
      go_wp2_with fail
      go_ret
      exact ⟨ret_bool HF.out.symm, HB.out⟩
    have HC3 := Lib.hid (noTree_any pk pn ps pt PA pl.length pcap w2)
    go_wp2_with fail
    refine HC3.out.mono ?_
    rintro e w4 ⟨rfl, bb⟩
    have hb := HB.out.trans (bb.mono HB.out.size)
    have gc := (bb.block _ (heap_lt HGC.out)).trans HGC.out
    clear HB HGC x0 x1 x2 x3 x4 x5 x6 x7 x8 x9 x10 x11 x12 x13
    have HB := Lib.hid hb
    have HGC := Lib.hid gc
    have x0 : (w4).cell? ⟨W.heap.size, 0, none⟩ = some (.int .i8 op) := cell_of_row (i := 0) gc rfl
    have x1 : (w4).cell? ⟨W.heap.size, 1, none⟩ = some (.int .i64 a) := cell_of_row (i := 1) gc rfl
    have x2 : (w4).cell? ⟨W.heap.size, 2, none⟩ = some (.int .i64 b) := cell_of_row (i := 2) gc rfl
    have x3 : (w4).cell? ⟨W.heap.size, 3, none⟩ = some (.int .i8 tk) := cell_of_row (i := 3) gc rfl
    have x4 : (w4).cell? ⟨W.heap.size, 4, none⟩ = some (.int .i64 tn) := cell_of_row (i := 4) gc rfl
    have x5 : (w4).cell? ⟨W.heap.size, 5, none⟩ = some (.string ts) := cell_of_row (i := 5) gc rfl
    have x6 : (w4).cell? ⟨W.heap.size, 6, none⟩ = some (.string tt) := cell_of_row (i := 6) gc rfl
    have x7 : (w4).cell? ⟨W.heap.size, 7, none⟩ = some (.slice TA tl.length tcap) := cell_of_row (i := 7) gc rfl
    have x8 : (w4).cell? ⟨W.heap.size, 8, none⟩ = some (.int .i8 pk) := cell_of_row (i := 8) gc rfl
    have x9 : (w4).cell? ⟨W.heap.size, 9, none⟩ = some (.int .i64 pn) := cell_of_row (i := 9) gc rfl
    have x10 : (w4).cell? ⟨W.heap.size, 10, none⟩ = some (.string ps) := cell_of_row (i := 10) gc rfl
    have x11 : (w4).cell? ⟨W.heap.size, 11, none⟩ = some (.string pt) := cell_of_row (i := 11) gc rfl
    have x12 : (w4).cell? ⟨W.heap.size, 12, none⟩ = some (.slice PA pl.length pcap) := cell_of_row (i := 12) gc rfl
    have x13 : (w4).cell? ⟨W.heap.size, 13, none⟩ = some (.slice LA l.length lcap) := cell_of_row (i := 13) gc rfl
    clear gc hb bb
    cases h3 : (blank5 pk pn ps pt pl.length)
    case false =>
      have HF : Hid (R = false) := Lib.hid (by rw [HR.out, h0, h1, h2, h3]; try rfl)
      go_wp2_with fail
      go_ret
      exact ⟨ret_bool HF.out.symm, HB.out⟩
    cases h4 : ((l.length : Int) == 0)
    case false =>
      have HF : Hid (R = false) := Lib.hid (by rw [HR.out, h0, h1, h2, h3, h4]; try rfl)
      go_wp2_with fail
      go_ret
      exact ⟨ret_bool HF.out.symm, HB.out⟩
    have HF : Hid (R = true) := Lib.hid (by rw [HR.out, h0, h1, h2, h3, h4]; try rfl)
    go_wp2_with fail
    go_ret
    exact ⟨ret_bool HF.out.symm, HB.out⟩
  have HC2 := Lib.hid (noTerm_any tk tn ts tt TA tl.length tcap W1)
  go_enter Tryz.func44, Tryz.ntmps44
  go_upto_region 1 with fail
  rw [← hW1]
  clear hW1
  go_wp2_with fail
  refine HC2.out.mono ?_
  rintro e w5 ⟨rfl, bb⟩
  have hb := HB.out.trans (bb.mono HB.out.size)
  have gc := (bb.block _ (heap_lt HGC.out)).trans HGC.out
  clear HB HGC x0 x1 x2 x3 x4 x5 x6 x7 x8 x9 x10 x11 x12 x13
  have HB := Lib.hid hb
  have HGC := Lib.hid gc
  have x0 : (w5).cell? ⟨W.heap.size, 0, none⟩ = some (.int .i8 op) := cell_of_row (i := 0) gc rfl
  have x1 : (w5).cell? ⟨W.heap.size, 1, none⟩ = some (.int .i64 a) := cell_of_row (i := 1) gc rfl
  have x2 : (w5).cell? ⟨W.heap.size, 2, none⟩ = some (.int .i64 b) := cell_of_row (i := 2) gc rfl
  have x3 : (w5).cell? ⟨W.heap.size, 3, none⟩ = some (.int .i8 tk) := cell_of_row (i := 3) gc rfl
  have x4 : (w5).cell? ⟨W.heap.size, 4, none⟩ = some (.int .i64 tn) := cell_of_row (i := 4) gc rfl
  have x5 : (w5).cell? ⟨W.heap.size, 5, none⟩ = some (.string ts) := cell_of_row (i := 5) gc rfl
  have x6 : (w5).cell? ⟨W.heap.size, 6, none⟩ = some (.string tt) := cell_of_row (i := 6) gc rfl
  have x7 : (w5).cell? ⟨W.heap.size, 7, none⟩ = some (.slice TA tl.length tcap) := cell_of_row (i := 7) gc rfl
  have x8 : (w5).cell? ⟨W.heap.size, 8, none⟩ = some (.int .i8 pk) := cell_of_row (i := 8) gc rfl
  have x9 : (w5).cell? ⟨W.heap.size, 9, none⟩ = some (.int .i64 pn) := cell_of_row (i := 9) gc rfl
  have x10 : (w5).cell? ⟨W.heap.size, 10, none⟩ = some (.string ps) := cell_of_row (i := 10) gc rfl
  have x11 : (w5).cell? ⟨W.heap.size, 11, none⟩ = some (.string pt) := cell_of_row (i := 11) gc rfl
  have x12 : (w5).cell? ⟨W.heap.size, 12, none⟩ = some (.slice PA pl.length pcap) := cell_of_row (i := 12) gc rfl
  have x13 : (w5).cell? ⟨W.heap.size, 13, none⟩ = some (.slice LA l.length lcap) := cell_of_row (i := 13) gc rfl
  clear gc hb bb
  cases h2 : (blank5 tk tn ts tt tl.length)
  case false =>
    have HC3 := Lib.hid (noTree_any pk pn ps pt PA pl.length pcap w5)
    go_wp2_with fail
    refine HC3.out.mono ?_
    rintro e w6 ⟨rfl, bb⟩
    have hb := HB.out.trans (bb.mono HB.out.size)
    have gc := (bb.block _ (heap_lt HGC.out)).trans HGC.out
    clear HB HGC x0 x1 x2 x3 x4 x5 x6 x7 x8 x9 x10 x11 x12 x13
    have HB := Lib.hid hb
    have HGC := Lib.hid gc
    have x0 : (w6).cell? ⟨W.heap.size, 0, none⟩ = some (.int .i8 op) := cell_of_row (i := 0) gc rfl
    have x1 : (w6).cell? ⟨W.heap.size, 1, none⟩ = some (.int .i64 a) := cell_of_row (i := 1) gc rfl
    have x2 : (w6).cell? ⟨W.heap.size, 2, none⟩ = some (.int .i64 b) := cell_of_row (i := 2) gc rfl
    have x3 : (w6).cell? ⟨W.heap.size, 3, none⟩ = some (.int .i8 tk) := cell_of_row (i := 3) gc rfl
    have x4 : (w6).cell? ⟨W.heap.size, 4, none⟩ = some (.int .i64 tn) := cell_of_row (i := 4) gc rfl
    have x5 : (w6).cell? ⟨W.heap.size, 5, none⟩ = some (.string ts) := cell_of_row (i := 5) gc rfl
    have x6 : (w6).cell? ⟨W.heap.size, 6, none⟩ = some (.string tt) := cell_of_row (i := 6) gc rfl
    have x7 : (w6).cell? ⟨W.heap.size, 7, none⟩ = some (.slice TA tl.length tcap) := cell_of_row (i := 7) gc rfl
    have x8 : (w6).cell? ⟨W.heap.size, 8, none⟩ = some (.int .i8 pk) := cell_of_row (i := 8) gc rfl
    have x9 : (w6).cell? ⟨W.heap.size, 9, none⟩ = some (.int .i64 pn) := cell_of_row (i := 9) gc rfl
    have x10 : (w6).cell? ⟨W.heap.size, 10, none⟩ = some (.string ps) := cell_of_row (i := 10) gc rfl
    have x11 : (w6).cell? ⟨W.heap.size, 11, none⟩ = some (.string pt) := cell_of_row (i := 11) gc rfl
    have x12 : (w6).cell? ⟨W.heap.size, 12, none⟩ = some (.slice PA pl.length pcap) := cell_of_row (i := 12) gc rfl
    have x13 : (w6).cell? ⟨W.heap.size, 13, none⟩ = some (.slice LA l.length lcap) := cell_of_row (i := 13) gc rfl
    clear gc hb bb
    cases h3 : (blank5 pk pn ps pt pl.length)
    case false =>
      have HF : Hid (R = false) := Lib.hid (by rw [HR.out, h0, h1, h2, h3]; try rfl)
      go_wp2_with fail
      go_ret
      exact ⟨ret_bool HF.out.symm, HB.out⟩
    cases h4 : ((l.length : Int) == 0)
    case false =>
      have HF : Hid (R = false) := Lib.hid (by rw [HR.out, h0, h1, h2, h3, h4]; try rfl)
      go_wp2_with fail
      go_ret
      exact ⟨ret_bool HF.out.symm, HB.out⟩
    have HF : Hid (R = true) := Lib.hid (by rw [HR.out, h0, h1, h2, h3, h4]; try rfl)
    go_wp2_with fail
    go_ret
    exact ⟨ret_bool HF.out.symm, HB.out⟩
  have HC3 := Lib.hid (noTree_any pk pn ps pt PA pl.length pcap w5)
  go_wp2_with fail
  refine HC3.out.mono ?_
  rintro e w7 ⟨rfl, bb⟩
  have hb := HB.out.trans (bb.mono HB.out.size)
  have gc := (bb.block _ (heap_lt HGC.out)).trans HGC.out
  clear HB HGC x0 x1 x2 x3 x4 x5 x6 x7 x8 x9 x10 x11 x12 x13
  have HB := Lib.hid hb
  have HGC := Lib.hid gc
  have x0 : (w7).cell? ⟨W.heap.size, 0, none⟩ = some (.int .i8 op) := cell_of_row (i := 0) gc rfl
  have x1 : (w7).cell? ⟨W.heap.size, 1, none⟩ = some (.int .i64 a) := cell_of_row (i := 1) gc rfl
  have x2 : (w7).cell? ⟨W.heap.size, 2, none⟩ = some (.int .i64 b) := cell_of_row (i := 2) gc rfl
  have x3 : (w7).cell? ⟨W.heap.size, 3, none⟩ = some (.int .i8 tk) := cell_of_row (i := 3) gc rfl
  have x4 : (w7).cell? ⟨W.heap.size, 4, none⟩ = some (.int .i64 tn) := cell_of_row (i := 4) gc rfl
  have x5 : (w7).cell? ⟨W.heap.size, 5, none⟩ = some (.string ts) := cell_of_row (i := 5) gc rfl
  have x6 : (w7).cell? ⟨W.heap.size, 6, none⟩ = some (.string tt) := cell_of_row (i := 6) gc rfl
  have x7 : (w7).cell? ⟨W.heap.size, 7, none⟩ = some (.slice TA tl.length tcap) := cell_of_row (i := 7) gc rfl
  have x8 : (w7).cell? ⟨W.heap.size, 8, none⟩ = some (.int .i8 pk) := cell_of_row (i := 8) gc rfl
  have x9 : (w7).cell? ⟨W.heap.size, 9, none⟩ = some (.int .i64 pn) := cell_of_row (i := 9) gc rfl
  have x10 : (w7).cell? ⟨W.heap.size, 10, none⟩ = some (.string ps) := cell_of_row (i := 10) gc rfl
  have x11 : (w7).cell? ⟨W.heap.size, 11, none⟩ = some (.string pt) := cell_of_row (i := 11) gc rfl
  have x12 : (w7).cell? ⟨W.heap.size, 12, none⟩ = some (.slice PA pl.length pcap) := cell_of_row (i := 12) gc rfl
  have x13 : (w7).cell? ⟨W.heap.size, 13, none⟩ = some (.slice LA l.length lcap) := cell_of_row (i := 13) gc rfl
  clear gc hb bb
  cases h3 : (blank5 pk pn ps pt pl.length)
  case false =>
    have HF : Hid (R = false) := Lib.hid (by rw [HR.out, h0, h1, h2, h3]; try rfl)
    go_wp2_with fail
    go_ret
    exact ⟨ret_bool HF.out.symm, HB.out⟩
  cases h4 : ((l.length : Int) == 0)
  case false =>
    have HF : Hid (R = false) := Lib.hid (by rw [HR.out, h0, h1, h2, h3, h4]; try rfl)
    go_wp2_with fail
    go_ret
    exact ⟨ret_bool HF.out.symm, HB.out⟩
  have HF : Hid (R = true) := Lib.hid (by rw [HR.out, h0, h1, h2, h3, h4]; try rfl)
  go_wp2_with fail
  go_ret
  exact ⟨ret_bool HF.out.symm, HB.out⟩
set_option maxHeartbeats 8000000 in
set_option maxRecDepth 100000 in
theorem blank13_9 (c : Cd) (v : Value) (P : Nat → Prop) (W : World) (hC : CdAt P W c v) :
    Calls Tryz.prog 44 #[v, .int .u8 9] W fun e w' => e = .returned (.bool (blankC c 9)) ∧ Below W.heap.size W w' := by
  obtain ⟨op, a, b, ⟨tk, tn, ts, tt, tl⟩, ⟨pk, pn, ps, pt, pl⟩, l⟩ := c
  obtain ⟨TA, tcap, PA, pcap, LA, lcap, rfl, -⟩ := hC.parts
  obtain ⟨R, hR⟩ : ∃ R, R = blankC ⟨op, a, b, .mk tk tn ts tt tl, .mk pk pn ps pt pl, l⟩ 9 := ⟨_, rfl⟩
  rw [← hR]
  have HR : Hid (R = (((a == 0) || true) && (((b == 0) || false) && (((blank5 tk tn ts tt tl.length) || false) && (((blank5 pk pn ps pt pl.length) || true) && ((((l.length : Int) == 0) || false))))))) := Lib.hid (by rw [hR]; rfl)
  clear hR hC
  obtain ⟨W1, hW1⟩ : ∃ W1, W1 = W.alloc (.cells #[.int .i8 op, .int .i64 a, .int .i64 b, .int .i8 tk, .int .i64 tn, .string ts, .string tt, .slice TA tl.length tcap, .int .i8 pk, .int .i64 pn, .string ps, .string pt, .slice PA pl.length pcap, .slice LA l.length lcap] 48) := ⟨_, rfl⟩
  have gc : W1.heap[W.heap.size]? = some (.cells #[.int .i8 op, .int .i64 a, .int .i64 b, .int .i8 tk, .int .i64 tn, .string ts, .string tt, .slice TA tl.length tcap, .int .i8 pk, .int .i64 pn, .string ps, .string pt, .slice PA pl.length pcap, .slice LA l.length lcap] 48 (0, 0)) := by rw [hW1]; exact block_alloc _ _
  have HB : Hid (Below W.heap.size W W1) := Lib.hid (by rw [hW1]; exact (Below.refl _ _).alloc (Nat.le_refl _) _)
  have HGC := Lib.hid gc
  have x0 : (W1).cell? ⟨W.heap.size, 0, none⟩ = some (.int .i8 op) := cell_of_row (i := 0) gc rfl
  have x1 : (W1).cell? ⟨W.heap.size, 1, none⟩ = some (.int .i64 a) := cell_of_row (i := 1) gc rfl
  have x2 : (W1).cell? ⟨W.heap.size, 2, none⟩ = some (.int .i64 b) := cell_of_row (i := 2) gc rfl
  have x3 : (W1).cell? ⟨W.heap.size, 3, none⟩ = some (.int .i8 tk) := cell_of_row (i := 3) gc rfl
  have x4 : (W1).cell? ⟨W.heap.size, 4, none⟩ = some (.int .i64 tn) := cell_of_row (i := 4) gc rfl
  have x5 : (W1).cell? ⟨W.heap.size, 5, none⟩ = some (.string ts) := cell_of_row (i := 5) gc rfl
  have x6 : (W1).cell? ⟨W.heap.size, 6, none⟩ = some (.string tt) := cell_of_row (i := 6) gc rfl
  have x7 : (W1).cell? ⟨W.heap.size, 7, none⟩ = some (.slice TA tl.length tcap) := cell_of_row (i := 7) gc rfl
  have x8 : (W1).cell? ⟨W.heap.size, 8, none⟩ = some (.int .i8 pk) := cell_of_row (i := 8) gc rfl
  have x9 : (W1).cell? ⟨W.heap.size, 9, none⟩ = some (.int .i64 pn) := cell_of_row (i := 9) gc rfl
  have x10 : (W1).cell? ⟨W.heap.size, 10, none⟩ = some (.string ps) := cell_of_row (i := 10) gc rfl
  have x11 : (W1).cell? ⟨W.heap.size, 11, none⟩ = some (.string pt) := cell_of_row (i := 11) gc rfl
  have x12 : (W1).cell? ⟨W.heap.size, 12, none⟩ = some (.slice PA pl.length pcap) := cell_of_row (i := 12) gc rfl
  have x13 : (W1).cell? ⟨W.heap.size, 13, none⟩ = some (.slice LA l.length lcap) := cell_of_row (i := 13) gc rfl
  clear gc
  cases h0 : (a == 0)
  case false =>
    cases h1 : (b == 0)
    case false =>
      have HF : Hid (R = false) := Lib.hid (by rw [HR.out, h0, h1]; try rfl)
      go_enter Tryz.func44, Tryz.ntmps44
      go_upto_region 1 with fail
      rw [← hW1]
      clear hW1
      go_wp2_with fail
      go_ret
      exact ⟨ret_bool HF.out.symm, HB.out⟩
    have HC2 := Lib.hid (noTerm_any tk tn ts tt TA tl.length tcap W1)
    go_enter Tryz.func44, Tryz.ntmps44
    go_upto_region 1 with fail
    rw [← hW1]
    clear hW1
    go_wp2_with fail
    refine HC2.out.mono ?_
    rintro e w2 ⟨rfl, bb⟩
    have hb := HB.out.trans (bb.mono HB.out.size)
    have gc := (bb.block _ (heap_lt HGC.out)).trans HGC.out
    clear HB HGC x0 x1 x2 x3 x4 x5 x6 x7 x8 x9 x10 x11 x12 x13
    have HB := Lib.hid hb
    have HGC := Lib.hid gc
    have x0 : (w2).cell? ⟨W.heap.size, 0, none⟩ = some (.int .i8 op) := cell_of_row (i := 0) gc rfl
    have x1 : (w2).cell? ⟨W.heap.size, 1, none⟩ = some (.int .i64 a) := cell_of_row (i := 1) gc rfl
    have x2 : (w2).cell? ⟨W.heap.size, 2, none⟩ = some (.int .i64 b) := cell_of_row (i := 2) gc rfl
    have x3 : (w2).cell? ⟨W.heap.size, 3, none⟩ = some (.int .i8 tk) := cell_of_row (i := 3) gc rfl
    have x4 : (w2).cell? ⟨W.heap.size, 4, none⟩ = some (.int .i64 tn) := cell_of_row (i := 4) gc rfl
    have x5 : (w2).cell? ⟨W.heap.size, 5, none⟩ = some (.string ts) := cell_of_row (i := 5) gc rfl
    have x6 : (w2).cell? ⟨W.heap.size, 6, none⟩ = some (.string tt) := cell_of_row (i := 6) gc rfl
    have x7 : (w2).cell? ⟨W.heap.size, 7, none⟩ = some (.slice TA tl.length tcap) := cell_of_row (i := 7) gc rfl
    have x8 : (w2).cell? ⟨W.heap.size, 8, none⟩ = some (.int .i8 pk) := cell_of_row (i := 8) gc rfl
    have x9 : (w2).cell? ⟨W.heap.size, 9, none⟩ = some (.int .i64 pn) := cell_of_row (i := 9) gc rfl
    have x10 : (w2).cell? ⟨W.heap.size, 10, none⟩ = some (.string ps) := cell_of_row (i := 10) gc rfl
    have x11 : (w2).cell? ⟨W.heap.size, 11, none⟩ = some (.string pt) := cell_of_row (i := 11) gc rfl
    have x12 : (w2).cell? ⟨W.heap.size, 12, none⟩ = some (.slice PA pl.length pcap) := cell_of_row (i := 12) gc rfl
    have x13 : (w2).cell? ⟨W.heap.size, 13, none⟩ = some (.slice LA l.length lcap) := cell_of_row (i := 13) gc rfl
    clear gc hb bb
    cases h2 : (blank5 tk tn ts tt tl.length)
    case false =>
      have HF : Hid (R = false) := Lib.hid (by rw [HR.out, h0, h1, h2]; try rfl)
      go_wp2_with fail
      go_ret
      exact ⟨ret_bool HF.out.symm, HB.out⟩
    have HC3 := Lib.hid (noTree_any pk pn ps pt PA pl.length pcap w2)
    go_wp2_with fail
    refine HC3.out.mono ?_
    rintro e w3 ⟨rfl, bb⟩
    have hb := HB.out.trans (bb.mono HB.out.size)
    have gc := (bb.block _ (heap_lt HGC.out)).trans HGC.out
    clear HB HGC x0 x1 x2 x3 x4 x5 x6 x7 x8 x9 x10 x11 x12 x13
    have HB := Lib.hid hb
    have HGC := Lib.hid gc
    have x0 : (w3).cell? ⟨W.heap.size, 0, none⟩ = some (.int .i8 op) := cell_of_row (i := 0) gc rfl
    have x1 : (w3).cell? ⟨W.heap.size, 1, none⟩ = some (.int .i64 a) := cell_of_row (i := 1) gc rfl
    have x2 : (w3).cell? ⟨W.heap.size, 2, none⟩ = some (.int .i64 b) := cell_of_row (i := 2) gc rfl
    have x3 : (w3).cell? ⟨W.heap.size, 3, none⟩ = some (.int .i8 tk) := cell_of_row (i := 3) gc rfl
    have x4 : (w3).cell? ⟨W.heap.size, 4, none⟩ = some (.int .i64 tn) := cell_of_row (i := 4) gc rfl
    have x5 : (w3).cell? ⟨W.heap.size, 5, none⟩ = some (.string ts) := cell_of_row (i := 5) gc rfl
    have x6 : (w3).cell? ⟨W.heap.size, 6, none⟩ = some (.string tt) := cell_of_row (i := 6) gc rfl
    have x7 : (w3).cell? ⟨W.heap.size, 7, none⟩ = some (.slice TA tl.length tcap) := cell_of_row (i := 7) gc rfl
    have x8 : (w3).cell? ⟨W.heap.size, 8, none⟩ = some (.int .i8 pk) := cell_of_row (i := 8) gc rfl
    have x9 : (w3).cell? ⟨W.heap.size, 9, none⟩ = some (.int .i64 pn) := cell_of_row (i := 9) gc rfl
    have x10 : (w3).cell? ⟨W.heap.size, 10, none⟩ = some (.string ps) := cell_of_row (i := 10) gc rfl
    have x11 : (w3).cell? ⟨W.heap.size, 11, none⟩ = some (.string pt) := cell_of_row (i := 11) gc rfl
    have x12 : (w3).cell? ⟨W.heap.size, 12, none⟩ = some (.slice PA pl.length pcap) := cell_of_row (i := 12) gc rfl
    have x13 : (w3).cell? ⟨W.heap.size, 13, none⟩ = some (.slice LA l.length lcap) := cell_of_row (i := 13) gc rfl
    clear gc hb bb
    cases h3 : (blank5 pk pn ps pt pl.length)
    case false =>
      cases h4 : ((l.length : Int) == 0)
      case false =>
        have HF : Hid (R = false) := Lib.hid (by rw [HR.out, h0, h1, h2, h3, h4]; try rfl)
        go_wp2_with fail
        go_ret
        exact ⟨ret_bool HF.out.symm, HB.out⟩
      have HF : Hid (R = true) := Lib.hid (by rw [HR.out, h0, h1, h2, h3, h4]; try rfl)
      go_wp2_with fail
      go_ret
      exact ⟨ret_bool HF.out.symm, HB.out⟩
    cases h4 : ((l.length : Int) == 0)
    case false =>
      have HF : Hid (R = false) := Lib.hid (by rw [HR.out, h0, h1, h2, h3, h4]; try rfl)
      go_wp2_with fail
      go_ret
      exact ⟨ret_bool HF.out.symm, HB.out⟩
    have HF : Hid (R = true) := Lib.hid (by rw [HR.out, h0, h1, h2, h3, h4]; try rfl)
    go_wp2_with fail
    go_ret
    exact ⟨ret_bool HF.out.symm, HB.out⟩
  cases h1 : (b == 0)
  case false =>
    have HF : Hid (R = false) := Lib.hid (by rw [HR.out, h0, h1]; try rfl)
    go_enter Tryz.func44, Tryz.ntmps44
    go_upto_region 1 with fail
    rw [← hW1]
    clear hW1
    go_wp2_with fail
    go_ret
    exact ⟨ret_bool HF.out.symm, HB.out⟩
  have HC2 := Lib.hid (noTerm_any tk tn ts tt TA tl.length tcap W1)
  go_enter Tryz.func44, Tryz.ntmps44
  go_upto_region 1 with fail
  rw [← hW1]
  clear hW1
  go_wp2_with fail
  refine HC2.out.mono ?_
  rintro e w4 ⟨rfl, bb⟩
  have hb := HB.out.trans (bb.mono HB.out.size)
  have gc := (bb.block _ (heap_lt HGC.out)).trans HGC.out
  clear HB HGC x0 x1 x2 x3 x4 x5 x6 x7 x8 x9 x10 x11 x12 x13
  have HB := Lib.hid hb
  have HGC := Lib.hid gc
  have x0 : (w4).cell? ⟨W.heap.size, 0, none⟩ = some (.int .i8 op) := cell_of_row (i := 0) gc rfl
  have x1 : (w4).cell? ⟨W.heap.size, 1, none⟩ = some (.int .i64 a) := cell_of_row (i := 1) gc rfl
  have x2 : (w4).cell? ⟨W.heap.size, 2, none⟩ = some (.int .i64 b) := cell_of_row (i := 2) gc rfl
  have x3 : (w4).cell? ⟨W.heap.size, 3, none⟩ = some (.int .i8 tk) := cell_of_row (i := 3) gc rfl
  have x4 : (w4).cell? ⟨W.heap.size, 4, none⟩ = some (.int .i64 tn) := cell_of_row (i := 4) gc rfl
  have x5 : (w4).cell? ⟨W.heap.size, 5, none⟩ = some (.string ts) := cell_of_row (i := 5) gc rfl
  have x6 : (w4).cell? ⟨W.heap.size, 6, none⟩ = some (.string tt) := cell_of_row (i := 6) gc rfl
  have x7 : (w4).cell? ⟨W.heap.size, 7, none⟩ = some (.slice TA tl.length tcap) := cell_of_row (i := 7) gc rfl
  have x8 : (w4).cell? ⟨W.heap.size, 8, none⟩ = some (.int .i8 pk) := cell_of_row (i := 8) gc rfl
  have x9 : (w4).cell? ⟨W.heap.size, 9, none⟩ = some (.int .i64 pn) := cell_of_row (i := 9) gc rfl
  have x10 : (w4).cell? ⟨W.heap.size, 10, none⟩ = some (.string ps) := cell_of_row (i := 10) gc rfl
  have x11 : (w4).cell? ⟨W.heap.size, 11, none⟩ = some (.string pt) := cell_of_row (i := 11) gc rfl
  have x12 : (w4).cell? ⟨W.heap.size, 12, none⟩ = some (.slice PA pl.length pcap) := cell_of_row (i := 12) gc rfl
  have x13 : (w4).cell? ⟨W.heap.size, 13, none⟩ = some (.slice LA l.length lcap) := cell_of_row (i := 13) gc rfl
  clear gc hb bb
  cases h2 : (blank5 tk tn ts tt tl.length)
  case false =>
    have HF : Hid (R = false) := Lib.hid (by rw [HR.out, h0, h1, h2]; try rfl)
    go_wp2_with fail
    go_ret
    exact ⟨ret_bool HF.out.symm, HB.out⟩
  have HC3 := Lib.hid (noTree_any pk pn ps pt PA pl.length pcap w4)
  go_wp2_with fail
  refine HC3.out.mono ?_
  rintro e w5 ⟨rfl, bb⟩
  have hb := HB.out.trans (bb.mono HB.out.size)
  have gc := (bb.block _ (heap_lt HGC.out)).trans HGC.out
  clear HB HGC x0 x1 x2 x3 x4 x5 x6 x7 x8 x9 x10 x11 x12 x13
  have HB := Lib.hid hb
  have HGC := Lib.hid gc
  have x0 : (w5).cell? ⟨W.heap.size, 0, none⟩ = some (.int .i8 op) := cell_of_row (i := 0) gc rfl
  have x1 : (w5).cell? ⟨W.heap.size, 1, none⟩ = some (.int .i64 a) := cell_of_row (i := 1) gc rfl
  have x2 : (w5).cell? ⟨W.heap.size, 2, none⟩ = some (.int .i64 b) := cell_of_row (i := 2) gc rfl
  have x3 : (w5).cell? ⟨W.heap.size, 3, none⟩ = some (.int .i8 tk) := cell_of_row (i := 3) gc rfl
  have x4 : (w5).cell? ⟨W.heap.size, 4, none⟩ = some (.int .i64 tn) := cell_of_row (i := 4) gc rfl
  have x5 : (w5).cell? ⟨W.heap.size, 5, none⟩ = some (.string ts) := cell_of_row (i := 5) gc rfl
  have x6 : (w5).cell? ⟨W.heap.size, 6, none⟩ = some (.string tt) := cell_of_row (i := 6) gc rfl
  have x7 : (w5).cell? ⟨W.heap.size, 7, none⟩ = some (.slice TA tl.length tcap) := cell_of_row (i := 7) gc rfl
  have x8 : (w5).cell? ⟨W.heap.size, 8, none⟩ = some (.int .i8 pk) := cell_of_row (i := 8) gc rfl
  have x9 : (w5).cell? ⟨W.heap.size, 9, none⟩ = some (.int .i64 pn) := cell_of_row (i := 9) gc rfl
  have x10 : (w5).cell? ⟨W.heap.size, 10, none⟩ = some (.string ps) := cell_of_row (i := 10) gc rfl
  have x11 : (w5).cell? ⟨W.heap.size, 11, none⟩ = some (.string pt) := cell_of_row (i := 11) gc rfl
  have x12 : (w5).cell? ⟨W.heap.size, 12, none⟩ = some (.slice PA pl.length pcap) := cell_of_row (i := 12) gc rfl
  have x13 : (w5).cell? ⟨W.heap.size, 13, none⟩ = some (.slice LA l.length lcap) := cell_of_row (i := 13) gc rfl
  clear gc hb bb
  cases h3 : (blank5 pk pn ps pt pl.length)
  case false =>
    cases h4 : ((l.length : Int) == 0)
    case false =>
      have HF : Hid (R = false) := Lib.hid (by rw [HR.out, h0, h1, h2, h3, h4]; try rfl)
      go_wp2_with fail
      go_ret
      exact ⟨ret_bool HF.out.symm, HB.out⟩
    have HF : Hid (R = true) := Lib.hid (by rw [HR.out, h0, h1, h2, h3, h4]; try rfl)
    go_wp2_with fail
    go_ret
    exact ⟨ret_bool HF.out.symm, HB.out⟩
  cases h4 : ((l.length : Int) == 0)
  case false =>
    have HF : Hid (R = false) := Lib.hid (by rw [HR.out, h0, h1, h2, h3, h4]; try rfl)
    go_wp2_with fail
    go_ret
    exact ⟨ret_bool HF.out.symm, HB.out⟩
  have HF : Hid (R = true) := Lib.hid (by rw [HR.out, h0, h1, h2, h3, h4]; try rfl)
  go_wp2_with fail
  go_ret
  exact ⟨ret_bool HF.out.symm, HB.out⟩
end Go.Proofs.YtndihgdhpfjgmaaGreatDoor
