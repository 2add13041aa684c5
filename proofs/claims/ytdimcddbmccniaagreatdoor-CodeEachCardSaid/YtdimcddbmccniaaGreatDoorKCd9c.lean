/- Layer 13: are the fields empty that an instruction does not name? (written by gen_cd9.py) -/
import Derived.Test.YtdimcddbmccniaaGreatDoorKRangeO
set_option linter.unusedVariables false
set_option linter.unusedSimpArgs false
namespace Go.Proofs.YtdimcddbmccniaaGreatDoor
open Go.RowKit

set_option maxHeartbeats 8000000 in
set_option maxRecDepth 100000 in
theorem blank13_11 (c : Cd) (v : Value) (P : Nat → Prop) (W : World) (hC : CdAt P W c v) :
    Calls Tryz.prog 77 #[v, .int .u8 11] W fun e w' => e = .returned (.bool (blankC c 11)) ∧ Below W.heap.size W w' := by
  obtain ⟨op, a, b, ⟨tk, tn, ts, tt, tl⟩, ⟨pk, pn, ps, pt, pl⟩, l⟩ := c
  obtain ⟨TA, tcap, PA, pcap, LA, lcap, rfl, -⟩ := hC.parts
  obtain ⟨R, hR⟩ : ∃ R, R = blankC ⟨op, a, b, .mk tk tn ts tt tl, .mk pk pn ps pt pl, l⟩ 11 := ⟨_, rfl⟩
  rw [← hR]
  have HR : Hid (R = (((a == 0) || true) && (((b == 0) || true) && (((blank5 tk tn ts tt tl.length) || false) && (((blank5 pk pn ps pt pl.length) || true) && ((((l.length : Int) == 0) || false))))))) := Lib.hid (by rw [hR]; rfl)
  clear hR hC
  obtain ⟨W1, hW1⟩ : ∃ W1, W1 = W.alloc (.cells #[.int .i8 op, .int .i64 a, .int .i64 b, .int .i8 tk, .int .i64 tn, .string ts, .string tt, .slice TA tl.length tcap, .int .i8 pk, .int .i64 pn, .string ps, .string pt, .slice PA pl.length pcap, .slice LA l.length lcap] 50) := ⟨_, rfl⟩
  have gc : W1.heap[W.heap.size]? = some (.cells #[.int .i8 op, .int .i64 a, .int .i64 b, .int .i8 tk, .int .i64 tn, .string ts, .string tt, .slice TA tl.length tcap, .int .i8 pk, .int .i64 pn, .string ps, .string pt, .slice PA pl.length pcap, .slice LA l.length lcap] 50 (0, 0)) := by rw [hW1]; exact block_alloc _ _
  have HB : Hid (Below W.heap.size W W1) := Lib.hid (by rw [hW1]; exact (Below.refl _ _).alloc (Nat.le_refl _) _)
  have HGC := Lib.hid gc
  obtain ⟨x0, x1, x2, x3, x4, x5, x6, x7, x8, x9, x10, x11, x12, x13⟩ := c14 gc
  clear gc
  cases h0 : (a == 0)
  case false =>
    cases h1 : (b == 0)
    case false =>
      have HC2 := Lib.hid (noTerm_any tk tn ts tt TA tl.length tcap W1)
      go_enter Tryz.func77, Tryz.ntmps77
      go_upto_region 1 with fail
      rw [← hW1]
      clear hW1
      go_wp2_with fail
      refine HC2.out.mono ?_
      rintro e w2 ⟨rfl, bb⟩
      have hb := HB.out.trans (bb.mono HB.out.size)
      have gc := (bb.block _ (heap_lt HGC.out)).trans HGC.out
      clear HB HGC x0 x1 x2 x3 x4 x5 x6 x7 x8 x9 x10 x11 x12 x13
      have HB := Lib.hid hb
      have HGC := Lib.hid gc
      obtain ⟨x0, x1, x2, x3, x4, x5, x6, x7, x8, x9, x10, x11, x12, x13⟩ := c14 gc
      clear gc hb bb
      cases h2 : (blank5 tk tn ts tt tl.length)
      case false =>
        have HF : Hid (R = false) := Lib.hid (by rw [HR.out, h0, h1, h2]; try rfl)
        go_wp2_with fail
        go_ret
        exact ⟨ret_bool HF.out.symm, HB.out⟩
      have HC3 := Lib.hid (noTree_any pk pn ps pt PA pl.length pcap w2)
      go_wp2_with fail
      refine HC3.out.mono ?_
      rintro e w3 ⟨rfl, bb⟩
      have hb := HB.out.trans (bb.mono HB.out.size)
      have gc := (bb.block _ (heap_lt HGC.out)).trans HGC.out
      clear HB HGC x0 x1 x2 x3 x4 x5 x6 x7 x8 x9 x10 x11 x12 x13
      have HB := Lib.hid hb
      have HGC := Lib.hid gc
      obtain ⟨x0, x1, x2, x3, x4, x5, x6, x7, x8, x9, x10, x11, x12, x13⟩ := c14 gc
      clear gc hb bb
      cases h3 : (blank5 pk pn ps pt pl.length)
      case false =>
        cases h4 : ((l.length : Int) == 0)
        case false =>
          have HF : Hid (R = false) := Lib.hid (by rw [HR.out, h0, h1, h2, h3, h4]; try rfl)
          go_wp2_with fail
          go_ret
          exact ⟨ret_bool HF.out.symm, HB.out⟩
        have HF : Hid (R = true) := Lib.hid (by rw [HR.out, h0, h1, h2, h3, h4]; try rfl)
        go_wp2_with fail
        go_ret
        exact ⟨ret_bool HF.out.symm, HB.out⟩
      cases h4 : ((l.length : Int) == 0)
      case false =>
        have HF : Hid (R = false) := Lib.hid (by rw [HR.out, h0, h1, h2, h3, h4]; try rfl)
        go_wp2_with fail
        go_ret
        exact ⟨ret_bool HF.out.symm, HB.out⟩
      have HF : Hid (R = true) := Lib.hid (by rw [HR.out, h0, h1, h2, h3, h4]; try rfl)
      go_wp2_with fail
      go_ret
      exact ⟨ret_bool HF.out.symm, HB.out⟩
    have HC2 := Lib.hid (noTerm_any tk tn ts tt TA tl.length tcap W1)
    go_enter Tryz.func77, Tryz.ntmps77
    go_upto_region 1 with fail
    rw [← hW1]
    clear hW1
    go_wp2_with fail
    refine HC2.out.mono ?_
    rintro e w4 ⟨rfl, bb⟩
    have hb := HB.out.trans (bb.mono HB.out.size)
    have gc := (bb.block _ (heap_lt HGC.out)).trans HGC.out
    clear HB HGC x0 x1 x2 x3 x4 x5 x6 x7 x8 x9 x10 x11 x12 x13
    have HB := Lib.hid hb
    have HGC := Lib.hid gc
    obtain ⟨x0, x1, x2, x3, x4, x5, x6, x7, x8, x9, x10, x11, x12, x13⟩ := c14 gc
    clear gc hb bb
    cases h2 : (blank5 tk tn ts tt tl.length)
    case false =>
      have HF : Hid (R = false) := Lib.hid (by rw [HR.out, h0, h1, h2]; try rfl)
      go_wp2_with fail
      go_ret
      exact ⟨ret_bool HF.out.symm, HB.out⟩
    have HC3 := Lib.hid (noTree_any pk pn ps pt PA pl.length pcap w4)
    go_wp2_with fail
    refine HC3.out.mono ?_
    rintro e w5 ⟨rfl, bb⟩
    have hb := HB.out.trans (bb.mono HB.out.size)
    have gc := (bb.block _ (heap_lt HGC.out)).trans HGC.out
    clear HB HGC x0 x1 x2 x3 x4 x5 x6 x7 x8 x9 x10 x11 x12 x13
    have HB := Lib.hid hb
    have HGC := Lib.hid gc
    obtain ⟨x0, x1, x2, x3, x4, x5, x6, x7, x8, x9, x10, x11, x12, x13⟩ := c14 gc
    clear gc hb bb
    cases h3 : (blank5 pk pn ps pt pl.length)
    case false =>
      cases h4 : ((l.length : Int) == 0)
      case false =>
        have HF : Hid (R = false) := Lib.hid (by rw [HR.out, h0, h1, h2, h3, h4]; try rfl)
        go_wp2_with fail
        go_ret
        exact ⟨ret_bool HF.out.symm, HB.out⟩
      have HF : Hid (R = true) := Lib.hid (by rw [HR.out, h0, h1, h2, h3, h4]; try rfl)
      go_wp2_with fail
      go_ret
      exact ⟨ret_bool HF.out.symm, HB.out⟩
    cases h4 : ((l.length : Int) == 0)
    case false =>
      have HF : Hid (R = false) := Lib.hid (by rw [HR.out, h0, h1, h2, h3, h4]; try rfl)
      go_wp2_with fail
      go_ret
      exact ⟨ret_bool HF.out.symm, HB.out⟩
    have HF : Hid (R = true) := Lib.hid (by rw [HR.out, h0, h1, h2, h3, h4]; try rfl)
    go_wp2_with fail
    go_ret
    exact ⟨ret_bool HF.out.symm, HB.out⟩
  cases h1 : (b == 0)
  case false =>
    have HC2 := Lib.hid (noTerm_any tk tn ts tt TA tl.length tcap W1)
    go_enter Tryz.func77, Tryz.ntmps77
    go_upto_region 1 with fail
    rw [← hW1]
    clear hW1
    go_wp2_with fail
    refine HC2.out.mono ?_
    rintro e w6 ⟨rfl, bb⟩
    have hb := HB.out.trans (bb.mono HB.out.size)
    have gc := (bb.block _ (heap_lt HGC.out)).trans HGC.out
    clear HB HGC x0 x1 x2 x3 x4 x5 x6 x7 x8 x9 x10 x11 x12 x13
    have HB := Lib.hid hb
    have HGC := Lib.hid gc
    obtain ⟨x0, x1, x2, x3, x4, x5, x6, x7, x8, x9, x10, x11, x12, x13⟩ := c14 gc
    clear gc hb bb
    cases h2 : (blank5 tk tn ts tt tl.length)
    case false =>
      have HF : Hid (R = false) := Lib.hid (by rw [HR.out, h0, h1, h2]; try rfl)
      go_wp2_with fail
      go_ret
      exact ⟨ret_bool HF.out.symm, HB.out⟩
    have HC3 := Lib.hid (noTree_any pk pn ps pt PA pl.length pcap w6)
    go_wp2_with fail
    refine HC3.out.mono ?_
    rintro e w7 ⟨rfl, bb⟩
    have hb := HB.out.trans (bb.mono HB.out.size)
    have gc := (bb.block _ (heap_lt HGC.out)).trans HGC.out
    clear HB HGC x0 x1 x2 x3 x4 x5 x6 x7 x8 x9 x10 x11 x12 x13
    have HB := Lib.hid hb
    have HGC := Lib.hid gc
    obtain ⟨x0, x1, x2, x3, x4, x5, x6, x7, x8, x9, x10, x11, x12, x13⟩ := c14 gc
    clear gc hb bb
    cases h3 : (blank5 pk pn ps pt pl.length)
    case false =>
      cases h4 : ((l.length : Int) == 0)
      case false =>
        have HF : Hid (R = false) := Lib.hid (by rw [HR.out, h0, h1, h2, h3, h4]; try rfl)
        go_wp2_with fail
        go_ret
        exact ⟨ret_bool HF.out.symm, HB.out⟩
      have HF : Hid (R = true) := Lib.hid (by rw [HR.out, h0, h1, h2, h3, h4]; try rfl)
      go_wp2_with fail
      go_ret
      exact ⟨ret_bool HF.out.symm, HB.out⟩
    cases h4 : ((l.length : Int) == 0)
    case false =>
      have HF : Hid (R = false) := Lib.hid (by rw [HR.out, h0, h1, h2, h3, h4]; try rfl)
      go_wp2_with fail
      go_ret
      exact ⟨ret_bool HF.out.symm, HB.out⟩
    have HF : Hid (R = true) := Lib.hid (by rw [HR.out, h0, h1, h2, h3, h4]; try rfl)
    go_wp2_with fail
    go_ret
    exact ⟨ret_bool HF.out.symm, HB.out⟩
  have HC2 := Lib.hid (noTerm_any tk tn ts tt TA tl.length tcap W1)
  go_enter Tryz.func77, Tryz.ntmps77
  go_upto_region 1 with fail
  rw [← hW1]
  clear hW1
  go_wp2_with fail
  refine HC2.out.mono ?_
  rintro e w8 ⟨rfl, bb⟩
  have hb := HB.out.trans (bb.mono HB.out.size)
  have gc := (bb.block _ (heap_lt HGC.out)).trans HGC.out
  clear HB HGC x0 x1 x2 x3 x4 x5 x6 x7 x8 x9 x10 x11 x12 x13
  have HB := Lib.hid hb
  have HGC := Lib.hid gc
  obtain ⟨x0, x1, x2, x3, x4, x5, x6, x7, x8, x9, x10, x11, x12, x13⟩ := c14 gc
  clear gc hb bb
  cases h2 : (blank5 tk tn ts tt tl.length)
  case false =>
    have HF : Hid (R = false) := Lib.hid (by rw [HR.out, h0, h1, h2]; try rfl)
    go_wp2_with fail
    go_ret
    exact ⟨ret_bool HF.out.symm, HB.out⟩
  have HC3 := Lib.hid (noTree_any pk pn ps pt PA pl.length pcap w8)
  go_wp2_with fail
  refine HC3.out.mono ?_
  rintro e w9 ⟨rfl, bb⟩
  have hb := HB.out.trans (bb.mono HB.out.size)
  have gc := (bb.block _ (heap_lt HGC.out)).trans HGC.out
  clear HB HGC x0 x1 x2 x3 x4 x5 x6 x7 x8 x9 x10 x11 x12 x13
  have HB := Lib.hid hb
  have HGC := Lib.hid gc
  obtain ⟨x0, x1, x2, x3, x4, x5, x6, x7, x8, x9, x10, x11, x12, x13⟩ := c14 gc
  clear gc hb bb
  cases h3 : (blank5 pk pn ps pt pl.length)
  case false =>
    cases h4 : ((l.length : Int) == 0)
    case false =>
      have HF : Hid (R = false) := Lib.hid (by rw [HR.out, h0, h1, h2, h3, h4]; try rfl)
      go_wp2_with fail
      go_ret
      exact ⟨ret_bool HF.out.symm, HB.out⟩
    have HF : Hid (R = true) := Lib.hid (by rw [HR.out, h0, h1, h2, h3, h4]; try rfl)
    go_wp2_with fail
    go_ret
    exact ⟨ret_bool HF.out.symm, HB.out⟩
  cases h4 : ((l.length : Int) == 0)
  case false =>
    have HF : Hid (R = false) := Lib.hid (by rw [HR.out, h0, h1, h2, h3, h4]; try rfl)
    go_wp2_with fail
    go_ret
    exact ⟨ret_bool HF.out.symm, HB.out⟩
  have HF : Hid (R = true) := Lib.hid (by rw [HR.out, h0, h1, h2, h3, h4]; try rfl)
  go_wp2_with fail
  go_ret
  exact ⟨ret_bool HF.out.symm, HB.out⟩
set_option maxHeartbeats 8000000 in
set_option maxRecDepth 100000 in
theorem blank13_23 (c : Cd) (v : Value) (P : Nat → Prop) (W : World) (hC : CdAt P W c v) :
    Calls Tryz.prog 77 #[v, .int .u8 23] W fun e w' => e = .returned (.bool (blankC c 23)) ∧ Below W.heap.size W w' := by
  obtain ⟨op, a, b, ⟨tk, tn, ts, tt, tl⟩, ⟨pk, pn, ps, pt, pl⟩, l⟩ := c
  obtain ⟨TA, tcap, PA, pcap, LA, lcap, rfl, -⟩ := hC.parts
  obtain ⟨R, hR⟩ : ∃ R, R = blankC ⟨op, a, b, .mk tk tn ts tt tl, .mk pk pn ps pt pl, l⟩ 23 := ⟨_, rfl⟩
  rw [← hR]
  have HR : Hid (R = (((a == 0) || true) && (((b == 0) || true) && (((blank5 tk tn ts tt tl.length) || true) && (((blank5 pk pn ps pt pl.length) || false) && ((((l.length : Int) == 0) || true))))))) := Lib.hid (by rw [hR]; rfl)
  clear hR hC
  obtain ⟨W1, hW1⟩ : ∃ W1, W1 = W.alloc (.cells #[.int .i8 op, .int .i64 a, .int .i64 b, .int .i8 tk, .int .i64 tn, .string ts, .string tt, .slice TA tl.length tcap, .int .i8 pk, .int .i64 pn, .string ps, .string pt, .slice PA pl.length pcap, .slice LA l.length lcap] 50) := ⟨_, rfl⟩
  have gc : W1.heap[W.heap.size]? = some (.cells #[.int .i8 op, .int .i64 a, .int .i64 b, .int .i8 tk, .int .i64 tn, .string ts, .string tt, .slice TA tl.length tcap, .int .i8 pk, .int .i64 pn, .string ps, .string pt, .slice PA pl.length pcap, .slice LA l.length lcap] 50 (0, 0)) := by rw [hW1]; exact block_alloc _ _
  have HB : Hid (Below W.heap.size W W1) := Lib.hid (by rw [hW1]; exact (Below.refl _ _).alloc (Nat.le_refl _) _)
  have HGC := Lib.hid gc
  obtain ⟨x0, x1, x2, x3, x4, x5, x6, x7, x8, x9, x10, x11, x12, x13⟩ := c14 gc
  clear gc
  cases h0 : (a == 0)
  case false =>
    cases h1 : (b == 0)
    case false =>
      have HC2 := Lib.hid (noTerm_any tk tn ts tt TA tl.length tcap W1)
      go_enter Tryz.func77, Tryz.ntmps77
      go_upto_region 1 with fail
      rw [← hW1]
      clear hW1
      go_wp2_with fail
      refine HC2.out.mono ?_
      rintro e w2 ⟨rfl, bb⟩
      have hb := HB.out.trans (bb.mono HB.out.size)
      have gc := (bb.block _ (heap_lt HGC.out)).trans HGC.out
      clear HB HGC x0 x1 x2 x3 x4 x5 x6 x7 x8 x9 x10 x11 x12 x13
      have HB := Lib.hid hb
      have HGC := Lib.hid gc
      obtain ⟨x0, x1, x2, x3, x4, x5, x6, x7, x8, x9, x10, x11, x12, x13⟩ := c14 gc
      clear gc hb bb
      cases h2 : (blank5 tk tn ts tt tl.length)
      case false =>
        have HC3 := Lib.hid (noTree_any pk pn ps pt PA pl.length pcap w2)
        go_wp2_with fail
        refine HC3.out.mono ?_
        rintro e w3 ⟨rfl, bb⟩
        have hb := HB.out.trans (bb.mono HB.out.size)
        have gc := (bb.block _ (heap_lt HGC.out)).trans HGC.out
        clear HB HGC x0 x1 x2 x3 x4 x5 x6 x7 x8 x9 x10 x11 x12 x13
        have HB := Lib.hid hb
        have HGC := Lib.hid gc
        obtain ⟨x0, x1, x2, x3, x4, x5, x6, x7, x8, x9, x10, x11, x12, x13⟩ := c14 gc
        clear gc hb bb
        cases h3 : (blank5 pk pn ps pt pl.length)
        case false =>
          have HF : Hid (R = false) := Lib.hid (by rw [HR.out, h0, h1, h2, h3]; try rfl)
          go_wp2_with fail
          go_ret
          exact ⟨ret_bool HF.out.symm, HB.out⟩
        cases h4 : ((l.length : Int) == 0)
        case false =>
          have HF : Hid (R = true) := Lib.hid (by rw [HR.out, h0, h1, h2, h3, h4]; try rfl)
          go_wp2_with fail
          go_ret
          exact ⟨ret_bool HF.out.symm, HB.out⟩
        have HF : Hid (R = true) := Lib.hid (by rw [HR.out, h0, h1, h2, h3, h4]; try rfl)
        go_wp2_with fail
        go_ret
        exact ⟨ret_bool HF.out.symm, HB.out⟩
      have HC3 := Lib.hid (noTree_any pk pn ps pt PA pl.length pcap w2)
      go_wp2_with fail
      refine HC3.out.mono ?_
      rintro e w4 ⟨rfl, bb⟩
      have hb := HB.out.trans (bb.mono HB.out.size)
      have gc := (bb.block _ (heap_lt HGC.out)).trans HGC.out
      clear HB HGC x0 x1 x2 x3 x4 x5 x6 x7 x8 x9 x10 x11 x12 x13
      have HB := Lib.hid hb
      have HGC := Lib.hid gc
      obtain ⟨x0, x1, x2, x3, x4, x5, x6, x7, x8, x9, x10, x11, x12, x13⟩ := c14 gc
      clear gc hb bb
      cases h3 : (blank5 pk pn ps pt pl.length)
      case false =>
        have HF : Hid (R = false) := Lib.hid (by rw [HR.out, h0, h1, h2, h3]; try rfl)
        go_wp2_with fail
        go_ret
        exact ⟨ret_bool HF.out.symm, HB.out⟩
      cases h4 : ((l.length : Int) == 0)
      case false =>
        have HF : Hid (R = true) := Lib.hid (by rw [HR.out, h0, h1, h2, h3, h4]; try rfl)
        go_wp2_with fail
        go_ret
        exact ⟨ret_bool HF.out.symm, HB.out⟩
      have HF : Hid (R = true) := Lib.hid (by rw [HR.out, h0, h1, h2, h3, h4]; try rfl)
      go_wp2_with fail
      go_ret
      exact ⟨ret_bool HF.out.symm, HB.out⟩
    have HC2 := Lib.hid (noTerm_any tk tn ts tt TA tl.length tcap W1)
    go_enter Tryz.func77, Tryz.ntmps77
    go_upto_region 1 with fail
    rw [← hW1]
    clear hW1
    go_wp2_with fail
    refine HC2.out.mono ?_
    rintro e w5 ⟨rfl, bb⟩
    have hb := HB.out.trans (bb.mono HB.out.size)
    have gc := (bb.block _ (heap_lt HGC.out)).trans HGC.out
    clear HB HGC x0 x1 x2 x3 x4 x5 x6 x7 x8 x9 x10 x11 x12 x13
    have HB := Lib.hid hb
    have HGC := Lib.hid gc
    obtain ⟨x0, x1, x2, x3, x4, x5, x6, x7, x8, x9, x10, x11, x12, x13⟩ := c14 gc
    clear gc hb bb
    cases h2 : (blank5 tk tn ts tt tl.length)
    case false =>
      have HC3 := Lib.hid (noTree_any pk pn ps pt PA pl.length pcap w5)
      go_wp2_with fail
      refine HC3.out.mono ?_
      rintro e w6 ⟨rfl, bb⟩
      have hb := HB.out.trans (bb.mono HB.out.size)
      have gc := (bb.block _ (heap_lt HGC.out)).trans HGC.out
      clear HB HGC x0 x1 x2 x3 x4 x5 x6 x7 x8 x9 x10 x11 x12 x13
      have HB := Lib.hid hb
      have HGC := Lib.hid gc
      obtain ⟨x0, x1, x2, x3, x4, x5, x6, x7, x8, x9, x10, x11, x12, x13⟩ := c14 gc
      clear gc hb bb
      cases h3 : (blank5 pk pn ps pt pl.length)
      case false =>
        have HF : Hid (R = false) := Lib.hid (by rw [HR.out, h0, h1, h2, h3]; try rfl)
        go_wp2_with fail
        go_ret
        exact ⟨ret_bool HF.out.symm, HB.out⟩
      cases h4 : ((l.length : Int) == 0)
      case false =>
        have HF : Hid (R = true) := Lib.hid (by rw [HR.out, h0, h1, h2, h3, h4]; try rfl)
        go_wp2_with fail
        go_ret
        exact ⟨ret_bool HF.out.symm, HB.out⟩
      have HF : Hid (R = true) := Lib.hid (by rw [HR.out, h0, h1, h2, h3, h4]; try rfl)
      go_wp2_with fail
      go_ret
      exact ⟨ret_bool HF.out.symm, HB.out⟩
    have HC3 := Lib.hid (noTree_any pk pn ps pt PA pl.length pcap w5)
    go_wp2_with fail
    refine HC3.out.mono ?_
    rintro e w7 ⟨rfl, bb⟩
    have hb := HB.out.trans (bb.mono HB.out.size)
    have gc := (bb.block _ (heap_lt HGC.out)).trans HGC.out
    clear HB HGC x0 x1 x2 x3 x4 x5 x6 x7 x8 x9 x10 x11 x12 x13
    have HB := Lib.hid hb
    have HGC := Lib.hid gc
    obtain ⟨x0, x1, x2, x3, x4, x5, x6, x7, x8, x9, x10, x11, x12, x13⟩ := c14 gc
    clear gc hb bb
    cases h3 : (blank5 pk pn ps pt pl.length)
    case false =>
      have HF : Hid (R = false) := Lib.hid (by rw [HR.out, h0, h1, h2, h3]; try rfl)
      go_wp2_with fail
      go_ret
      exact ⟨ret_bool HF.out.symm, HB.out⟩
    cases h4 : ((l.length : Int) == 0)
    case false =>
      have HF : Hid (R = true) := Lib.hid (by rw [HR.out, h0, h1, h2, h3, h4]; try rfl)
      go_wp2_with fail
      go_ret
      exact ⟨ret_bool HF.out.symm, HB.out⟩
    have HF : Hid (R = true) := Lib.hid (by rw [HR.out, h0, h1, h2, h3, h4]; try rfl)
    go_wp2_with fail
    go_ret
    exact ⟨ret_bool HF.out.symm, HB.out⟩
  cases h1 : (b == 0)
  case false =>
    have HC2 := Lib.hid (noTerm_any tk tn ts tt TA tl.length tcap W1)
    go_enter Tryz.func77, Tryz.ntmps77
    go_upto_region 1 with fail
    rw [← hW1]
    clear hW1
    go_wp2_with fail
    refine HC2.out.mono ?_
    rintro e w8 ⟨rfl, bb⟩
    have hb := HB.out.trans (bb.mono HB.out.size)
    have gc := (bb.block _ (heap_lt HGC.out)).trans HGC.out
    clear HB HGC x0 x1 x2 x3 x4 x5 x6 x7 x8 x9 x10 x11 x12 x13
    have HB := Lib.hid hb
    have HGC := Lib.hid gc
    obtain ⟨x0, x1, x2, x3, x4, x5, x6, x7, x8, x9, x10, x11, x12, x13⟩ := c14 gc
    clear gc hb bb
    cases h2 : (blank5 tk tn ts tt tl.length)
    case false =>
      have HC3 := Lib.hid (noTree_any pk pn ps pt PA pl.length pcap w8)
      go_wp2_with fail
      refine HC3.out.mono ?_
      rintro e w9 ⟨rfl, bb⟩
      have hb := HB.out.trans (bb.mono HB.out.size)
      have gc := (bb.block _ (heap_lt HGC.out)).trans HGC.out
      clear HB HGC x0 x1 x2 x3 x4 x5 x6 x7 x8 x9 x10 x11 x12 x13
      have HB := Lib.hid hb
      have HGC := Lib.hid gc
      obtain ⟨x0, x1, x2, x3, x4, x5, x6, x7, x8, x9, x10, x11, x12, x13⟩ := c14 gc
      clear gc hb bb
      cases h3 : (blank5 pk pn ps pt pl.length)
      case false =>
        have HF : Hid (R = false) := Lib.hid (by rw [HR.out, h0, h1, h2, h3]; try rfl)
        go_wp2_with fail
        go_ret
        exact ⟨ret_bool HF.out.symm, HB.out⟩
      cases h4 : ((l.length : Int) == 0)
      case false =>
        have HF : Hid (R = true) := Lib.hid (by rw [HR.out, h0, h1, h2, h3, h4]; try rfl)
        go_wp2_with fail
        go_ret
        exact ⟨ret_bool HF.out.symm, HB.out⟩
      have HF : Hid (R = true) := Lib.hid (by rw [HR.out, h0, h1, h2, h3, h4]; try rfl)
      go_wp2_with fail
      go_ret
      exact ⟨ret_bool HF.out.symm, HB.out⟩
    have HC3 := Lib.hid (noTree_any pk pn ps pt PA pl.length pcap w8)
    go_wp2_with fail
    refine HC3.out.mono ?_
    rintro e w10 ⟨rfl, bb⟩
    have hb := HB.out.trans (bb.mono HB.out.size)
    have gc := (bb.block _ (heap_lt HGC.out)).trans HGC.out
    clear HB HGC x0 x1 x2 x3 x4 x5 x6 x7 x8 x9 x10 x11 x12 x13
    have HB := Lib.hid hb
    have HGC := Lib.hid gc
    obtain ⟨x0, x1, x2, x3, x4, x5, x6, x7, x8, x9, x10, x11, x12, x13⟩ := c14 gc
    clear gc hb bb
    cases h3 : (blank5 pk pn ps pt pl.length)
    case false =>
      have HF : Hid (R = false) := Lib.hid (by rw [HR.out, h0, h1, h2, h3]; try rfl)
      go_wp2_with fail
      go_ret
      exact ⟨ret_bool HF.out.symm, HB.out⟩
    cases h4 : ((l.length : Int) == 0)
    case false =>
      have HF : Hid (R = true) := Lib.hid (by rw [HR.out, h0, h1, h2, h3, h4]; try rfl)
      go_wp2_with fail
      go_ret
      exact ⟨ret_bool HF.out.symm, HB.out⟩
    have HF : Hid (R = true) := Lib.hid (by rw [HR.out, h0, h1, h2, h3, h4]; try rfl)
    go_wp2_with fail
    go_ret
    exact ⟨ret_bool HF.out.symm, HB.out⟩
  have HC2 := Lib.hid (noTerm_any tk tn ts tt TA tl.length tcap W1)
  go_enter Tryz.func77, Tryz.ntmps77
  go_upto_region 1 with fail
  rw [← hW1]
  clear hW1
  go_wp2_with fail
  refine HC2.out.mono ?_
  rintro e w11 ⟨rfl, bb⟩
  have hb := HB.out.trans (bb.mono HB.out.size)
  have gc := (bb.block _ (heap_lt HGC.out)).trans HGC.out
  clear HB HGC x0 x1 x2 x3 x4 x5 x6 x7 x8 x9 x10 x11 x12 x13
  have HB := Lib.hid hb
  have HGC := Lib.hid gc
  obtain ⟨x0, x1, x2, x3, x4, x5, x6, x7, x8, x9, x10, x11, x12, x13⟩ := c14 gc
  clear gc hb bb
  cases h2 : (blank5 tk tn ts tt tl.length)
  case false =>
    have HC3 := Lib.hid (noTree_any pk pn ps pt PA pl.length pcap w11)
    go_wp2_with fail
    refine HC3.out.mono ?_
    rintro e w12 ⟨rfl, bb⟩
    have hb := HB.out.trans (bb.mono HB.out.size)
    have gc := (bb.block _ (heap_lt HGC.out)).trans HGC.out
    clear HB HGC x0 x1 x2 x3 x4 x5 x6 x7 x8 x9 x10 x11 x12 x13
    have HB := Lib.hid hb
    have HGC := Lib.hid gc
    obtain ⟨x0, x1, x2, x3, x4, x5, x6, x7, x8, x9, x10, x11, x12, x13⟩ := c14 gc
    clear gc hb bb
    cases h3 : (blank5 pk pn ps pt pl.length)
    case false =>
      have HF : Hid (R = false) := Lib.hid (by rw [HR.out, h0, h1, h2, h3]; try rfl)
      go_wp2_with fail
      go_ret
      exact ⟨ret_bool HF.out.symm, HB.out⟩
    cases h4 : ((l.length : Int) == 0)
    case false =>
      have HF : Hid (R = true) := Lib.hid (by rw [HR.out, h0, h1, h2, h3, h4]; try rfl)
      go_wp2_with fail
      go_ret
      exact ⟨ret_bool HF.out.symm, HB.out⟩
    have HF : Hid (R = true) := Lib.hid (by rw [HR.out, h0, h1, h2, h3, h4]; try rfl)
    go_wp2_with fail
    go_ret
    exact ⟨ret_bool HF.out.symm, HB.out⟩
  have HC3 := Lib.hid (noTree_any pk pn ps pt PA pl.length pcap w11)
  go_wp2_with fail
  refine HC3.out.mono ?_
  rintro e w13 ⟨rfl, bb⟩
  have hb := HB.out.trans (bb.mono HB.out.size)
  have gc := (bb.block _ (heap_lt HGC.out)).trans HGC.out
  clear HB HGC x0 x1 x2 x3 x4 x5 x6 x7 x8 x9 x10 x11 x12 x13
  have HB := Lib.hid hb
  have HGC := Lib.hid gc
  obtain ⟨x0, x1, x2, x3, x4, x5, x6, x7, x8, x9, x10, x11, x12, x13⟩ := c14 gc
  clear gc hb bb
  cases h3 : (blank5 pk pn ps pt pl.length)
  case false =>
    have HF : Hid (R = false) := Lib.hid (by rw [HR.out, h0, h1, h2, h3]; try rfl)
    go_wp2_with fail
    go_ret
    exact ⟨ret_bool HF.out.symm, HB.out⟩
  cases h4 : ((l.length : Int) == 0)
  case false =>
    have HF : Hid (R = true) := Lib.hid (by rw [HR.out, h0, h1, h2, h3, h4]; try rfl)
    go_wp2_with fail
    go_ret
    exact ⟨ret_bool HF.out.symm, HB.out⟩
  have HF : Hid (R = true) := Lib.hid (by rw [HR.out, h0, h1, h2, h3, h4]; try rfl)
  go_wp2_with fail
  go_ret
  exact ⟨ret_bool HF.out.symm, HB.out⟩
end Go.Proofs.YtdimcddbmccniaaGreatDoor
