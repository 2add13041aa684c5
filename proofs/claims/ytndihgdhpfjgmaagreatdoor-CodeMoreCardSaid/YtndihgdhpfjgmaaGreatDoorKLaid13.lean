/- What the rows' condition on the program's variables gives the walks: the tables of layer 13 (stretches, words, natures, powers of ten, fields of instructions). -/
import Derived.Test.YtndihgdhpfjgmaaGreatDoorKCd22
import Derived.Test.YtndihgdhpfjgmaaGreatDoorKCd24
import Derived.Test.YtndihgdhpfjgmaaGreatDoorKAtom7
import Derived.Test.YtndihgdhpfjgmaaGreatDoorKCd6
import Derived.Test.YtndihgdhpfjgmaaGreatDoorKTmL
import Derived.Lib.LaidTab
import Derived.ProofKit
import Derived.LaidMore
import Derived.OpenShut
import Derived.Stop.Joined
section
set_option linter.unusedVariables false
set_option linter.unusedSimpArgs false
namespace Go.Proofs.YtndihgdhpfjgmaaGreatDoor
open Go.RowKit

theorem atom_name {s : ByteArray} (h : atomB s = true) : nameB s 2 = true := by
  unfold atomB at h
  rw [Bool.and_eq_true] at h
  exact h.1
set_option maxHeartbeats 16000000 in
set_option maxRecDepth 100000 in
theorem walk_CodeMore (v0 : Value) (s t : ByteArray) (at_ : Int) (hs : s.size ≤ maxLen) (ht : t.size ≤ maxLen) (ha : (Lit.int IntKind.i64 at_).wf = true) (w : World)
    (o0 : ∃ x A ca B cb C cc, v0 = .agg #[.slice A x.fns.length ca, .slice B x.ops.length cb, .slice C x.tab.length cc] ∧ PgAt (· < w.heap.size) w x A ca B cb C cc ∧ PgS x) (hE : Env13 w) :
    Calls Tryz.prog 3 #[v0, .string s, .string t, .int .i64 at_] w fun e w' => e = .returned (.bool true) ∧ Below w.heap.size w w' := by
  obtain ⟨x, A, ca, B, cb, C, cc, rfl, hX, hS⟩ := o0
  have han := i64_wf ha
  obtain ⟨W1, hW1⟩ : ∃ W1, W1 = w.alloc (.cells #[.slice A x.fns.length ca, .slice B x.ops.length cb, .slice C x.tab.length cc] 26) := ⟨_, rfl⟩
  have b1 : Below w.heap.size w W1 := by rw [hW1]; exact (Below.refl _ w).alloc (Nat.le_refl _) _
  have g1 : W1.heap[w.heap.size]? = some (.cells #[.slice A x.fns.length ca, .slice B x.ops.length cb, .slice C x.tab.length cc] 26 (0, 0)) := by rw [hW1]; exact block_alloc _ _
  obtain ⟨p0, p1, p2⟩ := c3 g1
  have hmo := hX.ops.max
  have hmf := hX.fns.max
  unfold maxLen at hmo hmf
  have HX := Lib.hid hX
  have HS := Lib.hid hS
  have HE := Lib.hid hE
  have HB1 := Lib.hid b1
  have HG1 := Lib.hid g1
  have HST := Lib.hid (And.intro hs ht)
  have HAN := Lib.hid han
  clear hX hS hE b1 g1 hs ht ha han
  go_enter Tryz.func3, Tryz.ntmps3
  go_upto_region 1 with fail
  rw [← hW1]
  clear hW1
  go_wp2_with fail
  refine (great13_any x A ca B cb C cc W1 (HX.out.later HB1.out) HS.out).mono ?_
  rintro e W2 ⟨g, rfl, hg, b2⟩
  have HB2 := Lib.hid (HB1.out.trans (b2.mono HB1.out.size))
  have HG2 := Lib.hid ((b2.block _ (heap_lt HG1.out)).trans HG1.out)
  have HGF := Lib.hid hg
  clear b2 hg p0 p1 p2
  obtain ⟨p0, p1, p2⟩ := c3 HG2.out
  cases g
  case true =>
    go_wp2_with fail
    refine (wakes13_any W2 (HE.out.under HB2.out)).mono ?_
    rintro e V9 ⟨rfl, b9⟩
    have HB9 := Lib.hid (HB2.out.trans (b9.mono HB2.out.size))
    clear b9
    go_wp2_with fail
    go_ret
    exact ⟨rfl, HB9.out⟩
  have HPB := Lib.hid (HGF.out rfl)
  go_wp2_with fail
  refine (Check13_any x A ca B cb C cc W2 (HX.out.later HB2.out) HPB.out (HE.out.under HB2.out)).mono ?_
  rintro e W3 ⟨rfl, b3⟩
  have HB3 := Lib.hid (HB2.out.trans (b3.mono HB2.out.size))
  have HG3 := Lib.hid ((b3.block _ (heap_lt HG2.out)).trans HG2.out)
  clear b3 p0 p1 p2
  obtain ⟨p0, p1, p2⟩ := c3 HG3.out
  by_cases hmay : mayP x = true
  case neg =>
    have hcp : checkP x = 130 := by unfold checkP; rw [if_neg hmay]
    rw [hcp]
    clear hmay hcp
    go_wp2_with fail
    refine (wakes13_any W3 (HE.out.under HB3.out)).mono ?_
    rintro e V9 ⟨rfl, b9⟩
    have HB9 := Lib.hid (HB3.out.trans (b9.mono HB3.out.size))
    clear b9
    go_wp2_with fail
    go_ret
    exact ⟨rfl, HB9.out⟩
  have hcp : checkP x = 0 := by unfold checkP; rw [if_pos hmay]
  rw [hcp]
  have HMAY := Lib.hid hmay
  clear hcp hmay
  by_cases hl : x.fns.length < 4096
  case neg =>
    have i0 : (4096 : Int) ≤ (x.fns.length : Int) := by omega
    clear hl
    go_wp2_with fail
    refine (wakes13_any W3 (HE.out.under HB3.out)).mono ?_
    rintro e V9 ⟨rfl, b9⟩
    have HB9 := Lib.hid (HB3.out.trans (b9.mono HB3.out.size))
    clear b9
    go_wp2_with fail
    go_ret
    exact ⟨rfl, HB9.out⟩
  have i0 : ¬ (4096 : Int) ≤ (x.fns.length : Int) := by omega
  have HL := Lib.hid hl
  clear hl
  by_cases ha0 : at_ < 0
  case pos =>
    go_wp2_with fail
    refine (wakes13_any W3 (HE.out.under HB3.out)).mono ?_
    rintro e V9 ⟨rfl, b9⟩
    have HB9 := Lib.hid (HB3.out.trans (b9.mono HB3.out.size))
    clear b9
    go_wp2_with fail
    go_ret
    exact ⟨rfl, HB9.out⟩
  by_cases ha1 : at_ < (x.ops.length : Int)
  case neg =>
    have i1 : (x.ops.length : Int) ≤ at_ := by omega
    clear ha1
    go_wp2_with fail
    refine (wakes13_any W3 (HE.out.under HB3.out)).mono ?_
    rintro e V9 ⟨rfl, b9⟩
    have HB9 := Lib.hid (HB3.out.trans (b9.mono HB3.out.size))
    clear b9
    go_wp2_with fail
    go_ret
    exact ⟨rfl, HB9.out⟩
  have i1 : ¬ (x.ops.length : Int) ≤ at_ := by omega
  have HAT : Hid (0 ≤ at_ ∧ at_ < (x.ops.length : Int)) := Lib.hid ⟨by omega, ha1⟩
  clear ha1
  go_wp2_with fail
  refine (rAtom7_any s W3 HST.out.1).mono ?_
  rintro e V9 ⟨rfl, rfl⟩
  cases hsa : atomB s
  case false =>
    clear hsa
    go_wp2_with fail
    refine (wakes13_any W3 (HE.out.under HB3.out)).mono ?_
    rintro e V9 ⟨rfl, b9⟩
    have HB9 := Lib.hid (HB3.out.trans (b9.mono HB3.out.size))
    clear b9
    go_wp2_with fail
    go_ret
    exact ⟨rfl, HB9.out⟩
  have HSA := Lib.hid hsa
  clear hsa
  go_wp2_with fail
  refine (rAtom7_any t W3 HST.out.2).mono ?_
  rintro e V9 ⟨rfl, rfl⟩
  cases hta : atomB t
  case false =>
    clear hta
    go_wp2_with fail
    refine (wakes13_any W3 (HE.out.under HB3.out)).mono ?_
    rintro e V9 ⟨rfl, b9⟩
    have HB9 := Lib.hid (HB3.out.trans (b9.mono HB3.out.size))
    clear b9
    go_wp2_with fail
    go_ret
    exact ⟨rfl, HB9.out⟩
  have HTA := Lib.hid hta
  clear hta
  go_upto_region 4 with fail
  clear p0 p1 p2 ha0 i0 i1
  obtain ⟨W4, hW4⟩ : ∃ W4, W4 = W3.alloc (.cells #[.slice A x.fns.length ca, .slice B x.ops.length cb, .slice C x.tab.length cc] 26) := ⟨_, rfl⟩
  rw [← hW4]
  have b4 : Below W3.heap.size W3 W4 := by rw [hW4]; exact (Below.refl _ _).alloc (Nat.le_refl _) _
  have z4 : W4.heap.size = W3.heap.size + 1 := by rw [hW4, World.size_alloc]
  have go4 : W4.heap[W3.heap.size]? = some (.cells #[.slice A x.fns.length ca, .slice B x.ops.length cb, .slice C x.tab.length cc] 26 (0, 0)) := by rw [hW4]; exact block_alloc _ _
  clear hW4
  obtain ⟨W5, hW5⟩ : ∃ W5, W5 = W4.alloc (.cells #[] 33) := ⟨_, rfl⟩
  have b5 : Below W4.heap.size W4 W5 := by rw [hW5]; exact (Below.refl _ _).alloc (Nat.le_refl _) _
  have ge5 : W5.heap[W4.heap.size]? = some (.cells #[] 33 (0, 0)) := by rw [hW5]; exact block_alloc _ _
  have gp5 := (b5.block _ (heap_lt ((b4.block _ (heap_lt HG3.out)).trans HG3.out))).trans ((b4.block _ (heap_lt HG3.out)).trans HG3.out)
  have b35 := b4.trans (b5.mono b4.size)
  have HO5 := Lib.hid (OwnF.nil ge5 (Nat.le_refl _))
  have HBS5 := Lib.hid b5.size
  have HRF5 := Lib.hid (HX.out.later (HB3.out.trans (b35.mono HB3.out.size))).fns.rowF
  have HLE5 : Hid (([] : List Fn13).length + x.fns.length ≤ 1000000) := Lib.hid (by have := HL.out; simp; omega)
  obtain ⟨p0, p1, p2⟩ := c3 gp5
  rw [hW5] at p0 p1 p2
  have HW3L := Lib.hid (heap_lt HG3.out)
  have HGO4 := Lib.hid go4
  have HB45 := Lib.hid (And.intro b4 (And.intro b5 z4))
  clear b4 b5 go4 ge5 gp5 b35 z4
  go_wp2_with (at_builtin; rw [← hW5]; clear hW5; refine wpList_own_fns rfl (.tmp 50) (.tmp 52) rfl HO5.out HBS5.out rfl rfl rfl HRF5.out HLE5.out ?_)
  intro v6 W6 O6 gr6 own6
  replace O6 : OwnF W4.heap.size W6 v6 x.fns := O6
  have b46 : Below W4.heap.size W4 W6 := HB45.out.2.1.trans ((Mod.grown (F := fun k => k = W4.heap.size) gr6 (fun k _ e => by simp [Value.ownBlock] at e; exact e.symm)).below HBS5.out (fun k e => by omega))
  clear gr6 own6 p0 p1 p2 HRF5 HLE5 HO5
  obtain ⟨g, hg⟩ : ∃ g : Fn13, g = ⟨s, t, 0, at_, 0⟩ := ⟨_, rfl⟩
  obtain ⟨W7, hW7⟩ : ∃ W7, W7 = W6.alloc (.cells #[.string s, .string t, .int .i64 0, .int .i64 at_, .int .i64 0] 33) := ⟨_, rfl⟩
  have b7 : Below W6.heap.size W6 W7 := by rw [hW7]; exact (Below.refl _ _).alloc (Nat.le_refl _) _
  have gg7 : W7.heap[W6.heap.size]? = some (.cells #[.string g.s, .string g.t, .int .i64 g.n, .int .i64 g.at_, .int .i64 g.slots] 33 (0, 0)) := by rw [hW7, hg]; exact block_alloc _ _
  have O7 : OwnF W4.heap.size W7 v6 x.fns := (Mod.of_below (F := fun _ => False) b7).row O6 (fun _ _ f => f)
  have b47 := b46.trans (b7.mono b46.size)
  have HO7 := Lib.hid O7
  have HBS7 := Lib.hid b47.size
  have HB47 := Lib.hid b47
  have HRF7 := Lib.hid (RowF.one gg7)
  have HLE7 : Hid (x.fns.length + [g].length ≤ 1000000) := Lib.hid (by have := HL.out; simp; omega)
  have HGQ := Lib.hid hg
  clear O6 O7 b46 b7 gg7 b47 hg
  go_wp2_with (at_builtin; rw [← hW7]; clear hW7; refine wpList_own_fns rfl (.tmp 53) (.tmp 58) rfl HO7.out HBS7.out rfl rfl rfl HRF7.out HLE7.out ?_)
  intro v8 W8 O8 gr8 own8
  have b48 : Below W4.heap.size W4 W8 := HB47.out.trans ((Mod.grown (F := fun k => W4.heap.size ≤ k) gr8 (fun k _ e => ((show W7.ownsRow _ _ _ _ _ _ from HO7.out).lt k e).1)).below HBS7.out (fun k e => e))
  have hfb : ∀ f ∈ x.fns ++ [g], FnB f := fun f hf => by
    rw [List.mem_append] at hf
    rcases hf with hf | hf
    · obtain ⟨j, hj⟩ := List.mem_iff_getElem?.1 hf
      obtain ⟨_, _, _, _, h9⟩ := HX.out.fns.at_ j f hj
      exact h9
    · simp only [List.mem_cons, List.not_mem_nil, or_false] at hf
      rw [hf, HGQ.out]
      exact ⟨HST.out.1, HST.out.2, (by decide : -9223372036854775808 ≤ (0 : Int) ∧ (0 : Int) ≤ 9223372036854775807), HAN.out, (by decide : -9223372036854775808 ≤ (0 : Int) ∧ (0 : Int) ≤ 9223372036854775807)⟩
  obtain ⟨A8, cap8, hv8, -⟩ := O8.frow (Q := fun _ => True) (fun _ _ _ => trivial) hfb
  have hn1 : (x.fns ++ [g]).length = x.fns.length + 1 := by simp
  rw [hn1] at hv8
  subst hv8
  have go8 := (b48.block _ (heap_lt HGO4.out)).trans HGO4.out
  have c8 : W8.cell? ⟨W3.heap.size, 0, none⟩ = some (.slice A x.fns.length ca) := cell_of_row (i := 0) go8 rfl
  have f8 : W8.frozen? ⟨W3.heap.size, 0, none⟩ = false := free_of_row go8
  obtain ⟨W9, hW9⟩ : ∃ W9, W9 = W8.setCell ⟨W3.heap.size, 0, none⟩ (.slice A8 (x.fns.length + 1) cap8) := ⟨_, rfl⟩
  have m9 : Mod (fun k => k = W3.heap.size) W8 W9 := by rw [hW9]; exact Mod.setCell _ _ _ (.inl rfl)
  have go9 : W9.heap[W3.heap.size]? = some (.cells #[.slice A8 (x.fns.length + 1) cap8, .slice B x.ops.length cb, .slice C x.tab.length cc] 26 (0, 0)) := by rw [hW9]; exact set_row (.slice A8 (x.fns.length + 1) cap8) (i := 0) go8
  have O9 : OwnF W4.heap.size W9 (.slice A8 (x.fns.length + 1) cap8) (x.fns ++ [g]) := m9.row O8 (fun k hk e => by have h1 := ((show W8.ownsRow _ _ _ _ _ _ from O8).lt k hk).1; have h2 := HB45.out.2.2; omega)
  have b39 : Below W3.heap.size W3 W9 := (HB45.out.1.trans (b48.mono HB45.out.1.size)).trans (m9.below (Nat.le_trans HB45.out.1.size b48.size) (fun k e => by omega))
  have hb9 := HB3.out.trans (b39.mono HB3.out.size)
  have hx9 := HX.out.later hb9
  obtain ⟨A9, cap9, hv9, hF9⟩ := O9.frow (Q := (· < W9.heap.size)) (fun _ _ h => h) hfb
  simp only [Value.slice.injEq] at hv9
  obtain ⟨rfl, hvv, rfl⟩ := hv9
  clear hvv
  have HXO : Hid (PgAt (· < W9.heap.size) W9 ⟨x.fns ++ [g], x.ops, x.tab⟩ A8 cap8 B cb C cc) := Lib.hid ⟨hF9, hx9.ops, hx9.tab⟩
  have HPO : Hid (PgB ⟨x.fns ++ [g], x.ops, x.tab⟩) := Lib.hid ⟨HPB.out.ops, HPB.out.flat⟩
  have HX9 := Lib.hid hx9
  have HB9 := Lib.hid hb9
  have HG9 := Lib.hid ((b39.block _ (heap_lt HG3.out)).trans HG3.out)
  have HO9 := Lib.hid go9
  clear O8 gr8 own8 b48 hfb go8 m9 go9 O9 b39 hb9 hx9 hF9
  have HPMO := Lib.hid (more_P HMAY.out HL.out (g := g) (by rw [HGQ.out]; exact atom_name HSA.out) (by rw [HGQ.out]; exact atom_name HTA.out) (by rw [HGQ.out]) (by rw [HGQ.out]) (by rw [HGQ.out]; exact HAT.out))
  have HGM : Hid (g.s = s ∧ g.t = t ∧ g.n = 0) := Lib.hid (by rw [HGQ.out]; exact ⟨rfl, rfl, rfl⟩)
  have HF1 := Lib.hid (find13_any x A ca B cb C cc s t 0 W9 HX9.out)
  have HF2 : Hid (∀ V, Below W9.heap.size W9 V → Calls Tryz.prog 10 #[.agg #[.slice A8 (x.fns.length + 1) cap8, .slice B x.ops.length cb, .slice C x.tab.length cc], .string s, .string t, .int .i64 0] V fun e w' => e = .returned (.tuple #[.int .i64 (match findP (x.fns ++ [g]) s t 0 with | some k => (k : Int) | none => 0), .bool (findP (x.fns ++ [g]) s t 0).isSome]) ∧ Below V.heap.size V w') := Lib.hid (fun V b => by
    have h9 := find13_any ⟨x.fns ++ [g], x.ops, x.tab⟩ A8 cap8 B cb C cc s t 0 V (HXO.out.later b)
    rwa [show (⟨x.fns ++ [g], x.ops, x.tab⟩ : Pg).fns.length = x.fns.length + 1 from hn1] at h9)
  have HC2 : Hid (∀ V, Below W9.heap.size W9 V → Calls Tryz.prog 7 #[.agg #[.slice A8 (x.fns.length + 1) cap8, .slice B x.ops.length cb, .slice C x.tab.length cc]] V fun e w' => e = .returned (.int .i64 (checkP ⟨x.fns ++ [g], x.ops, x.tab⟩)) ∧ Below V.heap.size V w') := Lib.hid (fun V b => by
    have h9 := Check13_any ⟨x.fns ++ [g], x.ops, x.tab⟩ A8 cap8 B cb C cc V (HXO.out.later b) HPO.out (HE.out.under (HB9.out.trans (b.mono HB9.out.size)))
    rwa [show (⟨x.fns ++ [g], x.ops, x.tab⟩ : Pg).fns.length = x.fns.length + 1 from hn1] at h9)
  rw [HGM.out.1, HGM.out.2.1] at HPMO
  clear hn1
  have key : (∃ k k2, findP x.fns s t 0 = some k ∧ findP (x.fns ++ [g]) s t 0 = some k2 ∧ checkP ⟨x.fns ++ [g], x.ops, x.tab⟩ = 130) ∨ (findP x.fns s t 0 = none ∧ findP (x.fns ++ [g]) s t 0 = some x.fns.length ∧ checkP ⟨x.fns ++ [g], x.ops, x.tab⟩ = 0) := by
    cases h1 : findP x.fns s t 0 with
    | some k =>
      refine .inl ?_
      cases h2 : findP (x.fns ++ [g]) s t 0 with
      | none => exact absurd HGM.out (findP_none.1 h2 g (by simp))
      | some k2 =>
        refine ⟨k, k2, rfl, rfl, ?_⟩
        unfold checkP
        rw [if_neg]
        intro h
        have := HPMO.out.1 h
        rw [h1] at this
        cases this
    | none =>
      refine .inr ⟨rfl, ?_, ?_⟩
      · refine findP_at (f := g) (by simp) (fun i f hi hf => ?_) HGM.out
        rw [List.getElem?_append_left hi] at hf
        exact findP_none.1 h1 f (List.mem_of_getElem? hf)
      · unfold checkP
        rw [if_pos (HPMO.out.2 h1)]
  obtain ⟨p0, p1, p2⟩ := c3 HG9.out
  rw [hW9] at p0 p1 p2
  rcases key with ⟨k, k2, e1, e2, e3⟩ | ⟨e1, e2, e3⟩
  · rw [e1] at HF1
    rw [e2] at HF2
    rw [e3] at HC2
    clear e1 e2 e3 HPMO
    go_wp2_with fail
    rw [← hW9]
    clear hW9 c8 f8
    refine HF1.out.mono ?_
    rintro e Va ⟨rfl, ba⟩
    have HBa := Lib.hid ba
    clear ba p0 p1 p2
    have gp := (HBa.out.block _ (heap_lt HG9.out)).trans HG9.out
    have go := (HBa.out.block _ (heap_lt HO9.out)).trans HO9.out
    obtain ⟨p0, p1, p2⟩ := c3 gp
    obtain ⟨y0, y1, y2⟩ := c3 go
    clear gp go
    go_wp2_with fail
    refine (HF2.out Va HBa.out).mono ?_
    rintro e Vb ⟨rfl, bb⟩
    have HBb := Lib.hid (HBa.out.trans (bb.mono HBa.out.size))
    clear bb
    clear p0 p1 p2 y0 y1 y2
    have gp := (HBb.out.block _ (heap_lt HG9.out)).trans HG9.out
    have go := (HBb.out.block _ (heap_lt HO9.out)).trans HO9.out
    obtain ⟨p0, p1, p2⟩ := c3 gp
    obtain ⟨y0, y1, y2⟩ := c3 go
    clear gp go
    go_wp2_with fail
    refine (HC2.out Vb HBb.out).mono ?_
    rintro e Vc ⟨rfl, bc⟩
    have HBc := Lib.hid (HBb.out.trans (bc.mono HBb.out.size))
    clear bc
    clear p0 p1 p2 y0 y1 y2
    have gp := (HBc.out.block _ (heap_lt HG9.out)).trans HG9.out
    have go := (HBc.out.block _ (heap_lt HO9.out)).trans HO9.out
    obtain ⟨p0, p1, p2⟩ := c3 gp
    obtain ⟨y0, y1, y2⟩ := c3 go
    clear gp go
    have HBd := Lib.hid (HB9.out.trans (HBc.out.mono HB9.out.size))
    go_wp2_with fail
    refine (wakes13_any Vc (HE.out.under HBd.out)).mono ?_
    rintro e V9 ⟨rfl, b9⟩
    have HB9 := Lib.hid (HBd.out.trans (b9.mono HBd.out.size))
    clear b9
    go_wp2_with fail
    go_ret
    exact ⟨rfl, HB9.out⟩
  · rw [e1] at HF1
    rw [e2] at HF2
    rw [e3] at HC2
    clear e1 e2 e3 HPMO
    go_wp2_with fail
    rw [← hW9]
    clear hW9 c8 f8
    refine HF1.out.mono ?_
    rintro e Va ⟨rfl, ba⟩
    have HBa := Lib.hid ba
    clear ba p0 p1 p2
    have gp := (HBa.out.block _ (heap_lt HG9.out)).trans HG9.out
    have go := (HBa.out.block _ (heap_lt HO9.out)).trans HO9.out
    obtain ⟨p0, p1, p2⟩ := c3 gp
    obtain ⟨y0, y1, y2⟩ := c3 go
    clear gp go
    go_wp2_with fail
    refine (HF2.out Va HBa.out).mono ?_
    rintro e Vb ⟨rfl, bb⟩
    have HBb := Lib.hid (HBa.out.trans (bb.mono HBa.out.size))
    clear bb
    clear p0 p1 p2 y0 y1 y2
    have gp := (HBb.out.block _ (heap_lt HG9.out)).trans HG9.out
    have go := (HBb.out.block _ (heap_lt HO9.out)).trans HO9.out
    obtain ⟨p0, p1, p2⟩ := c3 gp
    obtain ⟨y0, y1, y2⟩ := c3 go
    clear gp go
    go_wp2_with fail
    refine (HC2.out Vb HBb.out).mono ?_
    rintro e Vc ⟨rfl, bc⟩
    have HBc := Lib.hid (HBb.out.trans (bc.mono HBb.out.size))
    clear bc
    clear p0 p1 p2 y0 y1 y2
    have gp := (HBc.out.block _ (heap_lt HG9.out)).trans HG9.out
    have go := (HBc.out.block _ (heap_lt HO9.out)).trans HO9.out
    obtain ⟨p0, p1, p2⟩ := c3 gp
    obtain ⟨y0, y1, y2⟩ := c3 go
    clear gp go
    have HBd := Lib.hid (HB9.out.trans (HBc.out.mono HB9.out.size))
    go_wp2_with fail
    refine (wakes13_any Vc (HE.out.under HBd.out)).mono ?_
    rintro e V9 ⟨rfl, b9⟩
    have HB9 := Lib.hid (HBd.out.trans (b9.mono HBd.out.size))
    clear b9
    go_wp2_with fail
    go_ret
    exact ⟨rfl, HB9.out⟩
end Go.Proofs.YtndihgdhpfjgmaaGreatDoor
end
section
set_option linter.unusedVariables false
namespace Go.Proofs.YtndihgdhpfjgmaaGreatDoor
open Go.ChangeShapes Go.WideShapes Go.ChangeAt Go.RowKit

theorem gSpans : Tryz.prog.globalNamed "pleach/atoms.spans" = some 2 := by kernel_rfl
theorem tSpans : (Tryz.prog.globals[2]?).map (·.type) = some 155 := by kernel_rfl
theorem gWords : Tryz.prog.globalNamed "pleach/scan.words" = some 7 := by kernel_rfl
theorem tWords : (Tryz.prog.globals[7]?).map (·.type) = some 204 := by kernel_rfl
theorem gNats : Tryz.prog.globalNamed "pleach/ast.natures" = some 6 := by kernel_rfl
theorem tNats : (Tryz.prog.globals[6]?).map (·.type) = some 193 := by kernel_rfl
theorem gPow : Tryz.prog.globalNamed "internal/strconv.uint64pow10" = some 1 := by kernel_rfl
theorem tPow : (Tryz.prog.globals[1]?).map (·.type) = some 128 := by kernel_rfl

theorem gFld : Tryz.prog.globalNamed "pleach/code.fields" = some 0 := by kernel_rfl
theorem tFld : (Tryz.prog.globals[0]?).map (·.type) = some 82 := by kernel_rfl
set_option maxRecDepth 100000 in
theorem door_met (os : Os) (args : Array Value) : laidMetH Tryz.prog [("math/bits.deBruijn32tab", Rows.laid_math_bits_deBruijn32tab), ("math/bits.deBruijn64tab", Rows.laid_math_bits_deBruijn64tab), ("internal/strconv.uint64pow10", Rows.laid_internal_strconv_uint64pow10), ("pleach/atoms.spans", Rows.laid_pleach_atoms_spans), ("pleach/scan.words", Rows.laid_pleach_scan_words), ("pleach/ast.natures", Rows.laid_pleach_ast_natures), ("pleach/code.fields", Rows.laid_pleach_code_fields)] ((World.doorLaid Tryz.prog 400 os).forCall (fun _ _ => 0) ⟨#[], args, []⟩).memory :=
  laidMetH_of_parts3 (fuel := 8) (laidMet_of_run' 8 (by kernel_rfl) (by kernel_rfl)) (by kernel_rfl) (by kernel_rfl)

theorem cells_of_strs {P : Program} {H : Type} {enc : TypeId × Value → H} {W : World} {base : Nat} {sp : Nat → Bool} {held : Bool} {fuel : Nat} {t e : TypeId} {n : Nat} {cs : List Value} {x : DataW H × List MemPlace} {L : List (List UInt8)}
    (ht : P.underlying t = some (.array n e)) (he : P.underlying e = some .string) (hce : P.cellsOf e = 1) (hct : P.cellsOf t = n) (h : DataW.trod enc P W base sp held fuel t cs = some x)
    (hx : x.1 = .agg (L.map fun l => .lit (.string l))) : cs = L.map fun l => Value.string ⟨l.toArray⟩ := by
  obtain ⟨xs, m, rfl, rfl, hlen, hn, hel⟩ := DataW.trod_array ht h
  rw [hct] at hlen
  rw [hce] at hel
  simp only [DataW.agg.injEq] at hx
  have hL : L.length = n := by have := congrArg List.length hx; simp only [List.length_map] at this; omega
  apply List.ext_getElem (by simp [hlen, hL])
  intro i h1 h2
  have hi : i < n := by omega
  have h3 := hel i hi
  rw [List.getElem?_eq_getElem (by omega)] at h3
  obtain ⟨s, hs, hxs, _⟩ := DataW.trod_string he h3
  have h4 : (xs.map (·.1))[i]'(by simp; omega) = (L.map fun l => DataW.lit (H := H) (.string l))[i]'(by simp; omega) := by simp only [hx]
  simp only [List.getElem_map, hxs, DataW.lit.injEq, Lit.string.injEq] at h4
  rw [Nat.mul_one, List.drop_eq_getElem_cons h1, List.take_succ_cons, List.take_zero] at hs
  simp only [List.cons.injEq, and_true] at hs
  rw [hs, List.getElem_map, ← h4]

set_option maxRecDepth 100000 in
theorem span_cells {H : Type} {enc : TypeId × Value → H} {W : World} {base : Nat} {sp : Nat → Bool} {held : Bool} {n : Nat} {cs : List Value} {x : DataW H × List MemPlace} {a b c : Int}
    (h : DataW.trod enc Tryz.prog W base sp held n 154 cs = some x) (hx : x.1 = .agg [.lit (.int .u8 a), .lit (.int .u8 b), .lit (.int .u8 c)]) : cs = [.int .u8 a, .int .u8 b, .int .u8 c] := by
  obtain ⟨xs, m, rfl, rfl, hlen, hn, hf⟩ := DataW.trod_struct Tryz.underlying154 h
  have c3 : Tryz.prog.cellsOf 154 = 3 := by kernel_rfl
  have c1 : Tryz.prog.cellsOf 5 = 1 := by kernel_rfl
  have ck : Tryz.prog.cellsOf 108 = 1 := by kernel_rfl
  rw [c3] at hlen
  match cs, hlen with
  | [u, v, z], _ =>
    have f0 : DataW.trod enc Tryz.prog W base sp held m 5 (([u, v, z].drop 0).take (Tryz.prog.cellsOf 5)) = xs[0]? := hf 0 _ rfl
    have f1 : DataW.trod enc Tryz.prog W base sp held m 5 (([u, v, z].drop 1).take (Tryz.prog.cellsOf 5)) = xs[1]? := hf 1 _ rfl
    have f2 : DataW.trod enc Tryz.prog W base sp held m 108 (([u, v, z].drop 2).take (Tryz.prog.cellsOf 108)) = xs[2]? := hf 2 _ rfl
    rw [c1] at f0 f1
    rw [ck] at f2
    match xs, hn with
    | [x0, x1, x2], _ =>
      simp at f0 f1 f2 hx
      obtain ⟨k0, e0, y0, _⟩ := DataW.trod_int Tryz.underlying5 f0
      obtain ⟨k1, e1, y1, _⟩ := DataW.trod_int Tryz.underlying5 f1
      obtain ⟨k2, e2, y2, _⟩ := DataW.trod_int Tryz.underlying108 f2
      subst y0 y1 y2
      simp at e0 e1 e2 hx
      obtain ⟨rfl, rfl, rfl⟩ := hx
      rw [e0, e1, e2]

set_option maxRecDepth 100000 in
theorem nature_cells {H : Type} {enc : TypeId × Value → H} {W : World} {base : Nat} {sp : Nat → Bool} {held : Bool} {n : Nat} {cs : List Value} {x : DataW H × List MemPlace} {a b : Int}
    (h : DataW.trod enc Tryz.prog W base sp held n 192 cs = some x) (hx : x.1 = .agg [.lit (.int .u16 a), .lit (.int .u8 b)]) : cs = [.int .u16 a, .int .u8 b] := by
  obtain ⟨xs, m, rfl, rfl, hlen, hn, hf⟩ := DataW.trod_struct Tryz.underlying192 h
  have c2 : Tryz.prog.cellsOf 192 = 2 := by kernel_rfl
  have c1 : Tryz.prog.cellsOf 148 = 1 := by kernel_rfl
  have ck : Tryz.prog.cellsOf 190 = 1 := by kernel_rfl
  rw [c2] at hlen
  match cs, hlen with
  | [u, v], _ =>
    have f0 : DataW.trod enc Tryz.prog W base sp held m 148 (([u, v].drop 0).take (Tryz.prog.cellsOf 148)) = xs[0]? := hf 0 _ rfl
    have f1 : DataW.trod enc Tryz.prog W base sp held m 190 (([u, v].drop 1).take (Tryz.prog.cellsOf 190)) = xs[1]? := hf 1 _ rfl
    rw [c1] at f0
    rw [ck] at f1
    match xs, hn with
    | [x0, x1], _ =>
      simp at f0 f1 hx
      obtain ⟨k0, e0, y0, _⟩ := DataW.trod_int Tryz.underlying148 f0
      obtain ⟨k1, e1, y1, _⟩ := DataW.trod_int Tryz.underlying190 f1
      subst y0 y1
      simp at e0 e1 hx
      obtain ⟨rfl, rfl⟩ := hx
      rw [e0, e1]

theorem pairs_eq : ∀ (L : List (Int × Int)) (cs : List Value), cs.length = 2 * L.length → (∀ i p, L[i]? = some p → (cs.drop (i * 2)).take 2 = [.int .u16 p.1, .int .u8 p.2]) → cs = L.flatMap fun p => [Value.int .u16 p.1, Value.int .u8 p.2]
  | [], cs, hl, _ => List.length_eq_zero_iff.1 hl
  | p :: L, cs, hl, h => by
    match cs, hl with
    | a :: b :: cs, hl =>
      have h0 := h 0 p rfl
      simp only [Nat.zero_mul, List.drop_zero, List.take_succ_cons, List.take_zero, List.cons.injEq, and_true] at h0
      obtain ⟨rfl, rfl⟩ := h0
      have ih := pairs_eq L cs (by simp only [List.length_cons] at hl; omega) fun i q hq => by
        have h1 := h (i + 1) q hq
        rwa [show (i + 1) * 2 = i * 2 + 2 by omega, List.drop_succ_cons, List.drop_succ_cons] at h1
      rw [List.flatMap_cons, ← ih]
      rfl

def naturesList : List (Int × Int) := [(1, 8), (2, 10), (4, 11), (8, 9), (16, 8), (448, 2), (448, 1), (448, 2), (448, 0), (448, 8), (448, 8), (352, 10), (32, 10), (256, 8), (256, 10), (256, 14), (256, 8), (256, 7), (256, 8), (256, 8), (256, 9), (512, 8)]

set_option maxRecDepth 100000 in
theorem natures_cells {H : Type} {enc : TypeId × Value → H} {W : World} {base : Nat} {sp : Nat → Bool} {held : Bool} {fuel : Nat} {cs : List Value} {x : DataW H × List MemPlace}
    (h : DataW.trod enc Tryz.prog W base sp held fuel 193 cs = some x) (hx : x.1 = .agg (naturesList.map fun p => .agg [.lit (.int .u16 p.1), .lit (.int .u8 p.2)])) : cs = naturesRow.toList := by
  obtain ⟨xs, m, rfl, rfl, hlen, hn, hel⟩ := DataW.trod_array Tryz.underlying193 h
  have ce : Tryz.prog.cellsOf 192 = 2 := by kernel_rfl
  have ct : Tryz.prog.cellsOf 193 = 44 := by kernel_rfl
  rw [ct] at hlen
  rw [ce] at hel
  simp only [DataW.agg.injEq] at hx
  refine (pairs_eq naturesList cs hlen fun i p hp => ?_).trans rfl
  have hi : i < naturesList.length := by
    rcases Nat.lt_or_ge i naturesList.length with h | h
    · exact h
    · rw [List.getElem?_eq_none h] at hp; cases hp
  have hi2 : i < 22 := hi
  have h3 := hel i hi2
  have h4 := congrArg (fun l => l[i]?) hx
  simp only [List.getElem?_map, hp, Option.map_some] at h4
  rw [List.getElem?_eq_getElem (by omega : i < xs.length)] at h3 h4
  simp only [Option.map_some, Option.some.injEq] at h4
  exact nature_cells h3 h4

set_option maxRecDepth 100000 in
theorem of_laid {W : World} (h : laidMetH Tryz.prog [("math/bits.deBruijn32tab", Rows.laid_math_bits_deBruijn32tab), ("math/bits.deBruijn64tab", Rows.laid_math_bits_deBruijn64tab), ("internal/strconv.uint64pow10", Rows.laid_internal_strconv_uint64pow10), ("pleach/atoms.spans", Rows.laid_pleach_atoms_spans), ("pleach/scan.words", Rows.laid_pleach_scan_words), ("pleach/ast.natures", Rows.laid_pleach_ast_natures), ("pleach/code.fields", Rows.laid_pleach_code_fields)] W) : Env13 W := by
  rw [MakeChecks.laidMetH_plain _ _ _ (by kernel_rfl)] at h
  obtain ⟨ps, ⟨_, _, _, _, _, _, _, _, _, _, ⟨_, _, _, _, _, _, _, _, _, _, ⟨gp, tp, cp, fp, pp, qp, hgp, htp, hvp, hdp, ⟨g0, t0, cs0, f0, p0, q0, hg0, ht0, hv0, hd0, ⟨g1, t1, cs1, f1, p1, q1, hg1, ht1, hv1, hd1, ⟨g2, t2, cs2, f2, p2, q2, hg2, ht2, hv2, hd2, ⟨g3, t3, cs3, f3, p3, q3, hg3, ht3, hv3, hd3, _, _⟩, _⟩, _⟩, _⟩, _⟩, _⟩, _⟩, _⟩ := h
  have var : ∀ {nm : String} {g : Nat} {cs : Array Value}, Tryz.prog.globalNamed nm = some g → W.var? Tryz.prog nm = some cs → ∃ t fr, W.heap[g]? = some (.cells cs t fr) := by
    intro nm g cs hg hv
    simp only [World.var?, hg, Option.bind_some] at hv
    split at hv
    · rename_i c t fr hb
      cases hv
      exact ⟨t, fr, hb⟩
    · cases hv
  refine ⟨⟨?_, ?_, ?_, ?_⟩, ?_⟩
  · obtain rfl := Option.some.inj (gSpans.symm.trans hg0)
    obtain rfl := Option.some.inj (tSpans.symm.trans ht0)
    obtain ⟨xs, m, rfl, hx, hlen, hn, hel⟩ := DataW.trod_array Tryz.underlying155 hd0
    have c3 : Tryz.prog.cellsOf 154 = 3 := by kernel_rfl
    have c12 : Tryz.prog.cellsOf 155 = 12 := by kernel_rfl
    rw [c12] at hlen
    rw [c3] at hel
    have e0 := hel 0 (by decide)
    have e1 := hel 1 (by decide)
    have e2 := hel 2 (by decide)
    have e3 := hel 3 (by decide)
    match xs, hn with
    | [x0, x1, x2, x3], _ =>
      simp [Rows.laid_pleach_atoms_spans] at hx
      obtain ⟨⟨h0, h1, h2, h3⟩, _⟩ := hx
      have s0 := span_cells (e0.trans rfl) h0.symm
      have s1 := span_cells (e1.trans rfl) h1.symm
      have s2 := span_cells (e2.trans rfl) h2.symm
      have s3 := span_cells (e3.trans rfl) h3.symm
      have hcs : cs0 = spansRow := by
        apply Array.ext'
        have key : cs0.toList = (cs0.toList.drop 0).take 3 ++ ((cs0.toList.drop 3).take 3 ++ ((cs0.toList.drop 6).take 3 ++ (cs0.toList.drop 9).take 3)) := by
          have hl : cs0.toList.length = 12 := hlen
          match cs0.toList, hl with
          | [_, _, _, _, _, _, _, _, _, _, _, _], _ => rfl
        rw [key]
        simp at s0 s1 s2 s3
        simp [s0, s1, s2, s3, spansRow]
      subst hcs
      exact var gSpans hv0
  · obtain rfl := Option.some.inj (gWords.symm.trans hg1)
    obtain rfl := Option.some.inj (tWords.symm.trans ht1)
    have hcs := cells_of_strs (L := wordList) Tryz.underlying204 Tryz.underlying9 (by kernel_rfl) (by kernel_rfl) hd1 rfl
    have hcs2 : cs1 = wordsRow := Array.toList_inj.1 hcs
    subst hcs2
    exact var gWords hv1
  · obtain rfl := Option.some.inj (gNats.symm.trans hg2)
    obtain rfl := Option.some.inj (tNats.symm.trans ht2)
    have hcs2 : cs2 = naturesRow := Array.toList_inj.1 (natures_cells hd2 rfl)
    subst hcs2
    exact var gNats hv2
  · obtain rfl := Option.some.inj (gPow.symm.trans hgp)
    obtain rfl := Option.some.inj (tPow.symm.trans htp)
    have hcp := Go.Lib.cells_of_tab (zs := Go.Lib.pow10Tab) (k := .u64) Tryz.underlying128 Tryz.underlying113 (by kernel_rfl) (by kernel_rfl) hdp
    unfold PowTab7 Go.Lib.TabIs
    intro _
    rw [hvp, ← hcp]
  · obtain rfl := Option.some.inj (gFld.symm.trans hg3)
    obtain rfl := Option.some.inj (tFld.symm.trans ht3)
    have hcf := Go.Lib.cells_of_tab (zs := [4, 1, 1, 0, 1, 0, 4, 5, 3, 3, 1, 0, 1, 11, 9, 6, 1, 0, 23, 0]) (k := .u8) Tryz.underlying82 Tryz.underlying81 (by kernel_rfl) (by kernel_rfl) hd3
    have hcs3 : cs3 = fldRow := Array.toList_inj.1 hcf
    subst hcs3
    exact var gFld hv3
end Go.Proofs.YtndihgdhpfjgmaaGreatDoor
end
