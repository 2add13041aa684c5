/- Layer 13: CodeEach (written by gen_each13.py). -/
import Derived.Test.YtdimcddbmccniaaGreatDoorKCd22
import Derived.Test.YtdimcddbmccniaaGreatDoorKCd25
import Derived.Test.YtdimcddbmccniaaGreatDoorKCd30
set_option linter.unusedVariables false
set_option linter.unusedSimpArgs false
namespace Go.Proofs.YtdimcddbmccniaaGreatDoor
open Go.RowKit

set_option maxHeartbeats 16000000 in
set_option maxRecDepth 100000 in
theorem walk_CodeEach (v0 v1 : Value) (k : Int) (hk : (Lit.int IntKind.i64 k).wf = true) (w : World)
    (o0 : ∃ x A ca B cb C cc, v0 = .agg #[.slice A x.fns.length ca, .slice B x.ops.length cb, .slice C x.tab.length cc] ∧ PgAt (· < w.heap.size) w x A ca B cb C cc ∧ PgS x) (o1 : ∃ c, CdAt (· < w.heap.size) w c v1 ∧ c.l.length ≤ 140737488351232) (hE : Env13 w) :
    Calls Tryz.prog 4 #[v0, v1, .int .i64 k] w fun e w' => e = .returned (.bool true) ∧ Below w.heap.size w w' := by
  obtain ⟨x, A, ca, B, cb, C, cc, rfl, hX, hS⟩ := o0
  obtain ⟨cd, hC, hcl⟩ := o1
  have hkn := i64_wf hk
  have hC0 := hC
  have hcl0 := hcl
  obtain ⟨op, a, b, ⟨tk, tn, ts, tt, tl⟩, ⟨pk, pn, ps, pt, pl⟩, yl⟩ := cd
  obtain ⟨TA, tcap, PA, pcap, LA, lcap, rfl, -⟩ := hC.parts
  obtain ⟨cd, hcd⟩ : ∃ cd : Cd, cd = ⟨op, a, b, .mk tk tn ts tt tl, .mk pk pn ps pt pl, yl⟩ := ⟨_, rfl⟩
  rw [← hcd] at hC0 hcl0
  clear hcd hC hcl hk
  obtain ⟨W1, hW1⟩ : ∃ W1, W1 = (w.alloc (.cells #[.slice A x.fns.length ca, .slice B x.ops.length cb, .slice C x.tab.length cc] 45)).alloc (.cells #[.int .i8 op, .int .i64 a, .int .i64 b, .int .i8 tk, .int .i64 tn, .string ts, .string tt, .slice TA tl.length tcap, .int .i8 pk, .int .i64 pn, .string ps, .string pt, .slice PA pl.length pcap, .slice LA yl.length lcap] 50) := ⟨_, rfl⟩
  obtain ⟨g0, g1, b1, z1⟩ := two13 w _ _ W1 hW1
  obtain ⟨p0, p1, p2⟩ := c3 g0
  have hmo := hX.ops.max
  unfold maxLen at hmo
  have HX := Lib.hid hX
  have HS := Lib.hid hS
  have HE := Lib.hid hE
  have HC := Lib.hid hC0
  have HCL := Lib.hid hcl0
  have HB1 := Lib.hid b1
  have HG1 := Lib.hid g0
  have HK1 := Lib.hid g1
  have HKN := Lib.hid hkn
  clear hX hS hE hC0 hcl0 b1 g0 g1 z1 hkn
  go_enter Tryz.func4, Tryz.ntmps4
  go_upto_region 1 with fail
  rw [← hW1]
  clear hW1
  go_wp2_with fail
  refine (great13_any x A ca B cb C cc W1 (HX.out.later HB1.out) HS.out).mono ?_
  rintro e W2 ⟨g, rfl, hg, b2⟩
  have HB2 := Lib.hid (HB1.out.trans (b2.mono HB1.out.size))
  have HG2 := Lib.hid ((b2.block _ (heap_lt HG1.out)).trans HG1.out)
  have HK2 := Lib.hid ((b2.block _ (heap_lt HK1.out)).trans HK1.out)
  have HGF := Lib.hid hg
  clear b2 hg p0 p1 p2
  cases g
  case true =>
    go_wp2_with fail
    refine (wakes13_any W2 (HE.out.under HB2.out)).mono ?_
    rintro e V9 ⟨rfl, b9⟩
    have HB9 := Lib.hid (HB2.out.trans (b9.mono HB2.out.size))
    clear b9
    go_wp2_with fail
    go_ret
    exact ⟨rfl, HB9.out⟩
  have HPB := Lib.hid (HGF.out rfl)
  obtain ⟨W3, hW3⟩ : ∃ W3, W3 = W2.alloc (.cells #[.int .i8 op, .int .i64 a, .int .i64 b, .int .i8 tk, .int .i64 tn, .string ts, .string tt, .slice TA tl.length tcap, .int .i8 pk, .int .i64 pn, .string ps, .string pt, .slice PA pl.length pcap, .slice LA yl.length lcap] 50) := ⟨_, rfl⟩
  have b3 : Below W2.heap.size W2 W3 := by rw [hW3]; exact (Below.refl _ _).alloc (Nat.le_refl _) _
  have g3 : W3.heap[W2.heap.size]? = some (.cells #[.int .i8 op, .int .i64 a, .int .i64 b, .int .i8 tk, .int .i64 tn, .string ts, .string tt, .slice TA tl.length tcap, .int .i8 pk, .int .i64 pn, .string ps, .string pt, .slice PA pl.length pcap, .slice LA yl.length lcap] 50 (0, 0)) := by rw [hW3]; exact block_alloc _ _
  obtain ⟨y0, y1, y2, y3, y4, y5, y6, y7, y8, y9, y10, y11, y12, y13⟩ := c14 HK2.out
  have HB3 := Lib.hid (HB2.out.trans (b3.mono HB2.out.size))
  have HG3 := Lib.hid ((b3.block _ (heap_lt HG2.out)).trans HG2.out)
  have HK3 := Lib.hid ((b3.block _ (heap_lt HK2.out)).trans HK2.out)
  have HGR := Lib.hid (great13_any ⟨[], [cd], []⟩ none 0 (some ⟨W2.heap.size, 0, none⟩) 1 none 0 W3 ⟨FRow.nil _ _ _ _, crow_one g3 (heap_lt g3) (HC.out.laterN HB3.out), NsRow.nil _ _ _ _⟩ ⟨Nat.zero_le _, (by show 1 ≤ _; decide), Nat.zero_le _, fun c hc => by
    simp only [List.mem_cons, List.not_mem_nil, or_false] at hc
    subst hc; exact HCL.out⟩)
  clear b3 g3
  go_wp2_with (rw [← hW3]; clear hW3)
  refine HGR.out.mono ?_
  rintro e W4 ⟨g4, rfl, hg4, b4⟩
  have HB4 := Lib.hid (HB3.out.trans (b4.mono HB3.out.size))
  have HG4 := Lib.hid ((b4.block _ (heap_lt HG3.out)).trans HG3.out)
  have HK4 := Lib.hid ((b4.block _ (heap_lt HK3.out)).trans HK3.out)
  have HGF4 := Lib.hid hg4
  clear b4 hg4 y0 y1 y2 y3 y4 y5 y6 y7 y8 y9 y10 y11 y12 y13
  obtain ⟨p0, p1, p2⟩ := c3 HG4.out
  cases g4
  case true =>
    go_wp2_with fail
    refine (wakes13_any W4 (HE.out.under HB4.out)).mono ?_
    rintro e V9 ⟨rfl, b9⟩
    have HB9 := Lib.hid (HB4.out.trans (b9.mono HB4.out.size))
    clear b9
    go_wp2_with fail
    go_ret
    exact ⟨rfl, HB9.out⟩
  have HCB : Hid (CdB cd) := Lib.hid ((HGF4.out rfl).ops cd (by simp))
  go_wp2_with fail
  refine (Check13_any x A ca B cb C cc W4 (HX.out.later HB4.out) HPB.out (HE.out.under HB4.out)).mono ?_
  rintro e W5 ⟨rfl, b5⟩
  have HB5 := Lib.hid (HB4.out.trans (b5.mono HB4.out.size))
  have HG5 := Lib.hid ((b5.block _ (heap_lt HG4.out)).trans HG4.out)
  have HK5 := Lib.hid ((b5.block _ (heap_lt HK4.out)).trans HK4.out)
  clear b5 p0 p1 p2
  obtain ⟨p0, p1, p2⟩ := c3 HG5.out
  by_cases hmay : mayP x = true
  case neg =>
    have hcp : checkP x = 130 := by unfold checkP; rw [if_neg hmay]
    rw [hcp]
    clear hmay hcp
    go_wp2_with fail
    refine (wakes13_any W5 (HE.out.under HB5.out)).mono ?_
    rintro e V9 ⟨rfl, b9⟩
    have HB9 := Lib.hid (HB5.out.trans (b9.mono HB5.out.size))
    clear b9
    go_wp2_with fail
    go_ret
    exact ⟨rfl, HB9.out⟩
  have hcp : checkP x = 0 := by unfold checkP; rw [if_pos hmay]
  rw [hcp]
  have HMAY := Lib.hid hmay
  clear hcp hmay
  go_wp2_with fail
  clear p0 p1 p2
  go_loopw [26] (fun i wr => ∃ j : Nat, j ≤ x.ops.length ∧ i = .int .i64 j ∧ Hid (Below W5.heap.size W5 wr)) (fun i _ => x.ops.length - (intOf i).toNat)
  case atStart => exact ⟨0, Nat.zero_le _, rfl, Lib.hid (Below.refl _ _)⟩
  case round =>
    obtain ⟨j, hj, rfl, HB⟩ := hrel
    by_cases hlt : j < x.ops.length
    · obtain ⟨y, hy⟩ : ∃ y, x.ops[j]? = some y := ⟨x.ops[j], List.getElem?_eq_getElem hlt⟩
      obtain ⟨ad, u, hA, had, hEl0, hTy⟩ := HX.out.ops.at_ j y hy
      subst hA
      have HBW := Lib.hid (HB5.out.trans (HB.out.mono HB5.out.size))
      have HEl := Lib.hid hEl0
      have HAD := Lib.hid had
      have HTY := Lib.hid hTy
      have HYB := Lib.hid (HPB.out.ops y (List.mem_of_getElem? hy))
      have HONE := Lib.hid (each_P HMAY.out (List.mem_of_getElem? hy))
      have HGW := Lib.hid ((HB.out.block _ (heap_lt HG5.out)).trans HG5.out)
      have i0 : (j : Int) < (x.ops.length : Int) := by omega
      clear hEl0 hTy had hy
      obtain ⟨c0, c1, c2, c3, c4, c5, c6, c7, c8, c9, c10, c11, c12, c13, hcc, -⟩ := HEl.out
      subst hcc
      go_upto_region 6 with fail
      refine wp_region_held (S := fun V => Below w.heap.size w V ∧ V.heap[w.heap.size]? = some (.cells #[.slice A x.fns.length ca, .slice (some ad) x.ops.length cb, .slice C x.tab.length cc] 45 (0, 0))) (by kernel_rfl) ?_
      show wpAnyH _ _ _ _ _ _ _ _ wr.drew
      have hdr : Below wr.heap.size wr wr.drew := ⟨rfl, rfl, rfl, Nat.le_refl _, fun _ _ => rfl⟩
      have hS0 : Below w.heap.size w wr.drew ∧ wr.drew.heap[w.heap.size]? = some (.cells #[.slice A x.fns.length ca, .slice (some ad) x.ops.length cb, .slice C x.tab.length cc] 45 (0, 0)) := ⟨HBW.out.trans (hdr.mono HBW.out.size), HGW.out⟩
      have HBD := Lib.hid (HB.out.trans (hdr.mono HB.out.size))
      clear hdr
      generalize wr.drew = D at hS0 HBD ⊢
      refine wpAnyH_take (i := 0) (oi := ⟨some 29, _, _, _, _, _⟩) (v := ?_) rfl (by kernel_rfl) (by kernel_rfl) (by kernel_rfl) (fun _ _ _ h => h) (Or.inl ⟨by kernel_rfl, ?_⟩) (by assumption) ?_; rotate_left; (intro V hV; (try dsimp only at hV); have f0 := cell_of_row (i := 0) hV.2 rfl; have f1 := cell_of_row (i := 1) hV.2 rfl; have f2 := cell_of_row (i := 2) hV.2 rfl; go_simp; first | done | with_reducible rfl); (try simp only [Act.put, sI, sZ, sS])
      refine wpAnyH_take (i := 1) (oi := ⟨some 30, _, _, _, _, _⟩) (v := ?_) rfl (by kernel_rfl) (by kernel_rfl) (by kernel_rfl) (fun _ _ _ h => h) (Or.inl ⟨by kernel_rfl, ?_⟩) (by assumption) ?_; rotate_left; (intro V hV; (try dsimp only at hV); go_simp; first | done | with_reducible rfl); (try simp only [Act.put, sI, sZ, sS])
      refine wpAnyH_take (i := 2) (oi := ⟨some 31, _, _, _, _, _⟩) (v := ?_) rfl (by kernel_rfl) (by kernel_rfl) (by kernel_rfl) (fun _ _ _ h => h) (Or.inl ⟨by kernel_rfl, ?_⟩) (by assumption) ?_; rotate_left; (intro V hV; (try dsimp only at hV); have f0 := cell_of_row (i := 0) hV.2 rfl; have f1 := cell_of_row (i := 1) hV.2 rfl; have f2 := cell_of_row (i := 2) hV.2 rfl; go_simp; first | done | with_reducible rfl); (try simp only [Act.put, sI, sZ, sS])
      refine wpAnyH_take (i := 3) (oi := ⟨some 32, _, _, _, _, _⟩) (v := ?_) rfl (by kernel_rfl) (by kernel_rfl) (by kernel_rfl) (fun _ _ _ h => h) (Or.inl ⟨by kernel_rfl, ?_⟩) (by assumption) ?_; rotate_left; (intro V hV; (try dsimp only at hV); go_simp; first | done | with_reducible rfl); (try simp only [Act.put, sI, sZ, sS])
      refine wpAnyH_take (i := 4) (oi := ⟨some 33, _, _, _, _, _⟩) (v := ?_) rfl (by kernel_rfl) (by kernel_rfl) (by kernel_rfl) (fun _ _ _ h => h) (Or.inl ⟨by kernel_rfl, ?_⟩) (by assumption) ?_; rotate_left; (intro V hV; (try dsimp only at hV); go_simp; first | done | with_reducible rfl); (try simp only [Act.put, sI, sZ, sS])
      refine wpAnyH_take (i := 5) (oi := ⟨some 34, _, _, _, _, _⟩) (v := ?_) rfl (by kernel_rfl) (by kernel_rfl) (by kernel_rfl) (fun _ _ _ h => h) (Or.inl ⟨by kernel_rfl, ?_⟩) (by assumption) ?_; rotate_left; (intro V hV; (try dsimp only at hV); obtain ⟨q0, q1, q2, q3, q4, q5, q6, q7, q8, q9, q10, q11, q12, q13, hq, e0, e1, e2, e3, e4, e5, e6, e7, e8, e9, e10, e11, e12, e13⟩ := HEl.out.keep (hV.1.block _ HAD.out); simp only [Value.agg.injEq, Array.mk.injEq, List.cons.injEq, and_true] at hq; obtain ⟨rfl, rfl, rfl, rfl, rfl, rfl, rfl, rfl, rfl, rfl, rfl, rfl, rfl, rfl⟩ := hq; go_simp; first | done | with_reducible rfl); (try simp only [Act.put, sI, sZ, sS])
      refine wpAnyH_ready (rs := [6]) (by kernel_rfl) (by simp) ?_
      refine AllReadyH.cons (o := ⟨some 35, _, _, _, _, _⟩) rfl (fun K hK => ?_) AllReadyH.nil
      rw [if_pos (by rfl)]
      go_simp
      refine (one13_any x A ca (some ad) cb C cc D y _ (HX.out.later hS0.1) HYB.out (HTY.out.keep (fun q hq => hS0.1.block q hq) (fun q hq => Nat.lt_of_lt_of_le hq hS0.1.size)) (HE.out.under hS0.1)).mono ?_
      rw [HONE.out]
      rintro e Y ⟨rfl, bY⟩
      have hSY := And.intro (hS0.1.trans (bY.mono hS0.1.size)) ((bY.block _ (heap_lt hS0.2)).trans hS0.2)
      have HBY := Lib.hid (HBD.out.trans (bY.mono HBD.out.size))
      clear bY
      refine hK.out _ _ hSY (fun hSn => ?_)
      clear hK K hSn; (try simp only [Act.put, sI, sZ, sS])
      clear hS0
      refine wpAnyH_take (i := 7) (oi := ⟨some 36, _, _, _, _, _⟩) (v := ?_) rfl (by kernel_rfl) (by kernel_rfl) (by kernel_rfl) (fun _ _ _ h => h) (Or.inl ⟨by kernel_rfl, ?_⟩) (by assumption) ?_; rotate_left; (intro V hV; (try dsimp only at hV); go_simp; first | done | with_reducible rfl); (try simp only [Act.put, sI, sZ, sS])
      refine wpAnyH_done (by kernel_rfl) ?_ _
      clear hSY
      go_wp2_with fail
      go_roundw
      case rel => exact ⟨j + 1, by omega, by go_num, HBY⟩
      case measure => simp [intOf]; omega
    · have HBW := Lib.hid (HB5.out.trans (HB.out.mono HB5.out.size))
      have HGW := Lib.hid ((HB.out.block _ (heap_lt HG5.out)).trans HG5.out)
      have HKW := Lib.hid ((HB.out.block _ (heap_lt HK5.out)).trans HK5.out)
      have hw1 : IntKind.i64.wrap ((x.ops.length : Int) - 1) = (x.ops.length : Int) - 1 := by rw [IntKind.wrap_i64]; omega
      have i9 : ¬ (j : Int) < (x.ops.length : Int) := by omega
      obtain ⟨p0, p1, p2⟩ := c3 HGW.out
      by_cases hk0 : k < 0
      case pos =>
        go_wp2_with fail
        refine (wakes13_any wr (HE.out.under HBW.out)).mono ?_
        rintro e V9 ⟨rfl, b9⟩
        have HB9 := Lib.hid (HBW.out.trans (b9.mono HBW.out.size))
        clear b9
        go_wp2_with fail
        go_ret
        exact ⟨rfl, HB9.out⟩
      by_cases hk1 : k < (x.ops.length : Int) - 1
      case neg =>
        have i1 : (x.ops.length : Int) - 1 ≤ k := by omega
        clear hk1
        go_wp2_with fail
        refine (wakes13_any wr (HE.out.under HBW.out)).mono ?_
        rintro e V9 ⟨rfl, b9⟩
        have HB9 := Lib.hid (HBW.out.trans (b9.mono HBW.out.size))
        clear b9
        go_wp2_with fail
        go_ret
        exact ⟨rfl, HB9.out⟩
      have i1 : ¬ (x.ops.length : Int) - 1 ≤ k := by omega
      obtain ⟨kn, rfl⟩ : ∃ kn : Nat, k = kn := ⟨k.toNat, by omega⟩
      have hkl : kn + 1 < x.ops.length := by omega
      go_upto_region 12 with fail
      clear p0 p1 p2 hw1 i9 hk0 hk1 i1 hlt
      have hfit : x.ops.length ≤ 4096 := by
        have h9 := HMAY.out
        unfold mayP at h9
        simp only [Bool.and_eq_true] at h9
        have h8 := h9.1
        unfold fitsP at h8
        exact (of_decide_eq_true h8).1
      obtain ⟨W6, hW6⟩ : ∃ W6, W6 = wr.alloc (.cells #[.slice A x.fns.length ca, .slice B x.ops.length cb, .slice C x.tab.length cc] 45) := ⟨_, rfl⟩
      rw [← hW6]
      have b6 : Below wr.heap.size wr W6 := by rw [hW6]; exact (Below.refl _ _).alloc (Nat.le_refl _) _
      have z6 : W6.heap.size = wr.heap.size + 1 := by rw [hW6, World.size_alloc]
      have go6 : W6.heap[wr.heap.size]? = some (.cells #[.slice A x.fns.length ca, .slice B x.ops.length cb, .slice C x.tab.length cc] 45 (0, 0)) := by rw [hW6]; exact block_alloc _ _
      clear hW6
      obtain ⟨W7, hW7⟩ : ∃ W7, W7 = W6.alloc (.cells #[] 50) := ⟨_, rfl⟩
      have b7 : Below W6.heap.size W6 W7 := by rw [hW7]; exact (Below.refl _ _).alloc (Nat.le_refl _) _
      have ge7 : W7.heap[W6.heap.size]? = some (.cells #[] 50 (0, 0)) := by rw [hW7]; exact block_alloc _ _
      have gp7 := (b7.block _ (heap_lt ((b6.block _ (heap_lt HGW.out)).trans HGW.out))).trans ((b6.block _ (heap_lt HGW.out)).trans HGW.out)
      have b67 := b6.trans (b7.mono b6.size)
      have hb7 := HBW.out.trans (b67.mono HBW.out.size)
      have HO7 : Hid (OwnC W6.heap.size (· < w.heap.size) W7 (.slice (some ⟨W6.heap.size, 0, none⟩) 0 0) []) := Lib.hid (OwnC.nil ge7 (Nat.le_refl _))
      have HBS7 := Lib.hid b7.size
      have hws : w.heap.size ≤ wr.heap.size := HBW.out.size
      have HP7 : Hid (∀ b, b < w.heap.size → b < W7.heap.size ∧ (Value.slice (some ⟨W6.heap.size, 0, none⟩) 0 0).ownBlock ≠ some b) := Lib.hid (fun b hb => ⟨Nat.lt_of_lt_of_le hb hb7.size, fun e => by simp [Value.ownBlock] at e; omega⟩)
      have HR7 : Hid (RowC (· < w.heap.size) W7 B x.ops) := Lib.hid (HX.out.ops.keep (fun b hb => hb7.block b hb) (fun b hb => hb)).rowC
      have HLE7 : Hid (([] : List Cd).length + x.ops.length ≤ 100000) := Lib.hid (by simp; omega)
      obtain ⟨p0, p1, p2⟩ := c3 gp7
      rw [hW7] at p0 p1 p2
      have HGO6 := Lib.hid go6
      have HB67 := Lib.hid (And.intro b6 (And.intro b7 z6))
      have HKL := Lib.hid hkl
      have HFT := Lib.hid hfit
      clear b6 b7 go6 ge7 gp7 b67 hb7 hws z6 hkl hfit
      go_wp2_with (at_builtin; rw [← hW7]; clear hW7; refine wpList_own_codes rfl (.tmp 50) (.tmp 52) rfl HO7.out HBS7.out HP7.out rfl rfl rfl HR7.out HLE7.out ?_)
      intro v8 W8 O8 gr8 own8
      replace O8 : OwnC W6.heap.size (· < w.heap.size) W8 v8 x.ops := O8
      obtain ⟨g8, cap8, cur8, rfl, hg8, hcur8, hcs8⟩ := O8.some_ (by have := HKL.out; omega)
      have b68 : Below W6.heap.size W6 W8 := HB67.out.2.1.trans ((Mod.grown (F := fun k => k = W6.heap.size) gr8 (fun k _ e => by simp [Value.ownBlock] at e; exact e.symm)).below HBS7.out (fun k e => by omega))
      have go8 := (b68.block _ (heap_lt HGO6.out)).trans HGO6.out
      have c8 : W8.cell? ⟨wr.heap.size, 1, none⟩ = some (.slice B x.ops.length cb) := cell_of_row (i := 1) go8 rfl
      have f8 : W8.frozen? ⟨wr.heap.size, 1, none⟩ = false := free_of_row go8
      have hws : w.heap.size ≤ wr.heap.size := HBW.out.size
      have hz6 := HB67.out.2.2
      obtain ⟨W9, hW9⟩ : ∃ W9, W9 = W8.setCell ⟨wr.heap.size, 1, none⟩ (.slice (some ⟨g8, 0, none⟩) x.ops.length cap8) := ⟨_, rfl⟩
      have m9 : Mod (fun k => k = wr.heap.size) W8 W9 := by rw [hW9]; exact Mod.setCell _ _ _ (.inl rfl)
      have go9 : W9.heap[wr.heap.size]? = some (.cells #[.slice A x.fns.length ca, .slice (some ⟨g8, 0, none⟩) x.ops.length cap8, .slice C x.tab.length cc] 45 (0, 0)) := by rw [hW9]; exact set_row (.slice (some ⟨g8, 0, none⟩) x.ops.length cap8) (i := 1) go8
      have O9 : OwnC W6.heap.size (· < w.heap.size) W9 (.slice (some ⟨g8, 0, none⟩) x.ops.length cap8) x.ops := O8.mod m9 (fun k hk e => by (have h9 : g8 = k := by simpa [Value.ownBlock] using hk); omega) (fun b hb => ⟨Nat.lt_of_lt_of_le hb (Nat.le_trans hws (Nat.le_trans (by omega) b68.size)), fun e => by omega⟩)
      have hcur9 := (m9.block g8 (heap_lt hcur8) (fun e => by omega)).trans hcur8
      have b9 : Below wr.heap.size wr W9 := (HB67.out.1.trans (b68.mono HB67.out.1.size)).trans (m9.below (Nat.le_trans HB67.out.1.size b68.size) (fun k e => by omega))
      have hb9 := HBW.out.trans (b9.mono HBW.out.size)
      have gp9 := (b9.block _ (heap_lt HGW.out)).trans HGW.out
      have gk9 := (b9.block _ (heap_lt HKW.out)).trans HKW.out
      have hth : W9.there g8 (kn * 14) 14 := there_of_row hcur9 (by have := HKL.out; omega)
      have HTH := Lib.hid hth
      obtain ⟨W10, hW10⟩ : ∃ W10, W10 = W9.setCells g8 (kn * 14) (#[.int .i8 op, .int .i64 a, .int .i64 b, .int .i8 tk, .int .i64 tn, .string ts, .string tt, .slice TA tl.length tcap, .int .i8 pk, .int .i64 pn, .string ps, .string pt, .slice PA pl.length pcap, .slice LA yl.length lcap] : Array Value).toList := ⟨_, rfl⟩
      have SET : OwnC W6.heap.size (· < w.heap.size) W10 (.slice (some ⟨g8, 0, none⟩) x.ops.length cap8) (x.ops.set kn cd) ∧ Mod (fun b => b = g8) W9 W10 := by
        rw [hW10]
        exact (O9.set (fun b hb => Nat.lt_of_lt_of_le (Nat.lt_of_lt_of_le hb hws) (by omega)) kn (by have := HKL.out; omega) (y := cd) (HC.out.keep (fun b hb => hb9.block b hb) (fun _ h => h)))
      obtain ⟨o10, m10⟩ := SET
      have b10 : Below wr.heap.size wr W10 := b9.trans (m10.below b9.size (fun k (e : k = g8) => by omega))
      have hb10 := HBW.out.trans (b10.mono HBW.out.size)
      have go10 := (m10.block _ (heap_lt go9) (fun e => by omega)).trans go9
      have gp10 := (b10.block _ (heap_lt HGW.out)).trans HGW.out
      have gk10 := (b10.block _ (heap_lt HKW.out)).trans HKW.out
      have hx10 := HX.out.later hb10
      obtain ⟨A10, cap10, hv10, hR10⟩ := o10.crow (Q := (· < W10.heap.size)) (fun b hb => Nat.lt_of_lt_of_le hb hb10.size) (fun _ _ h => h)
      have hln : (x.ops.set kn cd).length = x.ops.length := List.length_set
      rw [hln] at hv10
      simp only [Value.slice.injEq, true_and] at hv10
      obtain ⟨rfl, rfl⟩ := hv10
      have HXO : Hid (PgAt (· < W10.heap.size) W10 ⟨x.fns, x.ops.set kn cd, x.tab⟩ A ca (some ⟨g8, 0, none⟩) cap8 C cc) := Lib.hid ⟨hx10.fns, hR10, hx10.tab⟩
      have HPO : Hid (PgB ⟨x.fns, x.ops.set kn cd, x.tab⟩) := Lib.hid ⟨fun c hc => by
        rcases List.mem_or_eq_of_mem_set hc with h | h
        · exact HPB.out.ops c h
        · rw [h]; exact HCB.out, HPB.out.flat⟩
      have HEW := Lib.hid (HE.out.under hb10)
      have HX10 := Lib.hid hx10
      have HB10 := Lib.hid hb10
      have HO10 := Lib.hid go10
      have HP10 := Lib.hid gp10
      have HK10 := Lib.hid gk10
      have HC10 := Lib.hid (HC.out.laterN hb10)
      have HSP := Lib.hid (spoil_P HMAY.out (c := cd) HKL.out)
      have HC2 : Hid (∀ V, Below W10.heap.size W10 V → Calls Tryz.prog 21 #[.agg #[.slice A x.fns.length ca, .slice (some ⟨g8, 0, none⟩) x.ops.length cap8, .slice C x.tab.length cc]] V fun e w' => e = .returned (.int .i64 (checkP ⟨x.fns, x.ops.set kn cd, x.tab⟩)) ∧ Below V.heap.size V w') := Lib.hid (fun V b => by
        have h9 := Check13_any ⟨x.fns, x.ops.set kn cd, x.tab⟩ A ca (some ⟨g8, 0, none⟩) cap8 C cc V (HXO.out.later b) HPO.out (HEW.out.under b)
        rwa [show (⟨x.fns, x.ops.set kn cd, x.tab⟩ : Pg).ops.length = x.ops.length from hln] at h9)
      have HO2 : Hid (∀ V, Below W10.heap.size W10 V → Calls Tryz.prog 23 #[.agg #[.slice A x.fns.length ca, .slice B x.ops.length cb, .slice C x.tab.length cc], .agg #[.int .i8 op, .int .i64 a, .int .i64 b, .int .i8 tk, .int .i64 tn, .string ts, .string tt, .slice TA tl.length tcap, .int .i8 pk, .int .i64 pn, .string ps, .string pt, .slice PA pl.length pcap, .slice LA yl.length lcap]] V fun e w' => e = .returned (.bool (oneB x.fns x.tab x.ops.length cd)) ∧ Below V.heap.size V w') := Lib.hid (fun V b => one13_any x A ca B cb C cc V cd _ (HX10.out.later b) HCB.out (HC10.out.laterN b) (HEW.out.under b))
      clear o10 m10 b10 hb10 go10 gp10 gk10 hx10 hR10 hln
      have HG8 := Lib.hid (And.intro hg8 hz6)
      have HB9 := Lib.hid b9
      have HO9 := Lib.hid go9
      have HP9 := Lib.hid gp9
      have HK9 := Lib.hid gk9
      have HON : Hid ((#[.int .i8 op, .int .i64 a, .int .i64 b, .int .i8 tk, .int .i64 tn, .string ts, .string tt, .slice TA tl.length tcap, .int .i8 pk, .int .i64 pn, .string ps, .string pt, .slice PA pl.length pcap, .slice LA yl.length lcap] : Array Value).all (·.oneCell') = true) := Lib.hid (by simp [Value.oneCell'])
      have HCI : Hid ((Tryz.prog.info? 50).map (·.size) = some (#[.int .i8 op, .int .i64 a, .int .i64 b, .int .i8 tk, .int .i64 tn, .string ts, .string tt, .slice TA tl.length tcap, .int .i8 pk, .int .i64 pn, .string ps, .string pt, .slice PA pl.length pcap, .slice LA yl.length lcap] : Array Value).size) := Lib.hid (by kernel_rfl)
      clear O8 gr8 own8 b68 go8 m9 go9 O9 hcur8 hcs8 hcur9 b9 hb9 gp9 gk9 hth hws hz6 hg8 HR7 HLE7 HO7 HP7
      go_upto_region 13 with fail
      rw [← hW9]
      clear hW9 c8 f8
      obtain ⟨p0, p1, p2⟩ := c3 HP9.out
      obtain ⟨y0, y1, y2, y3, y4, y5, y6, y7, y8, y9, y10, y11, y12, y13⟩ := c14 HK9.out
      obtain ⟨o0, o1, o2⟩ := c3 HO9.out
      have hkl : (kn : Int) < (x.ops.length : Int) := by have := HKL.out; omega
      have hk0 : (0 : Int) ≤ (kn : Int) := by omega
      go_upto_region 14 with (refine wpList_store_mid rfl 50 _ _ rfl g8 (kn * 14) #[.int .i8 op, .int .i64 a, .int .i64 b, .int .i8 tk, .int .i64 tn, .string ts, .string tt, .slice TA tl.length tcap, .int .i8 pk, .int .i64 pn, .string ps, .string pt, .slice PA pl.length pcap, .slice LA yl.length lcap] rfl rfl HTH.out HCI.out HON.out ?_)
      rw [← hW10]
      clear hW10 p0 p1 p2 y0 y1 y2 y3 y4 y5 y6 y7 y8 y9 y10 y11 y12 y13 o0 o1 o2
      have key : (checkP ⟨x.fns, x.ops.set kn cd, x.tab⟩ = 0 ∧ oneB x.fns x.tab x.ops.length cd = true) ∨ (checkP ⟨x.fns, x.ops.set kn cd, x.tab⟩ = 130 ∧ oneB x.fns x.tab x.ops.length cd = false) := by
        have h := HSP.out
        unfold checkP
        cases h1 : oneB x.fns x.tab x.ops.length cd with
        | true => rw [h1] at h; exact .inl ⟨if_pos h, rfl⟩
        | false => rw [h1] at h; exact .inr ⟨if_neg (by rw [h]; decide), rfl⟩
      clear HSP HTH HCI HXO HPO HX10 HC10 HKN HKL HFT HMAY HGO6 HB67 HBS7 HG8 HB9 HO9 HP9 HK9 hkl
      refine wp_region_held (S := fun V => Below W10.heap.size W10 V) (by kernel_rfl) ?_
      show wpAnyH _ _ _ _ _ _ _ _ W10.drew
      have hS0 : Below W10.heap.size W10 W10.drew := ⟨rfl, rfl, rfl, Nat.le_refl _, fun _ _ => rfl⟩
      generalize W10.drew = D at hS0 ⊢
      rcases key with ⟨k1, k2⟩ | ⟨k1, k2⟩
      · rw [k1] at HC2
        rw [k2] at HO2
        clear k1 k2
        refine wpAnyH_take (i := 0) (oi := ⟨some 60, _, _, _, _, _⟩) (v := ?_) rfl (by kernel_rfl) (by kernel_rfl) (by kernel_rfl) (fun _ _ _ h => h) (Or.inl ⟨by kernel_rfl, ?_⟩) (by assumption) ?_; rotate_left; (intro V hV; (try dsimp only at hV); have o0 := cell_of_row (i := 0) ((hV.block _ (heap_lt HO10.out)).trans HO10.out) rfl; have o1 := cell_of_row (i := 1) ((hV.block _ (heap_lt HO10.out)).trans HO10.out) rfl; have o2 := cell_of_row (i := 2) ((hV.block _ (heap_lt HO10.out)).trans HO10.out) rfl; go_simp; first | done | with_reducible rfl); (try simp only [Act.put, sI, sZ, sS])
        refine wpAnyH_take (i := 3) (oi := ⟨some 63, _, _, _, _, _⟩) (v := ?_) rfl (by kernel_rfl) (by kernel_rfl) (by kernel_rfl) (fun _ _ _ h => h) (Or.inl ⟨by kernel_rfl, ?_⟩) (by assumption) ?_; rotate_left; (intro V hV; (try dsimp only at hV); have p0 := cell_of_row (i := 0) ((hV.block _ (heap_lt HP10.out)).trans HP10.out) rfl; have p1 := cell_of_row (i := 1) ((hV.block _ (heap_lt HP10.out)).trans HP10.out) rfl; have p2 := cell_of_row (i := 2) ((hV.block _ (heap_lt HP10.out)).trans HP10.out) rfl; go_simp; first | done | with_reducible rfl); (try simp only [Act.put, sI, sZ, sS])
        refine wpAnyH_take (i := 4) (oi := ⟨some 64, _, _, _, _, _⟩) (v := ?_) rfl (by kernel_rfl) (by kernel_rfl) (by kernel_rfl) (fun _ _ _ h => h) (Or.inl ⟨by kernel_rfl, ?_⟩) (by assumption) ?_; rotate_left; (intro V hV; (try dsimp only at hV); have y0 := cell_of_row (i := 0) ((hV.block _ (heap_lt HK10.out)).trans HK10.out) rfl; have y1 := cell_of_row (i := 1) ((hV.block _ (heap_lt HK10.out)).trans HK10.out) rfl; have y2 := cell_of_row (i := 2) ((hV.block _ (heap_lt HK10.out)).trans HK10.out) rfl; have y3 := cell_of_row (i := 3) ((hV.block _ (heap_lt HK10.out)).trans HK10.out) rfl; have y4 := cell_of_row (i := 4) ((hV.block _ (heap_lt HK10.out)).trans HK10.out) rfl; have y5 := cell_of_row (i := 5) ((hV.block _ (heap_lt HK10.out)).trans HK10.out) rfl; have y6 := cell_of_row (i := 6) ((hV.block _ (heap_lt HK10.out)).trans HK10.out) rfl; have y7 := cell_of_row (i := 7) ((hV.block _ (heap_lt HK10.out)).trans HK10.out) rfl; have y8 := cell_of_row (i := 8) ((hV.block _ (heap_lt HK10.out)).trans HK10.out) rfl; have y9 := cell_of_row (i := 9) ((hV.block _ (heap_lt HK10.out)).trans HK10.out) rfl; have y10 := cell_of_row (i := 10) ((hV.block _ (heap_lt HK10.out)).trans HK10.out) rfl; have y11 := cell_of_row (i := 11) ((hV.block _ (heap_lt HK10.out)).trans HK10.out) rfl; have y12 := cell_of_row (i := 12) ((hV.block _ (heap_lt HK10.out)).trans HK10.out) rfl; have y13 := cell_of_row (i := 13) ((hV.block _ (heap_lt HK10.out)).trans HK10.out) rfl; go_simp; first | done | with_reducible rfl); (try simp only [Act.put, sI, sZ, sS])
        refine wpAnyH_ready (rs := [1]) (by kernel_rfl) (by simp) ?_
        refine AllReadyH.cons (o := ⟨some 61, _, _, _, _, _⟩) rfl (fun K hK => ?_) AllReadyH.nil
        rw [if_pos (by rfl)]
        go_simp
        refine (HC2.out D hS0).mono ?_
        rintro e Y ⟨rfl, bY⟩
        have hSY := hS0.trans (bY.mono hS0.size)
        clear bY
        refine hK.out _ _ hSY (fun hSn => ?_)
        clear hK K hSn; (try simp only [Act.put, sI, sZ, sS])
        clear hS0
        refine wpAnyH_take (i := 2) (oi := ⟨some 62, _, _, _, _, _⟩) (v := ?_) rfl (by kernel_rfl) (by kernel_rfl) (by kernel_rfl) (fun _ _ _ h => h) (Or.inl ⟨by kernel_rfl, ?_⟩) (by assumption) ?_; rotate_left; (intro V hV; (try dsimp only at hV); go_simp; first | done | with_reducible rfl); (try simp only [Act.put, sI, sZ, sS])
        refine wpAnyH_ready (rs := [5]) (by kernel_rfl) (by simp) ?_
        refine AllReadyH.cons (o := ⟨some 65, _, _, _, _, _⟩) rfl (fun K hK => ?_) AllReadyH.nil
        rw [if_pos (by rfl)]
        go_simp
        refine (HO2.out Y hSY).mono ?_
        rintro e Z ⟨rfl, bZ⟩
        have hSZ := hSY.trans (bZ.mono hSY.size)
        clear bZ
        refine hK.out _ _ hSZ (fun hSn => ?_)
        clear hK K hSn; (try simp only [Act.put, sI, sZ, sS])
        clear hSY
        refine wpAnyH_take (i := 6) (oi := ⟨some 66, _, _, _, _, _⟩) (v := ?_) rfl (by kernel_rfl) (by kernel_rfl) (by kernel_rfl) (fun _ _ _ h => h) (Or.inl ⟨by kernel_rfl, ?_⟩) (by assumption) ?_; rotate_left; (intro V hV; (try dsimp only at hV); go_simp; first | done | with_reducible rfl); (try simp only [Act.put, sI, sZ, sS])
        refine wpAnyH_take (i := 7) (oi := ⟨some 67, _, _, _, _, _⟩) (v := ?_) rfl (by kernel_rfl) (by kernel_rfl) (by kernel_rfl) (fun _ _ _ h => h) (Or.inl ⟨by kernel_rfl, ?_⟩) (by assumption) ?_; rotate_left; (intro V hV; (try dsimp only at hV); go_simp; first | done | with_reducible rfl); (try simp only [Act.put, sI, sZ, sS])
        refine wpAnyH_ready (rs := [8]) (by kernel_rfl) (by simp) ?_
        refine AllReadyH.cons (o := ⟨some 68, _, _, _, _, _⟩) rfl (fun K hK => ?_) AllReadyH.nil
        rw [if_pos (by rfl)]
        go_simp
        refine (wakes13_any Z (HEW.out.under hSZ)).mono ?_
        rintro e U ⟨rfl, bU⟩
        have hSU := hSZ.trans (bU.mono hSZ.size)
        have HBU := Lib.hid (HB10.out.trans (hSU.mono HB10.out.size))
        clear bU
        refine hK.out _ _ hSU (fun hSn => ?_)
        clear hK K hSn; (try simp only [Act.put, sI, sZ, sS])
        clear hSZ
        refine wpAnyH_take (i := 9) (oi := ⟨some 69, _, _, _, _, _⟩) (v := ?_) rfl (by kernel_rfl) (by kernel_rfl) (by kernel_rfl) (fun _ _ _ h => h) (Or.inl ⟨by kernel_rfl, ?_⟩) (by assumption) ?_; rotate_left; (intro V hV; (try dsimp only at hV); go_simp; first | done | with_reducible rfl); (try simp only [Act.put, sI, sZ, sS])
        refine wpAnyH_take (i := 10) (oi := ⟨some 6, _, _, _, _, _⟩) (v := ?_) rfl (by kernel_rfl) (by kernel_rfl) (by kernel_rfl) (fun _ _ _ h => h) (Or.inl ⟨by kernel_rfl, ?_⟩) (by assumption) ?_; rotate_left; (intro V hV; (try dsimp only at hV); go_simp; first | done | with_reducible rfl); (try simp only [Act.put, sI, sZ, sS])
        refine wpAnyH_done (by kernel_rfl) ?_ _
        clear hSU
        go_wp2_with fail
        go_ret
        exact ⟨rfl, HBU.out⟩
      · rw [k1] at HC2
        rw [k2] at HO2
        clear k1 k2
        refine wpAnyH_take (i := 0) (oi := ⟨some 60, _, _, _, _, _⟩) (v := ?_) rfl (by kernel_rfl) (by kernel_rfl) (by kernel_rfl) (fun _ _ _ h => h) (Or.inl ⟨by kernel_rfl, ?_⟩) (by assumption) ?_; rotate_left; (intro V hV; (try dsimp only at hV); have o0 := cell_of_row (i := 0) ((hV.block _ (heap_lt HO10.out)).trans HO10.out) rfl; have o1 := cell_of_row (i := 1) ((hV.block _ (heap_lt HO10.out)).trans HO10.out) rfl; have o2 := cell_of_row (i := 2) ((hV.block _ (heap_lt HO10.out)).trans HO10.out) rfl; go_simp; first | done | with_reducible rfl); (try simp only [Act.put, sI, sZ, sS])
        refine wpAnyH_take (i := 3) (oi := ⟨some 63, _, _, _, _, _⟩) (v := ?_) rfl (by kernel_rfl) (by kernel_rfl) (by kernel_rfl) (fun _ _ _ h => h) (Or.inl ⟨by kernel_rfl, ?_⟩) (by assumption) ?_; rotate_left; (intro V hV; (try dsimp only at hV); have p0 := cell_of_row (i := 0) ((hV.block _ (heap_lt HP10.out)).trans HP10.out) rfl; have p1 := cell_of_row (i := 1) ((hV.block _ (heap_lt HP10.out)).trans HP10.out) rfl; have p2 := cell_of_row (i := 2) ((hV.block _ (heap_lt HP10.out)).trans HP10.out) rfl; go_simp; first | done | with_reducible rfl); (try simp only [Act.put, sI, sZ, sS])
        refine wpAnyH_take (i := 4) (oi := ⟨some 64, _, _, _, _, _⟩) (v := ?_) rfl (by kernel_rfl) (by kernel_rfl) (by kernel_rfl) (fun _ _ _ h => h) (Or.inl ⟨by kernel_rfl, ?_⟩) (by assumption) ?_; rotate_left; (intro V hV; (try dsimp only at hV); have y0 := cell_of_row (i := 0) ((hV.block _ (heap_lt HK10.out)).trans HK10.out) rfl; have y1 := cell_of_row (i := 1) ((hV.block _ (heap_lt HK10.out)).trans HK10.out) rfl; have y2 := cell_of_row (i := 2) ((hV.block _ (heap_lt HK10.out)).trans HK10.out) rfl; have y3 := cell_of_row (i := 3) ((hV.block _ (heap_lt HK10.out)).trans HK10.out) rfl; have y4 := cell_of_row (i := 4) ((hV.block _ (heap_lt HK10.out)).trans HK10.out) rfl; have y5 := cell_of_row (i := 5) ((hV.block _ (heap_lt HK10.out)).trans HK10.out) rfl; have y6 := cell_of_row (i := 6) ((hV.block _ (heap_lt HK10.out)).trans HK10.out) rfl; have y7 := cell_of_row (i := 7) ((hV.block _ (heap_lt HK10.out)).trans HK10.out) rfl; have y8 := cell_of_row (i := 8) ((hV.block _ (heap_lt HK10.out)).trans HK10.out) rfl; have y9 := cell_of_row (i := 9) ((hV.block _ (heap_lt HK10.out)).trans HK10.out) rfl; have y10 := cell_of_row (i := 10) ((hV.block _ (heap_lt HK10.out)).trans HK10.out) rfl; have y11 := cell_of_row (i := 11) ((hV.block _ (heap_lt HK10.out)).trans HK10.out) rfl; have y12 := cell_of_row (i := 12) ((hV.block _ (heap_lt HK10.out)).trans HK10.out) rfl; have y13 := cell_of_row (i := 13) ((hV.block _ (heap_lt HK10.out)).trans HK10.out) rfl; go_simp; first | done | with_reducible rfl); (try simp only [Act.put, sI, sZ, sS])
        refine wpAnyH_ready (rs := [1]) (by kernel_rfl) (by simp) ?_
        refine AllReadyH.cons (o := ⟨some 61, _, _, _, _, _⟩) rfl (fun K hK => ?_) AllReadyH.nil
        rw [if_pos (by rfl)]
        go_simp
        refine (HC2.out D hS0).mono ?_
        rintro e Y ⟨rfl, bY⟩
        have hSY := hS0.trans (bY.mono hS0.size)
        clear bY
        refine hK.out _ _ hSY (fun hSn => ?_)
        clear hK K hSn; (try simp only [Act.put, sI, sZ, sS])
        clear hS0
        refine wpAnyH_take (i := 2) (oi := ⟨some 62, _, _, _, _, _⟩) (v := ?_) rfl (by kernel_rfl) (by kernel_rfl) (by kernel_rfl) (fun _ _ _ h => h) (Or.inl ⟨by kernel_rfl, ?_⟩) (by assumption) ?_; rotate_left; (intro V hV; (try dsimp only at hV); go_simp; first | done | with_reducible rfl); (try simp only [Act.put, sI, sZ, sS])
        refine wpAnyH_ready (rs := [5]) (by kernel_rfl) (by simp) ?_
        refine AllReadyH.cons (o := ⟨some 65, _, _, _, _, _⟩) rfl (fun K hK => ?_) AllReadyH.nil
        rw [if_pos (by rfl)]
        go_simp
        refine (HO2.out Y hSY).mono ?_
        rintro e Z ⟨rfl, bZ⟩
        have hSZ := hSY.trans (bZ.mono hSY.size)
        clear bZ
        refine hK.out _ _ hSZ (fun hSn => ?_)
        clear hK K hSn; (try simp only [Act.put, sI, sZ, sS])
        clear hSY
        refine wpAnyH_take (i := 6) (oi := ⟨some 66, _, _, _, _, _⟩) (v := ?_) rfl (by kernel_rfl) (by kernel_rfl) (by kernel_rfl) (fun _ _ _ h => h) (Or.inl ⟨by kernel_rfl, ?_⟩) (by assumption) ?_; rotate_left; (intro V hV; (try dsimp only at hV); go_simp; first | done | with_reducible rfl); (try simp only [Act.put, sI, sZ, sS])
        refine wpAnyH_take (i := 7) (oi := ⟨some 67, _, _, _, _, _⟩) (v := ?_) rfl (by kernel_rfl) (by kernel_rfl) (by kernel_rfl) (fun _ _ _ h => h) (Or.inl ⟨by kernel_rfl, ?_⟩) (by assumption) ?_; rotate_left; (intro V hV; (try dsimp only at hV); go_simp; first | done | with_reducible rfl); (try simp only [Act.put, sI, sZ, sS])
        refine wpAnyH_ready (rs := [8]) (by kernel_rfl) (by simp) ?_
        refine AllReadyH.cons (o := ⟨some 68, _, _, _, _, _⟩) rfl (fun K hK => ?_) AllReadyH.nil
        rw [if_pos (by rfl)]
        go_simp
        refine (wakes13_any Z (HEW.out.under hSZ)).mono ?_
        rintro e U ⟨rfl, bU⟩
        have hSU := hSZ.trans (bU.mono hSZ.size)
        have HBU := Lib.hid (HB10.out.trans (hSU.mono HB10.out.size))
        clear bU
        refine hK.out _ _ hSU (fun hSn => ?_)
        clear hK K hSn; (try simp only [Act.put, sI, sZ, sS])
        clear hSZ
        refine wpAnyH_take (i := 9) (oi := ⟨some 69, _, _, _, _, _⟩) (v := ?_) rfl (by kernel_rfl) (by kernel_rfl) (by kernel_rfl) (fun _ _ _ h => h) (Or.inl ⟨by kernel_rfl, ?_⟩) (by assumption) ?_; rotate_left; (intro V hV; (try dsimp only at hV); go_simp; first | done | with_reducible rfl); (try simp only [Act.put, sI, sZ, sS])
        refine wpAnyH_take (i := 10) (oi := ⟨some 6, _, _, _, _, _⟩) (v := ?_) rfl (by kernel_rfl) (by kernel_rfl) (by kernel_rfl) (fun _ _ _ h => h) (Or.inl ⟨by kernel_rfl, ?_⟩) (by assumption) ?_; rotate_left; (intro V hV; (try dsimp only at hV); go_simp; first | done | with_reducible rfl); (try simp only [Act.put, sI, sZ, sS])
        refine wpAnyH_done (by kernel_rfl) ?_ _
        clear hSU
        go_wp2_with fail
        go_ret
        exact ⟨rfl, HBU.out⟩
end Go.Proofs.YtdimcddbmccniaaGreatDoor
