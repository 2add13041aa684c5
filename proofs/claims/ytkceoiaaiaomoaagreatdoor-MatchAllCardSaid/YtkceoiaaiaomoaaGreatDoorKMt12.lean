/- Layer 10: the document's own Match. -/
import Derived.Test.YtkceoiaaiaomoaaGreatDoorKMt10
import Derived.Test.YtkceoiaaiaomoaaGreatDoorKListT
section
set_option linter.unusedVariables false
set_option linter.unusedSimpArgs false
namespace Go.Proofs.YtkceoiaaiaomoaaGreatDoor
open Go.RowKit

set_option maxHeartbeats 8000000 in
set_option maxRecDepth 100000 in
theorem goes_9 (n : Int) (s u : ByteArray) (ps : List Tm) (hel : ∀ y ∈ ps, GoesC y) (h2 : ps.length = 2) : GoesC (.mk 9 n s u ps) := by
  intro t l v u0 A m cap W hP hT hR hc hok hmany
  obtain rfl := hR.len
  obtain ⟨NA, nc, rfl, hRP, _, _, hss, _⟩ := hP.parts
  obtain ⟨tk, tn, ts, tu, TL⟩ := t
  obtain ⟨TA, tc, rfl, hRT, -⟩ := hT.parts
  obtain ⟨RR, hRR⟩ : ∃ r, r = goP (.mk 9 n s u ps) (.mk tk tn ts tu TL) l := ⟨_, rfl⟩
  rw [← hRR]
  have g0 := there_of (.cells #[.int .i8 tk, .int .i64 tn, .string ts, .string tu, .slice TA TL.length tc] 44) (block_alloc W (.cells #[.int .i8 9, .int .i64 n, .string s, .string u, .slice NA ps.length nc] 25))
  have g1 := block_alloc (W.alloc (.cells #[.int .i8 9, .int .i64 n, .string s, .string u, .slice NA ps.length nc] 25)) (.cells #[.int .i8 tk, .int .i64 tn, .string ts, .string tu, .slice TA TL.length tc] 44)
  rw [World.size_alloc] at g1
  have b2 : Below W.heap.size W ((W.alloc (.cells #[.int .i8 9, .int .i64 n, .string s, .string u, .slice NA ps.length nc] 25)).alloc (.cells #[.int .i8 tk, .int .i64 tn, .string ts, .string tu, .slice TA TL.length tc] 44)) := ((Below.refl _ W).alloc (Nat.le_refl _) _).alloc (by simp) _
  obtain ⟨W2, hW2⟩ : ∃ W2, W2 = (W.alloc (.cells #[.int .i8 9, .int .i64 n, .string s, .string u, .slice NA ps.length nc] 25)).alloc (.cells #[.int .i8 tk, .int .i64 tn, .string ts, .string tu, .slice TA TL.length tc] 44) := ⟨_, rfl⟩
  rw [← hW2] at g0 g1 b2
  have HB2 := Lib.hid b2
  have HG0 := Lib.hid g0
  have HG1 := Lib.hid g1
  have HR := Lib.hid hR
  have HRP := Lib.hid hRP
  have HRT := Lib.hid hRT
  have HT := Lib.hid hT
  have HC := Lib.hid hc
  have HOK := Lib.hid hok
  have HSS := Lib.hid hss
  have HMANY : Hid (l.length + (Tm.mk 9 n s u ps).nodes ≤ 500000) := hmany
  have hml := hR.max
  unfold maxLen at hml
  obtain ⟨x0, x1, x2, x3, x4⟩ := five_of g0
  obtain ⟨y0, y1, y2, y3, y4⟩ := five_of g1
  rw [goP_9] at hRR
  have HRR := Lib.hid hRR
  clear g0 g1 b2 hP hT hR hc hok hmany hRP hRT hss hRR
  have HEL := Lib.hid hel
  have hml2 := HRP.out.max
  have hml3 := HRT.out.max
  unfold maxLen at hml2 hml3
  have H2 := Lib.hid h2
  clear hel h2
  by_cases h1 : tk = 7
  case neg =>
    have hb : (tk != 7) = true := by simpa using h1
    have HRES : Hid (RR = none) := HRR.out.trans (if_neg (fun h => h1 h.1))
    clear h1
    go_enter Tryz.func72, Tryz.ntmps72
    go_upto_region 1 with fail
    rw [← hW2]
    clear hW2
    go_wp2_with fail
    refine bodyPost_ret (v := .tuple #[.slice A l.length cap, .bool false]) (by simp [results, Tryz.f72, go_sem]) rfl ?_
    refine ⟨_, _, _, by rw [HRES.out]; rfl, fun l' hl' => ?_, HB2.out⟩
    rw [HRES.out] at hl'
    cases hl'
  have hb : (tk != 7) = false := by simpa using h1
  have HLEN : Hid (ps.length = TL.length) := by
    show _ = _
    have hv := (check_valid HC.out).1
    have h2 := H2.out
    rcases valid_cases hv.own with h | h | h | h | h | h | h | h <;> omega
  have HRES : Hid (RR = goPs ps TL l) := HRR.out.trans (if_pos ⟨h1, HLEN.out⟩)
  clear h1 HRR
  go_enter Tryz.func72, Tryz.ntmps72
  go_upto_region 1 with fail
  rw [← hW2]
  clear hW2
  clear x1 x2 x3 y1 y2 y3
  go_wp2_with fail
  clear x0 x4 y0 y4
  go_loopw [2, 11] (fun lv iv wr => ∃ (j : Nat) (lj : List Bd) (LA : Option Addr) (lc : Nat), j ≤ ps.length ∧ iv = .int .i64 j ∧ lv = .slice LA lj.length lc ∧ Hid (BRow (· < wr.heap.size) wr LA lj.length lc lj) ∧ Hid (Below W2.heap.size W2 wr) ∧ Hid (RR = goPs (ps.drop j) (TL.drop j) lj) ∧ Hid (∀ b ∈ lj, checkN b.2 = 0) ∧ Hid (lj.length + (Tm.pres (ps.drop j)).length ≤ 500000)) (fun _ iv _ => ps.length - (intOf iv).toNat)
  case atStart => exact ⟨0, l, A, cap, Nat.zero_le _, rfl, rfl, Lib.hid (HR.out.later HB2.out), Lib.hid (Below.refl _ _), HRES, HOK, Lib.hid (by show _ ≤ _; have h := HMANY.out; rw [Tm.nodes_mk] at h; show l.length + (Tm.pres ps).length ≤ _; omega)⟩
  case round =>
    obtain ⟨j, lj, LA, lc, hj, rfl, rfl, HRJ, HBJ, HEQ, HOKJ, HMJ⟩ := hrel
    have HBW := Lib.hid (HB2.out.trans (HBJ.out.mono HB2.out.size))
    have hr0 := (HBJ.out.block _ (heap_lt HG0.out)).trans HG0.out
    have x4 : wr.cell? ⟨W.heap.size, 4, none⟩ = some (.slice NA ps.length nc) := cell_of_row (i := 4) hr0 rfl
    clear hr0
    by_cases hlt : j < ps.length
    case neg =>
      obtain rfl : j = ps.length := by omega
      have HRE : Hid (RR = some lj) := by
        show _ = _
        rw [HEQ.out, List.drop_length, List.drop_of_length_le (by rw [HLEN.out]; omega)]
        rw [goPs]
        intro a b c d e; cases e
      go_wp2_with fail
      refine bodyPost_ret (v := .tuple #[.slice LA lj.length lc, .bool true]) (by simp [results, Tryz.f72, go_sem]) rfl ?_
      refine ⟨_, _, _, by rw [HRE.out]; rfl, fun l' hl' => ?_, HBW.out⟩
      rw [HRE.out] at hl'
      cases hl'; exact HRJ.out
    have hlt2 : j < TL.length := by rw [← HLEN.out]; exact hlt
    obtain ⟨x, hx⟩ : ∃ x, ps[j]? = some x := ⟨ps[j], List.getElem?_eq_getElem hlt⟩
    obtain ⟨y, hy⟩ : ∃ y, TL[j]? = some y := ⟨TL[j], List.getElem?_eq_getElem hlt2⟩
    have HSTEP := Lib.hid (goPs_cons hx hy lj)
    have hpre : (Tm.pres (ps.drop j)).length = x.nodes + (Tm.pres (ps.drop (j + 1))).length := by
      obtain ⟨h1, h2⟩ := List.getElem?_eq_some_iff.1 hx
      rw [List.drop_eq_getElem_cons h1, h2, Tm.pres, List.length_append]
      rfl
    obtain ⟨ad, u1, rfl, had, hE, hTx⟩ := HRP.out.at_ j x hx
    obtain ⟨bd, u2, rfl, hbd, hE', hTy⟩ := HRT.out.at_ j y hy
    have hmx := List.mem_of_getElem? hx
    have hmy := List.mem_of_getElem? hy
    have HCY := Lib.hid (check_part HC.out hmy)
    have HTX := Lib.hid hTx
    have HTY := Lib.hid hTy
    obtain ⟨xk, xn, xs, xu, xL, xA, xc, hxe, rfl⟩ : ∃ k' n' s' t' L' A' cap', x = Tm.mk k' n' s' t' L' ∧ u1 = .agg #[.int .i8 k', .int .i64 n', .string s', .string t', .slice A' L'.length cap'] := by
      cases hTx; exact ⟨_, _, _, _, _, _, _, rfl, rfl⟩
    obtain ⟨yk, yn, ys, yu, yL, yA, yc, hye, rfl⟩ : ∃ k' n' s' t' L' A' cap', y = Tm.mk k' n' s' t' L' ∧ u2 = .agg #[.int .i8 k', .int .i64 n', .string s', .string t', .slice A' L'.length cap'] := by
      cases hTy; exact ⟨_, _, _, _, _, _, _, rfl, rfl⟩
    have HEX : Hid (∀ V, Below wr.heap.size wr V → ElemAt V ad j (.agg #[.int .i8 xk, .int .i64 xn, .string xs, .string xu, .slice xA xL.length xc])) := fun V hV => hE.keep ((HBW.out.trans (hV.mono HBW.out.size)).block ad.block had)
    have HEY : Hid (∀ V, Below wr.heap.size wr V → ElemAt V bd j (.agg #[.int .i8 yk, .int .i64 yn, .string ys, .string yu, .slice yA yL.length yc])) := fun V hV => hE'.keep ((HBW.out.trans (hV.mono HBW.out.size)).block bd.block hbd)
    obtain ⟨r2, hr2⟩ : ∃ r, r = goP x y lj := ⟨_, rfl⟩
    have hcall := fun D => HEL.out x hmx y lj (.agg #[.int .i8 xk, .int .i64 xn, .string xs, .string xu, .slice xA xL.length xc]) (.agg #[.int .i8 yk, .int .i64 yn, .string ys, .string yu, .slice yA yL.length yc]) LA lj.length lc D
    rw [← hr2] at hcall HSTEP
    have HCALL := Lib.hid hcall
    have HR2 := Lib.hid hr2
    obtain ⟨bb, hbb⟩ : ∃ b, b = r2.isSome := ⟨_, rfl⟩
    have HBB := Lib.hid hbb
    have HPRE := Lib.hid hpre
    clear hx hy hE hE' hTx hTy hmx hmy had hbd hpre hcall hr2 hbb hxe hye
    have i0 : (0 : Int) ≤ (j : Int) := by omega
    have i1 : (j : Int) < (ps.length : Int) := by omega
    have i2 : (j : Int) < (TL.length : Int) := by omega
    go_upto_region 26 with fail
    clear x4
    refine wp_region_held (S := fun V => Below wr.heap.size wr V) (by kernel_rfl) ?_
    show wpAnyH _ _ _ _ _ _ _ _ wr.drew
    have hS : Below wr.heap.size wr wr.drew := ⟨rfl, rfl, rfl, Nat.le_refl _, fun _ _ => rfl⟩
    generalize wr.drew = D at hS ⊢
    refine wpAnyH_take (i := 0) (oi := ⟨some 105, _, _, _, _, _⟩) (v := ?_) rfl (by kernel_rfl) (by kernel_rfl) (by kernel_rfl) (fun _ _ _ h => h) (Or.inl ⟨by kernel_rfl, ?_⟩) (by assumption) ?_; rotate_left; (intro VV hSw; (try dsimp only at hSw); go_simp; first | done | with_reducible rfl); (try simp only [Act.put, sI, sZ, sS])
    refine wpAnyH_take (i := 1) (oi := ⟨some 106, _, _, _, _, _⟩) (v := ?_) rfl (by kernel_rfl) (by kernel_rfl) (by kernel_rfl) (fun _ _ _ h => h) (Or.inl ⟨by kernel_rfl, ?_⟩) (by assumption) ?_; rotate_left; (intro VV hSw; (try dsimp only at hSw); have hw := HBJ.out.trans (hSw.mono HBJ.out.size); have hr0 := (hw.block _ (heap_lt HG0.out)).trans HG0.out; obtain ⟨x0, x1, x2, x3, x4⟩ := five_of hr0; go_simp; first | done | with_reducible rfl); (try simp only [Act.put, sI, sZ, sS])
    refine wpAnyH_take (i := 2) (oi := ⟨some 107, _, _, _, _, _⟩) (v := ?_) rfl (by kernel_rfl) (by kernel_rfl) (by kernel_rfl) (fun _ _ _ h => h) (Or.inl ⟨by kernel_rfl, ?_⟩) (by assumption) ?_; rotate_left; (intro VV hSw; (try dsimp only at hSw); go_simp; first | done | with_reducible rfl); (try simp only [Act.put, sI, sZ, sS])
    refine wpAnyH_take (i := 3) (oi := ⟨some 108, _, _, _, _, _⟩) (v := ?_) rfl (by kernel_rfl) (by kernel_rfl) (by kernel_rfl) (fun _ _ _ h => h) (Or.inl ⟨by kernel_rfl, ?_⟩) (by assumption) ?_; rotate_left; (intro VV hSw; (try dsimp only at hSw); go_simp; first | done | with_reducible rfl); (try simp only [Act.put, sI, sZ, sS])
    refine wpAnyH_take (i := 4) (oi := ⟨some 109, _, _, _, _, _⟩) (v := ?_) rfl (by kernel_rfl) (by kernel_rfl) (by kernel_rfl) (fun _ _ _ h => h) (Or.inl ⟨by kernel_rfl, ?_⟩) (by assumption) ?_; rotate_left; (intro VV hSw; (try dsimp only at hSw); obtain ⟨d0, d1, d2, d3, d4, he, x0, x1, x2, x3, x4⟩ := HEX.out VV hSw; simp only [Value.agg.injEq, Array.mk.injEq, List.cons.injEq, and_true] at he; obtain ⟨rfl, rfl, rfl, rfl, rfl⟩ := he; go_simp; first | done | with_reducible rfl); (try simp only [Act.put, sI, sZ, sS])
    refine wpAnyH_take (i := 5) (oi := ⟨some 110, _, _, _, _, _⟩) (v := ?_) rfl (by kernel_rfl) (by kernel_rfl) (by kernel_rfl) (fun _ _ _ h => h) (Or.inl ⟨by kernel_rfl, ?_⟩) (by assumption) ?_; rotate_left; (intro VV hSw; (try dsimp only at hSw); go_simp; first | done | with_reducible rfl); (try simp only [Act.put, sI, sZ, sS])
    refine wpAnyH_take (i := 6) (oi := ⟨some 111, _, _, _, _, _⟩) (v := ?_) rfl (by kernel_rfl) (by kernel_rfl) (by kernel_rfl) (fun _ _ _ h => h) (Or.inl ⟨by kernel_rfl, ?_⟩) (by assumption) ?_; rotate_left; (intro VV hSw; (try dsimp only at hSw); have hw := HBJ.out.trans (hSw.mono HBJ.out.size); have hr1 := (hw.block _ (heap_lt HG1.out)).trans HG1.out; obtain ⟨y0, y1, y2, y3, y4⟩ := five_of hr1; go_simp; first | done | with_reducible rfl); (try simp only [Act.put, sI, sZ, sS])
    refine wpAnyH_take (i := 7) (oi := ⟨some 112, _, _, _, _, _⟩) (v := ?_) rfl (by kernel_rfl) (by kernel_rfl) (by kernel_rfl) (fun _ _ _ h => h) (Or.inl ⟨by kernel_rfl, ?_⟩) (by assumption) ?_; rotate_left; (intro VV hSw; (try dsimp only at hSw); go_simp; first | done | with_reducible rfl); (try simp only [Act.put, sI, sZ, sS])
    refine wpAnyH_take (i := 8) (oi := ⟨some 113, _, _, _, _, _⟩) (v := ?_) rfl (by kernel_rfl) (by kernel_rfl) (by kernel_rfl) (fun _ _ _ h => h) (Or.inl ⟨by kernel_rfl, ?_⟩) (by assumption) ?_; rotate_left; (intro VV hSw; (try dsimp only at hSw); go_simp; first | done | with_reducible rfl); (try simp only [Act.put, sI, sZ, sS])
    refine wpAnyH_take (i := 9) (oi := ⟨some 114, _, _, _, _, _⟩) (v := ?_) rfl (by kernel_rfl) (by kernel_rfl) (by kernel_rfl) (fun _ _ _ h => h) (Or.inl ⟨by kernel_rfl, ?_⟩) (by assumption) ?_; rotate_left; (intro VV hSw; (try dsimp only at hSw); obtain ⟨d0, d1, d2, d3, d4, he, y0, y1, y2, y3, y4⟩ := HEY.out VV hSw; simp only [Value.agg.injEq, Array.mk.injEq, List.cons.injEq, and_true] at he; obtain ⟨rfl, rfl, rfl, rfl, rfl⟩ := he; go_simp; first | done | with_reducible rfl); (try simp only [Act.put, sI, sZ, sS])
    refine wpAnyH_take (i := 10) (oi := ⟨some 115, _, _, _, _, _⟩) (v := ?_) rfl (by kernel_rfl) (by kernel_rfl) (by kernel_rfl) (fun _ _ _ h => h) (Or.inl ⟨by kernel_rfl, ?_⟩) (by assumption) ?_; rotate_left; (intro VV hSw; (try dsimp only at hSw); go_simp; first | done | with_reducible rfl); (try simp only [Act.put, sI, sZ, sS])
    refine wpAnyH_ready (rs := [11]) (by kernel_rfl) (by simp) ?_
    refine AllReadyH.cons (o := ⟨some 116, _, _, _, _, _⟩) rfl (fun K hK => ?_) AllReadyH.nil
    · rw [if_pos (by rfl)]
      go_simp
      have hBD := HBW.out.trans (hS.mono HBW.out.size)
      refine (HCALL.out D (HTX.out.later hBD) (HTY.out.later hBD) (HRJ.out.later hS) HCY.out HOKJ.out (by have h1 := HMJ.out; have h2 := HPRE.out; omega)).mono ?_
      rintro e V3 ⟨A2, n2, c2, he, hl2, b3⟩
      rw [← HBB.out] at he
      subst he
      have hS1 := hS.trans (b3.mono hS.size)
      refine hK.out _ _ hS1 (fun hSn => ?_)
      clear hK K hSn; (try simp only [Act.put, sI, sZ, sS])
      refine wpAnyH_take (i := 12) (oi := ⟨some 104, _, _, _, _, _⟩) (v := ?_) rfl (by kernel_rfl) (by kernel_rfl) (by kernel_rfl) (fun _ _ _ h => h) (Or.inl ⟨by kernel_rfl, ?_⟩) (by assumption) ?_; rotate_left; (intro VV hSw; (try dsimp only at hSw); go_simp; first | done | with_reducible rfl); (try simp only [Act.put, sI, sZ, sS])
      refine wpAnyH_take (i := 13) (oi := ⟨some 117, _, _, _, _, _⟩) (v := ?_) rfl (by kernel_rfl) (by kernel_rfl) (by kernel_rfl) (fun _ _ _ h => h) (Or.inl ⟨by kernel_rfl, ?_⟩) (by assumption) ?_; rotate_left; (intro VV hSw; (try dsimp only at hSw); go_simp; first | done | with_reducible rfl); (try simp only [Act.put, sI, sZ, sS])
      refine wpAnyH_take (i := 14) (oi := ⟨some 118, _, _, _, _, _⟩) (v := ?_) rfl (by kernel_rfl) (by kernel_rfl) (by kernel_rfl) (fun _ _ _ h => h) (Or.inl ⟨by kernel_rfl, ?_⟩) (by assumption) ?_; rotate_left; (intro VV hSw; (try dsimp only at hSw); go_simp; first | done | with_reducible rfl); (try simp only [Act.put, sI, sZ, sS])
      refine wpAnyH_take (i := 15) (oi := ⟨some 12, _, _, _, _, _⟩) (v := ?_) rfl (by kernel_rfl) (by kernel_rfl) (by kernel_rfl) (fun _ _ _ h => h) (Or.inl ⟨by kernel_rfl, ?_⟩) (by assumption) ?_; rotate_left; (intro VV hSw; (try dsimp only at hSw); go_simp; first | done | with_reducible rfl); (try simp only [Act.put, sI, sZ, sS])
      refine wpAnyH_take (i := 16) (oi := ⟨some 13, _, _, _, _, _⟩) (v := ?_) rfl (by kernel_rfl) (by kernel_rfl) (by kernel_rfl) (fun _ _ _ h => h) (Or.inl ⟨by kernel_rfl, ?_⟩) (by assumption) ?_; rotate_left; (intro VV hSw; (try dsimp only at hSw); go_simp; first | done | with_reducible rfl); (try simp only [Act.put, sI, sZ, sS])
      refine wpAnyH_done (by kernel_rfl) ?_ _
      have HB3 := Lib.hid (HBJ.out.trans (hS1.mono HBJ.out.size))
      have HR3 := Lib.hid (HRJ.out.later hS1)
      have HL2 := Lib.hid hl2
      clear hS1 hS hBD hl2 b3
      cases r2 with
      | none =>
        obtain rfl : bb = false := HBB.out
        have HRE : Hid (RR = none) := by
          show _ = _
          rw [HEQ.out, HSTEP.out]
        have HBZ := Lib.hid (HB2.out.trans (HB3.out.mono HB2.out.size))
        go_wp2_with fail
        refine bodyPost_ret (v := .tuple #[.slice LA lj.length lc, .bool false]) (by simp [results, Tryz.f72, go_sem]) rfl ?_
        refine ⟨_, _, _, by rw [HRE.out]; rfl, fun l' hl' => ?_, HBZ.out⟩
        rw [HRE.out] at hl'
        cases hl'
      | some l2 =>
        obtain rfl : bb = true := HBB.out
        have hrow := HL2.out l2 rfl
        obtain rfl := hrow.len
        have HROW := Lib.hid hrow
        have HRE : Hid (RR = goPs (ps.drop (j + 1)) (TL.drop (j + 1)) l2) := by
          show _ = _
          rw [HEQ.out, HSTEP.out]
        have HOK2 : Hid (∀ b ∈ l2, checkN b.2 = 0) := goP_ok _ _ _ _ HR2.out.symm HCY.out HOKJ.out
        have HM2 : Hid (l2.length + (Tm.pres (ps.drop (j + 1))).length ≤ 500000) := by
          show _ ≤ _
          have h1 := goP_len _ _ _ _ HR2.out.symm
          have h2 := HMJ.out
          have h3 := HPRE.out
          omega
        clear hrow HL2
        go_wp2_with fail
        go_roundw
        case rel => exact ⟨j + 1, l2, _, _, by omega, by go_num, rfl, HROW, HB3, HRE, HOK2, HM2⟩
        case measure => simp [intOf]; omega
set_option maxHeartbeats 8000000 in
set_option maxRecDepth 100000 in
theorem goes_10 (n : Int) (s u : ByteArray) (ps : List Tm) (hel : ∀ y ∈ ps, GoesC y) : GoesC (.mk 10 n s u ps) := by
  intro t l v u0 A m cap W hP hT hR hc hok hmany
  obtain rfl := hR.len
  obtain ⟨NA, nc, rfl, hRP, _, _, hss, _⟩ := hP.parts
  obtain ⟨tk, tn, ts, tu, TL⟩ := t
  obtain ⟨TA, tc, rfl, hRT, -⟩ := hT.parts
  obtain ⟨RR, hRR⟩ : ∃ r, r = goP (.mk 10 n s u ps) (.mk tk tn ts tu TL) l := ⟨_, rfl⟩
  rw [← hRR]
  have g0 := there_of (.cells #[.int .i8 tk, .int .i64 tn, .string ts, .string tu, .slice TA TL.length tc] 44) (block_alloc W (.cells #[.int .i8 10, .int .i64 n, .string s, .string u, .slice NA ps.length nc] 25))
  have g1 := block_alloc (W.alloc (.cells #[.int .i8 10, .int .i64 n, .string s, .string u, .slice NA ps.length nc] 25)) (.cells #[.int .i8 tk, .int .i64 tn, .string ts, .string tu, .slice TA TL.length tc] 44)
  rw [World.size_alloc] at g1
  have b2 : Below W.heap.size W ((W.alloc (.cells #[.int .i8 10, .int .i64 n, .string s, .string u, .slice NA ps.length nc] 25)).alloc (.cells #[.int .i8 tk, .int .i64 tn, .string ts, .string tu, .slice TA TL.length tc] 44)) := ((Below.refl _ W).alloc (Nat.le_refl _) _).alloc (by simp) _
  obtain ⟨W2, hW2⟩ : ∃ W2, W2 = (W.alloc (.cells #[.int .i8 10, .int .i64 n, .string s, .string u, .slice NA ps.length nc] 25)).alloc (.cells #[.int .i8 tk, .int .i64 tn, .string ts, .string tu, .slice TA TL.length tc] 44) := ⟨_, rfl⟩
  rw [← hW2] at g0 g1 b2
  have HB2 := Lib.hid b2
  have HG0 := Lib.hid g0
  have HG1 := Lib.hid g1
  have HR := Lib.hid hR
  have HRP := Lib.hid hRP
  have HRT := Lib.hid hRT
  have HT := Lib.hid hT
  have HC := Lib.hid hc
  have HOK := Lib.hid hok
  have HSS := Lib.hid hss
  have HMANY : Hid (l.length + (Tm.mk 10 n s u ps).nodes ≤ 500000) := hmany
  have hml := hR.max
  unfold maxLen at hml
  obtain ⟨x0, x1, x2, x3, x4⟩ := five_of g0
  obtain ⟨y0, y1, y2, y3, y4⟩ := five_of g1
  rw [goP_10] at hRR
  have HRR := Lib.hid hRR
  clear g0 g1 b2 hP hT hR hc hok hmany hRP hRT hss hRR
  have HEL := Lib.hid hel
  have hml2 := HRP.out.max
  have hml3 := HRT.out.max
  unfold maxLen at hml2 hml3
  
  clear hel
  by_cases h1 : tk = 5
  case neg =>
    have hb : (tk != 5) = true := by simpa using h1
    have HRES : Hid (RR = none) := HRR.out.trans (if_neg (fun h => h1 h.1))
    clear h1
    go_enter Tryz.func72, Tryz.ntmps72
    go_upto_region 1 with fail
    rw [← hW2]
    clear hW2
    go_wp2_with fail
    refine bodyPost_ret (v := .tuple #[.slice A l.length cap, .bool false]) (by simp [results, Tryz.f72, go_sem]) rfl ?_
    refine ⟨_, _, _, by rw [HRES.out]; rfl, fun l' hl' => ?_, HB2.out⟩
    rw [HRES.out] at hl'
    cases hl'
  have hb : (tk != 5) = false := by simpa using h1
  by_cases h2 : ps.length = TL.length
  case neg =>
    have hb2 : ((TL.length : Int) != (ps.length : Int)) = true := by simp; omega
    have HRES : Hid (RR = none) := HRR.out.trans (if_neg (fun h => h2 h.2))
    clear h1 h2
    go_enter Tryz.func72, Tryz.ntmps72
    go_upto_region 1 with fail
    rw [← hW2]
    clear hW2
    go_wp2_with fail
    refine bodyPost_ret (v := .tuple #[.slice A l.length cap, .bool false]) (by simp [results, Tryz.f72, go_sem]) rfl ?_
    refine ⟨_, _, _, by rw [HRES.out]; rfl, fun l' hl' => ?_, HB2.out⟩
    rw [HRES.out] at hl'
    cases hl'
  have hb2 : ((TL.length : Int) != (ps.length : Int)) = false := by rw [h2]; simp
  have HLEN : Hid (ps.length = TL.length) := h2
  have HRES : Hid (RR = goPs ps TL l) := HRR.out.trans (if_pos ⟨h1, HLEN.out⟩)
  clear h1 h2 HRR
  go_enter Tryz.func72, Tryz.ntmps72
  go_upto_region 1 with fail
  rw [← hW2]
  clear hW2
  clear x1 x2 x3 y1 y2 y3
  go_wp2_with fail
  clear x0 x4 y0 y4
  go_loopw [2, 11] (fun lv iv wr => ∃ (j : Nat) (lj : List Bd) (LA : Option Addr) (lc : Nat), j ≤ ps.length ∧ iv = .int .i64 j ∧ lv = .slice LA lj.length lc ∧ Hid (BRow (· < wr.heap.size) wr LA lj.length lc lj) ∧ Hid (Below W2.heap.size W2 wr) ∧ Hid (RR = goPs (ps.drop j) (TL.drop j) lj) ∧ Hid (∀ b ∈ lj, checkN b.2 = 0) ∧ Hid (lj.length + (Tm.pres (ps.drop j)).length ≤ 500000)) (fun _ iv _ => ps.length - (intOf iv).toNat)
  case atStart => exact ⟨0, l, A, cap, Nat.zero_le _, rfl, rfl, Lib.hid (HR.out.later HB2.out), Lib.hid (Below.refl _ _), HRES, HOK, Lib.hid (by show _ ≤ _; have h := HMANY.out; rw [Tm.nodes_mk] at h; show l.length + (Tm.pres ps).length ≤ _; omega)⟩
  case round =>
    obtain ⟨j, lj, LA, lc, hj, rfl, rfl, HRJ, HBJ, HEQ, HOKJ, HMJ⟩ := hrel
    have HBW := Lib.hid (HB2.out.trans (HBJ.out.mono HB2.out.size))
    have hr0 := (HBJ.out.block _ (heap_lt HG0.out)).trans HG0.out
    have x4 : wr.cell? ⟨W.heap.size, 4, none⟩ = some (.slice NA ps.length nc) := cell_of_row (i := 4) hr0 rfl
    clear hr0
    by_cases hlt : j < ps.length
    case neg =>
      obtain rfl : j = ps.length := by omega
      have HRE : Hid (RR = some lj) := by
        show _ = _
        rw [HEQ.out, List.drop_length, List.drop_of_length_le (by rw [HLEN.out]; omega)]
        rw [goPs]
        intro a b c d e; cases e
      go_wp2_with fail
      refine bodyPost_ret (v := .tuple #[.slice LA lj.length lc, .bool true]) (by simp [results, Tryz.f72, go_sem]) rfl ?_
      refine ⟨_, _, _, by rw [HRE.out]; rfl, fun l' hl' => ?_, HBW.out⟩
      rw [HRE.out] at hl'
      cases hl'; exact HRJ.out
    have hlt2 : j < TL.length := by rw [← HLEN.out]; exact hlt
    obtain ⟨x, hx⟩ : ∃ x, ps[j]? = some x := ⟨ps[j], List.getElem?_eq_getElem hlt⟩
    obtain ⟨y, hy⟩ : ∃ y, TL[j]? = some y := ⟨TL[j], List.getElem?_eq_getElem hlt2⟩
    have HSTEP := Lib.hid (goPs_cons hx hy lj)
    have hpre : (Tm.pres (ps.drop j)).length = x.nodes + (Tm.pres (ps.drop (j + 1))).length := by
      obtain ⟨h1, h2⟩ := List.getElem?_eq_some_iff.1 hx
      rw [List.drop_eq_getElem_cons h1, h2, Tm.pres, List.length_append]
      rfl
    obtain ⟨ad, u1, rfl, had, hE, hTx⟩ := HRP.out.at_ j x hx
    obtain ⟨bd, u2, rfl, hbd, hE', hTy⟩ := HRT.out.at_ j y hy
    have hmx := List.mem_of_getElem? hx
    have hmy := List.mem_of_getElem? hy
    have HCY := Lib.hid (check_part HC.out hmy)
    have HTX := Lib.hid hTx
    have HTY := Lib.hid hTy
    obtain ⟨xk, xn, xs, xu, xL, xA, xc, hxe, rfl⟩ : ∃ k' n' s' t' L' A' cap', x = Tm.mk k' n' s' t' L' ∧ u1 = .agg #[.int .i8 k', .int .i64 n', .string s', .string t', .slice A' L'.length cap'] := by
      cases hTx; exact ⟨_, _, _, _, _, _, _, rfl, rfl⟩
    obtain ⟨yk, yn, ys, yu, yL, yA, yc, hye, rfl⟩ : ∃ k' n' s' t' L' A' cap', y = Tm.mk k' n' s' t' L' ∧ u2 = .agg #[.int .i8 k', .int .i64 n', .string s', .string t', .slice A' L'.length cap'] := by
      cases hTy; exact ⟨_, _, _, _, _, _, _, rfl, rfl⟩
    have HEX : Hid (∀ V, Below wr.heap.size wr V → ElemAt V ad j (.agg #[.int .i8 xk, .int .i64 xn, .string xs, .string xu, .slice xA xL.length xc])) := fun V hV => hE.keep ((HBW.out.trans (hV.mono HBW.out.size)).block ad.block had)
    have HEY : Hid (∀ V, Below wr.heap.size wr V → ElemAt V bd j (.agg #[.int .i8 yk, .int .i64 yn, .string ys, .string yu, .slice yA yL.length yc])) := fun V hV => hE'.keep ((HBW.out.trans (hV.mono HBW.out.size)).block bd.block hbd)
    obtain ⟨r2, hr2⟩ : ∃ r, r = goP x y lj := ⟨_, rfl⟩
    have hcall := fun D => HEL.out x hmx y lj (.agg #[.int .i8 xk, .int .i64 xn, .string xs, .string xu, .slice xA xL.length xc]) (.agg #[.int .i8 yk, .int .i64 yn, .string ys, .string yu, .slice yA yL.length yc]) LA lj.length lc D
    rw [← hr2] at hcall HSTEP
    have HCALL := Lib.hid hcall
    have HR2 := Lib.hid hr2
    obtain ⟨bb, hbb⟩ : ∃ b, b = r2.isSome := ⟨_, rfl⟩
    have HBB := Lib.hid hbb
    have HPRE := Lib.hid hpre
    clear hx hy hE hE' hTx hTy hmx hmy had hbd hpre hcall hr2 hbb hxe hye
    have i0 : (0 : Int) ≤ (j : Int) := by omega
    have i1 : (j : Int) < (ps.length : Int) := by omega
    have i2 : (j : Int) < (TL.length : Int) := by omega
    go_upto_region 26 with fail
    clear x4
    refine wp_region_held (S := fun V => Below wr.heap.size wr V) (by kernel_rfl) ?_
    show wpAnyH _ _ _ _ _ _ _ _ wr.drew
    have hS : Below wr.heap.size wr wr.drew := ⟨rfl, rfl, rfl, Nat.le_refl _, fun _ _ => rfl⟩
    generalize wr.drew = D at hS ⊢
    refine wpAnyH_take (i := 0) (oi := ⟨some 105, _, _, _, _, _⟩) (v := ?_) rfl (by kernel_rfl) (by kernel_rfl) (by kernel_rfl) (fun _ _ _ h => h) (Or.inl ⟨by kernel_rfl, ?_⟩) (by assumption) ?_; rotate_left; (intro VV hSw; (try dsimp only at hSw); go_simp; first | done | with_reducible rfl); (try simp only [Act.put, sI, sZ, sS])
    refine wpAnyH_take (i := 1) (oi := ⟨some 106, _, _, _, _, _⟩) (v := ?_) rfl (by kernel_rfl) (by kernel_rfl) (by kernel_rfl) (fun _ _ _ h => h) (Or.inl ⟨by kernel_rfl, ?_⟩) (by assumption) ?_; rotate_left; (intro VV hSw; (try dsimp only at hSw); have hw := HBJ.out.trans (hSw.mono HBJ.out.size); have hr0 := (hw.block _ (heap_lt HG0.out)).trans HG0.out; obtain ⟨x0, x1, x2, x3, x4⟩ := five_of hr0; go_simp; first | done | with_reducible rfl); (try simp only [Act.put, sI, sZ, sS])
    refine wpAnyH_take (i := 2) (oi := ⟨some 107, _, _, _, _, _⟩) (v := ?_) rfl (by kernel_rfl) (by kernel_rfl) (by kernel_rfl) (fun _ _ _ h => h) (Or.inl ⟨by kernel_rfl, ?_⟩) (by assumption) ?_; rotate_left; (intro VV hSw; (try dsimp only at hSw); go_simp; first | done | with_reducible rfl); (try simp only [Act.put, sI, sZ, sS])
    refine wpAnyH_take (i := 3) (oi := ⟨some 108, _, _, _, _, _⟩) (v := ?_) rfl (by kernel_rfl) (by kernel_rfl) (by kernel_rfl) (fun _ _ _ h => h) (Or.inl ⟨by kernel_rfl, ?_⟩) (by assumption) ?_; rotate_left; (intro VV hSw; (try dsimp only at hSw); go_simp; first | done | with_reducible rfl); (try simp only [Act.put, sI, sZ, sS])
    refine wpAnyH_take (i := 4) (oi := ⟨some 109, _, _, _, _, _⟩) (v := ?_) rfl (by kernel_rfl) (by kernel_rfl) (by kernel_rfl) (fun _ _ _ h => h) (Or.inl ⟨by kernel_rfl, ?_⟩) (by assumption) ?_; rotate_left; (intro VV hSw; (try dsimp only at hSw); obtain ⟨d0, d1, d2, d3, d4, he, x0, x1, x2, x3, x4⟩ := HEX.out VV hSw; simp only [Value.agg.injEq, Array.mk.injEq, List.cons.injEq, and_true] at he; obtain ⟨rfl, rfl, rfl, rfl, rfl⟩ := he; go_simp; first | done | with_reducible rfl); (try simp only [Act.put, sI, sZ, sS])
    refine wpAnyH_take (i := 5) (oi := ⟨some 110, _, _, _, _, _⟩) (v := ?_) rfl (by kernel_rfl) (by kernel_rfl) (by kernel_rfl) (fun _ _ _ h => h) (Or.inl ⟨by kernel_rfl, ?_⟩) (by assumption) ?_; rotate_left; (intro VV hSw; (try dsimp only at hSw); go_simp; first | done | with_reducible rfl); (try simp only [Act.put, sI, sZ, sS])
    refine wpAnyH_take (i := 6) (oi := ⟨some 111, _, _, _, _, _⟩) (v := ?_) rfl (by kernel_rfl) (by kernel_rfl) (by kernel_rfl) (fun _ _ _ h => h) (Or.inl ⟨by kernel_rfl, ?_⟩) (by assumption) ?_; rotate_left; (intro VV hSw; (try dsimp only at hSw); have hw := HBJ.out.trans (hSw.mono HBJ.out.size); have hr1 := (hw.block _ (heap_lt HG1.out)).trans HG1.out; obtain ⟨y0, y1, y2, y3, y4⟩ := five_of hr1; go_simp; first | done | with_reducible rfl); (try simp only [Act.put, sI, sZ, sS])
    refine wpAnyH_take (i := 7) (oi := ⟨some 112, _, _, _, _, _⟩) (v := ?_) rfl (by kernel_rfl) (by kernel_rfl) (by kernel_rfl) (fun _ _ _ h => h) (Or.inl ⟨by kernel_rfl, ?_⟩) (by assumption) ?_; rotate_left; (intro VV hSw; (try dsimp only at hSw); go_simp; first | done | with_reducible rfl); (try simp only [Act.put, sI, sZ, sS])
    refine wpAnyH_take (i := 8) (oi := ⟨some 113, _, _, _, _, _⟩) (v := ?_) rfl (by kernel_rfl) (by kernel_rfl) (by kernel_rfl) (fun _ _ _ h => h) (Or.inl ⟨by kernel_rfl, ?_⟩) (by assumption) ?_; rotate_left; (intro VV hSw; (try dsimp only at hSw); go_simp; first | done | with_reducible rfl); (try simp only [Act.put, sI, sZ, sS])
    refine wpAnyH_take (i := 9) (oi := ⟨some 114, _, _, _, _, _⟩) (v := ?_) rfl (by kernel_rfl) (by kernel_rfl) (by kernel_rfl) (fun _ _ _ h => h) (Or.inl ⟨by kernel_rfl, ?_⟩) (by assumption) ?_; rotate_left; (intro VV hSw; (try dsimp only at hSw); obtain ⟨d0, d1, d2, d3, d4, he, y0, y1, y2, y3, y4⟩ := HEY.out VV hSw; simp only [Value.agg.injEq, Array.mk.injEq, List.cons.injEq, and_true] at he; obtain ⟨rfl, rfl, rfl, rfl, rfl⟩ := he; go_simp; first | done | with_reducible rfl); (try simp only [Act.put, sI, sZ, sS])
    refine wpAnyH_take (i := 10) (oi := ⟨some 115, _, _, _, _, _⟩) (v := ?_) rfl (by kernel_rfl) (by kernel_rfl) (by kernel_rfl) (fun _ _ _ h => h) (Or.inl ⟨by kernel_rfl, ?_⟩) (by assumption) ?_; rotate_left; (intro VV hSw; (try dsimp only at hSw); go_simp; first | done | with_reducible rfl); (try simp only [Act.put, sI, sZ, sS])
    refine wpAnyH_ready (rs := [11]) (by kernel_rfl) (by simp) ?_
    refine AllReadyH.cons (o := ⟨some 116, _, _, _, _, _⟩) rfl (fun K hK => ?_) AllReadyH.nil
    · rw [if_pos (by rfl)]
      go_simp
      have hBD := HBW.out.trans (hS.mono HBW.out.size)
      refine (HCALL.out D (HTX.out.later hBD) (HTY.out.later hBD) (HRJ.out.later hS) HCY.out HOKJ.out (by have h1 := HMJ.out; have h2 := HPRE.out; omega)).mono ?_
      rintro e V3 ⟨A2, n2, c2, he, hl2, b3⟩
      rw [← HBB.out] at he
      subst he
      have hS1 := hS.trans (b3.mono hS.size)
      refine hK.out _ _ hS1 (fun hSn => ?_)
      clear hK K hSn; (try simp only [Act.put, sI, sZ, sS])
      refine wpAnyH_take (i := 12) (oi := ⟨some 104, _, _, _, _, _⟩) (v := ?_) rfl (by kernel_rfl) (by kernel_rfl) (by kernel_rfl) (fun _ _ _ h => h) (Or.inl ⟨by kernel_rfl, ?_⟩) (by assumption) ?_; rotate_left; (intro VV hSw; (try dsimp only at hSw); go_simp; first | done | with_reducible rfl); (try simp only [Act.put, sI, sZ, sS])
      refine wpAnyH_take (i := 13) (oi := ⟨some 117, _, _, _, _, _⟩) (v := ?_) rfl (by kernel_rfl) (by kernel_rfl) (by kernel_rfl) (fun _ _ _ h => h) (Or.inl ⟨by kernel_rfl, ?_⟩) (by assumption) ?_; rotate_left; (intro VV hSw; (try dsimp only at hSw); go_simp; first | done | with_reducible rfl); (try simp only [Act.put, sI, sZ, sS])
      refine wpAnyH_take (i := 14) (oi := ⟨some 118, _, _, _, _, _⟩) (v := ?_) rfl (by kernel_rfl) (by kernel_rfl) (by kernel_rfl) (fun _ _ _ h => h) (Or.inl ⟨by kernel_rfl, ?_⟩) (by assumption) ?_; rotate_left; (intro VV hSw; (try dsimp only at hSw); go_simp; first | done | with_reducible rfl); (try simp only [Act.put, sI, sZ, sS])
      refine wpAnyH_take (i := 15) (oi := ⟨some 12, _, _, _, _, _⟩) (v := ?_) rfl (by kernel_rfl) (by kernel_rfl) (by kernel_rfl) (fun _ _ _ h => h) (Or.inl ⟨by kernel_rfl, ?_⟩) (by assumption) ?_; rotate_left; (intro VV hSw; (try dsimp only at hSw); go_simp; first | done | with_reducible rfl); (try simp only [Act.put, sI, sZ, sS])
      refine wpAnyH_take (i := 16) (oi := ⟨some 13, _, _, _, _, _⟩) (v := ?_) rfl (by kernel_rfl) (by kernel_rfl) (by kernel_rfl) (fun _ _ _ h => h) (Or.inl ⟨by kernel_rfl, ?_⟩) (by assumption) ?_; rotate_left; (intro VV hSw; (try dsimp only at hSw); go_simp; first | done | with_reducible rfl); (try simp only [Act.put, sI, sZ, sS])
      refine wpAnyH_done (by kernel_rfl) ?_ _
      have HB3 := Lib.hid (HBJ.out.trans (hS1.mono HBJ.out.size))
      have HR3 := Lib.hid (HRJ.out.later hS1)
      have HL2 := Lib.hid hl2
      clear hS1 hS hBD hl2 b3
      cases r2 with
      | none =>
        obtain rfl : bb = false := HBB.out
        have HRE : Hid (RR = none) := by
          show _ = _
          rw [HEQ.out, HSTEP.out]
        have HBZ := Lib.hid (HB2.out.trans (HB3.out.mono HB2.out.size))
        go_wp2_with fail
        refine bodyPost_ret (v := .tuple #[.slice LA lj.length lc, .bool false]) (by simp [results, Tryz.f72, go_sem]) rfl ?_
        refine ⟨_, _, _, by rw [HRE.out]; rfl, fun l' hl' => ?_, HBZ.out⟩
        rw [HRE.out] at hl'
        cases hl'
      | some l2 =>
        obtain rfl : bb = true := HBB.out
        have hrow := HL2.out l2 rfl
        obtain rfl := hrow.len
        have HROW := Lib.hid hrow
        have HRE : Hid (RR = goPs (ps.drop (j + 1)) (TL.drop (j + 1)) l2) := by
          show _ = _
          rw [HEQ.out, HSTEP.out]
        have HOK2 : Hid (∀ b ∈ l2, checkN b.2 = 0) := goP_ok _ _ _ _ HR2.out.symm HCY.out HOKJ.out
        have HM2 : Hid (l2.length + (Tm.pres (ps.drop (j + 1))).length ≤ 500000) := by
          show _ ≤ _
          have h1 := goP_len _ _ _ _ HR2.out.symm
          have h2 := HMJ.out
          have h3 := HPRE.out
          omega
        clear hrow HL2
        go_wp2_with fail
        go_roundw
        case rel => exact ⟨j + 1, l2, _, _, by omega, by go_num, rfl, HROW, HB3, HRE, HOK2, HM2⟩
        case measure => simp [intOf]; omega
theorem rGoes_any (p : Tm) : patB p = true → GoesC p := by
  induction p using Tm.ind with
  | h k n s u ps ih =>
    intro hp
    have hkx : k = 5 ∨ k = 6 ∨ k = 7 ∨ k = 8 ∨ (k = 9 ∧ ps.length = 2) ∨ k = 10 := by
      have h := hp
      unfold patB leafB at h
      simp only [Bool.or_eq_true, Bool.and_eq_true, beq_iff_eq] at h
      omega
    rcases hkx with rfl | rfl | rfl | rfl | ⟨rfl, h2⟩ | rfl
    · exact goes_5 n s u ps
    · exact goes_6 n s u ps
    · exact goes_7 n s u ps
    · exact goes_8 n s u ps
    · exact goes_9 n s u ps (fun y hy => ih y hy (pats_of hp (.inl rfl) y hy)) h2
    · exact goes_10 n s u ps (fun y hy => ih y hy (pats_of hp (.inr rfl) y hy))
end Go.Proofs.YtkceoiaaiaomoaaGreatDoor
end
section
set_option linter.unusedVariables false
set_option linter.unusedSimpArgs false
namespace Go.Proofs.YtkceoiaaiaomoaaGreatDoor
open Go.RowKit

theorem all_no {ps ts : List Tm} {l : List Bd} (h : allOk10 ps ts l = false) : allE ps ts l = 2 ∧ allB ps ts l = false ∧ allL ps ts l = [] := by
  unfold allE allB allL
  rw [h]
  exact ⟨rfl, rfl, rfl⟩
theorem all_yes {ps ts : List Tm} {l : List Bd} (h : allOk10 ps ts l = true) : allE ps ts l = 0 ∧ allB ps ts l = (goPs ps ts l).isSome ∧ allL ps ts l = (goPs ps ts l).getD l := by
  unfold allE allB allL
  rw [h]
  exact ⟨rfl, rfl, rfl⟩
end Go.Proofs.YtkceoiaaiaomoaaGreatDoor
end
