/- What the rows' condition on the program's variables gives the walks: the tables of layer 7. -/
import Derived.Test.YtkceoiaaiaomoaaGreatDoorKMt13
import Derived.Test.YtkceoiaaiaomoaaGreatDoorKMt12
import Derived.Test.YtkceoiaaiaomoaaGreatDoorKEnv7
import Derived.Deep.DeepCutAuto
import Derived.Tactics2
import Derived.Lib.LaidTab
import Derived.ProofKit
import Derived.LaidMore
import Derived.OpenShut
import Derived.Stop.Joined
section
set_option linter.unusedVariables false
set_option linter.unusedSimpArgs false
namespace Go.Proofs.YtkceoiaaiaomoaaGreatDoor
open Go.RowKit

theorem BRow.tail {P : Nat → Prop} {w : World} {A : Option Addr} {n k cap : Nat} {l : List Bd} (h : BRow P w A (n + k) cap l) : BRow P w (A.map fun x => x.add (k * 6)) n (cap - k) (l.drop k) :=
  ⟨by rw [List.length_drop, h.len]; omega, by have := h.max; omega, by have := h.cap; omega, fun j x hj => by
    rw [List.getElem?_drop] at hj
    obtain ⟨a, v, e, hp, hs, he, ht⟩ := h.at_ _ x hj
    subst e
    exact ⟨_, v, rfl, by rw [add_block]; exact hp, hs, he.shift, ht⟩⟩
theorem allL_len (p t : Tm) (l : List Bd) : (allL [p] [t] l).length ≤ l.length + p.nodes := by
  unfold allL
  split
  · rw [one_go]
    cases h : goP p t l with
    | none => show l.length ≤ _; omega
    | some l' => exact goP_len _ _ _ _ h
  · simp
set_option maxHeartbeats 16000000 in
set_option maxRecDepth 100000 in
theorem walk_MatchMore (v0 v1 v2 v3 : Value) (w : World) (o0 : ∃ t, TmAt (· < w.heap.size) w t v0) (o1 : ∃ t, TmAt (· < w.heap.size) w t v1) (o2 : ∃ A n cap l, v2 = .slice A n cap ∧ BRow (· < w.heap.size) w A n cap l) (o3 : ∃ A n cap l, v3 = .slice A n cap ∧ BRow (· < w.heap.size) w A n cap l) (hE : Env7 w) :
    Calls Tryz.prog 7 #[v0, v1, v2, v3] w fun e w' => e = .returned (.bool true) ∧ Below w.heap.size w w' := by
  obtain ⟨p, hP⟩ := o0
  obtain ⟨t, hT⟩ := o1
  obtain ⟨A, m, cap, l, rfl, hR⟩ := o2
  obtain ⟨Q, qm, qcap, more, rfl, hQ⟩ := o3
  obtain rfl := hR.len
  obtain rfl := hQ.len
  obtain ⟨xk, xn, xs, xu, xA, xm, xc, rfl⟩ : ∃ k n s t A m c, v0 = .agg #[.int .i8 k, .int .i64 n, .string s, .string t, .slice A m c] := by cases hP; exact ⟨_, _, _, _, _, _, _, rfl⟩
  obtain ⟨yk, yn, ys, yu, yA, ym, yc, rfl⟩ : ∃ k n s t A m c, v1 = .agg #[.int .i8 k, .int .i64 n, .string s, .string t, .slice A m c] := by cases hT; exact ⟨_, _, _, _, _, _, _, rfl⟩
  have g0 := there_of (.cells #[.int .i8 yk, .int .i64 yn, .string ys, .string yu, .slice yA ym yc] 44) (block_alloc w (.cells #[.int .i8 xk, .int .i64 xn, .string xs, .string xu, .slice xA xm xc] 25))
  have g1 := block_alloc (w.alloc (.cells #[.int .i8 xk, .int .i64 xn, .string xs, .string xu, .slice xA xm xc] 25)) (.cells #[.int .i8 yk, .int .i64 yn, .string ys, .string yu, .slice yA ym yc] 44)
  rw [World.size_alloc] at g1
  have b2 : Below w.heap.size w ((w.alloc (.cells #[.int .i8 xk, .int .i64 xn, .string xs, .string xu, .slice xA xm xc] 25)).alloc (.cells #[.int .i8 yk, .int .i64 yn, .string ys, .string yu, .slice yA ym yc] 44)) := ((Below.refl _ w).alloc (Nat.le_refl _) _).alloc (by simp) _
  obtain ⟨w1, hw1⟩ : ∃ W2, W2 = (w.alloc (.cells #[.int .i8 xk, .int .i64 xn, .string xs, .string xu, .slice xA xm xc] 25)).alloc (.cells #[.int .i8 yk, .int .i64 yn, .string ys, .string yu, .slice yA ym yc] 44) := ⟨_, rfl⟩
  rw [← hw1] at g0 g1 b2
  have HB1 := Lib.hid b2
  have HG1 := Lib.hid g0
  have HH1 := Lib.hid g1
  have HP : Hid (∀ V, Below w.heap.size w V → TmAt (· < V.heap.size) V p (.agg #[.int .i8 xk, .int .i64 xn, .string xs, .string xu, .slice xA xm xc])) := fun V hb => hP.laterN hb
  have HT : Hid (∀ V, Below w.heap.size w V → TmAt (· < V.heap.size) V t (.agg #[.int .i8 yk, .int .i64 yn, .string ys, .string yu, .slice yA ym yc])) := fun V hb => hT.later hb
  have HR : Hid (∀ V, Below w.heap.size w V → BRow (· < V.heap.size) V A l.length cap l) := fun V hb => hR.later hb
  have HQ : Hid (∀ V, Below w.heap.size w V → BRow (· < V.heap.size) V Q more.length qcap more) := fun V hb => hQ.later hb
  have HQ0 := Lib.hid hQ
  have HE : Hid (∀ V, Below w.heap.size w V → Env7 V) := fun V hb => hE.under hb
  have hml := hR.max
  have hmq := hQ.max
  unfold maxLen at hml hmq
  obtain ⟨x0, x1, x2, x3, x4⟩ := five_of g0
  obtain ⟨y0, y1, y2, y3, y4⟩ := five_of g1
  clear g0 g1 b2 hP hT hR hE hQ
  go_enter Tryz.func7, Tryz.ntmps7
  go_upto_region 1 with fail
  rw [← hw1]
  clear hw1
  go_wp2_with fail
  refine (GreatN_any p _ w1 (HP.out w1 HB1.out)).mono ?_
  rintro e w2 ⟨q, rfl, hq, b⟩
  have HB2 := Lib.hid (HB1.out.trans (b.mono HB1.out.size))
  have HG2 := Lib.hid ((b.block _ (heap_lt HG1.out)).trans HG1.out)
  have HH2 := Lib.hid ((b.block _ (heap_lt HH1.out)).trans HH1.out)
  clear b x0 x1 x2 x3 x4 y0 y1 y2 y3 y4
  obtain ⟨x0, x1, x2, x3, x4⟩ := five_of HG2.out
  obtain ⟨y0, y1, y2, y3, y4⟩ := five_of HH2.out
  cases q with
  | true =>
    clear hq
    go_wp2_with fail
    refine (wakes10_any w2 (HE.out w2 HB2.out)).mono ?_
    rintro e w99 ⟨rfl, b9⟩
    have HF := Lib.hid (HB2.out.trans (b9.mono HB2.out.size))
    clear b9
    go_wp2_with fail
    go_ret
    exact ⟨rfl, HF.out⟩
  | false =>
  have HN : Hid (p.nodes ≤ 8200) := by have := hq rfl; show _ ≤ _; omega
  clear hq
  go_wp2_with fail
  refine (Great_any t _ w2 (HT.out w2 HB2.out)).mono ?_
  rintro e w3 ⟨q, rfl, hq, b⟩
  have HB3 := Lib.hid (HB2.out.trans (b.mono HB2.out.size))
  have HG3 := Lib.hid ((b.block _ (heap_lt HG2.out)).trans HG2.out)
  have HH3 := Lib.hid ((b.block _ (heap_lt HH2.out)).trans HH2.out)
  clear b x0 x1 x2 x3 x4 y0 y1 y2 y3 y4
  obtain ⟨x0, x1, x2, x3, x4⟩ := five_of HG3.out
  obtain ⟨y0, y1, y2, y3, y4⟩ := five_of HH3.out
  cases q with
  | true =>
    clear hq
    go_wp2_with fail
    refine (wakes10_any w3 (HE.out w3 HB3.out)).mono ?_
    rintro e w99 ⟨rfl, b9⟩
    have HF := Lib.hid (HB3.out.trans (b9.mono HB3.out.size))
    clear b9
    go_wp2_with fail
    go_ret
    exact ⟨rfl, HF.out⟩
  | false =>
  clear hq
  go_wp2_with fail
  refine (Great10_any l A l.length cap w3 (HR.out w3 HB3.out)).mono ?_
  rintro e w4 ⟨⟨q, rfl, hq⟩, b⟩
  have HB4 := Lib.hid (HB3.out.trans (b.mono HB3.out.size))
  have HG4 := Lib.hid ((b.block _ (heap_lt HG3.out)).trans HG3.out)
  have HH4 := Lib.hid ((b.block _ (heap_lt HH3.out)).trans HH3.out)
  clear b x0 x1 x2 x3 x4 y0 y1 y2 y3 y4
  obtain ⟨x0, x1, x2, x3, x4⟩ := five_of HG4.out
  obtain ⟨y0, y1, y2, y3, y4⟩ := five_of HH4.out
  cases q with
  | true =>
    clear hq
    go_wp2_with fail
    refine (wakes10_any w4 (HE.out w4 HB4.out)).mono ?_
    rintro e w99 ⟨rfl, b9⟩
    have HF := Lib.hid (HB4.out.trans (b9.mono HB4.out.size))
    clear b9
    go_wp2_with fail
    go_ret
    exact ⟨rfl, HF.out⟩
  | false =>
  have HLL : Hid (l.length ≤ 200) := hq rfl
  clear hq
  go_wp2_with fail
  refine (Great10_any more Q more.length qcap w4 (HQ.out w4 HB4.out)).mono ?_
  rintro e w5 ⟨⟨q, rfl, hq⟩, b⟩
  have HB5 := Lib.hid (HB4.out.trans (b.mono HB4.out.size))
  have HG5 := Lib.hid ((b.block _ (heap_lt HG4.out)).trans HG4.out)
  have HH5 := Lib.hid ((b.block _ (heap_lt HH4.out)).trans HH4.out)
  clear b x0 x1 x2 x3 x4 y0 y1 y2 y3 y4
  obtain ⟨x0, x1, x2, x3, x4⟩ := five_of HG5.out
  obtain ⟨y0, y1, y2, y3, y4⟩ := five_of HH5.out
  cases q with
  | true =>
    clear hq
    go_wp2_with fail
    refine (wakes10_any w5 (HE.out w5 HB5.out)).mono ?_
    rintro e w99 ⟨rfl, b9⟩
    have HF := Lib.hid (HB5.out.trans (b9.mono HB5.out.size))
    clear b9
    go_wp2_with fail
    go_ret
    exact ⟨rfl, HF.out⟩
  | false =>
  have HLM : Hid (more.length ≤ 200) := hq rfl
  clear hq
  go_wp2_with fail
  refine (rVars_any p _ w5 (HP.out w5 HB5.out)).mono ?_
  rintro e w6 ⟨VA, vc, rfl, hv, hvl, b⟩
  have HV := Lib.hid hv
  have HVL := Lib.hid hvl
  clear hv
  have HB6 := Lib.hid (HB5.out.trans (b.mono HB5.out.size))
  have HG6 := Lib.hid ((b.block _ (heap_lt HG5.out)).trans HG5.out)
  have HH6 := Lib.hid ((b.block _ (heap_lt HH5.out)).trans HH5.out)
  clear b x0 x1 x2 x3 x4 y0 y1 y2 y3 y4
  obtain ⟨x0, x1, x2, x3, x4⟩ := five_of HG6.out
  obtain ⟨y0, y1, y2, y3, y4⟩ := five_of HH6.out
  clear hvl x0 x1 x2 x3 x4 y0 y1 y2 y3 y4
  obtain ⟨VL, hVL⟩ : ∃ L, L = varsL p := ⟨_, rfl⟩
  have HVE := Lib.hid hVL
  rw [← hVL] at HV HVL ⊢
  clear hVL
  have HP0 : Hid (∀ b, b < w.heap.size → b < w6.heap.size) := fun b hb => Nat.lt_of_lt_of_le hb HB6.out.size
  have HST := Lib.hid (StB.start w6 (· < w.heap.size))
  go_wp2_with fail
  go_loopw [10, 11] (fun v i wr => ∃ (j : Nat) (RA : Option Addr) (rc : Nat) (acc : List Bd), j ≤ more.length ∧ i = .int .i64 j ∧ v = .slice RA acc.length rc ∧ Hid (acc = aheadB p (more.take j)) ∧ Hid (StB w6 wr (· < w.heap.size) [] (.slice RA acc.length rc) acc)) (fun _ i _ => more.length - (intOf i).toNat)
  case atStart => exact ⟨0, none, 0, [], Nat.zero_le _, rfl, rfl, Lib.hid rfl, HST⟩
  case round =>
    obtain ⟨j, RA, rc, acc, hj, rfl, rfl, HAC, HSJ⟩ := hrel
    have HBJ := Lib.hid (HB6.out.trans (HSJ.out.below.mono HB6.out.size))
    by_cases hlt : j < more.length
    · obtain ⟨y, hy⟩ : ∃ y, more[j]? = some y := ⟨more[j], List.getElem?_eq_getElem hlt⟩
      obtain ⟨ad, u, rfl, had, hsz, hEl, hTy⟩ := HQ0.out.at_ j y hy
      have hEr := hEl.keep (HBJ.out.block ad.block had)
      have HNX := Lib.hid (ahead_next (p := p) hy)
      obtain ⟨bs, bt⟩ := y
      obtain ⟨k', n', s', t', A', m', c', rfl⟩ : ∃ k' n' s' t' A' m' c', u = .agg #[.int .i8 k', .int .i64 n', .string s', .string t', .slice A' m' c'] := by
        dsimp only at hTy; cases hTy; exact ⟨_, _, _, _, _, _, _, rfl⟩
      obtain ⟨c0, c1, c2, c3, c4, hcc, es, e0, e1, e2, e3, e4⟩ := hEr
      simp only [Value.agg.injEq, Array.mk.injEq, List.cons.injEq, and_true] at hcc
      obtain ⟨rfl, rfl, rfl, rfl, rfl⟩ := hcc
      dsimp only at es HNX hTy hsz
      rw [← HVE.out] at HNX
      have HTY := Lib.hid hTy
      have HSZ := Lib.hid hsz
      have HHAS := Lib.hid (rhas_any VL bs VA vc wr (by unfold maxLen; have := HVL.out; omega) (HV.out.under HSJ.out.below))
      have HEL := Lib.hid hEl
      clear hEl hTy hsz hy had
      go_wp2_with fail
      refine HHAS.out.mono ?_
      rintro e w7 ⟨rfl, b⟩
      have HS7 := Lib.hid (HSJ.out.under HP0.out b)
      cases hh : hasL VL bs with
      | true =>
        have HA2 : Hid (acc = aheadB p (more.take (j + 1))) := by
          show _ = _
          rw [HNX.out, hh, if_pos rfl, List.append_nil]; exact HAC.out
        clear hh b es e0 e1 e2 e3 e4
        go_wp2_with fail
        go_roundw
        case rel => exact ⟨j + 1, RA, rc, acc, by omega, by go_num, rfl, HA2, HS7⟩
        case measure => simp [intOf]; omega
      | false =>
        have HA2 : Hid (acc ++ [(bs, bt)] = aheadB p (more.take (j + 1))) := by
          show _ = _
          rw [HNX.out, hh, if_neg (by decide), ← HAC.out]
        have HB7 := Lib.hid (HBJ.out.trans (b.mono HBJ.out.size))
        have hlen : acc.length ≤ 200 := by
          have h1 := HAC.out
          have h2 := ahead_len p (more.take j)
          have h3 := List.length_take (l := more) (i := j)
          have h4 := HLM.out
          rw [h1]
          omega
        clear hh
        have es := (b.cell (World.block_lt_of_cell? _ _ es)).trans es
        have e0 := (b.cell (World.block_lt_of_cell? _ _ e0)).trans e0
        have e1 := (b.cell (World.block_lt_of_cell? _ _ e1)).trans e1
        have e2 := (b.cell (World.block_lt_of_cell? _ _ e2)).trans e2
        have e3 := (b.cell (World.block_lt_of_cell? _ _ e3)).trans e3
        have e4 := (b.cell (World.block_lt_of_cell? _ _ e4)).trans e4
        clear b
        obtain ⟨w8, hw8⟩ : ∃ w8, w8 = w7.alloc (.cells #[.string bs, .int .i8 k', .int .i64 n', .string s', .string t', .slice A' m' c'] 61) := ⟨_, rfl⟩
        obtain ⟨g6, hg6⟩ : ∃ g, g = w7.heap.size := ⟨_, rfl⟩
        have hs8 := HS7.out.alloc HP0.out (.cells #[.string bs, .int .i8 k', .int .i64 n', .string s', .string t', .slice A' m' c'] 61)
        rw [← hw8] at hs8
        have HG8 : Hid (w8.heap[g6]? = some (.cells #[.string bs, .int .i8 k', .int .i64 n', .string s', .string t', .slice A' m' c'] 61 (0, 0))) := Lib.hid (by rw [hw8, hg6]; exact block_alloc _ _)
        have HRO : Hid (RowB (· < w.heap.size) w8 (some ⟨g6, 0, none⟩) 1 [(bs, bt)]) := Lib.hid (RowB.one HG8.out HSZ.out (HTY.out.keep (Q := (· < w.heap.size)) (fun b hb => (HB6.out.trans (hs8.below.mono HB6.out.size)).block b hb) (fun b hb => hb)))
        have HS8 := Lib.hid hs8
        have HL2 : Hid (acc.length + [(bs, bt)].length ≤ 1000000) := by show _ ≤ _; simp; omega
        clear hs8 hlen
        go_wp2_with (at_builtin; rw [← hw8, ← hg6]; clear hw8 hg6; refine wpList_own_binds rfl (.tmp 50) (.tmp 55) rfl HS8.out.own HS8.out.below.size (HS8.out.apart HP0.out) rfl rfl HRO.out HL2.out ?_)
        intro v9 w9 O hg hbl
        have hs9 := HS8.out.app O hg hbl
        clear O hg hbl es e0 e1 e2 e3 e4
        obtain ⟨acc2, hacc2⟩ : ∃ a, a = acc ++ [(bs, bt)] := ⟨_, rfl⟩
        rw [← hacc2] at hs9 HA2
        obtain ⟨A9, cap9, rfl⟩ := hs9.own.shape
        have HS9 : Hid (StB w6 w9 (· < w.heap.size) [] (.slice A9 acc2.length cap9) acc2) := ⟨hs9.below, hs9.own, fun q hq => by simp at hq⟩
        clear hs9 hacc2
        go_wp2_with fail
        go_roundw
        case rel => exact ⟨j + 1, A9, cap9, acc2, by omega, by go_num, rfl, HA2, HS9⟩
        case measure => simp [intOf]; omega
    · obtain rfl : j = more.length := by omega
      have HAH : Hid (acc = aheadB p more) := by show _ = _; rw [HAC.out, List.take_length]
      have HLA : Hid (acc.length ≤ 200) := by show _ ≤ _; have h1 := ahead_len p more; have h2 := HLM.out; rw [HAH.out]; omega
      have HRA := Lib.hid (HSJ.out.own.brow (Q := (· < wr.heap.size)) (fun b hb => Nat.lt_of_lt_of_le hb (Nat.le_trans HB6.out.size HSJ.out.below.size)) (fun b _ h => h))
      have HRAB := Lib.hid (HRA.out.rowB)
      have HST2 := Lib.hid (StB.start wr (· < wr.heap.size))
      have HPW : Hid (∀ b, b < wr.heap.size → b < wr.heap.size) := fun _ h => h
      have HL0 : Hid (([] : List Bd).length + acc.length ≤ 1000000) := by show _ ≤ _; have := HLA.out; simp; omega
      have HL1 : Hid (acc.length + l.length ≤ 1000000) := by show _ ≤ _; have := HLA.out; have := HLL.out; omega
      go_wp2_with (at_builtin; refine wpList_own_binds rfl (.tmp 57) (.tmp 58) rfl HST2.out.own (Nat.le_refl _) (HST2.out.apart HPW.out) rfl rfl HRAB.out HL0.out ?_)
      intro v9 w9 O hg hbl
      have hs9 := HST2.out.app O hg hbl
      clear O hg hbl
      obtain ⟨A9, cap9, rfl⟩ := hs9.own.shape
      try rw [List.nil_append] at hs9
      have HS9 := Lib.hid hs9
      have HRL := Lib.hid ((((HR.out wr HBJ.out).under hs9.below (Nat.le_refl _))).rowB)
      clear hs9
      go_wp2_with (at_builtin; refine wpList_own_binds rfl (.tmp 60) (.tmp 61) rfl HS9.out.own HS9.out.below.size (HS9.out.apart HPW.out) rfl rfl HRL.out HL1.out ?_)
      intro v10 w10 O hg hbl
      have hs10 := HS9.out.app O hg hbl
      clear O hg hbl
      obtain ⟨BL, hBL⟩ : ∃ L, L = acc ++ l := ⟨_, rfl⟩
      rw [← hBL] at hs10
      have HBL := Lib.hid hBL
      obtain ⟨A10, cap10, rfl⟩ := hs10.own.shape
      have b610 := HSJ.out.below.trans (hs10.below.mono HSJ.out.below.size)
      have HB10 := Lib.hid (HBJ.out.trans (hs10.below.mono HBJ.out.size))
      have HG10 := Lib.hid ((b610.block _ (heap_lt HG6.out)).trans HG6.out)
      have HH10 := Lib.hid ((b610.block _ (heap_lt HH6.out)).trans HH6.out)
      have HRB := Lib.hid (hs10.own.brow (Q := (· < w10.heap.size)) (fun b hb => Nat.lt_of_lt_of_le hb hs10.below.size) (fun b _ h => h))
      have HRA10 := Lib.hid (HRA.out.later hs10.below)
      clear hs10 hBL b610
      obtain ⟨x0, x1, x2, x3, x4⟩ := five_of HG10.out
      obtain ⟨y0, y1, y2, y3, y4⟩ := five_of HH10.out
      have hc0 := fun W h1 h2 h3 h4 => Match10_any p t l (.agg #[.int .i8 xk, .int .i64 xn, .string xs, .string xu, .slice xA xm xc]) (.agg #[.int .i8 yk, .int .i64 yn, .string ys, .string yu, .slice yA ym yc]) A l.length cap W h1 h2 h3 HN.out h4
      have hc1 := fun W h1 h2 h3 h4 => Match10_any p t BL (.agg #[.int .i8 xk, .int .i64 xn, .string xs, .string xu, .slice xA xm xc]) (.agg #[.int .i8 yk, .int .i64 yn, .string ys, .string yu, .slice yA ym yc]) A10 BL.length cap10 W h1 h2 h3 HN.out h4
      have hmo := fun h0 h1 => more_ok p t l more h0 h1
      rw [← HAH.out, ← HBL.out] at hmo
      have hlen := allL_len p t l
      obtain ⟨E0, hE0⟩ : ∃ x, x = allE [p] [t] l := ⟨_, rfl⟩
      obtain ⟨B0, hB0⟩ : ∃ x, x = allB [p] [t] l := ⟨_, rfl⟩
      obtain ⟨L0, hL0⟩ : ∃ x, x = allL [p] [t] l := ⟨_, rfl⟩
      obtain ⟨E1, hE1⟩ : ∃ x, x = allE [p] [t] BL := ⟨_, rfl⟩
      obtain ⟨B1, hB1⟩ : ∃ x, x = allB [p] [t] BL := ⟨_, rfl⟩
      obtain ⟨L1, hL1⟩ : ∃ x, x = allL [p] [t] BL := ⟨_, rfl⟩
      rw [← hE0, ← hB0, ← hL0] at hc0
      rw [← hE1, ← hB1, ← hL1] at hc1
      rw [← hL0] at hlen
      rw [← hE0, ← hE1, ← hB0, ← hB1, ← hL0, ← hL1] at hmo
      have HC0 := Lib.hid hc0
      have HC1 := Lib.hid hc1
      have HMO := Lib.hid hmo
      have HLEN := Lib.hid hlen
      clear hc0 hc1 hmo hlen hE0 hB0 hL0 hE1 hB1 hL1
      go_wp2_with fail
      refine (HC0.out w10 (HP.out w10 HB10.out) (HT.out w10 HB10.out) (HR.out w10 HB10.out) (HE.out w10 HB10.out)).mono ?_
      rintro e w11 ⟨A13, n13, c13, rfl, hr13, b⟩
      have HR13 := Lib.hid hr13
      have HRB11 := Lib.hid (HRB.out.later b)
      have HRA11 := Lib.hid (HRA10.out.later b)
      clear hr13
      have HB11 := Lib.hid (HB10.out.trans (b.mono HB10.out.size))
      have HG11 := Lib.hid ((b.block _ (heap_lt HG10.out)).trans HG10.out)
      have HH11 := Lib.hid ((b.block _ (heap_lt HH10.out)).trans HH10.out)
      clear b x0 x1 x2 x3 x4 y0 y1 y2 y3 y4
      obtain ⟨x0, x1, x2, x3, x4⟩ := five_of HG11.out
      obtain ⟨y0, y1, y2, y3, y4⟩ := five_of HH11.out
      go_wp2_with fail
      refine (HC1.out w11 (HP.out w11 HB11.out) (HT.out w11 HB11.out) HRB11.out (HE.out w11 HB11.out)).mono ?_
      rintro e w12 ⟨A16, n16, c16, rfl, hr16, b⟩
      have HR16 := Lib.hid hr16
      have HRA12 := Lib.hid (HRA11.out.later b)
      have HR12 := Lib.hid (HR13.out.later b)
      clear hr16
      have HB12 := Lib.hid (HB11.out.trans (b.mono HB11.out.size))
      have HG12 := Lib.hid ((b.block _ (heap_lt HG11.out)).trans HG11.out)
      have HH12 := Lib.hid ((b.block _ (heap_lt HH11.out)).trans HH11.out)
      clear b x0 x1 x2 x3 x4 y0 y1 y2 y3 y4
      obtain ⟨x0, x1, x2, x3, x4⟩ := five_of HG12.out
      obtain ⟨y0, y1, y2, y3, y4⟩ := five_of HH12.out
      clear x0 x1 x2 x3 x4 y0 y1 y2 y3 y4
      by_cases hE0 : E0 = 0
      case neg =>
        have hn0 : (E0 != 0) = true := by simpa using hE0
        clear hE0
        go_wp2_with fail
        refine (wakes10_any w12 (HE.out w12 HB12.out)).mono ?_
        rintro e w99 ⟨rfl, b9⟩
        have HF := Lib.hid (HB12.out.trans (b9.mono HB12.out.size))
        clear b9
        go_wp2_with fail
        go_ret
        exact ⟨rfl, HF.out⟩
      have hn0 : (E0 != 0) = false := by simpa using hE0
      by_cases hE1 : E1 = 0
      case neg =>
        have hn1 : (E1 != 0) = true := by simpa using hE1
        clear hE0 hE1
        go_wp2_with fail
        refine (wakes10_any w12 (HE.out w12 HB12.out)).mono ?_
        rintro e w99 ⟨rfl, b9⟩
        have HF := Lib.hid (HB12.out.trans (b9.mono HB12.out.size))
        clear b9
        go_wp2_with fail
        go_ret
        exact ⟨rfl, HF.out⟩
      have hn1 : (E1 != 0) = false := by simpa using hE1
      obtain ⟨hb, hl1⟩ := HMO.out hE0 hE1
      subst hb
      clear hE0 hE1
      have HLE1 := Lib.hid hl1
      have hq1 : L1.length = L0.length + acc.length := by rw [hl1, List.length_append]; exact Nat.add_comm _ _
      have hln13 := HR12.out.len
      have hln16 := HR16.out.len
      have hc16 := HR16.out.cap
      rw [hq1] at hln16
      obtain ⟨ka, hka⟩ : ∃ k, k = acc.length := ⟨_, rfl⟩
      rw [← hka] at hln16 ⊢
      have HKA := Lib.hid hka
      have hk1 : ka ≤ 200 := by rw [hka]; exact HLA.out
      have hk2 : n13 ≤ 8400 := by have h1 := HLEN.out; have h2 := HN.out; have h3 := HLL.out; omega
      rw [hln13] at hln16
      subst hln16
      have hbb : (B1 == B1) = true := beq_self_eq_true _
      clear hl1 hq1 hln13 hka
      go_wp2_with fail
      have hs1 := Same10_any (L1.take ka) acc A16 ka c16 RA ka rc w12 (HR16.out.take ka c16 (by omega) (by omega)) (by have h := HRA12.out; rw [← HKA.out] at h; exact h)
      refine hs1.mono ?_
      rintro e w13 ⟨b, rfl, hb, b13⟩
      obtain rfl : b = true := hb.2 (by rw [HLE1.out, HKA.out, List.take_left])
      have HB13 := Lib.hid (HB12.out.trans (b13.mono HB12.out.size))
      have HR16' := Lib.hid (HR16.out.later b13)
      have HR13' := Lib.hid (HR12.out.later b13)
      clear hs1 hb b13
      have HD : Hid (L1.drop ka = L0) := by show _ = _; rw [HLE1.out, HKA.out, List.drop_left]
      by_cases hcap : c16 = ka
      · subst hcap
        have hn : n13 = 0 := by omega
        have HTL : Hid (BRow (· < w13.heap.size) w13 A16 n13 0 L0) := by
          have hl := HR13'.out.len
          have hm := HR13'.out.max
          exact ⟨hl, hm, by omega, fun j x hj => by
            have hz : L0 = [] := List.length_eq_zero_iff.1 (by omega)
            rw [hz] at hj; simp at hj⟩
        clear hn hc16
        go_wp2_with fail
        refine (Same10_any L0 L0 A16 n13 0 A13 n13 c13 w13 HTL.out HR13'.out).mono ?_
        rintro e w14 ⟨b, rfl, hb, b14⟩
        obtain rfl : b = true := hb.2 rfl
        have HB14 := Lib.hid (HB13.out.trans (b14.mono HB13.out.size))
        clear hb b14
        go_wp2_with fail
        refine (wakes10_any w14 (HE.out w14 HB14.out)).mono ?_
        rintro e w99 ⟨rfl, b9⟩
        have HF := Lib.hid (HB14.out.trans (b9.mono HB14.out.size))
        clear b9
        go_wp2_with fail
        go_ret
        exact ⟨rfl, HF.out⟩
      · have HTL : Hid (BRow (· < w13.heap.size) w13 (Option.map (fun x => x.add (ka * 6)) A16) n13 (c16 - ka) L0) := by
          have h := HR16'.out.tail
          rw [HD.out] at h
          exact h
        go_wp2_with fail
        refine (Same10_any L0 L0 _ n13 (c16 - ka) A13 n13 c13 w13 HTL.out HR13'.out).mono ?_
        rintro e w14 ⟨b, rfl, hb, b14⟩
        obtain rfl : b = true := hb.2 rfl
        have HB14 := Lib.hid (HB13.out.trans (b14.mono HB13.out.size))
        clear hb b14
        go_wp2_with fail
        refine (wakes10_any w14 (HE.out w14 HB14.out)).mono ?_
        rintro e w99 ⟨rfl, b9⟩
        have HF := Lib.hid (HB14.out.trans (b9.mono HB14.out.size))
        clear b9
        go_wp2_with fail
        go_ret
        exact ⟨rfl, HF.out⟩
end Go.Proofs.YtkceoiaaiaomoaaGreatDoor
end
section
set_option linter.unusedVariables false
namespace Go.Proofs.YtkceoiaaiaomoaaGreatDoor
open Go.ChangeShapes Go.WideShapes Go.ChangeAt Go.RowKit

theorem gSpans : Tryz.prog.globalNamed "pleach/atoms.spans" = some 3 := by kernel_rfl
theorem tSpans : (Tryz.prog.globals[3]?).map (·.type) = some 252 := by kernel_rfl
theorem gWords : Tryz.prog.globalNamed "pleach/scan.words" = some 4 := by kernel_rfl
theorem tWords : (Tryz.prog.globals[4]?).map (·.type) = some 292 := by kernel_rfl
theorem gNats : Tryz.prog.globalNamed "pleach/ast.natures" = some 2 := by kernel_rfl
theorem tNats : (Tryz.prog.globals[2]?).map (·.type) = some 244 := by kernel_rfl
set_option maxRecDepth 100000 in
theorem door_met (os : Os) (args : Array Value) : laidMetH Tryz.prog [("pleach/atoms.spans", Rows.laid_pleach_atoms_spans), ("pleach/scan.words", Rows.laid_pleach_scan_words), ("pleach/ast.natures", Rows.laid_pleach_ast_natures)] ((World.doorLaid Tryz.prog 400 os).forCall (fun _ _ => 0) ⟨#[], args, []⟩).memory :=
  laidMetH_of_parts3 (fuel := 8) (laidMet_of_run' 8 (by kernel_rfl) (by kernel_rfl)) (by kernel_rfl) (by kernel_rfl)

theorem cells_of_strs {P : Program} {H : Type} {enc : TypeId × Value → H} {W : World} {base : Nat} {sp : Nat → Bool} {held : Bool} {fuel : Nat} {t e : TypeId} {n : Nat} {cs : List Value} {x : DataW H × List MemPlace} {L : List (List UInt8)}
    (ht : P.underlying t = some (.array n e)) (he : P.underlying e = some .string) (hce : P.cellsOf e = 1) (hct : P.cellsOf t = n) (h : DataW.trod enc P W base sp held fuel t cs = some x)
    (hx : x.1 = .agg (L.map fun l => .lit (.string l))) : cs = L.map fun l => Value.string ⟨l.toArray⟩ := by
  obtain ⟨xs, m, rfl, rfl, hlen, hn, hel⟩ := DataW.trod_array ht h
  rw [hct] at hlen
  rw [hce] at hel
  simp only [DataW.agg.injEq] at hx
  have hL : L.length = n := by have := congrArg List.length hx; simp only [List.length_map] at this; omega
  apply List.ext_getElem (by simp [hlen, hL])
  intro i h1 h2
  have hi : i < n := by omega
  have h3 := hel i hi
  rw [List.getElem?_eq_getElem (by omega)] at h3
  obtain ⟨s, hs, hxs, _⟩ := DataW.trod_string he h3
  have h4 : (xs.map (·.1))[i]'(by simp; omega) = (L.map fun l => DataW.lit (H := H) (.string l))[i]'(by simp; omega) := by simp only [hx]
  simp only [List.getElem_map, hxs, DataW.lit.injEq, Lit.string.injEq] at h4
  rw [Nat.mul_one, List.drop_eq_getElem_cons h1, List.take_succ_cons, List.take_zero] at hs
  simp only [List.cons.injEq, and_true] at hs
  rw [hs, List.getElem_map, ← h4]

set_option maxRecDepth 100000 in
theorem span_cells {H : Type} {enc : TypeId × Value → H} {W : World} {base : Nat} {sp : Nat → Bool} {held : Bool} {n : Nat} {cs : List Value} {x : DataW H × List MemPlace} {a b c : Int}
    (h : DataW.trod enc Tryz.prog W base sp held n 251 cs = some x) (hx : x.1 = .agg [.lit (.int .u8 a), .lit (.int .u8 b), .lit (.int .u8 c)]) : cs = [.int .u8 a, .int .u8 b, .int .u8 c] := by
  obtain ⟨xs, m, rfl, rfl, hlen, hn, hf⟩ := DataW.trod_struct Tryz.underlying251 h
  have c3 : Tryz.prog.cellsOf 251 = 3 := by kernel_rfl
  have c1 : Tryz.prog.cellsOf 5 = 1 := by kernel_rfl
  have ck : Tryz.prog.cellsOf 171 = 1 := by kernel_rfl
  rw [c3] at hlen
  match cs, hlen with
  | [u, v, z], _ =>
    have f0 : DataW.trod enc Tryz.prog W base sp held m 5 (([u, v, z].drop 0).take (Tryz.prog.cellsOf 5)) = xs[0]? := hf 0 _ rfl
    have f1 : DataW.trod enc Tryz.prog W base sp held m 5 (([u, v, z].drop 1).take (Tryz.prog.cellsOf 5)) = xs[1]? := hf 1 _ rfl
    have f2 : DataW.trod enc Tryz.prog W base sp held m 171 (([u, v, z].drop 2).take (Tryz.prog.cellsOf 171)) = xs[2]? := hf 2 _ rfl
    rw [c1] at f0 f1
    rw [ck] at f2
    match xs, hn with
    | [x0, x1, x2], _ =>
      simp at f0 f1 f2 hx
      obtain ⟨k0, e0, y0, _⟩ := DataW.trod_int Tryz.underlying5 f0
      obtain ⟨k1, e1, y1, _⟩ := DataW.trod_int Tryz.underlying5 f1
      obtain ⟨k2, e2, y2, _⟩ := DataW.trod_int Tryz.underlying171 f2
      subst y0 y1 y2
      simp at e0 e1 e2 hx
      obtain ⟨rfl, rfl, rfl⟩ := hx
      rw [e0, e1, e2]

set_option maxRecDepth 100000 in
theorem nature_cells {H : Type} {enc : TypeId × Value → H} {W : World} {base : Nat} {sp : Nat → Bool} {held : Bool} {n : Nat} {cs : List Value} {x : DataW H × List MemPlace} {a b : Int}
    (h : DataW.trod enc Tryz.prog W base sp held n 243 cs = some x) (hx : x.1 = .agg [.lit (.int .u16 a), .lit (.int .u8 b)]) : cs = [.int .u16 a, .int .u8 b] := by
  obtain ⟨xs, m, rfl, rfl, hlen, hn, hf⟩ := DataW.trod_struct Tryz.underlying243 h
  have c2 : Tryz.prog.cellsOf 243 = 2 := by kernel_rfl
  have c1 : Tryz.prog.cellsOf 163 = 1 := by kernel_rfl
  have ck : Tryz.prog.cellsOf 241 = 1 := by kernel_rfl
  rw [c2] at hlen
  match cs, hlen with
  | [u, v], _ =>
    have f0 : DataW.trod enc Tryz.prog W base sp held m 163 (([u, v].drop 0).take (Tryz.prog.cellsOf 163)) = xs[0]? := hf 0 _ rfl
    have f1 : DataW.trod enc Tryz.prog W base sp held m 241 (([u, v].drop 1).take (Tryz.prog.cellsOf 241)) = xs[1]? := hf 1 _ rfl
    rw [c1] at f0
    rw [ck] at f1
    match xs, hn with
    | [x0, x1], _ =>
      simp at f0 f1 hx
      obtain ⟨k0, e0, y0, _⟩ := DataW.trod_int Tryz.underlying163 f0
      obtain ⟨k1, e1, y1, _⟩ := DataW.trod_int Tryz.underlying241 f1
      subst y0 y1
      simp at e0 e1 hx
      obtain ⟨rfl, rfl⟩ := hx
      rw [e0, e1]

theorem pairs_eq : ∀ (L : List (Int × Int)) (cs : List Value), cs.length = 2 * L.length → (∀ i p, L[i]? = some p → (cs.drop (i * 2)).take 2 = [.int .u16 p.1, .int .u8 p.2]) → cs = L.flatMap fun p => [Value.int .u16 p.1, Value.int .u8 p.2]
  | [], cs, hl, _ => List.length_eq_zero_iff.1 hl
  | p :: L, cs, hl, h => by
    match cs, hl with
    | a :: b :: cs, hl =>
      have h0 := h 0 p rfl
      simp only [Nat.zero_mul, List.drop_zero, List.take_succ_cons, List.take_zero, List.cons.injEq, and_true] at h0
      obtain ⟨rfl, rfl⟩ := h0
      have ih := pairs_eq L cs (by simp only [List.length_cons] at hl; omega) fun i q hq => by
        have h1 := h (i + 1) q hq
        rwa [show (i + 1) * 2 = i * 2 + 2 by omega, List.drop_succ_cons, List.drop_succ_cons] at h1
      rw [List.flatMap_cons, ← ih]
      rfl

def naturesList : List (Int × Int) := [(1, 8), (2, 10), (4, 11), (8, 9), (16, 8), (448, 2), (448, 1), (448, 2), (448, 0), (448, 8), (448, 8), (352, 10), (32, 10), (256, 8), (256, 10), (256, 14), (256, 8), (256, 7), (256, 8), (256, 8), (256, 9), (512, 8)]

set_option maxRecDepth 100000 in
theorem natures_cells {H : Type} {enc : TypeId × Value → H} {W : World} {base : Nat} {sp : Nat → Bool} {held : Bool} {fuel : Nat} {cs : List Value} {x : DataW H × List MemPlace}
    (h : DataW.trod enc Tryz.prog W base sp held fuel 244 cs = some x) (hx : x.1 = .agg (naturesList.map fun p => .agg [.lit (.int .u16 p.1), .lit (.int .u8 p.2)])) : cs = naturesRow.toList := by
  obtain ⟨xs, m, rfl, rfl, hlen, hn, hel⟩ := DataW.trod_array Tryz.underlying244 h
  have ce : Tryz.prog.cellsOf 243 = 2 := by kernel_rfl
  have ct : Tryz.prog.cellsOf 244 = 44 := by kernel_rfl
  rw [ct] at hlen
  rw [ce] at hel
  simp only [DataW.agg.injEq] at hx
  refine (pairs_eq naturesList cs hlen fun i p hp => ?_).trans rfl
  have hi : i < naturesList.length := by
    rcases Nat.lt_or_ge i naturesList.length with h | h
    · exact h
    · rw [List.getElem?_eq_none h] at hp; cases hp
  have hi2 : i < 22 := hi
  have h3 := hel i hi2
  have h4 := congrArg (fun l => l[i]?) hx
  simp only [List.getElem?_map, hp, Option.map_some] at h4
  rw [List.getElem?_eq_getElem (by omega : i < xs.length)] at h3 h4
  simp only [Option.map_some, Option.some.injEq] at h4
  exact nature_cells h3 h4

theorem noPow : (Tryz.prog.globalNamed "internal/strconv.uint64pow10").isSome = false := by kernel_rfl
set_option maxRecDepth 100000 in
theorem of_laid {W : World} (h : laidMetH Tryz.prog [("pleach/atoms.spans", Rows.laid_pleach_atoms_spans), ("pleach/scan.words", Rows.laid_pleach_scan_words), ("pleach/ast.natures", Rows.laid_pleach_ast_natures)] W) : Env7 W := by
  rw [MakeChecks.laidMetH_plain _ _ _ (by kernel_rfl)] at h
  obtain ⟨ps, ⟨g0, t0, cs0, f0, p0, q0, hg0, ht0, hv0, hd0, ⟨g1, t1, cs1, f1, p1, q1, hg1, ht1, hv1, hd1, ⟨g2, t2, cs2, f2, p2, q2, hg2, ht2, hv2, hd2, _, _⟩, _⟩, _⟩, _⟩ := h
  have var : ∀ {nm : String} {g : Nat} {cs : Array Value}, Tryz.prog.globalNamed nm = some g → W.var? Tryz.prog nm = some cs → ∃ t fr, W.heap[g]? = some (.cells cs t fr) := by
    intro nm g cs hg hv
    simp only [World.var?, hg, Option.bind_some] at hv
    split at hv
    · rename_i c t fr hb
      cases hv
      exact ⟨t, fr, hb⟩
    · cases hv
  refine ⟨?_, ?_, ?_, ?_⟩
  · obtain rfl := Option.some.inj (gSpans.symm.trans hg0)
    obtain rfl := Option.some.inj (tSpans.symm.trans ht0)
    obtain ⟨xs, m, rfl, hx, hlen, hn, hel⟩ := DataW.trod_array Tryz.underlying252 hd0
    have c3 : Tryz.prog.cellsOf 251 = 3 := by kernel_rfl
    have c12 : Tryz.prog.cellsOf 252 = 12 := by kernel_rfl
    rw [c12] at hlen
    rw [c3] at hel
    have e0 := hel 0 (by decide)
    have e1 := hel 1 (by decide)
    have e2 := hel 2 (by decide)
    have e3 := hel 3 (by decide)
    match xs, hn with
    | [x0, x1, x2, x3], _ =>
      simp [Rows.laid_pleach_atoms_spans] at hx
      obtain ⟨⟨h0, h1, h2, h3⟩, _⟩ := hx
      have s0 := span_cells (e0.trans rfl) h0.symm
      have s1 := span_cells (e1.trans rfl) h1.symm
      have s2 := span_cells (e2.trans rfl) h2.symm
      have s3 := span_cells (e3.trans rfl) h3.symm
      have hcs : cs0 = spansRow := by
        apply Array.ext'
        have key : cs0.toList = (cs0.toList.drop 0).take 3 ++ ((cs0.toList.drop 3).take 3 ++ ((cs0.toList.drop 6).take 3 ++ (cs0.toList.drop 9).take 3)) := by
          have hl : cs0.toList.length = 12 := hlen
          match cs0.toList, hl with
          | [_, _, _, _, _, _, _, _, _, _, _, _], _ => rfl
        rw [key]
        simp at s0 s1 s2 s3
        simp [s0, s1, s2, s3, spansRow]
      subst hcs
      exact var gSpans hv0
  · obtain rfl := Option.some.inj (gWords.symm.trans hg1)
    obtain rfl := Option.some.inj (tWords.symm.trans ht1)
    have hcs := cells_of_strs (L := wordList) Tryz.underlying292 Tryz.underlying9 (by kernel_rfl) (by kernel_rfl) hd1 rfl
    have hcs2 : cs1 = wordsRow := Array.toList_inj.1 hcs
    subst hcs2
    exact var gWords hv1
  · obtain rfl := Option.some.inj (gNats.symm.trans hg2)
    obtain rfl := Option.some.inj (tNats.symm.trans ht2)
    have hcs2 : cs2 = naturesRow := Array.toList_inj.1 (natures_cells hd2 rfl)
    subst hcs2
    exact var gNats hv2
  · unfold PowTab7
    intro h9
    rw [noPow] at h9
    cases h9
end Go.Proofs.YtkceoiaaiaomoaaGreatDoor
end
