/- Layer 10: the document's own Goes at a variable. -/
import Derived.Test.YtkceoiaaiaomoaaGreatDoorKMt9
import Derived.Test.YtkceoiaaiaomoaaGreatDoorKHeldE
set_option linter.unusedVariables false
set_option linter.unusedSimpArgs false
namespace Go.Proofs.YtkceoiaaiaomoaaGreatDoor
open Go.RowKit

set_option maxHeartbeats 4000000 in
set_option maxRecDepth 100000 in
theorem goes_5 (n : Int) (s u : ByteArray) (ps : List Tm) : GoesC (.mk 5 n s u ps) := by
  intro t l v u0 A m cap W hP hT hR hc hok hmany
  obtain rfl := hR.len
  obtain ⟨NA, nc, rfl, hRP, _, _, hss, _⟩ := hP.parts
  obtain ⟨tk, tn, ts, tu, TL⟩ := t
  obtain ⟨TA, tc, rfl, hRT, -⟩ := hT.parts
  obtain ⟨RR, hRR⟩ : ∃ r, r = goP (.mk 5 n s u ps) (.mk tk tn ts tu TL) l := ⟨_, rfl⟩
  rw [← hRR]
  have g0 := there_of (.cells #[.int .i8 tk, .int .i64 tn, .string ts, .string tu, .slice TA TL.length tc] 44) (block_alloc W (.cells #[.int .i8 5, .int .i64 n, .string s, .string u, .slice NA ps.length nc] 25))
  have g1 := block_alloc (W.alloc (.cells #[.int .i8 5, .int .i64 n, .string s, .string u, .slice NA ps.length nc] 25)) (.cells #[.int .i8 tk, .int .i64 tn, .string ts, .string tu, .slice TA TL.length tc] 44)
  rw [World.size_alloc] at g1
  have b2 : Below W.heap.size W ((W.alloc (.cells #[.int .i8 5, .int .i64 n, .string s, .string u, .slice NA ps.length nc] 25)).alloc (.cells #[.int .i8 tk, .int .i64 tn, .string ts, .string tu, .slice TA TL.length tc] 44)) := ((Below.refl _ W).alloc (Nat.le_refl _) _).alloc (by simp) _
  obtain ⟨W2, hW2⟩ : ∃ W2, W2 = (W.alloc (.cells #[.int .i8 5, .int .i64 n, .string s, .string u, .slice NA ps.length nc] 25)).alloc (.cells #[.int .i8 tk, .int .i64 tn, .string ts, .string tu, .slice TA TL.length tc] 44) := ⟨_, rfl⟩
  rw [← hW2] at g0 g1 b2
  have HB2 := Lib.hid b2
  have HG0 := Lib.hid g0
  have HG1 := Lib.hid g1
  have HR := Lib.hid hR
  have HRP := Lib.hid hRP
  have HRT := Lib.hid hRT
  have HT := Lib.hid hT
  have HC := Lib.hid hc
  have HOK := Lib.hid hok
  have HSS := Lib.hid hss
  have HMANY : Hid (l.length + (Tm.mk 5 n s u ps).nodes ≤ 500000) := hmany
  have hml := hR.max
  unfold maxLen at hml
  obtain ⟨x0, x1, x2, x3, x4⟩ := five_of g0
  obtain ⟨y0, y1, y2, y3, y4⟩ := five_of g1
  rw [goP_var] at hRR
  have HRR := Lib.hid hRR
  clear g0 g1 b2 hP hT hR hc hok hmany hRP hRT hss hRR
  have hte : (s.toList == [95]) = (s.data.toList == [95]) := by rw [ByteArray.toList_eq]
  by_cases h1 : s.data.toList = [95]
  · have HRES : Hid (RR = some l) := HRR.out.trans (if_pos h1)
    have hb : (s.toList == [95]) = true := by rw [hte, h1]; rfl
    clear h1 hte
    go_enter Tryz.func72, Tryz.ntmps72
    go_upto_region 1 with fail
    rw [← hW2]
    clear hW2
    go_wp2_with fail
    refine bodyPost_ret (v := .tuple #[.slice A l.length cap, .bool true]) (by simp [results, Tryz.f72, go_sem]) rfl ?_
    refine ⟨_, _, _, by rw [HRES.out]; rfl, fun l' hl' => ?_, HB2.out⟩
    rw [HRES.out] at hl'
    cases hl'; exact HR.out.later HB2.out
  have hb : (s.toList == [95]) = false := by rw [hte]; exact beq_eq_false_iff_ne.2 h1
  have HRES0 := Lib.hid (HRR.out.trans (if_neg h1))
  clear h1 hte HRR
  have HFI := Lib.hid (rFind10_any W.heap.size W.heap.size l s A l.length cap W2 (HR.out.brt.under HB2.out (Nat.le_refl _)) HB2.out.size)
  obtain ⟨FB, hFB⟩ : ∃ r, r = findB l s := ⟨_, rfl⟩
  rw [← hFB] at HRES0 HFI
  have HFB := Lib.hid hFB
  clear hFB
  go_enter Tryz.func72, Tryz.ntmps72
  go_upto_region 1 with fail
  rw [← hW2]
  clear hW2
  go_wp2_with fail
  refine HFI.out.mono ?_
  rintro e W3 ⟨k9, n9, s9, t9, A9, m9, c9, rfl, hy, hno, b3⟩
  clear hno HFI
  obtain ⟨W4, hW4⟩ : ∃ w, w = W3.alloc (.cells #[.int .i8 k9, .int .i64 n9, .string s9, .string t9, .slice A9 m9 c9] 44) := ⟨_, rfl⟩
  obtain ⟨g4, hg4⟩ : ∃ g, g = W3.heap.size := ⟨_, rfl⟩
  have b4 : Below W3.heap.size W3 W4 := by rw [hW4]; exact (Below.refl _ _).alloc (Nat.le_refl _) _
  have HG4 : Hid (W4.heap[g4]? = some (.cells #[.int .i8 k9, .int .i64 n9, .string s9, .string t9, .slice A9 m9 c9] 44 (0, 0))) := Lib.hid (by rw [hW4, hg4]; exact block_alloc _ _)
  have b24 := b3.trans (b4.mono b3.size)
  have HB4 := Lib.hid (HB2.out.trans (b24.mono HB2.out.size))
  have HG0' := Lib.hid ((b24.block _ (heap_lt HG0.out)).trans HG0.out)
  have HG1' := Lib.hid ((b24.block _ (heap_lt HG1.out)).trans HG1.out)
  have HY : Hid (∀ x, FB = some x → TmAt (· < W4.heap.size) W4 x (.agg #[.int .i8 k9, .int .i64 n9, .string s9, .string t9, .slice A9 m9 c9])) := Lib.hid (fun x hx => ((hy x hx).mono (Q := (· < W3.heap.size)) (fun q hq => by show q < _; have := HB2.out.size; have := b3.size; rcases hq with h | h <;> omega)).later b4)
  have HT4 := Lib.hid (HT.out.later HB4.out)
  clear hy b3 b4 b24 x0 x1 x2 x3 x4 y0 y1 y2 y3 y4
  cases FB with
  | some x =>
    have HXV : Hid (checkN x = 0) := HOK.out _ (findB_mem HFB.out.symm)
    have HRES : Hid (RR = if ordN x (.mk tk tn ts tu TL) = 0 then some l else none) := HRES0.out
    have HS := Lib.hid (Same_any x _ _ _ W4 (HY.out x rfl) HT4.out)
    clear HFB HRES0 HY
    go_upto_region 6 with fail
    rw [← hW4, ← hg4]
    clear hW4 hg4
    obtain ⟨y0, y1, y2, y3, y4⟩ := five_of HG1'.out
    obtain ⟨z0, z1, z2, z3, z4⟩ := five_of HG4.out
    go_wp2_with fail
    refine HS.out.mono ?_
    rintro e W5 ⟨b, rfl, hbq, b5⟩
    have HF := Lib.hid (HB4.out.trans (b5.mono HB4.out.size))
    have HBQ := Lib.hid hbq
    clear b5 hbq y0 y1 y2 y3 y4 z0 z1 z2 z3 z4
    go_wp2_with fail
    refine bodyPost_ret (v := .tuple #[.slice A l.length cap, .bool b]) (by simp [results, Tryz.f72, go_sem]) rfl ?_
    have hv1 := (check_valid HXV.out).1
    have hv2 := (check_valid HC.out).1
    cases b with
    | true =>
      have he := HBQ.out.1 rfl
      have HR1 : RR = some l := by rw [HRES.out, he]; exact if_pos (ordN_self _)
      exact ⟨_, _, _, by rw [HR1]; rfl, fun l' hl' => by rw [HR1] at hl'; cases hl'; exact HR.out.later HF.out, HF.out⟩
    | false =>
      have hne : ordN x (.mk tk tn ts tu TL) ≠ 0 := fun h => by
        have h2 := HBQ.out.2 (ordN_zero _ _ hv1 hv2 h)
        cases h2
      have HR1 : RR = none := by rw [HRES.out]; exact if_neg hne
      exact ⟨_, _, _, by rw [HR1]; rfl, fun l' hl' => (by rw [HR1] at hl'; cases hl'), HF.out⟩
  | none =>
    have HRES : Hid (RR = some (l ++ [(s, .mk tk tn ts tu TL)])) := HRES0.out
    have HP0 : Hid (∀ b, b < W.heap.size → b < W4.heap.size) := fun b hb => Nat.lt_of_lt_of_le hb HB4.out.size
    have HST := Lib.hid (StB.start W4 (· < W.heap.size))
    have HRB := Lib.hid ((HR.out.under HB4.out (Nat.le_refl _)).rowB)
    have HL : Hid (([] : List Bd).length + l.length ≤ 1000000) := by show _ ≤ _; have := HMANY.out; simp; omega
    clear HRES0 HY HFB
    go_upto_region 6 with fail
    rw [← hW4, ← hg4]
    clear hW4 hg4
    go_wp2_with (at_builtin; refine wpList_own_binds rfl (.tmp 34) (.tmp 35) rfl HST.out.own (Nat.le_refl _) (HST.out.apart HP0.out) rfl rfl HRB.out HL.out ?_)
    intro v5 W5 O hg hbl
    have HST5 := Lib.hid (HST.out.app O hg hbl)
    clear O hg hbl
    obtain ⟨A5, cap5, rfl⟩ := HST5.out.own.shape
    have hs5 := HST5.out
    try rw [List.nil_append] at hs5
    have HS5 := Lib.hid hs5
    clear hs5 HST5 HST
    have hr0 := (HS5.out.below.block _ (heap_lt HG0'.out)).trans HG0'.out
    have hr1 := (HS5.out.below.block _ (heap_lt HG1'.out)).trans HG1'.out
    obtain ⟨x0, x1, x2, x3, x4⟩ := five_of hr0
    obtain ⟨y0, y1, y2, y3, y4⟩ := five_of hr1
    clear hr0 hr1
    obtain ⟨W6, hW6⟩ : ∃ w, w = W5.alloc (.cells #[.string s, .int .i8 tk, .int .i64 tn, .string ts, .string tu, .slice TA TL.length tc] 61) := ⟨_, rfl⟩
    obtain ⟨g6, hg6⟩ : ∃ g, g = W5.heap.size := ⟨_, rfl⟩
    have HS6 := Lib.hid (HS5.out.alloc HP0.out (.cells #[.string s, .int .i8 tk, .int .i64 tn, .string ts, .string tu, .slice TA TL.length tc] 61))
    rw [← hW6] at HS6
    have HG6 : Hid (W6.heap[g6]? = some (.cells #[.string s, .int .i8 tk, .int .i64 tn, .string ts, .string tu, .slice TA TL.length tc] 61 (0, 0))) := Lib.hid (by rw [hW6, hg6]; exact block_alloc _ _)
    have HRO : Hid (RowB (· < W.heap.size) W6 (some ⟨g6, 0, none⟩) 1 [(s, .mk tk tn ts tu TL)]) := Lib.hid (RowB.one HG6.out HSS.out (HT.out.keep (Q := (· < W.heap.size)) (fun b hb => (HB4.out.trans (HS6.out.below.mono HB4.out.size)).block b hb) (fun b hb => hb)))
    have HL2 : Hid (l.length + [(s, Tm.mk tk tn ts tu TL)].length ≤ 1000000) := by show _ ≤ _; have := HMANY.out; simp; omega
    go_wp2_with (at_builtin; rw [← hW6, ← hg6]; clear hW6 hg6; refine wpList_own_binds rfl (.tmp 37) (.tmp 42) rfl HS6.out.own HS6.out.below.size (HS6.out.apart HP0.out) rfl rfl HRO.out HL2.out ?_)
    intro v7 W7 O hg hbl
    have HS7 := Lib.hid (HS6.out.app O hg hbl)
    clear O hg hbl
    obtain ⟨L7, hL7⟩ : ∃ L, L = l ++ [(s, Tm.mk tk tn ts tu TL)] := ⟨_, rfl⟩
    rw [← hL7] at HS7 HRES
    obtain ⟨A7, cap7, rfl⟩ := HS7.out.own.shape
    clear x0 x1 x2 x3 x4 y0 y1 y2 y3 y4
    have HF := Lib.hid (HB4.out.trans (HS7.out.below.mono HB4.out.size))
    have HBR := Lib.hid (HS7.out.own.brow (Q := (· < W7.heap.size)) (fun b hb => Nat.lt_of_lt_of_le hb HF.out.size) (fun b _ h => h))
    go_wp2_with fail
    refine bodyPost_ret (v := .tuple #[.slice A7 L7.length cap7, .bool true]) (by simp [results, Tryz.f72, go_sem]) rfl ?_
    refine ⟨_, _, _, by rw [HRES.out]; rfl, fun l' hl' => ?_, HF.out⟩
    rw [HRES.out] at hl'
    cases hl'; exact HBR.out
end Go.Proofs.YtkceoiaaiaomoaaGreatDoor
