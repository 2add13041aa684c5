/- The law MatchFill's walk. -/
import Derived.Test.YtkceoiaaiaomoaaGreatDoorKMt21
import Derived.Test.YtkceoiaaiaomoaaGreatDoorKGd18
import Derived.Deep.DeepCutAuto
import Derived.Tactics2
set_option linter.unusedVariables false
set_option linter.unusedSimpArgs false
namespace Go.Proofs.YtkceoiaaiaomoaaGreatDoor
open Go.RowKit

theorem allL_lenF (p t : Tm) (l : List Bd) : (allL [p] [t] l).length ≤ l.length + p.nodes := by
  unfold allL
  split
  · rw [one_go]
    cases h : goP p t l with
    | none => show l.length ≤ _; omega
    | some l' => exact goP_len _ _ _ _ h
  · simp
theorem fill_zero {p : Tm} {l : List Bd} (h : fillE p l = 0) : filOk p l = true ∧ gvT l p = some (fillV p l) := by
  unfold fillE at h
  split at h
  · rename_i hk
    refine ⟨hk, ?_⟩
    unfold fillV
    rw [if_pos hk]
    cases hg : gvT l p with
    | none => exact absurd h (fil_no hg)
    | some x => rfl
  · cases h
theorem fok_parts {p : Tm} {l : List Bd} (h : filOk p l = true) : fitsB p = true ∧ patB p = true ∧ may10 l = true := by
  unfold filOk patOk at h
  simp only [Bool.and_eq_true] at h
  exact ⟨h.1.1, h.1.2, h.2⟩
theorem fill_match {p : Tm} {l : List Bd} (h : fillE p l = 0) : allE [p] [fillV p l] l = 0 ∧ allB [p] [fillV p l] l = true ∧ allL [p] [fillV p l] l = l := by
  obtain ⟨hk, hg⟩ := fill_zero h
  obtain ⟨hf, hp, hm⟩ := fok_parts hk
  have hc := gv_check hg (may10_mayL hm) (pat_gua p hp)
  have hok : allOk10 [p] [fillV p l] l = true := by
    rw [one_ok, hc, hm]
    unfold patOk
    rw [hf, hp]; rfl
  obtain ⟨h1, h2, h3⟩ := all_yes hok
  rw [h1, h2, h3, one_go, fill_goes l p hp _ hg]
  exact ⟨rfl, rfl, rfl⟩
theorem match_yes {p t : Tm} {l : List Bd} (h : allE [p] [t] l = 0) (hb : allB [p] [t] l = true) :
    goP p t l = some (allL [p] [t] l) ∧ fitsB p = true ∧ patB p = true ∧ checkN t = 0 ∧ may10 l = true := by
  have hok := allE_zero h
  obtain ⟨-, h2, h3⟩ := all_yes hok
  rw [h2, one_go] at hb
  rw [one_ok] at hok
  unfold patOk at hok
  simp only [Bool.and_eq_true, beq_iff_eq] at hok
  refine ⟨?_, hok.1.1, hok.1.2, hok.2.1, hok.2.2⟩
  rw [h3, one_go]
  cases hg : goP p t l with
  | none => rw [hg] at hb; cases hb
  | some l' => rfl
theorem match_more {p t : Tm} {l L : List Bd} (hg : goP p t l = some L) (hf : fitsB p = true) (hp : patB p = true) (ht : checkN t = 0) (hm : may10 l = true) (h64 : L.length ≤ 64) :
    may10 L = true ∧ allE [p] [t] L = 0 ∧ allB [p] [t] L = true ∧ allL [p] [t] L = L := by
  obtain ⟨⟨ex, hx, hex⟩, hag⟩ := again_any p hp t l L hg ht
  have hm2 : may10 L = true := by
    unfold may10 at hm ⊢
    rw [Bool.and_eq_true, List.all_eq_true] at hm
    rw [Bool.and_eq_true, List.all_eq_true]
    refine ⟨by simpa using h64, fun b hb => ?_⟩
    rw [hx] at hb
    rcases List.mem_append.1 hb with hb | hb
    · exact hm.2 b hb
    · exact hex b hb
  have hok : allOk10 [p] [t] L = true := by
    rw [one_ok, ht, hm2]
    unfold patOk
    rw [hf, hp]; rfl
  obtain ⟨h1, h2, h3⟩ := all_yes hok
  have h4 := hag []
  rw [List.append_nil] at h4
  rw [h1, h2, h3, one_go, h4]
  exact ⟨hm2, rfl, rfl, rfl⟩
theorem fill_two {p : Tm} {l : List Bd} {y : Tm} (hf : fitsB p = true) (hp : patB p = true) (hm : may10 l = true) (hy : y ∈ p.pre) (h5 : y.k = 5) (hu : y.s.data.toList = [95]) : fillE p l = 2 := by
  have hk : filOk p l = true := by unfold filOk patOk; rw [hf, hp, hm]; rfl
  unfold fillE
  rw [if_pos hk, fil_two]
  unfold bndB
  rw [List.all_eq_false]
  refine ⟨y, hy, ?_⟩
  rw [if_pos h5]
  unfold varT
  rw [if_pos hu]
  simp
theorem fill_back {p t : Tm} {l L : List Bd} (hg : goP p t l = some L) (hf : fitsB p = true) (hp : patB p = true) (ht : checkN t = 0) (hm : may10 l = true) (hm2 : may10 L = true) (hna : NoAny p) : fillE p L = 0 ∧ fillV p L = t := by
  have hk : filOk p L = true := by unfold filOk patOk; rw [hf, hp, hm2]; rfl
  have h := back_any p hp t l L hg ht (may10_len hm).2 hna []
  rw [List.append_nil] at h
  unfold fillE fillV
  rw [if_pos hk, if_pos hk, fil_ok h, h]
  exact ⟨rfl, rfl⟩
set_option maxHeartbeats 16000000 in
set_option maxRecDepth 100000 in
theorem walk_MatchFill (v0 v1 v2 : Value) (w : World) (o0 : ∃ t, TmAt (· < w.heap.size) w t v0) (o1 : ∃ t, TmAt (· < w.heap.size) w t v1) (o2 : ∃ A n cap l, v2 = .slice A n cap ∧ BRow (· < w.heap.size) w A n cap l) (hE : Env7 w) :
    Calls Tryz.prog 6 #[v0, v1, v2] w fun e w' => e = .returned (.bool true) ∧ Below w.heap.size w w' := by
  obtain ⟨p, hP⟩ := o0
  obtain ⟨t, hT⟩ := o1
  obtain ⟨A, m, cap, l, rfl, hR⟩ := o2
  obtain rfl := hR.len
  obtain ⟨xk, xn, xs, xu, xA, xm, xc, rfl⟩ : ∃ k n s t A m c, v0 = .agg #[.int .i8 k, .int .i64 n, .string s, .string t, .slice A m c] := by cases hP; exact ⟨_, _, _, _, _, _, _, rfl⟩
  obtain ⟨yk, yn, ys, yu, yA, ym, yc, rfl⟩ : ∃ k n s t A m c, v1 = .agg #[.int .i8 k, .int .i64 n, .string s, .string t, .slice A m c] := by cases hT; exact ⟨_, _, _, _, _, _, _, rfl⟩
  have g0 := there_of (.cells #[.int .i8 yk, .int .i64 yn, .string ys, .string yu, .slice yA ym yc] 44) (block_alloc w (.cells #[.int .i8 xk, .int .i64 xn, .string xs, .string xu, .slice xA xm xc] 25))
  have g1 := block_alloc (w.alloc (.cells #[.int .i8 xk, .int .i64 xn, .string xs, .string xu, .slice xA xm xc] 25)) (.cells #[.int .i8 yk, .int .i64 yn, .string ys, .string yu, .slice yA ym yc] 44)
  rw [World.size_alloc] at g1
  have b2 : Below w.heap.size w ((w.alloc (.cells #[.int .i8 xk, .int .i64 xn, .string xs, .string xu, .slice xA xm xc] 25)).alloc (.cells #[.int .i8 yk, .int .i64 yn, .string ys, .string yu, .slice yA ym yc] 44)) := ((Below.refl _ w).alloc (Nat.le_refl _) _).alloc (by simp) _
  obtain ⟨w1, hw1⟩ : ∃ W2, W2 = (w.alloc (.cells #[.int .i8 xk, .int .i64 xn, .string xs, .string xu, .slice xA xm xc] 25)).alloc (.cells #[.int .i8 yk, .int .i64 yn, .string ys, .string yu, .slice yA ym yc] 44) := ⟨_, rfl⟩
  rw [← hw1] at g0 g1 b2
  have HB1 := Lib.hid b2
  have HG1 := Lib.hid g0
  have HH1 := Lib.hid g1
  have HP : Hid (∀ V, Below w.heap.size w V → TmAt (· < V.heap.size) V p (.agg #[.int .i8 xk, .int .i64 xn, .string xs, .string xu, .slice xA xm xc])) := fun V hb => hP.laterN hb
  have HT : Hid (∀ V, Below w.heap.size w V → TmAt (· < V.heap.size) V t (.agg #[.int .i8 yk, .int .i64 yn, .string ys, .string yu, .slice yA ym yc])) := fun V hb => hT.later hb
  have HR : Hid (∀ V, Below w.heap.size w V → BRow (· < V.heap.size) V A l.length cap l) := fun V hb => hR.later hb
  have HE : Hid (∀ V, Below w.heap.size w V → Env7 V) := fun V hb => hE.under hb
  have hml := hR.max
  unfold maxLen at hml
  obtain ⟨x0, x1, x2, x3, x4⟩ := five_of g0
  obtain ⟨y0, y1, y2, y3, y4⟩ := five_of g1
  clear g0 g1 b2 hP hT hR hE
  go_enter Tryz.func6, Tryz.ntmps6
  go_upto_region 1 with fail
  rw [← hw1]
  clear hw1
  go_wp2_with fail
  refine (GreatN_any p _ w1 (HP.out w1 HB1.out)).mono ?_
  rintro e w2 ⟨q, rfl, hq, b⟩
  have HB2 := Lib.hid (HB1.out.trans (b.mono HB1.out.size))
  have HG2 := Lib.hid ((b.block _ (heap_lt HG1.out)).trans HG1.out)
  have HH2 := Lib.hid ((b.block _ (heap_lt HH1.out)).trans HH1.out)
  clear b x0 x1 x2 x3 x4 y0 y1 y2 y3 y4
  obtain ⟨x0, x1, x2, x3, x4⟩ := five_of HG2.out
  obtain ⟨y0, y1, y2, y3, y4⟩ := five_of HH2.out
  cases q with
  | true =>
    clear hq
    go_wp2_with fail
    refine (wakes10_any w2 (HE.out w2 HB2.out)).mono ?_
    rintro e w99 ⟨rfl, b9⟩
    have HF := Lib.hid (HB2.out.trans (b9.mono HB2.out.size))
    clear b9
    go_wp2_with fail
    go_ret
    exact ⟨rfl, HF.out⟩
  | false =>
  have HN : Hid (p.nodes ≤ 8200) := by have := hq rfl; show _ ≤ _; omega
  clear hq
  go_wp2_with fail
  refine (Great_any t _ w2 (HT.out w2 HB2.out)).mono ?_
  rintro e w3 ⟨q, rfl, hq, b⟩
  have HB3 := Lib.hid (HB2.out.trans (b.mono HB2.out.size))
  have HG3 := Lib.hid ((b.block _ (heap_lt HG2.out)).trans HG2.out)
  have HH3 := Lib.hid ((b.block _ (heap_lt HH2.out)).trans HH2.out)
  clear b x0 x1 x2 x3 x4 y0 y1 y2 y3 y4
  obtain ⟨x0, x1, x2, x3, x4⟩ := five_of HG3.out
  obtain ⟨y0, y1, y2, y3, y4⟩ := five_of HH3.out
  cases q with
  | true =>
    clear hq
    go_wp2_with fail
    refine (wakes10_any w3 (HE.out w3 HB3.out)).mono ?_
    rintro e w99 ⟨rfl, b9⟩
    have HF := Lib.hid (HB3.out.trans (b9.mono HB3.out.size))
    clear b9
    go_wp2_with fail
    go_ret
    exact ⟨rfl, HF.out⟩
  | false =>
  clear hq
  go_wp2_with fail
  refine (Great10_any l A l.length cap w3 (HR.out w3 HB3.out)).mono ?_
  rintro e w4 ⟨⟨q, rfl, hq⟩, b⟩
  have HB4 := Lib.hid (HB3.out.trans (b.mono HB3.out.size))
  have HG4 := Lib.hid ((b.block _ (heap_lt HG3.out)).trans HG3.out)
  have HH4 := Lib.hid ((b.block _ (heap_lt HH3.out)).trans HH3.out)
  clear b x0 x1 x2 x3 x4 y0 y1 y2 y3 y4
  obtain ⟨x0, x1, x2, x3, x4⟩ := five_of HG4.out
  obtain ⟨y0, y1, y2, y3, y4⟩ := five_of HH4.out
  cases q with
  | true =>
    clear hq
    go_wp2_with fail
    refine (wakes10_any w4 (HE.out w4 HB4.out)).mono ?_
    rintro e w99 ⟨rfl, b9⟩
    have HF := Lib.hid (HB4.out.trans (b9.mono HB4.out.size))
    clear b9
    go_wp2_with fail
    go_ret
    exact ⟨rfl, HF.out⟩
  | false =>
  have HLL : Hid (l.length ≤ 200) := hq rfl
  clear hq
  have hf0 := fun W h1 h2 h4 => Fill_any p l (.agg #[.int .i8 xk, .int .i64 xn, .string xs, .string xu, .slice xA xm xc]) A l.length cap W h1 h2 HN.out h4
  have hz0 := fun h => fill_match (p := p) (l := l) h
  obtain ⟨EF, hEF⟩ : ∃ x, x = fillE p l := ⟨_, rfl⟩
  obtain ⟨VF, hVF⟩ : ∃ x, x = fillV p l := ⟨_, rfl⟩
  rw [← hEF, ← hVF] at hf0 hz0
  have HF0 := Lib.hid hf0
  have HZ0 := Lib.hid hz0
  clear hf0 hz0 hEF hVF
  go_wp2_with fail
  refine (HF0.out w4 (HP.out w4 HB4.out) (HR.out w4 HB4.out) (HE.out w4 HB4.out)).mono ?_
  rintro e w5 ⟨k7, n7, s7, t7, A7, m7, c7, rfl, hv, b⟩
  obtain ⟨w6, hw6⟩ : ∃ W, W = w5.alloc (.cells #[.int .i8 k7, .int .i64 n7, .string s7, .string t7, .slice A7 m7 c7] 44) := ⟨_, rfl⟩
  obtain ⟨g7, hg7⟩ : ∃ g, g = w5.heap.size := ⟨_, rfl⟩
  have b' : Below w5.heap.size w5 w6 := by rw [hw6]; exact (Below.refl _ _).alloc (Nat.le_refl _) _
  have HQ7 : Hid (w6.heap[g7]? = some (.cells #[.int .i8 k7, .int .i64 n7, .string s7, .string t7, .slice A7 m7 c7] 44 (0, 0))) := Lib.hid (by rw [hw6, hg7]; exact block_alloc _ _)
  have HY7 := Lib.hid (hv.later b')
  have b3 := b.trans (b'.mono b.size)
  clear hv b b'
  have HB6 := Lib.hid (HB4.out.trans (b3.mono HB4.out.size))
  have HG6 := Lib.hid ((b3.block _ (heap_lt HG4.out)).trans HG4.out)
  have HH6 := Lib.hid ((b3.block _ (heap_lt HH4.out)).trans HH4.out)
  clear b3 x0 x1 x2 x3 x4 y0 y1 y2 y3 y4
  obtain ⟨x0, x1, x2, x3, x4⟩ := five_of HG6.out
  obtain ⟨y0, y1, y2, y3, y4⟩ := five_of HH6.out
  obtain ⟨z0, z1, z2, z3, z4⟩ := five_of HQ7.out
  go_upto_region 4 with fail
  rw [← hw6, ← hg7]
  clear hw6 hg7
  by_cases hE0 : EF = 0
  case neg =>
    have hn0 : (EF == 0) = false := beq_eq_false_iff_ne.2 hE0
    clear hE0 z0 z1 z2 z3 z4
    have hmt := fun W h1 h2 h3 h4 => Match10_any p t l (.agg #[.int .i8 xk, .int .i64 xn, .string xs, .string xu, .slice xA xm xc]) (.agg #[.int .i8 yk, .int .i64 yn, .string ys, .string yu, .slice yA ym yc]) A l.length cap W h1 h2 h3 HN.out h4
    have hyes := fun h1 h2 => match_yes (p := p) (t := t) (l := l) h1 h2
    have hlen := allL_lenF p t l
    obtain ⟨E1, hE1⟩ : ∃ x, x = allE [p] [t] l := ⟨_, rfl⟩
    obtain ⟨B1, hB1⟩ : ∃ x, x = allB [p] [t] l := ⟨_, rfl⟩
    obtain ⟨L1, hL1⟩ : ∃ x, x = allL [p] [t] l := ⟨_, rfl⟩
    rw [← hE1, ← hB1, ← hL1] at hmt
    rw [← hE1, ← hB1, ← hL1] at hyes
    rw [← hL1] at hlen
    have HMT := Lib.hid hmt
    have HYES := Lib.hid hyes
    have HLEN := Lib.hid hlen
    clear hmt hyes hlen hE1 hB1 hL1
    go_wp2_with fail
    refine (HMT.out w6 (HP.out w6 HB6.out) (HT.out w6 HB6.out) (HR.out w6 HB6.out) (HE.out w6 HB6.out)).mono ?_
    rintro e w9 ⟨A12, n12, c12, rfl, hr12, b⟩
    have HR12 := Lib.hid hr12
    clear hr12
    have HB9 := Lib.hid (HB6.out.trans (b.mono HB6.out.size))
    have HG9 := Lib.hid ((b.block _ (heap_lt HG6.out)).trans HG6.out)
    have HH9 := Lib.hid ((b.block _ (heap_lt HH6.out)).trans HH6.out)
    clear b x0 x1 x2 x3 x4 y0 y1 y2 y3 y4
    obtain ⟨x0, x1, x2, x3, x4⟩ := five_of HG9.out
    obtain ⟨y0, y1, y2, y3, y4⟩ := five_of HH9.out
    by_cases hE1 : E1 = 0
    case neg =>
      have hn1 : (E1 != 0) = true := by simpa using hE1
      clear hE1
      go_wp2_with fail
      refine (wakes10_any w9 (HE.out w9 HB9.out)).mono ?_
      rintro e w99 ⟨rfl, b9⟩
      have HF := Lib.hid (HB9.out.trans (b9.mono HB9.out.size))
      clear b9
      go_wp2_with fail
      go_ret
      exact ⟨rfl, HF.out⟩
    have hn1 : (E1 != 0) = false := by simpa using hE1
    cases B1 with
    | false =>
      clear hE1
      go_wp2_with fail
      refine (wakes10_any w9 (HE.out w9 HB9.out)).mono ?_
      rintro e w99 ⟨rfl, b9⟩
      have HF := Lib.hid (HB9.out.trans (b9.mono HB9.out.size))
      clear b9
      go_wp2_with fail
      go_ret
      exact ⟨rfl, HF.out⟩
    | true =>
    obtain ⟨hgo, hfit, hpat, hct, hmy⟩ := HYES.out hE1 rfl
    obtain ⟨⟨ex, hx, -⟩, -⟩ := again_any p hpat t l L1 hgo hct
    have HGO := Lib.hid hgo
    have HFIT := Lib.hid hfit
    have HPAT := Lib.hid hpat
    have HCT := Lib.hid hct
    have HMY := Lib.hid hmy
    have HX := Lib.hid hx
    have hl1 : L1.length = l.length + ex.length := by rw [hx, List.length_append]
    have hn12 := HR12.out.len
    have hc12 := HR12.out.cap
    have hbnd : n12 ≤ 8400 := by have h1 := HLEN.out; have h2 := HN.out; have h3 := HLL.out; omega
    have hle : ¬ (n12 : Int) < (l.length : Int) := by omega
    have hle2 : (l.length : Int) ≤ (n12 : Int) := by omega
    have hle3 : (l.length : Int) ≤ (c12 : Int) := by omega
    have HTK := Lib.hid (HR12.out.take l.length c12 (by omega) (by omega))
    have HTE : Hid (L1.take l.length = l) := by show _ = _; rw [hx, List.take_left]
    have HN12 : Hid (L1.length = n12) := hn12
    clear hE1 hgo hfit hpat hct hmy hx hl1 hn12
    go_wp2_with fail
    refine (Same10_any (L1.take l.length) l A12 l.length c12 A l.length cap w9 (by rw [HTE.out]; have h := HTK.out; rw [HTE.out] at h; exact h) (HR.out w9 HB9.out)).mono ?_
    rintro e w10 ⟨b, rfl, hb, b10⟩
    obtain rfl : b = true := hb.2 HTE.out
    have HR12' := Lib.hid (HR12.out.later b10)
    clear hb
    have HB10 := Lib.hid (HB9.out.trans (b10.mono HB9.out.size))
    have HG10 := Lib.hid ((b10.block _ (heap_lt HG9.out)).trans HG9.out)
    have HH10 := Lib.hid ((b10.block _ (heap_lt HH9.out)).trans HH9.out)
    clear b10 x0 x1 x2 x3 x4 y0 y1 y2 y3 y4
    obtain ⟨x0, x1, x2, x3, x4⟩ := five_of HG10.out
    obtain ⟨y0, y1, y2, y3, y4⟩ := five_of HH10.out
    by_cases h64 : n12 ≤ 64
    case neg =>
      have h65 : (64 : Int) < (n12 : Int) := by omega
      clear h64
      go_wp2_with fail
      refine (wakes10_any w10 (HE.out w10 HB10.out)).mono ?_
      rintro e w99 ⟨rfl, b9⟩
      have HF := Lib.hid (HB10.out.trans (b9.mono HB10.out.size))
      clear b9
      go_wp2_with fail
      go_ret
      exact ⟨rfl, HF.out⟩
    have h65 : ¬ (64 : Int) < (n12 : Int) := by omega
    obtain ⟨hm2, q1, q2, q3⟩ := match_more HGO.out HFIT.out HPAT.out HCT.out HMY.out (by rw [HN12.out]; exact h64)
    have hmt := fun W h1 h2 h3 h4 => Match10_any p t L1 (.agg #[.int .i8 xk, .int .i64 xn, .string xs, .string xu, .slice xA xm xc]) (.agg #[.int .i8 yk, .int .i64 yn, .string ys, .string yu, .slice yA ym yc]) A12 n12 c12 W h1 h2 h3 HN.out h4
    rw [q1, q2, q3] at hmt
    have HMT2 := Lib.hid hmt
    have HM2 := Lib.hid hm2
    clear hm2 q1 q2 q3 hmt h64
    go_wp2_with fail
    refine (HMT2.out w10 (HP.out w10 HB10.out) (HT.out w10 HB10.out) HR12'.out (HE.out w10 HB10.out)).mono ?_
    rintro e w11 ⟨A15, n15, c15, rfl, hr15, b⟩
    have HR15 := Lib.hid hr15
    have HRC := Lib.hid (HR12'.out.later b)
    clear hr15
    have HB11 := Lib.hid (HB10.out.trans (b.mono HB10.out.size))
    have HG11 := Lib.hid ((b.block _ (heap_lt HG10.out)).trans HG10.out)
    have HH11 := Lib.hid ((b.block _ (heap_lt HH10.out)).trans HH10.out)
    clear b x0 x1 x2 x3 x4 y0 y1 y2 y3 y4
    obtain ⟨x0, x1, x2, x3, x4⟩ := five_of HG11.out
    obtain ⟨y0, y1, y2, y3, y4⟩ := five_of HH11.out
    go_wp2_with fail
    refine (Same10_any L1 L1 A15 n15 c15 A12 n12 c12 w11 HR15.out HRC.out).mono ?_
    rintro e w12 ⟨b, rfl, hb, b12⟩
    obtain rfl : b = true := hb.2 rfl
    have HRD := Lib.hid (HRC.out.later b12)
    clear hb
    have HB12 := Lib.hid (HB11.out.trans (b12.mono HB11.out.size))
    have HG12 := Lib.hid ((b12.block _ (heap_lt HG11.out)).trans HG11.out)
    have HH12 := Lib.hid ((b12.block _ (heap_lt HH11.out)).trans HH11.out)
    clear b12 x0 x1 x2 x3 x4 y0 y1 y2 y3 y4
    obtain ⟨x0, x1, x2, x3, x4⟩ := five_of HG12.out
    obtain ⟨y0, y1, y2, y3, y4⟩ := five_of HH12.out
    have hf1 := fun W h1 h2 h4 => Fill_any p L1 (.agg #[.int .i8 xk, .int .i64 xn, .string xs, .string xu, .slice xA xm xc]) A12 n12 c12 W h1 h2 HN.out h4
    have hback := fun hna => fill_back HGO.out HFIT.out HPAT.out HCT.out HMY.out HM2.out hna
    have htwo := fun y hy h5 hu => fill_two (y := y) HFIT.out HPAT.out HM2.out hy h5 hu
    obtain ⟨EG, hEG⟩ : ∃ x, x = fillE p L1 := ⟨_, rfl⟩
    obtain ⟨VG, hVG⟩ : ∃ x, x = fillV p L1 := ⟨_, rfl⟩
    rw [← hEG, ← hVG] at hf1 hback
    rw [← hEG] at htwo
    have HF1 := Lib.hid hf1
    have HBACK := Lib.hid hback
    have HTWO := Lib.hid htwo
    clear hf1 hback htwo hEG hVG
    go_wp2_with fail
    refine (HF1.out w12 (HP.out w12 HB12.out) HRD.out (HE.out w12 HB12.out)).mono ?_
    rintro e w13 ⟨k8, n8, s8, t8, A8, m8, c8, rfl, hv, b⟩
    obtain ⟨w14, hw14⟩ : ∃ W, W = w13.alloc (.cells #[.int .i8 k8, .int .i64 n8, .string s8, .string t8, .slice A8 m8 c8] 44) := ⟨_, rfl⟩
    obtain ⟨g8, hg8⟩ : ∃ g, g = w13.heap.size := ⟨_, rfl⟩
    have b' : Below w13.heap.size w13 w14 := by rw [hw14]; exact (Below.refl _ _).alloc (Nat.le_refl _) _
    have HQ8 : Hid (w14.heap[g8]? = some (.cells #[.int .i8 k8, .int .i64 n8, .string s8, .string t8, .slice A8 m8 c8] 44 (0, 0))) := Lib.hid (by rw [hw14, hg8]; exact block_alloc _ _)
    have HY8 := Lib.hid (hv.later b')
    have b3 := b.trans (b'.mono b.size)
    clear hv b b'
    have HB14 := Lib.hid (HB12.out.trans (b3.mono HB12.out.size))
    have HG14 := Lib.hid ((b3.block _ (heap_lt HG12.out)).trans HG12.out)
    have HH14 := Lib.hid ((b3.block _ (heap_lt HH12.out)).trans HH12.out)
    clear b3 x0 x1 x2 x3 x4 y0 y1 y2 y3 y4
    obtain ⟨x0, x1, x2, x3, x4⟩ := five_of HG14.out
    obtain ⟨y0, y1, y2, y3, y4⟩ := five_of HH14.out
    go_upto_region 17 with fail
    rw [← hw14, ← hg8]
    clear hw14 hg8
    go_wp2_with fail
    refine (rWalk_any p (· < w14.heap.size) _ 4097 w14 (HP.out w14 HB14.out) (fun _ h => h) (by decide) (by decide)).mono ?_
    rintro e w15 ⟨WA, wcap, rfl, hw, b15⟩
    have htr := (hw.trow (Q := (· < w15.heap.size)) (fun b hb => Nat.lt_of_lt_of_le hb b15.size) (fun b _ h _ => h)).2
    have hnl : p.pre.take 4097 = p.pre := by
      have h := HFIT.out
      unfold fitsB at h
      have h2 := (of_decide_eq_true h).1
      exact List.take_of_length_le (by show p.nodes ≤ _; omega)
    rw [hnl] at htr ⊢
    have HTR := Lib.hid htr
    have HY9 := Lib.hid (HY8.out.later b15)
    have HQ9 := Lib.hid ((b15.block _ (heap_lt HQ8.out)).trans HQ8.out)
    have hpl := htr.max
    unfold maxLen at hpl
    clear hw htr hnl
    have HB15 := Lib.hid (HB14.out.trans (b15.mono HB14.out.size))
    have HG15 := Lib.hid ((b15.block _ (heap_lt HG14.out)).trans HG14.out)
    have HH15 := Lib.hid ((b15.block _ (heap_lt HH14.out)).trans HH14.out)
    clear b15 x0 x1 x2 x3 x4 y0 y1 y2 y3 y4
    obtain ⟨x0, x1, x2, x3, x4⟩ := five_of HG15.out
    obtain ⟨y0, y1, y2, y3, y4⟩ := five_of HH15.out
    clear x0 x1 x2 x3 x4 y0 y1 y2 y3 y4
    obtain ⟨PL, hPL⟩ : ∃ L, L = p.pre := ⟨_, rfl⟩
    have HPL := Lib.hid hPL
    rw [← hPL] at HTR hpl ⊢
    clear hPL
    go_wp2_with fail
    go_loopw [21] (fun i wr => ∃ j : Nat, j ≤ PL.length ∧ i = .int .i64 j ∧ wr = w15 ∧ Hid (∀ y ∈ PL.take j, y.k = 5 → ¬ y.s.data.toList = [95])) (fun i _ => PL.length - (intOf i).toNat)
    case atStart => exact ⟨0, Nat.zero_le _, rfl, rfl, Lib.hid (fun y hy => by simp at hy)⟩
    case round =>
      obtain ⟨j, hj, rfl, rfl, HNA⟩ := hrel
      by_cases hlt : j < PL.length
      case neg =>
        obtain rfl : j = PL.length := by omega
        have hna : NoAny p := fun y hy h5 => by
          have h := HNA.out y (by rw [List.take_length, HPL.out]; exact hy) h5
          exact h
        obtain ⟨q1, q2⟩ := HBACK.out hna
        subst q1
        have HYT := Lib.hid HY9.out
        rw [q2] at HYT
        clear hna q2
        obtain ⟨z0, z1, z2, z3, z4⟩ := five_of HQ9.out
        obtain ⟨y0, y1, y2, y3, y4⟩ := five_of HH15.out
        go_wp2_with fail
        refine (Same_any t t _ _ wr HYT.out (HT.out wr HB15.out)).mono ?_
        rintro e w16 ⟨b, rfl, hb, b16⟩
        obtain rfl : b = true := hb.2 rfl
        have HB16 := Lib.hid (HB15.out.trans (b16.mono HB15.out.size))
        clear hb b16 z0 z1 z2 z3 z4 y0 y1 y2 y3 y4
        go_wp2_with fail
        refine (wakes10_any w16 (HE.out w16 HB16.out)).mono ?_
        rintro e w99 ⟨rfl, b9⟩
        have HF := Lib.hid (HB16.out.trans (b9.mono HB16.out.size))
        clear b9
        go_wp2_with fail
        go_ret
        exact ⟨rfl, HF.out⟩
      obtain ⟨y, hy⟩ : ∃ y, PL[j]? = some y := ⟨PL[j], List.getElem?_eq_getElem hlt⟩
      obtain ⟨ad, u, rfl, had, hEl, hTy⟩ := HTR.out.at_ j y hy
      have HMEM : Hid (y ∈ p.pre) := by have h := List.mem_of_getElem? hy; rw [HPL.out] at h; exact h
      have HTKJ : Hid (PL.take (j + 1) = PL.take j ++ [y]) := by show _ = _; rw [List.take_add_one, hy]; rfl
      obtain ⟨k', n', s', t', L', A', cap', hye, rfl⟩ : ∃ k' n' s' t' L' A' cap', y = Tm.mk k' n' s' t' L' ∧ u = .agg #[.int .i8 k', .int .i64 n', .string s', .string t', .slice A' L'.length cap'] := by
        cases hTy; exact ⟨_, _, _, _, _, _, _, rfl, rfl⟩
      obtain ⟨c0, c1, c2, c3, c4, hcc, e0, e1, e2, e3, e4⟩ := hEl
      simp only [Value.agg.injEq, Array.mk.injEq, List.cons.injEq, and_true] at hcc
      obtain ⟨rfl, rfl, rfl, rfl, rfl⟩ := hcc
      have HYK : Hid (y.k = k' ∧ y.s = s') := by rw [hye]; exact ⟨rfl, rfl⟩
      have hte : (s'.toList == [95]) = (s'.data.toList == [95]) := by rw [ByteArray.toList_eq]
      have i0 : (0 : Int) ≤ (j : Int) := by omega
      have i1 : (j : Int) < (PL.length : Int) := by omega
      clear hTy hy had hye
      have hgo : ∀ h : ¬ (k' = 5 ∧ s'.data.toList = [95]), Hid (∀ z ∈ PL.take (j + 1), z.k = 5 → ¬ z.s.data.toList = [95]) := fun h => Lib.hid (fun z hz h5 => by
        rw [HTKJ.out] at hz
        rcases List.mem_append.1 hz with hz | hz
        · exact HNA.out z hz h5
        · obtain rfl := List.mem_singleton.1 hz
          intro hu
          rw [HYK.out.1] at h5
          rw [HYK.out.2] at hu
          exact h ⟨h5, hu⟩)
      by_cases h5 : k' = 5
      case neg =>
        have hb5 : (k' == 5) = false := beq_eq_false_iff_ne.2 h5
        have HGJ := hgo (fun h => h5 h.1)
        clear h5 hgo hte
        go_wp2_with fail
        go_roundw
        case rel => exact ⟨j + 1, by omega, by go_num, trivial, HGJ⟩
        case measure => simp [intOf]; omega
      have hb5 : (k' == 5) = true := beq_iff_eq.2 h5
      by_cases hu : s'.data.toList = [95]
      case neg =>
        have hbu : (s'.toList == [95]) = false := hte.trans (beq_eq_false_iff_ne.2 hu)
        have HGJ := hgo (fun h => hu h.2)
        clear h5 hgo hte hu
        go_wp2_with fail
        go_roundw
        case rel => exact ⟨j + 1, by omega, by go_num, trivial, HGJ⟩
        case measure => simp [intOf]; omega
      have hbu : (s'.toList == [95]) = true := hte.trans (beq_iff_eq.2 hu)
      obtain rfl : EG = 2 := HTWO.out y HMEM.out (HYK.out.1.trans h5) (by rw [HYK.out.2]; exact hu)
      clear h5 hgo hte hu
      go_wp2_with fail
      refine (wakes10_any wr (HE.out wr HB15.out)).mono ?_
      rintro e w99 ⟨rfl, b9⟩
      have HF := Lib.hid (HB15.out.trans (b9.mono HB15.out.size))
      clear b9
      go_wp2_with fail
      go_ret
      exact ⟨rfl, HF.out⟩
  have hn0 : (EF == 0) = true := beq_iff_eq.2 hE0
  have hmt := fun W h1 h2 h3 h4 => Match10_any p VF l (.agg #[.int .i8 xk, .int .i64 xn, .string xs, .string xu, .slice xA xm xc]) (.agg #[.int .i8 k7, .int .i64 n7, .string s7, .string t7, .slice A7 m7 c7]) A l.length cap W h1 h2 h3 HN.out h4
  obtain ⟨q1, q2, q3⟩ := HZ0.out hE0
  rw [q1, q2, q3] at hmt
  have HMT := Lib.hid hmt
  clear hE0 q1 q2 q3 hmt
  go_wp2_with fail
  refine (HMT.out w6 (HP.out w6 HB6.out) HY7.out (HR.out w6 HB6.out) (HE.out w6 HB6.out)).mono ?_
  rintro e w7 ⟨A9, n9, c9, rfl, hr9, b7⟩
  have HR9 := Lib.hid hr9
  clear hr9 z0 z1 z2 z3 z4
  have HB7 := Lib.hid (HB6.out.trans (b7.mono HB6.out.size))
  have HG7 := Lib.hid ((b7.block _ (heap_lt HG6.out)).trans HG6.out)
  have HH7 := Lib.hid ((b7.block _ (heap_lt HH6.out)).trans HH6.out)
  clear b7 x0 x1 x2 x3 x4 y0 y1 y2 y3 y4
  obtain ⟨x0, x1, x2, x3, x4⟩ := five_of HG7.out
  obtain ⟨y0, y1, y2, y3, y4⟩ := five_of HH7.out
  go_wp2_with fail
  refine (Same10_any l l A9 n9 c9 A l.length cap w7 HR9.out (HR.out w7 HB7.out)).mono ?_
  rintro e w8 ⟨b, rfl, hb, b8⟩
  obtain rfl : b = true := hb.2 rfl
  clear hb HMT
  have HB8 := Lib.hid (HB7.out.trans (b8.mono HB7.out.size))
  have HG8 := Lib.hid ((b8.block _ (heap_lt HG7.out)).trans HG7.out)
  have HH8 := Lib.hid ((b8.block _ (heap_lt HH7.out)).trans HH7.out)
  clear b8 x0 x1 x2 x3 x4 y0 y1 y2 y3 y4
  obtain ⟨x0, x1, x2, x3, x4⟩ := five_of HG8.out
  obtain ⟨y0, y1, y2, y3, y4⟩ := five_of HH8.out
  have hmt := fun W h1 h2 h3 h4 => Match10_any p t l (.agg #[.int .i8 xk, .int .i64 xn, .string xs, .string xu, .slice xA xm xc]) (.agg #[.int .i8 yk, .int .i64 yn, .string ys, .string yu, .slice yA ym yc]) A l.length cap W h1 h2 h3 HN.out h4
  have hyes := fun h1 h2 => match_yes (p := p) (t := t) (l := l) h1 h2
  have hlen := allL_lenF p t l
  obtain ⟨E1, hE1⟩ : ∃ x, x = allE [p] [t] l := ⟨_, rfl⟩
  obtain ⟨B1, hB1⟩ : ∃ x, x = allB [p] [t] l := ⟨_, rfl⟩
  obtain ⟨L1, hL1⟩ : ∃ x, x = allL [p] [t] l := ⟨_, rfl⟩
  rw [← hE1, ← hB1, ← hL1] at hmt
  rw [← hE1, ← hB1, ← hL1] at hyes
  rw [← hL1] at hlen
  have HMT := Lib.hid hmt
  have HYES := Lib.hid hyes
  have HLEN := Lib.hid hlen
  clear hmt hyes hlen hE1 hB1 hL1
  go_wp2_with fail
  refine (HMT.out w8 (HP.out w8 HB8.out) (HT.out w8 HB8.out) (HR.out w8 HB8.out) (HE.out w8 HB8.out)).mono ?_
  rintro e w9 ⟨A12, n12, c12, rfl, hr12, b⟩
  have HR12 := Lib.hid hr12
  clear hr12
  have HB9 := Lib.hid (HB8.out.trans (b.mono HB8.out.size))
  have HG9 := Lib.hid ((b.block _ (heap_lt HG8.out)).trans HG8.out)
  have HH9 := Lib.hid ((b.block _ (heap_lt HH8.out)).trans HH8.out)
  clear b x0 x1 x2 x3 x4 y0 y1 y2 y3 y4
  obtain ⟨x0, x1, x2, x3, x4⟩ := five_of HG9.out
  obtain ⟨y0, y1, y2, y3, y4⟩ := five_of HH9.out
  by_cases hE1 : E1 = 0
  case neg =>
    have hn1 : (E1 != 0) = true := by simpa using hE1
    clear hE1
    go_wp2_with fail
    refine (wakes10_any w9 (HE.out w9 HB9.out)).mono ?_
    rintro e w99 ⟨rfl, b9⟩
    have HF := Lib.hid (HB9.out.trans (b9.mono HB9.out.size))
    clear b9
    go_wp2_with fail
    go_ret
    exact ⟨rfl, HF.out⟩
  have hn1 : (E1 != 0) = false := by simpa using hE1
  cases B1 with
  | false =>
    clear hE1
    go_wp2_with fail
    refine (wakes10_any w9 (HE.out w9 HB9.out)).mono ?_
    rintro e w99 ⟨rfl, b9⟩
    have HF := Lib.hid (HB9.out.trans (b9.mono HB9.out.size))
    clear b9
    go_wp2_with fail
    go_ret
    exact ⟨rfl, HF.out⟩
  | true =>
  obtain ⟨hgo, hfit, hpat, hct, hmy⟩ := HYES.out hE1 rfl
  obtain ⟨⟨ex, hx, -⟩, -⟩ := again_any p hpat t l L1 hgo hct
  have HGO := Lib.hid hgo
  have HFIT := Lib.hid hfit
  have HPAT := Lib.hid hpat
  have HCT := Lib.hid hct
  have HMY := Lib.hid hmy
  have HX := Lib.hid hx
  have hl1 : L1.length = l.length + ex.length := by rw [hx, List.length_append]
  have hn12 := HR12.out.len
  have hc12 := HR12.out.cap
  have hbnd : n12 ≤ 8400 := by have h1 := HLEN.out; have h2 := HN.out; have h3 := HLL.out; omega
  have hle : ¬ (n12 : Int) < (l.length : Int) := by omega
  have hle2 : (l.length : Int) ≤ (n12 : Int) := by omega
  have hle3 : (l.length : Int) ≤ (c12 : Int) := by omega
  have HTK := Lib.hid (HR12.out.take l.length c12 (by omega) (by omega))
  have HTE : Hid (L1.take l.length = l) := by show _ = _; rw [hx, List.take_left]
  have HN12 : Hid (L1.length = n12) := hn12
  clear hE1 hgo hfit hpat hct hmy hx hl1 hn12
  go_wp2_with fail
  refine (Same10_any (L1.take l.length) l A12 l.length c12 A l.length cap w9 (by rw [HTE.out]; have h := HTK.out; rw [HTE.out] at h; exact h) (HR.out w9 HB9.out)).mono ?_
  rintro e w10 ⟨b, rfl, hb, b10⟩
  obtain rfl : b = true := hb.2 HTE.out
  have HR12' := Lib.hid (HR12.out.later b10)
  clear hb
  have HB10 := Lib.hid (HB9.out.trans (b10.mono HB9.out.size))
  have HG10 := Lib.hid ((b10.block _ (heap_lt HG9.out)).trans HG9.out)
  have HH10 := Lib.hid ((b10.block _ (heap_lt HH9.out)).trans HH9.out)
  clear b10 x0 x1 x2 x3 x4 y0 y1 y2 y3 y4
  obtain ⟨x0, x1, x2, x3, x4⟩ := five_of HG10.out
  obtain ⟨y0, y1, y2, y3, y4⟩ := five_of HH10.out
  by_cases h64 : n12 ≤ 64
  case neg =>
    have h65 : (64 : Int) < (n12 : Int) := by omega
    clear h64
    go_wp2_with fail
    refine (wakes10_any w10 (HE.out w10 HB10.out)).mono ?_
    rintro e w99 ⟨rfl, b9⟩
    have HF := Lib.hid (HB10.out.trans (b9.mono HB10.out.size))
    clear b9
    go_wp2_with fail
    go_ret
    exact ⟨rfl, HF.out⟩
  have h65 : ¬ (64 : Int) < (n12 : Int) := by omega
  obtain ⟨hm2, q1, q2, q3⟩ := match_more HGO.out HFIT.out HPAT.out HCT.out HMY.out (by rw [HN12.out]; exact h64)
  have hmt := fun W h1 h2 h3 h4 => Match10_any p t L1 (.agg #[.int .i8 xk, .int .i64 xn, .string xs, .string xu, .slice xA xm xc]) (.agg #[.int .i8 yk, .int .i64 yn, .string ys, .string yu, .slice yA ym yc]) A12 n12 c12 W h1 h2 h3 HN.out h4
  rw [q1, q2, q3] at hmt
  have HMT2 := Lib.hid hmt
  have HM2 := Lib.hid hm2
  clear hm2 q1 q2 q3 hmt h64
  go_wp2_with fail
  refine (HMT2.out w10 (HP.out w10 HB10.out) (HT.out w10 HB10.out) HR12'.out (HE.out w10 HB10.out)).mono ?_
  rintro e w11 ⟨A15, n15, c15, rfl, hr15, b⟩
  have HR15 := Lib.hid hr15
  have HRC := Lib.hid (HR12'.out.later b)
  clear hr15
  have HB11 := Lib.hid (HB10.out.trans (b.mono HB10.out.size))
  have HG11 := Lib.hid ((b.block _ (heap_lt HG10.out)).trans HG10.out)
  have HH11 := Lib.hid ((b.block _ (heap_lt HH10.out)).trans HH10.out)
  clear b x0 x1 x2 x3 x4 y0 y1 y2 y3 y4
  obtain ⟨x0, x1, x2, x3, x4⟩ := five_of HG11.out
  obtain ⟨y0, y1, y2, y3, y4⟩ := five_of HH11.out
  go_wp2_with fail
  refine (Same10_any L1 L1 A15 n15 c15 A12 n12 c12 w11 HR15.out HRC.out).mono ?_
  rintro e w12 ⟨b, rfl, hb, b12⟩
  obtain rfl : b = true := hb.2 rfl
  have HRD := Lib.hid (HRC.out.later b12)
  clear hb
  have HB12 := Lib.hid (HB11.out.trans (b12.mono HB11.out.size))
  have HG12 := Lib.hid ((b12.block _ (heap_lt HG11.out)).trans HG11.out)
  have HH12 := Lib.hid ((b12.block _ (heap_lt HH11.out)).trans HH11.out)
  clear b12 x0 x1 x2 x3 x4 y0 y1 y2 y3 y4
  obtain ⟨x0, x1, x2, x3, x4⟩ := five_of HG12.out
  obtain ⟨y0, y1, y2, y3, y4⟩ := five_of HH12.out
  have hf1 := fun W h1 h2 h4 => Fill_any p L1 (.agg #[.int .i8 xk, .int .i64 xn, .string xs, .string xu, .slice xA xm xc]) A12 n12 c12 W h1 h2 HN.out h4
  have hback := fun hna => fill_back HGO.out HFIT.out HPAT.out HCT.out HMY.out HM2.out hna
  have htwo := fun y hy h5 hu => fill_two (y := y) HFIT.out HPAT.out HM2.out hy h5 hu
  obtain ⟨EG, hEG⟩ : ∃ x, x = fillE p L1 := ⟨_, rfl⟩
  obtain ⟨VG, hVG⟩ : ∃ x, x = fillV p L1 := ⟨_, rfl⟩
  rw [← hEG, ← hVG] at hf1 hback
  rw [← hEG] at htwo
  have HF1 := Lib.hid hf1
  have HBACK := Lib.hid hback
  have HTWO := Lib.hid htwo
  clear hf1 hback htwo hEG hVG
  go_wp2_with fail
  refine (HF1.out w12 (HP.out w12 HB12.out) HRD.out (HE.out w12 HB12.out)).mono ?_
  rintro e w13 ⟨k8, n8, s8, t8, A8, m8, c8, rfl, hv, b⟩
  obtain ⟨w14, hw14⟩ : ∃ W, W = w13.alloc (.cells #[.int .i8 k8, .int .i64 n8, .string s8, .string t8, .slice A8 m8 c8] 44) := ⟨_, rfl⟩
  obtain ⟨g8, hg8⟩ : ∃ g, g = w13.heap.size := ⟨_, rfl⟩
  have b' : Below w13.heap.size w13 w14 := by rw [hw14]; exact (Below.refl _ _).alloc (Nat.le_refl _) _
  have HQ8 : Hid (w14.heap[g8]? = some (.cells #[.int .i8 k8, .int .i64 n8, .string s8, .string t8, .slice A8 m8 c8] 44 (0, 0))) := Lib.hid (by rw [hw14, hg8]; exact block_alloc _ _)
  have HY8 := Lib.hid (hv.later b')
  have b3 := b.trans (b'.mono b.size)
  clear hv b b'
  have HB14 := Lib.hid (HB12.out.trans (b3.mono HB12.out.size))
  have HG14 := Lib.hid ((b3.block _ (heap_lt HG12.out)).trans HG12.out)
  have HH14 := Lib.hid ((b3.block _ (heap_lt HH12.out)).trans HH12.out)
  clear b3 x0 x1 x2 x3 x4 y0 y1 y2 y3 y4
  obtain ⟨x0, x1, x2, x3, x4⟩ := five_of HG14.out
  obtain ⟨y0, y1, y2, y3, y4⟩ := five_of HH14.out
  go_upto_region 17 with fail
  rw [← hw14, ← hg8]
  clear hw14 hg8
  go_wp2_with fail
  refine (rWalk_any p (· < w14.heap.size) _ 4097 w14 (HP.out w14 HB14.out) (fun _ h => h) (by decide) (by decide)).mono ?_
  rintro e w15 ⟨WA, wcap, rfl, hw, b15⟩
  have htr := (hw.trow (Q := (· < w15.heap.size)) (fun b hb => Nat.lt_of_lt_of_le hb b15.size) (fun b _ h _ => h)).2
  have hnl : p.pre.take 4097 = p.pre := by
    have h := HFIT.out
    unfold fitsB at h
    have h2 := (of_decide_eq_true h).1
    exact List.take_of_length_le (by show p.nodes ≤ _; omega)
  rw [hnl] at htr ⊢
  have HTR := Lib.hid htr
  have HY9 := Lib.hid (HY8.out.later b15)
  have HQ9 := Lib.hid ((b15.block _ (heap_lt HQ8.out)).trans HQ8.out)
  have hpl := htr.max
  unfold maxLen at hpl
  clear hw htr hnl
  have HB15 := Lib.hid (HB14.out.trans (b15.mono HB14.out.size))
  have HG15 := Lib.hid ((b15.block _ (heap_lt HG14.out)).trans HG14.out)
  have HH15 := Lib.hid ((b15.block _ (heap_lt HH14.out)).trans HH14.out)
  clear b15 x0 x1 x2 x3 x4 y0 y1 y2 y3 y4
  obtain ⟨x0, x1, x2, x3, x4⟩ := five_of HG15.out
  obtain ⟨y0, y1, y2, y3, y4⟩ := five_of HH15.out
  clear x0 x1 x2 x3 x4 y0 y1 y2 y3 y4
  obtain ⟨PL, hPL⟩ : ∃ L, L = p.pre := ⟨_, rfl⟩
  have HPL := Lib.hid hPL
  rw [← hPL] at HTR hpl ⊢
  clear hPL
  go_wp2_with fail
  go_loopw [21] (fun i wr => ∃ j : Nat, j ≤ PL.length ∧ i = .int .i64 j ∧ wr = w15 ∧ Hid (∀ y ∈ PL.take j, y.k = 5 → ¬ y.s.data.toList = [95])) (fun i _ => PL.length - (intOf i).toNat)
  case atStart => exact ⟨0, Nat.zero_le _, rfl, rfl, Lib.hid (fun y hy => by simp at hy)⟩
  case round =>
    obtain ⟨j, hj, rfl, rfl, HNA⟩ := hrel
    by_cases hlt : j < PL.length
    case neg =>
      obtain rfl : j = PL.length := by omega
      have hna : NoAny p := fun y hy h5 => by
        have h := HNA.out y (by rw [List.take_length, HPL.out]; exact hy) h5
        exact h
      obtain ⟨q1, q2⟩ := HBACK.out hna
      subst q1
      have HYT := Lib.hid HY9.out
      rw [q2] at HYT
      clear hna q2
      obtain ⟨z0, z1, z2, z3, z4⟩ := five_of HQ9.out
      obtain ⟨y0, y1, y2, y3, y4⟩ := five_of HH15.out
      go_wp2_with fail
      refine (Same_any t t _ _ wr HYT.out (HT.out wr HB15.out)).mono ?_
      rintro e w16 ⟨b, rfl, hb, b16⟩
      obtain rfl : b = true := hb.2 rfl
      have HB16 := Lib.hid (HB15.out.trans (b16.mono HB15.out.size))
      clear hb b16 z0 z1 z2 z3 z4 y0 y1 y2 y3 y4
      go_wp2_with fail
      refine (wakes10_any w16 (HE.out w16 HB16.out)).mono ?_
      rintro e w99 ⟨rfl, b9⟩
      have HF := Lib.hid (HB16.out.trans (b9.mono HB16.out.size))
      clear b9
      go_wp2_with fail
      go_ret
      exact ⟨rfl, HF.out⟩
    obtain ⟨y, hy⟩ : ∃ y, PL[j]? = some y := ⟨PL[j], List.getElem?_eq_getElem hlt⟩
    obtain ⟨ad, u, rfl, had, hEl, hTy⟩ := HTR.out.at_ j y hy
    have HMEM : Hid (y ∈ p.pre) := by have h := List.mem_of_getElem? hy; rw [HPL.out] at h; exact h
    have HTKJ : Hid (PL.take (j + 1) = PL.take j ++ [y]) := by show _ = _; rw [List.take_add_one, hy]; rfl
    obtain ⟨k', n', s', t', L', A', cap', hye, rfl⟩ : ∃ k' n' s' t' L' A' cap', y = Tm.mk k' n' s' t' L' ∧ u = .agg #[.int .i8 k', .int .i64 n', .string s', .string t', .slice A' L'.length cap'] := by
      cases hTy; exact ⟨_, _, _, _, _, _, _, rfl, rfl⟩
    obtain ⟨c0, c1, c2, c3, c4, hcc, e0, e1, e2, e3, e4⟩ := hEl
    simp only [Value.agg.injEq, Array.mk.injEq, List.cons.injEq, and_true] at hcc
    obtain ⟨rfl, rfl, rfl, rfl, rfl⟩ := hcc
    have HYK : Hid (y.k = k' ∧ y.s = s') := by rw [hye]; exact ⟨rfl, rfl⟩
    have hte : (s'.toList == [95]) = (s'.data.toList == [95]) := by rw [ByteArray.toList_eq]
    have i0 : (0 : Int) ≤ (j : Int) := by omega
    have i1 : (j : Int) < (PL.length : Int) := by omega
    clear hTy hy had hye
    have hgo : ∀ h : ¬ (k' = 5 ∧ s'.data.toList = [95]), Hid (∀ z ∈ PL.take (j + 1), z.k = 5 → ¬ z.s.data.toList = [95]) := fun h => Lib.hid (fun z hz h5 => by
      rw [HTKJ.out] at hz
      rcases List.mem_append.1 hz with hz | hz
      · exact HNA.out z hz h5
      · obtain rfl := List.mem_singleton.1 hz
        intro hu
        rw [HYK.out.1] at h5
        rw [HYK.out.2] at hu
        exact h ⟨h5, hu⟩)
    by_cases h5 : k' = 5
    case neg =>
      have hb5 : (k' == 5) = false := beq_eq_false_iff_ne.2 h5
      have HGJ := hgo (fun h => h5 h.1)
      clear h5 hgo hte
      go_wp2_with fail
      go_roundw
      case rel => exact ⟨j + 1, by omega, by go_num, trivial, HGJ⟩
      case measure => simp [intOf]; omega
    have hb5 : (k' == 5) = true := beq_iff_eq.2 h5
    by_cases hu : s'.data.toList = [95]
    case neg =>
      have hbu : (s'.toList == [95]) = false := hte.trans (beq_eq_false_iff_ne.2 hu)
      have HGJ := hgo (fun h => hu h.2)
      clear h5 hgo hte hu
      go_wp2_with fail
      go_roundw
      case rel => exact ⟨j + 1, by omega, by go_num, trivial, HGJ⟩
      case measure => simp [intOf]; omega
    have hbu : (s'.toList == [95]) = true := hte.trans (beq_iff_eq.2 hu)
    obtain rfl : EG = 2 := HTWO.out y HMEM.out (HYK.out.1.trans h5) (by rw [HYK.out.2]; exact hu)
    clear h5 hgo hte hu
    go_wp2_with fail
    refine (wakes10_any wr (HE.out wr HB15.out)).mono ?_
    rintro e w99 ⟨rfl, b9⟩
    have HF := Lib.hid (HB15.out.trans (b9.mono HB15.out.size))
    clear b9
    go_wp2_with fail
    go_ret
    exact ⟨rfl, HF.out⟩
end Go.Proofs.YtkceoiaaiaomoaaGreatDoor
