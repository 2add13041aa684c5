/- What the rows' condition on the program's variables gives the walks: the tables of layer 7. -/
import Derived.Test.YtkceoiaaiaomoaaGreatDoorKMt11
import Derived.Test.YtkceoiaaiaomoaaGreatDoorKRf7A
import Derived.Test.YtkceoiaaiaomoaaGreatDoorKEnv7
import Derived.Deep.DeepCutAuto
import Derived.Tactics2
import Derived.Lib.LaidTab
import Derived.ProofKit
import Derived.LaidMore
import Derived.OpenShut
import Derived.Stop.Joined
section
set_option linter.unusedVariables false
set_option linter.unusedSimpArgs false
namespace Go.Proofs.YtkceoiaaiaomoaaGreatDoor
open Go.RowKit

theorem one_ok (p t : Tm) (l : List Bd) : allOk10 [p] [t] l = (patOk p && ((checkN t == 0) && may10 l)) := by unfold allOk10; simp
theorem one_go (p t : Tm) (l : List Bd) : goPs [p] [t] l = goP p t l := by
  cases h : goP p t l with
  | none => rw [goPs, h]
  | some l' =>
    rw [goPs, h]
    show goPs [] [] l' = some l'
    rw [goPs]
    intro a b c d e; cases e
theorem all_no {ps ts : List Tm} {l : List Bd} (h : allOk10 ps ts l = false) : allE ps ts l = 2 ∧ allB ps ts l = false ∧ allL ps ts l = [] := by
  unfold allE allB allL
  rw [h]
  exact ⟨rfl, rfl, rfl⟩
theorem all_yes {ps ts : List Tm} {l : List Bd} (h : allOk10 ps ts l = true) : allE ps ts l = 0 ∧ allB ps ts l = (goPs ps ts l).isSome ∧ allL ps ts l = (goPs ps ts l).getD l := by
  unfold allE allB allL
  rw [h]
  exact ⟨rfl, rfl, rfl⟩
set_option maxHeartbeats 8000000 in
set_option maxRecDepth 100000 in
theorem rMatch10_any (p t : Tm) (l : List Bd) (v u : Value) (A : Option Addr) (n cap : Nat) (W : World) (hP : TmAt (· < W.heap.size) W p v) (hT : TmAt (· < W.heap.size) W t u) (hR : BRow (· < W.heap.size) W A n cap l) (hN : p.nodes ≤ 8200) :
    Calls Tryz.prog 28 #[v, u, .slice A n cap] W (AllP (allE [p] [t] l) (allB [p] [t] l) (allL [p] [t] l) W) := by
  obtain rfl := hR.len
  obtain ⟨xk, xn, xs, xu, xA, xm, xc, rfl⟩ : ∃ k n s t A m c, v = .agg #[.int .i8 k, .int .i64 n, .string s, .string t, .slice A m c] := by cases hP; exact ⟨_, _, _, _, _, _, _, rfl⟩
  obtain ⟨yk, yn, ys, yu, yA, ym, yc, rfl⟩ : ∃ k n s t A m c, u = .agg #[.int .i8 k, .int .i64 n, .string s, .string t, .slice A m c] := by cases hT; exact ⟨_, _, _, _, _, _, _, rfl⟩
  have g0 := there_of (.cells #[.int .i8 yk, .int .i64 yn, .string ys, .string yu, .slice yA ym yc] 44) (block_alloc W (.cells #[.int .i8 xk, .int .i64 xn, .string xs, .string xu, .slice xA xm xc] 25))
  have g1 := block_alloc (W.alloc (.cells #[.int .i8 xk, .int .i64 xn, .string xs, .string xu, .slice xA xm xc] 25)) (.cells #[.int .i8 yk, .int .i64 yn, .string ys, .string yu, .slice yA ym yc] 44)
  rw [World.size_alloc] at g1
  have b2 : Below W.heap.size W ((W.alloc (.cells #[.int .i8 xk, .int .i64 xn, .string xs, .string xu, .slice xA xm xc] 25)).alloc (.cells #[.int .i8 yk, .int .i64 yn, .string ys, .string yu, .slice yA ym yc] 44)) := ((Below.refl _ W).alloc (Nat.le_refl _) _).alloc (by simp) _
  obtain ⟨W2, hW2⟩ : ∃ W2, W2 = (W.alloc (.cells #[.int .i8 xk, .int .i64 xn, .string xs, .string xu, .slice xA xm xc] 25)).alloc (.cells #[.int .i8 yk, .int .i64 yn, .string ys, .string yu, .slice yA ym yc] 44) := ⟨_, rfl⟩
  rw [← hW2] at g0 g1 b2
  have HB2 := Lib.hid b2
  have HG0 := Lib.hid g0
  have HG1 := Lib.hid g1
  have HR := Lib.hid hR
  have HP := Lib.hid hP
  have HT := Lib.hid hT
  have hml := hR.max
  unfold maxLen at hml
  have HN0 : Hid (p.nodes ≤ 8200) := hN
  obtain ⟨x0, x1, x2, x3, x4⟩ := five_of g0
  obtain ⟨EE, hEE⟩ : ∃ x, x = allE [p] [t] l := ⟨_, rfl⟩
  obtain ⟨BB, hBB⟩ : ∃ x, x = allB [p] [t] l := ⟨_, rfl⟩
  obtain ⟨LL, hLL⟩ : ∃ x, x = allL [p] [t] l := ⟨_, rfl⟩
  rw [← hEE, ← hBB, ← hLL]
  have HNO : Hid ((patOk p && ((checkN t == 0) && may10 l)) = false → EE = 2 ∧ BB = false ∧ LL = []) := Lib.hid (fun h => by rw [hEE, hBB, hLL]; exact all_no ((one_ok p t l).trans h))
  have HYES : Hid ((patOk p && ((checkN t == 0) && may10 l)) = true → EE = 0 ∧ BB = (goP p t l).isSome ∧ LL = (goP p t l).getD l) := Lib.hid (fun h => by rw [hEE, hBB, hLL, ← one_go p t l]; exact all_yes ((one_ok p t l).trans h))
  clear hEE hBB hLL g0 g1 b2 hP hT hR hN
  have HPC : Hid (Calls Tryz.prog 70 #[.agg #[.int .i8 xk, .int .i64 xn, .string xs, .string xu, .slice xA xm xc]] W2 fun e w' => e = .returned (.bool (patOk p)) ∧ Below W2.heap.size W2 w') := Lib.hid (rPattern_any p _ W2 (HP.out.later HB2.out))
  obtain ⟨PB, hPB⟩ : ∃ b, b = patOk p := ⟨_, rfl⟩
  rw [← hPB] at HPC HNO HYES
  have HPB := Lib.hid hPB
  clear hPB
  go_enter Tryz.func28, Tryz.ntmps28
  go_upto_region 1 with fail
  rw [← hW2]
  clear hW2
  go_wp2_with fail
  refine HPC.out.mono ?_
  rintro e W3 ⟨rfl, b3⟩
  have HB3 := Lib.hid (HB2.out.trans (b3.mono HB2.out.size))
  have HG03 := Lib.hid ((b3.block _ (heap_lt HG0.out)).trans HG0.out)
  have HG13 := Lib.hid ((b3.block _ (heap_lt HG1.out)).trans HG1.out)
  clear b3 x0 x1 x2 x3 x4
  cases PB with
  | false =>
    have HN := Lib.hid (HNO.out rfl)
    go_wp2_with fail
    refine bodyPost_ret (v := .tuple #[.slice none 0 0, .bool false, .int .i64 2]) (by simp [results, Tryz.f28, go_sem]) rfl ?_
    exact ⟨_, _, _, by rw [HN.out.1, HN.out.2.1], by rw [HN.out.2.2]; exact BRow.nil _ _ _ _, HB3.out⟩
  | true =>
  have HCK := Lib.hid (rCheck_any t _ W3 (HT.out.later HB3.out))
  obtain ⟨CB, hCB⟩ : ∃ c, c = checkN t := ⟨_, rfl⟩
  rw [← hCB] at HCK HNO HYES
  have HCB := Lib.hid hCB
  clear hCB
  obtain ⟨y0, y1, y2, y3, y4⟩ := five_of HG13.out
  go_wp2_with fail
  refine HCK.out.mono ?_
  rintro e W4 ⟨rfl, b4⟩
  have HB4 := Lib.hid (HB3.out.trans (b4.mono HB3.out.size))
  have HG04 := Lib.hid ((b4.block _ (heap_lt HG03.out)).trans HG03.out)
  have HG14 := Lib.hid ((b4.block _ (heap_lt HG13.out)).trans HG13.out)
  clear b4 y0 y1 y2 y3 y4
  by_cases hc : CB = 0
  case neg =>
    have hc2 : (CB != 0) = true := by simpa using hc
    have hc3 : (CB == 0) = false := beq_eq_false_iff_ne.2 hc
    have HC3 := Lib.hid hc3
    clear hc hc3
    have HN := Lib.hid (HNO.out (by rw [HC3.out]; rfl))
    go_wp2_with fail
    refine bodyPost_ret (v := .tuple #[.slice none 0 0, .bool false, .int .i64 2]) (by simp [results, Tryz.f28, go_sem]) rfl ?_
    exact ⟨_, _, _, by rw [HN.out.1, HN.out.2.1], by rw [HN.out.2.2]; exact BRow.nil _ _ _ _, HB4.out⟩
  have hc2 : (CB != 0) = false := by simpa using hc
  have HC3 : Hid ((CB == 0) = true) := by show _ = _; rw [hc]; rfl
  have HCZ : Hid (CB = 0) := hc
  clear hc
  have HMY := Lib.hid (rMay10_any l A l.length cap W4 (HR.out.later HB4.out))
  obtain ⟨MB, hMB⟩ : ∃ b, b = may10 l := ⟨_, rfl⟩
  rw [← hMB] at HMY HNO HYES
  have HMB := Lib.hid hMB
  clear hMB
  go_wp2_with fail
  refine HMY.out.mono ?_
  rintro e W5 ⟨rfl, b5⟩
  have HB5 := Lib.hid (HB4.out.trans (b5.mono HB4.out.size))
  have HG05 := Lib.hid ((b5.block _ (heap_lt HG04.out)).trans HG04.out)
  have HG15 := Lib.hid ((b5.block _ (heap_lt HG14.out)).trans HG14.out)
  clear b5
  cases MB with
  | false =>
    have HN := Lib.hid (HNO.out (by rw [HC3.out]; rfl))
    go_wp2_with fail
    refine bodyPost_ret (v := .tuple #[.slice none 0 0, .bool false, .int .i64 2]) (by simp [results, Tryz.f28, go_sem]) rfl ?_
    exact ⟨_, _, _, by rw [HN.out.1, HN.out.2.1], by rw [HN.out.2.2]; exact BRow.nil _ _ _ _, HB5.out⟩
  | true =>
  have HY := Lib.hid (HYES.out (by rw [HC3.out]; rfl))
  have hml5 := may10_len HMB.out.symm
  have hpat : patB p = true := by have h := HPB.out.symm; unfold patOk at h; rw [Bool.and_eq_true] at h; exact h.2
  have hgo := rGoes_any p hpat t l _ _ A l.length cap W5 (HP.out.later HB5.out) (HT.out.later HB5.out) (HR.out.later HB5.out) (HCB.out.symm.trans HCZ.out) hml5.2 (by have := HN0.out; have := hml5.1; omega)
  obtain ⟨r2, hr2⟩ : ∃ r, r = goP p t l := ⟨_, rfl⟩
  rw [← hr2] at hgo HY
  have HGO := Lib.hid hgo
  obtain ⟨bb, hbb⟩ : ∃ b, b = r2.isSome := ⟨_, rfl⟩
  have HBB2 := Lib.hid hbb
  clear hml5 hpat hgo hr2 hbb hc2
  obtain ⟨x0, x1, x2, x3, x4⟩ := five_of HG05.out
  obtain ⟨y0, y1, y2, y3, y4⟩ := five_of HG15.out
  go_wp2_with fail
  refine HGO.out.mono ?_
  rintro e W6 ⟨A6, n6, c6, he, hl2, b6⟩
  rw [← HBB2.out] at he
  subst he
  have HF := Lib.hid (HB5.out.trans (b6.mono HB5.out.size))
  have HL2 := Lib.hid hl2
  clear b6 hl2 x0 x1 x2 x3 x4 y0 y1 y2 y3 y4
  cases r2 with
  | none =>
    obtain rfl : bb = false := HBB2.out
    have HE : Hid (EE = 0 ∧ BB = false ∧ LL = l) := HY.out
    go_wp2_with fail
    refine bodyPost_ret (v := .tuple #[.slice A l.length cap, .bool false, .int .i64 0]) (by simp [results, Tryz.f28, go_sem]) rfl ?_
    exact ⟨_, _, _, by rw [HE.out.1, HE.out.2.1], by rw [HE.out.2.2]; exact HR.out.later HF.out, HF.out⟩
  | some l2 =>
    obtain rfl : bb = true := HBB2.out
    have HE : Hid (EE = 0 ∧ BB = true ∧ LL = l2) := HY.out
    go_wp2_with fail
    refine bodyPost_ret (v := .tuple #[.slice A6 n6 c6, .bool true, .int .i64 0]) (by simp [results, Tryz.f28, go_sem]) rfl ?_
    exact ⟨_, _, _, by rw [HE.out.1, HE.out.2.1], by rw [HE.out.2.2]; exact HL2.out l2 rfl, HF.out⟩
end Go.Proofs.YtkceoiaaiaomoaaGreatDoor
end
section
set_option linter.unusedVariables false
set_option linter.unusedSimpArgs false
namespace Go.Proofs.YtkceoiaaiaomoaaGreatDoor
open Go.RowKit

set_option maxHeartbeats 16000000 in
set_option maxRecDepth 100000 in
theorem walk_MatchOne (v0 v1 v2 : Value) (w : World) (o0 : ∃ t, TmAt (· < w.heap.size) w t v0) (o1 : ∃ t, TmAt (· < w.heap.size) w t v1) (o2 : ∃ A n cap l, v2 = .slice A n cap ∧ BRow (· < w.heap.size) w A n cap l) (hE : Env7 w) :
    Calls Tryz.prog 4 #[v0, v1, v2] w fun e w' => e = .returned (.bool true) ∧ Below w.heap.size w w' := by
  obtain ⟨p, hP⟩ := o0
  obtain ⟨t, hT⟩ := o1
  obtain ⟨A, m, cap, l, rfl, hR⟩ := o2
  obtain ⟨xk, xn, xs, xu, xA, xm, xc, rfl⟩ : ∃ k n s t A m c, v0 = .agg #[.int .i8 k, .int .i64 n, .string s, .string t, .slice A m c] := by cases hP; exact ⟨_, _, _, _, _, _, _, rfl⟩
  obtain ⟨yk, yn, ys, yu, yA, ym, yc, rfl⟩ : ∃ k n s t A m c, v1 = .agg #[.int .i8 k, .int .i64 n, .string s, .string t, .slice A m c] := by cases hT; exact ⟨_, _, _, _, _, _, _, rfl⟩
  have g0 := there_of (.cells #[.int .i8 yk, .int .i64 yn, .string ys, .string yu, .slice yA ym yc] 44) (block_alloc w (.cells #[.int .i8 xk, .int .i64 xn, .string xs, .string xu, .slice xA xm xc] 25))
  have g1 := block_alloc (w.alloc (.cells #[.int .i8 xk, .int .i64 xn, .string xs, .string xu, .slice xA xm xc] 25)) (.cells #[.int .i8 yk, .int .i64 yn, .string ys, .string yu, .slice yA ym yc] 44)
  rw [World.size_alloc] at g1
  have b2 : Below w.heap.size w ((w.alloc (.cells #[.int .i8 xk, .int .i64 xn, .string xs, .string xu, .slice xA xm xc] 25)).alloc (.cells #[.int .i8 yk, .int .i64 yn, .string ys, .string yu, .slice yA ym yc] 44)) := ((Below.refl _ w).alloc (Nat.le_refl _) _).alloc (by simp) _
  obtain ⟨w1, hw1⟩ : ∃ W2, W2 = (w.alloc (.cells #[.int .i8 xk, .int .i64 xn, .string xs, .string xu, .slice xA xm xc] 25)).alloc (.cells #[.int .i8 yk, .int .i64 yn, .string ys, .string yu, .slice yA ym yc] 44) := ⟨_, rfl⟩
  rw [← hw1] at g0 g1 b2
  have HB1 := Lib.hid b2
  have HG1 := Lib.hid g0
  have HH1 := Lib.hid g1
  have HP : Hid (∀ V, Below w.heap.size w V → TmAt (· < V.heap.size) V p (.agg #[.int .i8 xk, .int .i64 xn, .string xs, .string xu, .slice xA xm xc])) := fun V hb => hP.laterN hb
  have HT : Hid (∀ V, Below w.heap.size w V → TmAt (· < V.heap.size) V t (.agg #[.int .i8 yk, .int .i64 yn, .string ys, .string yu, .slice yA ym yc])) := fun V hb => hT.later hb
  have HR : Hid (∀ V, Below w.heap.size w V → BRow (· < V.heap.size) V A m cap l) := fun V hb => hR.later hb
  have HE : Hid (∀ V, Below w.heap.size w V → Env7 V) := fun V hb => hE.under hb
  obtain ⟨x0, x1, x2, x3, x4⟩ := five_of g0
  obtain ⟨y0, y1, y2, y3, y4⟩ := five_of g1
  clear g0 g1 b2 hP hT hR hE
  go_enter Tryz.func4, Tryz.ntmps4
  go_upto_region 1 with fail
  rw [← hw1]
  clear hw1
  go_wp2_with fail
  refine (GreatN_any p _ w1 (HP.out w1 HB1.out)).mono ?_
  rintro e w2 ⟨q0, rfl, hq0, b2⟩
  have HB2 := Lib.hid (HB1.out.trans (b2.mono HB1.out.size))
  have HG2 := Lib.hid ((b2.block _ (heap_lt HG1.out)).trans HG1.out)
  have HH2 := Lib.hid ((b2.block _ (heap_lt HH1.out)).trans HH1.out)
  clear b2 x0 x1 x2 x3 x4 y0 y1 y2 y3 y4
  obtain ⟨x0, x1, x2, x3, x4⟩ := five_of HG2.out
  obtain ⟨y0, y1, y2, y3, y4⟩ := five_of HH2.out
  cases q0 with
  | true =>
    clear hq0
    go_wp2_with fail
    refine (wakes10_any w2 (HE.out w2 HB2.out)).mono ?_
    rintro e w9 ⟨rfl, b9⟩
    have HF := Lib.hid (HB2.out.trans (b9.mono HB2.out.size))
    clear b9
    go_wp2_with fail
    go_ret
    exact ⟨rfl, HF.out⟩
  | false =>
  have HN : Hid (p.nodes ≤ 8200) := by have := hq0 rfl; show _ ≤ _; omega
  clear hq0
  go_wp2_with fail
  refine (Great_any t _ w2 (HT.out w2 HB2.out)).mono ?_
  rintro e w3 ⟨q1, rfl, hq1, b3⟩
  have HB3 := Lib.hid (HB2.out.trans (b3.mono HB2.out.size))
  have HG3 := Lib.hid ((b3.block _ (heap_lt HG2.out)).trans HG2.out)
  have HH3 := Lib.hid ((b3.block _ (heap_lt HH2.out)).trans HH2.out)
  clear b3 x0 x1 x2 x3 x4 y0 y1 y2 y3 y4
  obtain ⟨x0, x1, x2, x3, x4⟩ := five_of HG3.out
  obtain ⟨y0, y1, y2, y3, y4⟩ := five_of HH3.out
  cases q1 with
  | true =>
    clear hq1
    go_wp2_with fail
    refine (wakes10_any w3 (HE.out w3 HB3.out)).mono ?_
    rintro e w9 ⟨rfl, b9⟩
    have HF := Lib.hid (HB3.out.trans (b9.mono HB3.out.size))
    clear b9
    go_wp2_with fail
    go_ret
    exact ⟨rfl, HF.out⟩
  | false =>
  clear hq1
  go_wp2_with fail
  refine (Great10_any l A m cap w3 (HR.out w3 HB3.out)).mono ?_
  rintro e w4 ⟨⟨q2, rfl, hq2⟩, b4⟩
  have HB4 := Lib.hid (HB3.out.trans (b4.mono HB3.out.size))
  have HG4 := Lib.hid ((b4.block _ (heap_lt HG3.out)).trans HG3.out)
  have HH4 := Lib.hid ((b4.block _ (heap_lt HH3.out)).trans HH3.out)
  clear b4 x0 x1 x2 x3 x4 y0 y1 y2 y3 y4
  obtain ⟨x0, x1, x2, x3, x4⟩ := five_of HG4.out
  obtain ⟨y0, y1, y2, y3, y4⟩ := five_of HH4.out
  cases q2 with
  | true =>
    clear hq2
    go_wp2_with fail
    refine (wakes10_any w4 (HE.out w4 HB4.out)).mono ?_
    rintro e w9 ⟨rfl, b9⟩
    have HF := Lib.hid (HB4.out.trans (b9.mono HB4.out.size))
    clear b9
    go_wp2_with fail
    go_ret
    exact ⟨rfl, HF.out⟩
  | false =>
  clear hq2
  have hcm := fun W h1 h2 h3 h4 => Match10_any p t l (.agg #[.int .i8 xk, .int .i64 xn, .string xs, .string xu, .slice xA xm xc]) (.agg #[.int .i8 yk, .int .i64 yn, .string ys, .string yu, .slice yA ym yc]) A m cap W h1 h2 h3 HN.out h4
  have hcr := fun W h1 h2 h3 => rMatch10_any p t l (.agg #[.int .i8 xk, .int .i64 xn, .string xs, .string xu, .slice xA xm xc]) (.agg #[.int .i8 yk, .int .i64 yn, .string ys, .string yu, .slice yA ym yc]) A m cap W h1 h2 h3 HN.out
  obtain ⟨EE, hEE⟩ : ∃ x, x = allE [p] [t] l := ⟨_, rfl⟩
  obtain ⟨BB, hBB⟩ : ∃ x, x = allB [p] [t] l := ⟨_, rfl⟩
  obtain ⟨LL, hLL⟩ : ∃ x, x = allL [p] [t] l := ⟨_, rfl⟩
  rw [← hEE, ← hBB, ← hLL] at hcm hcr
  have HCM := Lib.hid hcm
  have HCR := Lib.hid hcr
  clear hcm hcr hEE hBB hLL
  go_wp2_with fail
  refine (HCM.out w4 (HP.out w4 HB4.out) (HT.out w4 HB4.out) (HR.out w4 HB4.out) (HE.out w4 HB4.out)).mono ?_
  rintro e w5 ⟨A5, n5, c5, rfl, hr5, b5⟩
  have HR5 := Lib.hid hr5
  clear hr5
  have HB5 := Lib.hid (HB4.out.trans (b5.mono HB4.out.size))
  have HG5 := Lib.hid ((b5.block _ (heap_lt HG4.out)).trans HG4.out)
  have HH5 := Lib.hid ((b5.block _ (heap_lt HH4.out)).trans HH4.out)
  clear b5 x0 x1 x2 x3 x4 y0 y1 y2 y3 y4
  obtain ⟨x0, x1, x2, x3, x4⟩ := five_of HG5.out
  obtain ⟨y0, y1, y2, y3, y4⟩ := five_of HH5.out
  go_wp2_with fail
  refine (HCR.out w5 (HP.out w5 HB5.out) (HT.out w5 HB5.out) (HR.out w5 HB5.out)).mono ?_
  rintro e w6 ⟨A6, n6, c6, rfl, hr6, b6⟩
  have HR6 := Lib.hid hr6
  have HR56 := Lib.hid (HR5.out.later b6)
  clear hr6
  have HB6 := Lib.hid (HB5.out.trans (b6.mono HB5.out.size))
  have HG6 := Lib.hid ((b6.block _ (heap_lt HG5.out)).trans HG5.out)
  have HH6 := Lib.hid ((b6.block _ (heap_lt HH5.out)).trans HH5.out)
  clear b6 x0 x1 x2 x3 x4 y0 y1 y2 y3 y4
  obtain ⟨x0, x1, x2, x3, x4⟩ := five_of HG6.out
  obtain ⟨y0, y1, y2, y3, y4⟩ := five_of HH6.out
  have HSM := Lib.hid (Same10_any LL LL A5 n5 c5 A6 n6 c6 w6 HR56.out HR6.out)
  clear x0 x1 x2 x3 x4 y0 y1 y2 y3 y4
  go_wp2_with fail
  refine HSM.out.mono ?_
  rintro e w7 ⟨b, rfl, hb, b7⟩
  obtain rfl : b = true := hb.2 rfl
  have HB7 := Lib.hid (HB6.out.trans (b7.mono HB6.out.size))
  clear hb b7
  have hb1 : (BB == BB) = true := beq_self_eq_true _
  have hb2 : (EE == EE) = true := beq_self_eq_true _
  obtain ⟨MB, hMB⟩ : ∃ b, b = may10 l := ⟨_, rfl⟩
  have hm1 := May10_any l A m cap w7 (HR.out w7 HB7.out) (HE.out w7 HB7.out).spans
  have hm2 := fun W h => rMay10_any l A m cap W h
  rw [← hMB] at hm1 hm2
  have HM1 := Lib.hid hm1
  have HM2 := Lib.hid hm2
  have hb3 : (MB == MB) = true := beq_self_eq_true _
  clear hm1 hm2 hMB
  go_wp2_with fail
  refine HM1.out.mono ?_
  rintro e w8 ⟨rfl, b8⟩
  have HB8 := Lib.hid (HB7.out.trans (b8.mono HB7.out.size))
  clear b8
  go_wp2_with fail
  refine (HM2.out w8 (HR.out w8 HB8.out)).mono ?_
  rintro e w10 ⟨rfl, b10⟩
  have HB10 := Lib.hid (HB8.out.trans (b10.mono HB8.out.size))
  clear b10
  go_wp2_with fail
  refine (wakes10_any w10 (HE.out w10 HB10.out)).mono ?_
  rintro e w9 ⟨rfl, b9⟩
  have HF := Lib.hid (HB10.out.trans (b9.mono HB10.out.size))
  clear b9
  go_wp2_with fail
  go_ret
  exact ⟨rfl, HF.out⟩
end Go.Proofs.YtkceoiaaiaomoaaGreatDoor
end
section
set_option linter.unusedVariables false
namespace Go.Proofs.YtkceoiaaiaomoaaGreatDoor
open Go.ChangeShapes Go.WideShapes Go.ChangeAt Go.RowKit

theorem gSpans : Tryz.prog.globalNamed "pleach/atoms.spans" = some 3 := by kernel_rfl
theorem tSpans : (Tryz.prog.globals[3]?).map (·.type) = some 252 := by kernel_rfl
theorem gWords : Tryz.prog.globalNamed "pleach/scan.words" = some 4 := by kernel_rfl
theorem tWords : (Tryz.prog.globals[4]?).map (·.type) = some 292 := by kernel_rfl
theorem gNats : Tryz.prog.globalNamed "pleach/ast.natures" = some 2 := by kernel_rfl
theorem tNats : (Tryz.prog.globals[2]?).map (·.type) = some 244 := by kernel_rfl
set_option maxRecDepth 100000 in
theorem door_met (os : Os) (args : Array Value) : laidMetH Tryz.prog [("pleach/atoms.spans", Rows.laid_pleach_atoms_spans), ("pleach/scan.words", Rows.laid_pleach_scan_words), ("pleach/ast.natures", Rows.laid_pleach_ast_natures)] ((World.doorLaid Tryz.prog 400 os).forCall (fun _ _ => 0) ⟨#[], args, []⟩).memory :=
  laidMetH_of_parts3 (fuel := 8) (laidMet_of_run' 8 (by kernel_rfl) (by kernel_rfl)) (by kernel_rfl) (by kernel_rfl)

theorem cells_of_strs {P : Program} {H : Type} {enc : TypeId × Value → H} {W : World} {base : Nat} {sp : Nat → Bool} {held : Bool} {fuel : Nat} {t e : TypeId} {n : Nat} {cs : List Value} {x : DataW H × List MemPlace} {L : List (List UInt8)}
    (ht : P.underlying t = some (.array n e)) (he : P.underlying e = some .string) (hce : P.cellsOf e = 1) (hct : P.cellsOf t = n) (h : DataW.trod enc P W base sp held fuel t cs = some x)
    (hx : x.1 = .agg (L.map fun l => .lit (.string l))) : cs = L.map fun l => Value.string ⟨l.toArray⟩ := by
  obtain ⟨xs, m, rfl, rfl, hlen, hn, hel⟩ := DataW.trod_array ht h
  rw [hct] at hlen
  rw [hce] at hel
  simp only [DataW.agg.injEq] at hx
  have hL : L.length = n := by have := congrArg List.length hx; simp only [List.length_map] at this; omega
  apply List.ext_getElem (by simp [hlen, hL])
  intro i h1 h2
  have hi : i < n := by omega
  have h3 := hel i hi
  rw [List.getElem?_eq_getElem (by omega)] at h3
  obtain ⟨s, hs, hxs, _⟩ := DataW.trod_string he h3
  have h4 : (xs.map (·.1))[i]'(by simp; omega) = (L.map fun l => DataW.lit (H := H) (.string l))[i]'(by simp; omega) := by simp only [hx]
  simp only [List.getElem_map, hxs, DataW.lit.injEq, Lit.string.injEq] at h4
  rw [Nat.mul_one, List.drop_eq_getElem_cons h1, List.take_succ_cons, List.take_zero] at hs
  simp only [List.cons.injEq, and_true] at hs
  rw [hs, List.getElem_map, ← h4]

set_option maxRecDepth 100000 in
theorem span_cells {H : Type} {enc : TypeId × Value → H} {W : World} {base : Nat} {sp : Nat → Bool} {held : Bool} {n : Nat} {cs : List Value} {x : DataW H × List MemPlace} {a b c : Int}
    (h : DataW.trod enc Tryz.prog W base sp held n 251 cs = some x) (hx : x.1 = .agg [.lit (.int .u8 a), .lit (.int .u8 b), .lit (.int .u8 c)]) : cs = [.int .u8 a, .int .u8 b, .int .u8 c] := by
  obtain ⟨xs, m, rfl, rfl, hlen, hn, hf⟩ := DataW.trod_struct Tryz.underlying251 h
  have c3 : Tryz.prog.cellsOf 251 = 3 := by kernel_rfl
  have c1 : Tryz.prog.cellsOf 5 = 1 := by kernel_rfl
  have ck : Tryz.prog.cellsOf 171 = 1 := by kernel_rfl
  rw [c3] at hlen
  match cs, hlen with
  | [u, v, z], _ =>
    have f0 : DataW.trod enc Tryz.prog W base sp held m 5 (([u, v, z].drop 0).take (Tryz.prog.cellsOf 5)) = xs[0]? := hf 0 _ rfl
    have f1 : DataW.trod enc Tryz.prog W base sp held m 5 (([u, v, z].drop 1).take (Tryz.prog.cellsOf 5)) = xs[1]? := hf 1 _ rfl
    have f2 : DataW.trod enc Tryz.prog W base sp held m 171 (([u, v, z].drop 2).take (Tryz.prog.cellsOf 171)) = xs[2]? := hf 2 _ rfl
    rw [c1] at f0 f1
    rw [ck] at f2
    match xs, hn with
    | [x0, x1, x2], _ =>
      simp at f0 f1 f2 hx
      obtain ⟨k0, e0, y0, _⟩ := DataW.trod_int Tryz.underlying5 f0
      obtain ⟨k1, e1, y1, _⟩ := DataW.trod_int Tryz.underlying5 f1
      obtain ⟨k2, e2, y2, _⟩ := DataW.trod_int Tryz.underlying171 f2
      subst y0 y1 y2
      simp at e0 e1 e2 hx
      obtain ⟨rfl, rfl, rfl⟩ := hx
      rw [e0, e1, e2]

set_option maxRecDepth 100000 in
theorem nature_cells {H : Type} {enc : TypeId × Value → H} {W : World} {base : Nat} {sp : Nat → Bool} {held : Bool} {n : Nat} {cs : List Value} {x : DataW H × List MemPlace} {a b : Int}
    (h : DataW.trod enc Tryz.prog W base sp held n 243 cs = some x) (hx : x.1 = .agg [.lit (.int .u16 a), .lit (.int .u8 b)]) : cs = [.int .u16 a, .int .u8 b] := by
  obtain ⟨xs, m, rfl, rfl, hlen, hn, hf⟩ := DataW.trod_struct Tryz.underlying243 h
  have c2 : Tryz.prog.cellsOf 243 = 2 := by kernel_rfl
  have c1 : Tryz.prog.cellsOf 163 = 1 := by kernel_rfl
  have ck : Tryz.prog.cellsOf 241 = 1 := by kernel_rfl
  rw [c2] at hlen
  match cs, hlen with
  | [u, v], _ =>
    have f0 : DataW.trod enc Tryz.prog W base sp held m 163 (([u, v].drop 0).take (Tryz.prog.cellsOf 163)) = xs[0]? := hf 0 _ rfl
    have f1 : DataW.trod enc Tryz.prog W base sp held m 241 (([u, v].drop 1).take (Tryz.prog.cellsOf 241)) = xs[1]? := hf 1 _ rfl
    rw [c1] at f0
    rw [ck] at f1
    match xs, hn with
    | [x0, x1], _ =>
      simp at f0 f1 hx
      obtain ⟨k0, e0, y0, _⟩ := DataW.trod_int Tryz.underlying163 f0
      obtain ⟨k1, e1, y1, _⟩ := DataW.trod_int Tryz.underlying241 f1
      subst y0 y1
      simp at e0 e1 hx
      obtain ⟨rfl, rfl⟩ := hx
      rw [e0, e1]

theorem pairs_eq : ∀ (L : List (Int × Int)) (cs : List Value), cs.length = 2 * L.length → (∀ i p, L[i]? = some p → (cs.drop (i * 2)).take 2 = [.int .u16 p.1, .int .u8 p.2]) → cs = L.flatMap fun p => [Value.int .u16 p.1, Value.int .u8 p.2]
  | [], cs, hl, _ => List.length_eq_zero_iff.1 hl
  | p :: L, cs, hl, h => by
    match cs, hl with
    | a :: b :: cs, hl =>
      have h0 := h 0 p rfl
      simp only [Nat.zero_mul, List.drop_zero, List.take_succ_cons, List.take_zero, List.cons.injEq, and_true] at h0
      obtain ⟨rfl, rfl⟩ := h0
      have ih := pairs_eq L cs (by simp only [List.length_cons] at hl; omega) fun i q hq => by
        have h1 := h (i + 1) q hq
        rwa [show (i + 1) * 2 = i * 2 + 2 by omega, List.drop_succ_cons, List.drop_succ_cons] at h1
      rw [List.flatMap_cons, ← ih]
      rfl

def naturesList : List (Int × Int) := [(1, 8), (2, 10), (4, 11), (8, 9), (16, 8), (448, 2), (448, 1), (448, 2), (448, 0), (448, 8), (448, 8), (352, 10), (32, 10), (256, 8), (256, 10), (256, 14), (256, 8), (256, 7), (256, 8), (256, 8), (256, 9), (512, 8)]

set_option maxRecDepth 100000 in
theorem natures_cells {H : Type} {enc : TypeId × Value → H} {W : World} {base : Nat} {sp : Nat → Bool} {held : Bool} {fuel : Nat} {cs : List Value} {x : DataW H × List MemPlace}
    (h : DataW.trod enc Tryz.prog W base sp held fuel 244 cs = some x) (hx : x.1 = .agg (naturesList.map fun p => .agg [.lit (.int .u16 p.1), .lit (.int .u8 p.2)])) : cs = naturesRow.toList := by
  obtain ⟨xs, m, rfl, rfl, hlen, hn, hel⟩ := DataW.trod_array Tryz.underlying244 h
  have ce : Tryz.prog.cellsOf 243 = 2 := by kernel_rfl
  have ct : Tryz.prog.cellsOf 244 = 44 := by kernel_rfl
  rw [ct] at hlen
  rw [ce] at hel
  simp only [DataW.agg.injEq] at hx
  refine (pairs_eq naturesList cs hlen fun i p hp => ?_).trans rfl
  have hi : i < naturesList.length := by
    rcases Nat.lt_or_ge i naturesList.length with h | h
    · exact h
    · rw [List.getElem?_eq_none h] at hp; cases hp
  have hi2 : i < 22 := hi
  have h3 := hel i hi2
  have h4 := congrArg (fun l => l[i]?) hx
  simp only [List.getElem?_map, hp, Option.map_some] at h4
  rw [List.getElem?_eq_getElem (by omega : i < xs.length)] at h3 h4
  simp only [Option.map_some, Option.some.injEq] at h4
  exact nature_cells h3 h4

theorem noPow : (Tryz.prog.globalNamed "internal/strconv.uint64pow10").isSome = false := by kernel_rfl
set_option maxRecDepth 100000 in
theorem of_laid {W : World} (h : laidMetH Tryz.prog [("pleach/atoms.spans", Rows.laid_pleach_atoms_spans), ("pleach/scan.words", Rows.laid_pleach_scan_words), ("pleach/ast.natures", Rows.laid_pleach_ast_natures)] W) : Env7 W := by
  rw [MakeChecks.laidMetH_plain _ _ _ (by kernel_rfl)] at h
  obtain ⟨ps, ⟨g0, t0, cs0, f0, p0, q0, hg0, ht0, hv0, hd0, ⟨g1, t1, cs1, f1, p1, q1, hg1, ht1, hv1, hd1, ⟨g2, t2, cs2, f2, p2, q2, hg2, ht2, hv2, hd2, _, _⟩, _⟩, _⟩, _⟩ := h
  have var : ∀ {nm : String} {g : Nat} {cs : Array Value}, Tryz.prog.globalNamed nm = some g → W.var? Tryz.prog nm = some cs → ∃ t fr, W.heap[g]? = some (.cells cs t fr) := by
    intro nm g cs hg hv
    simp only [World.var?, hg, Option.bind_some] at hv
    split at hv
    · rename_i c t fr hb
      cases hv
      exact ⟨t, fr, hb⟩
    · cases hv
  refine ⟨?_, ?_, ?_, ?_⟩
  · obtain rfl := Option.some.inj (gSpans.symm.trans hg0)
    obtain rfl := Option.some.inj (tSpans.symm.trans ht0)
    obtain ⟨xs, m, rfl, hx, hlen, hn, hel⟩ := DataW.trod_array Tryz.underlying252 hd0
    have c3 : Tryz.prog.cellsOf 251 = 3 := by kernel_rfl
    have c12 : Tryz.prog.cellsOf 252 = 12 := by kernel_rfl
    rw [c12] at hlen
    rw [c3] at hel
    have e0 := hel 0 (by decide)
    have e1 := hel 1 (by decide)
    have e2 := hel 2 (by decide)
    have e3 := hel 3 (by decide)
    match xs, hn with
    | [x0, x1, x2, x3], _ =>
      simp [Rows.laid_pleach_atoms_spans] at hx
      obtain ⟨⟨h0, h1, h2, h3⟩, _⟩ := hx
      have s0 := span_cells (e0.trans rfl) h0.symm
      have s1 := span_cells (e1.trans rfl) h1.symm
      have s2 := span_cells (e2.trans rfl) h2.symm
      have s3 := span_cells (e3.trans rfl) h3.symm
      have hcs : cs0 = spansRow := by
        apply Array.ext'
        have key : cs0.toList = (cs0.toList.drop 0).take 3 ++ ((cs0.toList.drop 3).take 3 ++ ((cs0.toList.drop 6).take 3 ++ (cs0.toList.drop 9).take 3)) := by
          have hl : cs0.toList.length = 12 := hlen
          match cs0.toList, hl with
          | [_, _, _, _, _, _, _, _, _, _, _, _], _ => rfl
        rw [key]
        simp at s0 s1 s2 s3
        simp [s0, s1, s2, s3, spansRow]
      subst hcs
      exact var gSpans hv0
  · obtain rfl := Option.some.inj (gWords.symm.trans hg1)
    obtain rfl := Option.some.inj (tWords.symm.trans ht1)
    have hcs := cells_of_strs (L := wordList) Tryz.underlying292 Tryz.underlying9 (by kernel_rfl) (by kernel_rfl) hd1 rfl
    have hcs2 : cs1 = wordsRow := Array.toList_inj.1 hcs
    subst hcs2
    exact var gWords hv1
  · obtain rfl := Option.some.inj (gNats.symm.trans hg2)
    obtain rfl := Option.some.inj (tNats.symm.trans ht2)
    have hcs2 : cs2 = naturesRow := Array.toList_inj.1 (natures_cells hd2 rfl)
    subst hcs2
    exact var gNats hv2
  · unfold PowTab7
    intro h9
    rw [noPow] at h9
    cases h9
end Go.Proofs.YtkceoiaaiaomoaaGreatDoor
end
