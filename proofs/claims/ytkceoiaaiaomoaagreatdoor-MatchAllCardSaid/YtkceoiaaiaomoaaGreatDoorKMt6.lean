/- Layer 10: match.All, match.Match. -/
import Derived.Test.YtkceoiaaiaomoaaGreatDoorKMt5
set_option linter.unusedVariables false
set_option linter.unusedSimpArgs false
namespace Go.Proofs.YtkceoiaaiaomoaaGreatDoor
open Go.RowKit

def patOk (x : Tm) : Bool := fitsB x && patB x
def allOk10 (ps ts : List Tm) (l : List Bd) : Bool := decide (ps.length = ts.length) && (ps.all patOk && (ts.all (fun t => checkN t == 0) && may10 l))
def allE (ps ts : List Tm) (l : List Bd) : Int := if allOk10 ps ts l = true then 0 else 2
def allB (ps ts : List Tm) (l : List Bd) : Bool := allOk10 ps ts l && (goPs ps ts l).isSome
def allL (ps ts : List Tm) (l : List Bd) : List Bd := if allOk10 ps ts l = true then (goPs ps ts l).getD l else []
def AllP (E : Int) (B : Bool) (L : List Bd) (w : World) (e : Ending) (w' : World) : Prop :=
  ∃ (A' : Option Addr) (n' c' : Nat), e = .returned (.tuple #[.slice A' n' c', .bool B, .int .i64 E]) ∧ BRow (· < w'.heap.size) w' A' n' c' L ∧ Below w.heap.size w w'
theorem may10_len {l : List Bd} (h : may10 l = true) : l.length ≤ 64 ∧ ∀ b ∈ l, checkN b.2 = 0 := by
  unfold may10 at h
  rw [Bool.and_eq_true, decide_eq_true_eq, List.all_eq_true] at h
  refine ⟨h.1, fun b hb => ?_⟩
  have := h.2 b hb
  unfold bdOk at this
  simp only [Bool.and_eq_true, beq_iff_eq] at this
  exact this.2.2
theorem NmAt.rowB {base : Nat} {w : World} {v : Value} {l : List Bd} (h : NmAt base w v l) (hb : base ≤ w.heap.size) : ∃ A n c, v = .slice A n c ∧ RowB (· < w.heap.size) w A n l := by
  rcases h with ⟨A, rfl, hR⟩ | hO
  · exact ⟨A, _, _, rfl, (hR.keep (Q := (· < w.heap.size)) (fun _ _ => rfl) (fun b (h : b < base) => Nat.lt_of_lt_of_le h hb)).rowB⟩
  · obtain ⟨A, c, rfl⟩ := hO.shape
    exact ⟨A, _, c, rfl, (hO.brow (Q := (· < w.heap.size)) (fun b (h : b < base) => Nat.lt_of_lt_of_le h hb) (fun b _ h => h)).rowB⟩
theorem OwnB.row10 {w w' : World} {v : Value} {l : List Bd} (h : OwnB w.heap.size (· < w.heap.size) w' v l) (hs : w.heap.size ≤ w'.heap.size) : ∃ A n c, v = .slice A n c ∧ BRow (· < w'.heap.size) w' A n c l := by
  obtain ⟨A, c, rfl⟩ := h.shape
  exact ⟨A, _, c, rfl, h.brow (fun b (hb : b < w.heap.size) => Nat.lt_of_lt_of_le hb hs) (fun b _ hb => hb)⟩
theorem pres_fit (ps : List Tm) (h : ∀ y ∈ ps, y.nodes ≤ 8200) : (Tm.pres ps).length ≤ 8200 * ps.length := by
  induction ps with
  | nil => simp [Tm.pres]
  | cons a ps ih =>
    rw [Tm.pres, List.length_append, List.length_cons]
    have h1 := h a (by simp)
    have h2 := ih (fun y hy => h y (by simp [hy]))
    unfold Tm.nodes at h1
    omega
set_option maxHeartbeats 8000000 in
set_option maxRecDepth 100000 in
theorem All10_any (ps ts : List Tm) (l : List Bd) (PA : Option Addr) (pn pc : Nat) (TA : Option Addr) (tn tc : Nat) (A : Option Addr) (n cap : Nat) (W : World) (hRP : TRow (· < W.heap.size) W PA pn pc ps) (hRT : TRow (· < W.heap.size) W TA tn tc ts) (hR : BRow (· < W.heap.size) W A n cap l)
    (hN : ∀ y ∈ ps, y.nodes ≤ 8200) (hpl : ps.length ≤ 50) (hE : Env7 W) :
    Calls Tryz.prog 33 #[.slice PA pn pc, .slice TA tn tc, .slice A n cap] W (AllP (allE ps ts l) (allB ps ts l) (allL ps ts l) W) := by
  obtain rfl := hRP.len
  obtain rfl := hRT.len
  obtain rfl := hR.len
  have hl1 := hRP.max
  have hl2 := hRT.max
  have hl3 := hR.max
  unfold maxLen at hl1 hl2 hl3
  obtain ⟨EE, hEE⟩ : ∃ x, x = allE ps ts l := ⟨_, rfl⟩
  obtain ⟨BB, hBB⟩ : ∃ x, x = allB ps ts l := ⟨_, rfl⟩
  obtain ⟨LL, hLL⟩ : ∃ x, x = allL ps ts l := ⟨_, rfl⟩
  rw [← hEE, ← hBB, ← hLL]
  have HEE := Lib.hid hEE
  have HBB := Lib.hid hBB
  have HLL := Lib.hid hLL
  have HRP := Lib.hid hRP
  have HRT := Lib.hid hRT
  have HR := Lib.hid hR
  have HN := Lib.hid hN
  have HE := Lib.hid hE
  clear hRP hRT hR hN hE hEE hBB hLL
  have no : allOk10 ps ts l = false → EE = 2 ∧ BB = false ∧ LL = [] := fun h => by
    rw [HEE.out, HBB.out, HLL.out]
    unfold allE allB allL
    rw [h]
    exact ⟨rfl, rfl, rfl⟩
  have HNO := Lib.hid no
  clear no
  by_cases hlen : ps.length = ts.length
  case neg =>
    have hb : ((ps.length : Int) != (ts.length : Int)) = true := by simp; omega
    obtain ⟨h1, h2, h3⟩ := HNO.out (by unfold allOk10; rw [decide_eq_false hlen]; rfl)
    have H1 := Lib.hid h1
    have H2 := Lib.hid h2
    have H3 := Lib.hid h3
    clear h1 h2 h3
    clear hlen
    go_enter Tryz.func33, Tryz.ntmps33
    go_wp2_with fail
    refine bodyPost_ret (v := .tuple #[.slice none 0 0, .bool false, .int .i64 2]) (by simp [results, Tryz.f33, go_sem]) rfl ?_
    exact ⟨none, 0, 0, by rw [H1.out, H2.out], by rw [H3.out]; exact .nil _ _ _ _, Below.refl _ _⟩
  have hb : ((ps.length : Int) != (ts.length : Int)) = false := by rw [hlen]; simp
  have HLEN := Lib.hid hlen
  clear hlen
  have HC1 := Lib.hid (eachN10_any patOk ps PA ps.length pc W (fun y hy u V hV hT => pattern7_ok y u V hT (HN.out y hy) (HE.out.under hV)) HRP.out)
  go_enter Tryz.func33, Tryz.ntmps33
  go_wp2_with fail
  refine HC1.out.mono ?_
  rintro e W1 ⟨rfl, b1⟩
  have HB1 := Lib.hid b1
  clear b1 HC1
  cases hp : ps.all patOk with
  | false =>
    obtain ⟨h1, h2, h3⟩ := HNO.out (by unfold allOk10; rw [hp, Bool.false_and, Bool.and_false])
    have H1 := Lib.hid h1
    have H2 := Lib.hid h2
    have H3 := Lib.hid h3
    clear h1 h2 h3
    clear hp
    go_wp2_with fail
    refine bodyPost_ret (v := .tuple #[.slice none 0 0, .bool false, .int .i64 2]) (by simp [results, Tryz.f33, go_sem]) rfl ?_
    exact ⟨none, 0, 0, by rw [H1.out, H2.out], by rw [H3.out]; exact .nil _ _ _ _, HB1.out⟩
  | true =>
  have HP := Lib.hid hp
  clear hp
  have HC2 := Lib.hid (eachT10_any (fun t => checkN t == 0) ts TA ts.length tc W1 (fun y hy u V hV hT => may10_any y u V hT ((HE.out.under (HB1.out.trans (hV.mono HB1.out.size))).spans)) (HRT.out.later HB1.out))
  go_wp2_with fail
  refine HC2.out.mono ?_
  rintro e W2 ⟨rfl, b2⟩
  have HB2 := Lib.hid (HB1.out.trans (b2.mono HB1.out.size))
  clear b2 HC2
  cases ht : ts.all (fun t => checkN t == 0) with
  | false =>
    obtain ⟨h1, h2, h3⟩ := HNO.out (by unfold allOk10; rw [ht, Bool.false_and, Bool.and_false, Bool.and_false])
    have H1 := Lib.hid h1
    have H2 := Lib.hid h2
    have H3 := Lib.hid h3
    clear h1 h2 h3
    clear ht
    go_wp2_with fail
    refine bodyPost_ret (v := .tuple #[.slice none 0 0, .bool false, .int .i64 2]) (by simp [results, Tryz.f33, go_sem]) rfl ?_
    exact ⟨none, 0, 0, by rw [H1.out, H2.out], by rw [H3.out]; exact .nil _ _ _ _, HB2.out⟩
  | true =>
  have HTT := Lib.hid ht
  clear ht
  have HC3 := Lib.hid (May10_any l A l.length cap W2 (HR.out.later HB2.out) (HE.out.under HB2.out).spans)
  go_wp2_with fail
  refine HC3.out.mono ?_
  rintro e W3 ⟨rfl, b3⟩
  have HB3 := Lib.hid (HB2.out.trans (b3.mono HB2.out.size))
  clear b3 HC3
  cases hm : may10 l with
  | false =>
    obtain ⟨h1, h2, h3⟩ := HNO.out (by unfold allOk10; rw [hm, Bool.and_false, Bool.and_false, Bool.and_false])
    have H1 := Lib.hid h1
    have H2 := Lib.hid h2
    have H3 := Lib.hid h3
    clear h1 h2 h3
    clear hm
    go_wp2_with fail
    refine bodyPost_ret (v := .tuple #[.slice none 0 0, .bool false, .int .i64 2]) (by simp [results, Tryz.f33, go_sem]) rfl ?_
    exact ⟨none, 0, 0, by rw [H1.out, H2.out], by rw [H3.out]; exact .nil _ _ _ _, HB3.out⟩
  | true =>
  have HOK : Hid (allOk10 ps ts l = true) := by show _ = _; unfold allOk10; rw [hm, HTT.out, HP.out, decide_eq_true HLEN.out]; rfl
  have hml := may10_len hm
  have HML := Lib.hid hml
  have HC4 := Lib.hid (newM_any l A l.length cap W3 (HR.out.later HB3.out) (HE.out.under HB3.out).spans hml.2)
  clear hm hml
  go_wp2_with fail
  refine HC4.out.mono ?_
  rintro e W4 ⟨X, M, mb, rfl, hM⟩
  have hts : ∀ y ∈ ts, checkN y = 0 := fun y hy => by
    have := List.all_eq_true.1 HTT.out y hy
    simpa using this
  have hpp : ∀ y ∈ ps, patB y = true := fun y hy => by
    have := List.all_eq_true.1 HP.out y hy
    unfold patOk at this
    rw [Bool.and_eq_true] at this
    exact this.2
  have hbig : l.length + (Tm.pres ps).length ≤ 500000 := by
    have h1 := pres_fit ps HN.out
    have h2 := HML.out.1
    omega
  have HC5 := Lib.hid (mrow_any W3.heap.size W3 X M mb ps ts (fun y hy => el_any _ _ _ _ _ y (hpp y hy)) hpp hts PA ps.length pc TA ts.length tc l W4 hM (HRP.out.later HB3.out) (HRT.out.later HB3.out) hbig)
  have HB4 := Lib.hid (HB3.out.trans (hM.below.mono HB3.out.size))
  have HBIG : Hid (l.length + (Tm.pres ps).length ≤ 500000) := hbig
  clear hM hts hpp hbig HC4
  go_wp2_with fail
  refine HC5.out.mono ?_
  rintro e W5 ⟨bb, l5, rfl, hM5, hr5, -⟩
  rw [if_pos HLEN.out] at hr5
  have HM5 := Lib.hid hM5
  have HB5 := Lib.hid (HB3.out.trans (hM5.below.mono HB3.out.size))
  have HR5 := Lib.hid hr5
  clear hM5 hr5 HC5
  cases bb with
  | false =>
    have hg : goPs ps ts l = none := HR5.out
    have H1 : Hid (EE = 0) := by show _ = _; rw [HEE.out]; unfold allE; rw [if_pos HOK.out]
    have H2 : Hid (BB = false) := by show _ = _; rw [HBB.out]; unfold allB; rw [hg]; simp
    have H3 : Hid (LL = l) := by show _ = _; rw [HLL.out]; unfold allL; rw [if_pos HOK.out, hg]; rfl
    clear hg
    have HCL := Lib.hid (clone10_any (· < W5.heap.size) l A l.length cap W5 (HR.out.later HB5.out).rowB (fun _ h => h) (by have := HML.out.1; omega))
    go_wp2_with fail
    refine HCL.out.mono ?_
    rintro e W6 ⟨v, rfl, hO, b6⟩
    obtain ⟨A6, n6, c6, rfl, hr6⟩ := hO.row10 b6.size
    have HR6 := Lib.hid hr6
    have HB6 := Lib.hid (HB5.out.trans (b6.mono HB5.out.size))
    clear hO hr6 b6
    go_wp2_with fail
    refine bodyPost_ret (v := .tuple #[.slice A6 n6 c6, .bool false, .int .i64 0]) (by simp [results, Tryz.f33, go_sem]) rfl ?_
    exact ⟨A6, n6, c6, by rw [H1.out, H2.out], by rw [H3.out]; exact HR6.out, HB6.out⟩
  | true =>
    have hg : goPs ps ts l = some l5 := HR5.out
    have H1 : Hid (EE = 0) := by show _ = _; rw [HEE.out]; unfold allE; rw [if_pos HOK.out]
    have H2 : Hid (BB = true) := by show _ = _; rw [HBB.out]; unfold allB; rw [hg, HOK.out]; rfl
    have H3 : Hid (LL = l5) := by show _ = _; rw [HLL.out]; unfold allL; rw [if_pos HOK.out, hg]; rfl
    have HL5 : Hid (l5.length ≤ 500000) := by have := goPs_len ps ts l l5 hg; have := HBIG.out; show _ ≤ _; omega
    clear hg
    obtain ⟨vv, hbx, hnm⟩ := HM5.out.box
    obtain ⟨A5, n5, c5, rfl, hrb⟩ := hnm.rowB (Nat.le_trans HM5.out.size HM5.out.below.size)
    have x0 : W5.cell? ⟨X, 0, none⟩ = some (.slice A5 n5 c5) := cell_of_row (i := 0) hbx rfl
    have HCL := Lib.hid (clone10_any (· < W5.heap.size) l5 A5 n5 c5 W5 hrb (fun _ h => h) (by have := HL5.out; omega))
    clear hbx hnm hrb
    go_wp2_with fail
    refine HCL.out.mono ?_
    rintro e W6 ⟨v, rfl, hO, b6⟩
    obtain ⟨A6, n6, c6, rfl, hr6⟩ := hO.row10 b6.size
    have HR6 := Lib.hid hr6
    have HB6 := Lib.hid (HB5.out.trans (b6.mono HB5.out.size))
    clear hO hr6 b6
    go_wp2_with fail
    refine bodyPost_ret (v := .tuple #[.slice A6 n6 c6, .bool true, .int .i64 0]) (by simp [results, Tryz.f33, go_sem]) rfl ?_
    exact ⟨A6, n6, c6, by rw [H1.out, H2.out], by rw [H3.out]; exact HR6.out, HB6.out⟩
set_option maxHeartbeats 8000000 in
set_option maxRecDepth 100000 in
theorem Match10_any (p t : Tm) (l : List Bd) (v u : Value) (A : Option Addr) (n cap : Nat) (W : World) (hP : TmAt (· < W.heap.size) W p v) (hT : TmAt (· < W.heap.size) W t u) (hR : BRow (· < W.heap.size) W A n cap l) (hN : p.nodes ≤ 8200) (hE : Env7 W) :
    Calls Tryz.prog 27 #[v, u, .slice A n cap] W (AllP (allE [p] [t] l) (allB [p] [t] l) (allL [p] [t] l) W) := by
  obtain ⟨xk, xn, xs, xu, xA, xm, xc, rfl⟩ : ∃ k n s t A m c, v = .agg #[.int .i8 k, .int .i64 n, .string s, .string t, .slice A m c] := by cases hP; exact ⟨_, _, _, _, _, _, _, rfl⟩
  obtain ⟨yk, yn, ys, yu, yA, ym, yc, rfl⟩ : ∃ k n s t A m c, u = .agg #[.int .i8 k, .int .i64 n, .string s, .string t, .slice A m c] := by cases hT; exact ⟨_, _, _, _, _, _, _, rfl⟩
  obtain ⟨h0, z0⟩ := here_of (.cells #[.int .i8 xk, .int .i64 xn, .string xs, .string xu, .slice xA xm xc] 25) (rfl : W.heap.size = W.heap.size)
  obtain ⟨h1, z1⟩ := here_of (.cells #[.int .i8 yk, .int .i64 yn, .string ys, .string yu, .slice yA ym yc] 44) z0
  obtain ⟨h2, z2⟩ := here_of (.cells #[.int .i8 xk, .int .i64 xn, .string xs, .string xu, .slice xA xm xc] 25) z1
  obtain ⟨h3, z3⟩ := here_of (.cells #[.int .i8 yk, .int .i64 yn, .string ys, .string yu, .slice yA ym yc] 44) z2
  have g0 := there_of (.cells #[.int .i8 yk, .int .i64 yn, .string ys, .string yu, .slice yA ym yc] 44) h0
  have g2 := there_of (.cells #[.int .i8 yk, .int .i64 yn, .string ys, .string yu, .slice yA ym yc] 44) h2
  have g1 := there_of (.cells #[.int .i8 xk, .int .i64 xn, .string xs, .string xu, .slice xA xm xc] 25) h1
  obtain ⟨x0, x1, x2, x3, x4⟩ := five_of g0
  obtain ⟨y0, y1, y2, y3, y4⟩ := five_of g1
  obtain ⟨w4, hw4⟩ : ∃ w4, w4 = (((W.alloc (.cells #[.int .i8 xk, .int .i64 xn, .string xs, .string xu, .slice xA xm xc] 25)).alloc (.cells #[.int .i8 yk, .int .i64 yn, .string ys, .string yu, .slice yA ym yc] 44)).alloc (.cells #[.int .i8 xk, .int .i64 xn, .string xs, .string xu, .slice xA xm xc] 25)).alloc (.cells #[.int .i8 yk, .int .i64 yn, .string ys, .string yu, .slice yA ym yc] 44) := ⟨_, rfl⟩
  have b4 : Below W.heap.size W w4 := by rw [hw4]; exact ((((Below.refl _ W).alloc (Nat.le_refl _) _).alloc (by omega) _).alloc (by omega) _).alloc (by omega) _
  rw [← hw4] at g2 h3 z3
  have hP4 : TRow (· < w4.heap.size) w4 (some ⟨W.heap.size + 2, 0, none⟩) 1 1 [p] := row1_of g2 (by omega) (hP.laterN b4)
  have hT4 : TRow (· < w4.heap.size) w4 (some ⟨W.heap.size + 3, 0, none⟩) 1 1 [t] := row1_of h3 (by omega) (hT.laterN b4)
  have HC := Lib.hid (All10_any [p] [t] l (some ⟨W.heap.size + 2, 0, none⟩) 1 1 (some ⟨W.heap.size + 3, 0, none⟩) 1 1 A n cap w4 hP4 hT4 (hR.later b4) (fun y hy => by rw [List.mem_singleton.1 hy]; exact hN) (by show 1 ≤ 50; omega) (hE.under b4))
  have HB4 := Lib.hid b4
  obtain ⟨EE, hEE⟩ : ∃ x, x = allE [p] [t] l := ⟨_, rfl⟩
  obtain ⟨BB, hBB⟩ : ∃ x, x = allB [p] [t] l := ⟨_, rfl⟩
  obtain ⟨LL, hLL⟩ : ∃ x, x = allL [p] [t] l := ⟨_, rfl⟩
  rw [← hEE, ← hBB, ← hLL] at HC ⊢
  clear h0 z0 h1 z1 h2 z2 h3 z3 g0 g1 g2 b4 hP4 hT4 hP hT hR hE hN hEE hBB hLL
  go_enter Tryz.func27, Tryz.ntmps27
  go_wp2_with fail
  simp only [Nat.add_assoc, Nat.reduceAdd]
  rw [← hw4]
  clear hw4 x0 x1 x2 x3 x4 y0 y1 y2 y3 y4
  refine HC.out.mono ?_
  rintro e W5 ⟨A5, n5, c5, rfl, hr5, b5⟩
  have HR5 := Lib.hid hr5
  have HB5 := Lib.hid (HB4.out.trans (b5.mono HB4.out.size))
  clear hr5 b5
  go_wp2_with fail
  refine bodyPost_ret (v := .tuple #[.slice A5 n5 c5, .bool BB, .int .i64 EE]) (by simp [results, Tryz.f27, go_sem]) rfl ?_
  exact ⟨A5, n5, c5, rfl, HR5.out, HB5.out⟩
end Go.Proofs.YtkceoiaaiaomoaaGreatDoor
