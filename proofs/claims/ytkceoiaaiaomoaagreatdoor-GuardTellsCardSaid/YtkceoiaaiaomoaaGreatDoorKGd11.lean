/- Layer 11: the laws' own functions (great, more, binds, wakes). -/
import Derived.Test.YtkceoiaaiaomoaaGreatDoorKGd9
import Derived.Test.YtkceoiaaiaomoaaGreatDoorKAppRow
import Derived.Deep.DeepCutAuto
import Derived.Tactics2
section
set_option linter.unusedVariables false
set_option linter.unusedSimpArgs false
namespace Go.Proofs.YtkceoiaaiaomoaaGreatDoor
open Go.RowKit

set_option maxHeartbeats 2000000 in
set_option maxRecDepth 100000 in
theorem eachN1_any (n0 : Nat) (w0 : World) (l : List Bd) (gv gp gm : Nat) (hM : mayL l = true) (x : Tm) (hx : testB x = true) (hn : x.nodes ≤ 100000) (v : Value) (g : Nat) (W : World) (hU : Und n0 w0 l gv gp gm W) (hW : WTab11 W) (hT : TmAt (· < W.heap.size) W x v) (hg : W.cell? ⟨g, 0, none⟩ = some (.func (.func 98) #[.agg #[.func (.func 160) #[] #[.pointer (some ⟨gv, 0, none⟩), .pointer (some ⟨gp, 0, none⟩)]]] #[])) :
    Calls Tryz.prog 167 #[v, .pointer (some ⟨g, 0, none⟩)] W fun e w' => e = .returned (.bool (!tstT l x)) ∧ Below W.heap.size W w' := by
  obtain ⟨X, hX⟩ : ∃ X, X = x := ⟨_, rfl⟩
  obtain ⟨k, n, s, t, ps⟩ := x
  obtain ⟨NA, nc, rfl, hRn, -⟩ := hT.parts
  rw [← hX] at hT hn hx ⊢
  clear hX hRn
  have b2 : Below W.heap.size W (W.alloc (.cells #[.int .i8 k, .int .i64 n, .string s, .string t, .slice NA ps.length nc] 25)) := (Below.refl _ W).alloc (Nat.le_refl _) _
  have g0 := block_alloc W (.cells #[.int .i8 k, .int .i64 n, .string s, .string t, .slice NA ps.length nc] 25)
  obtain ⟨W2, hW2⟩ : ∃ W2, W2 = W.alloc (.cells #[.int .i8 k, .int .i64 n, .string s, .string t, .slice NA ps.length nc] 25) := ⟨_, rfl⟩
  rw [← hW2] at g0 b2
  have HB2 := Lib.hid b2
  have HC := Lib.hid (holdsT_any n0 w0 l gv gp gm X hx hn _ W2 (hU.under b2) hM (hW.under b2) (hT.laterN b2))
  have xg : W2.cell? ⟨g, 0, none⟩ = some (.func (.func 98) #[.agg #[.func (.func 160) #[] #[.pointer (some ⟨gv, 0, none⟩), .pointer (some ⟨gp, 0, none⟩)]]] #[]) := (b2.cell (World.block_lt_of_cell? W _ hg)).trans hg
  obtain ⟨x0, x1, x2, x3, x4⟩ := five_of g0
  unfold vf11 at HC
  clear g0 b2 hT hU hW hx hn hg hM
  go_enter Tryz.func167, Tryz.ntmps167
  go_upto_region 1 with fail
  rw [← hW2]
  clear hW2
  go_wp2_with fail
  refine HC.out.mono ?_
  rintro e W3 ⟨rfl, b3⟩
  go_wp2_with fail
  go_ret
  exact ⟨rfl, HB2.out.trans (b3.mono HB2.out.size)⟩
set_option maxHeartbeats 2000000 in
set_option maxRecDepth 100000 in
theorem idxN_any (n0 : Nat) (w0 : World) (l : List Bd) (gv gp gm : Nat) (hM : mayL l = true) (ps : List Tm) (hps : ∀ x ∈ ps, testB x = true ∧ x.nodes ≤ 100000) (A : Option Addr) (cap g : Nat) (W : World) (hU : Und n0 w0 l gv gp gm W) (hW : WTab11 W) (hR : TRow (· < W.heap.size) W A ps.length cap ps) (hg : W.cell? ⟨g, 0, none⟩ = some (.func (.func 98) #[.agg #[.func (.func 160) #[] #[.pointer (some ⟨gv, 0, none⟩), .pointer (some ⟨gp, 0, none⟩)]]] #[])) :
    Calls Tryz.prog 201 #[.slice A ps.length cap, .func (.func 167) #[] #[.pointer (some ⟨g, 0, none⟩)]] W
      fun e w' => (∃ r : Int, e = .returned (.int .i64 r) ∧ decide (0 ≤ r) = !ps.all (tstT l)) ∧ Below W.heap.size W w' := by
  have hmax := hR.max
  unfold maxLen at hmax
  have HR := Lib.hid hR
  have HG := Lib.hid hg
  have HU := Lib.hid hU
  have HW := Lib.hid hW
  have HPS := Lib.hid hps
  have HMM := Lib.hid hM
  clear hR hg hU hW hps hM
  go_enter Tryz.func201, Tryz.ntmps201
  go_wp2_with fail
  go_loopw [8] (fun i wr => ∃ j : Nat, j ≤ ps.length ∧ i = .int .i64 j ∧ Hid ((ps.take j).all (tstT l) = true) ∧ Hid (Below W.heap.size W wr)) (fun i _ => ps.length - (intOf i).toNat)
  case atStart => exact ⟨0, Nat.zero_le _, rfl, Lib.hid (by simp), Lib.hid (Below.refl _ _)⟩
  case round =>
    obtain ⟨j, hj, rfl, HM, HB⟩ := hrel
    by_cases hlt : j < ps.length
    · obtain ⟨y, hy⟩ : ∃ y, ps[j]? = some y := ⟨ps[j], List.getElem?_eq_getElem hlt⟩
      obtain ⟨ad, u, rfl, had, hE, hTy⟩ := HR.out.at_ j y hy
      have hEr := hE.keep (HB.out.block ad.block had)
      have hTr := hTy.keep (Q := (· < wr.heap.size)) (w' := wr) (fun b hb => HB.out.block b hb) (fun b hb => Nat.lt_of_lt_of_le hb HB.out.size)
      have hpy := HPS.out y (List.mem_of_getElem? hy)
      have HC := Lib.hid (eachN1_any n0 w0 l gv gp gm HMM.out y hpy.1 hpy.2 u g wr (HU.out.under HB.out) (HW.out.under HB.out) hTr ((HB.out.cell (World.block_lt_of_cell? W _ HG.out)).trans HG.out))
      obtain ⟨k', n', s', t', L', A', cap', -, rfl⟩ : ∃ k' n' s' t' L' A' cap', y = Tm.mk k' n' s' t' L' ∧ u = .agg #[.int .i8 k', .int .i64 n', .string s', .string t', .slice A' L'.length cap'] := by
        cases hTy; exact ⟨_, _, _, _, _, _, _, rfl, rfl⟩
      obtain ⟨c0, c1, c2, c3, c4, hcc, e0, e1, e2, e3, e4⟩ := hEr
      simp only [Value.agg.injEq, Array.mk.injEq, List.cons.injEq, and_true] at hcc
      obtain ⟨rfl, rfl, rfl, rfl, rfl⟩ := hcc
      have HY := Lib.hid hy
      clear hE hTy hTr hy had hpy
      go_wp2_with fail
      refine HC.out.mono ?_
      rintro e w2 ⟨rfl, b2⟩
      have HB2 := Lib.hid (HB.out.trans (b2.mono HB.out.size))
      clear b2 e0 e1 e2 e3 e4
      cases hc : tstT l y
      · go_wp2_with fail
        go_ret
        refine ⟨⟨_, rfl, ?_⟩, HB2.out⟩
        have hm : ps.all (tstT l) = false := by
          rw [List.all_eq_false]
          exact ⟨y, List.mem_of_getElem? HY.out, by simp [hc]⟩
        rw [hm]
        simp
      · go_wp2_with fail
        go_roundw
        case rel =>
          refine ⟨j + 1, by omega, by go_num, Lib.hid ?_, HB2⟩
          rw [List.take_add_one, HY.out, List.all_append, HM.out]
          simp [hc]
        case measure => simp [intOf]; omega
    · obtain rfl : j = ps.length := by omega
      go_wp2_with fail
      go_ret
      refine ⟨⟨_, rfl, ?_⟩, HB.out⟩
      have hm := HM.out
      rw [List.take_length] at hm
      rw [hm]
      rfl
set_option maxHeartbeats 1000000 in
set_option maxRecDepth 100000 in
theorem hasN_any (n0 : Nat) (w0 : World) (l : List Bd) (gv gp gm : Nat) (hM : mayL l = true) (ps : List Tm) (hps : ∀ x ∈ ps, testB x = true ∧ x.nodes ≤ 100000) (A : Option Addr) (cap g : Nat) (W : World) (hU : Und n0 w0 l gv gp gm W) (hW : WTab11 W) (hR : TRow (· < W.heap.size) W A ps.length cap ps) (hg : W.cell? ⟨g, 0, none⟩ = some (.func (.func 98) #[.agg #[.func (.func 160) #[] #[.pointer (some ⟨gv, 0, none⟩), .pointer (some ⟨gp, 0, none⟩)]]] #[])) :
    Calls Tryz.prog 130 #[.slice A ps.length cap, .func (.func 167) #[] #[.pointer (some ⟨g, 0, none⟩)]] W
      fun e w' => e = .returned (.bool (!ps.all (tstT l))) ∧ Below W.heap.size W w' := by
  have HC := Lib.hid (idxN_any n0 w0 l gv gp gm hM ps hps A cap g W hU hW hR hg)
  clear hR hg hU hW hps hM
  go_enter Tryz.func130, Tryz.ntmps130
  go_wp2_with fail
  refine HC.out.mono ?_
  rintro e w2 ⟨⟨r, rfl, hr⟩, b2⟩
  have HRR := Lib.hid hr
  clear hr
  go_wp2_with fail
  go_ret
  exact ⟨ret_bool HRR.out, b2⟩
set_option maxHeartbeats 1000000 in
set_option maxRecDepth 100000 in
theorem eachN_any (n0 : Nat) (w0 : World) (l : List Bd) (gv gp gm : Nat) (hM : mayL l = true) (ps : List Tm) (hps : ∀ x ∈ ps, testB x = true ∧ x.nodes ≤ 100000) (A : Option Addr) (pn cap : Nat) (W : World) (hU : Und n0 w0 l gv gp gm W) (hW : WTab11 W) (hR : TRow (· < W.heap.size) W A pn cap ps) :
    Calls Tryz.prog 102 #[.slice A pn cap, .func (.func 98) #[.agg #[.func (.func 160) #[] #[.pointer (some ⟨gv, 0, none⟩), .pointer (some ⟨gp, 0, none⟩)]]] #[]] W
      fun e w' => e = .returned (.bool (ps.all (tstT l))) ∧ Below W.heap.size W w' := by
  obtain rfl := hR.len
  obtain ⟨w1, hw1⟩ : ∃ w1, w1 = W.alloc (.cells #[.func (.func 98) #[.agg #[.func (.func 160) #[] #[.pointer (some ⟨gv, 0, none⟩), .pointer (some ⟨gp, 0, none⟩)]]] #[]] 26) := ⟨_, rfl⟩
  have hb1 : Below W.heap.size W w1 := by rw [hw1]; exact (Below.refl _ W).alloc (Nat.le_refl _) _
  have hg1 : w1.heap[W.heap.size]? = some (.cells #[.func (.func 98) #[.agg #[.func (.func 160) #[] #[.pointer (some ⟨gv, 0, none⟩), .pointer (some ⟨gp, 0, none⟩)]]] #[]] 26 (0, 0)) := by rw [hw1]; exact block_alloc _ _
  have HC := Lib.hid (hasN_any n0 w0 l gv gp gm hM ps hps A cap W.heap.size w1 (hU.under hb1) (hW.under hb1) (hR.later hb1) (cell_of_row (i := 0) hg1 rfl))
  have HB1 := Lib.hid hb1
  clear hR hU hW hb1 hg1 hps hM
  go_enter Tryz.func102, Tryz.ntmps102
  go_upto_region 1 with fail
  rw [← hw1]
  clear hw1
  go_wp2_with fail
  refine HC.out.mono ?_
  rintro e w2 ⟨rfl, b2⟩
  go_wp2_with fail
  go_ret
  exact ⟨by simp, HB1.out.trans (b2.mono HB1.out.size)⟩
theorem guard_tests11 {x : Tm} (h : guardB x = true) : ∀ y ∈ x.l, testB y = true := by
  obtain ⟨k, n, s, t, l⟩ := x
  simp only [guardB, Bool.and_eq_true, List.all_eq_true] at h
  exact h.2
set_option maxHeartbeats 4000000 in
set_option maxRecDepth 100000 in
theorem Holds_any (l : List Bd) (x : Tm) (v : Value) (A : Option Addr) (m cap : Nat) (W : World) (hT : TmAt (· < W.heap.size) W x v) (hR : BRow (· < W.heap.size) W A m cap l) (hN : x.nodes ≤ 8200) (hE : Env11 W) :
    Calls Tryz.prog 49 #[v, .slice A m cap] W fun e w' => e = .returned (.bool (holdR l x)) ∧ Below W.heap.size W w' := by
  obtain ⟨X, hX⟩ : ∃ X, X = x := ⟨_, rfl⟩
  obtain ⟨k, n, s, t, ps⟩ := x
  have hXl : X.l = ps := by rw [hX]; rfl
  obtain ⟨NA, nc, rfl, hRn, -⟩ := hT.parts
  rw [← hX] at hT hN ⊢
  have HX := Lib.hid hXl
  clear hX hXl
  have b2 : Below W.heap.size W (W.alloc (.cells #[.int .i8 k, .int .i64 n, .string s, .string t, .slice NA ps.length nc] 25)) := (Below.refl _ W).alloc (Nat.le_refl _) _
  have g0 := block_alloc W (.cells #[.int .i8 k, .int .i64 n, .string s, .string t, .slice NA ps.length nc] 25)
  obtain ⟨W2, hW2⟩ : ∃ W2, W2 = W.alloc (.cells #[.int .i8 k, .int .i64 n, .string s, .string t, .slice NA ps.length nc] 25) := ⟨_, rfl⟩
  rw [← hW2] at g0 b2
  have HB2 := Lib.hid b2
  have HG0 := Lib.hid g0
  have HT := Lib.hid hT
  have HR := Lib.hid hR
  have HRN := Lib.hid hRn
  have HE := Lib.hid hE
  have HN := Lib.hid hN
  obtain ⟨x0, x1, x2, x3, x4⟩ := five_of g0
  clear g0 b2 hT hR hE hN hRn
  go_enter Tryz.func49, Tryz.ntmps49
  go_upto_region 1 with fail
  rw [← hW2]
  clear hW2
  refine wp_region_held (S := fun V => Below W2.heap.size W2 V) (by kernel_rfl) ?_
  show wpAnyH _ _ _ _ _ _ _ _ W2.drew
  have hS : Below W2.heap.size W2 W2.drew := ⟨rfl, rfl, rfl, Nat.le_refl _, fun _ _ => rfl⟩
  generalize W2.drew = V0 at hS ⊢
  refine wpAnyH_take (i := 0) (oi := ⟨some 5, _, _, _, _, _⟩) (v := ?_) rfl (by kernel_rfl) (by kernel_rfl) (by kernel_rfl) (fun _ _ _ h => h) (Or.inl ⟨by kernel_rfl, ?_⟩) (by assumption) ?_; rotate_left; (intro VV hSw; (try dsimp only at hSw); have hr := (hSw.block _ (heap_lt HG0.out)).trans HG0.out; obtain ⟨y0, y1, y2, y3, y4⟩ := five_of hr; go_simp; first | done | with_reducible rfl); (try simp only [Act.put, sI, sZ, sS])
  refine wpAnyH_ready (rs := [1]) (by kernel_rfl) (by simp) ?_
  refine AllReadyH.cons (o := ⟨some 6, _, _, _, _, _⟩) rfl (fun K hK => ?_) AllReadyH.nil
  · rw [if_pos (by rfl)]
    go_simp
    refine (guard7_ok X _ V0 (HT.out.laterN (HB2.out.trans (hS.mono HB2.out.size))) HN.out (HE.out.env.under (HB2.out.trans (hS.mono HB2.out.size)))).mono ?_
    rintro e V1 ⟨rfl, b1⟩
    have hS1 := hS.trans (b1.mono hS.size)
    refine hK.out _ _ hS1 (fun hSn => ?_)
    clear hK K hSn; (try simp only [Act.put, sI, sZ, sS])
    clear hS b1
    have hS := hS1
    clear hS1
    refine wpAnyH_take (i := 2) (oi := ⟨some 7, _, _, _, _, _⟩) (v := ?_) rfl (by kernel_rfl) (by kernel_rfl) (by kernel_rfl) (fun _ _ _ h => h) (Or.inl ⟨by kernel_rfl, ?_⟩) (by assumption) ?_; rotate_left; (intro VV hSw; (try dsimp only at hSw); go_simp; first | done | with_reducible rfl); (try simp only [Act.put, sI, sZ, sS])
    cases hbt : (fitsB X && guardB X) with
    | false =>
      refine wpAnyH_take (i := 3) (oi := ⟨some 8, _, _, _, _, _⟩) (v := undef) rfl (by kernel_rfl) (by kernel_rfl) (by kernel_rfl) (fun _ _ _ h => h) (Or.inr ⟨by kernel_rfl, rfl⟩) (by assumption) ?_; (try simp only [Act.put, sI, sZ, sS])
      refine wpAnyH_take (i := 4) (oi := ⟨some 9, _, _, _, _, _⟩) (v := undef) rfl (by kernel_rfl) (by kernel_rfl) (by kernel_rfl) (fun _ _ _ h => h) (Or.inr ⟨by kernel_rfl, rfl⟩) (by assumption) ?_; (try simp only [Act.put, sI, sZ, sS])
      refine wpAnyH_take (i := 5) (oi := ⟨some 10, _, _, _, _, _⟩) (v := ?_) rfl (by kernel_rfl) (by kernel_rfl) (by kernel_rfl) (fun _ _ _ h => h) (Or.inl ⟨by kernel_rfl, ?_⟩) (by assumption) ?_; rotate_left; (intro VV hSw; (try dsimp only at hSw); go_simp; first | done | with_reducible rfl); (try simp only [Act.put, sI, sZ, sS])
      refine wpAnyH_take (i := 6) (oi := ⟨some 11, _, _, _, _, _⟩) (v := ?_) rfl (by kernel_rfl) (by kernel_rfl) (by kernel_rfl) (fun _ _ _ h => h) (Or.inl ⟨by kernel_rfl, ?_⟩) (by assumption) ?_; rotate_left; (intro VV hSw; (try dsimp only at hSw); go_simp; first | done | with_reducible rfl); (try simp only [Act.put, sI, sZ, sS])
      refine wpAnyH_take (i := 7) (oi := ⟨some 12, _, _, _, _, _⟩) (v := undef) rfl (by kernel_rfl) (by kernel_rfl) (by kernel_rfl) (fun _ _ _ h => h) (Or.inr ⟨by kernel_rfl, rfl⟩) (by assumption) ?_; (try simp only [Act.put, sI, sZ, sS])
      refine wpAnyH_take (i := 8) (oi := ⟨some 13, _, _, _, _, _⟩) (v := undef) rfl (by kernel_rfl) (by kernel_rfl) (by kernel_rfl) (fun _ _ _ h => h) (Or.inr ⟨by kernel_rfl, rfl⟩) (by assumption) ?_; (try simp only [Act.put, sI, sZ, sS])
      refine wpAnyH_take (i := 9) (oi := ⟨some 14, _, _, _, _, _⟩) (v := undef) rfl (by kernel_rfl) (by kernel_rfl) (by kernel_rfl) (fun _ _ _ h => h) (Or.inr ⟨by kernel_rfl, rfl⟩) (by assumption) ?_; (try simp only [Act.put, sI, sZ, sS])
      refine wpAnyH_take (i := 10) (oi := ⟨some 15, _, _, _, _, _⟩) (v := undef) rfl (by kernel_rfl) (by kernel_rfl) (by kernel_rfl) (fun _ _ _ h => h) (Or.inr ⟨by kernel_rfl, rfl⟩) (by assumption) ?_; (try simp only [Act.put, sI, sZ, sS])
      refine wpAnyH_take (i := 11) (oi := ⟨some 16, _, _, _, _, _⟩) (v := undef) rfl (by kernel_rfl) (by kernel_rfl) (by kernel_rfl) (fun _ _ _ h => h) (Or.inr ⟨by kernel_rfl, rfl⟩) (by assumption) ?_; (try simp only [Act.put, sI, sZ, sS])
      refine wpAnyH_take (i := 12) (oi := ⟨some 17, _, _, _, _, _⟩) (v := undef) rfl (by kernel_rfl) (by kernel_rfl) (by kernel_rfl) (fun _ _ _ h => h) (Or.inr ⟨by kernel_rfl, rfl⟩) (by assumption) ?_; (try simp only [Act.put, sI, sZ, sS])
      refine wpAnyH_take (i := 13) (oi := ⟨some 18, _, _, _, _, _⟩) (v := undef) rfl (by kernel_rfl) (by kernel_rfl) (by kernel_rfl) (fun _ _ _ h => h) (Or.inr ⟨by kernel_rfl, rfl⟩) (by assumption) ?_; (try simp only [Act.put, sI, sZ, sS])
      refine wpAnyH_take (i := 14) (oi := ⟨some 19, _, _, _, _, _⟩) (v := ?_) rfl (by kernel_rfl) (by kernel_rfl) (by kernel_rfl) (fun _ _ _ h => h) (Or.inl ⟨by kernel_rfl, ?_⟩) (by assumption) ?_; rotate_left; (intro VV hSw; (try dsimp only at hSw); go_simp; first | done | with_reducible rfl); (try simp only [Act.put, sI, sZ, sS])
      refine wpAnyH_take (i := 15) (oi := ⟨some 4, _, _, _, _, _⟩) (v := ?_) rfl (by kernel_rfl) (by kernel_rfl) (by kernel_rfl) (fun _ _ _ h => h) (Or.inl ⟨by kernel_rfl, ?_⟩) (by assumption) ?_; rotate_left; (intro VV hSw; (try dsimp only at hSw); go_simp; first | done | with_reducible rfl); (try simp only [Act.put, sI, sZ, sS])
      refine wpAnyH_done (by kernel_rfl) ?_ _
      have HFIN := Lib.hid (HB2.out.trans (hS.mono HB2.out.size))
      go_wp2_with fail
      go_ret
      exact ⟨ret_bool (by unfold holdR; rw [hbt]; rfl), HFIN.out⟩
    | true =>
      refine wpAnyH_take (i := 3) (oi := ⟨some 8, _, _, _, _, _⟩) (v := ?_) rfl (by kernel_rfl) (by kernel_rfl) (by kernel_rfl) (fun _ _ _ h => h) (Or.inl ⟨by kernel_rfl, ?_⟩) (by assumption) ?_; rotate_left; (intro VV hSw; (try dsimp only at hSw); go_simp; first | done | with_reducible rfl); (try simp only [Act.put, sI, sZ, sS])
      refine wpAnyH_ready (rs := [4]) (by kernel_rfl) (by simp) ?_
      refine AllReadyH.cons (o := ⟨some 9, _, _, _, _, _⟩) rfl (fun K hK => ?_) AllReadyH.nil
      · rw [if_pos (by rfl)]
        go_simp
        have hbw := HB2.out.trans (hS.mono HB2.out.size)
        refine (may11_any l A m cap V1 (HR.out.later hbw) (HE.out.env.under hbw).spans).mono ?_
        rintro e V2 ⟨rfl, b2⟩
        have hS1 := hS.trans (b2.mono hS.size)
        refine hK.out _ _ hS1 (fun hSn => ?_)
        clear hK K hSn; (try simp only [Act.put, sI, sZ, sS])
        clear hS b2 hbw
        have hS := hS1
        clear hS1
        refine wpAnyH_take (i := 5) (oi := ⟨some 10, _, _, _, _, _⟩) (v := ?_) rfl (by kernel_rfl) (by kernel_rfl) (by kernel_rfl) (fun _ _ _ h => h) (Or.inl ⟨by kernel_rfl, ?_⟩) (by assumption) ?_; rotate_left; (intro VV hSw; (try dsimp only at hSw); go_simp; first | done | with_reducible rfl); (try simp only [Act.put, sI, sZ, sS])
        refine wpAnyH_take (i := 6) (oi := ⟨some 11, _, _, _, _, _⟩) (v := ?_) rfl (by kernel_rfl) (by kernel_rfl) (by kernel_rfl) (fun _ _ _ h => h) (Or.inl ⟨by kernel_rfl, ?_⟩) (by assumption) ?_; rotate_left; (intro VV hSw; (try dsimp only at hSw); go_simp; first | done | with_reducible rfl); (try simp only [Act.put, sI, sZ, sS])
        cases hbm : mayL l with
        | false =>
          refine wpAnyH_take (i := 7) (oi := ⟨some 12, _, _, _, _, _⟩) (v := undef) rfl (by kernel_rfl) (by kernel_rfl) (by kernel_rfl) (fun _ _ _ h => h) (Or.inr ⟨by kernel_rfl, rfl⟩) (by assumption) ?_; (try simp only [Act.put, sI, sZ, sS])
          refine wpAnyH_take (i := 8) (oi := ⟨some 13, _, _, _, _, _⟩) (v := undef) rfl (by kernel_rfl) (by kernel_rfl) (by kernel_rfl) (fun _ _ _ h => h) (Or.inr ⟨by kernel_rfl, rfl⟩) (by assumption) ?_; (try simp only [Act.put, sI, sZ, sS])
          refine wpAnyH_take (i := 9) (oi := ⟨some 14, _, _, _, _, _⟩) (v := undef) rfl (by kernel_rfl) (by kernel_rfl) (by kernel_rfl) (fun _ _ _ h => h) (Or.inr ⟨by kernel_rfl, rfl⟩) (by assumption) ?_; (try simp only [Act.put, sI, sZ, sS])
          refine wpAnyH_take (i := 10) (oi := ⟨some 15, _, _, _, _, _⟩) (v := undef) rfl (by kernel_rfl) (by kernel_rfl) (by kernel_rfl) (fun _ _ _ h => h) (Or.inr ⟨by kernel_rfl, rfl⟩) (by assumption) ?_; (try simp only [Act.put, sI, sZ, sS])
          refine wpAnyH_take (i := 11) (oi := ⟨some 16, _, _, _, _, _⟩) (v := undef) rfl (by kernel_rfl) (by kernel_rfl) (by kernel_rfl) (fun _ _ _ h => h) (Or.inr ⟨by kernel_rfl, rfl⟩) (by assumption) ?_; (try simp only [Act.put, sI, sZ, sS])
          refine wpAnyH_take (i := 12) (oi := ⟨some 17, _, _, _, _, _⟩) (v := undef) rfl (by kernel_rfl) (by kernel_rfl) (by kernel_rfl) (fun _ _ _ h => h) (Or.inr ⟨by kernel_rfl, rfl⟩) (by assumption) ?_; (try simp only [Act.put, sI, sZ, sS])
          refine wpAnyH_take (i := 13) (oi := ⟨some 18, _, _, _, _, _⟩) (v := undef) rfl (by kernel_rfl) (by kernel_rfl) (by kernel_rfl) (fun _ _ _ h => h) (Or.inr ⟨by kernel_rfl, rfl⟩) (by assumption) ?_; (try simp only [Act.put, sI, sZ, sS])
          refine wpAnyH_take (i := 14) (oi := ⟨some 19, _, _, _, _, _⟩) (v := ?_) rfl (by kernel_rfl) (by kernel_rfl) (by kernel_rfl) (fun _ _ _ h => h) (Or.inl ⟨by kernel_rfl, ?_⟩) (by assumption) ?_; rotate_left; (intro VV hSw; (try dsimp only at hSw); go_simp; first | done | with_reducible rfl); (try simp only [Act.put, sI, sZ, sS])
          refine wpAnyH_take (i := 15) (oi := ⟨some 4, _, _, _, _, _⟩) (v := ?_) rfl (by kernel_rfl) (by kernel_rfl) (by kernel_rfl) (fun _ _ _ h => h) (Or.inl ⟨by kernel_rfl, ?_⟩) (by assumption) ?_; rotate_left; (intro VV hSw; (try dsimp only at hSw); go_simp; first | done | with_reducible rfl); (try simp only [Act.put, sI, sZ, sS])
          refine wpAnyH_done (by kernel_rfl) ?_ _
          have HFIN := Lib.hid (HB2.out.trans (hS.mono HB2.out.size))
          go_wp2_with fail
          go_ret
          exact ⟨ret_bool (by unfold holdR; rw [hbt, hbm]; rfl), HFIN.out⟩
        | true =>
          refine wpAnyH_take (i := 7) (oi := ⟨some 12, _, _, _, _, _⟩) (v := ?_) rfl (by kernel_rfl) (by kernel_rfl) (by kernel_rfl) (fun _ _ _ h => h) (Or.inl ⟨by kernel_rfl, ?_⟩) (by assumption) ?_; rotate_left; (intro VV hSw; (try dsimp only at hSw); go_simp; first | done | with_reducible rfl); (try simp only [Act.put, sI, sZ, sS])
          refine wpAnyH_take (i := 8) (oi := ⟨some 13, _, _, _, _, _⟩) (v := ?_) rfl (by kernel_rfl) (by kernel_rfl) (by kernel_rfl) (fun _ _ _ h => h) (Or.inl ⟨by kernel_rfl, ?_⟩) (by assumption) ?_; rotate_left; (intro VV hSw; (try dsimp only at hSw); have hr := (hSw.block _ (heap_lt HG0.out)).trans HG0.out; obtain ⟨y0, y1, y2, y3, y4⟩ := five_of hr; go_simp; first | done | with_reducible rfl); (try simp only [Act.put, sI, sZ, sS])
          refine wpAnyH_take (i := 9) (oi := ⟨some 14, _, _, _, _, _⟩) (v := ?_) rfl (by kernel_rfl) (by kernel_rfl) (by kernel_rfl) (fun _ _ _ h => h) (Or.inl ⟨by kernel_rfl, ?_⟩) (by assumption) ?_; rotate_left; (intro VV hSw; (try dsimp only at hSw); go_simp; first | done | with_reducible rfl); (try simp only [Act.put, sI, sZ, sS])
          refine wpAnyH_ready (rs := [10]) (by kernel_rfl) (by simp) ?_
          refine AllReadyH.cons (o := ⟨some 15, _, _, _, _, _⟩) rfl (fun K hK => ?_) AllReadyH.nil
          · rw [if_pos (by rfl)]
            go_simp
            have hbw := HB2.out.trans (hS.mono HB2.out.size)
            refine (under_any V2.heap.size l A m cap V2 (HR.out.later hbw) (Nat.le_refl _) (HE.out.env.under hbw).spans).mono ?_
            rintro e V3 ⟨gv, gp, gm, rfl, hu, b3⟩
            have hS1 := hS.trans (b3.mono hS.size)
            unfold vf11
            refine hK.out _ _ hS1 (fun hSn => ?_)
            clear hK K hSn; (try simp only [Act.put, sI, sZ, sS])
            clear hS b3 hbw
            have hS := hS1
            clear hS1
            refine wpAnyH_take (i := 11) (oi := ⟨some 16, _, _, _, _, _⟩) (v := ?_) rfl (by kernel_rfl) (by kernel_rfl) (by kernel_rfl) (fun _ _ _ h => h) (Or.inl ⟨by kernel_rfl, ?_⟩) (by assumption) ?_; rotate_left; (intro VV hSw; (try dsimp only at hSw); go_simp; first | done | with_reducible rfl); (try simp only [Act.put, sI, sZ, sS])
            refine wpAnyH_take (i := 12) (oi := ⟨some 17, _, _, _, _, _⟩) (v := ?_) rfl (by kernel_rfl) (by kernel_rfl) (by kernel_rfl) (fun _ _ _ h => h) (Or.inl ⟨by kernel_rfl, ?_⟩) (by assumption) ?_; rotate_left; (intro VV hSw; (try dsimp only at hSw); go_simp; first | done | with_reducible rfl); (try simp only [Act.put, sI, sZ, sS])
            refine wpAnyH_ready (rs := [13]) (by kernel_rfl) (by simp) ?_
            refine AllReadyH.cons (o := ⟨some 18, _, _, _, _, _⟩) rfl (fun K hK => ?_) AllReadyH.nil
            · rw [if_pos (by rfl)]
              go_simp
              have hbw := HB2.out.trans (hS.mono HB2.out.size)
              have htb : ∀ y ∈ ps, testB y = true ∧ y.nodes ≤ 100000 := fun y hy => ⟨guard_tests11 (by simp at hbt; exact hbt.2) y (by rw [HX.out]; exact hy), by
                have h1 := HN.out
                have h2 := Tm.nodes_mem hy
                obtain ⟨xk, xn, xs, xt, xl⟩ := X
                have h3 : xl = ps := HX.out
                rw [Tm.nodes_mk, h3] at h1
                omega⟩
              refine (eachN_any _ V2 l gv gp gm hbm ps htb NA ps.length nc V3 hu (HE.out.words.under hbw) (HRN.out.later hbw)).mono ?_
              rintro e V4 ⟨rfl, b4⟩
              have hS1 := hS.trans (b4.mono hS.size)
              refine hK.out _ _ hS1 (fun hSn => ?_)
              clear hK K hSn; (try simp only [Act.put, sI, sZ, sS])
              refine wpAnyH_take (i := 14) (oi := ⟨some 19, _, _, _, _, _⟩) (v := ?_) rfl (by kernel_rfl) (by kernel_rfl) (by kernel_rfl) (fun _ _ _ h => h) (Or.inl ⟨by kernel_rfl, ?_⟩) (by assumption) ?_; rotate_left; (intro VV hSw; (try dsimp only at hSw); go_simp; first | done | with_reducible rfl); (try simp only [Act.put, sI, sZ, sS])
              refine wpAnyH_take (i := 15) (oi := ⟨some 4, _, _, _, _, _⟩) (v := ?_) rfl (by kernel_rfl) (by kernel_rfl) (by kernel_rfl) (fun _ _ _ h => h) (Or.inl ⟨by kernel_rfl, ?_⟩) (by assumption) ?_; rotate_left; (intro VV hSw; (try dsimp only at hSw); go_simp; first | done | with_reducible rfl); (try simp only [Act.put, sI, sZ, sS])
              refine wpAnyH_done (by kernel_rfl) ?_ _
              have HFIN := Lib.hid (HB2.out.trans (hS1.mono HB2.out.size))
              go_wp2_with fail
              go_ret
              exact ⟨ret_bool (by unfold holdR; rw [hbt, hbm, HX.out]; rfl), HFIN.out⟩
end Go.Proofs.YtkceoiaaiaomoaaGreatDoor
end
section
set_option linter.unusedVariables false
set_option linter.unusedSimpArgs false
namespace Go.Proofs.YtkceoiaaiaomoaaGreatDoor
open Go.RowKit

def AnyB (e : Ending) : Prop := ∃ b : Bool, e = .returned (.bool b)
set_option maxHeartbeats 2000000 in
set_option maxRecDepth 100000 in
theorem great11_any (l : List Bd) (A : Option Addr) (pn cap : Nat) (W : World) (hR : BRow (· < W.heap.size) W A pn cap l) :
    Calls Tryz.prog 41 #[.slice A pn cap] W fun e w' => AnyB e ∧ Below W.heap.size W w' := by
  obtain rfl := hR.len
  have hmax := hR.max
  unfold maxLen at hmax
  have HR := Lib.hid hR
  clear hR
  go_enter Tryz.func41, Tryz.ntmps41
  go_wp2_with fail
  go_loopw [6] (fun i wr => ∃ j : Nat, j ≤ l.length ∧ i = .int .i64 j ∧ Hid (Below W.heap.size W wr)) (fun i _ => l.length - (intOf i).toNat)
  case atStart => exact ⟨0, Nat.zero_le _, rfl, Lib.hid (Below.refl _ _)⟩
  case round =>
    obtain ⟨j, hj, rfl, HB⟩ := hrel
    by_cases hlt : j < l.length
    · obtain ⟨y, hy⟩ : ∃ y, l[j]? = some y := ⟨l[j], List.getElem?_eq_getElem hlt⟩
      obtain ⟨ad, u, rfl, had, hsz, hE, hTy⟩ := HR.out.at_ j y hy
      have hEr := hE.keep (HB.out.block ad.block had)
      have hTr := hTy.keep (Q := (· < wr.heap.size)) (w' := wr) (fun b hb => HB.out.block b hb) (fun b hb => Nat.lt_of_lt_of_le hb HB.out.size)
      have HC := Lib.hid (Great_any y.2 u wr hTr)
      obtain ⟨ys, yt⟩ := y
      obtain ⟨k', n', s', t', A', m', c', rfl⟩ : ∃ k' n' s' t' A' m' c', u = .agg #[.int .i8 k', .int .i64 n', .string s', .string t', .slice A' m' c'] := by
        dsimp only at hTy; cases hTy; exact ⟨_, _, _, _, _, _, _, rfl⟩
      obtain ⟨c0, c1, c2, c3, c4, hcc, es, e0, e1, e2, e3, e4⟩ := hEr
      simp only [Value.agg.injEq, Array.mk.injEq, List.cons.injEq, and_true] at hcc
      obtain ⟨rfl, rfl, rfl, rfl, rfl⟩ := hcc
      clear hE hTy hTr hy had hsz
      by_cases h40 : (40 : Int) ≤ (j : Int)
      · have h41 : ¬ (j : Int) < 40 := by omega
        have h42 : decide ((40 : Int) ≤ (j : Int)) = true := decide_eq_true h40
        clear h40 h41
        go_wp2_with fail
        go_ret
        exact ⟨⟨_, rfl⟩, HB.out⟩
      · have h41 : (j : Int) < 40 := by omega
        have h42 : decide ((40 : Int) ≤ (j : Int)) = false := decide_eq_false h40
        go_wp2_with fail
        refine HC.out.mono ?_
        rintro e w2 ⟨b, rfl, -, b2⟩
        have HB2 := Lib.hid (HB.out.trans (b2.mono HB.out.size))
        clear b2 es e0 e1 e2 e3 e4
        cases b
        · go_wp2_with fail
          go_roundw
          case rel => exact ⟨j + 1, by omega, by go_num, HB2⟩
          case measure => simp [intOf]; omega
        · go_wp2_with fail
          go_ret
          exact ⟨⟨_, rfl⟩, HB2.out⟩
    · obtain rfl : j = l.length := by omega
      go_wp2_with fail
      go_ret
      exact ⟨⟨_, rfl⟩, HB.out⟩
def moreT11 (y : Tm) : Tm := .mk 11 0 ⟨#[62]⟩ ⟨#[]⟩ [.mk 11 0 ⟨#[43]⟩ ⟨#[]⟩ [.mk 5 0 ⟨#[88]⟩ ⟨#[]⟩ [], y], .mk 6 2 ⟨#[]⟩ ⟨#[]⟩ []]
def isX : Tm := .mk 12 0 ⟨#[105, 115, 95, 105, 110, 116, 101, 103, 101, 114]⟩ ⟨#[]⟩ [.mk 5 0 ⟨#[88]⟩ ⟨#[]⟩ []]
def bx3 : List Bd := [(⟨#[88]⟩, intT 3)]
theorem wk1 : holdR bx3 (.mk 4 0 ⟨#[]⟩ ⟨#[]⟩ [moreT11 (.mk 6 0 ⟨#[]⟩ ⟨#[]⟩ []), isX]) = true := by decide +kernel
theorem wk2 : testR bx3 (moreT11 (.mk 7 0 ⟨#[97]⟩ ⟨#[]⟩ [])) = false := by decide +kernel
theorem wk3 : testR bx3 isX = true := by decide +kernel
theorem binds11_any (W : World) : Calls Tryz.prog 89 #[] W fun e w' => e = .returned (.slice (some ⟨W.heap.size, 0, none⟩) 1 1) ∧ Below W.heap.size W w' ∧ BRow (· < w'.heap.size) w' (some ⟨W.heap.size, 0, none⟩) 1 1 bx3 := by
  go_enter Tryz.func89, Tryz.ntmps89
  go_wp2
  go_ret
  have hg := block_alloc W (.cells #[.string ⟨#[88]⟩, .int .i8 0, .int .i64 3, .string ⟨#[]⟩, .string ⟨#[]⟩, .slice none 0 0] 61)
  refine ⟨rfl, (Below.refl _ W).alloc (Nat.le_refl _) _, ⟨rfl, by decide, by decide, fun j b hj => ?_⟩⟩
  match j, hj with
  | 0, hj =>
    simp [bx3] at hj
    subst hj
    exact ⟨_, _, rfl, by simp, by decide, ⟨_, _, _, _, _, rfl, cell_of_row (i := 0) hg rfl, cell_of_row (i := 1) hg rfl, cell_of_row (i := 2) hg rfl, cell_of_row (i := 3) hg rfl, cell_of_row (i := 4) hg rfl, cell_of_row (i := 5) hg rfl⟩, TmAt.of_row (.nil _ _ none 0) (by decide) (by decide) (by decide) (by decide)⟩
  | j + 1, hj => simp [bx3] at hj
set_option maxHeartbeats 4000000 in
set_option maxRecDepth 100000 in
theorem more11_in (P : Nat → Prop) (y : Tm) (v : Value) (W : World) (hP : ∀ b, P b → b < W.heap.size) (hT : TmAt P W y v) : Calls Tryz.prog 88 #[v] W fun e w' => ∃ k9 n9 s9 t9 A9 m9 c9, e = .returned (.agg #[.int .i8 k9, .int .i64 n9, .string s9, .string t9, .slice A9 m9 c9]) ∧ TmAt (fun b => P b ∨ (W.heap.size ≤ b ∧ b < w'.heap.size)) w' (moreT11 y) (.agg #[.int .i8 k9, .int .i64 n9, .string s9, .string t9, .slice A9 m9 c9]) ∧ Below W.heap.size W w' := by
  obtain ⟨k, n, s, t, A, m, c, rfl⟩ : ∃ k n s t A m c, v = .agg #[.int .i8 k, .int .i64 n, .string s, .string t, .slice A m c] := by cases hT; exact ⟨_, _, _, _, _, _, _, rfl⟩
  have HT := Lib.hid hT
  clear hT
  go_enter Tryz.func88, Tryz.ntmps88
  go_wp2_with fail
  simp only [Nat.add_assoc, Nat.reduceAdd]
  obtain ⟨h0, z0⟩ := here_of (.cells #[.int .i8 k, .int .i64 n, .string s, .string t, .slice A m c] 25) (rfl : W.heap.size = W.heap.size)
  obtain ⟨h1, z1⟩ := here_of (.cells #[.int .i8 11, .int .i64 0, .string ⟨#[62]⟩, .string ⟨#[]⟩, .slice (some ⟨W.heap.size + 4, 0, none⟩) 2 2] 25) z0
  obtain ⟨h2, z2⟩ := here_of (.cells #[.int .i8 5, .int .i64 0, .string ⟨#[88]⟩, .string ⟨#[]⟩, .slice none 0 0] 25) z1
  obtain ⟨h3, z3⟩ := here_of (.cells #[.int .i8 5, .int .i64 0, .string ⟨#[88]⟩, .string ⟨#[]⟩, .slice none 0 0, .int .i8 k, .int .i64 n, .string s, .string t, .slice A m c] 25) z2
  obtain ⟨h4, z4⟩ := here_of (.cells #[.int .i8 11, .int .i64 0, .string ⟨#[43]⟩, .string ⟨#[]⟩, .slice (some ⟨W.heap.size + 3, 0, none⟩) 2 2, .int .i8 6, .int .i64 2, .string ⟨#[]⟩, .string ⟨#[]⟩, .slice none 0 0] 25) z3
  have g0 := (there_of (.cells #[.int .i8 11, .int .i64 0, .string ⟨#[43]⟩, .string ⟨#[]⟩, .slice (some ⟨W.heap.size + 3, 0, none⟩) 2 2, .int .i8 6, .int .i64 2, .string ⟨#[]⟩, .string ⟨#[]⟩, .slice none 0 0] 25) (there_of (.cells #[.int .i8 5, .int .i64 0, .string ⟨#[88]⟩, .string ⟨#[]⟩, .slice none 0 0, .int .i8 k, .int .i64 n, .string s, .string t, .slice A m c] 25) (there_of (.cells #[.int .i8 5, .int .i64 0, .string ⟨#[88]⟩, .string ⟨#[]⟩, .slice none 0 0] 25) (there_of (.cells #[.int .i8 11, .int .i64 0, .string ⟨#[62]⟩, .string ⟨#[]⟩, .slice (some ⟨W.heap.size + 4, 0, none⟩) 2 2] 25) h0))))
  have g1 := (there_of (.cells #[.int .i8 11, .int .i64 0, .string ⟨#[43]⟩, .string ⟨#[]⟩, .slice (some ⟨W.heap.size + 3, 0, none⟩) 2 2, .int .i8 6, .int .i64 2, .string ⟨#[]⟩, .string ⟨#[]⟩, .slice none 0 0] 25) (there_of (.cells #[.int .i8 5, .int .i64 0, .string ⟨#[88]⟩, .string ⟨#[]⟩, .slice none 0 0, .int .i8 k, .int .i64 n, .string s, .string t, .slice A m c] 25) (there_of (.cells #[.int .i8 5, .int .i64 0, .string ⟨#[88]⟩, .string ⟨#[]⟩, .slice none 0 0] 25) h1)))
  have g2 := (there_of (.cells #[.int .i8 11, .int .i64 0, .string ⟨#[43]⟩, .string ⟨#[]⟩, .slice (some ⟨W.heap.size + 3, 0, none⟩) 2 2, .int .i8 6, .int .i64 2, .string ⟨#[]⟩, .string ⟨#[]⟩, .slice none 0 0] 25) (there_of (.cells #[.int .i8 5, .int .i64 0, .string ⟨#[88]⟩, .string ⟨#[]⟩, .slice none 0 0, .int .i8 k, .int .i64 n, .string s, .string t, .slice A m c] 25) h2))
  have g3 := (there_of (.cells #[.int .i8 11, .int .i64 0, .string ⟨#[43]⟩, .string ⟨#[]⟩, .slice (some ⟨W.heap.size + 3, 0, none⟩) 2 2, .int .i8 6, .int .i64 2, .string ⟨#[]⟩, .string ⟨#[]⟩, .slice none 0 0] 25) h3)
  have g4 := h4
  obtain ⟨V, hV⟩ : ∃ V, V = ((((W.alloc (.cells #[.int .i8 k, .int .i64 n, .string s, .string t, .slice A m c] 25)).alloc (.cells #[.int .i8 11, .int .i64 0, .string ⟨#[62]⟩, .string ⟨#[]⟩, .slice (some ⟨W.heap.size + 4, 0, none⟩) 2 2] 25)).alloc (.cells #[.int .i8 5, .int .i64 0, .string ⟨#[88]⟩, .string ⟨#[]⟩, .slice none 0 0] 25)).alloc (.cells #[.int .i8 5, .int .i64 0, .string ⟨#[88]⟩, .string ⟨#[]⟩, .slice none 0 0, .int .i8 k, .int .i64 n, .string s, .string t, .slice A m c] 25)).alloc (.cells #[.int .i8 11, .int .i64 0, .string ⟨#[43]⟩, .string ⟨#[]⟩, .slice (some ⟨W.heap.size + 3, 0, none⟩) 2 2, .int .i8 6, .int .i64 2, .string ⟨#[]⟩, .string ⟨#[]⟩, .slice none 0 0] 25) := ⟨_, rfl⟩
  have bV : Below W.heap.size W V := by rw [hV]; exact (((((Below.refl _ W).alloc (Nat.le_refl _) _).alloc (by omega) _).alloc (by omega) _).alloc (by omega) _).alloc (by omega) _
  rw [← hV] at g0 g1 g2 g3 g4 z4
  rw [← hV]
  have tX : TmAt (fun b => P b ∨ (W.heap.size ≤ b ∧ b < V.heap.size)) V (.mk 5 0 ⟨#[88]⟩ ⟨#[]⟩ []) (.agg #[.int .i8 5, .int .i64 0, .string ⟨#[88]⟩, .string ⟨#[]⟩, .slice none 0 0]) := .leaf _ _ 5 0 ⟨#[88]⟩ (by decide) (by decide) (by decide)
  have tI : TmAt (fun b => P b ∨ (W.heap.size ≤ b ∧ b < V.heap.size)) V (.mk 6 2 ⟨#[]⟩ ⟨#[]⟩ []) (.agg #[.int .i8 6, .int .i64 2, .string ⟨#[]⟩, .string ⟨#[]⟩, .slice none 0 0]) := .leaf _ _ 6 2 ⟨#[]⟩ (by decide) (by decide) (by decide)
  have r3 := row2_of (P := (fun b => P b ∨ (W.heap.size ≤ b ∧ b < V.heap.size))) g3 (.inr ⟨by omega, heap_lt g3⟩) tX (HT.out.keep (fun b hb => bV.block b (hP b hb)) (fun b hb => .inl hb))
  have tP := TmAt.of_row (k := 11) (n := 0) (s := ⟨#[43]⟩) (t := ⟨#[]⟩) (l := [_, _]) r3 (by decide) (by decide) (by decide) (by decide)
  have r4 := row2_of (P := (fun b => P b ∨ (W.heap.size ≤ b ∧ b < V.heap.size))) g4 (.inr ⟨by omega, heap_lt g4⟩) tP tI
  have tM := TmAt.of_row (k := 11) (n := 0) (s := ⟨#[62]⟩) (t := ⟨#[]⟩) (l := [_, _]) r4 (by decide) (by decide) (by decide) (by decide)
  obtain ⟨m0, m1, m2, m3, m4⟩ := five_of g1
  refine bodyPost_ret (v := .agg #[.int .i8 11, .int .i64 0, .string ⟨#[62]⟩, .string ⟨#[]⟩, .slice (some ⟨W.heap.size + 4, 0, none⟩) 2 2]) (by simp [results, Tryz.f88, go_sem, m0, m1, m2, m3, m4]) rfl ?_
  exact ⟨_, _, _, _, _, _, _, rfl, tM, bV⟩
theorem more11_any (y : Tm) (v : Value) (W : World) (hT : TmAt (· < W.heap.size) W y v) : Calls Tryz.prog 88 #[v] W fun e w' => ∃ k9 n9 s9 t9 A9 m9 c9, e = .returned (.agg #[.int .i8 k9, .int .i64 n9, .string s9, .string t9, .slice A9 m9 c9]) ∧ TmAt (· < w'.heap.size) w' (moreT11 y) (.agg #[.int .i8 k9, .int .i64 n9, .string s9, .string t9, .slice A9 m9 c9]) ∧ Below W.heap.size W w' :=
  (more11_in (· < W.heap.size) y v W (fun _ h => h) hT).mono (by
    rintro e w2 ⟨k9, n9, s9, t9, A9, m9, c9, rfl, hm, b2⟩
    exact ⟨_, _, _, _, _, _, _, rfl, hm.mono (fun b hb => by have := b2.size; rcases hb with h | h; (exact Nat.lt_of_lt_of_le h this); (exact h.2)), b2⟩)
end Go.Proofs.YtkceoiaaiaomoaaGreatDoor
end
