/- Nothing of its own. -/
import Derived.Test.YtkceoiaaiaomoaaGreatDoorKAstC
import Derived.Test.YtkceoiaaiaomoaaGreatDoorKPub7
import Derived.Test.YtkceoiaaiaomoaaGreatDoorKGd2
import Derived.Test.YtkceoiaaiaomoaaGreatDoorKBnd
import Derived.Test.YtkceoiaaiaomoaaGreatDoorKSuch
import Derived.Test.YtkceoiaaiaomoaaGreatDoorKNodes
import Derived.Laws.AppendOwn
import Derived.OwnWalk
import Derived.LoopTactic
import Derived.LoopNIn
import Derived.StillTailTactics
import Derived.RegionTactic
import Derived.Outline
section
set_option linter.unusedVariables false
set_option linter.unusedSimpArgs false
namespace Go.Proofs.YtkceoiaaiaomoaaGreatDoor
open Go.RowKit

def bdOk (b : Bd) : Bool := nameB b.1 3 && (!(b.1.data.toList == [95]) && (checkN b.2 == 0))
def may10 (l : List Bd) : Bool := decide (l.length ≤ 64) && l.all bdOk
set_option maxHeartbeats 1000000 in
theorem may10_any (t : Tm) (v : Value) (w : World) (hT : TmAt (· < w.heap.size) w t v) (hS : Spans w) :
    Calls Tryz.prog 76 #[v] w fun e w' => e = .returned (.bool (checkN t == 0)) ∧ Below w.heap.size w w' := by
  obtain ⟨k, n, s, t9, A, m, c, rfl⟩ : ∃ k n s t A m c, v = .agg #[.int .i8 k, .int .i64 n, .string s, .string t, .slice A m c] := by cases hT; exact ⟨_, _, _, _, _, _, _, rfl⟩
  obtain ⟨w1, hw1⟩ : ∃ w1, w1 = w.alloc (.cells #[.int .i8 k, .int .i64 n, .string s, .string t9, .slice A m c] 44) := ⟨_, rfl⟩
  have hb1 : Below w.heap.size w w1 := by rw [hw1]; exact (Below.refl _ w).alloc (Nat.le_refl _) _
  have hg1 : w1.heap[w.heap.size]? = some (.cells #[.int .i8 k, .int .i64 n, .string s, .string t9, .slice A m c] 44 (0, 0)) := by rw [hw1]; exact block_alloc _ _
  have HC := Lib.hid (Check_any t _ w1 (hT.laterN hb1) (hS.below hb1 hS.lt))
  have HB1 := Lib.hid hb1
  obtain ⟨x0, x1, x2, x3, x4⟩ := five_of hg1
  clear hb1 hg1 hT hS
  go_enter Tryz.func76, Tryz.ntmps76
  go_upto_region 1 with fail
  rw [← hw1]
  clear hw1
  go_wp2_with fail
  refine HC.out.mono ?_
  rintro e w2 ⟨rfl, b2⟩
  go_wp2_with fail
  go_ret
  exact ⟨rfl, HB1.out.trans (b2.mono HB1.out.size)⟩
set_option maxHeartbeats 4000000 in
set_option maxRecDepth 100000 in
theorem mayBd_any (s : ByteArray) (t : Tm) (k n : Int) (ts tt : ByteArray) (A : Option Addr) (m c : Nat) (w : World) (hs : s.size ≤ maxLen) (hT : TmAt (· < w.heap.size) w t (.agg #[.int .i8 k, .int .i64 n, .string ts, .string tt, .slice A m c])) (hS : Spans w) :
    Calls Tryz.prog 74 #[.agg #[.string s, .int .i8 k, .int .i64 n, .string ts, .string tt, .slice A m c]] w fun e w' => e = .returned (.bool (bdOk (s, t))) ∧ Below w.heap.size w w' := by
  obtain ⟨w1, hw1⟩ : ∃ w1, w1 = w.alloc (.cells #[.string s, .int .i8 k, .int .i64 n, .string ts, .string tt, .slice A m c] 61) := ⟨_, rfl⟩
  have hb1 : Below w.heap.size w w1 := by rw [hw1]; exact (Below.refl _ w).alloc (Nat.le_refl _) _
  have HG : Hid (w1.heap[w.heap.size]? = some (.cells #[.string s, .int .i8 k, .int .i64 n, .string ts, .string tt, .slice A m c] 61 (0, 0))) := Lib.hid (by rw [hw1]; exact block_alloc _ _)
  have HC := Lib.hid (Name_any s hs w1 (hS.below hb1 hS.lt))
  have HB1 := Lib.hid hb1
  have HT := Lib.hid hT
  have HS := Lib.hid hS
  have gx := HG.out
  have x0 : (w1).cell? ⟨w.heap.size, 0, none⟩ = some (.string s) := cell_of_row (i := 0) gx rfl
  have x1 : (w1).cell? ⟨w.heap.size, 1, none⟩ = some (.int .i8 k) := cell_of_row (i := 1) gx rfl
  have x2 : (w1).cell? ⟨w.heap.size, 2, none⟩ = some (.int .i64 n) := cell_of_row (i := 2) gx rfl
  have x3 : (w1).cell? ⟨w.heap.size, 3, none⟩ = some (.string ts) := cell_of_row (i := 3) gx rfl
  have x4 : (w1).cell? ⟨w.heap.size, 4, none⟩ = some (.string tt) := cell_of_row (i := 4) gx rfl
  have x5 : (w1).cell? ⟨w.heap.size, 5, none⟩ = some (.slice A m c) := cell_of_row (i := 5) gx rfl
  clear hb1 hT hS gx
  go_enter Tryz.func74, Tryz.ntmps74
  go_upto_region 1 with fail
  rw [← hw1]
  clear hw1
  go_wp2_with fail
  refine HC.out.mono ?_
  rintro e w2 ⟨rfl, b2⟩
  have HB2 := Lib.hid (HB1.out.trans (b2.mono HB1.out.size))
  have gx := (b2.block _ (heap_lt HG.out)).trans HG.out
  clear x0 x1 x2 x3 x4 x5 b2
  have x0 : (w2).cell? ⟨w.heap.size, 0, none⟩ = some (.string s) := cell_of_row (i := 0) gx rfl
  have x1 : (w2).cell? ⟨w.heap.size, 1, none⟩ = some (.int .i8 k) := cell_of_row (i := 1) gx rfl
  have x2 : (w2).cell? ⟨w.heap.size, 2, none⟩ = some (.int .i64 n) := cell_of_row (i := 2) gx rfl
  have x3 : (w2).cell? ⟨w.heap.size, 3, none⟩ = some (.string ts) := cell_of_row (i := 3) gx rfl
  have x4 : (w2).cell? ⟨w.heap.size, 4, none⟩ = some (.string tt) := cell_of_row (i := 4) gx rfl
  have x5 : (w2).cell? ⟨w.heap.size, 5, none⟩ = some (.slice A m c) := cell_of_row (i := 5) gx rfl
  clear gx
  cases h1 : nameB s 3 with
  | false =>
    have HF : Hid (bdOk (s, t) = false) := by show _ = _; unfold bdOk; rw [h1]; rfl
    clear h1
    go_wp2_with fail
    go_ret
    exact ⟨ret_bool HF.out.symm, HB2.out⟩
  | true =>
    have HF1 : Hid (bdOk (s, t) = (!(s.data.toList == [95]) && (checkN t == 0))) := by show _ = _; unfold bdOk; rw [h1]; rfl
    clear h1
    have hte : (s.toList == [95]) = (s.data.toList == [95]) := by rw [ByteArray.toList_eq]
    cases h2 : (s.data.toList == [95]) with
    | true =>
      have h3 : (s.toList == [95]) = true := hte.trans h2
      have HF : Hid (bdOk (s, t) = false) := by show _ = _; rw [HF1.out, h2]; rfl
      clear h2 hte
      go_wp2_with fail
      go_ret
      exact ⟨ret_bool HF.out.symm, HB2.out⟩
    | false =>
      have h3 : (s.toList == [95]) = false := hte.trans h2
      have HF : Hid (bdOk (s, t) = (checkN t == 0)) := by show _ = _; rw [HF1.out, h2]; rfl
      have HC2 := Lib.hid (may10_any t _ w2 (HT.out.laterN HB2.out) (HS.out.below HB2.out HS.out.lt))
      clear h2 hte
      go_wp2_with fail
      refine HC2.out.mono ?_
      rintro e w3 ⟨rfl, b3⟩
      have HB3 := Lib.hid (HB2.out.trans (b3.mono HB2.out.size))
      rw [← HF.out]
      clear b3
      go_wp2_with fail
      go_ret
      exact ⟨rfl, HB3.out⟩
set_option maxHeartbeats 2000000 in
set_option maxRecDepth 100000 in
theorem each1N_any (f : Tm → Bool) (y : Tm) (u : Value) (g : Nat) (W : World) (hone : ∀ V, Below W.heap.size W V → TmAt (· < V.heap.size) V y u → Calls Tryz.prog 79 #[u] V fun e w' => e = .returned (.bool (f y)) ∧ Below V.heap.size V w') (hT : TmAt (· < W.heap.size) W y u) (hg : W.cell? ⟨g, 0, none⟩ = some (.func (.func 79) #[] #[])) :
    Calls Tryz.prog 131 #[u, .pointer (some ⟨g, 0, none⟩)] W fun e w' => e = .returned (.bool (!f y)) ∧ Below W.heap.size W w' := by
  obtain ⟨k', n', s', t', A', m', c', rfl⟩ : ∃ k n s t A m c, u = .agg #[.int .i8 k, .int .i64 n, .string s, .string t, .slice A m c] := by cases hT; exact ⟨_, _, _, _, _, _, _, rfl⟩
  obtain ⟨W2, hW2⟩ : ∃ W2, W2 = W.alloc (.cells #[.int .i8 k', .int .i64 n', .string s', .string t', .slice A' m' c'] 25) := ⟨_, rfl⟩
  have b2 : Below W.heap.size W W2 := by rw [hW2]; exact (Below.refl _ W).alloc (Nat.le_refl _) _
  have g0 : W2.heap[W.heap.size]? = some (.cells #[.int .i8 k', .int .i64 n', .string s', .string t', .slice A' m' c'] 25 (0, 0)) := by rw [hW2]; exact block_alloc _ _
  have HB2 := Lib.hid b2
  have HC := Lib.hid (hone W2 b2 (hT.keep (fun b hb => b2.block b hb) (fun b hb => Nat.lt_of_lt_of_le hb b2.size)))
  have xg : W2.cell? ⟨g, 0, none⟩ = some (.func (.func 79) #[] #[]) := (b2.cell (World.block_lt_of_cell? W _ hg)).trans hg
  obtain ⟨x0, x1, x2, x3, x4⟩ := five_of g0
  clear g0 b2 hT hg hone
  go_enter Tryz.func131, Tryz.ntmps131
  go_upto_region 1 with fail
  rw [← hW2]
  clear hW2
  go_wp2_with fail
  refine HC.out.mono ?_
  rintro e W3 ⟨rfl, b3⟩
  go_wp2_with fail
  go_ret
  exact ⟨rfl, HB2.out.trans (b3.mono HB2.out.size)⟩
set_option maxHeartbeats 2000000 in
set_option maxRecDepth 100000 in
theorem idxN10_any (f : Tm → Bool) (ps : List Tm) (A : Option Addr) (cap g : Nat) (W : World) (hone : ∀ y ∈ ps, ∀ u V, Below W.heap.size W V → TmAt (· < V.heap.size) V y u → Calls Tryz.prog 79 #[u] V fun e w' => e = .returned (.bool (f y)) ∧ Below V.heap.size V w') (hR : TRow (· < W.heap.size) W A ps.length cap ps) (hg : W.cell? ⟨g, 0, none⟩ = some (.func (.func 79) #[] #[])) :
    Calls Tryz.prog 201 #[.slice A ps.length cap, .func (.func 131) #[] #[.pointer (some ⟨g, 0, none⟩)]] W
      fun e w' => (∃ r : Int, e = .returned (.int .i64 r) ∧ decide (0 ≤ r) = !ps.all f) ∧ Below W.heap.size W w' := by
  have hmax := hR.max
  unfold maxLen at hmax
  have HR := Lib.hid hR
  have HG := Lib.hid hg
  have HONE := Lib.hid hone
  clear hR hg hone
  go_enter Tryz.func201, Tryz.ntmps201
  go_wp2_with fail
  go_loopw [8] (fun i wr => ∃ j : Nat, j ≤ ps.length ∧ i = .int .i64 j ∧ Hid ((ps.take j).all f = true) ∧ Hid (Below W.heap.size W wr)) (fun i _ => ps.length - (intOf i).toNat)
  case atStart => exact ⟨0, Nat.zero_le _, rfl, Lib.hid (by simp), Lib.hid (Below.refl _ _)⟩
  case round =>
    obtain ⟨j, hj, rfl, HM, HB⟩ := hrel
    by_cases hlt : j < ps.length
    · obtain ⟨y, hy⟩ : ∃ y, ps[j]? = some y := ⟨ps[j], List.getElem?_eq_getElem hlt⟩
      obtain ⟨ad, u, rfl, had, hE, hTy⟩ := HR.out.at_ j y hy
      have hEr := hE.keep (HB.out.block ad.block had)
      have hTr := hTy.keep (Q := (· < wr.heap.size)) (w' := wr) (fun b hb => HB.out.block b hb) (fun b hb => Nat.lt_of_lt_of_le hb HB.out.size)
      have HC := Lib.hid (each1N_any f y u g wr (fun V hV hTV => HONE.out y (List.mem_of_getElem? hy) u V (HB.out.trans (hV.mono HB.out.size)) hTV) hTr ((HB.out.cell (World.block_lt_of_cell? W _ HG.out)).trans HG.out))
      obtain ⟨k', n', s', t', A', m', cap', rfl⟩ : ∃ k' n' s' t' A' m' cap', u = .agg #[.int .i8 k', .int .i64 n', .string s', .string t', .slice A' m' cap'] := by
        cases hTy; exact ⟨_, _, _, _, _, _, _, rfl⟩
      obtain ⟨c0, c1, c2, c3, c4, hcc, e0, e1, e2, e3, e4⟩ := hEr
      simp only [Value.agg.injEq, Array.mk.injEq, List.cons.injEq, and_true] at hcc
      obtain ⟨rfl, rfl, rfl, rfl, rfl⟩ := hcc
      have HY := Lib.hid hy
      clear hE hTy hTr hy had
      go_wp2_with fail
      refine HC.out.mono ?_
      rintro e w2 ⟨rfl, b2⟩
      have HB2 := Lib.hid (HB.out.trans (b2.mono HB.out.size))
      clear b2 e0 e1 e2 e3 e4
      cases hc : f y
      · go_wp2_with fail
        go_ret
        refine ⟨⟨_, rfl, ?_⟩, HB2.out⟩
        have hm : ps.all f = false := by
          rw [List.all_eq_false]
          exact ⟨y, List.mem_of_getElem? HY.out, by simp [hc]⟩
        rw [hm]
        simp
      · go_wp2_with fail
        go_roundw
        case rel =>
          refine ⟨j + 1, by omega, by go_num, Lib.hid ?_, HB2⟩
          rw [List.take_add_one, HY.out, List.all_append, HM.out]
          simp [hc]
        case measure => simp [intOf]; omega
    · obtain rfl : j = ps.length := by omega
      go_wp2_with fail
      go_ret
      refine ⟨⟨_, rfl, ?_⟩, HB.out⟩
      have hm := HM.out
      rw [List.take_length] at hm
      rw [hm]
      rfl
set_option maxHeartbeats 1000000 in
set_option maxRecDepth 100000 in
theorem hasN10_any (f : Tm → Bool) (ps : List Tm) (A : Option Addr) (cap g : Nat) (W : World) (hone : ∀ y ∈ ps, ∀ u V, Below W.heap.size W V → TmAt (· < V.heap.size) V y u → Calls Tryz.prog 79 #[u] V fun e w' => e = .returned (.bool (f y)) ∧ Below V.heap.size V w') (hR : TRow (· < W.heap.size) W A ps.length cap ps) (hg : W.cell? ⟨g, 0, none⟩ = some (.func (.func 79) #[] #[])) :
    Calls Tryz.prog 130 #[.slice A ps.length cap, .func (.func 131) #[] #[.pointer (some ⟨g, 0, none⟩)]] W
      fun e w' => e = .returned (.bool (!ps.all f)) ∧ Below W.heap.size W w' := by
  have HC := Lib.hid (idxN10_any f ps A cap g W hone hR hg)
  clear hR hg hone
  go_enter Tryz.func130, Tryz.ntmps130
  go_wp2_with fail
  refine HC.out.mono ?_
  rintro e w2 ⟨⟨r, rfl, hr⟩, b2⟩
  have HRR := Lib.hid hr
  clear hr
  go_wp2_with fail
  go_ret
  exact ⟨ret_bool HRR.out, b2⟩
set_option maxHeartbeats 1000000 in
set_option maxRecDepth 100000 in
theorem eachN10_any (f : Tm → Bool) (ps : List Tm) (A : Option Addr) (pn cap : Nat) (W : World) (hone : ∀ y ∈ ps, ∀ u V, Below W.heap.size W V → TmAt (· < V.heap.size) V y u → Calls Tryz.prog 79 #[u] V fun e w' => e = .returned (.bool (f y)) ∧ Below V.heap.size V w') (hR : TRow (· < W.heap.size) W A pn cap ps) :
    Calls Tryz.prog 78 #[.slice A pn cap, .func (.func 79) #[] #[]] W fun e w' => e = .returned (.bool (ps.all f)) ∧ Below W.heap.size W w' := by
  obtain rfl := hR.len
  obtain ⟨w1, hw1⟩ : ∃ w1, w1 = W.alloc (.cells #[.func (.func 79) #[] #[]] 26) := ⟨_, rfl⟩
  have hb1 : Below W.heap.size W w1 := by rw [hw1]; exact (Below.refl _ W).alloc (Nat.le_refl _) _
  have hg1 : w1.heap[W.heap.size]? = some (.cells #[.func (.func 79) #[] #[]] 26 (0, 0)) := by rw [hw1]; exact block_alloc _ _
  have HC := Lib.hid (hasN10_any f ps A cap W.heap.size w1 (fun y hy u V hV hT => hone y hy u V (hb1.trans (hV.mono hb1.size)) hT) (hR.later hb1) (cell_of_row (i := 0) hg1 rfl))
  have HB1 := Lib.hid hb1
  clear hR hb1 hg1 hone
  go_enter Tryz.func78, Tryz.ntmps78
  go_upto_region 1 with fail
  rw [← hw1]
  clear hw1
  go_wp2_with fail
  refine HC.out.mono ?_
  rintro e w2 ⟨rfl, b2⟩
  go_wp2_with fail
  go_ret
  exact ⟨by simp, HB1.out.trans (b2.mono HB1.out.size)⟩
set_option maxHeartbeats 2000000 in
set_option maxRecDepth 100000 in
theorem each1T_any (f : Tm → Bool) (y : Tm) (u : Value) (g : Nat) (W : World) (hone : ∀ V, Below W.heap.size W V → TmAt (· < V.heap.size) V y u → Calls Tryz.prog 76 #[u] V fun e w' => e = .returned (.bool (f y)) ∧ Below V.heap.size V w') (hT : TmAt (· < W.heap.size) W y u) (hg : W.cell? ⟨g, 0, none⟩ = some (.func (.func 76) #[] #[])) :
    Calls Tryz.prog 133 #[u, .pointer (some ⟨g, 0, none⟩)] W fun e w' => e = .returned (.bool (!f y)) ∧ Below W.heap.size W w' := by
  obtain ⟨k', n', s', t', A', m', c', rfl⟩ : ∃ k n s t A m c, u = .agg #[.int .i8 k, .int .i64 n, .string s, .string t, .slice A m c] := by cases hT; exact ⟨_, _, _, _, _, _, _, rfl⟩
  obtain ⟨W2, hW2⟩ : ∃ W2, W2 = W.alloc (.cells #[.int .i8 k', .int .i64 n', .string s', .string t', .slice A' m' c'] 44) := ⟨_, rfl⟩
  have b2 : Below W.heap.size W W2 := by rw [hW2]; exact (Below.refl _ W).alloc (Nat.le_refl _) _
  have g0 : W2.heap[W.heap.size]? = some (.cells #[.int .i8 k', .int .i64 n', .string s', .string t', .slice A' m' c'] 44 (0, 0)) := by rw [hW2]; exact block_alloc _ _
  have HB2 := Lib.hid b2
  have HC := Lib.hid (hone W2 b2 (hT.keep (fun b hb => b2.block b hb) (fun b hb => Nat.lt_of_lt_of_le hb b2.size)))
  have xg : W2.cell? ⟨g, 0, none⟩ = some (.func (.func 76) #[] #[]) := (b2.cell (World.block_lt_of_cell? W _ hg)).trans hg
  obtain ⟨x0, x1, x2, x3, x4⟩ := five_of g0
  clear g0 b2 hT hg hone
  go_enter Tryz.func133, Tryz.ntmps133
  go_upto_region 1 with fail
  rw [← hW2]
  clear hW2
  go_wp2_with fail
  refine HC.out.mono ?_
  rintro e W3 ⟨rfl, b3⟩
  go_wp2_with fail
  go_ret
  exact ⟨rfl, HB2.out.trans (b3.mono HB2.out.size)⟩
set_option maxHeartbeats 2000000 in
set_option maxRecDepth 100000 in
theorem idxT10_any (f : Tm → Bool) (ps : List Tm) (A : Option Addr) (cap g : Nat) (W : World) (hone : ∀ y ∈ ps, ∀ u V, Below W.heap.size W V → TmAt (· < V.heap.size) V y u → Calls Tryz.prog 76 #[u] V fun e w' => e = .returned (.bool (f y)) ∧ Below V.heap.size V w') (hR : TRow (· < W.heap.size) W A ps.length cap ps) (hg : W.cell? ⟨g, 0, none⟩ = some (.func (.func 76) #[] #[])) :
    Calls Tryz.prog 202 #[.slice A ps.length cap, .func (.func 133) #[] #[.pointer (some ⟨g, 0, none⟩)]] W
      fun e w' => (∃ r : Int, e = .returned (.int .i64 r) ∧ decide (0 ≤ r) = !ps.all f) ∧ Below W.heap.size W w' := by
  have hmax := hR.max
  unfold maxLen at hmax
  have HR := Lib.hid hR
  have HG := Lib.hid hg
  have HONE := Lib.hid hone
  clear hR hg hone
  go_enter Tryz.func202, Tryz.ntmps202
  go_wp2_with fail
  go_loopw [8] (fun i wr => ∃ j : Nat, j ≤ ps.length ∧ i = .int .i64 j ∧ Hid ((ps.take j).all f = true) ∧ Hid (Below W.heap.size W wr)) (fun i _ => ps.length - (intOf i).toNat)
  case atStart => exact ⟨0, Nat.zero_le _, rfl, Lib.hid (by simp), Lib.hid (Below.refl _ _)⟩
  case round =>
    obtain ⟨j, hj, rfl, HM, HB⟩ := hrel
    by_cases hlt : j < ps.length
    · obtain ⟨y, hy⟩ : ∃ y, ps[j]? = some y := ⟨ps[j], List.getElem?_eq_getElem hlt⟩
      obtain ⟨ad, u, rfl, had, hE, hTy⟩ := HR.out.at_ j y hy
      have hEr := hE.keep (HB.out.block ad.block had)
      have hTr := hTy.keep (Q := (· < wr.heap.size)) (w' := wr) (fun b hb => HB.out.block b hb) (fun b hb => Nat.lt_of_lt_of_le hb HB.out.size)
      have HC := Lib.hid (each1T_any f y u g wr (fun V hV hTV => HONE.out y (List.mem_of_getElem? hy) u V (HB.out.trans (hV.mono HB.out.size)) hTV) hTr ((HB.out.cell (World.block_lt_of_cell? W _ HG.out)).trans HG.out))
      obtain ⟨k', n', s', t', A', m', cap', rfl⟩ : ∃ k' n' s' t' A' m' cap', u = .agg #[.int .i8 k', .int .i64 n', .string s', .string t', .slice A' m' cap'] := by
        cases hTy; exact ⟨_, _, _, _, _, _, _, rfl⟩
      obtain ⟨c0, c1, c2, c3, c4, hcc, e0, e1, e2, e3, e4⟩ := hEr
      simp only [Value.agg.injEq, Array.mk.injEq, List.cons.injEq, and_true] at hcc
      obtain ⟨rfl, rfl, rfl, rfl, rfl⟩ := hcc
      have HY := Lib.hid hy
      clear hE hTy hTr hy had
      go_wp2_with fail
      refine HC.out.mono ?_
      rintro e w2 ⟨rfl, b2⟩
      have HB2 := Lib.hid (HB.out.trans (b2.mono HB.out.size))
      clear b2 e0 e1 e2 e3 e4
      cases hc : f y
      · go_wp2_with fail
        go_ret
        refine ⟨⟨_, rfl, ?_⟩, HB2.out⟩
        have hm : ps.all f = false := by
          rw [List.all_eq_false]
          exact ⟨y, List.mem_of_getElem? HY.out, by simp [hc]⟩
        rw [hm]
        simp
      · go_wp2_with fail
        go_roundw
        case rel =>
          refine ⟨j + 1, by omega, by go_num, Lib.hid ?_, HB2⟩
          rw [List.take_add_one, HY.out, List.all_append, HM.out]
          simp [hc]
        case measure => simp [intOf]; omega
    · obtain rfl : j = ps.length := by omega
      go_wp2_with fail
      go_ret
      refine ⟨⟨_, rfl, ?_⟩, HB.out⟩
      have hm := HM.out
      rw [List.take_length] at hm
      rw [hm]
      rfl
set_option maxHeartbeats 1000000 in
set_option maxRecDepth 100000 in
theorem hasT10_any (f : Tm → Bool) (ps : List Tm) (A : Option Addr) (cap g : Nat) (W : World) (hone : ∀ y ∈ ps, ∀ u V, Below W.heap.size W V → TmAt (· < V.heap.size) V y u → Calls Tryz.prog 76 #[u] V fun e w' => e = .returned (.bool (f y)) ∧ Below V.heap.size V w') (hR : TRow (· < W.heap.size) W A ps.length cap ps) (hg : W.cell? ⟨g, 0, none⟩ = some (.func (.func 76) #[] #[])) :
    Calls Tryz.prog 132 #[.slice A ps.length cap, .func (.func 133) #[] #[.pointer (some ⟨g, 0, none⟩)]] W
      fun e w' => e = .returned (.bool (!ps.all f)) ∧ Below W.heap.size W w' := by
  have HC := Lib.hid (idxT10_any f ps A cap g W hone hR hg)
  clear hR hg hone
  go_enter Tryz.func132, Tryz.ntmps132
  go_wp2_with fail
  refine HC.out.mono ?_
  rintro e w2 ⟨⟨r, rfl, hr⟩, b2⟩
  have HRR := Lib.hid hr
  clear hr
  go_wp2_with fail
  go_ret
  exact ⟨ret_bool HRR.out, b2⟩
set_option maxHeartbeats 1000000 in
set_option maxRecDepth 100000 in
theorem eachT10_any (f : Tm → Bool) (ps : List Tm) (A : Option Addr) (pn cap : Nat) (W : World) (hone : ∀ y ∈ ps, ∀ u V, Below W.heap.size W V → TmAt (· < V.heap.size) V y u → Calls Tryz.prog 76 #[u] V fun e w' => e = .returned (.bool (f y)) ∧ Below V.heap.size V w') (hR : TRow (· < W.heap.size) W A pn cap ps) :
    Calls Tryz.prog 80 #[.slice A pn cap, .func (.func 76) #[] #[]] W fun e w' => e = .returned (.bool (ps.all f)) ∧ Below W.heap.size W w' := by
  obtain rfl := hR.len
  obtain ⟨w1, hw1⟩ : ∃ w1, w1 = W.alloc (.cells #[.func (.func 76) #[] #[]] 46) := ⟨_, rfl⟩
  have hb1 : Below W.heap.size W w1 := by rw [hw1]; exact (Below.refl _ W).alloc (Nat.le_refl _) _
  have hg1 : w1.heap[W.heap.size]? = some (.cells #[.func (.func 76) #[] #[]] 46 (0, 0)) := by rw [hw1]; exact block_alloc _ _
  have HC := Lib.hid (hasT10_any f ps A cap W.heap.size w1 (fun y hy u V hV hT => hone y hy u V (hb1.trans (hV.mono hb1.size)) hT) (hR.later hb1) (cell_of_row (i := 0) hg1 rfl))
  have HB1 := Lib.hid hb1
  clear hR hb1 hg1 hone
  go_enter Tryz.func80, Tryz.ntmps80
  go_upto_region 1 with fail
  rw [← hw1]
  clear hw1
  go_wp2_with fail
  refine HC.out.mono ?_
  rintro e w2 ⟨rfl, b2⟩
  go_wp2_with fail
  go_ret
  exact ⟨by simp, HB1.out.trans (b2.mono HB1.out.size)⟩
set_option maxHeartbeats 1000000 in
theorem eachBd_any (s : ByteArray) (t : Tm) (k n : Int) (ts tt : ByteArray) (A : Option Addr) (m c : Nat) (g : Nat) (w : World) (hs : s.size ≤ maxLen) (hT : TmAt (· < w.heap.size) w t (.agg #[.int .i8 k, .int .i64 n, .string ts, .string tt, .slice A m c])) (hS : Spans w)
    (hg : w.cell? ⟨g, 0, none⟩ = some (.func (.func 74) #[] #[])) :
    Calls Tryz.prog 126 #[.agg #[.string s, .int .i8 k, .int .i64 n, .string ts, .string tt, .slice A m c], .pointer (some ⟨g, 0, none⟩)] w fun e w' => e = .returned (.bool (!bdOk (s, t))) ∧ Below w.heap.size w w' := by
  obtain ⟨w1, hw1⟩ : ∃ w1, w1 = w.alloc (.cells #[.string s, .int .i8 k, .int .i64 n, .string ts, .string tt, .slice A m c] 61) := ⟨_, rfl⟩
  have hb1 : Below w.heap.size w w1 := by rw [hw1]; exact (Below.refl _ w).alloc (Nat.le_refl _) _
  have hg1 : w1.heap[w.heap.size]? = some (.cells #[.string s, .int .i8 k, .int .i64 n, .string ts, .string tt, .slice A m c] 61 (0, 0)) := by rw [hw1]; exact block_alloc _ _
  have HC := Lib.hid (mayBd_any s t k n ts tt A m c w1 hs (hT.keep (fun b hb => hb1.block b hb) (fun b hb => Nat.lt_of_lt_of_le hb hb1.size)) (hS.below hb1 hS.lt))
  have HB1 := Lib.hid hb1
  have x0 : w1.cell? ⟨w.heap.size, 0, none⟩ = some (.string s) := cell_of_row (i := 0) hg1 rfl
  have x1 : w1.cell? ⟨w.heap.size, 1, none⟩ = some (.int .i8 k) := cell_of_row (i := 1) hg1 rfl
  have x2 : w1.cell? ⟨w.heap.size, 2, none⟩ = some (.int .i64 n) := cell_of_row (i := 2) hg1 rfl
  have x3 : w1.cell? ⟨w.heap.size, 3, none⟩ = some (.string ts) := cell_of_row (i := 3) hg1 rfl
  have x4 : w1.cell? ⟨w.heap.size, 4, none⟩ = some (.string tt) := cell_of_row (i := 4) hg1 rfl
  have x5 : w1.cell? ⟨w.heap.size, 5, none⟩ = some (.slice A m c) := cell_of_row (i := 5) hg1 rfl
  have xg : w1.cell? ⟨g, 0, none⟩ = some (.func (.func 74) #[] #[]) := (World.cell?_of_block (w := w) (a := ⟨g, 0, none⟩) (hb1.block g (World.block_lt_of_cell? w _ hg))).trans hg
  clear hb1 hg1 hT hS hg
  go_enter Tryz.func126, Tryz.ntmps126
  go_upto_region 1 with fail
  rw [← hw1]
  clear hw1
  go_wp2_with fail
  refine HC.out.mono ?_
  rintro e w2 ⟨rfl, b2⟩
  go_wp2_with fail
  go_ret
  exact ⟨rfl, HB1.out.trans (b2.mono HB1.out.size)⟩
set_option maxHeartbeats 2000000 in
set_option maxRecDepth 100000 in
theorem idxBd_any (l : List Bd) (A : Option Addr) (cap g : Nat) (w : World) (hR : BRow (· < w.heap.size) w A l.length cap l) (hS : Spans w) (hg : w.cell? ⟨g, 0, none⟩ = some (.func (.func 74) #[] #[])) :
    Calls Tryz.prog 195 #[.slice A l.length cap, .func (.func 126) #[] #[.pointer (some ⟨g, 0, none⟩)]] w
      fun e w' => (∃ r : Int, e = .returned (.int .i64 r) ∧ decide (0 ≤ r) = !l.all bdOk) ∧ Below w.heap.size w w' := by
  have hmax := hR.max
  unfold maxLen at hmax
  have HR := Lib.hid hR
  have HS := Lib.hid hS
  have HG := Lib.hid hg
  clear hR hS hg
  go_enter Tryz.func195, Tryz.ntmps195
  go_wp2_with fail
  go_loopw [8] (fun i wr => ∃ j : Nat, j ≤ l.length ∧ i = .int .i64 j ∧ Hid ((l.take j).all bdOk = true) ∧ Hid (Below w.heap.size w wr)) (fun i _ => l.length - (intOf i).toNat)
  case atStart => exact ⟨0, Nat.zero_le _, rfl, Lib.hid (by simp), Lib.hid (Below.refl _ _)⟩
  case round =>
    obtain ⟨j, hj, rfl, HM, HB⟩ := hrel
    by_cases hlt : j < l.length
    · obtain ⟨y, hy⟩ : ∃ y, l[j]? = some y := ⟨l[j], List.getElem?_eq_getElem hlt⟩
      obtain ⟨ad, u, rfl, had, hsz, hE, hTy⟩ := HR.out.at_ j y hy
      have hEr := hE.keep (HB.out.block ad.block had)
      have hTr := hTy.keep (Q := (· < wr.heap.size)) (w' := wr) (fun b hb => HB.out.block b hb) (fun b hb => Nat.lt_of_lt_of_le hb HB.out.size)
      obtain ⟨s, t⟩ := y
      obtain ⟨k, n, ts, tt, L, hte⟩ : ∃ k n ts tt L, t = Tm.mk k n ts tt L := by cases t; exact ⟨_, _, _, _, _, rfl⟩
      obtain ⟨TA, tc, rfl, -⟩ := (by rw [← hte]; exact hTr : TmAt _ wr (Tm.mk k n ts tt L) u).parts
      have HT := Lib.hid hTr
      obtain ⟨c0, c1, c2, c3, c4, hcc, es, e0, e1, e2, e3, e4⟩ := hEr
      simp only [Value.agg.injEq, Array.mk.injEq, List.cons.injEq, and_true] at hcc
      obtain ⟨rfl, rfl, rfl, rfl, rfl⟩ := hcc
      have HC := Lib.hid (eachBd_any s t k n ts tt TA L.length tc g wr hsz HT.out (HS.out.below HB.out HS.out.lt) ((World.cell?_of_block (w := w) (a := ⟨g, 0, none⟩) (HB.out.block g (World.block_lt_of_cell? w _ HG.out))).trans HG.out))
      have HY := Lib.hid hy
      clear hE hTy hTr hy had hte hsz
      go_wp2_with fail
      refine HC.out.mono ?_
      rintro e w2 ⟨rfl, b2⟩
      have HB2 := Lib.hid (HB.out.trans (b2.mono HB.out.size))
      clear b2 es e0 e1 e2 e3 e4
      cases hc : (bdOk (s, t))
      · go_wp2_with fail
        go_ret
        refine ⟨⟨_, rfl, ?_⟩, HB2.out⟩
        have hm : l.all bdOk = false := by
          skip
          rw [List.all_eq_false]
          exact ⟨(s, t), List.mem_of_getElem? HY.out, by simp [hc]⟩
        rw [hm]
        simp
      · go_wp2_with fail
        go_roundw
        case rel =>
          refine ⟨j + 1, by omega, by go_num, Lib.hid ?_, HB2⟩
          have hm := HM.out
          skip
          rw [List.take_add_one, HY.out, List.all_append, hm]
          simp [hc]
        case measure => simp [intOf]; omega
    · obtain rfl : j = l.length := by omega
      go_wp2_with fail
      go_ret
      refine ⟨⟨_, rfl, ?_⟩, HB.out⟩
      have hm := HM.out
      rw [List.take_length] at hm
      rw [hm]
      rfl
set_option maxHeartbeats 1000000 in
set_option maxRecDepth 100000 in
theorem hasBd_any (l : List Bd) (A : Option Addr) (cap g : Nat) (w : World) (hR : BRow (· < w.heap.size) w A l.length cap l) (hS : Spans w) (hg : w.cell? ⟨g, 0, none⟩ = some (.func (.func 74) #[] #[])) :
    Calls Tryz.prog 125 #[.slice A l.length cap, .func (.func 126) #[] #[.pointer (some ⟨g, 0, none⟩)]] w
      fun e w' => e = .returned (.bool (!l.all bdOk)) ∧ Below w.heap.size w w' := by
  have HC := Lib.hid (idxBd_any l A cap g w hR hS hg)
  clear hR hS hg
  go_enter Tryz.func125, Tryz.ntmps125
  go_wp2_with fail
  refine HC.out.mono ?_
  rintro e w2 ⟨⟨r, rfl, hr⟩, b2⟩
  have HR := Lib.hid hr
  clear hr
  go_wp2_with fail
  go_ret
  exact ⟨ret_bool HR.out, b2⟩
set_option maxHeartbeats 1000000 in
set_option maxRecDepth 100000 in
theorem eachBds_any (l : List Bd) (A : Option Addr) (cap : Nat) (w : World) (hR : BRow (· < w.heap.size) w A l.length cap l) (hS : Spans w) :
    Calls Tryz.prog 73 #[.slice A l.length cap, .func (.func 74) #[] #[]] w
      fun e w' => e = .returned (.bool (l.all bdOk)) ∧ Below w.heap.size w w' := by
  obtain ⟨w1, hw1⟩ : ∃ w1, w1 = w.alloc (.cells #[.func (.func 74) #[] #[]] 107) := ⟨_, rfl⟩
  have hb1 : Below w.heap.size w w1 := by rw [hw1]; exact (Below.refl _ w).alloc (Nat.le_refl _) _
  have hg1 : w1.heap[w.heap.size]? = some (.cells #[.func (.func 74) #[] #[]] 107 (0, 0)) := by rw [hw1]; exact block_alloc _ _
  have HC := Lib.hid (hasBd_any l A cap w.heap.size w1 (hR.later hb1) (hS.below hb1 hS.lt) (cell_of_row (i := 0) hg1 rfl))
  have HB1 := Lib.hid hb1
  clear hR hS hb1 hg1
  go_enter Tryz.func73, Tryz.ntmps73
  go_upto_region 1 with fail
  rw [← hw1]
  clear hw1
  go_wp2_with fail
  refine HC.out.mono ?_
  rintro e w2 ⟨rfl, b2⟩
  go_wp2_with fail
  go_ret
  exact ⟨by simp, HB1.out.trans (b2.mono HB1.out.size)⟩
set_option maxHeartbeats 1000000 in
set_option maxRecDepth 100000 in
theorem May10_any (l : List Bd) (A : Option Addr) (n cap : Nat) (w : World) (hR : BRow (· < w.heap.size) w A n cap l) (hS : Spans w) :
    Calls Tryz.prog 30 #[.slice A n cap] w fun e w' => e = .returned (.bool (may10 l)) ∧ Below w.heap.size w w' := by
  obtain rfl := hR.len
  have HC := Lib.hid (eachBds_any l A cap w hR hS)
  clear hR hS
  by_cases hl : l.length ≤ 64
  · have h1 : decide ((l.length : Int) ≤ 64) = true := decide_eq_true (by omega)
    have h2 : (l.length : Int) ≤ 64 := by omega
    have HF : Hid (may10 l = l.all bdOk) := by show _ = _; unfold may10; rw [decide_eq_true hl]; rfl
    clear hl
    go_enter Tryz.func30, Tryz.ntmps30
    go_wp2_with fail
    refine HC.out.mono ?_
    rintro e w2 ⟨rfl, b2⟩
    rw [← HF.out]
    go_wp2_with fail
    go_ret
    exact ⟨rfl, b2⟩
  · have h1 : decide ((l.length : Int) ≤ 64) = false := decide_eq_false (by omega)
    have h2 : ¬ (l.length : Int) ≤ 64 := by omega
    have HF : Hid (may10 l = false) := by show _ = _; unfold may10; rw [decide_eq_false hl]; rfl
    clear hl
    go_enter Tryz.func30, Tryz.ntmps30
    go_wp2_with fail
    go_ret
    exact ⟨ret_bool HF.out.symm, Below.refl _ _⟩
end Go.Proofs.YtkceoiaaiaomoaaGreatDoor
end
section

end
section
set_option linter.unusedVariables false
namespace Go.Proofs.YtkceoiaaiaomoaaGreatDoor
open Go.RowKit

theorem set_five {w : World} {b : Nat} {T : TypeId} {a0 a1 a2 a3 a4 : Value} (c0 c1 c2 c3 c4 : Value) (h : w.heap[b]? = some (.cells #[a0, a1, a2, a3, a4] T (0, 0))) :
    (((((w.setCell ⟨b, 0, none⟩ c0).setCell ⟨b, 1, none⟩ c1).setCell ⟨b, 2, none⟩ c2).setCell ⟨b, 3, none⟩ c3).setCell ⟨b, 4, none⟩ c4).heap[b]? = some (.cells #[c0, c1, c2, c3, c4] T (0, 0)) ∧
    Mod (fun k => k = b) w (((((w.setCell ⟨b, 0, none⟩ c0).setCell ⟨b, 1, none⟩ c1).setCell ⟨b, 2, none⟩ c2).setCell ⟨b, 3, none⟩ c3).setCell ⟨b, 4, none⟩ c4) := by
  refine ⟨?_, ?_⟩
  · exact set_row c4 (i := 4) (set_row c3 (i := 3) (set_row c2 (i := 2) (set_row c1 (i := 1) (set_row c0 (i := 0) h))))
  · have m : ∀ (W : World) (i : Nat) (c : Value), Mod (fun k => k = b) W (W.setCell ⟨b, i, none⟩ c) := fun W i c => Mod.setCell _ _ _ (.inl rfl)
    exact ((((m _ 0 _).trans (m _ 1 _) (fun _ _ h => h)).trans (m _ 2 _) (fun _ _ h => h)).trans (m _ 3 _) (fun _ _ h => h)).trans (m _ 4 _) (fun _ _ h => h)

def Five (u : Value) : Prop := ∃ c0 c1 c2 c3 c4, u = .agg #[c0, c1, c2, c3, c4]
theorem TmAt.five {P : Nat → Prop} {w : World} {x : Tm} {v : Value} (h : TmAt P w x v) : Five v := by cases h; exact ⟨_, _, _, _, _, rfl⟩

def five (u : Value) : List Value := match u with | .agg c => c.toList | _ => []
def flat (us : List Value) : List Value := us.flatMap five
theorem flat_length {us : List Value} (h : ∀ u ∈ us, Five u) : (flat us).length = us.length * 5 := by
  induction us with
  | nil => rfl
  | cons u us ih =>
    obtain ⟨c0, c1, c2, c3, c4, rfl⟩ := h u (by simp)
    have := ih (fun v hv => h v (by simp [hv]))
    simp only [flat, List.flatMap_cons, List.length_append, List.length_cons] at this ⊢
    rw [this]
    simp [five]; omega
theorem flat_at : ∀ {us : List Value} (_ : ∀ u ∈ us, Five u) {j : Nat} {u : Value} (_ : us[j]? = some u) (i : Nat) (_ : i < 5), (flat us)[j * 5 + i]? = (five u)[i]?
  | v :: us, h, 0, u, hj, i, hi => by
    obtain ⟨c0, c1, c2, c3, c4, rfl⟩ := h v (by simp)
    simp at hj
    subst hj
    simp only [flat, List.flatMap_cons, Nat.zero_mul, Nat.zero_add]
    rw [List.getElem?_append_left (by simp [five]; omega)]
  | v :: us, h, j + 1, u, hj, i, hi => by
    obtain ⟨c0, c1, c2, c3, c4, rfl⟩ := h v (by simp)
    have := flat_at (us := us) (fun u hu => h u (by simp [hu])) (j := j) (by simpa using hj) i hi
    simp only [flat, List.flatMap_cons] at this ⊢
    rw [List.getElem?_append_right (by simp [five]; omega)]
    rw [← this]
    congr 1
    simp [five]; omega

theorem own_elem {base : Nat} {w : World} {A : Option Addr} {n cap : Nat} {us : List Value} (h : w.ownsRow base 44 5 (.slice A n cap) n (flat us)) (hf : ∀ u ∈ us, Five u) {j : Nat} {u : Value} (hj : us[j]? = some u) :
    ∃ g, A = some ⟨g, 0, none⟩ ∧ base ≤ g ∧ g < w.heap.size ∧ (∃ c fz, w.heap[g]? = some (.cells c 44 fz)) ∧ ElemAt w ⟨g, 0, none⟩ j u := by
  have hlen := flat_length hf
  have hjl := (List.getElem?_eq_some_iff.1 hj).1
  have hown := h
  rcases h.2 with ⟨e, hn⟩ | ⟨g, cap', cur, e, hb, hg, rest⟩
  · have h1 := h.1
    omega
  · simp only [Value.slice.injEq] at e
    obtain ⟨rfl, _, rfl⟩ := e
    refine ⟨g, rfl, hb, heap_lt hg, ⟨_, _, hg⟩, ?_⟩
    have hc := hown.cells (g := g) rfl
    obtain ⟨c0, c1, c2, c3, c4, rfl⟩ := hf u (List.mem_of_getElem? hj)
    have at_ : ∀ i, i < 5 → ∀ x, (five (.agg #[c0, c1, c2, c3, c4]))[i]? = some x → w.cell? ((⟨g, 0, none⟩ : Addr).add (j * 5 + i)) = some x := fun i hi x hx => hc _ _ ((flat_at hf hj i hi).trans hx)
    have a0 := at_ 0 (by decide) c0 rfl
    have a1 := at_ 1 (by decide) c1 rfl
    have a2 := at_ 2 (by decide) c2 rfl
    have a3 := at_ 3 (by decide) c3 rfl
    have a4 := at_ 4 (by decide) c4 rfl
    have addj : ∀ i, (⟨g, 0, none⟩ : Addr).add (j * 5 + (i + 1)) = ⟨((⟨g, 0, none⟩ : Addr).add (j * 5)).block, ((⟨g, 0, none⟩ : Addr).add (j * 5)).off + (i + 1), none⟩ := by
      intro i
      unfold Addr.add
      by_cases h0 : j * 5 = 0
      · simp [h0]
      · simp [h0]
    rw [addj 0] at a1
    rw [addj 1] at a2
    rw [addj 2] at a3
    rw [addj 3] at a4
    exact ⟨c0, c1, c2, c3, c4, rfl, a0, a1, a2, a3, a4⟩

structure OwnT (base : Nat) (P : Nat → Prop) (w : World) (v : Value) (hs : List Tm) : Prop where
  row : ∃ us : List Value, w.ownsRow base 44 5 v hs.length (flat us) ∧ us.length = hs.length ∧ ∀ (j : Nat) (x : Tm), hs[j]? = some x → ∃ u, us[j]? = some u ∧ TmAt P w x u

theorem OwnT.nil (base : Nat) (P : Nat → Prop) (w : World) : OwnT base P w (.slice none 0 0) [] := ⟨[], World.ownsRow_nil _ _ _ _, rfl, fun j x h => by simp at h⟩
theorem ownT_five {P : Nat → Prop} {w : World} {hs : List Tm} {us : List Value} (hl : us.length = hs.length) (h : ∀ (j : Nat) (x : Tm), hs[j]? = some x → ∃ u, us[j]? = some u ∧ TmAt P w x u) : ∀ u ∈ us, Five u := by
  intro u hu
  obtain ⟨j, hj, rfl⟩ := List.getElem_of_mem hu
  obtain ⟨u', h1, h2⟩ := h j hs[j] (List.getElem?_eq_getElem (by omega))
  rw [List.getElem?_eq_getElem hj] at h1
  cases h1
  exact h2.five
theorem OwnT.trow {base : Nat} {P Q : Nat → Prop} {w : World} {A : Option Addr} {n cap : Nat} {hs : List Tm} (h : OwnT base P w (.slice A n cap) hs) (hP : ∀ b, P b → Q b) (hQ : ∀ b, base ≤ b → b < w.heap.size → (∃ c fz, w.heap[b]? = some (.cells c 44 fz)) → Q b) : n = hs.length ∧ TRow Q w A n cap hs := by
  obtain ⟨us, ho, hl, ht⟩ := h.row
  have hf := ownT_five hl ht
  have hn : n = hs.length ∧ n ≤ cap ∧ cap ≤ maxLen := by
    rcases ho.2 with ⟨e, hn⟩ | ⟨g, cap', cur, e, _, _, hc, hm, _⟩
    · simp only [Value.slice.injEq] at e
      obtain ⟨rfl, rfl, rfl⟩ := e
      exact ⟨hn.symm, Nat.le_refl _, Nat.zero_le _⟩
    · simp only [Value.slice.injEq] at e
      obtain ⟨_, rfl, rfl⟩ := e
      exact ⟨rfl, hc, hm⟩
  obtain ⟨rfl, h2, h3⟩ := hn
  refine ⟨rfl, rfl, Nat.le_trans h2 h3, h2, fun j x hj => ?_⟩
  obtain ⟨u, hu, hT⟩ := ht j x hj
  obtain ⟨g, rfl, hb, hg, hty, hE⟩ := own_elem ho hf hu
  exact ⟨_, u, rfl, hQ _ hb hg hty, hE, hT.mono hP⟩
theorem OwnT.shape {base : Nat} {P : Nat → Prop} {w : World} {v : Value} {hs : List Tm} (h : OwnT base P w v hs) : ∃ A cap, v = .slice A hs.length cap := by
  obtain ⟨us, ho, _⟩ := h.row
  rcases ho.2 with ⟨rfl, hn⟩ | ⟨g, cap', cur, rfl, _⟩
  · exact ⟨none, 0, by rw [hn]⟩
  · exact ⟨_, _, rfl⟩
theorem OwnT.keep {base : Nat} {P Q F : Nat → Prop} {w w' : World} {v : Value} {hs : List Tm} (h : OwnT base P w v hs) (hm : Mod F w w') (hv : ∀ g, v.ownBlock = some g → ¬ F g) (hP : ∀ b, P b → b < w.heap.size ∧ ¬ F b) (hQ : ∀ b, P b → Q b) : OwnT base Q w' v hs := by
  obtain ⟨us, ho, hl, ht⟩ := h.row
  exact ⟨us, hm.row ho hv, hl, fun j x hj => by obtain ⟨u, hu, hT⟩ := ht j x hj; exact ⟨u, hu, hT.keep (fun b hb => hm.block b (hP b hb).1 (hP b hb).2) hQ⟩⟩

section
variable {ops : Array Oper} {rest : List Oper} {o : Oper} {a : Act} {w : World}
end
end Go.Proofs.YtkceoiaaiaomoaaGreatDoor
end
section
set_option linter.unusedVariables false
namespace Go.Proofs.YtkceoiaaiaomoaaGreatDoor
open Go.RowKit

def Valid (x : Tm) : Prop := ∀ y ∈ x.pre, okB y = true
theorem Valid.own {x : Tm} (h : Valid x) : okB x = true := h x (by cases x; simp [Tm.pre])
theorem Tm.pre_sub {y : Tm} {l : List Tm} (h : y ∈ l) : ∀ z ∈ y.pre, z ∈ Tm.pres l := by
  induction l with
  | nil => simp at h
  | cons a l ih =>
    intro z hz
    rw [Tm.pres]
    rcases List.mem_cons.1 h with rfl | h
    · exact List.mem_append_left _ hz
    · exact List.mem_append_right _ (ih h z hz)
theorem Valid.part {k n : Int} {s t : ByteArray} {l : List Tm} (h : Valid (.mk k n s t l)) {y : Tm} (hy : y ∈ l) : Valid y := fun z hz => h z (by rw [Tm.pre]; exact List.mem_cons_of_mem _ (Tm.pre_sub hy z hz))
end Go.Proofs.YtkceoiaaiaomoaaGreatDoor
end
section
set_option linter.unusedVariables false
namespace Go.Proofs.YtkceoiaaiaomoaaGreatDoor
open Go.RowKit

theorem check_valid {x : Tm} (h : checkN x = 0) : Valid x ∧ x.nodes ≤ 256 := by
  unfold checkN at h
  by_cases ha : (x.pre.take 257).all okB = true
  · rw [if_pos ha] at h
    by_cases hn : 256 < x.nodes
    · rw [if_pos hn] at h; cases h
    · refine ⟨fun y hy => ?_, by omega⟩
      have : x.pre.take 257 = x.pre := List.take_of_length_le (by unfold Tm.nodes at hn; omega)
      rw [this] at ha
      exact List.all_eq_true.1 ha y hy
  · rw [if_neg ha] at h; cases h

theorem check_of {x : Tm} (hV : Valid x) (hn : x.nodes ≤ 256) : checkN x = 0 := by
  unfold checkN
  rw [if_pos (List.all_eq_true.2 (fun y hy => hV y (List.mem_of_mem_take hy))), if_neg (by omega)]

end Go.Proofs.YtkceoiaaiaomoaaGreatDoor
end
section

end
