/- 'xs = append(xs, ..)' to a row of the call's own: where the longer row lies: in the row's own block, or in a new one. -/
import Derived.Test.YtkceoiaaiaomoaaGreatDoorKAstC
import Derived.Test.YtkceoiaaiaomoaaGreatDoorKPub7
import Derived.Test.YtkceoiaaiaomoaaGreatDoorKGd2
import Derived.Test.YtkceoiaaiaomoaaGreatDoorKBnd
section
set_option linter.unusedVariables false
set_option linter.unusedSimpArgs false
namespace Go.Proofs.YtkceoiaaiaomoaaGreatDoor
open Go.RowKit

def bdOk (b : Bd) : Bool := nameB b.1 3 && (!(b.1.data.toList == [95]) && (checkN b.2 == 0))
def may10 (l : List Bd) : Bool := decide (l.length ≤ 64) && l.all bdOk
set_option maxHeartbeats 1000000 in
theorem may10_any (t : Tm) (v : Value) (w : World) (hT : TmAt (· < w.heap.size) w t v) (hS : Spans w) :
    Calls Tryz.prog 76 #[v] w fun e w' => e = .returned (.bool (checkN t == 0)) ∧ Below w.heap.size w w' := by
  obtain ⟨k, n, s, t9, A, m, c, rfl⟩ : ∃ k n s t A m c, v = .agg #[.int .i8 k, .int .i64 n, .string s, .string t, .slice A m c] := by cases hT; exact ⟨_, _, _, _, _, _, _, rfl⟩
  obtain ⟨w1, hw1⟩ : ∃ w1, w1 = w.alloc (.cells #[.int .i8 k, .int .i64 n, .string s, .string t9, .slice A m c] 44) := ⟨_, rfl⟩
  have hb1 : Below w.heap.size w w1 := by rw [hw1]; exact (Below.refl _ w).alloc (Nat.le_refl _) _
  have hg1 : w1.heap[w.heap.size]? = some (.cells #[.int .i8 k, .int .i64 n, .string s, .string t9, .slice A m c] 44 (0, 0)) := by rw [hw1]; exact block_alloc _ _
  have HC := Lib.hid (Check_any t _ w1 (hT.laterN hb1) (hS.below hb1 hS.lt))
  have HB1 := Lib.hid hb1
  obtain ⟨x0, x1, x2, x3, x4⟩ := five_of hg1
  clear hb1 hg1 hT hS
  go_enter Tryz.func76, Tryz.ntmps76
  go_upto_region 1 with fail
  rw [← hw1]
  clear hw1
  go_wp2_with fail
  refine HC.out.mono ?_
  rintro e w2 ⟨rfl, b2⟩
  go_wp2_with fail
  go_ret
  exact ⟨rfl, HB1.out.trans (b2.mono HB1.out.size)⟩
set_option maxHeartbeats 4000000 in
set_option maxRecDepth 100000 in
theorem mayBd_any (s : ByteArray) (t : Tm) (k n : Int) (ts tt : ByteArray) (A : Option Addr) (m c : Nat) (w : World) (hs : s.size ≤ maxLen) (hT : TmAt (· < w.heap.size) w t (.agg #[.int .i8 k, .int .i64 n, .string ts, .string tt, .slice A m c])) (hS : Spans w) :
    Calls Tryz.prog 74 #[.agg #[.string s, .int .i8 k, .int .i64 n, .string ts, .string tt, .slice A m c]] w fun e w' => e = .returned (.bool (bdOk (s, t))) ∧ Below w.heap.size w w' := by
  obtain ⟨w1, hw1⟩ : ∃ w1, w1 = w.alloc (.cells #[.string s, .int .i8 k, .int .i64 n, .string ts, .string tt, .slice A m c] 61) := ⟨_, rfl⟩
  have hb1 : Below w.heap.size w w1 := by rw [hw1]; exact (Below.refl _ w).alloc (Nat.le_refl _) _
  have HG : Hid (w1.heap[w.heap.size]? = some (.cells #[.string s, .int .i8 k, .int .i64 n, .string ts, .string tt, .slice A m c] 61 (0, 0))) := Lib.hid (by rw [hw1]; exact block_alloc _ _)
  have HC := Lib.hid (Name_any s hs w1 (hS.below hb1 hS.lt))
  have HB1 := Lib.hid hb1
  have HT := Lib.hid hT
  have HS := Lib.hid hS
  have gx := HG.out
  have x0 : (w1).cell? ⟨w.heap.size, 0, none⟩ = some (.string s) := cell_of_row (i := 0) gx rfl
  have x1 : (w1).cell? ⟨w.heap.size, 1, none⟩ = some (.int .i8 k) := cell_of_row (i := 1) gx rfl
  have x2 : (w1).cell? ⟨w.heap.size, 2, none⟩ = some (.int .i64 n) := cell_of_row (i := 2) gx rfl
  have x3 : (w1).cell? ⟨w.heap.size, 3, none⟩ = some (.string ts) := cell_of_row (i := 3) gx rfl
  have x4 : (w1).cell? ⟨w.heap.size, 4, none⟩ = some (.string tt) := cell_of_row (i := 4) gx rfl
  have x5 : (w1).cell? ⟨w.heap.size, 5, none⟩ = some (.slice A m c) := cell_of_row (i := 5) gx rfl
  clear hb1 hT hS gx
  go_enter Tryz.func74, Tryz.ntmps74
  go_upto_region 1 with fail
  rw [← hw1]
  clear hw1
  go_wp2_with fail
  refine HC.out.mono ?_
  rintro e w2 ⟨rfl, b2⟩
  have HB2 := Lib.hid (HB1.out.trans (b2.mono HB1.out.size))
  have gx := (b2.block _ (heap_lt HG.out)).trans HG.out
  clear x0 x1 x2 x3 x4 x5 b2
  have x0 : (w2).cell? ⟨w.heap.size, 0, none⟩ = some (.string s) := cell_of_row (i := 0) gx rfl
  have x1 : (w2).cell? ⟨w.heap.size, 1, none⟩ = some (.int .i8 k) := cell_of_row (i := 1) gx rfl
  have x2 : (w2).cell? ⟨w.heap.size, 2, none⟩ = some (.int .i64 n) := cell_of_row (i := 2) gx rfl
  have x3 : (w2).cell? ⟨w.heap.size, 3, none⟩ = some (.string ts) := cell_of_row (i := 3) gx rfl
  have x4 : (w2).cell? ⟨w.heap.size, 4, none⟩ = some (.string tt) := cell_of_row (i := 4) gx rfl
  have x5 : (w2).cell? ⟨w.heap.size, 5, none⟩ = some (.slice A m c) := cell_of_row (i := 5) gx rfl
  clear gx
  cases h1 : nameB s 3 with
  | false =>
    have HF : Hid (bdOk (s, t) = false) := by show _ = _; unfold bdOk; rw [h1]; rfl
    clear h1
    go_wp2_with fail
    go_ret
    exact ⟨ret_bool HF.out.symm, HB2.out⟩
  | true =>
    have HF1 : Hid (bdOk (s, t) = (!(s.data.toList == [95]) && (checkN t == 0))) := by show _ = _; unfold bdOk; rw [h1]; rfl
    clear h1
    have hte : (s.toList == [95]) = (s.data.toList == [95]) := by rw [ByteArray.toList_eq]
    cases h2 : (s.data.toList == [95]) with
    | true =>
      have h3 : (s.toList == [95]) = true := hte.trans h2
      have HF : Hid (bdOk (s, t) = false) := by show _ = _; rw [HF1.out, h2]; rfl
      clear h2 hte
      go_wp2_with fail
      go_ret
      exact ⟨ret_bool HF.out.symm, HB2.out⟩
    | false =>
      have h3 : (s.toList == [95]) = false := hte.trans h2
      have HF : Hid (bdOk (s, t) = (checkN t == 0)) := by show _ = _; rw [HF1.out, h2]; rfl
      have HC2 := Lib.hid (may10_any t _ w2 (HT.out.laterN HB2.out) (HS.out.below HB2.out HS.out.lt))
      clear h2 hte
      go_wp2_with fail
      refine HC2.out.mono ?_
      rintro e w3 ⟨rfl, b3⟩
      have HB3 := Lib.hid (HB2.out.trans (b3.mono HB2.out.size))
      rw [← HF.out]
      clear b3
      go_wp2_with fail
      go_ret
      exact ⟨rfl, HB3.out⟩
set_option maxHeartbeats 2000000 in
set_option maxRecDepth 100000 in
theorem each1N_any (f : Tm → Bool) (y : Tm) (u : Value) (g : Nat) (W : World) (hone : ∀ V, Below W.heap.size W V → TmAt (· < V.heap.size) V y u → Calls Tryz.prog 79 #[u] V fun e w' => e = .returned (.bool (f y)) ∧ Below V.heap.size V w') (hT : TmAt (· < W.heap.size) W y u) (hg : W.cell? ⟨g, 0, none⟩ = some (.func (.func 79) #[] #[])) :
    Calls Tryz.prog 131 #[u, .pointer (some ⟨g, 0, none⟩)] W fun e w' => e = .returned (.bool (!f y)) ∧ Below W.heap.size W w' := by
  obtain ⟨k', n', s', t', A', m', c', rfl⟩ : ∃ k n s t A m c, u = .agg #[.int .i8 k, .int .i64 n, .string s, .string t, .slice A m c] := by cases hT; exact ⟨_, _, _, _, _, _, _, rfl⟩
  obtain ⟨W2, hW2⟩ : ∃ W2, W2 = W.alloc (.cells #[.int .i8 k', .int .i64 n', .string s', .string t', .slice A' m' c'] 25) := ⟨_, rfl⟩
  have b2 : Below W.heap.size W W2 := by rw [hW2]; exact (Below.refl _ W).alloc (Nat.le_refl _) _
  have g0 : W2.heap[W.heap.size]? = some (.cells #[.int .i8 k', .int .i64 n', .string s', .string t', .slice A' m' c'] 25 (0, 0)) := by rw [hW2]; exact block_alloc _ _
  have HB2 := Lib.hid b2
  have HC := Lib.hid (hone W2 b2 (hT.keep (fun b hb => b2.block b hb) (fun b hb => Nat.lt_of_lt_of_le hb b2.size)))
  have xg : W2.cell? ⟨g, 0, none⟩ = some (.func (.func 79) #[] #[]) := (b2.cell (World.block_lt_of_cell? W _ hg)).trans hg
  obtain ⟨x0, x1, x2, x3, x4⟩ := five_of g0
  clear g0 b2 hT hg hone
  go_enter Tryz.func131, Tryz.ntmps131
  go_upto_region 1 with fail
  rw [← hW2]
  clear hW2
  go_wp2_with fail
  refine HC.out.mono ?_
  rintro e W3 ⟨rfl, b3⟩
  go_wp2_with fail
  go_ret
  exact ⟨rfl, HB2.out.trans (b3.mono HB2.out.size)⟩
set_option maxHeartbeats 2000000 in
set_option maxRecDepth 100000 in
theorem idxN10_any (f : Tm → Bool) (ps : List Tm) (A : Option Addr) (cap g : Nat) (W : World) (hone : ∀ y ∈ ps, ∀ u V, Below W.heap.size W V → TmAt (· < V.heap.size) V y u → Calls Tryz.prog 79 #[u] V fun e w' => e = .returned (.bool (f y)) ∧ Below V.heap.size V w') (hR : TRow (· < W.heap.size) W A ps.length cap ps) (hg : W.cell? ⟨g, 0, none⟩ = some (.func (.func 79) #[] #[])) :
    Calls Tryz.prog 201 #[.slice A ps.length cap, .func (.func 131) #[] #[.pointer (some ⟨g, 0, none⟩)]] W
      fun e w' => (∃ r : Int, e = .returned (.int .i64 r) ∧ decide (0 ≤ r) = !ps.all f) ∧ Below W.heap.size W w' := by
  have hmax := hR.max
  unfold maxLen at hmax
  have HR := Lib.hid hR
  have HG := Lib.hid hg
  have HONE := Lib.hid hone
  clear hR hg hone
  go_enter Tryz.func201, Tryz.ntmps201
  go_wp2_with fail
  go_loopw [8] (fun i wr => ∃ j : Nat, j ≤ ps.length ∧ i = .int .i64 j ∧ Hid ((ps.take j).all f = true) ∧ Hid (Below W.heap.size W wr)) (fun i _ => ps.length - (intOf i).toNat)
  case atStart => exact ⟨0, Nat.zero_le _, rfl, Lib.hid (by simp), Lib.hid (Below.refl _ _)⟩
  case round =>
    obtain ⟨j, hj, rfl, HM, HB⟩ := hrel
    by_cases hlt : j < ps.length
    · obtain ⟨y, hy⟩ : ∃ y, ps[j]? = some y := ⟨ps[j], List.getElem?_eq_getElem hlt⟩
      obtain ⟨ad, u, rfl, had, hE, hTy⟩ := HR.out.at_ j y hy
      have hEr := hE.keep (HB.out.block ad.block had)
      have hTr := hTy.keep (Q := (· < wr.heap.size)) (w' := wr) (fun b hb => HB.out.block b hb) (fun b hb => Nat.lt_of_lt_of_le hb HB.out.size)
      have HC := Lib.hid (each1N_any f y u g wr (fun V hV hTV => HONE.out y (List.mem_of_getElem? hy) u V (HB.out.trans (hV.mono HB.out.size)) hTV) hTr ((HB.out.cell (World.block_lt_of_cell? W _ HG.out)).trans HG.out))
      obtain ⟨k', n', s', t', A', m', cap', rfl⟩ : ∃ k' n' s' t' A' m' cap', u = .agg #[.int .i8 k', .int .i64 n', .string s', .string t', .slice A' m' cap'] := by
        cases hTy; exact ⟨_, _, _, _, _, _, _, rfl⟩
      obtain ⟨c0, c1, c2, c3, c4, hcc, e0, e1, e2, e3, e4⟩ := hEr
      simp only [Value.agg.injEq, Array.mk.injEq, List.cons.injEq, and_true] at hcc
      obtain ⟨rfl, rfl, rfl, rfl, rfl⟩ := hcc
      have HY := Lib.hid hy
      clear hE hTy hTr hy had
      go_wp2_with fail
      refine HC.out.mono ?_
      rintro e w2 ⟨rfl, b2⟩
      have HB2 := Lib.hid (HB.out.trans (b2.mono HB.out.size))
      clear b2 e0 e1 e2 e3 e4
      cases hc : f y
      · go_wp2_with fail
        go_ret
        refine ⟨⟨_, rfl, ?_⟩, HB2.out⟩
        have hm : ps.all f = false := by
          rw [List.all_eq_false]
          exact ⟨y, List.mem_of_getElem? HY.out, by simp [hc]⟩
        rw [hm]
        simp
      · go_wp2_with fail
        go_roundw
        case rel =>
          refine ⟨j + 1, by omega, by go_num, Lib.hid ?_, HB2⟩
          rw [List.take_add_one, HY.out, List.all_append, HM.out]
          simp [hc]
        case measure => simp [intOf]; omega
    · obtain rfl : j = ps.length := by omega
      go_wp2_with fail
      go_ret
      refine ⟨⟨_, rfl, ?_⟩, HB.out⟩
      have hm := HM.out
      rw [List.take_length] at hm
      rw [hm]
      rfl
set_option maxHeartbeats 1000000 in
set_option maxRecDepth 100000 in
theorem hasN10_any (f : Tm → Bool) (ps : List Tm) (A : Option Addr) (cap g : Nat) (W : World) (hone : ∀ y ∈ ps, ∀ u V, Below W.heap.size W V → TmAt (· < V.heap.size) V y u → Calls Tryz.prog 79 #[u] V fun e w' => e = .returned (.bool (f y)) ∧ Below V.heap.size V w') (hR : TRow (· < W.heap.size) W A ps.length cap ps) (hg : W.cell? ⟨g, 0, none⟩ = some (.func (.func 79) #[] #[])) :
    Calls Tryz.prog 130 #[.slice A ps.length cap, .func (.func 131) #[] #[.pointer (some ⟨g, 0, none⟩)]] W
      fun e w' => e = .returned (.bool (!ps.all f)) ∧ Below W.heap.size W w' := by
  have HC := Lib.hid (idxN10_any f ps A cap g W hone hR hg)
  clear hR hg hone
  go_enter Tryz.func130, Tryz.ntmps130
  go_wp2_with fail
  refine HC.out.mono ?_
  rintro e w2 ⟨⟨r, rfl, hr⟩, b2⟩
  have HRR := Lib.hid hr
  clear hr
  go_wp2_with fail
  go_ret
  exact ⟨ret_bool HRR.out, b2⟩
set_option maxHeartbeats 1000000 in
set_option maxRecDepth 100000 in
theorem eachN10_any (f : Tm → Bool) (ps : List Tm) (A : Option Addr) (pn cap : Nat) (W : World) (hone : ∀ y ∈ ps, ∀ u V, Below W.heap.size W V → TmAt (· < V.heap.size) V y u → Calls Tryz.prog 79 #[u] V fun e w' => e = .returned (.bool (f y)) ∧ Below V.heap.size V w') (hR : TRow (· < W.heap.size) W A pn cap ps) :
    Calls Tryz.prog 78 #[.slice A pn cap, .func (.func 79) #[] #[]] W fun e w' => e = .returned (.bool (ps.all f)) ∧ Below W.heap.size W w' := by
  obtain rfl := hR.len
  obtain ⟨w1, hw1⟩ : ∃ w1, w1 = W.alloc (.cells #[.func (.func 79) #[] #[]] 26) := ⟨_, rfl⟩
  have hb1 : Below W.heap.size W w1 := by rw [hw1]; exact (Below.refl _ W).alloc (Nat.le_refl _) _
  have hg1 : w1.heap[W.heap.size]? = some (.cells #[.func (.func 79) #[] #[]] 26 (0, 0)) := by rw [hw1]; exact block_alloc _ _
  have HC := Lib.hid (hasN10_any f ps A cap W.heap.size w1 (fun y hy u V hV hT => hone y hy u V (hb1.trans (hV.mono hb1.size)) hT) (hR.later hb1) (cell_of_row (i := 0) hg1 rfl))
  have HB1 := Lib.hid hb1
  clear hR hb1 hg1 hone
  go_enter Tryz.func78, Tryz.ntmps78
  go_upto_region 1 with fail
  rw [← hw1]
  clear hw1
  go_wp2_with fail
  refine HC.out.mono ?_
  rintro e w2 ⟨rfl, b2⟩
  go_wp2_with fail
  go_ret
  exact ⟨by simp, HB1.out.trans (b2.mono HB1.out.size)⟩
set_option maxHeartbeats 2000000 in
set_option maxRecDepth 100000 in
theorem each1T_any (f : Tm → Bool) (y : Tm) (u : Value) (g : Nat) (W : World) (hone : ∀ V, Below W.heap.size W V → TmAt (· < V.heap.size) V y u → Calls Tryz.prog 76 #[u] V fun e w' => e = .returned (.bool (f y)) ∧ Below V.heap.size V w') (hT : TmAt (· < W.heap.size) W y u) (hg : W.cell? ⟨g, 0, none⟩ = some (.func (.func 76) #[] #[])) :
    Calls Tryz.prog 133 #[u, .pointer (some ⟨g, 0, none⟩)] W fun e w' => e = .returned (.bool (!f y)) ∧ Below W.heap.size W w' := by
  obtain ⟨k', n', s', t', A', m', c', rfl⟩ : ∃ k n s t A m c, u = .agg #[.int .i8 k, .int .i64 n, .string s, .string t, .slice A m c] := by cases hT; exact ⟨_, _, _, _, _, _, _, rfl⟩
  obtain ⟨W2, hW2⟩ : ∃ W2, W2 = W.alloc (.cells #[.int .i8 k', .int .i64 n', .string s', .string t', .slice A' m' c'] 44) := ⟨_, rfl⟩
  have b2 : Below W.heap.size W W2 := by rw [hW2]; exact (Below.refl _ W).alloc (Nat.le_refl _) _
  have g0 : W2.heap[W.heap.size]? = some (.cells #[.int .i8 k', .int .i64 n', .string s', .string t', .slice A' m' c'] 44 (0, 0)) := by rw [hW2]; exact block_alloc _ _
  have HB2 := Lib.hid b2
  have HC := Lib.hid (hone W2 b2 (hT.keep (fun b hb => b2.block b hb) (fun b hb => Nat.lt_of_lt_of_le hb b2.size)))
  have xg : W2.cell? ⟨g, 0, none⟩ = some (.func (.func 76) #[] #[]) := (b2.cell (World.block_lt_of_cell? W _ hg)).trans hg
  obtain ⟨x0, x1, x2, x3, x4⟩ := five_of g0
  clear g0 b2 hT hg hone
  go_enter Tryz.func133, Tryz.ntmps133
  go_upto_region 1 with fail
  rw [← hW2]
  clear hW2
  go_wp2_with fail
  refine HC.out.mono ?_
  rintro e W3 ⟨rfl, b3⟩
  go_wp2_with fail
  go_ret
  exact ⟨rfl, HB2.out.trans (b3.mono HB2.out.size)⟩
set_option maxHeartbeats 2000000 in
set_option maxRecDepth 100000 in
theorem idxT10_any (f : Tm → Bool) (ps : List Tm) (A : Option Addr) (cap g : Nat) (W : World) (hone : ∀ y ∈ ps, ∀ u V, Below W.heap.size W V → TmAt (· < V.heap.size) V y u → Calls Tryz.prog 76 #[u] V fun e w' => e = .returned (.bool (f y)) ∧ Below V.heap.size V w') (hR : TRow (· < W.heap.size) W A ps.length cap ps) (hg : W.cell? ⟨g, 0, none⟩ = some (.func (.func 76) #[] #[])) :
    Calls Tryz.prog 202 #[.slice A ps.length cap, .func (.func 133) #[] #[.pointer (some ⟨g, 0, none⟩)]] W
      fun e w' => (∃ r : Int, e = .returned (.int .i64 r) ∧ decide (0 ≤ r) = !ps.all f) ∧ Below W.heap.size W w' := by
  have hmax := hR.max
  unfold maxLen at hmax
  have HR := Lib.hid hR
  have HG := Lib.hid hg
  have HONE := Lib.hid hone
  clear hR hg hone
  go_enter Tryz.func202, Tryz.ntmps202
  go_wp2_with fail
  go_loopw [8] (fun i wr => ∃ j : Nat, j ≤ ps.length ∧ i = .int .i64 j ∧ Hid ((ps.take j).all f = true) ∧ Hid (Below W.heap.size W wr)) (fun i _ => ps.length - (intOf i).toNat)
  case atStart => exact ⟨0, Nat.zero_le _, rfl, Lib.hid (by simp), Lib.hid (Below.refl _ _)⟩
  case round =>
    obtain ⟨j, hj, rfl, HM, HB⟩ := hrel
    by_cases hlt : j < ps.length
    · obtain ⟨y, hy⟩ : ∃ y, ps[j]? = some y := ⟨ps[j], List.getElem?_eq_getElem hlt⟩
      obtain ⟨ad, u, rfl, had, hE, hTy⟩ := HR.out.at_ j y hy
      have hEr := hE.keep (HB.out.block ad.block had)
      have hTr := hTy.keep (Q := (· < wr.heap.size)) (w' := wr) (fun b hb => HB.out.block b hb) (fun b hb => Nat.lt_of_lt_of_le hb HB.out.size)
      have HC := Lib.hid (each1T_any f y u g wr (fun V hV hTV => HONE.out y (List.mem_of_getElem? hy) u V (HB.out.trans (hV.mono HB.out.size)) hTV) hTr ((HB.out.cell (World.block_lt_of_cell? W _ HG.out)).trans HG.out))
      obtain ⟨k', n', s', t', A', m', cap', rfl⟩ : ∃ k' n' s' t' A' m' cap', u = .agg #[.int .i8 k', .int .i64 n', .string s', .string t', .slice A' m' cap'] := by
        cases hTy; exact ⟨_, _, _, _, _, _, _, rfl⟩
      obtain ⟨c0, c1, c2, c3, c4, hcc, e0, e1, e2, e3, e4⟩ := hEr
      simp only [Value.agg.injEq, Array.mk.injEq, List.cons.injEq, and_true] at hcc
      obtain ⟨rfl, rfl, rfl, rfl, rfl⟩ := hcc
      have HY := Lib.hid hy
      clear hE hTy hTr hy had
      go_wp2_with fail
      refine HC.out.mono ?_
      rintro e w2 ⟨rfl, b2⟩
      have HB2 := Lib.hid (HB.out.trans (b2.mono HB.out.size))
      clear b2 e0 e1 e2 e3 e4
      cases hc : f y
      · go_wp2_with fail
        go_ret
        refine ⟨⟨_, rfl, ?_⟩, HB2.out⟩
        have hm : ps.all f = false := by
          rw [List.all_eq_false]
          exact ⟨y, List.mem_of_getElem? HY.out, by simp [hc]⟩
        rw [hm]
        simp
      · go_wp2_with fail
        go_roundw
        case rel =>
          refine ⟨j + 1, by omega, by go_num, Lib.hid ?_, HB2⟩
          rw [List.take_add_one, HY.out, List.all_append, HM.out]
          simp [hc]
        case measure => simp [intOf]; omega
    · obtain rfl : j = ps.length := by omega
      go_wp2_with fail
      go_ret
      refine ⟨⟨_, rfl, ?_⟩, HB.out⟩
      have hm := HM.out
      rw [List.take_length] at hm
      rw [hm]
      rfl
set_option maxHeartbeats 1000000 in
set_option maxRecDepth 100000 in
theorem hasT10_any (f : Tm → Bool) (ps : List Tm) (A : Option Addr) (cap g : Nat) (W : World) (hone : ∀ y ∈ ps, ∀ u V, Below W.heap.size W V → TmAt (· < V.heap.size) V y u → Calls Tryz.prog 76 #[u] V fun e w' => e = .returned (.bool (f y)) ∧ Below V.heap.size V w') (hR : TRow (· < W.heap.size) W A ps.length cap ps) (hg : W.cell? ⟨g, 0, none⟩ = some (.func (.func 76) #[] #[])) :
    Calls Tryz.prog 132 #[.slice A ps.length cap, .func (.func 133) #[] #[.pointer (some ⟨g, 0, none⟩)]] W
      fun e w' => e = .returned (.bool (!ps.all f)) ∧ Below W.heap.size W w' := by
  have HC := Lib.hid (idxT10_any f ps A cap g W hone hR hg)
  clear hR hg hone
  go_enter Tryz.func132, Tryz.ntmps132
  go_wp2_with fail
  refine HC.out.mono ?_
  rintro e w2 ⟨⟨r, rfl, hr⟩, b2⟩
  have HRR := Lib.hid hr
  clear hr
  go_wp2_with fail
  go_ret
  exact ⟨ret_bool HRR.out, b2⟩
set_option maxHeartbeats 1000000 in
set_option maxRecDepth 100000 in
theorem eachT10_any (f : Tm → Bool) (ps : List Tm) (A : Option Addr) (pn cap : Nat) (W : World) (hone : ∀ y ∈ ps, ∀ u V, Below W.heap.size W V → TmAt (· < V.heap.size) V y u → Calls Tryz.prog 76 #[u] V fun e w' => e = .returned (.bool (f y)) ∧ Below V.heap.size V w') (hR : TRow (· < W.heap.size) W A pn cap ps) :
    Calls Tryz.prog 80 #[.slice A pn cap, .func (.func 76) #[] #[]] W fun e w' => e = .returned (.bool (ps.all f)) ∧ Below W.heap.size W w' := by
  obtain rfl := hR.len
  obtain ⟨w1, hw1⟩ : ∃ w1, w1 = W.alloc (.cells #[.func (.func 76) #[] #[]] 46) := ⟨_, rfl⟩
  have hb1 : Below W.heap.size W w1 := by rw [hw1]; exact (Below.refl _ W).alloc (Nat.le_refl _) _
  have hg1 : w1.heap[W.heap.size]? = some (.cells #[.func (.func 76) #[] #[]] 46 (0, 0)) := by rw [hw1]; exact block_alloc _ _
  have HC := Lib.hid (hasT10_any f ps A cap W.heap.size w1 (fun y hy u V hV hT => hone y hy u V (hb1.trans (hV.mono hb1.size)) hT) (hR.later hb1) (cell_of_row (i := 0) hg1 rfl))
  have HB1 := Lib.hid hb1
  clear hR hb1 hg1 hone
  go_enter Tryz.func80, Tryz.ntmps80
  go_upto_region 1 with fail
  rw [← hw1]
  clear hw1
  go_wp2_with fail
  refine HC.out.mono ?_
  rintro e w2 ⟨rfl, b2⟩
  go_wp2_with fail
  go_ret
  exact ⟨by simp, HB1.out.trans (b2.mono HB1.out.size)⟩
set_option maxHeartbeats 1000000 in
theorem eachBd_any (s : ByteArray) (t : Tm) (k n : Int) (ts tt : ByteArray) (A : Option Addr) (m c : Nat) (g : Nat) (w : World) (hs : s.size ≤ maxLen) (hT : TmAt (· < w.heap.size) w t (.agg #[.int .i8 k, .int .i64 n, .string ts, .string tt, .slice A m c])) (hS : Spans w)
    (hg : w.cell? ⟨g, 0, none⟩ = some (.func (.func 74) #[] #[])) :
    Calls Tryz.prog 126 #[.agg #[.string s, .int .i8 k, .int .i64 n, .string ts, .string tt, .slice A m c], .pointer (some ⟨g, 0, none⟩)] w fun e w' => e = .returned (.bool (!bdOk (s, t))) ∧ Below w.heap.size w w' := by
  obtain ⟨w1, hw1⟩ : ∃ w1, w1 = w.alloc (.cells #[.string s, .int .i8 k, .int .i64 n, .string ts, .string tt, .slice A m c] 61) := ⟨_, rfl⟩
  have hb1 : Below w.heap.size w w1 := by rw [hw1]; exact (Below.refl _ w).alloc (Nat.le_refl _) _
  have hg1 : w1.heap[w.heap.size]? = some (.cells #[.string s, .int .i8 k, .int .i64 n, .string ts, .string tt, .slice A m c] 61 (0, 0)) := by rw [hw1]; exact block_alloc _ _
  have HC := Lib.hid (mayBd_any s t k n ts tt A m c w1 hs (hT.keep (fun b hb => hb1.block b hb) (fun b hb => Nat.lt_of_lt_of_le hb hb1.size)) (hS.below hb1 hS.lt))
  have HB1 := Lib.hid hb1
  have x0 : w1.cell? ⟨w.heap.size, 0, none⟩ = some (.string s) := cell_of_row (i := 0) hg1 rfl
  have x1 : w1.cell? ⟨w.heap.size, 1, none⟩ = some (.int .i8 k) := cell_of_row (i := 1) hg1 rfl
  have x2 : w1.cell? ⟨w.heap.size, 2, none⟩ = some (.int .i64 n) := cell_of_row (i := 2) hg1 rfl
  have x3 : w1.cell? ⟨w.heap.size, 3, none⟩ = some (.string ts) := cell_of_row (i := 3) hg1 rfl
  have x4 : w1.cell? ⟨w.heap.size, 4, none⟩ = some (.string tt) := cell_of_row (i := 4) hg1 rfl
  have x5 : w1.cell? ⟨w.heap.size, 5, none⟩ = some (.slice A m c) := cell_of_row (i := 5) hg1 rfl
  have xg : w1.cell? ⟨g, 0, none⟩ = some (.func (.func 74) #[] #[]) := (World.cell?_of_block (w := w) (a := ⟨g, 0, none⟩) (hb1.block g (World.block_lt_of_cell? w _ hg))).trans hg
  clear hb1 hg1 hT hS hg
  go_enter Tryz.func126, Tryz.ntmps126
  go_upto_region 1 with fail
  rw [← hw1]
  clear hw1
  go_wp2_with fail
  refine HC.out.mono ?_
  rintro e w2 ⟨rfl, b2⟩
  go_wp2_with fail
  go_ret
  exact ⟨rfl, HB1.out.trans (b2.mono HB1.out.size)⟩
set_option maxHeartbeats 2000000 in
set_option maxRecDepth 100000 in
theorem idxBd_any (l : List Bd) (A : Option Addr) (cap g : Nat) (w : World) (hR : BRow (· < w.heap.size) w A l.length cap l) (hS : Spans w) (hg : w.cell? ⟨g, 0, none⟩ = some (.func (.func 74) #[] #[])) :
    Calls Tryz.prog 195 #[.slice A l.length cap, .func (.func 126) #[] #[.pointer (some ⟨g, 0, none⟩)]] w
      fun e w' => (∃ r : Int, e = .returned (.int .i64 r) ∧ decide (0 ≤ r) = !l.all bdOk) ∧ Below w.heap.size w w' := by
  have hmax := hR.max
  unfold maxLen at hmax
  have HR := Lib.hid hR
  have HS := Lib.hid hS
  have HG := Lib.hid hg
  clear hR hS hg
  go_enter Tryz.func195, Tryz.ntmps195
  go_wp2_with fail
  go_loopw [8] (fun i wr => ∃ j : Nat, j ≤ l.length ∧ i = .int .i64 j ∧ Hid ((l.take j).all bdOk = true) ∧ Hid (Below w.heap.size w wr)) (fun i _ => l.length - (intOf i).toNat)
  case atStart => exact ⟨0, Nat.zero_le _, rfl, Lib.hid (by simp), Lib.hid (Below.refl _ _)⟩
  case round =>
    obtain ⟨j, hj, rfl, HM, HB⟩ := hrel
    by_cases hlt : j < l.length
    · obtain ⟨y, hy⟩ : ∃ y, l[j]? = some y := ⟨l[j], List.getElem?_eq_getElem hlt⟩
      obtain ⟨ad, u, rfl, had, hsz, hE, hTy⟩ := HR.out.at_ j y hy
      have hEr := hE.keep (HB.out.block ad.block had)
      have hTr := hTy.keep (Q := (· < wr.heap.size)) (w' := wr) (fun b hb => HB.out.block b hb) (fun b hb => Nat.lt_of_lt_of_le hb HB.out.size)
      obtain ⟨s, t⟩ := y
      obtain ⟨k, n, ts, tt, L, hte⟩ : ∃ k n ts tt L, t = Tm.mk k n ts tt L := by cases t; exact ⟨_, _, _, _, _, rfl⟩
      obtain ⟨TA, tc, rfl, -⟩ := (by rw [← hte]; exact hTr : TmAt _ wr (Tm.mk k n ts tt L) u).parts
      have HT := Lib.hid hTr
      obtain ⟨c0, c1, c2, c3, c4, hcc, es, e0, e1, e2, e3, e4⟩ := hEr
      simp only [Value.agg.injEq, Array.mk.injEq, List.cons.injEq, and_true] at hcc
      obtain ⟨rfl, rfl, rfl, rfl, rfl⟩ := hcc
      have HC := Lib.hid (eachBd_any s t k n ts tt TA L.length tc g wr hsz HT.out (HS.out.below HB.out HS.out.lt) ((World.cell?_of_block (w := w) (a := ⟨g, 0, none⟩) (HB.out.block g (World.block_lt_of_cell? w _ HG.out))).trans HG.out))
      have HY := Lib.hid hy
      clear hE hTy hTr hy had hte hsz
      go_wp2_with fail
      refine HC.out.mono ?_
      rintro e w2 ⟨rfl, b2⟩
      have HB2 := Lib.hid (HB.out.trans (b2.mono HB.out.size))
      clear b2 es e0 e1 e2 e3 e4
      cases hc : (bdOk (s, t))
      · go_wp2_with fail
        go_ret
        refine ⟨⟨_, rfl, ?_⟩, HB2.out⟩
        have hm : l.all bdOk = false := by
          skip
          rw [List.all_eq_false]
          exact ⟨(s, t), List.mem_of_getElem? HY.out, by simp [hc]⟩
        rw [hm]
        simp
      · go_wp2_with fail
        go_roundw
        case rel =>
          refine ⟨j + 1, by omega, by go_num, Lib.hid ?_, HB2⟩
          have hm := HM.out
          skip
          rw [List.take_add_one, HY.out, List.all_append, hm]
          simp [hc]
        case measure => simp [intOf]; omega
    · obtain rfl : j = l.length := by omega
      go_wp2_with fail
      go_ret
      refine ⟨⟨_, rfl, ?_⟩, HB.out⟩
      have hm := HM.out
      rw [List.take_length] at hm
      rw [hm]
      rfl
set_option maxHeartbeats 1000000 in
set_option maxRecDepth 100000 in
theorem hasBd_any (l : List Bd) (A : Option Addr) (cap g : Nat) (w : World) (hR : BRow (· < w.heap.size) w A l.length cap l) (hS : Spans w) (hg : w.cell? ⟨g, 0, none⟩ = some (.func (.func 74) #[] #[])) :
    Calls Tryz.prog 125 #[.slice A l.length cap, .func (.func 126) #[] #[.pointer (some ⟨g, 0, none⟩)]] w
      fun e w' => e = .returned (.bool (!l.all bdOk)) ∧ Below w.heap.size w w' := by
  have HC := Lib.hid (idxBd_any l A cap g w hR hS hg)
  clear hR hS hg
  go_enter Tryz.func125, Tryz.ntmps125
  go_wp2_with fail
  refine HC.out.mono ?_
  rintro e w2 ⟨⟨r, rfl, hr⟩, b2⟩
  have HR := Lib.hid hr
  clear hr
  go_wp2_with fail
  go_ret
  exact ⟨ret_bool HR.out, b2⟩
set_option maxHeartbeats 1000000 in
set_option maxRecDepth 100000 in
theorem eachBds_any (l : List Bd) (A : Option Addr) (cap : Nat) (w : World) (hR : BRow (· < w.heap.size) w A l.length cap l) (hS : Spans w) :
    Calls Tryz.prog 73 #[.slice A l.length cap, .func (.func 74) #[] #[]] w
      fun e w' => e = .returned (.bool (l.all bdOk)) ∧ Below w.heap.size w w' := by
  obtain ⟨w1, hw1⟩ : ∃ w1, w1 = w.alloc (.cells #[.func (.func 74) #[] #[]] 107) := ⟨_, rfl⟩
  have hb1 : Below w.heap.size w w1 := by rw [hw1]; exact (Below.refl _ w).alloc (Nat.le_refl _) _
  have hg1 : w1.heap[w.heap.size]? = some (.cells #[.func (.func 74) #[] #[]] 107 (0, 0)) := by rw [hw1]; exact block_alloc _ _
  have HC := Lib.hid (hasBd_any l A cap w.heap.size w1 (hR.later hb1) (hS.below hb1 hS.lt) (cell_of_row (i := 0) hg1 rfl))
  have HB1 := Lib.hid hb1
  clear hR hS hb1 hg1
  go_enter Tryz.func73, Tryz.ntmps73
  go_upto_region 1 with fail
  rw [← hw1]
  clear hw1
  go_wp2_with fail
  refine HC.out.mono ?_
  rintro e w2 ⟨rfl, b2⟩
  go_wp2_with fail
  go_ret
  exact ⟨by simp, HB1.out.trans (b2.mono HB1.out.size)⟩
set_option maxHeartbeats 1000000 in
set_option maxRecDepth 100000 in
theorem May10_any (l : List Bd) (A : Option Addr) (n cap : Nat) (w : World) (hR : BRow (· < w.heap.size) w A n cap l) (hS : Spans w) :
    Calls Tryz.prog 30 #[.slice A n cap] w fun e w' => e = .returned (.bool (may10 l)) ∧ Below w.heap.size w w' := by
  obtain rfl := hR.len
  have HC := Lib.hid (eachBds_any l A cap w hR hS)
  clear hR hS
  by_cases hl : l.length ≤ 64
  · have h1 : decide ((l.length : Int) ≤ 64) = true := decide_eq_true (by omega)
    have h2 : (l.length : Int) ≤ 64 := by omega
    have HF : Hid (may10 l = l.all bdOk) := by show _ = _; unfold may10; rw [decide_eq_true hl]; rfl
    clear hl
    go_enter Tryz.func30, Tryz.ntmps30
    go_wp2_with fail
    refine HC.out.mono ?_
    rintro e w2 ⟨rfl, b2⟩
    rw [← HF.out]
    go_wp2_with fail
    go_ret
    exact ⟨rfl, b2⟩
  · have h1 : decide ((l.length : Int) ≤ 64) = false := decide_eq_false (by omega)
    have h2 : ¬ (l.length : Int) ≤ 64 := by omega
    have HF : Hid (may10 l = false) := by show _ = _; unfold may10; rw [decide_eq_false hl]; rfl
    clear hl
    go_enter Tryz.func30, Tryz.ntmps30
    go_wp2_with fail
    go_ret
    exact ⟨ret_bool HF.out.symm, Below.refl _ _⟩
end Go.Proofs.YtkceoiaaiaomoaaGreatDoor
end
section
set_option linter.unusedVariables false
namespace Go.Proofs.YtkceoiaaiaomoaaGreatDoor
open Go.RowKit

theorem append_where {P : Program} (w : World) (base : Nat) (t ty e : TypeId) (i : TypeInfo) (z : Value) (size bytes : Nat) (ht : P.underlying t = some (.slice e)) (hi : P.info? e = some i) (hz : i.zero = some z)
    (hsize : i.size = size) (hby : i.bytes = bytes) (hsz : 0 < size)
    (v : Value) (n : Nat) (xs : List Value) (hown : w.ownsRow base e size v n xs)
    (a : Addr) (m c : Nat) (news : List Value) (hm : 0 < m) (hl : news.length = m * size) (hnews : ∀ j u, news[j]? = some u → w.cell? (a.add j) = some u) (h1 : ∀ u ∈ news, u.oneCell' = true)
    (h63 : n + m ≤ maxLen) (hbytes : (n + m) * bytes ≤ 140737488355328) {v' : Value} {w' : World} (hr : (Builtin.append_ #[t, t] ty #[v, .slice (some a) m c]).run P w = .ok v' w') :
    ∃ g' cap', v' = .slice (some ⟨g', 0, none⟩) (n + m) cap' ∧ (v.ownBlock = some g' ∨ g' = w.heap.size) := by
  subst hsize
  subst hby
  have h64 : n + m ≤ 9223372036854775807 := by simp only [maxLen] at h63; omega
  rcases hown.2 with ⟨rfl, rfl⟩ | ⟨g, cap, cur, rfl, hbg, hg, hnc, hcm, hcs, htake⟩
  · have h := run_append_nil (P := P) w t ty e i z ht hi hz a m c news hl hnews hm (by omega) (by simp only [Nat.zero_add] at hbytes; omega)
    rw [h] at hr
    cases hr
    exact ⟨_, _, by rw [Nat.zero_add], .inr rfl⟩
  · by_cases hroom : n + m ≤ cap
    · have hfit : n * i.size + news.length ≤ cur.size := by rw [hl, hcs, ← Nat.add_mul]; exact Nat.mul_le_mul_right _ hroom
      have h := run_append_room (P := P) w t ty e i ht hi g n cap cur hg a m c news hl hnews h1 hroom hfit
      rw [h] at hr
      cases hr
      exact ⟨_, _, rfl, .inl rfl⟩
    · have holds : ∀ j u, xs[j]? = some u → w.cell? ((⟨g, 0, none⟩ : Addr).add j) = some u := hown.cells (g := g) rfl
      have h := run_append_grow (P := P) w t ty e i z ht hi hz ⟨g, 0, none⟩ n cap xs hown.1 holds a m c news hl hnews (by omega) (by omega) (growslice_fits (by omega) hbytes)
      rw [h] at hr
      cases hr
      exact ⟨_, _, rfl, .inr rfl⟩

end Go.Proofs.YtkceoiaaiaomoaaGreatDoor
end
