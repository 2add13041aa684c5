/- What is collected twice, purely; collect.Same where words read alike. collect.Same, where two words read alike. pleachlaw05.sameWords, of the same words. pleachlaw05.CollectKeeps: the walk. -/
import Derived.Test.YtgdkhmamjhdfdaaGreatDoorCoRun2
import Derived.Test.YtgdkhmamjhdfdaaGreatDoorOrd
import Derived.Test.YtgdkhmamjhdfdaaGreatDoorBoth5
import Derived.Test.YtgdkhmamjhdfdaaGreatDoorCoWak
set_option linter.unusedVariables false
namespace Go.Proofs.YtgdkhmamjhdfdaaGreatDoor
open Go.RowKit

section
variable {cs : List HC} {R : List AW}
/-- Where the roots went, as words. -/
noncomputable def wentW (cs : List HC) (R : List AW) : List HW := R.map fun q => mvW (reachL cs (rootsOf R)) q.hw
theorem root_in (hg : HGood cs) (hall : allMay cs.length R = true) {q : AW} (hq : q ∈ R) : ∀ b, q.hw = .ref b → b ∈ reachL cs (rootsOf R) := by
  intro b e
  have hc : q.c = true := by
    unfold AW.hw at e
    cases h : q.c with
    | true => rfl
    | false => rw [h] at e; simp at e
  have : q.a.toNat = b := by
    unfold AW.hw at e
    rw [if_pos hc] at e
    exact HW.ref.inj e
  exact (reachL_mem hg (rootsOf_lt hall)).2 (.root (rootsOf_mem.2 ⟨q, hq, hc, this⟩))
theorem went_good (hg : HGood cs) (hall : allMay cs.length R = true) : ∀ y ∈ wentW cs R, wgood (reachL cs (rootsOf R)).length y := by
  intro y hy
  obtain ⟨q, hq, rfl⟩ := List.mem_map.1 hy
  have hm := List.all_eq_true.1 hall q hq
  have hw := may_wgood hm
  have hin := root_in hg hall hq
  cases h : q.hw with
  | leaf x => rw [h] at hw; exact hw
  | ref b => exact List.idxOf_lt_length_of_mem (hin b h)
theorem went_may (hg : HGood cs) (hall : allMay cs.length R = true) : allMay (colC cs (reachL cs (rootsOf R))).length ((wentW cs R).map awOf) = true := by
  unfold allMay
  rw [List.all_eq_true]
  intro q hq
  obtain ⟨y, hy, rfl⟩ := List.mem_map.1 hq
  rw [colC_len]
  exact awOf_may (went_good hg hall y hy)
theorem went_root (hg : HGood cs) (hall : allMay cs.length R = true) {a : Nat} (h : a ∈ rootsOf R) : (reachL cs (rootsOf R)).idxOf a ∈ rootsOf ((wentW cs R).map awOf) := by
  obtain ⟨q, hq, hc, rfl⟩ := rootsOf_mem.1 h
  refine rootsOf_mem.2 ⟨awOf (mvW (reachL cs (rootsOf R)) q.hw), List.mem_map.2 ⟨_, List.mem_map.2 ⟨q, hq, rfl⟩, rfl⟩, ?_⟩
  have : q.hw = .ref q.a.toNat := by unfold AW.hw; rw [if_pos hc]
  rw [this]
  exact ⟨rfl, rfl⟩
theorem went_rch (hg : HGood cs) (hall : allMay cs.length R = true) {a : Nat} (h : Rch cs (rootsOf R) a) : Rch (colC cs (reachL cs (rootsOf R))) (rootsOf ((wentW cs R).map awOf)) ((reachL cs (rootsOf R)).idxOf a) := by
  induction h with
  | root h => exact .root (went_root hg hall h)
  | part h hc hb ih =>
    have ha := (reachL_mem hg (rootsOf_lt hall)).2 h
    exact .part ih (colC_at (idx_at ha) hc) (List.mem_map.2 ⟨_, hb, rfl⟩)
theorem went_all (hg : HGood cs) (hall : allMay cs.length R = true) : reachL (colC cs (reachL cs (rootsOf R))) (rootsOf ((wentW cs R).map awOf)) = List.range (reachL cs (rootsOf R)).length := by
  have hs := reachL_shut hg (rootsOf_lt hall)
  obtain ⟨PL, hPL⟩ : ∃ PL, PL = reachL cs (rootsOf R) := ⟨_, rfl⟩
  refine up_ext (reachL_up _ _) List.pairwise_lt_range (fun n => ?_)
  rw [List.mem_range, reachL_mem (colC_good hg hs) (rootsOf_lt (went_may hg hall))]
  constructor
  · intro h
    have := h.lt (colC_good hg hs) (rootsOf_lt (went_may hg hall))
    rwa [colC_len] at this
  · intro h
    have hn : (reachL cs (rootsOf R))[n]? = some ((reachL cs (rootsOf R))[n]) := List.getElem?_eq_getElem h
    have := went_rch hg hall ((reachL_mem hg (rootsOf_lt hall)).1 (List.mem_of_getElem? hn))
    rwa [idx_of_at (reachL_up _ _) hn] at this
theorem went_went (hg : HGood cs) (hall : allMay cs.length R = true) : wentW (colC cs (reachL cs (rootsOf R))) ((wentW cs R).map awOf) = wentW cs R := by
  have hgood := went_good hg hall
  unfold wentW
  rw [show (reachL (colC cs (reachL cs (rootsOf R))) (rootsOf (((R.map fun q => mvW (reachL cs (rootsOf R)) q.hw)).map awOf))) = List.range (reachL cs (rootsOf R)).length from went_all hg hall]
  rw [List.map_map]
  have h2 : ∀ L : List HW, (∀ y ∈ L, wgood (reachL cs (rootsOf R)).length y) → L.map ((fun q => mvW (List.range (reachL cs (rootsOf R)).length) q.hw) ∘ awOf) = L := by
    intro L hL
    conv => rhs; rw [← List.map_id L]
    refine List.map_congr_left (fun y hy => ?_)
    have := hL y hy
    show mvW _ (awOf y).hw = y
    rw [awOf_hw]
    cases y with
    | leaf x => rfl
    | ref a =>
      show HW.ref (List.idxOf a _) = .ref a
      rw [idx_of_at List.pairwise_lt_range (List.getElem?_range (show a < _ from this))]
  exact h2 _ hgood
/-- The root's word reads as it did. -/
theorem went_wt (hg : HGood cs) (hall : allMay cs.length R = true) {q : AW} (hq : q ∈ R) : wt cs cs.length q.hw = wt (colC cs (reachL cs (rootsOf R))) (colC cs (reachL cs (rootsOf R))).length (mvW (reachL cs (rootsOf R)) q.hw) := by
  have hs := reachL_shut hg (rootsOf_lt hall)
  have hm := may_wgood (List.all_eq_true.1 hall q hq)
  have h1 := col_wt hg hs cs.length q.hw hm (root_in hg hall hq) cs.length cs.length (Nat.le_refl _) (Nat.le_refl _)
  rw [← h1]
  have hgo : wgood (colC cs (reachL cs (rootsOf R))).length (mvW (reachL cs (rootsOf R)) q.hw) := by
    rw [colC_len]
    exact went_good hg hall _ (List.mem_map.2 ⟨q, hq, rfl⟩)
  have h3 := wt_stable (colC_good hg hs) [] _ _ hgo (Nat.le_refl _) cs.length (colC cs (reachL cs (rootsOf R))).length (by rw [colC_len]; exact shut_len hs) (Nat.le_refl _)
  rwa [List.append_nil] at h3
end
end Go.Proofs.YtgdkhmamjhdfdaaGreatDoor
set_option linter.unusedVariables false
namespace Go.Proofs.YtgdkhmamjhdfdaaGreatDoor
open Go.RowKit

theorem cmpI_self5 (a : Int) : cmpI a a = 0 := by unfold cmpI; simp
theorem bytesLess_self5 : ∀ l : List UInt8, Op.bytesLess l l = false
  | [] => rfl
  | x :: l => by simp [Op.bytesLess, bytesLess_self5 l]
theorem cmpS_self5 (a : ByteArray) : cmpS a a = 0 := by unfold cmpS; rw [bytesLess_self5]; simp
theorem ordL_self5 : ∀ l : List Tm, (∀ x ∈ l, ordN x x = 0) → ordL l l = 0
  | [], _ => by rw [ordL]; simp
  | x :: l, h => by rw [ordL, if_pos (h x (by simp))]; exact ordL_self5 l (fun y hy => h y (by simp [hy]))
theorem ordN_self5 (x : Tm) : ordN x x = 0 := by
  induction x using Tm.ind with
  | h k n s t l ih =>
    rw [ordN_eq]
    by_cases h1 : k = 1
    · rw [if_pos h1]; exact cmpS_self5 s
    · rw [if_neg h1]
      by_cases h3 : k = 3
      · rw [if_pos h3]; simp [orL, cmpS_self5, cmpI_self5]
      · rw [if_neg h3]
        by_cases h5 : k = 5 ∨ k = 7
        · rw [if_pos h5]; unfold ordR; rw [if_neg (by simp)]; exact ordL_self5 l ih
        · rw [if_neg h5]; exact cmpI_self5 n
theorem compN_self5 (x : Tm) : compN x x = 0 := by unfold compN; split <;> first | exact ordN_self5 x | rfl

set_option maxRecDepth 100000 in
set_option maxHeartbeats 8000000 in
theorem Same5_any {b1 h1 b2 h2 : Nat} {s1 s2 : HSt} (hg1 : HGood s1.cs) (hg2 : HGood s2.cs) (w : World) (a1 : s1.At b1 w h1) (a2 : s2.At b2 w h2) (q q' : AW) (v v' : Value) (hv : AWAt (· < w.heap.size) w q v) (hv' : AWAt (· < w.heap.size) w q' v') (m1 : mayW s1.cs.length q.c q.a q.x = true) (m2 : mayW s2.cs.length q'.c q'.a q'.x = true) (heq : wt s1.cs s1.cs.length q.hw = wt s2.cs s2.cs.length q'.hw) (hS : Spans w) :
    Calls Tryz.prog 17 #[.pointer (some ⟨h1, 0, none⟩), v, .pointer (some ⟨h2, 0, none⟩), v'] w fun e w' => e = .returned (.bool true) ∧ Below w.heap.size w w' := by
  obtain ⟨k, n, s, t, A, len, cap, rfl, hT⟩ := hv
  obtain ⟨k', n', s', t', A', len', cap', rfl, hT'⟩ := hv'
  obtain ⟨c, a, x⟩ := q
  obtain ⟨c', a', x'⟩ := q'
  obtain ⟨l, rfl, rfl⟩ : ∃ l, x = .mk k n s t l ∧ len = l.length := by dsimp only at hT; cases hT; exact ⟨_, rfl, rfl⟩
  obtain ⟨l', rfl, rfl⟩ : ∃ l, x' = .mk k' n' s' t' l ∧ len' = l.length := by dsimp only at hT'; cases hT'; exact ⟨_, rfl, rfl⟩
  dsimp only at hT hT' m1 m2 ⊢
  obtain ⟨w1, hw1⟩ : ∃ w1, w1 = (w.alloc (.cells #[.bool c, .int .i64 a, .int .i8 k, .int .i64 n, .string s, .string t, .slice A l.length cap] 51)).alloc (.cells #[.bool c', .int .i64 a', .int .i8 k', .int .i64 n', .string s', .string t', .slice A' l'.length cap'] 51) := ⟨_, rfl⟩
  have B1 : Below w.heap.size w w1 := by rw [hw1]; exact ((Below.refl _ w).alloc (Nat.le_refl _) _).alloc (by simp) _
  have g0 : w1.heap[w.heap.size]? = some (.cells #[.bool c, .int .i64 a, .int .i8 k, .int .i64 n, .string s, .string t, .slice A l.length cap] 51 (0, 0)) := by rw [hw1, Below.heap_alloc _ _ _ (by simp)]; exact block_alloc _ _
  have g1 : w1.heap[w.heap.size + 1]? = some (.cells #[.bool c', .int .i64 a', .int .i8 k', .int .i64 n', .string s', .string t', .slice A' l'.length cap'] 51 (0, 0)) := by
    have h := block_alloc (w.alloc (.cells #[.bool c, .int .i64 a, .int .i8 k, .int .i64 n, .string s, .string t, .slice A l.length cap] 51)) (.cells #[.bool c', .int .i64 a', .int .i8 k', .int .i64 n', .string s', .string t', .slice A' l'.length cap'] 51)
    rw [World.size_alloc] at h
    rw [hw1]; exact h
  have HB1 := Lib.hid B1
  have HG1 := Lib.hid g1
  have HA1 := Lib.hid (a1.under B1)
  have HA2 := Lib.hid (a2.under B1)
  have HT := Lib.hid (hT.keep (Q := (· < w1.heap.size)) (fun b hb => B1.block b hb) (fun b hb => Nat.lt_of_lt_of_le hb B1.size))
  have HT' := Lib.hid (hT'.keep (Q := (· < w1.heap.size)) (fun b hb => B1.block b hb) (fun b hb => Nat.lt_of_lt_of_le hb B1.size))
  have HM1 := Lib.hid m1
  have HM2 := Lib.hid m2
  have HEQ := Lib.hid heq
  have HS := Lib.hid (hS.below B1 hS.lt)
  have HGG := Lib.hid (And.intro hg1 hg2)
  have p0 := cell_of_row (i := 0) g0 rfl
  have p1 := cell_of_row (i := 1) g0 rfl
  have p2 := cell_of_row (i := 2) g0 rfl
  have p3 := cell_of_row (i := 3) g0 rfl
  have p4 := cell_of_row (i := 4) g0 rfl
  have p5 := cell_of_row (i := 5) g0 rfl
  have p6 := cell_of_row (i := 6) g0 rfl
  clear B1 g0 g1 hT hT' m1 m2 heq hS a1 a2 hg1 hg2
  subst hw1
  go_enter Tryz.func17, Tryz.ntmps17
  go_wp2_with fail
  clear p0 p1 p2 p3 p4 p5 p6
  generalize (w.alloc (.cells #[.bool c, .int .i64 a, .int .i8 k, .int .i64 n, .string s, .string t, .slice A l.length cap] 51)).alloc (.cells #[.bool c', .int .i64 a', .int .i8 k', .int .i64 n', .string s', .string t', .slice A' l'.length cap'] 51) = w1 at HB1 HG1 HA1 HA2 HT HT' HS ⊢
  refine (Take_any HGG.out.1 c a k n s t l A cap w1 HA1.out HT.out HS.out).mono ?_
  rintro e w2 (⟨h, -⟩ | ⟨-, v1, rfl, hv1, b2⟩)
  · rw [HM1.out] at h; cases h
  obtain ⟨X, hX⟩ : ∃ X, X = wt s1.cs s1.cs.length (⟨c, a, .mk k n s t l⟩ : AW).hw := ⟨_, rfl⟩
  rw [← hX] at hv1 HEQ
  obtain ⟨k1, n1, s1', t1, l1, A1, cap1, hXe, rfl⟩ : ∃ k n s t l A cap, X = .mk k n s t l ∧ v1 = .agg #[.int .i8 k, .int .i64 n, .string s, .string t, .slice A l.length cap] := by cases hv1; exact ⟨_, _, _, _, _, _, _, rfl, rfl⟩
  obtain ⟨w3, hw3⟩ : ∃ w3, w3 = w2.alloc (.cells #[.int .i8 k1, .int .i64 n1, .string s1', .string t1, .slice A1 l1.length cap1] 27) := ⟨_, rfl⟩
  have b3 : Below w2.heap.size w2 w3 := by rw [hw3]; exact (Below.refl _ _).alloc (Nat.le_refl _) _
  have g3 : w3.heap[w2.heap.size]? = some (.cells #[.int .i8 k1, .int .i64 n1, .string s1', .string t1, .slice A1 l1.length cap1] 27 (0, 0)) := by rw [hw3]; exact block_alloc _ _
  have b13 : Below w1.heap.size w1 w3 := b2.trans (b3.mono b2.size)
  have g13 := (b13.block _ (heap_lt HG1.out)).trans HG1.out
  have HV1 := Lib.hid (hv1.keep (Q := (· < w3.heap.size)) (fun b hb => b3.block b hb.2) (fun b hb => Nat.lt_of_lt_of_le hb.2 b3.size))
  have HB3 := Lib.hid b13
  have HG3 := Lib.hid g3
  have p0 := cell_of_row (i := 0) g13 rfl
  have p1 := cell_of_row (i := 1) g13 rfl
  have p2 := cell_of_row (i := 2) g13 rfl
  have p3 := cell_of_row (i := 3) g13 rfl
  have p4 := cell_of_row (i := 4) g13 rfl
  have p5 := cell_of_row (i := 5) g13 rfl
  have p6 := cell_of_row (i := 6) g13 rfl
  have HXE := Lib.hid hXe
  clear hv1 b3 b13 g13 g3 hX b2 HG1 hXe
  subst hw3
  go_wp2_with fail
  clear p0 p1 p2 p3 p4 p5 p6
  generalize (w2.alloc (.cells #[.int .i8 k1, .int .i64 n1, .string s1', .string t1, .slice A1 l1.length cap1] 27)) = w3 at HB3 HG3 HV1 ⊢
  refine (Take_any HGG.out.2 c' a' k' n' s' t' l' A' cap' w3 (HA2.out.under HB3.out) (HT'.out.keep (fun b hb => HB3.out.block b hb) (fun b hb => Nat.lt_of_lt_of_le hb HB3.out.size)) (HS.out.below HB3.out HS.out.lt)).mono ?_
  rintro e w4 (⟨h, -⟩ | ⟨-, v2, rfl, hv2, b4⟩)
  · rw [HM2.out] at h; cases h
  rw [← HEQ.out] at hv2
  obtain ⟨k2, n2, s2', t2, l2, A2, cap2, hXe2, rfl⟩ : ∃ k n s t l A cap, X = .mk k n s t l ∧ v2 = .agg #[.int .i8 k, .int .i64 n, .string s, .string t, .slice A l.length cap] := by cases hv2; exact ⟨_, _, _, _, _, _, _, rfl, rfl⟩
  obtain ⟨w5, hw5⟩ : ∃ w5, w5 = w4.alloc (.cells #[.int .i8 k2, .int .i64 n2, .string s2', .string t2, .slice A2 l2.length cap2] 27) := ⟨_, rfl⟩
  have b5 : Below w4.heap.size w4 w5 := by rw [hw5]; exact (Below.refl _ _).alloc (Nat.le_refl _) _
  have g5 : w5.heap[w4.heap.size]? = some (.cells #[.int .i8 k2, .int .i64 n2, .string s2', .string t2, .slice A2 l2.length cap2] 27 (0, 0)) := by rw [hw5]; exact block_alloc _ _
  have b35 : Below w3.heap.size w3 w5 := b4.trans (b5.mono b4.size)
  have g35 := (b35.block _ (heap_lt HG3.out)).trans HG3.out
  have HV2 := Lib.hid (hv2.keep (Q := (· < w5.heap.size)) (fun b hb => b5.block b hb.2) (fun b hb => Nat.lt_of_lt_of_le hb.2 b5.size))
  have HV1' := Lib.hid (HV1.out.keep (Q := (· < w5.heap.size)) (fun b hb => b35.block b hb) (fun b hb => Nat.lt_of_lt_of_le hb b35.size))
  have HB5 : Hid (Below w.heap.size w w5) := (HB1.out.trans (HB3.out.mono HB1.out.size)).trans (b35.mono (Nat.le_trans HB1.out.size HB3.out.size))
  have HCMP := Lib.hid (Compare_any X X _ _ w5 HV1'.out HV2.out (HS.out.below (HB3.out.trans (b35.mono HB3.out.size)) HS.out.lt))
  rw [compN_self5] at HCMP
  have p0 := cell_of_row (i := 0) g35 rfl
  have p1 := cell_of_row (i := 1) g35 rfl
  have p2 := cell_of_row (i := 2) g35 rfl
  have p3 := cell_of_row (i := 3) g35 rfl
  have p4 := cell_of_row (i := 4) g35 rfl
  have q0 := cell_of_row (i := 0) g5 rfl
  have q1 := cell_of_row (i := 1) g5 rfl
  have q2 := cell_of_row (i := 2) g5 rfl
  have q3 := cell_of_row (i := 3) g5 rfl
  have q4 := cell_of_row (i := 4) g5 rfl
  clear hv2 b5 b35 g35 g5 b4 hXe2 HV1 HV2 HV1'
  subst hw5
  go_wp2_with fail
  refine HCMP.out.mono ?_
  rintro e w6 ⟨rfl, b6⟩
  have HB6 := Lib.hid (HB5.out.trans (b6.mono HB5.out.size))
  clear b6
  go_wp2_with fail
  go_ret
  exact ⟨rfl, HB6.out⟩
end Go.Proofs.YtgdkhmamjhdfdaaGreatDoor
set_option linter.unusedVariables false
namespace Go.Proofs.YtgdkhmamjhdfdaaGreatDoor
open Go.RowKit

theorem word5_cells {N : Nat} {y : HW} (h : wgood N y) : ∃ bb aa kk nn ss tt, y.cells = [.bool bb, .int .i64 aa, .int .i8 kk, .int .i64 nn, .string ss, .string tt, .slice none 0 0] ∧ ∀ (P : Nat → Prop) (w : World), TmAt P w (.mk kk nn ss tt []) (.agg #[.int .i8 kk, .int .i64 nn, .string ss, .string tt, .slice none 0 0]) := by
  cases y with
  | ref a => exact ⟨_, _, _, _, _, _, rfl, fun P w => leaf_at P w (by decide) (by decide) (by show 0 ≤ maxLen; omega) (by show 0 ≤ maxLen; omega)⟩
  | leaf x =>
    have h' : leafE x = 0 := h
    obtain ⟨hl, hk, hn, hs, ht⟩ := leaf_bounds h'
    exact ⟨_, _, _, _, _, _, rfl, fun P w => leaf_at P w hk hn hs ht⟩
def RowL5 (V : World) (g o : Nat) (c0 c1 c2 c3 c4 c5 c6 : Value) : Prop :=
  V.cell? ⟨g, o, none⟩ = some c0 ∧ V.cell? ⟨g, o + 1, none⟩ = some c1 ∧ V.cell? ⟨g, o + 2, none⟩ = some c2 ∧ V.cell? ⟨g, o + 3, none⟩ = some c3 ∧ V.cell? ⟨g, o + 4, none⟩ = some c4 ∧ V.cell? ⟨g, o + 5, none⟩ = some c5 ∧ V.cell? ⟨g, o + 6, none⟩ = some c6
theorem RowL5.keep {V V' : World} {g o : Nat} {c0 c1 c2 c3 c4 c5 c6 : Value} (h : RowL5 V g o c0 c1 c2 c3 c4 c5 c6) (hb : V'.heap[g]? = V.heap[g]?) : RowL5 V' g o c0 c1 c2 c3 c4 c5 c6 := by
  have k : ∀ i, V'.cell? ⟨g, i, none⟩ = V.cell? ⟨g, i, none⟩ := fun i => World.cell?_of_block (w := V) (a := ⟨g, i, none⟩) hb
  obtain ⟨h0, h1, h2, h3, h4, h5, h6⟩ := h
  exact ⟨(k _).trans h0, (k _).trans h1, (k _).trans h2, (k _).trans h3, (k _).trans h4, (k _).trans h5, (k _).trans h6⟩
theorem WordsIn.rowL5 {V : World} {g : Nat} {L : List HW} (h : WordsIn V g L) {j : Nat} {x : HW} (hj : L[j]? = some x) {c0 c1 c2 c3 c4 c5 c6 : Value} (hc : x.cells = [c0, c1, c2, c3, c4, c5, c6]) : RowL5 V g (j * 7) c0 c1 c2 c3 c4 c5 c6 := by
  have h0 := h j x hj
  rw [hc] at h0
  exact ⟨h0 0 _ rfl, h0 1 _ rfl, h0 2 _ rfl, h0 3 _ rfl, h0 4 _ rfl, h0 5 _ rfl, h0 6 _ rfl⟩

set_option maxHeartbeats 8000000 in
set_option maxRecDepth 100000 in
theorem sameWords5 (N : Nat) (L : List HW) (hg : ∀ x ∈ L, wgood N x) (hlen : L.length ≤ 1000000) (ga gb cap1 cap2 : Nat) (w : World) (hga : ga < w.heap.size) (hgb : gb < w.heap.size) (h1 : WordsIn w ga L) (h2 : WordsIn w gb L) :
    Calls Tryz.prog 15 #[.slice (some ⟨ga, 0, none⟩) L.length cap1, .slice (some ⟨gb, 0, none⟩) L.length cap2] w fun e w' => e = .returned (.bool true) ∧ Below w.heap.size w w' := by
  have HG := Lib.hid hg
  have H1 := Lib.hid h1
  have H2 := Lib.hid h2
  have HLT := Lib.hid (And.intro hga hgb)
  clear hg h1 h2 hga hgb
  go_enter Tryz.func15, Tryz.ntmps15
  go_wp2_with fail
  go_loopw [13] (fun i wr => ∃ j : Nat, j ≤ L.length ∧ i = .int .i64 j ∧ Hid (Below w.heap.size w wr)) (fun i _ => L.length - (intOf i).toNat)
  case atStart => exact ⟨0, Nat.zero_le _, rfl, Below.refl _ _⟩
  case round =>
    obtain ⟨j, hj, rfl, HB⟩ := hrel
    by_cases hlt : j < L.length
    · obtain ⟨y, hy⟩ : ∃ y, L[j]? = some y := ⟨L[j], List.getElem?_eq_getElem hlt⟩
      obtain ⟨bb, aa, kk, nn, ss, tt, hcc, hqt⟩ := word5_cells (HG.out y (List.mem_of_getElem? hy))
      have hra := (H1.out.rowL5 hy hcc).keep (HB.out.block ga HLT.out.1)
      have hrb := (H2.out.rowL5 hy hcc).keep (HB.out.block gb HLT.out.2)
      have HQT := Lib.hid hqt
      have i0 : (0 : Int) ≤ (j : Int) := by omega
      have i1 : (j : Int) < (L.length : Int) := by omega
      have HRR := Lib.hid (And.intro hra hrb)
      clear hcc hqt hy hra hrb
      go_wp2_with fail
      have hdr : Below wr.heap.size wr wr.drew := ⟨rfl, rfl, rfl, Nat.le_refl _, fun _ _ => rfl⟩
      have hB0 : Below w.heap.size w wr.drew := HB.out.trans (hdr.mono HB.out.size)
      have hS0 : (fun V => RowL5 V ga (j * 7) (.bool bb) (.int .i64 aa) (.int .i8 kk) (.int .i64 nn) (.string ss) (.string tt) (.slice none 0 0) ∧ RowL5 V gb (j * 7) (.bool bb) (.int .i64 aa) (.int .i8 kk) (.int .i64 nn) (.string ss) (.string tt) (.slice none 0 0)) wr.drew := ⟨HRR.out.1.keep (hdr.block ga (Nat.lt_of_lt_of_le HLT.out.1 HB.out.size)), HRR.out.2.keep (hdr.block gb (Nat.lt_of_lt_of_le HLT.out.2 HB.out.size))⟩
      refine wp_region_held (S := fun V => RowL5 V ga (j * 7) (.bool bb) (.int .i64 aa) (.int .i8 kk) (.int .i64 nn) (.string ss) (.string tt) (.slice none 0 0) ∧ RowL5 V gb (j * 7) (.bool bb) (.int .i64 aa) (.int .i8 kk) (.int .i64 nn) (.string ss) (.string tt) (.slice none 0 0)) (by kernel_rfl) ?_
      show wpAnyH _ _ _ _ _ _ _ _ wr.drew
      clear hdr
      generalize wr.drew = D at hS0 hB0 ⊢
      refine wpAnyH_take (i := 0) (oi := ⟨some 16, _, _, _, _, _⟩) (v := ?_) rfl (by kernel_rfl) (by kernel_rfl) (by kernel_rfl) (fun _ _ _ h => h) (Or.inl ⟨by kernel_rfl, ?_⟩) (by assumption) ?_; rotate_left; (intro X hX; (try dsimp only at hX); obtain ⟨⟨r0, r1, r2, r3, r4, r5, r6⟩, ⟨s0, s1, s2, s3, s4, s5, s6⟩⟩ := hX; go_simp; first | done | with_reducible rfl); (try simp only [Act.put, List.setIfInBounds_toArray, List.set_cons_zero, List.set_cons_succ])
      refine wpAnyH_take (i := 1) (oi := ⟨some 17, _, _, _, _, _⟩) (v := ?_) rfl (by kernel_rfl) (by kernel_rfl) (by kernel_rfl) (fun _ _ _ h => h) (Or.inl ⟨by kernel_rfl, ?_⟩) (by assumption) ?_; rotate_left; (intro X hX; (try dsimp only at hX); obtain ⟨⟨r0, r1, r2, r3, r4, r5, r6⟩, ⟨s0, s1, s2, s3, s4, s5, s6⟩⟩ := hX; go_simp; first | done | with_reducible rfl); (try simp only [Act.put, List.setIfInBounds_toArray, List.set_cons_zero, List.set_cons_succ])
      refine wpAnyH_take (i := 2) (oi := ⟨some 18, _, _, _, _, _⟩) (v := ?_) rfl (by kernel_rfl) (by kernel_rfl) (by kernel_rfl) (fun _ _ _ h => h) (Or.inl ⟨by kernel_rfl, ?_⟩) (by assumption) ?_; rotate_left; (intro X hX; (try dsimp only at hX); obtain ⟨⟨r0, r1, r2, r3, r4, r5, r6⟩, ⟨s0, s1, s2, s3, s4, s5, s6⟩⟩ := hX; go_simp; first | done | with_reducible rfl); (try simp only [Act.put, List.setIfInBounds_toArray, List.set_cons_zero, List.set_cons_succ])
      refine wpAnyH_take (i := 3) (oi := ⟨some 19, _, _, _, _, _⟩) (v := ?_) rfl (by kernel_rfl) (by kernel_rfl) (by kernel_rfl) (fun _ _ _ h => h) (Or.inl ⟨by kernel_rfl, ?_⟩) (by assumption) ?_; rotate_left; (intro X hX; (try dsimp only at hX); obtain ⟨⟨r0, r1, r2, r3, r4, r5, r6⟩, ⟨s0, s1, s2, s3, s4, s5, s6⟩⟩ := hX; go_simp; first | done | with_reducible rfl); (try simp only [Act.put, List.setIfInBounds_toArray, List.set_cons_zero, List.set_cons_succ])
      refine wpAnyH_take (i := 4) (oi := ⟨some 20, _, _, _, _, _⟩) (v := ?_) rfl (by kernel_rfl) (by kernel_rfl) (by kernel_rfl) (fun _ _ _ h => h) (Or.inl ⟨by kernel_rfl, ?_⟩) (by assumption) ?_; rotate_left; (intro X hX; (try dsimp only at hX); obtain ⟨⟨r0, r1, r2, r3, r4, r5, r6⟩, ⟨s0, s1, s2, s3, s4, s5, s6⟩⟩ := hX; go_simp; first | done | with_reducible rfl); (try simp only [Act.put, List.setIfInBounds_toArray, List.set_cons_zero, List.set_cons_succ])
      refine wpAnyH_take (i := 5) (oi := ⟨some 21, _, _, _, _, _⟩) (v := ?_) rfl (by kernel_rfl) (by kernel_rfl) (by kernel_rfl) (fun _ _ _ h => h) (Or.inl ⟨by kernel_rfl, ?_⟩) (by assumption) ?_; rotate_left; (intro X hX; (try dsimp only at hX); obtain ⟨⟨r0, r1, r2, r3, r4, r5, r6⟩, ⟨s0, s1, s2, s3, s4, s5, s6⟩⟩ := hX; go_simp; first | done | with_reducible rfl); (try simp only [Act.put, List.setIfInBounds_toArray, List.set_cons_zero, List.set_cons_succ])
      refine wpAnyH_take (i := 6) (oi := ⟨some 22, _, _, _, _, _⟩) (v := ?_) rfl (by kernel_rfl) (by kernel_rfl) (by kernel_rfl) (fun _ _ _ h => h) (Or.inl ⟨by kernel_rfl, ?_⟩) (by assumption) ?_; rotate_left; (intro X hX; (try dsimp only at hX); obtain ⟨⟨r0, r1, r2, r3, r4, r5, r6⟩, ⟨s0, s1, s2, s3, s4, s5, s6⟩⟩ := hX; go_simp; first | done | with_reducible rfl); (try simp only [Act.put, List.setIfInBounds_toArray, List.set_cons_zero, List.set_cons_succ])
      refine wpAnyH_take (i := 7) (oi := ⟨some 23, _, _, _, _, _⟩) (v := ?_) rfl (by kernel_rfl) (by kernel_rfl) (by kernel_rfl) (fun _ _ _ h => h) (Or.inl ⟨by kernel_rfl, ?_⟩) (by assumption) ?_; rotate_left; (intro X hX; (try dsimp only at hX); obtain ⟨⟨r0, r1, r2, r3, r4, r5, r6⟩, ⟨s0, s1, s2, s3, s4, s5, s6⟩⟩ := hX; go_simp; first | done | with_reducible rfl); (try simp only [Act.put, List.setIfInBounds_toArray, List.set_cons_zero, List.set_cons_succ])
      refine wpAnyH_ready (rs := [8]) (by kernel_rfl) (by simp) ?_
      refine AllReadyH.cons (o := ⟨some 24, _, _, _, _, _⟩) rfl (fun K hK => ?_) AllReadyH.nil
      rw [if_pos (by rfl)]
      go_simp
      refine (sameWord_self5 HQT.out D).mono ?_
      rintro e V2 ⟨rfl, b2⟩
      have hB2 := hB0.trans (b2.mono hB0.size)
      have hS7 : (fun V => RowL5 V ga (j * 7) (.bool bb) (.int .i64 aa) (.int .i8 kk) (.int .i64 nn) (.string ss) (.string tt) (.slice none 0 0) ∧ RowL5 V gb (j * 7) (.bool bb) (.int .i64 aa) (.int .i8 kk) (.int .i64 nn) (.string ss) (.string tt) (.slice none 0 0)) V2 := ⟨hS0.1.keep (b2.block ga (Nat.lt_of_lt_of_le HLT.out.1 hB0.size)), hS0.2.keep (b2.block gb (Nat.lt_of_lt_of_le HLT.out.2 hB0.size))⟩
      have HB2 := Lib.hid hB2
      clear b2 hB2 hS0 hB0
      refine hK.out _ _ hS7 (fun hSn => ?_)
      clear hK K; (try simp only [Act.put, List.setIfInBounds_toArray, List.set_cons_zero, List.set_cons_succ])
      refine wpAnyH_take (i := 9) (oi := ⟨some 25, _, _, _, _, _⟩) (v := ?_) rfl (by kernel_rfl) (by kernel_rfl) (by kernel_rfl) (fun _ _ _ h => h) (Or.inl ⟨by kernel_rfl, ?_⟩) (by assumption) ?_; rotate_left; (intro X hX; (try dsimp only at hX); obtain ⟨⟨r0, r1, r2, r3, r4, r5, r6⟩, ⟨s0, s1, s2, s3, s4, s5, s6⟩⟩ := hX; go_simp; first | done | with_reducible rfl); (try simp only [Act.put, List.setIfInBounds_toArray, List.set_cons_zero, List.set_cons_succ])
      refine wpAnyH_done (by kernel_rfl) ?_ _
      clear hS7
      go_wp2_with fail
      go_roundw
      case rel => exact ⟨j + 1, by omega, by go_num, HB2⟩
      case measure => simp [intOf]; omega
    · go_wp2_with fail
      go_ret
      exact ⟨rfl, HB.out⟩
end Go.Proofs.YtgdkhmamjhdfdaaGreatDoor
set_option linter.unusedVariables false
namespace Go.Proofs.YtgdkhmamjhdfdaaGreatDoor
open Go.RowKit

def RowP5 (V : World) (ad : Addr) (j : Nat) (c0 c1 c2 c3 c4 c5 c6 : Value) : Prop :=
  V.cell? (ad.add (j * 7)) = some c0 ∧ V.cell? ⟨(ad.add (j * 7)).block, (ad.add (j * 7)).off + 1, none⟩ = some c1 ∧ V.cell? ⟨(ad.add (j * 7)).block, (ad.add (j * 7)).off + 2, none⟩ = some c2 ∧ V.cell? ⟨(ad.add (j * 7)).block, (ad.add (j * 7)).off + 3, none⟩ = some c3 ∧ V.cell? ⟨(ad.add (j * 7)).block, (ad.add (j * 7)).off + 4, none⟩ = some c4 ∧ V.cell? ⟨(ad.add (j * 7)).block, (ad.add (j * 7)).off + 5, none⟩ = some c5 ∧ V.cell? ⟨(ad.add (j * 7)).block, (ad.add (j * 7)).off + 6, none⟩ = some c6
theorem RowP5.elem {V : World} {ad : Addr} {j : Nat} {c0 c1 c2 c3 c4 c5 c6 : Value} : ElemW V ad j (.agg #[c0, c1, c2, c3, c4, c5, c6]) ↔ RowP5 V ad j c0 c1 c2 c3 c4 c5 c6 := by
  constructor
  · rintro ⟨d0, d1, d2, d3, d4, d5, d6, e, h⟩
    simp only [Value.agg.injEq, Array.mk.injEq, List.cons.injEq, and_true] at e
    obtain ⟨rfl, rfl, rfl, rfl, rfl, rfl, rfl⟩ := e
    exact h
  · intro h
    exact ⟨_, _, _, _, _, _, _, rfl, h⟩
theorem RowP5.keep {V V' : World} {ad : Addr} {j : Nat} {c0 c1 c2 c3 c4 c5 c6 : Value} (h : RowP5 V ad j c0 c1 c2 c3 c4 c5 c6) (hb : V'.heap[ad.block]? = V.heap[ad.block]?) : RowP5 V' ad j c0 c1 c2 c3 c4 c5 c6 := RowP5.elem.1 ((RowP5.elem.2 h).keep hb)
theorem root5 {w : World} {A : Option Addr} {n cap : Nat} {L : List AW} (hR : WRow (· < w.heap.size) w A n cap L) {j : Nat} {y : AW} (hy : L[j]? = some y) : ∃ ad k' n' s' t' A' l' c', A = some ad ∧ ad.block < w.heap.size ∧ RowP5 w ad j (.bool y.c) (.int .i64 y.a) (.int .i8 k') (.int .i64 n') (.string s') (.string t') (.slice A' l' c') ∧ AWAt (· < w.heap.size) w y (.agg #[.bool y.c, .int .i64 y.a, .int .i8 k', .int .i64 n', .string s', .string t', .slice A' l' c']) := by
  obtain ⟨ad, u, e, had, hE, k', n', s', t', A', l', c', rfl, hT⟩ := hR.at_ j y hy
  exact ⟨ad, k', n', s', t', A', l', c', e, had, RowP5.elem.1 hE, k', n', s', t', A', l', c', rfl, hT⟩
theorem word5_any (q : AW) (v : Value) (w : World) (h : AWAt (· < w.heap.size) w q v) : Calls Tryz.prog 18 #[v] w fun e w' => ∃ v', e = .returned v' ∧ AWAt (· < w'.heap.size) w' (wordOf q) v' ∧ Below w.heap.size w w' := by
  obtain ⟨k, n, s, t, A, len, cap, rfl, hT⟩ := h
  cases hc : q.c with
  | true =>
    refine (word5_cell q.a k n s t A len cap w).mono ?_
    rintro e w' ⟨rfl, b⟩
    refine ⟨_, rfl, ?_, b⟩
    unfold wordOf
    rw [if_pos hc]
    exact ⟨_, _, _, _, _, _, _, rfl, iW_at _ _⟩
  | false =>
    refine (word5_leaf q.a k n s t A len cap w).mono ?_
    rintro e w' ⟨rfl, b⟩
    refine ⟨_, rfl, ?_, b⟩
    unfold wordOf
    rw [if_neg (by rw [hc]; decide)]
    exact ⟨_, _, _, _, _, _, _, rfl, hT.keep (fun b' hb => b.block b' hb) (fun b' hb => Nat.lt_of_lt_of_le hb b.size)⟩
theorem word5_aw {N : Nat} {y : HW} (h : wgood N y) : ∃ bb aa kk nn ss tt, y.cells = [.bool bb, .int .i64 aa, .int .i8 kk, .int .i64 nn, .string ss, .string tt, .slice none 0 0] ∧ ∀ (P : Nat → Prop) (w : World), AWAt P w (awOf y) (.agg #[.bool bb, .int .i64 aa, .int .i8 kk, .int .i64 nn, .string ss, .string tt, .slice none 0 0]) := by
  cases y with
  | ref a => exact ⟨_, _, _, _, _, _, rfl, fun P w => ⟨_, _, _, _, _, _, _, rfl, iW_at P w⟩⟩
  | leaf x =>
    have h' : leafE x = 0 := h
    obtain ⟨hl, hk, hn, hs, ht⟩ := leaf_bounds h'
    obtain ⟨k, n, s, t, l⟩ := x
    have hl : l = [] := hl
    subst hl
    exact ⟨_, _, _, _, _, _, rfl, fun P w => ⟨_, _, _, _, _, _, _, rfl, leaf_at P w hk hn hs ht⟩⟩
/-- What Reached answers. -/
def RAns (s : HSt) (R : List AW) (base : Nat) (w' : World) (v : Value) (E : Int) : Prop :=
  (allMay s.cs.length R = true ∧ E = 0 ∧ w'.ownsRow base 3 1 v (reachL s.cs (rootsOf R)).length ((reachL s.cs (rootsOf R)).map fun n : Nat => Value.int .i64 (n : Int))) ∨ (allMay s.cs.length R = false ∧ E = 2)
theorem Reached_ans {b0 hb : Nat} {s : HSt} (hg : HGood s.cs) (w : World) (h : s.At b0 w hb) (R : List AW) (A : Option Addr) (n cap : Nat) (hn : R.length = n) (hR : WRow (· < w.heap.size) w A n cap R) (hS : Spans w) (hl : n ≤ 1000000) :
    Calls Tryz.prog 13 #[.pointer (some ⟨hb, 0, none⟩), .slice A n cap] w fun e w' => ∃ v E, e = .returned (.tuple #[v, .int .i64 E]) ∧ RAns s R w.heap.size w' v E ∧ Below w.heap.size w w' := by
  subst hn
  refine (Reached_any hg w h R A cap cap hR hS hl).mono ?_
  rintro e w' ⟨b, (⟨h1, v, rfl, h2⟩ | ⟨h1, rfl⟩)⟩
  · exact ⟨v, 0, rfl, .inl ⟨h1, rfl, h2⟩, b⟩
  · exact ⟨_, 2, rfl, .inr ⟨h1, rfl⟩, b⟩
theorem Run_ans {b0 hb : Nat} {s : HSt} (hg : HGood s.cs) (w : World) (h : s.At b0 w hb) (R : List AW) (A : Option Addr) (n cap : Nat) (hn : R.length = n) (hR : WRow (· < w.heap.size) w A n cap R) (hS : Spans w) (hl : n ≤ 1000000) :
    Calls Tryz.prog 10 #[.pointer (some ⟨hb, 0, none⟩), .slice A n cap] w fun e w' => Below w.heap.size w w' ∧ ((allMay s.cs.length R = true ∧ ∃ (so : HSt) (ho g : Nat), so.cs = colC s.cs (reachL s.cs (rootsOf R)) ∧ HOk so ∧ so.At w.heap.size w' ho ∧ g < w'.heap.size ∧ WordsIn w' g (wentW s.cs R) ∧
      e = .returned (.tuple #[.pointer (some ⟨ho, 0, none⟩), .slice (some ⟨g, 0, none⟩) n n, .int .i64 0])) ∨
    (allMay s.cs.length R = false ∧ e = .returned (.tuple #[.pointer none, .slice none 0 0, .int .i64 2]))) := by
  subst hn
  refine (Run_any hg w h R A cap cap hR hS hl).mono ?_
  rintro e w' ⟨b, (⟨h1, so, ho, g, h2, h3, h4, h5, h6, h7, rfl⟩ | ⟨h1, rfl⟩)⟩
  · exact ⟨b, .inl ⟨h1, so, ho, g, h2, h3, h4, h5, h7, rfl⟩⟩
  · exact ⟨b, .inr ⟨h1, rfl⟩⟩
theorem MRow.later {w V : World} {A : Option Addr} {n cap : Nat} {l : List MkA} (h : MRow w.heap.size w A n cap l) (hb : Below w.heap.size w V) : MRow V.heap.size V A n cap l :=
  ⟨h.len, h.max, h.cap, fun j a hj => by
    obtain ⟨ad, e, hl, LA, Lc, h0, h2, h3, h4⟩ := h.at_ j a hj
    exact ⟨ad, e, Nat.lt_of_lt_of_le hl hb.size, LA, Lc, h0.keep (hb.block _ hl), h2.later hb, h3, h4⟩⟩
/-- Where a root's cell went. -/
theorem went_cell {cs : List HC} {R : List AW} (hg : HGood cs) (hall : allMay cs.length (R.map wordOf) = true) {y : AW} (hy : y ∈ R) (hc : y.c = true) {bb : Bool} {aa kk nn : Int} {ss tt : ByteArray} (hcc : (mvW (reachL cs (rootsOf (R.map wordOf))) (wordOf y).hw).cells = [.bool bb, .int .i64 aa, .int .i8 kk, .int .i64 nn, .string ss, .string tt, .slice none 0 0]) :
    ∃ a : Nat, y.a = (a : Int) ∧ a ∈ reachL cs (rootsOf (R.map wordOf)) ∧ aa = (((reachL cs (rootsOf (R.map wordOf))).idxOf a : Nat) : Int) := by
  have hw : wordOf y = ⟨true, y.a, iW 0⟩ := by unfold wordOf; rw [if_pos hc]
  have hm : wordOf y ∈ R.map wordOf := List.mem_map.2 ⟨y, hy, rfl⟩
  have h := may_ref (List.all_eq_true.1 hall _ hm) (by rw [hw])
  have hhw : (wordOf y).hw = .ref y.a.toNat := by rw [hw]; rfl
  have hin := root_in hg hall hm _ hhw
  rw [hw] at h
  refine ⟨y.a.toNat, by have := h.1; dsimp only at this; omega, hin, ?_⟩
  rw [hhw] at hcc
  simp only [mvW, HW.cells, List.cons.injEq, Value.bool.injEq, Value.int.injEq, true_and] at hcc
  exact hcc.2.1.symm

set_option maxRecDepth 100000 in
set_option maxHeartbeats 16000000 in
theorem walk_CollectKeeps (v0 v1 : Value) (w : World) (o0 : ∃ A n cap l, v0 = .slice A n cap ∧ MRow w.heap.size w A n cap l) (o1 : ∃ A n cap L, v1 = .slice A n cap ∧ WRow (· < w.heap.size) w A n cap L ∧ n ≤ 140737488351232) (hS : Spans w) :
    Calls Tryz.prog 4 #[v0, v1] w fun e w' => e = .returned (.bool true) ∧ Below w.heap.size w w' := by
  obtain ⟨A, n, cap, l, rfl, hl⟩ := o0
  obtain ⟨B, m, bcap, R, rfl, hR, hRm⟩ := o1
  obtain rfl := hR.len
  obtain rfl := hl.len
  have HL := Lib.hid hl
  have HR := Lib.hid hR
  have HS := Lib.hid hS
  have HG1 := Lib.hid (great5_any A B l.length cap R.length bcap l R w hl hR hRm)
  clear hl hR hS hRm
  go_enter Tryz.func4, Tryz.ntmps4
  go_wp2_with fail
  refine HG1.out.mono ?_
  rintro e W1 ⟨b1, rfl, hs1, bw1⟩
  have HB1 := Lib.hid bw1
  have HS1 := Lib.hid hs1
  clear hs1 bw1
  cases b1 with
  | true =>
    go_wp2_with fail
    refine (wakes5_ok W1 (HS.out.below HB1.out HS.out.lt)).mono ?_
    rintro e W2 ⟨rfl, bw⟩
    have HB2 := Lib.hid (HB1.out.trans (bw.mono HB1.out.size))
    clear bw
    go_wp2_with fail
    go_ret
    exact ⟨rfl, HB2.out⟩
  | false =>
  have hs1 := HS1.out rfl
  have hN : R.length < 400 := by have := hs1.1; omega
  have HA := Lib.hid hs1.2
  have HN := Lib.hid hN
  clear hs1 hN HS1 HG1
  go_wp2_with fail
  refine (both_any A l.length cap l W1 (HL.out.later HB1.out) HA.out (HS.out.below HB1.out HS.out.lt)).mono ?_
  rintro e W2 ⟨rb, s, CS, G, rfl, ht, hcs, bw2⟩
  have HB2 := Lib.hid (HB1.out.trans (bw2.mono HB1.out.size))
  have HT2 := Lib.hid ht.hat
  have HOK := Lib.hid ht.ok
  obtain ⟨base, hbase⟩ : ∃ base, base = W1.heap.size := ⟨_, rfl⟩
  rw [← hbase] at HT2 ⊢
  clear ht hcs bw2 hbase
  go_wp2_with fail
  refine (words5_any (· < W2.heap.size) B R.length bcap R W2 (HR.out.later HB2.out) (fun _ h => h) (by have := HN.out; omega)).mono ?_
  rintro e W3 ⟨A3, cap3, rfl, hr3, bw3⟩
  have HR3 : Hid (WRow (· < W3.heap.size) W3 A3 R.length cap3 (R.map wordOf)) := hr3.keep (fun _ _ => rfl) (fun b hb => hb.elim (fun h => Nat.lt_of_lt_of_le h bw3.size) (fun h => h.2))
  have HB3 := Lib.hid (HB2.out.trans (bw3.mono HB2.out.size))
  have HT3 := Lib.hid (HT2.out.under bw3)
  clear hr3 bw3
  go_wp2_with fail
  refine (Run_ans HOK.out.good W3 HT3.out (R.map wordOf) A3 R.length cap3 (by rw [List.length_map]) HR3.out (HS.out.below HB3.out HS.out.lt) (by have := HN.out; omega)).mono ?_
  rintro e W4 ⟨bw4, (⟨hall, so, ho, g, hcso, hoko, hato, hgl, hwi, rfl⟩ | ⟨hall, rfl⟩)⟩
  case inr =>
    have HB4 := Lib.hid (HB3.out.trans (bw4.mono HB3.out.size))
    have HWK := Lib.hid (wakes5_ok W4 (HS.out.below HB4.out HS.out.lt))
    clear bw4
    go_wp2_with fail
    refine HWK.out.mono ?_
    rintro e W9 ⟨rfl, bw⟩
    have HB9 := Lib.hid (HB4.out.trans (bw.mono HB4.out.size))
    clear bw
    go_wp2_with fail
    go_ret
    exact ⟨rfl, HB9.out⟩
  obtain ⟨PL, hPL⟩ : ∃ PL, PL = reachL s.cs (rootsOf (R.map wordOf)) := ⟨_, rfl⟩
  have HB4 := Lib.hid (HB3.out.trans (bw4.mono HB3.out.size))
  have HT4 := Lib.hid (HT3.out.under bw4)
  have HALL := Lib.hid hall
  have HCSO := Lib.hid hcso
  have HOKO := Lib.hid hoko
  have HATO := Lib.hid hato
  have HWI := Lib.hid (And.intro hgl hwi)
  have HPL := Lib.hid hPL
  clear bw4 hall hcso hoko hato hgl hwi hPL HR3 HT3 HT2
  go_wp2_with fail
  refine (words5_any (· < W4.heap.size) B R.length bcap R W4 (HR.out.later HB4.out) (fun _ h => h) (by have := HN.out; omega)).mono ?_
  rintro e W5 ⟨A5, cap5, rfl, hr5, bw5⟩
  have HR5 : Hid (WRow (· < W5.heap.size) W5 A5 R.length cap5 (R.map wordOf)) := hr5.keep (fun _ _ => rfl) (fun b hb => hb.elim (fun h => Nat.lt_of_lt_of_le h bw5.size) (fun h => h.2))
  have HB5 := Lib.hid (HB4.out.trans (bw5.mono HB4.out.size))
  have HB45 := Lib.hid bw5
  clear hr5 bw5
  go_wp2_with fail
  refine (Reached_ans HOK.out.good W5 (HT4.out.under HB45.out) (R.map wordOf) A5 R.length cap5 (by rw [List.length_map]) HR5.out (HS.out.below HB5.out HS.out.lt) (by have := HN.out; omega)).mono ?_
  rintro e W6 ⟨va, E1, rfl, hans, bw6⟩
  have HB6 := Lib.hid (HB5.out.trans (bw6.mono HB5.out.size))
  have HB46 := Lib.hid (HB45.out.trans (bw6.mono HB45.out.size))
  clear bw6 HR5
  rcases hans with ⟨-, rfl, hrow⟩ | ⟨hno, -⟩
  case inr => rw [HALL.out] at hno; cases hno
  have hshut := reachL_shut HOK.out.good (rootsOf_lt HALL.out)
  have hplen := Nat.le_trans (shut_len hshut) HOK.out.good.len
  have hps := shut_len hshut
  rw [← HPL.out] at hrow hplen hps
  obtain ⟨PA, pcap, rfl, hP, hge⟩ := PRow.of_own hrow
  have hsol : so.cs.length = PL.length := by rw [HCSO.out, colC_len, HPL.out]
  have HHS := Lib.hid (HT4.out.under HB46.out)
  have HHO := Lib.hid (HATO.out.under HB46.out)
  have HLN1 := Lib.hid (Len_any W6 HHO.out)
  have HLN2 := Lib.hid (Len_any W6 HHS.out)
  rw [hsol] at HLN1
  have HSOL := Lib.hid hsol
  have HGL : Hid (g < W6.heap.size) := Nat.lt_of_lt_of_le HWI.out.1 HB46.out.size
  have HWI6 : Hid (WordsIn W6 g (wentW s.cs (R.map wordOf))) := HWI.out.2.keep (HB46.out.block _ HWI.out.1)
  have hsl : ¬ (((s.cs.length : Nat) : Int) < ((PL.length : Nat) : Int)) := by omega
  have hsl2 : decide (((s.cs.length : Nat) : Int) < ((PL.length : Nat) : Int)) = false := by rw [decide_eq_false_iff_not]; omega
  clear hrow hshut hP hge hsol hps
  go_wp2_with fail
  refine HLN1.out.mono ?_
  rintro e w' ⟨rfl, hq⟩
  subst w'
  go_wp2_with fail
  refine HLN2.out.mono ?_
  rintro e w' ⟨rfl, hq⟩
  subst w'
  go_wp2_with fail
  refine HLN1.out.mono ?_
  rintro e w' ⟨rfl, hq⟩
  subst w'
  go_wp2_with fail
  have hslN : decide (s.cs.length < PL.length) = false := by rw [decide_eq_false_iff_not]; omega
  try simp only [hslN]
  clear hslN
  clear hsl hsl2 HLN1 HLN2 HB45 HB46 HT4 HWI
  have HMAY : Hid (∀ y ∈ R, mayW s.cs.length (wordOf y).c (wordOf y).a (wordOf y).x = true) := fun y hy => List.all_eq_true.1 HALL.out _ (List.mem_map.2 ⟨y, hy, rfl⟩)
  have hRN := HN.out
  go_loopw [86] (fun i wr => ∃ j : Nat, j ≤ R.length ∧ i = .int .i64 j ∧ Hid (Below W6.heap.size W6 wr)) (fun i _ => R.length - (intOf i).toNat)
  case atStart => exact ⟨0, Nat.zero_le _, rfl, Below.refl _ _⟩
  case round =>
    obtain ⟨j, hj, rfl, HB⟩ := hrel
    by_cases hlt : j < R.length
    · obtain ⟨y, hy⟩ : ∃ y, R[j]? = some y := ⟨R[j], List.getElem?_eq_getElem hlt⟩
      obtain ⟨ad, k', n', s', t', A', l', c', rfl, had, hrp, haw⟩ := root5 HR.out hy
      have hwy : (wentW s.cs (R.map wordOf))[j]? = some (mvW PL (wordOf y).hw) := by
        unfold wentW
        rw [List.getElem?_map, List.getElem?_map, hy, ← HPL.out]
        rfl
      have hgoody := went_good HOK.out.good HALL.out _ (List.mem_of_getElem? hwy)
      obtain ⟨bb, aa, kk, nn, ss, tt, hcc, hqt⟩ := word5_aw hgoody
      have hrl := HWI6.out.rowL5 hwy hcc
      have HM2 : Hid (mayW so.cs.length (awOf (mvW PL (wordOf y).hw)).c (awOf (mvW PL (wordOf y).hw)).a (awOf (mvW PL (wordOf y).hw)).x = true) := by
        rw [← HPL.out] at hgoody
        show mayW so.cs.length _ _ _ = true
        rw [HSOL.out]
        exact awOf_may hgoody
      have HWT : Hid (wt s.cs s.cs.length (wordOf y).hw = wt so.cs so.cs.length (mvW PL (wordOf y).hw)) := by
        show wt s.cs s.cs.length (wordOf y).hw = wt so.cs so.cs.length (mvW PL (wordOf y).hw)
        rw [HCSO.out, HPL.out]
        exact went_wt HOK.out.good HALL.out (List.mem_map.2 ⟨y, List.mem_of_getElem? hy, rfl⟩)
      have HCELL : Hid (y.c = true → ∃ a : Nat, y.a = (a : Int) ∧ a ∈ PL ∧ aa = ((PL.idxOf a : Nat) : Int)) := by
        intro hc
        rw [HPL.out] at hcc ⊢
        exact went_cell HOK.out.good HALL.out (List.mem_of_getElem? hy) hc hcc
      have HQT := Lib.hid hqt
      have HAD := Lib.hid had
      have HRP := Lib.hid hrp
      have HRL := Lib.hid hrl
      have HAW := Lib.hid haw
      have HY := Lib.hid hy
      have i0 : (0 : Int) ≤ (j : Int) := by omega
      have i1 : (j : Int) < (R.length : Int) := by omega
      obtain ⟨yc, ya, yx⟩ := y
      dsimp only at HRP HAW HCELL
      clear hcc hqt hgoody hwy had hrp hrl haw hy
      go_upto_region 15 with fail
      go_cut [101] (fun c wx => ∃ b : Bool, c = .bool b ∧ Hid (b = false ∧ Below W6.heap.size W6 wx))
      case first =>
        have hdr : Below wr.heap.size wr wr.drew := ⟨rfl, rfl, rfl, Nat.le_refl _, fun _ _ => rfl⟩
        have hBX : Below W6.heap.size W6 wr.drew := HB.out.trans (hdr.mono HB.out.size)
        have hB0 : Below w.heap.size w wr.drew := HB6.out.trans (hBX.mono HB6.out.size)
        have hS0 : (fun V => RowP5 V ad j (.bool yc) (.int .i64 ya) (.int .i8 k') (.int .i64 n') (.string s') (.string t') (.slice A' l' c') ∧ RowL5 V g (j * 7) (.bool bb) (.int .i64 aa) (.int .i8 kk) (.int .i64 nn) (.string ss) (.string tt) (.slice none 0 0)) wr.drew := ⟨HRP.out.keep (hB0.block _ HAD.out), HRL.out.keep (hBX.block _ HGL.out)⟩
        have hawD := HAW.out.keep (Q := (· < wr.drew.heap.size)) (fun b hb => hB0.block b hb) (fun b hb => Nat.lt_of_lt_of_le hb hB0.size)
        refine wp_region_held (S := fun V => RowP5 V ad j (.bool yc) (.int .i64 ya) (.int .i8 k') (.int .i64 n') (.string s') (.string t') (.slice A' l' c') ∧ RowL5 V g (j * 7) (.bool bb) (.int .i64 aa) (.int .i8 kk) (.int .i64 nn) (.string ss) (.string tt) (.slice none 0 0)) (by kernel_rfl) ?_
        show wpAnyH _ _ _ _ _ _ _ _ wr.drew
        clear hdr
        generalize wr.drew = D at hS0 hB0 hBX hawD ⊢
        refine wpAnyH_take (i := 0) (oi := ⟨some 89, _, _, _, _, _⟩) (v := ?_) rfl (by kernel_rfl) (by kernel_rfl) (by kernel_rfl) (fun _ _ _ h => h) (Or.inl ⟨by kernel_rfl, ?_⟩) (by assumption) ?_; rotate_left; (intro X hX; (try dsimp only at hX); obtain ⟨⟨r0, r1, r2, r3, r4, r5, r6⟩, ⟨s0, s1, s2, s3, s4, s5, s6⟩⟩ := hX; go_simp; first | done | with_reducible rfl); (try simp only [Act.put, List.setIfInBounds_toArray, List.set_cons_zero, List.set_cons_succ])
        refine wpAnyH_take (i := 1) (oi := ⟨some 90, _, _, _, _, _⟩) (v := ?_) rfl (by kernel_rfl) (by kernel_rfl) (by kernel_rfl) (fun _ _ _ h => h) (Or.inl ⟨by kernel_rfl, ?_⟩) (by assumption) ?_; rotate_left; (intro X hX; (try dsimp only at hX); obtain ⟨⟨r0, r1, r2, r3, r4, r5, r6⟩, ⟨s0, s1, s2, s3, s4, s5, s6⟩⟩ := hX; go_simp; first | done | with_reducible rfl); (try simp only [Act.put, List.setIfInBounds_toArray, List.set_cons_zero, List.set_cons_succ])
        refine wpAnyH_take (i := 2) (oi := ⟨some 91, _, _, _, _, _⟩) (v := ?_) rfl (by kernel_rfl) (by kernel_rfl) (by kernel_rfl) (fun _ _ _ h => h) (Or.inl ⟨by kernel_rfl, ?_⟩) (by assumption) ?_; rotate_left; (intro X hX; (try dsimp only at hX); obtain ⟨⟨r0, r1, r2, r3, r4, r5, r6⟩, ⟨s0, s1, s2, s3, s4, s5, s6⟩⟩ := hX; go_simp; first | done | with_reducible rfl); (try simp only [Act.put, List.setIfInBounds_toArray, List.set_cons_zero, List.set_cons_succ])
        refine wpAnyH_take (i := 3) (oi := ⟨some 92, _, _, _, _, _⟩) (v := ?_) rfl (by kernel_rfl) (by kernel_rfl) (by kernel_rfl) (fun _ _ _ h => h) (Or.inl ⟨by kernel_rfl, ?_⟩) (by assumption) ?_; rotate_left; (intro X hX; (try dsimp only at hX); obtain ⟨⟨r0, r1, r2, r3, r4, r5, r6⟩, ⟨s0, s1, s2, s3, s4, s5, s6⟩⟩ := hX; go_simp; first | done | with_reducible rfl); (try simp only [Act.put, List.setIfInBounds_toArray, List.set_cons_zero, List.set_cons_succ])
        refine wpAnyH_take (i := 4) (oi := ⟨some 93, _, _, _, _, _⟩) (v := ?_) rfl (by kernel_rfl) (by kernel_rfl) (by kernel_rfl) (fun _ _ _ h => h) (Or.inl ⟨by kernel_rfl, ?_⟩) (by assumption) ?_; rotate_left; (intro X hX; (try dsimp only at hX); obtain ⟨⟨r0, r1, r2, r3, r4, r5, r6⟩, ⟨s0, s1, s2, s3, s4, s5, s6⟩⟩ := hX; go_simp; first | done | with_reducible rfl); (try simp only [Act.put, List.setIfInBounds_toArray, List.set_cons_zero, List.set_cons_succ])
        refine wpAnyH_take (i := 6) (oi := ⟨some 95, _, _, _, _, _⟩) (v := ?_) rfl (by kernel_rfl) (by kernel_rfl) (by kernel_rfl) (fun _ _ _ h => h) (Or.inl ⟨by kernel_rfl, ?_⟩) (by assumption) ?_; rotate_left; (intro X hX; (try dsimp only at hX); obtain ⟨⟨r0, r1, r2, r3, r4, r5, r6⟩, ⟨s0, s1, s2, s3, s4, s5, s6⟩⟩ := hX; go_simp; first | done | with_reducible rfl); (try simp only [Act.put, List.setIfInBounds_toArray, List.set_cons_zero, List.set_cons_succ])
        refine wpAnyH_take (i := 7) (oi := ⟨some 96, _, _, _, _, _⟩) (v := ?_) rfl (by kernel_rfl) (by kernel_rfl) (by kernel_rfl) (fun _ _ _ h => h) (Or.inl ⟨by kernel_rfl, ?_⟩) (by assumption) ?_; rotate_left; (intro X hX; (try dsimp only at hX); obtain ⟨⟨r0, r1, r2, r3, r4, r5, r6⟩, ⟨s0, s1, s2, s3, s4, s5, s6⟩⟩ := hX; go_simp; first | done | with_reducible rfl); (try simp only [Act.put, List.setIfInBounds_toArray, List.set_cons_zero, List.set_cons_succ])
        refine wpAnyH_take (i := 8) (oi := ⟨some 97, _, _, _, _, _⟩) (v := ?_) rfl (by kernel_rfl) (by kernel_rfl) (by kernel_rfl) (fun _ _ _ h => h) (Or.inl ⟨by kernel_rfl, ?_⟩) (by assumption) ?_; rotate_left; (intro X hX; (try dsimp only at hX); obtain ⟨⟨r0, r1, r2, r3, r4, r5, r6⟩, ⟨s0, s1, s2, s3, s4, s5, s6⟩⟩ := hX; go_simp; first | done | with_reducible rfl); (try simp only [Act.put, List.setIfInBounds_toArray, List.set_cons_zero, List.set_cons_succ])
        refine wpAnyH_take (i := 9) (oi := ⟨some 98, _, _, _, _, _⟩) (v := ?_) rfl (by kernel_rfl) (by kernel_rfl) (by kernel_rfl) (fun _ _ _ h => h) (Or.inl ⟨by kernel_rfl, ?_⟩) (by assumption) ?_; rotate_left; (intro X hX; (try dsimp only at hX); obtain ⟨⟨r0, r1, r2, r3, r4, r5, r6⟩, ⟨s0, s1, s2, s3, s4, s5, s6⟩⟩ := hX; go_simp; first | done | with_reducible rfl); (try simp only [Act.put, List.setIfInBounds_toArray, List.set_cons_zero, List.set_cons_succ])
        refine wpAnyH_take (i := 10) (oi := ⟨some 99, _, _, _, _, _⟩) (v := ?_) rfl (by kernel_rfl) (by kernel_rfl) (by kernel_rfl) (fun _ _ _ h => h) (Or.inl ⟨by kernel_rfl, ?_⟩) (by assumption) ?_; rotate_left; (intro X hX; (try dsimp only at hX); obtain ⟨⟨r0, r1, r2, r3, r4, r5, r6⟩, ⟨s0, s1, s2, s3, s4, s5, s6⟩⟩ := hX; go_simp; first | done | with_reducible rfl); (try simp only [Act.put, List.setIfInBounds_toArray, List.set_cons_zero, List.set_cons_succ])
        refine wpAnyH_ready (rs := [5]) (by kernel_rfl) (by simp) ?_
        refine AllReadyH.cons (o := ⟨some 94, _, _, _, _, _⟩) rfl (fun K hK => ?_) AllReadyH.nil
        rw [if_pos (by rfl)]
        go_simp
        refine (word5_any ⟨yc, ya, yx⟩ _ D hawD).mono ?_
        rintro e D1 ⟨v1, rfl, hv1, bD1⟩
        have hB1 := hB0.trans (bD1.mono hB0.size)
        have hS1 : (fun V => RowP5 V ad j (.bool yc) (.int .i64 ya) (.int .i8 k') (.int .i64 n') (.string s') (.string t') (.slice A' l' c') ∧ RowL5 V g (j * 7) (.bool bb) (.int .i64 aa) (.int .i8 kk) (.int .i64 nn) (.string ss) (.string tt) (.slice none 0 0)) D1 := ⟨hS0.1.keep (bD1.block _ (Nat.lt_of_lt_of_le HAD.out hB0.size)), hS0.2.keep (bD1.block _ (Nat.lt_of_lt_of_le HGL.out hBX.size))⟩
        replace hBX := hBX.trans (bD1.mono hBX.size)
        clear hS0 hB0 hawD
        refine hK.out _ _ hS1 (fun _ => ?_)
        clear hK K bD1; (try simp only [Act.put, List.setIfInBounds_toArray, List.set_cons_zero, List.set_cons_succ])
        refine wpAnyH_ready (rs := [11]) (by kernel_rfl) (by simp) ?_
        refine AllReadyH.cons (o := ⟨some 100, _, _, _, _, _⟩) rfl (fun K hK => ?_) AllReadyH.nil
        rw [if_pos (by rfl)]
        go_simp
        refine (Same5_any HOK.out.good HOKO.out.good D1 (HHS.out.under hBX) (HHO.out.under hBX) (wordOf ⟨yc, ya, yx⟩) (awOf (mvW PL (wordOf ⟨yc, ya, yx⟩).hw)) _ _ hv1 (HQT.out _ _) (HMAY.out _ (List.mem_of_getElem? HY.out)) HM2.out (by rw [awOf_hw]; exact HWT.out) (HS.out.below hB1 HS.out.lt)).mono ?_
        rintro e D2 ⟨rfl, bD2⟩
        have hS2 : (fun V => RowP5 V ad j (.bool yc) (.int .i64 ya) (.int .i8 k') (.int .i64 n') (.string s') (.string t') (.slice A' l' c') ∧ RowL5 V g (j * 7) (.bool bb) (.int .i64 aa) (.int .i8 kk) (.int .i64 nn) (.string ss) (.string tt) (.slice none 0 0)) D2 := ⟨hS1.1.keep (bD2.block _ (Nat.lt_of_lt_of_le HAD.out hB1.size)), hS1.2.keep (bD2.block _ (Nat.lt_of_lt_of_le HGL.out hBX.size))⟩
        replace hBX := hBX.trans (bD2.mono hBX.size)
        have HBX2 := Lib.hid hBX
        clear hS1 hB1 hv1 hBX
        refine hK.out _ _ hS2 (fun _ => ?_)
        clear hK K bD2; (try simp only [Act.put, List.setIfInBounds_toArray, List.set_cons_zero, List.set_cons_succ])
        refine wpAnyH_take (i := 12) (oi := ⟨some 101, _, _, _, _, _⟩) (v := ?_) rfl (by kernel_rfl) (by kernel_rfl) (by kernel_rfl) (fun _ _ _ h => h) (Or.inl ⟨by kernel_rfl, ?_⟩) (by assumption) ?_; rotate_left; (intro X hX; (try dsimp only at hX); obtain ⟨⟨r0, r1, r2, r3, r4, r5, r6⟩, ⟨s0, s1, s2, s3, s4, s5, s6⟩⟩ := hX; go_simp; first | done | with_reducible rfl); (try simp only [Act.put, List.setIfInBounds_toArray, List.set_cons_zero, List.set_cons_succ])
        refine wpAnyH_done (by kernel_rfl) ?_ _
        clear hS2
        go_wp2_with fail
        go_meet
        exact ⟨false, rfl, rfl, HBX2⟩
      case rest =>
        obtain ⟨bc, rfl, hbc⟩ := hcut
        obtain rfl : bc = false := hbc.out.1
        have HBJ := Lib.hid hbc.out.2
        clear hbc
        clear HB HQT HM2 HWT HAW
        go_wp2_with fail
        go_loopw [104] (fun i wr => ∃ j3 : Nat, j3 ≤ R.length ∧ i = .int .i64 j3 ∧ Hid (Below W6.heap.size W6 wr)) (fun i _ => R.length - (intOf i).toNat)
        case atStart => exact ⟨0, Nat.zero_le _, rfl, HBJ⟩
        case round =>
          clear HBJ
          obtain ⟨j3, hj3, rfl, HBR⟩ := hrel
          by_cases hlt3 : j3 < R.length
          · obtain ⟨z, hz⟩ : ∃ z, R[j3]? = some z := ⟨R[j3], List.getElem?_eq_getElem hlt3⟩
            obtain ⟨ad2, k2, n2, s2, t2, A2, l2, c2, hBad, -, hrp2, -⟩ := root5 HR.out hz
            cases hBad
            have hwz : (wentW s.cs (R.map wordOf))[j3]? = some (mvW PL (wordOf z).hw) := by
              unfold wentW
              rw [List.getElem?_map, List.getElem?_map, hz, ← HPL.out]
              rfl
            obtain ⟨bb2, aa2, kk2, nn2, ss2, tt2, hcc2, -⟩ := word5_aw (went_good HOK.out.good HALL.out _ (List.mem_of_getElem? hwz))
            have hrl2 := HWI6.out.rowL5 hwz hcc2
            have HCELL2 : Hid (z.c = true → ∃ a : Nat, z.a = (a : Int) ∧ a ∈ PL ∧ aa2 = ((PL.idxOf a : Nat) : Int)) := by
              intro hc
              rw [HPL.out] at hcc2 ⊢
              exact went_cell HOK.out.good HALL.out (List.mem_of_getElem? hz) hc hcc2
            have hBw : Below w.heap.size w wr := HB6.out.trans (HBR.out.mono HB6.out.size)
            have hri := HRP.out.keep (hBw.block _ HAD.out)
            have hrk := hrp2.keep (hBw.block _ HAD.out)
            have hti := (HRL.out.keep (HBR.out.block _ HGL.out)).2.1
            have htk := (hrl2.keep (HBR.out.block _ HGL.out)).2.1
            obtain ⟨zc, za, zx⟩ := z
            dsimp only at hrk HCELL2
            have j0 : (0 : Int) ≤ (j3 : Int) := by omega
            have j1 : (j3 : Int) < (R.length : Int) := by omega
            clear hcc2 hwz hrp2 hrl2 hBw hz
            cases yc with
            | false =>
              go_upto_region 20 with fail
              have hdr : Below wr.heap.size wr wr.drew := ⟨rfl, rfl, rfl, Nat.le_refl _, fun _ _ => rfl⟩
              have HBD : Hid (Below W6.heap.size W6 wr.drew) := HBR.out.trans (hdr.mono HBR.out.size)
              have hS0 : (fun V => V.cell? (ad.add (j * 7)) = some (.bool false) ∧ V.cell? ⟨(ad.add (j * 7)).block, (ad.add (j * 7)).off + 1, none⟩ = some (.int .i64 ya) ∧ V.cell? (ad.add (j3 * 7)) = some (.bool zc) ∧ V.cell? ⟨(ad.add (j3 * 7)).block, (ad.add (j3 * 7)).off + 1, none⟩ = some (.int .i64 za) ∧ V.cell? ⟨g, j * 7 + 1, none⟩ = some (.int .i64 aa) ∧ V.cell? ⟨g, j3 * 7 + 1, none⟩ = some (.int .i64 aa2)) wr.drew := ⟨hri.1, hri.2.1, hrk.1, hrk.2.1, hti, htk⟩
              refine wp_region_held (S := fun V => V.cell? (ad.add (j * 7)) = some (.bool false) ∧ V.cell? ⟨(ad.add (j * 7)).block, (ad.add (j * 7)).off + 1, none⟩ = some (.int .i64 ya) ∧ V.cell? (ad.add (j3 * 7)) = some (.bool zc) ∧ V.cell? ⟨(ad.add (j3 * 7)).block, (ad.add (j3 * 7)).off + 1, none⟩ = some (.int .i64 za) ∧ V.cell? ⟨g, j * 7 + 1, none⟩ = some (.int .i64 aa) ∧ V.cell? ⟨g, j3 * 7 + 1, none⟩ = some (.int .i64 aa2)) (by kernel_rfl) ?_
              show wpAnyH _ _ _ _ _ _ _ _ wr.drew
              clear hdr hri hrk hti htk
              generalize wr.drew = D at hS0 HBD ⊢
              refine wpAnyH_take (i := 0) (oi := ⟨some 107, _, _, _, _, _⟩) (v := ?_) rfl (by kernel_rfl) (by kernel_rfl) (by kernel_rfl) (fun _ _ _ h => h) (Or.inl ⟨by kernel_rfl, ?_⟩) (by assumption) ?_; rotate_left; (intro X hX; (try dsimp only at hX); obtain ⟨r0, r1, s0, s1, t0, t1⟩ := hX; go_simp; first | done | with_reducible rfl); (try simp only [Act.put, List.setIfInBounds_toArray, List.set_cons_zero, List.set_cons_succ])
              refine wpAnyH_take (i := 1) (oi := ⟨some 108, _, _, _, _, _⟩) (v := ?_) rfl (by kernel_rfl) (by kernel_rfl) (by kernel_rfl) (fun _ _ _ h => h) (Or.inl ⟨by kernel_rfl, ?_⟩) (by assumption) ?_; rotate_left; (intro X hX; (try dsimp only at hX); obtain ⟨r0, r1, s0, s1, t0, t1⟩ := hX; go_simp; first | done | with_reducible rfl); (try simp only [Act.put, List.setIfInBounds_toArray, List.set_cons_zero, List.set_cons_succ])
              refine wpAnyH_take (i := 2) (oi := ⟨some 109, _, _, _, _, _⟩) (v := ?_) rfl (by kernel_rfl) (by kernel_rfl) (by kernel_rfl) (fun _ _ _ h => h) (Or.inl ⟨by kernel_rfl, ?_⟩) (by assumption) ?_; rotate_left; (intro X hX; (try dsimp only at hX); obtain ⟨r0, r1, s0, s1, t0, t1⟩ := hX; go_simp; first | done | with_reducible rfl); (try simp only [Act.put, List.setIfInBounds_toArray, List.set_cons_zero, List.set_cons_succ])
              refine wpAnyH_take (i := 3) (oi := ⟨some 110, _, _, _, _, _⟩) (v := ?_) rfl (by kernel_rfl) (by kernel_rfl) (by kernel_rfl) (fun _ _ _ h => h) (Or.inl ⟨by kernel_rfl, ?_⟩) (by assumption) ?_; rotate_left; (intro X hX; (try dsimp only at hX); obtain ⟨r0, r1, s0, s1, t0, t1⟩ := hX; go_simp; first | done | with_reducible rfl); (try simp only [Act.put, List.setIfInBounds_toArray, List.set_cons_zero, List.set_cons_succ])
              refine wpAnyH_take (i := 4) (oi := ⟨some 111, _, _, _, _, _⟩) (v := ?_) rfl (by kernel_rfl) (by kernel_rfl) (by kernel_rfl) (fun _ _ _ h => h) (Or.inl ⟨by kernel_rfl, ?_⟩) (by assumption) ?_; rotate_left; (intro X hX; (try dsimp only at hX); obtain ⟨r0, r1, s0, s1, t0, t1⟩ := hX; go_simp; first | done | with_reducible rfl); (try simp only [Act.put, List.setIfInBounds_toArray, List.set_cons_zero, List.set_cons_succ])
              refine wpAnyH_take (i := 5) (oi := ⟨some 112, _, _, _, _, _⟩) (v := ?_) rfl (by kernel_rfl) (by kernel_rfl) (by kernel_rfl) (fun _ _ _ h => h) (Or.inl ⟨by kernel_rfl, ?_⟩) (by assumption) ?_; rotate_left; (intro X hX; (try dsimp only at hX); obtain ⟨r0, r1, s0, s1, t0, t1⟩ := hX; go_simp; first | done | with_reducible rfl); (try simp only [Act.put, List.setIfInBounds_toArray, List.set_cons_zero, List.set_cons_succ])
              refine wpAnyH_take (i := 6) (oi := ⟨some 113, _, _, _, _, _⟩) (v := undef) rfl (by kernel_rfl) (by kernel_rfl) (by kernel_rfl) (fun _ _ _ h => h) (Or.inr ⟨by kernel_rfl, rfl⟩) (by assumption) ?_; (try simp only [Act.put, List.setIfInBounds_toArray, List.set_cons_zero, List.set_cons_succ])
              refine wpAnyH_take (i := 7) (oi := ⟨some 114, _, _, _, _, _⟩) (v := undef) rfl (by kernel_rfl) (by kernel_rfl) (by kernel_rfl) (fun _ _ _ h => h) (Or.inr ⟨by kernel_rfl, rfl⟩) (by assumption) ?_; (try simp only [Act.put, List.setIfInBounds_toArray, List.set_cons_zero, List.set_cons_succ])
              refine wpAnyH_take (i := 8) (oi := ⟨some 115, _, _, _, _, _⟩) (v := undef) rfl (by kernel_rfl) (by kernel_rfl) (by kernel_rfl) (fun _ _ _ h => h) (Or.inr ⟨by kernel_rfl, rfl⟩) (by assumption) ?_; (try simp only [Act.put, List.setIfInBounds_toArray, List.set_cons_zero, List.set_cons_succ])
              refine wpAnyH_take (i := 9) (oi := ⟨some 116, _, _, _, _, _⟩) (v := undef) rfl (by kernel_rfl) (by kernel_rfl) (by kernel_rfl) (fun _ _ _ h => h) (Or.inr ⟨by kernel_rfl, rfl⟩) (by assumption) ?_; (try simp only [Act.put, List.setIfInBounds_toArray, List.set_cons_zero, List.set_cons_succ])
              refine wpAnyH_take (i := 10) (oi := ⟨some 117, _, _, _, _, _⟩) (v := undef) rfl (by kernel_rfl) (by kernel_rfl) (by kernel_rfl) (fun _ _ _ h => h) (Or.inr ⟨by kernel_rfl, rfl⟩) (by assumption) ?_; (try simp only [Act.put, List.setIfInBounds_toArray, List.set_cons_zero, List.set_cons_succ])
              refine wpAnyH_take (i := 11) (oi := ⟨some 118, _, _, _, _, _⟩) (v := ?_) rfl (by kernel_rfl) (by kernel_rfl) (by kernel_rfl) (fun _ _ _ h => h) (Or.inl ⟨by kernel_rfl, ?_⟩) (by assumption) ?_; rotate_left; (intro X hX; (try dsimp only at hX); obtain ⟨r0, r1, s0, s1, t0, t1⟩ := hX; go_simp; first | done | with_reducible rfl); (try simp only [Act.put, List.setIfInBounds_toArray, List.set_cons_zero, List.set_cons_succ])
              refine wpAnyH_take (i := 12) (oi := ⟨some 119, _, _, _, _, _⟩) (v := ?_) rfl (by kernel_rfl) (by kernel_rfl) (by kernel_rfl) (fun _ _ _ h => h) (Or.inl ⟨by kernel_rfl, ?_⟩) (by assumption) ?_; rotate_left; (intro X hX; (try dsimp only at hX); obtain ⟨r0, r1, s0, s1, t0, t1⟩ := hX; go_simp; first | done | with_reducible rfl); (try simp only [Act.put, List.setIfInBounds_toArray, List.set_cons_zero, List.set_cons_succ])
              refine wpAnyH_take (i := 13) (oi := ⟨some 120, _, _, _, _, _⟩) (v := undef) rfl (by kernel_rfl) (by kernel_rfl) (by kernel_rfl) (fun _ _ _ h => h) (Or.inr ⟨by kernel_rfl, rfl⟩) (by assumption) ?_; (try simp only [Act.put, List.setIfInBounds_toArray, List.set_cons_zero, List.set_cons_succ])
              refine wpAnyH_take (i := 14) (oi := ⟨some 121, _, _, _, _, _⟩) (v := undef) rfl (by kernel_rfl) (by kernel_rfl) (by kernel_rfl) (fun _ _ _ h => h) (Or.inr ⟨by kernel_rfl, rfl⟩) (by assumption) ?_; (try simp only [Act.put, List.setIfInBounds_toArray, List.set_cons_zero, List.set_cons_succ])
              refine wpAnyH_take (i := 15) (oi := ⟨some 122, _, _, _, _, _⟩) (v := undef) rfl (by kernel_rfl) (by kernel_rfl) (by kernel_rfl) (fun _ _ _ h => h) (Or.inr ⟨by kernel_rfl, rfl⟩) (by assumption) ?_; (try simp only [Act.put, List.setIfInBounds_toArray, List.set_cons_zero, List.set_cons_succ])
              refine wpAnyH_take (i := 16) (oi := ⟨some 123, _, _, _, _, _⟩) (v := undef) rfl (by kernel_rfl) (by kernel_rfl) (by kernel_rfl) (fun _ _ _ h => h) (Or.inr ⟨by kernel_rfl, rfl⟩) (by assumption) ?_; (try simp only [Act.put, List.setIfInBounds_toArray, List.set_cons_zero, List.set_cons_succ])
              refine wpAnyH_take (i := 17) (oi := ⟨some 124, _, _, _, _, _⟩) (v := undef) rfl (by kernel_rfl) (by kernel_rfl) (by kernel_rfl) (fun _ _ _ h => h) (Or.inr ⟨by kernel_rfl, rfl⟩) (by assumption) ?_; (try simp only [Act.put, List.setIfInBounds_toArray, List.set_cons_zero, List.set_cons_succ])
              refine wpAnyH_take (i := 18) (oi := ⟨some 125, _, _, _, _, _⟩) (v := undef) rfl (by kernel_rfl) (by kernel_rfl) (by kernel_rfl) (fun _ _ _ h => h) (Or.inr ⟨by kernel_rfl, rfl⟩) (by assumption) ?_; (try simp only [Act.put, List.setIfInBounds_toArray, List.set_cons_zero, List.set_cons_succ])
              refine wpAnyH_take (i := 19) (oi := ⟨some 126, _, _, _, _, _⟩) (v := undef) rfl (by kernel_rfl) (by kernel_rfl) (by kernel_rfl) (fun _ _ _ h => h) (Or.inr ⟨by kernel_rfl, rfl⟩) (by assumption) ?_; (try simp only [Act.put, List.setIfInBounds_toArray, List.set_cons_zero, List.set_cons_succ])
              refine wpAnyH_take (i := 20) (oi := ⟨some 127, _, _, _, _, _⟩) (v := undef) rfl (by kernel_rfl) (by kernel_rfl) (by kernel_rfl) (fun _ _ _ h => h) (Or.inr ⟨by kernel_rfl, rfl⟩) (by assumption) ?_; (try simp only [Act.put, List.setIfInBounds_toArray, List.set_cons_zero, List.set_cons_succ])
              refine wpAnyH_take (i := 21) (oi := ⟨some 128, _, _, _, _, _⟩) (v := undef) rfl (by kernel_rfl) (by kernel_rfl) (by kernel_rfl) (fun _ _ _ h => h) (Or.inr ⟨by kernel_rfl, rfl⟩) (by assumption) ?_; (try simp only [Act.put, List.setIfInBounds_toArray, List.set_cons_zero, List.set_cons_succ])
              refine wpAnyH_take (i := 22) (oi := ⟨some 129, _, _, _, _, _⟩) (v := undef) rfl (by kernel_rfl) (by kernel_rfl) (by kernel_rfl) (fun _ _ _ h => h) (Or.inr ⟨by kernel_rfl, rfl⟩) (by assumption) ?_; (try simp only [Act.put, List.setIfInBounds_toArray, List.set_cons_zero, List.set_cons_succ])
              refine wpAnyH_take (i := 23) (oi := ⟨some 130, _, _, _, _, _⟩) (v := undef) rfl (by kernel_rfl) (by kernel_rfl) (by kernel_rfl) (fun _ _ _ h => h) (Or.inr ⟨by kernel_rfl, rfl⟩) (by assumption) ?_; (try simp only [Act.put, List.setIfInBounds_toArray, List.set_cons_zero, List.set_cons_succ])
              refine wpAnyH_take (i := 24) (oi := ⟨some 131, _, _, _, _, _⟩) (v := undef) rfl (by kernel_rfl) (by kernel_rfl) (by kernel_rfl) (fun _ _ _ h => h) (Or.inr ⟨by kernel_rfl, rfl⟩) (by assumption) ?_; (try simp only [Act.put, List.setIfInBounds_toArray, List.set_cons_zero, List.set_cons_succ])
              refine wpAnyH_take (i := 25) (oi := ⟨some 132, _, _, _, _, _⟩) (v := undef) rfl (by kernel_rfl) (by kernel_rfl) (by kernel_rfl) (fun _ _ _ h => h) (Or.inr ⟨by kernel_rfl, rfl⟩) (by assumption) ?_; (try simp only [Act.put, List.setIfInBounds_toArray, List.set_cons_zero, List.set_cons_succ])
              refine wpAnyH_take (i := 26) (oi := ⟨some 133, _, _, _, _, _⟩) (v := undef) rfl (by kernel_rfl) (by kernel_rfl) (by kernel_rfl) (fun _ _ _ h => h) (Or.inr ⟨by kernel_rfl, rfl⟩) (by assumption) ?_; (try simp only [Act.put, List.setIfInBounds_toArray, List.set_cons_zero, List.set_cons_succ])
              refine wpAnyH_take (i := 27) (oi := ⟨some 134, _, _, _, _, _⟩) (v := undef) rfl (by kernel_rfl) (by kernel_rfl) (by kernel_rfl) (fun _ _ _ h => h) (Or.inr ⟨by kernel_rfl, rfl⟩) (by assumption) ?_; (try simp only [Act.put, List.setIfInBounds_toArray, List.set_cons_zero, List.set_cons_succ])
              refine wpAnyH_take (i := 28) (oi := ⟨some 135, _, _, _, _, _⟩) (v := undef) rfl (by kernel_rfl) (by kernel_rfl) (by kernel_rfl) (fun _ _ _ h => h) (Or.inr ⟨by kernel_rfl, rfl⟩) (by assumption) ?_; (try simp only [Act.put, List.setIfInBounds_toArray, List.set_cons_zero, List.set_cons_succ])
              refine wpAnyH_take (i := 29) (oi := ⟨some 136, _, _, _, _, _⟩) (v := undef) rfl (by kernel_rfl) (by kernel_rfl) (by kernel_rfl) (fun _ _ _ h => h) (Or.inr ⟨by kernel_rfl, rfl⟩) (by assumption) ?_; (try simp only [Act.put, List.setIfInBounds_toArray, List.set_cons_zero, List.set_cons_succ])
              refine wpAnyH_take (i := 30) (oi := ⟨some 137, _, _, _, _, _⟩) (v := undef) rfl (by kernel_rfl) (by kernel_rfl) (by kernel_rfl) (fun _ _ _ h => h) (Or.inr ⟨by kernel_rfl, rfl⟩) (by assumption) ?_; (try simp only [Act.put, List.setIfInBounds_toArray, List.set_cons_zero, List.set_cons_succ])
              refine wpAnyH_take (i := 31) (oi := ⟨some 138, _, _, _, _, _⟩) (v := undef) rfl (by kernel_rfl) (by kernel_rfl) (by kernel_rfl) (fun _ _ _ h => h) (Or.inr ⟨by kernel_rfl, rfl⟩) (by assumption) ?_; (try simp only [Act.put, List.setIfInBounds_toArray, List.set_cons_zero, List.set_cons_succ])
              refine wpAnyH_take (i := 32) (oi := ⟨some 139, _, _, _, _, _⟩) (v := undef) rfl (by kernel_rfl) (by kernel_rfl) (by kernel_rfl) (fun _ _ _ h => h) (Or.inr ⟨by kernel_rfl, rfl⟩) (by assumption) ?_; (try simp only [Act.put, List.setIfInBounds_toArray, List.set_cons_zero, List.set_cons_succ])
              refine wpAnyH_take (i := 33) (oi := ⟨some 140, _, _, _, _, _⟩) (v := undef) rfl (by kernel_rfl) (by kernel_rfl) (by kernel_rfl) (fun _ _ _ h => h) (Or.inr ⟨by kernel_rfl, rfl⟩) (by assumption) ?_; (try simp only [Act.put, List.setIfInBounds_toArray, List.set_cons_zero, List.set_cons_succ])
              refine wpAnyH_take (i := 34) (oi := ⟨some 141, _, _, _, _, _⟩) (v := undef) rfl (by kernel_rfl) (by kernel_rfl) (by kernel_rfl) (fun _ _ _ h => h) (Or.inr ⟨by kernel_rfl, rfl⟩) (by assumption) ?_; (try simp only [Act.put, List.setIfInBounds_toArray, List.set_cons_zero, List.set_cons_succ])
              refine wpAnyH_take (i := 35) (oi := ⟨some 142, _, _, _, _, _⟩) (v := undef) rfl (by kernel_rfl) (by kernel_rfl) (by kernel_rfl) (fun _ _ _ h => h) (Or.inr ⟨by kernel_rfl, rfl⟩) (by assumption) ?_; (try simp only [Act.put, List.setIfInBounds_toArray, List.set_cons_zero, List.set_cons_succ])
              refine wpAnyH_take (i := 36) (oi := ⟨some 143, _, _, _, _, _⟩) (v := ?_) rfl (by kernel_rfl) (by kernel_rfl) (by kernel_rfl) (fun _ _ _ h => h) (Or.inl ⟨by kernel_rfl, ?_⟩) (by assumption) ?_; rotate_left; (intro X hX; (try dsimp only at hX); obtain ⟨r0, r1, s0, s1, t0, t1⟩ := hX; go_simp; first | done | with_reducible rfl); (try simp only [Act.put, List.setIfInBounds_toArray, List.set_cons_zero, List.set_cons_succ])
              refine wpAnyH_done (by kernel_rfl) ?_ _
              clear hS0
              go_wp2_with fail
              go_roundw
              case rel => exact ⟨j3 + 1, by omega, by go_num, HBD⟩
              case measure => simp [intOf]; omega
            | true =>
              obtain ⟨a, rfl, ha, rfl⟩ := HCELL.out rfl
              cases zc with
              | false =>
                go_upto_region 20 with fail
                have hdr : Below wr.heap.size wr wr.drew := ⟨rfl, rfl, rfl, Nat.le_refl _, fun _ _ => rfl⟩
                have HBD : Hid (Below W6.heap.size W6 wr.drew) := HBR.out.trans (hdr.mono HBR.out.size)
                have hS0 : (fun V => V.cell? (ad.add (j * 7)) = some (.bool true) ∧ V.cell? ⟨(ad.add (j * 7)).block, (ad.add (j * 7)).off + 1, none⟩ = some (.int .i64 (a : Int)) ∧ V.cell? (ad.add (j3 * 7)) = some (.bool false) ∧ V.cell? ⟨(ad.add (j3 * 7)).block, (ad.add (j3 * 7)).off + 1, none⟩ = some (.int .i64 za) ∧ V.cell? ⟨g, j * 7 + 1, none⟩ = some (.int .i64 ((PL.idxOf a : Nat) : Int)) ∧ V.cell? ⟨g, j3 * 7 + 1, none⟩ = some (.int .i64 aa2)) wr.drew := ⟨hri.1, hri.2.1, hrk.1, hrk.2.1, hti, htk⟩
                refine wp_region_held (S := fun V => V.cell? (ad.add (j * 7)) = some (.bool true) ∧ V.cell? ⟨(ad.add (j * 7)).block, (ad.add (j * 7)).off + 1, none⟩ = some (.int .i64 (a : Int)) ∧ V.cell? (ad.add (j3 * 7)) = some (.bool false) ∧ V.cell? ⟨(ad.add (j3 * 7)).block, (ad.add (j3 * 7)).off + 1, none⟩ = some (.int .i64 za) ∧ V.cell? ⟨g, j * 7 + 1, none⟩ = some (.int .i64 ((PL.idxOf a : Nat) : Int)) ∧ V.cell? ⟨g, j3 * 7 + 1, none⟩ = some (.int .i64 aa2)) (by kernel_rfl) ?_
                show wpAnyH _ _ _ _ _ _ _ _ wr.drew
                clear hdr hri hrk hti htk
                generalize wr.drew = D at hS0 HBD ⊢
                refine wpAnyH_take (i := 0) (oi := ⟨some 107, _, _, _, _, _⟩) (v := ?_) rfl (by kernel_rfl) (by kernel_rfl) (by kernel_rfl) (fun _ _ _ h => h) (Or.inl ⟨by kernel_rfl, ?_⟩) (by assumption) ?_; rotate_left; (intro X hX; (try dsimp only at hX); obtain ⟨r0, r1, s0, s1, t0, t1⟩ := hX; go_simp; first | done | with_reducible rfl); (try simp only [Act.put, List.setIfInBounds_toArray, List.set_cons_zero, List.set_cons_succ])
                refine wpAnyH_take (i := 1) (oi := ⟨some 108, _, _, _, _, _⟩) (v := ?_) rfl (by kernel_rfl) (by kernel_rfl) (by kernel_rfl) (fun _ _ _ h => h) (Or.inl ⟨by kernel_rfl, ?_⟩) (by assumption) ?_; rotate_left; (intro X hX; (try dsimp only at hX); obtain ⟨r0, r1, s0, s1, t0, t1⟩ := hX; go_simp; first | done | with_reducible rfl); (try simp only [Act.put, List.setIfInBounds_toArray, List.set_cons_zero, List.set_cons_succ])
                refine wpAnyH_take (i := 2) (oi := ⟨some 109, _, _, _, _, _⟩) (v := ?_) rfl (by kernel_rfl) (by kernel_rfl) (by kernel_rfl) (fun _ _ _ h => h) (Or.inl ⟨by kernel_rfl, ?_⟩) (by assumption) ?_; rotate_left; (intro X hX; (try dsimp only at hX); obtain ⟨r0, r1, s0, s1, t0, t1⟩ := hX; go_simp; first | done | with_reducible rfl); (try simp only [Act.put, List.setIfInBounds_toArray, List.set_cons_zero, List.set_cons_succ])
                refine wpAnyH_take (i := 3) (oi := ⟨some 110, _, _, _, _, _⟩) (v := ?_) rfl (by kernel_rfl) (by kernel_rfl) (by kernel_rfl) (fun _ _ _ h => h) (Or.inl ⟨by kernel_rfl, ?_⟩) (by assumption) ?_; rotate_left; (intro X hX; (try dsimp only at hX); obtain ⟨r0, r1, s0, s1, t0, t1⟩ := hX; go_simp; first | done | with_reducible rfl); (try simp only [Act.put, List.setIfInBounds_toArray, List.set_cons_zero, List.set_cons_succ])
                refine wpAnyH_take (i := 4) (oi := ⟨some 111, _, _, _, _, _⟩) (v := ?_) rfl (by kernel_rfl) (by kernel_rfl) (by kernel_rfl) (fun _ _ _ h => h) (Or.inl ⟨by kernel_rfl, ?_⟩) (by assumption) ?_; rotate_left; (intro X hX; (try dsimp only at hX); obtain ⟨r0, r1, s0, s1, t0, t1⟩ := hX; go_simp; first | done | with_reducible rfl); (try simp only [Act.put, List.setIfInBounds_toArray, List.set_cons_zero, List.set_cons_succ])
                refine wpAnyH_take (i := 5) (oi := ⟨some 112, _, _, _, _, _⟩) (v := ?_) rfl (by kernel_rfl) (by kernel_rfl) (by kernel_rfl) (fun _ _ _ h => h) (Or.inl ⟨by kernel_rfl, ?_⟩) (by assumption) ?_; rotate_left; (intro X hX; (try dsimp only at hX); obtain ⟨r0, r1, s0, s1, t0, t1⟩ := hX; go_simp; first | done | with_reducible rfl); (try simp only [Act.put, List.setIfInBounds_toArray, List.set_cons_zero, List.set_cons_succ])
                refine wpAnyH_take (i := 6) (oi := ⟨some 113, _, _, _, _, _⟩) (v := ?_) rfl (by kernel_rfl) (by kernel_rfl) (by kernel_rfl) (fun _ _ _ h => h) (Or.inl ⟨by kernel_rfl, ?_⟩) (by assumption) ?_; rotate_left; (intro X hX; (try dsimp only at hX); obtain ⟨r0, r1, s0, s1, t0, t1⟩ := hX; go_simp; first | done | with_reducible rfl); (try simp only [Act.put, List.setIfInBounds_toArray, List.set_cons_zero, List.set_cons_succ])
                refine wpAnyH_take (i := 7) (oi := ⟨some 114, _, _, _, _, _⟩) (v := ?_) rfl (by kernel_rfl) (by kernel_rfl) (by kernel_rfl) (fun _ _ _ h => h) (Or.inl ⟨by kernel_rfl, ?_⟩) (by assumption) ?_; rotate_left; (intro X hX; (try dsimp only at hX); obtain ⟨r0, r1, s0, s1, t0, t1⟩ := hX; go_simp; first | done | with_reducible rfl); (try simp only [Act.put, List.setIfInBounds_toArray, List.set_cons_zero, List.set_cons_succ])
                refine wpAnyH_take (i := 8) (oi := ⟨some 115, _, _, _, _, _⟩) (v := ?_) rfl (by kernel_rfl) (by kernel_rfl) (by kernel_rfl) (fun _ _ _ h => h) (Or.inl ⟨by kernel_rfl, ?_⟩) (by assumption) ?_; rotate_left; (intro X hX; (try dsimp only at hX); obtain ⟨r0, r1, s0, s1, t0, t1⟩ := hX; go_simp; first | done | with_reducible rfl); (try simp only [Act.put, List.setIfInBounds_toArray, List.set_cons_zero, List.set_cons_succ])
                refine wpAnyH_take (i := 9) (oi := ⟨some 116, _, _, _, _, _⟩) (v := ?_) rfl (by kernel_rfl) (by kernel_rfl) (by kernel_rfl) (fun _ _ _ h => h) (Or.inl ⟨by kernel_rfl, ?_⟩) (by assumption) ?_; rotate_left; (intro X hX; (try dsimp only at hX); obtain ⟨r0, r1, s0, s1, t0, t1⟩ := hX; go_simp; first | done | with_reducible rfl); (try simp only [Act.put, List.setIfInBounds_toArray, List.set_cons_zero, List.set_cons_succ])
                refine wpAnyH_take (i := 10) (oi := ⟨some 117, _, _, _, _, _⟩) (v := ?_) rfl (by kernel_rfl) (by kernel_rfl) (by kernel_rfl) (fun _ _ _ h => h) (Or.inl ⟨by kernel_rfl, ?_⟩) (by assumption) ?_; rotate_left; (intro X hX; (try dsimp only at hX); obtain ⟨r0, r1, s0, s1, t0, t1⟩ := hX; go_simp; first | done | with_reducible rfl); (try simp only [Act.put, List.setIfInBounds_toArray, List.set_cons_zero, List.set_cons_succ])
                refine wpAnyH_take (i := 11) (oi := ⟨some 118, _, _, _, _, _⟩) (v := ?_) rfl (by kernel_rfl) (by kernel_rfl) (by kernel_rfl) (fun _ _ _ h => h) (Or.inl ⟨by kernel_rfl, ?_⟩) (by assumption) ?_; rotate_left; (intro X hX; (try dsimp only at hX); obtain ⟨r0, r1, s0, s1, t0, t1⟩ := hX; go_simp; first | done | with_reducible rfl); (try simp only [Act.put, List.setIfInBounds_toArray, List.set_cons_zero, List.set_cons_succ])
                refine wpAnyH_take (i := 12) (oi := ⟨some 119, _, _, _, _, _⟩) (v := ?_) rfl (by kernel_rfl) (by kernel_rfl) (by kernel_rfl) (fun _ _ _ h => h) (Or.inl ⟨by kernel_rfl, ?_⟩) (by assumption) ?_; rotate_left; (intro X hX; (try dsimp only at hX); obtain ⟨r0, r1, s0, s1, t0, t1⟩ := hX; go_simp; first | done | with_reducible rfl); (try simp only [Act.put, List.setIfInBounds_toArray, List.set_cons_zero, List.set_cons_succ])
                refine wpAnyH_take (i := 13) (oi := ⟨some 120, _, _, _, _, _⟩) (v := undef) rfl (by kernel_rfl) (by kernel_rfl) (by kernel_rfl) (fun _ _ _ h => h) (Or.inr ⟨by kernel_rfl, rfl⟩) (by assumption) ?_; (try simp only [Act.put, List.setIfInBounds_toArray, List.set_cons_zero, List.set_cons_succ])
                refine wpAnyH_take (i := 14) (oi := ⟨some 121, _, _, _, _, _⟩) (v := undef) rfl (by kernel_rfl) (by kernel_rfl) (by kernel_rfl) (fun _ _ _ h => h) (Or.inr ⟨by kernel_rfl, rfl⟩) (by assumption) ?_; (try simp only [Act.put, List.setIfInBounds_toArray, List.set_cons_zero, List.set_cons_succ])
                refine wpAnyH_take (i := 15) (oi := ⟨some 122, _, _, _, _, _⟩) (v := undef) rfl (by kernel_rfl) (by kernel_rfl) (by kernel_rfl) (fun _ _ _ h => h) (Or.inr ⟨by kernel_rfl, rfl⟩) (by assumption) ?_; (try simp only [Act.put, List.setIfInBounds_toArray, List.set_cons_zero, List.set_cons_succ])
                refine wpAnyH_take (i := 16) (oi := ⟨some 123, _, _, _, _, _⟩) (v := undef) rfl (by kernel_rfl) (by kernel_rfl) (by kernel_rfl) (fun _ _ _ h => h) (Or.inr ⟨by kernel_rfl, rfl⟩) (by assumption) ?_; (try simp only [Act.put, List.setIfInBounds_toArray, List.set_cons_zero, List.set_cons_succ])
                refine wpAnyH_take (i := 17) (oi := ⟨some 124, _, _, _, _, _⟩) (v := undef) rfl (by kernel_rfl) (by kernel_rfl) (by kernel_rfl) (fun _ _ _ h => h) (Or.inr ⟨by kernel_rfl, rfl⟩) (by assumption) ?_; (try simp only [Act.put, List.setIfInBounds_toArray, List.set_cons_zero, List.set_cons_succ])
                refine wpAnyH_take (i := 18) (oi := ⟨some 125, _, _, _, _, _⟩) (v := undef) rfl (by kernel_rfl) (by kernel_rfl) (by kernel_rfl) (fun _ _ _ h => h) (Or.inr ⟨by kernel_rfl, rfl⟩) (by assumption) ?_; (try simp only [Act.put, List.setIfInBounds_toArray, List.set_cons_zero, List.set_cons_succ])
                refine wpAnyH_take (i := 19) (oi := ⟨some 126, _, _, _, _, _⟩) (v := undef) rfl (by kernel_rfl) (by kernel_rfl) (by kernel_rfl) (fun _ _ _ h => h) (Or.inr ⟨by kernel_rfl, rfl⟩) (by assumption) ?_; (try simp only [Act.put, List.setIfInBounds_toArray, List.set_cons_zero, List.set_cons_succ])
                refine wpAnyH_take (i := 20) (oi := ⟨some 127, _, _, _, _, _⟩) (v := undef) rfl (by kernel_rfl) (by kernel_rfl) (by kernel_rfl) (fun _ _ _ h => h) (Or.inr ⟨by kernel_rfl, rfl⟩) (by assumption) ?_; (try simp only [Act.put, List.setIfInBounds_toArray, List.set_cons_zero, List.set_cons_succ])
                refine wpAnyH_take (i := 21) (oi := ⟨some 128, _, _, _, _, _⟩) (v := undef) rfl (by kernel_rfl) (by kernel_rfl) (by kernel_rfl) (fun _ _ _ h => h) (Or.inr ⟨by kernel_rfl, rfl⟩) (by assumption) ?_; (try simp only [Act.put, List.setIfInBounds_toArray, List.set_cons_zero, List.set_cons_succ])
                refine wpAnyH_take (i := 22) (oi := ⟨some 129, _, _, _, _, _⟩) (v := undef) rfl (by kernel_rfl) (by kernel_rfl) (by kernel_rfl) (fun _ _ _ h => h) (Or.inr ⟨by kernel_rfl, rfl⟩) (by assumption) ?_; (try simp only [Act.put, List.setIfInBounds_toArray, List.set_cons_zero, List.set_cons_succ])
                refine wpAnyH_take (i := 23) (oi := ⟨some 130, _, _, _, _, _⟩) (v := undef) rfl (by kernel_rfl) (by kernel_rfl) (by kernel_rfl) (fun _ _ _ h => h) (Or.inr ⟨by kernel_rfl, rfl⟩) (by assumption) ?_; (try simp only [Act.put, List.setIfInBounds_toArray, List.set_cons_zero, List.set_cons_succ])
                refine wpAnyH_take (i := 24) (oi := ⟨some 131, _, _, _, _, _⟩) (v := undef) rfl (by kernel_rfl) (by kernel_rfl) (by kernel_rfl) (fun _ _ _ h => h) (Or.inr ⟨by kernel_rfl, rfl⟩) (by assumption) ?_; (try simp only [Act.put, List.setIfInBounds_toArray, List.set_cons_zero, List.set_cons_succ])
                refine wpAnyH_take (i := 25) (oi := ⟨some 132, _, _, _, _, _⟩) (v := undef) rfl (by kernel_rfl) (by kernel_rfl) (by kernel_rfl) (fun _ _ _ h => h) (Or.inr ⟨by kernel_rfl, rfl⟩) (by assumption) ?_; (try simp only [Act.put, List.setIfInBounds_toArray, List.set_cons_zero, List.set_cons_succ])
                refine wpAnyH_take (i := 26) (oi := ⟨some 133, _, _, _, _, _⟩) (v := undef) rfl (by kernel_rfl) (by kernel_rfl) (by kernel_rfl) (fun _ _ _ h => h) (Or.inr ⟨by kernel_rfl, rfl⟩) (by assumption) ?_; (try simp only [Act.put, List.setIfInBounds_toArray, List.set_cons_zero, List.set_cons_succ])
                refine wpAnyH_take (i := 27) (oi := ⟨some 134, _, _, _, _, _⟩) (v := undef) rfl (by kernel_rfl) (by kernel_rfl) (by kernel_rfl) (fun _ _ _ h => h) (Or.inr ⟨by kernel_rfl, rfl⟩) (by assumption) ?_; (try simp only [Act.put, List.setIfInBounds_toArray, List.set_cons_zero, List.set_cons_succ])
                refine wpAnyH_take (i := 28) (oi := ⟨some 135, _, _, _, _, _⟩) (v := undef) rfl (by kernel_rfl) (by kernel_rfl) (by kernel_rfl) (fun _ _ _ h => h) (Or.inr ⟨by kernel_rfl, rfl⟩) (by assumption) ?_; (try simp only [Act.put, List.setIfInBounds_toArray, List.set_cons_zero, List.set_cons_succ])
                refine wpAnyH_take (i := 29) (oi := ⟨some 136, _, _, _, _, _⟩) (v := undef) rfl (by kernel_rfl) (by kernel_rfl) (by kernel_rfl) (fun _ _ _ h => h) (Or.inr ⟨by kernel_rfl, rfl⟩) (by assumption) ?_; (try simp only [Act.put, List.setIfInBounds_toArray, List.set_cons_zero, List.set_cons_succ])
                refine wpAnyH_take (i := 30) (oi := ⟨some 137, _, _, _, _, _⟩) (v := undef) rfl (by kernel_rfl) (by kernel_rfl) (by kernel_rfl) (fun _ _ _ h => h) (Or.inr ⟨by kernel_rfl, rfl⟩) (by assumption) ?_; (try simp only [Act.put, List.setIfInBounds_toArray, List.set_cons_zero, List.set_cons_succ])
                refine wpAnyH_take (i := 31) (oi := ⟨some 138, _, _, _, _, _⟩) (v := undef) rfl (by kernel_rfl) (by kernel_rfl) (by kernel_rfl) (fun _ _ _ h => h) (Or.inr ⟨by kernel_rfl, rfl⟩) (by assumption) ?_; (try simp only [Act.put, List.setIfInBounds_toArray, List.set_cons_zero, List.set_cons_succ])
                refine wpAnyH_take (i := 32) (oi := ⟨some 139, _, _, _, _, _⟩) (v := undef) rfl (by kernel_rfl) (by kernel_rfl) (by kernel_rfl) (fun _ _ _ h => h) (Or.inr ⟨by kernel_rfl, rfl⟩) (by assumption) ?_; (try simp only [Act.put, List.setIfInBounds_toArray, List.set_cons_zero, List.set_cons_succ])
                refine wpAnyH_take (i := 33) (oi := ⟨some 140, _, _, _, _, _⟩) (v := undef) rfl (by kernel_rfl) (by kernel_rfl) (by kernel_rfl) (fun _ _ _ h => h) (Or.inr ⟨by kernel_rfl, rfl⟩) (by assumption) ?_; (try simp only [Act.put, List.setIfInBounds_toArray, List.set_cons_zero, List.set_cons_succ])
                refine wpAnyH_take (i := 34) (oi := ⟨some 141, _, _, _, _, _⟩) (v := undef) rfl (by kernel_rfl) (by kernel_rfl) (by kernel_rfl) (fun _ _ _ h => h) (Or.inr ⟨by kernel_rfl, rfl⟩) (by assumption) ?_; (try simp only [Act.put, List.setIfInBounds_toArray, List.set_cons_zero, List.set_cons_succ])
                refine wpAnyH_take (i := 35) (oi := ⟨some 142, _, _, _, _, _⟩) (v := undef) rfl (by kernel_rfl) (by kernel_rfl) (by kernel_rfl) (fun _ _ _ h => h) (Or.inr ⟨by kernel_rfl, rfl⟩) (by assumption) ?_; (try simp only [Act.put, List.setIfInBounds_toArray, List.set_cons_zero, List.set_cons_succ])
                refine wpAnyH_take (i := 36) (oi := ⟨some 143, _, _, _, _, _⟩) (v := ?_) rfl (by kernel_rfl) (by kernel_rfl) (by kernel_rfl) (fun _ _ _ h => h) (Or.inl ⟨by kernel_rfl, ?_⟩) (by assumption) ?_; rotate_left; (intro X hX; (try dsimp only at hX); obtain ⟨r0, r1, s0, s1, t0, t1⟩ := hX; go_simp; first | done | with_reducible rfl); (try simp only [Act.put, List.setIfInBounds_toArray, List.set_cons_zero, List.set_cons_succ])
                refine wpAnyH_done (by kernel_rfl) ?_ _
                clear hS0
                go_wp2_with fail
                go_roundw
                case rel => exact ⟨j3 + 1, by omega, by go_num, HBD⟩
                case measure => simp [intOf]; omega
              | true =>
                obtain ⟨a2, rfl, ha2, rfl⟩ := HCELL2.out rfl
                by_cases hne : a = a2
                · subst hne
                  obtain ⟨ti, hti'⟩ : ∃ ti, ti = PL.idxOf a := ⟨_, rfl⟩
                  rw [← hti'] at hti htk
                  clear hti' ha ha2
                  go_upto_region 20 with fail
                  have hdr : Below wr.heap.size wr wr.drew := ⟨rfl, rfl, rfl, Nat.le_refl _, fun _ _ => rfl⟩
                  have HBD : Hid (Below W6.heap.size W6 wr.drew) := HBR.out.trans (hdr.mono HBR.out.size)
                  have hS0 : (fun V => V.cell? (ad.add (j * 7)) = some (.bool true) ∧ V.cell? ⟨(ad.add (j * 7)).block, (ad.add (j * 7)).off + 1, none⟩ = some (.int .i64 (a : Int)) ∧ V.cell? (ad.add (j3 * 7)) = some (.bool true) ∧ V.cell? ⟨(ad.add (j3 * 7)).block, (ad.add (j3 * 7)).off + 1, none⟩ = some (.int .i64 (a : Int)) ∧ V.cell? ⟨g, j * 7 + 1, none⟩ = some (.int .i64 (ti : Int)) ∧ V.cell? ⟨g, j3 * 7 + 1, none⟩ = some (.int .i64 (ti : Int))) wr.drew := ⟨hri.1, hri.2.1, hrk.1, hrk.2.1, hti, htk⟩
                  refine wp_region_held (S := fun V => V.cell? (ad.add (j * 7)) = some (.bool true) ∧ V.cell? ⟨(ad.add (j * 7)).block, (ad.add (j * 7)).off + 1, none⟩ = some (.int .i64 (a : Int)) ∧ V.cell? (ad.add (j3 * 7)) = some (.bool true) ∧ V.cell? ⟨(ad.add (j3 * 7)).block, (ad.add (j3 * 7)).off + 1, none⟩ = some (.int .i64 (a : Int)) ∧ V.cell? ⟨g, j * 7 + 1, none⟩ = some (.int .i64 (ti : Int)) ∧ V.cell? ⟨g, j3 * 7 + 1, none⟩ = some (.int .i64 (ti : Int))) (by kernel_rfl) ?_
                  show wpAnyH _ _ _ _ _ _ _ _ wr.drew
                  clear hdr hri hrk hti htk
                  generalize wr.drew = D at hS0 HBD ⊢
                  refine wpAnyH_take (i := 0) (oi := ⟨some 107, _, _, _, _, _⟩) (v := ?_) rfl (by kernel_rfl) (by kernel_rfl) (by kernel_rfl) (fun _ _ _ h => h) (Or.inl ⟨by kernel_rfl, ?_⟩) (by assumption) ?_; rotate_left; (intro X hX; (try dsimp only at hX); obtain ⟨r0, r1, s0, s1, t0, t1⟩ := hX; go_simp; first | done | with_reducible rfl); (try simp only [Act.put, List.setIfInBounds_toArray, List.set_cons_zero, List.set_cons_succ])
                  refine wpAnyH_take (i := 1) (oi := ⟨some 108, _, _, _, _, _⟩) (v := ?_) rfl (by kernel_rfl) (by kernel_rfl) (by kernel_rfl) (fun _ _ _ h => h) (Or.inl ⟨by kernel_rfl, ?_⟩) (by assumption) ?_; rotate_left; (intro X hX; (try dsimp only at hX); obtain ⟨r0, r1, s0, s1, t0, t1⟩ := hX; go_simp; first | done | with_reducible rfl); (try simp only [Act.put, List.setIfInBounds_toArray, List.set_cons_zero, List.set_cons_succ])
                  refine wpAnyH_take (i := 2) (oi := ⟨some 109, _, _, _, _, _⟩) (v := ?_) rfl (by kernel_rfl) (by kernel_rfl) (by kernel_rfl) (fun _ _ _ h => h) (Or.inl ⟨by kernel_rfl, ?_⟩) (by assumption) ?_; rotate_left; (intro X hX; (try dsimp only at hX); obtain ⟨r0, r1, s0, s1, t0, t1⟩ := hX; go_simp; first | done | with_reducible rfl); (try simp only [Act.put, List.setIfInBounds_toArray, List.set_cons_zero, List.set_cons_succ])
                  refine wpAnyH_take (i := 3) (oi := ⟨some 110, _, _, _, _, _⟩) (v := ?_) rfl (by kernel_rfl) (by kernel_rfl) (by kernel_rfl) (fun _ _ _ h => h) (Or.inl ⟨by kernel_rfl, ?_⟩) (by assumption) ?_; rotate_left; (intro X hX; (try dsimp only at hX); obtain ⟨r0, r1, s0, s1, t0, t1⟩ := hX; go_simp; first | done | with_reducible rfl); (try simp only [Act.put, List.setIfInBounds_toArray, List.set_cons_zero, List.set_cons_succ])
                  refine wpAnyH_take (i := 4) (oi := ⟨some 111, _, _, _, _, _⟩) (v := ?_) rfl (by kernel_rfl) (by kernel_rfl) (by kernel_rfl) (fun _ _ _ h => h) (Or.inl ⟨by kernel_rfl, ?_⟩) (by assumption) ?_; rotate_left; (intro X hX; (try dsimp only at hX); obtain ⟨r0, r1, s0, s1, t0, t1⟩ := hX; go_simp; first | done | with_reducible rfl); (try simp only [Act.put, List.setIfInBounds_toArray, List.set_cons_zero, List.set_cons_succ])
                  refine wpAnyH_take (i := 5) (oi := ⟨some 112, _, _, _, _, _⟩) (v := ?_) rfl (by kernel_rfl) (by kernel_rfl) (by kernel_rfl) (fun _ _ _ h => h) (Or.inl ⟨by kernel_rfl, ?_⟩) (by assumption) ?_; rotate_left; (intro X hX; (try dsimp only at hX); obtain ⟨r0, r1, s0, s1, t0, t1⟩ := hX; go_simp; first | done | with_reducible rfl); (try simp only [Act.put, List.setIfInBounds_toArray, List.set_cons_zero, List.set_cons_succ])
                  refine wpAnyH_take (i := 6) (oi := ⟨some 113, _, _, _, _, _⟩) (v := ?_) rfl (by kernel_rfl) (by kernel_rfl) (by kernel_rfl) (fun _ _ _ h => h) (Or.inl ⟨by kernel_rfl, ?_⟩) (by assumption) ?_; rotate_left; (intro X hX; (try dsimp only at hX); obtain ⟨r0, r1, s0, s1, t0, t1⟩ := hX; go_simp; first | done | with_reducible rfl); (try simp only [Act.put, List.setIfInBounds_toArray, List.set_cons_zero, List.set_cons_succ])
                  refine wpAnyH_take (i := 7) (oi := ⟨some 114, _, _, _, _, _⟩) (v := ?_) rfl (by kernel_rfl) (by kernel_rfl) (by kernel_rfl) (fun _ _ _ h => h) (Or.inl ⟨by kernel_rfl, ?_⟩) (by assumption) ?_; rotate_left; (intro X hX; (try dsimp only at hX); obtain ⟨r0, r1, s0, s1, t0, t1⟩ := hX; go_simp; first | done | with_reducible rfl); (try simp only [Act.put, List.setIfInBounds_toArray, List.set_cons_zero, List.set_cons_succ])
                  refine wpAnyH_take (i := 8) (oi := ⟨some 115, _, _, _, _, _⟩) (v := ?_) rfl (by kernel_rfl) (by kernel_rfl) (by kernel_rfl) (fun _ _ _ h => h) (Or.inl ⟨by kernel_rfl, ?_⟩) (by assumption) ?_; rotate_left; (intro X hX; (try dsimp only at hX); obtain ⟨r0, r1, s0, s1, t0, t1⟩ := hX; go_simp; first | done | with_reducible rfl); (try simp only [Act.put, List.setIfInBounds_toArray, List.set_cons_zero, List.set_cons_succ])
                  refine wpAnyH_take (i := 9) (oi := ⟨some 116, _, _, _, _, _⟩) (v := ?_) rfl (by kernel_rfl) (by kernel_rfl) (by kernel_rfl) (fun _ _ _ h => h) (Or.inl ⟨by kernel_rfl, ?_⟩) (by assumption) ?_; rotate_left; (intro X hX; (try dsimp only at hX); obtain ⟨r0, r1, s0, s1, t0, t1⟩ := hX; go_simp; first | done | with_reducible rfl); (try simp only [Act.put, List.setIfInBounds_toArray, List.set_cons_zero, List.set_cons_succ])
                  refine wpAnyH_take (i := 10) (oi := ⟨some 117, _, _, _, _, _⟩) (v := ?_) rfl (by kernel_rfl) (by kernel_rfl) (by kernel_rfl) (fun _ _ _ h => h) (Or.inl ⟨by kernel_rfl, ?_⟩) (by assumption) ?_; rotate_left; (intro X hX; (try dsimp only at hX); obtain ⟨r0, r1, s0, s1, t0, t1⟩ := hX; go_simp; first | done | with_reducible rfl); (try simp only [Act.put, List.setIfInBounds_toArray, List.set_cons_zero, List.set_cons_succ])
                  refine wpAnyH_take (i := 11) (oi := ⟨some 118, _, _, _, _, _⟩) (v := ?_) rfl (by kernel_rfl) (by kernel_rfl) (by kernel_rfl) (fun _ _ _ h => h) (Or.inl ⟨by kernel_rfl, ?_⟩) (by assumption) ?_; rotate_left; (intro X hX; (try dsimp only at hX); obtain ⟨r0, r1, s0, s1, t0, t1⟩ := hX; go_simp; first | done | with_reducible rfl); (try simp only [Act.put, List.setIfInBounds_toArray, List.set_cons_zero, List.set_cons_succ])
                  refine wpAnyH_take (i := 12) (oi := ⟨some 119, _, _, _, _, _⟩) (v := ?_) rfl (by kernel_rfl) (by kernel_rfl) (by kernel_rfl) (fun _ _ _ h => h) (Or.inl ⟨by kernel_rfl, ?_⟩) (by assumption) ?_; rotate_left; (intro X hX; (try dsimp only at hX); obtain ⟨r0, r1, s0, s1, t0, t1⟩ := hX; go_simp; first | done | with_reducible rfl); (try simp only [Act.put, List.setIfInBounds_toArray, List.set_cons_zero, List.set_cons_succ])
                  refine wpAnyH_take (i := 13) (oi := ⟨some 120, _, _, _, _, _⟩) (v := ?_) rfl (by kernel_rfl) (by kernel_rfl) (by kernel_rfl) (fun _ _ _ h => h) (Or.inl ⟨by kernel_rfl, ?_⟩) (by assumption) ?_; rotate_left; (intro X hX; (try dsimp only at hX); obtain ⟨r0, r1, s0, s1, t0, t1⟩ := hX; go_simp; first | done | with_reducible rfl); (try simp only [Act.put, List.setIfInBounds_toArray, List.set_cons_zero, List.set_cons_succ])
                  refine wpAnyH_take (i := 14) (oi := ⟨some 121, _, _, _, _, _⟩) (v := ?_) rfl (by kernel_rfl) (by kernel_rfl) (by kernel_rfl) (fun _ _ _ h => h) (Or.inl ⟨by kernel_rfl, ?_⟩) (by assumption) ?_; rotate_left; (intro X hX; (try dsimp only at hX); obtain ⟨r0, r1, s0, s1, t0, t1⟩ := hX; go_simp; first | done | with_reducible rfl); (try simp only [Act.put, List.setIfInBounds_toArray, List.set_cons_zero, List.set_cons_succ])
                  refine wpAnyH_take (i := 15) (oi := ⟨some 122, _, _, _, _, _⟩) (v := ?_) rfl (by kernel_rfl) (by kernel_rfl) (by kernel_rfl) (fun _ _ _ h => h) (Or.inl ⟨by kernel_rfl, ?_⟩) (by assumption) ?_; rotate_left; (intro X hX; (try dsimp only at hX); obtain ⟨r0, r1, s0, s1, t0, t1⟩ := hX; go_simp; first | done | with_reducible rfl); (try simp only [Act.put, List.setIfInBounds_toArray, List.set_cons_zero, List.set_cons_succ])
                  refine wpAnyH_take (i := 16) (oi := ⟨some 123, _, _, _, _, _⟩) (v := ?_) rfl (by kernel_rfl) (by kernel_rfl) (by kernel_rfl) (fun _ _ _ h => h) (Or.inl ⟨by kernel_rfl, ?_⟩) (by assumption) ?_; rotate_left; (intro X hX; (try dsimp only at hX); obtain ⟨r0, r1, s0, s1, t0, t1⟩ := hX; go_simp; first | done | with_reducible rfl); (try simp only [Act.put, List.setIfInBounds_toArray, List.set_cons_zero, List.set_cons_succ])
                  refine wpAnyH_take (i := 17) (oi := ⟨some 124, _, _, _, _, _⟩) (v := ?_) rfl (by kernel_rfl) (by kernel_rfl) (by kernel_rfl) (fun _ _ _ h => h) (Or.inl ⟨by kernel_rfl, ?_⟩) (by assumption) ?_; rotate_left; (intro X hX; (try dsimp only at hX); obtain ⟨r0, r1, s0, s1, t0, t1⟩ := hX; go_simp; first | done | with_reducible rfl); (try simp only [Act.put, List.setIfInBounds_toArray, List.set_cons_zero, List.set_cons_succ])
                  refine wpAnyH_take (i := 18) (oi := ⟨some 125, _, _, _, _, _⟩) (v := ?_) rfl (by kernel_rfl) (by kernel_rfl) (by kernel_rfl) (fun _ _ _ h => h) (Or.inl ⟨by kernel_rfl, ?_⟩) (by assumption) ?_; rotate_left; (intro X hX; (try dsimp only at hX); obtain ⟨r0, r1, s0, s1, t0, t1⟩ := hX; go_simp; first | done | with_reducible rfl); (try simp only [Act.put, List.setIfInBounds_toArray, List.set_cons_zero, List.set_cons_succ])
                  refine wpAnyH_take (i := 19) (oi := ⟨some 126, _, _, _, _, _⟩) (v := ?_) rfl (by kernel_rfl) (by kernel_rfl) (by kernel_rfl) (fun _ _ _ h => h) (Or.inl ⟨by kernel_rfl, ?_⟩) (by assumption) ?_; rotate_left; (intro X hX; (try dsimp only at hX); obtain ⟨r0, r1, s0, s1, t0, t1⟩ := hX; go_simp; first | done | with_reducible rfl); (try simp only [Act.put, List.setIfInBounds_toArray, List.set_cons_zero, List.set_cons_succ])
                  refine wpAnyH_take (i := 20) (oi := ⟨some 127, _, _, _, _, _⟩) (v := ?_) rfl (by kernel_rfl) (by kernel_rfl) (by kernel_rfl) (fun _ _ _ h => h) (Or.inl ⟨by kernel_rfl, ?_⟩) (by assumption) ?_; rotate_left; (intro X hX; (try dsimp only at hX); obtain ⟨r0, r1, s0, s1, t0, t1⟩ := hX; go_simp; first | done | with_reducible rfl); (try simp only [Act.put, List.setIfInBounds_toArray, List.set_cons_zero, List.set_cons_succ])
                  refine wpAnyH_take (i := 21) (oi := ⟨some 128, _, _, _, _, _⟩) (v := ?_) rfl (by kernel_rfl) (by kernel_rfl) (by kernel_rfl) (fun _ _ _ h => h) (Or.inl ⟨by kernel_rfl, ?_⟩) (by assumption) ?_; rotate_left; (intro X hX; (try dsimp only at hX); obtain ⟨r0, r1, s0, s1, t0, t1⟩ := hX; go_simp; first | done | with_reducible rfl); (try simp only [Act.put, List.setIfInBounds_toArray, List.set_cons_zero, List.set_cons_succ])
                  refine wpAnyH_take (i := 22) (oi := ⟨some 129, _, _, _, _, _⟩) (v := ?_) rfl (by kernel_rfl) (by kernel_rfl) (by kernel_rfl) (fun _ _ _ h => h) (Or.inl ⟨by kernel_rfl, ?_⟩) (by assumption) ?_; rotate_left; (intro X hX; (try dsimp only at hX); obtain ⟨r0, r1, s0, s1, t0, t1⟩ := hX; go_simp; first | done | with_reducible rfl); (try simp only [Act.put, List.setIfInBounds_toArray, List.set_cons_zero, List.set_cons_succ])
                  refine wpAnyH_take (i := 23) (oi := ⟨some 130, _, _, _, _, _⟩) (v := ?_) rfl (by kernel_rfl) (by kernel_rfl) (by kernel_rfl) (fun _ _ _ h => h) (Or.inl ⟨by kernel_rfl, ?_⟩) (by assumption) ?_; rotate_left; (intro X hX; (try dsimp only at hX); obtain ⟨r0, r1, s0, s1, t0, t1⟩ := hX; go_simp; first | done | with_reducible rfl); (try simp only [Act.put, List.setIfInBounds_toArray, List.set_cons_zero, List.set_cons_succ])
                  refine wpAnyH_take (i := 24) (oi := ⟨some 131, _, _, _, _, _⟩) (v := ?_) rfl (by kernel_rfl) (by kernel_rfl) (by kernel_rfl) (fun _ _ _ h => h) (Or.inl ⟨by kernel_rfl, ?_⟩) (by assumption) ?_; rotate_left; (intro X hX; (try dsimp only at hX); obtain ⟨r0, r1, s0, s1, t0, t1⟩ := hX; go_simp; first | done | with_reducible rfl); (try simp only [Act.put, List.setIfInBounds_toArray, List.set_cons_zero, List.set_cons_succ])
                  refine wpAnyH_take (i := 25) (oi := ⟨some 132, _, _, _, _, _⟩) (v := ?_) rfl (by kernel_rfl) (by kernel_rfl) (by kernel_rfl) (fun _ _ _ h => h) (Or.inl ⟨by kernel_rfl, ?_⟩) (by assumption) ?_; rotate_left; (intro X hX; (try dsimp only at hX); obtain ⟨r0, r1, s0, s1, t0, t1⟩ := hX; go_simp; first | done | with_reducible rfl); (try simp only [Act.put, List.setIfInBounds_toArray, List.set_cons_zero, List.set_cons_succ])
                  refine wpAnyH_take (i := 26) (oi := ⟨some 133, _, _, _, _, _⟩) (v := ?_) rfl (by kernel_rfl) (by kernel_rfl) (by kernel_rfl) (fun _ _ _ h => h) (Or.inl ⟨by kernel_rfl, ?_⟩) (by assumption) ?_; rotate_left; (intro X hX; (try dsimp only at hX); obtain ⟨r0, r1, s0, s1, t0, t1⟩ := hX; go_simp; first | done | with_reducible rfl); (try simp only [Act.put, List.setIfInBounds_toArray, List.set_cons_zero, List.set_cons_succ])
                  refine wpAnyH_take (i := 27) (oi := ⟨some 134, _, _, _, _, _⟩) (v := ?_) rfl (by kernel_rfl) (by kernel_rfl) (by kernel_rfl) (fun _ _ _ h => h) (Or.inl ⟨by kernel_rfl, ?_⟩) (by assumption) ?_; rotate_left; (intro X hX; (try dsimp only at hX); obtain ⟨r0, r1, s0, s1, t0, t1⟩ := hX; go_simp; first | done | with_reducible rfl); (try simp only [Act.put, List.setIfInBounds_toArray, List.set_cons_zero, List.set_cons_succ])
                  refine wpAnyH_take (i := 28) (oi := ⟨some 135, _, _, _, _, _⟩) (v := ?_) rfl (by kernel_rfl) (by kernel_rfl) (by kernel_rfl) (fun _ _ _ h => h) (Or.inl ⟨by kernel_rfl, ?_⟩) (by assumption) ?_; rotate_left; (intro X hX; (try dsimp only at hX); obtain ⟨r0, r1, s0, s1, t0, t1⟩ := hX; go_simp; first | done | with_reducible rfl); (try simp only [Act.put, List.setIfInBounds_toArray, List.set_cons_zero, List.set_cons_succ])
                  refine wpAnyH_take (i := 29) (oi := ⟨some 136, _, _, _, _, _⟩) (v := ?_) rfl (by kernel_rfl) (by kernel_rfl) (by kernel_rfl) (fun _ _ _ h => h) (Or.inl ⟨by kernel_rfl, ?_⟩) (by assumption) ?_; rotate_left; (intro X hX; (try dsimp only at hX); obtain ⟨r0, r1, s0, s1, t0, t1⟩ := hX; go_simp; first | done | with_reducible rfl); (try simp only [Act.put, List.setIfInBounds_toArray, List.set_cons_zero, List.set_cons_succ])
                  refine wpAnyH_take (i := 30) (oi := ⟨some 137, _, _, _, _, _⟩) (v := ?_) rfl (by kernel_rfl) (by kernel_rfl) (by kernel_rfl) (fun _ _ _ h => h) (Or.inl ⟨by kernel_rfl, ?_⟩) (by assumption) ?_; rotate_left; (intro X hX; (try dsimp only at hX); obtain ⟨r0, r1, s0, s1, t0, t1⟩ := hX; go_simp; first | done | with_reducible rfl); (try simp only [Act.put, List.setIfInBounds_toArray, List.set_cons_zero, List.set_cons_succ])
                  refine wpAnyH_take (i := 31) (oi := ⟨some 138, _, _, _, _, _⟩) (v := ?_) rfl (by kernel_rfl) (by kernel_rfl) (by kernel_rfl) (fun _ _ _ h => h) (Or.inl ⟨by kernel_rfl, ?_⟩) (by assumption) ?_; rotate_left; (intro X hX; (try dsimp only at hX); obtain ⟨r0, r1, s0, s1, t0, t1⟩ := hX; go_simp; first | done | with_reducible rfl); (try simp only [Act.put, List.setIfInBounds_toArray, List.set_cons_zero, List.set_cons_succ])
                  refine wpAnyH_take (i := 32) (oi := ⟨some 139, _, _, _, _, _⟩) (v := ?_) rfl (by kernel_rfl) (by kernel_rfl) (by kernel_rfl) (fun _ _ _ h => h) (Or.inl ⟨by kernel_rfl, ?_⟩) (by assumption) ?_; rotate_left; (intro X hX; (try dsimp only at hX); obtain ⟨r0, r1, s0, s1, t0, t1⟩ := hX; go_simp; first | done | with_reducible rfl); (try simp only [Act.put, List.setIfInBounds_toArray, List.set_cons_zero, List.set_cons_succ])
                  refine wpAnyH_take (i := 33) (oi := ⟨some 140, _, _, _, _, _⟩) (v := ?_) rfl (by kernel_rfl) (by kernel_rfl) (by kernel_rfl) (fun _ _ _ h => h) (Or.inl ⟨by kernel_rfl, ?_⟩) (by assumption) ?_; rotate_left; (intro X hX; (try dsimp only at hX); obtain ⟨r0, r1, s0, s1, t0, t1⟩ := hX; go_simp; first | done | with_reducible rfl); (try simp only [Act.put, List.setIfInBounds_toArray, List.set_cons_zero, List.set_cons_succ])
                  refine wpAnyH_take (i := 34) (oi := ⟨some 141, _, _, _, _, _⟩) (v := ?_) rfl (by kernel_rfl) (by kernel_rfl) (by kernel_rfl) (fun _ _ _ h => h) (Or.inl ⟨by kernel_rfl, ?_⟩) (by assumption) ?_; rotate_left; (intro X hX; (try dsimp only at hX); obtain ⟨r0, r1, s0, s1, t0, t1⟩ := hX; go_simp; first | done | with_reducible rfl); (try simp only [Act.put, List.setIfInBounds_toArray, List.set_cons_zero, List.set_cons_succ])
                  refine wpAnyH_take (i := 35) (oi := ⟨some 142, _, _, _, _, _⟩) (v := ?_) rfl (by kernel_rfl) (by kernel_rfl) (by kernel_rfl) (fun _ _ _ h => h) (Or.inl ⟨by kernel_rfl, ?_⟩) (by assumption) ?_; rotate_left; (intro X hX; (try dsimp only at hX); obtain ⟨r0, r1, s0, s1, t0, t1⟩ := hX; go_simp; first | done | with_reducible rfl); (try simp only [Act.put, List.setIfInBounds_toArray, List.set_cons_zero, List.set_cons_succ])
                  refine wpAnyH_take (i := 36) (oi := ⟨some 143, _, _, _, _, _⟩) (v := ?_) rfl (by kernel_rfl) (by kernel_rfl) (by kernel_rfl) (fun _ _ _ h => h) (Or.inl ⟨by kernel_rfl, ?_⟩) (by assumption) ?_; rotate_left; (intro X hX; (try dsimp only at hX); obtain ⟨r0, r1, s0, s1, t0, t1⟩ := hX; go_simp; first | done | with_reducible rfl); (try simp only [Act.put, List.setIfInBounds_toArray, List.set_cons_zero, List.set_cons_succ])
                  refine wpAnyH_done (by kernel_rfl) ?_ _
                  clear hS0
                  go_wp2_with fail
                  go_roundw
                  case rel => exact ⟨j3 + 1, by omega, by go_num, HBD⟩
                  case measure => simp [intOf]; omega
                · have hni : PL.idxOf a ≠ PL.idxOf a2 := fun e => by
                    have h1 := idx_at ha
                    rw [e, idx_at ha2] at h1
                    exact hne (Option.some.inj h1).symm
                  obtain ⟨ti, hti'⟩ : ∃ ti, ti = PL.idxOf a := ⟨_, rfl⟩
                  obtain ⟨tk, htk'⟩ : ∃ tk, tk = PL.idxOf a2 := ⟨_, rfl⟩
                  rw [← hti'] at hti hni
                  rw [← htk'] at htk hni
                  have hd1 : ¬ ((ti : Int) = (tk : Int)) := by omega
                  have hd2 : ¬ ((a : Int) = (a2 : Int)) := by omega
                  have hb1 : ((ti : Int) == (tk : Int)) = false := by simpa using hd1
                  have hb2 : ((a : Int) == (a2 : Int)) = false := by simpa using hd2
                  clear hti' htk' ha ha2 hni hne
                  go_upto_region 20 with fail
                  have hdr : Below wr.heap.size wr wr.drew := ⟨rfl, rfl, rfl, Nat.le_refl _, fun _ _ => rfl⟩
                  have HBD : Hid (Below W6.heap.size W6 wr.drew) := HBR.out.trans (hdr.mono HBR.out.size)
                  have hS0 : (fun V => V.cell? (ad.add (j * 7)) = some (.bool true) ∧ V.cell? ⟨(ad.add (j * 7)).block, (ad.add (j * 7)).off + 1, none⟩ = some (.int .i64 (a : Int)) ∧ V.cell? (ad.add (j3 * 7)) = some (.bool true) ∧ V.cell? ⟨(ad.add (j3 * 7)).block, (ad.add (j3 * 7)).off + 1, none⟩ = some (.int .i64 (a2 : Int)) ∧ V.cell? ⟨g, j * 7 + 1, none⟩ = some (.int .i64 (ti : Int)) ∧ V.cell? ⟨g, j3 * 7 + 1, none⟩ = some (.int .i64 (tk : Int))) wr.drew := ⟨hri.1, hri.2.1, hrk.1, hrk.2.1, hti, htk⟩
                  refine wp_region_held (S := fun V => V.cell? (ad.add (j * 7)) = some (.bool true) ∧ V.cell? ⟨(ad.add (j * 7)).block, (ad.add (j * 7)).off + 1, none⟩ = some (.int .i64 (a : Int)) ∧ V.cell? (ad.add (j3 * 7)) = some (.bool true) ∧ V.cell? ⟨(ad.add (j3 * 7)).block, (ad.add (j3 * 7)).off + 1, none⟩ = some (.int .i64 (a2 : Int)) ∧ V.cell? ⟨g, j * 7 + 1, none⟩ = some (.int .i64 (ti : Int)) ∧ V.cell? ⟨g, j3 * 7 + 1, none⟩ = some (.int .i64 (tk : Int))) (by kernel_rfl) ?_
                  show wpAnyH _ _ _ _ _ _ _ _ wr.drew
                  clear hdr hri hrk hti htk
                  generalize wr.drew = D at hS0 HBD ⊢
                  refine wpAnyH_take (i := 0) (oi := ⟨some 107, _, _, _, _, _⟩) (v := ?_) rfl (by kernel_rfl) (by kernel_rfl) (by kernel_rfl) (fun _ _ _ h => h) (Or.inl ⟨by kernel_rfl, ?_⟩) (by assumption) ?_; rotate_left; (intro X hX; (try dsimp only at hX); obtain ⟨r0, r1, s0, s1, t0, t1⟩ := hX; go_simp; first | done | with_reducible rfl); (try simp only [Act.put, List.setIfInBounds_toArray, List.set_cons_zero, List.set_cons_succ])
                  refine wpAnyH_take (i := 1) (oi := ⟨some 108, _, _, _, _, _⟩) (v := ?_) rfl (by kernel_rfl) (by kernel_rfl) (by kernel_rfl) (fun _ _ _ h => h) (Or.inl ⟨by kernel_rfl, ?_⟩) (by assumption) ?_; rotate_left; (intro X hX; (try dsimp only at hX); obtain ⟨r0, r1, s0, s1, t0, t1⟩ := hX; go_simp; first | done | with_reducible rfl); (try simp only [Act.put, List.setIfInBounds_toArray, List.set_cons_zero, List.set_cons_succ])
                  refine wpAnyH_take (i := 2) (oi := ⟨some 109, _, _, _, _, _⟩) (v := ?_) rfl (by kernel_rfl) (by kernel_rfl) (by kernel_rfl) (fun _ _ _ h => h) (Or.inl ⟨by kernel_rfl, ?_⟩) (by assumption) ?_; rotate_left; (intro X hX; (try dsimp only at hX); obtain ⟨r0, r1, s0, s1, t0, t1⟩ := hX; go_simp; first | done | with_reducible rfl); (try simp only [Act.put, List.setIfInBounds_toArray, List.set_cons_zero, List.set_cons_succ])
                  refine wpAnyH_take (i := 3) (oi := ⟨some 110, _, _, _, _, _⟩) (v := ?_) rfl (by kernel_rfl) (by kernel_rfl) (by kernel_rfl) (fun _ _ _ h => h) (Or.inl ⟨by kernel_rfl, ?_⟩) (by assumption) ?_; rotate_left; (intro X hX; (try dsimp only at hX); obtain ⟨r0, r1, s0, s1, t0, t1⟩ := hX; go_simp; first | done | with_reducible rfl); (try simp only [Act.put, List.setIfInBounds_toArray, List.set_cons_zero, List.set_cons_succ])
                  refine wpAnyH_take (i := 4) (oi := ⟨some 111, _, _, _, _, _⟩) (v := ?_) rfl (by kernel_rfl) (by kernel_rfl) (by kernel_rfl) (fun _ _ _ h => h) (Or.inl ⟨by kernel_rfl, ?_⟩) (by assumption) ?_; rotate_left; (intro X hX; (try dsimp only at hX); obtain ⟨r0, r1, s0, s1, t0, t1⟩ := hX; go_simp; first | done | with_reducible rfl); (try simp only [Act.put, List.setIfInBounds_toArray, List.set_cons_zero, List.set_cons_succ])
                  refine wpAnyH_take (i := 5) (oi := ⟨some 112, _, _, _, _, _⟩) (v := ?_) rfl (by kernel_rfl) (by kernel_rfl) (by kernel_rfl) (fun _ _ _ h => h) (Or.inl ⟨by kernel_rfl, ?_⟩) (by assumption) ?_; rotate_left; (intro X hX; (try dsimp only at hX); obtain ⟨r0, r1, s0, s1, t0, t1⟩ := hX; go_simp; first | done | with_reducible rfl); (try simp only [Act.put, List.setIfInBounds_toArray, List.set_cons_zero, List.set_cons_succ])
                  refine wpAnyH_take (i := 6) (oi := ⟨some 113, _, _, _, _, _⟩) (v := ?_) rfl (by kernel_rfl) (by kernel_rfl) (by kernel_rfl) (fun _ _ _ h => h) (Or.inl ⟨by kernel_rfl, ?_⟩) (by assumption) ?_; rotate_left; (intro X hX; (try dsimp only at hX); obtain ⟨r0, r1, s0, s1, t0, t1⟩ := hX; go_simp; first | done | with_reducible rfl); (try simp only [Act.put, List.setIfInBounds_toArray, List.set_cons_zero, List.set_cons_succ])
                  refine wpAnyH_take (i := 7) (oi := ⟨some 114, _, _, _, _, _⟩) (v := ?_) rfl (by kernel_rfl) (by kernel_rfl) (by kernel_rfl) (fun _ _ _ h => h) (Or.inl ⟨by kernel_rfl, ?_⟩) (by assumption) ?_; rotate_left; (intro X hX; (try dsimp only at hX); obtain ⟨r0, r1, s0, s1, t0, t1⟩ := hX; go_simp; first | done | with_reducible rfl); (try simp only [Act.put, List.setIfInBounds_toArray, List.set_cons_zero, List.set_cons_succ])
                  refine wpAnyH_take (i := 8) (oi := ⟨some 115, _, _, _, _, _⟩) (v := ?_) rfl (by kernel_rfl) (by kernel_rfl) (by kernel_rfl) (fun _ _ _ h => h) (Or.inl ⟨by kernel_rfl, ?_⟩) (by assumption) ?_; rotate_left; (intro X hX; (try dsimp only at hX); obtain ⟨r0, r1, s0, s1, t0, t1⟩ := hX; go_simp; first | done | with_reducible rfl); (try simp only [Act.put, List.setIfInBounds_toArray, List.set_cons_zero, List.set_cons_succ])
                  refine wpAnyH_take (i := 9) (oi := ⟨some 116, _, _, _, _, _⟩) (v := ?_) rfl (by kernel_rfl) (by kernel_rfl) (by kernel_rfl) (fun _ _ _ h => h) (Or.inl ⟨by kernel_rfl, ?_⟩) (by assumption) ?_; rotate_left; (intro X hX; (try dsimp only at hX); obtain ⟨r0, r1, s0, s1, t0, t1⟩ := hX; go_simp; first | done | with_reducible rfl); (try simp only [Act.put, List.setIfInBounds_toArray, List.set_cons_zero, List.set_cons_succ])
                  refine wpAnyH_take (i := 10) (oi := ⟨some 117, _, _, _, _, _⟩) (v := ?_) rfl (by kernel_rfl) (by kernel_rfl) (by kernel_rfl) (fun _ _ _ h => h) (Or.inl ⟨by kernel_rfl, ?_⟩) (by assumption) ?_; rotate_left; (intro X hX; (try dsimp only at hX); obtain ⟨r0, r1, s0, s1, t0, t1⟩ := hX; go_simp; first | done | with_reducible rfl); (try simp only [Act.put, List.setIfInBounds_toArray, List.set_cons_zero, List.set_cons_succ])
                  refine wpAnyH_take (i := 11) (oi := ⟨some 118, _, _, _, _, _⟩) (v := ?_) rfl (by kernel_rfl) (by kernel_rfl) (by kernel_rfl) (fun _ _ _ h => h) (Or.inl ⟨by kernel_rfl, ?_⟩) (by assumption) ?_; rotate_left; (intro X hX; (try dsimp only at hX); obtain ⟨r0, r1, s0, s1, t0, t1⟩ := hX; go_simp; first | done | with_reducible rfl); (try simp only [Act.put, List.setIfInBounds_toArray, List.set_cons_zero, List.set_cons_succ])
                  refine wpAnyH_take (i := 12) (oi := ⟨some 119, _, _, _, _, _⟩) (v := ?_) rfl (by kernel_rfl) (by kernel_rfl) (by kernel_rfl) (fun _ _ _ h => h) (Or.inl ⟨by kernel_rfl, ?_⟩) (by assumption) ?_; rotate_left; (intro X hX; (try dsimp only at hX); obtain ⟨r0, r1, s0, s1, t0, t1⟩ := hX; go_simp; first | done | with_reducible rfl); (try simp only [Act.put, List.setIfInBounds_toArray, List.set_cons_zero, List.set_cons_succ])
                  refine wpAnyH_take (i := 13) (oi := ⟨some 120, _, _, _, _, _⟩) (v := ?_) rfl (by kernel_rfl) (by kernel_rfl) (by kernel_rfl) (fun _ _ _ h => h) (Or.inl ⟨by kernel_rfl, ?_⟩) (by assumption) ?_; rotate_left; (intro X hX; (try dsimp only at hX); obtain ⟨r0, r1, s0, s1, t0, t1⟩ := hX; go_simp; first | done | with_reducible rfl); (try simp only [Act.put, List.setIfInBounds_toArray, List.set_cons_zero, List.set_cons_succ])
                  refine wpAnyH_take (i := 14) (oi := ⟨some 121, _, _, _, _, _⟩) (v := ?_) rfl (by kernel_rfl) (by kernel_rfl) (by kernel_rfl) (fun _ _ _ h => h) (Or.inl ⟨by kernel_rfl, ?_⟩) (by assumption) ?_; rotate_left; (intro X hX; (try dsimp only at hX); obtain ⟨r0, r1, s0, s1, t0, t1⟩ := hX; go_simp; first | done | with_reducible rfl); (try simp only [Act.put, List.setIfInBounds_toArray, List.set_cons_zero, List.set_cons_succ])
                  refine wpAnyH_take (i := 15) (oi := ⟨some 122, _, _, _, _, _⟩) (v := ?_) rfl (by kernel_rfl) (by kernel_rfl) (by kernel_rfl) (fun _ _ _ h => h) (Or.inl ⟨by kernel_rfl, ?_⟩) (by assumption) ?_; rotate_left; (intro X hX; (try dsimp only at hX); obtain ⟨r0, r1, s0, s1, t0, t1⟩ := hX; go_simp; first | done | with_reducible rfl); (try simp only [Act.put, List.setIfInBounds_toArray, List.set_cons_zero, List.set_cons_succ])
                  refine wpAnyH_take (i := 16) (oi := ⟨some 123, _, _, _, _, _⟩) (v := ?_) rfl (by kernel_rfl) (by kernel_rfl) (by kernel_rfl) (fun _ _ _ h => h) (Or.inl ⟨by kernel_rfl, ?_⟩) (by assumption) ?_; rotate_left; (intro X hX; (try dsimp only at hX); obtain ⟨r0, r1, s0, s1, t0, t1⟩ := hX; go_simp; first | done | with_reducible rfl); (try simp only [Act.put, List.setIfInBounds_toArray, List.set_cons_zero, List.set_cons_succ])
                  refine wpAnyH_take (i := 17) (oi := ⟨some 124, _, _, _, _, _⟩) (v := ?_) rfl (by kernel_rfl) (by kernel_rfl) (by kernel_rfl) (fun _ _ _ h => h) (Or.inl ⟨by kernel_rfl, ?_⟩) (by assumption) ?_; rotate_left; (intro X hX; (try dsimp only at hX); obtain ⟨r0, r1, s0, s1, t0, t1⟩ := hX; go_simp; first | done | with_reducible rfl); (try simp only [Act.put, List.setIfInBounds_toArray, List.set_cons_zero, List.set_cons_succ])
                  refine wpAnyH_take (i := 18) (oi := ⟨some 125, _, _, _, _, _⟩) (v := ?_) rfl (by kernel_rfl) (by kernel_rfl) (by kernel_rfl) (fun _ _ _ h => h) (Or.inl ⟨by kernel_rfl, ?_⟩) (by assumption) ?_; rotate_left; (intro X hX; (try dsimp only at hX); obtain ⟨r0, r1, s0, s1, t0, t1⟩ := hX; go_simp; first | done | with_reducible rfl); (try simp only [Act.put, List.setIfInBounds_toArray, List.set_cons_zero, List.set_cons_succ])
                  refine wpAnyH_take (i := 19) (oi := ⟨some 126, _, _, _, _, _⟩) (v := ?_) rfl (by kernel_rfl) (by kernel_rfl) (by kernel_rfl) (fun _ _ _ h => h) (Or.inl ⟨by kernel_rfl, ?_⟩) (by assumption) ?_; rotate_left; (intro X hX; (try dsimp only at hX); obtain ⟨r0, r1, s0, s1, t0, t1⟩ := hX; go_simp; first | done | with_reducible rfl); (try simp only [Act.put, List.setIfInBounds_toArray, List.set_cons_zero, List.set_cons_succ])
                  refine wpAnyH_take (i := 20) (oi := ⟨some 127, _, _, _, _, _⟩) (v := ?_) rfl (by kernel_rfl) (by kernel_rfl) (by kernel_rfl) (fun _ _ _ h => h) (Or.inl ⟨by kernel_rfl, ?_⟩) (by assumption) ?_; rotate_left; (intro X hX; (try dsimp only at hX); obtain ⟨r0, r1, s0, s1, t0, t1⟩ := hX; go_simp; first | done | with_reducible rfl); (try simp only [Act.put, List.setIfInBounds_toArray, List.set_cons_zero, List.set_cons_succ])
                  refine wpAnyH_take (i := 21) (oi := ⟨some 128, _, _, _, _, _⟩) (v := ?_) rfl (by kernel_rfl) (by kernel_rfl) (by kernel_rfl) (fun _ _ _ h => h) (Or.inl ⟨by kernel_rfl, ?_⟩) (by assumption) ?_; rotate_left; (intro X hX; (try dsimp only at hX); obtain ⟨r0, r1, s0, s1, t0, t1⟩ := hX; go_simp; first | done | with_reducible rfl); (try simp only [Act.put, List.setIfInBounds_toArray, List.set_cons_zero, List.set_cons_succ])
                  refine wpAnyH_take (i := 22) (oi := ⟨some 129, _, _, _, _, _⟩) (v := ?_) rfl (by kernel_rfl) (by kernel_rfl) (by kernel_rfl) (fun _ _ _ h => h) (Or.inl ⟨by kernel_rfl, ?_⟩) (by assumption) ?_; rotate_left; (intro X hX; (try dsimp only at hX); obtain ⟨r0, r1, s0, s1, t0, t1⟩ := hX; go_simp; first | done | with_reducible rfl); (try simp only [Act.put, List.setIfInBounds_toArray, List.set_cons_zero, List.set_cons_succ])
                  refine wpAnyH_take (i := 23) (oi := ⟨some 130, _, _, _, _, _⟩) (v := ?_) rfl (by kernel_rfl) (by kernel_rfl) (by kernel_rfl) (fun _ _ _ h => h) (Or.inl ⟨by kernel_rfl, ?_⟩) (by assumption) ?_; rotate_left; (intro X hX; (try dsimp only at hX); obtain ⟨r0, r1, s0, s1, t0, t1⟩ := hX; go_simp; first | done | with_reducible rfl); (try simp only [Act.put, List.setIfInBounds_toArray, List.set_cons_zero, List.set_cons_succ])
                  refine wpAnyH_take (i := 24) (oi := ⟨some 131, _, _, _, _, _⟩) (v := ?_) rfl (by kernel_rfl) (by kernel_rfl) (by kernel_rfl) (fun _ _ _ h => h) (Or.inl ⟨by kernel_rfl, ?_⟩) (by assumption) ?_; rotate_left; (intro X hX; (try dsimp only at hX); obtain ⟨r0, r1, s0, s1, t0, t1⟩ := hX; go_simp; first | done | with_reducible rfl); (try simp only [Act.put, List.setIfInBounds_toArray, List.set_cons_zero, List.set_cons_succ])
                  refine wpAnyH_take (i := 25) (oi := ⟨some 132, _, _, _, _, _⟩) (v := ?_) rfl (by kernel_rfl) (by kernel_rfl) (by kernel_rfl) (fun _ _ _ h => h) (Or.inl ⟨by kernel_rfl, ?_⟩) (by assumption) ?_; rotate_left; (intro X hX; (try dsimp only at hX); obtain ⟨r0, r1, s0, s1, t0, t1⟩ := hX; go_simp; first | done | with_reducible rfl); (try simp only [Act.put, List.setIfInBounds_toArray, List.set_cons_zero, List.set_cons_succ])
                  refine wpAnyH_take (i := 26) (oi := ⟨some 133, _, _, _, _, _⟩) (v := ?_) rfl (by kernel_rfl) (by kernel_rfl) (by kernel_rfl) (fun _ _ _ h => h) (Or.inl ⟨by kernel_rfl, ?_⟩) (by assumption) ?_; rotate_left; (intro X hX; (try dsimp only at hX); obtain ⟨r0, r1, s0, s1, t0, t1⟩ := hX; go_simp; first | done | with_reducible rfl); (try simp only [Act.put, List.setIfInBounds_toArray, List.set_cons_zero, List.set_cons_succ])
                  refine wpAnyH_take (i := 27) (oi := ⟨some 134, _, _, _, _, _⟩) (v := ?_) rfl (by kernel_rfl) (by kernel_rfl) (by kernel_rfl) (fun _ _ _ h => h) (Or.inl ⟨by kernel_rfl, ?_⟩) (by assumption) ?_; rotate_left; (intro X hX; (try dsimp only at hX); obtain ⟨r0, r1, s0, s1, t0, t1⟩ := hX; go_simp; first | done | with_reducible rfl); (try simp only [Act.put, List.setIfInBounds_toArray, List.set_cons_zero, List.set_cons_succ])
                  refine wpAnyH_take (i := 28) (oi := ⟨some 135, _, _, _, _, _⟩) (v := ?_) rfl (by kernel_rfl) (by kernel_rfl) (by kernel_rfl) (fun _ _ _ h => h) (Or.inl ⟨by kernel_rfl, ?_⟩) (by assumption) ?_; rotate_left; (intro X hX; (try dsimp only at hX); obtain ⟨r0, r1, s0, s1, t0, t1⟩ := hX; go_simp; first | done | with_reducible rfl); (try simp only [Act.put, List.setIfInBounds_toArray, List.set_cons_zero, List.set_cons_succ])
                  refine wpAnyH_take (i := 29) (oi := ⟨some 136, _, _, _, _, _⟩) (v := ?_) rfl (by kernel_rfl) (by kernel_rfl) (by kernel_rfl) (fun _ _ _ h => h) (Or.inl ⟨by kernel_rfl, ?_⟩) (by assumption) ?_; rotate_left; (intro X hX; (try dsimp only at hX); obtain ⟨r0, r1, s0, s1, t0, t1⟩ := hX; go_simp; first | done | with_reducible rfl); (try simp only [Act.put, List.setIfInBounds_toArray, List.set_cons_zero, List.set_cons_succ])
                  refine wpAnyH_take (i := 30) (oi := ⟨some 137, _, _, _, _, _⟩) (v := ?_) rfl (by kernel_rfl) (by kernel_rfl) (by kernel_rfl) (fun _ _ _ h => h) (Or.inl ⟨by kernel_rfl, ?_⟩) (by assumption) ?_; rotate_left; (intro X hX; (try dsimp only at hX); obtain ⟨r0, r1, s0, s1, t0, t1⟩ := hX; go_simp; first | done | with_reducible rfl); (try simp only [Act.put, List.setIfInBounds_toArray, List.set_cons_zero, List.set_cons_succ])
                  refine wpAnyH_take (i := 31) (oi := ⟨some 138, _, _, _, _, _⟩) (v := ?_) rfl (by kernel_rfl) (by kernel_rfl) (by kernel_rfl) (fun _ _ _ h => h) (Or.inl ⟨by kernel_rfl, ?_⟩) (by assumption) ?_; rotate_left; (intro X hX; (try dsimp only at hX); obtain ⟨r0, r1, s0, s1, t0, t1⟩ := hX; go_simp; first | done | with_reducible rfl); (try simp only [Act.put, List.setIfInBounds_toArray, List.set_cons_zero, List.set_cons_succ])
                  refine wpAnyH_take (i := 32) (oi := ⟨some 139, _, _, _, _, _⟩) (v := ?_) rfl (by kernel_rfl) (by kernel_rfl) (by kernel_rfl) (fun _ _ _ h => h) (Or.inl ⟨by kernel_rfl, ?_⟩) (by assumption) ?_; rotate_left; (intro X hX; (try dsimp only at hX); obtain ⟨r0, r1, s0, s1, t0, t1⟩ := hX; go_simp; first | done | with_reducible rfl); (try simp only [Act.put, List.setIfInBounds_toArray, List.set_cons_zero, List.set_cons_succ])
                  refine wpAnyH_take (i := 33) (oi := ⟨some 140, _, _, _, _, _⟩) (v := ?_) rfl (by kernel_rfl) (by kernel_rfl) (by kernel_rfl) (fun _ _ _ h => h) (Or.inl ⟨by kernel_rfl, ?_⟩) (by assumption) ?_; rotate_left; (intro X hX; (try dsimp only at hX); obtain ⟨r0, r1, s0, s1, t0, t1⟩ := hX; go_simp; first | done | with_reducible rfl); (try simp only [Act.put, List.setIfInBounds_toArray, List.set_cons_zero, List.set_cons_succ])
                  refine wpAnyH_take (i := 34) (oi := ⟨some 141, _, _, _, _, _⟩) (v := ?_) rfl (by kernel_rfl) (by kernel_rfl) (by kernel_rfl) (fun _ _ _ h => h) (Or.inl ⟨by kernel_rfl, ?_⟩) (by assumption) ?_; rotate_left; (intro X hX; (try dsimp only at hX); obtain ⟨r0, r1, s0, s1, t0, t1⟩ := hX; go_simp; first | done | with_reducible rfl); (try simp only [Act.put, List.setIfInBounds_toArray, List.set_cons_zero, List.set_cons_succ])
                  refine wpAnyH_take (i := 35) (oi := ⟨some 142, _, _, _, _, _⟩) (v := ?_) rfl (by kernel_rfl) (by kernel_rfl) (by kernel_rfl) (fun _ _ _ h => h) (Or.inl ⟨by kernel_rfl, ?_⟩) (by assumption) ?_; rotate_left; (intro X hX; (try dsimp only at hX); obtain ⟨r0, r1, s0, s1, t0, t1⟩ := hX; go_simp; first | done | with_reducible rfl); (try simp only [Act.put, List.setIfInBounds_toArray, List.set_cons_zero, List.set_cons_succ])
                  refine wpAnyH_take (i := 36) (oi := ⟨some 143, _, _, _, _, _⟩) (v := ?_) rfl (by kernel_rfl) (by kernel_rfl) (by kernel_rfl) (fun _ _ _ h => h) (Or.inl ⟨by kernel_rfl, ?_⟩) (by assumption) ?_; rotate_left; (intro X hX; (try dsimp only at hX); obtain ⟨r0, r1, s0, s1, t0, t1⟩ := hX; go_simp; first | done | with_reducible rfl); (try simp only [Act.put, List.setIfInBounds_toArray, List.set_cons_zero, List.set_cons_succ])
                  refine wpAnyH_done (by kernel_rfl) ?_ _
                  clear hS0
                  go_wp2_with fail
                  go_roundw
                  case rel => exact ⟨j3 + 1, by omega, by go_num, HBD⟩
                  case measure => simp [intOf]; omega
          · obtain rfl : j3 = R.length := by omega
            go_wp2_with fail
            go_roundw
            case rel => exact ⟨j + 1, by omega, by go_num, HBR⟩
            case measure => simp [intOf]; omega
    · obtain rfl : j = R.length := by omega
      clear HMAY
      obtain ⟨R2, hR2⟩ : ∃ R2, R2 = (wentW s.cs (R.map wordOf)).map awOf := ⟨_, rfl⟩
      obtain ⟨WW, hWW⟩ : ∃ WW, WW = wentW s.cs (R.map wordOf) := ⟨_, rfl⟩
      have hwl : WW.length = R.length := by rw [hWW]; unfold wentW; rw [List.length_map, List.length_map]
      have hr2l : R2.length = R.length := by rw [hR2, ← hWW, List.length_map, hwl]
      have hgood : ∀ x ∈ WW, wgood PL.length x := by rw [hWW, HPL.out]; exact went_good HOK.out.good HALL.out
      have hall2 : allMay so.cs.length R2 = true := by rw [HCSO.out, hR2]; exact went_may HOK.out.good HALL.out
      have hlen2 : (colC so.cs (reachL so.cs (rootsOf R2))).length = so.cs.length := by rw [colC_len, HCSO.out, hR2, went_all HOK.out.good HALL.out, List.length_range, colC_len]
      have hww : wentW so.cs R2 = WW := by rw [HCSO.out, hR2, hWW]; exact went_went HOK.out.good HALL.out
      rw [← hWW] at HWI6
      have hwr := wrow_of (n := PL.length) (cap := R.length) (w := wr) (g := g) (L := WW) hgood (by have := hplen; omega) (HWI6.out.keep (HB.out.block _ HGL.out)) (by omega)
      rw [← hWW] at hR2
      rw [hwl, ← hR2] at hwr
      have HWR : Hid (WRow (· < wr.heap.size) wr (some ⟨g, 0, none⟩) R.length R.length R2) := hwr.keep (fun _ _ => rfl) (fun b e => by subst e; exact Nat.lt_of_lt_of_le HGL.out HB.out.size)
      have HBw := Lib.hid (HB6.out.trans (HB.out.mono HB6.out.size))
      have HF := Lib.hid (And.intro hr2l (And.intro hgood (And.intro hall2 (And.intro hlen2 (And.intro hww hwl)))))
      clear hr2l hgood hall2 hlen2 hww hwr hR2 hWW hwl
      go_wp2_with fail
      refine (Run_ans HOKO.out.good wr (HHO.out.under HB.out) R2 (some ⟨g, 0, none⟩) R.length R.length HF.out.1 HWR.out (HS.out.below HBw.out HS.out.lt) (by omega)).mono ?_
      rintro e X1 ⟨bx1, (⟨-, so2, ho2, g2, hcs2, hok2, hat2, hgl2, hwi2, rfl⟩ | ⟨hno, -⟩)⟩
      case inr => rw [HF.out.2.2.1] at hno; cases hno
      have hl2 : so2.cs.length = PL.length := by rw [hcs2, HF.out.2.2.2.1, HSOL.out]
      rw [HF.out.2.2.2.2.1] at hwi2
      have hbx : Below W6.heap.size W6 X1 := HB.out.trans (bx1.mono HB.out.size)
      have HLA := Lib.hid (Len_any X1 hat2)
      rw [hl2] at HLA
      have HLB := Lib.hid (Len_any X1 (HHO.out.under hbx))
      rw [HSOL.out] at HLB
      have hsw := sameWords5 PL.length WW HF.out.2.1 (by have := HF.out.2.2.2.2.2; omega) g2 g R.length R.length X1 hgl2 (Nat.lt_of_lt_of_le HGL.out hbx.size) hwi2 (HWI6.out.keep (hbx.block _ HGL.out))
      rw [HF.out.2.2.2.2.2] at hsw
      have HSW := Lib.hid hsw
      have HX1 : Hid (Below w.heap.size w X1) := HB6.out.trans (hbx.mono HB6.out.size)
      clear hcs2 hok2 hat2 hgl2 hwi2 hl2 hbx hsw bx1
      go_wp2_with fail
      refine HLA.out.mono ?_
      rintro e w' ⟨rfl, hq⟩
      subst w'
      go_wp2_with fail
      refine HLB.out.mono ?_
      rintro e w' ⟨rfl, hq⟩
      subst w'
      go_wp2_with fail
      refine HSW.out.mono ?_
      rintro e X2 ⟨rfl, bx2⟩
      have HX2 := Lib.hid (HX1.out.trans (bx2.mono HX1.out.size))
      have HWK := Lib.hid (wakes5_ok X2 (HS.out.below HX2.out HS.out.lt))
      clear bx2
      go_wp2_with fail
      refine HWK.out.mono ?_
      rintro e X3 ⟨rfl, bx3⟩
      have HX3 := Lib.hid (HX2.out.trans (bx3.mono HX2.out.size))
      clear bx3
      go_wp2_with fail
      go_ret
      exact ⟨rfl, HX3.out⟩
end Go.Proofs.YtgdkhmamjhdfdaaGreatDoor
