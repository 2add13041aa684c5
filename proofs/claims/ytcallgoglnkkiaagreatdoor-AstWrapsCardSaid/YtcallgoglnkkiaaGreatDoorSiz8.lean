/- ast.depth, ast.sizeOf, ast.Size: how great any tree is. -/
import Derived.Test.YtcallgoglnkkiaaGreatDoorSiz7
import Derived.Test.YtcallgoglnkkiaaGreatDoorWakes07
set_option linter.unusedVariables false
namespace Go.Proofs.YtcallgoglnkkiaaGreatDoor
open Go.RowKit

theorem lvl_one {W : World} {b c : Nat} {T U : TypeId} {c0 c1 c2 c3 c4 : Value} {x : Tm} (h : W.heap[b]? = some (.cells #[c0, c1, c2, c3, c4] T (0, 0))) (hc : W.heap[c]? = some (.cells #[.slice (some ⟨b, 0, none⟩) 1 1] U (0, 0))) (hT : TmAt (· < W.heap.size) W x (.agg #[c0, c1, c2, c3, c4])) (hF : FreeT W x (.agg #[c0, c1, c2, c3, c4])) :
    Lvl W (.slice (some ⟨c, 0, none⟩) 1 1) [[x]] := by
  refine ⟨some ⟨c, 0, none⟩, 1, rfl, fun j l hj => ?_⟩
  match j, hj with
  | 0, hj =>
    simp at hj
    subst hj
    refine ⟨⟨c, 0, none⟩, _, rfl, heap_lt hc, cell_of_row (i := 0) hc rfl, some ⟨b, 0, none⟩, 1, rfl, row1_of h (heap_lt h) hT, fun ad j y v hA hj hE => ?_⟩
    cases hA
    match j, hj with
    | 0, hj =>
      simp at hj
      subst hj
      obtain rfl := hE.one ⟨c0, c1, c2, c3, c4, rfl, cell_of_row (i := 0) h rfl, cell_of_row (i := 1) h rfl, cell_of_row (i := 2) h rfl, cell_of_row (i := 3) h rfl, cell_of_row (i := 4) h rfl⟩
      exact hF
    | j + 1, hj => simp at hj
  | j + 1, hj => simp at hj

set_option maxRecDepth 100000 in
set_option maxHeartbeats 4000000 in
theorem depth_any (x : Tm) (v : Value) (w : World) (hT : TmAt (· < w.heap.size) w x v) (hF : FreeT w x v) (hn : x.nodes ≤ 8200) :
    Calls Tryz.prog 59 #[v] w fun e w' => ∃ d : Nat, e = .returned (.int .i64 d) ∧ d ≤ 65 ∧ Below w.heap.size w w' := by
  obtain ⟨kk, nn, s, t, L, A, cap, hx, rfl⟩ : ∃ k' n' s' t' L' A' cap', x = Tm.mk k' n' s' t' L' ∧ v = .agg #[.int .i8 k', .int .i64 n', .string s', .string t', .slice A' L'.length cap'] := by
    cases hT; exact ⟨_, _, _, _, _, _, _, rfl, rfl⟩
  obtain ⟨N, hN⟩ : ∃ N, N = L.length := ⟨_, rfl⟩
  rw [← hN] at hT hF ⊢
  clear hN
  obtain ⟨w1, hw1⟩ : ∃ w1, w1 = w.alloc (.cells #[.int .i8 kk, .int .i64 nn, .string s, .string t, .slice A N cap] 25) := ⟨_, rfl⟩
  obtain ⟨w2, hw2⟩ : ∃ w2, w2 = w1.alloc (.cells #[.int .i8 kk, .int .i64 nn, .string s, .string t, .slice A N cap] 25) := ⟨_, rfl⟩
  obtain ⟨w3, hw3⟩ : ∃ w3, w3 = w2.alloc (.cells #[.slice (some ⟨w.heap.size + 1, 0, none⟩) 1 1] 23) := ⟨_, rfl⟩
  have hb1 : w1.heap[w.heap.size]? = some (.cells #[.int .i8 kk, .int .i64 nn, .string s, .string t, .slice A N cap] 25) := by rw [hw1]; exact block_alloc _ _
  have x0 : w1.cell? ⟨w.heap.size, 0, none⟩ = some (.int .i8 kk) := cell_of_row hb1 rfl
  have x1 : w1.cell? ⟨w.heap.size, 1, none⟩ = some (.int .i64 nn) := cell_of_row hb1 rfl
  have x2 : w1.cell? ⟨w.heap.size, 2, none⟩ = some (.string s) := cell_of_row hb1 rfl
  have x3 : w1.cell? ⟨w.heap.size, 3, none⟩ = some (.string t) := cell_of_row hb1 rfl
  have x4 : w1.cell? ⟨w.heap.size, 4, none⟩ = some (.slice A N cap) := cell_of_row hb1 rfl
  have hs1 : w1.heap.size = w.heap.size + 1 := by rw [hw1]; simp
  have hs2 : w2.heap.size = w1.heap.size + 1 := by rw [hw2]; simp
  have b3 : Below w.heap.size w w3 := by rw [hw3, hw2, hw1]; exact (((Below.refl _ w).alloc (Nat.le_refl _) _).alloc (by simp) _).alloc (by simp; omega) _
  have hL3 : Lvl w3 (.slice (some ⟨w.heap.size + 1 + 1, 0, none⟩) 1 1) [[x]] := by
    refine lvl_one (b := w.heap.size + 1) (c := w.heap.size + 1 + 1) (T := 25) (U := 23) ?_ ?_ (hT.laterN b3) (hF.keep hT (fun b hb => b3.block b hb))
    · rw [hw3]
      refine (Below.heap_alloc _ _ _ (by omega)).trans ?_
      rw [hw2, ← hs1]; exact block_alloc _ _
    · rw [hw3, show w.heap.size + 1 + 1 = w2.heap.size by omega]; exact block_alloc _ _
  have HL := Lib.hid hL3
  have HB := Lib.hid b3
  have hwt : wt [[x]] ≤ 8200 := by
    have : wt [[x]] = x.nodes := by simp [wt, Tm.pres, Tm.nodes]
    omega
  have HW := Lib.hid hwt
  subst hw1
  clear hT hF hL3 b3 hs1 hs2 hb1 hwt hx
  go_enter Tryz.func59, Tryz.ntmps59
  go_wp2_with fail
  rw [← hw2, ← hw3]
  clear hw3 hw2 x0 x1 x2 x3 x4
  go_loopw [3, 8] (fun L i wr => ∃ j : Nat, j ≤ 65 ∧ i = .int .i64 j ∧ ∃ lv, Hid (Lvl wr L lv ∧ lv.length ≤ 8200 ∧ wt lv ≤ 8200 ∧ Below w.heap.size w wr)) (fun _ i _ => 65 - (intOf i).toNat)
  case atStart => exact ⟨0, by omega, rfl, [[x]], HL.out, by simp, HW.out, HB.out⟩
  case round =>
    obtain ⟨j, hj, rfl, lv, HX⟩ := hrel
    obtain ⟨wq, hwq⟩ : ∃ wq, wq = wr := ⟨_, rfl⟩
    subst hwq
    obtain ⟨A2, cap2, hu, -⟩ := HX.out.1
    subst hu
    have hlv : lv.length ≤ 8200 := HX.out.2.1
    obtain ⟨N2, hN2⟩ : ∃ N2, N2 = lv.length := ⟨_, rfl⟩
    have hN3 : N2 ≤ 8200 := by rw [hN2]; exact HX.out.2.1
    rw [← hN2] at HX ⊢
    clear hN2
    by_cases hlt : j < 65
    · by_cases h0 : N2 = 0
      · subst h0
        go_wp2_with fail
        go_ret
        exact ⟨j, rfl, by omega, HX.out.2.2.2⟩
      · have hne : ((N2 : Int) == 0) = false := by rw [beq_eq_false_iff_ne]; omega
        go_wp2_with fail
        refine (below_any wq _ lv HX.out.1 hlv HX.out.2.2.1).mono ?_
        rintro e w4 ⟨L', lv', rfl, hL', hl', hw', b4⟩
        have HY : Hid (Lvl w4 L' lv' ∧ lv'.length ≤ 8200 ∧ wt lv' ≤ 8200 ∧ Below w.heap.size w w4) := ⟨hL', hl', hw', HX.out.2.2.2.trans (b4.mono HX.out.2.2.2.size)⟩
        clear hL' hl' hw' b4
        go_wp2_with fail
        go_roundw
        case rel => exact ⟨j + 1, by omega, by go_num, lv', HY⟩
        case measure => simp [intOf]; omega
    · obtain rfl : j = 65 := by omega
      go_wp2_with fail
      go_ret
      exact ⟨65, rfl, by omega, HX.out.2.2.2⟩

set_option maxRecDepth 100000 in
set_option maxHeartbeats 4000000 in
theorem sizeOf_any (x : Tm) (v : Value) (w : World) (hT : TmAt (· < w.heap.size) w x v) (hF : 4096 < x.nodes → FreeT w x v) (hn : x.nodes ≤ 8200) :
    Calls Tryz.prog 28 #[v] w fun e w' => ∃ d : Nat, e = .returned (.agg #[.int .i64 (min x.nodes 4097 : Nat), .int .i64 d]) ∧ (x.nodes ≤ 4096 → d = min x.deep 65) ∧ d ≤ 65 ∧ Below w.heap.size w w' := by
  obtain ⟨kk, nn, s, t, L, A, cap, hx, rfl⟩ : ∃ k' n' s' t' L' A' cap', x = Tm.mk k' n' s' t' L' ∧ v = .agg #[.int .i8 k', .int .i64 n', .string s', .string t', .slice A' L'.length cap'] := by
    cases hT; exact ⟨_, _, _, _, _, _, _, rfl, rfl⟩
  obtain ⟨N, hN⟩ : ∃ N, N = L.length := ⟨_, rfl⟩
  rw [← hN] at hT hF ⊢
  clear hN hx
  obtain ⟨w1, hw1⟩ : ∃ w1, w1 = w.alloc (.cells #[.int .i8 kk, .int .i64 nn, .string s, .string t, .slice A N cap] 25) := ⟨_, rfl⟩
  obtain ⟨w2, hw2⟩ : ∃ w2, w2 = w1.alloc (.cells #[.int .i64 0, .int .i64 0] 45) := ⟨_, rfl⟩
  have hs1 : w1.heap.size = w.heap.size + 1 := by rw [hw1]; simp
  have hb1 : w1.heap[w.heap.size]? = some (.cells #[.int .i8 kk, .int .i64 nn, .string s, .string t, .slice A N cap] 25) := by rw [hw1]; exact block_alloc _ _
  have hb2 : w2.heap[w.heap.size]? = some (.cells #[.int .i8 kk, .int .i64 nn, .string s, .string t, .slice A N cap] 25) := by rw [hw2]; exact (Below.heap_alloc _ _ _ (by omega)).trans hb1
  have hz2 : w2.heap[w.heap.size + 1]? = some (.cells #[.int .i64 0, .int .i64 0] 45) := by rw [hw2, ← hs1]; exact block_alloc _ _
  have bb : Below w.heap.size w w2 := by rw [hw2, hw1]; exact ((Below.refl _ w).alloc (Nat.le_refl _) _).alloc (by simp) _
  have x0 : w2.cell? ⟨w.heap.size, 0, none⟩ = some (.int .i8 kk) := cell_of_row hb2 rfl
  have x1 : w2.cell? ⟨w.heap.size, 1, none⟩ = some (.int .i64 nn) := cell_of_row hb2 rfl
  have x2 : w2.cell? ⟨w.heap.size, 2, none⟩ = some (.string s) := cell_of_row hb2 rfl
  have x3 : w2.cell? ⟨w.heap.size, 3, none⟩ = some (.string t) := cell_of_row hb2 rfl
  have x4 : w2.cell? ⟨w.heap.size, 4, none⟩ = some (.slice A N cap) := cell_of_row hb2 rfl
  have HB := Lib.hid bb
  have HG := Lib.hid hb2
  have HZ := Lib.hid hz2
  have HT := Lib.hid hT
  have HF := Lib.hid hF
  have HN := Lib.hid hn
  clear bb hb1 hT hF hn hs1 hb2 hz2
  go_enter Tryz.func28, Tryz.ntmps28
  go_wp2_with fail
  rw [← hw1, ← hw2]
  clear hw1 hw2
  refine (walked_any x _ w2 (HT.out.laterN HB.out)).mono ?_
  rintro e w3 ⟨rfl, b3⟩
  rw [Nat.min_comm]
  obtain ⟨a, ha⟩ : ∃ a : Nat, a = min x.nodes 4097 := ⟨_, rfl⟩
  obtain ⟨d, hd⟩ : ∃ d : Nat, d = walkedD x := ⟨_, rfl⟩
  rw [← ha, ← hd]
  have HA := Lib.hid ha
  have HD := Lib.hid hd
  have hab : a ≤ 4097 := by omega
  have HB3 := Lib.hid (HB.out.trans (b3.mono HB.out.size))
  have HG3 := Lib.hid ((b3.block _ (heap_lt HG.out)).trans HG.out)
  have HZ3 := Lib.hid ((b3.block _ (heap_lt HZ.out)).trans HZ.out)
  clear ha hd b3 x0 x1 x2 x3 x4
  have z0 : (w3.alloc (.cells #[.int .i64 0, .int .i64 0] 45)).cell? ⟨w3.heap.size, 0, none⟩ = some (.int .i64 0) := cell_of_row (block_alloc _ _) rfl
  have zf0 : (w3.alloc (.cells #[.int .i64 0, .int .i64 0] 45)).frozen? ⟨w3.heap.size, 0, none⟩ = false := free_of_row (block_alloc _ _)
  have z1 : (w3.alloc (.cells #[.int .i64 0, .int .i64 0] 45)).cell? ⟨w3.heap.size, 1, none⟩ = some (.int .i64 0) := cell_of_row (block_alloc _ _) rfl
  have zf1 : (w3.alloc (.cells #[.int .i64 0, .int .i64 0] 45)).frozen? ⟨w3.heap.size, 1, none⟩ = false := free_of_row (block_alloc _ _)
  have c0 : (w3.alloc (.cells #[.int .i64 a, .int .i64 d] 45)).cell? ⟨w3.heap.size, 0, none⟩ = some (.int .i64 a) := cell_of_row (block_alloc _ _) rfl
  have c1 : (w3.alloc (.cells #[.int .i64 a, .int .i64 d] 45)).cell? ⟨w3.heap.size, 1, none⟩ = some (.int .i64 d) := cell_of_row (block_alloc _ _) rfl
  have hs3 : w.heap.size + 1 < w3.heap.size := heap_lt HZ3.out
  by_cases hbig : 4096 < (a : Int)
  · go_upto_region 3 with fail
    have hb4 : Below w.heap.size w (w3.alloc (.cells #[.int .i64 a, .int .i64 d] 45)) := HB3.out.alloc HB3.out.size _
    have hg4 : (w3.alloc (.cells #[.int .i64 a, .int .i64 d] 45)).heap[w.heap.size]? = some (.cells #[.int .i8 kk, .int .i64 nn, .string s, .string t, .slice A N cap] 25) := (Below.heap_alloc _ _ _ (heap_lt HG3.out)).trans HG3.out
    have hz4 : (w3.alloc (.cells #[.int .i64 a, .int .i64 d] 45)).heap[w.heap.size + 1]? = some (.cells #[.int .i64 0, .int .i64 0] 45) := (Below.heap_alloc _ _ _ (heap_lt HZ3.out)).trans HZ3.out
    have hq4 : (w3.alloc (.cells #[.int .i64 a, .int .i64 d] 45)).heap[w3.heap.size]? = some (.cells #[.int .i64 a, .int .i64 d] 45) := block_alloc _ _
    generalize (w3.alloc (.cells #[.int .i64 a, .int .i64 d] 45)) = w4 at hb4 hg4 hz4 hq4 c0 c1 ⊢
    have x0 : w4.cell? ⟨w.heap.size, 0, none⟩ = some (.int .i8 kk) := cell_of_row hg4 rfl
    have x1 : w4.cell? ⟨w.heap.size, 1, none⟩ = some (.int .i64 nn) := cell_of_row hg4 rfl
    have x2 : w4.cell? ⟨w.heap.size, 2, none⟩ = some (.string s) := cell_of_row hg4 rfl
    have x3 : w4.cell? ⟨w.heap.size, 3, none⟩ = some (.string t) := cell_of_row hg4 rfl
    have x4 : w4.cell? ⟨w.heap.size, 4, none⟩ = some (.slice A N cap) := cell_of_row hg4 rfl
    have HB4 := Lib.hid hb4
    have HZ4 := Lib.hid hz4
    have HQ4 := Lib.hid hq4
    clear hb4 hg4 hz4 hq4 c0 c1 z0 z1 zf0 zf1
    have hnb : 4096 < x.nodes := by have := HA.out; omega
    go_wp2_with fail
    refine (depth_any x _ w4 (HT.out.laterN HB4.out) ((HF.out hnb).keep HT.out (fun b hb => HB4.out.block b hb)) HN.out).mono ?_
    rintro e w5 ⟨dd, rfl, hdd, b5⟩
    have hq5 := (b5.block _ (heap_lt HQ4.out)).trans HQ4.out
    have hz5 := (b5.block _ (heap_lt HZ4.out)).trans HZ4.out
    have q1 : w5.cell? ⟨w3.heap.size, 1, none⟩ = some (.int .i64 d) := cell_of_row hq5 rfl
    have qf1 : w5.frozen? ⟨w3.heap.size, 1, none⟩ = false := free_of_row hq5
    have HQ5 := Lib.hid hq5
    have HZ5 := Lib.hid hz5
    have HB5 := Lib.hid (HB4.out.trans (b5.mono HB4.out.size))
    clear hq5 hz5 b5 x0 x1 x2 x3 x4
    go_upto_region 4 with fail
    have hq := set_row (.int .i64 dd) (i := 1) HQ5.out
    have hz : (w5.setCell ⟨w3.heap.size, 1, none⟩ (.int .i64 dd)).heap[w.heap.size + 1]? = some (.cells #[.int .i64 0, .int .i64 0] 45) := (Below.heap_setCell _ _ _ _ (by dsimp only; omega)).trans HZ5.out
    have hbz : Below w.heap.size w (w5.setCell ⟨w3.heap.size, 1, none⟩ (.int .i64 dd)) := HB5.out.setCell (by dsimp only; omega) _
    generalize (w5.setCell ⟨w3.heap.size, 1, none⟩ (.int .i64 dd)) = w6 at hq hz hbz ⊢
    clear q1 qf1
    have c0 : w6.cell? ⟨w3.heap.size, 0, none⟩ = some (.int .i64 a) := cell_of_row hq rfl
    have c1 : w6.cell? ⟨w3.heap.size, 1, none⟩ = some (.int .i64 dd) := cell_of_row hq rfl
    have y0 : w6.cell? ⟨w.heap.size + 1, 0, none⟩ = some (.int .i64 0) := cell_of_row hz rfl
    have yf0 : w6.frozen? ⟨w.heap.size + 1, 0, none⟩ = false := free_of_row hz
    have hz' := set_row (.int .i64 a) (i := 0) hz
    have y1 : (w6.setCell ⟨w.heap.size + 1, 0, none⟩ (.int .i64 a)).cell? ⟨w.heap.size + 1, 1, none⟩ = some (.int .i64 0) := cell_of_row hz' rfl
    have yf1 : (w6.setCell ⟨w.heap.size + 1, 0, none⟩ (.int .i64 a)).frozen? ⟨w.heap.size + 1, 1, none⟩ = false := free_of_row hz'
    have HE := Lib.hid (set_row (.int .i64 dd) (i := 1) hz')
    have HBZ := Lib.hid hbz
    clear hz hz' hq hbz
    go_wp2_with fail
    have g0 := cell_of_row (i := 0) HE.out rfl
    have g1 := cell_of_row (i := 1) HE.out rfl
    refine bodyPost_ret (v := .agg #[.int .i64 a, .int .i64 dd]) (by simp [results, Tryz.f28, go_sem, g0, g1]) rfl ⟨dd, by rw [← HA.out], fun h => by omega, hdd, (HBZ.out.setCell (by dsimp only; omega) _).setCell (by dsimp only; omega) _⟩
  · go_upto_region 4 with fail
    have hq : (w3.alloc (.cells #[.int .i64 a, .int .i64 d] 45)).heap[w3.heap.size]? = some (.cells #[.int .i64 a, .int .i64 d] 45) := block_alloc _ _
    have hz : (w3.alloc (.cells #[.int .i64 a, .int .i64 d] 45)).heap[w.heap.size + 1]? = some (.cells #[.int .i64 0, .int .i64 0] 45) := (Below.heap_alloc _ _ _ (heap_lt HZ3.out)).trans HZ3.out
    have hbz : Below w.heap.size w (w3.alloc (.cells #[.int .i64 a, .int .i64 d] 45)) := HB3.out.alloc HB3.out.size _
    clear c0 c1 z0 z1 zf0 zf1
    generalize (w3.alloc (.cells #[.int .i64 a, .int .i64 d] 45)) = w4 at hq hz hbz ⊢
    have c0 : w4.cell? ⟨w3.heap.size, 0, none⟩ = some (.int .i64 a) := cell_of_row hq rfl
    have c1 : w4.cell? ⟨w3.heap.size, 1, none⟩ = some (.int .i64 d) := cell_of_row hq rfl
    have y0 : w4.cell? ⟨w.heap.size + 1, 0, none⟩ = some (.int .i64 0) := cell_of_row hz rfl
    have yf0 : w4.frozen? ⟨w.heap.size + 1, 0, none⟩ = false := free_of_row hz
    have hz' := set_row (.int .i64 a) (i := 0) hz
    have y1 : (w4.setCell ⟨w.heap.size + 1, 0, none⟩ (.int .i64 a)).cell? ⟨w.heap.size + 1, 1, none⟩ = some (.int .i64 0) := cell_of_row hz' rfl
    have yf1 : (w4.setCell ⟨w.heap.size + 1, 0, none⟩ (.int .i64 a)).frozen? ⟨w.heap.size + 1, 1, none⟩ = false := free_of_row hz'
    have HE := Lib.hid (set_row (.int .i64 d) (i := 1) hz')
    have HBZ := Lib.hid hbz
    clear hz hz' hq hbz
    go_wp2_with fail
    have g0 := cell_of_row (i := 0) HE.out rfl
    have g1 := cell_of_row (i := 1) HE.out rfl
    refine bodyPost_ret (v := .agg #[.int .i64 a, .int .i64 d]) (by simp [results, Tryz.f28, go_sem, g0, g1]) rfl ⟨d, by rw [← HA.out], fun h => by rw [HD.out]; exact walkedD_small (by omega), by rw [HD.out]; exact walkedD_le _, (HBZ.out.setCell (by dsimp only; omega) _).setCell (by dsimp only; omega) _⟩

set_option maxRecDepth 100000 in
set_option maxHeartbeats 4000000 in
theorem size_any (x : Tm) (v : Value) (w : World) (hT : TmAt (· < w.heap.size) w x v) (hF : 4096 < x.nodes → FreeT w x v) (hn : x.nodes ≤ 8200) :
    Calls Tryz.prog 18 #[v] w fun e w' => ∃ d : Nat, e = .returned (.tuple #[.int .i64 (min x.nodes 4097 : Nat), .int .i64 d]) ∧ (x.nodes ≤ 4096 → d = min x.deep 65) ∧ d ≤ 65 ∧ Below w.heap.size w w' := by
  obtain ⟨kk, nn, s, t, L, A, cap, hx, rfl⟩ : ∃ k' n' s' t' L' A' cap', x = Tm.mk k' n' s' t' L' ∧ v = .agg #[.int .i8 k', .int .i64 n', .string s', .string t', .slice A' L'.length cap'] := by
    cases hT; exact ⟨_, _, _, _, _, _, _, rfl, rfl⟩
  obtain ⟨N, hN⟩ : ∃ N, N = L.length := ⟨_, rfl⟩
  rw [← hN] at hT hF ⊢
  clear hN hx
  obtain ⟨w1, hw1⟩ : ∃ w1, w1 = w.alloc (.cells #[.int .i8 kk, .int .i64 nn, .string s, .string t, .slice A N cap] 25) := ⟨_, rfl⟩
  have hs1 : w1.heap.size = w.heap.size + 1 := by rw [hw1]; simp
  have hb1 : w1.heap[w.heap.size]? = some (.cells #[.int .i8 kk, .int .i64 nn, .string s, .string t, .slice A N cap] 25) := by rw [hw1]; exact block_alloc _ _
  have bb : Below w.heap.size w w1 := by rw [hw1]; exact (Below.refl _ w).alloc (Nat.le_refl _) _
  have x0 : w1.cell? ⟨w.heap.size, 0, none⟩ = some (.int .i8 kk) := cell_of_row hb1 rfl
  have x1 : w1.cell? ⟨w.heap.size, 1, none⟩ = some (.int .i64 nn) := cell_of_row hb1 rfl
  have x2 : w1.cell? ⟨w.heap.size, 2, none⟩ = some (.string s) := cell_of_row hb1 rfl
  have x3 : w1.cell? ⟨w.heap.size, 3, none⟩ = some (.string t) := cell_of_row hb1 rfl
  have x4 : w1.cell? ⟨w.heap.size, 4, none⟩ = some (.slice A N cap) := cell_of_row hb1 rfl
  have HB := Lib.hid bb
  have HG := Lib.hid hb1
  have HT := Lib.hid hT
  have HF := Lib.hid hF
  have HN := Lib.hid hn
  clear bb hb1 hT hF hn hs1
  go_enter Tryz.func18, Tryz.ntmps18
  go_wp2_with fail
  rw [← hw1]
  clear hw1
  refine (sizeOf_any x _ w1 (HT.out.laterN HB.out) (fun h => (HF.out h).keep HT.out (fun b hb => HB.out.block b hb)) HN.out).mono ?_
  rintro e w3 ⟨d, rfl, hd1, hd2, b3⟩
  obtain ⟨a, ha⟩ : ∃ a : Nat, a = min x.nodes 4097 := ⟨_, rfl⟩
  rw [← ha]
  have HA := Lib.hid ha
  have HD := Lib.hid (And.intro hd1 hd2)
  have HB3 := Lib.hid (HB.out.trans (b3.mono HB.out.size))
  clear ha hd1 hd2 b3 x0 x1 x2 x3 x4
  have z0 : (w3.alloc (.cells #[.int .i64 0, .int .i64 0] 45)).cell? ⟨w3.heap.size, 0, none⟩ = some (.int .i64 0) := cell_of_row (block_alloc _ _) rfl
  have zf0 : (w3.alloc (.cells #[.int .i64 0, .int .i64 0] 45)).frozen? ⟨w3.heap.size, 0, none⟩ = false := free_of_row (block_alloc _ _)
  have z1 : (w3.alloc (.cells #[.int .i64 0, .int .i64 0] 45)).cell? ⟨w3.heap.size, 1, none⟩ = some (.int .i64 0) := cell_of_row (block_alloc _ _) rfl
  have zf1 : (w3.alloc (.cells #[.int .i64 0, .int .i64 0] 45)).frozen? ⟨w3.heap.size, 1, none⟩ = false := free_of_row (block_alloc _ _)
  have c0 : (w3.alloc (.cells #[.int .i64 a, .int .i64 d] 45)).cell? ⟨w3.heap.size, 0, none⟩ = some (.int .i64 a) := cell_of_row (block_alloc _ _) rfl
  have c1 : (w3.alloc (.cells #[.int .i64 a, .int .i64 d] 45)).cell? ⟨w3.heap.size, 1, none⟩ = some (.int .i64 d) := cell_of_row (block_alloc _ _) rfl
  go_upto_region 2 with fail
  have hb4 : Below w.heap.size w (w3.alloc (.cells #[.int .i64 a, .int .i64 d] 45)) := HB3.out.alloc HB3.out.size _
  generalize (w3.alloc (.cells #[.int .i64 a, .int .i64 d] 45)) = w4 at hb4 c0 c1 ⊢
  have HB4 := Lib.hid hb4
  clear hb4 z0 z1 zf0 zf1
  go_region_held (fun W => W.cell? ⟨w3.heap.size, 0, none⟩ = some (.int .i64 a) ∧ W.cell? ⟨w3.heap.size, 1, none⟩ = some (.int .i64 d)) (go_keep) (fail)
  go_wp2_with fail
  refine bodyPost_ret (v := .tuple #[.int .i64 a, .int .i64 d]) (by simp [results, Tryz.f18, go_sem]) rfl ⟨d, by rw [← HA.out], HD.out.1, HD.out.2, HB4.out.drew⟩
end Go.Proofs.YtcallgoglnkkiaaGreatDoor
