/- pleachref04: Cell of the document's own heap. A region that draws its order, all of it quiet in a class of worlds. Words that stand for one: SameWord, sameWords, SameCell of rows that stand for the same words. pleachref01.Ints of two rows of numbers. (Out of XOrdPure, names apart.) The order of terms is none but between equals. Terms that are taken off a good heap may be. Sets of cells, as rows of marks. pleachref05.Reached: which cells roots reach, by the document's own answer. pleachref05.moved: where a word's cell went. Rows of words that grow. pleachref05.Run: a heap that holds what is reached, by the document's own answer. pleachref04: the term of a word, of the document's own heap. Take of the document's own heap. collect.Same and the document's own, of any two words of one heap. -/
import Derived.Test.YtaemfjmmklpjeaaGreatDoorBoth5
import Derived.Test.YtaemfjmmklpjeaaGreatDoorCoRun2
import Derived.Deep.RegionHeld
import Derived.OrdersHeld
import Derived.Deep.QuietTactic
import Derived.BigQuiet
import Derived.Test.YtaemfjmmklpjeaaGreatDoorOkPure
import Derived.Test.YtaemfjmmklpjeaaGreatDoorOrd
import Derived.Test.YtaemfjmmklpjeaaGreatDoorRef04C
import Derived.Laws.MakeOwn
set_option linter.unusedVariables false
namespace Go.Proofs.YtaemfjmmklpjeaaGreatDoor
open Go.RowKit

def RCellP (c : HC) (w : World) (e : Ending) (w' : World) : Prop :=
  ∃ A cap, e = .returned (.tuple #[.agg #[.int .i8 c.k, .int .i64 c.size, .slice A c.L.length cap], .int .i64 0]) ∧ Below w.heap.size w w' ∧ (c.L ≠ [] → ∃ g, A = some ⟨g, 0, none⟩ ∧ w.heap.size ≤ g ∧ g < w'.heap.size ∧ WRow (fun b => b = g) w' A c.L.length cap (c.L.map awOf))
theorem good_may {cs : List HC} (hg : HGood cs) {n : Nat} {c : HC} (hc : cs[n]? = some c) : ∀ q ∈ c.L.map awOf, mayW cs.length q.c q.a q.x = true := by
  intro q hq
  obtain ⟨y, hy, rfl⟩ := List.mem_map.1 hq
  have h1 := hg.low n c hc y hy
  have h2 := (List.getElem?_eq_some_iff.1 hc).1
  refine awOf_may ?_
  cases y with
  | leaf x => exact h1
  | ref b => exact Nat.lt_trans h1 h2

set_option maxHeartbeats 4000000 in
set_option maxRecDepth 100000 in
theorem rCell_any {base rb : Nat} {cs : List HC} {CS : Value} {G : Nat → Prop} (hg : HGood cs) (n : Nat) (c : HC) (hc : cs[n]? = some c) (hlen : c.L.length ≤ 1000) (w : World) (h : RAt base w rb cs CS G) :
    Calls Tryz.prog 33 #[.pointer (some ⟨rb, 0, none⟩), .int .i64 n] w (RCellP c w) := by
  obtain ⟨gc, ccap, A, cp, hCS, k0', k1', k2', hWA⟩ := h.cell hc
  have hnl := (List.getElem?_eq_some_iff.1 hc).1
  have hmay := good_may hg hc
  have hbx := cell_of_row (i := 0) h.box rfl
  rw [hCS] at hbx
  have hWR : WRow (· < w.heap.size) w A c.L.length cp (c.L.map awOf) := by
    by_cases hL : c.L = []
    · rw [hL]; exact ⟨rfl, Nat.zero_le _, fun j q hj => by simp at hj⟩
    · obtain ⟨g, rfl, hG, hW⟩ := hWA hL
      exact hW.keep (fun _ _ => rfl) (fun b hb => by subst hb; exact (h.own _ hG).1)
  have HC := Lib.hid (And.intro k0' (And.intro k1' (And.intro k2' hbx)))
  have HW := Lib.hid hWR
  have HM := Lib.hid hmay
  have HL := Lib.hid hlen
  clear h hc hWA hmay hbx hWR k0' k1' k2' hCS hg hlen
  go_enter Tryz.func33, Tryz.ntmps33
  go_upto_region 1 with fail
  have B1 : Below w.heap.size w (w.alloc (.cells #[.int .i8 0, .int .i64 0, .slice none 0 0] 62)) := (Below.refl _ w).alloc (Nat.le_refl _) _
  have g1 : (w.alloc (.cells #[.int .i8 0, .int .i64 0, .slice none 0 0] 62)).heap[w.heap.size]? = some (.cells #[.int .i8 0, .int .i64 0, .slice none 0 0] 62 (0, 0)) := block_alloc _ _
  generalize w.alloc (.cells #[.int .i8 0, .int .i64 0, .slice none 0 0] 62) = w1 at B1 g1 ⊢
  have k0 := below_cell B1 HC.out.1
  have k1 := below_cell B1 HC.out.2.1
  have k2 := below_cell B1 HC.out.2.2.1
  have kb := below_cell B1 HC.out.2.2.2
  have i0 : (0 : Int) ≤ (n : Int) := by omega
  have i1 : (n : Int) < (cs.length : Int) := by omega
  have i2 : ¬ (cs.length : Int) ≤ (n : Int) := by omega
  have HB1 := Lib.hid B1
  have G1 := Lib.hid g1
  clear B1 g1
  have z0 : (w1.alloc (.cells #[.int .i8 0, .int .i64 0, .slice none 0 0] 62)).cell? ⟨w1.heap.size, 0, none⟩ = some (.int .i8 0) := cell_of_row (block_alloc _ _) rfl
  have zf0 : (w1.alloc (.cells #[.int .i8 0, .int .i64 0, .slice none 0 0] 62)).frozen? ⟨w1.heap.size, 0, none⟩ = false := free_of_row (block_alloc _ _)
  have z1 : (w1.alloc (.cells #[.int .i8 0, .int .i64 0, .slice none 0 0] 62)).cell? ⟨w1.heap.size, 1, none⟩ = some (.int .i64 0) := cell_of_row (block_alloc _ _) rfl
  have zf1 : (w1.alloc (.cells #[.int .i8 0, .int .i64 0, .slice none 0 0] 62)).frozen? ⟨w1.heap.size, 1, none⟩ = false := free_of_row (block_alloc _ _)
  have z2 : (w1.alloc (.cells #[.int .i8 0, .int .i64 0, .slice none 0 0] 62)).cell? ⟨w1.heap.size, 2, none⟩ = some (.slice none 0 0) := cell_of_row (block_alloc _ _) rfl
  have zf2 : (w1.alloc (.cells #[.int .i8 0, .int .i64 0, .slice none 0 0] 62)).frozen? ⟨w1.heap.size, 2, none⟩ = false := free_of_row (block_alloc _ _)
  go_upto_region 4 with fail
  have b2 : Below w1.heap.size w1 (w1.alloc (.cells #[.int .i8 c.k, .int .i64 c.size, .slice A c.L.length cp] 62)) := (Below.refl _ _).alloc (Nat.le_refl _) _
  have g2 : (w1.alloc (.cells #[.int .i8 c.k, .int .i64 c.size, .slice A c.L.length cp] 62)).heap[w1.heap.size]? = some (.cells #[.int .i8 c.k, .int .i64 c.size, .slice A c.L.length cp] 62 (0, 0)) := block_alloc _ _
  have l6 : w1.heap.size < (w1.alloc (.cells #[.int .i8 c.k, .int .i64 c.size, .slice A c.L.length cp] 62)).heap.size := by simp
  obtain ⟨b6, hb6⟩ : ∃ g, g = w1.heap.size := ⟨_, rfl⟩
  rw [← hb6] at g2 l6 ⊢
  generalize w1.alloc (.cells #[.int .i8 c.k, .int .i64 c.size, .slice A c.L.length cp] 62) = w2 at b2 g2 l6 ⊢
  have g4 := (b2.block _ (heap_lt G1.out)).trans G1.out
  have hB2 := HB1.out.trans (b2.mono HB1.out.size)
  have h46 : w.heap.size < b6 := by rw [hb6]; exact heap_lt G1.out
  clear z0 zf0 z1 zf1 z2 zf2 k0 k1 k2 kb b2 HB1 G1 hb6
  refine wp_region_held (S := fun V => V.heap[b6]? = some (.cells #[.int .i8 c.k, .int .i64 c.size, .slice A c.L.length cp] 62 (0, 0))) (by kernel_rfl) ?_
  show wpAnyH _ _ _ _ _ _ _ _ w2.drew
  have hdr : Below w2.heap.size w2 w2.drew := ⟨rfl, rfl, rfl, Nat.le_refl _, fun _ _ => rfl⟩
  have hS0 := (hdr.block _ (heap_lt g2)).trans g2
  have hB := hB2.trans (hdr.mono hB2.size)
  have h4 := (hdr.block _ (heap_lt g4)).trans g4
  clear g2 hB2 g4 hdr
  generalize w2.drew = D at hS0 hB h4 ⊢
  replace hS0 : (fun V : World => V.heap[b6]? = some (.cells #[.int .i8 c.k, .int .i64 c.size, .slice A c.L.length cp] 62 (0, 0))) D := hS0
  refine wpAnyH_take (i := 0) (oi := ⟨some 26, _, _, _, _, _⟩) (v := ?_) rfl (by kernel_rfl) (by kernel_rfl) (by kernel_rfl) (fun _ _ _ h => h) (Or.inl ⟨by kernel_rfl, ?_⟩) (by assumption) ?_; rotate_left; (intro w hSw; (try dsimp only at hSw); have r0 := cell_of_row (i := 0) hSw rfl; have r1 := cell_of_row (i := 1) hSw rfl; have r2 := cell_of_row (i := 2) hSw rfl; go_simp; first | done | with_reducible rfl); (try simp only [Act.put, sI, sZ, sS])
  refine wpAnyH_take (i := 1) (oi := ⟨some 27, _, _, _, _, _⟩) (v := ?_) rfl (by kernel_rfl) (by kernel_rfl) (by kernel_rfl) (fun _ _ _ h => h) (Or.inl ⟨by kernel_rfl, ?_⟩) (by assumption) ?_; rotate_left; (intro w hSw; (try dsimp only at hSw); have r0 := cell_of_row (i := 0) hSw rfl; have r1 := cell_of_row (i := 1) hSw rfl; have r2 := cell_of_row (i := 2) hSw rfl; go_simp; first | done | with_reducible rfl); (try simp only [Act.put, sI, sZ, sS])
  refine wpAnyH_take (i := 2) (oi := ⟨some 28, _, _, _, _, _⟩) (v := ?_) rfl (by kernel_rfl) (by kernel_rfl) (by kernel_rfl) (fun _ _ _ h => h) (Or.inl ⟨by kernel_rfl, ?_⟩) (by assumption) ?_; rotate_left; (intro w hSw; (try dsimp only at hSw); have r0 := cell_of_row (i := 0) hSw rfl; have r1 := cell_of_row (i := 1) hSw rfl; have r2 := cell_of_row (i := 2) hSw rfl; go_simp; first | done | with_reducible rfl); (try simp only [Act.put, sI, sZ, sS])
  refine wpAnyH_take (i := 3) (oi := ⟨some 29, _, _, _, _, _⟩) (v := ?_) rfl (by kernel_rfl) (by kernel_rfl) (by kernel_rfl) (fun _ _ _ h => h) (Or.inl ⟨by kernel_rfl, ?_⟩) (by assumption) ?_; rotate_left; (intro w hSw; (try dsimp only at hSw); have r0 := cell_of_row (i := 0) hSw rfl; have r1 := cell_of_row (i := 1) hSw rfl; have r2 := cell_of_row (i := 2) hSw rfl; go_simp; first | done | with_reducible rfl); (try simp only [Act.put, sI, sZ, sS])
  refine wpAnyH_take (i := 5) (oi := ⟨some 31, _, _, _, _, _⟩) (v := ?_) rfl (by kernel_rfl) (by kernel_rfl) (by kernel_rfl) (fun _ _ _ h => h) (Or.inl ⟨by kernel_rfl, ?_⟩) (by assumption) ?_; rotate_left; (intro w hSw; (try dsimp only at hSw); have r0 := cell_of_row (i := 0) hSw rfl; have r1 := cell_of_row (i := 1) hSw rfl; have r2 := cell_of_row (i := 2) hSw rfl; go_simp; first | done | with_reducible rfl); (try simp only [Act.put, sI, sZ, sS])
  refine wpAnyH_take (i := 6) (oi := ⟨some 32, _, _, _, _, _⟩) (v := ?_) rfl (by kernel_rfl) (by kernel_rfl) (by kernel_rfl) (fun _ _ _ h => h) (Or.inl ⟨by kernel_rfl, ?_⟩) (by assumption) ?_; rotate_left; (intro w hSw; (try dsimp only at hSw); have r0 := cell_of_row (i := 0) hSw rfl; have r1 := cell_of_row (i := 1) hSw rfl; have r2 := cell_of_row (i := 2) hSw rfl; go_simp; first | done | with_reducible rfl); (try simp only [Act.put, sI, sZ, sS])
  refine wpAnyH_ready (rs := [4]) (by kernel_rfl) (by simp) ?_
  refine AllReadyH.cons (o := ⟨some 30, _, _, _, _, _⟩) rfl (fun K hK => ?_) AllReadyH.nil
  rw [if_pos (by rfl)]
  go_simp
  have bx : Below D.heap.size D (D.alloc (.cells #[] 51)) := (Below.refl _ _).alloc (Nat.le_refl _) _
  have g7h := block_alloc D (.cells #[] 51)
  obtain ⟨g7, hg7⟩ : ∃ g, g = D.heap.size := ⟨_, rfl⟩
  rw [← hg7] at g7h ⊢
  have hl7 : w.heap.size < g7 ∧ b6 < g7 := by have := heap_lt h4; have := heap_lt hS0; omega
  clear hg7
  generalize D.alloc (.cells #[] 51) = X7 at bx g7h ⊢
  have hS7 := (bx.block _ (heap_lt hS0)).trans hS0
  have h47 := (bx.block _ (heap_lt h4)).trans h4
  have hB7 := hB.trans (bx.mono hB.size)
  clear bx hB h4 hS0
  refine hK.out _ _ hS7 (fun hSn => ?_)
  clear hK K; (try simp only [Act.put, sI, sZ, sS])
  refine wpAnyH_ready (rs := [7]) (by kernel_rfl) (by simp) ?_
  refine AllReadyH.cons (o := ⟨some 33, _, _, _, _, _⟩) rfl (fun K hK => ?_) AllReadyH.nil
  rw [if_pos (by rfl)]
  have hwr := HW.out.later hB7
  have hll : (c.L.map awOf).length = c.L.length := List.length_map _
  rw [← hll] at hwr
  refine wp_copy_parts (L := c.L.map awOf) (.tmp 30) (.tmp 32) rfl g7 g7h rfl (by rw [hll]; rfl) hwr HM.out (by rw [hll]; exact HL.out) (Nat.le_refl g7) ?_
  intro A9 cap9 X9 m9 h9
  rw [hll]
  have hS9 : (fun V : World => V.heap[b6]? = some (.cells #[.int .i8 c.k, .int .i64 c.size, .slice A c.L.length cp] 62 (0, 0))) X9 := (m9.block _ (heap_lt hS7) (by omega)).trans hS7
  have h49 := (m9.block _ (heap_lt h47) (by omega)).trans h47
  have hB9 := hB7.trans (m9.below hB7.size (fun k e => by subst e; omega))
  refine hK.out _ _ hS9 (fun _ => ?_)
  clear hK K g7h hwr; (try simp only [Act.put, sI, sZ, sS])
  refine wpAnyH_take (i := 8) (oi := ⟨some 34, _, _, _, _, _⟩) (v := ?_) rfl (by kernel_rfl) (by kernel_rfl) (by kernel_rfl) (fun _ _ _ h => h) (Or.inl ⟨by kernel_rfl, ?_⟩) (by assumption) ?_; rotate_left; (intro w hSw; (try dsimp only at hSw); have r0 := cell_of_row (i := 0) hSw rfl; have r1 := cell_of_row (i := 1) hSw rfl; have r2 := cell_of_row (i := 2) hSw rfl; go_simp; first | done | with_reducible rfl); (try simp only [Act.put, sI, sZ, sS])
  have y0 : X9.cell? ⟨w.heap.size, 0, none⟩ = some (.int .i8 0) := cell_of_row h49 rfl
  have y1 : X9.cell? ⟨w.heap.size, 1, none⟩ = some (.int .i64 0) := cell_of_row h49 rfl
  have y2 : X9.cell? ⟨w.heap.size, 2, none⟩ = some (.slice none 0 0) := cell_of_row h49 rfl
  have fz0 : X9.frozen? ⟨w.heap.size, 0, none⟩ = false := free_of_row h49
  have fz1 : X9.frozen? ⟨w.heap.size, 1, none⟩ = false := free_of_row h49
  have fz2 : X9.frozen? ⟨w.heap.size, 2, none⟩ = false := free_of_row h49
  have SV := Lib.hid (set_three (.int .i8 c.k) (.int .i64 c.size) (.slice A9 c.L.length cap9) h49)
  refine wpAnyH_ready (rs := [9]) (by kernel_rfl) (by simp) ?_
  refine AllReadyH.cons (o := ⟨none, _, _, _, _, _⟩) rfl (fun K hK => ?_) AllReadyH.nil
  rw [if_pos (by rfl)]
  go_simp
  obtain ⟨s3, m3⟩ := SV.out
  generalize ((X9.setCell ⟨w.heap.size, 0, none⟩ (.int .i8 c.k)).setCell ⟨w.heap.size, 1, none⟩ (.int .i64 c.size)).setCell ⟨w.heap.size, 2, none⟩ (.slice A9 c.L.length cap9) = X at s3 m3 ⊢
  have hSX : (fun V : World => V.heap[b6]? = some (.cells #[.int .i8 c.k, .int .i64 c.size, .slice A c.L.length cp] 62 (0, 0))) X := (m3.block _ (heap_lt hS9) (by omega)).trans hS9
  have hBX := hB9.trans (m3.below hB9.size (fun k e => by subst e; exact Nat.le_refl _))
  refine hK.out _ _ hSX (fun hSn => ?_)
  clear hK K; (try simp only [Act.put, sI, sZ, sS])
  refine wpAnyH_take (i := 10) (oi := ⟨some 5, _, _, _, _, _⟩) (v := ?_) rfl (by kernel_rfl) (by kernel_rfl) (by kernel_rfl) (fun _ _ _ h => h) (Or.inl ⟨by kernel_rfl, ?_⟩) (by assumption) ?_; rotate_left; (intro w hSw; (try dsimp only at hSw); go_simp; first | done | with_reducible rfl); (try simp only [Act.put, sI, sZ, sS])
  refine wpAnyH_done (by kernel_rfl) ?_ _
  have v0 := cell_of_row (i := 0) s3 rfl
  have v1 := cell_of_row (i := 1) s3 rfl
  have v2 := cell_of_row (i := 2) s3 rfl
  clear y0 y1 y2 fz0 fz1 fz2
  go_wp2_with fail
  refine bodyPost_ret (v := .tuple #[.agg #[.int .i8 c.k, .int .i64 c.size, .slice A9 c.L.length cap9], .int .i64 0]) (by simp [results, Tryz.f33, go_sem, v0, v1, v2]) rfl ⟨A9, cap9, rfl, hBX, fun hL => ?_⟩
  obtain ⟨g9, hA9, hlo, hlt, hW9⟩ := h9 (by simpa using hL)
  rw [awOf_map] at hW9
  rw [hll] at hW9
  refine ⟨g9, hA9, by omega, Nat.lt_of_lt_of_le hlt m3.size, hW9.keep (fun b hb => by subst hb; exact m3.block _ hlt (by omega)) (fun _ h => h)⟩
end Go.Proofs.YtaemfjmmklpjeaaGreatDoor
set_option linter.unusedVariables false
namespace Go
section
variable {P : Program} {C : World → Prop}
theorem wp_region_quiet_C {id : Nat} {Q : Exit → Act → World → Prop} {a : Act} {w : World} {l : List Oper} (hm : P.follows .mixedOrders = true) (hB : Region.lexB .any l.toArray = true) (hC : C w.drew)
    (h : wpQuiet P l.toArray C (fun a' => ∀ w', C w' → Q .normal a' w') l a) : (Code.region id l.toArray true).wp P Q a w :=
  wp_region_quiet (C := C) hm hB hC (by simpa using h)
theorem wpq {ops : Array Oper} {Q : Act → Prop} {a : Act} {o : Oper} {rest : List Oper} {v : Value} (hw : Region.wanted o (yielded ops a.tmps) = true) (h : ∀ V, C V → o.quietAt P a C V v) (hr : wpQuiet P ops C Q rest (a.put o.dst v)) : wpQuiet P ops C Q (o :: rest) a :=
  wpQuiet_step fun K hK => by rw [if_pos hw]; exact ⟨v, h, hK _ hr⟩
end
end Go
namespace Go.Proofs.YtaemfjmmklpjeaaGreatDoor
open Go.RowKit
theorem drew_below (w : World) : Below w.heap.size w w.drew := ⟨rfl, rfl, rfl, Nat.le_refl _, fun _ _ => rfl⟩
theorem aw_cells {P : Nat → Prop} {w : World} {q : AW} {v : Value} (h : AWAt P w q v) : ∃ k n s t A l cap, q.x = .mk k n s t l ∧ v = .agg #[.bool q.c, .int .i64 q.a, .int .i8 k, .int .i64 n, .string s, .string t, .slice A l.length cap] ∧ TmAt P w (.mk k n s t l) (.agg #[.int .i8 k, .int .i64 n, .string s, .string t, .slice A l.length cap]) := by
  obtain ⟨k, n, s, t, A, len, cap, rfl, hT⟩ := h
  obtain ⟨l, hl, rfl⟩ : ∃ l, q.x = .mk k n s t l ∧ len = l.length := by
    generalize q.x = z at hT
    cases hT; exact ⟨_, rfl, rfl⟩
  rw [hl] at hT
  exact ⟨k, n, s, t, A, l, cap, hl, rfl, hT⟩

set_option maxHeartbeats 4000000 in
set_option maxRecDepth 100000 in
theorem sameWord_aw (q : AW) (v u : Value) (w : World) (hv : AWAt (· < w.heap.size) w q v) (hu : AWAt (· < w.heap.size) w q u) :
    Calls Tryz.prog 30 #[v, u] w fun e w' => e = .returned (.bool true) ∧ Below w.heap.size w w' := by
  obtain ⟨kk, nn, ss, tt, A, ll, cap, hx, rfl, hT⟩ := aw_cells hv
  obtain ⟨k', n', s', t', A', l', cap', hx', rfl, hT'⟩ := aw_cells hu
  rw [hx] at hx'
  cases hx'
  obtain ⟨bb, hbb⟩ : ∃ b, b = q.c := ⟨_, rfl⟩
  obtain ⟨aa, haa⟩ : ∃ b, b = q.a := ⟨_, rfl⟩
  rw [← hbb, ← haa]
  clear hx hbb haa hv hu
  obtain ⟨w1, hw1⟩ : ∃ w1, w1 = (w.alloc (.cells #[(.bool bb), (.int .i64 aa), (.int .i8 kk), (.int .i64 nn), (.string ss), (.string tt), (.slice A ll.length cap)] 51)).alloc (.cells #[(.bool bb), (.int .i64 aa), (.int .i8 kk), (.int .i64 nn), (.string ss), (.string tt), (.slice A' ll.length cap')] 51) := ⟨_, rfl⟩
  have B1 : Below w.heap.size w w1 := by rw [hw1]; exact ((Below.refl _ w).alloc (Nat.le_refl _) _).alloc (by simp) _
  have g0 : w1.heap[w.heap.size]? = some (.cells #[(.bool bb), (.int .i64 aa), (.int .i8 kk), (.int .i64 nn), (.string ss), (.string tt), (.slice A ll.length cap)] 51 (0, 0)) := by rw [hw1, Below.heap_alloc _ _ _ (by simp)]; exact block_alloc _ _
  have g1 : w1.heap[w.heap.size + 1]? = some (.cells #[(.bool bb), (.int .i64 aa), (.int .i8 kk), (.int .i64 nn), (.string ss), (.string tt), (.slice A' ll.length cap')] 51 (0, 0)) := by
    have h := block_alloc (w.alloc (.cells #[(.bool bb), (.int .i64 aa), (.int .i8 kk), (.int .i64 nn), (.string ss), (.string tt), (.slice A ll.length cap)] 51)) (.cells #[(.bool bb), (.int .i64 aa), (.int .i8 kk), (.int .i64 nn), (.string ss), (.string tt), (.slice A' ll.length cap')] 51)
    rw [World.size_alloc] at h
    rw [hw1]; exact h
  have HSM := Lib.hid (Same_any (.mk kk nn ss tt ll) (.mk kk nn ss tt ll) _ _ w1 (hT.later B1) (hT'.later B1))
  have HB1 := Lib.hid B1
  have x0 : w1.cell? ⟨w.heap.size, 0, none⟩ = some (.bool bb) := cell_of_row g0 rfl
  have x1 : w1.cell? ⟨w.heap.size, 1, none⟩ = some (.int .i64 aa) := cell_of_row g0 rfl
  have x2 : w1.cell? ⟨w.heap.size, 2, none⟩ = some (.int .i8 kk) := cell_of_row g0 rfl
  have x3 : w1.cell? ⟨w.heap.size, 3, none⟩ = some (.int .i64 nn) := cell_of_row g0 rfl
  have x4 : w1.cell? ⟨w.heap.size, 4, none⟩ = some (.string ss) := cell_of_row g0 rfl
  have x5 : w1.cell? ⟨w.heap.size, 5, none⟩ = some (.string tt) := cell_of_row g0 rfl
  have x6 : w1.cell? ⟨w.heap.size, 6, none⟩ = some (.slice A ll.length cap) := cell_of_row g0 rfl
  have y0 : w1.cell? ⟨(w.heap.size + 1), 0, none⟩ = some (.bool bb) := cell_of_row g1 rfl
  have y1 : w1.cell? ⟨(w.heap.size + 1), 1, none⟩ = some (.int .i64 aa) := cell_of_row g1 rfl
  have y2 : w1.cell? ⟨(w.heap.size + 1), 2, none⟩ = some (.int .i8 kk) := cell_of_row g1 rfl
  have y3 : w1.cell? ⟨(w.heap.size + 1), 3, none⟩ = some (.int .i64 nn) := cell_of_row g1 rfl
  have y4 : w1.cell? ⟨(w.heap.size + 1), 4, none⟩ = some (.string ss) := cell_of_row g1 rfl
  have y5 : w1.cell? ⟨(w.heap.size + 1), 5, none⟩ = some (.string tt) := cell_of_row g1 rfl
  have y6 : w1.cell? ⟨(w.heap.size + 1), 6, none⟩ = some (.slice A' ll.length cap') := cell_of_row g1 rfl
  clear g0 g1 B1 hT hT'
  subst hw1
  go_enter Tryz.func30, Tryz.ntmps30
  go_wp2_with fail
  refine HSM.out.mono ?_
  rintro e V2 ⟨b, rfl, hb, b2⟩
  obtain rfl : b = true := hb.2 rfl
  have HB2 := Lib.hid (HB1.out.trans (b2.mono HB1.out.size))
  clear hb b2
  go_wp2_with fail
  go_ret
  exact ⟨rfl, HB2.out⟩
def PairW (w : World) (A B : Option Addr) (L : List AW) : Prop := ∀ (j : Nat) (q : AW), L[j]? = some q → ∃ a b v u, A = some a ∧ B = some b ∧ a.block < w.heap.size ∧ b.block < w.heap.size ∧ ElemW w a j v ∧ ElemW w b j u ∧ AWAt (· < w.heap.size) w q v ∧ AWAt (· < w.heap.size) w q u
theorem PairW.under {w w' : World} {A B : Option Addr} {L : List AW} (h : PairW w A B L) (b : Below w.heap.size w w') : PairW w' A B L := fun j q hq => by
  obtain ⟨x, y, v, u, ha, hb, h1, h2, h3, h4, h5, h6⟩ := h j q hq
  exact ⟨x, y, v, u, ha, hb, Nat.lt_of_lt_of_le h1 b.size, Nat.lt_of_lt_of_le h2 b.size, h3.keep (b.block _ h1), h4.keep (b.block _ h2), h5.keep (fun k hk => b.block k hk) (fun k hk => Nat.lt_of_lt_of_le hk b.size), h6.keep (fun k hk => b.block k hk) (fun k hk => Nat.lt_of_lt_of_le hk b.size)⟩
theorem PairW.of {w : World} {A B : Option Addr} {n m c d : Nat} {L : List AW} (h : WRow (· < w.heap.size) w A n c L) (g : WRow (· < w.heap.size) w B m d L) : PairW w A B L := fun j q hq => by
  obtain ⟨x, v, ha, h1, h2, h3⟩ := h.at_ j q hq
  obtain ⟨y, u, hb, h4, h5, h6⟩ := g.at_ j q hq
  exact ⟨x, y, v, u, ha, hb, h1, h4, h2, h5, h3, h6⟩

set_option maxRecDepth 100000 in
set_option maxHeartbeats 8000000 in
theorem sameWords_aw (L : List AW) (A B : Option Addr) (n m cap1 cap2 : Nat) (w : World) (hn : L.length = n) (hm : L.length = m) (hP : PairW w A B L) (hl : n ≤ 1000000) :
    Calls Tryz.prog 15 #[.slice A n cap1, .slice B m cap2] w fun e w' => e = .returned (.bool true) ∧ Below w.heap.size w w' := by
  subst hn
  subst hm
  have HP := Lib.hid hP
  clear hP
  go_enter Tryz.func15, Tryz.ntmps15
  go_wp2_with fail
  go_loopw [13] (fun i wr => ∃ j : Nat, j ≤ L.length ∧ i = .int .i64 j ∧ Hid (Below w.heap.size w wr)) (fun i _ => L.length - (intOf i).toNat)
  case atStart => exact ⟨0, Nat.zero_le _, rfl, Below.refl _ _⟩
  case round =>
    obtain ⟨j, hj, rfl, HB⟩ := hrel
    by_cases hlt : j < L.length
    · obtain ⟨q, hq⟩ : ∃ y, L[j]? = some y := ⟨L[j], List.getElem?_eq_getElem hlt⟩
      obtain ⟨ga, gb, v, u, rfl, rfl, hga, hgb, hE, hF, hv, hu⟩ := HP.out j q hq
      obtain ⟨c0, c1, c2, c3, c4, c5, c6, rfl, e0, e1, e2, e3, e4, e5, e6⟩ := hE
      obtain ⟨d0, d1, d2, d3, d4, d5, d6, rfl, f0, f1, f2, f3, f4, f5, f6⟩ := hF
      have HE := Lib.hid (And.intro e0 (And.intro e1 (And.intro e2 (And.intro e3 (And.intro e4 (And.intro e5 e6))))))
      have HF := Lib.hid (And.intro f0 (And.intro f1 (And.intro f2 (And.intro f3 (And.intro f4 (And.intro f5 f6))))))
      have HV := Lib.hid (And.intro hv hu)
      have i0 : (0 : Int) ≤ (j : Int) := by omega
      have i1 : (j : Int) < (L.length : Int) := by omega
      clear e0 e1 e2 e3 e4 e5 e6 f0 f1 f2 f3 f4 f5 f6 hv hu hga hgb hq
      go_wp2_with fail
      refine wp_region_quiet_C (C := fun V => Below w.heap.size w V) (by kernel_rfl) (by kernel_rfl) (HB.out.trans ((drew_below wr).mono HB.out.size)) ?_
      refine wpq (v := ?_) (by kernel_rfl) ?_ ?_; rotate_left; (intro V hV; (try dsimp only at hV); go_simp; first | done | with_reducible rfl); (try simp only [Act.put, sI, sZ, sS])
      refine wpq (v := ?_) (by kernel_rfl) ?_ ?_; rotate_left; (intro V hV; (try dsimp only at hV); go_simp; first | done | with_reducible rfl); (try simp only [Act.put, sI, sZ, sS])
      refine wpq (v := ?_) (by kernel_rfl) ?_ ?_; rotate_left; (intro V hV; (try dsimp only at hV); go_simp; first | done | with_reducible rfl); (try simp only [Act.put, sI, sZ, sS])
      refine wpq (v := ?_) (by kernel_rfl) ?_ ?_; rotate_left; (intro V hV; (try dsimp only at hV); obtain ⟨e0, e1, e2, e3, e4, e5, e6⟩ := HE.out; replace e0 := below_cell hV e0; replace e1 := below_cell hV e1; replace e2 := below_cell hV e2; replace e3 := below_cell hV e3; replace e4 := below_cell hV e4; replace e5 := below_cell hV e5; replace e6 := below_cell hV e6; go_simp; first | done | with_reducible rfl); (try simp only [Act.put, sI, sZ, sS])
      refine wpq (v := ?_) (by kernel_rfl) ?_ ?_; rotate_left; (intro V hV; (try dsimp only at hV); go_simp; first | done | with_reducible rfl); (try simp only [Act.put, sI, sZ, sS])
      refine wpq (v := ?_) (by kernel_rfl) ?_ ?_; rotate_left; (intro V hV; (try dsimp only at hV); go_simp; first | done | with_reducible rfl); (try simp only [Act.put, sI, sZ, sS])
      refine wpq (v := ?_) (by kernel_rfl) ?_ ?_; rotate_left; (intro V hV; (try dsimp only at hV); go_simp; first | done | with_reducible rfl); (try simp only [Act.put, sI, sZ, sS])
      refine wpq (v := ?_) (by kernel_rfl) ?_ ?_; rotate_left; (intro V hV; (try dsimp only at hV); obtain ⟨f0, f1, f2, f3, f4, f5, f6⟩ := HF.out; replace f0 := below_cell hV f0; replace f1 := below_cell hV f1; replace f2 := below_cell hV f2; replace f3 := below_cell hV f3; replace f4 := below_cell hV f4; replace f5 := below_cell hV f5; replace f6 := below_cell hV f6; go_simp; first | done | with_reducible rfl); (try simp only [Act.put, sI, sZ, sS])
      refine wpq (v := .bool true) (by kernel_rfl) ?_ ?_; (· intro V hV; (try dsimp only at hV); go_simp; refine (sameWord_aw q _ _ V (HV.out.1.keep (fun k hk => hV.block k hk) (fun k hk => Nat.lt_of_lt_of_le hk hV.size)) (HV.out.2.keep (fun k hk => hV.block k hk) (fun k hk => Nat.lt_of_lt_of_le hk hV.size))).mono ?_; rintro e V2 ⟨rfl, b2⟩; exact ⟨rfl, hV.trans (b2.mono hV.size)⟩); (try simp only [Act.put, sI, sZ, sS])
      refine wpq (v := ?_) (by kernel_rfl) ?_ ?_; rotate_left; (intro V hV; (try dsimp only at hV); go_simp; first | done | with_reducible rfl); (try simp only [Act.put, sI, sZ, sS])
      refine wpQuiet_nil ?_
      intro V9 h9
      (try dsimp only at h9)
      have HB9 := Lib.hid h9
      clear h9
      go_wp2_with fail
      go_roundw
      case rel => exact ⟨j + 1, by omega, by go_num, HB9⟩
      case measure => simp [intOf]; omega
    · go_wp2_with fail
      go_ret
      exact ⟨rfl, HB.out⟩

set_option maxRecDepth 100000 in
set_option maxHeartbeats 8000000 in
theorem sameCell_aw (L : List AW) (A B : Option Addr) (n m cap1 cap2 : Nat) (k s : Int) (w : World) (hn : L.length = n) (hm : L.length = m) (hP : PairW w A B L) (hl : n ≤ 1000000) :
    Calls Tryz.prog 22 #[.agg #[.int .i8 k, .int .i64 s, .slice A n cap1], .agg #[.int .i8 k, .int .i64 s, .slice B m cap2]] w fun e w' => e = .returned (.bool true) ∧ Below w.heap.size w w' := by
  subst hn
  subst hm
  obtain ⟨w1, hw1⟩ : ∃ w1, w1 = (w.alloc (.cells #[.int .i8 k, .int .i64 s, .slice A L.length cap1] 62)).alloc (.cells #[.int .i8 k, .int .i64 s, .slice B L.length cap2] 62) := ⟨_, rfl⟩
  have B1 : Below w.heap.size w w1 := by rw [hw1]; exact ((Below.refl _ w).alloc (Nat.le_refl _) _).alloc (by simp) _
  have g0 : w1.heap[w.heap.size]? = some (.cells #[.int .i8 k, .int .i64 s, .slice A L.length cap1] 62 (0, 0)) := by rw [hw1, Below.heap_alloc _ _ _ (by simp)]; exact block_alloc _ _
  have g1 : w1.heap[w.heap.size + 1]? = some (.cells #[.int .i8 k, .int .i64 s, .slice B L.length cap2] 62 (0, 0)) := by
    have h := block_alloc (w.alloc (.cells #[.int .i8 k, .int .i64 s, .slice A L.length cap1] 62)) (.cells #[.int .i8 k, .int .i64 s, .slice B L.length cap2] 62)
    rw [World.size_alloc] at h
    rw [hw1]; exact h
  have HP := Lib.hid (hP.under B1)
  have HB1 := Lib.hid B1
  have HG := Lib.hid (And.intro g0 g1)
  have HZ : Hid (w.heap.size ≤ w1.heap.size) := B1.size
  have x0 : w1.cell? ⟨w.heap.size, 0, none⟩ = some (.int .i8 k) := cell_of_row g0 rfl
  have x1 : w1.cell? ⟨w.heap.size, 1, none⟩ = some (.int .i64 s) := cell_of_row g0 rfl
  have x2 : w1.cell? ⟨w.heap.size, 2, none⟩ = some (.slice A L.length cap1) := cell_of_row g0 rfl
  have y0 : w1.cell? ⟨w.heap.size + 1, 0, none⟩ = some (.int .i8 k) := cell_of_row g1 rfl
  have y1 : w1.cell? ⟨w.heap.size + 1, 1, none⟩ = some (.int .i64 s) := cell_of_row g1 rfl
  have y2 : w1.cell? ⟨w.heap.size + 1, 2, none⟩ = some (.slice B L.length cap2) := cell_of_row g1 rfl
  clear hP B1 g0 g1
  go_enter Tryz.func22, Tryz.ntmps22
  go_wp2_with fail
  rw [← hw1]
  go_wp2_with fail
  clear x0 x1 x2 y0 y1 y2 hw1
  go_loopw [5] (fun i wr => ∃ j : Nat, j ≤ L.length ∧ i = .int .i64 j ∧ Hid (Below w1.heap.size w1 wr)) (fun i _ => L.length - (intOf i).toNat)
  case atStart => exact ⟨0, Nat.zero_le _, rfl, Below.refl _ _⟩
  case round =>
    obtain ⟨j, hj, rfl, HB⟩ := hrel
    have x2 : wr.cell? ⟨w.heap.size, 2, none⟩ = some (.slice A L.length cap1) := below_cell HB.out (cell_of_row HG.out.1 rfl)
    have y2 : wr.cell? ⟨w.heap.size + 1, 2, none⟩ = some (.slice B L.length cap2) := below_cell HB.out (cell_of_row HG.out.2 rfl)
    by_cases hlt : j < L.length
    · obtain ⟨q, hq⟩ : ∃ y, L[j]? = some y := ⟨L[j], List.getElem?_eq_getElem hlt⟩
      obtain ⟨ga, gb, v, u, rfl, rfl, hga, hgb, hE, hF, hv, hu⟩ := HP.out j q hq
      obtain ⟨c0, c1, c2, c3, c4, c5, c6, rfl, e0, e1, e2, e3, e4, e5, e6⟩ := hE
      obtain ⟨d0, d1, d2, d3, d4, d5, d6, rfl, f0, f1, f2, f3, f4, f5, f6⟩ := hF
      have HE := Lib.hid (And.intro e0 (And.intro e1 (And.intro e2 (And.intro e3 (And.intro e4 (And.intro e5 e6))))))
      have HF := Lib.hid (And.intro f0 (And.intro f1 (And.intro f2 (And.intro f3 (And.intro f4 (And.intro f5 f6))))))
      have HV := Lib.hid (And.intro hv hu)
      have i0 : (0 : Int) ≤ (j : Int) := by omega
      have i1 : (j : Int) < (L.length : Int) := by omega
      clear e0 e1 e2 e3 e4 e5 e6 f0 f1 f2 f3 f4 f5 f6 hv hu hga hgb hq
      go_wp2_with fail
      clear x2 y2
      refine wp_region_quiet_C (C := fun V => Below w1.heap.size w1 V) (by kernel_rfl) (by kernel_rfl) (HB.out.trans ((drew_below wr).mono HB.out.size)) ?_
      refine wpq (v := ?_) (by kernel_rfl) ?_ ?_; rotate_left; (intro V hV; (try dsimp only at hV); go_simp; first | done | with_reducible rfl); (try simp only [Act.put, sI, sZ, sS])
      refine wpq (v := ?_) (by kernel_rfl) ?_ ?_; rotate_left; (intro V hV; (try dsimp only at hV); have x2 : V.cell? ⟨w.heap.size, 2, none⟩ = some _ := below_cell hV (cell_of_row HG.out.1 rfl); go_simp; first | done | with_reducible rfl); (try simp only [Act.put, sI, sZ, sS])
      refine wpq (v := ?_) (by kernel_rfl) ?_ ?_; rotate_left; (intro V hV; (try dsimp only at hV); go_simp; first | done | with_reducible rfl); (try simp only [Act.put, sI, sZ, sS])
      refine wpq (v := ?_) (by kernel_rfl) ?_ ?_; rotate_left; (intro V hV; (try dsimp only at hV); go_simp; first | done | with_reducible rfl); (try simp only [Act.put, sI, sZ, sS])
      refine wpq (v := ?_) (by kernel_rfl) ?_ ?_; rotate_left; (intro V hV; (try dsimp only at hV); obtain ⟨e0, e1, e2, e3, e4, e5, e6⟩ := HE.out; replace e0 := below_cell hV e0; replace e1 := below_cell hV e1; replace e2 := below_cell hV e2; replace e3 := below_cell hV e3; replace e4 := below_cell hV e4; replace e5 := below_cell hV e5; replace e6 := below_cell hV e6; go_simp; first | done | with_reducible rfl); (try simp only [Act.put, sI, sZ, sS])
      refine wpq (v := ?_) (by kernel_rfl) ?_ ?_; rotate_left; (intro V hV; (try dsimp only at hV); go_simp; first | done | with_reducible rfl); (try simp only [Act.put, sI, sZ, sS])
      refine wpq (v := ?_) (by kernel_rfl) ?_ ?_; rotate_left; (intro V hV; (try dsimp only at hV); have y2 : V.cell? ⟨w.heap.size + 1, 2, none⟩ = some _ := below_cell hV (cell_of_row HG.out.2 rfl); go_simp; first | done | with_reducible rfl); (try simp only [Act.put, sI, sZ, sS])
      refine wpq (v := ?_) (by kernel_rfl) ?_ ?_; rotate_left; (intro V hV; (try dsimp only at hV); go_simp; first | done | with_reducible rfl); (try simp only [Act.put, sI, sZ, sS])
      refine wpq (v := ?_) (by kernel_rfl) ?_ ?_; rotate_left; (intro V hV; (try dsimp only at hV); go_simp; first | done | with_reducible rfl); (try simp only [Act.put, sI, sZ, sS])
      refine wpq (v := ?_) (by kernel_rfl) ?_ ?_; rotate_left; (intro V hV; (try dsimp only at hV); obtain ⟨f0, f1, f2, f3, f4, f5, f6⟩ := HF.out; replace f0 := below_cell hV f0; replace f1 := below_cell hV f1; replace f2 := below_cell hV f2; replace f3 := below_cell hV f3; replace f4 := below_cell hV f4; replace f5 := below_cell hV f5; replace f6 := below_cell hV f6; go_simp; first | done | with_reducible rfl); (try simp only [Act.put, sI, sZ, sS])
      refine wpq (v := .bool true) (by kernel_rfl) ?_ ?_; (· intro V hV; (try dsimp only at hV); go_simp; refine (sameWord_aw q _ _ V (HV.out.1.keep (fun k hk => hV.block k hk) (fun k hk => Nat.lt_of_lt_of_le hk hV.size)) (HV.out.2.keep (fun k hk => hV.block k hk) (fun k hk => Nat.lt_of_lt_of_le hk hV.size))).mono ?_; rintro e V2 ⟨rfl, b2⟩; exact ⟨rfl, hV.trans (b2.mono hV.size)⟩); (try simp only [Act.put, sI, sZ, sS])
      refine wpq (v := ?_) (by kernel_rfl) ?_ ?_; rotate_left; (intro V hV; (try dsimp only at hV); go_simp; first | done | with_reducible rfl); (try simp only [Act.put, sI, sZ, sS])
      refine wpQuiet_nil ?_
      intro V9 h9
      (try dsimp only at h9)
      have HB9 := Lib.hid h9
      clear h9
      go_wp2_with fail
      go_roundw
      case rel => exact ⟨j + 1, by omega, by go_num, HB9⟩
      case measure => simp [intOf]; omega
    · go_wp2_with fail
      go_ret
      exact ⟨rfl, HB1.out.trans (HB.out.mono HB1.out.size)⟩

set_option maxRecDepth 100000 in
set_option maxHeartbeats 8000000 in
theorem ints_same (PL : List Nat) (A B : Option Addr) (cap1 cap2 : Nat) (w : World) (h1 : PRow w A cap1 PL) (h2 : PRow w B cap2 PL) (hl : PL.length ≤ 100000000) :
    Calls Tryz.prog 16 #[.slice A PL.length cap1, .slice B PL.length cap2] w fun e w' => e = .returned (.bool true) ∧ Below w.heap.size w w' := by
  have H1 := Lib.hid h1
  have H2 := Lib.hid h2
  clear h1 h2
  go_enter Tryz.func16, Tryz.ntmps16
  go_wp2_with fail
  go_loopw [5] (fun i wr => ∃ j : Nat, j ≤ PL.length ∧ i = .int .i64 j ∧ Hid (Below w.heap.size w wr)) (fun i _ => PL.length - (intOf i).toNat)
  case atStart => exact ⟨0, Nat.zero_le _, rfl, Below.refl _ _⟩
  case round =>
    obtain ⟨j, hj, rfl, HB⟩ := hrel
    by_cases hlt : j < PL.length
    · obtain ⟨a, ha⟩ : ∃ y, PL[j]? = some y := ⟨PL[j], List.getElem?_eq_getElem hlt⟩
      obtain ⟨g, rfl, e0⟩ := H1.out.row j a ha
      obtain ⟨g', rfl, f0⟩ := H2.out.row j a ha
      have HE := Lib.hid (And.intro e0 f0)
      have i0 : (0 : Int) ≤ (j : Int) := by omega
      have i1 : (j : Int) < (PL.length : Int) := by omega
      clear ha e0 f0
      go_wp2_with fail
      refine wp_region_quiet_C (C := fun V => Below w.heap.size w V) (by kernel_rfl) (by kernel_rfl) (HB.out.trans ((drew_below wr).mono HB.out.size)) ?_
      refine wpq (v := ?_) (by kernel_rfl) ?_ ?_; rotate_left; (intro V hV; (try dsimp only at hV); go_simp; first | done | with_reducible rfl); (try simp only [Act.put, sI, sZ, sS])
      refine wpq (v := ?_) (by kernel_rfl) ?_ ?_; rotate_left; (intro V hV; (try dsimp only at hV); go_simp; first | done | with_reducible rfl); (try simp only [Act.put, sI, sZ, sS])
      refine wpq (v := ?_) (by kernel_rfl) ?_ ?_; rotate_left; (intro V hV; (try dsimp only at hV); go_simp; first | done | with_reducible rfl); (try simp only [Act.put, sI, sZ, sS])
      refine wpq (v := ?_) (by kernel_rfl) ?_ ?_; rotate_left; (intro V hV; (try dsimp only at hV); have e0 := below_cell hV HE.out.1; have f0 := below_cell hV HE.out.2; go_simp; first | done | with_reducible rfl); (try simp only [Act.put, sI, sZ, sS])
      refine wpq (v := ?_) (by kernel_rfl) ?_ ?_; rotate_left; (intro V hV; (try dsimp only at hV); go_simp; first | done | with_reducible rfl); (try simp only [Act.put, sI, sZ, sS])
      refine wpq (v := ?_) (by kernel_rfl) ?_ ?_; rotate_left; (intro V hV; (try dsimp only at hV); go_simp; first | done | with_reducible rfl); (try simp only [Act.put, sI, sZ, sS])
      refine wpq (v := ?_) (by kernel_rfl) ?_ ?_; rotate_left; (intro V hV; (try dsimp only at hV); go_simp; first | done | with_reducible rfl); (try simp only [Act.put, sI, sZ, sS])
      refine wpq (v := ?_) (by kernel_rfl) ?_ ?_; rotate_left; (intro V hV; (try dsimp only at hV); have e0 := below_cell hV HE.out.1; have f0 := below_cell hV HE.out.2; go_simp; first | done | with_reducible rfl); (try simp only [Act.put, sI, sZ, sS])
      refine wpq (v := ?_) (by kernel_rfl) ?_ ?_; rotate_left; (intro V hV; (try dsimp only at hV); go_simp; first | done | with_reducible rfl); (try simp only [Act.put, sI, sZ, sS])
      refine wpQuiet_nil ?_
      intro V9 h9
      (try dsimp only at h9)
      have HB9 := Lib.hid h9
      clear h9
      go_wp2_with fail
      go_roundw
      case rel => exact ⟨j + 1, by omega, by go_num, HB9⟩
      case measure => simp [intOf]; omega
    · go_wp2_with fail
      go_ret
      exact ⟨rfl, HB.out⟩
end Go.Proofs.YtaemfjmmklpjeaaGreatDoor
set_option linter.unusedVariables false
namespace Go.Proofs.YtaemfjmmklpjeaaGreatDoor
open Go.RowKit

theorem cmpI_neg_o (a b : Int) : cmpI b a = - cmpI a b := by
  unfold cmpI
  by_cases h1 : a < b
  · have h2 : ¬ b < a := by omega
    simp [h1, h2]
  · by_cases h2 : b < a <;> simp [h1, h2]
theorem cmpI_zero_o {a b : Int} : cmpI a b = 0 ↔ a = b := by
  unfold cmpI
  by_cases h1 : a < b
  · simp [h1]; omega
  · by_cases h2 : b < a <;> simp [h1, h2] <;> omega
def cL_o (l m : List UInt8) : Int := if Op.bytesLess l m = true then -1 else if l = m then 0 else 1
theorem cL_cons_o (a b : UInt8) (l m : List UInt8) : cL_o (a :: l) (b :: m) = if a < b then -1 else if b < a then 1 else cL_o l m := by
  unfold cL_o
  rw [Op.bytesLess]
  by_cases h1 : a < b
  · simp [h1]
  · by_cases h2 : b < a
    · have hne : a ≠ b := fun e => by subst e; exact h1 h2
      simp [h1, h2, hne]
    · have he : a = b := by
        rw [UInt8.lt_iff_toNat_lt] at h1 h2
        exact UInt8.toNat_inj.1 (by omega)
      subst he
      simp [h1]
theorem cL_zero_o {l : List UInt8} : ∀ {m : List UInt8}, cL_o l m = 0 ↔ l = m := by
  induction l with
  | nil =>
    intro m; cases m with
    | nil => simp [cL_o, Op.bytesLess]
    | cons b m => simp [cL_o, Op.bytesLess]
  | cons a l ih =>
    intro m
    cases m with
    | nil => simp [cL_o, Op.bytesLess]
    | cons b m =>
      rw [cL_cons_o]
      by_cases h1 : a < b
      · have hne : a ≠ b := fun e => by subst e; rw [UInt8.lt_iff_toNat_lt] at h1; omega
        simp [h1, hne]
      · by_cases h2 : b < a
        · have hne : a ≠ b := fun e => by subst e; exact h1 h2
          simp [h1, h2, hne]
        · have he : a = b := by
            rw [UInt8.lt_iff_toNat_lt] at h1 h2
            exact UInt8.toNat_inj.1 (by omega)
          subst he
          simp [h1, ih]
theorem cL_neg_o : ∀ l m : List UInt8, cL_o m l = - cL_o l m := by
  intro l
  induction l with
  | nil => intro m; cases m <;> simp [cL_o, Op.bytesLess]
  | cons a l ih =>
    intro m
    cases m with
    | nil => simp [cL_o, Op.bytesLess]
    | cons b m =>
      rw [cL_cons_o, cL_cons_o]
      by_cases h1 : a < b
      · have h2 : ¬ b < a := by rw [UInt8.lt_iff_toNat_lt] at h1 ⊢; omega
        simp [h1, h2]
      · by_cases h2 : b < a
        · simp [h1, h2]
        · simp [h1, h2, ih m]
theorem cmpS_eq_o (a b : ByteArray) : cmpS a b = cL_o a.data.toList b.data.toList := by
  unfold cmpS cL_o
  rw [ByteArray.toList_eq, ByteArray.toList_eq]
theorem cmpS_neg_o (a b : ByteArray) : cmpS b a = - cmpS a b := by rw [cmpS_eq_o, cmpS_eq_o]; exact cL_neg_o _ _
theorem cmpS_zero_o {a b : ByteArray} : cmpS a b = 0 ↔ a = b := by
  rw [cmpS_eq_o, cL_zero_o]
  exact ⟨fun h => ByteArray.ext (Array.toList_inj.1 h), fun h => by rw [h]⟩
theorem or3_o (a b c : Int) : orL [a, b, c] = if a = 0 then (if b = 0 then c else b) else a := by
  simp only [orL]
  by_cases h1 : a = 0 <;> by_cases h2 : b = 0 <;> by_cases h3 : c = 0 <;> simp [h1, h2, h3]

theorem ordN_neg_o (x : Tm) : ∀ y, ordN y x = - ordN x y := by
  induction x using Tm.ind with
  | h k n s t l ih =>
    intro y
    obtain ⟨k', n', s', t', m⟩ := y
    by_cases hk : k = k'
    · subst hk
      rw [ordN_eq, ordN_eq]
      by_cases h1 : k = 1
      · rw [if_pos h1, if_pos h1]; exact cmpS_neg_o _ _
      · rw [if_neg h1, if_neg h1]
        by_cases h3 : k = 3
        · rw [if_pos h3, if_pos h3, or3_o, or3_o, cmpS_neg_o s s', cmpS_neg_o t t', cmpI_neg_o n n']
          by_cases e1 : cmpS s s' = 0 <;> by_cases e2 : cmpS t t' = 0 <;> simp [e1, e2]
        · rw [if_neg h3, if_neg h3]
          by_cases h5 : k = 5 ∨ k = 7
          · rw [if_pos h5, if_pos h5]
            unfold ordR
            by_cases hl : l.length = m.length
            · rw [if_neg (by simpa using hl.symm), if_neg (by simpa using hl)]
              clear hl
              induction l generalizing m with
              | nil => cases m <;> simp [ordL]
              | cons a l ihl =>
                cases m with
                | nil => simp [ordL]
                | cons b m =>
                  rw [ordL, ordL, ih a (by simp) b]
                  by_cases e : ordN a b = 0
                  · simp [e]; exact ihl (fun x hx => ih x (by simp [hx])) m
                  · have e' : ¬ (- ordN a b = 0) := by omega
                    rw [if_neg e', if_neg e]
            · rw [if_pos (fun h => hl h.symm), if_pos hl]
              exact cmpI_neg_o _ _
          · rw [if_neg h5, if_neg h5]; exact cmpI_neg_o _ _
    · have e1 : ordN (.mk k n s t l) (.mk k' n' s' t' m) = cmpI k k' := by rw [ordN]; exact if_pos hk
      have e2 : ordN (.mk k' n' s' t' m) (.mk k n s t l) = cmpI k' k := by rw [ordN]; exact if_pos (fun h => hk h.symm)
      rw [e1, e2]; exact cmpI_neg_o _ _

theorem ordN_self_o (x : Tm) : ordN x x = 0 := by have := ordN_neg_o x x; omega

theorem ordN_zero_o (x : Tm) : ∀ y, Valid x → Valid y → ordN x y = 0 → x = y := by
  induction x using Tm.ind with
  | h k n s t l ih =>
    intro y hx hy h0
    obtain ⟨k', n', s', t', m⟩ := y
    by_cases hk : k = k'
    · subst hk
      have rows : ∀ (l m : List Tm), (∀ x ∈ l, ∀ y, Valid x → Valid y → ordN x y = 0 → x = y) → (∀ x ∈ l, Valid x) → (∀ x ∈ m, Valid x) → ordR l m = 0 → l = m := by
        intro l m ih hl hm h
        unfold ordR at h
        by_cases hlen : l.length = m.length
        · rw [if_neg (by simpa using hlen)] at h
          induction l generalizing m with
          | nil => exact (List.length_eq_zero_iff.1 hlen.symm).symm
          | cons a l ihl =>
            cases m with
            | nil => simp at hlen
            | cons b m =>
              rw [ordL] at h
              by_cases e : ordN a b = 0
              · rw [if_pos e] at h
                rw [ih a (by simp) b (hl a (by simp)) (hm b (by simp)) e, ihl m (fun x hx => ih x (by simp [hx])) (fun x hx => hl x (by simp [hx])) (fun x hx => hm x (by simp [hx])) h (by simpa using hlen)]
              · rw [if_neg e] at h; exact absurd h e
        · rw [if_pos (by simpa using hlen)] at h
          have := cmpI_zero_o.1 h
          omega
      have hr := rows l m ih (fun y hy => hx.part hy) (fun z hz => hy.part hz)
      rw [ordN_eq] at h0
      rcases valid_cases hx.own with h | h | h | h | h | h | h | h <;> rcases valid_cases hy.own with h' | h' | h' | h' | h' | h' | h' | h'
      all_goals first
        | (exfalso; have h1 := h.1; have h2 := h'.1; omega)
        | skip
      · obtain ⟨rfl, rfl, rfl, rfl⟩ := h; obtain ⟨_, rfl, rfl, rfl⟩ := h'; simp at h0; rw [cmpI_zero_o.1 h0]
      · obtain ⟨rfl, rfl, rfl, rfl⟩ := h; obtain ⟨_, rfl, rfl, rfl⟩ := h'; simp at h0; rw [cmpS_zero_o.1 h0]
      · obtain ⟨rfl, rfl, rfl, rfl⟩ := h; obtain ⟨_, rfl, rfl, rfl⟩ := h'; simp at h0; rw [cmpI_zero_o.1 h0]
      · obtain ⟨rfl, rfl⟩ := h; obtain ⟨_, rfl⟩ := h'; simp [or3_o] at h0
        split at h0
        · rename_i e1
          split at h0
          · rename_i e2; rw [cmpS_zero_o.1 e1, cmpS_zero_o.1 e2, cmpI_zero_o.1 h0]
          · rename_i e2; exact absurd h0 e2
        · rename_i e1; exact absurd h0 e1
      · obtain ⟨rfl, rfl, rfl, rfl⟩ := h; obtain ⟨_, rfl, rfl, rfl⟩ := h'; simp at h0; rw [cmpI_zero_o.1 h0]
      · obtain ⟨rfl, rfl, rfl, rfl⟩ := h; obtain ⟨_, rfl, rfl, rfl⟩ := h'; simp at h0; rw [hr h0]
      · obtain ⟨rfl, rfl, rfl, rfl, rfl⟩ := h; obtain ⟨_, rfl, rfl, rfl, rfl⟩ := h'; rfl
      · obtain ⟨rfl, rfl, rfl, rfl, _⟩ := h; obtain ⟨_, rfl, rfl, rfl, _⟩ := h'; simp at h0; rw [hr h0]
    · have e1 : ordN (.mk k n s t l) (.mk k' n' s' t' m) = cmpI k k' := by rw [ordN]; exact if_pos hk
      rw [e1] at h0
      exact absurd (cmpI_zero_o.1 h0) hk
theorem taken_ok {cs : List HC} (hg : HGood cs) : ∀ (f : Nat) (y : HW), wgood f y → f ≤ cs.length → Valid (wt cs f y) ∧ (wt cs f y).nodes = wsize cs y := by
  have hleaf : ∀ (f : Nat) (x : Tm), leafE x = 0 → Valid (wt cs f (.leaf x)) ∧ (wt cs f (.leaf x)).nodes = wsize cs (.leaf x) := by
    intro f x hx
    have e : wt cs f (.leaf x) = x := by
      have hl := (leaf_bounds hx).1
      obtain ⟨k, n, s, t, l⟩ := x
      obtain rfl : l = [] := hl
      cases f <;> rfl
    rw [e]
    have hv : checkN x = 0 := leaf_check hx
    obtain ⟨hV, hn⟩ := check_valid hv
    refine ⟨hV, ?_⟩
    have hl := (leaf_bounds hx).1
    obtain ⟨k, n, s, t, l⟩ := x
    obtain rfl : l = [] := hl
    unfold Tm.nodes
    simp [Tm.pre, Tm.pres, wsize]
  intro f
  induction f with
  | zero =>
    intro y hy _
    cases y with
    | ref a => exact absurd hy (Nat.not_lt_zero _)
    | leaf x => exact hleaf 0 x hy
  | succ f ih =>
    intro y hy hf
    cases y with
    | leaf x => exact hleaf _ x hy
    | ref a =>
      have hac : a < cs.length := Nat.lt_of_lt_of_le hy hf
      obtain ⟨c, hc⟩ : ∃ c, cs[a]? = some c := ⟨cs[a], List.getElem?_eq_getElem hac⟩
      have hpl : ∀ y ∈ c.L, wgood f y := fun y hy' => by
        have h1 := hg.low a c hc y hy'
        cases y with
        | leaf x => exact h1
        | ref b => exact Nat.lt_of_lt_of_le h1 (by have : a < f + 1 := hy; omega)
      rw [wt_ref hc]
      have hpre : ∀ L : List HW, (∀ y ∈ L, wgood f y) → (∀ z ∈ Tm.pres (L.map (wt cs f)), okB z = true) ∧ (Tm.pres (L.map (wt cs f))).length + 1 = wsum cs L := by
        intro L
        induction L with
        | nil => intro _; exact ⟨fun z hz => by simp [Tm.pres] at hz, by simp [Tm.pres, wsum]⟩
        | cons y L ihl =>
          intro h
          obtain ⟨h1, h2⟩ := ih y (h y (by simp)) (by omega)
          obtain ⟨h3, h4⟩ := ihl (fun z hz => h z (List.mem_cons_of_mem _ hz))
          rw [List.map_cons, Tm.pres]
          refine ⟨fun z hz => ?_, ?_⟩
          · rcases List.mem_append.1 hz with hz | hz
            · exact h1 z hz
            · exact h3 z hz
          · rw [List.length_append]
            unfold Tm.nodes at h2
            simp only [wsum]
            omega
      obtain ⟨h5, h6⟩ := hpre c.L hpl
      refine ⟨fun z hz => ?_, ?_⟩
      · rw [Tm.pre] at hz
        rcases List.mem_cons.1 hz with rfl | hz
        · rcases hg.kind a c hc with hk | ⟨hk, hl⟩
          · rw [hk]
            unfold okB okN
            simp [Tm.k, Tm.n, Tm.s, Tm.t, ok_tuple]
          · rw [hk]
            unfold okB okN
            simp [Tm.k, Tm.n, Tm.s, Tm.t, Tm.l, ok_cons, hl]
        · exact h5 z hz
      · have hsz := hg.size a c hc
        unfold Tm.nodes
        rw [Tm.pre, List.length_cons, h6]
        unfold wsize
        simp only [hc]
        omega
theorem taken_check {cs : List HC} (hg : HGood cs) {y : HW} (hy : wgood cs.length y) : checkN (wt cs cs.length y) = 0 := by
  obtain ⟨h1, h2⟩ := taken_ok hg cs.length y hy (Nat.le_refl _)
  refine check_of h1 ?_
  rw [h2]
  exact wsize_le hg.most y
theorem taken_eq {cs : List HC} (hg : HGood cs) {y z : HW} (hy : wgood cs.length y) (hz : wgood cs.length z) : compN (wt cs cs.length y) (wt cs cs.length z) = 0 ↔ wt cs cs.length y = wt cs cs.length z := by
  have e : compN (wt cs cs.length y) (wt cs cs.length z) = ordN (wt cs cs.length y) (wt cs cs.length z) := by
    unfold compN
    rw [if_pos ⟨taken_check hg hy, taken_check hg hz⟩]
  rw [e]
  constructor
  · intro h
    exact ordN_zero_o _ _ (taken_ok hg cs.length y hy (Nat.le_refl _)).1 (taken_ok hg cs.length z hz (Nat.le_refl _)).1 h
  · intro h
    rw [h]
    exact ordN_self_o _
end Go.Proofs.YtaemfjmmklpjeaaGreatDoor
set_option linter.unusedVariables false
namespace Go.Proofs.YtaemfjmmklpjeaaGreatDoor
open Go.RowKit

theorem cell_len {cs : List HC} (hg : HGood cs) {n : Nat} {c : HC} (hc : cs[n]? = some c) : c.L.length + 1 ≤ 256 := by
  have h1 := hg.size n c hc
  have h2 := hg.most n c hc
  have h3 : ∀ L : List HW, (∀ y ∈ L, 1 ≤ wsize cs y) → L.length + 1 ≤ wsum cs L := by
    intro L
    induction L with
    | nil => intro _; simp [wsum]
    | cons y L ih => intro h; have := h y (by simp); have := ih (fun z hz => h z (by simp [hz])); simp [wsum]; omega
  have h4 := h3 c.L (fun y hy => by
    cases y with
    | leaf x => exact Nat.le_refl 1
    | ref b =>
      unfold wsize
      cases hb : cs[b]? with
      | none => simp only [hb]; omega
      | some d =>
        simp only [hb]
        have := hg.size b d hb
        have h5 : ∀ L : List HW, 1 ≤ wsum cs L := by intro L; induction L with | nil => simp [wsum] | cons y L ih => simp [wsum]; omega
        have := h5 d.L
        omega)
  omega
def On (T : List Bool) (n : Nat) : Prop := T[n]? = some true
theorem On.set {T : List Bool} {a n : Nat} (h : On T n) : On (T.set a true) n := by
  unfold On at *
  rw [List.getElem?_set]
  split
  · subst_vars
    rw [if_pos (List.getElem?_eq_some_iff.1 h).1]
  · exact h
theorem On.of_set {T : List Bool} {a n : Nat} (h : On (T.set a true) n) : n = a ∨ On T n := by
  unfold On at *
  rw [List.getElem?_set] at h
  split at h
  · exact .inl (by omega)
  · exact .inr h
theorem On.same {T : List Bool} {a : Nat} (h : a < T.length) : On (T.set a true) a := by
  unfold On
  rw [List.getElem?_set, if_pos rfl, if_pos h]
structure RI (cs : List HC) (rs : List Nat) (i : Nat) (T : List Bool) : Prop where
  len : T.length = cs.length
  sound : ∀ n, On T n → Rch cs rs n
  root : ∀ n ∈ rs, On T n
  shut : ∀ a c b, i ≤ a → cs[a]? = some c → On T a → HW.ref b ∈ c.L → On T b
structure RJ (cs : List HC) (rs : List Nat) (i k : Nat) (c : HC) (T : List Bool) : Prop where
  ri : RI cs rs (i + 1) T
  part : ∀ k' b, k' < k → c.L[k']? = some (.ref b) → On T b
theorem RJ.skip {cs : List HC} {rs : List Nat} {i k : Nat} {c : HC} {T : List Bool} (h : RJ cs rs i k c T) {x : Tm} (hk : c.L[k]? = some (.leaf x)) : RJ cs rs i (k + 1) c T :=
  ⟨h.ri, fun k' b hk' hb => by
    rcases Nat.lt_succ_iff_lt_or_eq.1 hk' with h1 | rfl
    · exact h.part k' b h1 hb
    · rw [hk] at hb; cases hb⟩
theorem RJ.set {cs : List HC} {rs : List Nat} {i k b : Nat} {c : HC} {T : List Bool} (hg : HGood cs) (h : RJ cs rs i k c T) (hc : cs[i]? = some c) (hi : On T i) (hk : c.L[k]? = some (.ref b)) : RJ cs rs i (k + 1) c (T.set b true) := by
  have hbi : b < i := hg.low i c hc _ (List.mem_of_getElem? hk)
  have hil : i < cs.length := (List.getElem?_eq_some_iff.1 hc).1
  refine ⟨⟨by rw [List.length_set]; exact h.ri.len, fun n hn => ?_, fun n hn => (h.ri.root n hn).set, fun a c' b' ha hc' hon hb' => ?_⟩, fun k' b' hk' hb' => ?_⟩
  · rcases hn.of_set with rfl | hn
    · exact .part (h.ri.sound i hi) hc (List.mem_of_getElem? hk)
    · exact h.ri.sound n hn
  · rcases hon.of_set with rfl | hon
    · omega
    · exact (h.ri.shut a c' b' ha hc' hon hb').set
  · rcases Nat.lt_succ_iff_lt_or_eq.1 hk' with h1 | rfl
    · exact (h.part k' b' h1 hb').set
    · rw [hk] at hb'; cases hb'
      exact On.same (by rw [h.ri.len]; omega)
theorem RJ.done {cs : List HC} {rs : List Nat} {i k : Nat} {c : HC} {T : List Bool} (h : RJ cs rs i k c T) (hc : cs[i]? = some c) (he : ¬ On T i ∨ c.L.length ≤ k) : RI cs rs i T :=
  ⟨h.ri.len, h.ri.sound, h.ri.root, fun a c' b ha hc' hon hb => by
    rcases Nat.lt_or_eq_of_le ha with h1 | rfl
    · exact h.ri.shut a c' b h1 hc' hon hb
    · rw [hc] at hc'; cases hc'
      rcases he with he | he
      · exact absurd hon he
      · obtain ⟨k', hk'⟩ := List.getElem?_of_mem hb
        exact h.part k' b (by have := (List.getElem?_eq_some_iff.1 hk').1; omega) hk'⟩
theorem RI.start {cs : List HC} {rs : List Nat} {T : List Bool} (hl : T.length = cs.length) (h : ∀ n, On T n ↔ n ∈ rs) : RI cs rs cs.length T :=
  ⟨hl, fun n hn => .root ((h n).1 hn), fun n hn => (h n).2 hn, fun a c b ha hc => by have := (List.getElem?_eq_some_iff.1 hc).1; omega⟩
open Classical in
theorem RI.row {cs : List HC} {rs : List Nat} {T : List Bool} (h : RI cs rs 0 T) : (List.range T.length).filter (fun n => T[n]? == some true) = reachL cs rs := by
  unfold reachL
  rw [h.len]
  refine List.filter_congr fun n hn => ?_
  have e : On T n ↔ Rch cs rs n := ⟨h.sound n, fun hr => hr.least (S := On T) h.root (fun a c b ha hc hb => h.shut a c b (Nat.zero_le _) hc ha hb)⟩
  by_cases hr : Rch cs rs n
  · rw [decide_eq_true hr]
    have := e.2 hr
    unfold On at this
    rw [this]; rfl
  · rw [decide_eq_false hr]
    have := fun h' => hr (e.1 h')
    unfold On at this
    simpa using this
theorem marks_zero (n : Nat) : madeCells (Value.bool false).cells (n * 1) = ((List.replicate n false).map Value.bool).toArray := by
  unfold madeCells
  apply Array.ext
  · simp
  · intro i h1 h2
    simp [Value.cells, Nat.mod_one]
theorem info_boolb : (Tryz.prog.info? 4).map (fun i => (i.zero, i.size, i.bytes)) = some (some (.bool false), 1, 1) := by kernel_rfl
structure Mks (w0 V : World) (tb : Nat) (T : List Bool) : Prop where
  blk : V.heap[tb]? = some (.cells (T.map Value.bool).toArray 4 (0, 0))
  below : Below w0.heap.size w0 V
  ge : w0.heap.size ≤ tb
theorem Mks.under {w0 V V' : World} {tb : Nat} {T : List Bool} (h : Mks w0 V tb T) (b : Below V.heap.size V V') : Mks w0 V' tb T :=
  ⟨(b.block _ (heap_lt h.blk)).trans h.blk, h.below.trans (b.mono h.below.size), h.ge⟩
theorem Mks.cell {w0 V : World} {tb : Nat} {T : List Bool} (h : Mks w0 V tb T) {i : Nat} {b : Bool} (hi : T[i]? = some b) : V.cell? ⟨tb, i, none⟩ = some (.bool b) :=
  cell_of_row h.blk (by simp [hi])
theorem Mks.free {w0 V : World} {tb : Nat} {T : List Bool} (h : Mks w0 V tb T) (i : Nat) : V.frozen? ⟨tb, i, none⟩ = false := free_of_row h.blk
theorem Mks.set {w0 V : World} {tb : Nat} {T : List Bool} (h : Mks w0 V tb T) (i : Nat) : Mks w0 (V.setCell ⟨tb, i, none⟩ (.bool true)) tb (T.set i true) := by
  have := set_row (i := i) (.bool true) h.blk
  refine ⟨?_, h.below.trans ((Mod.setCell (F := fun k => k = tb) V ⟨tb, i, none⟩ (.bool true) (.inl rfl)).below h.below.size (fun k e => by have := h.ge; omega)), h.ge⟩
  rw [this]
  simp [List.map_set]

theorem aw_cells' {P : Nat → Prop} {w : World} {q : AW} {v : Value} (h : AWAt P w q v) : ∃ k n s t A l cap, q.x = .mk k n s t l ∧ v = .agg #[.bool q.c, .int .i64 q.a, .int .i8 k, .int .i64 n, .string s, .string t, .slice A l.length cap] ∧ TmAt P w (.mk k n s t l) (.agg #[.int .i8 k, .int .i64 n, .string s, .string t, .slice A l.length cap]) := by
  obtain ⟨k, n, s, t, A, len, cap, rfl, hT⟩ := h
  obtain ⟨l, hl, rfl⟩ : ∃ l, q.x = .mk k n s t l ∧ len = l.length := by
    generalize q.x = z at hT
    cases hT; exact ⟨_, rfl, rfl⟩
  rw [hl] at hT
  exact ⟨k, n, s, t, A, l, cap, hl, rfl, hT⟩
def RRAns (cs : List HC) (R : List AW) (base : Nat) (w' : World) (v : Value) (E : Int) : Prop :=
  (allMay cs.length R = true ∧ E = 0 ∧ w'.ownsRow base 3 1 v (reachL cs (rootsOf R)).length ((reachL cs (rootsOf R)).map fun n : Nat => Value.int .i64 (n : Int))) ∨ (allMay cs.length R = false ∧ E = 2 ∧ v = .slice none 0 0)

set_option maxRecDepth 100000 in
set_option maxHeartbeats 16000000 in
theorem rReached_any {base rb : Nat} {cs : List HC} {CS : Value} {G : Nat → Prop} (hg : HGood cs) (R : List AW) (A : Option Addr) (n cap : Nat) (w : World) (h : RAt base w rb cs CS G) (hn : R.length = n) (hR : WRow (· < w.heap.size) w A n cap R) (hl : n ≤ 1000000) :
    Calls Tryz.prog 14 #[.pointer (some ⟨rb, 0, none⟩), .slice A n cap] w fun e w' => ∃ v E, e = .returned (.tuple #[v, .int .i64 E]) ∧ RRAns cs R w.heap.size w' v E ∧ Below w.heap.size w w' := by
  subst hn
  obtain ⟨RA, rcap, hCS⟩ := h.shape
  have hlen := hg.len
  have HH := Lib.hid h
  have HR := Lib.hid hR
  have HG := Lib.hid hg
  have HCS := Lib.hid hCS
  clear h hR hg hCS
  go_enter Tryz.func14, Tryz.ntmps14
  go_wp2_with fail
  go_loopw [6] (fun i wr => ∃ j : Nat, j ≤ R.length ∧ i = .int .i64 j ∧ Hid (Below w.heap.size w wr ∧ ∀ q ∈ R.take j, mayW cs.length q.c q.a q.x = true)) (fun i _ => R.length - (intOf i).toNat)
  case atStart => exact ⟨0, Nat.zero_le _, rfl, ⟨Below.refl _ _, fun q hq => by simp at hq⟩⟩
  case round =>
    obtain ⟨j, hj, rfl, HX⟩ := hrel
    by_cases hlt : j < R.length
    · obtain ⟨q, hq⟩ : ∃ q, R[j]? = some q := ⟨R[j], List.getElem?_eq_getElem hlt⟩
      obtain ⟨ad, v, rfl, had, hE, hAW⟩ := HR.out.at_ j q hq
      obtain ⟨c0, c1, c2, c3, c4, c5, c6, rfl, e0, e1, e2, e3, e4, e5, e6⟩ := hE.keep (HX.out.1.block ad.block had)
      have hbx := cell_of_row (i := 0) (HH.out.under HX.out.1).box rfl
      rw [HCS.out] at hbx
      have HM := Lib.hid (r4May_any q _ wr hbx (hAW.keep (fun b hb => HX.out.1.block b hb) (fun b hb => Nat.lt_of_lt_of_le hb HX.out.1.size)))
      have HQ := Lib.hid hq
      have i0 : (0 : Int) ≤ (j : Int) := by omega
      have i1 : (j : Int) < (R.length : Int) := by omega
      clear hq hE hAW had
      cases hm : mayW cs.length q.c q.a q.x with
      | false =>
        have HMM := Lib.hid hm
        rw [hm] at HM
        clear hm
        go_wp2_with fail
        refine HM.out.mono ?_
        rintro e w1 ⟨rfl, b1⟩
        have HB1 := Lib.hid (HX.out.1.trans (b1.mono HX.out.1.size))
        clear b1
        go_wp2_with fail
        refine bodyPost_ret (v := .tuple #[.slice none 0 0, .int .i64 2]) (by simp [results, Tryz.f14, go_sem]) rfl ?_
        refine ⟨_, _, rfl, .inr ⟨?_, rfl, rfl⟩, HB1.out⟩
        unfold allMay
        rw [List.all_eq_false]
        exact ⟨q, List.mem_of_getElem? HQ.out, by rw [HMM.out]; decide⟩
      | true =>
        have HMM := Lib.hid hm
        rw [hm] at HM
        clear hm
        go_wp2_with fail
        refine HM.out.mono ?_
        rintro e w1 ⟨rfl, b1⟩
        have HB1 : Hid (Below w.heap.size w w1 ∧ ∀ q ∈ R.take (j + 1), mayW cs.length q.c q.a q.x = true) := ⟨HX.out.1.trans (b1.mono HX.out.1.size), fun x hx => by
          rw [List.take_add_one, HQ.out] at hx
          rcases List.mem_append.1 hx with hx | hx
          · exact HX.out.2 x hx
          · simp at hx; subst hx; exact HMM.out⟩
        clear b1
        go_wp2_with fail
        go_roundw
        case rel => exact ⟨j + 1, by omega, by go_num, HB1⟩
        case measure => simp [intOf]; omega
    · obtain rfl : j = R.length := by omega
      obtain ⟨W1, hW1⟩ : ∃ X, X = wr := ⟨_, rfl⟩
      subst hW1
      have hall : ∀ q ∈ R, mayW cs.length q.c q.a q.x = true := fun q hq => HX.out.2 q (by rw [List.take_length]; exact hq)
      have h1 := HH.out.under HX.out.1
      have x0 : W1.cell? ⟨rb, 0, none⟩ = some (.slice RA cs.length rcap) := by
        have := cell_of_row (i := 0) h1.box rfl
        rwa [HCS.out] at this
      have hM : (Instr.makeSlice 84 (.int .i64 (cs.length : Int)) (.int .i64 (cs.length : Int))).run Tryz.prog W1 = .ok (.slice (some ⟨W1.heap.size, 0, none⟩) cs.length cs.length) (W1.alloc (.cells ((List.replicate cs.length false).map Value.bool).toArray 4)) := by
        obtain ⟨i, hi, hz⟩ := Option.map_eq_some_iff.1 info_boolb
        simp only [Prod.mk.injEq] at hz
        obtain ⟨hz, hsz, hby⟩ := hz
        have := run_makeSlice (P := Tryz.prog) W1 84 4 i _ Tryz.underlying84 hi hz .i64 .i64 (cs.length : Int) (cs.length : Int) (by omega) (Int.le_refl _) (by rw [hsz, Int.toNat_natCast]; omega) (by rw [hby]; omega) (by omega)
        rw [this, Int.toNat_natCast, hsz, marks_zero]
      have hmk : Mks w (W1.alloc (.cells ((List.replicate cs.length false).map Value.bool).toArray 4)) W1.heap.size (List.replicate cs.length false) :=
        ⟨block_alloc _ _, HX.out.1.alloc HX.out.1.size _, HX.out.1.size⟩
      obtain ⟨M, hMM⟩ : ∃ M, M = ((List.replicate cs.length false).map Value.bool).toArray := ⟨_, rfl⟩
      rw [← hMM] at hM hmk
      have HMK : Hid (Mks w (W1.alloc (.cells M 4)) W1.heap.size (List.replicate cs.length false)) := hmk
      have HALL := Lib.hid hall
      clear hmk hall h1 hMM
      go_wp2_with fail
      clear hM x0
      obtain ⟨tb, htb⟩ : ∃ b, b = W1.heap.size := ⟨_, rfl⟩
      rw [← htb] at HMK ⊢
      generalize W1.alloc (.cells M 4) = W2 at HMK ⊢
      clear htb HX
      go_loopw [8] (fun i wr => ∃ j : Nat, j ≤ R.length ∧ i = .int .i64 j ∧ Hid (∃ T, Mks w wr tb T ∧ T.length = cs.length ∧ ∀ n, On T n ↔ n ∈ rootsOf (R.take j))) (fun i _ => R.length - (intOf i).toNat)
      case atStart =>
        refine ⟨0, Nat.zero_le _, rfl, _, HMK.out, by simp, fun n => ⟨fun h => ?_, fun h => by simp [rootsOf] at h⟩⟩
        unfold On at h
        rw [List.getElem?_replicate] at h
        split at h <;> cases h
      case round =>
        obtain ⟨j, hj, rfl, HX⟩ := hrel
        obtain ⟨T, hmk, hT, hon⟩ := HX.out
        have HX := Lib.hid (And.intro hmk (And.intro hT hon))
        clear hmk hT hon
        by_cases hlt : j < R.length
        · obtain ⟨q, hq⟩ : ∃ q, R[j]? = some q := ⟨R[j], List.getElem?_eq_getElem hlt⟩
          obtain ⟨ad, v, rfl, had, hE, hAW⟩ := HR.out.at_ j q hq
          obtain ⟨k, n, s, t, A', l, cap', hx, rfl, hTm⟩ := aw_cells' hAW
          obtain ⟨c0, c1, c2, c3, c4, c5, c6, hc, e0, e1, e2, e3, e4, e5, e6⟩ := hE.keep (HX.out.1.below.block ad.block had)
          simp only [Value.agg.injEq, Array.mk.injEq, List.cons.injEq, and_true] at hc
          obtain ⟨rfl, rfl, rfl, rfl, rfl, rfl, rfl⟩ := hc
          have hmay := HALL.out q (List.mem_of_getElem? hq)
          have HQ := Lib.hid hq
          have i0 : (0 : Int) ≤ (j : Int) := by omega
          have i1 : (j : Int) < (R.length : Int) := by omega
          clear hE hAW had hTm e2 e3 e4 e5 e6 hx hq
          cases hcc : q.c with
          | false =>
            have HNX : Hid (∃ T, Mks w wr tb T ∧ T.length = cs.length ∧ ∀ n, On T n ↔ n ∈ rootsOf (R.take (j + 1))) := ⟨T, HX.out.1, HX.out.2.1, fun n => by
              rw [HX.out.2.2 n, List.take_add_one, HQ.out]
              simp [rootsOf, hcc]⟩
            rw [hcc] at e0
            clear hmay hcc
            go_wp2_with fail
            go_roundw
            case rel => exact ⟨j + 1, by omega, by go_num, HNX⟩
            case measure => simp [intOf]; omega
          | true =>
            have hr := may_ref hmay hcc
            obtain ⟨a, ha⟩ : ∃ a : Nat, q.a = (a : Int) := ⟨q.a.toNat, by omega⟩
            rw [hcc] at e0
            rw [ha] at e1 hr
            have ha' : a < cs.length := by omega
            obtain ⟨b, hb⟩ : ∃ b, T[a]? = some b := ⟨T[a]'(by rw [HX.out.2.1]; exact ha'), List.getElem?_eq_getElem _⟩
            have t0 := HX.out.1.cell hb
            have tf := HX.out.1.free a
            have i2 : (0 : Int) ≤ (a : Int) := by omega
            have i3 : (a : Int) < (cs.length : Int) := by omega
            have HNX : Hid (∃ T', Mks w (wr.setCell ⟨tb, a, none⟩ (.bool true)) tb T' ∧ T'.length = cs.length ∧ ∀ n, On T' n ↔ n ∈ rootsOf (R.take (j + 1))) := ⟨T.set a true, HX.out.1.set a, by rw [List.length_set]; exact HX.out.2.1, fun n => by
              have e : rootsOf (R.take (j + 1)) = rootsOf (R.take j) ++ [a] := by
                rw [List.take_add_one, HQ.out]
                simp [rootsOf, hcc, ha]
              rw [e, List.mem_append, List.mem_singleton, ← HX.out.2.2 n]
              constructor
              · intro h
                rcases h.of_set with h | h
                · exact .inr h
                · exact .inl h
              · rintro (h | rfl)
                · exact h.set
                · exact On.same (by rw [HX.out.2.1]; exact ha')⟩
            clear hmay hcc hr ha hb ha'
            go_wp2_with fail
            go_roundw
            case rel => exact ⟨j + 1, by omega, by go_num, HNX⟩
            case measure => simp [intOf]; omega
        · obtain rfl : j = R.length := by omega
          obtain ⟨W3, hW3⟩ : ∃ X, X = wr := ⟨_, rfl⟩
          subst hW3
          have hrs : RI cs (rootsOf R) cs.length T := RI.start HX.out.2.1 (fun n => by rw [HX.out.2.2 n, List.take_length])
          have HRS : Hid (∃ T, Mks w W3 tb T ∧ RI cs (rootsOf R) cs.length T) := ⟨T, HX.out.1, hrs⟩
          have x0 : W3.cell? ⟨rb, 0, none⟩ = some (.slice RA cs.length rcap) := by
            have := cell_of_row (i := 0) (HH.out.under HX.out.1.below).box rfl
            rwa [HCS.out] at this
          clear hrs HX
          clear T
          go_wp2_with fail
          clear x0
          go_loopw [9] (fun i wr => ∃ j : Nat, j ≤ cs.length ∧ i = .int .i64 ((j : Int) - 1) ∧ Hid (∃ T, Mks w wr tb T ∧ RI cs (rootsOf R) j T)) (fun i _ => (intOf i + 1).toNat)
          case atStart => exact ⟨cs.length, Nat.le_refl _, by go_num, HRS.out⟩
          case round =>
            obtain ⟨j, hj, rfl, HY⟩ := hrel
            obtain ⟨T, hmk, hri⟩ := HY.out
            have HY := Lib.hid (And.intro hmk hri)
            clear hmk hri
            cases j with
            | zero =>
              have hz : (((0 : Nat) : Int) - 1) = -1 := by omega
              rw [hz]
              obtain ⟨W6, hW6⟩ : ∃ X, X = wr := ⟨_, rfl⟩
              subst hW6
              have hTl := HY.out.2.len
              go_wp2_with fail
              go_loopw [13, 14] (fun o i wr => ∃ (j : Nat) (ov : Value), j ≤ cs.length ∧ i = .int .i64 j ∧ ov = o ∧ Hid (Mks w wr tb T ∧ wr.ownsRow (tb + 1) 3 1 o ((List.range j).filter (fun n => T[n]? == some true)).length (((List.range j).filter (fun n => T[n]? == some true)).map fun n : Nat => Value.int .i64 (n : Int)))) (fun _ i _ => cs.length - (intOf i).toNat)
              case atStart => exact ⟨0, _, Nat.zero_le _, rfl, rfl, HY.out.1, World.ownsRow_nil _ _ _ _⟩
              case round =>
                obtain ⟨j, ov, hj, rfl, hov, HO⟩ := hrel
                subst hov
                by_cases hlt : j < cs.length
                · obtain ⟨b, hb⟩ : ∃ b, T[j]? = some b := ⟨T[j]'(by rw [hTl]; exact hlt), List.getElem?_eq_getElem _⟩
                  have t0 := HO.out.1.cell hb
                  have i0 : (0 : Int) ≤ (j : Int) := by omega
                  have i1 : (j : Int) < (cs.length : Int) := by omega
                  have HB := Lib.hid hb
                  obtain ⟨FL, hFL⟩ : ∃ FL, FL = (List.range j).filter (fun n => T[n]? == some true) := ⟨_, rfl⟩
                  have hnx : (List.range (j + 1)).filter (fun n => T[n]? == some true) = if b = true then FL ++ [j] else FL := by
                    rw [List.range_succ, List.filter_append, ← hFL]
                    cases b <;> simp [hb]
                  have hfl : FL.length ≤ j := by rw [hFL]; exact Nat.le_trans (List.length_filter_le _ _) (by simp)
                  rw [← hFL] at HO
                  have HNX := Lib.hid hnx
                  clear hb hnx hFL
                  cases b with
                  | false =>
                    go_wp2_with fail
                    go_roundw
                    case rel => exact ⟨j + 1, _, by omega, by go_num, rfl, by rw [HNX.out]; exact HO.out⟩
                    case measure => simp [intOf]; omega
                  | true =>
                    obtain ⟨i0', hi, hz⟩ := Option.map_eq_some_iff.1 info_int5
                    simp only [Prod.mk.injEq] at hz
                    obtain ⟨hz0, hz1, hz2⟩ := hz
                    have R3 := HO.out.2
                    have htb := heap_lt HO.out.1.blk
                    go_wp2_with (at_builtin; refine wpList_append_at _ rfl _ _ 44 rfl (tb + 1) 3 i0' (.int .i64 0) 1 8 Tryz.underlying44 hi hz0 hz1 hz2 rfl (by decide) _ _ _ rfl (R3.alloc _) ⟨wr.heap.size, 0, none⟩ 1 1 [.int .i64 j] rfl (by decide) rfl ?c1 ?c2 ?c3 ?c4 ?c5 ?_)
                    case c2 => rfl
                    case c3 => unfold maxLen; omega
                    case c4 => omega
                    case c5 => first | omega | (simp; omega)
                    intro g9 cap9 w9 R9 grow9 hwh
                    have hal : Below wr.heap.size wr (wr.alloc (.cells #[.int .i64 j] 3)) := (Below.refl _ _).alloc (Nat.le_refl _) _
                    have hmk1 := HO.out.1.under hal
                    have how : ∀ k, ov.ownBlock = some k → tb + 1 ≤ k := fun k hk => (R3.lt k hk).1
                    have m9 := Mod.grown (F := fun k => tb + 1 ≤ k) grow9 (fun k _ e => how k e)
                    have HE : Hid (Mks w w9 tb T ∧ w9.ownsRow (tb + 1) 3 1 (.slice (some ⟨g9, 0, none⟩) (FL.length + 1) cap9) (FL ++ [j]).length ((FL ++ [j]).map fun n : Nat => Value.int .i64 (n : Int))) :=
                      ⟨⟨(m9.block _ (heap_lt hmk1.blk) (by omega)).trans hmk1.blk, hmk1.below.trans (m9.below hmk1.below.size (fun k e => by have := hmk1.ge; omega)), hmk1.ge⟩, by simpa using R9⟩
                    clear R3 R9 grow9 hwh hal hmk1 how m9 hi hz0 hz1 hz2
                    go_wp2_with fail
                    go_roundw
                    case rel => exact ⟨j + 1, _, by omega, by go_num, rfl, by rw [HNX.out]; exact HE.out⟩
                    case measure => simp [intOf]; omega
                · obtain rfl : j = cs.length := by omega
                  go_wp2_with fail
                  have hrow := HY.out.2.row
                  rw [hTl] at hrow
                  have hO := HO.out.2
                  rw [hrow] at hO
                  refine bodyPost_ret (v := .tuple #[_, .int .i64 0]) (by simp [results, Tryz.f14, go_sem]; rfl) rfl ?_
                  exact ⟨_, _, rfl, .inl ⟨List.all_eq_true.2 (fun q hq => HALL.out q hq), rfl, own_low hO (by have := HO.out.1.ge; omega)⟩, HO.out.1.below⟩
            | succ j =>
              have hz : (((j + 1 : Nat) : Int) - 1) = (j : Int) := by omega
              rw [hz]
              clear hz
              obtain ⟨c, hc⟩ : ∃ c, cs[j]? = some c := ⟨cs[j]'(by omega), List.getElem?_eq_getElem _⟩
              have hcl : c.L.length ≤ 1000 := by
                have h1 := cell_len HG.out hc
                omega
              obtain ⟨W5, hW5⟩ : ∃ X, X = wr := ⟨_, rfl⟩
              subst hW5
              have HCL := Lib.hid (rCell_any HG.out j c hc hcl W5 (HH.out.under HY.out.1.below))
              have HC := Lib.hid hc
              have HCN : Hid (c.L.length ≤ 1000) := hcl
              have i0 : (0 : Int) ≤ (j : Int) := by omega
              clear hc hcl
              go_wp2_with fail
              refine HCL.out.mono ?_
              rintro e w4 ⟨A4, cap4, rfl, b4, hL4⟩
              have HK4 := Lib.hid (HY.out.1.under b4)
              have HL4 : Hid (∀ (kk : Nat) (y : HW), c.L[kk]? = some y → ∃ ad v, A4 = some ad ∧ tb < ad.block ∧ ad.block < w4.heap.size ∧ ElemW w4 ad kk v ∧ AWAt (fun _ => True) w4 (awOf y) v) := fun kk y hy => by
                obtain ⟨g, rfl, h1, h2, h3⟩ := hL4 (fun e => by rw [e] at hy; simp at hy)
                obtain ⟨ad, v, hA, hP, hE, hAW⟩ := h3.at_ kk (awOf y) (by rw [List.getElem?_map, hy]; rfl)
                have := heap_lt HY.out.1.blk
                cases hA
                exact ⟨_, v, rfl, by dsimp only; omega, h2, hE, hAW.keep (fun _ _ => rfl) (fun _ _ => trivial)⟩
              have hbt : W5.heap.size ≤ w4.heap.size := b4.size
              have HBT : Hid (tb < w4.heap.size) := Nat.lt_of_lt_of_le (heap_lt HY.out.1.blk) hbt
              clear b4 hL4 HCL hbt
              have z0 : (w4.alloc (.cells #[.int .i8 0, .int .i64 0, .slice none 0 0] 62)).cell? ⟨w4.heap.size, 0, none⟩ = some (.int .i8 0) := cell_of_row (block_alloc _ _) rfl
              have zf0 : (w4.alloc (.cells #[.int .i8 0, .int .i64 0, .slice none 0 0] 62)).frozen? ⟨w4.heap.size, 0, none⟩ = false := free_of_row (block_alloc _ _)
              have z1 : (w4.alloc (.cells #[.int .i8 0, .int .i64 0, .slice none 0 0] 62)).cell? ⟨w4.heap.size, 1, none⟩ = some (.int .i64 0) := cell_of_row (block_alloc _ _) rfl
              have zf1 : (w4.alloc (.cells #[.int .i8 0, .int .i64 0, .slice none 0 0] 62)).frozen? ⟨w4.heap.size, 1, none⟩ = false := free_of_row (block_alloc _ _)
              have z2 : (w4.alloc (.cells #[.int .i8 0, .int .i64 0, .slice none 0 0] 62)).cell? ⟨w4.heap.size, 2, none⟩ = some (.slice none 0 0) := cell_of_row (block_alloc _ _) rfl
              have zf2 : (w4.alloc (.cells #[.int .i8 0, .int .i64 0, .slice none 0 0] 62)).frozen? ⟨w4.heap.size, 2, none⟩ = false := free_of_row (block_alloc _ _)
              go_upto_region 16 with fail
              have b5 : Below w4.heap.size w4 (w4.alloc (.cells #[.int .i8 c.k, .int .i64 c.size, .slice A4 c.L.length cap4] 62)) := (Below.refl _ _).alloc (Nat.le_refl _) _
              have g5 : (w4.alloc (.cells #[.int .i8 c.k, .int .i64 c.size, .slice A4 c.L.length cap4] 62)).heap[w4.heap.size]? = some (.cells #[.int .i8 c.k, .int .i64 c.size, .slice A4 c.L.length cap4] 62 (0, 0)) := block_alloc _ _
              obtain ⟨b10, hb10⟩ : ∃ b, b = w4.heap.size := ⟨_, rfl⟩
              rw [← hb10] at g5 HBT ⊢
              generalize w4.alloc (.cells #[.int .i8 c.k, .int .i64 c.size, .slice A4 c.L.length cap4] 62) = w5 at b5 g5 ⊢
              have HK5 := Lib.hid (HK4.out.under b5)
              have HL5 : Hid (∀ (kk : Nat) (y : HW), c.L[kk]? = some y → ∃ ad v, A4 = some ad ∧ tb < ad.block ∧ ad.block < w5.heap.size ∧ ElemW w5 ad kk v ∧ AWAt (fun _ => True) w5 (awOf y) v) := fun kk y hy => by
                obtain ⟨ad, v, h1, h2, h3, h4, h5⟩ := HL4.out kk y hy
                exact ⟨ad, v, h1, h2, Nat.lt_of_lt_of_le h3 b5.size, h4.keep (b5.block _ h3), aw_any (awOf_may (HG.out.low j c HC.out y (List.mem_of_getElem? hy))) h5⟩
              have G5 := Lib.hid g5
              clear z0 zf0 z1 zf1 z2 zf2 b5 g5 HK4 HL4 hb10
              go_wp2_with fail
              go_loopw [12] (fun k wr => ∃ kk : Nat, kk ≤ c.L.length ∧ k = .int .i64 kk ∧ Hid (∃ T, Mks w wr tb T ∧ RJ cs (rootsOf R) j kk c T ∧ Mod (fun k => k = tb) w5 wr)) (fun k _ => c.L.length - (intOf k).toNat)
              case atStart => exact ⟨0, Nat.zero_le _, rfl, T, HK5.out, ⟨HY.out.2, fun k' b hk' => by omega⟩, Mod.refl _ _⟩
              case round =>
                obtain ⟨kk, hkk, rfl, HZ⟩ := hrel
                clear HY HK5
                clear T
                obtain ⟨T, hmk, hrj, hmod⟩ := HZ.out
                have HZ := Lib.hid (And.intro hmk (And.intro hrj hmod))
                have x2 : wr.cell? ⟨b10, 2, none⟩ = some (.slice A4 c.L.length cap4) := cell_of_row ((hmod.block _ (heap_lt G5.out) (by have := HBT.out; omega)).trans G5.out) rfl
                obtain ⟨b, hb⟩ : ∃ b, T[j]? = some b := ⟨T[j]'(by rw [hrj.ri.len]; omega), List.getElem?_eq_getElem _⟩
                have t0 := hmk.cell hb
                have i1 : (j : Int) < (cs.length : Int) := by omega
                have hcn : c.L.length ≤ 1000 := HCN.out
                have HB := Lib.hid hb
                clear hmk hrj hmod hb
                by_cases hlt : kk < c.L.length
                · cases b with
                  | false =>
                    have HNX : Hid (RI cs (rootsOf R) j T) := HZ.out.2.1.done HC.out (.inl (fun h => by unfold On at h; rw [HB.out] at h; cases h))
                    go_wp2_with fail
                    go_roundw
                    case rel => exact ⟨j, by omega, by go_num, T, HZ.out.1, HNX.out⟩
                    case measure => simp [intOf] <;> omega
                  | true =>
                    obtain ⟨y, hy⟩ : ∃ y, c.L[kk]? = some y := ⟨c.L[kk], List.getElem?_eq_getElem hlt⟩
                    obtain ⟨ad, v, hA, ht1, ht2, hE, hAW⟩ := HL5.out kk y hy
                    obtain ⟨k, n, s, t, A', l, cap', hx, rfl, hTm⟩ := aw_cells' hAW
                    obtain ⟨c0, c1, c2, c3, c4, c5, c6, hcc, e0, e1, e2, e3, e4, e5, e6⟩ := hE.keep (HZ.out.2.2.block ad.block ht2 (by omega))
                    simp only [Value.agg.injEq, Array.mk.injEq, List.cons.injEq, and_true] at hcc
                    obtain ⟨rfl, rfl, rfl, rfl, rfl, rfl, rfl⟩ := hcc
                    subst hA
                    have HYY := Lib.hid hy
                    have i2 : (0 : Int) ≤ (kk : Int) := by omega
                    have i3 : (kk : Int) < (c.L.length : Int) := by omega
                    clear e2 e3 e4 e5 e6 hAW hTm hE hx ht1 ht2
                    cases y with
                    | leaf x =>
                      replace e0 : wr.cell? (ad.add (kk * 7)) = some (.bool false) := e0
                      have HNX := Lib.hid (HZ.out.2.1.skip HYY.out)
                      clear e1 hy
                      go_wp2_with fail
                      go_roundw
                      case rel => exact ⟨kk + 1, by omega, by go_num, T, HZ.out.1, HNX.out, HZ.out.2.2⟩
                      case measure => simp [intOf] <;> omega
                    | ref a =>
                      replace e0 : wr.cell? (ad.add (kk * 7)) = some (.bool true) := e0
                      replace e1 : wr.cell? ⟨(ad.add (kk * 7)).block, (ad.add (kk * 7)).off + 1, none⟩ = some (.int .i64 (a : Int)) := e1
                      have haj : a < j := HG.out.low j c HC.out _ (List.mem_of_getElem? hy)
                      have i4 : (0 : Int) ≤ (a : Int) := by omega
                      have i5 : (a : Int) < (cs.length : Int) := by omega
                      obtain ⟨b', hb'⟩ : ∃ b, T[a]? = some b := ⟨T[a]'(by rw [HZ.out.2.1.ri.len]; omega), List.getElem?_eq_getElem _⟩
                      have q0 := HZ.out.1.cell hb'
                      have qf := HZ.out.1.free a
                      have HNX : Hid (Mks w (wr.setCell ⟨tb, a, none⟩ (.bool true)) tb (T.set a true) ∧ RJ cs (rootsOf R) j (kk + 1) c (T.set a true) ∧ Mod (fun k => k = tb) w5 (wr.setCell ⟨tb, a, none⟩ (.bool true))) :=
                        ⟨HZ.out.1.set a, HZ.out.2.1.set HG.out HC.out HB.out HYY.out, HZ.out.2.2.trans (Mod.setCell _ _ _ (.inl rfl)) (fun _ _ h => h.symm)⟩
                      clear hy haj hb'
                      go_wp2_with fail
                      go_roundw
                      case rel => exact ⟨kk + 1, by omega, by go_num, _, HNX.out⟩
                      case measure => simp [intOf] <;> omega
                · have HNX : Hid (RI cs (rootsOf R) j T) := HZ.out.2.1.done HC.out (.inr (by omega))
                  go_wp2_with fail
                  go_roundw
                  case rel => exact ⟨j, by omega, by go_num, T, HZ.out.1, HNX.out⟩
                  case measure => simp [intOf] <;> omega
end Go.Proofs.YtaemfjmmklpjeaaGreatDoor
set_option linter.unusedVariables false
namespace Go.Proofs.YtaemfjmmklpjeaaGreatDoor
open Go.RowKit

def PCx (q : AW) (x : List Value) : Prop := x.length = 7 ∧ (∀ u ∈ x, u.oneCell' = true) ∧ ∀ (P : Nat → Prop) (V : World), AWAt P V q (.agg x.toArray)
def RowM (base : Nat) (V : World) (v : Value) (M : List AW) : Prop :=
  ∃ cs : List (List Value), cs.length = M.length ∧ (∀ (i : Nat) (x : List Value), cs[i]? = some x → ∃ q, M[i]? = some q ∧ PCx q x) ∧ V.ownsRow base 51 7 v M.length cs.flatten
theorem RowM.nil (base : Nat) (V : World) : RowM base V (.slice none 0 0) [] := ⟨[], rfl, fun i x h => by simp at h, ⟨rfl, .inl ⟨rfl, rfl⟩⟩⟩
theorem RowM.lt {base : Nat} {V : World} {v : Value} {M : List AW} (h : RowM base V v M) : ∀ k, v.ownBlock = some k → base ≤ k ∧ k < V.heap.size := fun k hk => by
  obtain ⟨cs, _, _, ho⟩ := h; exact ho.lt k hk
theorem RowM.keep {base : Nat} {V V' : World} {v : Value} {M : List AW} {F : Nat → Prop} (h : RowM base V v M) (m : Mod F V V') (hF : ∀ k, v.ownBlock = some k → ¬ F k) : RowM base V' v M := by
  obtain ⟨cs, h1, h2, ho⟩ := h
  exact ⟨cs, h1, h2, m.row ho (fun k hk hf => hF k hk hf)⟩
theorem RowM.under {base : Nat} {V V' : World} {v : Value} {M : List AW} (h : RowM base V v M) (b : Below V.heap.size V V') : RowM base V' v M := h.keep (Mod.of_below (F := fun _ => False) b) (fun _ _ f => f)
theorem RowM.shape {base : Nat} {V : World} {v : Value} {M : List AW} (h : RowM base V v M) : ∃ A cap, v = .slice A M.length cap := by
  obtain ⟨cs, h1, h2, ho⟩ := h
  rcases ho.2 with ⟨rfl, hn⟩ | ⟨g, cap', cur, rfl, _⟩
  · exact ⟨none, 0, by rw [hn]⟩
  · exact ⟨_, _, rfl⟩
theorem RowM.snoc {base : Nat} {V : World} {v : Value} {M : List AW} {q : AW} {x : List Value} (hx : PCx q x) (hs : ∃ cs : List (List Value), cs.length = M.length ∧ (∀ (i : Nat) (x : List Value), cs[i]? = some x → ∃ q, M[i]? = some q ∧ PCx q x) ∧ V.ownsRow base 51 7 v (M.length + 1) (cs.flatten ++ x)) : RowM base V v (M ++ [q]) := by
  obtain ⟨cs, h1, h2, ho⟩ := hs
  refine ⟨cs ++ [x], by simp [h1], fun i y hy => ?_, by rw [List.flatten_append]; simpa using ho⟩
  by_cases h : i < cs.length
  · rw [List.getElem?_append_left h] at hy
    obtain ⟨q', hq', hp⟩ := h2 i y hy
    exact ⟨q', by rw [List.getElem?_append_left (by omega)]; exact hq', hp⟩
  · rw [List.getElem?_append_right (by omega)] at hy
    have hij : i = cs.length := by
      have := (List.getElem?_eq_some_iff.1 hy).1
      simp at this; omega
    subst hij
    rw [Nat.sub_self] at hy
    simp at hy
    subst hy
    exact ⟨q, by rw [h1, List.getElem?_append_right (Nat.le_refl _)]; simp, hx⟩
theorem RowM.wrow {base : Nat} {V : World} {v : Value} {M : List AW} (h : RowM base V v M) : ∃ A cap, v = .slice A M.length cap ∧ WRow (fun b => base ≤ b ∧ b < V.heap.size) V A M.length cap M := by
  obtain ⟨cs, h1, h2, ho⟩ := h
  have hc : ∀ (i : Nat) (x : List Value), cs[i]? = some x → ∃ q, M[i]? = some q ∧ (x.length = 7 ∧ ∀ P V, AWAt P V q (.agg x.toArray)) := fun i x hx => by
    obtain ⟨q, hq, a, b, c⟩ := h2 i x hx; exact ⟨q, hq, a, c⟩
  have hlen : ∀ x ∈ cs, x.length = 7 := fun x hx => by
    obtain ⟨i, hi⟩ := List.getElem?_of_mem hx
    obtain ⟨q, _, hl, _⟩ := hc i x hi
    exact hl
  rcases ho.2 with ⟨rfl, hn⟩ | ⟨g, cap', cur, rfl, hb, hcur, _⟩
  · have hM : M = [] := List.eq_nil_of_length_eq_zero hn
    subst hM
    exact ⟨none, 0, rfl, rfl, Nat.le_refl _, fun j q hj => by simp at hj⟩
  · refine ⟨some ⟨g, 0, none⟩, cap', rfl, rfl, ?_, fun j q hj => ?_⟩
    · obtain ⟨_, _⟩ := ho
      rename_i hh
      rcases hh with ⟨e, _⟩ | ⟨g', c', cur', e, _, _, hnc, _⟩
      · cases e
      · cases e; exact hnc
    · obtain ⟨x, hx⟩ : ∃ x, cs[j]? = some x := ⟨cs[j]'(by rw [h1]; exact (List.getElem?_eq_some_iff.1 hj).1), List.getElem?_eq_getElem _⟩
      obtain ⟨q', hq', hl, hA⟩ := hc j x hx
      rw [hj] at hq'
      cases hq'
      have hk : ∀ k u, x[k]? = some u → V.cell? ⟨g, j * 7 + k, none⟩ = some u := fun k u hu => by
        have := ho.cells (g := g) rfl (j * 7 + k) u (flat7_at cs hlen j k x u hx hu)
        rwa [show (⟨g, 0, none⟩ : Addr).add (j * 7 + k) = ⟨g, j * 7 + k, none⟩ by unfold Addr.add; split <;> simp_all] at this
      obtain ⟨c0, c1, c2, c3, c4, c5, c6, rfl⟩ : ∃ c0 c1 c2 c3 c4 c5 c6, x = [c0, c1, c2, c3, c4, c5, c6] := by
        match x, hl with
        | [a, b, c, d, e, f, g], _ => exact ⟨_, _, _, _, _, _, _, rfl⟩
      have ea : (⟨g, 0, none⟩ : Addr).add (j * 7) = ⟨g, j * 7, none⟩ := by unfold Addr.add; split <;> simp_all
      refine ⟨⟨g, 0, none⟩, .agg #[c0, c1, c2, c3, c4, c5, c6], rfl, ⟨hb, heap_lt hcur⟩, ⟨c0, c1, c2, c3, c4, c5, c6, rfl, ?_, ?_, ?_, ?_, ?_, ?_, ?_⟩, hA _ _⟩
      all_goals rw [ea]
      · exact hk 0 _ rfl
      · exact hk 1 _ rfl
      · exact hk 2 _ rfl
      · exact hk 3 _ rfl
      · exact hk 4 _ rfl
      · exact hk 5 _ rfl
      · exact hk 6 _ rfl

theorem idx_first : ∀ (L : List Nat) (j a : Nat), L[j]? = some a → a ∉ L.take j → L.idxOf a = j
  | [], _, _, h, _ => by simp at h
  | b :: L, 0, a, h, _ => by simp at h; subst h; simp
  | b :: L, j + 1, a, h, hn => by
    simp only [List.take_succ_cons, List.mem_cons, not_or] at hn
    have ih := idx_first L j a (by simpa using h) hn.2
    rw [List.idxOf_cons, ih]
    have : (b == a) = false := by simpa using fun e => hn.1 e.symm
    rw [this]; rfl
def mvA (PL : List Nat) (q : AW) : AW := if q.c = true then ⟨true, (PL.idxOf q.a.toNat : Nat), iW 0⟩ else q
theorem mvA_awOf {N : Nat} {PL : List Nat} {q : AW} (h : mayW N q.c q.a q.x = true) : mvA PL q = awOf (mvW PL q.hw) := by
  have h1 := (may_aw h).1
  unfold mvA
  cases hc : q.c with
  | true =>
    rw [if_pos rfl]
    have : q.hw = .ref q.a.toNat := by unfold AW.hw; rw [hc]; rfl
    rw [this]; rfl
  | false =>
    rw [if_neg (by decide)]
    have : q.hw = .leaf q.x := by unfold AW.hw; rw [hc]; rfl
    rw [← h1, this]; rfl
def MovedP (PL : List Nat) (q : AW) (w : World) (e : Ending) (w' : World) : Prop := ∃ x0 x1 x2 x3 x4 x5 x6, e = .returned (.agg #[x0, x1, x2, x3, x4, x5, x6]) ∧ PCx (mvA PL q) [x0, x1, x2, x3, x4, x5, x6] ∧ Below w.heap.size w w'

set_option maxRecDepth 100000 in
set_option maxHeartbeats 8000000 in
theorem rmoved_any (N : Nat) (PL : List Nat) (q : AW) (v : Value) (A0 : Option Addr) (n0 cap0 : Nat) (w : World) (hv : AWAt (· < w.heap.size) w q v) (hm : mayW N q.c q.a q.x = true) (hin : q.c = true → q.a.toNat ∈ PL) (hP : PRow w A0 cap0 PL) (hn0 : PL.length = n0) (hl : n0 ≤ 100000000) :
    Calls Tryz.prog 34 #[v, .slice A0 n0 cap0] w (MovedP PL q w) := by
  subst hn0
  have hq := hv
  obtain ⟨k, n, s, t, A, l, cap, hx, rfl, hT⟩ := aw_cells hv
  have hall : ∀ (P : Nat → Prop) (V : World), AWAt P V q (.agg #[.bool q.c, .int .i64 q.a, .int .i8 k, .int .i64 n, .string s, .string t, .slice A l.length cap]) := fun P V => aw_any hm hq
  obtain ⟨cc, hcc⟩ : ∃ b, b = q.c := ⟨_, rfl⟩
  obtain ⟨aa, haa⟩ : ∃ b, b = q.a := ⟨_, rfl⟩
  have HQ := Lib.hid (And.intro hcc haa)
  have HA := Lib.hid hall
  have HM := Lib.hid hm
  have HP := Lib.hid hP
  have HIN := Lib.hid hin
  rw [← hcc, ← haa] at HA ⊢
  clear hx hv hq hT hall hcc haa hm hP hin
  have v0 : (w.alloc (.cells #[.bool cc, .int .i64 aa, .int .i8 k, .int .i64 n, .string s, .string t, .slice A l.length cap] 51)).cell? ⟨w.heap.size, 0, none⟩ = some (.bool cc) := cell_of_row (block_alloc _ _) rfl
  have v1 : (w.alloc (.cells #[.bool cc, .int .i64 aa, .int .i8 k, .int .i64 n, .string s, .string t, .slice A l.length cap] 51)).cell? ⟨w.heap.size, 1, none⟩ = some (.int .i64 aa) := cell_of_row (block_alloc _ _) rfl
  have v2 : (w.alloc (.cells #[.bool cc, .int .i64 aa, .int .i8 k, .int .i64 n, .string s, .string t, .slice A l.length cap] 51)).cell? ⟨w.heap.size, 2, none⟩ = some (.int .i8 k) := cell_of_row (block_alloc _ _) rfl
  have v3 : (w.alloc (.cells #[.bool cc, .int .i64 aa, .int .i8 k, .int .i64 n, .string s, .string t, .slice A l.length cap] 51)).cell? ⟨w.heap.size, 3, none⟩ = some (.int .i64 n) := cell_of_row (block_alloc _ _) rfl
  have v4 : (w.alloc (.cells #[.bool cc, .int .i64 aa, .int .i8 k, .int .i64 n, .string s, .string t, .slice A l.length cap] 51)).cell? ⟨w.heap.size, 4, none⟩ = some (.string s) := cell_of_row (block_alloc _ _) rfl
  have v5 : (w.alloc (.cells #[.bool cc, .int .i64 aa, .int .i8 k, .int .i64 n, .string s, .string t, .slice A l.length cap] 51)).cell? ⟨w.heap.size, 5, none⟩ = some (.string t) := cell_of_row (block_alloc _ _) rfl
  have v6 : (w.alloc (.cells #[.bool cc, .int .i64 aa, .int .i8 k, .int .i64 n, .string s, .string t, .slice A l.length cap] 51)).cell? ⟨w.heap.size, 6, none⟩ = some (.slice A l.length cap) := cell_of_row (block_alloc _ _) rfl
  obtain ⟨w1, hw1⟩ : ∃ w1, w1 = ((w.alloc (.cells #[.bool cc, .int .i64 aa, .int .i8 k, .int .i64 n, .string s, .string t, .slice A l.length cap] 51)).alloc (.cells #[.bool false, .int .i64 0, .int .i8 0, .int .i64 0, .string ⟨#[]⟩, .string ⟨#[]⟩, .slice none 0 0] 51)) := ⟨_, rfl⟩
  have B1 : Below w.heap.size w w1 := by rw [hw1]; exact ((Below.refl _ w).alloc (Nat.le_refl _) _).alloc (by simp) _
  have g0 : w1.heap[w.heap.size]? = some (.cells #[.bool cc, .int .i64 aa, .int .i8 k, .int .i64 n, .string s, .string t, .slice A l.length cap] 51 (0, 0)) := by rw [hw1, Below.heap_alloc _ _ _ (by simp)]; exact block_alloc _ _
  have g1 : w1.heap[w.heap.size + 1]? = some (.cells #[.bool false, .int .i64 0, .int .i8 0, .int .i64 0, .string ⟨#[]⟩, .string ⟨#[]⟩, .slice none 0 0] 51 (0, 0)) := by
    have h := block_alloc (w.alloc (.cells #[.bool cc, .int .i64 aa, .int .i8 k, .int .i64 n, .string s, .string t, .slice A l.length cap] 51)) (.cells #[.bool false, .int .i64 0, .int .i8 0, .int .i64 0, .string ⟨#[]⟩, .string ⟨#[]⟩, .slice none 0 0] 51)
    rw [World.size_alloc] at h
    rw [hw1]; exact h
  have HB1 := Lib.hid B1
  have HG := Lib.hid (And.intro g0 g1)
  have HZ : Hid (w.heap.size + 1 < w1.heap.size) := heap_lt g1
  clear v0 v1 v2 v3 v4 v5 v6 B1 g0 g1
  go_enter Tryz.func34, Tryz.ntmps34
  go_upto_region 1 with fail
  rw [← hw1]
  clear hw1
  have x0 : w1.cell? ⟨w.heap.size, 0, none⟩ = some (.bool cc) := cell_of_row HG.out.1 rfl
  have x1 : w1.cell? ⟨w.heap.size, 1, none⟩ = some (.int .i64 aa) := cell_of_row HG.out.1 rfl
  have x2 : w1.cell? ⟨w.heap.size, 2, none⟩ = some (.int .i8 k) := cell_of_row HG.out.1 rfl
  have x3 : w1.cell? ⟨w.heap.size, 3, none⟩ = some (.int .i64 n) := cell_of_row HG.out.1 rfl
  have x4 : w1.cell? ⟨w.heap.size, 4, none⟩ = some (.string s) := cell_of_row HG.out.1 rfl
  have x5 : w1.cell? ⟨w.heap.size, 5, none⟩ = some (.string t) := cell_of_row HG.out.1 rfl
  have x6 : w1.cell? ⟨w.heap.size, 6, none⟩ = some (.slice A l.length cap) := cell_of_row HG.out.1 rfl
  cases cc with
  | false =>
    have y0 : w1.cell? ⟨w.heap.size + 1, 0, none⟩ = some (.bool false) := cell_of_row HG.out.2 rfl
    have y1 : w1.cell? ⟨w.heap.size + 1, 1, none⟩ = some (.int .i64 0) := cell_of_row HG.out.2 rfl
    have y2 : w1.cell? ⟨w.heap.size + 1, 2, none⟩ = some (.int .i8 0) := cell_of_row HG.out.2 rfl
    have y3 : w1.cell? ⟨w.heap.size + 1, 3, none⟩ = some (.int .i64 0) := cell_of_row HG.out.2 rfl
    have y4 : w1.cell? ⟨w.heap.size + 1, 4, none⟩ = some (.string ⟨#[]⟩) := cell_of_row HG.out.2 rfl
    have y5 : w1.cell? ⟨w.heap.size + 1, 5, none⟩ = some (.string ⟨#[]⟩) := cell_of_row HG.out.2 rfl
    have y6 : w1.cell? ⟨w.heap.size + 1, 6, none⟩ = some (.slice none 0 0) := cell_of_row HG.out.2 rfl
    have f0 : w1.frozen? ⟨w.heap.size + 1, 0, none⟩ = false := free_of_row HG.out.2
    have f1 : w1.frozen? ⟨w.heap.size + 1, 1, none⟩ = false := free_of_row HG.out.2
    have f2 : w1.frozen? ⟨w.heap.size + 1, 2, none⟩ = false := free_of_row HG.out.2
    have f3 : w1.frozen? ⟨w.heap.size + 1, 3, none⟩ = false := free_of_row HG.out.2
    have f4 : w1.frozen? ⟨w.heap.size + 1, 4, none⟩ = false := free_of_row HG.out.2
    have f5 : w1.frozen? ⟨w.heap.size + 1, 5, none⟩ = false := free_of_row HG.out.2
    have f6 : w1.frozen? ⟨w.heap.size + 1, 6, none⟩ = false := free_of_row HG.out.2
    go_wp2_with fail
    obtain ⟨s7, m7⟩ := set_seven (.bool false) (.int .i64 aa) (.int .i8 k) (.int .i64 n) (.string s) (.string t) (.slice A l.length cap) HG.out.2
    generalize (World.setCell (World.setCell (World.setCell (World.setCell (World.setCell (World.setCell (World.setCell w1 ⟨w.heap.size + 1, 0, none⟩ (.bool false)) ⟨w.heap.size + 1, 1, none⟩ (.int .i64 aa)) ⟨w.heap.size + 1, 2, none⟩ (.int .i8 k)) ⟨w.heap.size + 1, 3, none⟩ (.int .i64 n)) ⟨w.heap.size + 1, 4, none⟩ (.string s)) ⟨w.heap.size + 1, 5, none⟩ (.string t)) ⟨w.heap.size + 1, 6, none⟩ (.slice A l.length cap)) = X at s7 m7 ⊢
    have r0 := cell_of_row (i := 0) s7 rfl
    have r1 := cell_of_row (i := 1) s7 rfl
    have r2 := cell_of_row (i := 2) s7 rfl
    have r3 := cell_of_row (i := 3) s7 rfl
    have r4 := cell_of_row (i := 4) s7 rfl
    have r5 := cell_of_row (i := 5) s7 rfl
    have r6 := cell_of_row (i := 6) s7 rfl
    refine bodyPost_ret (v := .agg #[.bool false, .int .i64 aa, .int .i8 k, .int .i64 n, .string s, .string t, .slice A l.length cap]) (by simp [results, Tryz.f34, go_sem, r0, r1, r2, r3, r4, r5, r6]) rfl ?_
    refine ⟨_, _, _, _, _, _, _, rfl, ⟨rfl, fun u hu => ?_, fun P V => ?_⟩, HB1.out.trans (m7.below HB1.out.size (fun k e => by omega))⟩
    · simp at hu
      rcases hu with rfl | rfl | rfl | rfl | rfl | rfl | rfl <;> rfl
    · unfold mvA
      rw [if_neg (by rw [← HQ.out.1]; decide)]
      exact HA.out P V
  | true =>
    obtain ⟨a, ha⟩ : ∃ a : Nat, aa = (a : Int) := ⟨aa.toNat, by have h := (may_ref HM.out HQ.out.1.symm).1; rw [← HQ.out.2] at h; omega⟩
    subst ha
    have hain : a ∈ PL := by have h := HIN.out HQ.out.1.symm; rw [← HQ.out.2] at h; exact h
    have HAIN := Lib.hid hain
    clear hain
    go_wp2_with fail
    clear x0 x1 x2 x3 x4 x5 x6
    go_loopw [5] (fun i wr => ∃ j : Nat, j ≤ PL.length ∧ i = .int .i64 j ∧ Hid (Below w1.heap.size w1 wr ∧ a ∉ PL.take j)) (fun i _ => PL.length - (intOf i).toNat)
    case atStart => exact ⟨0, Nat.zero_le _, rfl, Below.refl _ _, by simp⟩
    case round =>
      obtain ⟨j, hj, rfl, HB⟩ := hrel
      by_cases hlt : j < PL.length
      · obtain ⟨p, hp⟩ : ∃ y, PL[j]? = some y := ⟨PL[j], List.getElem?_eq_getElem hlt⟩
        obtain ⟨g, rfl, e0⟩ := (HP.out.keep HB1.out).row j p hp
        have HE := Lib.hid e0
        have HPJ := Lib.hid hp
        have i0 : (0 : Int) ≤ (j : Int) := by omega
        have i1 : (j : Int) < (PL.length : Int) := by omega
        clear e0 hp
        go_wp2_with fail
        refine wp_region_quiet_C (C := fun V => Below w1.heap.size w1 V) (by kernel_rfl) (by kernel_rfl) (HB.out.1.trans ((drew_below wr).mono HB.out.1.size)) ?_
        refine wpq (v := ?_) (by kernel_rfl) ?_ ?_; rotate_left; (intro V hV; (try dsimp only at hV); go_simp; first | done | with_reducible rfl); (try simp only [Act.put, sI, sZ, sS])
        refine wpq (v := ?_) (by kernel_rfl) ?_ ?_; rotate_left; (intro V hV; (try dsimp only at hV); go_simp; first | done | with_reducible rfl); (try simp only [Act.put, sI, sZ, sS])
        refine wpq (v := ?_) (by kernel_rfl) ?_ ?_; rotate_left; (intro V hV; (try dsimp only at hV); go_simp; first | done | with_reducible rfl); (try simp only [Act.put, sI, sZ, sS])
        refine wpq (v := ?_) (by kernel_rfl) ?_ ?_; rotate_left; (intro V hV; (try dsimp only at hV); have e0 := below_cell hV HE.out; have x1 : V.cell? ⟨w.heap.size, 1, none⟩ = some (.int .i64 (a : Int)) := below_cell hV (cell_of_row HG.out.1 rfl); go_simp; first | done | with_reducible rfl); (try simp only [Act.put, sI, sZ, sS])
        refine wpq (v := ?_) (by kernel_rfl) ?_ ?_; rotate_left; (intro V hV; (try dsimp only at hV); go_simp; first | done | with_reducible rfl); (try simp only [Act.put, sI, sZ, sS])
        refine wpq (v := ?_) (by kernel_rfl) ?_ ?_; rotate_left; (intro V hV; (try dsimp only at hV); have e0 := below_cell hV HE.out; have x1 : V.cell? ⟨w.heap.size, 1, none⟩ = some (.int .i64 (a : Int)) := below_cell hV (cell_of_row HG.out.1 rfl); go_simp; first | done | with_reducible rfl); (try simp only [Act.put, sI, sZ, sS])
        refine wpq (v := ?_) (by kernel_rfl) ?_ ?_; rotate_left; (intro V hV; (try dsimp only at hV); go_simp; first | done | with_reducible rfl); (try simp only [Act.put, sI, sZ, sS])
        refine wpQuiet_nil ?_
        intro V9 h9
        (try dsimp only at h9)
        have HB9 := Lib.hid h9
        have hg9 := (h9.block _ (heap_lt HG.out.2)).trans HG.out.2
        have G9 := Lib.hid hg9
        by_cases hpa : p = a
        · subst hpa
          have hix : PL.idxOf p = j := by
            exact idx_first _ _ _ HPJ.out HB.out.2
          have HIX := Lib.hid hix
          have hd : (decide ((p : Int) = (p : Int))) = true := by simp
          clear h9 hg9 hix hd
          have y0 : V9.cell? ⟨w.heap.size + 1, 0, none⟩ = some (.bool false) := cell_of_row G9.out rfl
          have y1 : V9.cell? ⟨w.heap.size + 1, 1, none⟩ = some (.int .i64 0) := cell_of_row G9.out rfl
          have y2 : V9.cell? ⟨w.heap.size + 1, 2, none⟩ = some (.int .i8 0) := cell_of_row G9.out rfl
          have y3 : V9.cell? ⟨w.heap.size + 1, 3, none⟩ = some (.int .i64 0) := cell_of_row G9.out rfl
          have y4 : V9.cell? ⟨w.heap.size + 1, 4, none⟩ = some (.string ⟨#[]⟩) := cell_of_row G9.out rfl
          have y5 : V9.cell? ⟨w.heap.size + 1, 5, none⟩ = some (.string ⟨#[]⟩) := cell_of_row G9.out rfl
          have y6 : V9.cell? ⟨w.heap.size + 1, 6, none⟩ = some (.slice none 0 0) := cell_of_row G9.out rfl
          have f0 : V9.frozen? ⟨w.heap.size + 1, 0, none⟩ = false := free_of_row G9.out
          have f1 : V9.frozen? ⟨w.heap.size + 1, 1, none⟩ = false := free_of_row G9.out
          have f2 : V9.frozen? ⟨w.heap.size + 1, 2, none⟩ = false := free_of_row G9.out
          have f3 : V9.frozen? ⟨w.heap.size + 1, 3, none⟩ = false := free_of_row G9.out
          have f4 : V9.frozen? ⟨w.heap.size + 1, 4, none⟩ = false := free_of_row G9.out
          have f5 : V9.frozen? ⟨w.heap.size + 1, 5, none⟩ = false := free_of_row G9.out
          have f6 : V9.frozen? ⟨w.heap.size + 1, 6, none⟩ = false := free_of_row G9.out
          go_wp2_with fail
          obtain ⟨s7, m7⟩ := set_seven (.bool true) (.int .i64 (j : Int)) (.int .i8 0) (.int .i64 0) (.string ⟨#[]⟩) (.string ⟨#[]⟩) (.slice none 0 0) G9.out
          generalize (World.setCell (World.setCell (World.setCell (World.setCell (World.setCell (World.setCell (World.setCell V9 ⟨w.heap.size + 1, 0, none⟩ (.bool true)) ⟨w.heap.size + 1, 1, none⟩ (.int .i64 (j : Int))) ⟨w.heap.size + 1, 2, none⟩ (.int .i8 0)) ⟨w.heap.size + 1, 3, none⟩ (.int .i64 0)) ⟨w.heap.size + 1, 4, none⟩ (.string ⟨#[]⟩)) ⟨w.heap.size + 1, 5, none⟩ (.string ⟨#[]⟩)) ⟨w.heap.size + 1, 6, none⟩ (.slice none 0 0)) = X at s7 m7 ⊢
          have r0 := cell_of_row (i := 0) s7 rfl
          have r1 := cell_of_row (i := 1) s7 rfl
          have r2 := cell_of_row (i := 2) s7 rfl
          have r3 := cell_of_row (i := 3) s7 rfl
          have r4 := cell_of_row (i := 4) s7 rfl
          have r5 := cell_of_row (i := 5) s7 rfl
          have r6 := cell_of_row (i := 6) s7 rfl
          refine bodyPost_ret (v := .agg #[.bool true, .int .i64 (j : Int), .int .i8 0, .int .i64 0, .string ⟨#[]⟩, .string ⟨#[]⟩, .slice none 0 0]) (by simp [results, Tryz.f34, go_sem, r0, r1, r2, r3, r4, r5, r6]) rfl ?_
          refine ⟨_, _, _, _, _, _, _, rfl, ⟨rfl, fun u hu => ?_, fun P V => ?_⟩, (HB1.out.trans (HB9.out.mono HB1.out.size)).trans (m7.below (by have := HB9.out.size; have := HZ.out; omega) (fun k e => by omega))⟩
          · simp at hu
            rcases hu with rfl | rfl | rfl | rfl | rfl | rfl | rfl <;> rfl
          · unfold mvA
            rw [if_pos HQ.out.1.symm, ← HQ.out.2, Int.toNat_natCast, HIX.out]
            exact ⟨_, _, _, _, none, 0, 0, rfl, iW_at P V⟩
        · have hd : ((p : Int) == (a : Int)) = false := by simp; omega
          have hne : ¬ ((p : Int) = (a : Int)) := by omega
          clear h9 hg9
          have HNX : Hid (Below w1.heap.size w1 V9 ∧ a ∉ PL.take (j + 1)) := ⟨HB9.out, by
            rw [List.take_add_one, HPJ.out]
            simp only [Option.toList, List.mem_append, List.mem_singleton, not_or]
            exact ⟨HB.out.2, fun e => hpa e.symm⟩⟩
          go_wp2_with fail
          go_roundw
          case rel => exact ⟨j + 1, by omega, by go_num, HNX⟩
          case measure => simp [intOf] <;> omega
      · obtain rfl : j = PL.length := by omega
        exact absurd HAIN.out (by have := HB.out.2; rwa [List.take_length] at this)
end Go.Proofs.YtaemfjmmklpjeaaGreatDoor
set_option linter.unusedVariables false
namespace Go.Proofs.YtaemfjmmklpjeaaGreatDoor
open Go.RowKit

theorem rmake_next {cs : List HC} {PL : List Nat} (hg : HGood cs) (hs : Shut cs PL) {i a : Nat} {c : HC} (hi : PL[i]? = some a) (hc : cs[a]? = some c) (hgi : HGood ((colC cs PL).take i)) :
    rE c.k ((colC cs PL).take i) ((c.L.map (mvW PL)).map awOf) = 0 ∧ (colC cs PL).take i ++ [⟨c.k, wsum ((colC cs PL).take i) (((c.L.map (mvW PL)).map awOf).map AW.hw), ((c.L.map (mvW PL)).map awOf).map AW.hw⟩] = (colC cs PL).take (i + 1) ∧ HGood ((colC cs PL).take (i + 1)) := by
  have hok : HOk (⟨(colC cs PL).take i, wordsOf ((colC cs PL).take i), .slice none 0 0, none, 0⟩ : HSt) := ⟨hgi, rfl, Nat.zero_le _⟩
  obtain ⟨h1, h2, h3⟩ := make_next hg hs hi hc (s := ⟨(colC cs PL).take i, wordsOf ((colC cs PL).take i), .slice none 0 0, none, 0⟩) rfl hok
  refine ⟨?_, h2, ?_⟩
  · unfold rE
    rw [if_pos]
    · exact h1
    · unfold kindB
      rcases hg.kind a c hc with hk | ⟨hk, hl⟩
      · rw [hk]; rfl
      · rw [hk]; simp [hl]
  · have := (h3 ⟨(colC cs PL).take (i + 1), _, .slice none 0 0, none, 0⟩ h2.symm rfl (Nat.zero_le _)).good
    exact this
theorem moved_parts {cs : List HC} {PL : List Nat} (hg : HGood cs) {a : Nat} {c : HC} (hc : cs[a]? = some c) : (c.L.map awOf).map (mvA PL) = (c.L.map (mvW PL)).map awOf := by
  rw [List.map_map, List.map_map]
  refine List.map_congr_left fun y hy => ?_
  have h1 : wgood cs.length y := by
    have h := hg.low a c hc y hy
    cases y with
    | leaf x => exact h
    | ref b => exact Nat.lt_trans h (List.getElem?_eq_some_iff.1 hc).1
  show mvA PL (awOf y) = awOf (mvW PL y)
  rw [mvA_awOf (awOf_may h1), awOf_hw]
theorem RAt.from_new {base rb : Nat} {w : World} {cs : List HC} {CS : Value} {G : Nat → Prop} (h : RAt base w rb cs CS G) : ∀ i, RFP rb CS G i → base ≤ i := fun i hi => (h.fp_lt hi).1

theorem RAt.low_base {base base' rb : Nat} {w : World} {cs : List HC} {CS : Value} {G : Nat → Prop} (h : RAt base w rb cs CS G) (hb : base' ≤ base) : RAt base' w rb cs CS G := by
  obtain ⟨vs, h1, h2, h3⟩ := h.row
  exact ⟨Nat.le_trans hb h.low, h.box, ⟨vs, h1, own_low h2 hb, h3⟩, h.apart, fun g hg => ⟨(h.own g hg).1, Nat.le_trans hb (h.own g hg).2.1, (h.own g hg).2.2⟩⟩
def RRunP (cs : List HC) (R : List AW) (n : Nat) (w : World) (e : Ending) (w' : World) : Prop :=
  Below w.heap.size w w' ∧ ((allMay cs.length R = true ∧ ∃ (po : Nat) (PCS : Value) (PG : Nat → Prop) (B : Option Addr) (bcap : Nat), RAt w.heap.size w' po (colC cs (reachL cs (rootsOf R))) PCS PG ∧ WRow (· < w'.heap.size) w' B n bcap (R.map (mvA (reachL cs (rootsOf R)))) ∧
      e = .returned (.tuple #[.pointer (some ⟨po, 0, none⟩), .slice B n bcap, .int .i64 0])) ∨
    (allMay cs.length R = false ∧ e = .returned (.tuple #[.pointer none, .slice none 0 0, .int .i64 2])))

set_option maxRecDepth 100000 in
set_option maxHeartbeats 16000000 in
theorem rRun_any {base rb : Nat} {cs : List HC} {CS : Value} {G : Nat → Prop} (hg : HGood cs) (R : List AW) (A : Option Addr) (n cap : Nat) (w : World) (h : RAt base w rb cs CS G) (hn : R.length = n) (hR : WRow (· < w.heap.size) w A n cap R) (hl : n ≤ 1000000) :
    Calls Tryz.prog 12 #[.pointer (some ⟨rb, 0, none⟩), .slice A n cap] w (RRunP cs R n w) := by
  subst hn
  obtain ⟨i0, hi, hz⟩ := Option.map_eq_some_iff.1 info_wordb
  simp only [Prod.mk.injEq] at hz
  obtain ⟨hz0, hz1, hz2⟩ := hz
  have HI := Lib.hid (And.intro hi (And.intro hz0 (And.intro hz1 hz2)))
  have hlen := hg.len
  have HH := Lib.hid h
  have HR := Lib.hid hR
  have HG := Lib.hid hg
  have HRE := Lib.hid (rReached_any hg R A R.length cap w h rfl hR hl)
  clear h hR hg hi hz0 hz1 hz2
  go_enter Tryz.func12, Tryz.ntmps12
  go_wp2_with fail
  refine HRE.out.mono ?_
  rintro e W1 ⟨v1, E1, rfl, hans, b1⟩
  have HB1 := Lib.hid b1
  clear b1 HRE
  rcases hans with ⟨hall, rfl, hrow⟩ | ⟨hall, rfl, rfl⟩
  case inr =>
    have HALL := Lib.hid hall
    clear hall
    go_wp2_with fail
    refine bodyPost_ret (v := .tuple #[.pointer none, .slice none 0 0, .int .i64 2]) (by simp [results, Tryz.f12, go_sem]) rfl ?_
    exact ⟨HB1.out, .inr ⟨HALL.out, rfl⟩⟩
  obtain ⟨PL, hPL⟩ : ∃ PL, PL = reachL cs (rootsOf R) := ⟨_, rfl⟩
  rw [← hPL] at hrow
  obtain ⟨A1, cap1, rfl, hpr, -⟩ := PRow.of_own hrow
  have hsh : Shut cs PL := by rw [hPL]; exact reachL_shut HG.out (rootsOf_lt hall)
  have hpl : PL.length ≤ cs.length := shut_len hsh
  have HPL := Lib.hid hPL
  have HSH := Lib.hid hsh
  have HALL := Lib.hid hall
  have HPR := Lib.hid hpr
  have HH1 := Lib.hid (HH.out.under HB1.out)
  clear hrow hall hpr hsh hPL
  go_wp2_with fail
  obtain ⟨B0, hB0⟩ : ∃ p, p = W1.heap.size := ⟨_, rfl⟩
  refine (rNew_any B0 W1 (Nat.le_of_eq hB0)).mono ?_
  rintro e W2 ⟨rfl, hnew, b2⟩
  obtain ⟨po, hpo⟩ : ∃ p, p = W1.heap.size := ⟨_, rfl⟩
  rw [← hpo] at hnew ⊢
  have HNW : Hid (∃ CS' G', RAt B0 W2 po ((colC cs PL).take 0) CS' G' ∧ HGood ((colC cs PL).take 0) ∧ Below B0 W1 W2) := ⟨_, _, hnew, ⟨fun n c h => by simp at h, fun n c h => by simp at h, fun n c h => by simp at h, fun n c h => by simp at h, by simp⟩, by rw [hB0]; exact b2⟩
  have HB0 := Lib.hid hB0
  clear hnew b2 hpo hB0
  go_wp2_with fail
  go_loopw [10] (fun i wr => ∃ j : Nat, j ≤ PL.length ∧ i = .int .i64 j ∧ Hid (∃ CS' G', RAt B0 wr po ((colC cs PL).take j) CS' G' ∧ HGood ((colC cs PL).take j) ∧ Below B0 W1 wr)) (fun i _ => PL.length - (intOf i).toNat)
  case atStart => exact ⟨0, Nat.zero_le _, rfl, HNW.out⟩
  case round =>
    clear HNW
    obtain ⟨j, hj, rfl, HX⟩ := hrel
    obtain ⟨W3, hW3⟩ : ∃ X, X = wr := ⟨_, rfl⟩
    subst hW3
    obtain ⟨CS', G', hrat, hgj, hb3⟩ := HX.out
    have HX := Lib.hid (And.intro hrat (And.intro hgj hb3))
    have hbb : Below W1.heap.size W1 W3 := by rw [← HB0.out]; exact hb3
    have HBB := Lib.hid hbb
    clear hrat hgj hb3 hbb
    by_cases hlt : j < PL.length
    · obtain ⟨a, ha⟩ : ∃ a, PL[j]? = some a := ⟨PL[j], List.getElem?_eq_getElem hlt⟩
      obtain ⟨g, hA1, e0⟩ := (HPR.out.keep HBB.out).row j a ha
      have hac : a < cs.length := HSH.out.lt a (List.mem_of_getElem? ha)
      obtain ⟨c, hc⟩ : ∃ c, cs[a]? = some c := ⟨cs[a], List.getElem?_eq_getElem hac⟩
      have hcl := cell_len HG.out hc
      have HCL := Lib.hid (rCell_any HG.out a c hc (by omega) W3 (HH1.out.under HBB.out))
      have HC := Lib.hid (And.intro hc ha)
      have HCN : Hid (c.L.length ≤ 256) := by exact (by omega : c.L.length ≤ 256)
      subst hA1
      have i0' : (0 : Int) ≤ (j : Int) := by omega
      have i1 : (j : Int) < (PL.length : Int) := by omega
      clear hc ha hcl hac
      go_wp2_with fail
      refine HCL.out.mono ?_
      rintro e w4 ⟨A4, cap4, rfl, b4, hL4⟩
      clear e0 HCL
      have z0 : (w4.alloc (.cells #[.int .i8 0, .int .i64 0, .slice none 0 0] 62)).cell? ⟨w4.heap.size, 0, none⟩ = some (.int .i8 0) := cell_of_row (block_alloc _ _) rfl
      have zf0 : (w4.alloc (.cells #[.int .i8 0, .int .i64 0, .slice none 0 0] 62)).frozen? ⟨w4.heap.size, 0, none⟩ = false := free_of_row (block_alloc _ _)
      have z1 : (w4.alloc (.cells #[.int .i8 0, .int .i64 0, .slice none 0 0] 62)).cell? ⟨w4.heap.size, 1, none⟩ = some (.int .i64 0) := cell_of_row (block_alloc _ _) rfl
      have zf1 : (w4.alloc (.cells #[.int .i8 0, .int .i64 0, .slice none 0 0] 62)).frozen? ⟨w4.heap.size, 1, none⟩ = false := free_of_row (block_alloc _ _)
      have z2 : (w4.alloc (.cells #[.int .i8 0, .int .i64 0, .slice none 0 0] 62)).cell? ⟨w4.heap.size, 2, none⟩ = some (.slice none 0 0) := cell_of_row (block_alloc _ _) rfl
      have zf2 : (w4.alloc (.cells #[.int .i8 0, .int .i64 0, .slice none 0 0] 62)).frozen? ⟨w4.heap.size, 2, none⟩ = false := free_of_row (block_alloc _ _)
      have HW4 : Hid (WRow (· < w4.heap.size) w4 A4 c.L.length cap4 (c.L.map awOf)) := by
        by_cases hL : c.L = []
        · exact ⟨by simp, by rw [hL]; exact Nat.zero_le _, fun j q hj => by rw [hL] at hj; simp at hj⟩
        · obtain ⟨g, rfl, h1, h2, h3⟩ := hL4 hL
          exact h3.keep (fun _ _ => rfl) (fun b hb => by subst hb; exact h2)
      have HB4 := Lib.hid b4
      clear b4 hL4
      go_upto_region 9 with fail
      have b5 : Below w4.heap.size w4 (w4.alloc (.cells #[.int .i8 c.k, .int .i64 c.size, .slice A4 c.L.length cap4] 62)) := (Below.refl _ _).alloc (Nat.le_refl _) _
      have g5 : (w4.alloc (.cells #[.int .i8 c.k, .int .i64 c.size, .slice A4 c.L.length cap4] 62)).heap[w4.heap.size]? = some (.cells #[.int .i8 c.k, .int .i64 c.size, .slice A4 c.L.length cap4] 62 (0, 0)) := block_alloc _ _
      obtain ⟨b11, hb11⟩ : ∃ b, b = w4.heap.size := ⟨_, rfl⟩
      rw [← hb11] at g5 ⊢
      generalize w4.alloc (.cells #[.int .i8 c.k, .int .i64 c.size, .slice A4 c.L.length cap4] 62) = w5 at b5 g5 ⊢
      have HW5 := Lib.hid (HW4.out.later b5)
      have HB5 := Lib.hid (HB4.out.trans (b5.mono HB4.out.size))
      have G5 := Lib.hid g5
      clear z0 zf0 z1 zf1 z2 zf2 b5 g5 HW4 HB4 hb11
      go_wp2_with fail
      go_loopw [13, 14] (fun pv k wr => ∃ (kk : Nat) (ov : Value), kk ≤ c.L.length ∧ k = .int .i64 kk ∧ ov = pv ∧ Hid (RowM w5.heap.size wr ov ((((c.L.map awOf).take kk)).map (mvA PL)) ∧ Below w5.heap.size w5 wr)) (fun _ k _ => c.L.length - (intOf k).toNat)
      case atStart => exact ⟨0, _, Nat.zero_le _, rfl, rfl, RowM.nil _ _, Below.refl _ _⟩
      case round =>
        obtain ⟨kk, ov, hkk, rfl, hov, HZ⟩ := hrel
        subst hov
        have x2 : wr.cell? ⟨b11, 2, none⟩ = some (.slice A4 c.L.length cap4) := below_cell HZ.out.2 (cell_of_row G5.out rfl)
        have hcn : c.L.length ≤ 256 := HCN.out
        by_cases hlk : kk < c.L.length
        · obtain ⟨q, hq⟩ : ∃ q, (c.L.map awOf)[kk]? = some q := ⟨(c.L.map awOf)[kk]'(by simpa using hlk), List.getElem?_eq_getElem _⟩
          obtain ⟨ad, v, hA4, had, hE, hAW⟩ := HW5.out.at_ kk q hq
          obtain ⟨c0, c1, c2, c3, c4, c5, c6, rfl, e0, e1, e2, e3, e4, e5, e6⟩ := hE.keep (HZ.out.2.block ad.block had)
          have hqm := good_may HG.out HC.out.1 q (List.mem_of_getElem? hq)
          have hpr : PRow wr _ cap1 PL := ((HPR.out.keep HBB.out).keep HB5.out).keep (HZ.out.2.mono (Nat.le_refl _))
          have HMV := Lib.hid (rmoved_any cs.length PL q _ _ PL.length cap1 wr (hAW.keep (fun b hb => HZ.out.2.block b hb) (fun b hb => Nat.lt_of_lt_of_le hb HZ.out.2.size)) hqm (fun hqc => by
            obtain ⟨y, hy, rfl⟩ := List.mem_map.1 (List.mem_of_getElem? hq)
            cases y with
            | leaf x => cases hqc
            | ref b =>
              show (((b : Nat) : Int)).toNat ∈ PL
              rw [Int.toNat_natCast]
              exact HSH.out.parts a (List.mem_of_getElem? HC.out.2) c HC.out.1 b hy) hpr rfl (by omega))
          have HQ := Lib.hid hq
          have i2 : (0 : Int) ≤ (kk : Int) := by omega
          have i3 : (kk : Int) < (c.L.length : Int) := by omega
          subst hA4
          clear hq hE hAW had hqm hpr
          go_wp2_with fail
          refine HMV.out.mono ?_
          rintro e w6 ⟨x0, x1, x2', x3, x4, x5, x6, rfl, hpx, b6⟩
          have HR6 := Lib.hid (HZ.out.1.under b6)
          have HB6 := Lib.hid (HZ.out.2.trans (b6.mono HZ.out.2.size))
          have HPX := Lib.hid hpx
          clear b6 hpx e0 e1 e2 e3 e4 e5 e6 HMV
          obtain ⟨ML, hML⟩ : ∃ ML, ML = ((c.L.map awOf).take kk).map (mvA PL) := ⟨_, rfl⟩
          have hMk : ML.length = kk := by rw [hML, List.length_map, List.length_take, List.length_map]; omega
          have hnx : ((c.L.map awOf).take (kk + 1)).map (mvA PL) = ML ++ [mvA PL q] := by rw [hML, List.take_add_one, HQ.out]; simp
          rw [← hML] at HR6
          have HLT6 := Lib.hid HR6.out.lt
          obtain ⟨csv, hcv1, hcv2, hcv3⟩ := HR6.out
          rw [hMk] at hcv1 hcv3
          have HNX := Lib.hid (And.intro hnx hMk)
          have HCV := Lib.hid (And.intro hcv1 hcv2)
          have hb56 := HB6.out.size
          obtain ⟨hi, hz0, hz1, hz2⟩ := HI.out
          clear hnx hML hMk hcv1 hcv2 x2 HR6
          go_wp2_with (at_builtin; refine wpList_append_at _ rfl _ _ 37 rfl w5.heap.size 51 i0 word0 7 88 Tryz.underlying37 hi hz0 hz1 hz2 rfl (by decide) _ _ _ rfl (hcv3.alloc _) ⟨w6.heap.size, 0, none⟩ 1 1 [x0, x1, x2', x3, x4, x5, x6] rfl (by decide) rfl ?c1 ?c2 ?c3 ?c4 ?c5 ?_)
          case c1 =>
            intro i u hu
            exact (by
              have hg := block_alloc w6 (.cells #[x0, x1, x2', x3, x4, x5, x6] 51)
              have ea : (⟨w6.heap.size, 0, none⟩ : Addr).add i = ⟨w6.heap.size, i, none⟩ := by unfold Addr.add; split <;> simp_all
              rw [ea]
              match i, hu with
              | 0, hu => simp at hu; subst hu; exact cell_of_row (i := 0) hg rfl
              | 1, hu => simp at hu; subst hu; exact cell_of_row (i := 1) hg rfl
              | 2, hu => simp at hu; subst hu; exact cell_of_row (i := 2) hg rfl
              | 3, hu => simp at hu; subst hu; exact cell_of_row (i := 3) hg rfl
              | 4, hu => simp at hu; subst hu; exact cell_of_row (i := 4) hg rfl
              | 5, hu => simp at hu; subst hu; exact cell_of_row (i := 5) hg rfl
              | 6, hu => simp at hu; subst hu; exact cell_of_row (i := 6) hg rfl
              | i + 7, hu => simp at hu)
          case c2 => exact HPX.out.2.1
          case c3 => unfold maxLen; omega
          case c4 => omega
          case c5 => first | omega | (simp; omega)
          intro g9 cap9 w9 R9 grow9 hwh
          have hal : Below w5.heap.size w6 (w6.alloc (.cells #[x0, x1, x2', x3, x4, x5, x6] 51)) := (Below.refl _ _).alloc hb56 _
          have m9 := (Mod.grown (F := fun k => w5.heap.size ≤ k) grow9 (fun k hk e => (HLT6.out k e).1))
          have HNEW : Hid (RowM w5.heap.size w9 (.slice (some ⟨g9, 0, none⟩) (kk + 1) cap9) (((c.L.map awOf).take (kk + 1)).map (mvA PL)) ∧ Below w5.heap.size w5 w9) := by
            refine ⟨?_, HB6.out.trans (hal.trans (m9.below (by simp; omega) (fun k e => e)))⟩
            rw [HNX.out.1]
            refine RowM.snoc HPX.out ⟨csv, by rw [HCV.out.1, HNX.out.2], HCV.out.2, by rw [HNX.out.2]; exact R9⟩
          clear R9 grow9 hwh hal m9 hi hz0 hz1 hz2 hcv3
          go_wp2_with fail
          go_roundw
          case rel => exact ⟨kk + 1, _, by omega, by go_num, rfl, HNEW.out⟩
          case measure => simp [intOf] <;> omega
        · obtain rfl : kk = c.L.length := by omega
          obtain ⟨W6, hW6⟩ : ∃ X, X = wr := ⟨_, rfl⟩
          subst hW6
          have y0 : W6.cell? ⟨b11, 0, none⟩ = some (.int .i8 c.k) := below_cell HZ.out.2 (cell_of_row G5.out rfl)
          have hmv : ((c.L.map awOf).take c.L.length).map (mvA PL) = (c.L.map (mvW PL)).map awOf := by
            rw [List.take_of_length_le (by simp)]
            exact moved_parts HG.out HC.out.1
          have hrow := HZ.out.1
          rw [hmv] at hrow
          obtain ⟨A7, cap7, rfl, hwr⟩ := hrow.wrow
          have hml : ((c.L.map (mvW PL)).map awOf).length = c.L.length := by simp
          obtain ⟨hE0, hcat, hgn⟩ := rmake_next HG.out HSH.out HC.out.2 HC.out.1 HX.out.2.1
          have hr6 := HX.out.1.under (HB5.out.trans (HZ.out.2.mono HB5.out.size))
          have HMK := Lib.hid (rMake_any HX.out.2.1 c.k ((c.L.map (mvW PL)).map awOf) A7 cap7 W6 hr6 (by rw [hml] at hwr ⊢; exact hwr.keep (fun _ _ => rfl) (fun b hb => hb.2)) (by rw [hml]; omega))
          rw [hml] at HMK ⊢
          have HCT := Lib.hid (And.intro hE0 (And.intro hcat hgn))
          have HR6 := Lib.hid hr6
          clear hmv hrow hwr hml hE0 hcat hgn hr6
          go_wp2_with fail
          refine HMK.out.mono ?_
          rintro e w7 (⟨h0, _⟩ | ⟨h0, rfl, CS7, G7, h1, h2, h3⟩)
          · exact absurd HCT.out.1 h0
          have hm7 : Below B0 W6 w7 := h2.below (by have h5 := HX.out.2.2.size; have h6 := HB5.out.size; have h7 := HZ.out.2.size; have h8 := HB0.out; omega) (fun i hi => HR6.out.from_new i (hi.elim .inl (fun h => .inr (.inl h))))
          have hb36 : Below B0 W3 W6 := (HB5.out.trans (HZ.out.2.mono HB5.out.size)).mono (by have h5 := HX.out.2.2.size; have h8 := HB0.out; omega)
          have HNX : Hid (∃ CS' G', RAt B0 w7 po ((colC cs PL).take (j + 1)) CS' G' ∧ HGood ((colC cs PL).take (j + 1)) ∧ Below B0 W1 w7) := ⟨CS7, G7, by rw [← HCT.out.2.1]; exact h1, HCT.out.2.2, HX.out.2.2.trans (hb36.trans hm7)⟩
          clear h1 h2 h3 hm7 hb36 h0 x2 y0
          go_wp2_with fail
          go_roundw
          case rel => exact ⟨j + 1, by omega, by go_num, HNX.out⟩
          case measure => simp [intOf] <;> omega
    · obtain rfl : j = PL.length := by omega
      have HHB := Lib.hid (HB1.out.trans (HBB.out.mono HB1.out.size))
      go_wp2_with fail
      go_loopw [15, 16] (fun pv k wr => ∃ (kk : Nat) (ov : Value), kk ≤ R.length ∧ k = .int .i64 kk ∧ ov = pv ∧ Hid (RowM W3.heap.size wr ov ((R.take kk).map (mvA PL)) ∧ Below W3.heap.size W3 wr)) (fun _ k _ => R.length - (intOf k).toNat)
      case atStart => exact ⟨0, _, Nat.zero_le _, rfl, rfl, RowM.nil _ _, Below.refl _ _⟩
      case round =>
        obtain ⟨kk, ov, hkk, rfl, hov, HZ⟩ := hrel
        subst hov
        by_cases hlk : kk < R.length
        · obtain ⟨q, hq⟩ : ∃ q, R[kk]? = some q := ⟨R[kk], List.getElem?_eq_getElem hlk⟩
          obtain ⟨ad, v, hA4, had, hE, hAW⟩ := HR.out.at_ kk q hq
          have hbw : Below w.heap.size w wr := HHB.out.trans (HZ.out.2.mono HHB.out.size)
          obtain ⟨c0, c1, c2, c3, c4, c5, c6, rfl, e0, e1, e2, e3, e4, e5, e6⟩ := hE.keep (hbw.block ad.block had)
          have hqm := List.all_eq_true.1 HALL.out q (List.mem_of_getElem? hq)
          have hpr : PRow wr A1 cap1 PL := (HPR.out.keep HBB.out).keep HZ.out.2
          have HMV := Lib.hid (rmoved_any cs.length PL q _ A1 PL.length cap1 wr (hAW.keep (fun b hb => hbw.block b hb) (fun b hb => Nat.lt_of_lt_of_le hb hbw.size)) hqm (fun hqc => by
            rw [HPL.out]
            exact (reachL_mem HG.out (rootsOf_lt HALL.out)).2 (.root (rootsOf_mem.2 ⟨q, List.mem_of_getElem? hq, hqc, rfl⟩))) hpr rfl (by omega))
          have HQ := Lib.hid hq
          have i2 : (0 : Int) ≤ (kk : Int) := by omega
          have i3 : (kk : Int) < (R.length : Int) := by omega
          subst hA4
          clear hq hE hAW had hqm hpr hbw
          go_wp2_with fail
          refine HMV.out.mono ?_
          rintro e w6 ⟨x0, x1, x2', x3, x4, x5, x6, rfl, hpx, b6⟩
          have HR6 := Lib.hid (HZ.out.1.under b6)
          have HB6 := Lib.hid (HZ.out.2.trans (b6.mono HZ.out.2.size))
          have HPX := Lib.hid hpx
          clear b6 hpx e0 e1 e2 e3 e4 e5 e6 HMV
          obtain ⟨ML, hML⟩ : ∃ ML, ML = (R.take kk).map (mvA PL) := ⟨_, rfl⟩
          have hMk : ML.length = kk := by rw [hML, List.length_map, List.length_take]; omega
          have hnx : (R.take (kk + 1)).map (mvA PL) = ML ++ [mvA PL q] := by rw [hML, List.take_add_one, HQ.out]; simp
          rw [← hML] at HR6
          have HLT6 := Lib.hid HR6.out.lt
          obtain ⟨csv, hcv1, hcv2, hcv3⟩ := HR6.out
          rw [hMk] at hcv1 hcv3
          have HNX := Lib.hid (And.intro hnx hMk)
          have HCV := Lib.hid (And.intro hcv1 hcv2)
          have hb56 := HB6.out.size
          obtain ⟨hi, hz0, hz1, hz2⟩ := HI.out
          clear hnx hML hMk hcv1 hcv2 HR6
          go_wp2_with (at_builtin; refine wpList_append_at _ rfl _ _ 37 rfl W3.heap.size 51 i0 word0 7 88 Tryz.underlying37 hi hz0 hz1 hz2 rfl (by decide) _ _ _ rfl (hcv3.alloc _) ⟨w6.heap.size, 0, none⟩ 1 1 [x0, x1, x2', x3, x4, x5, x6] rfl (by decide) rfl ?c1 ?c2 ?c3 ?c4 ?c5 ?_)
          case c1 =>
            intro i u hu
            exact (by
              have hg := block_alloc w6 (.cells #[x0, x1, x2', x3, x4, x5, x6] 51)
              have ea : (⟨w6.heap.size, 0, none⟩ : Addr).add i = ⟨w6.heap.size, i, none⟩ := by unfold Addr.add; split <;> simp_all
              rw [ea]
              match i, hu with
              | 0, hu => simp at hu; subst hu; exact cell_of_row (i := 0) hg rfl
              | 1, hu => simp at hu; subst hu; exact cell_of_row (i := 1) hg rfl
              | 2, hu => simp at hu; subst hu; exact cell_of_row (i := 2) hg rfl
              | 3, hu => simp at hu; subst hu; exact cell_of_row (i := 3) hg rfl
              | 4, hu => simp at hu; subst hu; exact cell_of_row (i := 4) hg rfl
              | 5, hu => simp at hu; subst hu; exact cell_of_row (i := 5) hg rfl
              | 6, hu => simp at hu; subst hu; exact cell_of_row (i := 6) hg rfl
              | i + 7, hu => simp at hu)
          case c2 => exact HPX.out.2.1
          case c3 => unfold maxLen; omega
          case c4 => omega
          case c5 => first | omega | (simp; omega)
          intro g9 cap9 w9 R9 grow9 hwh
          have hal : Below W3.heap.size w6 (w6.alloc (.cells #[x0, x1, x2', x3, x4, x5, x6] 51)) := (Below.refl _ _).alloc hb56 _
          have m9 := (Mod.grown (F := fun k => W3.heap.size ≤ k) grow9 (fun k hk e => (HLT6.out k e).1))
          have HNEW : Hid (RowM W3.heap.size w9 (.slice (some ⟨g9, 0, none⟩) (kk + 1) cap9) ((R.take (kk + 1)).map (mvA PL)) ∧ Below W3.heap.size W3 w9) := by
            refine ⟨?_, HB6.out.trans (hal.trans (m9.below (by simp; omega) (fun k e => e)))⟩
            rw [HNX.out.1]
            refine RowM.snoc HPX.out ⟨csv, by rw [HCV.out.1, HNX.out.2], HCV.out.2, by rw [HNX.out.2]; exact R9⟩
          clear R9 grow9 hwh hal m9 hi hz0 hz1 hz2 hcv3
          go_wp2_with fail
          go_roundw
          case rel => exact ⟨kk + 1, _, by omega, by go_num, rfl, HNEW.out⟩
          case measure => simp [intOf] <;> omega
        · obtain rfl : kk = R.length := by omega
          have hrow := HZ.out.1
          rw [List.take_length] at hrow
          obtain ⟨B, bcap, rfl, hwr⟩ := hrow.wrow
          rw [List.length_map] at hwr ⊢
          have HWR := Lib.hid hwr
          clear hwr hrow
          go_wp2_with fail
          refine bodyPost_ret (v := .tuple #[.pointer (some ⟨po, 0, none⟩), .slice B R.length bcap, .int .i64 0]) (by simp [results, Tryz.f12, go_sem]) rfl ?_
          have hp := HX.out.1.under HZ.out.2
          rw [List.take_of_length_le (by rw [colC_len]; exact Nat.le_refl _)] at hp
          refine ⟨HHB.out.trans (HZ.out.2.mono HHB.out.size), .inl ⟨HALL.out, po, CS', G', B, bcap, ?_, ?_, rfl⟩⟩
          · rw [← HPL.out]
            exact hp.low_base (by have := HB0.out; have := HB1.out.size; omega)
          · rw [← HPL.out]
            exact HWR.out.keep (fun _ _ => rfl) (fun b hb => hb.2)
end Go.Proofs.YtaemfjmmklpjeaaGreatDoor
set_option linter.unusedVariables false
namespace Go.Proofs.YtaemfjmmklpjeaaGreatDoor
open Go.RowKit

structure TkR (w : World) (b5 b6 : Nat) (c : HC) (A : Option Addr) (cp : Nat) (L : List Tm) (lv : Value) (V : World) : Prop where
  res : V.heap[w.heap.size + 1]? = some (.cells #[.int .i8 0, .int .i64 0, .string ⟨#[]⟩, .string ⟨#[]⟩, .slice none 0 0] 27 (0, 0))
  cell : V.heap[b5]? = some (.cells #[.int .i8 c.k, .int .i64 c.size, .slice A c.L.length cp] 62 (0, 0))
  tbox : V.heap[b6]? = some (.cells #[.int .i8 c.k, .int .i64 0, .string ⟨#[]⟩, .string ⟨#[]⟩, lv] 27 (0, 0))
  own : OwnT (b6 + 1) (fun b => b6 < b ∧ b < V.heap.size ∧ lv.ownBlock ≠ some b) V lv L
  mod : Below w.heap.size w V
  ord : w.heap.size + 1 < b5 ∧ b5 < b6
theorem TkR.under {w V V' : World} {b5 b6 : Nat} {c : HC} {A : Option Addr} {cp : Nat} {L : List Tm} {lv : Value} (h : TkR w b5 b6 c A cp L lv V) (b : Below V.heap.size V V') : TkR w b5 b6 c A cp L lv V' :=
  ⟨(b.block _ (heap_lt h.res)).trans h.res, (b.block _ (heap_lt h.cell)).trans h.cell, (b.block _ (heap_lt h.tbox)).trans h.tbox,
    h.own.keep (Mod.of_below (F := fun _ => False) b) (fun _ _ f => f) (fun k hk => ⟨hk.2.1, fun f => f⟩) (fun k hk => ⟨hk.1, Nat.lt_of_lt_of_le hk.2.1 b.size, hk.2.2⟩), h.mod.trans (b.mono h.mod.size), h.ord⟩
theorem TkR.step {w V V' : World} {b5 b6 : Nat} {c : HC} {A : Option Addr} {cp : Nat} {L L' : List Tm} {lv lv' : Value} (h : TkR w b5 b6 c A cp L lv V) (O : OwnT (b6 + 1) (fun b => b6 < b ∧ b < V.heap.size ∧ lv.ownBlock ≠ some b) V' lv' L') (hg : V.grownBy V' lv.ownBlock) (hw : lv.ownBlock = lv'.ownBlock ∨ lv'.ownBlock = some V.heap.size) :
    TkR w b5 b6 c A cp L' lv' (V'.setCell ⟨b6, 4, none⟩ lv') := by
  have how : ∀ g, lv.ownBlock = some g → b6 + 1 ≤ g ∧ g < V.heap.size := fun g hg => h.own.own g hg
  have m : Mod (fun k => b6 + 1 ≤ k) V V' := Mod.grown hg (fun k _ e => (how k e).1)
  have m2 : Mod (fun k => k = b6) V' (V'.setCell ⟨b6, 4, none⟩ lv') := Mod.setCell _ _ _ (.inl rfl)
  have hord := h.ord
  have hsz := hg.size
  have t' := (m.block _ (heap_lt h.tbox) (by omega)).trans h.tbox
  have r' := (m.block _ (heap_lt h.res) (by omega)).trans h.res
  have c' := (m.block _ (heap_lt h.cell) (by omega)).trans h.cell
  refine ⟨(m2.block _ (heap_lt r') (by omega)).trans r', (m2.block _ (heap_lt c') (by omega)).trans c', set_row (i := 4) lv' t', ?_, ?_, h.ord⟩
  · refine O.keep m2 (fun g hg' e => ?_) (fun b hb => ⟨by omega, fun e => by have := hb.1; omega⟩) (fun b hb => ⟨hb.1, by have := hb.2.1; have := m2.size; omega, fun e => ?_⟩)
    · rcases hw with e1 | e1
      · have := (how g (e1.trans hg')).1; omega
      · rw [e1] at hg'; injection hg' with hg'; have := heap_lt h.tbox; omega
    · rcases hw with e1 | e1
      · exact hb.2.2 (e1.trans e)
      · rw [e1] at e; injection e with e; have := hb.2.1; omega
  · exact h.mod.trans ((m.below h.mod.size (fun k e => by omega)).trans (m2.below (by have := h.mod.size; omega) (fun k e => by omega)))

set_option maxHeartbeats 4000000 in
set_option maxRecDepth 100000 in
theorem rtake_leaf (rb : Nat) (x : Tm) (hx : leafE x = 0) (w : World) (v : Value) (hv : ∀ (P : Nat → Prop) (V : World), AWAt P V (awOf (.leaf x)) v) :
    Calls Tryz.prog 65 #[.pointer (some ⟨rb, 0, none⟩), v] w (NewT (.mk x.k x.n x.s x.t []) w) := by
  obtain ⟨k, n, s, t, A0, l, cap0, hxx, rfl, -⟩ := aw_cells (hv (fun _ => True) w)
  have hTT : ∀ (P : Nat → Prop) (V : World), TmAt P V (.mk x.k x.n x.s x.t []) (.agg #[.int .i8 k, .int .i64 n, .string s, .string t, .slice A0 l.length cap0]) := fun P V => by
    obtain ⟨k', n', s', t', A', l', cap', h1, h2, h3⟩ := aw_cells (hv P V)
    simp only [Value.agg.injEq, Array.mk.injEq, List.cons.injEq, Value.int.injEq, Value.string.injEq, Value.slice.injEq, and_true, true_and] at h2
    obtain ⟨rfl, rfl, rfl, rfl, rfl, hl, rfl⟩ := h2
    rw [← h1, ← hl] at h3
    have h4 : (awOf (.leaf x)).x = .mk x.k x.n x.s x.t [] := by
      have hl0 := (leaf_bounds hx).1
      obtain ⟨k, n, s, t, l⟩ := x
      obtain rfl : l = [] := hl0
      rfl
    rw [h4] at h3
    exact h3
  have HTT := Lib.hid hTT
  clear hTT hv hxx
  show Calls _ _ #[.pointer (some ⟨rb, 0, none⟩), .agg #[.bool false, .int .i64 0, .int .i8 k, .int .i64 n, .string s, .string t, .slice A0 l.length cap0]] w _
  go_enter Tryz.func65, Tryz.ntmps65
  go_wp2_with fail
  refine bodyPost_ret (v := .agg #[.int .i8 k, .int .i64 n, .string s, .string t, .slice A0 l.length cap0]) (by simp [results, Tryz.f65, go_sem]) rfl ?_
  exact ⟨_, rfl, HTT.out _ _, ((Below.refl _ w).alloc (Nat.le_refl _) _).alloc (by simp) _⟩

set_option maxHeartbeats 8000000 in
set_option maxRecDepth 100000 in
theorem rtake_any {base rb : Nat} {cs : List HC} {CS : Value} {G : Nat → Prop} (hg : HGood cs) : ∀ (f : Nat) (y : HW), wgood f y → f ≤ cs.length → ∀ (w : World) (v : Value), RAt base w rb cs CS G → (∀ (P : Nat → Prop) (V : World), AWAt P V (awOf y) v) →
    Calls Tryz.prog 65 #[.pointer (some ⟨rb, 0, none⟩), v] w (NewT (wt cs f y) w) := by
  intro f
  induction f with
  | zero =>
    intro y hy _ w v hE hv
    cases y with
    | ref a => exact absurd hy (Nat.not_lt_zero _)
    | leaf x => exact rtake_leaf rb x hy w v hv
  | succ f ih =>
    intro y hy hf w v hE hv
    cases y with
    | leaf x => exact rtake_leaf rb x hy w v hv
    | ref a =>
    have hac : a < cs.length := Nat.lt_of_lt_of_le hy hf
    obtain ⟨c, hc⟩ : ∃ c, cs[a]? = some c := ⟨cs[a], List.getElem?_eq_getElem hac⟩
    have hsz := cell_len hg hc
    have hpl : ∀ y ∈ c.L, wgood f y := fun y hy' => by
      have h1 := hg.low a c hc y hy'
      cases y with
      | leaf x => exact h1
      | ref b => exact Nat.lt_of_lt_of_le h1 (by have : a < f + 1 := hy; omega)
    have HWT := Lib.hid (wt_ref (f := f) hc)
    have hwn : ∀ y ∈ c.L, wgood cs.length y := fun y hy' => by
      have h1 := hg.low a c hc y hy'
      cases y with
      | leaf x => exact h1
      | ref b => exact Nat.lt_trans h1 hac
    obtain ⟨k, n, s, t, A0, l, cap0, hxx, rfl, -⟩ := aw_cells (hv (fun _ => True) w)
    clear hv hxx
    show Calls _ _ #[.pointer (some ⟨rb, 0, none⟩), .agg #[.bool true, .int .i64 (a : Int), .int .i8 k, .int .i64 n, .string s, .string t, .slice A0 l.length cap0]] w _
    obtain ⟨w1, hw1⟩ : ∃ w1, w1 = (w.alloc (.cells #[.bool true, .int .i64 a, .int .i8 k, .int .i64 n, .string s, .string t, .slice A0 l.length cap0] 51)).alloc (.cells #[.int .i8 0, .int .i64 0, .string ⟨#[]⟩, .string ⟨#[]⟩, .slice none 0 0] 27) := ⟨_, rfl⟩
    have z1 : (w.alloc (.cells #[.bool true, .int .i64 a, .int .i8 k, .int .i64 n, .string s, .string t, .slice A0 l.length cap0] 51)).heap.size = w.heap.size + 1 := World.size_alloc _ _
    have B1 : Below w.heap.size w w1 := by rw [hw1]; exact ((Below.refl _ w).alloc (Nat.le_refl _) _).alloc (by omega) _
    have zw1 : w1.heap.size = w.heap.size + 2 := by rw [hw1, World.size_alloc, z1]
    have g0 : w1.heap[w.heap.size]? = some (.cells #[.bool true, .int .i64 a, .int .i8 k, .int .i64 n, .string s, .string t, .slice A0 l.length cap0] 51 (0, 0)) := by rw [hw1, Below.heap_alloc _ _ _ (by omega)]; exact block_alloc _ _
    have g1 : w1.heap[w.heap.size + 1]? = some (.cells #[.int .i8 0, .int .i64 0, .string ⟨#[]⟩, .string ⟨#[]⟩, .slice none 0 0] 27 (0, 0)) := by rw [hw1, ← z1]; exact block_alloc _ _
    have x0 : w1.cell? ⟨w.heap.size, 0, none⟩ = some (.bool true) := cell_of_row g0 rfl
    have e1 := hE.under B1
    obtain ⟨gc, ccap, A, cp, hCS, k0, k1, k2, hWA⟩ := e1.cell hc
    have hbx := cell_of_row (i := 0) e1.box rfl
    rw [hCS] at hbx
    have i0 : (0 : Int) ≤ (a : Int) := by omega
    have i1 : (a : Int) < (cs.length : Int) := by omega
    have ad3 : (⟨gc, 0, none⟩ : Addr).add (a * 3) = ⟨gc, a * 3, none⟩ := by unfold Addr.add; split <;> simp_all
    have HIH := Lib.hid (fun y hy => ih y (hpl y hy) (by omega))
    have HE := Lib.hid hE
    have HROW : Hid (∀ (j : Nat) (y : HW), c.L[j]? = some y → ∃ ad v, A = some ad ∧ ad.block < w1.heap.size ∧ ElemW w1 ad j v ∧ ∀ (P : Nat → Prop) (V : World), AWAt P V (awOf y) v) := fun j y hj => by
      obtain ⟨g, rfl, hG, hW⟩ := hWA (fun e => by rw [e] at hj; simp at hj)
      obtain ⟨ad, v, hA, hP, hEl, hAW⟩ := hW.at_ j (awOf y) (by rw [List.getElem?_map, hj]; rfl)
      cases hA
      exact ⟨_, v, rfl, (e1.own _ hG).1, hEl, fun P V => aw_any (awOf_may (hwn y (List.mem_of_getElem? hj))) hAW⟩
    have HKK := Lib.hid (hg.kind a c hc)
    have HSZ : Hid (c.L.length + 1 ≤ 256) := hsz
    have HB1 := Lib.hid B1
    have HZ1 := Lib.hid zw1
    have HK := Lib.hid (And.intro g0 (And.intro g1 (And.intro k0 (And.intro k1 (And.intro k2 hbx)))))
    clear ih hE e1 g0 g1 B1 k0 k1 k2 hWA hCS zw1 z1 hpl hwn hc hy hf hsz hbx hac
    go_enter Tryz.func65, Tryz.ntmps65
    go_wp2_with fail
    rw [← hw1]
    clear hw1
    go_wp2_with fail
    clear x0
    refine wp_region_held (S := fun V => V.heap[w.heap.size]? = some (.cells #[.bool true, .int .i64 a, .int .i8 k, .int .i64 n, .string s, .string t, .slice A0 l.length cap0] 51 (0, 0)) ∧ V.cell? ⟨gc, a * 3, none⟩ = some (.int .i8 c.k) ∧ V.cell? ⟨gc, a * 3 + 1, none⟩ = some (.int .i64 c.size) ∧ V.cell? ⟨gc, a * 3 + 2, none⟩ = some (.slice A c.L.length cp) ∧ V.cell? ⟨rb, 0, none⟩ = some (.slice (some ⟨gc, 0, none⟩) cs.length ccap)) (by kernel_rfl) ?_
    show wpAnyH _ _ _ _ _ _ _ _ w1.drew
    have hdr : Below w1.heap.size w1 w1.drew := ⟨rfl, rfl, rfl, Nat.le_refl _, fun _ _ => rfl⟩
    have hS0 : (fun V : World => V.heap[w.heap.size]? = some (.cells #[.bool true, .int .i64 a, .int .i8 k, .int .i64 n, .string s, .string t, .slice A0 l.length cap0] 51 (0, 0)) ∧ V.cell? ⟨gc, a * 3, none⟩ = some (.int .i8 c.k) ∧ V.cell? ⟨gc, a * 3 + 1, none⟩ = some (.int .i64 c.size) ∧ V.cell? ⟨gc, a * 3 + 2, none⟩ = some (.slice A c.L.length cp) ∧ V.cell? ⟨rb, 0, none⟩ = some (.slice (some ⟨gc, 0, none⟩) cs.length ccap)) w1.drew :=
      ⟨HK.out.1, below_cell hdr HK.out.2.2.1, below_cell hdr HK.out.2.2.2.1, below_cell hdr HK.out.2.2.2.2.1, below_cell hdr HK.out.2.2.2.2.2⟩
    have HBD : Hid (Below w.heap.size w w1.drew ∧ w1.drew.heap[w.heap.size + 1]? = some (.cells #[.int .i8 0, .int .i64 0, .string ⟨#[]⟩, .string ⟨#[]⟩, .slice none 0 0] 27 (0, 0)) ∧ w1.drew.heap.size = w.heap.size + 2 ∧ Below w1.heap.size w1 w1.drew) := ⟨HB1.out.trans (hdr.mono HB1.out.size), HK.out.2.1, HZ1.out, hdr⟩
    clear hdr
    generalize w1.drew = D at hS0 HBD ⊢
    refine wpAnyH_take (i := 0) (oi := ⟨some 13, _, _, _, _, _⟩) (v := ?_) rfl (by kernel_rfl) (by kernel_rfl) (by kernel_rfl) (fun _ _ _ h => h) (Or.inl ⟨by kernel_rfl, ?_⟩) (by assumption) ?_; rotate_left; (intro w hSw; (try dsimp only at hSw); obtain ⟨sw, q1, q2, q3, q4⟩ := hSw; have q0 := cell_of_row (i := 1) sw rfl; go_simp; first | done | with_reducible rfl); (try simp only [Act.put, sI, sZ, sS])
    refine wpAnyH_take (i := 1) (oi := ⟨some 14, _, _, _, _, _⟩) (v := ?_) rfl (by kernel_rfl) (by kernel_rfl) (by kernel_rfl) (fun _ _ _ h => h) (Or.inl ⟨by kernel_rfl, ?_⟩) (by assumption) ?_; rotate_left; (intro w hSw; (try dsimp only at hSw); obtain ⟨sw, q1, q2, q3, q4⟩ := hSw; have q0 := cell_of_row (i := 1) sw rfl; go_simp; first | done | with_reducible rfl); (try simp only [Act.put, sI, sZ, sS])
    refine wpAnyH_take (i := 2) (oi := ⟨some 15, _, _, _, _, _⟩) (v := ?_) rfl (by kernel_rfl) (by kernel_rfl) (by kernel_rfl) (fun _ _ _ h => h) (Or.inl ⟨by kernel_rfl, ?_⟩) (by assumption) ?_; rotate_left; (intro w hSw; (try dsimp only at hSw); obtain ⟨sw, q1, q2, q3, q4⟩ := hSw; have q0 := cell_of_row (i := 1) sw rfl; go_simp; first | done | with_reducible rfl); (try simp only [Act.put, sI, sZ, sS])
    refine wpAnyH_take (i := 3) (oi := ⟨some 16, _, _, _, _, _⟩) (v := ?_) rfl (by kernel_rfl) (by kernel_rfl) (by kernel_rfl) (fun _ _ _ h => h) (Or.inl ⟨by kernel_rfl, ?_⟩) (by assumption) ?_; rotate_left; (intro w hSw; (try dsimp only at hSw); obtain ⟨sw, q1, q2, q3, q4⟩ := hSw; have q0 := cell_of_row (i := 1) sw rfl; go_simp; first | done | with_reducible rfl); (try simp only [Act.put, sI, sZ, sS])
    refine wpAnyH_take (i := 4) (oi := ⟨some 17, _, _, _, _, _⟩) (v := ?_) rfl (by kernel_rfl) (by kernel_rfl) (by kernel_rfl) (fun _ _ _ h => h) (Or.inl ⟨by kernel_rfl, ?_⟩) (by assumption) ?_; rotate_left; (intro w hSw; (try dsimp only at hSw); obtain ⟨sw, q1, q2, q3, q4⟩ := hSw; have q0 := cell_of_row (i := 1) sw rfl; go_simp; first | done | with_reducible rfl); (try simp only [Act.put, sI, sZ, sS])
    refine wpAnyH_take (i := 5) (oi := ⟨some 18, _, _, _, _, _⟩) (v := ?_) rfl (by kernel_rfl) (by kernel_rfl) (by kernel_rfl) (fun _ _ _ h => h) (Or.inl ⟨by kernel_rfl, ?_⟩) (by assumption) ?_; rotate_left; (intro w hSw; (try dsimp only at hSw); obtain ⟨sw, q1, q2, q3, q4⟩ := hSw; have q0 := cell_of_row (i := 1) sw rfl; go_simp; first | done | with_reducible rfl); (try simp only [Act.put, sI, sZ, sS])
    refine wpAnyH_take (i := 6) (oi := ⟨some 19, _, _, _, _, _⟩) (v := ?_) rfl (by kernel_rfl) (by kernel_rfl) (by kernel_rfl) (fun _ _ _ h => h) (Or.inl ⟨by kernel_rfl, ?_⟩) (by assumption) ?_; rotate_left; (intro w hSw; (try dsimp only at hSw); obtain ⟨sw, q1, q2, q3, q4⟩ := hSw; have q0 := cell_of_row (i := 1) sw rfl; go_simp; first | done | with_reducible rfl); (try simp only [Act.put, sI, sZ, sS])
    refine wpAnyH_take (i := 7) (oi := ⟨some 20, _, _, _, _, _⟩) (v := ?_) rfl (by kernel_rfl) (by kernel_rfl) (by kernel_rfl) (fun _ _ _ h => h) (Or.inl ⟨by kernel_rfl, ?_⟩) (by assumption) ?_; rotate_left; (intro w hSw; (try dsimp only at hSw); obtain ⟨sw, q1, q2, q3, q4⟩ := hSw; have q0 := cell_of_row (i := 1) sw rfl; go_simp; first | done | with_reducible rfl); (try simp only [Act.put, sI, sZ, sS])
    refine wpAnyH_ready (rs := [8]) (by kernel_rfl) (by simp) ?_
    refine AllReadyH.cons (o := ⟨some 5, _, _, _, _, _⟩) rfl (fun K hK => ?_) AllReadyH.nil
    rw [if_pos (by rfl)]
    go_simp
    have gD := block_alloc D (.cells #[.int .i8 0, .int .i64 0, .slice none 0 0] 62)
    have bD : Below D.heap.size D (D.alloc (.cells #[.int .i8 0, .int .i64 0, .slice none 0 0] 62)) := (Below.refl _ _).alloc (Nat.le_refl _) _
    have hsD : (D.alloc (.cells #[.int .i8 0, .int .i64 0, .slice none 0 0] 62)).heap.size = D.heap.size + 1 := World.size_alloc _ _
    generalize D.alloc (.cells #[.int .i8 0, .int .i64 0, .slice none 0 0] 62) = D2 at gD bD hsD ⊢
    have hS2 := And.intro ((bD.block _ (heap_lt hS0.1)).trans hS0.1) (And.intro (below_cell bD hS0.2.1) (And.intro (below_cell bD hS0.2.2.1) (And.intro (below_cell bD hS0.2.2.2.1) (below_cell bD hS0.2.2.2.2))))
    refine hK.out _ _ hS2 (fun hSn => ?_)
    clear hK K; (try simp only [Act.put, sI, sZ, sS])
    have y0 : D2.cell? ⟨D.heap.size, 0, none⟩ = some (.int .i8 0) := cell_of_row gD rfl
    have fz0 : D2.frozen? ⟨D.heap.size, 0, none⟩ = false := free_of_row gD
    have y1 : D2.cell? ⟨D.heap.size, 1, none⟩ = some (.int .i64 0) := cell_of_row gD rfl
    have fz1 : D2.frozen? ⟨D.heap.size, 1, none⟩ = false := free_of_row gD
    have y2 : D2.cell? ⟨D.heap.size, 2, none⟩ = some (.slice none 0 0) := cell_of_row gD rfl
    have fz2 : D2.frozen? ⟨D.heap.size, 2, none⟩ = false := free_of_row gD
    have SV := Lib.hid (set_three (.int .i8 c.k) (.int .i64 c.size) (.slice A c.L.length cp) gD)
    clear gD
    refine wpAnyH_ready (rs := [9]) (by kernel_rfl) (by simp) ?_
    refine AllReadyH.cons (o := ⟨none, _, _, _, _, _⟩) rfl (fun K hK => ?_) AllReadyH.nil
    rw [if_pos (by rfl)]
    go_simp
    obtain ⟨s3, m3⟩ := SV.out
    generalize ((D2.setCell ⟨D.heap.size, 0, none⟩ (.int .i8 c.k)).setCell ⟨D.heap.size, 1, none⟩ (.int .i64 c.size)).setCell ⟨D.heap.size, 2, none⟩ (.slice A c.L.length cp) = X at s3 m3 ⊢
    have hd1 := HBD.out.2.2.1
    have bX : Below D.heap.size D2 X := m3.below (by omega) (fun k (e : k = D.heap.size) => by omega)
    have bDX : Below D.heap.size D X := bD.trans bX
    have hS3 := And.intro ((bDX.block _ (heap_lt hS0.1)).trans hS0.1) (And.intro (below_cell bDX hS0.2.1) (And.intro (below_cell bDX hS0.2.2.1) (And.intro (below_cell bDX hS0.2.2.2.1) (below_cell bDX hS0.2.2.2.2))))
    refine hK.out _ _ hS3 (fun hSn => ?_)
    clear hK K; (try simp only [Act.put, sI, sZ, sS])
    refine wpAnyH_done (by kernel_rfl) ?_ _
    obtain ⟨b5, hb5⟩ : ∃ b, b = D.heap.size := ⟨_, rfl⟩
    rw [← hb5] at s3 ⊢
    have hXs : b5 < X.heap.size := heap_lt s3
    have hX1 := (bDX.block _ (heap_lt HBD.out.2.1)).trans HBD.out.2.1
    have HX : Hid (Below w1.heap.size w1 X ∧ Below w.heap.size w X ∧ X.heap[w.heap.size + 1]? = some (.cells #[.int .i8 0, .int .i64 0, .string ⟨#[]⟩, .string ⟨#[]⟩, .slice none 0 0] 27 (0, 0)) ∧ X.heap[b5]? = some (.cells #[.int .i8 c.k, .int .i64 c.size, .slice A c.L.length cp] 62 (0, 0)) ∧ w.heap.size + 1 < b5 ∧ b5 < X.heap.size) := ⟨HBD.out.2.2.2.trans (bDX.mono (by have := HZ1.out; omega)), HBD.out.1.trans (bDX.mono HBD.out.1.size), hX1, s3, by omega, hXs⟩
    have x0 : X.cell? ⟨b5, 0, none⟩ = some (.int .i8 c.k) := cell_of_row s3 rfl
    clear hS0 hS2 hS3 hXs s3 m3 bX bDX bD hd1 hX1 SV y0 fz0 y1 fz1 y2 fz2 hsD hb5 HBD HK ad3 i0 i1
    have z0 : (X.alloc (.cells #[.int .i8 0, .int .i64 0, .string ⟨#[]⟩, .string ⟨#[]⟩, .slice none 0 0] 27)).cell? ⟨X.heap.size, 0, none⟩ = some (.int .i8 0) := cell_of_row (block_alloc _ _) rfl
    have zf0 : (X.alloc (.cells #[.int .i8 0, .int .i64 0, .string ⟨#[]⟩, .string ⟨#[]⟩, .slice none 0 0] 27)).frozen? ⟨X.heap.size, 0, none⟩ = false := free_of_row (block_alloc _ _)
    have z1 : (X.alloc (.cells #[.int .i8 0, .int .i64 0, .string ⟨#[]⟩, .string ⟨#[]⟩, .slice none 0 0] 27)).cell? ⟨X.heap.size, 1, none⟩ = some (.int .i64 0) := cell_of_row (block_alloc _ _) rfl
    have zf1 : (X.alloc (.cells #[.int .i8 0, .int .i64 0, .string ⟨#[]⟩, .string ⟨#[]⟩, .slice none 0 0] 27)).frozen? ⟨X.heap.size, 1, none⟩ = false := free_of_row (block_alloc _ _)
    have z2 : (X.alloc (.cells #[.int .i8 0, .int .i64 0, .string ⟨#[]⟩, .string ⟨#[]⟩, .slice none 0 0] 27)).cell? ⟨X.heap.size, 2, none⟩ = some (.string ⟨#[]⟩) := cell_of_row (block_alloc _ _) rfl
    have zf2 : (X.alloc (.cells #[.int .i8 0, .int .i64 0, .string ⟨#[]⟩, .string ⟨#[]⟩, .slice none 0 0] 27)).frozen? ⟨X.heap.size, 2, none⟩ = false := free_of_row (block_alloc _ _)
    have z3 : (X.alloc (.cells #[.int .i8 0, .int .i64 0, .string ⟨#[]⟩, .string ⟨#[]⟩, .slice none 0 0] 27)).cell? ⟨X.heap.size, 3, none⟩ = some (.string ⟨#[]⟩) := cell_of_row (block_alloc _ _) rfl
    have zf3 : (X.alloc (.cells #[.int .i8 0, .int .i64 0, .string ⟨#[]⟩, .string ⟨#[]⟩, .slice none 0 0] 27)).frozen? ⟨X.heap.size, 3, none⟩ = false := free_of_row (block_alloc _ _)
    have z4 : (X.alloc (.cells #[.int .i8 0, .int .i64 0, .string ⟨#[]⟩, .string ⟨#[]⟩, .slice none 0 0] 27)).cell? ⟨X.heap.size, 4, none⟩ = some (.slice none 0 0) := cell_of_row (block_alloc _ _) rfl
    have zf4 : (X.alloc (.cells #[.int .i8 0, .int .i64 0, .string ⟨#[]⟩, .string ⟨#[]⟩, .slice none 0 0] 27)).frozen? ⟨X.heap.size, 4, none⟩ = false := free_of_row (block_alloc _ _)
    have xa0 : (X.alloc (.cells #[.int .i8 0, .int .i64 0, .string ⟨#[]⟩, .string ⟨#[]⟩, .slice none 0 0] 27)).cell? ⟨b5, 0, none⟩ = some (.int .i8 c.k) := below_cell ((Below.refl _ _).alloc (Nat.le_refl _) _) x0
    go_upto_region 5 with fail
    have b6w : Below X.heap.size X (X.alloc (.cells #[.int .i8 c.k, .int .i64 0, .string ⟨#[]⟩, .string ⟨#[]⟩, .slice none 0 0] 27)) := (Below.refl _ _).alloc (Nat.le_refl _) _
    have g6 : (X.alloc (.cells #[.int .i8 c.k, .int .i64 0, .string ⟨#[]⟩, .string ⟨#[]⟩, .slice none 0 0] 27)).heap[X.heap.size]? = some (.cells #[.int .i8 c.k, .int .i64 0, .string ⟨#[]⟩, .string ⟨#[]⟩, .slice none 0 0] 27 (0, 0)) := block_alloc _ _
    obtain ⟨b6, hb6⟩ : ∃ b, b = X.heap.size := ⟨_, rfl⟩
    rw [← hb6] at g6 ⊢
    generalize X.alloc (.cells #[.int .i8 c.k, .int .i64 0, .string ⟨#[]⟩, .string ⟨#[]⟩, .slice none 0 0] 27) = X6 at b6w g6 ⊢
    have HT0 : Hid (TkR w b5 b6 c A cp [] (.slice none 0 0) X6) := ⟨(b6w.block _ (heap_lt HX.out.2.2.1)).trans HX.out.2.2.1, (b6w.block _ (heap_lt HX.out.2.2.2.1)).trans HX.out.2.2.2.1, g6, OwnT.nil _ _ _, HX.out.2.1.trans (b6w.mono HX.out.2.1.size), HX.out.2.2.2.2.1, by have := HX.out.2.2.2.2.2; omega⟩
    have HBX : Hid (Below w1.heap.size w1 X6) := HX.out.1.trans (b6w.mono HX.out.1.size)
    clear b6w g6 hb6 x0 xa0 z0 zf0 z1 zf1 z2 zf2 z3 zf3 z4 zf4
    go_wp2_with fail
    go_loopw [7] (fun i wr => ∃ (j : Nat) (A2 : Option Addr) (cap2 : Nat), j ≤ c.L.length ∧ i = .int .i64 j ∧ Hid (TkR w b5 b6 c A cp ((c.L.take j).map (wt cs f)) (.slice A2 j cap2) wr ∧ Below w1.heap.size w1 wr)) (fun i _ => c.L.length - (intOf i).toNat)
    case atStart => exact ⟨0, none, 0, Nat.zero_le _, rfl, HT0.out, HBX.out⟩
    case round =>
      obtain ⟨j, A2, cap2, hj, rfl, HT⟩ := hrel
      have x2 : wr.cell? ⟨b5, 2, none⟩ = some (.slice A c.L.length cp) := cell_of_row HT.out.1.cell rfl
      have hcn : c.L.length + 1 ≤ 256 := HSZ.out
      by_cases hlt : j < c.L.length
      · obtain ⟨y, hy⟩ : ∃ y, c.L[j]? = some y := ⟨c.L[j], List.getElem?_eq_getElem hlt⟩
        obtain ⟨ad, v, hA, had, hEl, hAW⟩ := HROW.out j y hy
        have hEl2 := hEl.keep (HT.out.2.block ad.block had)
        have HAW := Lib.hid hAW
        have HY := Lib.hid hy
        have HAD := Lib.hid had
        subst hA
        have i2 : (0 : Int) ≤ (j : Int) := by omega
        have i3 : (j : Int) < (c.L.length : Int) := by omega
        clear hEl hAW hy
        go_wp2_with fail
        clear x2
        refine wp_region_held (S := fun V => V.heap[b5]? = some (.cells #[.int .i8 c.k, .int .i64 c.size, .slice (some ad) c.L.length cp] 62 (0, 0)) ∧ ElemW V ad j v) (by kernel_rfl) ?_
        show wpAnyH _ _ _ _ _ _ _ _ wr.drew
        have hdr : Below wr.heap.size wr wr.drew := ⟨rfl, rfl, rfl, Nat.le_refl _, fun _ _ => rfl⟩
        have ht := HT.out.1.under hdr
        have hb1 := HT.out.2.trans (hdr.mono HT.out.2.size)
        have hel := hEl2.keep (hdr.block _ (by have := HT.out.2.size; omega))
        clear hEl2 hdr
        generalize wr.drew = D at ht hb1 hel ⊢
        have hS0 : (fun V : World => V.heap[b5]? = some (.cells #[.int .i8 c.k, .int .i64 c.size, .slice (some ad) c.L.length cp] 62 (0, 0)) ∧ ElemW V ad j v) D := ⟨ht.cell, hel⟩
        obtain ⟨c0, c1, c2, c3, c4, c5, c6, hvv, -⟩ := id hel
        subst hvv
        refine wpAnyH_take (i := 0) (oi := ⟨some 31, _, _, _, _, _⟩) (v := ?_) rfl (by kernel_rfl) (by kernel_rfl) (by kernel_rfl) (fun _ _ _ h => h) (Or.inl ⟨by kernel_rfl, ?_⟩) (by assumption) ?_; rotate_left; (intro w hSw; (try dsimp only at hSw); obtain ⟨s5, sE⟩ := hSw; have q5 := cell_of_row (i := 2) s5 rfl; obtain ⟨d0, d1, d2, d3, d4, d5, d6, hd, e0, e1, e2, e3, e4, e5, e6⟩ := sE; simp only [Value.agg.injEq, Array.mk.injEq, List.cons.injEq, and_true] at hd; obtain ⟨rfl, rfl, rfl, rfl, rfl, rfl, rfl⟩ := hd; go_simp; first | done | with_reducible rfl); (try simp only [Act.put, sI, sZ, sS])
        refine wpAnyH_take (i := 2) (oi := ⟨some 33, _, _, _, _, _⟩) (v := ?_) rfl (by kernel_rfl) (by kernel_rfl) (by kernel_rfl) (fun _ _ _ h => h) (Or.inl ⟨by kernel_rfl, ?_⟩) (by assumption) ?_; rotate_left; (intro w hSw; (try dsimp only at hSw); obtain ⟨s5, sE⟩ := hSw; have q5 := cell_of_row (i := 2) s5 rfl; obtain ⟨d0, d1, d2, d3, d4, d5, d6, hd, e0, e1, e2, e3, e4, e5, e6⟩ := sE; simp only [Value.agg.injEq, Array.mk.injEq, List.cons.injEq, and_true] at hd; obtain ⟨rfl, rfl, rfl, rfl, rfl, rfl, rfl⟩ := hd; go_simp; first | done | with_reducible rfl); (try simp only [Act.put, sI, sZ, sS])
        refine wpAnyH_take (i := 3) (oi := ⟨some 34, _, _, _, _, _⟩) (v := ?_) rfl (by kernel_rfl) (by kernel_rfl) (by kernel_rfl) (fun _ _ _ h => h) (Or.inl ⟨by kernel_rfl, ?_⟩) (by assumption) ?_; rotate_left; (intro w hSw; (try dsimp only at hSw); obtain ⟨s5, sE⟩ := hSw; have q5 := cell_of_row (i := 2) s5 rfl; obtain ⟨d0, d1, d2, d3, d4, d5, d6, hd, e0, e1, e2, e3, e4, e5, e6⟩ := sE; simp only [Value.agg.injEq, Array.mk.injEq, List.cons.injEq, and_true] at hd; obtain ⟨rfl, rfl, rfl, rfl, rfl, rfl, rfl⟩ := hd; go_simp; first | done | with_reducible rfl); (try simp only [Act.put, sI, sZ, sS])
        refine wpAnyH_take (i := 4) (oi := ⟨some 35, _, _, _, _, _⟩) (v := ?_) rfl (by kernel_rfl) (by kernel_rfl) (by kernel_rfl) (fun _ _ _ h => h) (Or.inl ⟨by kernel_rfl, ?_⟩) (by assumption) ?_; rotate_left; (intro w hSw; (try dsimp only at hSw); obtain ⟨s5, sE⟩ := hSw; have q5 := cell_of_row (i := 2) s5 rfl; obtain ⟨d0, d1, d2, d3, d4, d5, d6, hd, e0, e1, e2, e3, e4, e5, e6⟩ := sE; simp only [Value.agg.injEq, Array.mk.injEq, List.cons.injEq, and_true] at hd; obtain ⟨rfl, rfl, rfl, rfl, rfl, rfl, rfl⟩ := hd; go_simp; first | done | with_reducible rfl); (try simp only [Act.put, sI, sZ, sS])
        refine wpAnyH_take (i := 5) (oi := ⟨some 36, _, _, _, _, _⟩) (v := ?_) rfl (by kernel_rfl) (by kernel_rfl) (by kernel_rfl) (fun _ _ _ h => h) (Or.inl ⟨by kernel_rfl, ?_⟩) (by assumption) ?_; rotate_left; (intro w hSw; (try dsimp only at hSw); obtain ⟨s5, sE⟩ := hSw; have q5 := cell_of_row (i := 2) s5 rfl; obtain ⟨d0, d1, d2, d3, d4, d5, d6, hd, e0, e1, e2, e3, e4, e5, e6⟩ := sE; simp only [Value.agg.injEq, Array.mk.injEq, List.cons.injEq, and_true] at hd; obtain ⟨rfl, rfl, rfl, rfl, rfl, rfl, rfl⟩ := hd; go_simp; first | done | with_reducible rfl); (try simp only [Act.put, sI, sZ, sS])
        refine wpAnyH_take (i := 6) (oi := ⟨some 37, _, _, _, _, _⟩) (v := ?_) rfl (by kernel_rfl) (by kernel_rfl) (by kernel_rfl) (fun _ _ _ h => h) (Or.inl ⟨by kernel_rfl, ?_⟩) (by assumption) ?_; rotate_left; (intro w hSw; (try dsimp only at hSw); obtain ⟨s5, sE⟩ := hSw; have q5 := cell_of_row (i := 2) s5 rfl; obtain ⟨d0, d1, d2, d3, d4, d5, d6, hd, e0, e1, e2, e3, e4, e5, e6⟩ := sE; simp only [Value.agg.injEq, Array.mk.injEq, List.cons.injEq, and_true] at hd; obtain ⟨rfl, rfl, rfl, rfl, rfl, rfl, rfl⟩ := hd; go_simp; first | done | with_reducible rfl); (try simp only [Act.put, sI, sZ, sS])
        refine wpAnyH_take (i := 7) (oi := ⟨some 38, _, _, _, _, _⟩) (v := ?_) rfl (by kernel_rfl) (by kernel_rfl) (by kernel_rfl) (fun _ _ _ h => h) (Or.inl ⟨by kernel_rfl, ?_⟩) (by assumption) ?_; rotate_left; (intro w hSw; (try dsimp only at hSw); obtain ⟨s5, sE⟩ := hSw; have q5 := cell_of_row (i := 2) s5 rfl; obtain ⟨d0, d1, d2, d3, d4, d5, d6, hd, e0, e1, e2, e3, e4, e5, e6⟩ := sE; simp only [Value.agg.injEq, Array.mk.injEq, List.cons.injEq, and_true] at hd; obtain ⟨rfl, rfl, rfl, rfl, rfl, rfl, rfl⟩ := hd; go_simp; first | done | with_reducible rfl); (try simp only [Act.put, sI, sZ, sS])
        refine wpAnyH_ready (rs := [1, 8]) (by kernel_rfl) (by simp) ?_
        refine AllReadyH.cons (o := ⟨some 32, _, _, _, _, _⟩) rfl (fun K hK => ?_) (AllReadyH.cons (o := ⟨some 39, _, _, _, _, _⟩) rfl (fun K hK => ?_) AllReadyH.nil)
        · rw [if_pos (by rfl)]
          have z4 : D.cell? ⟨b6, 4, none⟩ = some (.slice A2 j cap2) := cell_of_row ht.tbox rfl
          go_simp
          refine hK.out _ _ hS0 (fun _ => ?_)
          clear hK K z4; (try simp only [Act.put, sI, sZ, sS])
          refine wpAnyH_ready (rs := [8]) (by kernel_rfl) (by simp) ?_
          refine AllReadyH.cons (o := ⟨some 39, _, _, _, _, _⟩) rfl (fun K hK => ?_) AllReadyH.nil
          rw [if_pos (by rfl)]
          go_simp
          refine (HIH.out y (List.mem_of_getElem? HY.out) D _ (HE.out.under (HB1.out.trans (hb1.mono HB1.out.size))) HAW.out).mono ?_
          rintro e X8 ⟨tv, rfl, hTm, b8⟩
          obtain ⟨k', n', s', t', L', A', cap', hy', rfl⟩ : ∃ k' n' s' t' L' A' cap', wt cs f y = Tm.mk k' n' s' t' L' ∧ tv = .agg #[.int .i8 k', .int .i64 n', .string s', .string t', .slice A' L'.length cap'] := by
            generalize wt cs f y = q at hTm
            cases hTm; exact ⟨_, _, _, _, _, _, _, rfl, rfl⟩
          clear hy'
          have ht8 := ht.under b8
          have hb8 := hb1.trans (b8.mono hb1.size)
          have hel8 := hel.keep (b8.block _ (by have := hb1.size; have := HAD.out; omega))
          have hS8 : (fun V : World => V.heap[b5]? = some (.cells #[.int .i8 c.k, .int .i64 c.size, .slice (some ad) c.L.length cp] 62 (0, 0)) ∧ ElemW V ad j (.agg #[c0, c1, c2, c3, c4, c5, c6])) X8 := ⟨ht8.cell, hel8⟩
          refine hK.out _ _ hS8 (fun _ => ?_)
          clear hK K; (try simp only [Act.put, sI, sZ, sS])
          refine wpAnyH_ready (rs := [9]) (by kernel_rfl) (by simp) ?_
          refine AllReadyH.cons (o := ⟨some 40, _, _, _, _, _⟩) rfl (fun K hK => ?_) AllReadyH.nil
          rw [if_pos (by rfl)]
          go_simp
          have b9 : Below X8.heap.size X8 (X8.alloc (.cells #[.int .i8 k', .int .i64 n', .string s', .string t', .slice A' L'.length cap'] 27)) := (Below.refl _ _).alloc (Nat.le_refl _) _
          have h9 := block_alloc X8 (.cells #[.int .i8 k', .int .i64 n', .string s', .string t', .slice A' L'.length cap'] 27)
          have z9 : (X8.alloc (.cells #[.int .i8 k', .int .i64 n', .string s', .string t', .slice A' L'.length cap'] 27)).heap.size = X8.heap.size + 1 := World.size_alloc _ _
          generalize X8.alloc (.cells #[.int .i8 k', .int .i64 n', .string s', .string t', .slice A' L'.length cap'] 27) = X9 at b9 h9 z9 ⊢
          have ht9 := ht8.under b9
          have hb9 := hb8.trans (b9.mono hb8.size)
          have hel9 := hel8.keep (b9.block _ (by have := hb8.size; have := HAD.out; omega))
          have hS9 : (fun V : World => V.heap[b5]? = some (.cells #[.int .i8 c.k, .int .i64 c.size, .slice (some ad) c.L.length cp] 62 (0, 0)) ∧ ElemW V ad j (.agg #[c0, c1, c2, c3, c4, c5, c6])) X9 := ⟨ht9.cell, hel9⟩
          refine hK.out _ _ hS9 (fun _ => ?_)
          clear hK K; (try simp only [Act.put, sI, sZ, sS])
          refine wpAnyH_ready (rs := [10]) (by kernel_rfl) (by simp) ?_
          refine AllReadyH.cons (o := ⟨some 41, _, _, _, _, _⟩) rfl (fun K hK => ?_) AllReadyH.nil
          rw [if_pos (by rfl)]
          have hdb := heap_lt ht.tbox
          have hbs8 := b8.size
          have how := ht.own.own
          refine wp_own_term (.tmp 32) (.tmp 40) rfl ht9.own (by have := b9.size; omega) (fun b hb => ⟨hb.2.1, hb.2.2⟩) rfl X8.heap.size rfl h9 (y := wt cs f y) (hTm.keep (fun b hb => b9.block b hb.2) (fun b hb => ⟨by have := hb.1; omega, by have := hb.2; omega, fun e => by have := (how b e).2; have := hb.1; omega⟩)) (by rw [List.length_map, List.length_take]; omega) ?_
          intro v' w' O' hgr hwh
          have hlm : (c.L.take j).map (wt cs f) ++ [wt cs f y] = (c.L.take (j + 1)).map (wt cs f) := by rw [List.take_add_one, HY.out]; simp
          rw [hlm] at O'
          obtain ⟨A5, cap5, rfl⟩ := O'.shape
          have hl1 : ((c.L.take (j + 1)).map (wt cs f)).length = j + 1 := by simp; omega
          rw [hl1] at O' hwh ⊢
          have m10 : Mod (fun k => b6 + 1 ≤ k) X9 w' := Mod.grown hgr (fun k _ e => (ht9.own.own k e).1)
          have htb := (m10.block _ (heap_lt ht9.tbox) (by omega)).trans ht9.tbox
          have hcb := (m10.block _ (heap_lt ht9.cell) (by have := ht9.ord; omega)).trans ht9.cell
          have hw16 : w1.heap.size ≤ b6 := by
            have h1 := ht9.ord; have h2 := HZ1.out; omega
          have hel10 := hel9.keep (m10.block _ (by have := hb9.size; have := HAD.out; omega) (by have := HAD.out; omega))
          have hb10 := hb9.trans (m10.below hb9.size (fun k e => by omega))
          have hS10 : (fun V : World => V.heap[b5]? = some (.cells #[.int .i8 c.k, .int .i64 c.size, .slice (some ad) c.L.length cp] 62 (0, 0)) ∧ ElemW V ad j (.agg #[c0, c1, c2, c3, c4, c5, c6])) w' := ⟨hcb, hel10⟩
          refine hK.out _ _ hS10 (fun _ => ?_)
          clear hK K; (try simp only [Act.put, sI, sZ, sS])
          refine wpAnyH_take (i := 11) (oi := ⟨some 42, _, _, _, _, _⟩) (v := ?_) rfl (by kernel_rfl) (by kernel_rfl) (by kernel_rfl) (fun _ _ _ h => h) (Or.inl ⟨by kernel_rfl, ?_⟩) (by assumption) ?_; rotate_left; (intro w hSw; (try dsimp only at hSw); obtain ⟨s5, sE⟩ := hSw; have q5 := cell_of_row (i := 2) s5 rfl; obtain ⟨d0, d1, d2, d3, d4, d5, d6, hd, e0, e1, e2, e3, e4, e5, e6⟩ := sE; simp only [Value.agg.injEq, Array.mk.injEq, List.cons.injEq, and_true] at hd; obtain ⟨rfl, rfl, rfl, rfl, rfl, rfl, rfl⟩ := hd; go_simp; first | done | with_reducible rfl); (try simp only [Act.put, sI, sZ, sS])
          have y4 : w'.cell? ⟨b6, 4, none⟩ = some (.slice A2 j cap2) := cell_of_row htb rfl
          have yf4 : w'.frozen? ⟨b6, 4, none⟩ = false := free_of_row htb
          refine wpAnyH_ready (rs := [12]) (by kernel_rfl) (by simp) ?_
          refine AllReadyH.cons (o := ⟨none, _, _, _, _, _⟩) rfl (fun K hK => ?_) AllReadyH.nil
          rw [if_pos (by rfl)]
          go_simp
          have hst := ht9.step O' hgr hwh
          have m11 : Mod (fun k => k = b6) w' (w'.setCell ⟨b6, 4, none⟩ (.slice A5 (j + 1) cap5)) := Mod.setCell _ _ _ (.inl rfl)
          have hb11 := hb10.trans (m11.below hb10.size (fun k e => by omega))
          have HST : Hid (TkR w b5 b6 c (some ad) cp ((c.L.take (j + 1)).map (wt cs f)) (.slice A5 (j + 1) cap5) (w'.setCell ⟨b6, 4, none⟩ (.slice A5 (j + 1) cap5)) ∧ Below w1.heap.size w1 (w'.setCell ⟨b6, 4, none⟩ (.slice A5 (j + 1) cap5))) := ⟨hst, hb11⟩
          refine hK.out _ _ ⟨hst.cell, hel10.keep (m11.block _ (by have := hb10.size; have := HAD.out; omega) (by have := HAD.out; omega))⟩ (fun _ => ?_)
          clear hK K; (try simp only [Act.put, sI, sZ, sS])
          refine wpAnyH_done (by kernel_rfl) ?_ _
          clear hst hb11 y4 yf4 O' hgr hwh m10 m11 htb hcb hel10 hb10 ht ht8 ht9 hb1 hb8 hb9 hel hel8 hel9 hS0 hS8 hS9 hS10 hTm b8 b9 h9 how
          go_wp2_with fail
          go_roundw
          case rel => exact ⟨j + 1, A5, cap5, by omega, by go_num, HST.out⟩
          case measure => simp [intOf] <;> omega
        · rw [if_pos (by rfl)]
          go_simp
          refine (HIH.out y (List.mem_of_getElem? HY.out) D _ (HE.out.under (HB1.out.trans (hb1.mono HB1.out.size))) HAW.out).mono ?_
          rintro e X8 ⟨tv, rfl, hTm, b8⟩
          obtain ⟨k', n', s', t', L', A', cap', hy', rfl⟩ : ∃ k' n' s' t' L' A' cap', wt cs f y = Tm.mk k' n' s' t' L' ∧ tv = .agg #[.int .i8 k', .int .i64 n', .string s', .string t', .slice A' L'.length cap'] := by
            generalize wt cs f y = q at hTm
            cases hTm; exact ⟨_, _, _, _, _, _, _, rfl, rfl⟩
          clear hy'
          have ht8 := ht.under b8
          have hb8 := hb1.trans (b8.mono hb1.size)
          have hel8 := hel.keep (b8.block _ (by have := hb1.size; have := HAD.out; omega))
          have hS8 : (fun V : World => V.heap[b5]? = some (.cells #[.int .i8 c.k, .int .i64 c.size, .slice (some ad) c.L.length cp] 62 (0, 0)) ∧ ElemW V ad j (.agg #[c0, c1, c2, c3, c4, c5, c6])) X8 := ⟨ht8.cell, hel8⟩
          refine hK.out _ _ hS8 (fun _ => ?_)
          clear hK K; (try simp only [Act.put, sI, sZ, sS])
          refine wpAnyH_ready (rs := [1, 9]) (by kernel_rfl) (by simp) ?_
          refine AllReadyH.cons (o := ⟨some 32, _, _, _, _, _⟩) rfl (fun K hK => ?_) (AllReadyH.cons (o := ⟨some 40, _, _, _, _, _⟩) rfl (fun K hK => ?_) AllReadyH.nil)
          · rw [if_pos (by rfl)]
            have z4 : X8.cell? ⟨b6, 4, none⟩ = some (.slice A2 j cap2) := cell_of_row ht8.tbox rfl
            go_simp
            refine hK.out _ _ hS8 (fun _ => ?_)
            clear hK K z4; (try simp only [Act.put, sI, sZ, sS])
            refine wpAnyH_ready (rs := [9]) (by kernel_rfl) (by simp) ?_
            refine AllReadyH.cons (o := ⟨some 40, _, _, _, _, _⟩) rfl (fun K hK => ?_) AllReadyH.nil
            rw [if_pos (by rfl)]
            go_simp
            have b9 : Below X8.heap.size X8 (X8.alloc (.cells #[.int .i8 k', .int .i64 n', .string s', .string t', .slice A' L'.length cap'] 27)) := (Below.refl _ _).alloc (Nat.le_refl _) _
            have h9 := block_alloc X8 (.cells #[.int .i8 k', .int .i64 n', .string s', .string t', .slice A' L'.length cap'] 27)
            have z9 : (X8.alloc (.cells #[.int .i8 k', .int .i64 n', .string s', .string t', .slice A' L'.length cap'] 27)).heap.size = X8.heap.size + 1 := World.size_alloc _ _
            generalize X8.alloc (.cells #[.int .i8 k', .int .i64 n', .string s', .string t', .slice A' L'.length cap'] 27) = X9 at b9 h9 z9 ⊢
            have ht9 := ht8.under b9
            have hb9 := hb8.trans (b9.mono hb8.size)
            have hel9 := hel8.keep (b9.block _ (by have := hb8.size; have := HAD.out; omega))
            have hS9 : (fun V : World => V.heap[b5]? = some (.cells #[.int .i8 c.k, .int .i64 c.size, .slice (some ad) c.L.length cp] 62 (0, 0)) ∧ ElemW V ad j (.agg #[c0, c1, c2, c3, c4, c5, c6])) X9 := ⟨ht9.cell, hel9⟩
            refine hK.out _ _ hS9 (fun _ => ?_)
            clear hK K; (try simp only [Act.put, sI, sZ, sS])
            refine wpAnyH_ready (rs := [10]) (by kernel_rfl) (by simp) ?_
            refine AllReadyH.cons (o := ⟨some 41, _, _, _, _, _⟩) rfl (fun K hK => ?_) AllReadyH.nil
            rw [if_pos (by rfl)]
            have hdb := heap_lt ht.tbox
            have hbs8 := b8.size
            have how := ht.own.own
            refine wp_own_term (.tmp 32) (.tmp 40) rfl ht9.own (by have := b9.size; omega) (fun b hb => ⟨hb.2.1, hb.2.2⟩) rfl X8.heap.size rfl h9 (y := wt cs f y) (hTm.keep (fun b hb => b9.block b hb.2) (fun b hb => ⟨by have := hb.1; omega, by have := hb.2; omega, fun e => by have := (how b e).2; have := hb.1; omega⟩)) (by rw [List.length_map, List.length_take]; omega) ?_
            intro v' w' O' hgr hwh
            have hlm : (c.L.take j).map (wt cs f) ++ [wt cs f y] = (c.L.take (j + 1)).map (wt cs f) := by rw [List.take_add_one, HY.out]; simp
            rw [hlm] at O'
            obtain ⟨A5, cap5, rfl⟩ := O'.shape
            have hl1 : ((c.L.take (j + 1)).map (wt cs f)).length = j + 1 := by simp; omega
            rw [hl1] at O' hwh ⊢
            have m10 : Mod (fun k => b6 + 1 ≤ k) X9 w' := Mod.grown hgr (fun k _ e => (ht9.own.own k e).1)
            have htb := (m10.block _ (heap_lt ht9.tbox) (by omega)).trans ht9.tbox
            have hcb := (m10.block _ (heap_lt ht9.cell) (by have := ht9.ord; omega)).trans ht9.cell
            have hw16 : w1.heap.size ≤ b6 := by
              have h1 := ht9.ord; have h2 := HZ1.out; omega
            have hel10 := hel9.keep (m10.block _ (by have := hb9.size; have := HAD.out; omega) (by have := HAD.out; omega))
            have hb10 := hb9.trans (m10.below hb9.size (fun k e => by omega))
            have hS10 : (fun V : World => V.heap[b5]? = some (.cells #[.int .i8 c.k, .int .i64 c.size, .slice (some ad) c.L.length cp] 62 (0, 0)) ∧ ElemW V ad j (.agg #[c0, c1, c2, c3, c4, c5, c6])) w' := ⟨hcb, hel10⟩
            refine hK.out _ _ hS10 (fun _ => ?_)
            clear hK K; (try simp only [Act.put, sI, sZ, sS])
            refine wpAnyH_take (i := 11) (oi := ⟨some 42, _, _, _, _, _⟩) (v := ?_) rfl (by kernel_rfl) (by kernel_rfl) (by kernel_rfl) (fun _ _ _ h => h) (Or.inl ⟨by kernel_rfl, ?_⟩) (by assumption) ?_; rotate_left; (intro w hSw; (try dsimp only at hSw); obtain ⟨s5, sE⟩ := hSw; have q5 := cell_of_row (i := 2) s5 rfl; obtain ⟨d0, d1, d2, d3, d4, d5, d6, hd, e0, e1, e2, e3, e4, e5, e6⟩ := sE; simp only [Value.agg.injEq, Array.mk.injEq, List.cons.injEq, and_true] at hd; obtain ⟨rfl, rfl, rfl, rfl, rfl, rfl, rfl⟩ := hd; go_simp; first | done | with_reducible rfl); (try simp only [Act.put, sI, sZ, sS])
            have y4 : w'.cell? ⟨b6, 4, none⟩ = some (.slice A2 j cap2) := cell_of_row htb rfl
            have yf4 : w'.frozen? ⟨b6, 4, none⟩ = false := free_of_row htb
            refine wpAnyH_ready (rs := [12]) (by kernel_rfl) (by simp) ?_
            refine AllReadyH.cons (o := ⟨none, _, _, _, _, _⟩) rfl (fun K hK => ?_) AllReadyH.nil
            rw [if_pos (by rfl)]
            go_simp
            have hst := ht9.step O' hgr hwh
            have m11 : Mod (fun k => k = b6) w' (w'.setCell ⟨b6, 4, none⟩ (.slice A5 (j + 1) cap5)) := Mod.setCell _ _ _ (.inl rfl)
            have hb11 := hb10.trans (m11.below hb10.size (fun k e => by omega))
            have HST : Hid (TkR w b5 b6 c (some ad) cp ((c.L.take (j + 1)).map (wt cs f)) (.slice A5 (j + 1) cap5) (w'.setCell ⟨b6, 4, none⟩ (.slice A5 (j + 1) cap5)) ∧ Below w1.heap.size w1 (w'.setCell ⟨b6, 4, none⟩ (.slice A5 (j + 1) cap5))) := ⟨hst, hb11⟩
            refine hK.out _ _ ⟨hst.cell, hel10.keep (m11.block _ (by have := hb10.size; have := HAD.out; omega) (by have := HAD.out; omega))⟩ (fun _ => ?_)
            clear hK K; (try simp only [Act.put, sI, sZ, sS])
            refine wpAnyH_done (by kernel_rfl) ?_ _
            clear hst hb11 y4 yf4 O' hgr hwh m10 m11 htb hcb hel10 hb10 ht ht8 ht9 hb1 hb8 hb9 hel hel8 hel9 hS0 hS8 hS9 hS10 hTm b8 b9 h9 how
            go_wp2_with fail
            go_roundw
            case rel => exact ⟨j + 1, A5, cap5, by omega, by go_num, HST.out⟩
            case measure => simp [intOf] <;> omega
          · rw [if_pos (by rfl)]
            go_simp
            have b9 : Below X8.heap.size X8 (X8.alloc (.cells #[.int .i8 k', .int .i64 n', .string s', .string t', .slice A' L'.length cap'] 27)) := (Below.refl _ _).alloc (Nat.le_refl _) _
            have h9 := block_alloc X8 (.cells #[.int .i8 k', .int .i64 n', .string s', .string t', .slice A' L'.length cap'] 27)
            have z9 : (X8.alloc (.cells #[.int .i8 k', .int .i64 n', .string s', .string t', .slice A' L'.length cap'] 27)).heap.size = X8.heap.size + 1 := World.size_alloc _ _
            generalize X8.alloc (.cells #[.int .i8 k', .int .i64 n', .string s', .string t', .slice A' L'.length cap'] 27) = X9 at b9 h9 z9 ⊢
            have ht9 := ht8.under b9
            have hb9 := hb8.trans (b9.mono hb8.size)
            have hel9 := hel8.keep (b9.block _ (by have := hb8.size; have := HAD.out; omega))
            have hS9 : (fun V : World => V.heap[b5]? = some (.cells #[.int .i8 c.k, .int .i64 c.size, .slice (some ad) c.L.length cp] 62 (0, 0)) ∧ ElemW V ad j (.agg #[c0, c1, c2, c3, c4, c5, c6])) X9 := ⟨ht9.cell, hel9⟩
            refine hK.out _ _ hS9 (fun _ => ?_)
            clear hK K; (try simp only [Act.put, sI, sZ, sS])
            refine wpAnyH_ready (rs := [1]) (by kernel_rfl) (by simp) ?_
            refine AllReadyH.cons (o := ⟨some 32, _, _, _, _, _⟩) rfl (fun K hK => ?_) AllReadyH.nil
            rw [if_pos (by rfl)]
            have z4 : X9.cell? ⟨b6, 4, none⟩ = some (.slice A2 j cap2) := cell_of_row ht9.tbox rfl
            go_simp
            refine hK.out _ _ hS9 (fun _ => ?_)
            clear hK K z4; (try simp only [Act.put, sI, sZ, sS])
            refine wpAnyH_ready (rs := [10]) (by kernel_rfl) (by simp) ?_
            refine AllReadyH.cons (o := ⟨some 41, _, _, _, _, _⟩) rfl (fun K hK => ?_) AllReadyH.nil
            rw [if_pos (by rfl)]
            have hdb := heap_lt ht.tbox
            have hbs8 := b8.size
            have how := ht.own.own
            refine wp_own_term (.tmp 32) (.tmp 40) rfl ht9.own (by have := b9.size; omega) (fun b hb => ⟨hb.2.1, hb.2.2⟩) rfl X8.heap.size rfl h9 (y := wt cs f y) (hTm.keep (fun b hb => b9.block b hb.2) (fun b hb => ⟨by have := hb.1; omega, by have := hb.2; omega, fun e => by have := (how b e).2; have := hb.1; omega⟩)) (by rw [List.length_map, List.length_take]; omega) ?_
            intro v' w' O' hgr hwh
            have hlm : (c.L.take j).map (wt cs f) ++ [wt cs f y] = (c.L.take (j + 1)).map (wt cs f) := by rw [List.take_add_one, HY.out]; simp
            rw [hlm] at O'
            obtain ⟨A5, cap5, rfl⟩ := O'.shape
            have hl1 : ((c.L.take (j + 1)).map (wt cs f)).length = j + 1 := by simp; omega
            rw [hl1] at O' hwh ⊢
            have m10 : Mod (fun k => b6 + 1 ≤ k) X9 w' := Mod.grown hgr (fun k _ e => (ht9.own.own k e).1)
            have htb := (m10.block _ (heap_lt ht9.tbox) (by omega)).trans ht9.tbox
            have hcb := (m10.block _ (heap_lt ht9.cell) (by have := ht9.ord; omega)).trans ht9.cell
            have hw16 : w1.heap.size ≤ b6 := by
              have h1 := ht9.ord; have h2 := HZ1.out; omega
            have hel10 := hel9.keep (m10.block _ (by have := hb9.size; have := HAD.out; omega) (by have := HAD.out; omega))
            have hb10 := hb9.trans (m10.below hb9.size (fun k e => by omega))
            have hS10 : (fun V : World => V.heap[b5]? = some (.cells #[.int .i8 c.k, .int .i64 c.size, .slice (some ad) c.L.length cp] 62 (0, 0)) ∧ ElemW V ad j (.agg #[c0, c1, c2, c3, c4, c5, c6])) w' := ⟨hcb, hel10⟩
            refine hK.out _ _ hS10 (fun _ => ?_)
            clear hK K; (try simp only [Act.put, sI, sZ, sS])
            refine wpAnyH_take (i := 11) (oi := ⟨some 42, _, _, _, _, _⟩) (v := ?_) rfl (by kernel_rfl) (by kernel_rfl) (by kernel_rfl) (fun _ _ _ h => h) (Or.inl ⟨by kernel_rfl, ?_⟩) (by assumption) ?_; rotate_left; (intro w hSw; (try dsimp only at hSw); obtain ⟨s5, sE⟩ := hSw; have q5 := cell_of_row (i := 2) s5 rfl; obtain ⟨d0, d1, d2, d3, d4, d5, d6, hd, e0, e1, e2, e3, e4, e5, e6⟩ := sE; simp only [Value.agg.injEq, Array.mk.injEq, List.cons.injEq, and_true] at hd; obtain ⟨rfl, rfl, rfl, rfl, rfl, rfl, rfl⟩ := hd; go_simp; first | done | with_reducible rfl); (try simp only [Act.put, sI, sZ, sS])
            have y4 : w'.cell? ⟨b6, 4, none⟩ = some (.slice A2 j cap2) := cell_of_row htb rfl
            have yf4 : w'.frozen? ⟨b6, 4, none⟩ = false := free_of_row htb
            refine wpAnyH_ready (rs := [12]) (by kernel_rfl) (by simp) ?_
            refine AllReadyH.cons (o := ⟨none, _, _, _, _, _⟩) rfl (fun K hK => ?_) AllReadyH.nil
            rw [if_pos (by rfl)]
            go_simp
            have hst := ht9.step O' hgr hwh
            have m11 : Mod (fun k => k = b6) w' (w'.setCell ⟨b6, 4, none⟩ (.slice A5 (j + 1) cap5)) := Mod.setCell _ _ _ (.inl rfl)
            have hb11 := hb10.trans (m11.below hb10.size (fun k e => by omega))
            have HST : Hid (TkR w b5 b6 c (some ad) cp ((c.L.take (j + 1)).map (wt cs f)) (.slice A5 (j + 1) cap5) (w'.setCell ⟨b6, 4, none⟩ (.slice A5 (j + 1) cap5)) ∧ Below w1.heap.size w1 (w'.setCell ⟨b6, 4, none⟩ (.slice A5 (j + 1) cap5))) := ⟨hst, hb11⟩
            refine hK.out _ _ ⟨hst.cell, hel10.keep (m11.block _ (by have := hb10.size; have := HAD.out; omega) (by have := HAD.out; omega))⟩ (fun _ => ?_)
            clear hK K; (try simp only [Act.put, sI, sZ, sS])
            refine wpAnyH_done (by kernel_rfl) ?_ _
            clear hst hb11 y4 yf4 O' hgr hwh m10 m11 htb hcb hel10 hb10 ht ht8 ht9 hb1 hb8 hb9 hel hel8 hel9 hS0 hS8 hS9 hS10 hTm b8 b9 h9 how
            go_wp2_with fail
            go_roundw
            case rel => exact ⟨j + 1, A5, cap5, by omega, by go_num, HST.out⟩
            case measure => simp [intOf] <;> omega
      · obtain rfl : j = c.L.length := by omega
        have x0 : wr.cell? ⟨b6, 0, none⟩ = some (.int .i8 c.k) := cell_of_row HT.out.1.tbox rfl
        have x1 : wr.cell? ⟨b6, 1, none⟩ = some (.int .i64 0) := cell_of_row HT.out.1.tbox rfl
        have x2' : wr.cell? ⟨b6, 2, none⟩ = some (.string ⟨#[]⟩) := cell_of_row HT.out.1.tbox rfl
        have x3 : wr.cell? ⟨b6, 3, none⟩ = some (.string ⟨#[]⟩) := cell_of_row HT.out.1.tbox rfl
        have x4 : wr.cell? ⟨b6, 4, none⟩ = some (.slice A2 c.L.length cap2) := cell_of_row HT.out.1.tbox rfl
        have gB := HT.out.1.res
        have SV := Lib.hid (set_five (.int .i8 c.k) (.int .i64 0) (.string ⟨#[]⟩) (.string ⟨#[]⟩) (.slice A2 c.L.length cap2) gB)
        have y0 : wr.cell? ⟨(w.heap.size + 1), 0, none⟩ = some (.int .i8 0) := cell_of_row gB rfl
        have fz0 : wr.frozen? ⟨(w.heap.size + 1), 0, none⟩ = false := free_of_row gB
        have y1 : wr.cell? ⟨(w.heap.size + 1), 1, none⟩ = some (.int .i64 0) := cell_of_row gB rfl
        have fz1 : wr.frozen? ⟨(w.heap.size + 1), 1, none⟩ = false := free_of_row gB
        have y2 : wr.cell? ⟨(w.heap.size + 1), 2, none⟩ = some (.string ⟨#[]⟩) := cell_of_row gB rfl
        have fz2 : wr.frozen? ⟨(w.heap.size + 1), 2, none⟩ = false := free_of_row gB
        have y3 : wr.cell? ⟨(w.heap.size + 1), 3, none⟩ = some (.string ⟨#[]⟩) := cell_of_row gB rfl
        have fz3 : wr.frozen? ⟨(w.heap.size + 1), 3, none⟩ = false := free_of_row gB
        have y4 : wr.cell? ⟨(w.heap.size + 1), 4, none⟩ = some (.slice none 0 0) := cell_of_row gB rfl
        have fz4 : wr.frozen? ⟨(w.heap.size + 1), 4, none⟩ = false := free_of_row gB
        clear gB
        go_wp2_with fail
        obtain ⟨s5, m5⟩ := SV.out
        generalize ((((wr.setCell ⟨w.heap.size + 1, 0, none⟩ (.int .i8 c.k)).setCell ⟨w.heap.size + 1, 1, none⟩ (.int .i64 0)).setCell ⟨w.heap.size + 1, 2, none⟩ (.string ⟨#[]⟩)).setCell ⟨w.heap.size + 1, 3, none⟩ (.string ⟨#[]⟩)).setCell ⟨w.heap.size + 1, 4, none⟩ (.slice A2 c.L.length cap2) = VX at s5 m5 ⊢
        have v0 := cell_of_row (i := 0) s5 rfl
        have v1 := cell_of_row (i := 1) s5 rfl
        have v2 := cell_of_row (i := 2) s5 rfl
        have v3 := cell_of_row (i := 3) s5 rfl
        have v4 := cell_of_row (i := 4) s5 rfl
        refine bodyPost_ret (v := .agg #[(.int .i8 c.k), (.int .i64 0), (.string ⟨#[]⟩), (.string ⟨#[]⟩), (.slice A2 c.L.length cap2)]) (by simp [results, Tryz.f65, go_sem, v0, v1, v2, v3, v4]) rfl ?_
        have hord := HT.out.1.ord
        have hO := HT.out.1.own.keep (Q := fun b => b6 < b ∧ b < VX.heap.size) m5 (fun g hg (e : g = w.heap.size + 1) => by have := (HT.out.1.own.own g hg).1; omega) (fun b hb => ⟨hb.2.1, fun (e : b = w.heap.size + 1) => by have := hb.1; omega⟩) (fun b hb => ⟨hb.1, by have := hb.2.1; have := m5.size; omega⟩)
        rw [List.take_of_length_le (Nat.le_refl _)] at hO
        have hRr := (hO.trow (Q := fun b => w.heap.size ≤ b ∧ b < VX.heap.size) (fun b hb => ⟨by have := hb.1; omega, hb.2⟩) (fun b h1 h2 _ => ⟨by omega, h2⟩)).2
        have hlen : c.L.length = (c.L.map (wt cs f)).length := by simp
        refine ⟨_, rfl, ?_, HT.out.1.mod.trans (m5.below HT.out.1.mod.size (fun k (e : k = w.heap.size + 1) => by omega))⟩
        rw [HWT.out, hlen]
        rw [hlen] at hRr
        exact TmAt.of_row hRr (by rcases HKK.out with h | ⟨h, _⟩ <;> rw [h] <;> decide) (by decide) (by show 0 ≤ maxLen; omega) (by show 0 ≤ maxLen; omega)

end Go.Proofs.YtaemfjmmklpjeaaGreatDoor
set_option linter.unusedVariables false
namespace Go.Proofs.YtaemfjmmklpjeaaGreatDoor
open Go.RowKit

def TakeA (m : Bool) (X : Tm) (w : World) (e : Ending) (w' : World) : Prop :=
  ∃ k n s t l A cap E, e = .returned (.tuple #[.agg #[.int .i8 k, .int .i64 n, .string s, .string t, .slice A l.length cap], .int .i64 E]) ∧ E = (if m = true then (0 : Int) else 2) ∧ TmAt (· < w'.heap.size) w' (.mk k n s t l) (.agg #[.int .i8 k, .int .i64 n, .string s, .string t, .slice A l.length cap]) ∧ (m = true → Tm.mk k n s t l = X) ∧ Below w.heap.size w w'
theorem tm_cells {P : Nat → Prop} {w : World} {X : Tm} {v : Value} (h : TmAt P w X v) : ∃ k n s t l A cap, X = .mk k n s t l ∧ v = .agg #[.int .i8 k, .int .i64 n, .string s, .string t, .slice A l.length cap] := by
  cases h; exact ⟨_, _, _, _, _, _, _, rfl, rfl⟩
theorem hTake_ans {base hb : Nat} {s : HSt} (hg : HGood s.cs) (q : AW) (v : Value) (w : World) (h : s.At base w hb) (hv : AWAt (· < w.heap.size) w q v) (hS : Spans w) :
    Calls Tryz.prog 38 #[.pointer (some ⟨hb, 0, none⟩), v] w (TakeA (mayW s.cs.length q.c q.a q.x) (wt s.cs s.cs.length q.hw) w) := by
  obtain ⟨k, n, sx, tx, A, l, cap, hx, rfl, hT⟩ := aw_cells hv
  have hq : q = ⟨q.c, q.a, .mk k n sx tx l⟩ := by rw [← hx]
  refine (Take_any hg q.c q.a k n sx tx l A cap w h hT hS).mono ?_
  rintro e w' (⟨h0, rfl, b⟩ | ⟨h0, u, rfl, hu, b⟩)
  · rw [← hq] at h0
    refine ⟨0, 0, _, _, [], none, 0, 2, rfl, by rw [h0]; rfl, leaf_at _ _ (by decide) (by decide) (by show 0 ≤ maxLen; omega) (by show 0 ≤ maxLen; omega), (fun h => by rw [h0] at h; cases h), b⟩
  · rw [← hq] at h0 hu
    obtain ⟨k', n', s', t', l', A', cap', hX, rfl⟩ := tm_cells hu
    refine ⟨k', n', s', t', l', A', cap', 0, rfl, by rw [h0]; rfl, ?_, (fun _ => hX.symm), b⟩
    rw [← hX]
    exact hu.keep (fun _ _ => rfl) (fun b hb => hb.2)

set_option maxHeartbeats 4000000 in
set_option maxRecDepth 100000 in
theorem rTake_ans {base rb : Nat} {cs : List HC} {CS : Value} {G : Nat → Prop} (hg : HGood cs) (q : AW) (v : Value) (w : World) (h : RAt base w rb cs CS G) (hv : AWAt (· < w.heap.size) w q v) :
    Calls Tryz.prog 40 #[.pointer (some ⟨rb, 0, none⟩), v] w (TakeA (mayW cs.length q.c q.a q.x) (wt cs cs.length q.hw) w) := by
  have hq := hv
  obtain ⟨k, n, s, t, A, l, cap, hx, rfl, hT⟩ := aw_cells hv
  obtain ⟨cc, hcc⟩ : ∃ b, b = q.c := ⟨_, rfl⟩
  obtain ⟨aa, haa⟩ : ∃ b, b = q.a := ⟨_, rfl⟩
  obtain ⟨w1, hw1⟩ : ∃ w1, w1 = (w.alloc (.cells #[.bool cc, .int .i64 aa, .int .i8 k, .int .i64 n, .string s, .string t, .slice A l.length cap] 51)).alloc (.cells #[.int .i8 0, .int .i64 0, .string ⟨#[]⟩, .string ⟨#[]⟩, .slice none 0 0] 27) := ⟨_, rfl⟩
  have B1 : Below w.heap.size w w1 := by rw [hw1]; exact ((Below.refl _ w).alloc (Nat.le_refl _) _).alloc (by simp) _
  have g0 : w1.heap[w.heap.size]? = some (.cells #[.bool cc, .int .i64 aa, .int .i8 k, .int .i64 n, .string s, .string t, .slice A l.length cap] 51 (0, 0)) := by rw [hw1, Below.heap_alloc _ _ _ (by simp)]; exact block_alloc _ _
  have g1 : w1.heap[w.heap.size + 1]? = some (.cells #[.int .i8 0, .int .i64 0, .string ⟨#[]⟩, .string ⟨#[]⟩, .slice none 0 0] 27 (0, 0)) := by
    have h := block_alloc (w.alloc (.cells #[.bool cc, .int .i64 aa, .int .i8 k, .int .i64 n, .string s, .string t, .slice A l.length cap] 51)) (.cells #[.int .i8 0, .int .i64 0, .string ⟨#[]⟩, .string ⟨#[]⟩, .slice none 0 0] 27)
    rw [World.size_alloc] at h
    rw [hw1]; exact h
  have h1 := h.under B1
  obtain ⟨RA, rcap, hCS⟩ := h1.shape
  have hbx := cell_of_row (i := 0) h1.box rfl
  rw [hCS] at hbx
  have hq1 := hq.keep (Q := (· < w1.heap.size)) (fun b hb => B1.block b hb) (fun b hb => Nat.lt_of_lt_of_le hb B1.size)
  have HM := Lib.hid (r4May_any q _ w1 hbx hq1)
  have HQ := Lib.hid hq1
  have HH := Lib.hid h1
  have HG := Lib.hid hg
  have HB1 := Lib.hid B1
  have HGG := Lib.hid (And.intro g0 g1)
  have HCA := Lib.hid (And.intro hcc haa)
  rw [← hcc, ← haa] at HM HQ ⊢
  have x0 : w1.cell? ⟨w.heap.size, 0, none⟩ = some (.bool cc) := cell_of_row g0 rfl
  have x1 : w1.cell? ⟨w.heap.size, 1, none⟩ = some (.int .i64 aa) := cell_of_row g0 rfl
  have x2 : w1.cell? ⟨w.heap.size, 2, none⟩ = some (.int .i8 k) := cell_of_row g0 rfl
  have x3 : w1.cell? ⟨w.heap.size, 3, none⟩ = some (.int .i64 n) := cell_of_row g0 rfl
  have x4 : w1.cell? ⟨w.heap.size, 4, none⟩ = some (.string s) := cell_of_row g0 rfl
  have x5 : w1.cell? ⟨w.heap.size, 5, none⟩ = some (.string t) := cell_of_row g0 rfl
  have x6 : w1.cell? ⟨w.heap.size, 6, none⟩ = some (.slice A l.length cap) := cell_of_row g0 rfl
  clear hq hx hT hcc haa B1 g0 g1 h1 hCS hbx hq1 h hg hv
  go_enter Tryz.func40, Tryz.ntmps40
  go_upto_region 1 with fail
  rw [← hw1]
  clear hw1
  go_wp2_with fail
  refine HM.out.mono ?_
  rintro e w2 ⟨rfl, b2⟩
  have HB2 := Lib.hid b2
  have g0 := (b2.block _ (heap_lt HGG.out.1)).trans HGG.out.1
  have g1 := (b2.block _ (heap_lt HGG.out.2)).trans HGG.out.2
  have G2 := Lib.hid (And.intro g0 g1)
  clear x0 x1 x2 x3 x4 x5 x6 b2 HM
  have x0 : w2.cell? ⟨w.heap.size, 0, none⟩ = some (.bool cc) := cell_of_row g0 rfl
  have x1 : w2.cell? ⟨w.heap.size, 1, none⟩ = some (.int .i64 aa) := cell_of_row g0 rfl
  have x2 : w2.cell? ⟨w.heap.size, 2, none⟩ = some (.int .i8 k) := cell_of_row g0 rfl
  have x3 : w2.cell? ⟨w.heap.size, 3, none⟩ = some (.int .i64 n) := cell_of_row g0 rfl
  have x4 : w2.cell? ⟨w.heap.size, 4, none⟩ = some (.string s) := cell_of_row g0 rfl
  have x5 : w2.cell? ⟨w.heap.size, 5, none⟩ = some (.string t) := cell_of_row g0 rfl
  have x6 : w2.cell? ⟨w.heap.size, 6, none⟩ = some (.slice A l.length cap) := cell_of_row g0 rfl
  have y0 : w2.cell? ⟨w.heap.size + 1, 0, none⟩ = some (.int .i8 0) := cell_of_row g1 rfl
  have yf0 : w2.frozen? ⟨w.heap.size + 1, 0, none⟩ = false := free_of_row g1
  have y1 : w2.cell? ⟨w.heap.size + 1, 1, none⟩ = some (.int .i64 0) := cell_of_row g1 rfl
  have yf1 : w2.frozen? ⟨w.heap.size + 1, 1, none⟩ = false := free_of_row g1
  have y2 : w2.cell? ⟨w.heap.size + 1, 2, none⟩ = some (.string ⟨#[]⟩) := cell_of_row g1 rfl
  have yf2 : w2.frozen? ⟨w.heap.size + 1, 2, none⟩ = false := free_of_row g1
  have y3 : w2.cell? ⟨w.heap.size + 1, 3, none⟩ = some (.string ⟨#[]⟩) := cell_of_row g1 rfl
  have yf3 : w2.frozen? ⟨w.heap.size + 1, 3, none⟩ = false := free_of_row g1
  have y4 : w2.cell? ⟨w.heap.size + 1, 4, none⟩ = some (.slice none 0 0) := cell_of_row g1 rfl
  have yf4 : w2.frozen? ⟨w.heap.size + 1, 4, none⟩ = false := free_of_row g1
  clear g0 g1
  obtain ⟨m, hm⟩ : ∃ m, m = mayW cs.length cc aa q.x := ⟨_, rfl⟩
  rw [← hm]
  have HMM := Lib.hid hm
  clear hm
  cases m with
  | false =>
    go_wp2_with fail
    obtain ⟨s5, m5⟩ := set_five (.int .i8 0) (.int .i64 0) (.string ⟨#[]⟩) (.string ⟨#[]⟩) (.slice none 0 0) G2.out.2
    generalize ((((w2.setCell ⟨w.heap.size + 1, 0, none⟩ (.int .i8 0)).setCell ⟨w.heap.size + 1, 1, none⟩ (.int .i64 0)).setCell ⟨w.heap.size + 1, 2, none⟩ (.string ⟨#[]⟩)).setCell ⟨w.heap.size + 1, 3, none⟩ (.string ⟨#[]⟩)).setCell ⟨w.heap.size + 1, 4, none⟩ (.slice none 0 0) = VX at s5 m5 ⊢
    have v0 := cell_of_row (i := 0) s5 rfl
    have v1 := cell_of_row (i := 1) s5 rfl
    have v2 := cell_of_row (i := 2) s5 rfl
    have v3 := cell_of_row (i := 3) s5 rfl
    have v4 := cell_of_row (i := 4) s5 rfl
    refine bodyPost_ret (v := .tuple #[.agg #[.int .i8 0, .int .i64 0, .string ⟨#[]⟩, .string ⟨#[]⟩, .slice none 0 0], .int .i64 2]) (by simp [results, Tryz.f40, go_sem, v0, v1, v2, v3, v4]) rfl ?_
    have hz := heap_lt HGG.out.2
    refine ⟨0, 0, _, _, [], none, 0, 2, rfl, (by rw [← HMM.out]; rfl), leaf_at _ _ (by decide) (by decide) (by show 0 ≤ maxLen; omega) (by show 0 ≤ maxLen; omega), (fun h => by rw [← HMM.out] at h; cases h), (HB1.out.trans (HB2.out.mono HB1.out.size)).trans (m5.below (by have := HB2.out.size; omega) (fun k e => by omega))⟩
  | true =>
    have hmq : mayW cs.length q.c q.a q.x = true := by rw [← HCA.out.1, ← HCA.out.2, ← HMM.out]
    have hall : ∀ (P : Nat → Prop) (V : World), AWAt P V (awOf q.hw) (.agg #[.bool cc, .int .i64 aa, .int .i8 k, .int .i64 n, .string s, .string t, .slice A l.length cap]) := fun P V => by
      rw [(may_aw hmq).1]
      rw [HCA.out.1, HCA.out.2] at HQ
      rw [HCA.out.1, HCA.out.2]
      exact aw_any hmq HQ.out
    have HTK := Lib.hid (rtake_any HG.out cs.length q.hw (may_wgood hmq) (Nat.le_refl _) w2 _ (HH.out.under HB2.out) hall)
    clear hmq hall
    go_wp2_with fail
    refine HTK.out.mono ?_
    rintro e w3 ⟨tv, rfl, hTm, b3⟩
    obtain ⟨k', n', s', t', l', A', cap', hX, rfl⟩ := tm_cells hTm
    have HTM := Lib.hid hTm
    have HXX := Lib.hid hX
    have HB3 := Lib.hid b3
    have g1 := (b3.block _ (heap_lt G2.out.2)).trans G2.out.2
    have G3 := Lib.hid g1
    have HL : Hid (w.heap.size + 1 < w2.heap.size) := heap_lt G2.out.2
    clear hTm hX b3 HTK x0 x1 x2 x3 x4 x5 x6 y0 yf0 y1 yf1 y2 yf2 y3 yf3 y4 yf4
    have y0 : w3.cell? ⟨w.heap.size + 1, 0, none⟩ = some (.int .i8 0) := cell_of_row g1 rfl
    have yf0 : w3.frozen? ⟨w.heap.size + 1, 0, none⟩ = false := free_of_row g1
    have y1 : w3.cell? ⟨w.heap.size + 1, 1, none⟩ = some (.int .i64 0) := cell_of_row g1 rfl
    have yf1 : w3.frozen? ⟨w.heap.size + 1, 1, none⟩ = false := free_of_row g1
    have y2 : w3.cell? ⟨w.heap.size + 1, 2, none⟩ = some (.string ⟨#[]⟩) := cell_of_row g1 rfl
    have yf2 : w3.frozen? ⟨w.heap.size + 1, 2, none⟩ = false := free_of_row g1
    have y3 : w3.cell? ⟨w.heap.size + 1, 3, none⟩ = some (.string ⟨#[]⟩) := cell_of_row g1 rfl
    have yf3 : w3.frozen? ⟨w.heap.size + 1, 3, none⟩ = false := free_of_row g1
    have y4 : w3.cell? ⟨w.heap.size + 1, 4, none⟩ = some (.slice none 0 0) := cell_of_row g1 rfl
    have yf4 : w3.frozen? ⟨w.heap.size + 1, 4, none⟩ = false := free_of_row g1
    clear g1
    go_wp2_with fail
    obtain ⟨s5, m5⟩ := set_five (.int .i8 k') (.int .i64 n') (.string s') (.string t') (.slice A' l'.length cap') G3.out
    generalize ((((w3.setCell ⟨w.heap.size + 1, 0, none⟩ (.int .i8 k')).setCell ⟨w.heap.size + 1, 1, none⟩ (.int .i64 n')).setCell ⟨w.heap.size + 1, 2, none⟩ (.string s')).setCell ⟨w.heap.size + 1, 3, none⟩ (.string t')).setCell ⟨w.heap.size + 1, 4, none⟩ (.slice A' l'.length cap') = VX at s5 m5 ⊢
    have v0 := cell_of_row (i := 0) s5 rfl
    have v1 := cell_of_row (i := 1) s5 rfl
    have v2 := cell_of_row (i := 2) s5 rfl
    have v3 := cell_of_row (i := 3) s5 rfl
    have v4 := cell_of_row (i := 4) s5 rfl
    refine bodyPost_ret (v := .tuple #[.agg #[.int .i8 k', .int .i64 n', .string s', .string t', .slice A' l'.length cap'], .int .i64 0]) (by simp [results, Tryz.f40, go_sem, v0, v1, v2, v3, v4]) rfl ?_
    have hl := HL.out
    have hb12 := HB1.out.trans (HB2.out.mono HB1.out.size)
    refine ⟨k', n', s', t', l', A', cap', 0, rfl, (by rw [← HMM.out]; rfl), ?_, (fun _ => HXX.out.symm), (hb12.trans (HB3.out.mono hb12.size)).trans (m5.below (by have := HB3.out.size; omega) (fun k e => by omega))⟩
    have hT := HTM.out
    rw [HXX.out] at hT
    exact hT.keep (fun b hb => m5.block b hb.2 (by have := hb.1; omega)) (fun b hb => Nat.lt_of_lt_of_le hb.2 m5.size)

open Classical in
noncomputable def sameT (cs : List HC) (p q : AW) : Bool := mayW cs.length p.c p.a p.x && mayW cs.length q.c q.a q.x && decide (wt cs cs.length p.hw = wt cs cs.length q.hw)

set_option maxHeartbeats 8000000 in
set_option maxRecDepth 100000 in
theorem hSame_any {base hb : Nat} {s0 : HSt} (hg : HGood s0.cs) (p q : AW) (v u : Value) (w : World) (h : s0.At base w hb) (hp : AWAt (· < w.heap.size) w p v) (hq : AWAt (· < w.heap.size) w q u) (hS : Spans w) :
    Calls Tryz.prog 17 #[.pointer (some ⟨hb, 0, none⟩), v, .pointer (some ⟨hb, 0, none⟩), u] w fun e w' => e = .returned (.bool (sameT s0.cs p q)) ∧ Below w.heap.size w w' := by
  have hp0 := hp
  have hq0 := hq
  obtain ⟨k, n, s, t, A, l, cap, -, rfl, -⟩ := aw_cells hp
  obtain ⟨k', n', s', t', A', l', cap', -, rfl, -⟩ := aw_cells hq
  obtain ⟨m1, hm1⟩ : ∃ m, m = mayW s0.cs.length p.c p.a p.x := ⟨_, rfl⟩
  obtain ⟨m2, hm2⟩ : ∃ m, m = mayW s0.cs.length q.c q.a q.x := ⟨_, rfl⟩
  obtain ⟨T1, hT1⟩ : ∃ T, T = wt s0.cs s0.cs.length p.hw := ⟨_, rfl⟩
  obtain ⟨T2, hT2⟩ : ∃ T, T = wt s0.cs s0.cs.length q.hw := ⟨_, rfl⟩
  have hans : sameT s0.cs p q = (m1 && m2 && @decide (T1 = T2) (Classical.propDecidable _)) := by unfold sameT; rw [hm1, hm2, hT1, hT2]
  have hcmp : m1 = true → m2 = true → (compN T1 T2 = 0 ↔ T1 = T2) := fun h1 h2 => by
    rw [hT1, hT2]
    exact taken_eq hg (may_wgood (by rw [← hm1]; exact h1)) (may_wgood (by rw [← hm2]; exact h2))
  have HCMP := Lib.hid hcmp
  clear hcmp
  have hTA : ∀ V, Below w.heap.size w V → Calls Tryz.prog 38 #[.pointer (some ⟨hb, 0, none⟩), .agg #[.bool p.c, .int .i64 p.a, .int .i8 k, .int .i64 n, .string s, .string t, .slice A l.length cap]] V (TakeA m1 T1 V) := fun V hb => by
    rw [hm1, hT1]
    exact hTake_ans hg p _ V (h.under hb) (hp0.keep (fun b hb1 => hb.block b hb1) (fun b hb1 => Nat.lt_of_lt_of_le hb1 hb.size)) (hS.below hb hS.lt)
  have hTB : ∀ V, Below w.heap.size w V → Calls Tryz.prog 38 #[.pointer (some ⟨hb, 0, none⟩), .agg #[.bool q.c, .int .i64 q.a, .int .i8 k', .int .i64 n', .string s', .string t', .slice A' l'.length cap']] V (TakeA m2 T2 V) := fun V hb => by
    rw [hm2, hT2]
    exact hTake_ans hg q _ V (h.under hb) (hq0.keep (fun b hb1 => hb.block b hb1) (fun b hb1 => Nat.lt_of_lt_of_le hb1 hb.size)) (hS.below hb hS.lt)
  rw [hans]
  obtain ⟨pc, hpc⟩ : ∃ b, b = p.c := ⟨_, rfl⟩
  obtain ⟨pa, hpa⟩ : ∃ b, b = p.a := ⟨_, rfl⟩
  obtain ⟨qc, hqc⟩ : ∃ b, b = q.c := ⟨_, rfl⟩
  obtain ⟨qa, hqa⟩ : ∃ b, b = q.a := ⟨_, rfl⟩
  rw [← hpc, ← hpa] at hTA
  rw [← hqc, ← hqa] at hTB
  rw [← hpc, ← hpa, ← hqc, ← hqa]
  have HTA := Lib.hid hTA
  have HTB := Lib.hid hTB
  have HS := Lib.hid hS
  clear hp0 hq0 hp hq hTA hTB hans hm1 hm2 hT1 hT2 hpc hpa hqc hqa h hg hS
  obtain ⟨w1, hw1⟩ : ∃ w1, w1 = (w.alloc (.cells #[.bool pc, .int .i64 pa, .int .i8 k, .int .i64 n, .string s, .string t, .slice A l.length cap] 51)).alloc (.cells #[.bool qc, .int .i64 qa, .int .i8 k', .int .i64 n', .string s', .string t', .slice A' l'.length cap'] 51) := ⟨_, rfl⟩
  have B1 : Below w.heap.size w w1 := by rw [hw1]; exact ((Below.refl _ w).alloc (Nat.le_refl _) _).alloc (by simp) _
  have g0 : w1.heap[w.heap.size]? = some (.cells #[.bool pc, .int .i64 pa, .int .i8 k, .int .i64 n, .string s, .string t, .slice A l.length cap] 51 (0, 0)) := by rw [hw1, Below.heap_alloc _ _ _ (by simp)]; exact block_alloc _ _
  have g1 : w1.heap[w.heap.size + 1]? = some (.cells #[.bool qc, .int .i64 qa, .int .i8 k', .int .i64 n', .string s', .string t', .slice A' l'.length cap'] 51 (0, 0)) := by
    have h := block_alloc (w.alloc (.cells #[.bool pc, .int .i64 pa, .int .i8 k, .int .i64 n, .string s, .string t, .slice A l.length cap] 51)) (.cells #[.bool qc, .int .i64 qa, .int .i8 k', .int .i64 n', .string s', .string t', .slice A' l'.length cap'] 51)
    rw [World.size_alloc] at h
    rw [hw1]; exact h
  have HB1 := Lib.hid B1
  have HG1 := Lib.hid g1
  have p0 : w1.cell? ⟨w.heap.size, 0, none⟩ = some (.bool pc) := cell_of_row (i := 0) g0 rfl
  have p1 : w1.cell? ⟨w.heap.size, 1, none⟩ = some (.int .i64 pa) := cell_of_row (i := 1) g0 rfl
  have p2 : w1.cell? ⟨w.heap.size, 2, none⟩ = some (.int .i8 k) := cell_of_row (i := 2) g0 rfl
  have p3 : w1.cell? ⟨w.heap.size, 3, none⟩ = some (.int .i64 n) := cell_of_row (i := 3) g0 rfl
  have p4 : w1.cell? ⟨w.heap.size, 4, none⟩ = some (.string s) := cell_of_row (i := 4) g0 rfl
  have p5 : w1.cell? ⟨w.heap.size, 5, none⟩ = some (.string t) := cell_of_row (i := 5) g0 rfl
  have p6 : w1.cell? ⟨w.heap.size, 6, none⟩ = some (.slice A l.length cap) := cell_of_row (i := 6) g0 rfl
  clear B1 g0 g1
  go_enter Tryz.func17, Tryz.ntmps17
  go_upto_region 1 with fail
  rw [← hw1]
  clear hw1
  go_wp2_with fail
  refine (HTA.out w1 HB1.out).mono ?_
  rintro e w2 ⟨k1, n1, s1, t1, l1, A1, cap1, E1, rfl, hE1, hv1, hx1, b2⟩
  replace hE1 := Lib.hid hE1
  clear p0 p1 p2 p3 p4 p5 p6
  have HB2 := Lib.hid (HB1.out.trans (b2.mono HB1.out.size))
  have hg2 := (b2.block _ (heap_lt HG1.out)).trans HG1.out
  have HG2 := Lib.hid hg2
  have HV1 := Lib.hid hv1
  have HX1 := Lib.hid hx1
  clear hv1 hx1 b2 hg2 HG1
  have z0 : (w2.alloc (.cells #[.int .i8 0, .int .i64 0, .string ⟨#[]⟩, .string ⟨#[]⟩, .slice none 0 0] 27)).cell? ⟨w2.heap.size, 0, none⟩ = some (.int .i8 0) := cell_of_row (block_alloc _ _) rfl
  have zf0 : (w2.alloc (.cells #[.int .i8 0, .int .i64 0, .string ⟨#[]⟩, .string ⟨#[]⟩, .slice none 0 0] 27)).frozen? ⟨w2.heap.size, 0, none⟩ = false := free_of_row (block_alloc _ _)
  have z1 : (w2.alloc (.cells #[.int .i8 0, .int .i64 0, .string ⟨#[]⟩, .string ⟨#[]⟩, .slice none 0 0] 27)).cell? ⟨w2.heap.size, 1, none⟩ = some (.int .i64 0) := cell_of_row (block_alloc _ _) rfl
  have zf1 : (w2.alloc (.cells #[.int .i8 0, .int .i64 0, .string ⟨#[]⟩, .string ⟨#[]⟩, .slice none 0 0] 27)).frozen? ⟨w2.heap.size, 1, none⟩ = false := free_of_row (block_alloc _ _)
  have z2 : (w2.alloc (.cells #[.int .i8 0, .int .i64 0, .string ⟨#[]⟩, .string ⟨#[]⟩, .slice none 0 0] 27)).cell? ⟨w2.heap.size, 2, none⟩ = some (.string ⟨#[]⟩) := cell_of_row (block_alloc _ _) rfl
  have zf2 : (w2.alloc (.cells #[.int .i8 0, .int .i64 0, .string ⟨#[]⟩, .string ⟨#[]⟩, .slice none 0 0] 27)).frozen? ⟨w2.heap.size, 2, none⟩ = false := free_of_row (block_alloc _ _)
  have z3 : (w2.alloc (.cells #[.int .i8 0, .int .i64 0, .string ⟨#[]⟩, .string ⟨#[]⟩, .slice none 0 0] 27)).cell? ⟨w2.heap.size, 3, none⟩ = some (.string ⟨#[]⟩) := cell_of_row (block_alloc _ _) rfl
  have zf3 : (w2.alloc (.cells #[.int .i8 0, .int .i64 0, .string ⟨#[]⟩, .string ⟨#[]⟩, .slice none 0 0] 27)).frozen? ⟨w2.heap.size, 3, none⟩ = false := free_of_row (block_alloc _ _)
  have z4 : (w2.alloc (.cells #[.int .i8 0, .int .i64 0, .string ⟨#[]⟩, .string ⟨#[]⟩, .slice none 0 0] 27)).cell? ⟨w2.heap.size, 4, none⟩ = some (.slice none 0 0) := cell_of_row (block_alloc _ _) rfl
  have zf4 : (w2.alloc (.cells #[.int .i8 0, .int .i64 0, .string ⟨#[]⟩, .string ⟨#[]⟩, .slice none 0 0] 27)).frozen? ⟨w2.heap.size, 4, none⟩ = false := free_of_row (block_alloc _ _)
  go_upto_region 2 with fail
  have b3 : Below w2.heap.size w2 (w2.alloc (.cells #[.int .i8 k1, .int .i64 n1, .string s1, .string t1, .slice A1 l1.length cap1] 27)) := (Below.refl _ _).alloc (Nat.le_refl _) _
  have g3 := block_alloc w2 (.cells #[.int .i8 k1, .int .i64 n1, .string s1, .string t1, .slice A1 l1.length cap1] 27)
  obtain ⟨x9, hx9⟩ : ∃ b, b = w2.heap.size := ⟨_, rfl⟩
  rw [← hx9] at g3 ⊢
  generalize w2.alloc (.cells #[.int .i8 k1, .int .i64 n1, .string s1, .string t1, .slice A1 l1.length cap1] 27) = w3 at b3 g3 ⊢
  have hg3 := (b3.block _ (heap_lt HG2.out)).trans HG2.out
  have HB3 := Lib.hid (HB2.out.trans (b3.mono HB2.out.size))
  have HV3 := Lib.hid (HV1.out.later b3)
  have HG3 := Lib.hid (And.intro hg3 g3)
  clear z0 zf0 z1 zf1 z2 zf2 z3 zf3 z4 zf4 b3 g3 hx9 HV1 HG2
  have p0 : w3.cell? ⟨w.heap.size + 1, 0, none⟩ = some (.bool qc) := cell_of_row (i := 0) hg3 rfl
  have p1 : w3.cell? ⟨w.heap.size + 1, 1, none⟩ = some (.int .i64 qa) := cell_of_row (i := 1) hg3 rfl
  have p2 : w3.cell? ⟨w.heap.size + 1, 2, none⟩ = some (.int .i8 k') := cell_of_row (i := 2) hg3 rfl
  have p3 : w3.cell? ⟨w.heap.size + 1, 3, none⟩ = some (.int .i64 n') := cell_of_row (i := 3) hg3 rfl
  have p4 : w3.cell? ⟨w.heap.size + 1, 4, none⟩ = some (.string s') := cell_of_row (i := 4) hg3 rfl
  have p5 : w3.cell? ⟨w.heap.size + 1, 5, none⟩ = some (.string t') := cell_of_row (i := 5) hg3 rfl
  have p6 : w3.cell? ⟨w.heap.size + 1, 6, none⟩ = some (.slice A' l'.length cap') := cell_of_row (i := 6) hg3 rfl
  clear hg3
  cases m1 with
  | false =>
    have hE : E1 = 2 := hE1.out
    clear hE1
    subst hE
    go_wp2_with fail
    go_ret
    exact ⟨rfl, HB3.out⟩
  | true =>
  have hE : E1 = 0 := hE1.out
  clear hE1
  subst hE
  go_wp2_with fail
  refine (HTB.out w3 HB3.out).mono ?_
  rintro e w4 ⟨k2, n2, s2, t2, l2, A2, cap2, E2, rfl, hE2, hv2, hx2, b4⟩
  replace hE2 := Lib.hid hE2
  clear p0 p1 p2 p3 p4 p5 p6
  have HB4 := Lib.hid (HB3.out.trans (b4.mono HB3.out.size))
  have hg4 := (b4.block _ (heap_lt HG3.out.2)).trans HG3.out.2
  have HG4 := Lib.hid hg4
  have HV4 := Lib.hid (HV3.out.later b4)
  have HV2 := Lib.hid hv2
  have HX2 := Lib.hid hx2
  clear hv2 hx2 b4 hg4 HG3
  have z0 : (w4.alloc (.cells #[.int .i8 0, .int .i64 0, .string ⟨#[]⟩, .string ⟨#[]⟩, .slice none 0 0] 27)).cell? ⟨w4.heap.size, 0, none⟩ = some (.int .i8 0) := cell_of_row (block_alloc _ _) rfl
  have zf0 : (w4.alloc (.cells #[.int .i8 0, .int .i64 0, .string ⟨#[]⟩, .string ⟨#[]⟩, .slice none 0 0] 27)).frozen? ⟨w4.heap.size, 0, none⟩ = false := free_of_row (block_alloc _ _)
  have z1 : (w4.alloc (.cells #[.int .i8 0, .int .i64 0, .string ⟨#[]⟩, .string ⟨#[]⟩, .slice none 0 0] 27)).cell? ⟨w4.heap.size, 1, none⟩ = some (.int .i64 0) := cell_of_row (block_alloc _ _) rfl
  have zf1 : (w4.alloc (.cells #[.int .i8 0, .int .i64 0, .string ⟨#[]⟩, .string ⟨#[]⟩, .slice none 0 0] 27)).frozen? ⟨w4.heap.size, 1, none⟩ = false := free_of_row (block_alloc _ _)
  have z2 : (w4.alloc (.cells #[.int .i8 0, .int .i64 0, .string ⟨#[]⟩, .string ⟨#[]⟩, .slice none 0 0] 27)).cell? ⟨w4.heap.size, 2, none⟩ = some (.string ⟨#[]⟩) := cell_of_row (block_alloc _ _) rfl
  have zf2 : (w4.alloc (.cells #[.int .i8 0, .int .i64 0, .string ⟨#[]⟩, .string ⟨#[]⟩, .slice none 0 0] 27)).frozen? ⟨w4.heap.size, 2, none⟩ = false := free_of_row (block_alloc _ _)
  have z3 : (w4.alloc (.cells #[.int .i8 0, .int .i64 0, .string ⟨#[]⟩, .string ⟨#[]⟩, .slice none 0 0] 27)).cell? ⟨w4.heap.size, 3, none⟩ = some (.string ⟨#[]⟩) := cell_of_row (block_alloc _ _) rfl
  have zf3 : (w4.alloc (.cells #[.int .i8 0, .int .i64 0, .string ⟨#[]⟩, .string ⟨#[]⟩, .slice none 0 0] 27)).frozen? ⟨w4.heap.size, 3, none⟩ = false := free_of_row (block_alloc _ _)
  have z4 : (w4.alloc (.cells #[.int .i8 0, .int .i64 0, .string ⟨#[]⟩, .string ⟨#[]⟩, .slice none 0 0] 27)).cell? ⟨w4.heap.size, 4, none⟩ = some (.slice none 0 0) := cell_of_row (block_alloc _ _) rfl
  have zf4 : (w4.alloc (.cells #[.int .i8 0, .int .i64 0, .string ⟨#[]⟩, .string ⟨#[]⟩, .slice none 0 0] 27)).frozen? ⟨w4.heap.size, 4, none⟩ = false := free_of_row (block_alloc _ _)
  go_upto_region 5 with fail
  have b5 : Below w4.heap.size w4 (w4.alloc (.cells #[.int .i8 k2, .int .i64 n2, .string s2, .string t2, .slice A2 l2.length cap2] 27)) := (Below.refl _ _).alloc (Nat.le_refl _) _
  have g5 := block_alloc w4 (.cells #[.int .i8 k2, .int .i64 n2, .string s2, .string t2, .slice A2 l2.length cap2] 27)
  obtain ⟨x11, hx11⟩ : ∃ b, b = w4.heap.size := ⟨_, rfl⟩
  rw [← hx11] at g5 ⊢
  generalize w4.alloc (.cells #[.int .i8 k2, .int .i64 n2, .string s2, .string t2, .slice A2 l2.length cap2] 27) = w5 at b5 g5 ⊢
  have hg5 := (b5.block _ (heap_lt HG4.out)).trans HG4.out
  have HB5 := Lib.hid (HB4.out.trans (b5.mono HB4.out.size))
  have HV5 := Lib.hid (HV4.out.later b5)
  have HU5 := Lib.hid (HV2.out.later b5)
  clear z0 zf0 z1 zf1 z2 zf2 z3 zf3 z4 zf4 b5 hx11 HV4 HV2 HG4
  have p0 : w5.cell? ⟨x9, 0, none⟩ = some (.int .i8 k1) := cell_of_row (i := 0) hg5 rfl
  have q0 : w5.cell? ⟨x11, 0, none⟩ = some (.int .i8 k2) := cell_of_row (i := 0) g5 rfl
  have p1 : w5.cell? ⟨x9, 1, none⟩ = some (.int .i64 n1) := cell_of_row (i := 1) hg5 rfl
  have q1 : w5.cell? ⟨x11, 1, none⟩ = some (.int .i64 n2) := cell_of_row (i := 1) g5 rfl
  have p2 : w5.cell? ⟨x9, 2, none⟩ = some (.string s1) := cell_of_row (i := 2) hg5 rfl
  have q2 : w5.cell? ⟨x11, 2, none⟩ = some (.string s2) := cell_of_row (i := 2) g5 rfl
  have p3 : w5.cell? ⟨x9, 3, none⟩ = some (.string t1) := cell_of_row (i := 3) hg5 rfl
  have q3 : w5.cell? ⟨x11, 3, none⟩ = some (.string t2) := cell_of_row (i := 3) g5 rfl
  have p4 : w5.cell? ⟨x9, 4, none⟩ = some (.slice A1 l1.length cap1) := cell_of_row (i := 4) hg5 rfl
  have q4 : w5.cell? ⟨x11, 4, none⟩ = some (.slice A2 l2.length cap2) := cell_of_row (i := 4) g5 rfl
  clear hg5 g5
  cases m2 with
  | false =>
    have hE : E2 = 2 := hE2.out
    clear hE2
    subst hE
    go_wp2_with fail
    go_ret
    exact ⟨rfl, HB5.out⟩
  | true =>
  have hE : E2 = 0 := hE2.out
  clear hE2
  subst hE
  have HC := Lib.hid (Compare_any _ _ _ _ w5 HV5.out HU5.out (HS.out.below HB5.out HS.out.lt))
  rw [HX1.out (by first | rfl | trivial), HX2.out (by first | rfl | trivial)] at HC
  obtain ⟨cv, hcv⟩ : ∃ c, c = compN T1 T2 := ⟨_, rfl⟩
  rw [← hcv] at HC
  have hiff : cv = 0 ↔ T1 = T2 := by rw [hcv]; exact HCMP.out (by first | rfl | trivial) (by first | rfl | trivial)
  clear hcv
  by_cases hTT : T1 = T2
  · have hc0 := hiff.2 hTT
    subst hc0
    have HTT := Lib.hid hTT
    clear hiff hTT
    go_wp2_with fail
    refine HC.out.mono ?_
    rintro e w6 ⟨rfl, b6⟩
    have HB6 := Lib.hid (HB5.out.trans (b6.mono HB5.out.size))
    clear b6
    go_wp2_with fail
    go_ret
    exact ⟨by rw [@decide_eq_true _ (Classical.propDecidable _) HTT.out]; rfl, HB6.out⟩
  · have hc0 : ¬ cv = 0 := fun e => hTT (hiff.1 e)
    have hc1 : (cv == 0) = false := by simpa using hc0
    have HTT := Lib.hid hTT
    clear hiff hTT
    go_wp2_with fail
    refine HC.out.mono ?_
    rintro e w6 ⟨rfl, b6⟩
    have HB6 := Lib.hid (HB5.out.trans (b6.mono HB5.out.size))
    clear b6
    go_wp2_with fail
    go_ret
    exact ⟨by rw [@decide_eq_false _ (Classical.propDecidable _) HTT.out]; rfl, HB6.out⟩

set_option maxHeartbeats 8000000 in
set_option maxRecDepth 100000 in
theorem rSame_any {base hb : Nat} {cs : List HC} {CS : Value} {G : Nat → Prop} (hg : HGood cs) (p q : AW) (v u : Value) (w : World) (h : RAt base w hb cs CS G) (hp : AWAt (· < w.heap.size) w p v) (hq : AWAt (· < w.heap.size) w q u) :
    Calls Tryz.prog 19 #[.pointer (some ⟨hb, 0, none⟩), v, .pointer (some ⟨hb, 0, none⟩), u] w fun e w' => e = .returned (.bool (sameT cs p q)) ∧ Below w.heap.size w w' := by
  have hp0 := hp
  have hq0 := hq
  obtain ⟨k, n, s, t, A, l, cap, -, rfl, -⟩ := aw_cells hp
  obtain ⟨k', n', s', t', A', l', cap', -, rfl, -⟩ := aw_cells hq
  obtain ⟨m1, hm1⟩ : ∃ m, m = mayW cs.length p.c p.a p.x := ⟨_, rfl⟩
  obtain ⟨m2, hm2⟩ : ∃ m, m = mayW cs.length q.c q.a q.x := ⟨_, rfl⟩
  obtain ⟨T1, hT1⟩ : ∃ T, T = wt cs cs.length p.hw := ⟨_, rfl⟩
  obtain ⟨T2, hT2⟩ : ∃ T, T = wt cs cs.length q.hw := ⟨_, rfl⟩
  have hans : sameT cs p q = (m1 && m2 && @decide (T1 = T2) (Classical.propDecidable _)) := by unfold sameT; rw [hm1, hm2, hT1, hT2]
  have hTA : ∀ V, Below w.heap.size w V → Calls Tryz.prog 40 #[.pointer (some ⟨hb, 0, none⟩), .agg #[.bool p.c, .int .i64 p.a, .int .i8 k, .int .i64 n, .string s, .string t, .slice A l.length cap]] V (TakeA m1 T1 V) := fun V hb => by
    rw [hm1, hT1]
    exact rTake_ans hg p _ V (h.under hb) (hp0.keep (fun b hb1 => hb.block b hb1) (fun b hb1 => Nat.lt_of_lt_of_le hb1 hb.size))
  have hTB : ∀ V, Below w.heap.size w V → Calls Tryz.prog 40 #[.pointer (some ⟨hb, 0, none⟩), .agg #[.bool q.c, .int .i64 q.a, .int .i8 k', .int .i64 n', .string s', .string t', .slice A' l'.length cap']] V (TakeA m2 T2 V) := fun V hb => by
    rw [hm2, hT2]
    exact rTake_ans hg q _ V (h.under hb) (hq0.keep (fun b hb1 => hb.block b hb1) (fun b hb1 => Nat.lt_of_lt_of_le hb1 hb.size))
  rw [hans]
  obtain ⟨pc, hpc⟩ : ∃ b, b = p.c := ⟨_, rfl⟩
  obtain ⟨pa, hpa⟩ : ∃ b, b = p.a := ⟨_, rfl⟩
  obtain ⟨qc, hqc⟩ : ∃ b, b = q.c := ⟨_, rfl⟩
  obtain ⟨qa, hqa⟩ : ∃ b, b = q.a := ⟨_, rfl⟩
  rw [← hpc, ← hpa] at hTA
  rw [← hqc, ← hqa] at hTB
  rw [← hpc, ← hpa, ← hqc, ← hqa]
  have HTA := Lib.hid hTA
  have HTB := Lib.hid hTB
  clear hp0 hq0 hp hq hTA hTB hans hm1 hm2 hT1 hT2 hpc hpa hqc hqa h hg
  obtain ⟨w1, hw1⟩ : ∃ w1, w1 = (w.alloc (.cells #[.bool pc, .int .i64 pa, .int .i8 k, .int .i64 n, .string s, .string t, .slice A l.length cap] 51)).alloc (.cells #[.bool qc, .int .i64 qa, .int .i8 k', .int .i64 n', .string s', .string t', .slice A' l'.length cap'] 51) := ⟨_, rfl⟩
  have B1 : Below w.heap.size w w1 := by rw [hw1]; exact ((Below.refl _ w).alloc (Nat.le_refl _) _).alloc (by simp) _
  have g0 : w1.heap[w.heap.size]? = some (.cells #[.bool pc, .int .i64 pa, .int .i8 k, .int .i64 n, .string s, .string t, .slice A l.length cap] 51 (0, 0)) := by rw [hw1, Below.heap_alloc _ _ _ (by simp)]; exact block_alloc _ _
  have g1 : w1.heap[w.heap.size + 1]? = some (.cells #[.bool qc, .int .i64 qa, .int .i8 k', .int .i64 n', .string s', .string t', .slice A' l'.length cap'] 51 (0, 0)) := by
    have h := block_alloc (w.alloc (.cells #[.bool pc, .int .i64 pa, .int .i8 k, .int .i64 n, .string s, .string t, .slice A l.length cap] 51)) (.cells #[.bool qc, .int .i64 qa, .int .i8 k', .int .i64 n', .string s', .string t', .slice A' l'.length cap'] 51)
    rw [World.size_alloc] at h
    rw [hw1]; exact h
  have HB1 := Lib.hid B1
  have HG1 := Lib.hid g1
  have p0 : w1.cell? ⟨w.heap.size, 0, none⟩ = some (.bool pc) := cell_of_row (i := 0) g0 rfl
  have p1 : w1.cell? ⟨w.heap.size, 1, none⟩ = some (.int .i64 pa) := cell_of_row (i := 1) g0 rfl
  have p2 : w1.cell? ⟨w.heap.size, 2, none⟩ = some (.int .i8 k) := cell_of_row (i := 2) g0 rfl
  have p3 : w1.cell? ⟨w.heap.size, 3, none⟩ = some (.int .i64 n) := cell_of_row (i := 3) g0 rfl
  have p4 : w1.cell? ⟨w.heap.size, 4, none⟩ = some (.string s) := cell_of_row (i := 4) g0 rfl
  have p5 : w1.cell? ⟨w.heap.size, 5, none⟩ = some (.string t) := cell_of_row (i := 5) g0 rfl
  have p6 : w1.cell? ⟨w.heap.size, 6, none⟩ = some (.slice A l.length cap) := cell_of_row (i := 6) g0 rfl
  clear B1 g0 g1
  go_enter Tryz.func19, Tryz.ntmps19
  go_upto_region 1 with fail
  rw [← hw1]
  clear hw1
  go_wp2_with fail
  refine (HTA.out w1 HB1.out).mono ?_
  rintro e w2 ⟨k1, n1, s1, t1, l1, A1, cap1, E1, rfl, hE1, hv1, hx1, b2⟩
  replace hE1 := Lib.hid hE1
  clear p0 p1 p2 p3 p4 p5 p6
  have HB2 := Lib.hid (HB1.out.trans (b2.mono HB1.out.size))
  have hg2 := (b2.block _ (heap_lt HG1.out)).trans HG1.out
  have HG2 := Lib.hid hg2
  have HV1 := Lib.hid hv1
  have HX1 := Lib.hid hx1
  clear hv1 hx1 b2 hg2 HG1
  have z0 : (w2.alloc (.cells #[.int .i8 0, .int .i64 0, .string ⟨#[]⟩, .string ⟨#[]⟩, .slice none 0 0] 27)).cell? ⟨w2.heap.size, 0, none⟩ = some (.int .i8 0) := cell_of_row (block_alloc _ _) rfl
  have zf0 : (w2.alloc (.cells #[.int .i8 0, .int .i64 0, .string ⟨#[]⟩, .string ⟨#[]⟩, .slice none 0 0] 27)).frozen? ⟨w2.heap.size, 0, none⟩ = false := free_of_row (block_alloc _ _)
  have z1 : (w2.alloc (.cells #[.int .i8 0, .int .i64 0, .string ⟨#[]⟩, .string ⟨#[]⟩, .slice none 0 0] 27)).cell? ⟨w2.heap.size, 1, none⟩ = some (.int .i64 0) := cell_of_row (block_alloc _ _) rfl
  have zf1 : (w2.alloc (.cells #[.int .i8 0, .int .i64 0, .string ⟨#[]⟩, .string ⟨#[]⟩, .slice none 0 0] 27)).frozen? ⟨w2.heap.size, 1, none⟩ = false := free_of_row (block_alloc _ _)
  have z2 : (w2.alloc (.cells #[.int .i8 0, .int .i64 0, .string ⟨#[]⟩, .string ⟨#[]⟩, .slice none 0 0] 27)).cell? ⟨w2.heap.size, 2, none⟩ = some (.string ⟨#[]⟩) := cell_of_row (block_alloc _ _) rfl
  have zf2 : (w2.alloc (.cells #[.int .i8 0, .int .i64 0, .string ⟨#[]⟩, .string ⟨#[]⟩, .slice none 0 0] 27)).frozen? ⟨w2.heap.size, 2, none⟩ = false := free_of_row (block_alloc _ _)
  have z3 : (w2.alloc (.cells #[.int .i8 0, .int .i64 0, .string ⟨#[]⟩, .string ⟨#[]⟩, .slice none 0 0] 27)).cell? ⟨w2.heap.size, 3, none⟩ = some (.string ⟨#[]⟩) := cell_of_row (block_alloc _ _) rfl
  have zf3 : (w2.alloc (.cells #[.int .i8 0, .int .i64 0, .string ⟨#[]⟩, .string ⟨#[]⟩, .slice none 0 0] 27)).frozen? ⟨w2.heap.size, 3, none⟩ = false := free_of_row (block_alloc _ _)
  have z4 : (w2.alloc (.cells #[.int .i8 0, .int .i64 0, .string ⟨#[]⟩, .string ⟨#[]⟩, .slice none 0 0] 27)).cell? ⟨w2.heap.size, 4, none⟩ = some (.slice none 0 0) := cell_of_row (block_alloc _ _) rfl
  have zf4 : (w2.alloc (.cells #[.int .i8 0, .int .i64 0, .string ⟨#[]⟩, .string ⟨#[]⟩, .slice none 0 0] 27)).frozen? ⟨w2.heap.size, 4, none⟩ = false := free_of_row (block_alloc _ _)
  go_upto_region 2 with fail
  have b3 : Below w2.heap.size w2 (w2.alloc (.cells #[.int .i8 k1, .int .i64 n1, .string s1, .string t1, .slice A1 l1.length cap1] 27)) := (Below.refl _ _).alloc (Nat.le_refl _) _
  have g3 := block_alloc w2 (.cells #[.int .i8 k1, .int .i64 n1, .string s1, .string t1, .slice A1 l1.length cap1] 27)
  obtain ⟨x9, hx9⟩ : ∃ b, b = w2.heap.size := ⟨_, rfl⟩
  rw [← hx9] at g3 ⊢
  generalize w2.alloc (.cells #[.int .i8 k1, .int .i64 n1, .string s1, .string t1, .slice A1 l1.length cap1] 27) = w3 at b3 g3 ⊢
  have hg3 := (b3.block _ (heap_lt HG2.out)).trans HG2.out
  have HB3 := Lib.hid (HB2.out.trans (b3.mono HB2.out.size))
  have HV3 := Lib.hid (HV1.out.later b3)
  have HG3 := Lib.hid (And.intro hg3 g3)
  clear z0 zf0 z1 zf1 z2 zf2 z3 zf3 z4 zf4 b3 g3 hx9 HV1 HG2
  have p0 : w3.cell? ⟨w.heap.size + 1, 0, none⟩ = some (.bool qc) := cell_of_row (i := 0) hg3 rfl
  have p1 : w3.cell? ⟨w.heap.size + 1, 1, none⟩ = some (.int .i64 qa) := cell_of_row (i := 1) hg3 rfl
  have p2 : w3.cell? ⟨w.heap.size + 1, 2, none⟩ = some (.int .i8 k') := cell_of_row (i := 2) hg3 rfl
  have p3 : w3.cell? ⟨w.heap.size + 1, 3, none⟩ = some (.int .i64 n') := cell_of_row (i := 3) hg3 rfl
  have p4 : w3.cell? ⟨w.heap.size + 1, 4, none⟩ = some (.string s') := cell_of_row (i := 4) hg3 rfl
  have p5 : w3.cell? ⟨w.heap.size + 1, 5, none⟩ = some (.string t') := cell_of_row (i := 5) hg3 rfl
  have p6 : w3.cell? ⟨w.heap.size + 1, 6, none⟩ = some (.slice A' l'.length cap') := cell_of_row (i := 6) hg3 rfl
  clear hg3
  go_wp2_with fail
  refine (HTB.out w3 HB3.out).mono ?_
  rintro e w4 ⟨k2, n2, s2, t2, l2, A2, cap2, E2, rfl, hE2, hv2, hx2, b4⟩
  replace hE2 := Lib.hid hE2
  clear p0 p1 p2 p3 p4 p5 p6
  have HB4 := Lib.hid (HB3.out.trans (b4.mono HB3.out.size))
  have hg4 := (b4.block _ (heap_lt HG3.out.2)).trans HG3.out.2
  have HG4 := Lib.hid hg4
  have HV4 := Lib.hid (HV3.out.later b4)
  have HV2 := Lib.hid hv2
  have HX2 := Lib.hid hx2
  clear hv2 hx2 b4 hg4 HG3
  have z0 : (w4.alloc (.cells #[.int .i8 0, .int .i64 0, .string ⟨#[]⟩, .string ⟨#[]⟩, .slice none 0 0] 27)).cell? ⟨w4.heap.size, 0, none⟩ = some (.int .i8 0) := cell_of_row (block_alloc _ _) rfl
  have zf0 : (w4.alloc (.cells #[.int .i8 0, .int .i64 0, .string ⟨#[]⟩, .string ⟨#[]⟩, .slice none 0 0] 27)).frozen? ⟨w4.heap.size, 0, none⟩ = false := free_of_row (block_alloc _ _)
  have z1 : (w4.alloc (.cells #[.int .i8 0, .int .i64 0, .string ⟨#[]⟩, .string ⟨#[]⟩, .slice none 0 0] 27)).cell? ⟨w4.heap.size, 1, none⟩ = some (.int .i64 0) := cell_of_row (block_alloc _ _) rfl
  have zf1 : (w4.alloc (.cells #[.int .i8 0, .int .i64 0, .string ⟨#[]⟩, .string ⟨#[]⟩, .slice none 0 0] 27)).frozen? ⟨w4.heap.size, 1, none⟩ = false := free_of_row (block_alloc _ _)
  have z2 : (w4.alloc (.cells #[.int .i8 0, .int .i64 0, .string ⟨#[]⟩, .string ⟨#[]⟩, .slice none 0 0] 27)).cell? ⟨w4.heap.size, 2, none⟩ = some (.string ⟨#[]⟩) := cell_of_row (block_alloc _ _) rfl
  have zf2 : (w4.alloc (.cells #[.int .i8 0, .int .i64 0, .string ⟨#[]⟩, .string ⟨#[]⟩, .slice none 0 0] 27)).frozen? ⟨w4.heap.size, 2, none⟩ = false := free_of_row (block_alloc _ _)
  have z3 : (w4.alloc (.cells #[.int .i8 0, .int .i64 0, .string ⟨#[]⟩, .string ⟨#[]⟩, .slice none 0 0] 27)).cell? ⟨w4.heap.size, 3, none⟩ = some (.string ⟨#[]⟩) := cell_of_row (block_alloc _ _) rfl
  have zf3 : (w4.alloc (.cells #[.int .i8 0, .int .i64 0, .string ⟨#[]⟩, .string ⟨#[]⟩, .slice none 0 0] 27)).frozen? ⟨w4.heap.size, 3, none⟩ = false := free_of_row (block_alloc _ _)
  have z4 : (w4.alloc (.cells #[.int .i8 0, .int .i64 0, .string ⟨#[]⟩, .string ⟨#[]⟩, .slice none 0 0] 27)).cell? ⟨w4.heap.size, 4, none⟩ = some (.slice none 0 0) := cell_of_row (block_alloc _ _) rfl
  have zf4 : (w4.alloc (.cells #[.int .i8 0, .int .i64 0, .string ⟨#[]⟩, .string ⟨#[]⟩, .slice none 0 0] 27)).frozen? ⟨w4.heap.size, 4, none⟩ = false := free_of_row (block_alloc _ _)
  go_upto_region 3 with fail
  have b5 : Below w4.heap.size w4 (w4.alloc (.cells #[.int .i8 k2, .int .i64 n2, .string s2, .string t2, .slice A2 l2.length cap2] 27)) := (Below.refl _ _).alloc (Nat.le_refl _) _
  have g5 := block_alloc w4 (.cells #[.int .i8 k2, .int .i64 n2, .string s2, .string t2, .slice A2 l2.length cap2] 27)
  obtain ⟨x11, hx11⟩ : ∃ b, b = w4.heap.size := ⟨_, rfl⟩
  rw [← hx11] at g5 ⊢
  generalize w4.alloc (.cells #[.int .i8 k2, .int .i64 n2, .string s2, .string t2, .slice A2 l2.length cap2] 27) = w5 at b5 g5 ⊢
  have hg5 := (b5.block _ (heap_lt HG4.out)).trans HG4.out
  have HB5 := Lib.hid (HB4.out.trans (b5.mono HB4.out.size))
  have HV5 := Lib.hid (HV4.out.later b5)
  have HU5 := Lib.hid (HV2.out.later b5)
  clear z0 zf0 z1 zf1 z2 zf2 z3 zf3 z4 zf4 b5 hx11 HV4 HV2 HG4
  have p0 : w5.cell? ⟨x9, 0, none⟩ = some (.int .i8 k1) := cell_of_row (i := 0) hg5 rfl
  have q0 : w5.cell? ⟨x11, 0, none⟩ = some (.int .i8 k2) := cell_of_row (i := 0) g5 rfl
  have p1 : w5.cell? ⟨x9, 1, none⟩ = some (.int .i64 n1) := cell_of_row (i := 1) hg5 rfl
  have q1 : w5.cell? ⟨x11, 1, none⟩ = some (.int .i64 n2) := cell_of_row (i := 1) g5 rfl
  have p2 : w5.cell? ⟨x9, 2, none⟩ = some (.string s1) := cell_of_row (i := 2) hg5 rfl
  have q2 : w5.cell? ⟨x11, 2, none⟩ = some (.string s2) := cell_of_row (i := 2) g5 rfl
  have p3 : w5.cell? ⟨x9, 3, none⟩ = some (.string t1) := cell_of_row (i := 3) hg5 rfl
  have q3 : w5.cell? ⟨x11, 3, none⟩ = some (.string t2) := cell_of_row (i := 3) g5 rfl
  have p4 : w5.cell? ⟨x9, 4, none⟩ = some (.slice A1 l1.length cap1) := cell_of_row (i := 4) hg5 rfl
  have q4 : w5.cell? ⟨x11, 4, none⟩ = some (.slice A2 l2.length cap2) := cell_of_row (i := 4) g5 rfl
  clear hg5 g5
  cases m1 with
  | false =>
    have hE : E1 = 2 := hE1.out
    clear hE1 hE2
    subst hE
    go_wp2_with fail
    go_ret
    exact ⟨rfl, HB5.out⟩
  | true =>
  have hE : E1 = 0 := hE1.out
  clear hE1
  subst hE
  cases m2 with
  | false =>
    have hE : E2 = 2 := hE2.out
    clear hE2
    subst hE
    go_wp2_with fail
    go_ret
    exact ⟨rfl, HB5.out⟩
  | true =>
  have hE : E2 = 0 := hE2.out
  clear hE2
  subst hE
  have HC := Lib.hid (Same_any _ _ _ _ w5 HV5.out HU5.out)
  rw [HX1.out (by first | rfl | trivial), HX2.out (by first | rfl | trivial)] at HC
  go_wp2_with fail
  refine HC.out.mono ?_
  rintro e w6 ⟨bb, rfl, hbb, b6⟩
  have HB6 := Lib.hid (HB5.out.trans (b6.mono HB5.out.size))
  have HBB := Lib.hid hbb
  clear b6 hbb
  go_wp2_with fail
  go_ret
  refine ⟨?_, HB6.out⟩
  have h := HBB.out
  by_cases hTT : T1 = T2
  · rw [@decide_eq_true _ (Classical.propDecidable _) hTT, h.2 hTT]; rfl
  · rw [@decide_eq_false _ (Classical.propDecidable _) hTT]
    cases bb with
    | false => rfl
    | true => exact absurd (h.1 rfl) hTT
end Go.Proofs.YtaemfjmmklpjeaaGreatDoor
