/- The document's own heap: parts, empty, May, size, SameWord. The document's own heap: how memory holds it; size. The document's own heap: Make. -/
import Derived.Test.YtaemfjmmklpjeaaGreatDoorCoRun2
import Derived.Test.YtaemfjmmklpjeaaGreatDoorOpen5
import Derived.Test.YtaemfjmmklpjeaaGreatDoorRef03C
import Derived.Test.YtaemfjmmklpjeaaGreatDoorSame
set_option linter.unusedVariables false
namespace Go.Proofs.YtaemfjmmklpjeaaGreatDoor
open Go.RowKit
theorem sI {α : Type _} (l : List α) (i : Nat) (a : α) : l.toArray.setIfInBounds i a = (l.set i a).toArray := List.setIfInBounds_toArray l i a
theorem sZ {α : Type _} (x : α) (xs : List α) (a : α) : (x :: xs).set 0 a = a :: xs := List.set_cons_zero
theorem sS {α : Type _} (x : α) (xs : List α) (n : Nat) (a : α) : (x :: xs).set (n + 1) a = x :: xs.set n a := List.set_cons_succ

theorem below_cell {w w' : World} {a : Addr} {v : Value} (h : Below w.heap.size w w') (hc : w.cell? a = some v) : w'.cell? a = some v :=
  (World.cell?_of_block (w := w) (h.block _ (World.block_lt_of_cell? w a hc))).trans hc

set_option maxHeartbeats 1000000 in
theorem rparts_any (k : Int) (w : World) : Calls Tryz.prog 47 #[.int .i8 k] w fun e w' => e = .returned (.bool (k == 5 || k == 7)) ∧ w = w' := by
  go_enter Tryz.func47, Tryz.ntmps47
  go_wp2
  all_goals
    go_ret
    refine ⟨ret_bool ?_, rfl⟩
    first | simp_all | (simp; omega)

set_option maxHeartbeats 2000000 in
set_option maxRecDepth 100000 in
theorem empty_any (k n : Int) (s t : ByteArray) (A : Option Addr) (len cap : Nat) (w : World) : Calls Tryz.prog 59 #[.agg #[(.int .i8 k), (.int .i64 n), (.string s), (.string t), (.slice A len cap)]] w fun e w' => e = .returned (.bool (blankB k n s t len)) ∧ Below w.heap.size w w' := by
  obtain ⟨R, hR⟩ : ∃ R, R = blankB k n s t len := ⟨_, rfl⟩
  have HR := Lib.hid hR
  rw [← hR]
  clear hR
  obtain ⟨w1, hw1⟩ : ∃ w1, w1 = w.alloc (.cells #[(.int .i8 k), (.int .i64 n), (.string s), (.string t), (.slice A len cap)] 27) := ⟨_, rfl⟩
  have g1 : w1.heap[w.heap.size]? = some (.cells #[(.int .i8 k), (.int .i64 n), (.string s), (.string t), (.slice A len cap)] 27 (0, 0)) := by rw [hw1]; exact block_alloc _ _
  have hB : Below w.heap.size w w1 := by rw [hw1]; exact (Below.refl _ _).alloc (Nat.le_refl _) _
  have x0 : w1.cell? ⟨w.heap.size, 0, none⟩ = some (.int .i8 k) := cell_of_row g1 rfl
  have x1 : w1.cell? ⟨w.heap.size, 1, none⟩ = some (.int .i64 n) := cell_of_row g1 rfl
  have x2 : w1.cell? ⟨w.heap.size, 2, none⟩ = some (.string s) := cell_of_row g1 rfl
  have x3 : w1.cell? ⟨w.heap.size, 3, none⟩ = some (.string t) := cell_of_row g1 rfl
  have x4 : w1.cell? ⟨w.heap.size, 4, none⟩ = some (.slice A len cap) := cell_of_row g1 rfl
  have HB := Lib.hid hB
  clear hB g1
  subst hw1
  cases hk : (k == 0)
  case false =>
    have hR0 : R = false := by rw [HR.out]; unfold blankB; simp only [hk]; rfl
    have HR0 := Lib.hid hR0
    clear hR0
    go_enter Tryz.func59, Tryz.ntmps59
    go_wp2_with fail
    go_ret
    exact ⟨ret_bool HR0.out.symm, HB.out⟩
  cases hn : (n == 0)
  case false =>
    have hR0 : R = false := by rw [HR.out]; unfold blankB; simp only [hn, hk]; rfl
    have HR0 := Lib.hid hR0
    clear hR0
    go_enter Tryz.func59, Tryz.ntmps59
    go_wp2_with fail
    go_ret
    exact ⟨ret_bool HR0.out.symm, HB.out⟩
  cases hs : (s.toList.isEmpty)
  case false =>
    have hs1 : (s.toList == []) = false := by cases h : s.toList <;> simp_all
    have hs2 : ¬ (s.toList = []) := by simpa using hs
    have hR0 : R = false := by rw [HR.out]; unfold blankB; simp only [hs, hk, hn]; rfl
    have HR0 := Lib.hid hR0
    clear hR0
    go_enter Tryz.func59, Tryz.ntmps59
    go_wp2_with fail
    go_ret
    exact ⟨ret_bool HR0.out.symm, HB.out⟩
  have hs1 : (s.toList == []) = true := by cases h : s.toList <;> simp_all
  have hs2 : (s.toList = []) := by simpa using hs
  cases ht : (t.toList.isEmpty)
  case false =>
    have ht1 : (t.toList == []) = false := by cases h : t.toList <;> simp_all
    have ht2 : ¬ (t.toList = []) := by simpa using ht
    have hR0 : R = false := by rw [HR.out]; unfold blankB; simp only [ht, hk, hn, hs]; rfl
    have HR0 := Lib.hid hR0
    clear hR0
    go_enter Tryz.func59, Tryz.ntmps59
    go_wp2_with fail
    go_ret
    exact ⟨ret_bool HR0.out.symm, HB.out⟩
  have ht1 : (t.toList == []) = true := by cases h : t.toList <;> simp_all
  have ht2 : (t.toList = []) := by simpa using ht
  cases hl : ((len : Int) == 0)
  case false =>
    have hR0 : R = false := by rw [HR.out]; unfold blankB; simp only [hl, hk, hn, hs, ht]; rfl
    have HR0 := Lib.hid hR0
    clear hR0
    go_enter Tryz.func59, Tryz.ntmps59
    go_wp2_with fail
    go_ret
    exact ⟨ret_bool HR0.out.symm, HB.out⟩
  have hR0 : R = true := by rw [HR.out]; unfold blankB; simp only [hk, hn, hs, ht, hl]; rfl
  have HR0 := Lib.hid hR0
  clear hR0
  go_enter Tryz.func59, Tryz.ntmps59
  go_wp2_with fail
  go_ret
  exact ⟨ret_bool HR0.out.symm, HB.out⟩

set_option maxRecDepth 100000 in
set_option maxHeartbeats 4000000 in
theorem rMay_cell {rb : Nat} {RA : Option Addr} {N rcap : Nat} (a k n : Int) (s t : ByteArray) (l : List Tm) (A : Option Addr) (cap : Nat) (w : World) (hbox : w.cell? ⟨rb, 0, none⟩ = some (.slice RA N rcap)) (hT : TmAt (· < w.heap.size) w (.mk k n s t l) (.agg #[.int .i8 k, .int .i64 n, .string s, .string t, .slice A l.length cap])) :
    Calls Tryz.prog 37 #[.pointer (some ⟨rb, 0, none⟩), .agg #[.bool true, .int .i64 a, .int .i8 k, .int .i64 n, .string s, .string t, .slice A l.length cap]] w fun e w' => e = .returned (.bool (mayW N true a (.mk k n s t l))) ∧ Below w.heap.size w w' := by
  obtain ⟨w1, hw1⟩ : ∃ w1, w1 = w.alloc (.cells #[(.bool true), (.int .i64 a), (.int .i8 k), (.int .i64 n), (.string s), (.string t), (.slice A l.length cap)] 51) := ⟨_, rfl⟩
  have b1 : Below w.heap.size w w1 := by rw [hw1]; exact (Below.refl _ _).alloc (Nat.le_refl _) _
  have g1 : w1.heap[w.heap.size]? = some (.cells #[(.bool true), (.int .i64 a), (.int .i8 k), (.int .i64 n), (.string s), (.string t), (.slice A l.length cap)] 51 (0, 0)) := by rw [hw1]; exact block_alloc _ _
  have HT := Lib.hid hT
  have HB := Lib.hid b1
  have HG := Lib.hid (And.intro g1 (below_cell b1 hbox))
  obtain ⟨R, hR⟩ : ∃ R, R = mayW N true a (.mk k n s t l) := ⟨_, rfl⟩
  rw [← hR]
  have HR := Lib.hid hR
  have x0 : w1.cell? ⟨w.heap.size, 0, none⟩ = some (.bool true) := cell_of_row g1 rfl
  have x1 : w1.cell? ⟨w.heap.size, 1, none⟩ = some (.int .i64 a) := cell_of_row g1 rfl
  have x2 : w1.cell? ⟨w.heap.size, 2, none⟩ = some (.int .i8 k) := cell_of_row g1 rfl
  have x3 : w1.cell? ⟨w.heap.size, 3, none⟩ = some (.int .i64 n) := cell_of_row g1 rfl
  have x4 : w1.cell? ⟨w.heap.size, 4, none⟩ = some (.string s) := cell_of_row g1 rfl
  have x5 : w1.cell? ⟨w.heap.size, 5, none⟩ = some (.string t) := cell_of_row g1 rfl
  have x6 : w1.cell? ⟨w.heap.size, 6, none⟩ = some (.slice A l.length cap) := cell_of_row g1 rfl
  have x9 := below_cell b1 hbox
  rw [hw1] at x0 x1 x2 x3 x4 x5 x6 x9
  clear hT b1 g1 hR
  cases hbl : blankB k n s t l.length
  case false =>
    have hR0 : R = false := by rw [HR.out]; unfold mayW; rw [if_pos rfl]; show (_ && blankB k n s t l.length) = false; rw [hbl]; simp
    have HR0 := Lib.hid hR0
    clear hR0
    go_enter Tryz.func37, Tryz.ntmps37
    go_wp2_with fail
    rw [← hw1]
    clear hw1 x0 x1 x2 x3 x4 x5 x6 x9
    refine wp_region_held (S := fun X => X.heap[w.heap.size]? = some (.cells #[(.bool true), (.int .i64 a), (.int .i8 k), (.int .i64 n), (.string s), (.string t), (.slice A l.length cap)] 51 (0, 0)) ∧ X.cell? ⟨rb, 0, none⟩ = some (.slice RA N rcap)) (by kernel_rfl) ?_
    show wpAnyH _ _ _ _ _ _ _ _ w1.drew
    have hdr : Below w1.heap.size w1 w1.drew := ⟨rfl, rfl, rfl, Nat.le_refl _, fun _ _ => rfl⟩
    have hT1 := HT.out.later (HB.out.trans (hdr.mono HB.out.size))
    have hSD : (fun X => X.heap[w.heap.size]? = some (.cells #[(.bool true), (.int .i64 a), (.int .i8 k), (.int .i64 n), (.string s), (.string t), (.slice A l.length cap)] 51 (0, 0)) ∧ X.cell? ⟨rb, 0, none⟩ = some (.slice RA N rcap)) w1.drew := ⟨(hdr.block _ (heap_lt HG.out.1)).trans HG.out.1, below_cell hdr HG.out.2⟩
    have hbD := HB.out.trans (hdr.mono HB.out.size)
    generalize w1.drew = D at hT1 hSD hbD ⊢
    clear hdr
    refine wpAnyH_take (i := 0) (oi := ⟨some 7, _, _, _, _, _⟩) (v := ?_) rfl (by kernel_rfl) (by kernel_rfl) (by kernel_rfl) (fun _ _ _ h => h) (Or.inl ⟨by kernel_rfl, ?_⟩) (by assumption) ?_; rotate_left; (intro X hX; (try dsimp only at hX); obtain ⟨q0, y9⟩ := hX; have y0 := cell_of_row (i := 0) q0 rfl; have y1 := cell_of_row (i := 1) q0 rfl; have y2 := cell_of_row (i := 2) q0 rfl; have y3 := cell_of_row (i := 3) q0 rfl; have y4 := cell_of_row (i := 4) q0 rfl; have y5 := cell_of_row (i := 5) q0 rfl; have y6 := cell_of_row (i := 6) q0 rfl; clear q0; go_simp; first | done | with_reducible rfl); (try simp only [Act.put, sI, sZ, sS])
    refine wpAnyH_take (i := 1) (oi := ⟨some 8, _, _, _, _, _⟩) (v := ?_) rfl (by kernel_rfl) (by kernel_rfl) (by kernel_rfl) (fun _ _ _ h => h) (Or.inl ⟨by kernel_rfl, ?_⟩) (by assumption) ?_; rotate_left; (intro X hX; (try dsimp only at hX); obtain ⟨q0, y9⟩ := hX; have y0 := cell_of_row (i := 0) q0 rfl; have y1 := cell_of_row (i := 1) q0 rfl; have y2 := cell_of_row (i := 2) q0 rfl; have y3 := cell_of_row (i := 3) q0 rfl; have y4 := cell_of_row (i := 4) q0 rfl; have y5 := cell_of_row (i := 5) q0 rfl; have y6 := cell_of_row (i := 6) q0 rfl; clear q0; go_simp; first | done | with_reducible rfl); (try simp only [Act.put, sI, sZ, sS])
    refine wpAnyH_ready (rs := [2]) (by kernel_rfl) (by simp) ?_
    refine AllReadyH.cons (o := ⟨some 9, _, _, _, _, _⟩) rfl (fun K hK => ?_) AllReadyH.nil
    rw [if_pos (by rfl)]
    go_simp
    refine (empty_any k n s t A l.length cap D).mono ?_
    rintro e V2 ⟨rfl, b2⟩
    rw [hbl]
    have hS2 : (fun X => X.heap[w.heap.size]? = some (.cells #[(.bool true), (.int .i64 a), (.int .i8 k), (.int .i64 n), (.string s), (.string t), (.slice A l.length cap)] 51 (0, 0)) ∧ X.cell? ⟨rb, 0, none⟩ = some (.slice RA N rcap)) V2 := ⟨(b2.block _ (heap_lt hSD.1)).trans hSD.1, below_cell b2 hSD.2⟩
    have HB2 := Lib.hid (hbD.trans (b2.mono hbD.size))
    clear b2 hbD hT1 hSD
    refine hK.out _ _ hS2 (fun _ => ?_)
    clear hK K; (try simp only [Act.put, sI, sZ, sS])
    refine wpAnyH_take (i := 3) (oi := ⟨some 10, _, _, _, _, _⟩) (v := ?_) rfl (by kernel_rfl) (by kernel_rfl) (by kernel_rfl) (fun _ _ _ h => h) (Or.inl ⟨by kernel_rfl, ?_⟩) (by assumption) ?_; rotate_left; (intro X hX; (try dsimp only at hX); obtain ⟨q0, y9⟩ := hX; have y0 := cell_of_row (i := 0) q0 rfl; have y1 := cell_of_row (i := 1) q0 rfl; have y2 := cell_of_row (i := 2) q0 rfl; have y3 := cell_of_row (i := 3) q0 rfl; have y4 := cell_of_row (i := 4) q0 rfl; have y5 := cell_of_row (i := 5) q0 rfl; have y6 := cell_of_row (i := 6) q0 rfl; clear q0; go_simp; first | done | with_reducible rfl); (try simp only [Act.put, sI, sZ, sS])
    refine wpAnyH_take (i := 4) (oi := ⟨some 11, _, _, _, _, _⟩) (v := undef) rfl (by kernel_rfl) (by kernel_rfl) (by kernel_rfl) (fun _ _ _ h => h) (Or.inr ⟨by kernel_rfl, rfl⟩) (by assumption) ?_; (try simp only [Act.put, sI, sZ, sS])
    refine wpAnyH_take (i := 5) (oi := ⟨some 12, _, _, _, _, _⟩) (v := undef) rfl (by kernel_rfl) (by kernel_rfl) (by kernel_rfl) (fun _ _ _ h => h) (Or.inr ⟨by kernel_rfl, rfl⟩) (by assumption) ?_; (try simp only [Act.put, sI, sZ, sS])
    refine wpAnyH_take (i := 6) (oi := ⟨some 13, _, _, _, _, _⟩) (v := undef) rfl (by kernel_rfl) (by kernel_rfl) (by kernel_rfl) (fun _ _ _ h => h) (Or.inr ⟨by kernel_rfl, rfl⟩) (by assumption) ?_; (try simp only [Act.put, sI, sZ, sS])
    refine wpAnyH_take (i := 7) (oi := ⟨some 14, _, _, _, _, _⟩) (v := ?_) rfl (by kernel_rfl) (by kernel_rfl) (by kernel_rfl) (fun _ _ _ h => h) (Or.inl ⟨by kernel_rfl, ?_⟩) (by assumption) ?_; rotate_left; (intro X hX; (try dsimp only at hX); obtain ⟨q0, y9⟩ := hX; have y0 := cell_of_row (i := 0) q0 rfl; have y1 := cell_of_row (i := 1) q0 rfl; have y2 := cell_of_row (i := 2) q0 rfl; have y3 := cell_of_row (i := 3) q0 rfl; have y4 := cell_of_row (i := 4) q0 rfl; have y5 := cell_of_row (i := 5) q0 rfl; have y6 := cell_of_row (i := 6) q0 rfl; clear q0; go_simp; first | done | with_reducible rfl); (try simp only [Act.put, sI, sZ, sS])
    refine wpAnyH_take (i := 8) (oi := ⟨some 15, _, _, _, _, _⟩) (v := ?_) rfl (by kernel_rfl) (by kernel_rfl) (by kernel_rfl) (fun _ _ _ h => h) (Or.inl ⟨by kernel_rfl, ?_⟩) (by assumption) ?_; rotate_left; (intro X hX; (try dsimp only at hX); obtain ⟨q0, y9⟩ := hX; have y0 := cell_of_row (i := 0) q0 rfl; have y1 := cell_of_row (i := 1) q0 rfl; have y2 := cell_of_row (i := 2) q0 rfl; have y3 := cell_of_row (i := 3) q0 rfl; have y4 := cell_of_row (i := 4) q0 rfl; have y5 := cell_of_row (i := 5) q0 rfl; have y6 := cell_of_row (i := 6) q0 rfl; clear q0; go_simp; first | done | with_reducible rfl); (try simp only [Act.put, sI, sZ, sS])
    refine wpAnyH_take (i := 9) (oi := ⟨some 16, _, _, _, _, _⟩) (v := undef) rfl (by kernel_rfl) (by kernel_rfl) (by kernel_rfl) (fun _ _ _ h => h) (Or.inr ⟨by kernel_rfl, rfl⟩) (by assumption) ?_; (try simp only [Act.put, sI, sZ, sS])
    refine wpAnyH_take (i := 10) (oi := ⟨some 17, _, _, _, _, _⟩) (v := undef) rfl (by kernel_rfl) (by kernel_rfl) (by kernel_rfl) (fun _ _ _ h => h) (Or.inr ⟨by kernel_rfl, rfl⟩) (by assumption) ?_; (try simp only [Act.put, sI, sZ, sS])
    refine wpAnyH_take (i := 11) (oi := ⟨some 18, _, _, _, _, _⟩) (v := undef) rfl (by kernel_rfl) (by kernel_rfl) (by kernel_rfl) (fun _ _ _ h => h) (Or.inr ⟨by kernel_rfl, rfl⟩) (by assumption) ?_; (try simp only [Act.put, sI, sZ, sS])
    refine wpAnyH_take (i := 12) (oi := ⟨some 19, _, _, _, _, _⟩) (v := undef) rfl (by kernel_rfl) (by kernel_rfl) (by kernel_rfl) (fun _ _ _ h => h) (Or.inr ⟨by kernel_rfl, rfl⟩) (by assumption) ?_; (try simp only [Act.put, sI, sZ, sS])
    refine wpAnyH_take (i := 13) (oi := ⟨some 20, _, _, _, _, _⟩) (v := undef) rfl (by kernel_rfl) (by kernel_rfl) (by kernel_rfl) (fun _ _ _ h => h) (Or.inr ⟨by kernel_rfl, rfl⟩) (by assumption) ?_; (try simp only [Act.put, sI, sZ, sS])
    refine wpAnyH_take (i := 14) (oi := ⟨some 21, _, _, _, _, _⟩) (v := undef) rfl (by kernel_rfl) (by kernel_rfl) (by kernel_rfl) (fun _ _ _ h => h) (Or.inr ⟨by kernel_rfl, rfl⟩) (by assumption) ?_; (try simp only [Act.put, sI, sZ, sS])
    refine wpAnyH_take (i := 15) (oi := ⟨some 22, _, _, _, _, _⟩) (v := undef) rfl (by kernel_rfl) (by kernel_rfl) (by kernel_rfl) (fun _ _ _ h => h) (Or.inr ⟨by kernel_rfl, rfl⟩) (by assumption) ?_; (try simp only [Act.put, sI, sZ, sS])
    refine wpAnyH_take (i := 16) (oi := ⟨some 23, _, _, _, _, _⟩) (v := undef) rfl (by kernel_rfl) (by kernel_rfl) (by kernel_rfl) (fun _ _ _ h => h) (Or.inr ⟨by kernel_rfl, rfl⟩) (by assumption) ?_; (try simp only [Act.put, sI, sZ, sS])
    refine wpAnyH_take (i := 17) (oi := ⟨some 24, _, _, _, _, _⟩) (v := ?_) rfl (by kernel_rfl) (by kernel_rfl) (by kernel_rfl) (fun _ _ _ h => h) (Or.inl ⟨by kernel_rfl, ?_⟩) (by assumption) ?_; rotate_left; (intro X hX; (try dsimp only at hX); obtain ⟨q0, y9⟩ := hX; have y0 := cell_of_row (i := 0) q0 rfl; have y1 := cell_of_row (i := 1) q0 rfl; have y2 := cell_of_row (i := 2) q0 rfl; have y3 := cell_of_row (i := 3) q0 rfl; have y4 := cell_of_row (i := 4) q0 rfl; have y5 := cell_of_row (i := 5) q0 rfl; have y6 := cell_of_row (i := 6) q0 rfl; clear q0; go_simp; first | done | with_reducible rfl); (try simp only [Act.put, sI, sZ, sS])
    refine wpAnyH_take (i := 18) (oi := ⟨some 4, _, _, _, _, _⟩) (v := ?_) rfl (by kernel_rfl) (by kernel_rfl) (by kernel_rfl) (fun _ _ _ h => h) (Or.inl ⟨by kernel_rfl, ?_⟩) (by assumption) ?_; rotate_left; (intro X hX; (try dsimp only at hX); obtain ⟨q0, y9⟩ := hX; have y0 := cell_of_row (i := 0) q0 rfl; have y1 := cell_of_row (i := 1) q0 rfl; have y2 := cell_of_row (i := 2) q0 rfl; have y3 := cell_of_row (i := 3) q0 rfl; have y4 := cell_of_row (i := 4) q0 rfl; have y5 := cell_of_row (i := 5) q0 rfl; have y6 := cell_of_row (i := 6) q0 rfl; clear q0; go_simp; first | done | with_reducible rfl); (try simp only [Act.put, sI, sZ, sS])
    refine wpAnyH_done (by kernel_rfl) ?_ _
    clear hS2
    go_wp2_with fail
    go_ret
    exact ⟨ret_bool HR0.out.symm, HB2.out⟩
  by_cases h0 : 0 ≤ a
  · have hR0 : R = decide (a < (N : Int)) := by rw [HR.out]; unfold mayW; rw [if_pos rfl]; show (_ && blankB k n s t l.length) = _; rw [hbl]; simp [h0]
    have HR0 := Lib.hid hR0
    have hd0 : decide (0 ≤ a) = true := by simp; omega
    clear hR0
    go_enter Tryz.func37, Tryz.ntmps37
    go_wp2_with fail
    rw [← hw1]
    clear hw1 x0 x1 x2 x3 x4 x5 x6 x9
    refine wp_region_held (S := fun X => X.heap[w.heap.size]? = some (.cells #[(.bool true), (.int .i64 a), (.int .i8 k), (.int .i64 n), (.string s), (.string t), (.slice A l.length cap)] 51 (0, 0)) ∧ X.cell? ⟨rb, 0, none⟩ = some (.slice RA N rcap)) (by kernel_rfl) ?_
    show wpAnyH _ _ _ _ _ _ _ _ w1.drew
    have hdr : Below w1.heap.size w1 w1.drew := ⟨rfl, rfl, rfl, Nat.le_refl _, fun _ _ => rfl⟩
    have hT1 := HT.out.later (HB.out.trans (hdr.mono HB.out.size))
    have hSD : (fun X => X.heap[w.heap.size]? = some (.cells #[(.bool true), (.int .i64 a), (.int .i8 k), (.int .i64 n), (.string s), (.string t), (.slice A l.length cap)] 51 (0, 0)) ∧ X.cell? ⟨rb, 0, none⟩ = some (.slice RA N rcap)) w1.drew := ⟨(hdr.block _ (heap_lt HG.out.1)).trans HG.out.1, below_cell hdr HG.out.2⟩
    have hbD := HB.out.trans (hdr.mono HB.out.size)
    generalize w1.drew = D at hT1 hSD hbD ⊢
    clear hdr
    refine wpAnyH_take (i := 0) (oi := ⟨some 7, _, _, _, _, _⟩) (v := ?_) rfl (by kernel_rfl) (by kernel_rfl) (by kernel_rfl) (fun _ _ _ h => h) (Or.inl ⟨by kernel_rfl, ?_⟩) (by assumption) ?_; rotate_left; (intro X hX; (try dsimp only at hX); obtain ⟨q0, y9⟩ := hX; have y0 := cell_of_row (i := 0) q0 rfl; have y1 := cell_of_row (i := 1) q0 rfl; have y2 := cell_of_row (i := 2) q0 rfl; have y3 := cell_of_row (i := 3) q0 rfl; have y4 := cell_of_row (i := 4) q0 rfl; have y5 := cell_of_row (i := 5) q0 rfl; have y6 := cell_of_row (i := 6) q0 rfl; clear q0; go_simp; first | done | with_reducible rfl); (try simp only [Act.put, sI, sZ, sS])
    refine wpAnyH_take (i := 1) (oi := ⟨some 8, _, _, _, _, _⟩) (v := ?_) rfl (by kernel_rfl) (by kernel_rfl) (by kernel_rfl) (fun _ _ _ h => h) (Or.inl ⟨by kernel_rfl, ?_⟩) (by assumption) ?_; rotate_left; (intro X hX; (try dsimp only at hX); obtain ⟨q0, y9⟩ := hX; have y0 := cell_of_row (i := 0) q0 rfl; have y1 := cell_of_row (i := 1) q0 rfl; have y2 := cell_of_row (i := 2) q0 rfl; have y3 := cell_of_row (i := 3) q0 rfl; have y4 := cell_of_row (i := 4) q0 rfl; have y5 := cell_of_row (i := 5) q0 rfl; have y6 := cell_of_row (i := 6) q0 rfl; clear q0; go_simp; first | done | with_reducible rfl); (try simp only [Act.put, sI, sZ, sS])
    refine wpAnyH_ready (rs := [2]) (by kernel_rfl) (by simp) ?_
    refine AllReadyH.cons (o := ⟨some 9, _, _, _, _, _⟩) rfl (fun K hK => ?_) AllReadyH.nil
    rw [if_pos (by rfl)]
    go_simp
    refine (empty_any k n s t A l.length cap D).mono ?_
    rintro e V2 ⟨rfl, b2⟩
    rw [hbl]
    have hS2 : (fun X => X.heap[w.heap.size]? = some (.cells #[(.bool true), (.int .i64 a), (.int .i8 k), (.int .i64 n), (.string s), (.string t), (.slice A l.length cap)] 51 (0, 0)) ∧ X.cell? ⟨rb, 0, none⟩ = some (.slice RA N rcap)) V2 := ⟨(b2.block _ (heap_lt hSD.1)).trans hSD.1, below_cell b2 hSD.2⟩
    have HB2 := Lib.hid (hbD.trans (b2.mono hbD.size))
    clear b2 hbD hT1 hSD
    refine hK.out _ _ hS2 (fun _ => ?_)
    clear hK K; (try simp only [Act.put, sI, sZ, sS])
    refine wpAnyH_take (i := 3) (oi := ⟨some 10, _, _, _, _, _⟩) (v := ?_) rfl (by kernel_rfl) (by kernel_rfl) (by kernel_rfl) (fun _ _ _ h => h) (Or.inl ⟨by kernel_rfl, ?_⟩) (by assumption) ?_; rotate_left; (intro X hX; (try dsimp only at hX); obtain ⟨q0, y9⟩ := hX; have y0 := cell_of_row (i := 0) q0 rfl; have y1 := cell_of_row (i := 1) q0 rfl; have y2 := cell_of_row (i := 2) q0 rfl; have y3 := cell_of_row (i := 3) q0 rfl; have y4 := cell_of_row (i := 4) q0 rfl; have y5 := cell_of_row (i := 5) q0 rfl; have y6 := cell_of_row (i := 6) q0 rfl; clear q0; go_simp; first | done | with_reducible rfl); (try simp only [Act.put, sI, sZ, sS])
    refine wpAnyH_take (i := 4) (oi := ⟨some 11, _, _, _, _, _⟩) (v := ?_) rfl (by kernel_rfl) (by kernel_rfl) (by kernel_rfl) (fun _ _ _ h => h) (Or.inl ⟨by kernel_rfl, ?_⟩) (by assumption) ?_; rotate_left; (intro X hX; (try dsimp only at hX); obtain ⟨q0, y9⟩ := hX; have y0 := cell_of_row (i := 0) q0 rfl; have y1 := cell_of_row (i := 1) q0 rfl; have y2 := cell_of_row (i := 2) q0 rfl; have y3 := cell_of_row (i := 3) q0 rfl; have y4 := cell_of_row (i := 4) q0 rfl; have y5 := cell_of_row (i := 5) q0 rfl; have y6 := cell_of_row (i := 6) q0 rfl; clear q0; go_simp; first | done | with_reducible rfl); (try simp only [Act.put, sI, sZ, sS])
    refine wpAnyH_take (i := 5) (oi := ⟨some 12, _, _, _, _, _⟩) (v := ?_) rfl (by kernel_rfl) (by kernel_rfl) (by kernel_rfl) (fun _ _ _ h => h) (Or.inl ⟨by kernel_rfl, ?_⟩) (by assumption) ?_; rotate_left; (intro X hX; (try dsimp only at hX); obtain ⟨q0, y9⟩ := hX; have y0 := cell_of_row (i := 0) q0 rfl; have y1 := cell_of_row (i := 1) q0 rfl; have y2 := cell_of_row (i := 2) q0 rfl; have y3 := cell_of_row (i := 3) q0 rfl; have y4 := cell_of_row (i := 4) q0 rfl; have y5 := cell_of_row (i := 5) q0 rfl; have y6 := cell_of_row (i := 6) q0 rfl; clear q0; go_simp; first | done | with_reducible rfl); (try simp only [Act.put, sI, sZ, sS])
    refine wpAnyH_take (i := 6) (oi := ⟨some 13, _, _, _, _, _⟩) (v := ?_) rfl (by kernel_rfl) (by kernel_rfl) (by kernel_rfl) (fun _ _ _ h => h) (Or.inl ⟨by kernel_rfl, ?_⟩) (by assumption) ?_; rotate_left; (intro X hX; (try dsimp only at hX); obtain ⟨q0, y9⟩ := hX; have y0 := cell_of_row (i := 0) q0 rfl; have y1 := cell_of_row (i := 1) q0 rfl; have y2 := cell_of_row (i := 2) q0 rfl; have y3 := cell_of_row (i := 3) q0 rfl; have y4 := cell_of_row (i := 4) q0 rfl; have y5 := cell_of_row (i := 5) q0 rfl; have y6 := cell_of_row (i := 6) q0 rfl; clear q0; go_simp; first | done | with_reducible rfl); (try simp only [Act.put, sI, sZ, sS])
    refine wpAnyH_take (i := 7) (oi := ⟨some 14, _, _, _, _, _⟩) (v := ?_) rfl (by kernel_rfl) (by kernel_rfl) (by kernel_rfl) (fun _ _ _ h => h) (Or.inl ⟨by kernel_rfl, ?_⟩) (by assumption) ?_; rotate_left; (intro X hX; (try dsimp only at hX); obtain ⟨q0, y9⟩ := hX; have y0 := cell_of_row (i := 0) q0 rfl; have y1 := cell_of_row (i := 1) q0 rfl; have y2 := cell_of_row (i := 2) q0 rfl; have y3 := cell_of_row (i := 3) q0 rfl; have y4 := cell_of_row (i := 4) q0 rfl; have y5 := cell_of_row (i := 5) q0 rfl; have y6 := cell_of_row (i := 6) q0 rfl; clear q0; go_simp; first | done | with_reducible rfl); (try simp only [Act.put, sI, sZ, sS])
    refine wpAnyH_take (i := 8) (oi := ⟨some 15, _, _, _, _, _⟩) (v := ?_) rfl (by kernel_rfl) (by kernel_rfl) (by kernel_rfl) (fun _ _ _ h => h) (Or.inl ⟨by kernel_rfl, ?_⟩) (by assumption) ?_; rotate_left; (intro X hX; (try dsimp only at hX); obtain ⟨q0, y9⟩ := hX; have y0 := cell_of_row (i := 0) q0 rfl; have y1 := cell_of_row (i := 1) q0 rfl; have y2 := cell_of_row (i := 2) q0 rfl; have y3 := cell_of_row (i := 3) q0 rfl; have y4 := cell_of_row (i := 4) q0 rfl; have y5 := cell_of_row (i := 5) q0 rfl; have y6 := cell_of_row (i := 6) q0 rfl; clear q0; go_simp; first | done | with_reducible rfl); (try simp only [Act.put, sI, sZ, sS])
    refine wpAnyH_take (i := 9) (oi := ⟨some 16, _, _, _, _, _⟩) (v := ?_) rfl (by kernel_rfl) (by kernel_rfl) (by kernel_rfl) (fun _ _ _ h => h) (Or.inl ⟨by kernel_rfl, ?_⟩) (by assumption) ?_; rotate_left; (intro X hX; (try dsimp only at hX); obtain ⟨q0, y9⟩ := hX; have y0 := cell_of_row (i := 0) q0 rfl; have y1 := cell_of_row (i := 1) q0 rfl; have y2 := cell_of_row (i := 2) q0 rfl; have y3 := cell_of_row (i := 3) q0 rfl; have y4 := cell_of_row (i := 4) q0 rfl; have y5 := cell_of_row (i := 5) q0 rfl; have y6 := cell_of_row (i := 6) q0 rfl; clear q0; go_simp; first | done | with_reducible rfl); (try simp only [Act.put, sI, sZ, sS])
    refine wpAnyH_take (i := 10) (oi := ⟨some 17, _, _, _, _, _⟩) (v := ?_) rfl (by kernel_rfl) (by kernel_rfl) (by kernel_rfl) (fun _ _ _ h => h) (Or.inl ⟨by kernel_rfl, ?_⟩) (by assumption) ?_; rotate_left; (intro X hX; (try dsimp only at hX); obtain ⟨q0, y9⟩ := hX; have y0 := cell_of_row (i := 0) q0 rfl; have y1 := cell_of_row (i := 1) q0 rfl; have y2 := cell_of_row (i := 2) q0 rfl; have y3 := cell_of_row (i := 3) q0 rfl; have y4 := cell_of_row (i := 4) q0 rfl; have y5 := cell_of_row (i := 5) q0 rfl; have y6 := cell_of_row (i := 6) q0 rfl; clear q0; go_simp; first | done | with_reducible rfl); (try simp only [Act.put, sI, sZ, sS])
    refine wpAnyH_take (i := 11) (oi := ⟨some 18, _, _, _, _, _⟩) (v := ?_) rfl (by kernel_rfl) (by kernel_rfl) (by kernel_rfl) (fun _ _ _ h => h) (Or.inl ⟨by kernel_rfl, ?_⟩) (by assumption) ?_; rotate_left; (intro X hX; (try dsimp only at hX); obtain ⟨q0, y9⟩ := hX; have y0 := cell_of_row (i := 0) q0 rfl; have y1 := cell_of_row (i := 1) q0 rfl; have y2 := cell_of_row (i := 2) q0 rfl; have y3 := cell_of_row (i := 3) q0 rfl; have y4 := cell_of_row (i := 4) q0 rfl; have y5 := cell_of_row (i := 5) q0 rfl; have y6 := cell_of_row (i := 6) q0 rfl; clear q0; go_simp; first | done | with_reducible rfl); (try simp only [Act.put, sI, sZ, sS])
    refine wpAnyH_take (i := 12) (oi := ⟨some 19, _, _, _, _, _⟩) (v := ?_) rfl (by kernel_rfl) (by kernel_rfl) (by kernel_rfl) (fun _ _ _ h => h) (Or.inl ⟨by kernel_rfl, ?_⟩) (by assumption) ?_; rotate_left; (intro X hX; (try dsimp only at hX); obtain ⟨q0, y9⟩ := hX; have y0 := cell_of_row (i := 0) q0 rfl; have y1 := cell_of_row (i := 1) q0 rfl; have y2 := cell_of_row (i := 2) q0 rfl; have y3 := cell_of_row (i := 3) q0 rfl; have y4 := cell_of_row (i := 4) q0 rfl; have y5 := cell_of_row (i := 5) q0 rfl; have y6 := cell_of_row (i := 6) q0 rfl; clear q0; go_simp; first | done | with_reducible rfl); (try simp only [Act.put, sI, sZ, sS])
    refine wpAnyH_take (i := 13) (oi := ⟨some 20, _, _, _, _, _⟩) (v := ?_) rfl (by kernel_rfl) (by kernel_rfl) (by kernel_rfl) (fun _ _ _ h => h) (Or.inl ⟨by kernel_rfl, ?_⟩) (by assumption) ?_; rotate_left; (intro X hX; (try dsimp only at hX); obtain ⟨q0, y9⟩ := hX; have y0 := cell_of_row (i := 0) q0 rfl; have y1 := cell_of_row (i := 1) q0 rfl; have y2 := cell_of_row (i := 2) q0 rfl; have y3 := cell_of_row (i := 3) q0 rfl; have y4 := cell_of_row (i := 4) q0 rfl; have y5 := cell_of_row (i := 5) q0 rfl; have y6 := cell_of_row (i := 6) q0 rfl; clear q0; go_simp; first | done | with_reducible rfl); (try simp only [Act.put, sI, sZ, sS])
    refine wpAnyH_take (i := 14) (oi := ⟨some 21, _, _, _, _, _⟩) (v := ?_) rfl (by kernel_rfl) (by kernel_rfl) (by kernel_rfl) (fun _ _ _ h => h) (Or.inl ⟨by kernel_rfl, ?_⟩) (by assumption) ?_; rotate_left; (intro X hX; (try dsimp only at hX); obtain ⟨q0, y9⟩ := hX; have y0 := cell_of_row (i := 0) q0 rfl; have y1 := cell_of_row (i := 1) q0 rfl; have y2 := cell_of_row (i := 2) q0 rfl; have y3 := cell_of_row (i := 3) q0 rfl; have y4 := cell_of_row (i := 4) q0 rfl; have y5 := cell_of_row (i := 5) q0 rfl; have y6 := cell_of_row (i := 6) q0 rfl; clear q0; go_simp; first | done | with_reducible rfl); (try simp only [Act.put, sI, sZ, sS])
    refine wpAnyH_take (i := 15) (oi := ⟨some 22, _, _, _, _, _⟩) (v := ?_) rfl (by kernel_rfl) (by kernel_rfl) (by kernel_rfl) (fun _ _ _ h => h) (Or.inl ⟨by kernel_rfl, ?_⟩) (by assumption) ?_; rotate_left; (intro X hX; (try dsimp only at hX); obtain ⟨q0, y9⟩ := hX; have y0 := cell_of_row (i := 0) q0 rfl; have y1 := cell_of_row (i := 1) q0 rfl; have y2 := cell_of_row (i := 2) q0 rfl; have y3 := cell_of_row (i := 3) q0 rfl; have y4 := cell_of_row (i := 4) q0 rfl; have y5 := cell_of_row (i := 5) q0 rfl; have y6 := cell_of_row (i := 6) q0 rfl; clear q0; go_simp; first | done | with_reducible rfl); (try simp only [Act.put, sI, sZ, sS])
    refine wpAnyH_take (i := 16) (oi := ⟨some 23, _, _, _, _, _⟩) (v := ?_) rfl (by kernel_rfl) (by kernel_rfl) (by kernel_rfl) (fun _ _ _ h => h) (Or.inl ⟨by kernel_rfl, ?_⟩) (by assumption) ?_; rotate_left; (intro X hX; (try dsimp only at hX); obtain ⟨q0, y9⟩ := hX; have y0 := cell_of_row (i := 0) q0 rfl; have y1 := cell_of_row (i := 1) q0 rfl; have y2 := cell_of_row (i := 2) q0 rfl; have y3 := cell_of_row (i := 3) q0 rfl; have y4 := cell_of_row (i := 4) q0 rfl; have y5 := cell_of_row (i := 5) q0 rfl; have y6 := cell_of_row (i := 6) q0 rfl; clear q0; go_simp; first | done | with_reducible rfl); (try simp only [Act.put, sI, sZ, sS])
    refine wpAnyH_take (i := 17) (oi := ⟨some 24, _, _, _, _, _⟩) (v := ?_) rfl (by kernel_rfl) (by kernel_rfl) (by kernel_rfl) (fun _ _ _ h => h) (Or.inl ⟨by kernel_rfl, ?_⟩) (by assumption) ?_; rotate_left; (intro X hX; (try dsimp only at hX); obtain ⟨q0, y9⟩ := hX; have y0 := cell_of_row (i := 0) q0 rfl; have y1 := cell_of_row (i := 1) q0 rfl; have y2 := cell_of_row (i := 2) q0 rfl; have y3 := cell_of_row (i := 3) q0 rfl; have y4 := cell_of_row (i := 4) q0 rfl; have y5 := cell_of_row (i := 5) q0 rfl; have y6 := cell_of_row (i := 6) q0 rfl; clear q0; go_simp; first | done | with_reducible rfl); (try simp only [Act.put, sI, sZ, sS])
    refine wpAnyH_take (i := 18) (oi := ⟨some 4, _, _, _, _, _⟩) (v := ?_) rfl (by kernel_rfl) (by kernel_rfl) (by kernel_rfl) (fun _ _ _ h => h) (Or.inl ⟨by kernel_rfl, ?_⟩) (by assumption) ?_; rotate_left; (intro X hX; (try dsimp only at hX); obtain ⟨q0, y9⟩ := hX; have y0 := cell_of_row (i := 0) q0 rfl; have y1 := cell_of_row (i := 1) q0 rfl; have y2 := cell_of_row (i := 2) q0 rfl; have y3 := cell_of_row (i := 3) q0 rfl; have y4 := cell_of_row (i := 4) q0 rfl; have y5 := cell_of_row (i := 5) q0 rfl; have y6 := cell_of_row (i := 6) q0 rfl; clear q0; go_simp; first | done | with_reducible rfl); (try simp only [Act.put, sI, sZ, sS])
    refine wpAnyH_done (by kernel_rfl) ?_ _
    clear hS2
    go_wp2_with fail
    go_ret
    exact ⟨ret_bool HR0.out.symm, HB2.out⟩
  · have hR0 : R = false := by rw [HR.out]; unfold mayW; rw [if_pos rfl]; simp [h0]
    have HR0 := Lib.hid hR0
    have hd0 : decide (0 ≤ a) = false := by simp; omega
    clear hR0
    go_enter Tryz.func37, Tryz.ntmps37
    go_wp2_with fail
    rw [← hw1]
    clear hw1 x0 x1 x2 x3 x4 x5 x6 x9
    refine wp_region_held (S := fun X => X.heap[w.heap.size]? = some (.cells #[(.bool true), (.int .i64 a), (.int .i8 k), (.int .i64 n), (.string s), (.string t), (.slice A l.length cap)] 51 (0, 0)) ∧ X.cell? ⟨rb, 0, none⟩ = some (.slice RA N rcap)) (by kernel_rfl) ?_
    show wpAnyH _ _ _ _ _ _ _ _ w1.drew
    have hdr : Below w1.heap.size w1 w1.drew := ⟨rfl, rfl, rfl, Nat.le_refl _, fun _ _ => rfl⟩
    have hT1 := HT.out.later (HB.out.trans (hdr.mono HB.out.size))
    have hSD : (fun X => X.heap[w.heap.size]? = some (.cells #[(.bool true), (.int .i64 a), (.int .i8 k), (.int .i64 n), (.string s), (.string t), (.slice A l.length cap)] 51 (0, 0)) ∧ X.cell? ⟨rb, 0, none⟩ = some (.slice RA N rcap)) w1.drew := ⟨(hdr.block _ (heap_lt HG.out.1)).trans HG.out.1, below_cell hdr HG.out.2⟩
    have hbD := HB.out.trans (hdr.mono HB.out.size)
    generalize w1.drew = D at hT1 hSD hbD ⊢
    clear hdr
    refine wpAnyH_take (i := 0) (oi := ⟨some 7, _, _, _, _, _⟩) (v := ?_) rfl (by kernel_rfl) (by kernel_rfl) (by kernel_rfl) (fun _ _ _ h => h) (Or.inl ⟨by kernel_rfl, ?_⟩) (by assumption) ?_; rotate_left; (intro X hX; (try dsimp only at hX); obtain ⟨q0, y9⟩ := hX; have y0 := cell_of_row (i := 0) q0 rfl; have y1 := cell_of_row (i := 1) q0 rfl; have y2 := cell_of_row (i := 2) q0 rfl; have y3 := cell_of_row (i := 3) q0 rfl; have y4 := cell_of_row (i := 4) q0 rfl; have y5 := cell_of_row (i := 5) q0 rfl; have y6 := cell_of_row (i := 6) q0 rfl; clear q0; go_simp; first | done | with_reducible rfl); (try simp only [Act.put, sI, sZ, sS])
    refine wpAnyH_take (i := 1) (oi := ⟨some 8, _, _, _, _, _⟩) (v := ?_) rfl (by kernel_rfl) (by kernel_rfl) (by kernel_rfl) (fun _ _ _ h => h) (Or.inl ⟨by kernel_rfl, ?_⟩) (by assumption) ?_; rotate_left; (intro X hX; (try dsimp only at hX); obtain ⟨q0, y9⟩ := hX; have y0 := cell_of_row (i := 0) q0 rfl; have y1 := cell_of_row (i := 1) q0 rfl; have y2 := cell_of_row (i := 2) q0 rfl; have y3 := cell_of_row (i := 3) q0 rfl; have y4 := cell_of_row (i := 4) q0 rfl; have y5 := cell_of_row (i := 5) q0 rfl; have y6 := cell_of_row (i := 6) q0 rfl; clear q0; go_simp; first | done | with_reducible rfl); (try simp only [Act.put, sI, sZ, sS])
    refine wpAnyH_ready (rs := [2]) (by kernel_rfl) (by simp) ?_
    refine AllReadyH.cons (o := ⟨some 9, _, _, _, _, _⟩) rfl (fun K hK => ?_) AllReadyH.nil
    rw [if_pos (by rfl)]
    go_simp
    refine (empty_any k n s t A l.length cap D).mono ?_
    rintro e V2 ⟨rfl, b2⟩
    rw [hbl]
    have hS2 : (fun X => X.heap[w.heap.size]? = some (.cells #[(.bool true), (.int .i64 a), (.int .i8 k), (.int .i64 n), (.string s), (.string t), (.slice A l.length cap)] 51 (0, 0)) ∧ X.cell? ⟨rb, 0, none⟩ = some (.slice RA N rcap)) V2 := ⟨(b2.block _ (heap_lt hSD.1)).trans hSD.1, below_cell b2 hSD.2⟩
    have HB2 := Lib.hid (hbD.trans (b2.mono hbD.size))
    clear b2 hbD hT1 hSD
    refine hK.out _ _ hS2 (fun _ => ?_)
    clear hK K; (try simp only [Act.put, sI, sZ, sS])
    refine wpAnyH_take (i := 3) (oi := ⟨some 10, _, _, _, _, _⟩) (v := ?_) rfl (by kernel_rfl) (by kernel_rfl) (by kernel_rfl) (fun _ _ _ h => h) (Or.inl ⟨by kernel_rfl, ?_⟩) (by assumption) ?_; rotate_left; (intro X hX; (try dsimp only at hX); obtain ⟨q0, y9⟩ := hX; have y0 := cell_of_row (i := 0) q0 rfl; have y1 := cell_of_row (i := 1) q0 rfl; have y2 := cell_of_row (i := 2) q0 rfl; have y3 := cell_of_row (i := 3) q0 rfl; have y4 := cell_of_row (i := 4) q0 rfl; have y5 := cell_of_row (i := 5) q0 rfl; have y6 := cell_of_row (i := 6) q0 rfl; clear q0; go_simp; first | done | with_reducible rfl); (try simp only [Act.put, sI, sZ, sS])
    refine wpAnyH_take (i := 4) (oi := ⟨some 11, _, _, _, _, _⟩) (v := ?_) rfl (by kernel_rfl) (by kernel_rfl) (by kernel_rfl) (fun _ _ _ h => h) (Or.inl ⟨by kernel_rfl, ?_⟩) (by assumption) ?_; rotate_left; (intro X hX; (try dsimp only at hX); obtain ⟨q0, y9⟩ := hX; have y0 := cell_of_row (i := 0) q0 rfl; have y1 := cell_of_row (i := 1) q0 rfl; have y2 := cell_of_row (i := 2) q0 rfl; have y3 := cell_of_row (i := 3) q0 rfl; have y4 := cell_of_row (i := 4) q0 rfl; have y5 := cell_of_row (i := 5) q0 rfl; have y6 := cell_of_row (i := 6) q0 rfl; clear q0; go_simp; first | done | with_reducible rfl); (try simp only [Act.put, sI, sZ, sS])
    refine wpAnyH_take (i := 5) (oi := ⟨some 12, _, _, _, _, _⟩) (v := ?_) rfl (by kernel_rfl) (by kernel_rfl) (by kernel_rfl) (fun _ _ _ h => h) (Or.inl ⟨by kernel_rfl, ?_⟩) (by assumption) ?_; rotate_left; (intro X hX; (try dsimp only at hX); obtain ⟨q0, y9⟩ := hX; have y0 := cell_of_row (i := 0) q0 rfl; have y1 := cell_of_row (i := 1) q0 rfl; have y2 := cell_of_row (i := 2) q0 rfl; have y3 := cell_of_row (i := 3) q0 rfl; have y4 := cell_of_row (i := 4) q0 rfl; have y5 := cell_of_row (i := 5) q0 rfl; have y6 := cell_of_row (i := 6) q0 rfl; clear q0; go_simp; first | done | with_reducible rfl); (try simp only [Act.put, sI, sZ, sS])
    refine wpAnyH_take (i := 6) (oi := ⟨some 13, _, _, _, _, _⟩) (v := ?_) rfl (by kernel_rfl) (by kernel_rfl) (by kernel_rfl) (fun _ _ _ h => h) (Or.inl ⟨by kernel_rfl, ?_⟩) (by assumption) ?_; rotate_left; (intro X hX; (try dsimp only at hX); obtain ⟨q0, y9⟩ := hX; have y0 := cell_of_row (i := 0) q0 rfl; have y1 := cell_of_row (i := 1) q0 rfl; have y2 := cell_of_row (i := 2) q0 rfl; have y3 := cell_of_row (i := 3) q0 rfl; have y4 := cell_of_row (i := 4) q0 rfl; have y5 := cell_of_row (i := 5) q0 rfl; have y6 := cell_of_row (i := 6) q0 rfl; clear q0; go_simp; first | done | with_reducible rfl); (try simp only [Act.put, sI, sZ, sS])
    refine wpAnyH_take (i := 7) (oi := ⟨some 14, _, _, _, _, _⟩) (v := ?_) rfl (by kernel_rfl) (by kernel_rfl) (by kernel_rfl) (fun _ _ _ h => h) (Or.inl ⟨by kernel_rfl, ?_⟩) (by assumption) ?_; rotate_left; (intro X hX; (try dsimp only at hX); obtain ⟨q0, y9⟩ := hX; have y0 := cell_of_row (i := 0) q0 rfl; have y1 := cell_of_row (i := 1) q0 rfl; have y2 := cell_of_row (i := 2) q0 rfl; have y3 := cell_of_row (i := 3) q0 rfl; have y4 := cell_of_row (i := 4) q0 rfl; have y5 := cell_of_row (i := 5) q0 rfl; have y6 := cell_of_row (i := 6) q0 rfl; clear q0; go_simp; first | done | with_reducible rfl); (try simp only [Act.put, sI, sZ, sS])
    refine wpAnyH_take (i := 8) (oi := ⟨some 15, _, _, _, _, _⟩) (v := ?_) rfl (by kernel_rfl) (by kernel_rfl) (by kernel_rfl) (fun _ _ _ h => h) (Or.inl ⟨by kernel_rfl, ?_⟩) (by assumption) ?_; rotate_left; (intro X hX; (try dsimp only at hX); obtain ⟨q0, y9⟩ := hX; have y0 := cell_of_row (i := 0) q0 rfl; have y1 := cell_of_row (i := 1) q0 rfl; have y2 := cell_of_row (i := 2) q0 rfl; have y3 := cell_of_row (i := 3) q0 rfl; have y4 := cell_of_row (i := 4) q0 rfl; have y5 := cell_of_row (i := 5) q0 rfl; have y6 := cell_of_row (i := 6) q0 rfl; clear q0; go_simp; first | done | with_reducible rfl); (try simp only [Act.put, sI, sZ, sS])
    refine wpAnyH_take (i := 9) (oi := ⟨some 16, _, _, _, _, _⟩) (v := undef) rfl (by kernel_rfl) (by kernel_rfl) (by kernel_rfl) (fun _ _ _ h => h) (Or.inr ⟨by kernel_rfl, rfl⟩) (by assumption) ?_; (try simp only [Act.put, sI, sZ, sS])
    refine wpAnyH_take (i := 10) (oi := ⟨some 17, _, _, _, _, _⟩) (v := undef) rfl (by kernel_rfl) (by kernel_rfl) (by kernel_rfl) (fun _ _ _ h => h) (Or.inr ⟨by kernel_rfl, rfl⟩) (by assumption) ?_; (try simp only [Act.put, sI, sZ, sS])
    refine wpAnyH_take (i := 11) (oi := ⟨some 18, _, _, _, _, _⟩) (v := undef) rfl (by kernel_rfl) (by kernel_rfl) (by kernel_rfl) (fun _ _ _ h => h) (Or.inr ⟨by kernel_rfl, rfl⟩) (by assumption) ?_; (try simp only [Act.put, sI, sZ, sS])
    refine wpAnyH_take (i := 12) (oi := ⟨some 19, _, _, _, _, _⟩) (v := undef) rfl (by kernel_rfl) (by kernel_rfl) (by kernel_rfl) (fun _ _ _ h => h) (Or.inr ⟨by kernel_rfl, rfl⟩) (by assumption) ?_; (try simp only [Act.put, sI, sZ, sS])
    refine wpAnyH_take (i := 13) (oi := ⟨some 20, _, _, _, _, _⟩) (v := undef) rfl (by kernel_rfl) (by kernel_rfl) (by kernel_rfl) (fun _ _ _ h => h) (Or.inr ⟨by kernel_rfl, rfl⟩) (by assumption) ?_; (try simp only [Act.put, sI, sZ, sS])
    refine wpAnyH_take (i := 14) (oi := ⟨some 21, _, _, _, _, _⟩) (v := undef) rfl (by kernel_rfl) (by kernel_rfl) (by kernel_rfl) (fun _ _ _ h => h) (Or.inr ⟨by kernel_rfl, rfl⟩) (by assumption) ?_; (try simp only [Act.put, sI, sZ, sS])
    refine wpAnyH_take (i := 15) (oi := ⟨some 22, _, _, _, _, _⟩) (v := undef) rfl (by kernel_rfl) (by kernel_rfl) (by kernel_rfl) (fun _ _ _ h => h) (Or.inr ⟨by kernel_rfl, rfl⟩) (by assumption) ?_; (try simp only [Act.put, sI, sZ, sS])
    refine wpAnyH_take (i := 16) (oi := ⟨some 23, _, _, _, _, _⟩) (v := undef) rfl (by kernel_rfl) (by kernel_rfl) (by kernel_rfl) (fun _ _ _ h => h) (Or.inr ⟨by kernel_rfl, rfl⟩) (by assumption) ?_; (try simp only [Act.put, sI, sZ, sS])
    refine wpAnyH_take (i := 17) (oi := ⟨some 24, _, _, _, _, _⟩) (v := ?_) rfl (by kernel_rfl) (by kernel_rfl) (by kernel_rfl) (fun _ _ _ h => h) (Or.inl ⟨by kernel_rfl, ?_⟩) (by assumption) ?_; rotate_left; (intro X hX; (try dsimp only at hX); obtain ⟨q0, y9⟩ := hX; have y0 := cell_of_row (i := 0) q0 rfl; have y1 := cell_of_row (i := 1) q0 rfl; have y2 := cell_of_row (i := 2) q0 rfl; have y3 := cell_of_row (i := 3) q0 rfl; have y4 := cell_of_row (i := 4) q0 rfl; have y5 := cell_of_row (i := 5) q0 rfl; have y6 := cell_of_row (i := 6) q0 rfl; clear q0; go_simp; first | done | with_reducible rfl); (try simp only [Act.put, sI, sZ, sS])
    refine wpAnyH_take (i := 18) (oi := ⟨some 4, _, _, _, _, _⟩) (v := ?_) rfl (by kernel_rfl) (by kernel_rfl) (by kernel_rfl) (fun _ _ _ h => h) (Or.inl ⟨by kernel_rfl, ?_⟩) (by assumption) ?_; rotate_left; (intro X hX; (try dsimp only at hX); obtain ⟨q0, y9⟩ := hX; have y0 := cell_of_row (i := 0) q0 rfl; have y1 := cell_of_row (i := 1) q0 rfl; have y2 := cell_of_row (i := 2) q0 rfl; have y3 := cell_of_row (i := 3) q0 rfl; have y4 := cell_of_row (i := 4) q0 rfl; have y5 := cell_of_row (i := 5) q0 rfl; have y6 := cell_of_row (i := 6) q0 rfl; clear q0; go_simp; first | done | with_reducible rfl); (try simp only [Act.put, sI, sZ, sS])
    refine wpAnyH_done (by kernel_rfl) ?_ _
    clear hS2
    go_wp2_with fail
    go_ret
    exact ⟨ret_bool HR0.out.symm, HB2.out⟩
end Go.Proofs.YtaemfjmmklpjeaaGreatDoor
set_option linter.unusedVariables false
namespace Go.Proofs.YtaemfjmmklpjeaaGreatDoor
open Go.RowKit

structure RAt (base : Nat) (w : World) (rb : Nat) (cs : List HC) (CS : Value) (G : Nat → Prop) : Prop where
  low : base ≤ rb
  box : w.heap[rb]? = some (.cells #[CS] 60 (0, 0))
  row : ∃ vs : List Value, vs.length = cs.length ∧ w.ownsRow base 62 3 CS cs.length (rowC cs vs) ∧
    ∀ (n : Nat) (c : HC), cs[n]? = some c → ∃ A cap, vs[n]? = some (.slice A c.L.length cap) ∧ (c.L ≠ [] → ∃ g, A = some ⟨g, 0, none⟩ ∧ G g ∧ WRow (fun b => b = g) w A c.L.length cap (c.L.map awOf))
  apart : CS.ownBlock ≠ some rb
  own : ∀ g, G g → g < w.heap.size ∧ base ≤ g ∧ g ≠ rb ∧ CS.ownBlock ≠ some g
def RFP (rb : Nat) (CS : Value) (G : Nat → Prop) (k : Nat) : Prop := k = rb ∨ CS.ownBlock = some k ∨ G k
theorem RAt.mods {base rb : Nat} {w w' : World} {cs : List HC} {CS : Value} {G F : Nat → Prop} (h : RAt base w rb cs CS G) (m : Mod F w w') (hF : ∀ k, k < w.heap.size → F k → ¬ RFP rb CS G k) : RAt base w' rb cs CS G := by
  obtain ⟨vs, hl, ho, hp⟩ := h.row
  refine ⟨h.low, (m.block rb (heap_lt h.box) (fun hf => hF rb (heap_lt h.box) hf (.inl rfl))).trans h.box, ⟨vs, hl, m.row ho (fun k hk hf => hF k (ho.lt k hk).2 hf (.inr (.inl hk))), fun n c hc => ?_⟩, h.apart, fun g hg => ⟨Nat.lt_of_lt_of_le (h.own g hg).1 m.size, (h.own g hg).2⟩⟩
  obtain ⟨A, cap, hv, hw⟩ := hp n c hc
  refine ⟨A, cap, hv, fun hL => ?_⟩
  obtain ⟨g, e, hG, hW⟩ := hw hL
  exact ⟨g, e, hG, hW.keep (fun b hb => by subst hb; exact m.block _ (h.own _ hG).1 (fun hf => hF _ (h.own _ hG).1 hf (.inr (.inr hG)))) (fun _ h => h)⟩
theorem RAt.under {base rb : Nat} {w w' : World} {cs : List HC} {CS : Value} {G : Nat → Prop} (h : RAt base w rb cs CS G) (b : Below w.heap.size w w') : RAt base w' rb cs CS G :=
  h.mods (Mod.of_below (F := fun _ => False) b) (fun _ _ f => f.elim)
theorem RAt.shape {base rb : Nat} {w : World} {cs : List HC} {CS : Value} {G : Nat → Prop} (h : RAt base w rb cs CS G) : ∃ A cap, CS = .slice A cs.length cap := by
  obtain ⟨vs, _, ho, _⟩ := h.row
  rcases ho.2 with ⟨rfl, hn⟩ | ⟨g, cap', cur, rfl, _⟩
  · exact ⟨none, 0, by rw [hn]⟩
  · exact ⟨_, _, rfl⟩
theorem RAt.cell {base rb : Nat} {w : World} {cs : List HC} {CS : Value} {G : Nat → Prop} (h : RAt base w rb cs CS G) {n : Nat} {c : HC} (hc : cs[n]? = some c) :
    ∃ g cap A cp, CS = .slice (some ⟨g, 0, none⟩) cs.length cap ∧ w.cell? ⟨g, n * 3, none⟩ = some (.int .i8 c.k) ∧ w.cell? ⟨g, n * 3 + 1, none⟩ = some (.int .i64 c.size) ∧ w.cell? ⟨g, n * 3 + 2, none⟩ = some (.slice A c.L.length cp) ∧
      (c.L ≠ [] → ∃ g, A = some ⟨g, 0, none⟩ ∧ G g ∧ WRow (fun b => b = g) w A c.L.length cp (c.L.map awOf)) := by
  obtain ⟨vs, hl, ho, hp⟩ := h.row
  obtain ⟨A, cp, hv, hw⟩ := hp n c hc
  have hown := ho
  rcases ho.2 with ⟨_, hz⟩ | ⟨g, cap, cur, rfl, _⟩
  · have := (List.getElem?_eq_some_iff.1 hc).1; omega
  · obtain ⟨h0, h1, h2⟩ := rowC_at hc hv
    have k : ∀ i u, (rowC cs vs)[i]? = some u → w.cell? ⟨g, i, none⟩ = some u := fun i u hu => by
      have := hown.cells (g := g) rfl i u hu
      rwa [show (⟨g, 0, none⟩ : Addr).add i = ⟨g, i, none⟩ by unfold Addr.add; split <;> simp_all] at this
    exact ⟨g, cap, A, cp, rfl, k _ _ h0, k _ _ h1, k _ _ h2, hw⟩

set_option maxRecDepth 100000 in
set_option maxHeartbeats 4000000 in
theorem rsize_leaf (rb : Nat) (c1 c2 c3 c4 c5 c6 : Value) (h1 : c1.oneCell' = true) (w : World) : Calls Tryz.prog 48 #[.pointer (some ⟨rb, 0, none⟩), .agg #[.bool false, c1, c2, c3, c4, c5, c6]] w fun e w' => e = .returned (.int .i64 1) ∧ Below w.heap.size w w' := by
  obtain ⟨w1, hw1⟩ : ∃ w1, w1 = w.alloc (.cells #[.bool false, c1, c2, c3, c4, c5, c6] 51) := ⟨_, rfl⟩
  have B1 : Below w.heap.size w w1 := by rw [hw1]; exact (Below.refl _ w).alloc (Nat.le_refl _) _
  have x0 : w1.cell? ⟨w.heap.size, 0, none⟩ = some (.bool false) := by rw [hw1]; exact cell_of_row (block_alloc _ _) rfl
  have HB1 := Lib.hid B1
  clear B1
  subst hw1
  go_enter Tryz.func48, Tryz.ntmps48
  go_wp2_with fail
  go_ret
  exact ⟨rfl, HB1.out⟩
set_option maxRecDepth 100000 in
set_option maxHeartbeats 4000000 in
theorem rsize_ref {base rb : Nat} {cs : List HC} {CS : Value} {G : Nat → Prop} (w : World) (h : RAt base w rb cs CS G) (a : Nat) (c : HC) (hc : cs[a]? = some c) (c2 c3 c4 c5 c6 : Value) :
    Calls Tryz.prog 48 #[.pointer (some ⟨rb, 0, none⟩), .agg #[.bool true, .int .i64 a, c2, c3, c4, c5, c6]] w fun e w' => e = .returned (.int .i64 c.size) ∧ Below w.heap.size w w' := by
  obtain ⟨w1, hw1⟩ : ∃ w1, w1 = w.alloc (.cells #[.bool true, .int .i64 a, c2, c3, c4, c5, c6] 51) := ⟨_, rfl⟩
  have B1 : Below w.heap.size w w1 := by rw [hw1]; exact (Below.refl _ w).alloc (Nat.le_refl _) _
  have g1 : w1.heap[w.heap.size]? = some (.cells #[.bool true, .int .i64 a, c2, c3, c4, c5, c6] 51 (0, 0)) := by rw [hw1]; exact block_alloc _ _
  have x0 : w1.cell? ⟨w.heap.size, 0, none⟩ = some (.bool true) := cell_of_row g1 rfl
  have x1 : w1.cell? ⟨w.heap.size, 1, none⟩ = some (.int .i64 a) := cell_of_row g1 rfl
  obtain ⟨g, cap, A, cp, rfl, -, h1, -, -⟩ := (h.under B1).cell hc
  have y0 : w1.cell? ⟨rb, 0, none⟩ = some (.slice (some ⟨g, 0, none⟩) cs.length cap) := cell_of_row (h.under B1).box rfl
  have hal := (List.getElem?_eq_some_iff.1 hc).1
  have i0 : (0 : Int) ≤ (a : Int) := by omega
  have i1 : (a : Int) < (cs.length : Int) := by omega
  have h1' : w1.cell? ⟨((⟨g, 0, none⟩ : Addr).add (a * 3)).block, ((⟨g, 0, none⟩ : Addr).add (a * 3)).off + 1, none⟩ = some (.int .i64 c.size) := by
    rw [show (⟨g, 0, none⟩ : Addr).add (a * 3) = ⟨g, a * 3, none⟩ by unfold Addr.add; split <;> simp_all]; exact h1
  have HB1 := Lib.hid B1
  clear B1 g1 h hc
  subst hw1
  go_enter Tryz.func48, Tryz.ntmps48
  go_wp2_with fail
  go_quiet (fail)
  go_wp2_with fail
  go_ret
  exact ⟨rfl, HB1.out.trans ⟨rfl, rfl, rfl, Nat.le_refl _, fun _ _ => rfl⟩⟩
theorem r4size_any {base rb : Nat} {cs : List HC} {CS : Value} {G : Nat → Prop} (w : World) (h : RAt base w rb cs CS G) (q : AW) (v : Value) (hq : ∃ c2 c3 c4 c5 c6, v = .agg #[.bool q.c, .int .i64 q.a, c2, c3, c4, c5, c6]) (hm : mayW cs.length q.c q.a q.x = true) :
    Calls Tryz.prog 48 #[.pointer (some ⟨rb, 0, none⟩), v] w fun e w' => e = .returned (.int .i64 (wsize cs q.hw)) ∧ Below w.heap.size w w' := by
  obtain ⟨c2, c3, c4, c5, c6, rfl⟩ := hq
  cases hc : q.c with
  | true =>
    obtain ⟨h0, h1⟩ := may_ref hm hc
    obtain ⟨a, ha⟩ : ∃ a : Nat, q.a = (a : Int) := ⟨q.a.toNat, by omega⟩
    rw [ha, Int.toNat_natCast] at h1
    have hcc : cs[a]? = some cs[a] := List.getElem?_eq_getElem h1
    have e : wsize cs q.hw = cs[a].size := by unfold AW.hw; rw [if_pos hc, ha, Int.toNat_natCast, wsize_at hcc]
    rw [e, ha]
    exact rsize_ref w h a _ hcc c2 c3 c4 c5 c6
  | false =>
    have e : wsize cs q.hw = 1 := by unfold AW.hw; rw [if_neg (by rw [hc]; decide)]; rfl
    rw [e]
    exact rsize_leaf rb _ _ _ _ _ _ rfl w
theorem leaf_check {x : Tm} (h : leafE x = 0) : checkN x = 0 := by
  have hl := (leaf_bounds h).1
  obtain ⟨k, n, s, t, l⟩ := x
  obtain rfl : l = [] := hl
  unfold leafE at h
  by_cases h30 : checkN (.mk k n s t []) = 30
  · rw [if_pos h30] at h; cases h
  · unfold checkN at h30 ⊢
    split at h30
    · rename_i hv
      rw [if_pos hv, if_neg (by show ¬ 256 < 1; omega)]
    · exact absurd rfl h30
theorem leaf_iff {k n : Int} {s t : ByteArray} {l : List Tm} : (leafE (.mk k n s t l) == 0) = (decide (checkN (.mk k n s t l) = 0) && !(k == 5 || k == 7)) := by
  rw [Bool.eq_iff_iff]
  simp only [beq_iff_eq, Bool.and_eq_true, decide_eq_true_eq]
  constructor
  · intro h
    refine ⟨leaf_check h, ?_⟩
    unfold leafE at h
    split at h
    · cases h
    · split at h
      · cases h
      · rename_i hk
        have hk' : ¬ (k == 5 || k == 7) = true := hk
        simpa using hk'
  · rintro ⟨h1, h2⟩
    unfold leafE
    rw [if_neg (by rw [h1]; decide)]
    have h3 : ¬ (k == 5 || k == 7) = true := by simpa using h2
    exact if_neg h3
set_option maxRecDepth 100000 in
set_option maxHeartbeats 4000000 in
theorem rMay_leaf (rb : Nat) (a k n : Int) (s t : ByteArray) (l : List Tm) (A : Option Addr) (cap N : Nat) (w : World) (hT : TmAt (· < w.heap.size) w (.mk k n s t l) (.agg #[.int .i8 k, .int .i64 n, .string s, .string t, .slice A l.length cap])) :
    Calls Tryz.prog 37 #[.pointer (some ⟨rb, 0, none⟩), .agg #[.bool false, .int .i64 a, .int .i8 k, .int .i64 n, .string s, .string t, .slice A l.length cap]] w fun e w' => e = .returned (.bool (mayW N false a (.mk k n s t l))) ∧ Below w.heap.size w w' := by
  obtain ⟨w1, hw1⟩ : ∃ w1, w1 = w.alloc (.cells #[(.bool false), (.int .i64 a), (.int .i8 k), (.int .i64 n), (.string s), (.string t), (.slice A l.length cap)] 51) := ⟨_, rfl⟩
  have b1 : Below w.heap.size w w1 := by rw [hw1]; exact (Below.refl _ _).alloc (Nat.le_refl _) _
  have g1 : w1.heap[w.heap.size]? = some (.cells #[(.bool false), (.int .i64 a), (.int .i8 k), (.int .i64 n), (.string s), (.string t), (.slice A l.length cap)] 51 (0, 0)) := by rw [hw1]; exact block_alloc _ _
  have HC := Lib.hid (rCheck_any (.mk k n s t l) _ w1 (hT.later b1))
  have HB := Lib.hid (And.intro b1 g1)
  obtain ⟨R, hR⟩ : ∃ R, R = mayW N false a (.mk k n s t l) := ⟨_, rfl⟩
  rw [← hR]
  have hR1 : R = ((decide (checkN (.mk k n s t l) = 0) && !(k == 5 || k == 7)) && (a == 0)) := by rw [hR]; unfold mayW; rw [if_neg (by decide), leaf_iff]
  obtain ⟨ck, hck⟩ : ∃ ck, ck = checkN (.mk k n s t l) := ⟨_, rfl⟩
  rw [← hck] at HC hR1
  have HR := Lib.hid hR1
  have x0 : w1.cell? ⟨w.heap.size, 0, none⟩ = some (.bool false) := cell_of_row g1 rfl
  have x1 : w1.cell? ⟨w.heap.size, 1, none⟩ = some (.int .i64 a) := cell_of_row g1 rfl
  have x2 : w1.cell? ⟨w.heap.size, 2, none⟩ = some (.int .i8 k) := cell_of_row g1 rfl
  have x3 : w1.cell? ⟨w.heap.size, 3, none⟩ = some (.int .i64 n) := cell_of_row g1 rfl
  have x4 : w1.cell? ⟨w.heap.size, 4, none⟩ = some (.string s) := cell_of_row g1 rfl
  have x5 : w1.cell? ⟨w.heap.size, 5, none⟩ = some (.string t) := cell_of_row g1 rfl
  have x6 : w1.cell? ⟨w.heap.size, 6, none⟩ = some (.slice A l.length cap) := cell_of_row g1 rfl
  rw [hw1] at x0 x1 x2 x3 x4 x5 x6
  clear hT b1 g1 hR hR1 hck
  by_cases ha : a = 0
  · subst ha
    go_enter Tryz.func37, Tryz.ntmps37
    go_wp2_with fail
    rw [← hw1]
    clear hw1 x0 x1 x2 x3 x4 x5 x6
    refine HC.out.mono ?_
    rintro e w2 ⟨rfl, b2⟩
    have HB2 := Lib.hid (HB.out.1.trans (b2.mono HB.out.1.size))
    have z2 : w2.cell? ⟨w.heap.size, 2, none⟩ = some (.int .i8 k) := cell_of_row ((b2.block _ (heap_lt HB.out.2)).trans HB.out.2) rfl
    clear b2
    by_cases hc : ck = 0
    · subst hc
      go_wp2_with fail
      refine (rparts_any k w2).mono ?_
      rintro e w3 ⟨rfl, hq⟩
      subst w3
      go_wp2_with fail
      go_ret
      refine ⟨ret_bool ?_, HB2.out⟩
      rw [HR.out]
      simp
    · have hcb : (ck == 0) = false := beq_eq_false_iff_ne.2 hc
      go_wp2_with fail
      go_ret
      refine ⟨ret_bool ?_, HB2.out⟩
      rw [HR.out]
      simp [hc]
  · have hab : (a == 0) = false := beq_eq_false_iff_ne.2 ha
    have HAB := Lib.hid hab
    go_enter Tryz.func37, Tryz.ntmps37
    go_wp2_with fail
    rw [← hw1]
    go_ret
    refine ⟨ret_bool ?_, HB.out.1⟩
    rw [HR.out, HAB.out]
    simp
theorem r4May_any {rb : Nat} {RA : Option Addr} {N rcap : Nat} (q : AW) (v : Value) (w : World) (hbox : w.cell? ⟨rb, 0, none⟩ = some (.slice RA N rcap)) (hq : AWAt (· < w.heap.size) w q v) :
    Calls Tryz.prog 37 #[.pointer (some ⟨rb, 0, none⟩), v] w fun e w' => e = .returned (.bool (mayW N q.c q.a q.x)) ∧ Below w.heap.size w w' := by
  obtain ⟨k, n, s, t, A, len, cap, rfl, hT⟩ := hq
  obtain ⟨l, hl, rfl⟩ : ∃ l, q.x = .mk k n s t l ∧ len = l.length := by
    generalize q.x = z at hT
    cases hT; exact ⟨_, rfl, rfl⟩
  rw [hl] at hT ⊢
  cases hc : q.c with
  | true => exact rMay_cell _ k n s t l A cap w hbox hT
  | false => exact rMay_leaf rb _ k n s t l A cap N w hT
end Go.Proofs.YtaemfjmmklpjeaaGreatDoor
set_option linter.unusedVariables false
namespace Go.Proofs.YtaemfjmmklpjeaaGreatDoor
open Go.RowKit

theorem RAt.base_le {base rb : Nat} {w : World} {cs : List HC} {CS : Value} {G : Nat → Prop} (h : RAt base w rb cs CS G) : base ≤ w.heap.size := Nat.le_trans h.low (Nat.le_of_lt (heap_lt h.box))
def Part9 (lo : Nat) (w : World) (A : Option Addr) (L : List AW) (cap : Nat) : Prop := ∃ g, A = some ⟨g, 0, none⟩ ∧ lo ≤ g ∧ g < w.heap.size ∧ WRow (fun b => b = g) w A L.length cap ((L.map AW.hw).map awOf)
theorem part_under {lo : Nat} {w w' : World} {A : Option Addr} {L : List AW} {cap : Nat} (h : Part9 lo w A L cap) (b : Below w.heap.size w w') : Part9 lo w' A L cap := by
  obtain ⟨g, e, h1, h2, h3⟩ := h
  exact ⟨g, e, h1, Nat.lt_of_lt_of_le h2 b.size, h3.keep (fun i hi => by subst hi; exact b.block _ h2) (fun _ h => h)⟩
theorem may_aw {N : Nat} {q : AW} (h : mayW N q.c q.a q.x = true) : awOf q.hw = q ∧ q.x.l = [] := by
  obtain ⟨c, a, x⟩ := q
  cases c with
  | true =>
    have h0 := may_ref h rfl
    unfold mayW at h
    rw [if_pos rfl] at h
    obtain ⟨k, n, s, t, l⟩ := x
    simp only [Bool.and_eq_true] at h
    have hb : blankB k n s t l.length = true := h.2
    unfold blankB at hb
    simp at hb
    obtain ⟨⟨⟨⟨rfl, rfl⟩, hs⟩, ht⟩, hl⟩ := hb
    have e1 : s = ⟨#[]⟩ := by
      obtain ⟨d⟩ := s
      have : d.toList = [] := by simpa [ByteArray.toList_eq] using hs
      rw [Array.toList_eq_nil_iff] at this
      rw [this]
    have e2 : t = ⟨#[]⟩ := by
      obtain ⟨d⟩ := t
      have : d.toList = [] := by simpa [ByteArray.toList_eq] using ht
      rw [Array.toList_eq_nil_iff] at this
      rw [this]
    have e3 : l = [] := by cases l with | nil => rfl | cons y l => simp at hl
    subst e1 e2 e3
    refine ⟨?_, rfl⟩
    have : ((a.toNat : Nat) : Int) = a := by have := h0.1; dsimp only at this; omega
    show (⟨true, ((a.toNat : Nat) : Int), _⟩ : AW) = _
    rw [this]
  | false =>
    obtain ⟨h0, h1⟩ := may_leaf h rfl
    dsimp only at h0 h1
    subst h0
    exact ⟨rfl, (leaf_bounds h1).1⟩
theorem aw_any {P Q : Nat → Prop} {w w' : World} {N : Nat} {q : AW} {v : Value} (h : mayW N q.c q.a q.x = true) (ha : AWAt P w q v) : AWAt Q w' q v := by
  obtain ⟨k, n, s, t, A, len, cap, e, hT⟩ := ha
  refine ⟨k, n, s, t, A, len, cap, e, ?_⟩
  have hl := (may_aw h).2
  generalize q.x = z at hT hl ⊢
  obtain ⟨k', n', s', t', l⟩ := z
  obtain rfl : l = [] := hl
  obtain ⟨A', cap', ev, hr, h1, h2, h3, h4⟩ := hT.parts
  simp only [Value.agg.injEq, Array.mk.injEq, List.cons.injEq, Value.int.injEq, Value.string.injEq, Value.slice.injEq, and_true, true_and] at ev
  obtain ⟨rfl, rfl, rfl, rfl, rfl, rfl, rfl⟩ := ev
  exact TmAt.of_row (l := []) (TRow.nil Q w' _ _) h1 h2 h3 h4

set_option maxRecDepth 100000 in
theorem wp_copy_parts {o : Oper} {a : Act} {w : World} {K : Act → World → Prop} {Q : Exit → Act → World → Prop} (sl x : Operand)
    (ho : o.op = .call { callee := .builtin .append, args := #[sl, x], argTypes := #[37, 37] }) (g7 : Nat) (h7 : w.heap[g7]? = some (.cells #[] 51 (0, 0))) (hsl : a.eval sl = .slice (some ⟨g7, 0, none⟩) 0 0)
    {A : Option Addr} {cap N : Nat} {L : List AW} (hx : a.eval x = .slice A L.length cap) (hW : WRow (· < w.heap.size) w A L.length cap L) (hm : ∀ q ∈ L, mayW N q.c q.a q.x = true) (hlen : L.length ≤ 1000)
    {lo : Nat} (hlo : lo ≤ g7) (h : ∀ A' cap' w', Mod (fun k => k = g7) w w' → (L ≠ [] → Part9 lo w' A' L cap') → K (a.put o.dst (.slice A' L.length cap')) w') : o.wp Tryz.prog a w K Q := by
  obtain ⟨i, hi, hz⟩ := Option.map_eq_some_iff.1 info_wordb
  simp only [Prod.mk.injEq] at hz
  obtain ⟨hz, hsz, hby⟩ := hz
  have hown : w.ownsRow g7 51 7 (.slice (some ⟨g7, 0, none⟩) 0 0) 0 [] := ⟨rfl, .inr ⟨g7, 0, #[], rfl, Nat.le_refl _, h7, Nat.le_refl _, by unfold maxLen; omega, rfl, rfl⟩⟩
  have each : ∀ i, i < L.length → ∃ x : List Value, (x.length = 7 ∧ ∀ u ∈ x, u.oneCell' = true) ∧ ∃ q ad, L[i]? = some q ∧ A = some ad ∧ AWAt (fun b => b < w.heap.size) w q (.agg x.toArray) ∧ ∀ (k : Nat) (u : Value), x[k]? = some u → w.cell? (ad.add (i * 7 + k)) = some u := by
    intro i hi
    obtain ⟨q, hq⟩ : ∃ q, L[i]? = some q := ⟨L[i], List.getElem?_eq_getElem hi⟩
    obtain ⟨ad, v, hA, hlt, ⟨c0, c1, c2, c3, c4, c5, c6, rfl, e0, e1, e2, e3, e4, e5, e6⟩, hAW⟩ := hW.at_ i q hq
    refine ⟨[c0, c1, c2, c3, c4, c5, c6], ⟨rfl, ?_⟩, q, ad, hq, hA, hAW, fun k u hu => ?_⟩
    · obtain ⟨k', n', s', t', A', l', c', e, -⟩ := hAW
      simp only [Value.agg.injEq, Array.mk.injEq, List.cons.injEq, and_true] at e
      obtain ⟨rfl, rfl, rfl, rfl, rfl, rfl, rfl⟩ := e
      intro u hu
      simp at hu
      rcases hu with rfl | rfl | rfl | rfl | rfl | rfl | rfl <;> rfl
    · rw [← Addr.add_add]
      match k, hu with
      | 0, hu => simp at hu; subst hu; rw [add_next]; exact e0
      | 1, hu => simp at hu; subst hu; rw [add_next']; exact e1
      | 2, hu => simp at hu; subst hu; rw [add_next']; exact e2
      | 3, hu => simp at hu; subst hu; rw [add_next']; exact e3
      | 4, hu => simp at hu; subst hu; rw [add_next']; exact e4
      | 5, hu => simp at hu; subst hu; rw [add_next']; exact e5
      | 6, hu => simp at hu; subst hu; rw [add_next']; exact e6
      | k + 7, hu => simp at hu
  obtain ⟨vals, hvl, hvp⟩ := rows_choose (p := fun i (x : List Value) => (x.length = 7 ∧ ∀ u ∈ x, u.oneCell' = true) ∧ ∃ q ad, L[i]? = some q ∧ A = some ad ∧ AWAt (fun b => b < w.heap.size) w q (.agg x.toArray) ∧ ∀ (k : Nat) (u : Value), x[k]? = some u → w.cell? (ad.add (i * 7 + k)) = some u) each
  have h7l : ∀ x ∈ vals, x.length = 7 := fun x hx => by
    obtain ⟨i, hi, e⟩ := List.mem_iff_getElem.1 hx
    exact (hvp i x (by rw [← e]; exact List.getElem?_eq_getElem hi)).1.1
  have hone : ∀ u ∈ vals.flatten, u.oneCell' = true := fun u hu => by
    obtain ⟨x, hx, hux⟩ := List.mem_flatten.1 hu
    obtain ⟨i, hi, e⟩ := List.mem_iff_getElem.1 hx
    exact (hvp i x (by rw [← e]; exact List.getElem?_eq_getElem hi)).1.2 u hux
  cases A with
  | none =>
    have hL : L = [] := by
      cases L with
      | nil => rfl
      | cons q L => obtain ⟨ad, v, hA, -⟩ := hW.at_ 0 q rfl; cases hA
    subst hL
    have hr := append_nought (P := Tryz.prog) (ty := o.type) Tryz.underlying37 hi hown cap
    unfold Oper.wp execOp
    simp only [ho, resolve, invoke, builtin, Sem.run_bind, Sem.run_pure, Result.andThen_ok, List.map_toArray, List.map_cons, List.map_nil, hsl, hx, List.length_nil, hr]
    exact h _ _ w (Mod.refl _ _) (fun e => absurd rfl e)
  | some ad =>
    have hnews : ∀ j u, vals.flatten[j]? = some u → w.cell? (ad.add j) = some u := fun j u hj => by
      have hjl := (List.getElem?_eq_some_iff.1 hj).1
      rw [flat7_len vals h7l] at hjl
      have hq : j / 7 < vals.length := by omega
      obtain ⟨-, q, ad', hq', hA', -, hc⟩ := hvp (j / 7) vals[j / 7] (List.getElem?_eq_getElem hq)
      cases hA'
      have h3 := h7l _ (List.getElem_mem hq)
      obtain ⟨u', hu'⟩ : ∃ u', vals[j / 7][j % 7]? = some u' := ⟨vals[j / 7][j % 7]'(by omega), List.getElem?_eq_getElem _⟩
      have h4 := flat7_at vals h7l (j / 7) (j % 7) _ u' (List.getElem?_eq_getElem hq) hu'
      rw [show j / 7 * 7 + j % 7 = j by omega, hj] at h4
      cases h4
      have := hc _ _ hu'
      rwa [show j / 7 * 7 + j % 7 = j by omega] at this
    obtain ⟨v', w', hr, h2, h3, h4, h5⟩ := run_append_own_at (P := Tryz.prog) w g7 37 o.type 51 i _ 7 88 Tryz.underlying37 hi hz hsz hby rfl (by decide) _ 0 [] hown ad L.length cap vals.flatten (by rw [flat7_len vals h7l, hvl]) hnews hone (by unfold maxLen; omega) (by omega) (Nat.le_of_lt (heap_lt h7))
    rw [Nat.zero_add, List.nil_append] at h2
    have hg := h2.2
    rcases hg with ⟨e, hn⟩ | ⟨g, cap', cur, e, hg1, hg2, hg3, hg4, hg5, hg6⟩
    · exact absurd (h4.1 e).1 (by simp)
    subst e
    have hcur : g = g7 ∨ g = w.heap.size := by
      rcases h5 with e | e
      · simp [Value.ownBlock] at e; exact .inl e
      · simp [Value.ownBlock] at e; exact .inr e
    have hglo : lo ≤ g := by
      have := heap_lt h7
      rcases hcur with e | e <;> omega
    unfold Oper.wp execOp
    simp only [ho, resolve, invoke, builtin, Sem.run_bind, Sem.run_pure, Result.andThen_ok, List.map_toArray, List.map_cons, List.map_nil, hsl, hx, hr]
    refine h _ _ w' (Mod.grown (F := fun k => k = g7) h3 (fun k _ e => by simp [Value.ownBlock] at e; exact e.symm)) (fun hL => ⟨g, rfl, hglo, heap_lt hg2, ?_⟩)
    refine ⟨by rw [List.length_map, List.length_map], hg3, fun j q hj => ?_⟩
    rw [List.map_map, List.getElem?_map] at hj
    cases hy : L[j]? with
    | none => rw [hy] at hj; cases hj
    | some y =>
      rw [hy] at hj
      obtain rfl : awOf y.hw = q := Option.some.inj hj
      have hym := hm y (List.mem_of_getElem? hy)
      rw [(may_aw hym).1]
      have hjl := (List.getElem?_eq_some_iff.1 hy).1
      obtain ⟨x, hxx⟩ : ∃ x, vals[j]? = some x := ⟨vals[j], List.getElem?_eq_getElem (by omega)⟩
      obtain ⟨-, q', ad', hq', hA', hAW, -⟩ := hvp j x hxx
      rw [hy] at hq'
      cases hq'
      obtain ⟨k', n', s', t', A', l', c', e, hT⟩ := hAW
      have hxe : x = [.bool y.c, .int .i64 y.a, .int .i8 k', .int .i64 n', .string s', .string t', .slice A' l' c'] := by
        have := congrArg (fun v => match v with | Value.agg a => a.toList | _ => []) e
        simpa using this
      subst hxe
      have hc : ∀ (i : Nat) (u : Value), [Value.bool y.c, .int .i64 y.a, .int .i8 k', .int .i64 n', .string s', .string t', .slice A' l' c'][i]? = some u → w'.cell? ⟨g, j * 7 + i, none⟩ = some u := fun i u hu => by
        have := h2.cells (g := g) rfl _ _ (flat7_at vals h7l j i _ u hxx hu)
        rwa [show (⟨g, 0, none⟩ : Addr).add (j * 7 + i) = ⟨g, j * 7 + i, none⟩ by unfold Addr.add; split <;> simp_all] at this
      exact ⟨⟨g, 0, none⟩, _, rfl, rfl, RowW.elem ⟨_, _, _, _, _, _, _, rfl, hc 0 _ rfl, hc 1 _ rfl, hc 2 _ rfl, hc 3 _ rfl, hc 4 _ rfl, hc 5 _ rfl, hc 6 _ rfl⟩, aw_any hym ⟨k', n', s', t', A', l', c', rfl, hT⟩⟩

theorem rat_push {base rb : Nat} {w w' : World} {cs : List HC} {CS CS' : Value} {G : Nat → Prop} {vs : List Value} {k : Int} {S : Nat} {L : List AW} {A : Option Addr} {cap lo : Nat} (h : RAt base w rb cs CS G) (hvl : vs.length = cs.length) (hvo : w.ownsRow base 62 3 CS cs.length (rowC cs vs))
    (hlo : base ≤ lo) (hrl : rb < lo) (hcl : ∀ g, CS.ownBlock = some g → g < lo) (h9 : L ≠ [] → Part9 lo w A L cap) (ho : w'.ownsRow base 62 3 CS' (cs.length + 1) (rowC cs vs ++ [.int .i8 k, .int .i64 S, .slice A L.length cap])) (hg : w.grownBy w' CS.ownBlock) (hl : CS'.ownBlock = CS.ownBlock ∨ CS'.ownBlock = some w.heap.size) :
    w'.heap[rb]? = some (.cells #[CS] 60 (0, 0)) ∧ RAt base (w'.setCell ⟨rb, 0, none⟩ CS') rb (cs ++ [⟨k, S, L.map AW.hw⟩]) CS' (fun g => G g ∨ (lo ≤ g ∧ g < w.heap.size)) ∧ Mod (fun i => CS.ownBlock = some i) w w' := by
  have hm : Mod (fun i => CS.ownBlock = some i) w w' := Mod.grown (F := fun i => CS.ownBlock = some i) hg (fun i _ e => e)
  have hbx : w'.heap[rb]? = some (.cells #[CS] 60 (0, 0)) := (hm.block rb (heap_lt h.box) h.apart).trans h.box
  have hap : CS'.ownBlock ≠ some rb := fun e => by
    rcases hl with e' | e'
    · rw [e'] at e; exact h.apart e
    · rw [e'] at e; have := heap_lt h.box; cases e; omega
  have ms : Mod (fun i => i = rb) w' (w'.setCell ⟨rb, 0, none⟩ CS') := Mod.setCell _ _ _ (.inl rfl)
  refine ⟨hbx, ⟨h.low, set_row _ hbx, ?_, hap, fun g hgG => ?_⟩, hm⟩
  · obtain ⟨vs0, hvl0, hvo0, hp⟩ := h.row
    obtain rfl : vs0 = vs := row_one hvl0 hvl hvo0 hvo
    refine ⟨vs0 ++ [.slice A L.length cap], by simp [hvl], ?_, fun n c hc => ?_⟩
    · have := ms.row ho (fun i hi e => hap (by rw [hi, e]))
      rw [List.length_append, rowC_snoc _ _ hvl0.symm]
      simpa [List.length_map] using this
    · by_cases hn : n < cs.length
      · rw [List.getElem?_append_left hn] at hc
        obtain ⟨A1, cp1, hv, hw⟩ := hp n c hc
        refine ⟨A1, cp1, by rw [List.getElem?_append_left (by omega)]; exact hv, fun hL => ?_⟩
        obtain ⟨g, e, hG, hW⟩ := hw hL
        exact ⟨g, e, .inl hG, hW.keep (fun b hb => by subst hb; exact (ms.block _ (Nat.lt_of_lt_of_le (h.own _ hG).1 hm.size) (h.own _ hG).2.2.1).trans (hm.block _ (h.own _ hG).1 (h.own _ hG).2.2.2)) (fun _ h => h)⟩
      · rw [List.getElem?_append_right (by omega)] at hc
        have hn0 : n = cs.length := by
          have := (List.getElem?_eq_some_iff.1 hc).1
          simp at this
          omega
        subst hn0
        rw [Nat.sub_self] at hc
        obtain rfl : (⟨k, S, L.map AW.hw⟩ : HC) = c := by simpa using hc
        refine ⟨A, cap, by rw [List.getElem?_append_right (by omega), hvl0, Nat.sub_self, List.length_map]; rfl, fun hL => ?_⟩
        obtain ⟨g, e, h1, h2, h3⟩ := h9 (fun e => hL (by rw [e]; rfl))
        refine ⟨g, e, .inr ⟨h1, h2⟩, ?_⟩
        rw [List.length_map]
        exact h3.keep (fun b hb => by subst hb; exact (ms.block _ (Nat.lt_of_lt_of_le h2 hm.size) (by omega)).trans (hm.block _ h2 (fun e => by have := hcl _ e; omega))) (fun _ h => h)
  · have hsz : (w'.setCell ⟨rb, 0, none⟩ CS').heap.size = w'.heap.size := by simp [World.setCell]
    rw [hsz]
    rcases hgG with hG | ⟨h1, h2⟩
    · refine ⟨Nat.lt_of_lt_of_le (h.own g hG).1 hm.size, (h.own g hG).2.1, (h.own g hG).2.2.1, fun e => ?_⟩
      rcases hl with e' | e'
      · rw [e'] at e; exact (h.own g hG).2.2.2 e
      · rw [e'] at e; have := (h.own g hG).1; cases e; omega
    · refine ⟨Nat.lt_of_lt_of_le h2 hm.size, by omega, by omega, fun e => ?_⟩
      rcases hl with e' | e'
      · rw [e'] at e; have := hcl g e; omega
      · rw [e'] at e; cases e; omega
theorem rfp_new {base rb : Nat} {w : World} {cs : List HC} {CS : Value} {G : Nat → Prop} (h : RAt base w rb cs CS G) : ¬ RFP rb CS G w.heap.size := by
  rintro (e | e | e)
  · have := heap_lt h.box; omega
  · obtain ⟨vs, _, ho, _⟩ := h.row; have := (ho.lt _ e).2; omega
  · have := (h.own _ e).1; omega
def rE (k : Int) (cs : List HC) (L : List AW) : Nat := if kindB k L.length = true then makeE cs L else 2
def RMakeP (base rb : Nat) (cs : List HC) (CS : Value) (G : Nat → Prop) (k : Int) (L : List AW) (w : World) (e : Ending) (w' : World) : Prop :=
  (rE k cs L ≠ 0 ∧ e = .returned (.tuple #[word0, .int .i64 (rE k cs L : Nat)]) ∧ Below w.heap.size w w') ∨
  (rE k cs L = 0 ∧ e = .returned (.tuple #[refV cs.length, .int .i64 0]) ∧ ∃ (CS' : Value) (G' : Nat → Prop), RAt base w' rb (cs ++ [⟨k, wsum cs (L.map AW.hw), L.map AW.hw⟩]) CS' G' ∧ Mod (fun i => i = rb ∨ CS.ownBlock = some i) w w' ∧ (∀ i, RFP rb CS' G' i → RFP rb CS G i ∨ w.heap.size ≤ i))
def Cut4P (base rb : Nat) (cs : List HC) (CS : Value) (G : Nat → Prop) (k : Int) (S : Nat) (L : List AW) (w0 w1 wx : World) : Prop :=
  ∃ (CS' : Value) (G' : Nat → Prop), RAt base wx rb (cs ++ [⟨k, S, L.map AW.hw⟩]) CS' G' ∧ Mod (fun i => i = rb ∨ CS.ownBlock = some i) w1 wx ∧ (∀ i, RFP rb CS' G' i → RFP rb CS G i ∨ w1.heap.size ≤ i) ∧ wx.heap[w0.heap.size]? = some (.cells #[(.bool false), (.int .i64 0), (.int .i8 0), (.int .i64 0), (.string ⟨#[]⟩), (.string ⟨#[]⟩), (.slice none 0 0)] 51 (0, 0))
theorem cut_end {base rb : Nat} {cs : List HC} {CS CS' : Value} {G : Nat → Prop} {k : Int} {S : Nat} {L : List AW} {w0 w1 X X12 : World} (hrl : rb < w1.heap.size) (hcl : ∀ g, CS.ownBlock = some g → g < w1.heap.size) (h2 : RAt base (X12.setCell ⟨rb, 0, none⟩ CS') rb (cs ++ [⟨k, S, L.map AW.hw⟩]) CS' (fun g => G g ∨ (w1.heap.size ≤ g ∧ g < X.heap.size))) (h3 : Mod (fun i => CS.ownBlock = some i) X X12)
    (hb : Below w1.heap.size w1 X) (hl : CS'.ownBlock = CS.ownBlock ∨ CS'.ownBlock = some X.heap.size) (gb : w1.heap[w0.heap.size]? = some (.cells #[(.bool false), (.int .i64 0), (.int .i8 0), (.int .i64 0), (.string ⟨#[]⟩), (.string ⟨#[]⟩), (.slice none 0 0)] 51 (0, 0))) (hw0 : w0.heap.size < w1.heap.size) (hne : w0.heap.size ≠ rb) (hno : CS.ownBlock ≠ some w0.heap.size) :
    Cut4P base rb cs CS G k S L w0 w1 (X12.setCell ⟨rb, 0, none⟩ CS') := by
  have m1 : Mod (fun i => i = rb ∨ CS.ownBlock = some i) w1 (X12.setCell ⟨rb, 0, none⟩ CS') := ((Mod.of_below (F := fun i => i = rb ∨ CS.ownBlock = some i) hb).trans h3 (fun _ _ e => .inr e)).trans (Mod.setCell (F := fun i => i = rb) X12 ⟨rb, 0, none⟩ CS' (.inl rfl)) (fun _ _ e => .inl e)
  refine ⟨CS', _, h2, m1, fun i hi => ?_, (m1.block _ hw0 (fun hf => ?_)).trans gb⟩
  · rcases hi with e | e | (e | ⟨e, -⟩)
    · exact .inl (.inl e)
    · rcases hl with e' | e'
      · exact .inl (.inr (.inl (by rw [← e', e])))
      · rw [e'] at e; cases e; exact .inr hb.size
    · exact .inl (.inr (.inr e))
    · exact .inr e
  · rcases hf with e | e
    · exact hne e
    · exact hno e

set_option maxRecDepth 100000 in
set_option maxHeartbeats 16000000 in
theorem rMake5 {base rb : Nat} {cs : List HC} {CS : Value} {G : Nat → Prop} (hg : HGood cs) (L : List AW) (A : Option Addr) (cap : Nat) (w : World) (h : RAt base w rb cs CS G) (hR : WRow (· < w.heap.size) w A L.length cap L) (hll : L.length ≤ 1000) :
    Calls Tryz.prog 29 #[.pointer (some ⟨rb, 0, none⟩), .int .i8 5, .slice A L.length cap] w (RMakeP base rb cs CS G 5 L w) := by
  have hrE : rE 5 cs L = makeE cs L := by unfold rE; rw [if_pos (by rfl)]
  obtain ⟨w1, hw1⟩ : ∃ w1, w1 = w.alloc (.cells #[(.bool false), (.int .i64 0), (.int .i8 0), (.int .i64 0), (.string ⟨#[]⟩), (.string ⟨#[]⟩), (.slice none 0 0)] 51) := ⟨_, rfl⟩
  have b1 : Below w.heap.size w w1 := by rw [hw1]; exact (Below.refl _ _).alloc (Nat.le_refl _) _
  have g1 : w1.heap[w.heap.size]? = some (.cells #[(.bool false), (.int .i64 0), (.int .i8 0), (.int .i64 0), (.string ⟨#[]⟩), (.string ⟨#[]⟩), (.slice none 0 0)] 51 (0, 0)) := by rw [hw1]; exact block_alloc _ _
  have HB1 := Lib.hid b1
  have GB := Lib.hid g1
  have HH := Lib.hid (h.under b1)
  have HG := Lib.hid hg
  have HR := Lib.hid (hR.later b1)
  have HRE := Lib.hid hrE
  have HLLN := Lib.hid hll
  have HLO : Hid (base ≤ w1.heap.size ∧ rb < w1.heap.size ∧ ∀ g, CS.ownBlock = some g → g < w1.heap.size) := ⟨(h.under b1).base_le, heap_lt (h.under b1).box, fun g hg => by obtain ⟨vs, _, ho, _⟩ := (h.under b1).row; exact (ho.lt g hg).2⟩
  have HNE : Hid (w.heap.size ≠ rb ∧ CS.ownBlock ≠ some w.heap.size) := ⟨fun e => by have := heap_lt h.box; omega, fun e => by obtain ⟨vs, _, ho, _⟩ := h.row; have := (ho.lt _ e).2; omega⟩
  have HNF := Lib.hid (rfp_new h)
  have hws : ∀ j, wsum cs ((L.take j).map AW.hw) ≤ 256001 := fun j => by
    have h1 := wsum_le hg.most ((L.take j).map AW.hw)
    rw [List.length_map, List.length_take] at h1
    omega
  have HWS := Lib.hid hws
  clear b1 g1 h hg hR hrE hws
  go_enter Tryz.func29, Tryz.ntmps29
  go_wp2_with fail
  rw [← hw1]
  clear hw1
  refine (rparts_any 5 w1).mono ?_
  rintro e V1 ⟨rfl, hq⟩
  subst V1
  go_wp2_with fail
  go_loopw [9] (fun i wr => ∃ j : Nat, j ≤ L.length ∧ i = .int .i64 j ∧ Hid (∀ q ∈ L.take j, mayW cs.length q.c q.a q.x = true) ∧ Hid (Below w1.heap.size w1 wr)) (fun i _ => L.length - (intOf i).toNat)
  case atStart => exact ⟨0, Nat.zero_le _, rfl, by show ∀ q ∈ L.take 0, _; simp, Below.refl _ _⟩
  case round =>
    obtain ⟨j, hj, rfl, HQ, HB⟩ := hrel
    by_cases hlt : j < L.length
    · obtain ⟨y, hy⟩ : ∃ y, L[j]? = some y := ⟨L[j], List.getElem?_eq_getElem hlt⟩
      obtain ⟨ad, u, rfl, had, hE, hA⟩ := HR.out.at_ j y hy
      have hEr : ElemW wr ad j u := hE.keep (HB.out.block ad.block had)
      have hAr : AWAt (· < wr.heap.size) wr y u := hA.keep (fun b hb => HB.out.block b hb) (fun b hb => Nat.lt_of_lt_of_le hb HB.out.size)
      obtain ⟨RA, rcap, hRA⟩ := (HH.out.under HB.out).shape
      have hbox : wr.cell? ⟨rb, 0, none⟩ = some (.slice RA cs.length rcap) := by rw [← hRA]; exact cell_of_row (HH.out.under HB.out).box rfl
      have HMAY := Lib.hid (r4May_any y u wr hbox hAr)
      obtain ⟨c0, c1, c2, c3, c4, c5, c6, rfl, e0, e1, e2, e3, e4, e5, e6⟩ := hEr
      have HY := Lib.hid hy
      clear hE hA hAr hy hbox hRA
      go_wp2_with fail
      refine HMAY.out.mono ?_
      rintro e w2 ⟨rfl, b2⟩
      have HB2 := Lib.hid (HB.out.trans (b2.mono HB.out.size))
      clear b2 e0 e1 e2 e3 e4 e5 e6
      cases hm : mayW cs.length y.c y.a y.x
      · have hE0 : makeE cs L = 2 := by
          unfold makeE
          rw [if_neg]
          intro hall
          have := List.all_eq_true.1 hall y (List.mem_of_getElem? HY.out)
          rw [hm] at this
          exact absurd this (by decide)
        have HE0 := Lib.hid hE0
        clear hE0 hm
        have gB : w2.heap[w.heap.size]? = some (.cells #[(.bool false), (.int .i64 0), (.int .i8 0), (.int .i64 0), (.string ⟨#[]⟩), (.string ⟨#[]⟩), (.slice none 0 0)] 51 (0, 0)) := (HB2.out.block _ (heap_lt GB.out)).trans GB.out
        have SV := Lib.hid (set_seven (.bool false) (.int .i64 0) (.int .i8 0) (.int .i64 0) (.string ⟨#[]⟩) (.string ⟨#[]⟩) (.slice none 0 0) gB)
        have q0 := cell_of_row (i := 0) gB rfl
        have f0 := free_of_row (i := 0) gB
        have q1 := cell_of_row (i := 1) gB rfl
        have f1 := free_of_row (i := 1) gB
        have q2 := cell_of_row (i := 2) gB rfl
        have f2 := free_of_row (i := 2) gB
        have q3 := cell_of_row (i := 3) gB rfl
        have f3 := free_of_row (i := 3) gB
        have q4 := cell_of_row (i := 4) gB rfl
        have f4 := free_of_row (i := 4) gB
        have q5 := cell_of_row (i := 5) gB rfl
        have f5 := free_of_row (i := 5) gB
        have q6 := cell_of_row (i := 6) gB rfl
        have f6 := free_of_row (i := 6) gB
        clear gB
        go_wp2_with fail
        all_goals
          obtain ⟨s7, m7⟩ := SV.out
          generalize ((((((w2.setCell ⟨w.heap.size, 0, none⟩ (.bool false)).setCell ⟨w.heap.size, 1, none⟩ (.int .i64 0)).setCell ⟨w.heap.size, 2, none⟩ (.int .i8 0)).setCell ⟨w.heap.size, 3, none⟩ (.int .i64 0)).setCell ⟨w.heap.size, 4, none⟩ (.string ⟨#[]⟩)).setCell ⟨w.heap.size, 5, none⟩ (.string ⟨#[]⟩)).setCell ⟨w.heap.size, 6, none⟩ (.slice none 0 0) = VX at s7 m7 ⊢
          have y0 := cell_of_row (i := 0) s7 rfl
          have y1 := cell_of_row (i := 1) s7 rfl
          have y2 := cell_of_row (i := 2) s7 rfl
          have y3 := cell_of_row (i := 3) s7 rfl
          have y4 := cell_of_row (i := 4) s7 rfl
          have y5 := cell_of_row (i := 5) s7 rfl
          have y6 := cell_of_row (i := 6) s7 rfl
          refine bodyPost_ret (v := .tuple #[.agg #[.bool false, .int .i64 0, .int .i8 0, .int .i64 0, .string ⟨#[]⟩, .string ⟨#[]⟩, .slice none 0 0], .int .i64 2]) (by simp [results, Tryz.f29, go_sem, y0, y1, y2, y3, y4, y5, y6]) rfl ?_
          exact .inl ⟨by rw [HRE.out, HE0.out]; decide, by rw [HRE.out, HE0.out]; rfl, (HB1.out.trans (HB2.out.mono HB1.out.size)).trans (m7.below (HB1.out.trans (HB2.out.mono HB1.out.size)).size (fun k (e : k = w.heap.size) => by omega))⟩
      · have HM := Lib.hid hm
        clear hm
        go_wp2_with fail
        go_roundw
        case rel =>
          refine ⟨j + 1, by omega, by go_num, ?_, HB2⟩
          intro q hq
          rw [List.take_add_one, HY.out] at hq
          simp at hq
          rcases hq with hq | rfl
          · exact HQ.out q hq
          · exact HM.out
        case measure => simp [intOf]; omega
    · obtain rfl : j = L.length := by omega
      have hall : ∀ q ∈ L, mayW cs.length q.c q.a q.x = true := by
        have := HQ.out
        rwa [List.take_of_length_le (Nat.le_refl _)] at this
      have HALL := Lib.hid hall
      clear hall HQ
      go_wp2_with fail
      go_loopw [8, 10] (fun nv i wr => ∃ j : Nat, j ≤ L.length ∧ i = .int .i64 j ∧ nv = .int .i64 ((wsum cs ((L.take j).map AW.hw) : Nat) : Int) ∧ Hid (Below w1.heap.size w1 wr)) (fun _ i _ => L.length - (intOf i).toNat)
      case atStart => exact ⟨0, Nat.zero_le _, rfl, rfl, HB⟩
      case round =>
        clear HB
        obtain ⟨j, hj, rfl, rfl, HB⟩ := hrel
        obtain ⟨S, hS⟩ : ∃ S, S = wsum cs ((L.take j).map AW.hw) := ⟨_, rfl⟩
        have hSb := HWS.out j
        rw [← hS] at hSb ⊢
        have HSS := Lib.hid hS
        clear hS
        by_cases hlt : j < L.length ∧ S ≤ 256
        · obtain ⟨hlt, hs256⟩ := hlt
          obtain ⟨y, hy⟩ : ∃ y, L[j]? = some y := ⟨L[j], List.getElem?_eq_getElem hlt⟩
          obtain ⟨ad, u, rfl, had, hE, hA⟩ := HR.out.at_ j y hy
          have hEr : ElemW wr ad j u := hE.keep (HB.out.block ad.block had)
          have HSZ := Lib.hid (r4size_any wr (HH.out.under HB.out) y u (by obtain ⟨k', n', s', t', A', l', c', e, -⟩ := hA; exact ⟨_, _, _, _, _, e⟩) (HALL.out y (List.mem_of_getElem? hy)))
          obtain ⟨c0, c1, c2, c3, c4, c5, c6, rfl, e0, e1, e2, e3, e4, e5, e6⟩ := hEr
          have hnext : wsum cs ((L.take (j + 1)).map AW.hw) = S + wsize cs y.hw := by
            rw [HSS.out, List.map_take, List.map_take]
            exact wsum_take_succ (by rw [List.getElem?_map, hy]; rfl)
          have hNb := HWS.out (j + 1)
          rw [hnext] at hNb
          obtain ⟨Y, hY⟩ : ∃ Y, Y = wsize cs y.hw := ⟨_, rfl⟩
          rw [← hY] at hNb hnext
          have HSZ' : Hid _ := HSZ
          have HNX := Lib.hid hnext
          have HYY := Lib.hid hY
          clear hE hA hy hnext hY
          go_wp2_with fail
          refine HSZ.out.mono ?_
          rintro e w2 ⟨rfl, b2⟩
          rw [← HYY.out]
          have HB2 := Lib.hid (HB.out.trans (b2.mono HB.out.size))
          clear b2 e0 e1 e2 e3 e4 e5 e6
          go_wp2_with fail
          go_roundw
          case rel => exact ⟨j + 1, by omega, by go_num, by rw [HNX.out]; go_num, HB2⟩
          case measure => simp [intOf]; omega
        · by_cases h256 : 256 < S
          · have hE0 : makeE cs L = 11 := by
              have hle : S ≤ wsum cs (L.map AW.hw) := by
                rw [HSS.out]
                have := wsum_append cs ((L.take j).map AW.hw) ((L.drop j).map AW.hw)
                rw [← List.map_append, List.take_append_drop] at this
                have h1 : 1 ≤ wsum cs ((L.drop j).map AW.hw) := by have := wsum_ge HG.out ((L.drop j).map AW.hw); omega
                omega
              unfold makeE
              rw [if_pos (List.all_eq_true.2 HALL.out), if_pos (by omega)]
            have HE0 := Lib.hid hE0
            have HBx := HB
            clear hE0
            have gB : wr.heap[w.heap.size]? = some (.cells #[(.bool false), (.int .i64 0), (.int .i8 0), (.int .i64 0), (.string ⟨#[]⟩), (.string ⟨#[]⟩), (.slice none 0 0)] 51 (0, 0)) := (HB.out.block _ (heap_lt GB.out)).trans GB.out
            have SV := Lib.hid (set_seven (.bool false) (.int .i64 0) (.int .i8 0) (.int .i64 0) (.string ⟨#[]⟩) (.string ⟨#[]⟩) (.slice none 0 0) gB)
            have q0 := cell_of_row (i := 0) gB rfl
            have f0 := free_of_row (i := 0) gB
            have q1 := cell_of_row (i := 1) gB rfl
            have f1 := free_of_row (i := 1) gB
            have q2 := cell_of_row (i := 2) gB rfl
            have f2 := free_of_row (i := 2) gB
            have q3 := cell_of_row (i := 3) gB rfl
            have f3 := free_of_row (i := 3) gB
            have q4 := cell_of_row (i := 4) gB rfl
            have f4 := free_of_row (i := 4) gB
            have q5 := cell_of_row (i := 5) gB rfl
            have f5 := free_of_row (i := 5) gB
            have q6 := cell_of_row (i := 6) gB rfl
            have f6 := free_of_row (i := 6) gB
            clear gB
            go_wp2_with fail
            all_goals
              obtain ⟨s7, m7⟩ := SV.out
              generalize ((((((wr.setCell ⟨w.heap.size, 0, none⟩ (.bool false)).setCell ⟨w.heap.size, 1, none⟩ (.int .i64 0)).setCell ⟨w.heap.size, 2, none⟩ (.int .i8 0)).setCell ⟨w.heap.size, 3, none⟩ (.int .i64 0)).setCell ⟨w.heap.size, 4, none⟩ (.string ⟨#[]⟩)).setCell ⟨w.heap.size, 5, none⟩ (.string ⟨#[]⟩)).setCell ⟨w.heap.size, 6, none⟩ (.slice none 0 0) = VX at s7 m7 ⊢
              have y0 := cell_of_row (i := 0) s7 rfl
              have y1 := cell_of_row (i := 1) s7 rfl
              have y2 := cell_of_row (i := 2) s7 rfl
              have y3 := cell_of_row (i := 3) s7 rfl
              have y4 := cell_of_row (i := 4) s7 rfl
              have y5 := cell_of_row (i := 5) s7 rfl
              have y6 := cell_of_row (i := 6) s7 rfl
              refine bodyPost_ret (v := .tuple #[.agg #[.bool false, .int .i64 0, .int .i8 0, .int .i64 0, .string ⟨#[]⟩, .string ⟨#[]⟩, .slice none 0 0], .int .i64 11]) (by simp [results, Tryz.f29, go_sem, y0, y1, y2, y3, y4, y5, y6]) rfl ?_
              exact .inl ⟨by rw [HRE.out, HE0.out]; decide, by rw [HRE.out, HE0.out]; rfl, (HB1.out.trans (HB.out.mono HB1.out.size)).trans (m7.below (HB1.out.trans (HB.out.mono HB1.out.size)).size (fun k (e : k = w.heap.size) => by omega))⟩
          · obtain rfl : j = L.length := by omega
            have hsum : S = wsum cs (L.map AW.hw) := by rw [HSS.out, List.take_length]
            obtain ⟨RA, rcap, hRA⟩ := HH.out.shape
            have hbox : wr.cell? ⟨rb, 0, none⟩ = some (.slice RA cs.length rcap) := by rw [← hRA]; exact cell_of_row (HH.out.under HB.out).box rfl
            have hcl := HG.out.len
            by_cases hful : cs.length < 1048576
            · have hE0 : makeE cs L = 0 := by
                unfold makeE
                rw [if_pos (List.all_eq_true.2 HALL.out), if_neg (by omega), if_neg (by omega)]
              have HE0 := Lib.hid hE0
              have HSUM := Lib.hid hsum
              have HLT : Hid (cs.length + 1 ≤ 2000000) := by show _ ≤ _; omega
              have h20' : decide ((1048576 : Int) ≤ ((cs.length : Nat) : Int)) = false := by rw [decide_eq_false_iff_not]; omega
              have h20'' : ¬ ((1048576 : Int) ≤ ((cs.length : Nat) : Int)) := by omega
              have hSl : ¬ (256 < S) := h256
              clear hE0 hsum hful hcl
              go_upto_region 17 with fail
              clear hbox hRA h20' h20''
              go_cut [] (fun wx => Cut4P base rb cs CS G 5 S L w w1 wx)
              case first =>
                refine wp_region_held (S := fun _ => True) (by kernel_rfl) ?_
                show wpAnyH _ _ _ _ _ _ _ _ wr.drew
                have hdr : Below wr.heap.size wr wr.drew := ⟨rfl, rfl, rfl, Nat.le_refl _, fun _ _ => rfl⟩
                have hb := HB.out.trans (hdr.mono HB.out.size)
                have hh := HH.out.under hb
                have hwr := HR.out.later hb
                generalize wr.drew = D at hb hh hwr ⊢
                clear hdr
                have hT : True := trivial
                refine wpAnyH_take (i := 0) (oi := ⟨some 66, _, _, _, _, _⟩) (v := ?_) rfl (by kernel_rfl) (by kernel_rfl) (by kernel_rfl) (fun _ _ _ h => h) (Or.inl ⟨by kernel_rfl, ?_⟩) (by assumption) ?_; rotate_left; (intro X hX; go_simp; first | done | with_reducible rfl); (try simp only [Act.put, sI, sZ, sS])
                refine wpAnyH_take (i := 1) (oi := ⟨some 67, _, _, _, _, _⟩) (v := ?_) rfl (by kernel_rfl) (by kernel_rfl) (by kernel_rfl) (fun _ _ _ h => h) (Or.inl ⟨by kernel_rfl, ?_⟩) (by assumption) ?_; rotate_left; (intro X hX; go_simp; first | done | with_reducible rfl); (try simp only [Act.put, sI, sZ, sS])
                refine wpAnyH_take (i := 2) (oi := ⟨some 68, _, _, _, _, _⟩) (v := ?_) rfl (by kernel_rfl) (by kernel_rfl) (by kernel_rfl) (fun _ _ _ h => h) (Or.inl ⟨by kernel_rfl, ?_⟩) (by assumption) ?_; rotate_left; (intro X hX; go_simp; first | done | with_reducible rfl); (try simp only [Act.put, sI, sZ, sS])
                refine wpAnyH_take (i := 3) (oi := ⟨some 69, _, _, _, _, _⟩) (v := ?_) rfl (by kernel_rfl) (by kernel_rfl) (by kernel_rfl) (fun _ _ _ h => h) (Or.inl ⟨by kernel_rfl, ?_⟩) (by assumption) ?_; rotate_left; (intro X hX; go_simp; first | done | with_reducible rfl); (try simp only [Act.put, sI, sZ, sS])
                refine wpAnyH_take (i := 5) (oi := ⟨some 71, _, _, _, _, _⟩) (v := ?_) rfl (by kernel_rfl) (by kernel_rfl) (by kernel_rfl) (fun _ _ _ h => h) (Or.inl ⟨by kernel_rfl, ?_⟩) (by assumption) ?_; rotate_left; (intro X hX; go_simp; first | done | with_reducible rfl); (try simp only [Act.put, sI, sZ, sS])
                refine wpAnyH_take (i := 6) (oi := ⟨some 72, _, _, _, _, _⟩) (v := ?_) rfl (by kernel_rfl) (by kernel_rfl) (by kernel_rfl) (fun _ _ _ h => h) (Or.inl ⟨by kernel_rfl, ?_⟩) (by assumption) ?_; rotate_left; (intro X hX; go_simp; first | done | with_reducible rfl); (try simp only [Act.put, sI, sZ, sS])
                refine wpAnyH_take (i := 8) (oi := ⟨some 74, _, _, _, _, _⟩) (v := ?_) rfl (by kernel_rfl) (by kernel_rfl) (by kernel_rfl) (fun _ _ _ h => h) (Or.inl ⟨by kernel_rfl, ?_⟩) (by assumption) ?_; rotate_left; (intro X hX; go_simp; first | done | with_reducible rfl); (try simp only [Act.put, sI, sZ, sS])
                refine wpAnyH_ready (rs := [4, 7]) (by kernel_rfl) (by simp) ?_
                refine AllReadyH.cons (o := ⟨some 70, _, _, _, _, _⟩) rfl (fun K hK => ?_) (AllReadyH.cons (o := ⟨some 73, _, _, _, _, _⟩) rfl (fun K hK => ?_) AllReadyH.nil)
                · rw [if_pos (by rfl)]
                  have z0 : D.cell? ⟨rb, 0, none⟩ = some CS := cell_of_row hh.box rfl
                  go_simp
                  refine hK.out _ _ trivial (fun _ => ?_)
                  clear hK K z0; (try simp only [Act.put, sI, sZ, sS])
                  refine wpAnyH_ready (rs := [7]) (by kernel_rfl) (by simp) ?_
                  refine AllReadyH.cons (o := ⟨some 73, _, _, _, _, _⟩) rfl (fun K hK => ?_) AllReadyH.nil
                  rw [if_pos (by rfl)]
                  go_simp
                  refine hK.out _ _ trivial (fun _ => ?_)
                  clear hK K; (try simp only [Act.put, sI, sZ, sS])
                  have bx : Below D.heap.size D (D.alloc (.cells #[] 51)) := (Below.refl _ _).alloc (Nat.le_refl _) _
                  have g7h := block_alloc D (.cells #[] 51)
                  have hnf : ¬ RFP rb CS G D.heap.size := rfp_new hh
                  have hl7 := hb.size
                  obtain ⟨g7, hg7⟩ : ∃ g, g = D.heap.size := ⟨_, rfl⟩
                  rw [← hg7] at g7h hnf hl7 ⊢
                  clear hg7
                  generalize D.alloc (.cells #[] 51) = X7 at bx g7h ⊢
                  replace hh := hh.under bx
                  replace hb := hb.trans (bx.mono hb.size)
                  replace hwr := hwr.later bx
                  clear bx
                  refine wpAnyH_ready (rs := [9]) (by kernel_rfl) (by simp) ?_
                  refine AllReadyH.cons (o := ⟨some 75, _, _, _, _, _⟩) rfl (fun K hK => ?_) AllReadyH.nil
                  rw [if_pos (by rfl)]
                  refine wp_copy_parts (.tmp 73) (.tmp 74) rfl g7 g7h rfl rfl hwr HALL.out HLLN.out hl7 ?_
                  intro A9 cap9 X9 m9 h9
                  refine hK.out _ _ trivial (fun _ => ?_)
                  clear hK K g7h hwr; (try simp only [Act.put, sI, sZ, sS])
                  replace hh := hh.mods m9 (fun k _ e => by subst e; exact hnf)
                  replace hb := hb.trans (m9.below hb.size (fun k e => by subst e; exact hl7))
                  clear m9 hnf hl7
                  refine wpAnyH_take (i := 10) (oi := ⟨some 76, _, _, _, _, _⟩) (v := ?_) rfl (by kernel_rfl) (by kernel_rfl) (by kernel_rfl) (fun _ _ _ h => h) (Or.inl ⟨by kernel_rfl, ?_⟩) (by assumption) ?_; rotate_left; (intro X hX; go_simp; first | done | with_reducible rfl); (try simp only [Act.put, sI, sZ, sS])
                  refine wpAnyH_ready (rs := [11]) (by kernel_rfl) (by simp) ?_
                  refine AllReadyH.cons (o := ⟨some 77, _, _, _, _, _⟩) rfl (fun K hK => ?_) AllReadyH.nil
                  rw [if_pos (by rfl)]
                  go_simp
                  refine hK.out _ _ trivial (fun _ => ?_)
                  clear hK K; (try simp only [Act.put, sI, sZ, sS])
                  have bx : Below X9.heap.size X9 (X9.alloc (.cells #[.int .i8 5, .int .i64 S, .slice A9 L.length cap9] 62)) := (Below.refl _ _).alloc (Nat.le_refl _) _
                  have g11h := block_alloc X9 (.cells #[.int .i8 5, .int .i64 S, .slice A9 L.length cap9] 62)
                  obtain ⟨g11, hg11⟩ : ∃ g, g = X9.heap.size := ⟨_, rfl⟩
                  rw [← hg11] at g11h ⊢
                  clear hg11
                  generalize X9.alloc (.cells #[.int .i8 5, .int .i64 S, .slice A9 L.length cap9] 62) = X11 at bx g11h ⊢
                  replace hh := hh.under bx
                  replace hb := hb.trans (bx.mono hb.size)
                  replace h9 := fun hL => part_under (h9 hL) bx
                  clear bx
                  refine wpAnyH_ready (rs := [12]) (by kernel_rfl) (by simp) ?_
                  refine AllReadyH.cons (o := ⟨some 78, _, _, _, _, _⟩) rfl (fun K hK => ?_) AllReadyH.nil
                  rw [if_pos (by rfl)]
                  obtain ⟨vs, hvl, hvo, hvp⟩ := hh.row
                  refine wp_own_cell (.tmp 70) (.tmp 77) rfl hvo hh.base_le rfl g11 rfl g11h HLT.out ?_
                  intro v12 X12 ho12 hg12 hl12
                  obtain ⟨A12, cap12, rfl⟩ : ∃ A12 cap12, v12 = Value.slice A12 (cs.length + 1) cap12 := by
                    rcases ho12.2 with ⟨_, hn⟩ | ⟨g', cap', cur', e, _⟩
                    · omega
                    · exact ⟨_, _, e⟩
                  refine hK.out _ _ trivial (fun _ => ?_)
                  clear hK K g11h; (try simp only [Act.put, sI, sZ, sS])
                  have HP12 := Lib.hid (rat_push hh hvl hvo HLO.out.1 HLO.out.2.1 HLO.out.2.2 h9 ho12 hg12 hl12)
                  have HB12 := Lib.hid (And.intro hb (And.intro hl12 hh.base_le))
                  clear hvo hvp hvl ho12 h9 hh hb hg12 hl12
                  refine wpAnyH_take (i := 13) (oi := ⟨some 79, _, _, _, _, _⟩) (v := ?_) rfl (by kernel_rfl) (by kernel_rfl) (by kernel_rfl) (fun _ _ _ h => h) (Or.inl ⟨by kernel_rfl, ?_⟩) (by assumption) ?_; rotate_left; (intro X hX; go_simp; first | done | with_reducible rfl); (try simp only [Act.put, sI, sZ, sS])
                  refine wpAnyH_take (i := 14) (oi := ⟨some 80, _, _, _, _, _⟩) (v := ?_) rfl (by kernel_rfl) (by kernel_rfl) (by kernel_rfl) (fun _ _ _ h => h) (Or.inl ⟨by kernel_rfl, ?_⟩) (by assumption) ?_; rotate_left; (intro X hX; go_simp; first | done | with_reducible rfl); (try simp only [Act.put, sI, sZ, sS])
                  refine wpAnyH_ready (rs := [15]) (by kernel_rfl) (by simp) ?_
                  refine AllReadyH.cons (o := ⟨none, _, _, _, _, _⟩) rfl (fun K hK => ?_) AllReadyH.nil
                  rw [if_pos (by rfl)]
                  have z0 : X12.cell? ⟨rb, 0, none⟩ = some CS := cell_of_row HP12.out.1 rfl
                  have zf0 : X12.frozen? ⟨rb, 0, none⟩ = false := free_of_row HP12.out.1
                  go_simp
                  refine hK.out _ _ trivial (fun _ => ?_)
                  clear hK K z0 zf0; (try simp only [Act.put, sI, sZ, sS])
                  refine wpAnyH_done (by kernel_rfl) ?_ _
                  obtain ⟨hx1, hx2, hx3⟩ := HP12.out
                  obtain ⟨hbx, hlx, hbl⟩ := HB12.out
                  have hfin := cut_end (w0 := w) HLO.out.2.1 HLO.out.2.2 hx2 hx3 hbx hlx GB.out (heap_lt GB.out) HNE.out.1 HNE.out.2
                  clear hx1 hx2 hx3 hbx hlx hbl
                  have HFIN := Lib.hid hfin
                  clear hfin
                  go_wp2_with fail
                  go_meet
                  exact HFIN.out

                · rw [if_pos (by rfl)]
                  go_simp
                  refine hK.out _ _ trivial (fun _ => ?_)
                  clear hK K; (try simp only [Act.put, sI, sZ, sS])
                  have bx : Below D.heap.size D (D.alloc (.cells #[] 51)) := (Below.refl _ _).alloc (Nat.le_refl _) _
                  have g7h := block_alloc D (.cells #[] 51)
                  have hnf : ¬ RFP rb CS G D.heap.size := rfp_new hh
                  have hl7 := hb.size
                  obtain ⟨g7, hg7⟩ : ∃ g, g = D.heap.size := ⟨_, rfl⟩
                  rw [← hg7] at g7h hnf hl7 ⊢
                  clear hg7
                  generalize D.alloc (.cells #[] 51) = X7 at bx g7h ⊢
                  replace hh := hh.under bx
                  replace hb := hb.trans (bx.mono hb.size)
                  replace hwr := hwr.later bx
                  clear bx
                  refine wpAnyH_ready (rs := [4, 9]) (by kernel_rfl) (by simp) ?_
                  refine AllReadyH.cons (o := ⟨some 70, _, _, _, _, _⟩) rfl (fun K hK => ?_) (AllReadyH.cons (o := ⟨some 75, _, _, _, _, _⟩) rfl (fun K hK => ?_) AllReadyH.nil)
                  · rw [if_pos (by rfl)]
                    have z0 : X7.cell? ⟨rb, 0, none⟩ = some CS := cell_of_row hh.box rfl
                    go_simp
                    refine hK.out _ _ trivial (fun _ => ?_)
                    clear hK K z0; (try simp only [Act.put, sI, sZ, sS])
                    refine wpAnyH_ready (rs := [9]) (by kernel_rfl) (by simp) ?_
                    refine AllReadyH.cons (o := ⟨some 75, _, _, _, _, _⟩) rfl (fun K hK => ?_) AllReadyH.nil
                    rw [if_pos (by rfl)]
                    refine wp_copy_parts (.tmp 73) (.tmp 74) rfl g7 g7h rfl rfl hwr HALL.out HLLN.out hl7 ?_
                    intro A9 cap9 X9 m9 h9
                    refine hK.out _ _ trivial (fun _ => ?_)
                    clear hK K g7h hwr; (try simp only [Act.put, sI, sZ, sS])
                    replace hh := hh.mods m9 (fun k _ e => by subst e; exact hnf)
                    replace hb := hb.trans (m9.below hb.size (fun k e => by subst e; exact hl7))
                    clear m9 hnf hl7
                    refine wpAnyH_take (i := 10) (oi := ⟨some 76, _, _, _, _, _⟩) (v := ?_) rfl (by kernel_rfl) (by kernel_rfl) (by kernel_rfl) (fun _ _ _ h => h) (Or.inl ⟨by kernel_rfl, ?_⟩) (by assumption) ?_; rotate_left; (intro X hX; go_simp; first | done | with_reducible rfl); (try simp only [Act.put, sI, sZ, sS])
                    refine wpAnyH_ready (rs := [11]) (by kernel_rfl) (by simp) ?_
                    refine AllReadyH.cons (o := ⟨some 77, _, _, _, _, _⟩) rfl (fun K hK => ?_) AllReadyH.nil
                    rw [if_pos (by rfl)]
                    go_simp
                    refine hK.out _ _ trivial (fun _ => ?_)
                    clear hK K; (try simp only [Act.put, sI, sZ, sS])
                    have bx : Below X9.heap.size X9 (X9.alloc (.cells #[.int .i8 5, .int .i64 S, .slice A9 L.length cap9] 62)) := (Below.refl _ _).alloc (Nat.le_refl _) _
                    have g11h := block_alloc X9 (.cells #[.int .i8 5, .int .i64 S, .slice A9 L.length cap9] 62)
                    obtain ⟨g11, hg11⟩ : ∃ g, g = X9.heap.size := ⟨_, rfl⟩
                    rw [← hg11] at g11h ⊢
                    clear hg11
                    generalize X9.alloc (.cells #[.int .i8 5, .int .i64 S, .slice A9 L.length cap9] 62) = X11 at bx g11h ⊢
                    replace hh := hh.under bx
                    replace hb := hb.trans (bx.mono hb.size)
                    replace h9 := fun hL => part_under (h9 hL) bx
                    clear bx
                    refine wpAnyH_ready (rs := [12]) (by kernel_rfl) (by simp) ?_
                    refine AllReadyH.cons (o := ⟨some 78, _, _, _, _, _⟩) rfl (fun K hK => ?_) AllReadyH.nil
                    rw [if_pos (by rfl)]
                    obtain ⟨vs, hvl, hvo, hvp⟩ := hh.row
                    refine wp_own_cell (.tmp 70) (.tmp 77) rfl hvo hh.base_le rfl g11 rfl g11h HLT.out ?_
                    intro v12 X12 ho12 hg12 hl12
                    obtain ⟨A12, cap12, rfl⟩ : ∃ A12 cap12, v12 = Value.slice A12 (cs.length + 1) cap12 := by
                      rcases ho12.2 with ⟨_, hn⟩ | ⟨g', cap', cur', e, _⟩
                      · omega
                      · exact ⟨_, _, e⟩
                    refine hK.out _ _ trivial (fun _ => ?_)
                    clear hK K g11h; (try simp only [Act.put, sI, sZ, sS])
                    have HP12 := Lib.hid (rat_push hh hvl hvo HLO.out.1 HLO.out.2.1 HLO.out.2.2 h9 ho12 hg12 hl12)
                    have HB12 := Lib.hid (And.intro hb (And.intro hl12 hh.base_le))
                    clear hvo hvp hvl ho12 h9 hh hb hg12 hl12
                    refine wpAnyH_take (i := 13) (oi := ⟨some 79, _, _, _, _, _⟩) (v := ?_) rfl (by kernel_rfl) (by kernel_rfl) (by kernel_rfl) (fun _ _ _ h => h) (Or.inl ⟨by kernel_rfl, ?_⟩) (by assumption) ?_; rotate_left; (intro X hX; go_simp; first | done | with_reducible rfl); (try simp only [Act.put, sI, sZ, sS])
                    refine wpAnyH_take (i := 14) (oi := ⟨some 80, _, _, _, _, _⟩) (v := ?_) rfl (by kernel_rfl) (by kernel_rfl) (by kernel_rfl) (fun _ _ _ h => h) (Or.inl ⟨by kernel_rfl, ?_⟩) (by assumption) ?_; rotate_left; (intro X hX; go_simp; first | done | with_reducible rfl); (try simp only [Act.put, sI, sZ, sS])
                    refine wpAnyH_ready (rs := [15]) (by kernel_rfl) (by simp) ?_
                    refine AllReadyH.cons (o := ⟨none, _, _, _, _, _⟩) rfl (fun K hK => ?_) AllReadyH.nil
                    rw [if_pos (by rfl)]
                    have z0 : X12.cell? ⟨rb, 0, none⟩ = some CS := cell_of_row HP12.out.1 rfl
                    have zf0 : X12.frozen? ⟨rb, 0, none⟩ = false := free_of_row HP12.out.1
                    go_simp
                    refine hK.out _ _ trivial (fun _ => ?_)
                    clear hK K z0 zf0; (try simp only [Act.put, sI, sZ, sS])
                    refine wpAnyH_done (by kernel_rfl) ?_ _
                    obtain ⟨hx1, hx2, hx3⟩ := HP12.out
                    obtain ⟨hbx, hlx, hbl⟩ := HB12.out
                    have hfin := cut_end (w0 := w) HLO.out.2.1 HLO.out.2.2 hx2 hx3 hbx hlx GB.out (heap_lt GB.out) HNE.out.1 HNE.out.2
                    clear hx1 hx2 hx3 hbx hlx hbl
                    have HFIN := Lib.hid hfin
                    clear hfin
                    go_wp2_with fail
                    go_meet
                    exact HFIN.out

                  · rw [if_pos (by rfl)]
                    refine wp_copy_parts (.tmp 73) (.tmp 74) rfl g7 g7h rfl rfl hwr HALL.out HLLN.out hl7 ?_
                    intro A9 cap9 X9 m9 h9
                    refine hK.out _ _ trivial (fun _ => ?_)
                    clear hK K g7h hwr; (try simp only [Act.put, sI, sZ, sS])
                    replace hh := hh.mods m9 (fun k _ e => by subst e; exact hnf)
                    replace hb := hb.trans (m9.below hb.size (fun k e => by subst e; exact hl7))
                    clear m9 hnf hl7
                    refine wpAnyH_take (i := 10) (oi := ⟨some 76, _, _, _, _, _⟩) (v := ?_) rfl (by kernel_rfl) (by kernel_rfl) (by kernel_rfl) (fun _ _ _ h => h) (Or.inl ⟨by kernel_rfl, ?_⟩) (by assumption) ?_; rotate_left; (intro X hX; go_simp; first | done | with_reducible rfl); (try simp only [Act.put, sI, sZ, sS])
                    refine wpAnyH_ready (rs := [4, 11]) (by kernel_rfl) (by simp) ?_
                    refine AllReadyH.cons (o := ⟨some 70, _, _, _, _, _⟩) rfl (fun K hK => ?_) (AllReadyH.cons (o := ⟨some 77, _, _, _, _, _⟩) rfl (fun K hK => ?_) AllReadyH.nil)
                    · rw [if_pos (by rfl)]
                      have z0 : X9.cell? ⟨rb, 0, none⟩ = some CS := cell_of_row hh.box rfl
                      go_simp
                      refine hK.out _ _ trivial (fun _ => ?_)
                      clear hK K z0; (try simp only [Act.put, sI, sZ, sS])
                      refine wpAnyH_ready (rs := [11]) (by kernel_rfl) (by simp) ?_
                      refine AllReadyH.cons (o := ⟨some 77, _, _, _, _, _⟩) rfl (fun K hK => ?_) AllReadyH.nil
                      rw [if_pos (by rfl)]
                      go_simp
                      refine hK.out _ _ trivial (fun _ => ?_)
                      clear hK K; (try simp only [Act.put, sI, sZ, sS])
                      have bx : Below X9.heap.size X9 (X9.alloc (.cells #[.int .i8 5, .int .i64 S, .slice A9 L.length cap9] 62)) := (Below.refl _ _).alloc (Nat.le_refl _) _
                      have g11h := block_alloc X9 (.cells #[.int .i8 5, .int .i64 S, .slice A9 L.length cap9] 62)
                      obtain ⟨g11, hg11⟩ : ∃ g, g = X9.heap.size := ⟨_, rfl⟩
                      rw [← hg11] at g11h ⊢
                      clear hg11
                      generalize X9.alloc (.cells #[.int .i8 5, .int .i64 S, .slice A9 L.length cap9] 62) = X11 at bx g11h ⊢
                      replace hh := hh.under bx
                      replace hb := hb.trans (bx.mono hb.size)
                      replace h9 := fun hL => part_under (h9 hL) bx
                      clear bx
                      refine wpAnyH_ready (rs := [12]) (by kernel_rfl) (by simp) ?_
                      refine AllReadyH.cons (o := ⟨some 78, _, _, _, _, _⟩) rfl (fun K hK => ?_) AllReadyH.nil
                      rw [if_pos (by rfl)]
                      obtain ⟨vs, hvl, hvo, hvp⟩ := hh.row
                      refine wp_own_cell (.tmp 70) (.tmp 77) rfl hvo hh.base_le rfl g11 rfl g11h HLT.out ?_
                      intro v12 X12 ho12 hg12 hl12
                      obtain ⟨A12, cap12, rfl⟩ : ∃ A12 cap12, v12 = Value.slice A12 (cs.length + 1) cap12 := by
                        rcases ho12.2 with ⟨_, hn⟩ | ⟨g', cap', cur', e, _⟩
                        · omega
                        · exact ⟨_, _, e⟩
                      refine hK.out _ _ trivial (fun _ => ?_)
                      clear hK K g11h; (try simp only [Act.put, sI, sZ, sS])
                      have HP12 := Lib.hid (rat_push hh hvl hvo HLO.out.1 HLO.out.2.1 HLO.out.2.2 h9 ho12 hg12 hl12)
                      have HB12 := Lib.hid (And.intro hb (And.intro hl12 hh.base_le))
                      clear hvo hvp hvl ho12 h9 hh hb hg12 hl12
                      refine wpAnyH_take (i := 13) (oi := ⟨some 79, _, _, _, _, _⟩) (v := ?_) rfl (by kernel_rfl) (by kernel_rfl) (by kernel_rfl) (fun _ _ _ h => h) (Or.inl ⟨by kernel_rfl, ?_⟩) (by assumption) ?_; rotate_left; (intro X hX; go_simp; first | done | with_reducible rfl); (try simp only [Act.put, sI, sZ, sS])
                      refine wpAnyH_take (i := 14) (oi := ⟨some 80, _, _, _, _, _⟩) (v := ?_) rfl (by kernel_rfl) (by kernel_rfl) (by kernel_rfl) (fun _ _ _ h => h) (Or.inl ⟨by kernel_rfl, ?_⟩) (by assumption) ?_; rotate_left; (intro X hX; go_simp; first | done | with_reducible rfl); (try simp only [Act.put, sI, sZ, sS])
                      refine wpAnyH_ready (rs := [15]) (by kernel_rfl) (by simp) ?_
                      refine AllReadyH.cons (o := ⟨none, _, _, _, _, _⟩) rfl (fun K hK => ?_) AllReadyH.nil
                      rw [if_pos (by rfl)]
                      have z0 : X12.cell? ⟨rb, 0, none⟩ = some CS := cell_of_row HP12.out.1 rfl
                      have zf0 : X12.frozen? ⟨rb, 0, none⟩ = false := free_of_row HP12.out.1
                      go_simp
                      refine hK.out _ _ trivial (fun _ => ?_)
                      clear hK K z0 zf0; (try simp only [Act.put, sI, sZ, sS])
                      refine wpAnyH_done (by kernel_rfl) ?_ _
                      obtain ⟨hx1, hx2, hx3⟩ := HP12.out
                      obtain ⟨hbx, hlx, hbl⟩ := HB12.out
                      have hfin := cut_end (w0 := w) HLO.out.2.1 HLO.out.2.2 hx2 hx3 hbx hlx GB.out (heap_lt GB.out) HNE.out.1 HNE.out.2
                      clear hx1 hx2 hx3 hbx hlx hbl
                      have HFIN := Lib.hid hfin
                      clear hfin
                      go_wp2_with fail
                      go_meet
                      exact HFIN.out

                    · rw [if_pos (by rfl)]
                      go_simp
                      refine hK.out _ _ trivial (fun _ => ?_)
                      clear hK K; (try simp only [Act.put, sI, sZ, sS])
                      have bx : Below X9.heap.size X9 (X9.alloc (.cells #[.int .i8 5, .int .i64 S, .slice A9 L.length cap9] 62)) := (Below.refl _ _).alloc (Nat.le_refl _) _
                      have g11h := block_alloc X9 (.cells #[.int .i8 5, .int .i64 S, .slice A9 L.length cap9] 62)
                      obtain ⟨g11, hg11⟩ : ∃ g, g = X9.heap.size := ⟨_, rfl⟩
                      rw [← hg11] at g11h ⊢
                      clear hg11
                      generalize X9.alloc (.cells #[.int .i8 5, .int .i64 S, .slice A9 L.length cap9] 62) = X11 at bx g11h ⊢
                      replace hh := hh.under bx
                      replace hb := hb.trans (bx.mono hb.size)
                      replace h9 := fun hL => part_under (h9 hL) bx
                      clear bx
                      refine wpAnyH_ready (rs := [4]) (by kernel_rfl) (by simp) ?_
                      refine AllReadyH.cons (o := ⟨some 70, _, _, _, _, _⟩) rfl (fun K hK => ?_) AllReadyH.nil
                      rw [if_pos (by rfl)]
                      have z0 : X11.cell? ⟨rb, 0, none⟩ = some CS := cell_of_row hh.box rfl
                      go_simp
                      refine hK.out _ _ trivial (fun _ => ?_)
                      clear hK K z0; (try simp only [Act.put, sI, sZ, sS])
                      refine wpAnyH_ready (rs := [12]) (by kernel_rfl) (by simp) ?_
                      refine AllReadyH.cons (o := ⟨some 78, _, _, _, _, _⟩) rfl (fun K hK => ?_) AllReadyH.nil
                      rw [if_pos (by rfl)]
                      obtain ⟨vs, hvl, hvo, hvp⟩ := hh.row
                      refine wp_own_cell (.tmp 70) (.tmp 77) rfl hvo hh.base_le rfl g11 rfl g11h HLT.out ?_
                      intro v12 X12 ho12 hg12 hl12
                      obtain ⟨A12, cap12, rfl⟩ : ∃ A12 cap12, v12 = Value.slice A12 (cs.length + 1) cap12 := by
                        rcases ho12.2 with ⟨_, hn⟩ | ⟨g', cap', cur', e, _⟩
                        · omega
                        · exact ⟨_, _, e⟩
                      refine hK.out _ _ trivial (fun _ => ?_)
                      clear hK K g11h; (try simp only [Act.put, sI, sZ, sS])
                      have HP12 := Lib.hid (rat_push hh hvl hvo HLO.out.1 HLO.out.2.1 HLO.out.2.2 h9 ho12 hg12 hl12)
                      have HB12 := Lib.hid (And.intro hb (And.intro hl12 hh.base_le))
                      clear hvo hvp hvl ho12 h9 hh hb hg12 hl12
                      refine wpAnyH_take (i := 13) (oi := ⟨some 79, _, _, _, _, _⟩) (v := ?_) rfl (by kernel_rfl) (by kernel_rfl) (by kernel_rfl) (fun _ _ _ h => h) (Or.inl ⟨by kernel_rfl, ?_⟩) (by assumption) ?_; rotate_left; (intro X hX; go_simp; first | done | with_reducible rfl); (try simp only [Act.put, sI, sZ, sS])
                      refine wpAnyH_take (i := 14) (oi := ⟨some 80, _, _, _, _, _⟩) (v := ?_) rfl (by kernel_rfl) (by kernel_rfl) (by kernel_rfl) (fun _ _ _ h => h) (Or.inl ⟨by kernel_rfl, ?_⟩) (by assumption) ?_; rotate_left; (intro X hX; go_simp; first | done | with_reducible rfl); (try simp only [Act.put, sI, sZ, sS])
                      refine wpAnyH_ready (rs := [15]) (by kernel_rfl) (by simp) ?_
                      refine AllReadyH.cons (o := ⟨none, _, _, _, _, _⟩) rfl (fun K hK => ?_) AllReadyH.nil
                      rw [if_pos (by rfl)]
                      have z0 : X12.cell? ⟨rb, 0, none⟩ = some CS := cell_of_row HP12.out.1 rfl
                      have zf0 : X12.frozen? ⟨rb, 0, none⟩ = false := free_of_row HP12.out.1
                      go_simp
                      refine hK.out _ _ trivial (fun _ => ?_)
                      clear hK K z0 zf0; (try simp only [Act.put, sI, sZ, sS])
                      refine wpAnyH_done (by kernel_rfl) ?_ _
                      obtain ⟨hx1, hx2, hx3⟩ := HP12.out
                      obtain ⟨hbx, hlx, hbl⟩ := HB12.out
                      have hfin := cut_end (w0 := w) HLO.out.2.1 HLO.out.2.2 hx2 hx3 hbx hlx GB.out (heap_lt GB.out) HNE.out.1 HNE.out.2
                      clear hx1 hx2 hx3 hbx hlx hbl
                      have HFIN := Lib.hid hfin
                      clear hfin
                      go_wp2_with fail
                      go_meet
                      exact HFIN.out
              case rest =>
                obtain ⟨CS2, G2, hra, hmod, hfp, hgb⟩ := hcut
                obtain ⟨A2, cap2, rfl⟩ := hra.shape
                have gB := hgb
                have hbx2 : _ := cell_of_row (i := 0) hra.box rfl
                rw [List.length_append, List.length_singleton] at hbx2
                have HRA := Lib.hid (And.intro hra (And.intro hmod hfp))
                clear hgb
                have hcl2 := HLT.out
                clear hra hmod hfp
                have SV := Lib.hid (set_seven (.bool true) (.int .i64 (cs.length : Nat)) (.int .i8 0) (.int .i64 0) (.string ⟨#[]⟩) (.string ⟨#[]⟩) (.slice none 0 0) gB)
                have q0 := cell_of_row (i := 0) gB rfl
                have f0 := free_of_row (i := 0) gB
                have q1 := cell_of_row (i := 1) gB rfl
                have f1 := free_of_row (i := 1) gB
                have q2 := cell_of_row (i := 2) gB rfl
                have f2 := free_of_row (i := 2) gB
                have q3 := cell_of_row (i := 3) gB rfl
                have f3 := free_of_row (i := 3) gB
                have q4 := cell_of_row (i := 4) gB rfl
                have f4 := free_of_row (i := 4) gB
                have q5 := cell_of_row (i := 5) gB rfl
                have f5 := free_of_row (i := 5) gB
                have q6 := cell_of_row (i := 6) gB rfl
                have f6 := free_of_row (i := 6) gB
                clear gB
                go_wp2_with fail
                all_goals
                  obtain ⟨s7, m7⟩ := SV.out
                  generalize ((((((wc.setCell ⟨w.heap.size, 0, none⟩ (.bool true)).setCell ⟨w.heap.size, 1, none⟩ (.int .i64 (cs.length : Nat))).setCell ⟨w.heap.size, 2, none⟩ (.int .i8 0)).setCell ⟨w.heap.size, 3, none⟩ (.int .i64 0)).setCell ⟨w.heap.size, 4, none⟩ (.string ⟨#[]⟩)).setCell ⟨w.heap.size, 5, none⟩ (.string ⟨#[]⟩)).setCell ⟨w.heap.size, 6, none⟩ (.slice none 0 0) = VX at s7 m7 ⊢
                  have y0 := cell_of_row (i := 0) s7 rfl
                  have y1 := cell_of_row (i := 1) s7 rfl
                  have y2 := cell_of_row (i := 2) s7 rfl
                  have y3 := cell_of_row (i := 3) s7 rfl
                  have y4 := cell_of_row (i := 4) s7 rfl
                  have y5 := cell_of_row (i := 5) s7 rfl
                  have y6 := cell_of_row (i := 6) s7 rfl
                  refine bodyPost_ret (v := .tuple #[.agg #[.bool true, .int .i64 (cs.length : Nat), .int .i8 0, .int .i64 0, .string ⟨#[]⟩, .string ⟨#[]⟩, .slice none 0 0], .int .i64 0]) (by simp [results, Tryz.f29, go_sem, y0, y1, y2, y3, y4, y5, y6]) rfl ?_
                  have e := HRA.out
                  rw [HSUM.out] at e
                  exact .inr ⟨by rw [HRE.out]; exact HE0.out, rfl, _, G2, e.1.mods m7 (fun k _ (e' : k = w.heap.size) => by
                      subst e'
                      intro hf
                      rcases e.2.2 _ hf with h1 | h1
                      · exact HNF.out h1
                      · have := heap_lt GB.out; omega), ((Mod.of_below (F := fun i => i = rb ∨ CS.ownBlock = some i) HB1.out).trans e.2.1 (fun _ _ e => e)).trans m7 (fun k hk (e' : k = w.heap.size) => by omega), fun i hi => (e.2.2 i hi).imp id (fun h1 => Nat.le_trans HB1.out.size h1)⟩
            · have hE0 : makeE cs L = 20 := by
                unfold makeE
                rw [if_pos (List.all_eq_true.2 HALL.out), if_neg (by omega), if_pos (by omega)]
              have HE0 := Lib.hid hE0
              have h20' : decide ((1048576 : Int) ≤ ((cs.length : Nat) : Int)) = true := by rw [decide_eq_true_iff]; omega
              have h20'' : ((1048576 : Int) ≤ ((cs.length : Nat) : Int)) := by omega
              clear hE0 hful hcl
              have gB : wr.heap[w.heap.size]? = some (.cells #[(.bool false), (.int .i64 0), (.int .i8 0), (.int .i64 0), (.string ⟨#[]⟩), (.string ⟨#[]⟩), (.slice none 0 0)] 51 (0, 0)) := (HB.out.block _ (heap_lt GB.out)).trans GB.out
              have SV := Lib.hid (set_seven (.bool false) (.int .i64 0) (.int .i8 0) (.int .i64 0) (.string ⟨#[]⟩) (.string ⟨#[]⟩) (.slice none 0 0) gB)
              have q0 := cell_of_row (i := 0) gB rfl
              have f0 := free_of_row (i := 0) gB
              have q1 := cell_of_row (i := 1) gB rfl
              have f1 := free_of_row (i := 1) gB
              have q2 := cell_of_row (i := 2) gB rfl
              have f2 := free_of_row (i := 2) gB
              have q3 := cell_of_row (i := 3) gB rfl
              have f3 := free_of_row (i := 3) gB
              have q4 := cell_of_row (i := 4) gB rfl
              have f4 := free_of_row (i := 4) gB
              have q5 := cell_of_row (i := 5) gB rfl
              have f5 := free_of_row (i := 5) gB
              have q6 := cell_of_row (i := 6) gB rfl
              have f6 := free_of_row (i := 6) gB
              clear gB
              go_wp2_with fail
              all_goals
                obtain ⟨s7, m7⟩ := SV.out
                generalize ((((((wr.setCell ⟨w.heap.size, 0, none⟩ (.bool false)).setCell ⟨w.heap.size, 1, none⟩ (.int .i64 0)).setCell ⟨w.heap.size, 2, none⟩ (.int .i8 0)).setCell ⟨w.heap.size, 3, none⟩ (.int .i64 0)).setCell ⟨w.heap.size, 4, none⟩ (.string ⟨#[]⟩)).setCell ⟨w.heap.size, 5, none⟩ (.string ⟨#[]⟩)).setCell ⟨w.heap.size, 6, none⟩ (.slice none 0 0) = VX at s7 m7 ⊢
                have y0 := cell_of_row (i := 0) s7 rfl
                have y1 := cell_of_row (i := 1) s7 rfl
                have y2 := cell_of_row (i := 2) s7 rfl
                have y3 := cell_of_row (i := 3) s7 rfl
                have y4 := cell_of_row (i := 4) s7 rfl
                have y5 := cell_of_row (i := 5) s7 rfl
                have y6 := cell_of_row (i := 6) s7 rfl
                refine bodyPost_ret (v := .tuple #[.agg #[.bool false, .int .i64 0, .int .i8 0, .int .i64 0, .string ⟨#[]⟩, .string ⟨#[]⟩, .slice none 0 0], .int .i64 20]) (by simp [results, Tryz.f29, go_sem, y0, y1, y2, y3, y4, y5, y6]) rfl ?_
                exact .inl ⟨by rw [HRE.out, HE0.out]; decide, by rw [HRE.out, HE0.out]; rfl, (HB1.out.trans (HB.out.mono HB1.out.size)).trans (m7.below (HB1.out.trans (HB.out.mono HB1.out.size)).size (fun k (e : k = w.heap.size) => by omega))⟩

set_option maxRecDepth 100000 in
set_option maxHeartbeats 16000000 in
theorem rMake7 {base rb : Nat} {cs : List HC} {CS : Value} {G : Nat → Prop} (hg : HGood cs) (L : List AW) (A : Option Addr) (cap : Nat) (w : World) (h : RAt base w rb cs CS G) (hR : WRow (· < w.heap.size) w A L.length cap L) (hll : L.length ≤ 1000) (hl2 : L.length = 2) :
    Calls Tryz.prog 29 #[.pointer (some ⟨rb, 0, none⟩), .int .i8 7, .slice A L.length cap] w (RMakeP base rb cs CS G 7 L w) := by
  have hrE : rE 7 cs L = makeE cs L := by unfold rE; rw [if_pos (by unfold kindB; rw [hl2]; rfl)]
  obtain ⟨w1, hw1⟩ : ∃ w1, w1 = w.alloc (.cells #[(.bool false), (.int .i64 0), (.int .i8 0), (.int .i64 0), (.string ⟨#[]⟩), (.string ⟨#[]⟩), (.slice none 0 0)] 51) := ⟨_, rfl⟩
  have b1 : Below w.heap.size w w1 := by rw [hw1]; exact (Below.refl _ _).alloc (Nat.le_refl _) _
  have g1 : w1.heap[w.heap.size]? = some (.cells #[(.bool false), (.int .i64 0), (.int .i8 0), (.int .i64 0), (.string ⟨#[]⟩), (.string ⟨#[]⟩), (.slice none 0 0)] 51 (0, 0)) := by rw [hw1]; exact block_alloc _ _
  have HB1 := Lib.hid b1
  have GB := Lib.hid g1
  have HH := Lib.hid (h.under b1)
  have HG := Lib.hid hg
  have HR := Lib.hid (hR.later b1)
  have HRE := Lib.hid hrE
  have HLLN := Lib.hid hll
  have HLO : Hid (base ≤ w1.heap.size ∧ rb < w1.heap.size ∧ ∀ g, CS.ownBlock = some g → g < w1.heap.size) := ⟨(h.under b1).base_le, heap_lt (h.under b1).box, fun g hg => by obtain ⟨vs, _, ho, _⟩ := (h.under b1).row; exact (ho.lt g hg).2⟩
  have HNE : Hid (w.heap.size ≠ rb ∧ CS.ownBlock ≠ some w.heap.size) := ⟨fun e => by have := heap_lt h.box; omega, fun e => by obtain ⟨vs, _, ho, _⟩ := h.row; have := (ho.lt _ e).2; omega⟩
  have HNF := Lib.hid (rfp_new h)
  have hws : ∀ j, wsum cs ((L.take j).map AW.hw) ≤ 256001 := fun j => by
    have h1 := wsum_le hg.most ((L.take j).map AW.hw)
    rw [List.length_map, List.length_take] at h1
    omega
  have HWS := Lib.hid hws
  have hne2 : (((L.length : Nat) : Int) != 2) = false := by rw [hl2]; rfl
  clear hl2
  clear b1 g1 h hg hR hrE hws
  go_enter Tryz.func29, Tryz.ntmps29
  go_wp2_with fail
  rw [← hw1]
  clear hw1
  refine (rparts_any 7 w1).mono ?_
  rintro e V1 ⟨rfl, hq⟩
  subst V1
  go_wp2_with fail
  go_loopw [9] (fun i wr => ∃ j : Nat, j ≤ L.length ∧ i = .int .i64 j ∧ Hid (∀ q ∈ L.take j, mayW cs.length q.c q.a q.x = true) ∧ Hid (Below w1.heap.size w1 wr)) (fun i _ => L.length - (intOf i).toNat)
  case atStart => exact ⟨0, Nat.zero_le _, rfl, by show ∀ q ∈ L.take 0, _; simp, Below.refl _ _⟩
  case round =>
    obtain ⟨j, hj, rfl, HQ, HB⟩ := hrel
    by_cases hlt : j < L.length
    · obtain ⟨y, hy⟩ : ∃ y, L[j]? = some y := ⟨L[j], List.getElem?_eq_getElem hlt⟩
      obtain ⟨ad, u, rfl, had, hE, hA⟩ := HR.out.at_ j y hy
      have hEr : ElemW wr ad j u := hE.keep (HB.out.block ad.block had)
      have hAr : AWAt (· < wr.heap.size) wr y u := hA.keep (fun b hb => HB.out.block b hb) (fun b hb => Nat.lt_of_lt_of_le hb HB.out.size)
      obtain ⟨RA, rcap, hRA⟩ := (HH.out.under HB.out).shape
      have hbox : wr.cell? ⟨rb, 0, none⟩ = some (.slice RA cs.length rcap) := by rw [← hRA]; exact cell_of_row (HH.out.under HB.out).box rfl
      have HMAY := Lib.hid (r4May_any y u wr hbox hAr)
      obtain ⟨c0, c1, c2, c3, c4, c5, c6, rfl, e0, e1, e2, e3, e4, e5, e6⟩ := hEr
      have HY := Lib.hid hy
      clear hE hA hAr hy hbox hRA
      go_wp2_with fail
      refine HMAY.out.mono ?_
      rintro e w2 ⟨rfl, b2⟩
      have HB2 := Lib.hid (HB.out.trans (b2.mono HB.out.size))
      clear b2 e0 e1 e2 e3 e4 e5 e6
      cases hm : mayW cs.length y.c y.a y.x
      · have hE0 : makeE cs L = 2 := by
          unfold makeE
          rw [if_neg]
          intro hall
          have := List.all_eq_true.1 hall y (List.mem_of_getElem? HY.out)
          rw [hm] at this
          exact absurd this (by decide)
        have HE0 := Lib.hid hE0
        clear hE0 hm
        have gB : w2.heap[w.heap.size]? = some (.cells #[(.bool false), (.int .i64 0), (.int .i8 0), (.int .i64 0), (.string ⟨#[]⟩), (.string ⟨#[]⟩), (.slice none 0 0)] 51 (0, 0)) := (HB2.out.block _ (heap_lt GB.out)).trans GB.out
        have SV := Lib.hid (set_seven (.bool false) (.int .i64 0) (.int .i8 0) (.int .i64 0) (.string ⟨#[]⟩) (.string ⟨#[]⟩) (.slice none 0 0) gB)
        have q0 := cell_of_row (i := 0) gB rfl
        have f0 := free_of_row (i := 0) gB
        have q1 := cell_of_row (i := 1) gB rfl
        have f1 := free_of_row (i := 1) gB
        have q2 := cell_of_row (i := 2) gB rfl
        have f2 := free_of_row (i := 2) gB
        have q3 := cell_of_row (i := 3) gB rfl
        have f3 := free_of_row (i := 3) gB
        have q4 := cell_of_row (i := 4) gB rfl
        have f4 := free_of_row (i := 4) gB
        have q5 := cell_of_row (i := 5) gB rfl
        have f5 := free_of_row (i := 5) gB
        have q6 := cell_of_row (i := 6) gB rfl
        have f6 := free_of_row (i := 6) gB
        clear gB
        go_wp2_with fail
        all_goals
          obtain ⟨s7, m7⟩ := SV.out
          generalize ((((((w2.setCell ⟨w.heap.size, 0, none⟩ (.bool false)).setCell ⟨w.heap.size, 1, none⟩ (.int .i64 0)).setCell ⟨w.heap.size, 2, none⟩ (.int .i8 0)).setCell ⟨w.heap.size, 3, none⟩ (.int .i64 0)).setCell ⟨w.heap.size, 4, none⟩ (.string ⟨#[]⟩)).setCell ⟨w.heap.size, 5, none⟩ (.string ⟨#[]⟩)).setCell ⟨w.heap.size, 6, none⟩ (.slice none 0 0) = VX at s7 m7 ⊢
          have y0 := cell_of_row (i := 0) s7 rfl
          have y1 := cell_of_row (i := 1) s7 rfl
          have y2 := cell_of_row (i := 2) s7 rfl
          have y3 := cell_of_row (i := 3) s7 rfl
          have y4 := cell_of_row (i := 4) s7 rfl
          have y5 := cell_of_row (i := 5) s7 rfl
          have y6 := cell_of_row (i := 6) s7 rfl
          refine bodyPost_ret (v := .tuple #[.agg #[.bool false, .int .i64 0, .int .i8 0, .int .i64 0, .string ⟨#[]⟩, .string ⟨#[]⟩, .slice none 0 0], .int .i64 2]) (by simp [results, Tryz.f29, go_sem, y0, y1, y2, y3, y4, y5, y6]) rfl ?_
          exact .inl ⟨by rw [HRE.out, HE0.out]; decide, by rw [HRE.out, HE0.out]; rfl, (HB1.out.trans (HB2.out.mono HB1.out.size)).trans (m7.below (HB1.out.trans (HB2.out.mono HB1.out.size)).size (fun k (e : k = w.heap.size) => by omega))⟩
      · have HM := Lib.hid hm
        clear hm
        go_wp2_with fail
        go_roundw
        case rel =>
          refine ⟨j + 1, by omega, by go_num, ?_, HB2⟩
          intro q hq
          rw [List.take_add_one, HY.out] at hq
          simp at hq
          rcases hq with hq | rfl
          · exact HQ.out q hq
          · exact HM.out
        case measure => simp [intOf]; omega
    · obtain rfl : j = L.length := by omega
      have hall : ∀ q ∈ L, mayW cs.length q.c q.a q.x = true := by
        have := HQ.out
        rwa [List.take_of_length_le (Nat.le_refl _)] at this
      have HALL := Lib.hid hall
      clear hall HQ
      go_wp2_with fail
      go_loopw [8, 10] (fun nv i wr => ∃ j : Nat, j ≤ L.length ∧ i = .int .i64 j ∧ nv = .int .i64 ((wsum cs ((L.take j).map AW.hw) : Nat) : Int) ∧ Hid (Below w1.heap.size w1 wr)) (fun _ i _ => L.length - (intOf i).toNat)
      case atStart => exact ⟨0, Nat.zero_le _, rfl, rfl, HB⟩
      case round =>
        clear HB
        obtain ⟨j, hj, rfl, rfl, HB⟩ := hrel
        obtain ⟨S, hS⟩ : ∃ S, S = wsum cs ((L.take j).map AW.hw) := ⟨_, rfl⟩
        have hSb := HWS.out j
        rw [← hS] at hSb ⊢
        have HSS := Lib.hid hS
        clear hS
        by_cases hlt : j < L.length ∧ S ≤ 256
        · obtain ⟨hlt, hs256⟩ := hlt
          obtain ⟨y, hy⟩ : ∃ y, L[j]? = some y := ⟨L[j], List.getElem?_eq_getElem hlt⟩
          obtain ⟨ad, u, rfl, had, hE, hA⟩ := HR.out.at_ j y hy
          have hEr : ElemW wr ad j u := hE.keep (HB.out.block ad.block had)
          have HSZ := Lib.hid (r4size_any wr (HH.out.under HB.out) y u (by obtain ⟨k', n', s', t', A', l', c', e, -⟩ := hA; exact ⟨_, _, _, _, _, e⟩) (HALL.out y (List.mem_of_getElem? hy)))
          obtain ⟨c0, c1, c2, c3, c4, c5, c6, rfl, e0, e1, e2, e3, e4, e5, e6⟩ := hEr
          have hnext : wsum cs ((L.take (j + 1)).map AW.hw) = S + wsize cs y.hw := by
            rw [HSS.out, List.map_take, List.map_take]
            exact wsum_take_succ (by rw [List.getElem?_map, hy]; rfl)
          have hNb := HWS.out (j + 1)
          rw [hnext] at hNb
          obtain ⟨Y, hY⟩ : ∃ Y, Y = wsize cs y.hw := ⟨_, rfl⟩
          rw [← hY] at hNb hnext
          have HSZ' : Hid _ := HSZ
          have HNX := Lib.hid hnext
          have HYY := Lib.hid hY
          clear hE hA hy hnext hY
          go_wp2_with fail
          refine HSZ.out.mono ?_
          rintro e w2 ⟨rfl, b2⟩
          rw [← HYY.out]
          have HB2 := Lib.hid (HB.out.trans (b2.mono HB.out.size))
          clear b2 e0 e1 e2 e3 e4 e5 e6
          go_wp2_with fail
          go_roundw
          case rel => exact ⟨j + 1, by omega, by go_num, by rw [HNX.out]; go_num, HB2⟩
          case measure => simp [intOf]; omega
        · by_cases h256 : 256 < S
          · have hE0 : makeE cs L = 11 := by
              have hle : S ≤ wsum cs (L.map AW.hw) := by
                rw [HSS.out]
                have := wsum_append cs ((L.take j).map AW.hw) ((L.drop j).map AW.hw)
                rw [← List.map_append, List.take_append_drop] at this
                have h1 : 1 ≤ wsum cs ((L.drop j).map AW.hw) := by have := wsum_ge HG.out ((L.drop j).map AW.hw); omega
                omega
              unfold makeE
              rw [if_pos (List.all_eq_true.2 HALL.out), if_pos (by omega)]
            have HE0 := Lib.hid hE0
            have HBx := HB
            clear hE0
            have gB : wr.heap[w.heap.size]? = some (.cells #[(.bool false), (.int .i64 0), (.int .i8 0), (.int .i64 0), (.string ⟨#[]⟩), (.string ⟨#[]⟩), (.slice none 0 0)] 51 (0, 0)) := (HB.out.block _ (heap_lt GB.out)).trans GB.out
            have SV := Lib.hid (set_seven (.bool false) (.int .i64 0) (.int .i8 0) (.int .i64 0) (.string ⟨#[]⟩) (.string ⟨#[]⟩) (.slice none 0 0) gB)
            have q0 := cell_of_row (i := 0) gB rfl
            have f0 := free_of_row (i := 0) gB
            have q1 := cell_of_row (i := 1) gB rfl
            have f1 := free_of_row (i := 1) gB
            have q2 := cell_of_row (i := 2) gB rfl
            have f2 := free_of_row (i := 2) gB
            have q3 := cell_of_row (i := 3) gB rfl
            have f3 := free_of_row (i := 3) gB
            have q4 := cell_of_row (i := 4) gB rfl
            have f4 := free_of_row (i := 4) gB
            have q5 := cell_of_row (i := 5) gB rfl
            have f5 := free_of_row (i := 5) gB
            have q6 := cell_of_row (i := 6) gB rfl
            have f6 := free_of_row (i := 6) gB
            clear gB
            go_wp2_with fail
            all_goals
              obtain ⟨s7, m7⟩ := SV.out
              generalize ((((((wr.setCell ⟨w.heap.size, 0, none⟩ (.bool false)).setCell ⟨w.heap.size, 1, none⟩ (.int .i64 0)).setCell ⟨w.heap.size, 2, none⟩ (.int .i8 0)).setCell ⟨w.heap.size, 3, none⟩ (.int .i64 0)).setCell ⟨w.heap.size, 4, none⟩ (.string ⟨#[]⟩)).setCell ⟨w.heap.size, 5, none⟩ (.string ⟨#[]⟩)).setCell ⟨w.heap.size, 6, none⟩ (.slice none 0 0) = VX at s7 m7 ⊢
              have y0 := cell_of_row (i := 0) s7 rfl
              have y1 := cell_of_row (i := 1) s7 rfl
              have y2 := cell_of_row (i := 2) s7 rfl
              have y3 := cell_of_row (i := 3) s7 rfl
              have y4 := cell_of_row (i := 4) s7 rfl
              have y5 := cell_of_row (i := 5) s7 rfl
              have y6 := cell_of_row (i := 6) s7 rfl
              refine bodyPost_ret (v := .tuple #[.agg #[.bool false, .int .i64 0, .int .i8 0, .int .i64 0, .string ⟨#[]⟩, .string ⟨#[]⟩, .slice none 0 0], .int .i64 11]) (by simp [results, Tryz.f29, go_sem, y0, y1, y2, y3, y4, y5, y6]) rfl ?_
              exact .inl ⟨by rw [HRE.out, HE0.out]; decide, by rw [HRE.out, HE0.out]; rfl, (HB1.out.trans (HB.out.mono HB1.out.size)).trans (m7.below (HB1.out.trans (HB.out.mono HB1.out.size)).size (fun k (e : k = w.heap.size) => by omega))⟩
          · obtain rfl : j = L.length := by omega
            have hsum : S = wsum cs (L.map AW.hw) := by rw [HSS.out, List.take_length]
            obtain ⟨RA, rcap, hRA⟩ := HH.out.shape
            have hbox : wr.cell? ⟨rb, 0, none⟩ = some (.slice RA cs.length rcap) := by rw [← hRA]; exact cell_of_row (HH.out.under HB.out).box rfl
            have hcl := HG.out.len
            by_cases hful : cs.length < 1048576
            · have hE0 : makeE cs L = 0 := by
                unfold makeE
                rw [if_pos (List.all_eq_true.2 HALL.out), if_neg (by omega), if_neg (by omega)]
              have HE0 := Lib.hid hE0
              have HSUM := Lib.hid hsum
              have HLT : Hid (cs.length + 1 ≤ 2000000) := by show _ ≤ _; omega
              have h20' : decide ((1048576 : Int) ≤ ((cs.length : Nat) : Int)) = false := by rw [decide_eq_false_iff_not]; omega
              have h20'' : ¬ ((1048576 : Int) ≤ ((cs.length : Nat) : Int)) := by omega
              have hSl : ¬ (256 < S) := h256
              clear hE0 hsum hful hcl
              go_upto_region 17 with fail
              clear hbox hRA h20' h20''
              go_cut [] (fun wx => Cut4P base rb cs CS G 7 S L w w1 wx)
              case first =>
                refine wp_region_held (S := fun _ => True) (by kernel_rfl) ?_
                show wpAnyH _ _ _ _ _ _ _ _ wr.drew
                have hdr : Below wr.heap.size wr wr.drew := ⟨rfl, rfl, rfl, Nat.le_refl _, fun _ _ => rfl⟩
                have hb := HB.out.trans (hdr.mono HB.out.size)
                have hh := HH.out.under hb
                have hwr := HR.out.later hb
                generalize wr.drew = D at hb hh hwr ⊢
                clear hdr
                have hT : True := trivial
                refine wpAnyH_take (i := 0) (oi := ⟨some 66, _, _, _, _, _⟩) (v := ?_) rfl (by kernel_rfl) (by kernel_rfl) (by kernel_rfl) (fun _ _ _ h => h) (Or.inl ⟨by kernel_rfl, ?_⟩) (by assumption) ?_; rotate_left; (intro X hX; go_simp; first | done | with_reducible rfl); (try simp only [Act.put, sI, sZ, sS])
                refine wpAnyH_take (i := 1) (oi := ⟨some 67, _, _, _, _, _⟩) (v := ?_) rfl (by kernel_rfl) (by kernel_rfl) (by kernel_rfl) (fun _ _ _ h => h) (Or.inl ⟨by kernel_rfl, ?_⟩) (by assumption) ?_; rotate_left; (intro X hX; go_simp; first | done | with_reducible rfl); (try simp only [Act.put, sI, sZ, sS])
                refine wpAnyH_take (i := 2) (oi := ⟨some 68, _, _, _, _, _⟩) (v := ?_) rfl (by kernel_rfl) (by kernel_rfl) (by kernel_rfl) (fun _ _ _ h => h) (Or.inl ⟨by kernel_rfl, ?_⟩) (by assumption) ?_; rotate_left; (intro X hX; go_simp; first | done | with_reducible rfl); (try simp only [Act.put, sI, sZ, sS])
                refine wpAnyH_take (i := 3) (oi := ⟨some 69, _, _, _, _, _⟩) (v := ?_) rfl (by kernel_rfl) (by kernel_rfl) (by kernel_rfl) (fun _ _ _ h => h) (Or.inl ⟨by kernel_rfl, ?_⟩) (by assumption) ?_; rotate_left; (intro X hX; go_simp; first | done | with_reducible rfl); (try simp only [Act.put, sI, sZ, sS])
                refine wpAnyH_take (i := 5) (oi := ⟨some 71, _, _, _, _, _⟩) (v := ?_) rfl (by kernel_rfl) (by kernel_rfl) (by kernel_rfl) (fun _ _ _ h => h) (Or.inl ⟨by kernel_rfl, ?_⟩) (by assumption) ?_; rotate_left; (intro X hX; go_simp; first | done | with_reducible rfl); (try simp only [Act.put, sI, sZ, sS])
                refine wpAnyH_take (i := 6) (oi := ⟨some 72, _, _, _, _, _⟩) (v := ?_) rfl (by kernel_rfl) (by kernel_rfl) (by kernel_rfl) (fun _ _ _ h => h) (Or.inl ⟨by kernel_rfl, ?_⟩) (by assumption) ?_; rotate_left; (intro X hX; go_simp; first | done | with_reducible rfl); (try simp only [Act.put, sI, sZ, sS])
                refine wpAnyH_take (i := 8) (oi := ⟨some 74, _, _, _, _, _⟩) (v := ?_) rfl (by kernel_rfl) (by kernel_rfl) (by kernel_rfl) (fun _ _ _ h => h) (Or.inl ⟨by kernel_rfl, ?_⟩) (by assumption) ?_; rotate_left; (intro X hX; go_simp; first | done | with_reducible rfl); (try simp only [Act.put, sI, sZ, sS])
                refine wpAnyH_ready (rs := [4, 7]) (by kernel_rfl) (by simp) ?_
                refine AllReadyH.cons (o := ⟨some 70, _, _, _, _, _⟩) rfl (fun K hK => ?_) (AllReadyH.cons (o := ⟨some 73, _, _, _, _, _⟩) rfl (fun K hK => ?_) AllReadyH.nil)
                · rw [if_pos (by rfl)]
                  have z0 : D.cell? ⟨rb, 0, none⟩ = some CS := cell_of_row hh.box rfl
                  go_simp
                  refine hK.out _ _ trivial (fun _ => ?_)
                  clear hK K z0; (try simp only [Act.put, sI, sZ, sS])
                  refine wpAnyH_ready (rs := [7]) (by kernel_rfl) (by simp) ?_
                  refine AllReadyH.cons (o := ⟨some 73, _, _, _, _, _⟩) rfl (fun K hK => ?_) AllReadyH.nil
                  rw [if_pos (by rfl)]
                  go_simp
                  refine hK.out _ _ trivial (fun _ => ?_)
                  clear hK K; (try simp only [Act.put, sI, sZ, sS])
                  have bx : Below D.heap.size D (D.alloc (.cells #[] 51)) := (Below.refl _ _).alloc (Nat.le_refl _) _
                  have g7h := block_alloc D (.cells #[] 51)
                  have hnf : ¬ RFP rb CS G D.heap.size := rfp_new hh
                  have hl7 := hb.size
                  obtain ⟨g7, hg7⟩ : ∃ g, g = D.heap.size := ⟨_, rfl⟩
                  rw [← hg7] at g7h hnf hl7 ⊢
                  clear hg7
                  generalize D.alloc (.cells #[] 51) = X7 at bx g7h ⊢
                  replace hh := hh.under bx
                  replace hb := hb.trans (bx.mono hb.size)
                  replace hwr := hwr.later bx
                  clear bx
                  refine wpAnyH_ready (rs := [9]) (by kernel_rfl) (by simp) ?_
                  refine AllReadyH.cons (o := ⟨some 75, _, _, _, _, _⟩) rfl (fun K hK => ?_) AllReadyH.nil
                  rw [if_pos (by rfl)]
                  refine wp_copy_parts (.tmp 73) (.tmp 74) rfl g7 g7h rfl rfl hwr HALL.out HLLN.out hl7 ?_
                  intro A9 cap9 X9 m9 h9
                  refine hK.out _ _ trivial (fun _ => ?_)
                  clear hK K g7h hwr; (try simp only [Act.put, sI, sZ, sS])
                  replace hh := hh.mods m9 (fun k _ e => by subst e; exact hnf)
                  replace hb := hb.trans (m9.below hb.size (fun k e => by subst e; exact hl7))
                  clear m9 hnf hl7
                  refine wpAnyH_take (i := 10) (oi := ⟨some 76, _, _, _, _, _⟩) (v := ?_) rfl (by kernel_rfl) (by kernel_rfl) (by kernel_rfl) (fun _ _ _ h => h) (Or.inl ⟨by kernel_rfl, ?_⟩) (by assumption) ?_; rotate_left; (intro X hX; go_simp; first | done | with_reducible rfl); (try simp only [Act.put, sI, sZ, sS])
                  refine wpAnyH_ready (rs := [11]) (by kernel_rfl) (by simp) ?_
                  refine AllReadyH.cons (o := ⟨some 77, _, _, _, _, _⟩) rfl (fun K hK => ?_) AllReadyH.nil
                  rw [if_pos (by rfl)]
                  go_simp
                  refine hK.out _ _ trivial (fun _ => ?_)
                  clear hK K; (try simp only [Act.put, sI, sZ, sS])
                  have bx : Below X9.heap.size X9 (X9.alloc (.cells #[.int .i8 7, .int .i64 S, .slice A9 L.length cap9] 62)) := (Below.refl _ _).alloc (Nat.le_refl _) _
                  have g11h := block_alloc X9 (.cells #[.int .i8 7, .int .i64 S, .slice A9 L.length cap9] 62)
                  obtain ⟨g11, hg11⟩ : ∃ g, g = X9.heap.size := ⟨_, rfl⟩
                  rw [← hg11] at g11h ⊢
                  clear hg11
                  generalize X9.alloc (.cells #[.int .i8 7, .int .i64 S, .slice A9 L.length cap9] 62) = X11 at bx g11h ⊢
                  replace hh := hh.under bx
                  replace hb := hb.trans (bx.mono hb.size)
                  replace h9 := fun hL => part_under (h9 hL) bx
                  clear bx
                  refine wpAnyH_ready (rs := [12]) (by kernel_rfl) (by simp) ?_
                  refine AllReadyH.cons (o := ⟨some 78, _, _, _, _, _⟩) rfl (fun K hK => ?_) AllReadyH.nil
                  rw [if_pos (by rfl)]
                  obtain ⟨vs, hvl, hvo, hvp⟩ := hh.row
                  refine wp_own_cell (.tmp 70) (.tmp 77) rfl hvo hh.base_le rfl g11 rfl g11h HLT.out ?_
                  intro v12 X12 ho12 hg12 hl12
                  obtain ⟨A12, cap12, rfl⟩ : ∃ A12 cap12, v12 = Value.slice A12 (cs.length + 1) cap12 := by
                    rcases ho12.2 with ⟨_, hn⟩ | ⟨g', cap', cur', e, _⟩
                    · omega
                    · exact ⟨_, _, e⟩
                  refine hK.out _ _ trivial (fun _ => ?_)
                  clear hK K g11h; (try simp only [Act.put, sI, sZ, sS])
                  have HP12 := Lib.hid (rat_push hh hvl hvo HLO.out.1 HLO.out.2.1 HLO.out.2.2 h9 ho12 hg12 hl12)
                  have HB12 := Lib.hid (And.intro hb (And.intro hl12 hh.base_le))
                  clear hvo hvp hvl ho12 h9 hh hb hg12 hl12
                  refine wpAnyH_take (i := 13) (oi := ⟨some 79, _, _, _, _, _⟩) (v := ?_) rfl (by kernel_rfl) (by kernel_rfl) (by kernel_rfl) (fun _ _ _ h => h) (Or.inl ⟨by kernel_rfl, ?_⟩) (by assumption) ?_; rotate_left; (intro X hX; go_simp; first | done | with_reducible rfl); (try simp only [Act.put, sI, sZ, sS])
                  refine wpAnyH_take (i := 14) (oi := ⟨some 80, _, _, _, _, _⟩) (v := ?_) rfl (by kernel_rfl) (by kernel_rfl) (by kernel_rfl) (fun _ _ _ h => h) (Or.inl ⟨by kernel_rfl, ?_⟩) (by assumption) ?_; rotate_left; (intro X hX; go_simp; first | done | with_reducible rfl); (try simp only [Act.put, sI, sZ, sS])
                  refine wpAnyH_ready (rs := [15]) (by kernel_rfl) (by simp) ?_
                  refine AllReadyH.cons (o := ⟨none, _, _, _, _, _⟩) rfl (fun K hK => ?_) AllReadyH.nil
                  rw [if_pos (by rfl)]
                  have z0 : X12.cell? ⟨rb, 0, none⟩ = some CS := cell_of_row HP12.out.1 rfl
                  have zf0 : X12.frozen? ⟨rb, 0, none⟩ = false := free_of_row HP12.out.1
                  go_simp
                  refine hK.out _ _ trivial (fun _ => ?_)
                  clear hK K z0 zf0; (try simp only [Act.put, sI, sZ, sS])
                  refine wpAnyH_done (by kernel_rfl) ?_ _
                  obtain ⟨hx1, hx2, hx3⟩ := HP12.out
                  obtain ⟨hbx, hlx, hbl⟩ := HB12.out
                  have hfin := cut_end (w0 := w) HLO.out.2.1 HLO.out.2.2 hx2 hx3 hbx hlx GB.out (heap_lt GB.out) HNE.out.1 HNE.out.2
                  clear hx1 hx2 hx3 hbx hlx hbl
                  have HFIN := Lib.hid hfin
                  clear hfin
                  go_wp2_with fail
                  go_meet
                  exact HFIN.out

                · rw [if_pos (by rfl)]
                  go_simp
                  refine hK.out _ _ trivial (fun _ => ?_)
                  clear hK K; (try simp only [Act.put, sI, sZ, sS])
                  have bx : Below D.heap.size D (D.alloc (.cells #[] 51)) := (Below.refl _ _).alloc (Nat.le_refl _) _
                  have g7h := block_alloc D (.cells #[] 51)
                  have hnf : ¬ RFP rb CS G D.heap.size := rfp_new hh
                  have hl7 := hb.size
                  obtain ⟨g7, hg7⟩ : ∃ g, g = D.heap.size := ⟨_, rfl⟩
                  rw [← hg7] at g7h hnf hl7 ⊢
                  clear hg7
                  generalize D.alloc (.cells #[] 51) = X7 at bx g7h ⊢
                  replace hh := hh.under bx
                  replace hb := hb.trans (bx.mono hb.size)
                  replace hwr := hwr.later bx
                  clear bx
                  refine wpAnyH_ready (rs := [4, 9]) (by kernel_rfl) (by simp) ?_
                  refine AllReadyH.cons (o := ⟨some 70, _, _, _, _, _⟩) rfl (fun K hK => ?_) (AllReadyH.cons (o := ⟨some 75, _, _, _, _, _⟩) rfl (fun K hK => ?_) AllReadyH.nil)
                  · rw [if_pos (by rfl)]
                    have z0 : X7.cell? ⟨rb, 0, none⟩ = some CS := cell_of_row hh.box rfl
                    go_simp
                    refine hK.out _ _ trivial (fun _ => ?_)
                    clear hK K z0; (try simp only [Act.put, sI, sZ, sS])
                    refine wpAnyH_ready (rs := [9]) (by kernel_rfl) (by simp) ?_
                    refine AllReadyH.cons (o := ⟨some 75, _, _, _, _, _⟩) rfl (fun K hK => ?_) AllReadyH.nil
                    rw [if_pos (by rfl)]
                    refine wp_copy_parts (.tmp 73) (.tmp 74) rfl g7 g7h rfl rfl hwr HALL.out HLLN.out hl7 ?_
                    intro A9 cap9 X9 m9 h9
                    refine hK.out _ _ trivial (fun _ => ?_)
                    clear hK K g7h hwr; (try simp only [Act.put, sI, sZ, sS])
                    replace hh := hh.mods m9 (fun k _ e => by subst e; exact hnf)
                    replace hb := hb.trans (m9.below hb.size (fun k e => by subst e; exact hl7))
                    clear m9 hnf hl7
                    refine wpAnyH_take (i := 10) (oi := ⟨some 76, _, _, _, _, _⟩) (v := ?_) rfl (by kernel_rfl) (by kernel_rfl) (by kernel_rfl) (fun _ _ _ h => h) (Or.inl ⟨by kernel_rfl, ?_⟩) (by assumption) ?_; rotate_left; (intro X hX; go_simp; first | done | with_reducible rfl); (try simp only [Act.put, sI, sZ, sS])
                    refine wpAnyH_ready (rs := [11]) (by kernel_rfl) (by simp) ?_
                    refine AllReadyH.cons (o := ⟨some 77, _, _, _, _, _⟩) rfl (fun K hK => ?_) AllReadyH.nil
                    rw [if_pos (by rfl)]
                    go_simp
                    refine hK.out _ _ trivial (fun _ => ?_)
                    clear hK K; (try simp only [Act.put, sI, sZ, sS])
                    have bx : Below X9.heap.size X9 (X9.alloc (.cells #[.int .i8 7, .int .i64 S, .slice A9 L.length cap9] 62)) := (Below.refl _ _).alloc (Nat.le_refl _) _
                    have g11h := block_alloc X9 (.cells #[.int .i8 7, .int .i64 S, .slice A9 L.length cap9] 62)
                    obtain ⟨g11, hg11⟩ : ∃ g, g = X9.heap.size := ⟨_, rfl⟩
                    rw [← hg11] at g11h ⊢
                    clear hg11
                    generalize X9.alloc (.cells #[.int .i8 7, .int .i64 S, .slice A9 L.length cap9] 62) = X11 at bx g11h ⊢
                    replace hh := hh.under bx
                    replace hb := hb.trans (bx.mono hb.size)
                    replace h9 := fun hL => part_under (h9 hL) bx
                    clear bx
                    refine wpAnyH_ready (rs := [12]) (by kernel_rfl) (by simp) ?_
                    refine AllReadyH.cons (o := ⟨some 78, _, _, _, _, _⟩) rfl (fun K hK => ?_) AllReadyH.nil
                    rw [if_pos (by rfl)]
                    obtain ⟨vs, hvl, hvo, hvp⟩ := hh.row
                    refine wp_own_cell (.tmp 70) (.tmp 77) rfl hvo hh.base_le rfl g11 rfl g11h HLT.out ?_
                    intro v12 X12 ho12 hg12 hl12
                    obtain ⟨A12, cap12, rfl⟩ : ∃ A12 cap12, v12 = Value.slice A12 (cs.length + 1) cap12 := by
                      rcases ho12.2 with ⟨_, hn⟩ | ⟨g', cap', cur', e, _⟩
                      · omega
                      · exact ⟨_, _, e⟩
                    refine hK.out _ _ trivial (fun _ => ?_)
                    clear hK K g11h; (try simp only [Act.put, sI, sZ, sS])
                    have HP12 := Lib.hid (rat_push hh hvl hvo HLO.out.1 HLO.out.2.1 HLO.out.2.2 h9 ho12 hg12 hl12)
                    have HB12 := Lib.hid (And.intro hb (And.intro hl12 hh.base_le))
                    clear hvo hvp hvl ho12 h9 hh hb hg12 hl12
                    refine wpAnyH_take (i := 13) (oi := ⟨some 79, _, _, _, _, _⟩) (v := ?_) rfl (by kernel_rfl) (by kernel_rfl) (by kernel_rfl) (fun _ _ _ h => h) (Or.inl ⟨by kernel_rfl, ?_⟩) (by assumption) ?_; rotate_left; (intro X hX; go_simp; first | done | with_reducible rfl); (try simp only [Act.put, sI, sZ, sS])
                    refine wpAnyH_take (i := 14) (oi := ⟨some 80, _, _, _, _, _⟩) (v := ?_) rfl (by kernel_rfl) (by kernel_rfl) (by kernel_rfl) (fun _ _ _ h => h) (Or.inl ⟨by kernel_rfl, ?_⟩) (by assumption) ?_; rotate_left; (intro X hX; go_simp; first | done | with_reducible rfl); (try simp only [Act.put, sI, sZ, sS])
                    refine wpAnyH_ready (rs := [15]) (by kernel_rfl) (by simp) ?_
                    refine AllReadyH.cons (o := ⟨none, _, _, _, _, _⟩) rfl (fun K hK => ?_) AllReadyH.nil
                    rw [if_pos (by rfl)]
                    have z0 : X12.cell? ⟨rb, 0, none⟩ = some CS := cell_of_row HP12.out.1 rfl
                    have zf0 : X12.frozen? ⟨rb, 0, none⟩ = false := free_of_row HP12.out.1
                    go_simp
                    refine hK.out _ _ trivial (fun _ => ?_)
                    clear hK K z0 zf0; (try simp only [Act.put, sI, sZ, sS])
                    refine wpAnyH_done (by kernel_rfl) ?_ _
                    obtain ⟨hx1, hx2, hx3⟩ := HP12.out
                    obtain ⟨hbx, hlx, hbl⟩ := HB12.out
                    have hfin := cut_end (w0 := w) HLO.out.2.1 HLO.out.2.2 hx2 hx3 hbx hlx GB.out (heap_lt GB.out) HNE.out.1 HNE.out.2
                    clear hx1 hx2 hx3 hbx hlx hbl
                    have HFIN := Lib.hid hfin
                    clear hfin
                    go_wp2_with fail
                    go_meet
                    exact HFIN.out

                  · rw [if_pos (by rfl)]
                    refine wp_copy_parts (.tmp 73) (.tmp 74) rfl g7 g7h rfl rfl hwr HALL.out HLLN.out hl7 ?_
                    intro A9 cap9 X9 m9 h9
                    refine hK.out _ _ trivial (fun _ => ?_)
                    clear hK K g7h hwr; (try simp only [Act.put, sI, sZ, sS])
                    replace hh := hh.mods m9 (fun k _ e => by subst e; exact hnf)
                    replace hb := hb.trans (m9.below hb.size (fun k e => by subst e; exact hl7))
                    clear m9 hnf hl7
                    refine wpAnyH_take (i := 10) (oi := ⟨some 76, _, _, _, _, _⟩) (v := ?_) rfl (by kernel_rfl) (by kernel_rfl) (by kernel_rfl) (fun _ _ _ h => h) (Or.inl ⟨by kernel_rfl, ?_⟩) (by assumption) ?_; rotate_left; (intro X hX; go_simp; first | done | with_reducible rfl); (try simp only [Act.put, sI, sZ, sS])
                    refine wpAnyH_ready (rs := [4, 11]) (by kernel_rfl) (by simp) ?_
                    refine AllReadyH.cons (o := ⟨some 70, _, _, _, _, _⟩) rfl (fun K hK => ?_) (AllReadyH.cons (o := ⟨some 77, _, _, _, _, _⟩) rfl (fun K hK => ?_) AllReadyH.nil)
                    · rw [if_pos (by rfl)]
                      have z0 : X9.cell? ⟨rb, 0, none⟩ = some CS := cell_of_row hh.box rfl
                      go_simp
                      refine hK.out _ _ trivial (fun _ => ?_)
                      clear hK K z0; (try simp only [Act.put, sI, sZ, sS])
                      refine wpAnyH_ready (rs := [11]) (by kernel_rfl) (by simp) ?_
                      refine AllReadyH.cons (o := ⟨some 77, _, _, _, _, _⟩) rfl (fun K hK => ?_) AllReadyH.nil
                      rw [if_pos (by rfl)]
                      go_simp
                      refine hK.out _ _ trivial (fun _ => ?_)
                      clear hK K; (try simp only [Act.put, sI, sZ, sS])
                      have bx : Below X9.heap.size X9 (X9.alloc (.cells #[.int .i8 7, .int .i64 S, .slice A9 L.length cap9] 62)) := (Below.refl _ _).alloc (Nat.le_refl _) _
                      have g11h := block_alloc X9 (.cells #[.int .i8 7, .int .i64 S, .slice A9 L.length cap9] 62)
                      obtain ⟨g11, hg11⟩ : ∃ g, g = X9.heap.size := ⟨_, rfl⟩
                      rw [← hg11] at g11h ⊢
                      clear hg11
                      generalize X9.alloc (.cells #[.int .i8 7, .int .i64 S, .slice A9 L.length cap9] 62) = X11 at bx g11h ⊢
                      replace hh := hh.under bx
                      replace hb := hb.trans (bx.mono hb.size)
                      replace h9 := fun hL => part_under (h9 hL) bx
                      clear bx
                      refine wpAnyH_ready (rs := [12]) (by kernel_rfl) (by simp) ?_
                      refine AllReadyH.cons (o := ⟨some 78, _, _, _, _, _⟩) rfl (fun K hK => ?_) AllReadyH.nil
                      rw [if_pos (by rfl)]
                      obtain ⟨vs, hvl, hvo, hvp⟩ := hh.row
                      refine wp_own_cell (.tmp 70) (.tmp 77) rfl hvo hh.base_le rfl g11 rfl g11h HLT.out ?_
                      intro v12 X12 ho12 hg12 hl12
                      obtain ⟨A12, cap12, rfl⟩ : ∃ A12 cap12, v12 = Value.slice A12 (cs.length + 1) cap12 := by
                        rcases ho12.2 with ⟨_, hn⟩ | ⟨g', cap', cur', e, _⟩
                        · omega
                        · exact ⟨_, _, e⟩
                      refine hK.out _ _ trivial (fun _ => ?_)
                      clear hK K g11h; (try simp only [Act.put, sI, sZ, sS])
                      have HP12 := Lib.hid (rat_push hh hvl hvo HLO.out.1 HLO.out.2.1 HLO.out.2.2 h9 ho12 hg12 hl12)
                      have HB12 := Lib.hid (And.intro hb (And.intro hl12 hh.base_le))
                      clear hvo hvp hvl ho12 h9 hh hb hg12 hl12
                      refine wpAnyH_take (i := 13) (oi := ⟨some 79, _, _, _, _, _⟩) (v := ?_) rfl (by kernel_rfl) (by kernel_rfl) (by kernel_rfl) (fun _ _ _ h => h) (Or.inl ⟨by kernel_rfl, ?_⟩) (by assumption) ?_; rotate_left; (intro X hX; go_simp; first | done | with_reducible rfl); (try simp only [Act.put, sI, sZ, sS])
                      refine wpAnyH_take (i := 14) (oi := ⟨some 80, _, _, _, _, _⟩) (v := ?_) rfl (by kernel_rfl) (by kernel_rfl) (by kernel_rfl) (fun _ _ _ h => h) (Or.inl ⟨by kernel_rfl, ?_⟩) (by assumption) ?_; rotate_left; (intro X hX; go_simp; first | done | with_reducible rfl); (try simp only [Act.put, sI, sZ, sS])
                      refine wpAnyH_ready (rs := [15]) (by kernel_rfl) (by simp) ?_
                      refine AllReadyH.cons (o := ⟨none, _, _, _, _, _⟩) rfl (fun K hK => ?_) AllReadyH.nil
                      rw [if_pos (by rfl)]
                      have z0 : X12.cell? ⟨rb, 0, none⟩ = some CS := cell_of_row HP12.out.1 rfl
                      have zf0 : X12.frozen? ⟨rb, 0, none⟩ = false := free_of_row HP12.out.1
                      go_simp
                      refine hK.out _ _ trivial (fun _ => ?_)
                      clear hK K z0 zf0; (try simp only [Act.put, sI, sZ, sS])
                      refine wpAnyH_done (by kernel_rfl) ?_ _
                      obtain ⟨hx1, hx2, hx3⟩ := HP12.out
                      obtain ⟨hbx, hlx, hbl⟩ := HB12.out
                      have hfin := cut_end (w0 := w) HLO.out.2.1 HLO.out.2.2 hx2 hx3 hbx hlx GB.out (heap_lt GB.out) HNE.out.1 HNE.out.2
                      clear hx1 hx2 hx3 hbx hlx hbl
                      have HFIN := Lib.hid hfin
                      clear hfin
                      go_wp2_with fail
                      go_meet
                      exact HFIN.out

                    · rw [if_pos (by rfl)]
                      go_simp
                      refine hK.out _ _ trivial (fun _ => ?_)
                      clear hK K; (try simp only [Act.put, sI, sZ, sS])
                      have bx : Below X9.heap.size X9 (X9.alloc (.cells #[.int .i8 7, .int .i64 S, .slice A9 L.length cap9] 62)) := (Below.refl _ _).alloc (Nat.le_refl _) _
                      have g11h := block_alloc X9 (.cells #[.int .i8 7, .int .i64 S, .slice A9 L.length cap9] 62)
                      obtain ⟨g11, hg11⟩ : ∃ g, g = X9.heap.size := ⟨_, rfl⟩
                      rw [← hg11] at g11h ⊢
                      clear hg11
                      generalize X9.alloc (.cells #[.int .i8 7, .int .i64 S, .slice A9 L.length cap9] 62) = X11 at bx g11h ⊢
                      replace hh := hh.under bx
                      replace hb := hb.trans (bx.mono hb.size)
                      replace h9 := fun hL => part_under (h9 hL) bx
                      clear bx
                      refine wpAnyH_ready (rs := [4]) (by kernel_rfl) (by simp) ?_
                      refine AllReadyH.cons (o := ⟨some 70, _, _, _, _, _⟩) rfl (fun K hK => ?_) AllReadyH.nil
                      rw [if_pos (by rfl)]
                      have z0 : X11.cell? ⟨rb, 0, none⟩ = some CS := cell_of_row hh.box rfl
                      go_simp
                      refine hK.out _ _ trivial (fun _ => ?_)
                      clear hK K z0; (try simp only [Act.put, sI, sZ, sS])
                      refine wpAnyH_ready (rs := [12]) (by kernel_rfl) (by simp) ?_
                      refine AllReadyH.cons (o := ⟨some 78, _, _, _, _, _⟩) rfl (fun K hK => ?_) AllReadyH.nil
                      rw [if_pos (by rfl)]
                      obtain ⟨vs, hvl, hvo, hvp⟩ := hh.row
                      refine wp_own_cell (.tmp 70) (.tmp 77) rfl hvo hh.base_le rfl g11 rfl g11h HLT.out ?_
                      intro v12 X12 ho12 hg12 hl12
                      obtain ⟨A12, cap12, rfl⟩ : ∃ A12 cap12, v12 = Value.slice A12 (cs.length + 1) cap12 := by
                        rcases ho12.2 with ⟨_, hn⟩ | ⟨g', cap', cur', e, _⟩
                        · omega
                        · exact ⟨_, _, e⟩
                      refine hK.out _ _ trivial (fun _ => ?_)
                      clear hK K g11h; (try simp only [Act.put, sI, sZ, sS])
                      have HP12 := Lib.hid (rat_push hh hvl hvo HLO.out.1 HLO.out.2.1 HLO.out.2.2 h9 ho12 hg12 hl12)
                      have HB12 := Lib.hid (And.intro hb (And.intro hl12 hh.base_le))
                      clear hvo hvp hvl ho12 h9 hh hb hg12 hl12
                      refine wpAnyH_take (i := 13) (oi := ⟨some 79, _, _, _, _, _⟩) (v := ?_) rfl (by kernel_rfl) (by kernel_rfl) (by kernel_rfl) (fun _ _ _ h => h) (Or.inl ⟨by kernel_rfl, ?_⟩) (by assumption) ?_; rotate_left; (intro X hX; go_simp; first | done | with_reducible rfl); (try simp only [Act.put, sI, sZ, sS])
                      refine wpAnyH_take (i := 14) (oi := ⟨some 80, _, _, _, _, _⟩) (v := ?_) rfl (by kernel_rfl) (by kernel_rfl) (by kernel_rfl) (fun _ _ _ h => h) (Or.inl ⟨by kernel_rfl, ?_⟩) (by assumption) ?_; rotate_left; (intro X hX; go_simp; first | done | with_reducible rfl); (try simp only [Act.put, sI, sZ, sS])
                      refine wpAnyH_ready (rs := [15]) (by kernel_rfl) (by simp) ?_
                      refine AllReadyH.cons (o := ⟨none, _, _, _, _, _⟩) rfl (fun K hK => ?_) AllReadyH.nil
                      rw [if_pos (by rfl)]
                      have z0 : X12.cell? ⟨rb, 0, none⟩ = some CS := cell_of_row HP12.out.1 rfl
                      have zf0 : X12.frozen? ⟨rb, 0, none⟩ = false := free_of_row HP12.out.1
                      go_simp
                      refine hK.out _ _ trivial (fun _ => ?_)
                      clear hK K z0 zf0; (try simp only [Act.put, sI, sZ, sS])
                      refine wpAnyH_done (by kernel_rfl) ?_ _
                      obtain ⟨hx1, hx2, hx3⟩ := HP12.out
                      obtain ⟨hbx, hlx, hbl⟩ := HB12.out
                      have hfin := cut_end (w0 := w) HLO.out.2.1 HLO.out.2.2 hx2 hx3 hbx hlx GB.out (heap_lt GB.out) HNE.out.1 HNE.out.2
                      clear hx1 hx2 hx3 hbx hlx hbl
                      have HFIN := Lib.hid hfin
                      clear hfin
                      go_wp2_with fail
                      go_meet
                      exact HFIN.out
              case rest =>
                obtain ⟨CS2, G2, hra, hmod, hfp, hgb⟩ := hcut
                obtain ⟨A2, cap2, rfl⟩ := hra.shape
                have gB := hgb
                have hbx2 : _ := cell_of_row (i := 0) hra.box rfl
                rw [List.length_append, List.length_singleton] at hbx2
                have HRA := Lib.hid (And.intro hra (And.intro hmod hfp))
                clear hgb
                have hcl2 := HLT.out
                clear hra hmod hfp
                have SV := Lib.hid (set_seven (.bool true) (.int .i64 (cs.length : Nat)) (.int .i8 0) (.int .i64 0) (.string ⟨#[]⟩) (.string ⟨#[]⟩) (.slice none 0 0) gB)
                have q0 := cell_of_row (i := 0) gB rfl
                have f0 := free_of_row (i := 0) gB
                have q1 := cell_of_row (i := 1) gB rfl
                have f1 := free_of_row (i := 1) gB
                have q2 := cell_of_row (i := 2) gB rfl
                have f2 := free_of_row (i := 2) gB
                have q3 := cell_of_row (i := 3) gB rfl
                have f3 := free_of_row (i := 3) gB
                have q4 := cell_of_row (i := 4) gB rfl
                have f4 := free_of_row (i := 4) gB
                have q5 := cell_of_row (i := 5) gB rfl
                have f5 := free_of_row (i := 5) gB
                have q6 := cell_of_row (i := 6) gB rfl
                have f6 := free_of_row (i := 6) gB
                clear gB
                go_wp2_with fail
                all_goals
                  obtain ⟨s7, m7⟩ := SV.out
                  generalize ((((((wc.setCell ⟨w.heap.size, 0, none⟩ (.bool true)).setCell ⟨w.heap.size, 1, none⟩ (.int .i64 (cs.length : Nat))).setCell ⟨w.heap.size, 2, none⟩ (.int .i8 0)).setCell ⟨w.heap.size, 3, none⟩ (.int .i64 0)).setCell ⟨w.heap.size, 4, none⟩ (.string ⟨#[]⟩)).setCell ⟨w.heap.size, 5, none⟩ (.string ⟨#[]⟩)).setCell ⟨w.heap.size, 6, none⟩ (.slice none 0 0) = VX at s7 m7 ⊢
                  have y0 := cell_of_row (i := 0) s7 rfl
                  have y1 := cell_of_row (i := 1) s7 rfl
                  have y2 := cell_of_row (i := 2) s7 rfl
                  have y3 := cell_of_row (i := 3) s7 rfl
                  have y4 := cell_of_row (i := 4) s7 rfl
                  have y5 := cell_of_row (i := 5) s7 rfl
                  have y6 := cell_of_row (i := 6) s7 rfl
                  refine bodyPost_ret (v := .tuple #[.agg #[.bool true, .int .i64 (cs.length : Nat), .int .i8 0, .int .i64 0, .string ⟨#[]⟩, .string ⟨#[]⟩, .slice none 0 0], .int .i64 0]) (by simp [results, Tryz.f29, go_sem, y0, y1, y2, y3, y4, y5, y6]) rfl ?_
                  have e := HRA.out
                  rw [HSUM.out] at e
                  exact .inr ⟨by rw [HRE.out]; exact HE0.out, rfl, _, G2, e.1.mods m7 (fun k _ (e' : k = w.heap.size) => by
                      subst e'
                      intro hf
                      rcases e.2.2 _ hf with h1 | h1
                      · exact HNF.out h1
                      · have := heap_lt GB.out; omega), ((Mod.of_below (F := fun i => i = rb ∨ CS.ownBlock = some i) HB1.out).trans e.2.1 (fun _ _ e => e)).trans m7 (fun k hk (e' : k = w.heap.size) => by omega), fun i hi => (e.2.2 i hi).imp id (fun h1 => Nat.le_trans HB1.out.size h1)⟩
            · have hE0 : makeE cs L = 20 := by
                unfold makeE
                rw [if_pos (List.all_eq_true.2 HALL.out), if_neg (by omega), if_pos (by omega)]
              have HE0 := Lib.hid hE0
              have h20' : decide ((1048576 : Int) ≤ ((cs.length : Nat) : Int)) = true := by rw [decide_eq_true_iff]; omega
              have h20'' : ((1048576 : Int) ≤ ((cs.length : Nat) : Int)) := by omega
              clear hE0 hful hcl
              have gB : wr.heap[w.heap.size]? = some (.cells #[(.bool false), (.int .i64 0), (.int .i8 0), (.int .i64 0), (.string ⟨#[]⟩), (.string ⟨#[]⟩), (.slice none 0 0)] 51 (0, 0)) := (HB.out.block _ (heap_lt GB.out)).trans GB.out
              have SV := Lib.hid (set_seven (.bool false) (.int .i64 0) (.int .i8 0) (.int .i64 0) (.string ⟨#[]⟩) (.string ⟨#[]⟩) (.slice none 0 0) gB)
              have q0 := cell_of_row (i := 0) gB rfl
              have f0 := free_of_row (i := 0) gB
              have q1 := cell_of_row (i := 1) gB rfl
              have f1 := free_of_row (i := 1) gB
              have q2 := cell_of_row (i := 2) gB rfl
              have f2 := free_of_row (i := 2) gB
              have q3 := cell_of_row (i := 3) gB rfl
              have f3 := free_of_row (i := 3) gB
              have q4 := cell_of_row (i := 4) gB rfl
              have f4 := free_of_row (i := 4) gB
              have q5 := cell_of_row (i := 5) gB rfl
              have f5 := free_of_row (i := 5) gB
              have q6 := cell_of_row (i := 6) gB rfl
              have f6 := free_of_row (i := 6) gB
              clear gB
              go_wp2_with fail
              all_goals
                obtain ⟨s7, m7⟩ := SV.out
                generalize ((((((wr.setCell ⟨w.heap.size, 0, none⟩ (.bool false)).setCell ⟨w.heap.size, 1, none⟩ (.int .i64 0)).setCell ⟨w.heap.size, 2, none⟩ (.int .i8 0)).setCell ⟨w.heap.size, 3, none⟩ (.int .i64 0)).setCell ⟨w.heap.size, 4, none⟩ (.string ⟨#[]⟩)).setCell ⟨w.heap.size, 5, none⟩ (.string ⟨#[]⟩)).setCell ⟨w.heap.size, 6, none⟩ (.slice none 0 0) = VX at s7 m7 ⊢
                have y0 := cell_of_row (i := 0) s7 rfl
                have y1 := cell_of_row (i := 1) s7 rfl
                have y2 := cell_of_row (i := 2) s7 rfl
                have y3 := cell_of_row (i := 3) s7 rfl
                have y4 := cell_of_row (i := 4) s7 rfl
                have y5 := cell_of_row (i := 5) s7 rfl
                have y6 := cell_of_row (i := 6) s7 rfl
                refine bodyPost_ret (v := .tuple #[.agg #[.bool false, .int .i64 0, .int .i8 0, .int .i64 0, .string ⟨#[]⟩, .string ⟨#[]⟩, .slice none 0 0], .int .i64 20]) (by simp [results, Tryz.f29, go_sem, y0, y1, y2, y3, y4, y5, y6]) rfl ?_
                exact .inl ⟨by rw [HRE.out, HE0.out]; decide, by rw [HRE.out, HE0.out]; rfl, (HB1.out.trans (HB.out.mono HB1.out.size)).trans (m7.below (HB1.out.trans (HB.out.mono HB1.out.size)).size (fun k (e : k = w.heap.size) => by omega))⟩

set_option maxHeartbeats 4000000 in
set_option maxRecDepth 100000 in
theorem rMake_kind (rb : Nat) (k : Int) (A : Option Addr) (n cap : Nat) (w : World) (hk : kindB k n = false) :
    Calls Tryz.prog 29 #[.pointer (some ⟨rb, 0, none⟩), .int .i8 k, .slice A n cap] w fun e w' => e = .returned (.tuple #[word0, .int .i64 2]) ∧ Below w.heap.size w w' := by
  have HP := Lib.hid (fun V => rparts_any k V)
  by_cases hp : (k == 5 || k == 7) = true
  · have h7 : k = 7 := by
      unfold kindB at hk
      rw [hp] at hk
      simp at hk
      exact hk.1
    subst h7
    have hn : n ≠ 2 := by
      unfold kindB at hk
      simpa using hk
    have hn' : ((n : Int) != 2) = true := by simp; omega
    clear hp hk hn
    go_enter Tryz.func29, Tryz.ntmps29
    go_wp2_with fail
    refine (HP.out _).mono ?_
    rintro e V1 ⟨rfl, rfl⟩
    rw [show ((7 : Int) == 5 || (7 : Int) == 7) = true from rfl]
    go_wp2_with fail
    refine bodyPost_ret (v := .tuple #[word0, .int .i64 2]) (by simp [results, Tryz.f29, go_sem, word0]) rfl ⟨rfl, ?_⟩
    exact (Below.refl _ w).alloc (Nat.le_refl _) _
  · have hp' : (k == 5 || k == 7) = false := by simpa using hp
    clear hp hk
    go_enter Tryz.func29, Tryz.ntmps29
    go_wp2_with fail
    refine (HP.out _).mono ?_
    rintro e V1 ⟨rfl, rfl⟩
    rw [hp']
    go_wp2_with fail
    refine bodyPost_ret (v := .tuple #[word0, .int .i64 2]) (by simp [results, Tryz.f29, go_sem, word0]) rfl ⟨rfl, ?_⟩
    exact (Below.refl _ w).alloc (Nat.le_refl _) _
theorem rMake_any {base rb : Nat} {cs : List HC} {CS : Value} {G : Nat → Prop} (hg : HGood cs) (k : Int) (L : List AW) (A : Option Addr) (cap : Nat) (w : World) (h : RAt base w rb cs CS G) (hR : WRow (· < w.heap.size) w A L.length cap L) (hll : L.length ≤ 1000) :
    Calls Tryz.prog 29 #[.pointer (some ⟨rb, 0, none⟩), .int .i8 k, .slice A L.length cap] w (RMakeP base rb cs CS G k L w) := by
  cases hk : kindB k L.length with
  | false =>
    have e2 : rE k cs L = 2 := by unfold rE; rw [if_neg (by rw [hk]; decide)]
    refine (rMake_kind rb k A L.length cap w hk).mono ?_
    rintro e w' ⟨rfl, hb⟩
    exact .inl ⟨by rw [e2]; decide, by rw [e2]; rfl, hb⟩
  | true =>
    have hk' := hk
    unfold kindB at hk
    simp only [Bool.and_eq_true, Bool.or_eq_true, beq_iff_eq] at hk
    rcases hk.1 with rfl | rfl
    · exact rMake5 hg L A cap w h hR hll
    · refine rMake7 hg L A cap w h hR hll ?_
      have h2 := hk.2
      simpa using h2
end Go.Proofs.YtaemfjmmklpjeaaGreatDoor
