/- package heap: Leaf. -/
import Derived.Test.YtphfekcacaaabaaDoorHeapOwn
set_option linter.unusedVariables false
namespace Go.Proofs.YtphfekcacaaabaaDoor
open Go.RowKit

/-- Why a term is no leaf. -/
def leafE (x : Tm) : Int := if checkN x = 30 then 30 else if (x.k == 5 || x.k == 7) = true then 2 else 0
/-- The word of a leaf. -/
def leafV (x : Tm) : Value := .agg #[.bool false, .int .i64 0, .int .i8 x.k, .int .i64 x.n, .string x.s, .string x.t, .slice none 0 0]
/-- What Leaf hands back. -/
def LeafP (x : Tm) (w : World) (e : Ending) (w' : World) : Prop := e = .returned (.tuple #[if leafE x = 0 then leafV x else word0, .int .i64 (leafE x)]) ∧ Below w.heap.size w w'

set_option maxHeartbeats 4000000 in
set_option maxRecDepth 100000 in
theorem Leaf_any (x : Tm) (v : Value) (w : World) (hx : TmAt (· < w.heap.size) w x v) (hS : Spans w) : Calls Tryd.prog 39 #[v] w (LeafP x w) := by
  obtain ⟨k, n, s, t, l⟩ := x
  obtain ⟨A, cap, rfl, -⟩ := hx.parts
  obtain ⟨w1, hw1⟩ : ∃ w1, w1 = (w.alloc (.cells #[(.int .i8 k), (.int .i64 n), (.string s), (.string t), (.slice A l.length cap)] 25)).alloc (.cells #[(.bool false), (.int .i64 0), (.int .i8 0), (.int .i64 0), (.string ⟨#[]⟩), (.string ⟨#[]⟩), (.slice none 0 0)] 27) := ⟨_, rfl⟩
  have B1 : Below w.heap.size w w1 := by rw [hw1]; exact ((Below.refl _ w).alloc (Nat.le_refl _) _).alloc (by simp) _
  have g1 : w1.heap[w.heap.size]? = some (.cells #[(.int .i8 k), (.int .i64 n), (.string s), (.string t), (.slice A l.length cap)] 25 (0, 0)) := by rw [hw1, Below.heap_alloc _ _ _ (by simp)]; exact block_alloc _ _
  have r1 : w1.heap[w.heap.size + 1]? = some (.cells #[(.bool false), (.int .i64 0), (.int .i8 0), (.int .i64 0), (.string ⟨#[]⟩), (.string ⟨#[]⟩), (.slice none 0 0)] 27 (0, 0)) := by
    rw [hw1]
    have := block_alloc (w.alloc (.cells #[(.int .i8 k), (.int .i64 n), (.string s), (.string t), (.slice A l.length cap)] 25)) (.cells #[(.bool false), (.int .i64 0), (.int .i8 0), (.int .i64 0), (.string ⟨#[]⟩), (.string ⟨#[]⟩), (.slice none 0 0)] 27)
    rwa [World.size_alloc] at this
  have HC := Lib.hid (Check_any _ _ w1 (hx.later B1) (hS.below B1 hS.lt))
  have HB1 := Lib.hid B1
  have HG1 := Lib.hid g1
  have HR1 := Lib.hid r1
  have x0 : w1.cell? ⟨w.heap.size, 0, none⟩ = some (.int .i8 k) := cell_of_row g1 rfl
  have x1 : w1.cell? ⟨w.heap.size, 1, none⟩ = some (.int .i64 n) := cell_of_row g1 rfl
  have x2 : w1.cell? ⟨w.heap.size, 2, none⟩ = some (.string s) := cell_of_row g1 rfl
  have x3 : w1.cell? ⟨w.heap.size, 3, none⟩ = some (.string t) := cell_of_row g1 rfl
  have x4 : w1.cell? ⟨w.heap.size, 4, none⟩ = some (.slice A l.length cap) := cell_of_row g1 rfl
  clear hx hS B1 g1 r1
  subst hw1
  go_enter Tryd.func39, Tryd.ntmps39
  go_wp2_with fail
  refine HC.out.mono ?_
  rintro e V1 ⟨rfl, b1⟩
  have g2 := (b1.block _ (heap_lt HG1.out)).trans HG1.out
  have r2 := (b1.block _ (heap_lt HR1.out)).trans HR1.out
  have HB2 := Lib.hid (HB1.out.trans (b1.mono HB1.out.size))
  have HG2 := Lib.hid g2
  have HR2 := Lib.hid r2
  clear b1 x0 x1 x2 x3 x4
  by_cases hc : checkN (.mk k n s t l) = 30
  · have hc1 : (checkN (.mk k n s t l) == 30) = true := by simpa using hc
    have HE := Lib.hid (show leafE (.mk k n s t l) = 30 by unfold leafE; rw [if_pos hc])
    have y0 : V1.cell? ⟨(w.heap.size + 1), 0, none⟩ = some (.bool false) := cell_of_row r2 rfl
    have y1 : V1.cell? ⟨(w.heap.size + 1), 1, none⟩ = some (.int .i64 0) := cell_of_row r2 rfl
    have y2 : V1.cell? ⟨(w.heap.size + 1), 2, none⟩ = some (.int .i8 0) := cell_of_row r2 rfl
    have y3 : V1.cell? ⟨(w.heap.size + 1), 3, none⟩ = some (.int .i64 0) := cell_of_row r2 rfl
    have y4 : V1.cell? ⟨(w.heap.size + 1), 4, none⟩ = some (.string ⟨#[]⟩) := cell_of_row r2 rfl
    have y5 : V1.cell? ⟨(w.heap.size + 1), 5, none⟩ = some (.string ⟨#[]⟩) := cell_of_row r2 rfl
    have y6 : V1.cell? ⟨(w.heap.size + 1), 6, none⟩ = some (.slice none 0 0) := cell_of_row r2 rfl
    have f0 : V1.frozen? ⟨(w.heap.size + 1), 0, none⟩ = false := free_of_row r2
    have f1 : V1.frozen? ⟨(w.heap.size + 1), 1, none⟩ = false := free_of_row r2
    have f2 : V1.frozen? ⟨(w.heap.size + 1), 2, none⟩ = false := free_of_row r2
    have f3 : V1.frozen? ⟨(w.heap.size + 1), 3, none⟩ = false := free_of_row r2
    have f4 : V1.frozen? ⟨(w.heap.size + 1), 4, none⟩ = false := free_of_row r2
    have f5 : V1.frozen? ⟨(w.heap.size + 1), 5, none⟩ = false := free_of_row r2
    have f6 : V1.frozen? ⟨(w.heap.size + 1), 6, none⟩ = false := free_of_row r2
    have SV := Lib.hid (set_seven (.bool false) (.int .i64 0) (.int .i8 0) (.int .i64 0) (.string ⟨#[]⟩) (.string ⟨#[]⟩) (.slice none 0 0) r2)
    clear hc g2 r2
    go_wp2_with fail
    obtain ⟨s7, m7⟩ := SV.out
    generalize (((((((V1.setCell ⟨(w.heap.size + 1), 0, none⟩ (.bool false)).setCell ⟨(w.heap.size + 1), 1, none⟩ (.int .i64 0)).setCell ⟨(w.heap.size + 1), 2, none⟩ (.int .i8 0)).setCell ⟨(w.heap.size + 1), 3, none⟩ (.int .i64 0)).setCell ⟨(w.heap.size + 1), 4, none⟩ (.string ⟨#[]⟩)).setCell ⟨(w.heap.size + 1), 5, none⟩ (.string ⟨#[]⟩)).setCell ⟨(w.heap.size + 1), 6, none⟩ (.slice none 0 0)) = VX at s7 m7 ⊢
    have z0 : VX.cell? ⟨(w.heap.size + 1), 0, none⟩ = some (.bool false) := cell_of_row s7 rfl
    have z1 : VX.cell? ⟨(w.heap.size + 1), 1, none⟩ = some (.int .i64 0) := cell_of_row s7 rfl
    have z2 : VX.cell? ⟨(w.heap.size + 1), 2, none⟩ = some (.int .i8 0) := cell_of_row s7 rfl
    have z3 : VX.cell? ⟨(w.heap.size + 1), 3, none⟩ = some (.int .i64 0) := cell_of_row s7 rfl
    have z4 : VX.cell? ⟨(w.heap.size + 1), 4, none⟩ = some (.string ⟨#[]⟩) := cell_of_row s7 rfl
    have z5 : VX.cell? ⟨(w.heap.size + 1), 5, none⟩ = some (.string ⟨#[]⟩) := cell_of_row s7 rfl
    have z6 : VX.cell? ⟨(w.heap.size + 1), 6, none⟩ = some (.slice none 0 0) := cell_of_row s7 rfl
    refine bodyPost_ret (v := .tuple #[.agg #[(.bool false), (.int .i64 0), (.int .i8 0), (.int .i64 0), (.string ⟨#[]⟩), (.string ⟨#[]⟩), (.slice none 0 0)], (.int .i64 30)]) (by simp [results, Tryd.f39, go_sem, z0, z1, z2, z3, z4, z5, z6]) rfl ?_
    exact ⟨by rw [HE.out]; rfl, HB2.out.trans (m7.below HB2.out.size (fun k (e : k = w.heap.size + 1) => by omega))⟩
  · have hc1 : (checkN (.mk k n s t l) == 30) = false := by simpa using hc
    have HNC := Lib.hid hc
    have x0 : V1.cell? ⟨w.heap.size, 0, none⟩ = some (.int .i8 k) := cell_of_row g2 rfl
    clear hc g2
    go_wp2_with fail
    refine (parted_any k _).mono ?_
    rintro e V2 ⟨rfl, rfl⟩
    clear x0
    cases hp : (k == 5 || k == 7)
    · have hk : k ≠ 5 ∧ k ≠ 7 := by simpa using hp
      have HE := Lib.hid (show leafE (.mk k n s t l) = 0 by unfold leafE; rw [if_neg HNC.out, if_neg (by show ¬ (k == 5 || k == 7) = true; rw [hp]; decide)])
      obtain ⟨-, hl0, hs32, ht32⟩ := leaf_case (x := .mk k n s t l) HNC.out hk.1 hk.2
      have OW := Lib.hid (fun V => own_any false 0 k n s t A l.length cap (Nat.le_trans hs32 (by decide)) (Nat.le_trans ht32 (by decide)) V)
      have g3 := HG2.out
      have x0 : V1.cell? ⟨w.heap.size, 0, none⟩ = some (.int .i8 k) := cell_of_row g3 rfl
      have x1 : V1.cell? ⟨w.heap.size, 1, none⟩ = some (.int .i64 n) := cell_of_row g3 rfl
      have x2 : V1.cell? ⟨w.heap.size, 2, none⟩ = some (.string s) := cell_of_row g3 rfl
      have x3 : V1.cell? ⟨w.heap.size, 3, none⟩ = some (.string t) := cell_of_row g3 rfl
      have x4 : V1.cell? ⟨w.heap.size, 4, none⟩ = some (.slice A l.length cap) := cell_of_row g3 rfl
      clear hk hl0 hs32 ht32 g3 r2
      go_wp2_with fail
      refine (OW.out _).mono ?_
      rintro e V3 ⟨rfl, b3⟩
      have r3 := (b3.block _ (heap_lt HR2.out)).trans HR2.out
      have HB3 := Lib.hid (HB2.out.trans (b3.mono HB2.out.size))
      clear b3 x0 x1 x2 x3 x4
      have y0 : V3.cell? ⟨(w.heap.size + 1), 0, none⟩ = some (.bool false) := cell_of_row r3 rfl
      have y1 : V3.cell? ⟨(w.heap.size + 1), 1, none⟩ = some (.int .i64 0) := cell_of_row r3 rfl
      have y2 : V3.cell? ⟨(w.heap.size + 1), 2, none⟩ = some (.int .i8 0) := cell_of_row r3 rfl
      have y3 : V3.cell? ⟨(w.heap.size + 1), 3, none⟩ = some (.int .i64 0) := cell_of_row r3 rfl
      have y4 : V3.cell? ⟨(w.heap.size + 1), 4, none⟩ = some (.string ⟨#[]⟩) := cell_of_row r3 rfl
      have y5 : V3.cell? ⟨(w.heap.size + 1), 5, none⟩ = some (.string ⟨#[]⟩) := cell_of_row r3 rfl
      have y6 : V3.cell? ⟨(w.heap.size + 1), 6, none⟩ = some (.slice none 0 0) := cell_of_row r3 rfl
      have f0 : V3.frozen? ⟨(w.heap.size + 1), 0, none⟩ = false := free_of_row r3
      have f1 : V3.frozen? ⟨(w.heap.size + 1), 1, none⟩ = false := free_of_row r3
      have f2 : V3.frozen? ⟨(w.heap.size + 1), 2, none⟩ = false := free_of_row r3
      have f3 : V3.frozen? ⟨(w.heap.size + 1), 3, none⟩ = false := free_of_row r3
      have f4 : V3.frozen? ⟨(w.heap.size + 1), 4, none⟩ = false := free_of_row r3
      have f5 : V3.frozen? ⟨(w.heap.size + 1), 5, none⟩ = false := free_of_row r3
      have f6 : V3.frozen? ⟨(w.heap.size + 1), 6, none⟩ = false := free_of_row r3
      have SV := Lib.hid (set_seven (.bool false) (.int .i64 0) (.int .i8 k) (.int .i64 n) (.string s) (.string t) (.slice none 0 0) r3)
      clear r3
      go_wp2_with fail
      obtain ⟨s7, m7⟩ := SV.out
      generalize (((((((V3.setCell ⟨(w.heap.size + 1), 0, none⟩ (.bool false)).setCell ⟨(w.heap.size + 1), 1, none⟩ (.int .i64 0)).setCell ⟨(w.heap.size + 1), 2, none⟩ (.int .i8 k)).setCell ⟨(w.heap.size + 1), 3, none⟩ (.int .i64 n)).setCell ⟨(w.heap.size + 1), 4, none⟩ (.string s)).setCell ⟨(w.heap.size + 1), 5, none⟩ (.string t)).setCell ⟨(w.heap.size + 1), 6, none⟩ (.slice none 0 0)) = VX at s7 m7 ⊢
      have z0 : VX.cell? ⟨(w.heap.size + 1), 0, none⟩ = some (.bool false) := cell_of_row s7 rfl
      have z1 : VX.cell? ⟨(w.heap.size + 1), 1, none⟩ = some (.int .i64 0) := cell_of_row s7 rfl
      have z2 : VX.cell? ⟨(w.heap.size + 1), 2, none⟩ = some (.int .i8 k) := cell_of_row s7 rfl
      have z3 : VX.cell? ⟨(w.heap.size + 1), 3, none⟩ = some (.int .i64 n) := cell_of_row s7 rfl
      have z4 : VX.cell? ⟨(w.heap.size + 1), 4, none⟩ = some (.string s) := cell_of_row s7 rfl
      have z5 : VX.cell? ⟨(w.heap.size + 1), 5, none⟩ = some (.string t) := cell_of_row s7 rfl
      have z6 : VX.cell? ⟨(w.heap.size + 1), 6, none⟩ = some (.slice none 0 0) := cell_of_row s7 rfl
      refine bodyPost_ret (v := .tuple #[.agg #[(.bool false), (.int .i64 0), (.int .i8 k), (.int .i64 n), (.string s), (.string t), (.slice none 0 0)], (.int .i64 0)]) (by simp [results, Tryd.f39, go_sem, z0, z1, z2, z3, z4, z5, z6]) rfl ?_
      exact ⟨by rw [HE.out, if_pos rfl]; rfl, HB3.out.trans (m7.below HB3.out.size (fun k (e : k = w.heap.size + 1) => by omega))⟩
    · have HE := Lib.hid (show leafE (.mk k n s t l) = 2 by unfold leafE; rw [if_neg HNC.out, if_pos (by show (k == 5 || k == 7) = true; exact hp)])
      have y0 : V1.cell? ⟨(w.heap.size + 1), 0, none⟩ = some (.bool false) := cell_of_row r2 rfl
      have y1 : V1.cell? ⟨(w.heap.size + 1), 1, none⟩ = some (.int .i64 0) := cell_of_row r2 rfl
      have y2 : V1.cell? ⟨(w.heap.size + 1), 2, none⟩ = some (.int .i8 0) := cell_of_row r2 rfl
      have y3 : V1.cell? ⟨(w.heap.size + 1), 3, none⟩ = some (.int .i64 0) := cell_of_row r2 rfl
      have y4 : V1.cell? ⟨(w.heap.size + 1), 4, none⟩ = some (.string ⟨#[]⟩) := cell_of_row r2 rfl
      have y5 : V1.cell? ⟨(w.heap.size + 1), 5, none⟩ = some (.string ⟨#[]⟩) := cell_of_row r2 rfl
      have y6 : V1.cell? ⟨(w.heap.size + 1), 6, none⟩ = some (.slice none 0 0) := cell_of_row r2 rfl
      have f0 : V1.frozen? ⟨(w.heap.size + 1), 0, none⟩ = false := free_of_row r2
      have f1 : V1.frozen? ⟨(w.heap.size + 1), 1, none⟩ = false := free_of_row r2
      have f2 : V1.frozen? ⟨(w.heap.size + 1), 2, none⟩ = false := free_of_row r2
      have f3 : V1.frozen? ⟨(w.heap.size + 1), 3, none⟩ = false := free_of_row r2
      have f4 : V1.frozen? ⟨(w.heap.size + 1), 4, none⟩ = false := free_of_row r2
      have f5 : V1.frozen? ⟨(w.heap.size + 1), 5, none⟩ = false := free_of_row r2
      have f6 : V1.frozen? ⟨(w.heap.size + 1), 6, none⟩ = false := free_of_row r2
      have SV := Lib.hid (set_seven (.bool false) (.int .i64 0) (.int .i8 0) (.int .i64 0) (.string ⟨#[]⟩) (.string ⟨#[]⟩) (.slice none 0 0) r2)
      clear r2
      go_wp2_with fail
      obtain ⟨s7, m7⟩ := SV.out
      generalize (((((((V1.setCell ⟨(w.heap.size + 1), 0, none⟩ (.bool false)).setCell ⟨(w.heap.size + 1), 1, none⟩ (.int .i64 0)).setCell ⟨(w.heap.size + 1), 2, none⟩ (.int .i8 0)).setCell ⟨(w.heap.size + 1), 3, none⟩ (.int .i64 0)).setCell ⟨(w.heap.size + 1), 4, none⟩ (.string ⟨#[]⟩)).setCell ⟨(w.heap.size + 1), 5, none⟩ (.string ⟨#[]⟩)).setCell ⟨(w.heap.size + 1), 6, none⟩ (.slice none 0 0)) = VX at s7 m7 ⊢
      have z0 : VX.cell? ⟨(w.heap.size + 1), 0, none⟩ = some (.bool false) := cell_of_row s7 rfl
      have z1 : VX.cell? ⟨(w.heap.size + 1), 1, none⟩ = some (.int .i64 0) := cell_of_row s7 rfl
      have z2 : VX.cell? ⟨(w.heap.size + 1), 2, none⟩ = some (.int .i8 0) := cell_of_row s7 rfl
      have z3 : VX.cell? ⟨(w.heap.size + 1), 3, none⟩ = some (.int .i64 0) := cell_of_row s7 rfl
      have z4 : VX.cell? ⟨(w.heap.size + 1), 4, none⟩ = some (.string ⟨#[]⟩) := cell_of_row s7 rfl
      have z5 : VX.cell? ⟨(w.heap.size + 1), 5, none⟩ = some (.string ⟨#[]⟩) := cell_of_row s7 rfl
      have z6 : VX.cell? ⟨(w.heap.size + 1), 6, none⟩ = some (.slice none 0 0) := cell_of_row s7 rfl
      refine bodyPost_ret (v := .tuple #[.agg #[(.bool false), (.int .i64 0), (.int .i8 0), (.int .i64 0), (.string ⟨#[]⟩), (.string ⟨#[]⟩), (.slice none 0 0)], (.int .i64 2)]) (by simp [results, Tryd.f39, go_sem, z0, z1, z2, z3, z4, z5, z6]) rfl ?_
      exact ⟨by rw [HE.out]; rfl, HB2.out.trans (m7.below HB2.out.size (fun k (e : k = w.heap.size + 1) => by omega))⟩
end Go.Proofs.YtphfekcacaaabaaDoor
