/- ScanNext: its walk. -/
import Derived.Test.YtkaijnbefbggeaaDoorScanC
import Derived.Test.YtkaijnbefbggeaaDoorRef06D
set_option linter.unusedVariables false
namespace Go.Proofs.YtkaijnbefbggeaaDoor
open Go.RowKit

theorem bx_nr (w W : World) (tk tn ta rf ra : Int) (ts : ByteArray) (h : W = (w.alloc (.cells #[.int .i8 tk, .int .i64 tn, .string ts, .int .i64 ta] 25)).alloc (.cells #[.int .i64 rf, .int .i64 ra] 28)) :
    W.heap[w.heap.size]? = some (.cells #[.int .i8 tk, .int .i64 tn, .string ts, .int .i64 ta] 25 (0, 0)) ∧ W.heap[w.heap.size + 1]? = some (.cells #[.int .i64 rf, .int .i64 ra] 28 (0, 0)) ∧ Below w.heap.size w W := by
  have h1 := block_alloc (w.alloc (.cells #[.int .i8 tk, .int .i64 tn, .string ts, .int .i64 ta] 25)) (.cells #[.int .i64 rf, .int .i64 ra] 28)
  rw [World.size_alloc] at h1
  subst h
  exact ⟨(Below.heap_alloc _ _ _ (by simp)).trans (block_alloc _ _), h1, ((Below.refl _ w).alloc (Nat.le_refl _) _).alloc (by simp) _⟩

set_option maxHeartbeats 8000000 in
set_option maxRecDepth 100000 in
theorem scanNext_of {E : World → Prop} (hE : ∀ w w', E w → Below w.heap.size w w' → E w') (hC : ScanC E) (hN : NextC E) (hB : BlankC E) (s : ByteArray) (a : Int) (w : World) (hw : E w) :
    Calls Tryd.prog 3 #[.string s, .int .i64 a] w fun e w' => e = .returned (.bool true) ∧ Below w.heap.size w w' := by
  by_cases hlong : (20000 : Int) < (s.size : Int)
  · have HW := Lib.hid (wakes6_ok hE hC w hw)
    clear hE hC hN hB hw
    go_enter Tryd.func3, Tryd.ntmps3
    go_wp2_with fail
    refine HW.out.mono ?_
    rintro e V ⟨rfl, b⟩
    go_wp2_with fail
    go_ret
    exact ⟨rfl, b⟩
  have hsz : s.size ≤ 20000 := by omega
  have H1 := Lib.hid (hN s a w (by omega) hw)
  have HR : Hid (∀ V : World, Calls Tryd.prog 8 #[.string s, .int .i64 a] V fun r w' => r = .returned (nextR s a).v ∧ Below V.heap.size V w') := fun V => rNext_any s a (by omega) V
  have HBR : Hid (∀ V : World, Calls Tryd.prog 10 #[.string s, .int .i64 a] V fun e w' => e = .returned (.int .i64 (blankR s a)) ∧ V = w') := fun V => rBlank_any s a V (by omega)
  have HE := Lib.hid hE
  have HC := Lib.hid hC
  have HB := Lib.hid hB
  have HW := Lib.hid hw
  have HSZ : Hid (s.size ≤ 1000000) := by show _ ≤ _; omega
  clear hE hC hN hB hw hsz
  obtain ⟨⟨⟨tk, tn, ts, ta⟩, re, rf, ra⟩, hnr⟩ : ∃ R : NR, R = nextR s a := ⟨_, rfl⟩
  rw [← hnr] at H1 HR
  obtain ⟨bl, hbl⟩ : ∃ bl, bl = blankR s a := ⟨_, rfl⟩
  have HBC : Hid (∀ V : World, E V → Calls Tryd.prog 9 #[.string s, .int .i64 a] V fun r w' => r = .returned (.int .i64 bl) ∧ Below V.heap.size V w') := fun V hV => by rw [hbl]; exact HB.out s a V HSZ.out hV
  rw [← hbl] at HBR
  clear hnr hbl
  go_enter Tryd.func3, Tryd.ntmps3
  go_wp2_with fail
  refine H1.out.mono ?_
  rintro r w1 ⟨rfl, b1⟩
  simp only [NR.v, Tk.v]
  obtain ⟨W2, hW2⟩ : ∃ W2, W2 = (w1.alloc (.cells #[.int .i8 tk, .int .i64 tn, .string ts, .int .i64 ta] 25)).alloc (.cells #[.int .i64 rf, .int .i64 ra] 28) := ⟨_, rfl⟩
  obtain ⟨g5, g7, b2⟩ := bx_nr w1 W2 tk tn ta rf ra ts hW2
  have HB2 := Lib.hid (b1.trans (b2.mono b1.size))
  have HG2 := Lib.hid (And.intro g5 g7)
  clear b1 b2 g5 g7
  subst hW2
  go_wp2_with fail
  generalize (w1.alloc (.cells #[.int .i8 tk, .int .i64 tn, .string ts, .int .i64 ta] 25)).alloc (.cells #[.int .i64 rf, .int .i64 ra] 28) = W2 at HB2 HG2 ⊢
  refine (HR.out W2).mono ?_
  rintro r w3 ⟨rfl, b3⟩
  simp only [NR.v, Tk.v]
  obtain ⟨W4, hW4⟩ : ∃ W4, W4 = (w3.alloc (.cells #[.int .i8 tk, .int .i64 tn, .string ts, .int .i64 ta] 25)).alloc (.cells #[.int .i64 rf, .int .i64 ra] 28) := ⟨_, rfl⟩
  obtain ⟨g8, g10, b4⟩ := bx_nr w3 W4 tk tn ta rf ra ts hW4
  have b34 := b3.trans (b4.mono b3.size)
  have g5 := (b34.block _ (heap_lt HG2.out.1)).trans HG2.out.1
  have g7 := (b34.block _ (heap_lt HG2.out.2)).trans HG2.out.2
  have HB4 := Lib.hid (HB2.out.trans (b34.mono HB2.out.size))
  have x0 : W4.cell? ⟨w1.heap.size, 0, none⟩ = some (.int .i8 tk) := cell_of_row g5 rfl
  have x1 : W4.cell? ⟨w1.heap.size, 1, none⟩ = some (.int .i64 tn) := cell_of_row g5 rfl
  have x2 : W4.cell? ⟨w1.heap.size, 2, none⟩ = some (.string ts) := cell_of_row g5 rfl
  have x3 : W4.cell? ⟨w1.heap.size, 3, none⟩ = some (.int .i64 ta) := cell_of_row g5 rfl
  have y0 : W4.cell? ⟨(w1.heap.size + 1), 0, none⟩ = some (.int .i64 rf) := cell_of_row g7 rfl
  have y1 : W4.cell? ⟨(w1.heap.size + 1), 1, none⟩ = some (.int .i64 ra) := cell_of_row g7 rfl
  have u0 : W4.cell? ⟨w3.heap.size, 0, none⟩ = some (.int .i8 tk) := cell_of_row g8 rfl
  have u1 : W4.cell? ⟨w3.heap.size, 1, none⟩ = some (.int .i64 tn) := cell_of_row g8 rfl
  have u2 : W4.cell? ⟨w3.heap.size, 2, none⟩ = some (.string ts) := cell_of_row g8 rfl
  have u3 : W4.cell? ⟨w3.heap.size, 3, none⟩ = some (.int .i64 ta) := cell_of_row g8 rfl
  have z0 : W4.cell? ⟨(w3.heap.size + 1), 0, none⟩ = some (.int .i64 rf) := cell_of_row g10 rfl
  have z1 : W4.cell? ⟨(w3.heap.size + 1), 1, none⟩ = some (.int .i64 ra) := cell_of_row g10 rfl
  clear b3 b4 b34 g5 g7 g8 g10
  subst hW4
  go_wp2_with fail
  generalize (w3.alloc (.cells #[.int .i8 tk, .int .i64 tn, .string ts, .int .i64 ta] 25)).alloc (.cells #[.int .i64 rf, .int .i64 ra] 28) = W4 at HB4 ⊢
  clear x0 x1 x2 x3 y0 y1 u0 u1 u2 u3 z0 z1
  refine (HBC.out W4 (HE.out _ _ HW.out HB4.out)).mono ?_
  rintro r w5 ⟨rfl, b5⟩
  have HB5 := Lib.hid (HB4.out.trans (b5.mono HB4.out.size))
  clear b5
  go_wp2_with fail
  refine (HBR.out w5).mono ?_
  rintro r V ⟨rfl, hVV⟩
  subst V
  have HWK := Lib.hid (wakes6_ok HE.out HC.out w5 (HE.out _ _ HW.out HB5.out))
  go_wp2_with fail
  refine HWK.out.mono ?_
  rintro e w6 ⟨rfl, b6⟩
  have HB6 := Lib.hid (HB5.out.trans (b6.mono HB5.out.size))
  clear b6
  go_wp2_with fail
  go_ret
  exact ⟨rfl, HB6.out⟩
end Go.Proofs.YtkaijnbefbggeaaDoor
