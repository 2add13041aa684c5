/- The walk of IntsUnits: what 0 and 1 do. -/
import Derived.Test.YthbbpcgaakbolaaWakes01
import Derived.Outline
import Derived.LoopTactic
namespace Go.Proofs.Ythbbpcgaakbolaa
open Go.RowKit

/-- The rows of the table. -/
def unitsRow (a0 : Int) : Array Value := #[.string ⟨#[43]⟩, .int .i64 0, .int .i64 a0, .string ⟨#[45]⟩, .int .i64 0, .int .i64 a0, .string ⟨#[42]⟩, .int .i64 1, .int .i64 a0, .string ⟨#[42]⟩, .int .i64 0, .int .i64 0, .string ⟨#[100, 105, 118]⟩, .int .i64 1, .int .i64 a0, .string ⟨#[114, 101, 109]⟩, .int .i64 1, .int .i64 0, .string ⟨#[45]⟩, .int .i64 a0, .int .i64 0]

theorem bcell {W w1 : World} (hb : Below W.heap.size W w1) : (∀ b o, b < W.heap.size → w1.cell? ⟨b, o, none⟩ = W.cell? ⟨b, o, none⟩) ∧ (∀ b o, b < W.heap.size → w1.frozen? ⟨b, o, none⟩ = W.frozen? ⟨b, o, none⟩) :=
  ⟨fun b o h => hb.cell (p := ⟨b, o, none⟩) h, fun b o h => hb.frozen (p := ⟨b, o, none⟩) h⟩

theorem cell_of_row {w : World} {b i : Nat} {cs : Array Value} {T : TypeId} {z : Nat × Nat} {v : Value} (h : w.heap[b]? = some (.cells cs T z)) (hi : cs[i]? = some v) : w.cell? ⟨b, i, none⟩ = some v := by
  simp [World.cell?, h, hi]

/-- Do, where its answer is known. -/
theorem Do_at (s : ByteArray) (a b n e' : Int) (w : World) (h : doR s a b = (n, e')) : Calls Try.prog 9 #[.string s, .int .i64 a, .int .i64 b] w fun e w' => e = .returned (.tuple #[.int .i64 n, .int .i64 e']) ∧ Below w.heap.size w w' := by
  have k := Do_any s a b w
  rw [h] at k
  exact k

theorem u_add0 (a0 : Int) (hm : mayB a0 = true) : doR ⟨#[43]⟩ a0 0 = (a0, 0) := by
  have hab : ¬ (mayB a0 = false ∨ mayB (0) = false) := by
    have h2 : mayB (0) = true := (by decide)
    rw [h2]; first | (rw [hm]; decide) | decide
  show doR sPlus a0 0 = _
  unfold doR
  rw [if_neg hab, if_pos rfl, Int.add_zero, fit_yes hm]

theorem u_sub0 (a0 : Int) (hm : mayB a0 = true) : doR ⟨#[45]⟩ a0 0 = (a0, 0) := by
  have hab : ¬ (mayB a0 = false ∨ mayB (0) = false) := by
    have h2 : mayB (0) = true := (by decide)
    rw [h2]; first | (rw [hm]; decide) | decide
  show doR sMinus a0 0 = _
  unfold doR
  rw [if_neg hab, if_neg (by decide), if_pos rfl, Int.sub_zero, fit_yes hm]

theorem u_mul1 (a0 : Int) (hm : mayB a0 = true) : doR ⟨#[42]⟩ a0 1 = (a0, 0) := by
  have hab : ¬ (mayB a0 = false ∨ mayB (1) = false) := by
    have h2 : mayB (1) = true := (by decide)
    rw [h2]; first | (rw [hm]; decide) | decide
  show doR sTimes a0 1 = _
  unfold doR
  rw [if_neg hab, if_neg (by decide), if_neg (by decide), if_pos rfl, Int.mul_one, fit_yes hm]

theorem u_mul0 (a0 : Int) (hm : mayB a0 = true) : doR ⟨#[42]⟩ a0 0 = (0, 0) := by
  have hab : ¬ (mayB a0 = false ∨ mayB (0) = false) := by
    have h2 : mayB (0) = true := (by decide)
    rw [h2]; first | (rw [hm]; decide) | decide
  show doR sTimes a0 0 = _
  unfold doR
  rw [if_neg hab, if_neg (by decide), if_neg (by decide), if_pos rfl, Int.mul_zero, fit_yes (by decide)]

theorem u_div1 (a0 : Int) (hm : mayB a0 = true) : doR ⟨#[100, 105, 118]⟩ a0 1 = (a0, 0) := by
  have hab : ¬ (mayB a0 = false ∨ mayB (1) = false) := by
    have h2 : mayB (1) = true := (by decide)
    rw [h2]; first | (rw [hm]; decide) | decide
  show doR sDiv a0 1 = _
  unfold doR
  rw [if_neg hab, if_neg (by decide), if_neg (by decide), if_neg (by decide), if_pos rfl, if_neg (by omega), Int.tdiv_one, fit_yes hm]

theorem u_rem1 (a0 : Int) (hm : mayB a0 = true) : doR ⟨#[114, 101, 109]⟩ a0 1 = (0, 0) := by
  have hab : ¬ (mayB a0 = false ∨ mayB (1) = false) := by
    have h2 : mayB (1) = true := (by decide)
    rw [h2]; first | (rw [hm]; decide) | decide
  show doR sRem a0 1 = _
  unfold doR
  rw [if_neg hab, if_neg (by decide), if_neg (by decide), if_neg (by decide), if_neg (by decide), if_pos rfl, if_neg (by omega), Int.tmod_one, fit_yes (by decide)]

theorem u_sub_self (a0 : Int) (hm : mayB a0 = true) : doR ⟨#[45]⟩ a0 a0 = (0, 0) := by
  have hab : ¬ (mayB a0 = false ∨ mayB (a0) = false) := by
    have h2 : mayB (a0) = true := hm
    rw [h2]; first | (rw [hm]; decide) | decide
  show doR sMinus a0 a0 = _
  unfold doR
  rw [if_neg hab, if_neg (by decide), if_pos rfl, Int.sub_self, fit_yes (by decide)]

theorem u_least : doR ⟨#[42]⟩ (-576460752303423488) (-1) = (0, 11) := by decide +kernel
theorem u_neg (a0 : Int) (hm : mayB a0 = true) (hn : mayB (-a0) = true) : doR ⟨#[42]⟩ a0 (-1) = (-a0, 0) := by
  have hab : ¬ (mayB a0 = false ∨ mayB (-1) = false) := by
    have h2 : mayB (-1) = true := by decide
    rw [h2, hm]; decide
  show doR sTimes a0 (-1) = _
  unfold doR
  rw [if_neg hab, if_neg (by decide), if_neg (by decide), if_pos rfl, show a0 * (-1) = -a0 from by omega, fit_yes hn]
theorem u_back (a0 : Int) (hm : mayB a0 = true) (hn : mayB (-a0) = true) : doR ⟨#[43]⟩ a0 (-a0) = (0, 0) := by
  have hab : ¬ (mayB a0 = false ∨ mayB (-a0) = false) := by
    rw [hn, hm]; decide
  show doR sPlus a0 (-a0) = _
  unfold doR
  rw [if_neg hab, if_pos rfl, show a0 + (-a0) = 0 from by omega, fit_yes (by decide)]

set_option maxHeartbeats 4000000 in
set_option maxRecDepth 100000 in
theorem walk_IntsUnits (a0 : Int) (_w0 : (Lit.int .i64 a0).wf = true) (w : World) :
    Calls Try.prog 7 #[.int .i64 a0] w fun e w' => e = .returned (.bool true) ∧ Below w.heap.size w w' := by
  cases hm : mayB a0
  · go_enter Try.func7, Try.ntmps7
    go_wp2_with (first | (go_at_call 15; refine (May_any _ _).mono ?_; rintro e w' ⟨rfl, rfl⟩) | (go_at_call 8; refine (wakes_any _).mono ?_; rintro e w1 ⟨rfl, b1⟩))
    go_ret
    exact ⟨rfl, b1⟩
  · have hb0 := (Below.refl w.heap.size w).alloc (Nat.le_refl _) (.cells (unitsRow a0) 35)
    have HB := Lib.hid hb0
    clear hb0
    go_enter Try.func7, Try.ntmps7
    go_wp2_with (first | (go_at_call 15; refine (May_any _ _).mono ?_; rintro e w' ⟨rfl, rfl⟩))
    go_loopw [29] (fun i wr => ∃ k : Nat, k ≤ 7 ∧ i = .int .i64 k ∧ wr.heap[w.heap.size]? = some (.cells (unitsRow a0) 35) ∧ Below w.heap.size w wr) (fun i _ => 7 - (intOf i).toNat)
    case atStart => exact ⟨0, by omega, rfl, (MapKept.heap_alloc w _).1, HB.out⟩
    case round =>
      obtain ⟨k, hk, rfl, hrow, hbw⟩ := hrel
      have hsz : w.heap.size < wr.heap.size := (Array.getElem?_eq_some_iff.1 hrow).1
      have HR := Lib.hid hrow
      have HW := Lib.hid hbw
      clear hbw
      have hk7 : k = 0 ∨ k = 1 ∨ k = 2 ∨ k = 3 ∨ k = 4 ∨ k = 5 ∨ k = 6 ∨ k = 7 := by omega
      rcases hk7 with rfl | rfl | rfl | rfl | rfl | rfl | rfl | rfl
      · have g0 := cell_of_row (i := 0) (v := .string ⟨#[43]⟩) hrow rfl
        have g1 := cell_of_row (i := 1) (v := .int .i64 0) hrow rfl
        have g2 := cell_of_row (i := 2) (v := .int .i64 a0) hrow rfl
        clear hrow
        go_wp2_with (first | (go_at_call 9; refine (Do_at _ _ _ _ _ _ (u_add0 a0 hm)).mono ?_; rintro e w1 ⟨rfl, b1⟩; obtain ⟨hc, hf⟩ := bcell b1))
        exact ⟨⟨1, by omega, rfl, (b1.block _ (by simp; omega)).trans ((Below.heap_alloc _ _ _ hsz).trans HR.out), (HW.out.alloc (Nat.le_of_lt hsz) _).trans (b1.mono (by simp; omega))⟩, by simp [intOf]⟩
      · have g0 := cell_of_row (i := 3) (v := .string ⟨#[45]⟩) hrow rfl
        have g1 := cell_of_row (i := 4) (v := .int .i64 0) hrow rfl
        have g2 := cell_of_row (i := 5) (v := .int .i64 a0) hrow rfl
        clear hrow
        go_wp2_with (first | (go_at_call 9; refine (Do_at _ _ _ _ _ _ (u_sub0 a0 hm)).mono ?_; rintro e w1 ⟨rfl, b1⟩; obtain ⟨hc, hf⟩ := bcell b1))
        exact ⟨⟨2, by omega, rfl, (b1.block _ (by simp; omega)).trans ((Below.heap_alloc _ _ _ hsz).trans HR.out), (HW.out.alloc (Nat.le_of_lt hsz) _).trans (b1.mono (by simp; omega))⟩, by simp [intOf]⟩
      · have g0 := cell_of_row (i := 6) (v := .string ⟨#[42]⟩) hrow rfl
        have g1 := cell_of_row (i := 7) (v := .int .i64 1) hrow rfl
        have g2 := cell_of_row (i := 8) (v := .int .i64 a0) hrow rfl
        clear hrow
        go_wp2_with (first | (go_at_call 9; refine (Do_at _ _ _ _ _ _ (u_mul1 a0 hm)).mono ?_; rintro e w1 ⟨rfl, b1⟩; obtain ⟨hc, hf⟩ := bcell b1))
        exact ⟨⟨3, by omega, rfl, (b1.block _ (by simp; omega)).trans ((Below.heap_alloc _ _ _ hsz).trans HR.out), (HW.out.alloc (Nat.le_of_lt hsz) _).trans (b1.mono (by simp; omega))⟩, by simp [intOf]⟩
      · have g0 := cell_of_row (i := 9) (v := .string ⟨#[42]⟩) hrow rfl
        have g1 := cell_of_row (i := 10) (v := .int .i64 0) hrow rfl
        have g2 := cell_of_row (i := 11) (v := .int .i64 0) hrow rfl
        clear hrow
        go_wp2_with (first | (go_at_call 9; refine (Do_at _ _ _ _ _ _ (u_mul0 a0 hm)).mono ?_; rintro e w1 ⟨rfl, b1⟩; obtain ⟨hc, hf⟩ := bcell b1))
        exact ⟨⟨4, by omega, rfl, (b1.block _ (by simp; omega)).trans ((Below.heap_alloc _ _ _ hsz).trans HR.out), (HW.out.alloc (Nat.le_of_lt hsz) _).trans (b1.mono (by simp; omega))⟩, by simp [intOf]⟩
      · have g0 := cell_of_row (i := 12) (v := .string ⟨#[100, 105, 118]⟩) hrow rfl
        have g1 := cell_of_row (i := 13) (v := .int .i64 1) hrow rfl
        have g2 := cell_of_row (i := 14) (v := .int .i64 a0) hrow rfl
        clear hrow
        go_wp2_with (first | (go_at_call 9; refine (Do_at _ _ _ _ _ _ (u_div1 a0 hm)).mono ?_; rintro e w1 ⟨rfl, b1⟩; obtain ⟨hc, hf⟩ := bcell b1))
        exact ⟨⟨5, by omega, rfl, (b1.block _ (by simp; omega)).trans ((Below.heap_alloc _ _ _ hsz).trans HR.out), (HW.out.alloc (Nat.le_of_lt hsz) _).trans (b1.mono (by simp; omega))⟩, by simp [intOf]⟩
      · have g0 := cell_of_row (i := 15) (v := .string ⟨#[114, 101, 109]⟩) hrow rfl
        have g1 := cell_of_row (i := 16) (v := .int .i64 1) hrow rfl
        have g2 := cell_of_row (i := 17) (v := .int .i64 0) hrow rfl
        clear hrow
        go_wp2_with (first | (go_at_call 9; refine (Do_at _ _ _ _ _ _ (u_rem1 a0 hm)).mono ?_; rintro e w1 ⟨rfl, b1⟩; obtain ⟨hc, hf⟩ := bcell b1))
        exact ⟨⟨6, by omega, rfl, (b1.block _ (by simp; omega)).trans ((Below.heap_alloc _ _ _ hsz).trans HR.out), (HW.out.alloc (Nat.le_of_lt hsz) _).trans (b1.mono (by simp; omega))⟩, by simp [intOf]⟩
      · have g0 := cell_of_row (i := 18) (v := .string ⟨#[45]⟩) hrow rfl
        have g1 := cell_of_row (i := 19) (v := .int .i64 a0) hrow rfl
        have g2 := cell_of_row (i := 20) (v := .int .i64 0) hrow rfl
        clear hrow
        go_wp2_with (first | (go_at_call 9; refine (Do_at _ _ _ _ _ _ (u_sub_self a0 hm)).mono ?_; rintro e w1 ⟨rfl, b1⟩; obtain ⟨hc, hf⟩ := bcell b1))
        exact ⟨⟨7, by omega, rfl, (b1.block _ (by simp; omega)).trans ((Below.heap_alloc _ _ _ hsz).trans HR.out), (HW.out.alloc (Nat.le_of_lt hsz) _).trans (b1.mono (by simp; omega))⟩, by simp [intOf]⟩
      · clear hrow
        cases hn : mayB (-a0)
        · have ha := may_bd hm
          have ha2 := may_no hn
          obtain rfl : a0 = -576460752303423488 := by omega
          clear ha ha2 hn
          go_wp2_with (first
            | (go_at_call 9; refine (Do_at _ _ _ _ _ _ u_least).mono ?_; rintro e w1 ⟨rfl, b1⟩)
            | (go_at_call 8; refine (wakes_any _).mono ?_; rintro e w2 ⟨rfl, b2⟩))
          go_ret
          have c1 := HW.out.trans (b1.mono (Nat.le_of_lt hsz))
          exact ⟨rfl, c1.trans (b2.mono c1.size)⟩
        · go_wp2_with fail
          refine (Do_at _ _ _ _ _ _ (u_neg a0 hm hn)).mono ?_
          rintro e w1 ⟨rfl, b1⟩
          go_wp2_with fail
          refine (Do_at _ _ _ _ _ _ (u_back a0 hm hn)).mono ?_
          rintro e w2 ⟨rfl, b2⟩
          go_wp2_with fail
          refine (wakes_any _).mono ?_
          rintro e w3 ⟨rfl, b3⟩
          go_wp2_with fail
          go_ret
          have c1 := HW.out.trans (b1.mono (Nat.le_of_lt hsz))
          have c2 := c1.trans (b2.mono c1.size)
          exact ⟨rfl, c2.trans (b3.mono c2.size)⟩

end Go.Proofs.Ythbbpcgaakbolaa
