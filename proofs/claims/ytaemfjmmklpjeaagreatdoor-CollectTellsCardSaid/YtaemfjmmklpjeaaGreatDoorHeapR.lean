/- package heap: New, Len, Words, May, nodes, Size, at a heap that memory holds. -/
import Derived.Test.YtaemfjmmklpjeaaGreatDoorHeapM
set_option linter.unusedVariables false
namespace Go.Proofs.YtaemfjmmklpjeaaGreatDoor
open Go.RowKit

theorem WordsAt.keep {w w' : World} {A : Option Addr} {L : List HW} (h : WordsAt w A L) (hk : ∀ g o, A = some ⟨g, o, none⟩ → L ≠ [] → w'.heap[g]? = w.heap[g]?) : WordsAt w' A L := by
  intro j x hj
  obtain ⟨g, o, e, hc⟩ := h j x hj
  refine ⟨g, o, e, fun i u hu => (World.cell?_of_block (w := w) (a := ⟨g, o + j * 7 + i, none⟩) (hk g o e (fun e => by subst e; simp at hj))).trans (hc i u hu)⟩
theorem WordsAt.lt {w : World} {g o : Nat} {L : List HW} (h : WordsAt w (some ⟨g, o, none⟩) L) (hL : L ≠ []) : g < w.heap.size := by
  cases L with
  | nil => exact absurd rfl hL
  | cons x L =>
    obtain ⟨g', o', e, hc⟩ := h 0 x rfl
    cases e
    have h0 : ∃ u, x.cells[0]? = some u := by cases x <;> exact ⟨_, rfl⟩
    obtain ⟨u, hu⟩ := h0
    exact World.block_lt_of_cell? w _ (hc 0 u hu)
theorem HeapCore.mod {base : Nat} {w w' : World} {hb : Nat} {cs : List HC} {CS RM : Value} {F : Nat → Prop} (h : HeapCore base w hb cs CS RM) (m : Mod F w w') (hF : ∀ k, F k → k = hb ∨ w.heap.size ≤ k) : HeapCore base w' hb cs CS RM := by
  obtain ⟨vs, hl, ho, hp⟩ := h.row
  obtain ⟨A, rn, e, h2⟩ := h.room
  refine ⟨⟨vs, hl, m.row ho (fun k hk hf => ?_), fun n c hc => ?_⟩, ⟨A, rn, e, fun hr => ?_⟩, h.apart⟩
  · rcases hF k hf with e | e
    · subst e; exact h.apart hk
    · have := (ho.lt k hk).2; omega
  · obtain ⟨A, hv, hw, hs⟩ := hp n c hc
    refine ⟨A, hv, hw.keep (fun g o e hL => ?_), hs⟩
    subst e
    have hlt := hw.lt hL
    exact m.block _ hlt (fun hf => (hF g hf).elim (hs g o rfl hL).2.1 (fun h => by omega))
  · obtain ⟨g, o, cur, e1, e2, e3, e4, e5, e6⟩ := h2 hr
    have hlt := heap_lt e5
    exact ⟨g, o, cur, e1, e2, e3, e4, (m.block _ hlt (fun hf => (hF g hf).elim e3 (fun h => by omega))).trans e5, e6⟩
theorem HeapAt.under {base : Nat} {w w' : World} {hb : Nat} {cs : List HC} {ws : Nat} {CS RM : Value} (h : HeapAt base w hb cs ws CS RM) (hb' : Below w.heap.size w w') : HeapAt base w' hb cs ws CS RM :=
  ⟨h.low, (hb'.block _ (heap_lt h.box)).trans h.box, h.core.mod (Mod.of_below (F := fun _ => False) hb') (fun _ f => f.elim)⟩
theorem HeapCore.less {base : Nat} {w : World} {hb : Nat} {cs : List HC} {CS : Value} {g o rn : Nat} (h : HeapCore base w hb cs CS (.slice (some ⟨g, o, none⟩) rn rn)) (k n : Nat) (hk : k + n ≤ rn) : HeapCore base w hb cs CS (.slice (some ⟨g, o + k * 7, none⟩) n n) := by
  obtain ⟨vs, hl, ho, hp⟩ := h.row
  obtain ⟨A, rn', e, h2⟩ := h.room
  cases e
  refine ⟨⟨vs, hl, ho, fun i c hc => ?_⟩, ⟨_, n, rfl, fun hr => ?_⟩, h.apart⟩
  · obtain ⟨A, hv, hw, hs⟩ := hp i c hc
    refine ⟨A, hv, hw, fun g' o' e hL => ?_⟩
    obtain ⟨a1, a2, a3, a4⟩ := hs g' o' e hL
    refine ⟨a1, a2, a3, fun ro r e hr => ?_⟩
    cases e
    have := a4 o rn rfl (by omega)
    omega
  · obtain ⟨g', o', cur, e1, e2, e3, e4, e5, e6⟩ := h2 (by omega)
    cases e1
    exact ⟨_, _, cur, rfl, e2, e3, e4, e5, by omega⟩
theorem HeapCore.noRoom {base : Nat} {w : World} {hb : Nat} {cs : List HC} {CS RM : Value} (h : HeapCore base w hb cs CS RM) (A : Option Addr) : HeapCore base w hb cs CS (.slice A 0 0) := by
  obtain ⟨vs, hl, ho, hp⟩ := h.row
  refine ⟨⟨vs, hl, ho, fun i c hc => ?_⟩, ⟨_, 0, rfl, fun hr => by omega⟩, h.apart⟩
  obtain ⟨A, hv, hw, hs⟩ := hp i c hc
  refine ⟨A, hv, hw, fun g' o' e hL => ?_⟩
  obtain ⟨a1, a2, a3, a4⟩ := hs g' o' e hL
  exact ⟨a1, a2, a3, fun ro r e hr => by cases e; omega⟩
theorem HeapCore.fresh {base : Nat} {w : World} {hb : Nat} {cs : List HC} {CS RM : Value} (h : HeapCore base w hb cs CS RM) (hbw : base ≤ w.heap.size) (hh : hb < w.heap.size) (cur : Array Value) (m : Nat) (hm : m * 7 ≤ cur.size) : HeapCore base (w.alloc (.cells cur 51)) hb cs CS (.slice (some ⟨w.heap.size, 0, none⟩) m m) := by
  have h' := h.mod (Mod.alloc (fun _ => False) w (.cells cur 51)) (fun _ f => f.elim)
  obtain ⟨vs0, hl0, ho0, hp0⟩ := h.row
  obtain ⟨vs, hl, ho, hp⟩ := h'.row
  have hown : CS.ownBlock ≠ some w.heap.size := fun e => by have := (ho0.lt _ e).2; omega
  refine ⟨⟨vs0, hl0, (Mod.alloc (fun _ => False) w _).row ho0 (fun _ _ f => f), fun i c hc => ?_⟩, ⟨_, m, rfl, fun hr => ⟨_, _, cur, rfl, hbw, by omega, hown, block_alloc _ _, by omega⟩⟩, h.apart⟩
  obtain ⟨A, hv, hw, hs⟩ := hp0 i c hc
  refine ⟨A, hv, hw.keep (fun g o e hL => by subst e; exact Below.heap_alloc _ _ _ (hw.lt hL)), fun g' o' e hL => ?_⟩
  obtain ⟨a1, a2, a3, a4⟩ := hs g' o' e hL
  subst e
  have hlt := hw.lt hL
  exact ⟨a1, a2, a3, fun ro r e hr => by cases e; omega⟩

set_option maxHeartbeats 1000000 in
set_option maxRecDepth 100000 in
theorem New_any (base : Nat) (w : World) (hb : base ≤ w.heap.size) : Calls Tryz.prog 24 #[] w fun e w' => e = .returned (.pointer (some ⟨w.heap.size, 0, none⟩)) ∧ HeapAt base w' w.heap.size [] 0 (.slice none 0 0) (.slice none 0 0) ∧ Below w.heap.size w w' := by
  go_enter Tryz.func24, Tryz.ntmps24
  go_wp2_with fail
  go_ret
  exact ⟨rfl, ⟨hb, block_alloc _ _, ⟨⟨[], rfl, World.ownsRow_nil _ _ _ _, fun n c hc => by simp at hc⟩, ⟨none, 0, rfl, fun h => by omega⟩, by simp [Value.ownBlock]⟩⟩, (Below.refl _ w).alloc (Nat.le_refl _) _⟩

set_option maxHeartbeats 1000000 in
set_option maxRecDepth 100000 in
theorem Len_any {base hb ws : Nat} {cs : List HC} {CS RM : Value} (w : World) (h : HeapAt base w hb cs ws CS RM) : Calls Tryz.prog 21 #[.pointer (some ⟨hb, 0, none⟩)] w fun e w' => e = .returned (.int .i64 cs.length) ∧ w = w' := by
  obtain ⟨A, cap, rfl⟩ := h.shape
  have x0 : w.cell? ⟨hb, 0, none⟩ = some (.slice A cs.length cap) := cell_of_row h.box rfl
  clear h
  go_enter Tryz.func21, Tryz.ntmps21
  go_wp2_with fail
  go_ret
  exact ⟨rfl, rfl⟩
def mayW (N : Nat) (c : Bool) (a : Int) (x : Tm) : Bool := if c = true then (decide (0 ≤ a) && decide (a < (N : Int))) && blankB x.k x.n x.s x.t x.l.length else (leafE x == 0) && (a == 0)

set_option maxHeartbeats 4000000 in
set_option maxRecDepth 100000 in
theorem HMay_any {base hb ws : Nat} {cs : List HC} {CS RM : Value} (c : Bool) (a k n : Int) (s t : ByteArray) (l : List Tm) (A : Option Addr) (cap : Nat) (w : World) (h : HeapAt base w hb cs ws CS RM) (hx : TmAt (· < w.heap.size) w (.mk k n s t l) (.agg #[(.int .i8 k), (.int .i64 n), (.string s), (.string t), (.slice A l.length cap)])) (hS : Spans w) :
    Calls Tryz.prog 35 #[.pointer (some ⟨hb, 0, none⟩), .agg #[(.bool c), (.int .i64 a), (.int .i8 k), (.int .i64 n), (.string s), (.string t), (.slice A l.length cap)]] w fun e w' => e = .returned (.bool (mayW cs.length c a (.mk k n s t l))) ∧ Below w.heap.size w w' := by
  obtain ⟨CA, ccap, rfl⟩ := h.shape
  obtain ⟨w1, hw1⟩ : ∃ w1, w1 = w.alloc (.cells #[(.bool c), (.int .i64 a), (.int .i8 k), (.int .i64 n), (.string s), (.string t), (.slice A l.length cap)] 51) := ⟨_, rfl⟩
  have B1 : Below w.heap.size w w1 := by rw [hw1]; exact (Below.refl _ w).alloc (Nat.le_refl _) _
  have g1 : w1.heap[w.heap.size]? = some (.cells #[(.bool c), (.int .i64 a), (.int .i8 k), (.int .i64 n), (.string s), (.string t), (.slice A l.length cap)] 51 (0, 0)) := by rw [hw1]; exact block_alloc _ _
  have HA := Lib.hid (has_any hb CA cs.length ccap a w1 (cell_of_row (h.under B1).box rfl))
  have HL := Lib.hid (Leaf_any _ _ w1 (hx.later B1) (hS.below B1 hS.lt))
  have HBL := Lib.hid (blank_any k n s t A l.length cap w1)
  have HB1 := Lib.hid B1
  have HG1 := Lib.hid g1
  have x0 : w1.cell? ⟨w.heap.size, 0, none⟩ = some (.bool c) := cell_of_row g1 rfl
  have x1 : w1.cell? ⟨w.heap.size, 1, none⟩ = some (.int .i64 a) := cell_of_row g1 rfl
  have x2 : w1.cell? ⟨w.heap.size, 2, none⟩ = some (.int .i8 k) := cell_of_row g1 rfl
  have x3 : w1.cell? ⟨w.heap.size, 3, none⟩ = some (.int .i64 n) := cell_of_row g1 rfl
  have x4 : w1.cell? ⟨w.heap.size, 4, none⟩ = some (.string s) := cell_of_row g1 rfl
  have x5 : w1.cell? ⟨w.heap.size, 5, none⟩ = some (.string t) := cell_of_row g1 rfl
  have x6 : w1.cell? ⟨w.heap.size, 6, none⟩ = some (.slice A l.length cap) := cell_of_row g1 rfl
  clear hx hS B1 g1 h
  subst hw1
  cases c
  · by_cases he : leafE (.mk k n s t l) = 0
    · have he1 : (leafE (.mk k n s t l) == 0) = true := by rw [he]; rfl
      have HE := Lib.hid he
      have HR := Lib.hid (show mayW cs.length false a (.mk k n s t l) = (a == 0) by unfold mayW; rw [if_neg (by decide), he1, Bool.true_and])
      clear he
      go_enter Tryz.func35, Tryz.ntmps35
      go_wp2_with fail
      refine HL.out.mono ?_
      rintro e V1 ⟨rfl, b1⟩
      rw [if_pos HE.out]
      unfold leafV
      dsimp only [Tm.k, Tm.n, Tm.s, Tm.t]
      have g2 := (b1.block _ (heap_lt HG1.out)).trans HG1.out
      have HB2 := Lib.hid (HB1.out.trans (b1.mono HB1.out.size))
      have y1 : (V1.alloc (.cells #[.bool false, .int .i64 0, .int .i8 k, .int .i64 n, .string s, .string t, .slice none 0 0] 51)).cell? ⟨w.heap.size, 1, none⟩ = some (.int .i64 a) := cell_of_row ((Below.heap_alloc _ _ _ (heap_lt g2)).trans g2) rfl
      clear b1 g2 x0 x1 x2 x3 x4 x5 x6
      go_wp2_with fail
      go_ret
      exact ⟨ret_bool HR.out.symm, HB2.out.alloc HB2.out.size _⟩
    · have he1 : (leafE (.mk k n s t l) == 0) = false := by rw [beq_eq_false_iff_ne]; exact he
      have HE := Lib.hid he
      have HR := Lib.hid (show mayW cs.length false a (.mk k n s t l) = false by unfold mayW; rw [if_neg (by decide), he1, Bool.false_and])
      clear he
      go_enter Tryz.func35, Tryz.ntmps35
      go_wp2_with fail
      refine HL.out.mono ?_
      rintro e V1 ⟨rfl, b1⟩
      rw [if_neg HE.out]
      unfold word0
      have HB2 := Lib.hid (HB1.out.trans (b1.mono HB1.out.size))
      clear b1 x0 x1 x2 x3 x4 x5 x6
      go_wp2_with fail
      go_ret
      exact ⟨ret_bool HR.out.symm, HB2.out.alloc HB2.out.size _⟩
  · cases hh : (decide (0 ≤ a) && decide (a < (cs.length : Int)))
    · have HR := Lib.hid (show mayW cs.length true a (.mk k n s t l) = false by unfold mayW; rw [if_pos rfl, hh, Bool.false_and])
      have HH := Lib.hid hh
      clear hh
      go_enter Tryz.func35, Tryz.ntmps35
      go_wp2_with fail
      refine HA.out.mono ?_
      rintro e V1 ⟨rfl, rfl⟩
      rw [HH.out]
      go_wp2_with fail
      go_ret
      exact ⟨ret_bool HR.out.symm, HB1.out⟩
    · have HR := Lib.hid (show mayW cs.length true a (.mk k n s t l) = blankB k n s t l.length by unfold mayW; rw [if_pos rfl, hh, Bool.true_and]; rfl)
      have HH := Lib.hid hh
      clear hh
      go_enter Tryz.func35, Tryz.ntmps35
      go_wp2_with fail
      refine HA.out.mono ?_
      rintro e V1 ⟨rfl, rfl⟩
      rw [HH.out]
      go_wp2_with fail
      refine HBL.out.mono ?_
      rintro e V2 ⟨rfl, b2⟩
      have HB2 := Lib.hid (HB1.out.trans (b2.mono HB1.out.size))
      clear b2 x0 x1 x2 x3 x4 x5 x6
      go_wp2_with fail
      go_ret
      exact ⟨ret_bool HR.out.symm, HB2.out⟩
end Go.Proofs.YtaemfjmmklpjeaaGreatDoor
