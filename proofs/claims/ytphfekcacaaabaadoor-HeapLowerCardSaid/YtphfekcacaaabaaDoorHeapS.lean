/- package heap: Size. -/
import Derived.Test.YtphfekcacaaabaaDoorHeapN
set_option linter.unusedVariables false
namespace Go.Proofs.YtphfekcacaaabaaDoor
open Go.RowKit

set_option maxHeartbeats 2000000 in
set_option maxRecDepth 100000 in
theorem HSize_any {base hb ws : Nat} {cs : List HC} {CS RM : Value} (c : Bool) (a k n : Int) (s t : ByteArray) (l : List Tm) (A : Option Addr) (cap : Nat) (w : World) (h : HeapAt base w hb cs ws CS RM) (hx : TmAt (· < w.heap.size) w (.mk k n s t l) (.agg #[(.int .i8 k), (.int .i64 n), (.string s), (.string t), (.slice A l.length cap)])) (hS : Spans w) :
    Calls Tryd.prog 10 #[.pointer (some ⟨hb, 0, none⟩), .agg #[(.bool c), (.int .i64 a), (.int .i8 k), (.int .i64 n), (.string s), (.string t), (.slice A l.length cap)]] w fun e w' => e = .returned (.tuple (if mayW cs.length c a (.mk k n s t l) = true then #[.int .i64 (wsize cs (AW.hw ⟨c, a, .mk k n s t l⟩)), .int .i64 0] else #[.int .i64 0, .int .i64 2])) ∧ Below w.heap.size w w' := by
  obtain ⟨w1, hw1⟩ : ∃ w1, w1 = w.alloc (.cells #[(.bool c), (.int .i64 a), (.int .i8 k), (.int .i64 n), (.string s), (.string t), (.slice A l.length cap)] 27) := ⟨_, rfl⟩
  have B1 : Below w.heap.size w w1 := by rw [hw1]; exact (Below.refl _ w).alloc (Nat.le_refl _) _
  have g1 : w1.heap[w.heap.size]? = some (.cells #[(.bool c), (.int .i64 a), (.int .i8 k), (.int .i64 n), (.string s), (.string t), (.slice A l.length cap)] 27 (0, 0)) := by rw [hw1]; exact block_alloc _ _
  have HM := Lib.hid (HMay_any c a k n s t l A cap w1 (h.under B1) (hx.later B1) (hS.below B1 hS.lt))
  have HH := Lib.hid (h.under B1)
  have HB1 := Lib.hid B1
  have HG1 := Lib.hid g1
  have x0 : w1.cell? ⟨w.heap.size, 0, none⟩ = some (.bool c) := cell_of_row g1 rfl
  have x1 : w1.cell? ⟨w.heap.size, 1, none⟩ = some (.int .i64 a) := cell_of_row g1 rfl
  have x2 : w1.cell? ⟨w.heap.size, 2, none⟩ = some (.int .i8 k) := cell_of_row g1 rfl
  have x3 : w1.cell? ⟨w.heap.size, 3, none⟩ = some (.int .i64 n) := cell_of_row g1 rfl
  have x4 : w1.cell? ⟨w.heap.size, 4, none⟩ = some (.string s) := cell_of_row g1 rfl
  have x5 : w1.cell? ⟨w.heap.size, 5, none⟩ = some (.string t) := cell_of_row g1 rfl
  have x6 : w1.cell? ⟨w.heap.size, 6, none⟩ = some (.slice A l.length cap) := cell_of_row g1 rfl
  clear h hx hS B1 g1
  cases hm : mayW cs.length c a (.mk k n s t l)
  · have HQ := Lib.hid hm
    clear hm
    go_enter Tryd.func10, Tryd.ntmps10
    go_wp2_with fail
    rw [← hw1]
    go_wp2_with fail
    refine HM.out.mono ?_
    rintro e V1 ⟨rfl, b1⟩
    rw [HQ.out]
    have HB2 := Lib.hid (HB1.out.trans (b1.mono HB1.out.size))
    clear b1 x0 x1 x2 x3 x4 x5 x6
    go_wp2_with fail
    go_ret2
    exact ⟨rfl, HB2.out⟩
  · have HQ := Lib.hid hm
    clear hm
    go_enter Tryd.func10, Tryd.ntmps10
    go_wp2_with fail
    rw [← hw1]
    go_wp2_with fail
    refine HM.out.mono ?_
    rintro e V1 ⟨rfl, b1⟩
    rw [HQ.out]
    have HB2 := Lib.hid (HB1.out.trans (b1.mono HB1.out.size))
    have g2 := (b1.block _ (heap_lt HG1.out)).trans HG1.out
    have HN := Lib.hid (nodes_any V1 (HH.out.under b1) ⟨c, a, .mk k n s t l⟩ _ ⟨(.int .i8 k), (.int .i64 n), (.string s), (.string t), (.slice A l.length cap), rfl⟩ HQ.out)
    have y0 : V1.cell? ⟨w.heap.size, 0, none⟩ = some (.bool c) := cell_of_row g2 rfl
    have y1 : V1.cell? ⟨w.heap.size, 1, none⟩ = some (.int .i64 a) := cell_of_row g2 rfl
    have y2 : V1.cell? ⟨w.heap.size, 2, none⟩ = some (.int .i8 k) := cell_of_row g2 rfl
    have y3 : V1.cell? ⟨w.heap.size, 3, none⟩ = some (.int .i64 n) := cell_of_row g2 rfl
    have y4 : V1.cell? ⟨w.heap.size, 4, none⟩ = some (.string s) := cell_of_row g2 rfl
    have y5 : V1.cell? ⟨w.heap.size, 5, none⟩ = some (.string t) := cell_of_row g2 rfl
    have y6 : V1.cell? ⟨w.heap.size, 6, none⟩ = some (.slice A l.length cap) := cell_of_row g2 rfl
    clear b1 g2 x0 x1 x2 x3 x4 x5 x6
    go_wp2_with fail
    refine HN.out.mono ?_
    rintro e V2 ⟨rfl, b2⟩
    have HB3 := Lib.hid (HB2.out.trans (b2.mono HB2.out.size))
    clear b2 y0 y1 y2 y3 y4 y5 y6
    go_wp2_with fail
    go_ret2
    exact ⟨rfl, HB3.out⟩
end Go.Proofs.YtphfekcacaaabaaDoor
