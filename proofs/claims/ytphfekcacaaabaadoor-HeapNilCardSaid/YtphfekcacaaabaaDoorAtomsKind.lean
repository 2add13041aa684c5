/- What a byte may be in a name: the contract of atoms.kindOf, over the table of stretches that the program lays. -/
import Derived.Test.YtphfekcacaaabaaDoorBase
import Derived.WalkKit
import Derived.Lib.Hide
import Derived.WalkLawsBesides
import Derived.WalkSpells
import Derived.Outline
import Derived.LoopTactic
import Derived.Laws.Rows
import Derived.MapKept
import Derived.StillTailTactics
import Derived.Deep.RegionWith
set_option linter.unusedVariables false
namespace Go.Proofs.YtphfekcacaaabaaDoor
open Go.RowKit

/-- The cells of the table of stretches. -/
def spansRow : Array Value := #[.int .u8 97, .int .u8 122, .int .u8 2, .int .u8 65, .int .u8 90, .int .u8 3, .int .u8 95, .int .u8 95, .int .u8 3, .int .u8 48, .int .u8 57, .int .u8 1]

/-- The table lies in the program's variable. -/
def Spans (w : World) : Prop := ∃ t fr, w.heap[0]? = some (.cells spansRow t fr)
theorem Spans.lt {w : World} (h : Spans w) : 0 < w.heap.size := by obtain ⟨t, fr, h⟩ := h; exact (Array.getElem?_eq_some_iff.1 h).1
theorem Spans.below {w w' : World} (h : Spans w) {B : Nat} (hb : Below B w w') (hB : 0 < B) : Spans w' := by
  obtain ⟨t, fr, h⟩ := h
  exact ⟨t, fr, (hb.block 0 hB).trans h⟩

/-- What a byte is: 0 no part of a name, 1 never first, 2 an atom's first, 3 a variable's first. -/
def kindN (b : Int) : Int := if 97 ≤ b ∧ b ≤ 122 then 2 else if 65 ≤ b ∧ b ≤ 90 then 3 else if b = 95 then 3 else if 48 ≤ b ∧ b ≤ 57 then 1 else 0

theorem kind_a {b : Int} (h : 97 ≤ b) (h' : b ≤ 122) : kindN b = 2 := by unfold kindN; rw [if_pos ⟨h, h'⟩]
theorem kind_A {b : Int} (h0 : b < 97 ∨ 122 < b) (h : 65 ≤ b) (h' : b ≤ 90) : kindN b = 3 := by unfold kindN; rw [if_neg (by omega), if_pos ⟨h, h'⟩]
theorem kind_u {b : Int} (h0 : b < 97 ∨ 122 < b) (h1 : b < 65 ∨ 90 < b) (h : 95 ≤ b) (h' : b ≤ 95) : kindN b = 3 := by unfold kindN; rw [if_neg (by omega), if_neg (by omega), if_pos (by omega)]
theorem kind_d {b : Int} (h0 : b < 97 ∨ 122 < b) (h1 : b < 65 ∨ 90 < b) (h2 : b < 95 ∨ 95 < b) (h : 48 ≤ b) (h' : b ≤ 57) : kindN b = 1 := by unfold kindN; rw [if_neg (by omega), if_neg (by omega), if_neg (by omega), if_pos ⟨h, h'⟩]
theorem kind_no {b : Int} (h0 : b < 97 ∨ 122 < b) (h1 : b < 65 ∨ 90 < b) (h2 : b < 95 ∨ 95 < b) (h3 : b < 48 ∨ 57 < b) : kindN b = 0 := by unfold kindN; rw [if_neg (by omega), if_neg (by omega), if_neg (by omega), if_neg (by omega)]

theorem spans_0 (w : World) : (Instr.index 171 (.agg spansRow) (.int .i64 0)).run Tryd.prog w = .ok (.agg #[.int .u8 97, .int .u8 122, .int .u8 2]) w := by kernel_rfl
theorem spans_1 (w : World) : (Instr.index 171 (.agg spansRow) (.int .i64 1)).run Tryd.prog w = .ok (.agg #[.int .u8 65, .int .u8 90, .int .u8 3]) w := by kernel_rfl
theorem spans_2 (w : World) : (Instr.index 171 (.agg spansRow) (.int .i64 2)).run Tryd.prog w = .ok (.agg #[.int .u8 95, .int .u8 95, .int .u8 3]) w := by kernel_rfl
theorem spans_3 (w : World) : (Instr.index 171 (.agg spansRow) (.int .i64 3)).run Tryd.prog w = .ok (.agg #[.int .u8 48, .int .u8 57, .int .u8 1]) w := by kernel_rfl

set_option maxRecDepth 100000 in
set_option maxHeartbeats 2000000 in
theorem kindOf_any (b : Int) (h0 : 0 ≤ b) (h1 : b ≤ 255) (w : World) (hs : Spans w) :
    Calls Tryd.prog 107 #[.int .u8 b] w fun e w' => e = .returned (.int .u8 (kindN b)) ∧ Below w.heap.size w w' := by
  obtain ⟨t, fr, hrow⟩ := hs
  go_enter Tryd.func107, Tryd.ntmps107
  go_wp2_with (refine wpList_load_row rfl _ _ rfl 0 rfl _ _ _ _ hrow Tryd.underlying171 rfl (by kernel_rfl) ?_)
  have s0 := spans_0
  have s1 := spans_1
  have s2 := spans_2
  have s3 := spans_3
  go_loopw [6] (fun i wr => ∃ k : Nat, k ≤ 4 ∧ i = .int .i64 k ∧ Below w.heap.size w wr ∧ Hid (1 ≤ k → b < 97 ∨ 122 < b) ∧ Hid (2 ≤ k → b < 65 ∨ 90 < b) ∧ Hid (3 ≤ k → b < 95 ∨ 95 < b) ∧ Hid (4 ≤ k → b < 48 ∨ 57 < b)) (fun i _ => 4 - (intOf i).toNat)
  case atStart => exact ⟨0, by omega, rfl, Below.refl _ _, fun h => by omega, fun h => by omega, fun h => by omega, fun h => by omega⟩
  case round =>
    obtain ⟨k, hk, rfl, hb, k1, k2, k3, k4⟩ := hrel
    have h4 : k = 0 ∨ k = 1 ∨ k = 2 ∨ k = 3 ∨ k = 4 := by omega
    have hsz := hb.size
    have h0 : (wr.heap)[0]? = some (.cells spansRow t fr) := (hb.block 0 (Array.getElem?_eq_some_iff.1 hrow).1).trans hrow
    clear h0
    have HB := Lib.hid hb
    clear hb
    rcases h4 with rfl | rfl | rfl | rfl | rfl
    · go_wp2
      · go_ret
        exact ⟨ret_int (kind_a (by assumption) (by assumption)).symm, HB.out.alloc hsz _⟩
      · exact ⟨⟨1, by omega, rfl, HB.out.alloc hsz _, fun _ => by omega, fun h => by omega, fun h => by omega, fun h => by omega⟩, by simp [intOf]⟩
      · exact ⟨⟨1, by omega, rfl, HB.out.alloc hsz _, fun _ => by omega, fun h => by omega, fun h => by omega, fun h => by omega⟩, by simp [intOf]⟩
    · have c1 := k1.out (by omega)
      have C1 := Lib.hid c1
      clear c1
      go_wp2
      · go_ret
        exact ⟨ret_int (kind_A C1.out (by assumption) (by assumption)).symm, HB.out.alloc hsz _⟩
      · exact ⟨⟨2, by omega, rfl, HB.out.alloc hsz _, fun _ => C1.out, fun h => by omega, fun h => by omega, fun h => by omega⟩, by simp [intOf]⟩
      · exact ⟨⟨2, by omega, rfl, HB.out.alloc hsz _, fun _ => C1.out, fun h => by omega, fun h => by omega, fun h => by omega⟩, by simp [intOf]⟩
    · have C1 := Lib.hid (k1.out (by omega))
      have C2 := Lib.hid (k2.out (by omega))
      go_wp2
      · go_ret
        exact ⟨ret_int (kind_u C1.out C2.out (by assumption) (by assumption)).symm, HB.out.alloc hsz _⟩
      · exact ⟨⟨3, by omega, rfl, HB.out.alloc hsz _, fun _ => C1.out, fun _ => C2.out, fun h => by omega, fun h => by omega⟩, by simp [intOf]⟩
      · exact ⟨⟨3, by omega, rfl, HB.out.alloc hsz _, fun _ => C1.out, fun _ => C2.out, fun h => by omega, fun h => by omega⟩, by simp [intOf]⟩
    · have C1 := Lib.hid (k1.out (by omega))
      have C2 := Lib.hid (k2.out (by omega))
      have C3 := Lib.hid (k3.out (by omega))
      go_wp2
      · go_ret
        exact ⟨ret_int (kind_d C1.out C2.out C3.out (by assumption) (by assumption)).symm, HB.out.alloc hsz _⟩
      · exact ⟨⟨4, by omega, rfl, HB.out.alloc hsz _, fun _ => C1.out, fun _ => C2.out, fun _ => C3.out, fun h => by omega⟩, by simp [intOf]⟩
      · exact ⟨⟨4, by omega, rfl, HB.out.alloc hsz _, fun _ => C1.out, fun _ => C2.out, fun _ => C3.out, fun h => by omega⟩, by simp [intOf]⟩
    · have C1 := Lib.hid (k1.out (by omega))
      have C2 := Lib.hid (k2.out (by omega))
      have C3 := Lib.hid (k3.out (by omega))
      have C4 := Lib.hid (k4.out (by omega))
      go_wp2
      go_ret
      exact ⟨ret_int (kind_no C1.out C2.out C3.out C4.out).symm, HB.out⟩
end Go.Proofs.YtphfekcacaaabaaDoor
