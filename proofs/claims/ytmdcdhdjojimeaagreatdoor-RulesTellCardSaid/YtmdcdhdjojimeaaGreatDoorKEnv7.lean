/- Layer 7: what the program's functions need of memory: its four tables. -/
import Derived.Test.YtmdcdhdjojimeaaGreatDoorKPow7
import Derived.Lib.AppendIntMem
import Derived.Deep.RegionHeld
import Derived.OrdersHeld
set_option linter.unusedVariables false
namespace Go.Proofs.YtmdcdhdjojimeaaGreatDoor
open Go.RowKit

def naturesRow : Array Value := #[.int .u16 1, .int .u8 8, .int .u16 2, .int .u8 10, .int .u16 4, .int .u8 11, .int .u16 8, .int .u8 9, .int .u16 16, .int .u8 8, .int .u16 448, .int .u8 2, .int .u16 448, .int .u8 1, .int .u16 448, .int .u8 2, .int .u16 448, .int .u8 0, .int .u16 448, .int .u8 8, .int .u16 448, .int .u8 8,
 .int .u16 352, .int .u8 10, .int .u16 32, .int .u8 10, .int .u16 256, .int .u8 8, .int .u16 256, .int .u8 10, .int .u16 256, .int .u8 14, .int .u16 256, .int .u8 8, .int .u16 256, .int .u8 7, .int .u16 256, .int .u8 8, .int .u16 256, .int .u8 8, .int .u16 256, .int .u8 9, .int .u16 512, .int .u8 8]
def Natures (w : World) : Prop := ∃ t fr, w.heap[1]? = some (.cells naturesRow t fr)
def PowTab7 (w : World) : Prop := (NeedsPow ∧ (Tryz.prog.globalNamed "internal/strconv.uint64pow10").isSome = true) → Go.Lib.TabIs Tryz.prog w "internal/strconv.uint64pow10" .u64 Go.Lib.pow10Tab
structure Env7 (w : World) : Prop where
 spans : Spans w
 words : WordTab w
 nats : Natures w
 pow : PowTab7 w
theorem Env7.under {w w' : World} (h : Env7 w) (hb : Below w.heap.size w w') : Env7 w' := by
 refine ⟨h.spans.below hb h.spans.lt, h.words.under hb, ?_, fun hp => Go.Lib.tabBelow_of_tabIs (h.pow hp) _ hb⟩
 obtain ⟨t, fr, h⟩ := h.nats
 exact ⟨t, fr, (hb.block _ (heap_lt h)).trans h⟩
theorem env7_E : ∀ w w', Env7 w → Below w.heap.size w w' → Env7 w' := fun _ _ h b => h.under b

def plN (j : Nat) : Int := [1, 2, 4, 8, 16, 448, 448, 448, 448, 448, 448, 352, 32, 256, 256, 256, 256, 256, 256, 256, 256, 512].getD j 0
def flN (j : Nat) : Int := [8, 10, 11, 9, 8, 2, 1, 2, 0, 8, 8, 10, 10, 8, 10, 14, 8, 7, 8, 8, 9, 8].getD j 0
theorem nats_row : ∀ j, j < 22 → naturesRow[j * 2]? = some (.int .u16 (plN j)) ∧ naturesRow[j * 2 + 1]? = some (.int .u8 (flN j))
 | 0, _ => ⟨rfl, rfl⟩ | 1, _ => ⟨rfl, rfl⟩ | 2, _ => ⟨rfl, rfl⟩ | 3, _ => ⟨rfl, rfl⟩ | 4, _ => ⟨rfl, rfl⟩ | 5, _ => ⟨rfl, rfl⟩ | 6, _ => ⟨rfl, rfl⟩ | 7, _ => ⟨rfl, rfl⟩ | 8, _ => ⟨rfl, rfl⟩ | 9, _ => ⟨rfl, rfl⟩ | 10, _ => ⟨rfl, rfl⟩
 | 11, _ => ⟨rfl, rfl⟩ | 12, _ => ⟨rfl, rfl⟩ | 13, _ => ⟨rfl, rfl⟩ | 14, _ => ⟨rfl, rfl⟩ | 15, _ => ⟨rfl, rfl⟩ | 16, _ => ⟨rfl, rfl⟩ | 17, _ => ⟨rfl, rfl⟩ | 18, _ => ⟨rfl, rfl⟩ | 19, _ => ⟨rfl, rfl⟩ | 20, _ => ⟨rfl, rfl⟩ | 21, _ => ⟨rfl, rfl⟩
 | j + 22, h => by omega
theorem nats_cell {w : World} (h : Natures w) (j : Nat) (hj : j < 22) : w.cell? ⟨1, j * 2, none⟩ = some (.int .u16 (plN j)) ∧ w.cell? ⟨1, j * 2 + 1, none⟩ = some (.int .u8 (flN j)) := by
 obtain ⟨t, fr, h⟩ := h
 exact ⟨cell_of_row h (nats_row j hj).1, cell_of_row h (nats_row j hj).2⟩

def blankB (n : Int) (s t : ByteArray) (len : Nat) (f : Int) : Bool :=
 (n == 0 || bits .and .u8 f 1 != 0) && ((s.toList.isEmpty || bits .and .u8 f 2 != 0) && ((t.toList.isEmpty || bits .and .u8 f 4 != 0) && (((len : Int) == 0) || bits .and .u8 f 8 != 0)))
set_option maxHeartbeats 2000000 in
set_option maxRecDepth 100000 in
theorem blank_any (n k : Int) (s t : ByteArray) (A : Option Addr) (len cap : Nat) (f : Int) (w : World) :
  Calls Tryz.prog 88 #[.agg #[.int .i8 k, .int .i64 n, .string s, .string t, .slice A len cap], .int .u8 f] w fun e w' => e = .returned (.bool (blankB n s t len f)) ∧ Below w.heap.size w w' := by
 obtain ⟨R, hR⟩ : ∃ R, R = blankB n s t len f := ⟨_, rfl⟩
 have HR := Lib.hid hR
 rw [← hR]
 clear hR
 go_enter Tryz.func88, Tryz.ntmps88
 go_wp2_with fail
 all_goals
  go_ret
  exact ⟨ret_bool (by have h := HR.out; rw [h]; unfold blankB; simp_all [Bool.and_assoc]), (Below.refl _ w).alloc (Nat.le_refl _) _⟩
end Go.Proofs.YtmdcdhdjojimeaaGreatDoor
