/- Contracts of the document's own answers for layer 1 (package pleachref01), and of ints.Arith. -/
import Derived.Test.YtmdcdhdjojimeaaGreatDoorRows
import Derived.Test.YtmdcdhdjojimeaaGreatDoorKIMay
import Derived.Test.YtmdcdhdjojimeaaGreatDoorKSet9
import Derived.WalkKit
import Derived.MapKept
import Derived.ProofKit
import Derived.Lib.Hide
import Derived.WalkLawsBesides
import Derived.WalkSpells
import Derived.Outline
import Derived.IntWalk
section
namespace Go.Proofs.YtmdcdhdjojimeaaGreatDoor
open Go.RowKit

theorem run_put_last {P : Program} {t k e : TypeId} (ht : P.underlying t = some (.map k e)) (hk : P.underlying k = some .string) (w : World) (es : Array MapEntry) (c : Nat) (s : ByteArray) (v : Value)
  (hn : Instr.findNow .string (.string s) es.toList 0 = some none) :
  (Instr.mapUpdate t (.map (some w.heap.size)) (.string s) v).run P (w.alloc (.map es c)) = .ok () (w.alloc (.map (es.push ⟨.string s, v, c⟩) (c + 1))) := by
 have hb : (w.alloc (.map es c)).heap[w.heap.size]? = some (.map es c) := (MapKept.heap_alloc w _).1
 have hkey : MapKept.IsKey .string (.string s) := by simp [MapKept.IsKey]
 have hset : ({ w.alloc (.map es c) with heap := (w.alloc (.map es c)).heap.setIfInBounds w.heap.size (.map (es.push ⟨.string s, v, c⟩) (c + 1)) } : World) = w.alloc (.map (es.push ⟨.string s, v, c⟩) (c + 1)) := by
  have e : (w.alloc (.map es c)).heap = w.heap.push (.map es c) := rfl
  have e2 : ((w.heap.push (.map es c)).setIfInBounds w.heap.size (.map (es.push ⟨.string s, v, c⟩) (c + 1))) = w.heap.push (.map (es.push ⟨.string s, v, c⟩) (c + 1)) := by
   apply Array.ext_getElem?
   intro i
   simp only [Array.getElem?_setIfInBounds, Array.getElem?_push, Array.size_push]
   by_cases hi : i = w.heap.size
   ·subst hi; simp
   ·simp [hi, Ne.symm hi]
  rw [e, e2]; rfl
 simp [Instr.mapUpdate, run_underlying ht, MapKept.run_getObj_map hb, MapKept.run_checkKey hk hkey, MapKept.run_findKey hk hn, MapKept.run_setObj_map _ hb, Result.andThen]
 exact hset

theorem run_look_last {P : Program} {t k e : TypeId} (ht : P.underlying t = some (.map k e)) (hk : P.underlying k = some .string) (w : World) (es : Array MapEntry) (c : Nat) (s : ByteArray) (i : Nat) (v : Value)
  (hn : Instr.findNow .string (.string s) es.toList 0 = some (some (i, v))) :
  (Instr.lookup t (.map (some w.heap.size)) (.string s) true).run P (w.alloc (.map es c)) = .ok (.tuple #[v, .bool true]) (w.alloc (.map es c)) := by
 have hb : (w.alloc (.map es c)).heap[w.heap.size]? = some (.map es c) := (MapKept.heap_alloc w _).1
 have hkey : MapKept.IsKey .string (.string s) := by simp [MapKept.IsKey]
 simp [Instr.lookup, run_underlying ht, MapKept.run_getObj_map hb, MapKept.run_checkKey hk hkey, MapKept.run_findKey hk hn, Result.andThen]

theorem run_miss_last {P : Program} {t k e : TypeId} (ht : P.underlying t = some (.map k e)) (hk : P.underlying k = some .string) (w : World) (es : Array MapEntry) (c : Nat) (s : ByteArray) (z : Value)
  (hz : ∀ w, (zeroValue e).run P w = .ok z w) (hn : Instr.findNow .string (.string s) es.toList 0 = some none) :
  (Instr.lookup t (.map (some w.heap.size)) (.string s) true).run P (w.alloc (.map es c)) = .ok (.tuple #[z, .bool false]) (w.alloc (.map es c)) := by
 have hb : (w.alloc (.map es c)).heap[w.heap.size]? = some (.map es c) := (MapKept.heap_alloc w _).1
 have hkey : MapKept.IsKey .string (.string s) := by simp [MapKept.IsKey]
 simp [Instr.lookup, run_underlying ht, MapKept.run_getObj_map hb, MapKept.run_checkKey hk hkey, MapKept.run_findKey hk hn, hz, Result.andThen]

end Go.Proofs.YtmdcdhdjojimeaaGreatDoor
end
section
namespace Go.Proofs.YtmdcdhdjojimeaaGreatDoor
open Go.RowKit

def opTab (k : Nat) : Array MapEntry := (#[⟨.string ⟨#[43]⟩, .func (.func 160) #[] #[], 0⟩, ⟨.string ⟨#[45]⟩, .func (.func 161) #[] #[], 1⟩, ⟨.string ⟨#[42]⟩, .func (.func 162) #[] #[], 2⟩,
 ⟨.string ⟨#[100, 105, 118]⟩, .func (.func 163) #[] #[], 3⟩, ⟨.string ⟨#[114, 101, 109]⟩, .func (.func 164) #[] #[], 4⟩] : Array MapEntry).take k

theorem operations_any (w : World) : Calls Tryz.prog 152 #[] w fun e w' => e = .returned (.map (some w.heap.size)) ∧ w' = w.alloc (.map (opTab 5) 5) := by
 have hmm := @run_makeMap Tryz.prog
 have i1 : Sem.run Tryz.prog (Instr.mapUpdate 179 (.map (some w.heap.size)) (.string ⟨#[43]⟩) (.func (.func 160) #[] #[])) (w.alloc (.map #[] 0)) = .ok () (w.alloc (.map (opTab 1) 1)) :=
  run_put_last Tryz.underlying179 Tryz.underlying9 w (opTab 0) 0 _ _ rfl
 have i2 : Sem.run Tryz.prog (Instr.mapUpdate 179 (.map (some w.heap.size)) (.string ⟨#[45]⟩) (.func (.func 161) #[] #[])) (w.alloc (.map (opTab 1) 1)) = .ok () (w.alloc (.map (opTab 2) 2)) :=
  run_put_last Tryz.underlying179 Tryz.underlying9 w (opTab 1) 1 _ _ rfl
 have i3 : Sem.run Tryz.prog (Instr.mapUpdate 179 (.map (some w.heap.size)) (.string ⟨#[42]⟩) (.func (.func 162) #[] #[])) (w.alloc (.map (opTab 2) 2)) = .ok () (w.alloc (.map (opTab 3) 3)) :=
  run_put_last Tryz.underlying179 Tryz.underlying9 w (opTab 2) 2 _ _ rfl
 have i4 : Sem.run Tryz.prog (Instr.mapUpdate 179 (.map (some w.heap.size)) (.string ⟨#[100, 105, 118]⟩) (.func (.func 163) #[] #[])) (w.alloc (.map (opTab 3) 3)) = .ok () (w.alloc (.map (opTab 4) 4)) :=
  run_put_last Tryz.underlying179 Tryz.underlying9 w (opTab 3) 3 _ _ rfl
 have i5 : Sem.run Tryz.prog (Instr.mapUpdate 179 (.map (some w.heap.size)) (.string ⟨#[114, 101, 109]⟩) (.func (.func 164) #[] #[])) (w.alloc (.map (opTab 4) 4)) = .ok () (w.alloc (.map (opTab 5) 5)) :=
  run_put_last Tryz.underlying179 Tryz.underlying9 w (opTab 4) 4 _ _ rfl
 go_enter Tryz.func152, Tryz.ntmps152
 go_wp2
 go_ret
 exact ⟨rfl, rfl⟩
end Go.Proofs.YtmdcdhdjojimeaaGreatDoor
end
section

end
section
namespace Go.Proofs.YtmdcdhdjojimeaaGreatDoor
open Go.RowKit

def sEq : ByteArray := ⟨#[61, 58, 61]⟩
def sNe : ByteArray := ⟨#[61, 47, 61]⟩
def sLt : ByteArray := ⟨#[60]⟩
def sLe : ByteArray := ⟨#[61, 60]⟩
def sGt : ByteArray := ⟨#[62]⟩
def sGe : ByteArray := ⟨#[62, 61]⟩

def cmpR (s : ByteArray) (c : Int) : Bool × Bool :=
 if s = sEq then (decide (c = 0), true) else
 if s = sNe then (decide (¬ c = 0), true) else
 if s = sLt then (decide (c < 0), true) else
 if s = sLe then (decide (c ≤ 0), true) else
 if s = sGt then (decide (0 < c), true) else
 if s = sGe then (decide (0 ≤ c), true) else
 (false, false)

def sgn (c : Int) : Int := if c < 0 then -1 else if 0 < c then 1 else 0

theorem signOf_any (c : Int) (w : World) : Calls Tryz.prog 151 #[.int .i64 c] w fun e w' => e = .returned (.int .i64 (sgn c)) ∧ w = w' := by
 by_cases h1 : c < 0
 ·have H := Lib.hid (show sgn c = -1 by rw [sgn, if_pos h1])
  go_enter Tryz.func151, Tryz.ntmps151
  go_wp2
  go_ret
  exact ⟨ret_int (by rw [H.out]), rfl⟩
 by_cases h2 : 0 < c
 ·have H := Lib.hid (show sgn c = 1 by rw [sgn, if_neg h1, if_pos h2])
  go_enter Tryz.func151, Tryz.ntmps151
  go_wp2
  go_ret
  exact ⟨ret_int (by rw [H.out]), rfl⟩
 ·have H := Lib.hid (show sgn c = 0 by rw [sgn, if_neg h1, if_neg h2])
  go_enter Tryz.func151, Tryz.ntmps151
  go_wp2
  go_ret
  exact ⟨ret_int (by rw [H.out]), rfl⟩

def cmpTab (k : Nat) : Array MapEntry := (#[⟨.string ⟨#[61, 58, 61]⟩, .func (.func 154) #[] #[], 0⟩, ⟨.string ⟨#[61, 47, 61]⟩, .func (.func 155) #[] #[], 1⟩, ⟨.string ⟨#[60]⟩, .func (.func 156) #[] #[], 2⟩, ⟨.string ⟨#[61, 60]⟩, .func (.func 157) #[] #[], 3⟩, ⟨.string ⟨#[62]⟩, .func (.func 158) #[] #[], 4⟩, ⟨.string ⟨#[62, 61]⟩, .func (.func 159) #[] #[], 5⟩] : Array MapEntry).take k

theorem comparisons_any (w : World) : Calls Tryz.prog 150 #[] w fun e w' => e = .returned (.map (some w.heap.size)) ∧ w' = w.alloc (.map (cmpTab 6) 6) := by
 have hmm := @run_makeMap Tryz.prog
 have i1 : Sem.run Tryz.prog (Instr.mapUpdate 173 (.map (some w.heap.size)) (.string ⟨#[61, 58, 61]⟩) (.func (.func 154) #[] #[])) (w.alloc (.map #[] 0)) = .ok () (w.alloc (.map (cmpTab 1) 1)) :=
  run_put_last Tryz.underlying173 Tryz.underlying9 w (cmpTab 0) 0 _ _ rfl
 have i2 : Sem.run Tryz.prog (Instr.mapUpdate 173 (.map (some w.heap.size)) (.string ⟨#[61, 47, 61]⟩) (.func (.func 155) #[] #[])) (w.alloc (.map (cmpTab 1) 1)) = .ok () (w.alloc (.map (cmpTab 2) 2)) :=
  run_put_last Tryz.underlying173 Tryz.underlying9 w (cmpTab 1) 1 _ _ rfl
 have i3 : Sem.run Tryz.prog (Instr.mapUpdate 173 (.map (some w.heap.size)) (.string ⟨#[60]⟩) (.func (.func 156) #[] #[])) (w.alloc (.map (cmpTab 2) 2)) = .ok () (w.alloc (.map (cmpTab 3) 3)) :=
  run_put_last Tryz.underlying173 Tryz.underlying9 w (cmpTab 2) 2 _ _ rfl
 have i4 : Sem.run Tryz.prog (Instr.mapUpdate 173 (.map (some w.heap.size)) (.string ⟨#[61, 60]⟩) (.func (.func 157) #[] #[])) (w.alloc (.map (cmpTab 3) 3)) = .ok () (w.alloc (.map (cmpTab 4) 4)) :=
  run_put_last Tryz.underlying173 Tryz.underlying9 w (cmpTab 3) 3 _ _ rfl
 have i5 : Sem.run Tryz.prog (Instr.mapUpdate 173 (.map (some w.heap.size)) (.string ⟨#[62]⟩) (.func (.func 158) #[] #[])) (w.alloc (.map (cmpTab 4) 4)) = .ok () (w.alloc (.map (cmpTab 5) 5)) :=
  run_put_last Tryz.underlying173 Tryz.underlying9 w (cmpTab 4) 4 _ _ rfl
 have i6 : Sem.run Tryz.prog (Instr.mapUpdate 173 (.map (some w.heap.size)) (.string ⟨#[62, 61]⟩) (.func (.func 159) #[] #[])) (w.alloc (.map (cmpTab 5) 5)) = .ok () (w.alloc (.map (cmpTab 6) 6)) :=
  run_put_last Tryz.underlying173 Tryz.underlying9 w (cmpTab 5) 5 _ _ rfl
 go_enter Tryz.func150, Tryz.ntmps150
 go_wp2
 go_ret
 exact ⟨rfl, rfl⟩

theorem zero_cmp (w : World) : (zeroValue 171).run Tryz.prog w = .ok .nilFunc w := by kernel_rfl

theorem cmp_1 (x : Int) (w : World) : Calls Tryz.prog 154 #[.int .i64 x] w fun e w' => e = .returned (.bool (x == 0)) ∧ w = w' := by
 go_enter Tryz.func154, Tryz.ntmps154
 go_wp2
 go_ret
 exact ⟨rfl, rfl⟩

theorem Compare_1 (c : Int) (w : World) : Calls Tryz.prog 147 #[.string ⟨#[61, 58, 61]⟩, .int .i64 c] w fun e w' => e = .returned (.tuple #[.bool (sgn c == 0), .bool true]) ∧ Below w.heap.size w w' := by
 have hl : Sem.run Tryz.prog (Instr.lookup 173 (.map (some w.heap.size)) (.string ⟨#[61, 58, 61]⟩) true) (w.alloc (.map (cmpTab 6) 6)) = .ok (.tuple #[.func (.func 154) #[] #[], .bool true]) (w.alloc (.map (cmpTab 6) 6)) :=
  run_look_last Tryz.underlying173 Tryz.underlying9 w (cmpTab 6) 6 _ 0 _ rfl
 go_enter Tryz.func147, Tryz.ntmps147
 go_wp2_with (first
  | (go_at_call 150; refine (comparisons_any _).mono ?_; rintro e w' ⟨rfl, rfl⟩)
  | (go_at_call 151; refine (signOf_any _ _).mono ?_; rintro e w' ⟨rfl, rfl⟩)
  | (go_at_call 154; refine (cmp_1 _ _).mono ?_; rintro e w' ⟨rfl, rfl⟩))
 go_ret2
 exact ⟨rfl, (Below.refl _ _).alloc (Nat.le_refl _) _⟩

theorem cmp_2 (x : Int) (w : World) : Calls Tryz.prog 155 #[.int .i64 x] w fun e w' => e = .returned (.bool (x != 0)) ∧ w = w' := by
 go_enter Tryz.func155, Tryz.ntmps155
 go_wp2
 go_ret
 exact ⟨rfl, rfl⟩

theorem Compare_2 (c : Int) (w : World) : Calls Tryz.prog 147 #[.string ⟨#[61, 47, 61]⟩, .int .i64 c] w fun e w' => e = .returned (.tuple #[.bool (sgn c != 0), .bool true]) ∧ Below w.heap.size w w' := by
 have hl : Sem.run Tryz.prog (Instr.lookup 173 (.map (some w.heap.size)) (.string ⟨#[61, 47, 61]⟩) true) (w.alloc (.map (cmpTab 6) 6)) = .ok (.tuple #[.func (.func 155) #[] #[], .bool true]) (w.alloc (.map (cmpTab 6) 6)) :=
  run_look_last Tryz.underlying173 Tryz.underlying9 w (cmpTab 6) 6 _ 1 _ rfl
 go_enter Tryz.func147, Tryz.ntmps147
 go_wp2_with (first
  | (go_at_call 150; refine (comparisons_any _).mono ?_; rintro e w' ⟨rfl, rfl⟩)
  | (go_at_call 151; refine (signOf_any _ _).mono ?_; rintro e w' ⟨rfl, rfl⟩)
  | (go_at_call 155; refine (cmp_2 _ _).mono ?_; rintro e w' ⟨rfl, rfl⟩))
 go_ret2
 exact ⟨rfl, (Below.refl _ _).alloc (Nat.le_refl _) _⟩

theorem cmp_3 (x : Int) (w : World) : Calls Tryz.prog 156 #[.int .i64 x] w fun e w' => e = .returned (.bool (x == -1)) ∧ w = w' := by
 go_enter Tryz.func156, Tryz.ntmps156
 go_wp2
 go_ret
 exact ⟨rfl, rfl⟩

theorem Compare_3 (c : Int) (w : World) : Calls Tryz.prog 147 #[.string ⟨#[60]⟩, .int .i64 c] w fun e w' => e = .returned (.tuple #[.bool (sgn c == -1), .bool true]) ∧ Below w.heap.size w w' := by
 have hl : Sem.run Tryz.prog (Instr.lookup 173 (.map (some w.heap.size)) (.string ⟨#[60]⟩) true) (w.alloc (.map (cmpTab 6) 6)) = .ok (.tuple #[.func (.func 156) #[] #[], .bool true]) (w.alloc (.map (cmpTab 6) 6)) :=
  run_look_last Tryz.underlying173 Tryz.underlying9 w (cmpTab 6) 6 _ 2 _ rfl
 go_enter Tryz.func147, Tryz.ntmps147
 go_wp2_with (first
  | (go_at_call 150; refine (comparisons_any _).mono ?_; rintro e w' ⟨rfl, rfl⟩)
  | (go_at_call 151; refine (signOf_any _ _).mono ?_; rintro e w' ⟨rfl, rfl⟩)
  | (go_at_call 156; refine (cmp_3 _ _).mono ?_; rintro e w' ⟨rfl, rfl⟩))
 go_ret2
 exact ⟨rfl, (Below.refl _ _).alloc (Nat.le_refl _) _⟩

theorem cmp_4 (x : Int) (w : World) : Calls Tryz.prog 157 #[.int .i64 x] w fun e w' => e = .returned (.bool (x != 1)) ∧ w = w' := by
 go_enter Tryz.func157, Tryz.ntmps157
 go_wp2
 go_ret
 exact ⟨rfl, rfl⟩

theorem Compare_4 (c : Int) (w : World) : Calls Tryz.prog 147 #[.string ⟨#[61, 60]⟩, .int .i64 c] w fun e w' => e = .returned (.tuple #[.bool (sgn c != 1), .bool true]) ∧ Below w.heap.size w w' := by
 have hl : Sem.run Tryz.prog (Instr.lookup 173 (.map (some w.heap.size)) (.string ⟨#[61, 60]⟩) true) (w.alloc (.map (cmpTab 6) 6)) = .ok (.tuple #[.func (.func 157) #[] #[], .bool true]) (w.alloc (.map (cmpTab 6) 6)) :=
  run_look_last Tryz.underlying173 Tryz.underlying9 w (cmpTab 6) 6 _ 3 _ rfl
 go_enter Tryz.func147, Tryz.ntmps147
 go_wp2_with (first
  | (go_at_call 150; refine (comparisons_any _).mono ?_; rintro e w' ⟨rfl, rfl⟩)
  | (go_at_call 151; refine (signOf_any _ _).mono ?_; rintro e w' ⟨rfl, rfl⟩)
  | (go_at_call 157; refine (cmp_4 _ _).mono ?_; rintro e w' ⟨rfl, rfl⟩))
 go_ret2
 exact ⟨rfl, (Below.refl _ _).alloc (Nat.le_refl _) _⟩

theorem cmp_5 (x : Int) (w : World) : Calls Tryz.prog 158 #[.int .i64 x] w fun e w' => e = .returned (.bool (x == 1)) ∧ w = w' := by
 go_enter Tryz.func158, Tryz.ntmps158
 go_wp2
 go_ret
 exact ⟨rfl, rfl⟩

theorem Compare_5 (c : Int) (w : World) : Calls Tryz.prog 147 #[.string ⟨#[62]⟩, .int .i64 c] w fun e w' => e = .returned (.tuple #[.bool (sgn c == 1), .bool true]) ∧ Below w.heap.size w w' := by
 have hl : Sem.run Tryz.prog (Instr.lookup 173 (.map (some w.heap.size)) (.string ⟨#[62]⟩) true) (w.alloc (.map (cmpTab 6) 6)) = .ok (.tuple #[.func (.func 158) #[] #[], .bool true]) (w.alloc (.map (cmpTab 6) 6)) :=
  run_look_last Tryz.underlying173 Tryz.underlying9 w (cmpTab 6) 6 _ 4 _ rfl
 go_enter Tryz.func147, Tryz.ntmps147
 go_wp2_with (first
  | (go_at_call 150; refine (comparisons_any _).mono ?_; rintro e w' ⟨rfl, rfl⟩)
  | (go_at_call 151; refine (signOf_any _ _).mono ?_; rintro e w' ⟨rfl, rfl⟩)
  | (go_at_call 158; refine (cmp_5 _ _).mono ?_; rintro e w' ⟨rfl, rfl⟩))
 go_ret2
 exact ⟨rfl, (Below.refl _ _).alloc (Nat.le_refl _) _⟩

theorem cmp_6 (x : Int) (w : World) : Calls Tryz.prog 159 #[.int .i64 x] w fun e w' => e = .returned (.bool (x != -1)) ∧ w = w' := by
 go_enter Tryz.func159, Tryz.ntmps159
 go_wp2
 go_ret
 exact ⟨rfl, rfl⟩

theorem Compare_6 (c : Int) (w : World) : Calls Tryz.prog 147 #[.string ⟨#[62, 61]⟩, .int .i64 c] w fun e w' => e = .returned (.tuple #[.bool (sgn c != -1), .bool true]) ∧ Below w.heap.size w w' := by
 have hl : Sem.run Tryz.prog (Instr.lookup 173 (.map (some w.heap.size)) (.string ⟨#[62, 61]⟩) true) (w.alloc (.map (cmpTab 6) 6)) = .ok (.tuple #[.func (.func 159) #[] #[], .bool true]) (w.alloc (.map (cmpTab 6) 6)) :=
  run_look_last Tryz.underlying173 Tryz.underlying9 w (cmpTab 6) 6 _ 5 _ rfl
 go_enter Tryz.func147, Tryz.ntmps147
 go_wp2_with (first
  | (go_at_call 150; refine (comparisons_any _).mono ?_; rintro e w' ⟨rfl, rfl⟩)
  | (go_at_call 151; refine (signOf_any _ _).mono ?_; rintro e w' ⟨rfl, rfl⟩)
  | (go_at_call 159; refine (cmp_6 _ _).mono ?_; rintro e w' ⟨rfl, rfl⟩))
 go_ret2
 exact ⟨rfl, (Below.refl _ _).alloc (Nat.le_refl _) _⟩

theorem Compare_none (s : ByteArray) (c : Int) (w : World) (hn : Instr.findNow .string (.string s) (cmpTab 6).toList 0 = some none) : Calls Tryz.prog 147 #[.string s, .int .i64 c] w fun e w' => e = .returned (.tuple #[.bool false, .bool false]) ∧ Below w.heap.size w w' := by
 have hl := run_miss_last Tryz.underlying173 Tryz.underlying9 w (cmpTab 6) 6 s .nilFunc zero_cmp hn
 clear hn
 go_enter Tryz.func147, Tryz.ntmps147
 go_wp2_with (go_at_call 150; refine (comparisons_any _).mono ?_; rintro e w' ⟨rfl, rfl⟩)
 go_ret2
 exact ⟨rfl, (Below.refl _ _).alloc (Nat.le_refl _) _⟩

theorem ret_bools {a a' b b' : Bool} (h : a = a') (h' : b = b') : Ending.returned (.tuple #[.bool a, .bool b]) = .returned (.tuple #[.bool a', .bool b']) := by rw [h, h']

theorem miss_cmp {s : ByteArray} (h1 : ¬ s = sEq) (h2 : ¬ s = sNe) (h3 : ¬ s = sLt) (h4 : ¬ s = sLe) (h5 : ¬ s = sGt) (h6 : ¬ s = sGe) : Instr.findNow .string (.string s) (cmpTab 6).toList 0 = some none := by
 have f : ∀ t : ByteArray, ¬ s = t → (s == t) = false := fun t h => by
  cases e : s == t
  ·rfl
  ·exact absurd ((MapKept.bytes_beq s t).1 e) h
 have e : (cmpTab 6).toList = [⟨.string sEq, .func (.func 154) #[] #[], 0⟩, ⟨.string sNe, .func (.func 155) #[] #[], 1⟩, ⟨.string sLt, .func (.func 156) #[] #[], 2⟩, ⟨.string sLe, .func (.func 157) #[] #[], 3⟩, ⟨.string sGt, .func (.func 158) #[] #[], 4⟩, ⟨.string sGe, .func (.func 159) #[] #[], 5⟩] := rfl
 rw [e]
 simp [Instr.findNow, Instr.sameNow, f _ h1, f _ h2, f _ h3, f _ h4, f _ h5, f _ h6]

theorem sgn_cases (c : Int) : (c < 0 ∧ sgn c = -1) ∨ (c = 0 ∧ sgn c = 0) ∨ (0 < c ∧ sgn c = 1) := by
 unfold sgn; split
 ·exact .inl ⟨by assumption, rfl⟩
 ·split
  ·exact .inr (.inr ⟨by assumption, rfl⟩)
  ·exact .inr (.inl ⟨by omega, rfl⟩)

theorem Compare_any (s : ByteArray) (c : Int) (w : World) :
  Calls Tryz.prog 147 #[.string s, .int .i64 c] w fun e w' => e = .returned (.tuple #[.bool (cmpR s c).1, .bool (cmpR s c).2]) ∧ Below w.heap.size w w' := by
 by_cases h1 : s = sEq
 ·subst h1
  refine (Compare_1 c w).mono ?_
  rintro e w' ⟨rfl, hb⟩
  have e : cmpR sEq c = (decide (c = 0), true) := by unfold cmpR; rw [if_pos rfl]
  refine ⟨ret_bools ?_ (by rw [e]), hb⟩
  rw [e]
  rcases sgn_cases c with ⟨h, hs⟩ | ⟨h, hs⟩ | ⟨h, hs⟩ <;> rw [hs] <;> simp <;> omega
 by_cases h2 : s = sNe
 ·subst h2
  refine (Compare_2 c w).mono ?_
  rintro e w' ⟨rfl, hb⟩
  have e : cmpR sNe c = (decide (¬ c = 0), true) := by unfold cmpR; rw [if_neg h1, if_pos rfl]
  refine ⟨ret_bools ?_ (by rw [e]), hb⟩
  rw [e]
  rcases sgn_cases c with ⟨h, hs⟩ | ⟨h, hs⟩ | ⟨h, hs⟩ <;> rw [hs] <;> simp <;> omega
 by_cases h3 : s = sLt
 ·subst h3
  refine (Compare_3 c w).mono ?_
  rintro e w' ⟨rfl, hb⟩
  have e : cmpR sLt c = (decide (c < 0), true) := by unfold cmpR; rw [if_neg h1, if_neg h2, if_pos rfl]
  refine ⟨ret_bools ?_ (by rw [e]), hb⟩
  rw [e]
  rcases sgn_cases c with ⟨h, hs⟩ | ⟨h, hs⟩ | ⟨h, hs⟩ <;> rw [hs] <;> simp <;> omega
 by_cases h4 : s = sLe
 ·subst h4
  refine (Compare_4 c w).mono ?_
  rintro e w' ⟨rfl, hb⟩
  have e : cmpR sLe c = (decide (c ≤ 0), true) := by unfold cmpR; rw [if_neg h1, if_neg h2, if_neg h3, if_pos rfl]
  refine ⟨ret_bools ?_ (by rw [e]), hb⟩
  rw [e]
  rcases sgn_cases c with ⟨h, hs⟩ | ⟨h, hs⟩ | ⟨h, hs⟩ <;> rw [hs] <;> simp <;> omega
 by_cases h5 : s = sGt
 ·subst h5
  refine (Compare_5 c w).mono ?_
  rintro e w' ⟨rfl, hb⟩
  have e : cmpR sGt c = (decide (0 < c), true) := by unfold cmpR; rw [if_neg h1, if_neg h2, if_neg h3, if_neg h4, if_pos rfl]
  refine ⟨ret_bools ?_ (by rw [e]), hb⟩
  rw [e]
  rcases sgn_cases c with ⟨h, hs⟩ | ⟨h, hs⟩ | ⟨h, hs⟩ <;> rw [hs] <;> simp <;> omega
 by_cases h6 : s = sGe
 ·subst h6
  refine (Compare_6 c w).mono ?_
  rintro e w' ⟨rfl, hb⟩
  have e : cmpR sGe c = (decide (0 ≤ c), true) := by unfold cmpR; rw [if_neg h1, if_neg h2, if_neg h3, if_neg h4, if_neg h5, if_pos rfl]
  refine ⟨ret_bools ?_ (by rw [e]), hb⟩
  rw [e]
  rcases sgn_cases c with ⟨h, hs⟩ | ⟨h, hs⟩ | ⟨h, hs⟩ <;> rw [hs] <;> simp <;> omega
 ·have e : cmpR s c = (false, false) := by unfold cmpR; rw [if_neg h1, if_neg h2, if_neg h3, if_neg h4, if_neg h5, if_neg h6]
  rw [e]
  exact Compare_none s c w (miss_cmp h1 h2 h3 h4 h5 h6)

end Go.Proofs.YtmdcdhdjojimeaaGreatDoor
end
section
namespace Go.Proofs.YtmdcdhdjojimeaaGreatDoor
open Go.RowKit

theorem zero_op (w : World) : (zeroValue 177).run Tryz.prog w = .ok .nilFunc w := by kernel_rfl

theorem look_plus (w : World) : Sem.run Tryz.prog (Instr.lookup 179 (.map (some w.heap.size)) (.string ⟨#[43]⟩) true) (w.alloc (.map (opTab 5) 5)) = .ok (.tuple #[.func (.func 160) #[] #[], .bool true]) (w.alloc (.map (opTab 5) 5)) :=
 run_look_last Tryz.underlying179 Tryz.underlying9 w (opTab 5) 5 _ 0 _ rfl

theorem look_minus (w : World) : Sem.run Tryz.prog (Instr.lookup 179 (.map (some w.heap.size)) (.string ⟨#[45]⟩) true) (w.alloc (.map (opTab 5) 5)) = .ok (.tuple #[.func (.func 161) #[] #[], .bool true]) (w.alloc (.map (opTab 5) 5)) :=
 run_look_last Tryz.underlying179 Tryz.underlying9 w (opTab 5) 5 _ 1 _ rfl

theorem look_times (w : World) : Sem.run Tryz.prog (Instr.lookup 179 (.map (some w.heap.size)) (.string ⟨#[42]⟩) true) (w.alloc (.map (opTab 5) 5)) = .ok (.tuple #[.func (.func 162) #[] #[], .bool true]) (w.alloc (.map (opTab 5) 5)) :=
 run_look_last Tryz.underlying179 Tryz.underlying9 w (opTab 5) 5 _ 2 _ rfl

theorem look_quotient (w : World) : Sem.run Tryz.prog (Instr.lookup 179 (.map (some w.heap.size)) (.string ⟨#[100, 105, 118]⟩) true) (w.alloc (.map (opTab 5) 5)) = .ok (.tuple #[.func (.func 163) #[] #[], .bool true]) (w.alloc (.map (opTab 5) 5)) :=
 run_look_last Tryz.underlying179 Tryz.underlying9 w (opTab 5) 5 _ 3 _ rfl

theorem look_rest (w : World) : Sem.run Tryz.prog (Instr.lookup 179 (.map (some w.heap.size)) (.string ⟨#[114, 101, 109]⟩) true) (w.alloc (.map (opTab 5) 5)) = .ok (.tuple #[.func (.func 164) #[] #[], .bool true]) (w.alloc (.map (opTab 5) 5)) :=
 run_look_last Tryz.underlying179 Tryz.underlying9 w (opTab 5) 5 _ 4 _ rfl

theorem miss_op {s : ByteArray} (h1 : ¬ s = sPlus) (h2 : ¬ s = sMinus) (h3 : ¬ s = sTimes) (h4 : ¬ s = sDiv) (h5 : ¬ s = sRem) : Instr.findNow .string (.string s) (opTab 5).toList 0 = some none := by
 have f : ∀ t : ByteArray, ¬ s = t → (s == t) = false := fun t h => by
  cases e : s == t
  ·rfl
  ·exact absurd ((MapKept.bytes_beq s t).1 e) h
 have e : (opTab 5).toList = [⟨.string sPlus, .func (.func 160) #[] #[], 0⟩, ⟨.string sMinus, .func (.func 161) #[] #[], 1⟩, ⟨.string sTimes, .func (.func 162) #[] #[], 2⟩,
  ⟨.string sDiv, .func (.func 163) #[] #[], 3⟩, ⟨.string sRem, .func (.func 164) #[] #[], 4⟩] := rfl
 rw [e]
 simp [Instr.findNow, Instr.sameNow, f _ h1, f _ h2, f _ h3, f _ h4, f _ h5]

end Go.Proofs.YtmdcdhdjojimeaaGreatDoor
end
section

end
section
namespace Go.Proofs.YtmdcdhdjojimeaaGreatDoor
open Go.RowKit

theorem rMay1_any (n : Int) (w : World) : Calls Tryz.prog 135 #[.int .i64 n] w fun e w' => e = .returned (.bool (mayB n)) ∧ w = w' := by
 have hd : mayB n = (decide (-576460752303423488 ≤ n) && decide (n ≤ 576460752303423487)) := by unfold mayB; rw [Bool.eq_iff_iff]; simp
 have H := Lib.hid hd
 clear hd
 by_cases h1 : -576460752303423488 ≤ n
 ·go_enter Tryz.func135, Tryz.ntmps135
  go_wp2
  go_ret
  exact ⟨ret_bool (by rw [H.out]; simp [h1]), rfl⟩
 ·go_enter Tryz.func135, Tryz.ntmps135
  go_wp2
  go_ret
  exact ⟨ret_bool (by rw [H.out]; simp; omega), rfl⟩

theorem txt_ne {s t : ByteArray} {l : List UInt8} (h : ¬ s = t) (e : t.data.toList = l) : (s.toList == l) = false := by
 cases k : s.toList == l
 ·rfl
 ·have k1 : s.toList = l := by simpa using k
  rw [ByteArray.toList_eq, ← e] at k1
  exact absurd (WideShapes.bytes_inj k1) h

def arithB (s : ByteArray) : Bool := decide (s = sPlus ∨ s = sMinus ∨ s = sTimes ∨ s = sDiv ∨ s = sRem)

theorem rArith_plus (w : World) : Calls Tryz.prog 98 #[.string ⟨#[43]⟩] w fun e w' => e = .returned (.bool true) ∧ w = w' := by
 go_enter Tryz.func98, Tryz.ntmps98
 go_wp2
 go_ret
 exact ⟨rfl, rfl⟩

theorem Arith_plus (w : World) : Calls Tryz.prog 148 #[.string ⟨#[43]⟩] w fun e w' => e = .returned (.bool true) ∧ Below w.heap.size w w' := by
 have hl := look_plus w
 go_enter Tryz.func148, Tryz.ntmps148
 go_wp2_with (go_at_call 152; refine (operations_any _).mono ?_; rintro e w' ⟨rfl, rfl⟩)
 go_ret
 exact ⟨rfl, (Below.refl _ _).alloc (Nat.le_refl _) _⟩

theorem rArith_minus (w : World) : Calls Tryz.prog 98 #[.string ⟨#[45]⟩] w fun e w' => e = .returned (.bool true) ∧ w = w' := by
 go_enter Tryz.func98, Tryz.ntmps98
 go_wp2
 go_ret
 exact ⟨rfl, rfl⟩

theorem Arith_minus (w : World) : Calls Tryz.prog 148 #[.string ⟨#[45]⟩] w fun e w' => e = .returned (.bool true) ∧ Below w.heap.size w w' := by
 have hl := look_minus w
 go_enter Tryz.func148, Tryz.ntmps148
 go_wp2_with (go_at_call 152; refine (operations_any _).mono ?_; rintro e w' ⟨rfl, rfl⟩)
 go_ret
 exact ⟨rfl, (Below.refl _ _).alloc (Nat.le_refl _) _⟩

theorem rArith_times (w : World) : Calls Tryz.prog 98 #[.string ⟨#[42]⟩] w fun e w' => e = .returned (.bool true) ∧ w = w' := by
 go_enter Tryz.func98, Tryz.ntmps98
 go_wp2
 go_ret
 exact ⟨rfl, rfl⟩

theorem Arith_times (w : World) : Calls Tryz.prog 148 #[.string ⟨#[42]⟩] w fun e w' => e = .returned (.bool true) ∧ Below w.heap.size w w' := by
 have hl := look_times w
 go_enter Tryz.func148, Tryz.ntmps148
 go_wp2_with (go_at_call 152; refine (operations_any _).mono ?_; rintro e w' ⟨rfl, rfl⟩)
 go_ret
 exact ⟨rfl, (Below.refl _ _).alloc (Nat.le_refl _) _⟩

theorem rArith_div (w : World) : Calls Tryz.prog 98 #[.string ⟨#[100, 105, 118]⟩] w fun e w' => e = .returned (.bool true) ∧ w = w' := by
 go_enter Tryz.func98, Tryz.ntmps98
 go_wp2
 go_ret
 exact ⟨rfl, rfl⟩

theorem Arith_div (w : World) : Calls Tryz.prog 148 #[.string ⟨#[100, 105, 118]⟩] w fun e w' => e = .returned (.bool true) ∧ Below w.heap.size w w' := by
 have hl := look_quotient w
 go_enter Tryz.func148, Tryz.ntmps148
 go_wp2_with (go_at_call 152; refine (operations_any _).mono ?_; rintro e w' ⟨rfl, rfl⟩)
 go_ret
 exact ⟨rfl, (Below.refl _ _).alloc (Nat.le_refl _) _⟩

theorem rArith_rem (w : World) : Calls Tryz.prog 98 #[.string ⟨#[114, 101, 109]⟩] w fun e w' => e = .returned (.bool true) ∧ w = w' := by
 go_enter Tryz.func98, Tryz.ntmps98
 go_wp2
 go_ret
 exact ⟨rfl, rfl⟩

theorem Arith_rem (w : World) : Calls Tryz.prog 148 #[.string ⟨#[114, 101, 109]⟩] w fun e w' => e = .returned (.bool true) ∧ Below w.heap.size w w' := by
 have hl := look_rest w
 go_enter Tryz.func148, Tryz.ntmps148
 go_wp2_with (go_at_call 152; refine (operations_any _).mono ?_; rintro e w' ⟨rfl, rfl⟩)
 go_ret
 exact ⟨rfl, (Below.refl _ _).alloc (Nat.le_refl _) _⟩

theorem rArith_none (s : ByteArray) (w : World) (h1 : ¬ s = sPlus) (h2 : ¬ s = sMinus) (h3 : ¬ s = sTimes) (h4 : ¬ s = sDiv) (h5 : ¬ s = sRem) : Calls Tryz.prog 98 #[.string s] w fun e w' => e = .returned (.bool false) ∧ w = w' := by
 have g1 : (s.toList == [43]) = false := txt_ne h1 rfl
 have g2 : (s.toList == [45]) = false := txt_ne h2 rfl
 have g3 : (s.toList == [42]) = false := txt_ne h3 rfl
 have g4 : (s.toList == [100, 105, 118]) = false := txt_ne h4 rfl
 have g5 : (s.toList == [114, 101, 109]) = false := txt_ne h5 rfl
 clear h1 h2 h3 h4 h5
 go_enter Tryz.func98, Tryz.ntmps98
 go_wp2
 go_ret
 exact ⟨rfl, rfl⟩

theorem Arith_none (s : ByteArray) (w : World) (hn : Instr.findNow .string (.string s) (opTab 5).toList 0 = some none) : Calls Tryz.prog 148 #[.string s] w fun e w' => e = .returned (.bool false) ∧ Below w.heap.size w w' := by
 have hl := run_miss_last Tryz.underlying179 Tryz.underlying9 w (opTab 5) 5 s .nilFunc zero_op hn
 clear hn
 go_enter Tryz.func148, Tryz.ntmps148
 go_wp2_with (go_at_call 152; refine (operations_any _).mono ?_; rintro e w' ⟨rfl, rfl⟩)
 go_ret
 exact ⟨rfl, (Below.refl _ _).alloc (Nat.le_refl _) _⟩

theorem rArith_any (s : ByteArray) (w : World) : Calls Tryz.prog 98 #[.string s] w fun e w' => e = .returned (.bool (arithB s)) ∧ w = w' := by
 by_cases h1 : s = sPlus
 ·subst h1
  rw [show arithB sPlus = true from by unfold arithB; rw [decide_eq_true_eq]; simp]
  exact rArith_plus w
 by_cases h2 : s = sMinus
 ·subst h2
  rw [show arithB sMinus = true from by unfold arithB; rw [decide_eq_true_eq]; simp]
  exact rArith_minus w
 by_cases h3 : s = sTimes
 ·subst h3
  rw [show arithB sTimes = true from by unfold arithB; rw [decide_eq_true_eq]; simp]
  exact rArith_times w
 by_cases h4 : s = sDiv
 ·subst h4
  rw [show arithB sDiv = true from by unfold arithB; rw [decide_eq_true_eq]; simp]
  exact rArith_div w
 by_cases h5 : s = sRem
 ·subst h5
  rw [show arithB sRem = true from by unfold arithB; rw [decide_eq_true_eq]; simp]
  exact rArith_rem w
 ·rw [show arithB s = false from by unfold arithB; rw [decide_eq_false_iff_not]; simp [h1, h2, h3, h4, h5]]
  exact rArith_none s w h1 h2 h3 h4 h5

theorem Arith_any (s : ByteArray) (w : World) : Calls Tryz.prog 148 #[.string s] w fun e w' => e = .returned (.bool (arithB s)) ∧ Below w.heap.size w w' := by
 by_cases h1 : s = sPlus
 ·subst h1
  rw [show arithB sPlus = true from by unfold arithB; rw [decide_eq_true_eq]; simp]
  exact Arith_plus w
 by_cases h2 : s = sMinus
 ·subst h2
  rw [show arithB sMinus = true from by unfold arithB; rw [decide_eq_true_eq]; simp]
  exact Arith_minus w
 by_cases h3 : s = sTimes
 ·subst h3
  rw [show arithB sTimes = true from by unfold arithB; rw [decide_eq_true_eq]; simp]
  exact Arith_times w
 by_cases h4 : s = sDiv
 ·subst h4
  rw [show arithB sDiv = true from by unfold arithB; rw [decide_eq_true_eq]; simp]
  exact Arith_div w
 by_cases h5 : s = sRem
 ·subst h5
  rw [show arithB sRem = true from by unfold arithB; rw [decide_eq_true_eq]; simp]
  exact Arith_rem w
 ·rw [show arithB s = false from by unfold arithB; rw [decide_eq_false_iff_not]; simp [h1, h2, h3, h4, h5]]
  exact Arith_none s w (miss_op h1 h2 h3 h4 h5)

theorem rCompare_1 (c : Int) (w : World) : Calls Tryz.prog 97 #[.string ⟨#[61, 58, 61]⟩, .int .i64 c] w fun e w' => e = .returned (.tuple #[.bool (c == 0), .bool true]) ∧ w = w' := by
 go_enter Tryz.func97, Tryz.ntmps97
 go_wp2
 go_ret2
 exact ⟨rfl, rfl⟩

theorem rCompare_2 (c : Int) (w : World) : Calls Tryz.prog 97 #[.string ⟨#[61, 47, 61]⟩, .int .i64 c] w fun e w' => e = .returned (.tuple #[.bool (c != 0), .bool true]) ∧ w = w' := by
 go_enter Tryz.func97, Tryz.ntmps97
 go_wp2
 go_ret2
 exact ⟨rfl, rfl⟩

theorem rCompare_3 (c : Int) (w : World) : Calls Tryz.prog 97 #[.string ⟨#[60]⟩, .int .i64 c] w fun e w' => e = .returned (.tuple #[.bool (decide (c < 0)), .bool true]) ∧ w = w' := by
 go_enter Tryz.func97, Tryz.ntmps97
 go_wp2
 go_ret2
 exact ⟨rfl, rfl⟩

theorem rCompare_4 (c : Int) (w : World) : Calls Tryz.prog 97 #[.string ⟨#[61, 60]⟩, .int .i64 c] w fun e w' => e = .returned (.tuple #[.bool (decide (c ≤ 0)), .bool true]) ∧ w = w' := by
 go_enter Tryz.func97, Tryz.ntmps97
 go_wp2
 go_ret2
 exact ⟨rfl, rfl⟩

theorem rCompare_5 (c : Int) (w : World) : Calls Tryz.prog 97 #[.string ⟨#[62]⟩, .int .i64 c] w fun e w' => e = .returned (.tuple #[.bool (decide (0 < c)), .bool true]) ∧ w = w' := by
 go_enter Tryz.func97, Tryz.ntmps97
 go_wp2
 go_ret2
 exact ⟨rfl, rfl⟩

theorem rCompare_6 (c : Int) (w : World) : Calls Tryz.prog 97 #[.string ⟨#[62, 61]⟩, .int .i64 c] w fun e w' => e = .returned (.tuple #[.bool (decide (0 ≤ c)), .bool true]) ∧ w = w' := by
 go_enter Tryz.func97, Tryz.ntmps97
 go_wp2
 go_ret2
 exact ⟨rfl, rfl⟩

theorem rCompare_none (s : ByteArray) (c : Int) (w : World) (h1 : ¬ s = sEq) (h2 : ¬ s = sNe) (h3 : ¬ s = sLt) (h4 : ¬ s = sLe) (h5 : ¬ s = sGt) (h6 : ¬ s = sGe) :
  Calls Tryz.prog 97 #[.string s, .int .i64 c] w fun e w' => e = .returned (.tuple #[.bool false, .bool false]) ∧ w = w' := by
 have g1 : (s.toList == [61, 58, 61]) = false := txt_ne h1 rfl
 have g2 : (s.toList == [61, 47, 61]) = false := txt_ne h2 rfl
 have g3 : (s.toList == [60]) = false := txt_ne h3 rfl
 have g4 : (s.toList == [61, 60]) = false := txt_ne h4 rfl
 have g5 : (s.toList == [62]) = false := txt_ne h5 rfl
 have g6 : (s.toList == [62, 61]) = false := txt_ne h6 rfl
 clear h1 h2 h3 h4 h5 h6
 go_enter Tryz.func97, Tryz.ntmps97
 go_wp2
 go_ret2
 exact ⟨rfl, rfl⟩

theorem rCompare_any (s : ByteArray) (c : Int) (w : World) :
  Calls Tryz.prog 97 #[.string s, .int .i64 c] w fun e w' => e = .returned (.tuple #[.bool (cmpR s c).1, .bool (cmpR s c).2]) ∧ w = w' := by
 by_cases h1 : s = sEq
 ·subst h1
  refine (rCompare_1 c w).mono ?_
  rintro e w' ⟨rfl, hb⟩
  have e : cmpR sEq c = (decide (c = 0), true) := by unfold cmpR; rw [if_pos rfl]
  refine ⟨ret_bools ?_ (by rw [e]), hb⟩
  rw [e]
  rw [Bool.eq_iff_iff]; simp
 by_cases h2 : s = sNe
 ·subst h2
  refine (rCompare_2 c w).mono ?_
  rintro e w' ⟨rfl, hb⟩
  have e : cmpR sNe c = (decide (¬ c = 0), true) := by unfold cmpR; rw [if_neg h1, if_pos rfl]
  refine ⟨ret_bools ?_ (by rw [e]), hb⟩
  rw [e]
  rw [Bool.eq_iff_iff]; simp
 by_cases h3 : s = sLt
 ·subst h3
  refine (rCompare_3 c w).mono ?_
  rintro e w' ⟨rfl, hb⟩
  have e : cmpR sLt c = (decide (c < 0), true) := by unfold cmpR; rw [if_neg h1, if_neg h2, if_pos rfl]
  refine ⟨ret_bools ?_ (by rw [e]), hb⟩
  rw [e]
  try rfl
 by_cases h4 : s = sLe
 ·subst h4
  refine (rCompare_4 c w).mono ?_
  rintro e w' ⟨rfl, hb⟩
  have e : cmpR sLe c = (decide (c ≤ 0), true) := by unfold cmpR; rw [if_neg h1, if_neg h2, if_neg h3, if_pos rfl]
  refine ⟨ret_bools ?_ (by rw [e]), hb⟩
  rw [e]
  try rfl
 by_cases h5 : s = sGt
 ·subst h5
  refine (rCompare_5 c w).mono ?_
  rintro e w' ⟨rfl, hb⟩
  have e : cmpR sGt c = (decide (0 < c), true) := by unfold cmpR; rw [if_neg h1, if_neg h2, if_neg h3, if_neg h4, if_pos rfl]
  refine ⟨ret_bools ?_ (by rw [e]), hb⟩
  rw [e]
  try rfl
 by_cases h6 : s = sGe
 ·subst h6
  refine (rCompare_6 c w).mono ?_
  rintro e w' ⟨rfl, hb⟩
  have e : cmpR sGe c = (decide (0 ≤ c), true) := by unfold cmpR; rw [if_neg h1, if_neg h2, if_neg h3, if_neg h4, if_neg h5, if_pos rfl]
  refine ⟨ret_bools ?_ (by rw [e]), hb⟩
  rw [e]
  try rfl
 ·have e : cmpR s c = (false, false) := by unfold cmpR; rw [if_neg h1, if_neg h2, if_neg h3, if_neg h4, if_neg h5, if_neg h6]
  rw [e]
  exact rCompare_none s c w h1 h2 h3 h4 h5 h6

end Go.Proofs.YtmdcdhdjojimeaaGreatDoor
end
