/- Contract of ints.Read: for any text that may be read. -/
import Derived.Test.YthbiaaeoajmlbaaGreatDoorRows
import Derived.Test.YthbiaaeoajmlbaaGreatDoorKDigits
import Derived.WalkKit
import Derived.MapKept
import Derived.ProofKit
import Derived.Lib.Hide
import Derived.WalkLawsBesides
import Derived.WalkSpells
import Derived.Outline
import Derived.IntWalk
section
namespace Go.Proofs.YthbiaaeoajmlbaaGreatDoor
open Go.RowKit

theorem run_put_last {P : Program} {t k e : TypeId} (ht : P.underlying t = some (.map k e)) (hk : P.underlying k = some .string) (w : World) (es : Array MapEntry) (c : Nat) (s : ByteArray) (v : Value)
    (hn : Instr.findNow .string (.string s) es.toList 0 = some none) :
    (Instr.mapUpdate t (.map (some w.heap.size)) (.string s) v).run P (w.alloc (.map es c)) = .ok () (w.alloc (.map (es.push ⟨.string s, v, c⟩) (c + 1))) := by
  have hb : (w.alloc (.map es c)).heap[w.heap.size]? = some (.map es c) := (MapKept.heap_alloc w _).1
  have hkey : MapKept.IsKey .string (.string s) := by simp [MapKept.IsKey]
  have hset : ({ w.alloc (.map es c) with heap := (w.alloc (.map es c)).heap.setIfInBounds w.heap.size (.map (es.push ⟨.string s, v, c⟩) (c + 1)) } : World) = w.alloc (.map (es.push ⟨.string s, v, c⟩) (c + 1)) := by
    have e : (w.alloc (.map es c)).heap = w.heap.push (.map es c) := rfl
    have e2 : ((w.heap.push (.map es c)).setIfInBounds w.heap.size (.map (es.push ⟨.string s, v, c⟩) (c + 1))) = w.heap.push (.map (es.push ⟨.string s, v, c⟩) (c + 1)) := by
      apply Array.ext_getElem?
      intro i
      simp only [Array.getElem?_setIfInBounds, Array.getElem?_push, Array.size_push]
      by_cases hi : i = w.heap.size
      · subst hi; simp
      · simp [hi, Ne.symm hi]
    rw [e, e2]; rfl
  simp [Instr.mapUpdate, run_underlying ht, MapKept.run_getObj_map hb, MapKept.run_checkKey hk hkey, MapKept.run_findKey hk hn, MapKept.run_setObj_map _ hb, Result.andThen]
  exact hset

theorem run_look_last {P : Program} {t k e : TypeId} (ht : P.underlying t = some (.map k e)) (hk : P.underlying k = some .string) (w : World) (es : Array MapEntry) (c : Nat) (s : ByteArray) (i : Nat) (v : Value)
    (hn : Instr.findNow .string (.string s) es.toList 0 = some (some (i, v))) :
    (Instr.lookup t (.map (some w.heap.size)) (.string s) true).run P (w.alloc (.map es c)) = .ok (.tuple #[v, .bool true]) (w.alloc (.map es c)) := by
  have hb : (w.alloc (.map es c)).heap[w.heap.size]? = some (.map es c) := (MapKept.heap_alloc w _).1
  have hkey : MapKept.IsKey .string (.string s) := by simp [MapKept.IsKey]
  simp [Instr.lookup, run_underlying ht, MapKept.run_getObj_map hb, MapKept.run_checkKey hk hkey, MapKept.run_findKey hk hn, Result.andThen]

theorem run_miss_last {P : Program} {t k e : TypeId} (ht : P.underlying t = some (.map k e)) (hk : P.underlying k = some .string) (w : World) (es : Array MapEntry) (c : Nat) (s : ByteArray) (z : Value)
    (hz : ∀ w, (zeroValue e).run P w = .ok z w) (hn : Instr.findNow .string (.string s) es.toList 0 = some none) :
    (Instr.lookup t (.map (some w.heap.size)) (.string s) true).run P (w.alloc (.map es c)) = .ok (.tuple #[z, .bool false]) (w.alloc (.map es c)) := by
  have hb : (w.alloc (.map es c)).heap[w.heap.size]? = some (.map es c) := (MapKept.heap_alloc w _).1
  have hkey : MapKept.IsKey .string (.string s) := by simp [MapKept.IsKey]
  simp [Instr.lookup, run_underlying ht, MapKept.run_getObj_map hb, MapKept.run_checkKey hk hkey, MapKept.run_findKey hk hn, hz, Result.andThen]

end Go.Proofs.YthbiaaeoajmlbaaGreatDoor
end
section
namespace Go.Proofs.YthbiaaeoajmlbaaGreatDoor
open Go.RowKit

def opTab (k : Nat) : Array MapEntry := (#[⟨.string ⟨#[43]⟩, .func (.func 311) #[] #[], 0⟩, ⟨.string ⟨#[45]⟩, .func (.func 312) #[] #[], 1⟩, ⟨.string ⟨#[42]⟩, .func (.func 313) #[] #[], 2⟩,
  ⟨.string ⟨#[100, 105, 118]⟩, .func (.func 314) #[] #[], 3⟩, ⟨.string ⟨#[114, 101, 109]⟩, .func (.func 315) #[] #[], 4⟩] : Array MapEntry).take k

theorem operations_any (w : World) : Calls Tryz.prog 295 #[] w fun e w' => e = .returned (.map (some w.heap.size)) ∧ w' = w.alloc (.map (opTab 5) 5) := by
  have hmm := @run_makeMap Tryz.prog
  have i1 : Sem.run Tryz.prog (Instr.mapUpdate 290 (.map (some w.heap.size)) (.string ⟨#[43]⟩) (.func (.func 311) #[] #[])) (w.alloc (.map #[] 0)) = .ok () (w.alloc (.map (opTab 1) 1)) :=
    run_put_last Tryz.underlying290 Tryz.underlying9 w (opTab 0) 0 _ _ rfl
  have i2 : Sem.run Tryz.prog (Instr.mapUpdate 290 (.map (some w.heap.size)) (.string ⟨#[45]⟩) (.func (.func 312) #[] #[])) (w.alloc (.map (opTab 1) 1)) = .ok () (w.alloc (.map (opTab 2) 2)) :=
    run_put_last Tryz.underlying290 Tryz.underlying9 w (opTab 1) 1 _ _ rfl
  have i3 : Sem.run Tryz.prog (Instr.mapUpdate 290 (.map (some w.heap.size)) (.string ⟨#[42]⟩) (.func (.func 313) #[] #[])) (w.alloc (.map (opTab 2) 2)) = .ok () (w.alloc (.map (opTab 3) 3)) :=
    run_put_last Tryz.underlying290 Tryz.underlying9 w (opTab 2) 2 _ _ rfl
  have i4 : Sem.run Tryz.prog (Instr.mapUpdate 290 (.map (some w.heap.size)) (.string ⟨#[100, 105, 118]⟩) (.func (.func 314) #[] #[])) (w.alloc (.map (opTab 3) 3)) = .ok () (w.alloc (.map (opTab 4) 4)) :=
    run_put_last Tryz.underlying290 Tryz.underlying9 w (opTab 3) 3 _ _ rfl
  have i5 : Sem.run Tryz.prog (Instr.mapUpdate 290 (.map (some w.heap.size)) (.string ⟨#[114, 101, 109]⟩) (.func (.func 315) #[] #[])) (w.alloc (.map (opTab 4) 4)) = .ok () (w.alloc (.map (opTab 5) 5)) :=
    run_put_last Tryz.underlying290 Tryz.underlying9 w (opTab 4) 4 _ _ rfl
  go_enter Tryz.func295, Tryz.ntmps295
  go_wp2
  go_ret
  exact ⟨rfl, rfl⟩
end Go.Proofs.YthbiaaeoajmlbaaGreatDoor
end
section
namespace Go.Proofs.YthbiaaeoajmlbaaGreatDoor
open Go.RowKit

theorem quo_0 (a : Int) (w : World) : Calls Tryz.prog 314 #[.int .i64 a, .int .i64 0] w fun e w' => e = .returned (.iface 28 (.int .i64 10)) ∧ w = w' := by
  go_enter Tryz.func314, Tryz.ntmps314
  go_wp2
  go_ret
  exact ⟨rfl, rfl⟩

theorem rem_0 (a : Int) (w : World) : Calls Tryz.prog 315 #[.int .i64 a, .int .i64 0] w fun e w' => e = .returned (.iface 28 (.int .i64 10)) ∧ w = w' := by
  go_enter Tryz.func315, Tryz.ntmps315
  go_wp2
  go_ret
  exact ⟨rfl, rfl⟩

theorem quo_any (a b : Int) (w : World) (hb : ¬ b = 0) : Calls Tryz.prog 314 #[.int .i64 a, .int .i64 b] w fun e w' => e = .returned (.iface 3 (.int .i64 (wrap64 (a.tdiv b)))) ∧ w = w' := by
  go_enter Tryz.func314, Tryz.ntmps314
  go_wp2
  go_ret
  exact ⟨rfl, rfl⟩

theorem rem_any (a b : Int) (w : World) (hb : ¬ b = 0) : Calls Tryz.prog 315 #[.int .i64 a, .int .i64 b] w fun e w' => e = .returned (.iface 3 (.int .i64 (a.tmod b))) ∧ w = w' := by
  go_enter Tryz.func315, Tryz.ntmps315
  go_wp2
  go_ret
  exact ⟨rfl, rfl⟩

theorem times_0 (a : Int) (w : World) : Calls Tryz.prog 313 #[.int .i64 a, .int .i64 0] w fun e w' => e = .returned (.iface 3 (.int .i64 0)) ∧ w = w' := by
  go_enter Tryz.func313, Tryz.ntmps313
  go_wp2
  go_ret
  exact ⟨rfl, rfl⟩

theorem times_ok (a b : Int) (w : World) (hb : ¬ b = 0) (h : ((wrap64 (a * b)).tdiv b) = a) (ha : mayB a = true) : Calls Tryz.prog 313 #[.int .i64 a, .int .i64 b] w fun e w' => e = .returned (.iface 3 (.int .i64 (wrap64 (a * b)))) ∧ w = w' := by
  have h2 : (wrap64 ((wrap64 (a * b)).tdiv b) != a) = false := by
    have := may_bd ha
    rw [h, bne_eq_false_iff_eq]; unfold wrap64; omega
  clear h ha
  go_enter Tryz.func313, Tryz.ntmps313
  go_wp2
  go_ret
  exact ⟨rfl, rfl⟩

theorem times_long (a b : Int) (w : World) (hb : ¬ b = 0) (h : (wrap64 ((wrap64 (a * b)).tdiv b) != a) = true) : Calls Tryz.prog 313 #[.int .i64 a, .int .i64 b] w fun e w' => e = .returned (.iface 28 (.int .i64 11)) ∧ w = w' := by
  go_enter Tryz.func313, Tryz.ntmps313
  go_wp2
  go_ret
  exact ⟨rfl, rfl⟩

theorem plus_any (a b : Int) (w : World) : Calls Tryz.prog 311 #[.int .i64 a, .int .i64 b] w fun e w' => e = .returned (.iface 3 (.int .i64 (wrap64 (a + b)))) ∧ w = w' := by
  go_enter Tryz.func311, Tryz.ntmps311
  go_wp2
  go_ret
  exact ⟨rfl, rfl⟩

theorem minus_any (a b : Int) (w : World) : Calls Tryz.prog 312 #[.int .i64 a, .int .i64 b] w fun e w' => e = .returned (.iface 3 (.int .i64 (wrap64 (a - b)))) ∧ w = w' := by
  go_enter Tryz.func312, Tryz.ntmps312
  go_wp2
  go_ret
  exact ⟨rfl, rfl⟩

end Go.Proofs.YthbiaaeoajmlbaaGreatDoor
end
section
namespace Go.Proofs.YthbiaaeoajmlbaaGreatDoor
open Go.RowKit

def sEq : ByteArray := ⟨#[61, 58, 61]⟩
def sNe : ByteArray := ⟨#[61, 47, 61]⟩
def sLt : ByteArray := ⟨#[60]⟩
def sLe : ByteArray := ⟨#[61, 60]⟩
def sGt : ByteArray := ⟨#[62]⟩
def sGe : ByteArray := ⟨#[62, 61]⟩

def cmpR (s : ByteArray) (c : Int) : Bool × Bool :=
  if s = sEq then (decide (c = 0), true) else
  if s = sNe then (decide (¬ c = 0), true) else
  if s = sLt then (decide (c < 0), true) else
  if s = sLe then (decide (c ≤ 0), true) else
  if s = sGt then (decide (0 < c), true) else
  if s = sGe then (decide (0 ≤ c), true) else
  (false, false)

def sgn (c : Int) : Int := if c < 0 then -1 else if 0 < c then 1 else 0

theorem signOf_any (c : Int) (w : World) : Calls Tryz.prog 252 #[.int .i64 c] w fun e w' => e = .returned (.int .i64 (sgn c)) ∧ w = w' := by
  by_cases h1 : c < 0
  · have H := Lib.hid (show sgn c = -1 by rw [sgn, if_pos h1])
    go_enter Tryz.func252, Tryz.ntmps252
    go_wp2
    go_ret
    exact ⟨ret_int (by rw [H.out]), rfl⟩
  by_cases h2 : 0 < c
  · have H := Lib.hid (show sgn c = 1 by rw [sgn, if_neg h1, if_pos h2])
    go_enter Tryz.func252, Tryz.ntmps252
    go_wp2
    go_ret
    exact ⟨ret_int (by rw [H.out]), rfl⟩
  · have H := Lib.hid (show sgn c = 0 by rw [sgn, if_neg h1, if_neg h2])
    go_enter Tryz.func252, Tryz.ntmps252
    go_wp2
    go_ret
    exact ⟨ret_int (by rw [H.out]), rfl⟩

def cmpTab (k : Nat) : Array MapEntry := (#[⟨.string ⟨#[61, 58, 61]⟩, .func (.func 297) #[] #[], 0⟩, ⟨.string ⟨#[61, 47, 61]⟩, .func (.func 298) #[] #[], 1⟩, ⟨.string ⟨#[60]⟩, .func (.func 299) #[] #[], 2⟩, ⟨.string ⟨#[61, 60]⟩, .func (.func 300) #[] #[], 3⟩, ⟨.string ⟨#[62]⟩, .func (.func 301) #[] #[], 4⟩, ⟨.string ⟨#[62, 61]⟩, .func (.func 302) #[] #[], 5⟩] : Array MapEntry).take k

theorem comparisons_any (w : World) : Calls Tryz.prog 251 #[] w fun e w' => e = .returned (.map (some w.heap.size)) ∧ w' = w.alloc (.map (cmpTab 6) 6) := by
  have hmm := @run_makeMap Tryz.prog
  have i1 : Sem.run Tryz.prog (Instr.mapUpdate 270 (.map (some w.heap.size)) (.string ⟨#[61, 58, 61]⟩) (.func (.func 297) #[] #[])) (w.alloc (.map #[] 0)) = .ok () (w.alloc (.map (cmpTab 1) 1)) :=
    run_put_last Tryz.underlying270 Tryz.underlying9 w (cmpTab 0) 0 _ _ rfl
  have i2 : Sem.run Tryz.prog (Instr.mapUpdate 270 (.map (some w.heap.size)) (.string ⟨#[61, 47, 61]⟩) (.func (.func 298) #[] #[])) (w.alloc (.map (cmpTab 1) 1)) = .ok () (w.alloc (.map (cmpTab 2) 2)) :=
    run_put_last Tryz.underlying270 Tryz.underlying9 w (cmpTab 1) 1 _ _ rfl
  have i3 : Sem.run Tryz.prog (Instr.mapUpdate 270 (.map (some w.heap.size)) (.string ⟨#[60]⟩) (.func (.func 299) #[] #[])) (w.alloc (.map (cmpTab 2) 2)) = .ok () (w.alloc (.map (cmpTab 3) 3)) :=
    run_put_last Tryz.underlying270 Tryz.underlying9 w (cmpTab 2) 2 _ _ rfl
  have i4 : Sem.run Tryz.prog (Instr.mapUpdate 270 (.map (some w.heap.size)) (.string ⟨#[61, 60]⟩) (.func (.func 300) #[] #[])) (w.alloc (.map (cmpTab 3) 3)) = .ok () (w.alloc (.map (cmpTab 4) 4)) :=
    run_put_last Tryz.underlying270 Tryz.underlying9 w (cmpTab 3) 3 _ _ rfl
  have i5 : Sem.run Tryz.prog (Instr.mapUpdate 270 (.map (some w.heap.size)) (.string ⟨#[62]⟩) (.func (.func 301) #[] #[])) (w.alloc (.map (cmpTab 4) 4)) = .ok () (w.alloc (.map (cmpTab 5) 5)) :=
    run_put_last Tryz.underlying270 Tryz.underlying9 w (cmpTab 4) 4 _ _ rfl
  have i6 : Sem.run Tryz.prog (Instr.mapUpdate 270 (.map (some w.heap.size)) (.string ⟨#[62, 61]⟩) (.func (.func 302) #[] #[])) (w.alloc (.map (cmpTab 5) 5)) = .ok () (w.alloc (.map (cmpTab 6) 6)) :=
    run_put_last Tryz.underlying270 Tryz.underlying9 w (cmpTab 5) 5 _ _ rfl
  go_enter Tryz.func251, Tryz.ntmps251
  go_wp2
  go_ret
  exact ⟨rfl, rfl⟩

theorem zero_cmp (w : World) : (zeroValue 268).run Tryz.prog w = .ok .nilFunc w := by kernel_rfl

theorem cmp_1 (x : Int) (w : World) : Calls Tryz.prog 297 #[.int .i64 x] w fun e w' => e = .returned (.bool (x == 0)) ∧ w = w' := by
  go_enter Tryz.func297, Tryz.ntmps297
  go_wp2
  go_ret
  exact ⟨rfl, rfl⟩

theorem Compare_1 (c : Int) (w : World) : Calls Tryz.prog 226 #[.string ⟨#[61, 58, 61]⟩, .int .i64 c] w fun e w' => e = .returned (.tuple #[.bool (sgn c == 0), .bool true]) ∧ Below w.heap.size w w' := by
  have hl : Sem.run Tryz.prog (Instr.lookup 270 (.map (some w.heap.size)) (.string ⟨#[61, 58, 61]⟩) true) (w.alloc (.map (cmpTab 6) 6)) = .ok (.tuple #[.func (.func 297) #[] #[], .bool true]) (w.alloc (.map (cmpTab 6) 6)) :=
    run_look_last Tryz.underlying270 Tryz.underlying9 w (cmpTab 6) 6 _ 0 _ rfl
  go_enter Tryz.func226, Tryz.ntmps226
  go_wp2_with (first
    | (go_at_call 251; refine (comparisons_any _).mono ?_; rintro e w' ⟨rfl, rfl⟩)
    | (go_at_call 252; refine (signOf_any _ _).mono ?_; rintro e w' ⟨rfl, rfl⟩)
    | (go_at_call 297; refine (cmp_1 _ _).mono ?_; rintro e w' ⟨rfl, rfl⟩))
  go_ret2
  exact ⟨rfl, (Below.refl _ _).alloc (Nat.le_refl _) _⟩

theorem cmp_2 (x : Int) (w : World) : Calls Tryz.prog 298 #[.int .i64 x] w fun e w' => e = .returned (.bool (x != 0)) ∧ w = w' := by
  go_enter Tryz.func298, Tryz.ntmps298
  go_wp2
  go_ret
  exact ⟨rfl, rfl⟩

theorem Compare_2 (c : Int) (w : World) : Calls Tryz.prog 226 #[.string ⟨#[61, 47, 61]⟩, .int .i64 c] w fun e w' => e = .returned (.tuple #[.bool (sgn c != 0), .bool true]) ∧ Below w.heap.size w w' := by
  have hl : Sem.run Tryz.prog (Instr.lookup 270 (.map (some w.heap.size)) (.string ⟨#[61, 47, 61]⟩) true) (w.alloc (.map (cmpTab 6) 6)) = .ok (.tuple #[.func (.func 298) #[] #[], .bool true]) (w.alloc (.map (cmpTab 6) 6)) :=
    run_look_last Tryz.underlying270 Tryz.underlying9 w (cmpTab 6) 6 _ 1 _ rfl
  go_enter Tryz.func226, Tryz.ntmps226
  go_wp2_with (first
    | (go_at_call 251; refine (comparisons_any _).mono ?_; rintro e w' ⟨rfl, rfl⟩)
    | (go_at_call 252; refine (signOf_any _ _).mono ?_; rintro e w' ⟨rfl, rfl⟩)
    | (go_at_call 298; refine (cmp_2 _ _).mono ?_; rintro e w' ⟨rfl, rfl⟩))
  go_ret2
  exact ⟨rfl, (Below.refl _ _).alloc (Nat.le_refl _) _⟩

theorem cmp_3 (x : Int) (w : World) : Calls Tryz.prog 299 #[.int .i64 x] w fun e w' => e = .returned (.bool (x == -1)) ∧ w = w' := by
  go_enter Tryz.func299, Tryz.ntmps299
  go_wp2
  go_ret
  exact ⟨rfl, rfl⟩

theorem Compare_3 (c : Int) (w : World) : Calls Tryz.prog 226 #[.string ⟨#[60]⟩, .int .i64 c] w fun e w' => e = .returned (.tuple #[.bool (sgn c == -1), .bool true]) ∧ Below w.heap.size w w' := by
  have hl : Sem.run Tryz.prog (Instr.lookup 270 (.map (some w.heap.size)) (.string ⟨#[60]⟩) true) (w.alloc (.map (cmpTab 6) 6)) = .ok (.tuple #[.func (.func 299) #[] #[], .bool true]) (w.alloc (.map (cmpTab 6) 6)) :=
    run_look_last Tryz.underlying270 Tryz.underlying9 w (cmpTab 6) 6 _ 2 _ rfl
  go_enter Tryz.func226, Tryz.ntmps226
  go_wp2_with (first
    | (go_at_call 251; refine (comparisons_any _).mono ?_; rintro e w' ⟨rfl, rfl⟩)
    | (go_at_call 252; refine (signOf_any _ _).mono ?_; rintro e w' ⟨rfl, rfl⟩)
    | (go_at_call 299; refine (cmp_3 _ _).mono ?_; rintro e w' ⟨rfl, rfl⟩))
  go_ret2
  exact ⟨rfl, (Below.refl _ _).alloc (Nat.le_refl _) _⟩

theorem cmp_4 (x : Int) (w : World) : Calls Tryz.prog 300 #[.int .i64 x] w fun e w' => e = .returned (.bool (x != 1)) ∧ w = w' := by
  go_enter Tryz.func300, Tryz.ntmps300
  go_wp2
  go_ret
  exact ⟨rfl, rfl⟩

theorem Compare_4 (c : Int) (w : World) : Calls Tryz.prog 226 #[.string ⟨#[61, 60]⟩, .int .i64 c] w fun e w' => e = .returned (.tuple #[.bool (sgn c != 1), .bool true]) ∧ Below w.heap.size w w' := by
  have hl : Sem.run Tryz.prog (Instr.lookup 270 (.map (some w.heap.size)) (.string ⟨#[61, 60]⟩) true) (w.alloc (.map (cmpTab 6) 6)) = .ok (.tuple #[.func (.func 300) #[] #[], .bool true]) (w.alloc (.map (cmpTab 6) 6)) :=
    run_look_last Tryz.underlying270 Tryz.underlying9 w (cmpTab 6) 6 _ 3 _ rfl
  go_enter Tryz.func226, Tryz.ntmps226
  go_wp2_with (first
    | (go_at_call 251; refine (comparisons_any _).mono ?_; rintro e w' ⟨rfl, rfl⟩)
    | (go_at_call 252; refine (signOf_any _ _).mono ?_; rintro e w' ⟨rfl, rfl⟩)
    | (go_at_call 300; refine (cmp_4 _ _).mono ?_; rintro e w' ⟨rfl, rfl⟩))
  go_ret2
  exact ⟨rfl, (Below.refl _ _).alloc (Nat.le_refl _) _⟩

theorem cmp_5 (x : Int) (w : World) : Calls Tryz.prog 301 #[.int .i64 x] w fun e w' => e = .returned (.bool (x == 1)) ∧ w = w' := by
  go_enter Tryz.func301, Tryz.ntmps301
  go_wp2
  go_ret
  exact ⟨rfl, rfl⟩

theorem Compare_5 (c : Int) (w : World) : Calls Tryz.prog 226 #[.string ⟨#[62]⟩, .int .i64 c] w fun e w' => e = .returned (.tuple #[.bool (sgn c == 1), .bool true]) ∧ Below w.heap.size w w' := by
  have hl : Sem.run Tryz.prog (Instr.lookup 270 (.map (some w.heap.size)) (.string ⟨#[62]⟩) true) (w.alloc (.map (cmpTab 6) 6)) = .ok (.tuple #[.func (.func 301) #[] #[], .bool true]) (w.alloc (.map (cmpTab 6) 6)) :=
    run_look_last Tryz.underlying270 Tryz.underlying9 w (cmpTab 6) 6 _ 4 _ rfl
  go_enter Tryz.func226, Tryz.ntmps226
  go_wp2_with (first
    | (go_at_call 251; refine (comparisons_any _).mono ?_; rintro e w' ⟨rfl, rfl⟩)
    | (go_at_call 252; refine (signOf_any _ _).mono ?_; rintro e w' ⟨rfl, rfl⟩)
    | (go_at_call 301; refine (cmp_5 _ _).mono ?_; rintro e w' ⟨rfl, rfl⟩))
  go_ret2
  exact ⟨rfl, (Below.refl _ _).alloc (Nat.le_refl _) _⟩

theorem cmp_6 (x : Int) (w : World) : Calls Tryz.prog 302 #[.int .i64 x] w fun e w' => e = .returned (.bool (x != -1)) ∧ w = w' := by
  go_enter Tryz.func302, Tryz.ntmps302
  go_wp2
  go_ret
  exact ⟨rfl, rfl⟩

theorem Compare_6 (c : Int) (w : World) : Calls Tryz.prog 226 #[.string ⟨#[62, 61]⟩, .int .i64 c] w fun e w' => e = .returned (.tuple #[.bool (sgn c != -1), .bool true]) ∧ Below w.heap.size w w' := by
  have hl : Sem.run Tryz.prog (Instr.lookup 270 (.map (some w.heap.size)) (.string ⟨#[62, 61]⟩) true) (w.alloc (.map (cmpTab 6) 6)) = .ok (.tuple #[.func (.func 302) #[] #[], .bool true]) (w.alloc (.map (cmpTab 6) 6)) :=
    run_look_last Tryz.underlying270 Tryz.underlying9 w (cmpTab 6) 6 _ 5 _ rfl
  go_enter Tryz.func226, Tryz.ntmps226
  go_wp2_with (first
    | (go_at_call 251; refine (comparisons_any _).mono ?_; rintro e w' ⟨rfl, rfl⟩)
    | (go_at_call 252; refine (signOf_any _ _).mono ?_; rintro e w' ⟨rfl, rfl⟩)
    | (go_at_call 302; refine (cmp_6 _ _).mono ?_; rintro e w' ⟨rfl, rfl⟩))
  go_ret2
  exact ⟨rfl, (Below.refl _ _).alloc (Nat.le_refl _) _⟩

theorem Compare_none (s : ByteArray) (c : Int) (w : World) (hn : Instr.findNow .string (.string s) (cmpTab 6).toList 0 = some none) : Calls Tryz.prog 226 #[.string s, .int .i64 c] w fun e w' => e = .returned (.tuple #[.bool false, .bool false]) ∧ Below w.heap.size w w' := by
  have hl := run_miss_last Tryz.underlying270 Tryz.underlying9 w (cmpTab 6) 6 s .nilFunc zero_cmp hn
  clear hn
  go_enter Tryz.func226, Tryz.ntmps226
  go_wp2_with (go_at_call 251; refine (comparisons_any _).mono ?_; rintro e w' ⟨rfl, rfl⟩)
  go_ret2
  exact ⟨rfl, (Below.refl _ _).alloc (Nat.le_refl _) _⟩

theorem ret_bools {a a' b b' : Bool} (h : a = a') (h' : b = b') : Ending.returned (.tuple #[.bool a, .bool b]) = .returned (.tuple #[.bool a', .bool b']) := by rw [h, h']

theorem miss_cmp {s : ByteArray} (h1 : ¬ s = sEq) (h2 : ¬ s = sNe) (h3 : ¬ s = sLt) (h4 : ¬ s = sLe) (h5 : ¬ s = sGt) (h6 : ¬ s = sGe) : Instr.findNow .string (.string s) (cmpTab 6).toList 0 = some none := by
  have f : ∀ t : ByteArray, ¬ s = t → (s == t) = false := fun t h => by
    cases e : s == t
    · rfl
    · exact absurd ((MapKept.bytes_beq s t).1 e) h
  have e : (cmpTab 6).toList = [⟨.string sEq, .func (.func 297) #[] #[], 0⟩, ⟨.string sNe, .func (.func 298) #[] #[], 1⟩, ⟨.string sLt, .func (.func 299) #[] #[], 2⟩, ⟨.string sLe, .func (.func 300) #[] #[], 3⟩, ⟨.string sGt, .func (.func 301) #[] #[], 4⟩, ⟨.string sGe, .func (.func 302) #[] #[], 5⟩] := rfl
  rw [e]
  simp [Instr.findNow, Instr.sameNow, f _ h1, f _ h2, f _ h3, f _ h4, f _ h5, f _ h6]

theorem sgn_cases (c : Int) : (c < 0 ∧ sgn c = -1) ∨ (c = 0 ∧ sgn c = 0) ∨ (0 < c ∧ sgn c = 1) := by
  unfold sgn; split
  · exact .inl ⟨by assumption, rfl⟩
  · split
    · exact .inr (.inr ⟨by assumption, rfl⟩)
    · exact .inr (.inl ⟨by omega, rfl⟩)

theorem Compare_any (s : ByteArray) (c : Int) (w : World) :
    Calls Tryz.prog 226 #[.string s, .int .i64 c] w fun e w' => e = .returned (.tuple #[.bool (cmpR s c).1, .bool (cmpR s c).2]) ∧ Below w.heap.size w w' := by
  by_cases h1 : s = sEq
  · subst h1
    refine (Compare_1 c w).mono ?_
    rintro e w' ⟨rfl, hb⟩
    have e : cmpR sEq c = (decide (c = 0), true) := by unfold cmpR; rw [if_pos rfl]
    refine ⟨ret_bools ?_ (by rw [e]), hb⟩
    rw [e]
    rcases sgn_cases c with ⟨h, hs⟩ | ⟨h, hs⟩ | ⟨h, hs⟩ <;> rw [hs] <;> simp <;> omega
  by_cases h2 : s = sNe
  · subst h2
    refine (Compare_2 c w).mono ?_
    rintro e w' ⟨rfl, hb⟩
    have e : cmpR sNe c = (decide (¬ c = 0), true) := by unfold cmpR; rw [if_neg h1, if_pos rfl]
    refine ⟨ret_bools ?_ (by rw [e]), hb⟩
    rw [e]
    rcases sgn_cases c with ⟨h, hs⟩ | ⟨h, hs⟩ | ⟨h, hs⟩ <;> rw [hs] <;> simp <;> omega
  by_cases h3 : s = sLt
  · subst h3
    refine (Compare_3 c w).mono ?_
    rintro e w' ⟨rfl, hb⟩
    have e : cmpR sLt c = (decide (c < 0), true) := by unfold cmpR; rw [if_neg h1, if_neg h2, if_pos rfl]
    refine ⟨ret_bools ?_ (by rw [e]), hb⟩
    rw [e]
    rcases sgn_cases c with ⟨h, hs⟩ | ⟨h, hs⟩ | ⟨h, hs⟩ <;> rw [hs] <;> simp <;> omega
  by_cases h4 : s = sLe
  · subst h4
    refine (Compare_4 c w).mono ?_
    rintro e w' ⟨rfl, hb⟩
    have e : cmpR sLe c = (decide (c ≤ 0), true) := by unfold cmpR; rw [if_neg h1, if_neg h2, if_neg h3, if_pos rfl]
    refine ⟨ret_bools ?_ (by rw [e]), hb⟩
    rw [e]
    rcases sgn_cases c with ⟨h, hs⟩ | ⟨h, hs⟩ | ⟨h, hs⟩ <;> rw [hs] <;> simp <;> omega
  by_cases h5 : s = sGt
  · subst h5
    refine (Compare_5 c w).mono ?_
    rintro e w' ⟨rfl, hb⟩
    have e : cmpR sGt c = (decide (0 < c), true) := by unfold cmpR; rw [if_neg h1, if_neg h2, if_neg h3, if_neg h4, if_pos rfl]
    refine ⟨ret_bools ?_ (by rw [e]), hb⟩
    rw [e]
    rcases sgn_cases c with ⟨h, hs⟩ | ⟨h, hs⟩ | ⟨h, hs⟩ <;> rw [hs] <;> simp <;> omega
  by_cases h6 : s = sGe
  · subst h6
    refine (Compare_6 c w).mono ?_
    rintro e w' ⟨rfl, hb⟩
    have e : cmpR sGe c = (decide (0 ≤ c), true) := by unfold cmpR; rw [if_neg h1, if_neg h2, if_neg h3, if_neg h4, if_neg h5, if_pos rfl]
    refine ⟨ret_bools ?_ (by rw [e]), hb⟩
    rw [e]
    rcases sgn_cases c with ⟨h, hs⟩ | ⟨h, hs⟩ | ⟨h, hs⟩ <;> rw [hs] <;> simp <;> omega
  · have e : cmpR s c = (false, false) := by unfold cmpR; rw [if_neg h1, if_neg h2, if_neg h3, if_neg h4, if_neg h5, if_neg h6]
    rw [e]
    exact Compare_none s c w (miss_cmp h1 h2 h3 h4 h5 h6)

end Go.Proofs.YthbiaaeoajmlbaaGreatDoor
end
section
namespace Go.Proofs.YthbiaaeoajmlbaaGreatDoor
open Go.RowKit

theorem zero_op (w : World) : (zeroValue 288).run Tryz.prog w = .ok .nilFunc w := by kernel_rfl

theorem look_plus (w : World) : Sem.run Tryz.prog (Instr.lookup 290 (.map (some w.heap.size)) (.string ⟨#[43]⟩) true) (w.alloc (.map (opTab 5) 5)) = .ok (.tuple #[.func (.func 311) #[] #[], .bool true]) (w.alloc (.map (opTab 5) 5)) :=
  run_look_last Tryz.underlying290 Tryz.underlying9 w (opTab 5) 5 _ 0 _ rfl

theorem Do_plus (a b x y : Int) (r : Value) (w : World) (ha : mayB a = true) (hb : mayB b = true)
    (hF : ∀ w, Calls Tryz.prog 311 #[.int .i64 a, .int .i64 b] w fun e w' => e = .returned r ∧ w = w')
    (hT : ∀ w, Calls Tryz.prog 296 #[r] w fun e w' => e = .returned (.tuple #[.int .i64 x, .int .i64 y]) ∧ w = w') :
    Calls Tryz.prog 249 #[.string ⟨#[43]⟩, .int .i64 a, .int .i64 b] w fun e w' => e = .returned (.tuple #[.int .i64 x, .int .i64 y]) ∧ Below w.heap.size w w' := by
  have HT := Lib.hid hT
  have HF := Lib.hid hF
  clear hT hF
  have hl := look_plus w
  go_enter Tryz.func249, Tryz.ntmps249
  go_wp2_with (first
    | (go_at_call 295; refine (operations_any _).mono ?_; rintro e w' ⟨rfl, rfl⟩)
    | (go_at_call 267; refine (IMay_any _ _).mono ?_; rintro e w' ⟨rfl, rfl⟩)
    | (go_at_call 311; refine (HF.out _).mono ?_; rintro e w' ⟨rfl, rfl⟩)
    | (go_at_call 296; refine (HT.out _).mono ?_; rintro e w' ⟨rfl, rfl⟩))
  go_ret2
  exact ⟨rfl, (Below.refl _ _).alloc (Nat.le_refl _) _⟩

theorem look_minus (w : World) : Sem.run Tryz.prog (Instr.lookup 290 (.map (some w.heap.size)) (.string ⟨#[45]⟩) true) (w.alloc (.map (opTab 5) 5)) = .ok (.tuple #[.func (.func 312) #[] #[], .bool true]) (w.alloc (.map (opTab 5) 5)) :=
  run_look_last Tryz.underlying290 Tryz.underlying9 w (opTab 5) 5 _ 1 _ rfl

theorem Do_minus (a b x y : Int) (r : Value) (w : World) (ha : mayB a = true) (hb : mayB b = true)
    (hF : ∀ w, Calls Tryz.prog 312 #[.int .i64 a, .int .i64 b] w fun e w' => e = .returned r ∧ w = w')
    (hT : ∀ w, Calls Tryz.prog 296 #[r] w fun e w' => e = .returned (.tuple #[.int .i64 x, .int .i64 y]) ∧ w = w') :
    Calls Tryz.prog 249 #[.string ⟨#[45]⟩, .int .i64 a, .int .i64 b] w fun e w' => e = .returned (.tuple #[.int .i64 x, .int .i64 y]) ∧ Below w.heap.size w w' := by
  have HT := Lib.hid hT
  have HF := Lib.hid hF
  clear hT hF
  have hl := look_minus w
  go_enter Tryz.func249, Tryz.ntmps249
  go_wp2_with (first
    | (go_at_call 295; refine (operations_any _).mono ?_; rintro e w' ⟨rfl, rfl⟩)
    | (go_at_call 267; refine (IMay_any _ _).mono ?_; rintro e w' ⟨rfl, rfl⟩)
    | (go_at_call 312; refine (HF.out _).mono ?_; rintro e w' ⟨rfl, rfl⟩)
    | (go_at_call 296; refine (HT.out _).mono ?_; rintro e w' ⟨rfl, rfl⟩))
  go_ret2
  exact ⟨rfl, (Below.refl _ _).alloc (Nat.le_refl _) _⟩

theorem look_times (w : World) : Sem.run Tryz.prog (Instr.lookup 290 (.map (some w.heap.size)) (.string ⟨#[42]⟩) true) (w.alloc (.map (opTab 5) 5)) = .ok (.tuple #[.func (.func 313) #[] #[], .bool true]) (w.alloc (.map (opTab 5) 5)) :=
  run_look_last Tryz.underlying290 Tryz.underlying9 w (opTab 5) 5 _ 2 _ rfl

theorem Do_times (a b x y : Int) (r : Value) (w : World) (ha : mayB a = true) (hb : mayB b = true)
    (hF : ∀ w, Calls Tryz.prog 313 #[.int .i64 a, .int .i64 b] w fun e w' => e = .returned r ∧ w = w')
    (hT : ∀ w, Calls Tryz.prog 296 #[r] w fun e w' => e = .returned (.tuple #[.int .i64 x, .int .i64 y]) ∧ w = w') :
    Calls Tryz.prog 249 #[.string ⟨#[42]⟩, .int .i64 a, .int .i64 b] w fun e w' => e = .returned (.tuple #[.int .i64 x, .int .i64 y]) ∧ Below w.heap.size w w' := by
  have HT := Lib.hid hT
  have HF := Lib.hid hF
  clear hT hF
  have hl := look_times w
  go_enter Tryz.func249, Tryz.ntmps249
  go_wp2_with (first
    | (go_at_call 295; refine (operations_any _).mono ?_; rintro e w' ⟨rfl, rfl⟩)
    | (go_at_call 267; refine (IMay_any _ _).mono ?_; rintro e w' ⟨rfl, rfl⟩)
    | (go_at_call 313; refine (HF.out _).mono ?_; rintro e w' ⟨rfl, rfl⟩)
    | (go_at_call 296; refine (HT.out _).mono ?_; rintro e w' ⟨rfl, rfl⟩))
  go_ret2
  exact ⟨rfl, (Below.refl _ _).alloc (Nat.le_refl _) _⟩

theorem look_quotient (w : World) : Sem.run Tryz.prog (Instr.lookup 290 (.map (some w.heap.size)) (.string ⟨#[100, 105, 118]⟩) true) (w.alloc (.map (opTab 5) 5)) = .ok (.tuple #[.func (.func 314) #[] #[], .bool true]) (w.alloc (.map (opTab 5) 5)) :=
  run_look_last Tryz.underlying290 Tryz.underlying9 w (opTab 5) 5 _ 3 _ rfl

theorem Do_quotient (a b x y : Int) (r : Value) (w : World) (ha : mayB a = true) (hb : mayB b = true)
    (hF : ∀ w, Calls Tryz.prog 314 #[.int .i64 a, .int .i64 b] w fun e w' => e = .returned r ∧ w = w')
    (hT : ∀ w, Calls Tryz.prog 296 #[r] w fun e w' => e = .returned (.tuple #[.int .i64 x, .int .i64 y]) ∧ w = w') :
    Calls Tryz.prog 249 #[.string ⟨#[100, 105, 118]⟩, .int .i64 a, .int .i64 b] w fun e w' => e = .returned (.tuple #[.int .i64 x, .int .i64 y]) ∧ Below w.heap.size w w' := by
  have HT := Lib.hid hT
  have HF := Lib.hid hF
  clear hT hF
  have hl := look_quotient w
  go_enter Tryz.func249, Tryz.ntmps249
  go_wp2_with (first
    | (go_at_call 295; refine (operations_any _).mono ?_; rintro e w' ⟨rfl, rfl⟩)
    | (go_at_call 267; refine (IMay_any _ _).mono ?_; rintro e w' ⟨rfl, rfl⟩)
    | (go_at_call 314; refine (HF.out _).mono ?_; rintro e w' ⟨rfl, rfl⟩)
    | (go_at_call 296; refine (HT.out _).mono ?_; rintro e w' ⟨rfl, rfl⟩))
  go_ret2
  exact ⟨rfl, (Below.refl _ _).alloc (Nat.le_refl _) _⟩

theorem look_rest (w : World) : Sem.run Tryz.prog (Instr.lookup 290 (.map (some w.heap.size)) (.string ⟨#[114, 101, 109]⟩) true) (w.alloc (.map (opTab 5) 5)) = .ok (.tuple #[.func (.func 315) #[] #[], .bool true]) (w.alloc (.map (opTab 5) 5)) :=
  run_look_last Tryz.underlying290 Tryz.underlying9 w (opTab 5) 5 _ 4 _ rfl

theorem Do_rest (a b x y : Int) (r : Value) (w : World) (ha : mayB a = true) (hb : mayB b = true)
    (hF : ∀ w, Calls Tryz.prog 315 #[.int .i64 a, .int .i64 b] w fun e w' => e = .returned r ∧ w = w')
    (hT : ∀ w, Calls Tryz.prog 296 #[r] w fun e w' => e = .returned (.tuple #[.int .i64 x, .int .i64 y]) ∧ w = w') :
    Calls Tryz.prog 249 #[.string ⟨#[114, 101, 109]⟩, .int .i64 a, .int .i64 b] w fun e w' => e = .returned (.tuple #[.int .i64 x, .int .i64 y]) ∧ Below w.heap.size w w' := by
  have HT := Lib.hid hT
  have HF := Lib.hid hF
  clear hT hF
  have hl := look_rest w
  go_enter Tryz.func249, Tryz.ntmps249
  go_wp2_with (first
    | (go_at_call 295; refine (operations_any _).mono ?_; rintro e w' ⟨rfl, rfl⟩)
    | (go_at_call 267; refine (IMay_any _ _).mono ?_; rintro e w' ⟨rfl, rfl⟩)
    | (go_at_call 315; refine (HF.out _).mono ?_; rintro e w' ⟨rfl, rfl⟩)
    | (go_at_call 296; refine (HT.out _).mono ?_; rintro e w' ⟨rfl, rfl⟩))
  go_ret2
  exact ⟨rfl, (Below.refl _ _).alloc (Nat.le_refl _) _⟩

theorem Do_none (s : ByteArray) (a b : Int) (w : World) (hn : Instr.findNow .string (.string s) (opTab 5).toList 0 = some none) :
    Calls Tryz.prog 249 #[.string s, .int .i64 a, .int .i64 b] w fun e w' => e = .returned (.tuple #[.int .i64 0, .int .i64 2]) ∧ Below w.heap.size w w' := by
  have hl := run_miss_last Tryz.underlying290 Tryz.underlying9 w (opTab 5) 5 s .nilFunc zero_op hn
  clear hn
  go_enter Tryz.func249, Tryz.ntmps249
  go_wp2_with (go_at_call 295; refine (operations_any _).mono ?_; rintro e w' ⟨rfl, rfl⟩)
  go_ret2
  exact ⟨rfl, (Below.refl _ _).alloc (Nat.le_refl _) _⟩

theorem Do_bad_a (s : ByteArray) (a b : Int) (w : World) (i : Nat) (v : Value) (hn : Instr.findNow .string (.string s) (opTab 5).toList 0 = some (some (i, v))) (ha : mayB a = false) :
    Calls Tryz.prog 249 #[.string s, .int .i64 a, .int .i64 b] w fun e w' => e = .returned (.tuple #[.int .i64 0, .int .i64 2]) ∧ Below w.heap.size w w' := by
  have hl := run_look_last Tryz.underlying290 Tryz.underlying9 w (opTab 5) 5 s i v hn
  clear hn
  go_enter Tryz.func249, Tryz.ntmps249
  go_wp2_with (first
    | (go_at_call 295; refine (operations_any _).mono ?_; rintro e w' ⟨rfl, rfl⟩)
    | (go_at_call 267; refine (IMay_any _ _).mono ?_; rintro e w' ⟨rfl, rfl⟩))
  go_ret2
  exact ⟨rfl, (Below.refl _ _).alloc (Nat.le_refl _) _⟩

theorem Do_bad_b (s : ByteArray) (a b : Int) (w : World) (i : Nat) (v : Value) (hn : Instr.findNow .string (.string s) (opTab 5).toList 0 = some (some (i, v))) (ha : mayB a = true) (hb : mayB b = false) :
    Calls Tryz.prog 249 #[.string s, .int .i64 a, .int .i64 b] w fun e w' => e = .returned (.tuple #[.int .i64 0, .int .i64 2]) ∧ Below w.heap.size w w' := by
  have hl := run_look_last Tryz.underlying290 Tryz.underlying9 w (opTab 5) 5 s i v hn
  clear hn
  go_enter Tryz.func249, Tryz.ntmps249
  go_wp2_with (first
    | (go_at_call 295; refine (operations_any _).mono ?_; rintro e w' ⟨rfl, rfl⟩)
    | (go_at_call 267; refine (IMay_any _ _).mono ?_; rintro e w' ⟨rfl, rfl⟩))
  go_ret2
  exact ⟨rfl, (Below.refl _ _).alloc (Nat.le_refl _) _⟩

theorem miss_op {s : ByteArray} (h1 : ¬ s = sPlus) (h2 : ¬ s = sMinus) (h3 : ¬ s = sTimes) (h4 : ¬ s = sDiv) (h5 : ¬ s = sRem) : Instr.findNow .string (.string s) (opTab 5).toList 0 = some none := by
  have f : ∀ t : ByteArray, ¬ s = t → (s == t) = false := fun t h => by
    cases e : s == t
    · rfl
    · exact absurd ((MapKept.bytes_beq s t).1 e) h
  have e : (opTab 5).toList = [⟨.string sPlus, .func (.func 311) #[] #[], 0⟩, ⟨.string sMinus, .func (.func 312) #[] #[], 1⟩, ⟨.string sTimes, .func (.func 313) #[] #[], 2⟩,
    ⟨.string sDiv, .func (.func 314) #[] #[], 3⟩, ⟨.string sRem, .func (.func 315) #[] #[], 4⟩] := rfl
  rw [e]
  simp [Instr.findNow, Instr.sameNow, f _ h1, f _ h2, f _ h3, f _ h4, f _ h5]

theorem wrap_in {n : Int} (h1 : -9223372036854775808 ≤ n) (h2 : n ≤ 9223372036854775807) : wrap64 n = n := by unfold wrap64; omega

theorem Do_any (s : ByteArray) (a b : Int) (w : World) :
    Calls Tryz.prog 249 #[.string s, .int .i64 a, .int .i64 b] w fun e w' => e = .returned (.tuple #[.int .i64 (doR s a b).1, .int .i64 (doR s a b).2]) ∧ Below w.heap.size w w' := by
  have bad : (mayB a = false ∨ mayB b = false) → (∃ i v, Instr.findNow .string (.string s) (opTab 5).toList 0 = some (some (i, v))) →
      Calls Tryz.prog 249 #[.string s, .int .i64 a, .int .i64 b] w fun e w' => e = .returned (.tuple #[.int .i64 (doR s a b).1, .int .i64 (doR s a b).2]) ∧ Below w.heap.size w w' := by
    intro hab ⟨i, v, hn⟩
    have e : doR s a b = (0, 2) := by unfold doR; rw [if_pos hab]
    rw [e]
    cases ha : mayB a
    · exact Do_bad_a s a b w i v hn ha
    · exact Do_bad_b s a b w i v hn ha (by simpa [ha] using hab)
  by_cases h1 : s = sPlus
  · subst h1
    by_cases hab : mayB a = false ∨ mayB b = false
    · exact bad hab ⟨0, _, rfl⟩
    · have ⟨ha, hb⟩ : mayB a = true ∧ mayB b = true := by simpa using hab
      have e : doR sPlus a b = fit (wrap64 (a + b)) := by
        have := may_bd ha; have := may_bd hb
        rw [wrap_in (by omega) (by omega)]; unfold doR; rw [if_neg hab, if_pos rfl]
      rw [e]
      exact Do_plus a b _ _ _ w ha hb (fun w => plus_any a b w) (fun w => told_int _ w)
  by_cases h2 : s = sMinus
  · subst h2
    by_cases hab : mayB a = false ∨ mayB b = false
    · exact bad hab ⟨1, _, rfl⟩
    · have ⟨ha, hb⟩ : mayB a = true ∧ mayB b = true := by simpa using hab
      have e : doR sMinus a b = fit (wrap64 (a - b)) := by
        have := may_bd ha; have := may_bd hb
        rw [wrap_in (by omega) (by omega)]; unfold doR; rw [if_neg hab, if_neg h1, if_pos rfl]
      rw [e]
      exact Do_minus a b _ _ _ w ha hb (fun w => minus_any a b w) (fun w => told_int _ w)
  by_cases h3 : s = sTimes
  · subst h3
    by_cases hab : mayB a = false ∨ mayB b = false
    · exact bad hab ⟨2, _, rfl⟩
    · have ⟨ha, hb⟩ : mayB a = true ∧ mayB b = true := by simpa using hab
      have e : doR sTimes a b = fit (a * b) := by unfold doR; rw [if_neg hab, if_neg h1, if_neg h2, if_pos rfl]
      rw [e]
      by_cases hb0 : b = 0
      · subst hb0
        rw [Int.mul_zero]
        exact Do_times a 0 _ _ _ w ha hb (fun w => times_0 a w) (fun w => told_int _ w)
      by_cases hq : (wrap64 (a * b)).tdiv b = a
      · rw [← times_back hb hb0 hq]
        exact Do_times a b _ _ _ w ha hb (fun w => times_ok a b w hb0 hq ha) (fun w => told_int _ w)
      · have hno : mayB (a * b) = false := by
          cases h : mayB (a * b)
          · rfl
          · exact absurd (by rw [times_fits h, Int.mul_tdiv_cancel _ hb0]) hq
        have hq' : (wrap64 ((wrap64 (a * b)).tdiv b) != a) = true := by
          rw [bne_iff_ne]; intro h
          apply hq
          have hA := may_bd ha
          have hw : -9223372036854775808 ≤ wrap64 (a * b) ∧ wrap64 (a * b) ≤ 9223372036854775807 := by unfold wrap64; omega
          have hB := quo_bd (wrap64 (a * b)) b hw
          rcases hB with hB | hB
          · rw [wrap_in hB.1 hB.2] at h; exact h
          · rw [hB] at h; unfold wrap64 at h; omega
        rw [fit_no hno]
        exact Do_times a b _ _ _ w ha hb (fun w => times_long a b w hb0 hq') (fun w => told_err _ w)
  by_cases h4 : s = sDiv
  · subst h4
    by_cases hab : mayB a = false ∨ mayB b = false
    · exact bad hab ⟨3, _, rfl⟩
    · have ⟨ha, hb⟩ : mayB a = true ∧ mayB b = true := by simpa using hab
      have e : doR sDiv a b = if b = 0 then (0, 10) else fit (a.tdiv b) := by unfold doR; rw [if_neg hab, if_neg h1, if_neg h2, if_neg h3, if_pos rfl]
      rw [e]
      by_cases hb0 : b = 0
      · subst hb0
        rw [if_pos rfl]
        exact Do_quotient a 0 _ _ _ w ha hb (fun w => quo_0 a w) (fun w => told_err _ w)
      · rw [if_neg hb0]
        have hA := may_bd ha
        have hw : wrap64 (a.tdiv b) = a.tdiv b := by
          have hB := quo_bd a b (by omega)
          rcases hB with hB | hB
          · exact wrap_in hB.1 hB.2
          · have := quo_small a b; rw [hB] at this; omega
        rw [← hw]
        exact Do_quotient a b _ _ _ w ha hb (fun w => quo_any a b w hb0) (fun w => told_int _ w)
  by_cases h5 : s = sRem
  · subst h5
    by_cases hab : mayB a = false ∨ mayB b = false
    · exact bad hab ⟨4, _, rfl⟩
    · have ⟨ha, hb⟩ : mayB a = true ∧ mayB b = true := by simpa using hab
      have e : doR sRem a b = if b = 0 then (0, 10) else fit (a.tmod b) := by unfold doR; rw [if_neg hab, if_neg h1, if_neg h2, if_neg h3, if_neg h4, if_pos rfl]
      rw [e]
      by_cases hb0 : b = 0
      · subst hb0
        rw [if_pos rfl]
        exact Do_rest a 0 _ _ _ w ha hb (fun w => rem_0 a w) (fun w => told_err _ w)
      · rw [if_neg hb0]
        exact Do_rest a b _ _ _ w ha hb (fun w => rem_any a b w hb0) (fun w => told_int _ w)
  · have e : doR s a b = (0, 2) := by
      unfold doR
      by_cases hab : mayB a = false ∨ mayB b = false
      · rw [if_pos hab]
      · rw [if_neg hab, if_neg h1, if_neg h2, if_neg h3, if_neg h4, if_neg h5]
    rw [e]
    exact Do_none s a b w (miss_op h1 h2 h3 h4 h5)

end Go.Proofs.YthbiaaeoajmlbaaGreatDoor
end
section
namespace Go.Proofs.YthbiaaeoajmlbaaGreatDoor
open Go.RowKit

theorem readR_none {l : List UInt8} (h : dg l = 0) : readR l = (0, 0, 2) := by rw [readR, if_pos h]
theorem readR_some {l : List UInt8} {k : Nat} (h : dg l = k) (h0 : ¬ k = 0) : readR l = ((fit (held (vl l k))).1, (k : Int), (fit (held (vl l k))).2) := by
  subst h
  rw [readR, if_neg h0]
  by_cases h : 576460752303423487 < vl l (dg l)
  · rw [if_pos h, fit_no (by unfold mayB held; split <;> simp <;> omega)]
  · rw [if_neg h, fit_yes (by unfold mayB held; split <;> simp <;> omega)]
    simp only [held]
    rw [if_pos (by omega)]

end Go.Proofs.YthbiaaeoajmlbaaGreatDoor
end
