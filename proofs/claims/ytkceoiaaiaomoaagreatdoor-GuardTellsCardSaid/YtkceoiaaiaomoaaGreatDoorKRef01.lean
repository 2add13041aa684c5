/- Contracts of the document's own answers for layer 1 (package pleachref01), and of ints.Arith. -/
import Derived.Test.YtkceoiaaiaomoaaGreatDoorKInts
import Derived.Test.YtkceoiaaiaomoaaGreatDoorKIMay
import Derived.Test.YtkceoiaaiaomoaaGreatDoorKAstQ
import Derived.Test.YtkceoiaaiaomoaaGreatDoorKIntsDo
import Derived.IntWalk
section
namespace Go.Proofs.YtkceoiaaiaomoaaGreatDoor
open Go.RowKit

def sEq : ByteArray := ⟨#[61, 58, 61]⟩
def sNe : ByteArray := ⟨#[61, 47, 61]⟩
def sLt : ByteArray := ⟨#[60]⟩
def sLe : ByteArray := ⟨#[61, 60]⟩
def sGt : ByteArray := ⟨#[62]⟩
def sGe : ByteArray := ⟨#[62, 61]⟩

def cmpR (s : ByteArray) (c : Int) : Bool × Bool :=
  if s = sEq then (decide (c = 0), true) else
  if s = sNe then (decide (¬ c = 0), true) else
  if s = sLt then (decide (c < 0), true) else
  if s = sLe then (decide (c ≤ 0), true) else
  if s = sGt then (decide (0 < c), true) else
  if s = sGe then (decide (0 ≤ c), true) else
  (false, false)

def sgn (c : Int) : Int := if c < 0 then -1 else if 0 < c then 1 else 0

theorem signOf_any (c : Int) (w : World) : Calls Tryz.prog 245 #[.int .i64 c] w fun e w' => e = .returned (.int .i64 (sgn c)) ∧ w = w' := by
  by_cases h1 : c < 0
  · have H := Lib.hid (show sgn c = -1 by rw [sgn, if_pos h1])
    go_enter Tryz.func245, Tryz.ntmps245
    go_wp2
    go_ret
    exact ⟨ret_int (by rw [H.out]), rfl⟩
  by_cases h2 : 0 < c
  · have H := Lib.hid (show sgn c = 1 by rw [sgn, if_neg h1, if_pos h2])
    go_enter Tryz.func245, Tryz.ntmps245
    go_wp2
    go_ret
    exact ⟨ret_int (by rw [H.out]), rfl⟩
  · have H := Lib.hid (show sgn c = 0 by rw [sgn, if_neg h1, if_neg h2])
    go_enter Tryz.func245, Tryz.ntmps245
    go_wp2
    go_ret
    exact ⟨ret_int (by rw [H.out]), rfl⟩

def cmpTab (k : Nat) : Array MapEntry := (#[⟨.string ⟨#[61, 58, 61]⟩, .func (.func 293) #[] #[], 0⟩, ⟨.string ⟨#[61, 47, 61]⟩, .func (.func 294) #[] #[], 1⟩, ⟨.string ⟨#[60]⟩, .func (.func 295) #[] #[], 2⟩, ⟨.string ⟨#[61, 60]⟩, .func (.func 296) #[] #[], 3⟩, ⟨.string ⟨#[62]⟩, .func (.func 297) #[] #[], 4⟩, ⟨.string ⟨#[62, 61]⟩, .func (.func 298) #[] #[], 5⟩] : Array MapEntry).take k

theorem comparisons_any (w : World) : Calls Tryz.prog 244 #[] w fun e w' => e = .returned (.map (some w.heap.size)) ∧ w' = w.alloc (.map (cmpTab 6) 6) := by
  have hmm := @run_makeMap Tryz.prog
  have i1 : Sem.run Tryz.prog (Instr.mapUpdate 264 (.map (some w.heap.size)) (.string ⟨#[61, 58, 61]⟩) (.func (.func 293) #[] #[])) (w.alloc (.map #[] 0)) = .ok () (w.alloc (.map (cmpTab 1) 1)) :=
    run_put_last Tryz.underlying264 Tryz.underlying9 w (cmpTab 0) 0 _ _ rfl
  have i2 : Sem.run Tryz.prog (Instr.mapUpdate 264 (.map (some w.heap.size)) (.string ⟨#[61, 47, 61]⟩) (.func (.func 294) #[] #[])) (w.alloc (.map (cmpTab 1) 1)) = .ok () (w.alloc (.map (cmpTab 2) 2)) :=
    run_put_last Tryz.underlying264 Tryz.underlying9 w (cmpTab 1) 1 _ _ rfl
  have i3 : Sem.run Tryz.prog (Instr.mapUpdate 264 (.map (some w.heap.size)) (.string ⟨#[60]⟩) (.func (.func 295) #[] #[])) (w.alloc (.map (cmpTab 2) 2)) = .ok () (w.alloc (.map (cmpTab 3) 3)) :=
    run_put_last Tryz.underlying264 Tryz.underlying9 w (cmpTab 2) 2 _ _ rfl
  have i4 : Sem.run Tryz.prog (Instr.mapUpdate 264 (.map (some w.heap.size)) (.string ⟨#[61, 60]⟩) (.func (.func 296) #[] #[])) (w.alloc (.map (cmpTab 3) 3)) = .ok () (w.alloc (.map (cmpTab 4) 4)) :=
    run_put_last Tryz.underlying264 Tryz.underlying9 w (cmpTab 3) 3 _ _ rfl
  have i5 : Sem.run Tryz.prog (Instr.mapUpdate 264 (.map (some w.heap.size)) (.string ⟨#[62]⟩) (.func (.func 297) #[] #[])) (w.alloc (.map (cmpTab 4) 4)) = .ok () (w.alloc (.map (cmpTab 5) 5)) :=
    run_put_last Tryz.underlying264 Tryz.underlying9 w (cmpTab 4) 4 _ _ rfl
  have i6 : Sem.run Tryz.prog (Instr.mapUpdate 264 (.map (some w.heap.size)) (.string ⟨#[62, 61]⟩) (.func (.func 298) #[] #[])) (w.alloc (.map (cmpTab 5) 5)) = .ok () (w.alloc (.map (cmpTab 6) 6)) :=
    run_put_last Tryz.underlying264 Tryz.underlying9 w (cmpTab 5) 5 _ _ rfl
  go_enter Tryz.func244, Tryz.ntmps244
  go_wp2
  go_ret
  exact ⟨rfl, rfl⟩

theorem zero_cmp (w : World) : (zeroValue 262).run Tryz.prog w = .ok .nilFunc w := by kernel_rfl

theorem cmp_1 (x : Int) (w : World) : Calls Tryz.prog 293 #[.int .i64 x] w fun e w' => e = .returned (.bool (x == 0)) ∧ w = w' := by
  go_enter Tryz.func293, Tryz.ntmps293
  go_wp2
  go_ret
  exact ⟨rfl, rfl⟩

theorem Compare_1 (c : Int) (w : World) : Calls Tryz.prog 220 #[.string ⟨#[61, 58, 61]⟩, .int .i64 c] w fun e w' => e = .returned (.tuple #[.bool (sgn c == 0), .bool true]) ∧ Below w.heap.size w w' := by
  have hl : Sem.run Tryz.prog (Instr.lookup 264 (.map (some w.heap.size)) (.string ⟨#[61, 58, 61]⟩) true) (w.alloc (.map (cmpTab 6) 6)) = .ok (.tuple #[.func (.func 293) #[] #[], .bool true]) (w.alloc (.map (cmpTab 6) 6)) :=
    run_look_last Tryz.underlying264 Tryz.underlying9 w (cmpTab 6) 6 _ 0 _ rfl
  go_enter Tryz.func220, Tryz.ntmps220
  go_wp2_with (first
    | (go_at_call 244; refine (comparisons_any _).mono ?_; rintro e w' ⟨rfl, rfl⟩)
    | (go_at_call 245; refine (signOf_any _ _).mono ?_; rintro e w' ⟨rfl, rfl⟩)
    | (go_at_call 293; refine (cmp_1 _ _).mono ?_; rintro e w' ⟨rfl, rfl⟩))
  go_ret2
  exact ⟨rfl, (Below.refl _ _).alloc (Nat.le_refl _) _⟩

theorem cmp_2 (x : Int) (w : World) : Calls Tryz.prog 294 #[.int .i64 x] w fun e w' => e = .returned (.bool (x != 0)) ∧ w = w' := by
  go_enter Tryz.func294, Tryz.ntmps294
  go_wp2
  go_ret
  exact ⟨rfl, rfl⟩

theorem Compare_2 (c : Int) (w : World) : Calls Tryz.prog 220 #[.string ⟨#[61, 47, 61]⟩, .int .i64 c] w fun e w' => e = .returned (.tuple #[.bool (sgn c != 0), .bool true]) ∧ Below w.heap.size w w' := by
  have hl : Sem.run Tryz.prog (Instr.lookup 264 (.map (some w.heap.size)) (.string ⟨#[61, 47, 61]⟩) true) (w.alloc (.map (cmpTab 6) 6)) = .ok (.tuple #[.func (.func 294) #[] #[], .bool true]) (w.alloc (.map (cmpTab 6) 6)) :=
    run_look_last Tryz.underlying264 Tryz.underlying9 w (cmpTab 6) 6 _ 1 _ rfl
  go_enter Tryz.func220, Tryz.ntmps220
  go_wp2_with (first
    | (go_at_call 244; refine (comparisons_any _).mono ?_; rintro e w' ⟨rfl, rfl⟩)
    | (go_at_call 245; refine (signOf_any _ _).mono ?_; rintro e w' ⟨rfl, rfl⟩)
    | (go_at_call 294; refine (cmp_2 _ _).mono ?_; rintro e w' ⟨rfl, rfl⟩))
  go_ret2
  exact ⟨rfl, (Below.refl _ _).alloc (Nat.le_refl _) _⟩

theorem cmp_3 (x : Int) (w : World) : Calls Tryz.prog 295 #[.int .i64 x] w fun e w' => e = .returned (.bool (x == -1)) ∧ w = w' := by
  go_enter Tryz.func295, Tryz.ntmps295
  go_wp2
  go_ret
  exact ⟨rfl, rfl⟩

theorem Compare_3 (c : Int) (w : World) : Calls Tryz.prog 220 #[.string ⟨#[60]⟩, .int .i64 c] w fun e w' => e = .returned (.tuple #[.bool (sgn c == -1), .bool true]) ∧ Below w.heap.size w w' := by
  have hl : Sem.run Tryz.prog (Instr.lookup 264 (.map (some w.heap.size)) (.string ⟨#[60]⟩) true) (w.alloc (.map (cmpTab 6) 6)) = .ok (.tuple #[.func (.func 295) #[] #[], .bool true]) (w.alloc (.map (cmpTab 6) 6)) :=
    run_look_last Tryz.underlying264 Tryz.underlying9 w (cmpTab 6) 6 _ 2 _ rfl
  go_enter Tryz.func220, Tryz.ntmps220
  go_wp2_with (first
    | (go_at_call 244; refine (comparisons_any _).mono ?_; rintro e w' ⟨rfl, rfl⟩)
    | (go_at_call 245; refine (signOf_any _ _).mono ?_; rintro e w' ⟨rfl, rfl⟩)
    | (go_at_call 295; refine (cmp_3 _ _).mono ?_; rintro e w' ⟨rfl, rfl⟩))
  go_ret2
  exact ⟨rfl, (Below.refl _ _).alloc (Nat.le_refl _) _⟩

theorem cmp_4 (x : Int) (w : World) : Calls Tryz.prog 296 #[.int .i64 x] w fun e w' => e = .returned (.bool (x != 1)) ∧ w = w' := by
  go_enter Tryz.func296, Tryz.ntmps296
  go_wp2
  go_ret
  exact ⟨rfl, rfl⟩

theorem Compare_4 (c : Int) (w : World) : Calls Tryz.prog 220 #[.string ⟨#[61, 60]⟩, .int .i64 c] w fun e w' => e = .returned (.tuple #[.bool (sgn c != 1), .bool true]) ∧ Below w.heap.size w w' := by
  have hl : Sem.run Tryz.prog (Instr.lookup 264 (.map (some w.heap.size)) (.string ⟨#[61, 60]⟩) true) (w.alloc (.map (cmpTab 6) 6)) = .ok (.tuple #[.func (.func 296) #[] #[], .bool true]) (w.alloc (.map (cmpTab 6) 6)) :=
    run_look_last Tryz.underlying264 Tryz.underlying9 w (cmpTab 6) 6 _ 3 _ rfl
  go_enter Tryz.func220, Tryz.ntmps220
  go_wp2_with (first
    | (go_at_call 244; refine (comparisons_any _).mono ?_; rintro e w' ⟨rfl, rfl⟩)
    | (go_at_call 245; refine (signOf_any _ _).mono ?_; rintro e w' ⟨rfl, rfl⟩)
    | (go_at_call 296; refine (cmp_4 _ _).mono ?_; rintro e w' ⟨rfl, rfl⟩))
  go_ret2
  exact ⟨rfl, (Below.refl _ _).alloc (Nat.le_refl _) _⟩

theorem cmp_5 (x : Int) (w : World) : Calls Tryz.prog 297 #[.int .i64 x] w fun e w' => e = .returned (.bool (x == 1)) ∧ w = w' := by
  go_enter Tryz.func297, Tryz.ntmps297
  go_wp2
  go_ret
  exact ⟨rfl, rfl⟩

theorem Compare_5 (c : Int) (w : World) : Calls Tryz.prog 220 #[.string ⟨#[62]⟩, .int .i64 c] w fun e w' => e = .returned (.tuple #[.bool (sgn c == 1), .bool true]) ∧ Below w.heap.size w w' := by
  have hl : Sem.run Tryz.prog (Instr.lookup 264 (.map (some w.heap.size)) (.string ⟨#[62]⟩) true) (w.alloc (.map (cmpTab 6) 6)) = .ok (.tuple #[.func (.func 297) #[] #[], .bool true]) (w.alloc (.map (cmpTab 6) 6)) :=
    run_look_last Tryz.underlying264 Tryz.underlying9 w (cmpTab 6) 6 _ 4 _ rfl
  go_enter Tryz.func220, Tryz.ntmps220
  go_wp2_with (first
    | (go_at_call 244; refine (comparisons_any _).mono ?_; rintro e w' ⟨rfl, rfl⟩)
    | (go_at_call 245; refine (signOf_any _ _).mono ?_; rintro e w' ⟨rfl, rfl⟩)
    | (go_at_call 297; refine (cmp_5 _ _).mono ?_; rintro e w' ⟨rfl, rfl⟩))
  go_ret2
  exact ⟨rfl, (Below.refl _ _).alloc (Nat.le_refl _) _⟩

theorem cmp_6 (x : Int) (w : World) : Calls Tryz.prog 298 #[.int .i64 x] w fun e w' => e = .returned (.bool (x != -1)) ∧ w = w' := by
  go_enter Tryz.func298, Tryz.ntmps298
  go_wp2
  go_ret
  exact ⟨rfl, rfl⟩

theorem Compare_6 (c : Int) (w : World) : Calls Tryz.prog 220 #[.string ⟨#[62, 61]⟩, .int .i64 c] w fun e w' => e = .returned (.tuple #[.bool (sgn c != -1), .bool true]) ∧ Below w.heap.size w w' := by
  have hl : Sem.run Tryz.prog (Instr.lookup 264 (.map (some w.heap.size)) (.string ⟨#[62, 61]⟩) true) (w.alloc (.map (cmpTab 6) 6)) = .ok (.tuple #[.func (.func 298) #[] #[], .bool true]) (w.alloc (.map (cmpTab 6) 6)) :=
    run_look_last Tryz.underlying264 Tryz.underlying9 w (cmpTab 6) 6 _ 5 _ rfl
  go_enter Tryz.func220, Tryz.ntmps220
  go_wp2_with (first
    | (go_at_call 244; refine (comparisons_any _).mono ?_; rintro e w' ⟨rfl, rfl⟩)
    | (go_at_call 245; refine (signOf_any _ _).mono ?_; rintro e w' ⟨rfl, rfl⟩)
    | (go_at_call 298; refine (cmp_6 _ _).mono ?_; rintro e w' ⟨rfl, rfl⟩))
  go_ret2
  exact ⟨rfl, (Below.refl _ _).alloc (Nat.le_refl _) _⟩

theorem Compare_none (s : ByteArray) (c : Int) (w : World) (hn : Instr.findNow .string (.string s) (cmpTab 6).toList 0 = some none) : Calls Tryz.prog 220 #[.string s, .int .i64 c] w fun e w' => e = .returned (.tuple #[.bool false, .bool false]) ∧ Below w.heap.size w w' := by
  have hl := run_miss_last Tryz.underlying264 Tryz.underlying9 w (cmpTab 6) 6 s .nilFunc zero_cmp hn
  clear hn
  go_enter Tryz.func220, Tryz.ntmps220
  go_wp2_with (go_at_call 244; refine (comparisons_any _).mono ?_; rintro e w' ⟨rfl, rfl⟩)
  go_ret2
  exact ⟨rfl, (Below.refl _ _).alloc (Nat.le_refl _) _⟩

theorem ret_bools {a a' b b' : Bool} (h : a = a') (h' : b = b') : Ending.returned (.tuple #[.bool a, .bool b]) = .returned (.tuple #[.bool a', .bool b']) := by rw [h, h']

theorem miss_cmp {s : ByteArray} (h1 : ¬ s = sEq) (h2 : ¬ s = sNe) (h3 : ¬ s = sLt) (h4 : ¬ s = sLe) (h5 : ¬ s = sGt) (h6 : ¬ s = sGe) : Instr.findNow .string (.string s) (cmpTab 6).toList 0 = some none := by
  have f : ∀ t : ByteArray, ¬ s = t → (s == t) = false := fun t h => by
    cases e : s == t
    · rfl
    · exact absurd ((MapKept.bytes_beq s t).1 e) h
  have e : (cmpTab 6).toList = [⟨.string sEq, .func (.func 293) #[] #[], 0⟩, ⟨.string sNe, .func (.func 294) #[] #[], 1⟩, ⟨.string sLt, .func (.func 295) #[] #[], 2⟩, ⟨.string sLe, .func (.func 296) #[] #[], 3⟩, ⟨.string sGt, .func (.func 297) #[] #[], 4⟩, ⟨.string sGe, .func (.func 298) #[] #[], 5⟩] := rfl
  rw [e]
  simp [Instr.findNow, Instr.sameNow, f _ h1, f _ h2, f _ h3, f _ h4, f _ h5, f _ h6]

theorem sgn_cases (c : Int) : (c < 0 ∧ sgn c = -1) ∨ (c = 0 ∧ sgn c = 0) ∨ (0 < c ∧ sgn c = 1) := by
  unfold sgn; split
  · exact .inl ⟨by assumption, rfl⟩
  · split
    · exact .inr (.inr ⟨by assumption, rfl⟩)
    · exact .inr (.inl ⟨by omega, rfl⟩)

theorem Compare_any (s : ByteArray) (c : Int) (w : World) :
    Calls Tryz.prog 220 #[.string s, .int .i64 c] w fun e w' => e = .returned (.tuple #[.bool (cmpR s c).1, .bool (cmpR s c).2]) ∧ Below w.heap.size w w' := by
  by_cases h1 : s = sEq
  · subst h1
    refine (Compare_1 c w).mono ?_
    rintro e w' ⟨rfl, hb⟩
    have e : cmpR sEq c = (decide (c = 0), true) := by unfold cmpR; rw [if_pos rfl]
    refine ⟨ret_bools ?_ (by rw [e]), hb⟩
    rw [e]
    rcases sgn_cases c with ⟨h, hs⟩ | ⟨h, hs⟩ | ⟨h, hs⟩ <;> rw [hs] <;> simp <;> omega
  by_cases h2 : s = sNe
  · subst h2
    refine (Compare_2 c w).mono ?_
    rintro e w' ⟨rfl, hb⟩
    have e : cmpR sNe c = (decide (¬ c = 0), true) := by unfold cmpR; rw [if_neg h1, if_pos rfl]
    refine ⟨ret_bools ?_ (by rw [e]), hb⟩
    rw [e]
    rcases sgn_cases c with ⟨h, hs⟩ | ⟨h, hs⟩ | ⟨h, hs⟩ <;> rw [hs] <;> simp <;> omega
  by_cases h3 : s = sLt
  · subst h3
    refine (Compare_3 c w).mono ?_
    rintro e w' ⟨rfl, hb⟩
    have e : cmpR sLt c = (decide (c < 0), true) := by unfold cmpR; rw [if_neg h1, if_neg h2, if_pos rfl]
    refine ⟨ret_bools ?_ (by rw [e]), hb⟩
    rw [e]
    rcases sgn_cases c with ⟨h, hs⟩ | ⟨h, hs⟩ | ⟨h, hs⟩ <;> rw [hs] <;> simp <;> omega
  by_cases h4 : s = sLe
  · subst h4
    refine (Compare_4 c w).mono ?_
    rintro e w' ⟨rfl, hb⟩
    have e : cmpR sLe c = (decide (c ≤ 0), true) := by unfold cmpR; rw [if_neg h1, if_neg h2, if_neg h3, if_pos rfl]
    refine ⟨ret_bools ?_ (by rw [e]), hb⟩
    rw [e]
    rcases sgn_cases c with ⟨h, hs⟩ | ⟨h, hs⟩ | ⟨h, hs⟩ <;> rw [hs] <;> simp <;> omega
  by_cases h5 : s = sGt
  · subst h5
    refine (Compare_5 c w).mono ?_
    rintro e w' ⟨rfl, hb⟩
    have e : cmpR sGt c = (decide (0 < c), true) := by unfold cmpR; rw [if_neg h1, if_neg h2, if_neg h3, if_neg h4, if_pos rfl]
    refine ⟨ret_bools ?_ (by rw [e]), hb⟩
    rw [e]
    rcases sgn_cases c with ⟨h, hs⟩ | ⟨h, hs⟩ | ⟨h, hs⟩ <;> rw [hs] <;> simp <;> omega
  by_cases h6 : s = sGe
  · subst h6
    refine (Compare_6 c w).mono ?_
    rintro e w' ⟨rfl, hb⟩
    have e : cmpR sGe c = (decide (0 ≤ c), true) := by unfold cmpR; rw [if_neg h1, if_neg h2, if_neg h3, if_neg h4, if_neg h5, if_pos rfl]
    refine ⟨ret_bools ?_ (by rw [e]), hb⟩
    rw [e]
    rcases sgn_cases c with ⟨h, hs⟩ | ⟨h, hs⟩ | ⟨h, hs⟩ <;> rw [hs] <;> simp <;> omega
  · have e : cmpR s c = (false, false) := by unfold cmpR; rw [if_neg h1, if_neg h2, if_neg h3, if_neg h4, if_neg h5, if_neg h6]
    rw [e]
    exact Compare_none s c w (miss_cmp h1 h2 h3 h4 h5 h6)

end Go.Proofs.YtkceoiaaiaomoaaGreatDoor
end
section

end
section
namespace Go.Proofs.YtkceoiaaiaomoaaGreatDoor
open Go.RowKit

theorem rMay1_any (n : Int) (w : World) : Calls Tryz.prog 209 #[.int .i64 n] w fun e w' => e = .returned (.bool (mayB n)) ∧ w = w' := by
  have hd : mayB n = (decide (-576460752303423488 ≤ n) && decide (n ≤ 576460752303423487)) := by unfold mayB; rw [Bool.eq_iff_iff]; simp
  have H := Lib.hid hd
  clear hd
  by_cases h1 : -576460752303423488 ≤ n
  · go_enter Tryz.func209, Tryz.ntmps209
    go_wp2
    go_ret
    exact ⟨ret_bool (by rw [H.out]; simp [h1]), rfl⟩
  · go_enter Tryz.func209, Tryz.ntmps209
    go_wp2
    go_ret
    exact ⟨ret_bool (by rw [H.out]; simp; omega), rfl⟩

theorem txt_ne {s t : ByteArray} {l : List UInt8} (h : ¬ s = t) (e : t.data.toList = l) : (s.toList == l) = false := by
  cases k : s.toList == l
  · rfl
  · have k1 : s.toList = l := by simpa using k
    rw [ByteArray.toList_eq, ← e] at k1
    exact absurd (WideShapes.bytes_inj k1) h

def arithB (s : ByteArray) : Bool := decide (s = sPlus ∨ s = sMinus ∨ s = sTimes ∨ s = sDiv ∨ s = sRem)

theorem rArith_plus (w : World) : Calls Tryz.prog 208 #[.string ⟨#[43]⟩] w fun e w' => e = .returned (.bool true) ∧ w = w' := by
  go_enter Tryz.func208, Tryz.ntmps208
  go_wp2
  go_ret
  exact ⟨rfl, rfl⟩

theorem Arith_plus (w : World) : Calls Tryz.prog 312 #[.string ⟨#[43]⟩] w fun e w' => e = .returned (.bool true) ∧ Below w.heap.size w w' := by
  have hl := look_plus w
  go_enter Tryz.func312, Tryz.ntmps312
  go_wp2_with (go_at_call 291; refine (operations_any _).mono ?_; rintro e w' ⟨rfl, rfl⟩)
  go_ret
  exact ⟨rfl, (Below.refl _ _).alloc (Nat.le_refl _) _⟩

theorem rArith_minus (w : World) : Calls Tryz.prog 208 #[.string ⟨#[45]⟩] w fun e w' => e = .returned (.bool true) ∧ w = w' := by
  go_enter Tryz.func208, Tryz.ntmps208
  go_wp2
  go_ret
  exact ⟨rfl, rfl⟩

theorem Arith_minus (w : World) : Calls Tryz.prog 312 #[.string ⟨#[45]⟩] w fun e w' => e = .returned (.bool true) ∧ Below w.heap.size w w' := by
  have hl := look_minus w
  go_enter Tryz.func312, Tryz.ntmps312
  go_wp2_with (go_at_call 291; refine (operations_any _).mono ?_; rintro e w' ⟨rfl, rfl⟩)
  go_ret
  exact ⟨rfl, (Below.refl _ _).alloc (Nat.le_refl _) _⟩

theorem rArith_times (w : World) : Calls Tryz.prog 208 #[.string ⟨#[42]⟩] w fun e w' => e = .returned (.bool true) ∧ w = w' := by
  go_enter Tryz.func208, Tryz.ntmps208
  go_wp2
  go_ret
  exact ⟨rfl, rfl⟩

theorem Arith_times (w : World) : Calls Tryz.prog 312 #[.string ⟨#[42]⟩] w fun e w' => e = .returned (.bool true) ∧ Below w.heap.size w w' := by
  have hl := look_times w
  go_enter Tryz.func312, Tryz.ntmps312
  go_wp2_with (go_at_call 291; refine (operations_any _).mono ?_; rintro e w' ⟨rfl, rfl⟩)
  go_ret
  exact ⟨rfl, (Below.refl _ _).alloc (Nat.le_refl _) _⟩

theorem rArith_div (w : World) : Calls Tryz.prog 208 #[.string ⟨#[100, 105, 118]⟩] w fun e w' => e = .returned (.bool true) ∧ w = w' := by
  go_enter Tryz.func208, Tryz.ntmps208
  go_wp2
  go_ret
  exact ⟨rfl, rfl⟩

theorem Arith_div (w : World) : Calls Tryz.prog 312 #[.string ⟨#[100, 105, 118]⟩] w fun e w' => e = .returned (.bool true) ∧ Below w.heap.size w w' := by
  have hl := look_quotient w
  go_enter Tryz.func312, Tryz.ntmps312
  go_wp2_with (go_at_call 291; refine (operations_any _).mono ?_; rintro e w' ⟨rfl, rfl⟩)
  go_ret
  exact ⟨rfl, (Below.refl _ _).alloc (Nat.le_refl _) _⟩

theorem rArith_rem (w : World) : Calls Tryz.prog 208 #[.string ⟨#[114, 101, 109]⟩] w fun e w' => e = .returned (.bool true) ∧ w = w' := by
  go_enter Tryz.func208, Tryz.ntmps208
  go_wp2
  go_ret
  exact ⟨rfl, rfl⟩

theorem Arith_rem (w : World) : Calls Tryz.prog 312 #[.string ⟨#[114, 101, 109]⟩] w fun e w' => e = .returned (.bool true) ∧ Below w.heap.size w w' := by
  have hl := look_rest w
  go_enter Tryz.func312, Tryz.ntmps312
  go_wp2_with (go_at_call 291; refine (operations_any _).mono ?_; rintro e w' ⟨rfl, rfl⟩)
  go_ret
  exact ⟨rfl, (Below.refl _ _).alloc (Nat.le_refl _) _⟩

theorem rArith_none (s : ByteArray) (w : World) (h1 : ¬ s = sPlus) (h2 : ¬ s = sMinus) (h3 : ¬ s = sTimes) (h4 : ¬ s = sDiv) (h5 : ¬ s = sRem) : Calls Tryz.prog 208 #[.string s] w fun e w' => e = .returned (.bool false) ∧ w = w' := by
  have g1 : (s.toList == [43]) = false := txt_ne h1 rfl
  have g2 : (s.toList == [45]) = false := txt_ne h2 rfl
  have g3 : (s.toList == [42]) = false := txt_ne h3 rfl
  have g4 : (s.toList == [100, 105, 118]) = false := txt_ne h4 rfl
  have g5 : (s.toList == [114, 101, 109]) = false := txt_ne h5 rfl
  clear h1 h2 h3 h4 h5
  go_enter Tryz.func208, Tryz.ntmps208
  go_wp2
  go_ret
  exact ⟨rfl, rfl⟩

theorem Arith_none (s : ByteArray) (w : World) (hn : Instr.findNow .string (.string s) (opTab 5).toList 0 = some none) : Calls Tryz.prog 312 #[.string s] w fun e w' => e = .returned (.bool false) ∧ Below w.heap.size w w' := by
  have hl := run_miss_last Tryz.underlying285 Tryz.underlying9 w (opTab 5) 5 s .nilFunc zero_op hn
  clear hn
  go_enter Tryz.func312, Tryz.ntmps312
  go_wp2_with (go_at_call 291; refine (operations_any _).mono ?_; rintro e w' ⟨rfl, rfl⟩)
  go_ret
  exact ⟨rfl, (Below.refl _ _).alloc (Nat.le_refl _) _⟩

theorem rArith_any (s : ByteArray) (w : World) : Calls Tryz.prog 208 #[.string s] w fun e w' => e = .returned (.bool (arithB s)) ∧ w = w' := by
  by_cases h1 : s = sPlus
  · subst h1
    rw [show arithB sPlus = true from by unfold arithB; rw [decide_eq_true_eq]; simp]
    exact rArith_plus w
  by_cases h2 : s = sMinus
  · subst h2
    rw [show arithB sMinus = true from by unfold arithB; rw [decide_eq_true_eq]; simp]
    exact rArith_minus w
  by_cases h3 : s = sTimes
  · subst h3
    rw [show arithB sTimes = true from by unfold arithB; rw [decide_eq_true_eq]; simp]
    exact rArith_times w
  by_cases h4 : s = sDiv
  · subst h4
    rw [show arithB sDiv = true from by unfold arithB; rw [decide_eq_true_eq]; simp]
    exact rArith_div w
  by_cases h5 : s = sRem
  · subst h5
    rw [show arithB sRem = true from by unfold arithB; rw [decide_eq_true_eq]; simp]
    exact rArith_rem w
  · rw [show arithB s = false from by unfold arithB; rw [decide_eq_false_iff_not]; simp [h1, h2, h3, h4, h5]]
    exact rArith_none s w h1 h2 h3 h4 h5

theorem Arith_any (s : ByteArray) (w : World) : Calls Tryz.prog 312 #[.string s] w fun e w' => e = .returned (.bool (arithB s)) ∧ Below w.heap.size w w' := by
  by_cases h1 : s = sPlus
  · subst h1
    rw [show arithB sPlus = true from by unfold arithB; rw [decide_eq_true_eq]; simp]
    exact Arith_plus w
  by_cases h2 : s = sMinus
  · subst h2
    rw [show arithB sMinus = true from by unfold arithB; rw [decide_eq_true_eq]; simp]
    exact Arith_minus w
  by_cases h3 : s = sTimes
  · subst h3
    rw [show arithB sTimes = true from by unfold arithB; rw [decide_eq_true_eq]; simp]
    exact Arith_times w
  by_cases h4 : s = sDiv
  · subst h4
    rw [show arithB sDiv = true from by unfold arithB; rw [decide_eq_true_eq]; simp]
    exact Arith_div w
  by_cases h5 : s = sRem
  · subst h5
    rw [show arithB sRem = true from by unfold arithB; rw [decide_eq_true_eq]; simp]
    exact Arith_rem w
  · rw [show arithB s = false from by unfold arithB; rw [decide_eq_false_iff_not]; simp [h1, h2, h3, h4, h5]]
    exact Arith_none s w (miss_op h1 h2 h3 h4 h5)

theorem product_0 (a b : Int) (w : World) (h : a = 0 ∨ b = 0) : Calls Tryz.prog 210 #[.int .i64 a, .int .i64 b] w fun e w' => e = .returned (.tuple #[.int .i64 0, .bool true]) ∧ w = w' := by
  by_cases ha : a = 0
  · subst ha
    clear h
    go_enter Tryz.func210, Tryz.ntmps210
    go_wp2
    go_ret2
    exact ⟨rfl, rfl⟩
  · obtain rfl : b = 0 := by rcases h with h | h; exact absurd h ha; exact h
    clear h
    go_enter Tryz.func210, Tryz.ntmps210
    go_wp2
    go_ret2
    exact ⟨rfl, rfl⟩

def backB (a b : Int) : Bool := (wrap64 ((wrap64 (a * b)).tdiv b) == a) && ((wrap64 (a * b)).tmod b == 0) && mayB (wrap64 (a * b))

theorem product_any (a b : Int) (w : World) (ha : ¬ a = 0) (hb : ¬ b = 0) : Calls Tryz.prog 210 #[.int .i64 a, .int .i64 b] w fun e w' => e = .returned (.tuple #[.int .i64 (wrap64 (a * b)), .bool (backB a b)]) ∧ w = w' := by
  have ha0 : (a == 0) = false := beq_eq_false_iff_ne.2 ha
  have hb0 : (b == 0) = false := beq_eq_false_iff_ne.2 hb
  cases h1 : (wrap64 ((wrap64 (a * b)).tdiv b) == a)
  · have H : Hid (backB a b = false) := by show backB a b = false; unfold backB; rw [h1]; rfl
    go_enter Tryz.func210, Tryz.ntmps210
    go_wp2
    go_ret2
    exact ⟨by rw [H.out]; rfl, rfl⟩
  cases h2 : ((wrap64 (a * b)).tmod b == 0)
  · have H : Hid (backB a b = false) := by show backB a b = false; unfold backB; rw [h1, h2]; rfl
    go_enter Tryz.func210, Tryz.ntmps210
    go_wp2
    go_ret2
    exact ⟨by rw [H.out]; rfl, rfl⟩
  · have H : Hid (backB a b = mayB (wrap64 (a * b))) := by show backB a b = _; unfold backB; rw [h1, h2]; rfl
    go_enter Tryz.func210, Tryz.ntmps210
    go_wp2_with (go_at_call 209; refine (rMay1_any _ _).mono ?_; rintro e w' ⟨rfl, rfl⟩)
    go_ret2
    exact ⟨by rw [H.out]; rfl, rfl⟩

theorem rDo_no (s : ByteArray) (a b : Int) (w : World) (h : arithB s = false ∨ mayB a = false ∨ mayB b = false) :
    Calls Tryz.prog 155 #[.string s, .int .i64 a, .int .i64 b] w fun e w' => e = .returned (.tuple #[.int .i64 0, .int .i64 2]) ∧ w = w' := by
  cases h1 : arithB s
  · clear h
    go_enter Tryz.func155, Tryz.ntmps155
    go_wp2_with (first
      | (go_at_call 208; refine (rArith_any _ _).mono ?_; rintro e w' ⟨rfl, rfl⟩)
      | (go_at_call 209; refine (rMay1_any _ _).mono ?_; rintro e w' ⟨rfl, rfl⟩))
    go_ret2
    exact ⟨rfl, rfl⟩
  cases h2 : mayB a
  · clear h
    go_enter Tryz.func155, Tryz.ntmps155
    go_wp2_with (first
      | (go_at_call 208; refine (rArith_any _ _).mono ?_; rintro e w' ⟨rfl, rfl⟩)
      | (go_at_call 209; refine (rMay1_any _ _).mono ?_; rintro e w' ⟨rfl, rfl⟩))
    go_ret2
    exact ⟨rfl, rfl⟩
  · have h3 : mayB b = false := by rcases h with h | h | h; exact absurd h (by rw [h1]; decide); exact absurd h (by rw [h2]; decide); exact h
    clear h
    go_enter Tryz.func155, Tryz.ntmps155
    go_wp2_with (first
      | (go_at_call 208; refine (rArith_any _ _).mono ?_; rintro e w' ⟨rfl, rfl⟩)
      | (go_at_call 209; refine (rMay1_any _ _).mono ?_; rintro e w' ⟨rfl, rfl⟩))
    go_ret2
    exact ⟨rfl, rfl⟩

theorem rDo_plus (a b : Int) (w : World) (ha : mayB a = true) (hb : mayB b = true) :
    Calls Tryz.prog 155 #[.string ⟨#[43]⟩, .int .i64 a, .int .i64 b] w fun e w' => e = .returned (.tuple #[.int .i64 (fit (wrap64 (a + b))).1, .int .i64 (fit (wrap64 (a + b))).2]) ∧ w = w' := by
  cases hm : mayB (wrap64 (a + b))
  · have H := Lib.hid (fit_no hm)
    go_enter Tryz.func155, Tryz.ntmps155
    go_wp2_with (first
      | (go_at_call 208; refine (rArith_plus _).mono ?_; rintro e w' ⟨rfl, rfl⟩)
      | (go_at_call 209; refine (rMay1_any _ _).mono ?_; rintro e w' ⟨rfl, rfl⟩))
    go_ret2
    exact ⟨ret_two (by rw [H.out]) (by rw [H.out]), rfl⟩
  · have H := Lib.hid (fit_yes hm)
    go_enter Tryz.func155, Tryz.ntmps155
    go_wp2_with (first
      | (go_at_call 208; refine (rArith_plus _).mono ?_; rintro e w' ⟨rfl, rfl⟩)
      | (go_at_call 209; refine (rMay1_any _ _).mono ?_; rintro e w' ⟨rfl, rfl⟩))
    go_ret2
    exact ⟨ret_two (by rw [H.out]) (by rw [H.out]), rfl⟩

theorem rDo_minus (a b : Int) (w : World) (ha : mayB a = true) (hb : mayB b = true) :
    Calls Tryz.prog 155 #[.string ⟨#[45]⟩, .int .i64 a, .int .i64 b] w fun e w' => e = .returned (.tuple #[.int .i64 (fit (wrap64 (a - b))).1, .int .i64 (fit (wrap64 (a - b))).2]) ∧ w = w' := by
  cases hm : mayB (wrap64 (a - b))
  · have H := Lib.hid (fit_no hm)
    go_enter Tryz.func155, Tryz.ntmps155
    go_wp2_with (first
      | (go_at_call 208; refine (rArith_minus _).mono ?_; rintro e w' ⟨rfl, rfl⟩)
      | (go_at_call 209; refine (rMay1_any _ _).mono ?_; rintro e w' ⟨rfl, rfl⟩))
    go_ret2
    exact ⟨ret_two (by rw [H.out]) (by rw [H.out]), rfl⟩
  · have H := Lib.hid (fit_yes hm)
    go_enter Tryz.func155, Tryz.ntmps155
    go_wp2_with (first
      | (go_at_call 208; refine (rArith_minus _).mono ?_; rintro e w' ⟨rfl, rfl⟩)
      | (go_at_call 209; refine (rMay1_any _ _).mono ?_; rintro e w' ⟨rfl, rfl⟩))
    go_ret2
    exact ⟨ret_two (by rw [H.out]) (by rw [H.out]), rfl⟩

theorem rDo_div (a b : Int) (w : World) (ha : mayB a = true) (hb : mayB b = true) (hb0 : ¬ b = 0) :
    Calls Tryz.prog 155 #[.string ⟨#[100, 105, 118]⟩, .int .i64 a, .int .i64 b] w fun e w' => e = .returned (.tuple #[.int .i64 (fit (wrap64 (a.tdiv b))).1, .int .i64 (fit (wrap64 (a.tdiv b))).2]) ∧ w = w' := by
  cases hm : mayB (wrap64 (a.tdiv b))
  · have H := Lib.hid (fit_no hm)
    go_enter Tryz.func155, Tryz.ntmps155
    go_wp2_with (first
      | (go_at_call 208; refine (rArith_div _).mono ?_; rintro e w' ⟨rfl, rfl⟩)
      | (go_at_call 209; refine (rMay1_any _ _).mono ?_; rintro e w' ⟨rfl, rfl⟩))
    go_ret2
    exact ⟨ret_two (by rw [H.out]) (by rw [H.out]), rfl⟩
  · have H := Lib.hid (fit_yes hm)
    go_enter Tryz.func155, Tryz.ntmps155
    go_wp2_with (first
      | (go_at_call 208; refine (rArith_div _).mono ?_; rintro e w' ⟨rfl, rfl⟩)
      | (go_at_call 209; refine (rMay1_any _ _).mono ?_; rintro e w' ⟨rfl, rfl⟩))
    go_ret2
    exact ⟨ret_two (by rw [H.out]) (by rw [H.out]), rfl⟩

theorem rDo_rem (a b : Int) (w : World) (ha : mayB a = true) (hb : mayB b = true) (hb0 : ¬ b = 0) :
    Calls Tryz.prog 155 #[.string ⟨#[114, 101, 109]⟩, .int .i64 a, .int .i64 b] w fun e w' => e = .returned (.tuple #[.int .i64 (fit (wrap64 (a - wrap64 (wrap64 (a.tdiv b) * b)))).1, .int .i64 (fit (wrap64 (a - wrap64 (wrap64 (a.tdiv b) * b)))).2]) ∧ w = w' := by
  cases hm : mayB (wrap64 (a - wrap64 (wrap64 (a.tdiv b) * b)))
  · have H := Lib.hid (fit_no hm)
    go_enter Tryz.func155, Tryz.ntmps155
    go_wp2_with (first
      | (go_at_call 208; refine (rArith_rem _).mono ?_; rintro e w' ⟨rfl, rfl⟩)
      | (go_at_call 209; refine (rMay1_any _ _).mono ?_; rintro e w' ⟨rfl, rfl⟩))
    go_ret2
    exact ⟨ret_two (by rw [H.out]) (by rw [H.out]), rfl⟩
  · have H := Lib.hid (fit_yes hm)
    go_enter Tryz.func155, Tryz.ntmps155
    go_wp2_with (first
      | (go_at_call 208; refine (rArith_rem _).mono ?_; rintro e w' ⟨rfl, rfl⟩)
      | (go_at_call 209; refine (rMay1_any _ _).mono ?_; rintro e w' ⟨rfl, rfl⟩))
    go_ret2
    exact ⟨ret_two (by rw [H.out]) (by rw [H.out]), rfl⟩


theorem backB_fits {a b : Int} (hb0 : ¬ b = 0) (ha : mayB a = true) (h : mayB (a * b) = true) : backB a b = true := by
  have hA := may_bd ha
  unfold backB
  rw [times_fits h, Int.mul_tdiv_cancel _ hb0, Int.mul_tmod_left, h, wrap_in (by omega) (by omega)]
  simp

theorem backB_eq {a b : Int} (hb : mayB b = true) (hb0 : ¬ b = 0) (ha : mayB a = true) (h : backB a b = true) : wrap64 (a * b) = a * b ∧ mayB (a * b) = true := by
  unfold backB at h
  simp only [Bool.and_eq_true, beq_iff_eq] at h
  obtain ⟨⟨h1, _⟩, h3⟩ := h
  have hA := may_bd ha
  have hw : -9223372036854775808 ≤ wrap64 (a * b) ∧ wrap64 (a * b) ≤ 9223372036854775807 := by unfold wrap64; omega
  have hq : (wrap64 (a * b)).tdiv b = a := by
    rcases quo_bd (wrap64 (a * b)) b hw with hB | hB
    · rw [wrap_in hB.1 hB.2] at h1; exact h1
    · rw [hB] at h1; unfold wrap64 at h1; omega
  have e := times_back hb hb0 hq
  exact ⟨e, by rw [← e]; exact h3⟩

theorem rDo_times0 (a b : Int) (w : World) (ha : mayB a = true) (hb : mayB b = true) (h : a = 0 ∨ b = 0) :
    Calls Tryz.prog 155 #[.string ⟨#[42]⟩, .int .i64 a, .int .i64 b] w fun e w' => e = .returned (.tuple #[.int .i64 0, .int .i64 0]) ∧ w = w' := by
  have H := Lib.hid h
  clear h
  have h0 : mayB 0 = true := by decide
  go_enter Tryz.func155, Tryz.ntmps155
  go_wp2_with (first
    | (go_at_call 208; refine (rArith_times _).mono ?_; rintro e w' ⟨rfl, rfl⟩)
    | (go_at_call 210; refine (product_0 _ _ _ H.out).mono ?_; rintro e w' ⟨rfl, rfl⟩)
    | (go_at_call 209; refine (rMay1_any _ _).mono ?_; rintro e w' ⟨rfl, rfl⟩))
  go_ret2
  exact ⟨rfl, rfl⟩

theorem rDo_times (a b : Int) (w : World) (ha : mayB a = true) (hb : mayB b = true) (ha0 : ¬ a = 0) (hb0 : ¬ b = 0) :
    Calls Tryz.prog 155 #[.string ⟨#[42]⟩, .int .i64 a, .int .i64 b] w fun e w' => e = .returned (.tuple #[.int .i64 (fit (a * b)).1, .int .i64 (fit (a * b)).2]) ∧ w = w' := by
  cases hq : backB a b
  · have hno : mayB (a * b) = false := by
      cases h : mayB (a * b)
      · rfl
      · rw [backB_fits hb0 ha h] at hq; cases hq
    have H := Lib.hid (fit_no hno)
    clear hno
    go_enter Tryz.func155, Tryz.ntmps155
    go_wp2_with (first
      | (go_at_call 208; refine (rArith_times _).mono ?_; rintro e w' ⟨rfl, rfl⟩)
      | (go_at_call 210; refine (product_any _ _ _ ha0 hb0).mono ?_; rintro e w' ⟨rfl, rfl⟩)
      | (go_at_call 209; refine (rMay1_any _ _).mono ?_; rintro e w' ⟨rfl, rfl⟩))
    go_ret2
    exact ⟨ret_two (by rw [H.out]) (by rw [H.out]), rfl⟩
  · obtain ⟨he, hm⟩ := backB_eq hb hb0 ha hq
    have hm' : mayB (wrap64 (a * b)) = true := by rw [he]; exact hm
    have H := Lib.hid (fit_yes hm)
    have HE := Lib.hid he
    clear hm he
    go_enter Tryz.func155, Tryz.ntmps155
    go_wp2_with (first
      | (go_at_call 208; refine (rArith_times _).mono ?_; rintro e w' ⟨rfl, rfl⟩)
      | (go_at_call 210; refine (product_any _ _ _ ha0 hb0).mono ?_; rintro e w' ⟨rfl, rfl⟩)
      | (go_at_call 209; refine (rMay1_any _ _).mono ?_; rintro e w' ⟨rfl, rfl⟩))
    go_ret2
    exact ⟨ret_two (by rw [H.out, HE.out]) (by rw [H.out]), rfl⟩

theorem rDo_div0 (a : Int) (w : World) (ha : mayB a = true) :
    Calls Tryz.prog 155 #[.string ⟨#[100, 105, 118]⟩, .int .i64 a, .int .i64 0] w fun e w' => e = .returned (.tuple #[.int .i64 0, .int .i64 10]) ∧ w = w' := by
  have h0 : mayB 0 = true := by decide
  go_enter Tryz.func155, Tryz.ntmps155
  go_wp2_with (first
    | (go_at_call 208; refine (rArith_div _).mono ?_; rintro e w' ⟨rfl, rfl⟩)
    | (go_at_call 209; refine (rMay1_any _ _).mono ?_; rintro e w' ⟨rfl, rfl⟩))
  go_ret2
  exact ⟨rfl, rfl⟩

theorem rDo_rem0 (a : Int) (w : World) (ha : mayB a = true) :
    Calls Tryz.prog 155 #[.string ⟨#[114, 101, 109]⟩, .int .i64 a, .int .i64 0] w fun e w' => e = .returned (.tuple #[.int .i64 0, .int .i64 10]) ∧ w = w' := by
  have h0 : mayB 0 = true := by decide
  go_enter Tryz.func155, Tryz.ntmps155
  go_wp2_with (first
    | (go_at_call 208; refine (rArith_rem _).mono ?_; rintro e w' ⟨rfl, rfl⟩)
    | (go_at_call 209; refine (rMay1_any _ _).mono ?_; rintro e w' ⟨rfl, rfl⟩))
  go_ret2
  exact ⟨rfl, rfl⟩

theorem rem_form {a b : Int} (ha : mayB a = true) : wrap64 (a - wrap64 (wrap64 (a.tdiv b) * b)) = a.tmod b := by
  have hA := may_bd ha
  have hs := quo_small a b
  rw [wrap_in (n := a.tdiv b) (by omega) (by omega)]
  have hq := quo_rem a b
  rw [Int.mul_comm] at hq
  generalize a.tdiv b * b = m at *
  have hr : -(a.natAbs : Int) ≤ a.tmod b ∧ a.tmod b ≤ a.natAbs := by
    have h1 := Int.natAbs_tmod a b; have h2 := Nat.mod_le a.natAbs b.natAbs; omega
  rw [wrap_in (n := m) (by omega) (by omega), wrap_in (by omega) (by omega)]
  omega

theorem rDo_any (s : ByteArray) (a b : Int) (w : World) :
    Calls Tryz.prog 155 #[.string s, .int .i64 a, .int .i64 b] w fun e w' => e = .returned (.tuple #[.int .i64 (doR s a b).1, .int .i64 (doR s a b).2]) ∧ w = w' := by
  by_cases hab : mayB a = false ∨ mayB b = false
  · rw [show doR s a b = (0, 2) from by unfold doR; rw [if_pos hab]]
    exact rDo_no s a b w (.inr hab)
  have ⟨ha, hb⟩ : mayB a = true ∧ mayB b = true := by simpa using hab
  have hA := may_bd ha
  have hB := may_bd hb
  by_cases h1 : s = sPlus
  · subst h1
    rw [show doR sPlus a b = fit (wrap64 (a + b)) from by rw [wrap_in (by omega) (by omega)]; unfold doR; rw [if_neg hab, if_pos rfl]]
    exact rDo_plus a b w ha hb
  by_cases h2 : s = sMinus
  · subst h2
    rw [show doR sMinus a b = fit (wrap64 (a - b)) from by rw [wrap_in (by omega) (by omega)]; unfold doR; rw [if_neg hab, if_neg h1, if_pos rfl]]
    exact rDo_minus a b w ha hb
  by_cases h3 : s = sTimes
  · subst h3
    rw [show doR sTimes a b = fit (a * b) from by unfold doR; rw [if_neg hab, if_neg h1, if_neg h2, if_pos rfl]]
    by_cases h0 : a = 0 ∨ b = 0
    · rw [show fit (a * b) = (0, 0) from by rcases h0 with rfl | rfl <;> simp [fit, mayB]]
      exact rDo_times0 a b w ha hb h0
    · exact rDo_times a b w ha hb (fun h => h0 (.inl h)) (fun h => h0 (.inr h))
  by_cases h4 : s = sDiv
  · subst h4
    rw [show doR sDiv a b = if b = 0 then (0, 10) else fit (a.tdiv b) from by unfold doR; rw [if_neg hab, if_neg h1, if_neg h2, if_neg h3, if_pos rfl]]
    by_cases hb0 : b = 0
    · subst hb0
      rw [if_pos rfl]
      exact rDo_div0 a w ha
    · have := quo_small a b
      rw [if_neg hb0, ← wrap_in (n := a.tdiv b) (by omega) (by omega)]
      exact rDo_div a b w ha hb hb0
  by_cases h5 : s = sRem
  · subst h5
    rw [show doR sRem a b = if b = 0 then (0, 10) else fit (a.tmod b) from by unfold doR; rw [if_neg hab, if_neg h1, if_neg h2, if_neg h3, if_neg h4, if_pos rfl]]
    by_cases hb0 : b = 0
    · subst hb0
      rw [if_pos rfl]
      exact rDo_rem0 a w ha
    · rw [if_neg hb0, ← rem_form ha]
      exact rDo_rem a b w ha hb hb0
  · rw [show doR s a b = (0, 2) from by unfold doR; rw [if_neg hab, if_neg h1, if_neg h2, if_neg h3, if_neg h4, if_neg h5]]
    exact rDo_no s a b w (.inl (by unfold arithB; rw [decide_eq_false_iff_not]; simp [h1, h2, h3, h4, h5]))

theorem rCompare_1 (c : Int) (w : World) : Calls Tryz.prog 165 #[.string ⟨#[61, 58, 61]⟩, .int .i64 c] w fun e w' => e = .returned (.tuple #[.bool (c == 0), .bool true]) ∧ w = w' := by
  go_enter Tryz.func165, Tryz.ntmps165
  go_wp2
  go_ret2
  exact ⟨rfl, rfl⟩

theorem rCompare_2 (c : Int) (w : World) : Calls Tryz.prog 165 #[.string ⟨#[61, 47, 61]⟩, .int .i64 c] w fun e w' => e = .returned (.tuple #[.bool (c != 0), .bool true]) ∧ w = w' := by
  go_enter Tryz.func165, Tryz.ntmps165
  go_wp2
  go_ret2
  exact ⟨rfl, rfl⟩

theorem rCompare_3 (c : Int) (w : World) : Calls Tryz.prog 165 #[.string ⟨#[60]⟩, .int .i64 c] w fun e w' => e = .returned (.tuple #[.bool (decide (c < 0)), .bool true]) ∧ w = w' := by
  go_enter Tryz.func165, Tryz.ntmps165
  go_wp2
  go_ret2
  exact ⟨rfl, rfl⟩

theorem rCompare_4 (c : Int) (w : World) : Calls Tryz.prog 165 #[.string ⟨#[61, 60]⟩, .int .i64 c] w fun e w' => e = .returned (.tuple #[.bool (decide (c ≤ 0)), .bool true]) ∧ w = w' := by
  go_enter Tryz.func165, Tryz.ntmps165
  go_wp2
  go_ret2
  exact ⟨rfl, rfl⟩

theorem rCompare_5 (c : Int) (w : World) : Calls Tryz.prog 165 #[.string ⟨#[62]⟩, .int .i64 c] w fun e w' => e = .returned (.tuple #[.bool (decide (0 < c)), .bool true]) ∧ w = w' := by
  go_enter Tryz.func165, Tryz.ntmps165
  go_wp2
  go_ret2
  exact ⟨rfl, rfl⟩

theorem rCompare_6 (c : Int) (w : World) : Calls Tryz.prog 165 #[.string ⟨#[62, 61]⟩, .int .i64 c] w fun e w' => e = .returned (.tuple #[.bool (decide (0 ≤ c)), .bool true]) ∧ w = w' := by
  go_enter Tryz.func165, Tryz.ntmps165
  go_wp2
  go_ret2
  exact ⟨rfl, rfl⟩

theorem rCompare_none (s : ByteArray) (c : Int) (w : World) (h1 : ¬ s = sEq) (h2 : ¬ s = sNe) (h3 : ¬ s = sLt) (h4 : ¬ s = sLe) (h5 : ¬ s = sGt) (h6 : ¬ s = sGe) :
    Calls Tryz.prog 165 #[.string s, .int .i64 c] w fun e w' => e = .returned (.tuple #[.bool false, .bool false]) ∧ w = w' := by
  have g1 : (s.toList == [61, 58, 61]) = false := txt_ne h1 rfl
  have g2 : (s.toList == [61, 47, 61]) = false := txt_ne h2 rfl
  have g3 : (s.toList == [60]) = false := txt_ne h3 rfl
  have g4 : (s.toList == [61, 60]) = false := txt_ne h4 rfl
  have g5 : (s.toList == [62]) = false := txt_ne h5 rfl
  have g6 : (s.toList == [62, 61]) = false := txt_ne h6 rfl
  clear h1 h2 h3 h4 h5 h6
  go_enter Tryz.func165, Tryz.ntmps165
  go_wp2
  go_ret2
  exact ⟨rfl, rfl⟩

theorem rCompare_any (s : ByteArray) (c : Int) (w : World) :
    Calls Tryz.prog 165 #[.string s, .int .i64 c] w fun e w' => e = .returned (.tuple #[.bool (cmpR s c).1, .bool (cmpR s c).2]) ∧ w = w' := by
  by_cases h1 : s = sEq
  · subst h1
    refine (rCompare_1 c w).mono ?_
    rintro e w' ⟨rfl, hb⟩
    have e : cmpR sEq c = (decide (c = 0), true) := by unfold cmpR; rw [if_pos rfl]
    refine ⟨ret_bools ?_ (by rw [e]), hb⟩
    rw [e]
    rw [Bool.eq_iff_iff]; simp
  by_cases h2 : s = sNe
  · subst h2
    refine (rCompare_2 c w).mono ?_
    rintro e w' ⟨rfl, hb⟩
    have e : cmpR sNe c = (decide (¬ c = 0), true) := by unfold cmpR; rw [if_neg h1, if_pos rfl]
    refine ⟨ret_bools ?_ (by rw [e]), hb⟩
    rw [e]
    rw [Bool.eq_iff_iff]; simp
  by_cases h3 : s = sLt
  · subst h3
    refine (rCompare_3 c w).mono ?_
    rintro e w' ⟨rfl, hb⟩
    have e : cmpR sLt c = (decide (c < 0), true) := by unfold cmpR; rw [if_neg h1, if_neg h2, if_pos rfl]
    refine ⟨ret_bools ?_ (by rw [e]), hb⟩
    rw [e]
    try rfl
  by_cases h4 : s = sLe
  · subst h4
    refine (rCompare_4 c w).mono ?_
    rintro e w' ⟨rfl, hb⟩
    have e : cmpR sLe c = (decide (c ≤ 0), true) := by unfold cmpR; rw [if_neg h1, if_neg h2, if_neg h3, if_pos rfl]
    refine ⟨ret_bools ?_ (by rw [e]), hb⟩
    rw [e]
    try rfl
  by_cases h5 : s = sGt
  · subst h5
    refine (rCompare_5 c w).mono ?_
    rintro e w' ⟨rfl, hb⟩
    have e : cmpR sGt c = (decide (0 < c), true) := by unfold cmpR; rw [if_neg h1, if_neg h2, if_neg h3, if_neg h4, if_pos rfl]
    refine ⟨ret_bools ?_ (by rw [e]), hb⟩
    rw [e]
    try rfl
  by_cases h6 : s = sGe
  · subst h6
    refine (rCompare_6 c w).mono ?_
    rintro e w' ⟨rfl, hb⟩
    have e : cmpR sGe c = (decide (0 ≤ c), true) := by unfold cmpR; rw [if_neg h1, if_neg h2, if_neg h3, if_neg h4, if_neg h5, if_pos rfl]
    refine ⟨ret_bools ?_ (by rw [e]), hb⟩
    rw [e]
    try rfl
  · have e : cmpR s c = (false, false) := by unfold cmpR; rw [if_neg h1, if_neg h2, if_neg h3, if_neg h4, if_neg h5, if_neg h6]
    rw [e]
    exact rCompare_none s c w h1 h2 h3 h4 h5 h6

end Go.Proofs.YtkceoiaaiaomoaaGreatDoor
end
