/- Layer 7: the text of a tree; the names in it. -/
import Derived.Test.YtdimcddbmccniaaGreatDoorKInts
import Derived.Test.YtdimcddbmccniaaGreatDoorKCd1
import Derived.IntWalk
import Derived.Deep.DeepCutAuto
import Derived.Tactics2
import Derived.Lib.ItoaLen
section
namespace Go.Proofs.YtdimcddbmccniaaGreatDoor
open Go.RowKit

def sEq : ByteArray := ⟨#[61, 58, 61]⟩
def sNe : ByteArray := ⟨#[61, 47, 61]⟩
def sLt : ByteArray := ⟨#[60]⟩
def sLe : ByteArray := ⟨#[61, 60]⟩
def sGt : ByteArray := ⟨#[62]⟩
def sGe : ByteArray := ⟨#[62, 61]⟩

def cmpR (s : ByteArray) (c : Int) : Bool × Bool :=
  if s = sEq then (decide (c = 0), true) else
  if s = sNe then (decide (¬ c = 0), true) else
  if s = sLt then (decide (c < 0), true) else
  if s = sLe then (decide (c ≤ 0), true) else
  if s = sGt then (decide (0 < c), true) else
  if s = sGe then (decide (0 ≤ c), true) else
  (false, false)

def sgn (c : Int) : Int := if c < 0 then -1 else if 0 < c then 1 else 0

theorem signOf_any (c : Int) (w : World) : Calls Tryz.prog 212 #[.int .i64 c] w fun e w' => e = .returned (.int .i64 (sgn c)) ∧ w = w' := by
  by_cases h1 : c < 0
  · have H := Lib.hid (show sgn c = -1 by rw [sgn, if_pos h1])
    go_enter Tryz.func212, Tryz.ntmps212
    go_wp2
    go_ret
    exact ⟨ret_int (by rw [H.out]), rfl⟩
  by_cases h2 : 0 < c
  · have H := Lib.hid (show sgn c = 1 by rw [sgn, if_neg h1, if_pos h2])
    go_enter Tryz.func212, Tryz.ntmps212
    go_wp2
    go_ret
    exact ⟨ret_int (by rw [H.out]), rfl⟩
  · have H := Lib.hid (show sgn c = 0 by rw [sgn, if_neg h1, if_neg h2])
    go_enter Tryz.func212, Tryz.ntmps212
    go_wp2
    go_ret
    exact ⟨ret_int (by rw [H.out]), rfl⟩

def cmpTab (k : Nat) : Array MapEntry := (#[⟨.string ⟨#[61, 58, 61]⟩, .func (.func 245) #[] #[], 0⟩, ⟨.string ⟨#[61, 47, 61]⟩, .func (.func 246) #[] #[], 1⟩, ⟨.string ⟨#[60]⟩, .func (.func 247) #[] #[], 2⟩, ⟨.string ⟨#[61, 60]⟩, .func (.func 248) #[] #[], 3⟩, ⟨.string ⟨#[62]⟩, .func (.func 249) #[] #[], 4⟩, ⟨.string ⟨#[62, 61]⟩, .func (.func 250) #[] #[], 5⟩] : Array MapEntry).take k

theorem comparisons_any (w : World) : Calls Tryz.prog 211 #[] w fun e w' => e = .returned (.map (some w.heap.size)) ∧ w' = w.alloc (.map (cmpTab 6) 6) := by
  have hmm := @run_makeMap Tryz.prog
  have i1 : Sem.run Tryz.prog (Instr.mapUpdate 225 (.map (some w.heap.size)) (.string ⟨#[61, 58, 61]⟩) (.func (.func 245) #[] #[])) (w.alloc (.map #[] 0)) = .ok () (w.alloc (.map (cmpTab 1) 1)) :=
    run_put_last Tryz.underlying225 Tryz.underlying9 w (cmpTab 0) 0 _ _ rfl
  have i2 : Sem.run Tryz.prog (Instr.mapUpdate 225 (.map (some w.heap.size)) (.string ⟨#[61, 47, 61]⟩) (.func (.func 246) #[] #[])) (w.alloc (.map (cmpTab 1) 1)) = .ok () (w.alloc (.map (cmpTab 2) 2)) :=
    run_put_last Tryz.underlying225 Tryz.underlying9 w (cmpTab 1) 1 _ _ rfl
  have i3 : Sem.run Tryz.prog (Instr.mapUpdate 225 (.map (some w.heap.size)) (.string ⟨#[60]⟩) (.func (.func 247) #[] #[])) (w.alloc (.map (cmpTab 2) 2)) = .ok () (w.alloc (.map (cmpTab 3) 3)) :=
    run_put_last Tryz.underlying225 Tryz.underlying9 w (cmpTab 2) 2 _ _ rfl
  have i4 : Sem.run Tryz.prog (Instr.mapUpdate 225 (.map (some w.heap.size)) (.string ⟨#[61, 60]⟩) (.func (.func 248) #[] #[])) (w.alloc (.map (cmpTab 3) 3)) = .ok () (w.alloc (.map (cmpTab 4) 4)) :=
    run_put_last Tryz.underlying225 Tryz.underlying9 w (cmpTab 3) 3 _ _ rfl
  have i5 : Sem.run Tryz.prog (Instr.mapUpdate 225 (.map (some w.heap.size)) (.string ⟨#[62]⟩) (.func (.func 249) #[] #[])) (w.alloc (.map (cmpTab 4) 4)) = .ok () (w.alloc (.map (cmpTab 5) 5)) :=
    run_put_last Tryz.underlying225 Tryz.underlying9 w (cmpTab 4) 4 _ _ rfl
  have i6 : Sem.run Tryz.prog (Instr.mapUpdate 225 (.map (some w.heap.size)) (.string ⟨#[62, 61]⟩) (.func (.func 250) #[] #[])) (w.alloc (.map (cmpTab 5) 5)) = .ok () (w.alloc (.map (cmpTab 6) 6)) :=
    run_put_last Tryz.underlying225 Tryz.underlying9 w (cmpTab 5) 5 _ _ rfl
  go_enter Tryz.func211, Tryz.ntmps211
  go_wp2
  go_ret
  exact ⟨rfl, rfl⟩

theorem zero_cmp (w : World) : (zeroValue 223).run Tryz.prog w = .ok .nilFunc w := by kernel_rfl

theorem cmp_1 (x : Int) (w : World) : Calls Tryz.prog 245 #[.int .i64 x] w fun e w' => e = .returned (.bool (x == 0)) ∧ w = w' := by
  go_enter Tryz.func245, Tryz.ntmps245
  go_wp2
  go_ret
  exact ⟨rfl, rfl⟩

theorem Compare_1 (c : Int) (w : World) : Calls Tryz.prog 150 #[.string ⟨#[61, 58, 61]⟩, .int .i64 c] w fun e w' => e = .returned (.tuple #[.bool (sgn c == 0), .bool true]) ∧ Below w.heap.size w w' := by
  have hl : Sem.run Tryz.prog (Instr.lookup 225 (.map (some w.heap.size)) (.string ⟨#[61, 58, 61]⟩) true) (w.alloc (.map (cmpTab 6) 6)) = .ok (.tuple #[.func (.func 245) #[] #[], .bool true]) (w.alloc (.map (cmpTab 6) 6)) :=
    run_look_last Tryz.underlying225 Tryz.underlying9 w (cmpTab 6) 6 _ 0 _ rfl
  go_enter Tryz.func150, Tryz.ntmps150
  go_wp2_with (first
    | (go_at_call 211; refine (comparisons_any _).mono ?_; rintro e w' ⟨rfl, rfl⟩)
    | (go_at_call 212; refine (signOf_any _ _).mono ?_; rintro e w' ⟨rfl, rfl⟩)
    | (go_at_call 245; refine (cmp_1 _ _).mono ?_; rintro e w' ⟨rfl, rfl⟩))
  go_ret2
  exact ⟨rfl, (Below.refl _ _).alloc (Nat.le_refl _) _⟩

theorem cmp_2 (x : Int) (w : World) : Calls Tryz.prog 246 #[.int .i64 x] w fun e w' => e = .returned (.bool (x != 0)) ∧ w = w' := by
  go_enter Tryz.func246, Tryz.ntmps246
  go_wp2
  go_ret
  exact ⟨rfl, rfl⟩

theorem Compare_2 (c : Int) (w : World) : Calls Tryz.prog 150 #[.string ⟨#[61, 47, 61]⟩, .int .i64 c] w fun e w' => e = .returned (.tuple #[.bool (sgn c != 0), .bool true]) ∧ Below w.heap.size w w' := by
  have hl : Sem.run Tryz.prog (Instr.lookup 225 (.map (some w.heap.size)) (.string ⟨#[61, 47, 61]⟩) true) (w.alloc (.map (cmpTab 6) 6)) = .ok (.tuple #[.func (.func 246) #[] #[], .bool true]) (w.alloc (.map (cmpTab 6) 6)) :=
    run_look_last Tryz.underlying225 Tryz.underlying9 w (cmpTab 6) 6 _ 1 _ rfl
  go_enter Tryz.func150, Tryz.ntmps150
  go_wp2_with (first
    | (go_at_call 211; refine (comparisons_any _).mono ?_; rintro e w' ⟨rfl, rfl⟩)
    | (go_at_call 212; refine (signOf_any _ _).mono ?_; rintro e w' ⟨rfl, rfl⟩)
    | (go_at_call 246; refine (cmp_2 _ _).mono ?_; rintro e w' ⟨rfl, rfl⟩))
  go_ret2
  exact ⟨rfl, (Below.refl _ _).alloc (Nat.le_refl _) _⟩

theorem cmp_3 (x : Int) (w : World) : Calls Tryz.prog 247 #[.int .i64 x] w fun e w' => e = .returned (.bool (x == -1)) ∧ w = w' := by
  go_enter Tryz.func247, Tryz.ntmps247
  go_wp2
  go_ret
  exact ⟨rfl, rfl⟩

theorem Compare_3 (c : Int) (w : World) : Calls Tryz.prog 150 #[.string ⟨#[60]⟩, .int .i64 c] w fun e w' => e = .returned (.tuple #[.bool (sgn c == -1), .bool true]) ∧ Below w.heap.size w w' := by
  have hl : Sem.run Tryz.prog (Instr.lookup 225 (.map (some w.heap.size)) (.string ⟨#[60]⟩) true) (w.alloc (.map (cmpTab 6) 6)) = .ok (.tuple #[.func (.func 247) #[] #[], .bool true]) (w.alloc (.map (cmpTab 6) 6)) :=
    run_look_last Tryz.underlying225 Tryz.underlying9 w (cmpTab 6) 6 _ 2 _ rfl
  go_enter Tryz.func150, Tryz.ntmps150
  go_wp2_with (first
    | (go_at_call 211; refine (comparisons_any _).mono ?_; rintro e w' ⟨rfl, rfl⟩)
    | (go_at_call 212; refine (signOf_any _ _).mono ?_; rintro e w' ⟨rfl, rfl⟩)
    | (go_at_call 247; refine (cmp_3 _ _).mono ?_; rintro e w' ⟨rfl, rfl⟩))
  go_ret2
  exact ⟨rfl, (Below.refl _ _).alloc (Nat.le_refl _) _⟩

theorem cmp_4 (x : Int) (w : World) : Calls Tryz.prog 248 #[.int .i64 x] w fun e w' => e = .returned (.bool (x != 1)) ∧ w = w' := by
  go_enter Tryz.func248, Tryz.ntmps248
  go_wp2
  go_ret
  exact ⟨rfl, rfl⟩

theorem Compare_4 (c : Int) (w : World) : Calls Tryz.prog 150 #[.string ⟨#[61, 60]⟩, .int .i64 c] w fun e w' => e = .returned (.tuple #[.bool (sgn c != 1), .bool true]) ∧ Below w.heap.size w w' := by
  have hl : Sem.run Tryz.prog (Instr.lookup 225 (.map (some w.heap.size)) (.string ⟨#[61, 60]⟩) true) (w.alloc (.map (cmpTab 6) 6)) = .ok (.tuple #[.func (.func 248) #[] #[], .bool true]) (w.alloc (.map (cmpTab 6) 6)) :=
    run_look_last Tryz.underlying225 Tryz.underlying9 w (cmpTab 6) 6 _ 3 _ rfl
  go_enter Tryz.func150, Tryz.ntmps150
  go_wp2_with (first
    | (go_at_call 211; refine (comparisons_any _).mono ?_; rintro e w' ⟨rfl, rfl⟩)
    | (go_at_call 212; refine (signOf_any _ _).mono ?_; rintro e w' ⟨rfl, rfl⟩)
    | (go_at_call 248; refine (cmp_4 _ _).mono ?_; rintro e w' ⟨rfl, rfl⟩))
  go_ret2
  exact ⟨rfl, (Below.refl _ _).alloc (Nat.le_refl _) _⟩

theorem cmp_5 (x : Int) (w : World) : Calls Tryz.prog 249 #[.int .i64 x] w fun e w' => e = .returned (.bool (x == 1)) ∧ w = w' := by
  go_enter Tryz.func249, Tryz.ntmps249
  go_wp2
  go_ret
  exact ⟨rfl, rfl⟩

theorem Compare_5 (c : Int) (w : World) : Calls Tryz.prog 150 #[.string ⟨#[62]⟩, .int .i64 c] w fun e w' => e = .returned (.tuple #[.bool (sgn c == 1), .bool true]) ∧ Below w.heap.size w w' := by
  have hl : Sem.run Tryz.prog (Instr.lookup 225 (.map (some w.heap.size)) (.string ⟨#[62]⟩) true) (w.alloc (.map (cmpTab 6) 6)) = .ok (.tuple #[.func (.func 249) #[] #[], .bool true]) (w.alloc (.map (cmpTab 6) 6)) :=
    run_look_last Tryz.underlying225 Tryz.underlying9 w (cmpTab 6) 6 _ 4 _ rfl
  go_enter Tryz.func150, Tryz.ntmps150
  go_wp2_with (first
    | (go_at_call 211; refine (comparisons_any _).mono ?_; rintro e w' ⟨rfl, rfl⟩)
    | (go_at_call 212; refine (signOf_any _ _).mono ?_; rintro e w' ⟨rfl, rfl⟩)
    | (go_at_call 249; refine (cmp_5 _ _).mono ?_; rintro e w' ⟨rfl, rfl⟩))
  go_ret2
  exact ⟨rfl, (Below.refl _ _).alloc (Nat.le_refl _) _⟩

theorem cmp_6 (x : Int) (w : World) : Calls Tryz.prog 250 #[.int .i64 x] w fun e w' => e = .returned (.bool (x != -1)) ∧ w = w' := by
  go_enter Tryz.func250, Tryz.ntmps250
  go_wp2
  go_ret
  exact ⟨rfl, rfl⟩

theorem Compare_6 (c : Int) (w : World) : Calls Tryz.prog 150 #[.string ⟨#[62, 61]⟩, .int .i64 c] w fun e w' => e = .returned (.tuple #[.bool (sgn c != -1), .bool true]) ∧ Below w.heap.size w w' := by
  have hl : Sem.run Tryz.prog (Instr.lookup 225 (.map (some w.heap.size)) (.string ⟨#[62, 61]⟩) true) (w.alloc (.map (cmpTab 6) 6)) = .ok (.tuple #[.func (.func 250) #[] #[], .bool true]) (w.alloc (.map (cmpTab 6) 6)) :=
    run_look_last Tryz.underlying225 Tryz.underlying9 w (cmpTab 6) 6 _ 5 _ rfl
  go_enter Tryz.func150, Tryz.ntmps150
  go_wp2_with (first
    | (go_at_call 211; refine (comparisons_any _).mono ?_; rintro e w' ⟨rfl, rfl⟩)
    | (go_at_call 212; refine (signOf_any _ _).mono ?_; rintro e w' ⟨rfl, rfl⟩)
    | (go_at_call 250; refine (cmp_6 _ _).mono ?_; rintro e w' ⟨rfl, rfl⟩))
  go_ret2
  exact ⟨rfl, (Below.refl _ _).alloc (Nat.le_refl _) _⟩

theorem Compare_none (s : ByteArray) (c : Int) (w : World) (hn : Instr.findNow .string (.string s) (cmpTab 6).toList 0 = some none) : Calls Tryz.prog 150 #[.string s, .int .i64 c] w fun e w' => e = .returned (.tuple #[.bool false, .bool false]) ∧ Below w.heap.size w w' := by
  have hl := run_miss_last Tryz.underlying225 Tryz.underlying9 w (cmpTab 6) 6 s .nilFunc zero_cmp hn
  clear hn
  go_enter Tryz.func150, Tryz.ntmps150
  go_wp2_with (go_at_call 211; refine (comparisons_any _).mono ?_; rintro e w' ⟨rfl, rfl⟩)
  go_ret2
  exact ⟨rfl, (Below.refl _ _).alloc (Nat.le_refl _) _⟩

theorem ret_bools {a a' b b' : Bool} (h : a = a') (h' : b = b') : Ending.returned (.tuple #[.bool a, .bool b]) = .returned (.tuple #[.bool a', .bool b']) := by rw [h, h']

theorem miss_cmp {s : ByteArray} (h1 : ¬ s = sEq) (h2 : ¬ s = sNe) (h3 : ¬ s = sLt) (h4 : ¬ s = sLe) (h5 : ¬ s = sGt) (h6 : ¬ s = sGe) : Instr.findNow .string (.string s) (cmpTab 6).toList 0 = some none := by
  have f : ∀ t : ByteArray, ¬ s = t → (s == t) = false := fun t h => by
    cases e : s == t
    · rfl
    · exact absurd ((MapKept.bytes_beq s t).1 e) h
  have e : (cmpTab 6).toList = [⟨.string sEq, .func (.func 245) #[] #[], 0⟩, ⟨.string sNe, .func (.func 246) #[] #[], 1⟩, ⟨.string sLt, .func (.func 247) #[] #[], 2⟩, ⟨.string sLe, .func (.func 248) #[] #[], 3⟩, ⟨.string sGt, .func (.func 249) #[] #[], 4⟩, ⟨.string sGe, .func (.func 250) #[] #[], 5⟩] := rfl
  rw [e]
  simp [Instr.findNow, Instr.sameNow, f _ h1, f _ h2, f _ h3, f _ h4, f _ h5, f _ h6]

theorem sgn_cases (c : Int) : (c < 0 ∧ sgn c = -1) ∨ (c = 0 ∧ sgn c = 0) ∨ (0 < c ∧ sgn c = 1) := by
  unfold sgn; split
  · exact .inl ⟨by assumption, rfl⟩
  · split
    · exact .inr (.inr ⟨by assumption, rfl⟩)
    · exact .inr (.inl ⟨by omega, rfl⟩)

theorem Compare_any (s : ByteArray) (c : Int) (w : World) :
    Calls Tryz.prog 150 #[.string s, .int .i64 c] w fun e w' => e = .returned (.tuple #[.bool (cmpR s c).1, .bool (cmpR s c).2]) ∧ Below w.heap.size w w' := by
  by_cases h1 : s = sEq
  · subst h1
    refine (Compare_1 c w).mono ?_
    rintro e w' ⟨rfl, hb⟩
    have e : cmpR sEq c = (decide (c = 0), true) := by unfold cmpR; rw [if_pos rfl]
    refine ⟨ret_bools ?_ (by rw [e]), hb⟩
    rw [e]
    rcases sgn_cases c with ⟨h, hs⟩ | ⟨h, hs⟩ | ⟨h, hs⟩ <;> rw [hs] <;> simp <;> omega
  by_cases h2 : s = sNe
  · subst h2
    refine (Compare_2 c w).mono ?_
    rintro e w' ⟨rfl, hb⟩
    have e : cmpR sNe c = (decide (¬ c = 0), true) := by unfold cmpR; rw [if_neg h1, if_pos rfl]
    refine ⟨ret_bools ?_ (by rw [e]), hb⟩
    rw [e]
    rcases sgn_cases c with ⟨h, hs⟩ | ⟨h, hs⟩ | ⟨h, hs⟩ <;> rw [hs] <;> simp <;> omega
  by_cases h3 : s = sLt
  · subst h3
    refine (Compare_3 c w).mono ?_
    rintro e w' ⟨rfl, hb⟩
    have e : cmpR sLt c = (decide (c < 0), true) := by unfold cmpR; rw [if_neg h1, if_neg h2, if_pos rfl]
    refine ⟨ret_bools ?_ (by rw [e]), hb⟩
    rw [e]
    rcases sgn_cases c with ⟨h, hs⟩ | ⟨h, hs⟩ | ⟨h, hs⟩ <;> rw [hs] <;> simp <;> omega
  by_cases h4 : s = sLe
  · subst h4
    refine (Compare_4 c w).mono ?_
    rintro e w' ⟨rfl, hb⟩
    have e : cmpR sLe c = (decide (c ≤ 0), true) := by unfold cmpR; rw [if_neg h1, if_neg h2, if_neg h3, if_pos rfl]
    refine ⟨ret_bools ?_ (by rw [e]), hb⟩
    rw [e]
    rcases sgn_cases c with ⟨h, hs⟩ | ⟨h, hs⟩ | ⟨h, hs⟩ <;> rw [hs] <;> simp <;> omega
  by_cases h5 : s = sGt
  · subst h5
    refine (Compare_5 c w).mono ?_
    rintro e w' ⟨rfl, hb⟩
    have e : cmpR sGt c = (decide (0 < c), true) := by unfold cmpR; rw [if_neg h1, if_neg h2, if_neg h3, if_neg h4, if_pos rfl]
    refine ⟨ret_bools ?_ (by rw [e]), hb⟩
    rw [e]
    rcases sgn_cases c with ⟨h, hs⟩ | ⟨h, hs⟩ | ⟨h, hs⟩ <;> rw [hs] <;> simp <;> omega
  by_cases h6 : s = sGe
  · subst h6
    refine (Compare_6 c w).mono ?_
    rintro e w' ⟨rfl, hb⟩
    have e : cmpR sGe c = (decide (0 ≤ c), true) := by unfold cmpR; rw [if_neg h1, if_neg h2, if_neg h3, if_neg h4, if_neg h5, if_pos rfl]
    refine ⟨ret_bools ?_ (by rw [e]), hb⟩
    rw [e]
    rcases sgn_cases c with ⟨h, hs⟩ | ⟨h, hs⟩ | ⟨h, hs⟩ <;> rw [hs] <;> simp <;> omega
  · have e : cmpR s c = (false, false) := by unfold cmpR; rw [if_neg h1, if_neg h2, if_neg h3, if_neg h4, if_neg h5, if_neg h6]
    rw [e]
    exact Compare_none s c w (miss_cmp h1 h2 h3 h4 h5 h6)

end Go.Proofs.YtdimcddbmccniaaGreatDoor
end
section
namespace Go.Proofs.YtdimcddbmccniaaGreatDoor
open Go.RowKit

theorem zero_op (w : World) : (zeroValue 229).run Tryz.prog w = .ok .nilFunc w := by kernel_rfl

theorem look_plus (w : World) : Sem.run Tryz.prog (Instr.lookup 231 (.map (some w.heap.size)) (.string ⟨#[43]⟩) true) (w.alloc (.map (opTab 5) 5)) = .ok (.tuple #[.func (.func 251) #[] #[], .bool true]) (w.alloc (.map (opTab 5) 5)) :=
  run_look_last Tryz.underlying231 Tryz.underlying9 w (opTab 5) 5 _ 0 _ rfl

theorem look_minus (w : World) : Sem.run Tryz.prog (Instr.lookup 231 (.map (some w.heap.size)) (.string ⟨#[45]⟩) true) (w.alloc (.map (opTab 5) 5)) = .ok (.tuple #[.func (.func 252) #[] #[], .bool true]) (w.alloc (.map (opTab 5) 5)) :=
  run_look_last Tryz.underlying231 Tryz.underlying9 w (opTab 5) 5 _ 1 _ rfl

theorem look_times (w : World) : Sem.run Tryz.prog (Instr.lookup 231 (.map (some w.heap.size)) (.string ⟨#[42]⟩) true) (w.alloc (.map (opTab 5) 5)) = .ok (.tuple #[.func (.func 253) #[] #[], .bool true]) (w.alloc (.map (opTab 5) 5)) :=
  run_look_last Tryz.underlying231 Tryz.underlying9 w (opTab 5) 5 _ 2 _ rfl

theorem look_quotient (w : World) : Sem.run Tryz.prog (Instr.lookup 231 (.map (some w.heap.size)) (.string ⟨#[100, 105, 118]⟩) true) (w.alloc (.map (opTab 5) 5)) = .ok (.tuple #[.func (.func 254) #[] #[], .bool true]) (w.alloc (.map (opTab 5) 5)) :=
  run_look_last Tryz.underlying231 Tryz.underlying9 w (opTab 5) 5 _ 3 _ rfl

theorem look_rest (w : World) : Sem.run Tryz.prog (Instr.lookup 231 (.map (some w.heap.size)) (.string ⟨#[114, 101, 109]⟩) true) (w.alloc (.map (opTab 5) 5)) = .ok (.tuple #[.func (.func 255) #[] #[], .bool true]) (w.alloc (.map (opTab 5) 5)) :=
  run_look_last Tryz.underlying231 Tryz.underlying9 w (opTab 5) 5 _ 4 _ rfl

theorem miss_op {s : ByteArray} (h1 : ¬ s = sPlus) (h2 : ¬ s = sMinus) (h3 : ¬ s = sTimes) (h4 : ¬ s = sDiv) (h5 : ¬ s = sRem) : Instr.findNow .string (.string s) (opTab 5).toList 0 = some none := by
  have f : ∀ t : ByteArray, ¬ s = t → (s == t) = false := fun t h => by
    cases e : s == t
    · rfl
    · exact absurd ((MapKept.bytes_beq s t).1 e) h
  have e : (opTab 5).toList = [⟨.string sPlus, .func (.func 251) #[] #[], 0⟩, ⟨.string sMinus, .func (.func 252) #[] #[], 1⟩, ⟨.string sTimes, .func (.func 253) #[] #[], 2⟩,
    ⟨.string sDiv, .func (.func 254) #[] #[], 3⟩, ⟨.string sRem, .func (.func 255) #[] #[], 4⟩] := rfl
  rw [e]
  simp [Instr.findNow, Instr.sameNow, f _ h1, f _ h2, f _ h3, f _ h4, f _ h5]

end Go.Proofs.YtdimcddbmccniaaGreatDoor
end
section
namespace Go.Proofs.YtdimcddbmccniaaGreatDoor
open Go.RowKit

theorem readR_none {l : List UInt8} (h : dg l = 0) : readR l = (0, 0, 2) := by rw [readR, if_pos h]
theorem readR_some {l : List UInt8} {k : Nat} (h : dg l = k) (h0 : ¬ k = 0) : readR l = ((fit (held (vl l k))).1, (k : Int), (fit (held (vl l k))).2) := by
  subst h
  rw [readR, if_neg h0]
  by_cases h : 576460752303423487 < vl l (dg l)
  · rw [if_pos h, fit_no (by unfold mayB held; split <;> simp <;> omega)]
  · rw [if_neg h, fit_yes (by unfold mayB held; split <;> simp <;> omega)]
    simp only [held]
    rw [if_pos (by omega)]

set_option maxHeartbeats 1000000 in
theorem Read_any (s : ByteArray) (w : World) (hs : s.size ≤ maxLen) :
    Calls Tryz.prog 258 #[.string s] w fun e w' => e = .returned (.tuple #[.int .i64 (readR s.data.toList).1, .int .i64 (readR s.data.toList).2.1, .int .i64 (readR s.data.toList).2.2]) ∧ w = w' := by
  unfold maxLen at hs
  go_enter Tryz.func258, Tryz.ntmps258
  go_wp2
  go_loop [5, 6] (fun n i => ∃ k : Nat, k ≤ s.size ∧ k ≤ dg s.data.toList ∧ i = .int .i64 k ∧ n = .int .i64 (held (vl s.data.toList k))) (fun _ i => s.size - (intOf i).toNat)
  case atStart => exact ⟨0, Nat.zero_le _, Nat.zero_le _, rfl, by rw [vl_zero]; rfl⟩
  case round =>
    obtain ⟨k, hk, hd, rfl, rfl⟩ := hrel
    have hb := held_bd (vl s.data.toList k)
    by_cases hlt : k < s.size
    · have hlen : k < s.data.toList.length := by simpa using hlt
      by_cases hc : 48 ≤ (s[k].toNat : Int) ∧ (s[k].toNat : Int) ≤ 57
      · have hdg : isDig s[k] = true := by unfold isDig; rw [decide_eq_true_eq]; exact ⟨by have := hc.1; omega, by have := hc.2; omega⟩
        have hd1 := dg_at _ _ hlen hd hdg
        have hv : Hid (held (vl s.data.toList (k + 1)) = min (held (vl s.data.toList k) * 10 + ((s[k].toNat : Int) - 48)) 576460752303423488) := by
          have e : vl s.data.toList (k + 1) = vl s.data.toList k * 10 + (s[k].toNat - 48) := by rw [vl_succ _ _ hlen]; rfl
          rw [Hid, e, held_step _ _ (by have := hc.2; omega)]
          congr 2
          have := hc.1; omega
        obtain ⟨hc1, hc2⟩ := hc
        clear hdg
        go_wp2
        go_round
        case rel => exact ⟨k + 1, by omega, hd1, by go_num, by rw [hv.out]; congr 1; split <;> omega⟩
        case measure => simp [intOf]; omega
      · have hdg : isDig s[k] = false := by unfold isDig; rw [decide_eq_false_iff_not]; omega
        have hfin := Lib.hid (dg_stop _ _ hlen hd hdg)
        clear hdg hd
        by_cases h0 : k = 0
        · subst h0
          have hc1 : (s[0].toNat : Int) < 48 ∨ 57 < (s[0].toNat : Int) := by omega
          clear hc
          rcases hc1 with hc1 | hc1
          all_goals
            go_wp2
            go_ret3
            exact ⟨ret_three (by rw [readR_none hfin.out]) (by rw [readR_none hfin.out]) (by rw [readR_none hfin.out]), rfl⟩
        · have h00 : ((k : Int) == 0) = false := by rw [beq_eq_false_iff_ne]; omega
          have hc1 : (s[k].toNat : Int) < 48 ∨ 57 < (s[k].toNat : Int) := by omega
          clear hc
          rcases hc1 with hc1 | hc1
          all_goals
            go_wp2_with (go_at_call 266; refine (told_int _ _).mono ?_; rintro e w' ⟨rfl, rfl⟩)
            go_ret3
            exact ⟨ret_three (by rw [readR_some hfin.out h0]) (by rw [readR_some hfin.out h0]) (by rw [readR_some hfin.out h0]), rfl⟩
    · have hfin : Hid (dg s.data.toList = k) := by have := dg_le s.data.toList; simp at this; show _ = _; omega
      clear hd
      by_cases h0 : k = 0
      · subst h0
        go_wp2
        go_ret3
        exact ⟨ret_three (by rw [readR_none hfin.out]) (by rw [readR_none hfin.out]) (by rw [readR_none hfin.out]), rfl⟩
      · have h00 : ((k : Int) == 0) = false := by rw [beq_eq_false_iff_ne]; omega
        go_wp2_with (go_at_call 266; refine (told_int _ _).mono ?_; rintro e w' ⟨rfl, rfl⟩)
        go_ret3
        exact ⟨ret_three (by rw [readR_some hfin.out h0]) (by rw [readR_some hfin.out h0]) (by rw [readR_some hfin.out h0]), rfl⟩
end Go.Proofs.YtdimcddbmccniaaGreatDoor
end
section
namespace Go.Proofs.YtdimcddbmccniaaGreatDoor
open Go.RowKit

def arithB (s : ByteArray) : Bool := decide (s = sPlus ∨ s = sMinus ∨ s = sTimes ∨ s = sDiv ∨ s = sRem)

theorem Arith_plus (w : World) : Calls Tryz.prog 151 #[.string ⟨#[43]⟩] w fun e w' => e = .returned (.bool true) ∧ Below w.heap.size w w' := by
  have hl := look_plus w
  go_enter Tryz.func151, Tryz.ntmps151
  go_wp2_with (go_at_call 213; refine (operations_any _).mono ?_; rintro e w' ⟨rfl, rfl⟩)
  go_ret
  exact ⟨rfl, (Below.refl _ _).alloc (Nat.le_refl _) _⟩

theorem Arith_minus (w : World) : Calls Tryz.prog 151 #[.string ⟨#[45]⟩] w fun e w' => e = .returned (.bool true) ∧ Below w.heap.size w w' := by
  have hl := look_minus w
  go_enter Tryz.func151, Tryz.ntmps151
  go_wp2_with (go_at_call 213; refine (operations_any _).mono ?_; rintro e w' ⟨rfl, rfl⟩)
  go_ret
  exact ⟨rfl, (Below.refl _ _).alloc (Nat.le_refl _) _⟩

theorem Arith_times (w : World) : Calls Tryz.prog 151 #[.string ⟨#[42]⟩] w fun e w' => e = .returned (.bool true) ∧ Below w.heap.size w w' := by
  have hl := look_times w
  go_enter Tryz.func151, Tryz.ntmps151
  go_wp2_with (go_at_call 213; refine (operations_any _).mono ?_; rintro e w' ⟨rfl, rfl⟩)
  go_ret
  exact ⟨rfl, (Below.refl _ _).alloc (Nat.le_refl _) _⟩

theorem Arith_div (w : World) : Calls Tryz.prog 151 #[.string ⟨#[100, 105, 118]⟩] w fun e w' => e = .returned (.bool true) ∧ Below w.heap.size w w' := by
  have hl := look_quotient w
  go_enter Tryz.func151, Tryz.ntmps151
  go_wp2_with (go_at_call 213; refine (operations_any _).mono ?_; rintro e w' ⟨rfl, rfl⟩)
  go_ret
  exact ⟨rfl, (Below.refl _ _).alloc (Nat.le_refl _) _⟩

theorem Arith_rem (w : World) : Calls Tryz.prog 151 #[.string ⟨#[114, 101, 109]⟩] w fun e w' => e = .returned (.bool true) ∧ Below w.heap.size w w' := by
  have hl := look_rest w
  go_enter Tryz.func151, Tryz.ntmps151
  go_wp2_with (go_at_call 213; refine (operations_any _).mono ?_; rintro e w' ⟨rfl, rfl⟩)
  go_ret
  exact ⟨rfl, (Below.refl _ _).alloc (Nat.le_refl _) _⟩

theorem Arith_none (s : ByteArray) (w : World) (hn : Instr.findNow .string (.string s) (opTab 5).toList 0 = some none) : Calls Tryz.prog 151 #[.string s] w fun e w' => e = .returned (.bool false) ∧ Below w.heap.size w w' := by
  have hl := run_miss_last Tryz.underlying231 Tryz.underlying9 w (opTab 5) 5 s .nilFunc zero_op hn
  clear hn
  go_enter Tryz.func151, Tryz.ntmps151
  go_wp2_with (go_at_call 213; refine (operations_any _).mono ?_; rintro e w' ⟨rfl, rfl⟩)
  go_ret
  exact ⟨rfl, (Below.refl _ _).alloc (Nat.le_refl _) _⟩

theorem Arith_any (s : ByteArray) (w : World) : Calls Tryz.prog 151 #[.string s] w fun e w' => e = .returned (.bool (arithB s)) ∧ Below w.heap.size w w' := by
  by_cases h1 : s = sPlus
  · subst h1
    rw [show arithB sPlus = true from by unfold arithB; rw [decide_eq_true_eq]; simp]
    exact Arith_plus w
  by_cases h2 : s = sMinus
  · subst h2
    rw [show arithB sMinus = true from by unfold arithB; rw [decide_eq_true_eq]; simp]
    exact Arith_minus w
  by_cases h3 : s = sTimes
  · subst h3
    rw [show arithB sTimes = true from by unfold arithB; rw [decide_eq_true_eq]; simp]
    exact Arith_times w
  by_cases h4 : s = sDiv
  · subst h4
    rw [show arithB sDiv = true from by unfold arithB; rw [decide_eq_true_eq]; simp]
    exact Arith_div w
  by_cases h5 : s = sRem
  · subst h5
    rw [show arithB sRem = true from by unfold arithB; rw [decide_eq_true_eq]; simp]
    exact Arith_rem w
  · rw [show arithB s = false from by unfold arithB; rw [decide_eq_false_iff_not]; simp [h1, h2, h3, h4, h5]]
    exact Arith_none s w (miss_op h1 h2 h3 h4 h5)

end Go.Proofs.YtdimcddbmccniaaGreatDoor
end
section
set_option linter.unusedVariables false
namespace Go.Proofs.YtdimcddbmccniaaGreatDoor
open Go.RowKit

def clauseR (x : Tm) (m : Int) : Bool := fitsB x && decide (0 ≤ m) && clB m.toNat x
theorem clB_n {m : Nat} {k n : Int} {s t : ByteArray} {l : List Tm} (h : clB m (.mk k n s t l) = true) : n = (m : Int) := by
  rw [clB] at h
  simp only [Bool.and_eq_true] at h
  exact eq_of_beq h.1.1.1.2
end Go.Proofs.YtdimcddbmccniaaGreatDoor
end
section
set_option linter.unusedVariables false
namespace Go.Proofs.YtdimcddbmccniaaGreatDoor
open Go.RowKit

def BoolC (E : World → Prop) (f : Nat) (p : Tm → Bool) : Prop := ∀ (x : Tm) (v : Value) (w : World), TmAt (· < w.heap.size) w x v → x.nodes ≤ 8200 → E w →
  Calls Tryz.prog f #[v] w fun e w' => e = .returned (.bool (fitsB x && p x)) ∧ Below w.heap.size w w'
def ClauseC (E : World → Prop) : Prop := ∀ (x : Tm) (m : Int) (v : Value) (w : World), TmAt (· < w.heap.size) w x v → x.nodes ≤ 8200 → E w →
  Calls Tryz.prog 219 #[v, .int .i64 m] w fun e w' => e = .returned (.bool (clauseR x m)) ∧ Below w.heap.size w w'
structure NBx (E : World → Prop) (w V : World) (g : Nat) (c : Array Value) : Prop where
  below : Below w.heap.size w V
  box : V.heap[g]? = some (.cells c 25 (0, 0))
  env : E V
theorem NBx.under {E : World → Prop} (hE : ∀ w w', E w → Below w.heap.size w w' → E w') {w V V' : World} {g : Nat} {c : Array Value} (h : NBx E w V g c) (b : Below V.heap.size V V') : NBx E w V' g c :=
  ⟨h.below.trans (b.mono h.below.size), (b.block _ (heap_lt h.box)).trans h.box, hE _ _ h.env b⟩
theorem nbx_of {E : World → Prop} (hE : ∀ w w', E w → Below w.heap.size w w' → E w') {w : World} (hw : E w) (c : Array Value) : NBx E w (w.alloc (.cells c 25)) w.heap.size c :=
  ⟨(Below.refl _ _).alloc (Nat.le_refl _) _, block_alloc _ _, hE _ _ hw ((Below.refl _ _).alloc (Nat.le_refl _) _)⟩
theorem TmAt.laterN {w V : World} {x : Tm} {v : Value} (h : TmAt (· < w.heap.size) w x v) (hb : Below w.heap.size w V) : TmAt (· < V.heap.size) V x v :=
  h.keep (fun b hb' => hb.block b hb') (fun b hb' => Nat.lt_of_lt_of_le hb' hb.size)
end Go.Proofs.YtdimcddbmccniaaGreatDoor
end
section
set_option linter.unusedVariables false
namespace Go.Proofs.YtdimcddbmccniaaGreatDoor
open Go.RowKit
open Go.Lib (itoa)

mutual
def txE : Tm → List UInt8
  | .mk k n s t l =>
    if k = 5 ∨ k = 7 then s.data.toList
    else if k = 6 then itoa n
    else if k = 8 then [91, 93]
    else if k = 9 then [91] ++ txSep [124] l ++ [93]
    else if k = 10 then [123] ++ txSep [44, 32] l ++ [125]
    else if k = 11 then [40] ++ txSep ([32] ++ s.data.toList ++ [32]) l ++ [41]
    else if k = 12 ∨ k = 14 then s.data.toList ++ [40] ++ txSep [44, 32] l ++ [41]
    else if k = 13 then [40] ++ txSep [32, 61, 32] l ++ [41]
    else if k = 15 then s.data.toList ++ [58] ++ t.data.toList ++ [40] ++ txSep [44, 32] l ++ [41]
    else if k = 16 then txApp l
    else if k = 17 then [102, 117, 110, 32] ++ s.data.toList ++ [58] ++ t.data.toList ++ [47] ++ itoa n
    else if k = 18 then [99, 97, 115, 101, 32] ++ txCase [32, 111, 102, 32] l ++ [32, 101, 110, 100]
    else if k = 19 then [116, 114, 121, 32] ++ txCase [32, 99, 97, 116, 99, 104, 32] l ++ [32, 101, 110, 100]
    else [114, 101, 99, 101, 105, 118, 101] ++ (if n = 1 then txRecv [32] l else [32] ++ txCls l) ++ [32, 101, 110, 100]
def txSep (sep : List UInt8) : List Tm → List UInt8
  | [] => []
  | x :: l => txE x ++ ((if l.isEmpty then [] else sep) ++ txSep sep l)
def txApp : List Tm → List UInt8
  | [] => []
  | x :: l => txE x ++ [40] ++ txSep [44, 32] l ++ [41]
def txCase (w : List UInt8) : List Tm → List UInt8
  | [] => []
  | e :: l => txE e ++ w ++ txCls l
def txCls : List Tm → List UInt8
  | [] => []
  | c :: l => txCl c ++ ((if l.isEmpty then [] else [59, 32]) ++ txCls l)
def txCl : Tm → List UInt8
  | .mk _ n _ _ l => txParts [58] [] n.toNat l
def txParts (sep close : List UInt8) : Nat → List Tm → List UInt8
  | 0, g :: l => close ++ txGuard g ++ [32, 45, 62, 32] ++ txSep [44, 32] l
  | m + 1, p :: l => txE p ++ ((if m = 0 then [] else sep) ++ txParts sep close m l)
  | _, [] => []
def txGuard : Tm → List UInt8
  | .mk _ _ _ _ l => if l.isEmpty then [] else [32, 119, 104, 101, 110, 32] ++ txSep [44, 32] l
def txRecv (sep : List UInt8) : List Tm → List UInt8
  | [] => []
  | c :: l => if l.isEmpty then [32, 97, 102, 116, 101, 114, 32] ++ txAfter c else sep ++ txCl c ++ txRecv [59, 32] l
def txAfter : Tm → List UInt8
  | .mk _ _ _ _ l => txThen l
def txThen : List Tm → List UInt8
  | [] => []
  | e :: l => txE e ++ [32, 45, 62, 32] ++ txSep [44, 32] l
end
def addV (acc : List ByteArray) (y : Tm) : List ByteArray := if (y.k == 5 && !(y.s.data.toList == [95]) && !(acc.any fun b => b.data.toList == y.s.data.toList)) = true then acc ++ [y.s] else acc
def varsL (x : Tm) : List ByteArray := if fitsB x = true then x.pre.foldl addV [] else []

def SRow (V : World) (A : Option Addr) (L : List ByteArray) : Prop := ∀ (j : Nat) (b : ByteArray), L[j]? = some b → ∃ ad, A = some ad ∧ ad.block < V.heap.size ∧ V.cell? (ad.add j) = some (.string b)
def Szd (x : Tm) : Prop := ∀ y ∈ x.pre, y.s.size ≤ 281474976710656
def VarsC (E : World → Prop) : Prop := ∀ (x : Tm) (v : Value) (w : World), TmAt (· < w.heap.size) w x v → x.nodes ≤ 8200 → Szd x → E w →
  Calls Tryz.prog 215 #[v] w fun e w' => ∃ A cap, e = .returned (.slice A (varsL x).length cap) ∧ SRow w' A (varsL x) ∧ Below w.heap.size w w'

end Go.Proofs.YtdimcddbmccniaaGreatDoor
end
