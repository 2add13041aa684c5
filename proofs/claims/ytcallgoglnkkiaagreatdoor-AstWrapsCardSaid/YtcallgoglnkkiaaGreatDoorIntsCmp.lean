/- Contract of ints.Compare: for any text and any number. -/
import Derived.Test.YtcallgoglnkkiaaGreatDoorInts
namespace Go.Proofs.YtcallgoglnkkiaaGreatDoor
open Go.RowKit

def sEq : ByteArray := ⟨#[61, 58, 61]⟩
def sNe : ByteArray := ⟨#[61, 47, 61]⟩
def sLt : ByteArray := ⟨#[60]⟩
def sLe : ByteArray := ⟨#[61, 60]⟩
def sGt : ByteArray := ⟨#[62]⟩
def sGe : ByteArray := ⟨#[62, 61]⟩

/-- What Compare answers. -/
def cmpR (s : ByteArray) (c : Int) : Bool × Bool :=
  if s = sEq then (decide (c = 0), true) else
  if s = sNe then (decide (¬ c = 0), true) else
  if s = sLt then (decide (c < 0), true) else
  if s = sLe then (decide (c ≤ 0), true) else
  if s = sGt then (decide (0 < c), true) else
  if s = sGe then (decide (0 ≤ c), true) else
  (false, false)

/-- The sign of a number. -/
def sgn (c : Int) : Int := if c < 0 then -1 else if 0 < c then 1 else 0

theorem signOf_any (c : Int) (w : World) : Calls Tryz.prog 127 #[.int .i64 c] w fun e w' => e = .returned (.int .i64 (sgn c)) ∧ w = w' := by
  by_cases h1 : c < 0
  · have H := Lib.hid (show sgn c = -1 by rw [sgn, if_pos h1])
    go_enter Tryz.func127, Tryz.ntmps127
    go_wp2
    go_ret
    exact ⟨ret_int (by rw [H.out]), rfl⟩
  by_cases h2 : 0 < c
  · have H := Lib.hid (show sgn c = 1 by rw [sgn, if_neg h1, if_pos h2])
    go_enter Tryz.func127, Tryz.ntmps127
    go_wp2
    go_ret
    exact ⟨ret_int (by rw [H.out]), rfl⟩
  · have H := Lib.hid (show sgn c = 0 by rw [sgn, if_neg h1, if_neg h2])
    go_enter Tryz.func127, Tryz.ntmps127
    go_wp2
    go_ret
    exact ⟨ret_int (by rw [H.out]), rfl⟩

/-- The first k entries of the table of comparisons. -/
def cmpTab (k : Nat) : Array MapEntry := (#[⟨.string ⟨#[61, 58, 61]⟩, .func (.func 132) #[] #[], 0⟩, ⟨.string ⟨#[61, 47, 61]⟩, .func (.func 133) #[] #[], 1⟩, ⟨.string ⟨#[60]⟩, .func (.func 134) #[] #[], 2⟩, ⟨.string ⟨#[61, 60]⟩, .func (.func 135) #[] #[], 3⟩, ⟨.string ⟨#[62]⟩, .func (.func 136) #[] #[], 4⟩, ⟨.string ⟨#[62, 61]⟩, .func (.func 137) #[] #[], 5⟩] : Array MapEntry).take k

theorem comparisons_any (w : World) : Calls Tryz.prog 126 #[] w fun e w' => e = .returned (.map (some w.heap.size)) ∧ w' = w.alloc (.map (cmpTab 6) 6) := by
  have hmm := @run_makeMap Tryz.prog
  have i1 : Sem.run Tryz.prog (Instr.mapUpdate 129 (.map (some w.heap.size)) (.string ⟨#[61, 58, 61]⟩) (.func (.func 132) #[] #[])) (w.alloc (.map #[] 0)) = .ok () (w.alloc (.map (cmpTab 1) 1)) :=
    run_put_last Tryz.underlying129 Tryz.underlying9 w (cmpTab 0) 0 _ _ rfl
  have i2 : Sem.run Tryz.prog (Instr.mapUpdate 129 (.map (some w.heap.size)) (.string ⟨#[61, 47, 61]⟩) (.func (.func 133) #[] #[])) (w.alloc (.map (cmpTab 1) 1)) = .ok () (w.alloc (.map (cmpTab 2) 2)) :=
    run_put_last Tryz.underlying129 Tryz.underlying9 w (cmpTab 1) 1 _ _ rfl
  have i3 : Sem.run Tryz.prog (Instr.mapUpdate 129 (.map (some w.heap.size)) (.string ⟨#[60]⟩) (.func (.func 134) #[] #[])) (w.alloc (.map (cmpTab 2) 2)) = .ok () (w.alloc (.map (cmpTab 3) 3)) :=
    run_put_last Tryz.underlying129 Tryz.underlying9 w (cmpTab 2) 2 _ _ rfl
  have i4 : Sem.run Tryz.prog (Instr.mapUpdate 129 (.map (some w.heap.size)) (.string ⟨#[61, 60]⟩) (.func (.func 135) #[] #[])) (w.alloc (.map (cmpTab 3) 3)) = .ok () (w.alloc (.map (cmpTab 4) 4)) :=
    run_put_last Tryz.underlying129 Tryz.underlying9 w (cmpTab 3) 3 _ _ rfl
  have i5 : Sem.run Tryz.prog (Instr.mapUpdate 129 (.map (some w.heap.size)) (.string ⟨#[62]⟩) (.func (.func 136) #[] #[])) (w.alloc (.map (cmpTab 4) 4)) = .ok () (w.alloc (.map (cmpTab 5) 5)) :=
    run_put_last Tryz.underlying129 Tryz.underlying9 w (cmpTab 4) 4 _ _ rfl
  have i6 : Sem.run Tryz.prog (Instr.mapUpdate 129 (.map (some w.heap.size)) (.string ⟨#[62, 61]⟩) (.func (.func 137) #[] #[])) (w.alloc (.map (cmpTab 5) 5)) = .ok () (w.alloc (.map (cmpTab 6) 6)) :=
    run_put_last Tryz.underlying129 Tryz.underlying9 w (cmpTab 5) 5 _ _ rfl
  go_enter Tryz.func126, Tryz.ntmps126
  go_wp2
  go_ret
  exact ⟨rfl, rfl⟩

theorem zero_cmp (w : World) : (zeroValue 127).run Tryz.prog w = .ok .nilFunc w := by kernel_rfl

theorem cmp_1 (x : Int) (w : World) : Calls Tryz.prog 132 #[.int .i64 x] w fun e w' => e = .returned (.bool (x == 0)) ∧ w = w' := by
  go_enter Tryz.func132, Tryz.ntmps132
  go_wp2
  go_ret
  exact ⟨rfl, rfl⟩

theorem Compare_1 (c : Int) (w : World) : Calls Tryz.prog 118 #[.string ⟨#[61, 58, 61]⟩, .int .i64 c] w fun e w' => e = .returned (.tuple #[.bool (sgn c == 0), .bool true]) ∧ Below w.heap.size w w' := by
  have hl : Sem.run Tryz.prog (Instr.lookup 129 (.map (some w.heap.size)) (.string ⟨#[61, 58, 61]⟩) true) (w.alloc (.map (cmpTab 6) 6)) = .ok (.tuple #[.func (.func 132) #[] #[], .bool true]) (w.alloc (.map (cmpTab 6) 6)) :=
    run_look_last Tryz.underlying129 Tryz.underlying9 w (cmpTab 6) 6 _ 0 _ rfl
  go_enter Tryz.func118, Tryz.ntmps118
  go_wp2_with (first
    | (go_at_call 126; refine (comparisons_any _).mono ?_; rintro e w' ⟨rfl, rfl⟩)
    | (go_at_call 127; refine (signOf_any _ _).mono ?_; rintro e w' ⟨rfl, rfl⟩)
    | (go_at_call 132; refine (cmp_1 _ _).mono ?_; rintro e w' ⟨rfl, rfl⟩))
  go_ret2
  exact ⟨rfl, (Below.refl _ _).alloc (Nat.le_refl _) _⟩

theorem cmp_2 (x : Int) (w : World) : Calls Tryz.prog 133 #[.int .i64 x] w fun e w' => e = .returned (.bool (x != 0)) ∧ w = w' := by
  go_enter Tryz.func133, Tryz.ntmps133
  go_wp2
  go_ret
  exact ⟨rfl, rfl⟩

theorem Compare_2 (c : Int) (w : World) : Calls Tryz.prog 118 #[.string ⟨#[61, 47, 61]⟩, .int .i64 c] w fun e w' => e = .returned (.tuple #[.bool (sgn c != 0), .bool true]) ∧ Below w.heap.size w w' := by
  have hl : Sem.run Tryz.prog (Instr.lookup 129 (.map (some w.heap.size)) (.string ⟨#[61, 47, 61]⟩) true) (w.alloc (.map (cmpTab 6) 6)) = .ok (.tuple #[.func (.func 133) #[] #[], .bool true]) (w.alloc (.map (cmpTab 6) 6)) :=
    run_look_last Tryz.underlying129 Tryz.underlying9 w (cmpTab 6) 6 _ 1 _ rfl
  go_enter Tryz.func118, Tryz.ntmps118
  go_wp2_with (first
    | (go_at_call 126; refine (comparisons_any _).mono ?_; rintro e w' ⟨rfl, rfl⟩)
    | (go_at_call 127; refine (signOf_any _ _).mono ?_; rintro e w' ⟨rfl, rfl⟩)
    | (go_at_call 133; refine (cmp_2 _ _).mono ?_; rintro e w' ⟨rfl, rfl⟩))
  go_ret2
  exact ⟨rfl, (Below.refl _ _).alloc (Nat.le_refl _) _⟩

theorem cmp_3 (x : Int) (w : World) : Calls Tryz.prog 134 #[.int .i64 x] w fun e w' => e = .returned (.bool (x == -1)) ∧ w = w' := by
  go_enter Tryz.func134, Tryz.ntmps134
  go_wp2
  go_ret
  exact ⟨rfl, rfl⟩

theorem Compare_3 (c : Int) (w : World) : Calls Tryz.prog 118 #[.string ⟨#[60]⟩, .int .i64 c] w fun e w' => e = .returned (.tuple #[.bool (sgn c == -1), .bool true]) ∧ Below w.heap.size w w' := by
  have hl : Sem.run Tryz.prog (Instr.lookup 129 (.map (some w.heap.size)) (.string ⟨#[60]⟩) true) (w.alloc (.map (cmpTab 6) 6)) = .ok (.tuple #[.func (.func 134) #[] #[], .bool true]) (w.alloc (.map (cmpTab 6) 6)) :=
    run_look_last Tryz.underlying129 Tryz.underlying9 w (cmpTab 6) 6 _ 2 _ rfl
  go_enter Tryz.func118, Tryz.ntmps118
  go_wp2_with (first
    | (go_at_call 126; refine (comparisons_any _).mono ?_; rintro e w' ⟨rfl, rfl⟩)
    | (go_at_call 127; refine (signOf_any _ _).mono ?_; rintro e w' ⟨rfl, rfl⟩)
    | (go_at_call 134; refine (cmp_3 _ _).mono ?_; rintro e w' ⟨rfl, rfl⟩))
  go_ret2
  exact ⟨rfl, (Below.refl _ _).alloc (Nat.le_refl _) _⟩

theorem cmp_4 (x : Int) (w : World) : Calls Tryz.prog 135 #[.int .i64 x] w fun e w' => e = .returned (.bool (x != 1)) ∧ w = w' := by
  go_enter Tryz.func135, Tryz.ntmps135
  go_wp2
  go_ret
  exact ⟨rfl, rfl⟩

theorem Compare_4 (c : Int) (w : World) : Calls Tryz.prog 118 #[.string ⟨#[61, 60]⟩, .int .i64 c] w fun e w' => e = .returned (.tuple #[.bool (sgn c != 1), .bool true]) ∧ Below w.heap.size w w' := by
  have hl : Sem.run Tryz.prog (Instr.lookup 129 (.map (some w.heap.size)) (.string ⟨#[61, 60]⟩) true) (w.alloc (.map (cmpTab 6) 6)) = .ok (.tuple #[.func (.func 135) #[] #[], .bool true]) (w.alloc (.map (cmpTab 6) 6)) :=
    run_look_last Tryz.underlying129 Tryz.underlying9 w (cmpTab 6) 6 _ 3 _ rfl
  go_enter Tryz.func118, Tryz.ntmps118
  go_wp2_with (first
    | (go_at_call 126; refine (comparisons_any _).mono ?_; rintro e w' ⟨rfl, rfl⟩)
    | (go_at_call 127; refine (signOf_any _ _).mono ?_; rintro e w' ⟨rfl, rfl⟩)
    | (go_at_call 135; refine (cmp_4 _ _).mono ?_; rintro e w' ⟨rfl, rfl⟩))
  go_ret2
  exact ⟨rfl, (Below.refl _ _).alloc (Nat.le_refl _) _⟩

theorem cmp_5 (x : Int) (w : World) : Calls Tryz.prog 136 #[.int .i64 x] w fun e w' => e = .returned (.bool (x == 1)) ∧ w = w' := by
  go_enter Tryz.func136, Tryz.ntmps136
  go_wp2
  go_ret
  exact ⟨rfl, rfl⟩

theorem Compare_5 (c : Int) (w : World) : Calls Tryz.prog 118 #[.string ⟨#[62]⟩, .int .i64 c] w fun e w' => e = .returned (.tuple #[.bool (sgn c == 1), .bool true]) ∧ Below w.heap.size w w' := by
  have hl : Sem.run Tryz.prog (Instr.lookup 129 (.map (some w.heap.size)) (.string ⟨#[62]⟩) true) (w.alloc (.map (cmpTab 6) 6)) = .ok (.tuple #[.func (.func 136) #[] #[], .bool true]) (w.alloc (.map (cmpTab 6) 6)) :=
    run_look_last Tryz.underlying129 Tryz.underlying9 w (cmpTab 6) 6 _ 4 _ rfl
  go_enter Tryz.func118, Tryz.ntmps118
  go_wp2_with (first
    | (go_at_call 126; refine (comparisons_any _).mono ?_; rintro e w' ⟨rfl, rfl⟩)
    | (go_at_call 127; refine (signOf_any _ _).mono ?_; rintro e w' ⟨rfl, rfl⟩)
    | (go_at_call 136; refine (cmp_5 _ _).mono ?_; rintro e w' ⟨rfl, rfl⟩))
  go_ret2
  exact ⟨rfl, (Below.refl _ _).alloc (Nat.le_refl _) _⟩

theorem cmp_6 (x : Int) (w : World) : Calls Tryz.prog 137 #[.int .i64 x] w fun e w' => e = .returned (.bool (x != -1)) ∧ w = w' := by
  go_enter Tryz.func137, Tryz.ntmps137
  go_wp2
  go_ret
  exact ⟨rfl, rfl⟩

theorem Compare_6 (c : Int) (w : World) : Calls Tryz.prog 118 #[.string ⟨#[62, 61]⟩, .int .i64 c] w fun e w' => e = .returned (.tuple #[.bool (sgn c != -1), .bool true]) ∧ Below w.heap.size w w' := by
  have hl : Sem.run Tryz.prog (Instr.lookup 129 (.map (some w.heap.size)) (.string ⟨#[62, 61]⟩) true) (w.alloc (.map (cmpTab 6) 6)) = .ok (.tuple #[.func (.func 137) #[] #[], .bool true]) (w.alloc (.map (cmpTab 6) 6)) :=
    run_look_last Tryz.underlying129 Tryz.underlying9 w (cmpTab 6) 6 _ 5 _ rfl
  go_enter Tryz.func118, Tryz.ntmps118
  go_wp2_with (first
    | (go_at_call 126; refine (comparisons_any _).mono ?_; rintro e w' ⟨rfl, rfl⟩)
    | (go_at_call 127; refine (signOf_any _ _).mono ?_; rintro e w' ⟨rfl, rfl⟩)
    | (go_at_call 137; refine (cmp_6 _ _).mono ?_; rintro e w' ⟨rfl, rfl⟩))
  go_ret2
  exact ⟨rfl, (Below.refl _ _).alloc (Nat.le_refl _) _⟩

theorem Compare_none (s : ByteArray) (c : Int) (w : World) (hn : Instr.findNow .string (.string s) (cmpTab 6).toList 0 = some none) : Calls Tryz.prog 118 #[.string s, .int .i64 c] w fun e w' => e = .returned (.tuple #[.bool false, .bool false]) ∧ Below w.heap.size w w' := by
  have hl := run_miss_last Tryz.underlying129 Tryz.underlying9 w (cmpTab 6) 6 s .nilFunc zero_cmp hn
  clear hn
  go_enter Tryz.func118, Tryz.ntmps118
  go_wp2_with (go_at_call 126; refine (comparisons_any _).mono ?_; rintro e w' ⟨rfl, rfl⟩)
  go_ret2
  exact ⟨rfl, (Below.refl _ _).alloc (Nat.le_refl _) _⟩

theorem ret_bools {a a' b b' : Bool} (h : a = a') (h' : b = b') : Ending.returned (.tuple #[.bool a, .bool b]) = .returned (.tuple #[.bool a', .bool b']) := by rw [h, h']

theorem miss_cmp {s : ByteArray} (h1 : ¬ s = sEq) (h2 : ¬ s = sNe) (h3 : ¬ s = sLt) (h4 : ¬ s = sLe) (h5 : ¬ s = sGt) (h6 : ¬ s = sGe) : Instr.findNow .string (.string s) (cmpTab 6).toList 0 = some none := by
  have f : ∀ t : ByteArray, ¬ s = t → (s == t) = false := fun t h => by
    cases e : s == t
    · rfl
    · exact absurd ((MapKept.bytes_beq s t).1 e) h
  have e : (cmpTab 6).toList = [⟨.string sEq, .func (.func 132) #[] #[], 0⟩, ⟨.string sNe, .func (.func 133) #[] #[], 1⟩, ⟨.string sLt, .func (.func 134) #[] #[], 2⟩, ⟨.string sLe, .func (.func 135) #[] #[], 3⟩, ⟨.string sGt, .func (.func 136) #[] #[], 4⟩, ⟨.string sGe, .func (.func 137) #[] #[], 5⟩] := rfl
  rw [e]
  simp [Instr.findNow, Instr.sameNow, f _ h1, f _ h2, f _ h3, f _ h4, f _ h5, f _ h6]

theorem sgn_cases (c : Int) : (c < 0 ∧ sgn c = -1) ∨ (c = 0 ∧ sgn c = 0) ∨ (0 < c ∧ sgn c = 1) := by
  unfold sgn; split
  · exact .inl ⟨by assumption, rfl⟩
  · split
    · exact .inr (.inr ⟨by assumption, rfl⟩)
    · exact .inr (.inl ⟨by omega, rfl⟩)

theorem Compare_any (s : ByteArray) (c : Int) (w : World) :
    Calls Tryz.prog 118 #[.string s, .int .i64 c] w fun e w' => e = .returned (.tuple #[.bool (cmpR s c).1, .bool (cmpR s c).2]) ∧ Below w.heap.size w w' := by
  by_cases h1 : s = sEq
  · subst h1
    refine (Compare_1 c w).mono ?_
    rintro e w' ⟨rfl, hb⟩
    have e : cmpR sEq c = (decide (c = 0), true) := by unfold cmpR; rw [if_pos rfl]
    refine ⟨ret_bools ?_ (by rw [e]), hb⟩
    rw [e]
    rcases sgn_cases c with ⟨h, hs⟩ | ⟨h, hs⟩ | ⟨h, hs⟩ <;> rw [hs] <;> simp <;> omega
  by_cases h2 : s = sNe
  · subst h2
    refine (Compare_2 c w).mono ?_
    rintro e w' ⟨rfl, hb⟩
    have e : cmpR sNe c = (decide (¬ c = 0), true) := by unfold cmpR; rw [if_neg h1, if_pos rfl]
    refine ⟨ret_bools ?_ (by rw [e]), hb⟩
    rw [e]
    rcases sgn_cases c with ⟨h, hs⟩ | ⟨h, hs⟩ | ⟨h, hs⟩ <;> rw [hs] <;> simp <;> omega
  by_cases h3 : s = sLt
  · subst h3
    refine (Compare_3 c w).mono ?_
    rintro e w' ⟨rfl, hb⟩
    have e : cmpR sLt c = (decide (c < 0), true) := by unfold cmpR; rw [if_neg h1, if_neg h2, if_pos rfl]
    refine ⟨ret_bools ?_ (by rw [e]), hb⟩
    rw [e]
    rcases sgn_cases c with ⟨h, hs⟩ | ⟨h, hs⟩ | ⟨h, hs⟩ <;> rw [hs] <;> simp <;> omega
  by_cases h4 : s = sLe
  · subst h4
    refine (Compare_4 c w).mono ?_
    rintro e w' ⟨rfl, hb⟩
    have e : cmpR sLe c = (decide (c ≤ 0), true) := by unfold cmpR; rw [if_neg h1, if_neg h2, if_neg h3, if_pos rfl]
    refine ⟨ret_bools ?_ (by rw [e]), hb⟩
    rw [e]
    rcases sgn_cases c with ⟨h, hs⟩ | ⟨h, hs⟩ | ⟨h, hs⟩ <;> rw [hs] <;> simp <;> omega
  by_cases h5 : s = sGt
  · subst h5
    refine (Compare_5 c w).mono ?_
    rintro e w' ⟨rfl, hb⟩
    have e : cmpR sGt c = (decide (0 < c), true) := by unfold cmpR; rw [if_neg h1, if_neg h2, if_neg h3, if_neg h4, if_pos rfl]
    refine ⟨ret_bools ?_ (by rw [e]), hb⟩
    rw [e]
    rcases sgn_cases c with ⟨h, hs⟩ | ⟨h, hs⟩ | ⟨h, hs⟩ <;> rw [hs] <;> simp <;> omega
  by_cases h6 : s = sGe
  · subst h6
    refine (Compare_6 c w).mono ?_
    rintro e w' ⟨rfl, hb⟩
    have e : cmpR sGe c = (decide (0 ≤ c), true) := by unfold cmpR; rw [if_neg h1, if_neg h2, if_neg h3, if_neg h4, if_neg h5, if_pos rfl]
    refine ⟨ret_bools ?_ (by rw [e]), hb⟩
    rw [e]
    rcases sgn_cases c with ⟨h, hs⟩ | ⟨h, hs⟩ | ⟨h, hs⟩ <;> rw [hs] <;> simp <;> omega
  · have e : cmpR s c = (false, false) := by unfold cmpR; rw [if_neg h1, if_neg h2, if_neg h3, if_neg h4, if_neg h5, if_neg h6]
    rw [e]
    exact Compare_none s c w (miss_cmp h1 h2 h3 h4 h5 h6)

end Go.Proofs.YtcallgoglnkkiaaGreatDoor
