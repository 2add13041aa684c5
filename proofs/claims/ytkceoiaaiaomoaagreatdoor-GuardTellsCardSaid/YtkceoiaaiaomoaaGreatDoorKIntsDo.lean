/- Contract of ints.Do: for any text and any two numbers. -/
import Derived.Test.YtkceoiaaiaomoaaGreatDoorKInts
namespace Go.Proofs.YtkceoiaaiaomoaaGreatDoor
open Go.RowKit

theorem zero_op (w : World) : (zeroValue 283).run Tryz.prog w = .ok .nilFunc w := by kernel_rfl

theorem look_plus (w : World) : Sem.run Tryz.prog (Instr.lookup 285 (.map (some w.heap.size)) (.string ⟨#[43]⟩) true) (w.alloc (.map (opTab 5) 5)) = .ok (.tuple #[.func (.func 307) #[] #[], .bool true]) (w.alloc (.map (opTab 5) 5)) :=
  run_look_last Tryz.underlying285 Tryz.underlying9 w (opTab 5) 5 _ 0 _ rfl

theorem Do_plus (a b x y : Int) (r : Value) (w : World) (ha : mayB a = true) (hb : mayB b = true)
    (hF : ∀ w, Calls Tryz.prog 307 #[.int .i64 a, .int .i64 b] w fun e w' => e = .returned r ∧ w = w')
    (hT : ∀ w, Calls Tryz.prog 292 #[r] w fun e w' => e = .returned (.tuple #[.int .i64 x, .int .i64 y]) ∧ w = w') :
    Calls Tryz.prog 242 #[.string ⟨#[43]⟩, .int .i64 a, .int .i64 b] w fun e w' => e = .returned (.tuple #[.int .i64 x, .int .i64 y]) ∧ Below w.heap.size w w' := by
  have HT := Lib.hid hT
  have HF := Lib.hid hF
  clear hT hF
  have hl := look_plus w
  go_enter Tryz.func242, Tryz.ntmps242
  go_wp2_with (first
    | (go_at_call 291; refine (operations_any _).mono ?_; rintro e w' ⟨rfl, rfl⟩)
    | (go_at_call 263; refine (IMay_any _ _).mono ?_; rintro e w' ⟨rfl, rfl⟩)
    | (go_at_call 307; refine (HF.out _).mono ?_; rintro e w' ⟨rfl, rfl⟩)
    | (go_at_call 292; refine (HT.out _).mono ?_; rintro e w' ⟨rfl, rfl⟩))
  go_ret2
  exact ⟨rfl, (Below.refl _ _).alloc (Nat.le_refl _) _⟩

theorem look_minus (w : World) : Sem.run Tryz.prog (Instr.lookup 285 (.map (some w.heap.size)) (.string ⟨#[45]⟩) true) (w.alloc (.map (opTab 5) 5)) = .ok (.tuple #[.func (.func 308) #[] #[], .bool true]) (w.alloc (.map (opTab 5) 5)) :=
  run_look_last Tryz.underlying285 Tryz.underlying9 w (opTab 5) 5 _ 1 _ rfl

theorem Do_minus (a b x y : Int) (r : Value) (w : World) (ha : mayB a = true) (hb : mayB b = true)
    (hF : ∀ w, Calls Tryz.prog 308 #[.int .i64 a, .int .i64 b] w fun e w' => e = .returned r ∧ w = w')
    (hT : ∀ w, Calls Tryz.prog 292 #[r] w fun e w' => e = .returned (.tuple #[.int .i64 x, .int .i64 y]) ∧ w = w') :
    Calls Tryz.prog 242 #[.string ⟨#[45]⟩, .int .i64 a, .int .i64 b] w fun e w' => e = .returned (.tuple #[.int .i64 x, .int .i64 y]) ∧ Below w.heap.size w w' := by
  have HT := Lib.hid hT
  have HF := Lib.hid hF
  clear hT hF
  have hl := look_minus w
  go_enter Tryz.func242, Tryz.ntmps242
  go_wp2_with (first
    | (go_at_call 291; refine (operations_any _).mono ?_; rintro e w' ⟨rfl, rfl⟩)
    | (go_at_call 263; refine (IMay_any _ _).mono ?_; rintro e w' ⟨rfl, rfl⟩)
    | (go_at_call 308; refine (HF.out _).mono ?_; rintro e w' ⟨rfl, rfl⟩)
    | (go_at_call 292; refine (HT.out _).mono ?_; rintro e w' ⟨rfl, rfl⟩))
  go_ret2
  exact ⟨rfl, (Below.refl _ _).alloc (Nat.le_refl _) _⟩

theorem look_times (w : World) : Sem.run Tryz.prog (Instr.lookup 285 (.map (some w.heap.size)) (.string ⟨#[42]⟩) true) (w.alloc (.map (opTab 5) 5)) = .ok (.tuple #[.func (.func 309) #[] #[], .bool true]) (w.alloc (.map (opTab 5) 5)) :=
  run_look_last Tryz.underlying285 Tryz.underlying9 w (opTab 5) 5 _ 2 _ rfl

theorem Do_times (a b x y : Int) (r : Value) (w : World) (ha : mayB a = true) (hb : mayB b = true)
    (hF : ∀ w, Calls Tryz.prog 309 #[.int .i64 a, .int .i64 b] w fun e w' => e = .returned r ∧ w = w')
    (hT : ∀ w, Calls Tryz.prog 292 #[r] w fun e w' => e = .returned (.tuple #[.int .i64 x, .int .i64 y]) ∧ w = w') :
    Calls Tryz.prog 242 #[.string ⟨#[42]⟩, .int .i64 a, .int .i64 b] w fun e w' => e = .returned (.tuple #[.int .i64 x, .int .i64 y]) ∧ Below w.heap.size w w' := by
  have HT := Lib.hid hT
  have HF := Lib.hid hF
  clear hT hF
  have hl := look_times w
  go_enter Tryz.func242, Tryz.ntmps242
  go_wp2_with (first
    | (go_at_call 291; refine (operations_any _).mono ?_; rintro e w' ⟨rfl, rfl⟩)
    | (go_at_call 263; refine (IMay_any _ _).mono ?_; rintro e w' ⟨rfl, rfl⟩)
    | (go_at_call 309; refine (HF.out _).mono ?_; rintro e w' ⟨rfl, rfl⟩)
    | (go_at_call 292; refine (HT.out _).mono ?_; rintro e w' ⟨rfl, rfl⟩))
  go_ret2
  exact ⟨rfl, (Below.refl _ _).alloc (Nat.le_refl _) _⟩

theorem look_quotient (w : World) : Sem.run Tryz.prog (Instr.lookup 285 (.map (some w.heap.size)) (.string ⟨#[100, 105, 118]⟩) true) (w.alloc (.map (opTab 5) 5)) = .ok (.tuple #[.func (.func 310) #[] #[], .bool true]) (w.alloc (.map (opTab 5) 5)) :=
  run_look_last Tryz.underlying285 Tryz.underlying9 w (opTab 5) 5 _ 3 _ rfl

theorem Do_quotient (a b x y : Int) (r : Value) (w : World) (ha : mayB a = true) (hb : mayB b = true)
    (hF : ∀ w, Calls Tryz.prog 310 #[.int .i64 a, .int .i64 b] w fun e w' => e = .returned r ∧ w = w')
    (hT : ∀ w, Calls Tryz.prog 292 #[r] w fun e w' => e = .returned (.tuple #[.int .i64 x, .int .i64 y]) ∧ w = w') :
    Calls Tryz.prog 242 #[.string ⟨#[100, 105, 118]⟩, .int .i64 a, .int .i64 b] w fun e w' => e = .returned (.tuple #[.int .i64 x, .int .i64 y]) ∧ Below w.heap.size w w' := by
  have HT := Lib.hid hT
  have HF := Lib.hid hF
  clear hT hF
  have hl := look_quotient w
  go_enter Tryz.func242, Tryz.ntmps242
  go_wp2_with (first
    | (go_at_call 291; refine (operations_any _).mono ?_; rintro e w' ⟨rfl, rfl⟩)
    | (go_at_call 263; refine (IMay_any _ _).mono ?_; rintro e w' ⟨rfl, rfl⟩)
    | (go_at_call 310; refine (HF.out _).mono ?_; rintro e w' ⟨rfl, rfl⟩)
    | (go_at_call 292; refine (HT.out _).mono ?_; rintro e w' ⟨rfl, rfl⟩))
  go_ret2
  exact ⟨rfl, (Below.refl _ _).alloc (Nat.le_refl _) _⟩

theorem look_rest (w : World) : Sem.run Tryz.prog (Instr.lookup 285 (.map (some w.heap.size)) (.string ⟨#[114, 101, 109]⟩) true) (w.alloc (.map (opTab 5) 5)) = .ok (.tuple #[.func (.func 311) #[] #[], .bool true]) (w.alloc (.map (opTab 5) 5)) :=
  run_look_last Tryz.underlying285 Tryz.underlying9 w (opTab 5) 5 _ 4 _ rfl

theorem Do_rest (a b x y : Int) (r : Value) (w : World) (ha : mayB a = true) (hb : mayB b = true)
    (hF : ∀ w, Calls Tryz.prog 311 #[.int .i64 a, .int .i64 b] w fun e w' => e = .returned r ∧ w = w')
    (hT : ∀ w, Calls Tryz.prog 292 #[r] w fun e w' => e = .returned (.tuple #[.int .i64 x, .int .i64 y]) ∧ w = w') :
    Calls Tryz.prog 242 #[.string ⟨#[114, 101, 109]⟩, .int .i64 a, .int .i64 b] w fun e w' => e = .returned (.tuple #[.int .i64 x, .int .i64 y]) ∧ Below w.heap.size w w' := by
  have HT := Lib.hid hT
  have HF := Lib.hid hF
  clear hT hF
  have hl := look_rest w
  go_enter Tryz.func242, Tryz.ntmps242
  go_wp2_with (first
    | (go_at_call 291; refine (operations_any _).mono ?_; rintro e w' ⟨rfl, rfl⟩)
    | (go_at_call 263; refine (IMay_any _ _).mono ?_; rintro e w' ⟨rfl, rfl⟩)
    | (go_at_call 311; refine (HF.out _).mono ?_; rintro e w' ⟨rfl, rfl⟩)
    | (go_at_call 292; refine (HT.out _).mono ?_; rintro e w' ⟨rfl, rfl⟩))
  go_ret2
  exact ⟨rfl, (Below.refl _ _).alloc (Nat.le_refl _) _⟩

theorem Do_none (s : ByteArray) (a b : Int) (w : World) (hn : Instr.findNow .string (.string s) (opTab 5).toList 0 = some none) :
    Calls Tryz.prog 242 #[.string s, .int .i64 a, .int .i64 b] w fun e w' => e = .returned (.tuple #[.int .i64 0, .int .i64 2]) ∧ Below w.heap.size w w' := by
  have hl := run_miss_last Tryz.underlying285 Tryz.underlying9 w (opTab 5) 5 s .nilFunc zero_op hn
  clear hn
  go_enter Tryz.func242, Tryz.ntmps242
  go_wp2_with (go_at_call 291; refine (operations_any _).mono ?_; rintro e w' ⟨rfl, rfl⟩)
  go_ret2
  exact ⟨rfl, (Below.refl _ _).alloc (Nat.le_refl _) _⟩

theorem Do_bad_a (s : ByteArray) (a b : Int) (w : World) (i : Nat) (v : Value) (hn : Instr.findNow .string (.string s) (opTab 5).toList 0 = some (some (i, v))) (ha : mayB a = false) :
    Calls Tryz.prog 242 #[.string s, .int .i64 a, .int .i64 b] w fun e w' => e = .returned (.tuple #[.int .i64 0, .int .i64 2]) ∧ Below w.heap.size w w' := by
  have hl := run_look_last Tryz.underlying285 Tryz.underlying9 w (opTab 5) 5 s i v hn
  clear hn
  go_enter Tryz.func242, Tryz.ntmps242
  go_wp2_with (first
    | (go_at_call 291; refine (operations_any _).mono ?_; rintro e w' ⟨rfl, rfl⟩)
    | (go_at_call 263; refine (IMay_any _ _).mono ?_; rintro e w' ⟨rfl, rfl⟩))
  go_ret2
  exact ⟨rfl, (Below.refl _ _).alloc (Nat.le_refl _) _⟩

theorem Do_bad_b (s : ByteArray) (a b : Int) (w : World) (i : Nat) (v : Value) (hn : Instr.findNow .string (.string s) (opTab 5).toList 0 = some (some (i, v))) (ha : mayB a = true) (hb : mayB b = false) :
    Calls Tryz.prog 242 #[.string s, .int .i64 a, .int .i64 b] w fun e w' => e = .returned (.tuple #[.int .i64 0, .int .i64 2]) ∧ Below w.heap.size w w' := by
  have hl := run_look_last Tryz.underlying285 Tryz.underlying9 w (opTab 5) 5 s i v hn
  clear hn
  go_enter Tryz.func242, Tryz.ntmps242
  go_wp2_with (first
    | (go_at_call 291; refine (operations_any _).mono ?_; rintro e w' ⟨rfl, rfl⟩)
    | (go_at_call 263; refine (IMay_any _ _).mono ?_; rintro e w' ⟨rfl, rfl⟩))
  go_ret2
  exact ⟨rfl, (Below.refl _ _).alloc (Nat.le_refl _) _⟩

theorem miss_op {s : ByteArray} (h1 : ¬ s = sPlus) (h2 : ¬ s = sMinus) (h3 : ¬ s = sTimes) (h4 : ¬ s = sDiv) (h5 : ¬ s = sRem) : Instr.findNow .string (.string s) (opTab 5).toList 0 = some none := by
  have f : ∀ t : ByteArray, ¬ s = t → (s == t) = false := fun t h => by
    cases e : s == t
    · rfl
    · exact absurd ((MapKept.bytes_beq s t).1 e) h
  have e : (opTab 5).toList = [⟨.string sPlus, .func (.func 307) #[] #[], 0⟩, ⟨.string sMinus, .func (.func 308) #[] #[], 1⟩, ⟨.string sTimes, .func (.func 309) #[] #[], 2⟩,
    ⟨.string sDiv, .func (.func 310) #[] #[], 3⟩, ⟨.string sRem, .func (.func 311) #[] #[], 4⟩] := rfl
  rw [e]
  simp [Instr.findNow, Instr.sameNow, f _ h1, f _ h2, f _ h3, f _ h4, f _ h5]

theorem wrap_in {n : Int} (h1 : -9223372036854775808 ≤ n) (h2 : n ≤ 9223372036854775807) : wrap64 n = n := by unfold wrap64; omega

theorem Do_any (s : ByteArray) (a b : Int) (w : World) :
    Calls Tryz.prog 242 #[.string s, .int .i64 a, .int .i64 b] w fun e w' => e = .returned (.tuple #[.int .i64 (doR s a b).1, .int .i64 (doR s a b).2]) ∧ Below w.heap.size w w' := by
  have bad : (mayB a = false ∨ mayB b = false) → (∃ i v, Instr.findNow .string (.string s) (opTab 5).toList 0 = some (some (i, v))) →
      Calls Tryz.prog 242 #[.string s, .int .i64 a, .int .i64 b] w fun e w' => e = .returned (.tuple #[.int .i64 (doR s a b).1, .int .i64 (doR s a b).2]) ∧ Below w.heap.size w w' := by
    intro hab ⟨i, v, hn⟩
    have e : doR s a b = (0, 2) := by unfold doR; rw [if_pos hab]
    rw [e]
    cases ha : mayB a
    · exact Do_bad_a s a b w i v hn ha
    · exact Do_bad_b s a b w i v hn ha (by simpa [ha] using hab)
  by_cases h1 : s = sPlus
  · subst h1
    by_cases hab : mayB a = false ∨ mayB b = false
    · exact bad hab ⟨0, _, rfl⟩
    · have ⟨ha, hb⟩ : mayB a = true ∧ mayB b = true := by simpa using hab
      have e : doR sPlus a b = fit (wrap64 (a + b)) := by
        have := may_bd ha; have := may_bd hb
        rw [wrap_in (by omega) (by omega)]; unfold doR; rw [if_neg hab, if_pos rfl]
      rw [e]
      exact Do_plus a b _ _ _ w ha hb (fun w => plus_any a b w) (fun w => told_int _ w)
  by_cases h2 : s = sMinus
  · subst h2
    by_cases hab : mayB a = false ∨ mayB b = false
    · exact bad hab ⟨1, _, rfl⟩
    · have ⟨ha, hb⟩ : mayB a = true ∧ mayB b = true := by simpa using hab
      have e : doR sMinus a b = fit (wrap64 (a - b)) := by
        have := may_bd ha; have := may_bd hb
        rw [wrap_in (by omega) (by omega)]; unfold doR; rw [if_neg hab, if_neg h1, if_pos rfl]
      rw [e]
      exact Do_minus a b _ _ _ w ha hb (fun w => minus_any a b w) (fun w => told_int _ w)
  by_cases h3 : s = sTimes
  · subst h3
    by_cases hab : mayB a = false ∨ mayB b = false
    · exact bad hab ⟨2, _, rfl⟩
    · have ⟨ha, hb⟩ : mayB a = true ∧ mayB b = true := by simpa using hab
      have e : doR sTimes a b = fit (a * b) := by unfold doR; rw [if_neg hab, if_neg h1, if_neg h2, if_pos rfl]
      rw [e]
      by_cases hb0 : b = 0
      · subst hb0
        rw [Int.mul_zero]
        exact Do_times a 0 _ _ _ w ha hb (fun w => times_0 a w) (fun w => told_int _ w)
      by_cases hq : (wrap64 (a * b)).tdiv b = a
      · rw [← times_back hb hb0 hq]
        exact Do_times a b _ _ _ w ha hb (fun w => times_ok a b w hb0 hq ha) (fun w => told_int _ w)
      · have hno : mayB (a * b) = false := by
          cases h : mayB (a * b)
          · rfl
          · exact absurd (by rw [times_fits h, Int.mul_tdiv_cancel _ hb0]) hq
        have hq' : (wrap64 ((wrap64 (a * b)).tdiv b) != a) = true := by
          rw [bne_iff_ne]; intro h
          apply hq
          have hA := may_bd ha
          have hw : -9223372036854775808 ≤ wrap64 (a * b) ∧ wrap64 (a * b) ≤ 9223372036854775807 := by unfold wrap64; omega
          have hB := quo_bd (wrap64 (a * b)) b hw
          rcases hB with hB | hB
          · rw [wrap_in hB.1 hB.2] at h; exact h
          · rw [hB] at h; unfold wrap64 at h; omega
        rw [fit_no hno]
        exact Do_times a b _ _ _ w ha hb (fun w => times_long a b w hb0 hq') (fun w => told_err _ w)
  by_cases h4 : s = sDiv
  · subst h4
    by_cases hab : mayB a = false ∨ mayB b = false
    · exact bad hab ⟨3, _, rfl⟩
    · have ⟨ha, hb⟩ : mayB a = true ∧ mayB b = true := by simpa using hab
      have e : doR sDiv a b = if b = 0 then (0, 10) else fit (a.tdiv b) := by unfold doR; rw [if_neg hab, if_neg h1, if_neg h2, if_neg h3, if_pos rfl]
      rw [e]
      by_cases hb0 : b = 0
      · subst hb0
        rw [if_pos rfl]
        exact Do_quotient a 0 _ _ _ w ha hb (fun w => quo_0 a w) (fun w => told_err _ w)
      · rw [if_neg hb0]
        have hA := may_bd ha
        have hw : wrap64 (a.tdiv b) = a.tdiv b := by
          have hB := quo_bd a b (by omega)
          rcases hB with hB | hB
          · exact wrap_in hB.1 hB.2
          · have := quo_small a b; rw [hB] at this; omega
        rw [← hw]
        exact Do_quotient a b _ _ _ w ha hb (fun w => quo_any a b w hb0) (fun w => told_int _ w)
  by_cases h5 : s = sRem
  · subst h5
    by_cases hab : mayB a = false ∨ mayB b = false
    · exact bad hab ⟨4, _, rfl⟩
    · have ⟨ha, hb⟩ : mayB a = true ∧ mayB b = true := by simpa using hab
      have e : doR sRem a b = if b = 0 then (0, 10) else fit (a.tmod b) := by unfold doR; rw [if_neg hab, if_neg h1, if_neg h2, if_neg h3, if_neg h4, if_pos rfl]
      rw [e]
      by_cases hb0 : b = 0
      · subst hb0
        rw [if_pos rfl]
        exact Do_rest a 0 _ _ _ w ha hb (fun w => rem_0 a w) (fun w => told_err _ w)
      · rw [if_neg hb0]
        exact Do_rest a b _ _ _ w ha hb (fun w => rem_any a b w hb0) (fun w => told_int _ w)
  · have e : doR s a b = (0, 2) := by
      unfold doR
      by_cases hab : mayB a = false ∨ mayB b = false
      · rw [if_pos hab]
      · rw [if_neg hab, if_neg h1, if_neg h2, if_neg h3, if_neg h4, if_neg h5]
    rw [e]
    exact Do_none s a b w (miss_op h1 h2 h3 h4 h5)

end Go.Proofs.YtkceoiaaiaomoaaGreatDoor
