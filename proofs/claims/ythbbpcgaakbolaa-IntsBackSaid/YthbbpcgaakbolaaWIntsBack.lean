/- The walk of IntsBack: sums taken apart, quotients and rests, products exchanged. -/
import Derived.Test.YthbbpcgaakbolaaWIntsUnits
namespace Go.Proofs.Ythbbpcgaakbolaa
open Go.RowKit

set_option maxHeartbeats 2000000 in
theorem back_bad (a b : Int) (h : mayB a = false ∨ mayB b = false) (w : World) :
    Calls Try.prog 4 #[.int .i64 a, .int .i64 b] w fun e w' => e = .returned (.bool true) ∧ Below w.heap.size w w' := by
  have hd := Lib.hid (show doR ⟨#[43]⟩ a b = (0, 2) from by unfold doR; rw [if_pos h])
  cases ha : mayB a
  · clear h
    go_enter Try.func4, Try.ntmps4
    go_wp2_with (first
      | (go_at_call 15; refine (May_any _ _).mono ?_; rintro e w' ⟨rfl, rfl⟩)
      | (go_at_call 9; refine (Do_at _ _ _ _ _ _ hd.out).mono ?_; rintro e w1 ⟨rfl, b1⟩)
      | (go_at_call 8; refine (wakes_any _).mono ?_; rintro e w2 ⟨rfl, b2⟩))
    go_ret
    exact ⟨rfl, b1.trans (b2.mono b1.size)⟩
  · have hb : mayB b = false := by rcases h with h | h; exact absurd h (by rw [ha]; decide); exact h
    clear h
    go_enter Try.func4, Try.ntmps4
    go_wp2_with (first
      | (go_at_call 15; refine (May_any _ _).mono ?_; rintro e w' ⟨rfl, rfl⟩)
      | (go_at_call 9; refine (Do_at _ _ _ _ _ _ hd.out).mono ?_; rintro e w1 ⟨rfl, b1⟩)
      | (go_at_call 8; refine (wakes_any _).mono ?_; rintro e w2 ⟨rfl, b2⟩))
    go_ret
    exact ⟨rfl, b1.trans (b2.mono b1.size)⟩

/-- How a rest stands to what is divided and to the divisor. -/
def RestOk (a b r : Int) : Prop := (r = 0 ∨ (r < 0 ∧ a < 0) ∨ (0 < r ∧ 0 < a)) ∧ ((0 < b ∧ r < b ∧ -b < r) ∨ (b < 0 ∧ r < -b ∧ b < r))

theorem rest_ok (a b : Int) (hb : ¬ b = 0) : RestOk a b (a.tmod b) := by
  have h := rem_lt a hb
  have hs : a.tmod b = 0 ∨ (a.tmod b < 0 ∧ a < 0) ∨ (0 < a.tmod b ∧ 0 < a) := by
    by_cases h0 : 0 ≤ a
    · have := Int.tmod_nonneg b h0
      by_cases ha : a = 0
      · subst ha; exact .inl (by simp)
      · by_cases hr : a.tmod b = 0
        · exact .inl hr
        · exact .inr (.inr ⟨by omega, by omega⟩)
    · have e : a.tmod b = -((-a).tmod b) := by rw [Int.neg_tmod, Int.neg_neg]
      have := Int.tmod_nonneg b (show 0 ≤ -a by omega)
      by_cases hr : a.tmod b = 0
      · exact .inl hr
      · exact .inr (.inl ⟨by omega, by omega⟩)
  exact ⟨hs, by omega⟩

set_option maxHeartbeats 4000000 in
theorem back_ok (a b s p g d r : Int) (w : World) (ha : mayB a = true) (hb : mayB b = true) (hr : RestOk a b r) (kS : Hid (doR ⟨#[43]⟩ a b = (s, 0))) (kB : Hid (doR ⟨#[45]⟩ s b = (a, 0)))
    (kP : Hid (doR ⟨#[42]⟩ a b = (p, g))) (kQ : Hid (doR ⟨#[42]⟩ b a = (p, g))) (kD : Hid (doR ⟨#[100, 105, 118]⟩ a b = (d, 0))) (kR : Hid (doR ⟨#[114, 101, 109]⟩ a b = (r, 0))) (kT : Hid (doR ⟨#[42]⟩ d b = (a - r, 0))) :
    Calls Try.prog 4 #[.int .i64 a, .int .i64 b] w fun e w' => e = .returned (.bool true) ∧ Below w.heap.size w w' := by
  have hA := may_bd ha
  have hB := may_bd hb
  obtain ⟨h1, h2⟩ := hr
  rcases h1 with h1 | h1 | h1 <;> rcases h2 with h2 | h2
  all_goals
    try subst h1
    go_enter Try.func4, Try.ntmps4
    go_wp2_with (go_at_call 15; refine (May_any _ _).mono ?_; rintro e w' ⟨rfl, rfl⟩)
    go_wp2_with fail
    refine (Do_at _ _ _ _ _ _ kS.out).mono ?_
    rintro e w1 ⟨rfl, b1⟩
    go_wp2_with fail
    refine (Do_at _ _ _ _ _ _ kB.out).mono ?_
    rintro e w2 ⟨rfl, b2⟩
    go_wp2_with fail
    refine (Do_at _ _ _ _ _ _ kP.out).mono ?_
    rintro e w3 ⟨rfl, b3⟩
    go_wp2_with fail
    refine (Do_at _ _ _ _ _ _ kQ.out).mono ?_
    rintro e w4 ⟨rfl, b4⟩
    go_wp2_with fail
    refine (Do_at _ _ _ _ _ _ kD.out).mono ?_
    rintro e w5 ⟨rfl, b5⟩
    go_wp2_with fail
    refine (Do_at _ _ _ _ _ _ kR.out).mono ?_
    rintro e w6 ⟨rfl, b6⟩
    go_wp2_with fail
    refine (Do_at _ _ _ _ _ _ kT.out).mono ?_
    rintro e w7 ⟨rfl, b7⟩
    go_wp2_with fail
    refine (wakes_any _).mono ?_
    rintro e w8 ⟨rfl, b8⟩
    go_wp2_with fail
    go_ret
    have c1 := b1
    have c2 := c1.trans (b2.mono c1.size)
    have c3 := c2.trans (b3.mono c2.size)
    have c4 := c3.trans (b4.mono c3.size)
    have c5 := c4.trans (b5.mono c4.size)
    have c6 := c5.trans (b6.mono c5.size)
    have c7 := c6.trans (b7.mono c6.size)
    have c8 := c7.trans (b8.mono c7.size)
    exact ⟨rfl, c8⟩

set_option maxHeartbeats 4000000 in
theorem back_ok0 (a s p g : Int) (w : World) (ha : mayB a = true) (kS : Hid (doR ⟨#[43]⟩ a 0 = (s, 0))) (kB : Hid (doR ⟨#[45]⟩ s 0 = (a, 0)))
    (kP : Hid (doR ⟨#[42]⟩ a 0 = (p, g))) (kQ : Hid (doR ⟨#[42]⟩ 0 a = (p, g))) (kD : Hid (doR ⟨#[100, 105, 118]⟩ a 0 = (0, 10))) (kR : Hid (doR ⟨#[114, 101, 109]⟩ a 0 = (0, 10))) :
    Calls Try.prog 4 #[.int .i64 a, .int .i64 0] w fun e w' => e = .returned (.bool true) ∧ Below w.heap.size w w' := by
  have hb : mayB 0 = true := by decide
  go_enter Try.func4, Try.ntmps4
  go_wp2_with (go_at_call 15; refine (May_any _ _).mono ?_; rintro e w' ⟨rfl, rfl⟩)
  go_wp2_with fail
  refine (Do_at _ _ _ _ _ _ kS.out).mono ?_
  rintro e w1 ⟨rfl, b1⟩
  go_wp2_with fail
  refine (Do_at _ _ _ _ _ _ kB.out).mono ?_
  rintro e w2 ⟨rfl, b2⟩
  go_wp2_with fail
  refine (Do_at _ _ _ _ _ _ kP.out).mono ?_
  rintro e w3 ⟨rfl, b3⟩
  go_wp2_with fail
  refine (Do_at _ _ _ _ _ _ kQ.out).mono ?_
  rintro e w4 ⟨rfl, b4⟩
  go_wp2_with fail
  refine (Do_at _ _ _ _ _ _ kD.out).mono ?_
  rintro e w5 ⟨rfl, b5⟩
  go_wp2_with fail
  refine (Do_at _ _ _ _ _ _ kR.out).mono ?_
  rintro e w6 ⟨rfl, b6⟩
  go_wp2_with fail
  refine (wakes_any _).mono ?_
  rintro e w7 ⟨rfl, b7⟩
  go_wp2_with fail
  go_ret
  have c1 := b1
  have c2 := c1.trans (b2.mono c1.size)
  have c3 := c2.trans (b3.mono c2.size)
  have c4 := c3.trans (b4.mono c3.size)
  have c5 := c4.trans (b5.mono c4.size)
  have c6 := c5.trans (b6.mono c5.size)
  have c7 := c6.trans (b7.mono c6.size)
  exact ⟨rfl, c7⟩

set_option maxHeartbeats 4000000 in
theorem back_long (a b p g d r : Int) (w : World) (ha : mayB a = true) (hb : mayB b = true) (hr : RestOk a b r) (kS : Hid (doR ⟨#[43]⟩ a b = (0, 11)))
    (kP : Hid (doR ⟨#[42]⟩ a b = (p, g))) (kQ : Hid (doR ⟨#[42]⟩ b a = (p, g))) (kD : Hid (doR ⟨#[100, 105, 118]⟩ a b = (d, 0))) (kR : Hid (doR ⟨#[114, 101, 109]⟩ a b = (r, 0))) (kT : Hid (doR ⟨#[42]⟩ d b = (a - r, 0))) :
    Calls Try.prog 4 #[.int .i64 a, .int .i64 b] w fun e w' => e = .returned (.bool true) ∧ Below w.heap.size w w' := by
  have hA := may_bd ha
  have hB := may_bd hb
  obtain ⟨h1, h2⟩ := hr
  rcases h1 with h1 | h1 | h1 <;> rcases h2 with h2 | h2
  all_goals
    try subst h1
    go_enter Try.func4, Try.ntmps4
    go_wp2_with (go_at_call 15; refine (May_any _ _).mono ?_; rintro e w' ⟨rfl, rfl⟩)
    go_wp2_with fail
    refine (Do_at _ _ _ _ _ _ kS.out).mono ?_
    rintro e w1 ⟨rfl, b1⟩
    go_wp2_with fail
    refine (Do_at _ _ _ _ _ _ kP.out).mono ?_
    rintro e w2 ⟨rfl, b2⟩
    go_wp2_with fail
    refine (Do_at _ _ _ _ _ _ kQ.out).mono ?_
    rintro e w3 ⟨rfl, b3⟩
    go_wp2_with fail
    refine (Do_at _ _ _ _ _ _ kD.out).mono ?_
    rintro e w4 ⟨rfl, b4⟩
    go_wp2_with fail
    refine (Do_at _ _ _ _ _ _ kR.out).mono ?_
    rintro e w5 ⟨rfl, b5⟩
    go_wp2_with fail
    refine (Do_at _ _ _ _ _ _ kT.out).mono ?_
    rintro e w6 ⟨rfl, b6⟩
    go_wp2_with fail
    refine (wakes_any _).mono ?_
    rintro e w7 ⟨rfl, b7⟩
    go_wp2_with fail
    go_ret
    have c1 := b1
    have c2 := c1.trans (b2.mono c1.size)
    have c3 := c2.trans (b3.mono c2.size)
    have c4 := c3.trans (b4.mono c3.size)
    have c5 := c4.trans (b5.mono c4.size)
    have c6 := c5.trans (b6.mono c5.size)
    have c7 := c6.trans (b7.mono c6.size)
    exact ⟨rfl, c7⟩

set_option maxHeartbeats 4000000 in
theorem back_long0 (a p g : Int) (w : World) (ha : mayB a = true) (kS : Hid (doR ⟨#[43]⟩ a 0 = (0, 11)))
    (kP : Hid (doR ⟨#[42]⟩ a 0 = (p, g))) (kQ : Hid (doR ⟨#[42]⟩ 0 a = (p, g))) (kD : Hid (doR ⟨#[100, 105, 118]⟩ a 0 = (0, 10))) (kR : Hid (doR ⟨#[114, 101, 109]⟩ a 0 = (0, 10))) :
    Calls Try.prog 4 #[.int .i64 a, .int .i64 0] w fun e w' => e = .returned (.bool true) ∧ Below w.heap.size w w' := by
  have hb : mayB 0 = true := by decide
  go_enter Try.func4, Try.ntmps4
  go_wp2_with (go_at_call 15; refine (May_any _ _).mono ?_; rintro e w' ⟨rfl, rfl⟩)
  go_wp2_with fail
  refine (Do_at _ _ _ _ _ _ kS.out).mono ?_
  rintro e w1 ⟨rfl, b1⟩
  go_wp2_with fail
  refine (Do_at _ _ _ _ _ _ kP.out).mono ?_
  rintro e w2 ⟨rfl, b2⟩
  go_wp2_with fail
  refine (Do_at _ _ _ _ _ _ kQ.out).mono ?_
  rintro e w3 ⟨rfl, b3⟩
  go_wp2_with fail
  refine (Do_at _ _ _ _ _ _ kD.out).mono ?_
  rintro e w4 ⟨rfl, b4⟩
  go_wp2_with fail
  refine (Do_at _ _ _ _ _ _ kR.out).mono ?_
  rintro e w5 ⟨rfl, b5⟩
  go_wp2_with fail
  refine (wakes_any _).mono ?_
  rintro e w6 ⟨rfl, b6⟩
  go_wp2_with fail
  go_ret
  have c1 := b1
  have c2 := c1.trans (b2.mono c1.size)
  have c3 := c2.trans (b3.mono c2.size)
  have c4 := c3.trans (b4.mono c3.size)
  have c5 := c4.trans (b5.mono c4.size)
  have c6 := c5.trans (b6.mono c5.size)
  exact ⟨rfl, c6⟩

theorem doR_in {a b : Int} (ha : mayB a = true) (hb : mayB b = true) : ¬ (mayB a = false ∨ mayB b = false) := by rw [ha, hb]; decide
theorem do_plus {a b : Int} (ha : mayB a = true) (hb : mayB b = true) : doR ⟨#[43]⟩ a b = fit (a + b) := by
  show doR sPlus a b = _; unfold doR; rw [if_neg (doR_in ha hb), if_pos rfl]
theorem do_minus {a b : Int} (ha : mayB a = true) (hb : mayB b = true) : doR ⟨#[45]⟩ a b = fit (a - b) := by
  show doR sMinus a b = _; unfold doR; rw [if_neg (doR_in ha hb), if_neg (by decide), if_pos rfl]
theorem do_times {a b : Int} (ha : mayB a = true) (hb : mayB b = true) : doR ⟨#[42]⟩ a b = fit (a * b) := by
  show doR sTimes a b = _; unfold doR; rw [if_neg (doR_in ha hb), if_neg (by decide), if_neg (by decide), if_pos rfl]
theorem do_div {a b : Int} (ha : mayB a = true) (hb : mayB b = true) : doR ⟨#[100, 105, 118]⟩ a b = if b = 0 then (0, 10) else fit (a.tdiv b) := by
  show doR sDiv a b = _; unfold doR; rw [if_neg (doR_in ha hb), if_neg (by decide), if_neg (by decide), if_neg (by decide), if_pos rfl]
theorem do_rem {a b : Int} (ha : mayB a = true) (hb : mayB b = true) : doR ⟨#[114, 101, 109]⟩ a b = if b = 0 then (0, 10) else fit (a.tmod b) := by
  show doR sRem a b = _; unfold doR; rw [if_neg (doR_in ha hb), if_neg (by decide), if_neg (by decide), if_neg (by decide), if_neg (by decide), if_pos rfl]

set_option maxRecDepth 100000 in
set_option maxHeartbeats 4000000 in
/-- The least number by -1: the one quotient that is no integer. -/
theorem back_least (w : World) : Calls Try.prog 4 #[.int .i64 (-576460752303423488), .int .i64 (-1)] w fun e w' => e = .returned (.bool true) ∧ Below w.heap.size w w' := by
  have ha : mayB (-576460752303423488) = true := by decide
  have hb : mayB (-1) = true := by decide
  have kS : Hid (doR ⟨#[43]⟩ (-576460752303423488) (-1) = (0, 11)) := by show _ = _; decide +kernel
  have kP : Hid (doR ⟨#[42]⟩ (-576460752303423488) (-1) = (0, 11)) := by show _ = _; decide +kernel
  have kQ : Hid (doR ⟨#[42]⟩ (-1) (-576460752303423488) = (0, 11)) := by show _ = _; decide +kernel
  have kD : Hid (doR ⟨#[100, 105, 118]⟩ (-576460752303423488) (-1) = (0, 11)) := by show _ = _; decide +kernel
  have kR : Hid (doR ⟨#[114, 101, 109]⟩ (-576460752303423488) (-1) = (0, 0)) := by show _ = _; decide +kernel
  go_enter Try.func4, Try.ntmps4
  go_wp2_with (go_at_call 15; refine (May_any _ _).mono ?_; rintro e w' ⟨rfl, rfl⟩)
  go_wp2_with fail
  refine (Do_at _ _ _ _ _ _ kS.out).mono ?_
  rintro e w1 ⟨rfl, b1⟩
  go_wp2_with fail
  refine (Do_at _ _ _ _ _ _ kP.out).mono ?_
  rintro e w2 ⟨rfl, b2⟩
  go_wp2_with fail
  refine (Do_at _ _ _ _ _ _ kQ.out).mono ?_
  rintro e w3 ⟨rfl, b3⟩
  go_wp2_with fail
  refine (Do_at _ _ _ _ _ _ kD.out).mono ?_
  rintro e w4 ⟨rfl, b4⟩
  go_wp2_with fail
  refine (Do_at _ _ _ _ _ _ kR.out).mono ?_
  rintro e w5 ⟨rfl, b5⟩
  go_wp2_with fail
  refine (wakes_any _).mono ?_
  rintro e w6 ⟨rfl, b6⟩
  go_wp2_with fail
  go_ret
  have c2 := b1.trans (b2.mono b1.size)
  have c3 := c2.trans (b3.mono c2.size)
  have c4 := c3.trans (b4.mono c3.size)
  have c5 := c4.trans (b5.mono c4.size)
  exact ⟨rfl, c5.trans (b6.mono c5.size)⟩

theorem walk_IntsBack (a0 : Int) (a1 : Int) (_w0 : (Lit.int .i64 a0).wf = true) (_w1 : (Lit.int .i64 a1).wf = true) (w : World) :
    Calls Try.prog 4 #[.int .i64 a0, .int .i64 a1] w fun e w' => e = .returned (.bool true) ∧ Below w.heap.size w w' := by
  by_cases hbad : mayB a0 = false ∨ mayB a1 = false
  · exact back_bad a0 a1 hbad w
  have ⟨ha, hb⟩ : mayB a0 = true ∧ mayB a1 = true := by simpa using hbad
  have hA := may_bd ha
  have hB := may_bd hb
  have hP := do_times ha hb
  have hQ : doR ⟨#[42]⟩ a1 a0 = fit (a0 * a1) := by rw [do_times hb ha, Int.mul_comm]
  have hS := do_plus ha hb
  have hD := do_div ha hb
  have hR := do_rem ha hb
  have hBk : mayB (a0 + a1) = true → doR ⟨#[45]⟩ (a0 + a1) a1 = (a0, 0) := fun h => by rw [do_minus h hb, show a0 + a1 - a1 = a0 from by omega, fit_yes ha]
  by_cases hb0 : a1 = 0
  · subst hb0
    rw [if_pos rfl] at hD hR
    have e : mayB (a0 + 0) = true := by rw [Int.add_zero]; exact ha
    exact back_ok0 a0 _ _ _ w ha (by show _ = _; rw [hS, fit_yes e]) (by show _ = _; exact hBk e) hP hQ hD hR
  rw [if_neg hb0] at hD hR
  have hs := quo_small a0 a1
  have hm : mayB (a0.tmod a1) = true := by
    obtain ⟨_, h2⟩ := rest_ok a0 a1 hb0
    exact may_mk (by omega) (by omega)
  rw [fit_yes hm] at hR
  by_cases hd : mayB (a0.tdiv a1) = true
  · rw [fit_yes hd] at hD
    have hq := quo_rem a0 a1
    have hT : doR ⟨#[42]⟩ (a0.tdiv a1) a1 = (a0 - a0.tmod a1, 0) := by
      rw [do_times hd hb, Int.mul_comm, show a1 * a0.tdiv a1 = a0 - a0.tmod a1 from by omega, fit_yes]
      have ho := rest_ok a0 a1 hb0
      obtain ⟨h1, _⟩ := ho
      have h3 := Int.natAbs_tmod a0 a1
      have h4 := Nat.mod_le a0.natAbs a1.natAbs
      rw [← h3] at h4
      clear h3
      exact may_mk (by omega) (by omega)
    cases hsum : mayB (a0 + a1)
    · exact back_long a0 a1 _ _ _ _ w ha hb (rest_ok a0 a1 hb0) (by show _ = _; rw [hS, fit_no hsum]) hP hQ hD hR hT
    · exact back_ok a0 a1 _ _ _ _ _ w ha hb (rest_ok a0 a1 hb0) (by show _ = _; rw [hS, fit_yes hsum]) (hBk hsum) hP hQ hD hR hT
  · have hd' := may_no (by simpa using hd)
    have hn : (a0.tdiv a1).natAbs = a0.natAbs / a1.natAbs := Int.natAbs_tdiv a0 a1
    have h1 : a1 = -1 := by
      by_cases h2 : a1.natAbs = 1
      · by_cases h3 : a1 = 1
        · subst h3; rw [Int.tdiv_one] at hd'; omega
        · omega
      · exfalso
        have h2' : 2 ≤ a1.natAbs := by omega
        have := Nat.div_le_div_left h2' (show 0 < 2 by decide) (a := a0.natAbs)
        omega
    subst h1
    rw [Int.tdiv_neg, Int.tdiv_one] at hd'
    obtain rfl : a0 = -576460752303423488 := by omega
    exact back_least w

end Go.Proofs.Ythbbpcgaakbolaa
