/- Contracts of package ints: what each of its functions comes to. -/
import Derived.Test.YthbbpcgaakbolaaIntsMaps
import Derived.Test.YthbbpcgaakbolaaIntsFn
import Derived.Lib.Hide
import Derived.WalkLawsBesides
import Derived.WalkSpells
import Derived.Outline
namespace Go.Proofs.Ythbbpcgaakbolaa
open Go.RowKit

theorem ret_bool {a b : Bool} (h : a = b) : Ending.returned (.bool a) = .returned (.bool b) := by rw [h]
theorem ret_int {k : IntKind} {a b : Int} (h : a = b) : Ending.returned (.int k a) = .returned (.int k b) := by rw [h]

theorem ret_two {k l : IntKind} {a a' b b' : Int} (h : a = a') (h' : b = b') : Ending.returned (.tuple #[.int k a, .int l b]) = .returned (.tuple #[.int k a', .int l b']) := by rw [h, h']

theorem May_any (n : Int) (w : World) : Calls Try.prog 15 #[.int .i64 n] w fun e w' => e = .returned (.bool (mayB n)) ∧ w = w' := by
  have hd : mayB n = (decide (-576460752303423488 ≤ n) && decide (n ≤ 576460752303423487)) := by unfold mayB; rw [Bool.eq_iff_iff]; simp
  have H := Lib.hid hd
  clear hd
  by_cases h1 : -576460752303423488 ≤ n
  · go_enter Try.func15, Try.ntmps15
    go_wp2
    go_ret
    exact ⟨ret_bool (by rw [H.out]; simp [h1]), rfl⟩
  · go_enter Try.func15, Try.ntmps15
    go_wp2
    go_ret
    exact ⟨ret_bool (by rw [H.out]; simp; omega), rfl⟩

theorem quo_0 (a : Int) (w : World) : Calls Try.prog 27 #[.int .i64 a, .int .i64 0] w fun e w' => e = .returned (.iface 23 (.int .i64 10)) ∧ w = w' := by
  go_enter Try.func27, Try.ntmps27
  go_wp2
  go_ret
  exact ⟨rfl, rfl⟩

theorem rem_0 (a : Int) (w : World) : Calls Try.prog 28 #[.int .i64 a, .int .i64 0] w fun e w' => e = .returned (.iface 23 (.int .i64 10)) ∧ w = w' := by
  go_enter Try.func28, Try.ntmps28
  go_wp2
  go_ret
  exact ⟨rfl, rfl⟩

theorem quo_any (a b : Int) (w : World) (hb : ¬ b = 0) : Calls Try.prog 27 #[.int .i64 a, .int .i64 b] w fun e w' => e = .returned (.iface 3 (.int .i64 (wrap64 (a.tdiv b)))) ∧ w = w' := by
  go_enter Try.func27, Try.ntmps27
  go_wp2
  go_ret
  exact ⟨rfl, rfl⟩

theorem rem_any (a b : Int) (w : World) (hb : ¬ b = 0) : Calls Try.prog 28 #[.int .i64 a, .int .i64 b] w fun e w' => e = .returned (.iface 3 (.int .i64 (a.tmod b))) ∧ w = w' := by
  go_enter Try.func28, Try.ntmps28
  go_wp2
  go_ret
  exact ⟨rfl, rfl⟩

theorem times_0 (a : Int) (w : World) : Calls Try.prog 26 #[.int .i64 a, .int .i64 0] w fun e w' => e = .returned (.iface 3 (.int .i64 0)) ∧ w = w' := by
  go_enter Try.func26, Try.ntmps26
  go_wp2
  go_ret
  exact ⟨rfl, rfl⟩

theorem times_ok (a b : Int) (w : World) (hb : ¬ b = 0) (h : ((wrap64 (a * b)).tdiv b) = a) (ha : mayB a = true) : Calls Try.prog 26 #[.int .i64 a, .int .i64 b] w fun e w' => e = .returned (.iface 3 (.int .i64 (wrap64 (a * b)))) ∧ w = w' := by
  have h2 : (wrap64 ((wrap64 (a * b)).tdiv b) != a) = false := by
    have := may_bd ha
    rw [h, bne_eq_false_iff_eq]; unfold wrap64; omega
  clear h ha
  go_enter Try.func26, Try.ntmps26
  go_wp2
  go_ret
  exact ⟨rfl, rfl⟩

theorem times_long (a b : Int) (w : World) (hb : ¬ b = 0) (h : (wrap64 ((wrap64 (a * b)).tdiv b) != a) = true) : Calls Try.prog 26 #[.int .i64 a, .int .i64 b] w fun e w' => e = .returned (.iface 23 (.int .i64 11)) ∧ w = w' := by
  go_enter Try.func26, Try.ntmps26
  go_wp2
  go_ret
  exact ⟨rfl, rfl⟩

theorem plus_any (a b : Int) (w : World) : Calls Try.prog 24 #[.int .i64 a, .int .i64 b] w fun e w' => e = .returned (.iface 3 (.int .i64 (wrap64 (a + b)))) ∧ w = w' := by
  go_enter Try.func24, Try.ntmps24
  go_wp2
  go_ret
  exact ⟨rfl, rfl⟩

theorem minus_any (a b : Int) (w : World) : Calls Try.prog 25 #[.int .i64 a, .int .i64 b] w fun e w' => e = .returned (.iface 3 (.int .i64 (wrap64 (a - b)))) ∧ w = w' := by
  go_enter Try.func25, Try.ntmps25
  go_wp2
  go_ret
  exact ⟨rfl, rfl⟩

theorem is_err (v : Value) (w : World) : Sem.run Try.prog (Instr.typeAssert (.iface 23 v) 20 23 true) w = .ok (.tuple #[v, .bool true]) w := by kernel_rfl
theorem is_no_err (v : Value) (w : World) : Sem.run Try.prog (Instr.typeAssert (.iface 3 v) 20 23 true) w = .ok (.tuple #[.int .i64 0, .bool false]) w := by kernel_rfl
theorem is_int (v : Value) (w : World) : Sem.run Try.prog (Instr.typeAssert (.iface 3 v) 20 3 true) w = .ok (.tuple #[v, .bool true]) w := by kernel_rfl

theorem told_err (x : Int) (w : World) : Calls Try.prog 20 #[.iface 23 (.int .i64 x)] w fun e w' => e = .returned (.tuple #[.int .i64 0, .int .i64 x]) ∧ w = w' := by
  have k1 := is_err (.int .i64 x)
  go_enter Try.func20, Try.ntmps20
  go_wp2
  go_ret2
  exact ⟨rfl, rfl⟩

theorem told_int (x : Int) (w : World) : Calls Try.prog 20 #[.iface 3 (.int .i64 x)] w fun e w' => e = .returned (.tuple #[.int .i64 (fit x).1, .int .i64 (fit x).2]) ∧ w = w' := by
  have k1 := is_no_err (.int .i64 x)
  have k2 := is_int (.int .i64 x)
  cases hm : mayB x
  · have H := Lib.hid (fit_no hm)
    go_enter Try.func20, Try.ntmps20
    go_wp2_with (go_at_call 15; refine (May_any _ _).mono ?_; rintro e w' ⟨rfl, rfl⟩)
    go_ret2
    exact ⟨ret_two (by rw [H.out]) (by rw [H.out]), rfl⟩
  · have H := Lib.hid (fit_yes hm)
    go_enter Try.func20, Try.ntmps20
    go_wp2_with (go_at_call 15; refine (May_any _ _).mono ?_; rintro e w' ⟨rfl, rfl⟩)
    go_ret2
    exact ⟨ret_two (by rw [H.out]) (by rw [H.out]), rfl⟩

end Go.Proofs.Ythbbpcgaakbolaa
