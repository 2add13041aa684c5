/- Contracts of ints.May and ints.told. -/
import Derived.Test.YtohbljgagbnjoaaDoorIntsFn
import Derived.Test.YtohbljgagbnjoaaDoorBase
import Derived.Lib.Hide
import Derived.WalkLawsBesides
import Derived.WalkSpells
import Derived.Outline
set_option linter.unusedVariables false
namespace Go.Proofs.YtohbljgagbnjoaaDoor
open Go.RowKit

theorem IMay_any (n : Int) (w : World) : Calls Tryd.prog 85 #[.int .i64 n] w fun e w' => e = .returned (.bool (mayB n)) ∧ w = w' := by
  have hd : mayB n = (decide (-576460752303423488 ≤ n) && decide (n ≤ 576460752303423487)) := by unfold mayB; rw [Bool.eq_iff_iff]; simp
  have H := Lib.hid hd
  clear hd
  by_cases h1 : -576460752303423488 ≤ n
  · go_enter Tryd.func85, Tryd.ntmps85
    go_wp2
    go_ret
    exact ⟨ret_bool (by rw [H.out]; simp [h1]), rfl⟩
  · go_enter Tryd.func85, Tryd.ntmps85
    go_wp2
    go_ret
    exact ⟨ret_bool (by rw [H.out]; simp; omega), rfl⟩

theorem is_err (v : Value) (w : World) : Sem.run Tryd.prog (Instr.typeAssert (.iface 27 v) 20 27 true) w = .ok (.tuple #[v, .bool true]) w := by kernel_rfl
theorem is_no_err (v : Value) (w : World) : Sem.run Tryd.prog (Instr.typeAssert (.iface 3 v) 20 27 true) w = .ok (.tuple #[.int .i64 0, .bool false]) w := by kernel_rfl
theorem is_int (v : Value) (w : World) : Sem.run Tryd.prog (Instr.typeAssert (.iface 3 v) 20 3 true) w = .ok (.tuple #[v, .bool true]) w := by kernel_rfl

theorem told_err (x : Int) (w : World) : Calls Tryd.prog 118 #[.iface 27 (.int .i64 x)] w fun e w' => e = .returned (.tuple #[.int .i64 0, .int .i64 x]) ∧ w = w' := by
  have k1 := is_err (.int .i64 x)
  go_enter Tryd.func118, Tryd.ntmps118
  go_wp2
  go_ret2
  exact ⟨rfl, rfl⟩

theorem told_int (x : Int) (w : World) : Calls Tryd.prog 118 #[.iface 3 (.int .i64 x)] w fun e w' => e = .returned (.tuple #[.int .i64 (fit x).1, .int .i64 (fit x).2]) ∧ w = w' := by
  have k1 := is_no_err (.int .i64 x)
  have k2 := is_int (.int .i64 x)
  cases hm : mayB x
  · have H := Lib.hid (fit_no hm)
    go_enter Tryd.func118, Tryd.ntmps118
    go_wp2_with (go_at_call 85; refine (IMay_any _ _).mono ?_; rintro e w' ⟨rfl, rfl⟩)
    go_ret2
    exact ⟨ret_two (by rw [H.out]) (by rw [H.out]), rfl⟩
  · have H := Lib.hid (fit_yes hm)
    go_enter Tryd.func118, Tryd.ntmps118
    go_wp2_with (go_at_call 85; refine (IMay_any _ _).mono ?_; rintro e w' ⟨rfl, rfl⟩)
    go_ret2
    exact ⟨ret_two (by rw [H.out]) (by rw [H.out]), rfl⟩

end Go.Proofs.YtohbljgagbnjoaaDoor
