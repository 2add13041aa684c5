/- Contracts of package ints: what each of its functions comes to. -/
import Derived.Test.YtcallgoglnkkiaaGreatDoorIntsMaps
import Derived.Test.YtcallgoglnkkiaaGreatDoorIMay
import Derived.Lib.Hide
import Derived.WalkLawsBesides
import Derived.WalkSpells
import Derived.Outline
namespace Go.Proofs.YtcallgoglnkkiaaGreatDoor
open Go.RowKit

theorem quo_0 (a : Int) (w : World) : Calls Tryz.prog 141 #[.int .i64 a, .int .i64 0] w fun e w' => e = .returned (.iface 27 (.int .i64 10)) ∧ w = w' := by
  go_enter Tryz.func141, Tryz.ntmps141
  go_wp2
  go_ret
  exact ⟨rfl, rfl⟩

theorem rem_0 (a : Int) (w : World) : Calls Tryz.prog 142 #[.int .i64 a, .int .i64 0] w fun e w' => e = .returned (.iface 27 (.int .i64 10)) ∧ w = w' := by
  go_enter Tryz.func142, Tryz.ntmps142
  go_wp2
  go_ret
  exact ⟨rfl, rfl⟩

theorem quo_any (a b : Int) (w : World) (hb : ¬ b = 0) : Calls Tryz.prog 141 #[.int .i64 a, .int .i64 b] w fun e w' => e = .returned (.iface 3 (.int .i64 (wrap64 (a.tdiv b)))) ∧ w = w' := by
  go_enter Tryz.func141, Tryz.ntmps141
  go_wp2
  go_ret
  exact ⟨rfl, rfl⟩

theorem rem_any (a b : Int) (w : World) (hb : ¬ b = 0) : Calls Tryz.prog 142 #[.int .i64 a, .int .i64 b] w fun e w' => e = .returned (.iface 3 (.int .i64 (a.tmod b))) ∧ w = w' := by
  go_enter Tryz.func142, Tryz.ntmps142
  go_wp2
  go_ret
  exact ⟨rfl, rfl⟩

theorem times_0 (a : Int) (w : World) : Calls Tryz.prog 140 #[.int .i64 a, .int .i64 0] w fun e w' => e = .returned (.iface 3 (.int .i64 0)) ∧ w = w' := by
  go_enter Tryz.func140, Tryz.ntmps140
  go_wp2
  go_ret
  exact ⟨rfl, rfl⟩

theorem times_ok (a b : Int) (w : World) (hb : ¬ b = 0) (h : ((wrap64 (a * b)).tdiv b) = a) (ha : mayB a = true) : Calls Tryz.prog 140 #[.int .i64 a, .int .i64 b] w fun e w' => e = .returned (.iface 3 (.int .i64 (wrap64 (a * b)))) ∧ w = w' := by
  have h2 : (wrap64 ((wrap64 (a * b)).tdiv b) != a) = false := by
    have := may_bd ha
    rw [h, bne_eq_false_iff_eq]; unfold wrap64; omega
  clear h ha
  go_enter Tryz.func140, Tryz.ntmps140
  go_wp2
  go_ret
  exact ⟨rfl, rfl⟩

theorem times_long (a b : Int) (w : World) (hb : ¬ b = 0) (h : (wrap64 ((wrap64 (a * b)).tdiv b) != a) = true) : Calls Tryz.prog 140 #[.int .i64 a, .int .i64 b] w fun e w' => e = .returned (.iface 27 (.int .i64 11)) ∧ w = w' := by
  go_enter Tryz.func140, Tryz.ntmps140
  go_wp2
  go_ret
  exact ⟨rfl, rfl⟩

theorem plus_any (a b : Int) (w : World) : Calls Tryz.prog 138 #[.int .i64 a, .int .i64 b] w fun e w' => e = .returned (.iface 3 (.int .i64 (wrap64 (a + b)))) ∧ w = w' := by
  go_enter Tryz.func138, Tryz.ntmps138
  go_wp2
  go_ret
  exact ⟨rfl, rfl⟩

theorem minus_any (a b : Int) (w : World) : Calls Tryz.prog 139 #[.int .i64 a, .int .i64 b] w fun e w' => e = .returned (.iface 3 (.int .i64 (wrap64 (a - b)))) ∧ w = w' := by
  go_enter Tryz.func139, Tryz.ntmps139
  go_wp2
  go_ret
  exact ⟨rfl, rfl⟩

end Go.Proofs.YtcallgoglnkkiaaGreatDoor
