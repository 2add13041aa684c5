/- The three calls and the text of layer 1's chapter. -/
import Derived.Test.YthbbpcgaakbolaaIntsDo
import Derived.Test.YthbbpcgaakbolaaIntsRead
namespace Go.Proofs.Ythbbpcgaakbolaa
open Go.RowKit

theorem wake_div (w : World) : Calls Try.prog 9 #[.string ⟨#[100, 105, 118]⟩, .int .i64 (-7), .int .i64 2] w fun e w' => e = .returned (.tuple #[.int .i64 (-3), .int .i64 0]) ∧ Below w.heap.size w w' := by
  have h := Do_any ⟨#[100, 105, 118]⟩ (-7) 2 w
  rw [show doR ⟨#[100, 105, 118]⟩ (-7) 2 = (-3, 0) from by decide +kernel] at h
  exact h
theorem wake_rem (w : World) : Calls Try.prog 9 #[.string ⟨#[114, 101, 109]⟩, .int .i64 (-7), .int .i64 2] w fun e w' => e = .returned (.tuple #[.int .i64 (-1), .int .i64 0]) ∧ Below w.heap.size w w' := by
  have h := Do_any ⟨#[114, 101, 109]⟩ (-7) 2 w
  rw [show doR ⟨#[114, 101, 109]⟩ (-7) 2 = (-1, 0) from by decide +kernel] at h
  exact h
theorem wake_plus (w : World) : Calls Try.prog 9 #[.string ⟨#[43]⟩, .int .i64 576460752303423487, .int .i64 1] w fun e w' => e = .returned (.tuple #[.int .i64 0, .int .i64 11]) ∧ Below w.heap.size w w' := by
  have h := Do_any ⟨#[43]⟩ 576460752303423487 1 w
  rw [show doR ⟨#[43]⟩ 576460752303423487 1 = (0, 11) from by decide +kernel] at h
  exact h
theorem wake_read (w : World) : Calls Try.prog 13 #[.string ⟨#[49, 50, 97, 98]⟩] w fun e w' => e = .returned (.tuple #[.int .i64 12, .int .i64 2, .int .i64 0]) ∧ w = w' := by
  have h := Read_any ⟨#[49, 50, 97, 98]⟩ w (by decide)
  rw [show readR (ByteArray.mk #[49, 50, 97, 98]).data.toList = (12, 2, 0) from by decide +kernel] at h
  exact h

set_option maxHeartbeats 1000000 in
theorem wakes_any (w : World) : Calls Try.prog 8 #[] w fun e w' => e = .returned (.bool true) ∧ Below w.heap.size w w' := by
  go_enter Try.func8, Try.ntmps8
  go_wp2_with fail
  refine (wake_div _).mono ?_
  rintro e w1 ⟨rfl, b1⟩
  go_wp2_with fail
  refine (wake_rem _).mono ?_
  rintro e w2 ⟨rfl, b2⟩
  go_wp2_with fail
  refine (wake_plus _).mono ?_
  rintro e w3 ⟨rfl, b3⟩
  go_wp2_with fail
  refine (wake_read _).mono ?_
  rintro e w4 ⟨rfl, rfl⟩
  go_wp2_with fail
  go_ret
  exact ⟨rfl, b1.trans ((b2.mono b1.size).trans (b3.mono (Nat.le_trans b1.size b2.size)))⟩

end Go.Proofs.Ythbbpcgaakbolaa
