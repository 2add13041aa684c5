/- The walk of IntsOrder: the six comparisons hang together. -/
import Derived.Test.YthbbpcgaakbolaaWakes01
import Derived.Test.YthbbpcgaakbolaaIntsCmp
namespace Go.Proofs.Ythbbpcgaakbolaa
open Go.RowKit

theorem Compare_eq (c : Int) (w : World) : Calls Try.prog 11 #[.string ⟨#[61, 58, 61]⟩, .int .i64 c] w fun e w' => e = .returned (.tuple #[.bool (c == 0), .bool true]) ∧ Below w.heap.size w w' := by
  refine (Compare_1 c w).mono ?_
  rintro e w' ⟨rfl, hb⟩
  refine ⟨ret_bools ?_ rfl, hb⟩
  rcases sgn_cases c with ⟨h, hs⟩ | ⟨h, hs⟩ | ⟨h, hs⟩ <;> rw [hs, Bool.eq_iff_iff] <;> simp <;> omega

/-- Any of the six, at a sign. -/
theorem Compare_at (s : ByteArray) (c : Int) (b : Bool) (w : World) (h : cmpR s c = (b, true)) : Calls Try.prog 11 #[.string s, .int .i64 c] w fun e w' => e = .returned (.tuple #[.bool b, .bool true]) ∧ Below w.heap.size w w' := by
  have k := Compare_any s c w
  rw [h] at k
  exact k

theorem tell (c : Int) : cmpR ⟨#[61, 58, 61]⟩ c = (decide (c = 0), true) ∧ cmpR ⟨#[61, 47, 61]⟩ c = (decide (¬ c = 0), true) ∧ cmpR ⟨#[60]⟩ c = (decide (c < 0), true) ∧ cmpR ⟨#[61, 60]⟩ c = (decide (c ≤ 0), true)
    ∧ cmpR ⟨#[62]⟩ c = (decide (0 < c), true) ∧ cmpR ⟨#[62, 61]⟩ c = (decide (0 ≤ c), true) := by
  refine ⟨?_, ?_, ?_, ?_, ?_, ?_⟩ <;> (unfold cmpR; rfl)

set_option maxHeartbeats 1000000 in
theorem order_at (c : Int) (b1 b2 b3 b4 b5 b6 : Bool) (z : (c == 0) = b1) (h1 : cmpR ⟨#[61, 58, 61]⟩ c = (b1, true)) (h2 : cmpR ⟨#[61, 47, 61]⟩ c = (b2, true)) (h3 : cmpR ⟨#[60]⟩ c = (b3, true)) (h4 : cmpR ⟨#[61, 60]⟩ c = (b4, true))
    (h5 : cmpR ⟨#[62]⟩ c = (b5, true)) (h6 : cmpR ⟨#[62, 61]⟩ c = (b6, true)) (hall : (b1 != b2 && b3 == !b6 && b5 == !b4 && b4 == (b3 || b1) && b6 == (b5 || b1)) = true) (w : World) :
    Calls Try.prog 5 #[.int .i64 c] w fun e w' => e = .returned (.bool true) ∧ Below w.heap.size w w' := by
  have k1 := Lib.hid h1
  have k2 := Lib.hid h2
  have k3 := Lib.hid h3
  have k4 := Lib.hid h4
  have k5 := Lib.hid h5
  have k6 := Lib.hid h6
  clear h1 h2 h3 h4 h5 h6
  cases b1 <;> cases b2 <;> first | (cases hall; done) | skip
  all_goals cases b3 <;> cases b4 <;> first | (cases hall; done) | skip
  all_goals cases b5 <;> cases b6 <;> first | (cases hall; done) | skip
  all_goals
    clear hall
    go_enter Try.func5, Try.ntmps5
    go_wp2_with fail
    refine (Compare_at _ _ _ _ k1.out).mono ?_
    rintro e w1 ⟨rfl, b1⟩
    go_wp2_with fail
    refine (Compare_at _ _ _ _ k2.out).mono ?_
    rintro e w2 ⟨rfl, b2⟩
    go_wp2_with fail
    refine (Compare_at _ _ _ _ k3.out).mono ?_
    rintro e w3 ⟨rfl, b3⟩
    go_wp2_with fail
    refine (Compare_at _ _ _ _ k4.out).mono ?_
    rintro e w4 ⟨rfl, b4⟩
    go_wp2_with fail
    refine (Compare_at _ _ _ _ k5.out).mono ?_
    rintro e w5 ⟨rfl, b5⟩
    go_wp2_with fail
    refine (Compare_at _ _ _ _ k6.out).mono ?_
    rintro e w6 ⟨rfl, b6⟩
    go_wp2_with (go_at_call 8; refine (wakes_any _).mono ?_; rintro e w7 ⟨rfl, b7⟩)
    go_ret
    refine ⟨rfl, ?_⟩
    have c2 := b1.trans (b2.mono b1.size)
    have c3 := c2.trans (b3.mono c2.size)
    have c4 := c3.trans (b4.mono c3.size)
    have c5 := c4.trans (b5.mono c4.size)
    have c6 := c5.trans (b6.mono c5.size)
    exact c6.trans (b7.mono c6.size)

theorem walk_IntsOrder (a0 : Int) (_w0 : (Lit.int .i64 a0).wf = true) (w : World) :
    Calls Try.prog 5 #[.int .i64 a0] w fun e w' => e = .returned (.bool true) ∧ Below w.heap.size w w' := by
  obtain ⟨t1, t2, t3, t4, t5, t6⟩ := tell a0
  rcases sgn_cases a0 with ⟨h, _⟩ | ⟨h, _⟩ | ⟨h, _⟩
  · exact order_at a0 false true true true false false (by rw [beq_eq_false_iff_ne]; omega) (by rw [t1, decide_eq_false (by omega)]) (by rw [t2, decide_eq_true (by omega)]) (by rw [t3, decide_eq_true (by omega)]) (by rw [t4, decide_eq_true (by omega)]) (by rw [t5, decide_eq_false (by omega)]) (by rw [t6, decide_eq_false (by omega)]) rfl w
  · exact order_at a0 true false false true false true (by rw [beq_iff_eq]; omega) (by rw [t1, decide_eq_true (by omega)]) (by rw [t2, decide_eq_false (by omega)]) (by rw [t3, decide_eq_false (by omega)]) (by rw [t4, decide_eq_true (by omega)]) (by rw [t5, decide_eq_false (by omega)]) (by rw [t6, decide_eq_true (by omega)]) rfl w
  · exact order_at a0 false true false false true true (by rw [beq_eq_false_iff_ne]; omega) (by rw [t1, decide_eq_false (by omega)]) (by rw [t2, decide_eq_true (by omega)]) (by rw [t3, decide_eq_false (by omega)]) (by rw [t4, decide_eq_false (by omega)]) (by rw [t5, decide_eq_true (by omega)]) (by rw [t6, decide_eq_true (by omega)]) rfl w

end Go.Proofs.Ythbbpcgaakbolaa
