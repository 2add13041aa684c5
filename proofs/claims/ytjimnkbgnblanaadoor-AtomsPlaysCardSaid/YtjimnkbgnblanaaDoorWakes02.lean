/- What the chapter of layer 2 says of a few names, and of a table: the walk of wakes. -/
import Derived.Test.YtjimnkbgnblanaaDoorAtomsPut
set_option linter.unusedVariables false
namespace Go.Proofs.YtjimnkbgnblanaaDoor
open Go.RowKit

theorem nm_a : nameB ⟨#[97]⟩ 2 = true := by decide +kernel
theorem nm_b : nameB ⟨#[98]⟩ 2 = true := by decide +kernel
theorem nm_aB1 : nameB ⟨#[97, 95, 66, 49]⟩ 2 = true := by decide +kernel
theorem nm_B : nameB ⟨#[66]⟩ 2 = false := by decide +kernel
theorem nm_e : nameB ⟨#[]⟩ 2 = false := by decide +kernel
theorem nm_u : nameB ⟨#[95]⟩ 3 = true := by decide +kernel

theorem May_is (s : ByteArray) (b : Bool) (hb : nameB s 2 = b) (hs : s.size ≤ 32) (w : World) (hS : Spans w) :
    Calls Tryd.prog 7 #[.string s] w fun e w' => e = .returned (.bool b) ∧ Below w.heap.size w w' := by
  have h := May_any s (by unfold maxLen; omega) w hS
  rw [hb] at h
  exact h
theorem Name_is (s : ByteArray) (b : Bool) (hb : nameB s 3 = b) (hs : s.size ≤ 32) (w : World) (hS : Spans w) :
    Calls Tryd.prog 9 #[.string s] w fun e w' => e = .returned (.bool b) ∧ Below w.heap.size w w' := by
  have h := Name_any s (by unfold maxLen; omega) w hS
  rw [hb] at h
  exact h

set_option maxHeartbeats 2000000 in
theorem wakes_any (w : World) (hS : Spans w) : Calls Tryd.prog 13 #[] w fun e w' => e = .returned (.bool true) ∧ Below w.heap.size w w' := by
  go_enter Tryd.func13, Tryd.ntmps13
  go_wp2_with fail
  refine (New_yes 9 (by decide) (by decide) _).mono ?_
  rintro e w1 ⟨mb, tb, rfl, T1, b1⟩
  go_wp2_with fail
  refine (Put_new T1 ⟨#[97]⟩ (hS.below b1 hS.lt) b1.size nm_a rfl (by decide) (by simp)).mono ?_
  rintro e w2 ⟨rfl, r2, T2, m2, k2⟩
  have B2 := b1.trans (m2.below b1.size (fun i hi => by rcases hi with rfl | rfl | hi; exact T1.tlow; exact T1.mlow; simp [Value.ownBlock] at hi))
  go_wp2_with fail
  refine (Put_new T2 ⟨#[98]⟩ (hS.below B2 hS.lt) B2.size nm_b rfl (by decide) (by simp)).mono ?_
  rintro e w3 ⟨rfl, r3, T3, m3, k3⟩
  have B3 := B2.trans (m3.below B2.size (fun i hi => by rcases hi with rfl | rfl | hi; exact T1.tlow; exact T1.mlow; exact (T2.row.lt _ hi).1))
  go_wp2_with fail
  refine (Put_hit T3 ⟨#[97]⟩ (hS.below B3 hS.lt) nm_a 0 rfl).mono ?_
  rintro e w4 ⟨rfl, b4⟩
  have B4 := B3.trans (b4.mono B3.size)
  go_wp2_with fail
  refine (May_is _ _ nm_aB1 (by decide) _ (hS.below B4 hS.lt)).mono ?_
  rintro e w5 ⟨rfl, b5⟩
  have B5 := B4.trans (b5.mono B4.size)
  go_wp2_with fail
  refine (May_is _ _ nm_B (by decide) _ (hS.below B5 hS.lt)).mono ?_
  rintro e w6 ⟨rfl, b6⟩
  have B6 := B5.trans (b6.mono B5.size)
  go_wp2_with fail
  refine (May_is _ _ nm_e (by decide) _ (hS.below B6 hS.lt)).mono ?_
  rintro e w7 ⟨rfl, b7⟩
  have B7 := B6.trans (b7.mono B6.size)
  go_wp2_with fail
  refine (Name_is _ _ nm_u (by decide) _ (hS.below B7 hS.lt)).mono ?_
  rintro e w8 ⟨rfl, b8⟩
  have B8 := B7.trans (b8.mono B7.size)
  go_wp2_with fail
  go_ret
  exact ⟨rfl, B8⟩
end Go.Proofs.YtjimnkbgnblanaaDoor
