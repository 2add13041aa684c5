/- Layer 9's laws: what the document says of a name that is not bound, and of a call of nobody. -/
import Derived.Test.YtmdcdhdjojimeaaGreatDoorKFind9
set_option linter.unusedVariables false
set_option linter.unusedSimpArgs false
namespace Go.Proofs.YtmdcdhdjojimeaaGreatDoor
open Go.RowKit Go.Shelf

theorem chkOne9 (x : Tm) (r : Value) (w : World) (a b : Int) (hT : TmAt (· < w.heap.size) w (one9 x) r) (hN : x.nodes ≤ 4000) (hE : Env9 w) (hc : chk9 (one9 x) = (b, a.toNat)) (ha : 0 ≤ a) :
  Calls Tryz.prog 6 #[r] w fun e w' => e = .returned (.tuple #[.int .i64 a, .int .i64 b]) ∧ Below w.heap.size w w' := by
 have h := check9_any (one9 x) r w hT (fits_one9 x hN) hE.env hE.err
 rw [hc] at h
 rwa [show ((a.toNat : Nat) : Int) = a from Int.toNat_of_nonneg ha] at h
set_option maxHeartbeats 8000000 in
set_option maxRecDepth 100000 in
theorem wakes9_any (w : World) (hE : Env9 w) :
  Calls Tryz.prog 5 #[] w fun e w' => e = .returned (.bool true) ∧ Below w.heap.size w w' := by
 have HE := Lib.hid hE
 clear hE
 go_enter Tryz.func5, Tryz.ntmps5
 go_wp2_with fail
 refine (one9_any (vr9 ⟨#[89]⟩) _ w (.leaf _ w 5 0 ⟨#[89]⟩ (by omega) (by omega) (by decide))).mono ?_
 rintro e w1 ⟨r1, rfl, ht1, hb1⟩
 have HT1 := Lib.hid ht1
 have HB1 := Lib.hid hb1
 clear ht1 hb1
 go_wp2_with fail
 refine (chkOne9 (vr9 ⟨#[89]⟩) r1 w1 6 90 HT1.out (by decide) (HE.out.under HB1.out) chk9_Y (by decide)).mono ?_
 rintro e w2 ⟨rfl, hb2⟩
 have HB2 := Lib.hid (HB1.out.trans (hb2.mono HB1.out.size))
 clear hb2
 go_wp2_with fail
 refine (one9_any (.mk 14 0 ⟨#[103]⟩ ⟨#[]⟩ []) _ w2 (.leaf _ w2 14 0 ⟨#[103]⟩ (by omega) (by omega) (by decide))).mono ?_
 rintro e w3 ⟨r3, rfl, ht3, hb3⟩
 have HT3 := Lib.hid ht3
 have HB3 := Lib.hid (HB2.out.trans (hb3.mono HB2.out.size))
 clear ht3 hb3
 go_wp2_with fail
 refine (chkOne9 (.mk 14 0 ⟨#[103]⟩ ⟨#[]⟩ []) r3 w3 6 92 HT3.out (by decide) (HE.out.under HB3.out) chk9_g (by decide)).mono ?_
 rintro e w4 ⟨rfl, hb4⟩
 have HB4 := Lib.hid (HB3.out.trans (hb4.mono HB3.out.size))
 clear hb4
 go_wp2_with fail
 refine (one9_any (vr9 ⟨#[88]⟩) _ w4 (.leaf _ w4 5 0 ⟨#[88]⟩ (by omega) (by omega) (by decide))).mono ?_
 rintro e w5 ⟨r5, rfl, ht5, hb5⟩
 have HT5 := Lib.hid ht5
 have HB5 := Lib.hid (HB4.out.trans (hb5.mono HB4.out.size))
 clear ht5 hb5
 go_wp2_with fail
 refine (chkOne9 (vr9 ⟨#[88]⟩) r5 w5 0 0 HT5.out (by decide) (HE.out.under HB5.out) chk9_X (by decide)).mono ?_
 rintro e w6 ⟨rfl, hb6⟩
 have HB6 := Lib.hid (HB5.out.trans (hb6.mono HB5.out.size))
 clear hb6
 go_wp2_with fail
 refine (built_any ⟨#[115, 101, 108, 102]⟩ 0 w6).mono ?_
 rintro e w7 ⟨rfl, rfl⟩
 rw [show builtB ⟨#[115, 101, 108, 102]⟩ 0 = true from by decide]
 go_wp2_with fail
 refine (built_any ⟨#[115, 101, 108, 102]⟩ 1 w7).mono ?_
 rintro e w8 ⟨rfl, rfl⟩
 rw [show builtB ⟨#[115, 101, 108, 102]⟩ 1 = false from by decide]
 go_wp2_with fail
 go_ret
 exact ⟨rfl, HB6.out⟩
end Go.Proofs.YtmdcdhdjojimeaaGreatDoor
