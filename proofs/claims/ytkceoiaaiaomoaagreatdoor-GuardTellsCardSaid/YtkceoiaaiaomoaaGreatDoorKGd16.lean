/- Layer 11: the document's own Guard and Has; a name that a tree does not use. -/
import Derived.Test.YtkceoiaaiaomoaaGreatDoorKRf7C
import Derived.Test.YtkceoiaaiaomoaaGreatDoorKShr7
import Derived.Test.YtkceoiaaiaomoaaGreatDoorKRef03M
section
set_option linter.unusedVariables false
set_option linter.unusedSimpArgs false
namespace Go.Proofs.YtkceoiaaiaomoaaGreatDoor
open Go.RowKit

theorem rKind_any (s : ByteArray) (w : World) : Calls Tryz.prog 221 #[.string s] w fun e w' => e = .returned (.bool (kindB s)) ∧ w = w' := by
  go_enter Tryz.func221, Tryz.ntmps221
  go_wp2
  all_goals
    go_ret
    refine ⟨ret_bool ?_, rfl⟩
    unfold kindB
    rw [← Go.Lib.toList_data]
    simp only [List.any_cons, List.any_nil]
    simp_all [Bool.or_assoc]
theorem nrow_0 {w V : World} {A : Option Addr} {n cap : Nat} {l : List Tm} (h : TRow (· < w.heap.size) w A n cap l) (hb : Below w.heap.size w V) {y : Tm} (hy : l[0]? = some y) :
    ∃ g off o c0 c1 c2 c3 c4, A = some ⟨g, off, o⟩ ∧ TmAt (· < V.heap.size) V y (.agg #[c0, c1, c2, c3, c4]) ∧ V.cell? ⟨g, off, o⟩ = some c0 ∧ V.cell? ⟨g, off + 1, none⟩ = some c1 ∧ V.cell? ⟨g, off + 2, none⟩ = some c2 ∧ V.cell? ⟨g, off + 3, none⟩ = some c3 ∧ V.cell? ⟨g, off + 4, none⟩ = some c4 := by
  obtain ⟨g, off, o, c0, c1, c2, c3, c4, hA, hT, d0, d1, d2, d3, d4, he, e0, e1, e2, e3, e4⟩ := row_at7 h hb hy
  cases he
  exact ⟨g, off, o, _, _, _, _, _, hA, hT, e0, e1, e2, e3, e4⟩
theorem nrow_1 {w V : World} {g off : Nat} {o : Option Nat} {n cap : Nat} {l : List Tm} (h : TRow (· < w.heap.size) w (some ⟨g, off, o⟩) n cap l) (hb : Below w.heap.size w V) {y : Tm} (hy : l[1]? = some y) :
    ∃ c0 c1 c2 c3 c4, TmAt (· < V.heap.size) V y (.agg #[c0, c1, c2, c3, c4]) ∧ V.cell? ⟨g, off + 5, none⟩ = some c0 ∧ V.cell? ⟨g, off + 5 + 1, none⟩ = some c1 ∧ V.cell? ⟨g, off + 5 + 2, none⟩ = some c2 ∧ V.cell? ⟨g, off + 5 + 3, none⟩ = some c3 ∧ V.cell? ⟨g, off + 5 + 4, none⟩ = some c4 := by
  obtain ⟨g', off', o', c0, c1, c2, c3, c4, hA, hT, d0, d1, d2, d3, d4, he, e0, e1, e2, e3, e4⟩ := row_at7 h hb hy
  cases hA
  cases he
  exact ⟨_, _, _, _, _, hT, e0, e1, e2, e3, e4⟩
theorem test11 (n : Int) (s t : ByteArray) (l : List Tm) : testB (.mk 11 n s t l) = (cmpB s && bareB false true false true n s t l.length && ((l.length : Int) == 2) && guasB l) := by
  rw [bareFTFT]
  have e : ((l.length : Int) == 2) = (l.length == 2) := by rw [Bool.eq_iff_iff]; simp; omega
  rw [e]
  unfold testB
  simp [Bool.and_assoc, Bool.and_comm, Bool.and_left_comm]
theorem test12 (n : Int) (s t : ByteArray) (l : List Tm) : testB (.mk 12 n s t l) = (kindB s && bareB false true false true n s t l.length && ((l.length : Int) == 1) && guasB l) := by
  rw [bareFTFT]
  have e : ((l.length : Int) == 1) = (l.length == 1) := by rw [Bool.eq_iff_iff]; simp; omega
  rw [e]
  unfold testB
  simp [Bool.and_assoc, Bool.and_comm, Bool.and_left_comm]
theorem test_no {k : Int} (h1 : k ≠ 11) (h2 : k ≠ 12) (n : Int) (s t : ByteArray) (l : List Tm) : testB (.mk k n s t l) = false := by
  unfold testB
  simp [h1, h2]
set_option maxHeartbeats 8000000 in
set_option maxRecDepth 100000 in
theorem rtest_any (x : Tm) (v : Value) (w : World) (hT : TmAt (· < w.heap.size) w x v) :
    Calls Tryz.prog 163 #[v] w fun e w' => e = .returned (.bool (testB x)) ∧ Below w.heap.size w w' := by
  obtain ⟨k, n, s, t, l⟩ := x
  obtain ⟨A, cap, rfl, hR, hk, hn, hs, ht⟩ := hT.parts
  have hlen := hR.max
  unfold maxLen at hlen
  have HR := Lib.hid hR
  have HCM := Lib.hid (fun W => rCompare_any s 0 W)
  have HKD := Lib.hid (fun W => rKind_any s W)
  have HBR := Lib.hid (fun b1 b2 b3 b4 W => rbare_any b1 b2 b3 b4 n k s t A l.length cap W)
  clear hR hT hs ht hn
  obtain ⟨R, hRR⟩ : ∃ R, R = testB (.mk k n s t l) := ⟨_, rfl⟩
  have HRR := Lib.hid hRR
  rw [← hRR]
  clear hRR
  obtain ⟨w1, hw1⟩ : ∃ w1, w1 = w.alloc (.cells #[.int .i8 k, .int .i64 n, .string s, .string t, .slice A l.length cap] 25) := ⟨_, rfl⟩
  have hb1 : Bx7 w w1 #[.int .i8 k, .int .i64 n, .string s, .string t, .slice A l.length cap] := bx7_of w _ w1 hw1
  have H1 := Lib.hid hb1
  clear hb1
  have hx := H1.out
  have x0 : w1.cell? ⟨w.heap.size, 0, none⟩ = some (.int .i8 k) := hx.cell 0 rfl
  have x1 : w1.cell? ⟨w.heap.size, 1, none⟩ = some (.int .i64 n) := hx.cell 1 rfl
  have x2 : w1.cell? ⟨w.heap.size, 2, none⟩ = some (.string s) := hx.cell 2 rfl
  have x3 : w1.cell? ⟨w.heap.size, 3, none⟩ = some (.string t) := hx.cell 3 rfl
  have x4 : w1.cell? ⟨w.heap.size, 4, none⟩ = some (.slice A l.length cap) := hx.cell 4 rfl
  clear hx
  go_enter Tryz.func163, Tryz.ntmps163
  by_cases hk11 : k = 11
  · subst hk11
    have HP : Hid (R = (cmpB s && bareB false true false true n s t l.length && ((l.length : Int) == 2) && guasB l)) := Lib.hid (by rw [HRR.out, test11])
    go_wp2_with fail
    rw [← hw1]
    clear hw1
    refine (HCM.out w1).mono ?_
    rintro e w' ⟨rfl, rfl⟩
    rw [cmpR_cmpB]
    obtain ⟨c1, hc1⟩ : ∃ c1, c1 = cmpB s := ⟨_, rfl⟩
    rw [← hc1] at HP ⊢
    clear hc1
    cases c1
    · go_wp2_with fail
      go_ret
      exact ⟨ret_bool (by rw [HP.out]; simp), H1.out.below⟩
    go_wp2_with fail
    refine (HBR.out false true false true w1).mono ?_
    rintro e w2 ⟨rfl, b2⟩
    have H2 := Lib.hid (H1.out.under b2)
    clear b2
    obtain ⟨c2, hc2⟩ : ∃ c2, c2 = bareB false true false true n s t l.length := ⟨_, rfl⟩
    rw [← hc2] at HP ⊢
    clear hc2
    cases c2
    · go_wp2_with fail
      go_ret
      exact ⟨ret_bool (by rw [HP.out]; simp), H2.out.below⟩
    clear x0 x1 x2 x3 x4
    have x4 : w2.cell? ⟨w.heap.size, 4, none⟩ = some (.slice A l.length cap) := H2.out.cell 4 rfl
    by_cases hl2 : (l.length : Int) = 2
    rotate_left
    · have q2 : ((l.length : Int) == 2) = false := by simpa using hl2
      go_wp2_with fail
      go_ret
      exact ⟨ret_bool (by rw [HP.out, q2]; simp), H2.out.below⟩
    have q2 : ((l.length : Int) == 2) = true := by simpa using hl2
    rw [q2] at HP
    clear q2
    obtain ⟨a, b, hab⟩ : ∃ a b, l = [a, b] := by
      match l, hl2 with
      | [a, b], _ => exact ⟨a, b, rfl⟩
      | [], h => simp at h
      | [_], h => simp at h
      | _ :: _ :: _ :: _, h => simp at h; omega
    have HA0 : Hid (l[0]? = some a) := Lib.hid (by rw [hab]; rfl)
    have HA1 : Hid (l[1]? = some b) := Lib.hid (by rw [hab]; rfl)
    have hgs : guasB l = (guaB a && guaB b) := by rw [hab]; simp [guasB]
    rw [hgs] at HP
    clear hgs hab
    obtain ⟨g, off, oo, c0, c1, c2, c3, c4, rfl, hTy, e0, e1, e2, e3, e4⟩ := nrow_0 HR.out H2.out.below HA0.out
    have HTY := Lib.hid hTy
    clear hTy
    have i0 : (0 : Int) < (l.length : Int) := by omega
    have i1 : (1 : Int) < (l.length : Int) := by omega
    go_wp2_with fail
    refine (rguarded_any a _ w2 HTY.out).mono ?_
    rintro e w3 ⟨rfl, b3⟩
    have H3 := Lib.hid (H2.out.under b3)
    clear b3 x4 e0 e1 e2 e3 e4 HTY
    obtain ⟨c5, hc5⟩ : ∃ c5, c5 = guaB a := ⟨_, rfl⟩
    rw [← hc5] at HP ⊢
    clear hc5
    cases c5
    · go_wp2_with fail
      go_ret
      exact ⟨ret_bool (by rw [HP.out]; simp), H3.out.below⟩
    have x4 : w3.cell? ⟨w.heap.size, 4, none⟩ = some (.slice (some ⟨g, off, oo⟩) l.length cap) := H3.out.cell 4 rfl
    obtain ⟨c0, c1, c2, c3, c4, hTy, e0, e1, e2, e3, e4⟩ := nrow_1 HR.out H3.out.below HA1.out
    have HTY := Lib.hid hTy
    clear hTy
    go_wp2_with fail
    refine (rguarded_any b _ w3 HTY.out).mono ?_
    rintro e w4 ⟨rfl, b4⟩
    have H4 := Lib.hid (H3.out.under b4)
    clear b4 x4 e0 e1 e2 e3 e4 HTY
    go_wp2_with fail
    go_ret
    exact ⟨ret_bool (by rw [HP.out]; simp), H4.out.below⟩
  by_cases hk12 : k = 12
  · subst hk12
    have HP : Hid (R = (kindB s && bareB false true false true n s t l.length && ((l.length : Int) == 1) && guasB l)) := Lib.hid (by rw [HRR.out, test12])
    go_wp2_with fail
    rw [← hw1]
    clear hw1
    refine (HKD.out w1).mono ?_
    rintro e w' ⟨rfl, rfl⟩
    skip
    obtain ⟨c1, hc1⟩ : ∃ c1, c1 = kindB s := ⟨_, rfl⟩
    rw [← hc1] at HP ⊢
    clear hc1
    cases c1
    · go_wp2_with fail
      go_ret
      exact ⟨ret_bool (by rw [HP.out]; simp), H1.out.below⟩
    go_wp2_with fail
    refine (HBR.out false true false true w1).mono ?_
    rintro e w2 ⟨rfl, b2⟩
    have H2 := Lib.hid (H1.out.under b2)
    clear b2
    obtain ⟨c2, hc2⟩ : ∃ c2, c2 = bareB false true false true n s t l.length := ⟨_, rfl⟩
    rw [← hc2] at HP ⊢
    clear hc2
    cases c2
    · go_wp2_with fail
      go_ret
      exact ⟨ret_bool (by rw [HP.out]; simp), H2.out.below⟩
    clear x0 x1 x2 x3 x4
    have x4 : w2.cell? ⟨w.heap.size, 4, none⟩ = some (.slice A l.length cap) := H2.out.cell 4 rfl
    by_cases hl2 : (l.length : Int) = 1
    rotate_left
    · have q2 : ((l.length : Int) == 1) = false := by simpa using hl2
      go_wp2_with fail
      go_ret
      exact ⟨ret_bool (by rw [HP.out, q2]; simp), H2.out.below⟩
    have q2 : ((l.length : Int) == 1) = true := by simpa using hl2
    rw [q2] at HP
    clear q2
    obtain ⟨a, hab⟩ : ∃ a, l = [a] := by
      match l, hl2 with
      | [a], _ => exact ⟨a, rfl⟩
      | [], h => simp at h
      | _ :: _ :: _, h => simp at h; omega
    have HA0 : Hid (l[0]? = some a) := Lib.hid (by rw [hab]; rfl)
    have hgs : guasB l = guaB a := by rw [hab]; simp [guasB]
    rw [hgs] at HP
    clear hgs hab
    obtain ⟨g, off, oo, c0, c1, c2, c3, c4, rfl, hTy, e0, e1, e2, e3, e4⟩ := nrow_0 HR.out H2.out.below HA0.out
    have HTY := Lib.hid hTy
    clear hTy
    have i0 : (0 : Int) < (l.length : Int) := by omega
    go_wp2_with fail
    refine (rguarded_any a _ w2 HTY.out).mono ?_
    rintro e w3 ⟨rfl, b3⟩
    have H3 := Lib.hid (H2.out.under b3)
    clear b3 x4 e0 e1 e2 e3 e4 HTY
    go_wp2_with fail
    go_ret
    exact ⟨ret_bool (by rw [HP.out]; simp), H3.out.below⟩
  have q11 : (k == 11) = false := by simpa using hk11
  have q12 : (k == 12) = false := by simpa using hk12
  go_wp2_with fail
  rw [← hw1]
  clear hw1
  go_ret
  exact ⟨ret_bool (by rw [HRR.out, test_no hk11 hk12]), H1.out.below⟩
set_option maxHeartbeats 8000000 in
set_option maxRecDepth 100000 in
theorem rguard_any (x : Tm) (v : Value) (w : World) (hT : TmAt (· < w.heap.size) w x v) :
    Calls Tryz.prog 168 #[v] w fun e w' => e = .returned (.bool (guardB x)) ∧ Below w.heap.size w w' := by
  obtain ⟨k, n, s, t, l⟩ := x
  obtain ⟨A, cap, rfl, hR, hk, hn, hs, ht⟩ := hT.parts
  have hlen := hR.max
  unfold maxLen at hlen
  have HR := Lib.hid hR
  have HBR := Lib.hid (fun b1 b2 b3 b4 W => rbare_any b1 b2 b3 b4 n k s t A l.length cap W)
  clear hR hT hs ht hn
  obtain ⟨R, hRR⟩ : ∃ R, R = guardB (.mk k n s t l) := ⟨_, rfl⟩
  have HP : Hid (R = (k == 4 && bareB false false false true n s t l.length && l.all testB)) := Lib.hid (by rw [hRR, bareFFFT]; unfold guardB; simp [Bool.and_assoc])
  rw [← hRR]
  clear hRR
  obtain ⟨w1, hw1⟩ : ∃ w1, w1 = w.alloc (.cells #[.int .i8 k, .int .i64 n, .string s, .string t, .slice A l.length cap] 25) := ⟨_, rfl⟩
  have hb1 : Bx7 w w1 #[.int .i8 k, .int .i64 n, .string s, .string t, .slice A l.length cap] := bx7_of w _ w1 hw1
  have H1 := Lib.hid hb1
  clear hb1
  have hx := H1.out
  have x0 : w1.cell? ⟨w.heap.size, 0, none⟩ = some (.int .i8 k) := hx.cell 0 rfl
  have x1 : w1.cell? ⟨w.heap.size, 1, none⟩ = some (.int .i64 n) := hx.cell 1 rfl
  have x2 : w1.cell? ⟨w.heap.size, 2, none⟩ = some (.string s) := hx.cell 2 rfl
  have x3 : w1.cell? ⟨w.heap.size, 3, none⟩ = some (.string t) := hx.cell 3 rfl
  have x4 : w1.cell? ⟨w.heap.size, 4, none⟩ = some (.slice A l.length cap) := hx.cell 4 rfl
  clear hx
  go_enter Tryz.func168, Tryz.ntmps168
  by_cases hk4 : k = 4
  rotate_left
  · have q4 : (k == 4) = false := by simpa using hk4
    rw [q4] at HP
    go_wp2_with fail
    rw [← hw1]
    go_ret
    exact ⟨ret_bool (by rw [HP.out]; simp), H1.out.below⟩
  subst hk4
  go_wp2_with fail
  rw [← hw1]
  clear hw1
  refine (HBR.out false false false true w1).mono ?_
  rintro e w2 ⟨rfl, b2⟩
  have H2 := Lib.hid (H1.out.under b2)
  clear b2
  obtain ⟨c2, hc2⟩ : ∃ c2, c2 = bareB false false false true n s t l.length := ⟨_, rfl⟩
  rw [← hc2] at HP ⊢
  clear hc2
  cases c2
  · go_wp2_with fail
    go_ret
    exact ⟨ret_bool (by rw [HP.out]; simp), H2.out.below⟩
  clear x0 x1 x2 x3 x4
  have x4 : w2.cell? ⟨w.heap.size, 4, none⟩ = some (.slice A l.length cap) := H2.out.cell 4 rfl
  go_wp2_with fail
  go_loopw [3] (fun i wr => ∃ j : Nat, j ≤ l.length ∧ i = .int .i64 j ∧ Bx7 w wr #[.int .i8 4, .int .i64 n, .string s, .string t, .slice A l.length cap] ∧ Hid (∀ y ∈ l.take j, testB y = true)) (fun i _ => l.length - (intOf i).toNat)
  case atStart => exact ⟨0, Nat.zero_le _, rfl, H2.out, Lib.hid (fun y hy => by simp at hy)⟩
  case round =>
    obtain ⟨j, hj, rfl, hbx, hd⟩ := hrel
    have HW := Lib.hid hbx
    have x4 : wr.cell? ⟨w.heap.size, 4, none⟩ = some (.slice A l.length cap) := hbx.cell 4 rfl
    clear hbx
    by_cases hlt : j < l.length
    · obtain ⟨y, hy⟩ : ∃ y, l[j]? = some y := ⟨l[j], List.getElem?_eq_getElem hlt⟩
      have HMEM := Lib.hid (List.mem_of_getElem? hy)
      obtain ⟨g, off, o, c0, c1, c2, c3, c4, rfl, hTy, hEy⟩ := row_at7 HR.out HW.out.below hy
      obtain ⟨d0, d1, d2, d3, d4, he, e0, e1, e2, e3, e4⟩ := hEy
      cases he
      have HTY := Lib.hid hTy
      have HY := Lib.hid hy
      clear hTy hy
      go_wp2_with fail
      refine (rtest_any y _ _ HTY.out).mono ?_
      rintro e w9 ⟨rfl, b9⟩
      have H9 := Lib.hid (HW.out.under b9)
      clear b9 e0 e1 e2 e3 e4 x4
      obtain ⟨c, hc⟩ : ∃ c, c = testB y := ⟨_, rfl⟩
      rw [← hc]
      have HC := Lib.hid hc
      clear hc
      cases c
      · go_wp2_with fail
        go_ret
        exact ⟨ret_bool (by rw [HP.out]; have h : l.all testB = false := by { rw [Bool.eq_false_iff]; intro h; have := List.all_eq_true.1 h y HMEM.out; rw [← HC.out] at this; cases this }; rw [h]; simp), H9.out.below⟩
      · go_wp2_with fail
        go_roundw
        case rel => exact ⟨j + 1, by omega, by go_num, H9.out, Lib.hid (fun z hz => by
          rw [List.take_add_one, HY.out] at hz
          rcases List.mem_append.1 hz with hz | hz
          · exact hd.out z hz
          · simp at hz; subst hz; exact HC.out.symm)⟩
        case measure => simp [intOf]; omega
    · obtain rfl : j = l.length := by omega
      have HALL : Hid (∀ y ∈ l, testB y = true) := Lib.hid (fun y hy => hd.out y (by rw [List.take_length]; exact hy))
      clear hd
      go_wp2_with fail
      go_ret
      exact ⟨ret_bool (by rw [HP.out, List.all_eq_true.2 HALL.out]; simp), HW.out.below⟩
end Go.Proofs.YtkceoiaaiaomoaaGreatDoor
end
section
set_option linter.unusedVariables false
set_option linter.unusedSimpArgs false
namespace Go.Proofs.YtkceoiaaiaomoaaGreatDoor
open Go.RowKit

set_option maxHeartbeats 2000000 in
set_option maxRecDepth 100000 in
theorem rGuard_any (x : Tm) (v : Value) (w : World) (hT : TmAt (· < w.heap.size) w x v) :
    Calls Tryz.prog 103 #[v] w fun e w' => e = .returned (.bool (fitsB x && guardB x)) ∧ Below w.heap.size w w' := by
  obtain ⟨k, n, s, t, A, m, c, rfl⟩ : ∃ k n s t A m c, v = .agg #[.int .i8 k, .int .i64 n, .string s, .string t, .slice A m c] := by cases hT; exact ⟨_, _, _, _, _, _, _, rfl⟩
  obtain ⟨w1, hw1⟩ : ∃ w1, w1 = w.alloc (.cells #[.int .i8 k, .int .i64 n, .string s, .string t, .slice A m c] 25) := ⟨_, rfl⟩
  have b1 : Below w.heap.size w w1 := by rw [hw1]; exact (Below.refl _ w).alloc (Nat.le_refl _) _
  have HG : Hid (w1.heap[w.heap.size]? = some (.cells #[.int .i8 k, .int .i64 n, .string s, .string t, .slice A m c] 25 (0, 0))) := Lib.hid (by rw [hw1]; exact block_alloc _ _)
  have HT := Lib.hid (hT.laterN b1)
  have HB := Lib.hid b1
  have gx := HG.out
  obtain ⟨x0, x1, x2, x3, x4⟩ := five_of gx
  clear gx hT b1
  go_enter Tryz.func103, Tryz.ntmps103
  go_upto_region 1 with fail
  rw [← hw1]
  clear hw1
  go_wp2_with fail
  refine (rFits_any x _ w1 HT.out).mono ?_
  rintro e w2 ⟨rfl, b2⟩
  have HB2 := Lib.hid (HB.out.trans (b2.mono HB.out.size))
  have HT2 := Lib.hid (HT.out.laterN b2)
  have gx := (b2.block _ (heap_lt HG.out)).trans HG.out
  clear x0 x1 x2 x3 x4 b2
  obtain ⟨x0, x1, x2, x3, x4⟩ := five_of gx
  clear gx
  cases hf : fitsB x with
  | false =>
    have HF : Hid ((fitsB x && guardB x) = false) := Lib.hid (by rw [hf]; rfl)
    go_wp2_with fail
    go_ret
    exact ⟨by rw [HF.out]; rfl, HB2.out⟩
  | true =>
    have HF : Hid ((fitsB x && guardB x) = guardB x) := Lib.hid (by rw [hf]; rfl)
    clear hf
    go_wp2_with fail
    refine (rguard_any x _ w2 HT2.out).mono ?_
    rintro e w3 ⟨rfl, b3⟩
    have HB3 := Lib.hid (HB2.out.trans (b3.mono HB2.out.size))
    clear b3
    go_wp2_with fail
    go_ret
    exact ⟨by rw [HF.out]; rfl, HB3.out⟩

end Go.Proofs.YtkceoiaaiaomoaaGreatDoor
end
