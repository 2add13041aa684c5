/- The document's own answers of layer 7: tests, guards. -/
import Derived.Test.YtmdcdhdjojimeaaGreatDoorKRf7B
import Derived.Test.YtmdcdhdjojimeaaGreatDoorKShr7
section
set_option linter.unusedVariables false
set_option linter.unusedSimpArgs false
namespace Go.Proofs.YtmdcdhdjojimeaaGreatDoor
open Go.RowKit

theorem gua10 (n : Int) (s t : ByteArray) (l : List Tm) : guaB (.mk 10 n s t l) = (leafB 10 n s t l || (bareB false false false true n s t l.length && guasB l)) := by
 rw [bareFFFT]
 unfold guaB
 simp [Bool.and_assoc, Bool.and_comm, Bool.and_left_comm]
theorem gua9 (n : Int) (s t : ByteArray) (l : List Tm) : guaB (.mk 9 n s t l) = (leafB 9 n s t l || (bareB false false false true n s t l.length && ((l.length : Int) == 2) && guasB l)) := by
 rw [bareFFFT]
 have e : ((l.length : Int) == 2) = (l.length == 2) := by rw [Bool.eq_iff_iff]; simp; omega
 rw [e]
 unfold guaB
 simp [Bool.and_assoc, Bool.and_comm, Bool.and_left_comm]
theorem bareFTFT (n : Int) (s t : ByteArray) (len : Nat) : bareB false true false true n s t len = (n == 0 && emp t) := by
 unfold bareB; simp
theorem gua11 (n : Int) (s t : ByteArray) (l : List Tm) : guaB (.mk 11 n s t l) = (leafB 11 n s t l || (bareB false true false true n s t l.length && ((l.length : Int) == 2) && plusB s && guasB l)) := by
 rw [bareFTFT]
 have e : ((l.length : Int) == 2) = (l.length == 2) := by rw [Bool.eq_iff_iff]; simp; omega
 rw [e]
 unfold guaB
 simp [Bool.and_assoc, Bool.and_comm, Bool.and_left_comm]
theorem gua_no {k : Int} (h1 : k ≠ 10) (h2 : k ≠ 9) (h3 : k ≠ 11) (n : Int) (s t : ByteArray) (l : List Tm) : guaB (.mk k n s t l) = leafB k n s t l := by
 unfold guaB
 simp [h1, h2, h3]
theorem leaf_no {k : Int} (h1 : k ≠ 5) (h2 : k ≠ 6) (h3 : k ≠ 7) (h4 : k ≠ 8) (n : Int) (s t : ByteArray) (l : List Tm) : leafB k n s t l = false := by
 unfold leafB
 simp [h1, h2, h3, h4]
theorem plus_cases (s : ByteArray) : (plusB s = true ∧ (s.toList = [43] ∨ s.toList = [45] ∨ s.toList = [42])) ∨ (plusB s = false ∧ (s.toList == [43]) = false ∧ (s.toList == [45]) = false ∧ (s.toList == [42]) = false) := by
 unfold plusB
 rw [← Go.Lib.toList_data]
 simp only [List.any_cons, List.any_nil, Bool.or_false]
 by_cases h1 : s.toList = [43]
 ·exact .inl ⟨by rw [h1]; rfl, .inl h1⟩
 ·by_cases h2 : s.toList = [45]
  ·exact .inl ⟨by rw [h2]; rfl, .inr (.inl h2)⟩
  ·by_cases h3 : s.toList = [42]
   ·exact .inl ⟨by rw [h3]; rfl, .inr (.inr h3)⟩
   ·have e1 : (s.toList == [43]) = false := by simpa using h1
    have e2 : (s.toList == [45]) = false := by simpa using h2
    have e3 : (s.toList == [42]) = false := by simpa using h3
    exact .inr ⟨by rw [e1, e2, e3]; rfl, e1, e2, e3⟩
set_option maxHeartbeats 8000000 in
set_option maxRecDepth 100000 in
theorem rguarded_any (x : Tm) : ∀ (v : Value) (w : World), TmAt (· < w.heap.size) w x v →
  Calls Tryz.prog 136 #[v] w fun e w' => e = .returned (.bool (guaB x)) ∧ Below w.heap.size w w' := by
 induction x using Tm.ind with
 | h k n s t l ih =>
 intro v w hT
 obtain ⟨A, cap, rfl, hR, hk, hn, hs, ht⟩ := hT.parts
 have hlen := hR.max
 unfold maxLen at hlen
 have HR := Lib.hid hR
 have HIH := Lib.hid ih
 have HLF := Lib.hid (fun W => rleaf_any k n s t A l cap W hs)
 have HBR := Lib.hid (fun b1 b2 b3 b4 W => rbare_any b1 b2 b3 b4 n k s t A l.length cap W)
 clear hR ih hT hs ht hn
 obtain ⟨R, hRR⟩ : ∃ R, R = guaB (.mk k n s t l) := ⟨_, rfl⟩
 have HRR := Lib.hid hRR
 rw [← hRR]
 clear hRR
 obtain ⟨w1, hw1⟩ : ∃ w1, w1 = w.alloc (.cells #[.int .i8 k, .int .i64 n, .string s, .string t, .slice A l.length cap] 25) := ⟨_, rfl⟩
 have hb1 : Bx7 w w1 #[.int .i8 k, .int .i64 n, .string s, .string t, .slice A l.length cap] := bx7_of w _ w1 hw1
 have H1 := Lib.hid hb1
 clear hb1
 go_enter Tryz.func136, Tryz.ntmps136
 go_wp2_with fail
 rw [← hw1]
 clear hw1
 refine (HLF.out w1).mono ?_
 rintro e w2 ⟨rfl, b2⟩
 have H2 := Lib.hid (H1.out.under b2)
 clear b2
 obtain ⟨c1, hc1⟩ : ∃ c1, c1 = leafB k n s t l := ⟨_, rfl⟩
 rw [← hc1]
 have HC1 := Lib.hid hc1
 clear hc1
 cases c1
 rotate_left
 ·go_wp2_with fail
  go_ret
  exact ⟨ret_bool (by rw [HRR.out]; unfold guaB; rw [← HC1.out]; rfl), H2.out.below⟩
 have x0 : w2.cell? ⟨w.heap.size, 0, none⟩ = some (.int .i8 k) := H2.out.cell 0 rfl
 have x1 : w2.cell? ⟨w.heap.size, 1, none⟩ = some (.int .i64 n) := H2.out.cell 1 rfl
 have x2 : w2.cell? ⟨w.heap.size, 2, none⟩ = some (.string s) := H2.out.cell 2 rfl
 have x3 : w2.cell? ⟨w.heap.size, 3, none⟩ = some (.string t) := H2.out.cell 3 rfl
 have x4 : w2.cell? ⟨w.heap.size, 4, none⟩ = some (.slice A l.length cap) := H2.out.cell 4 rfl
 by_cases hk10 : k = 10
 ·subst hk10
  have HP : Hid (R = (bareB false false false true n s t l.length && guasB l)) := Lib.hid (by rw [HRR.out, gua10, ← HC1.out]; simp [Bool.and_assoc])
  go_wp2_with fail
  refine (HBR.out false false false true w2).mono ?_
  rintro e w3 ⟨rfl, b3⟩
  have H3 := Lib.hid (H2.out.under b3)
  clear b3
  obtain ⟨c2, hc2⟩ : ∃ c2, c2 = bareB false false false true n s t l.length := ⟨_, rfl⟩
  rw [← hc2] at HP ⊢
  clear hc2 x0 x1 x2 x3 x4
  cases c2
  ·go_wp2_with fail
   go_ret
   exact ⟨ret_bool (by rw [HP.out]; simp), H3.out.below⟩
  have x0 : w3.cell? ⟨w.heap.size, 0, none⟩ = some (.int .i8 10) := H3.out.cell 0 rfl
  have x2 : w3.cell? ⟨w.heap.size, 2, none⟩ = some (.string s) := H3.out.cell 2 rfl
  have x4 : w3.cell? ⟨w.heap.size, 4, none⟩ = some (.slice A l.length cap) := H3.out.cell 4 rfl
  go_wp2_with fail
  go_loopw [3] (fun i wr => ∃ j : Nat, j ≤ l.length ∧ i = .int .i64 j ∧ Bx7 w wr #[.int .i8 10, .int .i64 n, .string s, .string t, .slice A l.length cap] ∧ Hid (∀ y ∈ l.take j, guaB y = true)) (fun i _ => l.length - (intOf i).toNat)
  case atStart => exact ⟨0, Nat.zero_le _, rfl, H3.out, Lib.hid (fun y hy => by simp at hy)⟩
  case round =>
   obtain ⟨j, hj, rfl, hbx, hd⟩ := hrel
   have HW := Lib.hid hbx
   have x4 : wr.cell? ⟨w.heap.size, 4, none⟩ = some (.slice A l.length cap) := hbx.cell 4 rfl
   clear hbx
   by_cases hlt : j < l.length
   ·obtain ⟨y, hy⟩ : ∃ y, l[j]? = some y := ⟨l[j], List.getElem?_eq_getElem hlt⟩
    have HMEM := Lib.hid (List.mem_of_getElem? hy)
    obtain ⟨g, off, o, c0, c1, c2, c3, c4, rfl, hTy, hEy⟩ := row_at7 HR.out HW.out.below hy
    obtain ⟨d0, d1, d2, d3, d4, he, e0, e1, e2, e3, e4⟩ := hEy
    cases he
    have HTY := Lib.hid hTy
    have HY := Lib.hid hy
    clear hTy hy
    go_wp2_with fail
    refine (HIH.out y HMEM.out _ _ HTY.out).mono ?_
    rintro e w9 ⟨rfl, b9⟩
    have H9 := Lib.hid (HW.out.under b9)
    clear b9 e0 e1 e2 e3 e4 x4
    obtain ⟨c, hc⟩ : ∃ c, c = guaB y := ⟨_, rfl⟩
    rw [← hc]
    have HC := Lib.hid hc
    clear hc
    cases c
    ·go_wp2_with fail
     go_ret
     exact ⟨ret_bool (by rw [HP.out]; have h : guasB l = false := by { rw [Bool.eq_false_iff]; intro h; have := guasB_all.1 h y HMEM.out; rw [← HC.out] at this; cases this }; rw [h]; simp), H9.out.below⟩
    ·go_wp2_with fail
     go_roundw
     case rel => exact ⟨j + 1, by omega, by go_num, H9.out, Lib.hid (fun z hz => by
      rw [List.take_add_one, HY.out] at hz
      rcases List.mem_append.1 hz with hz | hz
      ·exact hd.out z hz
      ·simp at hz; subst hz; exact HC.out.symm)⟩
     case measure => simp [intOf]; omega
   ·obtain rfl : j = l.length := by omega
    have HALL : Hid (∀ y ∈ l, guaB y = true) := Lib.hid (fun y hy => hd.out y (by rw [List.take_length]; exact hy))
    clear hd
    go_wp2_with fail
    go_ret
    exact ⟨ret_bool (by rw [HP.out, guasB_all.2 HALL.out]; simp), HW.out.below⟩
 by_cases hk9 : k = 9
 ·subst hk9
  have HP : Hid (R = (bareB false false false true n s t l.length && ((l.length : Int) == 2) && guasB l)) := Lib.hid (by rw [HRR.out, gua9, ← HC1.out]; simp [Bool.and_assoc])
  go_wp2_with fail
  refine (HBR.out false false false true w2).mono ?_
  rintro e w3 ⟨rfl, b3⟩
  have H3 := Lib.hid (H2.out.under b3)
  clear b3
  obtain ⟨c2, hc2⟩ : ∃ c2, c2 = bareB false false false true n s t l.length := ⟨_, rfl⟩
  rw [← hc2] at HP ⊢
  clear hc2 x0 x1 x2 x3 x4
  cases c2
  ·go_wp2_with fail
   go_ret
   exact ⟨ret_bool (by rw [HP.out]; simp), H3.out.below⟩
  have x0 : w3.cell? ⟨w.heap.size, 0, none⟩ = some (.int .i8 9) := H3.out.cell 0 rfl
  have x2 : w3.cell? ⟨w.heap.size, 2, none⟩ = some (.string s) := H3.out.cell 2 rfl
  have x4 : w3.cell? ⟨w.heap.size, 4, none⟩ = some (.slice A l.length cap) := H3.out.cell 4 rfl
  by_cases hl2 : (l.length : Int) = 2
  rotate_left
  ·have q2 : ((l.length : Int) == 2) = false := by simpa using hl2
   go_wp2_with fail
   go_ret
   exact ⟨ret_bool (by rw [HP.out, q2]; simp), H3.out.below⟩
  have q2 : ((l.length : Int) == 2) = true := by simpa using hl2
  rw [q2] at HP
  clear q2
  go_wp2_with fail
  clear hl2
  go_loopw [3] (fun i wr => ∃ j : Nat, j ≤ l.length ∧ i = .int .i64 j ∧ Bx7 w wr #[.int .i8 9, .int .i64 n, .string s, .string t, .slice A l.length cap] ∧ Hid (∀ y ∈ l.take j, guaB y = true)) (fun i _ => l.length - (intOf i).toNat)
  case atStart => exact ⟨0, Nat.zero_le _, rfl, H3.out, Lib.hid (fun y hy => by simp at hy)⟩
  case round =>
   obtain ⟨j, hj, rfl, hbx, hd⟩ := hrel
   have HW := Lib.hid hbx
   have x4 : wr.cell? ⟨w.heap.size, 4, none⟩ = some (.slice A l.length cap) := hbx.cell 4 rfl
   clear hbx
   by_cases hlt : j < l.length
   ·obtain ⟨y, hy⟩ : ∃ y, l[j]? = some y := ⟨l[j], List.getElem?_eq_getElem hlt⟩
    have HMEM := Lib.hid (List.mem_of_getElem? hy)
    obtain ⟨g, off, o, c0, c1, c2, c3, c4, rfl, hTy, hEy⟩ := row_at7 HR.out HW.out.below hy
    obtain ⟨d0, d1, d2, d3, d4, he, e0, e1, e2, e3, e4⟩ := hEy
    cases he
    have HTY := Lib.hid hTy
    have HY := Lib.hid hy
    clear hTy hy
    go_wp2_with fail
    refine (HIH.out y HMEM.out _ _ HTY.out).mono ?_
    rintro e w9 ⟨rfl, b9⟩
    have H9 := Lib.hid (HW.out.under b9)
    clear b9 e0 e1 e2 e3 e4 x4
    obtain ⟨c, hc⟩ : ∃ c, c = guaB y := ⟨_, rfl⟩
    rw [← hc]
    have HC := Lib.hid hc
    clear hc
    cases c
    ·go_wp2_with fail
     go_ret
     exact ⟨ret_bool (by rw [HP.out]; have h : guasB l = false := by { rw [Bool.eq_false_iff]; intro h; have := guasB_all.1 h y HMEM.out; rw [← HC.out] at this; cases this }; rw [h]; simp), H9.out.below⟩
    ·go_wp2_with fail
     go_roundw
     case rel => exact ⟨j + 1, by omega, by go_num, H9.out, Lib.hid (fun z hz => by
      rw [List.take_add_one, HY.out] at hz
      rcases List.mem_append.1 hz with hz | hz
      ·exact hd.out z hz
      ·simp at hz; subst hz; exact HC.out.symm)⟩
     case measure => simp [intOf]; omega
   ·obtain rfl : j = l.length := by omega
    have HALL : Hid (∀ y ∈ l, guaB y = true) := Lib.hid (fun y hy => hd.out y (by rw [List.take_length]; exact hy))
    clear hd
    go_wp2_with fail
    go_ret
    exact ⟨ret_bool (by rw [HP.out, guasB_all.2 HALL.out]; simp), HW.out.below⟩
 by_cases hk11 : k = 11
 ·subst hk11
  have HP : Hid (R = (bareB false true false true n s t l.length && ((l.length : Int) == 2) && plusB s && guasB l)) := Lib.hid (by rw [HRR.out, gua11, ← HC1.out]; simp [Bool.and_assoc])
  go_wp2_with fail
  refine (HBR.out false true false true w2).mono ?_
  rintro e w3 ⟨rfl, b3⟩
  have H3 := Lib.hid (H2.out.under b3)
  clear b3
  obtain ⟨c2, hc2⟩ : ∃ c2, c2 = bareB false true false true n s t l.length := ⟨_, rfl⟩
  rw [← hc2] at HP ⊢
  clear hc2 x0 x1 x2 x3 x4
  cases c2
  ·go_wp2_with fail
   go_ret
   exact ⟨ret_bool (by rw [HP.out]; simp), H3.out.below⟩
  have x0 : w3.cell? ⟨w.heap.size, 0, none⟩ = some (.int .i8 11) := H3.out.cell 0 rfl
  have x2 : w3.cell? ⟨w.heap.size, 2, none⟩ = some (.string s) := H3.out.cell 2 rfl
  have x4 : w3.cell? ⟨w.heap.size, 4, none⟩ = some (.slice A l.length cap) := H3.out.cell 4 rfl
  by_cases hl2 : (l.length : Int) = 2
  rotate_left
  ·have q2 : ((l.length : Int) == 2) = false := by simpa using hl2
   go_wp2_with fail
   go_ret
   exact ⟨ret_bool (by rw [HP.out, q2]; simp), H3.out.below⟩
  have q2 : ((l.length : Int) == 2) = true := by simpa using hl2
  rw [q2] at HP
  clear q2
  rcases plus_cases s with ⟨hp, hs9⟩ | ⟨hp, p1, p2, p3⟩
  rotate_left
  ·rw [hp] at HP
   go_wp2_with fail
   go_ret
   exact ⟨ret_bool (by rw [HP.out]; simp), H3.out.below⟩
  rw [hp] at HP
  rcases hs9 with hs9 | hs9 | hs9
  all_goals
   go_wp2_with fail
   clear hl2 hs9
   go_loopw [3] (fun i wr => ∃ j : Nat, j ≤ l.length ∧ i = .int .i64 j ∧ Bx7 w wr #[.int .i8 11, .int .i64 n, .string s, .string t, .slice A l.length cap] ∧ Hid (∀ y ∈ l.take j, guaB y = true)) (fun i _ => l.length - (intOf i).toNat)
   case atStart => exact ⟨0, Nat.zero_le _, rfl, H3.out, Lib.hid (fun y hy => by simp at hy)⟩
   case round =>
    obtain ⟨j, hj, rfl, hbx, hd⟩ := hrel
    have HW := Lib.hid hbx
    have x4 : wr.cell? ⟨w.heap.size, 4, none⟩ = some (.slice A l.length cap) := hbx.cell 4 rfl
    clear hbx
    by_cases hlt : j < l.length
    ·obtain ⟨y, hy⟩ : ∃ y, l[j]? = some y := ⟨l[j], List.getElem?_eq_getElem hlt⟩
     have HMEM := Lib.hid (List.mem_of_getElem? hy)
     obtain ⟨g, off, o, c0, c1, c2, c3, c4, rfl, hTy, hEy⟩ := row_at7 HR.out HW.out.below hy
     obtain ⟨d0, d1, d2, d3, d4, he, e0, e1, e2, e3, e4⟩ := hEy
     cases he
     have HTY := Lib.hid hTy
     have HY := Lib.hid hy
     clear hTy hy
     go_wp2_with fail
     refine (HIH.out y HMEM.out _ _ HTY.out).mono ?_
     rintro e w9 ⟨rfl, b9⟩
     have H9 := Lib.hid (HW.out.under b9)
     clear b9 e0 e1 e2 e3 e4 x4
     obtain ⟨c, hc⟩ : ∃ c, c = guaB y := ⟨_, rfl⟩
     rw [← hc]
     have HC := Lib.hid hc
     clear hc
     cases c
     ·go_wp2_with fail
      go_ret
      exact ⟨ret_bool (by rw [HP.out]; have h : guasB l = false := by { rw [Bool.eq_false_iff]; intro h; have := guasB_all.1 h y HMEM.out; rw [← HC.out] at this; cases this }; rw [h]; simp), H9.out.below⟩
     ·go_wp2_with fail
      go_roundw
      case rel => exact ⟨j + 1, by omega, by go_num, H9.out, Lib.hid (fun z hz => by
       rw [List.take_add_one, HY.out] at hz
       rcases List.mem_append.1 hz with hz | hz
       ·exact hd.out z hz
       ·simp at hz; subst hz; exact HC.out.symm)⟩
      case measure => simp [intOf]; omega
    ·obtain rfl : j = l.length := by omega
     have HALL : Hid (∀ y ∈ l, guaB y = true) := Lib.hid (fun y hy => hd.out y (by rw [List.take_length]; exact hy))
     clear hd
     go_wp2_with fail
     go_ret
     exact ⟨ret_bool (by rw [HP.out, guasB_all.2 HALL.out]; simp), HW.out.below⟩
 have q10 : (k == 10) = false := by simpa using hk10
 have q9 : (k == 9) = false := by simpa using hk9
 have q11 : (k == 11) = false := by simpa using hk11
 go_wp2_with fail
 go_ret
 exact ⟨ret_bool (by rw [HRR.out, gua_no hk10 hk9 hk11, ← HC1.out]), H2.out.below⟩
end Go.Proofs.YtmdcdhdjojimeaaGreatDoor
end
section
set_option linter.unusedVariables false
set_option linter.unusedSimpArgs false
namespace Go.Proofs.YtmdcdhdjojimeaaGreatDoor
open Go.RowKit

theorem rKind_any (s : ByteArray) (w : World) : Calls Tryz.prog 137 #[.string s] w fun e w' => e = .returned (.bool (kindB s)) ∧ w = w' := by
 go_enter Tryz.func137, Tryz.ntmps137
 go_wp2
 all_goals
  go_ret
  refine ⟨ret_bool ?_, rfl⟩
  unfold kindB
  rw [← Go.Lib.toList_data]
  simp only [List.any_cons, List.any_nil]
  simp_all [Bool.or_assoc]
theorem nrow_0 {w V : World} {A : Option Addr} {n cap : Nat} {l : List Tm} (h : TRow (· < w.heap.size) w A n cap l) (hb : Below w.heap.size w V) {y : Tm} (hy : l[0]? = some y) :
  ∃ g off o c0 c1 c2 c3 c4, A = some ⟨g, off, o⟩ ∧ TmAt (· < V.heap.size) V y (.agg #[c0, c1, c2, c3, c4]) ∧ V.cell? ⟨g, off, o⟩ = some c0 ∧ V.cell? ⟨g, off + 1, none⟩ = some c1 ∧ V.cell? ⟨g, off + 2, none⟩ = some c2 ∧ V.cell? ⟨g, off + 3, none⟩ = some c3 ∧ V.cell? ⟨g, off + 4, none⟩ = some c4 := by
 obtain ⟨g, off, o, c0, c1, c2, c3, c4, hA, hT, d0, d1, d2, d3, d4, he, e0, e1, e2, e3, e4⟩ := row_at7 h hb hy
 cases he
 exact ⟨g, off, o, _, _, _, _, _, hA, hT, e0, e1, e2, e3, e4⟩
theorem nrow_1 {w V : World} {g off : Nat} {o : Option Nat} {n cap : Nat} {l : List Tm} (h : TRow (· < w.heap.size) w (some ⟨g, off, o⟩) n cap l) (hb : Below w.heap.size w V) {y : Tm} (hy : l[1]? = some y) :
  ∃ c0 c1 c2 c3 c4, TmAt (· < V.heap.size) V y (.agg #[c0, c1, c2, c3, c4]) ∧ V.cell? ⟨g, off + 5, none⟩ = some c0 ∧ V.cell? ⟨g, off + 5 + 1, none⟩ = some c1 ∧ V.cell? ⟨g, off + 5 + 2, none⟩ = some c2 ∧ V.cell? ⟨g, off + 5 + 3, none⟩ = some c3 ∧ V.cell? ⟨g, off + 5 + 4, none⟩ = some c4 := by
 obtain ⟨g', off', o', c0, c1, c2, c3, c4, hA, hT, d0, d1, d2, d3, d4, he, e0, e1, e2, e3, e4⟩ := row_at7 h hb hy
 cases hA
 cases he
 exact ⟨_, _, _, _, _, hT, e0, e1, e2, e3, e4⟩
theorem test11 (n : Int) (s t : ByteArray) (l : List Tm) : testB (.mk 11 n s t l) = (cmpB s && bareB false true false true n s t l.length && ((l.length : Int) == 2) && guasB l) := by
 rw [bareFTFT]
 have e : ((l.length : Int) == 2) = (l.length == 2) := by rw [Bool.eq_iff_iff]; simp; omega
 rw [e]
 unfold testB
 simp [Bool.and_assoc, Bool.and_comm, Bool.and_left_comm]
theorem test12 (n : Int) (s t : ByteArray) (l : List Tm) : testB (.mk 12 n s t l) = (kindB s && bareB false true false true n s t l.length && ((l.length : Int) == 1) && guasB l) := by
 rw [bareFTFT]
 have e : ((l.length : Int) == 1) = (l.length == 1) := by rw [Bool.eq_iff_iff]; simp; omega
 rw [e]
 unfold testB
 simp [Bool.and_assoc, Bool.and_comm, Bool.and_left_comm]
theorem test_no {k : Int} (h1 : k ≠ 11) (h2 : k ≠ 12) (n : Int) (s t : ByteArray) (l : List Tm) : testB (.mk k n s t l) = false := by
 unfold testB
 simp [h1, h2]
set_option maxHeartbeats 8000000 in
set_option maxRecDepth 100000 in
theorem rtest_any (x : Tm) (v : Value) (w : World) (hT : TmAt (· < w.heap.size) w x v) :
  Calls Tryz.prog 95 #[v] w fun e w' => e = .returned (.bool (testB x)) ∧ Below w.heap.size w w' := by
 obtain ⟨k, n, s, t, l⟩ := x
 obtain ⟨A, cap, rfl, hR, hk, hn, hs, ht⟩ := hT.parts
 have hlen := hR.max
 unfold maxLen at hlen
 have HR := Lib.hid hR
 have HCM := Lib.hid (fun W => rCompare_any s 0 W)
 have HKD := Lib.hid (fun W => rKind_any s W)
 have HBR := Lib.hid (fun b1 b2 b3 b4 W => rbare_any b1 b2 b3 b4 n k s t A l.length cap W)
 clear hR hT hs ht hn
 obtain ⟨R, hRR⟩ : ∃ R, R = testB (.mk k n s t l) := ⟨_, rfl⟩
 have HRR := Lib.hid hRR
 rw [← hRR]
 clear hRR
 obtain ⟨w1, hw1⟩ : ∃ w1, w1 = w.alloc (.cells #[.int .i8 k, .int .i64 n, .string s, .string t, .slice A l.length cap] 25) := ⟨_, rfl⟩
 have hb1 : Bx7 w w1 #[.int .i8 k, .int .i64 n, .string s, .string t, .slice A l.length cap] := bx7_of w _ w1 hw1
 have H1 := Lib.hid hb1
 clear hb1
 have hx := H1.out
 have x0 : w1.cell? ⟨w.heap.size, 0, none⟩ = some (.int .i8 k) := hx.cell 0 rfl
 have x1 : w1.cell? ⟨w.heap.size, 1, none⟩ = some (.int .i64 n) := hx.cell 1 rfl
 have x2 : w1.cell? ⟨w.heap.size, 2, none⟩ = some (.string s) := hx.cell 2 rfl
 have x3 : w1.cell? ⟨w.heap.size, 3, none⟩ = some (.string t) := hx.cell 3 rfl
 have x4 : w1.cell? ⟨w.heap.size, 4, none⟩ = some (.slice A l.length cap) := hx.cell 4 rfl
 clear hx
 go_enter Tryz.func95, Tryz.ntmps95
 by_cases hk11 : k = 11
 ·subst hk11
  have HP : Hid (R = (cmpB s && bareB false true false true n s t l.length && ((l.length : Int) == 2) && guasB l)) := Lib.hid (by rw [HRR.out, test11])
  go_wp2_with fail
  rw [← hw1]
  clear hw1
  refine (HCM.out w1).mono ?_
  rintro e w' ⟨rfl, rfl⟩
  rw [cmpR_cmpB]
  obtain ⟨c1, hc1⟩ : ∃ c1, c1 = cmpB s := ⟨_, rfl⟩
  rw [← hc1] at HP ⊢
  clear hc1
  cases c1
  ·go_wp2_with fail
   go_ret
   exact ⟨ret_bool (by rw [HP.out]; simp), H1.out.below⟩
  go_wp2_with fail
  refine (HBR.out false true false true w1).mono ?_
  rintro e w2 ⟨rfl, b2⟩
  have H2 := Lib.hid (H1.out.under b2)
  clear b2
  obtain ⟨c2, hc2⟩ : ∃ c2, c2 = bareB false true false true n s t l.length := ⟨_, rfl⟩
  rw [← hc2] at HP ⊢
  clear hc2
  cases c2
  ·go_wp2_with fail
   go_ret
   exact ⟨ret_bool (by rw [HP.out]; simp), H2.out.below⟩
  clear x0 x1 x2 x3 x4
  have x4 : w2.cell? ⟨w.heap.size, 4, none⟩ = some (.slice A l.length cap) := H2.out.cell 4 rfl
  by_cases hl2 : (l.length : Int) = 2
  rotate_left
  ·have q2 : ((l.length : Int) == 2) = false := by simpa using hl2
   go_wp2_with fail
   go_ret
   exact ⟨ret_bool (by rw [HP.out, q2]; simp), H2.out.below⟩
  have q2 : ((l.length : Int) == 2) = true := by simpa using hl2
  rw [q2] at HP
  clear q2
  obtain ⟨a, b, hab⟩ : ∃ a b, l = [a, b] := by
   match l, hl2 with
   | [a, b], _ => exact ⟨a, b, rfl⟩
   | [], h => simp at h
   | [_], h => simp at h
   | _ :: _ :: _ :: _, h => simp at h; omega
  have HA0 : Hid (l[0]? = some a) := Lib.hid (by rw [hab]; rfl)
  have HA1 : Hid (l[1]? = some b) := Lib.hid (by rw [hab]; rfl)
  have hgs : guasB l = (guaB a && guaB b) := by rw [hab]; simp [guasB]
  rw [hgs] at HP
  clear hgs hab
  obtain ⟨g, off, oo, c0, c1, c2, c3, c4, rfl, hTy, e0, e1, e2, e3, e4⟩ := nrow_0 HR.out H2.out.below HA0.out
  have HTY := Lib.hid hTy
  clear hTy
  have i0 : (0 : Int) < (l.length : Int) := by omega
  have i1 : (1 : Int) < (l.length : Int) := by omega
  go_wp2_with fail
  refine (rguarded_any a _ w2 HTY.out).mono ?_
  rintro e w3 ⟨rfl, b3⟩
  have H3 := Lib.hid (H2.out.under b3)
  clear b3 x4 e0 e1 e2 e3 e4 HTY
  obtain ⟨c5, hc5⟩ : ∃ c5, c5 = guaB a := ⟨_, rfl⟩
  rw [← hc5] at HP ⊢
  clear hc5
  cases c5
  ·go_wp2_with fail
   go_ret
   exact ⟨ret_bool (by rw [HP.out]; simp), H3.out.below⟩
  have x4 : w3.cell? ⟨w.heap.size, 4, none⟩ = some (.slice (some ⟨g, off, oo⟩) l.length cap) := H3.out.cell 4 rfl
  obtain ⟨c0, c1, c2, c3, c4, hTy, e0, e1, e2, e3, e4⟩ := nrow_1 HR.out H3.out.below HA1.out
  have HTY := Lib.hid hTy
  clear hTy
  go_wp2_with fail
  refine (rguarded_any b _ w3 HTY.out).mono ?_
  rintro e w4 ⟨rfl, b4⟩
  have H4 := Lib.hid (H3.out.under b4)
  clear b4 x4 e0 e1 e2 e3 e4 HTY
  go_wp2_with fail
  go_ret
  exact ⟨ret_bool (by rw [HP.out]; simp), H4.out.below⟩
 by_cases hk12 : k = 12
 ·subst hk12
  have HP : Hid (R = (kindB s && bareB false true false true n s t l.length && ((l.length : Int) == 1) && guasB l)) := Lib.hid (by rw [HRR.out, test12])
  go_wp2_with fail
  rw [← hw1]
  clear hw1
  refine (HKD.out w1).mono ?_
  rintro e w' ⟨rfl, rfl⟩
  skip
  obtain ⟨c1, hc1⟩ : ∃ c1, c1 = kindB s := ⟨_, rfl⟩
  rw [← hc1] at HP ⊢
  clear hc1
  cases c1
  ·go_wp2_with fail
   go_ret
   exact ⟨ret_bool (by rw [HP.out]; simp), H1.out.below⟩
  go_wp2_with fail
  refine (HBR.out false true false true w1).mono ?_
  rintro e w2 ⟨rfl, b2⟩
  have H2 := Lib.hid (H1.out.under b2)
  clear b2
  obtain ⟨c2, hc2⟩ : ∃ c2, c2 = bareB false true false true n s t l.length := ⟨_, rfl⟩
  rw [← hc2] at HP ⊢
  clear hc2
  cases c2
  ·go_wp2_with fail
   go_ret
   exact ⟨ret_bool (by rw [HP.out]; simp), H2.out.below⟩
  clear x0 x1 x2 x3 x4
  have x4 : w2.cell? ⟨w.heap.size, 4, none⟩ = some (.slice A l.length cap) := H2.out.cell 4 rfl
  by_cases hl2 : (l.length : Int) = 1
  rotate_left
  ·have q2 : ((l.length : Int) == 1) = false := by simpa using hl2
   go_wp2_with fail
   go_ret
   exact ⟨ret_bool (by rw [HP.out, q2]; simp), H2.out.below⟩
  have q2 : ((l.length : Int) == 1) = true := by simpa using hl2
  rw [q2] at HP
  clear q2
  obtain ⟨a, hab⟩ : ∃ a, l = [a] := by
   match l, hl2 with
   | [a], _ => exact ⟨a, rfl⟩
   | [], h => simp at h
   | _ :: _ :: _, h => simp at h; omega
  have HA0 : Hid (l[0]? = some a) := Lib.hid (by rw [hab]; rfl)
  have hgs : guasB l = guaB a := by rw [hab]; simp [guasB]
  rw [hgs] at HP
  clear hgs hab
  obtain ⟨g, off, oo, c0, c1, c2, c3, c4, rfl, hTy, e0, e1, e2, e3, e4⟩ := nrow_0 HR.out H2.out.below HA0.out
  have HTY := Lib.hid hTy
  clear hTy
  have i0 : (0 : Int) < (l.length : Int) := by omega
  go_wp2_with fail
  refine (rguarded_any a _ w2 HTY.out).mono ?_
  rintro e w3 ⟨rfl, b3⟩
  have H3 := Lib.hid (H2.out.under b3)
  clear b3 x4 e0 e1 e2 e3 e4 HTY
  go_wp2_with fail
  go_ret
  exact ⟨ret_bool (by rw [HP.out]; simp), H3.out.below⟩
 have q11 : (k == 11) = false := by simpa using hk11
 have q12 : (k == 12) = false := by simpa using hk12
 go_wp2_with fail
 rw [← hw1]
 clear hw1
 go_ret
 exact ⟨ret_bool (by rw [HRR.out, test_no hk11 hk12]), H1.out.below⟩
set_option maxHeartbeats 8000000 in
set_option maxRecDepth 100000 in
theorem rguard_any (x : Tm) (v : Value) (w : World) (hT : TmAt (· < w.heap.size) w x v) :
  Calls Tryz.prog 85 #[v] w fun e w' => e = .returned (.bool (guardB x)) ∧ Below w.heap.size w w' := by
 obtain ⟨k, n, s, t, l⟩ := x
 obtain ⟨A, cap, rfl, hR, hk, hn, hs, ht⟩ := hT.parts
 have hlen := hR.max
 unfold maxLen at hlen
 have HR := Lib.hid hR
 have HBR := Lib.hid (fun b1 b2 b3 b4 W => rbare_any b1 b2 b3 b4 n k s t A l.length cap W)
 clear hR hT hs ht hn
 obtain ⟨R, hRR⟩ : ∃ R, R = guardB (.mk k n s t l) := ⟨_, rfl⟩
 have HP : Hid (R = (k == 4 && bareB false false false true n s t l.length && l.all testB)) := Lib.hid (by rw [hRR, bareFFFT]; unfold guardB; simp [Bool.and_assoc])
 rw [← hRR]
 clear hRR
 obtain ⟨w1, hw1⟩ : ∃ w1, w1 = w.alloc (.cells #[.int .i8 k, .int .i64 n, .string s, .string t, .slice A l.length cap] 25) := ⟨_, rfl⟩
 have hb1 : Bx7 w w1 #[.int .i8 k, .int .i64 n, .string s, .string t, .slice A l.length cap] := bx7_of w _ w1 hw1
 have H1 := Lib.hid hb1
 clear hb1
 have hx := H1.out
 have x0 : w1.cell? ⟨w.heap.size, 0, none⟩ = some (.int .i8 k) := hx.cell 0 rfl
 have x1 : w1.cell? ⟨w.heap.size, 1, none⟩ = some (.int .i64 n) := hx.cell 1 rfl
 have x2 : w1.cell? ⟨w.heap.size, 2, none⟩ = some (.string s) := hx.cell 2 rfl
 have x3 : w1.cell? ⟨w.heap.size, 3, none⟩ = some (.string t) := hx.cell 3 rfl
 have x4 : w1.cell? ⟨w.heap.size, 4, none⟩ = some (.slice A l.length cap) := hx.cell 4 rfl
 clear hx
 go_enter Tryz.func85, Tryz.ntmps85
 by_cases hk4 : k = 4
 rotate_left
 ·have q4 : (k == 4) = false := by simpa using hk4
  rw [q4] at HP
  go_wp2_with fail
  rw [← hw1]
  go_ret
  exact ⟨ret_bool (by rw [HP.out]; simp), H1.out.below⟩
 subst hk4
 go_wp2_with fail
 rw [← hw1]
 clear hw1
 refine (HBR.out false false false true w1).mono ?_
 rintro e w2 ⟨rfl, b2⟩
 have H2 := Lib.hid (H1.out.under b2)
 clear b2
 obtain ⟨c2, hc2⟩ : ∃ c2, c2 = bareB false false false true n s t l.length := ⟨_, rfl⟩
 rw [← hc2] at HP ⊢
 clear hc2
 cases c2
 ·go_wp2_with fail
  go_ret
  exact ⟨ret_bool (by rw [HP.out]; simp), H2.out.below⟩
 clear x0 x1 x2 x3 x4
 have x4 : w2.cell? ⟨w.heap.size, 4, none⟩ = some (.slice A l.length cap) := H2.out.cell 4 rfl
 go_wp2_with fail
 go_loopw [3] (fun i wr => ∃ j : Nat, j ≤ l.length ∧ i = .int .i64 j ∧ Bx7 w wr #[.int .i8 4, .int .i64 n, .string s, .string t, .slice A l.length cap] ∧ Hid (∀ y ∈ l.take j, testB y = true)) (fun i _ => l.length - (intOf i).toNat)
 case atStart => exact ⟨0, Nat.zero_le _, rfl, H2.out, Lib.hid (fun y hy => by simp at hy)⟩
 case round =>
  obtain ⟨j, hj, rfl, hbx, hd⟩ := hrel
  have HW := Lib.hid hbx
  have x4 : wr.cell? ⟨w.heap.size, 4, none⟩ = some (.slice A l.length cap) := hbx.cell 4 rfl
  clear hbx
  by_cases hlt : j < l.length
  ·obtain ⟨y, hy⟩ : ∃ y, l[j]? = some y := ⟨l[j], List.getElem?_eq_getElem hlt⟩
   have HMEM := Lib.hid (List.mem_of_getElem? hy)
   obtain ⟨g, off, o, c0, c1, c2, c3, c4, rfl, hTy, hEy⟩ := row_at7 HR.out HW.out.below hy
   obtain ⟨d0, d1, d2, d3, d4, he, e0, e1, e2, e3, e4⟩ := hEy
   cases he
   have HTY := Lib.hid hTy
   have HY := Lib.hid hy
   clear hTy hy
   go_wp2_with fail
   refine (rtest_any y _ _ HTY.out).mono ?_
   rintro e w9 ⟨rfl, b9⟩
   have H9 := Lib.hid (HW.out.under b9)
   clear b9 e0 e1 e2 e3 e4 x4
   obtain ⟨c, hc⟩ : ∃ c, c = testB y := ⟨_, rfl⟩
   rw [← hc]
   have HC := Lib.hid hc
   clear hc
   cases c
   ·go_wp2_with fail
    go_ret
    exact ⟨ret_bool (by rw [HP.out]; have h : l.all testB = false := by { rw [Bool.eq_false_iff]; intro h; have := List.all_eq_true.1 h y HMEM.out; rw [← HC.out] at this; cases this }; rw [h]; simp), H9.out.below⟩
   ·go_wp2_with fail
    go_roundw
    case rel => exact ⟨j + 1, by omega, by go_num, H9.out, Lib.hid (fun z hz => by
     rw [List.take_add_one, HY.out] at hz
     rcases List.mem_append.1 hz with hz | hz
     ·exact hd.out z hz
     ·simp at hz; subst hz; exact HC.out.symm)⟩
    case measure => simp [intOf]; omega
  ·obtain rfl : j = l.length := by omega
   have HALL : Hid (∀ y ∈ l, testB y = true) := Lib.hid (fun y hy => hd.out y (by rw [List.take_length]; exact hy))
   clear hd
   go_wp2_with fail
   go_ret
   exact ⟨ret_bool (by rw [HP.out, List.all_eq_true.2 HALL.out]; simp), HW.out.below⟩
end Go.Proofs.YtmdcdhdjojimeaaGreatDoor
end
