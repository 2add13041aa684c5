/- Layer 9: the document's own find and Find (written by gen_rf9a.py). -/
import Derived.Test.YtmdcdhdjojimeaaGreatDoorKRf7I
import Derived.Test.YtmdcdhdjojimeaaGreatDoorKWr3
import Derived.Test.YtmdcdhdjojimeaaGreatDoorKFind9
section
set_option linter.unusedVariables false
set_option linter.unusedSimpArgs false
namespace Go.Proofs.YtmdcdhdjojimeaaGreatDoor
open Go.RowKit

theorem mods_eq (k n : Int) (s t : ByteArray) (l : List Tm) : modsB (.mk k n s t l) = (k == 0 && bareB false false false true n s t l.length && l.all modB) := by
 rw [bareFFFT]; unfold modsB; simp [Bool.and_assoc]
theorem mod_eq (k n : Int) (s t : ByteArray) (l : List Tm) : modB (.mk k n s t l) = (k == 1 && bareB false true false true n s t l.length && atomB s && l.all funB) := by
 rw [bareFTFT]; unfold modB; simp [Bool.and_assoc]
theorem bareTTFT (n : Int) (s t : ByteArray) (len : Nat) : bareB true true false true n s t len = emp t := by unfold bareB; simp
theorem fun_eq (k n : Int) (s t : ByteArray) (l : List Tm) : funB (.mk k n s t l) = (k == 2 && bareB true true false true n s t l.length && atomB s && decide (0 ≤ n ∧ n ≤ 8) && (clsB n.toNat l && !l.isEmpty)) := by
 rw [bareTTFT]; unfold funB; simp [Bool.and_assoc, Bool.and_comm, Bool.and_left_comm]
set_option maxHeartbeats 16000000 in
set_option maxRecDepth 100000 in
theorem rcheck7_any (x : Tm) (v : Value) (w : World) (hT : TmAt (· < w.heap.size) w x v) :
  Calls Tryz.prog 23 #[v] w fun e w' => e = .returned (.int .i64 (checkR x)) ∧ Below w.heap.size w w' := by
 obtain ⟨k, n, s, t, l⟩ := x
 obtain ⟨A, cap, rfl, hR, hk, hn, hs, ht⟩ := hT.parts
 have hlen := hR.max
 unfold maxLen at hlen
 have HR := Lib.hid hR
 have HFT := Lib.hid (fun V (hb : Below w.heap.size w V) => rFits_any (.mk k n s t l) _ V (hT.laterN hb))
 have HBR := Lib.hid (fun b1 b2 b3 b4 W => rbare_any b1 b2 b3 b4 n k s t A l.length cap W)
 obtain ⟨R, hRR⟩ : ∃ R, R = checkR (.mk k n s t l) := ⟨_, rfl⟩
 have H70 : Hid ((fitsB (.mk k n s t l) = false ∨ modsB (.mk k n s t l) = false) → R = 70) := Lib.hid (fun h => by
  rw [hRR]; unfold checkR
  rw [if_neg]
  rintro ⟨h1, h2⟩
  rcases h with h | h
  ·rw [h] at h1; cases h1
  ·rw [h] at h2; cases h2)
 have HOK : Hid (fitsB (.mk k n s t l) = true → modsB (.mk k n s t l) = true → R = 0) := Lib.hid (fun h1 h2 => by rw [hRR]; unfold checkR; rw [if_pos ⟨h1, h2⟩])
 have HMQ := Lib.hid (mods_eq k n s t l)
 rw [← hRR]
 clear hR hT hs ht hn hk hRR
 obtain ⟨w1, hw1⟩ : ∃ w1, w1 = w.alloc (.cells #[.int .i8 k, .int .i64 n, .string s, .string t, .slice A l.length cap] 25) := ⟨_, rfl⟩
 have hb1 : Bx7 w w1 #[.int .i8 k, .int .i64 n, .string s, .string t, .slice A l.length cap] := bx7_of w _ w1 hw1
 have H1 := Lib.hid hb1
 clear hb1
 go_enter Tryz.func23, Tryz.ntmps23
 go_wp2_with fail
 rw [← hw1]
 clear hw1
 refine (HFT.out w1 H1.out.below).mono ?_
 rintro e w2 ⟨rfl, b2⟩
 have H2 := Lib.hid (H1.out.under b2)
 clear b2
 obtain ⟨cf, hcf⟩ : ∃ cf, cf = fitsB (.mk k n s t l) := ⟨_, rfl⟩
 rw [← hcf] at H70 HOK ⊢
 clear hcf
 have x0 : w2.cell? ⟨w.heap.size, 0, none⟩ = some (.int .i8 k) := H2.out.cell 0 rfl
 have x1 : w2.cell? ⟨w.heap.size, 1, none⟩ = some (.int .i64 n) := H2.out.cell 1 rfl
 have x2 : w2.cell? ⟨w.heap.size, 2, none⟩ = some (.string s) := H2.out.cell 2 rfl
 have x3 : w2.cell? ⟨w.heap.size, 3, none⟩ = some (.string t) := H2.out.cell 3 rfl
 have x4 : w2.cell? ⟨w.heap.size, 4, none⟩ = some (.slice A l.length cap) := H2.out.cell 4 rfl
 cases cf
 ·go_wp2_with fail
  go_ret
  exact ⟨ret_int (H70.out (.inl (by trivial))).symm, H2.out.below⟩
 by_cases hk0 : k = 0
 rotate_left
 ·have q0 : (k == 0) = false := by simpa using hk0
  have HRF := Lib.hid (H70.out (.inr (by rw [HMQ.out, q0]; rfl)))
  go_wp2_with fail
  go_ret
  exact ⟨ret_int HRF.out.symm, H2.out.below⟩
 subst hk0
 go_wp2_with fail
 refine (HBR.out false false false true w2).mono ?_
 rintro e w3 ⟨rfl, b3⟩
 have H3 := Lib.hid (H2.out.under b3)
 clear b3
 obtain ⟨cb, hcb⟩ : ∃ cb, cb = bareB false false false true n s t l.length := ⟨_, rfl⟩
 rw [← hcb] at HMQ ⊢
 clear hcb x0 x1 x2 x3 x4
 have x4 : w3.cell? ⟨w.heap.size, 4, none⟩ = some (.slice A l.length cap) := H3.out.cell 4 rfl
 cases cb
 ·have HRF := Lib.hid (H70.out (.inr (by rw [HMQ.out]; rfl)))
  go_wp2_with fail
  go_ret
  exact ⟨ret_int HRF.out.symm, H3.out.below⟩
 have HNO : Hid ((∃ y ∈ l, modB y = false) → R = 70) := Lib.hid (fun ⟨y, hy, hm⟩ => H70.out (.inr (by
  rw [HMQ.out, Bool.eq_false_iff]
  intro h
  have := List.all_eq_true.1 (by simpa using h) y hy
  rw [hm] at this; cases this)))
 go_wp2_with fail
 go_loopw [3] (fun i wr => ∃ j : Nat, j ≤ l.length ∧ i = .int .i64 j ∧ Bx7 w wr #[.int .i8 0, .int .i64 n, .string s, .string t, .slice A l.length cap] ∧ Hid (∀ y ∈ l.take j, modB y = true)) (fun i _ => l.length - (intOf i).toNat)
 case atStart => exact ⟨0, Nat.zero_le _, rfl, H3.out, Lib.hid (fun y hy => by simp at hy)⟩
 case round =>
  obtain ⟨j, hj, rfl, hbx, hd⟩ := hrel
  obtain ⟨wa, hwa⟩ : ∃ X, X = wr := ⟨_, rfl⟩
  subst hwa
  have HW := Lib.hid hbx
  have x4 : wa.cell? ⟨w.heap.size, 4, none⟩ = some (.slice A l.length cap) := hbx.cell 4 rfl
  clear hbx
  by_cases hlty : j < l.length
  rotate_left
  ·obtain rfl : j = l.length := by omega
   have HRT := Lib.hid (HOK.out (by trivial) (by rw [HMQ.out]; simp only [Bool.true_and, beq_self_eq_true]; exact List.all_eq_true.2 (fun y hy => hd.out y (by rw [List.take_length]; exact hy))))
   clear hd
   go_wp2_with fail
   go_ret
   exact ⟨ret_int HRT.out.symm, HW.out.below⟩
  obtain ⟨y, hy⟩ : ∃ y, l[j]? = some y := ⟨l[j], List.getElem?_eq_getElem hlty⟩
  have HMy := Lib.hid (List.mem_of_getElem? hy)
  obtain ⟨mk, mn, ms, mt, ml, hye⟩ : ∃ k' n' s' t' l', y = Tm.mk k' n' s' t' l' := by cases y; exact ⟨_, _, _, _, _, rfl⟩
  obtain ⟨gm, offm, om, c0, c1, c2, c3, c4, rfl, hTy, hEy⟩ := row_at7 HR.out HW.out.below hy
  obtain ⟨d0, d1, d2, d3, d4, he, e0, e1, e2, e3, e4⟩ := hEy
  cases he
  rw [hye] at hTy
  obtain ⟨mA, mcap, hv, hRm, -, -, hsm, htm⟩ := hTy.parts
  simp only [Value.agg.injEq, Array.mk.injEq, List.cons.injEq, and_true] at hv
  obtain ⟨rfl, rfl, rfl, rfl, rfl⟩ := hv
  have HYy := Lib.hid hy
  have HEy := Lib.hid hye
  have HBRm := Lib.hid (fun b1 b2 b3 b4 W => rbare_any b1 b2 b3 b4 mn mk ms mt mA ml.length mcap W)
  have HATm := Lib.hid (fun W => rAtom7_any ms W hsm)
  obtain ⟨w5, hw5⟩ : ∃ w5, w5 = wa.alloc (.cells #[.int .i8 mk, .int .i64 mn, .string ms, .string mt, .slice mA ml.length mcap] 25) := ⟨_, rfl⟩
  have hb5 : Below wa.heap.size wa w5 := by rw [hw5]; exact (Below.refl _ _).alloc (Nat.le_refl _) _
  have hg5 : w5.heap[wa.heap.size]? = some (.cells #[.int .i8 mk, .int .i64 mn, .string ms, .string mt, .slice mA ml.length mcap] 25 (0, 0)) := by rw [hw5]; exact block_alloc _ _
  have H5 := Lib.hid (HW.out.under hb5)
  have HG5 := Lib.hid hg5
  have HRM := Lib.hid (hRm.keep (Q := (· < w5.heap.size)) (fun b hb => hb5.block b hb) (fun b hb => Nat.lt_of_lt_of_le hb hb5.size))
  have hml := hRm.max
  unfold maxLen at hml
  obtain ⟨MB, hMB⟩ : ∃ MB, MB = modB y := ⟨_, rfl⟩
  have HMB : Hid (MB = (mk == 1 && bareB false true false true mn ms mt ml.length && atomB ms && ml.all funB)) := Lib.hid (by rw [hMB, HEy.out, mod_eq])
  have HNM : Hid (MB = false → R = 70) := Lib.hid (fun h => HNO.out ⟨y, HMy.out, by rw [← hMB]; exact h⟩)
  have HYM : Hid (MB = true → ∀ z ∈ l.take (j + 1), modB z = true) := Lib.hid (fun h z hz => by
   rw [List.take_add_one, HYy.out] at hz
   rcases List.mem_append.1 hz with hz | hz
   ·exact hd.out z hz
   ·simp at hz; subst hz; rw [← hMB]; exact h)
  clear hTy hRm hsm htm hb5 hg5 hy hye hMB
  by_cases hm1 : mk = 1
  rotate_left
  ·have q1 : (mk == 1) = false := by simpa using hm1
   have HRF := Lib.hid (HNM.out (by rw [HMB.out, q1]; rfl))
   go_wp2_with fail
   rw [← hw5]
   go_ret
   exact ⟨ret_int HRF.out.symm, H5.out.below⟩
  subst hm1
  go_wp2_with fail
  rw [← hw5]
  clear hw5 x4 e0 e1 e2 e3 e4
  refine (HBRm.out false true false true w5).mono ?_
  rintro e w6 ⟨rfl, b6⟩
  have H6 := Lib.hid (H5.out.under b6)
  have HG6 := Lib.hid ((b6.block _ (heap_lt HG5.out)).trans HG5.out)
  have HR6 := Lib.hid (HRM.out.keep (Q := (· < w6.heap.size)) (fun b hb => b6.block b hb) (fun b hb => Nat.lt_of_lt_of_le hb b6.size))
  clear b6
  obtain ⟨cb, hcb⟩ : ∃ cb, cb = bareB false true false true mn ms mt ml.length := ⟨_, rfl⟩
  rw [← hcb] at HMB ⊢
  clear hcb
  have m2 : w6.cell? ⟨wa.heap.size, 2, none⟩ = some (.string ms) := cell_of_row (i := 2) HG6.out rfl
  have m4 : w6.cell? ⟨wa.heap.size, 4, none⟩ = some (.slice mA ml.length mcap) := cell_of_row (i := 4) HG6.out rfl
  cases cb
  ·have HRF := Lib.hid (HNM.out (by rw [HMB.out]; rfl))
   go_wp2_with fail
   go_ret
   exact ⟨ret_int HRF.out.symm, H6.out.below⟩
  go_wp2_with fail
  refine (HATm.out w6).mono ?_
  rintro e w' ⟨rfl, rfl⟩
  obtain ⟨ca, hca⟩ : ∃ ca, ca = atomB ms := ⟨_, rfl⟩
  rw [← hca] at HMB ⊢
  clear hca
  cases ca
  ·have HRF := Lib.hid (HNM.out (by rw [HMB.out]; rfl))
   go_wp2_with fail
   go_ret
   exact ⟨ret_int HRF.out.symm, H6.out.below⟩
  go_wp2_with fail
  clear m2 m4
  have HFN : Hid ((∃ f ∈ ml, funB f = false) → R = 70) := Lib.hid (fun ⟨f, hf, hm⟩ => HNM.out (by
   rw [HMB.out, Bool.eq_false_iff]
   intro h
   have := List.all_eq_true.1 (by simpa using h) f hf
   rw [hm] at this; cases this))
  have HFA : Hid ((∀ f ∈ ml, funB f = true) → MB = true) := Lib.hid (fun h => by rw [HMB.out]; simp only [beq_self_eq_true, Bool.true_and]; exact List.all_eq_true.2 h)
  go_loopw [5] (fun i wr => ∃ q : Nat, q ≤ ml.length ∧ i = .int .i64 q ∧ Bx7 w wr #[.int .i8 0, .int .i64 n, .string s, .string t, .slice (some ⟨gm, offm, om⟩) l.length cap] ∧ wr.heap[wa.heap.size]? = some (.cells #[.int .i8 1, .int .i64 mn, .string ms, .string mt, .slice mA ml.length mcap] 25 (0, 0)) ∧ Below w6.heap.size w6 wr ∧ Hid (∀ y ∈ ml.take q, funB y = true)) (fun i _ => ml.length - (intOf i).toNat)
  case atStart => exact ⟨0, Nat.zero_le _, rfl, H6.out, HG6.out, Below.refl _ _, Lib.hid (fun y hy => by simp at hy)⟩
  case round =>
   obtain ⟨q, hq, rfl, hbx2, hgm, hb66, hd2⟩ := hrel
   obtain ⟨wb, hwb⟩ : ∃ X, X = wr := ⟨_, rfl⟩
   subst hwb
   have HW2 := Lib.hid hbx2
   have HGM := Lib.hid hgm
   have HB66 := Lib.hid hb66
   have m4 : wb.cell? ⟨wa.heap.size, 4, none⟩ = some (.slice mA ml.length mcap) := cell_of_row (i := 4) hgm rfl
   clear hbx2 hgm hb66
   by_cases hltf : q < ml.length
   rotate_left
   ·obtain rfl : q = ml.length := by omega
    have HYT := Lib.hid (HYM.out (HFA.out (fun y hy => hd2.out y (by rw [List.take_length]; exact hy))))
    clear hd2
    go_wp2_with fail
    go_roundw
    case rel => exact ⟨j + 1, by omega, by go_num, HW2.out, HYT⟩
    case measure => simp [intOf]; omega
   obtain ⟨f, hf⟩ : ∃ f, ml[q]? = some f := ⟨ml[q], List.getElem?_eq_getElem hltf⟩
   have HMf := Lib.hid (List.mem_of_getElem? hf)
   obtain ⟨fk, fn9, fs, ft, fl, hfe⟩ : ∃ k' n' s' t' l', f = Tm.mk k' n' s' t' l' := by cases f; exact ⟨_, _, _, _, _, rfl⟩
   obtain ⟨gf, offf, of, c0, c1, c2, c3, c4, rfl, hTy, hEy⟩ := row_at7 HR6.out HB66.out hf
   obtain ⟨d0, d1, d2, d3, d4, he, e0, e1, e2, e3, e4⟩ := hEy
   cases he
   rw [hfe] at hTy
   obtain ⟨fA, fcap, hv, hRf, -, -, hsf, htf⟩ := hTy.parts
   simp only [Value.agg.injEq, Array.mk.injEq, List.cons.injEq, and_true] at hv
   obtain ⟨rfl, rfl, rfl, rfl, rfl⟩ := hv
   have HYf := Lib.hid hf
   have HEf := Lib.hid hfe
   have HBRf := Lib.hid (fun b1 b2 b3 b4 W => rbare_any b1 b2 b3 b4 fn9 fk fs ft fA fl.length fcap W)
   have HATf := Lib.hid (fun W => rAtom7_any fs W hsf)
   obtain ⟨w8, hw8⟩ : ∃ w8, w8 = wb.alloc (.cells #[.int .i8 fk, .int .i64 fn9, .string fs, .string ft, .slice fA fl.length fcap] 25) := ⟨_, rfl⟩
   have hb8 : Below wb.heap.size wb w8 := by rw [hw8]; exact (Below.refl _ _).alloc (Nat.le_refl _) _
   have hg8 : w8.heap[wb.heap.size]? = some (.cells #[.int .i8 fk, .int .i64 fn9, .string fs, .string ft, .slice fA fl.length fcap] 25 (0, 0)) := by rw [hw8]; exact block_alloc _ _
   have H8 := Lib.hid (HW2.out.under hb8)
   have HG8 := Lib.hid hg8
   have HM8 := Lib.hid ((hb8.block _ (heap_lt HGM.out)).trans HGM.out)
   have HB8 := Lib.hid (HB66.out.trans (hb8.mono HB66.out.size))
   have HRF2 := Lib.hid (hRf.keep (Q := (· < w8.heap.size)) (fun b hb => hb8.block b hb) (fun b hb => Nat.lt_of_lt_of_le hb hb8.size))
   obtain ⟨FB, hFB⟩ : ∃ FB, FB = funB f := ⟨_, rfl⟩
   have HFB : Hid (FB = (fk == 2 && bareB true true false true fn9 fs ft fl.length && atomB fs && decide (0 ≤ fn9 ∧ fn9 ≤ 8) && (clsB fn9.toNat fl && !fl.isEmpty))) := Lib.hid (by rw [hFB, HEf.out, fun_eq])
   have HNF : Hid (FB = false → R = 70) := Lib.hid (fun h => HFN.out ⟨f, HMf.out, by rw [← hFB]; exact h⟩)
   have HYF : Hid (FB = true → ∀ z ∈ ml.take (q + 1), funB z = true) := Lib.hid (fun h z hz => by
    rw [List.take_add_one, HYf.out] at hz
    rcases List.mem_append.1 hz with hz | hz
    ·exact hd2.out z hz
    ·simp at hz; subst hz; rw [← hFB]; exact h)
   clear hTy hRf hsf htf hb8 hg8 hf hfe hFB
   by_cases hf2 : fk = 2
   rotate_left
   ·have q1 : (fk == 2) = false := by simpa using hf2
    have HRF := Lib.hid (HNF.out (by rw [HFB.out, q1]; rfl))
    go_wp2_with fail
    rw [← hw8]
    go_ret
    exact ⟨ret_int HRF.out.symm, H8.out.below⟩
   subst hf2
   go_wp2_with fail
   rw [← hw8]
   clear hw8 m4 e0 e1 e2 e3 e4
   refine (HBRf.out true true false true w8).mono ?_
   rintro e w9 ⟨rfl, b9⟩
   have H9 := Lib.hid (H8.out.under b9)
   have HG9 := Lib.hid ((b9.block _ (heap_lt HG8.out)).trans HG8.out)
   have HM9 := Lib.hid ((b9.block _ (heap_lt HM8.out)).trans HM8.out)
   have HB9 := Lib.hid (HB8.out.trans (b9.mono HB8.out.size))
   have HR9 := Lib.hid (HRF2.out.keep (Q := (· < w9.heap.size)) (fun b hb => b9.block b hb) (fun b hb => Nat.lt_of_lt_of_le hb b9.size))
   clear b9
   obtain ⟨cb, hcb⟩ : ∃ cb, cb = bareB true true false true fn9 fs ft fl.length := ⟨_, rfl⟩
   rw [← hcb] at HFB ⊢
   clear hcb
   have f1 : w9.cell? ⟨wb.heap.size, 1, none⟩ = some (.int .i64 fn9) := cell_of_row (i := 1) HG9.out rfl
   have f2 : w9.cell? ⟨wb.heap.size, 2, none⟩ = some (.string fs) := cell_of_row (i := 2) HG9.out rfl
   have f4 : w9.cell? ⟨wb.heap.size, 4, none⟩ = some (.slice fA fl.length fcap) := cell_of_row (i := 4) HG9.out rfl
   cases cb
   ·have HRF := Lib.hid (HNF.out (by rw [HFB.out]; rfl))
    go_wp2_with fail
    go_ret
    exact ⟨ret_int HRF.out.symm, H9.out.below⟩
   go_wp2_with fail
   refine (HATf.out w9).mono ?_
   rintro e w' ⟨rfl, rfl⟩
   obtain ⟨ca, hca⟩ : ∃ ca, ca = atomB fs := ⟨_, rfl⟩
   rw [← hca] at HFB ⊢
   clear hca
   cases ca
   ·have HRF := Lib.hid (HNF.out (by rw [HFB.out]; rfl))
    go_wp2_with fail
    go_ret
    exact ⟨ret_int HRF.out.symm, H9.out.below⟩
   by_cases h0 : fn9 < 0
   ·have HRF := Lib.hid (HNF.out (by rw [HFB.out, show decide (0 ≤ fn9 ∧ fn9 ≤ 8) = false by rw [decide_eq_false_iff_not]; omega]; rfl))
    go_wp2_with fail
    go_ret
    exact ⟨ret_int HRF.out.symm, H9.out.below⟩
   by_cases h8 : 8 < fn9
   ·have HRF := Lib.hid (HNF.out (by rw [HFB.out, show decide (0 ≤ fn9 ∧ fn9 ≤ 8) = false by rw [decide_eq_false_iff_not]; omega]; rfl))
    go_wp2_with fail
    go_ret
    exact ⟨ret_int HRF.out.symm, H9.out.below⟩
   have HFC : Hid (FB = (clsB fn9.toNat fl && !fl.isEmpty)) := Lib.hid (by rw [HFB.out, show decide (0 ≤ fn9 ∧ fn9 ≤ 8) = true by rw [decide_eq_true_eq]; omega]; simp)
   have hc := rclauses_of (l := fl) fn9.toNat (by omega) (fun y hy => (rall7 y).2.1) fA fcap w9 HR9.out
   rw [show ((fn9.toNat : Nat) : Int) = fn9 by omega, ← HFC.out] at hc
   have HCC := Lib.hid hc
   clear hc
   go_wp2_with fail
   refine HCC.out.mono ?_
   rintro e w10 ⟨rfl, b10⟩
   have H10 := Lib.hid (H9.out.under b10)
   have HM10 := Lib.hid ((b10.block _ (heap_lt HM9.out)).trans HM9.out)
   have HB10 := Lib.hid (HB9.out.trans (b10.mono HB9.out.size))
   clear b10 f1 f2 f4
   cases FB
   ·have HRF := Lib.hid (HNF.out (by trivial))
    go_wp2_with fail
    go_ret
    exact ⟨ret_int HRF.out.symm, H10.out.below⟩
   have HYT := Lib.hid (HYF.out (by trivial))
   go_wp2_with fail
   go_roundw
   case rel => exact ⟨q + 1, by omega, by go_num, H10.out, HM10.out, HB10.out, HYT⟩
   case measure => simp [intOf]; omega
end Go.Proofs.YtmdcdhdjojimeaaGreatDoor
end
section
set_option linter.unusedVariables false
set_option linter.unusedSimpArgs false
namespace Go.Proofs.YtmdcdhdjojimeaaGreatDoor
open Go.RowKit

theorem bytes_eq9 {a b : ByteArray} : a.toList = b.toList ↔ a = b := by
 rw [ByteArray.toList_eq, ByteArray.toList_eq]
 exact ⟨fun h => ByteArray.ext (Array.ext' h), fun h => by rw [h]⟩
theorem findT_append (key : Fn9) : ∀ (a b : List (Fn9 × Tm)), findT key (a ++ b) = (findT key a).or (findT key b)
 | [], b => by simp [findT]
 | x :: a, b => by
  simp only [List.cons_append, findT]
  by_cases h : x.1 = key
  ·simp [h]
  ·simp [h, findT_append key a b]
def mT (m : Tm) : List (Fn9 × Tm) := m.l.map fun f => ((m.s, f.s, f.n), f)
theorem fnsT_cons (m : Tm) (l : List Tm) : fnsT (m :: l) = mT m ++ fnsT l := rfl
theorem findT_mod {m : Tm} {md nm : ByteArray} {ar : Int} (h : ¬ m.s = md) : findT (md, nm, ar) (mT m) = none := by
 refine findT_none (fun q hq => ?_)
 obtain ⟨f, -, rfl⟩ := List.mem_map.1 hq
 intro e
 simp only [Prod.mk.injEq] at e
 exact h e.1
def fT (ms : ByteArray) (l : List Tm) : List (Fn9 × Tm) := l.map fun f => ((ms, f.s, f.n), f)
theorem fT_drop {ms nm : ByteArray} {ar : Int} {l : List Tm} {j : Nat} {f : Tm} (h : l[j]? = some f) : findT (ms, nm, ar) (fT ms (l.drop j)) = if f.s = nm ∧ f.n = ar then some f else findT (ms, nm, ar) (fT ms (l.drop (j + 1))) := by
 have hj := (List.getElem?_eq_some_iff.1 h).1
 rw [List.drop_eq_getElem_cons hj]
 rw [List.getElem?_eq_getElem hj] at h
 rw [Option.some.inj h]
 show findT _ (((ms, f.s, f.n), f) :: fT ms (l.drop (j + 1))) = _
 rw [findT]
 by_cases h9 : f.s = nm ∧ f.n = ar
 ·rw [if_pos h9, if_pos (by simp only [Prod.mk.injEq]; exact ⟨trivial, h9.1, h9.2⟩)]
 ·rw [if_neg h9, if_neg (by simp only [Prod.mk.injEq]; rintro ⟨-, h1, h2⟩; exact h9 ⟨h1, h2⟩)]
theorem two9b (w : World) (o0 o1 : Obj) (V : World) (hV : V = (w.alloc o0).alloc o1) : V.heap[w.heap.size]? = some o0 ∧ V.heap[w.heap.size + 1]? = some o1 ∧ Below w.heap.size w V ∧ V.heap.size = w.heap.size + 2 := by
 have h1 := block_alloc w o0
 have h2 := block_alloc (w.alloc o0) o1
 rw [World.size_alloc] at h2
 subst hV
 refine ⟨(Below.heap_alloc _ _ _ (by rw [World.size_alloc]; omega)).trans h1, h2, ((Below.refl _ _).alloc (Nat.le_refl _) _).alloc (by rw [World.size_alloc]; omega) _, by rw [World.size_alloc, World.size_alloc]⟩
def FindTo (o : Option Tm) (w : World) (e : Ending) (w' : World) : Prop := ∃ u, (∃ k' n' s' t' A' m' c', u = .agg #[.int .i8 k', .int .i64 n', .string s', .string t', .slice A' m' c']) ∧ e = .returned (.tuple #[u, .bool o.isSome]) ∧ (∀ y, o = some y → TmAt (· < w'.heap.size) w' y u) ∧ Below w.heap.size w w'
def FindAt (base : Nat) (o : Option Tm) (w : World) (e : Ending) (w' : World) : Prop := ∃ u, (∃ k' n' s' t' A' m' c', u = .agg #[.int .i8 k', .int .i64 n', .string s', .string t', .slice A' m' c']) ∧ e = .returned (.tuple #[u, .bool o.isSome]) ∧ (∀ y, o = some y → TmAt (· < base) w' y u) ∧ Below w.heap.size w w'

set_option maxHeartbeats 16000000 in
set_option maxRecDepth 100000 in
theorem rfind9_at (x : Tm) (v : Value) (md nm : ByteArray) (ar : Int) (w : World) (base : Nat) (hbs : base ≤ w.heap.size) (hT : TmAt (· < base) w x v) :
  Calls Tryz.prog 29 #[v, .string md, .string nm, .int .i64 ar] w (FindAt base (findT (md, nm, ar) (fnsT x.l)) w) := by
 obtain ⟨k, n, s, t, l⟩ := x
 obtain ⟨A, cap, rfl, hR, hk, hn, hs, ht⟩ := hT.parts
 have hlen := hR.max
 unfold maxLen at hlen
 have HRow := Lib.hid hR
 obtain ⟨W2, hW2⟩ : ∃ W2, W2 = (w.alloc (.cells #[.int .i8 k, .int .i64 n, .string s, .string t, .slice A l.length cap] 25)).alloc (.cells #[.int .i8 0, .int .i64 0, .string ⟨#[]⟩, .string ⟨#[]⟩, .slice none 0 0] 25) := ⟨_, rfl⟩
 obtain ⟨g0, g1, b2, z2⟩ := two9b w _ _ W2 hW2
 have HG0 := Lib.hid g0
 have HG1 := Lib.hid g1
 have HB2 := Lib.hid b2
 have HZ2 := Lib.hid z2
 obtain ⟨R, hRR⟩ : ∃ R, R = findT (md, nm, ar) (fnsT l) := ⟨_, rfl⟩
 have HR := Lib.hid hRR
 show Calls _ _ _ _ (FindAt base (findT (md, nm, ar) (fnsT l)) w)
 rw [← hRR]
 clear hR hT g0 g1 b2 z2 hRR
 go_enter Tryz.func29, Tryz.ntmps29
 go_upto_region 1 with fail
 rw [← hW2]
 clear hW2
 go_wp2_with fail
 go_loopw [10] (fun i wr => ∃ j : Nat, j ≤ l.length ∧ i = .int .i64 (j : Int) ∧ Hid (Below W2.heap.size W2 wr) ∧ Hid (R = findT (md, nm, ar) (fnsT (l.drop j)))) (fun i _ => l.length - (intOf i).toNat)
 case atStart => exact ⟨0, Nat.zero_le _, rfl, Lib.hid (Below.refl _ _), HR⟩
 case round =>
  obtain ⟨j, hj, rfl, HB, HF⟩ := hrel
  have HBW := Lib.hid (HB2.out.trans (HB.out.mono HB2.out.size))
  have hg := (HB.out.block _ (heap_lt HG0.out)).trans HG0.out
  have x4 : (wr).cell? ⟨w.heap.size, 4, none⟩ = some (.slice A l.length cap) := cell_of_row (i := 4) hg rfl
  clear hg
  by_cases hlt : j < l.length
  ·obtain ⟨y, hy⟩ : ∃ y, l[j]? = some y := ⟨l[j], List.getElem?_eq_getElem hlt⟩
   obtain ⟨mk, mn, ms, mt, ml⟩ := y
   obtain ⟨ad, u, hA, had, hE, hTy⟩ := HRow.out.at_ j _ hy
   subst hA
   obtain ⟨YA, yc, rfl, hyR, -⟩ := hTy.parts
   have hylen := hyR.max
   unfold maxLen at hylen
   have HYR := Lib.hid hyR
   have HEV : Hid (∀ V2, Below w.heap.size w V2 → ElemAt V2 ad j (.agg #[.int .i8 mk, .int .i64 mn, .string ms, .string mt, .slice YA ml.length yc])) := Lib.hid (fun V2 hb2 => hE.keep (hb2.block _ (Nat.lt_of_lt_of_le had hbs)))
   have HDR : Hid (l.drop j = .mk mk mn ms mt ml :: l.drop (j + 1)) := Lib.hid (by
    rw [List.drop_eq_getElem_cons hlt]
    rw [List.getElem?_eq_getElem hlt] at hy
    rw [Option.some.inj hy])
   obtain ⟨b0, b1, b2, b3, b4, hag, e0, e1, e2, e3, e4⟩ := HEV.out wr HBW.out
   cases hag
   clear hE had hTy hy hyR e0 e1 e3
   by_cases hms : ms.toList = md.toList
   ·have hme : ms = md := bytes_eq9.1 hms
    have hq1 : (ms.toList == md.toList) = true := beq_iff_eq.2 hms
    have hq2 : (ms.toList != md.toList) = false := by rw [bne, hq1]; rfl
    have HME := Lib.hid hme
    have HF2 : Hid (R = (findT (md, nm, ar) (fT md ml)).or (findT (md, nm, ar) (fnsT (l.drop (j + 1))))) := Lib.hid (by
     rw [HF.out, HDR.out, fnsT_cons, findT_append, ← hme]; rfl)
    clear hms hme HF
    obtain ⟨W4, hW4⟩ : ∃ W4, W4 = wr := ⟨_, rfl⟩
    subst hW4
    go_wp2_with fail
    go_loopw [11] (fun i2 wr => ∃ j2 : Nat, j2 ≤ ml.length ∧ i2 = .int .i64 (j2 : Int) ∧ Hid (Below W2.heap.size W2 wr) ∧ Hid (R = (findT (md, nm, ar) (fT md (ml.drop j2))).or (findT (md, nm, ar) (fnsT (l.drop (j + 1)))))) (fun i2 _ => ml.length - (intOf i2).toNat)
    case atStart => exact ⟨0, Nat.zero_le _, rfl, HB, HF2⟩
    case round =>
     obtain ⟨j2, hj2, rfl, HB9, HF9⟩ := hrel
     clear x4 e2 e4 hq1 hq2
     have HBX := Lib.hid (HB2.out.trans (HB9.out.mono HB2.out.size))
     have hg := (HB9.out.block _ (heap_lt HG0.out)).trans HG0.out
     have x4 : (wr).cell? ⟨w.heap.size, 4, none⟩ = some (.slice (some ad) l.length cap) := cell_of_row (i := 4) hg rfl
     obtain ⟨b0, b1, b2, b3, b4, hag, e0, e1, e2, e3, e4⟩ := HEV.out wr HBX.out
     cases hag
     clear hg e0 e1 e2 e3
     by_cases hlt2 : j2 < ml.length
     ·obtain ⟨f, hf⟩ : ∃ f, ml[j2]? = some f := ⟨ml[j2], List.getElem?_eq_getElem hlt2⟩
      obtain ⟨fk, fn, fs, ft, fl⟩ := f
      obtain ⟨ad2, u2, hA2, had2, hE2, hTf⟩ := HYR.out.at_ j2 _ hf
      subst hA2
      obtain ⟨FA, fc, rfl, -⟩ := hTf.parts
      obtain ⟨a0, a1, a2, a3, a4, he2, f0, f1, f2, f3, f4⟩ := hE2.keep (HBX.out.block _ (Nat.lt_of_lt_of_le had2 hbs))
      cases he2
      have HTF := Lib.hid hTf
      have HFD : Hid (R = (if fs = nm ∧ fn = ar then some (.mk fk fn fs ft fl) else findT (md, nm, ar) (fT md (ml.drop (j2 + 1)))).or (findT (md, nm, ar) (fnsT (l.drop (j + 1))))) := Lib.hid (by rw [HF9.out, fT_drop hf]; rfl)
      obtain ⟨W5, hW5⟩ : ∃ W5, W5 = wr.alloc (.cells #[.int .i8 fk, .int .i64 fn, .string fs, .string ft, .slice FA fl.length fc] 25) := ⟨_, rfl⟩
      have b5 : Below wr.heap.size wr W5 := by rw [hW5]; exact (Below.refl _ _).alloc (Nat.le_refl _) _
      have g5 : W5.heap[wr.heap.size]? = some (.cells #[.int .i8 fk, .int .i64 fn, .string fs, .string ft, .slice FA fl.length fc] 25 (0, 0)) := by rw [hW5]; exact block_alloc _ _
      have HB5 := Lib.hid (HB9.out.trans (b5.mono HB9.out.size))
      clear hE2 had2 hTf hf b5
      go_upto_region 9 with fail
      rw [← hW5]
      clear hW5 e4 f0 f1 f2 f3 f4 x4
      obtain ⟨y0, y1, y2, y3, y4⟩ := five_of g5
      clear g5
      by_cases hfs : fs.toList = nm.toList
      ·have hfe : fs = nm := bytes_eq9.1 hfs
       have hr1 : (fs.toList == nm.toList) = true := beq_iff_eq.2 hfs
       by_cases hfn : fn = ar
       ·subst hfn
        have hr2 : (fn == fn) = true := beq_self_eq_true _
        have HRS : Hid (R = some (.mk fk fn fs ft fl)) := Lib.hid (by rw [HFD.out, if_pos ⟨hfe, rfl⟩]; rfl)
        have hg1 := (HB5.out.block _ (heap_lt HG1.out)).trans HG1.out
        have HGR := Lib.hid hg1
        have HBZ := Lib.hid (HB2.out.trans (HB5.out.mono HB2.out.size))
        clear hfs hfe
        obtain ⟨⟨r0, r1, r2, r3, r4⟩, rf0, rf1, rf2, rf3, rf4⟩ := five_fr hg1
        clear hg1
        go_wp2_with fail
        obtain ⟨s5, m5⟩ := set_five7 (.int .i8 fk) (.int .i64 fn) (.string fs) (.string ft) (.slice FA fl.length fc) HGR.out
        generalize (((((W5.setCell ⟨w.heap.size + 1, 0, none⟩ (.int .i8 fk)).setCell ⟨w.heap.size + 1, 1, none⟩ (.int .i64 fn)).setCell ⟨w.heap.size + 1, 2, none⟩ (.string fs)).setCell ⟨w.heap.size + 1, 3, none⟩ (.string ft)).setCell ⟨w.heap.size + 1, 4, none⟩ (.slice FA fl.length fc)) = VX at s5 m5 ⊢
        have hbb : Below w.heap.size w VX := HBZ.out.trans (m5.below HBZ.out.size (fun k (e : k = _) => by omega))
        obtain ⟨z0, z1, z2, z3, z4⟩ := five_of s5
        (try simp only [Exit.inBlock, Exit.then])
        refine bodyPost_ret (v := .tuple #[.agg #[.int .i8 fk, .int .i64 fn, .string fs, .string ft, .slice FA fl.length fc], .bool true]) (by simp [results, Tryz.f29, go_sem, z0, z1, z2, z3, z4]) rfl ?_
        refine ⟨_, ⟨_, _, _, _, _, _, _, rfl⟩, by rw [HRS.out]; rfl, fun y9 h9 => ?_, hbb⟩
        rw [HRS.out] at h9
        cases h9
        exact HTF.out.keep (fun b hb => hbb.block b (Nat.lt_of_lt_of_le hb hbs)) (fun _ h => h)
       ·have hr2 : (fn == ar) = false := beq_eq_false_iff_ne.2 hfn
        have HRS : Hid (R = (findT (md, nm, ar) (fT md (ml.drop (j2 + 1)))).or (findT (md, nm, ar) (fnsT (l.drop (j + 1))))) := Lib.hid (by rw [HFD.out, if_neg (fun h => hfn h.2)])
        clear hfs hfe hfn
        go_wp2_with fail
        go_roundw
        case rel => exact ⟨j2 + 1, by omega, by go_num, HB5, HRS⟩
        case measure => simp [intOf]; omega
      ·have hfe : ¬ fs = nm := fun h => hfs (bytes_eq9.2 h)
       have hr1 : (fs.toList == nm.toList) = false := beq_eq_false_iff_ne.2 hfs
       have HRS : Hid (R = (findT (md, nm, ar) (fT md (ml.drop (j2 + 1)))).or (findT (md, nm, ar) (fnsT (l.drop (j + 1))))) := Lib.hid (by rw [HFD.out, if_neg (fun h => hfe h.1)])
       clear hfs hfe
       go_wp2_with fail
       go_roundw
       case rel => exact ⟨j2 + 1, by omega, by go_num, HB5, HRS⟩
       case measure => simp [intOf]; omega
     ·obtain rfl : j2 = ml.length := by omega
      have HRS : Hid (R = findT (md, nm, ar) (fnsT (l.drop (j + 1)))) := Lib.hid (by rw [HF9.out, List.drop_length]; simp [fT, findT])
      go_wp2_with fail
      go_roundw
      case rel => exact ⟨j + 1, by omega, by go_num, HB9, HRS⟩
      case measure => simp [intOf]; omega
   ·have hq1 : (ms.toList == md.toList) = false := beq_eq_false_iff_ne.2 hms
    have hq2 : (ms.toList != md.toList) = true := by rw [bne, hq1]; rfl
    have HF2 : Hid (R = findT (md, nm, ar) (fnsT (l.drop (j + 1)))) := Lib.hid (by
     rw [HF.out, HDR.out, fnsT_cons, findT_append, findT_mod (show ¬ (Tm.mk mk mn ms mt ml).s = md from fun h => hms (bytes_eq9.2 h))]; rfl)
    clear hms
    go_wp2_with fail
    go_roundw
    case rel => exact ⟨j + 1, by omega, by go_num, HB, HF2⟩
    case measure => simp [intOf]; omega
  ·obtain rfl : j = l.length := by omega
   have HRS : Hid (R = none) := Lib.hid (by rw [HF.out, List.drop_length]; rfl)
   have hg1 := (HB.out.block _ (heap_lt HG1.out)).trans HG1.out
   have HGR := Lib.hid hg1
   obtain ⟨⟨r0, r1, r2, r3, r4⟩, rf0, rf1, rf2, rf3, rf4⟩ := five_fr hg1
   clear hg1
   go_wp2_with fail
   obtain ⟨s5, m5⟩ := set_five7 (.int .i8 0) (.int .i64 0) (.string ⟨#[]⟩) (.string ⟨#[]⟩) (.slice none 0 0) HGR.out
   generalize (((((wr.setCell ⟨w.heap.size + 1, 0, none⟩ (.int .i8 0)).setCell ⟨w.heap.size + 1, 1, none⟩ (.int .i64 0)).setCell ⟨w.heap.size + 1, 2, none⟩ (.string ⟨#[]⟩)).setCell ⟨w.heap.size + 1, 3, none⟩ (.string ⟨#[]⟩)).setCell ⟨w.heap.size + 1, 4, none⟩ (.slice none 0 0)) = VX at s5 m5 ⊢
   have hbb : Below w.heap.size w VX := HBW.out.trans (m5.below HBW.out.size (fun k (e : k = _) => by omega))
   obtain ⟨z0, z1, z2, z3, z4⟩ := five_of s5
   (try simp only [Exit.inBlock, Exit.then])
   refine bodyPost_ret (v := .tuple #[.agg #[.int .i8 0, .int .i64 0, .string ⟨#[]⟩, .string ⟨#[]⟩, .slice none 0 0], .bool false]) (by simp [results, Tryz.f29, go_sem, z0, z1, z2, z3, z4]) rfl ?_
   refine ⟨_, ⟨_, _, _, _, _, _, _, rfl⟩, by rw [HRS.out]; rfl, fun y9 h9 => ?_, hbb⟩
   rw [HRS.out] at h9
   cases h9
theorem rfind9_any (x : Tm) (v : Value) (md nm : ByteArray) (ar : Int) (w : World) (hT : TmAt (· < w.heap.size) w x v) :
  Calls Tryz.prog 29 #[v, .string md, .string nm, .int .i64 ar] w (FindTo (findT (md, nm, ar) (fnsT x.l)) w) :=
 (rfind9_at x v md nm ar w w.heap.size (Nat.le_refl _) hT).mono fun e w' h => by
  obtain ⟨u, h1, h2, h3, h4⟩ := h
  exact ⟨u, h1, h2, fun y hy => (h3 y hy).keep (fun _ _ => rfl) (fun b hb => Nat.lt_of_lt_of_le hb h4.size), h4⟩
end Go.Proofs.YtmdcdhdjojimeaaGreatDoor
end
