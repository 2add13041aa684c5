/- Layer 9: one more function that no one calls breaks no rule (plain facts). -/
import Derived.Test.YthbiaaeoajmlbaaGreatDoorKRName7
import Derived.Test.YthbiaaeoajmlbaaGreatDoorKRef01
import Derived.Test.YthbiaaeoajmlbaaGreatDoorKNd7
import Derived.Test.YthbiaaeoajmlbaaGreatDoorKSet9
import Derived.Test.YthbiaaeoajmlbaaGreatDoorKTmL
import Derived.Test.YthbiaaeoajmlbaaGreatDoorKFnsR9
section
set_option linter.unusedVariables false
set_option linter.unusedSimpArgs false
namespace Go.Proofs.YthbiaaeoajmlbaaGreatDoor
open Go.RowKit

def bareB (b1 b2 b3 b4 : Bool) (n : Int) (s t : ByteArray) (len : Nat) : Bool := (b1 || n == 0) && (b2 || emp s) && (b3 || emp t) && (b4 || (len : Int) == 0)
theorem emp_list (s : ByteArray) : emp s = s.toList.isEmpty := by
  unfold emp
  rw [Go.Lib.toList_data, Bool.eq_iff_iff, decide_eq_true_eq, List.isEmpty_iff, ← List.length_eq_zero_iff, Array.length_toList]
  rfl
set_option maxHeartbeats 4000000 in
set_option maxRecDepth 100000 in
theorem rbare_any (b1 b2 b3 b4 : Bool) (n k : Int) (s t : ByteArray) (A : Option Addr) (len cap : Nat) (w : World) :
    Calls Tryz.prog 76 #[.agg #[.int .i8 k, .int .i64 n, .string s, .string t, .slice A len cap], .bool b1, .bool b2, .bool b3, .bool b4] w fun e w' => e = .returned (.bool (bareB b1 b2 b3 b4 n s t len)) ∧ Below w.heap.size w w' := by
  obtain ⟨R, hR⟩ : ∃ R, R = bareB b1 b2 b3 b4 n s t len := ⟨_, rfl⟩
  have HR := Lib.hid hR
  rw [← hR]
  clear hR
  cases b1 <;> cases b2 <;> cases b3 <;> cases b4
  all_goals
    go_enter Tryz.func76, Tryz.ntmps76
    go_wp2_with fail
    all_goals
      go_ret
      exact ⟨ret_bool (by have h := HR.out; rw [h]; unfold bareB; simp_all [emp_list, Bool.and_assoc]), (Below.refl _ w).alloc (Nat.le_refl _) _⟩
theorem rWord7_any (s : ByteArray) (w : World) : Calls Tryz.prog 131 #[.string s] w fun e w' => e = .returned (.bool (wordL s.data.toList)) ∧ w = w' := by
  go_enter Tryz.func131, Tryz.ntmps131
  go_wp2
  all_goals
    go_ret
    refine ⟨ret_bool ?_, rfl⟩
    rw [← Go.Lib.toList_data]
    unfold wordL wordList
    simp only [List.any_cons, List.any_nil]
    simp_all
theorem rAtom7_any (s : ByteArray) (w : World) (hs : s.size ≤ maxLen) : Calls Tryz.prog 77 #[.string s] w fun e w' => e = .returned (.bool (atomB s)) ∧ w = w' := by
  have HM := Lib.hid (rMay_any s w hs)
  have HW := Lib.hid (rWord7_any s w)
  have HA : Hid (atomB s = (nameB s 2 && !wordL s.data.toList)) := Lib.hid rfl
  generalize nameB s 2 = c1 at HM HA
  generalize wordL s.data.toList = c2 at HW HA
  cases c1
  · go_enter Tryz.func77, Tryz.ntmps77
    go_wp2_with fail
    refine HM.out.mono ?_
    rintro e w' ⟨rfl, rfl⟩
    go_wp2_with fail
    go_ret
    exact ⟨ret_bool (by rw [HA.out]; rfl), rfl⟩
  · go_enter Tryz.func77, Tryz.ntmps77
    go_wp2_with fail
    refine HM.out.mono ?_
    rintro e w' ⟨rfl, rfl⟩
    go_wp2_with fail
    refine HW.out.mono ?_
    rintro e w' ⟨rfl, rfl⟩
    go_wp2_with fail
    all_goals
      go_ret
      exact ⟨ret_bool (by rw [HA.out]; simp_all), rfl⟩
theorem len0 (l : List Tm) : ((l.length : Int) == 0) = l.isEmpty := by
  cases l with
  | nil => rfl
  | cons x l => rw [Bool.eq_iff_iff]; simp; omega
theorem leaf5 (n : Int) (s t : ByteArray) (l : List Tm) : leafB 5 n s t l = (bareB false true false false n s t l.length && nameB s 3) := by
  unfold leafB bareB
  rw [len0]
  generalize l.isEmpty = a; generalize emp t = b; generalize emp s = c; generalize (n == 0) = d; generalize nameB s 3 = e; generalize mayB n = f; generalize atomB s = g
  revert a b c d e f g; decide
theorem leaf6 (n : Int) (s t : ByteArray) (l : List Tm) : leafB 6 n s t l = (bareB true false false false n s t l.length && mayB n) := by
  unfold leafB bareB
  rw [len0]
  generalize l.isEmpty = a; generalize emp t = b; generalize emp s = c; generalize (n == 0) = d; generalize nameB s 3 = e; generalize mayB n = f; generalize atomB s = g
  revert a b c d e f g; decide
theorem leaf7 (n : Int) (s t : ByteArray) (l : List Tm) : leafB 7 n s t l = (bareB false true false false n s t l.length && atomB s) := by
  unfold leafB bareB
  rw [len0]
  generalize l.isEmpty = a; generalize emp t = b; generalize emp s = c; generalize (n == 0) = d; generalize nameB s 3 = e; generalize mayB n = f; generalize atomB s = g
  revert a b c d e f g; decide
theorem leaf8 (n : Int) (s t : ByteArray) (l : List Tm) : leafB 8 n s t l = bareB false false false false n s t l.length := by
  unfold leafB bareB
  rw [len0]
  generalize l.isEmpty = a; generalize emp t = b; generalize emp s = c; generalize (n == 0) = d; generalize nameB s 3 = e; generalize mayB n = f; generalize atomB s = g
  revert a b c d e f g; decide
set_option maxHeartbeats 4000000 in
set_option maxRecDepth 100000 in
theorem rleaf_any (k n : Int) (s t : ByteArray) (A : Option Addr) (l : List Tm) (cap : Nat) (w : World) (hs : s.size ≤ maxLen) :
    Calls Tryz.prog 200 #[.agg #[.int .i8 k, .int .i64 n, .string s, .string t, .slice A l.length cap]] w fun e w' => e = .returned (.bool (leafB k n s t l)) ∧ Below w.heap.size w w' := by
  have HN := Lib.hid (fun W => rname7_any s W hs)
  have HA := Lib.hid (fun W => rAtom7_any s W hs)
  have HM := Lib.hid (fun W => rMay1_any n W)
  have HBR := Lib.hid (fun b1 b2 b3 b4 W => rbare_any b1 b2 b3 b4 n k s t A l.length cap W)
  obtain ⟨R, hR⟩ : ∃ R, R = leafB k n s t l := ⟨_, rfl⟩
  have HR := Lib.hid hR
  rw [← hR]
  clear hR
  have HB0 := Lib.hid ((Below.refl _ w).alloc (Nat.le_refl _) (.cells #[.int .i8 k, .int .i64 n, .string s, .string t, .slice A l.length cap] 25))
  obtain ⟨w1, hw1⟩ : ∃ w1, w1 = w.alloc (.cells #[.int .i8 k, .int .i64 n, .string s, .string t, .slice A l.length cap] 25) := ⟨_, rfl⟩
  have HX := Lib.hid (show w1.heap[w.heap.size]? = some _ by rw [hw1]; exact block_alloc _ _)
  by_cases hk5 : k = 5
  · subst hk5
    obtain ⟨c1, hc1⟩ : ∃ c1, c1 = bareB false true false false n s t l.length := ⟨_, rfl⟩
    have HC1 := Lib.hid hc1
    go_enter Tryz.func200, Tryz.ntmps200
    go_wp2_with fail
    rw [← hw1]
    rw [← hw1] at HB0
    clear hw1
    refine (HBR.out false true false false w1).mono ?_
    rintro e w2 ⟨rfl, b2⟩
    rw [← hc1]
    clear hc1
    have HB2 := Lib.hid (HB0.out.trans (b2.mono HB0.out.size))
    have hx := (b2.block _ (heap_lt HX.out)).trans HX.out
    have x0 := cell_of_row (i := 0) hx rfl
    have x1 := cell_of_row (i := 1) hx rfl
    have x2 := cell_of_row (i := 2) hx rfl
    clear hx b2
    cases c1
    · go_wp2_with fail
      go_ret
      exact ⟨ret_bool (by rw [HR.out, leaf5, ← HC1.out]; simp_all), HB2.out⟩
    · go_wp2_with fail
      refine (HN.out w2).mono ?_
      rintro e w3 ⟨rfl, rfl⟩
      go_wp2_with fail
      all_goals
        go_ret
        exact ⟨ret_bool (by rw [HR.out, leaf5, ← HC1.out]; simp_all), HB2.out⟩
  by_cases hk6 : k = 6
  · subst hk6
    obtain ⟨c1, hc1⟩ : ∃ c1, c1 = bareB true false false false n s t l.length := ⟨_, rfl⟩
    have HC1 := Lib.hid hc1
    go_enter Tryz.func200, Tryz.ntmps200
    go_wp2_with fail
    rw [← hw1]
    rw [← hw1] at HB0
    clear hw1
    refine (HBR.out true false false false w1).mono ?_
    rintro e w2 ⟨rfl, b2⟩
    rw [← hc1]
    clear hc1
    have HB2 := Lib.hid (HB0.out.trans (b2.mono HB0.out.size))
    have hx := (b2.block _ (heap_lt HX.out)).trans HX.out
    have x0 := cell_of_row (i := 0) hx rfl
    have x1 := cell_of_row (i := 1) hx rfl
    have x2 := cell_of_row (i := 2) hx rfl
    clear hx b2
    cases c1
    · go_wp2_with fail
      go_ret
      exact ⟨ret_bool (by rw [HR.out, leaf6, ← HC1.out]; simp_all), HB2.out⟩
    · go_wp2_with fail
      refine (HM.out w2).mono ?_
      rintro e w3 ⟨rfl, rfl⟩
      go_wp2_with fail
      all_goals
        go_ret
        exact ⟨ret_bool (by rw [HR.out, leaf6, ← HC1.out]; simp_all), HB2.out⟩
  by_cases hk7 : k = 7
  · subst hk7
    obtain ⟨c1, hc1⟩ : ∃ c1, c1 = bareB false true false false n s t l.length := ⟨_, rfl⟩
    have HC1 := Lib.hid hc1
    go_enter Tryz.func200, Tryz.ntmps200
    go_wp2_with fail
    rw [← hw1]
    rw [← hw1] at HB0
    clear hw1
    refine (HBR.out false true false false w1).mono ?_
    rintro e w2 ⟨rfl, b2⟩
    rw [← hc1]
    clear hc1
    have HB2 := Lib.hid (HB0.out.trans (b2.mono HB0.out.size))
    have hx := (b2.block _ (heap_lt HX.out)).trans HX.out
    have x0 := cell_of_row (i := 0) hx rfl
    have x1 := cell_of_row (i := 1) hx rfl
    have x2 := cell_of_row (i := 2) hx rfl
    clear hx b2
    cases c1
    · go_wp2_with fail
      go_ret
      exact ⟨ret_bool (by rw [HR.out, leaf7, ← HC1.out]; simp_all), HB2.out⟩
    · go_wp2_with fail
      refine (HA.out w2).mono ?_
      rintro e w3 ⟨rfl, rfl⟩
      go_wp2_with fail
      all_goals
        go_ret
        exact ⟨ret_bool (by rw [HR.out, leaf7, ← HC1.out]; simp_all), HB2.out⟩
  by_cases hk8 : k = 8
  · subst hk8
    obtain ⟨c1, hc1⟩ : ∃ c1, c1 = bareB false false false false n s t l.length := ⟨_, rfl⟩
    have HC1 := Lib.hid hc1
    go_enter Tryz.func200, Tryz.ntmps200
    go_wp2_with fail
    rw [← hw1]
    rw [← hw1] at HB0
    clear hw1
    refine (HBR.out false false false false w1).mono ?_
    rintro e w2 ⟨rfl, b2⟩
    rw [← hc1]
    clear hc1
    have HB2 := Lib.hid (HB0.out.trans (b2.mono HB0.out.size))
    have hx := (b2.block _ (heap_lt HX.out)).trans HX.out
    have x0 := cell_of_row (i := 0) hx rfl
    have x1 := cell_of_row (i := 1) hx rfl
    have x2 := cell_of_row (i := 2) hx rfl
    clear hx b2
    go_wp2_with fail
    go_ret
    exact ⟨ret_bool (by rw [HR.out, leaf8, HC1.out]), HB2.out⟩
  have q5 : (k == 5) = false := by simpa using hk5
  have q6 : (k == 6) = false := by simpa using hk6
  have q7 : (k == 7) = false := by simpa using hk7
  have q8 : (k == 8) = false := by simpa using hk8
  go_enter Tryz.func200, Tryz.ntmps200
  go_wp2_with fail
  go_ret
  exact ⟨ret_bool (by rw [HR.out]; unfold leafB; rw [q5, q6, q7, q8]; simp), HB0.out⟩
end Go.Proofs.YthbiaaeoajmlbaaGreatDoor
end
section
set_option linter.unusedVariables false
set_option linter.unusedSimpArgs false
namespace Go.Proofs.YthbiaaeoajmlbaaGreatDoor
open Go.RowKit

structure Bx7 (w V : World) (c : Array Value) : Prop where
  below : Below w.heap.size w V
  box : V.heap[w.heap.size]? = some (.cells c 25 (0, 0))
theorem bx7_of (w : World) (c : Array Value) (W : World) (h : W = w.alloc (.cells c 25)) : Bx7 w W c := by
  subst h
  exact ⟨(Below.refl _ w).alloc (Nat.le_refl _) _, block_alloc _ _⟩
theorem Bx7.under {w V V' : World} {c : Array Value} (h : Bx7 w V c) (b : Below V.heap.size V V') : Bx7 w V' c :=
  ⟨h.below.trans (b.mono h.below.size), (b.block _ (heap_lt h.box)).trans h.box⟩
theorem Bx7.cell {w V : World} {c : Array Value} (h : Bx7 w V c) (i : Nat) {v : Value} (hv : c[i]? = some v) : V.cell? ⟨w.heap.size, i, none⟩ = some v := cell_of_row (i := i) h.box hv
theorem row_at7 {w V : World} {A : Option Addr} {n cap : Nat} {l : List Tm} (h : TRow (· < w.heap.size) w A n cap l) (hb : Below w.heap.size w V) {j : Nat} {y : Tm} (hy : l[j]? = some y) :
    ∃ g off o c0 c1 c2 c3 c4, A = some ⟨g, off, o⟩ ∧ TmAt (· < V.heap.size) V y (.agg #[c0, c1, c2, c3, c4]) ∧ ElemAt V ⟨g, off, o⟩ j (.agg #[c0, c1, c2, c3, c4]) := by
  obtain ⟨ad, u, rfl, had, hE, hTy⟩ := h.at_ j y hy
  obtain ⟨g, off, o⟩ := ad
  have hE' := hE.keep (hb.block _ had)
  obtain ⟨c0, c1, c2, c3, c4, rfl, -⟩ := hE
  exact ⟨g, off, o, c0, c1, c2, c3, c4, rfl, hTy.laterN hb, hE'⟩
theorem bareFFFT (n : Int) (s t : ByteArray) (len : Nat) : bareB false false false true n s t len = (n == 0 && emp s && emp t) := by
  unfold bareB; simp
set_option maxHeartbeats 4000000 in
set_option maxRecDepth 100000 in
theorem rpattern_any (x : Tm) : ∀ (v : Value) (w : World), TmAt (· < w.heap.size) w x v →
    Calls Tryz.prog 134 #[v] w fun e w' => e = .returned (.bool (patB x)) ∧ Below w.heap.size w w' := by
  induction x using Tm.ind with
  | h k n s t l ih =>
  intro v w hT
  obtain ⟨A, cap, rfl, hR, hk, hn, hs, ht⟩ := hT.parts
  have hlen := hR.max
  unfold maxLen at hlen
  have HR := Lib.hid hR
  have HIH := Lib.hid ih
  have HLF := Lib.hid (fun W => rleaf_any k n s t A l cap W hs)
  have HBR := Lib.hid (fun b1 b2 b3 b4 W => rbare_any b1 b2 b3 b4 n k s t A l.length cap W)
  have HP := Lib.hid (show patB (.mk k n s t l) = (leafB k n s t l || ((k == 10 || (k == 9 && l.length == 2)) && bareB false false false true n s t l.length && patsB l)) by rw [bareFFFT]; unfold patB; simp only [Bool.and_assoc])
  clear hR ih hT hs ht hn
  obtain ⟨R, hRR⟩ : ∃ R, R = patB (.mk k n s t l) := ⟨_, rfl⟩
  rw [← hRR] at HP ⊢
  clear hRR
  obtain ⟨w1, hw1⟩ : ∃ w1, w1 = w.alloc (.cells #[.int .i8 k, .int .i64 n, .string s, .string t, .slice A l.length cap] 25) := ⟨_, rfl⟩
  have hb1 : Bx7 w w1 #[.int .i8 k, .int .i64 n, .string s, .string t, .slice A l.length cap] := bx7_of w _ w1 hw1
  have H1 := Lib.hid hb1
  clear hb1
  go_enter Tryz.func134, Tryz.ntmps134
  go_wp2_with fail
  rw [← hw1]
  clear hw1
  refine (HLF.out w1).mono ?_
  rintro e w2 ⟨rfl, b2⟩
  have H2 := Lib.hid (H1.out.under b2)
  clear b2
  generalize leafB k n s t l = c1 at HP ⊢
  cases c1
  rotate_left
  · go_wp2_with fail
    go_ret
    exact ⟨ret_bool (by rw [HP.out]; rfl), H2.out.below⟩
  have x0 : w2.cell? ⟨w.heap.size, 0, none⟩ = some (.int .i8 k) := H2.out.cell 0 rfl
  have x1 : w2.cell? ⟨w.heap.size, 1, none⟩ = some (.int .i64 n) := H2.out.cell 1 rfl
  have x2 : w2.cell? ⟨w.heap.size, 2, none⟩ = some (.string s) := H2.out.cell 2 rfl
  have x3 : w2.cell? ⟨w.heap.size, 3, none⟩ = some (.string t) := H2.out.cell 3 rfl
  have x4 : w2.cell? ⟨w.heap.size, 4, none⟩ = some (.slice A l.length cap) := H2.out.cell 4 rfl
  have HG : Hid (k = 10 ∨ (k = 9 ∧ l.length = 2) ∨ (k ≠ 10 ∧ (k ≠ 9 ∨ l.length ≠ 2) ∧ R = false)) := by
    by_cases h1 : k = 10
    · exact .inl h1
    · by_cases h2 : k = 9
      · by_cases h3 : l.length = 2
        · exact .inr (.inl ⟨h2, h3⟩)
        · exact .inr (.inr ⟨h1, .inr h3, by rw [HP.out]; simp [h1, h3]⟩)
      · exact .inr (.inr ⟨h1, .inl h2, by rw [HP.out]; simp [h1, h2]⟩)
  rcases HG.out with rfl | ⟨rfl, hl2⟩ | ⟨h1, h2, hRf⟩
  rotate_right
  · have q1 : (k == 10) = false := by simpa using h1
    by_cases h9 : k = 9
    · subst h9
      have h3 : ¬ (l.length : Int) = 2 := by rcases h2 with h2 | h2 <;> omega
      have q3 : ((l.length : Int) == 2) = false := by simpa using h3
      clear HG h2
      go_wp2_with fail
      go_ret
      exact ⟨ret_bool hRf.symm, H2.out.below⟩
    · have q9 : (k == 9) = false := by simpa using h9
      clear HG h2
      go_wp2_with fail
      go_ret
      exact ⟨ret_bool hRf.symm, H2.out.below⟩
  · clear HG
    go_wp2_with fail
    refine (HBR.out false false false true w2).mono ?_
    rintro e w3 ⟨rfl, b3⟩
    have H3 := Lib.hid (H2.out.under b3)
    clear b3
    obtain ⟨c2, hc2⟩ : ∃ c2, c2 = bareB false false false true n s t l.length := ⟨_, rfl⟩
    rw [← hc2] at HP ⊢
    clear hc2 x0 x1 x2 x3 x4
    cases c2
    · go_wp2_with fail
      go_ret
      exact ⟨ret_bool (by rw [HP.out]; simp), H3.out.below⟩
    have x4 : w3.cell? ⟨w.heap.size, 4, none⟩ = some (.slice A l.length cap) := H3.out.cell 4 rfl
    go_wp2_with fail
    go_loopw [3] (fun i wr => ∃ j : Nat, j ≤ l.length ∧ i = .int .i64 j ∧ Bx7 w wr #[.int .i8 10, .int .i64 n, .string s, .string t, .slice A l.length cap] ∧ Hid (∀ y ∈ l.take j, patB y = true)) (fun i _ => l.length - (intOf i).toNat)
    case atStart => exact ⟨0, Nat.zero_le _, rfl, H3.out, Lib.hid (fun y hy => by simp at hy)⟩
    case round =>
      obtain ⟨j, hj, rfl, hbx, hd⟩ := hrel
      have HW := Lib.hid hbx
      have x4 : wr.cell? ⟨w.heap.size, 4, none⟩ = some (.slice A l.length cap) := hbx.cell 4 rfl
      clear hbx
      by_cases hlt : j < l.length
      · obtain ⟨y, hy⟩ : ∃ y, l[j]? = some y := ⟨l[j], List.getElem?_eq_getElem hlt⟩
        have HMEM := Lib.hid (List.mem_of_getElem? hy)
        obtain ⟨g, off, o, c0, c1, c2, c3, c4, rfl, hTy, hEy⟩ := row_at7 HR.out HW.out.below hy
        obtain ⟨d0, d1, d2, d3, d4, he, e0, e1, e2, e3, e4⟩ := hEy
        cases he
        have HTY := Lib.hid hTy
        have HY := Lib.hid hy
        clear hTy hy
        go_wp2_with fail
        refine (HIH.out y HMEM.out _ _ HTY.out).mono ?_
        rintro e w9 ⟨rfl, b9⟩
        have H9 := Lib.hid (HW.out.under b9)
        clear b9 e0 e1 e2 e3 e4 x4
        obtain ⟨c, hc⟩ : ∃ c, c = patB y := ⟨_, rfl⟩
        rw [← hc]
        have HC := Lib.hid hc
        clear hc
        cases c
        · go_wp2_with fail
          go_ret
          exact ⟨ret_bool (by rw [HP.out]; have h : patsB l = false := by { rw [Bool.eq_false_iff]; intro h; have := patsB_all.1 h y HMEM.out; rw [← HC.out] at this; cases this }; rw [h]; simp), H9.out.below⟩
        · go_wp2_with fail
          go_roundw
          case rel => exact ⟨j + 1, by omega, by go_num, H9.out, Lib.hid (fun z hz => by
            rw [List.take_add_one, HY.out] at hz
            rcases List.mem_append.1 hz with hz | hz
            · exact hd.out z hz
            · simp at hz; subst hz; exact HC.out.symm)⟩
          case measure => simp [intOf]; omega
      · obtain rfl : j = l.length := by omega
        have HALL : Hid (∀ y ∈ l, patB y = true) := Lib.hid (fun y hy => hd.out y (by rw [List.take_length]; exact hy))
        clear hd
        go_wp2_with fail
        go_ret
        exact ⟨ret_bool (by rw [HP.out, patsB_all.2 HALL.out]; simp), HW.out.below⟩
  · clear HG
    have HL2 := Lib.hid hl2
    have q3 : (l.length : Int) = 2 := by rw [hl2]; rfl
    clear hl2
    go_wp2_with fail
    refine (HBR.out false false false true w2).mono ?_
    rintro e w3 ⟨rfl, b3⟩
    have H3 := Lib.hid (H2.out.under b3)
    clear b3
    obtain ⟨c2, hc2⟩ : ∃ c2, c2 = bareB false false false true n s t l.length := ⟨_, rfl⟩
    rw [← hc2] at HP ⊢
    clear hc2 x0 x1 x2 x3 x4 q3
    cases c2
    · go_wp2_with fail
      go_ret
      exact ⟨ret_bool (by rw [HP.out]; simp), H3.out.below⟩
    have x4 : w3.cell? ⟨w.heap.size, 4, none⟩ = some (.slice A l.length cap) := H3.out.cell 4 rfl
    go_wp2_with fail
    go_loopw [3] (fun i wr => ∃ j : Nat, j ≤ l.length ∧ i = .int .i64 j ∧ Bx7 w wr #[.int .i8 9, .int .i64 n, .string s, .string t, .slice A l.length cap] ∧ Hid (∀ y ∈ l.take j, patB y = true)) (fun i _ => l.length - (intOf i).toNat)
    case atStart => exact ⟨0, Nat.zero_le _, rfl, H3.out, Lib.hid (fun y hy => by simp at hy)⟩
    case round =>
      obtain ⟨j, hj, rfl, hbx, hd⟩ := hrel
      have HW := Lib.hid hbx
      have x4 : wr.cell? ⟨w.heap.size, 4, none⟩ = some (.slice A l.length cap) := hbx.cell 4 rfl
      clear hbx
      by_cases hlt : j < l.length
      · obtain ⟨y, hy⟩ : ∃ y, l[j]? = some y := ⟨l[j], List.getElem?_eq_getElem hlt⟩
        have HMEM := Lib.hid (List.mem_of_getElem? hy)
        obtain ⟨g, off, o, c0, c1, c2, c3, c4, rfl, hTy, hEy⟩ := row_at7 HR.out HW.out.below hy
        obtain ⟨d0, d1, d2, d3, d4, he, e0, e1, e2, e3, e4⟩ := hEy
        cases he
        have HTY := Lib.hid hTy
        have HY := Lib.hid hy
        clear hTy hy
        go_wp2_with fail
        refine (HIH.out y HMEM.out _ _ HTY.out).mono ?_
        rintro e w9 ⟨rfl, b9⟩
        have H9 := Lib.hid (HW.out.under b9)
        clear b9 e0 e1 e2 e3 e4 x4
        obtain ⟨c, hc⟩ : ∃ c, c = patB y := ⟨_, rfl⟩
        rw [← hc]
        have HC := Lib.hid hc
        clear hc
        cases c
        · go_wp2_with fail
          go_ret
          exact ⟨ret_bool (by rw [HP.out]; have h : patsB l = false := by { rw [Bool.eq_false_iff]; intro h; have := patsB_all.1 h y HMEM.out; rw [← HC.out] at this; cases this }; rw [h]; simp), H9.out.below⟩
        · go_wp2_with fail
          go_roundw
          case rel => exact ⟨j + 1, by omega, by go_num, H9.out, Lib.hid (fun z hz => by
            rw [List.take_add_one, HY.out] at hz
            rcases List.mem_append.1 hz with hz | hz
            · exact hd.out z hz
            · simp at hz; subst hz; exact HC.out.symm)⟩
          case measure => simp [intOf]; omega
      · obtain rfl : j = l.length := by omega
        have HALL : Hid (∀ y ∈ l, patB y = true) := Lib.hid (fun y hy => hd.out y (by rw [List.take_length]; exact hy))
        clear hd
        go_wp2_with fail
        go_ret
        exact ⟨ret_bool (by rw [HP.out, patsB_all.2 HALL.out]; simp [HL2.out]), HW.out.below⟩
end Go.Proofs.YthbiaaeoajmlbaaGreatDoor
end
section
set_option linter.unusedVariables false
set_option linter.unusedSimpArgs false
namespace Go.Proofs.YthbiaaeoajmlbaaGreatDoor
open Go.RowKit

def Sim (a b : Wk) : Prop := a.bound = b.bound ∧ a.all = b.all ∧ a.fl.map (·.1) = b.fl.map (·.1)
theorem sim_bind {most : Int} {a b : Wk} (s : ByteArray) (p q : Nat) (h : Sim a b) : Sim (bindW most a s p) (bindW most b s q) := by
  obtain ⟨h1, h2, h3⟩ := h
  unfold bindW
  rw [h1, h2]
  split
  · exact ⟨h1, h2, h3⟩
  · refine ⟨rfl, rfl, ?_⟩
    dsimp only
    split <;> simp [h3]
theorem sim_pat {most : Int} : ∀ (L : List Tm) {a b : Wk} (p q : Nat), Sim a b → Sim (patW most a p L) (patW most b q L)
  | [], a, b, p, q, h => by rw [patW, patW]; exact h
  | y :: L, a, b, p, q, h => by
    rw [patW, patW]
    refine sim_pat L _ _ ?_
    split
    · exact sim_bind _ _ _ h
    · exact h
theorem sim_told {a b : Wk} (s : ByteArray) (p q : Nat) (h : Sim a b) : Sim (toldW a s p) (toldW b s q) := by
  obtain ⟨h1, h2, h3⟩ := h
  unfold toldW
  rw [h1]
  split
  · exact ⟨h1, h2, h3⟩
  · exact ⟨rfl, h2, by simp [h3]⟩
theorem sim_back {a b a' b' : Wk} (h : Sim a b) (g : Sim a' b') : Sim (backW a a') (backW b b') := ⟨by show a'.bound.take _ = b'.bound.take _; rw [h.1, g.1], g.2.1, g.2.2⟩
theorem sim_all' {most : Int} : ∀ (l : List Tm), (∀ x ∈ l, ∀ (a b : Wk) (p q : Nat), Sim a b → Sim (overW most a p x) (overW most b q x)) → ∀ (a b : Wk) (p q : Nat), Sim a b → Sim (allW most a p l) (allW most b q l)
  | [], _, a, b, p, q, h => by rw [allW, allW]; exact h
  | x :: l, hx, a, b, p, q, h => by
    rw [allW, allW]
    exact sim_all' l (fun y hy => hx y (by simp [hy])) _ _ _ _ (hx x (by simp) _ _ _ _ h)
theorem sim_clause' {most : Int} : ∀ (l : List Tm) (i : Nat), (∀ x ∈ l, ∀ (a b : Wk) (p q : Nat), Sim a b → Sim (overW most a p x) (overW most b q x)) → ∀ (a b : Wk) (p q : Nat), Sim a b → Sim (clauseW most a p i l) (clauseW most b q i l)
  | [], i, _, a, b, p, q, h => by cases i <;> (rw [clauseW, clauseW]; exact h)
  | x :: l, 0, hx, a, b, p, q, h => by rw [clauseW_0, clauseW_0]; exact sim_all' _ hx _ _ _ _ h
  | x :: l, i + 1, hx, a, b, p, q, h => by
    rw [clauseW, clauseW]
    exact sim_clause' l i (fun y hy => hx y (by simp [hy])) _ _ _ _ (sim_pat x.pre p q h)
theorem sim_over (most : Int) (y : Tm) : ∀ (a b : Wk) (p q : Nat), Sim a b → Sim (overW most a p y) (overW most b q y) := by
  induction y using Tm.ind with
  | h k n s t l ih =>
    intro a b p q h
    rw [overW, overW]
    split
    · exact sim_told s _ _ h
    split
    · cases l with
      | nil => rw [matchW, matchW]; exact h
      | cons x l =>
        rw [matchW, matchW]
        exact sim_pat x.pre _ _ (sim_all' l (fun z hz => ih z (by simp [hz])) _ _ _ _ h)
    split
    · exact sim_back h (sim_clause' l _ ih _ _ _ _ h)
    split
    · exact sim_back h (sim_all' l ih _ _ _ _ h)
    split
    · cases l with
      | nil => rw [tryW, tryW]; exact h
      | cons e l =>
        rw [tryW, tryW]
        exact sim_all' l (fun z hz => ih z (by simp [hz])) _ _ _ _ (sim_back h (ih e (by simp) _ _ _ _ h))
    · exact sim_all' l ih _ _ _ _ h
theorem clsF_fst : ∀ (l : List Tm) (p q : Nat), (clsF p l).map (·.1) = (clsF q l).map (·.1)
  | [], _, _ => rfl
  | c :: l, p, q => by
    rw [clsF, clsF, List.map_append, List.map_append, clsF_fst l _ (q + c.nodes)]
    congr 1
    exact (sim_over _ c _ _ p q ⟨rfl, rfl, rfl⟩).2.2
theorem funsF_fst : ∀ (l : List Tm) (p q : Nat), (funsF p l).map (·.1) = (funsF q l).map (·.1)
  | [], _, _ => rfl
  | c :: l, p, q => by rw [funsF, funsF, List.map_append, List.map_append, funsF_fst l _ (q + c.nodes), clsF_fst c.l _ (q + 1)]
theorem modsF_fst : ∀ (l : List Tm) (p q : Nat), (modsF p l).map (·.1) = (modsF q l).map (·.1)
  | [], _, _ => rfl
  | c :: l, p, q => by rw [modsF, modsF, List.map_append, List.map_append, modsF_fst l _ (q + c.nodes), funsF_fst c.l _ (q + 1)]
theorem funsF_append : ∀ (a b : List Tm) (p : Nat), funsF p (a ++ b) = funsF p a ++ funsF (p + (Tm.pres a).length) b
  | [], b, p => by simp [funsF, Tm.pres]
  | x :: a, b, p => by
    rw [List.cons_append, funsF, funsF_append a b, funsF, nodes_pres_cons, List.append_assoc, Nat.add_assoc]
theorem findF_none {e : Int} : ∀ {L : List (Int × Nat)}, findF e L = none ↔ e ∉ L.map (·.1)
  | [] => by simp [findF]
  | x :: L => by
    rw [findF, List.map_cons, List.mem_cons]
    split
    · rename_i h
      exact ⟨fun h' => by (cases h'), fun h' => absurd (.inl h.symm) h'⟩
    · rename_i h
      rw [findF_none]
      exact ⟨fun h' h'' => by rcases h'' with h'' | h''; exact h h''.symm; exact h' h'', fun h' h'' => h' (.inr h'')⟩

def kyT (x : Tm) : ByteArray × Int := (x.s, x.n)
theorem once_same : ∀ {l l' : List Tm} {seen : List (ByteArray × Int)} {p q : Nat}, l.map kyT = l'.map kyT → (onceW seen p l = none ↔ onceW seen q l' = none)
  | [], [], _, _, _, _ => by simp [onceW]
  | [], _ :: _, _, _, _, h => by simp at h
  | _ :: _, [], _, _, _, h => by simp at h
  | x :: l, y :: l', seen, p, q, h => by
    rw [List.map_cons, List.map_cons, List.cons.injEq] at h
    obtain ⟨h1, h2⟩ := h
    have h1' : (x.s, x.n) = (y.s, y.n) := h1
    rw [onceW, onceW, h1']
    split
    · simp
    · exact once_same h2
theorem once_snoc {f : Tm} : ∀ {l : List Tm} {seen : List (ByteArray × Int)} {p : Nat}, onceW seen p l = none → kyT f ∉ seen → kyT f ∉ l.map kyT → onceW seen p (l ++ [f]) = none
  | [], seen, p, _, h2, _ => by
    rw [List.nil_append, onceW]
    have : (f.s, f.n) ∉ seen := h2
    rw [if_neg this, onceW]
  | x :: l, seen, p, h1, h2, h3 => by
    rw [List.cons_append, onceW]
    rw [onceW] at h1
    split at h1
    · cases h1
    · rename_i hx
      rw [if_neg hx]
      rw [List.map_cons, List.mem_cons] at h3
      refine once_snoc h1 (fun h4 => ?_) (fun h4 => h3 (.inr h4))
      rcases List.mem_append.1 h4 with h4 | h4
      · exact h2 h4
      · exact h3 (.inl (List.mem_singleton.1 h4))
theorem onceM_cons {m : Tm} {l : List Tm} {p : Nat} : onceM p (m :: l) = none ↔ onceW [] (p + 1) m.l = none ∧ onceM (p + m.nodes) l = none := by
  rw [onceM]
  cases onceW [] (p + 1) m.l with
  | none => simp
  | some q => simp
theorem onceM_same : ∀ {l : List Tm} {p q : Nat}, onceM p l = none ↔ onceM q l = none
  | [], _, _ => by simp [onceM]
  | m :: l, p, q => by
    rw [onceM_cons, onceM_cons, once_same (l := m.l) (l' := m.l) rfl (p := p + 1) (q := q + 1)]
    rw [onceM_same (l := l) (p := p + m.nodes) (q := q + m.nodes)]

def curW (m : ByteArray) : List Tm → ByteArray
  | [] => m
  | y :: l => curW (if y.k = 1 then y.s else m) l
theorem cur_none {m : ByteArray} : ∀ {l : List Tm}, (∀ y ∈ l, y.k ≠ 1) → curW m l = m
  | [], _ => rfl
  | y :: l, h => by rw [curW, if_neg (h y List.mem_cons_self), cur_none (fun z hz => h z (List.mem_cons_of_mem _ hz))]
theorem there_cons {F : List Fn9} {m : ByteArray} {p : Nat} {y : Tm} {l : List Tm} : thereW F m p (y :: l) = none ↔ thereE F (if y.k = 1 then y.s else m) y = 0 ∧ thereW F (if y.k = 1 then y.s else m) (p + 1) l = none := by
  rw [thereW]
  generalize (if y.k = 1 then y.s else m) = m'
  by_cases h : thereE F m' y = 0
  · rw [if_pos h]; exact ⟨fun h' => ⟨h, h'⟩, fun h' => h'.2⟩
  · rw [if_neg h]; exact ⟨fun h' => (by cases h'), fun h' => absurd h'.1 h⟩
theorem there_append {F : List Fn9} : ∀ {a b : List Tm} {m : ByteArray} {p : Nat}, thereW F m p (a ++ b) = none ↔ thereW F m p a = none ∧ thereW F (curW m a) (p + a.length) b = none
  | [], b, m, p => by simp [thereW, curW]
  | y :: a, b, m, p => by
    rw [List.cons_append, there_cons, there_cons, there_append, curW, List.length_cons, and_assoc]
    rw [show p + 1 + a.length = p + (a.length + 1) by omega]
theorem thereE_mono {F G : List Fn9} (h : ∀ x ∈ F, x ∈ G) {m : ByteArray} {y : Tm} (hE : thereE F m y = 0) : thereE G m y = 0 := by
  unfold thereE at hE ⊢
  split
  · rename_i h2; rw [if_pos h2] at hE; exact hE
  · rename_i h2
    rw [if_neg h2] at hE
    split
    · rename_i h3
      rw [if_pos h3] at hE
      split at hE
      · rename_i h4
        rw [if_pos (h4.imp id (h _))]
      · cases hE
    · rename_i h3
      rw [if_neg h3] at hE
      split
      · rename_i h4
        rw [if_pos h4] at hE
        split at hE
        · rename_i h5
          rw [if_pos (h _ h5)]
        · cases hE
      · rename_i h4
        rw [if_neg h4] at hE
        split
        · rename_i h5
          rw [if_pos h5] at hE
          split at hE
          · rename_i h6
            rw [if_pos (h _ h6)]
          · cases hE
        · rfl
theorem there_mono {F G : List Fn9} (h : ∀ x ∈ F, x ∈ G) : ∀ {l : List Tm} {m : ByteArray} {p q : Nat}, thereW F m p l = none → thereW G m q l = none
  | [], _, _, _, _ => rfl
  | y :: l, m, p, q, hT => by
    rw [there_cons] at hT ⊢
    exact ⟨thereE_mono h hT.1, there_mono h hT.2⟩
theorem there_quiet {F : List Fn9} : ∀ {l : List Tm} {m : ByteArray} {p : Nat}, (∀ y ∈ l, y.k ≠ 1 ∧ ∀ m, thereE F m y = 0) → thereW F m p l = none
  | [], _, _, _ => rfl
  | y :: l, m, p, h => by
    rw [there_cons]
    exact ⟨(h y List.mem_cons_self).2 _, there_quiet (fun z hz => h z (List.mem_cons_of_mem _ hz))⟩

theorem findF_fst {e : Int} : ∀ {L : List (Int × Nat)} {r : Int × Nat}, findF e L = some r → r.1 = e
  | [], r, h => by simp [findF] at h
  | x :: L, r, h => by
    rw [findF] at h
    split at h
    · rename_i h1; cases h; exact h1
    · exact findF_fst h
theorem there_ne {F : List Fn9} : ∀ {l : List Tm} {m : ByteArray} {p : Nat} {r : Int × Nat}, thereW F m p l = some r → r.1 ≠ 0
  | [], _, _, _, h => by cases h
  | y :: l, m, p, r, h => by
    rw [thereW] at h
    generalize (if y.k = 1 then y.s else m) = m' at h
    by_cases h1 : thereE F m' y = 0
    · rw [if_pos h1] at h; exact there_ne h
    · rw [if_neg h1] at h; cases h; exact h1
theorem rules9_ne {x : Tm} {r : Int × Nat} (h : rules9 x = some r) : r.1 ≠ 0 := by
  unfold rules9 at h
  split at h
  · cases h; show (91 : Int) ≠ 0; decide
  · split at h
    · cases h; show (91 : Int) ≠ 0; decide
    · split at h
      · rename_i h1; cases h; rw [findF_fst h1]; decide
      · split at h
        · rename_i h1; cases h; exact there_ne h1
        · rw [findF_fst h]; decide
theorem chk9_ok {x : Tm} (h : (chk9 x).1 = 0) : fitsB x = true ∧ modsB x = true ∧ rules9 x = none := by
  unfold chk9 at h
  split at h
  · rename_i hc
    refine ⟨hc.1, hc.2, ?_⟩
    cases hr : rules9 x with
    | none => rfl
    | some r => rw [hr] at h; exact absurd h (rules9_ne hr)
  · cases h
theorem rules9_none {x : Tm} : rules9 x = none ↔ onceW [] 1 x.l = none ∧ onceM 1 x.l = none ∧ findF 90 (modsF 1 x.l) = none ∧ thereW (fnsW x.l) ⟨#[]⟩ 0 x.pre = none ∧ findF 11 (modsF 1 x.l) = none := by
  unfold rules9
  constructor
  · intro h
    split at h
    · cases h
    · rename_i h1
      split at h
      · cases h
      · rename_i h2
        split at h
        · cases h
        · rename_i h3
          split at h
          · cases h
          · rename_i h4
            exact ⟨h1, h2, h3, h4, h⟩
  · rintro ⟨h1, h2, h3, h4, h5⟩
    rw [h1, h2, h3, h4, h5]
end Go.Proofs.YthbiaaeoajmlbaaGreatDoor
end
