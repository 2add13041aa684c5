/- Layer 3: the document's own order of terms: number, words, compare, Compare; its atoms and conses. -/
import Derived.Test.YtkceoiaaiaomoaaGreatDoorKOrd
import Derived.Test.YtkceoiaaiaomoaaGreatDoorKRef03M
import Derived.Deep.DeepCutAuto
import Derived.Tactics2
import Derived.StillTailTactics
import Derived.Deep.QuietTactic
import Derived.BigQuiet
set_option linter.unusedVariables false
set_option linter.unusedSimpArgs false
namespace Go.Proofs.YtkceoiaaiaomoaaGreatDoor
open Go.RowKit

theorem rnumber_any (a b : Int) (w : World) : Calls Tryz.prog 246 #[.int .i64 a, .int .i64 b] w fun e w' => e = .returned (.int .i64 (cmpI a b)) ∧ w = w' := by
  unfold cmpI
  by_cases h1 : a < b
  · rw [if_pos h1]
    go_enter Tryz.func246, Tryz.ntmps246
    go_wp2
    go_ret
    exact ⟨rfl, rfl⟩
  · rw [if_neg h1]
    by_cases h2 : b < a
    · rw [if_pos h2]
      go_enter Tryz.func246, Tryz.ntmps246
      go_wp2
      go_ret
      exact ⟨rfl, rfl⟩
    · rw [if_neg h2]
      go_enter Tryz.func246, Tryz.ntmps246
      go_wp2
      go_ret
      exact ⟨rfl, rfl⟩
theorem less_asym : ∀ a b : List UInt8, Op.bytesLess a b = true → Op.bytesLess b a = false ∧ ¬ a = b
  | [], [], h => by simp [Op.bytesLess] at h
  | [], _ :: _, _ => ⟨by simp [Op.bytesLess], by simp⟩
  | _ :: _, [], h => by simp [Op.bytesLess] at h
  | x :: a, y :: b, h => by
    unfold Op.bytesLess at h ⊢
    by_cases h1 : x < y
    · have h2 : ¬ y < x := by simp only [UInt8.lt_iff_toNat_lt] at *; omega
      have h3 : ¬ x = y := by rintro rfl; exact h2 h1
      simp [h1, h2, h3]
      exact fun e => absurd e.symm h3
    · by_cases h2 : y < x
      · simp [h1] at h
        obtain ⟨rfl, -⟩ := h
        exact absurd h2 h1
      · have h3 : x = y := by simp only [UInt8.lt_iff_toNat_lt, ← UInt8.toNat_inj] at *; omega
        subst h3
        simp [h1] at h ⊢
        exact less_asym a b h
theorem rwords_any (a b : ByteArray) (w : World) : Calls Tryz.prog 247 #[.string a, .string b] w fun e w' => e = .returned (.int .i64 (cmpS a b)) ∧ w = w' := by
  unfold cmpS
  cases h1 : Op.bytesLess a.toList b.toList
  · by_cases h2 : a.toList = b.toList
    · rw [if_neg (by simp), if_pos h2]
      have h3 : (!a.toList == b.toList) = false := by rw [h2]; simp
      clear h2
      go_enter Tryz.func247, Tryz.ntmps247
      go_wp2
      go_ret
      exact ⟨rfl, rfl⟩
    · rw [if_neg (by simp), if_neg h2]
      have h3 : (!a.toList == b.toList) = true := by simpa using h2
      clear h2
      go_enter Tryz.func247, Tryz.ntmps247
      go_wp2
      go_ret
      exact ⟨rfl, rfl⟩
  · rw [if_pos rfl]
    go_enter Tryz.func247, Tryz.ntmps247
    go_wp2
    go_ret
    exact ⟨rfl, rfl⟩
theorem cmpI_refl (a : Int) : cmpI a a = 0 := by unfold cmpI; rw [if_neg (by omega), if_neg (by omega)]
theorem cmpS_refl (a : ByteArray) : cmpS a a = 0 := by
  unfold cmpS
  cases h : Op.bytesLess a.toList a.toList
  · rw [if_neg (by simp), if_pos rfl]
  · exact absurd rfl (less_asym _ _ h).2
def rcmpT (n n' : Int) (s t s' t' : ByteArray) (l m : List Tm) : Int :=
  if cmpS s s' ≠ 0 then cmpS s s' else if cmpS t t' ≠ 0 then cmpS t t' else if cmpI n n' ≠ 0 then cmpI n n' else ordL l m
theorem emp_eq {a b : ByteArray} (h : a.toList.isEmpty = true) (g : b.toList.isEmpty = true) : a = b := by
  rw [List.isEmpty_iff] at h g
  rw [ByteArray.toList_eq] at h g
  exact ByteArray.ext (Array.toList_inj.1 (h.trans g.symm))
theorem rcmp_form (k n n' : Int) (s t s' t' : ByteArray) (l m : List Tm) (h : okN k n s t l.length = true) (h' : okN k n' s' t' m.length = true) (hl : l.length = m.length) : rcmpT n n' s t s' t' l m = ordN (.mk k n s t l) (.mk k n' s' t' m) := by
  rw [ordN_eq]
  unfold rcmpT
  have h8 : k = 0 ∨ k = 1 ∨ k = 2 ∨ k = 3 ∨ k = 4 ∨ k = 5 ∨ k = 6 ∨ k = 7 := by
    unfold okN at h
    by_cases e : k = 0 ∨ k = 1 ∨ k = 2 ∨ k = 3 ∨ k = 4 ∨ k = 5 ∨ k = 6 ∨ k = 7
    · exact e
    · rw [if_neg (by omega), if_neg (by omega), if_neg (by omega), if_neg (by omega), if_neg (by omega), if_neg (by omega), if_neg (by omega), if_neg (by omega)] at h
      cases h
  have nil_of : ∀ {a : List Tm}, ((a.length : Int) == 0) = true → a = [] := fun {a} ha => by
    have : a.length = 0 := by simpa using ha
    exact List.length_eq_zero_iff.1 this
  rcases h8 with rfl | rfl | rfl | rfl | rfl | rfl | rfl | rfl
  · simp only [okN, ok_integer, Bool.and_eq_true, if_true] at h h'
    obtain rfl := emp_eq h.1.1.2 h'.1.1.2
    obtain rfl := emp_eq h.1.2 h'.1.2
    obtain rfl := nil_of h.2
    simp [cmpS_refl, ordL]
    intro e; rw [e]
  · simp only [okN, ok_atom, Bool.and_eq_true, if_true, if_neg (show ¬ (1 : Int) = 0 by decide)] at h h'
    obtain rfl : n = 0 := by simpa using h.1.1.2
    obtain rfl : n' = 0 := by simpa using h'.1.1.2
    obtain rfl := emp_eq h.1.2 h'.1.2
    obtain rfl := nil_of h.2
    simp [cmpS_refl, cmpI_refl, ordL]
    intro e; rw [e]
  · simp only [okN, ok_ref, Bool.and_eq_true, if_true, if_neg (show ¬ (2 : Int) = 0 by decide), if_neg (show ¬ (2 : Int) = 1 by decide)] at h h'
    obtain rfl := emp_eq h.1.1.2 h'.1.1.2
    obtain rfl := emp_eq h.1.2 h'.1.2
    obtain rfl := nil_of h.2
    simp [cmpS_refl, ordL]
    intro e; rw [e]
  · simp only [okN, ok_fun, Bool.and_eq_true, if_true, if_neg (show ¬ (3 : Int) = 0 by decide), if_neg (show ¬ (3 : Int) = 1 by decide), if_neg (show ¬ (3 : Int) = 2 by decide)] at h h'
    obtain rfl := nil_of h.2
    simp [orL, ordL]
  · simp only [okN, ok_pid, Bool.and_eq_true, if_true, if_neg (show ¬ (4 : Int) = 0 by decide), if_neg (show ¬ (4 : Int) = 1 by decide), if_neg (show ¬ (4 : Int) = 2 by decide), if_neg (show ¬ (4 : Int) = 3 by decide)] at h h'
    obtain rfl := emp_eq h.1.1.2 h'.1.1.2
    obtain rfl := emp_eq h.1.2 h'.1.2
    obtain rfl := nil_of h.2
    simp [cmpS_refl, ordL]
    intro e; rw [e]
  · simp only [okN, ok_tuple, Bool.and_eq_true, if_true, if_neg (show ¬ (5 : Int) = 0 by decide), if_neg (show ¬ (5 : Int) = 1 by decide), if_neg (show ¬ (5 : Int) = 2 by decide), if_neg (show ¬ (5 : Int) = 3 by decide), if_neg (show ¬ (5 : Int) = 4 by decide)] at h h'
    obtain rfl : n = 0 := by simpa using h.1.1
    obtain rfl : n' = 0 := by simpa using h'.1.1
    obtain rfl := emp_eq h.1.2 h'.1.2
    obtain rfl := emp_eq h.2 h'.2
    simp [cmpS_refl, cmpI_refl, ordR, hl]
  · simp only [okN, ok_empty, Bool.and_eq_true, if_true, if_neg (show ¬ (6 : Int) = 0 by decide), if_neg (show ¬ (6 : Int) = 1 by decide), if_neg (show ¬ (6 : Int) = 2 by decide), if_neg (show ¬ (6 : Int) = 3 by decide), if_neg (show ¬ (6 : Int) = 4 by decide), if_neg (show ¬ (6 : Int) = 5 by decide)] at h h'
    obtain rfl : n = 0 := by simpa using h.1.1.1
    obtain rfl : n' = 0 := by simpa using h'.1.1.1
    obtain rfl := emp_eq h.1.1.2 h'.1.1.2
    obtain rfl := emp_eq h.1.2 h'.1.2
    obtain rfl := nil_of h.2
    simp [cmpS_refl, cmpI_refl, ordL]
  · simp only [okN, ok_cons, Bool.and_eq_true, if_true, if_neg (show ¬ (7 : Int) = 0 by decide), if_neg (show ¬ (7 : Int) = 1 by decide), if_neg (show ¬ (7 : Int) = 2 by decide), if_neg (show ¬ (7 : Int) = 3 by decide), if_neg (show ¬ (7 : Int) = 4 by decide), if_neg (show ¬ (7 : Int) = 5 by decide), if_neg (show ¬ (7 : Int) = 6 by decide)] at h h'
    obtain rfl : n = 0 := by simpa using h.1.1.2
    obtain rfl : n' = 0 := by simpa using h'.1.1.2
    obtain rfl := emp_eq h.1.2 h'.1.2
    obtain rfl := emp_eq h.2 h'.2
    simp [cmpS_refl, cmpI_refl, ordR, hl]
theorem okN_len {k n n' : Int} {s t s' t' : ByteArray} {a b : Nat} (h : okN k n s t a = true) (h' : okN k n' s' t' b = true) (hk : ¬ k = 5) : a = b := by
  unfold okN at h h'
  by_cases h0 : k = 0
  · rw [if_pos h0] at h h'; simp only [ok_integer, Bool.and_eq_true, beq_iff_eq] at h h'; omega
  by_cases h1 : k = 1
  · rw [if_neg h0, if_pos h1] at h h'; simp only [ok_atom, Bool.and_eq_true, beq_iff_eq] at h h'; omega
  by_cases h2 : k = 2
  · rw [if_neg h0, if_neg h1, if_pos h2] at h h'; simp only [ok_ref, Bool.and_eq_true, beq_iff_eq] at h h'; omega
  by_cases h3 : k = 3
  · rw [if_neg h0, if_neg h1, if_neg h2, if_pos h3] at h h'; simp only [ok_fun, Bool.and_eq_true, beq_iff_eq] at h h'; omega
  by_cases h4 : k = 4
  · rw [if_neg h0, if_neg h1, if_neg h2, if_neg h3, if_pos h4] at h h'; simp only [ok_pid, Bool.and_eq_true, beq_iff_eq] at h h'; omega
  by_cases h6 : k = 6
  · rw [if_neg h0, if_neg h1, if_neg h2, if_neg h3, if_neg h4, if_neg hk, if_pos h6] at h h'; simp only [ok_empty, Bool.and_eq_true, beq_iff_eq] at h h'; omega
  by_cases h7 : k = 7
  · rw [if_neg h0, if_neg h1, if_neg h2, if_neg h3, if_neg h4, if_neg hk, if_neg h6, if_pos h7] at h h'; simp only [ok_cons, Bool.and_eq_true, beq_iff_eq] at h h'; omega
  · rw [if_neg h0, if_neg h1, if_neg h2, if_neg h3, if_neg h4, if_neg hk, if_neg h6, if_neg h7] at h; cases h
abbrev AllOk (x : Tm) : Prop := ∀ y ∈ x.pre, okB y = true
theorem pres_mem : ∀ {l : List Tm} {x y : Tm}, x ∈ l → y ∈ x.pre → y ∈ Tm.pres l
  | z :: l, x, y, hx, hy => by
    rw [Tm.pres]
    rcases List.mem_cons.1 hx with rfl | hx
    · exact List.mem_append_left _ hy
    · exact List.mem_append_right _ (pres_mem hx hy)
theorem allOk_mk {k n : Int} {s t : ByteArray} {l : List Tm} (h : AllOk (.mk k n s t l)) : okN k n s t l.length = true ∧ ∀ y ∈ l, AllOk y :=
  ⟨h (.mk k n s t l) (by rw [Tm.pre]; simp), fun y hy z hz => h z (by rw [Tm.pre]; exact List.mem_cons_of_mem _ (pres_mem hy hz))⟩
theorem allOk_check {x : Tm} (h : checkN x = 0) : AllOk x := by
  unfold checkN at h
  by_cases h1 : (x.pre.take 257).all okB = true
  · rw [if_pos h1] at h
    by_cases h2 : 256 < x.nodes
    · rw [if_pos h2] at h; cases h
    · unfold Tm.nodes at h2
      rw [List.take_of_length_le (by omega)] at h1
      exact List.all_eq_true.1 h1
  · rw [if_neg h1] at h; cases h

set_option maxHeartbeats 8000000 in
set_option maxRecDepth 100000 in
theorem rcompare_any (x : Tm) : ∀ (y : Tm) (v u : Value) (w : World), AllOk x → AllOk y → TmAt (· < w.heap.size) w x v → TmAt (· < w.heap.size) w y u →
    Calls Tryz.prog 222 #[v, u] w fun e w' => e = .returned (.int .i64 (ordN x y)) ∧ Below w.heap.size w w' := by
  induction x using Tm.ind with
  | h k n s t l ih =>
  intro y v u w hax hay hx hy
  obtain ⟨A, cap, rfl, hR, hk1, -⟩ := hx.parts
  obtain ⟨k', n', s', t', m⟩ := y
  obtain ⟨A', cap', rfl, hQ, hk2, -⟩ := hy.parts
  have hl1 := hR.max
  have hl2 := hQ.max
  unfold maxLen at hl1 hl2
  obtain ⟨w1, hw1⟩ : ∃ w1, w1 = (w.alloc (.cells #[.int .i8 k, .int .i64 n, .string s, .string t, .slice A l.length cap] 44)).alloc (.cells #[.int .i8 k', .int .i64 n', .string s', .string t', .slice A' m.length cap'] 44) := ⟨_, rfl⟩
  have h0 : Bx2 w w1 #[.int .i8 k, .int .i64 n, .string s, .string t, .slice A l.length cap] #[.int .i8 k', .int .i64 n', .string s', .string t', .slice A' m.length cap'] := by rw [hw1]; exact bx2_of _ _ _
  have H0 := Lib.hid h0
  have HR := Lib.hid hR
  have HQ := Lib.hid hQ
  have HAX := Lib.hid (allOk_mk hax)
  have HAY := Lib.hid (allOk_mk hay)
  have HIH := Lib.hid ih
  have hki : IntKind.i64.wrap k = k := by rw [IntKind.wrap_i64]; omega
  have hki2 : IntKind.i64.wrap k' = k' := by rw [IntKind.wrap_i64]; omega
  clear hx hy hR hQ ih h0 hax hay
  obtain ⟨x0, x1, x2, x3, x4⟩ := five_of H0.out.bx
  obtain ⟨y0, y1, y2, y3, y4⟩ := five_of H0.out.by_
  by_cases hk : k = k'
  case neg =>
    have HRES : Hid (ordN (.mk k n s t l) (.mk k' n' s' t' m) = cmpI k k') := Lib.hid (by rw [ordN]; exact if_pos hk)
    have hk3 : (k != k') = true := by simpa using hk
    clear hk
    go_enter Tryz.func222, Tryz.ntmps222
    go_upto_region 1 with fail
    rw [← hw1]
    clear hw1
    go_wp2_with fail
    refine (rnumber_any _ _ _).mono ?_
    rintro e w2 ⟨rfl, rfl⟩
    go_wp2_with fail
    go_ret
    exact ⟨ret_int HRES.out.symm, H0.out.below⟩
  have hk3 : (k != k') = false := by simpa using hk
  have HAY2 : Hid (okN k n' s' t' m.length = true) := Lib.hid (by rw [hk]; exact HAY.out.1)
  have HRES : Hid (ordN (.mk k n s t l) (.mk k' n' s' t' m) = ordN (.mk k n s t l) (.mk k n' s' t' m)) := Lib.hid (by rw [hk])
  clear hk hki hki2 hk2
  by_cases h5 : k = 5 ∧ ¬ l.length = m.length
  case pos =>
    have HR2 : Hid (ordN (.mk k n s t l) (.mk k n' s' t' m) = cmpI l.length m.length) := Lib.hid (by
      rw [ordN_eq, if_neg (by omega), if_neg (by omega), if_pos (.inl h5.1)]
      unfold ordR
      exact if_pos h5.2)
    have h51 : (k == 5) = true := by simpa using h5.1
    have h52 : ((l.length : Int) != (m.length : Int)) = true := by have := h5.2; simp; omega
    clear h5
    go_enter Tryz.func222, Tryz.ntmps222
    go_upto_region 1 with fail
    rw [← hw1]
    clear hw1
    go_wp2_with fail
    refine (rnumber_any _ _ _).mono ?_
    rintro e w2 ⟨rfl, rfl⟩
    go_wp2_with fail
    go_ret
    exact ⟨ret_int (by rw [HRES.out, HR2.out]), H0.out.below⟩
  have hlen : l.length = m.length := by
    by_cases h : k = 5
    · exact Classical.byContradiction fun hn => h5 ⟨h, hn⟩
    · exact okN_len HAX.out.1 HAY2.out h
  have HR3 : Hid (ordN (.mk k n s t l) (.mk k' n' s' t' m) = rcmpT n n' s t s' t' l m) := Lib.hid (by rw [HRES.out, rcmp_form k n n' s t s' t' l m HAX.out.1 HAY2.out hlen])
  have HL := Lib.hid hlen
  have h52 : ((l.length : Int) != (m.length : Int)) = false := by rw [hlen]; simp
  clear h5 hlen
  have walk : ∀ kb : Bool, (k == 5) = kb → Calls Tryz.prog 222 #[.agg #[.int .i8 k, .int .i64 n, .string s, .string t, .slice A l.length cap], .agg #[.int .i8 k', .int .i64 n', .string s', .string t', .slice A' m.length cap']] w fun e w' => e = .returned (.int .i64 (ordN (.mk k n s t l) (.mk k' n' s' t' m))) ∧ Below w.heap.size w w' := by
    intro kb h51
    cases kb
    case false =>
      go_enter Tryz.func222, Tryz.ntmps222
      go_upto_region 1 with fail
      rw [← hw1]
      clear hw1
      go_wp2_with fail
      refine (rwords_any _ _ _).mono ?_
      rintro e w2 ⟨rfl, rfl⟩
      by_cases c1 : cmpS s s' = 0
      case neg =>
        have HF : Hid (rcmpT n n' s t s' t' l m = cmpS s s') := Lib.hid (if_pos c1)
        have c2 : (cmpS s s' != 0) = true := by simpa using c1
        clear c1
        go_wp2_with fail
        go_ret
        exact ⟨ret_int (by rw [HR3.out, HF.out]), H0.out.below⟩
      have HF1 : Hid (rcmpT n n' s t s' t' l m = if cmpS t t' ≠ 0 then cmpS t t' else if cmpI n n' ≠ 0 then cmpI n n' else ordL l m) := Lib.hid (if_neg (fun h => h c1))
      have c2 : (cmpS s s' != 0) = false := by simpa using c1
      clear c1
      go_wp2_with fail
      refine (rwords_any _ _ _).mono ?_
      rintro e w2 ⟨rfl, rfl⟩
      by_cases c3 : cmpS t t' = 0
      case neg =>
        have HF : Hid (rcmpT n n' s t s' t' l m = cmpS t t') := Lib.hid (by rw [HF1.out]; exact if_pos c3)
        have c4 : (cmpS t t' != 0) = true := by simpa using c3
        clear c3
        go_wp2_with fail
        go_ret
        exact ⟨ret_int (by rw [HR3.out, HF.out]), H0.out.below⟩
      have HF2 : Hid (rcmpT n n' s t s' t' l m = if cmpI n n' ≠ 0 then cmpI n n' else ordL l m) := Lib.hid (by rw [HF1.out]; exact if_neg (fun h => h c3))
      have c4 : (cmpS t t' != 0) = false := by simpa using c3
      clear c3
      go_wp2_with fail
      refine (rnumber_any _ _ _).mono ?_
      rintro e w2 ⟨rfl, rfl⟩
      clear x0 x1 x2 x3 x4 y0 y1 y2 y3 y4
      obtain ⟨z0, hz0⟩ : ∃ z0, z0 = cmpI n n' := ⟨_, rfl⟩
      have HZ := Lib.hid hz0
      rw [← hz0]
      clear hz0
      go_wp2_with fail
      go_loopw [5, 6] (fun c i wr => ∃ (j : Nat) (z : Int), j ≤ l.length ∧ i = .int .i64 j ∧ c = .int .i64 z ∧ Hid (rcmpT n n' s t s' t' l m = if z ≠ 0 then z else ordL (l.drop j) (m.drop j)) ∧ Hid (Bx2 w wr #[.int .i8 k, .int .i64 n, .string s, .string t, .slice A l.length cap] #[.int .i8 k', .int .i64 n', .string s', .string t', .slice A' m.length cap'])) (fun _ i _ => l.length - (intOf i).toNat)
      case atStart => exact ⟨0, z0, Nat.zero_le _, rfl, rfl, Lib.hid (by rw [HF2.out, HZ.out]; rfl), H0⟩
      case round =>
        obtain ⟨j, z, hj, rfl, rfl, HV, HBX⟩ := hrel
        have x4 : (wr).cell? ⟨w.heap.size, 4, none⟩ = some (.slice A l.length cap) := cell_of_row (i := 4) HBX.out.bx rfl
        have y4 : (wr).cell? ⟨(w.heap.size + 1), 4, none⟩ = some (.slice A' m.length cap') := cell_of_row (i := 4) HBX.out.by_ rfl
        by_cases hlt : j < l.length
        case neg =>
          obtain rfl : j = l.length := by omega
          have HE : Hid (rcmpT n n' s t s' t' l m = z) := Lib.hid (by
            rw [HV.out]
            by_cases hz : z = 0
            · rw [if_neg (fun h => h hz), List.drop_length, hz]; exact (by rw [ordL]; intro a b c d e; cases e)
            · exact if_pos hz)
          go_wp2_with fail
          go_ret
          exact ⟨ret_int (by rw [HR3.out, HE.out]), HBX.out.below⟩
        by_cases hz : z = 0
        case neg =>
          have HE : Hid (rcmpT n n' s t s' t' l m = z) := Lib.hid (by rw [HV.out]; exact if_pos hz)
          have hz1 : (z == 0) = false := by simpa using hz
          clear hz
          go_wp2_with fail
          go_ret
          exact ⟨ret_int (by rw [HR3.out, HE.out]), HBX.out.below⟩
        have hz1 : (z == 0) = true := by simpa using hz
        have HV2 : Hid (rcmpT n n' s t s' t' l m = ordL (l.drop j) (m.drop j)) := Lib.hid (by rw [HV.out]; exact if_neg (fun h => h hz))
        clear hz
        have hlt2 : j < m.length := by rw [← HL.out]; exact hlt
        obtain ⟨x, hx⟩ : ∃ x, l[j]? = some x := ⟨l[j], List.getElem?_eq_getElem hlt⟩
        obtain ⟨y, hy⟩ : ∃ y, m[j]? = some y := ⟨m[j], List.getElem?_eq_getElem hlt2⟩
        obtain ⟨ad, u, rfl, had, hE, hTx⟩ := HR.out.at_ j x hx
        obtain ⟨bd, u', rfl, hbd, hE', hTy⟩ := HQ.out.at_ j y hy
        have hTx1 := hTx.later HBX.out.below
        have hTy1 := hTy.later HBX.out.below
        obtain ⟨c0, c1', c2', c3', c4', rfl, e0, e1, e2, e3, e4⟩ := hE.keep (HBX.out.below.block ad.block had)
        obtain ⟨d0, d1, d2, d3, d4, rfl, g0, g1, g2, g3, g4⟩ := hE'.keep (HBX.out.below.block bd.block hbd)
        have HXY := Lib.hid (ordL_drop hx hy)
        have hmx := List.mem_of_getElem? hx
        have hmy := List.mem_of_getElem? hy
        have HC : Hid (Calls Tryz.prog 222 #[.agg #[c0, c1', c2', c3', c4'], .agg #[d0, d1, d2, d3, d4]] { wr with drawn := wr.drawn + 1 } fun e w' => e = .returned (.int .i64 (ordN x y)) ∧ Below wr.heap.size wr w') :=
          (HIH.out x hmx y _ _ { wr with drawn := wr.drawn + 1 } (HAX.out.2 x hmx) (HAY.out.2 y hmy) (hTx1.keep (fun _ _ => rfl) (fun _ h => h)) (hTy1.keep (fun _ _ => rfl) (fun _ h => h))).mono fun e w' ⟨he, hb⟩ => ⟨he, (⟨rfl, rfl, rfl, Nat.le_refl _, fun _ _ => rfl⟩ : Below wr.heap.size wr { wr with drawn := wr.drawn + 1 }).trans hb⟩
        clear hx hy hE hE' hTx hTy hTx1 hTy1 hmx hmy had hbd
        have i0 : (0 : Int) ≤ (j : Int) := by omega
        have i1 : (j : Int) < (l.length : Int) := by omega
        have i2 : (j : Int) < (m.length : Int) := by omega
        go_wp2_with fail
        go_still_tail 10, (by kernel_rfl)
        go_wp2_with fail
        refine HC.out.mono ?_
        clear e0 e1 e2 e3 e4 g0 g1 g2 g3 g4 x4 y4
        rintro e w2 ⟨rfl, b1⟩
        have HB1 := Lib.hid (HBX.out.on b1)
        clear b1
        obtain ⟨z2, hz2⟩ : ∃ z2, z2 = ordN x y := ⟨_, rfl⟩
        have HV3 : Hid (rcmpT n n' s t s' t' l m = if z2 ≠ 0 then z2 else ordL (l.drop (j + 1)) (m.drop (j + 1))) := Lib.hid (by
          rw [HV2.out, HXY.out, ← hz2]
          by_cases h : z2 = 0
          · rw [if_pos h, if_neg (fun g => g h)]
          · rw [if_neg h, if_pos h])
        rw [← hz2]
        clear hz2
        go_wp2_with fail
        go_roundw
        case rel => exact ⟨j + 1, z2, by omega, by go_num, rfl, HV3, HB1⟩
        case measure => simp [intOf]; omega
    case true =>
      go_enter Tryz.func222, Tryz.ntmps222
      go_upto_region 1 with fail
      rw [← hw1]
      clear hw1
      go_wp2_with fail
      refine (rwords_any _ _ _).mono ?_
      rintro e w2 ⟨rfl, rfl⟩
      by_cases c1 : cmpS s s' = 0
      case neg =>
        have HF : Hid (rcmpT n n' s t s' t' l m = cmpS s s') := Lib.hid (if_pos c1)
        have c2 : (cmpS s s' != 0) = true := by simpa using c1
        clear c1
        go_wp2_with fail
        go_ret
        exact ⟨ret_int (by rw [HR3.out, HF.out]), H0.out.below⟩
      have HF1 : Hid (rcmpT n n' s t s' t' l m = if cmpS t t' ≠ 0 then cmpS t t' else if cmpI n n' ≠ 0 then cmpI n n' else ordL l m) := Lib.hid (if_neg (fun h => h c1))
      have c2 : (cmpS s s' != 0) = false := by simpa using c1
      clear c1
      go_wp2_with fail
      refine (rwords_any _ _ _).mono ?_
      rintro e w2 ⟨rfl, rfl⟩
      by_cases c3 : cmpS t t' = 0
      case neg =>
        have HF : Hid (rcmpT n n' s t s' t' l m = cmpS t t') := Lib.hid (by rw [HF1.out]; exact if_pos c3)
        have c4 : (cmpS t t' != 0) = true := by simpa using c3
        clear c3
        go_wp2_with fail
        go_ret
        exact ⟨ret_int (by rw [HR3.out, HF.out]), H0.out.below⟩
      have HF2 : Hid (rcmpT n n' s t s' t' l m = if cmpI n n' ≠ 0 then cmpI n n' else ordL l m) := Lib.hid (by rw [HF1.out]; exact if_neg (fun h => h c3))
      have c4 : (cmpS t t' != 0) = false := by simpa using c3
      clear c3
      go_wp2_with fail
      refine (rnumber_any _ _ _).mono ?_
      rintro e w2 ⟨rfl, rfl⟩
      clear x0 x1 x2 x3 x4 y0 y1 y2 y3 y4
      obtain ⟨z0, hz0⟩ : ∃ z0, z0 = cmpI n n' := ⟨_, rfl⟩
      have HZ := Lib.hid hz0
      rw [← hz0]
      clear hz0
      go_wp2_with fail
      go_loopw [5, 6] (fun c i wr => ∃ (j : Nat) (z : Int), j ≤ l.length ∧ i = .int .i64 j ∧ c = .int .i64 z ∧ Hid (rcmpT n n' s t s' t' l m = if z ≠ 0 then z else ordL (l.drop j) (m.drop j)) ∧ Hid (Bx2 w wr #[.int .i8 k, .int .i64 n, .string s, .string t, .slice A l.length cap] #[.int .i8 k', .int .i64 n', .string s', .string t', .slice A' m.length cap'])) (fun _ i _ => l.length - (intOf i).toNat)
      case atStart => exact ⟨0, z0, Nat.zero_le _, rfl, rfl, Lib.hid (by rw [HF2.out, HZ.out]; rfl), H0⟩
      case round =>
        obtain ⟨j, z, hj, rfl, rfl, HV, HBX⟩ := hrel
        have x4 : (wr).cell? ⟨w.heap.size, 4, none⟩ = some (.slice A l.length cap) := cell_of_row (i := 4) HBX.out.bx rfl
        have y4 : (wr).cell? ⟨(w.heap.size + 1), 4, none⟩ = some (.slice A' m.length cap') := cell_of_row (i := 4) HBX.out.by_ rfl
        by_cases hlt : j < l.length
        case neg =>
          obtain rfl : j = l.length := by omega
          have HE : Hid (rcmpT n n' s t s' t' l m = z) := Lib.hid (by
            rw [HV.out]
            by_cases hz : z = 0
            · rw [if_neg (fun h => h hz), List.drop_length, hz]; exact (by rw [ordL]; intro a b c d e; cases e)
            · exact if_pos hz)
          go_wp2_with fail
          go_ret
          exact ⟨ret_int (by rw [HR3.out, HE.out]), HBX.out.below⟩
        by_cases hz : z = 0
        case neg =>
          have HE : Hid (rcmpT n n' s t s' t' l m = z) := Lib.hid (by rw [HV.out]; exact if_pos hz)
          have hz1 : (z == 0) = false := by simpa using hz
          clear hz
          go_wp2_with fail
          go_ret
          exact ⟨ret_int (by rw [HR3.out, HE.out]), HBX.out.below⟩
        have hz1 : (z == 0) = true := by simpa using hz
        have HV2 : Hid (rcmpT n n' s t s' t' l m = ordL (l.drop j) (m.drop j)) := Lib.hid (by rw [HV.out]; exact if_neg (fun h => h hz))
        clear hz
        have hlt2 : j < m.length := by rw [← HL.out]; exact hlt
        obtain ⟨x, hx⟩ : ∃ x, l[j]? = some x := ⟨l[j], List.getElem?_eq_getElem hlt⟩
        obtain ⟨y, hy⟩ : ∃ y, m[j]? = some y := ⟨m[j], List.getElem?_eq_getElem hlt2⟩
        obtain ⟨ad, u, rfl, had, hE, hTx⟩ := HR.out.at_ j x hx
        obtain ⟨bd, u', rfl, hbd, hE', hTy⟩ := HQ.out.at_ j y hy
        have hTx1 := hTx.later HBX.out.below
        have hTy1 := hTy.later HBX.out.below
        obtain ⟨c0, c1', c2', c3', c4', rfl, e0, e1, e2, e3, e4⟩ := hE.keep (HBX.out.below.block ad.block had)
        obtain ⟨d0, d1, d2, d3, d4, rfl, g0, g1, g2, g3, g4⟩ := hE'.keep (HBX.out.below.block bd.block hbd)
        have HXY := Lib.hid (ordL_drop hx hy)
        have hmx := List.mem_of_getElem? hx
        have hmy := List.mem_of_getElem? hy
        have HC : Hid (Calls Tryz.prog 222 #[.agg #[c0, c1', c2', c3', c4'], .agg #[d0, d1, d2, d3, d4]] { wr with drawn := wr.drawn + 1 } fun e w' => e = .returned (.int .i64 (ordN x y)) ∧ Below wr.heap.size wr w') :=
          (HIH.out x hmx y _ _ { wr with drawn := wr.drawn + 1 } (HAX.out.2 x hmx) (HAY.out.2 y hmy) (hTx1.keep (fun _ _ => rfl) (fun _ h => h)) (hTy1.keep (fun _ _ => rfl) (fun _ h => h))).mono fun e w' ⟨he, hb⟩ => ⟨he, (⟨rfl, rfl, rfl, Nat.le_refl _, fun _ _ => rfl⟩ : Below wr.heap.size wr { wr with drawn := wr.drawn + 1 }).trans hb⟩
        clear hx hy hE hE' hTx hTy hTx1 hTy1 hmx hmy had hbd
        have i0 : (0 : Int) ≤ (j : Int) := by omega
        have i1 : (j : Int) < (l.length : Int) := by omega
        have i2 : (j : Int) < (m.length : Int) := by omega
        go_wp2_with fail
        go_still_tail 10, (by kernel_rfl)
        go_wp2_with fail
        refine HC.out.mono ?_
        clear e0 e1 e2 e3 e4 g0 g1 g2 g3 g4 x4 y4
        rintro e w2 ⟨rfl, b1⟩
        have HB1 := Lib.hid (HBX.out.on b1)
        clear b1
        obtain ⟨z2, hz2⟩ : ∃ z2, z2 = ordN x y := ⟨_, rfl⟩
        have HV3 : Hid (rcmpT n n' s t s' t' l m = if z2 ≠ 0 then z2 else ordL (l.drop (j + 1)) (m.drop (j + 1))) := Lib.hid (by
          rw [HV2.out, HXY.out, ← hz2]
          by_cases h : z2 = 0
          · rw [if_pos h, if_neg (fun g => g h)]
          · rw [if_neg h, if_pos h])
        rw [← hz2]
        clear hz2
        go_wp2_with fail
        go_roundw
        case rel => exact ⟨j + 1, z2, by omega, by go_num, rfl, HV3, HB1⟩
        case measure => simp [intOf]; omega
  exact walk _ rfl

set_option maxHeartbeats 4000000 in
set_option maxRecDepth 100000 in
theorem rCompare3_any (x y : Tm) (v u : Value) (w : World) (hx : TmAt (· < w.heap.size) w x v) (hy : TmAt (· < w.heap.size) w y u) :
    Calls Tryz.prog 166 #[v, u] w fun e w' => e = .returned (.int .i64 (compN x y)) ∧ Below w.heap.size w w' := by
  obtain ⟨k, n, s, t, l, A, cap, hxx, rfl⟩ : ∃ k' n' s' t' L' A' cap', x = Tm.mk k' n' s' t' L' ∧ v = .agg #[.int .i8 k', .int .i64 n', .string s', .string t', .slice A' L'.length cap'] := by
    cases hx; exact ⟨_, _, _, _, _, _, _, rfl, rfl⟩
  obtain ⟨k', n', s', t', m, A', cap', hyy, rfl⟩ : ∃ k' n' s' t' L' A' cap', y = Tm.mk k' n' s' t' L' ∧ u = .agg #[.int .i8 k', .int .i64 n', .string s', .string t', .slice A' L'.length cap'] := by
    cases hy; exact ⟨_, _, _, _, _, _, _, rfl, rfl⟩
  clear hxx hyy
  obtain ⟨w1, hw1⟩ : ∃ w1, w1 = (w.alloc (.cells #[.int .i8 k, .int .i64 n, .string s, .string t, .slice A l.length cap] 44)).alloc (.cells #[.int .i8 k', .int .i64 n', .string s', .string t', .slice A' m.length cap'] 44) := ⟨_, rfl⟩
  have h0 : Bx2 w w1 #[.int .i8 k, .int .i64 n, .string s, .string t, .slice A l.length cap] #[.int .i8 k', .int .i64 n', .string s', .string t', .slice A' m.length cap'] := by rw [hw1]; exact bx2_of _ _ _
  have H0 := Lib.hid h0
  have HX := Lib.hid hx
  have HY := Lib.hid hy
  have hc1 := rCheck_any x _ w1 (hx.later h0.below)
  have HC1 := Lib.hid hc1
  clear hx hy h0 hc1
  obtain ⟨x0, x1, x2, x3, x4⟩ := five_of H0.out.bx
  obtain ⟨y0, y1, y2, y3, y4⟩ := five_of H0.out.by_
  go_enter Tryz.func166, Tryz.ntmps166
  go_upto_region 1 with fail
  rw [← hw1]
  clear hw1
  go_wp2_with fail
  refine HC1.out.mono ?_
  rintro e w2 ⟨rfl, b2⟩
  have H2 := Lib.hid (H0.out.on b2)
  clear b2 x0 x1 x2 x3 x4 y0 y1 y2 y3 y4
  by_cases hcx : checkN x = 0
  case neg =>
    have HF : Hid (compN x y = 0) := Lib.hid (if_neg (fun h => hcx h.1))
    have hc1 : (checkN x != 0) = true := by simpa using hcx
    clear hcx
    go_wp2_with fail
    go_ret
    exact ⟨ret_int HF.out.symm, H2.out.below⟩
  have hc1 : (checkN x != 0) = false := by simpa using hcx
  have HCX := Lib.hid hcx
  clear hcx
  have HC2 := Lib.hid (rCheck_any y _ w2 (HY.out.later H2.out.below))
  obtain ⟨y0, y1, y2, y3, y4⟩ := five_of H2.out.by_
  go_wp2_with fail
  refine HC2.out.mono ?_
  rintro e w3 ⟨rfl, b3⟩
  have H3 := Lib.hid (H2.out.on b3)
  clear b3 y0 y1 y2 y3 y4
  by_cases hcy : checkN y = 0
  case neg =>
    have HF : Hid (compN x y = 0) := Lib.hid (if_neg (fun h => hcy h.2))
    have hc2 : (checkN y != 0) = true := by simpa using hcy
    clear hcy
    go_wp2_with fail
    go_ret
    exact ⟨ret_int HF.out.symm, H3.out.below⟩
  have hc2 : (checkN y != 0) = false := by simpa using hcy
  have HCY := Lib.hid hcy
  clear hcy
  have HC3 := Lib.hid (rcompare_any x y _ _ w3 (allOk_check HCX.out) (allOk_check HCY.out) (HX.out.later H3.out.below) (HY.out.later H3.out.below))
  obtain ⟨x0, x1, x2, x3, x4⟩ := five_of H3.out.bx
  obtain ⟨y0, y1, y2, y3, y4⟩ := five_of H3.out.by_
  go_wp2_with fail
  refine HC3.out.mono ?_
  rintro e w4 ⟨rfl, b4⟩
  have H4 := Lib.hid (H3.out.on b4)
  clear b4
  go_wp2_with fail
  go_ret
  exact ⟨ret_int (show ordN x y = compN x y from (if_pos ⟨HCX.out, HCY.out⟩).symm), H4.out.below⟩

theorem rAtom_any (s : ByteArray) (w : World) : Calls Tryz.prog 147 #[.string s] w fun e w' => e = .returned (.agg #[.int .i8 1, .int .i64 0, .string s, .string ⟨#[]⟩, .slice none 0 0]) ∧ Below w.heap.size w w' := by
  go_enter Tryz.func147, Tryz.ntmps147
  go_wp2_with fail
  refine bodyPost_ret (v := .agg #[.int .i8 1, .int .i64 0, .string s, .string ⟨#[]⟩, .slice none 0 0]) (by simp [results, Tryz.f147, go_sem]) rfl ⟨rfl, (Below.refl _ _).alloc (Nat.le_refl _) _⟩
end Go.Proofs.YtkceoiaaiaomoaaGreatDoor
