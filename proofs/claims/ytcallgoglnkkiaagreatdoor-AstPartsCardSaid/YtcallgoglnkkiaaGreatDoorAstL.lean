/- Layer 7: texts of trees that may be are one to one: names, numbers, rows, patterns. Layer 7: texts of trees that may be are one to one: expressions told apart, what begins them, rows without a fixed end. Layer 7: texts of trees that may be are one to one: tests, guards, clauses, from expressions of less depth. Layer 7: texts of trees that may be are one to one: clauses of a receive, expressions. -/
import Derived.Test.YtcallgoglnkkiaaGreatDoorAstT
import Derived.Test.YtcallgoglnkkiaaGreatDoorAstQ
import Derived.Test.YtcallgoglnkkiaaGreatDoorRdNum
set_option linter.unusedVariables false
set_option linter.unusedSimpArgs false
namespace Go.Proofs.YtcallgoglnkkiaaGreatDoor
open Go.RowKit
open Go.Lib (decDigits itoa)

theorem bytes_eq {a b : ByteArray} (h : a.data.toList = b.data.toList) : a = b := ByteArray.ext (Array.toList_inj.1 h)
theorem name_cut {a b : ByteArray} {k k' : Int} (ha : nameB a k = true) (hb : nameB b k' = true) {r r' : List UInt8} (hr : Sep r) (hr' : Sep r') (h : a.data.toList ++ r = b.data.toList ++ r') : a = b ∧ r = r' := by
  have h1 := pref_name ha hr
  have h2 := pref_name hb hr'
  rw [h, h2] at h1
  have hl : a.data.toList.length = b.data.toList.length := by rw [size_list, size_list, h1]
  obtain ⟨e1, e2⟩ := List.append_inj h hl
  exact ⟨bytes_eq e1, e2⟩
theorem dec_cut {u v : Nat} {r r' : List UInt8} (hr : Sep r) (hr' : Sep r') (h : decDigits u ++ r = decDigits v ++ r') : u = v ∧ r = r' := by
  have h1 := dg_dec u hr
  have h2 := dg_dec v hr'
  rw [h, h2] at h1
  obtain ⟨e1, e2⟩ := List.append_inj h h1.symm
  refine ⟨?_, e2⟩
  rw [← (dec_facts u).2.1, ← (dec_facts v).2.1, e1]
theorem dec_head (u : Nat) : ∃ c t, decDigits u = c :: t ∧ isDig c = true := by
  cases h : decDigits u with
  | nil => exact ((dec_facts u).2.2.2.2 h).elim
  | cons c t => exact ⟨c, t, rfl, (dec_facts u).1 c (by rw [h]; simp)⟩
theorem dig_45 {c : UInt8} (h : isDig c = true) : c ≠ 45 := fun e => by subst e; revert h; decide
theorem itoa_cut {n m : Int} {r r' : List UInt8} (hr : Sep r) (hr' : Sep r') (h : itoa n ++ r = itoa m ++ r') : n = m ∧ r = r' := by
  unfold itoa at h
  by_cases hn : n < 0
  · rw [if_pos hn] at h
    by_cases hm : m < 0
    · rw [if_pos hm] at h
      simp only [List.cons_append, List.cons.injEq, true_and] at h
      obtain ⟨e1, e2⟩ := dec_cut hr hr' h
      exact ⟨by omega, e2⟩
    · rw [if_neg hm] at h
      obtain ⟨c, t, e, hd⟩ := dec_head m.toNat
      rw [e] at h
      simp only [List.cons_append, List.cons.injEq] at h
      exact (dig_45 hd h.1.symm).elim
  · rw [if_neg hn] at h
    by_cases hm : m < 0
    · rw [if_pos hm] at h
      obtain ⟨c, t, e, hd⟩ := dec_head n.toNat
      rw [e] at h
      simp only [List.cons_append, List.cons.injEq] at h
      exact (dig_45 hd h.1).elim
    · rw [if_neg hm] at h
      obtain ⟨e1, e2⟩ := dec_cut hr hr' h
      exact ⟨by omega, e2⟩

/-- What a byte begins: 3 a variable's name, 2 an atom's (or a word), 1 a number, 91 [ , 123 { , 40 ( ; 0 nothing. -/
def cls (c : UInt8) : Nat := if kindN (c.toNat : Int) = 3 then 3 else if kindN (c.toNat : Int) = 2 then 2 else if kindN (c.toNat : Int) = 1 ∨ c = 45 then 1 else if c = 91 then 91 else if c = 123 then 123 else if c = 40 then 40 else 0
theorem name_head {s : ByteArray} {k : Int} (h : nameB s k = true) : ∃ c t, s.data.toList = c :: t ∧ kindN (c.toNat : Int) = k := by
  have h1 := of_decide_eq_true (h : decide _ = true)
  have h0 : 0 < s.size := by omega
  have hc := drop_cons (l := s.data.toList) (k := 0) (by rw [size_list]; exact h0)
  rw [List.drop_zero] at hc
  refine ⟨_, _, hc, ?_⟩
  have := kd_at s 0 h0
  rw [h1.2.2.1] at this
  exact this
theorem dig_cls {c : UInt8} (h : isDig c = true) : cls c = 1 := by
  have h1 : kindN (c.toNat : Int) = 1 := by
    unfold isDig at h
    have h2 := of_decide_eq_true h
    exact kind_d (by omega) (by omega) (by omega) (by omega) (by omega)
  unfold cls
  rw [if_neg (by omega), if_neg (by omega), if_pos (.inl h1)]
theorem itoa_head (n : Int) : ∃ c t, itoa n = c :: t ∧ cls c = 1 := by
  unfold itoa
  split
  · exact ⟨_, _, rfl, by decide⟩
  · obtain ⟨c, t, e, hd⟩ := dec_head n.toNat
    exact ⟨c, t, e, dig_cls hd⟩
theorem cls_3 {c : UInt8} (h : kindN (c.toNat : Int) = 3) : cls c = 3 := by unfold cls; rw [if_pos h]
theorem cls_2 {c : UInt8} (h : kindN (c.toNat : Int) = 2) : cls c = 2 := by unfold cls; rw [if_neg (by omega), if_pos h]
theorem cls_sep {c : UInt8} (h : cls c = 0) : kindN (c.toNat : Int) = 0 := by
  unfold cls at h
  by_cases h3 : kindN (c.toNat : Int) = 3
  · rw [if_pos h3] at h; omega
  · rw [if_neg h3] at h
    by_cases h2 : kindN (c.toNat : Int) = 2
    · rw [if_pos h2] at h; omega
    · rw [if_neg h2] at h
      by_cases h1 : kindN (c.toNat : Int) = 1
      · rw [if_pos (.inl h1)] at h; omega
      · unfold kindN at h1 h2 h3 ⊢
        repeat' split
        all_goals simp_all

/-- Rows of parts between one mark and another. -/
theorem rows_cut (R : List UInt8 → Prop) (ok : Tm → Bool) (s0 : UInt8) (sep' : List UInt8) (q : UInt8) (hq : ∀ r, R (q :: r)) (hs : ∀ r, R (s0 :: r)) (hsq : s0 ≠ q) (hne : ∀ x, ok x = true → ∀ r r', txE x ++ r ≠ q :: r') :
    ∀ l : List Tm, (∀ x ∈ l, ∀ y r r', ok x = true → ok y = true → R r → R r' → txE x ++ r = txE y ++ r' → x = y ∧ r = r') →
    ∀ (l' : List Tm) (r r' : List UInt8), (∀ x ∈ l, ok x = true) → (∀ x ∈ l', ok x = true) → txSep (s0 :: sep') l ++ q :: r = txSep (s0 :: sep') l' ++ q :: r' → l = l' ∧ r = r'
  | [], _, [], r, r', _, _, h => by
    simp only [txSep, List.nil_append, List.cons.injEq, true_and] at h
    exact ⟨rfl, h⟩
  | [], _, y :: l', r, r', _, h2, h => by
    rw [txSep, txSep, List.nil_append, List.append_assoc] at h
    exact (hne y (h2 y (by simp)) _ _ h.symm).elim
  | x :: l, _, [], r, r', h1, _, h => by
    rw [txSep, txSep, List.nil_append, List.append_assoc] at h
    exact (hne x (h1 x (by simp)) _ _ h).elim
  | x :: l, ih, y :: l', r, r', h1, h2, h => by
    simp only [txSep, List.append_assoc] at h
    have hR : ∀ (m : List Tm) (z : List UInt8), R ((if m.isEmpty then [] else s0 :: sep') ++ (txSep (s0 :: sep') m ++ q :: z)) := by
      intro m z
      cases m with
      | nil => simp only [List.isEmpty_nil, if_true, txSep, List.nil_append]; exact hq z
      | cons a m => simp only [List.isEmpty_cons, List.cons_append]; exact hs _
    obtain ⟨e1, e2⟩ := ih x (by simp) y _ _ (h1 x (by simp)) (h2 y (by simp)) (hR l r) (hR l' r') h
    subst e1
    have ih' := rows_cut R ok s0 sep' q hq hs hsq hne l (fun z hz => ih z (by simp [hz]))
    cases l with
    | nil =>
      cases l' with
      | nil =>
        simp only [List.isEmpty_nil, if_true, txSep, List.nil_append, List.cons.injEq, true_and] at e2
        exact ⟨rfl, e2⟩
      | cons b l' =>
        simp only [List.isEmpty_nil, List.isEmpty_cons, if_true, txSep, List.nil_append, List.cons_append] at e2
        simp only [Bool.false_eq_true, if_false, List.cons_append, List.cons.injEq] at e2
        exact (hsq e2.1.symm).elim
    | cons a l =>
      cases l' with
      | nil =>
        simp only [List.isEmpty_nil, List.isEmpty_cons, if_true, List.nil_append, List.cons_append, Bool.false_eq_true, if_false, List.cons.injEq] at e2
        simp only [txSep, List.nil_append, List.cons.injEq] at e2
        exact (hsq e2.1).elim
      | cons b l' =>
        simp only [List.isEmpty_cons, Bool.false_eq_true, if_false, List.cons_append, List.cons.injEq, true_and] at e2
        have e3 := List.append_cancel_left e2
        obtain ⟨e4, e5⟩ := ih' (b :: l') r r' (fun z hz => h1 z (by simp [List.mem_cons.1 hz])) (fun z hz => h2 z (by simp [List.mem_cons.1 hz])) e3
        rw [e4]
        exact ⟨rfl, e5⟩

theorem emp_eq {s : ByteArray} (h : emp s = true) : s = ⟨#[]⟩ := by
  have h1 := of_decide_eq_true (h : decide _ = true)
  apply bytes_eq
  have : s.data.toList.length = 0 := by rw [size_list]; exact h1
  exact List.length_eq_zero_iff.1 this
/-- A leaf that may be, told apart. -/
def Leaf (k n : Int) (s t : ByteArray) (l : List Tm) : Prop := l = [] ∧ t = ⟨#[]⟩ ∧ ((k = 5 ∧ n = 0 ∧ nameB s 3 = true) ∨ (k = 6 ∧ s = ⟨#[]⟩) ∨ (k = 7 ∧ n = 0 ∧ atomB s = true) ∨ (k = 8 ∧ n = 0 ∧ s = ⟨#[]⟩))
theorem leaf_of {k n : Int} {s t : ByteArray} {l : List Tm} (h : leafB k n s t l = true) : Leaf k n s t l := by
  unfold leafB at h
  simp only [Bool.or_eq_true, Bool.and_eq_true, beq_iff_eq, List.isEmpty_iff] at h
  obtain ⟨⟨h1, h2⟩, h3⟩ := h
  refine ⟨h1, emp_eq h2, ?_⟩
  rcases h3 with ((⟨⟨h3, h4⟩, h5⟩ | ⟨⟨h3, h4⟩, h5⟩) | ⟨⟨h3, h4⟩, h5⟩) | ⟨⟨h3, h4⟩, h5⟩
  · exact .inl ⟨h3, h4, h5⟩
  · exact .inr (.inl ⟨h3, emp_eq h4⟩)
  · exact .inr (.inr (.inl ⟨h3, h4, h5⟩))
  · exact .inr (.inr (.inr ⟨h3, h4, emp_eq h5⟩))
theorem pat_cases {k n : Int} {s t : ByteArray} {l : List Tm} (h : patB (.mk k n s t l) = true) : Leaf k n s t l ∨ ((k = 10 ∨ k = 9) ∧ n = 0 ∧ s = ⟨#[]⟩ ∧ t = ⟨#[]⟩ ∧ (k = 9 → l.length = 2) ∧ ∀ x ∈ l, patB x = true) := by
  rw [patB] at h
  simp only [Bool.or_eq_true, Bool.and_eq_true, beq_iff_eq] at h
  rcases h with h | ⟨⟨⟨⟨h1, h2⟩, h3⟩, h4⟩, h5⟩
  · exact .inl (leaf_of h)
  · refine .inr ⟨?_, h2, emp_eq h3, emp_eq h4, ?_, patsB_all.1 h5⟩
    · rcases h1 with h1 | ⟨h1, -⟩
      · exact .inl h1
      · exact .inr h1
    · intro hk
      rcases h1 with h1 | ⟨-, h1⟩
      · omega
      · exact h1
theorem atom_name {s : ByteArray} (h : atomB s = true) : nameB s 2 = true := by
  unfold atomB at h
  simp only [Bool.and_eq_true] at h
  exact h.1
theorem txE_var (n : Int) (s t : ByteArray) (l : List Tm) : txE (.mk 5 n s t l) = s.data.toList := by rw [txE]; simp
theorem txE_int (n : Int) (s t : ByteArray) (l : List Tm) : txE (.mk 6 n s t l) = itoa n := by rw [txE]; simp
theorem txE_atom (n : Int) (s t : ByteArray) (l : List Tm) : txE (.mk 7 n s t l) = s.data.toList := by rw [txE]; simp
theorem txE_nil (n : Int) (s t : ByteArray) (l : List Tm) : txE (.mk 8 n s t l) = [91, 93] := by rw [txE]; simp
theorem txE_cons (n : Int) (s t : ByteArray) (l : List Tm) : txE (.mk 9 n s t l) = 91 :: (txSep [124] l ++ [93]) := by rw [txE]; simp
theorem txE_tup (n : Int) (s t : ByteArray) (l : List Tm) : txE (.mk 10 n s t l) = 123 :: (txSep [44, 32] l ++ [125]) := by rw [txE]; simp
/-- What begins a pattern. -/
theorem pat_head {x : Tm} (h : patB x = true) : ∃ c t, txE x = c :: t ∧ cls c = (if x.k = 5 then 3 else if x.k = 6 then 1 else if x.k = 7 then 2 else if x.k = 10 then 123 else 91) := by
  obtain ⟨k, n, s, t, l⟩ := x
  show ∃ c u, _ ∧ cls c = (if k = 5 then 3 else if k = 6 then 1 else if k = 7 then 2 else if k = 10 then 123 else 91)
  rcases pat_cases h with ⟨rfl, rfl, ⟨rfl, rfl, hs⟩ | ⟨rfl, rfl⟩ | ⟨rfl, rfl, hs⟩ | ⟨rfl, rfl, rfl⟩⟩ | ⟨rfl | rfl, -⟩
  · obtain ⟨c, u, e, hc⟩ := name_head hs
    exact ⟨c, u, by rw [txE_var, e], cls_3 hc⟩
  · obtain ⟨c, u, e, hc⟩ := itoa_head n
    exact ⟨c, u, by rw [txE_int, e], hc⟩
  · obtain ⟨c, u, e, hc⟩ := name_head (atom_name hs)
    exact ⟨c, u, by rw [txE_atom, e], cls_2 hc⟩
  · exact ⟨91, [93], by rw [txE_nil], by decide⟩
  · exact ⟨123, _, by rw [txE_tup], by decide⟩
  · exact ⟨91, _, by rw [txE_cons], by decide⟩
theorem pat_no {x : Tm} (h : patB x = true) {q : UInt8} (hq : cls q = 0) (r r' : List UInt8) : txE x ++ r ≠ q :: r' := by
  intro he
  obtain ⟨c, t, e, hc⟩ := pat_head h
  rw [e] at he
  simp only [List.cons_append, List.cons.injEq] at he
  rw [he.1, hq] at hc
  repeat' split at hc
  all_goals omega
theorem sep_cons {c : UInt8} (h : kindN (c.toNat : Int) = 0) (r : List UInt8) : Sep (c :: r) := by
  intro c' t e
  simp only [List.cons.injEq] at e
  rw [← e.1]
  exact h
/-- Patterns of one text are one. -/
theorem pat_cut (x : Tm) : ∀ (y : Tm) (r r' : List UInt8), patB x = true → patB y = true → Sep r → Sep r' → txE x ++ r = txE y ++ r' → x = y ∧ r = r' := by
  induction x using Tm.ind with
  | h k n s t l ih =>
    intro y r r' hx hy hr hr' h
    obtain ⟨k', n', s', t', l'⟩ := y
    have hk : (if k = 5 then 3 else if k = 6 then 1 else if k = 7 then 2 else if k = 10 then 123 else 91) = (if k' = 5 then 3 else if k' = 6 then 1 else if k' = 7 then 2 else if k' = 10 then 123 else 91) := by
      obtain ⟨c, u, e, hc⟩ := pat_head hx
      obtain ⟨c', u', e', hc'⟩ := pat_head hy
      have h2 := h
      rw [e, e'] at h2
      simp only [List.cons_append, List.cons.injEq] at h2
      rw [h2.1] at hc
      exact hc.symm.trans hc'
    rcases pat_cases hx with ⟨rfl, rfl, ⟨rfl, rfl, hs⟩ | ⟨rfl, rfl⟩ | ⟨rfl, rfl, hs⟩ | ⟨rfl, rfl, rfl⟩⟩ | ⟨rfl | rfl, rfl, rfl, rfl, hl, hp⟩ <;>
    rcases pat_cases hy with ⟨rfl, rfl, ⟨rfl, rfl, hs'⟩ | ⟨rfl, rfl⟩ | ⟨rfl, rfl, hs'⟩ | ⟨rfl, rfl, rfl⟩⟩ | ⟨rfl | rfl, rfl, rfl, rfl, hl', hp'⟩ <;>
    first
    | exact absurd hk (by decide)
    | skip
    · rw [txE_var, txE_var] at h
      obtain ⟨e1, e2⟩ := name_cut hs hs' hr hr' h
      rw [e1]; exact ⟨rfl, e2⟩
    · rw [txE_int, txE_int] at h
      obtain ⟨e1, e2⟩ := itoa_cut hr hr' h
      rw [e1]; exact ⟨rfl, e2⟩
    · rw [txE_atom, txE_atom] at h
      obtain ⟨e1, e2⟩ := name_cut (atom_name hs) (atom_name hs') hr hr' h
      rw [e1]; exact ⟨rfl, e2⟩
    · rw [txE_nil] at h
      simp only [List.cons_append, List.nil_append, List.cons.injEq, true_and] at h
      exact ⟨rfl, h⟩
    · rw [txE_nil, txE_cons] at h
      match l', hl' rfl, hp' with
      | a :: m, _, hp' =>
        simp only [List.cons_append, List.nil_append, List.cons.injEq, true_and, txSep, List.append_assoc] at h
        exact (pat_no (hp' a (by simp)) (by decide) _ _ h.symm).elim
    · rw [txE_tup, txE_tup] at h
      simp only [List.cons_append, List.nil_append, List.cons.injEq, true_and, List.append_assoc] at h
      obtain ⟨e1, e2⟩ := rows_cut Sep patB 44 [32] 125 (sep_cons (by decide)) (sep_cons (by decide)) (by decide) (fun x hx => pat_no hx (by decide)) l (fun x hx y r r' a b c d e => ih x hx y r r' a b c d e) l' r r' hp hp' h
      rw [e1]; exact ⟨rfl, e2⟩
    · rw [txE_cons, txE_nil] at h
      match l, hl rfl, hp with
      | a :: m, _, hp =>
        simp only [List.cons_append, List.nil_append, List.cons.injEq, true_and, txSep, List.append_assoc] at h
        exact (pat_no (hp a (by simp)) (by decide) _ _ h).elim
    · rw [txE_cons, txE_cons] at h
      simp only [List.cons_append, List.nil_append, List.cons.injEq, true_and, List.append_assoc] at h
      obtain ⟨e1, e2⟩ := rows_cut Sep patB 124 [] 93 (sep_cons (by decide)) (sep_cons (by decide)) (by decide) (fun x hx => pat_no hx (by decide)) l (fun x hx y r r' a b c d e => ih x hx y r r' a b c d e) l' r r' hp hp' h
      rw [e1]; exact ⟨rfl, e2⟩
end Go.Proofs.YtcallgoglnkkiaaGreatDoor
set_option linter.unusedVariables false
set_option linter.unusedSimpArgs false
namespace Go.Proofs.YtcallgoglnkkiaaGreatDoor
open Go.RowKit
open Go.Lib (decDigits itoa)

/-- An expression that may be, told apart. -/
theorem expr_cases {k n : Int} {s t : ByteArray} {l : List Tm} (h : exprB (.mk k n s t l) = true) :
    Leaf k n s t l ∨
    (k = 9 ∧ n = 0 ∧ s = ⟨#[]⟩ ∧ t = ⟨#[]⟩ ∧ l.length = 2 ∧ ∀ x ∈ l, exprB x = true) ∨
    (k = 10 ∧ n = 0 ∧ s = ⟨#[]⟩ ∧ t = ⟨#[]⟩ ∧ ∀ x ∈ l, exprB x = true) ∨
    (k = 11 ∧ n = 0 ∧ t = ⟨#[]⟩ ∧ (cmpB s = true ∨ ariB s = true) ∧ l.length = 2 ∧ ∀ x ∈ l, exprB x = true) ∨
    (k = 13 ∧ n = 0 ∧ s = ⟨#[]⟩ ∧ t = ⟨#[]⟩ ∧ l.length = 2 ∧ ∀ x ∈ l, exprB x = true) ∨
    (k = 14 ∧ n = 0 ∧ t = ⟨#[]⟩ ∧ atomB s = true ∧ ∀ x ∈ l, exprB x = true) ∨
    (k = 15 ∧ n = 0 ∧ atomB s = true ∧ atomB t = true ∧ ∀ x ∈ l, exprB x = true) ∨
    (k = 16 ∧ n = 0 ∧ s = ⟨#[]⟩ ∧ t = ⟨#[]⟩ ∧ ∃ v l', l = v :: l' ∧ v.k = 5 ∧ exprB v = true ∧ ∀ x ∈ l', exprB x = true) ∨
    (k = 17 ∧ atomB s = true ∧ atomB t = true ∧ l = []) ∨
    (k = 18 ∧ n = 0 ∧ s = ⟨#[]⟩ ∧ t = ⟨#[]⟩ ∧ ∃ e l', l = e :: l' ∧ l' ≠ [] ∧ exprB e = true ∧ clsB 1 l' = true) ∨
    (k = 19 ∧ n = 0 ∧ s = ⟨#[]⟩ ∧ t = ⟨#[]⟩ ∧ ∃ e l', l = e :: l' ∧ l' ≠ [] ∧ exprB e = true ∧ clsB 2 l' = true) ∨
    (k = 20 ∧ s = ⟨#[]⟩ ∧ t = ⟨#[]⟩ ∧ ((n = 0 ∧ l ≠ [] ∧ clsB 1 l = true) ∨ (n = 1 ∧ recvB l = true))) := by
  rw [exprB] at h
  simp only [Bool.or_eq_true, Bool.and_eq_true, beq_iff_eq, decide_eq_true_eq, List.isEmpty_iff, Bool.not_eq_true'] at h
  rcases h with ((((((((((h | h) | h) | h) | h) | h) | h) | h) | h) | h) | h) | h
  · exact .inl (leaf_of h)
  · obtain ⟨⟨⟨⟨⟨h1, h2⟩, h3⟩, h4⟩, h5⟩, h6⟩ := h
    exact .inr (.inl ⟨h1, h2, emp_eq h3, emp_eq h4, h5, exprsB_all.1 h6⟩)
  · obtain ⟨⟨⟨⟨h1, h2⟩, h3⟩, h4⟩, h6⟩ := h
    exact .inr (.inr (.inl ⟨h1, h2, emp_eq h3, emp_eq h4, exprsB_all.1 h6⟩))
  · obtain ⟨⟨⟨⟨⟨h1, h2⟩, h3⟩, h4⟩, h5⟩, h6⟩ := h
    exact .inr (.inr (.inr (.inl ⟨h1, h2, emp_eq h3, h4, h5, exprsB_all.1 h6⟩)))
  · obtain ⟨⟨⟨⟨⟨h1, h2⟩, h3⟩, h4⟩, h5⟩, h6⟩ := h
    refine .inr (.inr (.inr (.inr (.inl ⟨h1, h2, emp_eq h3, emp_eq h4, h5, ?_⟩))))
    cases l with
    | nil => simp
    | cons p m =>
      rw [patFirst, Bool.and_eq_true] at h6
      intro x hx
      rcases List.mem_cons.1 hx with rfl | hx
      · exact pat_expr _ h6.1
      · exact exprsB_all.1 h6.2 x hx
  · obtain ⟨⟨⟨⟨⟨h1, h2⟩, h3⟩, h4⟩, h5⟩, h6⟩ := h
    exact .inr (.inr (.inr (.inr (.inr (.inl ⟨h1, h2, emp_eq h3, h4, exprsB_all.1 h6⟩)))))
  · obtain ⟨⟨⟨⟨⟨h1, h2⟩, h3⟩, h4⟩, h5⟩, h6⟩ := h
    exact .inr (.inr (.inr (.inr (.inr (.inr (.inl ⟨h1, h2, h3, h4, exprsB_all.1 h6⟩))))))
  · obtain ⟨⟨⟨⟨⟨⟨h1, h2⟩, h3⟩, h4⟩, h5⟩, h7⟩, h6⟩ := h
    refine .inr (.inr (.inr (.inr (.inr (.inr (.inr (.inl ⟨h1, h2, emp_eq h3, emp_eq h4, ?_⟩)))))))
    cases l with
    | nil => rw [varFirst] at h7; simp at h7
    | cons v m =>
      obtain ⟨kv, nv, sv, tv, lv⟩ := v
      rw [exprsB, Bool.and_eq_true] at h6
      rw [varFirst] at h7
      exact ⟨_, _, rfl, eq_of_beq h7, h6.1, exprsB_all.1 h6.2⟩
  · obtain ⟨⟨⟨⟨h1, h2⟩, h3⟩, h4⟩, h5⟩ := h
    exact .inr (.inr (.inr (.inr (.inr (.inr (.inr (.inr (.inl ⟨h1, h2, h3, h5⟩))))))))
  · obtain ⟨⟨⟨⟨⟨h1, h2⟩, h3⟩, h4⟩, h5⟩, h6⟩ := h
    refine .inr (.inr (.inr (.inr (.inr (.inr (.inr (.inr (.inr (.inl ⟨h1, h2, emp_eq h3, emp_eq h4, ?_⟩)))))))))
    match l, h5, h6 with
    | e :: c :: m, _, h6 =>
      rw [caseB, Bool.and_eq_true] at h6
      exact ⟨_, _, rfl, by simp, h6.1, h6.2⟩
  · obtain ⟨⟨⟨⟨⟨⟨h1, h2⟩, h3⟩, h4⟩, h5⟩, h6⟩, h7⟩ := h
    refine .inr (.inr (.inr (.inr (.inr (.inr (.inr (.inr (.inr (.inr (.inl ⟨h1, h2, emp_eq h3, emp_eq h4, ?_⟩))))))))))
    match l, h5, h6 with
    | e :: c :: m, _, h6 =>
      rw [caseB, Bool.and_eq_true] at h6
      exact ⟨_, _, rfl, by simp, h6.1, h6.2⟩
  · obtain ⟨⟨⟨h1, h2⟩, h3⟩, h4⟩ := h
    refine .inr (.inr (.inr (.inr (.inr (.inr (.inr (.inr (.inr (.inr (.inr ⟨h1, emp_eq h2, emp_eq h3, ?_⟩))))))))))
    rcases h4 with ⟨⟨h4, h5⟩, h6⟩ | ⟨h4, h5⟩
    · exact .inl ⟨h4, by cases l with | nil => simp at h5 | cons a m => simp, h6⟩
    · exact .inr ⟨h4, h5⟩

theorem txE_op (n : Int) (s t : ByteArray) (l : List Tm) : txE (.mk 11 n s t l) = 40 :: (txSep (32 :: (s.data.toList ++ [32])) l ++ [41]) := by rw [txE]; simp
theorem txE_match (n : Int) (s t : ByteArray) (l : List Tm) : txE (.mk 13 n s t l) = 40 :: (txSep [32, 61, 32] l ++ [41]) := by rw [txE]; simp
theorem txE_kind (n : Int) (s t : ByteArray) (l : List Tm) : txE (.mk 12 n s t l) = s.data.toList ++ 40 :: (txSep [44, 32] l ++ [41]) := by rw [txE]; simp
theorem txE_call (n : Int) (s t : ByteArray) (l : List Tm) : txE (.mk 14 n s t l) = s.data.toList ++ 40 :: (txSep [44, 32] l ++ [41]) := by rw [txE]; simp
theorem txE_far (n : Int) (s t : ByteArray) (l : List Tm) : txE (.mk 15 n s t l) = s.data.toList ++ 58 :: (t.data.toList ++ 40 :: (txSep [44, 32] l ++ [41])) := by rw [txE]; simp
theorem txE_app (n : Int) (s t : ByteArray) (v : Tm) (l : List Tm) : txE (.mk 16 n s t (v :: l)) = txE v ++ 40 :: (txSep [44, 32] l ++ [41]) := by rw [txE]; simp [txApp]
theorem txE_fun (n : Int) (s t : ByteArray) (l : List Tm) : txE (.mk 17 n s t l) = [102, 117, 110] ++ 32 :: (s.data.toList ++ 58 :: (t.data.toList ++ 47 :: itoa n)) := by rw [txE]; simp
theorem txE_case (n : Int) (s t : ByteArray) (e : Tm) (l : List Tm) : txE (.mk 18 n s t (e :: l)) = [99, 97, 115, 101] ++ 32 :: (txE e ++ 32 :: 111 :: 102 :: 32 :: (txCls l ++ [32, 101, 110, 100])) := by rw [txE]; simp [txCase]
theorem txE_try (n : Int) (s t : ByteArray) (e : Tm) (l : List Tm) : txE (.mk 19 n s t (e :: l)) = [116, 114, 121] ++ 32 :: (txE e ++ 32 :: 99 :: 97 :: 116 :: 99 :: 104 :: 32 :: (txCls l ++ [32, 101, 110, 100])) := by rw [txE]; simp [txCase]
theorem txE_recv (n : Int) (s t : ByteArray) (l : List Tm) : txE (.mk 20 n s t l) = [114, 101, 99, 101, 105, 118, 101] ++ ((if n = 1 then txRecv [32] l else 32 :: txCls l) ++ [32, 101, 110, 100]) := by rw [txE]; by_cases h : n = 1 <;> simp [h]

/-- What begins an expression. -/
def hk (k : Int) : Nat := if k = 5 ∨ k = 16 then 3 else if k = 6 then 1 else if k = 8 ∨ k = 9 then 91 else if k = 10 then 123 else if k = 11 ∨ k = 13 then 40 else 2
theorem expr_head {x : Tm} (h : exprB x = true) : ∃ c t, txE x = c :: t ∧ cls c = hk x.k := by
  obtain ⟨k, n, s, t, l⟩ := x
  show ∃ c u, _ ∧ cls c = hk k
  rcases expr_cases h with ⟨rfl, rfl, ⟨rfl, rfl, hs⟩ | ⟨rfl, rfl⟩ | ⟨rfl, rfl, hs⟩ | ⟨rfl, rfl, rfl⟩⟩ | ⟨rfl, -⟩ | ⟨rfl, -⟩ | ⟨rfl, -⟩ | ⟨rfl, -⟩ | ⟨rfl, -, -, hs, -⟩ | ⟨rfl, -, hs, -⟩ | ⟨rfl, -, -, -, v, m, rfl, hv, hv', -⟩ | ⟨rfl, -⟩ | ⟨rfl, -, -, -, e, m, rfl, -⟩ | ⟨rfl, -, -, -, e, m, rfl, -⟩ | ⟨rfl, -⟩
  · obtain ⟨c, u, e, hc⟩ := name_head hs
    exact ⟨c, u, by rw [txE_var, e], cls_3 hc⟩
  · obtain ⟨c, u, e, hc⟩ := itoa_head n
    exact ⟨c, u, by rw [txE_int, e], hc⟩
  · obtain ⟨c, u, e, hc⟩ := name_head (atom_name hs)
    exact ⟨c, u, by rw [txE_atom, e], cls_2 hc⟩
  · exact ⟨91, [93], by rw [txE_nil], by decide⟩
  · exact ⟨91, _, by rw [txE_cons], by decide⟩
  · exact ⟨123, _, by rw [txE_tup], by decide⟩
  · exact ⟨40, _, by rw [txE_op], by decide⟩
  · exact ⟨40, _, by rw [txE_match], by decide⟩
  · obtain ⟨c, u, e, hc⟩ := name_head (atom_name hs)
    exact ⟨c, _, by rw [txE_call, e]; rfl, cls_2 hc⟩
  · obtain ⟨c, u, e, hc⟩ := name_head (atom_name hs)
    exact ⟨c, _, by rw [txE_far, e]; rfl, cls_2 hc⟩
  · obtain ⟨kv, nv, sv, tv, lv⟩ := v
    obtain rfl : kv = 5 := hv
    rcases expr_cases hv' with ⟨-, -, ⟨-, -, hs⟩ | ⟨h0, -⟩ | ⟨h0, -⟩ | ⟨h0, -⟩⟩ | ⟨h0, -⟩ | ⟨h0, -⟩ | ⟨h0, -⟩ | ⟨h0, -⟩ | ⟨h0, -⟩ | ⟨h0, -⟩ | ⟨h0, -⟩ | ⟨h0, -⟩ | ⟨h0, -⟩ | ⟨h0, -⟩ | ⟨h0, -⟩
    · obtain ⟨c, u, e, hc⟩ := name_head hs
      exact ⟨c, _, by rw [txE_app, txE_var, e]; rfl, cls_3 hc⟩
    all_goals exact absurd h0 (by decide)
  · exact ⟨102, _, by rw [txE_fun]; rfl, by decide⟩
  · exact ⟨99, _, by rw [txE_case]; rfl, by decide⟩
  · exact ⟨116, _, by rw [txE_try]; rfl, by decide⟩
  · exact ⟨114, _, by rw [txE_recv]; rfl, by decide⟩
theorem hk_pos (k : Int) : hk k ≠ 0 := by unfold hk; repeat' split
                                          all_goals decide
theorem expr_no {x : Tm} (h : exprB x = true) {q : UInt8} (hq : cls q = 0) (r r' : List UInt8) : txE x ++ r ≠ q :: r' := by
  intro he
  obtain ⟨c, t, e, hc⟩ := expr_head h
  rw [e] at he
  simp only [List.cons_append, List.cons.injEq] at he
  rw [he.1, hq] at hc
  exact hk_pos _ hc.symm
/-- What may follow an expression: no name's byte, no bracket, no colon. -/
def Fol (r : List UInt8) : Prop := ∀ c t, r = c :: t → kindN (c.toNat : Int) = 0 ∧ c ≠ 40 ∧ c ≠ 58
theorem fol_nil : Fol [] := fun _ _ h => by simp at h
theorem fol_cons {c : UInt8} (h : kindN (c.toNat : Int) = 0) (h1 : c ≠ 40) (h2 : c ≠ 58) (r : List UInt8) : Fol (c :: r) := by
  intro c' t e
  simp only [List.cons.injEq] at e
  rw [← e.1]
  exact ⟨h, h1, h2⟩
theorem Fol.sep {r : List UInt8} (h : Fol r) : Sep r := fun c t e => (h c t e).1
theorem Fol.no {r t : List UInt8} {c : UInt8} (h : Fol r) (hc : c = 40 ∨ c = 58) (e : r = c :: t) : False := by
  have := h c t e
  rcases hc with rfl | rfl
  · exact this.2.1 rfl
  · exact this.2.2 rfl
/-- A mark between two names: what lies ahead of it has none of its bytes. -/
theorem mark_cut {q : UInt8} : ∀ {a b : List UInt8} {r r' : List UInt8}, (∀ c ∈ a, c ≠ q) → (∀ c ∈ b, c ≠ q) → a ++ q :: r = b ++ q :: r' → a = b ∧ r = r'
  | [], [], r, r', _, _, h => by simp only [List.nil_append, List.cons.injEq, true_and] at h; exact ⟨rfl, h⟩
  | [], y :: b, r, r', _, hb, h => by
    simp only [List.nil_append, List.cons_append, List.cons.injEq] at h
    exact (hb y (by simp) h.1.symm).elim
  | x :: a, [], r, r', ha, _, h => by
    simp only [List.nil_append, List.cons_append, List.cons.injEq] at h
    exact (ha x (by simp) h.1).elim
  | x :: a, y :: b, r, r', ha, hb, h => by
    simp only [List.cons_append, List.cons.injEq] at h
    obtain ⟨e1, e2⟩ := mark_cut (fun c hc => ha c (by simp [hc])) (fun c hc => hb c (by simp [hc])) h.2
    rw [h.1, e1]
    exact ⟨rfl, e2⟩
/-- Rows that are not empty, ahead of what does not begin as the mark between them does. -/
theorem rows_end (tx : Tm → List UInt8) (txs : List Tm → List UInt8) (R : List UInt8 → Prop) (ok : Tm → Bool) (s0 : UInt8) (sep' : List UInt8) (h0 : txs [] = []) (hc : ∀ x l, txs (x :: l) = tx x ++ ((if l.isEmpty then [] else s0 :: sep') ++ txs l)) (hs : ∀ r, R (s0 :: r)) :
    ∀ l : List Tm, (∀ x ∈ l, ∀ y r r', ok x = true → ok y = true → R r → R r' → tx x ++ r = tx y ++ r' → x = y ∧ r = r') →
    ∀ (l' : List Tm) (r r' : List UInt8), l ≠ [] → l' ≠ [] → (∀ x ∈ l, ok x = true) → (∀ x ∈ l', ok x = true) → R r → R r' → (∀ t, r ≠ s0 :: t) → (∀ t, r' ≠ s0 :: t) → txs l ++ r = txs l' ++ r' → l = l' ∧ r = r'
  | [], _, _, _, _, h, _, _, _, _, _, _, _, _ => (h rfl).elim
  | _, _, [], _, _, _, h, _, _, _, _, _, _, _ => (h rfl).elim
  | x :: l, ih, y :: l', r, r', _, _, h1, h2, hr, hr', hn, hn', h => by
    simp only [hc, List.append_assoc] at h
    have hR : ∀ (m : List Tm) (z : List UInt8), R z → R ((if m.isEmpty then [] else s0 :: sep') ++ (txs m ++ z)) := by
      intro m z hz
      cases m with
      | nil => simp only [List.isEmpty_nil, if_true, h0, List.nil_append]; exact hz
      | cons a m => simp only [List.isEmpty_cons, List.cons_append]; exact hs _
    obtain ⟨e1, e2⟩ := ih x (by simp) y _ _ (h1 x (by simp)) (h2 y (by simp)) (hR l r hr) (hR l' r' hr') h
    subst e1
    have ih' := rows_end tx txs R ok s0 sep' h0 hc hs l (fun z hz => ih z (by simp [hz]))
    cases l with
    | nil =>
      cases l' with
      | nil =>
        simp only [List.isEmpty_nil, if_true, h0, List.nil_append] at e2
        exact ⟨rfl, e2⟩
      | cons b l' =>
        simp only [List.isEmpty_nil, List.isEmpty_cons, if_true, h0, List.nil_append, Bool.false_eq_true, if_false, List.cons_append] at e2
        exact (hn _ e2).elim
    | cons a l =>
      cases l' with
      | nil =>
        simp only [List.isEmpty_nil, List.isEmpty_cons, if_true, h0, List.nil_append, Bool.false_eq_true, if_false, List.cons_append] at e2
        exact (hn' _ e2.symm).elim
      | cons b l' =>
        simp only [List.isEmpty_cons, Bool.false_eq_true, if_false, List.cons_append, List.cons.injEq, true_and] at e2
        have e3 := List.append_cancel_left e2
        obtain ⟨e4, e5⟩ := ih' (b :: l') r r' (by simp) (by simp) (fun z hz => h1 z (by simp [List.mem_cons.1 hz])) (fun z hz => h2 z (by simp [List.mem_cons.1 hz])) hr hr' hn hn' e3
        rw [e4]
        exact ⟨rfl, e5⟩
end Go.Proofs.YtcallgoglnkkiaaGreatDoor
set_option linter.unusedVariables false
set_option linter.unusedSimpArgs false
namespace Go.Proofs.YtcallgoglnkkiaaGreatDoor
open Go.RowKit
open Go.Lib (decDigits itoa)

/-- Expressions up to a depth are known by their texts. -/
def ECut (N : Nat) : Prop := ∀ (x y : Tm) (r r' : List UInt8), x.deep ≤ N → exprB x = true → exprB y = true → Fol r → Fol r' → txE x ++ r = txE y ++ r' → x = y ∧ r = r'
/-- What may follow a clause. -/
def Fin7 (r : List UInt8) : Prop := Fol r ∧ ∀ t, r ≠ 44 :: t
theorem fin_cons {c : UInt8} (h : kindN (c.toNat : Int) = 0) (h1 : c ≠ 40) (h2 : c ≠ 58) (h3 : c ≠ 44) (r : List UInt8) : Fin7 (c :: r) :=
  ⟨fol_cons h h1 h2 r, fun t e => by simp only [List.cons.injEq] at e; exact h3 e.1⟩
theorem deep_of {l : List Tm} {N : Nat} (h : Tm.deeps l ≤ N) {x : Tm} (hx : x ∈ l) : x.deep ≤ N := Nat.le_trans (Tm.deep_mem hx) h
theorem erow_cut {N : Nat} (hE : ECut N) (s0 : UInt8) (sep' : List UInt8) (q : UInt8) (hq : ∀ r, Fol (q :: r)) (hs : ∀ r, Fol (s0 :: r)) (hsq : s0 ≠ q) (hc : cls q = 0) {l l' : List Tm} {r r' : List UInt8} (hd : Tm.deeps l ≤ N) (h1 : ∀ x ∈ l, exprB x = true) (h2 : ∀ x ∈ l', exprB x = true) (h : txSep (s0 :: sep') l ++ q :: r = txSep (s0 :: sep') l' ++ q :: r') : l = l' ∧ r = r' :=
  rows_cut Fol exprB s0 sep' q hq hs hsq (fun x hx => expr_no hx hc) l (fun x hx y r r' a b c d e => hE x y r r' (deep_of hd hx) a b c d e) l' r r' h1 h2 h
theorem erow_end {N : Nat} (hE : ECut N) {l l' : List Tm} {r r' : List UInt8} (hd : Tm.deeps l ≤ N) (n1 : l ≠ []) (n2 : l' ≠ []) (h1 : ∀ x ∈ l, exprB x = true) (h2 : ∀ x ∈ l', exprB x = true) (hr : Fin7 r) (hr' : Fin7 r') (h : txSep [44, 32] l ++ r = txSep [44, 32] l' ++ r') : l = l' ∧ r = r' :=
  rows_end txE (txSep [44, 32]) Fol exprB 44 [32] rfl (fun x l => rfl) (fol_cons (by decide) (by decide) (by decide)) l (fun x hx y r r' a b c d e => hE x y r r' (deep_of hd hx) a b c d e) l' r r' n1 n2 h1 h2 hr.1 hr'.1 hr.2 hr'.2 h

theorem test_cases {k n : Int} {s t : ByteArray} {l : List Tm} (h : testB (.mk k n s t l) = true) : (k = 11 ∧ exprB (.mk k n s t l) = true) ∨ (k = 12 ∧ n = 0 ∧ t = ⟨#[]⟩ ∧ kindB s = true ∧ ∀ x ∈ l, exprB x = true) := by
  rw [testB] at h
  simp only [Bool.or_eq_true, Bool.and_eq_true, beq_iff_eq] at h
  obtain ⟨⟨⟨h1, h2⟩, h3⟩, h4⟩ := h
  have h5 : ∀ x ∈ l, exprB x = true := fun x hx => gua_expr x (guasB_all.1 h4 x hx)
  rcases h1 with ⟨⟨h1, h6⟩, h7⟩ | ⟨⟨h1, h6⟩, h7⟩
  · refine .inl ⟨h1, ?_⟩
    rw [exprB]
    simp [h1, h2, h3, h6, h7, exprsB_all.2 h5]
  · exact .inr ⟨h1, h2, emp_eq h3, h6, h5⟩
theorem kind_bytes {s : ByteArray} (h : kindB s = true) : (∀ c ∈ s.data.toList, c ≠ 40) ∧ ∃ u, s.data.toList = 105 :: u := by
  unfold kindB at h
  simp only [List.any_cons, List.any_nil, Bool.or_eq_true, Bool.or_false, beq_iff_eq] at h
  rcases h with h | h | h | h | h | h | h <;> rw [h] <;> exact ⟨by decide, _, rfl⟩
theorem test_cut {N : Nat} (hE : ECut N) (x y : Tm) (r r' : List UInt8) (hd : x.deep ≤ N) (hx : testB x = true) (hy : testB y = true) (hr : Fol r) (hr' : Fol r') (h : txE x ++ r = txE y ++ r') : x = y ∧ r = r' := by
  obtain ⟨k, n, s, t, l⟩ := x
  obtain ⟨k', n', s', t', l'⟩ := y
  rcases test_cases hx with ⟨rfl, hx'⟩ | ⟨rfl, rfl, rfl, hs, hl⟩ <;> rcases test_cases hy with ⟨rfl, hy'⟩ | ⟨rfl, rfl, rfl, hs', hl'⟩
  · exact hE _ _ r r' hd hx' hy' hr hr' h
  · obtain ⟨u, e⟩ := (kind_bytes hs').2
    rw [txE_op, txE_kind, e] at h
    simp only [List.cons_append, List.cons.injEq] at h
    exact absurd h.1 (by decide)
  · obtain ⟨u, e⟩ := (kind_bytes hs).2
    rw [txE_op, txE_kind, e] at h
    simp only [List.cons_append, List.cons.injEq] at h
    exact absurd h.1 (by decide)
  · rw [txE_kind, txE_kind] at h
    simp only [List.append_assoc, List.cons_append, List.nil_append] at h
    obtain ⟨e1, e2⟩ := mark_cut (kind_bytes hs).1 (kind_bytes hs').1 h
    rw [Tm.deep] at hd
    obtain ⟨e3, e4⟩ := erow_cut hE 44 [32] 41 (fol_cons (by decide) (by decide) (by decide)) (fol_cons (by decide) (by decide) (by decide)) (by decide) (by decide) (by omega) hl hl' e2
    rw [bytes_eq e1, e3]
    exact ⟨rfl, e4⟩
theorem guard_cases {k n : Int} {s t : ByteArray} {l : List Tm} (h : guardB (.mk k n s t l) = true) : k = 4 ∧ n = 0 ∧ s = ⟨#[]⟩ ∧ t = ⟨#[]⟩ := by
  rw [guardB] at h
  simp only [Bool.and_eq_true, beq_iff_eq] at h
  exact ⟨h.1.1.1.1, h.1.1.1.2, emp_eq h.1.1.2, emp_eq h.1.2⟩
theorem guard_cut {N : Nat} (hE : ECut N) {x y : Tm} {r r' : List UInt8} (hd : x.deep ≤ N + 1) (hx : guardB x = true) (hy : guardB y = true) (h : txGuard x ++ 32 :: 45 :: r = txGuard y ++ 32 :: 45 :: r') : x = y ∧ r = r' := by
  obtain ⟨k, n, s, t, l⟩ := x
  obtain ⟨k', n', s', t', l'⟩ := y
  obtain ⟨rfl, rfl, rfl, rfl⟩ := guard_cases hx
  obtain ⟨rfl, rfl, rfl, rfl⟩ := guard_cases hy
  rw [Tm.deep] at hd
  rw [txGuard, txGuard] at h
  cases l with
  | nil =>
    cases l' with
    | nil => simp only [List.isEmpty_nil, if_true, List.nil_append, List.cons.injEq, true_and] at h; exact ⟨rfl, h⟩
    | cons b m =>
      simp only [List.isEmpty_nil, List.isEmpty_cons, if_true, Bool.false_eq_true, if_false, List.nil_append, List.cons_append, List.cons.injEq, true_and] at h
      exact absurd h.1 (by decide)
  | cons a l =>
    cases l' with
    | nil =>
      simp only [List.isEmpty_nil, List.isEmpty_cons, if_true, Bool.false_eq_true, if_false, List.nil_append, List.cons_append, List.cons.injEq, true_and] at h
      exact absurd h.1 (by decide)
    | cons b m =>
      simp only [List.isEmpty_cons, Bool.false_eq_true, if_false, List.nil_append, List.cons_append, List.cons.injEq, true_and] at h
      obtain ⟨e1, e2⟩ := rows_end txE (txSep [44, 32]) Fol testB 44 [32] rfl (fun x l => rfl) (fol_cons (by decide) (by decide) (by decide)) (a :: l) (fun x hx y r r' a b c d e => test_cut hE x y r r' (deep_of (by omega) hx) a b c d e) (b :: m) (32 :: 45 :: r) (32 :: 45 :: r') (by simp) (by simp) (guard_tests hx) (guard_tests hy) (fol_cons (by decide) (by decide) (by decide) _) (fol_cons (by decide) (by decide) (by decide) _) (fun t e => by simp at e) (fun t e => by simp at e) h
      simp only [List.cons.injEq, true_and] at e2
      rw [e1]
      exact ⟨rfl, e2⟩
theorem guard_sep (g : Tm) (z : List UInt8) : Sep (txGuard g ++ 32 :: z) := by
  obtain ⟨k, n, s, t, l⟩ := g
  rw [txGuard]
  cases l with
  | nil => simp only [List.isEmpty_nil, if_true, List.nil_append]; exact sep_cons (by decide) _
  | cons a l => simp only [List.isEmpty_cons, Bool.false_eq_true, if_false, List.cons_append]; exact sep_cons (by decide) _
theorem parts_0 {g : Tm} {l : List Tm} (h : partsB 0 (g :: l) = true) : guardB g = true ∧ l ≠ [] ∧ ∀ x ∈ l, exprB x = true := by
  rw [partsB] at h
  simp only [Bool.and_eq_true, Bool.not_eq_true'] at h
  exact ⟨h.1.1, by intro e; rw [e] at h; simp at h, exprsB_all.1 h.2⟩
theorem parts_1 {m : Nat} {p : Tm} {l : List Tm} (h : partsB (m + 1) (p :: l) = true) : patB p = true ∧ partsB m l = true := by
  rw [partsB, Bool.and_eq_true] at h
  exact h
/-- The marks between patterns and behind them. -/
structure Marks (sep close : List UInt8) : Prop where
  sep : ∀ r, Sep (sep ++ r)
  close : ∀ r, Sep r → Sep (close ++ r)
theorem parts_sep {sep close : List UInt8} (hM : Marks sep close) {l : List Tm} (h : partsB 0 l = true) (r : List UInt8) : Sep (txParts sep close 0 l ++ r) := by
  cases l with
  | nil => rw [partsB] at h; simp at h; all_goals simp
  | cons g l =>
    rw [txParts]
    simp only [List.append_assoc, List.cons_append, List.nil_append]
    exact hM.close _ (guard_sep _ _)
theorem parts_cut {N : Nat} (hE : ECut N) {sep close : List UInt8} (hM : Marks sep close) {r r' : List UInt8} (hr : Fin7 r) (hr' : Fin7 r') : ∀ (m : Nat) (l l' : List Tm), Tm.deeps l ≤ N → partsB m l = true → partsB m l' = true → txParts sep close m l ++ r = txParts sep close m l' ++ r' → l = l' ∧ r = r'
  | 0, g :: l, g' :: l', hd, h1, h2, h => by
    obtain ⟨a1, a2, a3⟩ := parts_0 h1
    obtain ⟨b1, b2, b3⟩ := parts_0 h2
    rw [txParts, txParts] at h
    simp only [List.append_assoc, List.cons_append, List.nil_append] at h
    rw [Tm.deeps] at hd
    obtain ⟨e1, e2⟩ := guard_cut hE (by omega) a1 b1 (List.append_cancel_left h)
    simp only [List.cons.injEq, true_and] at e2
    obtain ⟨e3, e4⟩ := erow_end hE (by omega) a2 b2 a3 b3 hr hr' e2
    rw [e1, e3]
    exact ⟨rfl, e4⟩
  | m + 1, p :: l, p' :: l', hd, h1, h2, h => by
    obtain ⟨a1, a2⟩ := parts_1 h1
    obtain ⟨b1, b2⟩ := parts_1 h2
    rw [txParts, txParts] at h
    simp only [List.append_assoc] at h
    rw [Tm.deeps] at hd
    have hS : ∀ (q : List Tm) (z : List UInt8), partsB m q = true → Sep ((if m = 0 then [] else sep) ++ (txParts sep close m q ++ z)) := by
      intro q z hq
      by_cases hm : m = 0
      · subst hm
        rw [if_pos rfl, List.nil_append]
        exact parts_sep hM hq z
      · rw [if_neg hm]
        exact hM.sep _
    obtain ⟨e1, e2⟩ := pat_cut p p' _ _ a1 b1 (hS l r a2) (hS l' r' b2) h
    obtain ⟨e3, e4⟩ := parts_cut hE hM hr hr' m l l' (by omega) a2 b2 (List.append_cancel_left e2)
    rw [e1, e3]
    exact ⟨rfl, e4⟩
  | 0, [], _, _, h1, _, _ => by rw [partsB] at h1; simp at h1; all_goals simp
  | m + 1, [], _, _, h1, _, _ => by rw [partsB] at h1; simp at h1; all_goals simp
  | 0, _ :: _, [], _, _, h1, _ => by rw [partsB] at h1; simp at h1; all_goals simp
  | m + 1, _ :: _, [], _, _, h1, _ => by rw [partsB] at h1; simp at h1; all_goals simp
theorem marks_case : Marks [58] [] := ⟨sep_cons (by decide), fun r h => h⟩
theorem marks_fun : Marks [44, 32] [41] := ⟨fun r => sep_cons (by decide) _, fun r _ => sep_cons (by decide) _⟩
theorem cl_cases {m : Nat} {k n : Int} {s t : ByteArray} {l : List Tm} (h : clB m (.mk k n s t l) = true) : k = 3 ∧ n = (m : Int) ∧ s = ⟨#[]⟩ ∧ t = ⟨#[]⟩ ∧ partsB m l = true := by
  rw [clB] at h
  simp only [Bool.and_eq_true, beq_iff_eq] at h
  exact ⟨h.1.1.1.1, h.1.1.1.2, emp_eq h.1.1.2, emp_eq h.1.2, h.2⟩
theorem cl_cut {N : Nat} (hE : ECut N) {m : Nat} (x y : Tm) (r r' : List UInt8) (hd : x.deep ≤ N) (hx : clB m x = true) (hy : clB m y = true) (hr : Fin7 r) (hr' : Fin7 r') (h : txCl x ++ r = txCl y ++ r') : x = y ∧ r = r' := by
  obtain ⟨k, n, s, t, l⟩ := x
  obtain ⟨k', n', s', t', l'⟩ := y
  obtain ⟨rfl, rfl, rfl, rfl, a⟩ := cl_cases hx
  obtain ⟨rfl, rfl, rfl, rfl, b⟩ := cl_cases hy
  rw [Tm.deep] at hd
  rw [txCl, txCl, Int.toNat_natCast] at h
  obtain ⟨e1, e2⟩ := parts_cut hE marks_case hr hr' m l l' (by omega) a b h
  rw [e1]
  exact ⟨rfl, e2⟩
theorem cls_cut {N : Nat} (hE : ECut N) {m : Nat} {l l' : List Tm} {r r' : List UInt8} (hd : Tm.deeps l ≤ N) (n1 : l ≠ []) (n2 : l' ≠ []) (h1 : clsB m l = true) (h2 : clsB m l' = true) (h : txCls l ++ 32 :: r = txCls l' ++ 32 :: r') : l = l' ∧ r = r' := by
  obtain ⟨e1, e2⟩ := rows_end txCl txCls Fin7 (clB m) 59 [32] rfl (fun x l => rfl) (fin_cons (by decide) (by decide) (by decide) (by decide)) l (fun x hx y r r' a b c d e => cl_cut hE x y r r' (deep_of hd hx) a b c d e) l' _ _ n1 n2 (clsB_all.1 h1) (clsB_all.1 h2) (fin_cons (by decide) (by decide) (by decide) (by decide) _) (fin_cons (by decide) (by decide) (by decide) (by decide) _) (fun t e => by simp at e) (fun t e => by simp at e) h
  simp only [List.cons.injEq, true_and] at e2
  exact ⟨e1, e2⟩
end Go.Proofs.YtcallgoglnkkiaaGreatDoor
set_option linter.unusedVariables false
set_option linter.unusedSimpArgs false
namespace Go.Proofs.YtcallgoglnkkiaaGreatDoor
open Go.RowKit
open Go.Lib (decDigits itoa)

/-- A word, or a name, ahead of what is no part of one. -/
theorem words_cut {a b : List UInt8} {r r' : List UInt8} (ha : ∀ c ∈ a, kindN (c.toNat : Int) ≠ 0) (hb : ∀ c ∈ b, kindN (c.toNat : Int) ≠ 0) (hr : Sep r) (hr' : Sep r') (h : a ++ r = b ++ r') : a = b ∧ r = r' := by
  have h1 := prefL_append ha hr
  have h2 := prefL_append hb hr'
  rw [h, h2] at h1
  exact List.append_inj h h1.symm
/-- No pattern begins with the word after. -/
theorem pat_after {p : Tm} (h : patB p = true) {z r : List UInt8} (hz : Sep z) : txE p ++ z ≠ 97 :: 102 :: 116 :: 101 :: 114 :: 32 :: r := by
  intro e
  obtain ⟨k, n, s, t, l⟩ := p
  obtain ⟨c, u, e1, hc⟩ := pat_head h
  rcases pat_cases h with ⟨rfl, rfl, ⟨rfl, rfl, hs⟩ | ⟨rfl, rfl⟩ | ⟨rfl, rfl, hs⟩ | ⟨rfl, rfl, rfl⟩⟩ | ⟨rfl | rfl, -⟩
  case inl.inr.inr.inl =>
    rw [txE_atom] at e
    obtain ⟨e3, -⟩ := words_cut (b := [97, 102, 116, 101, 114]) (r' := 32 :: r) (name_all (atom_name hs)) (by decide) hz (sep_cons (by decide) _) e
    unfold atomB at hs
    rw [e3] at hs
    simp only [Bool.and_eq_true] at hs
    exact absurd hs.2 (by decide)
  all_goals
    rw [e1] at e
    simp only [List.cons_append, List.cons.injEq] at e
    rw [e.1, show cls 97 = 2 by decide] at hc
    simp [Tm.k] at hc
theorem cl_after {c : Tm} (h : clB 1 c = true) {z r : List UInt8} : txCl c ++ z ≠ 97 :: 102 :: 116 :: 101 :: 114 :: 32 :: r := by
  obtain ⟨k, n, s, t, l⟩ := c
  obtain ⟨rfl, rfl, rfl, rfl, a⟩ := cl_cases h
  rw [txCl, Int.toNat_natCast]
  cases l with
  | nil => rw [partsB] at a; simp at a; all_goals simp
  | cons p l =>
    obtain ⟨a1, a2⟩ := parts_1 a
    rw [txParts, if_pos rfl]
    simp only [List.append_assoc, List.nil_append]
    exact pat_after a1 (parts_sep marks_case a2 z)
theorem recv_1 {c : Tm} (h : recvB [c] = true) : afterB c = true := by rw [recvB] at h; simpa using h
theorem recv_2 {c b : Tm} {l : List Tm} (h : recvB (c :: b :: l) = true) : clB 1 c = true ∧ recvB (b :: l) = true := by rw [recvB] at h; simpa using h
theorem txr_1 (sep : List UInt8) (c : Tm) : txRecv sep [c] = 32 :: 97 :: 102 :: 116 :: 101 :: 114 :: 32 :: txAfter c := by rw [txRecv]; simp
theorem txr_2 (sep : List UInt8) (c b : Tm) (l : List Tm) : txRecv sep (c :: b :: l) = sep ++ (txCl c ++ txRecv [59, 32] (b :: l)) := by rw [txRecv]; simp
theorem after_cases {k n : Int} {s t : ByteArray} {l : List Tm} (h : afterB (.mk k n s t l) = true) : k = 21 ∧ n = 0 ∧ s = ⟨#[]⟩ ∧ t = ⟨#[]⟩ ∧ ∃ e m, l = e :: m ∧ m ≠ [] ∧ exprB e = true ∧ ∀ x ∈ m, exprB x = true := by
  rw [afterB] at h
  simp only [Bool.and_eq_true, beq_iff_eq, decide_eq_true_eq] at h
  obtain ⟨⟨⟨⟨⟨h1, h2⟩, h3⟩, h4⟩, h5⟩, h6⟩ := h
  refine ⟨h1, h2, emp_eq h3, emp_eq h4, ?_⟩
  match l, h5, h6 with
  | e :: b :: m, _, h6 =>
    rw [exprsB, Bool.and_eq_true] at h6
    exact ⟨_, _, rfl, by simp, h6.1, exprsB_all.1 h6.2⟩
theorem after_cut {N : Nat} (hE : ECut N) {x y : Tm} {r r' : List UInt8} (hd : x.deep ≤ N) (hx : afterB x = true) (hy : afterB y = true) (hr : Fin7 r) (hr' : Fin7 r') (h : txAfter x ++ r = txAfter y ++ r') : x = y ∧ r = r' := by
  obtain ⟨k, n, s, t, l⟩ := x
  obtain ⟨k', n', s', t', l'⟩ := y
  obtain ⟨rfl, rfl, rfl, rfl, e, m, rfl, a1, a2, a3⟩ := after_cases hx
  obtain ⟨rfl, rfl, rfl, rfl, e', m', rfl, b1, b2, b3⟩ := after_cases hy
  rw [txAfter, txAfter, txThen, txThen] at h
  simp only [List.append_assoc, List.cons_append, List.nil_append] at h
  rw [Tm.deep, Tm.deeps] at hd
  obtain ⟨e1, e2⟩ := hE e e' _ _ (by omega) a2 b2 (fol_cons (by decide) (by decide) (by decide) _) (fol_cons (by decide) (by decide) (by decide) _) h
  simp only [List.cons.injEq, true_and] at e2
  obtain ⟨e3, e4⟩ := erow_end hE (by omega) a1 b1 a3 b3 hr hr' e2
  rw [e1, e3]
  exact ⟨rfl, e4⟩
/-- What follows a clause of a receive ends it. -/
theorem recv_fin (b : Tm) (l : List Tm) (z : List UInt8) : Fin7 (txRecv [59, 32] (b :: l) ++ z) := by
  cases l with
  | nil => rw [txr_1]; exact fin_cons (by decide) (by decide) (by decide) (by decide) _
  | cons c l => rw [txr_2]; exact fin_cons (by decide) (by decide) (by decide) (by decide) _
theorem recv_cut {N : Nat} (hE : ECut N) (sep : List UInt8) (hsep : sep = [32] ∨ sep = [59, 32]) {r r' : List UInt8} (hr : Fin7 r) (hr' : Fin7 r') : ∀ (l l' : List Tm), sep = sep → Tm.deeps l ≤ N → recvB l = true → recvB l' = true → txRecv sep l ++ r = txRecv sep l' ++ r' → l = l' ∧ r = r' := by
  intro l
  induction l generalizing sep with
  | nil => intro l' _ _ h; rw [recvB] at h; simp at h
  | cons c l ih =>
    intro l' _ hd h1 h2 h
    rw [Tm.deeps] at hd
    match l', h2 with
    | [], h2 => rw [recvB] at h2; simp at h2
    | [c'], h2 =>
      cases l with
      | nil =>
        rw [txr_1, txr_1] at h
        simp only [List.cons_append, List.cons.injEq, true_and] at h
        obtain ⟨e1, e2⟩ := after_cut hE (by omega) (recv_1 h1) (recv_1 h2) hr hr' h
        rw [e1]
        exact ⟨rfl, e2⟩
      | cons b l =>
        exfalso
        rw [txr_1, txr_2] at h
        rcases hsep with rfl | rfl
        · simp only [List.cons_append, List.nil_append, List.append_assoc, List.cons.injEq, true_and] at h
          exact cl_after (recv_2 h1).1 h
        · simp only [List.cons_append, List.nil_append, List.append_assoc, List.cons.injEq, true_and] at h
          exact absurd h.1 (by decide)
    | c' :: b' :: l', h2 =>
      cases l with
      | nil =>
        exfalso
        rw [txr_1, txr_2] at h
        rcases hsep with rfl | rfl
        · simp only [List.cons_append, List.nil_append, List.append_assoc, List.cons.injEq, true_and] at h
          exact cl_after (recv_2 h2).1 h.symm
        · simp only [List.cons_append, List.nil_append, List.append_assoc, List.cons.injEq, true_and] at h
          exact absurd h.1 (by decide)
      | cons b l =>
        rw [txr_2, txr_2] at h
        simp only [List.append_assoc] at h
        obtain ⟨e1, e2⟩ := cl_cut hE c c' _ _ (by omega) (recv_2 h1).1 (recv_2 h2).1 (recv_fin b l r) (recv_fin b' l' r') (List.append_cancel_left h)
        obtain ⟨e3, e4⟩ := ih [59, 32] (.inr rfl) (b' :: l') rfl (by omega) (recv_2 h1).2 (recv_2 h2).2 e2
        rw [e1, e3]
        exact ⟨rfl, e4⟩
/-- What follows a clause among clauses. -/
def ctail (l : List Tm) : List UInt8 := (if l.isEmpty then [] else [59, 32]) ++ txCls l
theorem ctail_fin (l : List Tm) (z : List UInt8) : Fin7 (ctail l ++ 32 :: z) := by
  unfold ctail
  cases l with
  | nil => simp only [List.isEmpty_nil, if_true, List.nil_append, txCls]; exact fin_cons (by decide) (by decide) (by decide) (by decide) _
  | cons a l => simp only [List.isEmpty_cons, Bool.false_eq_true, if_false, List.cons_append]; exact fin_cons (by decide) (by decide) (by decide) (by decide) _
theorem cl_cut2 {N : Nat} (hE : ECut N) {m : Nat} (x y : Tm) (r r' : List UInt8) (hd : x.deep ≤ N ∨ y.deep ≤ N) (hx : clB m x = true) (hy : clB m y = true) (hr : Fin7 r) (hr' : Fin7 r') (h : txCl x ++ r = txCl y ++ r') : x = y ∧ r = r' := by
  rcases hd with hd | hd
  · exact cl_cut hE x y r r' hd hx hy hr hr' h
  · obtain ⟨e1, e2⟩ := cl_cut hE y x r' r hd hy hx hr' hr h.symm
    exact ⟨e1.symm, e2.symm⟩
theorem tail_recv {N : Nat} (hE : ECut N) {r r' : List UInt8} : ∀ (l l' : List Tm), Tm.deeps l ≤ N ∨ Tm.deeps l' ≤ N → clsB 1 l = true → recvB l' = true → ctail l ++ 32 :: 101 :: r ≠ txRecv [59, 32] l' ++ 32 :: 101 :: r'
  | _, [], _, _, h2, _ => by rw [recvB] at h2; simp at h2
  | [], [c'], _, _, _, h => by
    rw [txr_1] at h
    simp only [ctail, txCls, List.isEmpty_nil, if_true, List.cons_append, List.nil_append, List.cons.injEq, true_and] at h
    exact absurd h.1 (by decide)
  | [], c' :: b' :: l', _, _, _, h => by
    rw [txr_2] at h
    simp only [ctail, txCls, List.isEmpty_nil, if_true, List.cons_append, List.nil_append, List.cons.injEq, true_and] at h
    exact absurd h.1 (by decide)
  | c :: l, [c'], _, _, _, h => by
    rw [txr_1] at h
    simp only [ctail, List.isEmpty_cons, Bool.false_eq_true, if_false, List.cons_append, List.nil_append, List.cons.injEq, true_and] at h
    exact absurd h.1 (by decide)
  | c :: l, c' :: b' :: l', hd, h1, h2, h => by
    rw [txr_2] at h
    rw [Tm.deeps, Tm.deeps] at hd
    rw [clsB, Bool.and_eq_true] at h1
    have hc : ctail (c :: l) = [59, 32] ++ (txCl c ++ ctail l) := by unfold ctail; rw [txCls]; simp
    rw [hc] at h
    simp only [List.append_assoc] at h
    obtain ⟨e1, e2⟩ := cl_cut2 hE c c' _ _ (by omega) h1.1 (recv_2 h2).1 (ctail_fin l _) (recv_fin b' l' _) (List.append_cancel_left h)
    exact tail_recv hE l (b' :: l') (by omega) h1.2 (recv_2 h2).2 e2
theorem cls_recv {N : Nat} (hE : ECut N) {r r' : List UInt8} {l l' : List Tm} (hd : Tm.deeps l ≤ N ∨ Tm.deeps l' ≤ N) (n1 : l ≠ []) (h1 : clsB 1 l = true) (h2 : recvB l' = true) : 32 :: (txCls l ++ 32 :: 101 :: r) ≠ txRecv [32] l' ++ 32 :: 101 :: r' := by
  intro h
  match l, n1 with
  | c :: l, _ =>
    rw [clsB, Bool.and_eq_true] at h1
    have hc : txCls (c :: l) = txCl c ++ ctail l := by unfold ctail; rw [txCls]
    rw [hc] at h
    match l', h2 with
    | [], h2 => rw [recvB] at h2; simp at h2
    | [c'], h2 =>
      rw [txr_1] at h
      simp only [List.cons_append, List.append_assoc, List.cons.injEq, true_and] at h
      exact cl_after h1.1 h
    | c' :: b' :: l', h2 =>
      rw [Tm.deeps, Tm.deeps] at hd
      rw [txr_2] at h
      simp only [List.cons_append, List.nil_append, List.append_assoc, List.cons.injEq, true_and] at h
      obtain ⟨e1, e2⟩ := cl_cut2 hE c c' _ _ (by omega) h1.1 (recv_2 h2).1 (ctail_fin l _) (recv_fin b' l' _) h
      exact tail_recv hE l (b' :: l') (by omega) h1.2 (recv_2 h2).2 e2
end Go.Proofs.YtcallgoglnkkiaaGreatDoor
