/- Layer 7: texts of trees that may be are one to one: expressions. Layer 7: texts of trees that may be are one to one: functions, modules. -/
import Derived.Test.YtcallgoglnkkiaaGreatDoorAstL
set_option linter.unusedVariables false
set_option linter.unusedSimpArgs false
namespace Go.Proofs.YtcallgoglnkkiaaGreatDoor
open Go.RowKit
open Go.Lib (decDigits itoa)

theorem atom_word {s : ByteArray} (h : atomB s = true) : wordL s.data.toList = false := by
  unfold atomB at h
  simp only [Bool.and_eq_true, Bool.not_eq_true'] at h
  exact h.2
theorem recv_32 {l : List Tm} (h : recvB l = true) : ∃ u, txRecv [32] l = 32 :: u := by
  match l, h with
  | [], h => rw [recvB] at h; simp at h
  | [c], _ => rw [txr_1]; exact ⟨_, rfl⟩
  | c :: b :: l, _ => rw [txr_2]; exact ⟨_, rfl⟩
/-- An expression that begins with a name or a word. -/
def Two (k : Int) (nm z : List UInt8) : Prop :=
  (k = 7 ∧ wordL nm = false ∧ z = []) ∨ (k = 14 ∧ wordL nm = false ∧ ∃ u, z = 40 :: u) ∨ (k = 15 ∧ wordL nm = false ∧ ∃ u, z = 58 :: u) ∨
  (k = 17 ∧ nm = [102, 117, 110] ∧ ∃ u, z = 32 :: u) ∨ (k = 18 ∧ nm = [99, 97, 115, 101] ∧ ∃ u, z = 32 :: u) ∨ (k = 19 ∧ nm = [116, 114, 121] ∧ ∃ u, z = 32 :: u) ∨ (k = 20 ∧ nm = [114, 101, 99, 101, 105, 118, 101] ∧ ∃ u, z = 32 :: u)
theorem two_form {x : Tm} (h : exprB x = true) (h2 : hk x.k = 2) : ∃ nm z, txE x = nm ++ z ∧ (∀ c ∈ nm, kindN (c.toNat : Int) ≠ 0) ∧ Two x.k nm z := by
  obtain ⟨k, n, s, t, l⟩ := x
  change hk k = 2 at h2
  show ∃ nm z, _ ∧ _ ∧ Two k nm z
  unfold Two
  rcases expr_cases h with ⟨rfl, rfl, ⟨rfl, rfl, hs⟩ | ⟨rfl, rfl⟩ | ⟨rfl, rfl, hs⟩ | ⟨rfl, rfl, rfl⟩⟩ | ⟨rfl, -⟩ | ⟨rfl, -⟩ | ⟨rfl, -⟩ | ⟨rfl, -⟩ | ⟨rfl, -, -, hs, -⟩ | ⟨rfl, -, hs, -⟩ | ⟨rfl, -⟩ | ⟨rfl, -⟩ | ⟨rfl, -, -, -, e, m, rfl, -⟩ | ⟨rfl, -, -, -, e, m, rfl, -⟩ | ⟨rfl, -, -, hn⟩ <;>
  first
  | exact absurd h2 (by decide)
  | skip
  · exact ⟨_, [], by rw [txE_atom, List.append_nil], name_all (atom_name hs), .inl ⟨rfl, atom_word hs, rfl⟩⟩
  · exact ⟨_, _, txE_call _ _ _ _, name_all (atom_name hs), .inr (.inl ⟨rfl, atom_word hs, _, rfl⟩)⟩
  · exact ⟨_, _, txE_far _ _ _ _, name_all (atom_name hs), .inr (.inr (.inl ⟨rfl, atom_word hs, _, rfl⟩))⟩
  · exact ⟨_, _, txE_fun _ _ _ _, by decide, .inr (.inr (.inr (.inl ⟨rfl, rfl, _, rfl⟩)))⟩
  · exact ⟨_, _, txE_case _ _ _ _ _, by decide, .inr (.inr (.inr (.inr (.inl ⟨rfl, rfl, _, rfl⟩))))⟩
  · exact ⟨_, _, txE_try _ _ _ _ _, by decide, .inr (.inr (.inr (.inr (.inr (.inl ⟨rfl, rfl, _, rfl⟩)))))⟩
  · refine ⟨_, _, txE_recv _ _ _ _, by decide, .inr (.inr (.inr (.inr (.inr (.inr ⟨rfl, rfl, ?_⟩)))))⟩
    rcases hn with ⟨rfl, -⟩ | ⟨rfl, hl⟩
    · exact ⟨_, rfl⟩
    · obtain ⟨u, e⟩ := recv_32 hl
      rw [if_pos rfl, e]
      exact ⟨_, rfl⟩
theorem Two.sep {k : Int} {nm z r : List UInt8} (h : Two k nm z) (hr : Fol r) : Sep (z ++ r) := by
  rcases h with ⟨-, -, rfl⟩ | ⟨-, -, u, rfl⟩ | ⟨-, -, u, rfl⟩ | ⟨-, -, u, rfl⟩ | ⟨-, -, u, rfl⟩ | ⟨-, -, u, rfl⟩ | ⟨-, -, u, rfl⟩
  · exact hr.sep
  all_goals exact sep_cons (by decide) _
theorem two_k {x y : Tm} {r r' : List UInt8} (hx : exprB x = true) (hy : exprB y = true) (h1 : hk x.k = 2) (h2 : hk y.k = 2) (hr : Fol r) (hr' : Fol r') (h : txE x ++ r = txE y ++ r') : x.k = y.k := by
  obtain ⟨nm, z, e, hb, hT⟩ := two_form hx h1
  obtain ⟨nm', z', e', hb', hT'⟩ := two_form hy h2
  rw [e, e', List.append_assoc, List.append_assoc] at h
  obtain ⟨e1, e2⟩ := words_cut hb hb' (hT.sep hr) (hT'.sep hr') h
  rcases hT with ⟨a, b, rfl⟩ | ⟨a, b, u, rfl⟩ | ⟨a, b, u, rfl⟩ | ⟨a, b, u, rfl⟩ | ⟨a, b, u, rfl⟩ | ⟨a, b, u, rfl⟩ | ⟨a, b, u, rfl⟩ <;>
  rcases hT' with ⟨a', b', rfl⟩ | ⟨a', b', u', rfl⟩ | ⟨a', b', u', rfl⟩ | ⟨a', b', u', rfl⟩ | ⟨a', b', u', rfl⟩ | ⟨a', b', u', rfl⟩ | ⟨a', b', u', rfl⟩ <;>
  first
  | exact a.trans a'.symm
  | exact (hr.no (.inl rfl) e2).elim
  | exact (hr.no (.inr rfl) e2).elim
  | exact (hr'.no (.inl rfl) e2.symm).elim
  | exact (hr'.no (.inr rfl) e2.symm).elim
  | (exfalso; rw [e1, b'] at b; exact absurd b (by decide))
  | (exfalso; rw [← e1, b] at b'; exact absurd b' (by decide))
  | (exfalso; simp only [List.cons_append, List.cons.injEq] at e2; exact absurd e2.1 (by decide))
theorem op_bytes {s : ByteArray} (h : cmpB s = true ∨ ariB s = true) : (∀ c ∈ s.data.toList, c ≠ 32) ∧ s.data.toList ≠ [61] := by
  unfold cmpB ariB at h
  simp only [List.any_cons, List.any_nil, Bool.or_eq_true, Bool.or_false, beq_iff_eq] at h
  rcases h with (h | h | h | h | h | h) | (h | h | h | h | h) <;> rw [h] <;> exact ⟨by decide, by decide⟩
theorem sep_two (sep : List UInt8) (a b : Tm) : txSep sep [a, b] = txE a ++ (sep ++ txE b) := by simp [txSep]
/-- A variable, as an expression. -/
theorem var_leaf {v : Tm} (h : exprB v = true) (hv : v.k = 5) : ∃ s, nameB s 3 = true ∧ v = .mk 5 0 s ⟨#[]⟩ [] := by
  obtain ⟨kv, nv, sv, tv, lv⟩ := v
  obtain rfl : kv = 5 := hv
  rcases expr_cases h with ⟨rfl, rfl, ⟨-, rfl, hs⟩ | ⟨h0, -⟩ | ⟨h0, -⟩ | ⟨h0, -⟩⟩ | ⟨h0, -⟩ | ⟨h0, -⟩ | ⟨h0, -⟩ | ⟨h0, -⟩ | ⟨h0, -⟩ | ⟨h0, -⟩ | ⟨h0, -⟩ | ⟨h0, -⟩ | ⟨h0, -⟩ | ⟨h0, -⟩ | ⟨h0, -⟩
  · exact ⟨sv, hs, rfl⟩
  all_goals exact absurd h0 (by decide)
theorem len_two {l : List Tm} (h : l.length = 2) : ∃ a b, l = [a, b] := by
  match l, h with
  | [a, b], _ => exact ⟨a, b, rfl⟩
theorem ecut_step {N : Nat} (hE : ECut N) : ECut (N + 1) := by
  intro x y r r' hd hx hy hr hr' h
  have f44 : ∀ r, Fol (44 :: r) := fol_cons (by decide) (by decide) (by decide)
  have f32 : ∀ r, Fol (32 :: r) := fol_cons (by decide) (by decide) (by decide)
  have f41 : ∀ r, Fol (41 :: r) := fol_cons (by decide) (by decide) (by decide)
  have s40 : ∀ r, Sep (40 :: r) := sep_cons (by decide)
  have hkk : hk x.k = hk y.k := by
    obtain ⟨c, u, e, hc⟩ := expr_head hx
    obtain ⟨c', u', e', hc'⟩ := expr_head hy
    have h2 := h
    rw [e, e'] at h2
    simp only [List.cons_append, List.cons.injEq] at h2
    rw [h2.1] at hc
    exact hc.symm.trans hc'
  have htw : hk x.k = 2 → x.k = y.k := fun h1 => two_k hx hy h1 (hkk ▸ h1) hr hr' h
  obtain ⟨k, n, s, t, l⟩ := x
  obtain ⟨k', n', s', t', l'⟩ := y
  change hk k = hk k' at hkk
  change hk k = 2 → k = k' at htw
  rw [Tm.deep] at hd
  have hd' : Tm.deeps l ≤ N := by omega
  clear hd
  rcases expr_cases hx with ⟨rfl, rfl, ⟨rfl, rfl, hs⟩ | ⟨rfl, rfl⟩ | ⟨rfl, rfl, hs⟩ | ⟨rfl, rfl, rfl⟩⟩ | ⟨rfl, rfl, rfl, rfl, hl, hp⟩ | ⟨rfl, rfl, rfl, rfl, hp⟩ | ⟨rfl, rfl, rfl, hs, hl, hp⟩ | ⟨rfl, rfl, rfl, rfl, hl, hp⟩ | ⟨rfl, rfl, rfl, hs, hp⟩ | ⟨rfl, rfl, hs, ht, hp⟩ | ⟨rfl, rfl, rfl, rfl, v, m, rfl, hv, hv2, hp⟩ | ⟨rfl, hs, ht, rfl⟩ | ⟨rfl, rfl, rfl, rfl, e, m, rfl, hm, he, hp⟩ | ⟨rfl, rfl, rfl, rfl, e, m, rfl, hm, he, hp⟩ | ⟨rfl, rfl, rfl, hn⟩ <;>
  rcases expr_cases hy with ⟨rfl, rfl, ⟨rfl, rfl, hs'⟩ | ⟨rfl, rfl⟩ | ⟨rfl, rfl, hs'⟩ | ⟨rfl, rfl, rfl⟩⟩ | ⟨rfl, rfl, rfl, rfl, hl', hp'⟩ | ⟨rfl, rfl, rfl, rfl, hp'⟩ | ⟨rfl, rfl, rfl, hs', hl', hp'⟩ | ⟨rfl, rfl, rfl, rfl, hl', hp'⟩ | ⟨rfl, rfl, rfl, hs', hp'⟩ | ⟨rfl, rfl, hs', ht', hp'⟩ | ⟨rfl, rfl, rfl, rfl, v', m', rfl, hv', hv2', hp'⟩ | ⟨rfl, hs', ht', rfl⟩ | ⟨rfl, rfl, rfl, rfl, e', m', rfl, hm', he', hp'⟩ | ⟨rfl, rfl, rfl, rfl, e', m', rfl, hm', he', hp'⟩ | ⟨rfl, rfl, rfl, hn'⟩ <;>
  first
  | exact absurd hkk (by decide)
  | exact absurd (htw (by decide)) (by decide)
  | skip
  -- 5 5
  · rw [txE_var, txE_var] at h
    obtain ⟨e1, e2⟩ := name_cut hs hs' hr.sep hr'.sep h
    rw [e1]; exact ⟨rfl, e2⟩
  -- 5 16
  · obtain ⟨sv, hsv, rfl⟩ := var_leaf hv2' hv'
    rw [txE_var, txE_app, txE_var] at h
    simp only [List.append_assoc, List.cons_append, List.nil_append] at h
    obtain ⟨e1, e2⟩ := name_cut hs hsv hr.sep (s40 _) h
    exact (hr.no (.inl rfl) e2).elim
  -- 6 6
  · rw [txE_int, txE_int] at h
    obtain ⟨e1, e2⟩ := itoa_cut hr.sep hr'.sep h
    rw [e1]; exact ⟨rfl, e2⟩
  -- 7 7
  · rw [txE_atom, txE_atom] at h
    obtain ⟨e1, e2⟩ := name_cut (atom_name hs) (atom_name hs') hr.sep hr'.sep h
    rw [e1]; exact ⟨rfl, e2⟩
  -- 8 8
  · rw [txE_nil] at h
    simp only [List.cons_append, List.nil_append, List.cons.injEq, true_and] at h
    exact ⟨rfl, h⟩
  -- 8 9
  · obtain ⟨a, b, rfl⟩ := len_two hl'
    rw [txE_nil, txE_cons] at h
    simp only [List.cons_append, List.nil_append, List.cons.injEq, true_and, txSep, List.append_assoc] at h
    exact (expr_no (hp' a (by simp)) (by decide) _ _ h.symm).elim
  -- 9 8
  · obtain ⟨a, b, rfl⟩ := len_two hl
    rw [txE_cons, txE_nil] at h
    simp only [List.cons_append, List.nil_append, List.cons.injEq, true_and, txSep, List.append_assoc] at h
    exact (expr_no (hp a (by simp)) (by decide) _ _ h).elim
  -- 9 9
  · rw [txE_cons, txE_cons] at h
    simp only [List.cons_append, List.nil_append, List.cons.injEq, true_and, List.append_assoc] at h
    obtain ⟨e1, e2⟩ := erow_cut hE 124 [] 93 (fol_cons (by decide) (by decide) (by decide)) (fol_cons (by decide) (by decide) (by decide)) (by decide) (by decide) hd' hp hp' h
    rw [e1]; exact ⟨rfl, e2⟩
  -- 10 10
  · rw [txE_tup, txE_tup] at h
    simp only [List.cons_append, List.nil_append, List.cons.injEq, true_and, List.append_assoc] at h
    obtain ⟨e1, e2⟩ := erow_cut hE 44 [32] 125 (fol_cons (by decide) (by decide) (by decide)) f44 (by decide) (by decide) hd' hp hp' h
    rw [e1]; exact ⟨rfl, e2⟩
  -- 11 11
  · obtain ⟨a, b, rfl⟩ := len_two hl
    obtain ⟨a', b', rfl⟩ := len_two hl'
    rw [txE_op, txE_op, sep_two, sep_two] at h
    simp only [List.cons_append, List.nil_append, List.cons.injEq, true_and, List.append_assoc] at h
    obtain ⟨e1, e2⟩ := hE a a' _ _ (deep_of hd' (by simp)) (hp a (by simp)) (hp' a' (by simp)) (f32 _) (f32 _) h
    simp only [List.cons.injEq, true_and] at e2
    obtain ⟨e3, e4⟩ := mark_cut (op_bytes hs).1 (op_bytes hs').1 e2
    obtain ⟨e5, e6⟩ := hE b b' _ _ (deep_of hd' (by simp)) (hp b (by simp)) (hp' b' (by simp)) (f41 _) (f41 _) e4
    simp only [List.cons.injEq, true_and] at e6
    rw [e1, bytes_eq e3, e5]; exact ⟨rfl, e6⟩
  -- 11 13
  · obtain ⟨a, b, rfl⟩ := len_two hl
    obtain ⟨a', b', rfl⟩ := len_two hl'
    rw [txE_op, txE_match, sep_two, sep_two] at h
    simp only [List.cons_append, List.nil_append, List.cons.injEq, true_and, List.append_assoc] at h
    obtain ⟨e1, e2⟩ := hE a a' _ _ (deep_of hd' (by simp)) (hp a (by simp)) (hp' a' (by simp)) (f32 _) (f32 _) h
    simp only [List.cons.injEq, true_and] at e2
    obtain ⟨e3, e4⟩ := mark_cut (b := [61]) (op_bytes hs).1 (by decide) e2
    exact ((op_bytes hs).2 e3).elim
  -- 13 11
  · obtain ⟨a, b, rfl⟩ := len_two hl
    obtain ⟨a', b', rfl⟩ := len_two hl'
    rw [txE_op, txE_match, sep_two, sep_two] at h
    simp only [List.cons_append, List.nil_append, List.cons.injEq, true_and, List.append_assoc] at h
    obtain ⟨e1, e2⟩ := hE a a' _ _ (deep_of hd' (by simp)) (hp a (by simp)) (hp' a' (by simp)) (f32 _) (f32 _) h
    simp only [List.cons.injEq, true_and] at e2
    obtain ⟨e3, e4⟩ := mark_cut (b := [61]) (op_bytes hs').1 (by decide) e2.symm
    exact ((op_bytes hs').2 e3).elim
  -- 13 13
  · obtain ⟨a, b, rfl⟩ := len_two hl
    obtain ⟨a', b', rfl⟩ := len_two hl'
    rw [txE_match, txE_match, sep_two, sep_two] at h
    simp only [List.cons_append, List.nil_append, List.cons.injEq, true_and, List.append_assoc] at h
    obtain ⟨e1, e2⟩ := hE a a' _ _ (deep_of hd' (by simp)) (hp a (by simp)) (hp' a' (by simp)) (f32 _) (f32 _) h
    simp only [List.cons.injEq, true_and] at e2
    obtain ⟨e5, e6⟩ := hE b b' _ _ (deep_of hd' (by simp)) (hp b (by simp)) (hp' b' (by simp)) (f41 _) (f41 _) e2
    simp only [List.cons.injEq, true_and] at e6
    rw [e1, e5]; exact ⟨rfl, e6⟩
  -- 14 14
  · rw [txE_call, txE_call] at h
    simp only [List.append_assoc, List.cons_append, List.nil_append] at h
    obtain ⟨e1, e2⟩ := name_cut (atom_name hs) (atom_name hs') (s40 _) (s40 _) h
    simp only [List.cons.injEq, true_and] at e2
    obtain ⟨e3, e4⟩ := erow_cut hE 44 [32] 41 f41 f44 (by decide) (by decide) hd' hp hp' e2
    rw [e1, e3]; exact ⟨rfl, e4⟩
  -- 15 15
  · rw [txE_far, txE_far] at h
    simp only [List.append_assoc, List.cons_append, List.nil_append] at h
    obtain ⟨e1, e2⟩ := name_cut (atom_name hs) (atom_name hs') (sep_cons (by decide) _) (sep_cons (by decide) _) h
    simp only [List.cons.injEq, true_and] at e2
    obtain ⟨e5, e6⟩ := name_cut (atom_name ht) (atom_name ht') (s40 _) (s40 _) e2
    simp only [List.cons.injEq, true_and] at e6
    obtain ⟨e3, e4⟩ := erow_cut hE 44 [32] 41 f41 f44 (by decide) (by decide) hd' hp hp' e6
    rw [e1, e3, e5]; exact ⟨rfl, e4⟩
  -- 16 5
  · obtain ⟨sv, hsv, rfl⟩ := var_leaf hv2 hv
    rw [txE_var, txE_app, txE_var] at h
    simp only [List.append_assoc, List.cons_append, List.nil_append] at h
    obtain ⟨e1, e2⟩ := name_cut hsv hs' (s40 _) hr'.sep h
    exact (hr'.no (.inl rfl) e2.symm).elim
  -- 16 16
  · obtain ⟨sv, hsv, rfl⟩ := var_leaf hv2 hv
    obtain ⟨sv', hsv', rfl⟩ := var_leaf hv2' hv'
    rw [txE_app, txE_app, txE_var, txE_var] at h
    simp only [List.append_assoc, List.cons_append, List.nil_append] at h
    obtain ⟨e1, e2⟩ := name_cut hsv hsv' (s40 _) (s40 _) h
    simp only [List.cons.injEq, true_and] at e2
    rw [Tm.deeps] at hd'
    obtain ⟨e3, e4⟩ := erow_cut hE 44 [32] 41 f41 f44 (by decide) (by decide) (by omega) hp hp' e2
    rw [e1, e3]; exact ⟨rfl, e4⟩
  -- 17 17
  · rw [txE_fun, txE_fun] at h
    simp only [List.append_assoc, List.cons_append, List.nil_append, List.cons.injEq, true_and] at h
    obtain ⟨e1, e2⟩ := name_cut (atom_name hs) (atom_name hs') (sep_cons (by decide) _) (sep_cons (by decide) _) h
    simp only [List.cons.injEq, true_and] at e2
    obtain ⟨e3, e4⟩ := name_cut (atom_name ht) (atom_name ht') (sep_cons (by decide) _) (sep_cons (by decide) _) e2
    simp only [List.cons.injEq, true_and] at e4
    obtain ⟨e5, e6⟩ := itoa_cut hr.sep hr'.sep e4
    rw [e1, e3, e5]; exact ⟨rfl, e6⟩
  -- 18 18
  · rw [txE_case, txE_case] at h
    simp only [List.append_assoc, List.cons_append, List.nil_append, List.cons.injEq, true_and] at h
    rw [Tm.deeps] at hd'
    obtain ⟨e1, e2⟩ := hE e e' _ _ (by omega) he he' (f32 _) (f32 _) h
    simp only [List.cons.injEq, true_and] at e2
    obtain ⟨e3, e4⟩ := cls_cut hE (by omega) hm hm' hp hp' e2
    simp only [List.cons.injEq, true_and] at e4
    rw [e1, e3]; exact ⟨rfl, e4⟩
  -- 19 19
  · rw [txE_try, txE_try] at h
    simp only [List.append_assoc, List.cons_append, List.nil_append, List.cons.injEq, true_and] at h
    rw [Tm.deeps] at hd'
    obtain ⟨e1, e2⟩ := hE e e' _ _ (by omega) he he' (f32 _) (f32 _) h
    simp only [List.cons.injEq, true_and] at e2
    obtain ⟨e3, e4⟩ := cls_cut hE (by omega) hm hm' hp hp' e2
    simp only [List.cons.injEq, true_and] at e4
    rw [e1, e3]; exact ⟨rfl, e4⟩
  -- 20 20
  · rw [txE_recv, txE_recv] at h
    simp only [List.append_assoc] at h
    have h3 := List.append_cancel_left h
    have fin : ∀ z, Fin7 ([32, 101, 110, 100] ++ z) := fun z => fin_cons (by decide) (by decide) (by decide) (by decide) _
    rcases hn with ⟨rfl, hm, hp⟩ | ⟨rfl, hp⟩ <;> rcases hn' with ⟨rfl, hm', hp'⟩ | ⟨rfl, hp'⟩
    · rw [if_neg (by decide), if_neg (by decide)] at h3
      simp only [List.append_assoc, List.cons_append, List.nil_append, List.cons.injEq, true_and] at h3
      obtain ⟨e3, e4⟩ := cls_cut hE hd' hm hm' hp hp' h3
      simp only [List.cons.injEq, true_and] at e4
      rw [e3]; exact ⟨rfl, e4⟩
    · rw [if_neg (by decide), if_pos rfl] at h3
      exact (cls_recv hE (.inl hd') hm hp hp' h3).elim
    · rw [if_pos rfl, if_neg (by decide)] at h3
      exact (cls_recv hE (.inr hd') hm' hp' hp h3.symm).elim
    · rw [if_pos rfl, if_pos rfl] at h3
      obtain ⟨e3, e4⟩ := recv_cut hE [32] (.inl rfl) (fin r) (fin r') l l' rfl hd' hp hp' h3
      rw [e3]; exact ⟨rfl, List.append_cancel_left e4⟩
/-- Expressions of one text are one. -/
theorem ecut : ∀ N, ECut N
  | 0 => by
    intro x y r r' hd
    obtain ⟨k, n, s, t, l⟩ := x
    rw [Tm.deep] at hd
    omega
  | N + 1 => ecut_step (ecut N)
end Go.Proofs.YtcallgoglnkkiaaGreatDoor
set_option linter.unusedVariables false
set_option linter.unusedSimpArgs false
namespace Go.Proofs.YtcallgoglnkkiaaGreatDoor
open Go.RowKit
open Go.Lib (decDigits itoa)

theorem parts_41 {l : List Tm} (h : partsB 0 l = true) (r : List UInt8) : ∃ u, txParts [44, 32] [41] 0 l ++ r = 41 :: u := by
  cases l with
  | nil => rw [partsB] at h; simp at h; all_goals simp
  | cons g l => rw [txParts]; exact ⟨_, by simp only [List.append_assoc, List.cons_append, List.nil_append]; rfl⟩
/-- How many patterns a clause of a function has, its text says. -/
theorem arity_cut : ∀ (m m' : Nat) (l l' : List Tm) (r r' : List UInt8), partsB m l = true → partsB m' l' = true → txParts [44, 32] [41] m l ++ r = txParts [44, 32] [41] m' l' ++ r' → m = m'
  | 0, 0, _, _, _, _, _, _, _ => rfl
  | 0, m' + 1, l, p' :: l', r, r', h1, h2, h => by
    obtain ⟨u, e⟩ := parts_41 h1 r
    rw [e, txParts, List.append_assoc] at h
    exact (pat_no (parts_1 h2).1 (by decide) _ _ h.symm).elim
  | m + 1, 0, p :: l, l', r, r', h1, h2, h => by
    obtain ⟨u, e⟩ := parts_41 h2 r'
    rw [e, txParts, List.append_assoc] at h
    exact (pat_no (parts_1 h1).1 (by decide) _ _ h).elim
  | m + 1, m' + 1, p :: l, p' :: l', r, r', h1, h2, h => by
    obtain ⟨a1, a2⟩ := parts_1 h1
    obtain ⟨b1, b2⟩ := parts_1 h2
    rw [txParts, txParts] at h
    simp only [List.append_assoc] at h
    have hS : ∀ (m : Nat) (q : List Tm) (z : List UInt8), partsB m q = true → Sep ((if m = 0 then [] else [44, 32]) ++ (txParts [44, 32] [41] m q ++ z)) := by
      intro m q z hq
      by_cases hm : m = 0
      · subst hm
        rw [if_pos rfl, List.nil_append]
        exact parts_sep marks_fun hq z
      · rw [if_neg hm]
        exact sep_cons (by decide) _
    obtain ⟨e1, e2⟩ := pat_cut p p' _ _ a1 b1 (hS m l r a2) (hS m' l' r' b2) h
    by_cases hm : m = 0
    · by_cases hm' : m' = 0
      · rw [hm, hm']
      · exfalso
        subst hm
        obtain ⟨u, e⟩ := parts_41 a2 r
        rw [if_pos rfl, if_neg hm', List.nil_append, e] at e2
        simp only [List.cons_append, List.cons.injEq] at e2
        exact absurd e2.1 (by decide)
    · by_cases hm' : m' = 0
      · exfalso
        subst hm'
        obtain ⟨u, e⟩ := parts_41 b2 r'
        rw [if_neg hm, if_pos rfl, List.nil_append, e] at e2
        simp only [List.cons_append, List.cons.injEq] at e2
        exact absurd e2.1 (by decide)
      · rw [if_neg hm, if_neg hm'] at e2
        rw [arity_cut m m' l l' r r' a2 b2 (List.append_cancel_left e2)]
  | m + 1, _, [], _, _, _, h1, _, _ => by rw [partsB] at h1; simp at h1; all_goals simp
  | _, m' + 1, _, [], _, _, _, h1, _ => by rw [partsB] at h1; simp at h1; all_goals simp
theorem funcl_cut (f : List UInt8) {m : Nat} (x y : Tm) (r r' : List UInt8) (hx : clB m x = true) (hy : clB m y = true) (hr : Fin7 r) (hr' : Fin7 r') (h : txFunCl f x ++ r = txFunCl f y ++ r') : x = y ∧ r = r' := by
  obtain ⟨k, n, s, t, l⟩ := x
  obtain ⟨k', n', s', t', l'⟩ := y
  obtain ⟨rfl, rfl, rfl, rfl, a⟩ := cl_cases hx
  obtain ⟨rfl, rfl, rfl, rfl, b⟩ := cl_cases hy
  rw [txFunCl, txFunCl, Int.toNat_natCast] at h
  simp only [List.append_assoc] at h
  obtain ⟨e1, e2⟩ := parts_cut (ecut (Tm.deeps l)) marks_fun hr hr' m l l' (Nat.le_refl _) a b (List.append_cancel_left (List.append_cancel_left h))
  rw [e1]
  exact ⟨rfl, e2⟩
theorem fun_cases {k n : Int} {s t : ByteArray} {l : List Tm} (h : funB (.mk k n s t l) = true) : k = 2 ∧ t = ⟨#[]⟩ ∧ atomB s = true ∧ 0 ≤ n ∧ l ≠ [] ∧ clsB n.toNat l = true := by
  rw [funB] at h
  simp only [Bool.and_eq_true, beq_iff_eq, decide_eq_true_eq, Bool.not_eq_true'] at h
  obtain ⟨⟨⟨⟨⟨h1, h2⟩, h3⟩, h4⟩, h5⟩, h6⟩ := h
  exact ⟨h1, emp_eq h2, h3, h4.1, by intro e; rw [e] at h5; simp at h5, h6⟩
/-- A function's text begins with its name and a bracket. -/
theorem fun_head {x : Tm} (h : funB x = true) : ∃ u, txFun x = x.s.data.toList ++ 40 :: u := by
  obtain ⟨k, n, s, t, l⟩ := x
  obtain ⟨rfl, rfl, hs, hn, hl, hc⟩ := fun_cases h
  match l, hl with
  | .mk kc nc sc tc lc :: l, _ =>
    rw [txFun, txFunCls, txFunCl]
    simp only [List.append_assoc, List.cons_append, List.nil_append]
    exact ⟨_, rfl⟩
theorem fun_cut {x y : Tm} {r r' : List UInt8} (hx : funB x = true) (hy : funB y = true) (h : txFun x ++ r = txFun y ++ r') : x = y ∧ r = r' := by
  obtain ⟨k, n, s, t, l⟩ := x
  obtain ⟨k', n', s', t', l'⟩ := y
  obtain ⟨rfl, rfl, hs, hn, hl, hc⟩ := fun_cases hx
  obtain ⟨rfl, rfl, hs', hn', hl', hc'⟩ := fun_cases hy
  have hh : s = s' ∧ n.toNat = n'.toNat := by
    match l, hl, l', hl' with
    | .mk kc nc sc tc lc :: l, _, .mk kc' nc' sc' tc' lc' :: l', _ =>
      rw [clsB, Bool.and_eq_true] at hc hc'
      obtain ⟨rfl, rfl, rfl, rfl, a⟩ := cl_cases hc.1
      obtain ⟨rfl, rfl, rfl, rfl, b⟩ := cl_cases hc'.1
      rw [txFun, txFun, txFunCls, txFunCls, txFunCl, txFunCl, Int.toNat_natCast, Int.toNat_natCast] at h
      simp only [List.append_assoc, List.cons_append, List.nil_append] at h
      obtain ⟨e1, e2⟩ := name_cut (atom_name hs) (atom_name hs') (sep_cons (by decide) _) (sep_cons (by decide) _) h
      simp only [List.cons.injEq, true_and] at e2
      exact ⟨e1, arity_cut _ _ _ _ _ _ a b e2⟩
  obtain ⟨rfl, hm⟩ := hh
  have hm' : n = n' := by omega
  subst hm'
  rw [txFun, txFun] at h
  simp only [List.append_assoc] at h
  obtain ⟨e1, e2⟩ := rows_end (txFunCl s.data.toList) (txFunCls s.data.toList) Fin7 (clB n.toNat) 59 [10] rfl (fun x l => rfl) (fin_cons (by decide) (by decide) (by decide) (by decide)) l (fun x hx y r r' a b c d e => funcl_cut _ x y r r' a b c d e) l' _ _ hl hl' (clsB_all.1 hc) (clsB_all.1 hc') (fin_cons (by decide) (by decide) (by decide) (by decide) _) (fin_cons (by decide) (by decide) (by decide) (by decide) _) (fun t e => by simp at e) (fun t e => by simp at e) h
  rw [e1]
  have e3 : (46 :: 10 :: r : List UInt8) = 46 :: 10 :: r' := e2
  simp only [List.cons.injEq, true_and] at e3
  exact ⟨rfl, e3⟩
/-- What may follow functions: nothing, or a module. -/
def ModR (r : List UInt8) : Prop := r = [] ∨ ∃ u, r = [109, 111, 100, 117, 108, 101] ++ 32 :: u
theorem fun_mod {x : Tm} (hx : funB x = true) {r z : List UInt8} (hr : ModR r) : r ≠ txFun x ++ z := by
  intro h
  obtain ⟨u, e⟩ := fun_head hx
  obtain ⟨k, n, s, t, l⟩ := x
  obtain ⟨rfl, rfl, hs, -⟩ := fun_cases hx
  rw [e, List.append_assoc] at h
  rcases hr with rfl | ⟨v, rfl⟩
  · have := congrArg List.length h
    simp at this
  · obtain ⟨e1, -⟩ := words_cut (a := [109, 111, 100, 117, 108, 101]) (by decide) (name_all (atom_name hs)) (sep_cons (by decide) _) (sep_cons (by decide) _) h
    have := atom_word hs
    have e2 : s.data.toList = [109, 111, 100, 117, 108, 101] := e1.symm
    rw [e2] at this
    exact absurd this (by decide)
theorem funs_cut {r r' : List UInt8} (hr : ModR r) (hr' : ModR r') : ∀ (l l' : List Tm), (∀ x ∈ l, funB x = true) → (∀ x ∈ l', funB x = true) → (l.map txFun).flatten ++ r = (l'.map txFun).flatten ++ r' → l = l' ∧ r = r'
  | [], [], _, _, h => by simpa using h
  | [], y :: l', _, h2, h => by
    simp only [List.map_nil, List.flatten_nil, List.nil_append, List.map_cons, List.flatten_cons, List.append_assoc] at h
    exact (fun_mod (h2 y (by simp)) hr h).elim
  | x :: l, [], h1, _, h => by
    simp only [List.map_nil, List.flatten_nil, List.nil_append, List.map_cons, List.flatten_cons, List.append_assoc] at h
    exact (fun_mod (h1 x (by simp)) hr' h.symm).elim
  | x :: l, y :: l', h1, h2, h => by
    simp only [List.map_cons, List.flatten_cons, List.append_assoc] at h
    obtain ⟨e1, e2⟩ := fun_cut (h1 x (by simp)) (h2 y (by simp)) h
    obtain ⟨e3, e4⟩ := funs_cut hr hr' l l' (fun z hz => h1 z (by simp [hz])) (fun z hz => h2 z (by simp [hz])) e2
    rw [e1, e3]
    exact ⟨rfl, e4⟩
theorem mod_cases {k n : Int} {s t : ByteArray} {l : List Tm} (h : modB (.mk k n s t l) = true) : k = 1 ∧ n = 0 ∧ t = ⟨#[]⟩ ∧ atomB s = true ∧ ∀ x ∈ l, funB x = true := by
  rw [modB] at h
  simp only [Bool.and_eq_true, beq_iff_eq] at h
  exact ⟨h.1.1.1.1, h.1.1.1.2, emp_eq h.1.1.2, h.1.2, List.all_eq_true.1 h.2⟩
theorem mods_r (l : List Tm) : ModR (l.map txMod).flatten := by
  cases l with
  | nil => exact .inl rfl
  | cons x l =>
    obtain ⟨k, n, s, t, m⟩ := x
    refine .inr ⟨s.data.toList ++ 46 :: 10 :: ((m.map txFun).flatten ++ (l.map txMod).flatten), ?_⟩
    rw [List.map_cons, List.flatten_cons, txMod]
    simp only [List.append_assoc, List.cons_append, List.nil_append]
theorem mods_cut : ∀ (l l' : List Tm), (∀ x ∈ l, modB x = true) → (∀ x ∈ l', modB x = true) → (l.map txMod).flatten = (l'.map txMod).flatten → l = l'
  | [], [], _, _, _ => rfl
  | [], .mk k n s t m :: l', _, _, h => by
    have := congrArg List.length h
    simp [txMod] at this
  | .mk k n s t m :: l, [], _, _, h => by
    have := congrArg List.length h
    simp [txMod] at this
  | .mk k n s t m :: l, .mk k' n' s' t' m' :: l', h1, h2, h => by
    obtain ⟨rfl, rfl, rfl, a1, a2⟩ := mod_cases (h1 (.mk k n s t m) (by simp))
    obtain ⟨rfl, rfl, rfl, b1, b2⟩ := mod_cases (h2 (.mk k' n' s' t' m') (by simp))
    rw [List.map_cons, List.flatten_cons, List.map_cons, List.flatten_cons, txMod, txMod] at h
    simp only [List.append_assoc, List.cons_append, List.nil_append, List.cons.injEq, true_and] at h
    obtain ⟨e1, e2⟩ := name_cut (atom_name a1) (atom_name b1) (sep_cons (by decide) _) (sep_cons (by decide) _) h
    simp only [List.cons.injEq, true_and] at e2
    obtain ⟨e3, e4⟩ := funs_cut (mods_r l) (mods_r l') m m' a2 b2 e2
    rw [e1, e3, mods_cut l l' (fun z hz => h1 z (by simp [hz])) (fun z hz => h2 z (by simp [hz])) e4]
/-- Trees that may be, of one text, are one. -/
theorem inj7 (x y : Tm) (_ : fitsB x = true) (hx : modsB x = true) (_ : fitsB y = true) (hy : modsB y = true) (h : txMods x = txMods y) : x = y := by
  obtain ⟨k, n, s, t, l⟩ := x
  obtain ⟨k', n', s', t', l'⟩ := y
  rw [modsB] at hx hy
  simp only [Bool.and_eq_true, beq_iff_eq] at hx hy
  obtain ⟨⟨⟨⟨rfl, rfl⟩, a3⟩, a4⟩, a5⟩ := hx
  obtain ⟨⟨⟨⟨rfl, rfl⟩, b3⟩, b4⟩, b5⟩ := hy
  rw [emp_eq a3, emp_eq a4, emp_eq b3, emp_eq b4]
  rw [txMods, txMods] at h
  rw [mods_cut l l' (List.all_eq_true.1 a5) (List.all_eq_true.1 b5) h]
end Go.Proofs.YtcallgoglnkkiaaGreatDoor
