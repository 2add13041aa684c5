/- Two contracts of one call meet: a run has one end. The order of terms, on plain terms: it is none but between equals; it turns round; it goes on. A value holds one term. -/
import Derived.Calls
import Derived.Test.YtohbljgagbnjoaaDoorOrd
import Derived.Test.YtohbljgagbnjoaaDoorTextT
set_option linter.unusedVariables false
namespace Go.Proofs.YtohbljgagbnjoaaDoor
open Go

theorem runN_add (P : Program) (a b : Nat) (m m1 : Machine) (h : runN P a m = .next m1) : runN P (a + b) m = runN P b m1 := by
  induction a generalizing m with
  | zero => simp only [runN] at h; injection h with h; subst h; rw [Nat.zero_add]
  | succ a ih =>
    rw [Nat.succ_add]
    simp only [runN] at h ⊢
    split at h
    · rename_i m2 he; exact ih m2 h
    · rename_i hne; exact absurd h (hne _)

/-- A frame that goes nowhere. -/
def halted : Frame := { fn := 0, tmps := #[], todo := [.code (.goto 0)], defers := [], mode := .run, kind := .normal }

theorem halted_stays (P : Program) (v : Value) (w : World) : ∃ o w', step P (lone (halted.finish v) [] w) = .ended o w' := by
  have h : ∃ o w', (stepG P true { frame := halted.finish v, callers := [], status := .running, dying := none } w).bare = .ended o w' := by
    simp [halted, Frame.finish, stepG, stepG.exec, gotoIn]
  obtain ⟨o, w', h⟩ := h
  exact ⟨o, w', step_lone_ended h⟩

theorem both {P : Program} {f : FuncId} {args : Array Value} {w : World} {R S : Ending → World → Prop} (h : Calls P f args w R) (h' : Calls P f args w S)
    (hR : ∀ e w', R e w' → ∃ v, e = .returned v) (hS : ∀ e w', S e w' → ∃ v, e = .returned v) : ∃ v w', R (.returned v) w' ∧ S (.returned v) w' := by
  obtain ⟨e1, w1, f1, r1, c1, k1, l1⟩ := h [halted]
  obtain ⟨e2, w2, f2, r2, c2, k2, l2⟩ := h' [halted]
  obtain ⟨v1, rfl⟩ := hR _ _ r1
  obtain ⟨v2, rfl⟩ := hS _ _ r2
  obtain ⟨a, ha⟩ := c1
  obtain ⟨b, hb⟩ := c2
  -- one is ahead of the other
  have key : ∀ (x y : Nat) (fx fy : Frame) (wx wy : World) (v : Value), runN P x (lone (Frame.enter P f args .normal) [halted] w) = .next (lone fx [halted] wx) → runN P y (lone (Frame.enter P f args .normal) [halted] w) = .next (lone fy [halted] wy) → fx.leaving P wx (.returned v) → x ≤ y → fx = fy ∧ wx = wy := by
    intro x y fx fy wx wy v hx hy hl hle
    obtain ⟨d, rfl⟩ : ∃ d, y = x + d := ⟨y - x, by omega⟩
    rw [runN_add P x d _ _ hx] at hy
    cases d with
    | zero =>
      simp only [runN] at hy
      injection hy with hy
      simp only [lone, Machine.mk.injEq] at hy
      obtain ⟨h1, h2, -⟩ := hy
      simp at h2
      exact ⟨h2, h1⟩
    | succ d =>
      simp only [runN, step_leave_returned hl] at hy
      cases d with
      | zero =>
        simp only [runN] at hy
        injection hy with hy
        simp only [lone, Machine.mk.injEq] at hy
        obtain ⟨_, h2, -⟩ := hy
        simp at h2
      | succ d =>
        obtain ⟨o, w', he⟩ := halted_stays P v wx
        simp only [runN, he] at hy
        cases hy
  have hfw : f1 = f2 ∧ w1 = w2 := by
    rcases Nat.le_total a b with hab | hab
    · exact key a b f1 f2 w1 w2 v1 ha hb l1 hab
    · obtain ⟨x, y⟩ := key b a f2 f1 w2 w1 v2 hb ha l2 hab
      exact ⟨x.symm, y.symm⟩
  obtain ⟨rfl, rfl⟩ := hfw
  obtain ⟨-, -, -, fn, hf, hr⟩ := l1
  obtain ⟨-, -, -, fn', hf', hr'⟩ := l2
  rw [hf] at hf'
  injection hf' with hf'
  subst hf'
  rw [hr] at hr'
  injection hr' with hv _
  subst hv
  exact ⟨_, _, r1, r2⟩
end Go.Proofs.YtohbljgagbnjoaaDoor
set_option linter.unusedVariables false
namespace Go.Proofs.YtohbljgagbnjoaaDoor
open Go.RowKit

theorem cmpI_neg (a b : Int) : cmpI b a = - cmpI a b := by
  unfold cmpI
  by_cases h1 : a < b
  · have h2 : ¬ b < a := by omega
    simp [h1, h2]
  · by_cases h2 : b < a <;> simp [h1, h2]
theorem cmpI_zero {a b : Int} : cmpI a b = 0 ↔ a = b := by
  unfold cmpI
  by_cases h1 : a < b
  · simp [h1]; omega
  · by_cases h2 : b < a <;> simp [h1, h2] <;> omega
theorem cmpI_neg1 {a b : Int} : cmpI a b < 0 ↔ a < b := by
  unfold cmpI
  by_cases h1 : a < b
  · simp [h1]
  · by_cases h2 : b < a <;> simp [h1, h2]

/-- How two rows of bytes stand to each other. -/
def cL (l m : List UInt8) : Int := if Op.bytesLess l m = true then -1 else if l = m then 0 else 1
theorem cL_cons (a b : UInt8) (l m : List UInt8) : cL (a :: l) (b :: m) = if a < b then -1 else if b < a then 1 else cL l m := by
  unfold cL
  rw [Op.bytesLess]
  by_cases h1 : a < b
  · simp [h1]
  · by_cases h2 : b < a
    · have hne : a ≠ b := fun e => by subst e; exact h1 h2
      simp [h1, h2, hne]
    · have he : a = b := by
        rw [UInt8.lt_iff_toNat_lt] at h1 h2
        exact UInt8.toNat_inj.1 (by omega)
      subst he
      simp [h1]
theorem cL_zero {l : List UInt8} : ∀ {m : List UInt8}, cL l m = 0 ↔ l = m := by
  induction l with
  | nil =>
    intro m; cases m with
    | nil => simp [cL, Op.bytesLess]
    | cons b m => simp [cL, Op.bytesLess]
  | cons a l ih =>
    intro m
    cases m with
    | nil => simp [cL, Op.bytesLess]
    | cons b m =>
      rw [cL_cons]
      by_cases h1 : a < b
      · have hne : a ≠ b := fun e => by subst e; rw [UInt8.lt_iff_toNat_lt] at h1; omega
        simp [h1, hne]
      · by_cases h2 : b < a
        · have hne : a ≠ b := fun e => by subst e; exact h1 h2
          simp [h1, h2, hne]
        · have he : a = b := by
            rw [UInt8.lt_iff_toNat_lt] at h1 h2
            exact UInt8.toNat_inj.1 (by omega)
          subst he
          simp [h1, ih]
theorem cL_neg : ∀ l m : List UInt8, cL m l = - cL l m := by
  intro l
  induction l with
  | nil => intro m; cases m <;> simp [cL, Op.bytesLess]
  | cons a l ih =>
    intro m
    cases m with
    | nil => simp [cL, Op.bytesLess]
    | cons b m =>
      rw [cL_cons, cL_cons]
      by_cases h1 : a < b
      · have h2 : ¬ b < a := by rw [UInt8.lt_iff_toNat_lt] at h1 ⊢; omega
        simp [h1, h2]
      · by_cases h2 : b < a
        · simp [h1, h2]
        · simp [h1, h2, ih m]
theorem cL_trans : ∀ l m p : List UInt8, cL l m < 0 → cL m p < 0 → cL l p < 0 := by
  intro l
  induction l with
  | nil =>
    intro m p h h'
    cases p with
    | nil => cases m <;> simp [cL, Op.bytesLess] at h'
    | cons c p => simp [cL, Op.bytesLess]
  | cons a l ih =>
    intro m p h h'
    cases m with
    | nil => simp [cL, Op.bytesLess] at h
    | cons b m =>
      cases p with
      | nil => simp [cL, Op.bytesLess] at h'
      | cons c p =>
        rw [cL_cons] at h h' ⊢
        by_cases h1 : a < b
        · by_cases h3 : b < c
          · have : a < c := by rw [UInt8.lt_iff_toNat_lt] at *; omega
            simp [this]
          · by_cases h4 : c < b
            · simp [h3, h4] at h'
            · have : b = c := by rw [UInt8.lt_iff_toNat_lt] at h3 h4; exact UInt8.toNat_inj.1 (by omega)
              subst this; simp [h1]
        · by_cases h2 : b < a
          · simp [h1, h2] at h
          · have : a = b := by rw [UInt8.lt_iff_toNat_lt] at h1 h2; exact UInt8.toNat_inj.1 (by omega)
            subst this
            simp only [h1, if_false] at h
            by_cases h3 : a < c
            · simp [h3]
            · by_cases h4 : c < a
              · simp [h3, h4] at h'
              · simp only [h3, h4, if_false] at h' ⊢
                exact ih m p h h'
theorem cmpS_eq (a b : ByteArray) : cmpS a b = cL a.data.toList b.data.toList := by
  unfold cmpS cL
  rw [ByteArray.toList_eq, ByteArray.toList_eq]
theorem cmpS_neg (a b : ByteArray) : cmpS b a = - cmpS a b := by rw [cmpS_eq, cmpS_eq]; exact cL_neg _ _
theorem cmpS_zero {a b : ByteArray} : cmpS a b = 0 ↔ a = b := by
  rw [cmpS_eq, cL_zero]
  exact ⟨fun h => ByteArray.ext (Array.toList_inj.1 h), fun h => by rw [h]⟩
theorem cmpS_trans {a b c : ByteArray} (h : cmpS a b < 0) (h' : cmpS b c < 0) : cmpS a c < 0 := by rw [cmpS_eq] at *; exact cL_trans _ _ _ h h'

theorem or3 (a b c : Int) : orL [a, b, c] = if a = 0 then (if b = 0 then c else b) else a := by
  simp only [orL]
  by_cases h1 : a = 0 <;> by_cases h2 : b = 0 <;> by_cases h3 : c = 0 <;> simp [h1, h2, h3]

/-- The order turns round. -/
theorem ordN_neg (x : Tm) : ∀ y, ordN y x = - ordN x y := by
  induction x using Tm.ind with
  | h k n s t l ih =>
    intro y
    obtain ⟨k', n', s', t', m⟩ := y
    by_cases hk : k = k'
    · subst hk
      rw [ordN_eq, ordN_eq]
      by_cases h1 : k = 1
      · rw [if_pos h1, if_pos h1]; exact cmpS_neg _ _
      · rw [if_neg h1, if_neg h1]
        by_cases h3 : k = 3
        · rw [if_pos h3, if_pos h3, or3, or3, cmpS_neg s s', cmpS_neg t t', cmpI_neg n n']
          by_cases e1 : cmpS s s' = 0 <;> by_cases e2 : cmpS t t' = 0 <;> simp [e1, e2]
        · rw [if_neg h3, if_neg h3]
          by_cases h5 : k = 5 ∨ k = 7
          · rw [if_pos h5, if_pos h5]
            unfold ordR
            by_cases hl : l.length = m.length
            · rw [if_neg (by simpa using hl.symm), if_neg (by simpa using hl)]
              clear hl
              induction l generalizing m with
              | nil => cases m <;> simp [ordL]
              | cons a l ihl =>
                cases m with
                | nil => simp [ordL]
                | cons b m =>
                  rw [ordL, ordL, ih a (by simp) b]
                  by_cases e : ordN a b = 0
                  · simp [e]; exact ihl (fun x hx => ih x (by simp [hx])) m
                  · have e' : ¬ (- ordN a b = 0) := by omega
                    rw [if_neg e', if_neg e]
            · rw [if_pos (fun h => hl h.symm), if_pos hl]
              exact cmpI_neg _ _
          · rw [if_neg h5, if_neg h5]; exact cmpI_neg _ _
    · have e1 : ordN (.mk k n s t l) (.mk k' n' s' t' m) = cmpI k k' := by rw [ordN]; exact if_pos hk
      have e2 : ordN (.mk k' n' s' t' m) (.mk k n s t l) = cmpI k' k := by rw [ordN]; exact if_pos (fun h => hk h.symm)
      rw [e1, e2]; exact cmpI_neg _ _

theorem ordN_self (x : Tm) : ordN x x = 0 := by have := ordN_neg x x; omega

theorem valid_cases {k n : Int} {s t : ByteArray} {l : List Tm} (h : okB (.mk k n s t l) = true) :
    (k = 0 ∧ s = ⟨#[]⟩ ∧ t = ⟨#[]⟩ ∧ l = []) ∨ (k = 1 ∧ n = 0 ∧ t = ⟨#[]⟩ ∧ l = []) ∨ (k = 2 ∧ s = ⟨#[]⟩ ∧ t = ⟨#[]⟩ ∧ l = []) ∨ (k = 3 ∧ l = []) ∨ (k = 4 ∧ s = ⟨#[]⟩ ∧ t = ⟨#[]⟩ ∧ l = []) ∨
    (k = 5 ∧ n = 0 ∧ s = ⟨#[]⟩ ∧ t = ⟨#[]⟩) ∨ (k = 6 ∧ n = 0 ∧ s = ⟨#[]⟩ ∧ t = ⟨#[]⟩ ∧ l = []) ∨ (k = 7 ∧ n = 0 ∧ s = ⟨#[]⟩ ∧ t = ⟨#[]⟩ ∧ l.length = 2) := by
  by_cases h8 : k < 0 ∨ 7 < k
  · rw [show okB (.mk k n s t l) = okN k n s t l.length from rfl, okN_no h8] at h
    cases h
  · have h8 : k = 0 ∨ k = 1 ∨ k = 2 ∨ k = 3 ∨ k = 4 ∨ k = 5 ∨ k = 6 ∨ k = 7 := by omega
    have em : ∀ {u : ByteArray}, u.toList.isEmpty = true → u = ⟨#[]⟩ := fun {u} hu => by
      apply ByteArray.ext
      apply Array.toList_inj.1
      rw [← ByteArray.toList_eq]
      simpa using hu
    have nl : ((l.length : Int) == 0) = true → l = [] := fun hl => by
      have : (l.length : Int) = 0 := by simpa using hl
      exact List.length_eq_zero_iff.1 (by omega)
    rcases h8 with rfl | rfl | rfl | rfl | rfl | rfl | rfl | rfl
    · have h := (show ok_integer n s t l.length = true from h)
      unfold ok_integer at h; simp only [Bool.and_eq_true] at h
      exact .inl ⟨rfl, em h.1.1.2, em h.1.2, nl h.2⟩
    · have h := (show ok_atom n s t l.length = true from h)
      unfold ok_atom at h; simp only [Bool.and_eq_true] at h
      exact .inr (.inl ⟨rfl, beq_iff_eq.1 h.1.1.2, em h.1.2, nl h.2⟩)
    · have h := (show ok_ref n s t l.length = true from h)
      unfold ok_ref at h; simp only [Bool.and_eq_true] at h
      exact .inr (.inr (.inl ⟨rfl, em h.1.1.2, em h.1.2, nl h.2⟩))
    · have h := (show ok_fun n s t l.length = true from h)
      unfold ok_fun at h; simp only [Bool.and_eq_true] at h
      exact .inr (.inr (.inr (.inl ⟨rfl, nl h.2⟩)))
    · have h := (show ok_pid n s t l.length = true from h)
      unfold ok_pid at h; simp only [Bool.and_eq_true] at h
      exact .inr (.inr (.inr (.inr (.inl ⟨rfl, em h.1.1.2, em h.1.2, nl h.2⟩))))
    · have h := (show ok_tuple n s t l.length = true from h)
      unfold ok_tuple at h; simp only [Bool.and_eq_true] at h
      exact .inr (.inr (.inr (.inr (.inr (.inl ⟨rfl, beq_iff_eq.1 h.1.1, em h.1.2, em h.2⟩)))))
    · have h := (show ok_empty n s t l.length = true from h)
      unfold ok_empty at h; simp only [Bool.and_eq_true] at h
      exact .inr (.inr (.inr (.inr (.inr (.inr (.inl ⟨rfl, beq_iff_eq.1 h.1.1.1, em h.1.1.2, em h.1.2, nl h.2⟩))))))
    · have h := (show ok_cons n s t l.length = true from h)
      unfold ok_cons at h; simp only [Bool.and_eq_true] at h
      have : (l.length : Int) = 2 := by simpa using h.1.1.1
      exact .inr (.inr (.inr (.inr (.inr (.inr (.inr ⟨rfl, beq_iff_eq.1 h.1.1.2, em h.1.2, em h.2, by omega⟩))))))

/-- Between terms that may be the order is none but between equals. -/
theorem ordN_zero (x : Tm) : ∀ y, Valid x → Valid y → ordN x y = 0 → x = y := by
  induction x using Tm.ind with
  | h k n s t l ih =>
    intro y hx hy h0
    obtain ⟨k', n', s', t', m⟩ := y
    by_cases hk : k = k'
    · subst hk
      have rows : ∀ (l m : List Tm), (∀ x ∈ l, ∀ y, Valid x → Valid y → ordN x y = 0 → x = y) → (∀ x ∈ l, Valid x) → (∀ x ∈ m, Valid x) → ordR l m = 0 → l = m := by
        intro l m ih hl hm h
        unfold ordR at h
        by_cases hlen : l.length = m.length
        · rw [if_neg (by simpa using hlen)] at h
          induction l generalizing m with
          | nil => exact (List.length_eq_zero_iff.1 hlen.symm).symm
          | cons a l ihl =>
            cases m with
            | nil => simp at hlen
            | cons b m =>
              rw [ordL] at h
              by_cases e : ordN a b = 0
              · rw [if_pos e] at h
                rw [ih a (by simp) b (hl a (by simp)) (hm b (by simp)) e, ihl m (fun x hx => ih x (by simp [hx])) (fun x hx => hl x (by simp [hx])) (fun x hx => hm x (by simp [hx])) h (by simpa using hlen)]
              · rw [if_neg e] at h; exact absurd h e
        · rw [if_pos (by simpa using hlen)] at h
          have := cmpI_zero.1 h
          omega
      have hr := rows l m ih (fun y hy => hx.part hy) (fun z hz => hy.part hz)
      rw [ordN_eq] at h0
      rcases valid_cases hx.own with h | h | h | h | h | h | h | h <;> rcases valid_cases hy.own with h' | h' | h' | h' | h' | h' | h' | h'
      all_goals first
        | (exfalso; have h1 := h.1; have h2 := h'.1; omega)
        | skip
      · obtain ⟨rfl, rfl, rfl, rfl⟩ := h; obtain ⟨_, rfl, rfl, rfl⟩ := h'; simp at h0; rw [cmpI_zero.1 h0]
      · obtain ⟨rfl, rfl, rfl, rfl⟩ := h; obtain ⟨_, rfl, rfl, rfl⟩ := h'; simp at h0; rw [cmpS_zero.1 h0]
      · obtain ⟨rfl, rfl, rfl, rfl⟩ := h; obtain ⟨_, rfl, rfl, rfl⟩ := h'; simp at h0; rw [cmpI_zero.1 h0]
      · obtain ⟨rfl, rfl⟩ := h; obtain ⟨_, rfl⟩ := h'; simp [or3] at h0
        split at h0
        · rename_i e1
          split at h0
          · rename_i e2; rw [cmpS_zero.1 e1, cmpS_zero.1 e2, cmpI_zero.1 h0]
          · rename_i e2; exact absurd h0 e2
        · rename_i e1; exact absurd h0 e1
      · obtain ⟨rfl, rfl, rfl, rfl⟩ := h; obtain ⟨_, rfl, rfl, rfl⟩ := h'; simp at h0; rw [cmpI_zero.1 h0]
      · obtain ⟨rfl, rfl, rfl, rfl⟩ := h; obtain ⟨_, rfl, rfl, rfl⟩ := h'; simp at h0; rw [hr h0]
      · obtain ⟨rfl, rfl, rfl, rfl, rfl⟩ := h; obtain ⟨_, rfl, rfl, rfl, rfl⟩ := h'; rfl
      · obtain ⟨rfl, rfl, rfl, rfl, _⟩ := h; obtain ⟨_, rfl, rfl, rfl, _⟩ := h'; simp at h0; rw [hr h0]
    · have e1 : ordN (.mk k n s t l) (.mk k' n' s' t' m) = cmpI k k' := by rw [ordN]; exact if_pos hk
      rw [e1] at h0
      exact absurd (cmpI_zero.1 h0) hk

/-- The order goes on. -/
theorem ordN_trans (x : Tm) : ∀ y z, Valid x → Valid y → Valid z → ordN x y < 0 → ordN y z < 0 → ordN x z < 0 := by
  induction x using Tm.ind with
  | h k n s t l ih =>
    intro y z hx hy hz h1 h2
    obtain ⟨k', n', s', t', m⟩ := y
    obtain ⟨k'', n'', s'', t'', p⟩ := z
    have ne : ∀ (k k' n n' : Int) (s t s' t' : ByteArray) (l m : List Tm), k ≠ k' → ordN (.mk k n s t l) (.mk k' n' s' t' m) = cmpI k k' := fun k k' n n' s t s' t' l m h => by rw [ordN]; exact if_pos h
    by_cases e1 : k = k'
    · by_cases e2 : k' = k''
      · subst e1 e2
        rw [ordN_eq] at h1 h2 ⊢
        by_cases c1 : k = 1
        · rw [if_pos c1] at *; exact cmpS_trans h1 h2
        · rw [if_neg c1] at *
          by_cases c3 : k = 3
          · rw [if_pos c3, or3] at *
            by_cases a1 : cmpS s s' = 0
            · obtain rfl := cmpS_zero.1 a1
              rw [if_pos a1] at h1
              by_cases a2 : cmpS s s'' = 0
              · rw [if_pos a2] at h2 ⊢
                by_cases b1 : cmpS t t' = 0
                · obtain rfl := cmpS_zero.1 b1
                  rw [if_pos b1] at h1
                  by_cases b2 : cmpS t t'' = 0
                  · rw [if_pos b2] at h2 ⊢; rw [cmpI_neg1] at *; omega
                  · rw [if_neg b2] at h2 ⊢; exact h2
                · rw [if_neg b1] at h1
                  by_cases b2 : cmpS t' t'' = 0
                  · obtain rfl := cmpS_zero.1 b2
                    rw [if_neg b1]; exact h1
                  · rw [if_neg b2] at h2
                    have := cmpS_trans h1 h2
                    rw [if_neg (by omega)]; exact this
              · rw [if_neg a2] at h2 ⊢; exact h2
            · rw [if_neg a1] at h1
              by_cases a2 : cmpS s' s'' = 0
              · obtain rfl := cmpS_zero.1 a2
                rw [if_neg a1]; exact h1
              · rw [if_neg a2] at h2
                have := cmpS_trans h1 h2
                rw [if_neg (by omega)]; exact this
          · rw [if_neg c3] at *
            by_cases c5 : k = 5 ∨ k = 7
            · rw [if_pos c5] at *
              unfold ordR at *
              by_cases l1 : l.length = m.length
              · by_cases l2 : m.length = p.length
                · rw [if_neg (by simpa using l1)] at h1
                  rw [if_neg (by simpa using l2)] at h2
                  rw [if_neg (by simpa using l1.trans l2)]
                  have hvl : ∀ y ∈ l, Valid y := fun y hy => hx.part hy
                  have hvm : ∀ y ∈ m, Valid y := fun y h => hy.part h
                  have hvp : ∀ y ∈ p, Valid y := fun y h => hz.part h
                  clear hx hy hz l1 l2
                  induction l generalizing m p with
                  | nil => cases m <;> simp [ordL] at h1
                  | cons a l ihl =>
                    cases m with
                    | nil => simp [ordL] at h1
                    | cons b m =>
                      cases p with
                      | nil => simp [ordL] at h2
                      | cons c p =>
                        rw [ordL] at h1 h2 ⊢
                        by_cases a1 : ordN a b = 0
                        · obtain rfl := ordN_zero a b (hvl a (by simp)) (hvm b (by simp)) a1
                          rw [if_pos a1] at h1
                          by_cases a2 : ordN a c = 0
                          · rw [if_pos a2] at h2 ⊢
                            exact ihl (fun x hx => ih x (by simp [hx])) m p h1 h2 (fun x hx => hvl x (by simp [hx])) (fun x hx => hvm x (by simp [hx])) (fun x hx => hvp x (by simp [hx]))
                          · rw [if_neg a2] at h2 ⊢; exact h2
                        · rw [if_neg a1] at h1
                          by_cases a2 : ordN b c = 0
                          · obtain rfl := ordN_zero b c (hvm b (by simp)) (hvp c (by simp)) a2
                            rw [if_neg a1]; exact h1
                          · rw [if_neg a2] at h2
                            have := ih a (by simp) b c (hvl a (by simp)) (hvm b (by simp)) (hvp c (by simp)) h1 h2
                            rw [if_neg (by omega)]; exact this
                · rw [if_neg (by simpa using l1)] at h1
                  rw [if_pos (by simpa using l2), cmpI_neg1] at h2
                  rw [if_pos (by intro h; exact l2 (l1.symm.trans h)), cmpI_neg1]; omega
              · rw [if_pos (by simpa using l1), cmpI_neg1] at h1
                by_cases l2 : m.length = p.length
                · rw [if_pos (by intro h; exact l1 (h.trans l2.symm)), cmpI_neg1]; omega
                · rw [if_pos (by simpa using l2), cmpI_neg1] at h2
                  rw [if_pos (by intro h; omega), cmpI_neg1]; omega
            · rw [if_neg c5] at *; rw [cmpI_neg1] at *; omega
      · subst e1
        rw [ne _ _ _ _ _ _ _ _ _ _ e2] at h2 ⊢; exact h2
    · rw [ne _ _ _ _ _ _ _ _ _ _ e1, cmpI_neg1] at h1
      by_cases e2 : k' = k''
      · subst e2; rw [ne _ _ _ _ _ _ _ _ _ _ e1, cmpI_neg1]; exact h1
      · rw [ne _ _ _ _ _ _ _ _ _ _ e2, cmpI_neg1] at h2
        rw [ne _ _ _ _ _ _ _ _ _ _ (by omega), cmpI_neg1]; omega

/-- A value holds one term. -/
theorem TmAt.one {P Q : Nat → Prop} {w : World} {x : Tm} {v : Value} (h : TmAt P w x v) : ∀ {y : Tm}, TmAt Q w y v → x = y := by
  induction h with
  | @mk k n s t l A cap vs hk hn hs ht hl hcap hc hx ih =>
    intro y hy
    obtain ⟨k', n', s', t', m⟩ := y
    obtain ⟨A', cap', e, hR, -⟩ := hy.parts
    simp only [Value.agg.injEq, Array.mk.injEq, List.cons.injEq, and_true, Value.int.injEq, true_and, Value.string.injEq, Value.slice.injEq] at e
    obtain ⟨rfl, rfl, rfl, rfl, rfl, hlen, rfl⟩ := e
    congr 1
    apply List.ext_getElem? 
    intro j
    by_cases hj : j < l.length
    · have hj' : j < m.length := by omega
      have e1 := List.getElem?_eq_getElem hj
      have e2 := List.getElem?_eq_getElem hj'
      obtain ⟨ad, ea, _, hE⟩ := hc j hj
      obtain ⟨ad', u, ea', _, hE', hT'⟩ := hR.at_ j _ e2
      rw [ea] at ea'
      cases ea'
      have huv : u = vs j := by
        obtain ⟨c0, c1, c2, c3, c4, rfl, g0, g1, g2, g3, g4⟩ := hE'
        obtain ⟨d0, d1, d2, d3, d4, e5, f0, f1, f2, f3, f4⟩ := hE
        rw [e5]
        rw [f0] at g0; rw [f1] at g1; rw [f2] at g2; rw [f3] at g3; rw [f4] at g4
        cases g0; cases g1; cases g2; cases g3; cases g4; rfl
      subst huv
      rw [e1, e2, ih j _ e1 hT']
    · rw [List.getElem?_eq_none (by omega), List.getElem?_eq_none (by omega)]
end Go.Proofs.YtohbljgagbnjoaaDoor
