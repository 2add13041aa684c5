/- Layer 6: all tokens of a text, as plain facts on lists of bytes: two texts joined; blanks put between. -/
import Derived.Test.YtkaijnbefbggeaaDoorScanP
set_option linter.unusedVariables false
namespace Go.Proofs.YtkaijnbefbggeaaDoor
open Go.RowKit

/-- A token: its kind, number, bytes, place, and how many bytes it takes. -/
structure PT where
  k : Int
  n : Int
  s : List UInt8
  a : Nat
  e : Nat
/-- All tokens from the place o on, which is where l begins; and the first flaw. -/
def scanL : Nat → Nat → List UInt8 → List PT × Option (Int × Nat)
  | 0, _, _ => ([], none)
  | f + 1, o, l =>
    match l.drop (blk false l) with
    | [] => ([], none)
    | c :: t =>
      match tokL (c :: t) with
      | .bad e => ([], some (e, o + blk false l))
      | .tok k n len sl => (⟨k, n, (c :: t).take sl, o + blk false l, len⟩ :: (scanL f (o + blk false l + len) ((c :: t).drop len)).1, (scanL f (o + blk false l + len) ((c :: t).drop len)).2)

/-- A token ends ahead of this. -/
def Sp (x : List UInt8) : Prop := ∀ c t, x = c :: t → c.toNat = 10 ∨ c.toNat = 32
theorem Sp.nil : Sp [] := fun c t h => by cases h
theorem Sp.kind {c : UInt8} {t : List UInt8} (h : Sp (c :: t)) : kindN (c.toNat : Int) = 0 := by
  rcases h c t rfl with e | e <;> rw [e] <;> decide
theorem Sp.dig {c : UInt8} {t : List UInt8} (h : Sp (c :: t)) : isDig c = false := by
  rcases h c t rfl with e | e <;> (unfold isDig; rw [e]; decide)

theorem dg_ext {x : List UInt8} (hx : Sp x) : ∀ r : List UInt8, dg (r ++ x) = dg r
  | [] => by
    cases x with
    | nil => rfl
    | cons c t => rw [List.nil_append, dg_cons, hx.dig]; rfl
  | c :: r => by rw [List.cons_append, dg_cons, dg_cons, dg_ext hx r]
theorem vl_ext (r x : List UInt8) {d : Nat} (h : d ≤ r.length) : vl (r ++ x) d = vl r d := by unfold vl; rw [List.take_append_of_le_length h]
theorem prefL_ext {x : List UInt8} (hx : Sp x) : ∀ r : List UInt8, prefL (r ++ x) = prefL r
  | [] => by
    cases x with
    | nil => rfl
    | cons c t => simp [prefL, hx.kind]
  | c :: r => by rw [List.cons_append, prefL, prefL, prefL_ext hx r]
theorem mark_ext {x : List UInt8} (hx : Sp x) (c : UInt8) (r : List UInt8) : markL (c :: r ++ x) = markL (c :: r) := by
  have t3 : ∀ u v : UInt8, v.toNat ≠ 10 ∧ v.toNat ≠ 32 → u.toNat ≠ 10 ∧ u.toNat ≠ 32 → ∀ z : UInt8, ((c :: r ++ x).take 3 = [z, u, v] ↔ (c :: r).take 3 = [z, u, v]) := by
    intro u v hv hu z
    match r with
    | [] =>
      match x, hx with
      | [], _ => simp
      | [a], hx => simp
      | a :: b :: t, hx =>
        have := hx a (b :: t) rfl
        simp only [List.cons_append, List.nil_append, List.take_succ_cons, List.take_zero, List.cons.injEq, and_true, List.take_nil]
        constructor
        · rintro ⟨_, rfl, _⟩; omega
        · rintro ⟨_, h⟩; cases h
    | [d] =>
      match x, hx with
      | [], _ => simp
      | a :: t, hx =>
        have := hx a t rfl
        simp only [List.cons_append, List.nil_append, List.take_succ_cons, List.take_zero, List.cons.injEq, and_true, List.take_nil]
        constructor
        · rintro ⟨_, _, rfl⟩; omega
        · rintro ⟨_, _, h⟩; cases h
    | d :: e :: r' => simp
  have t2 : ∀ v : UInt8, v.toNat ≠ 10 ∧ v.toNat ≠ 32 → ∀ z : UInt8, ((c :: r ++ x).take 2 = [z, v] ↔ (c :: r).take 2 = [z, v]) := by
    intro v hv z
    match r with
    | [] =>
      match x, hx with
      | [], _ => simp
      | a :: t, hx =>
        have := hx a t rfl
        simp only [List.cons_append, List.nil_append, List.take_succ_cons, List.take_zero, List.cons.injEq, and_true, List.take_nil]
        constructor
        · rintro ⟨_, rfl⟩; omega
        · rintro ⟨_, h⟩; cases h
    | d :: r' => simp
  unfold markL
  simp only [t3 58 61 (by decide) (by decide), t3 47 61 (by decide) (by decide), t2 62 (by decide), t2 60 (by decide), t2 61 (by decide)]
  rfl

/-- What follows a token changes it not. -/
theorem tokL_ext {x : List UInt8} (hx : Sp x) (c : UInt8) (r : List UInt8) : tokL (c :: r ++ x) = tokL (c :: r) := by
  have h1 := dg_ext hx (c :: r)
  have h2 := prefL_ext hx (c :: r)
  have h3 := mark_ext hx c r
  have h4 := vl_ext (c :: r) x (dg_le (c :: r))
  have h5 : (c :: r ++ x).take (prefL (c :: r)) = (c :: r).take (prefL (c :: r)) := List.take_append_of_le_length (prefL_le _)
  rw [List.cons_append] at h1 h2 h3 h4 h5 ⊢
  simp only [tokL, h1, h2, h3, h4, h5]

theorem dg_take : ∀ r : List UInt8, dg (r.take (dg r)) = dg r
  | [] => rfl
  | c :: r => by
    rw [dg_cons]
    split
    · rename_i h
      rw [List.take_succ_cons, dg_cons, if_pos h, dg_take r]
    · rfl
theorem prefL_take : ∀ r : List UInt8, prefL (r.take (prefL r)) = prefL r
  | [] => rfl
  | c :: r => by
    rw [prefL]
    split
    · rfl
    · rename_i h
      rw [List.take_succ_cons, prefL, if_neg h, prefL_take r]
theorem vl_take (r : List UInt8) (d : Nat) : vl (r.take d) d = vl r d := by unfold vl; rw [List.take_take, Nat.min_self]
theorem mark_take (c : UInt8) (r : List UInt8) : markL ((c :: r).take (markL (c :: r))) = markL (c :: r) := by
  by_cases h : (c :: r).take 3 = [61, 58, 61] ∨ (c :: r).take 3 = [61, 47, 61]
  · have e : markL (c :: r) = 3 := by unfold markL; rw [if_pos h]
    rw [e]
    rcases h with h | h <;> rw [h] <;> rfl
  by_cases h2 : (c :: r).take 2 = [45, 62] ∨ (c :: r).take 2 = [61, 60] ∨ (c :: r).take 2 = [62, 61]
  · have e : markL (c :: r) = 2 := by unfold markL; rw [if_neg h, if_pos h2]
    rw [e]
    rcases h2 with h2 | h2 | h2 <;> rw [h2] <;> rfl
  by_cases h3 : oneL c = true
  · have e : markL (c :: r) = 1 := by unfold markL; rw [if_neg h, if_neg h2]; simp [h3]
    rw [e]
    show markL [c] = 1
    unfold markL
    rw [if_neg (by simp), if_neg (by simp)]
    simp [h3]
  · have e : markL (c :: r) = 0 := by unfold markL; rw [if_neg h, if_neg h2]; simp [h3]
    rw [e]
    rfl

/-- How long a token is, and how much of it it says. -/
theorem tokL_len {r : List UInt8} {k n : Int} {len sl : Nat} (h : tokL r = .tok k n len sl) : 1 ≤ len ∧ len ≤ r.length ∧ sl ≤ len := by
  cases r with
  | nil => simp [tokL] at h
  | cons c t =>
    unfold tokL at h
    dsimp only at h
    split at h
    · rename_i hd
      split at h
      · cases h
      · simp only [SR.tok.injEq] at h
        obtain ⟨-, -, rfl, rfl⟩ := h
        have := dg_le (c :: t)
        rw [dg_cons, if_pos hd] at this ⊢
        omega
    · split at h
      · rename_i hk
        split at h
        · cases h
        · simp only [SR.tok.injEq] at h
          obtain ⟨-, -, rfl, rfl⟩ := h
          have := prefL_le (c :: t)
          rw [prefL, if_neg hk] at this ⊢
          omega
      · split at h
        · simp only [SR.tok.injEq] at h
          obtain ⟨-, -, rfl, rfl⟩ := h
          simp
        · split at h
          · cases h
          · simp only [SR.tok.injEq] at h
            obtain ⟨-, -, rfl, rfl⟩ := h
            have := markL_le (c :: t)
            omega

/-- A token's bytes alone are that token. -/
theorem tokL_take {c : UInt8} {t : List UInt8} {k n : Int} {len sl : Nat} (h : tokL (c :: t) = .tok k n len sl) : tokL ((c :: t).take len) = .tok k n len sl := by
  have h0 := h
  unfold tokL at h
  dsimp only at h
  split at h
  · rename_i hd
    split at h
    · cases h
    · rename_i hv
      simp only [SR.tok.injEq] at h
      obtain ⟨rfl, rfl, rfl, rfl⟩ := h
      have h1 := dg_take (c :: t)
      have h2 := vl_take (c :: t) (dg (c :: t))
      have h3 : dg (c :: t) = dg t + 1 := by rw [dg_cons, if_pos hd]
      rw [h3] at h1 h2 hv ⊢
      rw [List.take_succ_cons] at h1 h2 ⊢
      simp only [tokL, hd, if_true, h1, h2, if_neg hv]
  · rename_i hd
    split at h
    · rename_i hk
      split at h
      · cases h
      · rename_i h32
        simp only [SR.tok.injEq] at h
        obtain ⟨rfl, rfl, rfl, rfl⟩ := h
        have h1 := prefL_take (c :: t)
        have h3 : prefL (c :: t) = prefL t + 1 := by rw [prefL, if_neg hk]
        have h4 : ((c :: t).take (prefL t + 1)).take (prefL t + 1) = (c :: t).take (prefL t + 1) := by rw [List.take_take, Nat.min_self]
        rw [h3] at h1 h32 ⊢
        rw [List.take_succ_cons] at h1 h4 ⊢
        simp only [tokL, h1, h4, if_neg h32]
        rw [if_neg hd, if_pos hk]
    · rename_i hk
      split at h
      · rename_i h46
        simp only [SR.tok.injEq] at h
        obtain ⟨rfl, rfl, rfl, rfl⟩ := h
        rw [List.take_succ_cons, List.take_zero]
        simp only [tokL]
        rw [if_neg hd, if_neg hk, if_pos h46]
      · rename_i h46
        split at h
        · cases h
        · rename_i hm
          simp only [SR.tok.injEq] at h
          obtain ⟨rfl, rfl, rfl, rfl⟩ := h
          have h1 := mark_take c t
          obtain ⟨m, h2⟩ : ∃ m, markL (c :: t) = m + 1 := ⟨markL (c :: t) - 1, by omega⟩
          rw [h2] at h1 hm ⊢
          rw [List.take_succ_cons] at h1 ⊢
          simp only [tokL, h1]
          rw [if_neg hd, if_neg hk, if_neg h46, if_neg hm]

/-- Enough steps are enough. -/
theorem scanL_fuel : ∀ (f g o : Nat) (l : List UInt8), l.length ≤ f → l.length ≤ g → scanL f o l = scanL g o l
  | 0, 0, _, _, _, _ => rfl
  | 0, g + 1, o, l, hf, _ => by
    have : l = [] := List.length_eq_zero_iff.1 (by omega)
    subst this
    simp [scanL, blk]
  | f + 1, 0, o, l, _, hg => by
    have : l = [] := List.length_eq_zero_iff.1 (by omega)
    subst this
    simp [scanL, blk]
  | f + 1, g + 1, o, l, hf, hg => by
    rw [scanL, scanL]
    cases hr : l.drop (blk false l) with
    | nil => rfl
    | cons c t =>
      dsimp only
      cases ht : tokL (c :: t) with
      | bad e => rfl
      | tok k n len sl =>
        have h1 := tokL_len ht
        have h2 : (c :: t).length = l.length - blk false l := by rw [← hr, List.length_drop]
        have h3 : ((c :: t).drop len).length ≤ f := by rw [List.length_drop]; omega
        have h4 : ((c :: t).drop len).length ≤ g := by rw [List.length_drop]; omega
        dsimp only
        rw [scanL_fuel f g _ _ h3 h4]

/-- Blanks ahead of a line feed and what follows it. -/
theorem blk_line (m : List UInt8) : ∀ (c : Bool) (l : List UInt8), blk c (l ++ 10 :: m) = if blk c l < l.length then blk c l else l.length + 1 + blk false m
  | true, [] => by simp [blk]; omega
  | false, [] => by simp [blk]; omega
  | true, b :: t => by
    have h1 := blk_line m false t
    have h2 := blk_line m true t
    have g1 := blk_le false t
    have g2 := blk_le true t
    simp only [List.cons_append, blk, List.length_cons, h1, h2]
    split <;> split <;> split <;> omega
  | false, b :: t => by
    have h1 := blk_line m false t
    have h2 := blk_line m true t
    have g1 := blk_le false t
    have g2 := blk_le true t
    simp only [List.cons_append, blk, List.length_cons, h1, h2]
    split <;> (try split) <;> (try split) <;> (try split) <;> omega
theorem sp_line (m : List UInt8) : Sp (10 :: m) := fun c t h => by
  injection h with h1
  subst h1
  exact .inl rfl

/-- Two texts with a line feed between. -/
theorem scan_line (m : List UInt8) : ∀ (f o : Nat) (l : List UInt8) (g h : Nat), l.length ≤ f → l.length + m.length + 1 ≤ g → m.length ≤ h →
    scanL g o (l ++ 10 :: m) = match (scanL f o l).2 with
      | some e => ((scanL f o l).1, some e)
      | none => ((scanL f o l).1 ++ (scanL h (o + l.length + 1) m).1, (scanL h (o + l.length + 1) m).2)
  | f, o, l, 0, h, hf, hg, hh => by omega
  | f, o, l, g + 1, h, hf, hg, hh => by
    rw [scanL, blk_line]
    have hle := blk_le false l
    by_cases hb : blk false l < l.length
    · rw [if_pos hb]
      cases f with
      | zero => omega
      | succ f =>
        rw [scanL]
        have hd : (l ++ 10 :: m).drop (blk false l) = l.drop (blk false l) ++ 10 :: m := by rw [List.drop_append_of_le_length hle]
        rw [hd]
        have hlen : (l.drop (blk false l)).length = l.length - blk false l := List.length_drop
        cases hr : l.drop (blk false l) with
        | nil => rw [hr] at hlen; simp at hlen; omega
        | cons c t =>
          rw [hr] at hlen
          have ht := tokL_ext (sp_line m) c t
          rw [List.cons_append] at ht ⊢
          dsimp only
          rw [ht]
          cases hk : tokL (c :: t) with
          | bad e => rfl
          | tok k n len sl =>
            have h1 := tokL_len hk
            dsimp only
            have e1 : (c :: (t ++ 10 :: m)).take sl = (c :: t).take sl := by rw [← List.cons_append, List.take_append_of_le_length (by omega)]
            have e2 : (c :: (t ++ 10 :: m)).drop len = (c :: t).drop len ++ 10 :: m := by rw [← List.cons_append, List.drop_append_of_le_length (by omega)]
            have h3 : ((c :: t).drop len).length = l.length - blk false l - len := by rw [List.length_drop, hlen]
            have ih := scan_line m f (o + blk false l + len) ((c :: t).drop len) g h (by omega) (by omega) hh
            rw [e1, e2, ih, h3, show o + blk false l + len + (l.length - blk false l - len) + 1 = o + l.length + 1 by omega]
            cases (scanL f (o + blk false l + len) ((c :: t).drop len)).2 with
            | some e => rfl
            | none => rfl
    · rw [if_neg hb]
      have hbl : blk false l = l.length := by omega
      have hs : scanL f o l = ([], none) := by
        cases f with
        | zero => rfl
        | succ f => rw [scanL, hbl, List.drop_length]
      rw [hs]
      dsimp only
      have hd : (l ++ 10 :: m).drop (l.length + 1 + blk false m) = m.drop (blk false m) := by
        rw [show l.length + 1 + blk false m = l.length + (1 + blk false m) by omega, List.drop_append, List.drop_eq_nil_of_le (by omega), List.nil_append, show l.length + (1 + blk false m) - l.length = blk false m + 1 by omega, List.drop_succ_cons]
      rw [hd, List.nil_append]
      have hfu := scanL_fuel h (g + 1) (o + l.length + 1) m hh (by omega)
      rw [hfu, scanL, show o + (l.length + 1 + blk false m) = o + l.length + 1 + blk false m by omega]
      try rfl

/-- The same text further on. -/
def PT.on (d : Nat) (t : PT) : PT := ⟨t.k, t.n, t.s, t.a + d, t.e⟩
theorem scan_shift (d : Nat) : ∀ (f o : Nat) (l : List UInt8), scanL f (o + d) l = ((scanL f o l).1.map (PT.on d), (scanL f o l).2.map fun e => (e.1, e.2 + d))
  | 0, o, l => rfl
  | f + 1, o, l => by
    rw [scanL, scanL]
    cases l.drop (blk false l) with
    | nil => rfl
    | cons c t =>
      dsimp only
      cases tokL (c :: t) with
      | bad e => simp; omega
      | tok k n len sl =>
        dsimp only
        rw [show o + d + blk false l + len = o + blk false l + len + d by omega, scan_shift d f (o + blk false l + len)]
        simp only [List.map_cons, PT.on]
        rw [show o + d + blk false l = o + blk false l + d by omega]
theorem tokL_bad {l : List UInt8} {e : Int} (h : tokL l = .bad e) : e = 60 ∨ e = 11 := by
  unfold tokL at h
  split at h
  · cases h; exact .inl rfl
  · split at h
    · split at h
      · cases h; exact .inr rfl
      · cases h
    · split at h
      · split at h
        · cases h; exact .inr rfl
        · cases h
      · split at h
        · cases h
        · split at h
          · cases h; exact .inl rfl
          · cases h
theorem scan_bad : ∀ (f o : Nat) (l : List UInt8) (e : Int) (a : Nat), (scanL f o l).2 = some (e, a) → (e = 60 ∨ e = 11) ∧ a < o + l.length
  | 0, o, l, e, a, h => by cases h
  | f + 1, o, l, e, a, h => by
    rw [scanL] at h
    have hle := blk_le false l
    have hlen : (l.drop (blk false l)).length = l.length - blk false l := List.length_drop
    cases hr : l.drop (blk false l) with
    | nil => rw [hr] at h; cases h
    | cons c t =>
      rw [hr] at h hlen
      dsimp only at h
      simp only [List.length_cons] at hlen
      cases hk : tokL (c :: t) with
      | bad e' =>
        rw [hk] at h
        cases h
        exact ⟨tokL_bad hk, by omega⟩
      | tok k n len sl =>
        rw [hk] at h
        have h1 := tokL_len hk
        simp only [List.length_cons] at h1
        obtain ⟨i1, i2⟩ := scan_bad f _ _ e a h
        refine ⟨i1, ?_⟩
        rw [List.length_drop, List.length_cons] at i2
        omega
theorem scan_count : ∀ (f o : Nat) (l : List UInt8), (scanL f o l).1.length ≤ l.length ∧ ∀ t ∈ (scanL f o l).1, t.a ≤ o + l.length
  | 0, o, l => by simp [scanL]
  | f + 1, o, l => by
    rw [scanL]
    have hle := blk_le false l
    have hlen : (l.drop (blk false l)).length = l.length - blk false l := List.length_drop
    cases hr : l.drop (blk false l) with
    | nil => simp
    | cons c t =>
      rw [hr] at hlen
      simp only [List.length_cons] at hlen
      dsimp only
      cases hk : tokL (c :: t) with
      | bad e => simp
      | tok k n len sl =>
        have h1 := tokL_len hk
        simp only [List.length_cons] at h1
        obtain ⟨i1, i2⟩ := scan_count f (o + blk false l + len) ((c :: t).drop len)
        rw [List.length_drop, List.length_cons] at i1 i2
        dsimp only
        refine ⟨by simp only [List.length_cons]; omega, fun x hx => ?_⟩
        rcases List.mem_cons.1 hx with rfl | hx
        · show o + blk false l ≤ _; omega
        · have := i2 x hx; omega

/-- A row of tokens' bytes, blanks ahead of each. -/
structure PW where
  n : Nat
  k : Int
  v : Int
  p : List UInt8
  sl : Nat
def wideL : List PW → List UInt8
  | [] => []
  | q :: l => List.replicate q.n 32 ++ (q.p ++ wideL l)
theorem wide_sp : ∀ l : List PW, (∀ q ∈ l, 1 ≤ q.n) → Sp (wideL l)
  | [], _ => Sp.nil
  | q :: l, h => by
    have h1 := h q (by simp)
    obtain ⟨m, hm⟩ : ∃ m, q.n = m + 1 := ⟨q.n - 1, by omega⟩
    intro c t e
    rw [wideL, hm, List.replicate_succ, List.cons_append] at e
    injection e with e1
    subst e1
    exact .inr rfl
theorem blk_rep (x : List UInt8) : ∀ n : Nat, blk false (List.replicate n 32 ++ x) = n + blk false x
  | 0 => by simp
  | n + 1 => by
    rw [List.replicate_succ, List.cons_append, blk, if_pos (.inl rfl), blk_rep x n]; omega
theorem tok_noblank {c : UInt8} {t : List UInt8} {k n : Int} {len sl : Nat} (h : tokL (c :: t) = .tok k n len sl) : ∀ x, blk false (c :: x) = 0 := by
  intro x
  have hne : c.toNat ≠ 32 ∧ c.toNat ≠ 9 ∧ c.toNat ≠ 10 ∧ c.toNat ≠ 13 ∧ c.toNat ≠ 37 := by
    have key : ∀ v : Nat, v = 32 ∨ v = 9 ∨ v = 10 ∨ v = 13 ∨ v = 37 → c.toNat ≠ v := by
      intro v hv e
      have hc : c = UInt8.ofNat v := by rw [← e]; simp
      have hd : isDig c = false := by rw [hc]; rcases hv with rfl | rfl | rfl | rfl | rfl <;> decide
      have hk : kindN (c.toNat : Int) = 0 := by rw [e]; rcases hv with rfl | rfl | rfl | rfl | rfl <;> decide
      have hm : markL (c :: t) = 0 := by
        have ho : oneL c = false := by rw [hc]; rcases hv with rfl | rfl | rfl | rfl | rfl <;> decide
        unfold markL
        have n3 : ∀ u w : UInt8, ∀ z : UInt8, z ≠ c → ¬ (c :: t).take 3 = [z, u, w] := fun u w z hz e => by
          rw [List.take_succ_cons] at e; injection e with e1; exact hz e1.symm
        have n2 : ∀ w : UInt8, ∀ z : UInt8, z ≠ c → ¬ (c :: t).take 2 = [z, w] := fun w z hz e => by
          rw [List.take_succ_cons] at e; injection e with e1; exact hz e1.symm
        have z61 : (61 : UInt8) ≠ c := by rw [hc]; rcases hv with rfl | rfl | rfl | rfl | rfl <;> decide
        have z45 : (45 : UInt8) ≠ c := by rw [hc]; rcases hv with rfl | rfl | rfl | rfl | rfl <;> decide
        have z62 : (62 : UInt8) ≠ c := by rw [hc]; rcases hv with rfl | rfl | rfl | rfl | rfl <;> decide
        rw [if_neg (by rintro (e | e); exact n3 _ _ _ z61 e; exact n3 _ _ _ z61 e), if_neg (by rintro (e | e | e); exact n2 _ _ z45 e; exact n2 _ _ z61 e; exact n2 _ _ z62 e)]
        simp [ho]
      unfold tokL at h
      dsimp only at h
      rw [if_neg (by rw [hd]; decide), if_neg (by rw [hk]; decide), if_neg (by rw [e]; rcases hv with rfl | rfl | rfl | rfl | rfl <;> decide), if_pos hm] at h
      cases h
    exact ⟨key _ (by simp), key _ (by simp), key _ (by simp), key _ (by simp), key _ (by simp)⟩
  rw [blk, if_neg (by omega), if_neg (by omega)]

/-- What such a row reads as. -/
theorem scan_wide : ∀ (l : List PW) (f o : Nat), (∀ q ∈ l, 1 ≤ q.n ∧ tokL q.p = .tok q.k q.v q.p.length q.sl) → (wideL l).length ≤ f →
    (scanL f o (wideL l)).2 = none ∧ (scanL f o (wideL l)).1.map (fun t => (t.k, t.n, t.s)) = l.map (fun q => (q.k, q.v, q.p.take q.sl))
  | [], f, o, _, _ => by
    cases f with
    | zero => exact ⟨rfl, rfl⟩
    | succ f => simp [scanL, wideL, blk]
  | q :: l, f, o, hq, hf => by
    obtain ⟨h1, h2⟩ := hq q (by simp)
    have hl := tokL_len h2
    cases hp : q.p with
    | nil => rw [hp] at hl; simp at hl
    | cons c t =>
      rw [hp] at h2 hl
      have hw : wideL (q :: l) = List.replicate q.n 32 ++ (c :: t ++ wideL l) := by rw [wideL, hp]
      have hb : blk false (wideL (q :: l)) = q.n := by
        rw [hw, blk_rep, List.cons_append, tok_noblank h2]
        try rfl
      have hd : (wideL (q :: l)).drop (blk false (wideL (q :: l))) = c :: (t ++ wideL l) := by
        rw [hb, hw, List.drop_left' (by simp)]
        try rfl
      have ht : tokL (c :: (t ++ wideL l)) = .tok q.k q.v (c :: t).length q.sl := by
        have := tokL_ext (wide_sp l (fun x hx => (hq x (by simp [hx])).1)) c t
        rw [List.cons_append] at this
        rw [this, h2]
      cases f with
      | zero =>
        have : (wideL (q :: l)).length = 0 := by omega
        rw [hw] at this
        simp at this
      | succ f =>
        rw [scanL, hd]
        dsimp only
        rw [ht]
        dsimp only
        have e2 : (c :: (t ++ wideL l)).drop (c :: t).length = wideL l := by
          rw [← List.cons_append, List.drop_left' rfl]
        have e1 : (c :: (t ++ wideL l)).take q.sl = (c :: t).take q.sl := by
          rw [← List.cons_append, List.take_append_of_le_length (by omega)]
        have hlen : (wideL l).length ≤ f := by
          have : (wideL (q :: l)).length = q.n + ((c :: t).length + (wideL l).length) := by rw [hw]; simp; omega
          omega
        obtain ⟨i1, i2⟩ := scan_wide l f (o + blk false (wideL (q :: l)) + (c :: t).length) (fun x hx => hq x (by simp [hx])) hlen
        rw [e1, e2]
        exact ⟨i1, by rw [List.map_cons, List.map_cons, i2, hp]⟩
end Go.Proofs.YtkaijnbefbggeaaDoor
