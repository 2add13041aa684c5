/- What scan.tokens goes over, as plain facts: the tokens, and behind them the first flaw. -/
import Derived.Test.YtkaijnbefbggeaaDoorScanW
set_option linter.unusedVariables false
namespace Go.Proofs.YtkaijnbefbggeaaDoor
open Go.RowKit

theorem blk_idem : ∀ (c : Bool) (l : List UInt8), blk false (l.drop (blk c l)) = 0
  | _, [] => by simp [blk]
  | true, b :: t => by
    by_cases h : b.toNat = 10
    · have e : blk true (b :: t) = blk false t + 1 := by simp [blk, h]
      rw [e, List.drop_succ_cons]; exact blk_idem false t
    · have e : blk true (b :: t) = blk true t + 1 := by simp [blk, h]
      rw [e, List.drop_succ_cons]; exact blk_idem true t
  | false, b :: t => by
    by_cases h : b.toNat = 32 ∨ b.toNat = 9 ∨ b.toNat = 10 ∨ b.toNat = 13
    · have e : blk false (b :: t) = blk false t + 1 := by simp only [blk]; rw [if_pos h]
      rw [e, List.drop_succ_cons]; exact blk_idem false t
    · by_cases h2 : b.toNat = 37
      · have e : blk false (b :: t) = blk true t + 1 := by simp only [blk]; rw [if_neg h, if_pos h2]
        rw [e, List.drop_succ_cons]; exact blk_idem true t
      · have e : blk false (b :: t) = 0 := by simp only [blk]; rw [if_neg h, if_neg h2]
        rw [e, List.drop_zero, e]
theorem next_blank {s : ByteArray} {o : Nat} (ho : o ≤ s.size) : nextR s (blankR s o) = nextR s o := by
  have hl := size_list s
  have hle := blk_le false (s.data.toList.drop o)
  rw [List.length_drop, hl] at hle
  have hB : blankR s o = ((o + blk false (s.data.toList.drop o) : Nat) : Int) := by unfold blankR; rw [if_neg (by omega), Int.toNat_natCast]
  have hB2 : blankR s (blankR s o) = blankR s o := by
    have hi := blk_idem false (s.data.toList.drop o)
    rw [List.drop_drop] at hi
    rw [hB]
    unfold blankR
    rw [if_neg (by omega), Int.toNat_natCast, hi]
    rfl
  have h1 : ¬ (blankR s o < 0 ∨ (s.size : Int) < blankR s o) := by rw [hB]; omega
  have h2 : ¬ ((o : Int) < 0 ∨ (s.size : Int) < (o : Int)) := by omega
  unfold nextR
  rw [if_neg h1, if_neg h2, hB2]

/-- The place behind o's blanks and, if a token begins there, the token; the flaw; or the end. -/
theorem go_tok {s : ByteArray} {o : Nat} (ho : o ≤ s.size) {x : PT} {xs : List PT} {fl : Option (Int × Nat)} (h : scanL s.size o (s.data.toList.drop o) = (x :: xs, fl)) :
    blankR s o = (x.a : Nat) ∧ x.a < s.size ∧ nextR s (x.a : Nat) = ⟨x.tk, (x.a + x.e : Nat), 0, 0⟩ ∧ o ≤ x.a ∧ 1 ≤ x.e ∧ x.a + x.e ≤ s.size ∧ scanL s.size (x.a + x.e) (s.data.toList.drop (x.a + x.e)) = (xs, fl) := by
  have hl := size_list s
  have hle := blk_le false (s.data.toList.drop o)
  rw [List.length_drop, hl] at hle
  obtain ⟨bb, hbb⟩ : ∃ bb, bb = blk false (s.data.toList.drop o) := ⟨_, rfl⟩
  cases hz : s.size with
  | zero => rw [hz] at h; cases h
  | succ f =>
    rw [hz, scanL, ← hbb] at h
    rw [← hbb] at hle
    have hlen : ((s.data.toList.drop o).drop bb).length = s.size - o - bb := by rw [List.length_drop, List.length_drop, hl]
    rw [List.drop_drop] at h hlen
    cases hr : s.data.toList.drop (o + bb) with
    | nil => rw [hr] at h; cases h
    | cons c t =>
      rw [hr] at h hlen
      dsimp only at h
      cases hk : tokL (c :: t) with
      | bad e => rw [hk] at h; cases h
      | tok k n len sl =>
        rw [hk] at h
        have h1 := tokL_len hk
        simp only [Prod.mk.injEq, List.cons.injEq] at h
        obtain ⟨⟨rfl, hxs⟩, hns⟩ := h
        dsimp only
        have hlt : o + bb < s.size := by simp only [List.length_cons] at hlen; omega
        have hB : blankR s o = ((o + bb : Nat) : Int) := by unfold blankR; rw [if_neg (by omega), Int.toNat_natCast, ← hbb]
        refine ⟨hB, by omega, ?_, by omega, h1.1, by omega, ?_⟩
        · rw [← hB, next_blank ho]
          unfold nextR
          rw [if_neg (by omega), if_neg (by rw [hB]; omega), hB, Int.toNat_natCast]
          unfold tokAt
          rw [hr, hk]
          dsimp only
          have es : (if sl = 0 then (⟨#[]⟩ : ByteArray) else s.extract (o + bb) (o + bb + sl)) = ⟨((c :: t).take sl).toArray⟩ := by
            split
            · rename_i h0; subst h0; rfl
            · apply ByteArray.ext
              apply Array.toList_inj.1
              rw [ext_list, List.drop_take, show o + bb + sl - (o + bb) = sl by omega, hr]
          rw [es]
          show NR.mk _ _ _ _ = NR.mk _ _ _ _
          rw [Int.natCast_add (o + bb) len]
          rfl
        · have hd : (c :: t).drop len = s.data.toList.drop (o + bb + len) := by rw [← hr, List.drop_drop]
          rw [hd] at hxs hns
          have hfu := scanL_fuel (f + 1) f (o + bb + len) (s.data.toList.drop (o + bb + len)) (by rw [List.length_drop, hl]; omega) (by rw [List.length_drop, hl]; omega)
          rw [hfu]
          exact Prod.ext hxs hns
theorem go_flaw {s : ByteArray} {o : Nat} (ho : o ≤ s.size) {e : Int} {a : Nat} (h : scanL s.size o (s.data.toList.drop o) = ([], some (e, a))) :
    blankR s o = (a : Nat) ∧ a < s.size ∧ nextR s (a : Nat) = ⟨tk0, (a : Nat), e, (a : Nat)⟩ ∧ (e = 11 ∨ e = 60) := by
  have hl := size_list s
  have hle := blk_le false (s.data.toList.drop o)
  rw [List.length_drop, hl] at hle
  obtain ⟨bb, hbb⟩ : ∃ bb, bb = blk false (s.data.toList.drop o) := ⟨_, rfl⟩
  cases hz : s.size with
  | zero => rw [hz] at h; cases h
  | succ f =>
    rw [hz, scanL, ← hbb] at h
    rw [← hbb] at hle
    have hlen : ((s.data.toList.drop o).drop bb).length = s.size - o - bb := by rw [List.length_drop, List.length_drop, hl]
    rw [List.drop_drop] at h hlen
    cases hr : s.data.toList.drop (o + bb) with
    | nil => rw [hr] at h; cases h
    | cons c t =>
      rw [hr] at h hlen
      dsimp only at h
      cases hk : tokL (c :: t) with
      | tok k n len sl => rw [hk] at h; cases h
      | bad e' =>
        rw [hk] at h
        simp only [Prod.mk.injEq, Option.some.injEq] at h
        obtain ⟨_, rfl, rfl⟩ := h
        have hlt : o + bb < s.size := by simp only [List.length_cons] at hlen; omega
        have hB : blankR s o = ((o + bb : Nat) : Int) := by unfold blankR; rw [if_neg (by omega), Int.toNat_natCast, ← hbb]
        refine ⟨hB, by omega, ?_, ?_⟩
        · rw [← hB, next_blank ho]
          unfold nextR
          rw [if_neg (by omega), if_neg (by rw [hB]; omega), hB, Int.toNat_natCast]
          unfold tokAt
          rw [hr, hk]
        · unfold tokL at hk
          dsimp only at hk
          split at hk
          · split at hk
            · cases hk; exact .inl rfl
            · cases hk
          · split at hk
            · split at hk
              · cases hk; exact .inl rfl
              · cases hk
            · split at hk
              · cases hk
              · split at hk
                · cases hk; exact .inr rfl
                · cases hk

/-- What comes: a token and its flaw's number and place. -/
abbrev Itm := Tk × Int × Int
def tkI (x : PT) : Itm := (x.tk, 0, 0)
def flI : Option (Int × Nat) → List Itm
  | none => []
  | some (e, a) => [(tk0, e, (a : Int))]
def itemsV (s : ByteArray) : List Itm := if 8192 < s.size then [(tk0, 3, 0)] else (scanL s.size 0 s.data.toList).1.map tkI ++ flI (scanL s.size 0 s.data.toList).2
theorem scanL_len : ∀ (f o : Nat) (l : List UInt8), (scanL f o l).1.length ≤ f
  | 0, _, _ => by simp [scanL]
  | f + 1, o, l => by
    rw [scanL]
    split
    · simp
    · rename_i c t _
      cases tokL (c :: t) with
      | bad e => simp
      | tok k n len sl => simp only [List.length_cons]; have := scanL_len f (o + blk false l + len) ((c :: t).drop len); omega
end Go.Proofs.YtkaijnbefbggeaaDoor
