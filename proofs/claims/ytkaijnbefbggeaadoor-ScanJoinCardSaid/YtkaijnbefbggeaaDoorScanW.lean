/- Layer 6: a text's tokens, one by one, as Next tells them; the text made wide. -/
import Derived.Test.YtkaijnbefbggeaaDoorScanC
set_option linter.unusedVariables false
namespace Go.Proofs.YtkaijnbefbggeaaDoor
open Go.RowKit

/-- From the place o on: no more tokens. -/
theorem scan_end {s : ByteArray} {o : Nat} (ho : o ≤ s.size) (h : scanL s.size o (s.data.toList.drop o) = ([], none)) : blankR s o = s.size := by
  have hl := size_list s
  unfold blankR
  rw [if_neg (by omega), Int.toNat_natCast]
  have hle := blk_le false (s.data.toList.drop o)
  rw [List.length_drop, hl] at hle
  by_cases hz : s.size = 0
  · omega
  obtain ⟨f, hf⟩ : ∃ f, s.size = f + 1 := ⟨s.size - 1, by omega⟩
  rw [hf, scanL] at h
  have hlen : ((s.data.toList.drop o).drop (blk false (s.data.toList.drop o))).length = s.size - o - blk false (s.data.toList.drop o) := by rw [List.length_drop, List.length_drop, hl]
  cases hr : (s.data.toList.drop o).drop (blk false (s.data.toList.drop o)) with
  | nil => rw [hr] at hlen; simp only [List.length_nil] at hlen; omega
  | cons c t =>
    rw [hr] at h
    dsimp only at h
    cases hk : tokL (c :: t) with
    | bad e => rw [hk] at h; cases h
    | tok k n len sl => rw [hk] at h; cases h

/-- From the place o on: the next token. -/
theorem scan_step {s : ByteArray} {o : Nat} (ho : o ≤ s.size) {x : PT} {xs : List PT} (h : scanL s.size o (s.data.toList.drop o) = (x :: xs, none)) :
    blankR s o = (x.a : Nat) ∧ nextR s o = ⟨x.tk, (x.a + x.e : Nat), 0, 0⟩ ∧ o ≤ x.a ∧ 1 ≤ x.e ∧ x.a + x.e ≤ s.size ∧ scanL s.size (x.a + x.e) (s.data.toList.drop (x.a + x.e)) = (xs, none) ∧
    ∃ sl, tokL ((s.data.toList.drop x.a).take x.e) = .tok x.k x.n x.e sl ∧ ((s.data.toList.drop x.a).take x.e).take sl = x.s ∧ ((s.data.toList.drop x.a).take x.e).length = x.e := by
  have hl := size_list s
  have hle := blk_le false (s.data.toList.drop o)
  rw [List.length_drop, hl] at hle
  obtain ⟨bb, hbb⟩ : ∃ bb, bb = blk false (s.data.toList.drop o) := ⟨_, rfl⟩
  cases hz : s.size with
  | zero => rw [hz] at h; cases h
  | succ f =>
    rw [hz, scanL, ← hbb] at h
    rw [← hbb] at hle
    have hlen : ((s.data.toList.drop o).drop bb).length = s.size - o - bb := by rw [List.length_drop, List.length_drop, hl]
    rw [List.drop_drop] at h hlen
    cases hr : s.data.toList.drop (o + bb) with
    | nil => rw [hr] at h; cases h
    | cons c t =>
      rw [hr] at h hlen
      dsimp only at h
      cases hk : tokL (c :: t) with
      | bad e => rw [hk] at h; cases h
      | tok k n len sl =>
        rw [hk] at h
        have h1 := tokL_len hk
        simp only [Prod.mk.injEq, List.cons.injEq] at h
        obtain ⟨⟨rfl, hxs⟩, hns⟩ := h
        dsimp only
        have hlt : o + bb < s.size := by simp only [List.length_cons] at hlen; omega
        have hB : blankR s o = ((o + bb : Nat) : Int) := by unfold blankR; rw [if_neg (by omega), Int.toNat_natCast, ← hbb]
        refine ⟨hB, ?_, by omega, h1.1, by omega, ?_, sl, ?_, ?_, ?_⟩
        · unfold nextR
          rw [if_neg (by omega), if_neg (by rw [hB]; omega), hB, Int.toNat_natCast]
          unfold tokAt
          rw [hr, hk]
          dsimp only
          have es : (if sl = 0 then (⟨#[]⟩ : ByteArray) else s.extract (o + bb) (o + bb + sl)) = ⟨((c :: t).take sl).toArray⟩ := by
            split
            · rename_i h0; subst h0; rfl
            · apply ByteArray.ext
              apply Array.toList_inj.1
              rw [ext_list, List.drop_take, show o + bb + sl - (o + bb) = sl by omega, hr]
          rw [es]
          show NR.mk _ _ _ _ = NR.mk _ _ _ _
          rw [Int.natCast_add (o + bb) len]
          rfl
        · have hd : (c :: t).drop len = s.data.toList.drop (o + bb + len) := by rw [← hr, List.drop_drop]
          rw [hd] at hxs hns
          have hfu := scanL_fuel (f + 1) f (o + bb + len) (s.data.toList.drop (o + bb + len)) (by rw [List.length_drop, hl]; omega) (by rw [List.length_drop, hl]; omega)
          rw [hfu]
          exact Prod.ext hxs hns
        · rw [hr]; exact tokL_take hk
        · rw [hr, List.take_take, Nat.min_eq_left h1.2.2]
        · rw [hr, List.length_take]; omega

theorem wide_snoc (q : PW) : ∀ l : List PW, wideL (l ++ [q]) = wideL l ++ (List.replicate q.n 32 ++ q.p)
  | [] => by simp [wideL]
  | x :: l => by rw [List.cons_append, wideL, wide_snoc q l, wideL]; simp
end Go.Proofs.YtkaijnbefbggeaaDoor
