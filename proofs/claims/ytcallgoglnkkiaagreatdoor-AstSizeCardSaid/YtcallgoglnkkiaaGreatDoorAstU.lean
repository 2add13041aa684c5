/- Layer 7: the names in a tree, as plain facts; a tree's size by its parts. -/
import Derived.Test.YtcallgoglnkkiaaGreatDoorAstT
set_option linter.unusedVariables false
namespace Go.Proofs.YtcallgoglnkkiaaGreatDoor
open Go.RowKit

def inV (L : List ByteArray) (b : ByteArray) : Prop := b ∈ L
theorem bytes_same {a b : ByteArray} : a.data.toList = b.data.toList ↔ a = b := ⟨fun h => ByteArray.ext (Array.toList_inj.1 h), fun h => by rw [h]⟩
theorem has_iff (L : List ByteArray) (s : ByteArray) : (L.any fun b => b.data.toList == s.data.toList) = true ↔ s ∈ L := by
  rw [List.any_eq_true]
  constructor
  · rintro ⟨c, hc, h⟩
    rw [← bytes_same.1 (eq_of_beq h)]; exact hc
  · intro h; exact ⟨s, h, by simp⟩
/-- Is this node's name one that Vars tells? -/
def told (y : Tm) : Prop := y.k = 5 ∧ ¬ y.s.data.toList = [95]
theorem addV_mem (acc : List ByteArray) (y : Tm) (b : ByteArray) : b ∈ addV acc y ↔ b ∈ acc ∨ (told y ∧ y.s = b) := by
  unfold addV told
  by_cases hk : y.k = 5
  · by_cases hs : y.s.data.toList = [95]
    · rw [if_neg (by simp [hs])]
      constructor
      · exact .inl
      · rintro (h | ⟨h, _⟩)
        · exact h
        · exact (h.2 hs).elim
    · by_cases hm : y.s ∈ acc
      · have h1 := (has_iff acc y.s).2 hm
        rw [if_neg (by rw [h1]; simp)]
        constructor
        · exact .inl
        · rintro (h | ⟨_, rfl⟩)
          · exact h
          · exact hm
      · have h1 : (acc.any fun b => b.data.toList == y.s.data.toList) = false := by
          cases h : (acc.any fun b => b.data.toList == y.s.data.toList)
          · rfl
          · exact (hm ((has_iff acc y.s).1 h)).elim
        rw [if_pos (by rw [h1]; simp [hk, hs]), List.mem_append, List.mem_singleton]
        constructor
        · rintro (h | rfl)
          · exact .inl h
          · exact .inr ⟨⟨hk, hs⟩, rfl⟩
        · rintro (h | ⟨_, rfl⟩)
          · exact .inl h
          · exact .inr rfl
  · rw [if_neg (by simp [hk])]
    constructor
    · exact .inl
    · rintro (h | ⟨h, _⟩)
      · exact h
      · exact (hk h.1).elim
theorem fold_mem : ∀ (l : List Tm) (acc : List ByteArray) (b : ByteArray), b ∈ l.foldl addV acc ↔ b ∈ acc ∨ ∃ y ∈ l, told y ∧ y.s = b
  | [], acc, b => by simp
  | y :: l, acc, b => by
    rw [List.foldl_cons, fold_mem l, addV_mem]
    constructor
    · rintro ((h | h) | ⟨z, hz, h⟩)
      · exact .inl h
      · exact .inr ⟨y, by simp, h⟩
      · exact .inr ⟨z, by simp [hz], h⟩
    · rintro (h | ⟨z, hz, h⟩)
      · exact .inl (.inl h)
      · rcases List.mem_cons.1 hz with rfl | hz
        · exact .inl (.inr h)
        · exact .inr ⟨z, hz, h⟩
theorem addV_nodup {acc : List ByteArray} (h : acc.Nodup) (y : Tm) : (addV acc y).Nodup := by
  unfold addV
  split
  · rename_i hc
    simp only [Bool.and_eq_true, Bool.not_eq_true'] at hc
    rw [List.nodup_append]
    refine ⟨h, by simp, fun a ha b hb => ?_⟩
    rw [List.mem_singleton] at hb
    subst hb
    intro e
    subst e
    have h1 := (has_iff acc y.s).2 ha
    rw [hc.2] at h1
    cases h1
  · exact h
theorem fold_nodup : ∀ (l : List Tm) (acc : List ByteArray), acc.Nodup → (l.foldl addV acc).Nodup
  | [], acc, h => h
  | y :: l, acc, h => by rw [List.foldl_cons]; exact fold_nodup l _ (addV_nodup h y)
theorem vars_mem {x : Tm} (h : fitsB x = true) (b : ByteArray) : b ∈ varsL x ↔ ∃ y ∈ x.pre, told y ∧ y.s = b := by
  unfold varsL
  rw [if_pos h, fold_mem]
  simp
theorem vars_nodup (x : Tm) : (varsL x).Nodup := by
  unfold varsL
  split
  · exact fold_nodup _ _ (by simp)
  · simp
theorem vars_good {x : Tm} {b : ByteArray} (h : b ∈ varsL x) : ¬ b.data.toList = [95] := by
  by_cases hf : fitsB x = true
  · obtain ⟨y, _, hy, rfl⟩ := (vars_mem hf b).1 h
    exact hy.2
  · unfold varsL at h
    rw [if_neg hf] at h
    cases h
theorem pre_mem : ∀ {l : List Tm} {x y : Tm}, x ∈ l → y ∈ x.pre → y ∈ Tm.pres l
  | z :: l, x, y, h, hy => by
    rw [Tm.pres, List.mem_append]
    rcases List.mem_cons.1 h with rfl | h
    · exact .inl hy
    · exact .inr (pre_mem h hy)
theorem vars_part {k n : Int} {s t : ByteArray} {l : List Tm} {x : Tm} (h : fitsB (.mk k n s t l) = true) (hx : x ∈ l) {b : ByteArray} (hb : b ∈ varsL x) : b ∈ varsL (.mk k n s t l) := by
  obtain ⟨y, hy, h1⟩ := (vars_mem (fits_mem h hx) b).1 hb
  refine (vars_mem h b).2 ⟨y, ?_, h1⟩
  rw [Tm.pre]
  exact List.mem_cons_of_mem _ (pre_mem hx hy)
theorem fold_len : ∀ (l : List Tm) (acc : List ByteArray), (l.foldl addV acc).length ≤ acc.length + l.length
  | [], acc => by simp
  | y :: l, acc => by
    rw [List.foldl_cons]
    have h := fold_len l (addV acc y)
    have h2 : (addV acc y).length ≤ acc.length + 1 := by unfold addV; split <;> simp
    simp only [List.length_cons]
    omega
theorem vars_len (x : Tm) : (varsL x).length ≤ x.nodes := by
  unfold varsL
  split
  · have := fold_len x.pre []
    unfold Tm.nodes
    simpa using this
  · simp
theorem nodup_take {L : List ByteArray} (h : L.Nodup) {j : Nat} {b : ByteArray} (hb : L[j]? = some b) : b ∉ L.take j := by
  intro hm
  obtain ⟨i, hi, e⟩ := List.mem_iff_getElem.1 hm
  have hi2 : i < j ∧ i < L.length := by rw [List.length_take] at hi; omega
  rw [List.getElem_take] at e
  obtain ⟨hj, e2⟩ := List.getElem?_eq_some_iff.1 hb
  exact List.pairwise_iff_getElem.1 h i j hi2.2 hj hi2.1 (e.trans e2.symm)
theorem vars_none {x : Tm} (h : ¬ fitsB x = true) : varsL x = [] := by unfold varsL; rw [if_neg h]
theorem nodes_take {l : List Tm} {j : Nat} {y : Tm} (h : l[j]? = some y) : (Tm.pres (l.take (j + 1))).length = (Tm.pres (l.take j)).length + y.nodes := by
  rw [Tm.pres_take_succ h, List.length_append]; rfl
theorem deeps_snoc : ∀ (l : List Tm) (y : Tm), Tm.deeps (l ++ [y]) = max (Tm.deeps l) y.deep
  | [], y => by simp [Tm.deeps]
  | x :: l, y => by rw [List.cons_append, Tm.deeps, deeps_snoc l y, Tm.deeps]; omega
theorem deeps_take {l : List Tm} {j : Nat} {y : Tm} (h : l[j]? = some y) : Tm.deeps (l.take (j + 1)) = max (Tm.deeps (l.take j)) y.deep := by
  rw [List.take_add_one, h]; exact deeps_snoc _ _
theorem deeps_append : ∀ (a b : List Tm), Tm.deeps (a ++ b) = max (Tm.deeps a) (Tm.deeps b)
  | [], b => by simp [Tm.deeps]
  | x :: a, b => by rw [List.cons_append, Tm.deeps, deeps_append a b, Tm.deeps]; omega
theorem deeps_le {l : List Tm} (j : Nat) : Tm.deeps (l.take j) ≤ Tm.deeps l := by
  have h := deeps_append (l.take j) (l.drop j)
  rw [List.take_append_drop] at h
  omega
end Go.Proofs.YtcallgoglnkkiaaGreatDoor
