/- What stands while a row of terms of the call's own grows among other new blocks. -/
import Derived.Test.YthbiaaeoajmlbaaGreatDoorKCons
set_option linter.unusedVariables false
namespace Go.Proofs.YthbiaaeoajmlbaaGreatDoor
open Go.RowKit

theorem OwnT.own {base : Nat} {P : Nat → Prop} {w : World} {v : Value} {hs : List Tm} (h : OwnT base P w v hs) : ∀ g, v.ownBlock = some g → base ≤ g ∧ g < w.heap.size := by
  intro g hg
  obtain ⟨us, ho, _⟩ := h.row
  exact ho.lt g hg

structure St (w0 V : World) (P : Nat → Prop) (B : List (Nat × Obj)) (v : Value) (hs : List Tm) : Prop where
  below : Below w0.heap.size w0 V
  own : OwnT w0.heap.size P V v hs
  kept : ∀ q ∈ B, w0.heap.size ≤ q.1 ∧ V.heap[q.1]? = some q.2 ∧ v.ownBlock ≠ some q.1

section
variable {w0 V : World} {P : Nat → Prop} {B : List (Nat × Obj)} {v : Value} {hs : List Tm}
theorem St.start (w0 : World) (P : Nat → Prop) : St w0 w0 P [] (.slice none 0 0) [] := ⟨Below.refl _ _, OwnT.nil _ _ _, fun q hq => by simp at hq⟩
theorem St.under (h : St w0 V P B v hs) (hP : ∀ b, P b → b < w0.heap.size) {V' : World} (hb : Below V.heap.size V V') : St w0 V' P B v hs := by
  have hs' := h.below.size
  refine ⟨h.below.trans (hb.mono hs'), h.own.keep (Mod.of_below (F := fun _ => False) hb) (fun _ _ f => f) (fun b hb' => ⟨Nat.lt_of_lt_of_le (hP b hb') hs', fun f => f⟩) (fun _ h => h), fun q hq => ?_⟩
  obtain ⟨h1, h2, h3⟩ := h.kept q hq
  exact ⟨h1, (hb.block _ (heap_lt h2)).trans h2, h3⟩
theorem St.apart (h : St w0 V P B v hs) (hP : ∀ b, P b → b < w0.heap.size) : ∀ b, P b → b < V.heap.size ∧ v.ownBlock ≠ some b := fun b hb =>
  ⟨Nat.lt_of_lt_of_le (hP b hb) h.below.size, fun e => by have := (h.own.own b e).1; have := hP b hb; omega⟩
theorem St.alloc (h : St w0 V P B v hs) (hP : ∀ b, P b → b < w0.heap.size) (o : Obj) : St w0 (V.alloc o) P ((V.heap.size, o) :: B) v hs := by
  have h' := h.under hP ((Below.refl _ V).alloc (Nat.le_refl _) o)
  refine ⟨h'.below, h'.own, fun q hq => ?_⟩
  rcases List.mem_cons.1 hq with rfl | hq
  · exact ⟨h.below.size, block_alloc _ _, fun e => by have := (h.own.own _ e).2; omega⟩
  · exact h'.kept q hq
theorem St.fresh (h : St w0 V P B (.slice none 0 0) []) (hP : ∀ b, P b → b < w0.heap.size) : St w0 (V.alloc (.cells #[] 48)) P B (.slice (some ⟨V.heap.size, 0, none⟩) 0 0) [] := by
  have h' := h.under hP ((Below.refl _ V).alloc (Nat.le_refl _) (.cells #[] 48))
  refine ⟨h'.below, ⟨[], ⟨rfl, .inr ⟨V.heap.size, 0, #[], rfl, h.below.size, block_alloc _ _, Nat.le_refl _, by unfold maxLen; omega, rfl, rfl⟩⟩, rfl, fun j x hj => by simp at hj⟩, fun q hq => ?_⟩
  obtain ⟨h1, h2, _⟩ := h'.kept q hq
  obtain ⟨_, h4, _⟩ := h.kept q hq
  refine ⟨h1, h2, fun e => ?_⟩
  have := heap_lt h4
  simp [Value.ownBlock] at e
  omega
theorem St.app (h : St w0 V P B v hs) {V' : World} {v' : Value} {hs' : List Tm} (O : OwnT w0.heap.size P V' v' hs') (hg : V.grownBy V' v.ownBlock) (hb : v'.ownBlock = v.ownBlock ∨ v'.ownBlock = some V.heap.size) : St w0 V' P B v' hs' := by
  have hm : Mod (fun g => v.ownBlock = some g) V V' := Mod.grown hg (fun _ _ e => e)
  refine ⟨h.below.trans (hm.below h.below.size (fun g e => (h.own.own g e).1)), O, fun q hq => ?_⟩
  obtain ⟨h1, h2, h3⟩ := h.kept q hq
  have hlt := heap_lt h2
  refine ⟨h1, (hm.block _ hlt h3).trans h2, fun e => ?_⟩
  rcases hb with hb | hb
  · exact h3 (hb.symm.trans e)
  · rw [hb] at e; injection e with e; omega
end

theorem flat_set : ∀ (us : List Value), (∀ u ∈ us, Five u) → ∀ (k : Nat), k < us.length → ∀ (c0 c1 c2 c3 c4 : Value), flat (us.set k (.agg #[c0, c1, c2, c3, c4])) = (((((flat us).set (k * 5) c0).set (k * 5 + 1) c1).set (k * 5 + 2) c2).set (k * 5 + 3) c3).set (k * 5 + 4) c4
  | [], _, k, hk, _, _, _, _, _ => by simp at hk
  | u :: us, h, 0, _, c0, c1, c2, c3, c4 => by
    obtain ⟨d0, d1, d2, d3, d4, rfl⟩ := h u (by simp)
    simp [flat, five]
  | u :: us, h, k + 1, hk, c0, c1, c2, c3, c4 => by
    obtain ⟨d0, d1, d2, d3, d4, rfl⟩ := h u (by simp)
    have ih := flat_set us (fun v hv => h v (by simp [hv])) k (by simpa using hk) c0 c1 c2 c3 c4
    have e : ∀ us : List Value, flat ((.agg #[d0, d1, d2, d3, d4] : Value) :: us) = d0 :: d1 :: d2 :: d3 :: d4 :: flat us := fun us => by simp [flat, five]
    rw [List.set_cons_succ, e, e, ih]
    rw [show (k + 1) * 5 = k * 5 + 5 by omega]
    simp only [List.set_cons_succ, show k * 5 + 5 + 1 = k * 5 + 1 + 5 by omega, show k * 5 + 5 + 2 = k * 5 + 2 + 5 by omega, show k * 5 + 5 + 3 = k * 5 + 3 + 5 by omega, show k * 5 + 5 + 4 = k * 5 + 4 + 5 by omega]

theorem OwnT.set {base : Nat} {P : Nat → Prop} {W : World} {g cap : Nat} {l : List Tm} (O : OwnT base P W (.slice (some ⟨g, 0, none⟩) l.length cap) l) (hP : ∀ b, P b → b < base) (k : Nat) (hk : k < l.length) {y : Tm} {c0 c1 c2 c3 c4 : Value} (hy : TmAt P W y (.agg #[c0, c1, c2, c3, c4])) :
    OwnT base P (((((W.setCell ⟨g, k * 5, none⟩ c0).setCell ⟨g, k * 5 + 1, none⟩ c1).setCell ⟨g, k * 5 + 2, none⟩ c2).setCell ⟨g, k * 5 + 3, none⟩ c3).setCell ⟨g, k * 5 + 4, none⟩ c4) (.slice (some ⟨g, 0, none⟩) l.length cap) (l.set k y) ∧
    Mod (fun b => b = g) W (((((W.setCell ⟨g, k * 5, none⟩ c0).setCell ⟨g, k * 5 + 1, none⟩ c1).setCell ⟨g, k * 5 + 2, none⟩ c2).setCell ⟨g, k * 5 + 3, none⟩ c3).setCell ⟨g, k * 5 + 4, none⟩ c4) := by
  have m : Mod (fun b => b = g) W (((((W.setCell ⟨g, k * 5, none⟩ c0).setCell ⟨g, k * 5 + 1, none⟩ c1).setCell ⟨g, k * 5 + 2, none⟩ c2).setCell ⟨g, k * 5 + 3, none⟩ c3).setCell ⟨g, k * 5 + 4, none⟩ c4) := by
    have q : ∀ (V : World) (i : Nat) (c : Value), Mod (fun b => b = g) V (V.setCell ⟨g, i, none⟩ c) := fun V i c => Mod.setCell V _ c (.inl rfl)
    exact ((((q _ _ _).trans (q _ _ _) (fun _ _ h => h)).trans (q _ _ _) (fun _ _ h => h)).trans (q _ _ _) (fun _ _ h => h)).trans (q _ _ _) (fun _ _ h => h)
  refine ⟨?_, m⟩
  obtain ⟨us, ho, hul, hut⟩ := O.row
  have hf := ownT_five hul hut
  have hkeep : ∀ b, P b → (((((W.setCell ⟨g, k * 5, none⟩ c0).setCell ⟨g, k * 5 + 1, none⟩ c1).setCell ⟨g, k * 5 + 2, none⟩ c2).setCell ⟨g, k * 5 + 3, none⟩ c3).setCell ⟨g, k * 5 + 4, none⟩ c4).heap[b]? = W.heap[b]? := by
    intro b hb
    have h1 := O.own g rfl
    have h2 := hP b hb
    exact m.block b (by omega) (by omega)
  rcases ho.2 with ⟨e, _⟩ | ⟨g', cap', cur, e, hbg, hcur, hnc, hcm, hcs, htk⟩
  · cases e
  · cases e
    have s1 := set_row (i := k * 5) c0 hcur
    have s2 := set_row (i := k * 5 + 1) c1 s1
    have s3 := set_row (i := k * 5 + 2) c2 s2
    have s4 := set_row (i := k * 5 + 3) c3 s3
    have s5 := set_row (i := k * 5 + 4) c4 s4
    refine ⟨us.set k (.agg #[c0, c1, c2, c3, c4]), ⟨?_, .inr ⟨g, cap, _, by rw [List.length_set], hbg, s5, by rw [List.length_set]; exact hnc, hcm, by simpa using hcs, ?_⟩⟩, by simp [hul], fun j x hj => ?_⟩
    · rw [flat_set us hf k (by omega)]
      simp only [List.length_set]
      exact ho.1
    · rw [flat_set us hf k (by omega), ← htk]
      simp [List.take_set]
    · rw [List.getElem?_set] at hj
      by_cases hjk : k = j
      · subst hjk
        rw [if_pos rfl, if_pos hk] at hj
        cases hj
        exact ⟨_, by rw [List.getElem?_set, if_pos rfl, if_pos (by omega)], hy.keep hkeep (fun _ h => h)⟩
      · rw [if_neg hjk] at hj
        obtain ⟨u, hu, hT⟩ := hut j x hj
        exact ⟨u, by rw [List.getElem?_set, if_neg hjk]; exact hu, hT.keep hkeep (fun _ h => h)⟩
end Go.Proofs.YthbiaaeoajmlbaaGreatDoor
