/- What stands while a row of terms of the call's own grows among other new blocks. -/
import Derived.Test.YtkceoiaaiaomoaaGreatDoorKAppRow
set_option linter.unusedVariables false
namespace Go.Proofs.YtkceoiaaiaomoaaGreatDoor
open Go.RowKit

theorem OwnT.own {base : Nat} {P : Nat → Prop} {w : World} {v : Value} {hs : List Tm} (h : OwnT base P w v hs) : ∀ g, v.ownBlock = some g → base ≤ g ∧ g < w.heap.size := by
  intro g hg
  obtain ⟨us, ho, _⟩ := h.row
  exact ho.lt g hg

section
variable {w0 V : World} {P : Nat → Prop} {B : List (Nat × Obj)} {v : Value} {hs : List Tm}
end

theorem flat_set : ∀ (us : List Value), (∀ u ∈ us, Five u) → ∀ (k : Nat), k < us.length → ∀ (c0 c1 c2 c3 c4 : Value), flat (us.set k (.agg #[c0, c1, c2, c3, c4])) = (((((flat us).set (k * 5) c0).set (k * 5 + 1) c1).set (k * 5 + 2) c2).set (k * 5 + 3) c3).set (k * 5 + 4) c4
  | [], _, k, hk, _, _, _, _, _ => by simp at hk
  | u :: us, h, 0, _, c0, c1, c2, c3, c4 => by
    obtain ⟨d0, d1, d2, d3, d4, rfl⟩ := h u (by simp)
    simp [flat, five]
  | u :: us, h, k + 1, hk, c0, c1, c2, c3, c4 => by
    obtain ⟨d0, d1, d2, d3, d4, rfl⟩ := h u (by simp)
    have ih := flat_set us (fun v hv => h v (by simp [hv])) k (by simpa using hk) c0 c1 c2 c3 c4
    have e : ∀ us : List Value, flat ((.agg #[d0, d1, d2, d3, d4] : Value) :: us) = d0 :: d1 :: d2 :: d3 :: d4 :: flat us := fun us => by simp [flat, five]
    rw [List.set_cons_succ, e, e, ih]
    rw [show (k + 1) * 5 = k * 5 + 5 by omega]
    simp only [List.set_cons_succ, show k * 5 + 5 + 1 = k * 5 + 1 + 5 by omega, show k * 5 + 5 + 2 = k * 5 + 2 + 5 by omega, show k * 5 + 5 + 3 = k * 5 + 3 + 5 by omega, show k * 5 + 5 + 4 = k * 5 + 4 + 5 by omega]

theorem OwnT.set {base : Nat} {P : Nat → Prop} {W : World} {g cap : Nat} {l : List Tm} (O : OwnT base P W (.slice (some ⟨g, 0, none⟩) l.length cap) l) (hP : ∀ b, P b → b < base) (k : Nat) (hk : k < l.length) {y : Tm} {c0 c1 c2 c3 c4 : Value} (hy : TmAt P W y (.agg #[c0, c1, c2, c3, c4])) :
    OwnT base P (((((W.setCell ⟨g, k * 5, none⟩ c0).setCell ⟨g, k * 5 + 1, none⟩ c1).setCell ⟨g, k * 5 + 2, none⟩ c2).setCell ⟨g, k * 5 + 3, none⟩ c3).setCell ⟨g, k * 5 + 4, none⟩ c4) (.slice (some ⟨g, 0, none⟩) l.length cap) (l.set k y) ∧
    Mod (fun b => b = g) W (((((W.setCell ⟨g, k * 5, none⟩ c0).setCell ⟨g, k * 5 + 1, none⟩ c1).setCell ⟨g, k * 5 + 2, none⟩ c2).setCell ⟨g, k * 5 + 3, none⟩ c3).setCell ⟨g, k * 5 + 4, none⟩ c4) := by
  have m : Mod (fun b => b = g) W (((((W.setCell ⟨g, k * 5, none⟩ c0).setCell ⟨g, k * 5 + 1, none⟩ c1).setCell ⟨g, k * 5 + 2, none⟩ c2).setCell ⟨g, k * 5 + 3, none⟩ c3).setCell ⟨g, k * 5 + 4, none⟩ c4) := by
    have q : ∀ (V : World) (i : Nat) (c : Value), Mod (fun b => b = g) V (V.setCell ⟨g, i, none⟩ c) := fun V i c => Mod.setCell V _ c (.inl rfl)
    exact ((((q _ _ _).trans (q _ _ _) (fun _ _ h => h)).trans (q _ _ _) (fun _ _ h => h)).trans (q _ _ _) (fun _ _ h => h)).trans (q _ _ _) (fun _ _ h => h)
  refine ⟨?_, m⟩
  obtain ⟨us, ho, hul, hut⟩ := O.row
  have hf := ownT_five hul hut
  have hkeep : ∀ b, P b → (((((W.setCell ⟨g, k * 5, none⟩ c0).setCell ⟨g, k * 5 + 1, none⟩ c1).setCell ⟨g, k * 5 + 2, none⟩ c2).setCell ⟨g, k * 5 + 3, none⟩ c3).setCell ⟨g, k * 5 + 4, none⟩ c4).heap[b]? = W.heap[b]? := by
    intro b hb
    have h1 := O.own g rfl
    have h2 := hP b hb
    exact m.block b (by omega) (by omega)
  rcases ho.2 with ⟨e, _⟩ | ⟨g', cap', cur, e, hbg, hcur, hnc, hcm, hcs, htk⟩
  · cases e
  · cases e
    have s1 := set_row (i := k * 5) c0 hcur
    have s2 := set_row (i := k * 5 + 1) c1 s1
    have s3 := set_row (i := k * 5 + 2) c2 s2
    have s4 := set_row (i := k * 5 + 3) c3 s3
    have s5 := set_row (i := k * 5 + 4) c4 s4
    refine ⟨us.set k (.agg #[c0, c1, c2, c3, c4]), ⟨?_, .inr ⟨g, cap, _, by rw [List.length_set], hbg, s5, by rw [List.length_set]; exact hnc, hcm, by simpa using hcs, ?_⟩⟩, by simp [hul], fun j x hj => ?_⟩
    · rw [flat_set us hf k (by omega)]
      simp only [List.length_set]
      exact ho.1
    · rw [flat_set us hf k (by omega), ← htk]
      simp [List.take_set]
    · rw [List.getElem?_set] at hj
      by_cases hjk : k = j
      · subst hjk
        rw [if_pos rfl, if_pos hk] at hj
        cases hj
        exact ⟨_, by rw [List.getElem?_set, if_pos rfl, if_pos (by omega)], hy.keep hkeep (fun _ h => h)⟩
      · rw [if_neg hjk] at hj
        obtain ⟨u, hu, hT⟩ := hut j x hj
        exact ⟨u, by rw [List.getElem?_set, if_neg hjk]; exact hu, hT.keep hkeep (fun _ h => h)⟩
end Go.Proofs.YtkceoiaaiaomoaaGreatDoor
