/- Putting terms on heaps, plainly: what comes of it, and that it is taken off again. package heap: what Put's closure leans on: blocks apart from a heap. -/
import Derived.Test.YtaemfjmmklpjeaaGreatDoorHeapU
import Derived.Test.YtaemfjmmklpjeaaGreatDoorHeapK
set_option linter.unusedVariables false
namespace Go.Proofs.YtaemfjmmklpjeaaGreatDoor
open Go.RowKit

mutual
def put1 : List HC → Tm → List HC × HW
  | cs, .mk k n s t l => if k = 5 ∨ k = 7 then ((puts cs l).1 ++ [⟨k, wsum (puts cs l).1 (puts cs l).2, (puts cs l).2⟩], .ref (puts cs l).1.length) else (cs, .leaf (.mk k n s t l))
def puts : List HC → List Tm → List HC × List HW
  | cs, [] => (cs, [])
  | cs, x :: l => ((puts (put1 cs x).1 l).1, (put1 cs x).2 :: (puts (put1 cs x).1 l).2)
end
theorem wsize_ext {cs more : List HC} {y : HW} (h : wgood cs.length y) : wsize (cs ++ more) y = wsize cs y := by
  cases y with
  | leaf x => rfl
  | ref a =>
    have e : (cs ++ more)[a]? = cs[a]? := List.getElem?_append_left h
    unfold wsize
    simp only [e]
theorem wsize_at {cs : List HC} {a : Nat} {c : HC} (h : cs[a]? = some c) : wsize cs (.ref a) = c.size := by
  unfold wsize; simp only [h]
theorem wsum_ext {cs more : List HC} : ∀ {L : List HW}, (∀ y ∈ L, wgood cs.length y) → wsum (cs ++ more) L = wsum cs L
  | [], _ => rfl
  | y :: L, h => by
    rw [wsum, wsum, wsize_ext (h y (by simp)), wsum_ext (fun z hz => h z (by simp [hz]))]
theorem wgood_mono {n m : Nat} (h : n ≤ m) {y : HW} (hy : wgood n y) : wgood m y := by
  cases y with
  | leaf x => exact hy
  | ref a => exact Nat.lt_of_lt_of_le hy h
theorem HGood.snoc {cs : List HC} (hg : HGood cs) (k : Int) (L : List HW) (hk : k = 5 ∨ (k = 7 ∧ L.length = 2)) (hL : ∀ y ∈ L, wgood cs.length y) (h256 : wsum cs L ≤ 256) (hlen : cs.length + 1 ≤ 1048576) : HGood (cs ++ [⟨k, wsum cs L, L⟩]) := by
  have split : ∀ (n : Nat) (c : HC), (cs ++ [⟨k, wsum cs L, L⟩])[n]? = some c → cs[n]? = some c ∨ (n = cs.length ∧ c = ⟨k, wsum cs L, L⟩) := by
    intro n c h
    rw [List.getElem?_append] at h
    split at h
    · exact .inl h
    · have := (List.getElem?_eq_some_iff.1 h).1
      simp at this
      have hn : n = cs.length := by omega
      subst hn
      simp at h
      exact .inr ⟨rfl, h.symm⟩
  refine ⟨fun n c h => ?_, fun n c h y hy => ?_, fun n c h => ?_, fun n c h => ?_, by simp; omega⟩
  · rcases split n c h with h | ⟨rfl, rfl⟩
    · exact hg.kind n c h
    · exact hk
  · rcases split n c h with h | ⟨rfl, rfl⟩
    · exact hg.low n c h y hy
    · exact hL y hy
  · rcases split n c h with h | ⟨rfl, rfl⟩
    · rw [hg.size n c h]
      exact (wsum_ext (fun y hy => wgood_mono (Nat.le_of_lt (List.getElem?_eq_some_iff.1 h).1) (hg.low n c h y hy))).symm
    · exact (wsum_ext hL).symm
  · rcases split n c h with h | ⟨rfl, rfl⟩
    · exact hg.most n c h
    · exact h256

end Go.Proofs.YtaemfjmmklpjeaaGreatDoor
set_option linter.unusedVariables false
namespace Go.Proofs.YtaemfjmmklpjeaaGreatDoor
open Go.RowKit

def wordsOf : List HC → Nat
  | [] => 0
  | c :: cs => 1 + c.L.length + wordsOf cs
theorem wordsOf_append (a b : List HC) : wordsOf (a ++ b) = wordsOf a + wordsOf b := by
  induction a with
  | nil => simp [wordsOf]
  | cons c a ih => simp [wordsOf, ih]; omega
theorem wsum_ge {cs : List HC} (hg : HGood cs) : ∀ L : List HW, L.length + 1 ≤ wsum cs L := by
  have h1 : ∀ L : List HW, 1 ≤ wsum cs L := by intro L; induction L with | nil => simp [wsum] | cons y L ih => simp [wsum]; omega
  intro L
  induction L with
  | nil => simp [wsum]
  | cons y L ih =>
    have : 1 ≤ wsize cs y := by
      cases y with
      | leaf x => exact Nat.le_refl 1
      | ref b =>
        cases hb : cs[b]? with
        | none => unfold wsize; simp only [hb]; omega
        | some d => rw [wsize_at hb, hg.size b d hb]; exact h1 d.L
    simp [wsum]; omega
theorem wordsOf_le {cs : List HC} (hg : HGood cs) : wordsOf cs ≤ 256 * cs.length := by
  have : ∀ ds : List HC, (∀ d ∈ ds, d.L.length + 1 ≤ 256) → wordsOf ds ≤ 256 * ds.length := by
    intro ds
    induction ds with
    | nil => intro _; simp [wordsOf]
    | cons d ds ih => intro h; have h1 := h d (by simp); have h2 := ih (fun x hx => h x (by simp [hx])); simp [wordsOf]; omega
  refine this cs (fun d hd => ?_)
  obtain ⟨n, hn, e⟩ := List.getElem_of_mem hd
  have hn2 : cs[n]? = some d := by rw [← e]; exact List.getElem?_eq_getElem hn
  have h1 := hg.size n d hn2
  have h2 := hg.most n d hn2
  have h3 := wsum_ge hg d.L
  omega
structure HOk (s : HSt) : Prop where
  good : HGood s.cs
  ws : s.ws = wordsOf s.cs
  rn : s.rn ≤ 1000000
theorem HOk.ws_le {s : HSt} (h : HOk s) : s.ws ≤ 1000000000000 := by
  have h1 := wordsOf_le h.good
  have h2 := h.good.len
  have h3 := h.ws
  omega

mutual
theorem put1_grow (cs : List HC) : ∀ x : Tm, cs.length ≤ (put1 cs x).1.length
  | .mk k n s t l => by
    rw [put1]
    split
    · have := puts_grow cs l
      rw [List.length_append]; omega
    · exact Nat.le_refl _
theorem puts_grow (cs : List HC) : ∀ l : List Tm, cs.length ≤ (puts cs l).1.length
  | [] => by rw [puts]; exact Nat.le_refl _
  | x :: l => by
    rw [puts]
    exact Nat.le_trans (put1_grow cs x) (puts_grow (put1 cs x).1 l)
end

def RowW (w : World) (g i : Nat) (v : Value) : Prop :=
  ∃ c0 c1 c2 c3 c4 c5 c6, v = .agg #[c0, c1, c2, c3, c4, c5, c6] ∧ w.cell? ⟨g, i * 7, none⟩ = some c0 ∧ w.cell? ⟨g, i * 7 + 1, none⟩ = some c1 ∧ w.cell? ⟨g, i * 7 + 2, none⟩ = some c2 ∧ w.cell? ⟨g, i * 7 + 3, none⟩ = some c3 ∧ w.cell? ⟨g, i * 7 + 4, none⟩ = some c4 ∧ w.cell? ⟨g, i * 7 + 5, none⟩ = some c5 ∧ w.cell? ⟨g, i * 7 + 6, none⟩ = some c6
theorem RowW.elem {w : World} {g i : Nat} {v : Value} (h : RowW w g i v) : ElemW w ⟨g, 0, none⟩ i v := by
  obtain ⟨c0, c1, c2, c3, c4, c5, c6, e, h0, h1, h2, h3, h4, h5, h6⟩ := h
  have ea : (⟨g, 0, none⟩ : Addr).add (i * 7) = ⟨g, i * 7, none⟩ := by unfold Addr.add; split <;> simp_all
  exact ⟨c0, c1, c2, c3, c4, c5, c6, e, by rw [ea]; exact h0, by rw [ea]; exact h1, by rw [ea]; exact h2, by rw [ea]; exact h3, by rw [ea]; exact h4, by rw [ea]; exact h5, by rw [ea]; exact h6⟩
theorem RowW.keep {w w' : World} {g i : Nat} {v : Value} (h : RowW w g i v) (hb : w'.heap[g]? = w.heap[g]?) : RowW w' g i v := by
  obtain ⟨c0, c1, c2, c3, c4, c5, c6, e, h0, h1, h2, h3, h4, h5, h6⟩ := h
  have k : ∀ o, w'.cell? ⟨g, o, none⟩ = w.cell? ⟨g, o, none⟩ := fun o => World.cell?_of_block (w := w) (a := ⟨g, o, none⟩) hb
  exact ⟨c0, c1, c2, c3, c4, c5, c6, e, (k _).trans h0, (k _).trans h1, (k _).trans h2, (k _).trans h3, (k _).trans h4, (k _).trans h5, (k _).trans h6⟩
theorem setW_block {w : World} {g p : Nat} {cur : Array Value} {T : TypeId} (h : w.heap[g]? = some (.cells cur T (0, 0))) (c0 c1 c2 c3 c4 c5 c6 : Value) : ∃ cur', (setW w g p c0 c1 c2 c3 c4 c5 c6).heap[g]? = some (.cells cur' T (0, 0)) ∧ cur'.size = cur.size := by
  unfold setW
  exact ⟨_, set_row (i := p + 6) _ (set_row (i := p + 5) _ (set_row (i := p + 4) _ (set_row (i := p + 3) _ (set_row (i := p + 2) _ (set_row (i := p + 1) _ (set_row (i := p) _ h)))))), by simp⟩
theorem setW_other {w : World} {g p o : Nat} {cur : Array Value} {T : TypeId} (h : w.heap[g]? = some (.cells cur T (0, 0))) (ho : o < p ∨ p + 7 ≤ o) (c0 c1 c2 c3 c4 c5 c6 : Value) : (setW w g p c0 c1 c2 c3 c4 c5 c6).cell? ⟨g, o, none⟩ = w.cell? ⟨g, o, none⟩ := by
  have s0 := set_row (i := p) c0 h
  have s1 := set_row (i := p + 1) c1 s0
  have s2 := set_row (i := p + 2) c2 s1
  have s3 := set_row (i := p + 3) c3 s2
  have s4 := set_row (i := p + 4) c4 s3
  have s5 := set_row (i := p + 5) c5 s4
  have s6 := set_row (i := p + 6) c6 s5
  unfold setW
  simp only [World.cell?, s6, h]
  rw [Array.getElem?_setIfInBounds_ne (by omega), Array.getElem?_setIfInBounds_ne (by omega), Array.getElem?_setIfInBounds_ne (by omega), Array.getElem?_setIfInBounds_ne (by omega), Array.getElem?_setIfInBounds_ne (by omega), Array.getElem?_setIfInBounds_ne (by omega), Array.getElem?_setIfInBounds_ne (by omega)]
theorem RowW.set {w : World} {g i j : Nat} {v : Value} {cur : Array Value} {T : TypeId} (h : RowW w g i v) (hb : w.heap[g]? = some (.cells cur T (0, 0))) (hij : i ≠ j) (d0 d1 d2 d3 d4 d5 d6 : Value) : RowW (setW w g (j * 7) d0 d1 d2 d3 d4 d5 d6) g i v := by
  obtain ⟨c0, c1, c2, c3, c4, c5, c6, e, h0, h1, h2, h3, h4, h5, h6⟩ := h
  have k : ∀ o, (o < j * 7 ∨ j * 7 + 7 ≤ o) → (setW w g (j * 7) d0 d1 d2 d3 d4 d5 d6).cell? ⟨g, o, none⟩ = w.cell? ⟨g, o, none⟩ := fun o ho => setW_other hb ho _ _ _ _ _ _ _
  exact ⟨c0, c1, c2, c3, c4, c5, c6, e, (k _ (by omega)).trans h0, (k _ (by omega)).trans h1, (k _ (by omega)).trans h2, (k _ (by omega)).trans h3, (k _ (by omega)).trans h4, (k _ (by omega)).trans h5, (k _ (by omega)).trans h6⟩
end Go.Proofs.YtaemfjmmklpjeaaGreatDoor
