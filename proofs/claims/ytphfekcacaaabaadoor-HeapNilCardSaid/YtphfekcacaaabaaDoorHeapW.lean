/- package heap: words written into the room. -/
import Derived.Test.YtphfekcacaaabaaDoorHeapC
set_option linter.unusedVariables false
namespace Go.Proofs.YtphfekcacaaabaaDoor
open Go.RowKit

theorem WordsAt.set1 {w : World} {g o : Nat} {L : List HW} (h : WordsAt w (some ⟨g, o, none⟩) L) {g' p : Nat} (v : Value) (hp : g' ≠ g ∨ o + L.length * 7 ≤ p) : WordsAt (w.setCell ⟨g', p, none⟩ v) (some ⟨g, o, none⟩) L := by
  intro j x hj
  obtain ⟨g1, o1, e, hc⟩ := h j x hj
  cases e
  refine ⟨g, o, rfl, fun i u hu => ?_⟩
  have hjl := (List.getElem?_eq_some_iff.1 hj).1
  have hi : i < 7 := by
    have := (List.getElem?_eq_some_iff.1 hu).1
    cases x <;> simpa [HW.cells] using this
  rw [World.cell?_setCell_other _ _ _ _ (fun e => by injection e with e1 e2; omega)]
  exact hc i u hu

theorem HeapCore.set1 {base : Nat} {w : World} {hb : Nat} {cs : List HC} {CS : Value} {g o n : Nat} (h : HeapCore base w hb cs CS (.slice (some ⟨g, o, none⟩) n n)) (hn : 0 < n) (p : Nat) (hp : o ≤ p) (v : Value) : HeapCore base (w.setCell ⟨g, p, none⟩ v) hb cs CS (.slice (some ⟨g, o, none⟩) n n) := by
  obtain ⟨vs, hl, ho, hpt⟩ := h.row
  obtain ⟨A, rn, e, h2⟩ := h.room
  cases e
  obtain ⟨g1, o1, cur, e1, e2, e3, e4, e5, e6⟩ := h2 hn
  cases e1
  have m : Mod (fun k => k = g) w (w.setCell ⟨g, p, none⟩ v) := Mod.setCell _ _ _ (.inl rfl)
  refine ⟨⟨vs, hl, m.row ho (fun k hk e => e4 (by rw [← e]; exact hk)), fun i c hc => ?_⟩, ⟨_, n, rfl, fun _ => ⟨g, o, _, rfl, e2, e3, e4, set_row (i := p) v e5, by simpa using e6⟩⟩, h.apart⟩
  obtain ⟨A, hv, hw, hs⟩ := hpt i c hc
  refine ⟨A, hv, ?_, hs⟩
  by_cases hL : c.L = []
  · rw [hL]; intro j x hj; simp at hj
  · have hA : ∃ g' o', A = some ⟨g', o', none⟩ := by
      cases hcl : c.L with
      | nil => exact absurd hcl hL
      | cons x L => obtain ⟨g', o', e, _⟩ := hw 0 x (by rw [hcl]; rfl); exact ⟨g', o', e⟩
    obtain ⟨g', o', rfl⟩ := hA
    obtain ⟨a1, a2, a3, a4⟩ := hs g' o' rfl hL
    refine hw.set1 v ?_
    by_cases hg : g = g'
    · subst hg; exact .inr (Nat.le_trans (a4 o n rfl hn) hp)
    · exact .inl hg

/-- The store of a word's seven cells. -/
def setW (w : World) (g p : Nat) (c0 c1 c2 c3 c4 c5 c6 : Value) : World :=
  ((((((w.setCell ⟨g, p, none⟩ c0).setCell ⟨g, p + 1, none⟩ c1).setCell ⟨g, p + 2, none⟩ c2).setCell ⟨g, p + 3, none⟩ c3).setCell ⟨g, p + 4, none⟩ c4).setCell ⟨g, p + 5, none⟩ c5).setCell ⟨g, p + 6, none⟩ c6

theorem setW_mod (w : World) (g p : Nat) (c0 c1 c2 c3 c4 c5 c6 : Value) : Mod (fun k => k = g) w (setW w g p c0 c1 c2 c3 c4 c5 c6) := by
  have m : ∀ (W : World) (i : Nat) (c : Value), Mod (fun k => k = g) W (W.setCell ⟨g, i, none⟩ c) := fun W i c => Mod.setCell _ _ _ (.inl rfl)
  unfold setW
  exact ((((((m _ p _).trans (m _ (p + 1) _) (fun _ _ h => h)).trans (m _ (p + 2) _) (fun _ _ h => h)).trans (m _ (p + 3) _) (fun _ _ h => h)).trans (m _ (p + 4) _) (fun _ _ h => h)).trans (m _ (p + 5) _) (fun _ _ h => h)).trans (m _ (p + 6) _) (fun _ _ h => h)
theorem setW_cells {w : World} {g p : Nat} {cur : Array Value} {T : TypeId} (h : w.heap[g]? = some (.cells cur T (0, 0))) (hp : p + 7 ≤ cur.size) (c0 c1 c2 c3 c4 c5 c6 : Value) (i : Nat) (u : Value) (hu : [c0, c1, c2, c3, c4, c5, c6][i]? = some u) :
    (setW w g p c0 c1 c2 c3 c4 c5 c6).cell? ⟨g, p + i, none⟩ = some u := by
  have s0 := set_row (i := p) c0 h
  have s1 := set_row (i := p + 1) c1 s0
  have s2 := set_row (i := p + 2) c2 s1
  have s3 := set_row (i := p + 3) c3 s2
  have s4 := set_row (i := p + 4) c4 s3
  have s5 := set_row (i := p + 5) c5 s4
  have s6 := set_row (i := p + 6) c6 s5
  refine cell_of_row s6 ?_
  have hi : i < 7 := by simpa using (List.getElem?_eq_some_iff.1 hu).1
  have h7 : i = 0 ∨ i = 1 ∨ i = 2 ∨ i = 3 ∨ i = 4 ∨ i = 5 ∨ i = 6 := by omega
  rcases h7 with rfl | rfl | rfl | rfl | rfl | rfl | rfl
  all_goals
    simp at hu
    subst hu
    simp [Array.getElem?_setIfInBounds]
    omega
theorem setW_words {w : World} {g o : Nat} {L : List HW} (h : WordsAt w (some ⟨g, o, none⟩) L) {cur : Array Value} {T : TypeId} (hg : w.heap[g]? = some (.cells cur T (0, 0))) (hs : o + (L.length + 1) * 7 ≤ cur.size) (x : HW) (c0 c1 c2 c3 c4 c5 c6 : Value) (hx : x.cells = [c0, c1, c2, c3, c4, c5, c6]) :
    WordsAt (setW w g (o + L.length * 7) c0 c1 c2 c3 c4 c5 c6) (some ⟨g, o, none⟩) (L ++ [x]) := by
  have hk : WordsAt (setW w g (o + L.length * 7) c0 c1 c2 c3 c4 c5 c6) (some ⟨g, o, none⟩) L := by
    unfold setW
    exact ((((((h.set1 c0 (.inr (by omega))).set1 c1 (.inr (by omega))).set1 c2 (.inr (by omega))).set1 c3 (.inr (by omega))).set1 c4 (.inr (by omega))).set1 c5 (.inr (by omega))).set1 c6 (.inr (by omega))
  intro j y hj
  rw [List.getElem?_append] at hj
  split at hj
  · exact hk j y hj
  · have hjl := (List.getElem?_eq_some_iff.1 hj).1
    have ej : j = L.length := by simp at hjl; omega
    subst ej
    simp at hj
    subst hj
    exact ⟨g, o, rfl, fun i u hu => setW_cells hg (by omega) c0 c1 c2 c3 c4 c5 c6 i u (by rw [← hx]; exact hu)⟩
theorem HeapCore.setW {base : Nat} {w : World} {hb : Nat} {cs : List HC} {CS : Value} {g o n : Nat} (h : HeapCore base w hb cs CS (.slice (some ⟨g, o, none⟩) n n)) (hn : 0 < n) (p : Nat) (hp : o ≤ p) (c0 c1 c2 c3 c4 c5 c6 : Value) : HeapCore base (setW w g p c0 c1 c2 c3 c4 c5 c6) hb cs CS (.slice (some ⟨g, o, none⟩) n n) :=
  ((((((h.set1 hn p hp c0).set1 hn (p + 1) (by omega) c1).set1 hn (p + 2) (by omega) c2).set1 hn (p + 3) (by omega) c3).set1 hn (p + 4) (by omega) c4).set1 hn (p + 5) (by omega) c5).set1 hn (p + 6) (by omega) c6

theorem rowC_inj : ∀ {cs : List HC} {vs us : List Value}, vs.length = cs.length → us.length = cs.length → rowC cs vs = rowC cs us → vs = us
  | [], [], [], _, _, _ => rfl
  | c :: cs, v :: vs, u :: us, h1, h2, h => by
    simp only [rowC, List.cons.injEq, true_and] at h
    rw [h.1, rowC_inj (by simpa using h1) (by simpa using h2) h.2]
theorem row_one {base : Nat} {w : World} {cs : List HC} {CS : Value} {vs us : List Value} (hv : vs.length = cs.length) (hu : us.length = cs.length) (h1 : w.ownsRow base 39 3 CS cs.length (rowC cs vs)) (h2 : w.ownsRow base 39 3 CS cs.length (rowC cs us)) : vs = us := by
  rcases h1.2 with ⟨_, hn⟩ | ⟨g, cap, cur, e, _, hc, _, _, _, ht⟩
  · have e1 : vs = [] := List.eq_nil_of_length_eq_zero (by omega)
    have e2 : us = [] := List.eq_nil_of_length_eq_zero (by omega)
    rw [e1, e2]
  · rcases h2.2 with ⟨e', _⟩ | ⟨g', cap', cur', e', _, hc', _, _, _, ht'⟩
    · rw [e] at e'; cases e'
    · rw [e] at e'; cases e'
      rw [hc] at hc'
      cases hc'
      exact rowC_inj hv hu (ht.symm.trans ht')
/-- A store into the room leaves the cells, whatever room one thinks of. -/
theorem HeapCore.set2 {base : Nat} {w : World} {hb : Nat} {cs : List HC} {CS RM : Value} {g o n : Nat} (h : HeapCore base w hb cs CS (.slice (some ⟨g, o, none⟩) n n)) (hn : 0 < n) (k : HeapCore base w hb cs CS RM) (p : Nat) (hp : o ≤ p) (v : Value) : HeapCore base (w.setCell ⟨g, p, none⟩ v) hb cs CS RM := by
  have hnew := h.set1 hn p hp v
  obtain ⟨vs, hl, ho, hpt⟩ := hnew.row
  obtain ⟨us, hul, huo, hupt⟩ := k.row
  obtain ⟨vs', hl', ho', -⟩ := h.row
  obtain ⟨A, rn, e, h2⟩ := k.room
  obtain ⟨A', rn', e', h2'⟩ := h.room
  cases e'
  obtain ⟨g1, o1, cur, e1, e2, e3, e4, e5, e6⟩ := h2' hn
  cases e1
  have m : Mod (fun k => k = g) w (w.setCell ⟨g, p, none⟩ v) := Mod.setCell _ _ _ (.inl rfl)
  have huo' := m.row huo (fun k hk e => e4 (by rw [← e]; exact hk))
  have evs : us = vs := row_one hul hl huo' ho
  subst evs
  refine ⟨⟨us, hul, huo', fun i c hc => ?_⟩, ⟨A, rn, e, fun hr => ?_⟩, k.apart⟩
  · obtain ⟨B, hv, hw, -⟩ := hpt i c hc
    obtain ⟨B', hv', -, hs'⟩ := hupt i c hc
    rw [hv] at hv'
    simp only [Option.some.injEq, Value.slice.injEq] at hv'
    obtain ⟨rfl, -⟩ := hv'
    exact ⟨B, hv, hw, hs'⟩
  · obtain ⟨g2, o2, cur2, q1, q2, q3, q4, q5, q6⟩ := h2 hr
    by_cases hg : g2 = g
    · subst hg
      rw [e5] at q5
      cases q5
      exact ⟨g2, o2, _, q1, q2, q3, q4, set_row (i := p) v e5, by simpa using q6⟩
    · exact ⟨g2, o2, cur2, q1, q2, q3, q4, (m.block _ (heap_lt q5) hg).trans q5, q6⟩
theorem HeapCore.setW2 {base : Nat} {w : World} {hb : Nat} {cs : List HC} {CS RM : Value} {g o n : Nat} (h : HeapCore base w hb cs CS (.slice (some ⟨g, o, none⟩) n n)) (hn : 0 < n) (k : HeapCore base w hb cs CS RM) (p : Nat) (hp : o ≤ p) (c0 c1 c2 c3 c4 c5 c6 : Value) : HeapCore base (Go.Proofs.YtphfekcacaaabaaDoor.setW w g p c0 c1 c2 c3 c4 c5 c6) hb cs CS RM := by
  have a0 := h.set1 hn p hp c0
  have a1 := a0.set1 hn (p + 1) (by omega) c1
  have a2 := a1.set1 hn (p + 2) (by omega) c2
  have a3 := a2.set1 hn (p + 3) (by omega) c3
  have a4 := a3.set1 hn (p + 4) (by omega) c4
  have a5 := a4.set1 hn (p + 5) (by omega) c5
  exact a5.set2 hn (a4.set2 hn (a3.set2 hn (a2.set2 hn (a1.set2 hn (a0.set2 hn (h.set2 hn k p hp c0) (p + 1) (by omega) c1) (p + 2) (by omega) c2) (p + 3) (by omega) c3) (p + 4) (by omega) c4) (p + 5) (by omega) c5) (p + 6) (by omega) c6

/-- A word that came in, as own leaves it. -/
theorem own_hw {N : Nat} {q : AW} {k n : Int} {s t : ByteArray} {l : List Tm} (hm : mayW N q.c q.a q.x = true) (hx : q.x = .mk k n s t l) :
    q.hw.cells = [.bool q.c, .int .i64 q.a, .int .i8 k, .int .i64 n, .string s, .string t, .slice none 0 0] ∧ s.size ≤ 32 ∧ t.size ≤ 32 ∧ wgood N q.hw := by
  obtain ⟨c, a, x⟩ := q
  dsimp only at hx hm ⊢
  subst hx
  have em : ∀ {u : ByteArray}, u.toList.isEmpty = true → u = ⟨#[]⟩ := fun {u} hu => by
    apply ByteArray.ext
    apply Array.toList_inj.1
    rw [← ByteArray.toList_eq]
    simpa using hu
  cases c
  · unfold mayW at hm
    rw [if_neg (by decide), Bool.and_eq_true, beq_iff_eq, beq_iff_eq] at hm
    obtain ⟨h1, rfl⟩ := hm
    have hne : checkN (.mk k n s t l) ≠ 30 ∧ ¬ (k == 5 || k == 7) = true := by
      unfold leafE at h1
      constructor
      · intro e; rw [if_pos e] at h1; cases h1
      · intro e
        by_cases e' : checkN (.mk k n s t l) = 30
        · rw [if_pos e'] at h1; cases h1
        · rw [if_neg e'] at h1; rw [if_pos (show ((Tm.mk k n s t l).k == 5 || (Tm.mk k n s t l).k == 7) = true from e)] at h1; cases h1
    have hk : k ≠ 5 ∧ k ≠ 7 := by simpa using hne.2
    obtain ⟨-, -, h2, h3⟩ := leaf_case (x := .mk k n s t l) hne.1 hk.1 hk.2
    exact ⟨rfl, h2, h3, h1⟩
  · unfold mayW at hm
    rw [if_pos rfl, Bool.and_eq_true, Bool.and_eq_true, decide_eq_true_eq, decide_eq_true_eq] at hm
    obtain ⟨⟨ha, hb⟩, hbl⟩ := hm
    unfold blankB at hbl
    simp only [Bool.and_eq_true, beq_iff_eq] at hbl
    obtain ⟨⟨⟨⟨rk, rn⟩, rs⟩, rt⟩, -⟩ := hbl
    have rk' : k = 0 := rk
    have rn' : n = 0 := rn
    have rs' : s = ⟨#[]⟩ := em rs
    have rt' : t = ⟨#[]⟩ := em rt
    clear rk rn rs rt
    subst rk' rn' rs' rt'
    refine ⟨?_, by decide, by decide, ?_⟩
    · show [Value.bool true, .int .i64 ((a.toNat : Nat) : Int), .int .i8 0, .int .i64 0, .string ⟨#[]⟩, .string ⟨#[]⟩, .slice none 0 0] = _
      rw [Int.toNat_of_nonneg ha]
    · show a.toNat < N; omega
end Go.Proofs.YtphfekcacaaabaaDoor
