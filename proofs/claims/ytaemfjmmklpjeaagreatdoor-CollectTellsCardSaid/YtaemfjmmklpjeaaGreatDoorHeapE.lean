/- package heap: words written into the room. package heap: a cell more. package heap: one heap seen with two blocks apart: both may be written. -/
import Derived.Test.YtaemfjmmklpjeaaGreatDoorHeapC
import Derived.Maps.AppendAt
set_option linter.unusedVariables false
namespace Go.Proofs.YtaemfjmmklpjeaaGreatDoor
open Go.RowKit

theorem WordsAt.set1 {w : World} {g o : Nat} {L : List HW} (h : WordsAt w (some ⟨g, o, none⟩) L) {g' p : Nat} (v : Value) (hp : g' ≠ g ∨ o + L.length * 7 ≤ p) : WordsAt (w.setCell ⟨g', p, none⟩ v) (some ⟨g, o, none⟩) L := by
  intro j x hj
  obtain ⟨g1, o1, e, hc⟩ := h j x hj
  cases e
  refine ⟨g, o, rfl, fun i u hu => ?_⟩
  have hjl := (List.getElem?_eq_some_iff.1 hj).1
  have hi : i < 7 := by
    have := (List.getElem?_eq_some_iff.1 hu).1
    cases x <;> simpa [HW.cells] using this
  rw [World.cell?_setCell_other _ _ _ _ (fun e => by injection e with e1 e2; omega)]
  exact hc i u hu

theorem HeapCore.set1 {base : Nat} {w : World} {hb : Nat} {cs : List HC} {CS : Value} {g o n : Nat} (h : HeapCore base w hb cs CS (.slice (some ⟨g, o, none⟩) n n)) (hn : 0 < n) (p : Nat) (hp : o ≤ p) (v : Value) : HeapCore base (w.setCell ⟨g, p, none⟩ v) hb cs CS (.slice (some ⟨g, o, none⟩) n n) := by
  obtain ⟨vs, hl, ho, hpt⟩ := h.row
  obtain ⟨A, rn, e, h2⟩ := h.room
  cases e
  obtain ⟨g1, o1, cur, e1, e2, e3, e4, e5, e6⟩ := h2 hn
  cases e1
  have m : Mod (fun k => k = g) w (w.setCell ⟨g, p, none⟩ v) := Mod.setCell _ _ _ (.inl rfl)
  refine ⟨⟨vs, hl, m.row ho (fun k hk e => e4 (by rw [← e]; exact hk)), fun i c hc => ?_⟩, ⟨_, n, rfl, fun _ => ⟨g, o, _, rfl, e2, e3, e4, set_row (i := p) v e5, by simpa using e6⟩⟩, h.apart⟩
  obtain ⟨A, hv, hw, hs⟩ := hpt i c hc
  refine ⟨A, hv, ?_, hs⟩
  by_cases hL : c.L = []
  · rw [hL]; intro j x hj; simp at hj
  · have hA : ∃ g' o', A = some ⟨g', o', none⟩ := by
      cases hcl : c.L with
      | nil => exact absurd hcl hL
      | cons x L => obtain ⟨g', o', e, _⟩ := hw 0 x (by rw [hcl]; rfl); exact ⟨g', o', e⟩
    obtain ⟨g', o', rfl⟩ := hA
    obtain ⟨a1, a2, a3, a4⟩ := hs g' o' rfl hL
    refine hw.set1 v ?_
    by_cases hg : g = g'
    · subst hg; exact .inr (Nat.le_trans (a4 o n rfl hn) hp)
    · exact .inl hg

def setW (w : World) (g p : Nat) (c0 c1 c2 c3 c4 c5 c6 : Value) : World :=
  ((((((w.setCell ⟨g, p, none⟩ c0).setCell ⟨g, p + 1, none⟩ c1).setCell ⟨g, p + 2, none⟩ c2).setCell ⟨g, p + 3, none⟩ c3).setCell ⟨g, p + 4, none⟩ c4).setCell ⟨g, p + 5, none⟩ c5).setCell ⟨g, p + 6, none⟩ c6

theorem setW_mod (w : World) (g p : Nat) (c0 c1 c2 c3 c4 c5 c6 : Value) : Mod (fun k => k = g) w (setW w g p c0 c1 c2 c3 c4 c5 c6) := by
  have m : ∀ (W : World) (i : Nat) (c : Value), Mod (fun k => k = g) W (W.setCell ⟨g, i, none⟩ c) := fun W i c => Mod.setCell _ _ _ (.inl rfl)
  unfold setW
  exact ((((((m _ p _).trans (m _ (p + 1) _) (fun _ _ h => h)).trans (m _ (p + 2) _) (fun _ _ h => h)).trans (m _ (p + 3) _) (fun _ _ h => h)).trans (m _ (p + 4) _) (fun _ _ h => h)).trans (m _ (p + 5) _) (fun _ _ h => h)).trans (m _ (p + 6) _) (fun _ _ h => h)
theorem setW_cells {w : World} {g p : Nat} {cur : Array Value} {T : TypeId} (h : w.heap[g]? = some (.cells cur T (0, 0))) (hp : p + 7 ≤ cur.size) (c0 c1 c2 c3 c4 c5 c6 : Value) (i : Nat) (u : Value) (hu : [c0, c1, c2, c3, c4, c5, c6][i]? = some u) :
    (setW w g p c0 c1 c2 c3 c4 c5 c6).cell? ⟨g, p + i, none⟩ = some u := by
  have s0 := set_row (i := p) c0 h
  have s1 := set_row (i := p + 1) c1 s0
  have s2 := set_row (i := p + 2) c2 s1
  have s3 := set_row (i := p + 3) c3 s2
  have s4 := set_row (i := p + 4) c4 s3
  have s5 := set_row (i := p + 5) c5 s4
  have s6 := set_row (i := p + 6) c6 s5
  refine cell_of_row s6 ?_
  have hi : i < 7 := by simpa using (List.getElem?_eq_some_iff.1 hu).1
  have h7 : i = 0 ∨ i = 1 ∨ i = 2 ∨ i = 3 ∨ i = 4 ∨ i = 5 ∨ i = 6 := by omega
  rcases h7 with rfl | rfl | rfl | rfl | rfl | rfl | rfl
  all_goals
    simp at hu
    subst hu
    simp [Array.getElem?_setIfInBounds]
    omega
theorem setW_words {w : World} {g o : Nat} {L : List HW} (h : WordsAt w (some ⟨g, o, none⟩) L) {cur : Array Value} {T : TypeId} (hg : w.heap[g]? = some (.cells cur T (0, 0))) (hs : o + (L.length + 1) * 7 ≤ cur.size) (x : HW) (c0 c1 c2 c3 c4 c5 c6 : Value) (hx : x.cells = [c0, c1, c2, c3, c4, c5, c6]) :
    WordsAt (setW w g (o + L.length * 7) c0 c1 c2 c3 c4 c5 c6) (some ⟨g, o, none⟩) (L ++ [x]) := by
  have hk : WordsAt (setW w g (o + L.length * 7) c0 c1 c2 c3 c4 c5 c6) (some ⟨g, o, none⟩) L := by
    unfold setW
    exact ((((((h.set1 c0 (.inr (by omega))).set1 c1 (.inr (by omega))).set1 c2 (.inr (by omega))).set1 c3 (.inr (by omega))).set1 c4 (.inr (by omega))).set1 c5 (.inr (by omega))).set1 c6 (.inr (by omega))
  intro j y hj
  rw [List.getElem?_append] at hj
  split at hj
  · exact hk j y hj
  · have hjl := (List.getElem?_eq_some_iff.1 hj).1
    have ej : j = L.length := by simp at hjl; omega
    subst ej
    simp at hj
    subst hj
    exact ⟨g, o, rfl, fun i u hu => setW_cells hg (by omega) c0 c1 c2 c3 c4 c5 c6 i u (by rw [← hx]; exact hu)⟩
theorem HeapCore.setW {base : Nat} {w : World} {hb : Nat} {cs : List HC} {CS : Value} {g o n : Nat} (h : HeapCore base w hb cs CS (.slice (some ⟨g, o, none⟩) n n)) (hn : 0 < n) (p : Nat) (hp : o ≤ p) (c0 c1 c2 c3 c4 c5 c6 : Value) : HeapCore base (setW w g p c0 c1 c2 c3 c4 c5 c6) hb cs CS (.slice (some ⟨g, o, none⟩) n n) :=
  ((((((h.set1 hn p hp c0).set1 hn (p + 1) (by omega) c1).set1 hn (p + 2) (by omega) c2).set1 hn (p + 3) (by omega) c3).set1 hn (p + 4) (by omega) c4).set1 hn (p + 5) (by omega) c5).set1 hn (p + 6) (by omega) c6

theorem rowC_inj : ∀ {cs : List HC} {vs us : List Value}, vs.length = cs.length → us.length = cs.length → rowC cs vs = rowC cs us → vs = us
  | [], [], [], _, _, _ => rfl
  | c :: cs, v :: vs, u :: us, h1, h2, h => by
    simp only [rowC, List.cons.injEq, true_and] at h
    rw [h.1, rowC_inj (by simpa using h1) (by simpa using h2) h.2]
theorem row_one {base : Nat} {w : World} {cs : List HC} {CS : Value} {vs us : List Value} (hv : vs.length = cs.length) (hu : us.length = cs.length) (h1 : w.ownsRow base 62 3 CS cs.length (rowC cs vs)) (h2 : w.ownsRow base 62 3 CS cs.length (rowC cs us)) : vs = us := by
  rcases h1.2 with ⟨_, hn⟩ | ⟨g, cap, cur, e, _, hc, _, _, _, ht⟩
  · have e1 : vs = [] := List.eq_nil_of_length_eq_zero (by omega)
    have e2 : us = [] := List.eq_nil_of_length_eq_zero (by omega)
    rw [e1, e2]
  · rcases h2.2 with ⟨e', _⟩ | ⟨g', cap', cur', e', _, hc', _, _, _, ht'⟩
    · rw [e] at e'; cases e'
    · rw [e] at e'; cases e'
      rw [hc] at hc'
      cases hc'
      exact rowC_inj hv hu (ht.symm.trans ht')
theorem HeapCore.set2 {base : Nat} {w : World} {hb : Nat} {cs : List HC} {CS RM : Value} {g o n : Nat} (h : HeapCore base w hb cs CS (.slice (some ⟨g, o, none⟩) n n)) (hn : 0 < n) (k : HeapCore base w hb cs CS RM) (p : Nat) (hp : o ≤ p) (v : Value) : HeapCore base (w.setCell ⟨g, p, none⟩ v) hb cs CS RM := by
  have hnew := h.set1 hn p hp v
  obtain ⟨vs, hl, ho, hpt⟩ := hnew.row
  obtain ⟨us, hul, huo, hupt⟩ := k.row
  obtain ⟨vs', hl', ho', -⟩ := h.row
  obtain ⟨A, rn, e, h2⟩ := k.room
  obtain ⟨A', rn', e', h2'⟩ := h.room
  cases e'
  obtain ⟨g1, o1, cur, e1, e2, e3, e4, e5, e6⟩ := h2' hn
  cases e1
  have m : Mod (fun k => k = g) w (w.setCell ⟨g, p, none⟩ v) := Mod.setCell _ _ _ (.inl rfl)
  have huo' := m.row huo (fun k hk e => e4 (by rw [← e]; exact hk))
  have evs : us = vs := row_one hul hl huo' ho
  subst evs
  refine ⟨⟨us, hul, huo', fun i c hc => ?_⟩, ⟨A, rn, e, fun hr => ?_⟩, k.apart⟩
  · obtain ⟨B, hv, hw, -⟩ := hpt i c hc
    obtain ⟨B', hv', -, hs'⟩ := hupt i c hc
    rw [hv] at hv'
    simp only [Option.some.injEq, Value.slice.injEq] at hv'
    obtain ⟨rfl, -⟩ := hv'
    exact ⟨B, hv, hw, hs'⟩
  · obtain ⟨g2, o2, cur2, q1, q2, q3, q4, q5, q6⟩ := h2 hr
    by_cases hg : g2 = g
    · subst hg
      rw [e5] at q5
      cases q5
      exact ⟨g2, o2, _, q1, q2, q3, q4, set_row (i := p) v e5, by simpa using q6⟩
    · exact ⟨g2, o2, cur2, q1, q2, q3, q4, (m.block _ (heap_lt q5) hg).trans q5, q6⟩
theorem HeapCore.setW2 {base : Nat} {w : World} {hb : Nat} {cs : List HC} {CS RM : Value} {g o n : Nat} (h : HeapCore base w hb cs CS (.slice (some ⟨g, o, none⟩) n n)) (hn : 0 < n) (k : HeapCore base w hb cs CS RM) (p : Nat) (hp : o ≤ p) (c0 c1 c2 c3 c4 c5 c6 : Value) : HeapCore base (Go.Proofs.YtaemfjmmklpjeaaGreatDoor.setW w g p c0 c1 c2 c3 c4 c5 c6) hb cs CS RM := by
  have a0 := h.set1 hn p hp c0
  have a1 := a0.set1 hn (p + 1) (by omega) c1
  have a2 := a1.set1 hn (p + 2) (by omega) c2
  have a3 := a2.set1 hn (p + 3) (by omega) c3
  have a4 := a3.set1 hn (p + 4) (by omega) c4
  have a5 := a4.set1 hn (p + 5) (by omega) c5
  exact a5.set2 hn (a4.set2 hn (a3.set2 hn (a2.set2 hn (a1.set2 hn (a0.set2 hn (h.set2 hn k p hp c0) (p + 1) (by omega) c1) (p + 2) (by omega) c2) (p + 3) (by omega) c3) (p + 4) (by omega) c4) (p + 5) (by omega) c5) (p + 6) (by omega) c6

theorem own_hw {N : Nat} {q : AW} {k n : Int} {s t : ByteArray} {l : List Tm} (hm : mayW N q.c q.a q.x = true) (hx : q.x = .mk k n s t l) :
    q.hw.cells = [.bool q.c, .int .i64 q.a, .int .i8 k, .int .i64 n, .string s, .string t, .slice none 0 0] ∧ s.size ≤ 32 ∧ t.size ≤ 32 ∧ wgood N q.hw := by
  obtain ⟨c, a, x⟩ := q
  dsimp only at hx hm ⊢
  subst hx
  have em : ∀ {u : ByteArray}, u.toList.isEmpty = true → u = ⟨#[]⟩ := fun {u} hu => by
    apply ByteArray.ext
    apply Array.toList_inj.1
    rw [← ByteArray.toList_eq]
    simpa using hu
  cases c
  · unfold mayW at hm
    rw [if_neg (by decide), Bool.and_eq_true, beq_iff_eq, beq_iff_eq] at hm
    obtain ⟨h1, rfl⟩ := hm
    have hne : checkN (.mk k n s t l) ≠ 30 ∧ ¬ (k == 5 || k == 7) = true := by
      unfold leafE at h1
      constructor
      · intro e; rw [if_pos e] at h1; cases h1
      · intro e
        by_cases e' : checkN (.mk k n s t l) = 30
        · rw [if_pos e'] at h1; cases h1
        · rw [if_neg e'] at h1; rw [if_pos (show ((Tm.mk k n s t l).k == 5 || (Tm.mk k n s t l).k == 7) = true from e)] at h1; cases h1
    have hk : k ≠ 5 ∧ k ≠ 7 := by simpa using hne.2
    obtain ⟨-, -, h2, h3⟩ := leaf_case (x := .mk k n s t l) hne.1 hk.1 hk.2
    exact ⟨rfl, h2, h3, h1⟩
  · unfold mayW at hm
    rw [if_pos rfl, Bool.and_eq_true, Bool.and_eq_true, decide_eq_true_eq, decide_eq_true_eq] at hm
    obtain ⟨⟨ha, hb⟩, hbl⟩ := hm
    unfold blankB at hbl
    simp only [Bool.and_eq_true, beq_iff_eq] at hbl
    obtain ⟨⟨⟨⟨rk, rn⟩, rs⟩, rt⟩, -⟩ := hbl
    have rk' : k = 0 := rk
    have rn' : n = 0 := rn
    have rs' : s = ⟨#[]⟩ := em rs
    have rt' : t = ⟨#[]⟩ := em rt
    clear rk rn rs rt
    subst rk' rn' rs' rt'
    refine ⟨?_, by decide, by decide, ?_⟩
    · show [Value.bool true, .int .i64 ((a.toNat : Nat) : Int), .int .i8 0, .int .i64 0, .string ⟨#[]⟩, .string ⟨#[]⟩, .slice none 0 0] = _
      rw [Int.toNat_of_nonneg ha]
    · show a.toNat < N; omega
end Go.Proofs.YtaemfjmmklpjeaaGreatDoor
set_option linter.unusedVariables false
namespace Go.Proofs.YtaemfjmmklpjeaaGreatDoor
open Go.RowKit

theorem info_cellb : (Tryz.prog.info? 62).map (fun i => (i.zero, i.size, i.bytes)) = some (some cell0, 3, 40) := by kernel_rfl

set_option maxRecDepth 100000 in
theorem wp_own_cell {o : Oper} {a : Act} {w : World} {K : Act → World → Prop} {Q : Exit → Act → World → Prop} (sl x : Operand)
    (ho : o.op = .call { callee := .builtin .append, args := #[sl, x], argTypes := #[58, 58] })
    {base : Nat} {v : Value} {n : Nat} {xs : List Value} (hown : w.ownsRow base 62 3 v n xs) (hbase : base ≤ w.heap.size) (he : a.eval sl = v)
    (g : Nat) {k m : Int} {A : Option Addr} {l cp : Nat} (hx : a.eval x = .slice (some ⟨g, 0, none⟩) 1 1) (hg : w.heap[g]? = some (.cells #[.int .i8 k, .int .i64 m, .slice A l cp] 62 (0, 0))) (hlen : n + 1 ≤ 2000000)
    (h : ∀ v' w', w'.ownsRow base 62 3 v' (n + 1) (xs ++ [.int .i8 k, .int .i64 m, .slice A l cp]) → w.grownBy w' v.ownBlock → (v'.ownBlock = v.ownBlock ∨ v'.ownBlock = some w.heap.size) → K (a.put o.dst v') w') : o.wp Tryz.prog a w K Q := by
  obtain ⟨i, hi, hz⟩ := Option.map_eq_some_iff.1 info_cellb
  simp only [Prod.mk.injEq] at hz
  obtain ⟨hz, hsz, hby⟩ := hz
  have hnews : ∀ j u, [Value.int .i8 k, .int .i64 m, .slice A l cp][j]? = some u → w.cell? ((⟨g, 0, none⟩ : Addr).add j) = some u := by
    intro j u hj
    match j, hj with
    | 0, hj => simp at hj; subst hj; exact cell_of_row hg rfl
    | 1, hj => simp at hj; subst hj; exact cell_of_row (i := 1) hg rfl
    | 2, hj => simp at hj; subst hj; exact cell_of_row (i := 2) hg rfl
    | j + 3, hj => simp at hj
  have h1 : ∀ u ∈ [Value.int .i8 k, .int .i64 m, .slice A l cp], u.oneCell' = true := by
    intro u hu; simp at hu; rcases hu with rfl | rfl | rfl <;> rfl
  obtain ⟨v', w', hr, h2, h3, _, h5⟩ := run_append_own_at (P := Tryz.prog) w base 58 o.type 62 i _ 3 40 Tryz.underlying58 hi hz hsz hby rfl (by decide) v n xs hown ⟨g, 0, none⟩ 1 1 _ rfl hnews h1 (by unfold maxLen; omega) (by omega) hbase
  unfold Oper.wp execOp
  simp only [ho, resolve, invoke, builtin, Sem.run_bind, Sem.run_pure, Result.andThen_ok, List.map_toArray, List.map_cons, List.map_nil, he, hx, hr]
  exact h _ _ h2 h3 h5

theorem HeapCore.push {base : Nat} {w w' : World} {hb : Nat} {cs : List HC} {CS CS' : Value} {RA A : Option Addr} {rn : Nat} (h : HeapCore base w hb cs CS (.slice RA rn rn)) (hbs : hb < w.heap.size) (c : HC) (hA : HeapCore base w hb cs CS (.slice A c.L.length c.L.length)) (hw : WordsAt w A c.L)
    (hap : ∀ g o ro, A = some ⟨g, o, none⟩ → 0 < c.L.length → RA = some ⟨g, ro, none⟩ → 0 < rn → o + c.L.length * 7 ≤ ro)
    (hrow : ∀ vs : List Value, vs.length = cs.length → w.ownsRow base 62 3 CS cs.length (rowC cs vs) → w'.ownsRow base 62 3 CS' (cs.length + 1) (rowC cs vs ++ [.int .i8 c.k, .int .i64 c.size, .slice A c.L.length c.L.length]))
    (hg : w.grownBy w' CS.ownBlock) (hloc : CS'.ownBlock = CS.ownBlock ∨ CS'.ownBlock = some w.heap.size) : HeapCore base w' hb (cs ++ [c]) CS' (.slice RA rn rn) := by
  obtain ⟨vs, hl, ho, hp⟩ := h.row
  obtain ⟨RA', rn', e, hro⟩ := h.room
  cases e
  obtain ⟨A', n', e, hAr⟩ := hA.room
  cases e
  have hown' : ∀ g, g < w.heap.size → CS.ownBlock ≠ some g → CS'.ownBlock ≠ some g := fun g hgl hne e => by
    rcases hloc with h1 | h1
    · exact hne (h1.symm.trans e)
    · rw [h1] at e; injection e with e; omega
  have keep : ∀ g, g < w.heap.size → CS.ownBlock ≠ some g → w'.heap[g]? = w.heap[g]? := fun g hgl hne => hg.block g hgl (fun e => hne e.symm)
  refine ⟨⟨vs ++ [.slice A c.L.length c.L.length], by simp [hl], ?_, fun i d hd => ?_⟩, ⟨RA, rn, rfl, fun hr => ?_⟩, hown' hb hbs h.apart⟩
  · rw [rowC_snoc c _ hl.symm, List.length_append]
    exact hrow vs hl ho
  · rw [List.getElem?_append] at hd
    split at hd
    · rename_i hi
      obtain ⟨B, hv, hwB, hs⟩ := hp i d hd
      refine ⟨B, by rw [List.getElem?_append_left (by omega)]; exact hv, ?_, fun g o e hL => ?_⟩
      · by_cases hL : d.L = []
        · rw [hL]; intro j x hj; simp at hj
        · exact hwB.keep (fun g o e hL => by subst e; exact keep g (hwB.lt hL) (hs g o rfl hL).2.2.1)
      · subst e
        obtain ⟨a1, a2, a3, a4⟩ := hs g o rfl hL
        exact ⟨a1, a2, hown' g (hwB.lt hL) a3, a4⟩
    · rename_i hi
      have hil := (List.getElem?_eq_some_iff.1 hd).1
      have ei : i = cs.length := by simp at hil; omega
      subst ei
      simp at hd
      subst hd
      refine ⟨A, by rw [← hl]; simp, ?_, fun g o e hL => ?_⟩
      · exact hw.keep (fun g o e hL => by
          subst e
          obtain ⟨g', o', cur, e1, e2, e3, e4, e5, e6⟩ := hAr (List.length_pos_iff.2 hL)
          cases e1
          exact keep g (hw.lt hL) e4)
      · subst e
        have hpos := List.length_pos_iff.2 hL
        obtain ⟨g', o', cur, e1, e2, e3, e4, e5, e6⟩ := hAr hpos
        cases e1
        refine ⟨e2, e3, hown' g (heap_lt e5) e4, fun ro rn2 e hr => ?_⟩
        cases e
        exact hap g o ro rfl hpos rfl hr
  · obtain ⟨g, o, cur, e1, e2, e3, e4, e5, e6⟩ := hro hr
    exact ⟨g, o, cur, e1, e2, e3, hown' g (heap_lt e5) e4, (keep g (heap_lt e5) e4).trans e5, e6⟩
end Go.Proofs.YtaemfjmmklpjeaaGreatDoor
set_option linter.unusedVariables false
namespace Go.Proofs.YtaemfjmmklpjeaaGreatDoor

theorem vs_eq {base n : Nat} {w : World} {cs : List HC} {vs vs' : List Value} {CS u u' : Value} {c : HC} (ho : w.ownsRow base 62 3 CS cs.length (rowC cs vs)) (ho' : w.ownsRow base 62 3 CS cs.length (rowC cs vs')) (hc : cs[n]? = some c) (hv : vs[n]? = some u) (hv' : vs'[n]? = some u') : u = u' := by
  obtain ⟨-, -, h2⟩ := rowC_at hc hv
  obtain ⟨-, -, h2'⟩ := rowC_at hc hv'
  have hown := ho
  rcases ho.2 with ⟨_, hz⟩ | ⟨g, cap, cur, rfl, _⟩
  · have := (List.getElem?_eq_some_iff.1 hc).1; omega
  · have a := hown.cells (g := g) rfl _ _ h2
    have b := ho'.cells (g := g) rfl _ _ h2'
    rw [a] at b
    exact Option.some.inj b

theorem HeapCore.both {base hb b rn' : Nat} {w : World} {cs : List HC} {CS RM : Value} {A' : Option Addr} (h : HeapCore base w hb cs CS (.slice A' rn' rn')) (k : HeapCore base w b cs CS RM) (hr : ∀ g o, A' = some ⟨g, o, none⟩ → 0 < rn' → g ≠ b) : HeapCore base w b cs CS (.slice A' rn' rn') := by
  obtain ⟨vs, hl, ho, hp⟩ := h.row
  obtain ⟨vs', hl', ho', hp'⟩ := k.row
  obtain ⟨A, rn, e, h2⟩ := h.room
  cases e
  refine ⟨⟨vs, hl, ho, fun n c hc => ?_⟩, ⟨_, _, rfl, fun hr' => ?_⟩, k.apart⟩
  · obtain ⟨A, hv, hw, hs⟩ := hp n c hc
    obtain ⟨A2, hv2, hw2, hs2⟩ := hp' n c hc
    have e := vs_eq ho ho' hc hv hv2
    cases e
    exact ⟨A, hv, hw, fun g o e hL => ⟨(hs g o e hL).1, (hs2 g o e hL).2.1, (hs g o e hL).2.2.1, (hs g o e hL).2.2.2⟩⟩
  · obtain ⟨g, o, cur, e1, e2, e3, e4, e5, e6⟩ := h2 hr'
    exact ⟨g, o, cur, e1, e2, hr g o e1 hr', e4, e5, e6⟩

theorem HeapCore.mod2 {base hb b : Nat} {w w' : World} {cs : List HC} {CS RM : Value} {F : Nat → Prop} (h : HeapCore base w hb cs CS RM) (k : HeapCore base w b cs CS RM) (m : Mod F w w') (hF : ∀ i, F i → i = hb ∨ i = b ∨ w.heap.size ≤ i) : HeapCore base w' hb cs CS RM := by
  obtain ⟨vs, hl, ho, hp⟩ := h.row
  obtain ⟨vs', hl', ho', hp'⟩ := k.row
  obtain ⟨A, rn, e, h2⟩ := h.room
  obtain ⟨A9, rn9, e9, h9⟩ := k.room
  subst e
  cases e9
  refine ⟨⟨vs, hl, m.row ho (fun i hk hf => ?_), fun n c hc => ?_⟩, ⟨A, rn, rfl, fun hr => ?_⟩, h.apart⟩
  · rcases hF i hf with e | e | e
    · subst e; exact h.apart hk
    · subst e; exact k.apart hk
    · have := (ho.lt i hk).2; omega
  · obtain ⟨A, hv, hw, hs⟩ := hp n c hc
    obtain ⟨A2, hv2, hw2, hs2⟩ := hp' n c hc
    have e := vs_eq ho ho' hc hv hv2
    cases e
    refine ⟨A, hv, hw.keep (fun g o e hL => ?_), hs⟩
    subst e
    have hlt := hw.lt hL
    refine m.block _ hlt (fun hf => ?_)
    rcases hF g hf with e | e | e
    · exact (hs g o rfl hL).2.1 e
    · exact (hs2 g o rfl hL).2.1 e
    · omega
  · obtain ⟨g, o, cur, e1, e2, e3, e4, e5, e6⟩ := h2 hr
    obtain ⟨g', o', cur', e1', _, e3', _⟩ := h9 hr
    subst e1
    cases e1'
    refine ⟨g, o, cur, rfl, e2, e3, e4, (m.block g (heap_lt e5) (fun hf => ?_)).trans e5, e6⟩
    rcases hF g hf with e | e | e
    · exact e3 e
    · exact e3' e
    · have := heap_lt e5; omega

theorem HeapCore.off {base hb : Nat} {w : World} {cs : List HC} {CS RM : Value} (h : HeapCore base w hb cs CS RM) : HeapCore base w w.heap.size cs CS RM := by
  obtain ⟨vs, hl, ho, hp⟩ := h.row
  obtain ⟨A, rn, e, h2⟩ := h.room
  subst e
  refine ⟨⟨vs, hl, ho, fun n c hc => ?_⟩, ⟨A, rn, rfl, fun hr => ?_⟩, fun e => ?_⟩
  · obtain ⟨A, hv, hw, hs⟩ := hp n c hc
    refine ⟨A, hv, hw, fun g o e hL => ?_⟩
    obtain ⟨a1, a2, a3, a4⟩ := hs g o e hL
    subst e
    have hlt := hw.lt hL
    exact ⟨a1, by omega, a3, a4⟩
  · obtain ⟨g, o, cur, e1, e2, e3, e4, e5, e6⟩ := h2 hr
    have := heap_lt e5
    exact ⟨g, o, cur, e1, e2, by omega, e4, e5, e6⟩
  · have := (ho.lt _ e).2; omega
end Go.Proofs.YtaemfjmmklpjeaaGreatDoor
