/- package heap: a cell more. -/
import Derived.Test.YtphfekcacaaabaaDoorHeapW
import Derived.Maps.AppendAt
set_option linter.unusedVariables false
namespace Go.Proofs.YtphfekcacaaabaaDoor
open Go.RowKit

theorem info_cellb : (Tryd.prog.info? 39).map (fun i => (i.zero, i.size, i.bytes)) = some (some cell0, 3, 40) := by kernel_rfl

set_option maxRecDepth 100000 in
/-- 'append(cells, c)', c a cell that the statement has just laid at block g. -/
theorem wp_own_cell {o : Oper} {a : Act} {w : World} {K : Act → World → Prop} {Q : Exit → Act → World → Prop} (sl x : Operand)
    (ho : o.op = .call { callee := .builtin .append, args := #[sl, x], argTypes := #[54, 54] })
    {base : Nat} {v : Value} {n : Nat} {xs : List Value} (hown : w.ownsRow base 39 3 v n xs) (hbase : base ≤ w.heap.size) (he : a.eval sl = v)
    (g : Nat) {k m : Int} {A : Option Addr} {l cp : Nat} (hx : a.eval x = .slice (some ⟨g, 0, none⟩) 1 1) (hg : w.heap[g]? = some (.cells #[.int .i8 k, .int .i64 m, .slice A l cp] 39 (0, 0))) (hlen : n + 1 ≤ 2000000)
    (h : ∀ v' w', w'.ownsRow base 39 3 v' (n + 1) (xs ++ [.int .i8 k, .int .i64 m, .slice A l cp]) → w.grownBy w' v.ownBlock → (v'.ownBlock = v.ownBlock ∨ v'.ownBlock = some w.heap.size) → K (a.put o.dst v') w') : o.wp Tryd.prog a w K Q := by
  obtain ⟨i, hi, hz⟩ := Option.map_eq_some_iff.1 info_cellb
  simp only [Prod.mk.injEq] at hz
  obtain ⟨hz, hsz, hby⟩ := hz
  have hnews : ∀ j u, [Value.int .i8 k, .int .i64 m, .slice A l cp][j]? = some u → w.cell? ((⟨g, 0, none⟩ : Addr).add j) = some u := by
    intro j u hj
    match j, hj with
    | 0, hj => simp at hj; subst hj; exact cell_of_row hg rfl
    | 1, hj => simp at hj; subst hj; exact cell_of_row (i := 1) hg rfl
    | 2, hj => simp at hj; subst hj; exact cell_of_row (i := 2) hg rfl
    | j + 3, hj => simp at hj
  have h1 : ∀ u ∈ [Value.int .i8 k, .int .i64 m, .slice A l cp], u.oneCell' = true := by
    intro u hu; simp at hu; rcases hu with rfl | rfl | rfl <;> rfl
  obtain ⟨v', w', hr, h2, h3, _, h5⟩ := run_append_own_at (P := Tryd.prog) w base 54 o.type 39 i _ 3 40 Tryd.underlying54 hi hz hsz hby rfl (by decide) v n xs hown ⟨g, 0, none⟩ 1 1 _ rfl hnews h1 (by unfold maxLen; omega) (by omega) hbase
  unfold Oper.wp execOp
  simp only [ho, resolve, invoke, builtin, Sem.run_bind, Sem.run_pure, Result.andThen_ok, List.map_toArray, List.map_cons, List.map_nil, he, hx, hr]
  exact h _ _ h2 h3 h5

/-- The cells, and one more, whose words are written and lie below what is left of the room. -/
theorem HeapCore.push {base : Nat} {w w' : World} {hb : Nat} {cs : List HC} {CS CS' : Value} {RA A : Option Addr} {rn : Nat} (h : HeapCore base w hb cs CS (.slice RA rn rn)) (hbs : hb < w.heap.size) (c : HC) (hA : HeapCore base w hb cs CS (.slice A c.L.length c.L.length)) (hw : WordsAt w A c.L)
    (hap : ∀ g o ro, A = some ⟨g, o, none⟩ → 0 < c.L.length → RA = some ⟨g, ro, none⟩ → 0 < rn → o + c.L.length * 7 ≤ ro)
    (hrow : ∀ vs : List Value, vs.length = cs.length → w.ownsRow base 39 3 CS cs.length (rowC cs vs) → w'.ownsRow base 39 3 CS' (cs.length + 1) (rowC cs vs ++ [.int .i8 c.k, .int .i64 c.size, .slice A c.L.length c.L.length]))
    (hg : w.grownBy w' CS.ownBlock) (hloc : CS'.ownBlock = CS.ownBlock ∨ CS'.ownBlock = some w.heap.size) : HeapCore base w' hb (cs ++ [c]) CS' (.slice RA rn rn) := by
  obtain ⟨vs, hl, ho, hp⟩ := h.row
  obtain ⟨RA', rn', e, hro⟩ := h.room
  cases e
  obtain ⟨A', n', e, hAr⟩ := hA.room
  cases e
  have hown' : ∀ g, g < w.heap.size → CS.ownBlock ≠ some g → CS'.ownBlock ≠ some g := fun g hgl hne e => by
    rcases hloc with h1 | h1
    · exact hne (h1.symm.trans e)
    · rw [h1] at e; injection e with e; omega
  have keep : ∀ g, g < w.heap.size → CS.ownBlock ≠ some g → w'.heap[g]? = w.heap[g]? := fun g hgl hne => hg.block g hgl (fun e => hne e.symm)
  refine ⟨⟨vs ++ [.slice A c.L.length c.L.length], by simp [hl], ?_, fun i d hd => ?_⟩, ⟨RA, rn, rfl, fun hr => ?_⟩, hown' hb hbs h.apart⟩
  · rw [rowC_snoc c _ hl.symm, List.length_append]
    exact hrow vs hl ho
  · rw [List.getElem?_append] at hd
    split at hd
    · rename_i hi
      obtain ⟨B, hv, hwB, hs⟩ := hp i d hd
      refine ⟨B, by rw [List.getElem?_append_left (by omega)]; exact hv, ?_, fun g o e hL => ?_⟩
      · by_cases hL : d.L = []
        · rw [hL]; intro j x hj; simp at hj
        · exact hwB.keep (fun g o e hL => by subst e; exact keep g (hwB.lt hL) (hs g o rfl hL).2.2.1)
      · subst e
        obtain ⟨a1, a2, a3, a4⟩ := hs g o rfl hL
        exact ⟨a1, a2, hown' g (hwB.lt hL) a3, a4⟩
    · rename_i hi
      have hil := (List.getElem?_eq_some_iff.1 hd).1
      have ei : i = cs.length := by simp at hil; omega
      subst ei
      simp at hd
      subst hd
      refine ⟨A, by rw [← hl]; simp, ?_, fun g o e hL => ?_⟩
      · exact hw.keep (fun g o e hL => by
          subst e
          obtain ⟨g', o', cur, e1, e2, e3, e4, e5, e6⟩ := hAr (List.length_pos_iff.2 hL)
          cases e1
          exact keep g (hw.lt hL) e4)
      · subst e
        have hpos := List.length_pos_iff.2 hL
        obtain ⟨g', o', cur, e1, e2, e3, e4, e5, e6⟩ := hAr hpos
        cases e1
        refine ⟨e2, e3, hown' g (heap_lt e5) e4, fun ro rn2 e hr => ?_⟩
        cases e
        exact hap g o ro rfl hpos rfl hr
  · obtain ⟨g, o, cur, e1, e2, e3, e4, e5, e6⟩ := hro hr
    exact ⟨g, o, cur, e1, e2, e3, hown' g (heap_lt e5) e4, (keep g (heap_lt e5) e4).trans e5, e6⟩
end Go.Proofs.YtphfekcacaaabaaDoor
