/- A row of words that a call owns and makes longer by append. -/
import Derived.Test.YtphfekcacaaabaaDoorHeapY
set_option linter.unusedVariables false
namespace Go.Proofs.YtphfekcacaaabaaDoor
open Go.RowKit

def flatW (hs : List HW) : List Value := hs.flatMap HW.cells
theorem HW.cells_len (y : HW) : y.cells.length = 7 := by cases y <;> rfl
theorem flatW_append (a b : List HW) : flatW (a ++ b) = flatW a ++ flatW b := by simp [flatW]
theorem flatW_one (y : HW) : flatW [y] = y.cells := by simp [flatW]
theorem flatW_at : ∀ {hs : List HW} {i : Nat} {y : HW} (_ : hs[i]? = some y) (j : Nat) (_ : j < 7), (flatW hs)[i * 7 + j]? = y.cells[j]?
  | y :: hs, 0, z, h, j, hj => by
    simp at h; subst h
    rw [flatW, List.flatMap_cons, List.getElem?_append_left (by rw [HW.cells_len]; omega)]
    simp
  | y :: hs, i + 1, z, h, j, hj => by
    have ih := flatW_at (hs := hs) (i := i) (y := z) (by simpa using h) j hj
    rw [flatW, List.flatMap_cons, List.getElem?_append_right (by rw [HW.cells_len]; omega), HW.cells_len, show (i + 1) * 7 + j - 7 = i * 7 + j by omega]
    exact ih

set_option maxRecDepth 100000 in
/-- 'append(words, x)', x a word that the statement has just laid at block g. -/
theorem wp_own_word {o : Oper} {a : Act} {w : World} {K : Act → World → Prop} {Q : Exit → Act → World → Prop} (sl x : Operand)
    (ho : o.op = .call { callee := .builtin .append, args := #[sl, x], argTypes := #[37, 37] })
    {base : Nat} {v : Value} {n : Nat} {xs : List Value} (hown : w.ownsRow base 27 7 v n xs) (hbase : base ≤ w.heap.size) (he : a.eval sl = v)
    (g : Nat) {b : Bool} {m k l : Int} {s t : ByteArray} (hx : a.eval x = .slice (some ⟨g, 0, none⟩) 1 1) (hg : w.heap[g]? = some (.cells #[.bool b, .int .i64 m, .int .i8 k, .int .i64 l, .string s, .string t, .slice none 0 0] 27 (0, 0))) (hlen : n + 1 ≤ 1000000)
    (h : ∀ v' w', w'.ownsRow base 27 7 v' (n + 1) (xs ++ [.bool b, .int .i64 m, .int .i8 k, .int .i64 l, .string s, .string t, .slice none 0 0]) → w.grownBy w' v.ownBlock → (v'.ownBlock = v.ownBlock ∨ v'.ownBlock = some w.heap.size) → K (a.put o.dst v') w') : o.wp Tryd.prog a w K Q := by
  obtain ⟨i, hi, hz⟩ := Option.map_eq_some_iff.1 info_wordb
  simp only [Prod.mk.injEq] at hz
  obtain ⟨hz, hsz, hby⟩ := hz
  have hnews : ∀ j u, [Value.bool b, .int .i64 m, .int .i8 k, .int .i64 l, .string s, .string t, .slice none 0 0][j]? = some u → w.cell? ((⟨g, 0, none⟩ : Addr).add j) = some u := by
    intro j u hj
    match j, hj with
    | 0, hj => simp at hj; subst hj; exact cell_of_row hg rfl
    | 1, hj => simp at hj; subst hj; exact cell_of_row (i := 1) hg rfl
    | 2, hj => simp at hj; subst hj; exact cell_of_row (i := 2) hg rfl
    | 3, hj => simp at hj; subst hj; exact cell_of_row (i := 3) hg rfl
    | 4, hj => simp at hj; subst hj; exact cell_of_row (i := 4) hg rfl
    | 5, hj => simp at hj; subst hj; exact cell_of_row (i := 5) hg rfl
    | 6, hj => simp at hj; subst hj; exact cell_of_row (i := 6) hg rfl
    | j + 7, hj => simp at hj
  have h1 : ∀ u ∈ [Value.bool b, .int .i64 m, .int .i8 k, .int .i64 l, .string s, .string t, .slice none 0 0], u.oneCell' = true := by
    intro u hu; simp at hu; rcases hu with rfl | rfl | rfl | rfl | rfl | rfl | rfl <;> rfl
  obtain ⟨v', w', hr, h2, h3, _, h5⟩ := run_append_own_at (P := Tryd.prog) w base 37 o.type 27 i _ 7 88 Tryd.underlying37 hi hz hsz hby rfl (by decide) v n xs hown ⟨g, 0, none⟩ 1 1 _ rfl hnews h1 (by unfold maxLen; omega) (by omega) hbase
  unfold Oper.wp execOp
  simp only [ho, resolve, invoke, builtin, Sem.run_bind, Sem.run_pure, Result.andThen_ok, List.map_toArray, List.map_cons, List.map_nil, he, hx, hr]
  exact h _ _ h2 h3 h5
set_option maxRecDepth 100000 in
theorem wpList_own_word {ops : Array Oper} {rest : List Oper} {o : Oper} {a : Act} {w : World} {Q : Exit → Act → World → Prop} (hgd : o.guard = none) (sl x : Operand)
    (ho : o.op = .call { callee := .builtin .append, args := #[sl, x], argTypes := #[37, 37] })
    {base : Nat} {v : Value} {n : Nat} {xs : List Value} (hown : w.ownsRow base 27 7 v n xs) (hbase : base ≤ w.heap.size) (he : a.eval sl = v)
    (g : Nat) {b : Bool} {m k l : Int} {s t : ByteArray} (hx : a.eval x = .slice (some ⟨g, 0, none⟩) 1 1) (hg : w.heap[g]? = some (.cells #[.bool b, .int .i64 m, .int .i8 k, .int .i64 l, .string s, .string t, .slice none 0 0] 27 (0, 0))) (hlen : n + 1 ≤ 1000000)
    (h : ∀ v' w', w'.ownsRow base 27 7 v' (n + 1) (xs ++ [.bool b, .int .i64 m, .int .i8 k, .int .i64 l, .string s, .string t, .slice none 0 0]) → w.grownBy w' v.ownBlock → (v'.ownBlock = v.ownBlock ∨ v'.ownBlock = some w.heap.size) → wpList Tryd.prog ops Q rest (a.put o.dst v') w') : wpList Tryd.prog ops Q (o :: rest) a w :=
  wpList_plain hgd fun K hK => wp_own_word sl x ho hown hbase he g hx hg hlen fun v' w' h1 h2 h3 => hK _ _ (h v' w' h1 h2 h3)

/-- Where the i-th word of such a row lies. -/
theorem ownW_at {base : Nat} {w : World} {v : Value} {hs : List HW} (ho : w.ownsRow base 27 7 v hs.length (flatW hs)) {i : Nat} {y : HW} (hy : hs[i]? = some y) :
    ∃ g cap, v = .slice (some ⟨g, 0, none⟩) hs.length cap ∧ g < w.heap.size ∧ ∀ j u, y.cells[j]? = some u → w.cell? ⟨g, i * 7 + j, none⟩ = some u := by
  have hn := (List.getElem?_eq_some_iff.1 hy).1
  have hown := ho
  rcases ho.2 with ⟨_, hz⟩ | ⟨g, cap, cur, rfl, _, hcur, _⟩
  · omega
  · refine ⟨g, cap, rfl, heap_lt hcur, fun j u hu => ?_⟩
    have hj : j < 7 := by
      have := (List.getElem?_eq_some_iff.1 hu).1
      rwa [HW.cells_len] at this
    have h1 := flatW_at hy j hj
    rw [hu] at h1
    have := hown.cells (g := g) rfl (i * 7 + j) u h1
    rwa [show (⟨g, 0, none⟩ : Addr).add (i * 7 + j) = ⟨g, i * 7 + j, none⟩ by unfold Addr.add; split <;> simp_all] at this
/-- A slice value's shape. -/
theorem ownW_shape {base n : Nat} {w : World} {v : Value} {xs : List Value} (ho : w.ownsRow base 27 7 v n xs) : ∃ A cap, v = .slice A n cap := by
  rcases ho.2 with ⟨rfl, hn⟩ | ⟨g', cap', cur, rfl, _⟩
  · exact ⟨none, 0, by rw [hn]⟩
  · exact ⟨_, _, rfl⟩

/-- The heap and a row of words of the law's own beside it. -/
structure HB (base hb : Nat) (s : HSt) (wv : Value) (hs : List HW) (w V : World) : Prop where
  below : Below base w V
  heap : s.At base V hb
  own : V.ownsRow base 27 7 wv hs.length (flatW hs)
  apart : ∀ g, wv.ownBlock = some g → s.Core base V g ∧ g ≠ hb
section
variable {base hb : Nat} {s s' : HSt} {wv : Value} {hs : List HW} {w V V' : World}
theorem HB.ge (h : HB base hb s wv hs w V) (hb' : base ≤ w.heap.size) : base ≤ V.heap.size := Nat.le_trans hb' h.below.size
theorem HB.under (h : HB base hb s wv hs w V) (hb' : base ≤ w.heap.size) (b : Below V.heap.size V V') : HB base hb s wv hs w V' :=
  ⟨h.below.trans (b.mono (h.ge hb')), h.heap.under b, (Mod.of_below (F := fun _ => False) b).row h.own (fun _ _ f => f), fun g hg => ⟨(h.apart g hg).1.under b, (h.apart g hg).2⟩⟩
theorem HB.move (h : HB base hb s wv hs w V) (hb' : base ≤ w.heap.size) (m : HMove base hb s s' V V') : HB base hb s' wv hs w V' :=
  ⟨h.below.trans (m.above h.heap (h.ge hb')), m.at_, m.mod.row h.own (fun g hg => (h.apart g hg).1.not_fp (h.apart g hg).2), fun g hg => ⟨m.apart g (h.own.lt g hg).2 (h.apart g hg).1, (h.apart g hg).2⟩⟩
/-- The row grows. -/
theorem HB.grow (h : HB base hb s wv hs w V) (hb' : base ≤ w.heap.size) {wv' : Value} {y : HW} (ho : V'.ownsRow base 27 7 wv' (hs.length + 1) (flatW hs ++ y.cells)) (hg : V.grownBy V' wv.ownBlock) (hn : wv'.ownBlock = wv.ownBlock ∨ wv'.ownBlock = some V.heap.size) : HB base hb s wv' (hs ++ [y]) w V' := by
  have hge := h.ge hb'
  have m : Mod (fun g => wv.ownBlock = some g) V V' := Mod.grown hg (fun _ _ e => e)
  have hkeep : ∀ b, s.Core base V b → s.Core base V' b := fun b hc => by
    cases hw : wv.ownBlock with
    | none => exact hc.under (m.below (Nat.le_refl _) (fun k e => by rw [hw] at e; cases e))
    | some g => exact hc.write (h.apart g hw).1 (m.mono (fun k _ e => by rw [hw] at e; injection e with e; exact e.symm))
  refine ⟨h.below.trans (m.below hge (fun k e => (h.own.lt k e).1)), ?_, ?_, fun g hgg => ?_⟩
  · cases hw : wv.ownBlock with
    | none => exact h.heap.under (m.below (Nat.le_refl _) (fun k e => by rw [hw] at e; cases e))
    | some g => exact h.heap.write (h.apart g hw).1 (h.apart g hw).2 (m.mono (fun k _ e => by rw [hw] at e; injection e with e; exact e.symm))
  · rw [List.length_append, List.length_singleton, flatW_append, flatW_one]; exact ho
  · rcases hn with e | e
    · rw [e] at hgg
      exact ⟨hkeep g (h.apart g hgg).1, (h.apart g hgg).2⟩
    · rw [e] at hgg
      injection hgg with hgg
      subst hgg
      exact ⟨hkeep _ h.heap.core.off, by have := h.heap.lt; omega⟩
end
end Go.Proofs.YtphfekcacaaabaaDoor
