/- A row of tokens that a call owns and makes longer by append. -/
import Derived.Test.YtkaijnbefbggeaaDoorScanC
import Derived.Maps.AppendAt
import Derived.Maps.OwnIn
set_option linter.unusedVariables false
namespace Go.Proofs.YtkaijnbefbggeaaDoor
open Go.RowKit

theorem info_tok : (Tryd.prog.info? 25).map (fun i => (i.zero, i.size, i.bytes)) = some (some (.agg #[.int .i8 0, .int .i64 0, .string ⟨#[]⟩, .int .i64 0]), 4, 40) := by kernel_rfl
def Tk.cells (t : Tk) : List Value := [.int .i8 t.k, .int .i64 t.n, .string t.s, .int .i64 t.a]
def flatTk (L : List Tk) : List Value := L.flatMap Tk.cells
theorem flatTk_append (a b : List Tk) : flatTk (a ++ b) = flatTk a ++ flatTk b := by simp [flatTk]
theorem flatTk_one (t : Tk) : flatTk [t] = t.cells := by simp [flatTk]
theorem flatTk_at : ∀ {L : List Tk} {i : Nat} {t : Tk} (_ : L[i]? = some t) (j : Nat) (_ : j < 4), (flatTk L)[i * 4 + j]? = t.cells[j]?
  | y :: L, 0, z, h, j, hj => by
    simp at h; subst h
    rw [flatTk, List.flatMap_cons, List.getElem?_append_left (by show _ < 4; omega)]
    simp
  | y :: L, i + 1, z, h, j, hj => by
    have ih := flatTk_at (L := L) (i := i) (t := z) (by simpa using h) j hj
    rw [flatTk, List.flatMap_cons, List.getElem?_append_right (by show 4 ≤ _; omega), show (i + 1) * 4 + j - y.cells.length = i * 4 + j by show _ - 4 = _; omega]
    exact ih
/-- Tokens in a row of the call's own, as tokens in a row. -/
theorem own_tkRow {base : Nat} {w : World} {v : Value} {L : List Tk} (ho : w.ownsRow base 25 4 v L.length (flatTk L)) : ∃ A cap, v = .slice A L.length cap ∧ TkRow w.heap.size w A L := by
  have hown := ho
  rcases ho.2 with ⟨rfl, hn⟩ | ⟨g, cap, cur, rfl, _, hcur, _⟩
  · refine ⟨none, 0, by rw [hn], fun j t hj => ?_⟩
    have := (List.getElem?_eq_some_iff.1 hj).1
    omega
  · refine ⟨_, _, rfl, fun j t hj => ⟨⟨g, 0, none⟩, rfl, heap_lt hcur, ?_⟩⟩
    have at_ : ∀ i u, (flatTk L)[i]? = some u → w.cell? ⟨g, i, none⟩ = some u := by
      intro i u hi
      have := hown.cells (g := g) rfl i u hi
      rwa [show (⟨g, 0, none⟩ : Addr).add i = ⟨g, i, none⟩ by unfold Addr.add; split <;> simp_all] at this
    have e : (⟨g, 0, none⟩ : Addr).add (j * 4) = ⟨g, j * 4, none⟩ := by unfold Addr.add; split <;> simp_all
    unfold RowT
    rw [e]
    exact ⟨at_ _ _ (flatTk_at hj 0 (by decide)), at_ _ _ (flatTk_at hj 1 (by decide)), at_ _ _ (flatTk_at hj 2 (by decide)), at_ _ _ (flatTk_at hj 3 (by decide))⟩

set_option maxRecDepth 100000 in
/-- 'append(tokens, t)', t a token that the statement has just laid at block g. -/
theorem wp_own_tok {o : Oper} {a : Act} {w : World} {K : Act → World → Prop} {Q : Exit → Act → World → Prop} (sl x : Operand)
    (ho : o.op = .call { callee := .builtin .append, args := #[sl, x], argTypes := #[34, 34] })
    {base : Nat} {v : Value} {n : Nat} {xs : List Value} (hown : w.ownsRow base 25 4 v n xs) (hbase : base ≤ w.heap.size) (he : a.eval sl = v)
    (g : Nat) {k m p : Int} {s : ByteArray} (hx : a.eval x = .slice (some ⟨g, 0, none⟩) 1 1) (hg : w.heap[g]? = some (.cells #[.int .i8 k, .int .i64 m, .string s, .int .i64 p] 25 (0, 0))) (hlen : n + 1 ≤ 2000000)
    (h : ∀ v' w', w'.ownsRow base 25 4 v' (n + 1) (xs ++ [.int .i8 k, .int .i64 m, .string s, .int .i64 p]) → w.grownBy w' v.ownBlock → (v'.ownBlock = v.ownBlock ∨ v'.ownBlock = some w.heap.size) → K (a.put o.dst v') w') : o.wp Tryd.prog a w K Q := by
  obtain ⟨i, hi, hz⟩ := Option.map_eq_some_iff.1 info_tok
  simp only [Prod.mk.injEq] at hz
  obtain ⟨hz, hsz, hby⟩ := hz
  have hnews : ∀ j u, [Value.int .i8 k, .int .i64 m, .string s, .int .i64 p][j]? = some u → w.cell? ((⟨g, 0, none⟩ : Addr).add j) = some u := by
    intro j u hj
    match j, hj with
    | 0, hj => simp at hj; subst hj; exact cell_of_row hg rfl
    | 1, hj => simp at hj; subst hj; exact cell_of_row (i := 1) hg rfl
    | 2, hj => simp at hj; subst hj; exact cell_of_row (i := 2) hg rfl
    | 3, hj => simp at hj; subst hj; exact cell_of_row (i := 3) hg rfl
    | j + 4, hj => simp at hj
  have h1 : ∀ u ∈ [Value.int .i8 k, .int .i64 m, .string s, .int .i64 p], u.oneCell' = true := by
    intro u hu; simp at hu; rcases hu with rfl | rfl | rfl | rfl <;> rfl
  obtain ⟨v', w', hr, h2, h3, _, h5⟩ := run_append_own_at (P := Tryd.prog) w base 34 o.type 25 i _ 4 40 Tryd.underlying34 hi hz hsz hby rfl (by decide) v n xs hown ⟨g, 0, none⟩ 1 1 _ rfl hnews h1 (by unfold maxLen; omega) (by omega) hbase
  unfold Oper.wp execOp
  simp only [ho, resolve, invoke, builtin, Sem.run_bind, Sem.run_pure, Result.andThen_ok, List.map_toArray, List.map_cons, List.map_nil, he, hx, hr]
  exact h _ _ h2 h3 h5
set_option maxRecDepth 100000 in
theorem wpList_own_tok {ops : Array Oper} {rest : List Oper} {o : Oper} {a : Act} {w : World} {Q : Exit → Act → World → Prop} (hgd : o.guard = none) (sl x : Operand)
    (ho : o.op = .call { callee := .builtin .append, args := #[sl, x], argTypes := #[34, 34] })
    {base : Nat} {v : Value} {n : Nat} {xs : List Value} (hown : w.ownsRow base 25 4 v n xs) (hbase : base ≤ w.heap.size) (he : a.eval sl = v)
    (g : Nat) {k m p : Int} {s : ByteArray} (hx : a.eval x = .slice (some ⟨g, 0, none⟩) 1 1) (hg : w.heap[g]? = some (.cells #[.int .i8 k, .int .i64 m, .string s, .int .i64 p] 25 (0, 0))) (hlen : n + 1 ≤ 2000000)
    (h : ∀ v' w', w'.ownsRow base 25 4 v' (n + 1) (xs ++ [.int .i8 k, .int .i64 m, .string s, .int .i64 p]) → w.grownBy w' v.ownBlock → (v'.ownBlock = v.ownBlock ∨ v'.ownBlock = some w.heap.size) → wpList Tryd.prog ops Q rest (a.put o.dst v') w') : wpList Tryd.prog ops Q (o :: rest) a w :=
  wpList_plain hgd fun K hK => wp_own_tok sl x ho hown hbase he g hx hg hlen fun v' w' h1 h2 h3 => hK _ _ (h v' w' h1 h2 h3)
set_option maxRecDepth 100000 in
theorem wpListIn_own_tok {F : Fence} {nF : Nat} {ops : Array Oper} {rest : List Oper} {o : Oper} {a : Act} {w : World} {Q : Exit → Act → World → Prop} (hgd : o.guard = none) (sl x : Operand)
    (ho : o.op = .call { callee := .builtin .append, args := #[sl, x], argTypes := #[34, 34] })
    {base : Nat} {v : Value} {n : Nat} {xs : List Value} (hown : w.ownsRow base 25 4 v n xs) (hbase : base ≤ w.heap.size) (he : a.eval sl = v)
    (g : Nat) {k m p : Int} {s : ByteArray} (hx : a.eval x = .slice (some ⟨g, 0, none⟩) 1 1) (hg : w.heap[g]? = some (.cells #[.int .i8 k, .int .i64 m, .string s, .int .i64 p] 25 (0, 0))) (hlen : n + 1 ≤ 2000000)
    (h : ∀ v' w', w'.ownsRow base 25 4 v' (n + 1) (xs ++ [.int .i8 k, .int .i64 m, .string s, .int .i64 p]) → w.grownBy w' v.ownBlock → (v'.ownBlock = v.ownBlock ∨ v'.ownBlock = some w.heap.size) → wpListIn F nF Tryd.prog ops Q rest (a.put o.dst v') w') : wpListIn F nF Tryd.prog ops Q (o :: rest) a w := by
  obtain ⟨i, hi, hz⟩ := Option.map_eq_some_iff.1 info_tok
  simp only [Prod.mk.injEq] at hz
  obtain ⟨hz, hsz, hby⟩ := hz
  have hnews : ∀ j u, [Value.int .i8 k, .int .i64 m, .string s, .int .i64 p][j]? = some u → w.cell? ((⟨g, 0, none⟩ : Addr).add j) = some u := by
    intro j u hj
    match j, hj with
    | 0, hj => simp at hj; subst hj; exact cell_of_row hg rfl
    | 1, hj => simp at hj; subst hj; exact cell_of_row (i := 1) hg rfl
    | 2, hj => simp at hj; subst hj; exact cell_of_row (i := 2) hg rfl
    | 3, hj => simp at hj; subst hj; exact cell_of_row (i := 3) hg rfl
    | j + 4, hj => simp at hj
  have h1 : ∀ u ∈ [Value.int .i8 k, .int .i64 m, .string s, .int .i64 p], u.oneCell' = true := by
    intro u hu; simp at hu; rcases hu with rfl | rfl | rfl | rfl <;> rfl
  exact wpListIn_append_own_at w hgd sl x 34 ho base 25 i _ 4 40 Tryd.underlying34 hi hz hsz hby rfl (by decide) v n xs he hown ⟨g, 0, none⟩ 1 1 _ hx rfl hnews h1 (by unfold maxLen; omega) (by omega) hbase
    (fun v' w' h2 h3 _ h5 => h v' w' h2 h3 h5)
end Go.Proofs.YtkaijnbefbggeaaDoor
