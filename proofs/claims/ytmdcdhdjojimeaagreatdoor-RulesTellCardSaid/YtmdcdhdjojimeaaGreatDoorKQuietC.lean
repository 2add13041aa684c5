/- A region that draws its order, all of whose operations are quiet in a class of worlds, walked once. -/
import Derived.Test.YtmdcdhdjojimeaaGreatDoorKHas7
import Derived.Test.YtmdcdhdjojimeaaGreatDoorKIMay
import Derived.Laws.AppendOwn
import Derived.OwnWalk
import Derived.Maps.AppendAt
import Derived.BigQuiet
import Derived.Deep.QuietTactic
import Derived.Below
section
set_option linter.unusedVariables false
set_option linter.unusedSimpArgs false
namespace Go.Proofs.YtmdcdhdjojimeaaGreatDoor
open Go.RowKit

theorem info_str11 : (Tryz.prog.info? 9).map (fun i => (i.zero, i.size, i.bytes)) = some (some (.string ⟨#[]⟩), 1, 16) := by kernel_rfl
set_option maxRecDepth 100000 in
theorem wp_own_str {o : Oper} {a : Act} {w : World} {K : Act → World → Prop} {Q : Exit → Act → World → Prop} (sl x : Operand)
  (ho : o.op = .call { callee := .builtin .append, args := #[sl, x], argTypes := #[36, 36] })
  {base : Nat} {v : Value} {L : List ByteArray} (hown : w.ownsRow base 9 1 v L.length (L.map .string)) (hbase : base ≤ w.heap.size) (he : a.eval sl = v)
  (g : Nat) {s : ByteArray} (hx : a.eval x = .slice (some ⟨g, 0, none⟩) 1 1) (hg : w.heap[g]? = some (.cells #[.string s] 9 (0, 0))) (hlen : L.length + 1 ≤ 2000000)
  (h : ∀ v' w', w'.ownsRow base 9 1 v' (L ++ [s]).length ((L ++ [s]).map .string) → w.grownBy w' v.ownBlock → (v'.ownBlock = v.ownBlock ∨ v'.ownBlock = some w.heap.size) → K (a.put o.dst v') w') : o.wp Tryz.prog a w K Q := by
 obtain ⟨i, hi, hz⟩ := Option.map_eq_some_iff.1 info_str11
 simp only [Prod.mk.injEq] at hz
 obtain ⟨hz, hsz, hby⟩ := hz
 have hnews : ∀ j u, [Value.string s][j]? = some u → w.cell? ((⟨g, 0, none⟩ : Addr).add j) = some u := by
  intro j u hj
  match j, hj with
  | 0, hj => simp at hj; subst hj; exact cell_of_row hg rfl
  | j + 1, hj => simp at hj
 have h1 : ∀ u ∈ [Value.string s], u.oneCell' = true := by
  intro u hu; simp at hu; subst hu; rfl
 obtain ⟨v', w', hr, h2, h3, _, h5⟩ := run_append_own_at (P := Tryz.prog) w base 36 o.type 9 i _ 1 16 Tryz.underlying36 hi hz hsz hby rfl (by decide) v L.length (L.map .string) hown ⟨g, 0, none⟩ 1 1 _ rfl hnews h1 (by unfold maxLen; omega) (by omega) hbase
 unfold Oper.wp execOp
 simp only [ho, resolve, invoke, builtin, Sem.run_bind, Sem.run_pure, Result.andThen_ok, List.map_toArray, List.map_cons, List.map_nil, he, hx, hr]
 exact h _ _ (by rw [List.length_append, List.map_append]; exact h2) h3 h5
theorem wpList_own_str {ops : Array Oper} {rest : List Oper} {o : Oper} {a : Act} {w : World} {Q : Exit → Act → World → Prop} (hgd : o.guard = none) (sl x : Operand)
  (ho : o.op = .call { callee := .builtin .append, args := #[sl, x], argTypes := #[36, 36] })
  {base : Nat} {v : Value} {L : List ByteArray} (hown : w.ownsRow base 9 1 v L.length (L.map .string)) (hbase : base ≤ w.heap.size) (he : a.eval sl = v)
  (g : Nat) {s : ByteArray} (hx : a.eval x = .slice (some ⟨g, 0, none⟩) 1 1) (hg : w.heap[g]? = some (.cells #[.string s] 9 (0, 0))) (hlen : L.length + 1 ≤ 2000000)
  (h : ∀ v' w', w'.ownsRow base 9 1 v' (L ++ [s]).length ((L ++ [s]).map .string) → w.grownBy w' v.ownBlock → (v'.ownBlock = v.ownBlock ∨ v'.ownBlock = some w.heap.size) → wpList Tryz.prog ops Q rest (a.put o.dst v') w') : wpList Tryz.prog ops Q (o :: rest) a w :=
 wpList_plain hgd fun K hK => wp_own_str sl x ho hown hbase he g hx hg hlen fun v' w' h1 h2 h3 => hK _ _ (h v' w' h1 h2 h3)
theorem srow11 {w : World} {base : Nat} {A : Option Addr} {c : Nat} {L : List ByteArray} (h : w.ownsRow base 9 1 (.slice A L.length c) L.length (L.map .string)) : SRow w A L := by
 intro j b hj
 rcases h.2 with ⟨h1, h2⟩ | ⟨g, cap, cur, hv, hb, hc, hn, h4⟩
 ·simp only [Value.slice.injEq] at h1
  have := (List.getElem?_eq_some_iff.1 hj).1
  omega
 ·cases hv
  exact ⟨⟨g, 0, none⟩, rfl, heap_lt hc, h.cells (g := g) rfl j _ (by rw [List.getElem?_map, hj]; rfl)⟩
end Go.Proofs.YtmdcdhdjojimeaaGreatDoor
end
section
set_option linter.unusedVariables false
set_option linter.unusedSimpArgs false
namespace Go.Proofs.YtmdcdhdjojimeaaGreatDoor
open Go.RowKit

theorem hasL_mem (L : List ByteArray) (s : ByteArray) : hasL L s = true ↔ s ∈ L := by
 unfold hasL
 rw [List.any_eq_true]
 constructor
 ·rintro ⟨b, hb, h⟩
  have h2 : b.data.toList = s.data.toList := eq_of_beq h
  have h3 : b = s := by
   cases b; cases s
   congr 1
   exact Array.toList_inj.1 h2
  exact h3 ▸ hb
 ·intro h
  exact ⟨s, h, beq_self_eq_true _⟩
def fst9 (e : Int) (fl : List (Int × Nat)) : Int := match findF e fl with | some x => (x.2 : Int) | none => -1
theorem findF_append (e : Int) : ∀ (a b : List (Int × Nat)), findF e (a ++ b) = (findF e a).or (findF e b)
 | [], b => by simp [findF]
 | x :: a, b => by
  simp only [List.cons_append, findF]
  by_cases h : x.1 = e
  ·simp [h]
  ·simp [h, findF_append e a b]
theorem fst9_snoc_same (e : Int) (fl : List (Int × Nat)) (p : Nat) : fst9 e (fl ++ [(e, p)]) = if fst9 e fl < 0 then (p : Int) else fst9 e fl := by
 unfold fst9
 rw [findF_append]
 cases h : findF e fl with
 | none => simp [findF]
 | some x => simp; intro h; omega
theorem fst9_snoc_other (e d : Int) (fl : List (Int × Nat)) (p : Nat) (h : d ≠ e) : fst9 e (fl ++ [(d, p)]) = fst9 e fl := by
 unfold fst9
 rw [findF_append]
 simp [findF, h]
structure RCtx where
 w0 : World
 base : Nat
 B : Nat
 ar : Nat
structure RCtx.Ok (X : RCtx) : Prop where
 base : X.base ≤ X.w0.heap.size
 B : X.base ≤ X.B
 ar : X.ar ≤ 8
structure RW9 (X : RCtx) (bound all : List ByteArray) (u s : Int) (p : Nat) (bA : Option Addr) (bc : Nat) (aA : Option Addr) (ac : Nat) (V : World) : Prop where
 below : Below X.base X.w0 V
 box : V.heap[X.B]? = some (.cells #[.slice bA bound.length bc, .int .i64 (p : Int), .int .i64 (X.ar : Int), .int .i64 u, .int .i64 s, .slice aA all.length ac] 57 (0, 0))
 names : V.ownsRow X.base 9 1 (.slice bA bound.length bc) bound.length (bound.map .string)
 order : V.ownsRow X.base 9 1 (.slice aA all.length ac) all.length (all.map .string)
 apart : ∀ k, (Value.slice bA bound.length bc).ownBlock = some k → (Value.slice aA all.length ac).ownBlock ≠ some k
def RAt (X : RCtx) (st : Wk) (p : Nat) (V : World) : Prop := X.Ok ∧ ∃ bA bc aA ac, RW9 X st.bound st.all (fst9 90 st.fl) (fst9 11 st.fl) p bA bc aA ac V
structure KeepW (V V' : World) : Prop where
 size : V.heap.size ≤ V'.heap.size
 cells : ∀ (k : Nat) (c : Array Value) (t : TypeId) (z : Nat × Nat), V.heap[k]? = some (.cells c t z) → t ≠ 57 → t ≠ 9 → V'.heap[k]? = some (.cells c t z)
theorem KeepW.refl (V : World) : KeepW V V := ⟨Nat.le_refl _, fun _ _ _ _ h _ _ => h⟩
theorem KeepW.trans {A B C : World} (h : KeepW A B) (g : KeepW B C) : KeepW A C := ⟨Nat.le_trans h.size g.size, fun k c t z hk h1 h2 => g.cells k c t z (h.cells k c t z hk h1 h2) h1 h2⟩
theorem KeepW.of_below {A B : World} (h : Below A.heap.size A B) : KeepW A B := ⟨h.size, fun k c t z hk _ _ => (h.block k (heap_lt hk)).trans hk⟩
def RTo (X : RCtx) (st : Wk) (p : Nat) (V : World) (e : Ending) (V' : World) : Prop := e = .returned (.tuple #[]) ∧ RAt X st p V' ∧ KeepW V V'
section
variable {X : RCtx} {bound all : List ByteArray} {u s : Int} {p : Nat} {bA aA : Option Addr} {bc ac : Nat} {V V' : World}
theorem RW9.under (h : RW9 X bound all u s p bA bc aA ac V) (hX : X.Ok) (b : Below V.heap.size V V') : RW9 X bound all u s p bA bc aA ac V' :=
 ⟨h.below.trans (b.mono (Nat.le_trans hX.base h.below.size)), (b.block _ (heap_lt h.box)).trans h.box, (Mod.of_below (F := fun _ => False) b).row h.names (fun _ _ f => f), (Mod.of_below (F := fun _ => False) b).row h.order (fun _ _ f => f), h.apart⟩
theorem RW9.set (h : RW9 X bound all u s p bA bc aA ac V) (hX : X.Ok) (i : Nat) (v : Value) (u2 s2 : Int) (p2 : Nat)
  (hc : (#[.slice bA bound.length bc, .int .i64 (p : Int), .int .i64 (X.ar : Int), .int .i64 u, .int .i64 s, .slice aA all.length ac] : Array Value).setIfInBounds i v = #[.slice bA bound.length bc, .int .i64 (p2 : Int), .int .i64 (X.ar : Int), .int .i64 u2, .int .i64 s2, .slice aA all.length ac]) :
  RW9 X bound all u2 s2 p2 bA bc aA ac (V.setCell ⟨X.B, i, none⟩ v) ∧ KeepW V (V.setCell ⟨X.B, i, none⟩ v) := by
 have m : Mod (fun k => k = X.B) V (V.setCell ⟨X.B, i, none⟩ v) := Mod.setCell _ _ _ (.inl rfl)
 have hne : ∀ {e : TypeId} {v : Value} {n : Nat} {xs : List Value}, e ≠ 57 → V.ownsRow X.base e 1 v n xs → ∀ k, v.ownBlock = some k → k ≠ X.B := fun he ho k hk e => by
  obtain ⟨_, cur, h2⟩ := own_blk ho hk
  subst e
  rw [h.box] at h2; cases h2; exact he rfl
 refine ⟨⟨h.below.trans (m.below (Nat.le_trans hX.base h.below.size) (fun k e => by subst e; exact hX.B)), ?_, m.row h.names (hne (by decide) h.names), m.row h.order (hne (by decide) h.order), h.apart⟩, m.size, fun k c t z hk h1 h2 => (m.block k (heap_lt hk) (fun e => ?_)).trans hk⟩
 ·rw [set_row v h.box, hc]
 ·subst e; rw [h.box] at hk; cases hk; exact h1 rfl
theorem rrow_step {X : RCtx} {V V1 : World} {cs : Array Value} {v v' : Value} {n n' : Nat} {xs xs' : List Value} (i : Nat) (hX : X.Ok) (hV : X.base ≤ V.heap.size)
  (hb : V.heap[X.B]? = some (.cells cs 57 (0, 0))) (ho : V.ownsRow X.base 9 1 v n xs) (g : V.grownBy V1 v.ownBlock) (h1 : V1.ownsRow X.base 9 1 v' n' xs') (a : v'.ownBlock = v.ownBlock ∨ v'.ownBlock = some V.heap.size) :
  Mod (fun k => k = X.B ∨ v.ownBlock = some k) V (V1.setCell ⟨X.B, i, none⟩ v') ∧ (V1.setCell ⟨X.B, i, none⟩ v').heap[X.B]? = some (.cells (cs.setIfInBounds i v') 57 (0, 0)) ∧
  (V1.setCell ⟨X.B, i, none⟩ v').ownsRow X.base 9 1 v' n' xs' ∧ Below X.base V (V1.setCell ⟨X.B, i, none⟩ v') ∧ (∀ k, v'.ownBlock = some k → v.ownBlock = some k ∨ V.heap.size ≤ k) ∧ KeepW V (V1.setCell ⟨X.B, i, none⟩ v') := by
 have he : (9 : TypeId) ≠ 57 := by decide
 have hB1 : V1.heap[X.B]? = _ := (g.block _ (heap_lt hb) (fun e' => by
  obtain ⟨_, cur, h2⟩ := own_blk ho e'.symm
  rw [hb] at h2; cases h2)).trans hb
 have m1 : Mod (fun k => v.ownBlock = some k) V V1 := Mod.grown g (fun k _ e => e)
 have m2 : Mod (fun k => k = X.B) V1 (V1.setCell ⟨X.B, i, none⟩ v') := Mod.setCell _ _ _ (.inl rfl)
 have mm : Mod (fun k => k = X.B ∨ v.ownBlock = some k) V (V1.setCell ⟨X.B, i, none⟩ v') := (m1.mono (fun _ _ h => .inr h)).trans m2 (fun _ _ h => .inl h)
 refine ⟨mm, set_row _ hB1, ?_, mm.below hV (fun k hk => ?_), fun k hk => ?_, mm.size, fun k c t z hk h1 h2 => (mm.block k (heap_lt hk) ?_).trans hk⟩
 ·refine own_keep h1 (fun b hv => m2.block b ?_ ?_)
  ·obtain ⟨_, cur, h2⟩ := own_blk h1 hv; exact heap_lt h2
  ·intro e'; subst e'
   obtain ⟨_, cur, h2⟩ := own_blk h1 hv
   rw [hB1] at h2; cases h2
 ·rcases hk with rfl | hk
  ·exact hX.B
  ·exact (own_blk ho hk).1
 ·rcases a with a | a
  ·exact .inl (a.symm.trans hk)
  ·rw [a] at hk; simp only [Option.some.injEq] at hk; exact .inr (by omega)
 ·rintro (rfl | hv)
  ·rw [hb] at hk; cases hk; exact h1 rfl
  ·obtain ⟨_, cur, h3⟩ := own_blk ho hv
   rw [h3] at hk; cases hk; exact h2 rfl
theorem RW9.setb (h : RW9 X bound all u s p bA bc aA ac V) (hX : X.Ok) {V1 : World} {v' : Value} {bound2 : List ByteArray} (g : V.grownBy V1 (Value.slice bA bound.length bc).ownBlock) (h1 : V1.ownsRow X.base 9 1 v' bound2.length (bound2.map .string)) (a : v'.ownBlock = (Value.slice bA bound.length bc).ownBlock ∨ v'.ownBlock = some V.heap.size) :
  ∃ bA2 bc2, v' = .slice bA2 bound2.length bc2 ∧ RW9 X bound2 all u s p bA2 bc2 aA ac (V1.setCell ⟨X.B, 0, none⟩ v') ∧ KeepW V (V1.setCell ⟨X.B, 0, none⟩ v') := by
 obtain ⟨bA2, bc2, rfl, _⟩ := own_slice h1
 obtain ⟨mm, q1, q2, q3, q4, q5⟩ := rrow_step 0 hX (Nat.le_trans hX.base h.below.size) h.box h.names g h1 a
 have hne : ∀ k, (Value.slice aA all.length ac).ownBlock = some k → ¬ (k = X.B ∨ (Value.slice bA bound.length bc).ownBlock = some k) := by
  rintro k hk (rfl | hb)
  ·obtain ⟨_, cur, h2⟩ := own_blk h.order hk
   rw [h.box] at h2; cases h2
  ·exact h.apart k hb hk
 refine ⟨bA2, bc2, rfl, ⟨h.below.trans q3, q1, q2, mm.row h.order hne, fun k hk hk2 => ?_⟩, q5⟩
 rcases q4 k hk with h4 | h4
 ·exact h.apart k h4 hk2
 ·have := (h.order.lt k hk2).2; omega
theorem RW9.seta (h : RW9 X bound all u s p bA bc aA ac V) (hX : X.Ok) {V1 : World} {v' : Value} {all2 : List ByteArray} (g : V.grownBy V1 (Value.slice aA all.length ac).ownBlock) (h1 : V1.ownsRow X.base 9 1 v' all2.length (all2.map .string)) (a : v'.ownBlock = (Value.slice aA all.length ac).ownBlock ∨ v'.ownBlock = some V.heap.size) :
  ∃ aA2 ac2, v' = .slice aA2 all2.length ac2 ∧ RW9 X bound all2 u s p bA bc aA2 ac2 (V1.setCell ⟨X.B, 5, none⟩ v') ∧ KeepW V (V1.setCell ⟨X.B, 5, none⟩ v') := by
 obtain ⟨aA2, ac2, rfl, _⟩ := own_slice h1
 obtain ⟨mm, q1, q2, q3, q4, q5⟩ := rrow_step 5 hX (Nat.le_trans hX.base h.below.size) h.box h.order g h1 a
 have hne : ∀ k, (Value.slice bA bound.length bc).ownBlock = some k → ¬ (k = X.B ∨ (Value.slice aA all.length ac).ownBlock = some k) := by
  rintro k hk (rfl | hb)
  ·obtain ⟨_, cur, h2⟩ := own_blk h.names hk
   rw [h.box] at h2; cases h2
  ·exact h.apart k hk hb
 refine ⟨aA2, ac2, rfl, ⟨h.below.trans q3, q1, mm.row h.names hne, q2, fun k hk hk2 => ?_⟩, q5⟩
 rcases q4 k hk2 with h4 | h4
 ·exact h.apart k hk h4
 ·have := (h.names.lt k hk).2; omega
theorem RW9.cut (h : RW9 X bound all u s p bA bc aA ac V) (hX : X.Ok) (k : Nat) (hk : k ≤ bound.length) :
  RW9 X (bound.take k) all u s p bA bc aA ac (V.setCell ⟨X.B, 0, none⟩ (.slice bA k bc)) ∧ KeepW V (V.setCell ⟨X.B, 0, none⟩ (.slice bA k bc)) := by
 have m : Mod (fun k => k = X.B) V (V.setCell ⟨X.B, 0, none⟩ (.slice bA k bc)) := Mod.setCell _ _ _ (.inl rfl)
 have hne : ∀ {e : TypeId} {v : Value} {n : Nat} {xs : List Value}, e ≠ 57 → V.ownsRow X.base e 1 v n xs → ∀ k, v.ownBlock = some k → k ≠ X.B := fun he ho k hk e => by
  obtain ⟨_, cur, h2⟩ := own_blk ho hk
  subst e
  rw [h.box] at h2; cases h2; exact he rfl
 have hl : (bound.take k).length = k := by rw [List.length_take]; omega
 have hob : ∀ g, (Value.slice bA k bc).ownBlock = some g → (Value.slice bA bound.length bc).ownBlock = some g := fun g hg => by cases bA with | none => cases hg | some a => exact hg
 have hn := own_cut h.names k hk
 rw [← List.map_take] at hn
 refine ⟨⟨h.below.trans (m.below (Nat.le_trans hX.base h.below.size) (fun k e => by subst e; exact hX.B)), ?_, ?_, m.row h.order (hne (by decide) h.order), ?_⟩, m.size, fun k c t z hk h1 h2 => (m.block k (heap_lt hk) (fun e => ?_)).trans hk⟩
 ·rw [hl]; exact set_row _ h.box
 ·rw [hl]; exact m.row hn (hne (by decide) hn)
 ·rw [hl]; exact fun g hg => h.apart g (hob g hg)
 ·subst e; rw [h.box] at hk; cases hk; exact h1 rfl
end
theorem RAt.under {X : RCtx} {st : Wk} {p : Nat} {V V' : World} (h : RAt X st p V) (b : Below V.heap.size V V') : RAt X st p V' := by
 obtain ⟨hX, bA, bc, aA, ac, hR⟩ := h
 exact ⟨hX, bA, bc, aA, ac, hR.under hX b⟩
end Go.Proofs.YtmdcdhdjojimeaaGreatDoor
end
section
set_option linter.unusedVariables false
namespace Go
open Go.RowKit
section
variable {P : Program} {C : World → Prop}
theorem wp_region_qC {id : Nat} {Q : Exit → Act → World → Prop} {a : Act} {w : World} {l : List Oper} (hm : P.follows .mixedOrders = true) (hB : Region.lexB .any l.toArray = true) (hC : C w.drew)
  (h : wpQuiet P l.toArray C (fun a' => ∀ w', C w' → Q .normal a' w') l a) : (Code.region id l.toArray true).wp P Q a w :=
 wp_region_quiet (C := C) hm hB hC (by simpa using h)
theorem wpqC {ops : Array Oper} {Q : Act → Prop} {a : Act} {o : Oper} {rest : List Oper} {v : Value} (hw : Region.wanted o (yielded ops a.tmps) = true) (h : ∀ V, C V → o.quietAt P a C V v) (hr : wpQuiet P ops C Q rest (a.put o.dst v)) : wpQuiet P ops C Q (o :: rest) a :=
 wpQuiet_step fun K hK => by rw [if_pos hw]; exact ⟨v, h, hK _ hr⟩
theorem wpqC_skip {ops : Array Oper} {Q : Act → Prop} {a : Act} {o : Oper} {rest : List Oper} (hw : Region.wanted o (yielded ops a.tmps) = false) (h : wpQuiet P ops C Q rest (a.put o.dst undef)) : wpQuiet P ops C Q (o :: rest) a :=
 wpQuiet_step fun K hK => by rw [if_neg (by rw [hw]; exact Bool.false_ne_true)]; exact hK _ h
end
theorem drewC (w : World) : Below w.heap.size w w.drew := ⟨rfl, rfl, rfl, Nat.le_refl _, fun _ _ => rfl⟩
end Go
end
