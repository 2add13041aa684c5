/- Rows of one word, of two. package heap: Cell; a heap's words in a block of their own. -/
import Derived.Test.YtaemfjmmklpjeaaGreatDoorHeapN
import Derived.Test.YtaemfjmmklpjeaaGreatDoorHeapQ
import Derived.Deep.RegionHeld
import Derived.OrdersHeld
import Derived.LoopTactic
import Derived.LoopNIn
import Derived.Maps.AppendAt
set_option linter.unusedVariables false
namespace Go.Proofs.YtaemfjmmklpjeaaGreatDoor
open Go.RowKit

theorem wrow_one {w : World} {g : Nat} {c0 c1 c2 c3 c4 c5 c6 : Value} {T : TypeId} (h : w.heap[g]? = some (.cells #[c0, c1, c2, c3, c4, c5, c6] T (0, 0))) (q : AW) (ha : AWAt (fun b => b = g) w q (.agg #[c0, c1, c2, c3, c4, c5, c6])) :
    WRow (fun b => b = g) w (some ⟨g, 0, none⟩) 1 1 [q] := by
  refine ⟨rfl, Nat.le_refl _, fun j p hj => ?_⟩
  match j, hj with
  | 0, hj =>
    cases hj
    exact ⟨_, _, rfl, rfl, ⟨c0, c1, c2, c3, c4, c5, c6, rfl, cell_of_row (i := 0) h rfl, cell_of_row (i := 1) h rfl, cell_of_row (i := 2) h rfl, cell_of_row (i := 3) h rfl, cell_of_row (i := 4) h rfl, cell_of_row (i := 5) h rfl, cell_of_row (i := 6) h rfl⟩, ha⟩
  | j + 1, hj => simp at hj
theorem aw_leaf (P : Nat → Prop) (w : World) (c : Bool) (a n : Int) (hn : -9223372036854775808 ≤ n ∧ n ≤ 9223372036854775807) : AWAt P w ⟨c, a, .mk 0 n ⟨#[]⟩ ⟨#[]⟩ []⟩ (.agg #[.bool c, .int .i64 a, .int .i8 0, .int .i64 n, .string ⟨#[]⟩, .string ⟨#[]⟩, .slice none 0 0]) :=
  ⟨0, n, _, _, none, 0, 0, rfl, leaf_at P w (by decide) hn (by show 0 ≤ maxLen; omega) (by show 0 ≤ maxLen; omega)⟩

def iW (n : Int) : Tm := .mk 0 n ⟨#[]⟩ ⟨#[]⟩ []
end Go.Proofs.YtaemfjmmklpjeaaGreatDoor
set_option linter.unusedVariables false
namespace Go.Proofs.YtaemfjmmklpjeaaGreatDoor
open Go.RowKit

def flatW (hs : List HW) : List Value := hs.flatMap HW.cells
theorem HW.cells_len (y : HW) : y.cells.length = 7 := by cases y <;> rfl
theorem flatW_at : ∀ {hs : List HW} {i : Nat} {y : HW} (_ : hs[i]? = some y) (j : Nat) (_ : j < 7), (flatW hs)[i * 7 + j]? = y.cells[j]?
  | y :: hs, 0, z, h, j, hj => by
    simp at h; subst h
    rw [flatW, List.flatMap_cons, List.getElem?_append_left (by rw [HW.cells_len]; omega)]
    simp
  | y :: hs, i + 1, z, h, j, hj => by
    have ih := flatW_at (hs := hs) (i := i) (y := z) (by simpa using h) j hj
    rw [flatW, List.flatMap_cons, List.getElem?_append_right (by rw [HW.cells_len]; omega), HW.cells_len, show (i + 1) * 7 + j - 7 = i * 7 + j by omega]
    exact ih

def WordsIn (V : World) (g : Nat) (L : List HW) : Prop := ∀ (j : Nat) (x : HW), L[j]? = some x → ∀ (i : Nat) (u : Value), x.cells[i]? = some u → V.cell? ⟨g, j * 7 + i, none⟩ = some u
theorem WordsIn.keep {V V' : World} {g : Nat} {L : List HW} (h : WordsIn V g L) (hb : V'.heap[g]? = V.heap[g]?) : WordsIn V' g L := fun j x hj i u hi =>
  (World.cell?_of_block (w := V) (a := ⟨g, j * 7 + i, none⟩) hb).trans (h j x hj i u hi)
set_option maxRecDepth 100000 in
theorem wpList_copy_words {ops : Array Oper} {rest : List Oper} {o : Oper} {a : Act} {w : World} {Q : Exit → Act → World → Prop} (hgd : o.guard = none) (sl x : Operand)
    (ho : o.op = .call { callee := .builtin .append, args := #[sl, x], argTypes := #[37, 37] }) (hsl : a.eval sl = .slice none 0 0)
    (A : Option Addr) (L : List HW) (hx : a.eval x = .slice A L.length L.length) (hW : WordsAt w A L) (hlen : L.length ≤ 1000000)
    (h : ∀ A' cap' w', Below w.heap.size w w' → (L ≠ [] → A' = some ⟨w.heap.size, 0, none⟩ ∧ w.heap.size < w'.heap.size ∧ WordsIn w' w.heap.size L) → wpList Tryz.prog ops Q rest (a.put o.dst (.slice A' L.length cap')) w') : wpList Tryz.prog ops Q (o :: rest) a w := by
  refine wpList_plain hgd fun K hK => ?_
  obtain ⟨i, hi, hz⟩ := Option.map_eq_some_iff.1 info_wordb
  simp only [Prod.mk.injEq] at hz
  obtain ⟨hz, hsz, hby⟩ := hz
  have hown := World.ownsRow_nil w w.heap.size 51 7
  by_cases hL : L = []
  · subst hL
    cases A with
    | none =>
      have hr := append_nought (P := Tryz.prog) (ty := o.type) Tryz.underlying37 hi hown 0
      unfold Oper.wp execOp
      simp only [ho, resolve, invoke, builtin, Sem.run_bind, Sem.run_pure, Result.andThen_ok, List.map_toArray, List.map_cons, List.map_nil, hsl, hx, List.length_nil, hr]
      exact hK _ _ (h none 0 w (Below.refl _ _) (fun e => absurd rfl e))
    | some ad =>
      obtain ⟨v', w', hr, h2, h3, h4, h5⟩ := run_append_own_at (P := Tryz.prog) w w.heap.size 37 o.type 51 i _ 7 88 Tryz.underlying37 hi hz hsz hby rfl (by decide) _ 0 [] hown ad 0 0 [] rfl (fun j u hj => by simp at hj) (fun u hu => by simp at hu) (by unfold maxLen; omega) (by omega) (Nat.le_refl _)
      obtain rfl := h4.2 ⟨rfl, rfl⟩
      have hb : Below w.heap.size w w' := (Mod.grown (F := fun _ => False) h3 (fun _ _ e => by simp [Value.ownBlock] at e)).below (Nat.le_refl _) (fun k e => e.elim)
      unfold Oper.wp execOp
      simp only [ho, resolve, invoke, builtin, Sem.run_bind, Sem.run_pure, Result.andThen_ok, List.map_toArray, List.map_cons, List.map_nil, hsl, hx, List.length_nil, hr]
      exact hK _ _ (h none 0 w' hb (fun e => absurd rfl e))
  · have hpos : 0 < L.length := List.length_pos_iff.2 hL
    obtain ⟨g, o', rfl, -⟩ := hW 0 L[0] (List.getElem?_eq_getElem hpos)
    have hfl : (flatW L).length = L.length * 7 := by
      clear hW hx hlen h hpos hL
      induction L with
      | nil => rfl
      | cons y L ih => rw [flatW, List.flatMap_cons, List.length_append, HW.cells_len]; unfold flatW at ih; rw [ih, List.length_cons]; omega
    have hnews : ∀ j u, (flatW L)[j]? = some u → w.cell? ((⟨g, o', none⟩ : Addr).add j) = some u := by
      intro j u hj
      have hjl := (List.getElem?_eq_some_iff.1 hj).1
      have hq : j / 7 < L.length := by omega
      have e7 : j / 7 * 7 + j % 7 = j := by omega
      have h1 := flatW_at (List.getElem?_eq_getElem hq) (j % 7) (by omega)
      rw [e7, hj] at h1
      obtain ⟨g2, o2, e2, h2⟩ := hW (j / 7) L[j / 7] (List.getElem?_eq_getElem hq)
      cases e2
      have h3 := h2 (j % 7) u h1.symm
      rw [show (⟨g, o', none⟩ : Addr).add j = ⟨g, o' + j / 7 * 7 + j % 7, none⟩ by unfold Addr.add; split <;> simp_all <;> omega]
      exact h3
    have h1 : ∀ u ∈ flatW L, u.oneCell' = true := by
      intro u hu
      obtain ⟨y, -, hy⟩ := List.mem_flatMap.1 hu
      cases y <;> simp [HW.cells] at hy <;> rcases hy with rfl | rfl | rfl | rfl | rfl | rfl | rfl <;> rfl
    obtain ⟨v', w', hr, h2, h3, h4, h5⟩ := run_append_own_at (P := Tryz.prog) w w.heap.size 37 o.type 51 i _ 7 88 Tryz.underlying37 hi hz hsz hby rfl (by decide) _ 0 [] hown ⟨g, o', none⟩ L.length L.length (flatW L) hfl hnews h1 (by unfold maxLen; omega) (by omega) (Nat.le_refl _)
    have hb : Below w.heap.size w w' := (Mod.grown (F := fun _ => False) h3 (fun _ _ e => by simp [Value.ownBlock] at e)).below (Nat.le_refl _) (fun k e => e.elim)
    rw [List.nil_append, Nat.zero_add] at h2
    have h2' := h2
    rcases h2'.2 with ⟨_, hz⟩ | ⟨g', cap', cur, rfl, _, hcur, _⟩
    · omega
    · have hg' : g' = w.heap.size := by
        rcases h5 with e | e
        · simp [Value.ownBlock] at e
        · simpa [Value.ownBlock] using e
      subst hg'
      unfold Oper.wp execOp
      simp only [ho, resolve, invoke, builtin, Sem.run_bind, Sem.run_pure, Result.andThen_ok, List.map_toArray, List.map_cons, List.map_nil, hsl, hx, hr]
      refine hK _ _ (h _ cap' w' hb (fun _ => ⟨rfl, heap_lt hcur, fun j x hj i u hu => ?_⟩))
      have hi7 : i < 7 := by
        have := (List.getElem?_eq_some_iff.1 hu).1
        rwa [HW.cells_len] at this
      have h6 := flatW_at hj i hi7
      rw [hu] at h6
      have := h2.cells (g := w.heap.size) rfl (j * 7 + i) u h6
      rwa [show (⟨w.heap.size, 0, none⟩ : Addr).add (j * 7 + i) = ⟨w.heap.size, j * 7 + i, none⟩ by unfold Addr.add; split <;> simp_all] at this

def CellP (c : HC) (w : World) (e : Ending) (w' : World) : Prop :=
  ∃ A cap, e = .returned (.tuple #[.agg #[.int .i8 c.k, .int .i64 c.size, .slice A c.L.length cap], .int .i64 0]) ∧ Below w.heap.size w w' ∧ (c.L ≠ [] → ∃ g, A = some ⟨g, 0, none⟩ ∧ w.heap.size ≤ g ∧ g < w'.heap.size ∧ WordsIn w' g c.L)

set_option maxHeartbeats 4000000 in
set_option maxRecDepth 100000 in
theorem Cell_any {base hb ws : Nat} {cs : List HC} {CS RM : Value} (w : World) (h : HeapAt base w hb cs ws CS RM) (n : Nat) (c : HC) (hc : cs[n]? = some c) (hlen : c.L.length ≤ 1000) :
    Calls Tryz.prog 56 #[.pointer (some ⟨hb, 0, none⟩), .int .i64 n] w (CellP c w) := by
  obtain ⟨g, cap, A, rfl, a0, a1, a2, hW⟩ := h.cell hc
  have hn := (List.getElem?_eq_some_iff.1 hc).1
  obtain ⟨w1, hw1⟩ : ∃ w1, w1 = w.alloc (.cells #[(.int .i8 0), (.int .i64 0), (.slice none 0 0)] 62) := ⟨_, rfl⟩
  have B1 : Below w.heap.size w w1 := by rw [hw1]; exact (Below.refl _ w).alloc (Nat.le_refl _) _
  have z1 : w1.heap[w.heap.size]? = some (.cells #[(.int .i8 0), (.int .i64 0), (.slice none 0 0)] 62 (0, 0)) := by rw [hw1]; exact block_alloc _ _
  have hgl : g < w.heap.size := World.block_lt_of_cell? w _ a0
  have k1 : ∀ i u, w.cell? ⟨g, i, none⟩ = some u → w1.cell? ⟨g, i, none⟩ = some u := fun i u e => (World.cell?_of_block (w := w) (a := ⟨g, i, none⟩) (B1.block g hgl)).trans e
  have a0 := k1 _ _ a0
  have a1 := k1 _ _ a1
  have a2 := k1 _ _ a2
  have h0 : w1.cell? ⟨hb, 0, none⟩ = some (.slice (some ⟨g, 0, none⟩) cs.length cap) := cell_of_row ((B1.block hb (heap_lt h.box)).trans h.box) rfl
  have HHAS := Lib.hid (has_any hb (some ⟨g, 0, none⟩) cs.length cap n w1 h0)
  have i0 : (0 : Int) ≤ (n : Int) := by omega
  have i1 : (n : Int) < (cs.length : Int) := by omega
  have hd : (decide (0 ≤ (n : Int)) && decide ((n : Int) < (cs.length : Int))) = true := by simp [i0, i1]
  have hW1 : WordsAt w1 A c.L := hW.keep (fun g' o' e hL => by rw [e] at hW; exact B1.block g' (hW.lt hL))
  obtain ⟨w2, hw2⟩ : ∃ w2, w2 = w1.alloc (.cells #[(.int .i8 c.k), (.int .i64 c.size), (.slice A c.L.length c.L.length)] 62) := ⟨_, rfl⟩
  have B2 : Below w1.heap.size w1 w2 := by rw [hw2]; exact (Below.refl _ _).alloc (Nat.le_refl _) _
  have z2 : w2.heap[w.heap.size + 1]? = some (.cells #[(.int .i8 c.k), (.int .i64 c.size), (.slice A c.L.length c.L.length)] 62 (0, 0)) := by
    have := block_alloc w1 (.cells #[(.int .i8 c.k), (.int .i64 c.size), (.slice A c.L.length c.L.length)] 62)
    rwa [← hw2, show w1.heap.size = w.heap.size + 1 by rw [hw1]; exact World.size_alloc _ _] at this
  have HW2 : Hid (WordsAt w2 A c.L) := hW1.keep (fun g' o' e hL => by rw [e] at hW1; exact B2.block g' (hW1.lt hL))
  have HB2 := Lib.hid (B1.trans (B2.mono B1.size))
  have HZ1 := Lib.hid ((B2.block _ (heap_lt z1)).trans z1)
  have HZ2 := Lib.hid z2
  have s2 : w2.heap.size = w.heap.size + 2 := by rw [hw2, World.size_alloc, hw1, World.size_alloc]
  have HS2 := Lib.hid s2
  clear h hc hW hW1 B1 B2 k1 z1 z2 s2 hgl
  subst hw2
  subst hw1
  go_enter Tryz.func56, Tryz.ntmps56
  go_wp2_with fail
  refine HHAS.out.mono ?_
  rintro e V1 ⟨rfl, rfl⟩
  rw [hd]
  clear hd
  go_wp2_with (refine wpList_copy_words rfl (.const (.slice none 0 0)) (.tmp 23) rfl rfl A c.L rfl HW2.out (by omega) ?_)
  intro A' cap' w3 hB3 hL3
  generalize (w.alloc (.cells #[(.int .i8 0), (.int .i64 0), (.slice none 0 0)] 62)).alloc (.cells #[(.int .i8 c.k), (.int .i64 c.size), (.slice A c.L.length c.L.length)] 62) = w2 at HW2 HB2 HZ1 HZ2 HS2 hB3 hL3
  have hlo : ∀ g, g = w.heap.size ∨ g = w.heap.size + 1 → g < w.heap.size + 1 + 1 := fun g hg => by omega
  have gA := (hB3.block _ (hlo _ (.inl rfl))).trans HZ1.out
  have gB := (hB3.block _ (hlo _ (.inr rfl))).trans HZ2.out
  have HB3 := Lib.hid hB3
  have HL3 := Lib.hid hL3
  have HGA := Lib.hid gA
  clear hB3 hL3 hlo
  have y0 : w3.cell? ⟨(w.heap.size + 1), 0, none⟩ = some (.int .i8 c.k) := cell_of_row gB rfl
  have y1 : w3.cell? ⟨(w.heap.size + 1), 1, none⟩ = some (.int .i64 c.size) := cell_of_row gB rfl
  have y2 : w3.cell? ⟨(w.heap.size + 1), 2, none⟩ = some (.slice A c.L.length c.L.length) := cell_of_row gB rfl
  have fy0 : w3.frozen? ⟨(w.heap.size + 1), 0, none⟩ = false := free_of_row gB
  have fy1 : w3.frozen? ⟨(w.heap.size + 1), 1, none⟩ = false := free_of_row gB
  have fy2 : w3.frozen? ⟨(w.heap.size + 1), 2, none⟩ = false := free_of_row gB
  have x0 : w3.cell? ⟨w.heap.size, 0, none⟩ = some (.int .i8 0) := cell_of_row gA rfl
  have x1 : w3.cell? ⟨w.heap.size, 1, none⟩ = some (.int .i64 0) := cell_of_row gA rfl
  have x2 : w3.cell? ⟨w.heap.size, 2, none⟩ = some (.slice none 0 0) := cell_of_row gA rfl
  have fx0 : w3.frozen? ⟨w.heap.size, 0, none⟩ = false := free_of_row gA
  have fx1 : w3.frozen? ⟨w.heap.size, 1, none⟩ = false := free_of_row gA
  have fx2 : w3.frozen? ⟨w.heap.size, 2, none⟩ = false := free_of_row gA
  go_wp2_with fail
  have m4 : Mod (fun k => k = w.heap.size + 1) w3 (w3.setCell ⟨w.heap.size + 1, 2, none⟩ (.slice A' c.L.length cap')) := Mod.setCell _ _ _ (.inl rfl)
  obtain ⟨s7, m7⟩ := set_three (.int .i8 c.k) (.int .i64 c.size) (.slice A' c.L.length cap') ((m4.block _ (heap_lt HGA.out) (by omega)).trans HGA.out)
  have hl3 : w.heap.size + 1 + 1 ≤ w3.heap.size := by have := HB3.out.size; have := HS2.out; omega
  have hl4 := m4.size
  generalize (w3.setCell ⟨w.heap.size + 1, 2, none⟩ (.slice A' c.L.length cap')) = w4 at m4 s7 m7 hl4 ⊢
  clear y0 y1 y2 fy0 fy1 fy2 x0 x1 x2 fx0 fx1 fx2
  have hB7 := ((HB2.out.trans (HB3.out.mono (by omega))).trans (m4.below (by omega) (fun k (e : k = w.heap.size + 1) => by omega))).trans (m7.below (by omega) (fun k (e : k = w.heap.size) => by omega))
  generalize ((w4.setCell ⟨w.heap.size, 0, none⟩ (.int .i8 c.k)).setCell ⟨w.heap.size, 1, none⟩ (.int .i64 c.size)).setCell ⟨w.heap.size, 2, none⟩ (.slice A' c.L.length cap') = w7 at s7 m7 hB7 ⊢
  have HM7 := Lib.hid m7
  have HM4 := Lib.hid m4
  have HB7 := Lib.hid hB7
  have x0 : w7.cell? ⟨w.heap.size, 0, none⟩ = some (.int .i8 c.k) := cell_of_row s7 rfl
  have x1 : w7.cell? ⟨w.heap.size, 1, none⟩ = some (.int .i64 c.size) := cell_of_row s7 rfl
  have x2 : w7.cell? ⟨w.heap.size, 2, none⟩ = some (.slice A' c.L.length cap') := cell_of_row s7 rfl
  clear m4 m7 hB7 s7
  refine bodyPost_ret (v := .tuple #[.agg #[.int .i8 c.k, .int .i64 c.size, .slice A' c.L.length cap'], .int .i64 0]) (by simp [results, Tryz.f56, go_sem, x0, x1, x2]) rfl ?_
  refine ⟨A', cap', rfl, HB7.out, fun hL => ?_⟩
  obtain ⟨h1, h2, h3⟩ := HL3.out hL
  have hk : w7.heap[w.heap.size + 1 + 1]? = w3.heap[w.heap.size + 1 + 1]? := (HM7.out.block _ (by omega) (by omega)).trans (HM4.out.block _ h2 (by omega))
  exact ⟨_, h1, by omega, by have := HM7.out.size; omega, h3.keep hk⟩
theorem HSt.At.fresh {s : HSt} {base hb g : Nat} {w : World} (h : s.At base w hb) (hg : w.heap.size ≤ g) : s.Core base w g ∧ g ≠ hb := by
  have hlt := h.lt
  obtain ⟨vs, hvl, ho, hp⟩ := (HeapAt.core h).row
  obtain ⟨A, rn, e, h2⟩ := (HeapAt.core h).room
  refine ⟨⟨⟨vs, hvl, ho, fun n c hc => ?_⟩, ⟨A, rn, e, fun hr => ?_⟩, fun e => ?_⟩, by omega⟩
  · obtain ⟨A, hv, hw, hs⟩ := hp n c hc
    refine ⟨A, hv, hw, fun g' o e hL => ?_⟩
    obtain ⟨a1, a2, a3, a4⟩ := hs g' o e hL
    subst e
    have := hw.lt hL
    exact ⟨a1, by omega, a3, a4⟩
  · obtain ⟨g', o, cur, e1, e2, e3, e4, e5, e6⟩ := h2 hr
    have := heap_lt e5
    exact ⟨g', o, cur, e1, e2, by omega, e4, e5, e6⟩
  · have := (ho.lt _ e).2; omega

theorem may_wgood {n : Nat} {q : AW} (h : mayW n q.c q.a q.x = true) : wgood n q.hw := by
  unfold mayW at h
  unfold AW.hw
  split at h
  · rename_i hc
    rw [if_pos hc]
    simp only [Bool.and_eq_true, decide_eq_true_eq] at h
    show q.a.toNat < n
    omega
  · rename_i hc
    rw [if_neg hc]
    simp only [Bool.and_eq_true, beq_iff_eq] at h
    exact h.1
theorem HGood.len_le {cs : List HC} (hg : HGood cs) {n : Nat} {c : HC} (h : cs[n]? = some c) : c.L.length + 1 ≤ 256 := by
  have h1 := hg.size n c h
  have h2 := hg.most n c h
  have h3 := wsum_ge hg c.L
  omega

end Go.Proofs.YtaemfjmmklpjeaaGreatDoor
