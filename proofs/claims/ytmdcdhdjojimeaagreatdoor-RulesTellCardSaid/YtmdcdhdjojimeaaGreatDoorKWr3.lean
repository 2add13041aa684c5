/- Layer 9: the document's own walker: pattern, uses (written by gen_wr3.py). -/
import Derived.Test.YtmdcdhdjojimeaaGreatDoorKWr2
import Derived.LoopTactic
import Derived.LoopNIn
set_option linter.unusedVariables false
set_option linter.unusedSimpArgs false
namespace Go.Proofs.YtmdcdhdjojimeaaGreatDoor
open Go.RowKit

theorem RAt.below {X : RCtx} {st : Wk} {p : Nat} {V : World} (h : RAt X st p V) : Below X.base X.w0 V := by
 obtain ⟨hX, bA, bc, aA, ac, hR⟩ := h
 exact hR.below
theorem relem {base : Nat} {w0 V : World} {A : Option Addr} {n cap j : Nat} {l : List Tm} {y : Tm} (hR : TRow (· < base) w0 A n cap l) (hb : Below base w0 V) (hy : l[j]? = some y) :
  ∃ ad c0 c1 c2 c3 c4, A = some ad ∧ TmAt (· < base) w0 y (.agg #[c0, c1, c2, c3, c4]) ∧ ElemAt V ad j (.agg #[c0, c1, c2, c3, c4]) := by
 obtain ⟨ad, u, e, had, hE, hT⟩ := hR.at_ j y hy
 have hE2 := hE.keep (hb.block _ had)
 obtain ⟨c0, c1, c2, c3, c4, rfl, h0, h1, h2, h3, h4⟩ := hE
 exact ⟨ad, c0, c1, c2, c3, c4, e, hT, hE2⟩
theorem nodes_take9 {l : List Tm} {j : Nat} {y : Tm} (h : l[j]? = some y) : (Tm.pres (l.take j)).length + y.nodes ≤ (Tm.pres l).length := by
 have h1 := Tm.pres_take_succ h
 have h2 : (Tm.pres (l.take (j + 1))).length ≤ (Tm.pres l).length := by
  have h3 : Tm.pres l = Tm.pres (l.take (j + 1)) ++ Tm.pres (l.drop (j + 1)) := by rw [← Tm.pres_append, List.take_append_drop]
  rw [h3, List.length_append]; omega
 rw [h1, List.length_append] at h2
 exact h2
theorem lee_patT {most : Int} {st : Wk} {m p : Nat} (l : List Tm) (j : Nat) (h : st.lee m) : (patW most st p (Tm.pres (l.take j))).lee (m + (Tm.pres (l.take j)).length) := lee_pat _ p h
theorem lee_allT {most : Int} {st : Wk} {m p : Nat} (l : List Tm) (j : Nat) (h : st.lee m) : (allW most st p (l.take j)).lee (m + (Tm.pres (l.take j)).length) := lee_all _ _ _ _ _ h
def Seen9 (st : Wk) (p : Nat) : Prop := fst9 90 st.fl < (p : Int)
theorem Seen9.mono {st : Wk} {p r : Nat} (h : Seen9 st p) (hr : p ≤ r) : Seen9 st r := by unfold Seen9 at *; omega
theorem seen_bind {most : Int} {st : Wk} {s : ByteArray} {p r : Nat} (h : Seen9 st r) : Seen9 (bindW most st s p) r := by
 unfold Seen9 bindW at *
 split
 ·exact h
 ·dsimp only
  split
  ·rw [fst9_snoc_other _ _ _ _ (by decide)]; exact h
  ·exact h
theorem seen_pat {most : Int} : ∀ (L : List Tm) {st : Wk} {p r : Nat}, Seen9 st r → Seen9 (patW most st p L) r
 | [], _, _, _, h => by simpa [patW] using h
 | y :: L, st, p, r, h => by
  rw [patW]
  refine seen_pat L ?_
  split
  ·exact seen_bind h
  ·exact h
theorem seen_told {st : Wk} {s : ByteArray} {p : Nat} (h : Seen9 st p) : Seen9 (toldW st s p) (p + 1) := by
 unfold Seen9 toldW at *
 split
 ·omega
 ·dsimp only
  rw [fst9_snoc_same]
  split <;> omega
theorem seen_back {a b : Wk} {r : Nat} (h : Seen9 b r) : Seen9 (backW a b) r := h
theorem seen_all' {most : Int} : ∀ (l : List Tm), (∀ x ∈ l, ∀ (st : Wk) (p : Nat), Seen9 st p → Seen9 (overW most st p x) (p + x.nodes)) → ∀ (st : Wk) (p : Nat), Seen9 st p → Seen9 (allW most st p l) (p + (Tm.pres l).length)
 | [], _, st, p, h => by rw [allW]; simpa [Tm.pres] using h
 | x :: l, hx, st, p, h => by
  rw [allW, nodes_pres_cons, ← Nat.add_assoc]
  exact seen_all' l (fun y hy => hx y (by simp [hy])) _ _ (hx x (by simp) st p h)
theorem seen_clause' {most : Int} : ∀ (l : List Tm) (i : Nat), (∀ x ∈ l, ∀ (st : Wk) (p : Nat), Seen9 st p → Seen9 (overW most st p x) (p + x.nodes)) → ∀ (st : Wk) (p : Nat), Seen9 st p → Seen9 (clauseW most st p i l) (p + (Tm.pres l).length)
 | [], 0, _, st, p, h => by rw [clauseW]; simpa [Tm.pres] using h; all_goals simp
 | [], i + 1, _, st, p, h => by rw [clauseW]; simpa [Tm.pres] using h; all_goals simp
 | x :: l, 0, hx, st, p, h => by rw [clauseW_0]; exact seen_all' (x :: l) hx st p h
 | x :: l, i + 1, hx, st, p, h => by
  rw [clauseW, nodes_pres_cons, ← Nat.add_assoc]
  exact seen_clause' l i (fun y hy => hx y (by simp [hy])) _ _ (seen_pat _ (h.mono (by omega)))
theorem seen_over (most : Int) (y : Tm) : ∀ (st : Wk) (p : Nat), Seen9 st p → Seen9 (overW most st p y) (p + y.nodes) := by
 induction y using Tm.ind with
 | h k n s t l ih =>
  intro st p h
  rw [nodes_mk9, overW]
  have e : p + ((Tm.pres l).length + 1) = p + 1 + (Tm.pres l).length := by omega
  have h1 : Seen9 st (p + 1) := h.mono (by omega)
  rw [e]
  split
  ·exact (seen_told h).mono (by omega)
  split
  ·cases l with
   | nil => rw [matchW]; exact h1.mono (by omega)
   | cons a l =>
    rw [matchW, nodes_pres_cons]
    refine seen_pat _ ?_
    rw [← Nat.add_assoc]
    exact seen_all' l (fun y hy => ih y (by simp [hy])) _ _ (h1.mono (by omega))
  split
  ·exact seen_back (seen_clause' l _ ih _ _ h1)
  split
  ·exact seen_back (seen_all' l ih _ _ h1)
  split
  ·cases l with
   | nil => rw [tryW]; exact h1.mono (by omega)
   | cons a l =>
    rw [tryW, nodes_pres_cons, ← Nat.add_assoc]
    exact seen_all' l (fun y hy => ih y (by simp [hy])) _ _ (seen_back (ih a (by simp) _ _ h1))
  ·exact seen_all' l ih _ _ h1
theorem seen_all (most : Int) (l : List Tm) (st : Wk) (p : Nat) (h : Seen9 st p) : Seen9 (allW most st p l) (p + (Tm.pres l).length) := seen_all' l (fun x _ => seen_over most x) st p h
def plainN (z : Tm) : Prop := (z.k = 5 → z.l = []) ∧ z.k ≠ 13 ∧ z.k ≠ 3 ∧ z.k ≠ 18 ∧ z.k ≠ 21 ∧ z.k ≠ 19
theorem over_plain {most : Int} {st : Wk} {p : Nat} {k n : Int} {s t : ByteArray} {l : List Tm} (h : k ≠ 13 ∧ k ≠ 3 ∧ k ≠ 18 ∧ k ≠ 21 ∧ k ≠ 19) (h5 : k ≠ 5) : overW most st p (.mk k n s t l) = allW most st (p + 1) l := by
 rw [overW, if_neg h5, if_neg h.1, if_neg h.2.1, if_neg (by rintro (h9 | h9); exact h.2.2.1 h9; exact h.2.2.2.1 h9), if_neg h.2.2.2.2]
theorem over_var {most : Int} {st : Wk} {p : Nat} {n : Int} {s t : ByteArray} {l : List Tm} : overW most st p (.mk 5 n s t l) = toldW st s p := by
 rw [overW, if_pos rfl]
theorem sub_pre {k n : Int} {s t : ByteArray} {l : List Tm} {x z : Tm} (hx : x ∈ l) (hz : z ∈ x.pre) : z ∈ (Tm.mk k n s t l).pre := by
 rw [Tm.pre]
 refine List.mem_cons_of_mem _ ?_
 induction l with
 | nil => simp at hx
 | cons a l ih =>
  rw [Tm.pres, List.mem_append]
  rcases List.mem_cons.1 hx with rfl | hx
  ·exact .inl hz
  ·exact .inr (ih hx)

set_option maxHeartbeats 16000000 in
set_option maxRecDepth 100000 in
theorem rpattern9_any (X : RCtx) (y : Tm) : ∀ (v : Value) (st : Wk) (V : World) (p : Nat), TmAt (· < X.base) X.w0 y v → RAt X st p V → p + y.nodes ≤ 100000 → ∀ m : Nat, st.lee m → m + y.nodes ≤ 100000 →
  Calls Tryz.prog 45 #[.pointer (some ⟨X.B, 0, none⟩), v] V (RTo X (patW (32 - X.ar) st p y.pre) (p + y.nodes) V) := by
 induction y using Tm.ind with
 | h k n s t l ih =>
  intro v st V p hT h hp m hm hml 
  obtain ⟨A, cap, rfl, hRow, hk, hn, hs, ht⟩ := hT.parts
  have hlen := hRow.max
  unfold maxLen at hlen
  rw [nodes_mk9] at hp hml
  obtain ⟨W1, hW1⟩ : ∃ W1, W1 = V.alloc (.cells #[.int .i8 k, .int .i64 n, .string s, .string t, .slice A l.length cap] 25) := ⟨_, rfl⟩
  have b1 : Below V.heap.size V W1 := by rw [hW1]; exact (Below.refl _ _).alloc (Nat.le_refl _) _
  have HG1 : Hid (W1.heap[V.heap.size]? = some (.cells #[.int .i8 k, .int .i64 n, .string s, .string t, .slice A l.length cap] 25 (0, 0))) := Lib.hid (by rw [hW1]; exact block_alloc _ _)
  have HR1 := Lib.hid (h.under b1)
  have HK1 := Lib.hid (KeepW.of_below b1)
  have HRow := Lib.hid hRow
  have HIH := Lib.hid ih
  have HP : Hid (p + ((Tm.pres l).length + 1) ≤ 100000) := Lib.hid hp
  have HM := Lib.hid hm
  have HML : Hid (m + ((Tm.pres l).length + 1) ≤ 100000) := Lib.hid hml
  have hpp : p ≤ 100000 := by omega
  clear b1 hT h hp hRow ih hm hml
  have hg1 := HG1.out
  obtain ⟨x0, x1, x2, x3, x4⟩ := five_of hg1
  clear hg1
  go_enter Tryz.func45, Tryz.ntmps45
  go_upto_region 1 with fail
  rw [← hW1]
  clear hW1
  by_cases h5 : k = 5
  ·subst h5
   have HC := Lib.hid (rbind9_any X st W1 p s HR1.out hpp (lee_mono HM.out (by have := HML.out; omega)))
   go_wp2_with fail
   refine HC.out.mono ?_
   rintro e W2 ⟨rfl, hR2, hK2⟩
   obtain ⟨st1, hst1⟩ : ∃ st1, st1 = (if s.data.toList = [95] then st else bindW (32 - X.ar) st s p) := ⟨_, rfl⟩
   rw [← hst1] at hR2
   have HST := Lib.hid hst1
   have hle : st1.lee (m + 1) := by
    rw [hst1]; split
    ·exact lee_mono HM.out (by omega)
    ·exact lee_bind _ _ HM.out
   have HLE := Lib.hid hle
   have HRC := Lib.hid hR2
   have HKC := Lib.hid (HK1.out.trans hK2)
   have HGC := Lib.hid (hK2.cells _ _ _ _ HG1.out (by decide) (by decide))
   clear hR2 hK2 hst1 hle HC x0 x1 x2 x3 x4
   obtain ⟨hX, bA, bc, aA, ac, hR⟩ := HRC.out
   have hbx := hR.box
   have c1 : (W2).cell? ⟨X.B, 1, none⟩ = some (.int .i64 (p : Int)) := cell_of_row (i := 1) hbx rfl
   have cf : (W2).frozen? ⟨X.B, 1, none⟩ = false := free_of_row (i := 1) hbx
   have hw1 : IntKind.i64.wrap ((p : Int) + 1) = ((p + 1 : Nat) : Int) := by rw [IntKind.wrap_i64]; omega
   obtain ⟨q, hq⟩ : ∃ q : Nat, q = p + 1 := ⟨_, rfl⟩
   have hw2 : (p : Int) + 1 = (q : Int) := by omega
   have hw3 : IntKind.i64.wrap (q : Int) = (q : Int) := by rw [IntKind.wrap_i64]; omega
   obtain ⟨R3, K3⟩ := hR.set hX 1 (.int .i64 (q : Int)) _ _ q rfl
   obtain ⟨W3, hW3⟩ : ∃ W3, W3 = (W2).setCell ⟨X.B, 1, none⟩ (.int .i64 (q : Int)) := ⟨_, rfl⟩
   rw [← hW3] at R3 K3
   have HR3 : Hid (RAt X (st1) q W3) := Lib.hid ⟨hX, bA, bc, aA, ac, R3⟩
   have HK3 := Lib.hid (HKC.out.trans K3)
   have HG3 := Lib.hid (K3.cells _ _ _ _ HGC.out (by decide) (by decide))
   have HQ := Lib.hid hq
   rw [← hq] at hw1
   clear hX hR hbx R3 K3 hq
   go_upto_region 4 with fail
   rw [← hW3]
   clear hW3 c1 cf hw1 hw2 hw3
   go_wp2_with fail
   go_loopw [4] (fun i wr => ∃ j : Nat, j ≤ l.length ∧ i = .int .i64 j ∧ Hid (RAt X (patW (32 - X.ar) (st1) q (Tm.pres (l.take j))) (q + (Tm.pres (l.take j)).length) wr) ∧ Hid (KeepW W3 wr)) (fun i _ => l.length - (intOf i).toNat)
   case atStart => exact ⟨0, Nat.zero_le _, rfl, Lib.hid (by rw [List.take_zero]; exact HR3.out), Lib.hid (.refl _)⟩
   case round =>
    obtain ⟨j, hj, rfl, HRr, HKr⟩ := hrel
    have hgr := HKr.out.cells _ _ _ _ HG3.out (by decide) (by decide)
    have x4 : (wr).cell? ⟨V.heap.size, 4, none⟩ = some (.slice A l.length cap) := cell_of_row (i := 4) hgr rfl
    clear hgr
    by_cases hlt : j < l.length
    ·obtain ⟨y, hy⟩ : ∃ y, l[j]? = some y := ⟨l[j], List.getElem?_eq_getElem hlt⟩
     obtain ⟨ad, c0, c1, c2, c3, c4, rfl, hTy, hEy⟩ := relem HRow.out HRr.out.below hy
     have hmem := List.mem_of_getElem? hy
     have hsz := nodes_take9 hy
     obtain ⟨d0, d1, d2, d3, d4, he, e0, e1, e2, e3, e4⟩ := hEy
     cases he
     have HC := Lib.hid (HIH.out y hmem _ (patW (32 - X.ar) (st1) q (Tm.pres (l.take j))) wr (q + (Tm.pres (l.take j)).length) hTy HRr.out (by have := HP.out; have := HQ.out; omega) (m + 1 + (Tm.pres (l.take j)).length) (lee_patT l j (HLE.out)) (by have := HML.out; omega) )
     have HY := Lib.hid hy
     have HSN := Lib.hid (Tm.pres_take_succ hy)
     clear hTy hy hmem hsz
     go_wp2_with fail
     refine HC.out.mono ?_
     rintro e W9 ⟨rfl, hR9, hK9⟩
     have HR9 := Lib.hid hR9
     have HK9 := Lib.hid (HKr.out.trans hK9)
     clear hR9 hK9 e0 e1 e2 e3 e4 x4 HC
     go_wp2_with fail
     go_roundw
     case rel => exact ⟨j + 1, by omega, by go_num, Lib.hid (by rw [HSN.out, patW_append, List.length_append, ← Nat.add_assoc]; exact HR9.out), HK9⟩
     case measure => simp [intOf]; omega
    ·obtain rfl : j = l.length := by omega
     go_wp2_with fail
     go_end0
     refine ⟨rfl, ?_, HK3.out.trans HKr.out⟩
     have h9 := HRr.out
     rw [List.take_length] at h9
     have hq9 := HQ.out
     rw [nodes_mk9, Tm.pre, patW]
     rw [hq9] at h9
     rw [show p + ((Tm.pres l).length + 1) = p + 1 + (Tm.pres l).length by omega]
     have e9 : (if (5 : Int) = 5 ∧ ¬ s.data.toList = [95] then bindW (32 - X.ar) st s p else st) = st1 := by rw [HST.out]; by_cases hs9 : s.data.toList = [95] <;> simp [hs9]
     show RAt X (patW (32 - X.ar) (if (5 : Int) = 5 ∧ ¬ s.data.toList = [95] then bindW (32 - X.ar) st s p else st) (p + 1) (Tm.pres l)) _ _
     rw [e9]
     exact h9
  ·have h5b : (k == 5) = false := beq_eq_false_iff_ne.2 h5
   have H5 := Lib.hid h5
   have HRC := HR1
   have HKC := HK1
   have HGC := HG1
   have HLE : Hid (st.lee (m + 1)) := Lib.hid (lee_mono HM.out (by omega))
   clear h5
   go_upto_region 3 with fail
   clear x0 x1 x2 x3 x4
   obtain ⟨hX, bA, bc, aA, ac, hR⟩ := HRC.out
   have hbx := hR.box
   have c1 : (W1).cell? ⟨X.B, 1, none⟩ = some (.int .i64 (p : Int)) := cell_of_row (i := 1) hbx rfl
   have cf : (W1).frozen? ⟨X.B, 1, none⟩ = false := free_of_row (i := 1) hbx
   have hw1 : IntKind.i64.wrap ((p : Int) + 1) = ((p + 1 : Nat) : Int) := by rw [IntKind.wrap_i64]; omega
   obtain ⟨q, hq⟩ : ∃ q : Nat, q = p + 1 := ⟨_, rfl⟩
   have hw2 : (p : Int) + 1 = (q : Int) := by omega
   have hw3 : IntKind.i64.wrap (q : Int) = (q : Int) := by rw [IntKind.wrap_i64]; omega
   obtain ⟨R3, K3⟩ := hR.set hX 1 (.int .i64 (q : Int)) _ _ q rfl
   obtain ⟨W3, hW3⟩ : ∃ W3, W3 = (W1).setCell ⟨X.B, 1, none⟩ (.int .i64 (q : Int)) := ⟨_, rfl⟩
   rw [← hW3] at R3 K3
   have HR3 : Hid (RAt X (st) q W3) := Lib.hid ⟨hX, bA, bc, aA, ac, R3⟩
   have HK3 := Lib.hid (HKC.out.trans K3)
   have HG3 := Lib.hid (K3.cells _ _ _ _ HGC.out (by decide) (by decide))
   have HQ := Lib.hid hq
   rw [← hq] at hw1
   clear hX hR hbx R3 K3 hq
   go_upto_region 4 with fail
   rw [← hW3]
   clear hW3 c1 cf hw1 hw2 hw3
   go_wp2_with fail
   go_loopw [4] (fun i wr => ∃ j : Nat, j ≤ l.length ∧ i = .int .i64 j ∧ Hid (RAt X (patW (32 - X.ar) (st) q (Tm.pres (l.take j))) (q + (Tm.pres (l.take j)).length) wr) ∧ Hid (KeepW W3 wr)) (fun i _ => l.length - (intOf i).toNat)
   case atStart => exact ⟨0, Nat.zero_le _, rfl, Lib.hid (by rw [List.take_zero]; exact HR3.out), Lib.hid (.refl _)⟩
   case round =>
    obtain ⟨j, hj, rfl, HRr, HKr⟩ := hrel
    have hgr := HKr.out.cells _ _ _ _ HG3.out (by decide) (by decide)
    have x4 : (wr).cell? ⟨V.heap.size, 4, none⟩ = some (.slice A l.length cap) := cell_of_row (i := 4) hgr rfl
    clear hgr
    by_cases hlt : j < l.length
    ·obtain ⟨y, hy⟩ : ∃ y, l[j]? = some y := ⟨l[j], List.getElem?_eq_getElem hlt⟩
     obtain ⟨ad, c0, c1, c2, c3, c4, rfl, hTy, hEy⟩ := relem HRow.out HRr.out.below hy
     have hmem := List.mem_of_getElem? hy
     have hsz := nodes_take9 hy
     obtain ⟨d0, d1, d2, d3, d4, he, e0, e1, e2, e3, e4⟩ := hEy
     cases he
     have HC := Lib.hid (HIH.out y hmem _ (patW (32 - X.ar) (st) q (Tm.pres (l.take j))) wr (q + (Tm.pres (l.take j)).length) hTy HRr.out (by have := HP.out; have := HQ.out; omega) (m + 1 + (Tm.pres (l.take j)).length) (lee_patT l j (HLE.out)) (by have := HML.out; omega) )
     have HY := Lib.hid hy
     have HSN := Lib.hid (Tm.pres_take_succ hy)
     clear hTy hy hmem hsz
     go_wp2_with fail
     refine HC.out.mono ?_
     rintro e W9 ⟨rfl, hR9, hK9⟩
     have HR9 := Lib.hid hR9
     have HK9 := Lib.hid (HKr.out.trans hK9)
     clear hR9 hK9 e0 e1 e2 e3 e4 x4 HC
     go_wp2_with fail
     go_roundw
     case rel => exact ⟨j + 1, by omega, by go_num, Lib.hid (by rw [HSN.out, patW_append, List.length_append, ← Nat.add_assoc]; exact HR9.out), HK9⟩
     case measure => simp [intOf]; omega
    ·obtain rfl : j = l.length := by omega
     go_wp2_with fail
     go_end0
     refine ⟨rfl, ?_, HK3.out.trans HKr.out⟩
     have h9 := HRr.out
     rw [List.take_length] at h9
     have hq9 := HQ.out
     rw [nodes_mk9, Tm.pre, patW]
     rw [hq9] at h9
     rw [show p + ((Tm.pres l).length + 1) = p + 1 + (Tm.pres l).length by omega]
     show RAt X (patW (32 - X.ar) (if k = 5 ∧ ¬ s.data.toList = [95] then bindW (32 - X.ar) st s p else st) (p + 1) (Tm.pres l)) _ _
     rw [if_neg (show ¬ (k = 5 ∧ ¬ s.data.toList = [95]) from fun h => H5.out h.1)]
     exact h9

attribute [local irreducible] Go.wpQuiet
set_option maxHeartbeats 32000000 in
set_option maxRecDepth 100000 in
theorem ruses9_any (X : RCtx) (y : Tm) : ∀ (v : Value) (st : Wk) (V : World) (p : Nat), TmAt (· < X.base) X.w0 y v → RAt X st p V → p + y.nodes ≤ 100000 → ∀ m : Nat, st.lee m → m + y.nodes ≤ 100000 → (∀ z ∈ y.pre, plainN z) → Seen9 st p →
  Calls Tryz.prog 46 #[.pointer (some ⟨X.B, 0, none⟩), v] V (RTo X (overW (32 - X.ar) st p y) (p + y.nodes) V) := by
 induction y using Tm.ind with
 | h k n s t l ih =>
  intro v st V p hT h hp m hm hml hpl hsn
  obtain ⟨A, cap, rfl, hRow, hk, hn, hs, ht⟩ := hT.parts
  have hlen := hRow.max
  unfold maxLen at hlen
  rw [nodes_mk9] at hp hml
  obtain ⟨W1, hW1⟩ : ∃ W1, W1 = V.alloc (.cells #[.int .i8 k, .int .i64 n, .string s, .string t, .slice A l.length cap] 25) := ⟨_, rfl⟩
  have b1 : Below V.heap.size V W1 := by rw [hW1]; exact (Below.refl _ _).alloc (Nat.le_refl _) _
  have HG1 : Hid (W1.heap[V.heap.size]? = some (.cells #[.int .i8 k, .int .i64 n, .string s, .string t, .slice A l.length cap] 25 (0, 0))) := Lib.hid (by rw [hW1]; exact block_alloc _ _)
  have HR1 := Lib.hid (h.under b1)
  have HK1 := Lib.hid (KeepW.of_below b1)
  have HRow := Lib.hid hRow
  have HIH := Lib.hid ih
  have HP : Hid (p + ((Tm.pres l).length + 1) ≤ 100000) := Lib.hid hp
  have HM := Lib.hid hm
  have HML : Hid (m + ((Tm.pres l).length + 1) ≤ 100000) := Lib.hid hml
  have hpp : p ≤ 100000 := by omega
  clear b1 hT h hp hRow ih hm hml
  have hself := hpl (.mk k n s t l) (by rw [Tm.pre]; simp)
  have HPL := Lib.hid hpl
  have HSE := Lib.hid hsn
  have HSF := Lib.hid hself
  have hbx1 := HR1.out
  obtain ⟨hX1, bA1, bc1, aA1, ac1, hRR⟩ := hbx1
  have HBX := Lib.hid hRR.box
  have HRR := Lib.hid hRR
  have HX := Lib.hid hX1
  have hu0 := hsn
  unfold Seen9 at hu0
  have hbl : st.bound.length ≤ 100000 := by have := HM.out.1; have := HML.out; omega
  have HCH : Hid (∀ V2, Below W1.heap.size W1 V2 → Calls Tryz.prog 66 #[.slice bA1 st.bound.length bc1, .string s] V2 fun e w' => e = .returned (.bool (hasL st.bound s)) ∧ Below V2.heap.size V2 w') := Lib.hid (fun V2 hV2 => rhas_any st.bound s bA1 bc1 V2 (by unfold maxLen; omega) (srow11 (HRR.out.under HX.out hV2).names))
  have HFS := Lib.hid hu0
  clear hpl hsn hself hX1 hRR
  go_enter Tryz.func46, Tryz.ntmps46
  go_upto_region 1 with fail
  rw [← hW1]
  clear hW1
  by_cases h5 : k = 5
  ·subst h5
   have HL0 : Hid (l = []) := Lib.hid (HSF.out.1 rfl)
   have HQL : Hid (∀ st2 q2, allW (32 - X.ar) st2 q2 l = st2) := Lib.hid (fun st2 q2 => by rw [HL0.out, allW])
   cases hh : hasL st.bound s with
   | true =>
    have HH := Lib.hid hh
    have HIN := Lib.hid ((hasL_mem _ _).1 hh)
    clear hh
    refine wp_region_qC (C := fun V => Below (W1).heap.size (W1) V) (by kernel_rfl) (by kernel_rfl) (drewC (W1)) ?_
    refine wpq1 ?_; (try simp only [Act.put, sI, sZ, sS])
    refine wpqC (v := ?_) (by kernel_rfl) ?_ ?_; rotate_left; (intro V hV; (try dsimp only at hV); have g1 := (hV.block _ (heap_lt HG1.out)).trans HG1.out; have x0 := cell_of_row (i := 0) g1 rfl; go_simp; first | done | with_reducible rfl); (try simp only [Act.put, sI, sZ, sS])
    refine wpq1 ?_; (try simp only [Act.put, sI, sZ, sS])
    refine wpq1 ?_; (try simp only [Act.put, sI, sZ, sS])
    refine wpq1 ?_; (try simp only [Act.put, sI, sZ, sS])
    refine wpq1 ?_; (try simp only [Act.put, sI, sZ, sS])
    refine wpq1 ?_; (try simp only [Act.put, sI, sZ, sS])
    refine wpqC (v := ?_) (by kernel_rfl) ?_ ?_; rotate_left; (intro V hV; (try dsimp only at hV); have g2 := (hV.block _ (heap_lt HBX.out)).trans HBX.out; have c0 := cell_of_row (i := 0) g2 rfl; go_simp; first | done | with_reducible rfl); (try simp only [Act.put, sI, sZ, sS])
    refine wpq1 ?_; (try simp only [Act.put, sI, sZ, sS])
    refine wpqC (v := ?_) (by kernel_rfl) ?_ ?_; rotate_left; (intro V hV; (try dsimp only at hV); have g1 := (hV.block _ (heap_lt HG1.out)).trans HG1.out; have x2 := cell_of_row (i := 2) g1 rfl; go_simp; first | done | with_reducible rfl); (try simp only [Act.put, sI, sZ, sS])
    refine wpqC (v := .bool true) (by kernel_rfl) ?_ ?_; (· intro V hV; (try dsimp only at hV); go_simp; refine (HCH.out V hV).mono ?_; rintro e V2 ⟨rfl, bV⟩; exact ⟨by rw [HH.out], hV.trans (bV.mono hV.size)⟩); (try simp only [Act.put, sI, sZ, sS])
    refine wpq1 ?_; (try simp only [Act.put, sI, sZ, sS])
    refine wpq1 ?_; (try simp only [Act.put, sI, sZ, sS])
    refine wpq1 ?_; (try simp only [Act.put, sI, sZ, sS])
    refine wpqC_skip (by kernel_rfl) ?_; (try simp only [Act.put, sI, sZ, sS])
    refine wpqC_skip (by kernel_rfl) ?_; (try simp only [Act.put, sI, sZ, sS])
    refine wpqC_skip (by kernel_rfl) ?_; (try simp only [Act.put, sI, sZ, sS])
    refine wpqC_skip (by kernel_rfl) ?_; (try simp only [Act.put, sI, sZ, sS])
    refine wpqC_skip (by kernel_rfl) ?_; (try simp only [Act.put, sI, sZ, sS])
    refine wpqC_skip (by kernel_rfl) ?_; (try simp only [Act.put, sI, sZ, sS])
    refine wpqC_skip (by kernel_rfl) ?_; (try simp only [Act.put, sI, sZ, sS])
    refine wpqC_skip (by kernel_rfl) ?_; (try simp only [Act.put, sI, sZ, sS])
    refine wpqC_skip (by kernel_rfl) ?_; (try simp only [Act.put, sI, sZ, sS])
    refine wpqC_skip (by kernel_rfl) ?_; (try simp only [Act.put, sI, sZ, sS])
    refine wpqC_skip (by kernel_rfl) ?_; (try simp only [Act.put, sI, sZ, sS])
    refine wpqC_skip (by kernel_rfl) ?_; (try simp only [Act.put, sI, sZ, sS])
    refine wpqC_skip (by kernel_rfl) ?_; (try simp only [Act.put, sI, sZ, sS])
    refine wpqC_skip (by kernel_rfl) ?_; (try simp only [Act.put, sI, sZ, sS])
    refine wpqC_skip (by kernel_rfl) ?_; (try simp only [Act.put, sI, sZ, sS])
    refine wpqC_skip (by kernel_rfl) ?_; (try simp only [Act.put, sI, sZ, sS])
    refine wpq1 ?_; (try simp only [Act.put, sI, sZ, sS])
    refine wpQuiet_nil ?_
    intro V9 h9
    (try dsimp only at h9)
    have HB7 := Lib.hid h9
    clear h9
    have HRC := Lib.hid (HR1.out.under HB7.out)
    have HKC := Lib.hid (HK1.out.trans (.of_below HB7.out))
    have HGC := Lib.hid ((HB7.out.block _ (heap_lt HG1.out)).trans HG1.out)
    go_upto_region 3 with fail
    obtain ⟨hX, bA, bc, aA, ac, hR⟩ := HRC.out
    have hbx := hR.box
    have c1 : (V9).cell? ⟨X.B, 1, none⟩ = some (.int .i64 (p : Int)) := cell_of_row (i := 1) hbx rfl
    have cf : (V9).frozen? ⟨X.B, 1, none⟩ = false := free_of_row (i := 1) hbx
    have hw1 : IntKind.i64.wrap ((p : Int) + 1) = ((p + 1 : Nat) : Int) := by rw [IntKind.wrap_i64]; omega
    obtain ⟨q, hq⟩ : ∃ q : Nat, q = p + 1 := ⟨_, rfl⟩
    have hw2 : (p : Int) + 1 = (q : Int) := by omega
    have hw3 : IntKind.i64.wrap (q : Int) = (q : Int) := by rw [IntKind.wrap_i64]; omega
    obtain ⟨R3, K3⟩ := hR.set hX 1 (.int .i64 (q : Int)) _ _ q rfl
    obtain ⟨W3, hW3⟩ : ∃ W3, W3 = (V9).setCell ⟨X.B, 1, none⟩ (.int .i64 (q : Int)) := ⟨_, rfl⟩
    rw [← hW3] at R3 K3
    have HR3 : Hid (RAt X (st) q W3) := Lib.hid ⟨hX, bA, bc, aA, ac, R3⟩
    have HK3 := Lib.hid (HKC.out.trans K3)
    have HG3 := Lib.hid (K3.cells _ _ _ _ HGC.out (by decide) (by decide))
    have HQ := Lib.hid hq
    rw [← hq] at hw1
    clear hX hR hbx R3 K3 hq
    go_upto_region 4 with fail
    rw [← hW3]
    clear hW3 c1 cf hw1 hw2 hw3
    go_wp2_with fail
    go_loopw [4] (fun i wr => ∃ j : Nat, j ≤ l.length ∧ i = .int .i64 j ∧ Hid (RAt X (allW (32 - X.ar) (st) q (l.take j)) (q + (Tm.pres (l.take j)).length) wr) ∧ Hid (KeepW W3 wr)) (fun i _ => l.length - (intOf i).toNat)
    case atStart => exact ⟨0, Nat.zero_le _, rfl, Lib.hid (by rw [List.take_zero]; exact HR3.out), Lib.hid (.refl _)⟩
    case round =>
     obtain ⟨j, hj, rfl, HRr, HKr⟩ := hrel
     have hgr := HKr.out.cells _ _ _ _ HG3.out (by decide) (by decide)
     have x4 : (wr).cell? ⟨V.heap.size, 4, none⟩ = some (.slice A l.length cap) := cell_of_row (i := 4) hgr rfl
     clear hgr
     by_cases hlt : j < l.length
     ·obtain ⟨y, hy⟩ : ∃ y, l[j]? = some y := ⟨l[j], List.getElem?_eq_getElem hlt⟩
      obtain ⟨ad, c0, c1, c2, c3, c4, rfl, hTy, hEy⟩ := relem HRow.out HRr.out.below hy
      have hmem := List.mem_of_getElem? hy
      have hsz := nodes_take9 hy
      obtain ⟨d0, d1, d2, d3, d4, he, e0, e1, e2, e3, e4⟩ := hEy
      cases he
      have HC := Lib.hid (HIH.out y hmem _ (allW (32 - X.ar) (st) q (l.take j)) wr (q + (Tm.pres (l.take j)).length) hTy HRr.out (by have := HP.out; have := HQ.out; omega) (m + 1 + (Tm.pres (l.take j)).length) (lee_allT l j (lee_mono HM.out (by omega))) (by have := HML.out; omega) (fun z hz => HPL.out z (sub_pre hmem hz)) (by exact absurd hlt (by rw [HL0.out]; simp)))
      have HY := Lib.hid hy
      have HSN := Lib.hid (Tm.pres_take_succ hy)
      clear hTy hy hmem hsz
      go_wp2_with fail
      refine HC.out.mono ?_
      rintro e W9 ⟨rfl, hR9, hK9⟩
      have HR9 := Lib.hid hR9
      have HK9 := Lib.hid (HKr.out.trans hK9)
      clear hR9 hK9 e0 e1 e2 e3 e4 x4 HC
      go_wp2_with fail
      go_roundw
      case rel => exact ⟨j + 1, by omega, by go_num, Lib.hid (by rw [allW_snoc HY.out, HSN.out, List.length_append, ← Nat.add_assoc]; exact HR9.out), HK9⟩
      case measure => simp [intOf]; omega
     ·obtain rfl : j = l.length := by omega
      go_wp2_with fail
      go_end0
      refine ⟨rfl, ?_, HK3.out.trans HKr.out⟩
      have h9 := HRr.out
      rw [List.take_length] at h9
      have hq9 := HQ.out
      rw [HQL.out] at h9; rw [over_var, nodes_mk9, show toldW st s p = st by unfold toldW; rw [if_pos HIN.out]]; rw [show p + ((Tm.pres l).length + 1) = q + (Tm.pres l).length by omega]
      exact h9
   | false =>
    have HH := Lib.hid hh
    have HNI : Hid (¬ s ∈ st.bound) := Lib.hid (fun h => by rw [(hasL_mem _ _).2 h] at hh; cases hh)
    clear hh
    by_cases hneg : fst9 90 st.fl < 0
    ·refine wp_region_qC (C := fun V => Below (W1).heap.size (W1) V) (by kernel_rfl) (by kernel_rfl) (drewC (W1)) ?_
     refine wpq1 ?_; (try simp only [Act.put, sI, sZ, sS])
     refine wpqC (v := ?_) (by kernel_rfl) ?_ ?_; rotate_left; (intro V hV; (try dsimp only at hV); have g1 := (hV.block _ (heap_lt HG1.out)).trans HG1.out; have x0 := cell_of_row (i := 0) g1 rfl; go_simp; first | done | with_reducible rfl); (try simp only [Act.put, sI, sZ, sS])
     refine wpq1 ?_; (try simp only [Act.put, sI, sZ, sS])
     refine wpq1 ?_; (try simp only [Act.put, sI, sZ, sS])
     refine wpq1 ?_; (try simp only [Act.put, sI, sZ, sS])
     refine wpq1 ?_; (try simp only [Act.put, sI, sZ, sS])
     refine wpq1 ?_; (try simp only [Act.put, sI, sZ, sS])
     refine wpqC (v := ?_) (by kernel_rfl) ?_ ?_; rotate_left; (intro V hV; (try dsimp only at hV); have g2 := (hV.block _ (heap_lt HBX.out)).trans HBX.out; have c0 := cell_of_row (i := 0) g2 rfl; go_simp; first | done | with_reducible rfl); (try simp only [Act.put, sI, sZ, sS])
     refine wpq1 ?_; (try simp only [Act.put, sI, sZ, sS])
     refine wpqC (v := ?_) (by kernel_rfl) ?_ ?_; rotate_left; (intro V hV; (try dsimp only at hV); have g1 := (hV.block _ (heap_lt HG1.out)).trans HG1.out; have x2 := cell_of_row (i := 2) g1 rfl; go_simp; first | done | with_reducible rfl); (try simp only [Act.put, sI, sZ, sS])
     refine wpqC (v := .bool false) (by kernel_rfl) ?_ ?_; (· intro V hV; (try dsimp only at hV); go_simp; refine (HCH.out V hV).mono ?_; rintro e V2 ⟨rfl, bV⟩; exact ⟨by rw [HH.out], hV.trans (bV.mono hV.size)⟩); (try simp only [Act.put, sI, sZ, sS])
     refine wpq1 ?_; (try simp only [Act.put, sI, sZ, sS])
     refine wpq1 ?_; (try simp only [Act.put, sI, sZ, sS])
     refine wpq1 ?_; (try simp only [Act.put, sI, sZ, sS])
     refine wpq1 ?_; (try simp only [Act.put, sI, sZ, sS])
     refine wpq1 ?_; (try simp only [Act.put, sI, sZ, sS])
     refine wpq1 ?_; (try simp only [Act.put, sI, sZ, sS])
     refine wpqC (v := ?_) (by kernel_rfl) ?_ ?_; rotate_left; (intro V hV; (try dsimp only at hV); have g2 := (hV.block _ (heap_lt HBX.out)).trans HBX.out; have c3 := cell_of_row (i := 3) g2 rfl; go_simp; first | done | with_reducible rfl); (try simp only [Act.put, sI, sZ, sS])
     refine wpq1 ?_; (try simp only [Act.put, sI, sZ, sS])
     refine wpq1 ?_; (try simp only [Act.put, sI, sZ, sS])
     refine wpqC_skip (by kernel_rfl) ?_; (try simp only [Act.put, sI, sZ, sS])
     refine wpqC_skip (by kernel_rfl) ?_; (try simp only [Act.put, sI, sZ, sS])
     refine wpqC_skip (by kernel_rfl) ?_; (try simp only [Act.put, sI, sZ, sS])
     refine wpqC_skip (by kernel_rfl) ?_; (try simp only [Act.put, sI, sZ, sS])
     refine wpqC_skip (by kernel_rfl) ?_; (try simp only [Act.put, sI, sZ, sS])
     refine wpqC_skip (by kernel_rfl) ?_; (try simp only [Act.put, sI, sZ, sS])
     refine wpqC_skip (by kernel_rfl) ?_; (try simp only [Act.put, sI, sZ, sS])
     refine wpqC_skip (by kernel_rfl) ?_; (try simp only [Act.put, sI, sZ, sS])
     refine wpqC_skip (by kernel_rfl) ?_; (try simp only [Act.put, sI, sZ, sS])
     refine wpq1 ?_; (try simp only [Act.put, sI, sZ, sS])
     refine wpq1 ?_; (try simp only [Act.put, sI, sZ, sS])
     refine wpQuiet_nil ?_
     intro V9 h9
     (try dsimp only at h9)
     have HB7 := Lib.hid h9
     clear h9
     have HRC := Lib.hid (HR1.out.under HB7.out)
     have HKC := Lib.hid (HK1.out.trans (.of_below HB7.out))
     have HGC := Lib.hid ((HB7.out.block _ (heap_lt HG1.out)).trans HG1.out)
     have HUN := Lib.hid hneg
     obtain ⟨hX2, bA, bc, aA, ac, hR2⟩ := HRC.out
     have hbx2 := hR2.box
     have c1 : (V9).cell? ⟨X.B, 1, none⟩ = some (.int .i64 (p : Int)) := cell_of_row (i := 1) hbx2 rfl
     have c3 : (V9).cell? ⟨X.B, 3, none⟩ = some (.int .i64 (fst9 90 st.fl)) := cell_of_row (i := 3) hbx2 rfl
     have cf : (V9).frozen? ⟨X.B, 3, none⟩ = false := free_of_row (i := 3) hbx2
     obtain ⟨R4, K4⟩ := hR2.set hX2 3 (.int .i64 (p : Int)) (p : Int) _ p rfl
     obtain ⟨W4, hW4⟩ : ∃ W4, W4 = V9.setCell ⟨X.B, 3, none⟩ (.int .i64 (p : Int)) := ⟨_, rfl⟩
     rw [← hW4] at R4 K4
     obtain ⟨st1, hst1⟩ : ∃ st1, st1 = toldW st s p := ⟨_, rfl⟩
     have e1 : st1.bound = st.bound ∧ st1.all = st.all ∧ fst9 90 st1.fl = (p : Int) ∧ fst9 11 st1.fl = fst9 11 st.fl := by
      rw [hst1]; unfold toldW; rw [if_neg HNI.out]
      exact ⟨rfl, rfl, by rw [fst9_snoc_same, if_pos HUN.out], fst9_snoc_other _ _ _ _ (by decide)⟩
     have hR4 : RAt X st1 p W4 := ⟨hX2, bA, bc, aA, ac, by rw [e1.1, e1.2.1, e1.2.2.1, e1.2.2.2]; exact R4⟩
     have HLE : Hid (st1.lee (m + 1)) := Lib.hid (by rw [hst1]; exact lee_told _ _ HM.out)
     have HST := Lib.hid hst1
     have HRC2 := Lib.hid hR4
     have HKC2 := Lib.hid (HKC.out.trans K4)
     have HGC2 := Lib.hid (K4.cells _ _ _ _ HGC.out (by decide) (by decide))
     clear hX2 hR2 hbx2 R4 K4 hst1 e1 hR4 HRC HKC HGC
     go_upto_region 3 with fail
     rw [← hW4]
     clear hW4 c1 c3 cf
     have HRC := HRC2
     have HKC := HKC2
     have HGC := HGC2
     obtain ⟨hX, bA, bc, aA, ac, hR⟩ := HRC.out
     have hbx := hR.box
     have c1 : (W4).cell? ⟨X.B, 1, none⟩ = some (.int .i64 (p : Int)) := cell_of_row (i := 1) hbx rfl
     have cf : (W4).frozen? ⟨X.B, 1, none⟩ = false := free_of_row (i := 1) hbx
     have hw1 : IntKind.i64.wrap ((p : Int) + 1) = ((p + 1 : Nat) : Int) := by rw [IntKind.wrap_i64]; omega
     obtain ⟨q, hq⟩ : ∃ q : Nat, q = p + 1 := ⟨_, rfl⟩
     have hw2 : (p : Int) + 1 = (q : Int) := by omega
     have hw3 : IntKind.i64.wrap (q : Int) = (q : Int) := by rw [IntKind.wrap_i64]; omega
     obtain ⟨R3, K3⟩ := hR.set hX 1 (.int .i64 (q : Int)) _ _ q rfl
     obtain ⟨W3, hW3⟩ : ∃ W3, W3 = (W4).setCell ⟨X.B, 1, none⟩ (.int .i64 (q : Int)) := ⟨_, rfl⟩
     rw [← hW3] at R3 K3
     have HR3 : Hid (RAt X (st1) q W3) := Lib.hid ⟨hX, bA, bc, aA, ac, R3⟩
     have HK3 := Lib.hid (HKC.out.trans K3)
     have HG3 := Lib.hid (K3.cells _ _ _ _ HGC.out (by decide) (by decide))
     have HQ := Lib.hid hq
     rw [← hq] at hw1
     clear hX hR hbx R3 K3 hq
     go_upto_region 4 with fail
     rw [← hW3]
     clear hW3 c1 cf hw1 hw2 hw3
     go_wp2_with fail
     go_loopw [4] (fun i wr => ∃ j : Nat, j ≤ l.length ∧ i = .int .i64 j ∧ Hid (RAt X (allW (32 - X.ar) (st1) q (l.take j)) (q + (Tm.pres (l.take j)).length) wr) ∧ Hid (KeepW W3 wr)) (fun i _ => l.length - (intOf i).toNat)
     case atStart => exact ⟨0, Nat.zero_le _, rfl, Lib.hid (by rw [List.take_zero]; exact HR3.out), Lib.hid (.refl _)⟩
     case round =>
      obtain ⟨j, hj, rfl, HRr, HKr⟩ := hrel
      have hgr := HKr.out.cells _ _ _ _ HG3.out (by decide) (by decide)
      have x4 : (wr).cell? ⟨V.heap.size, 4, none⟩ = some (.slice A l.length cap) := cell_of_row (i := 4) hgr rfl
      clear hgr
      by_cases hlt : j < l.length
      ·obtain ⟨y, hy⟩ : ∃ y, l[j]? = some y := ⟨l[j], List.getElem?_eq_getElem hlt⟩
       obtain ⟨ad, c0, c1, c2, c3, c4, rfl, hTy, hEy⟩ := relem HRow.out HRr.out.below hy
       have hmem := List.mem_of_getElem? hy
       have hsz := nodes_take9 hy
       obtain ⟨d0, d1, d2, d3, d4, he, e0, e1, e2, e3, e4⟩ := hEy
       cases he
       have HC := Lib.hid (HIH.out y hmem _ (allW (32 - X.ar) (st1) q (l.take j)) wr (q + (Tm.pres (l.take j)).length) hTy HRr.out (by have := HP.out; have := HQ.out; omega) (m + 1 + (Tm.pres (l.take j)).length) (lee_allT l j (HLE.out)) (by have := HML.out; omega) (fun z hz => HPL.out z (sub_pre hmem hz)) (by exact absurd hlt (by rw [HL0.out]; simp)))
       have HY := Lib.hid hy
       have HSN := Lib.hid (Tm.pres_take_succ hy)
       clear hTy hy hmem hsz
       go_wp2_with fail
       refine HC.out.mono ?_
       rintro e W9 ⟨rfl, hR9, hK9⟩
       have HR9 := Lib.hid hR9
       have HK9 := Lib.hid (HKr.out.trans hK9)
       clear hR9 hK9 e0 e1 e2 e3 e4 x4 HC
       go_wp2_with fail
       go_roundw
       case rel => exact ⟨j + 1, by omega, by go_num, Lib.hid (by rw [allW_snoc HY.out, HSN.out, List.length_append, ← Nat.add_assoc]; exact HR9.out), HK9⟩
       case measure => simp [intOf]; omega
      ·obtain rfl : j = l.length := by omega
       go_wp2_with fail
       go_end0
       refine ⟨rfl, ?_, HK3.out.trans HKr.out⟩
       have h9 := HRr.out
       rw [List.take_length] at h9
       have hq9 := HQ.out
       rw [HQL.out] at h9; rw [over_var, nodes_mk9, ← HST.out]; rw [show p + ((Tm.pres l).length + 1) = q + (Tm.pres l).length by omega]
       exact h9
    ·have hpos : ¬ (p : Int) < fst9 90 st.fl := by omega
     refine wp_region_qC (C := fun V => Below (W1).heap.size (W1) V) (by kernel_rfl) (by kernel_rfl) (drewC (W1)) ?_
     refine wpq1 ?_; (try simp only [Act.put, sI, sZ, sS])
     refine wpqC (v := ?_) (by kernel_rfl) ?_ ?_; rotate_left; (intro V hV; (try dsimp only at hV); have g1 := (hV.block _ (heap_lt HG1.out)).trans HG1.out; have x0 := cell_of_row (i := 0) g1 rfl; go_simp; first | done | with_reducible rfl); (try simp only [Act.put, sI, sZ, sS])
     refine wpq1 ?_; (try simp only [Act.put, sI, sZ, sS])
     refine wpq1 ?_; (try simp only [Act.put, sI, sZ, sS])
     refine wpq1 ?_; (try simp only [Act.put, sI, sZ, sS])
     refine wpq1 ?_; (try simp only [Act.put, sI, sZ, sS])
     refine wpq1 ?_; (try simp only [Act.put, sI, sZ, sS])
     refine wpqC (v := ?_) (by kernel_rfl) ?_ ?_; rotate_left; (intro V hV; (try dsimp only at hV); have g2 := (hV.block _ (heap_lt HBX.out)).trans HBX.out; have c0 := cell_of_row (i := 0) g2 rfl; go_simp; first | done | with_reducible rfl); (try simp only [Act.put, sI, sZ, sS])
     refine wpq1 ?_; (try simp only [Act.put, sI, sZ, sS])
     refine wpqC (v := ?_) (by kernel_rfl) ?_ ?_; rotate_left; (intro V hV; (try dsimp only at hV); have g1 := (hV.block _ (heap_lt HG1.out)).trans HG1.out; have x2 := cell_of_row (i := 2) g1 rfl; go_simp; first | done | with_reducible rfl); (try simp only [Act.put, sI, sZ, sS])
     refine wpqC (v := .bool false) (by kernel_rfl) ?_ ?_; (· intro V hV; (try dsimp only at hV); go_simp; refine (HCH.out V hV).mono ?_; rintro e V2 ⟨rfl, bV⟩; exact ⟨by rw [HH.out], hV.trans (bV.mono hV.size)⟩); (try simp only [Act.put, sI, sZ, sS])
     refine wpq1 ?_; (try simp only [Act.put, sI, sZ, sS])
     refine wpq1 ?_; (try simp only [Act.put, sI, sZ, sS])
     refine wpq1 ?_; (try simp only [Act.put, sI, sZ, sS])
     refine wpq1 ?_; (try simp only [Act.put, sI, sZ, sS])
     refine wpq1 ?_; (try simp only [Act.put, sI, sZ, sS])
     refine wpq1 ?_; (try simp only [Act.put, sI, sZ, sS])
     refine wpqC (v := ?_) (by kernel_rfl) ?_ ?_; rotate_left; (intro V hV; (try dsimp only at hV); have g2 := (hV.block _ (heap_lt HBX.out)).trans HBX.out; have c3 := cell_of_row (i := 3) g2 rfl; go_simp; first | done | with_reducible rfl); (try simp only [Act.put, sI, sZ, sS])
     refine wpq1 ?_; (try simp only [Act.put, sI, sZ, sS])
     refine wpq1 ?_; (try simp only [Act.put, sI, sZ, sS])
     refine wpq1 ?_; (try simp only [Act.put, sI, sZ, sS])
     refine wpq1 ?_; (try simp only [Act.put, sI, sZ, sS])
     refine wpq1 ?_; (try simp only [Act.put, sI, sZ, sS])
     refine wpqC (v := ?_) (by kernel_rfl) ?_ ?_; rotate_left; (intro V hV; (try dsimp only at hV); have g2 := (hV.block _ (heap_lt HBX.out)).trans HBX.out; have c1 := cell_of_row (i := 1) g2 rfl; go_simp; first | done | with_reducible rfl); (try simp only [Act.put, sI, sZ, sS])
     refine wpq1 ?_; (try simp only [Act.put, sI, sZ, sS])
     refine wpq1 ?_; (try simp only [Act.put, sI, sZ, sS])
     refine wpq1 ?_; (try simp only [Act.put, sI, sZ, sS])
     refine wpqC (v := ?_) (by kernel_rfl) ?_ ?_; rotate_left; (intro V hV; (try dsimp only at hV); have g2 := (hV.block _ (heap_lt HBX.out)).trans HBX.out; have c3 := cell_of_row (i := 3) g2 rfl; go_simp; first | done | with_reducible rfl); (try simp only [Act.put, sI, sZ, sS])
     refine wpq1 ?_; (try simp only [Act.put, sI, sZ, sS])
     refine wpq1 ?_; (try simp only [Act.put, sI, sZ, sS])
     refine wpq1 ?_; (try simp only [Act.put, sI, sZ, sS])
     refine wpQuiet_nil ?_
     intro V9 h9
     (try dsimp only at h9)
     have HB7 := Lib.hid h9
     clear h9
     have HRC := Lib.hid (HR1.out.under HB7.out)
     have HKC := Lib.hid (HK1.out.trans (.of_below HB7.out))
     have HGC := Lib.hid ((HB7.out.block _ (heap_lt HG1.out)).trans HG1.out)
     have HUN := Lib.hid hneg
     obtain ⟨hX2, bA, bc, aA, ac, hR2⟩ := HRC.out
     obtain ⟨st1, hst1⟩ : ∃ st1, st1 = toldW st s p := ⟨_, rfl⟩
     have e1 : st1.bound = st.bound ∧ st1.all = st.all ∧ fst9 90 st1.fl = fst9 90 st.fl ∧ fst9 11 st1.fl = fst9 11 st.fl := by
      rw [hst1]; unfold toldW; rw [if_neg HNI.out]
      exact ⟨rfl, rfl, by rw [fst9_snoc_same, if_neg HUN.out], fst9_snoc_other _ _ _ _ (by decide)⟩
     have hR4 : RAt X st1 p V9 := ⟨hX2, bA, bc, aA, ac, by rw [e1.1, e1.2.1, e1.2.2.1, e1.2.2.2]; exact hR2⟩
     have HLE : Hid (st1.lee (m + 1)) := Lib.hid (by rw [hst1]; exact lee_told _ _ HM.out)
     have HST := Lib.hid hst1
     have HRC := Lib.hid hR4
     clear hX2 hR2 hst1 e1 hR4 hpos hneg
     go_upto_region 3 with fail
     obtain ⟨hX, bA, bc, aA, ac, hR⟩ := HRC.out
     have hbx := hR.box
     have c1 : (V9).cell? ⟨X.B, 1, none⟩ = some (.int .i64 (p : Int)) := cell_of_row (i := 1) hbx rfl
     have cf : (V9).frozen? ⟨X.B, 1, none⟩ = false := free_of_row (i := 1) hbx
     have hw1 : IntKind.i64.wrap ((p : Int) + 1) = ((p + 1 : Nat) : Int) := by rw [IntKind.wrap_i64]; omega
     obtain ⟨q, hq⟩ : ∃ q : Nat, q = p + 1 := ⟨_, rfl⟩
     have hw2 : (p : Int) + 1 = (q : Int) := by omega
     have hw3 : IntKind.i64.wrap (q : Int) = (q : Int) := by rw [IntKind.wrap_i64]; omega
     obtain ⟨R3, K3⟩ := hR.set hX 1 (.int .i64 (q : Int)) _ _ q rfl
     obtain ⟨W3, hW3⟩ : ∃ W3, W3 = (V9).setCell ⟨X.B, 1, none⟩ (.int .i64 (q : Int)) := ⟨_, rfl⟩
     rw [← hW3] at R3 K3
     have HR3 : Hid (RAt X (st1) q W3) := Lib.hid ⟨hX, bA, bc, aA, ac, R3⟩
     have HK3 := Lib.hid (HKC.out.trans K3)
     have HG3 := Lib.hid (K3.cells _ _ _ _ HGC.out (by decide) (by decide))
     have HQ := Lib.hid hq
     rw [← hq] at hw1
     clear hX hR hbx R3 K3 hq
     go_upto_region 4 with fail
     rw [← hW3]
     clear hW3 c1 cf hw1 hw2 hw3
     go_wp2_with fail
     go_loopw [4] (fun i wr => ∃ j : Nat, j ≤ l.length ∧ i = .int .i64 j ∧ Hid (RAt X (allW (32 - X.ar) (st1) q (l.take j)) (q + (Tm.pres (l.take j)).length) wr) ∧ Hid (KeepW W3 wr)) (fun i _ => l.length - (intOf i).toNat)
     case atStart => exact ⟨0, Nat.zero_le _, rfl, Lib.hid (by rw [List.take_zero]; exact HR3.out), Lib.hid (.refl _)⟩
     case round =>
      obtain ⟨j, hj, rfl, HRr, HKr⟩ := hrel
      have hgr := HKr.out.cells _ _ _ _ HG3.out (by decide) (by decide)
      have x4 : (wr).cell? ⟨V.heap.size, 4, none⟩ = some (.slice A l.length cap) := cell_of_row (i := 4) hgr rfl
      clear hgr
      by_cases hlt : j < l.length
      ·obtain ⟨y, hy⟩ : ∃ y, l[j]? = some y := ⟨l[j], List.getElem?_eq_getElem hlt⟩
       obtain ⟨ad, c0, c1, c2, c3, c4, rfl, hTy, hEy⟩ := relem HRow.out HRr.out.below hy
       have hmem := List.mem_of_getElem? hy
       have hsz := nodes_take9 hy
       obtain ⟨d0, d1, d2, d3, d4, he, e0, e1, e2, e3, e4⟩ := hEy
       cases he
       have HC := Lib.hid (HIH.out y hmem _ (allW (32 - X.ar) (st1) q (l.take j)) wr (q + (Tm.pres (l.take j)).length) hTy HRr.out (by have := HP.out; have := HQ.out; omega) (m + 1 + (Tm.pres (l.take j)).length) (lee_allT l j (HLE.out)) (by have := HML.out; omega) (fun z hz => HPL.out z (sub_pre hmem hz)) (by exact absurd hlt (by rw [HL0.out]; simp)))
       have HY := Lib.hid hy
       have HSN := Lib.hid (Tm.pres_take_succ hy)
       clear hTy hy hmem hsz
       go_wp2_with fail
       refine HC.out.mono ?_
       rintro e W9 ⟨rfl, hR9, hK9⟩
       have HR9 := Lib.hid hR9
       have HK9 := Lib.hid (HKr.out.trans hK9)
       clear hR9 hK9 e0 e1 e2 e3 e4 x4 HC
       go_wp2_with fail
       go_roundw
       case rel => exact ⟨j + 1, by omega, by go_num, Lib.hid (by rw [allW_snoc HY.out, HSN.out, List.length_append, ← Nat.add_assoc]; exact HR9.out), HK9⟩
       case measure => simp [intOf]; omega
      ·obtain rfl : j = l.length := by omega
       go_wp2_with fail
       go_end0
       refine ⟨rfl, ?_, HK3.out.trans HKr.out⟩
       have h9 := HRr.out
       rw [List.take_length] at h9
       have hq9 := HQ.out
       rw [HQL.out] at h9; rw [over_var, nodes_mk9, ← HST.out]; rw [show p + ((Tm.pres l).length + 1) = q + (Tm.pres l).length by omega]
       exact h9
  ·have h5b : (k == 5) = false := beq_eq_false_iff_ne.2 h5
   have H5 := Lib.hid h5
   clear h5
   refine wp_region_qC (C := fun V => Below (W1).heap.size (W1) V) (by kernel_rfl) (by kernel_rfl) (drewC (W1)) ?_
   refine wpq1 ?_; (try simp only [Act.put, sI, sZ, sS])
   refine wpqC (v := ?_) (by kernel_rfl) ?_ ?_; rotate_left; (intro V hV; (try dsimp only at hV); have g1 := (hV.block _ (heap_lt HG1.out)).trans HG1.out; have x0 := cell_of_row (i := 0) g1 rfl; go_simp; first | done | with_reducible rfl); (try simp only [Act.put, sI, sZ, sS])
   refine wpq1 ?_; (try simp only [Act.put, sI, sZ, sS])
   refine wpq1 ?_; (try simp only [Act.put, sI, sZ, sS])
   refine wpqC_skip (by kernel_rfl) ?_; (try simp only [Act.put, sI, sZ, sS])
   refine wpqC_skip (by kernel_rfl) ?_; (try simp only [Act.put, sI, sZ, sS])
   refine wpqC_skip (by kernel_rfl) ?_; (try simp only [Act.put, sI, sZ, sS])
   refine wpqC_skip (by kernel_rfl) ?_; (try simp only [Act.put, sI, sZ, sS])
   refine wpqC_skip (by kernel_rfl) ?_; (try simp only [Act.put, sI, sZ, sS])
   refine wpqC_skip (by kernel_rfl) ?_; (try simp only [Act.put, sI, sZ, sS])
   refine wpqC_skip (by kernel_rfl) ?_; (try simp only [Act.put, sI, sZ, sS])
   refine wpqC_skip (by kernel_rfl) ?_; (try simp only [Act.put, sI, sZ, sS])
   refine wpq1 ?_; (try simp only [Act.put, sI, sZ, sS])
   refine wpq1 ?_; (try simp only [Act.put, sI, sZ, sS])
   refine wpqC_skip (by kernel_rfl) ?_; (try simp only [Act.put, sI, sZ, sS])
   refine wpqC_skip (by kernel_rfl) ?_; (try simp only [Act.put, sI, sZ, sS])
   refine wpqC_skip (by kernel_rfl) ?_; (try simp only [Act.put, sI, sZ, sS])
   refine wpqC_skip (by kernel_rfl) ?_; (try simp only [Act.put, sI, sZ, sS])
   refine wpqC_skip (by kernel_rfl) ?_; (try simp only [Act.put, sI, sZ, sS])
   refine wpqC_skip (by kernel_rfl) ?_; (try simp only [Act.put, sI, sZ, sS])
   refine wpqC_skip (by kernel_rfl) ?_; (try simp only [Act.put, sI, sZ, sS])
   refine wpqC_skip (by kernel_rfl) ?_; (try simp only [Act.put, sI, sZ, sS])
   refine wpqC_skip (by kernel_rfl) ?_; (try simp only [Act.put, sI, sZ, sS])
   refine wpqC_skip (by kernel_rfl) ?_; (try simp only [Act.put, sI, sZ, sS])
   refine wpqC_skip (by kernel_rfl) ?_; (try simp only [Act.put, sI, sZ, sS])
   refine wpqC_skip (by kernel_rfl) ?_; (try simp only [Act.put, sI, sZ, sS])
   refine wpqC_skip (by kernel_rfl) ?_; (try simp only [Act.put, sI, sZ, sS])
   refine wpqC_skip (by kernel_rfl) ?_; (try simp only [Act.put, sI, sZ, sS])
   refine wpqC_skip (by kernel_rfl) ?_; (try simp only [Act.put, sI, sZ, sS])
   refine wpqC_skip (by kernel_rfl) ?_; (try simp only [Act.put, sI, sZ, sS])
   refine wpq1 ?_; (try simp only [Act.put, sI, sZ, sS])
   refine wpQuiet_nil ?_
   intro V9 h9
   (try dsimp only at h9)
   have HB7 := Lib.hid h9
   clear h9
   have HRC := Lib.hid (HR1.out.under HB7.out)
   have HKC := Lib.hid (HK1.out.trans (.of_below HB7.out))
   have HGC := Lib.hid ((HB7.out.block _ (heap_lt HG1.out)).trans HG1.out)
   go_upto_region 3 with fail
   obtain ⟨hX, bA, bc, aA, ac, hR⟩ := HRC.out
   have hbx := hR.box
   have c1 : (V9).cell? ⟨X.B, 1, none⟩ = some (.int .i64 (p : Int)) := cell_of_row (i := 1) hbx rfl
   have cf : (V9).frozen? ⟨X.B, 1, none⟩ = false := free_of_row (i := 1) hbx
   have hw1 : IntKind.i64.wrap ((p : Int) + 1) = ((p + 1 : Nat) : Int) := by rw [IntKind.wrap_i64]; omega
   obtain ⟨q, hq⟩ : ∃ q : Nat, q = p + 1 := ⟨_, rfl⟩
   have hw2 : (p : Int) + 1 = (q : Int) := by omega
   have hw3 : IntKind.i64.wrap (q : Int) = (q : Int) := by rw [IntKind.wrap_i64]; omega
   obtain ⟨R3, K3⟩ := hR.set hX 1 (.int .i64 (q : Int)) _ _ q rfl
   obtain ⟨W3, hW3⟩ : ∃ W3, W3 = (V9).setCell ⟨X.B, 1, none⟩ (.int .i64 (q : Int)) := ⟨_, rfl⟩
   rw [← hW3] at R3 K3
   have HR3 : Hid (RAt X (st) q W3) := Lib.hid ⟨hX, bA, bc, aA, ac, R3⟩
   have HK3 := Lib.hid (HKC.out.trans K3)
   have HG3 := Lib.hid (K3.cells _ _ _ _ HGC.out (by decide) (by decide))
   have HQ := Lib.hid hq
   rw [← hq] at hw1
   clear hX hR hbx R3 K3 hq
   go_upto_region 4 with fail
   rw [← hW3]
   clear hW3 c1 cf hw1 hw2 hw3
   go_wp2_with fail
   go_loopw [4] (fun i wr => ∃ j : Nat, j ≤ l.length ∧ i = .int .i64 j ∧ Hid (RAt X (allW (32 - X.ar) (st) q (l.take j)) (q + (Tm.pres (l.take j)).length) wr) ∧ Hid (KeepW W3 wr)) (fun i _ => l.length - (intOf i).toNat)
   case atStart => exact ⟨0, Nat.zero_le _, rfl, Lib.hid (by rw [List.take_zero]; exact HR3.out), Lib.hid (.refl _)⟩
   case round =>
    obtain ⟨j, hj, rfl, HRr, HKr⟩ := hrel
    have hgr := HKr.out.cells _ _ _ _ HG3.out (by decide) (by decide)
    have x4 : (wr).cell? ⟨V.heap.size, 4, none⟩ = some (.slice A l.length cap) := cell_of_row (i := 4) hgr rfl
    clear hgr
    by_cases hlt : j < l.length
    ·obtain ⟨y, hy⟩ : ∃ y, l[j]? = some y := ⟨l[j], List.getElem?_eq_getElem hlt⟩
     obtain ⟨ad, c0, c1, c2, c3, c4, rfl, hTy, hEy⟩ := relem HRow.out HRr.out.below hy
     have hmem := List.mem_of_getElem? hy
     have hsz := nodes_take9 hy
     obtain ⟨d0, d1, d2, d3, d4, he, e0, e1, e2, e3, e4⟩ := hEy
     cases he
     have HC := Lib.hid (HIH.out y hmem _ (allW (32 - X.ar) (st) q (l.take j)) wr (q + (Tm.pres (l.take j)).length) hTy HRr.out (by have := HP.out; have := HQ.out; omega) (m + 1 + (Tm.pres (l.take j)).length) (lee_allT l j (lee_mono HM.out (by omega))) (by have := HML.out; omega) (fun z hz => HPL.out z (sub_pre hmem hz)) (by have h9 := seen_all (32 - X.ar) (l.take j) st q (HSE.out.mono (by have := HQ.out; omega)); exact h9))
     have HY := Lib.hid hy
     have HSN := Lib.hid (Tm.pres_take_succ hy)
     clear hTy hy hmem hsz
     go_wp2_with fail
     refine HC.out.mono ?_
     rintro e W9 ⟨rfl, hR9, hK9⟩
     have HR9 := Lib.hid hR9
     have HK9 := Lib.hid (HKr.out.trans hK9)
     clear hR9 hK9 e0 e1 e2 e3 e4 x4 HC
     go_wp2_with fail
     go_roundw
     case rel => exact ⟨j + 1, by omega, by go_num, Lib.hid (by rw [allW_snoc HY.out, HSN.out, List.length_append, ← Nat.add_assoc]; exact HR9.out), HK9⟩
     case measure => simp [intOf]; omega
    ·obtain rfl : j = l.length := by omega
     go_wp2_with fail
     go_end0
     refine ⟨rfl, ?_, HK3.out.trans HKr.out⟩
     have h9 := HRr.out
     rw [List.take_length] at h9
     have hq9 := HQ.out
     rw [over_plain (k := k) HSF.out.2 H5.out, nodes_mk9, show p + ((Tm.pres l).length + 1) = q + (Tm.pres l).length by omega, ← hq9]
     exact h9
end Go.Proofs.YtmdcdhdjojimeaaGreatDoor
