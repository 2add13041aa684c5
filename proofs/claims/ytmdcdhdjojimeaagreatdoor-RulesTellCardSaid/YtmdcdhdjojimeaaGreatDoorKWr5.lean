/- Layer 9: the document's own walker: size, clause, expr (written by gen_wr5.py). -/
import Derived.Test.YtmdcdhdjojimeaaGreatDoorKWr4
set_option linter.unusedVariables false
set_option linter.unusedSimpArgs false
namespace Go.Proofs.YtmdcdhdjojimeaaGreatDoor
open Go.RowKit

theorem relem_0 {base : Nat} {w0 V : World} {A : Option Addr} {n cap : Nat} {l : List Tm} {y : Tm} (hR : TRow (· < base) w0 A n cap l) (hb : Below base w0 V) (hy : l[0]? = some y) :
  ∃ g off o c0 c1 c2 c3 c4, A = some ⟨g, off, o⟩ ∧ TmAt (· < base) w0 y (.agg #[c0, c1, c2, c3, c4]) ∧ V.cell? ⟨g, off, o⟩ = some c0 ∧ V.cell? ⟨g, off + 1, none⟩ = some c1 ∧ V.cell? ⟨g, off + 2, none⟩ = some c2 ∧ V.cell? ⟨g, off + 3, none⟩ = some c3 ∧ V.cell? ⟨g, off + 4, none⟩ = some c4 := by
 obtain ⟨⟨g, off, o⟩, c0, c1, c2, c3, c4, e, hT, d0, d1, d2, d3, d4, he, e0, e1, e2, e3, e4⟩ := relem hR hb hy
 cases he
 exact ⟨g, off, o, _, _, _, _, _, e, hT, e0, e1, e2, e3, e4⟩
theorem relem_1 {base : Nat} {w0 V : World} {g off : Nat} {o : Option Nat} {n cap : Nat} {l : List Tm} {y : Tm} (hR : TRow (· < base) w0 (some ⟨g, off, o⟩) n cap l) (hb : Below base w0 V) (hy : l[1]? = some y) :
  ∃ c0 c1 c2 c3 c4, TmAt (· < base) w0 y (.agg #[c0, c1, c2, c3, c4]) ∧ V.cell? ⟨g, off + 5, none⟩ = some c0 ∧ V.cell? ⟨g, off + 5 + 1, none⟩ = some c1 ∧ V.cell? ⟨g, off + 5 + 2, none⟩ = some c2 ∧ V.cell? ⟨g, off + 5 + 3, none⟩ = some c3 ∧ V.cell? ⟨g, off + 5 + 4, none⟩ = some c4 := by
 obtain ⟨ad, c0, c1, c2, c3, c4, e, hT, d0, d1, d2, d3, d4, he, e0, e1, e2, e3, e4⟩ := relem hR hb hy
 cases e
 cases he
 exact ⟨_, _, _, _, _, hT, e0, e1, e2, e3, e4⟩
theorem bound_back {most : Int} {st : Wk} {p : Nat} {y : Tm} (h : y.k = 3 ∨ y.k = 21) : (overW most st p y).bound = st.bound := by
 obtain ⟨k, n, s, t, l⟩ := y
 have h2 : k = 3 ∨ k = 21 := h
 rw [overW, if_neg (by omega), if_neg (by omega)]
 rcases h2 with rfl | rfl
 ·rw [if_pos rfl]
  exact (fwd_clause _ _ _ _ _).back
 ·rw [if_neg (by decide), if_pos (.inr rfl)]
  exact (fwd_all _ _ _ _).back
theorem bound_all {most : Int} : ∀ {l : List Tm} {st : Wk} {p : Nat}, (∀ y ∈ l, y.k = 3 ∨ y.k = 21) → (allW most st p l).bound = st.bound
 | [], _, _, _ => by rw [allW]
 | y :: l, st, p, h => by rw [allW, bound_all (fun z hz => h z (by simp [hz])), bound_back (h y (by simp))]
theorem back_same {a b : Wk} (h : b.bound = a.bound) : backW a b = b := by
 unfold backW
 rw [← h, List.take_length]
theorem lee_overT {most : Int} {st : Wk} {p m : Nat} (y : Tm) (h : st.lee m) : (overW most st p y).lee (m + y.nodes) := lee_over _ _ _ _ _ h
def ExprW (X : RCtx) (y : Tm) : Prop := ∀ (v : Value) (st : Wk) (V : World) (p : Nat), TmAt (· < X.base) X.w0 y v → RAt X st p V → p + y.nodes ≤ 100000 → ∀ m : Nat, st.lee m → m + y.nodes ≤ 100000 → Seen9 st p →
  Calls Tryz.prog 47 #[.pointer (some ⟨X.B, 0, none⟩), v] V (RTo X (overW (32 - X.ar) st p y) (p + y.nodes) V)
def ClauseW (X : RCtx) (y : Tm) : Prop := ∀ (v : Value) (st : Wk) (V : World) (p : Nat), TmAt (· < X.base) X.w0 y v → RAt X st p V → p + y.nodes ≤ 100000 → ∀ m : Nat, st.lee m → m + y.nodes ≤ 100000 → Seen9 st p →
  Calls Tryz.prog 26 #[.pointer (some ⟨X.B, 0, none⟩), v] V (RTo X (overW (32 - X.ar) st p y) (p + y.nodes) V)

set_option maxHeartbeats 8000000 in
set_option maxRecDepth 100000 in
theorem rsize9_any (x : Tm) : ∀ (v : Value) (w : World), TmAt (· < w.heap.size) w x v → x.nodes ≤ 100000 →
  Calls Tryz.prog 27 #[v] w fun e w' => e = .returned (.int .i64 (x.nodes : Int)) ∧ Below w.heap.size w w' := by
 induction x using Tm.ind with
 | h k n s t l ih =>
  intro v w hT hz
  obtain ⟨A, cap, rfl, hR, hk, hn, hs, ht⟩ := hT.parts
  have hlen := hR.max
  unfold maxLen at hlen
  rw [nodes_mk9] at hz
  have HR := Lib.hid hR
  have HIH := Lib.hid ih
  have HZ : Hid ((Tm.pres l).length + 1 ≤ 100000) := Lib.hid hz
  obtain ⟨w1, hw1⟩ : ∃ w1, w1 = w.alloc (.cells #[.int .i8 k, .int .i64 n, .string s, .string t, .slice A l.length cap] 25) := ⟨_, rfl⟩
  have HB1 : Hid (Below w.heap.size w w1) := Lib.hid (by rw [hw1]; exact (Below.refl _ w).alloc (Nat.le_refl _) _)
  have HX : Hid (w1.heap[w.heap.size]? = some (.cells #[.int .i8 k, .int .i64 n, .string s, .string t, .slice A l.length cap] 25 (0, 0))) := Lib.hid (by rw [hw1]; exact block_alloc _ _)
  obtain ⟨N, hN⟩ : ∃ N, N = (Tm.mk k n s t l).nodes := ⟨_, rfl⟩
  have HN : Hid (N = (Tm.pres l).length + 1) := Lib.hid (by rw [hN, nodes_mk9])
  rw [← hN]
  clear hR ih hT hN
  go_enter Tryz.func27, Tryz.ntmps27
  go_wp2_with fail
  rw [← hw1]
  clear hw1
  go_loopw [3, 4] (fun r i wr => ∃ j : Nat, j ≤ l.length ∧ i = .int .i64 j ∧ (∃ q : Nat, r = .int .i64 q ∧ q = 1 + (Tm.pres (l.take j)).length) ∧ Hid (Below w1.heap.size w1 wr)) (fun _ i _ => l.length - (intOf i).toNat)
  case atStart => exact ⟨0, Nat.zero_le _, rfl, ⟨1, rfl, by simp [Tm.pres]⟩, Lib.hid (Below.refl _ _)⟩
  case round =>
   obtain ⟨j, hj, rfl, ⟨q, rfl, hq⟩, HB⟩ := hrel
   have hbw : wr.heap[w.heap.size]? = _ := (HB.out.block w.heap.size (heap_lt HX.out)).trans HX.out
   have hc4 : wr.cell? ⟨w.heap.size, 4, none⟩ = some (.slice A l.length cap) := cell_of_row (i := 4) hbw rfl
   have HQ := Lib.hid hq
   clear hbw
   by_cases hlt : j < l.length
   ·obtain ⟨y, hy⟩ : ∃ y, l[j]? = some y := ⟨l[j], List.getElem?_eq_getElem hlt⟩
    have HBW := Lib.hid (HB1.out.trans (HB.out.mono HB1.out.size))
    obtain ⟨ad, c0, c1, c2, c3, c4, rfl, hTy, hEy⟩ := relem HR.out HBW.out hy
    have hTr := hTy.keep (Q := (· < wr.heap.size)) (fun b hb => HBW.out.block b hb) (fun b hb => Nat.lt_of_lt_of_le hb HBW.out.size)
    obtain ⟨d0, d1, d2, d3, d4, he, e0, e1, e2, e3, e4⟩ := hEy
    cases he
    have hmem := List.mem_of_getElem? hy
    have hsz := nodes_take9 hy
    have HC := Lib.hid (HIH.out y hmem _ _ hTr (by have := HZ.out; omega))
    have HQ2 : Hid (q + y.nodes = 1 + (Tm.pres (l.take (j + 1))).length) := Lib.hid (by rw [Tm.pres_take_succ hy, List.length_append, hq]; unfold Tm.nodes; omega)
    have hle : q + y.nodes ≤ 100000 := by have := HZ.out; omega
    clear hTy hTr hy hmem hsz hq
    go_wp2_with fail
    refine HC.out.mono ?_
    rintro e w2 ⟨rfl, b2⟩
    have HB2 := Lib.hid (HB.out.trans (b2.mono HB.out.size))
    clear b2 HC
    generalize y.nodes = z at HQ2 hle ⊢
    go_wp2_with fail
    go_roundw
    case rel => exact ⟨j + 1, by omega, by go_num, ⟨q + z, by go_num, HQ2.out⟩, HB2⟩
    case measure => simp [intOf]; omega
   ·obtain rfl : j = l.length := by omega
    have hqn : q = N := by rw [hq, List.take_length, HN.out]; omega
    clear hq
    go_wp2_with fail
    go_ret
    exact ⟨ret_int (by rw [hqn]), HB1.out.trans (HB.out.mono HB1.out.size)⟩

set_option maxHeartbeats 16000000 in
set_option maxRecDepth 100000 in
theorem rexpr9_rest (X : RCtx) (k n : Int) (s t : ByteArray) (l : List Tm) (hk : k ≠ 5 ∧ k ≠ 13 ∧ k ≠ 3 ∧ k ≠ 18 ∧ k ≠ 21 ∧ k ≠ 19 ∧ k ≠ 20) (hex : ∀ x ∈ l, ExprW X x) : ExprW X (.mk k n s t l) := by
 have HKK := Lib.hid hk
 have HEX := Lib.hid hex
 clear hk hex
 intro v st V p hT h hp m hm hml hsn
 obtain ⟨A, cap, rfl, hRow, hk, hn, hs, ht⟩ := hT.parts
 have hlen := hRow.max
 unfold maxLen at hlen
 rw [nodes_mk9] at hp hml
 obtain ⟨W1, hW1⟩ : ∃ W1, W1 = V.alloc (.cells #[.int .i8 k, .int .i64 n, .string s, .string t, .slice A l.length cap] 25) := ⟨_, rfl⟩
 have b1 : Below V.heap.size V W1 := by rw [hW1]; exact (Below.refl _ _).alloc (Nat.le_refl _) _
 have HG1 : Hid (W1.heap[V.heap.size]? = some (.cells #[.int .i8 k, .int .i64 n, .string s, .string t, .slice A l.length cap] 25 (0, 0))) := Lib.hid (by rw [hW1]; exact block_alloc _ _)
 have HR1 := Lib.hid (h.under b1)
 have HK1 := Lib.hid (KeepW.of_below b1)
 have HRow := Lib.hid hRow
 have HP : Hid (p + ((Tm.pres l).length + 1) ≤ 100000) := Lib.hid hp
 have HM := Lib.hid hm
 have HML : Hid (m + ((Tm.pres l).length + 1) ≤ 100000) := Lib.hid hml
 have HSE := Lib.hid hsn
 have HT := Lib.hid hT
 have hpp : p ≤ 100000 := by omega
 have hob : st.bound.length ≤ 100000 := by have := hm.1; omega
 clear b1 hT h hp hRow hm hml hsn
 obtain ⟨hX, bA, bc, aA, ac, hR⟩ := HR1.out
 have hbx := hR.box
 have c0 : (W1).cell? ⟨X.B, 0, none⟩ = some (.slice bA (st).bound.length bc) := cell_of_row (i := 0) hbx rfl
 have hg1 := HG1.out
 have x0 : (W1).cell? ⟨V.heap.size, 0, none⟩ = some (.int .i8 k) := cell_of_row (i := 0) hg1 rfl
 have x4 : (W1).cell? ⟨V.heap.size, 4, none⟩ = some (.slice A l.length cap) := cell_of_row (i := 4) hg1 rfl
 clear hX hR hbx hg1
 go_enter Tryz.func47, Tryz.ntmps47
 go_upto_region 1 with fail
 rw [← hW1]
 clear hW1
 have f5 : (k == 5) = false := beq_eq_false_iff_ne.2 HKK.out.1
 have f13 : (k == 13) = false := beq_eq_false_iff_ne.2 HKK.out.2.1
 have f18 : (k == 18) = false := beq_eq_false_iff_ne.2 HKK.out.2.2.2.1
 have f19 : (k == 19) = false := beq_eq_false_iff_ne.2 HKK.out.2.2.2.2.2.1
 have f20 : (k == 20) = false := beq_eq_false_iff_ne.2 HKK.out.2.2.2.2.2.2
 go_upto_region 37 with fail
 clear c0 x0 x4 f5 f13 f18 f19 f20
 obtain ⟨hX, bA, bc, aA, ac, hR⟩ := HR1.out
 have hbx := hR.box
 have c1 : (W1).cell? ⟨X.B, 1, none⟩ = some (.int .i64 (p : Int)) := cell_of_row (i := 1) hbx rfl
 have cf : (W1).frozen? ⟨X.B, 1, none⟩ = false := free_of_row (i := 1) hbx
 have hw1 : IntKind.i64.wrap ((p : Int) + 1) = ((p + 1 : Nat) : Int) := by rw [IntKind.wrap_i64]; omega
 obtain ⟨q, hq⟩ : ∃ q : Nat, q = p + 1 := ⟨_, rfl⟩
 have hw2 : (p : Int) + 1 = (q : Int) := by omega
 have hw3 : IntKind.i64.wrap (q : Int) = (q : Int) := by rw [IntKind.wrap_i64]; omega
 obtain ⟨R3, K3⟩ := hR.set hX 1 (.int .i64 (q : Int)) _ _ q rfl
 obtain ⟨W3, hW3⟩ : ∃ W3, W3 = (W1).setCell ⟨X.B, 1, none⟩ (.int .i64 (q : Int)) := ⟨_, rfl⟩
 rw [← hW3] at R3 K3
 have HR3 : Hid (RAt X st q W3) := Lib.hid ⟨hX, bA, bc, aA, ac, R3⟩
 have HK3 := Lib.hid (HK1.out.trans K3)
 have HG3 := Lib.hid (K3.cells _ _ _ _ HG1.out (by decide) (by decide))
 have HQ := Lib.hid hq
 rw [← hq] at hw1
 clear hX hR hbx R3 K3 hq
 go_upto_region 38 with fail
 rw [← hW3]
 clear hW3 c1 cf hw1 hw2 hw3
 have HLE : Hid (st.lee (m + 1)) := Lib.hid (lee_mono HM.out (by omega))
 have HSQ : Hid (Seen9 st q) := Lib.hid (HSE.out.mono (by have := HQ.out; omega))
 have HDL : Hid (∀ (j : Nat) (y : Tm), l[j]? = some y → l[0 + j]? = some y) := Lib.hid (fun j y h => by rw [Nat.zero_add]; exact h)
 have HDN : Hid (l.length = 0 + l.length) := Lib.hid (by omega)
 have HDP : Hid (q + (Tm.pres l).length ≤ p + (Tm.pres l).length + 1) := Lib.hid (by have := HQ.out; omega)
 have HDM : Hid (m + 1 + (Tm.pres l).length ≤ m + (Tm.pres l).length + 1) := Lib.hid (by omega)
 go_wp2_with fail
 go_loopw [10] (fun i wr => ∃ j r : Nat, 0 ≤ j ∧ j ≤ (l).length ∧ i = .int .i64 (r : Int) ∧ r = 0 + j ∧ Hid (RAt X (allW (32 - X.ar) (st) q ((l).take j)) (q + (Tm.pres ((l).take j)).length) wr) ∧ Hid (KeepW W3 wr)) (fun i _ => 0 + (l).length - (intOf i).toNat)
 case atStart => exact ⟨0, 0, Nat.zero_le _, Nat.zero_le _, rfl, rfl, Lib.hid (by rw [List.take_zero]; exact HR3.out), Lib.hid (.refl _)⟩
 case round =>
  obtain ⟨j, r, hj0, hj, rfl, hr, HRr, HKr⟩ := hrel
  have hgr := HKr.out.cells _ _ _ _ HG3.out (by decide) (by decide)
  have x1 : (wr).cell? ⟨V.heap.size, 1, none⟩ = some (.int .i64 n) := cell_of_row (i := 1) hgr rfl
  have x4 : (wr).cell? ⟨V.heap.size, 4, none⟩ = some (.slice A l.length cap) := cell_of_row (i := 4) hgr rfl
  clear hgr
  have hr0 : (0 : Int) ≤ (r : Int) := by omega
  by_cases hlt : j < (l).length
  ·obtain ⟨y, hy⟩ : ∃ y, (l)[j]? = some y := ⟨(l)[j], List.getElem?_eq_getElem hlt⟩
   have hyl : l[r]? = some y := by rw [hr]; exact HDL.out j y hy
   obtain ⟨ad, c0, c1, c2, c3, c4, hA9, hTy, hEy⟩ := relem HRow.out HRr.out.below hyl
   cases hA9
   have hmem := List.mem_of_getElem? hy
   have hsz := nodes_take9 hy
   have HRJ := Lib.hid hr
   have hri : (r : Int) < (l.length : Int) := by have := (List.getElem?_eq_some_iff.1 hyl).1; omega
   have hrj : (r : Int) < ((0 + (l).length : Nat) : Int) := by omega

   obtain ⟨d0, d1, d2, d3, d4, he, e0, e1, e2, e3, e4⟩ := hEy
   cases he
   have HC := Lib.hid (HEX.out y hmem _ (allW (32 - X.ar) (st) (q) ((l).take j)) wr (q + (Tm.pres ((l).take j)).length) hTy HRr.out (by have := HP.out; have := HDP.out; omega) (m + 1 + (Tm.pres ((l).take j)).length) (lee_allT (l) j HLE.out) (by have := HML.out; have := HDM.out; omega) (seen_all (32 - X.ar) ((l).take j) _ _ HSQ.out))
   have HY := Lib.hid hy
   have HSN := Lib.hid (Tm.pres_take_succ hy)
   have HHJ : Hid (j < (l).length ∧ 0 ≤ j) := Lib.hid ⟨hlt, hj0⟩
   clear hTy hy hyl hmem hsz hr
   go_wp2_with fail
   refine HC.out.mono ?_
   rintro e W9 ⟨rfl, hR9, hK9⟩
   have HR9 := Lib.hid hR9
   have HK9 := Lib.hid (HKr.out.trans hK9)
   clear hR9 hK9 e0 e1 e2 e3 e4 x1 x4 HC
   go_wp2_with fail
   go_roundw
   case rel => exact ⟨j + 1, r + 1, by have := HHJ.out; omega, by have := HHJ.out; omega, by go_num, by have := HRJ.out; omega, Lib.hid (by rw [allW_snoc HY.out, HSN.out, List.length_append, ← Nat.add_assoc]; exact HR9.out), HK9⟩
   case measure => have := HRJ.out; have := HHJ.out; simp [intOf]; omega
  ·obtain rfl : j = (l).length := by omega
   have hri : ¬ (r : Int) < ((0 + (l).length : Nat) : Int) := by omega
   have hrl : ¬ (r : Int) < (l.length : Int) := by have := HDN.out; omega

   have HRE : Hid (RAt X (allW (32 - X.ar) (st) q (l)) (q + (Tm.pres (l)).length) wr) := Lib.hid (by have h9 := HRr.out; rw [List.take_length] at h9; exact h9)
   have HKE := Lib.hid (HK3.out.trans HKr.out)
   have HGE := Lib.hid (HKr.out.cells _ _ _ _ HG3.out (by decide) (by decide))
   clear HRr HKr hlt hr
   go_wp2_with fail
   go_end0
   refine ⟨rfl, ?_, HKE.out⟩
   have hq9 := HQ.out
   rw [over_plain (k := k) ⟨HKK.out.2.1, HKK.out.2.2.1, HKK.out.2.2.2.1, HKK.out.2.2.2.2.1, HKK.out.2.2.2.2.2.1⟩ HKK.out.1, nodes_mk9, show p + ((Tm.pres l).length + 1) = q + (Tm.pres l).length by omega, ← hq9]
   exact HRE.out
set_option maxHeartbeats 16000000 in
set_option maxRecDepth 100000 in
theorem rexpr9_var (X : RCtx) (n : Int) (s t : ByteArray) (l : List Tm) (hl : l = []) : ExprW X (.mk 5 n s t l) := by
 have HL0 := Lib.hid hl
 clear hl
 intro v st V p hT h hp m hm hml hsn
 obtain ⟨A, cap, rfl, hRow, hk, hn, hs, ht⟩ := hT.parts
 have hlen := hRow.max
 unfold maxLen at hlen
 rw [nodes_mk9] at hp hml
 obtain ⟨W1, hW1⟩ : ∃ W1, W1 = V.alloc (.cells #[.int .i8 5, .int .i64 n, .string s, .string t, .slice A l.length cap] 25) := ⟨_, rfl⟩
 have b1 : Below V.heap.size V W1 := by rw [hW1]; exact (Below.refl _ _).alloc (Nat.le_refl _) _
 have HG1 : Hid (W1.heap[V.heap.size]? = some (.cells #[.int .i8 5, .int .i64 n, .string s, .string t, .slice A l.length cap] 25 (0, 0))) := Lib.hid (by rw [hW1]; exact block_alloc _ _)
 have HR1 := Lib.hid (h.under b1)
 have HK1 := Lib.hid (KeepW.of_below b1)
 have HRow := Lib.hid hRow
 have HP : Hid (p + ((Tm.pres l).length + 1) ≤ 100000) := Lib.hid hp
 have HM := Lib.hid hm
 have HML : Hid (m + ((Tm.pres l).length + 1) ≤ 100000) := Lib.hid hml
 have HSE := Lib.hid hsn
 have HT := Lib.hid hT
 have hpp : p ≤ 100000 := by omega
 have hob : st.bound.length ≤ 100000 := by have := hm.1; omega
 clear b1 hT h hp hRow hm hml hsn
 obtain ⟨hX, bA, bc, aA, ac, hR⟩ := HR1.out
 have hbx := hR.box
 have c0 : (W1).cell? ⟨X.B, 0, none⟩ = some (.slice bA (st).bound.length bc) := cell_of_row (i := 0) hbx rfl
 have hg1 := HG1.out
 have x0 : (W1).cell? ⟨V.heap.size, 0, none⟩ = some (.int .i8 5) := cell_of_row (i := 0) hg1 rfl
 have x4 : (W1).cell? ⟨V.heap.size, 4, none⟩ = some (.slice A l.length cap) := cell_of_row (i := 4) hg1 rfl
 clear hX hR hbx hg1
 go_enter Tryz.func47, Tryz.ntmps47
 go_upto_region 1 with fail
 rw [← hW1]
 clear hW1
 obtain ⟨x0, x1, x2, x3, x4⟩ := five_of HG1.out
 have HC := Lib.hid (ruses9_any X (.mk 5 n s t l) _ st W1 p HT.out HR1.out (by rw [nodes_mk9]; exact HP.out) m HM.out (by rw [nodes_mk9]; exact HML.out) (fun z hz => by
  rw [HL0.out, Tm.pre] at hz
  simp only [Tm.pres, List.mem_cons, List.not_mem_nil, or_false] at hz
  subst hz
  exact plain_of (fun _ => rfl) (by decide)) HSE.out)
 go_wp2_with fail
 refine HC.out.mono ?_
 rintro e W9 ⟨rfl, hR9, hK9⟩
 have HF := Lib.hid (And.intro hR9 (HK1.out.trans hK9))
 clear hR9 hK9 HC
 go_wp2_with fail
 go_end0
 exact ⟨rfl, HF.out⟩
set_option maxHeartbeats 16000000 in
set_option maxRecDepth 100000 in
theorem rexpr9_match (X : RCtx) (n : Int) (s t : ByteArray) (l : List Tm) (a b : Tm) (hl : l = [a, b]) (hexb : ExprW X b) : ExprW X (.mk 13 n s t l) := by
 have HL0 := Lib.hid hl
 have HEX := Lib.hid hexb
 clear hl hexb
 intro v st V p hT h hp m hm hml hsn
 obtain ⟨A, cap, rfl, hRow, hk, hn, hs, ht⟩ := hT.parts
 have hlen := hRow.max
 unfold maxLen at hlen
 rw [nodes_mk9] at hp hml
 obtain ⟨W1, hW1⟩ : ∃ W1, W1 = V.alloc (.cells #[.int .i8 13, .int .i64 n, .string s, .string t, .slice A l.length cap] 25) := ⟨_, rfl⟩
 have b1 : Below V.heap.size V W1 := by rw [hW1]; exact (Below.refl _ _).alloc (Nat.le_refl _) _
 have HG1 : Hid (W1.heap[V.heap.size]? = some (.cells #[.int .i8 13, .int .i64 n, .string s, .string t, .slice A l.length cap] 25 (0, 0))) := Lib.hid (by rw [hW1]; exact block_alloc _ _)
 have HR1 := Lib.hid (h.under b1)
 have HK1 := Lib.hid (KeepW.of_below b1)
 have HRow := Lib.hid hRow
 have HP : Hid (p + ((Tm.pres l).length + 1) ≤ 100000) := Lib.hid hp
 have HM := Lib.hid hm
 have HML : Hid (m + ((Tm.pres l).length + 1) ≤ 100000) := Lib.hid hml
 have HSE := Lib.hid hsn
 have HT := Lib.hid hT
 have hpp : p ≤ 100000 := by omega
 have hob : st.bound.length ≤ 100000 := by have := hm.1; omega
 clear b1 hT h hp hRow hm hml hsn
 obtain ⟨hX, bA, bc, aA, ac, hR⟩ := HR1.out
 have hbx := hR.box
 have c0 : (W1).cell? ⟨X.B, 0, none⟩ = some (.slice bA (st).bound.length bc) := cell_of_row (i := 0) hbx rfl
 have hg1 := HG1.out
 have x0 : (W1).cell? ⟨V.heap.size, 0, none⟩ = some (.int .i8 13) := cell_of_row (i := 0) hg1 rfl
 have x4 : (W1).cell? ⟨V.heap.size, 4, none⟩ = some (.slice A l.length cap) := cell_of_row (i := 4) hg1 rfl
 clear hX hR hbx hg1
 go_enter Tryz.func47, Tryz.ntmps47
 go_upto_region 1 with fail
 rw [← hW1]
 clear hW1
 have HA0 : Hid (l[0]? = some a) := Lib.hid (by rw [HL0.out]; rfl)
 have HB0 : Hid (l[1]? = some b) := Lib.hid (by rw [HL0.out]; rfl)
 have i0 : (0 : Int) < (l.length : Int) := by rw [HL0.out]; simp
 have i1 : (1 : Int) < (l.length : Int) := by rw [HL0.out]; simp
 have HPN : Hid ((Tm.pres l).length = a.nodes + b.nodes) := Lib.hid (by rw [HL0.out, nodes_pres_cons, nodes_pres_cons]; simp [Tm.pres])
 obtain ⟨q, hq⟩ : ∃ q : Nat, q = p + 1 := ⟨_, rfl⟩
 obtain ⟨an, han⟩ : ∃ an, an = a.nodes := ⟨_, rfl⟩
 obtain ⟨bn, hbn⟩ : ∃ bn, bn = b.nodes := ⟨_, rfl⟩
 obtain ⟨r, hr⟩ : ∃ r : Nat, r = q + an := ⟨_, rfl⟩
 obtain ⟨en, hen⟩ : ∃ en : Nat, en = r + bn := ⟨_, rfl⟩
 have HN : Hid (an = a.nodes ∧ bn = b.nodes) := Lib.hid ⟨han, hbn⟩
 have HQ : Hid (q = p + 1 ∧ r = q + an ∧ en = r + bn) := Lib.hid ⟨hq, hr, hen⟩
 have hbnd : en ≤ 100000 := by have := HP.out; have := HPN.out; omega
 have hw1 : IntKind.i64.wrap ((p : Int) + 1) = (q : Int) := by rw [IntKind.wrap_i64]; omega
 have hw2 : (p : Int) + 1 = (q : Int) := by omega
 have hw3 : IntKind.i64.wrap (q : Int) = (q : Int) := by rw [IntKind.wrap_i64]; omega
 have hw4 : IntKind.i64.wrap ((q : Int) + (an : Int)) = (r : Int) := by rw [IntKind.wrap_i64]; omega
 have hw5 : (q : Int) + (an : Int) = (r : Int) := by omega
 have hw6 : IntKind.i64.wrap (r : Int) = (r : Int) := by rw [IntKind.wrap_i64]; omega
 have hbd : q ≤ 100000 ∧ r ≤ 100000 := by omega
 obtain ⟨g, off, o, c0', c1, c2, c3, c4, rfl, hTy, e0, e1, e2, e3, e4⟩ := relem_0 HRow.out HR1.out.below HA0.out
 have hTa := hTy.keep (Q := (· < W1.heap.size)) (fun b hb => HR1.out.below.block b hb) (fun b hb => Nat.lt_of_lt_of_le hb (Nat.le_trans HR1.out.1.base HR1.out.below.size))
 have HC : Hid (Calls Tryz.prog 27 #[.agg #[c0', c1, c2, c3, c4]] W1 fun e w' => e = .returned (.int .i64 (an : Int)) ∧ Below W1.heap.size W1 w') := Lib.hid (by rw [han]; exact rsize9_any a _ W1 hTa (by have := HP.out; have := HPN.out; omega))
 obtain ⟨hX, bA, bc, aA, ac, hR⟩ := HR1.out
 have hbx := hR.box
 have m1 : (W1).cell? ⟨X.B, 1, none⟩ = some (.int .i64 (p : Int)) := cell_of_row (i := 1) hbx rfl
 clear hX hR hbx hTa hTy hq han hbn hr hen
 go_wp2_with fail
 refine HC.out.mono ?_
 rintro e W2 ⟨rfl, b2⟩
 have HR2 := Lib.hid (HR1.out.under b2)
 have HK2 := Lib.hid (HK1.out.trans (.of_below b2))
 have HG2 := Lib.hid ((b2.block _ (heap_lt HG1.out)).trans HG1.out)
 clear b2 HC e0 e1 e2 e3 e4 x0 x4 m1 c0
 obtain ⟨hX, bA, bc, aA, ac, hR⟩ := HR2.out
 have hbx := hR.box
 have c1 : (W2).cell? ⟨X.B, 1, none⟩ = some (.int .i64 (p : Int)) := cell_of_row (i := 1) hbx rfl
 have cf : (W2).frozen? ⟨X.B, 1, none⟩ = false := free_of_row (i := 1) hbx
 obtain ⟨R3, K3⟩ := hR.set hX 1 (.int .i64 (r : Int)) _ _ r rfl
 obtain ⟨W3, hW3⟩ : ∃ W3, W3 = (W2).setCell ⟨X.B, 1, none⟩ (.int .i64 (r : Int)) := ⟨_, rfl⟩
 rw [← hW3] at R3 K3
 have HR3 : Hid (RAt X (st) r W3) := Lib.hid ⟨hX, bA, bc, aA, ac, R3⟩
 have HK3 := Lib.hid (HK2.out.trans K3)
 have HG3 := Lib.hid (K3.cells _ _ _ _ HG2.out (by decide) (by decide))
 clear hX hR hbx R3 K3
 go_upto_region 8 with fail
 rw [← hW3]
 clear hW3 c1 cf
 have x4 : (W3).cell? ⟨V.heap.size, 4, none⟩ = some (.slice (some ⟨g, off, o⟩) l.length cap) := cell_of_row (i := 4) HG3.out rfl
 clear hw1 hw2 hw3 hw4 hw5 hw6
 obtain ⟨d0, d1, d2, d3, d4, hTb, e0, e1, e2, e3, e4⟩ := relem_1 HRow.out HR3.out.below HB0.out
 have HC := Lib.hid (HEX.out _ st W3 r hTb HR3.out (by have := HP.out; have := HPN.out; have := HQ.out; have := HN.out; omega) m HM.out (by have := HML.out; have := HPN.out; omega) (HSE.out.mono (by have := HQ.out; omega)))
 obtain ⟨st1, hst1⟩ : ∃ st1, st1 = overW (32 - X.ar) st r b := ⟨_, rfl⟩
 have HST := Lib.hid hst1
 have HL1 : Hid (st1.lee (m + b.nodes)) := Lib.hid (by rw [hst1]; exact lee_overT b HM.out)
 rw [← hst1] at HC
 clear hTb hst1
 go_wp2_with fail
 refine HC.out.mono ?_
 rintro e W4 ⟨rfl, hR9, hK9⟩
 have HR4 : Hid (RAt X (st1) (r + b.nodes) W4) := Lib.hid hR9
 have HK4 := Lib.hid (HK3.out.trans hK9)
 have HG4 := Lib.hid (hK9.cells _ _ _ _ HG3.out (by decide) (by decide))
 clear hR9 hK9 HC
 clear e0 e1 e2 e3 e4 x4
 rw [show r + b.nodes = en by have := HQ.out; have := HN.out; omega] at HR4
 obtain ⟨hX, bA, bc, aA, ac, hR⟩ := HR4.out
 have hbx := hR.box
 have m1 : (W4).cell? ⟨X.B, 1, none⟩ = some (.int .i64 (en : Int)) := cell_of_row (i := 1) hbx rfl
 clear hX hR hbx
 go_upto_region 10 with fail
 clear m1
 obtain ⟨hX, bA, bc, aA, ac, hR⟩ := HR4.out
 have hbx := hR.box
 have c1 : (W4).cell? ⟨X.B, 1, none⟩ = some (.int .i64 (en : Int)) := cell_of_row (i := 1) hbx rfl
 have cf : (W4).frozen? ⟨X.B, 1, none⟩ = false := free_of_row (i := 1) hbx
 obtain ⟨R3, K3⟩ := hR.set hX 1 (.int .i64 (q : Int)) _ _ q rfl
 obtain ⟨W5, hW3⟩ : ∃ W5, W5 = (W4).setCell ⟨X.B, 1, none⟩ (.int .i64 (q : Int)) := ⟨_, rfl⟩
 rw [← hW3] at R3 K3
 have HR5 : Hid (RAt X (st1) q W5) := Lib.hid ⟨hX, bA, bc, aA, ac, R3⟩
 have HK5 := Lib.hid (HK4.out.trans K3)
 have HG5 := Lib.hid (K3.cells _ _ _ _ HG4.out (by decide) (by decide))
 clear hX hR hbx R3 K3
 go_upto_region 11 with fail
 rw [← hW3]
 clear hW3 c1 cf
 have x4 : (W5).cell? ⟨V.heap.size, 4, none⟩ = some (.slice (some ⟨g, off, o⟩) l.length cap) := cell_of_row (i := 4) HG5.out rfl
 obtain ⟨g', off', o', c0', c1, c2, c3, c4, hA9, hTy, e0, e1, e2, e3, e4⟩ := relem_0 HRow.out HR5.out.below HA0.out
 cases hA9
 have HC := Lib.hid (rpattern9_any X a _ st1 W5 q hTy HR5.out (by have := HP.out; have := HPN.out; have := HQ.out; omega) (m + b.nodes) HL1.out (by have := HML.out; have := HPN.out; omega))
 clear hTy
 go_wp2_with fail
 refine HC.out.mono ?_
 rintro e W6 ⟨rfl, hR9, hK9⟩
 have HR6 : Hid (RAt X (patW (32 - X.ar) st1 q a.pre) (q + a.nodes) W6) := Lib.hid hR9
 have HK6 := Lib.hid (HK5.out.trans hK9)
 have HG6 := Lib.hid (hK9.cells _ _ _ _ HG5.out (by decide) (by decide))
 clear hR9 hK9 HC
 clear e0 e1 e2 e3 e4 x4
 obtain ⟨st2, hst2⟩ : ∃ st2, st2 = patW (32 - X.ar) st1 q a.pre := ⟨_, rfl⟩
 obtain ⟨qa, hqa⟩ : ∃ qa, qa = q + a.nodes := ⟨_, rfl⟩
 rw [← hst2, ← hqa] at HR6
 have HST2 := Lib.hid hst2
 clear hst2 hqa
 obtain ⟨hX, bA, bc, aA, ac, hR⟩ := HR6.out
 have hbx := hR.box
 have c1 : (W6).cell? ⟨X.B, 1, none⟩ = some (.int .i64 (qa : Int)) := cell_of_row (i := 1) hbx rfl
 have cf : (W6).frozen? ⟨X.B, 1, none⟩ = false := free_of_row (i := 1) hbx
 obtain ⟨R3, K3⟩ := hR.set hX 1 (.int .i64 (en : Int)) _ _ en rfl
 obtain ⟨W7, hW3⟩ : ∃ W7, W7 = (W6).setCell ⟨X.B, 1, none⟩ (.int .i64 (en : Int)) := ⟨_, rfl⟩
 rw [← hW3] at R3 K3
 have HR7 : Hid (RAt X (st2) en W7) := Lib.hid ⟨hX, bA, bc, aA, ac, R3⟩
 have HK7 := Lib.hid (HK6.out.trans K3)
 have HG7 := Lib.hid (K3.cells _ _ _ _ HG6.out (by decide) (by decide))
 clear hX hR hbx R3 K3
 go_wp2_with fail
 rw [← hW3]
 clear hW3 c1 cf
 go_end0
 refine ⟨rfl, ?_, HK7.out⟩
 have h9 := HR7.out
 rw [HST2.out, HST.out] at h9
 have e9 : overW (32 - X.ar) st p (.mk 13 n s t l) = patW (32 - X.ar) (overW (32 - X.ar) st r b) q a.pre := by
  rw [HL0.out, overW, if_neg (by decide), if_pos rfl, matchW, allW, allW, ← HQ.out.1, ← HN.out.1, ← HQ.out.2.1]
 rw [e9, nodes_mk9, show p + ((Tm.pres l).length + 1) = en by have := HPN.out; have := HQ.out; have := HN.out; omega]
 exact h9
set_option maxHeartbeats 16000000 in
set_option maxRecDepth 100000 in
theorem rexpr9_case (X : RCtx) (n : Int) (s t : ByteArray) (l : List Tm) (a : Tm) (es : List Tm) (hl : l = a :: es) (hexa : ExprW X a) (hcl : ∀ c ∈ es, ClauseW X c ∧ c.k = 3) : ExprW X (.mk 18 n s t l) := by
 have HL0 := Lib.hid hl
 have HEX := Lib.hid hexa
 have HCL := Lib.hid hcl
 clear hl hexa hcl
 intro v st V p hT h hp m hm hml hsn
 obtain ⟨A, cap, rfl, hRow, hk, hn, hs, ht⟩ := hT.parts
 have hlen := hRow.max
 unfold maxLen at hlen
 rw [nodes_mk9] at hp hml
 obtain ⟨W1, hW1⟩ : ∃ W1, W1 = V.alloc (.cells #[.int .i8 18, .int .i64 n, .string s, .string t, .slice A l.length cap] 25) := ⟨_, rfl⟩
 have b1 : Below V.heap.size V W1 := by rw [hW1]; exact (Below.refl _ _).alloc (Nat.le_refl _) _
 have HG1 : Hid (W1.heap[V.heap.size]? = some (.cells #[.int .i8 18, .int .i64 n, .string s, .string t, .slice A l.length cap] 25 (0, 0))) := Lib.hid (by rw [hW1]; exact block_alloc _ _)
 have HR1 := Lib.hid (h.under b1)
 have HK1 := Lib.hid (KeepW.of_below b1)
 have HRow := Lib.hid hRow
 have HP : Hid (p + ((Tm.pres l).length + 1) ≤ 100000) := Lib.hid hp
 have HM := Lib.hid hm
 have HML : Hid (m + ((Tm.pres l).length + 1) ≤ 100000) := Lib.hid hml
 have HSE := Lib.hid hsn
 have HT := Lib.hid hT
 have hpp : p ≤ 100000 := by omega
 have hob : st.bound.length ≤ 100000 := by have := hm.1; omega
 clear b1 hT h hp hRow hm hml hsn
 obtain ⟨hX, bA, bc, aA, ac, hR⟩ := HR1.out
 have hbx := hR.box
 have c0 : (W1).cell? ⟨X.B, 0, none⟩ = some (.slice bA (st).bound.length bc) := cell_of_row (i := 0) hbx rfl
 have hg1 := HG1.out
 have x0 : (W1).cell? ⟨V.heap.size, 0, none⟩ = some (.int .i8 18) := cell_of_row (i := 0) hg1 rfl
 have x4 : (W1).cell? ⟨V.heap.size, 4, none⟩ = some (.slice A l.length cap) := cell_of_row (i := 4) hg1 rfl
 clear hX hR hbx hg1
 go_enter Tryz.func47, Tryz.ntmps47
 go_upto_region 1 with fail
 rw [← hW1]
 clear hW1
 have HA0 : Hid (l[0]? = some a) := Lib.hid (by rw [HL0.out]; rfl)
 have i0 : (0 : Int) < (l.length : Int) := by rw [HL0.out, List.length_cons]; omega
 have HPN : Hid ((Tm.pres l).length = a.nodes + (Tm.pres es).length) := Lib.hid (by rw [HL0.out, nodes_pres_cons])
 go_upto_region 15 with fail
 clear c0 x0 x4
 obtain ⟨hX, bA, bc, aA, ac, hR⟩ := HR1.out
 have hbx := hR.box
 have c1 : (W1).cell? ⟨X.B, 1, none⟩ = some (.int .i64 (p : Int)) := cell_of_row (i := 1) hbx rfl
 have cf : (W1).frozen? ⟨X.B, 1, none⟩ = false := free_of_row (i := 1) hbx
 have hw1 : IntKind.i64.wrap ((p : Int) + 1) = ((p + 1 : Nat) : Int) := by rw [IntKind.wrap_i64]; omega
 obtain ⟨q, hq⟩ : ∃ q : Nat, q = p + 1 := ⟨_, rfl⟩
 have hw2 : (p : Int) + 1 = (q : Int) := by omega
 have hw3 : IntKind.i64.wrap (q : Int) = (q : Int) := by rw [IntKind.wrap_i64]; omega
 obtain ⟨R3, K3⟩ := hR.set hX 1 (.int .i64 (q : Int)) _ _ q rfl
 obtain ⟨W3, hW3⟩ : ∃ W3, W3 = (W1).setCell ⟨X.B, 1, none⟩ (.int .i64 (q : Int)) := ⟨_, rfl⟩
 rw [← hW3] at R3 K3
 have HR3 : Hid (RAt X st q W3) := Lib.hid ⟨hX, bA, bc, aA, ac, R3⟩
 have HK3 := Lib.hid (HK1.out.trans K3)
 have HG3 := Lib.hid (K3.cells _ _ _ _ HG1.out (by decide) (by decide))
 have HQ := Lib.hid hq
 rw [← hq] at hw1
 clear hX hR hbx R3 K3 hq
 go_upto_region 16 with fail
 rw [← hW3]
 clear hW3 c1 cf hw1 hw2 hw3
 have x4 : (W3).cell? ⟨V.heap.size, 4, none⟩ = some (.slice A l.length cap) := cell_of_row (i := 4) HG3.out rfl
 obtain ⟨g, off, o, c0, c1, c2, c3, c4, rfl, hTy, e0, e1, e2, e3, e4⟩ := relem_0 HRow.out HR3.out.below HA0.out
 obtain ⟨qa, hqa⟩ : ∃ qa, qa = q + a.nodes := ⟨_, rfl⟩
 have HQA := Lib.hid hqa
 obtain ⟨st1, hst1⟩ : ∃ st1, st1 = overW (32 - X.ar) st q a := ⟨_, rfl⟩
 have HST := Lib.hid hst1
 have HC := Lib.hid (HEX.out _ st W3 q hTy HR3.out (by have := HP.out; have := HPN.out; have := HQ.out; omega) m HM.out (by have := HML.out; have := HPN.out; omega) (HSE.out.mono (by have := HQ.out; omega)))
 have HL1 : Hid (st1.lee (m + a.nodes)) := Lib.hid (by rw [hst1]; exact lee_overT a HM.out)
 have HS1 : Hid (Seen9 st1 qa) := Lib.hid (by rw [hst1, hqa]; exact seen_over _ _ _ _ (HSE.out.mono (by have := HQ.out; omega)))
 have HFW : Hid (Fwd st st1) := Lib.hid (by rw [hst1]; exact fwd_over _ _ _ _)
 rw [← hst1, ← hqa] at HC
 clear hTy hst1 hqa
 go_wp2_with fail
 refine HC.out.mono ?_
 rintro e W4 ⟨rfl, hR9, hK9⟩
 have HR4 : Hid (RAt X (st1) (qa) W4) := Lib.hid hR9
 have HK4 := Lib.hid (HK3.out.trans hK9)
 have HG4 := Lib.hid (hK9.cells _ _ _ _ HG3.out (by decide) (by decide))
 clear hR9 hK9 HC
 clear e0 e1 e2 e3 e4 x4
 have x0 : (W4).cell? ⟨V.heap.size, 0, none⟩ = some (.int .i8 18) := cell_of_row (i := 0) HG4.out rfl
 go_upto_region 19 with fail
 clear x0
 have HDL : Hid (∀ (j : Nat) (y : Tm), es[j]? = some y → l[1 + j]? = some y) := Lib.hid (fun j y h => by rw [HL0.out, Nat.add_comm, List.getElem?_cons_succ]; exact h)
 have HDN : Hid (l.length = 1 + es.length) := Lib.hid (by rw [HL0.out, List.length_cons]; omega)
 have HDP : Hid (qa + (Tm.pres es).length ≤ p + (Tm.pres l).length + 1) := Lib.hid (by have := HQ.out; have := HPN.out; have := HQA.out; omega)
 have HDM : Hid (m + a.nodes + (Tm.pres es).length ≤ m + (Tm.pres l).length + 1) := Lib.hid (by have := HPN.out; omega)
 go_wp2_with fail
 go_loopw [7] (fun i wr => ∃ j r : Nat, 0 ≤ j ∧ j ≤ (es).length ∧ i = .int .i64 (r : Int) ∧ r = 1 + j ∧ Hid (RAt X (allW (32 - X.ar) (st1) qa ((es).take j)) (qa + (Tm.pres ((es).take j)).length) wr) ∧ Hid (KeepW W4 wr)) (fun i _ => 1 + (es).length - (intOf i).toNat)
 case atStart => exact ⟨0, 1, Nat.zero_le _, Nat.zero_le _, rfl, rfl, Lib.hid (by rw [List.take_zero]; exact HR4.out), Lib.hid (.refl _)⟩
 case round =>
  obtain ⟨j, r, hj0, hj, rfl, hr, HRr, HKr⟩ := hrel
  have hgr := HKr.out.cells _ _ _ _ HG4.out (by decide) (by decide)
  have x1 : (wr).cell? ⟨V.heap.size, 1, none⟩ = some (.int .i64 n) := cell_of_row (i := 1) hgr rfl
  have x4 : (wr).cell? ⟨V.heap.size, 4, none⟩ = some (.slice (some ⟨g, off, o⟩) l.length cap) := cell_of_row (i := 4) hgr rfl
  clear hgr
  have hr0 : (0 : Int) ≤ (r : Int) := by omega
  by_cases hlt : j < (es).length
  ·obtain ⟨y, hy⟩ : ∃ y, (es)[j]? = some y := ⟨(es)[j], List.getElem?_eq_getElem hlt⟩
   have hyl : l[r]? = some y := by rw [hr]; exact HDL.out j y hy
   obtain ⟨ad, c0, c1, c2, c3, c4, hA9, hTy, hEy⟩ := relem HRow.out HRr.out.below hyl
   cases hA9
   have hmem := List.mem_of_getElem? hy
   have hsz := nodes_take9 hy
   have HRJ := Lib.hid hr
   have hri : (r : Int) < (l.length : Int) := by have := (List.getElem?_eq_some_iff.1 hyl).1; omega
   have hrj : (r : Int) < ((1 + (es).length : Nat) : Int) := by omega

   obtain ⟨d0, d1, d2, d3, d4, he, e0, e1, e2, e3, e4⟩ := hEy
   cases he
   have HC := Lib.hid ((HCL.out y hmem).1 _ (allW (32 - X.ar) (st1) (qa) ((es).take j)) wr (qa + (Tm.pres ((es).take j)).length) hTy HRr.out (by have := HP.out; have := HDP.out; omega) (m + a.nodes + (Tm.pres ((es).take j)).length) (lee_allT (es) j HL1.out) (by have := HML.out; have := HDM.out; omega) (seen_all (32 - X.ar) ((es).take j) _ _ HS1.out))
   have HY := Lib.hid hy
   have HSN := Lib.hid (Tm.pres_take_succ hy)
   have HHJ : Hid (j < (es).length ∧ 0 ≤ j) := Lib.hid ⟨hlt, hj0⟩
   clear hTy hy hyl hmem hsz hr
   go_wp2_with fail
   refine HC.out.mono ?_
   rintro e W9 ⟨rfl, hR9, hK9⟩
   have HR9 := Lib.hid hR9
   have HK9 := Lib.hid (HKr.out.trans hK9)
   clear hR9 hK9 e0 e1 e2 e3 e4 x1 x4 HC
   go_wp2_with fail
   go_roundw
   case rel => exact ⟨j + 1, r + 1, by have := HHJ.out; omega, by have := HHJ.out; omega, by go_num, by have := HRJ.out; omega, Lib.hid (by rw [allW_snoc HY.out, HSN.out, List.length_append, ← Nat.add_assoc]; exact HR9.out), HK9⟩
   case measure => have := HRJ.out; have := HHJ.out; simp [intOf]; omega
  ·obtain rfl : j = (es).length := by omega
   have hri : ¬ (r : Int) < ((1 + (es).length : Nat) : Int) := by omega
   have hrl : ¬ (r : Int) < (l.length : Int) := by have := HDN.out; omega

   have HRE : Hid (RAt X (allW (32 - X.ar) (st1) qa (es)) (qa + (Tm.pres (es)).length) wr) := Lib.hid (by have h9 := HRr.out; rw [List.take_length] at h9; exact h9)
   have HKE := Lib.hid (HK4.out.trans HKr.out)
   have HGE := Lib.hid (HKr.out.cells _ _ _ _ HG4.out (by decide) (by decide))
   clear HRr HKr hlt hr
   obtain ⟨W8, hW8⟩ : ∃ W8, W8 = wr := ⟨_, rfl⟩
   rw [← hW8] at HRE HKE HGE x1 x4 ⊢
   clear hW8 x1
   obtain ⟨st3, hst3⟩ : ∃ st3, st3 = allW (32 - X.ar) st1 qa es := ⟨_, rfl⟩
   obtain ⟨qe, hqe⟩ : ∃ qe, qe = qa + (Tm.pres es).length := ⟨_, rfl⟩
   rw [← hst3, ← hqe] at HRE
   have HST3 := Lib.hid hst3
   have HQE := Lib.hid hqe
   have HF3 : Hid (st.bound.length ≤ st3.bound.length) := Lib.hid (by rw [hst3]; exact (HFW.out.trans (fwd_all _ _ _ _)).len)
   clear hst3 hqe
   go_upto_region 23 with fail
   clear x4
   obtain ⟨hX, bA, bc, aA, ac, hR⟩ := HRE.out
   have hbx := hR.box
   have c0 : (W8).cell? ⟨X.B, 0, none⟩ = some (.slice bA (st3).bound.length bc) := cell_of_row (i := 0) hbx rfl
   have cf : (W8).frozen? ⟨X.B, 0, none⟩ = false := free_of_row (i := 0) hbx
   have hcut : st.bound.length ≤ (st3).bound.length := HF3.out
   obtain ⟨A9, c9, hQ1, hQ2⟩ := own_slice hR.names
   have hcc : st.bound.length ≤ bc := by simp only [Value.slice.injEq] at hQ1; omega
   obtain ⟨R3, K3⟩ := hR.cut hX st.bound.length hcut
   obtain ⟨W9, hW3⟩ : ∃ W9, W9 = (W8).setCell ⟨X.B, 0, none⟩ (.slice bA st.bound.length bc) := ⟨_, rfl⟩
   rw [← hW3] at R3 K3
   have HR9 : Hid (RAt X (backW st (st3)) (qe) W9) := Lib.hid ⟨hX, bA, bc, aA, ac, R3⟩
   have HK9 := Lib.hid (HKE.out.trans K3)
   have HG9 := Lib.hid (K3.cells _ _ _ _ HGE.out (by decide) (by decide))
   have hci : (st.bound.length : Int) ≤ (bc : Int) := by omega
   have hc0 : (0 : Int) ≤ (st.bound.length : Int) := by omega
   clear hX hR hbx R3 K3 hQ1 hQ2 hcut
   go_wp2_with fail
   rw [← hW3]
   clear hW3
   go_end0
   refine ⟨rfl, ?_, HK9.out⟩
   have h9 := HR9.out
   rw [HST3.out] at h9
   have e9 : overW (32 - X.ar) st p (.mk 18 n s t l) = backW st (allW (32 - X.ar) st1 qa es) := by
    rw [HL0.out, overW, if_neg (by decide), if_neg (by decide), if_neg (by decide), if_pos (.inl rfl), allW, ← HQ.out, ← HST.out, ← HQA.out]
   rw [e9, nodes_mk9, show p + ((Tm.pres l).length + 1) = qe by have := HPN.out; have := HQ.out; have := HQA.out; have := HQE.out; omega]
   exact h9
set_option maxHeartbeats 16000000 in
set_option maxRecDepth 100000 in
theorem rexpr9_try (X : RCtx) (n : Int) (s t : ByteArray) (l : List Tm) (a : Tm) (es : List Tm) (hl : l = a :: es) (hexa : ExprW X a) (hcl : ∀ c ∈ es, ClauseW X c ∧ c.k = 3) : ExprW X (.mk 19 n s t l) := by
 have HL0 := Lib.hid hl
 have HEX := Lib.hid hexa
 have HCL := Lib.hid hcl
 clear hl hexa hcl
 intro v st V p hT h hp m hm hml hsn
 obtain ⟨A, cap, rfl, hRow, hk, hn, hs, ht⟩ := hT.parts
 have hlen := hRow.max
 unfold maxLen at hlen
 rw [nodes_mk9] at hp hml
 obtain ⟨W1, hW1⟩ : ∃ W1, W1 = V.alloc (.cells #[.int .i8 19, .int .i64 n, .string s, .string t, .slice A l.length cap] 25) := ⟨_, rfl⟩
 have b1 : Below V.heap.size V W1 := by rw [hW1]; exact (Below.refl _ _).alloc (Nat.le_refl _) _
 have HG1 : Hid (W1.heap[V.heap.size]? = some (.cells #[.int .i8 19, .int .i64 n, .string s, .string t, .slice A l.length cap] 25 (0, 0))) := Lib.hid (by rw [hW1]; exact block_alloc _ _)
 have HR1 := Lib.hid (h.under b1)
 have HK1 := Lib.hid (KeepW.of_below b1)
 have HRow := Lib.hid hRow
 have HP : Hid (p + ((Tm.pres l).length + 1) ≤ 100000) := Lib.hid hp
 have HM := Lib.hid hm
 have HML : Hid (m + ((Tm.pres l).length + 1) ≤ 100000) := Lib.hid hml
 have HSE := Lib.hid hsn
 have HT := Lib.hid hT
 have hpp : p ≤ 100000 := by omega
 have hob : st.bound.length ≤ 100000 := by have := hm.1; omega
 clear b1 hT h hp hRow hm hml hsn
 obtain ⟨hX, bA, bc, aA, ac, hR⟩ := HR1.out
 have hbx := hR.box
 have c0 : (W1).cell? ⟨X.B, 0, none⟩ = some (.slice bA (st).bound.length bc) := cell_of_row (i := 0) hbx rfl
 have hg1 := HG1.out
 have x0 : (W1).cell? ⟨V.heap.size, 0, none⟩ = some (.int .i8 19) := cell_of_row (i := 0) hg1 rfl
 have x4 : (W1).cell? ⟨V.heap.size, 4, none⟩ = some (.slice A l.length cap) := cell_of_row (i := 4) hg1 rfl
 clear hX hR hbx hg1
 go_enter Tryz.func47, Tryz.ntmps47
 go_upto_region 1 with fail
 rw [← hW1]
 clear hW1
 have HA0 : Hid (l[0]? = some a) := Lib.hid (by rw [HL0.out]; rfl)
 have i0 : (0 : Int) < (l.length : Int) := by rw [HL0.out, List.length_cons]; omega
 have HPN : Hid ((Tm.pres l).length = a.nodes + (Tm.pres es).length) := Lib.hid (by rw [HL0.out, nodes_pres_cons])
 go_upto_region 15 with fail
 clear c0 x0 x4
 obtain ⟨hX, bA, bc, aA, ac, hR⟩ := HR1.out
 have hbx := hR.box
 have c1 : (W1).cell? ⟨X.B, 1, none⟩ = some (.int .i64 (p : Int)) := cell_of_row (i := 1) hbx rfl
 have cf : (W1).frozen? ⟨X.B, 1, none⟩ = false := free_of_row (i := 1) hbx
 have hw1 : IntKind.i64.wrap ((p : Int) + 1) = ((p + 1 : Nat) : Int) := by rw [IntKind.wrap_i64]; omega
 obtain ⟨q, hq⟩ : ∃ q : Nat, q = p + 1 := ⟨_, rfl⟩
 have hw2 : (p : Int) + 1 = (q : Int) := by omega
 have hw3 : IntKind.i64.wrap (q : Int) = (q : Int) := by rw [IntKind.wrap_i64]; omega
 obtain ⟨R3, K3⟩ := hR.set hX 1 (.int .i64 (q : Int)) _ _ q rfl
 obtain ⟨W3, hW3⟩ : ∃ W3, W3 = (W1).setCell ⟨X.B, 1, none⟩ (.int .i64 (q : Int)) := ⟨_, rfl⟩
 rw [← hW3] at R3 K3
 have HR3 : Hid (RAt X st q W3) := Lib.hid ⟨hX, bA, bc, aA, ac, R3⟩
 have HK3 := Lib.hid (HK1.out.trans K3)
 have HG3 := Lib.hid (K3.cells _ _ _ _ HG1.out (by decide) (by decide))
 have HQ := Lib.hid hq
 rw [← hq] at hw1
 clear hX hR hbx R3 K3 hq
 go_upto_region 16 with fail
 rw [← hW3]
 clear hW3 c1 cf hw1 hw2 hw3
 have x4 : (W3).cell? ⟨V.heap.size, 4, none⟩ = some (.slice A l.length cap) := cell_of_row (i := 4) HG3.out rfl
 obtain ⟨g, off, o, c0, c1, c2, c3, c4, rfl, hTy, e0, e1, e2, e3, e4⟩ := relem_0 HRow.out HR3.out.below HA0.out
 obtain ⟨qa, hqa⟩ : ∃ qa, qa = q + a.nodes := ⟨_, rfl⟩
 have HQA := Lib.hid hqa
 obtain ⟨st1, hst1⟩ : ∃ st1, st1 = overW (32 - X.ar) st q a := ⟨_, rfl⟩
 have HST := Lib.hid hst1
 have HC := Lib.hid (HEX.out _ st W3 q hTy HR3.out (by have := HP.out; have := HPN.out; have := HQ.out; omega) m HM.out (by have := HML.out; have := HPN.out; omega) (HSE.out.mono (by have := HQ.out; omega)))
 have HL1 : Hid (st1.lee (m + a.nodes)) := Lib.hid (by rw [hst1]; exact lee_overT a HM.out)
 have HS1 : Hid (Seen9 st1 qa) := Lib.hid (by rw [hst1, hqa]; exact seen_over _ _ _ _ (HSE.out.mono (by have := HQ.out; omega)))
 have HFW : Hid (Fwd st st1) := Lib.hid (by rw [hst1]; exact fwd_over _ _ _ _)
 rw [← hst1, ← hqa] at HC
 clear hTy hst1 hqa
 go_wp2_with fail
 refine HC.out.mono ?_
 rintro e W4 ⟨rfl, hR9, hK9⟩
 have HR4 : Hid (RAt X (st1) (qa) W4) := Lib.hid hR9
 have HK4 := Lib.hid (HK3.out.trans hK9)
 have HG4 := Lib.hid (hK9.cells _ _ _ _ HG3.out (by decide) (by decide))
 clear hR9 hK9 HC
 clear e0 e1 e2 e3 e4 x4
 have x0 : (W4).cell? ⟨V.heap.size, 0, none⟩ = some (.int .i8 19) := cell_of_row (i := 0) HG4.out rfl
 go_upto_region 18 with fail
 clear x0
 obtain ⟨hX, bA, bc, aA, ac, hR⟩ := HR4.out
 have hbx := hR.box
 have c0 : (W4).cell? ⟨X.B, 0, none⟩ = some (.slice bA (st1).bound.length bc) := cell_of_row (i := 0) hbx rfl
 have cf : (W4).frozen? ⟨X.B, 0, none⟩ = false := free_of_row (i := 0) hbx
 have hcut : st.bound.length ≤ (st1).bound.length := HFW.out.len
 obtain ⟨A9, c9, hQ1, hQ2⟩ := own_slice hR.names
 have hcc : st.bound.length ≤ bc := by simp only [Value.slice.injEq] at hQ1; omega
 obtain ⟨R3, K3⟩ := hR.cut hX st.bound.length hcut
 obtain ⟨W5, hW3⟩ : ∃ W5, W5 = (W4).setCell ⟨X.B, 0, none⟩ (.slice bA st.bound.length bc) := ⟨_, rfl⟩
 rw [← hW3] at R3 K3
 have HR5 : Hid (RAt X (backW st (st1)) (qa) W5) := Lib.hid ⟨hX, bA, bc, aA, ac, R3⟩
 have HK5 := Lib.hid (HK4.out.trans K3)
 have HG5 := Lib.hid (K3.cells _ _ _ _ HG4.out (by decide) (by decide))
 have hci : (st.bound.length : Int) ≤ (bc : Int) := by omega
 have hc0 : (0 : Int) ≤ (st.bound.length : Int) := by omega
 clear hX hR hbx R3 K3 hQ1 hQ2 hcut
 obtain ⟨st2, hst2⟩ : ∃ st2, st2 = backW st st1 := ⟨_, rfl⟩
 rw [← hst2] at HR5
 have HST2 := Lib.hid hst2
 have HL2 : Hid (st2.lee (m + a.nodes)) := Lib.hid (by rw [hst2]; exact lee_back HL1.out)
 have HS2 : Hid (Seen9 st2 qa) := Lib.hid (by rw [hst2]; exact HS1.out)
 have HB2 : Hid (st2.bound = st.bound) := Lib.hid (by rw [hst2]; exact HFW.out.back)
 clear hst2 hcc
 go_upto_region 19 with fail
 rw [← hW3]
 clear hW3 c0 hci hc0
 have HDL : Hid (∀ (j : Nat) (y : Tm), es[j]? = some y → l[1 + j]? = some y) := Lib.hid (fun j y h => by rw [HL0.out, Nat.add_comm, List.getElem?_cons_succ]; exact h)
 have HDN : Hid (l.length = 1 + es.length) := Lib.hid (by rw [HL0.out, List.length_cons]; omega)
 have HDP : Hid (qa + (Tm.pres es).length ≤ p + (Tm.pres l).length + 1) := Lib.hid (by have := HQ.out; have := HPN.out; have := HQA.out; omega)
 have HDM : Hid (m + a.nodes + (Tm.pres es).length ≤ m + (Tm.pres l).length + 1) := Lib.hid (by have := HPN.out; omega)
 go_wp2_with fail
 go_loopw [7] (fun i wr => ∃ j r : Nat, 0 ≤ j ∧ j ≤ (es).length ∧ i = .int .i64 (r : Int) ∧ r = 1 + j ∧ Hid (RAt X (allW (32 - X.ar) (st2) qa ((es).take j)) (qa + (Tm.pres ((es).take j)).length) wr) ∧ Hid (KeepW W5 wr)) (fun i _ => 1 + (es).length - (intOf i).toNat)
 case atStart => exact ⟨0, 1, Nat.zero_le _, Nat.zero_le _, rfl, rfl, Lib.hid (by rw [List.take_zero]; exact HR5.out), Lib.hid (.refl _)⟩
 case round =>
  obtain ⟨j, r, hj0, hj, rfl, hr, HRr, HKr⟩ := hrel
  have hgr := HKr.out.cells _ _ _ _ HG5.out (by decide) (by decide)
  have x1 : (wr).cell? ⟨V.heap.size, 1, none⟩ = some (.int .i64 n) := cell_of_row (i := 1) hgr rfl
  have x4 : (wr).cell? ⟨V.heap.size, 4, none⟩ = some (.slice (some ⟨g, off, o⟩) l.length cap) := cell_of_row (i := 4) hgr rfl
  clear hgr
  have hr0 : (0 : Int) ≤ (r : Int) := by omega
  by_cases hlt : j < (es).length
  ·obtain ⟨y, hy⟩ : ∃ y, (es)[j]? = some y := ⟨(es)[j], List.getElem?_eq_getElem hlt⟩
   have hyl : l[r]? = some y := by rw [hr]; exact HDL.out j y hy
   obtain ⟨ad, c0, c1, c2, c3, c4, hA9, hTy, hEy⟩ := relem HRow.out HRr.out.below hyl
   cases hA9
   have hmem := List.mem_of_getElem? hy
   have hsz := nodes_take9 hy
   have HRJ := Lib.hid hr
   have hri : (r : Int) < (l.length : Int) := by have := (List.getElem?_eq_some_iff.1 hyl).1; omega
   have hrj : (r : Int) < ((1 + (es).length : Nat) : Int) := by omega

   obtain ⟨d0, d1, d2, d3, d4, he, e0, e1, e2, e3, e4⟩ := hEy
   cases he
   have HC := Lib.hid ((HCL.out y hmem).1 _ (allW (32 - X.ar) (st2) (qa) ((es).take j)) wr (qa + (Tm.pres ((es).take j)).length) hTy HRr.out (by have := HP.out; have := HDP.out; omega) (m + a.nodes + (Tm.pres ((es).take j)).length) (lee_allT (es) j HL2.out) (by have := HML.out; have := HDM.out; omega) (seen_all (32 - X.ar) ((es).take j) _ _ HS2.out))
   have HY := Lib.hid hy
   have HSN := Lib.hid (Tm.pres_take_succ hy)
   have HHJ : Hid (j < (es).length ∧ 0 ≤ j) := Lib.hid ⟨hlt, hj0⟩
   clear hTy hy hyl hmem hsz hr
   go_wp2_with fail
   refine HC.out.mono ?_
   rintro e W9 ⟨rfl, hR9, hK9⟩
   have HR9 := Lib.hid hR9
   have HK9 := Lib.hid (HKr.out.trans hK9)
   clear hR9 hK9 e0 e1 e2 e3 e4 x1 x4 HC
   go_wp2_with fail
   go_roundw
   case rel => exact ⟨j + 1, r + 1, by have := HHJ.out; omega, by have := HHJ.out; omega, by go_num, by have := HRJ.out; omega, Lib.hid (by rw [allW_snoc HY.out, HSN.out, List.length_append, ← Nat.add_assoc]; exact HR9.out), HK9⟩
   case measure => have := HRJ.out; have := HHJ.out; simp [intOf]; omega
  ·obtain rfl : j = (es).length := by omega
   have hri : ¬ (r : Int) < ((1 + (es).length : Nat) : Int) := by omega
   have hrl : ¬ (r : Int) < (l.length : Int) := by have := HDN.out; omega

   have HRE : Hid (RAt X (allW (32 - X.ar) (st2) qa (es)) (qa + (Tm.pres (es)).length) wr) := Lib.hid (by have h9 := HRr.out; rw [List.take_length] at h9; exact h9)
   have HKE := Lib.hid (HK5.out.trans HKr.out)
   have HGE := Lib.hid (HKr.out.cells _ _ _ _ HG5.out (by decide) (by decide))
   clear HRr HKr hlt hr
   obtain ⟨W8, hW8⟩ : ∃ W8, W8 = wr := ⟨_, rfl⟩
   rw [← hW8] at HRE HKE HGE x1 x4 ⊢
   clear hW8 x1
   obtain ⟨st3, hst3⟩ : ∃ st3, st3 = allW (32 - X.ar) st2 qa es := ⟨_, rfl⟩
   obtain ⟨qe, hqe⟩ : ∃ qe, qe = qa + (Tm.pres es).length := ⟨_, rfl⟩
   rw [← hst3, ← hqe] at HRE
   have HST3 := Lib.hid hst3
   have HQE := Lib.hid hqe
   have HF3 : Hid (st.bound.length ≤ st3.bound.length) := Lib.hid (by rw [hst3, bound_all (fun y hy => .inl (HCL.out y hy).2), HB2.out]; exact Nat.le_refl _)
   clear hst3 hqe
   go_upto_region 23 with fail
   clear x4
   obtain ⟨hX, bA, bc, aA, ac, hR⟩ := HRE.out
   have hbx := hR.box
   have c0 : (W8).cell? ⟨X.B, 0, none⟩ = some (.slice bA (st3).bound.length bc) := cell_of_row (i := 0) hbx rfl
   have cf : (W8).frozen? ⟨X.B, 0, none⟩ = false := free_of_row (i := 0) hbx
   have hcut : st.bound.length ≤ (st3).bound.length := HF3.out
   obtain ⟨A9, c9, hQ1, hQ2⟩ := own_slice hR.names
   have hcc : st.bound.length ≤ bc := by simp only [Value.slice.injEq] at hQ1; omega
   obtain ⟨R3, K3⟩ := hR.cut hX st.bound.length hcut
   obtain ⟨W9, hW3⟩ : ∃ W9, W9 = (W8).setCell ⟨X.B, 0, none⟩ (.slice bA st.bound.length bc) := ⟨_, rfl⟩
   rw [← hW3] at R3 K3
   have HR9 : Hid (RAt X (backW st (st3)) (qe) W9) := Lib.hid ⟨hX, bA, bc, aA, ac, R3⟩
   have HK9 := Lib.hid (HKE.out.trans K3)
   have HG9 := Lib.hid (K3.cells _ _ _ _ HGE.out (by decide) (by decide))
   have hci : (st.bound.length : Int) ≤ (bc : Int) := by omega
   have hc0 : (0 : Int) ≤ (st.bound.length : Int) := by omega
   clear hX hR hbx R3 K3 hQ1 hQ2 hcut
   go_wp2_with fail
   rw [← hW3]
   clear hW3
   go_end0
   refine ⟨rfl, ?_, HK9.out⟩
   have h9 := HR9.out
   rw [HST3.out] at h9
   have e9 : overW (32 - X.ar) st p (.mk 19 n s t l) = backW st (allW (32 - X.ar) st2 qa es) := by
    rw [back_same (by rw [bound_all (fun y hy => .inl (HCL.out y hy).2), HB2.out]), HL0.out, overW, if_neg (by decide), if_neg (by decide), if_neg (by decide), if_neg (by decide), if_pos rfl, tryW, ← HQ.out, ← HST.out, ← HQA.out, ← HST2.out]
   rw [e9, nodes_mk9, show p + ((Tm.pres l).length + 1) = qe by have := HPN.out; have := HQ.out; have := HQA.out; have := HQE.out; omega]
   exact h9
end Go.Proofs.YtmdcdhdjojimeaaGreatDoor
