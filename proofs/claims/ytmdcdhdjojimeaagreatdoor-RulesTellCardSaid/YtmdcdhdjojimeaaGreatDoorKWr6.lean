/- Layer 9: the document's own walker: clause, receive, all trees (written by gen_wr6.py). -/
import Derived.Test.YtmdcdhdjojimeaaGreatDoorKWr5
set_option linter.unusedVariables false
set_option linter.unusedSimpArgs false
namespace Go.Proofs.YtmdcdhdjojimeaaGreatDoor
open Go.RowKit

set_option maxHeartbeats 16000000 in
set_option maxRecDepth 100000 in
theorem rclause9_any (X : RCtx) (mm : Nat) (s t : ByteArray) (l ps es : List Tm) (gd : Tm) (hl : l = ps ++ gd :: es) (hps : ps.length = mm) (hgd : guardB gd = true) (hex : ∀ x ∈ es, ExprW X x) : ClauseW X (.mk 3 (mm : Int) s t l) := by
 have HL0 := Lib.hid hl
 have HMM := Lib.hid hps
 have HGU := Lib.hid hgd
 have HEX := Lib.hid hex
 clear hl hps hgd hex
 intro v st V p hT h hp m hm hml hsn
 obtain ⟨A, cap, rfl, hRow, hk, hn, hs, ht⟩ := hT.parts
 have hlen := hRow.max
 unfold maxLen at hlen
 rw [nodes_mk9] at hp hml
 obtain ⟨W1, hW1⟩ : ∃ W1, W1 = V.alloc (.cells #[.int .i8 3, .int .i64 (mm : Int), .string s, .string t, .slice A l.length cap] 25) := ⟨_, rfl⟩
 have b1 : Below V.heap.size V W1 := by rw [hW1]; exact (Below.refl _ _).alloc (Nat.le_refl _) _
 have HG1 : Hid (W1.heap[V.heap.size]? = some (.cells #[.int .i8 3, .int .i64 (mm : Int), .string s, .string t, .slice A l.length cap] 25 (0, 0))) := Lib.hid (by rw [hW1]; exact block_alloc _ _)
 have HR1 := Lib.hid (h.under b1)
 have HK1 := Lib.hid (KeepW.of_below b1)
 have HRow := Lib.hid hRow
 have HP : Hid (p + ((Tm.pres l).length + 1) ≤ 100000) := Lib.hid hp
 have HM := Lib.hid hm
 have HML : Hid (m + ((Tm.pres l).length + 1) ≤ 100000) := Lib.hid hml
 have HSE := Lib.hid hsn
 have HT := Lib.hid hT
 have hpp : p ≤ 100000 := by omega
 have hob : st.bound.length ≤ 100000 := by have := hm.1; omega
 clear b1 hT h hp hRow hm hml hsn
 obtain ⟨hX, bA, bc, aA, ac, hR⟩ := HR1.out
 have hbx := hR.box
 have c0 : (W1).cell? ⟨X.B, 0, none⟩ = some (.slice bA (st).bound.length bc) := cell_of_row (i := 0) hbx rfl
 have hg1 := HG1.out
 have x0 : (W1).cell? ⟨V.heap.size, 0, none⟩ = some (.int .i8 3) := cell_of_row (i := 0) hg1 rfl
 have x4 : (W1).cell? ⟨V.heap.size, 4, none⟩ = some (.slice A l.length cap) := cell_of_row (i := 4) hg1 rfl
 clear hX hR hbx hg1
 go_enter Tryz.func26, Tryz.ntmps26
 go_upto_region 1 with fail
 rw [← hW1]
 clear hW1
 have HLN : Hid (l.length = mm + 1 + es.length) := Lib.hid (by rw [HL0.out, List.length_append, List.length_cons, HMM.out]; omega)
 have HPN : Hid ((Tm.pres l).length = (Tm.pres ps).length + gd.nodes + (Tm.pres es).length) := Lib.hid (by rw [HL0.out, Tm.pres_append, List.length_append, nodes_pres_cons]; omega)
 go_upto_region 2 with fail
 clear c0 x0 x4
 obtain ⟨hX, bA, bc, aA, ac, hR⟩ := HR1.out
 have hbx := hR.box
 have c1 : (W1).cell? ⟨X.B, 1, none⟩ = some (.int .i64 (p : Int)) := cell_of_row (i := 1) hbx rfl
 have cf : (W1).frozen? ⟨X.B, 1, none⟩ = false := free_of_row (i := 1) hbx
 have hw1 : IntKind.i64.wrap ((p : Int) + 1) = ((p + 1 : Nat) : Int) := by rw [IntKind.wrap_i64]; omega
 obtain ⟨q, hq⟩ : ∃ q : Nat, q = p + 1 := ⟨_, rfl⟩
 have hw2 : (p : Int) + 1 = (q : Int) := by omega
 have hw3 : IntKind.i64.wrap (q : Int) = (q : Int) := by rw [IntKind.wrap_i64]; omega
 obtain ⟨R3, K3⟩ := hR.set hX 1 (.int .i64 (q : Int)) _ _ q rfl
 obtain ⟨W3, hW3⟩ : ∃ W3, W3 = (W1).setCell ⟨X.B, 1, none⟩ (.int .i64 (q : Int)) := ⟨_, rfl⟩
 rw [← hW3] at R3 K3
 have HR3 : Hid (RAt X st q W3) := Lib.hid ⟨hX, bA, bc, aA, ac, R3⟩
 have HK3 := Lib.hid (HK1.out.trans K3)
 have HG3 := Lib.hid (K3.cells _ _ _ _ HG1.out (by decide) (by decide))
 have HQ := Lib.hid hq
 rw [← hq] at hw1
 clear hX hR hbx R3 K3 hq
 go_upto_region 3 with fail
 rw [← hW3]
 clear hW3 c1 cf hw1 hw2 hw3
 have HDL : Hid (∀ (j : Nat) (y : Tm), ps[j]? = some y → l[0 + j]? = some y) := Lib.hid (fun j y h => by rw [Nat.zero_add, HL0.out, List.getElem?_append_left (List.getElem?_eq_some_iff.1 h).1]; exact h)
 have HDN : Hid (ps.length = mm) := HMM
 have HDP : Hid (q + (Tm.pres ps).length ≤ p + (Tm.pres l).length + 1) := Lib.hid (by have := HQ.out; have := HPN.out; omega)
 have HDM : Hid (m + (Tm.pres ps).length ≤ m + (Tm.pres l).length + 1) := Lib.hid (by have := HPN.out; omega)
 go_wp2_with fail
 go_loopw [5] (fun i wr => ∃ j r : Nat, 0 ≤ j ∧ j ≤ (ps).length ∧ i = .int .i64 (r : Int) ∧ r = 0 + j ∧ Hid (RAt X (patW (32 - X.ar) st q (Tm.pres ((ps).take j))) (q + (Tm.pres ((ps).take j)).length) wr) ∧ Hid (KeepW W3 wr)) (fun i _ => 0 + (ps).length - (intOf i).toNat)
 case atStart => exact ⟨0, 0, Nat.zero_le _, Nat.zero_le _, rfl, rfl, Lib.hid (by rw [List.take_zero]; exact HR3.out), Lib.hid (.refl _)⟩
 case round =>
  obtain ⟨j, r, hj0, hj, rfl, hr, HRr, HKr⟩ := hrel
  have hgr := HKr.out.cells _ _ _ _ HG3.out (by decide) (by decide)
  have x1 : (wr).cell? ⟨V.heap.size, 1, none⟩ = some (.int .i64 (mm : Int)) := cell_of_row (i := 1) hgr rfl
  have x4 : (wr).cell? ⟨V.heap.size, 4, none⟩ = some (.slice A l.length cap) := cell_of_row (i := 4) hgr rfl
  clear hgr
  have hr0 : (0 : Int) ≤ (r : Int) := by omega
  by_cases hlt : j < (ps).length
  ·obtain ⟨y, hy⟩ : ∃ y, (ps)[j]? = some y := ⟨(ps)[j], List.getElem?_eq_getElem hlt⟩
   have hyl : l[r]? = some y := by rw [hr]; exact HDL.out j y hy
   obtain ⟨ad, c0, c1, c2, c3, c4, hA9, hTy, hEy⟩ := relem HRow.out HRr.out.below hyl
   cases hA9
   have hmem := List.mem_of_getElem? hy
   have hsz := nodes_take9 hy
   have HRJ := Lib.hid hr
   have hri : (r : Int) < (l.length : Int) := by have := (List.getElem?_eq_some_iff.1 hyl).1; omega
   have hrj : (r : Int) < ((0 + (ps).length : Nat) : Int) := by omega

   obtain ⟨d0, d1, d2, d3, d4, he, e0, e1, e2, e3, e4⟩ := hEy
   cases he
   have HC := Lib.hid (rpattern9_any X y _ (patW (32 - X.ar) st q (Tm.pres ((ps).take j))) wr (q + (Tm.pres ((ps).take j)).length) hTy HRr.out (by have := HP.out; have := HDP.out; omega) (m + (Tm.pres ((ps).take j)).length) (lee_patT (ps) j HM.out) (by have := HML.out; have := HDM.out; omega))
   have hrm : (r : Int) < (mm : Int) := by have := HMM.out; omega
   have HY := Lib.hid hy
   have HSN := Lib.hid (Tm.pres_take_succ hy)
   have HHJ : Hid (j < (ps).length ∧ 0 ≤ j) := Lib.hid ⟨hlt, hj0⟩
   clear hTy hy hyl hmem hsz hr
   go_wp2_with fail
   refine HC.out.mono ?_
   rintro e W9 ⟨rfl, hR9, hK9⟩
   have HR9 := Lib.hid hR9
   have HK9 := Lib.hid (HKr.out.trans hK9)
   clear hR9 hK9 e0 e1 e2 e3 e4 x1 x4 HC
   go_wp2_with fail
   go_roundw
   case rel => exact ⟨j + 1, r + 1, by have := HHJ.out; omega, by have := HHJ.out; omega, by go_num, by have := HRJ.out; omega, Lib.hid (by rw [HSN.out, patW_append, List.length_append, ← Nat.add_assoc]; exact HR9.out), HK9⟩
   case measure => have := HRJ.out; have := HHJ.out; simp [intOf]; omega
  ·obtain rfl : j = (ps).length := by omega
   have hri : ¬ (r : Int) < ((0 + (ps).length : Nat) : Int) := by omega
   have hrm : ¬ (r : Int) < (mm : Int) := by have := HMM.out; omega
   have HRE : Hid (RAt X (patW (32 - X.ar) st q (Tm.pres (ps))) (q + (Tm.pres (ps)).length) wr) := Lib.hid (by have h9 := HRr.out; rw [List.take_length] at h9; exact h9)
   have HKE := Lib.hid (HK3.out.trans HKr.out)
   have HGE := Lib.hid (HKr.out.cells _ _ _ _ HG3.out (by decide) (by decide))
   clear HRr HKr hlt hr
   obtain ⟨W4, hW4⟩ : ∃ W4, W4 = wr := ⟨_, rfl⟩
   rw [← hW4] at HRE HKE HGE x1 x4 ⊢
   clear hW4 hri
   go_upto_region 7 with fail
   clear hrm x1 x4
   obtain ⟨st1, hst1⟩ : ∃ st1, st1 = patW (32 - X.ar) st q (Tm.pres ps) := ⟨_, rfl⟩
   obtain ⟨q1, hq1⟩ : ∃ q1, q1 = q + (Tm.pres ps).length := ⟨_, rfl⟩
   rw [← hst1, ← hq1] at HRE
   have HST1 := Lib.hid hst1
   have HQ1 := Lib.hid hq1
   have HL1 : Hid (st1.lee (m + (Tm.pres ps).length)) := Lib.hid (by rw [hst1]; exact lee_pat _ _ HM.out)
   have HS1 : Hid (Seen9 st1 q1) := Lib.hid (by rw [hst1]; exact seen_pat _ (HSE.out.mono (by have := HQ.out; omega)))
   have HF1 : Hid (Fwd st st1) := Lib.hid (by rw [hst1]; exact fwd_pat _ _ _ _)
   clear hst1 hq1
   have HA0 : Hid (l[mm]? = some gd) := Lib.hid (by rw [HL0.out, ← HMM.out, List.getElem?_append_right (Nat.le_refl _), Nat.sub_self]; rfl)
   obtain ⟨ad, c0, c1, c2, c3, c4, hA9, hTy, hEy⟩ := relem HRow.out HRE.out.below HA0.out
   cases hA9
   obtain ⟨d0, d1, d2, d3, d4, he, e0, e1, e2, e3, e4⟩ := hEy
   cases he
   have HC := Lib.hid (ruses9_any X gd _ st1 W4 q1 hTy HRE.out (by have := HP.out; have := HPN.out; have := HQ.out; have := HQ1.out; omega) (m + (Tm.pres ps).length) HL1.out (by have := HML.out; have := HPN.out; omega) (guard_plain gd HGU.out) HS1.out)
   obtain ⟨st2, hst2⟩ : ∃ st2, st2 = overW (32 - X.ar) st1 q1 gd := ⟨_, rfl⟩
   obtain ⟨q2, hq2⟩ : ∃ q2, q2 = q1 + gd.nodes := ⟨_, rfl⟩
   rw [← hst2, ← hq2] at HC
   have HST2 := Lib.hid hst2
   have HQ2 := Lib.hid hq2
   have HL2 : Hid (st2.lee (m + (Tm.pres ps).length + gd.nodes)) := Lib.hid (by rw [hst2]; exact lee_overT gd HL1.out)
   have HS2 : Hid (Seen9 st2 q2) := Lib.hid (by rw [hst2, hq2]; exact seen_over _ _ _ _ HS1.out)
   have HF2 : Hid (Fwd st st2) := Lib.hid (by rw [hst2]; exact HF1.out.trans (fwd_over _ _ _ _))
   have i0 : (mm : Int) < (l.length : Int) := by have := HLN.out; omega
   have i1 : (0 : Int) ≤ (mm : Int) := by omega
   have hm9 : mm ≤ l.length := by have := HLN.out; omega
   clear hTy hst2 hq2
   have x1 : (W4).cell? ⟨V.heap.size, 1, none⟩ = some (.int .i64 (mm : Int)) := cell_of_row (i := 1) HGE.out rfl
   have x4 : (W4).cell? ⟨V.heap.size, 4, none⟩ = some (.slice (some ad) l.length cap) := cell_of_row (i := 4) HGE.out rfl
   go_wp2_with fail
   refine HC.out.mono ?_
   rintro e W5 ⟨rfl, hR9, hK9⟩
   have HR5 : Hid (RAt X (st2) (q2) W5) := Lib.hid hR9
   have HK5 := Lib.hid (HKE.out.trans hK9)
   have HG5 := Lib.hid (hK9.cells _ _ _ _ HGE.out (by decide) (by decide))
   clear hR9 hK9 HC
   clear e0 e1 e2 e3 e4 x1 x4
   have x1 : (W5).cell? ⟨V.heap.size, 1, none⟩ = some (.int .i64 (mm : Int)) := cell_of_row (i := 1) HG5.out rfl
   have x4 : (W5).cell? ⟨V.heap.size, 4, none⟩ = some (.slice (some ad) l.length cap) := cell_of_row (i := 4) HG5.out rfl
   obtain ⟨m1, hm1⟩ : ∃ m1 : Nat, m1 = mm + 1 := ⟨_, rfl⟩
   have hw1 : IntKind.i64.wrap ((mm : Int) + 1) = (m1 : Int) := by rw [IntKind.wrap_i64]; omega
   have hw2 : (mm : Int) + 1 = (m1 : Int) := by omega
   have hw3 : IntKind.i64.wrap (m1 : Int) = (m1 : Int) := by rw [IntKind.wrap_i64]; omega
   have HM1 := Lib.hid hm1
   clear hm1
   go_upto_region 9 with fail
   clear hw1 hw2 hw3 i0 i1 x1 x4
   have HDL : Hid (∀ (j : Nat) (y : Tm), es[j]? = some y → l[m1 + j]? = some y) := Lib.hid (fun j y h => by
    rw [HL0.out, HM1.out, List.getElem?_append_right (by have := HMM.out; omega), show mm + 1 + j - ps.length = j + 1 by have := HMM.out; omega, List.getElem?_cons_succ]; exact h)
   have HDN : Hid (l.length = m1 + es.length) := Lib.hid (by rw [HLN.out, HM1.out])
   have HDP : Hid (q2 + (Tm.pres es).length ≤ p + (Tm.pres l).length + 1) := Lib.hid (by have := HQ.out; have := HPN.out; have := HQ1.out; have := HQ2.out; omega)
   have HDM : Hid (m + (Tm.pres ps).length + gd.nodes + (Tm.pres es).length ≤ m + (Tm.pres l).length + 1) := Lib.hid (by have := HPN.out; omega)
   go_loopw [6] (fun i wr => ∃ j r : Nat, 0 ≤ j ∧ j ≤ (es).length ∧ i = .int .i64 (r : Int) ∧ r = m1 + j ∧ Hid (RAt X (allW (32 - X.ar) (st2) q2 ((es).take j)) (q2 + (Tm.pres ((es).take j)).length) wr) ∧ Hid (KeepW W5 wr)) (fun i _ => m1 + (es).length - (intOf i).toNat)
   case atStart => exact ⟨0, m1, Nat.zero_le _, Nat.zero_le _, rfl, rfl, Lib.hid (by rw [List.take_zero]; exact HR5.out), Lib.hid (.refl _)⟩
   case round =>
    obtain ⟨j, r, hj0, hj, rfl, hr, HRr, HKr⟩ := hrel
    have hgr := HKr.out.cells _ _ _ _ HG5.out (by decide) (by decide)
    have x1 : (wr).cell? ⟨V.heap.size, 1, none⟩ = some (.int .i64 (mm : Int)) := cell_of_row (i := 1) hgr rfl
    have x4 : (wr).cell? ⟨V.heap.size, 4, none⟩ = some (.slice (some ad) l.length cap) := cell_of_row (i := 4) hgr rfl
    clear hgr
    have hr0 : (0 : Int) ≤ (r : Int) := by omega
    by_cases hlt : j < (es).length
    ·obtain ⟨y, hy⟩ : ∃ y, (es)[j]? = some y := ⟨(es)[j], List.getElem?_eq_getElem hlt⟩
     have hyl : l[r]? = some y := by rw [hr]; exact HDL.out j y hy
     obtain ⟨ad9, c0, c1, c2, c3, c4, hA9, hTy, hEy⟩ := relem HRow.out HRr.out.below hyl
     cases hA9
     have hmem := List.mem_of_getElem? hy
     have hsz := nodes_take9 hy
     have HRJ := Lib.hid hr
     have hri : (r : Int) < (l.length : Int) := by have := (List.getElem?_eq_some_iff.1 hyl).1; omega
     have hrj : (r : Int) < ((m1 + (es).length : Nat) : Int) := by omega

     obtain ⟨d0, d1, d2, d3, d4, he, e0, e1, e2, e3, e4⟩ := hEy
     cases he
     have HC := Lib.hid (HEX.out y hmem _ (allW (32 - X.ar) (st2) (q2) ((es).take j)) wr (q2 + (Tm.pres ((es).take j)).length) hTy HRr.out (by have := HP.out; have := HDP.out; omega) (m + (Tm.pres ps).length + gd.nodes + (Tm.pres ((es).take j)).length) (lee_allT (es) j HL2.out) (by have := HML.out; have := HDM.out; omega) (seen_all (32 - X.ar) ((es).take j) _ _ HS2.out))
     have HY := Lib.hid hy
     have HSN := Lib.hid (Tm.pres_take_succ hy)
     have HHJ : Hid (j < (es).length ∧ 0 ≤ j) := Lib.hid ⟨hlt, hj0⟩
     clear hTy hy hyl hmem hsz hr
     go_wp2_with fail
     refine HC.out.mono ?_
     rintro e W9 ⟨rfl, hR9, hK9⟩
     have HR9 := Lib.hid hR9
     have HK9 := Lib.hid (HKr.out.trans hK9)
     clear hR9 hK9 e0 e1 e2 e3 e4 x1 x4 HC
     go_wp2_with fail
     go_roundw
     case rel => exact ⟨j + 1, r + 1, by have := HHJ.out; omega, by have := HHJ.out; omega, by go_num, by have := HRJ.out; omega, Lib.hid (by rw [allW_snoc HY.out, HSN.out, List.length_append, ← Nat.add_assoc]; exact HR9.out), HK9⟩
     case measure => have := HRJ.out; have := HHJ.out; simp [intOf]; omega
    ·obtain rfl : j = (es).length := by omega
     have hri : ¬ (r : Int) < ((m1 + (es).length : Nat) : Int) := by omega
     have hrl : ¬ (r : Int) < (l.length : Int) := by have := HDN.out; omega

     have HRE : Hid (RAt X (allW (32 - X.ar) (st2) q2 (es)) (q2 + (Tm.pres (es)).length) wr) := Lib.hid (by have h9 := HRr.out; rw [List.take_length] at h9; exact h9)
     have HKE := Lib.hid (HK5.out.trans HKr.out)
     have HGE := Lib.hid (HKr.out.cells _ _ _ _ HG5.out (by decide) (by decide))
     clear HRr HKr hlt hr
     obtain ⟨W8, hW8⟩ : ∃ W8, W8 = wr := ⟨_, rfl⟩
     rw [← hW8] at HRE HKE HGE x1 x4 ⊢
     clear hW8 x1 hri
     obtain ⟨st3, hst3⟩ : ∃ st3, st3 = allW (32 - X.ar) st2 q2 es := ⟨_, rfl⟩
     obtain ⟨qe, hqe⟩ : ∃ qe, qe = q2 + (Tm.pres es).length := ⟨_, rfl⟩
     rw [← hst3, ← hqe] at HRE
     have HST3 := Lib.hid hst3
     have HQE := Lib.hid hqe
     have HF3 : Hid (st.bound.length ≤ st3.bound.length) := Lib.hid (by rw [hst3]; exact (HF2.out.trans (fwd_all _ _ _ _)).len)
     clear hst3 hqe
     go_upto_region 12 with fail
     clear x4
     obtain ⟨hX, bA, bc, aA, ac, hR⟩ := HRE.out
     have hbx := hR.box
     have c0 : (W8).cell? ⟨X.B, 0, none⟩ = some (.slice bA (st3).bound.length bc) := cell_of_row (i := 0) hbx rfl
     have cf : (W8).frozen? ⟨X.B, 0, none⟩ = false := free_of_row (i := 0) hbx
     have hcut : st.bound.length ≤ (st3).bound.length := HF3.out
     obtain ⟨A9, c9, hQ1, hQ2⟩ := own_slice hR.names
     have hcc : st.bound.length ≤ bc := by simp only [Value.slice.injEq] at hQ1; omega
     obtain ⟨R3, K3⟩ := hR.cut hX st.bound.length hcut
     obtain ⟨W9, hW3⟩ : ∃ W9, W9 = (W8).setCell ⟨X.B, 0, none⟩ (.slice bA st.bound.length bc) := ⟨_, rfl⟩
     rw [← hW3] at R3 K3
     have HR9 : Hid (RAt X (backW st (st3)) (qe) W9) := Lib.hid ⟨hX, bA, bc, aA, ac, R3⟩
     have HK9 := Lib.hid (HKE.out.trans K3)
     have HG9 := Lib.hid (K3.cells _ _ _ _ HGE.out (by decide) (by decide))
     have hci : (st.bound.length : Int) ≤ (bc : Int) := by omega
     have hc0 : (0 : Int) ≤ (st.bound.length : Int) := by omega
     clear hX hR hbx R3 K3 hQ1 hQ2 hcut
     go_wp2_with fail
     rw [← hW3]
     clear hW3
     go_end0
     refine ⟨rfl, ?_, HK9.out⟩
     have h9 := HR9.out
     rw [HST3.out] at h9
     have e9 : overW (32 - X.ar) st p (.mk 3 (mm : Int) s t l) = backW st (allW (32 - X.ar) st2 q2 es) := by
      rw [overW, if_neg (by decide), if_neg (by decide), if_pos rfl, Int.toNat_natCast, HL0.out]
      have hcw := clauseW_cut (32 - X.ar) ps (gd :: es) st (p + 1) (by simp)
      rw [HMM.out] at hcw
      rw [hcw, allW, ← HQ.out, ← HST1.out, ← HQ1.out, ← HST2.out, ← HQ2.out]
     rw [e9, nodes_mk9, show p + ((Tm.pres l).length + 1) = qe by have := HPN.out; have := HQ.out; have := HQ1.out; have := HQ2.out; have := HQE.out; omega]
     exact h9
set_option maxHeartbeats 16000000 in
set_option maxRecDepth 100000 in
theorem rexpr9_recv (X : RCtx) (n : Int) (s t : ByteArray) (l : List Tm) (hcl : ∀ c ∈ l, (ClauseW X c ∧ c.k = 3) ∨ (c.k = 21 ∧ ∀ x ∈ c.l, ExprW X x)) : ExprW X (.mk 20 n s t l) := by
 have HCL := Lib.hid hcl
 clear hcl
 intro v st V p hT h hp m hm hml hsn
 obtain ⟨A, cap, rfl, hRow, hk, hn, hs, ht⟩ := hT.parts
 have hlen := hRow.max
 unfold maxLen at hlen
 rw [nodes_mk9] at hp hml
 obtain ⟨W1, hW1⟩ : ∃ W1, W1 = V.alloc (.cells #[.int .i8 20, .int .i64 n, .string s, .string t, .slice A l.length cap] 25) := ⟨_, rfl⟩
 have b1 : Below V.heap.size V W1 := by rw [hW1]; exact (Below.refl _ _).alloc (Nat.le_refl _) _
 have HG1 : Hid (W1.heap[V.heap.size]? = some (.cells #[.int .i8 20, .int .i64 n, .string s, .string t, .slice A l.length cap] 25 (0, 0))) := Lib.hid (by rw [hW1]; exact block_alloc _ _)
 have HR1 := Lib.hid (h.under b1)
 have HK1 := Lib.hid (KeepW.of_below b1)
 have HRow := Lib.hid hRow
 have HP : Hid (p + ((Tm.pres l).length + 1) ≤ 100000) := Lib.hid hp
 have HM := Lib.hid hm
 have HML : Hid (m + ((Tm.pres l).length + 1) ≤ 100000) := Lib.hid hml
 have HSE := Lib.hid hsn
 have HT := Lib.hid hT
 have hpp : p ≤ 100000 := by omega
 have hob : st.bound.length ≤ 100000 := by have := hm.1; omega
 clear b1 hT h hp hRow hm hml hsn
 obtain ⟨hX, bA, bc, aA, ac, hR⟩ := HR1.out
 have hbx := hR.box
 have c0 : (W1).cell? ⟨X.B, 0, none⟩ = some (.slice bA (st).bound.length bc) := cell_of_row (i := 0) hbx rfl
 have hg1 := HG1.out
 have x0 : (W1).cell? ⟨V.heap.size, 0, none⟩ = some (.int .i8 20) := cell_of_row (i := 0) hg1 rfl
 have x4 : (W1).cell? ⟨V.heap.size, 4, none⟩ = some (.slice A l.length cap) := cell_of_row (i := 4) hg1 rfl
 clear hX hR hbx hg1
 go_enter Tryz.func47, Tryz.ntmps47
 go_upto_region 1 with fail
 rw [← hW1]
 clear hW1
 go_upto_region 25 with fail
 clear c0 x0 x4
 obtain ⟨hX, bA, bc, aA, ac, hR⟩ := HR1.out
 have hbx := hR.box
 have c1 : (W1).cell? ⟨X.B, 1, none⟩ = some (.int .i64 (p : Int)) := cell_of_row (i := 1) hbx rfl
 have cf : (W1).frozen? ⟨X.B, 1, none⟩ = false := free_of_row (i := 1) hbx
 have hw1 : IntKind.i64.wrap ((p : Int) + 1) = ((p + 1 : Nat) : Int) := by rw [IntKind.wrap_i64]; omega
 obtain ⟨q, hq⟩ : ∃ q : Nat, q = p + 1 := ⟨_, rfl⟩
 have hw2 : (p : Int) + 1 = (q : Int) := by omega
 have hw3 : IntKind.i64.wrap (q : Int) = (q : Int) := by rw [IntKind.wrap_i64]; omega
 obtain ⟨R3, K3⟩ := hR.set hX 1 (.int .i64 (q : Int)) _ _ q rfl
 obtain ⟨W3, hW3⟩ : ∃ W3, W3 = (W1).setCell ⟨X.B, 1, none⟩ (.int .i64 (q : Int)) := ⟨_, rfl⟩
 rw [← hW3] at R3 K3
 have HR3 : Hid (RAt X st q W3) := Lib.hid ⟨hX, bA, bc, aA, ac, R3⟩
 have HK3 := Lib.hid (HK1.out.trans K3)
 have HG3 := Lib.hid (K3.cells _ _ _ _ HG1.out (by decide) (by decide))
 have HQ := Lib.hid hq
 rw [← hq] at hw1
 clear hX hR hbx R3 K3 hq
 go_upto_region 26 with fail
 rw [← hW3]
 clear hW3 c1 cf hw1 hw2 hw3
 have HLE : Hid (st.lee (m + 1)) := Lib.hid (lee_mono HM.out (by omega))
 have HSQ : Hid (Seen9 st q) := Lib.hid (HSE.out.mono (by have := HQ.out; omega))
 have HDL : Hid (∀ (j : Nat) (y : Tm), l[j]? = some y → l[0 + j]? = some y) := Lib.hid (fun j y h => by rw [Nat.zero_add]; exact h)
 have HDN : Hid (l.length = 0 + l.length) := Lib.hid (by omega)
 have HDP : Hid (q + (Tm.pres l).length ≤ p + (Tm.pres l).length + 1) := Lib.hid (by have := HQ.out; omega)
 have HDM : Hid (m + 1 + (Tm.pres l).length ≤ m + (Tm.pres l).length + 1) := Lib.hid (by omega)
 go_wp2_with fail
 go_loopw [8] (fun i wr => ∃ j r : Nat, 0 ≤ j ∧ j ≤ (l).length ∧ i = .int .i64 (r : Int) ∧ r = 0 + j ∧ Hid (RAt X (allW (32 - X.ar) (st) q ((l).take j)) (q + (Tm.pres ((l).take j)).length) wr) ∧ Hid (KeepW W3 wr)) (fun i _ => 0 + (l).length - (intOf i).toNat)
 case atStart => exact ⟨0, 0, Nat.zero_le _, Nat.zero_le _, rfl, rfl, Lib.hid (by rw [List.take_zero]; exact HR3.out), Lib.hid (.refl _)⟩
 case round =>
  obtain ⟨j, r, hj0, hj, rfl, hr, HRr, HKr⟩ := hrel
  have hgr := HKr.out.cells _ _ _ _ HG3.out (by decide) (by decide)
  have x1 : (wr).cell? ⟨V.heap.size, 1, none⟩ = some (.int .i64 n) := cell_of_row (i := 1) hgr rfl
  have x4 : (wr).cell? ⟨V.heap.size, 4, none⟩ = some (.slice A l.length cap) := cell_of_row (i := 4) hgr rfl
  clear hgr
  have hr0 : (0 : Int) ≤ (r : Int) := by omega
  by_cases hlt : j < (l).length
  ·obtain ⟨y, hy⟩ : ∃ y, (l)[j]? = some y := ⟨(l)[j], List.getElem?_eq_getElem hlt⟩
   have hyl : l[r]? = some y := by rw [hr]; exact HDL.out j y hy
   obtain ⟨ad, c0, c1, c2, c3, c4, hA9, hTy, hEy⟩ := relem HRow.out HRr.out.below hyl
   cases hA9
   have hmem := List.mem_of_getElem? hy
   have hsz := nodes_take9 hy
   have HRJ := Lib.hid hr
   have hri : (r : Int) < (l.length : Int) := by have := (List.getElem?_eq_some_iff.1 hyl).1; omega
   have hrj : (r : Int) < ((0 + (l).length : Nat) : Int) := by omega

   obtain ⟨d0, d1, d2, d3, d4, he, e0, e1, e2, e3, e4⟩ := hEy
   cases he

   have HY := Lib.hid hy
   have HSN := Lib.hid (Tm.pres_take_succ hy)
   have HHJ : Hid (j < (l).length ∧ 0 ≤ j) := Lib.hid ⟨hlt, hj0⟩
   obtain ⟨yk, yn, ys, yt, yl⟩ := y
   clear e0 e1 e2 e3 e4 hTy
   obtain ⟨ad', u', e', had', hE', hTy⟩ := HRow.out.at_ r _ hyl
   cases e'
   obtain ⟨YA, yc, rfl, hyR, -⟩ := hTy.parts
   have hylen := hyR.max
   unfold maxLen at hylen
   have HEV : Hid (∀ V2, Below X.base X.w0 V2 → ElemAt V2 ad r (.agg #[.int .i8 yk, .int .i64 yn, .string ys, .string yt, .slice YA yl.length yc])) := Lib.hid (fun V2 hb2 => hE'.keep (hb2.block _ had'))
   clear hE' had'
   obtain ⟨b0, b1, b2, b3, b4, hag, e0, e1, e2, e3, e4⟩ := HEV.out wr HRr.out.below
   cases hag
   have HYR := Lib.hid hyR
   have HTY := Lib.hid hTy
   have HMEM := Lib.hid hmem
   have hsz2 := hsz
   rw [nodes_mk9] at hsz2
   have HSZ := Lib.hid hsz2
   clear hTy hy hyl hmem hsz hr hyR hsz2
   by_cases h21 : yk = 21
   ·subst h21
    have hex := ((HCL.out _ HMEM.out).resolve_left (fun h => by have h9 := h.2; simp [Tm.k] at h9)).2
    have HEX := Lib.hid hex
    obtain ⟨W4, hW4⟩ : ∃ W4, W4 = wr := ⟨_, rfl⟩
    subst hW4
    obtain ⟨st9, hst9⟩ : ∃ st9, st9 = allW (32 - X.ar) (st) q ((l).take j) := ⟨_, rfl⟩
    obtain ⟨pj, hpj⟩ : ∃ pj, pj = q + (Tm.pres ((l).take j)).length := ⟨_, rfl⟩
    obtain ⟨pq, hpq⟩ : ∃ pq : Nat, pq = pj + 1 := ⟨_, rfl⟩
    have HRq := HRr.out
    rw [← hst9, ← hpj] at HRq
    have HR4 := Lib.hid HRq
    have HL9 : Hid (st9.lee (m + 1 + (Tm.pres ((l).take j)).length)) := Lib.hid (by rw [hst9]; exact lee_allT (l) j HLE.out)
    have HS9 : Hid (Seen9 st9 pq) := Lib.hid (by rw [hst9, hpq, hpj]; exact (seen_all (32 - X.ar) ((l).take j) _ _ HSQ.out).mono (by omega))
    have HB9 : Hid (st9.bound = st.bound) := Lib.hid (by rw [hst9]; exact bound_all (fun y hy => (HCL.out y (List.mem_of_mem_take hy)).elim (fun h => .inl h.2) (fun h => .inr h.1)))
    have HPJ : Hid (st9 = allW (32 - X.ar) (st) q ((l).take j) ∧ pj = q + (Tm.pres ((l).take j)).length ∧ pq = pj + 1) := Lib.hid ⟨hst9, hpj, hpq⟩
    have HPB : Hid (pq + (Tm.pres yl).length ≤ 100000) := Lib.hid (by have := HP.out; have := HSZ.out; have := HQ.out; omega)
    have HG4 := Lib.hid (HKr.out.cells _ _ _ _ HG3.out (by decide) (by decide))
    have hw1 : IntKind.i64.wrap ((pj : Int) + 1) = (pq : Int) := by have := HPB.out; rw [IntKind.wrap_i64]; omega
    have hw2 : (pj : Int) + 1 = (pq : Int) := by omega
    have hw3 : IntKind.i64.wrap (pq : Int) = (pq : Int) := by have := HPB.out; rw [IntKind.wrap_i64]; omega
    clear hex hst9 hpj hpq HRq HRr
    obtain ⟨hX, bA, bc, aA, ac, hR⟩ := HR4.out
    have hbx := hR.box
    have c1 : (W4).cell? ⟨X.B, 1, none⟩ = some (.int .i64 (pj : Int)) := cell_of_row (i := 1) hbx rfl
    have cf : (W4).frozen? ⟨X.B, 1, none⟩ = false := free_of_row (i := 1) hbx
    obtain ⟨R3, K3⟩ := hR.set hX 1 (.int .i64 (pq : Int)) _ _ pq rfl
    obtain ⟨W5, hW3⟩ : ∃ W5, W5 = (W4).setCell ⟨X.B, 1, none⟩ (.int .i64 (pq : Int)) := ⟨_, rfl⟩
    rw [← hW3] at R3 K3
    have HR5 : Hid (RAt X (st9) pq W5) := Lib.hid ⟨hX, bA, bc, aA, ac, R3⟩
    have HK5 := Lib.hid (HKr.out.trans K3)
    have HG5 := Lib.hid (K3.cells _ _ _ _ HG4.out (by decide) (by decide))
    clear hX hR hbx R3 K3
    go_upto_region 31 with fail
    rw [← hW3]
    clear hW3 c1 cf
    clear e0 e1 e2 e3 e4 x1 x4 hw1 hw2 hw3
    go_wp2_with fail
    go_loopw [9] (fun i2 wr => ∃ j2 : Nat, j2 ≤ yl.length ∧ i2 = .int .i64 (j2 : Int) ∧ Hid (RAt X (allW (32 - X.ar) st9 pq (yl.take j2)) (pq + (Tm.pres (yl.take j2)).length) wr) ∧ Hid (KeepW W5 wr)) (fun i2 _ => yl.length - (intOf i2).toNat)
    case atStart => exact ⟨0, Nat.zero_le _, rfl, Lib.hid (by rw [List.take_zero]; exact HR5.out), Lib.hid (.refl _)⟩
    case round =>
     obtain ⟨j2, hj2, rfl, HR2, HK2⟩ := hrel
     have hgr := HK2.out.cells _ _ _ _ HG5.out (by decide) (by decide)
     have x4 : (wr).cell? ⟨V.heap.size, 4, none⟩ = some (.slice (some ad) l.length cap) := cell_of_row (i := 4) hgr rfl
     obtain ⟨d0, d1, d2, d3, d4, he, e0, e1, e2, e3, e4⟩ := HEV.out wr HR2.out.below
     simp only [Value.agg.injEq, Array.mk.injEq, List.cons.injEq, and_true] at he
     obtain ⟨rfl, rfl, rfl, rfl, rfl⟩ := he
     clear hgr e0 e1 e2 e3
     by_cases hlt2 : j2 < yl.length
     ·obtain ⟨z, hz⟩ : ∃ z, yl[j2]? = some z := ⟨yl[j2], List.getElem?_eq_getElem hlt2⟩
      obtain ⟨ad2, b0, b1, b2, b3, b4, hA9, hTz, hEz⟩ := relem HYR.out HR2.out.below hz
      cases hA9
      obtain ⟨a0, a1, a2, a3, a4, he2, f0, f1, f2, f3, f4⟩ := hEz
      cases he2
      have hsz := nodes_take9 hz
      have HC := Lib.hid (HEX.out z (List.mem_of_getElem? hz) _ _ wr _ hTz HR2.out (by have := HPB.out; omega) (m + 1 + (Tm.pres ((l).take j)).length + (Tm.pres (yl.take j2)).length) (lee_allT yl j2 HL9.out) (by have := HML.out; have := HSZ.out; omega) (seen_all (32 - X.ar) (yl.take j2) _ _ HS9.out))
      have HZ := Lib.hid hz
      have HZN := Lib.hid (Tm.pres_take_succ hz)
      clear hTz hz hsz
      go_wp2_with fail
      refine HC.out.mono ?_
      rintro e W9 ⟨rfl, hR9, hK9⟩
      have HR9 := Lib.hid hR9
      have HK9 := Lib.hid (HK2.out.trans hK9)
      clear hR9 hK9 e4 f0 f1 f2 f3 f4 x4 HC
      go_wp2_with fail
      go_roundw
      case rel => exact ⟨j2 + 1, by omega, by go_num, Lib.hid (by rw [allW_snoc HZ.out, HZN.out, List.length_append, ← Nat.add_assoc]; exact HR9.out), HK9⟩
      case measure => simp [intOf]; omega
     ·obtain rfl : j2 = yl.length := by omega
      obtain ⟨W8, hW8⟩ : ∃ W8, W8 = wr := ⟨_, rfl⟩
      subst hW8
      have HRQ := HR2.out
      rw [List.take_length] at HRQ
      obtain ⟨st3, hst3⟩ : ∃ st3, st3 = allW (32 - X.ar) st9 pq yl := ⟨_, rfl⟩
      obtain ⟨qe, hqe⟩ : ∃ qe, qe = pq + (Tm.pres yl).length := ⟨_, rfl⟩
      rw [← hst3, ← hqe] at HRQ
      have HR8 := Lib.hid HRQ
      have HK8 := Lib.hid (HK5.out.trans HK2.out)
      have HG8 := Lib.hid (HK2.out.cells _ _ _ _ HG5.out (by decide) (by decide))
      have HST3 := Lib.hid hst3
      have HQE := Lib.hid hqe
      have HF3 : Hid (st.bound.length ≤ st3.bound.length) := Lib.hid (by rw [hst3, ← HB9.out]; exact (fwd_all _ _ _ _).len)
      clear hst3 hqe HRQ HR2 HK2
      go_upto_region 35 with fail
      clear x4 e4
      obtain ⟨hX, bA, bc, aA, ac, hR⟩ := HR8.out
      have hbx := hR.box
      have c0 : (W8).cell? ⟨X.B, 0, none⟩ = some (.slice bA (st3).bound.length bc) := cell_of_row (i := 0) hbx rfl
      have cf : (W8).frozen? ⟨X.B, 0, none⟩ = false := free_of_row (i := 0) hbx
      have hcut : st.bound.length ≤ (st3).bound.length := HF3.out
      obtain ⟨A9, c9, hQ1, hQ2⟩ := own_slice hR.names
      have hcc : st.bound.length ≤ bc := by simp only [Value.slice.injEq] at hQ1; omega
      obtain ⟨R3, K3⟩ := hR.cut hX st.bound.length hcut
      obtain ⟨W9, hW3⟩ : ∃ W9, W9 = (W8).setCell ⟨X.B, 0, none⟩ (.slice bA st.bound.length bc) := ⟨_, rfl⟩
      rw [← hW3] at R3 K3
      have HR9 : Hid (RAt X (backW st (st3)) (qe) W9) := Lib.hid ⟨hX, bA, bc, aA, ac, R3⟩
      have HK9 := Lib.hid (HK8.out.trans K3)
      have HG9 := Lib.hid (K3.cells _ _ _ _ HG8.out (by decide) (by decide))
      have hci : (st.bound.length : Int) ≤ (bc : Int) := by omega
      have hc0 : (0 : Int) ≤ (st.bound.length : Int) := by omega
      clear hX hR hbx R3 K3 hQ1 hQ2 hcut
      go_upto_region 28 with fail
      rw [← hW3]
      clear hW3 c0 hci hc0
      go_wp2_with fail
      go_roundw
      case rel => exact ⟨j + 1, r + 1, by have := HHJ.out; omega, by have := HHJ.out; omega, by go_num, by have := HRJ.out; omega, Lib.hid (by
       have h9 := HR9.out
       rw [allW_snoc HY.out, HSN.out, List.length_append, ← Nat.add_assoc, ← HPJ.out.1, ← HPJ.out.2.1]
       have e9 : overW (32 - X.ar) st9 pj (.mk 21 yn ys yt yl) = backW st st3 := by
        rw [overW, if_neg (by decide), if_neg (by decide), if_neg (by decide), if_pos (.inr rfl), ← HPJ.out.2.2, ← HST3.out]
        unfold backW
        rw [HB9.out]
       have e8 : pj + (Tm.mk 21 yn ys yt yl).pre.length = qe := by
        have h8 : (Tm.mk 21 yn ys yt yl).pre.length = (Tm.pres yl).length + 1 := by rw [Tm.pre, List.length_cons]
        have h7 := HPJ.out.2.2
        have h6 := HQE.out
        omega
       rw [e9, e8]
       exact h9), HK9⟩
      case measure => have := HRJ.out; have := HHJ.out; simp [intOf]; omega
   ·have h3 := (HCL.out _ HMEM.out).resolve_right (fun h => h21 h.1)
    have f21 : (yk == 21) = false := beq_eq_false_iff_ne.2 h21
    have HC := Lib.hid (h3.1 _ _ wr _ HTY.out HRr.out (by rw [nodes_mk9]; have := HP.out; have := HSZ.out; have := HQ.out; omega) (m + 1 + (Tm.pres ((l).take j)).length) (lee_allT (l) j HLE.out) (by rw [nodes_mk9]; have := HML.out; have := HSZ.out; omega) (seen_all (32 - X.ar) ((l).take j) _ _ HSQ.out))
    clear h3 h21
    go_wp2_with fail
    refine HC.out.mono ?_
    rintro e W9 ⟨rfl, hR9, hK9⟩
    have HR9 := Lib.hid hR9
    have HK9 := Lib.hid (HKr.out.trans hK9)
    clear hR9 hK9 e0 e1 e2 e3 e4 x1 x4 HC f21
    go_wp2_with fail
    go_roundw
    case rel => exact ⟨j + 1, r + 1, by have := HHJ.out; omega, by have := HHJ.out; omega, by go_num, by have := HRJ.out; omega, Lib.hid (by rw [allW_snoc HY.out, HSN.out, List.length_append, ← Nat.add_assoc]; exact HR9.out), HK9⟩
    case measure => have := HRJ.out; have := HHJ.out; simp [intOf]; omega
  ·obtain rfl : j = (l).length := by omega
   have hri : ¬ (r : Int) < ((0 + (l).length : Nat) : Int) := by omega
   have hrl : ¬ (r : Int) < (l.length : Int) := by have := HDN.out; omega

   have HRE : Hid (RAt X (allW (32 - X.ar) (st) q (l)) (q + (Tm.pres (l)).length) wr) := Lib.hid (by have h9 := HRr.out; rw [List.take_length] at h9; exact h9)
   have HKE := Lib.hid (HK3.out.trans HKr.out)
   have HGE := Lib.hid (HKr.out.cells _ _ _ _ HG3.out (by decide) (by decide))
   clear HRr HKr hlt hr
   go_wp2_with fail
   go_end0
   refine ⟨rfl, ?_, HKE.out⟩
   have h9 := HRE.out
   have e9 : overW (32 - X.ar) st p (.mk 20 n s t l) = allW (32 - X.ar) (st) q (l) := by
    rw [overW, if_neg (by decide), if_neg (by decide), if_neg (by decide), if_neg (by decide), if_neg (by decide), ← HQ.out]
   rw [e9, nodes_mk9, show p + ((Tm.pres l).length + 1) = q + (Tm.pres l).length by have := HQ.out; omega]
   exact h9
theorem rwalk_all (X : RCtx) (y : Tm) : (exprB y = true → ExprW X y) ∧ (∀ m, clB m y = true → ClauseW X y) ∧ (afterB y = true → ∀ x ∈ y.l, ExprW X x) := by
 induction y using Tm.ind with
 | h k n s t l ih =>
  refine ⟨fun h => ?_, fun m h => ?_, fun h x hx => ?_⟩
  ·have hk := expr_kinds h
   clear h
   cases hk with
   | var => exact rexpr9_var X n s t [] rfl
   | match_ a b hb => exact rexpr9_match X n s t _ a b rfl ((ih b (by simp)).1 hb)
   | case_ e r he hr => exact rexpr9_case X n s t _ e r rfl ((ih e (by simp)).1 he) (fun c hc => ⟨(ih c (by simp [hc])).2.1 1 (hr c hc), by obtain ⟨ck, cn, cs, ct, cl⟩ := c; exact (cl_kinds (hr _ hc)).1⟩)
   | try_ e r he hr => exact rexpr9_try X n s t _ e r rfl ((ih e (by simp)).1 he) (fun c hc => ⟨(ih c (by simp [hc])).2.1 2 (hr c hc), by obtain ⟨ck, cn, cs, ct, cl⟩ := c; exact (cl_kinds (hr _ hc)).1⟩)
   | recv _ hl => exact rexpr9_recv X n s t l (fun c hc => (hl c hc).elim (fun h => .inl ⟨(ih c hc).2.1 1 h, by obtain ⟨ck, cn, cs, ct, cl⟩ := c; exact (cl_kinds h).1⟩) (fun h => .inr ⟨by obtain ⟨ck, cn, cs, ct, cl⟩ := c; exact (after_kinds h).1, (ih c hc).2.2 h⟩))
   | rest _ _ hk hl => exact rexpr9_rest X k n s t l hk (fun x hx => (ih x hx).1 (hl x hx))
  ·obtain ⟨rfl, rfl, ps, g, es, hl, hp, hg, he⟩ := cl_kinds h
   exact rclause9_any X m s t l ps es g hl hp hg (fun x hx => (ih x (by rw [hl]; simp [hx])).1 (he x hx))
  ·exact (ih x hx).1 ((after_kinds h).2 x hx)
end Go.Proofs.YtmdcdhdjojimeaaGreatDoor
