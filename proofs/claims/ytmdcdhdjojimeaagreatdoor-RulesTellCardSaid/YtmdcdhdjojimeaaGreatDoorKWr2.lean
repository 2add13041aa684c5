/- Layer 9: the document's own walker: bind (written by gen_wr2.py). -/
import Derived.Test.YtmdcdhdjojimeaaGreatDoorKQuietC
import Derived.LoopTactic
set_option linter.unusedVariables false
set_option linter.unusedSimpArgs false
namespace Go.Proofs.YtmdcdhdjojimeaaGreatDoor
open Go.RowKit

attribute [local irreducible] Go.wpQuiet
set_option maxHeartbeats 16000000 in
set_option maxRecDepth 100000 in
theorem rbind9_any (X : RCtx) (st : Wk) (V : World) (p : Nat) (s : ByteArray) (h : RAt X st p V) (hp : p ≤ 100000) (hm : st.lee 100000) :
  Calls Tryz.prog 65 #[.pointer (some ⟨X.B, 0, none⟩), .string s] V (RTo X (if s.data.toList = [95] then st else bindW (32 - X.ar) st s p) p V) := by
 by_cases hs : s.toList = [95]
 ·have hsb : (s.toList == [95]) = true := beq_iff_eq.2 hs
  have HS : Hid (s.data.toList = [95]) := by show _ = _; rw [← Go.Lib.toList_data]; exact hs
  have H := Lib.hid h
  rw [if_pos HS.out]
  clear hs h hm
  go_enter Tryz.func65, Tryz.ntmps65
  go_wp2_with fail
  go_end0
  exact ⟨rfl, H.out, .refl _⟩
 have hsb : (s.toList == [95]) = false := beq_eq_false_iff_ne.2 hs
 have HS : Hid (¬ s.data.toList = [95]) := by show ¬ _; rw [← Go.Lib.toList_data]; exact hs
 rw [if_neg HS.out]
 obtain ⟨hX, bA, bc, aA, ac, hR⟩ := h
 have HM := Lib.hid hm
 have HX := Lib.hid hX
 obtain ⟨u, hu⟩ : ∃ u, u = fst9 90 st.fl := ⟨_, rfl⟩
 obtain ⟨sl, hsl⟩ : ∃ sl, sl = fst9 11 st.fl := ⟨_, rfl⟩
 rw [← hu, ← hsl] at hR
 have HU := Lib.hid hu
 have HSL := Lib.hid hsl
 have hbl := hm.1
 have hal := hm.2.1
 have har := hX.ar
 have HR := Lib.hid hR
 have HC := Lib.hid (rhas_any st.bound s bA bc V (by unfold maxLen; omega) (srow11 hR.names))
 have hbx := hR.box
 have c0 : (V).cell? ⟨X.B, 0, none⟩ = some (.slice bA st.bound.length bc) := cell_of_row (i := 0) hbx rfl
 have c1 : (V).cell? ⟨X.B, 1, none⟩ = some (.int .i64 (p : Int)) := cell_of_row (i := 1) hbx rfl
 have c2 : (V).cell? ⟨X.B, 2, none⟩ = some (.int .i64 (X.ar : Int)) := cell_of_row (i := 2) hbx rfl
 have c3 : (V).cell? ⟨X.B, 3, none⟩ = some (.int .i64 u) := cell_of_row (i := 3) hbx rfl
 have c4 : (V).cell? ⟨X.B, 4, none⟩ = some (.int .i64 sl) := cell_of_row (i := 4) hbx rfl
 have c5 : (V).cell? ⟨X.B, 5, none⟩ = some (.slice aA st.all.length ac) := cell_of_row (i := 5) hbx rfl
 clear hs hX hR hm hu hsl hbx
 go_enter Tryz.func65, Tryz.ntmps65
 go_wp2_with fail
 refine HC.out.mono ?_
 rintro e W1 ⟨rfl, b1⟩
 have HR1 := Lib.hid (HR.out.under HX.out b1)
 have HK1 := Lib.hid (KeepW.of_below b1)
 have hbx := HR1.out.box
 clear HC c0 c1 c2 c3 c4 c5 b1
 have c0 : (W1).cell? ⟨X.B, 0, none⟩ = some (.slice bA st.bound.length bc) := cell_of_row (i := 0) hbx rfl
 have c1 : (W1).cell? ⟨X.B, 1, none⟩ = some (.int .i64 (p : Int)) := cell_of_row (i := 1) hbx rfl
 have c2 : (W1).cell? ⟨X.B, 2, none⟩ = some (.int .i64 (X.ar : Int)) := cell_of_row (i := 2) hbx rfl
 have c3 : (W1).cell? ⟨X.B, 3, none⟩ = some (.int .i64 u) := cell_of_row (i := 3) hbx rfl
 have c4 : (W1).cell? ⟨X.B, 4, none⟩ = some (.int .i64 sl) := cell_of_row (i := 4) hbx rfl
 have c5 : (W1).cell? ⟨X.B, 5, none⟩ = some (.slice aA st.all.length ac) := cell_of_row (i := 5) hbx rfl
 clear hbx
 cases hh : hasL st.bound s with
 | true =>
  have HIN := Lib.hid ((hasL_mem _ _).1 hh)
  go_wp2_with fail
  go_end0
  refine ⟨rfl, ⟨HX.out, bA, bc, aA, ac, ?_⟩, HK1.out⟩
  rw [show bindW (32 - X.ar) st s p = st by unfold bindW; rw [if_pos HIN.out], ← HU.out, ← HSL.out]
  exact HR1.out
 | false =>
  have HNI : Hid (¬ s ∈ st.bound) := Lib.hid (fun h => by rw [(hasL_mem _ _).2 h] at hh; cases hh)
  clear hh
  obtain ⟨b2, hb2⟩ : ∃ b2, b2 = st.bound ++ [s] := ⟨_, rfl⟩
  have hb2l : b2.length = st.bound.length + 1 := by rw [hb2]; simp
  have HB2 := Lib.hid hb2
  -- what is to be shown at the end
  have HFIN : Hid (∀ (al : List ByteArray) (V9 : World), al = (if s ∈ st.all then st.all else st.all ++ [s]) → ∀ (s2 : Int), s2 = (if 32 < (b2.length : Int) + (X.ar : Int) then (if sl < 0 then (p : Int) else sl) else sl) → (∃ bA bc aA ac, RW9 X b2 al u s2 p bA bc aA ac V9) → KeepW V V9 → RTo X (bindW (32 - X.ar) st s p) p V (.returned (.tuple #[])) V9) := Lib.hid (by
   rintro al V9 hal9 s2 hs2 ⟨bA9, bc9, aA9, ac9, hR9⟩ hK9
   refine ⟨rfl, ⟨HX.out, bA9, bc9, aA9, ac9, ?_⟩, hK9⟩
   have e1 : (bindW (32 - X.ar) st s p).bound = b2 := by unfold bindW; rw [if_neg HNI.out, HB2.out]
   have e2 : (bindW (32 - X.ar) st s p).all = al := by unfold bindW; rw [if_neg HNI.out, hal9]
   have e3 : fst9 90 (bindW (32 - X.ar) st s p).fl = u := by
    unfold bindW; rw [if_neg HNI.out]
    dsimp only
    split
    ·rw [fst9_snoc_other _ _ _ _ (by decide)]; exact HU.out.symm
    ·exact HU.out.symm
   have e4 : fst9 11 (bindW (32 - X.ar) st s p).fl = s2 := by
    unfold bindW; rw [if_neg HNI.out, hs2]
    dsimp only
    by_cases h9 : 32 < (b2.length : Int) + (X.ar : Int)
    ·rw [if_pos h9, if_pos (by rw [hb2l] at h9; omega), fst9_snoc_same, ← HSL.out]
    ·rw [if_neg h9, if_neg (by rw [hb2l] at h9; omega)]; exact HSL.out.symm
   rw [e1, e2, e3, e4]
   exact hR9)
  have hb2b : b2.length ≤ 100001 := by omega
  clear hb2l
  obtain ⟨W2, hW2⟩ : ∃ W2, W2 = W1.alloc (.cells #[.string s] 9) := ⟨_, rfl⟩
  have b2' : Below W1.heap.size W1 W2 := by rw [hW2]; exact (Below.refl _ _).alloc (Nat.le_refl _) _
  have HG2 : Hid (W2.heap[W1.heap.size]? = some (.cells #[.string s] 9 (0, 0))) := Lib.hid (by rw [hW2]; exact block_alloc _ _)
  have HR2 := Lib.hid (HR1.out.under HX.out b2')
  have HK2 := Lib.hid (HK1.out.trans (.of_below b2'))
  have HBS2 : Hid (X.base ≤ W2.heap.size) := Lib.hid (Nat.le_trans HX.out.base HR2.out.below.size)
  clear b2' hb2
  go_wp2_with (at_builtin; rw [← hW2]; clear hW2; refine wpList_own_str rfl (.tmp 18) (.tmp 20) rfl HR2.out.names HBS2.out rfl _ rfl HG2.out (by omega) ?_)
  intro v3 W3 h0 g3 a3
  replace h0 : W3.ownsRow X.base 9 1 v3 b2.length (b2.map .string) := by rw [HB2.out, List.length_append, List.map_append]; exact h0
  have hbx3 : W3.heap[X.B]? = _ := (g3.block _ (heap_lt HR2.out.box) (fun e' => by
   obtain ⟨_, cur, h2⟩ := own_blk HR2.out.names e'.symm
   rw [HR2.out.box] at h2; cases h2)).trans HR2.out.box
  clear c0 c1 c2 c3 c4 c5
  have c0 : (W3).cell? ⟨X.B, 0, none⟩ = some (.slice bA st.bound.length bc) := cell_of_row (i := 0) hbx3 rfl
  have c1 : (W3).cell? ⟨X.B, 1, none⟩ = some (.int .i64 (p : Int)) := cell_of_row (i := 1) hbx3 rfl
  have c2 : (W3).cell? ⟨X.B, 2, none⟩ = some (.int .i64 (X.ar : Int)) := cell_of_row (i := 2) hbx3 rfl
  have c3 : (W3).cell? ⟨X.B, 3, none⟩ = some (.int .i64 u) := cell_of_row (i := 3) hbx3 rfl
  have c4 : (W3).cell? ⟨X.B, 4, none⟩ = some (.int .i64 sl) := cell_of_row (i := 4) hbx3 rfl
  have c5 : (W3).cell? ⟨X.B, 5, none⟩ = some (.slice aA st.all.length ac) := cell_of_row (i := 5) hbx3 rfl
  have cf : (W3).frozen? ⟨X.B, 0, none⟩ = false := free_of_row (i := 0) hbx3
  obtain ⟨bA2, bc2, rfl, R4, K4⟩ := HR2.out.setb HX.out (bound2 := b2) g3 h0 a3
  obtain ⟨W4, hW4⟩ : ∃ W4, W4 = W3.setCell ⟨X.B, 0, none⟩ (.slice bA2 b2.length bc2) := ⟨_, rfl⟩
  rw [← hW4] at R4 K4
  have HR4 := Lib.hid R4
  have HK4 := Lib.hid (HK2.out.trans K4)
  have HC4 := Lib.hid (rhas_any st.all s aA ac W4 (by unfold maxLen; omega) (srow11 R4.order))
  have hbx := R4.box
  clear hbx3 h0 g3 a3 R4 K4
  go_upto_region 2 with fail
  rw [← hW4]
  clear hW4 c0 c1 c2 c3 c4 c5 cf
  have c0 : (W4).cell? ⟨X.B, 0, none⟩ = some (.slice bA2 b2.length bc2) := cell_of_row (i := 0) hbx rfl
  have c1 : (W4).cell? ⟨X.B, 1, none⟩ = some (.int .i64 (p : Int)) := cell_of_row (i := 1) hbx rfl
  have c2 : (W4).cell? ⟨X.B, 2, none⟩ = some (.int .i64 (X.ar : Int)) := cell_of_row (i := 2) hbx rfl
  have c3 : (W4).cell? ⟨X.B, 3, none⟩ = some (.int .i64 u) := cell_of_row (i := 3) hbx rfl
  have c4 : (W4).cell? ⟨X.B, 4, none⟩ = some (.int .i64 sl) := cell_of_row (i := 4) hbx rfl
  have c5 : (W4).cell? ⟨X.B, 5, none⟩ = some (.slice aA st.all.length ac) := cell_of_row (i := 5) hbx rfl
  clear hbx
  go_wp2_with fail
  refine HC4.out.mono ?_
  rintro e W5 ⟨rfl, b5⟩
  have HR5 := Lib.hid (HR4.out.under HX.out b5)
  have HK5 := Lib.hid (HK4.out.trans (.of_below b5))
  have hbx := HR5.out.box
  clear HC4 c0 c1 c2 c3 c4 c5 b5
  have c0 : (W5).cell? ⟨X.B, 0, none⟩ = some (.slice bA2 b2.length bc2) := cell_of_row (i := 0) hbx rfl
  have c1 : (W5).cell? ⟨X.B, 1, none⟩ = some (.int .i64 (p : Int)) := cell_of_row (i := 1) hbx rfl
  have c2 : (W5).cell? ⟨X.B, 2, none⟩ = some (.int .i64 (X.ar : Int)) := cell_of_row (i := 2) hbx rfl
  have c3 : (W5).cell? ⟨X.B, 3, none⟩ = some (.int .i64 u) := cell_of_row (i := 3) hbx rfl
  have c4 : (W5).cell? ⟨X.B, 4, none⟩ = some (.int .i64 sl) := cell_of_row (i := 4) hbx rfl
  have c5 : (W5).cell? ⟨X.B, 5, none⟩ = some (.slice aA st.all.length ac) := cell_of_row (i := 5) hbx rfl
  clear hbx
  cases hh : hasL st.all s with
  | true =>
   have hin := (hasL_mem _ _).1 hh
   rw [if_pos hin] at HFIN
   have R6 := HR5.out
   have K6 := HK5.out
   clear hh hin
   go_upto_region 4 with fail
   clear c0 c1 c2 c3 c4 c5
   obtain ⟨V6, hV6⟩ : ∃ V6, V6 = W5 := ⟨_, rfl⟩
   rw [← hV6] at R6 K6 ⊢
   have HR6 := Lib.hid R6
   have HK6 := Lib.hid K6
   clear R6 K6
   by_cases hm : 32 < (b2.length : Int) + (X.ar : Int)
   ·have hw : IntKind.i64.wrap ((b2.length : Int) + (X.ar : Int)) = (b2.length : Int) + (X.ar : Int) := by rw [IntKind.wrap_i64]; omega
    by_cases hs0 : sl < 0
    ·refine wp_region_qC (C := fun V => Below (V6).heap.size (V6) V) (by kernel_rfl) (by kernel_rfl) (drewC (V6)) ?_
     refine wpq1 ?_; (try simp only [Act.put, sI, sZ, sS])
     refine wpq1 ?_; (try simp only [Act.put, sI, sZ, sS])
     refine wpq1 ?_; (try simp only [Act.put, sI, sZ, sS])
     refine wpqC (v := ?_) (by kernel_rfl) ?_ ?_; rotate_left; (intro V hV; (try dsimp only at hV); have h1 := (hV.block _ (heap_lt HR6.out.box)).trans HR6.out.box; have c0 := cell_of_row (i := 0) h1 rfl; go_simp; first | done | with_reducible rfl); (try simp only [Act.put, sI, sZ, sS])
     refine wpq1 ?_; (try simp only [Act.put, sI, sZ, sS])
     refine wpq1 ?_; (try simp only [Act.put, sI, sZ, sS])
     refine wpq1 ?_; (try simp only [Act.put, sI, sZ, sS])
     refine wpq1 ?_; (try simp only [Act.put, sI, sZ, sS])
     refine wpqC (v := ?_) (by kernel_rfl) ?_ ?_; rotate_left; (intro V hV; (try dsimp only at hV); have h1 := (hV.block _ (heap_lt HR6.out.box)).trans HR6.out.box; have c2 := cell_of_row (i := 2) h1 rfl; go_simp; first | done | with_reducible rfl); (try simp only [Act.put, sI, sZ, sS])
     refine wpq1 ?_; (try simp only [Act.put, sI, sZ, sS])
     refine wpq1 ?_; (try simp only [Act.put, sI, sZ, sS])
     refine wpq1 ?_; (try simp only [Act.put, sI, sZ, sS])
     refine wpq1 ?_; (try simp only [Act.put, sI, sZ, sS])
     refine wpq1 ?_; (try simp only [Act.put, sI, sZ, sS])
     refine wpq1 ?_; (try simp only [Act.put, sI, sZ, sS])
     refine wpqC (v := ?_) (by kernel_rfl) ?_ ?_; rotate_left; (intro V hV; (try dsimp only at hV); have h1 := (hV.block _ (heap_lt HR6.out.box)).trans HR6.out.box; have c4 := cell_of_row (i := 4) h1 rfl; go_simp; first | done | with_reducible rfl); (try simp only [Act.put, sI, sZ, sS])
     refine wpq1 ?_; (try simp only [Act.put, sI, sZ, sS])
     refine wpq1 ?_; (try simp only [Act.put, sI, sZ, sS])
     refine wpQuiet_nil ?_
     intro V9 h9
     (try dsimp only at h9)
     have HB7 := Lib.hid h9
     clear h9
     have HR7 := Lib.hid (HR6.out.under HX.out HB7.out)
     have HK7 := Lib.hid (HK6.out.trans (.of_below HB7.out))
     have hbx := HR7.out.box
     have c0 : (V9).cell? ⟨X.B, 0, none⟩ = some (.slice bA2 b2.length bc2) := cell_of_row (i := 0) hbx rfl
     have c1 : (V9).cell? ⟨X.B, 1, none⟩ = some (.int .i64 (p : Int)) := cell_of_row (i := 1) hbx rfl
     have c2 : (V9).cell? ⟨X.B, 2, none⟩ = some (.int .i64 (X.ar : Int)) := cell_of_row (i := 2) hbx rfl
     have c3 : (V9).cell? ⟨X.B, 3, none⟩ = some (.int .i64 u) := cell_of_row (i := 3) hbx rfl
     have c4 : (V9).cell? ⟨X.B, 4, none⟩ = some (.int .i64 sl) := cell_of_row (i := 4) hbx rfl
     have c5 : (V9).cell? ⟨X.B, 5, none⟩ = some (.slice aA (st.all).length ac) := cell_of_row (i := 5) hbx rfl
     have cf : (V9).frozen? ⟨X.B, 4, none⟩ = false := free_of_row (i := 4) hbx
     obtain ⟨V10, hV10⟩ : ∃ V10, V10 = V9.setCell ⟨X.B, 4, none⟩ (.int .i64 (p : Int)) := ⟨_, rfl⟩
     obtain ⟨R10, K10⟩ := HR7.out.set HX.out 4 (.int .i64 (p : Int)) u (p : Int) p rfl
     rw [← hV10] at R10 K10
     have HF := Lib.hid (HFIN.out (st.all) V10 (by rfl) (p : Int) (by rw [if_pos hm, if_pos hs0]) ⟨_, _, _, _, R10⟩ (HK7.out.trans K10))
     clear hbx R10 K10 HFIN
     go_wp2_with fail
     rw [← hV10]
     go_end0
     exact HF.out
    ·refine wp_region_qC (C := fun V => Below (V6).heap.size (V6) V) (by kernel_rfl) (by kernel_rfl) (drewC (V6)) ?_
     refine wpq1 ?_; (try simp only [Act.put, sI, sZ, sS])
     refine wpq1 ?_; (try simp only [Act.put, sI, sZ, sS])
     refine wpq1 ?_; (try simp only [Act.put, sI, sZ, sS])
     refine wpqC (v := ?_) (by kernel_rfl) ?_ ?_; rotate_left; (intro V hV; (try dsimp only at hV); have h1 := (hV.block _ (heap_lt HR6.out.box)).trans HR6.out.box; have c0 := cell_of_row (i := 0) h1 rfl; go_simp; first | done | with_reducible rfl); (try simp only [Act.put, sI, sZ, sS])
     refine wpq1 ?_; (try simp only [Act.put, sI, sZ, sS])
     refine wpq1 ?_; (try simp only [Act.put, sI, sZ, sS])
     refine wpq1 ?_; (try simp only [Act.put, sI, sZ, sS])
     refine wpq1 ?_; (try simp only [Act.put, sI, sZ, sS])
     refine wpqC (v := ?_) (by kernel_rfl) ?_ ?_; rotate_left; (intro V hV; (try dsimp only at hV); have h1 := (hV.block _ (heap_lt HR6.out.box)).trans HR6.out.box; have c2 := cell_of_row (i := 2) h1 rfl; go_simp; first | done | with_reducible rfl); (try simp only [Act.put, sI, sZ, sS])
     refine wpq1 ?_; (try simp only [Act.put, sI, sZ, sS])
     refine wpq1 ?_; (try simp only [Act.put, sI, sZ, sS])
     refine wpq1 ?_; (try simp only [Act.put, sI, sZ, sS])
     refine wpq1 ?_; (try simp only [Act.put, sI, sZ, sS])
     refine wpq1 ?_; (try simp only [Act.put, sI, sZ, sS])
     refine wpq1 ?_; (try simp only [Act.put, sI, sZ, sS])
     refine wpqC (v := ?_) (by kernel_rfl) ?_ ?_; rotate_left; (intro V hV; (try dsimp only at hV); have h1 := (hV.block _ (heap_lt HR6.out.box)).trans HR6.out.box; have c4 := cell_of_row (i := 4) h1 rfl; go_simp; first | done | with_reducible rfl); (try simp only [Act.put, sI, sZ, sS])
     refine wpq1 ?_; (try simp only [Act.put, sI, sZ, sS])
     refine wpq1 ?_; (try simp only [Act.put, sI, sZ, sS])
     refine wpQuiet_nil ?_
     intro V9 h9
     (try dsimp only at h9)
     have HB7 := Lib.hid h9
     clear h9
     have HR7 := Lib.hid (HR6.out.under HX.out HB7.out)
     have HK7 := Lib.hid (HK6.out.trans (.of_below HB7.out))
     have HF := Lib.hid (HFIN.out (st.all) V9 (by rfl) sl (by rw [if_pos hm, if_neg hs0]) ⟨_, _, _, _, HR7.out⟩ HK7.out)
     clear HFIN
     go_wp2_with fail
     go_end0
     exact HF.out
   ·have hw : IntKind.i64.wrap ((b2.length : Int) + (X.ar : Int)) = (b2.length : Int) + (X.ar : Int) := by rw [IntKind.wrap_i64]; omega
    refine wp_region_qC (C := fun V => Below (V6).heap.size (V6) V) (by kernel_rfl) (by kernel_rfl) (drewC (V6)) ?_
    refine wpq1 ?_; (try simp only [Act.put, sI, sZ, sS])
    refine wpq1 ?_; (try simp only [Act.put, sI, sZ, sS])
    refine wpq1 ?_; (try simp only [Act.put, sI, sZ, sS])
    refine wpqC (v := ?_) (by kernel_rfl) ?_ ?_; rotate_left; (intro V hV; (try dsimp only at hV); have h1 := (hV.block _ (heap_lt HR6.out.box)).trans HR6.out.box; have c0 := cell_of_row (i := 0) h1 rfl; go_simp; first | done | with_reducible rfl); (try simp only [Act.put, sI, sZ, sS])
    refine wpq1 ?_; (try simp only [Act.put, sI, sZ, sS])
    refine wpq1 ?_; (try simp only [Act.put, sI, sZ, sS])
    refine wpq1 ?_; (try simp only [Act.put, sI, sZ, sS])
    refine wpq1 ?_; (try simp only [Act.put, sI, sZ, sS])
    refine wpqC (v := ?_) (by kernel_rfl) ?_ ?_; rotate_left; (intro V hV; (try dsimp only at hV); have h1 := (hV.block _ (heap_lt HR6.out.box)).trans HR6.out.box; have c2 := cell_of_row (i := 2) h1 rfl; go_simp; first | done | with_reducible rfl); (try simp only [Act.put, sI, sZ, sS])
    refine wpq1 ?_; (try simp only [Act.put, sI, sZ, sS])
    refine wpq1 ?_; (try simp only [Act.put, sI, sZ, sS])
    refine wpq1 ?_; (try simp only [Act.put, sI, sZ, sS])
    refine wpqC_skip (by kernel_rfl) ?_; (try simp only [Act.put, sI, sZ, sS])
    refine wpqC_skip (by kernel_rfl) ?_; (try simp only [Act.put, sI, sZ, sS])
    refine wpqC_skip (by kernel_rfl) ?_; (try simp only [Act.put, sI, sZ, sS])
    refine wpqC_skip (by kernel_rfl) ?_; (try simp only [Act.put, sI, sZ, sS])
    refine wpqC_skip (by kernel_rfl) ?_; (try simp only [Act.put, sI, sZ, sS])
    refine wpq1 ?_; (try simp only [Act.put, sI, sZ, sS])
    refine wpQuiet_nil ?_
    intro V9 h9
    (try dsimp only at h9)
    have HB7 := Lib.hid h9
    clear h9
    have HR7 := Lib.hid (HR6.out.under HX.out HB7.out)
    have HK7 := Lib.hid (HK6.out.trans (.of_below HB7.out))
    have HF := Lib.hid (HFIN.out (st.all) V9 (by rfl) sl (by rw [if_neg hm]) ⟨_, _, _, _, HR7.out⟩ HK7.out)
    clear HFIN
    go_wp2_with fail
    go_end0
    exact HF.out
  | false =>
   have hni : ¬ s ∈ st.all := fun h => by rw [(hasL_mem _ _).2 h] at hh; cases hh
   rw [if_neg hni] at HFIN
   clear hh hni
   obtain ⟨a2, ha2⟩ : ∃ a2, a2 = st.all ++ [s] := ⟨_, rfl⟩
   rw [← ha2] at HFIN
   have HA2 := Lib.hid ha2
   clear ha2
   obtain ⟨V2, hV2⟩ : ∃ V2, V2 = W5.alloc (.cells #[.string s] 9) := ⟨_, rfl⟩
   have b2' : Below W5.heap.size W5 V2 := by rw [hV2]; exact (Below.refl _ _).alloc (Nat.le_refl _) _
   have HGV2 : Hid (V2.heap[W5.heap.size]? = some (.cells #[.string s] 9 (0, 0))) := Lib.hid (by rw [hV2]; exact block_alloc _ _)
   have HRV2 := Lib.hid (HR5.out.under HX.out b2')
   have HKV2 := Lib.hid (HK5.out.trans (.of_below b2'))
   have HBV2 : Hid (X.base ≤ V2.heap.size) := Lib.hid (Nat.le_trans HX.out.base HRV2.out.below.size)
   clear b2'
   go_wp2_with (at_builtin; rw [← hV2]; clear hV2; refine wpList_own_str rfl (.tmp 35) (.tmp 37) rfl HRV2.out.order HBV2.out rfl _ rfl HGV2.out (by omega) ?_)
   intro v3 W3' h0 g3 a3
   replace h0 : W3'.ownsRow X.base 9 1 v3 a2.length (a2.map .string) := by rw [HA2.out, List.length_append, List.map_append]; exact h0
   have hbx3 : W3'.heap[X.B]? = _ := (g3.block _ (heap_lt HRV2.out.box) (fun e' => by
    obtain ⟨_, cur, h2⟩ := own_blk HRV2.out.order e'.symm
    rw [HRV2.out.box] at h2; cases h2)).trans HRV2.out.box
   clear c0 c1 c2 c3 c4 c5
   have c0 : (W3').cell? ⟨X.B, 0, none⟩ = some (.slice bA2 b2.length bc2) := cell_of_row (i := 0) hbx3 rfl
   have c1 : (W3').cell? ⟨X.B, 1, none⟩ = some (.int .i64 (p : Int)) := cell_of_row (i := 1) hbx3 rfl
   have c2 : (W3').cell? ⟨X.B, 2, none⟩ = some (.int .i64 (X.ar : Int)) := cell_of_row (i := 2) hbx3 rfl
   have c3 : (W3').cell? ⟨X.B, 3, none⟩ = some (.int .i64 u) := cell_of_row (i := 3) hbx3 rfl
   have c4 : (W3').cell? ⟨X.B, 4, none⟩ = some (.int .i64 sl) := cell_of_row (i := 4) hbx3 rfl
   have c5 : (W3').cell? ⟨X.B, 5, none⟩ = some (.slice aA st.all.length ac) := cell_of_row (i := 5) hbx3 rfl
   have cf : (W3').frozen? ⟨X.B, 5, none⟩ = false := free_of_row (i := 5) hbx3
   obtain ⟨aA2, ac2, rfl, R6, K6⟩ := HRV2.out.seta HX.out (all2 := a2) g3 h0 a3
   replace K6 := HKV2.out.trans K6
   obtain ⟨V6, hV6⟩ : ∃ V6, V6 = W3'.setCell ⟨X.B, 5, none⟩ (.slice aA2 a2.length ac2) := ⟨_, rfl⟩
   rw [← hV6] at R6 K6
   clear hbx3 h0 g3 a3
   go_upto_region 4 with fail
   rw [← hV6]
   clear hV6 c0 c1 c2 c3 c4 c5 cf
   have HR6 := Lib.hid R6
   have HK6 := Lib.hid K6
   clear R6 K6
   by_cases hm : 32 < (b2.length : Int) + (X.ar : Int)
   ·have hw : IntKind.i64.wrap ((b2.length : Int) + (X.ar : Int)) = (b2.length : Int) + (X.ar : Int) := by rw [IntKind.wrap_i64]; omega
    by_cases hs0 : sl < 0
    ·refine wp_region_qC (C := fun V => Below (V6).heap.size (V6) V) (by kernel_rfl) (by kernel_rfl) (drewC (V6)) ?_
     refine wpq1 ?_; (try simp only [Act.put, sI, sZ, sS])
     refine wpq1 ?_; (try simp only [Act.put, sI, sZ, sS])
     refine wpq1 ?_; (try simp only [Act.put, sI, sZ, sS])
     refine wpqC (v := ?_) (by kernel_rfl) ?_ ?_; rotate_left; (intro V hV; (try dsimp only at hV); have h1 := (hV.block _ (heap_lt HR6.out.box)).trans HR6.out.box; have c0 := cell_of_row (i := 0) h1 rfl; go_simp; first | done | with_reducible rfl); (try simp only [Act.put, sI, sZ, sS])
     refine wpq1 ?_; (try simp only [Act.put, sI, sZ, sS])
     refine wpq1 ?_; (try simp only [Act.put, sI, sZ, sS])
     refine wpq1 ?_; (try simp only [Act.put, sI, sZ, sS])
     refine wpq1 ?_; (try simp only [Act.put, sI, sZ, sS])
     refine wpqC (v := ?_) (by kernel_rfl) ?_ ?_; rotate_left; (intro V hV; (try dsimp only at hV); have h1 := (hV.block _ (heap_lt HR6.out.box)).trans HR6.out.box; have c2 := cell_of_row (i := 2) h1 rfl; go_simp; first | done | with_reducible rfl); (try simp only [Act.put, sI, sZ, sS])
     refine wpq1 ?_; (try simp only [Act.put, sI, sZ, sS])
     refine wpq1 ?_; (try simp only [Act.put, sI, sZ, sS])
     refine wpq1 ?_; (try simp only [Act.put, sI, sZ, sS])
     refine wpq1 ?_; (try simp only [Act.put, sI, sZ, sS])
     refine wpq1 ?_; (try simp only [Act.put, sI, sZ, sS])
     refine wpq1 ?_; (try simp only [Act.put, sI, sZ, sS])
     refine wpqC (v := ?_) (by kernel_rfl) ?_ ?_; rotate_left; (intro V hV; (try dsimp only at hV); have h1 := (hV.block _ (heap_lt HR6.out.box)).trans HR6.out.box; have c4 := cell_of_row (i := 4) h1 rfl; go_simp; first | done | with_reducible rfl); (try simp only [Act.put, sI, sZ, sS])
     refine wpq1 ?_; (try simp only [Act.put, sI, sZ, sS])
     refine wpq1 ?_; (try simp only [Act.put, sI, sZ, sS])
     refine wpQuiet_nil ?_
     intro V9 h9
     (try dsimp only at h9)
     have HB7 := Lib.hid h9
     clear h9
     have HR7 := Lib.hid (HR6.out.under HX.out HB7.out)
     have HK7 := Lib.hid (HK6.out.trans (.of_below HB7.out))
     have hbx := HR7.out.box
     have c0 : (V9).cell? ⟨X.B, 0, none⟩ = some (.slice bA2 b2.length bc2) := cell_of_row (i := 0) hbx rfl
     have c1 : (V9).cell? ⟨X.B, 1, none⟩ = some (.int .i64 (p : Int)) := cell_of_row (i := 1) hbx rfl
     have c2 : (V9).cell? ⟨X.B, 2, none⟩ = some (.int .i64 (X.ar : Int)) := cell_of_row (i := 2) hbx rfl
     have c3 : (V9).cell? ⟨X.B, 3, none⟩ = some (.int .i64 u) := cell_of_row (i := 3) hbx rfl
     have c4 : (V9).cell? ⟨X.B, 4, none⟩ = some (.int .i64 sl) := cell_of_row (i := 4) hbx rfl
     have c5 : (V9).cell? ⟨X.B, 5, none⟩ = some (.slice aA2 (a2).length ac2) := cell_of_row (i := 5) hbx rfl
     have cf : (V9).frozen? ⟨X.B, 4, none⟩ = false := free_of_row (i := 4) hbx
     obtain ⟨V10, hV10⟩ : ∃ V10, V10 = V9.setCell ⟨X.B, 4, none⟩ (.int .i64 (p : Int)) := ⟨_, rfl⟩
     obtain ⟨R10, K10⟩ := HR7.out.set HX.out 4 (.int .i64 (p : Int)) u (p : Int) p rfl
     rw [← hV10] at R10 K10
     have HF := Lib.hid (HFIN.out (a2) V10 (by rfl) (p : Int) (by rw [if_pos hm, if_pos hs0]) ⟨_, _, _, _, R10⟩ (HK7.out.trans K10))
     clear hbx R10 K10 HFIN
     go_wp2_with fail
     rw [← hV10]
     go_end0
     exact HF.out
    ·refine wp_region_qC (C := fun V => Below (V6).heap.size (V6) V) (by kernel_rfl) (by kernel_rfl) (drewC (V6)) ?_
     refine wpq1 ?_; (try simp only [Act.put, sI, sZ, sS])
     refine wpq1 ?_; (try simp only [Act.put, sI, sZ, sS])
     refine wpq1 ?_; (try simp only [Act.put, sI, sZ, sS])
     refine wpqC (v := ?_) (by kernel_rfl) ?_ ?_; rotate_left; (intro V hV; (try dsimp only at hV); have h1 := (hV.block _ (heap_lt HR6.out.box)).trans HR6.out.box; have c0 := cell_of_row (i := 0) h1 rfl; go_simp; first | done | with_reducible rfl); (try simp only [Act.put, sI, sZ, sS])
     refine wpq1 ?_; (try simp only [Act.put, sI, sZ, sS])
     refine wpq1 ?_; (try simp only [Act.put, sI, sZ, sS])
     refine wpq1 ?_; (try simp only [Act.put, sI, sZ, sS])
     refine wpq1 ?_; (try simp only [Act.put, sI, sZ, sS])
     refine wpqC (v := ?_) (by kernel_rfl) ?_ ?_; rotate_left; (intro V hV; (try dsimp only at hV); have h1 := (hV.block _ (heap_lt HR6.out.box)).trans HR6.out.box; have c2 := cell_of_row (i := 2) h1 rfl; go_simp; first | done | with_reducible rfl); (try simp only [Act.put, sI, sZ, sS])
     refine wpq1 ?_; (try simp only [Act.put, sI, sZ, sS])
     refine wpq1 ?_; (try simp only [Act.put, sI, sZ, sS])
     refine wpq1 ?_; (try simp only [Act.put, sI, sZ, sS])
     refine wpq1 ?_; (try simp only [Act.put, sI, sZ, sS])
     refine wpq1 ?_; (try simp only [Act.put, sI, sZ, sS])
     refine wpq1 ?_; (try simp only [Act.put, sI, sZ, sS])
     refine wpqC (v := ?_) (by kernel_rfl) ?_ ?_; rotate_left; (intro V hV; (try dsimp only at hV); have h1 := (hV.block _ (heap_lt HR6.out.box)).trans HR6.out.box; have c4 := cell_of_row (i := 4) h1 rfl; go_simp; first | done | with_reducible rfl); (try simp only [Act.put, sI, sZ, sS])
     refine wpq1 ?_; (try simp only [Act.put, sI, sZ, sS])
     refine wpq1 ?_; (try simp only [Act.put, sI, sZ, sS])
     refine wpQuiet_nil ?_
     intro V9 h9
     (try dsimp only at h9)
     have HB7 := Lib.hid h9
     clear h9
     have HR7 := Lib.hid (HR6.out.under HX.out HB7.out)
     have HK7 := Lib.hid (HK6.out.trans (.of_below HB7.out))
     have HF := Lib.hid (HFIN.out (a2) V9 (by rfl) sl (by rw [if_pos hm, if_neg hs0]) ⟨_, _, _, _, HR7.out⟩ HK7.out)
     clear HFIN
     go_wp2_with fail
     go_end0
     exact HF.out
   ·have hw : IntKind.i64.wrap ((b2.length : Int) + (X.ar : Int)) = (b2.length : Int) + (X.ar : Int) := by rw [IntKind.wrap_i64]; omega
    refine wp_region_qC (C := fun V => Below (V6).heap.size (V6) V) (by kernel_rfl) (by kernel_rfl) (drewC (V6)) ?_
    refine wpq1 ?_; (try simp only [Act.put, sI, sZ, sS])
    refine wpq1 ?_; (try simp only [Act.put, sI, sZ, sS])
    refine wpq1 ?_; (try simp only [Act.put, sI, sZ, sS])
    refine wpqC (v := ?_) (by kernel_rfl) ?_ ?_; rotate_left; (intro V hV; (try dsimp only at hV); have h1 := (hV.block _ (heap_lt HR6.out.box)).trans HR6.out.box; have c0 := cell_of_row (i := 0) h1 rfl; go_simp; first | done | with_reducible rfl); (try simp only [Act.put, sI, sZ, sS])
    refine wpq1 ?_; (try simp only [Act.put, sI, sZ, sS])
    refine wpq1 ?_; (try simp only [Act.put, sI, sZ, sS])
    refine wpq1 ?_; (try simp only [Act.put, sI, sZ, sS])
    refine wpq1 ?_; (try simp only [Act.put, sI, sZ, sS])
    refine wpqC (v := ?_) (by kernel_rfl) ?_ ?_; rotate_left; (intro V hV; (try dsimp only at hV); have h1 := (hV.block _ (heap_lt HR6.out.box)).trans HR6.out.box; have c2 := cell_of_row (i := 2) h1 rfl; go_simp; first | done | with_reducible rfl); (try simp only [Act.put, sI, sZ, sS])
    refine wpq1 ?_; (try simp only [Act.put, sI, sZ, sS])
    refine wpq1 ?_; (try simp only [Act.put, sI, sZ, sS])
    refine wpq1 ?_; (try simp only [Act.put, sI, sZ, sS])
    refine wpqC_skip (by kernel_rfl) ?_; (try simp only [Act.put, sI, sZ, sS])
    refine wpqC_skip (by kernel_rfl) ?_; (try simp only [Act.put, sI, sZ, sS])
    refine wpqC_skip (by kernel_rfl) ?_; (try simp only [Act.put, sI, sZ, sS])
    refine wpqC_skip (by kernel_rfl) ?_; (try simp only [Act.put, sI, sZ, sS])
    refine wpqC_skip (by kernel_rfl) ?_; (try simp only [Act.put, sI, sZ, sS])
    refine wpq1 ?_; (try simp only [Act.put, sI, sZ, sS])
    refine wpQuiet_nil ?_
    intro V9 h9
    (try dsimp only at h9)
    have HB7 := Lib.hid h9
    clear h9
    have HR7 := Lib.hid (HR6.out.under HX.out HB7.out)
    have HK7 := Lib.hid (HK6.out.trans (.of_below HB7.out))
    have HF := Lib.hid (HFIN.out (a2) V9 (by rfl) sl (by rw [if_neg hm]) ⟨_, _, _, _, HR7.out⟩ HK7.out)
    clear HFIN
    go_wp2_with fail
    go_end0
    exact HF.out
end Go.Proofs.YtmdcdhdjojimeaaGreatDoor
