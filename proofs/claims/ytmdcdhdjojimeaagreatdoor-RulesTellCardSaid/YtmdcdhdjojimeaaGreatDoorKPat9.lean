/- Layer 9: the program's walk: the names of a pattern are bound. -/
import Derived.Test.YtmdcdhdjojimeaaGreatDoorKTold9
import Derived.Deep.DeepCutAuto
import Derived.OwnWalk
import Derived.LoopTactic
import Derived.LoopNIn
section
set_option linter.unusedVariables false
set_option linter.unusedSimpArgs false
namespace Go.Proofs.YtmdcdhdjojimeaaGreatDoor
open Go.RowKit

section
variable {X : WCtx} {bset bound aset all : List ByteArray} {fl : List (Int × Nat)} {es es' : Array MapEntry} {c c' : Nat} {nv ov fv : Value} {fs : List Value} {V V' : World}
theorem own_boxn (h : WR X bset bound aset all fl es es' c c' nv ov fv fs V) {V4 : World} (g : V.grownBy V4 nv.ownBlock) : V4.heap[X.B]? = some (.cells #[X.nv, .int .i64 X.most, .map (some X.mb), nv, .map (some X.me), ov, fv] 70 (0, 0)) :=
 (g.block _ (heap_lt h.box) (fun e' => by
  obtain ⟨_, cur, h2⟩ := own_blk h.names e'.symm
  rw [h.box] at h2; cases h2)).trans h.box
theorem own_boxo (h : WR X bset bound aset all fl es es' c c' nv ov fv fs V) {V4 : World} (g : V.grownBy V4 ov.ownBlock) : V4.heap[X.B]? = some (.cells #[X.nv, .int .i64 X.most, .map (some X.mb), nv, .map (some X.me), ov, fv] 70 (0, 0)) :=
 (g.block _ (heap_lt h.box) (fun e' => by
  obtain ⟨_, cur, h2⟩ := own_blk h.order e'.symm
  rw [h.box] at h2; cases h2)).trans h.box
end
theorem bindW_new {most : Int} {st : Wk} {s : ByteArray} {p : Nat} (h : s ∉ st.bound) : bindW most st s p =
  { bound := st.bound ++ [s], all := if s ∈ st.all then st.all else st.all ++ [s], fl := if most < ((st.bound.length + 1 : Nat) : Int) then st.fl ++ [(11, p)] else st.fl } := if_neg h
theorem snoc_nodup {L : List ByteArray} {s : ByteArray} (h : L.Nodup) (hs : s ∉ L) : (L ++ [s]).Nodup :=
 List.nodup_append.2 ⟨h, by simp, fun a ha b hb => by rw [List.mem_singleton.1 hb]; rintro rfl; exact hs ha⟩
set_option maxHeartbeats 8000000 in
set_option maxRecDepth 100000 in
theorem bind_any (X : WCtx) (st : Wk) (V : World) (p : Nat) (y : Tm) (h : WkAt X st V) (hy : X.P[p]? = some y) (hm : st.lee 100000) :
  Calls Tryz.prog 90 #[.pointer (some ⟨X.B, 0, none⟩), .int .i64 (p : Int)] V (WalkTo X (bindW X.most st y.s p) V) := by
 obtain ⟨hX, hn, es, es', c, c', nv, ov, fv, fs, hR⟩ := h
 have hp1 : (p : Int) < (X.P.length : Int) := by have := (List.getElem?_eq_some_iff.1 hy).1; omega
 have hp0 : (0 : Int) ≤ (p : Int) := by omega
 have had := add6 X.LB p
 have HY := Lib.hid hy
 have HX := Lib.hid hX
 have HN := Lib.hid hn
 have HM := Lib.hid hm
 obtain ⟨b0, -, b2, -, -, -, -, -, -, -, -, -, s2, -, -, -⟩ := hR.look hX hy
 have ql := hR.lookb y.s
 have HR := Lib.hid hR
 clear hR hX hn hm hy
 cases hd : decide (y.s ∈ st.bound)
 rotate_left
 ·have HD : Hid (bindW X.most st y.s p = st) := if_pos (of_decide_eq_true hd)
  rw [hd] at ql
  clear hd
  go_enter Tryz.func90, Tryz.ntmps90
  go_wp2_with fail
  go_end0
  rw [HD.out]
  exact walk_same ⟨HX.out, HN.out, es, es', c, c', nv, ov, fv, fs, HR.out⟩ ((Below.refl _ _).alloc (Nat.le_refl _) _)
 ·have HNB : Hid (y.s ∉ st.bound) := of_decide_eq_false hd
  rw [hd] at ql
  clear hd
  go_enter Tryz.func90, Tryz.ntmps90
  go_upto_region 3 with fail
  clear b0 b2 s2 ql
  have HB1 := Lib.hid ((Below.refl V.heap.size V).alloc (Nat.le_refl _) (.cells #[] 119))
  generalize V.alloc (.cells #[] 119) = V1 at HB1 ⊢
  have hR1 := HR.out.under HX.out HB1.out
  obtain ⟨-, -, b2, -, -, -, -, -, -, -, -, -, -, -, -, -⟩ := hR1.look HX.out HY.out
  have hp := run_put_new Tryz.underlying67 Tryz.underlying9 V1 X.mb _ _ y.s (.agg #[]) hR1.bm (hR1.sb.miss HNB.out)
  obtain ⟨hR2, kt2⟩ := hR1.putb HX.out (hR1.sb.push HNB.out c)
  generalize V1.putObj X.mb (.map (es.push ⟨.string y.s, .agg #[], c⟩) (c + 1)) = V2 at hp hR2 kt2
  have HR2 := Lib.hid hR2
  have HK2 := Lib.hid ((KeepT.of_below (mb := X.mb) (me := X.me) HB1.out).trans kt2)
  clear hR1 hR2 kt2
  go_upto_region 4 with fail
  clear b2 hp
  obtain ⟨-, -, -, b3, -, -, -, -, -, -, -, -, -, -, -, -⟩ := HR2.out.look HX.out HY.out
  have bb := block_alloc V2 (.cells #[.string y.s] 9)
  have hRa := HR2.out.under HX.out ((Below.refl V2.heap.size V2).alloc (Nat.le_refl _) (.cells #[.string y.s] 9))
  have HBB := Lib.hid bb
  have HRA := Lib.hid hRa
  have HBL : Hid (X.base ≤ (V2.alloc (.cells #[.string y.s] 9)).heap.size) := Nat.le_trans HX.out.base hRa.below.size
  have HLE : Hid (st.bound.length + 1 ≤ 2000000) := by show _ ≤ _; have := HM.out.1; omega
  clear bb hRa
  go_wp2_with (at_builtin; refine wpList_own1 elt_str rfl _ _ rfl HRA.out.names HBL.out rfl V2.heap.size rfl HBB.out rfl (by simp [Value.oneCell']) HLE.out (fun v' V4 O4 G4 A4 => ?_); obtain ⟨A5, cp5, rfl, -⟩ := own_slice O4; have c3 := cell_of_row (i := 3) (own_boxn HRA.out G4) rfl; have f3 := free_of_row (i := 3) (own_boxn HRA.out G4); have H4 := Lib.hid (And.intro O4 (And.intro G4 A4)); clear O4 G4 A4)
  clear c3 f3 b3
  obtain ⟨O4, G4, A4⟩ := H4.out
  obtain ⟨hR5, kt5⟩ := HRA.out.setn HX.out (bound2 := st.bound ++ [y.s]) G4 (by rw [List.length_append, List.map_append]; exact O4) A4
  clear H4 O4 G4 A4
  generalize V4.setCell ⟨X.B, 3, none⟩ (.slice A5 (st.bound.length + 1) cp5) = V5 at hR5 kt5 ⊢
  have HR5 := Lib.hid hR5
  have HK5 := Lib.hid ((HK2.out.trans (.of_below ((Below.refl V2.heap.size V2).alloc (Nat.le_refl _) (.cells #[.string y.s] 9)))).trans kt5)
  have HL5 : Hid (∀ W, Below V5.heap.size V5 W → Look X (.slice A5 (st.bound.length + 1) cp5) ov fv p y W) := fun W hW => (HR5.out.under HX.out hW).look HX.out HY.out
  clear hR5 kt5 HRA HBB HBL
  cases hcmp : decide (X.most < (st.bound.length : Int) + 1)
  ·have HC : Hid (¬ X.most < ((st.bound.length + 1 : Nat) : Int)) := by show ¬ _; have := of_decide_eq_false hcmp; omega
   refine wp_region_E (S := fun W => Below V5.heap.size V5 W) [] (by kernel_rfl) ((Below.refl _ _).drew) (fun hS0 => ?_)
   generalize V5.drew = V1 at hS0 ⊢
   refine te0 0 ?_; (try simp only [Act.put, sI, sZ, sS])
   refine te0 1 ?_; (try simp only [Act.put, sI, sZ, sS])
   refine te0 2 ?_; (try simp only [Act.put, sI, sZ, sS])
   refine wpAnyE_take (i := 3) (oi := ⟨some 47, _, _, _, _, _⟩) (v := ?_) rfl (by kernel_rfl) (by kernel_rfl) (by kernel_rfl) (by kernel_rfl) (fun _ _ _ h => h) (Or.inl ⟨by kernel_rfl, ?_⟩) (by assumption) ?_; rotate_left; (intro w hSw; (try dsimp only at hSw); obtain ⟨-, -, -, b3, -, -, -, -, -, -, -, -, -, -, -, -⟩ := HL5.out w hSw; go_simp; first | done | with_reducible rfl); (try simp only [Act.put, sI, sZ, sS])
   refine te0 4 ?_; (try simp only [Act.put, sI, sZ, sS])
   refine te0 5 ?_; (try simp only [Act.put, sI, sZ, sS])
   refine te0 6 ?_; (try simp only [Act.put, sI, sZ, sS])
   refine te0 7 ?_; (try simp only [Act.put, sI, sZ, sS])
   refine wpAnyE_take (i := 8) (oi := ⟨some 52, _, _, _, _, _⟩) (v := ?_) rfl (by kernel_rfl) (by kernel_rfl) (by kernel_rfl) (by kernel_rfl) (fun _ _ _ h => h) (Or.inl ⟨by kernel_rfl, ?_⟩) (by assumption) ?_; rotate_left; (intro w hSw; (try dsimp only at hSw); obtain ⟨-, b1, -, -, -, -, -, -, -, -, -, -, -, -, -, -⟩ := HL5.out w hSw; go_simp; first | done | with_reducible rfl); (try simp only [Act.put, sI, sZ, sS])
   refine te0 9 ?_; (try simp only [Act.put, sI, sZ, sS])
   refine wpAnyE_done (by kernel_rfl) ?_ _
   have HR7 := Lib.hid (HR5.out.under HX.out hS0)
   have HK7 := Lib.hid (HK5.out.trans (.of_below hS0))
   clear hS0
   generalize V1 = V7 at HR7 HK7 ⊢
   go_upto_region 7 with fail
   obtain ⟨-, -, -, -, b4, -, -, -, -, -, -, -, -, -, -, -⟩ := HR7.out.look HX.out HY.out
   have qa := HR7.out.looka y.s
   cases hda : decide (y.s ∈ st.all)
   rotate_left
   ·have HD : Hid (bindW X.most st y.s p = ⟨st.bound ++ [y.s], st.all, st.fl⟩) := by show _ = _; rw [bindW_new HNB.out, if_pos (of_decide_eq_true hda), if_neg HC.out]
    rw [hda] at qa
    clear hda
    go_wp2_with fail
    go_end0
    rw [HD.out]
    have bz := (Below.refl V7.heap.size V7).alloc (Nat.le_refl _) (.cells #[] 119)
    exact ⟨rfl, ⟨HX.out, snoc_nodup HN.out HNB.out, _, _, _, _, _, _, _, _, HR7.out.under HX.out bz⟩, HK7.out.trans (.of_below bz)⟩
   ·have HD : Hid (bindW X.most st y.s p = ⟨st.bound ++ [y.s], st.all ++ [y.s], st.fl⟩) := by show _ = _; rw [bindW_new HNB.out, if_neg (of_decide_eq_false hda), if_neg HC.out]
    have HNA : Hid (y.s ∉ st.all) := of_decide_eq_false hda
    rw [hda] at qa
    clear hda
    go_upto_region 9 with fail
    clear b4 qa
    have HB8 := Lib.hid ((Below.refl V7.heap.size V7).alloc (Nat.le_refl _) (.cells #[] 119))
    generalize V7.alloc (.cells #[] 119) = V8 at HB8 ⊢
    have hR8 := HR7.out.under HX.out HB8.out
    obtain ⟨-, -, -, -, b4, -, -, -, -, -, -, -, -, -, -, -⟩ := hR8.look HX.out HY.out
    have hp := run_put_new Tryz.underlying67 Tryz.underlying9 V8 X.me _ _ y.s (.agg #[]) hR8.am (hR8.sa.miss HNA.out)
    obtain ⟨hR9, kt9⟩ := hR8.puta HX.out (hR8.sa.push HNA.out c')
    generalize V8.putObj X.me (.map (es'.push ⟨.string y.s, .agg #[], c'⟩) (c' + 1)) = V9 at hp hR9 kt9
    have HR9 := Lib.hid hR9
    have HK9 := Lib.hid ((HK7.out.trans (.of_below HB8.out)).trans kt9)
    clear hR8 hR9 kt9
    go_upto_region 10 with fail
    clear b4 hp
    obtain ⟨-, -, -, -, -, b5, -, -, -, -, -, -, -, -, -, -⟩ := HR9.out.look HX.out HY.out
    have bb := block_alloc V9 (.cells #[.string y.s] 9)
    have hRa := HR9.out.under HX.out ((Below.refl V9.heap.size V9).alloc (Nat.le_refl _) (.cells #[.string y.s] 9))
    have HBB := Lib.hid bb
    have HRA := Lib.hid hRa
    have HBL : Hid (X.base ≤ (V9.alloc (.cells #[.string y.s] 9)).heap.size) := Nat.le_trans HX.out.base hRa.below.size
    have HLE : Hid (st.all.length + 1 ≤ 2000000) := by show _ ≤ _; have := HM.out.2.1; omega
    clear bb hRa
    go_wp2_with (at_builtin; refine wpList_own1 elt_str rfl _ _ rfl HRA.out.order HBL.out rfl V9.heap.size rfl HBB.out rfl (by simp [Value.oneCell']) HLE.out (fun v' V4 O4 G4 A4 => ?_); obtain ⟨A5, cp5, rfl, -⟩ := own_slice O4; have c3 := cell_of_row (i := 5) (own_boxo HRA.out G4) rfl; have f3 := free_of_row (i := 5) (own_boxo HRA.out G4); have H4 := Lib.hid (And.intro O4 (And.intro G4 A4)); clear O4 G4 A4)
    go_end0
    obtain ⟨O4, G4, A4⟩ := H4.out
    obtain ⟨hR5, kt5⟩ := HRA.out.seto HX.out (all2 := st.all ++ [y.s]) G4 (by rw [List.length_append, List.map_append]; exact O4) A4
    rw [HD.out]
    exact ⟨rfl, ⟨HX.out, snoc_nodup HN.out HNB.out, _, _, _, _, _, _, _, _, hR5⟩, (HK9.out.trans (.of_below ((Below.refl V9.heap.size V9).alloc (Nat.le_refl _) _))).trans kt5⟩
  ·have HC : Hid (X.most < ((st.bound.length + 1 : Nat) : Int)) := by show _ < _; have := of_decide_eq_true hcmp; omega
   refine wp_region_E (S := fun W => Below V5.heap.size V5 W) [] (by kernel_rfl) ((Below.refl _ _).drew) (fun hS0 => ?_)
   generalize V5.drew = V1 at hS0 ⊢
   refine te0 0 ?_; (try simp only [Act.put, sI, sZ, sS])
   refine te0 1 ?_; (try simp only [Act.put, sI, sZ, sS])
   refine te0 2 ?_; (try simp only [Act.put, sI, sZ, sS])
   refine wpAnyE_take (i := 3) (oi := ⟨some 47, _, _, _, _, _⟩) (v := ?_) rfl (by kernel_rfl) (by kernel_rfl) (by kernel_rfl) (by kernel_rfl) (fun _ _ _ h => h) (Or.inl ⟨by kernel_rfl, ?_⟩) (by assumption) ?_; rotate_left; (intro w hSw; (try dsimp only at hSw); obtain ⟨-, -, -, b3, -, -, -, -, -, -, -, -, -, -, -, -⟩ := HL5.out w hSw; go_simp; first | done | with_reducible rfl); (try simp only [Act.put, sI, sZ, sS])
   refine te0 4 ?_; (try simp only [Act.put, sI, sZ, sS])
   refine te0 5 ?_; (try simp only [Act.put, sI, sZ, sS])
   refine te0 6 ?_; (try simp only [Act.put, sI, sZ, sS])
   refine te0 7 ?_; (try simp only [Act.put, sI, sZ, sS])
   refine wpAnyE_take (i := 8) (oi := ⟨some 52, _, _, _, _, _⟩) (v := ?_) rfl (by kernel_rfl) (by kernel_rfl) (by kernel_rfl) (by kernel_rfl) (fun _ _ _ h => h) (Or.inl ⟨by kernel_rfl, ?_⟩) (by assumption) ?_; rotate_left; (intro w hSw; (try dsimp only at hSw); obtain ⟨-, b1, -, -, -, -, -, -, -, -, -, -, -, -, -, -⟩ := HL5.out w hSw; go_simp; first | done | with_reducible rfl); (try simp only [Act.put, sI, sZ, sS])
   refine te0 9 ?_; (try simp only [Act.put, sI, sZ, sS])
   refine wpAnyE_done (by kernel_rfl) ?_ _
   have HR1 := Lib.hid (HR5.out.under HX.out hS0)
   have HK1 := Lib.hid (HK5.out.trans (.of_below hS0))
   have HFL : Hid (fs.length + 1 ≤ 2000000) := by show _ ≤ _; have h1 := HR5.out.errs.1; have h2 := HM.out.2.2; omega
   clear hS0
   go_upto_region 6 with fail
   refine wp_region_E (S := fun W => Below V1.heap.size V1 W) [8, 11] (by kernel_rfl) ((Below.refl _ _).drew) (fun hS0 => ?_)
   generalize V1.drew = V0 at hS0 ⊢
   refine te0 0 ?_; (try simp only [Act.put, sI, sZ, sS])
   refine te0 1 ?_; (try simp only [Act.put, sI, sZ, sS])
   refine te0 2 ?_; (try simp only [Act.put, sI, sZ, sS])
   refine te0 3 ?_; (try simp only [Act.put, sI, sZ, sS])
   refine wpAnyE_take (i := 4) (oi := ⟨some 58, _, _, _, _, _⟩) (v := ?_) rfl (by kernel_rfl) (by kernel_rfl) (by kernel_rfl) (by kernel_rfl) (fun _ _ _ h => h) (Or.inl ⟨by kernel_rfl, ?_⟩) (by assumption) ?_; rotate_left; (intro w hSw; (try dsimp only at hSw); obtain ⟨-, -, -, -, -, -, b6, -, -, -, -, -, -, -, -, -⟩ := (HR1.out.under HX.out hSw).look HX.out HY.out; go_simp; first | done | with_reducible rfl); (try simp only [Act.put, sI, sZ, sS])
   refine te0 5 ?_; (try simp only [Act.put, sI, sZ, sS])
   refine wpAnyE_one (i := 6) (o := ⟨some 60, _, _, _, _, _⟩) (by kernel_rfl) rfl (fun K hK => ?_)
   rw [if_pos (by rfl)]
   go_simp
   refine (refused_any _ _ _).mono ?_
   rintro e w1 ⟨rfl, rfl⟩
   go_wp2_with fail
   refine hK.out _ _ (hS0.alloc (by have := hS0.size; omega) _) (fun hSn => ?_)
   clear hK K; (try simp only [Act.put, sI, sZ, sS])
   have hb2 : (V0.alloc (.cells #[.int .i64 9, .int .i64 11, .int .i64 (p : Int)] 51)).heap[V0.heap.size]? = some (.cells #[.int .i64 9, .int .i64 11, .int .i64 (p : Int)] 51 (0, 0)) := block_alloc V0 _
   have hz0 := hS0.size
   clear hS0
   generalize V0.alloc (.cells #[.int .i64 9, .int .i64 11, .int .i64 (p : Int)] 51) = V2 at hSn hb2 ⊢
   refine wpAnyE_one (i := 7) (o := ⟨some 61, _, _, _, _, _⟩) (by kernel_rfl) rfl (fun K hK => ?_)
   rw [if_pos (by rfl)]
   go_simp
   refine hK.out _ _ (hSn.alloc (by have := hSn.size; omega) _) (fun hSn => ?_)
   clear hK K; (try simp only [Act.put, sI, sZ, sS])
   have hb3 : (V2.alloc (.cells #[.iface 44 (.pointer (some ⟨V0.heap.size, 0, none⟩))] 47)).heap[V0.heap.size]? = _ := (Below.heap_alloc _ _ _ (heap_lt hb2)).trans hb2
   have hb4 : (V2.alloc (.cells #[.iface 44 (.pointer (some ⟨V0.heap.size, 0, none⟩))] 47)).heap[V2.heap.size]? = some (.cells #[.iface 44 (.pointer (some ⟨V0.heap.size, 0, none⟩))] 47 (0, 0)) := block_alloc V2 _
   generalize V2.alloc (.cells #[.iface 44 (.pointer (some ⟨V0.heap.size, 0, none⟩))] 47) = V3 at hSn hb3 hb4 ⊢
   have hR3 := HR1.out.under HX.out hSn
   have hBL := Nat.le_trans HX.out.base hR3.below.size
   refine wpAnyE_late (i := 8) (o := ⟨some 62, _, _, _, _, _⟩) (by kernel_rfl) rfl (by kernel_rfl) (fun K hK => ?_)
   rw [if_pos (by rfl)]
   refine wp_own1 elt_err _ _ rfl hR3.faults hBL rfl V2.heap.size rfl hb4 rfl (by simp [Value.oneCell']) HFL.out (fun v' V4 O4 G4 A4 => ?_)
   obtain ⟨A5, cp5, rfl, -⟩ := own_slice O4
   obtain ⟨hR5, kt5⟩ := hR3.setf HX.out (fs2 := fs ++ [.iface 44 (.pointer (some ⟨V0.heap.size, 0, none⟩))]) G4 (by rw [List.length_append]; exact O4) A4 (hR3.errs.snoc (by have := HR1.out.below.size; have := HX.out.base; omega) hb3)
   have f6 : V4.frozen? ⟨X.B, 6, none⟩ = false := free_of_row (own_box hR3 G4)
   have c6 : V4.cell? ⟨X.B, 6, none⟩ = some fv := cell_of_row (own_box hR3 G4) rfl
   refine hK.out _ _ ?_
   clear hK K; (try simp only [Act.put, sI, sZ, sS])
   refine wpAny_take (i := 9) (oi := ⟨some 63, _, _, _, _, _⟩) (v := ?_) rfl (by kernel_rfl) (by kernel_rfl) (by kernel_rfl) (fun _ _ _ h => h) (Or.inl ⟨by kernel_rfl, ?_⟩) ?_; rotate_left; (intro w; go_simp; first | done | with_reducible rfl); (try simp only [Act.put, sI, sZ, sS])
   refine wpAny_take (i := 10) (oi := ⟨some 64, _, _, _, _, _⟩) (v := ?_) rfl (by kernel_rfl) (by kernel_rfl) (by kernel_rfl) (fun _ _ _ h => h) (Or.inl ⟨by kernel_rfl, ?_⟩) ?_; rotate_left; (intro w; go_simp; first | done | with_reducible rfl); (try simp only [Act.put, sI, sZ, sS])
   refine wpAny_ready (rs := [11]) (by kernel_rfl) (by simp) ?_
   refine AllReady.cons rfl (fun K hK => ?_) AllReady.nil
   go_simp
   refine hK _ _ ?_
   clear hK K; (try simp only [Act.put, sI, sZ, sS])
   refine wpAny_done (by kernel_rfl) ?_ _
   have HR7 := Lib.hid hR5
   have HK7 := Lib.hid ((HK1.out.trans (.of_below hSn)).trans kt5)
   clear hR5 kt5 hSn hR3 hb3 hb4 hBL f6 c6 O4 G4 A4 hz0 hb2
   generalize V4.setCell ⟨X.B, 6, none⟩ (.slice A5 (fs.length + 1) cp5) = V7 at HR7 HK7 ⊢
   go_upto_region 7 with fail
   obtain ⟨-, -, -, -, b4, -, -, -, -, -, -, -, -, -, -, -⟩ := HR7.out.look HX.out HY.out
   have qa := HR7.out.looka y.s
   cases hda : decide (y.s ∈ st.all)
   rotate_left
   ·have HD : Hid (bindW X.most st y.s p = ⟨st.bound ++ [y.s], st.all, st.fl ++ [(11, p)]⟩) := by show _ = _; rw [bindW_new HNB.out, if_pos (of_decide_eq_true hda), if_pos HC.out]
    rw [hda] at qa
    clear hda
    go_wp2_with fail
    go_end0
    rw [HD.out]
    have bz := (Below.refl V7.heap.size V7).alloc (Nat.le_refl _) (.cells #[] 119)
    exact ⟨rfl, ⟨HX.out, snoc_nodup HN.out HNB.out, _, _, _, _, _, _, _, _, HR7.out.under HX.out bz⟩, HK7.out.trans (.of_below bz)⟩
   ·have HD : Hid (bindW X.most st y.s p = ⟨st.bound ++ [y.s], st.all ++ [y.s], st.fl ++ [(11, p)]⟩) := by show _ = _; rw [bindW_new HNB.out, if_neg (of_decide_eq_false hda), if_pos HC.out]
    have HNA : Hid (y.s ∉ st.all) := of_decide_eq_false hda
    rw [hda] at qa
    clear hda
    go_upto_region 9 with fail
    clear b4 qa
    have HB8 := Lib.hid ((Below.refl V7.heap.size V7).alloc (Nat.le_refl _) (.cells #[] 119))
    generalize V7.alloc (.cells #[] 119) = V8 at HB8 ⊢
    have hR8 := HR7.out.under HX.out HB8.out
    obtain ⟨-, -, -, -, b4, -, -, -, -, -, -, -, -, -, -, -⟩ := hR8.look HX.out HY.out
    have hp := run_put_new Tryz.underlying67 Tryz.underlying9 V8 X.me _ _ y.s (.agg #[]) hR8.am (hR8.sa.miss HNA.out)
    obtain ⟨hR9, kt9⟩ := hR8.puta HX.out (hR8.sa.push HNA.out c')
    generalize V8.putObj X.me (.map (es'.push ⟨.string y.s, .agg #[], c'⟩) (c' + 1)) = V9 at hp hR9 kt9
    have HR9 := Lib.hid hR9
    have HK9 := Lib.hid ((HK7.out.trans (.of_below HB8.out)).trans kt9)
    clear hR8 hR9 kt9
    go_upto_region 10 with fail
    clear b4 hp
    obtain ⟨-, -, -, -, -, b5, -, -, -, -, -, -, -, -, -, -⟩ := HR9.out.look HX.out HY.out
    have bb := block_alloc V9 (.cells #[.string y.s] 9)
    have hRa := HR9.out.under HX.out ((Below.refl V9.heap.size V9).alloc (Nat.le_refl _) (.cells #[.string y.s] 9))
    have HBB := Lib.hid bb
    have HRA := Lib.hid hRa
    have HBL : Hid (X.base ≤ (V9.alloc (.cells #[.string y.s] 9)).heap.size) := Nat.le_trans HX.out.base hRa.below.size
    have HLE : Hid (st.all.length + 1 ≤ 2000000) := by show _ ≤ _; have := HM.out.2.1; omega
    clear bb hRa
    go_wp2_with (at_builtin; refine wpList_own1 elt_str rfl _ _ rfl HRA.out.order HBL.out rfl V9.heap.size rfl HBB.out rfl (by simp [Value.oneCell']) HLE.out (fun v' V4 O4 G4 A4 => ?_); obtain ⟨A5, cp5, rfl, -⟩ := own_slice O4; have c3 := cell_of_row (i := 5) (own_boxo HRA.out G4) rfl; have f3 := free_of_row (i := 5) (own_boxo HRA.out G4); have H4 := Lib.hid (And.intro O4 (And.intro G4 A4)); clear O4 G4 A4)
    go_end0
    obtain ⟨O4, G4, A4⟩ := H4.out
    obtain ⟨hR5, kt5⟩ := HRA.out.seto HX.out (all2 := st.all ++ [y.s]) G4 (by rw [List.length_append, List.map_append]; exact O4) A4
    rw [HD.out]
    exact ⟨rfl, ⟨HX.out, snoc_nodup HN.out HNB.out, _, _, _, _, _, _, _, _, hR5⟩, (HK9.out.trans (.of_below ((Below.refl V9.heap.size V9).alloc (Nat.le_refl _) _))).trans kt5⟩
end Go.Proofs.YtmdcdhdjojimeaaGreatDoor
end
section
set_option linter.unusedVariables false
set_option linter.unusedSimpArgs false
namespace Go.Proofs.YtmdcdhdjojimeaaGreatDoor
open Go.RowKit

theorem WkAt.open_ {X : WCtx} {st : Wk} {V : World} (h : WkAt X st V) {p : Nat} {y : Tm} (hy : X.P[p]? = some y) : ∃ nv ov fv, Look X nv ov fv p y V := by
 obtain ⟨hX, hn, es, es', c, c', nv, ov, fv, fs, hR⟩ := h
 exact ⟨nv, ov, fv, hR.look hX hy⟩
set_option maxHeartbeats 8000000 in
set_option maxRecDepth 100000 in
theorem pattern_any (X : WCtx) (st : Wk) (V : World) (p : Nat) (y : Tm) (h : WkAt X st V) (hP : PlaceAt X.P p y) (hm : st.lee 50000) :
  Calls Tryz.prog 72 #[.pointer (some ⟨X.B, 0, none⟩), .int .i64 (p : Int)] V (WalkTo X (patW X.most st p y.pre) V) := by
 have hle := hP.le
 have hlen := h.1.lay.len
 have HG : Hid (∀ i, i < y.pre.length → X.P[p + i]? = y.pre[i]?) := by obtain ⟨r, hr⟩ := hP; exact fun i hi => get_drop hr i hi
 have hy := hP.get
 have hp1 : (p : Int) < (X.P.length : Int) := by have := Tm.pre_ne y; unfold Tm.nodes at hle; omega
 have hp0 : (0 : Int) ≤ (p : Int) := by omega
 have had := add6 X.LB p
 have HY := Lib.hid hy
 have H := Lib.hid h
 have HM := Lib.hid hm
 obtain ⟨E, hE⟩ : ∃ E : Nat, E = p + y.nodes := ⟨_, rfl⟩
 have HE := Lib.hid hE
 have hEl : E ≤ X.P.length := by omega
 have HLN := Lib.hid hlen
 have hN : y.pre.length = y.nodes := rfl
 have HN := Lib.hid hN
 clear h hP hm hy hE hle hN
 go_enter Tryz.func72, Tryz.ntmps72
 go_wp2_with fail
 go_loopw [4] (fun q wr => ∃ i : Nat, i ≤ y.pre.length ∧ (∃ r : Nat, q = .int .i64 (r : Int) ∧ r = p + i) ∧ WkAt X (patW X.most st p (y.pre.take i)) wr ∧ KeepT X.mb X.me V wr) (fun q _ => E - (intOf q).toNat)
 case atStart => exact ⟨0, Nat.zero_le _, ⟨p, rfl, rfl⟩, by rw [List.take_zero]; exact H.out, .refl _ _ _⟩
 case round =>
  obtain ⟨i, hi, ⟨r, rfl, hr⟩, hW, hK⟩ := hrel
  obtain ⟨nv, ov, fv, hL⟩ := hW.open_ HY.out
  obtain ⟨b0, -, -, -, -, -, -, -, -, -, -, -, -, -, -, s5⟩ := hL
  rw [← HE.out] at s5
  have HW := Lib.hid hW
  have HK := Lib.hid hK
  have HR := Lib.hid hr
  clear hW hK hr
  by_cases hlt : i < y.pre.length
  ·obtain ⟨z, hz⟩ : ∃ z, y.pre[i]? = some z := ⟨y.pre[i], List.getElem?_eq_getElem hlt⟩
   have hz2 : X.P[r]? = some z := by rw [HR.out, HG.out i hlt]; exact hz
   obtain ⟨nv2, ov2, fv2, hL2⟩ := HW.out.open_ hz2
   obtain ⟨-, -, -, -, -, -, -, -, -, -, t0, -, t2, -, -, -⟩ := hL2
   have hr1 : (r : Int) < (E : Int) := by have := HR.out; have := HE.out; have := HN.out; omega
   have hr2 : (r : Int) < (X.P.length : Int) := by omega
   have hr0 : (0 : Int) ≤ (r : Int) := by omega
   have had2 := add6 X.LB r
   have HZ := Lib.hid hz
   have HZ2 := Lib.hid hz2
   have HSN := Lib.hid (patW_snoc (most := X.most) hz st p)
   have HLT := Lib.hid hlt
   have HLE : Hid ((patW X.most st p (y.pre.take i)).lee 100000) := by
    have := lee_pat (most := X.most) (y.pre.take i) p HM.out
    refine lee_mono this ?_
    rw [List.length_take]
    have := HLN.out; have := HN.out; have := HE.out; omega
   clear hz hz2 hlt
   by_cases hk : z.k = 5
   ·by_cases hs : z.s.toList = [95]
    ·have hsb : (z.s.toList == [95]) = true := beq_iff_eq.2 hs
     have HS : Hid (z.s.data.toList = [95]) := by show _ = _; rw [← Go.Lib.toList_data]; exact hs
     have HKK := Lib.hid hk
     rw [hk] at t0
     clear hk
     go_wp2_with fail
     go_roundw
     case rel => exact ⟨i + 1, HLT.out, ⟨r + 1, by go_num, by have := HR.out; omega⟩, by rw [HSN.out, if_neg (by rintro ⟨_, h⟩; exact h HS.out)]; exact HW.out, HK.out⟩
     case measure => simp [intOf]; omega
    ·have hsb : (z.s.toList == [95]) = false := beq_eq_false_iff_ne.2 hs
     have HS : Hid (¬ z.s.data.toList = [95]) := by show ¬ _; rw [← Go.Lib.toList_data]; exact hs
     have HKK := Lib.hid hk
     have HC := Lib.hid (bind_any X _ wr r z HW.out HZ2.out HLE.out)
     rw [hk] at t0
     clear hk
     go_wp2_with fail
     refine HC.out.mono ?_
     rintro e w2 ⟨rfl, hW2, hK2⟩
     have HW2 := Lib.hid hW2
     have HK2 := Lib.hid hK2
     clear hW2 hK2
     go_wp2_with fail
     go_roundw
     case rel => exact ⟨i + 1, HLT.out, ⟨r + 1, by go_num, by have := HR.out; omega⟩, by rw [HSN.out, if_pos ⟨HKK.out, HS.out⟩, ← HR.out]; exact HW2.out, HK.out.trans HK2.out⟩
     case measure => simp [intOf]; omega
   ·have HKK := Lib.hid hk
    go_wp2_with fail
    go_roundw
    case rel => exact ⟨i + 1, HLT.out, ⟨r + 1, by go_num, by have := HR.out; omega⟩, by rw [HSN.out, if_neg (by rintro ⟨h, _⟩; exact HKK.out h)]; exact HW.out, HK.out⟩
    case measure => simp [intOf]; omega
  ·have hi2 : i = y.pre.length := by omega
   have hr1 : ¬ (r : Int) < (E : Int) := by have := HR.out; have := HE.out; have := HN.out; omega
   go_wp2_with fail
   go_end0
   have h1 := HW.out
   rw [hi2, List.take_length] at h1
   exact ⟨rfl, h1, HK.out⟩
end Go.Proofs.YtmdcdhdjojimeaaGreatDoor
end
