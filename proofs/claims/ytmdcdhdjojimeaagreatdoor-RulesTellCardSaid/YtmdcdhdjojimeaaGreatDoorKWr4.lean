/- Layer 9: what an expression that may be is made of, as the document's own walker goes over it. -/
import Derived.Test.YtmdcdhdjojimeaaGreatDoorKRf9A
import Derived.Test.YtmdcdhdjojimeaaGreatDoorKQuietC
import Derived.Test.YtmdcdhdjojimeaaGreatDoorKNewC9
import Derived.Test.YtmdcdhdjojimeaaGreatDoorKWr3
import Derived.Test.YtmdcdhdjojimeaaGreatDoorKTmL
section
set_option linter.unusedVariables false
set_option linter.unusedSimpArgs false
namespace Go.Proofs.YtmdcdhdjojimeaaGreatDoor
open Go.RowKit

theorem fnsW_append : ∀ (a b : List Tm), fnsW (a ++ b) = fnsW a ++ fnsW b
 | [], b => rfl
 | m :: a, b => by rw [List.cons_append, fnsW, fnsW, fnsW_append a b, List.append_assoc]
theorem fnsW_snoc {l : List Tm} {j : Nat} {m : Tm} (h : l[j]? = some m) : fnsW (l.take (j + 1)) = fnsW (l.take j) ++ m.l.map fun f => (m.s, f.s, f.n) := by
 rw [List.take_add_one, h, fnsW_append]
 simp [fnsW, fnsM]
theorem flatF_snoc9 (L : List Fn9) (f : Fn9) : flatF (L ++ [f]) = flatF L ++ fnCells f := by simp [flatF]
theorem pres_len : ∀ (l : List Tm), l.length ≤ (Tm.pres l).length
 | [] => Nat.le_refl _
 | x :: l => by
  have h1 := Tm.pre_ne x
  have h2 := pres_len l
  rw [nodes_pres_cons, List.length_cons]
  unfold Tm.nodes
  omega
theorem fnsW_len : ∀ (l : List Tm), (fnsW l).length ≤ (Tm.pres l).length
 | [] => Nat.le_refl _
 | m :: l => by
  have h1 := fnsW_len l
  have h2 := pres_len m.l
  have h3 : m.nodes = (Tm.pres m.l).length + 1 := by cases m; exact nodes_mk9 _ _ _ _ _
  rw [fnsW, nodes_pres_cons, List.length_append, fnsM, List.length_map]
  omega
set_option maxHeartbeats 16000000 in
set_option maxRecDepth 100000 in
theorem rFunctions9_any (x : Tm) (v : Value) (w : World) (hT : TmAt (· < w.heap.size) w x v) (hN : x.nodes ≤ 8200) :
  Calls Tryz.prog 18 #[v] w fun e w' => ∃ u, e = .returned u ∧ FnRow w' u ((fns9T x).map (·.1)) ∧ Below w.heap.size w w' := by
 obtain ⟨X, hX⟩ : ∃ X, X = x := ⟨_, rfl⟩
 rw [← hX]
 obtain ⟨k, n, s, t, l⟩ := x
 obtain ⟨A, cap, rfl, hR, -⟩ := hT.parts
 have hlen := hR.max
 unfold maxLen at hlen
 have HRow := Lib.hid hR
 have HXL : Hid (X.l = l) := Lib.hid (by rw [hX]; rfl)
 rw [nodes_mk9] at hN
 have HN : Hid ((Tm.pres l).length + 1 ≤ 8200) := Lib.hid hN
 rw [← hX] at hT
 obtain ⟨W1, hW1⟩ : ∃ W1, W1 = w.alloc (.cells #[.int .i8 k, .int .i64 n, .string s, .string t, .slice A l.length cap] 25) := ⟨_, rfl⟩
 have b1 : Below w.heap.size w W1 := by rw [hW1]; exact (Below.refl _ _).alloc (Nat.le_refl _) _
 have g1 : W1.heap[w.heap.size]? = some (.cells #[.int .i8 k, .int .i64 n, .string s, .string t, .slice A l.length cap] 25 (0, 0)) := by rw [hW1]; exact block_alloc _ _
 have HB1 := Lib.hid b1
 have HG1 := Lib.hid g1
 have HT := Lib.hid hT
 obtain ⟨x0, x1, x2, x3, x4⟩ := five_of g1
 clear hR hT hX hN b1 g1
 go_enter Tryz.func18, Tryz.ntmps18
 go_upto_region 1 with fail
 rw [← hW1]
 clear hW1
 go_wp2_with fail
 refine (rcheck7_any X _ W1 (HT.out.laterN HB1.out)).mono ?_
 rintro e W3 ⟨rfl, b3⟩
 have HB3 := Lib.hid (HB1.out.trans (b3.mono HB1.out.size))
 have HG3 := Lib.hid ((b3.block _ (heap_lt HG1.out)).trans HG1.out)
 clear x0 x1 x2 x3 x4 b3
 rcases checkR_or X with ⟨hc, hf, hm⟩ | ⟨hc, hf⟩
 rotate_left
 ·rw [hc]
  have HF9 : Hid ((fns9T X).map (·.1) = []) := Lib.hid (by unfold fns9T; rw [if_neg hf]; rfl)
  clear hc hf
  go_wp2_with fail
  go_ret
  refine ⟨_, rfl, ?_, HB3.out⟩
  rw [HF9.out]
  exact ⟨none, 0, rfl, fun i f hi => by simp at hi⟩
 rw [hc]
 have HF9 : Hid ((fns9T X).map (·.1) = fnsW l) := Lib.hid (by rw [fns9T_eq hf hm, HXL.out])
 clear hc hf hm
 go_wp2_with fail
 go_loopw [3, 4] (fun r i wr => ∃ (j : Nat) (rv : Value), j ≤ l.length ∧ i = .int .i64 (j : Int) ∧ rv = r ∧ Hid (Below W3.heap.size W3 wr) ∧ Hid (wr.ownsRow W3.heap.size 64 5 rv (fnsW (l.take j)).length (flatF (fnsW (l.take j))))) (fun _ i _ => l.length - (intOf i).toNat)
 case atStart => exact ⟨0, _, Nat.zero_le _, rfl, rfl, Lib.hid (Below.refl _ _), Lib.hid (World.ownsRow_nil _ _ _ _)⟩
 case round =>
  obtain ⟨j, r, hj, rfl, rfl, HB, HO⟩ := hrel
  have hg := (HB.out.block _ (heap_lt HG3.out)).trans HG3.out
  have x4 : (wr).cell? ⟨w.heap.size, 4, none⟩ = some (.slice A l.length cap) := cell_of_row (i := 4) hg rfl
  clear hg
  by_cases hlt : j < l.length
  ·obtain ⟨y, hy⟩ : ∃ y, l[j]? = some y := ⟨l[j], List.getElem?_eq_getElem hlt⟩
   obtain ⟨mk, mn, ms, mt, ml⟩ := y
   obtain ⟨ad, u, hA, had, hE, hTy⟩ := HRow.out.at_ j _ hy
   subst hA
   obtain ⟨YA, yc, rfl, hyR, -⟩ := hTy.parts
   have hylen := hyR.max
   unfold maxLen at hylen
   have HYR := Lib.hid hyR
   have HEV : Hid (∀ V2, Below W3.heap.size W3 V2 → ElemAt V2 ad j (.agg #[.int .i8 mk, .int .i64 mn, .string ms, .string mt, .slice YA ml.length yc])) := Lib.hid (fun V2 hb2 => hE.keep ((HB3.out.trans (hb2.mono HB3.out.size)).block _ had))
   have HSN := Lib.hid (fnsW_snoc hy)
   have HSZ := Lib.hid (nodes_take9 hy)
   have hi0 : (0 : Int) ≤ (j : Int) := by omega
   have hi1 : (j : Int) < (l.length : Int) := by omega
   clear hE had hTy hy hyR
   obtain ⟨W4, hW4⟩ : ∃ W4, W4 = wr := ⟨_, rfl⟩
   subst hW4
   go_upto_region 8 with fail
   clear x4
   go_loopw [3, 5] (fun r i2 wr => ∃ (j2 : Nat) (rv : Value), j2 ≤ ml.length ∧ i2 = .int .i64 (j2 : Int) ∧ rv = r ∧ Hid (Below W3.heap.size W3 wr) ∧ Hid (wr.ownsRow W3.heap.size 64 5 rv (fnsW (l.take j) ++ (ml.take j2).map fun f => (ms, f.s, f.n)).length (flatF (fnsW (l.take j) ++ (ml.take j2).map fun f => (ms, f.s, f.n))))) (fun _ i2 _ => ml.length - (intOf i2).toNat)
   case atStart => exact ⟨0, _, Nat.zero_le _, rfl, rfl, HB, Lib.hid (by rw [List.take_zero, List.map_nil, List.append_nil]; exact HO.out)⟩
   case round =>
    obtain ⟨j2, r2, hj2, rfl, rfl, HB9, HO9⟩ := hrel
    have hg := (HB9.out.block _ (heap_lt HG3.out)).trans HG3.out
    have x4 : (wr).cell? ⟨w.heap.size, 4, none⟩ = some (.slice (some ad) l.length cap) := cell_of_row (i := 4) hg rfl
    obtain ⟨b0, b1, b2, b3, b4, hag, e0, e1, e2, e3, e4⟩ := HEV.out wr HB9.out
    cases hag
    clear hg e0 e1 e2 e3
    by_cases hlt2 : j2 < ml.length
    ·obtain ⟨f, hf⟩ : ∃ f, ml[j2]? = some f := ⟨ml[j2], List.getElem?_eq_getElem hlt2⟩
     obtain ⟨fk, fn, fs, ft, fl⟩ := f
     obtain ⟨ad2, u2, hA2, had2, hE2, hTf⟩ := HYR.out.at_ j2 _ hf
     subst hA2
     obtain ⟨FA, fc, rfl, -⟩ := hTf.parts
     have HEF : Hid (∀ V2, Below W3.heap.size W3 V2 → ElemAt V2 ad2 j2 (.agg #[.int .i8 fk, .int .i64 fn, .string fs, .string ft, .slice FA fl.length fc])) := Lib.hid (fun V2 hb2 => hE2.keep ((HB3.out.trans (hb2.mono HB3.out.size)).block _ had2))
     obtain ⟨L9, hL9⟩ : ∃ L9, L9 = fnsW (l.take j) ++ (ml.take j2).map fun f => (ms, f.s, f.n) := ⟨_, rfl⟩
     have hLN : fnsW (l.take j) ++ ((ml.take (j2 + 1)).map fun f => (ms, f.s, f.n)) = L9 ++ [(ms, fs, fn)] := by
      rw [hL9, List.take_add_one, hf, List.map_append, ← List.append_assoc]; rfl
     have hLL : L9.length ≤ 100000 := by
      have h1 := fnsW_len (l.take j)
      have h2 := HSZ.out
      have h3 := HN.out
      have h4 : ml.length ≤ (Tm.pres ml).length := pres_len ml
      rw [nodes_mk9] at h2
      rw [hL9, List.length_append, List.length_map, List.length_take]
      omega
     have HLN := Lib.hid hLN
     have HLL := Lib.hid hLL
     rw [← hL9] at HO9
     clear hL9 hLN hLL hE2 had2 hTf hf
     have hk0 : (0 : Int) ≤ (j2 : Int) := by omega
     have hk1 : (j2 : Int) < (ml.length : Int) := by omega
     go_upto_region 10 with fail
     clear x4 e4
     refine wp_region_held (S := fun V => Below W3.heap.size W3 V) (by kernel_rfl) ?_
     show wpAnyH _ _ _ _ _ _ _ _ wr.drew
     have hdr : Below wr.heap.size wr wr.drew := ⟨rfl, rfl, rfl, Nat.le_refl _, fun _ _ => rfl⟩
     have hS0 : Below W3.heap.size W3 wr.drew := HB9.out.trans (hdr.mono HB9.out.size)
     have HOD := Lib.hid ((Mod.of_below (F := fun _ => False) hdr).row HO9.out (fun _ _ f => f))
     clear hdr
     generalize wr.drew = D at hS0 HOD ⊢
     refine tkq 0 ?_; (try simp only [Act.put, sI, sZ, sS])
     refine tkq 1 ?_; (try simp only [Act.put, sI, sZ, sS])
     refine wpAnyH_take (i := 2) (oi := ⟨some 29, _, _, _, _, _⟩) (v := ?_) rfl (by kernel_rfl) (by kernel_rfl) (by kernel_rfl) (fun _ _ _ h => h) (Or.inl ⟨by kernel_rfl, ?_⟩) (by assumption) ?_; rotate_left; (intro V hV; (try dsimp only at hV); have x4 : V.cell? ⟨w.heap.size, 4, none⟩ = some (.slice (some ad) l.length cap) := cell_of_row (i := 4) ((hV.block _ (heap_lt HG3.out)).trans HG3.out) rfl; go_simp; first | done | with_reducible rfl); (try simp only [Act.put, sI, sZ, sS])
     refine tkq 3 ?_; (try simp only [Act.put, sI, sZ, sS])
     refine tkq 4 ?_; (try simp only [Act.put, sI, sZ, sS])
     refine tkq 5 ?_; (try simp only [Act.put, sI, sZ, sS])
     refine wpAnyH_take (i := 6) (oi := ⟨some 33, _, _, _, _, _⟩) (v := ?_) rfl (by kernel_rfl) (by kernel_rfl) (by kernel_rfl) (fun _ _ _ h => h) (Or.inl ⟨by kernel_rfl, ?_⟩) (by assumption) ?_; rotate_left; (intro V hV; (try dsimp only at hV); obtain ⟨q0, q1, q2, q3, q4, hq, e0, e1, e2, e3, e4⟩ := HEV.out V hV; cases hq; go_simp; first | done | with_reducible rfl); (try simp only [Act.put, sI, sZ, sS])
     refine tkq 7 ?_; (try simp only [Act.put, sI, sZ, sS])
     refine wpAnyH_take (i := 8) (oi := ⟨some 35, _, _, _, _, _⟩) (v := ?_) rfl (by kernel_rfl) (by kernel_rfl) (by kernel_rfl) (fun _ _ _ h => h) (Or.inl ⟨by kernel_rfl, ?_⟩) (by assumption) ?_; rotate_left; (intro V hV; (try dsimp only at hV); have x4 : V.cell? ⟨w.heap.size, 4, none⟩ = some (.slice (some ad) l.length cap) := cell_of_row (i := 4) ((hV.block _ (heap_lt HG3.out)).trans HG3.out) rfl; go_simp; first | done | with_reducible rfl); (try simp only [Act.put, sI, sZ, sS])
     refine tkq 9 ?_; (try simp only [Act.put, sI, sZ, sS])
     refine tkq 10 ?_; (try simp only [Act.put, sI, sZ, sS])
     refine tkq 11 ?_; (try simp only [Act.put, sI, sZ, sS])
     refine wpAnyH_take (i := 12) (oi := ⟨some 39, _, _, _, _, _⟩) (v := ?_) rfl (by kernel_rfl) (by kernel_rfl) (by kernel_rfl) (fun _ _ _ h => h) (Or.inl ⟨by kernel_rfl, ?_⟩) (by assumption) ?_; rotate_left; (intro V hV; (try dsimp only at hV); obtain ⟨q0, q1, q2, q3, q4, hq, e0, e1, e2, e3, e4⟩ := HEV.out V hV; cases hq; go_simp; first | done | with_reducible rfl); (try simp only [Act.put, sI, sZ, sS])
     refine tkq 13 ?_; (try simp only [Act.put, sI, sZ, sS])
     refine tkq 14 ?_; (try simp only [Act.put, sI, sZ, sS])
     refine tkq 15 ?_; (try simp only [Act.put, sI, sZ, sS])
     refine wpAnyH_take (i := 16) (oi := ⟨some 43, _, _, _, _, _⟩) (v := ?_) rfl (by kernel_rfl) (by kernel_rfl) (by kernel_rfl) (fun _ _ _ h => h) (Or.inl ⟨by kernel_rfl, ?_⟩) (by assumption) ?_; rotate_left; (intro V hV; (try dsimp only at hV); obtain ⟨p0, p1, p2, p3, p4, hp, f0, f1, f2, f3, f4⟩ := HEF.out V hV; cases hp; go_simp; first | done | with_reducible rfl); (try simp only [Act.put, sI, sZ, sS])
     refine tkq 17 ?_; (try simp only [Act.put, sI, sZ, sS])
     refine wpAnyH_take (i := 18) (oi := ⟨some 45, _, _, _, _, _⟩) (v := ?_) rfl (by kernel_rfl) (by kernel_rfl) (by kernel_rfl) (fun _ _ _ h => h) (Or.inl ⟨by kernel_rfl, ?_⟩) (by assumption) ?_; rotate_left; (intro V hV; (try dsimp only at hV); have x4 : V.cell? ⟨w.heap.size, 4, none⟩ = some (.slice (some ad) l.length cap) := cell_of_row (i := 4) ((hV.block _ (heap_lt HG3.out)).trans HG3.out) rfl; go_simp; first | done | with_reducible rfl); (try simp only [Act.put, sI, sZ, sS])
     refine tkq 19 ?_; (try simp only [Act.put, sI, sZ, sS])
     refine tkq 20 ?_; (try simp only [Act.put, sI, sZ, sS])
     refine tkq 21 ?_; (try simp only [Act.put, sI, sZ, sS])
     refine wpAnyH_take (i := 22) (oi := ⟨some 49, _, _, _, _, _⟩) (v := ?_) rfl (by kernel_rfl) (by kernel_rfl) (by kernel_rfl) (fun _ _ _ h => h) (Or.inl ⟨by kernel_rfl, ?_⟩) (by assumption) ?_; rotate_left; (intro V hV; (try dsimp only at hV); obtain ⟨q0, q1, q2, q3, q4, hq, e0, e1, e2, e3, e4⟩ := HEV.out V hV; cases hq; go_simp; first | done | with_reducible rfl); (try simp only [Act.put, sI, sZ, sS])
     refine tkq 23 ?_; (try simp only [Act.put, sI, sZ, sS])
     refine tkq 24 ?_; (try simp only [Act.put, sI, sZ, sS])
     refine tkq 25 ?_; (try simp only [Act.put, sI, sZ, sS])
     refine wpAnyH_take (i := 26) (oi := ⟨some 53, _, _, _, _, _⟩) (v := ?_) rfl (by kernel_rfl) (by kernel_rfl) (by kernel_rfl) (fun _ _ _ h => h) (Or.inl ⟨by kernel_rfl, ?_⟩) (by assumption) ?_; rotate_left; (intro V hV; (try dsimp only at hV); obtain ⟨p0, p1, p2, p3, p4, hp, f0, f1, f2, f3, f4⟩ := HEF.out V hV; cases hp; go_simp; first | done | with_reducible rfl); (try simp only [Act.put, sI, sZ, sS])
     refine tkq 27 ?_; (try simp only [Act.put, sI, sZ, sS])
     refine wpAnyH_ready (rs := [28]) (by kernel_rfl) (by simp) ?_
     refine AllReadyH.cons (o := ⟨some 55, _, _, _, _, _⟩) rfl (fun K hK => ?_) AllReadyH.nil
     rw [if_pos (by rfl)]
     go_simp
     obtain ⟨Y, hY⟩ : ∃ Y, Y = D.alloc (.cells #[.string ms, .string fs, .int .i64 fn, .int .i64 0, .int .i64 0] 64) := ⟨_, rfl⟩
     have bY : Below D.heap.size D Y := by rw [hY]; exact (Below.refl _ _).alloc (Nat.le_refl _) _
     have HGY : Hid (Y.heap[D.heap.size]? = some (.cells #[.string ms, .string fs, .int .i64 fn, .int .i64 0, .int .i64 0] 64 (0, 0))) := Lib.hid (by rw [hY]; exact block_alloc _ _)
     have hSY := hS0.trans (bY.mono hS0.size)
     have HOY := Lib.hid ((Mod.of_below (F := fun _ => False) bY).row HOD.out (fun _ _ f => f))
     rw [← hY]
     clear bY hY
     refine hK.out _ _ hSY (fun hSn => ?_)
     clear hK K hSn; (try simp only [Act.put, sI, sZ, sS])
     clear hS0 HOD
     refine wpAnyH_ready (rs := [29]) (by kernel_rfl) (by simp) ?_
     refine AllReadyH.cons (o := ⟨some 56, _, _, _, _, _⟩) rfl (fun K hK => ?_) AllReadyH.nil
     rw [if_pos (by rfl)]
     refine wp_own1 elt_fn (.tmp 27) (.tmp 55) rfl HOY.out hSY.size rfl _ rfl HGY.out rfl (by simp [Value.oneCell']) (by have := HLL.out; omega) (fun v8 Z O8 G8 A8 => ?_)
     have hSZ : Below W3.heap.size W3 Z := hSY.trans ((Mod.grown (F := fun k => r2.ownBlock = some k) G8 (fun k _ e => e)).below hSY.size (fun k e => (HOY.out.lt k e).1))
     have HO8 : Hid (Z.ownsRow W3.heap.size 64 5 v8 (L9 ++ [(ms, fs, fn)]).length (flatF (L9 ++ [(ms, fs, fn)]))) := Lib.hid (by rw [flatF_snoc9, List.length_append]; exact O8)
     clear O8 G8 A8
     refine hK.out _ _ hSZ (fun hSn => ?_)
     clear hK K hSn hSY; (try simp only [Act.put, sI, sZ, sS])
     refine tkq 30 ?_; (try simp only [Act.put, sI, sZ, sS])
     refine wpAnyH_done (by kernel_rfl) ?_ _
     have HBZ := Lib.hid hSZ
     clear hSZ
     go_wp2_with fail
     go_roundw
     case rel => exact ⟨j2 + 1, _, by omega, by go_num, rfl, HBZ, Lib.hid (by rw [HLN.out]; exact HO8.out)⟩
     case measure => simp [intOf]; omega
    ·obtain rfl : j2 = ml.length := by omega
     have HO8 : Hid (wr.ownsRow W3.heap.size 64 5 r2 (fnsW (l.take (j + 1))).length (flatF (fnsW (l.take (j + 1))))) := Lib.hid (by
      have h9 := HO9.out
      rw [List.take_length] at h9
      rw [HSN.out]
      exact h9)
     go_wp2_with fail
     go_roundw
     case rel => exact ⟨j + 1, _, by omega, by go_num, rfl, HB9, HO8⟩
     case measure => simp [intOf]; omega
  ·obtain rfl : j = l.length := by omega
   have HO8 : Hid (wr.ownsRow W3.heap.size 64 5 r (fnsW l).length (flatF (fnsW l))) := Lib.hid (by have h9 := HO.out; rw [List.take_length] at h9; exact h9)
   go_wp2_with fail
   go_ret
   refine ⟨_, rfl, ?_, HB3.out.trans (HB.out.mono HB3.out.size)⟩
   rw [HF9.out]
   exact fnRow_of_own HO8.out
end Go.Proofs.YtmdcdhdjojimeaaGreatDoor
end
section
set_option linter.unusedVariables false
set_option linter.unusedSimpArgs false
namespace Go.Proofs.YtmdcdhdjojimeaaGreatDoor
open Go.RowKit

theorem leaf_kinds {k n : Int} {s t : ByteArray} {l : List Tm} (h : leafB k n s t l = true) : l = [] ∧ (k = 5 ∨ k = 6 ∨ k = 7 ∨ k = 8) := by
 unfold leafB at h
 simp only [Bool.and_eq_true, Bool.or_eq_true, beq_iff_eq] at h
 obtain ⟨⟨hl, -⟩, h⟩ := h
 refine ⟨List.isEmpty_iff.1 hl, ?_⟩
 rcases h with ((h | h) | h) | h
 ·exact .inl h.1.1
 ·exact .inr (.inl h.1.1)
 ·exact .inr (.inr (.inl h.1.1))
 ·exact .inr (.inr (.inr h.1.1))
inductive ExprK : Int → List Tm → Prop
 | var : ExprK 5 []
 | match_ (a b : Tm) (hb : exprB b = true) : ExprK 13 [a, b]
 | case_ (e : Tm) (r : List Tm) (he : exprB e = true) (hr : ∀ c ∈ r, clB 1 c = true) : ExprK 18 (e :: r)
 | try_ (e : Tm) (r : List Tm) (he : exprB e = true) (hr : ∀ c ∈ r, clB 2 c = true) : ExprK 19 (e :: r)
 | recv (l : List Tm) (h : ∀ c ∈ l, clB 1 c = true ∨ afterB c = true) : ExprK 20 l
 | rest (k : Int) (l : List Tm) (hk : k ≠ 5 ∧ k ≠ 13 ∧ k ≠ 3 ∧ k ≠ 18 ∧ k ≠ 21 ∧ k ≠ 19 ∧ k ≠ 20) (h : ∀ x ∈ l, exprB x = true) : ExprK k l
theorem recv_parts : ∀ {l : List Tm}, recvB l = true → ∀ c ∈ l, clB 1 c = true ∨ afterB c = true
 | [], h, c, hc => by cases hc
 | x :: l, h, c, hc => by
  rw [recvB] at h
  split at h
  ·rename_i he
   rw [List.isEmpty_iff.1 he] at hc
   simp only [List.mem_cons, List.not_mem_nil, or_false] at hc
   subst hc; exact .inr h
  ·rw [Bool.and_eq_true] at h
   rcases List.mem_cons.1 hc with rfl | hc
   ·exact .inl h.1
   ·exact recv_parts h.2 c hc
theorem expr_kinds {k n : Int} {s t : ByteArray} {l : List Tm} (h : exprB (.mk k n s t l) = true) : ExprK k l := by
 rw [exprB] at h
 simp only [Bool.or_eq_true, or_assoc] at h
 rcases h with h | h | h | h | h | h | h | h | h | h | h | h
 ·obtain ⟨hl, hk⟩ := leaf_kinds h
  subst hl
  rcases hk with rfl | hk
  ·exact .var
  ·exact .rest _ _ (by omega) (fun x hx => by cases hx)
 ·simp only [Bool.and_eq_true, beq_iff_eq] at h
  exact .rest _ _ (by omega) (exprsB_all.1 h.2)
 ·simp only [Bool.and_eq_true, beq_iff_eq] at h
  exact .rest _ _ (by omega) (exprsB_all.1 h.2)
 ·simp only [Bool.and_eq_true, beq_iff_eq] at h
  exact .rest _ _ (by omega) (exprsB_all.1 h.2)
 ·simp only [Bool.and_eq_true, beq_iff_eq] at h
  obtain ⟨⟨⟨⟨⟨rfl, -⟩, -⟩, -⟩, hl⟩, hp⟩ := h
  match l, hl, hp with
  | [a, b], _, hp =>
   rw [patFirst, Bool.and_eq_true, exprsB_all] at hp
   exact .match_ a b (hp.2 b (by simp))
 ·simp only [Bool.and_eq_true, beq_iff_eq] at h
  exact .rest _ _ (by omega) (exprsB_all.1 h.2)
 ·simp only [Bool.and_eq_true, beq_iff_eq] at h
  exact .rest _ _ (by omega) (exprsB_all.1 h.2)
 ·simp only [Bool.and_eq_true, beq_iff_eq] at h
  exact .rest _ _ (by omega) (exprsB_all.1 h.2)
 ·simp only [Bool.and_eq_true, beq_iff_eq] at h
  rw [List.isEmpty_iff.1 h.2]
  exact .rest _ _ (by omega) (fun x hx => by cases hx)
 ·simp only [Bool.and_eq_true, beq_iff_eq, decide_eq_true_eq] at h
  obtain ⟨⟨⟨⟨⟨rfl, -⟩, -⟩, -⟩, hl⟩, hp⟩ := h
  match l, hl, hp with
  | e :: r, _, hp =>
   rw [caseB, Bool.and_eq_true, clsB_all] at hp
   exact .case_ e r hp.1 hp.2
 ·simp only [Bool.and_eq_true, beq_iff_eq, decide_eq_true_eq] at h
  obtain ⟨⟨⟨⟨⟨⟨rfl, -⟩, -⟩, -⟩, hl⟩, hp⟩, -⟩ := h
  match l, hl, hp with
  | e :: r, _, hp =>
   rw [caseB, Bool.and_eq_true, clsB_all] at hp
   exact .try_ e r hp.1 hp.2
 ·simp only [Bool.and_eq_true, Bool.or_eq_true, beq_iff_eq] at h
  obtain ⟨⟨⟨rfl, -⟩, -⟩, h⟩ := h
  refine .recv _ ?_
  rcases h with h | h
  ·intro c hc; exact .inl (clsB_all.1 h.2 c hc)
  ·exact recv_parts h.2
theorem parts_kinds : ∀ {m : Nat} {l : List Tm}, partsB m l = true → ∃ g es, l = l.take m ++ g :: es ∧ (l.take m).length = m ∧ guardB g = true ∧ ∀ x ∈ es, exprB x = true
 | 0, g :: l, h => by
  rw [partsB, Bool.and_eq_true, Bool.and_eq_true, exprsB_all] at h
  exact ⟨g, l, rfl, rfl, h.1.1, h.2⟩
 | m + 1, p :: l, h => by
  rw [partsB, Bool.and_eq_true] at h
  obtain ⟨g, es, h1, h2, h3, h4⟩ := parts_kinds h.2
  exact ⟨g, es, by rw [List.take_succ_cons, List.cons_append, ← h1], by simp [h2], h3, h4⟩
theorem cl_kinds {m : Nat} {k n : Int} {s t : ByteArray} {l : List Tm} (h : clB m (.mk k n s t l) = true) : k = 3 ∧ n = (m : Int) ∧ ∃ ps g es, l = ps ++ g :: es ∧ ps.length = m ∧ guardB g = true ∧ ∀ x ∈ es, exprB x = true := by
 rw [clB] at h
 simp only [Bool.and_eq_true, beq_iff_eq] at h
 obtain ⟨⟨⟨⟨h1, h2⟩, -⟩, -⟩, h3⟩ := h
 obtain ⟨g, es, h4, h5, h6, h7⟩ := parts_kinds h3
 exact ⟨h1, h2, _, g, es, h4, h5, h6, h7⟩
theorem after_kinds {k n : Int} {s t : ByteArray} {l : List Tm} (h : afterB (.mk k n s t l) = true) : k = 21 ∧ ∀ x ∈ l, exprB x = true := by
 rw [afterB] at h
 simp only [Bool.and_eq_true, beq_iff_eq] at h
 exact ⟨h.1.1.1.1.1, exprsB_all.1 h.2⟩
theorem plain_of {k n : Int} {s t : ByteArray} {l : List Tm} (h5 : k = 5 → l = []) (h : k ≠ 13 ∧ k ≠ 3 ∧ k ≠ 18 ∧ k ≠ 21 ∧ k ≠ 19) : plainN (.mk k n s t l) := ⟨h5, h⟩
theorem plain_sub {l : List Tm} (h : ∀ x ∈ l, ∀ z ∈ x.pre, plainN z) : ∀ z ∈ Tm.pres l, plainN z := fun z hz => by
 obtain ⟨y, hy, h2⟩ := mem_presX hz
 exact h y hy z h2
theorem gua_plain (x : Tm) : guaB x = true → ∀ z ∈ x.pre, plainN z := by
 induction x using Tm.ind with
 | h k n s t l ih =>
  intro h z hz
  rw [guaB, Bool.or_eq_true] at h
  rw [Tm.pre] at hz
  rcases h with h | h
  ·obtain ⟨hl, hk⟩ := leaf_kinds h
   subst hl
   rcases List.mem_cons.1 hz with rfl | hz
   ·exact plain_of (fun _ => rfl) (by omega)
   ·cases hz
  ·simp only [Bool.and_eq_true, Bool.or_eq_true, beq_iff_eq] at h
   have hk : k = 10 ∨ k = 9 ∨ k = 11 := by
    rcases h.1.1.1 with (h | h) | h
    ·exact .inl h.1
    ·exact .inr (.inl h.1.1)
    ·exact .inr (.inr h.1.1)
   rcases List.mem_cons.1 hz with rfl | hz
   ·exact plain_of (fun e => by omega) (by omega)
   ·exact plain_sub (fun x hx => ih x hx (guasB_all.1 h.2 x hx)) z hz
theorem test_plain (x : Tm) (h : testB x = true) : ∀ z ∈ x.pre, plainN z := by
 obtain ⟨k, n, s, t, l⟩ := x
 intro z hz
 rw [testB] at h
 simp only [Bool.and_eq_true, Bool.or_eq_true, beq_iff_eq] at h
 have hk : k = 11 ∨ k = 12 := by
  rcases h.1.1.1 with h | h
  ·exact .inl h.1.1
  ·exact .inr h.1.1
 rw [Tm.pre] at hz
 rcases List.mem_cons.1 hz with rfl | hz
 ·exact plain_of (fun e => by omega) (by omega)
 ·exact plain_sub (fun x hx => gua_plain x (guasB_all.1 h.2 x hx)) z hz
theorem guard_plain (x : Tm) (h : guardB x = true) : ∀ z ∈ x.pre, plainN z := by
 obtain ⟨k, n, s, t, l⟩ := x
 intro z hz
 rw [guardB] at h
 simp only [Bool.and_eq_true, beq_iff_eq, List.all_eq_true] at h
 rw [Tm.pre] at hz
 rcases List.mem_cons.1 hz with rfl | hz
 ·exact plain_of (fun e => by omega) (by omega)
 ·exact plain_sub (fun x hx => test_plain x (h.2 x hx)) z hz
theorem clauseW_cut (most : Int) : ∀ (ps r : List Tm) (st : Wk) (p : Nat), r ≠ [] → clauseW most st p ps.length (ps ++ r) = allW most (patW most st p (Tm.pres ps)) (p + (Tm.pres ps).length) r
 | [], r, st, p, hr => by
  rw [List.nil_append, List.length_nil, clauseW_0]
  simp [Tm.pres, patW]
 | a :: ps, r, st, p, hr => by
  rw [List.cons_append, List.length_cons, clauseW, clauseW_cut most ps r _ _ hr, nodes_pres_cons, Tm.pres, patW_append, Nat.add_assoc]
  rfl
theorem RAt.ok {X : RCtx} {st : Wk} {p : Nat} {V : World} (h : RAt X st p V) : X.Ok := h.1
end Go.Proofs.YtmdcdhdjojimeaaGreatDoor
end
