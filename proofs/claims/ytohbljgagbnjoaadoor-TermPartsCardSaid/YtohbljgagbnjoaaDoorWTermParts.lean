/- TermParts: its walk. -/
import Derived.Test.YtohbljgagbnjoaaDoorTxtOne
import Derived.Test.YtohbljgagbnjoaaDoorStT
import Derived.Deep.DeepCutAuto
import Derived.Tactics2
set_option linter.unusedVariables false
namespace Go.Proofs.YtohbljgagbnjoaaDoor
open Go.RowKit

/-- One box, at the call's first block. -/
structure Bx1 (w V : World) (cy : Array Value) : Prop where
  below : Below w.heap.size w V
  bx : V.heap[w.heap.size]? = some (.cells cy 25 (0, 0))
theorem Bx1.on {w V V' : World} {cy : Array Value} (h : Bx1 w V cy) (hb : Below V.heap.size V V') : Bx1 w V' cy := ⟨h.below.trans (hb.mono h.below.size), (hb.block _ (heap_lt h.bx)).trans h.bx⟩

theorem ordR_longer (l : List Tm) (y : Tm) : ordR l (l ++ [y]) = -1 := by
  unfold ordR
  rw [if_pos (by simp), cmpI, if_pos (by simp; omega)]
theorem ordL_other : ∀ (l : List Tm) (k : Nat) (y x : Tm), l[k]? = some x → ordL l (l.set k y) = ordN x y
  | a :: l, 0, y, x, h => by
    simp at h; subst h
    rw [List.set_cons_zero, ordL]
    split
    · rename_i e; rw [e]
      have : ∀ l : List Tm, ordL l l = 0 := fun l => by
        induction l with
        | nil => rfl
        | cons b l ih => rw [ordL, if_pos (ordN_self b)]; exact ih
      exact this l
    · rfl
  | a :: l, k + 1, y, x, h => by
    rw [List.set_cons_succ, ordL, if_pos (ordN_self a)]
    exact ordL_other l k y x (by simpa using h)
theorem ordR_other (l : List Tm) (k : Nat) (y x : Tm) (h : l[k]? = some x) : ordR l (l.set k y) = ordN x y := by
  unfold ordR
  rw [if_neg (by simp), ordL_other l k y x h]
theorem ordN_tup (l m : List Tm) : ordN (tupT l) (tupT m) = ordR l m := by
  unfold tupT
  rw [ordN_eq]; rfl
theorem tup_check {l : List Tm} (h : fitN 1 l = 0) : checkN (tupT l) = 0 := by
  obtain ⟨h1, h2⟩ := fit_zero h
  have hp := (sumN_small l (by omega)).1
  refine check_of (fun z hz => ?_) (by unfold Tm.nodes tupT; rw [Tm.pre, List.length_cons]; omega)
  unfold tupT at hz
  rw [Tm.pre] at hz
  rcases List.mem_cons.1 hz with rfl | hz
  · show ok_tuple 0 ⟨#[]⟩ ⟨#[]⟩ l.length = true
    simp [ok_tuple, ByteArray.toList_eq]
  · have : ∀ l : List Tm, (∀ x ∈ l, Valid x) → z ∈ Tm.pres l → okB z = true := by
      intro l
      induction l with
      | nil => intro _ h; simp [Tm.pres] at h
      | cons a l ih =>
        intro hv h
        rw [Tm.pres, List.mem_append] at h
        rcases h with h | h
        · exact hv a (by simp) z h
        · exact ih (fun x hx => hv x (by simp [hx])) h
    exact this l (fun x hx => (h2 x hx).1) hz

set_option maxHeartbeats 32000000 in
set_option maxRecDepth 100000 in
theorem walk_TermParts (lv u : Value) (k : Int) (wk : (Lit.int .i64 k).wf = true) (w : World) (o0 : ∃ A n cap l, lv = .slice A n cap ∧ TRow (· < w.heap.size) w A n cap l) (o1 : ∃ x, TmAt (· < w.heap.size) w x u) (hL : Spans w ∧ PowTab w) :
    Calls Tryd.prog 5 #[lv, u, .int .i64 k] w fun e w' => e = .returned (.bool true) ∧ Below w.heap.size w w' := by
  obtain ⟨A, n, cap, l, rfl, hl⟩ := o0
  obtain ⟨y, hy⟩ := o1
  obtain rfl := hl.len
  obtain ⟨ky, ny, sy, ty, Ly, Ay, capy, ey, rfl⟩ : ∃ k' n' s' t' L' A' cap', y = Tm.mk k' n' s' t' L' ∧ u = .agg #[.int .i8 k', .int .i64 n', .string s', .string t', .slice A' L'.length cap'] := by
    cases hy; exact ⟨_, _, _, _, _, _, _, rfl, rfl⟩
  obtain ⟨w1, hw1⟩ : ∃ w1, w1 = w.alloc (.cells #[(.int .i8 ky), (.int .i64 ny), (.string sy), (.string ty), (.slice Ay Ly.length capy)] 25) := ⟨_, rfl⟩
  have h0 : Bx1 w w1 #[(.int .i8 ky), (.int .i64 ny), (.string sy), (.string ty), (.slice Ay Ly.length capy)] := by rw [hw1]; exact ⟨(Below.refl _ w).alloc (Nat.le_refl _) _, block_alloc _ _⟩
  have HLR := Lib.hid (fun V (h : Below w.heap.size w V) => hl.later h)
  have HL0 := Lib.hid hl
  have HY := Lib.hid (fun V (h : Below w.heap.size w V) => hy.later h)
  have HY0 := Lib.hid hy
  have HWK : Hid (∀ V, Below w.heap.size w V → Calls Tryd.prog 11 #[] V fun e w' => e = .returned (.bool true) ∧ Below w.heap.size w w') := fun V h =>
    (wakes_ok V (hL.1.below h hL.1.lt) (Go.Lib.tabBelow_of_tabIs hL.2 _ h)).mono fun e w' ⟨he, hb⟩ => ⟨he, h.trans (hb.mono h.size)⟩
  have HWK3 : Hid (∀ V, Below w.heap.size w V → Calls Tryd.prog 11 #[] V fun e w' => e = .returned (.bool true) ∧ Below V.heap.size V w') := fun V h => wakes_ok V (hL.1.below h hL.1.lt) (Go.Lib.tabBelow_of_tabIs hL.2 _ h)
  have HSP : Hid (∀ V, Below w.heap.size w V → Spans V) := fun V h => hL.1.below h hL.1.lt
  have H0 := Lib.hid h0
  have hwk := i64_wf wk
  obtain ⟨hk1, hk2⟩ := hwk
  have hmax := hl.max
  unfold maxLen at hmax
  have y0 : w1.cell? ⟨w.heap.size, 0, none⟩ = some (.int .i8 ky) := cell_of_row h0.bx rfl
  have y1 : w1.cell? ⟨w.heap.size, 1, none⟩ = some (.int .i64 ny) := cell_of_row h0.bx rfl
  have y2 : w1.cell? ⟨w.heap.size, 2, none⟩ = some (.string sy) := cell_of_row h0.bx rfl
  have y3 : w1.cell? ⟨w.heap.size, 3, none⟩ = some (.string ty) := cell_of_row h0.bx rfl
  have y4 : w1.cell? ⟨w.heap.size, 4, none⟩ = some (.slice Ay Ly.length capy) := cell_of_row h0.bx rfl
  clear hl hy hL ey h0 wk
  subst hw1
  go_enter Tryd.func5, Tryd.ntmps5
  go_wp2_with fail
  refine (GreatAll_any A l.length cap l _ (HLR.out _ H0.out.below)).mono ?_
  rintro e V1 ⟨q, rfl, hq, b1⟩
  have H1 := Lib.hid (H0.out.on b1)
  have HGR := Lib.hid hq
  clear hq b1 y0 y1 y2 y3 y4
  cases q
  case true =>
    go_wp2_with fail
    refine (HWK.out _ H1.out.below).mono ?_
    rintro e V ⟨rfl, hb⟩
    have HBW := Lib.hid hb
    clear hb
    go_wp2_with fail
    go_ret
    exact ⟨rfl, HBW.out⟩
  have hgr := HGR.out rfl
  have hll : l.length < 4000 := by omega
  clear hgr
  have hh := H1.out
  have y0 : V1.cell? ⟨w.heap.size, 0, none⟩ = some (.int .i8 ky) := cell_of_row hh.bx rfl
  have y1 : V1.cell? ⟨w.heap.size, 1, none⟩ = some (.int .i64 ny) := cell_of_row hh.bx rfl
  have y2 : V1.cell? ⟨w.heap.size, 2, none⟩ = some (.string sy) := cell_of_row hh.bx rfl
  have y3 : V1.cell? ⟨w.heap.size, 3, none⟩ = some (.string ty) := cell_of_row hh.bx rfl
  have y4 : V1.cell? ⟨w.heap.size, 4, none⟩ = some (.slice Ay Ly.length capy) := cell_of_row hh.bx rfl
  clear hh
  go_wp2_with fail
  refine (Great_any y _ _ (HY.out _ H1.out.below)).mono ?_
  rintro e V2 ⟨q, rfl, hq, b1⟩
  have H2 := Lib.hid (H1.out.on b1)
  clear hq b1 y0 y1 y2 y3 y4
  cases q
  case true =>
    go_wp2_with fail
    refine (HWK.out _ H2.out.below).mono ?_
    rintro e V ⟨rfl, hb⟩
    have HBW := Lib.hid hb
    clear hb
    go_wp2_with fail
    go_ret
    exact ⟨rfl, HBW.out⟩
  have hh := H2.out
  have y0 : V2.cell? ⟨w.heap.size, 0, none⟩ = some (.int .i8 ky) := cell_of_row hh.bx rfl
  have y1 : V2.cell? ⟨w.heap.size, 1, none⟩ = some (.int .i64 ny) := cell_of_row hh.bx rfl
  have y2 : V2.cell? ⟨w.heap.size, 2, none⟩ = some (.string sy) := cell_of_row hh.bx rfl
  have y3 : V2.cell? ⟨w.heap.size, 3, none⟩ = some (.string ty) := cell_of_row hh.bx rfl
  have y4 : V2.cell? ⟨w.heap.size, 4, none⟩ = some (.slice Ay Ly.length capy) := cell_of_row hh.bx rfl
  clear hh
  go_wp2_with fail
  refine (Check_any y _ _ (HY.out _ H2.out.below) (HSP.out _ H2.out.below)).mono ?_
  rintro e V3 ⟨rfl, b1⟩
  have H3 := Lib.hid (H2.out.on b1)
  clear b1 y0 y1 y2 y3 y4
  by_cases hcy : checkN y = 0
  case neg =>
    have hc1 : (checkN y != 0) = true := by simpa using hcy
    clear hcy
    go_wp2_with fail
    refine (HWK.out _ H3.out.below).mono ?_
    rintro e V ⟨rfl, hb⟩
    have HBW := Lib.hid hb
    clear hb
    go_wp2_with fail
    go_ret
    exact ⟨rfl, HBW.out⟩
  have hcy1 : (checkN y != 0) = false := by simpa using hcy
  have HCY := Lib.hid hcy
  clear hcy
  go_wp2_with fail
  refine (Tuple_any (· < V3.heap.size) l A l.length cap _ (fun _ h => h) (HLR.out _ H3.out.below) (HSP.out _ H3.out.below) (by omega)).mono ?_
  rintro e V4 ⟨av, rfl, ⟨ka, na, sa, ta, Aa, La, capa, rfl⟩, hTA, b4⟩
  clear hcy1
  obtain ⟨W4, hW4⟩ : ∃ W4, W4 = V4.alloc (.cells #[.int .i8 ka, .int .i64 na, .string sa, .string ta, .slice Aa (List.length (α := Tm) La) capa] 25) := ⟨_, rfl⟩
  have bb : Below V4.heap.size V4 W4 := by rw [hW4]; exact (Below.refl _ _).alloc (Nat.le_refl _) _
  have gg : W4.heap[V4.heap.size]? = some (.cells #[.int .i8 ka, .int .i64 na, .string sa, .string ta, .slice Aa (List.length (α := Tm) La) capa] 25 (0, 0)) := by rw [hW4]; exact block_alloc _ _
  have H4 := Lib.hid ((H3.out.on b4).on bb)
  have HTA := Lib.hid (fun h => ((hTA h).mono (Q := (· < V4.heap.size)) (fun b hb => hb.elim (fun h1 => Nat.lt_of_lt_of_le h1 b4.size) (fun h1 => h1.2))).later bb)
  have HGA := Lib.hid gg
  clear hTA bb gg b4
  go_wp2_with fail
  rw [← hW4]
  clear hW4
  have HLL : Hid (l.length < 4000) := hll
  obtain ⟨n5, hn5⟩ : ∃ n5, n5 = (l ++ [y]).length := ⟨_, rfl⟩
  have HN5 := Lib.hid hn5
  clear hn5
  go_cut [9, 10] (fun s9 s10 wx => ∃ (g : Nat) (cb : Array Value), s9 = .pointer (some ⟨g, 0, none⟩) ∧ s10 = .int .i64 (fitN 1 (l ++ [y])) ∧ wx.heap[g]? = some (.cells cb 25 (0, 0)) ∧ (∃ k n s t A L cap, cb = #[.int .i8 k, .int .i64 n, .string s, .string t, .slice A (List.length (α := Tm) L) cap]) ∧ (fitN 1 (l ++ [y]) = 0 → TmAt (fun b => b < wx.heap.size ∧ b ≠ g) wx (tupT (l ++ [y])) (.agg cb)) ∧ Below W4.heap.size W4 wx)
  case first =>
    refine wp_region_held (S := fun V => Below W4.heap.size W4 V) (by kernel_rfl) ?_
    show wpAnyH _ _ _ _ _ _ _ _ W4.drew
    have hS0 : Below W4.heap.size W4 W4.drew := ⟨rfl, rfl, rfl, Nat.le_refl _, fun _ _ => rfl⟩
    have hDz : W4.drew.heap.size = W4.heap.size := rfl
    generalize W4.drew = D at hS0 hDz ⊢
    have HDW := Lib.hid hS0
    have HDZ := Lib.hid hDz
    clear hDz
    obtain ⟨P, hPd⟩ : ∃ P : Nat → Prop, P = (· < D.heap.size) := ⟨_, rfl⟩
    have HP : Hid (∀ b, P b → b < D.heap.size) := fun b hb => by rw [hPd] at hb; exact hb
    have HTL : Hid (TRow P D A l.length cap l) := by rw [hPd]; exact HLR.out _ (H4.out.on (hS0.mono (Nat.le_refl _))).below
    have HTY : Hid (TmAt P D y (.agg #[(.int .i8 ky), (.int .i64 ny), (.string sy), (.string ty), (.slice Ay Ly.length capy)])) := by rw [hPd]; exact HY.out _ (H4.out.on (hS0.mono (Nat.le_refl _))).below
    have HY4 : Hid (W4.heap[w.heap.size]? = some (.cells #[(.int .i8 ky), (.int .i64 ny), (.string sy), (.string ty), (.slice Ay Ly.length capy)] 25 (0, 0))) := H4.out.bx
    have h : St D D P [] (.slice none 0 0) [] := St.start _ _
    have HSD : Hid (∀ V, Below D.heap.size D V → Spans V) := fun V hV => HSP.out V ((H4.out.on hS0).below.trans (hV.mono ((H4.out.on hS0).below.size)))
    clear hPd
    refine wpAnyH_take (i := 1) (oi := ⟨some 33, _, _, _, _, _⟩) (v := ?_) rfl (by kernel_rfl) (by kernel_rfl) (by kernel_rfl) (fun _ _ _ h => h) (Or.inl ⟨by kernel_rfl, ?_⟩) (by assumption) ?_; rotate_left; (intro w hSw; (try dsimp only at hSw); go_simp; first | done | with_reducible rfl); (try simp only [Act.put, List.setIfInBounds_toArray, List.set_cons_zero, List.set_cons_succ])
    refine wpAnyH_take (i := 3) (oi := ⟨some 35, _, _, _, _, _⟩) (v := ?_) rfl (by kernel_rfl) (by kernel_rfl) (by kernel_rfl) (fun _ _ _ h => h) (Or.inl ⟨by kernel_rfl, ?_⟩) (by assumption) ?_; rotate_left; (intro w hSw; (try dsimp only at hSw); have hy0 := (hSw.block _ (heap_lt HY4.out)).trans HY4.out; have z0 := cell_of_row (i := 0) hy0 rfl; have z1 := cell_of_row (i := 1) hy0 rfl; have z2 := cell_of_row (i := 2) hy0 rfl; have z3 := cell_of_row (i := 3) hy0 rfl; have z4 := cell_of_row (i := 4) hy0 rfl; go_simp; first | done | with_reducible rfl); (try simp only [Act.put, List.setIfInBounds_toArray, List.set_cons_zero, List.set_cons_succ])
    refine wpAnyH_ready (rs := [0, 4, 10]) (by kernel_rfl) (by simp) ?_
    refine AllReadyH.cons (o := ⟨some 32, _, _, _, _, _⟩) rfl (fun K hK => ?_) (AllReadyH.cons (o := ⟨some 36, _, _, _, _, _⟩) rfl (fun K hK => ?_) (AllReadyH.cons (o := ⟨some 9, _, _, _, _, _⟩) rfl (fun K hK => ?_) AllReadyH.nil))
    · rw [if_pos (by rfl)]
      go_simp
      have h1 := h.fresh HP.out
      have hS1 := hS0.alloc hS0.size (.cells #[] 25)
      obtain ⟨g0, hg⟩ : ∃ g, g = D.heap.size := ⟨_, rfl⟩
      rw [← hg] at h1
      refine hK.out _ _ hS1 (fun hSn => ?_)
      clear hK K; (try simp only [Act.put, List.setIfInBounds_toArray, List.set_cons_zero, List.set_cons_succ])
      rw [← hg]
      clear hg hSn
      generalize D.alloc (.cells #[] 25) = X1 at h1 hS1 ⊢
      clear h hS0
      have h := h1
      have hS0 := hS1
      clear h1 hS1
      refine wpAnyH_ready (rs := [2, 4, 10]) (by kernel_rfl) (by simp) ?_
      refine AllReadyH.cons (o := ⟨some 34, _, _, _, _, _⟩) rfl (fun K hK => ?_) (AllReadyH.cons (o := ⟨some 36, _, _, _, _, _⟩) rfl (fun K hK => ?_) (AllReadyH.cons (o := ⟨some 9, _, _, _, _, _⟩) rfl (fun K hK => ?_) AllReadyH.nil))
      · rw [if_pos (by rfl)]
        have hb0 := h.below
        refine wp_own_terms (.tmp 32) (.tmp 33) rfl h.own hb0.size (h.apart HP.out) rfl rfl (HTL.out.keep (fun b hb => hb0.block b (HP.out b hb)) (fun _ h => h)) (by have := HLL.out; show 0 + _ ≤ _; omega) ?_
        intro v1 X2 O hg hb
        rw [List.nil_append] at O
        have h1 := h.app O hg hb
        have hS1 : Below W4.heap.size W4 X2 := HDW.out.trans (h1.below.mono (by rw [HDZ.out]; exact Nat.le_refl _))
        refine hK.out _ _ hS1 (fun hSn => ?_)
        clear hK K hSn O hg hb hb0; (try simp only [Act.put, List.setIfInBounds_toArray, List.set_cons_zero, List.set_cons_succ])
        clear h hS0
        have h := h1
        have hS0 := hS1
        clear h1 hS1
        refine wpAnyH_ready (rs := [4, 10]) (by kernel_rfl) (by simp) ?_
        refine AllReadyH.cons (o := ⟨some 36, _, _, _, _, _⟩) rfl (fun K hK => ?_) (AllReadyH.cons (o := ⟨some 9, _, _, _, _, _⟩) rfl (fun K hK => ?_) AllReadyH.nil)
        · rw [if_pos (by rfl)]
          go_simp
          have h1 := h.alloc HP.out (.cells #[(.int .i8 ky), (.int .i64 ny), (.string sy), (.string ty), (.slice Ay Ly.length capy)] 25)
          have hS1 := hS0.alloc hS0.size (.cells #[(.int .i8 ky), (.int .i64 ny), (.string sy), (.string ty), (.slice Ay Ly.length capy)] 25)
          obtain ⟨g4, hg⟩ : ∃ g, g = X2.heap.size := ⟨_, rfl⟩
          rw [← hg] at h1
          refine hK.out _ _ hS1 (fun hSn => ?_)
          clear hK K; (try simp only [Act.put, List.setIfInBounds_toArray, List.set_cons_zero, List.set_cons_succ])
          rw [← hg]
          clear hg hSn
          generalize X2.alloc (.cells #[(.int .i8 ky), (.int .i64 ny), (.string sy), (.string ty), (.slice Ay Ly.length capy)] 25) = X3 at h1 hS1 ⊢
          clear h hS0
          have h := h1
          have hS0 := hS1
          clear h1 hS1
          refine wpAnyH_ready (rs := [5, 10]) (by kernel_rfl) (by simp) ?_
          refine AllReadyH.cons (o := ⟨some 37, _, _, _, _, _⟩) rfl (fun K hK => ?_) (AllReadyH.cons (o := ⟨some 9, _, _, _, _, _⟩) rfl (fun K hK => ?_) AllReadyH.nil)
          · rw [if_pos (by rfl)]
            have hb0 := h.below
            refine wp_own_term (.tmp 34) (.tmp 36) rfl h.own hb0.size (h.apart HP.out) rfl g4 rfl (h.kept (g4, .cells #[(.int .i8 ky), (.int .i64 ny), (.string sy), (.string ty), (.slice Ay Ly.length capy)] 25) (by simp)).2.1 (HTY.out.keep (fun b hb => hb0.block b (HP.out b hb)) (fun _ h => h)) (by have := HLL.out; omega) ?_
            intro v2 X4 O hg hb
            have h1 := h.app O hg (hb.imp Eq.symm id)
            obtain ⟨A5, cap5, rfl⟩ := O.shape
            rw [← HN5.out] at h1
            have hS1 : Below W4.heap.size W4 X4 := HDW.out.trans (h1.below.mono (by rw [HDZ.out]; exact Nat.le_refl _))
            refine hK.out _ _ hS1 (fun hSn => ?_)
            clear hK K hSn O hg hb hb0; (try simp only [Act.put, List.setIfInBounds_toArray, List.set_cons_zero, List.set_cons_succ])
            rw [← HN5.out]
            clear h hS0
            have h := h1
            have hS0 := hS1
            clear h1 hS1
            refine wpAnyH_ready (rs := [6, 10]) (by kernel_rfl) (by simp) ?_
            refine AllReadyH.cons (o := ⟨some 38, _, _, _, _, _⟩) rfl (fun K hK => ?_) (AllReadyH.cons (o := ⟨some 9, _, _, _, _, _⟩) rfl (fun K hK => ?_) AllReadyH.nil)
            · rw [if_pos (by rfl)]
              go_simp
              have hb0 := h.below
              obtain ⟨Q5, hQ5⟩ : ∃ Q5 : Nat → Prop, Q5 = fun b => P b ∨ (Value.slice A5 n5 cap5).ownBlock = some b := ⟨_, rfl⟩
              have hRow : TRow Q5 X4 A5 n5 cap5 (l ++ [y]) := by rw [hQ5]; exact h.own.trow_own
              have hQs : ∀ b, Q5 b → b < X4.heap.size := fun b hb => by
                rw [hQ5] at hb
                rcases hb with hb | hb
                · have h1 := HP.out b hb; have h2 := hb0.size
                  omega
                · exact (h.own.own b hb).2
              refine (Tuple_any Q5 (l ++ [y]) A5 n5 cap5 _ (fun b hb => hQs b hb) hRow (HSD.out _ hb0) (by have := HLL.out; simp; omega)).mono ?_
              rintro e V6 ⟨bv, rfl, ⟨kb, nb, sb, tb, Ab, Lb, capb, rfl⟩, hTB, b6⟩
              have h1 := h.under HP.out b6
              have hS1 : Below W4.heap.size W4 V6 := hS0.trans (b6.mono hS0.size)
              refine hK.out _ _ hS1 (fun hSn => ?_)
              clear hK K hSn; (try simp only [Act.put, List.setIfInBounds_toArray, List.set_cons_zero, List.set_cons_succ])
              obtain ⟨Q6, hQ6⟩ : ∃ Q6 : Nat → Prop, Q6 = fun b => Q5 b ∨ (X4.heap.size ≤ b ∧ b < V6.heap.size) := ⟨_, rfl⟩
              have HTB : Hid (fitN 1 (l ++ [y]) = 0 → TmAt Q6 V6 (tupT (l ++ [y])) _) := fun h0 => by rw [hQ6]; exact hTB h0
              have HQ6 : Hid (∀ b, Q6 b → b < V6.heap.size) := fun b hb => by
                rw [hQ6] at hb
                have hz := b6.size
                rcases hb with hb | hb
                · have h2 := hQs b hb; omega
                · omega
              have HU : Hid (Below V6.heap.size V6 V6) := Below.refl _ _
              clear hTB b6 hb0 hQ5 hRow hQs hQ6 h hS0
              have h := h1
              have hS0 := hS1
              clear h1 hS1
              refine wpAnyH_take (i := 7) (oi := ⟨some 31, _, _, _, _, _⟩) (v := ?_) rfl (by kernel_rfl) (by kernel_rfl) (by kernel_rfl) (fun _ _ _ h => h) (Or.inl ⟨by kernel_rfl, ?_⟩) (by assumption) ?_; rotate_left; (intro w hSw; (try dsimp only at hSw); go_simp; first | done | with_reducible rfl); (try simp only [Act.put, List.setIfInBounds_toArray, List.set_cons_zero, List.set_cons_succ])
              refine wpAnyH_take (i := 8) (oi := ⟨some 39, _, _, _, _, _⟩) (v := ?_) rfl (by kernel_rfl) (by kernel_rfl) (by kernel_rfl) (fun _ _ _ h => h) (Or.inl ⟨by kernel_rfl, ?_⟩) (by assumption) ?_; rotate_left; (intro w hSw; (try dsimp only at hSw); go_simp; first | done | with_reducible rfl); (try simp only [Act.put, List.setIfInBounds_toArray, List.set_cons_zero, List.set_cons_succ])
              refine wpAnyH_take (i := 9) (oi := ⟨some 40, _, _, _, _, _⟩) (v := ?_) rfl (by kernel_rfl) (by kernel_rfl) (by kernel_rfl) (fun _ _ _ h => h) (Or.inl ⟨by kernel_rfl, ?_⟩) (by assumption) ?_; rotate_left; (intro w hSw; (try dsimp only at hSw); go_simp; first | done | with_reducible rfl); (try simp only [Act.put, List.setIfInBounds_toArray, List.set_cons_zero, List.set_cons_succ])
              refine wpAnyH_ready (rs := [10]) (by kernel_rfl) (by simp) ?_
              refine AllReadyH.cons (o := ⟨some 9, _, _, _, _, _⟩) rfl (fun K hK => ?_) AllReadyH.nil
              · rw [if_pos (by rfl)]
                go_simp
                have h1 := h.alloc HP.out (.cells #[.int .i8 0, .int .i64 0, .string ⟨#[]⟩, .string ⟨#[]⟩, .slice none 0 0] 25)
                have hS1 := hS0.alloc hS0.size (.cells #[.int .i8 0, .int .i64 0, .string ⟨#[]⟩, .string ⟨#[]⟩, .slice none 0 0] 25)
                have hU1 := HU.out.alloc HU.out.size (.cells #[.int .i8 0, .int .i64 0, .string ⟨#[]⟩, .string ⟨#[]⟩, .slice none 0 0] 25)
                obtain ⟨g10, hg⟩ : ∃ g, g = V6.heap.size := ⟨_, rfl⟩
                rw [← hg] at h1
                have hqs : ∀ b, Q6 b → b < V6.heap.size ∧ b ≠ g10 := fun b hb => ⟨HQ6.out b hb, by have := HQ6.out b hb; have := HU.out.size; omega⟩
                refine hK.out _ _ hS1 (fun hSn => ?_)
                clear hK K; (try simp only [Act.put, List.setIfInBounds_toArray, List.set_cons_zero, List.set_cons_succ])
                rw [← hg]
                clear hg hSn
                generalize V6.alloc (.cells #[.int .i8 0, .int .i64 0, .string ⟨#[]⟩, .string ⟨#[]⟩, .slice none 0 0] 25) = X6 at h1 hS1 hU1 ⊢
                clear h hS0
                have h := h1
                have hS0 := hS1
                clear h1 hS1
                clear HU HQ6
                have HU := Lib.hid hU1
                have HQ6 := Lib.hid hqs
                clear hU1 hqs
                obtain ⟨gge, gz, -⟩ := h.kept (g10, .cells #[.int .i8 0, .int .i64 0, .string ⟨#[]⟩, .string ⟨#[]⟩, .slice none 0 0] 25) (by simp)
                have r0 : X6.cell? ⟨g10, 0, none⟩ = some (.int .i8 0) := cell_of_row gz rfl
                have r1 : X6.cell? ⟨g10, 1, none⟩ = some (.int .i64 0) := cell_of_row gz rfl
                have r2 : X6.cell? ⟨g10, 2, none⟩ = some (.string ⟨#[]⟩) := cell_of_row gz rfl
                have r3 : X6.cell? ⟨g10, 3, none⟩ = some (.string ⟨#[]⟩) := cell_of_row gz rfl
                have r4 : X6.cell? ⟨g10, 4, none⟩ = some (.slice none 0 0) := cell_of_row gz rfl
                have f0 : X6.frozen? ⟨g10, 0, none⟩ = false := free_of_row gz
                have f1 : X6.frozen? ⟨g10, 1, none⟩ = false := free_of_row gz
                have f2 : X6.frozen? ⟨g10, 2, none⟩ = false := free_of_row gz
                have f3 : X6.frozen? ⟨g10, 3, none⟩ = false := free_of_row gz
                have f4 : X6.frozen? ⟨g10, 4, none⟩ = false := free_of_row gz
                obtain ⟨s5, m5⟩ := set_five (.int .i8 kb) (.int .i64 nb) (.string sb) (.string tb) (.slice Ab (List.length (α := Tm) Lb) capb) gz
                have hS9 := hS0.trans (m5.below hS0.size (fun k (e : k = g10) => by have h1 : D.heap.size ≤ g10 := gge; have := HDZ.out; omega))
                have HS5 := Lib.hid s5
                have HM5 := Lib.hid m5
                clear s5 m5
                refine wpAnyH_ready (rs := [11]) (by kernel_rfl) (by simp) ?_
                refine AllReadyH.cons (o := ⟨none, _, _, _, _, _⟩) rfl (fun K hK => ?_) AllReadyH.nil
                rw [if_pos (by rfl)]
                go_simp
                refine hK.out _ _ hS9 (fun hSn => ?_)
                clear hK K; (try simp only [Act.put, List.setIfInBounds_toArray, List.set_cons_zero, List.set_cons_succ])
                refine wpAnyH_take (i := 12) (oi := ⟨some 10, _, _, _, _, _⟩) (v := ?_) rfl (by kernel_rfl) (by kernel_rfl) (by kernel_rfl) (fun _ _ _ h => h) (Or.inl ⟨by kernel_rfl, ?_⟩) (by assumption) ?_; rotate_left; (intro w hSw; (try dsimp only at hSw); go_simp; first | done | with_reducible rfl); (try simp only [Act.put, List.setIfInBounds_toArray, List.set_cons_zero, List.set_cons_succ])
                refine wpAnyH_done (by kernel_rfl) ?_ _
                clear r0 r1 r2 r3 r4 f0 f1 f2 f3 f4 gz
                have hQ := HQ6.out
                have HU6 := HU.out
                have hgl : g10 < X6.heap.size := by have := heap_lt HS5.out; simpa [World.setCell] using this
                go_wp2_with fail
                go_meet
                refine ⟨g10, _, rfl, rfl, HS5.out, ⟨kb, nb, sb, tb, Ab, Lb, capb, rfl⟩, fun h0 => (HTB.out h0).keep (fun b hb => ?_) (fun b hb => ?_), hS9⟩
                · have := (hQ b hb).1; have h2 := HU6.size
                  exact (HM5.out.block b (by omega) (by have := (hQ b hb).2; omega)).trans (HU6.block b (hQ b hb).1)
                · have h1 := HM5.out.size; have h2 := HU6.size; have h3 := hQ b hb
                  exact ⟨by omega, by omega⟩
            · rw [if_pos (by rfl)]
              go_simp
              have h1 := h.alloc HP.out (.cells #[.int .i8 0, .int .i64 0, .string ⟨#[]⟩, .string ⟨#[]⟩, .slice none 0 0] 25)
              have hS1 := hS0.alloc hS0.size (.cells #[.int .i8 0, .int .i64 0, .string ⟨#[]⟩, .string ⟨#[]⟩, .slice none 0 0] 25)
              obtain ⟨g10, hg⟩ : ∃ g, g = X4.heap.size := ⟨_, rfl⟩
              rw [← hg] at h1
              refine hK.out _ _ hS1 (fun hSn => ?_)
              clear hK K; (try simp only [Act.put, List.setIfInBounds_toArray, List.set_cons_zero, List.set_cons_succ])
              rw [← hg]
              clear hg hSn
              generalize X4.alloc (.cells #[.int .i8 0, .int .i64 0, .string ⟨#[]⟩, .string ⟨#[]⟩, .slice none 0 0] 25) = X7 at h1 hS1 ⊢
              clear h hS0
              have h := h1
              have hS0 := hS1
              clear h1 hS1
              refine wpAnyH_ready (rs := [6]) (by kernel_rfl) (by simp) ?_
              refine AllReadyH.cons (o := ⟨some 38, _, _, _, _, _⟩) rfl (fun K hK => ?_) AllReadyH.nil
              · rw [if_pos (by rfl)]
                go_simp
                have hb0 := h.below
                obtain ⟨Q5, hQ5⟩ : ∃ Q5 : Nat → Prop, Q5 = fun b => P b ∨ (Value.slice A5 n5 cap5).ownBlock = some b := ⟨_, rfl⟩
                have hRow : TRow Q5 X7 A5 n5 cap5 (l ++ [y]) := by rw [hQ5]; exact h.own.trow_own
                have hQs : ∀ b, Q5 b → b < X7.heap.size ∧ b ≠ g10 := fun b hb => by
                  rw [hQ5] at hb
                  rcases hb with hb | hb
                  · have h1 := HP.out b hb; have h2 := hb0.size
                    have h3 : D.heap.size ≤ g10 := (h.kept (g10, .cells #[.int .i8 0, .int .i64 0, .string ⟨#[]⟩, .string ⟨#[]⟩, .slice none 0 0] 25) (by simp)).1
                    exact ⟨by omega, by omega⟩
                  · exact ⟨(h.own.own b hb).2, fun e => (h.kept (g10, .cells #[.int .i8 0, .int .i64 0, .string ⟨#[]⟩, .string ⟨#[]⟩, .slice none 0 0] 25) (by simp)).2.2 (by rw [← e]; exact hb)⟩
                have hgl : g10 < X7.heap.size := heap_lt (h.kept (g10, .cells #[.int .i8 0, .int .i64 0, .string ⟨#[]⟩, .string ⟨#[]⟩, .slice none 0 0] 25) (by simp)).2.1
                refine (Tuple_any Q5 (l ++ [y]) A5 n5 cap5 _ (fun b hb => (hQs b hb).1) hRow (HSD.out _ hb0) (by have := HLL.out; simp; omega)).mono ?_
                rintro e V6 ⟨bv, rfl, ⟨kb, nb, sb, tb, Ab, Lb, capb, rfl⟩, hTB, b6⟩
                have h1 := h.under HP.out b6
                have hS1 : Below W4.heap.size W4 V6 := hS0.trans (b6.mono hS0.size)
                refine hK.out _ _ hS1 (fun hSn => ?_)
                clear hK K hSn; (try simp only [Act.put, List.setIfInBounds_toArray, List.set_cons_zero, List.set_cons_succ])
                obtain ⟨Q6, hQ6⟩ : ∃ Q6 : Nat → Prop, Q6 = fun b => Q5 b ∨ (X7.heap.size ≤ b ∧ b < V6.heap.size) := ⟨_, rfl⟩
                have HTB : Hid (fitN 1 (l ++ [y]) = 0 → TmAt Q6 V6 (tupT (l ++ [y])) _) := fun h0 => by rw [hQ6]; exact hTB h0
                have HQ6 : Hid (∀ b, Q6 b → b < V6.heap.size ∧ b ≠ g10) := fun b hb => by
                  rw [hQ6] at hb
                  have hz := b6.size
                  rcases hb with hb | hb
                  · have h2 := hQs b hb; exact ⟨by omega, by omega⟩
                  · exact ⟨by omega, by omega⟩
                have HU : Hid (Below V6.heap.size V6 V6) := Below.refl _ _
                clear hTB b6 hb0 hQ5 hRow hQs hQ6 h hS0 hgl
                have h := h1
                have hS0 := hS1
                clear h1 hS1
                refine wpAnyH_take (i := 7) (oi := ⟨some 31, _, _, _, _, _⟩) (v := ?_) rfl (by kernel_rfl) (by kernel_rfl) (by kernel_rfl) (fun _ _ _ h => h) (Or.inl ⟨by kernel_rfl, ?_⟩) (by assumption) ?_; rotate_left; (intro w hSw; (try dsimp only at hSw); go_simp; first | done | with_reducible rfl); (try simp only [Act.put, List.setIfInBounds_toArray, List.set_cons_zero, List.set_cons_succ])
                refine wpAnyH_take (i := 8) (oi := ⟨some 39, _, _, _, _, _⟩) (v := ?_) rfl (by kernel_rfl) (by kernel_rfl) (by kernel_rfl) (fun _ _ _ h => h) (Or.inl ⟨by kernel_rfl, ?_⟩) (by assumption) ?_; rotate_left; (intro w hSw; (try dsimp only at hSw); go_simp; first | done | with_reducible rfl); (try simp only [Act.put, List.setIfInBounds_toArray, List.set_cons_zero, List.set_cons_succ])
                refine wpAnyH_take (i := 9) (oi := ⟨some 40, _, _, _, _, _⟩) (v := ?_) rfl (by kernel_rfl) (by kernel_rfl) (by kernel_rfl) (fun _ _ _ h => h) (Or.inl ⟨by kernel_rfl, ?_⟩) (by assumption) ?_; rotate_left; (intro w hSw; (try dsimp only at hSw); go_simp; first | done | with_reducible rfl); (try simp only [Act.put, List.setIfInBounds_toArray, List.set_cons_zero, List.set_cons_succ])
                obtain ⟨gge, gz, -⟩ := h.kept (g10, .cells #[.int .i8 0, .int .i64 0, .string ⟨#[]⟩, .string ⟨#[]⟩, .slice none 0 0] 25) (by simp)
                have r0 : V6.cell? ⟨g10, 0, none⟩ = some (.int .i8 0) := cell_of_row gz rfl
                have r1 : V6.cell? ⟨g10, 1, none⟩ = some (.int .i64 0) := cell_of_row gz rfl
                have r2 : V6.cell? ⟨g10, 2, none⟩ = some (.string ⟨#[]⟩) := cell_of_row gz rfl
                have r3 : V6.cell? ⟨g10, 3, none⟩ = some (.string ⟨#[]⟩) := cell_of_row gz rfl
                have r4 : V6.cell? ⟨g10, 4, none⟩ = some (.slice none 0 0) := cell_of_row gz rfl
                have f0 : V6.frozen? ⟨g10, 0, none⟩ = false := free_of_row gz
                have f1 : V6.frozen? ⟨g10, 1, none⟩ = false := free_of_row gz
                have f2 : V6.frozen? ⟨g10, 2, none⟩ = false := free_of_row gz
                have f3 : V6.frozen? ⟨g10, 3, none⟩ = false := free_of_row gz
                have f4 : V6.frozen? ⟨g10, 4, none⟩ = false := free_of_row gz
                obtain ⟨s5, m5⟩ := set_five (.int .i8 kb) (.int .i64 nb) (.string sb) (.string tb) (.slice Ab (List.length (α := Tm) Lb) capb) gz
                have hS9 := hS0.trans (m5.below hS0.size (fun k (e : k = g10) => by have h1 : D.heap.size ≤ g10 := gge; have := HDZ.out; omega))
                have HS5 := Lib.hid s5
                have HM5 := Lib.hid m5
                clear s5 m5
                refine wpAnyH_ready (rs := [11]) (by kernel_rfl) (by simp) ?_
                refine AllReadyH.cons (o := ⟨none, _, _, _, _, _⟩) rfl (fun K hK => ?_) AllReadyH.nil
                rw [if_pos (by rfl)]
                go_simp
                refine hK.out _ _ hS9 (fun hSn => ?_)
                clear hK K; (try simp only [Act.put, List.setIfInBounds_toArray, List.set_cons_zero, List.set_cons_succ])
                refine wpAnyH_take (i := 12) (oi := ⟨some 10, _, _, _, _, _⟩) (v := ?_) rfl (by kernel_rfl) (by kernel_rfl) (by kernel_rfl) (fun _ _ _ h => h) (Or.inl ⟨by kernel_rfl, ?_⟩) (by assumption) ?_; rotate_left; (intro w hSw; (try dsimp only at hSw); go_simp; first | done | with_reducible rfl); (try simp only [Act.put, List.setIfInBounds_toArray, List.set_cons_zero, List.set_cons_succ])
                refine wpAnyH_done (by kernel_rfl) ?_ _
                clear r0 r1 r2 r3 r4 f0 f1 f2 f3 f4 gz
                have hQ := HQ6.out
                have HU6 := HU.out
                have hgl : g10 < V6.heap.size := by have := heap_lt HS5.out; simpa [World.setCell] using this
                go_wp2_with fail
                go_meet
                refine ⟨g10, _, rfl, rfl, HS5.out, ⟨kb, nb, sb, tb, Ab, Lb, capb, rfl⟩, fun h0 => (HTB.out h0).keep (fun b hb => ?_) (fun b hb => ?_), hS9⟩
                · have := (hQ b hb).1; have h2 := HU6.size
                  exact (HM5.out.block b (by omega) (by have := (hQ b hb).2; omega)).trans (HU6.block b (hQ b hb).1)
                · have h1 := HM5.out.size; have h2 := HU6.size; have h3 := hQ b hb
                  exact ⟨by omega, by omega⟩
          · rw [if_pos (by rfl)]
            go_simp
            have h1 := h.alloc HP.out (.cells #[.int .i8 0, .int .i64 0, .string ⟨#[]⟩, .string ⟨#[]⟩, .slice none 0 0] 25)
            have hS1 := hS0.alloc hS0.size (.cells #[.int .i8 0, .int .i64 0, .string ⟨#[]⟩, .string ⟨#[]⟩, .slice none 0 0] 25)
            obtain ⟨g10, hg⟩ : ∃ g, g = X3.heap.size := ⟨_, rfl⟩
            rw [← hg] at h1
            refine hK.out _ _ hS1 (fun hSn => ?_)
            clear hK K; (try simp only [Act.put, List.setIfInBounds_toArray, List.set_cons_zero, List.set_cons_succ])
            rw [← hg]
            clear hg hSn
            generalize X3.alloc (.cells #[.int .i8 0, .int .i64 0, .string ⟨#[]⟩, .string ⟨#[]⟩, .slice none 0 0] 25) = X9 at h1 hS1 ⊢
            clear h hS0
            have h := h1
            have hS0 := hS1
            clear h1 hS1
            refine wpAnyH_ready (rs := [5]) (by kernel_rfl) (by simp) ?_
            refine AllReadyH.cons (o := ⟨some 37, _, _, _, _, _⟩) rfl (fun K hK => ?_) AllReadyH.nil
            · rw [if_pos (by rfl)]
              have hb0 := h.below
              refine wp_own_term (.tmp 34) (.tmp 36) rfl h.own hb0.size (h.apart HP.out) rfl g4 rfl (h.kept (g4, .cells #[(.int .i8 ky), (.int .i64 ny), (.string sy), (.string ty), (.slice Ay Ly.length capy)] 25) (by simp)).2.1 (HTY.out.keep (fun b hb => hb0.block b (HP.out b hb)) (fun _ h => h)) (by have := HLL.out; omega) ?_
              intro v2 X10 O hg hb
              have h1 := h.app O hg (hb.imp Eq.symm id)
              obtain ⟨A5, cap5, rfl⟩ := O.shape
              rw [← HN5.out] at h1
              have hS1 : Below W4.heap.size W4 X10 := HDW.out.trans (h1.below.mono (by rw [HDZ.out]; exact Nat.le_refl _))
              refine hK.out _ _ hS1 (fun hSn => ?_)
              clear hK K hSn O hg hb hb0; (try simp only [Act.put, List.setIfInBounds_toArray, List.set_cons_zero, List.set_cons_succ])
              rw [← HN5.out]
              clear h hS0
              have h := h1
              have hS0 := hS1
              clear h1 hS1
              refine wpAnyH_ready (rs := [6]) (by kernel_rfl) (by simp) ?_
              refine AllReadyH.cons (o := ⟨some 38, _, _, _, _, _⟩) rfl (fun K hK => ?_) AllReadyH.nil
              · rw [if_pos (by rfl)]
                go_simp
                have hb0 := h.below
                obtain ⟨Q5, hQ5⟩ : ∃ Q5 : Nat → Prop, Q5 = fun b => P b ∨ (Value.slice A5 n5 cap5).ownBlock = some b := ⟨_, rfl⟩
                have hRow : TRow Q5 X10 A5 n5 cap5 (l ++ [y]) := by rw [hQ5]; exact h.own.trow_own
                have hQs : ∀ b, Q5 b → b < X10.heap.size ∧ b ≠ g10 := fun b hb => by
                  rw [hQ5] at hb
                  rcases hb with hb | hb
                  · have h1 := HP.out b hb; have h2 := hb0.size
                    have h3 : D.heap.size ≤ g10 := (h.kept (g10, .cells #[.int .i8 0, .int .i64 0, .string ⟨#[]⟩, .string ⟨#[]⟩, .slice none 0 0] 25) (by simp)).1
                    exact ⟨by omega, by omega⟩
                  · exact ⟨(h.own.own b hb).2, fun e => (h.kept (g10, .cells #[.int .i8 0, .int .i64 0, .string ⟨#[]⟩, .string ⟨#[]⟩, .slice none 0 0] 25) (by simp)).2.2 (by rw [← e]; exact hb)⟩
                have hgl : g10 < X10.heap.size := heap_lt (h.kept (g10, .cells #[.int .i8 0, .int .i64 0, .string ⟨#[]⟩, .string ⟨#[]⟩, .slice none 0 0] 25) (by simp)).2.1
                refine (Tuple_any Q5 (l ++ [y]) A5 n5 cap5 _ (fun b hb => (hQs b hb).1) hRow (HSD.out _ hb0) (by have := HLL.out; simp; omega)).mono ?_
                rintro e V6 ⟨bv, rfl, ⟨kb, nb, sb, tb, Ab, Lb, capb, rfl⟩, hTB, b6⟩
                have h1 := h.under HP.out b6
                have hS1 : Below W4.heap.size W4 V6 := hS0.trans (b6.mono hS0.size)
                refine hK.out _ _ hS1 (fun hSn => ?_)
                clear hK K hSn; (try simp only [Act.put, List.setIfInBounds_toArray, List.set_cons_zero, List.set_cons_succ])
                obtain ⟨Q6, hQ6⟩ : ∃ Q6 : Nat → Prop, Q6 = fun b => Q5 b ∨ (X10.heap.size ≤ b ∧ b < V6.heap.size) := ⟨_, rfl⟩
                have HTB : Hid (fitN 1 (l ++ [y]) = 0 → TmAt Q6 V6 (tupT (l ++ [y])) _) := fun h0 => by rw [hQ6]; exact hTB h0
                have HQ6 : Hid (∀ b, Q6 b → b < V6.heap.size ∧ b ≠ g10) := fun b hb => by
                  rw [hQ6] at hb
                  have hz := b6.size
                  rcases hb with hb | hb
                  · have h2 := hQs b hb; exact ⟨by omega, by omega⟩
                  · exact ⟨by omega, by omega⟩
                have HU : Hid (Below V6.heap.size V6 V6) := Below.refl _ _
                clear hTB b6 hb0 hQ5 hRow hQs hQ6 h hS0 hgl
                have h := h1
                have hS0 := hS1
                clear h1 hS1
                refine wpAnyH_take (i := 7) (oi := ⟨some 31, _, _, _, _, _⟩) (v := ?_) rfl (by kernel_rfl) (by kernel_rfl) (by kernel_rfl) (fun _ _ _ h => h) (Or.inl ⟨by kernel_rfl, ?_⟩) (by assumption) ?_; rotate_left; (intro w hSw; (try dsimp only at hSw); go_simp; first | done | with_reducible rfl); (try simp only [Act.put, List.setIfInBounds_toArray, List.set_cons_zero, List.set_cons_succ])
                refine wpAnyH_take (i := 8) (oi := ⟨some 39, _, _, _, _, _⟩) (v := ?_) rfl (by kernel_rfl) (by kernel_rfl) (by kernel_rfl) (fun _ _ _ h => h) (Or.inl ⟨by kernel_rfl, ?_⟩) (by assumption) ?_; rotate_left; (intro w hSw; (try dsimp only at hSw); go_simp; first | done | with_reducible rfl); (try simp only [Act.put, List.setIfInBounds_toArray, List.set_cons_zero, List.set_cons_succ])
                refine wpAnyH_take (i := 9) (oi := ⟨some 40, _, _, _, _, _⟩) (v := ?_) rfl (by kernel_rfl) (by kernel_rfl) (by kernel_rfl) (fun _ _ _ h => h) (Or.inl ⟨by kernel_rfl, ?_⟩) (by assumption) ?_; rotate_left; (intro w hSw; (try dsimp only at hSw); go_simp; first | done | with_reducible rfl); (try simp only [Act.put, List.setIfInBounds_toArray, List.set_cons_zero, List.set_cons_succ])
                obtain ⟨gge, gz, -⟩ := h.kept (g10, .cells #[.int .i8 0, .int .i64 0, .string ⟨#[]⟩, .string ⟨#[]⟩, .slice none 0 0] 25) (by simp)
                have r0 : V6.cell? ⟨g10, 0, none⟩ = some (.int .i8 0) := cell_of_row gz rfl
                have r1 : V6.cell? ⟨g10, 1, none⟩ = some (.int .i64 0) := cell_of_row gz rfl
                have r2 : V6.cell? ⟨g10, 2, none⟩ = some (.string ⟨#[]⟩) := cell_of_row gz rfl
                have r3 : V6.cell? ⟨g10, 3, none⟩ = some (.string ⟨#[]⟩) := cell_of_row gz rfl
                have r4 : V6.cell? ⟨g10, 4, none⟩ = some (.slice none 0 0) := cell_of_row gz rfl
                have f0 : V6.frozen? ⟨g10, 0, none⟩ = false := free_of_row gz
                have f1 : V6.frozen? ⟨g10, 1, none⟩ = false := free_of_row gz
                have f2 : V6.frozen? ⟨g10, 2, none⟩ = false := free_of_row gz
                have f3 : V6.frozen? ⟨g10, 3, none⟩ = false := free_of_row gz
                have f4 : V6.frozen? ⟨g10, 4, none⟩ = false := free_of_row gz
                obtain ⟨s5, m5⟩ := set_five (.int .i8 kb) (.int .i64 nb) (.string sb) (.string tb) (.slice Ab (List.length (α := Tm) Lb) capb) gz
                have hS9 := hS0.trans (m5.below hS0.size (fun k (e : k = g10) => by have h1 : D.heap.size ≤ g10 := gge; have := HDZ.out; omega))
                have HS5 := Lib.hid s5
                have HM5 := Lib.hid m5
                clear s5 m5
                refine wpAnyH_ready (rs := [11]) (by kernel_rfl) (by simp) ?_
                refine AllReadyH.cons (o := ⟨none, _, _, _, _, _⟩) rfl (fun K hK => ?_) AllReadyH.nil
                rw [if_pos (by rfl)]
                go_simp
                refine hK.out _ _ hS9 (fun hSn => ?_)
                clear hK K; (try simp only [Act.put, List.setIfInBounds_toArray, List.set_cons_zero, List.set_cons_succ])
                refine wpAnyH_take (i := 12) (oi := ⟨some 10, _, _, _, _, _⟩) (v := ?_) rfl (by kernel_rfl) (by kernel_rfl) (by kernel_rfl) (fun _ _ _ h => h) (Or.inl ⟨by kernel_rfl, ?_⟩) (by assumption) ?_; rotate_left; (intro w hSw; (try dsimp only at hSw); go_simp; first | done | with_reducible rfl); (try simp only [Act.put, List.setIfInBounds_toArray, List.set_cons_zero, List.set_cons_succ])
                refine wpAnyH_done (by kernel_rfl) ?_ _
                clear r0 r1 r2 r3 r4 f0 f1 f2 f3 f4 gz
                have hQ := HQ6.out
                have HU6 := HU.out
                have hgl : g10 < V6.heap.size := by have := heap_lt HS5.out; simpa [World.setCell] using this
                go_wp2_with fail
                go_meet
                refine ⟨g10, _, rfl, rfl, HS5.out, ⟨kb, nb, sb, tb, Ab, Lb, capb, rfl⟩, fun h0 => (HTB.out h0).keep (fun b hb => ?_) (fun b hb => ?_), hS9⟩
                · have := (hQ b hb).1; have h2 := HU6.size
                  exact (HM5.out.block b (by omega) (by have := (hQ b hb).2; omega)).trans (HU6.block b (hQ b hb).1)
                · have h1 := HM5.out.size; have h2 := HU6.size; have h3 := hQ b hb
                  exact ⟨by omega, by omega⟩
        · rw [if_pos (by rfl)]
          go_simp
          have h1 := h.alloc HP.out (.cells #[.int .i8 0, .int .i64 0, .string ⟨#[]⟩, .string ⟨#[]⟩, .slice none 0 0] 25)
          have hS1 := hS0.alloc hS0.size (.cells #[.int .i8 0, .int .i64 0, .string ⟨#[]⟩, .string ⟨#[]⟩, .slice none 0 0] 25)
          obtain ⟨g10, hg⟩ : ∃ g, g = X2.heap.size := ⟨_, rfl⟩
          rw [← hg] at h1
          refine hK.out _ _ hS1 (fun hSn => ?_)
          clear hK K; (try simp only [Act.put, List.setIfInBounds_toArray, List.set_cons_zero, List.set_cons_succ])
          rw [← hg]
          clear hg hSn
          generalize X2.alloc (.cells #[.int .i8 0, .int .i64 0, .string ⟨#[]⟩, .string ⟨#[]⟩, .slice none 0 0] 25) = X12 at h1 hS1 ⊢
          clear h hS0
          have h := h1
          have hS0 := hS1
          clear h1 hS1
          refine wpAnyH_ready (rs := [4]) (by kernel_rfl) (by simp) ?_
          refine AllReadyH.cons (o := ⟨some 36, _, _, _, _, _⟩) rfl (fun K hK => ?_) AllReadyH.nil
          · rw [if_pos (by rfl)]
            go_simp
            have h1 := h.alloc HP.out (.cells #[(.int .i8 ky), (.int .i64 ny), (.string sy), (.string ty), (.slice Ay Ly.length capy)] 25)
            have hS1 := hS0.alloc hS0.size (.cells #[(.int .i8 ky), (.int .i64 ny), (.string sy), (.string ty), (.slice Ay Ly.length capy)] 25)
            obtain ⟨g4, hg⟩ : ∃ g, g = X12.heap.size := ⟨_, rfl⟩
            rw [← hg] at h1
            refine hK.out _ _ hS1 (fun hSn => ?_)
            clear hK K; (try simp only [Act.put, List.setIfInBounds_toArray, List.set_cons_zero, List.set_cons_succ])
            rw [← hg]
            clear hg hSn
            generalize X12.alloc (.cells #[(.int .i8 ky), (.int .i64 ny), (.string sy), (.string ty), (.slice Ay Ly.length capy)] 25) = X13 at h1 hS1 ⊢
            clear h hS0
            have h := h1
            have hS0 := hS1
            clear h1 hS1
            refine wpAnyH_ready (rs := [5]) (by kernel_rfl) (by simp) ?_
            refine AllReadyH.cons (o := ⟨some 37, _, _, _, _, _⟩) rfl (fun K hK => ?_) AllReadyH.nil
            · rw [if_pos (by rfl)]
              have hb0 := h.below
              refine wp_own_term (.tmp 34) (.tmp 36) rfl h.own hb0.size (h.apart HP.out) rfl g4 rfl (h.kept (g4, .cells #[(.int .i8 ky), (.int .i64 ny), (.string sy), (.string ty), (.slice Ay Ly.length capy)] 25) (by simp)).2.1 (HTY.out.keep (fun b hb => hb0.block b (HP.out b hb)) (fun _ h => h)) (by have := HLL.out; omega) ?_
              intro v2 X14 O hg hb
              have h1 := h.app O hg (hb.imp Eq.symm id)
              obtain ⟨A5, cap5, rfl⟩ := O.shape
              rw [← HN5.out] at h1
              have hS1 : Below W4.heap.size W4 X14 := HDW.out.trans (h1.below.mono (by rw [HDZ.out]; exact Nat.le_refl _))
              refine hK.out _ _ hS1 (fun hSn => ?_)
              clear hK K hSn O hg hb hb0; (try simp only [Act.put, List.setIfInBounds_toArray, List.set_cons_zero, List.set_cons_succ])
              rw [← HN5.out]
              clear h hS0
              have h := h1
              have hS0 := hS1
              clear h1 hS1
              refine wpAnyH_ready (rs := [6]) (by kernel_rfl) (by simp) ?_
              refine AllReadyH.cons (o := ⟨some 38, _, _, _, _, _⟩) rfl (fun K hK => ?_) AllReadyH.nil
              · rw [if_pos (by rfl)]
                go_simp
                have hb0 := h.below
                obtain ⟨Q5, hQ5⟩ : ∃ Q5 : Nat → Prop, Q5 = fun b => P b ∨ (Value.slice A5 n5 cap5).ownBlock = some b := ⟨_, rfl⟩
                have hRow : TRow Q5 X14 A5 n5 cap5 (l ++ [y]) := by rw [hQ5]; exact h.own.trow_own
                have hQs : ∀ b, Q5 b → b < X14.heap.size ∧ b ≠ g10 := fun b hb => by
                  rw [hQ5] at hb
                  rcases hb with hb | hb
                  · have h1 := HP.out b hb; have h2 := hb0.size
                    have h3 : D.heap.size ≤ g10 := (h.kept (g10, .cells #[.int .i8 0, .int .i64 0, .string ⟨#[]⟩, .string ⟨#[]⟩, .slice none 0 0] 25) (by simp)).1
                    exact ⟨by omega, by omega⟩
                  · exact ⟨(h.own.own b hb).2, fun e => (h.kept (g10, .cells #[.int .i8 0, .int .i64 0, .string ⟨#[]⟩, .string ⟨#[]⟩, .slice none 0 0] 25) (by simp)).2.2 (by rw [← e]; exact hb)⟩
                have hgl : g10 < X14.heap.size := heap_lt (h.kept (g10, .cells #[.int .i8 0, .int .i64 0, .string ⟨#[]⟩, .string ⟨#[]⟩, .slice none 0 0] 25) (by simp)).2.1
                refine (Tuple_any Q5 (l ++ [y]) A5 n5 cap5 _ (fun b hb => (hQs b hb).1) hRow (HSD.out _ hb0) (by have := HLL.out; simp; omega)).mono ?_
                rintro e V6 ⟨bv, rfl, ⟨kb, nb, sb, tb, Ab, Lb, capb, rfl⟩, hTB, b6⟩
                have h1 := h.under HP.out b6
                have hS1 : Below W4.heap.size W4 V6 := hS0.trans (b6.mono hS0.size)
                refine hK.out _ _ hS1 (fun hSn => ?_)
                clear hK K hSn; (try simp only [Act.put, List.setIfInBounds_toArray, List.set_cons_zero, List.set_cons_succ])
                obtain ⟨Q6, hQ6⟩ : ∃ Q6 : Nat → Prop, Q6 = fun b => Q5 b ∨ (X14.heap.size ≤ b ∧ b < V6.heap.size) := ⟨_, rfl⟩
                have HTB : Hid (fitN 1 (l ++ [y]) = 0 → TmAt Q6 V6 (tupT (l ++ [y])) _) := fun h0 => by rw [hQ6]; exact hTB h0
                have HQ6 : Hid (∀ b, Q6 b → b < V6.heap.size ∧ b ≠ g10) := fun b hb => by
                  rw [hQ6] at hb
                  have hz := b6.size
                  rcases hb with hb | hb
                  · have h2 := hQs b hb; exact ⟨by omega, by omega⟩
                  · exact ⟨by omega, by omega⟩
                have HU : Hid (Below V6.heap.size V6 V6) := Below.refl _ _
                clear hTB b6 hb0 hQ5 hRow hQs hQ6 h hS0 hgl
                have h := h1
                have hS0 := hS1
                clear h1 hS1
                refine wpAnyH_take (i := 7) (oi := ⟨some 31, _, _, _, _, _⟩) (v := ?_) rfl (by kernel_rfl) (by kernel_rfl) (by kernel_rfl) (fun _ _ _ h => h) (Or.inl ⟨by kernel_rfl, ?_⟩) (by assumption) ?_; rotate_left; (intro w hSw; (try dsimp only at hSw); go_simp; first | done | with_reducible rfl); (try simp only [Act.put, List.setIfInBounds_toArray, List.set_cons_zero, List.set_cons_succ])
                refine wpAnyH_take (i := 8) (oi := ⟨some 39, _, _, _, _, _⟩) (v := ?_) rfl (by kernel_rfl) (by kernel_rfl) (by kernel_rfl) (fun _ _ _ h => h) (Or.inl ⟨by kernel_rfl, ?_⟩) (by assumption) ?_; rotate_left; (intro w hSw; (try dsimp only at hSw); go_simp; first | done | with_reducible rfl); (try simp only [Act.put, List.setIfInBounds_toArray, List.set_cons_zero, List.set_cons_succ])
                refine wpAnyH_take (i := 9) (oi := ⟨some 40, _, _, _, _, _⟩) (v := ?_) rfl (by kernel_rfl) (by kernel_rfl) (by kernel_rfl) (fun _ _ _ h => h) (Or.inl ⟨by kernel_rfl, ?_⟩) (by assumption) ?_; rotate_left; (intro w hSw; (try dsimp only at hSw); go_simp; first | done | with_reducible rfl); (try simp only [Act.put, List.setIfInBounds_toArray, List.set_cons_zero, List.set_cons_succ])
                obtain ⟨gge, gz, -⟩ := h.kept (g10, .cells #[.int .i8 0, .int .i64 0, .string ⟨#[]⟩, .string ⟨#[]⟩, .slice none 0 0] 25) (by simp)
                have r0 : V6.cell? ⟨g10, 0, none⟩ = some (.int .i8 0) := cell_of_row gz rfl
                have r1 : V6.cell? ⟨g10, 1, none⟩ = some (.int .i64 0) := cell_of_row gz rfl
                have r2 : V6.cell? ⟨g10, 2, none⟩ = some (.string ⟨#[]⟩) := cell_of_row gz rfl
                have r3 : V6.cell? ⟨g10, 3, none⟩ = some (.string ⟨#[]⟩) := cell_of_row gz rfl
                have r4 : V6.cell? ⟨g10, 4, none⟩ = some (.slice none 0 0) := cell_of_row gz rfl
                have f0 : V6.frozen? ⟨g10, 0, none⟩ = false := free_of_row gz
                have f1 : V6.frozen? ⟨g10, 1, none⟩ = false := free_of_row gz
                have f2 : V6.frozen? ⟨g10, 2, none⟩ = false := free_of_row gz
                have f3 : V6.frozen? ⟨g10, 3, none⟩ = false := free_of_row gz
                have f4 : V6.frozen? ⟨g10, 4, none⟩ = false := free_of_row gz
                obtain ⟨s5, m5⟩ := set_five (.int .i8 kb) (.int .i64 nb) (.string sb) (.string tb) (.slice Ab (List.length (α := Tm) Lb) capb) gz
                have hS9 := hS0.trans (m5.below hS0.size (fun k (e : k = g10) => by have h1 : D.heap.size ≤ g10 := gge; have := HDZ.out; omega))
                have HS5 := Lib.hid s5
                have HM5 := Lib.hid m5
                clear s5 m5
                refine wpAnyH_ready (rs := [11]) (by kernel_rfl) (by simp) ?_
                refine AllReadyH.cons (o := ⟨none, _, _, _, _, _⟩) rfl (fun K hK => ?_) AllReadyH.nil
                rw [if_pos (by rfl)]
                go_simp
                refine hK.out _ _ hS9 (fun hSn => ?_)
                clear hK K; (try simp only [Act.put, List.setIfInBounds_toArray, List.set_cons_zero, List.set_cons_succ])
                refine wpAnyH_take (i := 12) (oi := ⟨some 10, _, _, _, _, _⟩) (v := ?_) rfl (by kernel_rfl) (by kernel_rfl) (by kernel_rfl) (fun _ _ _ h => h) (Or.inl ⟨by kernel_rfl, ?_⟩) (by assumption) ?_; rotate_left; (intro w hSw; (try dsimp only at hSw); go_simp; first | done | with_reducible rfl); (try simp only [Act.put, List.setIfInBounds_toArray, List.set_cons_zero, List.set_cons_succ])
                refine wpAnyH_done (by kernel_rfl) ?_ _
                clear r0 r1 r2 r3 r4 f0 f1 f2 f3 f4 gz
                have hQ := HQ6.out
                have HU6 := HU.out
                have hgl : g10 < V6.heap.size := by have := heap_lt HS5.out; simpa [World.setCell] using this
                go_wp2_with fail
                go_meet
                refine ⟨g10, _, rfl, rfl, HS5.out, ⟨kb, nb, sb, tb, Ab, Lb, capb, rfl⟩, fun h0 => (HTB.out h0).keep (fun b hb => ?_) (fun b hb => ?_), hS9⟩
                · have := (hQ b hb).1; have h2 := HU6.size
                  exact (HM5.out.block b (by omega) (by have := (hQ b hb).2; omega)).trans (HU6.block b (hQ b hb).1)
                · have h1 := HM5.out.size; have h2 := HU6.size; have h3 := hQ b hb
                  exact ⟨by omega, by omega⟩
      · rw [if_pos (by rfl)]
        go_simp
        have h1 := h.alloc HP.out (.cells #[(.int .i8 ky), (.int .i64 ny), (.string sy), (.string ty), (.slice Ay Ly.length capy)] 25)
        have hS1 := hS0.alloc hS0.size (.cells #[(.int .i8 ky), (.int .i64 ny), (.string sy), (.string ty), (.slice Ay Ly.length capy)] 25)
        obtain ⟨g4, hg⟩ : ∃ g, g = X1.heap.size := ⟨_, rfl⟩
        rw [← hg] at h1
        refine hK.out _ _ hS1 (fun hSn => ?_)
        clear hK K; (try simp only [Act.put, List.setIfInBounds_toArray, List.set_cons_zero, List.set_cons_succ])
        rw [← hg]
        clear hg hSn
        generalize X1.alloc (.cells #[(.int .i8 ky), (.int .i64 ny), (.string sy), (.string ty), (.slice Ay Ly.length capy)] 25) = X16 at h1 hS1 ⊢
        clear h hS0
        have h := h1
        have hS0 := hS1
        clear h1 hS1
        refine wpAnyH_ready (rs := [2, 10]) (by kernel_rfl) (by simp) ?_
        refine AllReadyH.cons (o := ⟨some 34, _, _, _, _, _⟩) rfl (fun K hK => ?_) (AllReadyH.cons (o := ⟨some 9, _, _, _, _, _⟩) rfl (fun K hK => ?_) AllReadyH.nil)
        · rw [if_pos (by rfl)]
          have hb0 := h.below
          refine wp_own_terms (.tmp 32) (.tmp 33) rfl h.own hb0.size (h.apart HP.out) rfl rfl (HTL.out.keep (fun b hb => hb0.block b (HP.out b hb)) (fun _ h => h)) (by have := HLL.out; show 0 + _ ≤ _; omega) ?_
          intro v1 X17 O hg hb
          rw [List.nil_append] at O
          have h1 := h.app O hg hb
          have hS1 : Below W4.heap.size W4 X17 := HDW.out.trans (h1.below.mono (by rw [HDZ.out]; exact Nat.le_refl _))
          refine hK.out _ _ hS1 (fun hSn => ?_)
          clear hK K hSn O hg hb hb0; (try simp only [Act.put, List.setIfInBounds_toArray, List.set_cons_zero, List.set_cons_succ])
          clear h hS0
          have h := h1
          have hS0 := hS1
          clear h1 hS1
          refine wpAnyH_ready (rs := [5, 10]) (by kernel_rfl) (by simp) ?_
          refine AllReadyH.cons (o := ⟨some 37, _, _, _, _, _⟩) rfl (fun K hK => ?_) (AllReadyH.cons (o := ⟨some 9, _, _, _, _, _⟩) rfl (fun K hK => ?_) AllReadyH.nil)
          · rw [if_pos (by rfl)]
            have hb0 := h.below
            refine wp_own_term (.tmp 34) (.tmp 36) rfl h.own hb0.size (h.apart HP.out) rfl g4 rfl (h.kept (g4, .cells #[(.int .i8 ky), (.int .i64 ny), (.string sy), (.string ty), (.slice Ay Ly.length capy)] 25) (by simp)).2.1 (HTY.out.keep (fun b hb => hb0.block b (HP.out b hb)) (fun _ h => h)) (by have := HLL.out; omega) ?_
            intro v2 X18 O hg hb
            have h1 := h.app O hg (hb.imp Eq.symm id)
            obtain ⟨A5, cap5, rfl⟩ := O.shape
            rw [← HN5.out] at h1
            have hS1 : Below W4.heap.size W4 X18 := HDW.out.trans (h1.below.mono (by rw [HDZ.out]; exact Nat.le_refl _))
            refine hK.out _ _ hS1 (fun hSn => ?_)
            clear hK K hSn O hg hb hb0; (try simp only [Act.put, List.setIfInBounds_toArray, List.set_cons_zero, List.set_cons_succ])
            rw [← HN5.out]
            clear h hS0
            have h := h1
            have hS0 := hS1
            clear h1 hS1
            refine wpAnyH_ready (rs := [6, 10]) (by kernel_rfl) (by simp) ?_
            refine AllReadyH.cons (o := ⟨some 38, _, _, _, _, _⟩) rfl (fun K hK => ?_) (AllReadyH.cons (o := ⟨some 9, _, _, _, _, _⟩) rfl (fun K hK => ?_) AllReadyH.nil)
            · rw [if_pos (by rfl)]
              go_simp
              have hb0 := h.below
              obtain ⟨Q5, hQ5⟩ : ∃ Q5 : Nat → Prop, Q5 = fun b => P b ∨ (Value.slice A5 n5 cap5).ownBlock = some b := ⟨_, rfl⟩
              have hRow : TRow Q5 X18 A5 n5 cap5 (l ++ [y]) := by rw [hQ5]; exact h.own.trow_own
              have hQs : ∀ b, Q5 b → b < X18.heap.size := fun b hb => by
                rw [hQ5] at hb
                rcases hb with hb | hb
                · have h1 := HP.out b hb; have h2 := hb0.size
                  omega
                · exact (h.own.own b hb).2
              refine (Tuple_any Q5 (l ++ [y]) A5 n5 cap5 _ (fun b hb => hQs b hb) hRow (HSD.out _ hb0) (by have := HLL.out; simp; omega)).mono ?_
              rintro e V6 ⟨bv, rfl, ⟨kb, nb, sb, tb, Ab, Lb, capb, rfl⟩, hTB, b6⟩
              have h1 := h.under HP.out b6
              have hS1 : Below W4.heap.size W4 V6 := hS0.trans (b6.mono hS0.size)
              refine hK.out _ _ hS1 (fun hSn => ?_)
              clear hK K hSn; (try simp only [Act.put, List.setIfInBounds_toArray, List.set_cons_zero, List.set_cons_succ])
              obtain ⟨Q6, hQ6⟩ : ∃ Q6 : Nat → Prop, Q6 = fun b => Q5 b ∨ (X18.heap.size ≤ b ∧ b < V6.heap.size) := ⟨_, rfl⟩
              have HTB : Hid (fitN 1 (l ++ [y]) = 0 → TmAt Q6 V6 (tupT (l ++ [y])) _) := fun h0 => by rw [hQ6]; exact hTB h0
              have HQ6 : Hid (∀ b, Q6 b → b < V6.heap.size) := fun b hb => by
                rw [hQ6] at hb
                have hz := b6.size
                rcases hb with hb | hb
                · have h2 := hQs b hb; omega
                · omega
              have HU : Hid (Below V6.heap.size V6 V6) := Below.refl _ _
              clear hTB b6 hb0 hQ5 hRow hQs hQ6 h hS0
              have h := h1
              have hS0 := hS1
              clear h1 hS1
              refine wpAnyH_take (i := 7) (oi := ⟨some 31, _, _, _, _, _⟩) (v := ?_) rfl (by kernel_rfl) (by kernel_rfl) (by kernel_rfl) (fun _ _ _ h => h) (Or.inl ⟨by kernel_rfl, ?_⟩) (by assumption) ?_; rotate_left; (intro w hSw; (try dsimp only at hSw); go_simp; first | done | with_reducible rfl); (try simp only [Act.put, List.setIfInBounds_toArray, List.set_cons_zero, List.set_cons_succ])
              refine wpAnyH_take (i := 8) (oi := ⟨some 39, _, _, _, _, _⟩) (v := ?_) rfl (by kernel_rfl) (by kernel_rfl) (by kernel_rfl) (fun _ _ _ h => h) (Or.inl ⟨by kernel_rfl, ?_⟩) (by assumption) ?_; rotate_left; (intro w hSw; (try dsimp only at hSw); go_simp; first | done | with_reducible rfl); (try simp only [Act.put, List.setIfInBounds_toArray, List.set_cons_zero, List.set_cons_succ])
              refine wpAnyH_take (i := 9) (oi := ⟨some 40, _, _, _, _, _⟩) (v := ?_) rfl (by kernel_rfl) (by kernel_rfl) (by kernel_rfl) (fun _ _ _ h => h) (Or.inl ⟨by kernel_rfl, ?_⟩) (by assumption) ?_; rotate_left; (intro w hSw; (try dsimp only at hSw); go_simp; first | done | with_reducible rfl); (try simp only [Act.put, List.setIfInBounds_toArray, List.set_cons_zero, List.set_cons_succ])
              refine wpAnyH_ready (rs := [10]) (by kernel_rfl) (by simp) ?_
              refine AllReadyH.cons (o := ⟨some 9, _, _, _, _, _⟩) rfl (fun K hK => ?_) AllReadyH.nil
              · rw [if_pos (by rfl)]
                go_simp
                have h1 := h.alloc HP.out (.cells #[.int .i8 0, .int .i64 0, .string ⟨#[]⟩, .string ⟨#[]⟩, .slice none 0 0] 25)
                have hS1 := hS0.alloc hS0.size (.cells #[.int .i8 0, .int .i64 0, .string ⟨#[]⟩, .string ⟨#[]⟩, .slice none 0 0] 25)
                have hU1 := HU.out.alloc HU.out.size (.cells #[.int .i8 0, .int .i64 0, .string ⟨#[]⟩, .string ⟨#[]⟩, .slice none 0 0] 25)
                obtain ⟨g10, hg⟩ : ∃ g, g = V6.heap.size := ⟨_, rfl⟩
                rw [← hg] at h1
                have hqs : ∀ b, Q6 b → b < V6.heap.size ∧ b ≠ g10 := fun b hb => ⟨HQ6.out b hb, by have := HQ6.out b hb; have := HU.out.size; omega⟩
                refine hK.out _ _ hS1 (fun hSn => ?_)
                clear hK K; (try simp only [Act.put, List.setIfInBounds_toArray, List.set_cons_zero, List.set_cons_succ])
                rw [← hg]
                clear hg hSn
                generalize V6.alloc (.cells #[.int .i8 0, .int .i64 0, .string ⟨#[]⟩, .string ⟨#[]⟩, .slice none 0 0] 25) = X20 at h1 hS1 hU1 ⊢
                clear h hS0
                have h := h1
                have hS0 := hS1
                clear h1 hS1
                clear HU HQ6
                have HU := Lib.hid hU1
                have HQ6 := Lib.hid hqs
                clear hU1 hqs
                obtain ⟨gge, gz, -⟩ := h.kept (g10, .cells #[.int .i8 0, .int .i64 0, .string ⟨#[]⟩, .string ⟨#[]⟩, .slice none 0 0] 25) (by simp)
                have r0 : X20.cell? ⟨g10, 0, none⟩ = some (.int .i8 0) := cell_of_row gz rfl
                have r1 : X20.cell? ⟨g10, 1, none⟩ = some (.int .i64 0) := cell_of_row gz rfl
                have r2 : X20.cell? ⟨g10, 2, none⟩ = some (.string ⟨#[]⟩) := cell_of_row gz rfl
                have r3 : X20.cell? ⟨g10, 3, none⟩ = some (.string ⟨#[]⟩) := cell_of_row gz rfl
                have r4 : X20.cell? ⟨g10, 4, none⟩ = some (.slice none 0 0) := cell_of_row gz rfl
                have f0 : X20.frozen? ⟨g10, 0, none⟩ = false := free_of_row gz
                have f1 : X20.frozen? ⟨g10, 1, none⟩ = false := free_of_row gz
                have f2 : X20.frozen? ⟨g10, 2, none⟩ = false := free_of_row gz
                have f3 : X20.frozen? ⟨g10, 3, none⟩ = false := free_of_row gz
                have f4 : X20.frozen? ⟨g10, 4, none⟩ = false := free_of_row gz
                obtain ⟨s5, m5⟩ := set_five (.int .i8 kb) (.int .i64 nb) (.string sb) (.string tb) (.slice Ab (List.length (α := Tm) Lb) capb) gz
                have hS9 := hS0.trans (m5.below hS0.size (fun k (e : k = g10) => by have h1 : D.heap.size ≤ g10 := gge; have := HDZ.out; omega))
                have HS5 := Lib.hid s5
                have HM5 := Lib.hid m5
                clear s5 m5
                refine wpAnyH_ready (rs := [11]) (by kernel_rfl) (by simp) ?_
                refine AllReadyH.cons (o := ⟨none, _, _, _, _, _⟩) rfl (fun K hK => ?_) AllReadyH.nil
                rw [if_pos (by rfl)]
                go_simp
                refine hK.out _ _ hS9 (fun hSn => ?_)
                clear hK K; (try simp only [Act.put, List.setIfInBounds_toArray, List.set_cons_zero, List.set_cons_succ])
                refine wpAnyH_take (i := 12) (oi := ⟨some 10, _, _, _, _, _⟩) (v := ?_) rfl (by kernel_rfl) (by kernel_rfl) (by kernel_rfl) (fun _ _ _ h => h) (Or.inl ⟨by kernel_rfl, ?_⟩) (by assumption) ?_; rotate_left; (intro w hSw; (try dsimp only at hSw); go_simp; first | done | with_reducible rfl); (try simp only [Act.put, List.setIfInBounds_toArray, List.set_cons_zero, List.set_cons_succ])
                refine wpAnyH_done (by kernel_rfl) ?_ _
                clear r0 r1 r2 r3 r4 f0 f1 f2 f3 f4 gz
                have hQ := HQ6.out
                have HU6 := HU.out
                have hgl : g10 < X20.heap.size := by have := heap_lt HS5.out; simpa [World.setCell] using this
                go_wp2_with fail
                go_meet
                refine ⟨g10, _, rfl, rfl, HS5.out, ⟨kb, nb, sb, tb, Ab, Lb, capb, rfl⟩, fun h0 => (HTB.out h0).keep (fun b hb => ?_) (fun b hb => ?_), hS9⟩
                · have := (hQ b hb).1; have h2 := HU6.size
                  exact (HM5.out.block b (by omega) (by have := (hQ b hb).2; omega)).trans (HU6.block b (hQ b hb).1)
                · have h1 := HM5.out.size; have h2 := HU6.size; have h3 := hQ b hb
                  exact ⟨by omega, by omega⟩
            · rw [if_pos (by rfl)]
              go_simp
              have h1 := h.alloc HP.out (.cells #[.int .i8 0, .int .i64 0, .string ⟨#[]⟩, .string ⟨#[]⟩, .slice none 0 0] 25)
              have hS1 := hS0.alloc hS0.size (.cells #[.int .i8 0, .int .i64 0, .string ⟨#[]⟩, .string ⟨#[]⟩, .slice none 0 0] 25)
              obtain ⟨g10, hg⟩ : ∃ g, g = X18.heap.size := ⟨_, rfl⟩
              rw [← hg] at h1
              refine hK.out _ _ hS1 (fun hSn => ?_)
              clear hK K; (try simp only [Act.put, List.setIfInBounds_toArray, List.set_cons_zero, List.set_cons_succ])
              rw [← hg]
              clear hg hSn
              generalize X18.alloc (.cells #[.int .i8 0, .int .i64 0, .string ⟨#[]⟩, .string ⟨#[]⟩, .slice none 0 0] 25) = X21 at h1 hS1 ⊢
              clear h hS0
              have h := h1
              have hS0 := hS1
              clear h1 hS1
              refine wpAnyH_ready (rs := [6]) (by kernel_rfl) (by simp) ?_
              refine AllReadyH.cons (o := ⟨some 38, _, _, _, _, _⟩) rfl (fun K hK => ?_) AllReadyH.nil
              · rw [if_pos (by rfl)]
                go_simp
                have hb0 := h.below
                obtain ⟨Q5, hQ5⟩ : ∃ Q5 : Nat → Prop, Q5 = fun b => P b ∨ (Value.slice A5 n5 cap5).ownBlock = some b := ⟨_, rfl⟩
                have hRow : TRow Q5 X21 A5 n5 cap5 (l ++ [y]) := by rw [hQ5]; exact h.own.trow_own
                have hQs : ∀ b, Q5 b → b < X21.heap.size ∧ b ≠ g10 := fun b hb => by
                  rw [hQ5] at hb
                  rcases hb with hb | hb
                  · have h1 := HP.out b hb; have h2 := hb0.size
                    have h3 : D.heap.size ≤ g10 := (h.kept (g10, .cells #[.int .i8 0, .int .i64 0, .string ⟨#[]⟩, .string ⟨#[]⟩, .slice none 0 0] 25) (by simp)).1
                    exact ⟨by omega, by omega⟩
                  · exact ⟨(h.own.own b hb).2, fun e => (h.kept (g10, .cells #[.int .i8 0, .int .i64 0, .string ⟨#[]⟩, .string ⟨#[]⟩, .slice none 0 0] 25) (by simp)).2.2 (by rw [← e]; exact hb)⟩
                have hgl : g10 < X21.heap.size := heap_lt (h.kept (g10, .cells #[.int .i8 0, .int .i64 0, .string ⟨#[]⟩, .string ⟨#[]⟩, .slice none 0 0] 25) (by simp)).2.1
                refine (Tuple_any Q5 (l ++ [y]) A5 n5 cap5 _ (fun b hb => (hQs b hb).1) hRow (HSD.out _ hb0) (by have := HLL.out; simp; omega)).mono ?_
                rintro e V6 ⟨bv, rfl, ⟨kb, nb, sb, tb, Ab, Lb, capb, rfl⟩, hTB, b6⟩
                have h1 := h.under HP.out b6
                have hS1 : Below W4.heap.size W4 V6 := hS0.trans (b6.mono hS0.size)
                refine hK.out _ _ hS1 (fun hSn => ?_)
                clear hK K hSn; (try simp only [Act.put, List.setIfInBounds_toArray, List.set_cons_zero, List.set_cons_succ])
                obtain ⟨Q6, hQ6⟩ : ∃ Q6 : Nat → Prop, Q6 = fun b => Q5 b ∨ (X21.heap.size ≤ b ∧ b < V6.heap.size) := ⟨_, rfl⟩
                have HTB : Hid (fitN 1 (l ++ [y]) = 0 → TmAt Q6 V6 (tupT (l ++ [y])) _) := fun h0 => by rw [hQ6]; exact hTB h0
                have HQ6 : Hid (∀ b, Q6 b → b < V6.heap.size ∧ b ≠ g10) := fun b hb => by
                  rw [hQ6] at hb
                  have hz := b6.size
                  rcases hb with hb | hb
                  · have h2 := hQs b hb; exact ⟨by omega, by omega⟩
                  · exact ⟨by omega, by omega⟩
                have HU : Hid (Below V6.heap.size V6 V6) := Below.refl _ _
                clear hTB b6 hb0 hQ5 hRow hQs hQ6 h hS0 hgl
                have h := h1
                have hS0 := hS1
                clear h1 hS1
                refine wpAnyH_take (i := 7) (oi := ⟨some 31, _, _, _, _, _⟩) (v := ?_) rfl (by kernel_rfl) (by kernel_rfl) (by kernel_rfl) (fun _ _ _ h => h) (Or.inl ⟨by kernel_rfl, ?_⟩) (by assumption) ?_; rotate_left; (intro w hSw; (try dsimp only at hSw); go_simp; first | done | with_reducible rfl); (try simp only [Act.put, List.setIfInBounds_toArray, List.set_cons_zero, List.set_cons_succ])
                refine wpAnyH_take (i := 8) (oi := ⟨some 39, _, _, _, _, _⟩) (v := ?_) rfl (by kernel_rfl) (by kernel_rfl) (by kernel_rfl) (fun _ _ _ h => h) (Or.inl ⟨by kernel_rfl, ?_⟩) (by assumption) ?_; rotate_left; (intro w hSw; (try dsimp only at hSw); go_simp; first | done | with_reducible rfl); (try simp only [Act.put, List.setIfInBounds_toArray, List.set_cons_zero, List.set_cons_succ])
                refine wpAnyH_take (i := 9) (oi := ⟨some 40, _, _, _, _, _⟩) (v := ?_) rfl (by kernel_rfl) (by kernel_rfl) (by kernel_rfl) (fun _ _ _ h => h) (Or.inl ⟨by kernel_rfl, ?_⟩) (by assumption) ?_; rotate_left; (intro w hSw; (try dsimp only at hSw); go_simp; first | done | with_reducible rfl); (try simp only [Act.put, List.setIfInBounds_toArray, List.set_cons_zero, List.set_cons_succ])
                obtain ⟨gge, gz, -⟩ := h.kept (g10, .cells #[.int .i8 0, .int .i64 0, .string ⟨#[]⟩, .string ⟨#[]⟩, .slice none 0 0] 25) (by simp)
                have r0 : V6.cell? ⟨g10, 0, none⟩ = some (.int .i8 0) := cell_of_row gz rfl
                have r1 : V6.cell? ⟨g10, 1, none⟩ = some (.int .i64 0) := cell_of_row gz rfl
                have r2 : V6.cell? ⟨g10, 2, none⟩ = some (.string ⟨#[]⟩) := cell_of_row gz rfl
                have r3 : V6.cell? ⟨g10, 3, none⟩ = some (.string ⟨#[]⟩) := cell_of_row gz rfl
                have r4 : V6.cell? ⟨g10, 4, none⟩ = some (.slice none 0 0) := cell_of_row gz rfl
                have f0 : V6.frozen? ⟨g10, 0, none⟩ = false := free_of_row gz
                have f1 : V6.frozen? ⟨g10, 1, none⟩ = false := free_of_row gz
                have f2 : V6.frozen? ⟨g10, 2, none⟩ = false := free_of_row gz
                have f3 : V6.frozen? ⟨g10, 3, none⟩ = false := free_of_row gz
                have f4 : V6.frozen? ⟨g10, 4, none⟩ = false := free_of_row gz
                obtain ⟨s5, m5⟩ := set_five (.int .i8 kb) (.int .i64 nb) (.string sb) (.string tb) (.slice Ab (List.length (α := Tm) Lb) capb) gz
                have hS9 := hS0.trans (m5.below hS0.size (fun k (e : k = g10) => by have h1 : D.heap.size ≤ g10 := gge; have := HDZ.out; omega))
                have HS5 := Lib.hid s5
                have HM5 := Lib.hid m5
                clear s5 m5
                refine wpAnyH_ready (rs := [11]) (by kernel_rfl) (by simp) ?_
                refine AllReadyH.cons (o := ⟨none, _, _, _, _, _⟩) rfl (fun K hK => ?_) AllReadyH.nil
                rw [if_pos (by rfl)]
                go_simp
                refine hK.out _ _ hS9 (fun hSn => ?_)
                clear hK K; (try simp only [Act.put, List.setIfInBounds_toArray, List.set_cons_zero, List.set_cons_succ])
                refine wpAnyH_take (i := 12) (oi := ⟨some 10, _, _, _, _, _⟩) (v := ?_) rfl (by kernel_rfl) (by kernel_rfl) (by kernel_rfl) (fun _ _ _ h => h) (Or.inl ⟨by kernel_rfl, ?_⟩) (by assumption) ?_; rotate_left; (intro w hSw; (try dsimp only at hSw); go_simp; first | done | with_reducible rfl); (try simp only [Act.put, List.setIfInBounds_toArray, List.set_cons_zero, List.set_cons_succ])
                refine wpAnyH_done (by kernel_rfl) ?_ _
                clear r0 r1 r2 r3 r4 f0 f1 f2 f3 f4 gz
                have hQ := HQ6.out
                have HU6 := HU.out
                have hgl : g10 < V6.heap.size := by have := heap_lt HS5.out; simpa [World.setCell] using this
                go_wp2_with fail
                go_meet
                refine ⟨g10, _, rfl, rfl, HS5.out, ⟨kb, nb, sb, tb, Ab, Lb, capb, rfl⟩, fun h0 => (HTB.out h0).keep (fun b hb => ?_) (fun b hb => ?_), hS9⟩
                · have := (hQ b hb).1; have h2 := HU6.size
                  exact (HM5.out.block b (by omega) (by have := (hQ b hb).2; omega)).trans (HU6.block b (hQ b hb).1)
                · have h1 := HM5.out.size; have h2 := HU6.size; have h3 := hQ b hb
                  exact ⟨by omega, by omega⟩
          · rw [if_pos (by rfl)]
            go_simp
            have h1 := h.alloc HP.out (.cells #[.int .i8 0, .int .i64 0, .string ⟨#[]⟩, .string ⟨#[]⟩, .slice none 0 0] 25)
            have hS1 := hS0.alloc hS0.size (.cells #[.int .i8 0, .int .i64 0, .string ⟨#[]⟩, .string ⟨#[]⟩, .slice none 0 0] 25)
            obtain ⟨g10, hg⟩ : ∃ g, g = X17.heap.size := ⟨_, rfl⟩
            rw [← hg] at h1
            refine hK.out _ _ hS1 (fun hSn => ?_)
            clear hK K; (try simp only [Act.put, List.setIfInBounds_toArray, List.set_cons_zero, List.set_cons_succ])
            rw [← hg]
            clear hg hSn
            generalize X17.alloc (.cells #[.int .i8 0, .int .i64 0, .string ⟨#[]⟩, .string ⟨#[]⟩, .slice none 0 0] 25) = X23 at h1 hS1 ⊢
            clear h hS0
            have h := h1
            have hS0 := hS1
            clear h1 hS1
            refine wpAnyH_ready (rs := [5]) (by kernel_rfl) (by simp) ?_
            refine AllReadyH.cons (o := ⟨some 37, _, _, _, _, _⟩) rfl (fun K hK => ?_) AllReadyH.nil
            · rw [if_pos (by rfl)]
              have hb0 := h.below
              refine wp_own_term (.tmp 34) (.tmp 36) rfl h.own hb0.size (h.apart HP.out) rfl g4 rfl (h.kept (g4, .cells #[(.int .i8 ky), (.int .i64 ny), (.string sy), (.string ty), (.slice Ay Ly.length capy)] 25) (by simp)).2.1 (HTY.out.keep (fun b hb => hb0.block b (HP.out b hb)) (fun _ h => h)) (by have := HLL.out; omega) ?_
              intro v2 X24 O hg hb
              have h1 := h.app O hg (hb.imp Eq.symm id)
              obtain ⟨A5, cap5, rfl⟩ := O.shape
              rw [← HN5.out] at h1
              have hS1 : Below W4.heap.size W4 X24 := HDW.out.trans (h1.below.mono (by rw [HDZ.out]; exact Nat.le_refl _))
              refine hK.out _ _ hS1 (fun hSn => ?_)
              clear hK K hSn O hg hb hb0; (try simp only [Act.put, List.setIfInBounds_toArray, List.set_cons_zero, List.set_cons_succ])
              rw [← HN5.out]
              clear h hS0
              have h := h1
              have hS0 := hS1
              clear h1 hS1
              refine wpAnyH_ready (rs := [6]) (by kernel_rfl) (by simp) ?_
              refine AllReadyH.cons (o := ⟨some 38, _, _, _, _, _⟩) rfl (fun K hK => ?_) AllReadyH.nil
              · rw [if_pos (by rfl)]
                go_simp
                have hb0 := h.below
                obtain ⟨Q5, hQ5⟩ : ∃ Q5 : Nat → Prop, Q5 = fun b => P b ∨ (Value.slice A5 n5 cap5).ownBlock = some b := ⟨_, rfl⟩
                have hRow : TRow Q5 X24 A5 n5 cap5 (l ++ [y]) := by rw [hQ5]; exact h.own.trow_own
                have hQs : ∀ b, Q5 b → b < X24.heap.size ∧ b ≠ g10 := fun b hb => by
                  rw [hQ5] at hb
                  rcases hb with hb | hb
                  · have h1 := HP.out b hb; have h2 := hb0.size
                    have h3 : D.heap.size ≤ g10 := (h.kept (g10, .cells #[.int .i8 0, .int .i64 0, .string ⟨#[]⟩, .string ⟨#[]⟩, .slice none 0 0] 25) (by simp)).1
                    exact ⟨by omega, by omega⟩
                  · exact ⟨(h.own.own b hb).2, fun e => (h.kept (g10, .cells #[.int .i8 0, .int .i64 0, .string ⟨#[]⟩, .string ⟨#[]⟩, .slice none 0 0] 25) (by simp)).2.2 (by rw [← e]; exact hb)⟩
                have hgl : g10 < X24.heap.size := heap_lt (h.kept (g10, .cells #[.int .i8 0, .int .i64 0, .string ⟨#[]⟩, .string ⟨#[]⟩, .slice none 0 0] 25) (by simp)).2.1
                refine (Tuple_any Q5 (l ++ [y]) A5 n5 cap5 _ (fun b hb => (hQs b hb).1) hRow (HSD.out _ hb0) (by have := HLL.out; simp; omega)).mono ?_
                rintro e V6 ⟨bv, rfl, ⟨kb, nb, sb, tb, Ab, Lb, capb, rfl⟩, hTB, b6⟩
                have h1 := h.under HP.out b6
                have hS1 : Below W4.heap.size W4 V6 := hS0.trans (b6.mono hS0.size)
                refine hK.out _ _ hS1 (fun hSn => ?_)
                clear hK K hSn; (try simp only [Act.put, List.setIfInBounds_toArray, List.set_cons_zero, List.set_cons_succ])
                obtain ⟨Q6, hQ6⟩ : ∃ Q6 : Nat → Prop, Q6 = fun b => Q5 b ∨ (X24.heap.size ≤ b ∧ b < V6.heap.size) := ⟨_, rfl⟩
                have HTB : Hid (fitN 1 (l ++ [y]) = 0 → TmAt Q6 V6 (tupT (l ++ [y])) _) := fun h0 => by rw [hQ6]; exact hTB h0
                have HQ6 : Hid (∀ b, Q6 b → b < V6.heap.size ∧ b ≠ g10) := fun b hb => by
                  rw [hQ6] at hb
                  have hz := b6.size
                  rcases hb with hb | hb
                  · have h2 := hQs b hb; exact ⟨by omega, by omega⟩
                  · exact ⟨by omega, by omega⟩
                have HU : Hid (Below V6.heap.size V6 V6) := Below.refl _ _
                clear hTB b6 hb0 hQ5 hRow hQs hQ6 h hS0 hgl
                have h := h1
                have hS0 := hS1
                clear h1 hS1
                refine wpAnyH_take (i := 7) (oi := ⟨some 31, _, _, _, _, _⟩) (v := ?_) rfl (by kernel_rfl) (by kernel_rfl) (by kernel_rfl) (fun _ _ _ h => h) (Or.inl ⟨by kernel_rfl, ?_⟩) (by assumption) ?_; rotate_left; (intro w hSw; (try dsimp only at hSw); go_simp; first | done | with_reducible rfl); (try simp only [Act.put, List.setIfInBounds_toArray, List.set_cons_zero, List.set_cons_succ])
                refine wpAnyH_take (i := 8) (oi := ⟨some 39, _, _, _, _, _⟩) (v := ?_) rfl (by kernel_rfl) (by kernel_rfl) (by kernel_rfl) (fun _ _ _ h => h) (Or.inl ⟨by kernel_rfl, ?_⟩) (by assumption) ?_; rotate_left; (intro w hSw; (try dsimp only at hSw); go_simp; first | done | with_reducible rfl); (try simp only [Act.put, List.setIfInBounds_toArray, List.set_cons_zero, List.set_cons_succ])
                refine wpAnyH_take (i := 9) (oi := ⟨some 40, _, _, _, _, _⟩) (v := ?_) rfl (by kernel_rfl) (by kernel_rfl) (by kernel_rfl) (fun _ _ _ h => h) (Or.inl ⟨by kernel_rfl, ?_⟩) (by assumption) ?_; rotate_left; (intro w hSw; (try dsimp only at hSw); go_simp; first | done | with_reducible rfl); (try simp only [Act.put, List.setIfInBounds_toArray, List.set_cons_zero, List.set_cons_succ])
                obtain ⟨gge, gz, -⟩ := h.kept (g10, .cells #[.int .i8 0, .int .i64 0, .string ⟨#[]⟩, .string ⟨#[]⟩, .slice none 0 0] 25) (by simp)
                have r0 : V6.cell? ⟨g10, 0, none⟩ = some (.int .i8 0) := cell_of_row gz rfl
                have r1 : V6.cell? ⟨g10, 1, none⟩ = some (.int .i64 0) := cell_of_row gz rfl
                have r2 : V6.cell? ⟨g10, 2, none⟩ = some (.string ⟨#[]⟩) := cell_of_row gz rfl
                have r3 : V6.cell? ⟨g10, 3, none⟩ = some (.string ⟨#[]⟩) := cell_of_row gz rfl
                have r4 : V6.cell? ⟨g10, 4, none⟩ = some (.slice none 0 0) := cell_of_row gz rfl
                have f0 : V6.frozen? ⟨g10, 0, none⟩ = false := free_of_row gz
                have f1 : V6.frozen? ⟨g10, 1, none⟩ = false := free_of_row gz
                have f2 : V6.frozen? ⟨g10, 2, none⟩ = false := free_of_row gz
                have f3 : V6.frozen? ⟨g10, 3, none⟩ = false := free_of_row gz
                have f4 : V6.frozen? ⟨g10, 4, none⟩ = false := free_of_row gz
                obtain ⟨s5, m5⟩ := set_five (.int .i8 kb) (.int .i64 nb) (.string sb) (.string tb) (.slice Ab (List.length (α := Tm) Lb) capb) gz
                have hS9 := hS0.trans (m5.below hS0.size (fun k (e : k = g10) => by have h1 : D.heap.size ≤ g10 := gge; have := HDZ.out; omega))
                have HS5 := Lib.hid s5
                have HM5 := Lib.hid m5
                clear s5 m5
                refine wpAnyH_ready (rs := [11]) (by kernel_rfl) (by simp) ?_
                refine AllReadyH.cons (o := ⟨none, _, _, _, _, _⟩) rfl (fun K hK => ?_) AllReadyH.nil
                rw [if_pos (by rfl)]
                go_simp
                refine hK.out _ _ hS9 (fun hSn => ?_)
                clear hK K; (try simp only [Act.put, List.setIfInBounds_toArray, List.set_cons_zero, List.set_cons_succ])
                refine wpAnyH_take (i := 12) (oi := ⟨some 10, _, _, _, _, _⟩) (v := ?_) rfl (by kernel_rfl) (by kernel_rfl) (by kernel_rfl) (fun _ _ _ h => h) (Or.inl ⟨by kernel_rfl, ?_⟩) (by assumption) ?_; rotate_left; (intro w hSw; (try dsimp only at hSw); go_simp; first | done | with_reducible rfl); (try simp only [Act.put, List.setIfInBounds_toArray, List.set_cons_zero, List.set_cons_succ])
                refine wpAnyH_done (by kernel_rfl) ?_ _
                clear r0 r1 r2 r3 r4 f0 f1 f2 f3 f4 gz
                have hQ := HQ6.out
                have HU6 := HU.out
                have hgl : g10 < V6.heap.size := by have := heap_lt HS5.out; simpa [World.setCell] using this
                go_wp2_with fail
                go_meet
                refine ⟨g10, _, rfl, rfl, HS5.out, ⟨kb, nb, sb, tb, Ab, Lb, capb, rfl⟩, fun h0 => (HTB.out h0).keep (fun b hb => ?_) (fun b hb => ?_), hS9⟩
                · have := (hQ b hb).1; have h2 := HU6.size
                  exact (HM5.out.block b (by omega) (by have := (hQ b hb).2; omega)).trans (HU6.block b (hQ b hb).1)
                · have h1 := HM5.out.size; have h2 := HU6.size; have h3 := hQ b hb
                  exact ⟨by omega, by omega⟩
        · rw [if_pos (by rfl)]
          go_simp
          have h1 := h.alloc HP.out (.cells #[.int .i8 0, .int .i64 0, .string ⟨#[]⟩, .string ⟨#[]⟩, .slice none 0 0] 25)
          have hS1 := hS0.alloc hS0.size (.cells #[.int .i8 0, .int .i64 0, .string ⟨#[]⟩, .string ⟨#[]⟩, .slice none 0 0] 25)
          obtain ⟨g10, hg⟩ : ∃ g, g = X16.heap.size := ⟨_, rfl⟩
          rw [← hg] at h1
          refine hK.out _ _ hS1 (fun hSn => ?_)
          clear hK K; (try simp only [Act.put, List.setIfInBounds_toArray, List.set_cons_zero, List.set_cons_succ])
          rw [← hg]
          clear hg hSn
          generalize X16.alloc (.cells #[.int .i8 0, .int .i64 0, .string ⟨#[]⟩, .string ⟨#[]⟩, .slice none 0 0] 25) = X26 at h1 hS1 ⊢
          clear h hS0
          have h := h1
          have hS0 := hS1
          clear h1 hS1
          refine wpAnyH_ready (rs := [2]) (by kernel_rfl) (by simp) ?_
          refine AllReadyH.cons (o := ⟨some 34, _, _, _, _, _⟩) rfl (fun K hK => ?_) AllReadyH.nil
          · rw [if_pos (by rfl)]
            have hb0 := h.below
            refine wp_own_terms (.tmp 32) (.tmp 33) rfl h.own hb0.size (h.apart HP.out) rfl rfl (HTL.out.keep (fun b hb => hb0.block b (HP.out b hb)) (fun _ h => h)) (by have := HLL.out; show 0 + _ ≤ _; omega) ?_
            intro v1 X27 O hg hb
            rw [List.nil_append] at O
            have h1 := h.app O hg hb
            have hS1 : Below W4.heap.size W4 X27 := HDW.out.trans (h1.below.mono (by rw [HDZ.out]; exact Nat.le_refl _))
            refine hK.out _ _ hS1 (fun hSn => ?_)
            clear hK K hSn O hg hb hb0; (try simp only [Act.put, List.setIfInBounds_toArray, List.set_cons_zero, List.set_cons_succ])
            clear h hS0
            have h := h1
            have hS0 := hS1
            clear h1 hS1
            refine wpAnyH_ready (rs := [5]) (by kernel_rfl) (by simp) ?_
            refine AllReadyH.cons (o := ⟨some 37, _, _, _, _, _⟩) rfl (fun K hK => ?_) AllReadyH.nil
            · rw [if_pos (by rfl)]
              have hb0 := h.below
              refine wp_own_term (.tmp 34) (.tmp 36) rfl h.own hb0.size (h.apart HP.out) rfl g4 rfl (h.kept (g4, .cells #[(.int .i8 ky), (.int .i64 ny), (.string sy), (.string ty), (.slice Ay Ly.length capy)] 25) (by simp)).2.1 (HTY.out.keep (fun b hb => hb0.block b (HP.out b hb)) (fun _ h => h)) (by have := HLL.out; omega) ?_
              intro v2 X28 O hg hb
              have h1 := h.app O hg (hb.imp Eq.symm id)
              obtain ⟨A5, cap5, rfl⟩ := O.shape
              rw [← HN5.out] at h1
              have hS1 : Below W4.heap.size W4 X28 := HDW.out.trans (h1.below.mono (by rw [HDZ.out]; exact Nat.le_refl _))
              refine hK.out _ _ hS1 (fun hSn => ?_)
              clear hK K hSn O hg hb hb0; (try simp only [Act.put, List.setIfInBounds_toArray, List.set_cons_zero, List.set_cons_succ])
              rw [← HN5.out]
              clear h hS0
              have h := h1
              have hS0 := hS1
              clear h1 hS1
              refine wpAnyH_ready (rs := [6]) (by kernel_rfl) (by simp) ?_
              refine AllReadyH.cons (o := ⟨some 38, _, _, _, _, _⟩) rfl (fun K hK => ?_) AllReadyH.nil
              · rw [if_pos (by rfl)]
                go_simp
                have hb0 := h.below
                obtain ⟨Q5, hQ5⟩ : ∃ Q5 : Nat → Prop, Q5 = fun b => P b ∨ (Value.slice A5 n5 cap5).ownBlock = some b := ⟨_, rfl⟩
                have hRow : TRow Q5 X28 A5 n5 cap5 (l ++ [y]) := by rw [hQ5]; exact h.own.trow_own
                have hQs : ∀ b, Q5 b → b < X28.heap.size ∧ b ≠ g10 := fun b hb => by
                  rw [hQ5] at hb
                  rcases hb with hb | hb
                  · have h1 := HP.out b hb; have h2 := hb0.size
                    have h3 : D.heap.size ≤ g10 := (h.kept (g10, .cells #[.int .i8 0, .int .i64 0, .string ⟨#[]⟩, .string ⟨#[]⟩, .slice none 0 0] 25) (by simp)).1
                    exact ⟨by omega, by omega⟩
                  · exact ⟨(h.own.own b hb).2, fun e => (h.kept (g10, .cells #[.int .i8 0, .int .i64 0, .string ⟨#[]⟩, .string ⟨#[]⟩, .slice none 0 0] 25) (by simp)).2.2 (by rw [← e]; exact hb)⟩
                have hgl : g10 < X28.heap.size := heap_lt (h.kept (g10, .cells #[.int .i8 0, .int .i64 0, .string ⟨#[]⟩, .string ⟨#[]⟩, .slice none 0 0] 25) (by simp)).2.1
                refine (Tuple_any Q5 (l ++ [y]) A5 n5 cap5 _ (fun b hb => (hQs b hb).1) hRow (HSD.out _ hb0) (by have := HLL.out; simp; omega)).mono ?_
                rintro e V6 ⟨bv, rfl, ⟨kb, nb, sb, tb, Ab, Lb, capb, rfl⟩, hTB, b6⟩
                have h1 := h.under HP.out b6
                have hS1 : Below W4.heap.size W4 V6 := hS0.trans (b6.mono hS0.size)
                refine hK.out _ _ hS1 (fun hSn => ?_)
                clear hK K hSn; (try simp only [Act.put, List.setIfInBounds_toArray, List.set_cons_zero, List.set_cons_succ])
                obtain ⟨Q6, hQ6⟩ : ∃ Q6 : Nat → Prop, Q6 = fun b => Q5 b ∨ (X28.heap.size ≤ b ∧ b < V6.heap.size) := ⟨_, rfl⟩
                have HTB : Hid (fitN 1 (l ++ [y]) = 0 → TmAt Q6 V6 (tupT (l ++ [y])) _) := fun h0 => by rw [hQ6]; exact hTB h0
                have HQ6 : Hid (∀ b, Q6 b → b < V6.heap.size ∧ b ≠ g10) := fun b hb => by
                  rw [hQ6] at hb
                  have hz := b6.size
                  rcases hb with hb | hb
                  · have h2 := hQs b hb; exact ⟨by omega, by omega⟩
                  · exact ⟨by omega, by omega⟩
                have HU : Hid (Below V6.heap.size V6 V6) := Below.refl _ _
                clear hTB b6 hb0 hQ5 hRow hQs hQ6 h hS0 hgl
                have h := h1
                have hS0 := hS1
                clear h1 hS1
                refine wpAnyH_take (i := 7) (oi := ⟨some 31, _, _, _, _, _⟩) (v := ?_) rfl (by kernel_rfl) (by kernel_rfl) (by kernel_rfl) (fun _ _ _ h => h) (Or.inl ⟨by kernel_rfl, ?_⟩) (by assumption) ?_; rotate_left; (intro w hSw; (try dsimp only at hSw); go_simp; first | done | with_reducible rfl); (try simp only [Act.put, List.setIfInBounds_toArray, List.set_cons_zero, List.set_cons_succ])
                refine wpAnyH_take (i := 8) (oi := ⟨some 39, _, _, _, _, _⟩) (v := ?_) rfl (by kernel_rfl) (by kernel_rfl) (by kernel_rfl) (fun _ _ _ h => h) (Or.inl ⟨by kernel_rfl, ?_⟩) (by assumption) ?_; rotate_left; (intro w hSw; (try dsimp only at hSw); go_simp; first | done | with_reducible rfl); (try simp only [Act.put, List.setIfInBounds_toArray, List.set_cons_zero, List.set_cons_succ])
                refine wpAnyH_take (i := 9) (oi := ⟨some 40, _, _, _, _, _⟩) (v := ?_) rfl (by kernel_rfl) (by kernel_rfl) (by kernel_rfl) (fun _ _ _ h => h) (Or.inl ⟨by kernel_rfl, ?_⟩) (by assumption) ?_; rotate_left; (intro w hSw; (try dsimp only at hSw); go_simp; first | done | with_reducible rfl); (try simp only [Act.put, List.setIfInBounds_toArray, List.set_cons_zero, List.set_cons_succ])
                obtain ⟨gge, gz, -⟩ := h.kept (g10, .cells #[.int .i8 0, .int .i64 0, .string ⟨#[]⟩, .string ⟨#[]⟩, .slice none 0 0] 25) (by simp)
                have r0 : V6.cell? ⟨g10, 0, none⟩ = some (.int .i8 0) := cell_of_row gz rfl
                have r1 : V6.cell? ⟨g10, 1, none⟩ = some (.int .i64 0) := cell_of_row gz rfl
                have r2 : V6.cell? ⟨g10, 2, none⟩ = some (.string ⟨#[]⟩) := cell_of_row gz rfl
                have r3 : V6.cell? ⟨g10, 3, none⟩ = some (.string ⟨#[]⟩) := cell_of_row gz rfl
                have r4 : V6.cell? ⟨g10, 4, none⟩ = some (.slice none 0 0) := cell_of_row gz rfl
                have f0 : V6.frozen? ⟨g10, 0, none⟩ = false := free_of_row gz
                have f1 : V6.frozen? ⟨g10, 1, none⟩ = false := free_of_row gz
                have f2 : V6.frozen? ⟨g10, 2, none⟩ = false := free_of_row gz
                have f3 : V6.frozen? ⟨g10, 3, none⟩ = false := free_of_row gz
                have f4 : V6.frozen? ⟨g10, 4, none⟩ = false := free_of_row gz
                obtain ⟨s5, m5⟩ := set_five (.int .i8 kb) (.int .i64 nb) (.string sb) (.string tb) (.slice Ab (List.length (α := Tm) Lb) capb) gz
                have hS9 := hS0.trans (m5.below hS0.size (fun k (e : k = g10) => by have h1 : D.heap.size ≤ g10 := gge; have := HDZ.out; omega))
                have HS5 := Lib.hid s5
                have HM5 := Lib.hid m5
                clear s5 m5
                refine wpAnyH_ready (rs := [11]) (by kernel_rfl) (by simp) ?_
                refine AllReadyH.cons (o := ⟨none, _, _, _, _, _⟩) rfl (fun K hK => ?_) AllReadyH.nil
                rw [if_pos (by rfl)]
                go_simp
                refine hK.out _ _ hS9 (fun hSn => ?_)
                clear hK K; (try simp only [Act.put, List.setIfInBounds_toArray, List.set_cons_zero, List.set_cons_succ])
                refine wpAnyH_take (i := 12) (oi := ⟨some 10, _, _, _, _, _⟩) (v := ?_) rfl (by kernel_rfl) (by kernel_rfl) (by kernel_rfl) (fun _ _ _ h => h) (Or.inl ⟨by kernel_rfl, ?_⟩) (by assumption) ?_; rotate_left; (intro w hSw; (try dsimp only at hSw); go_simp; first | done | with_reducible rfl); (try simp only [Act.put, List.setIfInBounds_toArray, List.set_cons_zero, List.set_cons_succ])
                refine wpAnyH_done (by kernel_rfl) ?_ _
                clear r0 r1 r2 r3 r4 f0 f1 f2 f3 f4 gz
                have hQ := HQ6.out
                have HU6 := HU.out
                have hgl : g10 < V6.heap.size := by have := heap_lt HS5.out; simpa [World.setCell] using this
                go_wp2_with fail
                go_meet
                refine ⟨g10, _, rfl, rfl, HS5.out, ⟨kb, nb, sb, tb, Ab, Lb, capb, rfl⟩, fun h0 => (HTB.out h0).keep (fun b hb => ?_) (fun b hb => ?_), hS9⟩
                · have := (hQ b hb).1; have h2 := HU6.size
                  exact (HM5.out.block b (by omega) (by have := (hQ b hb).2; omega)).trans (HU6.block b (hQ b hb).1)
                · have h1 := HM5.out.size; have h2 := HU6.size; have h3 := hQ b hb
                  exact ⟨by omega, by omega⟩
      · rw [if_pos (by rfl)]
        go_simp
        have h1 := h.alloc HP.out (.cells #[.int .i8 0, .int .i64 0, .string ⟨#[]⟩, .string ⟨#[]⟩, .slice none 0 0] 25)
        have hS1 := hS0.alloc hS0.size (.cells #[.int .i8 0, .int .i64 0, .string ⟨#[]⟩, .string ⟨#[]⟩, .slice none 0 0] 25)
        obtain ⟨g10, hg⟩ : ∃ g, g = X1.heap.size := ⟨_, rfl⟩
        rw [← hg] at h1
        refine hK.out _ _ hS1 (fun hSn => ?_)
        clear hK K; (try simp only [Act.put, List.setIfInBounds_toArray, List.set_cons_zero, List.set_cons_succ])
        rw [← hg]
        clear hg hSn
        generalize X1.alloc (.cells #[.int .i8 0, .int .i64 0, .string ⟨#[]⟩, .string ⟨#[]⟩, .slice none 0 0] 25) = X30 at h1 hS1 ⊢
        clear h hS0
        have h := h1
        have hS0 := hS1
        clear h1 hS1
        refine wpAnyH_ready (rs := [2, 4]) (by kernel_rfl) (by simp) ?_
        refine AllReadyH.cons (o := ⟨some 34, _, _, _, _, _⟩) rfl (fun K hK => ?_) (AllReadyH.cons (o := ⟨some 36, _, _, _, _, _⟩) rfl (fun K hK => ?_) AllReadyH.nil)
        · rw [if_pos (by rfl)]
          have hb0 := h.below
          refine wp_own_terms (.tmp 32) (.tmp 33) rfl h.own hb0.size (h.apart HP.out) rfl rfl (HTL.out.keep (fun b hb => hb0.block b (HP.out b hb)) (fun _ h => h)) (by have := HLL.out; show 0 + _ ≤ _; omega) ?_
          intro v1 X31 O hg hb
          rw [List.nil_append] at O
          have h1 := h.app O hg hb
          have hS1 : Below W4.heap.size W4 X31 := HDW.out.trans (h1.below.mono (by rw [HDZ.out]; exact Nat.le_refl _))
          refine hK.out _ _ hS1 (fun hSn => ?_)
          clear hK K hSn O hg hb hb0; (try simp only [Act.put, List.setIfInBounds_toArray, List.set_cons_zero, List.set_cons_succ])
          clear h hS0
          have h := h1
          have hS0 := hS1
          clear h1 hS1
          refine wpAnyH_ready (rs := [4]) (by kernel_rfl) (by simp) ?_
          refine AllReadyH.cons (o := ⟨some 36, _, _, _, _, _⟩) rfl (fun K hK => ?_) AllReadyH.nil
          · rw [if_pos (by rfl)]
            go_simp
            have h1 := h.alloc HP.out (.cells #[(.int .i8 ky), (.int .i64 ny), (.string sy), (.string ty), (.slice Ay Ly.length capy)] 25)
            have hS1 := hS0.alloc hS0.size (.cells #[(.int .i8 ky), (.int .i64 ny), (.string sy), (.string ty), (.slice Ay Ly.length capy)] 25)
            obtain ⟨g4, hg⟩ : ∃ g, g = X31.heap.size := ⟨_, rfl⟩
            rw [← hg] at h1
            refine hK.out _ _ hS1 (fun hSn => ?_)
            clear hK K; (try simp only [Act.put, List.setIfInBounds_toArray, List.set_cons_zero, List.set_cons_succ])
            rw [← hg]
            clear hg hSn
            generalize X31.alloc (.cells #[(.int .i8 ky), (.int .i64 ny), (.string sy), (.string ty), (.slice Ay Ly.length capy)] 25) = X32 at h1 hS1 ⊢
            clear h hS0
            have h := h1
            have hS0 := hS1
            clear h1 hS1
            refine wpAnyH_ready (rs := [5]) (by kernel_rfl) (by simp) ?_
            refine AllReadyH.cons (o := ⟨some 37, _, _, _, _, _⟩) rfl (fun K hK => ?_) AllReadyH.nil
            · rw [if_pos (by rfl)]
              have hb0 := h.below
              refine wp_own_term (.tmp 34) (.tmp 36) rfl h.own hb0.size (h.apart HP.out) rfl g4 rfl (h.kept (g4, .cells #[(.int .i8 ky), (.int .i64 ny), (.string sy), (.string ty), (.slice Ay Ly.length capy)] 25) (by simp)).2.1 (HTY.out.keep (fun b hb => hb0.block b (HP.out b hb)) (fun _ h => h)) (by have := HLL.out; omega) ?_
              intro v2 X33 O hg hb
              have h1 := h.app O hg (hb.imp Eq.symm id)
              obtain ⟨A5, cap5, rfl⟩ := O.shape
              rw [← HN5.out] at h1
              have hS1 : Below W4.heap.size W4 X33 := HDW.out.trans (h1.below.mono (by rw [HDZ.out]; exact Nat.le_refl _))
              refine hK.out _ _ hS1 (fun hSn => ?_)
              clear hK K hSn O hg hb hb0; (try simp only [Act.put, List.setIfInBounds_toArray, List.set_cons_zero, List.set_cons_succ])
              rw [← HN5.out]
              clear h hS0
              have h := h1
              have hS0 := hS1
              clear h1 hS1
              refine wpAnyH_ready (rs := [6]) (by kernel_rfl) (by simp) ?_
              refine AllReadyH.cons (o := ⟨some 38, _, _, _, _, _⟩) rfl (fun K hK => ?_) AllReadyH.nil
              · rw [if_pos (by rfl)]
                go_simp
                have hb0 := h.below
                obtain ⟨Q5, hQ5⟩ : ∃ Q5 : Nat → Prop, Q5 = fun b => P b ∨ (Value.slice A5 n5 cap5).ownBlock = some b := ⟨_, rfl⟩
                have hRow : TRow Q5 X33 A5 n5 cap5 (l ++ [y]) := by rw [hQ5]; exact h.own.trow_own
                have hQs : ∀ b, Q5 b → b < X33.heap.size ∧ b ≠ g10 := fun b hb => by
                  rw [hQ5] at hb
                  rcases hb with hb | hb
                  · have h1 := HP.out b hb; have h2 := hb0.size
                    have h3 : D.heap.size ≤ g10 := (h.kept (g10, .cells #[.int .i8 0, .int .i64 0, .string ⟨#[]⟩, .string ⟨#[]⟩, .slice none 0 0] 25) (by simp)).1
                    exact ⟨by omega, by omega⟩
                  · exact ⟨(h.own.own b hb).2, fun e => (h.kept (g10, .cells #[.int .i8 0, .int .i64 0, .string ⟨#[]⟩, .string ⟨#[]⟩, .slice none 0 0] 25) (by simp)).2.2 (by rw [← e]; exact hb)⟩
                have hgl : g10 < X33.heap.size := heap_lt (h.kept (g10, .cells #[.int .i8 0, .int .i64 0, .string ⟨#[]⟩, .string ⟨#[]⟩, .slice none 0 0] 25) (by simp)).2.1
                refine (Tuple_any Q5 (l ++ [y]) A5 n5 cap5 _ (fun b hb => (hQs b hb).1) hRow (HSD.out _ hb0) (by have := HLL.out; simp; omega)).mono ?_
                rintro e V6 ⟨bv, rfl, ⟨kb, nb, sb, tb, Ab, Lb, capb, rfl⟩, hTB, b6⟩
                have h1 := h.under HP.out b6
                have hS1 : Below W4.heap.size W4 V6 := hS0.trans (b6.mono hS0.size)
                refine hK.out _ _ hS1 (fun hSn => ?_)
                clear hK K hSn; (try simp only [Act.put, List.setIfInBounds_toArray, List.set_cons_zero, List.set_cons_succ])
                obtain ⟨Q6, hQ6⟩ : ∃ Q6 : Nat → Prop, Q6 = fun b => Q5 b ∨ (X33.heap.size ≤ b ∧ b < V6.heap.size) := ⟨_, rfl⟩
                have HTB : Hid (fitN 1 (l ++ [y]) = 0 → TmAt Q6 V6 (tupT (l ++ [y])) _) := fun h0 => by rw [hQ6]; exact hTB h0
                have HQ6 : Hid (∀ b, Q6 b → b < V6.heap.size ∧ b ≠ g10) := fun b hb => by
                  rw [hQ6] at hb
                  have hz := b6.size
                  rcases hb with hb | hb
                  · have h2 := hQs b hb; exact ⟨by omega, by omega⟩
                  · exact ⟨by omega, by omega⟩
                have HU : Hid (Below V6.heap.size V6 V6) := Below.refl _ _
                clear hTB b6 hb0 hQ5 hRow hQs hQ6 h hS0 hgl
                have h := h1
                have hS0 := hS1
                clear h1 hS1
                refine wpAnyH_take (i := 7) (oi := ⟨some 31, _, _, _, _, _⟩) (v := ?_) rfl (by kernel_rfl) (by kernel_rfl) (by kernel_rfl) (fun _ _ _ h => h) (Or.inl ⟨by kernel_rfl, ?_⟩) (by assumption) ?_; rotate_left; (intro w hSw; (try dsimp only at hSw); go_simp; first | done | with_reducible rfl); (try simp only [Act.put, List.setIfInBounds_toArray, List.set_cons_zero, List.set_cons_succ])
                refine wpAnyH_take (i := 8) (oi := ⟨some 39, _, _, _, _, _⟩) (v := ?_) rfl (by kernel_rfl) (by kernel_rfl) (by kernel_rfl) (fun _ _ _ h => h) (Or.inl ⟨by kernel_rfl, ?_⟩) (by assumption) ?_; rotate_left; (intro w hSw; (try dsimp only at hSw); go_simp; first | done | with_reducible rfl); (try simp only [Act.put, List.setIfInBounds_toArray, List.set_cons_zero, List.set_cons_succ])
                refine wpAnyH_take (i := 9) (oi := ⟨some 40, _, _, _, _, _⟩) (v := ?_) rfl (by kernel_rfl) (by kernel_rfl) (by kernel_rfl) (fun _ _ _ h => h) (Or.inl ⟨by kernel_rfl, ?_⟩) (by assumption) ?_; rotate_left; (intro w hSw; (try dsimp only at hSw); go_simp; first | done | with_reducible rfl); (try simp only [Act.put, List.setIfInBounds_toArray, List.set_cons_zero, List.set_cons_succ])
                obtain ⟨gge, gz, -⟩ := h.kept (g10, .cells #[.int .i8 0, .int .i64 0, .string ⟨#[]⟩, .string ⟨#[]⟩, .slice none 0 0] 25) (by simp)
                have r0 : V6.cell? ⟨g10, 0, none⟩ = some (.int .i8 0) := cell_of_row gz rfl
                have r1 : V6.cell? ⟨g10, 1, none⟩ = some (.int .i64 0) := cell_of_row gz rfl
                have r2 : V6.cell? ⟨g10, 2, none⟩ = some (.string ⟨#[]⟩) := cell_of_row gz rfl
                have r3 : V6.cell? ⟨g10, 3, none⟩ = some (.string ⟨#[]⟩) := cell_of_row gz rfl
                have r4 : V6.cell? ⟨g10, 4, none⟩ = some (.slice none 0 0) := cell_of_row gz rfl
                have f0 : V6.frozen? ⟨g10, 0, none⟩ = false := free_of_row gz
                have f1 : V6.frozen? ⟨g10, 1, none⟩ = false := free_of_row gz
                have f2 : V6.frozen? ⟨g10, 2, none⟩ = false := free_of_row gz
                have f3 : V6.frozen? ⟨g10, 3, none⟩ = false := free_of_row gz
                have f4 : V6.frozen? ⟨g10, 4, none⟩ = false := free_of_row gz
                obtain ⟨s5, m5⟩ := set_five (.int .i8 kb) (.int .i64 nb) (.string sb) (.string tb) (.slice Ab (List.length (α := Tm) Lb) capb) gz
                have hS9 := hS0.trans (m5.below hS0.size (fun k (e : k = g10) => by have h1 : D.heap.size ≤ g10 := gge; have := HDZ.out; omega))
                have HS5 := Lib.hid s5
                have HM5 := Lib.hid m5
                clear s5 m5
                refine wpAnyH_ready (rs := [11]) (by kernel_rfl) (by simp) ?_
                refine AllReadyH.cons (o := ⟨none, _, _, _, _, _⟩) rfl (fun K hK => ?_) AllReadyH.nil
                rw [if_pos (by rfl)]
                go_simp
                refine hK.out _ _ hS9 (fun hSn => ?_)
                clear hK K; (try simp only [Act.put, List.setIfInBounds_toArray, List.set_cons_zero, List.set_cons_succ])
                refine wpAnyH_take (i := 12) (oi := ⟨some 10, _, _, _, _, _⟩) (v := ?_) rfl (by kernel_rfl) (by kernel_rfl) (by kernel_rfl) (fun _ _ _ h => h) (Or.inl ⟨by kernel_rfl, ?_⟩) (by assumption) ?_; rotate_left; (intro w hSw; (try dsimp only at hSw); go_simp; first | done | with_reducible rfl); (try simp only [Act.put, List.setIfInBounds_toArray, List.set_cons_zero, List.set_cons_succ])
                refine wpAnyH_done (by kernel_rfl) ?_ _
                clear r0 r1 r2 r3 r4 f0 f1 f2 f3 f4 gz
                have hQ := HQ6.out
                have HU6 := HU.out
                have hgl : g10 < V6.heap.size := by have := heap_lt HS5.out; simpa [World.setCell] using this
                go_wp2_with fail
                go_meet
                refine ⟨g10, _, rfl, rfl, HS5.out, ⟨kb, nb, sb, tb, Ab, Lb, capb, rfl⟩, fun h0 => (HTB.out h0).keep (fun b hb => ?_) (fun b hb => ?_), hS9⟩
                · have := (hQ b hb).1; have h2 := HU6.size
                  exact (HM5.out.block b (by omega) (by have := (hQ b hb).2; omega)).trans (HU6.block b (hQ b hb).1)
                · have h1 := HM5.out.size; have h2 := HU6.size; have h3 := hQ b hb
                  exact ⟨by omega, by omega⟩
        · rw [if_pos (by rfl)]
          go_simp
          have h1 := h.alloc HP.out (.cells #[(.int .i8 ky), (.int .i64 ny), (.string sy), (.string ty), (.slice Ay Ly.length capy)] 25)
          have hS1 := hS0.alloc hS0.size (.cells #[(.int .i8 ky), (.int .i64 ny), (.string sy), (.string ty), (.slice Ay Ly.length capy)] 25)
          obtain ⟨g4, hg⟩ : ∃ g, g = X30.heap.size := ⟨_, rfl⟩
          rw [← hg] at h1
          refine hK.out _ _ hS1 (fun hSn => ?_)
          clear hK K; (try simp only [Act.put, List.setIfInBounds_toArray, List.set_cons_zero, List.set_cons_succ])
          rw [← hg]
          clear hg hSn
          generalize X30.alloc (.cells #[(.int .i8 ky), (.int .i64 ny), (.string sy), (.string ty), (.slice Ay Ly.length capy)] 25) = X35 at h1 hS1 ⊢
          clear h hS0
          have h := h1
          have hS0 := hS1
          clear h1 hS1
          refine wpAnyH_ready (rs := [2]) (by kernel_rfl) (by simp) ?_
          refine AllReadyH.cons (o := ⟨some 34, _, _, _, _, _⟩) rfl (fun K hK => ?_) AllReadyH.nil
          · rw [if_pos (by rfl)]
            have hb0 := h.below
            refine wp_own_terms (.tmp 32) (.tmp 33) rfl h.own hb0.size (h.apart HP.out) rfl rfl (HTL.out.keep (fun b hb => hb0.block b (HP.out b hb)) (fun _ h => h)) (by have := HLL.out; show 0 + _ ≤ _; omega) ?_
            intro v1 X36 O hg hb
            rw [List.nil_append] at O
            have h1 := h.app O hg hb
            have hS1 : Below W4.heap.size W4 X36 := HDW.out.trans (h1.below.mono (by rw [HDZ.out]; exact Nat.le_refl _))
            refine hK.out _ _ hS1 (fun hSn => ?_)
            clear hK K hSn O hg hb hb0; (try simp only [Act.put, List.setIfInBounds_toArray, List.set_cons_zero, List.set_cons_succ])
            clear h hS0
            have h := h1
            have hS0 := hS1
            clear h1 hS1
            refine wpAnyH_ready (rs := [5]) (by kernel_rfl) (by simp) ?_
            refine AllReadyH.cons (o := ⟨some 37, _, _, _, _, _⟩) rfl (fun K hK => ?_) AllReadyH.nil
            · rw [if_pos (by rfl)]
              have hb0 := h.below
              refine wp_own_term (.tmp 34) (.tmp 36) rfl h.own hb0.size (h.apart HP.out) rfl g4 rfl (h.kept (g4, .cells #[(.int .i8 ky), (.int .i64 ny), (.string sy), (.string ty), (.slice Ay Ly.length capy)] 25) (by simp)).2.1 (HTY.out.keep (fun b hb => hb0.block b (HP.out b hb)) (fun _ h => h)) (by have := HLL.out; omega) ?_
              intro v2 X37 O hg hb
              have h1 := h.app O hg (hb.imp Eq.symm id)
              obtain ⟨A5, cap5, rfl⟩ := O.shape
              rw [← HN5.out] at h1
              have hS1 : Below W4.heap.size W4 X37 := HDW.out.trans (h1.below.mono (by rw [HDZ.out]; exact Nat.le_refl _))
              refine hK.out _ _ hS1 (fun hSn => ?_)
              clear hK K hSn O hg hb hb0; (try simp only [Act.put, List.setIfInBounds_toArray, List.set_cons_zero, List.set_cons_succ])
              rw [← HN5.out]
              clear h hS0
              have h := h1
              have hS0 := hS1
              clear h1 hS1
              refine wpAnyH_ready (rs := [6]) (by kernel_rfl) (by simp) ?_
              refine AllReadyH.cons (o := ⟨some 38, _, _, _, _, _⟩) rfl (fun K hK => ?_) AllReadyH.nil
              · rw [if_pos (by rfl)]
                go_simp
                have hb0 := h.below
                obtain ⟨Q5, hQ5⟩ : ∃ Q5 : Nat → Prop, Q5 = fun b => P b ∨ (Value.slice A5 n5 cap5).ownBlock = some b := ⟨_, rfl⟩
                have hRow : TRow Q5 X37 A5 n5 cap5 (l ++ [y]) := by rw [hQ5]; exact h.own.trow_own
                have hQs : ∀ b, Q5 b → b < X37.heap.size ∧ b ≠ g10 := fun b hb => by
                  rw [hQ5] at hb
                  rcases hb with hb | hb
                  · have h1 := HP.out b hb; have h2 := hb0.size
                    have h3 : D.heap.size ≤ g10 := (h.kept (g10, .cells #[.int .i8 0, .int .i64 0, .string ⟨#[]⟩, .string ⟨#[]⟩, .slice none 0 0] 25) (by simp)).1
                    exact ⟨by omega, by omega⟩
                  · exact ⟨(h.own.own b hb).2, fun e => (h.kept (g10, .cells #[.int .i8 0, .int .i64 0, .string ⟨#[]⟩, .string ⟨#[]⟩, .slice none 0 0] 25) (by simp)).2.2 (by rw [← e]; exact hb)⟩
                have hgl : g10 < X37.heap.size := heap_lt (h.kept (g10, .cells #[.int .i8 0, .int .i64 0, .string ⟨#[]⟩, .string ⟨#[]⟩, .slice none 0 0] 25) (by simp)).2.1
                refine (Tuple_any Q5 (l ++ [y]) A5 n5 cap5 _ (fun b hb => (hQs b hb).1) hRow (HSD.out _ hb0) (by have := HLL.out; simp; omega)).mono ?_
                rintro e V6 ⟨bv, rfl, ⟨kb, nb, sb, tb, Ab, Lb, capb, rfl⟩, hTB, b6⟩
                have h1 := h.under HP.out b6
                have hS1 : Below W4.heap.size W4 V6 := hS0.trans (b6.mono hS0.size)
                refine hK.out _ _ hS1 (fun hSn => ?_)
                clear hK K hSn; (try simp only [Act.put, List.setIfInBounds_toArray, List.set_cons_zero, List.set_cons_succ])
                obtain ⟨Q6, hQ6⟩ : ∃ Q6 : Nat → Prop, Q6 = fun b => Q5 b ∨ (X37.heap.size ≤ b ∧ b < V6.heap.size) := ⟨_, rfl⟩
                have HTB : Hid (fitN 1 (l ++ [y]) = 0 → TmAt Q6 V6 (tupT (l ++ [y])) _) := fun h0 => by rw [hQ6]; exact hTB h0
                have HQ6 : Hid (∀ b, Q6 b → b < V6.heap.size ∧ b ≠ g10) := fun b hb => by
                  rw [hQ6] at hb
                  have hz := b6.size
                  rcases hb with hb | hb
                  · have h2 := hQs b hb; exact ⟨by omega, by omega⟩
                  · exact ⟨by omega, by omega⟩
                have HU : Hid (Below V6.heap.size V6 V6) := Below.refl _ _
                clear hTB b6 hb0 hQ5 hRow hQs hQ6 h hS0 hgl
                have h := h1
                have hS0 := hS1
                clear h1 hS1
                refine wpAnyH_take (i := 7) (oi := ⟨some 31, _, _, _, _, _⟩) (v := ?_) rfl (by kernel_rfl) (by kernel_rfl) (by kernel_rfl) (fun _ _ _ h => h) (Or.inl ⟨by kernel_rfl, ?_⟩) (by assumption) ?_; rotate_left; (intro w hSw; (try dsimp only at hSw); go_simp; first | done | with_reducible rfl); (try simp only [Act.put, List.setIfInBounds_toArray, List.set_cons_zero, List.set_cons_succ])
                refine wpAnyH_take (i := 8) (oi := ⟨some 39, _, _, _, _, _⟩) (v := ?_) rfl (by kernel_rfl) (by kernel_rfl) (by kernel_rfl) (fun _ _ _ h => h) (Or.inl ⟨by kernel_rfl, ?_⟩) (by assumption) ?_; rotate_left; (intro w hSw; (try dsimp only at hSw); go_simp; first | done | with_reducible rfl); (try simp only [Act.put, List.setIfInBounds_toArray, List.set_cons_zero, List.set_cons_succ])
                refine wpAnyH_take (i := 9) (oi := ⟨some 40, _, _, _, _, _⟩) (v := ?_) rfl (by kernel_rfl) (by kernel_rfl) (by kernel_rfl) (fun _ _ _ h => h) (Or.inl ⟨by kernel_rfl, ?_⟩) (by assumption) ?_; rotate_left; (intro w hSw; (try dsimp only at hSw); go_simp; first | done | with_reducible rfl); (try simp only [Act.put, List.setIfInBounds_toArray, List.set_cons_zero, List.set_cons_succ])
                obtain ⟨gge, gz, -⟩ := h.kept (g10, .cells #[.int .i8 0, .int .i64 0, .string ⟨#[]⟩, .string ⟨#[]⟩, .slice none 0 0] 25) (by simp)
                have r0 : V6.cell? ⟨g10, 0, none⟩ = some (.int .i8 0) := cell_of_row gz rfl
                have r1 : V6.cell? ⟨g10, 1, none⟩ = some (.int .i64 0) := cell_of_row gz rfl
                have r2 : V6.cell? ⟨g10, 2, none⟩ = some (.string ⟨#[]⟩) := cell_of_row gz rfl
                have r3 : V6.cell? ⟨g10, 3, none⟩ = some (.string ⟨#[]⟩) := cell_of_row gz rfl
                have r4 : V6.cell? ⟨g10, 4, none⟩ = some (.slice none 0 0) := cell_of_row gz rfl
                have f0 : V6.frozen? ⟨g10, 0, none⟩ = false := free_of_row gz
                have f1 : V6.frozen? ⟨g10, 1, none⟩ = false := free_of_row gz
                have f2 : V6.frozen? ⟨g10, 2, none⟩ = false := free_of_row gz
                have f3 : V6.frozen? ⟨g10, 3, none⟩ = false := free_of_row gz
                have f4 : V6.frozen? ⟨g10, 4, none⟩ = false := free_of_row gz
                obtain ⟨s5, m5⟩ := set_five (.int .i8 kb) (.int .i64 nb) (.string sb) (.string tb) (.slice Ab (List.length (α := Tm) Lb) capb) gz
                have hS9 := hS0.trans (m5.below hS0.size (fun k (e : k = g10) => by have h1 : D.heap.size ≤ g10 := gge; have := HDZ.out; omega))
                have HS5 := Lib.hid s5
                have HM5 := Lib.hid m5
                clear s5 m5
                refine wpAnyH_ready (rs := [11]) (by kernel_rfl) (by simp) ?_
                refine AllReadyH.cons (o := ⟨none, _, _, _, _, _⟩) rfl (fun K hK => ?_) AllReadyH.nil
                rw [if_pos (by rfl)]
                go_simp
                refine hK.out _ _ hS9 (fun hSn => ?_)
                clear hK K; (try simp only [Act.put, List.setIfInBounds_toArray, List.set_cons_zero, List.set_cons_succ])
                refine wpAnyH_take (i := 12) (oi := ⟨some 10, _, _, _, _, _⟩) (v := ?_) rfl (by kernel_rfl) (by kernel_rfl) (by kernel_rfl) (fun _ _ _ h => h) (Or.inl ⟨by kernel_rfl, ?_⟩) (by assumption) ?_; rotate_left; (intro w hSw; (try dsimp only at hSw); go_simp; first | done | with_reducible rfl); (try simp only [Act.put, List.setIfInBounds_toArray, List.set_cons_zero, List.set_cons_succ])
                refine wpAnyH_done (by kernel_rfl) ?_ _
                clear r0 r1 r2 r3 r4 f0 f1 f2 f3 f4 gz
                have hQ := HQ6.out
                have HU6 := HU.out
                have hgl : g10 < V6.heap.size := by have := heap_lt HS5.out; simpa [World.setCell] using this
                go_wp2_with fail
                go_meet
                refine ⟨g10, _, rfl, rfl, HS5.out, ⟨kb, nb, sb, tb, Ab, Lb, capb, rfl⟩, fun h0 => (HTB.out h0).keep (fun b hb => ?_) (fun b hb => ?_), hS9⟩
                · have := (hQ b hb).1; have h2 := HU6.size
                  exact (HM5.out.block b (by omega) (by have := (hQ b hb).2; omega)).trans (HU6.block b (hQ b hb).1)
                · have h1 := HM5.out.size; have h2 := HU6.size; have h3 := hQ b hb
                  exact ⟨by omega, by omega⟩
    · rw [if_pos (by rfl)]
      go_simp
      have h1 := h.alloc HP.out (.cells #[(.int .i8 ky), (.int .i64 ny), (.string sy), (.string ty), (.slice Ay Ly.length capy)] 25)
      have hS1 := hS0.alloc hS0.size (.cells #[(.int .i8 ky), (.int .i64 ny), (.string sy), (.string ty), (.slice Ay Ly.length capy)] 25)
      obtain ⟨g4, hg⟩ : ∃ g, g = D.heap.size := ⟨_, rfl⟩
      rw [← hg] at h1
      refine hK.out _ _ hS1 (fun hSn => ?_)
      clear hK K; (try simp only [Act.put, List.setIfInBounds_toArray, List.set_cons_zero, List.set_cons_succ])
      rw [← hg]
      clear hg hSn
      generalize D.alloc (.cells #[(.int .i8 ky), (.int .i64 ny), (.string sy), (.string ty), (.slice Ay Ly.length capy)] 25) = X39 at h1 hS1 ⊢
      clear h hS0
      have h := h1
      have hS0 := hS1
      clear h1 hS1
      refine wpAnyH_ready (rs := [0, 10]) (by kernel_rfl) (by simp) ?_
      refine AllReadyH.cons (o := ⟨some 32, _, _, _, _, _⟩) rfl (fun K hK => ?_) (AllReadyH.cons (o := ⟨some 9, _, _, _, _, _⟩) rfl (fun K hK => ?_) AllReadyH.nil)
      · rw [if_pos (by rfl)]
        go_simp
        have h1 := h.fresh HP.out
        have hS1 := hS0.alloc hS0.size (.cells #[] 25)
        obtain ⟨g0, hg⟩ : ∃ g, g = X39.heap.size := ⟨_, rfl⟩
        rw [← hg] at h1
        refine hK.out _ _ hS1 (fun hSn => ?_)
        clear hK K; (try simp only [Act.put, List.setIfInBounds_toArray, List.set_cons_zero, List.set_cons_succ])
        rw [← hg]
        clear hg hSn
        generalize X39.alloc (.cells #[] 25) = X40 at h1 hS1 ⊢
        clear h hS0
        have h := h1
        have hS0 := hS1
        clear h1 hS1
        refine wpAnyH_ready (rs := [2, 10]) (by kernel_rfl) (by simp) ?_
        refine AllReadyH.cons (o := ⟨some 34, _, _, _, _, _⟩) rfl (fun K hK => ?_) (AllReadyH.cons (o := ⟨some 9, _, _, _, _, _⟩) rfl (fun K hK => ?_) AllReadyH.nil)
        · rw [if_pos (by rfl)]
          have hb0 := h.below
          refine wp_own_terms (.tmp 32) (.tmp 33) rfl h.own hb0.size (h.apart HP.out) rfl rfl (HTL.out.keep (fun b hb => hb0.block b (HP.out b hb)) (fun _ h => h)) (by have := HLL.out; show 0 + _ ≤ _; omega) ?_
          intro v1 X41 O hg hb
          rw [List.nil_append] at O
          have h1 := h.app O hg hb
          have hS1 : Below W4.heap.size W4 X41 := HDW.out.trans (h1.below.mono (by rw [HDZ.out]; exact Nat.le_refl _))
          refine hK.out _ _ hS1 (fun hSn => ?_)
          clear hK K hSn O hg hb hb0; (try simp only [Act.put, List.setIfInBounds_toArray, List.set_cons_zero, List.set_cons_succ])
          clear h hS0
          have h := h1
          have hS0 := hS1
          clear h1 hS1
          refine wpAnyH_ready (rs := [5, 10]) (by kernel_rfl) (by simp) ?_
          refine AllReadyH.cons (o := ⟨some 37, _, _, _, _, _⟩) rfl (fun K hK => ?_) (AllReadyH.cons (o := ⟨some 9, _, _, _, _, _⟩) rfl (fun K hK => ?_) AllReadyH.nil)
          · rw [if_pos (by rfl)]
            have hb0 := h.below
            refine wp_own_term (.tmp 34) (.tmp 36) rfl h.own hb0.size (h.apart HP.out) rfl g4 rfl (h.kept (g4, .cells #[(.int .i8 ky), (.int .i64 ny), (.string sy), (.string ty), (.slice Ay Ly.length capy)] 25) (by simp)).2.1 (HTY.out.keep (fun b hb => hb0.block b (HP.out b hb)) (fun _ h => h)) (by have := HLL.out; omega) ?_
            intro v2 X42 O hg hb
            have h1 := h.app O hg (hb.imp Eq.symm id)
            obtain ⟨A5, cap5, rfl⟩ := O.shape
            rw [← HN5.out] at h1
            have hS1 : Below W4.heap.size W4 X42 := HDW.out.trans (h1.below.mono (by rw [HDZ.out]; exact Nat.le_refl _))
            refine hK.out _ _ hS1 (fun hSn => ?_)
            clear hK K hSn O hg hb hb0; (try simp only [Act.put, List.setIfInBounds_toArray, List.set_cons_zero, List.set_cons_succ])
            rw [← HN5.out]
            clear h hS0
            have h := h1
            have hS0 := hS1
            clear h1 hS1
            refine wpAnyH_ready (rs := [6, 10]) (by kernel_rfl) (by simp) ?_
            refine AllReadyH.cons (o := ⟨some 38, _, _, _, _, _⟩) rfl (fun K hK => ?_) (AllReadyH.cons (o := ⟨some 9, _, _, _, _, _⟩) rfl (fun K hK => ?_) AllReadyH.nil)
            · rw [if_pos (by rfl)]
              go_simp
              have hb0 := h.below
              obtain ⟨Q5, hQ5⟩ : ∃ Q5 : Nat → Prop, Q5 = fun b => P b ∨ (Value.slice A5 n5 cap5).ownBlock = some b := ⟨_, rfl⟩
              have hRow : TRow Q5 X42 A5 n5 cap5 (l ++ [y]) := by rw [hQ5]; exact h.own.trow_own
              have hQs : ∀ b, Q5 b → b < X42.heap.size := fun b hb => by
                rw [hQ5] at hb
                rcases hb with hb | hb
                · have h1 := HP.out b hb; have h2 := hb0.size
                  omega
                · exact (h.own.own b hb).2
              refine (Tuple_any Q5 (l ++ [y]) A5 n5 cap5 _ (fun b hb => hQs b hb) hRow (HSD.out _ hb0) (by have := HLL.out; simp; omega)).mono ?_
              rintro e V6 ⟨bv, rfl, ⟨kb, nb, sb, tb, Ab, Lb, capb, rfl⟩, hTB, b6⟩
              have h1 := h.under HP.out b6
              have hS1 : Below W4.heap.size W4 V6 := hS0.trans (b6.mono hS0.size)
              refine hK.out _ _ hS1 (fun hSn => ?_)
              clear hK K hSn; (try simp only [Act.put, List.setIfInBounds_toArray, List.set_cons_zero, List.set_cons_succ])
              obtain ⟨Q6, hQ6⟩ : ∃ Q6 : Nat → Prop, Q6 = fun b => Q5 b ∨ (X42.heap.size ≤ b ∧ b < V6.heap.size) := ⟨_, rfl⟩
              have HTB : Hid (fitN 1 (l ++ [y]) = 0 → TmAt Q6 V6 (tupT (l ++ [y])) _) := fun h0 => by rw [hQ6]; exact hTB h0
              have HQ6 : Hid (∀ b, Q6 b → b < V6.heap.size) := fun b hb => by
                rw [hQ6] at hb
                have hz := b6.size
                rcases hb with hb | hb
                · have h2 := hQs b hb; omega
                · omega
              have HU : Hid (Below V6.heap.size V6 V6) := Below.refl _ _
              clear hTB b6 hb0 hQ5 hRow hQs hQ6 h hS0
              have h := h1
              have hS0 := hS1
              clear h1 hS1
              refine wpAnyH_take (i := 7) (oi := ⟨some 31, _, _, _, _, _⟩) (v := ?_) rfl (by kernel_rfl) (by kernel_rfl) (by kernel_rfl) (fun _ _ _ h => h) (Or.inl ⟨by kernel_rfl, ?_⟩) (by assumption) ?_; rotate_left; (intro w hSw; (try dsimp only at hSw); go_simp; first | done | with_reducible rfl); (try simp only [Act.put, List.setIfInBounds_toArray, List.set_cons_zero, List.set_cons_succ])
              refine wpAnyH_take (i := 8) (oi := ⟨some 39, _, _, _, _, _⟩) (v := ?_) rfl (by kernel_rfl) (by kernel_rfl) (by kernel_rfl) (fun _ _ _ h => h) (Or.inl ⟨by kernel_rfl, ?_⟩) (by assumption) ?_; rotate_left; (intro w hSw; (try dsimp only at hSw); go_simp; first | done | with_reducible rfl); (try simp only [Act.put, List.setIfInBounds_toArray, List.set_cons_zero, List.set_cons_succ])
              refine wpAnyH_take (i := 9) (oi := ⟨some 40, _, _, _, _, _⟩) (v := ?_) rfl (by kernel_rfl) (by kernel_rfl) (by kernel_rfl) (fun _ _ _ h => h) (Or.inl ⟨by kernel_rfl, ?_⟩) (by assumption) ?_; rotate_left; (intro w hSw; (try dsimp only at hSw); go_simp; first | done | with_reducible rfl); (try simp only [Act.put, List.setIfInBounds_toArray, List.set_cons_zero, List.set_cons_succ])
              refine wpAnyH_ready (rs := [10]) (by kernel_rfl) (by simp) ?_
              refine AllReadyH.cons (o := ⟨some 9, _, _, _, _, _⟩) rfl (fun K hK => ?_) AllReadyH.nil
              · rw [if_pos (by rfl)]
                go_simp
                have h1 := h.alloc HP.out (.cells #[.int .i8 0, .int .i64 0, .string ⟨#[]⟩, .string ⟨#[]⟩, .slice none 0 0] 25)
                have hS1 := hS0.alloc hS0.size (.cells #[.int .i8 0, .int .i64 0, .string ⟨#[]⟩, .string ⟨#[]⟩, .slice none 0 0] 25)
                have hU1 := HU.out.alloc HU.out.size (.cells #[.int .i8 0, .int .i64 0, .string ⟨#[]⟩, .string ⟨#[]⟩, .slice none 0 0] 25)
                obtain ⟨g10, hg⟩ : ∃ g, g = V6.heap.size := ⟨_, rfl⟩
                rw [← hg] at h1
                have hqs : ∀ b, Q6 b → b < V6.heap.size ∧ b ≠ g10 := fun b hb => ⟨HQ6.out b hb, by have := HQ6.out b hb; have := HU.out.size; omega⟩
                refine hK.out _ _ hS1 (fun hSn => ?_)
                clear hK K; (try simp only [Act.put, List.setIfInBounds_toArray, List.set_cons_zero, List.set_cons_succ])
                rw [← hg]
                clear hg hSn
                generalize V6.alloc (.cells #[.int .i8 0, .int .i64 0, .string ⟨#[]⟩, .string ⟨#[]⟩, .slice none 0 0] 25) = X44 at h1 hS1 hU1 ⊢
                clear h hS0
                have h := h1
                have hS0 := hS1
                clear h1 hS1
                clear HU HQ6
                have HU := Lib.hid hU1
                have HQ6 := Lib.hid hqs
                clear hU1 hqs
                obtain ⟨gge, gz, -⟩ := h.kept (g10, .cells #[.int .i8 0, .int .i64 0, .string ⟨#[]⟩, .string ⟨#[]⟩, .slice none 0 0] 25) (by simp)
                have r0 : X44.cell? ⟨g10, 0, none⟩ = some (.int .i8 0) := cell_of_row gz rfl
                have r1 : X44.cell? ⟨g10, 1, none⟩ = some (.int .i64 0) := cell_of_row gz rfl
                have r2 : X44.cell? ⟨g10, 2, none⟩ = some (.string ⟨#[]⟩) := cell_of_row gz rfl
                have r3 : X44.cell? ⟨g10, 3, none⟩ = some (.string ⟨#[]⟩) := cell_of_row gz rfl
                have r4 : X44.cell? ⟨g10, 4, none⟩ = some (.slice none 0 0) := cell_of_row gz rfl
                have f0 : X44.frozen? ⟨g10, 0, none⟩ = false := free_of_row gz
                have f1 : X44.frozen? ⟨g10, 1, none⟩ = false := free_of_row gz
                have f2 : X44.frozen? ⟨g10, 2, none⟩ = false := free_of_row gz
                have f3 : X44.frozen? ⟨g10, 3, none⟩ = false := free_of_row gz
                have f4 : X44.frozen? ⟨g10, 4, none⟩ = false := free_of_row gz
                obtain ⟨s5, m5⟩ := set_five (.int .i8 kb) (.int .i64 nb) (.string sb) (.string tb) (.slice Ab (List.length (α := Tm) Lb) capb) gz
                have hS9 := hS0.trans (m5.below hS0.size (fun k (e : k = g10) => by have h1 : D.heap.size ≤ g10 := gge; have := HDZ.out; omega))
                have HS5 := Lib.hid s5
                have HM5 := Lib.hid m5
                clear s5 m5
                refine wpAnyH_ready (rs := [11]) (by kernel_rfl) (by simp) ?_
                refine AllReadyH.cons (o := ⟨none, _, _, _, _, _⟩) rfl (fun K hK => ?_) AllReadyH.nil
                rw [if_pos (by rfl)]
                go_simp
                refine hK.out _ _ hS9 (fun hSn => ?_)
                clear hK K; (try simp only [Act.put, List.setIfInBounds_toArray, List.set_cons_zero, List.set_cons_succ])
                refine wpAnyH_take (i := 12) (oi := ⟨some 10, _, _, _, _, _⟩) (v := ?_) rfl (by kernel_rfl) (by kernel_rfl) (by kernel_rfl) (fun _ _ _ h => h) (Or.inl ⟨by kernel_rfl, ?_⟩) (by assumption) ?_; rotate_left; (intro w hSw; (try dsimp only at hSw); go_simp; first | done | with_reducible rfl); (try simp only [Act.put, List.setIfInBounds_toArray, List.set_cons_zero, List.set_cons_succ])
                refine wpAnyH_done (by kernel_rfl) ?_ _
                clear r0 r1 r2 r3 r4 f0 f1 f2 f3 f4 gz
                have hQ := HQ6.out
                have HU6 := HU.out
                have hgl : g10 < X44.heap.size := by have := heap_lt HS5.out; simpa [World.setCell] using this
                go_wp2_with fail
                go_meet
                refine ⟨g10, _, rfl, rfl, HS5.out, ⟨kb, nb, sb, tb, Ab, Lb, capb, rfl⟩, fun h0 => (HTB.out h0).keep (fun b hb => ?_) (fun b hb => ?_), hS9⟩
                · have := (hQ b hb).1; have h2 := HU6.size
                  exact (HM5.out.block b (by omega) (by have := (hQ b hb).2; omega)).trans (HU6.block b (hQ b hb).1)
                · have h1 := HM5.out.size; have h2 := HU6.size; have h3 := hQ b hb
                  exact ⟨by omega, by omega⟩
            · rw [if_pos (by rfl)]
              go_simp
              have h1 := h.alloc HP.out (.cells #[.int .i8 0, .int .i64 0, .string ⟨#[]⟩, .string ⟨#[]⟩, .slice none 0 0] 25)
              have hS1 := hS0.alloc hS0.size (.cells #[.int .i8 0, .int .i64 0, .string ⟨#[]⟩, .string ⟨#[]⟩, .slice none 0 0] 25)
              obtain ⟨g10, hg⟩ : ∃ g, g = X42.heap.size := ⟨_, rfl⟩
              rw [← hg] at h1
              refine hK.out _ _ hS1 (fun hSn => ?_)
              clear hK K; (try simp only [Act.put, List.setIfInBounds_toArray, List.set_cons_zero, List.set_cons_succ])
              rw [← hg]
              clear hg hSn
              generalize X42.alloc (.cells #[.int .i8 0, .int .i64 0, .string ⟨#[]⟩, .string ⟨#[]⟩, .slice none 0 0] 25) = X45 at h1 hS1 ⊢
              clear h hS0
              have h := h1
              have hS0 := hS1
              clear h1 hS1
              refine wpAnyH_ready (rs := [6]) (by kernel_rfl) (by simp) ?_
              refine AllReadyH.cons (o := ⟨some 38, _, _, _, _, _⟩) rfl (fun K hK => ?_) AllReadyH.nil
              · rw [if_pos (by rfl)]
                go_simp
                have hb0 := h.below
                obtain ⟨Q5, hQ5⟩ : ∃ Q5 : Nat → Prop, Q5 = fun b => P b ∨ (Value.slice A5 n5 cap5).ownBlock = some b := ⟨_, rfl⟩
                have hRow : TRow Q5 X45 A5 n5 cap5 (l ++ [y]) := by rw [hQ5]; exact h.own.trow_own
                have hQs : ∀ b, Q5 b → b < X45.heap.size ∧ b ≠ g10 := fun b hb => by
                  rw [hQ5] at hb
                  rcases hb with hb | hb
                  · have h1 := HP.out b hb; have h2 := hb0.size
                    have h3 : D.heap.size ≤ g10 := (h.kept (g10, .cells #[.int .i8 0, .int .i64 0, .string ⟨#[]⟩, .string ⟨#[]⟩, .slice none 0 0] 25) (by simp)).1
                    exact ⟨by omega, by omega⟩
                  · exact ⟨(h.own.own b hb).2, fun e => (h.kept (g10, .cells #[.int .i8 0, .int .i64 0, .string ⟨#[]⟩, .string ⟨#[]⟩, .slice none 0 0] 25) (by simp)).2.2 (by rw [← e]; exact hb)⟩
                have hgl : g10 < X45.heap.size := heap_lt (h.kept (g10, .cells #[.int .i8 0, .int .i64 0, .string ⟨#[]⟩, .string ⟨#[]⟩, .slice none 0 0] 25) (by simp)).2.1
                refine (Tuple_any Q5 (l ++ [y]) A5 n5 cap5 _ (fun b hb => (hQs b hb).1) hRow (HSD.out _ hb0) (by have := HLL.out; simp; omega)).mono ?_
                rintro e V6 ⟨bv, rfl, ⟨kb, nb, sb, tb, Ab, Lb, capb, rfl⟩, hTB, b6⟩
                have h1 := h.under HP.out b6
                have hS1 : Below W4.heap.size W4 V6 := hS0.trans (b6.mono hS0.size)
                refine hK.out _ _ hS1 (fun hSn => ?_)
                clear hK K hSn; (try simp only [Act.put, List.setIfInBounds_toArray, List.set_cons_zero, List.set_cons_succ])
                obtain ⟨Q6, hQ6⟩ : ∃ Q6 : Nat → Prop, Q6 = fun b => Q5 b ∨ (X45.heap.size ≤ b ∧ b < V6.heap.size) := ⟨_, rfl⟩
                have HTB : Hid (fitN 1 (l ++ [y]) = 0 → TmAt Q6 V6 (tupT (l ++ [y])) _) := fun h0 => by rw [hQ6]; exact hTB h0
                have HQ6 : Hid (∀ b, Q6 b → b < V6.heap.size ∧ b ≠ g10) := fun b hb => by
                  rw [hQ6] at hb
                  have hz := b6.size
                  rcases hb with hb | hb
                  · have h2 := hQs b hb; exact ⟨by omega, by omega⟩
                  · exact ⟨by omega, by omega⟩
                have HU : Hid (Below V6.heap.size V6 V6) := Below.refl _ _
                clear hTB b6 hb0 hQ5 hRow hQs hQ6 h hS0 hgl
                have h := h1
                have hS0 := hS1
                clear h1 hS1
                refine wpAnyH_take (i := 7) (oi := ⟨some 31, _, _, _, _, _⟩) (v := ?_) rfl (by kernel_rfl) (by kernel_rfl) (by kernel_rfl) (fun _ _ _ h => h) (Or.inl ⟨by kernel_rfl, ?_⟩) (by assumption) ?_; rotate_left; (intro w hSw; (try dsimp only at hSw); go_simp; first | done | with_reducible rfl); (try simp only [Act.put, List.setIfInBounds_toArray, List.set_cons_zero, List.set_cons_succ])
                refine wpAnyH_take (i := 8) (oi := ⟨some 39, _, _, _, _, _⟩) (v := ?_) rfl (by kernel_rfl) (by kernel_rfl) (by kernel_rfl) (fun _ _ _ h => h) (Or.inl ⟨by kernel_rfl, ?_⟩) (by assumption) ?_; rotate_left; (intro w hSw; (try dsimp only at hSw); go_simp; first | done | with_reducible rfl); (try simp only [Act.put, List.setIfInBounds_toArray, List.set_cons_zero, List.set_cons_succ])
                refine wpAnyH_take (i := 9) (oi := ⟨some 40, _, _, _, _, _⟩) (v := ?_) rfl (by kernel_rfl) (by kernel_rfl) (by kernel_rfl) (fun _ _ _ h => h) (Or.inl ⟨by kernel_rfl, ?_⟩) (by assumption) ?_; rotate_left; (intro w hSw; (try dsimp only at hSw); go_simp; first | done | with_reducible rfl); (try simp only [Act.put, List.setIfInBounds_toArray, List.set_cons_zero, List.set_cons_succ])
                obtain ⟨gge, gz, -⟩ := h.kept (g10, .cells #[.int .i8 0, .int .i64 0, .string ⟨#[]⟩, .string ⟨#[]⟩, .slice none 0 0] 25) (by simp)
                have r0 : V6.cell? ⟨g10, 0, none⟩ = some (.int .i8 0) := cell_of_row gz rfl
                have r1 : V6.cell? ⟨g10, 1, none⟩ = some (.int .i64 0) := cell_of_row gz rfl
                have r2 : V6.cell? ⟨g10, 2, none⟩ = some (.string ⟨#[]⟩) := cell_of_row gz rfl
                have r3 : V6.cell? ⟨g10, 3, none⟩ = some (.string ⟨#[]⟩) := cell_of_row gz rfl
                have r4 : V6.cell? ⟨g10, 4, none⟩ = some (.slice none 0 0) := cell_of_row gz rfl
                have f0 : V6.frozen? ⟨g10, 0, none⟩ = false := free_of_row gz
                have f1 : V6.frozen? ⟨g10, 1, none⟩ = false := free_of_row gz
                have f2 : V6.frozen? ⟨g10, 2, none⟩ = false := free_of_row gz
                have f3 : V6.frozen? ⟨g10, 3, none⟩ = false := free_of_row gz
                have f4 : V6.frozen? ⟨g10, 4, none⟩ = false := free_of_row gz
                obtain ⟨s5, m5⟩ := set_five (.int .i8 kb) (.int .i64 nb) (.string sb) (.string tb) (.slice Ab (List.length (α := Tm) Lb) capb) gz
                have hS9 := hS0.trans (m5.below hS0.size (fun k (e : k = g10) => by have h1 : D.heap.size ≤ g10 := gge; have := HDZ.out; omega))
                have HS5 := Lib.hid s5
                have HM5 := Lib.hid m5
                clear s5 m5
                refine wpAnyH_ready (rs := [11]) (by kernel_rfl) (by simp) ?_
                refine AllReadyH.cons (o := ⟨none, _, _, _, _, _⟩) rfl (fun K hK => ?_) AllReadyH.nil
                rw [if_pos (by rfl)]
                go_simp
                refine hK.out _ _ hS9 (fun hSn => ?_)
                clear hK K; (try simp only [Act.put, List.setIfInBounds_toArray, List.set_cons_zero, List.set_cons_succ])
                refine wpAnyH_take (i := 12) (oi := ⟨some 10, _, _, _, _, _⟩) (v := ?_) rfl (by kernel_rfl) (by kernel_rfl) (by kernel_rfl) (fun _ _ _ h => h) (Or.inl ⟨by kernel_rfl, ?_⟩) (by assumption) ?_; rotate_left; (intro w hSw; (try dsimp only at hSw); go_simp; first | done | with_reducible rfl); (try simp only [Act.put, List.setIfInBounds_toArray, List.set_cons_zero, List.set_cons_succ])
                refine wpAnyH_done (by kernel_rfl) ?_ _
                clear r0 r1 r2 r3 r4 f0 f1 f2 f3 f4 gz
                have hQ := HQ6.out
                have HU6 := HU.out
                have hgl : g10 < V6.heap.size := by have := heap_lt HS5.out; simpa [World.setCell] using this
                go_wp2_with fail
                go_meet
                refine ⟨g10, _, rfl, rfl, HS5.out, ⟨kb, nb, sb, tb, Ab, Lb, capb, rfl⟩, fun h0 => (HTB.out h0).keep (fun b hb => ?_) (fun b hb => ?_), hS9⟩
                · have := (hQ b hb).1; have h2 := HU6.size
                  exact (HM5.out.block b (by omega) (by have := (hQ b hb).2; omega)).trans (HU6.block b (hQ b hb).1)
                · have h1 := HM5.out.size; have h2 := HU6.size; have h3 := hQ b hb
                  exact ⟨by omega, by omega⟩
          · rw [if_pos (by rfl)]
            go_simp
            have h1 := h.alloc HP.out (.cells #[.int .i8 0, .int .i64 0, .string ⟨#[]⟩, .string ⟨#[]⟩, .slice none 0 0] 25)
            have hS1 := hS0.alloc hS0.size (.cells #[.int .i8 0, .int .i64 0, .string ⟨#[]⟩, .string ⟨#[]⟩, .slice none 0 0] 25)
            obtain ⟨g10, hg⟩ : ∃ g, g = X41.heap.size := ⟨_, rfl⟩
            rw [← hg] at h1
            refine hK.out _ _ hS1 (fun hSn => ?_)
            clear hK K; (try simp only [Act.put, List.setIfInBounds_toArray, List.set_cons_zero, List.set_cons_succ])
            rw [← hg]
            clear hg hSn
            generalize X41.alloc (.cells #[.int .i8 0, .int .i64 0, .string ⟨#[]⟩, .string ⟨#[]⟩, .slice none 0 0] 25) = X47 at h1 hS1 ⊢
            clear h hS0
            have h := h1
            have hS0 := hS1
            clear h1 hS1
            refine wpAnyH_ready (rs := [5]) (by kernel_rfl) (by simp) ?_
            refine AllReadyH.cons (o := ⟨some 37, _, _, _, _, _⟩) rfl (fun K hK => ?_) AllReadyH.nil
            · rw [if_pos (by rfl)]
              have hb0 := h.below
              refine wp_own_term (.tmp 34) (.tmp 36) rfl h.own hb0.size (h.apart HP.out) rfl g4 rfl (h.kept (g4, .cells #[(.int .i8 ky), (.int .i64 ny), (.string sy), (.string ty), (.slice Ay Ly.length capy)] 25) (by simp)).2.1 (HTY.out.keep (fun b hb => hb0.block b (HP.out b hb)) (fun _ h => h)) (by have := HLL.out; omega) ?_
              intro v2 X48 O hg hb
              have h1 := h.app O hg (hb.imp Eq.symm id)
              obtain ⟨A5, cap5, rfl⟩ := O.shape
              rw [← HN5.out] at h1
              have hS1 : Below W4.heap.size W4 X48 := HDW.out.trans (h1.below.mono (by rw [HDZ.out]; exact Nat.le_refl _))
              refine hK.out _ _ hS1 (fun hSn => ?_)
              clear hK K hSn O hg hb hb0; (try simp only [Act.put, List.setIfInBounds_toArray, List.set_cons_zero, List.set_cons_succ])
              rw [← HN5.out]
              clear h hS0
              have h := h1
              have hS0 := hS1
              clear h1 hS1
              refine wpAnyH_ready (rs := [6]) (by kernel_rfl) (by simp) ?_
              refine AllReadyH.cons (o := ⟨some 38, _, _, _, _, _⟩) rfl (fun K hK => ?_) AllReadyH.nil
              · rw [if_pos (by rfl)]
                go_simp
                have hb0 := h.below
                obtain ⟨Q5, hQ5⟩ : ∃ Q5 : Nat → Prop, Q5 = fun b => P b ∨ (Value.slice A5 n5 cap5).ownBlock = some b := ⟨_, rfl⟩
                have hRow : TRow Q5 X48 A5 n5 cap5 (l ++ [y]) := by rw [hQ5]; exact h.own.trow_own
                have hQs : ∀ b, Q5 b → b < X48.heap.size ∧ b ≠ g10 := fun b hb => by
                  rw [hQ5] at hb
                  rcases hb with hb | hb
                  · have h1 := HP.out b hb; have h2 := hb0.size
                    have h3 : D.heap.size ≤ g10 := (h.kept (g10, .cells #[.int .i8 0, .int .i64 0, .string ⟨#[]⟩, .string ⟨#[]⟩, .slice none 0 0] 25) (by simp)).1
                    exact ⟨by omega, by omega⟩
                  · exact ⟨(h.own.own b hb).2, fun e => (h.kept (g10, .cells #[.int .i8 0, .int .i64 0, .string ⟨#[]⟩, .string ⟨#[]⟩, .slice none 0 0] 25) (by simp)).2.2 (by rw [← e]; exact hb)⟩
                have hgl : g10 < X48.heap.size := heap_lt (h.kept (g10, .cells #[.int .i8 0, .int .i64 0, .string ⟨#[]⟩, .string ⟨#[]⟩, .slice none 0 0] 25) (by simp)).2.1
                refine (Tuple_any Q5 (l ++ [y]) A5 n5 cap5 _ (fun b hb => (hQs b hb).1) hRow (HSD.out _ hb0) (by have := HLL.out; simp; omega)).mono ?_
                rintro e V6 ⟨bv, rfl, ⟨kb, nb, sb, tb, Ab, Lb, capb, rfl⟩, hTB, b6⟩
                have h1 := h.under HP.out b6
                have hS1 : Below W4.heap.size W4 V6 := hS0.trans (b6.mono hS0.size)
                refine hK.out _ _ hS1 (fun hSn => ?_)
                clear hK K hSn; (try simp only [Act.put, List.setIfInBounds_toArray, List.set_cons_zero, List.set_cons_succ])
                obtain ⟨Q6, hQ6⟩ : ∃ Q6 : Nat → Prop, Q6 = fun b => Q5 b ∨ (X48.heap.size ≤ b ∧ b < V6.heap.size) := ⟨_, rfl⟩
                have HTB : Hid (fitN 1 (l ++ [y]) = 0 → TmAt Q6 V6 (tupT (l ++ [y])) _) := fun h0 => by rw [hQ6]; exact hTB h0
                have HQ6 : Hid (∀ b, Q6 b → b < V6.heap.size ∧ b ≠ g10) := fun b hb => by
                  rw [hQ6] at hb
                  have hz := b6.size
                  rcases hb with hb | hb
                  · have h2 := hQs b hb; exact ⟨by omega, by omega⟩
                  · exact ⟨by omega, by omega⟩
                have HU : Hid (Below V6.heap.size V6 V6) := Below.refl _ _
                clear hTB b6 hb0 hQ5 hRow hQs hQ6 h hS0 hgl
                have h := h1
                have hS0 := hS1
                clear h1 hS1
                refine wpAnyH_take (i := 7) (oi := ⟨some 31, _, _, _, _, _⟩) (v := ?_) rfl (by kernel_rfl) (by kernel_rfl) (by kernel_rfl) (fun _ _ _ h => h) (Or.inl ⟨by kernel_rfl, ?_⟩) (by assumption) ?_; rotate_left; (intro w hSw; (try dsimp only at hSw); go_simp; first | done | with_reducible rfl); (try simp only [Act.put, List.setIfInBounds_toArray, List.set_cons_zero, List.set_cons_succ])
                refine wpAnyH_take (i := 8) (oi := ⟨some 39, _, _, _, _, _⟩) (v := ?_) rfl (by kernel_rfl) (by kernel_rfl) (by kernel_rfl) (fun _ _ _ h => h) (Or.inl ⟨by kernel_rfl, ?_⟩) (by assumption) ?_; rotate_left; (intro w hSw; (try dsimp only at hSw); go_simp; first | done | with_reducible rfl); (try simp only [Act.put, List.setIfInBounds_toArray, List.set_cons_zero, List.set_cons_succ])
                refine wpAnyH_take (i := 9) (oi := ⟨some 40, _, _, _, _, _⟩) (v := ?_) rfl (by kernel_rfl) (by kernel_rfl) (by kernel_rfl) (fun _ _ _ h => h) (Or.inl ⟨by kernel_rfl, ?_⟩) (by assumption) ?_; rotate_left; (intro w hSw; (try dsimp only at hSw); go_simp; first | done | with_reducible rfl); (try simp only [Act.put, List.setIfInBounds_toArray, List.set_cons_zero, List.set_cons_succ])
                obtain ⟨gge, gz, -⟩ := h.kept (g10, .cells #[.int .i8 0, .int .i64 0, .string ⟨#[]⟩, .string ⟨#[]⟩, .slice none 0 0] 25) (by simp)
                have r0 : V6.cell? ⟨g10, 0, none⟩ = some (.int .i8 0) := cell_of_row gz rfl
                have r1 : V6.cell? ⟨g10, 1, none⟩ = some (.int .i64 0) := cell_of_row gz rfl
                have r2 : V6.cell? ⟨g10, 2, none⟩ = some (.string ⟨#[]⟩) := cell_of_row gz rfl
                have r3 : V6.cell? ⟨g10, 3, none⟩ = some (.string ⟨#[]⟩) := cell_of_row gz rfl
                have r4 : V6.cell? ⟨g10, 4, none⟩ = some (.slice none 0 0) := cell_of_row gz rfl
                have f0 : V6.frozen? ⟨g10, 0, none⟩ = false := free_of_row gz
                have f1 : V6.frozen? ⟨g10, 1, none⟩ = false := free_of_row gz
                have f2 : V6.frozen? ⟨g10, 2, none⟩ = false := free_of_row gz
                have f3 : V6.frozen? ⟨g10, 3, none⟩ = false := free_of_row gz
                have f4 : V6.frozen? ⟨g10, 4, none⟩ = false := free_of_row gz
                obtain ⟨s5, m5⟩ := set_five (.int .i8 kb) (.int .i64 nb) (.string sb) (.string tb) (.slice Ab (List.length (α := Tm) Lb) capb) gz
                have hS9 := hS0.trans (m5.below hS0.size (fun k (e : k = g10) => by have h1 : D.heap.size ≤ g10 := gge; have := HDZ.out; omega))
                have HS5 := Lib.hid s5
                have HM5 := Lib.hid m5
                clear s5 m5
                refine wpAnyH_ready (rs := [11]) (by kernel_rfl) (by simp) ?_
                refine AllReadyH.cons (o := ⟨none, _, _, _, _, _⟩) rfl (fun K hK => ?_) AllReadyH.nil
                rw [if_pos (by rfl)]
                go_simp
                refine hK.out _ _ hS9 (fun hSn => ?_)
                clear hK K; (try simp only [Act.put, List.setIfInBounds_toArray, List.set_cons_zero, List.set_cons_succ])
                refine wpAnyH_take (i := 12) (oi := ⟨some 10, _, _, _, _, _⟩) (v := ?_) rfl (by kernel_rfl) (by kernel_rfl) (by kernel_rfl) (fun _ _ _ h => h) (Or.inl ⟨by kernel_rfl, ?_⟩) (by assumption) ?_; rotate_left; (intro w hSw; (try dsimp only at hSw); go_simp; first | done | with_reducible rfl); (try simp only [Act.put, List.setIfInBounds_toArray, List.set_cons_zero, List.set_cons_succ])
                refine wpAnyH_done (by kernel_rfl) ?_ _
                clear r0 r1 r2 r3 r4 f0 f1 f2 f3 f4 gz
                have hQ := HQ6.out
                have HU6 := HU.out
                have hgl : g10 < V6.heap.size := by have := heap_lt HS5.out; simpa [World.setCell] using this
                go_wp2_with fail
                go_meet
                refine ⟨g10, _, rfl, rfl, HS5.out, ⟨kb, nb, sb, tb, Ab, Lb, capb, rfl⟩, fun h0 => (HTB.out h0).keep (fun b hb => ?_) (fun b hb => ?_), hS9⟩
                · have := (hQ b hb).1; have h2 := HU6.size
                  exact (HM5.out.block b (by omega) (by have := (hQ b hb).2; omega)).trans (HU6.block b (hQ b hb).1)
                · have h1 := HM5.out.size; have h2 := HU6.size; have h3 := hQ b hb
                  exact ⟨by omega, by omega⟩
        · rw [if_pos (by rfl)]
          go_simp
          have h1 := h.alloc HP.out (.cells #[.int .i8 0, .int .i64 0, .string ⟨#[]⟩, .string ⟨#[]⟩, .slice none 0 0] 25)
          have hS1 := hS0.alloc hS0.size (.cells #[.int .i8 0, .int .i64 0, .string ⟨#[]⟩, .string ⟨#[]⟩, .slice none 0 0] 25)
          obtain ⟨g10, hg⟩ : ∃ g, g = X40.heap.size := ⟨_, rfl⟩
          rw [← hg] at h1
          refine hK.out _ _ hS1 (fun hSn => ?_)
          clear hK K; (try simp only [Act.put, List.setIfInBounds_toArray, List.set_cons_zero, List.set_cons_succ])
          rw [← hg]
          clear hg hSn
          generalize X40.alloc (.cells #[.int .i8 0, .int .i64 0, .string ⟨#[]⟩, .string ⟨#[]⟩, .slice none 0 0] 25) = X50 at h1 hS1 ⊢
          clear h hS0
          have h := h1
          have hS0 := hS1
          clear h1 hS1
          refine wpAnyH_ready (rs := [2]) (by kernel_rfl) (by simp) ?_
          refine AllReadyH.cons (o := ⟨some 34, _, _, _, _, _⟩) rfl (fun K hK => ?_) AllReadyH.nil
          · rw [if_pos (by rfl)]
            have hb0 := h.below
            refine wp_own_terms (.tmp 32) (.tmp 33) rfl h.own hb0.size (h.apart HP.out) rfl rfl (HTL.out.keep (fun b hb => hb0.block b (HP.out b hb)) (fun _ h => h)) (by have := HLL.out; show 0 + _ ≤ _; omega) ?_
            intro v1 X51 O hg hb
            rw [List.nil_append] at O
            have h1 := h.app O hg hb
            have hS1 : Below W4.heap.size W4 X51 := HDW.out.trans (h1.below.mono (by rw [HDZ.out]; exact Nat.le_refl _))
            refine hK.out _ _ hS1 (fun hSn => ?_)
            clear hK K hSn O hg hb hb0; (try simp only [Act.put, List.setIfInBounds_toArray, List.set_cons_zero, List.set_cons_succ])
            clear h hS0
            have h := h1
            have hS0 := hS1
            clear h1 hS1
            refine wpAnyH_ready (rs := [5]) (by kernel_rfl) (by simp) ?_
            refine AllReadyH.cons (o := ⟨some 37, _, _, _, _, _⟩) rfl (fun K hK => ?_) AllReadyH.nil
            · rw [if_pos (by rfl)]
              have hb0 := h.below
              refine wp_own_term (.tmp 34) (.tmp 36) rfl h.own hb0.size (h.apart HP.out) rfl g4 rfl (h.kept (g4, .cells #[(.int .i8 ky), (.int .i64 ny), (.string sy), (.string ty), (.slice Ay Ly.length capy)] 25) (by simp)).2.1 (HTY.out.keep (fun b hb => hb0.block b (HP.out b hb)) (fun _ h => h)) (by have := HLL.out; omega) ?_
              intro v2 X52 O hg hb
              have h1 := h.app O hg (hb.imp Eq.symm id)
              obtain ⟨A5, cap5, rfl⟩ := O.shape
              rw [← HN5.out] at h1
              have hS1 : Below W4.heap.size W4 X52 := HDW.out.trans (h1.below.mono (by rw [HDZ.out]; exact Nat.le_refl _))
              refine hK.out _ _ hS1 (fun hSn => ?_)
              clear hK K hSn O hg hb hb0; (try simp only [Act.put, List.setIfInBounds_toArray, List.set_cons_zero, List.set_cons_succ])
              rw [← HN5.out]
              clear h hS0
              have h := h1
              have hS0 := hS1
              clear h1 hS1
              refine wpAnyH_ready (rs := [6]) (by kernel_rfl) (by simp) ?_
              refine AllReadyH.cons (o := ⟨some 38, _, _, _, _, _⟩) rfl (fun K hK => ?_) AllReadyH.nil
              · rw [if_pos (by rfl)]
                go_simp
                have hb0 := h.below
                obtain ⟨Q5, hQ5⟩ : ∃ Q5 : Nat → Prop, Q5 = fun b => P b ∨ (Value.slice A5 n5 cap5).ownBlock = some b := ⟨_, rfl⟩
                have hRow : TRow Q5 X52 A5 n5 cap5 (l ++ [y]) := by rw [hQ5]; exact h.own.trow_own
                have hQs : ∀ b, Q5 b → b < X52.heap.size ∧ b ≠ g10 := fun b hb => by
                  rw [hQ5] at hb
                  rcases hb with hb | hb
                  · have h1 := HP.out b hb; have h2 := hb0.size
                    have h3 : D.heap.size ≤ g10 := (h.kept (g10, .cells #[.int .i8 0, .int .i64 0, .string ⟨#[]⟩, .string ⟨#[]⟩, .slice none 0 0] 25) (by simp)).1
                    exact ⟨by omega, by omega⟩
                  · exact ⟨(h.own.own b hb).2, fun e => (h.kept (g10, .cells #[.int .i8 0, .int .i64 0, .string ⟨#[]⟩, .string ⟨#[]⟩, .slice none 0 0] 25) (by simp)).2.2 (by rw [← e]; exact hb)⟩
                have hgl : g10 < X52.heap.size := heap_lt (h.kept (g10, .cells #[.int .i8 0, .int .i64 0, .string ⟨#[]⟩, .string ⟨#[]⟩, .slice none 0 0] 25) (by simp)).2.1
                refine (Tuple_any Q5 (l ++ [y]) A5 n5 cap5 _ (fun b hb => (hQs b hb).1) hRow (HSD.out _ hb0) (by have := HLL.out; simp; omega)).mono ?_
                rintro e V6 ⟨bv, rfl, ⟨kb, nb, sb, tb, Ab, Lb, capb, rfl⟩, hTB, b6⟩
                have h1 := h.under HP.out b6
                have hS1 : Below W4.heap.size W4 V6 := hS0.trans (b6.mono hS0.size)
                refine hK.out _ _ hS1 (fun hSn => ?_)
                clear hK K hSn; (try simp only [Act.put, List.setIfInBounds_toArray, List.set_cons_zero, List.set_cons_succ])
                obtain ⟨Q6, hQ6⟩ : ∃ Q6 : Nat → Prop, Q6 = fun b => Q5 b ∨ (X52.heap.size ≤ b ∧ b < V6.heap.size) := ⟨_, rfl⟩
                have HTB : Hid (fitN 1 (l ++ [y]) = 0 → TmAt Q6 V6 (tupT (l ++ [y])) _) := fun h0 => by rw [hQ6]; exact hTB h0
                have HQ6 : Hid (∀ b, Q6 b → b < V6.heap.size ∧ b ≠ g10) := fun b hb => by
                  rw [hQ6] at hb
                  have hz := b6.size
                  rcases hb with hb | hb
                  · have h2 := hQs b hb; exact ⟨by omega, by omega⟩
                  · exact ⟨by omega, by omega⟩
                have HU : Hid (Below V6.heap.size V6 V6) := Below.refl _ _
                clear hTB b6 hb0 hQ5 hRow hQs hQ6 h hS0 hgl
                have h := h1
                have hS0 := hS1
                clear h1 hS1
                refine wpAnyH_take (i := 7) (oi := ⟨some 31, _, _, _, _, _⟩) (v := ?_) rfl (by kernel_rfl) (by kernel_rfl) (by kernel_rfl) (fun _ _ _ h => h) (Or.inl ⟨by kernel_rfl, ?_⟩) (by assumption) ?_; rotate_left; (intro w hSw; (try dsimp only at hSw); go_simp; first | done | with_reducible rfl); (try simp only [Act.put, List.setIfInBounds_toArray, List.set_cons_zero, List.set_cons_succ])
                refine wpAnyH_take (i := 8) (oi := ⟨some 39, _, _, _, _, _⟩) (v := ?_) rfl (by kernel_rfl) (by kernel_rfl) (by kernel_rfl) (fun _ _ _ h => h) (Or.inl ⟨by kernel_rfl, ?_⟩) (by assumption) ?_; rotate_left; (intro w hSw; (try dsimp only at hSw); go_simp; first | done | with_reducible rfl); (try simp only [Act.put, List.setIfInBounds_toArray, List.set_cons_zero, List.set_cons_succ])
                refine wpAnyH_take (i := 9) (oi := ⟨some 40, _, _, _, _, _⟩) (v := ?_) rfl (by kernel_rfl) (by kernel_rfl) (by kernel_rfl) (fun _ _ _ h => h) (Or.inl ⟨by kernel_rfl, ?_⟩) (by assumption) ?_; rotate_left; (intro w hSw; (try dsimp only at hSw); go_simp; first | done | with_reducible rfl); (try simp only [Act.put, List.setIfInBounds_toArray, List.set_cons_zero, List.set_cons_succ])
                obtain ⟨gge, gz, -⟩ := h.kept (g10, .cells #[.int .i8 0, .int .i64 0, .string ⟨#[]⟩, .string ⟨#[]⟩, .slice none 0 0] 25) (by simp)
                have r0 : V6.cell? ⟨g10, 0, none⟩ = some (.int .i8 0) := cell_of_row gz rfl
                have r1 : V6.cell? ⟨g10, 1, none⟩ = some (.int .i64 0) := cell_of_row gz rfl
                have r2 : V6.cell? ⟨g10, 2, none⟩ = some (.string ⟨#[]⟩) := cell_of_row gz rfl
                have r3 : V6.cell? ⟨g10, 3, none⟩ = some (.string ⟨#[]⟩) := cell_of_row gz rfl
                have r4 : V6.cell? ⟨g10, 4, none⟩ = some (.slice none 0 0) := cell_of_row gz rfl
                have f0 : V6.frozen? ⟨g10, 0, none⟩ = false := free_of_row gz
                have f1 : V6.frozen? ⟨g10, 1, none⟩ = false := free_of_row gz
                have f2 : V6.frozen? ⟨g10, 2, none⟩ = false := free_of_row gz
                have f3 : V6.frozen? ⟨g10, 3, none⟩ = false := free_of_row gz
                have f4 : V6.frozen? ⟨g10, 4, none⟩ = false := free_of_row gz
                obtain ⟨s5, m5⟩ := set_five (.int .i8 kb) (.int .i64 nb) (.string sb) (.string tb) (.slice Ab (List.length (α := Tm) Lb) capb) gz
                have hS9 := hS0.trans (m5.below hS0.size (fun k (e : k = g10) => by have h1 : D.heap.size ≤ g10 := gge; have := HDZ.out; omega))
                have HS5 := Lib.hid s5
                have HM5 := Lib.hid m5
                clear s5 m5
                refine wpAnyH_ready (rs := [11]) (by kernel_rfl) (by simp) ?_
                refine AllReadyH.cons (o := ⟨none, _, _, _, _, _⟩) rfl (fun K hK => ?_) AllReadyH.nil
                rw [if_pos (by rfl)]
                go_simp
                refine hK.out _ _ hS9 (fun hSn => ?_)
                clear hK K; (try simp only [Act.put, List.setIfInBounds_toArray, List.set_cons_zero, List.set_cons_succ])
                refine wpAnyH_take (i := 12) (oi := ⟨some 10, _, _, _, _, _⟩) (v := ?_) rfl (by kernel_rfl) (by kernel_rfl) (by kernel_rfl) (fun _ _ _ h => h) (Or.inl ⟨by kernel_rfl, ?_⟩) (by assumption) ?_; rotate_left; (intro w hSw; (try dsimp only at hSw); go_simp; first | done | with_reducible rfl); (try simp only [Act.put, List.setIfInBounds_toArray, List.set_cons_zero, List.set_cons_succ])
                refine wpAnyH_done (by kernel_rfl) ?_ _
                clear r0 r1 r2 r3 r4 f0 f1 f2 f3 f4 gz
                have hQ := HQ6.out
                have HU6 := HU.out
                have hgl : g10 < V6.heap.size := by have := heap_lt HS5.out; simpa [World.setCell] using this
                go_wp2_with fail
                go_meet
                refine ⟨g10, _, rfl, rfl, HS5.out, ⟨kb, nb, sb, tb, Ab, Lb, capb, rfl⟩, fun h0 => (HTB.out h0).keep (fun b hb => ?_) (fun b hb => ?_), hS9⟩
                · have := (hQ b hb).1; have h2 := HU6.size
                  exact (HM5.out.block b (by omega) (by have := (hQ b hb).2; omega)).trans (HU6.block b (hQ b hb).1)
                · have h1 := HM5.out.size; have h2 := HU6.size; have h3 := hQ b hb
                  exact ⟨by omega, by omega⟩
      · rw [if_pos (by rfl)]
        go_simp
        have h1 := h.alloc HP.out (.cells #[.int .i8 0, .int .i64 0, .string ⟨#[]⟩, .string ⟨#[]⟩, .slice none 0 0] 25)
        have hS1 := hS0.alloc hS0.size (.cells #[.int .i8 0, .int .i64 0, .string ⟨#[]⟩, .string ⟨#[]⟩, .slice none 0 0] 25)
        obtain ⟨g10, hg⟩ : ∃ g, g = X39.heap.size := ⟨_, rfl⟩
        rw [← hg] at h1
        refine hK.out _ _ hS1 (fun hSn => ?_)
        clear hK K; (try simp only [Act.put, List.setIfInBounds_toArray, List.set_cons_zero, List.set_cons_succ])
        rw [← hg]
        clear hg hSn
        generalize X39.alloc (.cells #[.int .i8 0, .int .i64 0, .string ⟨#[]⟩, .string ⟨#[]⟩, .slice none 0 0] 25) = X54 at h1 hS1 ⊢
        clear h hS0
        have h := h1
        have hS0 := hS1
        clear h1 hS1
        refine wpAnyH_ready (rs := [0]) (by kernel_rfl) (by simp) ?_
        refine AllReadyH.cons (o := ⟨some 32, _, _, _, _, _⟩) rfl (fun K hK => ?_) AllReadyH.nil
        · rw [if_pos (by rfl)]
          go_simp
          have h1 := h.fresh HP.out
          have hS1 := hS0.alloc hS0.size (.cells #[] 25)
          obtain ⟨g0, hg⟩ : ∃ g, g = X54.heap.size := ⟨_, rfl⟩
          rw [← hg] at h1
          refine hK.out _ _ hS1 (fun hSn => ?_)
          clear hK K; (try simp only [Act.put, List.setIfInBounds_toArray, List.set_cons_zero, List.set_cons_succ])
          rw [← hg]
          clear hg hSn
          generalize X54.alloc (.cells #[] 25) = X55 at h1 hS1 ⊢
          clear h hS0
          have h := h1
          have hS0 := hS1
          clear h1 hS1
          refine wpAnyH_ready (rs := [2]) (by kernel_rfl) (by simp) ?_
          refine AllReadyH.cons (o := ⟨some 34, _, _, _, _, _⟩) rfl (fun K hK => ?_) AllReadyH.nil
          · rw [if_pos (by rfl)]
            have hb0 := h.below
            refine wp_own_terms (.tmp 32) (.tmp 33) rfl h.own hb0.size (h.apart HP.out) rfl rfl (HTL.out.keep (fun b hb => hb0.block b (HP.out b hb)) (fun _ h => h)) (by have := HLL.out; show 0 + _ ≤ _; omega) ?_
            intro v1 X56 O hg hb
            rw [List.nil_append] at O
            have h1 := h.app O hg hb
            have hS1 : Below W4.heap.size W4 X56 := HDW.out.trans (h1.below.mono (by rw [HDZ.out]; exact Nat.le_refl _))
            refine hK.out _ _ hS1 (fun hSn => ?_)
            clear hK K hSn O hg hb hb0; (try simp only [Act.put, List.setIfInBounds_toArray, List.set_cons_zero, List.set_cons_succ])
            clear h hS0
            have h := h1
            have hS0 := hS1
            clear h1 hS1
            refine wpAnyH_ready (rs := [5]) (by kernel_rfl) (by simp) ?_
            refine AllReadyH.cons (o := ⟨some 37, _, _, _, _, _⟩) rfl (fun K hK => ?_) AllReadyH.nil
            · rw [if_pos (by rfl)]
              have hb0 := h.below
              refine wp_own_term (.tmp 34) (.tmp 36) rfl h.own hb0.size (h.apart HP.out) rfl g4 rfl (h.kept (g4, .cells #[(.int .i8 ky), (.int .i64 ny), (.string sy), (.string ty), (.slice Ay Ly.length capy)] 25) (by simp)).2.1 (HTY.out.keep (fun b hb => hb0.block b (HP.out b hb)) (fun _ h => h)) (by have := HLL.out; omega) ?_
              intro v2 X57 O hg hb
              have h1 := h.app O hg (hb.imp Eq.symm id)
              obtain ⟨A5, cap5, rfl⟩ := O.shape
              rw [← HN5.out] at h1
              have hS1 : Below W4.heap.size W4 X57 := HDW.out.trans (h1.below.mono (by rw [HDZ.out]; exact Nat.le_refl _))
              refine hK.out _ _ hS1 (fun hSn => ?_)
              clear hK K hSn O hg hb hb0; (try simp only [Act.put, List.setIfInBounds_toArray, List.set_cons_zero, List.set_cons_succ])
              rw [← HN5.out]
              clear h hS0
              have h := h1
              have hS0 := hS1
              clear h1 hS1
              refine wpAnyH_ready (rs := [6]) (by kernel_rfl) (by simp) ?_
              refine AllReadyH.cons (o := ⟨some 38, _, _, _, _, _⟩) rfl (fun K hK => ?_) AllReadyH.nil
              · rw [if_pos (by rfl)]
                go_simp
                have hb0 := h.below
                obtain ⟨Q5, hQ5⟩ : ∃ Q5 : Nat → Prop, Q5 = fun b => P b ∨ (Value.slice A5 n5 cap5).ownBlock = some b := ⟨_, rfl⟩
                have hRow : TRow Q5 X57 A5 n5 cap5 (l ++ [y]) := by rw [hQ5]; exact h.own.trow_own
                have hQs : ∀ b, Q5 b → b < X57.heap.size ∧ b ≠ g10 := fun b hb => by
                  rw [hQ5] at hb
                  rcases hb with hb | hb
                  · have h1 := HP.out b hb; have h2 := hb0.size
                    have h3 : D.heap.size ≤ g10 := (h.kept (g10, .cells #[.int .i8 0, .int .i64 0, .string ⟨#[]⟩, .string ⟨#[]⟩, .slice none 0 0] 25) (by simp)).1
                    exact ⟨by omega, by omega⟩
                  · exact ⟨(h.own.own b hb).2, fun e => (h.kept (g10, .cells #[.int .i8 0, .int .i64 0, .string ⟨#[]⟩, .string ⟨#[]⟩, .slice none 0 0] 25) (by simp)).2.2 (by rw [← e]; exact hb)⟩
                have hgl : g10 < X57.heap.size := heap_lt (h.kept (g10, .cells #[.int .i8 0, .int .i64 0, .string ⟨#[]⟩, .string ⟨#[]⟩, .slice none 0 0] 25) (by simp)).2.1
                refine (Tuple_any Q5 (l ++ [y]) A5 n5 cap5 _ (fun b hb => (hQs b hb).1) hRow (HSD.out _ hb0) (by have := HLL.out; simp; omega)).mono ?_
                rintro e V6 ⟨bv, rfl, ⟨kb, nb, sb, tb, Ab, Lb, capb, rfl⟩, hTB, b6⟩
                have h1 := h.under HP.out b6
                have hS1 : Below W4.heap.size W4 V6 := hS0.trans (b6.mono hS0.size)
                refine hK.out _ _ hS1 (fun hSn => ?_)
                clear hK K hSn; (try simp only [Act.put, List.setIfInBounds_toArray, List.set_cons_zero, List.set_cons_succ])
                obtain ⟨Q6, hQ6⟩ : ∃ Q6 : Nat → Prop, Q6 = fun b => Q5 b ∨ (X57.heap.size ≤ b ∧ b < V6.heap.size) := ⟨_, rfl⟩
                have HTB : Hid (fitN 1 (l ++ [y]) = 0 → TmAt Q6 V6 (tupT (l ++ [y])) _) := fun h0 => by rw [hQ6]; exact hTB h0
                have HQ6 : Hid (∀ b, Q6 b → b < V6.heap.size ∧ b ≠ g10) := fun b hb => by
                  rw [hQ6] at hb
                  have hz := b6.size
                  rcases hb with hb | hb
                  · have h2 := hQs b hb; exact ⟨by omega, by omega⟩
                  · exact ⟨by omega, by omega⟩
                have HU : Hid (Below V6.heap.size V6 V6) := Below.refl _ _
                clear hTB b6 hb0 hQ5 hRow hQs hQ6 h hS0 hgl
                have h := h1
                have hS0 := hS1
                clear h1 hS1
                refine wpAnyH_take (i := 7) (oi := ⟨some 31, _, _, _, _, _⟩) (v := ?_) rfl (by kernel_rfl) (by kernel_rfl) (by kernel_rfl) (fun _ _ _ h => h) (Or.inl ⟨by kernel_rfl, ?_⟩) (by assumption) ?_; rotate_left; (intro w hSw; (try dsimp only at hSw); go_simp; first | done | with_reducible rfl); (try simp only [Act.put, List.setIfInBounds_toArray, List.set_cons_zero, List.set_cons_succ])
                refine wpAnyH_take (i := 8) (oi := ⟨some 39, _, _, _, _, _⟩) (v := ?_) rfl (by kernel_rfl) (by kernel_rfl) (by kernel_rfl) (fun _ _ _ h => h) (Or.inl ⟨by kernel_rfl, ?_⟩) (by assumption) ?_; rotate_left; (intro w hSw; (try dsimp only at hSw); go_simp; first | done | with_reducible rfl); (try simp only [Act.put, List.setIfInBounds_toArray, List.set_cons_zero, List.set_cons_succ])
                refine wpAnyH_take (i := 9) (oi := ⟨some 40, _, _, _, _, _⟩) (v := ?_) rfl (by kernel_rfl) (by kernel_rfl) (by kernel_rfl) (fun _ _ _ h => h) (Or.inl ⟨by kernel_rfl, ?_⟩) (by assumption) ?_; rotate_left; (intro w hSw; (try dsimp only at hSw); go_simp; first | done | with_reducible rfl); (try simp only [Act.put, List.setIfInBounds_toArray, List.set_cons_zero, List.set_cons_succ])
                obtain ⟨gge, gz, -⟩ := h.kept (g10, .cells #[.int .i8 0, .int .i64 0, .string ⟨#[]⟩, .string ⟨#[]⟩, .slice none 0 0] 25) (by simp)
                have r0 : V6.cell? ⟨g10, 0, none⟩ = some (.int .i8 0) := cell_of_row gz rfl
                have r1 : V6.cell? ⟨g10, 1, none⟩ = some (.int .i64 0) := cell_of_row gz rfl
                have r2 : V6.cell? ⟨g10, 2, none⟩ = some (.string ⟨#[]⟩) := cell_of_row gz rfl
                have r3 : V6.cell? ⟨g10, 3, none⟩ = some (.string ⟨#[]⟩) := cell_of_row gz rfl
                have r4 : V6.cell? ⟨g10, 4, none⟩ = some (.slice none 0 0) := cell_of_row gz rfl
                have f0 : V6.frozen? ⟨g10, 0, none⟩ = false := free_of_row gz
                have f1 : V6.frozen? ⟨g10, 1, none⟩ = false := free_of_row gz
                have f2 : V6.frozen? ⟨g10, 2, none⟩ = false := free_of_row gz
                have f3 : V6.frozen? ⟨g10, 3, none⟩ = false := free_of_row gz
                have f4 : V6.frozen? ⟨g10, 4, none⟩ = false := free_of_row gz
                obtain ⟨s5, m5⟩ := set_five (.int .i8 kb) (.int .i64 nb) (.string sb) (.string tb) (.slice Ab (List.length (α := Tm) Lb) capb) gz
                have hS9 := hS0.trans (m5.below hS0.size (fun k (e : k = g10) => by have h1 : D.heap.size ≤ g10 := gge; have := HDZ.out; omega))
                have HS5 := Lib.hid s5
                have HM5 := Lib.hid m5
                clear s5 m5
                refine wpAnyH_ready (rs := [11]) (by kernel_rfl) (by simp) ?_
                refine AllReadyH.cons (o := ⟨none, _, _, _, _, _⟩) rfl (fun K hK => ?_) AllReadyH.nil
                rw [if_pos (by rfl)]
                go_simp
                refine hK.out _ _ hS9 (fun hSn => ?_)
                clear hK K; (try simp only [Act.put, List.setIfInBounds_toArray, List.set_cons_zero, List.set_cons_succ])
                refine wpAnyH_take (i := 12) (oi := ⟨some 10, _, _, _, _, _⟩) (v := ?_) rfl (by kernel_rfl) (by kernel_rfl) (by kernel_rfl) (fun _ _ _ h => h) (Or.inl ⟨by kernel_rfl, ?_⟩) (by assumption) ?_; rotate_left; (intro w hSw; (try dsimp only at hSw); go_simp; first | done | with_reducible rfl); (try simp only [Act.put, List.setIfInBounds_toArray, List.set_cons_zero, List.set_cons_succ])
                refine wpAnyH_done (by kernel_rfl) ?_ _
                clear r0 r1 r2 r3 r4 f0 f1 f2 f3 f4 gz
                have hQ := HQ6.out
                have HU6 := HU.out
                have hgl : g10 < V6.heap.size := by have := heap_lt HS5.out; simpa [World.setCell] using this
                go_wp2_with fail
                go_meet
                refine ⟨g10, _, rfl, rfl, HS5.out, ⟨kb, nb, sb, tb, Ab, Lb, capb, rfl⟩, fun h0 => (HTB.out h0).keep (fun b hb => ?_) (fun b hb => ?_), hS9⟩
                · have := (hQ b hb).1; have h2 := HU6.size
                  exact (HM5.out.block b (by omega) (by have := (hQ b hb).2; omega)).trans (HU6.block b (hQ b hb).1)
                · have h1 := HM5.out.size; have h2 := HU6.size; have h3 := hQ b hb
                  exact ⟨by omega, by omega⟩
    · rw [if_pos (by rfl)]
      go_simp
      have h1 := h.alloc HP.out (.cells #[.int .i8 0, .int .i64 0, .string ⟨#[]⟩, .string ⟨#[]⟩, .slice none 0 0] 25)
      have hS1 := hS0.alloc hS0.size (.cells #[.int .i8 0, .int .i64 0, .string ⟨#[]⟩, .string ⟨#[]⟩, .slice none 0 0] 25)
      obtain ⟨g10, hg⟩ : ∃ g, g = D.heap.size := ⟨_, rfl⟩
      rw [← hg] at h1
      refine hK.out _ _ hS1 (fun hSn => ?_)
      clear hK K; (try simp only [Act.put, List.setIfInBounds_toArray, List.set_cons_zero, List.set_cons_succ])
      rw [← hg]
      clear hg hSn
      generalize D.alloc (.cells #[.int .i8 0, .int .i64 0, .string ⟨#[]⟩, .string ⟨#[]⟩, .slice none 0 0] 25) = X59 at h1 hS1 ⊢
      clear h hS0
      have h := h1
      have hS0 := hS1
      clear h1 hS1
      refine wpAnyH_ready (rs := [0, 4]) (by kernel_rfl) (by simp) ?_
      refine AllReadyH.cons (o := ⟨some 32, _, _, _, _, _⟩) rfl (fun K hK => ?_) (AllReadyH.cons (o := ⟨some 36, _, _, _, _, _⟩) rfl (fun K hK => ?_) AllReadyH.nil)
      · rw [if_pos (by rfl)]
        go_simp
        have h1 := h.fresh HP.out
        have hS1 := hS0.alloc hS0.size (.cells #[] 25)
        obtain ⟨g0, hg⟩ : ∃ g, g = X59.heap.size := ⟨_, rfl⟩
        rw [← hg] at h1
        refine hK.out _ _ hS1 (fun hSn => ?_)
        clear hK K; (try simp only [Act.put, List.setIfInBounds_toArray, List.set_cons_zero, List.set_cons_succ])
        rw [← hg]
        clear hg hSn
        generalize X59.alloc (.cells #[] 25) = X60 at h1 hS1 ⊢
        clear h hS0
        have h := h1
        have hS0 := hS1
        clear h1 hS1
        refine wpAnyH_ready (rs := [2, 4]) (by kernel_rfl) (by simp) ?_
        refine AllReadyH.cons (o := ⟨some 34, _, _, _, _, _⟩) rfl (fun K hK => ?_) (AllReadyH.cons (o := ⟨some 36, _, _, _, _, _⟩) rfl (fun K hK => ?_) AllReadyH.nil)
        · rw [if_pos (by rfl)]
          have hb0 := h.below
          refine wp_own_terms (.tmp 32) (.tmp 33) rfl h.own hb0.size (h.apart HP.out) rfl rfl (HTL.out.keep (fun b hb => hb0.block b (HP.out b hb)) (fun _ h => h)) (by have := HLL.out; show 0 + _ ≤ _; omega) ?_
          intro v1 X61 O hg hb
          rw [List.nil_append] at O
          have h1 := h.app O hg hb
          have hS1 : Below W4.heap.size W4 X61 := HDW.out.trans (h1.below.mono (by rw [HDZ.out]; exact Nat.le_refl _))
          refine hK.out _ _ hS1 (fun hSn => ?_)
          clear hK K hSn O hg hb hb0; (try simp only [Act.put, List.setIfInBounds_toArray, List.set_cons_zero, List.set_cons_succ])
          clear h hS0
          have h := h1
          have hS0 := hS1
          clear h1 hS1
          refine wpAnyH_ready (rs := [4]) (by kernel_rfl) (by simp) ?_
          refine AllReadyH.cons (o := ⟨some 36, _, _, _, _, _⟩) rfl (fun K hK => ?_) AllReadyH.nil
          · rw [if_pos (by rfl)]
            go_simp
            have h1 := h.alloc HP.out (.cells #[(.int .i8 ky), (.int .i64 ny), (.string sy), (.string ty), (.slice Ay Ly.length capy)] 25)
            have hS1 := hS0.alloc hS0.size (.cells #[(.int .i8 ky), (.int .i64 ny), (.string sy), (.string ty), (.slice Ay Ly.length capy)] 25)
            obtain ⟨g4, hg⟩ : ∃ g, g = X61.heap.size := ⟨_, rfl⟩
            rw [← hg] at h1
            refine hK.out _ _ hS1 (fun hSn => ?_)
            clear hK K; (try simp only [Act.put, List.setIfInBounds_toArray, List.set_cons_zero, List.set_cons_succ])
            rw [← hg]
            clear hg hSn
            generalize X61.alloc (.cells #[(.int .i8 ky), (.int .i64 ny), (.string sy), (.string ty), (.slice Ay Ly.length capy)] 25) = X62 at h1 hS1 ⊢
            clear h hS0
            have h := h1
            have hS0 := hS1
            clear h1 hS1
            refine wpAnyH_ready (rs := [5]) (by kernel_rfl) (by simp) ?_
            refine AllReadyH.cons (o := ⟨some 37, _, _, _, _, _⟩) rfl (fun K hK => ?_) AllReadyH.nil
            · rw [if_pos (by rfl)]
              have hb0 := h.below
              refine wp_own_term (.tmp 34) (.tmp 36) rfl h.own hb0.size (h.apart HP.out) rfl g4 rfl (h.kept (g4, .cells #[(.int .i8 ky), (.int .i64 ny), (.string sy), (.string ty), (.slice Ay Ly.length capy)] 25) (by simp)).2.1 (HTY.out.keep (fun b hb => hb0.block b (HP.out b hb)) (fun _ h => h)) (by have := HLL.out; omega) ?_
              intro v2 X63 O hg hb
              have h1 := h.app O hg (hb.imp Eq.symm id)
              obtain ⟨A5, cap5, rfl⟩ := O.shape
              rw [← HN5.out] at h1
              have hS1 : Below W4.heap.size W4 X63 := HDW.out.trans (h1.below.mono (by rw [HDZ.out]; exact Nat.le_refl _))
              refine hK.out _ _ hS1 (fun hSn => ?_)
              clear hK K hSn O hg hb hb0; (try simp only [Act.put, List.setIfInBounds_toArray, List.set_cons_zero, List.set_cons_succ])
              rw [← HN5.out]
              clear h hS0
              have h := h1
              have hS0 := hS1
              clear h1 hS1
              refine wpAnyH_ready (rs := [6]) (by kernel_rfl) (by simp) ?_
              refine AllReadyH.cons (o := ⟨some 38, _, _, _, _, _⟩) rfl (fun K hK => ?_) AllReadyH.nil
              · rw [if_pos (by rfl)]
                go_simp
                have hb0 := h.below
                obtain ⟨Q5, hQ5⟩ : ∃ Q5 : Nat → Prop, Q5 = fun b => P b ∨ (Value.slice A5 n5 cap5).ownBlock = some b := ⟨_, rfl⟩
                have hRow : TRow Q5 X63 A5 n5 cap5 (l ++ [y]) := by rw [hQ5]; exact h.own.trow_own
                have hQs : ∀ b, Q5 b → b < X63.heap.size ∧ b ≠ g10 := fun b hb => by
                  rw [hQ5] at hb
                  rcases hb with hb | hb
                  · have h1 := HP.out b hb; have h2 := hb0.size
                    have h3 : D.heap.size ≤ g10 := (h.kept (g10, .cells #[.int .i8 0, .int .i64 0, .string ⟨#[]⟩, .string ⟨#[]⟩, .slice none 0 0] 25) (by simp)).1
                    exact ⟨by omega, by omega⟩
                  · exact ⟨(h.own.own b hb).2, fun e => (h.kept (g10, .cells #[.int .i8 0, .int .i64 0, .string ⟨#[]⟩, .string ⟨#[]⟩, .slice none 0 0] 25) (by simp)).2.2 (by rw [← e]; exact hb)⟩
                have hgl : g10 < X63.heap.size := heap_lt (h.kept (g10, .cells #[.int .i8 0, .int .i64 0, .string ⟨#[]⟩, .string ⟨#[]⟩, .slice none 0 0] 25) (by simp)).2.1
                refine (Tuple_any Q5 (l ++ [y]) A5 n5 cap5 _ (fun b hb => (hQs b hb).1) hRow (HSD.out _ hb0) (by have := HLL.out; simp; omega)).mono ?_
                rintro e V6 ⟨bv, rfl, ⟨kb, nb, sb, tb, Ab, Lb, capb, rfl⟩, hTB, b6⟩
                have h1 := h.under HP.out b6
                have hS1 : Below W4.heap.size W4 V6 := hS0.trans (b6.mono hS0.size)
                refine hK.out _ _ hS1 (fun hSn => ?_)
                clear hK K hSn; (try simp only [Act.put, List.setIfInBounds_toArray, List.set_cons_zero, List.set_cons_succ])
                obtain ⟨Q6, hQ6⟩ : ∃ Q6 : Nat → Prop, Q6 = fun b => Q5 b ∨ (X63.heap.size ≤ b ∧ b < V6.heap.size) := ⟨_, rfl⟩
                have HTB : Hid (fitN 1 (l ++ [y]) = 0 → TmAt Q6 V6 (tupT (l ++ [y])) _) := fun h0 => by rw [hQ6]; exact hTB h0
                have HQ6 : Hid (∀ b, Q6 b → b < V6.heap.size ∧ b ≠ g10) := fun b hb => by
                  rw [hQ6] at hb
                  have hz := b6.size
                  rcases hb with hb | hb
                  · have h2 := hQs b hb; exact ⟨by omega, by omega⟩
                  · exact ⟨by omega, by omega⟩
                have HU : Hid (Below V6.heap.size V6 V6) := Below.refl _ _
                clear hTB b6 hb0 hQ5 hRow hQs hQ6 h hS0 hgl
                have h := h1
                have hS0 := hS1
                clear h1 hS1
                refine wpAnyH_take (i := 7) (oi := ⟨some 31, _, _, _, _, _⟩) (v := ?_) rfl (by kernel_rfl) (by kernel_rfl) (by kernel_rfl) (fun _ _ _ h => h) (Or.inl ⟨by kernel_rfl, ?_⟩) (by assumption) ?_; rotate_left; (intro w hSw; (try dsimp only at hSw); go_simp; first | done | with_reducible rfl); (try simp only [Act.put, List.setIfInBounds_toArray, List.set_cons_zero, List.set_cons_succ])
                refine wpAnyH_take (i := 8) (oi := ⟨some 39, _, _, _, _, _⟩) (v := ?_) rfl (by kernel_rfl) (by kernel_rfl) (by kernel_rfl) (fun _ _ _ h => h) (Or.inl ⟨by kernel_rfl, ?_⟩) (by assumption) ?_; rotate_left; (intro w hSw; (try dsimp only at hSw); go_simp; first | done | with_reducible rfl); (try simp only [Act.put, List.setIfInBounds_toArray, List.set_cons_zero, List.set_cons_succ])
                refine wpAnyH_take (i := 9) (oi := ⟨some 40, _, _, _, _, _⟩) (v := ?_) rfl (by kernel_rfl) (by kernel_rfl) (by kernel_rfl) (fun _ _ _ h => h) (Or.inl ⟨by kernel_rfl, ?_⟩) (by assumption) ?_; rotate_left; (intro w hSw; (try dsimp only at hSw); go_simp; first | done | with_reducible rfl); (try simp only [Act.put, List.setIfInBounds_toArray, List.set_cons_zero, List.set_cons_succ])
                obtain ⟨gge, gz, -⟩ := h.kept (g10, .cells #[.int .i8 0, .int .i64 0, .string ⟨#[]⟩, .string ⟨#[]⟩, .slice none 0 0] 25) (by simp)
                have r0 : V6.cell? ⟨g10, 0, none⟩ = some (.int .i8 0) := cell_of_row gz rfl
                have r1 : V6.cell? ⟨g10, 1, none⟩ = some (.int .i64 0) := cell_of_row gz rfl
                have r2 : V6.cell? ⟨g10, 2, none⟩ = some (.string ⟨#[]⟩) := cell_of_row gz rfl
                have r3 : V6.cell? ⟨g10, 3, none⟩ = some (.string ⟨#[]⟩) := cell_of_row gz rfl
                have r4 : V6.cell? ⟨g10, 4, none⟩ = some (.slice none 0 0) := cell_of_row gz rfl
                have f0 : V6.frozen? ⟨g10, 0, none⟩ = false := free_of_row gz
                have f1 : V6.frozen? ⟨g10, 1, none⟩ = false := free_of_row gz
                have f2 : V6.frozen? ⟨g10, 2, none⟩ = false := free_of_row gz
                have f3 : V6.frozen? ⟨g10, 3, none⟩ = false := free_of_row gz
                have f4 : V6.frozen? ⟨g10, 4, none⟩ = false := free_of_row gz
                obtain ⟨s5, m5⟩ := set_five (.int .i8 kb) (.int .i64 nb) (.string sb) (.string tb) (.slice Ab (List.length (α := Tm) Lb) capb) gz
                have hS9 := hS0.trans (m5.below hS0.size (fun k (e : k = g10) => by have h1 : D.heap.size ≤ g10 := gge; have := HDZ.out; omega))
                have HS5 := Lib.hid s5
                have HM5 := Lib.hid m5
                clear s5 m5
                refine wpAnyH_ready (rs := [11]) (by kernel_rfl) (by simp) ?_
                refine AllReadyH.cons (o := ⟨none, _, _, _, _, _⟩) rfl (fun K hK => ?_) AllReadyH.nil
                rw [if_pos (by rfl)]
                go_simp
                refine hK.out _ _ hS9 (fun hSn => ?_)
                clear hK K; (try simp only [Act.put, List.setIfInBounds_toArray, List.set_cons_zero, List.set_cons_succ])
                refine wpAnyH_take (i := 12) (oi := ⟨some 10, _, _, _, _, _⟩) (v := ?_) rfl (by kernel_rfl) (by kernel_rfl) (by kernel_rfl) (fun _ _ _ h => h) (Or.inl ⟨by kernel_rfl, ?_⟩) (by assumption) ?_; rotate_left; (intro w hSw; (try dsimp only at hSw); go_simp; first | done | with_reducible rfl); (try simp only [Act.put, List.setIfInBounds_toArray, List.set_cons_zero, List.set_cons_succ])
                refine wpAnyH_done (by kernel_rfl) ?_ _
                clear r0 r1 r2 r3 r4 f0 f1 f2 f3 f4 gz
                have hQ := HQ6.out
                have HU6 := HU.out
                have hgl : g10 < V6.heap.size := by have := heap_lt HS5.out; simpa [World.setCell] using this
                go_wp2_with fail
                go_meet
                refine ⟨g10, _, rfl, rfl, HS5.out, ⟨kb, nb, sb, tb, Ab, Lb, capb, rfl⟩, fun h0 => (HTB.out h0).keep (fun b hb => ?_) (fun b hb => ?_), hS9⟩
                · have := (hQ b hb).1; have h2 := HU6.size
                  exact (HM5.out.block b (by omega) (by have := (hQ b hb).2; omega)).trans (HU6.block b (hQ b hb).1)
                · have h1 := HM5.out.size; have h2 := HU6.size; have h3 := hQ b hb
                  exact ⟨by omega, by omega⟩
        · rw [if_pos (by rfl)]
          go_simp
          have h1 := h.alloc HP.out (.cells #[(.int .i8 ky), (.int .i64 ny), (.string sy), (.string ty), (.slice Ay Ly.length capy)] 25)
          have hS1 := hS0.alloc hS0.size (.cells #[(.int .i8 ky), (.int .i64 ny), (.string sy), (.string ty), (.slice Ay Ly.length capy)] 25)
          obtain ⟨g4, hg⟩ : ∃ g, g = X60.heap.size := ⟨_, rfl⟩
          rw [← hg] at h1
          refine hK.out _ _ hS1 (fun hSn => ?_)
          clear hK K; (try simp only [Act.put, List.setIfInBounds_toArray, List.set_cons_zero, List.set_cons_succ])
          rw [← hg]
          clear hg hSn
          generalize X60.alloc (.cells #[(.int .i8 ky), (.int .i64 ny), (.string sy), (.string ty), (.slice Ay Ly.length capy)] 25) = X65 at h1 hS1 ⊢
          clear h hS0
          have h := h1
          have hS0 := hS1
          clear h1 hS1
          refine wpAnyH_ready (rs := [2]) (by kernel_rfl) (by simp) ?_
          refine AllReadyH.cons (o := ⟨some 34, _, _, _, _, _⟩) rfl (fun K hK => ?_) AllReadyH.nil
          · rw [if_pos (by rfl)]
            have hb0 := h.below
            refine wp_own_terms (.tmp 32) (.tmp 33) rfl h.own hb0.size (h.apart HP.out) rfl rfl (HTL.out.keep (fun b hb => hb0.block b (HP.out b hb)) (fun _ h => h)) (by have := HLL.out; show 0 + _ ≤ _; omega) ?_
            intro v1 X66 O hg hb
            rw [List.nil_append] at O
            have h1 := h.app O hg hb
            have hS1 : Below W4.heap.size W4 X66 := HDW.out.trans (h1.below.mono (by rw [HDZ.out]; exact Nat.le_refl _))
            refine hK.out _ _ hS1 (fun hSn => ?_)
            clear hK K hSn O hg hb hb0; (try simp only [Act.put, List.setIfInBounds_toArray, List.set_cons_zero, List.set_cons_succ])
            clear h hS0
            have h := h1
            have hS0 := hS1
            clear h1 hS1
            refine wpAnyH_ready (rs := [5]) (by kernel_rfl) (by simp) ?_
            refine AllReadyH.cons (o := ⟨some 37, _, _, _, _, _⟩) rfl (fun K hK => ?_) AllReadyH.nil
            · rw [if_pos (by rfl)]
              have hb0 := h.below
              refine wp_own_term (.tmp 34) (.tmp 36) rfl h.own hb0.size (h.apart HP.out) rfl g4 rfl (h.kept (g4, .cells #[(.int .i8 ky), (.int .i64 ny), (.string sy), (.string ty), (.slice Ay Ly.length capy)] 25) (by simp)).2.1 (HTY.out.keep (fun b hb => hb0.block b (HP.out b hb)) (fun _ h => h)) (by have := HLL.out; omega) ?_
              intro v2 X67 O hg hb
              have h1 := h.app O hg (hb.imp Eq.symm id)
              obtain ⟨A5, cap5, rfl⟩ := O.shape
              rw [← HN5.out] at h1
              have hS1 : Below W4.heap.size W4 X67 := HDW.out.trans (h1.below.mono (by rw [HDZ.out]; exact Nat.le_refl _))
              refine hK.out _ _ hS1 (fun hSn => ?_)
              clear hK K hSn O hg hb hb0; (try simp only [Act.put, List.setIfInBounds_toArray, List.set_cons_zero, List.set_cons_succ])
              rw [← HN5.out]
              clear h hS0
              have h := h1
              have hS0 := hS1
              clear h1 hS1
              refine wpAnyH_ready (rs := [6]) (by kernel_rfl) (by simp) ?_
              refine AllReadyH.cons (o := ⟨some 38, _, _, _, _, _⟩) rfl (fun K hK => ?_) AllReadyH.nil
              · rw [if_pos (by rfl)]
                go_simp
                have hb0 := h.below
                obtain ⟨Q5, hQ5⟩ : ∃ Q5 : Nat → Prop, Q5 = fun b => P b ∨ (Value.slice A5 n5 cap5).ownBlock = some b := ⟨_, rfl⟩
                have hRow : TRow Q5 X67 A5 n5 cap5 (l ++ [y]) := by rw [hQ5]; exact h.own.trow_own
                have hQs : ∀ b, Q5 b → b < X67.heap.size ∧ b ≠ g10 := fun b hb => by
                  rw [hQ5] at hb
                  rcases hb with hb | hb
                  · have h1 := HP.out b hb; have h2 := hb0.size
                    have h3 : D.heap.size ≤ g10 := (h.kept (g10, .cells #[.int .i8 0, .int .i64 0, .string ⟨#[]⟩, .string ⟨#[]⟩, .slice none 0 0] 25) (by simp)).1
                    exact ⟨by omega, by omega⟩
                  · exact ⟨(h.own.own b hb).2, fun e => (h.kept (g10, .cells #[.int .i8 0, .int .i64 0, .string ⟨#[]⟩, .string ⟨#[]⟩, .slice none 0 0] 25) (by simp)).2.2 (by rw [← e]; exact hb)⟩
                have hgl : g10 < X67.heap.size := heap_lt (h.kept (g10, .cells #[.int .i8 0, .int .i64 0, .string ⟨#[]⟩, .string ⟨#[]⟩, .slice none 0 0] 25) (by simp)).2.1
                refine (Tuple_any Q5 (l ++ [y]) A5 n5 cap5 _ (fun b hb => (hQs b hb).1) hRow (HSD.out _ hb0) (by have := HLL.out; simp; omega)).mono ?_
                rintro e V6 ⟨bv, rfl, ⟨kb, nb, sb, tb, Ab, Lb, capb, rfl⟩, hTB, b6⟩
                have h1 := h.under HP.out b6
                have hS1 : Below W4.heap.size W4 V6 := hS0.trans (b6.mono hS0.size)
                refine hK.out _ _ hS1 (fun hSn => ?_)
                clear hK K hSn; (try simp only [Act.put, List.setIfInBounds_toArray, List.set_cons_zero, List.set_cons_succ])
                obtain ⟨Q6, hQ6⟩ : ∃ Q6 : Nat → Prop, Q6 = fun b => Q5 b ∨ (X67.heap.size ≤ b ∧ b < V6.heap.size) := ⟨_, rfl⟩
                have HTB : Hid (fitN 1 (l ++ [y]) = 0 → TmAt Q6 V6 (tupT (l ++ [y])) _) := fun h0 => by rw [hQ6]; exact hTB h0
                have HQ6 : Hid (∀ b, Q6 b → b < V6.heap.size ∧ b ≠ g10) := fun b hb => by
                  rw [hQ6] at hb
                  have hz := b6.size
                  rcases hb with hb | hb
                  · have h2 := hQs b hb; exact ⟨by omega, by omega⟩
                  · exact ⟨by omega, by omega⟩
                have HU : Hid (Below V6.heap.size V6 V6) := Below.refl _ _
                clear hTB b6 hb0 hQ5 hRow hQs hQ6 h hS0 hgl
                have h := h1
                have hS0 := hS1
                clear h1 hS1
                refine wpAnyH_take (i := 7) (oi := ⟨some 31, _, _, _, _, _⟩) (v := ?_) rfl (by kernel_rfl) (by kernel_rfl) (by kernel_rfl) (fun _ _ _ h => h) (Or.inl ⟨by kernel_rfl, ?_⟩) (by assumption) ?_; rotate_left; (intro w hSw; (try dsimp only at hSw); go_simp; first | done | with_reducible rfl); (try simp only [Act.put, List.setIfInBounds_toArray, List.set_cons_zero, List.set_cons_succ])
                refine wpAnyH_take (i := 8) (oi := ⟨some 39, _, _, _, _, _⟩) (v := ?_) rfl (by kernel_rfl) (by kernel_rfl) (by kernel_rfl) (fun _ _ _ h => h) (Or.inl ⟨by kernel_rfl, ?_⟩) (by assumption) ?_; rotate_left; (intro w hSw; (try dsimp only at hSw); go_simp; first | done | with_reducible rfl); (try simp only [Act.put, List.setIfInBounds_toArray, List.set_cons_zero, List.set_cons_succ])
                refine wpAnyH_take (i := 9) (oi := ⟨some 40, _, _, _, _, _⟩) (v := ?_) rfl (by kernel_rfl) (by kernel_rfl) (by kernel_rfl) (fun _ _ _ h => h) (Or.inl ⟨by kernel_rfl, ?_⟩) (by assumption) ?_; rotate_left; (intro w hSw; (try dsimp only at hSw); go_simp; first | done | with_reducible rfl); (try simp only [Act.put, List.setIfInBounds_toArray, List.set_cons_zero, List.set_cons_succ])
                obtain ⟨gge, gz, -⟩ := h.kept (g10, .cells #[.int .i8 0, .int .i64 0, .string ⟨#[]⟩, .string ⟨#[]⟩, .slice none 0 0] 25) (by simp)
                have r0 : V6.cell? ⟨g10, 0, none⟩ = some (.int .i8 0) := cell_of_row gz rfl
                have r1 : V6.cell? ⟨g10, 1, none⟩ = some (.int .i64 0) := cell_of_row gz rfl
                have r2 : V6.cell? ⟨g10, 2, none⟩ = some (.string ⟨#[]⟩) := cell_of_row gz rfl
                have r3 : V6.cell? ⟨g10, 3, none⟩ = some (.string ⟨#[]⟩) := cell_of_row gz rfl
                have r4 : V6.cell? ⟨g10, 4, none⟩ = some (.slice none 0 0) := cell_of_row gz rfl
                have f0 : V6.frozen? ⟨g10, 0, none⟩ = false := free_of_row gz
                have f1 : V6.frozen? ⟨g10, 1, none⟩ = false := free_of_row gz
                have f2 : V6.frozen? ⟨g10, 2, none⟩ = false := free_of_row gz
                have f3 : V6.frozen? ⟨g10, 3, none⟩ = false := free_of_row gz
                have f4 : V6.frozen? ⟨g10, 4, none⟩ = false := free_of_row gz
                obtain ⟨s5, m5⟩ := set_five (.int .i8 kb) (.int .i64 nb) (.string sb) (.string tb) (.slice Ab (List.length (α := Tm) Lb) capb) gz
                have hS9 := hS0.trans (m5.below hS0.size (fun k (e : k = g10) => by have h1 : D.heap.size ≤ g10 := gge; have := HDZ.out; omega))
                have HS5 := Lib.hid s5
                have HM5 := Lib.hid m5
                clear s5 m5
                refine wpAnyH_ready (rs := [11]) (by kernel_rfl) (by simp) ?_
                refine AllReadyH.cons (o := ⟨none, _, _, _, _, _⟩) rfl (fun K hK => ?_) AllReadyH.nil
                rw [if_pos (by rfl)]
                go_simp
                refine hK.out _ _ hS9 (fun hSn => ?_)
                clear hK K; (try simp only [Act.put, List.setIfInBounds_toArray, List.set_cons_zero, List.set_cons_succ])
                refine wpAnyH_take (i := 12) (oi := ⟨some 10, _, _, _, _, _⟩) (v := ?_) rfl (by kernel_rfl) (by kernel_rfl) (by kernel_rfl) (fun _ _ _ h => h) (Or.inl ⟨by kernel_rfl, ?_⟩) (by assumption) ?_; rotate_left; (intro w hSw; (try dsimp only at hSw); go_simp; first | done | with_reducible rfl); (try simp only [Act.put, List.setIfInBounds_toArray, List.set_cons_zero, List.set_cons_succ])
                refine wpAnyH_done (by kernel_rfl) ?_ _
                clear r0 r1 r2 r3 r4 f0 f1 f2 f3 f4 gz
                have hQ := HQ6.out
                have HU6 := HU.out
                have hgl : g10 < V6.heap.size := by have := heap_lt HS5.out; simpa [World.setCell] using this
                go_wp2_with fail
                go_meet
                refine ⟨g10, _, rfl, rfl, HS5.out, ⟨kb, nb, sb, tb, Ab, Lb, capb, rfl⟩, fun h0 => (HTB.out h0).keep (fun b hb => ?_) (fun b hb => ?_), hS9⟩
                · have := (hQ b hb).1; have h2 := HU6.size
                  exact (HM5.out.block b (by omega) (by have := (hQ b hb).2; omega)).trans (HU6.block b (hQ b hb).1)
                · have h1 := HM5.out.size; have h2 := HU6.size; have h3 := hQ b hb
                  exact ⟨by omega, by omega⟩
      · rw [if_pos (by rfl)]
        go_simp
        have h1 := h.alloc HP.out (.cells #[(.int .i8 ky), (.int .i64 ny), (.string sy), (.string ty), (.slice Ay Ly.length capy)] 25)
        have hS1 := hS0.alloc hS0.size (.cells #[(.int .i8 ky), (.int .i64 ny), (.string sy), (.string ty), (.slice Ay Ly.length capy)] 25)
        obtain ⟨g4, hg⟩ : ∃ g, g = X59.heap.size := ⟨_, rfl⟩
        rw [← hg] at h1
        refine hK.out _ _ hS1 (fun hSn => ?_)
        clear hK K; (try simp only [Act.put, List.setIfInBounds_toArray, List.set_cons_zero, List.set_cons_succ])
        rw [← hg]
        clear hg hSn
        generalize X59.alloc (.cells #[(.int .i8 ky), (.int .i64 ny), (.string sy), (.string ty), (.slice Ay Ly.length capy)] 25) = X69 at h1 hS1 ⊢
        clear h hS0
        have h := h1
        have hS0 := hS1
        clear h1 hS1
        refine wpAnyH_ready (rs := [0]) (by kernel_rfl) (by simp) ?_
        refine AllReadyH.cons (o := ⟨some 32, _, _, _, _, _⟩) rfl (fun K hK => ?_) AllReadyH.nil
        · rw [if_pos (by rfl)]
          go_simp
          have h1 := h.fresh HP.out
          have hS1 := hS0.alloc hS0.size (.cells #[] 25)
          obtain ⟨g0, hg⟩ : ∃ g, g = X69.heap.size := ⟨_, rfl⟩
          rw [← hg] at h1
          refine hK.out _ _ hS1 (fun hSn => ?_)
          clear hK K; (try simp only [Act.put, List.setIfInBounds_toArray, List.set_cons_zero, List.set_cons_succ])
          rw [← hg]
          clear hg hSn
          generalize X69.alloc (.cells #[] 25) = X70 at h1 hS1 ⊢
          clear h hS0
          have h := h1
          have hS0 := hS1
          clear h1 hS1
          refine wpAnyH_ready (rs := [2]) (by kernel_rfl) (by simp) ?_
          refine AllReadyH.cons (o := ⟨some 34, _, _, _, _, _⟩) rfl (fun K hK => ?_) AllReadyH.nil
          · rw [if_pos (by rfl)]
            have hb0 := h.below
            refine wp_own_terms (.tmp 32) (.tmp 33) rfl h.own hb0.size (h.apart HP.out) rfl rfl (HTL.out.keep (fun b hb => hb0.block b (HP.out b hb)) (fun _ h => h)) (by have := HLL.out; show 0 + _ ≤ _; omega) ?_
            intro v1 X71 O hg hb
            rw [List.nil_append] at O
            have h1 := h.app O hg hb
            have hS1 : Below W4.heap.size W4 X71 := HDW.out.trans (h1.below.mono (by rw [HDZ.out]; exact Nat.le_refl _))
            refine hK.out _ _ hS1 (fun hSn => ?_)
            clear hK K hSn O hg hb hb0; (try simp only [Act.put, List.setIfInBounds_toArray, List.set_cons_zero, List.set_cons_succ])
            clear h hS0
            have h := h1
            have hS0 := hS1
            clear h1 hS1
            refine wpAnyH_ready (rs := [5]) (by kernel_rfl) (by simp) ?_
            refine AllReadyH.cons (o := ⟨some 37, _, _, _, _, _⟩) rfl (fun K hK => ?_) AllReadyH.nil
            · rw [if_pos (by rfl)]
              have hb0 := h.below
              refine wp_own_term (.tmp 34) (.tmp 36) rfl h.own hb0.size (h.apart HP.out) rfl g4 rfl (h.kept (g4, .cells #[(.int .i8 ky), (.int .i64 ny), (.string sy), (.string ty), (.slice Ay Ly.length capy)] 25) (by simp)).2.1 (HTY.out.keep (fun b hb => hb0.block b (HP.out b hb)) (fun _ h => h)) (by have := HLL.out; omega) ?_
              intro v2 X72 O hg hb
              have h1 := h.app O hg (hb.imp Eq.symm id)
              obtain ⟨A5, cap5, rfl⟩ := O.shape
              rw [← HN5.out] at h1
              have hS1 : Below W4.heap.size W4 X72 := HDW.out.trans (h1.below.mono (by rw [HDZ.out]; exact Nat.le_refl _))
              refine hK.out _ _ hS1 (fun hSn => ?_)
              clear hK K hSn O hg hb hb0; (try simp only [Act.put, List.setIfInBounds_toArray, List.set_cons_zero, List.set_cons_succ])
              rw [← HN5.out]
              clear h hS0
              have h := h1
              have hS0 := hS1
              clear h1 hS1
              refine wpAnyH_ready (rs := [6]) (by kernel_rfl) (by simp) ?_
              refine AllReadyH.cons (o := ⟨some 38, _, _, _, _, _⟩) rfl (fun K hK => ?_) AllReadyH.nil
              · rw [if_pos (by rfl)]
                go_simp
                have hb0 := h.below
                obtain ⟨Q5, hQ5⟩ : ∃ Q5 : Nat → Prop, Q5 = fun b => P b ∨ (Value.slice A5 n5 cap5).ownBlock = some b := ⟨_, rfl⟩
                have hRow : TRow Q5 X72 A5 n5 cap5 (l ++ [y]) := by rw [hQ5]; exact h.own.trow_own
                have hQs : ∀ b, Q5 b → b < X72.heap.size ∧ b ≠ g10 := fun b hb => by
                  rw [hQ5] at hb
                  rcases hb with hb | hb
                  · have h1 := HP.out b hb; have h2 := hb0.size
                    have h3 : D.heap.size ≤ g10 := (h.kept (g10, .cells #[.int .i8 0, .int .i64 0, .string ⟨#[]⟩, .string ⟨#[]⟩, .slice none 0 0] 25) (by simp)).1
                    exact ⟨by omega, by omega⟩
                  · exact ⟨(h.own.own b hb).2, fun e => (h.kept (g10, .cells #[.int .i8 0, .int .i64 0, .string ⟨#[]⟩, .string ⟨#[]⟩, .slice none 0 0] 25) (by simp)).2.2 (by rw [← e]; exact hb)⟩
                have hgl : g10 < X72.heap.size := heap_lt (h.kept (g10, .cells #[.int .i8 0, .int .i64 0, .string ⟨#[]⟩, .string ⟨#[]⟩, .slice none 0 0] 25) (by simp)).2.1
                refine (Tuple_any Q5 (l ++ [y]) A5 n5 cap5 _ (fun b hb => (hQs b hb).1) hRow (HSD.out _ hb0) (by have := HLL.out; simp; omega)).mono ?_
                rintro e V6 ⟨bv, rfl, ⟨kb, nb, sb, tb, Ab, Lb, capb, rfl⟩, hTB, b6⟩
                have h1 := h.under HP.out b6
                have hS1 : Below W4.heap.size W4 V6 := hS0.trans (b6.mono hS0.size)
                refine hK.out _ _ hS1 (fun hSn => ?_)
                clear hK K hSn; (try simp only [Act.put, List.setIfInBounds_toArray, List.set_cons_zero, List.set_cons_succ])
                obtain ⟨Q6, hQ6⟩ : ∃ Q6 : Nat → Prop, Q6 = fun b => Q5 b ∨ (X72.heap.size ≤ b ∧ b < V6.heap.size) := ⟨_, rfl⟩
                have HTB : Hid (fitN 1 (l ++ [y]) = 0 → TmAt Q6 V6 (tupT (l ++ [y])) _) := fun h0 => by rw [hQ6]; exact hTB h0
                have HQ6 : Hid (∀ b, Q6 b → b < V6.heap.size ∧ b ≠ g10) := fun b hb => by
                  rw [hQ6] at hb
                  have hz := b6.size
                  rcases hb with hb | hb
                  · have h2 := hQs b hb; exact ⟨by omega, by omega⟩
                  · exact ⟨by omega, by omega⟩
                have HU : Hid (Below V6.heap.size V6 V6) := Below.refl _ _
                clear hTB b6 hb0 hQ5 hRow hQs hQ6 h hS0 hgl
                have h := h1
                have hS0 := hS1
                clear h1 hS1
                refine wpAnyH_take (i := 7) (oi := ⟨some 31, _, _, _, _, _⟩) (v := ?_) rfl (by kernel_rfl) (by kernel_rfl) (by kernel_rfl) (fun _ _ _ h => h) (Or.inl ⟨by kernel_rfl, ?_⟩) (by assumption) ?_; rotate_left; (intro w hSw; (try dsimp only at hSw); go_simp; first | done | with_reducible rfl); (try simp only [Act.put, List.setIfInBounds_toArray, List.set_cons_zero, List.set_cons_succ])
                refine wpAnyH_take (i := 8) (oi := ⟨some 39, _, _, _, _, _⟩) (v := ?_) rfl (by kernel_rfl) (by kernel_rfl) (by kernel_rfl) (fun _ _ _ h => h) (Or.inl ⟨by kernel_rfl, ?_⟩) (by assumption) ?_; rotate_left; (intro w hSw; (try dsimp only at hSw); go_simp; first | done | with_reducible rfl); (try simp only [Act.put, List.setIfInBounds_toArray, List.set_cons_zero, List.set_cons_succ])
                refine wpAnyH_take (i := 9) (oi := ⟨some 40, _, _, _, _, _⟩) (v := ?_) rfl (by kernel_rfl) (by kernel_rfl) (by kernel_rfl) (fun _ _ _ h => h) (Or.inl ⟨by kernel_rfl, ?_⟩) (by assumption) ?_; rotate_left; (intro w hSw; (try dsimp only at hSw); go_simp; first | done | with_reducible rfl); (try simp only [Act.put, List.setIfInBounds_toArray, List.set_cons_zero, List.set_cons_succ])
                obtain ⟨gge, gz, -⟩ := h.kept (g10, .cells #[.int .i8 0, .int .i64 0, .string ⟨#[]⟩, .string ⟨#[]⟩, .slice none 0 0] 25) (by simp)
                have r0 : V6.cell? ⟨g10, 0, none⟩ = some (.int .i8 0) := cell_of_row gz rfl
                have r1 : V6.cell? ⟨g10, 1, none⟩ = some (.int .i64 0) := cell_of_row gz rfl
                have r2 : V6.cell? ⟨g10, 2, none⟩ = some (.string ⟨#[]⟩) := cell_of_row gz rfl
                have r3 : V6.cell? ⟨g10, 3, none⟩ = some (.string ⟨#[]⟩) := cell_of_row gz rfl
                have r4 : V6.cell? ⟨g10, 4, none⟩ = some (.slice none 0 0) := cell_of_row gz rfl
                have f0 : V6.frozen? ⟨g10, 0, none⟩ = false := free_of_row gz
                have f1 : V6.frozen? ⟨g10, 1, none⟩ = false := free_of_row gz
                have f2 : V6.frozen? ⟨g10, 2, none⟩ = false := free_of_row gz
                have f3 : V6.frozen? ⟨g10, 3, none⟩ = false := free_of_row gz
                have f4 : V6.frozen? ⟨g10, 4, none⟩ = false := free_of_row gz
                obtain ⟨s5, m5⟩ := set_five (.int .i8 kb) (.int .i64 nb) (.string sb) (.string tb) (.slice Ab (List.length (α := Tm) Lb) capb) gz
                have hS9 := hS0.trans (m5.below hS0.size (fun k (e : k = g10) => by have h1 : D.heap.size ≤ g10 := gge; have := HDZ.out; omega))
                have HS5 := Lib.hid s5
                have HM5 := Lib.hid m5
                clear s5 m5
                refine wpAnyH_ready (rs := [11]) (by kernel_rfl) (by simp) ?_
                refine AllReadyH.cons (o := ⟨none, _, _, _, _, _⟩) rfl (fun K hK => ?_) AllReadyH.nil
                rw [if_pos (by rfl)]
                go_simp
                refine hK.out _ _ hS9 (fun hSn => ?_)
                clear hK K; (try simp only [Act.put, List.setIfInBounds_toArray, List.set_cons_zero, List.set_cons_succ])
                refine wpAnyH_take (i := 12) (oi := ⟨some 10, _, _, _, _, _⟩) (v := ?_) rfl (by kernel_rfl) (by kernel_rfl) (by kernel_rfl) (fun _ _ _ h => h) (Or.inl ⟨by kernel_rfl, ?_⟩) (by assumption) ?_; rotate_left; (intro w hSw; (try dsimp only at hSw); go_simp; first | done | with_reducible rfl); (try simp only [Act.put, List.setIfInBounds_toArray, List.set_cons_zero, List.set_cons_succ])
                refine wpAnyH_done (by kernel_rfl) ?_ _
                clear r0 r1 r2 r3 r4 f0 f1 f2 f3 f4 gz
                have hQ := HQ6.out
                have HU6 := HU.out
                have hgl : g10 < V6.heap.size := by have := heap_lt HS5.out; simpa [World.setCell] using this
                go_wp2_with fail
                go_meet
                refine ⟨g10, _, rfl, rfl, HS5.out, ⟨kb, nb, sb, tb, Ab, Lb, capb, rfl⟩, fun h0 => (HTB.out h0).keep (fun b hb => ?_) (fun b hb => ?_), hS9⟩
                · have := (hQ b hb).1; have h2 := HU6.size
                  exact (HM5.out.block b (by omega) (by have := (hQ b hb).2; omega)).trans (HU6.block b (hQ b hb).1)
                · have h1 := HM5.out.size; have h2 := HU6.size; have h3 := hQ b hb
                  exact ⟨by omega, by omega⟩
  case rest =>
    obtain ⟨g, cb, rfl, rfl, hgb, ⟨kb, nb, sb, tb, Ab, Lb, capb, rfl⟩, hTB, hbw⟩ := hcut
    have H6 := Lib.hid (H4.out.on hbw)
    have hga := (hbw.block _ (heap_lt HGA.out)).trans HGA.out
    have HGA6 := Lib.hid hga
    have HGB6 := Lib.hid hgb
    have HTA6 := Lib.hid (fun h0 => (HTA.out h0).later hbw)
    have HTB6 := Lib.hid (fun h0 => (hTB h0).mono (Q := (· < wc.heap.size)) (fun b hb => hb.1))
    clear hTB hbw
    by_cases hfa : fitN 1 l = 0
    case neg =>
      have hf1 : (fitN 1 l != 0) = true := by simpa using hfa
      clear hfa
      go_wp2_with fail
      refine (HWK.out _ H6.out.below).mono ?_
      rintro e V ⟨rfl, hb⟩
      have HBW := Lib.hid hb
      clear hb
      go_wp2_with fail
      go_ret
      exact ⟨rfl, HBW.out⟩
    have hf1 : (fitN 1 l != 0) = false := by simpa using hfa
    by_cases hfb : fitN 1 (l ++ [y]) = 0
    case neg =>
      have hf2 : (fitN 1 (l ++ [y]) != 0) = true := by simpa using hfb
      clear hfa hfb
      go_wp2_with fail
      refine (HWK.out _ H6.out.below).mono ?_
      rintro e V ⟨rfl, hb⟩
      have HBW := Lib.hid hb
      clear hb
      go_wp2_with fail
      go_ret
      exact ⟨rfl, HBW.out⟩
    have hf2 : (fitN 1 (l ++ [y]) != 0) = false := by simpa using hfb
    have hta := HTA6.out hfa
    have htb := HTB6.out hfb
    have hca := tup_check hfa
    have hcb := tup_check hfb
    have hLb : Lb.length = l.length + 1 := by
      obtain ⟨_, _, e, -⟩ := TmAt.parts (l := l ++ [y]) htb
      simp only [Value.agg.injEq, Array.mk.injEq, List.cons.injEq, and_true, Value.slice.injEq] at e
      rw [e.2.2.2.2.2.1]; simp
    have hlne : ((Lb.length : Int) != (l.length : Int) + 1) = false := by rw [hLb, bne_eq_false_iff_eq]; omega
    have CAB : Hid (∀ V, Below wc.heap.size wc V → Spans V → Calls Tryd.prog 12 #[.agg #[.int .i8 ka, .int .i64 na, .string sa, .string ta, .slice Aa (List.length (α := Tm) La) capa], .agg #[.int .i8 kb, .int .i64 nb, .string sb, .string tb, .slice Ab (List.length (α := Tm) Lb) capb]] V fun e w' => e = .returned (.int .i64 (-1)) ∧ Below V.heap.size V w') := fun V h hs => by
      have := Compare_any _ _ _ _ V (hta.later h) (htb.later h) hs
      rwa [show compN (tupT l) (tupT (l ++ [y])) = -1 by unfold compN; rw [if_pos ⟨hca, hcb⟩, ordN_tup, ordR_longer]] at this
    have CBA : Hid (∀ V, Below wc.heap.size wc V → Spans V → Calls Tryd.prog 12 #[.agg #[.int .i8 kb, .int .i64 nb, .string sb, .string tb, .slice Ab (List.length (α := Tm) Lb) capb], .agg #[.int .i8 ka, .int .i64 na, .string sa, .string ta, .slice Aa (List.length (α := Tm) La) capa]] V fun e w' => e = .returned (.int .i64 1) ∧ Below V.heap.size V w') := fun V h hs => by
      have := Compare_any _ _ _ _ V (htb.later h) (hta.later h) hs
      rwa [show compN (tupT (l ++ [y])) (tupT l) = 1 by unfold compN; rw [if_pos ⟨hcb, hca⟩, ordN_neg (tupT l), ordN_tup, ordR_longer]; rfl] at this
    have HFA := Lib.hid hfa
    have HCA := Lib.hid hca
    have HTAC := Lib.hid hta
    have HLB := Lib.hid hLb
    have a0 : wc.cell? ⟨V4.heap.size, 0, none⟩ = some (.int .i8 ka) := cell_of_row hga rfl
    have a1 : wc.cell? ⟨V4.heap.size, 1, none⟩ = some (.int .i64 na) := cell_of_row hga rfl
    have a2 : wc.cell? ⟨V4.heap.size, 2, none⟩ = some (.string sa) := cell_of_row hga rfl
    have a3 : wc.cell? ⟨V4.heap.size, 3, none⟩ = some (.string ta) := cell_of_row hga rfl
    have a4 : wc.cell? ⟨V4.heap.size, 4, none⟩ = some (.slice Aa (List.length (α := Tm) La) capa) := cell_of_row hga rfl
    have b0 : wc.cell? ⟨g, 0, none⟩ = some (.int .i8 kb) := cell_of_row hgb rfl
    have b1 : wc.cell? ⟨g, 1, none⟩ = some (.int .i64 nb) := cell_of_row hgb rfl
    have b2 : wc.cell? ⟨g, 2, none⟩ = some (.string sb) := cell_of_row hgb rfl
    have b3 : wc.cell? ⟨g, 3, none⟩ = some (.string tb) := cell_of_row hgb rfl
    have b4 : wc.cell? ⟨g, 4, none⟩ = some (.slice Ab (List.length (α := Tm) Lb) capb) := cell_of_row hgb rfl
    clear hfa hfb hta htb hca hcb hga hgb hLb
    go_wp2_with fail
    refine (CAB.out _ (Below.refl _ _) (HSP.out _ H6.out.below)).mono ?_
    rintro e V7 ⟨rfl, b7⟩
    have hga := (b7.block _ (heap_lt HGA6.out)).trans HGA6.out
    have hgb := (b7.block _ (heap_lt HGB6.out)).trans HGB6.out
    have H7 := Lib.hid (H6.out.on b7)
    have HB7 := Lib.hid b7
    clear a0 a1 a2 a3 a4 b0 b1 b2 b3 b4 b7
    have a0 : V7.cell? ⟨V4.heap.size, 0, none⟩ = some (.int .i8 ka) := cell_of_row hga rfl
    have a1 : V7.cell? ⟨V4.heap.size, 1, none⟩ = some (.int .i64 na) := cell_of_row hga rfl
    have a2 : V7.cell? ⟨V4.heap.size, 2, none⟩ = some (.string sa) := cell_of_row hga rfl
    have a3 : V7.cell? ⟨V4.heap.size, 3, none⟩ = some (.string ta) := cell_of_row hga rfl
    have a4 : V7.cell? ⟨V4.heap.size, 4, none⟩ = some (.slice Aa (List.length (α := Tm) La) capa) := cell_of_row hga rfl
    have b0 : V7.cell? ⟨g, 0, none⟩ = some (.int .i8 kb) := cell_of_row hgb rfl
    have b1 : V7.cell? ⟨g, 1, none⟩ = some (.int .i64 nb) := cell_of_row hgb rfl
    have b2 : V7.cell? ⟨g, 2, none⟩ = some (.string sb) := cell_of_row hgb rfl
    have b3 : V7.cell? ⟨g, 3, none⟩ = some (.string tb) := cell_of_row hgb rfl
    have b4 : V7.cell? ⟨g, 4, none⟩ = some (.slice Ab (List.length (α := Tm) Lb) capb) := cell_of_row hgb rfl
    clear hga hgb
    go_wp2_with fail
    refine (CBA.out _ HB7.out (HSP.out _ H7.out.below)).mono ?_
    rintro e V8 ⟨rfl, b8⟩
    have hga := (b8.block _ (by have := HB7.out.size; have := heap_lt HGA6.out; omega)).trans ((HB7.out.block _ (heap_lt HGA6.out)).trans HGA6.out)
    have hgb := (b8.block _ (by have := HB7.out.size; have := heap_lt HGB6.out; omega)).trans ((HB7.out.block _ (heap_lt HGB6.out)).trans HGB6.out)
    have H8 := Lib.hid (H7.out.on b8)
    have HB8 := Lib.hid (HB7.out.trans (b8.mono HB7.out.size))
    have HGA8 := Lib.hid hga
    have b4 : V8.cell? ⟨g, 4, none⟩ = some (.slice Ab (List.length (α := Tm) Lb) capb) := cell_of_row hgb rfl
    clear a0 a1 a2 a3 a4 b0 b1 b2 b3 b8 hga hgb
    have b4' := b4
    by_cases hk : k < 0 ∨ (l.length : Int) ≤ k
    case pos =>
      have hk0 : k < 0 ∨ (0 ≤ k ∧ (l.length : Int) ≤ k) := by omega
      clear hk
      rcases hk0 with hk | ⟨hk, hk'⟩
      all_goals
        go_wp2_with fail
        refine (HWK.out _ H8.out.below).mono ?_
        rintro e V ⟨rfl, hb⟩
        have HBW := Lib.hid hb
        clear hb
        go_wp2_with fail
        go_ret
        exact ⟨rfl, HBW.out⟩
    obtain ⟨kn, rfl⟩ : ∃ kn : Nat, k = kn := ⟨k.toNat, by omega⟩
    have hkl : kn < l.length := by omega
    have hkd1 : decide ((kn : Int) < 0) = false := decide_eq_false (by omega)
    have hkd2 : decide ((l.length : Int) ≤ (kn : Int)) = false := decide_eq_false (by omega)
    have hkd3 : decide (l.length ≤ kn) = false := decide_eq_false (by omega)
    clear hk
    have hst := (St.start V8 (· < V8.heap.size)).fresh (fun _ h => h)
    have HST := Lib.hid hst
    have HTL8 : Hid (TRow (· < V8.heap.size) (V8.alloc (.cells #[] 25)) A l.length cap l) := (HLR.out _ H8.out.below).keep (fun b hb => Below.heap_alloc _ _ _ hb) (fun _ h => h)
    have HLE8 : Hid (([] : List Tm).length + l.length ≤ 1000000) := by show 0 + _ ≤ _; omega
    clear hst
    go_wp2_with (at_builtin; refine wpList_own_terms rfl (.tmp 76) (.tmp 77) rfl HST.out.own HST.out.below.size (HST.out.apart (fun _ h => h)) rfl rfl HTL8.out HLE8.out ?_)
    intro v8 W8 O hg hb
    have h9 := HST.out.app O hg (by rw [World.size_alloc]; exact hb)
    obtain ⟨A8, cap8, rfl⟩ := O.shape
    obtain ⟨us, ho, hul, hut⟩ := O.row
    have hfv := ownT_five hul hut
    have hku : us[kn]? = some us[kn] := List.getElem?_eq_getElem (by omega)
    obtain ⟨g8, rfl, hg8, hg8l, -, hE8⟩ := own_elem ho hfv hku
    obtain ⟨d0, d1, d2, d3, d4, -, e0, e1, e2, e3, e4⟩ := hE8
    have hc8 : ∃ cur, W8.heap[g8]? = some (.cells cur 25 (0, 0)) := by
      rcases ho.2 with ⟨e, _⟩ | ⟨g', cap', cur, e, _, hh, _⟩
      · cases e
      · cases e; exact ⟨cur, hh⟩
    obtain ⟨cur, hcur⟩ := hc8
    have ea : (⟨g8, 0, none⟩ : Addr).add (kn * 5) = ⟨g8, kn * 5, none⟩ := by unfold Addr.add; split <;> simp_all
    rw [ea] at e0 e1 e2 e3 e4
    dsimp only at e1 e2 e3 e4
    have x0 : W8.frozen? ⟨g8, kn * 5, none⟩ = false := free_of_row hcur
    have x1 : W8.frozen? ⟨g8, kn * 5 + 1, none⟩ = false := free_of_row hcur
    have x2 : W8.frozen? ⟨g8, kn * 5 + 2, none⟩ = false := free_of_row hcur
    have x3 : W8.frozen? ⟨g8, kn * 5 + 3, none⟩ = false := free_of_row hcur
    have x4 : W8.frozen? ⟨g8, kn * 5 + 4, none⟩ = false := free_of_row hcur
    have hh := H8.out.on h9.below
    have HBX9 := Lib.hid h9.below
    have H9B := Lib.hid hh
    have HG8 := Lib.hid hg8
    have SET := Lib.hid (O.set (fun _ h => h) kn hkl (y := y) (c0 := .int .i8 ky) (c1 := .int .i64 ny) (c2 := .string sy) (c3 := .string ty) (c4 := .slice Ay Ly.length capy) ((HY.out V8 H8.out.below).keep (fun b hb => h9.below.block b hb) (fun _ h => h)))
    have y0 : W8.cell? ⟨w.heap.size, 0, none⟩ = some (.int .i8 ky) := cell_of_row hh.bx rfl
    have y1 : W8.cell? ⟨w.heap.size, 1, none⟩ = some (.int .i64 ny) := cell_of_row hh.bx rfl
    have y2 : W8.cell? ⟨w.heap.size, 2, none⟩ = some (.string sy) := cell_of_row hh.bx rfl
    have y3 : W8.cell? ⟨w.heap.size, 3, none⟩ = some (.string ty) := cell_of_row hh.bx rfl
    have y4 : W8.cell? ⟨w.heap.size, 4, none⟩ = some (.slice Ay Ly.length capy) := cell_of_row hh.bx rfl
    clear O hg hb h9 hh ho hul hut hfv hku hg8 hcur ea b4 b4'
    go_wp2_with fail
    obtain ⟨o9, m9⟩ := SET.out
    generalize (((((W8.setCell ⟨g8, kn * 5, none⟩ (.int .i8 ky)).setCell ⟨g8, kn * 5 + 1, none⟩ (.int .i64 ny)).setCell ⟨g8, kn * 5 + 2, none⟩ (.string sy)).setCell ⟨g8, kn * 5 + 3, none⟩ (.string ty)).setCell ⟨g8, kn * 5 + 4, none⟩ (.slice Ay Ly.length capy)) = W9 at o9 m9 ⊢
    have hb9 : Below V8.heap.size V8 W9 := HBX9.out.trans (m9.below HBX9.out.size (fun k (e : k = g8) => by rw [e]; exact HG8.out))
    have H9 := Lib.hid (H8.out.on hb9)
    have HB9 := Lib.hid hb9
    have hrow := (o9.trow_own).mono (Q := (· < W9.heap.size)) (fun b hb => hb.elim (fun h => Nat.lt_of_lt_of_le h hb9.size) (fun h => (o9.own b h).2))
    have HROW := Lib.hid hrow
    clear SET o9 m9 hb9 hrow y0 y1 y2 y3 y4 e0 e1 e2 e3 e4 x0 x1 x2 x3 x4
    refine (Tuple_any (· < W9.heap.size) (l.set kn y) (some ⟨g8, 0, none⟩) l.length cap8 _ (fun _ h => h) HROW.out (HSP.out _ H9.out.below) (by simp; omega)).mono ?_
    rintro e V10 ⟨cv, rfl, ⟨kc, nc, sc, tc, Ac, Lc, capc, rfl⟩, hTC, b10⟩
    obtain ⟨fc, hfc⟩ : ∃ fc, fc = fitN 1 (l.set kn y) := ⟨_, rfl⟩
    rw [← hfc] at hTC ⊢
    obtain ⟨W11, hW11⟩ : ∃ W11, W11 = V10.alloc (.cells #[.int .i8 kc, .int .i64 nc, .string sc, .string tc, .slice Ac (List.length (α := Tm) Lc) capc] 25) := ⟨_, rfl⟩
    have bb : Below V10.heap.size V10 W11 := by rw [hW11]; exact (Below.refl _ _).alloc (Nat.le_refl _) _
    have gg : W11.heap[V10.heap.size]? = some (.cells #[.int .i8 kc, .int .i64 nc, .string sc, .string tc, .slice Ac (List.length (α := Tm) Lc) capc] 25 (0, 0)) := by rw [hW11]; exact block_alloc _ _
    have hb8 := HB9.out.trans ((b10.mono HB9.out.size).trans (bb.mono (Nat.le_trans HB9.out.size b10.size)))
    have H11 := Lib.hid (H8.out.on hb8)
    have HGA11 := Lib.hid ((hb8.block _ (heap_lt HGA8.out)).trans HGA8.out)
    have HTC11 := Lib.hid (fun h0 => ((hTC h0).mono (Q := (· < V10.heap.size)) (fun b hb => hb.elim (fun h1 => Nat.lt_of_lt_of_le h1 b10.size) (fun h1 => h1.2))).later bb)
    have HTA11 := Lib.hid (HTAC.out.later (HB8.out.trans (hb8.mono HB8.out.size)))
    have HGC11 := Lib.hid gg
    have HFC := Lib.hid hfc
    clear hTC bb gg b10 hb8 hfc
    subst hW11
    go_wp2_with fail
    generalize V10.alloc (.cells #[.int .i8 kc, .int .i64 nc, .string sc, .string tc, .slice Ac (List.length (α := Tm) Lc) capc] 25) = W11 at H11 HGA11 HTC11 HTA11 HGC11 ⊢
    have HWK2 : Hid (∀ V, Below w.heap.size w V → Calls Tryd.prog 11 #[] V fun e w' => e = .returned (.bool true) ∧ Below V.heap.size V w') := HWK3
    by_cases hc0 : fc = 0
    case neg =>
      have hc1 : (fc != 0) = true := by simpa using hc0
      have hS0 : Below w.heap.size w W11.drew := H11.out.below.trans ⟨rfl, rfl, rfl, Nat.le_refl _, fun _ _ => rfl⟩
      clear hc0
      refine wp_region_held (S := fun V => Below w.heap.size w V) (by kernel_rfl) ?_
      refine wpAnyH_take (i := 0) (oi := ⟨some 88, _, _, _, _, _⟩) (v := ?_) rfl (by kernel_rfl) (by kernel_rfl) (by kernel_rfl) (fun _ _ _ h => h) (Or.inl ⟨by kernel_rfl, ?_⟩) (by assumption) ?_; rotate_left; (intro w hSw; (try dsimp only at hSw); go_simp; first | done | with_reducible rfl); (try simp only [Act.put, List.setIfInBounds_toArray, List.set_cons_zero, List.set_cons_succ])
      refine wpAnyH_take (i := 1) (oi := ⟨some 89, _, _, _, _, _⟩) (v := ?_) rfl (by kernel_rfl) (by kernel_rfl) (by kernel_rfl) (fun _ _ _ h => h) (Or.inl ⟨by kernel_rfl, ?_⟩) (by assumption) ?_; rotate_left; (intro w hSw; (try dsimp only at hSw); go_simp; first | done | with_reducible rfl); (try simp only [Act.put, List.setIfInBounds_toArray, List.set_cons_zero, List.set_cons_succ])
      refine wpAnyH_take (i := 2) (oi := ⟨some 90, _, _, _, _, _⟩) (v := ?_) rfl (by kernel_rfl) (by kernel_rfl) (by kernel_rfl) (fun _ _ _ h => h) (Or.inl ⟨by kernel_rfl, ?_⟩) (by assumption) ?_; rotate_left; (intro w hSw; (try dsimp only at hSw); go_simp; first | done | with_reducible rfl); (try simp only [Act.put, List.setIfInBounds_toArray, List.set_cons_zero, List.set_cons_succ])
      refine wpAnyH_take (i := 3) (oi := ⟨some 91, _, _, _, _, _⟩) (v := undef) rfl (by kernel_rfl) (by kernel_rfl) (by kernel_rfl) (fun _ _ _ h => h) (Or.inr ⟨by kernel_rfl, rfl⟩) (by assumption) ?_; (try simp only [Act.put, List.setIfInBounds_toArray, List.set_cons_zero, List.set_cons_succ])
      refine wpAnyH_take (i := 4) (oi := ⟨some 92, _, _, _, _, _⟩) (v := undef) rfl (by kernel_rfl) (by kernel_rfl) (by kernel_rfl) (fun _ _ _ h => h) (Or.inr ⟨by kernel_rfl, rfl⟩) (by assumption) ?_; (try simp only [Act.put, List.setIfInBounds_toArray, List.set_cons_zero, List.set_cons_succ])
      refine wpAnyH_take (i := 5) (oi := ⟨some 93, _, _, _, _, _⟩) (v := undef) rfl (by kernel_rfl) (by kernel_rfl) (by kernel_rfl) (fun _ _ _ h => h) (Or.inr ⟨by kernel_rfl, rfl⟩) (by assumption) ?_; (try simp only [Act.put, List.setIfInBounds_toArray, List.set_cons_zero, List.set_cons_succ])
      refine wpAnyH_take (i := 6) (oi := ⟨some 94, _, _, _, _, _⟩) (v := undef) rfl (by kernel_rfl) (by kernel_rfl) (by kernel_rfl) (fun _ _ _ h => h) (Or.inr ⟨by kernel_rfl, rfl⟩) (by assumption) ?_; (try simp only [Act.put, List.setIfInBounds_toArray, List.set_cons_zero, List.set_cons_succ])
      refine wpAnyH_take (i := 7) (oi := ⟨some 95, _, _, _, _, _⟩) (v := undef) rfl (by kernel_rfl) (by kernel_rfl) (by kernel_rfl) (fun _ _ _ h => h) (Or.inr ⟨by kernel_rfl, rfl⟩) (by assumption) ?_; (try simp only [Act.put, List.setIfInBounds_toArray, List.set_cons_zero, List.set_cons_succ])
      refine wpAnyH_take (i := 8) (oi := ⟨some 96, _, _, _, _, _⟩) (v := undef) rfl (by kernel_rfl) (by kernel_rfl) (by kernel_rfl) (fun _ _ _ h => h) (Or.inr ⟨by kernel_rfl, rfl⟩) (by assumption) ?_; (try simp only [Act.put, List.setIfInBounds_toArray, List.set_cons_zero, List.set_cons_succ])
      refine wpAnyH_take (i := 9) (oi := ⟨some 97, _, _, _, _, _⟩) (v := undef) rfl (by kernel_rfl) (by kernel_rfl) (by kernel_rfl) (fun _ _ _ h => h) (Or.inr ⟨by kernel_rfl, rfl⟩) (by assumption) ?_; (try simp only [Act.put, List.setIfInBounds_toArray, List.set_cons_zero, List.set_cons_succ])
      refine wpAnyH_take (i := 10) (oi := ⟨some 98, _, _, _, _, _⟩) (v := undef) rfl (by kernel_rfl) (by kernel_rfl) (by kernel_rfl) (fun _ _ _ h => h) (Or.inr ⟨by kernel_rfl, rfl⟩) (by assumption) ?_; (try simp only [Act.put, List.setIfInBounds_toArray, List.set_cons_zero, List.set_cons_succ])
      refine wpAnyH_take (i := 11) (oi := ⟨some 99, _, _, _, _, _⟩) (v := undef) rfl (by kernel_rfl) (by kernel_rfl) (by kernel_rfl) (fun _ _ _ h => h) (Or.inr ⟨by kernel_rfl, rfl⟩) (by assumption) ?_; (try simp only [Act.put, List.setIfInBounds_toArray, List.set_cons_zero, List.set_cons_succ])
      refine wpAnyH_take (i := 12) (oi := ⟨some 100, _, _, _, _, _⟩) (v := undef) rfl (by kernel_rfl) (by kernel_rfl) (by kernel_rfl) (fun _ _ _ h => h) (Or.inr ⟨by kernel_rfl, rfl⟩) (by assumption) ?_; (try simp only [Act.put, List.setIfInBounds_toArray, List.set_cons_zero, List.set_cons_succ])
      refine wpAnyH_take (i := 13) (oi := ⟨some 101, _, _, _, _, _⟩) (v := ?_) rfl (by kernel_rfl) (by kernel_rfl) (by kernel_rfl) (fun _ _ _ h => h) (Or.inl ⟨by kernel_rfl, ?_⟩) (by assumption) ?_; rotate_left; (intro w hSw; (try dsimp only at hSw); go_simp; first | done | with_reducible rfl); (try simp only [Act.put, List.setIfInBounds_toArray, List.set_cons_zero, List.set_cons_succ])
      refine wpAnyH_take (i := 14) (oi := ⟨some 102, _, _, _, _, _⟩) (v := ?_) rfl (by kernel_rfl) (by kernel_rfl) (by kernel_rfl) (fun _ _ _ h => h) (Or.inl ⟨by kernel_rfl, ?_⟩) (by assumption) ?_; rotate_left; (intro w hSw; (try dsimp only at hSw); go_simp; first | done | with_reducible rfl); (try simp only [Act.put, List.setIfInBounds_toArray, List.set_cons_zero, List.set_cons_succ])
      refine wpAnyH_ready (rs := [15]) (by kernel_rfl) (by simp) ?_
      refine AllReadyH.cons (o := ⟨some 103, _, _, _, _, _⟩) rfl (fun K hK => ?_) AllReadyH.nil
      rw [if_pos (by rfl)]
      go_simp
      refine (HWK2.out _ hS0).mono ?_
      rintro e V12 ⟨rfl, b12⟩
      have hS1 : Below w.heap.size w V12 := hS0.trans (b12.mono hS0.size)
      refine hK.out _ _ hS1 (fun hSn => ?_)
      clear hK K; (try simp only [Act.put, List.setIfInBounds_toArray, List.set_cons_zero, List.set_cons_succ])
      refine wpAnyH_take (i := 16) (oi := ⟨some 104, _, _, _, _, _⟩) (v := ?_) rfl (by kernel_rfl) (by kernel_rfl) (by kernel_rfl) (fun _ _ _ h => h) (Or.inl ⟨by kernel_rfl, ?_⟩) (by assumption) ?_; rotate_left; (intro w hSw; (try dsimp only at hSw); go_simp; first | done | with_reducible rfl); (try simp only [Act.put, List.setIfInBounds_toArray, List.set_cons_zero, List.set_cons_succ])
      refine wpAnyH_take (i := 17) (oi := ⟨some 6, _, _, _, _, _⟩) (v := ?_) rfl (by kernel_rfl) (by kernel_rfl) (by kernel_rfl) (fun _ _ _ h => h) (Or.inl ⟨by kernel_rfl, ?_⟩) (by assumption) ?_; rotate_left; (intro w hSw; (try dsimp only at hSw); go_simp; first | done | with_reducible rfl); (try simp only [Act.put, List.setIfInBounds_toArray, List.set_cons_zero, List.set_cons_succ])
      refine wpAnyH_done (by kernel_rfl) ?_ _
      have HB12 := Lib.hid hS1
      clear hS0 hS1 b12
      go_wp2_with fail
      go_ret
      exact ⟨rfl, HB12.out⟩
    have hc1 : (fc != 0) = false := by simpa using hc0
    have hfl := HFC.out
    rw [hc0] at hfl
    have htc := HTC11.out hc0
    have hta := HTA11.out
    obtain ⟨x, hx⟩ : ∃ x, l[kn]? = some x := ⟨l[kn], List.getElem?_eq_getElem hkl⟩
    obtain ⟨ad, uz, rfl, had, hE, hTx⟩ := HL0.out.at_ kn x hx
    obtain ⟨kx, nx, sx, tx, Lx, Ax, capx, ex, rfl⟩ : ∃ k' n' s' t' L' A' cap', x = Tm.mk k' n' s' t' L' ∧ uz = .agg #[.int .i8 k', .int .i64 n', .string s', .string t', .slice A' L'.length cap'] := by
      cases hTx; exact ⟨_, _, _, _, _, _, _, rfl, rfl⟩
    clear ex
    have hxv := (fit_zero HFA.out).2 x (List.mem_of_getElem? hx)
    obtain ⟨c0, hcd⟩ : ∃ c0, c0 = ordN x y := ⟨_, rfl⟩
    have CAC : Hid (∀ V, Below W11.heap.size W11 V → Calls Tryd.prog 12 #[.agg #[.int .i8 ka, .int .i64 na, .string sa, .string ta, .slice Aa (List.length (α := Tm) La) capa], .agg #[.int .i8 kc, .int .i64 nc, .string sc, .string tc, .slice Ac (List.length (α := Tm) Lc) capc]] V fun e w' => e = .returned (.int .i64 c0) ∧ Below V.heap.size V w') := fun V h => by
      have := Compare_any _ _ _ _ V (hta.later h) (htc.later h) (HSP.out _ (H11.out.below.trans (h.mono H11.out.below.size)))
      rwa [show compN (tupT l) (tupT (l.set kn y)) = c0 by unfold compN; rw [if_pos ⟨HCA.out, tup_check hfl.symm⟩, ordN_tup, ordR_other l kn y x hx, hcd]] at this
    have CXY : Hid (∀ V, Below W11.heap.size W11 V → Calls Tryd.prog 12 #[.agg #[(.int .i8 kx), (.int .i64 nx), (.string sx), (.string tx), (.slice Ax Lx.length capx)], .agg #[(.int .i8 ky), (.int .i64 ny), (.string sy), (.string ty), (.slice Ay Ly.length capy)]] V fun e w' => e = .returned (.int .i64 c0) ∧ Below V.heap.size V w') := fun V h => by
      have hw := H11.out.below.trans (h.mono H11.out.below.size)
      have := Compare_any _ _ _ _ V (hTx.later hw) (HY.out _ hw) (HSP.out _ hw)
      rwa [show compN x y = c0 by unfold compN; rw [if_pos ⟨check_of hxv.1 hxv.2, HCY.out⟩, hcd]] at this
    have HEL : Hid (∀ V, Below W11.heap.size W11 V → V.cell? (ad.add (kn * 5)) = some (.int .i8 kx) ∧ V.cell? ⟨(ad.add (kn * 5)).block, (ad.add (kn * 5)).off + 1, none⟩ = some (.int .i64 nx) ∧ V.cell? ⟨(ad.add (kn * 5)).block, (ad.add (kn * 5)).off + 2, none⟩ = some (.string sx) ∧ V.cell? ⟨(ad.add (kn * 5)).block, (ad.add (kn * 5)).off + 3, none⟩ = some (.string tx) ∧ V.cell? ⟨(ad.add (kn * 5)).block, (ad.add (kn * 5)).off + 4, none⟩ = some (.slice Ax Lx.length capx)) := fun V h => by
      obtain ⟨q0, q1, q2, q3, q4, e, g0, g1, g2, g3, g4⟩ := hE.keep ((H11.out.below.trans (h.mono H11.out.below.size)).block _ had)
      simp only [Value.agg.injEq, Array.mk.injEq, List.cons.injEq, and_true] at e
      obtain ⟨rfl, rfl, rfl, rfl, rfl⟩ := e
      exact ⟨g0, g1, g2, g3, g4⟩
    have i0 : (0 : Int) ≤ (kn : Int) := by omega
    have i1 : (kn : Int) < (l.length : Int) := by omega
    have hS0 : Below W11.heap.size W11 W11.drew := ⟨rfl, rfl, rfl, Nat.le_refl _, fun _ _ => rfl⟩
    clear hc0 hfl htc hta hx had hE hTx hxv hcd
    refine wp_region_held (S := fun V => Below W11.heap.size W11 V) (by kernel_rfl) ?_
    refine wpAnyH_take (i := 0) (oi := ⟨some 88, _, _, _, _, _⟩) (v := ?_) rfl (by kernel_rfl) (by kernel_rfl) (by kernel_rfl) (fun _ _ _ h => h) (Or.inl ⟨by kernel_rfl, ?_⟩) (by assumption) ?_; rotate_left; (intro w hSw; (try dsimp only at hSw); go_simp; first | done | with_reducible rfl); (try simp only [Act.put, List.setIfInBounds_toArray, List.set_cons_zero, List.set_cons_succ])
    refine wpAnyH_take (i := 1) (oi := ⟨some 89, _, _, _, _, _⟩) (v := ?_) rfl (by kernel_rfl) (by kernel_rfl) (by kernel_rfl) (fun _ _ _ h => h) (Or.inl ⟨by kernel_rfl, ?_⟩) (by assumption) ?_; rotate_left; (intro w hSw; (try dsimp only at hSw); go_simp; first | done | with_reducible rfl); (try simp only [Act.put, List.setIfInBounds_toArray, List.set_cons_zero, List.set_cons_succ])
    refine wpAnyH_take (i := 2) (oi := ⟨some 90, _, _, _, _, _⟩) (v := ?_) rfl (by kernel_rfl) (by kernel_rfl) (by kernel_rfl) (fun _ _ _ h => h) (Or.inl ⟨by kernel_rfl, ?_⟩) (by assumption) ?_; rotate_left; (intro w hSw; (try dsimp only at hSw); go_simp; first | done | with_reducible rfl); (try simp only [Act.put, List.setIfInBounds_toArray, List.set_cons_zero, List.set_cons_succ])
    refine wpAnyH_take (i := 3) (oi := ⟨some 91, _, _, _, _, _⟩) (v := ?_) rfl (by kernel_rfl) (by kernel_rfl) (by kernel_rfl) (fun _ _ _ h => h) (Or.inl ⟨by kernel_rfl, ?_⟩) (by assumption) ?_; rotate_left; (intro w hSw; (try dsimp only at hSw); have ha := (hSw.block _ (heap_lt HGA11.out)).trans HGA11.out; have a0 := cell_of_row (i := 0) ha rfl; have a1 := cell_of_row (i := 1) ha rfl; have a2 := cell_of_row (i := 2) ha rfl; have a3 := cell_of_row (i := 3) ha rfl; have a4 := cell_of_row (i := 4) ha rfl; have hq := (hSw.block _ (heap_lt HGC11.out)).trans HGC11.out; have q0 := cell_of_row (i := 0) hq rfl; have q1 := cell_of_row (i := 1) hq rfl; have q2 := cell_of_row (i := 2) hq rfl; have q3 := cell_of_row (i := 3) hq rfl; have q4 := cell_of_row (i := 4) hq rfl; have hy1 := H11.out.bx; have hy2 := (hSw.block _ (heap_lt hy1)).trans hy1; have r0 := cell_of_row (i := 0) hy2 rfl; have r1 := cell_of_row (i := 1) hy2 rfl; have r2 := cell_of_row (i := 2) hy2 rfl; have r3 := cell_of_row (i := 3) hy2 rfl; have r4 := cell_of_row (i := 4) hy2 rfl; obtain ⟨u0, u1, u2, u3, u4⟩ := HEL.out _ hSw; go_simp; first | done | with_reducible rfl); (try simp only [Act.put, List.setIfInBounds_toArray, List.set_cons_zero, List.set_cons_succ])
    refine wpAnyH_take (i := 4) (oi := ⟨some 92, _, _, _, _, _⟩) (v := ?_) rfl (by kernel_rfl) (by kernel_rfl) (by kernel_rfl) (fun _ _ _ h => h) (Or.inl ⟨by kernel_rfl, ?_⟩) (by assumption) ?_; rotate_left; (intro w hSw; (try dsimp only at hSw); have ha := (hSw.block _ (heap_lt HGA11.out)).trans HGA11.out; have a0 := cell_of_row (i := 0) ha rfl; have a1 := cell_of_row (i := 1) ha rfl; have a2 := cell_of_row (i := 2) ha rfl; have a3 := cell_of_row (i := 3) ha rfl; have a4 := cell_of_row (i := 4) ha rfl; have hq := (hSw.block _ (heap_lt HGC11.out)).trans HGC11.out; have q0 := cell_of_row (i := 0) hq rfl; have q1 := cell_of_row (i := 1) hq rfl; have q2 := cell_of_row (i := 2) hq rfl; have q3 := cell_of_row (i := 3) hq rfl; have q4 := cell_of_row (i := 4) hq rfl; have hy1 := H11.out.bx; have hy2 := (hSw.block _ (heap_lt hy1)).trans hy1; have r0 := cell_of_row (i := 0) hy2 rfl; have r1 := cell_of_row (i := 1) hy2 rfl; have r2 := cell_of_row (i := 2) hy2 rfl; have r3 := cell_of_row (i := 3) hy2 rfl; have r4 := cell_of_row (i := 4) hy2 rfl; obtain ⟨u0, u1, u2, u3, u4⟩ := HEL.out _ hSw; go_simp; first | done | with_reducible rfl); (try simp only [Act.put, List.setIfInBounds_toArray, List.set_cons_zero, List.set_cons_succ])
    refine wpAnyH_take (i := 6) (oi := ⟨some 94, _, _, _, _, _⟩) (v := ?_) rfl (by kernel_rfl) (by kernel_rfl) (by kernel_rfl) (fun _ _ _ h => h) (Or.inl ⟨by kernel_rfl, ?_⟩) (by assumption) ?_; rotate_left; (intro w hSw; (try dsimp only at hSw); have ha := (hSw.block _ (heap_lt HGA11.out)).trans HGA11.out; have a0 := cell_of_row (i := 0) ha rfl; have a1 := cell_of_row (i := 1) ha rfl; have a2 := cell_of_row (i := 2) ha rfl; have a3 := cell_of_row (i := 3) ha rfl; have a4 := cell_of_row (i := 4) ha rfl; have hq := (hSw.block _ (heap_lt HGC11.out)).trans HGC11.out; have q0 := cell_of_row (i := 0) hq rfl; have q1 := cell_of_row (i := 1) hq rfl; have q2 := cell_of_row (i := 2) hq rfl; have q3 := cell_of_row (i := 3) hq rfl; have q4 := cell_of_row (i := 4) hq rfl; have hy1 := H11.out.bx; have hy2 := (hSw.block _ (heap_lt hy1)).trans hy1; have r0 := cell_of_row (i := 0) hy2 rfl; have r1 := cell_of_row (i := 1) hy2 rfl; have r2 := cell_of_row (i := 2) hy2 rfl; have r3 := cell_of_row (i := 3) hy2 rfl; have r4 := cell_of_row (i := 4) hy2 rfl; obtain ⟨u0, u1, u2, u3, u4⟩ := HEL.out _ hSw; go_simp; first | done | with_reducible rfl); (try simp only [Act.put, List.setIfInBounds_toArray, List.set_cons_zero, List.set_cons_succ])
    refine wpAnyH_take (i := 7) (oi := ⟨some 95, _, _, _, _, _⟩) (v := ?_) rfl (by kernel_rfl) (by kernel_rfl) (by kernel_rfl) (fun _ _ _ h => h) (Or.inl ⟨by kernel_rfl, ?_⟩) (by assumption) ?_; rotate_left; (intro w hSw; (try dsimp only at hSw); have ha := (hSw.block _ (heap_lt HGA11.out)).trans HGA11.out; have a0 := cell_of_row (i := 0) ha rfl; have a1 := cell_of_row (i := 1) ha rfl; have a2 := cell_of_row (i := 2) ha rfl; have a3 := cell_of_row (i := 3) ha rfl; have a4 := cell_of_row (i := 4) ha rfl; have hq := (hSw.block _ (heap_lt HGC11.out)).trans HGC11.out; have q0 := cell_of_row (i := 0) hq rfl; have q1 := cell_of_row (i := 1) hq rfl; have q2 := cell_of_row (i := 2) hq rfl; have q3 := cell_of_row (i := 3) hq rfl; have q4 := cell_of_row (i := 4) hq rfl; have hy1 := H11.out.bx; have hy2 := (hSw.block _ (heap_lt hy1)).trans hy1; have r0 := cell_of_row (i := 0) hy2 rfl; have r1 := cell_of_row (i := 1) hy2 rfl; have r2 := cell_of_row (i := 2) hy2 rfl; have r3 := cell_of_row (i := 3) hy2 rfl; have r4 := cell_of_row (i := 4) hy2 rfl; obtain ⟨u0, u1, u2, u3, u4⟩ := HEL.out _ hSw; go_simp; first | done | with_reducible rfl); (try simp only [Act.put, List.setIfInBounds_toArray, List.set_cons_zero, List.set_cons_succ])
    refine wpAnyH_take (i := 8) (oi := ⟨some 96, _, _, _, _, _⟩) (v := ?_) rfl (by kernel_rfl) (by kernel_rfl) (by kernel_rfl) (fun _ _ _ h => h) (Or.inl ⟨by kernel_rfl, ?_⟩) (by assumption) ?_; rotate_left; (intro w hSw; (try dsimp only at hSw); have ha := (hSw.block _ (heap_lt HGA11.out)).trans HGA11.out; have a0 := cell_of_row (i := 0) ha rfl; have a1 := cell_of_row (i := 1) ha rfl; have a2 := cell_of_row (i := 2) ha rfl; have a3 := cell_of_row (i := 3) ha rfl; have a4 := cell_of_row (i := 4) ha rfl; have hq := (hSw.block _ (heap_lt HGC11.out)).trans HGC11.out; have q0 := cell_of_row (i := 0) hq rfl; have q1 := cell_of_row (i := 1) hq rfl; have q2 := cell_of_row (i := 2) hq rfl; have q3 := cell_of_row (i := 3) hq rfl; have q4 := cell_of_row (i := 4) hq rfl; have hy1 := H11.out.bx; have hy2 := (hSw.block _ (heap_lt hy1)).trans hy1; have r0 := cell_of_row (i := 0) hy2 rfl; have r1 := cell_of_row (i := 1) hy2 rfl; have r2 := cell_of_row (i := 2) hy2 rfl; have r3 := cell_of_row (i := 3) hy2 rfl; have r4 := cell_of_row (i := 4) hy2 rfl; obtain ⟨u0, u1, u2, u3, u4⟩ := HEL.out _ hSw; go_simp; first | done | with_reducible rfl); (try simp only [Act.put, List.setIfInBounds_toArray, List.set_cons_zero, List.set_cons_succ])
    refine wpAnyH_take (i := 9) (oi := ⟨some 97, _, _, _, _, _⟩) (v := ?_) rfl (by kernel_rfl) (by kernel_rfl) (by kernel_rfl) (fun _ _ _ h => h) (Or.inl ⟨by kernel_rfl, ?_⟩) (by assumption) ?_; rotate_left; (intro w hSw; (try dsimp only at hSw); have ha := (hSw.block _ (heap_lt HGA11.out)).trans HGA11.out; have a0 := cell_of_row (i := 0) ha rfl; have a1 := cell_of_row (i := 1) ha rfl; have a2 := cell_of_row (i := 2) ha rfl; have a3 := cell_of_row (i := 3) ha rfl; have a4 := cell_of_row (i := 4) ha rfl; have hq := (hSw.block _ (heap_lt HGC11.out)).trans HGC11.out; have q0 := cell_of_row (i := 0) hq rfl; have q1 := cell_of_row (i := 1) hq rfl; have q2 := cell_of_row (i := 2) hq rfl; have q3 := cell_of_row (i := 3) hq rfl; have q4 := cell_of_row (i := 4) hq rfl; have hy1 := H11.out.bx; have hy2 := (hSw.block _ (heap_lt hy1)).trans hy1; have r0 := cell_of_row (i := 0) hy2 rfl; have r1 := cell_of_row (i := 1) hy2 rfl; have r2 := cell_of_row (i := 2) hy2 rfl; have r3 := cell_of_row (i := 3) hy2 rfl; have r4 := cell_of_row (i := 4) hy2 rfl; obtain ⟨u0, u1, u2, u3, u4⟩ := HEL.out _ hSw; go_simp; first | done | with_reducible rfl); (try simp only [Act.put, List.setIfInBounds_toArray, List.set_cons_zero, List.set_cons_succ])
    refine wpAnyH_take (i := 10) (oi := ⟨some 98, _, _, _, _, _⟩) (v := ?_) rfl (by kernel_rfl) (by kernel_rfl) (by kernel_rfl) (fun _ _ _ h => h) (Or.inl ⟨by kernel_rfl, ?_⟩) (by assumption) ?_; rotate_left; (intro w hSw; (try dsimp only at hSw); have ha := (hSw.block _ (heap_lt HGA11.out)).trans HGA11.out; have a0 := cell_of_row (i := 0) ha rfl; have a1 := cell_of_row (i := 1) ha rfl; have a2 := cell_of_row (i := 2) ha rfl; have a3 := cell_of_row (i := 3) ha rfl; have a4 := cell_of_row (i := 4) ha rfl; have hq := (hSw.block _ (heap_lt HGC11.out)).trans HGC11.out; have q0 := cell_of_row (i := 0) hq rfl; have q1 := cell_of_row (i := 1) hq rfl; have q2 := cell_of_row (i := 2) hq rfl; have q3 := cell_of_row (i := 3) hq rfl; have q4 := cell_of_row (i := 4) hq rfl; have hy1 := H11.out.bx; have hy2 := (hSw.block _ (heap_lt hy1)).trans hy1; have r0 := cell_of_row (i := 0) hy2 rfl; have r1 := cell_of_row (i := 1) hy2 rfl; have r2 := cell_of_row (i := 2) hy2 rfl; have r3 := cell_of_row (i := 3) hy2 rfl; have r4 := cell_of_row (i := 4) hy2 rfl; obtain ⟨u0, u1, u2, u3, u4⟩ := HEL.out _ hSw; go_simp; first | done | with_reducible rfl); (try simp only [Act.put, List.setIfInBounds_toArray, List.set_cons_zero, List.set_cons_succ])
    refine wpAnyH_ready (rs := [5]) (by kernel_rfl) (by simp) ?_
    refine AllReadyH.cons (o := ⟨some 93, _, _, _, _, _⟩) rfl (fun K hK => ?_) AllReadyH.nil
    rw [if_pos (by rfl)]
    go_simp
    refine (CAC.out _ hS0).mono ?_
    rintro e V12 ⟨rfl, b12⟩
    have hS1 : Below W11.heap.size W11 V12 := hS0.trans (b12.mono hS0.size)
    refine hK.out _ _ hS1 (fun hSn => ?_)
    clear hK K; (try simp only [Act.put, List.setIfInBounds_toArray, List.set_cons_zero, List.set_cons_succ])
    refine wpAnyH_ready (rs := [11]) (by kernel_rfl) (by simp) ?_
    refine AllReadyH.cons (o := ⟨some 99, _, _, _, _, _⟩) rfl (fun K hK => ?_) AllReadyH.nil
    rw [if_pos (by rfl)]
    go_simp
    refine (CXY.out _ hS1).mono ?_
    rintro e V13 ⟨rfl, b13⟩
    have hS2 : Below W11.heap.size W11 V13 := hS1.trans (b13.mono hS1.size)
    refine hK.out _ _ hS2 (fun hSn => ?_)
    clear hK K; (try simp only [Act.put, List.setIfInBounds_toArray, List.set_cons_zero, List.set_cons_succ])
    refine wpAnyH_take (i := 12) (oi := ⟨some 100, _, _, _, _, _⟩) (v := ?_) rfl (by kernel_rfl) (by kernel_rfl) (by kernel_rfl) (fun _ _ _ h => h) (Or.inl ⟨by kernel_rfl, ?_⟩) (by assumption) ?_; rotate_left; (intro w hSw; (try dsimp only at hSw); go_simp; first | done | with_reducible rfl); (try simp only [Act.put, List.setIfInBounds_toArray, List.set_cons_zero, List.set_cons_succ])
    refine wpAnyH_take (i := 13) (oi := ⟨some 101, _, _, _, _, _⟩) (v := ?_) rfl (by kernel_rfl) (by kernel_rfl) (by kernel_rfl) (fun _ _ _ h => h) (Or.inl ⟨by kernel_rfl, ?_⟩) (by assumption) ?_; rotate_left; (intro w hSw; (try dsimp only at hSw); go_simp; first | done | with_reducible rfl); (try simp only [Act.put, List.setIfInBounds_toArray, List.set_cons_zero, List.set_cons_succ])
    refine wpAnyH_take (i := 14) (oi := ⟨some 102, _, _, _, _, _⟩) (v := ?_) rfl (by kernel_rfl) (by kernel_rfl) (by kernel_rfl) (fun _ _ _ h => h) (Or.inl ⟨by kernel_rfl, ?_⟩) (by assumption) ?_; rotate_left; (intro w hSw; (try dsimp only at hSw); go_simp; first | done | with_reducible rfl); (try simp only [Act.put, List.setIfInBounds_toArray, List.set_cons_zero, List.set_cons_succ])
    refine wpAnyH_ready (rs := [15]) (by kernel_rfl) (by simp) ?_
    refine AllReadyH.cons (o := ⟨some 103, _, _, _, _, _⟩) rfl (fun K hK => ?_) AllReadyH.nil
    rw [if_pos (by rfl)]
    go_simp
    refine (HWK2.out _ (H11.out.below.trans (hS2.mono H11.out.below.size))).mono ?_
    rintro e V14 ⟨rfl, b14⟩
    have hS3 : Below W11.heap.size W11 V14 := hS2.trans (b14.mono hS2.size)
    refine hK.out _ _ hS3 (fun hSn => ?_)
    clear hK K; (try simp only [Act.put, List.setIfInBounds_toArray, List.set_cons_zero, List.set_cons_succ])
    refine wpAnyH_take (i := 16) (oi := ⟨some 104, _, _, _, _, _⟩) (v := ?_) rfl (by kernel_rfl) (by kernel_rfl) (by kernel_rfl) (fun _ _ _ h => h) (Or.inl ⟨by kernel_rfl, ?_⟩) (by assumption) ?_; rotate_left; (intro w hSw; (try dsimp only at hSw); go_simp; first | done | with_reducible rfl); (try simp only [Act.put, List.setIfInBounds_toArray, List.set_cons_zero, List.set_cons_succ])
    refine wpAnyH_take (i := 17) (oi := ⟨some 6, _, _, _, _, _⟩) (v := ?_) rfl (by kernel_rfl) (by kernel_rfl) (by kernel_rfl) (fun _ _ _ h => h) (Or.inl ⟨by kernel_rfl, ?_⟩) (by assumption) ?_; rotate_left; (intro w hSw; (try dsimp only at hSw); go_simp; first | done | with_reducible rfl); (try simp only [Act.put, List.setIfInBounds_toArray, List.set_cons_zero, List.set_cons_succ])
    refine wpAnyH_done (by kernel_rfl) ?_ _
    have HB14 := Lib.hid (H11.out.below.trans (hS3.mono H11.out.below.size))
    clear hS0 hS1 hS2 hS3 b12 b13 b14
    go_wp2_with fail
    go_ret
    exact ⟨rfl, HB14.out⟩
end Go.Proofs.YtohbljgagbnjoaaDoor
