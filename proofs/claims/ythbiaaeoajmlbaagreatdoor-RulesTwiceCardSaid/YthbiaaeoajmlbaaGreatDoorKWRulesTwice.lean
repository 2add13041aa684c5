/- The law RulesTwice's walk, from the program's own contracts. -/
import Derived.Test.YthbiaaeoajmlbaaGreatDoorKWRulesMore
import Derived.Test.YthbiaaeoajmlbaaGreatDoorKRf7D
import Derived.Test.YthbiaaeoajmlbaaGreatDoorKRf7J
set_option linter.unusedVariables false
set_option linter.unusedSimpArgs false
namespace Go.Proofs.YthbiaaeoajmlbaaGreatDoor
open Go.RowKit Go.Shelf

structure RNew (w9 : World) (hs : List Tm) (A6 : Option Addr) (n6 cap6 g9 : Nat) (wx : World) : Prop where
  below : Below w9.heap.size w9 wx
  box : wx.heap[g9]? = some (.cells #[.int .i8 0, .int .i64 0, .string ⟨#[]⟩, .string ⟨#[]⟩, .slice A6 n6 cap6] 25 (0, 0))
  tree : TmAt (· < wx.heap.size) wx (.mk 0 0 ⟨#[]⟩ ⟨#[]⟩ hs) (.agg #[.int .i8 0, .int .i64 0, .string ⟨#[]⟩, .string ⟨#[]⟩, .slice A6 n6 cap6])
theorem rnew_of {w9 D V : World} {P : Nat → Prop} {Bs : List (Nat × Obj)} {hs : List Tm} {A6 : Option Addr} {n6 cap6 g9 : Nat} (h : StN D V P Bs (.slice A6 n6 cap6) hs) (hP : P = (· < D.heap.size))
    (hS : Below w9.heap.size w9 V) (hDz : D.heap.size = w9.heap.size) (hk : (g9, Obj.cells #[.int .i8 0, .int .i64 0, .string ⟨#[]⟩, .string ⟨#[]⟩, .slice none 0 0] 25 (0, 0)) ∈ Bs) (hn : n6 = hs.length) :
    RNew w9 hs A6 n6 cap6 g9 (((((V.setCell ⟨g9, 0, none⟩ (.int .i8 0)).setCell ⟨g9, 1, none⟩ (.int .i64 0)).setCell ⟨g9, 2, none⟩ (.string ⟨#[]⟩)).setCell ⟨g9, 3, none⟩ (.string ⟨#[]⟩)).setCell ⟨g9, 4, none⟩ (.slice A6 n6 cap6)) := by
  obtain ⟨gge, gz, gne⟩ := h.kept _ hk
  dsimp only at gge gz gne
  obtain ⟨s5, m5⟩ := set_five7 (.int .i8 0) (.int .i64 0) (.string ⟨#[]⟩) (.string ⟨#[]⟩) (.slice A6 n6 cap6) gz
  generalize ((((V.setCell ⟨g9, 0, none⟩ (.int .i8 0)).setCell ⟨g9, 1, none⟩ (.int .i64 0)).setCell ⟨g9, 2, none⟩ (.string ⟨#[]⟩)).setCell ⟨g9, 3, none⟩ (.string ⟨#[]⟩)).setCell ⟨g9, 4, none⟩ (.slice A6 n6 cap6) = W at s5 m5 ⊢
  have hVs := h.below.size
  have hgV := heap_lt gz
  have hrow := h.own.trow_own
  subst hn
  refine ⟨hS.trans (m5.below hS.size (fun k e => by omega)), s5, ?_⟩
  have hrow2 : TRow (· < W.heap.size) W A6 hs.length cap6 hs := by
    refine hrow.keep (fun b hb => m5.block b ?_ ?_) (fun b hb => ?_)
    · rcases hb with hb | hb
      · rw [hP] at hb; have h9 : b < D.heap.size := hb; omega
      · exact (h.own.own b hb).2
    · rcases hb with hb | hb
      · rw [hP] at hb; have h9 : b < D.heap.size := hb; omega
      · exact fun e => gne (by rw [← e]; exact hb)
    · have h3 := m5.size
      show b < _
      rcases hb with hb | hb
      · rw [hP] at hb; have h9 : b < D.heap.size := hb; omega
      · have := (h.own.own b hb).2; omega
  exact TmAt.of_row hrow2 (by omega) (by omega) (by decide) (by decide)
structure R15 (w7 : World) (mk mn : Int) (msn mt : ByteArray) (ml : List Tm) (F : Tm) (A5 : Option Addr) (n5 cap5 : Nat) (wx : World) : Prop where
  below : Below w7.heap.size w7 wx
  box : wx.heap[w7.heap.size]? = some (.cells #[.int .i8 mk, .int .i64 mn, .string msn, .string mt, .slice A5 n5 cap5] 25 (0, 0))
  tree : TmAt (· < wx.heap.size) wx (.mk mk mn msn mt (ml ++ [F])) (.agg #[.int .i8 mk, .int .i64 mn, .string msn, .string mt, .slice A5 n5 cap5])
theorem r15_of {w w7 w8 D V : World} {P : Nat → Prop} {Bs : List (Nat × Obj)} {mk mn : Int} {msn mt : ByteArray} {F : Tm} {ml : List Tm} {mA A5 : Option Addr} {mcap n5 cap5 : Nat} {M : Tm} (h : StN D V P Bs (.slice A5 n5 cap5) (ml ++ [F])) (hP : P = (· < w7.heap.size))
    (hb8 : Below w7.heap.size w7 w8) (hz8 : w8.heap.size = w7.heap.size + 1) (hS : Below w8.heap.size w8 V) (hg : w8.heap[w7.heap.size]? = some (.cells #[.int .i8 mk, .int .i64 mn, .string msn, .string mt, .slice mA ml.length mcap] 25 (0, 0)))
    (hm : TmAt (· < w.heap.size) w M (.agg #[.int .i8 mk, .int .i64 mn, .string msn, .string mt, .slice mA ml.length mcap])) (hM : M = .mk mk mn msn mt ml) (hn : n5 = (ml ++ [F]).length) (hw : Below w.heap.size w w7) (hDz : D.heap.size = w8.heap.size) :
    R15 w7 mk mn msn mt ml F A5 n5 cap5 (V.setCell ⟨w7.heap.size, 4, none⟩ (.slice A5 n5 cap5)) := by
  have hgV := (hS.block _ (heap_lt hg)).trans hg
  have hs9 := set_row (i := 4) (.slice A5 n5 cap5) hgV
  have m9 : Mod (fun k => k = w7.heap.size) V (V.setCell ⟨w7.heap.size, 4, none⟩ (.slice A5 n5 cap5)) := Mod.setCell _ _ _ (.inl rfl)
  have hbV : Below w7.heap.size w7 V := hb8.trans (hS.mono hb8.size)
  have hb9 := hbV.trans (m9.below hbV.size (fun k e => by omega))
  have hVs := h.below.size
  subst hM
  obtain ⟨_, _, _, _, hk, hn', hsz, htz⟩ := hm.parts
  obtain ⟨hnl, hrow⟩ := h.own.trow (Q := fun b => b < w7.heap.size ∨ (D.heap.size ≤ b ∧ b < V.heap.size)) (fun b hb => .inl (by rw [hP] at hb; exact hb)) (fun b h1 h2 _ => .inr ⟨h1, h2⟩)
  subst hn
  have hrow2 : TRow (· < (V.setCell ⟨w7.heap.size, 4, none⟩ (.slice A5 (ml ++ [F]).length cap5)).heap.size) (V.setCell ⟨w7.heap.size, 4, none⟩ (.slice A5 (ml ++ [F]).length cap5)) A5 (ml ++ [F]).length cap5 (ml ++ [F]) := by
    refine hrow.keep (fun b hb => m9.block b ?_ ?_) (fun b hb => ?_)
    · rcases hb with hb | hb <;> omega
    · rcases hb with hb | hb <;> omega
    · have h3 := m9.size
      show b < _
      rcases hb with hb | hb <;> omega
  exact ⟨hb9, hs9, TmAt.of_row hrow2 hk hn' hsz htz⟩
theorem dup_nodes {m f : Tm} {r : List Tm} (hl : m.l = f :: r) : (dupM m f).nodes ≤ m.nodes + m.nodes := by
  obtain ⟨mk, mn, ms, mt, ml⟩ := m
  have hl' : ml = f :: r := hl
  rw [dupM, nodes_mk9, nodes_mk9, pres_app9, List.length_append, nodes_pres_cons]
  simp [Tm.pres, Tm.l]
  have h1 : (Tm.pres ml).length = f.nodes + (Tm.pres r).length := by rw [hl', nodes_pres_cons]
  omega
theorem i64_wf9 {x : Int} (h : (Lit.int .i64 x).wf = true) : -9223372036854775808 ≤ x ∧ x ≤ 9223372036854775807 := by
  simpa [Lit.wf, IntKind.min, IntKind.max, IntKind.bits, IntKind.signed] using h
set_option maxHeartbeats 32000000 in
set_option maxRecDepth 100000 in
theorem walk_RulesTwice (v0 : Value) (kk : Int) (hwk : (Lit.int .i64 kk).wf = true) (w : World) (o0 : ∃ t, TmAt (· < w.heap.size) w t v0) (hE : Env9 w) :
    Calls Tryz.prog 4 #[v0, .int .i64 kk] w fun e w' => e = .returned (.bool true) ∧ Below w.heap.size w w' := by
  obtain ⟨x, hT⟩ := o0
  obtain ⟨X, hX⟩ : ∃ X, X = x := ⟨_, rfl⟩
  obtain ⟨k, n, s, t, l⟩ := x
  obtain ⟨A, cap, rfl, hR, -⟩ := hT.parts
  have hlen := hR.max
  unfold maxLen at hlen
  have hXl : X.l = l := by rw [hX]; rfl
  rw [← hX] at hT
  clear hX
  have HXL := Lib.hid hXl
  have HT := Lib.hid hT
  have HR := Lib.hid hR
  have HE := Lib.hid hE
  obtain ⟨hk1, hk2⟩ := i64_wf9 hwk
  clear hT hE hR hXl hwk
  obtain ⟨w1, hw1⟩ : ∃ w1, w1 = w.alloc (.cells #[.int .i8 k, .int .i64 n, .string s, .string t, .slice A l.length cap] 25) := ⟨_, rfl⟩
  have H1 := Lib.hid (bx7_of w _ w1 hw1)
  have hx := H1.out.box
  have x0 : w1.cell? ⟨w.heap.size, 0, none⟩ = some (.int .i8 k) := cell_of_row (i := 0) hx rfl
  have x1 : w1.cell? ⟨w.heap.size, 1, none⟩ = some (.int .i64 n) := cell_of_row (i := 1) hx rfl
  have x2 : w1.cell? ⟨w.heap.size, 2, none⟩ = some (.string s) := cell_of_row (i := 2) hx rfl
  have x3 : w1.cell? ⟨w.heap.size, 3, none⟩ = some (.string t) := cell_of_row (i := 3) hx rfl
  have x4 : w1.cell? ⟨w.heap.size, 4, none⟩ = some (.slice A l.length cap) := cell_of_row (i := 4) hx rfl
  clear hx
  go_enter Tryz.func4, Tryz.ntmps4
  go_wp2_with fail
  rw [← hw1]
  clear hw1
  refine (GreatN_any X _ w1 (HT.out.laterN H1.out.below)).mono ?_
  rintro e w2 ⟨q, rfl, hq, b2⟩
  have H2 := Lib.hid (H1.out.under b2)
  have HQ := Lib.hid hq
  clear b2 hq x0 x1 x2 x3 x4
  have x0 : w2.cell? ⟨w.heap.size, 0, none⟩ = some (.int .i8 k) := cell_of_row (i := 0) H2.out.box rfl
  have x1 : w2.cell? ⟨w.heap.size, 1, none⟩ = some (.int .i64 n) := cell_of_row (i := 1) H2.out.box rfl
  have x2 : w2.cell? ⟨w.heap.size, 2, none⟩ = some (.string s) := cell_of_row (i := 2) H2.out.box rfl
  have x3 : w2.cell? ⟨w.heap.size, 3, none⟩ = some (.string t) := cell_of_row (i := 3) H2.out.box rfl
  have x4 : w2.cell? ⟨w.heap.size, 4, none⟩ = some (.slice A l.length cap) := cell_of_row (i := 4) H2.out.box rfl
  cases q with
  | true =>
    go_wp2_with fail
    refine (wakes9_any _ (HE.out.under H2.out.below)).mono ?_
    rintro e V ⟨rfl, hb⟩
    have HBW := Lib.hid (H2.out.below.trans (hb.mono H2.out.below.size))
    clear hb
    go_wp2_with fail
    go_ret
    exact ⟨rfl, HBW.out⟩
  | false =>
  have hnx : X.nodes ≤ 8200 := by have := HQ.out rfl; omega
  have HNX := Lib.hid hnx
  clear hnx HQ
  go_wp2_with fail
  refine (rcheck7_any X _ w2 (HT.out.laterN H2.out.below)).mono ?_
  rintro e w3 ⟨rfl, b3⟩
  have H3 := Lib.hid (H2.out.under b3)
  clear b3 x0 x1 x2 x3 x4
  have x0 : w3.cell? ⟨w.heap.size, 0, none⟩ = some (.int .i8 k) := cell_of_row (i := 0) H3.out.box rfl
  have x1 : w3.cell? ⟨w.heap.size, 1, none⟩ = some (.int .i64 n) := cell_of_row (i := 1) H3.out.box rfl
  have x2 : w3.cell? ⟨w.heap.size, 2, none⟩ = some (.string s) := cell_of_row (i := 2) H3.out.box rfl
  have x3 : w3.cell? ⟨w.heap.size, 3, none⟩ = some (.string t) := cell_of_row (i := 3) H3.out.box rfl
  have x4 : w3.cell? ⟨w.heap.size, 4, none⟩ = some (.slice A l.length cap) := cell_of_row (i := 4) H3.out.box rfl
  rcases checkR_or X with ⟨e0, hf, hm⟩ | ⟨e0, -⟩
  rotate_left
  · rw [e0]
    clear e0
    go_wp2_with fail
    refine (wakes9_any _ (HE.out.under H3.out.below)).mono ?_
    rintro e V ⟨rfl, hb⟩
    have HBW := Lib.hid (H3.out.below.trans (hb.mono H3.out.below.size))
    clear hb
    go_wp2_with fail
    go_ret
    exact ⟨rfl, HBW.out⟩
  rw [e0]
  have HF := Lib.hid hf
  have HMD := Lib.hid hm
  clear e0 hf hm
  by_cases hl0 : (l.length : Int) = 0
  · skip
    go_wp2_with fail
    refine (wakes9_any _ (HE.out.under H3.out.below)).mono ?_
    rintro e V ⟨rfl, hb⟩
    have HBW := Lib.hid (H3.out.below.trans (hb.mono H3.out.below.size))
    clear hb
    go_wp2_with fail
    go_ret
    exact ⟨rfl, HBW.out⟩
  have hl2 : ¬ l.length = 0 := by omega
  have hl3 : ((l.length : Int) == 0) = false := by simpa using hl0
  have hl4 : ¬ l = [] := fun e => by rw [e] at hl2; exact hl2 rfl
  have HLP : Hid (0 < l.length) := by show 0 < l.length; omega
  have hlz : (0 : Int) < (l.length : Int) := by omega
  obtain ⟨Q1, hQ1⟩ : ∃ Q1, Q1 = kk.tmod (l.length : Int) := ⟨_, rfl⟩
  have hq1 : Q1 < (l.length : Int) := by rw [hQ1]; exact Int.tmod_lt_of_pos _ hlz
  have hq2 : -(l.length : Int) < Q1 := by
    rw [hQ1]
    have h1 := Int.tmod_lt_of_pos (-kk) hlz
    rw [Int.neg_tmod] at h1
    omega
  obtain ⟨kn, hkn⟩ : ∃ kn : Nat, (Q1 + (l.length : Int)).tmod (l.length : Int) = (kn : Int) := ⟨((Q1 + (l.length : Int)).tmod (l.length : Int)).toNat, by
    rw [Int.toNat_of_nonneg]
    exact Int.tmod_nonneg _ (by omega)⟩
  have hknl : kn < l.length := by
    have h1 := Int.tmod_lt_of_pos (Q1 + (l.length : Int)) hlz
    rw [hkn] at h1
    omega
  have hlx : l.length < 8200 := by
    have h2 := pres_le9 X
    rw [HXL.out] at h2
    have h3 := len_pres9 l
    have h4 := HNX.out
    obtain ⟨xk, xn, xs', xt, xl⟩ := X
    have h6 : xl = l := HXL.out
    rw [nodes_mk9, h6] at h4
    omega
  have hwr : IntKind.i64.wrap (Q1 + (l.length : Int)) = Q1 + (l.length : Int) := by rw [IntKind.wrap_i64]; omega
  have HLX := Lib.hid hlx
  have HQ1 := Lib.hid hQ1
  have HKN := Lib.hid hkn
  have HKL := Lib.hid hknl
  go_wp2_with fail
  refine wp_region_qC (C := fun V => Below w3.heap.size w3 V) (by kernel_rfl) (by kernel_rfl) (drewC w3) ?_
  refine wpqC (v := ?_) (by kernel_rfl) ?_ ?_; rotate_left; (intro V hV; (try dsimp only at hV); go_simp; first | done | with_reducible rfl); (try simp only [Act.put, List.setIfInBounds_toArray, List.set_cons_zero, List.set_cons_succ])
  refine wpqC (v := ?_) (by kernel_rfl) ?_ ?_; rotate_left; (intro V hV; (try dsimp only at hV); go_simp; first | done | with_reducible rfl); (try simp only [Act.put, List.setIfInBounds_toArray, List.set_cons_zero, List.set_cons_succ])
  refine wpqC (v := ?_) (by kernel_rfl) ?_ ?_; rotate_left; (intro V hV; (try dsimp only at hV); have hbx := H3.out.under hV; have x4 : V.cell? ⟨w.heap.size, 4, none⟩ = some (.slice A l.length cap) := hbx.cell 4 rfl; go_simp; first | done | with_reducible rfl); (try simp only [Act.put, List.setIfInBounds_toArray, List.set_cons_zero, List.set_cons_succ])
  refine wpqC (v := ?_) (by kernel_rfl) ?_ ?_; rotate_left; (intro V hV; (try dsimp only at hV); go_simp; first | done | with_reducible rfl); (try simp only [Act.put, List.setIfInBounds_toArray, List.set_cons_zero, List.set_cons_succ])
  refine wpqC (v := .int .i64 Q1) (by kernel_rfl) ?_ ?_
  · intro V hV
    (try dsimp only at hV)
    have hz : ¬ (l.length : Int) = 0 := by omega
    go_simp
    all_goals (first | done | rfl | omega)
  (try simp only [Act.put, List.setIfInBounds_toArray, List.set_cons_zero, List.set_cons_succ])
  refine wpqC (v := ?_) (by kernel_rfl) ?_ ?_; rotate_left; (intro V hV; (try dsimp only at hV); go_simp; first | done | with_reducible rfl); (try simp only [Act.put, List.setIfInBounds_toArray, List.set_cons_zero, List.set_cons_succ])
  refine wpqC (v := ?_) (by kernel_rfl) ?_ ?_; rotate_left; (intro V hV; (try dsimp only at hV); have hbx := H3.out.under hV; have x4 : V.cell? ⟨w.heap.size, 4, none⟩ = some (.slice A l.length cap) := hbx.cell 4 rfl; go_simp; first | done | with_reducible rfl); (try simp only [Act.put, List.setIfInBounds_toArray, List.set_cons_zero, List.set_cons_succ])
  refine wpqC (v := ?_) (by kernel_rfl) ?_ ?_; rotate_left; (intro V hV; (try dsimp only at hV); go_simp; first | done | with_reducible rfl); (try simp only [Act.put, List.setIfInBounds_toArray, List.set_cons_zero, List.set_cons_succ])
  refine wpqC (v := .int .i64 (Q1 + (l.length : Int))) (by kernel_rfl) ?_ ?_
  · intro V hV
    (try dsimp only at hV)
    go_simp
    all_goals (first | done | exact hwr | (rw [← hQ1]; exact hwr))
  (try simp only [Act.put, List.setIfInBounds_toArray, List.set_cons_zero, List.set_cons_succ])
  refine wpqC (v := ?_) (by kernel_rfl) ?_ ?_; rotate_left; (intro V hV; (try dsimp only at hV); go_simp; first | done | with_reducible rfl); (try simp only [Act.put, List.setIfInBounds_toArray, List.set_cons_zero, List.set_cons_succ])
  refine wpqC (v := ?_) (by kernel_rfl) ?_ ?_; rotate_left; (intro V hV; (try dsimp only at hV); have hbx := H3.out.under hV; have x4 : V.cell? ⟨w.heap.size, 4, none⟩ = some (.slice A l.length cap) := hbx.cell 4 rfl; go_simp; first | done | with_reducible rfl); (try simp only [Act.put, List.setIfInBounds_toArray, List.set_cons_zero, List.set_cons_succ])
  refine wpqC (v := ?_) (by kernel_rfl) ?_ ?_; rotate_left; (intro V hV; (try dsimp only at hV); go_simp; first | done | with_reducible rfl); (try simp only [Act.put, List.setIfInBounds_toArray, List.set_cons_zero, List.set_cons_succ])
  refine wpqC (v := .int .i64 (kn : Int)) (by kernel_rfl) ?_ ?_
  · intro V hV
    (try dsimp only at hV)
    have hz : ¬ (l.length : Int) = 0 := by omega
    go_simp
    all_goals (first | done | exact hkn | (rw [← hQ1]; exact hkn))
  (try simp only [Act.put, List.setIfInBounds_toArray, List.set_cons_zero, List.set_cons_succ])
  refine wpqC (v := ?_) (by kernel_rfl) ?_ ?_; rotate_left; (intro V hV; (try dsimp only at hV); go_simp; first | done | with_reducible rfl); (try simp only [Act.put, List.setIfInBounds_toArray, List.set_cons_zero, List.set_cons_succ])
  refine wpQuiet_nil ?_
  intro w4 h4
  (try dsimp only at h4)
  have H4 := Lib.hid (H3.out.under h4)
  clear h4 hq1 hq2 hkn hknl hQ1 x0 x1 x2 x3 x4
  have x0 : w4.cell? ⟨w.heap.size, 0, none⟩ = some (.int .i8 k) := cell_of_row (i := 0) H4.out.box rfl
  have x1 : w4.cell? ⟨w.heap.size, 1, none⟩ = some (.int .i64 n) := cell_of_row (i := 1) H4.out.box rfl
  have x2 : w4.cell? ⟨w.heap.size, 2, none⟩ = some (.string s) := cell_of_row (i := 2) H4.out.box rfl
  have x3 : w4.cell? ⟨w.heap.size, 3, none⟩ = some (.string t) := cell_of_row (i := 3) H4.out.box rfl
  have x4 : w4.cell? ⟨w.heap.size, 4, none⟩ = some (.slice A l.length cap) := cell_of_row (i := 4) H4.out.box rfl
  go_wp2_with fail
  refine (rSizeN_any X _ w4 (HT.out.laterN H4.out.below)).mono ?_
  rintro e w5 ⟨rfl, b5⟩
  have H5 := Lib.hid (H4.out.under b5)
  clear b5 x0 x1 x2 x3 x4
  obtain ⟨N0, hN0⟩ : ∃ N0, N0 = min X.nodes 4097 := ⟨_, rfl⟩
  rw [← hN0]
  have HN0 := Lib.hid hN0
  have hN9 : N0 ≤ 4097 := by omega
  clear hN0
  generalize min X.deep 65 = D0
  obtain ⟨M, hm0⟩ : ∃ M, l[kn]? = some M := ⟨l[kn]'(HKL.out), List.getElem?_eq_getElem HKL.out⟩
  obtain ⟨ad, u, hA, had, hEl, hTm⟩ := HR.out.at_ kn M hm0
  obtain ⟨g, off, oo⟩ := ad
  subst hA
  obtain ⟨mk, mn, msn, mt, ml, hM⟩ : ∃ mk mn msn mt ml, M = Tm.mk mk mn msn mt ml := by cases M; exact ⟨_, _, _, _, _, rfl⟩
  have hMp := hTm
  rw [hM] at hMp
  obtain ⟨mA, mcap, rfl, hRm, -⟩ := hMp.parts
  have HM := Lib.hid hM
  have HM0 := Lib.hid hm0
  have HTM := Lib.hid hTm
  have HRM := Lib.hid hRm
  have HEL : Hid (∀ V, Below w.heap.size w V → V.cell? ((⟨g, off, oo⟩ : Addr).add (kn * 5)) = some (.int .i8 mk) ∧ V.cell? ⟨((⟨g, off, oo⟩ : Addr).add (kn * 5)).block, ((⟨g, off, oo⟩ : Addr).add (kn * 5)).off + 1, none⟩ = some (.int .i64 mn) ∧ V.cell? ⟨((⟨g, off, oo⟩ : Addr).add (kn * 5)).block, ((⟨g, off, oo⟩ : Addr).add (kn * 5)).off + 2, none⟩ = some (.string msn) ∧ V.cell? ⟨((⟨g, off, oo⟩ : Addr).add (kn * 5)).block, ((⟨g, off, oo⟩ : Addr).add (kn * 5)).off + 3, none⟩ = some (.string mt) ∧ V.cell? ⟨((⟨g, off, oo⟩ : Addr).add (kn * 5)).block, ((⟨g, off, oo⟩ : Addr).add (kn * 5)).off + 4, none⟩ = some (.slice mA ml.length mcap)) := fun V hb => by
    obtain ⟨d0, d1, d2, d3, d4, he, e0, e1, e2, e3, e4⟩ := hEl.keep (hb.block _ had)
    simp only [Value.agg.injEq, Array.mk.injEq, List.cons.injEq, and_true] at he
    obtain ⟨rfl, rfl, rfl, rfl, rfl⟩ := he
    exact ⟨e0, e1, e2, e3, e4⟩
  have i1 : (kn : Int) < (l.length : Int) := by have := HKL.out; omega
  have i2 : kn < l.length := HKL.out
  clear hm0 had hEl hTm hM hMp hRm
  have x0 : w5.cell? ⟨w.heap.size, 0, none⟩ = some (.int .i8 k) := cell_of_row (i := 0) H5.out.box rfl
  have x1 : w5.cell? ⟨w.heap.size, 1, none⟩ = some (.int .i64 n) := cell_of_row (i := 1) H5.out.box rfl
  have x2 : w5.cell? ⟨w.heap.size, 2, none⟩ = some (.string s) := cell_of_row (i := 2) H5.out.box rfl
  have x3 : w5.cell? ⟨w.heap.size, 3, none⟩ = some (.string t) := cell_of_row (i := 3) H5.out.box rfl
  have x4 : w5.cell? ⟨w.heap.size, 4, none⟩ = some (.slice (some ⟨g, off, oo⟩) l.length cap) := cell_of_row (i := 4) H5.out.box rfl
  obtain ⟨e0, e1, e2, e3, e4⟩ := HEL.out w5 H5.out.below
  go_wp2_with fail
  refine (rSizeN_any M _ w5 (HTM.out.laterN H5.out.below)).mono ?_
  rintro e w6 ⟨rfl, b6⟩
  have H6 := Lib.hid (H5.out.under b6)
  clear b6 x0 x1 x2 x3 x4 e0 e1 e2 e3 e4
  obtain ⟨N1, hN1⟩ : ∃ N1, N1 = min M.nodes 4097 := ⟨_, rfl⟩
  rw [← hN1]
  have HN1 := Lib.hid hN1
  have hN8 : N1 ≤ 4097 := by omega
  clear hN1
  generalize min M.deep 65 = D1
  have x0 : w6.cell? ⟨w.heap.size, 0, none⟩ = some (.int .i8 k) := cell_of_row (i := 0) H6.out.box rfl
  have x1 : w6.cell? ⟨w.heap.size, 1, none⟩ = some (.int .i64 n) := cell_of_row (i := 1) H6.out.box rfl
  have x2 : w6.cell? ⟨w.heap.size, 2, none⟩ = some (.string s) := cell_of_row (i := 2) H6.out.box rfl
  have x3 : w6.cell? ⟨w.heap.size, 3, none⟩ = some (.string t) := cell_of_row (i := 3) H6.out.box rfl
  have x4 : w6.cell? ⟨w.heap.size, 4, none⟩ = some (.slice (some ⟨g, off, oo⟩) l.length cap) := cell_of_row (i := 4) H6.out.box rfl
  by_cases hbig : (4096 : Int) < (N0 : Int) + (N1 : Int)
  · have hb1 : 4096 < N0 + N1 := by omega
    have hb2 : decide ((4096 : Int) < (N0 : Int) + (N1 : Int)) = true := by simpa using hbig
    go_wp2_with fail
    refine (wakes9_any _ (HE.out.under H6.out.below)).mono ?_
    rintro e V ⟨rfl, hb⟩
    have HBW := Lib.hid (H6.out.below.trans (hb.mono H6.out.below.size))
    clear hb
    go_wp2_with fail
    go_ret
    exact ⟨rfl, HBW.out⟩
  have HBIG := Lib.hid hbig
  have hbg : decide ((4096 : Int) < (N0 : Int) + (N1 : Int)) = false := by simpa using hbig
  have hb1 : ¬ 4096 < N0 + N1 := by omega
  go_wp2_with fail
  obtain ⟨n5, hn5⟩ : ∃ n5, n5 = (l ++ [M]).length := ⟨_, rfl⟩
  have HN5 := Lib.hid hn5
  clear hn5
  go_cut [9] (fun p wx => ∃ g9 A5 cap5, p = .pointer (some ⟨g9, 0, none⟩) ∧ Hid (RNew w6 (l ++ [M]) A5 n5 cap5 g9 wx))
  case first =>
    refine wp_region_held (S := fun V => Below w6.heap.size w6 V) (by kernel_rfl) ?_
    show wpAnyH _ _ _ _ _ _ _ _ w6.drew
    have hS : Below w6.heap.size w6 w6.drew := ⟨rfl, rfl, rfl, Nat.le_refl _, fun _ _ => rfl⟩
    have hDz : w6.drew.heap.size = w6.heap.size := rfl
    generalize w6.drew = D at hS hDz ⊢
    have HDW := Lib.hid hS
    have HDZ := Lib.hid hDz
    obtain ⟨P, hPd⟩ : ∃ P : Nat → Prop, P = (· < D.heap.size) := ⟨_, rfl⟩
    have HPD := Lib.hid hPd
    have HP : Hid (∀ b, P b → b < D.heap.size) := fun b hb => by rw [hPd] at hb; exact hb
    have HTF : Hid (TmAt P D M (.agg #[.int .i8 mk, .int .i64 mn, .string msn, .string mt, .slice mA ml.length mcap])) := by rw [hPd]; exact HTM.out.laterN (H6.out.under hS).below
    have HTL : Hid (TRow P D (some ⟨g, off, oo⟩) l.length cap l) := by
      rw [hPd]
      have hb := (H6.out.under hS).below
      exact HR.out.keep (fun b hb' => hb.block b hb') (fun b hb' => Nat.lt_of_lt_of_le hb' hb.size)
    have h : StN D D P [] (.slice none 0 0) [] := StN.start _ _
    clear hPd hDz
    refine wpAnyH_take (i := 1) (oi := ⟨some 63, _, _, _, _, _⟩) (v := ?_) rfl (by kernel_rfl) (by kernel_rfl) (by kernel_rfl) (fun _ _ _ h => h) (Or.inl ⟨by kernel_rfl, ?_⟩) (by assumption) ?_; rotate_left; (intro VV hSw; (try dsimp only at hSw); go_simp; first | done | with_reducible rfl); (try simp only [Act.put, List.setIfInBounds_toArray, List.set_cons_zero, List.set_cons_succ])
    refine wpAnyH_take (i := 2) (oi := ⟨some 64, _, _, _, _, _⟩) (v := ?_) rfl (by kernel_rfl) (by kernel_rfl) (by kernel_rfl) (fun _ _ _ h => h) (Or.inl ⟨by kernel_rfl, ?_⟩) (by assumption) ?_; rotate_left; (intro VV hSw; (try dsimp only at hSw); have hbx := H6.out.under hSw; have x4 : VV.cell? ⟨w.heap.size, 4, none⟩ = some (.slice (some ⟨g, off, oo⟩) l.length cap) := hbx.cell 4 rfl; go_simp; first | done | with_reducible rfl); (try simp only [Act.put, List.setIfInBounds_toArray, List.set_cons_zero, List.set_cons_succ])
    refine wpAnyH_take (i := 4) (oi := ⟨some 66, _, _, _, _, _⟩) (v := ?_) rfl (by kernel_rfl) (by kernel_rfl) (by kernel_rfl) (fun _ _ _ h => h) (Or.inl ⟨by kernel_rfl, ?_⟩) (by assumption) ?_; rotate_left; (intro VV hSw; (try dsimp only at hSw); go_simp; first | done | with_reducible rfl); (try simp only [Act.put, List.setIfInBounds_toArray, List.set_cons_zero, List.set_cons_succ])
    refine wpAnyH_take (i := 5) (oi := ⟨some 67, _, _, _, _, _⟩) (v := ?_) rfl (by kernel_rfl) (by kernel_rfl) (by kernel_rfl) (fun _ _ _ h => h) (Or.inl ⟨by kernel_rfl, ?_⟩) (by assumption) ?_; rotate_left; (intro VV hSw; (try dsimp only at hSw); have hbx := H6.out.under hSw; have x4 : VV.cell? ⟨w.heap.size, 4, none⟩ = some (.slice (some ⟨g, off, oo⟩) l.length cap) := hbx.cell 4 rfl; go_simp; first | done | with_reducible rfl); (try simp only [Act.put, List.setIfInBounds_toArray, List.set_cons_zero, List.set_cons_succ])
    refine wpAnyH_take (i := 6) (oi := ⟨some 68, _, _, _, _, _⟩) (v := ?_) rfl (by kernel_rfl) (by kernel_rfl) (by kernel_rfl) (fun _ _ _ h => h) (Or.inl ⟨by kernel_rfl, ?_⟩) (by assumption) ?_; rotate_left; (intro VV hSw; (try dsimp only at hSw); go_simp; first | done | with_reducible rfl); (try simp only [Act.put, List.setIfInBounds_toArray, List.set_cons_zero, List.set_cons_succ])
    refine wpAnyH_take (i := 7) (oi := ⟨some 69, _, _, _, _, _⟩) (v := ?_) rfl (by kernel_rfl) (by kernel_rfl) (by kernel_rfl) (fun _ _ _ h => h) (Or.inl ⟨by kernel_rfl, ?_⟩) (by assumption) ?_; rotate_left; (intro VV hSw; (try dsimp only at hSw); have i3 : kn < l.length := HKL.out; go_simp; first | done | with_reducible rfl); (try simp only [Act.put, List.setIfInBounds_toArray, List.set_cons_zero, List.set_cons_succ])
    refine wpAnyH_take (i := 8) (oi := ⟨some 70, _, _, _, _, _⟩) (v := ?_) rfl (by kernel_rfl) (by kernel_rfl) (by kernel_rfl) (fun _ _ _ h => h) (Or.inl ⟨by kernel_rfl, ?_⟩) (by assumption) ?_; rotate_left; (intro VV hSw; (try dsimp only at hSw); have hbx := H6.out.under hSw; obtain ⟨e0, e1, e2, e3, e4⟩ := HEL.out VV hbx.below; go_simp; first | done | with_reducible rfl); (try simp only [Act.put, List.setIfInBounds_toArray, List.set_cons_zero, List.set_cons_succ])
    refine wpAnyH_ready (rs := [0, 9, 12]) (by kernel_rfl) (by simp) ?_
    refine AllReadyH.cons (o := ⟨some 62, _, _, _, _, _⟩) rfl (fun K hK => ?_) (AllReadyH.cons (o := ⟨some 71, _, _, _, _, _⟩) rfl (fun K hK => ?_) (AllReadyH.cons (o := ⟨some 9, _, _, _, _, _⟩) rfl (fun K hK => ?_) AllReadyH.nil))
    · rw [if_pos (by rfl)]
      go_simp
      have h1 := h.fresh HP.out
      have hS1 := hS.alloc hS.size (.cells #[] 25)
      obtain ⟨g0, hg⟩ : ∃ g, g = D.heap.size := ⟨_, rfl⟩
      rw [← hg] at h1
      refine hK.out _ _ hS1 (fun hSn => ?_)
      clear hK K hSn; (try simp only [Act.put, List.setIfInBounds_toArray, List.set_cons_zero, List.set_cons_succ])
      rw [← hg]
      clear hg
      generalize D.alloc (.cells #[] 25) = X20 at h1 hS1 ⊢
      clear h hS
      have h := h1
      have hS := hS1
      clear h1 hS1
      refine wpAnyH_ready (rs := [3, 9, 12]) (by kernel_rfl) (by simp) ?_
      refine AllReadyH.cons (o := ⟨some 65, _, _, _, _, _⟩) rfl (fun K hK => ?_) (AllReadyH.cons (o := ⟨some 71, _, _, _, _, _⟩) rfl (fun K hK => ?_) (AllReadyH.cons (o := ⟨some 9, _, _, _, _, _⟩) rfl (fun K hK => ?_) AllReadyH.nil))
      · rw [if_pos (by rfl)]
        have hb0 := h.below
        refine wp_own_termsN (.tmp 62) (.tmp 64) rfl h.own hb0.size (h.apart HP.out) rfl rfl (HTL.out.keep (fun b hb => hb0.block b (HP.out b hb)) (fun _ h => h)) (by have := HLX.out; show 0 + _ ≤ _; omega) ?_
        intro v1 X21 O hg hb
        rw [List.nil_append] at O
        have h1 := h.app O hg hb
        have hS1 : Below w6.heap.size w6 X21 := HDW.out.trans (h1.below.mono (by rw [HDZ.out]; exact Nat.le_refl _))
        refine hK.out _ _ hS1 (fun hSn => ?_)
        clear hK K hSn; (try simp only [Act.put, List.setIfInBounds_toArray, List.set_cons_zero, List.set_cons_succ])
        clear O hg hb hb0
        clear h hS
        have h := h1
        have hS := hS1
        clear h1 hS1
        refine wpAnyH_ready (rs := [9, 12]) (by kernel_rfl) (by simp) ?_
        refine AllReadyH.cons (o := ⟨some 71, _, _, _, _, _⟩) rfl (fun K hK => ?_) (AllReadyH.cons (o := ⟨some 9, _, _, _, _, _⟩) rfl (fun K hK => ?_) AllReadyH.nil)
        · rw [if_pos (by rfl)]
          go_simp
          have h1 := h.alloc HP.out (.cells #[.int .i8 mk, .int .i64 mn, .string msn, .string mt, .slice mA ml.length mcap] 25)
          have hS1 := hS.alloc hS.size (.cells #[.int .i8 mk, .int .i64 mn, .string msn, .string mt, .slice mA ml.length mcap] 25)
          obtain ⟨g7, hg⟩ : ∃ g, g = X21.heap.size := ⟨_, rfl⟩
          rw [← hg] at h1
          refine hK.out _ _ hS1 (fun hSn => ?_)
          clear hK K hSn; (try simp only [Act.put, List.setIfInBounds_toArray, List.set_cons_zero, List.set_cons_succ])
          rw [← hg]
          clear hg
          generalize X21.alloc (.cells #[.int .i8 mk, .int .i64 mn, .string msn, .string mt, .slice mA ml.length mcap] 25) = X22 at h1 hS1 ⊢
          clear h hS
          have h := h1
          have hS := hS1
          clear h1 hS1
          refine wpAnyH_ready (rs := [10, 12]) (by kernel_rfl) (by simp) ?_
          refine AllReadyH.cons (o := ⟨some 72, _, _, _, _, _⟩) rfl (fun K hK => ?_) (AllReadyH.cons (o := ⟨some 9, _, _, _, _, _⟩) rfl (fun K hK => ?_) AllReadyH.nil)
          · rw [if_pos (by rfl)]
            have hb0 := h.below
            refine wp_own_termN (.tmp 65) (.tmp 71) rfl h.own hb0.size (h.apart HP.out) rfl g7 rfl (h.kept (g7, .cells #[.int .i8 mk, .int .i64 mn, .string msn, .string mt, .slice mA ml.length mcap] 25) (by simp)).2.1 (HTF.out.keep (fun b hb => hb0.block b (HP.out b hb)) (fun _ h => h)) (by have := HLX.out; omega) ?_
            intro v2 X23 O hg hb
            have h1 := h.app O hg (hb.imp Eq.symm id)
            obtain ⟨A5, cap5, rfl⟩ := O.shape
            rw [← HN5.out] at h1
            have hS1 : Below w6.heap.size w6 X23 := HDW.out.trans (h1.below.mono (by rw [HDZ.out]; exact Nat.le_refl _))
            refine hK.out _ _ hS1 (fun hSn => ?_)
            clear hK K hSn; (try simp only [Act.put, List.setIfInBounds_toArray, List.set_cons_zero, List.set_cons_succ])
            rw [← HN5.out]
            clear O hg hb hb0
            clear h hS
            have h := h1
            have hS := hS1
            clear h1 hS1
            refine wpAnyH_take (i := 11) (oi := ⟨some 73, _, _, _, _, _⟩) (v := ?_) rfl (by kernel_rfl) (by kernel_rfl) (by kernel_rfl) (fun _ _ _ h => h) (Or.inl ⟨by kernel_rfl, ?_⟩) (by assumption) ?_; rotate_left; (intro VV hSw; (try dsimp only at hSw); go_simp; first | done | with_reducible rfl); (try simp only [Act.put, List.setIfInBounds_toArray, List.set_cons_zero, List.set_cons_succ])
            refine wpAnyH_ready (rs := [12]) (by kernel_rfl) (by simp) ?_
            refine AllReadyH.cons (o := ⟨some 9, _, _, _, _, _⟩) rfl (fun K hK => ?_) AllReadyH.nil
            · rw [if_pos (by rfl)]
              go_simp
              have h1 := h.alloc HP.out (.cells #[.int .i8 0, .int .i64 0, .string ⟨#[]⟩, .string ⟨#[]⟩, .slice none 0 0] 25)
              have hS1 := hS.alloc hS.size (.cells #[.int .i8 0, .int .i64 0, .string ⟨#[]⟩, .string ⟨#[]⟩, .slice none 0 0] 25)
              obtain ⟨g9, hg⟩ : ∃ g, g = X23.heap.size := ⟨_, rfl⟩
              rw [← hg] at h1
              refine hK.out _ _ hS1 (fun hSn => ?_)
              clear hK K hSn; (try simp only [Act.put, List.setIfInBounds_toArray, List.set_cons_zero, List.set_cons_succ])
              rw [← hg]
              clear hg
              generalize X23.alloc (.cells #[.int .i8 0, .int .i64 0, .string ⟨#[]⟩, .string ⟨#[]⟩, .slice none 0 0] 25) = X24 at h1 hS1 ⊢
              clear h hS
              have h := h1
              have hS := hS1
              clear h1 hS1
              obtain ⟨gge, gz, gne⟩ := h.kept (g9, .cells #[.int .i8 0, .int .i64 0, .string ⟨#[]⟩, .string ⟨#[]⟩, .slice none 0 0] 25) (by simp)
              have z0 : X24.cell? ⟨g9, 0, none⟩ = some (.int .i8 0) := cell_of_row (i := 0) gz rfl
              have zf0 : X24.frozen? ⟨g9, 0, none⟩ = false := free_of_row (i := 0) gz
              have z1 : X24.cell? ⟨g9, 1, none⟩ = some (.int .i64 0) := cell_of_row (i := 1) gz rfl
              have zf1 : X24.frozen? ⟨g9, 1, none⟩ = false := free_of_row (i := 1) gz
              have z2 : X24.cell? ⟨g9, 2, none⟩ = some (.string ⟨#[]⟩) := cell_of_row (i := 2) gz rfl
              have zf2 : X24.frozen? ⟨g9, 2, none⟩ = false := free_of_row (i := 2) gz
              have z3 : X24.cell? ⟨g9, 3, none⟩ = some (.string ⟨#[]⟩) := cell_of_row (i := 3) gz rfl
              have zf3 : X24.frozen? ⟨g9, 3, none⟩ = false := free_of_row (i := 3) gz
              have z4 : X24.cell? ⟨g9, 4, none⟩ = some (.slice none 0 0) := cell_of_row (i := 4) gz rfl
              have zf4 : X24.frozen? ⟨g9, 4, none⟩ = false := free_of_row (i := 4) gz
              have HRN := Lib.hid (rnew_of (g9 := g9) h HPD.out hS HDZ.out (by simp) HN5.out)
              obtain ⟨s5, m5⟩ := set_five7 (.int .i8 0) (.int .i64 0) (.string ⟨#[]⟩) (.string ⟨#[]⟩) (.slice A5 n5 cap5) gz
              have hS9 := hS.trans (m5.below hS.size (fun k e => by have := HDZ.out; have h9 : D.heap.size ≤ g9 := gge; omega))
              clear s5 m5
              refine wpAnyH_ready (rs := [13]) (by kernel_rfl) (by simp) ?_
              refine AllReadyH.cons (o := ⟨none, _, _, _, _, _⟩) rfl (fun K hK => ?_) AllReadyH.nil
              · rw [if_pos (by rfl)]
                go_simp
                refine hK.out _ _ hS9 (fun hSn => ?_)
                clear hK K hSn; (try simp only [Act.put, List.setIfInBounds_toArray, List.set_cons_zero, List.set_cons_succ])
                refine wpAnyH_done (by kernel_rfl) ?_ _
                clear z0 zf0 z1 zf1 z2 zf2 z3 zf3 z4 zf4 gz
                go_wp2_with fail
                go_meet
                exact ⟨g9, A5, cap5, rfl, HRN⟩
          · rw [if_pos (by rfl)]
            go_simp
            have h1 := h.alloc HP.out (.cells #[.int .i8 0, .int .i64 0, .string ⟨#[]⟩, .string ⟨#[]⟩, .slice none 0 0] 25)
            have hS1 := hS.alloc hS.size (.cells #[.int .i8 0, .int .i64 0, .string ⟨#[]⟩, .string ⟨#[]⟩, .slice none 0 0] 25)
            obtain ⟨g9, hg⟩ : ∃ g, g = X22.heap.size := ⟨_, rfl⟩
            rw [← hg] at h1
            refine hK.out _ _ hS1 (fun hSn => ?_)
            clear hK K hSn; (try simp only [Act.put, List.setIfInBounds_toArray, List.set_cons_zero, List.set_cons_succ])
            rw [← hg]
            clear hg
            generalize X22.alloc (.cells #[.int .i8 0, .int .i64 0, .string ⟨#[]⟩, .string ⟨#[]⟩, .slice none 0 0] 25) = X25 at h1 hS1 ⊢
            clear h hS
            have h := h1
            have hS := hS1
            clear h1 hS1
            refine wpAnyH_ready (rs := [10]) (by kernel_rfl) (by simp) ?_
            refine AllReadyH.cons (o := ⟨some 72, _, _, _, _, _⟩) rfl (fun K hK => ?_) AllReadyH.nil
            · rw [if_pos (by rfl)]
              have hb0 := h.below
              refine wp_own_termN (.tmp 65) (.tmp 71) rfl h.own hb0.size (h.apart HP.out) rfl g7 rfl (h.kept (g7, .cells #[.int .i8 mk, .int .i64 mn, .string msn, .string mt, .slice mA ml.length mcap] 25) (by simp)).2.1 (HTF.out.keep (fun b hb => hb0.block b (HP.out b hb)) (fun _ h => h)) (by have := HLX.out; omega) ?_
              intro v2 X26 O hg hb
              have h1 := h.app O hg (hb.imp Eq.symm id)
              obtain ⟨A5, cap5, rfl⟩ := O.shape
              rw [← HN5.out] at h1
              have hS1 : Below w6.heap.size w6 X26 := HDW.out.trans (h1.below.mono (by rw [HDZ.out]; exact Nat.le_refl _))
              refine hK.out _ _ hS1 (fun hSn => ?_)
              clear hK K hSn; (try simp only [Act.put, List.setIfInBounds_toArray, List.set_cons_zero, List.set_cons_succ])
              rw [← HN5.out]
              clear O hg hb hb0
              clear h hS
              have h := h1
              have hS := hS1
              clear h1 hS1
              refine wpAnyH_take (i := 11) (oi := ⟨some 73, _, _, _, _, _⟩) (v := ?_) rfl (by kernel_rfl) (by kernel_rfl) (by kernel_rfl) (fun _ _ _ h => h) (Or.inl ⟨by kernel_rfl, ?_⟩) (by assumption) ?_; rotate_left; (intro VV hSw; (try dsimp only at hSw); go_simp; first | done | with_reducible rfl); (try simp only [Act.put, List.setIfInBounds_toArray, List.set_cons_zero, List.set_cons_succ])
              obtain ⟨gge, gz, gne⟩ := h.kept (g9, .cells #[.int .i8 0, .int .i64 0, .string ⟨#[]⟩, .string ⟨#[]⟩, .slice none 0 0] 25) (by simp)
              have z0 : X26.cell? ⟨g9, 0, none⟩ = some (.int .i8 0) := cell_of_row (i := 0) gz rfl
              have zf0 : X26.frozen? ⟨g9, 0, none⟩ = false := free_of_row (i := 0) gz
              have z1 : X26.cell? ⟨g9, 1, none⟩ = some (.int .i64 0) := cell_of_row (i := 1) gz rfl
              have zf1 : X26.frozen? ⟨g9, 1, none⟩ = false := free_of_row (i := 1) gz
              have z2 : X26.cell? ⟨g9, 2, none⟩ = some (.string ⟨#[]⟩) := cell_of_row (i := 2) gz rfl
              have zf2 : X26.frozen? ⟨g9, 2, none⟩ = false := free_of_row (i := 2) gz
              have z3 : X26.cell? ⟨g9, 3, none⟩ = some (.string ⟨#[]⟩) := cell_of_row (i := 3) gz rfl
              have zf3 : X26.frozen? ⟨g9, 3, none⟩ = false := free_of_row (i := 3) gz
              have z4 : X26.cell? ⟨g9, 4, none⟩ = some (.slice none 0 0) := cell_of_row (i := 4) gz rfl
              have zf4 : X26.frozen? ⟨g9, 4, none⟩ = false := free_of_row (i := 4) gz
              have HRN := Lib.hid (rnew_of (g9 := g9) h HPD.out hS HDZ.out (by simp) HN5.out)
              obtain ⟨s5, m5⟩ := set_five7 (.int .i8 0) (.int .i64 0) (.string ⟨#[]⟩) (.string ⟨#[]⟩) (.slice A5 n5 cap5) gz
              have hS9 := hS.trans (m5.below hS.size (fun k e => by have := HDZ.out; have h9 : D.heap.size ≤ g9 := gge; omega))
              clear s5 m5
              refine wpAnyH_ready (rs := [13]) (by kernel_rfl) (by simp) ?_
              refine AllReadyH.cons (o := ⟨none, _, _, _, _, _⟩) rfl (fun K hK => ?_) AllReadyH.nil
              · rw [if_pos (by rfl)]
                go_simp
                refine hK.out _ _ hS9 (fun hSn => ?_)
                clear hK K hSn; (try simp only [Act.put, List.setIfInBounds_toArray, List.set_cons_zero, List.set_cons_succ])
                refine wpAnyH_done (by kernel_rfl) ?_ _
                clear z0 zf0 z1 zf1 z2 zf2 z3 zf3 z4 zf4 gz
                go_wp2_with fail
                go_meet
                exact ⟨g9, A5, cap5, rfl, HRN⟩
        · rw [if_pos (by rfl)]
          go_simp
          have h1 := h.alloc HP.out (.cells #[.int .i8 0, .int .i64 0, .string ⟨#[]⟩, .string ⟨#[]⟩, .slice none 0 0] 25)
          have hS1 := hS.alloc hS.size (.cells #[.int .i8 0, .int .i64 0, .string ⟨#[]⟩, .string ⟨#[]⟩, .slice none 0 0] 25)
          obtain ⟨g9, hg⟩ : ∃ g, g = X21.heap.size := ⟨_, rfl⟩
          rw [← hg] at h1
          refine hK.out _ _ hS1 (fun hSn => ?_)
          clear hK K hSn; (try simp only [Act.put, List.setIfInBounds_toArray, List.set_cons_zero, List.set_cons_succ])
          rw [← hg]
          clear hg
          generalize X21.alloc (.cells #[.int .i8 0, .int .i64 0, .string ⟨#[]⟩, .string ⟨#[]⟩, .slice none 0 0] 25) = X27 at h1 hS1 ⊢
          clear h hS
          have h := h1
          have hS := hS1
          clear h1 hS1
          refine wpAnyH_ready (rs := [9]) (by kernel_rfl) (by simp) ?_
          refine AllReadyH.cons (o := ⟨some 71, _, _, _, _, _⟩) rfl (fun K hK => ?_) AllReadyH.nil
          · rw [if_pos (by rfl)]
            go_simp
            have h1 := h.alloc HP.out (.cells #[.int .i8 mk, .int .i64 mn, .string msn, .string mt, .slice mA ml.length mcap] 25)
            have hS1 := hS.alloc hS.size (.cells #[.int .i8 mk, .int .i64 mn, .string msn, .string mt, .slice mA ml.length mcap] 25)
            obtain ⟨g7, hg⟩ : ∃ g, g = X27.heap.size := ⟨_, rfl⟩
            rw [← hg] at h1
            refine hK.out _ _ hS1 (fun hSn => ?_)
            clear hK K hSn; (try simp only [Act.put, List.setIfInBounds_toArray, List.set_cons_zero, List.set_cons_succ])
            rw [← hg]
            clear hg
            generalize X27.alloc (.cells #[.int .i8 mk, .int .i64 mn, .string msn, .string mt, .slice mA ml.length mcap] 25) = X28 at h1 hS1 ⊢
            clear h hS
            have h := h1
            have hS := hS1
            clear h1 hS1
            refine wpAnyH_ready (rs := [10]) (by kernel_rfl) (by simp) ?_
            refine AllReadyH.cons (o := ⟨some 72, _, _, _, _, _⟩) rfl (fun K hK => ?_) AllReadyH.nil
            · rw [if_pos (by rfl)]
              have hb0 := h.below
              refine wp_own_termN (.tmp 65) (.tmp 71) rfl h.own hb0.size (h.apart HP.out) rfl g7 rfl (h.kept (g7, .cells #[.int .i8 mk, .int .i64 mn, .string msn, .string mt, .slice mA ml.length mcap] 25) (by simp)).2.1 (HTF.out.keep (fun b hb => hb0.block b (HP.out b hb)) (fun _ h => h)) (by have := HLX.out; omega) ?_
              intro v2 X29 O hg hb
              have h1 := h.app O hg (hb.imp Eq.symm id)
              obtain ⟨A5, cap5, rfl⟩ := O.shape
              rw [← HN5.out] at h1
              have hS1 : Below w6.heap.size w6 X29 := HDW.out.trans (h1.below.mono (by rw [HDZ.out]; exact Nat.le_refl _))
              refine hK.out _ _ hS1 (fun hSn => ?_)
              clear hK K hSn; (try simp only [Act.put, List.setIfInBounds_toArray, List.set_cons_zero, List.set_cons_succ])
              rw [← HN5.out]
              clear O hg hb hb0
              clear h hS
              have h := h1
              have hS := hS1
              clear h1 hS1
              refine wpAnyH_take (i := 11) (oi := ⟨some 73, _, _, _, _, _⟩) (v := ?_) rfl (by kernel_rfl) (by kernel_rfl) (by kernel_rfl) (fun _ _ _ h => h) (Or.inl ⟨by kernel_rfl, ?_⟩) (by assumption) ?_; rotate_left; (intro VV hSw; (try dsimp only at hSw); go_simp; first | done | with_reducible rfl); (try simp only [Act.put, List.setIfInBounds_toArray, List.set_cons_zero, List.set_cons_succ])
              obtain ⟨gge, gz, gne⟩ := h.kept (g9, .cells #[.int .i8 0, .int .i64 0, .string ⟨#[]⟩, .string ⟨#[]⟩, .slice none 0 0] 25) (by simp)
              have z0 : X29.cell? ⟨g9, 0, none⟩ = some (.int .i8 0) := cell_of_row (i := 0) gz rfl
              have zf0 : X29.frozen? ⟨g9, 0, none⟩ = false := free_of_row (i := 0) gz
              have z1 : X29.cell? ⟨g9, 1, none⟩ = some (.int .i64 0) := cell_of_row (i := 1) gz rfl
              have zf1 : X29.frozen? ⟨g9, 1, none⟩ = false := free_of_row (i := 1) gz
              have z2 : X29.cell? ⟨g9, 2, none⟩ = some (.string ⟨#[]⟩) := cell_of_row (i := 2) gz rfl
              have zf2 : X29.frozen? ⟨g9, 2, none⟩ = false := free_of_row (i := 2) gz
              have z3 : X29.cell? ⟨g9, 3, none⟩ = some (.string ⟨#[]⟩) := cell_of_row (i := 3) gz rfl
              have zf3 : X29.frozen? ⟨g9, 3, none⟩ = false := free_of_row (i := 3) gz
              have z4 : X29.cell? ⟨g9, 4, none⟩ = some (.slice none 0 0) := cell_of_row (i := 4) gz rfl
              have zf4 : X29.frozen? ⟨g9, 4, none⟩ = false := free_of_row (i := 4) gz
              have HRN := Lib.hid (rnew_of (g9 := g9) h HPD.out hS HDZ.out (by simp) HN5.out)
              obtain ⟨s5, m5⟩ := set_five7 (.int .i8 0) (.int .i64 0) (.string ⟨#[]⟩) (.string ⟨#[]⟩) (.slice A5 n5 cap5) gz
              have hS9 := hS.trans (m5.below hS.size (fun k e => by have := HDZ.out; have h9 : D.heap.size ≤ g9 := gge; omega))
              clear s5 m5
              refine wpAnyH_ready (rs := [13]) (by kernel_rfl) (by simp) ?_
              refine AllReadyH.cons (o := ⟨none, _, _, _, _, _⟩) rfl (fun K hK => ?_) AllReadyH.nil
              · rw [if_pos (by rfl)]
                go_simp
                refine hK.out _ _ hS9 (fun hSn => ?_)
                clear hK K hSn; (try simp only [Act.put, List.setIfInBounds_toArray, List.set_cons_zero, List.set_cons_succ])
                refine wpAnyH_done (by kernel_rfl) ?_ _
                clear z0 zf0 z1 zf1 z2 zf2 z3 zf3 z4 zf4 gz
                go_wp2_with fail
                go_meet
                exact ⟨g9, A5, cap5, rfl, HRN⟩
      · rw [if_pos (by rfl)]
        go_simp
        have h1 := h.alloc HP.out (.cells #[.int .i8 mk, .int .i64 mn, .string msn, .string mt, .slice mA ml.length mcap] 25)
        have hS1 := hS.alloc hS.size (.cells #[.int .i8 mk, .int .i64 mn, .string msn, .string mt, .slice mA ml.length mcap] 25)
        obtain ⟨g7, hg⟩ : ∃ g, g = X20.heap.size := ⟨_, rfl⟩
        rw [← hg] at h1
        refine hK.out _ _ hS1 (fun hSn => ?_)
        clear hK K hSn; (try simp only [Act.put, List.setIfInBounds_toArray, List.set_cons_zero, List.set_cons_succ])
        rw [← hg]
        clear hg
        generalize X20.alloc (.cells #[.int .i8 mk, .int .i64 mn, .string msn, .string mt, .slice mA ml.length mcap] 25) = X30 at h1 hS1 ⊢
        clear h hS
        have h := h1
        have hS := hS1
        clear h1 hS1
        refine wpAnyH_ready (rs := [3, 12]) (by kernel_rfl) (by simp) ?_
        refine AllReadyH.cons (o := ⟨some 65, _, _, _, _, _⟩) rfl (fun K hK => ?_) (AllReadyH.cons (o := ⟨some 9, _, _, _, _, _⟩) rfl (fun K hK => ?_) AllReadyH.nil)
        · rw [if_pos (by rfl)]
          have hb0 := h.below
          refine wp_own_termsN (.tmp 62) (.tmp 64) rfl h.own hb0.size (h.apart HP.out) rfl rfl (HTL.out.keep (fun b hb => hb0.block b (HP.out b hb)) (fun _ h => h)) (by have := HLX.out; show 0 + _ ≤ _; omega) ?_
          intro v1 X31 O hg hb
          rw [List.nil_append] at O
          have h1 := h.app O hg hb
          have hS1 : Below w6.heap.size w6 X31 := HDW.out.trans (h1.below.mono (by rw [HDZ.out]; exact Nat.le_refl _))
          refine hK.out _ _ hS1 (fun hSn => ?_)
          clear hK K hSn; (try simp only [Act.put, List.setIfInBounds_toArray, List.set_cons_zero, List.set_cons_succ])
          clear O hg hb hb0
          clear h hS
          have h := h1
          have hS := hS1
          clear h1 hS1
          refine wpAnyH_ready (rs := [10, 12]) (by kernel_rfl) (by simp) ?_
          refine AllReadyH.cons (o := ⟨some 72, _, _, _, _, _⟩) rfl (fun K hK => ?_) (AllReadyH.cons (o := ⟨some 9, _, _, _, _, _⟩) rfl (fun K hK => ?_) AllReadyH.nil)
          · rw [if_pos (by rfl)]
            have hb0 := h.below
            refine wp_own_termN (.tmp 65) (.tmp 71) rfl h.own hb0.size (h.apart HP.out) rfl g7 rfl (h.kept (g7, .cells #[.int .i8 mk, .int .i64 mn, .string msn, .string mt, .slice mA ml.length mcap] 25) (by simp)).2.1 (HTF.out.keep (fun b hb => hb0.block b (HP.out b hb)) (fun _ h => h)) (by have := HLX.out; omega) ?_
            intro v2 X32 O hg hb
            have h1 := h.app O hg (hb.imp Eq.symm id)
            obtain ⟨A5, cap5, rfl⟩ := O.shape
            rw [← HN5.out] at h1
            have hS1 : Below w6.heap.size w6 X32 := HDW.out.trans (h1.below.mono (by rw [HDZ.out]; exact Nat.le_refl _))
            refine hK.out _ _ hS1 (fun hSn => ?_)
            clear hK K hSn; (try simp only [Act.put, List.setIfInBounds_toArray, List.set_cons_zero, List.set_cons_succ])
            rw [← HN5.out]
            clear O hg hb hb0
            clear h hS
            have h := h1
            have hS := hS1
            clear h1 hS1
            refine wpAnyH_take (i := 11) (oi := ⟨some 73, _, _, _, _, _⟩) (v := ?_) rfl (by kernel_rfl) (by kernel_rfl) (by kernel_rfl) (fun _ _ _ h => h) (Or.inl ⟨by kernel_rfl, ?_⟩) (by assumption) ?_; rotate_left; (intro VV hSw; (try dsimp only at hSw); go_simp; first | done | with_reducible rfl); (try simp only [Act.put, List.setIfInBounds_toArray, List.set_cons_zero, List.set_cons_succ])
            refine wpAnyH_ready (rs := [12]) (by kernel_rfl) (by simp) ?_
            refine AllReadyH.cons (o := ⟨some 9, _, _, _, _, _⟩) rfl (fun K hK => ?_) AllReadyH.nil
            · rw [if_pos (by rfl)]
              go_simp
              have h1 := h.alloc HP.out (.cells #[.int .i8 0, .int .i64 0, .string ⟨#[]⟩, .string ⟨#[]⟩, .slice none 0 0] 25)
              have hS1 := hS.alloc hS.size (.cells #[.int .i8 0, .int .i64 0, .string ⟨#[]⟩, .string ⟨#[]⟩, .slice none 0 0] 25)
              obtain ⟨g9, hg⟩ : ∃ g, g = X32.heap.size := ⟨_, rfl⟩
              rw [← hg] at h1
              refine hK.out _ _ hS1 (fun hSn => ?_)
              clear hK K hSn; (try simp only [Act.put, List.setIfInBounds_toArray, List.set_cons_zero, List.set_cons_succ])
              rw [← hg]
              clear hg
              generalize X32.alloc (.cells #[.int .i8 0, .int .i64 0, .string ⟨#[]⟩, .string ⟨#[]⟩, .slice none 0 0] 25) = X33 at h1 hS1 ⊢
              clear h hS
              have h := h1
              have hS := hS1
              clear h1 hS1
              obtain ⟨gge, gz, gne⟩ := h.kept (g9, .cells #[.int .i8 0, .int .i64 0, .string ⟨#[]⟩, .string ⟨#[]⟩, .slice none 0 0] 25) (by simp)
              have z0 : X33.cell? ⟨g9, 0, none⟩ = some (.int .i8 0) := cell_of_row (i := 0) gz rfl
              have zf0 : X33.frozen? ⟨g9, 0, none⟩ = false := free_of_row (i := 0) gz
              have z1 : X33.cell? ⟨g9, 1, none⟩ = some (.int .i64 0) := cell_of_row (i := 1) gz rfl
              have zf1 : X33.frozen? ⟨g9, 1, none⟩ = false := free_of_row (i := 1) gz
              have z2 : X33.cell? ⟨g9, 2, none⟩ = some (.string ⟨#[]⟩) := cell_of_row (i := 2) gz rfl
              have zf2 : X33.frozen? ⟨g9, 2, none⟩ = false := free_of_row (i := 2) gz
              have z3 : X33.cell? ⟨g9, 3, none⟩ = some (.string ⟨#[]⟩) := cell_of_row (i := 3) gz rfl
              have zf3 : X33.frozen? ⟨g9, 3, none⟩ = false := free_of_row (i := 3) gz
              have z4 : X33.cell? ⟨g9, 4, none⟩ = some (.slice none 0 0) := cell_of_row (i := 4) gz rfl
              have zf4 : X33.frozen? ⟨g9, 4, none⟩ = false := free_of_row (i := 4) gz
              have HRN := Lib.hid (rnew_of (g9 := g9) h HPD.out hS HDZ.out (by simp) HN5.out)
              obtain ⟨s5, m5⟩ := set_five7 (.int .i8 0) (.int .i64 0) (.string ⟨#[]⟩) (.string ⟨#[]⟩) (.slice A5 n5 cap5) gz
              have hS9 := hS.trans (m5.below hS.size (fun k e => by have := HDZ.out; have h9 : D.heap.size ≤ g9 := gge; omega))
              clear s5 m5
              refine wpAnyH_ready (rs := [13]) (by kernel_rfl) (by simp) ?_
              refine AllReadyH.cons (o := ⟨none, _, _, _, _, _⟩) rfl (fun K hK => ?_) AllReadyH.nil
              · rw [if_pos (by rfl)]
                go_simp
                refine hK.out _ _ hS9 (fun hSn => ?_)
                clear hK K hSn; (try simp only [Act.put, List.setIfInBounds_toArray, List.set_cons_zero, List.set_cons_succ])
                refine wpAnyH_done (by kernel_rfl) ?_ _
                clear z0 zf0 z1 zf1 z2 zf2 z3 zf3 z4 zf4 gz
                go_wp2_with fail
                go_meet
                exact ⟨g9, A5, cap5, rfl, HRN⟩
          · rw [if_pos (by rfl)]
            go_simp
            have h1 := h.alloc HP.out (.cells #[.int .i8 0, .int .i64 0, .string ⟨#[]⟩, .string ⟨#[]⟩, .slice none 0 0] 25)
            have hS1 := hS.alloc hS.size (.cells #[.int .i8 0, .int .i64 0, .string ⟨#[]⟩, .string ⟨#[]⟩, .slice none 0 0] 25)
            obtain ⟨g9, hg⟩ : ∃ g, g = X31.heap.size := ⟨_, rfl⟩
            rw [← hg] at h1
            refine hK.out _ _ hS1 (fun hSn => ?_)
            clear hK K hSn; (try simp only [Act.put, List.setIfInBounds_toArray, List.set_cons_zero, List.set_cons_succ])
            rw [← hg]
            clear hg
            generalize X31.alloc (.cells #[.int .i8 0, .int .i64 0, .string ⟨#[]⟩, .string ⟨#[]⟩, .slice none 0 0] 25) = X34 at h1 hS1 ⊢
            clear h hS
            have h := h1
            have hS := hS1
            clear h1 hS1
            refine wpAnyH_ready (rs := [10]) (by kernel_rfl) (by simp) ?_
            refine AllReadyH.cons (o := ⟨some 72, _, _, _, _, _⟩) rfl (fun K hK => ?_) AllReadyH.nil
            · rw [if_pos (by rfl)]
              have hb0 := h.below
              refine wp_own_termN (.tmp 65) (.tmp 71) rfl h.own hb0.size (h.apart HP.out) rfl g7 rfl (h.kept (g7, .cells #[.int .i8 mk, .int .i64 mn, .string msn, .string mt, .slice mA ml.length mcap] 25) (by simp)).2.1 (HTF.out.keep (fun b hb => hb0.block b (HP.out b hb)) (fun _ h => h)) (by have := HLX.out; omega) ?_
              intro v2 X35 O hg hb
              have h1 := h.app O hg (hb.imp Eq.symm id)
              obtain ⟨A5, cap5, rfl⟩ := O.shape
              rw [← HN5.out] at h1
              have hS1 : Below w6.heap.size w6 X35 := HDW.out.trans (h1.below.mono (by rw [HDZ.out]; exact Nat.le_refl _))
              refine hK.out _ _ hS1 (fun hSn => ?_)
              clear hK K hSn; (try simp only [Act.put, List.setIfInBounds_toArray, List.set_cons_zero, List.set_cons_succ])
              rw [← HN5.out]
              clear O hg hb hb0
              clear h hS
              have h := h1
              have hS := hS1
              clear h1 hS1
              refine wpAnyH_take (i := 11) (oi := ⟨some 73, _, _, _, _, _⟩) (v := ?_) rfl (by kernel_rfl) (by kernel_rfl) (by kernel_rfl) (fun _ _ _ h => h) (Or.inl ⟨by kernel_rfl, ?_⟩) (by assumption) ?_; rotate_left; (intro VV hSw; (try dsimp only at hSw); go_simp; first | done | with_reducible rfl); (try simp only [Act.put, List.setIfInBounds_toArray, List.set_cons_zero, List.set_cons_succ])
              obtain ⟨gge, gz, gne⟩ := h.kept (g9, .cells #[.int .i8 0, .int .i64 0, .string ⟨#[]⟩, .string ⟨#[]⟩, .slice none 0 0] 25) (by simp)
              have z0 : X35.cell? ⟨g9, 0, none⟩ = some (.int .i8 0) := cell_of_row (i := 0) gz rfl
              have zf0 : X35.frozen? ⟨g9, 0, none⟩ = false := free_of_row (i := 0) gz
              have z1 : X35.cell? ⟨g9, 1, none⟩ = some (.int .i64 0) := cell_of_row (i := 1) gz rfl
              have zf1 : X35.frozen? ⟨g9, 1, none⟩ = false := free_of_row (i := 1) gz
              have z2 : X35.cell? ⟨g9, 2, none⟩ = some (.string ⟨#[]⟩) := cell_of_row (i := 2) gz rfl
              have zf2 : X35.frozen? ⟨g9, 2, none⟩ = false := free_of_row (i := 2) gz
              have z3 : X35.cell? ⟨g9, 3, none⟩ = some (.string ⟨#[]⟩) := cell_of_row (i := 3) gz rfl
              have zf3 : X35.frozen? ⟨g9, 3, none⟩ = false := free_of_row (i := 3) gz
              have z4 : X35.cell? ⟨g9, 4, none⟩ = some (.slice none 0 0) := cell_of_row (i := 4) gz rfl
              have zf4 : X35.frozen? ⟨g9, 4, none⟩ = false := free_of_row (i := 4) gz
              have HRN := Lib.hid (rnew_of (g9 := g9) h HPD.out hS HDZ.out (by simp) HN5.out)
              obtain ⟨s5, m5⟩ := set_five7 (.int .i8 0) (.int .i64 0) (.string ⟨#[]⟩) (.string ⟨#[]⟩) (.slice A5 n5 cap5) gz
              have hS9 := hS.trans (m5.below hS.size (fun k e => by have := HDZ.out; have h9 : D.heap.size ≤ g9 := gge; omega))
              clear s5 m5
              refine wpAnyH_ready (rs := [13]) (by kernel_rfl) (by simp) ?_
              refine AllReadyH.cons (o := ⟨none, _, _, _, _, _⟩) rfl (fun K hK => ?_) AllReadyH.nil
              · rw [if_pos (by rfl)]
                go_simp
                refine hK.out _ _ hS9 (fun hSn => ?_)
                clear hK K hSn; (try simp only [Act.put, List.setIfInBounds_toArray, List.set_cons_zero, List.set_cons_succ])
                refine wpAnyH_done (by kernel_rfl) ?_ _
                clear z0 zf0 z1 zf1 z2 zf2 z3 zf3 z4 zf4 gz
                go_wp2_with fail
                go_meet
                exact ⟨g9, A5, cap5, rfl, HRN⟩
        · rw [if_pos (by rfl)]
          go_simp
          have h1 := h.alloc HP.out (.cells #[.int .i8 0, .int .i64 0, .string ⟨#[]⟩, .string ⟨#[]⟩, .slice none 0 0] 25)
          have hS1 := hS.alloc hS.size (.cells #[.int .i8 0, .int .i64 0, .string ⟨#[]⟩, .string ⟨#[]⟩, .slice none 0 0] 25)
          obtain ⟨g9, hg⟩ : ∃ g, g = X30.heap.size := ⟨_, rfl⟩
          rw [← hg] at h1
          refine hK.out _ _ hS1 (fun hSn => ?_)
          clear hK K hSn; (try simp only [Act.put, List.setIfInBounds_toArray, List.set_cons_zero, List.set_cons_succ])
          rw [← hg]
          clear hg
          generalize X30.alloc (.cells #[.int .i8 0, .int .i64 0, .string ⟨#[]⟩, .string ⟨#[]⟩, .slice none 0 0] 25) = X36 at h1 hS1 ⊢
          clear h hS
          have h := h1
          have hS := hS1
          clear h1 hS1
          refine wpAnyH_ready (rs := [3]) (by kernel_rfl) (by simp) ?_
          refine AllReadyH.cons (o := ⟨some 65, _, _, _, _, _⟩) rfl (fun K hK => ?_) AllReadyH.nil
          · rw [if_pos (by rfl)]
            have hb0 := h.below
            refine wp_own_termsN (.tmp 62) (.tmp 64) rfl h.own hb0.size (h.apart HP.out) rfl rfl (HTL.out.keep (fun b hb => hb0.block b (HP.out b hb)) (fun _ h => h)) (by have := HLX.out; show 0 + _ ≤ _; omega) ?_
            intro v1 X37 O hg hb
            rw [List.nil_append] at O
            have h1 := h.app O hg hb
            have hS1 : Below w6.heap.size w6 X37 := HDW.out.trans (h1.below.mono (by rw [HDZ.out]; exact Nat.le_refl _))
            refine hK.out _ _ hS1 (fun hSn => ?_)
            clear hK K hSn; (try simp only [Act.put, List.setIfInBounds_toArray, List.set_cons_zero, List.set_cons_succ])
            clear O hg hb hb0
            clear h hS
            have h := h1
            have hS := hS1
            clear h1 hS1
            refine wpAnyH_ready (rs := [10]) (by kernel_rfl) (by simp) ?_
            refine AllReadyH.cons (o := ⟨some 72, _, _, _, _, _⟩) rfl (fun K hK => ?_) AllReadyH.nil
            · rw [if_pos (by rfl)]
              have hb0 := h.below
              refine wp_own_termN (.tmp 65) (.tmp 71) rfl h.own hb0.size (h.apart HP.out) rfl g7 rfl (h.kept (g7, .cells #[.int .i8 mk, .int .i64 mn, .string msn, .string mt, .slice mA ml.length mcap] 25) (by simp)).2.1 (HTF.out.keep (fun b hb => hb0.block b (HP.out b hb)) (fun _ h => h)) (by have := HLX.out; omega) ?_
              intro v2 X38 O hg hb
              have h1 := h.app O hg (hb.imp Eq.symm id)
              obtain ⟨A5, cap5, rfl⟩ := O.shape
              rw [← HN5.out] at h1
              have hS1 : Below w6.heap.size w6 X38 := HDW.out.trans (h1.below.mono (by rw [HDZ.out]; exact Nat.le_refl _))
              refine hK.out _ _ hS1 (fun hSn => ?_)
              clear hK K hSn; (try simp only [Act.put, List.setIfInBounds_toArray, List.set_cons_zero, List.set_cons_succ])
              rw [← HN5.out]
              clear O hg hb hb0
              clear h hS
              have h := h1
              have hS := hS1
              clear h1 hS1
              refine wpAnyH_take (i := 11) (oi := ⟨some 73, _, _, _, _, _⟩) (v := ?_) rfl (by kernel_rfl) (by kernel_rfl) (by kernel_rfl) (fun _ _ _ h => h) (Or.inl ⟨by kernel_rfl, ?_⟩) (by assumption) ?_; rotate_left; (intro VV hSw; (try dsimp only at hSw); go_simp; first | done | with_reducible rfl); (try simp only [Act.put, List.setIfInBounds_toArray, List.set_cons_zero, List.set_cons_succ])
              obtain ⟨gge, gz, gne⟩ := h.kept (g9, .cells #[.int .i8 0, .int .i64 0, .string ⟨#[]⟩, .string ⟨#[]⟩, .slice none 0 0] 25) (by simp)
              have z0 : X38.cell? ⟨g9, 0, none⟩ = some (.int .i8 0) := cell_of_row (i := 0) gz rfl
              have zf0 : X38.frozen? ⟨g9, 0, none⟩ = false := free_of_row (i := 0) gz
              have z1 : X38.cell? ⟨g9, 1, none⟩ = some (.int .i64 0) := cell_of_row (i := 1) gz rfl
              have zf1 : X38.frozen? ⟨g9, 1, none⟩ = false := free_of_row (i := 1) gz
              have z2 : X38.cell? ⟨g9, 2, none⟩ = some (.string ⟨#[]⟩) := cell_of_row (i := 2) gz rfl
              have zf2 : X38.frozen? ⟨g9, 2, none⟩ = false := free_of_row (i := 2) gz
              have z3 : X38.cell? ⟨g9, 3, none⟩ = some (.string ⟨#[]⟩) := cell_of_row (i := 3) gz rfl
              have zf3 : X38.frozen? ⟨g9, 3, none⟩ = false := free_of_row (i := 3) gz
              have z4 : X38.cell? ⟨g9, 4, none⟩ = some (.slice none 0 0) := cell_of_row (i := 4) gz rfl
              have zf4 : X38.frozen? ⟨g9, 4, none⟩ = false := free_of_row (i := 4) gz
              have HRN := Lib.hid (rnew_of (g9 := g9) h HPD.out hS HDZ.out (by simp) HN5.out)
              obtain ⟨s5, m5⟩ := set_five7 (.int .i8 0) (.int .i64 0) (.string ⟨#[]⟩) (.string ⟨#[]⟩) (.slice A5 n5 cap5) gz
              have hS9 := hS.trans (m5.below hS.size (fun k e => by have := HDZ.out; have h9 : D.heap.size ≤ g9 := gge; omega))
              clear s5 m5
              refine wpAnyH_ready (rs := [13]) (by kernel_rfl) (by simp) ?_
              refine AllReadyH.cons (o := ⟨none, _, _, _, _, _⟩) rfl (fun K hK => ?_) AllReadyH.nil
              · rw [if_pos (by rfl)]
                go_simp
                refine hK.out _ _ hS9 (fun hSn => ?_)
                clear hK K hSn; (try simp only [Act.put, List.setIfInBounds_toArray, List.set_cons_zero, List.set_cons_succ])
                refine wpAnyH_done (by kernel_rfl) ?_ _
                clear z0 zf0 z1 zf1 z2 zf2 z3 zf3 z4 zf4 gz
                go_wp2_with fail
                go_meet
                exact ⟨g9, A5, cap5, rfl, HRN⟩
      · rw [if_pos (by rfl)]
        go_simp
        have h1 := h.alloc HP.out (.cells #[.int .i8 0, .int .i64 0, .string ⟨#[]⟩, .string ⟨#[]⟩, .slice none 0 0] 25)
        have hS1 := hS.alloc hS.size (.cells #[.int .i8 0, .int .i64 0, .string ⟨#[]⟩, .string ⟨#[]⟩, .slice none 0 0] 25)
        obtain ⟨g9, hg⟩ : ∃ g, g = X20.heap.size := ⟨_, rfl⟩
        rw [← hg] at h1
        refine hK.out _ _ hS1 (fun hSn => ?_)
        clear hK K hSn; (try simp only [Act.put, List.setIfInBounds_toArray, List.set_cons_zero, List.set_cons_succ])
        rw [← hg]
        clear hg
        generalize X20.alloc (.cells #[.int .i8 0, .int .i64 0, .string ⟨#[]⟩, .string ⟨#[]⟩, .slice none 0 0] 25) = X39 at h1 hS1 ⊢
        clear h hS
        have h := h1
        have hS := hS1
        clear h1 hS1
        refine wpAnyH_ready (rs := [3, 9]) (by kernel_rfl) (by simp) ?_
        refine AllReadyH.cons (o := ⟨some 65, _, _, _, _, _⟩) rfl (fun K hK => ?_) (AllReadyH.cons (o := ⟨some 71, _, _, _, _, _⟩) rfl (fun K hK => ?_) AllReadyH.nil)
        · rw [if_pos (by rfl)]
          have hb0 := h.below
          refine wp_own_termsN (.tmp 62) (.tmp 64) rfl h.own hb0.size (h.apart HP.out) rfl rfl (HTL.out.keep (fun b hb => hb0.block b (HP.out b hb)) (fun _ h => h)) (by have := HLX.out; show 0 + _ ≤ _; omega) ?_
          intro v1 X40 O hg hb
          rw [List.nil_append] at O
          have h1 := h.app O hg hb
          have hS1 : Below w6.heap.size w6 X40 := HDW.out.trans (h1.below.mono (by rw [HDZ.out]; exact Nat.le_refl _))
          refine hK.out _ _ hS1 (fun hSn => ?_)
          clear hK K hSn; (try simp only [Act.put, List.setIfInBounds_toArray, List.set_cons_zero, List.set_cons_succ])
          clear O hg hb hb0
          clear h hS
          have h := h1
          have hS := hS1
          clear h1 hS1
          refine wpAnyH_ready (rs := [9]) (by kernel_rfl) (by simp) ?_
          refine AllReadyH.cons (o := ⟨some 71, _, _, _, _, _⟩) rfl (fun K hK => ?_) AllReadyH.nil
          · rw [if_pos (by rfl)]
            go_simp
            have h1 := h.alloc HP.out (.cells #[.int .i8 mk, .int .i64 mn, .string msn, .string mt, .slice mA ml.length mcap] 25)
            have hS1 := hS.alloc hS.size (.cells #[.int .i8 mk, .int .i64 mn, .string msn, .string mt, .slice mA ml.length mcap] 25)
            obtain ⟨g7, hg⟩ : ∃ g, g = X40.heap.size := ⟨_, rfl⟩
            rw [← hg] at h1
            refine hK.out _ _ hS1 (fun hSn => ?_)
            clear hK K hSn; (try simp only [Act.put, List.setIfInBounds_toArray, List.set_cons_zero, List.set_cons_succ])
            rw [← hg]
            clear hg
            generalize X40.alloc (.cells #[.int .i8 mk, .int .i64 mn, .string msn, .string mt, .slice mA ml.length mcap] 25) = X41 at h1 hS1 ⊢
            clear h hS
            have h := h1
            have hS := hS1
            clear h1 hS1
            refine wpAnyH_ready (rs := [10]) (by kernel_rfl) (by simp) ?_
            refine AllReadyH.cons (o := ⟨some 72, _, _, _, _, _⟩) rfl (fun K hK => ?_) AllReadyH.nil
            · rw [if_pos (by rfl)]
              have hb0 := h.below
              refine wp_own_termN (.tmp 65) (.tmp 71) rfl h.own hb0.size (h.apart HP.out) rfl g7 rfl (h.kept (g7, .cells #[.int .i8 mk, .int .i64 mn, .string msn, .string mt, .slice mA ml.length mcap] 25) (by simp)).2.1 (HTF.out.keep (fun b hb => hb0.block b (HP.out b hb)) (fun _ h => h)) (by have := HLX.out; omega) ?_
              intro v2 X42 O hg hb
              have h1 := h.app O hg (hb.imp Eq.symm id)
              obtain ⟨A5, cap5, rfl⟩ := O.shape
              rw [← HN5.out] at h1
              have hS1 : Below w6.heap.size w6 X42 := HDW.out.trans (h1.below.mono (by rw [HDZ.out]; exact Nat.le_refl _))
              refine hK.out _ _ hS1 (fun hSn => ?_)
              clear hK K hSn; (try simp only [Act.put, List.setIfInBounds_toArray, List.set_cons_zero, List.set_cons_succ])
              rw [← HN5.out]
              clear O hg hb hb0
              clear h hS
              have h := h1
              have hS := hS1
              clear h1 hS1
              refine wpAnyH_take (i := 11) (oi := ⟨some 73, _, _, _, _, _⟩) (v := ?_) rfl (by kernel_rfl) (by kernel_rfl) (by kernel_rfl) (fun _ _ _ h => h) (Or.inl ⟨by kernel_rfl, ?_⟩) (by assumption) ?_; rotate_left; (intro VV hSw; (try dsimp only at hSw); go_simp; first | done | with_reducible rfl); (try simp only [Act.put, List.setIfInBounds_toArray, List.set_cons_zero, List.set_cons_succ])
              obtain ⟨gge, gz, gne⟩ := h.kept (g9, .cells #[.int .i8 0, .int .i64 0, .string ⟨#[]⟩, .string ⟨#[]⟩, .slice none 0 0] 25) (by simp)
              have z0 : X42.cell? ⟨g9, 0, none⟩ = some (.int .i8 0) := cell_of_row (i := 0) gz rfl
              have zf0 : X42.frozen? ⟨g9, 0, none⟩ = false := free_of_row (i := 0) gz
              have z1 : X42.cell? ⟨g9, 1, none⟩ = some (.int .i64 0) := cell_of_row (i := 1) gz rfl
              have zf1 : X42.frozen? ⟨g9, 1, none⟩ = false := free_of_row (i := 1) gz
              have z2 : X42.cell? ⟨g9, 2, none⟩ = some (.string ⟨#[]⟩) := cell_of_row (i := 2) gz rfl
              have zf2 : X42.frozen? ⟨g9, 2, none⟩ = false := free_of_row (i := 2) gz
              have z3 : X42.cell? ⟨g9, 3, none⟩ = some (.string ⟨#[]⟩) := cell_of_row (i := 3) gz rfl
              have zf3 : X42.frozen? ⟨g9, 3, none⟩ = false := free_of_row (i := 3) gz
              have z4 : X42.cell? ⟨g9, 4, none⟩ = some (.slice none 0 0) := cell_of_row (i := 4) gz rfl
              have zf4 : X42.frozen? ⟨g9, 4, none⟩ = false := free_of_row (i := 4) gz
              have HRN := Lib.hid (rnew_of (g9 := g9) h HPD.out hS HDZ.out (by simp) HN5.out)
              obtain ⟨s5, m5⟩ := set_five7 (.int .i8 0) (.int .i64 0) (.string ⟨#[]⟩) (.string ⟨#[]⟩) (.slice A5 n5 cap5) gz
              have hS9 := hS.trans (m5.below hS.size (fun k e => by have := HDZ.out; have h9 : D.heap.size ≤ g9 := gge; omega))
              clear s5 m5
              refine wpAnyH_ready (rs := [13]) (by kernel_rfl) (by simp) ?_
              refine AllReadyH.cons (o := ⟨none, _, _, _, _, _⟩) rfl (fun K hK => ?_) AllReadyH.nil
              · rw [if_pos (by rfl)]
                go_simp
                refine hK.out _ _ hS9 (fun hSn => ?_)
                clear hK K hSn; (try simp only [Act.put, List.setIfInBounds_toArray, List.set_cons_zero, List.set_cons_succ])
                refine wpAnyH_done (by kernel_rfl) ?_ _
                clear z0 zf0 z1 zf1 z2 zf2 z3 zf3 z4 zf4 gz
                go_wp2_with fail
                go_meet
                exact ⟨g9, A5, cap5, rfl, HRN⟩
        · rw [if_pos (by rfl)]
          go_simp
          have h1 := h.alloc HP.out (.cells #[.int .i8 mk, .int .i64 mn, .string msn, .string mt, .slice mA ml.length mcap] 25)
          have hS1 := hS.alloc hS.size (.cells #[.int .i8 mk, .int .i64 mn, .string msn, .string mt, .slice mA ml.length mcap] 25)
          obtain ⟨g7, hg⟩ : ∃ g, g = X39.heap.size := ⟨_, rfl⟩
          rw [← hg] at h1
          refine hK.out _ _ hS1 (fun hSn => ?_)
          clear hK K hSn; (try simp only [Act.put, List.setIfInBounds_toArray, List.set_cons_zero, List.set_cons_succ])
          rw [← hg]
          clear hg
          generalize X39.alloc (.cells #[.int .i8 mk, .int .i64 mn, .string msn, .string mt, .slice mA ml.length mcap] 25) = X43 at h1 hS1 ⊢
          clear h hS
          have h := h1
          have hS := hS1
          clear h1 hS1
          refine wpAnyH_ready (rs := [3]) (by kernel_rfl) (by simp) ?_
          refine AllReadyH.cons (o := ⟨some 65, _, _, _, _, _⟩) rfl (fun K hK => ?_) AllReadyH.nil
          · rw [if_pos (by rfl)]
            have hb0 := h.below
            refine wp_own_termsN (.tmp 62) (.tmp 64) rfl h.own hb0.size (h.apart HP.out) rfl rfl (HTL.out.keep (fun b hb => hb0.block b (HP.out b hb)) (fun _ h => h)) (by have := HLX.out; show 0 + _ ≤ _; omega) ?_
            intro v1 X44 O hg hb
            rw [List.nil_append] at O
            have h1 := h.app O hg hb
            have hS1 : Below w6.heap.size w6 X44 := HDW.out.trans (h1.below.mono (by rw [HDZ.out]; exact Nat.le_refl _))
            refine hK.out _ _ hS1 (fun hSn => ?_)
            clear hK K hSn; (try simp only [Act.put, List.setIfInBounds_toArray, List.set_cons_zero, List.set_cons_succ])
            clear O hg hb hb0
            clear h hS
            have h := h1
            have hS := hS1
            clear h1 hS1
            refine wpAnyH_ready (rs := [10]) (by kernel_rfl) (by simp) ?_
            refine AllReadyH.cons (o := ⟨some 72, _, _, _, _, _⟩) rfl (fun K hK => ?_) AllReadyH.nil
            · rw [if_pos (by rfl)]
              have hb0 := h.below
              refine wp_own_termN (.tmp 65) (.tmp 71) rfl h.own hb0.size (h.apart HP.out) rfl g7 rfl (h.kept (g7, .cells #[.int .i8 mk, .int .i64 mn, .string msn, .string mt, .slice mA ml.length mcap] 25) (by simp)).2.1 (HTF.out.keep (fun b hb => hb0.block b (HP.out b hb)) (fun _ h => h)) (by have := HLX.out; omega) ?_
              intro v2 X45 O hg hb
              have h1 := h.app O hg (hb.imp Eq.symm id)
              obtain ⟨A5, cap5, rfl⟩ := O.shape
              rw [← HN5.out] at h1
              have hS1 : Below w6.heap.size w6 X45 := HDW.out.trans (h1.below.mono (by rw [HDZ.out]; exact Nat.le_refl _))
              refine hK.out _ _ hS1 (fun hSn => ?_)
              clear hK K hSn; (try simp only [Act.put, List.setIfInBounds_toArray, List.set_cons_zero, List.set_cons_succ])
              rw [← HN5.out]
              clear O hg hb hb0
              clear h hS
              have h := h1
              have hS := hS1
              clear h1 hS1
              refine wpAnyH_take (i := 11) (oi := ⟨some 73, _, _, _, _, _⟩) (v := ?_) rfl (by kernel_rfl) (by kernel_rfl) (by kernel_rfl) (fun _ _ _ h => h) (Or.inl ⟨by kernel_rfl, ?_⟩) (by assumption) ?_; rotate_left; (intro VV hSw; (try dsimp only at hSw); go_simp; first | done | with_reducible rfl); (try simp only [Act.put, List.setIfInBounds_toArray, List.set_cons_zero, List.set_cons_succ])
              obtain ⟨gge, gz, gne⟩ := h.kept (g9, .cells #[.int .i8 0, .int .i64 0, .string ⟨#[]⟩, .string ⟨#[]⟩, .slice none 0 0] 25) (by simp)
              have z0 : X45.cell? ⟨g9, 0, none⟩ = some (.int .i8 0) := cell_of_row (i := 0) gz rfl
              have zf0 : X45.frozen? ⟨g9, 0, none⟩ = false := free_of_row (i := 0) gz
              have z1 : X45.cell? ⟨g9, 1, none⟩ = some (.int .i64 0) := cell_of_row (i := 1) gz rfl
              have zf1 : X45.frozen? ⟨g9, 1, none⟩ = false := free_of_row (i := 1) gz
              have z2 : X45.cell? ⟨g9, 2, none⟩ = some (.string ⟨#[]⟩) := cell_of_row (i := 2) gz rfl
              have zf2 : X45.frozen? ⟨g9, 2, none⟩ = false := free_of_row (i := 2) gz
              have z3 : X45.cell? ⟨g9, 3, none⟩ = some (.string ⟨#[]⟩) := cell_of_row (i := 3) gz rfl
              have zf3 : X45.frozen? ⟨g9, 3, none⟩ = false := free_of_row (i := 3) gz
              have z4 : X45.cell? ⟨g9, 4, none⟩ = some (.slice none 0 0) := cell_of_row (i := 4) gz rfl
              have zf4 : X45.frozen? ⟨g9, 4, none⟩ = false := free_of_row (i := 4) gz
              have HRN := Lib.hid (rnew_of (g9 := g9) h HPD.out hS HDZ.out (by simp) HN5.out)
              obtain ⟨s5, m5⟩ := set_five7 (.int .i8 0) (.int .i64 0) (.string ⟨#[]⟩) (.string ⟨#[]⟩) (.slice A5 n5 cap5) gz
              have hS9 := hS.trans (m5.below hS.size (fun k e => by have := HDZ.out; have h9 : D.heap.size ≤ g9 := gge; omega))
              clear s5 m5
              refine wpAnyH_ready (rs := [13]) (by kernel_rfl) (by simp) ?_
              refine AllReadyH.cons (o := ⟨none, _, _, _, _, _⟩) rfl (fun K hK => ?_) AllReadyH.nil
              · rw [if_pos (by rfl)]
                go_simp
                refine hK.out _ _ hS9 (fun hSn => ?_)
                clear hK K hSn; (try simp only [Act.put, List.setIfInBounds_toArray, List.set_cons_zero, List.set_cons_succ])
                refine wpAnyH_done (by kernel_rfl) ?_ _
                clear z0 zf0 z1 zf1 z2 zf2 z3 zf3 z4 zf4 gz
                go_wp2_with fail
                go_meet
                exact ⟨g9, A5, cap5, rfl, HRN⟩
    · rw [if_pos (by rfl)]
      go_simp
      have h1 := h.alloc HP.out (.cells #[.int .i8 mk, .int .i64 mn, .string msn, .string mt, .slice mA ml.length mcap] 25)
      have hS1 := hS.alloc hS.size (.cells #[.int .i8 mk, .int .i64 mn, .string msn, .string mt, .slice mA ml.length mcap] 25)
      obtain ⟨g7, hg⟩ : ∃ g, g = D.heap.size := ⟨_, rfl⟩
      rw [← hg] at h1
      refine hK.out _ _ hS1 (fun hSn => ?_)
      clear hK K hSn; (try simp only [Act.put, List.setIfInBounds_toArray, List.set_cons_zero, List.set_cons_succ])
      rw [← hg]
      clear hg
      generalize D.alloc (.cells #[.int .i8 mk, .int .i64 mn, .string msn, .string mt, .slice mA ml.length mcap] 25) = X46 at h1 hS1 ⊢
      clear h hS
      have h := h1
      have hS := hS1
      clear h1 hS1
      refine wpAnyH_ready (rs := [0, 12]) (by kernel_rfl) (by simp) ?_
      refine AllReadyH.cons (o := ⟨some 62, _, _, _, _, _⟩) rfl (fun K hK => ?_) (AllReadyH.cons (o := ⟨some 9, _, _, _, _, _⟩) rfl (fun K hK => ?_) AllReadyH.nil)
      · rw [if_pos (by rfl)]
        go_simp
        have h1 := h.fresh HP.out
        have hS1 := hS.alloc hS.size (.cells #[] 25)
        obtain ⟨g0, hg⟩ : ∃ g, g = X46.heap.size := ⟨_, rfl⟩
        rw [← hg] at h1
        refine hK.out _ _ hS1 (fun hSn => ?_)
        clear hK K hSn; (try simp only [Act.put, List.setIfInBounds_toArray, List.set_cons_zero, List.set_cons_succ])
        rw [← hg]
        clear hg
        generalize X46.alloc (.cells #[] 25) = X47 at h1 hS1 ⊢
        clear h hS
        have h := h1
        have hS := hS1
        clear h1 hS1
        refine wpAnyH_ready (rs := [3, 12]) (by kernel_rfl) (by simp) ?_
        refine AllReadyH.cons (o := ⟨some 65, _, _, _, _, _⟩) rfl (fun K hK => ?_) (AllReadyH.cons (o := ⟨some 9, _, _, _, _, _⟩) rfl (fun K hK => ?_) AllReadyH.nil)
        · rw [if_pos (by rfl)]
          have hb0 := h.below
          refine wp_own_termsN (.tmp 62) (.tmp 64) rfl h.own hb0.size (h.apart HP.out) rfl rfl (HTL.out.keep (fun b hb => hb0.block b (HP.out b hb)) (fun _ h => h)) (by have := HLX.out; show 0 + _ ≤ _; omega) ?_
          intro v1 X48 O hg hb
          rw [List.nil_append] at O
          have h1 := h.app O hg hb
          have hS1 : Below w6.heap.size w6 X48 := HDW.out.trans (h1.below.mono (by rw [HDZ.out]; exact Nat.le_refl _))
          refine hK.out _ _ hS1 (fun hSn => ?_)
          clear hK K hSn; (try simp only [Act.put, List.setIfInBounds_toArray, List.set_cons_zero, List.set_cons_succ])
          clear O hg hb hb0
          clear h hS
          have h := h1
          have hS := hS1
          clear h1 hS1
          refine wpAnyH_ready (rs := [10, 12]) (by kernel_rfl) (by simp) ?_
          refine AllReadyH.cons (o := ⟨some 72, _, _, _, _, _⟩) rfl (fun K hK => ?_) (AllReadyH.cons (o := ⟨some 9, _, _, _, _, _⟩) rfl (fun K hK => ?_) AllReadyH.nil)
          · rw [if_pos (by rfl)]
            have hb0 := h.below
            refine wp_own_termN (.tmp 65) (.tmp 71) rfl h.own hb0.size (h.apart HP.out) rfl g7 rfl (h.kept (g7, .cells #[.int .i8 mk, .int .i64 mn, .string msn, .string mt, .slice mA ml.length mcap] 25) (by simp)).2.1 (HTF.out.keep (fun b hb => hb0.block b (HP.out b hb)) (fun _ h => h)) (by have := HLX.out; omega) ?_
            intro v2 X49 O hg hb
            have h1 := h.app O hg (hb.imp Eq.symm id)
            obtain ⟨A5, cap5, rfl⟩ := O.shape
            rw [← HN5.out] at h1
            have hS1 : Below w6.heap.size w6 X49 := HDW.out.trans (h1.below.mono (by rw [HDZ.out]; exact Nat.le_refl _))
            refine hK.out _ _ hS1 (fun hSn => ?_)
            clear hK K hSn; (try simp only [Act.put, List.setIfInBounds_toArray, List.set_cons_zero, List.set_cons_succ])
            rw [← HN5.out]
            clear O hg hb hb0
            clear h hS
            have h := h1
            have hS := hS1
            clear h1 hS1
            refine wpAnyH_take (i := 11) (oi := ⟨some 73, _, _, _, _, _⟩) (v := ?_) rfl (by kernel_rfl) (by kernel_rfl) (by kernel_rfl) (fun _ _ _ h => h) (Or.inl ⟨by kernel_rfl, ?_⟩) (by assumption) ?_; rotate_left; (intro VV hSw; (try dsimp only at hSw); go_simp; first | done | with_reducible rfl); (try simp only [Act.put, List.setIfInBounds_toArray, List.set_cons_zero, List.set_cons_succ])
            refine wpAnyH_ready (rs := [12]) (by kernel_rfl) (by simp) ?_
            refine AllReadyH.cons (o := ⟨some 9, _, _, _, _, _⟩) rfl (fun K hK => ?_) AllReadyH.nil
            · rw [if_pos (by rfl)]
              go_simp
              have h1 := h.alloc HP.out (.cells #[.int .i8 0, .int .i64 0, .string ⟨#[]⟩, .string ⟨#[]⟩, .slice none 0 0] 25)
              have hS1 := hS.alloc hS.size (.cells #[.int .i8 0, .int .i64 0, .string ⟨#[]⟩, .string ⟨#[]⟩, .slice none 0 0] 25)
              obtain ⟨g9, hg⟩ : ∃ g, g = X49.heap.size := ⟨_, rfl⟩
              rw [← hg] at h1
              refine hK.out _ _ hS1 (fun hSn => ?_)
              clear hK K hSn; (try simp only [Act.put, List.setIfInBounds_toArray, List.set_cons_zero, List.set_cons_succ])
              rw [← hg]
              clear hg
              generalize X49.alloc (.cells #[.int .i8 0, .int .i64 0, .string ⟨#[]⟩, .string ⟨#[]⟩, .slice none 0 0] 25) = X50 at h1 hS1 ⊢
              clear h hS
              have h := h1
              have hS := hS1
              clear h1 hS1
              obtain ⟨gge, gz, gne⟩ := h.kept (g9, .cells #[.int .i8 0, .int .i64 0, .string ⟨#[]⟩, .string ⟨#[]⟩, .slice none 0 0] 25) (by simp)
              have z0 : X50.cell? ⟨g9, 0, none⟩ = some (.int .i8 0) := cell_of_row (i := 0) gz rfl
              have zf0 : X50.frozen? ⟨g9, 0, none⟩ = false := free_of_row (i := 0) gz
              have z1 : X50.cell? ⟨g9, 1, none⟩ = some (.int .i64 0) := cell_of_row (i := 1) gz rfl
              have zf1 : X50.frozen? ⟨g9, 1, none⟩ = false := free_of_row (i := 1) gz
              have z2 : X50.cell? ⟨g9, 2, none⟩ = some (.string ⟨#[]⟩) := cell_of_row (i := 2) gz rfl
              have zf2 : X50.frozen? ⟨g9, 2, none⟩ = false := free_of_row (i := 2) gz
              have z3 : X50.cell? ⟨g9, 3, none⟩ = some (.string ⟨#[]⟩) := cell_of_row (i := 3) gz rfl
              have zf3 : X50.frozen? ⟨g9, 3, none⟩ = false := free_of_row (i := 3) gz
              have z4 : X50.cell? ⟨g9, 4, none⟩ = some (.slice none 0 0) := cell_of_row (i := 4) gz rfl
              have zf4 : X50.frozen? ⟨g9, 4, none⟩ = false := free_of_row (i := 4) gz
              have HRN := Lib.hid (rnew_of (g9 := g9) h HPD.out hS HDZ.out (by simp) HN5.out)
              obtain ⟨s5, m5⟩ := set_five7 (.int .i8 0) (.int .i64 0) (.string ⟨#[]⟩) (.string ⟨#[]⟩) (.slice A5 n5 cap5) gz
              have hS9 := hS.trans (m5.below hS.size (fun k e => by have := HDZ.out; have h9 : D.heap.size ≤ g9 := gge; omega))
              clear s5 m5
              refine wpAnyH_ready (rs := [13]) (by kernel_rfl) (by simp) ?_
              refine AllReadyH.cons (o := ⟨none, _, _, _, _, _⟩) rfl (fun K hK => ?_) AllReadyH.nil
              · rw [if_pos (by rfl)]
                go_simp
                refine hK.out _ _ hS9 (fun hSn => ?_)
                clear hK K hSn; (try simp only [Act.put, List.setIfInBounds_toArray, List.set_cons_zero, List.set_cons_succ])
                refine wpAnyH_done (by kernel_rfl) ?_ _
                clear z0 zf0 z1 zf1 z2 zf2 z3 zf3 z4 zf4 gz
                go_wp2_with fail
                go_meet
                exact ⟨g9, A5, cap5, rfl, HRN⟩
          · rw [if_pos (by rfl)]
            go_simp
            have h1 := h.alloc HP.out (.cells #[.int .i8 0, .int .i64 0, .string ⟨#[]⟩, .string ⟨#[]⟩, .slice none 0 0] 25)
            have hS1 := hS.alloc hS.size (.cells #[.int .i8 0, .int .i64 0, .string ⟨#[]⟩, .string ⟨#[]⟩, .slice none 0 0] 25)
            obtain ⟨g9, hg⟩ : ∃ g, g = X48.heap.size := ⟨_, rfl⟩
            rw [← hg] at h1
            refine hK.out _ _ hS1 (fun hSn => ?_)
            clear hK K hSn; (try simp only [Act.put, List.setIfInBounds_toArray, List.set_cons_zero, List.set_cons_succ])
            rw [← hg]
            clear hg
            generalize X48.alloc (.cells #[.int .i8 0, .int .i64 0, .string ⟨#[]⟩, .string ⟨#[]⟩, .slice none 0 0] 25) = X51 at h1 hS1 ⊢
            clear h hS
            have h := h1
            have hS := hS1
            clear h1 hS1
            refine wpAnyH_ready (rs := [10]) (by kernel_rfl) (by simp) ?_
            refine AllReadyH.cons (o := ⟨some 72, _, _, _, _, _⟩) rfl (fun K hK => ?_) AllReadyH.nil
            · rw [if_pos (by rfl)]
              have hb0 := h.below
              refine wp_own_termN (.tmp 65) (.tmp 71) rfl h.own hb0.size (h.apart HP.out) rfl g7 rfl (h.kept (g7, .cells #[.int .i8 mk, .int .i64 mn, .string msn, .string mt, .slice mA ml.length mcap] 25) (by simp)).2.1 (HTF.out.keep (fun b hb => hb0.block b (HP.out b hb)) (fun _ h => h)) (by have := HLX.out; omega) ?_
              intro v2 X52 O hg hb
              have h1 := h.app O hg (hb.imp Eq.symm id)
              obtain ⟨A5, cap5, rfl⟩ := O.shape
              rw [← HN5.out] at h1
              have hS1 : Below w6.heap.size w6 X52 := HDW.out.trans (h1.below.mono (by rw [HDZ.out]; exact Nat.le_refl _))
              refine hK.out _ _ hS1 (fun hSn => ?_)
              clear hK K hSn; (try simp only [Act.put, List.setIfInBounds_toArray, List.set_cons_zero, List.set_cons_succ])
              rw [← HN5.out]
              clear O hg hb hb0
              clear h hS
              have h := h1
              have hS := hS1
              clear h1 hS1
              refine wpAnyH_take (i := 11) (oi := ⟨some 73, _, _, _, _, _⟩) (v := ?_) rfl (by kernel_rfl) (by kernel_rfl) (by kernel_rfl) (fun _ _ _ h => h) (Or.inl ⟨by kernel_rfl, ?_⟩) (by assumption) ?_; rotate_left; (intro VV hSw; (try dsimp only at hSw); go_simp; first | done | with_reducible rfl); (try simp only [Act.put, List.setIfInBounds_toArray, List.set_cons_zero, List.set_cons_succ])
              obtain ⟨gge, gz, gne⟩ := h.kept (g9, .cells #[.int .i8 0, .int .i64 0, .string ⟨#[]⟩, .string ⟨#[]⟩, .slice none 0 0] 25) (by simp)
              have z0 : X52.cell? ⟨g9, 0, none⟩ = some (.int .i8 0) := cell_of_row (i := 0) gz rfl
              have zf0 : X52.frozen? ⟨g9, 0, none⟩ = false := free_of_row (i := 0) gz
              have z1 : X52.cell? ⟨g9, 1, none⟩ = some (.int .i64 0) := cell_of_row (i := 1) gz rfl
              have zf1 : X52.frozen? ⟨g9, 1, none⟩ = false := free_of_row (i := 1) gz
              have z2 : X52.cell? ⟨g9, 2, none⟩ = some (.string ⟨#[]⟩) := cell_of_row (i := 2) gz rfl
              have zf2 : X52.frozen? ⟨g9, 2, none⟩ = false := free_of_row (i := 2) gz
              have z3 : X52.cell? ⟨g9, 3, none⟩ = some (.string ⟨#[]⟩) := cell_of_row (i := 3) gz rfl
              have zf3 : X52.frozen? ⟨g9, 3, none⟩ = false := free_of_row (i := 3) gz
              have z4 : X52.cell? ⟨g9, 4, none⟩ = some (.slice none 0 0) := cell_of_row (i := 4) gz rfl
              have zf4 : X52.frozen? ⟨g9, 4, none⟩ = false := free_of_row (i := 4) gz
              have HRN := Lib.hid (rnew_of (g9 := g9) h HPD.out hS HDZ.out (by simp) HN5.out)
              obtain ⟨s5, m5⟩ := set_five7 (.int .i8 0) (.int .i64 0) (.string ⟨#[]⟩) (.string ⟨#[]⟩) (.slice A5 n5 cap5) gz
              have hS9 := hS.trans (m5.below hS.size (fun k e => by have := HDZ.out; have h9 : D.heap.size ≤ g9 := gge; omega))
              clear s5 m5
              refine wpAnyH_ready (rs := [13]) (by kernel_rfl) (by simp) ?_
              refine AllReadyH.cons (o := ⟨none, _, _, _, _, _⟩) rfl (fun K hK => ?_) AllReadyH.nil
              · rw [if_pos (by rfl)]
                go_simp
                refine hK.out _ _ hS9 (fun hSn => ?_)
                clear hK K hSn; (try simp only [Act.put, List.setIfInBounds_toArray, List.set_cons_zero, List.set_cons_succ])
                refine wpAnyH_done (by kernel_rfl) ?_ _
                clear z0 zf0 z1 zf1 z2 zf2 z3 zf3 z4 zf4 gz
                go_wp2_with fail
                go_meet
                exact ⟨g9, A5, cap5, rfl, HRN⟩
        · rw [if_pos (by rfl)]
          go_simp
          have h1 := h.alloc HP.out (.cells #[.int .i8 0, .int .i64 0, .string ⟨#[]⟩, .string ⟨#[]⟩, .slice none 0 0] 25)
          have hS1 := hS.alloc hS.size (.cells #[.int .i8 0, .int .i64 0, .string ⟨#[]⟩, .string ⟨#[]⟩, .slice none 0 0] 25)
          obtain ⟨g9, hg⟩ : ∃ g, g = X47.heap.size := ⟨_, rfl⟩
          rw [← hg] at h1
          refine hK.out _ _ hS1 (fun hSn => ?_)
          clear hK K hSn; (try simp only [Act.put, List.setIfInBounds_toArray, List.set_cons_zero, List.set_cons_succ])
          rw [← hg]
          clear hg
          generalize X47.alloc (.cells #[.int .i8 0, .int .i64 0, .string ⟨#[]⟩, .string ⟨#[]⟩, .slice none 0 0] 25) = X53 at h1 hS1 ⊢
          clear h hS
          have h := h1
          have hS := hS1
          clear h1 hS1
          refine wpAnyH_ready (rs := [3]) (by kernel_rfl) (by simp) ?_
          refine AllReadyH.cons (o := ⟨some 65, _, _, _, _, _⟩) rfl (fun K hK => ?_) AllReadyH.nil
          · rw [if_pos (by rfl)]
            have hb0 := h.below
            refine wp_own_termsN (.tmp 62) (.tmp 64) rfl h.own hb0.size (h.apart HP.out) rfl rfl (HTL.out.keep (fun b hb => hb0.block b (HP.out b hb)) (fun _ h => h)) (by have := HLX.out; show 0 + _ ≤ _; omega) ?_
            intro v1 X54 O hg hb
            rw [List.nil_append] at O
            have h1 := h.app O hg hb
            have hS1 : Below w6.heap.size w6 X54 := HDW.out.trans (h1.below.mono (by rw [HDZ.out]; exact Nat.le_refl _))
            refine hK.out _ _ hS1 (fun hSn => ?_)
            clear hK K hSn; (try simp only [Act.put, List.setIfInBounds_toArray, List.set_cons_zero, List.set_cons_succ])
            clear O hg hb hb0
            clear h hS
            have h := h1
            have hS := hS1
            clear h1 hS1
            refine wpAnyH_ready (rs := [10]) (by kernel_rfl) (by simp) ?_
            refine AllReadyH.cons (o := ⟨some 72, _, _, _, _, _⟩) rfl (fun K hK => ?_) AllReadyH.nil
            · rw [if_pos (by rfl)]
              have hb0 := h.below
              refine wp_own_termN (.tmp 65) (.tmp 71) rfl h.own hb0.size (h.apart HP.out) rfl g7 rfl (h.kept (g7, .cells #[.int .i8 mk, .int .i64 mn, .string msn, .string mt, .slice mA ml.length mcap] 25) (by simp)).2.1 (HTF.out.keep (fun b hb => hb0.block b (HP.out b hb)) (fun _ h => h)) (by have := HLX.out; omega) ?_
              intro v2 X55 O hg hb
              have h1 := h.app O hg (hb.imp Eq.symm id)
              obtain ⟨A5, cap5, rfl⟩ := O.shape
              rw [← HN5.out] at h1
              have hS1 : Below w6.heap.size w6 X55 := HDW.out.trans (h1.below.mono (by rw [HDZ.out]; exact Nat.le_refl _))
              refine hK.out _ _ hS1 (fun hSn => ?_)
              clear hK K hSn; (try simp only [Act.put, List.setIfInBounds_toArray, List.set_cons_zero, List.set_cons_succ])
              rw [← HN5.out]
              clear O hg hb hb0
              clear h hS
              have h := h1
              have hS := hS1
              clear h1 hS1
              refine wpAnyH_take (i := 11) (oi := ⟨some 73, _, _, _, _, _⟩) (v := ?_) rfl (by kernel_rfl) (by kernel_rfl) (by kernel_rfl) (fun _ _ _ h => h) (Or.inl ⟨by kernel_rfl, ?_⟩) (by assumption) ?_; rotate_left; (intro VV hSw; (try dsimp only at hSw); go_simp; first | done | with_reducible rfl); (try simp only [Act.put, List.setIfInBounds_toArray, List.set_cons_zero, List.set_cons_succ])
              obtain ⟨gge, gz, gne⟩ := h.kept (g9, .cells #[.int .i8 0, .int .i64 0, .string ⟨#[]⟩, .string ⟨#[]⟩, .slice none 0 0] 25) (by simp)
              have z0 : X55.cell? ⟨g9, 0, none⟩ = some (.int .i8 0) := cell_of_row (i := 0) gz rfl
              have zf0 : X55.frozen? ⟨g9, 0, none⟩ = false := free_of_row (i := 0) gz
              have z1 : X55.cell? ⟨g9, 1, none⟩ = some (.int .i64 0) := cell_of_row (i := 1) gz rfl
              have zf1 : X55.frozen? ⟨g9, 1, none⟩ = false := free_of_row (i := 1) gz
              have z2 : X55.cell? ⟨g9, 2, none⟩ = some (.string ⟨#[]⟩) := cell_of_row (i := 2) gz rfl
              have zf2 : X55.frozen? ⟨g9, 2, none⟩ = false := free_of_row (i := 2) gz
              have z3 : X55.cell? ⟨g9, 3, none⟩ = some (.string ⟨#[]⟩) := cell_of_row (i := 3) gz rfl
              have zf3 : X55.frozen? ⟨g9, 3, none⟩ = false := free_of_row (i := 3) gz
              have z4 : X55.cell? ⟨g9, 4, none⟩ = some (.slice none 0 0) := cell_of_row (i := 4) gz rfl
              have zf4 : X55.frozen? ⟨g9, 4, none⟩ = false := free_of_row (i := 4) gz
              have HRN := Lib.hid (rnew_of (g9 := g9) h HPD.out hS HDZ.out (by simp) HN5.out)
              obtain ⟨s5, m5⟩ := set_five7 (.int .i8 0) (.int .i64 0) (.string ⟨#[]⟩) (.string ⟨#[]⟩) (.slice A5 n5 cap5) gz
              have hS9 := hS.trans (m5.below hS.size (fun k e => by have := HDZ.out; have h9 : D.heap.size ≤ g9 := gge; omega))
              clear s5 m5
              refine wpAnyH_ready (rs := [13]) (by kernel_rfl) (by simp) ?_
              refine AllReadyH.cons (o := ⟨none, _, _, _, _, _⟩) rfl (fun K hK => ?_) AllReadyH.nil
              · rw [if_pos (by rfl)]
                go_simp
                refine hK.out _ _ hS9 (fun hSn => ?_)
                clear hK K hSn; (try simp only [Act.put, List.setIfInBounds_toArray, List.set_cons_zero, List.set_cons_succ])
                refine wpAnyH_done (by kernel_rfl) ?_ _
                clear z0 zf0 z1 zf1 z2 zf2 z3 zf3 z4 zf4 gz
                go_wp2_with fail
                go_meet
                exact ⟨g9, A5, cap5, rfl, HRN⟩
      · rw [if_pos (by rfl)]
        go_simp
        have h1 := h.alloc HP.out (.cells #[.int .i8 0, .int .i64 0, .string ⟨#[]⟩, .string ⟨#[]⟩, .slice none 0 0] 25)
        have hS1 := hS.alloc hS.size (.cells #[.int .i8 0, .int .i64 0, .string ⟨#[]⟩, .string ⟨#[]⟩, .slice none 0 0] 25)
        obtain ⟨g9, hg⟩ : ∃ g, g = X46.heap.size := ⟨_, rfl⟩
        rw [← hg] at h1
        refine hK.out _ _ hS1 (fun hSn => ?_)
        clear hK K hSn; (try simp only [Act.put, List.setIfInBounds_toArray, List.set_cons_zero, List.set_cons_succ])
        rw [← hg]
        clear hg
        generalize X46.alloc (.cells #[.int .i8 0, .int .i64 0, .string ⟨#[]⟩, .string ⟨#[]⟩, .slice none 0 0] 25) = X56 at h1 hS1 ⊢
        clear h hS
        have h := h1
        have hS := hS1
        clear h1 hS1
        refine wpAnyH_ready (rs := [0]) (by kernel_rfl) (by simp) ?_
        refine AllReadyH.cons (o := ⟨some 62, _, _, _, _, _⟩) rfl (fun K hK => ?_) AllReadyH.nil
        · rw [if_pos (by rfl)]
          go_simp
          have h1 := h.fresh HP.out
          have hS1 := hS.alloc hS.size (.cells #[] 25)
          obtain ⟨g0, hg⟩ : ∃ g, g = X56.heap.size := ⟨_, rfl⟩
          rw [← hg] at h1
          refine hK.out _ _ hS1 (fun hSn => ?_)
          clear hK K hSn; (try simp only [Act.put, List.setIfInBounds_toArray, List.set_cons_zero, List.set_cons_succ])
          rw [← hg]
          clear hg
          generalize X56.alloc (.cells #[] 25) = X57 at h1 hS1 ⊢
          clear h hS
          have h := h1
          have hS := hS1
          clear h1 hS1
          refine wpAnyH_ready (rs := [3]) (by kernel_rfl) (by simp) ?_
          refine AllReadyH.cons (o := ⟨some 65, _, _, _, _, _⟩) rfl (fun K hK => ?_) AllReadyH.nil
          · rw [if_pos (by rfl)]
            have hb0 := h.below
            refine wp_own_termsN (.tmp 62) (.tmp 64) rfl h.own hb0.size (h.apart HP.out) rfl rfl (HTL.out.keep (fun b hb => hb0.block b (HP.out b hb)) (fun _ h => h)) (by have := HLX.out; show 0 + _ ≤ _; omega) ?_
            intro v1 X58 O hg hb
            rw [List.nil_append] at O
            have h1 := h.app O hg hb
            have hS1 : Below w6.heap.size w6 X58 := HDW.out.trans (h1.below.mono (by rw [HDZ.out]; exact Nat.le_refl _))
            refine hK.out _ _ hS1 (fun hSn => ?_)
            clear hK K hSn; (try simp only [Act.put, List.setIfInBounds_toArray, List.set_cons_zero, List.set_cons_succ])
            clear O hg hb hb0
            clear h hS
            have h := h1
            have hS := hS1
            clear h1 hS1
            refine wpAnyH_ready (rs := [10]) (by kernel_rfl) (by simp) ?_
            refine AllReadyH.cons (o := ⟨some 72, _, _, _, _, _⟩) rfl (fun K hK => ?_) AllReadyH.nil
            · rw [if_pos (by rfl)]
              have hb0 := h.below
              refine wp_own_termN (.tmp 65) (.tmp 71) rfl h.own hb0.size (h.apart HP.out) rfl g7 rfl (h.kept (g7, .cells #[.int .i8 mk, .int .i64 mn, .string msn, .string mt, .slice mA ml.length mcap] 25) (by simp)).2.1 (HTF.out.keep (fun b hb => hb0.block b (HP.out b hb)) (fun _ h => h)) (by have := HLX.out; omega) ?_
              intro v2 X59 O hg hb
              have h1 := h.app O hg (hb.imp Eq.symm id)
              obtain ⟨A5, cap5, rfl⟩ := O.shape
              rw [← HN5.out] at h1
              have hS1 : Below w6.heap.size w6 X59 := HDW.out.trans (h1.below.mono (by rw [HDZ.out]; exact Nat.le_refl _))
              refine hK.out _ _ hS1 (fun hSn => ?_)
              clear hK K hSn; (try simp only [Act.put, List.setIfInBounds_toArray, List.set_cons_zero, List.set_cons_succ])
              rw [← HN5.out]
              clear O hg hb hb0
              clear h hS
              have h := h1
              have hS := hS1
              clear h1 hS1
              refine wpAnyH_take (i := 11) (oi := ⟨some 73, _, _, _, _, _⟩) (v := ?_) rfl (by kernel_rfl) (by kernel_rfl) (by kernel_rfl) (fun _ _ _ h => h) (Or.inl ⟨by kernel_rfl, ?_⟩) (by assumption) ?_; rotate_left; (intro VV hSw; (try dsimp only at hSw); go_simp; first | done | with_reducible rfl); (try simp only [Act.put, List.setIfInBounds_toArray, List.set_cons_zero, List.set_cons_succ])
              obtain ⟨gge, gz, gne⟩ := h.kept (g9, .cells #[.int .i8 0, .int .i64 0, .string ⟨#[]⟩, .string ⟨#[]⟩, .slice none 0 0] 25) (by simp)
              have z0 : X59.cell? ⟨g9, 0, none⟩ = some (.int .i8 0) := cell_of_row (i := 0) gz rfl
              have zf0 : X59.frozen? ⟨g9, 0, none⟩ = false := free_of_row (i := 0) gz
              have z1 : X59.cell? ⟨g9, 1, none⟩ = some (.int .i64 0) := cell_of_row (i := 1) gz rfl
              have zf1 : X59.frozen? ⟨g9, 1, none⟩ = false := free_of_row (i := 1) gz
              have z2 : X59.cell? ⟨g9, 2, none⟩ = some (.string ⟨#[]⟩) := cell_of_row (i := 2) gz rfl
              have zf2 : X59.frozen? ⟨g9, 2, none⟩ = false := free_of_row (i := 2) gz
              have z3 : X59.cell? ⟨g9, 3, none⟩ = some (.string ⟨#[]⟩) := cell_of_row (i := 3) gz rfl
              have zf3 : X59.frozen? ⟨g9, 3, none⟩ = false := free_of_row (i := 3) gz
              have z4 : X59.cell? ⟨g9, 4, none⟩ = some (.slice none 0 0) := cell_of_row (i := 4) gz rfl
              have zf4 : X59.frozen? ⟨g9, 4, none⟩ = false := free_of_row (i := 4) gz
              have HRN := Lib.hid (rnew_of (g9 := g9) h HPD.out hS HDZ.out (by simp) HN5.out)
              obtain ⟨s5, m5⟩ := set_five7 (.int .i8 0) (.int .i64 0) (.string ⟨#[]⟩) (.string ⟨#[]⟩) (.slice A5 n5 cap5) gz
              have hS9 := hS.trans (m5.below hS.size (fun k e => by have := HDZ.out; have h9 : D.heap.size ≤ g9 := gge; omega))
              clear s5 m5
              refine wpAnyH_ready (rs := [13]) (by kernel_rfl) (by simp) ?_
              refine AllReadyH.cons (o := ⟨none, _, _, _, _, _⟩) rfl (fun K hK => ?_) AllReadyH.nil
              · rw [if_pos (by rfl)]
                go_simp
                refine hK.out _ _ hS9 (fun hSn => ?_)
                clear hK K hSn; (try simp only [Act.put, List.setIfInBounds_toArray, List.set_cons_zero, List.set_cons_succ])
                refine wpAnyH_done (by kernel_rfl) ?_ _
                clear z0 zf0 z1 zf1 z2 zf2 z3 zf3 z4 zf4 gz
                go_wp2_with fail
                go_meet
                exact ⟨g9, A5, cap5, rfl, HRN⟩
    · rw [if_pos (by rfl)]
      go_simp
      have h1 := h.alloc HP.out (.cells #[.int .i8 0, .int .i64 0, .string ⟨#[]⟩, .string ⟨#[]⟩, .slice none 0 0] 25)
      have hS1 := hS.alloc hS.size (.cells #[.int .i8 0, .int .i64 0, .string ⟨#[]⟩, .string ⟨#[]⟩, .slice none 0 0] 25)
      obtain ⟨g9, hg⟩ : ∃ g, g = D.heap.size := ⟨_, rfl⟩
      rw [← hg] at h1
      refine hK.out _ _ hS1 (fun hSn => ?_)
      clear hK K hSn; (try simp only [Act.put, List.setIfInBounds_toArray, List.set_cons_zero, List.set_cons_succ])
      rw [← hg]
      clear hg
      generalize D.alloc (.cells #[.int .i8 0, .int .i64 0, .string ⟨#[]⟩, .string ⟨#[]⟩, .slice none 0 0] 25) = X60 at h1 hS1 ⊢
      clear h hS
      have h := h1
      have hS := hS1
      clear h1 hS1
      refine wpAnyH_ready (rs := [0, 9]) (by kernel_rfl) (by simp) ?_
      refine AllReadyH.cons (o := ⟨some 62, _, _, _, _, _⟩) rfl (fun K hK => ?_) (AllReadyH.cons (o := ⟨some 71, _, _, _, _, _⟩) rfl (fun K hK => ?_) AllReadyH.nil)
      · rw [if_pos (by rfl)]
        go_simp
        have h1 := h.fresh HP.out
        have hS1 := hS.alloc hS.size (.cells #[] 25)
        obtain ⟨g0, hg⟩ : ∃ g, g = X60.heap.size := ⟨_, rfl⟩
        rw [← hg] at h1
        refine hK.out _ _ hS1 (fun hSn => ?_)
        clear hK K hSn; (try simp only [Act.put, List.setIfInBounds_toArray, List.set_cons_zero, List.set_cons_succ])
        rw [← hg]
        clear hg
        generalize X60.alloc (.cells #[] 25) = X61 at h1 hS1 ⊢
        clear h hS
        have h := h1
        have hS := hS1
        clear h1 hS1
        refine wpAnyH_ready (rs := [3, 9]) (by kernel_rfl) (by simp) ?_
        refine AllReadyH.cons (o := ⟨some 65, _, _, _, _, _⟩) rfl (fun K hK => ?_) (AllReadyH.cons (o := ⟨some 71, _, _, _, _, _⟩) rfl (fun K hK => ?_) AllReadyH.nil)
        · rw [if_pos (by rfl)]
          have hb0 := h.below
          refine wp_own_termsN (.tmp 62) (.tmp 64) rfl h.own hb0.size (h.apart HP.out) rfl rfl (HTL.out.keep (fun b hb => hb0.block b (HP.out b hb)) (fun _ h => h)) (by have := HLX.out; show 0 + _ ≤ _; omega) ?_
          intro v1 X62 O hg hb
          rw [List.nil_append] at O
          have h1 := h.app O hg hb
          have hS1 : Below w6.heap.size w6 X62 := HDW.out.trans (h1.below.mono (by rw [HDZ.out]; exact Nat.le_refl _))
          refine hK.out _ _ hS1 (fun hSn => ?_)
          clear hK K hSn; (try simp only [Act.put, List.setIfInBounds_toArray, List.set_cons_zero, List.set_cons_succ])
          clear O hg hb hb0
          clear h hS
          have h := h1
          have hS := hS1
          clear h1 hS1
          refine wpAnyH_ready (rs := [9]) (by kernel_rfl) (by simp) ?_
          refine AllReadyH.cons (o := ⟨some 71, _, _, _, _, _⟩) rfl (fun K hK => ?_) AllReadyH.nil
          · rw [if_pos (by rfl)]
            go_simp
            have h1 := h.alloc HP.out (.cells #[.int .i8 mk, .int .i64 mn, .string msn, .string mt, .slice mA ml.length mcap] 25)
            have hS1 := hS.alloc hS.size (.cells #[.int .i8 mk, .int .i64 mn, .string msn, .string mt, .slice mA ml.length mcap] 25)
            obtain ⟨g7, hg⟩ : ∃ g, g = X62.heap.size := ⟨_, rfl⟩
            rw [← hg] at h1
            refine hK.out _ _ hS1 (fun hSn => ?_)
            clear hK K hSn; (try simp only [Act.put, List.setIfInBounds_toArray, List.set_cons_zero, List.set_cons_succ])
            rw [← hg]
            clear hg
            generalize X62.alloc (.cells #[.int .i8 mk, .int .i64 mn, .string msn, .string mt, .slice mA ml.length mcap] 25) = X63 at h1 hS1 ⊢
            clear h hS
            have h := h1
            have hS := hS1
            clear h1 hS1
            refine wpAnyH_ready (rs := [10]) (by kernel_rfl) (by simp) ?_
            refine AllReadyH.cons (o := ⟨some 72, _, _, _, _, _⟩) rfl (fun K hK => ?_) AllReadyH.nil
            · rw [if_pos (by rfl)]
              have hb0 := h.below
              refine wp_own_termN (.tmp 65) (.tmp 71) rfl h.own hb0.size (h.apart HP.out) rfl g7 rfl (h.kept (g7, .cells #[.int .i8 mk, .int .i64 mn, .string msn, .string mt, .slice mA ml.length mcap] 25) (by simp)).2.1 (HTF.out.keep (fun b hb => hb0.block b (HP.out b hb)) (fun _ h => h)) (by have := HLX.out; omega) ?_
              intro v2 X64 O hg hb
              have h1 := h.app O hg (hb.imp Eq.symm id)
              obtain ⟨A5, cap5, rfl⟩ := O.shape
              rw [← HN5.out] at h1
              have hS1 : Below w6.heap.size w6 X64 := HDW.out.trans (h1.below.mono (by rw [HDZ.out]; exact Nat.le_refl _))
              refine hK.out _ _ hS1 (fun hSn => ?_)
              clear hK K hSn; (try simp only [Act.put, List.setIfInBounds_toArray, List.set_cons_zero, List.set_cons_succ])
              rw [← HN5.out]
              clear O hg hb hb0
              clear h hS
              have h := h1
              have hS := hS1
              clear h1 hS1
              refine wpAnyH_take (i := 11) (oi := ⟨some 73, _, _, _, _, _⟩) (v := ?_) rfl (by kernel_rfl) (by kernel_rfl) (by kernel_rfl) (fun _ _ _ h => h) (Or.inl ⟨by kernel_rfl, ?_⟩) (by assumption) ?_; rotate_left; (intro VV hSw; (try dsimp only at hSw); go_simp; first | done | with_reducible rfl); (try simp only [Act.put, List.setIfInBounds_toArray, List.set_cons_zero, List.set_cons_succ])
              obtain ⟨gge, gz, gne⟩ := h.kept (g9, .cells #[.int .i8 0, .int .i64 0, .string ⟨#[]⟩, .string ⟨#[]⟩, .slice none 0 0] 25) (by simp)
              have z0 : X64.cell? ⟨g9, 0, none⟩ = some (.int .i8 0) := cell_of_row (i := 0) gz rfl
              have zf0 : X64.frozen? ⟨g9, 0, none⟩ = false := free_of_row (i := 0) gz
              have z1 : X64.cell? ⟨g9, 1, none⟩ = some (.int .i64 0) := cell_of_row (i := 1) gz rfl
              have zf1 : X64.frozen? ⟨g9, 1, none⟩ = false := free_of_row (i := 1) gz
              have z2 : X64.cell? ⟨g9, 2, none⟩ = some (.string ⟨#[]⟩) := cell_of_row (i := 2) gz rfl
              have zf2 : X64.frozen? ⟨g9, 2, none⟩ = false := free_of_row (i := 2) gz
              have z3 : X64.cell? ⟨g9, 3, none⟩ = some (.string ⟨#[]⟩) := cell_of_row (i := 3) gz rfl
              have zf3 : X64.frozen? ⟨g9, 3, none⟩ = false := free_of_row (i := 3) gz
              have z4 : X64.cell? ⟨g9, 4, none⟩ = some (.slice none 0 0) := cell_of_row (i := 4) gz rfl
              have zf4 : X64.frozen? ⟨g9, 4, none⟩ = false := free_of_row (i := 4) gz
              have HRN := Lib.hid (rnew_of (g9 := g9) h HPD.out hS HDZ.out (by simp) HN5.out)
              obtain ⟨s5, m5⟩ := set_five7 (.int .i8 0) (.int .i64 0) (.string ⟨#[]⟩) (.string ⟨#[]⟩) (.slice A5 n5 cap5) gz
              have hS9 := hS.trans (m5.below hS.size (fun k e => by have := HDZ.out; have h9 : D.heap.size ≤ g9 := gge; omega))
              clear s5 m5
              refine wpAnyH_ready (rs := [13]) (by kernel_rfl) (by simp) ?_
              refine AllReadyH.cons (o := ⟨none, _, _, _, _, _⟩) rfl (fun K hK => ?_) AllReadyH.nil
              · rw [if_pos (by rfl)]
                go_simp
                refine hK.out _ _ hS9 (fun hSn => ?_)
                clear hK K hSn; (try simp only [Act.put, List.setIfInBounds_toArray, List.set_cons_zero, List.set_cons_succ])
                refine wpAnyH_done (by kernel_rfl) ?_ _
                clear z0 zf0 z1 zf1 z2 zf2 z3 zf3 z4 zf4 gz
                go_wp2_with fail
                go_meet
                exact ⟨g9, A5, cap5, rfl, HRN⟩
        · rw [if_pos (by rfl)]
          go_simp
          have h1 := h.alloc HP.out (.cells #[.int .i8 mk, .int .i64 mn, .string msn, .string mt, .slice mA ml.length mcap] 25)
          have hS1 := hS.alloc hS.size (.cells #[.int .i8 mk, .int .i64 mn, .string msn, .string mt, .slice mA ml.length mcap] 25)
          obtain ⟨g7, hg⟩ : ∃ g, g = X61.heap.size := ⟨_, rfl⟩
          rw [← hg] at h1
          refine hK.out _ _ hS1 (fun hSn => ?_)
          clear hK K hSn; (try simp only [Act.put, List.setIfInBounds_toArray, List.set_cons_zero, List.set_cons_succ])
          rw [← hg]
          clear hg
          generalize X61.alloc (.cells #[.int .i8 mk, .int .i64 mn, .string msn, .string mt, .slice mA ml.length mcap] 25) = X65 at h1 hS1 ⊢
          clear h hS
          have h := h1
          have hS := hS1
          clear h1 hS1
          refine wpAnyH_ready (rs := [3]) (by kernel_rfl) (by simp) ?_
          refine AllReadyH.cons (o := ⟨some 65, _, _, _, _, _⟩) rfl (fun K hK => ?_) AllReadyH.nil
          · rw [if_pos (by rfl)]
            have hb0 := h.below
            refine wp_own_termsN (.tmp 62) (.tmp 64) rfl h.own hb0.size (h.apart HP.out) rfl rfl (HTL.out.keep (fun b hb => hb0.block b (HP.out b hb)) (fun _ h => h)) (by have := HLX.out; show 0 + _ ≤ _; omega) ?_
            intro v1 X66 O hg hb
            rw [List.nil_append] at O
            have h1 := h.app O hg hb
            have hS1 : Below w6.heap.size w6 X66 := HDW.out.trans (h1.below.mono (by rw [HDZ.out]; exact Nat.le_refl _))
            refine hK.out _ _ hS1 (fun hSn => ?_)
            clear hK K hSn; (try simp only [Act.put, List.setIfInBounds_toArray, List.set_cons_zero, List.set_cons_succ])
            clear O hg hb hb0
            clear h hS
            have h := h1
            have hS := hS1
            clear h1 hS1
            refine wpAnyH_ready (rs := [10]) (by kernel_rfl) (by simp) ?_
            refine AllReadyH.cons (o := ⟨some 72, _, _, _, _, _⟩) rfl (fun K hK => ?_) AllReadyH.nil
            · rw [if_pos (by rfl)]
              have hb0 := h.below
              refine wp_own_termN (.tmp 65) (.tmp 71) rfl h.own hb0.size (h.apart HP.out) rfl g7 rfl (h.kept (g7, .cells #[.int .i8 mk, .int .i64 mn, .string msn, .string mt, .slice mA ml.length mcap] 25) (by simp)).2.1 (HTF.out.keep (fun b hb => hb0.block b (HP.out b hb)) (fun _ h => h)) (by have := HLX.out; omega) ?_
              intro v2 X67 O hg hb
              have h1 := h.app O hg (hb.imp Eq.symm id)
              obtain ⟨A5, cap5, rfl⟩ := O.shape
              rw [← HN5.out] at h1
              have hS1 : Below w6.heap.size w6 X67 := HDW.out.trans (h1.below.mono (by rw [HDZ.out]; exact Nat.le_refl _))
              refine hK.out _ _ hS1 (fun hSn => ?_)
              clear hK K hSn; (try simp only [Act.put, List.setIfInBounds_toArray, List.set_cons_zero, List.set_cons_succ])
              rw [← HN5.out]
              clear O hg hb hb0
              clear h hS
              have h := h1
              have hS := hS1
              clear h1 hS1
              refine wpAnyH_take (i := 11) (oi := ⟨some 73, _, _, _, _, _⟩) (v := ?_) rfl (by kernel_rfl) (by kernel_rfl) (by kernel_rfl) (fun _ _ _ h => h) (Or.inl ⟨by kernel_rfl, ?_⟩) (by assumption) ?_; rotate_left; (intro VV hSw; (try dsimp only at hSw); go_simp; first | done | with_reducible rfl); (try simp only [Act.put, List.setIfInBounds_toArray, List.set_cons_zero, List.set_cons_succ])
              obtain ⟨gge, gz, gne⟩ := h.kept (g9, .cells #[.int .i8 0, .int .i64 0, .string ⟨#[]⟩, .string ⟨#[]⟩, .slice none 0 0] 25) (by simp)
              have z0 : X67.cell? ⟨g9, 0, none⟩ = some (.int .i8 0) := cell_of_row (i := 0) gz rfl
              have zf0 : X67.frozen? ⟨g9, 0, none⟩ = false := free_of_row (i := 0) gz
              have z1 : X67.cell? ⟨g9, 1, none⟩ = some (.int .i64 0) := cell_of_row (i := 1) gz rfl
              have zf1 : X67.frozen? ⟨g9, 1, none⟩ = false := free_of_row (i := 1) gz
              have z2 : X67.cell? ⟨g9, 2, none⟩ = some (.string ⟨#[]⟩) := cell_of_row (i := 2) gz rfl
              have zf2 : X67.frozen? ⟨g9, 2, none⟩ = false := free_of_row (i := 2) gz
              have z3 : X67.cell? ⟨g9, 3, none⟩ = some (.string ⟨#[]⟩) := cell_of_row (i := 3) gz rfl
              have zf3 : X67.frozen? ⟨g9, 3, none⟩ = false := free_of_row (i := 3) gz
              have z4 : X67.cell? ⟨g9, 4, none⟩ = some (.slice none 0 0) := cell_of_row (i := 4) gz rfl
              have zf4 : X67.frozen? ⟨g9, 4, none⟩ = false := free_of_row (i := 4) gz
              have HRN := Lib.hid (rnew_of (g9 := g9) h HPD.out hS HDZ.out (by simp) HN5.out)
              obtain ⟨s5, m5⟩ := set_five7 (.int .i8 0) (.int .i64 0) (.string ⟨#[]⟩) (.string ⟨#[]⟩) (.slice A5 n5 cap5) gz
              have hS9 := hS.trans (m5.below hS.size (fun k e => by have := HDZ.out; have h9 : D.heap.size ≤ g9 := gge; omega))
              clear s5 m5
              refine wpAnyH_ready (rs := [13]) (by kernel_rfl) (by simp) ?_
              refine AllReadyH.cons (o := ⟨none, _, _, _, _, _⟩) rfl (fun K hK => ?_) AllReadyH.nil
              · rw [if_pos (by rfl)]
                go_simp
                refine hK.out _ _ hS9 (fun hSn => ?_)
                clear hK K hSn; (try simp only [Act.put, List.setIfInBounds_toArray, List.set_cons_zero, List.set_cons_succ])
                refine wpAnyH_done (by kernel_rfl) ?_ _
                clear z0 zf0 z1 zf1 z2 zf2 z3 zf3 z4 zf4 gz
                go_wp2_with fail
                go_meet
                exact ⟨g9, A5, cap5, rfl, HRN⟩
      · rw [if_pos (by rfl)]
        go_simp
        have h1 := h.alloc HP.out (.cells #[.int .i8 mk, .int .i64 mn, .string msn, .string mt, .slice mA ml.length mcap] 25)
        have hS1 := hS.alloc hS.size (.cells #[.int .i8 mk, .int .i64 mn, .string msn, .string mt, .slice mA ml.length mcap] 25)
        obtain ⟨g7, hg⟩ : ∃ g, g = X60.heap.size := ⟨_, rfl⟩
        rw [← hg] at h1
        refine hK.out _ _ hS1 (fun hSn => ?_)
        clear hK K hSn; (try simp only [Act.put, List.setIfInBounds_toArray, List.set_cons_zero, List.set_cons_succ])
        rw [← hg]
        clear hg
        generalize X60.alloc (.cells #[.int .i8 mk, .int .i64 mn, .string msn, .string mt, .slice mA ml.length mcap] 25) = X68 at h1 hS1 ⊢
        clear h hS
        have h := h1
        have hS := hS1
        clear h1 hS1
        refine wpAnyH_ready (rs := [0]) (by kernel_rfl) (by simp) ?_
        refine AllReadyH.cons (o := ⟨some 62, _, _, _, _, _⟩) rfl (fun K hK => ?_) AllReadyH.nil
        · rw [if_pos (by rfl)]
          go_simp
          have h1 := h.fresh HP.out
          have hS1 := hS.alloc hS.size (.cells #[] 25)
          obtain ⟨g0, hg⟩ : ∃ g, g = X68.heap.size := ⟨_, rfl⟩
          rw [← hg] at h1
          refine hK.out _ _ hS1 (fun hSn => ?_)
          clear hK K hSn; (try simp only [Act.put, List.setIfInBounds_toArray, List.set_cons_zero, List.set_cons_succ])
          rw [← hg]
          clear hg
          generalize X68.alloc (.cells #[] 25) = X69 at h1 hS1 ⊢
          clear h hS
          have h := h1
          have hS := hS1
          clear h1 hS1
          refine wpAnyH_ready (rs := [3]) (by kernel_rfl) (by simp) ?_
          refine AllReadyH.cons (o := ⟨some 65, _, _, _, _, _⟩) rfl (fun K hK => ?_) AllReadyH.nil
          · rw [if_pos (by rfl)]
            have hb0 := h.below
            refine wp_own_termsN (.tmp 62) (.tmp 64) rfl h.own hb0.size (h.apart HP.out) rfl rfl (HTL.out.keep (fun b hb => hb0.block b (HP.out b hb)) (fun _ h => h)) (by have := HLX.out; show 0 + _ ≤ _; omega) ?_
            intro v1 X70 O hg hb
            rw [List.nil_append] at O
            have h1 := h.app O hg hb
            have hS1 : Below w6.heap.size w6 X70 := HDW.out.trans (h1.below.mono (by rw [HDZ.out]; exact Nat.le_refl _))
            refine hK.out _ _ hS1 (fun hSn => ?_)
            clear hK K hSn; (try simp only [Act.put, List.setIfInBounds_toArray, List.set_cons_zero, List.set_cons_succ])
            clear O hg hb hb0
            clear h hS
            have h := h1
            have hS := hS1
            clear h1 hS1
            refine wpAnyH_ready (rs := [10]) (by kernel_rfl) (by simp) ?_
            refine AllReadyH.cons (o := ⟨some 72, _, _, _, _, _⟩) rfl (fun K hK => ?_) AllReadyH.nil
            · rw [if_pos (by rfl)]
              have hb0 := h.below
              refine wp_own_termN (.tmp 65) (.tmp 71) rfl h.own hb0.size (h.apart HP.out) rfl g7 rfl (h.kept (g7, .cells #[.int .i8 mk, .int .i64 mn, .string msn, .string mt, .slice mA ml.length mcap] 25) (by simp)).2.1 (HTF.out.keep (fun b hb => hb0.block b (HP.out b hb)) (fun _ h => h)) (by have := HLX.out; omega) ?_
              intro v2 X71 O hg hb
              have h1 := h.app O hg (hb.imp Eq.symm id)
              obtain ⟨A5, cap5, rfl⟩ := O.shape
              rw [← HN5.out] at h1
              have hS1 : Below w6.heap.size w6 X71 := HDW.out.trans (h1.below.mono (by rw [HDZ.out]; exact Nat.le_refl _))
              refine hK.out _ _ hS1 (fun hSn => ?_)
              clear hK K hSn; (try simp only [Act.put, List.setIfInBounds_toArray, List.set_cons_zero, List.set_cons_succ])
              rw [← HN5.out]
              clear O hg hb hb0
              clear h hS
              have h := h1
              have hS := hS1
              clear h1 hS1
              refine wpAnyH_take (i := 11) (oi := ⟨some 73, _, _, _, _, _⟩) (v := ?_) rfl (by kernel_rfl) (by kernel_rfl) (by kernel_rfl) (fun _ _ _ h => h) (Or.inl ⟨by kernel_rfl, ?_⟩) (by assumption) ?_; rotate_left; (intro VV hSw; (try dsimp only at hSw); go_simp; first | done | with_reducible rfl); (try simp only [Act.put, List.setIfInBounds_toArray, List.set_cons_zero, List.set_cons_succ])
              obtain ⟨gge, gz, gne⟩ := h.kept (g9, .cells #[.int .i8 0, .int .i64 0, .string ⟨#[]⟩, .string ⟨#[]⟩, .slice none 0 0] 25) (by simp)
              have z0 : X71.cell? ⟨g9, 0, none⟩ = some (.int .i8 0) := cell_of_row (i := 0) gz rfl
              have zf0 : X71.frozen? ⟨g9, 0, none⟩ = false := free_of_row (i := 0) gz
              have z1 : X71.cell? ⟨g9, 1, none⟩ = some (.int .i64 0) := cell_of_row (i := 1) gz rfl
              have zf1 : X71.frozen? ⟨g9, 1, none⟩ = false := free_of_row (i := 1) gz
              have z2 : X71.cell? ⟨g9, 2, none⟩ = some (.string ⟨#[]⟩) := cell_of_row (i := 2) gz rfl
              have zf2 : X71.frozen? ⟨g9, 2, none⟩ = false := free_of_row (i := 2) gz
              have z3 : X71.cell? ⟨g9, 3, none⟩ = some (.string ⟨#[]⟩) := cell_of_row (i := 3) gz rfl
              have zf3 : X71.frozen? ⟨g9, 3, none⟩ = false := free_of_row (i := 3) gz
              have z4 : X71.cell? ⟨g9, 4, none⟩ = some (.slice none 0 0) := cell_of_row (i := 4) gz rfl
              have zf4 : X71.frozen? ⟨g9, 4, none⟩ = false := free_of_row (i := 4) gz
              have HRN := Lib.hid (rnew_of (g9 := g9) h HPD.out hS HDZ.out (by simp) HN5.out)
              obtain ⟨s5, m5⟩ := set_five7 (.int .i8 0) (.int .i64 0) (.string ⟨#[]⟩) (.string ⟨#[]⟩) (.slice A5 n5 cap5) gz
              have hS9 := hS.trans (m5.below hS.size (fun k e => by have := HDZ.out; have h9 : D.heap.size ≤ g9 := gge; omega))
              clear s5 m5
              refine wpAnyH_ready (rs := [13]) (by kernel_rfl) (by simp) ?_
              refine AllReadyH.cons (o := ⟨none, _, _, _, _, _⟩) rfl (fun K hK => ?_) AllReadyH.nil
              · rw [if_pos (by rfl)]
                go_simp
                refine hK.out _ _ hS9 (fun hSn => ?_)
                clear hK K hSn; (try simp only [Act.put, List.setIfInBounds_toArray, List.set_cons_zero, List.set_cons_succ])
                refine wpAnyH_done (by kernel_rfl) ?_ _
                clear z0 zf0 z1 zf1 z2 zf2 z3 zf3 z4 zf4 gz
                go_wp2_with fail
                go_meet
                exact ⟨g9, A5, cap5, rfl, HRN⟩
  case rest =>
  obtain ⟨g9, A5, cap5, rfl, hcut⟩ := hcut
  obtain ⟨w7, hw7⟩ : ∃ w7, w7 = wc := ⟨_, rfl⟩
  subst hw7
  have H7 := Lib.hid (H6.out.under hcut.out.below)
  have HO := Lib.hid hcut.out
  have hnb : X.nodes + M.nodes ≤ 4096 := by have h1 := HBIG.out; have h2 := HN0.out; have h3 := HN1.out; omega
  have hmore := twice_mod (x := X) (m := M) (k := kn) (by rw [HXL.out]; exact HM0.out) HF.out HMD.out hnb
  rw [HXL.out] at hmore
  have hxn : X.nodes = (Tm.pres l).length + 1 := by
    obtain ⟨xk, xn, xs', xt, xl⟩ := X
    have h6 : xl = l := HXL.out
    rw [nodes_mk9, h6]
  have hno : (Tm.mk 0 0 ⟨#[]⟩ ⟨#[]⟩ (l ++ [M])).nodes ≤ 8200 := by
    rw [nodes_mk9, pres_app9, List.length_append, nodes_pres_cons]
    simp [Tm.pres]
    omega
  obtain ⟨OT, hOT⟩ : ∃ OT, OT = Tm.mk 0 0 ⟨#[]⟩ ⟨#[]⟩ (l ++ [M]) := ⟨_, rfl⟩
  rw [← hOT] at hmore hno
  have HOT : Hid (TmAt (· < w7.heap.size) w7 OT (.agg #[.int .i8 0, .int .i64 0, .string ⟨#[]⟩, .string ⟨#[]⟩, .slice A5 n5 cap5])) := by rw [hOT]; exact hcut.out.tree
  have HTW := Lib.hid hmore
  have HNO := Lib.hid hno
  have HNB := Lib.hid hnb
  have HXN := Lib.hid hxn
  clear hcut hmore hno hOT hnb hxn
  have z0 : w7.cell? ⟨g9, 0, none⟩ = some (.int .i8 0) := cell_of_row (i := 0) HO.out.box rfl
  have z1 : w7.cell? ⟨g9, 1, none⟩ = some (.int .i64 0) := cell_of_row (i := 1) HO.out.box rfl
  have z2 : w7.cell? ⟨g9, 2, none⟩ = some (.string ⟨#[]⟩) := cell_of_row (i := 2) HO.out.box rfl
  have z3 : w7.cell? ⟨g9, 3, none⟩ = some (.string ⟨#[]⟩) := cell_of_row (i := 3) HO.out.box rfl
  have z4 : w7.cell? ⟨g9, 4, none⟩ = some (.slice A5 n5 cap5) := cell_of_row (i := 4) HO.out.box rfl
  go_wp2_with fail
  refine (check9_any OT _ w7 HOT.out HNO.out (HE.out.env.under H7.out.below) (HE.out.under H7.out.below).err).mono ?_
  rintro e w8 ⟨rfl, b8⟩
  have H8 := Lib.hid (H7.out.under b8)
  clear b8 z0 z1 z2 z3 z4
  rw [HTW.out]
  obtain ⟨pl, hpl⟩ : ∃ pl, pl = (chk9 OT).2 := ⟨_, rfl⟩
  rw [← hpl]
  clear hpl
  have x0 : w8.cell? ⟨w.heap.size, 0, none⟩ = some (.int .i8 k) := cell_of_row (i := 0) H8.out.box rfl
  have x1 : w8.cell? ⟨w.heap.size, 1, none⟩ = some (.int .i64 n) := cell_of_row (i := 1) H8.out.box rfl
  have x2 : w8.cell? ⟨w.heap.size, 2, none⟩ = some (.string s) := cell_of_row (i := 2) H8.out.box rfl
  have x3 : w8.cell? ⟨w.heap.size, 3, none⟩ = some (.string t) := cell_of_row (i := 3) H8.out.box rfl
  have x4 : w8.cell? ⟨w.heap.size, 4, none⟩ = some (.slice (some ⟨g, off, oo⟩) l.length cap) := cell_of_row (i := 4) H8.out.box rfl
  obtain ⟨e0, e1, e2, e3, e4⟩ := HEL.out w8 H8.out.below
  by_cases hz0 : (ml.length : Int) = 0
  · skip
    go_wp2_with fail
    refine (wakes9_any _ (HE.out.under H8.out.below)).mono ?_
    rintro e V ⟨rfl, hb⟩
    have HBW := Lib.hid (H8.out.below.trans (hb.mono H8.out.below.size))
    clear hb
    go_wp2_with fail
    go_ret
    exact ⟨rfl, HBW.out⟩
  have hz2 : ¬ ml.length = 0 := by omega
  have hz3 : ((ml.length : Int) == 0) = false := by simpa using hz0
  have hz4 : ¬ ml = [] := fun e => by rw [e] at hz2; exact hz2 rfl
  obtain ⟨F, fr, hlm⟩ : ∃ F fr, ml = F :: fr := by
    cases ml with
    | nil => exact absurd rfl hz4
    | cons a b => exact ⟨a, b, rfl⟩
  have HLM := Lib.hid hlm
  have hf0 : ml[0]? = some F := by rw [hlm]; rfl
  obtain ⟨fad, fu, hfA, hfad, hfE, hfT⟩ := HRM.out.at_ 0 F hf0
  obtain ⟨fg, foff, foo⟩ := fad
  subst hfA
  obtain ⟨fk, fn, fsn, ft, fl, hFe⟩ : ∃ fk fn fsn ft fl, F = Tm.mk fk fn fsn ft fl := by cases F; exact ⟨_, _, _, _, _, rfl⟩
  have hFp := hfT
  rw [hFe] at hFp
  obtain ⟨fA, fcap, rfl, -, -⟩ := hFp.parts
  have HFT := Lib.hid hfT
  have HFL : Hid (∀ V, Below w.heap.size w V → V.cell? ⟨fg, foff, foo⟩ = some (.int .i8 fk) ∧ V.cell? ⟨fg, foff + 1, none⟩ = some (.int .i64 fn) ∧ V.cell? ⟨fg, foff + 2, none⟩ = some (.string fsn) ∧ V.cell? ⟨fg, foff + 3, none⟩ = some (.string ft) ∧ V.cell? ⟨fg, foff + 4, none⟩ = some (.slice fA fl.length fcap)) := fun V hb => by
    obtain ⟨d0, d1, d2, d3, d4, he, e0, e1, e2, e3, e4⟩ := hfE.keep (hb.block _ hfad)
    simp only [Value.agg.injEq, Array.mk.injEq, List.cons.injEq, and_true] at he
    obtain ⟨rfl, rfl, rfl, rfl, rfl⟩ := he
    rw [show (⟨fg, foff, foo⟩ : Addr).add (0 * 5) = ⟨fg, foff, foo⟩ from rfl] at e0 e1 e2 e3 e4
    exact ⟨e0, e1, e2, e3, e4⟩
  have HZP : Hid (0 < ml.length) := by show 0 < ml.length; omega
  clear hlm hf0 hfad hfE hfT hFe hFp hz4 hz2
  go_wp2_with fail
  obtain ⟨w9, hw9⟩ : ∃ w9, w9 = w8.alloc (.cells #[.int .i8 mk, .int .i64 mn, .string msn, .string mt, .slice (some ⟨fg, foff, foo⟩) ml.length mcap] 25) := ⟨_, rfl⟩
  obtain ⟨hg9, hb9⟩ := alloc9_at w8 _ w9 hw9
  have H9 := Lib.hid (H8.out.under hb9)
  have HB9 := Lib.hid hb9
  have HG9 := Lib.hid hg9
  have HZ9 : Hid (w9.heap.size = w8.heap.size + 1) := by rw [hw9]; exact World.size_alloc _ _
  rw [← hw9]
  clear hw9 hg9 hb9 x0 x1 x2 x3 x4 e0 e1 e2 e3 e4
  have HLL : Hid (ml.length < 8200) := by
    show ml.length < 8200
    have h1 := Tm.nodes_mem (l := l) (x := M) (List.mem_of_getElem? HM0.out)
    have h2 := HXN.out
    have h3 := len_pres9 ml
    have h4 := HNB.out
    rw [HM.out, nodes_mk9] at h1
    omega
  obtain ⟨n7, hn7⟩ : ∃ n7, n7 = (ml ++ [F]).length := ⟨_, rfl⟩
  have HN7 := Lib.hid hn7
  clear hn7
  go_cut [] (fun wx => ∃ A7 cap7, Hid (R15 w8 mk mn msn mt ml F A7 n7 cap7 wx))
  case first =>
    refine wp_region_E (S := fun V => Below w9.heap.size w9 V) [11] (by kernel_rfl) ⟨rfl, rfl, rfl, Nat.le_refl _, fun _ _ => rfl⟩ (fun hS => ?_)
    have hDz : w9.drew.heap.size = w9.heap.size := rfl
    generalize w9.drew = D at hS hDz ⊢
    have HDW := Lib.hid hS
    have HDZ := Lib.hid hDz
    clear hDz
    obtain ⟨P, hPd⟩ : ∃ P : Nat → Prop, P = (· < w8.heap.size) := ⟨_, rfl⟩
    have HPD := Lib.hid hPd
    have HP : Hid (∀ b, P b → b < D.heap.size) := fun b hb => by rw [hPd] at hb; have h1 := HDZ.out; have h2 := HZ9.out; have h3 : b < w8.heap.size := hb; omega
    have HTL : Hid (TRow P D (some ⟨fg, foff, foo⟩) ml.length mcap ml) := by
      rw [hPd]
      have hb := (H9.out.under hS).below
      exact (HRM.out.keep (fun b hb' => hb.block b hb') (fun b hb' => Nat.lt_of_lt_of_le hb' H8.out.below.size))
    have HTF : Hid (TmAt P D F (.agg #[.int .i8 fk, .int .i64 fn, .string fsn, .string ft, .slice fA fl.length fcap])) := by
      rw [hPd]
      have hb := (H9.out.under hS).below
      exact (HFT.out.keep (fun b hb' => hb.block b hb') (fun b hb' => Nat.lt_of_lt_of_le hb' H8.out.below.size))
    have h : StN D D P [] (.slice none 0 0) [] := StN.start _ _
    clear hPd
    refine wpAnyE_take (i := 1) (oi := ⟨some 96, _, _, _, _, _⟩) (v := ?_) rfl (by kernel_rfl) (by kernel_rfl) (by kernel_rfl) (by kernel_rfl) (fun _ _ _ h => h) (Or.inl ⟨by kernel_rfl, ?_⟩) (by assumption) ?_; rotate_left; (intro VV hSw; (try dsimp only at hSw); go_simp; first | done | with_reducible rfl); (try simp only [Act.put, List.setIfInBounds_toArray, List.set_cons_zero, List.set_cons_succ])
    refine wpAnyE_take (i := 2) (oi := ⟨some 97, _, _, _, _, _⟩) (v := ?_) rfl (by kernel_rfl) (by kernel_rfl) (by kernel_rfl) (by kernel_rfl) (fun _ _ _ h => h) (Or.inl ⟨by kernel_rfl, ?_⟩) (by assumption) ?_; rotate_left; (intro VV hSw; (try dsimp only at hSw); have hm := (hSw.block _ (heap_lt HG9.out)).trans HG9.out; have y4 : VV.cell? ⟨w8.heap.size, 4, none⟩ = some (.slice (some ⟨fg, foff, foo⟩) ml.length mcap) := cell_of_row (i := 4) hm rfl; go_simp; first | done | with_reducible rfl); (try simp only [Act.put, List.setIfInBounds_toArray, List.set_cons_zero, List.set_cons_succ])
    refine wpAnyE_take (i := 4) (oi := ⟨some 99, _, _, _, _, _⟩) (v := ?_) rfl (by kernel_rfl) (by kernel_rfl) (by kernel_rfl) (by kernel_rfl) (fun _ _ _ h => h) (Or.inl ⟨by kernel_rfl, ?_⟩) (by assumption) ?_; rotate_left; (intro VV hSw; (try dsimp only at hSw); go_simp; first | done | with_reducible rfl); (try simp only [Act.put, List.setIfInBounds_toArray, List.set_cons_zero, List.set_cons_succ])
    refine wpAnyE_take (i := 5) (oi := ⟨some 100, _, _, _, _, _⟩) (v := ?_) rfl (by kernel_rfl) (by kernel_rfl) (by kernel_rfl) (by kernel_rfl) (fun _ _ _ h => h) (Or.inl ⟨by kernel_rfl, ?_⟩) (by assumption) ?_; rotate_left; (intro VV hSw; (try dsimp only at hSw); have hm := (hSw.block _ (heap_lt HG9.out)).trans HG9.out; have y4 : VV.cell? ⟨w8.heap.size, 4, none⟩ = some (.slice (some ⟨fg, foff, foo⟩) ml.length mcap) := cell_of_row (i := 4) hm rfl; go_simp; first | done | with_reducible rfl); (try simp only [Act.put, List.setIfInBounds_toArray, List.set_cons_zero, List.set_cons_succ])
    refine wpAnyE_take (i := 6) (oi := ⟨some 101, _, _, _, _, _⟩) (v := ?_) rfl (by kernel_rfl) (by kernel_rfl) (by kernel_rfl) (by kernel_rfl) (fun _ _ _ h => h) (Or.inl ⟨by kernel_rfl, ?_⟩) (by assumption) ?_; rotate_left; (intro VV hSw; (try dsimp only at hSw); have i0 : 0 < ml.length := HZP.out; have i9 : (0 : Int) < (ml.length : Int) := (by omega); go_simp; first | done | with_reducible rfl); (try simp only [Act.put, List.setIfInBounds_toArray, List.set_cons_zero, List.set_cons_succ])
    refine wpAnyE_take (i := 7) (oi := ⟨some 102, _, _, _, _, _⟩) (v := ?_) rfl (by kernel_rfl) (by kernel_rfl) (by kernel_rfl) (by kernel_rfl) (fun _ _ _ h => h) (Or.inl ⟨by kernel_rfl, ?_⟩) (by assumption) ?_; rotate_left; (intro VV hSw; (try dsimp only at hSw); have hbx := (H9.out.under hSw).below; obtain ⟨f0, f1, f2, f3, f4⟩ := HFL.out VV hbx; go_simp; first | done | with_reducible rfl); (try simp only [Act.put, List.setIfInBounds_toArray, List.set_cons_zero, List.set_cons_succ])
    refine wpAnyE_two (i := 0) (j := 8) (o := ⟨some 95, _, _, _, _, _⟩) (o' := ⟨some 103, _, _, _, _, _⟩) (by kernel_rfl) rfl rfl (fun K hK => ?_) (fun K hK => ?_)
    · rw [if_pos (by rfl)]
      go_simp
      have h1 := h.fresh HP.out
      have hS1 := hS.alloc hS.size (.cells #[] 25)
      obtain ⟨g0, hg⟩ : ∃ g, g = D.heap.size := ⟨_, rfl⟩
      rw [← hg] at h1
      refine hK.out _ _ hS1 (fun hSn => ?_)
      clear hK K hSn; (try simp only [Act.put, List.setIfInBounds_toArray, List.set_cons_zero, List.set_cons_succ])
      rw [← hg]
      clear hg
      generalize D.alloc (.cells #[] 25) = X72 at h1 hS1 ⊢
      clear h hS
      have h := h1
      have hS := hS1
      clear h1 hS1
      refine wpAnyE_two (i := 3) (j := 8) (o := ⟨some 98, _, _, _, _, _⟩) (o' := ⟨some 103, _, _, _, _, _⟩) (by kernel_rfl) rfl rfl (fun K hK => ?_) (fun K hK => ?_)
      · rw [if_pos (by rfl)]
        have hb0 := h.below
        refine wp_own_termsN (.tmp 95) (.tmp 97) rfl h.own hb0.size (h.apart HP.out) rfl rfl (HTL.out.keep (fun b hb => hb0.block b (HP.out b hb)) (fun _ h => h)) (by have := HLL.out; show 0 + _ ≤ _; omega) ?_
        intro v1 X73 O hg hb
        rw [List.nil_append] at O
        have h1 := h.app O hg hb
        have hS1 : Below w9.heap.size w9 X73 := HDW.out.trans (h1.below.mono (by rw [HDZ.out]; exact Nat.le_refl _))
        refine hK.out _ _ hS1 (fun hSn => ?_)
        clear hK K hSn; (try simp only [Act.put, List.setIfInBounds_toArray, List.set_cons_zero, List.set_cons_succ])
        clear O hg hb hb0
        clear h hS
        have h := h1
        have hS := hS1
        clear h1 hS1
        refine wpAnyE_one (i := 8) (o := ⟨some 103, _, _, _, _, _⟩) (by kernel_rfl) rfl (fun K hK => ?_)
        rw [if_pos (by rfl)]
        go_simp
        have h1 := h.alloc HP.out (.cells #[.int .i8 fk, .int .i64 fn, .string fsn, .string ft, .slice fA fl.length fcap] 25)
        have hS1 := hS.alloc hS.size (.cells #[.int .i8 fk, .int .i64 fn, .string fsn, .string ft, .slice fA fl.length fcap] 25)
        obtain ⟨g5, hg⟩ : ∃ g, g = X73.heap.size := ⟨_, rfl⟩
        rw [← hg] at h1
        refine hK.out _ _ hS1 (fun hSn => ?_)
        clear hK K hSn; (try simp only [Act.put, List.setIfInBounds_toArray, List.set_cons_zero, List.set_cons_succ])
        rw [← hg]
        clear hg
        generalize X73.alloc (.cells #[.int .i8 fk, .int .i64 fn, .string fsn, .string ft, .slice fA fl.length fcap] 25) = X74 at h1 hS1 ⊢
        clear h hS
        have h := h1
        have hS := hS1
        clear h1 hS1
        refine wpAnyE_one (i := 9) (o := ⟨some 104, _, _, _, _, _⟩) (by kernel_rfl) rfl (fun K hK => ?_)
        rw [if_pos (by rfl)]
        have hb0 := h.below
        refine wp_own_termN (.tmp 98) (.tmp 103) rfl h.own hb0.size (h.apart HP.out) rfl g5 rfl (h.kept (g5, .cells #[.int .i8 fk, .int .i64 fn, .string fsn, .string ft, .slice fA fl.length fcap] 25) (by simp)).2.1 (HTF.out.keep (fun b hb => hb0.block b (HP.out b hb)) (fun _ h => h)) (by have := HLL.out; omega) ?_
        intro v2 X75 O hg hb
        have h1 := h.app O hg (hb.imp Eq.symm id)
        obtain ⟨A7, cap7, rfl⟩ := O.shape
        rw [← HN7.out] at h1
        have hS1 : Below w9.heap.size w9 X75 := HDW.out.trans (h1.below.mono (by rw [HDZ.out]; exact Nat.le_refl _))
        refine hK.out _ _ hS1 (fun hSn => ?_)
        clear hK K hSn; (try simp only [Act.put, List.setIfInBounds_toArray, List.set_cons_zero, List.set_cons_succ])
        rw [← HN7.out]
        clear O hg hb hb0
        clear h hS
        have h := h1
        have hS := hS1
        clear h1 hS1
        refine wpAnyE_take (i := 10) (oi := ⟨some 105, _, _, _, _, _⟩) (v := ?_) rfl (by kernel_rfl) (by kernel_rfl) (by kernel_rfl) (by kernel_rfl) (fun _ _ _ h => h) (Or.inl ⟨by kernel_rfl, ?_⟩) (by assumption) ?_; rotate_left; (intro VV hSw; (try dsimp only at hSw); go_simp; first | done | with_reducible rfl); (try simp only [Act.put, List.setIfInBounds_toArray, List.set_cons_zero, List.set_cons_succ])
        have hg10 := (hS.block _ (heap_lt HG9.out)).trans HG9.out
        have y4 : X75.cell? ⟨w8.heap.size, 4, none⟩ = some (.slice (some ⟨fg, foff, foo⟩) ml.length mcap) := cell_of_row (i := 4) hg10 rfl
        have yf : X75.frozen? ⟨w8.heap.size, 4, none⟩ = false := free_of_row (i := 4) hg10
        have HR15 := Lib.hid (r15_of h HPD.out HB9.out HZ9.out hS HG9.out HTM.out HM.out HN7.out H8.out.below HDZ.out)
        clear hg10
        refine wpAnyE_late (i := 11) (o := ⟨none, _, _, _, _, _⟩) (by kernel_rfl) rfl (by kernel_rfl) (fun K hK => ?_)
        rw [if_pos (by rfl)]
        go_simp
        refine hK.out _ _ ?_
        clear hK K; (try simp only [Act.put, List.setIfInBounds_toArray, List.set_cons_zero, List.set_cons_succ])
        refine wpAny_done (by kernel_rfl) ?_ _
        clear y4 yf
        go_wp2_with fail
        go_meet
        exact ⟨_, _, HR15⟩
      · rw [if_pos (by rfl)]
        go_simp
        have h1 := h.alloc HP.out (.cells #[.int .i8 fk, .int .i64 fn, .string fsn, .string ft, .slice fA fl.length fcap] 25)
        have hS1 := hS.alloc hS.size (.cells #[.int .i8 fk, .int .i64 fn, .string fsn, .string ft, .slice fA fl.length fcap] 25)
        obtain ⟨g5, hg⟩ : ∃ g, g = X72.heap.size := ⟨_, rfl⟩
        rw [← hg] at h1
        refine hK.out _ _ hS1 (fun hSn => ?_)
        clear hK K hSn; (try simp only [Act.put, List.setIfInBounds_toArray, List.set_cons_zero, List.set_cons_succ])
        rw [← hg]
        clear hg
        generalize X72.alloc (.cells #[.int .i8 fk, .int .i64 fn, .string fsn, .string ft, .slice fA fl.length fcap] 25) = X76 at h1 hS1 ⊢
        clear h hS
        have h := h1
        have hS := hS1
        clear h1 hS1
        refine wpAnyE_one (i := 3) (o := ⟨some 98, _, _, _, _, _⟩) (by kernel_rfl) rfl (fun K hK => ?_)
        rw [if_pos (by rfl)]
        have hb0 := h.below
        refine wp_own_termsN (.tmp 95) (.tmp 97) rfl h.own hb0.size (h.apart HP.out) rfl rfl (HTL.out.keep (fun b hb => hb0.block b (HP.out b hb)) (fun _ h => h)) (by have := HLL.out; show 0 + _ ≤ _; omega) ?_
        intro v1 X77 O hg hb
        rw [List.nil_append] at O
        have h1 := h.app O hg hb
        have hS1 : Below w9.heap.size w9 X77 := HDW.out.trans (h1.below.mono (by rw [HDZ.out]; exact Nat.le_refl _))
        refine hK.out _ _ hS1 (fun hSn => ?_)
        clear hK K hSn; (try simp only [Act.put, List.setIfInBounds_toArray, List.set_cons_zero, List.set_cons_succ])
        clear O hg hb hb0
        clear h hS
        have h := h1
        have hS := hS1
        clear h1 hS1
        refine wpAnyE_one (i := 9) (o := ⟨some 104, _, _, _, _, _⟩) (by kernel_rfl) rfl (fun K hK => ?_)
        rw [if_pos (by rfl)]
        have hb0 := h.below
        refine wp_own_termN (.tmp 98) (.tmp 103) rfl h.own hb0.size (h.apart HP.out) rfl g5 rfl (h.kept (g5, .cells #[.int .i8 fk, .int .i64 fn, .string fsn, .string ft, .slice fA fl.length fcap] 25) (by simp)).2.1 (HTF.out.keep (fun b hb => hb0.block b (HP.out b hb)) (fun _ h => h)) (by have := HLL.out; omega) ?_
        intro v2 X78 O hg hb
        have h1 := h.app O hg (hb.imp Eq.symm id)
        obtain ⟨A7, cap7, rfl⟩ := O.shape
        rw [← HN7.out] at h1
        have hS1 : Below w9.heap.size w9 X78 := HDW.out.trans (h1.below.mono (by rw [HDZ.out]; exact Nat.le_refl _))
        refine hK.out _ _ hS1 (fun hSn => ?_)
        clear hK K hSn; (try simp only [Act.put, List.setIfInBounds_toArray, List.set_cons_zero, List.set_cons_succ])
        rw [← HN7.out]
        clear O hg hb hb0
        clear h hS
        have h := h1
        have hS := hS1
        clear h1 hS1
        refine wpAnyE_take (i := 10) (oi := ⟨some 105, _, _, _, _, _⟩) (v := ?_) rfl (by kernel_rfl) (by kernel_rfl) (by kernel_rfl) (by kernel_rfl) (fun _ _ _ h => h) (Or.inl ⟨by kernel_rfl, ?_⟩) (by assumption) ?_; rotate_left; (intro VV hSw; (try dsimp only at hSw); go_simp; first | done | with_reducible rfl); (try simp only [Act.put, List.setIfInBounds_toArray, List.set_cons_zero, List.set_cons_succ])
        have hg10 := (hS.block _ (heap_lt HG9.out)).trans HG9.out
        have y4 : X78.cell? ⟨w8.heap.size, 4, none⟩ = some (.slice (some ⟨fg, foff, foo⟩) ml.length mcap) := cell_of_row (i := 4) hg10 rfl
        have yf : X78.frozen? ⟨w8.heap.size, 4, none⟩ = false := free_of_row (i := 4) hg10
        have HR15 := Lib.hid (r15_of h HPD.out HB9.out HZ9.out hS HG9.out HTM.out HM.out HN7.out H8.out.below HDZ.out)
        clear hg10
        refine wpAnyE_late (i := 11) (o := ⟨none, _, _, _, _, _⟩) (by kernel_rfl) rfl (by kernel_rfl) (fun K hK => ?_)
        rw [if_pos (by rfl)]
        go_simp
        refine hK.out _ _ ?_
        clear hK K; (try simp only [Act.put, List.setIfInBounds_toArray, List.set_cons_zero, List.set_cons_succ])
        refine wpAny_done (by kernel_rfl) ?_ _
        clear y4 yf
        go_wp2_with fail
        go_meet
        exact ⟨_, _, HR15⟩
    · rw [if_pos (by rfl)]
      go_simp
      have h1 := h.alloc HP.out (.cells #[.int .i8 fk, .int .i64 fn, .string fsn, .string ft, .slice fA fl.length fcap] 25)
      have hS1 := hS.alloc hS.size (.cells #[.int .i8 fk, .int .i64 fn, .string fsn, .string ft, .slice fA fl.length fcap] 25)
      obtain ⟨g5, hg⟩ : ∃ g, g = D.heap.size := ⟨_, rfl⟩
      rw [← hg] at h1
      refine hK.out _ _ hS1 (fun hSn => ?_)
      clear hK K hSn; (try simp only [Act.put, List.setIfInBounds_toArray, List.set_cons_zero, List.set_cons_succ])
      rw [← hg]
      clear hg
      generalize D.alloc (.cells #[.int .i8 fk, .int .i64 fn, .string fsn, .string ft, .slice fA fl.length fcap] 25) = X79 at h1 hS1 ⊢
      clear h hS
      have h := h1
      have hS := hS1
      clear h1 hS1
      refine wpAnyE_one (i := 0) (o := ⟨some 95, _, _, _, _, _⟩) (by kernel_rfl) rfl (fun K hK => ?_)
      rw [if_pos (by rfl)]
      go_simp
      have h1 := h.fresh HP.out
      have hS1 := hS.alloc hS.size (.cells #[] 25)
      obtain ⟨g0, hg⟩ : ∃ g, g = X79.heap.size := ⟨_, rfl⟩
      rw [← hg] at h1
      refine hK.out _ _ hS1 (fun hSn => ?_)
      clear hK K hSn; (try simp only [Act.put, List.setIfInBounds_toArray, List.set_cons_zero, List.set_cons_succ])
      rw [← hg]
      clear hg
      generalize X79.alloc (.cells #[] 25) = X80 at h1 hS1 ⊢
      clear h hS
      have h := h1
      have hS := hS1
      clear h1 hS1
      refine wpAnyE_one (i := 3) (o := ⟨some 98, _, _, _, _, _⟩) (by kernel_rfl) rfl (fun K hK => ?_)
      rw [if_pos (by rfl)]
      have hb0 := h.below
      refine wp_own_termsN (.tmp 95) (.tmp 97) rfl h.own hb0.size (h.apart HP.out) rfl rfl (HTL.out.keep (fun b hb => hb0.block b (HP.out b hb)) (fun _ h => h)) (by have := HLL.out; show 0 + _ ≤ _; omega) ?_
      intro v1 X81 O hg hb
      rw [List.nil_append] at O
      have h1 := h.app O hg hb
      have hS1 : Below w9.heap.size w9 X81 := HDW.out.trans (h1.below.mono (by rw [HDZ.out]; exact Nat.le_refl _))
      refine hK.out _ _ hS1 (fun hSn => ?_)
      clear hK K hSn; (try simp only [Act.put, List.setIfInBounds_toArray, List.set_cons_zero, List.set_cons_succ])
      clear O hg hb hb0
      clear h hS
      have h := h1
      have hS := hS1
      clear h1 hS1
      refine wpAnyE_one (i := 9) (o := ⟨some 104, _, _, _, _, _⟩) (by kernel_rfl) rfl (fun K hK => ?_)
      rw [if_pos (by rfl)]
      have hb0 := h.below
      refine wp_own_termN (.tmp 98) (.tmp 103) rfl h.own hb0.size (h.apart HP.out) rfl g5 rfl (h.kept (g5, .cells #[.int .i8 fk, .int .i64 fn, .string fsn, .string ft, .slice fA fl.length fcap] 25) (by simp)).2.1 (HTF.out.keep (fun b hb => hb0.block b (HP.out b hb)) (fun _ h => h)) (by have := HLL.out; omega) ?_
      intro v2 X82 O hg hb
      have h1 := h.app O hg (hb.imp Eq.symm id)
      obtain ⟨A7, cap7, rfl⟩ := O.shape
      rw [← HN7.out] at h1
      have hS1 : Below w9.heap.size w9 X82 := HDW.out.trans (h1.below.mono (by rw [HDZ.out]; exact Nat.le_refl _))
      refine hK.out _ _ hS1 (fun hSn => ?_)
      clear hK K hSn; (try simp only [Act.put, List.setIfInBounds_toArray, List.set_cons_zero, List.set_cons_succ])
      rw [← HN7.out]
      clear O hg hb hb0
      clear h hS
      have h := h1
      have hS := hS1
      clear h1 hS1
      refine wpAnyE_take (i := 10) (oi := ⟨some 105, _, _, _, _, _⟩) (v := ?_) rfl (by kernel_rfl) (by kernel_rfl) (by kernel_rfl) (by kernel_rfl) (fun _ _ _ h => h) (Or.inl ⟨by kernel_rfl, ?_⟩) (by assumption) ?_; rotate_left; (intro VV hSw; (try dsimp only at hSw); go_simp; first | done | with_reducible rfl); (try simp only [Act.put, List.setIfInBounds_toArray, List.set_cons_zero, List.set_cons_succ])
      have hg10 := (hS.block _ (heap_lt HG9.out)).trans HG9.out
      have y4 : X82.cell? ⟨w8.heap.size, 4, none⟩ = some (.slice (some ⟨fg, foff, foo⟩) ml.length mcap) := cell_of_row (i := 4) hg10 rfl
      have yf : X82.frozen? ⟨w8.heap.size, 4, none⟩ = false := free_of_row (i := 4) hg10
      have HR15 := Lib.hid (r15_of h HPD.out HB9.out HZ9.out hS HG9.out HTM.out HM.out HN7.out H8.out.below HDZ.out)
      clear hg10
      refine wpAnyE_late (i := 11) (o := ⟨none, _, _, _, _, _⟩) (by kernel_rfl) rfl (by kernel_rfl) (fun K hK => ?_)
      rw [if_pos (by rfl)]
      go_simp
      refine hK.out _ _ ?_
      clear hK K; (try simp only [Act.put, List.setIfInBounds_toArray, List.set_cons_zero, List.set_cons_succ])
      refine wpAny_done (by kernel_rfl) ?_ _
      clear y4 yf
      go_wp2_with fail
      go_meet
      exact ⟨_, _, HR15⟩
  case rest =>
  obtain ⟨A7, cap7, hcut⟩ := hcut
  obtain ⟨w10, hw10⟩ : ∃ w10, w10 = wc := ⟨_, rfl⟩
  subst hw10
  have H10 := Lib.hid (H8.out.under hcut.out.below)
  have HMB := Lib.hid hcut.out
  clear hcut
  obtain ⟨M2, hM2⟩ : ∃ M2, M2 = dupM M F := ⟨_, rfl⟩
  have HM2 : Hid (TmAt (· < w10.heap.size) w10 M2 (.agg #[.int .i8 mk, .int .i64 mn, .string msn, .string mt, .slice A7 n7 cap7])) := by
    rw [hM2, HM.out]
    exact HMB.out.tree
  have HMM := Lib.hid hM2
  clear hM2
  have hst := (StN.start w10 (· < w10.heap.size)).fresh (fun _ h => h)
  have HST := Lib.hid hst
  have hb10 : Below w10.heap.size w10 (w10.alloc (.cells #[] 25)) := (Below.refl _ _).alloc (Nat.le_refl _) _
  have HTL8 : Hid (TRow (· < w10.heap.size) (w10.alloc (.cells #[] 25)) (some ⟨g, off, oo⟩) l.length cap l) := (HR.out.keep (fun b hb => (hb10.block b (Nat.lt_of_lt_of_le hb H10.out.below.size)).trans (H10.out.below.block b hb)) (fun b hb => Nat.lt_of_lt_of_le hb H10.out.below.size))
  have HLE8 : Hid (([] : List Tm).length + l.length ≤ 1000000) := by have := HLX.out; show 0 + _ ≤ _; omega
  have hx10 := (H10.out.under hb10).box
  clear hst hb10
  have x0 : (w10.alloc (.cells #[] 25)).cell? ⟨w.heap.size, 0, none⟩ = some (.int .i8 k) := cell_of_row (i := 0) hx10 rfl
  have x1 : (w10.alloc (.cells #[] 25)).cell? ⟨w.heap.size, 1, none⟩ = some (.int .i64 n) := cell_of_row (i := 1) hx10 rfl
  have x2 : (w10.alloc (.cells #[] 25)).cell? ⟨w.heap.size, 2, none⟩ = some (.string s) := cell_of_row (i := 2) hx10 rfl
  have x3 : (w10.alloc (.cells #[] 25)).cell? ⟨w.heap.size, 3, none⟩ = some (.string t) := cell_of_row (i := 3) hx10 rfl
  have x4 : (w10.alloc (.cells #[] 25)).cell? ⟨w.heap.size, 4, none⟩ = some (.slice (some ⟨g, off, oo⟩) l.length cap) := cell_of_row (i := 4) hx10 rfl
  clear hx10
  go_wp2_with (at_builtin; refine wpList_own_termsN rfl (.tmp 106) (.tmp 108) rfl HST.out.own HST.out.below.size (HST.out.apart (fun _ h => h)) rfl rfl HTL8.out HLE8.out ?_)
  intro v8 W8 O hg hb
  have h11 := HST.out.app O hg (by rw [World.size_alloc]; exact hb)
  obtain ⟨A8, cap8, rfl⟩ := O.shape
  have HS11 := Lib.hid h11
  clear O hg hb h11 x0 x1 x2 x3 x4
  go_upto_region 17 with fail
  have hP10 : ∀ b, (· < w10.heap.size) b → b < w10.heap.size := fun _ h => h
  have h12 := HS11.out.alloc hP10 (.cells #[.int .i8 0, .int .i64 0, .string ⟨#[]⟩, .string ⟨#[]⟩, .slice A8 l.length cap8] 25)
  obtain ⟨w12, hw12⟩ : ∃ w12, w12 = W8.alloc (.cells #[.int .i8 0, .int .i64 0, .string ⟨#[]⟩, .string ⟨#[]⟩, .slice A8 l.length cap8] 25) := ⟨_, rfl⟩
  obtain ⟨g13, hg13⟩ : ∃ g13, g13 = W8.heap.size := ⟨_, rfl⟩
  rw [← hw12, ← hg13] at h12
  rw [← hw12, ← hg13]
  clear hw12 hg13
  obtain ⟨us, ho, hul, hut⟩ := h12.own.row
  have hfv := ownT_fiveN hul hut
  have hku : us[kn]? = some (us[kn]'(by have := HKL.out; omega)) := List.getElem?_eq_getElem _
  obtain ⟨g8, e8, hg8, hg8l, -, hE8⟩ := own_elemN ho hfv hku
  subst e8
  obtain ⟨d0, d1, d2, d3, d4, -, e0, e1, e2, e3, e4⟩ := hE8
  have hc8 : ∃ cur, w12.heap[g8]? = some (.cells cur 25 (0, 0)) := by
    rcases ho.2 with ⟨e, _⟩ | ⟨g', cap', cur, e, _, hh, _⟩
    · cases e
    · cases e; exact ⟨cur, hh⟩
  obtain ⟨cur, hcur⟩ := hc8
  have ea : (⟨g8, 0, none⟩ : Addr).add (kn * 5) = ⟨g8, kn * 5, none⟩ := by unfold Addr.add; split <;> simp_all
  rw [ea] at e0 e1 e2 e3 e4
  dsimp only at e1 e2 e3 e4
  have x0 : w12.frozen? ⟨g8, kn * 5, none⟩ = false := free_of_row hcur
  have x1 : w12.frozen? ⟨g8, kn * 5 + 1, none⟩ = false := free_of_row hcur
  have x2 : w12.frozen? ⟨g8, kn * 5 + 2, none⟩ = false := free_of_row hcur
  have x3 : w12.frozen? ⟨g8, kn * 5 + 3, none⟩ = false := free_of_row hcur
  have x4 : w12.frozen? ⟨g8, kn * 5 + 4, none⟩ = false := free_of_row hcur
  obtain ⟨g13ge, g13z, g13ne⟩ := h12.kept _ List.mem_cons_self
  dsimp only at g13ge g13z g13ne
  have b12 : Below w10.heap.size w10 w12 := h12.below
  have hmb := (b12.block _ (heap_lt HMB.out.box)).trans HMB.out.box
  have z4 : w12.cell? ⟨g13, 4, none⟩ = some (.slice (some ⟨g8, 0, none⟩) l.length cap8) := cell_of_row (i := 4) g13z rfl
  have y0 : w12.cell? ⟨w8.heap.size, 0, none⟩ = some (.int .i8 mk) := cell_of_row (i := 0) hmb rfl
  have y1 : w12.cell? ⟨w8.heap.size, 1, none⟩ = some (.int .i64 mn) := cell_of_row (i := 1) hmb rfl
  have y2 : w12.cell? ⟨w8.heap.size, 2, none⟩ = some (.string msn) := cell_of_row (i := 2) hmb rfl
  have y3 : w12.cell? ⟨w8.heap.size, 3, none⟩ = some (.string mt) := cell_of_row (i := 3) hmb rfl
  have y4 : w12.cell? ⟨w8.heap.size, 4, none⟩ = some (.slice A7 n7 cap7) := cell_of_row (i := 4) hmb rfl
  have SET := Lib.hid (h12.own.set hP10 kn HKL.out (y := M2) (HM2.out.keep (fun b hb => b12.block b hb) (fun _ h => h)))
  have HG8 := Lib.hid hg8
  have HB12 := Lib.hid b12
  have HG13 := Lib.hid g13z
  have HNE : Hid (g13 ≠ g8) := fun e => g13ne (by rw [e]; rfl)
  have i3 : kn < l.length := HKL.out
  clear h12 ho hul hut hfv hku hg8 hg8l hcur ea hmb g13ge g13z g13ne b12 hP10
  go_upto_region 18 with fail
  obtain ⟨o9, m9⟩ := SET.out
  generalize (((((w12.setCell ⟨g8, kn * 5, none⟩ (.int .i8 mk)).setCell ⟨g8, kn * 5 + 1, none⟩ (.int .i64 mn)).setCell ⟨g8, kn * 5 + 2, none⟩ (.string msn)).setCell ⟨g8, kn * 5 + 3, none⟩ (.string mt)).setCell ⟨g8, kn * 5 + 4, none⟩ (.slice A7 n7 cap7)) = w13 at o9 m9 ⊢
  have hb13 : Below w10.heap.size w10 w13 := HB12.out.trans (m9.below HB12.out.size (fun k (e : k = g8) => by rw [e]; exact HG8.out))
  have hrow := (o9.trow_own).mono (Q := (· < w13.heap.size)) (fun b hb => hb.elim (fun h => Nat.lt_of_lt_of_le h hb13.size) (fun h => (o9.own b h).2))
  have hpt := TmAt.of_row (k := 0) (n := 0) (s := ⟨#[]⟩) (t := ⟨#[]⟩) (l := l.set kn M2) (A := some ⟨g8, 0, none⟩) (cap := cap8) (by rw [List.length_set]; exact hrow) (by decide) (by decide) (by decide) (by decide)
  rw [List.length_set] at hpt
  have hml : M.l = F :: fr := by rw [HM.out]; exact HLM.out
  have htw := twice_fun (x := X) (m := M) (f := F) (r := fr) (k := kn) (by rw [HXL.out]; exact HM0.out) hml HF.out HMD.out HNB.out
  rw [HXL.out, ← HMM.out] at htw
  have hn2 : (Tm.mk 0 0 ⟨#[]⟩ ⟨#[]⟩ (l.set kn M2)).nodes ≤ 8200 := by
    have h1 := pres_set9 (l := l) (k := kn) (m := M) (m' := M2) HM0.out
    have h2 := dup_nodes hml
    rw [← HMM.out] at h2
    have h3 := HXN.out
    have h4 := HNB.out
    rw [nodes_mk9]
    omega
  obtain ⟨PT, hPT⟩ : ∃ PT, PT = Tm.mk 0 0 ⟨#[]⟩ ⟨#[]⟩ (l.set kn M2) := ⟨_, rfl⟩
  rw [← hPT] at hpt htw hn2
  have HPT := Lib.hid hpt
  have HTW2 := Lib.hid htw
  have HN2 := Lib.hid hn2
  have H13 := Lib.hid (H10.out.under hb13)
  have hg13 := (m9.block _ (heap_lt HG13.out) HNE.out).trans HG13.out
  clear SET o9 m9 hb13 hrow hpt hml htw hn2 hPT y0 y1 y2 y3 y4 x0 x1 x2 x3 x4 e0 e1 e2 e3 e4 z4
  have z0 : w13.cell? ⟨g13, 0, none⟩ = some (.int .i8 0) := cell_of_row (i := 0) hg13 rfl
  have z1 : w13.cell? ⟨g13, 1, none⟩ = some (.int .i64 0) := cell_of_row (i := 1) hg13 rfl
  have z2 : w13.cell? ⟨g13, 2, none⟩ = some (.string ⟨#[]⟩) := cell_of_row (i := 2) hg13 rfl
  have z3 : w13.cell? ⟨g13, 3, none⟩ = some (.string ⟨#[]⟩) := cell_of_row (i := 3) hg13 rfl
  have z4 : w13.cell? ⟨g13, 4, none⟩ = some (.slice (some ⟨g8, 0, none⟩) l.length cap8) := cell_of_row (i := 4) hg13 rfl
  clear hg13
  go_wp2_with fail
  refine (check9_any PT _ w13 HPT.out HN2.out (HE.out.env.under H13.out.below) (HE.out.under H13.out.below).err).mono ?_
  rintro e w14 ⟨rfl, b14⟩
  have H14 := Lib.hid (H13.out.under b14)
  clear b14 z0 z1 z2 z3 z4
  rw [HTW2.out]
  obtain ⟨pl2, hpl2⟩ : ∃ pl2, pl2 = (chk9 PT).2 := ⟨_, rfl⟩
  rw [← hpl2]
  clear hpl2
  go_wp2_with fail
  refine (wakes9_any _ (HE.out.under H14.out.below)).mono ?_
  rintro e V ⟨rfl, hb⟩
  have HBW := Lib.hid (H14.out.below.trans (hb.mono H14.out.below.size))
  clear hb
  go_wp2_with fail
  go_ret
  exact ⟨rfl, HBW.out⟩
end Go.Proofs.YthbiaaeoajmlbaaGreatDoor
