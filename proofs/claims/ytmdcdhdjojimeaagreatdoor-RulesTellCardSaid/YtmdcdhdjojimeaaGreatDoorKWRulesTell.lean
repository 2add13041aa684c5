/- Layer 9: RulesTell (written by gen_tell9.py). -/
import Derived.Test.YtmdcdhdjojimeaaGreatDoorKRf9E
import Derived.Test.YtmdcdhdjojimeaaGreatDoorKWr4
import Derived.Test.YtmdcdhdjojimeaaGreatDoorKRf9H
import Derived.Test.YtmdcdhdjojimeaaGreatDoorKWak9
set_option linter.unusedVariables false
set_option linter.unusedSimpArgs false
namespace Go.Proofs.YtmdcdhdjojimeaaGreatDoor
open Go.RowKit Go.Shelf

theorem findT_in {key : Fn9} : ∀ {L : List (Fn9 × Tm)} {y : Tm}, findT key L = some y → ∃ q ∈ L, q.2 = y
 | q :: L, y, h => by
  rw [findT] at h
  by_cases hq : q.1 = key
  ·rw [if_pos hq] at h; cases h; exact ⟨q, List.mem_cons_self, rfl⟩
  ·rw [if_neg hq] at h
   obtain ⟨q', h1, h2⟩ := findT_in h
   exact ⟨q', List.mem_cons_of_mem _ h1, h2⟩
theorem fnsT_in : ∀ {l : List Tm} {q : Fn9 × Tm}, q ∈ fnsT l → ∃ m ∈ l, q.2 ∈ m.l
 | m :: l, q, h => by
  rw [fnsT] at h
  rcases List.mem_append.1 h with h | h
  ·obtain ⟨f, hf, rfl⟩ := List.mem_map.1 h
   exact ⟨m, List.mem_cons_self, hf⟩
  ·obtain ⟨m', h1, h2⟩ := fnsT_in h
   exact ⟨m', List.mem_cons_of_mem _ h1, h2⟩
theorem found_fits {x y : Tm} {key : Fn9} (h : findT key (fns9T x) = some y) : fitsB y = true := by
 unfold fns9T at h
 split at h
 ·rename_i hx
  obtain ⟨q, hq, rfl⟩ := findT_in h
  obtain ⟨m, hm, hf⟩ := fnsT_in hq
  obtain ⟨k, n, s, t, l⟩ := x
  obtain ⟨k2, n2, s2, t2, l2⟩ := m
  exact fits_mem (fits_mem hx.1 hm) hf
 ·cases h
theorem same_self {y : Tm} (h : fitsB y = true) : sameR y y = true := by
 unfold sameR
 rw [h, (eqT_iff y y).2 rfl]
 rfl
theorem add5 (b p : Nat) : (⟨b, 0, none⟩ : Addr).add (p * 5) = ⟨b, p * 5, none⟩ := by unfold Addr.add; split <;> simp_all
attribute [local irreducible] Go.wpQuiet
set_option maxHeartbeats 8000000 in
set_option maxRecDepth 100000 in
theorem sameFns_self (L : List Fn9) (u v : Value) (w : World) (hL : L.length ≤ 100000) (hU : FnRow w u L) (hV : FnRow w v L) :
  Calls Tryz.prog 16 #[u, v] w fun e w' => e = .returned (.bool true) ∧ Below w.heap.size w w' := by
 obtain ⟨A, ca, rfl, h1⟩ := hU
 obtain ⟨B, cb, rfl, h2⟩ := hV
 have H1 := Lib.hid h1
 have H2 := Lib.hid h2
 obtain ⟨N, hN⟩ : ∃ N, N = L.length := ⟨_, rfl⟩
 have HN := Lib.hid hN
 rw [← hN] at hL ⊢
 clear h1 h2 hN
 go_enter Tryz.func16, Tryz.ntmps16
 go_wp2_with fail
 go_loopw [13] (fun i wr => ∃ j : Nat, j ≤ N ∧ i = .int .i64 (j : Int) ∧ Hid (Below w.heap.size w wr)) (fun i _ => N - (intOf i).toNat)
 case atStart => exact ⟨0, Nat.zero_le _, rfl, Lib.hid (Below.refl _ _)⟩
 case round =>
  obtain ⟨j, hj, rfl, HB⟩ := hrel
  by_cases hlt : j < N
  ·obtain ⟨f, hf⟩ : ∃ f, L[j]? = some f := ⟨L[j]'(by have := HN.out; omega), List.getElem?_eq_getElem _⟩
   obtain ⟨fa, fb, fc⟩ := f
   obtain ⟨ga, rfl, hga, a0, a1, a2, a3, a4⟩ := H1.out j _ hf
   obtain ⟨gb, rfl, hgb, b0, b1, b2, b3, b4⟩ := H2.out j _ hf
   have HCA : Hid (∀ V, Below wr.heap.size wr V → V.cell? ⟨ga, j * 5, none⟩ = some (.string fa) ∧ V.cell? ⟨ga, j * 5 + 1, none⟩ = some (.string fb) ∧ V.cell? ⟨ga, j * 5 + 2, none⟩ = some (.int .i64 fc) ∧ V.cell? ⟨ga, j * 5 + 3, none⟩ = some (.int .i64 0) ∧ V.cell? ⟨ga, j * 5 + 4, none⟩ = some (.int .i64 0)) := Lib.hid (fun V hV => by
    have hb := HB.out.trans (hV.mono HB.out.size)
    exact ⟨(hb.cell hga).trans a0, (hb.cell hga).trans a1, (hb.cell hga).trans a2, (hb.cell hga).trans a3, (hb.cell hga).trans a4⟩)
   have HCB : Hid (∀ V, Below wr.heap.size wr V → V.cell? ⟨gb, j * 5, none⟩ = some (.string fa) ∧ V.cell? ⟨gb, j * 5 + 1, none⟩ = some (.string fb) ∧ V.cell? ⟨gb, j * 5 + 2, none⟩ = some (.int .i64 fc) ∧ V.cell? ⟨gb, j * 5 + 3, none⟩ = some (.int .i64 0) ∧ V.cell? ⟨gb, j * 5 + 4, none⟩ = some (.int .i64 0)) := Lib.hid (fun V hV => by
    have hb := HB.out.trans (hV.mono HB.out.size)
    exact ⟨(hb.cell hgb).trans b0, (hb.cell hgb).trans b1, (hb.cell hgb).trans b2, (hb.cell hgb).trans b3, (hb.cell hgb).trans b4⟩)
   have had1 := add5 ga j
   have had2 := add5 gb j
   have hi0 : (0 : Int) ≤ (j : Int) := by omega
   have hi1 : (j : Int) < (N : Int) := by omega
   clear hf hga hgb a0 a1 a2 a3 a4 b0 b1 b2 b3 b4
   go_upto_region 6 with fail
   refine wp_region_qC (C := fun V => Below (wr).heap.size (wr) V) (by kernel_rfl) (by kernel_rfl) (drewC (wr)) ?_
   refine wpq1 ?_; (try simp only [Act.put, sI, sZ, sS])
   refine wpq1 ?_; (try simp only [Act.put, sI, sZ, sS])
   refine wpq1 ?_; (try simp only [Act.put, sI, sZ, sS])
   refine wpqC (v := ?_) (by kernel_rfl) ?_ ?_; rotate_left; (intro V hV; (try dsimp only at hV); obtain ⟨a0, a1, a2, a3, a4⟩ := HCA.out V hV; go_simp; first | done | with_reducible rfl); (try simp only [Act.put, sI, sZ, sS])
   refine wpq1 ?_; (try simp only [Act.put, sI, sZ, sS])
   refine wpq1 ?_; (try simp only [Act.put, sI, sZ, sS])
   refine wpq1 ?_; (try simp only [Act.put, sI, sZ, sS])
   refine wpqC (v := ?_) (by kernel_rfl) ?_ ?_; rotate_left; (intro V hV; (try dsimp only at hV); obtain ⟨b0, b1, b2, b3, b4⟩ := HCB.out V hV; go_simp; first | done | with_reducible rfl); (try simp only [Act.put, sI, sZ, sS])
   refine wpq1 ?_; (try simp only [Act.put, sI, sZ, sS])
   refine wpQuiet_nil ?_
   intro V9 h9
   (try dsimp only at h9)
   have HB7 := Lib.hid h9
   clear h9
   have HB9 := Lib.hid (HB.out.trans (HB7.out.mono HB.out.size))
   clear had1 had2
   go_wp2_with fail
   go_roundw
   case rel => exact ⟨j + 1, by omega, by go_num, HB9⟩
   case measure => simp [intOf]; omega
  ·obtain rfl : j = N := by omega
   go_wp2_with fail
   go_ret
   exact ⟨rfl, HB.out⟩

set_option maxHeartbeats 32000000 in
set_option maxRecDepth 100000 in
theorem walk_RulesTell (v0 v1 : Value) (md nm : ByteArray) (ar : Int) (hmd : md.size ≤ maxLen) (hnm : nm.size ≤ maxLen) (hwa : (Lit.int .i64 ar).wf = true) (w : World) (o0 : ∃ t, TmAt (· < w.heap.size) w t v0) (o1 : ∃ t, TmAt (· < w.heap.size) w t v1) (hE : Env9 w) :
  Calls Tryz.prog 3 #[v0, v1, .string md, .string nm, .int .i64 ar] w fun e w' => e = .returned (.bool true) ∧ Below w.heap.size w w' := by
 obtain ⟨x, hT⟩ := o0
 obtain ⟨c, hU⟩ := o1
 obtain ⟨X, hX⟩ : ∃ X, X = x := ⟨_, rfl⟩
 obtain ⟨C, hC⟩ : ∃ C, C = c := ⟨_, rfl⟩
 obtain ⟨k, n, s, t, l⟩ := x
 obtain ⟨k2, n2, s2, t2, m⟩ := c
 obtain ⟨A, cap, rfl, -⟩ := hT.parts
 obtain ⟨B, cap2, rfl, -⟩ := hU.parts
 rw [← hX] at hT
 rw [← hC] at hU
 have HT := Lib.hid hT
 have HU := Lib.hid hU
 have HE := Lib.hid hE
 obtain ⟨W2, hW2⟩ : ∃ W2, W2 = (w.alloc (.cells #[.int .i8 k, .int .i64 n, .string s, .string t, .slice A l.length cap] 25)).alloc (.cells #[.int .i8 k2, .int .i64 n2, .string s2, .string t2, .slice B m.length cap2] 25) := ⟨_, rfl⟩
 obtain ⟨g0, g1, hb2, z2⟩ := two9b w _ _ W2 hW2
 have HG0 := Lib.hid g0
 have HG1 := Lib.hid g1
 have HW2 := Lib.hid hb2
 have HB2 : Hid (Below W2.heap.size W2 W2) := Lib.hid (Below.refl _ _)
 obtain ⟨a0, a1, a2, a3, a4⟩ := five_of g0
 obtain ⟨b0, b1, b2, b3, b4⟩ := five_of g1
 clear hT hU hE hX hC g0 g1 hb2 z2 hmd hnm hwa
 go_enter Tryz.func3, Tryz.ntmps3
 go_upto_region 1 with fail
 rw [← hW2]
 clear hW2
 go_wp2_with fail
 refine (GreatN_any X _ W2 (HT.out.laterN HW2.out)).mono ?_
 rintro e W3 ⟨g, rfl, hg, bb⟩
 have HGX := Lib.hid hg
 clear hg
 have HB3 := Lib.hid (HB2.out.trans (bb.mono HB2.out.size))
 have HW3 := Lib.hid (HW2.out.trans (bb.mono HW2.out.size))
 clear bb a0 a1 a2 a3 a4 b0 b1 b2 b3 b4
 have ha9 := (HB3.out.block _ (heap_lt HG0.out)).trans HG0.out
 have hb9 := (HB3.out.block _ (heap_lt HG1.out)).trans HG1.out
 obtain ⟨a0, a1, a2, a3, a4⟩ := five_of ha9
 obtain ⟨b0, b1, b2, b3, b4⟩ := five_of hb9
 clear ha9 hb9
 cases g with
 | true =>
  go_wp2_with fail
  refine (wakes9_any W3 (HE.out.under HW3.out)).mono ?_
  rintro e V9 ⟨rfl, b9⟩
  have HB9 := Lib.hid (HW3.out.trans (b9.mono HW3.out.size))
  clear b9
  go_wp2_with fail
  go_ret
  exact ⟨rfl, HB9.out⟩
 | false =>
  have HNX : Hid (X.nodes < 8192) := Lib.hid (HGX.out rfl)
  go_wp2_with fail
  refine (GreatN_any C _ W3 (HU.out.laterN HW3.out)).mono ?_
  rintro e W4 ⟨g, rfl, hg, bb⟩
  have HGC := Lib.hid hg
  clear hg
  have HB4 := Lib.hid (HB3.out.trans (bb.mono HB3.out.size))
  have HW4 := Lib.hid (HW3.out.trans (bb.mono HW3.out.size))
  clear bb a0 a1 a2 a3 a4 b0 b1 b2 b3 b4
  have ha9 := (HB4.out.block _ (heap_lt HG0.out)).trans HG0.out
  have hb9 := (HB4.out.block _ (heap_lt HG1.out)).trans HG1.out
  obtain ⟨a0, a1, a2, a3, a4⟩ := five_of ha9
  obtain ⟨b0, b1, b2, b3, b4⟩ := five_of hb9
  clear ha9 hb9
  cases g with
  | true =>
   go_wp2_with fail
   refine (wakes9_any W4 (HE.out.under HW4.out)).mono ?_
   rintro e V9 ⟨rfl, b9⟩
   have HB9 := Lib.hid (HW4.out.trans (b9.mono HW4.out.size))
   clear b9
   go_wp2_with fail
   go_ret
   exact ⟨rfl, HB9.out⟩
  | false =>
   have HNC : Hid (C.nodes < 8192) := Lib.hid (HGC.out rfl)
   obtain ⟨cp, hcp⟩ : ∃ cp : Int, cp = (((chk9 X).2 : Nat) : Int) := ⟨_, rfl⟩
   obtain ⟨ce, hce⟩ : ∃ ce : Int, ce = (chk9 X).1 := ⟨_, rfl⟩
   have HC1 := Lib.hid (check9_any X _ W4 (HT.out.laterN HW4.out) (by have := HNX.out; omega) (HE.out.under HW4.out).env (HE.out.under HW4.out).err)
   rw [← hcp, ← hce] at HC1
   go_wp2_with fail
   refine HC1.out.mono ?_
   rintro e W5 ⟨rfl, bb⟩
   clear HC1
   have HB5 := Lib.hid (HB4.out.trans (bb.mono HB4.out.size))
   have HW5 := Lib.hid (HW4.out.trans (bb.mono HW4.out.size))
   clear bb a0 a1 a2 a3 a4 b0 b1 b2 b3 b4
   have ha9 := (HB5.out.block _ (heap_lt HG0.out)).trans HG0.out
   have hb9 := (HB5.out.block _ (heap_lt HG1.out)).trans HG1.out
   obtain ⟨a0, a1, a2, a3, a4⟩ := five_of ha9
   obtain ⟨b0, b1, b2, b3, b4⟩ := five_of hb9
   clear ha9 hb9
   have HC1 := Lib.hid (rCheck9_any X _ W5 (HT.out.laterN HW5.out) (by have := HNX.out; omega))
   rw [← hcp, ← hce] at HC1
   clear hcp hce
   go_wp2_with fail
   refine HC1.out.mono ?_
   rintro e W6 ⟨rfl, bb⟩
   clear HC1
   have HB6 := Lib.hid (HB5.out.trans (bb.mono HB5.out.size))
   have HW6 := Lib.hid (HW5.out.trans (bb.mono HW5.out.size))
   clear bb a0 a1 a2 a3 a4 b0 b1 b2 b3 b4
   have ha9 := (HB6.out.block _ (heap_lt HG0.out)).trans HG0.out
   have hb9 := (HB6.out.block _ (heap_lt HG1.out)).trans HG1.out
   obtain ⟨a0, a1, a2, a3, a4⟩ := five_of ha9
   obtain ⟨b0, b1, b2, b3, b4⟩ := five_of hb9
   clear ha9 hb9
   obtain ⟨R, hR⟩ : ∃ R, R = findT (md, nm, ar) (fns9T X) := ⟨_, rfl⟩
   have HR := Lib.hid hR
   have HC1 := Lib.hid (find_any X _ md nm ar W6 (HT.out.laterN HW6.out) (by have := HNX.out; omega) (HE.out.under HW6.out).env)
   rw [← hR] at HC1
   go_wp2_with fail
   refine HC1.out.mono ?_
   rintro e W7 ⟨u, ⟨k', n', s', t', A', m', c', rfl⟩, rfl, hU7, bb⟩
   clear HC1
   have HB7 := Lib.hid (HB6.out.trans (bb.mono HB6.out.size))
   have HW7 := Lib.hid (HW6.out.trans (bb.mono HW6.out.size))
   clear bb a0 a1 a2 a3 a4 b0 b1 b2 b3 b4
   obtain ⟨W8, hW8⟩ : ∃ W8, W8 = W7.alloc (.cells #[.int .i8 k', .int .i64 n', .string s', .string t', .slice A' m' c'] 25) := ⟨_, rfl⟩
   have bb : Below W7.heap.size W7 W8 := by rw [hW8]; exact (Below.refl _ _).alloc (Nat.le_refl _) _
   have hgp : W8.heap[W7.heap.size]? = some (.cells #[.int .i8 k', .int .i64 n', .string s', .string t', .slice A' m' c'] 25 (0, 0)) := by rw [hW8]; exact block_alloc _ _
   have HGP := Lib.hid hgp
   have HU8 := Lib.hid (fun y hy => (hU7 y hy).laterN bb)
   have HB8 := Lib.hid (HB7.out.trans (bb.mono HB7.out.size))
   have HW8 := Lib.hid (HW7.out.trans (bb.mono HW7.out.size))
   clear bb hgp hU7
   have ha9 := (HB8.out.block _ (heap_lt HG0.out)).trans HG0.out
   have hb9 := (HB8.out.block _ (heap_lt HG1.out)).trans HG1.out
   obtain ⟨a0, a1, a2, a3, a4⟩ := five_of ha9
   obtain ⟨b0, b1, b2, b3, b4⟩ := five_of hb9
   clear ha9 hb9
   have HC1 := Lib.hid (rFind9_any X _ md nm ar W8 (HT.out.laterN HW8.out))
   rw [← hR] at HC1
   clear hR
   go_upto_region 6 with fail
   rw [← hW8]
   clear hW8
   go_wp2_with fail
   refine HC1.out.mono ?_
   rintro e W9 ⟨u, ⟨k'', n'', s'', t'', A'', m'', c'', rfl⟩, rfl, hU9, bb⟩
   clear HC1
   have HGP9 := Lib.hid ((bb.block _ (heap_lt HGP.out)).trans HGP.out)
   have HU8' := Lib.hid (fun y hy => (HU8.out y hy).laterN bb)
   have hU9' := fun y hy => (hU9 y hy).mono (Q := (· < W9.heap.size)) (fun b hb => Nat.lt_of_lt_of_le hb bb.size)
   have HB9 := Lib.hid (HB8.out.trans (bb.mono HB8.out.size))
   have HW9 := Lib.hid (HW8.out.trans (bb.mono HW8.out.size))
   clear bb a0 a1 a2 a3 a4 b0 b1 b2 b3 b4
   obtain ⟨W, hW⟩ : ∃ W, W = W9.alloc (.cells #[.int .i8 k'', .int .i64 n'', .string s'', .string t'', .slice A'' m'' c''] 25) := ⟨_, rfl⟩
   have bb : Below W9.heap.size W9 W := by rw [hW]; exact (Below.refl _ _).alloc (Nat.le_refl _) _
   have hgp : W.heap[W9.heap.size]? = some (.cells #[.int .i8 k'', .int .i64 n'', .string s'', .string t'', .slice A'' m'' c''] 25 (0, 0)) := by rw [hW]; exact block_alloc _ _
   have HGR := Lib.hid hgp
   have HGQ := Lib.hid ((bb.block _ (heap_lt HGP9.out)).trans HGP9.out)
   have HUX := Lib.hid (fun y hy => (HU8'.out y hy).laterN bb)
   have HUY := Lib.hid (fun y hy => (hU9' y hy).laterN bb)
   have HBW := Lib.hid (HB9.out.trans (bb.mono HB9.out.size))
   have HWW := Lib.hid (HW9.out.trans (bb.mono HW9.out.size))
   have HGN := Lib.hid ((HBW.out.block _ (heap_lt HG0.out)).trans HG0.out)
   have HGC2 := Lib.hid ((HBW.out.block _ (heap_lt HG1.out)).trans HG1.out)
   have HEW := Lib.hid (HE.out.under HWW.out)
   have HTW := Lib.hid (HT.out.laterN HWW.out)
   have HUW := Lib.hid (HU.out.laterN HWW.out)
   clear bb hgp hU9 hU9'
   go_upto_region 7 with fail
   rw [← hW]
   clear hW
   obtain ⟨bt, hbt⟩ : ∃ bt, bt = builtB nm ar := ⟨_, rfl⟩
   have HBT := Lib.hid hbt
   have HFB : Hid (∀ V, Calls Tryz.prog 11 #[.string nm, .int .i64 ar] V fun e w' => e = .returned (.bool bt) ∧ w' = V) := Lib.hid (fun V => by rw [hbt]; exact built_any nm ar V)
   have HFR : Hid (∀ V, Calls Tryz.prog 12 #[.string nm, .int .i64 ar] V fun e w' => e = .returned (.bool bt) ∧ w' = V) := Lib.hid (fun V => by rw [hbt]; exact rbuilt_any nm ar V)
   clear hbt
   obtain ⟨NL, hNL⟩ : ∃ NL, NL = names9 C := ⟨_, rfl⟩
   have HNL := Lib.hid hNL
   have HNM : Hid (∀ V, Below W.heap.size W V → Calls Tryz.prog 14 #[.agg #[.int .i8 k2, .int .i64 n2, .string s2, .string t2, .slice B m.length cap2]] V fun e w' => ∃ A cp, e = .returned (.slice A NL.length cp) ∧ SRow w' A NL ∧ Below V.heap.size V w') := Lib.hid (fun V hV => (names_any C _ V (HUW.out.laterN hV) (by have := HNC.out; omega) (HEW.out.under hV).env).mono fun e w' h9 => by
    obtain ⟨v9, e9, h1, h2⟩ := h9
    rw [← hNL] at h1
    obtain ⟨A9, c9, rfl, -⟩ := own_slice h1
    exact ⟨A9, c9, e9, srow11 h1, h2⟩)
   have HNR : Hid (∀ V, Below W.heap.size W V → Calls Tryz.prog 15 #[.agg #[.int .i8 k2, .int .i64 n2, .string s2, .string t2, .slice B m.length cap2]] V fun e w' => ∃ A cp, e = .returned (.slice A NL.length cp) ∧ SRow w' A NL ∧ NL.length ≤ 100000 ∧ Below V.heap.size V w') := Lib.hid (fun V hV => by
    rw [hNL]; exact rNames9_any C _ V (HUW.out.laterN hV) (by have := HNC.out; omega))
   clear hNL
   have HFL : Hid ((fns9T X).length ≤ 100000) := Lib.hid (fns9_le X (by have := HNX.out; omega))
   have HFF : Hid (∀ V, Below W.heap.size W V → Calls Tryz.prog 17 #[.agg #[.int .i8 k, .int .i64 n, .string s, .string t, .slice A l.length cap]] V fun e w' => ∃ v, e = .returned v ∧ FnRow w' v ((fns9T X).map (·.1)) ∧ Below V.heap.size V w') := Lib.hid (fun V hV => Functions_any X _ V (HTW.out.laterN hV) (by have := HNX.out; omega) (HEW.out.under hV).env HFL.out)
   have HFQ : Hid (∀ V, Below W.heap.size W V → Calls Tryz.prog 18 #[.agg #[.int .i8 k, .int .i64 n, .string s, .string t, .slice A l.length cap]] V fun e w' => ∃ v, e = .returned v ∧ FnRow w' v ((fns9T X).map (·.1)) ∧ Below V.heap.size V w') := Lib.hid (fun V hV => rFunctions9_any X _ V (HTW.out.laterN hV) (by have := HNX.out; omega))
   clear HGX HGC HB2 HB3 HB4 HB5 HB6 HB7 HB8 HB9 HW2 HW3 HW4 HW5 HW6 HW7 HW8 HW9 HU8 HU8' HGP HGP9 HG0 HG1 HT HU HE HTW HUW HBW HNC HNX
   refine wp_region_held (S := fun V => Below W.heap.size W V) (by kernel_rfl) ?_
   show wpAnyH _ _ _ _ _ _ _ _ W.drew
   have hS0 : Below W.heap.size W W.drew := ⟨rfl, rfl, rfl, Nat.le_refl _, fun _ _ => rfl⟩
   generalize W.drew = D at hS0 ⊢
   cases hRc : R with
   | none =>
    clear hRc
    refine tkq 0 ?_; (try simp only [Act.put, sI, sZ, sS])
    refine tkq 1 ?_; (try simp only [Act.put, sI, sZ, sS])
    refine tkq 2 ?_; (try simp only [Act.put, sI, sZ, sS])
    refine tkq 3 ?_; (try simp only [Act.put, sI, sZ, sS])
    refine tkq 4 ?_; (try simp only [Act.put, sI, sZ, sS])
    refine tkq 5 ?_; (try simp only [Act.put, sI, sZ, sS])
    refine tkq 6 ?_; (try simp only [Act.put, sI, sZ, sS])
    refine tkq 7 ?_; (try simp only [Act.put, sI, sZ, sS])
    refine tkq 8 ?_; (try simp only [Act.put, sI, sZ, sS])
    refine tkq 9 ?_; (try simp only [Act.put, sI, sZ, sS])
    refine tkq 10 ?_; (try simp only [Act.put, sI, sZ, sS])
    refine tkq 11 ?_; (try simp only [Act.put, sI, sZ, sS])
    refine tkq 12 ?_; (try simp only [Act.put, sI, sZ, sS])
    refine tkq 13 ?_; (try simp only [Act.put, sI, sZ, sS])
    refine tkq 14 ?_; (try simp only [Act.put, sI, sZ, sS])
    refine tkq 15 ?_; (try simp only [Act.put, sI, sZ, sS])
    refine tkq 16 ?_; (try simp only [Act.put, sI, sZ, sS])
    refine skq 17 ?_; (try simp only [Act.put, sI, sZ, sS])
    refine skq 18 ?_; (try simp only [Act.put, sI, sZ, sS])
    refine skq 19 ?_; (try simp only [Act.put, sI, sZ, sS])
    refine tkq 20 ?_; (try simp only [Act.put, sI, sZ, sS])
    refine tkq 21 ?_; (try simp only [Act.put, sI, sZ, sS])
    refine tkq 22 ?_; (try simp only [Act.put, sI, sZ, sS])
    refine tkq 23 ?_; (try simp only [Act.put, sI, sZ, sS])
    refine tkq 24 ?_; (try simp only [Act.put, sI, sZ, sS])
    refine tkq 26 ?_; (try simp only [Act.put, sI, sZ, sS])
    refine tkq 27 ?_; (try simp only [Act.put, sI, sZ, sS])
    refine wpAnyH_ready (rs := [25]) (by kernel_rfl) (by simp) ?_
    refine AllReadyH.cons (o := ⟨some 77, _, _, _, _, _⟩) rfl (fun K hK => ?_) AllReadyH.nil
    rw [if_pos (by rfl)]
    go_simp
    refine (HFB.out _).mono ?_
    rintro e V9 ⟨rfl, rfl⟩
    refine hK.out _ _ hS0 (fun hSn => ?_)
    clear hK K hSn; (try simp only [Act.put, sI, sZ, sS])
    refine wpAnyH_ready (rs := [28]) (by kernel_rfl) (by simp) ?_
    refine AllReadyH.cons (o := ⟨some 80, _, _, _, _, _⟩) rfl (fun K hK => ?_) AllReadyH.nil
    rw [if_pos (by rfl)]
    go_simp
    refine (HFR.out _).mono ?_
    rintro e V9 ⟨rfl, rfl⟩
    refine hK.out _ _ hS0 (fun hSn => ?_)
    clear hK K hSn; (try simp only [Act.put, sI, sZ, sS])
    refine tkq 29 ?_; (try simp only [Act.put, sI, sZ, sS])
    refine tkq 30 ?_; (try simp only [Act.put, sI, sZ, sS])
    refine tkq 31 ?_; (try simp only [Act.put, sI, sZ, sS])
    refine wpAnyH_take (i := 32) (oi := ⟨some 84, _, _, _, _, _⟩) (v := ?_) rfl (by kernel_rfl) (by kernel_rfl) (by kernel_rfl) (fun _ _ _ h => h) (Or.inl ⟨by kernel_rfl, ?_⟩) (by assumption) ?_; rotate_left; (intro V hV; (try dsimp only at hV); have b0 := cell_of_row (i := 0) ((hV.block _ (heap_lt HGC2.out)).trans HGC2.out) rfl; have b1 := cell_of_row (i := 1) ((hV.block _ (heap_lt HGC2.out)).trans HGC2.out) rfl; have b2 := cell_of_row (i := 2) ((hV.block _ (heap_lt HGC2.out)).trans HGC2.out) rfl; have b3 := cell_of_row (i := 3) ((hV.block _ (heap_lt HGC2.out)).trans HGC2.out) rfl; have b4 := cell_of_row (i := 4) ((hV.block _ (heap_lt HGC2.out)).trans HGC2.out) rfl; go_simp; first | done | with_reducible rfl); (try simp only [Act.put, sI, sZ, sS])
    refine wpAnyH_take (i := 34) (oi := ⟨some 86, _, _, _, _, _⟩) (v := ?_) rfl (by kernel_rfl) (by kernel_rfl) (by kernel_rfl) (fun _ _ _ h => h) (Or.inl ⟨by kernel_rfl, ?_⟩) (by assumption) ?_; rotate_left; (intro V hV; (try dsimp only at hV); have b0 := cell_of_row (i := 0) ((hV.block _ (heap_lt HGC2.out)).trans HGC2.out) rfl; have b1 := cell_of_row (i := 1) ((hV.block _ (heap_lt HGC2.out)).trans HGC2.out) rfl; have b2 := cell_of_row (i := 2) ((hV.block _ (heap_lt HGC2.out)).trans HGC2.out) rfl; have b3 := cell_of_row (i := 3) ((hV.block _ (heap_lt HGC2.out)).trans HGC2.out) rfl; have b4 := cell_of_row (i := 4) ((hV.block _ (heap_lt HGC2.out)).trans HGC2.out) rfl; go_simp; first | done | with_reducible rfl); (try simp only [Act.put, sI, sZ, sS])
    refine wpAnyH_ready (rs := [33]) (by kernel_rfl) (by simp) ?_
    refine AllReadyH.cons (o := ⟨some 85, _, _, _, _, _⟩) rfl (fun K hK => ?_) AllReadyH.nil
    rw [if_pos (by rfl)]
    go_simp
    refine (HNM.out _ hS0).mono ?_
    rintro e Y2 ⟨N1, nc1, rfl, hN1, bY⟩
    have hSY2 := hS0.trans (bY.mono hS0.size)
    clear bY
    refine hK.out _ _ hSY2 (fun hSn => ?_)
    clear hK K hSn; (try simp only [Act.put, sI, sZ, sS])
    clear hS0
    refine wpAnyH_ready (rs := [35]) (by kernel_rfl) (by simp) ?_
    refine AllReadyH.cons (o := ⟨some 87, _, _, _, _, _⟩) rfl (fun K hK => ?_) AllReadyH.nil
    rw [if_pos (by rfl)]
    go_simp
    refine (HNR.out _ hSY2).mono ?_
    rintro e Y3 ⟨N2, nc2, rfl, hN2, hlen, bY⟩
    have hSY3 := hSY2.trans (bY.mono hSY2.size)
    have hN1b : SRow Y3 N1 NL := fun j b hj => by obtain ⟨ad, e1, e2, e3⟩ := hN1 j b hj; exact ⟨ad, e1, Nat.lt_of_lt_of_le e2 bY.size, (bY.cell (World.block_lt_of_cell? _ _ e3)).trans e3⟩
    have HWD := Lib.hid (rwords7_any NL NL N1 N2 nc1 nc2 Y3 (by unfold maxLen; omega) (by unfold maxLen; omega) hN1b hN2)
    rw [show decide (NL = NL) = true from decide_eq_true rfl] at HWD
    clear hN1 hN1b hN2 hlen
    clear bY
    refine hK.out _ _ hSY3 (fun hSn => ?_)
    clear hK K hSn; (try simp only [Act.put, sI, sZ, sS])
    clear hSY2
    refine wpAnyH_ready (rs := [36]) (by kernel_rfl) (by simp) ?_
    refine AllReadyH.cons (o := ⟨some 88, _, _, _, _, _⟩) rfl (fun K hK => ?_) AllReadyH.nil
    rw [if_pos (by rfl)]
    go_simp
    refine (HWD.out).mono ?_
    rintro e Y4 ⟨rfl, bY⟩
    have hSY4 := hSY3.trans (bY.mono hSY3.size)
    clear bY
    refine hK.out _ _ hSY4 (fun hSn => ?_)
    clear hK K hSn; (try simp only [Act.put, sI, sZ, sS])
    clear hSY3
    refine tkq 37 ?_; (try simp only [Act.put, sI, sZ, sS])
    refine tkq 38 ?_; (try simp only [Act.put, sI, sZ, sS])
    refine wpAnyH_take (i := 39) (oi := ⟨some 91, _, _, _, _, _⟩) (v := ?_) rfl (by kernel_rfl) (by kernel_rfl) (by kernel_rfl) (fun _ _ _ h => h) (Or.inl ⟨by kernel_rfl, ?_⟩) (by assumption) ?_; rotate_left; (intro V hV; (try dsimp only at hV); have a0 := cell_of_row (i := 0) ((hV.block _ (heap_lt HGN.out)).trans HGN.out) rfl; have a1 := cell_of_row (i := 1) ((hV.block _ (heap_lt HGN.out)).trans HGN.out) rfl; have a2 := cell_of_row (i := 2) ((hV.block _ (heap_lt HGN.out)).trans HGN.out) rfl; have a3 := cell_of_row (i := 3) ((hV.block _ (heap_lt HGN.out)).trans HGN.out) rfl; have a4 := cell_of_row (i := 4) ((hV.block _ (heap_lt HGN.out)).trans HGN.out) rfl; go_simp; first | done | with_reducible rfl); (try simp only [Act.put, sI, sZ, sS])
    refine wpAnyH_take (i := 41) (oi := ⟨some 93, _, _, _, _, _⟩) (v := ?_) rfl (by kernel_rfl) (by kernel_rfl) (by kernel_rfl) (fun _ _ _ h => h) (Or.inl ⟨by kernel_rfl, ?_⟩) (by assumption) ?_; rotate_left; (intro V hV; (try dsimp only at hV); have a0 := cell_of_row (i := 0) ((hV.block _ (heap_lt HGN.out)).trans HGN.out) rfl; have a1 := cell_of_row (i := 1) ((hV.block _ (heap_lt HGN.out)).trans HGN.out) rfl; have a2 := cell_of_row (i := 2) ((hV.block _ (heap_lt HGN.out)).trans HGN.out) rfl; have a3 := cell_of_row (i := 3) ((hV.block _ (heap_lt HGN.out)).trans HGN.out) rfl; have a4 := cell_of_row (i := 4) ((hV.block _ (heap_lt HGN.out)).trans HGN.out) rfl; go_simp; first | done | with_reducible rfl); (try simp only [Act.put, sI, sZ, sS])
    refine wpAnyH_ready (rs := [40]) (by kernel_rfl) (by simp) ?_
    refine AllReadyH.cons (o := ⟨some 92, _, _, _, _, _⟩) rfl (fun K hK => ?_) AllReadyH.nil
    rw [if_pos (by rfl)]
    go_simp
    refine (HFF.out _ hSY4).mono ?_
    rintro e Y5 ⟨f1, rfl, hF1, bY⟩
    have hSY5 := hSY4.trans (bY.mono hSY4.size)
    clear bY
    refine hK.out _ _ hSY5 (fun hSn => ?_)
    clear hK K hSn; (try simp only [Act.put, sI, sZ, sS])
    clear hSY4
    refine wpAnyH_ready (rs := [42]) (by kernel_rfl) (by simp) ?_
    refine AllReadyH.cons (o := ⟨some 94, _, _, _, _, _⟩) rfl (fun K hK => ?_) AllReadyH.nil
    rw [if_pos (by rfl)]
    go_simp
    refine (HFQ.out _ hSY5).mono ?_
    rintro e Y6 ⟨f2, rfl, hF2, bY⟩
    have hSY6 := hSY5.trans (bY.mono hSY5.size)
    have HSF := Lib.hid (sameFns_self ((fns9T X).map (·.1)) f1 f2 Y6 (by rw [List.length_map]; exact HFL.out) (hF1.under bY) hF2)
    clear hF1 hF2
    clear bY
    refine hK.out _ _ hSY6 (fun hSn => ?_)
    clear hK K hSn; (try simp only [Act.put, sI, sZ, sS])
    clear hSY5
    refine wpAnyH_ready (rs := [43]) (by kernel_rfl) (by simp) ?_
    refine AllReadyH.cons (o := ⟨some 95, _, _, _, _, _⟩) rfl (fun K hK => ?_) AllReadyH.nil
    rw [if_pos (by rfl)]
    go_simp
    refine (HSF.out).mono ?_
    rintro e Y7 ⟨rfl, bY⟩
    have hSY7 := hSY6.trans (bY.mono hSY6.size)
    clear bY
    refine hK.out _ _ hSY7 (fun hSn => ?_)
    clear hK K hSn; (try simp only [Act.put, sI, sZ, sS])
    clear hSY6
    refine tkq 44 ?_; (try simp only [Act.put, sI, sZ, sS])
    refine tkq 45 ?_; (try simp only [Act.put, sI, sZ, sS])
    refine wpAnyH_ready (rs := [46]) (by kernel_rfl) (by simp) ?_
    refine AllReadyH.cons (o := ⟨some 98, _, _, _, _, _⟩) rfl (fun K hK => ?_) AllReadyH.nil
    rw [if_pos (by rfl)]
    go_simp
    refine (wakes9_any _ (HEW.out.under hSY7)).mono ?_
    rintro e Y8 ⟨rfl, bY⟩
    have hSY8 := hSY7.trans (bY.mono hSY7.size)
    have HB9 := Lib.hid (HWW.out.trans (hSY8.mono HWW.out.size))
    clear bY
    refine hK.out _ _ hSY8 (fun hSn => ?_)
    clear hK K hSn; (try simp only [Act.put, sI, sZ, sS])
    clear hSY7
    refine tkq 47 ?_; (try simp only [Act.put, sI, sZ, sS])
    refine tkq 48 ?_; (try simp only [Act.put, sI, sZ, sS])
    refine wpAnyH_done (by kernel_rfl) ?_ _
    clear hSY8
    go_wp2_with fail
    go_ret
    exact ⟨rfl, HB9.out⟩
   | some y =>
    have HFY := Lib.hid (same_self (found_fits (by rw [← HR.out]; exact hRc)))
    have HSM : Hid (∀ V, Below W.heap.size W V → Calls Tryz.prog 10 #[.agg #[.int .i8 k', .int .i64 n', .string s', .string t', .slice A' m' c'], .agg #[.int .i8 k'', .int .i64 n'', .string s'', .string t'', .slice A'' m'' c'']] V fun e w' => e = .returned (.bool true) ∧ Below V.heap.size V w') := Lib.hid (fun V hV => by
     have h9 := rSame7_any y y _ _ V ((HUX.out y hRc).laterN hV) ((HUY.out y hRc).laterN hV)
     rwa [HFY.out] at h9)
    clear hRc
    refine tkq 0 ?_; (try simp only [Act.put, sI, sZ, sS])
    refine tkq 1 ?_; (try simp only [Act.put, sI, sZ, sS])
    refine tkq 2 ?_; (try simp only [Act.put, sI, sZ, sS])
    refine tkq 3 ?_; (try simp only [Act.put, sI, sZ, sS])
    refine tkq 4 ?_; (try simp only [Act.put, sI, sZ, sS])
    refine tkq 5 ?_; (try simp only [Act.put, sI, sZ, sS])
    refine tkq 6 ?_; (try simp only [Act.put, sI, sZ, sS])
    refine tkq 7 ?_; (try simp only [Act.put, sI, sZ, sS])
    refine tkq 8 ?_; (try simp only [Act.put, sI, sZ, sS])
    refine tkq 9 ?_; (try simp only [Act.put, sI, sZ, sS])
    refine tkq 10 ?_; (try simp only [Act.put, sI, sZ, sS])
    refine tkq 11 ?_; (try simp only [Act.put, sI, sZ, sS])
    refine tkq 12 ?_; (try simp only [Act.put, sI, sZ, sS])
    refine tkq 13 ?_; (try simp only [Act.put, sI, sZ, sS])
    refine tkq 14 ?_; (try simp only [Act.put, sI, sZ, sS])
    refine tkq 15 ?_; (try simp only [Act.put, sI, sZ, sS])
    refine tkq 16 ?_; (try simp only [Act.put, sI, sZ, sS])
    refine wpAnyH_take (i := 17) (oi := ⟨some 69, _, _, _, _, _⟩) (v := ?_) rfl (by kernel_rfl) (by kernel_rfl) (by kernel_rfl) (fun _ _ _ h => h) (Or.inl ⟨by kernel_rfl, ?_⟩) (by assumption) ?_; rotate_left; (intro V hV; (try dsimp only at hV); have p0 := cell_of_row (i := 0) ((hV.block _ (heap_lt HGQ.out)).trans HGQ.out) rfl; have p1 := cell_of_row (i := 1) ((hV.block _ (heap_lt HGQ.out)).trans HGQ.out) rfl; have p2 := cell_of_row (i := 2) ((hV.block _ (heap_lt HGQ.out)).trans HGQ.out) rfl; have p3 := cell_of_row (i := 3) ((hV.block _ (heap_lt HGQ.out)).trans HGQ.out) rfl; have p4 := cell_of_row (i := 4) ((hV.block _ (heap_lt HGQ.out)).trans HGQ.out) rfl; go_simp; first | done | with_reducible rfl); (try simp only [Act.put, sI, sZ, sS])
    refine wpAnyH_take (i := 18) (oi := ⟨some 70, _, _, _, _, _⟩) (v := ?_) rfl (by kernel_rfl) (by kernel_rfl) (by kernel_rfl) (fun _ _ _ h => h) (Or.inl ⟨by kernel_rfl, ?_⟩) (by assumption) ?_; rotate_left; (intro V hV; (try dsimp only at hV); have r0 := cell_of_row (i := 0) ((hV.block _ (heap_lt HGR.out)).trans HGR.out) rfl; have r1 := cell_of_row (i := 1) ((hV.block _ (heap_lt HGR.out)).trans HGR.out) rfl; have r2 := cell_of_row (i := 2) ((hV.block _ (heap_lt HGR.out)).trans HGR.out) rfl; have r3 := cell_of_row (i := 3) ((hV.block _ (heap_lt HGR.out)).trans HGR.out) rfl; have r4 := cell_of_row (i := 4) ((hV.block _ (heap_lt HGR.out)).trans HGR.out) rfl; go_simp; first | done | with_reducible rfl); (try simp only [Act.put, sI, sZ, sS])
    refine wpAnyH_ready (rs := [19]) (by kernel_rfl) (by simp) ?_
    refine AllReadyH.cons (o := ⟨some 71, _, _, _, _, _⟩) rfl (fun K hK => ?_) AllReadyH.nil
    rw [if_pos (by rfl)]
    go_simp
    refine (HSM.out D hS0).mono ?_
    rintro e Y1 ⟨rfl, bY⟩
    have hSY1 := hS0.trans (bY.mono hS0.size)
    clear bY
    refine hK.out _ _ hSY1 (fun hSn => ?_)
    clear hK K hSn; (try simp only [Act.put, sI, sZ, sS])
    clear hS0
    refine tkq 20 ?_; (try simp only [Act.put, sI, sZ, sS])
    refine tkq 21 ?_; (try simp only [Act.put, sI, sZ, sS])
    refine tkq 22 ?_; (try simp only [Act.put, sI, sZ, sS])
    refine tkq 23 ?_; (try simp only [Act.put, sI, sZ, sS])
    refine tkq 24 ?_; (try simp only [Act.put, sI, sZ, sS])
    refine tkq 26 ?_; (try simp only [Act.put, sI, sZ, sS])
    refine tkq 27 ?_; (try simp only [Act.put, sI, sZ, sS])
    refine wpAnyH_ready (rs := [25]) (by kernel_rfl) (by simp) ?_
    refine AllReadyH.cons (o := ⟨some 77, _, _, _, _, _⟩) rfl (fun K hK => ?_) AllReadyH.nil
    rw [if_pos (by rfl)]
    go_simp
    refine (HFB.out _).mono ?_
    rintro e V9 ⟨rfl, rfl⟩
    refine hK.out _ _ hSY1 (fun hSn => ?_)
    clear hK K hSn; (try simp only [Act.put, sI, sZ, sS])
    refine wpAnyH_ready (rs := [28]) (by kernel_rfl) (by simp) ?_
    refine AllReadyH.cons (o := ⟨some 80, _, _, _, _, _⟩) rfl (fun K hK => ?_) AllReadyH.nil
    rw [if_pos (by rfl)]
    go_simp
    refine (HFR.out _).mono ?_
    rintro e V9 ⟨rfl, rfl⟩
    refine hK.out _ _ hSY1 (fun hSn => ?_)
    clear hK K hSn; (try simp only [Act.put, sI, sZ, sS])
    refine tkq 29 ?_; (try simp only [Act.put, sI, sZ, sS])
    refine tkq 30 ?_; (try simp only [Act.put, sI, sZ, sS])
    refine tkq 31 ?_; (try simp only [Act.put, sI, sZ, sS])
    refine wpAnyH_take (i := 32) (oi := ⟨some 84, _, _, _, _, _⟩) (v := ?_) rfl (by kernel_rfl) (by kernel_rfl) (by kernel_rfl) (fun _ _ _ h => h) (Or.inl ⟨by kernel_rfl, ?_⟩) (by assumption) ?_; rotate_left; (intro V hV; (try dsimp only at hV); have b0 := cell_of_row (i := 0) ((hV.block _ (heap_lt HGC2.out)).trans HGC2.out) rfl; have b1 := cell_of_row (i := 1) ((hV.block _ (heap_lt HGC2.out)).trans HGC2.out) rfl; have b2 := cell_of_row (i := 2) ((hV.block _ (heap_lt HGC2.out)).trans HGC2.out) rfl; have b3 := cell_of_row (i := 3) ((hV.block _ (heap_lt HGC2.out)).trans HGC2.out) rfl; have b4 := cell_of_row (i := 4) ((hV.block _ (heap_lt HGC2.out)).trans HGC2.out) rfl; go_simp; first | done | with_reducible rfl); (try simp only [Act.put, sI, sZ, sS])
    refine wpAnyH_take (i := 34) (oi := ⟨some 86, _, _, _, _, _⟩) (v := ?_) rfl (by kernel_rfl) (by kernel_rfl) (by kernel_rfl) (fun _ _ _ h => h) (Or.inl ⟨by kernel_rfl, ?_⟩) (by assumption) ?_; rotate_left; (intro V hV; (try dsimp only at hV); have b0 := cell_of_row (i := 0) ((hV.block _ (heap_lt HGC2.out)).trans HGC2.out) rfl; have b1 := cell_of_row (i := 1) ((hV.block _ (heap_lt HGC2.out)).trans HGC2.out) rfl; have b2 := cell_of_row (i := 2) ((hV.block _ (heap_lt HGC2.out)).trans HGC2.out) rfl; have b3 := cell_of_row (i := 3) ((hV.block _ (heap_lt HGC2.out)).trans HGC2.out) rfl; have b4 := cell_of_row (i := 4) ((hV.block _ (heap_lt HGC2.out)).trans HGC2.out) rfl; go_simp; first | done | with_reducible rfl); (try simp only [Act.put, sI, sZ, sS])
    refine wpAnyH_ready (rs := [33]) (by kernel_rfl) (by simp) ?_
    refine AllReadyH.cons (o := ⟨some 85, _, _, _, _, _⟩) rfl (fun K hK => ?_) AllReadyH.nil
    rw [if_pos (by rfl)]
    go_simp
    refine (HNM.out _ hSY1).mono ?_
    rintro e Y2 ⟨N1, nc1, rfl, hN1, bY⟩
    have hSY2 := hSY1.trans (bY.mono hSY1.size)
    clear bY
    refine hK.out _ _ hSY2 (fun hSn => ?_)
    clear hK K hSn; (try simp only [Act.put, sI, sZ, sS])
    clear hSY1
    refine wpAnyH_ready (rs := [35]) (by kernel_rfl) (by simp) ?_
    refine AllReadyH.cons (o := ⟨some 87, _, _, _, _, _⟩) rfl (fun K hK => ?_) AllReadyH.nil
    rw [if_pos (by rfl)]
    go_simp
    refine (HNR.out _ hSY2).mono ?_
    rintro e Y3 ⟨N2, nc2, rfl, hN2, hlen, bY⟩
    have hSY3 := hSY2.trans (bY.mono hSY2.size)
    have hN1b : SRow Y3 N1 NL := fun j b hj => by obtain ⟨ad, e1, e2, e3⟩ := hN1 j b hj; exact ⟨ad, e1, Nat.lt_of_lt_of_le e2 bY.size, (bY.cell (World.block_lt_of_cell? _ _ e3)).trans e3⟩
    have HWD := Lib.hid (rwords7_any NL NL N1 N2 nc1 nc2 Y3 (by unfold maxLen; omega) (by unfold maxLen; omega) hN1b hN2)
    rw [show decide (NL = NL) = true from decide_eq_true rfl] at HWD
    clear hN1 hN1b hN2 hlen
    clear bY
    refine hK.out _ _ hSY3 (fun hSn => ?_)
    clear hK K hSn; (try simp only [Act.put, sI, sZ, sS])
    clear hSY2
    refine wpAnyH_ready (rs := [36]) (by kernel_rfl) (by simp) ?_
    refine AllReadyH.cons (o := ⟨some 88, _, _, _, _, _⟩) rfl (fun K hK => ?_) AllReadyH.nil
    rw [if_pos (by rfl)]
    go_simp
    refine (HWD.out).mono ?_
    rintro e Y4 ⟨rfl, bY⟩
    have hSY4 := hSY3.trans (bY.mono hSY3.size)
    clear bY
    refine hK.out _ _ hSY4 (fun hSn => ?_)
    clear hK K hSn; (try simp only [Act.put, sI, sZ, sS])
    clear hSY3
    refine tkq 37 ?_; (try simp only [Act.put, sI, sZ, sS])
    refine tkq 38 ?_; (try simp only [Act.put, sI, sZ, sS])
    refine wpAnyH_take (i := 39) (oi := ⟨some 91, _, _, _, _, _⟩) (v := ?_) rfl (by kernel_rfl) (by kernel_rfl) (by kernel_rfl) (fun _ _ _ h => h) (Or.inl ⟨by kernel_rfl, ?_⟩) (by assumption) ?_; rotate_left; (intro V hV; (try dsimp only at hV); have a0 := cell_of_row (i := 0) ((hV.block _ (heap_lt HGN.out)).trans HGN.out) rfl; have a1 := cell_of_row (i := 1) ((hV.block _ (heap_lt HGN.out)).trans HGN.out) rfl; have a2 := cell_of_row (i := 2) ((hV.block _ (heap_lt HGN.out)).trans HGN.out) rfl; have a3 := cell_of_row (i := 3) ((hV.block _ (heap_lt HGN.out)).trans HGN.out) rfl; have a4 := cell_of_row (i := 4) ((hV.block _ (heap_lt HGN.out)).trans HGN.out) rfl; go_simp; first | done | with_reducible rfl); (try simp only [Act.put, sI, sZ, sS])
    refine wpAnyH_take (i := 41) (oi := ⟨some 93, _, _, _, _, _⟩) (v := ?_) rfl (by kernel_rfl) (by kernel_rfl) (by kernel_rfl) (fun _ _ _ h => h) (Or.inl ⟨by kernel_rfl, ?_⟩) (by assumption) ?_; rotate_left; (intro V hV; (try dsimp only at hV); have a0 := cell_of_row (i := 0) ((hV.block _ (heap_lt HGN.out)).trans HGN.out) rfl; have a1 := cell_of_row (i := 1) ((hV.block _ (heap_lt HGN.out)).trans HGN.out) rfl; have a2 := cell_of_row (i := 2) ((hV.block _ (heap_lt HGN.out)).trans HGN.out) rfl; have a3 := cell_of_row (i := 3) ((hV.block _ (heap_lt HGN.out)).trans HGN.out) rfl; have a4 := cell_of_row (i := 4) ((hV.block _ (heap_lt HGN.out)).trans HGN.out) rfl; go_simp; first | done | with_reducible rfl); (try simp only [Act.put, sI, sZ, sS])
    refine wpAnyH_ready (rs := [40]) (by kernel_rfl) (by simp) ?_
    refine AllReadyH.cons (o := ⟨some 92, _, _, _, _, _⟩) rfl (fun K hK => ?_) AllReadyH.nil
    rw [if_pos (by rfl)]
    go_simp
    refine (HFF.out _ hSY4).mono ?_
    rintro e Y5 ⟨f1, rfl, hF1, bY⟩
    have hSY5 := hSY4.trans (bY.mono hSY4.size)
    clear bY
    refine hK.out _ _ hSY5 (fun hSn => ?_)
    clear hK K hSn; (try simp only [Act.put, sI, sZ, sS])
    clear hSY4
    refine wpAnyH_ready (rs := [42]) (by kernel_rfl) (by simp) ?_
    refine AllReadyH.cons (o := ⟨some 94, _, _, _, _, _⟩) rfl (fun K hK => ?_) AllReadyH.nil
    rw [if_pos (by rfl)]
    go_simp
    refine (HFQ.out _ hSY5).mono ?_
    rintro e Y6 ⟨f2, rfl, hF2, bY⟩
    have hSY6 := hSY5.trans (bY.mono hSY5.size)
    have HSF := Lib.hid (sameFns_self ((fns9T X).map (·.1)) f1 f2 Y6 (by rw [List.length_map]; exact HFL.out) (hF1.under bY) hF2)
    clear hF1 hF2
    clear bY
    refine hK.out _ _ hSY6 (fun hSn => ?_)
    clear hK K hSn; (try simp only [Act.put, sI, sZ, sS])
    clear hSY5
    refine wpAnyH_ready (rs := [43]) (by kernel_rfl) (by simp) ?_
    refine AllReadyH.cons (o := ⟨some 95, _, _, _, _, _⟩) rfl (fun K hK => ?_) AllReadyH.nil
    rw [if_pos (by rfl)]
    go_simp
    refine (HSF.out).mono ?_
    rintro e Y7 ⟨rfl, bY⟩
    have hSY7 := hSY6.trans (bY.mono hSY6.size)
    clear bY
    refine hK.out _ _ hSY7 (fun hSn => ?_)
    clear hK K hSn; (try simp only [Act.put, sI, sZ, sS])
    clear hSY6
    refine tkq 44 ?_; (try simp only [Act.put, sI, sZ, sS])
    refine tkq 45 ?_; (try simp only [Act.put, sI, sZ, sS])
    refine wpAnyH_ready (rs := [46]) (by kernel_rfl) (by simp) ?_
    refine AllReadyH.cons (o := ⟨some 98, _, _, _, _, _⟩) rfl (fun K hK => ?_) AllReadyH.nil
    rw [if_pos (by rfl)]
    go_simp
    refine (wakes9_any _ (HEW.out.under hSY7)).mono ?_
    rintro e Y8 ⟨rfl, bY⟩
    have hSY8 := hSY7.trans (bY.mono hSY7.size)
    have HB9 := Lib.hid (HWW.out.trans (hSY8.mono HWW.out.size))
    clear bY
    refine hK.out _ _ hSY8 (fun hSn => ?_)
    clear hK K hSn; (try simp only [Act.put, sI, sZ, sS])
    clear hSY7
    refine tkq 47 ?_; (try simp only [Act.put, sI, sZ, sS])
    refine tkq 48 ?_; (try simp only [Act.put, sI, sZ, sS])
    refine wpAnyH_done (by kernel_rfl) ?_ _
    clear hSY8
    go_wp2_with fail
    go_ret
    exact ⟨rfl, HB9.out⟩
end Go.Proofs.YtmdcdhdjojimeaaGreatDoor
