/- Layer 9: Find. -/
import Derived.Test.YtmdcdhdjojimeaaGreatDoorKSide9
import Derived.Test.YtmdcdhdjojimeaaGreatDoorKHas7
import Derived.Test.YtmdcdhdjojimeaaGreatDoorKLay9
import Derived.Test.YtmdcdhdjojimeaaGreatDoorKFnsR9
import Derived.Deep.RegionHeld
import Derived.OrdersHeld
section
set_option linter.unusedVariables false
set_option linter.unusedSimpArgs false
namespace Go.Proofs.YtmdcdhdjojimeaaGreatDoor
open Go.RowKit Go.Shelf

theorem one_at9 {P : Nat → Prop} {w : World} {x : Tm} {cs : Array Value} {g : Nat} {k n : Int} {s t : ByteArray} (hx : TmAt P w x (.agg cs)) (hg : w.heap[g]? = some (.cells cs 25 (0, 0))) (hP : P g)
  (hk : -128 ≤ k ∧ k ≤ 127) (hn : -9223372036854775808 ≤ n ∧ n ≤ 9223372036854775807) (hs : s.size ≤ maxLen) (ht : t.size ≤ maxLen) :
  TmAt P w (.mk k n s t [x]) (.agg #[.int .i8 k, .int .i64 n, .string s, .string t, .slice (some ⟨g, 0, none⟩) 1 1]) := by
 refine TmAt.mk (l := [x]) (fun _ => .agg cs) hk hn hs ht (by unfold maxLen; simp) (Nat.le_refl _) (fun j hj => ?_) (fun j y hy => ?_)
 ·have hj0 : j = 0 := by simp at hj; omega
  subst hj0
  refine ⟨⟨g, 0, none⟩, rfl, hP, ?_⟩
  have e : (⟨g, 0, none⟩ : Addr).add (0 * 5) = ⟨g, 0, none⟩ := by unfold Addr.add; split <;> simp_all
  unfold ElemAt
  rw [e]
  cases hx with
  | mk vs => exact ⟨_, _, _, _, _, rfl, cell_of_row (i := 0) hg rfl, cell_of_row (i := 1) hg rfl, cell_of_row (i := 2) hg rfl, cell_of_row (i := 3) hg rfl, cell_of_row (i := 4) hg rfl⟩
 ·have hj0 : j = 0 ∧ y = x := by
   match j, hy with
   | 0, hy => simp at hy; exact ⟨rfl, hy.symm⟩
   | j + 1, hy => simp at hy
  obtain ⟨rfl, rfl⟩ := hj0
  exact hx
set_option maxHeartbeats 8000000 in
set_option maxRecDepth 100000 in
theorem names_any (c : Tm) (nv : Value) (w : World) (hT : TmAt (· < w.heap.size) w c nv) (hN : c.nodes ≤ 8191) (hE : Env7 w) :
  Calls Tryz.prog 14 #[nv] w fun e w' => ∃ v, e = .returned v ∧ w'.ownsRow w.heap.size 9 1 v (names9 c).length ((names9 c).map .string) ∧ Below w.heap.size w w' := by
 obtain ⟨k, n, s, t, L, A, cap, hx, rfl⟩ : ∃ k' n' s' t' L' A' cap', c = Tm.mk k' n' s' t' L' ∧ nv = .agg #[.int .i8 k', .int .i64 n', .string s', .string t', .slice A' L'.length cap'] := by
  cases hT; exact ⟨_, _, _, _, _, _, _, rfl, rfl⟩
 obtain ⟨w5, hw5⟩ : ∃ w5, w5 = ((((w.alloc (.cells #[.int .i8 k, .int .i64 n, .string s, .string t, .slice A L.length cap] 25)).alloc (.cells #[.int .i8 k, .int .i64 n, .string s, .string t, .slice A L.length cap] 25)).alloc (.cells #[.int .i8 2, .int .i64 n, .string ⟨#[102]⟩, .string ⟨#[]⟩, .slice (some ⟨w.heap.size + 1, 0, none⟩) 1 1] 25)).alloc (.cells #[.int .i8 2, .int .i64 n, .string ⟨#[102]⟩, .string ⟨#[]⟩, .slice (some ⟨w.heap.size + 1, 0, none⟩) 1 1] 25)).alloc (.cells #[.int .i8 1, .int .i64 0, .string ⟨#[109]⟩, .string ⟨#[]⟩, .slice (some ⟨w.heap.size + 3, 0, none⟩) 1 1] 25) := ⟨_, rfl⟩
 obtain ⟨g0, g1, g2, g3, g4, b5, z5⟩ := five_at w _ _ _ _ _ w5 hw5
 obtain ⟨w6, hw6⟩ : ∃ w6, w6 = w5.alloc (.cells #[.int .i8 0, .int .i64 0, .string ⟨#[]⟩, .string ⟨#[]⟩, .slice (some ⟨w.heap.size + 4, 0, none⟩) 1 1] 25) := ⟨_, rfl⟩
 have b56 : Below w5.heap.size w5 w6 := by rw [hw6]; exact (Below.refl _ _).alloc (Nat.le_refl _) _
 have z6 : w6.heap.size = w.heap.size + 6 := by rw [hw6, World.size_alloc, z5]
 have g5 : w6.heap[w.heap.size + 5]? = some (.cells #[.int .i8 0, .int .i64 0, .string ⟨#[]⟩, .string ⟨#[]⟩, .slice (some ⟨w.heap.size + 4, 0, none⟩) 1 1] 25 (0, 0)) := by rw [hw6, ← z5]; exact block_alloc _ _
 have b6 : Below w.heap.size w w6 := b5.trans (b56.mono (by omega))
 have up : ∀ {k : Nat} {o : Obj}, w5.heap[k]? = some o → w6.heap[k]? = some o := fun h => (b56.block _ (heap_lt h)).trans h
 have hc6 : TmAt (· < w6.heap.size) w6 c (.agg #[.int .i8 k, .int .i64 n, .string s, .string t, .slice A L.length cap]) := (hT.under b6 (Nat.le_refl _)).mono (fun b hb => by omega)
 have hbn : -9223372036854775808 ≤ n ∧ n ≤ 9223372036854775807 := by have h9 := hT; rw [hx] at h9; obtain ⟨_, _, _, _, _, h, _⟩ := h9.parts; exact h
 have hf6 := one_at9 (k := 2) (n := n) (s := ⟨#[102]⟩) (t := ⟨#[]⟩) hc6 (up g1) (by omega) (by omega) hbn (by decide) (by decide)
 have hm6 := one_at9 (k := 1) (n := 0) (s := ⟨#[109]⟩) (t := ⟨#[]⟩) hf6 (up g3) (by omega) (by omega) (by omega) (by decide) (by decide)
 have ht6 := one_at9 (k := 0) (n := 0) (s := ⟨#[]⟩) (t := ⟨#[]⟩) hm6 (up g4) (by omega) (by omega) (by omega) (by decide) (by decide)
 have hwr : Tm.mk 0 0 ⟨#[]⟩ ⟨#[]⟩ [.mk 1 0 ⟨#[109]⟩ ⟨#[]⟩ [.mk 2 n ⟨#[102]⟩ ⟨#[]⟩ [c]]] = wrap9 c := by rw [hx]; rfl
 rw [hwr] at ht6
 have hnod : (wrap9 c).nodes = c.nodes + 3 := by
  unfold wrap9
  rw [nodes_mk9]
  simp only [Tm.pres, Tm.pre, List.length_append, List.length_cons, List.length_nil]
  rfl
 have HCK := Lib.hid (check7_ok (wrap9 c) _ w6 ht6 (by omega) (hE.under b6))
 have HT6 := Lib.hid ht6
 have HB6 := Lib.hid b6
 have HG5 := Lib.hid g5
 have HND := Lib.hid hnod
 have HX : Hid (c.n = n) := by rw [hx]; rfl
 have hw6b := hw6
 rw [hw5] at hw6b
 clear hT hE hx g0 g1 g2 g3 g4 b5 b56 z5 z6 g5 b6 up hc6 hbn hf6 hm6 ht6 hwr hnod hw5 hw6
 go_enter Tryz.func14, Tryz.ntmps14
 go_wp2_with fail
 simp only [Nat.add_assoc, Nat.reduceAdd]
 rw [← hw6b]
 clear hw6b
 refine HCK.out.mono ?_
 rintro e w7 ⟨rfl, b7⟩
 have hb7 : Below w.heap.size w w7 := HB6.out.trans (b7.mono HB6.out.size)
 rcases checkR_or (wrap9 c) with ⟨e0, hf, hm⟩ | ⟨e0, hno⟩
 ·rw [e0]
  have hn4 : (wrap9 c).nodes ≤ 4096 := by have h9 := hf; unfold fitsB at h9; exact (of_decide_eq_true h9).1
  have hg7 := (b7.block _ (heap_lt HG5.out)).trans HG5.out
  have d0 := cell_of_row (i := 0) hg7 rfl
  have d1 := cell_of_row (i := 1) hg7 rfl
  have d2 := cell_of_row (i := 2) hg7 rfl
  have d3 := cell_of_row (i := 3) hg7 rfl
  have d4 := cell_of_row (i := 4) hg7 rfl
  have HLD := Lib.hid (laid_any9 (wrap9 c) _ w7 ((HT6.out.under b7 (Nat.le_refl _)).mono (fun b hb => Nat.lt_of_lt_of_le hb b7.size)) hn4)
  have hfo : FunOk (.mk 2 c.n (bOf [102]) ⟨#[]⟩ [c]) := ((modsB_ok hm).2 _ (List.mem_cons_self)).2 _ List.mem_cons_self
  have hcl := hfo.cls c List.mem_cons_self
  have har : 0 ≤ c.n ∧ c.n ≤ 8 := hfo.arity
  have hpl : PlaceAt (wrap9 c).pre 3 c := ⟨[], by simp [wrap9, Tm.pre, Tm.pres]⟩
  have HNM : Hid (names9 c = (clW (32 - c.n) 3 c).all) := if_pos ⟨hf, hm⟩
  have HB7 := Lib.hid hb7
  have HCL := Lib.hid (And.intro hcl (And.intro har hpl))
  clear b7 hb7 hg7 hn4 hf hm hfo hcl har hpl e0
  go_wp2_with fail
  refine HLD.out.mono ?_
  rintro e w8 ⟨LB, lc, rfl, hlay, b8⟩
  have HWK := Lib.hid (walked_any9 (wrap9 c).pre LB lc 3 c w8 hlay HCL.out.2.2 (fun z hz => (HCL.out.1.2 z hz).1) HCL.out.2.1)
  have HB8 : Hid (Below w.heap.size w w8) := HB7.out.trans (b8.mono HB7.out.size)
  clear hlay b8 d0 d1 d2 d3 d4
  go_wp2_with fail
  refine HWK.out.mono ?_
  rintro e w9 ⟨X, hX0, hXb, hXP, rfl, hWk⟩
  obtain ⟨hXok, -, es3, es4, c3, c4, nv3, ov3, fv3, fs3, hWR⟩ := hWk
  have cB := cell_of_row (i := 5) hWR.box rfl
  have hbw : Below w8.heap.size w8 w9 := by have h9 := hWR.below; rw [hX0, hXb] at h9; exact h9
  have hord := hWR.order
  rw [hXb] at hord
  have HORD := Lib.hid hord
  have HB9 : Hid (Below w.heap.size w w9) := HB8.out.trans (hbw.mono HB8.out.size)
  clear hWR hbw hord hXok
  go_wp2_with fail
  go_ret
  refine ⟨_, rfl, ?_, HB9.out⟩
  rw [HNM.out]
  obtain ⟨h1, h2⟩ := HORD.out
  refine ⟨h1, ?_⟩
  rcases h2 with h2 | ⟨g, cap', cur, e1, e2, e3⟩
  ·exact .inl h2
  ·exact .inr ⟨g, cap', cur, e1, Nat.le_trans HB8.out.size e2, e3⟩
 ·rw [e0]
  have HNM : Hid (names9 c = []) := if_neg hno
  have HB7 := Lib.hid hb7
  clear b7 hb7 e0 hno
  go_wp2_with fail
  go_ret
  refine ⟨_, rfl, ?_, HB7.out⟩
  rw [HNM.out]
  exact World.ownsRow_nil _ _ _ _
end Go.Proofs.YtmdcdhdjojimeaaGreatDoor
end
section
set_option linter.unusedVariables false
namespace Go.Proofs.YtmdcdhdjojimeaaGreatDoor
open Go.RowKit

theorem row1_of {P : Nat → Prop} {w : World} {b : Nat} {T : TypeId} {c0 c1 c2 c3 c4 : Value} {x : Tm} (h : w.heap[b]? = some (.cells #[c0, c1, c2, c3, c4] T (0, 0))) (hP : P b) (hx : TmAt P w x (.agg #[c0, c1, c2, c3, c4])) : TRow P w (some ⟨b, 0, none⟩) 1 1 [x] :=
 ⟨rfl, by decide, by decide, fun j y hj => by
  match j, hj with
  | 0, hj =>
   simp at hj; subst hj
   exact ⟨_, _, rfl, hP, ⟨c0, c1, c2, c3, c4, rfl, cell_of_row (i := 0) h rfl, cell_of_row (i := 1) h rfl, cell_of_row (i := 2) h rfl, cell_of_row (i := 3) h rfl, cell_of_row (i := 4) h rfl⟩, hx⟩
  | j + 1, hj => simp at hj⟩
theorem row3_of {P : Nat → Prop} {w : World} {b : Nat} {T : TypeId} {c0 c1 c2 c3 c4 d0 d1 d2 d3 d4 e0 e1 e2 e3 e4 : Value} {x y z : Tm} (h : w.heap[b]? = some (.cells #[c0, c1, c2, c3, c4, d0, d1, d2, d3, d4, e0, e1, e2, e3, e4] T (0, 0))) (hP : P b) (hx : TmAt P w x (.agg #[c0, c1, c2, c3, c4])) (hy : TmAt P w y (.agg #[d0, d1, d2, d3, d4])) (hz : TmAt P w z (.agg #[e0, e1, e2, e3, e4])) : TRow P w (some ⟨b, 0, none⟩) 3 3 [x, y, z] :=
 ⟨rfl, by decide, by decide, fun j u hj => by
  match j, hj with
  | 0, hj =>
   simp at hj; subst hj
   exact ⟨_, _, rfl, hP, ⟨c0, c1, c2, c3, c4, rfl, cell_of_row (i := 0) h rfl, cell_of_row (i := 1) h rfl, cell_of_row (i := 2) h rfl, cell_of_row (i := 3) h rfl, cell_of_row (i := 4) h rfl⟩, hx⟩
  | 1, hj =>
   simp at hj; subst hj
   exact ⟨_, _, rfl, hP, ⟨d0, d1, d2, d3, d4, rfl, cell_of_row (i := 5) h rfl, cell_of_row (i := 6) h rfl, cell_of_row (i := 7) h rfl, cell_of_row (i := 8) h rfl, cell_of_row (i := 9) h rfl⟩, hy⟩
  | 2, hj =>
   simp at hj; subst hj
   exact ⟨_, _, rfl, hP, ⟨e0, e1, e2, e3, e4, rfl, cell_of_row (i := 10) h rfl, cell_of_row (i := 11) h rfl, cell_of_row (i := 12) h rfl, cell_of_row (i := 13) h rfl, cell_of_row (i := 14) h rfl⟩, hz⟩
  | j + 3, hj => simp at hj⟩
theorem TmAt.leaf (P : Nat → Prop) (w : World) (k n : Int) (s : ByteArray) (hk : -128 ≤ k ∧ k ≤ 127) (hn : -9223372036854775808 ≤ n ∧ n ≤ 9223372036854775807) (hs : s.size ≤ maxLen) : TmAt P w (.mk k n s ⟨#[]⟩ []) (.agg #[.int .i8 k, .int .i64 n, .string s, .string ⟨#[]⟩, .slice none 0 0]) :=
 .of_row (.nil P w none 0) hk hn hs (by decide)

theorem here_of {W : World} {n : Nat} (o : Obj) (h : W.heap.size = n) : (W.alloc o).heap[n]? = some o ∧ (W.alloc o).heap.size = n + 1 := by subst h; exact ⟨block_alloc W o, World.size_alloc _ _⟩
theorem there_of {W : World} {n : Nat} {o' : Obj} (o : Obj) (h : W.heap[n]? = some o') : (W.alloc o).heap[n]? = some o' := (Below.heap_alloc _ _ _ (heap_lt h)).trans h
theorem set_five7 {w : World} {b : Nat} {T : TypeId} {a0 a1 a2 a3 a4 : Value} (c0 c1 c2 c3 c4 : Value) (h : w.heap[b]? = some (.cells #[a0, a1, a2, a3, a4] T (0, 0))) :
  (((((w.setCell ⟨b, 0, none⟩ c0).setCell ⟨b, 1, none⟩ c1).setCell ⟨b, 2, none⟩ c2).setCell ⟨b, 3, none⟩ c3).setCell ⟨b, 4, none⟩ c4).heap[b]? = some (.cells #[c0, c1, c2, c3, c4] T (0, 0)) ∧
  Mod (fun k => k = b) w (((((w.setCell ⟨b, 0, none⟩ c0).setCell ⟨b, 1, none⟩ c1).setCell ⟨b, 2, none⟩ c2).setCell ⟨b, 3, none⟩ c3).setCell ⟨b, 4, none⟩ c4) := by
 refine ⟨set_row c4 (i := 4) (set_row c3 (i := 3) (set_row c2 (i := 2) (set_row c1 (i := 1) (set_row c0 (i := 0) h)))), ?_⟩
 have m : ∀ (W : World) (i : Nat) (c : Value), Mod (fun k => k = b) W (W.setCell ⟨b, i, none⟩ c) := fun W i c => Mod.setCell _ _ _ (.inl rfl)
 exact ((((m _ 0 _).trans (m _ 1 _) (fun _ _ h => h)).trans (m _ 2 _) (fun _ _ h => h)).trans (m _ 3 _) (fun _ _ h => h)).trans (m _ 4 _) (fun _ _ h => h)

end Go.Proofs.YtmdcdhdjojimeaaGreatDoor
end
section
set_option linter.unusedVariables false
set_option linter.unusedSimpArgs false
namespace Go.Proofs.YtmdcdhdjojimeaaGreatDoor
open Go.RowKit Go.Shelf

theorem post_named {p : Program} {f : Func} {Q : Ending → World → Prop} {e : Exit} {a : Act} {w : World} (h : ∀ W, W = w → bodyPost p f Q e a W) : bodyPost p f Q e a w := h w rfl
theorem allocs7_at (w : World) (a b c d e f g : Obj) (W : World) (h : W = ((((((w.alloc a).alloc b).alloc c).alloc d).alloc e).alloc f).alloc g) :
  W.heap[w.heap.size]? = some a ∧ W.heap[w.heap.size + 1]? = some b ∧ W.heap[w.heap.size + 2]? = some c ∧ W.heap[w.heap.size + 3]? = some d ∧ W.heap[w.heap.size + 4]? = some e ∧ W.heap[w.heap.size + 5]? = some f ∧ W.heap[w.heap.size + 6]? = some g ∧ Below w.heap.size w W ∧ W.heap.size = w.heap.size + 7 := by
 obtain ⟨h0, z0⟩ := here_of a (rfl : w.heap.size = w.heap.size)
 obtain ⟨h1, z1⟩ := here_of b z0
 obtain ⟨h2, z2⟩ := here_of c z1
 obtain ⟨h3, z3⟩ := here_of d z2
 obtain ⟨h4, z4⟩ := here_of e z3
 obtain ⟨h5, z5⟩ := here_of f z4
 obtain ⟨h6, z6⟩ := here_of g z5
 subst h
 refine ⟨there_of _ (there_of _ (there_of _ (there_of _ (there_of _ (there_of _ h0))))), there_of _ (there_of _ (there_of _ (there_of _ (there_of _ h1)))), there_of _ (there_of _ (there_of _ (there_of _ h2))), there_of _ (there_of _ (there_of _ h3)), there_of _ (there_of _ h4), there_of _ h5, h6, ?_, z6⟩
 exact ((((((((Below.refl _ w).alloc (Nat.le_refl _) _).alloc (by omega) _).alloc (by omega) _).alloc (by omega) _).alloc (by omega) _).alloc (by omega) _).alloc (by omega) _)

set_option maxHeartbeats 8000000 in
set_option maxRecDepth 100000 in
theorem one9_any (x : Tm) (v : Value) (w : World) (hx : TmAt (· < w.heap.size) w x v) :
  Calls Tryz.prog 20 #[v] w fun e w' => ∃ r, e = .returned r ∧ TmAt (· < w'.heap.size) w' (one9 x) r ∧ Below w.heap.size w w' := by
 have HX := Lib.hid hx
 obtain ⟨X, hX⟩ : ∃ X, X = x := ⟨_, rfl⟩
 obtain ⟨k, n, s, t, l⟩ := x
 obtain ⟨A, cap, rfl, -⟩ := hx.parts
 rw [← hX] at HX
 rw [← hX]
 clear hx hX
 go_enter Tryz.func20, Tryz.ntmps20
 go_wp2_with fail
 simp only [Nat.add_assoc, Nat.reduceAdd]
 refine post_named (fun WF hWF => ?_)
 obtain ⟨-, r1, r2, -, r4, r5, r6, bf, zf⟩ := allocs7_at w _ _ _ _ _ _ _ WF hWF
 clear hWF
 have hX := HX.out.laterN bf
 have tr3 := row3_of (P := (· < WF.heap.size)) r2 (heap_lt r2) (.leaf (· < WF.heap.size) WF 5 0 ⟨#[88]⟩ (by omega) (by omega) (by decide)) (.leaf (· < WF.heap.size) WF 4 0 ⟨#[]⟩ (by omega) (by omega) (by decide)) hX
 have c1 := TmAt.of_row (k := 3) (n := 1) (s := ⟨#[]⟩) (t := ⟨#[]⟩) (l := [_, _, _]) tr3 (by omega) (by omega) (by decide) (by decide)
 have c2 := TmAt.of_row (k := 2) (n := 1) (s := ⟨#[102]⟩) (t := ⟨#[]⟩) (l := [_]) (row1_of (P := (· < WF.heap.size)) r4 (heap_lt r4) c1) (by omega) (by omega) (by decide) (by decide)
 have c3 := TmAt.of_row (k := 1) (n := 0) (s := ⟨#[109]⟩) (t := ⟨#[]⟩) (l := [_]) (row1_of (P := (· < WF.heap.size)) r5 (heap_lt r5) c2) (by omega) (by omega) (by decide) (by decide)
 have c4 := TmAt.of_row (k := 0) (n := 0) (s := ⟨#[]⟩) (t := ⟨#[]⟩) (l := [_]) (row1_of (P := (· < WF.heap.size)) r6 (heap_lt r6) c3) (by omega) (by omega) (by decide) (by decide)
 have HC := Lib.hid (And.intro c4 bf)
 have w0 := cell_of_row (i := 0) r1 rfl
 have w1 := cell_of_row (i := 1) r1 rfl
 have w2 := cell_of_row (i := 2) r1 rfl
 have w3 := cell_of_row (i := 3) r1 rfl
 have w4 := cell_of_row (i := 4) r1 rfl
 clear tr3 c1 c2 c3 c4 hX
 refine bodyPost_ret (v := .agg #[.int .i8 0, .int .i64 0, .string ⟨#[]⟩, .string ⟨#[]⟩, .slice (some ⟨w.heap.size + 6, 0, none⟩) 1 1]) (by simp [results, Tryz.f20, go_sem, w0, w1, w2, w3, w4]) rfl ⟨_, rfl, HC.out.1, HC.out.2⟩

theorem fits_one9 (e : Tm) (h : e.nodes ≤ 4000) : (one9 e).nodes ≤ 8200 := by
 unfold one9
 simp only [Tm.nodes_mk, Tm.pres, Tm.pre, List.length_append, List.length_cons, List.length_nil]
 have : e.pre.length = e.nodes := rfl
 omega
structure Env9 (w : World) : Prop where
 env : Env7 w
 err : w.cell? ⟨0, 0, none⟩ = some (.iface 105 (.agg #[.pointer (some ⟨hb9, 47, none⟩)]))
theorem Env9.under {w w' : World} (h : Env9 w) (hb : Below w.heap.size w w') : Env9 w' := by
 refine ⟨h.env.under hb, ?_⟩
 have hl : 0 < w.heap.size := by
  rcases Nat.eq_zero_or_pos w.heap.size with h0 | h0
  ·have he := h.err
   have hn : w.heap[0]? = none := by rw [Array.getElem?_eq_none]; omega
   simp [World.cell?, hn] at he
  ·exact h0
 exact (hb.cell (p := ⟨0, 0, none⟩) hl).trans h.err
end Go.Proofs.YtmdcdhdjojimeaaGreatDoor
end
section
set_option linter.unusedVariables false
set_option linter.unusedSimpArgs false
namespace Go.Proofs.YtmdcdhdjojimeaaGreatDoor
open Go.RowKit Go.Shelf
attribute [local go_sem] Oper.semAt_some

def findT (key : Fn9) : List (Fn9 × Tm) → Option Tm
 | [] => none
 | q :: l => if q.1 = key then some q.2 else findT key l
theorem findT_none {key : Fn9} : ∀ {l : List (Fn9 × Tm)}, (∀ q ∈ l, q.1 ≠ key) → findT key l = none
 | [], _ => rfl
 | q :: l, h => by rw [findT, if_neg (h q List.mem_cons_self), findT_none (fun z hz => h z (List.mem_cons_of_mem _ hz))]
theorem findT_at {key : Fn9} : ∀ {l : List (Fn9 × Tm)} {j : Nat} {q : Fn9 × Tm}, l[j]? = some q → (∀ z ∈ l.take j, z.1 ≠ key) → q.1 = key → findT key l = some q.2
 | [], j, q, h, _, _ => by simp at h
 | z :: l, 0, q, h, _, hq => by
  simp at h; subst h
  rw [findT, if_pos hq]
 | z :: l, j + 1, q, h, hn, hq => by
  rw [findT, if_neg (hn z (by rw [List.take_succ_cons]; exact List.mem_cons_self))]
  exact findT_at (by simpa using h) (fun y hy => hn y (by rw [List.take_succ_cons]; exact List.mem_cons_of_mem _ hy)) hq
def FiI (w7 : World) (key : Fn9) (pre : List FnI) (W : World) : Prop := Below w7.heap.size w7 W ∧ ∀ q ∈ pre, q.1 ≠ key
def FiX (w w7 : World) (key : Fn9) (c : Code) (W : World) (x : Tm) : Prop := c = .ret ∧ ∃ y k' n' s' t' A' m' c', findT key (fns9T x) = some y ∧ TmAt (· < w.heap.size) w y (.agg #[.int .i8 k', .int .i64 n', .string s', .string t', .slice A' m' c']) ∧
 W.heap[w.heap.size + 4]? = some (.cells #[.int .i8 k', .int .i64 n', .string s', .string t', .slice A' m' c'] 25 (0, 0)) ∧ W.heap[w.heap.size + 5]? = some (.cells #[.bool true] 4 (0, 0)) ∧ Below w.heap.size w W ∧ w7.heap.size ≤ W.heap.size
theorem FiI.soft {w7 A C : World} {key : Fn9} {pre : List FnI} (h : FiI w7 key pre A) (hs : Soft w7.heap.size A C) : FiI w7 key pre C := ⟨h.1.trans hs.below, h.2⟩
theorem FiX.soft {w w7 A C : World} {key : Fn9} {c : Code} {x : Tm} (h : FiX w w7 key c A x) (hs : Soft w7.heap.size A C) (hw : w.heap.size ≤ w7.heap.size) : FiX w w7 key c C x := by
 obtain ⟨h0, y, k', n', s', t', A', m', c', h1, h2, h3, h4, h5, h6⟩ := h
 exact ⟨h0, y, k', n', s', t', A', m', c', h1, h2, hs.same _ _ h3 (.inl rfl), hs.same _ _ h4 (.inl rfl), h5.trans (hs.below.mono hw), Nat.le_trans h6 hs.below.size⟩
set_option maxHeartbeats 16000000 in
set_option maxRecDepth 100000 in
theorem find_any (x : Tm) (nv : Value) (md nm : ByteArray) (ar : Int) (w : World) (hT : TmAt (· < w.heap.size) w x nv) (hN : x.nodes ≤ 8200) (hE : Env7 w) :
    Calls Tryz.prog 8 #[nv, .string md, .string nm, .int .i64 ar] w fun e w' => ∃ v, (∃ k' n' s' t' A' m' c', v = .agg #[.int .i8 k', .int .i64 n', .string s', .string t', .slice A' m' c']) ∧ e = .returned (.tuple #[v, .bool (findT (md, nm, ar) (fns9T x)).isSome]) ∧ (∀ y, findT (md, nm, ar) (fns9T x) = some y → TmAt (· < w'.heap.size) w' y v) ∧ Below w.heap.size w w' := by
  obtain ⟨k, n, s, t, L, A, cap, hx, rfl⟩ : ∃ k' n' s' t' L' A' cap', x = Tm.mk k' n' s' t' L' ∧ nv = .agg #[.int .i8 k', .int .i64 n', .string s', .string t', .slice A' L'.length cap'] := by
    cases hT; exact ⟨_, _, _, _, _, _, _, rfl, rfl⟩
  obtain ⟨w7, hw7⟩ : ∃ w7, w7 = (((((((w.alloc (.cells #[.int .i8 k, .int .i64 n, .string s, .string t, .slice A L.length cap] 25)).alloc (.cells #[.string md] 9)).alloc (.cells #[.string nm] 9)).alloc (.cells #[.int .i64 ar] 3)).alloc (.cells #[.int .i8 0, .int .i64 0, .string ⟨#[]⟩, .string ⟨#[]⟩, .slice none 0 0] 25)).alloc (.cells #[.bool false] 4)).alloc (.cells #[.int .i8 k, .int .i64 n, .string s, .string t, .slice A L.length cap] 25)) := ⟨_, rfl⟩
  obtain ⟨g0, g1, g2, g3, g4, g5, g6, b7, z7⟩ := allocs7_at w _ _ _ _ _ _ _ w7 hw7
  have a0 := block_alloc w (.cells #[.int .i8 k, .int .i64 n, .string s, .string t, .slice A L.length cap] 25)
  have hst := fns1_seq w.heap.size (w.heap.size + 6) x _ (3 - 1) w7 (hT.under b7 (Nat.le_refl _)) (by omega) (hE.under b7) hN g6
  have HST := Lib.hid hst
  have HZ := Lib.hid z7
  have HB7 := Lib.hid b7
  have HG := Lib.hid (And.intro g1 (And.intro g2 (And.intro g3 (And.intro g4 g5))))
  have HT := Lib.hid hT
  clear hst z7 b7 g0 g1 g2 g3 g4 g5 g6 hT hN hE a0 hx
  refine (callsIn_wide (n := 3)).1 ?_
  refine callsIn_of_wp_marks Tryz.func8 rfl trivial ?_ rfl
  simp only [Tryz.ntmps8, List.size_toArray, List.length_cons, List.length_nil, Nat.reduceAdd, Nat.reduceSub, Array.replicate_succ, Array.replicate_zero, List.push_toArray, List.append_toArray, List.nil_append, List.cons_append]
  gi_wp2_with (refine ⟨trivial, ?_⟩; gi_at_call 28; refine (functions_in _ _ _).mono ?_; rintro e w' ⟨rfl, rfl⟩)
  simp only [Nat.add_assoc, Nat.reduceAdd]
  rw [← hw7]
  clear hw7
  refine range_E (α := FnI) (gf := 48) (lb := #[.pointer (some ⟨w.heap.size + 6, 0, none⟩)]) rfl (enters_of Tryz.func48 (by kernel_rfl) rfl) (fun _ => rfl) HST.out
    KpN.trans (fun W l o o' hl h ho => KpN.put (by have := HZ.out; omega) h ho) (fun A C h => KpN.of_below h)
    (FiI w7 (md, nm, ar)) (fun c _ W => FiX w w7 (md, nm, ar) c W x) (fun s A C h hs _ => h.soft hs) (fun c s A C h hs _ => h.soft hs (by have := HZ.out; omega))
    ⟨Below.refl _ _, fun q hq => by cases hq⟩
    (fun q a' W => a'.defers = [] ∧ ∃ g k' n' s' t' A' m' c', q.2.2 = .agg #[.int .i8 k', .int .i64 n', .string s', .string t', .slice A' m' c'] ∧ a'.tmps = #[.agg #[.int .i8 k, .int .i64 n, .string s, .string t, .slice A L.length cap], .string md, .string nm, .int .i64 ar, .pointer (some ⟨w.heap.size, 0, none⟩), .pointer (some ⟨w.heap.size + 1, 0, none⟩), .pointer (some ⟨w.heap.size + 2, 0, none⟩), .pointer (some ⟨w.heap.size + 3, 0, none⟩), .pointer (some ⟨w.heap.size + 4, 0, none⟩), .pointer (some ⟨w.heap.size + 5, 0, none⟩), .pointer (some ⟨g, 0, none⟩), .pointer (some ⟨g + 1, 0, none⟩), .agg #[.int .i8 k, .int .i64 n, .string s, .string t, .slice A L.length cap],
      .func (.func 48) #[] #[.pointer (some ⟨w.heap.size + 6, 0, none⟩)], fnV q.1, q.2.2, undef, undef, undef, undef, undef, undef, undef, undef] ∧ W.heap[g]? = some (.cells (fnCells q.1).toArray 64 (0, 0)) ∧ W.heap[g + 1]? = some (.cells #[.int .i8 k', .int .i64 n', .string s', .string t', .slice A' m' c'] 25 (0, 0)))
      (fun q a' X Y h hs => ⟨h.1, by obtain ⟨g, k', n', s', t', A', m', c', e, e2, hg, hg2⟩ := h.2; exact ⟨g, k', n', s', t', A', m', c', e, e2, hs.same _ _ hg (.inl rfl), hs.same _ _ hg2 (.inl rfl)⟩⟩) ?assign ?body ?done ?stop (by decide)
  case assign =>
    rintro l' pre ⟨q1, q2, q3⟩ W K hi ⟨j, hpre, hq, hqT⟩ hz hK
    dsimp only at hqT
    obtain ⟨k', n', s', t', l', hq2⟩ : ∃ k' n' s' t' l', q2 = Tm.mk k' n' s' t' l' := by cases q2; exact ⟨_, _, _, _, _, rfl⟩
    subst hq2
    obtain ⟨A', c', hq3, -⟩ := hqT.parts
    subst hq3
    have HK := Lib.hid hK
    simp only [encF, fnV]
    clear hK hi hpre hq hqT
    gi_wp2_with fail
    refine HK.out _ _ (((Below.refl _ _).alloc (Nat.le_refl _) _).alloc (by simp) _) ⟨rfl, _, _, _, _, _, _, _, _, rfl, ?_, (Below.heap_alloc _ _ _ (by simp)).trans (block_alloc _ _), ?_⟩
    · simp only [World.size_alloc]; rfl
    · have := block_alloc (W.alloc (.cells (fnCells q1).toArray 64)) (.cells #[.int .i8 k', .int .i64 n', .string s', .string t', .slice A' l'.length c'] 25)
      rw [World.size_alloc] at this
      exact this
  case body =>
    rintro l' pre ⟨⟨qa, qb, qc⟩, q2, q3⟩ ⟨tm, df⟩ W hi ⟨j, hpre, hq, hqT⟩ ⟨hdf, g, k', n', s', t', A', m', c', hq3, htm, hg, hg2⟩ hz ⟨r, hr⟩ ⟨d, hd⟩
    dsimp only at hdf htm hq3 hqT
    subst hdf htm hq3
    have k1 := (hi.1.block _ (heap_lt HG.out.1)).trans HG.out.1
    have k2 := (hi.1.block _ (heap_lt HG.out.2.1)).trans HG.out.2.1
    have k3 := (hi.1.block _ (heap_lt HG.out.2.2.1)).trans HG.out.2.2.1
    have k4 := (hi.1.block _ (heap_lt HG.out.2.2.2.1)).trans HG.out.2.2.2.1
    have k5 := (hi.1.block _ (heap_lt HG.out.2.2.2.2)).trans HG.out.2.2.2.2
    have e0 : W.cell? ⟨g, 0, none⟩ = some (.string qa) := cell_of_row hg rfl
    have e1 : W.cell? ⟨g, 1, none⟩ = some (.string qb) := cell_of_row (i := 1) hg rfl
    have e2 : W.cell? ⟨g, 2, none⟩ = some (.int .i64 qc) := cell_of_row (i := 2) hg rfl
    have e3 : W.cell? ⟨g, 3, none⟩ = some (.int .i64 0) := cell_of_row (i := 3) hg rfl
    have e4 : W.cell? ⟨g, 4, none⟩ = some (.int .i64 0) := cell_of_row (i := 4) hg rfl
    obtain ⟨f0, f1, f2, f3, f4⟩ := five_of hg2
    have m1 : W.cell? ⟨w.heap.size + 1, 0, none⟩ = some (.string md) := cell_of_row k1 rfl
    have m2 : W.cell? ⟨w.heap.size + 2, 0, none⟩ = some (.string nm) := cell_of_row k2 rfl
    have m3 : W.cell? ⟨w.heap.size + 3, 0, none⟩ = some (.int .i64 ar) := cell_of_row k3 rfl
    obtain ⟨⟨u0, u1, u2, u3, u4⟩, uf0, uf1, uf2, uf3, uf4⟩ := five_fr k4
    have y0 : W.cell? ⟨w.heap.size + 5, 0, none⟩ = some (.bool false) := cell_of_row k5 rfl
    have yf : W.frozen? ⟨w.heap.size + 5, 0, none⟩ = false := free_of_row k5
    have HI := Lib.hid hi
    have HQ := Lib.hid hq
    have HQT := Lib.hid hqT
    have HPRE := Lib.hid hpre
    have HR := Lib.hid hr
    have HD := Lib.hid hd
    have HZZ := Lib.hid hz
    have H45 := Lib.hid (And.intro k4 k5)
    clear hi hq hpre hr hd hqT hz k1 k2 k3 k4 k5 hg hg2
    by_cases hk : qa = md ∧ qb = nm ∧ qc = ar
    · obtain ⟨rfl, rfl, rfl⟩ := hk
      gi_wp2_with fail
      obtain ⟨s4, mm4⟩ := set_five7 (.int .i8 k') (.int .i64 n') (.string s') (.string t') (.slice A' m' c') H45.out.1
      have s5 := (mm4.block _ (heap_lt H45.out.2) (by omega)).trans H45.out.2
      generalize ((((W.setCell ⟨w.heap.size + 4, 0, none⟩ (.int .i8 k')).setCell ⟨w.heap.size + 4, 1, none⟩ (.int .i64 n')).setCell ⟨w.heap.size + 4, 2, none⟩ (.string s')).setCell ⟨w.heap.size + 4, 3, none⟩ (.string t')).setCell ⟨w.heap.size + 4, 4, none⟩ (.slice A' m' c') = W4 at s4 mm4 s5 ⊢
      have mm5 : Mod (fun k => k = w.heap.size + 5) W4 (W4.setCell ⟨w.heap.size + 5, 0, none⟩ (.bool true)) := Mod.setCell _ _ _ (.inl rfl)
      have m45 : Mod (fun k => k = w.heap.size + 4 ∨ k = w.heap.size + 5) W (W4.setCell ⟨w.heap.size + 5, 0, none⟩ (.bool true)) := (mm4.mono (fun _ _ h => .inl h)).trans mm5 (fun _ _ h => .inr h)
      have hz7 := HZ.out
      have hzz := HZZ.out
      have hg := heap_lt HR.out
      have hbw := HI.out.1
      refine ⟨own2_mod m45 (by omega) ⟨by omega, by omega⟩, rfl, q2, k', n', s', t', A', m', c', ?_, HQT.out.keep (fun b hb => (HB7.out.block b hb).symm) (fun _ h => h), (mm5.block _ (heap_lt s4) (by omega)).trans s4, set_row (i := 0) _ s5, ?_, ?_⟩
      · refine findT_at HQ.out (fun z hz => ?_) rfl
        rw [← HPRE.out] at hz
        obtain ⟨z', hz', rfl⟩ := List.mem_map.1 hz
        exact HI.out.2 z' hz'
      · exact (HB7.out.trans (hbw.mono HB7.out.size)).trans (m45.below (Nat.le_trans HB7.out.size hbw.size) (fun k hk => by omega))
      · exact Nat.le_trans hbw.size m45.size
    · have HK := Lib.hid hk
      clear hk
      gi_wp2_with fail
      all_goals first
        | (exfalso
           refine HK.out ⟨?_, ?_, by assumption⟩
           · have h9 := ‹qa.toList = md.toList›
             rw [Go.Lib.toList_data, Go.Lib.toList_data] at h9
             exact ByteArray.ext (Array.toList_inj.1 h9)
           · have h9 := ‹qb.toList = nm.toList›
             rw [Go.Lib.toList_data, Go.Lib.toList_data] at h9
             exact ByteArray.ext (Array.toList_inj.1 h9))
        | (refine ⟨⟨Nat.le_refl _, rfl, rfl⟩, KpN.refl _ _, HI.out.1, fun z hz => ?_⟩
           rcases List.mem_append.1 hz with hz | hz
           · exact HI.out.2 z hz
           · obtain rfl := List.mem_singleton.1 hz
             intro e9
             injection e9 with e1' e2'
             injection e2' with e2' e3'
             exact HK.out ⟨e1', e2', e3'⟩)
  case done =>
    rintro xs W hxs hi hd
    have k4 := (hi.1.block _ (heap_lt HG.out.2.2.2.1)).trans HG.out.2.2.2.1
    have k5 := (hi.1.block _ (heap_lt HG.out.2.2.2.2)).trans HG.out.2.2.2.2
    obtain ⟨⟨u0, u1, u2, u3, u4⟩, uf0, uf1, uf2, uf3, uf4⟩ := five_fr k4
    have y0 : W.cell? ⟨w.heap.size + 5, 0, none⟩ = some (.bool false) := cell_of_row k5 rfl
    have yf : W.frozen? ⟨w.heap.size + 5, 0, none⟩ = false := free_of_row k5
    have HI := Lib.hid hi
    have HXS := Lib.hid hxs
    have HD := Lib.hid hd
    have H45 := Lib.hid (And.intro k4 k5)
    clear hi hxs hd k4 k5
    gi_wp2
    have hz := HZ.out
    obtain ⟨s4, mm4⟩ := set_five7 (.int .i8 0) (.int .i64 0) (.string ⟨#[]⟩) (.string ⟨#[]⟩) (.slice none 0 0) H45.out.1
    have s5 := (mm4.block _ (heap_lt H45.out.2) (by omega)).trans H45.out.2
    have sd := (mm4.block _ (heap_lt HD.out) (by omega)).trans HD.out
    generalize ((((W.setCell ⟨w.heap.size + 4, 0, none⟩ (.int .i8 0)).setCell ⟨w.heap.size + 4, 1, none⟩ (.int .i64 0)).setCell ⟨w.heap.size + 4, 2, none⟩ (.string ⟨#[]⟩)).setCell ⟨w.heap.size + 4, 3, none⟩ (.string ⟨#[]⟩)).setCell ⟨w.heap.size + 4, 4, none⟩ (.slice none 0 0) = W4 at s4 mm4 s5 sd ⊢
    have mm5 : Mod (fun k => k = w.heap.size + 5) W4 (W4.setCell ⟨w.heap.size + 5, 0, none⟩ (.bool false)) := Mod.setCell _ _ _ (.inl rfl)
    have m45 : Mod (fun k => k = w.heap.size + 4 ∨ k = w.heap.size + 5) W (W4.setCell ⟨w.heap.size + 5, 0, none⟩ (.bool false)) := (mm4.mono (fun _ _ h => .inl h)).trans mm5 (fun _ _ h => .inr h)
    have t4 := (mm5.block _ (heap_lt s4) (by omega)).trans s4
    have t5 := set_row (i := 0) (.bool false) s5
    have td := (mm5.block _ (heap_lt sd) (by omega)).trans sd
    generalize W4.setCell ⟨w.heap.size + 5, 0, none⟩ (.bool false) = W5 at m45 t4 t5 td ⊢
    have mm := Mod.putObj W5 w7.heap.size (.deferred none) (F := fun k => k = w7.heap.size) rfl
    have q4 := (mm.block _ (heap_lt t4) (by omega)).trans t4
    have q5 := (mm.block _ (heap_lt t5) (by omega)).trans t5
    have z0 := cell_of_row (i := 0) q4 rfl
    have z1 := cell_of_row (i := 1) q4 rfl
    have z2 := cell_of_row (i := 2) q4 rfl
    have z3 := cell_of_row (i := 3) q4 rfl
    have z4 := cell_of_row (i := 4) q4 rfl
    have z5 := cell_of_row (i := 0) q5 rfl
    have hbw := HI.out.1
    have hb5 : Below w.heap.size w W5 := (HB7.out.trans (hbw.mono HB7.out.size)).trans (m45.below (Nat.le_trans HB7.out.size hbw.size) (fun k hk => by omega))
    have hbb : Below w.heap.size w (W5.putObj w7.heap.size (.deferred none)) := hb5.trans (mm.below hb5.size (fun k e => by omega))
    have hn : findT (md, nm, ar) (fns9T x) = none := findT_none (fun z hz => by
      rw [← HXS.out] at hz
      obtain ⟨z', hz', rfl⟩ := List.mem_map.1 hz
      exact HI.out.2 z' hz')
    refine ⟨by simp, .inl ⟨_, _, rfl, run_takeDeferred td, ?_⟩⟩
    refine ⟨.tuple #[.agg #[.int .i8 0, .int .i64 0, .string ⟨#[]⟩, .string ⟨#[]⟩, .slice none 0 0], .bool false], by simp [results, Tryz.f8, go_sem, z0, z1, z2, z3, z4, z5], .agg #[.int .i8 0, .int .i64 0, .string ⟨#[]⟩, .string ⟨#[]⟩, .slice none 0 0], ⟨_, _, _, _, _, _, _, rfl⟩, ?_, ?_, hbb⟩
    · rw [hn]; rfl
    · intro y9 hy9
      rw [hn] at hy9
      cases hy9
  case stop =>
    rintro c pre W _ ⟨rfl, y, k', n', s', t', A', m', c', h1, h2, h3, h4, h5, h6⟩ hd
    have HD := Lib.hid hd
    have H1 := Lib.hid (And.intro h1 (And.intro h2 (And.intro h3 (And.intro h4 (And.intro h5 h6)))))
    clear h1 h2 h3 h4 h5 h6 hd
    gi_wp2
    obtain ⟨h1, h2, h3, h4, h5, h6⟩ := H1.out
    have hz := HZ.out
    have mm := Mod.putObj W w7.heap.size (.deferred none) (F := fun k => k = w7.heap.size) rfl
    have q4 := (mm.block _ (heap_lt h3) (by omega)).trans h3
    have q5 := (mm.block _ (heap_lt h4) (by omega)).trans h4
    have z0 := cell_of_row (i := 0) q4 rfl
    have z1 := cell_of_row (i := 1) q4 rfl
    have z2 := cell_of_row (i := 2) q4 rfl
    have z3 := cell_of_row (i := 3) q4 rfl
    have z4 := cell_of_row (i := 4) q4 rfl
    have z5 := cell_of_row (i := 0) q5 rfl
    have hbb : Below w.heap.size w (W.putObj w7.heap.size (.deferred none)) := h5.trans (mm.below h5.size (fun k e => by omega))
    refine ⟨by simp, .inl ⟨_, _, rfl, run_takeDeferred HD.out, ?_⟩⟩
    refine ⟨.tuple #[.agg #[.int .i8 k', .int .i64 n', .string s', .string t', .slice A' m' c'], .bool true], by simp [results, Tryz.f8, go_sem, z0, z1, z2, z3, z4, z5], .agg #[.int .i8 k', .int .i64 n', .string s', .string t', .slice A' m' c'], ⟨_, _, _, _, _, _, _, rfl⟩, ?_, ?_, hbb⟩
    · rw [h1]; rfl
    · intro y9 hy9
      rw [h1] at hy9
      cases hy9
      exact h2.laterN hbb
end Go.Proofs.YtmdcdhdjojimeaaGreatDoor
end
