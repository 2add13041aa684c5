/- Layer 9: the nodes of a tree laid out by places. -/
import Derived.Test.YthbiaaeoajmlbaaGreatDoorKOwn9
import Derived.LoopTactic
import Derived.LoopNIn
import Derived.OwnWalk
import Derived.Deep.DeepCutAuto
set_option linter.unusedVariables false
set_option linter.unusedSimpArgs false
namespace Go.Proofs.YthbiaaeoajmlbaaGreatDoor
open Go.RowKit

structure Sp where
  y : Tm
  A : Option Addr
  c : Nat
  b : Nat
def Sp.cells (x : Sp) : List Value := [.int .i8 x.y.k, .int .i64 x.y.n, .string x.y.s, .string x.y.t, .slice x.A x.y.l.length x.c, .int .i64 (x.b : Int)]
def flatSp (S : List Sp) : List Value := S.flatMap Sp.cells
theorem flatSp_append (a b : List Sp) : flatSp (a ++ b) = flatSp a ++ flatSp b := by simp [flatSp]
theorem flatSp_len : ∀ (S : List Sp), (flatSp S).length = S.length * 6
  | [] => rfl
  | x :: S => by rw [flatSp, List.flatMap_cons, List.length_append, List.length_cons]; have := flatSp_len S; unfold flatSp at this; rw [this]; show 6 + _ = _; omega
theorem flatSp_at : ∀ {S : List Sp} {i : Nat} {x : Sp} (_ : S[i]? = some x) (j : Nat) (_ : j < 6), (flatSp S)[i * 6 + j]? = x.cells[j]?
  | y :: L, 0, z, h, j, hj => by
    simp at h; subst h
    rw [flatSp, List.flatMap_cons, List.getElem?_append_left (by show _ < 6; omega)]
    simp
  | y :: L, i + 1, z, h, j, hj => by
    have ih := flatSp_at (S := L) (i := i) (x := z) (by simpa using h) j hj
    rw [flatSp, List.flatMap_cons, List.getElem?_append_right (by show 6 ≤ _; omega), show (i + 1) * 6 + j - y.cells.length = i * 6 + j by show _ - 6 = _; omega]
    exact ih
theorem flatSp_set (P Q : List Sp) (x : Sp) (b : Nat) : (flatSp (P ++ x :: Q)).set (P.length * 6 + 5) (.int .i64 (b : Int)) = flatSp (P ++ { x with b := b } :: Q) := by
  rw [flatSp_append, flatSp_append, List.set_append_right _ _ (by rw [flatSp_len]; omega), flatSp_len, show P.length * 6 + 5 - P.length * 6 = 5 by omega]
  rfl
theorem info_spot9 : (Tryz.prog.info? 173).map (fun i => (i.zero, i.size, i.bytes)) = some (some (.agg #[.int .i8 0, .int .i64 0, .string ⟨#[]⟩, .string ⟨#[]⟩, .slice none 0 0, .int .i64 0]), 6, 80) := by kernel_rfl
theorem elt_spot : ElT 101 173 (.agg #[.int .i8 0, .int .i64 0, .string ⟨#[]⟩, .string ⟨#[]⟩, .slice none 0 0, .int .i64 0]) 6 := elt_of Tryz.underlying101 info_spot9 (by decide) rfl (by decide)

structure KeepL (V V' : World) : Prop where
  size : V.heap.size ≤ V'.heap.size
  cells : ∀ (k : Nat) (c : Array Value) (t : TypeId) (z : Nat × Nat), V.heap[k]? = some (.cells c t z) → t ≠ 173 → t ≠ 101 → V'.heap[k]? = some (.cells c t z)
theorem KeepL.refl (V : World) : KeepL V V := ⟨Nat.le_refl _, fun _ _ _ _ h _ _ => h⟩
theorem KeepL.trans {A B C : World} (h : KeepL A B) (g : KeepL B C) : KeepL A C := ⟨Nat.le_trans h.size g.size, fun k c t z hk h1 h2 => g.cells k c t z (h.cells k c t z hk h1 h2) h1 h2⟩
theorem KeepL.of_below {A B : World} (h : Below A.heap.size A B) : KeepL A B := ⟨h.size, fun k c t z hk _ _ => (h.block k (heap_lt hk)).trans hk⟩
structure LayS (w0 : World) (base bl bf : Nat) (S : List Sp) (v : Value) (V : World) : Prop where
  below : Below base w0 V
  lt : base ≤ w0.heap.size ∧ base ≤ bl
  box : V.heap[bl]? = some (.cells #[v] 101 (0, 0))
  own : V.ownsRow base 173 6 v S.length (flatSp S)
  fn : V.heap[bf]? = some (.cells #[.func (.func 129) #[] #[.pointer (some ⟨bl, 0, none⟩), .pointer (some ⟨bf, 0, none⟩)]] 93 (0, 0))
section
variable {w0 V V1 : World} {base bl bf : Nat} {S S' : List Sp} {v v' : Value}
theorem LayS.under (h : LayS w0 base bl bf S v V) (b : Below V.heap.size V V1) : LayS w0 base bl bf S v V1 :=
  ⟨h.below.trans (b.mono (Nat.le_trans h.lt.1 h.below.size)), h.lt, (b.block _ (heap_lt h.box)).trans h.box, own_keep h.own (fun k hk => b.block k (by obtain ⟨_, cur, h2⟩ := own_blk h.own hk; exact heap_lt h2)), (b.block _ (heap_lt h.fn)).trans h.fn⟩
theorem own_boxl (h : LayS w0 base bl bf S v V) (g : V.grownBy V1 v.ownBlock) : V1.heap[bl]? = some (.cells #[v] 101 (0, 0)) :=
  (g.block _ (heap_lt h.box) (fun e' => by obtain ⟨_, cur, h2⟩ := own_blk h.own e'.symm; rw [h.box] at h2; cases h2)).trans h.box
theorem LayS.step (h : LayS w0 base bl bf S v V) (g : V.grownBy V1 v.ownBlock) (h1 : V1.ownsRow base 173 6 v' S'.length (flatSp S')) :
    LayS w0 base bl bf S' v' (V1.setCell ⟨bl, 0, none⟩ v') ∧ KeepL V (V1.setCell ⟨bl, 0, none⟩ v') := by
  have hb1 : V1.heap[bl]? = _ := (g.block _ (heap_lt h.box) (fun e' => by obtain ⟨_, cur, h2⟩ := own_blk h.own e'.symm; rw [h.box] at h2; cases h2)).trans h.box
  have m1 : Mod (fun k => v.ownBlock = some k) V V1 := Mod.grown g (fun k _ e => e)
  have m2 : Mod (fun k => k = bl) V1 (V1.setCell ⟨bl, 0, none⟩ v') := Mod.setCell _ _ _ (.inl rfl)
  have mm : Mod (fun k => k = bl ∨ v.ownBlock = some k) V (V1.setCell ⟨bl, 0, none⟩ v') := (m1.mono (fun _ _ h => .inr h)).trans m2 (fun _ _ h => .inl h)
  have kt : KeepL V (V1.setCell ⟨bl, 0, none⟩ v') := ⟨mm.size, fun k c t z hk h2 h3 => (mm.block k (heap_lt hk) (by
    rintro (rfl | hv)
    · rw [h.box] at hk; cases hk; exact h3 rfl
    · obtain ⟨_, cur, h4⟩ := own_blk h.own hv; rw [hk] at h4; cases h4; exact h2 rfl)).trans hk⟩
  refine ⟨⟨h.below.trans (mm.below (Nat.le_trans h.lt.1 h.below.size) (fun k hk => ?_)), h.lt, set_row (i := 0) v' hb1, ?_, kt.cells _ _ _ _ h.fn (by decide) (by decide)⟩, kt⟩
  · rcases hk with rfl | hk
    · exact h.lt.2
    · exact (own_blk h.own hk).1
  · refine own_keep h1 (fun b hv => m2.block b ?_ ?_)
    · obtain ⟨_, cur, h2⟩ := own_blk h1 hv; exact heap_lt h2
    · rintro rfl
      obtain ⟨_, cur, h2⟩ := own_blk h1 hv
      rw [hb1] at h2; cases h2
theorem LayS.place {P Q : List Sp} {x : Sp} {g cap : Nat} (h : LayS w0 base bl bf (P ++ x :: Q) (.slice (some ⟨g, 0, none⟩) (P ++ x :: Q).length cap) V) (b : Nat) :
    LayS w0 base bl bf (P ++ { x with b := b } :: Q) (.slice (some ⟨g, 0, none⟩) (P ++ x :: Q).length cap) (V.setCell ⟨g, P.length * 6 + 5, none⟩ (.int .i64 (b : Int))) ∧ KeepL V (V.setCell ⟨g, P.length * 6 + 5, none⟩ (.int .i64 (b : Int))) := by
  obtain ⟨hb, cur, hc⟩ := own_blk h.own (b := g) rfl
  have m2 : Mod (fun k => k = g) V (V.setCell ⟨g, P.length * 6 + 5, none⟩ (.int .i64 (b : Int))) := Mod.setCell _ _ _ (.inl rfl)
  have kt : KeepL V (V.setCell ⟨g, P.length * 6 + 5, none⟩ (.int .i64 (b : Int))) := ⟨m2.size, fun k c t z hk h2 h3 => (m2.block k (heap_lt hk) (by rintro rfl; rw [hk] at hc; cases hc; exact h2 rfl)).trans hk⟩
  have hl : (P ++ { x with b := b } :: Q).length = (P ++ x :: Q).length := by simp
  refine ⟨⟨h.below.trans (m2.below (Nat.le_trans h.lt.1 h.below.size) (fun k e => by omega)), h.lt, (m2.block _ (heap_lt h.box) (by rintro rfl; rw [h.box] at hc; cases hc)).trans h.box, ?_, kt.cells _ _ _ _ h.fn (by decide) (by decide)⟩, kt⟩
  rw [hl, ← flatSp_set]
  exact (h.own.stored _ _).1
end
theorem add6L (b p : Nat) : (⟨b, 0, none⟩ : Addr).add (p * 6) = ⟨b, p * 6, none⟩ := by unfold Addr.add; split <;> simp_all
def LayTo (w0 : World) (base bl bf : Nat) (S : List Sp) (L : List Tm) (V V' : World) : Prop :=
  (∃ S' v', LayS w0 base bl bf (S ++ S') v' V' ∧ S'.map (·.y) = L ∧ ∀ i z, S'[i]? = some z → z.b = S.length + i + z.y.nodes) ∧ KeepL V V'
theorem zero_mod {A : Type} (L : List A) (n : Nat) (h : n = L.length) : n = L.length := h
set_option maxHeartbeats 8000000 in
set_option maxRecDepth 100000 in
theorem lay1_any (w0 : World) (base bl bf n0 : Nat) (hn0 : n0 ≤ base) (x : Tm) : ∀ (S : List Sp) (v nv : Value) (V : World), LayS w0 base bl bf S v V → TmAt (· < n0) w0 x nv → S.length + x.nodes ≤ 5000 →
    Calls Tryz.prog 129 #[nv, .pointer (some ⟨bl, 0, none⟩), .pointer (some ⟨bf, 0, none⟩)] V fun e V' => e = .returned (.tuple #[]) ∧ LayTo w0 base bl bf S x.pre V V' := by
  induction x using Tm.ind with
  | h k n s t l ih =>
  intro S v nv V hS hT hb
  obtain ⟨A, cap, rfl, hR, hk, hn, hs, ht⟩ := hT.parts
  obtain ⟨A0, c0, rfl, hc0⟩ := own_slice hS.own
  have hlen := hR.max
  unfold maxLen at hlen
  have hxn : (Tm.mk k n s t l).nodes = (Tm.pres l).length + 1 := by unfold Tm.nodes; rw [Tm.pre, List.length_cons]
  rw [hxn] at hb
  have b1 : Below V.heap.size V (V.alloc (.cells #[.int .i8 k, .int .i64 n, .string s, .string t, .slice A l.length cap] 25)) := (Below.refl _ _).alloc (Nat.le_refl _) _
  have g1 := block_alloc V (.cells #[.int .i8 k, .int .i64 n, .string s, .string t, .slice A l.length cap] 25)
  have h1 := hS.under b1
  have d0 := cell_of_row (i := 0) g1 rfl
  have d1 := cell_of_row (i := 1) g1 rfl
  have d2 := cell_of_row (i := 2) g1 rfl
  have d3 := cell_of_row (i := 3) g1 rfl
  have d4 := cell_of_row (i := 4) g1 rfl
  have dl := cell_of_row (i := 0) h1.box rfl
  have HG1 := Lib.hid g1
  have H1 := Lib.hid h1
  have HB1 := Lib.hid b1
  have HR := Lib.hid hR
  have HIH := Lib.hid ih
  have HBD := Lib.hid hb
  clear hS hT hR ih b1 g1 h1 hxn hb
  go_enter Tryz.func129, Tryz.ntmps129
  go_upto_region 2 with fail
  generalize V.alloc (.cells #[.int .i8 k, .int .i64 n, .string s, .string t, .slice A l.length cap] 25) = V1 at HG1 H1 HB1 d0 d1 d2 d3 d4 dl ⊢
  have bb := block_alloc V1 (.cells #[.int .i8 k, .int .i64 n, .string s, .string t, .slice A l.length cap, .int .i64 0] 173)
  have h2 := H1.out.under ((Below.refl V1.heap.size V1).alloc (Nat.le_refl _) (.cells #[.int .i8 k, .int .i64 n, .string s, .string t, .slice A l.length cap, .int .i64 0] 173))
  have HBB := Lib.hid bb
  have H2 := Lib.hid h2
  have HBL : Hid (base ≤ (V1.alloc (.cells #[.int .i8 k, .int .i64 n, .string s, .string t, .slice A l.length cap, .int .i64 0] 173)).heap.size) := Nat.le_trans h2.lt.1 h2.below.size
  have HLE : Hid (S.length + 1 ≤ 2000000) := by show _ ≤ _; have := HBD.out; omega
  clear bb h2
  go_upto_region 3 with (at_builtin; refine wpList_own1 elt_spot rfl _ _ rfl H2.out.own HBL.out rfl V1.heap.size rfl HBB.out rfl (by simp [Value.oneCell']) HLE.out (fun v' V4 O4 G4 A4 => ?_); obtain ⟨A5, cp5, rfl, -⟩ := own_slice O4; have c3 := cell_of_row (i := 0) (own_boxl H2.out G4) rfl; have f3 := free_of_row (i := 0) (own_boxl H2.out G4); have H4 := Lib.hid (And.intro O4 G4); clear O4 G4 A4)
  obtain ⟨O4, G4⟩ := H4.out
  obtain ⟨X, hX⟩ : ∃ X : Tm, X = .mk k n s t l := ⟨_, rfl⟩
  have e6 : #[Value.int .i8 k, .int .i64 n, .string s, .string t, .slice A l.length cap, .int .i64 0].toList = Sp.cells ⟨X, A, cap, 0⟩ := by rw [hX]; rfl
  rw [e6, show flatSp S ++ Sp.cells ⟨X, A, cap, 0⟩ = flatSp (S ++ [⟨X, A, cap, 0⟩]) by rw [flatSp_append]; simp [flatSp]] at O4
  obtain ⟨h5, k5⟩ := H2.out.step (S' := S ++ [⟨X, A, cap, 0⟩]) G4 (by rw [List.length_append]; exact O4)
  clear H4 O4 G4 c3 f3 d0 d1 d2 d3 d4 dl HBB HBL HLE e6
  have hg5 := k5.cells _ _ _ _ ((Below.heap_alloc _ _ _ (heap_lt HG1.out)).trans HG1.out) (by decide) (by decide)
  have K5 : Hid (KeepL V (V4.setCell ⟨bl, 0, none⟩ (.slice A5 (S.length + 1) cp5))) := ((KeepL.of_below HB1.out).trans (KeepL.of_below ((Below.refl V1.heap.size V1).alloc (Nat.le_refl _) _))).trans k5
  generalize V4.setCell ⟨bl, 0, none⟩ (.slice A5 (S.length + 1) cp5) = V5 at h5 hg5 K5 ⊢
  have d4 := cell_of_row (i := 4) hg5 rfl
  have H5 := Lib.hid h5
  have HX := Lib.hid hX
  clear h5 k5 hg5 hX
  go_wp2_with fail
  clear d4
  go_loopw [17] (fun q wr => ∃ j : Nat, j ≤ l.length ∧ q = .int .i64 (j : Int) ∧ (∃ S' v', LayS w0 base bl bf (S ++ ⟨X, A, cap, 0⟩ :: S') v' wr ∧ S'.map (·.y) = Tm.pres (l.take j) ∧ ∀ i z, S'[i]? = some z → z.b = S.length + 1 + i + z.y.nodes) ∧ KeepL V5 wr) (fun q _ => l.length - (intOf q).toNat)
  case atStart => exact ⟨0, Nat.zero_le _, rfl, ⟨[], _, H5.out, rfl, fun i z h => by simp at h⟩, .refl _⟩
  case round =>
    obtain ⟨j, hj, rfl, ⟨S', v', hS, hy, hp⟩, hK⟩ := hrel
    have HS := Lib.hid hS
    have HY := Lib.hid hy
    have HP := Lib.hid hp
    have HK := Lib.hid hK
    have hsl : S'.length = (Tm.pres (l.take j)).length := by rw [← hy, List.length_map]
    have HSL := Lib.hid hsl
    clear hS hy hp hK hsl
    by_cases hlt : j < l.length
    · obtain ⟨y, hy⟩ : ∃ y, l[j]? = some y := ⟨l[j], List.getElem?_eq_getElem hlt⟩
      obtain ⟨ad, u, rfl, had, hE, hTy⟩ := HR.out.at_ j y hy
      have hEr : ElemAt wr ad j u := hE.keep (HS.out.below.block ad.block (by omega))
      obtain ⟨k', n', s', t', L', A', cap', hy', rfl⟩ : ∃ k' n' s' t' L' A' cap', y = Tm.mk k' n' s' t' L' ∧ u = .agg #[.int .i8 k', .int .i64 n', .string s', .string t', .slice A' L'.length cap'] := by
        cases hTy; exact ⟨_, _, _, _, _, _, _, rfl, rfl⟩
      obtain ⟨q0, q1, q2, q3, q4, hc, e0, e1, e2, e3, e4⟩ := hEr
      simp only [Value.agg.injEq, Array.mk.injEq, List.cons.injEq, and_true] at hc
      obtain ⟨rfl, rfl, rfl, rfl, rfl⟩ := hc
      have hmem := List.mem_of_getElem? hy
      have hsx : (Tm.pres (l.take (j + 1))) = Tm.pres (l.take j) ++ y.pre := Tm.pres_take_succ hy
      have htl : (Tm.pres (l.take (j + 1))).length ≤ (Tm.pres l).length := by
        have : Tm.pres l = Tm.pres (l.take (j + 1)) ++ Tm.pres (l.drop (j + 1)) := by rw [← Tm.pres_append, List.take_append_drop]
        rw [this, List.length_append]; omega
      have hln : (Tm.pres (l.take (j + 1))).length = (Tm.pres (l.take j)).length + y.nodes := by rw [hsx, List.length_append]; rfl
      have b6 : Below wr.heap.size wr (wr.alloc (.cells #[.int .i8 k', .int .i64 n', .string s', .string t', .slice A' L'.length cap'] 25)) := (Below.refl _ _).alloc (Nat.le_refl _) _
      have g6 := block_alloc wr (.cells #[.int .i8 k', .int .i64 n', .string s', .string t', .slice A' L'.length cap'] 25)
      have h6 := HS.out.under b6
      have cf := cell_of_row (i := 0) h6.fn rfl
      have d0 := cell_of_row (i := 0) g6 rfl
      have d1 := cell_of_row (i := 1) g6 rfl
      have d2 := cell_of_row (i := 2) g6 rfl
      have d3 := cell_of_row (i := 3) g6 rfl
      have d4 := cell_of_row (i := 4) g6 rfl
      have HC := Lib.hid (HIH.out y hmem _ _ _ _ h6 hTy (by rw [List.length_append, List.length_cons]; have := HBD.out; have := HSL.out; omega))
      have HB6 := Lib.hid b6
      have HLT := Lib.hid hlt
      have HSX := Lib.hid hsx
      clear hE hTy hy hmem hsx htl hln b6 g6 h6 hy' hlt
      go_wp2_with fail
      refine HC.out.mono ?_
      clear cf d0 d1 d2 d3 d4 e0 e1 e2 e3 e4
      rintro e w7 ⟨rfl, ⟨S2, v2, hS2, hy2, hp2⟩, hK2⟩
      have HS2 := Lib.hid hS2
      have HY2 := Lib.hid hy2
      have HP2 := Lib.hid hp2
      have HK2 := Lib.hid hK2
      clear hS2 hy2 hp2 hK2
      go_wp2_with fail
      go_roundw
      case rel =>
        refine ⟨j + 1, HLT.out, by go_num, ⟨S' ++ S2, v2, ?_, by rw [List.map_append, HY.out, HY2.out, HSX.out], ?_⟩, (HK.out.trans (.of_below HB6.out)).trans HK2.out⟩
        · have := HS2.out; rw [List.append_assoc] at this; exact this
        · intro i z hz
          rw [List.getElem?_append] at hz
          by_cases hi : i < S'.length
          · rw [if_pos hi] at hz; exact HP.out i z hz
          · rw [if_neg hi] at hz
            rw [HP2.out _ z hz, List.length_append, List.length_cons]
            omega
      case measure => simp [intOf]; have := HLT.out; omega
    · obtain rfl : j = l.length := by omega
      obtain ⟨A7, c7, rfl, hc7⟩ := own_slice HS.out.own
      have hll : (S ++ ⟨X, A, cap, 0⟩ :: S').length = S.length + 1 + S'.length := by rw [List.length_append, List.length_cons]; omega
      obtain ⟨M, hM⟩ : ∃ M : Nat, M = (S ++ ⟨X, A, cap, 0⟩ :: S').length := ⟨_, rfl⟩
      have h9 := HS.out
      have hown := h9.own
      rcases hown.2 with ⟨e1, e2⟩ | ⟨g, cp, cur, e1, e2⟩
      · omega
      · simp only [Value.slice.injEq] at e1
        obtain ⟨rfl, -, rfl⟩ := e1
        obtain ⟨h8, k8⟩ := h9.place (M)
        have cl := cell_of_row (i := 0) h9.box rfl
        have cc : wr.cell? ⟨g, S.length * 6 + 5, none⟩ = some (.int .i64 0) := by
          rw [hown.cellAt _ (by simp; omega), flatSp_at (x := ⟨X, A, cap, 0⟩) (by simp) 5 (by decide)]
          rfl
        have cz := hown.frozenAt (S.length * 6 + 5)
        have had := add6L g S.length
        rw [← hM] at cl h8
        have hM1 : (S.length : Int) < (M : Int) := by omega
        have hM0 : (0 : Int) ≤ (S.length : Int) := by omega
        have H8 := Lib.hid h8
        have K8 := Lib.hid k8
        have HM := Lib.hid hM
        have HLL := Lib.hid hll
        clear h8 k8 hM hll h9 hown e2 hc7
        go_wp2_with fail
        go_end0
        refine ⟨rfl, ⟨⟨X, A, cap, M⟩ :: S', _, H8.out, ?_, ?_⟩, ((K5.out.trans HK.out).trans K8.out)⟩
        · have h1 := HY.out
          rw [List.take_length] at h1
          rw [List.map_cons, h1, Tm.pre, HX.out]
        · have h2 := HSL.out
          rw [List.take_length] at h2
          intro i z hz
          cases i with
          | zero =>
            simp only [List.getElem?_cons_zero, Option.some.injEq] at hz
            subst hz
            show M = _
            rw [HX.out]
            unfold Tm.nodes
            rw [Tm.pre, List.length_cons, HM.out, HLL.out, h2]
            omega
          | succ i =>
            rw [List.getElem?_cons_succ] at hz
            rw [HP.out i z hz]
            omega
end Go.Proofs.YthbiaaeoajmlbaaGreatDoor
