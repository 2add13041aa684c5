/- Nothing of its own. -/
import Derived.Test.YtdimcddbmccniaaGreatDoorKNd7
import Derived.Test.YtdimcddbmccniaaGreatDoorKRangeO
import Derived.Test.YtdimcddbmccniaaGreatDoorRows
import Derived.Test.YtdimcddbmccniaaGreatDoorKAstT
import Derived.Test.YtdimcddbmccniaaGreatDoorKCd1
import Derived.Shelf.Pu.Clone
import Derived.Lib.Hide
import Derived.WalkKit
import Derived.Deep.RegionHeld
import Derived.OrdersHeld
import Derived.MapKept
section
set_option linter.unusedVariables false
namespace Go.Proofs.YtdimcddbmccniaaGreatDoor
open Go.RowKit Go.Shelf
attribute [local go_sem] Oper.semAt_some

theorem Tm.mem_pres : ∀ {l : List Tm} {x y : Tm}, x ∈ l → y ∈ x.pre → y ∈ Tm.pres l
  | z :: l, x, y, h, hy => by
    rw [Tm.pres, List.mem_append]
    rcases List.mem_cons.1 h with rfl | h
    · exact .inl hy
    · exact .inr (Tm.mem_pres h hy)
theorem Gen7.same {l Y M : Nat} {W W' : World} (h : Gen7 l Y M W) (h0 : W'.heap[Y]? = W.heap[Y]?) (h1 : W'.heap[Y + 1]? = W.heap[Y + 1]?) (h2 : W'.heap[Y + 2]? = W.heap[Y + 2]?) : Gen7 l Y M W' := ⟨h0.trans h.yield, h1.trans h.left, h2.trans h.walk⟩
structure KW (Own : Nat → World → Prop) (n₀ Y : Nat) (A B : World) : Prop where
  size : A.heap.size ≤ B.heap.size
  low : ∀ k, k < n₀ → B.heap[k]? = A.heap[k]?
  own : ∀ k, Own k A → Own k B
  same : ∀ k, Own k A → k ≠ Y + 1 → B.heap[k]? = A.heap[k]?
theorem KW.trans {Own : Nat → World → Prop} {n₀ Y : Nat} {A B C : World} (h : KW Own n₀ Y A B) (g : KW Own n₀ Y B C) : KW Own n₀ Y A C :=
  ⟨Nat.le_trans h.size g.size, fun k hk => (g.low k hk).trans (h.low k hk), fun k hk => g.own k (h.own k hk), fun k hk hne => (g.same k (h.own k hk) hne).trans (h.same k hk hne)⟩
theorem KO.kw {Own : Nat → World → Prop} {n₀ Y : Nat} {A B : World} (h : KO Own n₀ A B) : KW Own n₀ Y A B := ⟨h.size, h.low, fun k hk => (h.own k hk).2, fun k hk _ => (h.own k hk).1⟩

def WalkP8 (Own : Nat → World → Prop) (l n₀ Y M N : Nat) (J Jx : List ND → World → Prop) (pre : List ND) (d : Nat) (x : Tm) (W : World) (e : Ending) (W' : World) : Prop :=
  (e = .returned (.bool true) ∧ x.nodes < M ∧ (∃ q : List ND, q.map ndK = Tm.preD d x ∧ J (pre ++ q) W') ∧ Gen7 l Y (M - x.nodes) W' ∧ KW Own n₀ Y W W') ∨
  (e = .returned (.bool false) ∧ ((M ≤ x.nodes ∧ ∃ q : List ND, q.map ndK = (Tm.preD d x).take M ∧ J (pre ++ q) W') ∨ (∃ (q : List ND) (k : Nat), q.map ndK = (Tm.preD d x).take k ∧ pre.length + q.length ≤ N ∧ Jx (pre ++ q) W')))

set_option maxRecDepth 100000 in
set_option maxHeartbeats 4000000 in
theorem nodes8_walked (G : Tm → Prop) (Own : Nat → World → Prop) (l n₀ Y N : Nat) (w0 : World) (J Jx : List ND → World → Prop) (hn : n₀ ≤ Y)
    (hO : ∀ k A, Own k A → k < A.heap.size ∧ Y ≤ k) (hOs : ∀ k A B F, Own k A → Mod F A B → (∀ j, j < A.heap.size → F j → Own j A) → Own k B)
    (hOn : ∀ s A o, J s A → Y ≤ A.heap.size → Own A.heap.size (A.alloc o))
    (hJ : ∀ s A B F, J s A → Mod F A B → (∀ j, j < A.heap.size → F j → Own j A) → J s B)
    (hY : ∀ (m : Nat) pre x W, J pre W → TmAt (· < n₀) w0 x.1.1 x.1.2 ∧ G x.1.1 → pre.length < N → YieldAt Fence.wide m Tryz.prog l #[.int .i64 x.2, x.1.2] W fun e W' =>
      (e = .returned (.bool true) ∧ J (pre ++ [x]) W' ∧ KO Own n₀ W W') ∨ (e = .returned (.bool false) ∧ Jx (pre ++ [x]) W')) (x : Tm) :
    ∀ (n d : Nat) (v : Value) (pre : List ND) (M : Nat) (W : World), (∀ y ∈ x.pre, G y) → d + M ≤ 4098 → TmAt (· < n₀) w0 x v → (∀ k, k < n₀ → W.heap[k]? = w0.heap[k]?) → n₀ ≤ w0.heap.size → Own Y W ∧ Own (Y + 1) W ∧ Own (Y + 2) W → Gen7 l Y M W → 1 ≤ M → M ≤ 4097 → J pre W → pre.length + M ≤ N →
      CallsIn Fence.wide n Tryz.prog 169 #[.int .i64 d, v, .pointer (some ⟨Y + 1, 0, none⟩), .pointer (some ⟨Y, 0, none⟩), .pointer (some ⟨Y + 2, 0, none⟩)] W (WalkP8 Own l n₀ Y M N J Jx pre d x W) := by
  induction x using Tm.ind with
  | h kk nn s t L ih =>
    intro n d v pre M W hGx hdM hT hB hn0 hOG hG hM hM2 hj hN
    obtain ⟨m, rfl⟩ : ∃ m, M = m + 1 := ⟨M - 1, by omega⟩
    have HT := Lib.hid hT
    obtain ⟨A, cap, rfl, hR, hk, hnn, hs, ht⟩ := hT.parts
    have hlen := hR.max
    unfold maxLen at hlen
    have HR := Lib.hid hR
    have HIH := Lib.hid ih
    clear hR ih hT
    obtain ⟨X, hX⟩ : ∃ X, X = (Tm.mk kk nn s t L) := ⟨_, rfl⟩
    rw [← hX] at HT ⊢
    obtain ⟨W1, hW1⟩ : ∃ W1, W1 = W.alloc (.cells #[.int .i8 kk, .int .i64 nn, .string s, .string t, .slice A L.length cap] 25) := ⟨_, rfl⟩
    have hYlt := heap_lt hG.walk
    have m1 : Mod (fun _ => False) W W1 := by rw [hW1]; exact Mod.alloc _ _ _
    have hs1 : W1.heap.size = W.heap.size + 1 := by rw [hW1]; simp
    have hbox : W1.heap[W.heap.size]? = some (.cells #[.int .i8 kk, .int .i64 nn, .string s, .string t, .slice A L.length cap] 25) := by rw [hW1]; exact World.alloc_heap_new _ _
    have G1 := hG.mod m1 ⟨fun h => h, fun h => h, fun h => h⟩
    have cl : W1.cell? ⟨Y + 1, 0, none⟩ = some (.int .i64 ((m : Int) + 1)) := cell_of_row G1.left rfl
    have fl : W1.frozen? ⟨Y + 1, 0, none⟩ = false := free_of_row G1.left
    obtain ⟨W2, hW2⟩ : ∃ W2, W2 = W1.setCell ⟨Y + 1, 0, none⟩ (.int .i64 (m : Int)) := ⟨_, rfl⟩
    have m2 : Mod (fun k => k = Y + 1) W1 W2 := by rw [hW2]; exact Mod.setCell _ _ _ (.inl rfl)
    have o1 : ∀ k, Own k W → Own k W1 := fun k hk => hOs k W W1 _ hk m1 (fun _ _ h => h.elim)
    have o1n : Own W.heap.size W1 := by rw [hW1]; exact hOn pre W _ hj (by omega)
    have o2 : ∀ k, Own k W1 → Own k W2 := fun k hk => hOs k W1 W2 _ hk m2 (fun j _ e => by subst e; exact o1 _ hOG.2.1)
    have m12 : Mod (fun k => k = Y + 1) W W2 := (m1.mono (fun _ _ h => h.elim)).trans m2 (fun k _ e => e)
    have G2 : Gen7 l Y m W2 := by
      refine ⟨(m2.block _ (heap_lt G1.yield) (by omega)).trans G1.yield, ?_, (m2.block _ (heap_lt G1.walk) (by omega)).trans G1.walk⟩
      rw [hW2]; exact set_row _ G1.left
    have hs2 : W2.heap.size = W.heap.size + 1 := by rw [hW2]; simp [World.setCell, hs1]
    have cy : W2.cell? ⟨Y, 0, none⟩ = some (.func (.yield l) #[] #[]) := cell_of_row G2.yield rfl
    have hb2 : W2.heap[W.heap.size]? = _ := (m2.block _ (by omega) (by omega)).trans hbox
    have b0 : W2.cell? ⟨W.heap.size, 0, none⟩ = some (.int .i8 kk) := cell_of_row hb2 rfl
    have b1 : W2.cell? ⟨W.heap.size, 1, none⟩ = some (.int .i64 nn) := cell_of_row hb2 rfl
    have b2 : W2.cell? ⟨W.heap.size, 2, none⟩ = some (.string s) := cell_of_row hb2 rfl
    have b3 : W2.cell? ⟨W.heap.size, 3, none⟩ = some (.string t) := cell_of_row hb2 rfl
    have b4 : W2.cell? ⟨W.heap.size, 4, none⟩ = some (.slice A L.length cap) := cell_of_row hb2 rfl
    have j2 : J pre W2 := hJ _ _ _ _ (hJ _ _ _ _ hj m1 (fun _ _ h => h.elim)) m2 (fun j _ e => by subst e; exact o1 _ hOG.2.1)
    obtain ⟨fn, tmps, assign, body, hy, hRound⟩ := hY (n - 1) pre ((X, _), d) W2 j2 ⟨HT.out, hGx X (by rw [Tm.pre, hX]; exact List.mem_cons_self)⟩ (by omega)
    dsimp only at hy
    have HX := Lib.hid hX
    have HGX := Lib.hid hGx
    have HB := Lib.hid hB
    have HS2 := Lib.hid hs2
    have HB2 := Lib.hid hb2
    have kw12 : KW Own n₀ Y W W2 := ⟨m12.size, fun k hk => m12.block k (by omega) (by omega), fun k hk => o2 k (o1 k hk), fun k hk hne => m12.block k (hO _ _ hk).1 hne⟩
    have HM12 := Lib.hid kw12
    have HOX := Lib.hid (o2 _ o1n)
    have HOG2 := Lib.hid (And.intro (o2 _ (o1 _ hOG.1)) (And.intro (o2 _ (o1 _ hOG.2.1)) (o2 _ (o1 _ hOG.2.2))))
    have HO := Lib.hid hO
    have HOS := Lib.hid hOs
    have HON := Lib.hid hOn
    have HG2 := Lib.hid G2
    have HJ := Lib.hid hJ
    have HY := Lib.hid hY
    clear hX hGx hG hB hs1 hs2 hbox hb2 G1 m1 m2 m12 G2 hJ hY hj j2 o1 o1n o2 kw12 hOG hO hOs hOn
    -- where the walk goes on behind yield
    have back : ∀ (W3 : World) (K : Ending → World → Prop), True := fun _ _ => trivial
    subst hW2
    subst hW1
    refine callsIn_of_wp Tryz.func169 rfl trivial ?_ rfl
    simp only [Tryz.ntmps169, List.size_toArray, List.length_cons, List.length_nil, Nat.reduceAdd, Nat.reduceSub, Array.replicate_succ, Array.replicate_zero, List.push_toArray, List.append_toArray, List.nil_append, List.cons_append]
    gi_wp2
    refine ⟨fun h => (by cases h), ?_⟩
    refine hRound.mono ?_
    clear hRound hy cl fl cy b0 b1 b2 b3 b4
    rintro e W3 (⟨rfl, hJ3, hm3⟩ | ⟨rfl, hx3⟩)
    · have hs3 : W.heap.size + 1 ≤ W3.heap.size := by have := hm3.size; rw [HS2.out] at this; exact this
      have G3 : Gen7 l Y m W3 := HG2.out.same (hm3.own _ HOG2.out.1).1 (hm3.own _ HOG2.out.2.1).1 (hm3.own _ HOG2.out.2.2).1
      have hb3 : W3.heap[W.heap.size]? = _ := (hm3.own _ HOX.out).1.trans HB2.out
      have HOG3 := Lib.hid (And.intro (hm3.own _ HOG2.out.1).2 (And.intro (hm3.own _ HOG2.out.2.1).2 (hm3.own _ HOG2.out.2.2).2))
      have b4 : W3.cell? ⟨W.heap.size, 4, none⟩ = some (.slice A L.length cap) := cell_of_row hb3 rfl
      have cl : W3.cell? ⟨Y + 1, 0, none⟩ = some (.int .i64 (m : Int)) := cell_of_row G3.left rfl
      have HM3 : Hid (KW Own n₀ Y W W3) := HM12.out.trans hm3.kw
      have HG3 := Lib.hid G3
      have HJ3 := Lib.hid hJ3
      clear hb3 G3 hm3 hJ3
      by_cases hm0 : m = 0
      · subst hm0
        gi_wp2
        go_ret
        refine .inr ⟨rfl, .inl ⟨Tm.pre_ne _, [((X, _), d)], ?_, HJ3.out⟩⟩
        rw [HX.out]; rfl
      · have h0 : ((m : Int) == 0) = false := by rw [beq_eq_false_iff_ne]; omega
        gi_wp2
        gi_loopw [24] (fun i wr => ∃ j : Nat, j ≤ L.length ∧ i = .int .i64 j ∧ (Tm.pres (L.take j)).length < m ∧ (∃ q : List ND, q.map ndK = Tm.presD (d + 1) (L.take j) ∧ J (pre ++ [((X, .agg #[.int .i8 kk, .int .i64 nn, .string s, .string t, .slice A L.length cap]), d)] ++ q) wr) ∧ Gen7 l Y (m - (Tm.pres (L.take j)).length) wr ∧ KW Own n₀ Y W wr ∧ (Own Y wr ∧ Own (Y + 1) wr ∧ Own (Y + 2) wr))
          (fun i _ => L.length - (intOf i).toNat)
        case atStart => exact ⟨0, Nat.zero_le _, rfl, by simp [Tm.pres]; omega, ⟨[], by simp [Tm.presD], by simpa using HJ3.out⟩, by simpa [Tm.pres] using HG3.out, HM3.out, HOG3.out⟩
        case round =>
          obtain ⟨j, hj, rfl, hlt, ⟨q, hq, hJr⟩, hG, hMr, hOr⟩ := hrel
          have hYr : Y + 2 < wr.heap.size := by have := hMr.size; omega
          have HQ := Lib.hid hq
          have HJr := Lib.hid hJr
          have HGr := Lib.hid hG
          have HMr := Lib.hid hMr
          have HOr := Lib.hid hOr
          clear hq hJr hG hMr hOr
          by_cases hjl : j < L.length
          · obtain ⟨y, hy⟩ : ∃ y, L[j]? = some y := ⟨L[j], List.getElem?_eq_getElem hjl⟩
            obtain ⟨ad, u, rfl, had, hE, hTy⟩ := HR.out.at_ j y hy
            have hbw : ∀ k, k < n₀ → wr.heap[k]? = w0.heap[k]? := fun k hk => (HMr.out.low k hk).trans (HB.out k hk)
            have hEr : ElemAt wr ad j u := hE.keep (hbw ad.block had)
            obtain ⟨k', n', s', t', L', A', cap', hy', rfl⟩ : ∃ k' n' s' t' L' A' cap', y = Tm.mk k' n' s' t' L' ∧ u = .agg #[.int .i8 k', .int .i64 n', .string s', .string t', .slice A' L'.length cap'] := by
              cases hTy; exact ⟨_, _, _, _, _, _, _, rfl, rfl⟩
            obtain ⟨c0, c1, c2, c3, c4, hc, e0, e1, e2, e3, e4⟩ := hEr
            simp only [Value.agg.injEq, Array.mk.injEq, List.cons.injEq, and_true] at hc
            obtain ⟨rfl, rfl, rfl, rfl, rfl⟩ := hc
            clear hy'
            have hmem := List.mem_of_getElem? hy
            have hpy := Tm.pre_ne y
            have HYY := Lib.hid hy
            have HTY := Lib.hid hTy
            have HBW := Lib.hid hbw
            clear hE hTy hy hbw
            obtain ⟨W4, hW4⟩ : ∃ W4, W4 = wr.alloc (.cells #[.int .i8 k', .int .i64 n', .string s', .string t', .slice A' L'.length cap'] 25) := ⟨_, rfl⟩
            have m4 : Mod (fun _ => False) wr W4 := by rw [hW4]; exact Mod.alloc _ _ _
            have G4 := HGr.out.mod m4 ⟨fun h => h, fun h => h, fun h => h⟩
            have o4 : ∀ k, Own k wr → Own k W4 := fun k hk => HOS.out k wr W4 _ hk m4 (fun _ _ h => h.elim)
            have k4 : KW Own n₀ Y wr W4 := ⟨m4.size, fun k hk => m4.block k (by omega) (fun h => h), o4, fun k hk _ => m4.block k (HO.out _ _ hk).1 (fun h => h)⟩
            have og4 : Own Y W4 ∧ Own (Y + 1) W4 ∧ Own (Y + 2) W4 := ⟨o4 _ HOr.out.1, o4 _ HOr.out.2.1, o4 _ HOr.out.2.2⟩
            have cw : W4.cell? ⟨Y + 2, 0, none⟩ = some (.func (.func 169) #[] #[.pointer (some ⟨Y + 1, 0, none⟩), .pointer (some ⟨Y, 0, none⟩), .pointer (some ⟨Y + 2, 0, none⟩)]) := cell_of_row G4.walk rfl
            have hb5 : W4.heap[wr.heap.size]? = some (.cells #[.int .i8 k', .int .i64 n', .string s', .string t', .slice A' L'.length cap'] 25) := by rw [hW4]; exact World.alloc_heap_new _ _
            have d0 : W4.cell? ⟨wr.heap.size, 0, none⟩ = some (.int .i8 k') := cell_of_row hb5 rfl
            have d1 : W4.cell? ⟨wr.heap.size, 1, none⟩ = some (.int .i64 n') := cell_of_row hb5 rfl
            have d2 : W4.cell? ⟨wr.heap.size, 2, none⟩ = some (.string s') := cell_of_row hb5 rfl
            have d3 : W4.cell? ⟨wr.heap.size, 3, none⟩ = some (.string t') := cell_of_row hb5 rfl
            have d4 : W4.cell? ⟨wr.heap.size, 4, none⟩ = some (.slice A' L'.length cap') := cell_of_row hb5 rfl
            have hlq : q.length = (Tm.pres (L.take j)).length := by rw [← Tm.presD_len (d + 1), ← HQ.out, List.length_map]
            have HC := Lib.hid (HIH.out y hmem (n - 1) (d + 1) _ (pre ++ [((X, .agg #[.int .i8 kk, .int .i64 nn, .string s, .string t, .slice (some ad) L.length cap]), d)] ++ q) (m - (Tm.pres (L.take j)).length) W4 (fun z hz => HGX.out z (by rw [Tm.pre]; exact List.mem_cons_of_mem _ (Tm.mem_pres hmem hz))) (by omega) HTY.out
              (fun k hk => (k4.low k hk).trans (HBW.out k hk)) hn0 og4 G4 (by omega) (by omega) (HJ.out _ _ _ _ HJr.out m4 (fun _ _ h => h.elim)) (by simp; omega))
            have HM4 := Lib.hid k4
            have HOG4 := Lib.hid og4
            clear hb5 m4 G4 o4 k4 og4
            subst hW4
            gi_wp2_with fail
            refine ⟨trivial, fun h => (by cases h), ?_⟩
            refine HC.out.mono ?_
            clear cw d0 d1 d2 d3 d4 e0 e1 e2 e3 e4
            rintro e W5 (⟨rfl, hn5, ⟨q5, hq5, hJ5⟩, hG5, hM5⟩ | ⟨rfl, hw⟩)
            · have HQ5 := Lib.hid hq5
              have HJ5 := Lib.hid hJ5
              have HG5 := Lib.hid hG5
              have HM5 := Lib.hid hM5
              have HN5 := Lib.hid hn5
              clear hq5 hJ5 hG5 hM5 hn5
              gi_wp2
              go_roundw
              case rel =>
                have e5 := Tm.presD_take_succ (d := d + 1) HYY.out
                have e6 : (Tm.pres (L.take (j + 1))).length = (Tm.pres (L.take j)).length + y.nodes := by rw [Tm.pres_take_succ HYY.out, List.length_append]; rfl
                have := HN5.out
                refine ⟨j + 1, by omega, by go_num, by omega, ⟨q ++ q5, by rw [List.map_append, HQ.out, HQ5.out, e5], by rw [← List.append_assoc]; exact HJ5.out⟩, ?_, ?_, HM5.out.own _ HOG4.out.1, HM5.out.own _ HOG4.out.2.1, HM5.out.own _ HOG4.out.2.2⟩
                · rw [e6, ← Nat.sub_sub]; exact HG5.out
                · exact (HMr.out.trans HM4.out).trans HM5.out
              case measure => simp [intOf]; omega
            · have HW := Lib.hid hw
              clear hw
              gi_wp2
              go_ret
              rcases HW.out with ⟨h1, q5, hq5, hJ5⟩ | ⟨q5, k, hq5, hl5, hx5⟩
              · refine .inr ⟨rfl, .inl ⟨?_, [((X, _), d)] ++ q ++ q5, ?_, by simpa using hJ5⟩⟩
                · rw [HX.out, Tm.nodes_mk]
                  have := Tm.pres_len_split HYY.out
                  omega
                · have h2 := Tm.preD_take (k := kk) (n := nn) (s := s) (t := t) (d := d) HYY.out (m - (Tm.pres (L.take j)).length) h1
                  rw [show (Tm.pres (L.take j)).length + (m - (Tm.pres (L.take j)).length) + 1 = m + 1 by omega] at h2
                  rw [HX.out, h2, List.map_append, List.map_append, HQ.out, hq5]
                  rfl
              · refine .inr ⟨rfl, .inr ⟨[((X, _), d)] ++ q ++ q5, (Tm.pres (L.take j)).length + min k y.nodes + 1, ?_, by simp at hl5 ⊢; omega, by simpa using hx5⟩⟩
                rw [HX.out, Tm.preD_take HYY.out _ (Nat.min_le_right _ _), List.map_append, List.map_append, HQ.out, hq5]
                rw [show (Tm.preD (d + 1) y).take k = (Tm.preD (d + 1) y).take (min k y.nodes) by rw [← Tm.preD_len (d + 1) y]; exact List.take_eq_take_min]
                rfl
          · obtain rfl : j = L.length := by omega
            gi_wp2
            go_ret
            have hq := HQ.out
            have hG := HGr.out
            rw [List.take_length] at hq hG hlt
            refine .inl ⟨rfl, ?_, ⟨[((X, _), d)] ++ q, ?_, by simpa using HJr.out⟩, ?_, HMr.out⟩
            · rw [HX.out, Tm.nodes_mk]; omega
            · rw [List.map_append, hq, HX.out]; rfl
            · rw [HX.out, Tm.nodes_mk]
              rw [show m + 1 - ((Tm.pres L).length + 1) = m - (Tm.pres L).length by omega]
              exact hG
    · gi_wp2
      go_ret
      refine .inr ⟨rfl, .inr ⟨[((X, _), d)], 1, ?_, by simp; omega, hx3⟩⟩
      rw [HX.out]; rfl

set_option maxHeartbeats 2000000 in
set_option maxRecDepth 100000 in
theorem nodes81_in (G : Tm → Prop) (Own : Nat → World → Prop) (n l n₀ Bt : Nat) (x : Tm) (v : Value) (w0 W : World) (J Jx : List ND → World → Prop) (hT : TmAt (· < n₀) w0 x v) (hGx : ∀ y ∈ x.pre, G y) (hB : ∀ k, k < n₀ → W.heap[k]? = w0.heap[k]?) (hn0 : n₀ ≤ w0.heap.size) (hnW : n₀ ≤ W.heap.size)
    (hbt : ∃ cs, v = .agg cs ∧ W.heap[Bt]? = some (.cells cs 25))
    (hO : ∀ k A, Own k A → k < A.heap.size ∧ W.heap.size ≤ k) (hOs : ∀ k A B F, Own k A → Mod F A B → (∀ j, j < A.heap.size → F j → Own j A) → Own k B)
    (hOn : ∀ s A o, J s A → W.heap.size ≤ A.heap.size → Own A.heap.size (A.alloc o))
    (hJ : ∀ s A B F, J s A → Mod F A B → (∀ j, j < A.heap.size → F j → Own j A) → J s B)
    (hY : ∀ pre x W1, J pre W1 → TmAt (· < n₀) w0 x.1.1 x.1.2 ∧ G x.1.1 → pre.length < 4097 → YieldAt Fence.wide (n - 1) Tryz.prog l #[.int .i64 x.2, x.1.2] W1 fun e W' =>
      (e = .returned (.bool true) ∧ J (pre ++ [x]) W' ∧ KO Own n₀ W1 W') ∨ (e = .returned (.bool false) ∧ Jx (pre ++ [x]) W')) (h0 : J [] W) :
    CallsIn Fence.wide n Tryz.prog 168 #[.func (.yield l) #[] #[], .pointer (some ⟨Bt, 0, none⟩)] W fun e W' => (∃ v, e = .returned v) ∧
      ((∃ xs : List ND, xs.map ndK = (Tm.preD 1 x).take 4097 ∧ J xs W') ∨ (∃ pre : List ND, (∃ k, pre.map ndK = (Tm.preD 1 x).take k ∧ pre.length ≤ 4097) ∧ Jx pre W')) := by
  obtain ⟨cs, rfl, hbt⟩ := hbt
  obtain ⟨kk, nn, s, t, L, A, cap, hx, hcs⟩ : ∃ k' n' s' t' L' A' cap', x = Tm.mk k' n' s' t' L' ∧ Value.agg cs = .agg #[.int .i8 k', .int .i64 n', .string s', .string t', .slice A' L'.length cap'] := by
    cases hT; exact ⟨_, _, _, _, _, _, _, rfl, rfl⟩
  simp only [Value.agg.injEq] at hcs
  subst hcs
  have hlt := heap_lt hbt
  obtain ⟨V1, hV1⟩ : ∃ V1, V1 = W.alloc (.cells #[.func (.yield l) #[] #[]] 209) := ⟨_, rfl⟩
  obtain ⟨V2, hV2⟩ : ∃ V2, V2 = V1.alloc (.cells #[.int .i64 4097] 3) := ⟨_, rfl⟩
  obtain ⟨V, hV⟩ : ∃ V, V = V2.alloc (.cells #[.func (.func 169) #[] #[.pointer (some ⟨W.heap.size + 1, 0, none⟩), .pointer (some ⟨W.heap.size, 0, none⟩), .pointer (some ⟨W.heap.size + 2, 0, none⟩)]] 209) := ⟨_, rfl⟩
  have z1 : V1.heap.size = W.heap.size + 1 := by rw [hV1]; exact World.size_alloc _ _
  have z2 : V2.heap.size = W.heap.size + 2 := by rw [hV2, World.size_alloc, z1]
  have z3 : V.heap.size = W.heap.size + 3 := by rw [hV, World.size_alloc, z2]
  have m1 : Mod (fun _ => False) W V1 := by rw [hV1]; exact Mod.alloc _ _ _
  have m2 : Mod (fun _ => False) V1 V2 := by rw [hV2]; exact Mod.alloc _ _ _
  have m3 : Mod (fun _ => False) V2 V := by rw [hV]; exact Mod.alloc _ _ _
  have mV : Mod (fun _ => False) W V := (m1.trans m2 (fun _ _ h => h)).trans m3 (fun _ _ h => h)
  have j1 := hJ _ _ _ _ h0 m1 (fun _ _ h => h.elim)
  have j2 := hJ _ _ _ _ j1 m2 (fun _ _ h => h.elim)
  have j3 := hJ _ _ _ _ j2 m3 (fun _ _ h => h.elim)
  have o0 : Own W.heap.size V := by
    have h : Own W.heap.size V1 := by rw [hV1]; exact hOn [] W _ h0 (Nat.le_refl _)
    exact hOs _ _ _ _ (hOs _ _ _ _ h m2 (fun _ _ h => h.elim)) m3 (fun _ _ h => h.elim)
  have o1 : Own (W.heap.size + 1) V := by
    have h : Own V1.heap.size V2 := by rw [hV2]; exact hOn [] V1 _ j1 (by omega)
    rw [z1] at h
    exact hOs _ _ _ _ h m3 (fun _ _ h => h.elim)
  have o2 : Own (W.heap.size + 2) V := by
    have h : Own V2.heap.size V := by rw [hV]; exact hOn [] V2 _ j2 (by omega)
    rwa [z2] at h
  have gV : Gen7 l W.heap.size 4097 V := by
    refine ⟨?_, ?_, ?_⟩
    · refine (m3.block _ (by omega) (fun h => h)).trans ((m2.block _ (by omega) (fun h => h)).trans ?_)
      rw [hV1]; exact block_alloc _ _
    · refine (m3.block _ (by omega) (fun h => h)).trans ?_
      rw [hV2, ← z1]; exact block_alloc _ _
    · rw [hV, ← z2]; exact block_alloc _ _
  have cw : V.cell? ⟨W.heap.size + 2, 0, none⟩ = some (.func (.func 169) #[] #[.pointer (some ⟨W.heap.size + 1, 0, none⟩), .pointer (some ⟨W.heap.size, 0, none⟩), .pointer (some ⟨W.heap.size + 2, 0, none⟩)]) := cell_of_row gV.walk rfl
  have hbv : V.heap[Bt]? = _ := (mV.block _ hlt (fun h => h)).trans hbt
  have d0 : V.cell? ⟨Bt, 0, none⟩ = some (.int .i8 kk) := cell_of_row hbv rfl
  have d1 : V.cell? ⟨Bt, 1, none⟩ = some (.int .i64 nn) := cell_of_row hbv rfl
  have d2 : V.cell? ⟨Bt, 2, none⟩ = some (.string s) := cell_of_row hbv rfl
  have d3 : V.cell? ⟨Bt, 3, none⟩ = some (.string t) := cell_of_row hbv rfl
  have d4 : V.cell? ⟨Bt, 4, none⟩ = some (.slice A L.length cap) := cell_of_row hbv rfl
  have HC := Lib.hid (nodes8_walked G Own l n₀ W.heap.size 4097 w0 J Jx hnW hO hOs hOn hJ (fun m pre x W1 hj hx hl => YieldAt.deep7 m (hY pre x W1 hj hx hl)) x (n - 1) 1 _ [] 4097 V hGx (by decide) hT
    (fun k hk => (mV.block k (by omega) (fun h => h)).trans (hB k hk)) hn0 ⟨o0, o1, o2⟩ gV (by decide) (by decide) j3 (by decide))
  have HX := Lib.hid hx
  clear hbv hbt gV mV hx hT hB hJ hY h0 hO hOs hOn z1 z2 z3 m1 m2 m3 j1 j2 j3 o0 o1 o2
  subst hV hV2 hV1
  refine callsIn_of_wp Tryz.func168 rfl trivial ?_ rfl
  simp only [Tryz.ntmps168, List.size_toArray, List.length_cons, List.length_nil, Nat.reduceAdd, Nat.reduceSub, Array.replicate_succ, Array.replicate_zero, List.push_toArray, List.append_toArray, List.nil_append, List.cons_append]
  gi_wp2_with fail
  refine ⟨trivial, fun h => (by cases h), ?_⟩
  refine HC.out.mono ?_
  clear cw d0 d1 d2 d3 d4
  rintro e W5 (⟨rfl, hn5, ⟨q5, hq5, hJ5⟩, _, _⟩ | ⟨rfl, hw⟩)
  · have HQ5 := Lib.hid hq5
    have HJ5 := Lib.hid hJ5
    have HN5 := Lib.hid hn5
    clear hq5 hJ5 hn5
    gi_wp2
    go_end0
    refine ⟨⟨_, rfl⟩, .inl ⟨q5, ?_, by simpa using HJ5.out⟩⟩
    have h := HN5.out
    rw [HQ5.out, List.take_of_length_le (by rw [Tm.preD_len]; omega)]
  · have HW := Lib.hid hw
    clear hw
    gi_wp2
    go_end0
    refine ⟨⟨_, rfl⟩, ?_⟩
    rcases HW.out with ⟨h1, q5, hq5, hJ5⟩ | ⟨q5, k, hq5, hl5, hx5⟩
    · exact .inl ⟨q5, hq5, by simpa using hJ5⟩
    · exact .inr ⟨q5, ⟨k, hq5, by simpa using hl5⟩, by simpa using hx5⟩

theorem nodes8_seq (G : Tm → Prop) (n n₀ Bt : Nat) (x : Tm) (v : Value) (w : World) (hT : TmAt (· < n₀) w x v) (hGx : ∀ y ∈ x.pre, G y) (hn0 : n₀ ≤ w.heap.size) (hbt : ∃ cs, v = .agg cs ∧ w.heap[Bt]? = some (.cells cs 25)) :
    SeqO n Tryz.prog 168 #[.pointer (some ⟨Bt, 0, none⟩)] (fun y : ND => #[.int .i64 y.2, y.1.2]) n₀ (fun y => TmAt (· < n₀) w y.1.1 y.1.2 ∧ G y.1.1) (fun xs => xs.map ndK = (Tm.preD 1 x).take 4097) (fun pre => ∃ k, pre.map ndK = (Tm.preD 1 x).take k ∧ pre.length ≤ 4097) 4097 w :=
  fun Own l J Jx W hW hO hOs hOn hJ hY _ h0 => by
    obtain ⟨cs, e, hb⟩ := hbt
    exact nodes81_in G Own n l n₀ Bt x v w W J Jx hT hGx (fun k hk => hW.block k (by omega)) hn0 (Nat.le_trans hn0 hW.size) ⟨cs, e, (hW.block _ (heap_lt hb)).trans hb⟩ hO hOs hOn hJ hY h0
end Go.Proofs.YtdimcddbmccniaaGreatDoor
end
section
set_option linter.unusedVariables false
namespace Go.Proofs.YtdimcddbmccniaaGreatDoor
open Go.RowKit Go.Shelf

def cloneRen : Ren := ⟨fun | 25 => 265 | n => n, fun | 0 => 0 | 3 => 3 | 4 => 4 | 5 => 5 | 9 => 9 | 37 => 171 | 47 => 200 | n => n, fun n => n⟩

theorem cloneLays : LaysPu.n25 Tryz.prog cloneRen :=
  { mixed := by kernel_rfl, f25 := by kernel_rfl
    t0 := by kernel_rfl, a0 := fun _ => by kernel_rfl, z0 := fun _ => by kernel_rfl, v0 := fun _ => by kernel_rfl, i0 := by kernel_rfl
    t3 := by kernel_rfl, a3 := fun _ => by kernel_rfl, z3 := fun _ => by kernel_rfl, v3 := fun _ => by kernel_rfl, i3 := by kernel_rfl
    t4 := by kernel_rfl, a4 := fun _ => by kernel_rfl, z4 := fun _ => by kernel_rfl, v4 := fun _ => by kernel_rfl, i4 := by kernel_rfl
    t5 := by kernel_rfl, a5 := fun _ => by kernel_rfl, z5 := fun _ => by kernel_rfl, v5 := fun _ => by kernel_rfl, i5 := by kernel_rfl
    t9 := by kernel_rfl, a9 := fun _ => by kernel_rfl, z9 := fun _ => by kernel_rfl, v9 := fun _ => by kernel_rfl, i9 := by kernel_rfl
    t37 := by kernel_rfl, a37 := fun _ => by kernel_rfl, z37 := fun _ => by kernel_rfl, v37 := fun _ => by kernel_rfl, i37 := by kernel_rfl
    t47 := by kernel_rfl, a47 := fun _ => by kernel_rfl, z47 := fun _ => by kernel_rfl, v47 := fun _ => by kernel_rfl, i47 := by kernel_rfl }

theorem liteClone_any (s : ByteArray) (w : World) (hlim : s.size ≤ 281474976710656) :
    Calls Tryz.prog 265 #[.string s] w fun e w' => e = .returned (.string s) ∧ Below w.heap.size w w' :=
  AnyPu.stringslite_Clone cloneLays s w hlim

theorem Clone_any (s : ByteArray) (w : World) (hlim : s.size ≤ 281474976710656) :
    Calls Tryz.prog 257 #[.string s] w fun e w' => e = .returned (.string s) ∧ Below w.heap.size w w' := by
  have HZ := Lib.hid hlim
  clear hlim
  go_enter Tryz.func257, Tryz.ntmps257
  go_wp2_with fail
  refine (liteClone_any s _ HZ.out).mono ?_
  rintro e w1 ⟨rfl, hb1⟩
  go_wp2_with fail
  go_ret
  exact ⟨rfl, hb1⟩
end Go.Proofs.YtdimcddbmccniaaGreatDoor
end
section
set_option linter.unusedVariables false
namespace Go.Proofs.YtdimcddbmccniaaGreatDoor
open Go.RowKit

theorem here_of {W : World} {n : Nat} (o : Obj) (h : W.heap.size = n) : (W.alloc o).heap[n]? = some o ∧ (W.alloc o).heap.size = n + 1 := by subst h; exact ⟨block_alloc W o, World.size_alloc _ _⟩
theorem there_of {W : World} {n : Nat} {o' : Obj} (o : Obj) (h : W.heap[n]? = some o') : (W.alloc o).heap[n]? = some o' := (Below.heap_alloc _ _ _ (heap_lt h)).trans h
end Go.Proofs.YtdimcddbmccniaaGreatDoor
end
section

end
