/- Whether the law at hand may read the table of powers of ten (written by pow7.py). -/
import Derived.Test.YtmdcdhdjojimeaaGreatDoorKIMay
import Derived.Test.YtmdcdhdjojimeaaGreatDoorKRange
import Derived.Test.YtmdcdhdjojimeaaGreatDoorKHas7
import Derived.Test.YtmdcdhdjojimeaaGreatDoorKSet9
import Derived.Test.YtmdcdhdjojimeaaGreatDoorProg
import Derived.Test.YtmdcdhdjojimeaaGreatDoorRows
import Derived.WalkKit
import Derived.Lib.Hide
import Derived.Shelf.Abstract
import Derived.Shelf.RegionOpen
import Derived.OwnWalkIn
import Derived.TacticsInMore
import Derived.LoopNIn
import Derived.LoopIn
import Derived.RangeFuncBox
import Derived.Laws.EntriesVeiled
import Derived.Outline
import Derived.LoopTactic
section
set_option linter.unusedVariables false
namespace Go.Proofs.YtmdcdhdjojimeaaGreatDoor
open Go.RowKit Go.Shelf
attribute [local go_sem] Oper.semAt_some

theorem YieldAt.deep7 {m : Nat} (m' : Nat) {P : Program} {l : Nat} {args : Array Value} {W : World} {R : Ending → World → Prop} (h : YieldAt Fence.wide m P l args W R) : YieldAt Fence.wide m' P l args W R := by
 obtain ⟨fn, tmps, assign, body, hy, hR⟩ := h
 exact ⟨fn, tmps, assign, body, hy, hR.1, fun c cs _ => hR.2 c cs (room_wide _)⟩

mutual
def Tm.preD : Nat → Tm → List (Tm × Nat)
 | d, .mk k n s t l => (.mk k n s t l, d) :: Tm.presD (d + 1) l
def Tm.presD : Nat → List Tm → List (Tm × Nat)
 | _, [] => []
 | d, x :: l => Tm.preD d x ++ Tm.presD d l
end
theorem Tm.presD_fst (d : Nat) : ∀ (l : List Tm), (∀ x ∈ l, ∀ d, (Tm.preD d x).map (·.1) = x.pre) → (Tm.presD d l).map (·.1) = Tm.pres l
 | [], _ => rfl
 | x :: l, h => by rw [Tm.presD, List.map_append, h x (by simp), Tm.presD_fst d l (fun y hy => h y (by simp [hy])), Tm.pres]
theorem Tm.preD_fst (x : Tm) : ∀ d, (Tm.preD d x).map (·.1) = x.pre := by
 induction x using Tm.ind with
 | h k n s t l ih => intro d; rw [Tm.preD, List.map_cons, Tm.presD_fst _ _ ih, Tm.pre]
theorem Tm.preD_len (d : Nat) (x : Tm) : (Tm.preD d x).length = x.nodes := by rw [← List.length_map (f := (·.1)), Tm.preD_fst]; rfl
theorem Tm.presD_len (d : Nat) (l : List Tm) : (Tm.presD d l).length = (Tm.pres l).length := by rw [← Tm.presD_fst d l (fun x _ => Tm.preD_fst x), List.length_map]
theorem Tm.presD_append (d : Nat) (a b : List Tm) : Tm.presD d (a ++ b) = Tm.presD d a ++ Tm.presD d b := by
 induction a with
 | nil => simp [Tm.presD]
 | cons x a ih => simp [Tm.presD, ih]
theorem Tm.presD_take_succ {d : Nat} {l : List Tm} {j : Nat} {x : Tm} (h : l[j]? = some x) : Tm.presD d (l.take (j + 1)) = Tm.presD d (l.take j) ++ Tm.preD d x := by
 rw [List.take_add_one, h, Option.toList_some, Tm.presD_append]; simp [Tm.presD]
theorem Tm.presD_split {d : Nat} {L : List Tm} {j : Nat} {y : Tm} (h : L[j]? = some y) : Tm.presD d L = Tm.presD d (L.take j) ++ (Tm.preD d y ++ Tm.presD d (L.drop (j + 1))) := by
 have e : L = L.take j ++ (y :: L.drop (j + 1)) := by
  obtain ⟨hj, e⟩ := List.getElem?_eq_some_iff.1 h
  subst e
  rw [← List.drop_eq_getElem_cons hj, List.take_append_drop]
 have e2 := Tm.presD_append d (L.take j) (y :: L.drop (j + 1))
 rw [← e] at e2
 rw [e2]; rfl
theorem Tm.pres_len_split {L : List Tm} {j : Nat} {y : Tm} (h : L[j]? = some y) : (Tm.pres (L.take j)).length + y.nodes ≤ (Tm.pres L).length := by
 have e := Tm.presD_split (d := 0) h
 have e2 := congrArg List.length e
 rw [List.length_append, List.length_append, Tm.presD_len, Tm.presD_len, Tm.preD_len] at e2
 omega
theorem Tm.preD_take {k n : Int} {s t : ByteArray} {L : List Tm} {j d : Nat} {y : Tm} (h : L[j]? = some y) (i : Nat) (hi : i ≤ y.nodes) :
  (Tm.preD d (Tm.mk k n s t L)).take ((Tm.pres (L.take j)).length + i + 1) = (Tm.mk k n s t L, d) :: (Tm.presD (d + 1) (L.take j) ++ (Tm.preD (d + 1) y).take i) := by
 rw [Tm.preD, List.take_succ_cons, Tm.presD_split h, List.take_append, List.take_of_length_le (by rw [Tm.presD_len]; omega), List.take_append]
 have e1 : (Tm.pres (L.take j)).length + i - (Tm.presD (d + 1) (L.take j)).length = i := by rw [Tm.presD_len]; omega
 have e2 : i - (Tm.preD (d + 1) y).length = 0 := by rw [Tm.preD_len]; omega
 rw [e1, e2]
 simp
abbrev ND : Type := (Tm × Value) × Nat
def ndK (p : ND) : Tm × Nat := (p.1.1, p.2)

structure Gen7 (l Y : Nat) (M : Nat) (W : World) : Prop where
 yield : W.heap[Y]? = some (.cells #[.func (.yield l) #[] #[]] 153 (0, 0))
 left : W.heap[Y + 1]? = some (.cells #[.int .i64 M] 3 (0, 0))
 walk : W.heap[Y + 2]? = some (.cells #[.func (.func 102) #[] #[.pointer (some ⟨Y + 1, 0, none⟩), .pointer (some ⟨Y, 0, none⟩), .pointer (some ⟨Y + 2, 0, none⟩)]] 153 (0, 0))

theorem Gen7.mod {l Y M : Nat} {F : Nat → Prop} {W W' : World} (h : Gen7 l Y M W) (hm : Mod F W W') (hF : ¬ F Y ∧ ¬ F (Y + 1) ∧ ¬ F (Y + 2)) : Gen7 l Y M W' :=
 ⟨(hm.block _ (heap_lt h.yield) hF.1).trans h.yield, (hm.block _ (heap_lt h.left) hF.2.1).trans h.left, (hm.block _ (heap_lt h.walk) hF.2.2).trans h.walk⟩

def WalkP7 (l n₀ Y M N : Nat) (J Jx : List ND → World → Prop) (pre : List ND) (d : Nat) (x : Tm) (W : World) (e : Ending) (W' : World) : Prop :=
 (e = .returned (.bool true) ∧ x.nodes < M ∧ (∃ q : List ND, q.map ndK = Tm.preD d x ∧ J (pre ++ q) W') ∧ Gen7 l Y (M - x.nodes) W' ∧ Mod (fun k => (n₀ ≤ k ∧ k < Y) ∨ k = Y + 1) W W') ∨
 (e = .returned (.bool false) ∧ ((M ≤ x.nodes ∧ ∃ q : List ND, q.map ndK = (Tm.preD d x).take M ∧ J (pre ++ q) W') ∨ (∃ (q : List ND) (k : Nat), q.map ndK = (Tm.preD d x).take k ∧ pre.length + q.length ≤ N ∧ Jx (pre ++ q) W')))

set_option maxRecDepth 100000 in
set_option maxHeartbeats 4000000 in
theorem nodes7_walked (l n₀ Y N : Nat) (w0 : World) (J Jx : List ND → World → Prop) (hn : n₀ ≤ Y)
  (hJ : ∀ s A B, J s A → Mod (fun k => Y ≤ k) A B → J s B)
  (hY : ∀ (m : Nat) pre x W, J pre W → TmAt (· < n₀) w0 x.1.1 x.1.2 → pre.length < N → YieldAt Fence.wide m Tryz.prog l #[.int .i64 x.2, x.1.2] W fun e W' =>
   (e = .returned (.bool true) ∧ J (pre ++ [x]) W' ∧ Mod (fun k => n₀ ≤ k ∧ k < Y) W W') ∨ (e = .returned (.bool false) ∧ Jx (pre ++ [x]) W')) (x : Tm) :
  ∀ (n d : Nat) (v : Value) (pre : List ND) (M : Nat) (W : World), d + M ≤ 4098 → TmAt (· < n₀) w0 x v → Below n₀ w0 W → n₀ ≤ w0.heap.size → Gen7 l Y M W → 1 ≤ M → M ≤ 4097 → J pre W → pre.length + M ≤ N →
   CallsIn Fence.wide n Tryz.prog 102 #[.int .i64 d, v, .pointer (some ⟨Y + 1, 0, none⟩), .pointer (some ⟨Y, 0, none⟩), .pointer (some ⟨Y + 2, 0, none⟩)] W (WalkP7 l n₀ Y M N J Jx pre d x W) := by
 induction x using Tm.ind with
 | h kk nn s t L ih =>
  intro n d v pre M W hdM hT hB hn0 hG hM hM2 hj hN
  obtain ⟨m, rfl⟩ : ∃ m, M = m + 1 := ⟨M - 1, by omega⟩
  have HT := Lib.hid hT
  obtain ⟨A, cap, rfl, hR, hk, hnn, hs, ht⟩ := hT.parts
  have hlen := hR.max
  unfold maxLen at hlen
  have HR := Lib.hid hR
  have HIH := Lib.hid ih
  clear hR ih hT
  obtain ⟨X, hX⟩ : ∃ X, X = (Tm.mk kk nn s t L) := ⟨_, rfl⟩
  rw [← hX] at HT ⊢
  obtain ⟨W1, hW1⟩ : ∃ W1, W1 = W.alloc (.cells #[.int .i8 kk, .int .i64 nn, .string s, .string t, .slice A L.length cap] 25) := ⟨_, rfl⟩
  have hYlt := heap_lt hG.walk
  have m1 : Mod (fun _ => False) W W1 := by rw [hW1]; exact Mod.alloc _ _ _
  have hs1 : W1.heap.size = W.heap.size + 1 := by rw [hW1]; simp
  have hbox : W1.heap[W.heap.size]? = some (.cells #[.int .i8 kk, .int .i64 nn, .string s, .string t, .slice A L.length cap] 25) := by rw [hW1]; exact World.alloc_heap_new _ _
  have G1 := hG.mod m1 ⟨fun h => h, fun h => h, fun h => h⟩
  have cl : W1.cell? ⟨Y + 1, 0, none⟩ = some (.int .i64 ((m : Int) + 1)) := cell_of_row G1.left rfl
  have fl : W1.frozen? ⟨Y + 1, 0, none⟩ = false := free_of_row G1.left
  obtain ⟨W2, hW2⟩ : ∃ W2, W2 = W1.setCell ⟨Y + 1, 0, none⟩ (.int .i64 (m : Int)) := ⟨_, rfl⟩
  have m2 : Mod (fun k => k = Y + 1) W1 W2 := by rw [hW2]; exact Mod.setCell _ _ _ (.inl rfl)
  have m12 : Mod (fun k => k = Y + 1) W W2 := (m1.mono (fun _ _ h => h.elim)).trans m2 (fun k _ e => e)
  have G2 : Gen7 l Y m W2 := by
   refine ⟨(m2.block _ (heap_lt G1.yield) (by omega)).trans G1.yield, ?_, (m2.block _ (heap_lt G1.walk) (by omega)).trans G1.walk⟩
   rw [hW2]; exact set_row _ G1.left
  have hs2 : W2.heap.size = W.heap.size + 1 := by rw [hW2]; simp [World.setCell, hs1]
  have cy : W2.cell? ⟨Y, 0, none⟩ = some (.func (.yield l) #[] #[]) := cell_of_row G2.yield rfl
  have hb2 : W2.heap[W.heap.size]? = _ := (m2.block _ (by omega) (by omega)).trans hbox
  obtain ⟨b0, b1, b2, b3, b4⟩ := five_of hb2
  have j2 : J pre W2 := hJ _ _ _ hj (m12.mono (fun k _ e => by omega))
  obtain ⟨fn, tmps, assign, body, hy, hRound⟩ := hY (n - 1) pre ((X, _), d) W2 j2 HT.out (by omega)
  dsimp only at hy
  have HX := Lib.hid hX
  have HB := Lib.hid hB
  have HS2 := Lib.hid hs2
  have HB2 := Lib.hid hb2
  have HM12 := Lib.hid m12
  have HG2 := Lib.hid G2
  have HJ := Lib.hid hJ
  have HY := Lib.hid hY
  clear hX hG hB hs1 hs2 hbox hb2 G1 m1 m2 m12 G2 hJ hY hj j2
  -- where the walk goes on behind yield
  have back : ∀ (W3 : World) (K : Ending → World → Prop), True := fun _ _ => trivial
  subst hW2
  subst hW1
  refine callsIn_of_wp Tryz.func102 rfl trivial ?_ rfl
  simp only [Tryz.ntmps102, List.size_toArray, List.length_cons, List.length_nil, Nat.reduceAdd, Nat.reduceSub, Array.replicate_succ, Array.replicate_zero, List.push_toArray, List.append_toArray, List.nil_append, List.cons_append]
  gi_wp2
  refine ⟨fun h => (by cases h), ?_⟩
  refine hRound.mono ?_
  clear hRound hy cl fl cy b0 b1 b2 b3 b4
  rintro e W3 (⟨rfl, hJ3, hm3⟩ | ⟨rfl, hx3⟩)
  ·have hs3 : W.heap.size + 1 ≤ W3.heap.size := by have := hm3.size; rw [HS2.out] at this; exact this
   have G3 : Gen7 l Y m W3 := HG2.out.mod hm3 ⟨by omega, by omega, by omega⟩
   have hb3 : W3.heap[W.heap.size]? = _ := (hm3.block _ (by rw [HS2.out]; omega) (by omega)).trans HB2.out
   have b4 : W3.cell? ⟨W.heap.size, 4, none⟩ = some (.slice A L.length cap) := cell_of_row hb3 rfl
   have cl : W3.cell? ⟨Y + 1, 0, none⟩ = some (.int .i64 (m : Int)) := cell_of_row G3.left rfl
   have HM3 : Hid (Mod (fun k => (n₀ ≤ k ∧ k < Y) ∨ k = Y + 1) W W3) := (HM12.out.mono (fun k _ e => .inr e)).trans hm3 (fun k _ e => .inl e)
   have HG3 := Lib.hid G3
   have HJ3 := Lib.hid hJ3
   clear hb3 G3 hm3 hJ3
   by_cases hm0 : m = 0
   ·subst hm0
    gi_wp2
    go_ret
    refine .inr ⟨rfl, .inl ⟨Tm.pre_ne _, [((X, _), d)], ?_, HJ3.out⟩⟩
    rw [HX.out]; rfl
   ·have h0 : ((m : Int) == 0) = false := by rw [beq_eq_false_iff_ne]; omega
    gi_wp2
    gi_loopw [24] (fun i wr => ∃ j : Nat, j ≤ L.length ∧ i = .int .i64 j ∧ (Tm.pres (L.take j)).length < m ∧ (∃ q : List ND, q.map ndK = Tm.presD (d + 1) (L.take j) ∧ J (pre ++ [((X, .agg #[.int .i8 kk, .int .i64 nn, .string s, .string t, .slice A L.length cap]), d)] ++ q) wr) ∧ Gen7 l Y (m - (Tm.pres (L.take j)).length) wr ∧ Mod (fun k => (n₀ ≤ k ∧ k < Y) ∨ k = Y + 1) W wr)
     (fun i _ => L.length - (intOf i).toNat)
    case atStart => exact ⟨0, Nat.zero_le _, rfl, by simp [Tm.pres]; omega, ⟨[], by simp [Tm.presD], by simpa using HJ3.out⟩, by simpa [Tm.pres] using HG3.out, HM3.out⟩
    case round =>
     obtain ⟨j, hj, rfl, hlt, ⟨q, hq, hJr⟩, hG, hMr⟩ := hrel
     have hYr : Y + 2 < wr.heap.size := by have := hMr.size; omega
     have HQ := Lib.hid hq
     have HJr := Lib.hid hJr
     have HGr := Lib.hid hG
     have HMr := Lib.hid hMr
     clear hq hJr hG hMr
     by_cases hjl : j < L.length
     ·obtain ⟨y, hy⟩ : ∃ y, L[j]? = some y := ⟨L[j], List.getElem?_eq_getElem hjl⟩
      obtain ⟨ad, u, rfl, had, hE, hTy⟩ := HR.out.at_ j y hy
      have hbw : Below n₀ w0 wr := HB.out.trans (HMr.out.below (B := n₀) (by omega) (fun k h => by omega))
      have hEr : ElemAt wr ad j u := hE.keep (hbw.block ad.block had)
      obtain ⟨k', n', s', t', L', A', cap', hy', rfl⟩ : ∃ k' n' s' t' L' A' cap', y = Tm.mk k' n' s' t' L' ∧ u = .agg #[.int .i8 k', .int .i64 n', .string s', .string t', .slice A' L'.length cap'] := by
       cases hTy; exact ⟨_, _, _, _, _, _, _, rfl, rfl⟩
      obtain ⟨c0, c1, c2, c3, c4, hc, e0, e1, e2, e3, e4⟩ := hEr
      simp only [Value.agg.injEq, Array.mk.injEq, List.cons.injEq, and_true] at hc
      obtain ⟨rfl, rfl, rfl, rfl, rfl⟩ := hc
      clear hy'
      have hmem := List.mem_of_getElem? hy
      have hpy := Tm.pre_ne y
      have HYY := Lib.hid hy
      have HTY := Lib.hid hTy
      have HBW := Lib.hid hbw
      clear hE hTy hy hbw
      obtain ⟨W4, hW4⟩ : ∃ W4, W4 = wr.alloc (.cells #[.int .i8 k', .int .i64 n', .string s', .string t', .slice A' L'.length cap'] 25) := ⟨_, rfl⟩
      have m4 : Mod (fun _ => False) wr W4 := by rw [hW4]; exact Mod.alloc _ _ _
      have G4 := HGr.out.mod m4 ⟨fun h => h, fun h => h, fun h => h⟩
      have cw : W4.cell? ⟨Y + 2, 0, none⟩ = some (.func (.func 102) #[] #[.pointer (some ⟨Y + 1, 0, none⟩), .pointer (some ⟨Y, 0, none⟩), .pointer (some ⟨Y + 2, 0, none⟩)]) := cell_of_row G4.walk rfl
      have hb5 : W4.heap[wr.heap.size]? = some (.cells #[.int .i8 k', .int .i64 n', .string s', .string t', .slice A' L'.length cap'] 25) := by rw [hW4]; exact World.alloc_heap_new _ _
      obtain ⟨d0, d1, d2, d3, d4⟩ := five_of hb5
      have hlq : q.length = (Tm.pres (L.take j)).length := by rw [← Tm.presD_len (d + 1), ← HQ.out, List.length_map]
      have HC := Lib.hid (HIH.out y hmem (n - 1) (d + 1) _ (pre ++ [((X, .agg #[.int .i8 kk, .int .i64 nn, .string s, .string t, .slice (some ad) L.length cap]), d)] ++ q) (m - (Tm.pres (L.take j)).length) W4 (by omega) HTY.out
       (HBW.out.trans (m4.below (B := n₀) (by omega) (fun k h => h.elim))) hn0 G4 (by omega) (by omega) (HJ.out _ _ _ HJr.out (m4.mono (fun _ _ h => h.elim))) (by simp; omega))
      have HM4 := Lib.hid m4
      clear hb5 m4 G4
      subst hW4
      gi_wp2_with fail
      refine ⟨trivial, fun h => (by cases h), ?_⟩
      refine HC.out.mono ?_
      clear cw d0 d1 d2 d3 d4 e0 e1 e2 e3 e4
      rintro e W5 (⟨rfl, hn5, ⟨q5, hq5, hJ5⟩, hG5, hM5⟩ | ⟨rfl, hw⟩)
      ·have HQ5 := Lib.hid hq5
       have HJ5 := Lib.hid hJ5
       have HG5 := Lib.hid hG5
       have HM5 := Lib.hid hM5
       have HN5 := Lib.hid hn5
       clear hq5 hJ5 hG5 hM5 hn5
       gi_wp2
       go_roundw
       case rel =>
        have e5 := Tm.presD_take_succ (d := d + 1) HYY.out
        have e6 : (Tm.pres (L.take (j + 1))).length = (Tm.pres (L.take j)).length + y.nodes := by rw [Tm.pres_take_succ HYY.out, List.length_append]; rfl
        have := HN5.out
        refine ⟨j + 1, by omega, by go_num, by omega, ⟨q ++ q5, by rw [List.map_append, HQ.out, HQ5.out, e5], by rw [← List.append_assoc]; exact HJ5.out⟩, ?_, ?_⟩
        ·rw [e6, ← Nat.sub_sub]; exact HG5.out
        ·exact (HMr.out.trans (HM4.out.mono (G := fun k => (n₀ ≤ k ∧ k < Y) ∨ k = Y + 1) (fun _ _ h => h.elim)) (fun _ _ h => h)).trans HM5.out (fun _ _ h => h)
       case measure => simp [intOf]; omega
      ·have HW := Lib.hid hw
       clear hw
       gi_wp2
       go_ret
       rcases HW.out with ⟨h1, q5, hq5, hJ5⟩ | ⟨q5, k, hq5, hl5, hx5⟩
       ·refine .inr ⟨rfl, .inl ⟨?_, [((X, _), d)] ++ q ++ q5, ?_, by simpa using hJ5⟩⟩
        ·rw [HX.out, Tm.nodes_mk]
         have := Tm.pres_len_split HYY.out
         omega
        ·have h2 := Tm.preD_take (k := kk) (n := nn) (s := s) (t := t) (d := d) HYY.out (m - (Tm.pres (L.take j)).length) h1
         rw [show (Tm.pres (L.take j)).length + (m - (Tm.pres (L.take j)).length) + 1 = m + 1 by omega] at h2
         rw [HX.out, h2, List.map_append, List.map_append, HQ.out, hq5]
         rfl
       ·refine .inr ⟨rfl, .inr ⟨[((X, _), d)] ++ q ++ q5, (Tm.pres (L.take j)).length + min k y.nodes + 1, ?_, by simp at hl5 ⊢; omega, by simpa using hx5⟩⟩
        rw [HX.out, Tm.preD_take HYY.out _ (Nat.min_le_right _ _), List.map_append, List.map_append, HQ.out, hq5]
        rw [show (Tm.preD (d + 1) y).take k = (Tm.preD (d + 1) y).take (min k y.nodes) by rw [← Tm.preD_len (d + 1) y]; exact List.take_eq_take_min]
        rfl
     ·obtain rfl : j = L.length := by omega
      gi_wp2
      go_ret
      have hq := HQ.out
      have hG := HGr.out
      rw [List.take_length] at hq hG hlt
      refine .inl ⟨rfl, ?_, ⟨[((X, _), d)] ++ q, ?_, by simpa using HJr.out⟩, ?_, HMr.out⟩
      ·rw [HX.out, Tm.nodes_mk]; omega
      ·rw [List.map_append, hq, HX.out]; rfl
      ·rw [HX.out, Tm.nodes_mk]
       rw [show m + 1 - ((Tm.pres L).length + 1) = m - (Tm.pres L).length by omega]
       exact hG
  ·gi_wp2
   go_ret
   refine .inr ⟨rfl, .inr ⟨[((X, _), d)], 1, ?_, by simp; omega, hx3⟩⟩
   rw [HX.out]; rfl

set_option maxHeartbeats 1000000 in
theorem nodes7_in (v : Array Value) (n : Nat) (w : World) :
  CallsIn Fence.wide n Tryz.prog 87 #[.agg v] w fun e w' => e = .returned (.func (.func 101) #[] #[.pointer (some ⟨w.heap.size, 0, none⟩)]) ∧ w' = w.alloc (.cells v 25) := by
 refine callsIn_of_wp Tryz.func87 rfl trivial ?_ rfl
 simp only [Tryz.ntmps87, List.size_toArray, List.length_cons, List.length_nil, Nat.reduceAdd, Nat.reduceSub, Array.replicate_succ, Array.replicate_zero, List.push_toArray, List.append_toArray, List.nil_append, List.cons_append]
 gi_wp2
 go_ret
 exact ⟨rfl, rfl⟩

set_option maxHeartbeats 2000000 in
set_option maxRecDepth 100000 in
theorem nodes71_in (n l n₀ Bt : Nat) (x : Tm) (v : Value) (w0 W : World) (J Jx : List ND → World → Prop) (hT : TmAt (· < n₀) w0 x v) (hB : Below n₀ w0 W) (hn0 : n₀ ≤ w0.heap.size)
  (hbt : ∃ cs, v = .agg cs ∧ W.heap[Bt]? = some (.cells cs 25))
  (hJ : ∀ s A B, J s A → Mod (fun k => W.heap.size ≤ k) A B → J s B)
  (hY : ∀ pre x W1, J pre W1 → TmAt (· < n₀) w0 x.1.1 x.1.2 → pre.length < 4097 → YieldAt Fence.wide (n - 1) Tryz.prog l #[.int .i64 x.2, x.1.2] W1 fun e W' =>
   (e = .returned (.bool true) ∧ J (pre ++ [x]) W' ∧ Mod (fun k => n₀ ≤ k ∧ k < W.heap.size) W1 W') ∨ (e = .returned (.bool false) ∧ Jx (pre ++ [x]) W')) (h0 : J [] W) :
  CallsIn Fence.wide n Tryz.prog 101 #[.func (.yield l) #[] #[], .pointer (some ⟨Bt, 0, none⟩)] W fun e W' => (∃ v, e = .returned v) ∧
   ((∃ xs : List ND, xs.map ndK = (Tm.preD 1 x).take 4097 ∧ J xs W') ∨ (∃ pre : List ND, (∃ k, pre.map ndK = (Tm.preD 1 x).take k ∧ pre.length ≤ 4097) ∧ Jx pre W')) := by
 obtain ⟨cs, rfl, hbt⟩ := hbt
 obtain ⟨kk, nn, s, t, L, A, cap, hx, hcs⟩ : ∃ k' n' s' t' L' A' cap', x = Tm.mk k' n' s' t' L' ∧ Value.agg cs = .agg #[.int .i8 k', .int .i64 n', .string s', .string t', .slice A' L'.length cap'] := by
  cases hT; exact ⟨_, _, _, _, _, _, _, rfl, rfl⟩
 simp only [Value.agg.injEq] at hcs
 subst hcs
 have hs0 : n₀ ≤ W.heap.size := Nat.le_trans hn0 hB.size
 have hlt := heap_lt hbt
 obtain ⟨V, hV⟩ : ∃ V, V = ((W.alloc (.cells #[.func (.yield l) #[] #[]] 153)).alloc (.cells #[.int .i64 4097] 3)).alloc (.cells #[.func (.func 102) #[] #[.pointer (some ⟨W.heap.size + 1, 0, none⟩), .pointer (some ⟨W.heap.size, 0, none⟩), .pointer (some ⟨W.heap.size + 2, 0, none⟩)]] 153) := ⟨_, rfl⟩
 have mV : Mod (fun _ => False) W V := by rw [hV]; exact ((Mod.alloc _ _ _).trans (Mod.alloc _ _ _) (fun _ _ h => h)).trans (Mod.alloc _ _ _) (fun _ _ h => h)
 have gV : Gen7 l W.heap.size 4097 V := by
  rw [hV]
  refine ⟨?_, ?_, ?_⟩
  ·exact ((Below.heap_alloc _ _ _ (by simp; omega)).trans (Below.heap_alloc _ _ _ (by simp))).trans (World.alloc_heap_new _ _)
  ·refine (Below.heap_alloc _ _ _ (by simp)).trans ?_
   have := World.alloc_heap_new (W.alloc (.cells #[.func (.yield l) #[] #[]] 153)) (.cells #[.int .i64 4097] 3)
   rw [World.size_alloc] at this
   exact this
  ·have := World.alloc_heap_new ((W.alloc (.cells #[.func (.yield l) #[] #[]] 153)).alloc (.cells #[.int .i64 4097] 3)) (.cells #[.func (.func 102) #[] #[.pointer (some ⟨W.heap.size + 1, 0, none⟩), .pointer (some ⟨W.heap.size, 0, none⟩), .pointer (some ⟨W.heap.size + 2, 0, none⟩)]] 153)
   simp only [World.size_alloc] at this
   exact this
 have cw : V.cell? ⟨W.heap.size + 2, 0, none⟩ = some (.func (.func 102) #[] #[.pointer (some ⟨W.heap.size + 1, 0, none⟩), .pointer (some ⟨W.heap.size, 0, none⟩), .pointer (some ⟨W.heap.size + 2, 0, none⟩)]) := cell_of_row gV.walk rfl
 have hbv : V.heap[Bt]? = _ := (mV.block _ hlt (fun h => h)).trans hbt
 obtain ⟨d0, d1, d2, d3, d4⟩ := five_of hbv
 have HC := Lib.hid (nodes7_walked l n₀ W.heap.size 4097 w0 J Jx hs0 hJ (fun m pre x W1 hj hx hl => YieldAt.deep7 m (hY pre x W1 hj hx hl)) x (n - 1) 1 _ [] 4097 V (by decide) hT
  (hB.trans (mV.below (B := n₀) hs0 (fun k h => h.elim))) hn0 gV (by decide) (by decide) (hJ _ _ _ h0 (mV.mono (fun _ _ h => h.elim))) (by decide))
 have HX := Lib.hid hx
 clear hbv hbt gV mV hx hT hB hJ hY h0
 subst hV
 refine callsIn_of_wp Tryz.func101 rfl trivial ?_ rfl
 simp only [Tryz.ntmps101, List.size_toArray, List.length_cons, List.length_nil, Nat.reduceAdd, Nat.reduceSub, Array.replicate_succ, Array.replicate_zero, List.push_toArray, List.append_toArray, List.nil_append, List.cons_append]
 gi_wp2_with fail
 refine ⟨trivial, fun h => (by cases h), ?_⟩
 refine HC.out.mono ?_
 clear cw d0 d1 d2 d3 d4
 rintro e W5 (⟨rfl, hn5, ⟨q5, hq5, hJ5⟩, _, _⟩ | ⟨rfl, hw⟩)
 ·have HQ5 := Lib.hid hq5
  have HJ5 := Lib.hid hJ5
  have HN5 := Lib.hid hn5
  clear hq5 hJ5 hn5
  gi_wp2
  go_end0
  refine ⟨⟨_, rfl⟩, .inl ⟨q5, ?_, by simpa using HJ5.out⟩⟩
  have h := HN5.out
  rw [HQ5.out, List.take_of_length_le (by rw [Tm.preD_len]; omega)]
 ·have HW := Lib.hid hw
  clear hw
  gi_wp2
  go_end0
  refine ⟨⟨_, rfl⟩, ?_⟩
  rcases HW.out with ⟨h1, q5, hq5, hJ5⟩ | ⟨q5, k, hq5, hl5, hx5⟩
  ·exact .inl ⟨q5, hq5, by simpa using hJ5⟩
  ·exact .inr ⟨q5, ⟨k, hq5, by simpa using hl5⟩, by simpa using hx5⟩

theorem nodes7_seq (n n₀ Bt : Nat) (x : Tm) (v : Value) (w : World) (hT : TmAt (· < n₀) w x v) (hn0 : n₀ ≤ w.heap.size) (hbt : ∃ cs, v = .agg cs ∧ w.heap[Bt]? = some (.cells cs 25)) :
  SeqC n Tryz.prog 101 #[.pointer (some ⟨Bt, 0, none⟩)] (fun y : ND => #[.int .i64 y.2, y.1.2]) n₀ (fun y => TmAt (· < n₀) w y.1.1 y.1.2) (fun xs => xs.map ndK = (Tm.preD 1 x).take 4097) (fun pre => ∃ k, pre.map ndK = (Tm.preD 1 x).take k ∧ pre.length ≤ 4097) 4097 w :=
 fun l J Jx W hW hJ hJx hY h0 => by
  obtain ⟨cs, e, hb⟩ := hbt
  exact nodes71_in n l n₀ Bt x v w W J Jx hT (hW.mono hn0) hn0 ⟨cs, e, (hW.block _ (heap_lt hb)).trans hb⟩ hJ hY h0
end Go.Proofs.YtmdcdhdjojimeaaGreatDoor
end
section
set_option linter.unusedVariables false
namespace Go.Proofs.YtmdcdhdjojimeaaGreatDoor
open Go.RowKit Go.Shelf
attribute [local go_sem] Oper.semAt_some

def fdS (a : Nat) (p : Tm × Nat) : Nat := min (max a p.2) 65
theorem fdS_pres (d : Nat) : ∀ (l : List Tm) (a : Nat), (∀ x ∈ l, ∀ d a, 1 ≤ d → a ≤ 65 → (Tm.preD d x).foldl fdS a = min (max a (d - 1 + x.deep)) 65) → 1 ≤ d → a ≤ 65 → min (d - 1) 65 ≤ a →
  (Tm.presD d l).foldl fdS a = min (max a (d - 1 + Tm.deeps l)) 65
 | [], a, _, h1, h2, h3 => by rw [Tm.presD, List.foldl_nil, Tm.deeps]; omega
 | x :: l, a, ih, h1, h2, h3 => by
  rw [Tm.presD, List.foldl_append, ih x (by simp) d a h1 h2, fdS_pres d l _ (fun y hy => ih y (by simp [hy])) h1 (by omega) (by omega), Tm.deeps]
  omega
theorem fdS_pre (x : Tm) : ∀ d a, 1 ≤ d → a ≤ 65 → (Tm.preD d x).foldl fdS a = min (max a (d - 1 + x.deep)) 65 := by
 induction x using Tm.ind with
 | h k n s t l ih =>
  intro d a h1 h2
  rw [Tm.preD, List.foldl_cons, fdS_pres (d + 1) l _ ih (by omega) (by unfold fdS; omega) (by unfold fdS; simp only; omega), Tm.deep]
  unfold fdS; simp only; omega
def walkedD (x : Tm) : Nat := ((Tm.preD 1 x).take 4097).foldl fdS 0
theorem walkedD_small {x : Tm} (h : x.nodes ≤ 4097) : walkedD x = min x.deep 65 := by
 unfold walkedD
 rw [List.take_of_length_le (by rw [Tm.preD_len]; exact h), fdS_pre x 1 0 (by omega) (by omega)]
 omega
theorem walked_fits (x : Tm) : decide (((min 4097 x.nodes : Nat) : Int) ≤ 4096 ∧ ((walkedD x : Nat) : Int) ≤ 64) = fitsB x := by
 unfold fitsB
 by_cases h : x.nodes ≤ 4096
 ·rw [walkedD_small (by omega)]
  exact decide_eq_decide.2 (by omega)
 ·exact decide_eq_decide.2 (by omega)

set_option maxHeartbeats 1000000 in
theorem fits_any (a b : Int) (w : World) :
  Calls Tryz.prog 69 #[.agg #[.int .i64 a, .int .i64 b]] w fun e w' => e = .returned (.bool (decide (a ≤ 4096 ∧ b ≤ 64))) ∧ Below w.heap.size w w' := by
 have hb : Below w.heap.size w (w.alloc (.cells #[.int .i64 a, .int .i64 b] 127)) := (Below.refl _ w).alloc (Nat.le_refl _) _
 have HB := Lib.hid hb
 clear hb
 by_cases ha : a ≤ 4096
 ·by_cases hb : b ≤ 64
  ·go_enter Tryz.func69, Tryz.ntmps69
   go_wp2_with fail
   go_ret
   exact ⟨by rw [decide_eq_true ⟨ha, hb⟩]; rfl, HB.out⟩
  ·go_enter Tryz.func69, Tryz.ntmps69
   go_wp2_with fail
   go_ret
   exact ⟨by rw [decide_eq_false (fun h => by omega)]; rfl, HB.out⟩
 ·go_enter Tryz.func69, Tryz.ntmps69
  go_wp2_with fail
  go_ret
  exact ⟨by rw [decide_eq_false (fun h => by omega)]; rfl, HB.out⟩

theorem foldl_map_fdS (xs : List ND) : ∀ a, (xs.map ndK).foldl fdS a = xs.foldl (fun a p => min (max a p.2) 65) a := by
 induction xs with
 | nil => intro a; rfl
 | cons p xs ih => intro a; rw [List.map_cons, List.foldl_cons, List.foldl_cons, ih]; rfl
def deepF (xs : List ND) : Nat := xs.foldl (fun a p => min (max a p.2) 65) 0
theorem deepF_snoc (xs : List ND) (p : ND) : deepF (xs ++ [p]) = min (max (deepF xs) p.2) 65 := by unfold deepF; rw [List.foldl_append]; rfl

theorem size_put {W : World} {b : Nat} {a : Int} {q d : Nat} {T : TypeId} {z : Int} (h : W.heap[b]? = some (.cells #[.int .i64 a, .int .i64 q] T (0, 0))) (hz : z = ((min (max q d) 65 : Nat) : Int)) :
  (W.setCell ⟨b, 1, none⟩ (.int .i64 z)).heap[b]? = some (.cells #[.int .i64 a, .int .i64 (min (max q d) 65 : Nat)] T (0, 0)) := by subst hz; exact set_row _ h

set_option maxRecDepth 100000 in
set_option maxHeartbeats 4000000 in
theorem walked_any (x : Tm) (v : Value) (w : World) (hT : TmAt (· < w.heap.size) w x v) :
  Calls Tryz.prog 68 #[v] w fun e w' => e = .returned (.agg #[.int .i64 (min 4097 x.nodes : Nat), .int .i64 (walkedD x)]) ∧ Below w.heap.size w w' := by
 obtain ⟨kk, nn, s, t, L, A, cap, hx, rfl⟩ : ∃ k' n' s' t' L' A' cap', x = Tm.mk k' n' s' t' L' ∧ v = .agg #[.int .i8 k', .int .i64 n', .string s', .string t', .slice A' L'.length cap'] := by
  cases hT; exact ⟨_, _, _, _, _, _, _, rfl, rfl⟩
 have HX := Lib.hid hx
 clear hx
 obtain ⟨w1, hw1⟩ : ∃ w1, w1 = w.alloc (.cells #[.int .i8 kk, .int .i64 nn, .string s, .string t, .slice A L.length cap] 25) := ⟨_, rfl⟩
 have hs1 : w1.heap.size = w.heap.size + 1 := by rw [hw1]; simp
 obtain ⟨w2, hw2⟩ : ∃ w2, w2 = w1.alloc (.cells #[.int .i64 0, .int .i64 0] 127) := ⟨_, rfl⟩
 have hs2 : w2.heap.size = w.heap.size + 2 := by rw [hw2]; simp [hs1]
 obtain ⟨w3, hw3⟩ : ∃ w3, w3 = w2.alloc (.cells #[.int .i64 0, .int .i64 0] 127) := ⟨_, rfl⟩
 have hs3 : w3.heap.size = w.heap.size + 3 := by rw [hw3]; simp [hs2]
 have b3 : Below w.heap.size w w3 := by rw [hw3, hw2, hw1]; exact (((Below.refl _ w).alloc (Nat.le_refl _) _).alloc (by simp) _).alloc (by simp; omega) _
 have r3 : w3.heap[w.heap.size + 1]? = some (.cells #[.int .i64 0, .int .i64 0] 127) := by
  rw [hw3]
  have := World.alloc_heap_new w1 (.cells #[.int .i64 0, .int .i64 0] 127)
  rw [hs1, ← hw2] at this
  exact (Below.heap_alloc _ _ _ (by omega)).trans this
 have n3 : w3.heap[w.heap.size + 1 + 1]? = some (.cells #[.int .i64 0, .int .i64 0] 127) := by
  rw [hw3]
  have := World.alloc_heap_new w2 (.cells #[.int .i64 0, .int .i64 0] 127)
  rwa [hs2] at this
 obtain ⟨wL, hwL⟩ : ∃ wL, wL = w3.alloc (.cells #[.int .i8 kk, .int .i64 nn, .string s, .string t, .slice A L.length cap] 25) := ⟨_, rfl⟩
 have hsL : wL.heap.size = w.heap.size + 4 := by rw [hwL]; simp [hs3]
 have bL : Below w.heap.size w wL := by rw [hwL]; exact b3.alloc (by omega) _
 have HRL : Hid (wL.heap[w.heap.size + 1]? = some (.cells #[.int .i64 0, .int .i64 0] 127)) := by rw [hwL]; exact (Below.heap_alloc _ _ _ (by omega)).trans r3
 have HNL : Hid (wL.heap[w.heap.size + 1 + 1]? = some (.cells #[.int .i64 0, .int .i64 0] 127)) := by rw [hwL]; exact (Below.heap_alloc _ _ _ (by omega)).trans n3
 have hbt : wL.heap[w.heap.size + 1 + 1 + 1]? = some (.cells #[.int .i8 kk, .int .i64 nn, .string s, .string t, .slice A L.length cap] 25) := by
  rw [hwL]; have := World.alloc_heap_new w3 (.cells #[.int .i8 kk, .int .i64 nn, .string s, .string t, .slice A L.length cap] 25); rwa [hs3] at this
 have hTL : TmAt (· < w.heap.size) wL x _ := hT.under bL (Nat.le_refl _)
 have HSeq := Lib.hid (nodes7_seq (3 - 1) w.heap.size (w.heap.size + 1 + 1 + 1) x _ wL hTL (by omega) ⟨_, rfl, hbt⟩)
 have HBL := Lib.hid bL
 have HSL := Lib.hid hsL
 clear hTL hbt hsL bL b3 r3 n3 hs3 hs2 hs1 hT
 refine (callsIn_wide (n := 3)).1 ?_
 refine callsIn_of_wp_marks Tryz.func68 rfl trivial ?_ rfl
 simp only [Tryz.ntmps68, List.size_toArray, List.length_cons, List.length_nil, Nat.reduceAdd, Nat.reduceSub, Array.replicate_succ, Array.replicate_zero, List.push_toArray, List.append_toArray, List.nil_append, List.cons_append]
 gi_wp2_with (refine ⟨trivial, ?_⟩; gi_at_call 87; refine (nodes7_in _ _ _).mono ?_; rintro e w' ⟨rfl, rfl⟩)
 rw [← hw1, ← hw2, ← hw3, ← hwL]
 refine range_cells (α := ND) (gf := 101) (lb := #[.pointer (some ⟨w.heap.size + 1 + 1 + 1, 0, none⟩)]) rfl (enters_of Tryz.func101 (by kernel_rfl) rfl) (fun _ => rfl) HSeq.out (by rw [HSL.out]; omega)
  (fun pre W => W.heap[w.heap.size + 1 + 1]? = some (.cells #[.int .i64 pre.length, .int .i64 (deepF pre)] 127 (0, 0)) ∧ W.heap[w.heap.size + 1]? = some (.cells #[.int .i64 0, .int .i64 0] 127 (0, 0)) ∧ Below w.heap.size w W)
  (fun c pre W => False)
  (fun s X Y hb h => ⟨(hb.block _ (by rw [HSL.out]; omega)).trans h.1, (hb.block _ (by rw [HSL.out]; omega)).trans h.2.1, h.2.2.trans (hb.mono (by rw [HSL.out]; omega))⟩)
  (fun c s X Y hb h => h)
  ⟨HNL.out, HRL.out, HBL.out⟩
  (fun x a' W => a' = { tmps := #[.agg #[.int .i8 kk, .int .i64 nn, .string s, .string t, .slice A L.length cap], .pointer (some ⟨w.heap.size, 0, none⟩), .pointer (some ⟨w.heap.size + 1, 0, none⟩), .pointer (some ⟨w.heap.size + 1 + 1, 0, none⟩), .int .i64 x.2,
   .agg #[.int .i8 kk, .int .i64 nn, .string s, .string t, .slice A L.length cap], .func (.func 101) #[] #[.pointer (some ⟨w.heap.size + 1 + 1 + 1, 0, none⟩)], .int .i64 x.2, x.1.2, undef, undef, undef, undef, undef, undef, undef, undef, undef, undef, undef], defers := [] })
  (fun x a' X Y hm h => h) ?assign ?body ?done ?stop (by decide)
 case assign =>
  rintro l pre ⟨⟨y, u⟩, d⟩ W K hi hE hsz hK
  have HK := Lib.hid (hK _ _ (Below.refl _ W) rfl)
  clear hK hi hE
  gi_wp2
  exact HK.out
 case body =>
  rintro l pre ⟨⟨y, u⟩, d⟩ a' W ⟨hn, hr, hB⟩ hE rfl hlen hsz
  have f0 : W.frozen? ⟨w.heap.size + 1 + 1, 0, none⟩ = false := free_of_row hn
  have c0 : W.cell? ⟨w.heap.size + 1 + 1, 0, none⟩ = some (.int .i64 pre.length) := cell_of_row hn rfl
  have hn2 := set_row (.int .i64 ((pre.length : Int) + 1)) (i := 0) hn
  have c1 : (W.setCell ⟨w.heap.size + 1 + 1, 0, none⟩ (.int .i64 ((pre.length : Int) + 1))).cell? ⟨w.heap.size + 1 + 1, 1, none⟩ = some (.int .i64 (deepF pre)) := cell_of_row hn2 rfl
  have f1 : (W.setCell ⟨w.heap.size + 1 + 1, 0, none⟩ (.int .i64 ((pre.length : Int) + 1))).frozen? ⟨w.heap.size + 1 + 1, 1, none⟩ = false := free_of_row hn2
  obtain ⟨q, hq⟩ : ∃ q, q = deepF pre := ⟨_, rfl⟩
  rw [← hq] at hn hn2 c1
  have HQ := Lib.hid hq
  have HN := Lib.hid hn2
  have HR := Lib.hid hr
  have HB := Lib.hid hB
  clear hn hr hB hE hn2 hq
  have hlen' : pre.length < 4097 := hlen
  gi_wp2
  all_goals
   refine ⟨(Mod.setCell _ _ _ (.inl (by have := HSL.out; dsimp only; omega))).trans (Mod.setCell _ _ _ (.inl (by have := HSL.out; dsimp only; omega))) (fun _ _ h => h), ?_, ?_, ?_⟩
   ·have e : ((pre ++ [((y, u), d)]).length : Int) = (pre.length : Int) + 1 := by simp
    rw [e, deepF_snoc, ← HQ.out]
    exact size_put HN.out (by dsimp only; omega)
   ·exact (Below.heap_setCell _ _ _ _ (by simp)).trans ((Below.heap_setCell _ _ _ _ (by simp)).trans HR.out)
   ·exact (HB.out.setCell (by dsimp only; omega) _).setCell (by dsimp only; omega) _
 case done =>
  rintro xs W hxs ⟨hn, hr, hB⟩ hK
  have hlen : xs.length = min 4097 x.nodes := by rw [← List.length_map (f := ndK), hxs, List.length_take, Tm.preD_len]
  have hdp : deepF xs = walkedD x := by unfold deepF walkedD; rw [← hxs, foldl_map_fdS]
  have c0 : W.cell? ⟨w.heap.size + 1 + 1, 0, none⟩ = some (.int .i64 xs.length) := cell_of_row hn rfl
  have c1 : W.cell? ⟨w.heap.size + 1 + 1, 1, none⟩ = some (.int .i64 (deepF xs)) := cell_of_row hn rfl
  have f0 : W.frozen? ⟨w.heap.size + 1, 0, none⟩ = false := free_of_row hr
  have d0 : W.cell? ⟨w.heap.size + 1, 0, none⟩ = some (.int .i64 0) := cell_of_row hr rfl
  have hr2 := set_row (.int .i64 xs.length) (i := 0) hr
  have d1 : (W.setCell ⟨w.heap.size + 1, 0, none⟩ (.int .i64 xs.length)).cell? ⟨w.heap.size + 1, 1, none⟩ = some (.int .i64 0) := cell_of_row hr2 rfl
  have f1 : (W.setCell ⟨w.heap.size + 1, 0, none⟩ (.int .i64 xs.length)).frozen? ⟨w.heap.size + 1, 1, none⟩ = false := free_of_row hr2
  have HR2 := Lib.hid (set_row (.int .i64 (deepF xs)) (i := 1) hr2)
  have HR := Lib.hid hr
  have HB := Lib.hid hB
  have HK := Lib.hid hK
  have HLE := Lib.hid hlen
  have HDP := Lib.hid hdp
  clear hn hr hr2 hB hK hxs hlen hdp
  gi_wp2
  have hD : wL.heap.size < W.heap.size := heap_lt HK.out
  have hk2 : ((W.setCell ⟨w.heap.size + 1, 0, none⟩ (.int .i64 xs.length)).setCell ⟨w.heap.size + 1, 1, none⟩ (.int .i64 (deepF xs))).heap[wL.heap.size]? = some (.deferred (some [])) :=
   (KeepsOthers.setCell _ _ _).same _ _ ((KeepsOthers.setCell W _ _).same _ _ HK.out rfl) rfl
  refine ⟨by simp, .inl ⟨_, _, rfl, run_takeDeferred hk2, ?_⟩⟩
  have h5 : (((W.setCell ⟨w.heap.size + 1, 0, none⟩ (.int .i64 xs.length)).setCell ⟨w.heap.size + 1, 1, none⟩ (.int .i64 (deepF xs))).putObj wL.heap.size (.deferred none)).heap[w.heap.size + 1]? = some (.cells #[.int .i64 xs.length, .int .i64 (deepF xs)] 127 (0, 0)) :=
   (World.putObj_heap_other (by rw [HSL.out]; omega)).trans HR2.out
  have g0 := cell_of_row (i := 0) h5 rfl
  have g1 := cell_of_row (i := 1) h5 rfl
  refine ⟨.agg #[.int .i64 xs.length, .int .i64 (deepF xs)], by simp [results, Tryz.f68, go_sem, g0, g1], by rw [HLE.out, HDP.out], ?_⟩
  exact ((HB.out.setCell (by dsimp only; omega) _).setCell (by dsimp only; omega) _).trans ((Mod.putObj (F := fun k => k = wL.heap.size) _ _ _ rfl).below (by simp [World.setCell]; have := HSL.out; omega) (fun k (e : k = wL.heap.size) => by have := HSL.out; omega))
 case stop =>
  rintro c pre W ⟨k, hk, hkl⟩ h
  exact h.elim
end Go.Proofs.YtmdcdhdjojimeaaGreatDoor
end
section
set_option linter.unusedVariables false
namespace Go.Proofs.YtmdcdhdjojimeaaGreatDoor
open Go.RowKit

def wordsRow : Array Value := #[.string ⟨#[109, 111, 100, 117, 108, 101]⟩, .string ⟨#[119, 104, 101, 110]⟩, .string ⟨#[99, 97, 115, 101]⟩, .string ⟨#[111, 102]⟩, .string ⟨#[101, 110, 100]⟩, .string ⟨#[116, 114, 121]⟩, .string ⟨#[99, 97, 116, 99, 104]⟩, .string ⟨#[114, 101, 99, 101, 105, 118, 101]⟩, .string ⟨#[97, 102, 116, 101, 114]⟩, .string ⟨#[102, 117, 110]⟩, .string ⟨#[100, 105, 118]⟩, .string ⟨#[114, 101, 109]⟩, .string ⟨#[99, 111, 110, 102, 105, 103]⟩]
def wordAt (k : Nat) : ByteArray := ⟨(wordList.getD k []).toArray⟩
def WordTab (w : World) : Prop := ∃ t fr, w.heap[2]? = some (.cells wordsRow t fr)
theorem WordTab.under {w w' : World} (h : WordTab w) (hb : Below w.heap.size w w') : WordTab w' := by
 obtain ⟨t, fr, h⟩ := h
 exact ⟨t, fr, (hb.block _ (heap_lt h)).trans h⟩
set_option maxRecDepth 100000 in
theorem words_at (w : World) : ∀ k, k < 13 → (Instr.index 163 (.agg wordsRow) (.int .i64 (k : Nat))).run Tryz.prog w = .ok (.string (wordAt k)) w
 | 0, _ => by kernel_rfl | 1, _ => by kernel_rfl | 2, _ => by kernel_rfl | 3, _ => by kernel_rfl | 4, _ => by kernel_rfl | 5, _ => by kernel_rfl | 6, _ => by kernel_rfl
 | 7, _ => by kernel_rfl | 8, _ => by kernel_rfl | 9, _ => by kernel_rfl | 10, _ => by kernel_rfl | 11, _ => by kernel_rfl | 12, _ => by kernel_rfl
 | k + 13, h => by omega
theorem wordAt_list (k : Nat) : (wordAt k).toList = wordList.getD k [] := by rw [Go.Lib.toList_data]; rfl
theorem wordL_hit (s : ByteArray) (k : Nat) (hk : k < 13) (h : s.toList = (wordAt k).toList) : wordL s.data.toList = true := by
 rw [wordAt_list, Go.Lib.toList_data] at h
 have : ∀ k, k < 13 → wordL (wordList.getD k []) = true := by decide
 rw [h]; exact this k hk
theorem wordL_miss (s : ByteArray) (h : ∀ j, j < 13 → ¬ s.toList = (wordAt j).toList) : wordL s.data.toList = false := by
 cases hw : wordL s.data.toList
 ·rfl
 ·unfold wordL at hw
  rw [List.any_eq_true] at hw
  obtain ⟨x, hx, he⟩ := hw
  obtain ⟨j, hj, hjx⟩ := List.getElem_of_mem hx
  have hlt : j < 13 := hj
  exact (h j hlt (by rw [wordAt_list, Go.Lib.toList_data, eq_of_beq he, ← hjx, List.getD_eq_getElem?_getD, List.getElem?_eq_getElem hj]; rfl)).elim

set_option maxRecDepth 100000 in
set_option maxHeartbeats 4000000 in
theorem sWord_any (s : ByteArray) (w : World) (hW : WordTab w) : Calls Tryz.prog 139 #[.string s] w fun e w' => e = .returned (.bool (wordL s.data.toList)) ∧ w' = w := by
 obtain ⟨t, fr, hrow⟩ := hW
 go_enter Tryz.func139, Tryz.ntmps139
 go_wp2_with (refine wpList_load_row rfl _ _ rfl 2 rfl _ _ _ _ hrow Tryz.underlying163 rfl (by kernel_rfl) ?_)
 clear hrow
 go_loopw [6] (fun i wr => ∃ k : Nat, k ≤ 13 ∧ i = .int .i64 k ∧ wr = w ∧ Hid (∀ j, j < k → ¬ s.toList = (wordAt j).toList)) (fun i _ => 13 - (intOf i).toNat)
 case atStart => exact ⟨0, by omega, rfl, rfl, fun j hj => by omega⟩
 case round =>
  obtain ⟨k, hk, rfl, hwr, HK⟩ := hrel
  subst wr
  by_cases hlt : k < 13
  ·have hi := words_at w k hlt
   have hlt' : (k : Int) < 13 := by omega
   cases hb : (s.toList == (wordAt k).toList)
   ·have HB := Lib.hid hb
    go_wp2_with fail
    go_roundw
    case rel =>
     refine ⟨k + 1, by omega, by go_num, trivial, fun j hj => ?_⟩
     rcases Nat.lt_or_ge j k with h | h
     ·exact HK.out j h
     ·obtain rfl : j = k := by omega
      exact beq_eq_false_iff_ne.1 HB.out
    case measure => simp [intOf]; omega
   ·have HB := Lib.hid hb
    go_wp2_with fail
    go_ret
    exact ⟨ret_bool (wordL_hit s k hlt (eq_of_beq HB.out)).symm, rfl⟩
  ·obtain rfl : k = 13 := by omega
   go_wp2_with fail
   go_ret
   exact ⟨ret_bool (wordL_miss s HK.out).symm, rfl⟩

end Go.Proofs.YtmdcdhdjojimeaaGreatDoor
end
section

end
section
set_option linter.unusedVariables false
namespace Go.Proofs.YtmdcdhdjojimeaaGreatDoor
def NeedsPow : Prop := True
theorem noPow : (Tryz.prog.globalNamed "internal/strconv.uint64pow10").isSome = false := by kernel_rfl
theorem powNo (h : NeedsPow ∧ (Tryz.prog.globalNamed "internal/strconv.uint64pow10").isSome = true) : False := by
 have h2 := h.2
 rw [noPow] at h2
 cases h2
end Go.Proofs.YtmdcdhdjojimeaaGreatDoor
end
