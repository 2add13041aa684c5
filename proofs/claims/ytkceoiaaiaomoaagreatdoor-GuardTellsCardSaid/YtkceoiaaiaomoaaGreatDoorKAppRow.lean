/- term.Tuple. -/
import Derived.Test.YtkceoiaaiaomoaaGreatDoorKNodes
import Derived.Test.YtkceoiaaiaomoaaGreatDoorKBnd
import Derived.Test.YtkceoiaaiaomoaaGreatDoorKOkPure
import Derived.Test.YtkceoiaaiaomoaaGreatDoorKAstQ
import Derived.WalkKit
import Derived.LoopTactic
import Derived.Lib.Hide
import Derived.LoopNIn
import Derived.Deep.RegionHeld
import Derived.OrdersHeld
import Derived.Maps.AppendAt
section
set_option linter.unusedVariables false
namespace Go.Proofs.YtkceoiaaiaomoaaGreatDoor
open Go.RowKit Go.Shelf
attribute [local go_sem] Oper.semAt_some

set_option maxRecDepth 100000 in
set_option maxHeartbeats 4000000 in
theorem Size_any (x : Tm) (v : Value) (w : World) (hT : TmAt (· < w.heap.size) w x v) :
    Calls Tryz.prog 290 #[v] w fun e w' => e = .returned (.int .i64 (min 257 x.nodes : Nat)) ∧ Below w.heap.size w w' := by
  obtain ⟨kk, nn, s, t, L, A, cap, hx, rfl⟩ : ∃ k' n' s' t' L' A' cap', x = Tm.mk k' n' s' t' L' ∧ v = .agg #[.int .i8 k', .int .i64 n', .string s', .string t', .slice A' L'.length cap'] := by
    cases hT; exact ⟨_, _, _, _, _, _, _, rfl, rfl⟩
  have HX := Lib.hid hx
  clear hx
  obtain ⟨w3, hw3⟩ : ∃ w3, w3 = (w.alloc (.cells #[.int .i8 kk, .int .i64 nn, .string s, .string t, .slice A L.length cap] 44)).alloc (.cells #[.int .i64 0] 3) := ⟨_, rfl⟩
  have hs3 : w3.heap.size = w.heap.size + 2 := by rw [hw3]; simp
  have b3 : Below w.heap.size w w3 := by rw [hw3]; exact ((Below.refl _ w).alloc (Nat.le_refl _) _).alloc (by simp) _
  have n3 : w3.heap[w.heap.size + 1]? = some (.cells #[.int .i64 0] 3) := by
    rw [hw3]
    have := World.alloc_heap_new (w.alloc (.cells #[.int .i8 kk, .int .i64 nn, .string s, .string t, .slice A L.length cap] 44)) (.cells #[.int .i64 0] 3)
    rwa [World.size_alloc] at this
  obtain ⟨wL, hwL⟩ : ∃ wL, wL = w3.alloc (.cells #[.int .i8 kk, .int .i64 nn, .string s, .string t, .slice A L.length cap] 44) := ⟨_, rfl⟩
  have hsL : wL.heap.size = w.heap.size + 3 := by rw [hwL]; simp [hs3]
  have bL : Below w.heap.size w wL := by rw [hwL]; exact b3.alloc (by omega) _
  have HNL : Hid (wL.heap[w.heap.size + 1]? = some (.cells #[.int .i64 0] 3)) := by rw [hwL]; exact (Below.heap_alloc _ _ _ (by omega)).trans n3
  have hbt : wL.heap[w.heap.size + 1 + 1]? = some (.cells #[.int .i8 kk, .int .i64 nn, .string s, .string t, .slice A L.length cap] 44) := by
    rw [hwL]; have := World.alloc_heap_new w3 (.cells #[.int .i8 kk, .int .i64 nn, .string s, .string t, .slice A L.length cap] 44); rwa [hs3] at this
  have hTL : TmAt (· < w.heap.size) wL x _ := hT.under bL (Nat.le_refl _)
  have HSeq := Lib.hid (nodes_seq (3 - 1) w.heap.size (w.heap.size + 1 + 1) x _ wL hTL (by omega) ⟨_, rfl, hbt⟩)
  have HBL := Lib.hid bL
  have HSL := Lib.hid hsL
  clear hTL hbt hsL bL b3 n3 hs3 hT
  refine (callsIn_wide (n := 3)).1 ?_
  refine callsIn_of_wp_marks Tryz.func290 rfl trivial ?_ rfl
  simp only [Tryz.ntmps290, List.size_toArray, List.length_cons, List.length_nil, Nat.reduceAdd, Nat.reduceSub, Array.replicate_succ, Array.replicate_zero, List.push_toArray, List.append_toArray, List.nil_append, List.cons_append]
  gi_wp2_with (refine ⟨trivial, ?_⟩; gi_at_call 198; refine (nodes_in _ _ _).mono ?_; rintro e w' ⟨rfl, rfl⟩)
  rw [← hw3, ← hwL]
  refine range_cells (α := Tm × Value) (gf := 235) (lb := #[.pointer (some ⟨w.heap.size + 1 + 1, 0, none⟩)]) rfl (enters_of Tryz.func235 (by kernel_rfl) rfl) (fun _ => rfl) HSeq.out (by rw [HSL.out]; omega)
    (fun pre W => W.heap[w.heap.size + 1]? = some (.cells #[.int .i64 pre.length] 3 (0, 0)) ∧ Below w.heap.size w W)
    (fun c pre W => False)
    (fun s X Y hb h => ⟨(hb.block _ (by rw [HSL.out]; omega)).trans h.1, h.2.trans (hb.mono (by rw [HSL.out]; omega))⟩)
    (fun c s X Y hb h => h)
    ⟨HNL.out, HBL.out⟩
    (fun x a' W => a' = { tmps := #[.agg #[.int .i8 kk, .int .i64 nn, .string s, .string t, .slice A L.length cap], .pointer (some ⟨w.heap.size, 0, none⟩), .int .i64 0, .pointer (some ⟨w.heap.size + 1, 0, none⟩),
      .agg #[.int .i8 kk, .int .i64 nn, .string s, .string t, .slice A L.length cap], .func (.func 235) #[] #[.pointer (some ⟨w.heap.size + 1 + 1, 0, none⟩)], x.2, undef, undef, undef], defers := [] })
    (fun x a' X Y hm h => h) ?assign ?body ?done ?stop (by decide)
  case assign =>
    rintro l pre ⟨y, u⟩ W K hi hE hsz hK
    have HK := Lib.hid (hK _ _ (Below.refl _ W) rfl)
    clear hK hi hE
    gi_wp2
    exact HK.out
  case body =>
    rintro l pre ⟨y, u⟩ a' W ⟨hn, hB⟩ hE rfl hlen hsz
    have f2 : W.frozen? ⟨w.heap.size + 1, 0, none⟩ = false := free_of_row hn
    have c2 : W.cell? ⟨w.heap.size + 1, 0, none⟩ = some (.int .i64 pre.length) := cell_of_row hn rfl
    have HN := Lib.hid hn
    have HB := Lib.hid hB
    clear hn hB hE
    gi_wp2
    refine ⟨Mod.setCell _ _ _ (.inl (by have := HSL.out; dsimp only; omega)), ?_, HB.out.setCell (by dsimp only; omega) _⟩
    have e : ((pre ++ [(y, u)]).length : Int) = (pre.length : Int) + 1 := by simp
    rw [e]
    exact set_row _ HN.out
  case done =>
    rintro xs W hxs ⟨hn, hB⟩ hK
    have hlen : xs.length = min 257 x.nodes := by rw [← List.length_map (f := (·.1)), hxs, List.length_take]; rfl
    have c2 : W.cell? ⟨w.heap.size + 1, 0, none⟩ = some (.int .i64 xs.length) := cell_of_row hn rfl
    have HB := Lib.hid hB
    have HK := Lib.hid hK
    have HLE := Lib.hid hlen
    clear hn hB hK hxs hlen
    gi_wp2
    refine ⟨by simp, .inl ⟨_, _, rfl, run_takeDeferred HK.out, ?_⟩⟩
    refine ⟨.int .i64 xs.length, by simp [results, Tryz.f290, go_sem], ret_int (by rw [HLE.out]), ?_⟩
    exact HB.out.trans ((Mod.putObj (F := fun k => k = wL.heap.size) _ _ _ rfl).below (by have := heap_lt HK.out; have := HSL.out; omega) (fun k (e : k = wL.heap.size) => by have := HSL.out; omega))
  case stop =>
    rintro c pre W ⟨k, hk, hkl⟩ h
    exact h.elim
end Go.Proofs.YtkceoiaaiaomoaaGreatDoor
end
section
set_option linter.unusedVariables false
namespace Go.Proofs.YtkceoiaaiaomoaaGreatDoor
open Go.RowKit

theorem TRow.later {w V : World} {A : Option Addr} {n cap : Nat} {l : List Tm} (h : TRow (· < w.heap.size) w A n cap l) (hb : Below w.heap.size w V) : TRow (· < V.heap.size) V A n cap l :=
  h.keep (fun b hb' => hb.block b hb') (fun b hb' => Nat.lt_of_lt_of_le hb' hb.size)
end Go.Proofs.YtkceoiaaiaomoaaGreatDoor
end
section
set_option linter.unusedVariables false
namespace Go.Proofs.YtkceoiaaiaomoaaGreatDoor
open Go.RowKit

set_option maxHeartbeats 1000000 in
set_option maxRecDepth 100000 in
theorem rsize_any (x : Tm) : ∀ (v : Value) (most : Nat) (w : World), TmAt (· < w.heap.size) w x v → 1 ≤ most → most ≤ 1000000 →
    Calls Tryz.prog 67 #[v, .int .i64 most] w fun e w' => e = .returned (.int .i64 (min x.nodes most : Nat)) ∧ Below w.heap.size w w' := by
  induction x using Tm.ind with
  | h k n s t l ih =>
    intro v most w hT h1 hmost
    obtain ⟨A, cap, rfl, hR, hk, hn, hs, ht⟩ := hT.parts
    have hlen := hR.max
    unfold maxLen at hlen
    have HR := Lib.hid hR
    have HIH := Lib.hid ih
    clear hR ih hT
    obtain ⟨w1, hw1⟩ : ∃ w1, w1 = w.alloc (.cells #[.int .i8 k, .int .i64 n, .string s, .string t, .slice A l.length cap] 44) := ⟨_, rfl⟩
    have hB1 : Below w.heap.size w w1 := by rw [hw1]; exact (Below.refl _ w).alloc (Nat.le_refl _) _
    have hs1 : w1.heap.size = w.heap.size + 1 := by rw [hw1]; simp
    have hbox : w1.heap[w.heap.size]? = some (.cells #[.int .i8 k, .int .i64 n, .string s, .string t, .slice A l.length cap] 44) := by rw [hw1]; exact block_alloc _ _
    have HB1 := Lib.hid hB1
    have HS1 := Lib.hid hs1
    clear hB1 hs1
    go_enter Tryz.func67, Tryz.ntmps67
    go_wp2_with fail
    rw [← hw1]
    clear hw1
    have HX := Lib.hid hbox
    clear hbox
    go_loopw [5, 6] (fun r i wr => ∃ j : Nat, j ≤ l.length ∧ i = .int .i64 j ∧ (∃ q : Nat, r = .int .i64 q ∧ q = min (1 + (Tm.pres (l.take j)).length) most) ∧ Below w1.heap.size w1 wr) (fun _ i _ => l.length - (intOf i).toNat)
    case atStart => exact ⟨0, Nat.zero_le _, rfl, ⟨1, rfl, by simp [Tm.pres]; omega⟩, Below.refl _ _⟩
    case round =>
      obtain ⟨j, hj, rfl, ⟨q, rfl, hq⟩, hB⟩ := hrel
      have hbw : wr.heap[w.heap.size]? = _ := (hB.block w.heap.size (by rw [HS1.out]; omega)).trans HX.out
      have hc4 : wr.cell? ⟨w.heap.size, 4, none⟩ = some (.slice A l.length cap) := cell_of_row hbw rfl
      have hq1 : 1 ≤ q := by omega
      have hq2 : q ≤ most := by omega
      have HQ := Lib.hid hq
      have HB := Lib.hid hB
      clear hq hB hbw
      by_cases hlt : j < l.length
      · by_cases hm : q < most
        · obtain ⟨y, hy⟩ : ∃ y, l[j]? = some y := ⟨l[j], List.getElem?_eq_getElem hlt⟩
          obtain ⟨ad, u, rfl, had, hE, hTy⟩ := HR.out.at_ j y hy
          have hEr : ElemAt wr ad j u := hE.keep ((HB.out.block ad.block (by rw [HS1.out]; omega)).trans (HB1.out.block ad.block had))
          have hTr : TmAt (· < wr.heap.size) wr y u := hTy.keep (fun b hb => (HB.out.block b (by rw [HS1.out]; omega)).trans (HB1.out.block b hb)) (fun b hb => by have := HB1.out.size; have := HB.out.size; omega)
          obtain ⟨c0, c1, c2, c3, c4, rfl, e0, e1, e2, e3, e4⟩ := hEr
          have hmem := List.mem_of_getElem? hy
          have hpy := Tm.pre_ne y
          have HY := Lib.hid hy
          clear hE hTy hy
          go_wp2_with fail
          have he : (most : Int) - q = ((most - q : Nat) : Int) := by omega
          rw [he]
          refine (HIH.out y hmem _ (most - q) _ hTr (by omega) (by omega)).mono ?_
          rintro e w2 ⟨rfl, b2⟩
          have hr : q + min y.nodes (most - q) = min (1 + (Tm.pres (l.take (j + 1))).length) most := by
            rw [Tm.pres_take_succ HY.out, List.length_append]
            have := HQ.out
            unfold Tm.nodes
            omega
          have HRR := Lib.hid hr
          have hle : min y.nodes (most - q) ≤ 1000000 := by omega
          clear hr he
          generalize min y.nodes (most - q) = z at HRR hle ⊢
          go_wp2_with fail
          go_roundw
          case rel => exact ⟨j + 1, by omega, by go_num, ⟨q + z, by go_num, HRR.out⟩, HB.out.trans (b2.mono HB.out.size)⟩
          case measure => simp [intOf]; omega
        · go_wp2_with fail
          go_ret
          refine ⟨ret_int ?_, HB1.out.trans (HB.out.mono (by rw [HS1.out]; omega))⟩
          have h := HQ.out
          have : (Tm.pres (l.take j)).length ≤ (Tm.pres l).length := by
            rw [show Tm.pres l = Tm.pres (l.take j) ++ Tm.pres (l.drop j) by rw [← Tm.pres_append, List.take_append_drop]]
            simp
          unfold Tm.nodes Tm.pre
          simp only [List.length_cons]
          omega
      · obtain rfl : j = l.length := by omega
        go_wp2_with fail
        go_ret
        refine ⟨ret_int ?_, HB1.out.trans (HB.out.mono (by rw [HS1.out]; omega))⟩
        have h := HQ.out
        rw [List.take_length] at h
        unfold Tm.nodes Tm.pre
        simp only [List.length_cons]
        omega

def NoThen (p : Prop) (w : World) (e : Ending) (w' : World) : Prop := ∃ b : Bool, e = .returned (.bool b) ∧ (b = false → p) ∧ Below w.heap.size w w'

theorem Great_any (x : Tm) (v : Value) (w : World) (hT : TmAt (· < w.heap.size) w x v) : Calls Tryz.prog 24 #[v] w (NoThen (x.nodes < 1024) w) := by
  obtain ⟨c, rfl⟩ : ∃ c, v = .agg c := by cases hT; exact ⟨_, rfl⟩
  have hT2 : TmAt (· < (w.alloc (.cells c 44)).heap.size) (w.alloc (.cells c 44)) x (.agg c) := hT.keep (fun b hb => Below.heap_alloc _ _ _ hb) (fun b hb => by simp; omega)
  cases hT with
  | mk vs hk hn hs ht hl hcap hc hx =>
    have HC := Lib.hid (rsize_any _ _ 1024 _ hT2 (by decide) (by decide))
    clear hT2 hc hx hl hcap
    unfold maxLen at hs ht
    go_enter Tryz.func24, Tryz.ntmps24
    go_wp2_with fail
    refine HC.out.mono ?_
    rintro e w1 ⟨rfl, b1⟩
    go_wp2_with fail
    go_ret
    refine ⟨_, rfl, fun h => ?_, ((Below.refl _ w).alloc (Nat.le_refl _) _).trans (b1.mono (by simp))⟩
    have := of_decide_eq_false h
    omega

end Go.Proofs.YtkceoiaaiaomoaaGreatDoor
set_option linter.unusedVariables false
namespace Go.Proofs.YtkceoiaaiaomoaaGreatDoor
open Go.RowKit

structure Bx2 (w V : World) (cx cy : Array Value) : Prop where
  below : Below w.heap.size w V
  bx : V.heap[w.heap.size]? = some (.cells cx 44 (0, 0))
  by_ : V.heap[w.heap.size + 1]? = some (.cells cy 44 (0, 0))
theorem Bx2.on {w V V' : World} {cx cy : Array Value} (h : Bx2 w V cx cy) (hb : Below V.heap.size V V') : Bx2 w V' cx cy :=
  ⟨h.below.trans (hb.mono h.below.size), (hb.block _ (heap_lt h.bx)).trans h.bx, (hb.block _ (heap_lt h.by_)).trans h.by_⟩
theorem bx2_of (w : World) (cx cy : Array Value) : Bx2 w ((w.alloc (.cells cx 44)).alloc (.cells cy 44)) cx cy := by
  refine ⟨((Below.refl _ w).alloc (Nat.le_refl _) _).alloc (by simp) _, (Below.heap_alloc _ _ _ (by simp)).trans (block_alloc _ _), ?_⟩
  have := block_alloc (w.alloc (.cells cx 44)) (.cells cy 44)
  rwa [World.size_alloc] at this
theorem TmAt.later {w V : World} {x : Tm} {v : Value} (h : TmAt (· < w.heap.size) w x v) (hb : Below w.heap.size w V) : TmAt (· < V.heap.size) V x v :=
  h.keep (fun b hb' => hb.block b hb') (fun b hb' => Nat.lt_of_lt_of_le hb' hb.size)
end Go.Proofs.YtkceoiaaiaomoaaGreatDoor
end
section
set_option linter.unusedVariables false
namespace Go.Proofs.YtkceoiaaiaomoaaGreatDoor
open Go.RowKit


set_option maxHeartbeats 4000000 in
set_option maxRecDepth 100000 in
theorem fit_any (b : Nat) (hb : b ≤ 1000000000000) (A : Option Addr) (n cap : Nat) (l : List Tm) (hl : l.length ≤ 1000000000000) (w : World) (hR : TRow (· < w.heap.size) w A n cap l) (hS : Spans w) :
    Calls Tryz.prog 241 #[.int .i64 b, .slice A n cap] w fun e w' => e = .returned (.int .i64 (fitN b l)) ∧ Below w.heap.size w w' := by
  obtain rfl := hR.len
  have HR := Lib.hid hR
  have HSP := Lib.hid hS
  obtain ⟨R, hRd⟩ : ∃ R, R = fitN b l := ⟨_, rfl⟩
  have HF := Lib.hid hRd
  rw [← hRd]
  have hsl := sumN_le l
  have HSL := Lib.hid hsl
  clear hR hS hRd hsl
  go_enter Tryz.func241, Tryz.ntmps241
  go_wp2_with fail
  go_loopw [5, 11] (fun s i wr => ∃ j : Nat, j ≤ l.length ∧ i = .int .i64 j ∧ (∃ q : Nat, s = .int .i64 q ∧ q = b + sumN (l.take j)) ∧ (∀ y ∈ l.take j, checkN y ≠ 30) ∧ Below w.heap.size w wr) (fun _ i _ => l.length - (intOf i).toNat)
  case atStart => exact ⟨0, Nat.zero_le _, rfl, ⟨b, rfl, by simp [sumN]⟩, fun y hy => by simp at hy, Below.refl _ _⟩
  case round =>
    obtain ⟨j, hj, rfl, ⟨q, rfl, hq⟩, hno, hB⟩ := hrel
    have hqb : q ≤ 300000000000000 := by have := sumN_take_le l j; have := HSL.out; omega
    have HQ := Lib.hid hq
    have HNO := Lib.hid hno
    have HB := Lib.hid hB
    clear hq hno hB
    by_cases hlt : j < l.length
    · obtain ⟨y, hy⟩ : ∃ y, l[j]? = some y := ⟨l[j], List.getElem?_eq_getElem hlt⟩
      obtain ⟨ad, u, rfl, had, hE, hTy⟩ := HR.out.at_ j y hy
      have hEr : ElemAt wr ad j u := hE.keep (HB.out.block ad.block had)
      have hTr := hTy.later HB.out
      obtain ⟨ky, ny, sy, ty, Ly, Ay, capy, ey, rfl⟩ : ∃ k' n' s' t' L' A' cap', y = Tm.mk k' n' s' t' L' ∧ u = .agg #[.int .i8 k', .int .i64 n', .string s', .string t', .slice A' L'.length cap'] := by
        cases hTy; exact ⟨_, _, _, _, _, _, _, rfl, rfl⟩
      clear ey
      obtain ⟨c0, c1, c2, c3, c4, hcc, e0, e1, e2, e3, e4⟩ := hEr
      simp only [Value.agg.injEq, Array.mk.injEq, List.cons.injEq, and_true] at hcc
      obtain ⟨rfl, rfl, rfl, rfl, rfl⟩ := hcc
      obtain ⟨wz, hwz⟩ : ∃ wz, wz = wr.alloc (.cells #[.int .i8 ky, .int .i64 ny, .string sy, .string ty, .slice Ay Ly.length capy] 44) := ⟨_, rfl⟩
      have bz : Below wr.heap.size wr wz := by rw [hwz]; exact (Below.refl _ _).alloc (Nat.le_refl _) _
      have gz : wz.heap[wr.heap.size]? = some (.cells #[.int .i8 ky, .int .i64 ny, .string sy, .string ty, .slice Ay Ly.length capy] 44 (0, 0)) := by rw [hwz]; exact block_alloc _ _
      have hBz : Below w.heap.size w wz := HB.out.trans (bz.mono HB.out.size)
      have HC := Lib.hid (Check_any y _ wz (hTr.later bz) (HSP.out.below hBz HSP.out.lt))
      have HTZ := Lib.hid (hTr.later bz)
      have HGZ := Lib.hid gz
      have HBZ := Lib.hid hBz
      have HY := Lib.hid hy
      have z0 : wz.cell? ⟨wr.heap.size, 0, none⟩ = some (.int .i8 ky) := cell_of_row gz rfl
      have z1 : wz.cell? ⟨wr.heap.size, 1, none⟩ = some (.int .i64 ny) := cell_of_row gz rfl
      have z2 : wz.cell? ⟨wr.heap.size, 2, none⟩ = some (.string sy) := cell_of_row gz rfl
      have z3 : wz.cell? ⟨wr.heap.size, 3, none⟩ = some (.string ty) := cell_of_row gz rfl
      have z4 : wz.cell? ⟨wr.heap.size, 4, none⟩ = some (.slice Ay Ly.length capy) := cell_of_row gz rfl
      subst hwz
      clear hE hTy hTr bz gz hBz hy had
      go_wp2_with fail
      refine HC.out.mono ?_
      rintro e w2 ⟨rfl, b2⟩
      have g2 := (b2.block _ (heap_lt HGZ.out)).trans HGZ.out
      have HB2 := Lib.hid (HBZ.out.trans (b2.mono HBZ.out.size))
      have HT2 := Lib.hid (HTZ.out.keep (fun b hb => b2.block b hb) (fun b hb => Nat.lt_of_lt_of_le hb b2.size))
      clear z0 z1 z2 z3 z4 e0 e1 e2 e3 e4 b2
      by_cases hc : checkN y = 30
      · have hc1 : (checkN y == 30) = true := by simpa using hc
        have HCY := Lib.hid hc
        clear hc g2
        go_wp2_with fail
        go_ret
        refine ⟨ret_int ?_, HB2.out⟩
        rw [HF.out]; unfold fitN
        rw [if_pos]
        rw [List.any_eq_true]
        exact ⟨y, List.mem_of_getElem? HY.out, by rw [HCY.out]; rfl⟩
      · have hc1 : (checkN y == 30) = false := by simpa using hc
        have HCY := Lib.hid hc
        have z0 : w2.cell? ⟨wr.heap.size, 0, none⟩ = some (.int .i8 ky) := cell_of_row g2 rfl
        have z1 : w2.cell? ⟨wr.heap.size, 1, none⟩ = some (.int .i64 ny) := cell_of_row g2 rfl
        have z2 : w2.cell? ⟨wr.heap.size, 2, none⟩ = some (.string sy) := cell_of_row g2 rfl
        have z3 : w2.cell? ⟨wr.heap.size, 3, none⟩ = some (.string ty) := cell_of_row g2 rfl
        have z4 : w2.cell? ⟨wr.heap.size, 4, none⟩ = some (.slice Ay Ly.length capy) := cell_of_row g2 rfl
        clear hc g2
        go_wp2_with fail
        refine (Size_any y _ _ HT2.out).mono ?_
        rintro e w3 ⟨rfl, b3⟩
        have HB3 := Lib.hid (HB2.out.trans (b3.mono HB2.out.size))
        clear b3 z0 z1 z2 z3 z4
        have hs : q + min 257 y.nodes = b + sumN (l.take (j + 1)) := by rw [sumN_take_succ HY.out, HQ.out]; omega
        have HSS := Lib.hid hs
        have hm : min 257 y.nodes ≤ 257 := by omega
        clear hs
        generalize min 257 y.nodes = m at HSS hm ⊢
        go_wp2_with fail
        go_roundw
        case rel =>
          refine ⟨j + 1, by omega, by go_num, ⟨q + m, by go_num, HSS.out⟩, fun z hz => ?_, HB3.out⟩
          rw [List.take_add_one, HY.out, List.mem_append] at hz
          rcases hz with hz | hz
          · exact HNO.out z hz
          · simp at hz; subst hz; exact HCY.out
        case measure => simp [intOf]; omega
    · obtain rfl : j = l.length := by omega
      have hR : R = if 256 < q then 11 else 0 := by
        rw [HF.out]; unfold fitN
        rw [if_neg, HQ.out, List.take_length]
        rw [Bool.not_eq_true, List.any_eq_false]
        intro y hy h
        exact HNO.out y (by rw [List.take_length]; exact hy) (by simpa using h)
      by_cases h256 : 256 < q
      · have hd : decide ((256 : Int) < (q : Int)) = true := decide_eq_true (by omega)
        rw [if_pos h256] at hR
        have HRR := Lib.hid hR
        clear hR
        go_wp2_with fail
        go_ret
        exact ⟨ret_int HRR.out.symm, HB.out⟩
      · have hd : decide ((256 : Int) < (q : Int)) = false := decide_eq_false (by omega)
        rw [if_neg h256] at hR
        have HRR := Lib.hid hR
        clear hR
        go_wp2_with fail
        go_ret
        exact ⟨ret_int HRR.out.symm, HB.out⟩
end Go.Proofs.YtkceoiaaiaomoaaGreatDoor
end
section
set_option linter.unusedVariables false
namespace Go.Proofs.YtkceoiaaiaomoaaGreatDoor
open Go.RowKit

theorem TRow.flat {P : Nat → Prop} {w : World} {ad : Addr} {n cap : Nat} {l : List Tm} (h : TRow P w (some ad) n cap l) :
    ∃ us : List Value, us.length = l.length ∧ (∀ (j : Nat) (x : Tm), l[j]? = some x → ∃ u, us[j]? = some u ∧ TmAt P w x u) ∧ ∀ i u, (flat us)[i]? = some u → w.cell? (ad.add i) = some u := by
  obtain ⟨us, hl, hu⟩ := rows_choose (n := l.length) (p := fun j u => ElemAt w ad j u ∧ ∀ x, l[j]? = some x → TmAt P w x u) (fun j hj => by
    obtain ⟨ad', v, e, _, he, ht⟩ := h.at_ j _ (List.getElem?_eq_getElem hj)
    cases e
    exact ⟨v, he, fun x hx => by rw [List.getElem?_eq_getElem hj] at hx; cases hx; exact ht⟩)
  have at_ : ∀ (j : Nat) (x : Tm), l[j]? = some x → ∃ u, us[j]? = some u ∧ TmAt P w x u := fun j x hx => by
    have hj := (List.getElem?_eq_some_iff.1 hx).1
    have e : us[j]? = some us[j] := List.getElem?_eq_getElem (by omega)
    exact ⟨_, e, (hu _ _ e).2 x hx⟩
  have hf := ownT_five hl at_
  refine ⟨us, hl, at_, fun i u hi => ?_⟩
  have hlen := flat_length hf
  have hil := (List.getElem?_eq_some_iff.1 hi).1
  have e5 : i / 5 * 5 + i % 5 = i := by omega
  have hj : i / 5 < us.length := by omega
  have eu : us[i / 5]? = some us[i / 5] := List.getElem?_eq_getElem hj
  obtain ⟨c0, c1, c2, c3, c4, ec, g0, g1, g2, g3, g4⟩ := (hu _ _ eu).1
  have hfl := flat_at hf eu (i % 5) (by omega)
  rw [e5, hi, ec] at hfl
  have addj : ∀ r, (ad.add (i / 5 * 5)).add r = ad.add (i / 5 * 5 + r) := by
    intro r
    unfold Addr.add
    by_cases h0 : i / 5 * 5 = 0
    · simp [h0]
    · by_cases h1 : r = 0
      · simp [h1]
      · simp [h0, h1]; omega
  have hm : i % 5 = 0 ∨ i % 5 = 1 ∨ i % 5 = 2 ∨ i % 5 = 3 ∨ i % 5 = 4 := by omega
  rcases hm with hm | hm | hm | hm | hm
  all_goals
    rw [hm] at hfl e5
    simp [five] at hfl
    subst hfl
    rw [← e5]
  · rw [Nat.add_zero]; exact g0
  · rw [← addj]; rw [show (ad.add (i / 5 * 5)).add 1 = ⟨(ad.add (i / 5 * 5)).block, (ad.add (i / 5 * 5)).off + 1, none⟩ by simp [Addr.add]]; exact g1
  · rw [← addj]; rw [show (ad.add (i / 5 * 5)).add 2 = ⟨(ad.add (i / 5 * 5)).block, (ad.add (i / 5 * 5)).off + 2, none⟩ by simp [Addr.add]]; exact g2
  · rw [← addj]; rw [show (ad.add (i / 5 * 5)).add 3 = ⟨(ad.add (i / 5 * 5)).block, (ad.add (i / 5 * 5)).off + 3, none⟩ by simp [Addr.add]]; exact g3
  · rw [← addj]; rw [show (ad.add (i / 5 * 5)).add 4 = ⟨(ad.add (i / 5 * 5)).block, (ad.add (i / 5 * 5)).off + 4, none⟩ by simp [Addr.add]]; exact g4

theorem append_nought {P : Program} {w : World} {base : Nat} {t ty e : TypeId} {i : TypeInfo} {size : Nat} (ht : P.underlying t = some (.slice e)) (hi : P.info? e = some i)
    {v : Value} {n : Nat} {xs : List Value} (ho : w.ownsRow base e size v n xs) (c : Nat) : (Builtin.append_ #[t, t] ty #[v, .slice none 0 c]).run P w = .ok v w := by
  rcases ho.2 with ⟨e1, _⟩ | ⟨g, cap, cur, e1, _, _, hnc, _⟩
  · subst e1; simp [Builtin.append_, run_underlying ht, sizeOf, typeInfo, hi, Builtin.lenOf, Builtin.firstCells]
  · subst e1; simp [Builtin.append_, run_underlying ht, sizeOf, typeInfo, hi, Builtin.lenOf, Builtin.firstCells, hnc, storeCells]

section
variable {ops : Array Oper} {rest : List Oper} {o : Oper} {a : Act} {w : World}
set_option maxRecDepth 100000 in
theorem wp_own_terms {K : Act → World → Prop} {Q : Exit → Act → World → Prop} (sl x : Operand)
    (ho : o.op = .call { callee := .builtin .append, args := #[sl, x], argTypes := #[42, 42] })
    {base : Nat} {P : Nat → Prop} {v : Value} {hs : List Tm} (hown : OwnT base P w v hs) (hbase : base ≤ w.heap.size) (hP : ∀ b, P b → b < w.heap.size ∧ v.ownBlock ≠ some b) (he : a.eval sl = v)
    {A : Option Addr} {m cap : Nat} {ys : List Tm} (hx : a.eval x = .slice A m cap) (hR : TRow P w A m cap ys) (hlen : hs.length + ys.length ≤ 1000000)
    (h : ∀ v' w', OwnT base P w' v' (hs ++ ys) → w.grownBy w' v.ownBlock → (v'.ownBlock = v.ownBlock ∨ v'.ownBlock = some w.heap.size) → K (a.put o.dst v') w') : o.wp Tryz.prog a w K Q := by
  obtain ⟨i, hi, hz, hsz, hby⟩ := info_parts info_term
  obtain ⟨us, hu, hl, ht⟩ := hown.row
  obtain rfl := hR.len
  unfold Oper.wp execOp
  simp only [ho, resolve, invoke, builtin, Sem.run_bind, Sem.run_pure, Result.andThen_ok, List.map_toArray, List.map_cons, List.map_nil, he, hx]
  rcases A with _ | ad
  · have hy : ys = [] := by
      cases ys with
      | nil => rfl
      | cons y ys => obtain ⟨ad, _, e, _⟩ := hR.at_ 0 y rfl; cases e
    subst hy
    rw [show ([] : List Tm).length = 0 from rfl, append_nought Tryz.underlying42 hi hu cap]
    exact h _ _ (by rw [List.append_nil]; exact hown) (World.grownBy.refl w _) (.inl rfl)
  · obtain ⟨vs, hvl, hvt, hvc⟩ := hR.flat
    have hf := ownT_five hl ht
    have hg := ownT_five hvl hvt
    have h1 : ∀ u ∈ flat vs, u.oneCell' = true := by
      intro u hu
      obtain ⟨v, hv, hu⟩ := List.mem_flatMap.1 hu
      obtain ⟨j, hj, rfl⟩ := List.getElem_of_mem hv
      obtain ⟨u', e1, hT⟩ := hvt j ys[j] (List.getElem?_eq_getElem (by omega))
      rw [List.getElem?_eq_getElem hj] at e1
      cases e1
      generalize vs[j] = r at hT hu
      generalize ys[j] = q at hT
      cases hT
      simp [five] at hu
      rcases hu with rfl | rfl | rfl | rfl | rfl <;> rfl
    obtain ⟨v', w', hr, h2, h3, _, h5⟩ := run_append_own_at (P := Tryz.prog) w base 42 o.type 44 i _ 5 72 Tryz.underlying42 hi hz hsz hby rfl (by decide) v hs.length (flat us) hu ad ys.length cap (flat vs) (by rw [flat_length hg, hvl]) hvc h1 (by unfold maxLen; omega) (by omega) hbase
    rw [hr]
    have keepP : ∀ b, P b → w'.heap[b]? = w.heap[b]? := fun b hb => h3.block b (hP b hb).1 (fun e => (hP b hb).2 e.symm)
    refine h _ _ ⟨us ++ vs, ?_, by simp [hl, hvl], fun j z hj => ?_⟩ h3 h5
    · rw [List.length_append, flat_append]; exact h2
    · rw [List.getElem?_append] at hj
      split at hj
      · obtain ⟨u, hu', hT⟩ := ht j z hj
        exact ⟨u, by rw [List.getElem?_append_left (by omega)]; exact hu', hT.keep keepP (fun _ h => h)⟩
      · obtain ⟨u, hu', hT⟩ := hvt _ z hj
        exact ⟨u, by rw [List.getElem?_append_right (by omega), hl]; exact hu', hT.keep keepP (fun _ h => h)⟩
theorem wpList_own_terms {Q : Exit → Act → World → Prop} (hgd : o.guard = none) (sl x : Operand)
    (ho : o.op = .call { callee := .builtin .append, args := #[sl, x], argTypes := #[42, 42] })
    {base : Nat} {P : Nat → Prop} {v : Value} {hs : List Tm} (hown : OwnT base P w v hs) (hbase : base ≤ w.heap.size) (hP : ∀ b, P b → b < w.heap.size ∧ v.ownBlock ≠ some b) (he : a.eval sl = v)
    {A : Option Addr} {m cap : Nat} {ys : List Tm} (hx : a.eval x = .slice A m cap) (hR : TRow P w A m cap ys) (hlen : hs.length + ys.length ≤ 1000000)
    (h : ∀ v' w', OwnT base P w' v' (hs ++ ys) → w.grownBy w' v.ownBlock → (v'.ownBlock = v.ownBlock ∨ v'.ownBlock = some w.heap.size) → wpList Tryz.prog ops Q rest (a.put o.dst v') w') : wpList Tryz.prog ops Q (o :: rest) a w :=
  wpList_plain hgd fun K hK => wp_own_terms sl x ho hown hbase hP he hx hR hlen fun v' w' h1 h2 h3 => hK _ _ (h v' w' h1 h2 h3)
end

end Go.Proofs.YtkceoiaaiaomoaaGreatDoor
end
section
set_option linter.unusedVariables false
namespace Go.Proofs.YtkceoiaaiaomoaaGreatDoor
open Go.RowKit

def tupT (l : List Tm) : Tm := .mk 5 0 ⟨#[]⟩ ⟨#[]⟩ l

def TupleP (Q : Nat → Prop) (l : List Tm) (w : World) (e : Ending) (w' : World) : Prop :=
  ∃ v, e = .returned (.tuple #[v, .int .i64 (fitN 1 l)]) ∧ (∃ k n s t A L cap, v = .agg #[.int .i8 k, .int .i64 n, .string s, .string t, .slice A (List.length (α := Tm) L) cap]) ∧ (fitN 1 l = 0 → TmAt (fun b => Q b ∨ (w.heap.size ≤ b ∧ b < w'.heap.size)) w' (tupT l) v) ∧ Below w.heap.size w w'

set_option maxHeartbeats 4000000 in
set_option maxRecDepth 100000 in
theorem Tuple_any (Q : Nat → Prop) (l : List Tm) (A : Option Addr) (n cap : Nat) (w : World) (hQ : ∀ b, Q b → b < w.heap.size) (hRQ : TRow Q w A n cap l) (hS : Spans w) (hll : l.length ≤ 1000000) :
    Calls Tryz.prog 206 #[.slice A n cap] w (TupleP Q l w) := by
  obtain rfl := hRQ.len
  have hR := hRQ.mono hQ
  have HRQ := Lib.hid hRQ
  have HQ := Lib.hid hQ
  clear hRQ hQ
  have B1 : Below w.heap.size w (w.alloc termZ) := (Below.refl _ w).alloc (Nat.le_refl _) _
  have hc := fit_any 1 (by omega) A l.length cap l (by omega) _ (hR.later B1) (hS.below B1 hS.lt)
  rw [show ((1 : Nat) : Int) = 1 from rfl] at hc
  have HC := Lib.hid hc
  have HR := Lib.hid hR
  have HB1 := Lib.hid B1
  have HG1 : Hid ((w.alloc termZ).heap[w.heap.size]? = some termZ) := block_alloc _ _
  clear hR hS B1 hc
  go_enter Tryz.func206, Tryz.ntmps206
  go_wp2_with fail
  refine HC.out.mono ?_
  rintro e V1 ⟨rfl, b1⟩
  have HB2 := Lib.hid (HB1.out.trans (b1.mono HB1.out.size))
  have g2 := (b1.block _ (heap_lt HG1.out)).trans HG1.out
  have HG2 := Lib.hid g2
  clear b1
  by_cases h0 : fitN 1 l = 0
  · have h01 : (fitN 1 l != 0) = false := by simpa using h0
    have HF := Lib.hid h0
    have hl2 := (fit_zero h0).1
    have hl3 := sumN_ge l
    have hlen : ([] : List Tm).length + l.length ≤ 1000000 := by simp; omega
    have HLE := Lib.hid hlen
    have HO := Lib.hid (OwnT.nil V1.heap.size Q V1)
    have HR2 := Lib.hid (HRQ.out.keep (fun b hb => HB2.out.block b (HQ.out b hb)) (fun _ h => h))
    have HP2 : Hid (∀ b, Q b → b < V1.heap.size ∧ (Value.slice none 0 0).ownBlock ≠ some b) := fun b hb => ⟨Nat.lt_of_lt_of_le (HQ.out b hb) HB2.out.size, by simp [Value.ownBlock]⟩
    clear h0 hl2 hl3 hlen g2
    go_wp2_with (at_builtin; refine wpList_own_terms rfl (.const (.slice none 0 0)) (.tmp 11) rfl HO.out (Nat.le_refl _) HP2.out rfl rfl HR2.out HLE.out ?_)
    intro v' w' O' hg hwh
    obtain ⟨A', cap', rfl⟩ := O'.shape
    have hT := (O'.trow (Q := fun b => Q b ∨ (V1.heap.size ≤ b ∧ b < w'.heap.size)) (fun b hb => .inl hb) (fun b h1 h2 _ => .inr ⟨h1, h2⟩)).2
    have HV1 : Hid (w.heap.size < V1.heap.size) := heap_lt HG2.out
    have mg : Mod (fun _ => False) V1 w' := Mod.grown hg (fun k _ e => by simp [Value.ownBlock] at e)
    have HT := Lib.hid hT
    have HB3 := Lib.hid (HB2.out.trans (mg.below HB2.out.size (fun k h => h.elim)))
    have HG3 := Lib.hid ((mg.block _ (heap_lt HG2.out) (fun h => h)).trans HG2.out)
    clear O' hg hwh hT mg
    go_wp2_with fail
    refine (termOf_tuple 0 ⟨#[]⟩ ⟨#[]⟩ A' l.length cap' _).mono ?_
    rintro e V3 ⟨rfl, b3⟩
    have g4 := (b3.block _ (heap_lt HG3.out)).trans HG3.out
    unfold termZ at g4
    have r0 : (V3).cell? ⟨w.heap.size, 0, none⟩ = some (.int .i8 0) := cell_of_row g4 rfl
    have r1 : (V3).cell? ⟨w.heap.size, 1, none⟩ = some (.int .i64 0) := cell_of_row g4 rfl
    have r2 : (V3).cell? ⟨w.heap.size, 2, none⟩ = some (.string ⟨#[]⟩) := cell_of_row g4 rfl
    have r3 : (V3).cell? ⟨w.heap.size, 3, none⟩ = some (.string ⟨#[]⟩) := cell_of_row g4 rfl
    have r4 : (V3).cell? ⟨w.heap.size, 4, none⟩ = some (.slice none 0 0) := cell_of_row g4 rfl
    have f0 : (V3).frozen? ⟨w.heap.size, 0, none⟩ = false := free_of_row g4
    have f1 : (V3).frozen? ⟨w.heap.size, 1, none⟩ = false := free_of_row g4
    have f2 : (V3).frozen? ⟨w.heap.size, 2, none⟩ = false := free_of_row g4
    have f3 : (V3).frozen? ⟨w.heap.size, 3, none⟩ = false := free_of_row g4
    have f4 : (V3).frozen? ⟨w.heap.size, 4, none⟩ = false := free_of_row g4
    have S5 := Lib.hid (set_five (.int .i8 5) (.int .i64 0) (.string ⟨#[]⟩) (.string ⟨#[]⟩) (.slice A' l.length cap') g4)
    have HB4 := Lib.hid (HB3.out.trans (b3.mono HB3.out.size))
    have HZ := Lib.hid b3
    have HZ2 : Hid (w.heap.size < w'.heap.size) := heap_lt HG3.out
    clear g4 b3
    go_wp2_with fail
    obtain ⟨s5, m5⟩ := S5.out
    generalize ((((((V3).setCell ⟨w.heap.size, 0, none⟩ (.int .i8 5)).setCell ⟨w.heap.size, 1, none⟩ (.int .i64 0)).setCell ⟨w.heap.size, 2, none⟩ (.string ⟨#[]⟩)).setCell ⟨w.heap.size, 3, none⟩ (.string ⟨#[]⟩)).setCell ⟨w.heap.size, 4, none⟩ (.slice A' l.length cap')) = VX at s5 m5 ⊢
    have z0 : VX.cell? ⟨w.heap.size, 0, none⟩ = some (.int .i8 5) := cell_of_row s5 rfl
    have z1 : VX.cell? ⟨w.heap.size, 1, none⟩ = some (.int .i64 0) := cell_of_row s5 rfl
    have z2 : VX.cell? ⟨w.heap.size, 2, none⟩ = some (.string ⟨#[]⟩) := cell_of_row s5 rfl
    have z3 : VX.cell? ⟨w.heap.size, 3, none⟩ = some (.string ⟨#[]⟩) := cell_of_row s5 rfl
    have z4 : VX.cell? ⟨w.heap.size, 4, none⟩ = some (.slice A' l.length cap') := cell_of_row s5 rfl
    refine bodyPost_ret (v := .tuple #[.agg #[(.int .i8 5), (.int .i64 0), (.string ⟨#[]⟩), (.string ⟨#[]⟩), (.slice A' l.length cap')], (.int .i64 0)]) (by simp [results, Tryz.f206, go_sem, z0, z1, z2, z3, z4]) rfl ?_
    refine ⟨_, by rw [HF.out], ⟨5, 0, ⟨#[]⟩, ⟨#[]⟩, A', l, cap', rfl⟩, fun _ => TmAt.of_row (k := 5) (n := 0) (s := ⟨#[]⟩) (t := ⟨#[]⟩) (HT.out.keep (fun b hb => ?_) (fun b hb => ?_)) (by omega) (by omega) (by show 0 ≤ maxLen; omega) (by show 0 ≤ maxLen; omega), ?_⟩
    · have h1 := HV1.out
      have h2 := HZ2.out
      have h3 := HZ.out.size
      refine (m5.block b ?_ ?_).trans (HZ.out.block b ?_)
      · rcases hb with hb | hb
        · have := HQ.out b hb; omega
        · omega
      · rcases hb with hb | hb
        · have := HQ.out b hb; omega
        · omega
      · rcases hb with hb | hb
        · have := HQ.out b hb; omega
        · omega
    · have h2 := HZ2.out
      have h3 := HZ.out.size
      have h4 := m5.size
      have h1 := HV1.out
      rcases hb with hb | hb
      · exact .inl hb
      · exact .inr ⟨by omega, by omega⟩
    · exact HB4.out.trans (m5.below HB4.out.size (fun k (e : k = _) => by omega))
  · have h01 : (fitN 1 l != 0) = true := by simpa using h0
    have HF := Lib.hid h0
    clear h0
    unfold termZ at g2
    have r0 : (V1).cell? ⟨w.heap.size, 0, none⟩ = some (.int .i8 0) := cell_of_row g2 rfl
    have r1 : (V1).cell? ⟨w.heap.size, 1, none⟩ = some (.int .i64 0) := cell_of_row g2 rfl
    have r2 : (V1).cell? ⟨w.heap.size, 2, none⟩ = some (.string ⟨#[]⟩) := cell_of_row g2 rfl
    have r3 : (V1).cell? ⟨w.heap.size, 3, none⟩ = some (.string ⟨#[]⟩) := cell_of_row g2 rfl
    have r4 : (V1).cell? ⟨w.heap.size, 4, none⟩ = some (.slice none 0 0) := cell_of_row g2 rfl
    have f0 : (V1).frozen? ⟨w.heap.size, 0, none⟩ = false := free_of_row g2
    have f1 : (V1).frozen? ⟨w.heap.size, 1, none⟩ = false := free_of_row g2
    have f2 : (V1).frozen? ⟨w.heap.size, 2, none⟩ = false := free_of_row g2
    have f3 : (V1).frozen? ⟨w.heap.size, 3, none⟩ = false := free_of_row g2
    have f4 : (V1).frozen? ⟨w.heap.size, 4, none⟩ = false := free_of_row g2
    have S5 := Lib.hid (set_five (.int .i8 0) (.int .i64 0) (.string ⟨#[]⟩) (.string ⟨#[]⟩) (.slice none 0 0) g2)
    clear g2
    go_wp2_with fail
    obtain ⟨s5, m5⟩ := S5.out
    generalize ((((((V1).setCell ⟨w.heap.size, 0, none⟩ (.int .i8 0)).setCell ⟨w.heap.size, 1, none⟩ (.int .i64 0)).setCell ⟨w.heap.size, 2, none⟩ (.string ⟨#[]⟩)).setCell ⟨w.heap.size, 3, none⟩ (.string ⟨#[]⟩)).setCell ⟨w.heap.size, 4, none⟩ (.slice none 0 0)) = VX at s5 m5 ⊢
    have z0 : VX.cell? ⟨w.heap.size, 0, none⟩ = some (.int .i8 0) := cell_of_row s5 rfl
    have z1 : VX.cell? ⟨w.heap.size, 1, none⟩ = some (.int .i64 0) := cell_of_row s5 rfl
    have z2 : VX.cell? ⟨w.heap.size, 2, none⟩ = some (.string ⟨#[]⟩) := cell_of_row s5 rfl
    have z3 : VX.cell? ⟨w.heap.size, 3, none⟩ = some (.string ⟨#[]⟩) := cell_of_row s5 rfl
    have z4 : VX.cell? ⟨w.heap.size, 4, none⟩ = some (.slice none 0 0) := cell_of_row s5 rfl
    refine bodyPost_ret (v := .tuple #[.agg #[(.int .i8 0), (.int .i64 0), (.string ⟨#[]⟩), (.string ⟨#[]⟩), (.slice none 0 0)], (.int .i64 (fitN 1 l))]) (by simp [results, Tryz.f206, go_sem, z0, z1, z2, z3, z4]) rfl ?_
    exact ⟨_, rfl, ⟨0, 0, ⟨#[]⟩, ⟨#[]⟩, none, [], 0, rfl⟩, fun h => absurd h HF.out, HB2.out.trans (m5.below HB2.out.size (fun k (e : k = _) => by omega))⟩
end Go.Proofs.YtkceoiaaiaomoaaGreatDoor
end
