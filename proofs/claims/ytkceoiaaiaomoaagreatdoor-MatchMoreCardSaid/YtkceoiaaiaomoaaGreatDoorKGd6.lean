/- Nothing of its own. -/
import Derived.Test.YtkceoiaaiaomoaaGreatDoorKAstC
import Derived.Test.YtkceoiaaiaomoaaGreatDoorKSizeT
import Derived.Test.YtkceoiaaiaomoaaGreatDoorKGd2
import Derived.Test.YtkceoiaaiaomoaaGreatDoorKRef01
import Derived.Test.YtkceoiaaiaomoaaGreatDoorKPub7
import Derived.WalkKit
import Derived.LoopTactic
import Derived.Lib.Hide
import Derived.LoopNIn
import Derived.Deep.RegionHeld
import Derived.OrdersHeld
import Derived.Maps.AppendAt
section
set_option linter.unusedVariables false
namespace Go.Proofs.YtkceoiaaiaomoaaGreatDoor
open Go.RowKit

set_option maxHeartbeats 1000000 in
set_option maxRecDepth 100000 in
theorem rsize_any (x : Tm) : ∀ (v : Value) (most : Nat) (w : World), TmAt (· < w.heap.size) w x v → 1 ≤ most → most ≤ 1000000 →
    Calls Tryz.prog 67 #[v, .int .i64 most] w fun e w' => e = .returned (.int .i64 (min x.nodes most : Nat)) ∧ Below w.heap.size w w' := by
  induction x using Tm.ind with
  | h k n s t l ih =>
    intro v most w hT h1 hmost
    obtain ⟨A, cap, rfl, hR, hk, hn, hs, ht⟩ := hT.parts
    have hlen := hR.max
    unfold maxLen at hlen
    have HR := Lib.hid hR
    have HIH := Lib.hid ih
    clear hR ih hT
    obtain ⟨w1, hw1⟩ : ∃ w1, w1 = w.alloc (.cells #[.int .i8 k, .int .i64 n, .string s, .string t, .slice A l.length cap] 44) := ⟨_, rfl⟩
    have hB1 : Below w.heap.size w w1 := by rw [hw1]; exact (Below.refl _ w).alloc (Nat.le_refl _) _
    have hs1 : w1.heap.size = w.heap.size + 1 := by rw [hw1]; simp
    have hbox : w1.heap[w.heap.size]? = some (.cells #[.int .i8 k, .int .i64 n, .string s, .string t, .slice A l.length cap] 44) := by rw [hw1]; exact block_alloc _ _
    have HB1 := Lib.hid hB1
    have HS1 := Lib.hid hs1
    clear hB1 hs1
    go_enter Tryz.func67, Tryz.ntmps67
    go_wp2_with fail
    rw [← hw1]
    clear hw1
    have HX := Lib.hid hbox
    clear hbox
    go_loopw [5, 6] (fun r i wr => ∃ j : Nat, j ≤ l.length ∧ i = .int .i64 j ∧ (∃ q : Nat, r = .int .i64 q ∧ q = min (1 + (Tm.pres (l.take j)).length) most) ∧ Below w1.heap.size w1 wr) (fun _ i _ => l.length - (intOf i).toNat)
    case atStart => exact ⟨0, Nat.zero_le _, rfl, ⟨1, rfl, by simp [Tm.pres]; omega⟩, Below.refl _ _⟩
    case round =>
      obtain ⟨j, hj, rfl, ⟨q, rfl, hq⟩, hB⟩ := hrel
      have hbw : wr.heap[w.heap.size]? = _ := (hB.block w.heap.size (by rw [HS1.out]; omega)).trans HX.out
      have hc4 : wr.cell? ⟨w.heap.size, 4, none⟩ = some (.slice A l.length cap) := cell_of_row hbw rfl
      have hq1 : 1 ≤ q := by omega
      have hq2 : q ≤ most := by omega
      have HQ := Lib.hid hq
      have HB := Lib.hid hB
      clear hq hB hbw
      by_cases hlt : j < l.length
      · by_cases hm : q < most
        · obtain ⟨y, hy⟩ : ∃ y, l[j]? = some y := ⟨l[j], List.getElem?_eq_getElem hlt⟩
          obtain ⟨ad, u, rfl, had, hE, hTy⟩ := HR.out.at_ j y hy
          have hEr : ElemAt wr ad j u := hE.keep ((HB.out.block ad.block (by rw [HS1.out]; omega)).trans (HB1.out.block ad.block had))
          have hTr : TmAt (· < wr.heap.size) wr y u := hTy.keep (fun b hb => (HB.out.block b (by rw [HS1.out]; omega)).trans (HB1.out.block b hb)) (fun b hb => by have := HB1.out.size; have := HB.out.size; omega)
          obtain ⟨c0, c1, c2, c3, c4, rfl, e0, e1, e2, e3, e4⟩ := hEr
          have hmem := List.mem_of_getElem? hy
          have hpy := Tm.pre_ne y
          have HY := Lib.hid hy
          clear hE hTy hy
          go_wp2_with fail
          have he : (most : Int) - q = ((most - q : Nat) : Int) := by omega
          rw [he]
          refine (HIH.out y hmem _ (most - q) _ hTr (by omega) (by omega)).mono ?_
          rintro e w2 ⟨rfl, b2⟩
          have hr : q + min y.nodes (most - q) = min (1 + (Tm.pres (l.take (j + 1))).length) most := by
            rw [Tm.pres_take_succ HY.out, List.length_append]
            have := HQ.out
            unfold Tm.nodes
            omega
          have HRR := Lib.hid hr
          have hle : min y.nodes (most - q) ≤ 1000000 := by omega
          clear hr he
          generalize min y.nodes (most - q) = z at HRR hle ⊢
          go_wp2_with fail
          go_roundw
          case rel => exact ⟨j + 1, by omega, by go_num, ⟨q + z, by go_num, HRR.out⟩, HB.out.trans (b2.mono HB.out.size)⟩
          case measure => simp [intOf]; omega
        · go_wp2_with fail
          go_ret
          refine ⟨ret_int ?_, HB1.out.trans (HB.out.mono (by rw [HS1.out]; omega))⟩
          have h := HQ.out
          have : (Tm.pres (l.take j)).length ≤ (Tm.pres l).length := by
            rw [show Tm.pres l = Tm.pres (l.take j) ++ Tm.pres (l.drop j) by rw [← Tm.pres_append, List.take_append_drop]]
            simp
          unfold Tm.nodes Tm.pre
          simp only [List.length_cons]
          omega
      · obtain rfl : j = l.length := by omega
        go_wp2_with fail
        go_ret
        refine ⟨ret_int ?_, HB1.out.trans (HB.out.mono (by rw [HS1.out]; omega))⟩
        have h := HQ.out
        rw [List.take_length] at h
        unfold Tm.nodes Tm.pre
        simp only [List.length_cons]
        omega

def NoThen (p : Prop) (w : World) (e : Ending) (w' : World) : Prop := ∃ b : Bool, e = .returned (.bool b) ∧ (b = false → p) ∧ Below w.heap.size w w'

theorem Great_any (x : Tm) (v : Value) (w : World) (hT : TmAt (· < w.heap.size) w x v) : Calls Tryz.prog 24 #[v] w (NoThen (x.nodes < 1024) w) := by
  obtain ⟨c, rfl⟩ : ∃ c, v = .agg c := by cases hT; exact ⟨_, rfl⟩
  have hT2 : TmAt (· < (w.alloc (.cells c 44)).heap.size) (w.alloc (.cells c 44)) x (.agg c) := hT.keep (fun b hb => Below.heap_alloc _ _ _ hb) (fun b hb => by simp; omega)
  cases hT with
  | mk vs hk hn hs ht hl hcap hc hx =>
    have HC := Lib.hid (rsize_any _ _ 1024 _ hT2 (by decide) (by decide))
    clear hT2 hc hx hl hcap
    unfold maxLen at hs ht
    go_enter Tryz.func24, Tryz.ntmps24
    go_wp2_with fail
    refine HC.out.mono ?_
    rintro e w1 ⟨rfl, b1⟩
    go_wp2_with fail
    go_ret
    refine ⟨_, rfl, fun h => ?_, ((Below.refl _ w).alloc (Nat.le_refl _) _).trans (b1.mono (by simp))⟩
    have := of_decide_eq_false h
    omega

end Go.Proofs.YtkceoiaaiaomoaaGreatDoor
set_option linter.unusedVariables false
namespace Go.Proofs.YtkceoiaaiaomoaaGreatDoor
open Go.RowKit

structure Bx2 (w V : World) (cx cy : Array Value) : Prop where
  below : Below w.heap.size w V
  bx : V.heap[w.heap.size]? = some (.cells cx 44 (0, 0))
  by_ : V.heap[w.heap.size + 1]? = some (.cells cy 44 (0, 0))
theorem Bx2.on {w V V' : World} {cx cy : Array Value} (h : Bx2 w V cx cy) (hb : Below V.heap.size V V') : Bx2 w V' cx cy :=
  ⟨h.below.trans (hb.mono h.below.size), (hb.block _ (heap_lt h.bx)).trans h.bx, (hb.block _ (heap_lt h.by_)).trans h.by_⟩
theorem bx2_of (w : World) (cx cy : Array Value) : Bx2 w ((w.alloc (.cells cx 44)).alloc (.cells cy 44)) cx cy := by
  refine ⟨((Below.refl _ w).alloc (Nat.le_refl _) _).alloc (by simp) _, (Below.heap_alloc _ _ _ (by simp)).trans (block_alloc _ _), ?_⟩
  have := block_alloc (w.alloc (.cells cx 44)) (.cells cy 44)
  rwa [World.size_alloc] at this
theorem TmAt.later {w V : World} {x : Tm} {v : Value} (h : TmAt (· < w.heap.size) w x v) (hb : Below w.heap.size w V) : TmAt (· < V.heap.size) V x v :=
  h.keep (fun b hb' => hb.block b hb') (fun b hb' => Nat.lt_of_lt_of_le hb' hb.size)
end Go.Proofs.YtkceoiaaiaomoaaGreatDoor
end
section

end
section

end
section
set_option linter.unusedVariables false
namespace Go.Proofs.YtkceoiaaiaomoaaGreatDoor
open Go.RowKit

def tupT (l : List Tm) : Tm := .mk 5 0 ⟨#[]⟩ ⟨#[]⟩ l

end Go.Proofs.YtkceoiaaiaomoaaGreatDoor
end
section

end
section
set_option linter.unusedVariables false
set_option linter.unusedSimpArgs false
namespace Go.Proofs.YtkceoiaaiaomoaaGreatDoor
open Go.RowKit

def intT (n : Int) : Tm := .mk 0 n ⟨#[]⟩ ⟨#[]⟩ []
theorem zeroTerm (w : World) : (zeroValue 44).run Tryz.prog w = .ok (.agg #[.int .i8 0, .int .i64 0, .string ⟨#[]⟩, .string ⟨#[]⟩, .slice none 0 0]) w := by kernel_rfl
end Go.Proofs.YtkceoiaaiaomoaaGreatDoor
end
section

end
section

end
section

end
section

end
