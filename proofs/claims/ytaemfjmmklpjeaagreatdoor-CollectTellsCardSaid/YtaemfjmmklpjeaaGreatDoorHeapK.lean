/- package heap: Make. -/
import Derived.Test.YtaemfjmmklpjeaaGreatDoorHeapV
import Derived.Deep.DeepCutAuto
import Derived.Tactics2
import Derived.LoopTactic
set_option linter.unusedVariables false
namespace Go.Proofs.YtaemfjmmklpjeaaGreatDoor
open Go.RowKit

def kindB (k : Int) (n : Nat) : Bool := (k == 5 || k == 7) && !(k == 7 && n != 2)

set_option maxHeartbeats 4000000 in
set_option maxRecDepth 100000 in
theorem Make_kind (hb : Nat) (k : Int) (A : Option Addr) (n cap : Nat) (w : World) (hk : kindB k n = false) :
    Calls Tryz.prog 25 #[.pointer (some ⟨hb, 0, none⟩), .int .i8 k, .slice A n cap] w fun e w' => e = .returned (.tuple #[word0, .int .i64 2]) ∧ Below w.heap.size w w' := by
  have HP := Lib.hid (fun V => parted_any k V)
  by_cases hp : (k == 5 || k == 7) = true
  · have h7 : k = 7 := by
      unfold kindB at hk
      rw [hp] at hk
      simp at hk
      exact hk.1
    subst h7
    have hn : n ≠ 2 := by
      unfold kindB at hk
      simpa using hk
    have hn' : ((n : Int) != 2) = true := by simp; omega
    clear hp hk hn
    go_enter Tryz.func25, Tryz.ntmps25
    go_wp2_with fail
    refine (HP.out _).mono ?_
    rintro e V1 ⟨rfl, rfl⟩
    rw [show ((7 : Int) == 5 || (7 : Int) == 7) = true from rfl]
    go_wp2_with fail
    refine bodyPost_ret (v := .tuple #[word0, .int .i64 2]) (by simp [results, Tryz.f25, go_sem, word0]) rfl ⟨rfl, ?_⟩
    exact (Below.refl _ w).alloc (Nat.le_refl _) _
  · have hp' : (k == 5 || k == 7) = false := by simpa using hp
    clear hp hk
    go_enter Tryz.func25, Tryz.ntmps25
    go_wp2_with fail
    refine (HP.out _).mono ?_
    rintro e V1 ⟨rfl, rfl⟩
    rw [hp']
    go_wp2_with fail
    refine bodyPost_ret (v := .tuple #[word0, .int .i64 2]) (by simp [results, Tryz.f25, go_sem, word0]) rfl ⟨rfl, ?_⟩
    exact (Below.refl _ w).alloc (Nat.le_refl _) _
def makeE (cs : List HC) (L : List AW) : Nat := if L.all (fun q => mayW cs.length q.c q.a q.x) = true then (if 256 < wsum cs (L.map AW.hw) then 11 else if 1048576 ≤ cs.length then 20 else 0) else 2

def MakeP (base hb : Nat) (s : HSt) (k : Int) (L : List AW) (w : World) (e : Ending) (w' : World) : Prop :=
  (makeE s.cs L ≠ 0 ∧ e = .returned (.tuple #[word0, .int .i64 (makeE s.cs L : Nat)]) ∧ Below w.heap.size w w') ∨
  (makeE s.cs L = 0 ∧ e = .returned (.tuple #[refV s.cs.length, .int .i64 0]) ∧ HMoveTo base hb s (s.more k (L.map AW.hw)) (s.ws + (1 + L.length)) w w')

set_option maxHeartbeats 8000000 in
set_option maxRecDepth 100000 in
theorem Make_any {base hb : Nat} {s : HSt} (k : Int) (L : List AW) (A : Option Addr) (cap : Nat) (P : Nat → Prop) (w : World) (hbw : base ≤ w.heap.size) (h : s.At base w hb) (hrn : s.rn ≤ 1000000) (hg : ∀ (n : Nat) (c : HC), s.cs[n]? = some c → c.size ≤ 256) (hR : WRow P w A L.length cap L)
    (hP : ∀ b, P b → b < w.heap.size ∧ ¬ s.FP hb b) (hll : L.length ≤ 1000) (hws : s.ws ≤ 1000000000000) (hcl : s.cs.length ≤ 1048576) (hk : kindB k L.length = true) (hS : Spans w) :
    Calls Tryz.prog 25 #[.pointer (some ⟨hb, 0, none⟩), .int .i8 k, .slice A L.length cap] w (MakeP base hb s k L w) := by
  have hR1 : WRow (· < w.heap.size) w A L.length cap L := hR.keep (fun _ _ => rfl) (fun b hb => (hP b hb).1)
  obtain ⟨w1, hw1⟩ : ∃ w1, w1 = w.alloc (.cells #[(.bool false), (.int .i64 0), (.int .i8 0), (.int .i64 0), (.string ⟨#[]⟩), (.string ⟨#[]⟩), (.slice none 0 0)] 51) := ⟨_, rfl⟩
  have B1 : Below w.heap.size w w1 := by rw [hw1]; exact (Below.refl _ w).alloc (Nat.le_refl _) _
  have r1 : w1.heap[w.heap.size]? = some (.cells #[(.bool false), (.int .i64 0), (.int .i8 0), (.int .i64 0), (.string ⟨#[]⟩), (.string ⟨#[]⟩), (.slice none 0 0)] 51 (0, 0)) := by rw [hw1]; exact block_alloc _ _
  have HPA := Lib.hid (fun V => parted_any k V)
  have HP := Lib.hid hP
  have HR := Lib.hid hR
  have HRR := Lib.hid hR1
  have HH := Lib.hid h
  have HGS := Lib.hid hg
  have HS := Lib.hid hS
  have HB1 := Lib.hid B1
  have HR1 := Lib.hid r1
  have HLE : Hid (w.heap.size < w1.heap.size) := heap_lt r1
  have hp : (k == 5 || k == 7) = true := by
    unfold kindB at hk
    simp only [Bool.and_eq_true] at hk
    exact hk.1
  have HPK := Lib.hid hp
  have hc7 : k = 7 → L.length = 2 := by
    unfold kindB at hk
    intro h7
    subst h7
    simpa using hk
  clear hR hR1 hP h hg hS B1 r1 hp hk
  -- what follows the test of the kind
  by_cases h7 : k = 7
  · subst h7
    have hl2 : (((L.length : Nat) : Int) != 2) = false := by have := hc7 rfl; rw [this]; rfl
    clear hc7
    go_enter Tryz.func25, Tryz.ntmps25
    go_wp2_with fail
    rw [← hw1]
    clear hw1
    refine (HPA.out _).mono ?_
    rintro e V1 ⟨rfl, rfl⟩
    rw [HPK.out]
    go_wp2_with fail
    go_loopw [28] (fun i wr => ∃ j : Nat, j ≤ L.length ∧ i = .int .i64 j ∧ (∀ q ∈ L.take j, mayW s.cs.length q.c q.a q.x = true) ∧ Below w1.heap.size w1 wr)
      (fun i _ => L.length - (intOf i).toNat)
    case atStart => exact ⟨0, Nat.zero_le _, rfl, by simp, Below.refl _ _⟩
    case round =>
      obtain ⟨j, hj, rfl, hq, hB⟩ := hrel
      have HQ := Lib.hid hq
      have HB := Lib.hid hB
      have HW : Hid (Below w.heap.size w wr) := HB1.out.trans (hB.mono HB1.out.size)
      clear hq hB
      by_cases hlt : j < L.length
      · obtain ⟨y, hy⟩ : ∃ y, L[j]? = some y := ⟨L[j], List.getElem?_eq_getElem hlt⟩
        obtain ⟨ad, u, rfl, had, hE, hA⟩ := HRR.out.at_ j y hy
        have hEr : ElemW wr ad j u := hE.keep (HW.out.block ad.block had)
        obtain ⟨k', m, sx, tx, A3, len3, cap3, rfl, hT⟩ := hA
        obtain ⟨l3, hyx, rfl⟩ : ∃ l3, y.x = .mk k' m sx tx l3 ∧ len3 = l3.length := by
          generalize y.x = z at hT
          cases hT; exact ⟨_, rfl, rfl⟩
        rw [hyx] at hT
        obtain ⟨c0, c1, c2, c3, c4, c5, c6, hcc, e0, e1, e2, e3, e4, e5, e6⟩ := hEr
        simp only [Value.agg.injEq, Array.mk.injEq, List.cons.injEq, and_true] at hcc
        obtain ⟨rfl, rfl, rfl, rfl, rfl, rfl, rfl⟩ := hcc
        obtain ⟨wz, hwz⟩ : ∃ wz, wz = wr.alloc (.cells #[(.bool y.c), (.int .i64 y.a), (.int .i8 k'), (.int .i64 m), (.string sx), (.string tx), (.slice A3 l3.length cap3)] 51) := ⟨_, rfl⟩
        have bz : Below wr.heap.size wr wz := by rw [hwz]; exact (Below.refl _ _).alloc (Nat.le_refl _) _
        have gz : wz.heap[wr.heap.size]? = some (.cells #[(.bool y.c), (.int .i64 y.a), (.int .i8 k'), (.int .i64 m), (.string sx), (.string tx), (.slice A3 l3.length cap3)] 51 (0, 0)) := by rw [hwz]; exact block_alloc _ _
        have bwz : Below w.heap.size w wz := HW.out.trans (bz.mono HW.out.size)
        have b1z : Below w1.heap.size w1 wz := HB.out.trans (bz.mono HB.out.size)
        have HC := Lib.hid (HMay_any y.c y.a k' m sx tx l3 A3 cap3 wz (HeapAt.under HH.out bwz) (hT.later bwz) (HS.out.below bwz HS.out.lt))
        have HBZ := Lib.hid bwz
        have HB1Z := Lib.hid b1z
        have HYX := Lib.hid hyx
        have HY := Lib.hid hy
        have z0 : wz.cell? ⟨wr.heap.size, 0, none⟩ = some (.bool y.c) := cell_of_row gz rfl
        have z1 : wz.cell? ⟨wr.heap.size, 1, none⟩ = some (.int .i64 y.a) := cell_of_row gz rfl
        have z2 : wz.cell? ⟨wr.heap.size, 2, none⟩ = some (.int .i8 k') := cell_of_row gz rfl
        have z3 : wz.cell? ⟨wr.heap.size, 3, none⟩ = some (.int .i64 m) := cell_of_row gz rfl
        have z4 : wz.cell? ⟨wr.heap.size, 4, none⟩ = some (.string sx) := cell_of_row gz rfl
        have z5 : wz.cell? ⟨wr.heap.size, 5, none⟩ = some (.string tx) := cell_of_row gz rfl
        have z6 : wz.cell? ⟨wr.heap.size, 6, none⟩ = some (.slice A3 l3.length cap3) := cell_of_row gz rfl
        clear hE hT bz gz hy bwz b1z hyx
        go_wp2_with fail
        rw [← hwz]
        clear hwz
        refine HC.out.mono ?_
        rintro e w2 ⟨rfl, b2⟩
        have HB2 := Lib.hid (HBZ.out.trans (b2.mono HBZ.out.size))
        have HB12 := Lib.hid (HB1Z.out.trans (b2.mono HB1Z.out.size))
        clear b2 z0 z1 z2 z3 z4 z5 z6 e0 e1 e2 e3 e4 e5 e6
        cases hm : mayW s.cs.length y.c y.a (.mk k' m sx tx l3)
        · have hE0 : makeE s.cs L = 2 := by
            unfold makeE
            rw [if_neg]
            intro hall
            have := List.all_eq_true.1 hall y (List.mem_of_getElem? HY.out)
            rw [HYX.out, hm] at this
            exact absurd this (by decide)
          have HE0 := Lib.hid hE0
          clear hE0 hm
          have gB : w2.heap[w.heap.size]? = some (.cells #[(.bool false), (.int .i64 0), (.int .i8 0), (.int .i64 0), (.string ⟨#[]⟩), (.string ⟨#[]⟩), (.slice none 0 0)] 51 (0, 0)) := (HB12.out.block _ HLE.out).trans HR1.out
          have SV := Lib.hid (set_seven (.bool false) (.int .i64 0) (.int .i8 0) (.int .i64 0) (.string ⟨#[]⟩) (.string ⟨#[]⟩) (.slice none 0 0) gB)
          have q0 := cell_of_row (i := 0) gB rfl
          have f0 := free_of_row (i := 0) gB
          have q1 := cell_of_row (i := 1) gB rfl
          have f1 := free_of_row (i := 1) gB
          have q2 := cell_of_row (i := 2) gB rfl
          have f2 := free_of_row (i := 2) gB
          have q3 := cell_of_row (i := 3) gB rfl
          have f3 := free_of_row (i := 3) gB
          have q4 := cell_of_row (i := 4) gB rfl
          have f4 := free_of_row (i := 4) gB
          have q5 := cell_of_row (i := 5) gB rfl
          have f5 := free_of_row (i := 5) gB
          have q6 := cell_of_row (i := 6) gB rfl
          have f6 := free_of_row (i := 6) gB
          clear gB
          go_wp2_with fail
          obtain ⟨s7, m7⟩ := SV.out
          generalize ((((((w2.setCell ⟨w.heap.size, 0, none⟩ (.bool false)).setCell ⟨w.heap.size, 1, none⟩ (.int .i64 0)).setCell ⟨w.heap.size, 2, none⟩ (.int .i8 0)).setCell ⟨w.heap.size, 3, none⟩ (.int .i64 0)).setCell ⟨w.heap.size, 4, none⟩ (.string ⟨#[]⟩)).setCell ⟨w.heap.size, 5, none⟩ (.string ⟨#[]⟩)).setCell ⟨w.heap.size, 6, none⟩ (.slice none 0 0) = VX at s7 m7 ⊢
          have y0 := cell_of_row (i := 0) s7 rfl
          have y1 := cell_of_row (i := 1) s7 rfl
          have y2 := cell_of_row (i := 2) s7 rfl
          have y3 := cell_of_row (i := 3) s7 rfl
          have y4 := cell_of_row (i := 4) s7 rfl
          have y5 := cell_of_row (i := 5) s7 rfl
          have y6 := cell_of_row (i := 6) s7 rfl
          refine bodyPost_ret (v := .tuple #[word0, .int .i64 2]) (by simp [results, Tryz.f25, go_sem, word0, y0, y1, y2, y3, y4, y5, y6]) rfl (.inl ⟨by rw [HE0.out]; decide, by rw [HE0.out]; rfl, ?_⟩)
          exact HB2.out.trans (m7.below HB2.out.size (fun k (e : k = w.heap.size) => by omega))
        · have HM := Lib.hid hm
          clear hm
          go_wp2_with fail
          go_roundw
          case rel =>
            refine ⟨j + 1, by omega, by go_num, ?_, HB12.out⟩
            intro q hq
            rw [List.take_add_one, HY.out] at hq
            simp at hq
            rcases hq with hq | rfl
            · exact HQ.out q hq
            · rw [HYX.out]; exact HM.out
          case measure => simp [intOf]; omega
      · obtain rfl : j = L.length := by omega
        have hall : ∀ q ∈ L, mayW s.cs.length q.c q.a q.x = true := by
          have := HQ.out
          rwa [List.take_of_length_le (Nat.le_refl _)] at this
        have HSUM := Lib.hid (sum_any wr (HeapAt.under HH.out HW.out) HGS.out A L.length cap L (by omega) (HRR.out.later HW.out) hall)
        have hE0 : makeE s.cs L = if 256 < wsum s.cs (L.map AW.hw) then 11 else if 1048576 ≤ s.cs.length then 20 else 0 := by
          unfold makeE
          rw [if_pos (List.all_eq_true.2 hall)]
        have HE1 := Lib.hid hE0
        have HALL := Lib.hid hall
        have hbz : wsum s.cs (L.map AW.hw) ≤ 1000000000 := by
          have := wsum_le HGS.out (L.map AW.hw)
          have h2 : (L.map AW.hw).length = L.length := by simp
          omega
        clear hE0 hall
        generalize hsm : wsum s.cs (L.map AW.hw) = S at HSUM HE1 hbz
        clear hsm
        go_wp2_with fail
        refine HSUM.out.mono ?_
        rintro e V2 ⟨rfl, b2⟩
        have HB2 := Lib.hid (HW.out.trans (b2.mono HW.out.size))
        have HB12 := Lib.hid (HB.out.trans (b2.mono HB.out.size))
        have HG2 := Lib.hid ((HB12.out.block _ HLE.out).trans HR1.out)
        clear b2
        obtain ⟨CA, ccap, hsh⟩ := HeapAt.shape HH.out
        have y0 : V2.cell? ⟨hb, 0, none⟩ = some (.slice CA s.cs.length ccap) := hsh ▸ cell_of_row (HH.out.under HB2.out).bx rfl
        clear hsh
        by_cases h11 : 256 < S
        · have HE0 : Hid (makeE s.cs L = 11) := HE1.out.trans (if_pos h11)
          have h11' : (256 : Int) < (S : Int) := by omega
          clear HE1 y0
          have gB : V2.heap[w.heap.size]? = some (.cells #[(.bool false), (.int .i64 0), (.int .i8 0), (.int .i64 0), (.string ⟨#[]⟩), (.string ⟨#[]⟩), (.slice none 0 0)] 51 (0, 0)) := HG2.out
          have SV := Lib.hid (set_seven (.bool false) (.int .i64 0) (.int .i8 0) (.int .i64 0) (.string ⟨#[]⟩) (.string ⟨#[]⟩) (.slice none 0 0) gB)
          have q0 := cell_of_row (i := 0) gB rfl
          have f0 := free_of_row (i := 0) gB
          have q1 := cell_of_row (i := 1) gB rfl
          have f1 := free_of_row (i := 1) gB
          have q2 := cell_of_row (i := 2) gB rfl
          have f2 := free_of_row (i := 2) gB
          have q3 := cell_of_row (i := 3) gB rfl
          have f3 := free_of_row (i := 3) gB
          have q4 := cell_of_row (i := 4) gB rfl
          have f4 := free_of_row (i := 4) gB
          have q5 := cell_of_row (i := 5) gB rfl
          have f5 := free_of_row (i := 5) gB
          have q6 := cell_of_row (i := 6) gB rfl
          have f6 := free_of_row (i := 6) gB
          clear gB
          go_wp2_with fail
          obtain ⟨s7, m7⟩ := SV.out
          generalize ((((((V2.setCell ⟨w.heap.size, 0, none⟩ (.bool false)).setCell ⟨w.heap.size, 1, none⟩ (.int .i64 0)).setCell ⟨w.heap.size, 2, none⟩ (.int .i8 0)).setCell ⟨w.heap.size, 3, none⟩ (.int .i64 0)).setCell ⟨w.heap.size, 4, none⟩ (.string ⟨#[]⟩)).setCell ⟨w.heap.size, 5, none⟩ (.string ⟨#[]⟩)).setCell ⟨w.heap.size, 6, none⟩ (.slice none 0 0) = VX at s7 m7 ⊢
          have y0 := cell_of_row (i := 0) s7 rfl
          have y1 := cell_of_row (i := 1) s7 rfl
          have y2 := cell_of_row (i := 2) s7 rfl
          have y3 := cell_of_row (i := 3) s7 rfl
          have y4 := cell_of_row (i := 4) s7 rfl
          have y5 := cell_of_row (i := 5) s7 rfl
          have y6 := cell_of_row (i := 6) s7 rfl
          refine bodyPost_ret (v := .tuple #[word0, .int .i64 11]) (by simp [results, Tryz.f25, go_sem, word0, y0, y1, y2, y3, y4, y5, y6]) rfl (.inl ⟨by rw [HE0.out]; decide, by rw [HE0.out]; rfl, ?_⟩)
          exact HB2.out.trans (m7.below HB2.out.size (fun k (e : k = w.heap.size) => by omega))
        · have h11' : ¬ (256 : Int) < (S : Int) := by omega
          by_cases h20 : 1048576 ≤ s.cs.length
          · have HE0 : Hid (makeE s.cs L = 20) := HE1.out.trans ((if_neg h11).trans (if_pos h20))
            have h20' : (1048576 : Int) ≤ (s.cs.length : Int) := by omega
            clear HE1
            have gB : V2.heap[w.heap.size]? = some (.cells #[(.bool false), (.int .i64 0), (.int .i8 0), (.int .i64 0), (.string ⟨#[]⟩), (.string ⟨#[]⟩), (.slice none 0 0)] 51 (0, 0)) := HG2.out
            have SV := Lib.hid (set_seven (.bool false) (.int .i64 0) (.int .i8 0) (.int .i64 0) (.string ⟨#[]⟩) (.string ⟨#[]⟩) (.slice none 0 0) gB)
            have q0 := cell_of_row (i := 0) gB rfl
            have f0 := free_of_row (i := 0) gB
            have q1 := cell_of_row (i := 1) gB rfl
            have f1 := free_of_row (i := 1) gB
            have q2 := cell_of_row (i := 2) gB rfl
            have f2 := free_of_row (i := 2) gB
            have q3 := cell_of_row (i := 3) gB rfl
            have f3 := free_of_row (i := 3) gB
            have q4 := cell_of_row (i := 4) gB rfl
            have f4 := free_of_row (i := 4) gB
            have q5 := cell_of_row (i := 5) gB rfl
            have f5 := free_of_row (i := 5) gB
            have q6 := cell_of_row (i := 6) gB rfl
            have f6 := free_of_row (i := 6) gB
            clear gB
            go_wp2_with fail
            obtain ⟨s7, m7⟩ := SV.out
            generalize ((((((V2.setCell ⟨w.heap.size, 0, none⟩ (.bool false)).setCell ⟨w.heap.size, 1, none⟩ (.int .i64 0)).setCell ⟨w.heap.size, 2, none⟩ (.int .i8 0)).setCell ⟨w.heap.size, 3, none⟩ (.int .i64 0)).setCell ⟨w.heap.size, 4, none⟩ (.string ⟨#[]⟩)).setCell ⟨w.heap.size, 5, none⟩ (.string ⟨#[]⟩)).setCell ⟨w.heap.size, 6, none⟩ (.slice none 0 0) = VX at s7 m7 ⊢
            have y0 := cell_of_row (i := 0) s7 rfl
            have y1 := cell_of_row (i := 1) s7 rfl
            have y2 := cell_of_row (i := 2) s7 rfl
            have y3 := cell_of_row (i := 3) s7 rfl
            have y4 := cell_of_row (i := 4) s7 rfl
            have y5 := cell_of_row (i := 5) s7 rfl
            have y6 := cell_of_row (i := 6) s7 rfl
            refine bodyPost_ret (v := .tuple #[word0, .int .i64 20]) (by simp [results, Tryz.f25, go_sem, word0, y0, y1, y2, y3, y4, y5, y6]) rfl (.inl ⟨by rw [HE0.out]; decide, by rw [HE0.out]; rfl, ?_⟩)
            exact HB2.out.trans (m7.below HB2.out.size (fun k (e : k = w.heap.size) => by omega))
          · have HE0 : Hid (makeE s.cs L = 0) := HE1.out.trans ((if_neg h11).trans (if_neg h20))
            have h20' : decide ((1048576 : Int) ≤ (s.cs.length : Int)) = false := by rw [decide_eq_false_iff_not]; omega
            clear HE1
            have HADD := Lib.hid (hadd_any 7 L A cap P V2 (Nat.le_trans hbw HB2.out.size) (HH.out.under HB2.out) hrn HGS.out (HR.out.keep (fun b hb => HB2.out.block b (HP.out b hb).1) (fun _ h => h)) (fun b hb => ⟨Nat.lt_of_lt_of_le (HP.out b hb).1 HB2.out.size, (HP.out b hb).2⟩) HALL.out hll hws (by omega))
            clear h20 hcl
            go_wp2_with fail
            refine HADD.out.mono ?_
            rintro e V3 ⟨rfl, s', hcs, hws', hmv⟩
            have HMV := Lib.hid hmv
            have HCS := Lib.hid hcs
            have HWS := Lib.hid hws'
            have HC0 : Hid (s.Core base V2 w.heap.size) := HH.out.new HB2.out
            have hlt2 : w.heap.size < V2.heap.size := heap_lt HG2.out
            have HG3 := Lib.hid ((hmv.block hlt2 HC0.out (by have := HH.out.lt; omega)).trans HG2.out)
            clear hmv hcs hws' y0 hlt2
            unfold refV
            have gB : V3.heap[w.heap.size]? = some (.cells #[(.bool false), (.int .i64 0), (.int .i8 0), (.int .i64 0), (.string ⟨#[]⟩), (.string ⟨#[]⟩), (.slice none 0 0)] 51 (0, 0)) := HG3.out
            have SV := Lib.hid (set_seven (.bool true) (.int .i64 s.cs.length) (.int .i8 0) (.int .i64 0) (.string ⟨#[]⟩) (.string ⟨#[]⟩) (.slice none 0 0) gB)
            have q0 := cell_of_row (i := 0) gB rfl
            have f0 := free_of_row (i := 0) gB
            have q1 := cell_of_row (i := 1) gB rfl
            have f1 := free_of_row (i := 1) gB
            have q2 := cell_of_row (i := 2) gB rfl
            have f2 := free_of_row (i := 2) gB
            have q3 := cell_of_row (i := 3) gB rfl
            have f3 := free_of_row (i := 3) gB
            have q4 := cell_of_row (i := 4) gB rfl
            have f4 := free_of_row (i := 4) gB
            have q5 := cell_of_row (i := 5) gB rfl
            have f5 := free_of_row (i := 5) gB
            have q6 := cell_of_row (i := 6) gB rfl
            have f6 := free_of_row (i := 6) gB
            clear gB
            go_wp2_with fail
            obtain ⟨s7, m7⟩ := SV.out
            generalize ((((((V3.setCell ⟨w.heap.size, 0, none⟩ (.bool true)).setCell ⟨w.heap.size, 1, none⟩ (.int .i64 s.cs.length)).setCell ⟨w.heap.size, 2, none⟩ (.int .i8 0)).setCell ⟨w.heap.size, 3, none⟩ (.int .i64 0)).setCell ⟨w.heap.size, 4, none⟩ (.string ⟨#[]⟩)).setCell ⟨w.heap.size, 5, none⟩ (.string ⟨#[]⟩)).setCell ⟨w.heap.size, 6, none⟩ (.slice none 0 0) = VX at s7 m7 ⊢
            have y0 := cell_of_row (i := 0) s7 rfl
            have y1 := cell_of_row (i := 1) s7 rfl
            have y2 := cell_of_row (i := 2) s7 rfl
            have y3 := cell_of_row (i := 3) s7 rfl
            have y4 := cell_of_row (i := 4) s7 rfl
            have y5 := cell_of_row (i := 5) s7 rfl
            have y6 := cell_of_row (i := 6) s7 rfl
            refine bodyPost_ret (v := .tuple #[refV s.cs.length, .int .i64 0]) (by simp [results, Tryz.f25, go_sem, refV, y0, y1, y2, y3, y4, y5, y6]) rfl (.inr ⟨HE0.out, rfl, s', HCS.out, HWS.out, ?_⟩)
            exact (HMV.out.of_below HB2.out HH.out hrn).write HH.out.lt (Nat.le_refl _) (HMV.out.apart _ (heap_lt HG2.out) HC0.out) m7
  · have h7' : (k == 7) = false := by simpa using h7
    clear hc7 h7
    go_enter Tryz.func25, Tryz.ntmps25
    go_wp2_with fail
    rw [← hw1]
    clear hw1
    refine (HPA.out _).mono ?_
    rintro e V1 ⟨rfl, rfl⟩
    rw [HPK.out]
    go_wp2_with fail
    go_loopw [28] (fun i wr => ∃ j : Nat, j ≤ L.length ∧ i = .int .i64 j ∧ (∀ q ∈ L.take j, mayW s.cs.length q.c q.a q.x = true) ∧ Below w1.heap.size w1 wr)
      (fun i _ => L.length - (intOf i).toNat)
    case atStart => exact ⟨0, Nat.zero_le _, rfl, by simp, Below.refl _ _⟩
    case round =>
      obtain ⟨j, hj, rfl, hq, hB⟩ := hrel
      have HQ := Lib.hid hq
      have HB := Lib.hid hB
      have HW : Hid (Below w.heap.size w wr) := HB1.out.trans (hB.mono HB1.out.size)
      clear hq hB
      by_cases hlt : j < L.length
      · obtain ⟨y, hy⟩ : ∃ y, L[j]? = some y := ⟨L[j], List.getElem?_eq_getElem hlt⟩
        obtain ⟨ad, u, rfl, had, hE, hA⟩ := HRR.out.at_ j y hy
        have hEr : ElemW wr ad j u := hE.keep (HW.out.block ad.block had)
        obtain ⟨k', m, sx, tx, A3, len3, cap3, rfl, hT⟩ := hA
        obtain ⟨l3, hyx, rfl⟩ : ∃ l3, y.x = .mk k' m sx tx l3 ∧ len3 = l3.length := by
          generalize y.x = z at hT
          cases hT; exact ⟨_, rfl, rfl⟩
        rw [hyx] at hT
        obtain ⟨c0, c1, c2, c3, c4, c5, c6, hcc, e0, e1, e2, e3, e4, e5, e6⟩ := hEr
        simp only [Value.agg.injEq, Array.mk.injEq, List.cons.injEq, and_true] at hcc
        obtain ⟨rfl, rfl, rfl, rfl, rfl, rfl, rfl⟩ := hcc
        obtain ⟨wz, hwz⟩ : ∃ wz, wz = wr.alloc (.cells #[(.bool y.c), (.int .i64 y.a), (.int .i8 k'), (.int .i64 m), (.string sx), (.string tx), (.slice A3 l3.length cap3)] 51) := ⟨_, rfl⟩
        have bz : Below wr.heap.size wr wz := by rw [hwz]; exact (Below.refl _ _).alloc (Nat.le_refl _) _
        have gz : wz.heap[wr.heap.size]? = some (.cells #[(.bool y.c), (.int .i64 y.a), (.int .i8 k'), (.int .i64 m), (.string sx), (.string tx), (.slice A3 l3.length cap3)] 51 (0, 0)) := by rw [hwz]; exact block_alloc _ _
        have bwz : Below w.heap.size w wz := HW.out.trans (bz.mono HW.out.size)
        have b1z : Below w1.heap.size w1 wz := HB.out.trans (bz.mono HB.out.size)
        have HC := Lib.hid (HMay_any y.c y.a k' m sx tx l3 A3 cap3 wz (HeapAt.under HH.out bwz) (hT.later bwz) (HS.out.below bwz HS.out.lt))
        have HBZ := Lib.hid bwz
        have HB1Z := Lib.hid b1z
        have HYX := Lib.hid hyx
        have HY := Lib.hid hy
        have z0 : wz.cell? ⟨wr.heap.size, 0, none⟩ = some (.bool y.c) := cell_of_row gz rfl
        have z1 : wz.cell? ⟨wr.heap.size, 1, none⟩ = some (.int .i64 y.a) := cell_of_row gz rfl
        have z2 : wz.cell? ⟨wr.heap.size, 2, none⟩ = some (.int .i8 k') := cell_of_row gz rfl
        have z3 : wz.cell? ⟨wr.heap.size, 3, none⟩ = some (.int .i64 m) := cell_of_row gz rfl
        have z4 : wz.cell? ⟨wr.heap.size, 4, none⟩ = some (.string sx) := cell_of_row gz rfl
        have z5 : wz.cell? ⟨wr.heap.size, 5, none⟩ = some (.string tx) := cell_of_row gz rfl
        have z6 : wz.cell? ⟨wr.heap.size, 6, none⟩ = some (.slice A3 l3.length cap3) := cell_of_row gz rfl
        clear hE hT bz gz hy bwz b1z hyx
        go_wp2_with fail
        rw [← hwz]
        clear hwz
        refine HC.out.mono ?_
        rintro e w2 ⟨rfl, b2⟩
        have HB2 := Lib.hid (HBZ.out.trans (b2.mono HBZ.out.size))
        have HB12 := Lib.hid (HB1Z.out.trans (b2.mono HB1Z.out.size))
        clear b2 z0 z1 z2 z3 z4 z5 z6 e0 e1 e2 e3 e4 e5 e6
        cases hm : mayW s.cs.length y.c y.a (.mk k' m sx tx l3)
        · have hE0 : makeE s.cs L = 2 := by
            unfold makeE
            rw [if_neg]
            intro hall
            have := List.all_eq_true.1 hall y (List.mem_of_getElem? HY.out)
            rw [HYX.out, hm] at this
            exact absurd this (by decide)
          have HE0 := Lib.hid hE0
          clear hE0 hm
          have gB : w2.heap[w.heap.size]? = some (.cells #[(.bool false), (.int .i64 0), (.int .i8 0), (.int .i64 0), (.string ⟨#[]⟩), (.string ⟨#[]⟩), (.slice none 0 0)] 51 (0, 0)) := (HB12.out.block _ HLE.out).trans HR1.out
          have SV := Lib.hid (set_seven (.bool false) (.int .i64 0) (.int .i8 0) (.int .i64 0) (.string ⟨#[]⟩) (.string ⟨#[]⟩) (.slice none 0 0) gB)
          have q0 := cell_of_row (i := 0) gB rfl
          have f0 := free_of_row (i := 0) gB
          have q1 := cell_of_row (i := 1) gB rfl
          have f1 := free_of_row (i := 1) gB
          have q2 := cell_of_row (i := 2) gB rfl
          have f2 := free_of_row (i := 2) gB
          have q3 := cell_of_row (i := 3) gB rfl
          have f3 := free_of_row (i := 3) gB
          have q4 := cell_of_row (i := 4) gB rfl
          have f4 := free_of_row (i := 4) gB
          have q5 := cell_of_row (i := 5) gB rfl
          have f5 := free_of_row (i := 5) gB
          have q6 := cell_of_row (i := 6) gB rfl
          have f6 := free_of_row (i := 6) gB
          clear gB
          go_wp2_with fail
          obtain ⟨s7, m7⟩ := SV.out
          generalize ((((((w2.setCell ⟨w.heap.size, 0, none⟩ (.bool false)).setCell ⟨w.heap.size, 1, none⟩ (.int .i64 0)).setCell ⟨w.heap.size, 2, none⟩ (.int .i8 0)).setCell ⟨w.heap.size, 3, none⟩ (.int .i64 0)).setCell ⟨w.heap.size, 4, none⟩ (.string ⟨#[]⟩)).setCell ⟨w.heap.size, 5, none⟩ (.string ⟨#[]⟩)).setCell ⟨w.heap.size, 6, none⟩ (.slice none 0 0) = VX at s7 m7 ⊢
          have y0 := cell_of_row (i := 0) s7 rfl
          have y1 := cell_of_row (i := 1) s7 rfl
          have y2 := cell_of_row (i := 2) s7 rfl
          have y3 := cell_of_row (i := 3) s7 rfl
          have y4 := cell_of_row (i := 4) s7 rfl
          have y5 := cell_of_row (i := 5) s7 rfl
          have y6 := cell_of_row (i := 6) s7 rfl
          refine bodyPost_ret (v := .tuple #[word0, .int .i64 2]) (by simp [results, Tryz.f25, go_sem, word0, y0, y1, y2, y3, y4, y5, y6]) rfl (.inl ⟨by rw [HE0.out]; decide, by rw [HE0.out]; rfl, ?_⟩)
          exact HB2.out.trans (m7.below HB2.out.size (fun k (e : k = w.heap.size) => by omega))
        · have HM := Lib.hid hm
          clear hm
          go_wp2_with fail
          go_roundw
          case rel =>
            refine ⟨j + 1, by omega, by go_num, ?_, HB12.out⟩
            intro q hq
            rw [List.take_add_one, HY.out] at hq
            simp at hq
            rcases hq with hq | rfl
            · exact HQ.out q hq
            · rw [HYX.out]; exact HM.out
          case measure => simp [intOf]; omega
      · obtain rfl : j = L.length := by omega
        have hall : ∀ q ∈ L, mayW s.cs.length q.c q.a q.x = true := by
          have := HQ.out
          rwa [List.take_of_length_le (Nat.le_refl _)] at this
        have HSUM := Lib.hid (sum_any wr (HeapAt.under HH.out HW.out) HGS.out A L.length cap L (by omega) (HRR.out.later HW.out) hall)
        have hE0 : makeE s.cs L = if 256 < wsum s.cs (L.map AW.hw) then 11 else if 1048576 ≤ s.cs.length then 20 else 0 := by
          unfold makeE
          rw [if_pos (List.all_eq_true.2 hall)]
        have HE1 := Lib.hid hE0
        have HALL := Lib.hid hall
        have hbz : wsum s.cs (L.map AW.hw) ≤ 1000000000 := by
          have := wsum_le HGS.out (L.map AW.hw)
          have h2 : (L.map AW.hw).length = L.length := by simp
          omega
        clear hE0 hall
        generalize hsm : wsum s.cs (L.map AW.hw) = S at HSUM HE1 hbz
        clear hsm
        go_wp2_with fail
        refine HSUM.out.mono ?_
        rintro e V2 ⟨rfl, b2⟩
        have HB2 := Lib.hid (HW.out.trans (b2.mono HW.out.size))
        have HB12 := Lib.hid (HB.out.trans (b2.mono HB.out.size))
        have HG2 := Lib.hid ((HB12.out.block _ HLE.out).trans HR1.out)
        clear b2
        obtain ⟨CA, ccap, hsh⟩ := HeapAt.shape HH.out
        have y0 : V2.cell? ⟨hb, 0, none⟩ = some (.slice CA s.cs.length ccap) := hsh ▸ cell_of_row (HH.out.under HB2.out).bx rfl
        clear hsh
        by_cases h11 : 256 < S
        · have HE0 : Hid (makeE s.cs L = 11) := HE1.out.trans (if_pos h11)
          have h11' : (256 : Int) < (S : Int) := by omega
          clear HE1 y0
          have gB : V2.heap[w.heap.size]? = some (.cells #[(.bool false), (.int .i64 0), (.int .i8 0), (.int .i64 0), (.string ⟨#[]⟩), (.string ⟨#[]⟩), (.slice none 0 0)] 51 (0, 0)) := HG2.out
          have SV := Lib.hid (set_seven (.bool false) (.int .i64 0) (.int .i8 0) (.int .i64 0) (.string ⟨#[]⟩) (.string ⟨#[]⟩) (.slice none 0 0) gB)
          have q0 := cell_of_row (i := 0) gB rfl
          have f0 := free_of_row (i := 0) gB
          have q1 := cell_of_row (i := 1) gB rfl
          have f1 := free_of_row (i := 1) gB
          have q2 := cell_of_row (i := 2) gB rfl
          have f2 := free_of_row (i := 2) gB
          have q3 := cell_of_row (i := 3) gB rfl
          have f3 := free_of_row (i := 3) gB
          have q4 := cell_of_row (i := 4) gB rfl
          have f4 := free_of_row (i := 4) gB
          have q5 := cell_of_row (i := 5) gB rfl
          have f5 := free_of_row (i := 5) gB
          have q6 := cell_of_row (i := 6) gB rfl
          have f6 := free_of_row (i := 6) gB
          clear gB
          go_wp2_with fail
          obtain ⟨s7, m7⟩ := SV.out
          generalize ((((((V2.setCell ⟨w.heap.size, 0, none⟩ (.bool false)).setCell ⟨w.heap.size, 1, none⟩ (.int .i64 0)).setCell ⟨w.heap.size, 2, none⟩ (.int .i8 0)).setCell ⟨w.heap.size, 3, none⟩ (.int .i64 0)).setCell ⟨w.heap.size, 4, none⟩ (.string ⟨#[]⟩)).setCell ⟨w.heap.size, 5, none⟩ (.string ⟨#[]⟩)).setCell ⟨w.heap.size, 6, none⟩ (.slice none 0 0) = VX at s7 m7 ⊢
          have y0 := cell_of_row (i := 0) s7 rfl
          have y1 := cell_of_row (i := 1) s7 rfl
          have y2 := cell_of_row (i := 2) s7 rfl
          have y3 := cell_of_row (i := 3) s7 rfl
          have y4 := cell_of_row (i := 4) s7 rfl
          have y5 := cell_of_row (i := 5) s7 rfl
          have y6 := cell_of_row (i := 6) s7 rfl
          refine bodyPost_ret (v := .tuple #[word0, .int .i64 11]) (by simp [results, Tryz.f25, go_sem, word0, y0, y1, y2, y3, y4, y5, y6]) rfl (.inl ⟨by rw [HE0.out]; decide, by rw [HE0.out]; rfl, ?_⟩)
          exact HB2.out.trans (m7.below HB2.out.size (fun k (e : k = w.heap.size) => by omega))
        · have h11' : ¬ (256 : Int) < (S : Int) := by omega
          by_cases h20 : 1048576 ≤ s.cs.length
          · have HE0 : Hid (makeE s.cs L = 20) := HE1.out.trans ((if_neg h11).trans (if_pos h20))
            have h20' : (1048576 : Int) ≤ (s.cs.length : Int) := by omega
            clear HE1
            have gB : V2.heap[w.heap.size]? = some (.cells #[(.bool false), (.int .i64 0), (.int .i8 0), (.int .i64 0), (.string ⟨#[]⟩), (.string ⟨#[]⟩), (.slice none 0 0)] 51 (0, 0)) := HG2.out
            have SV := Lib.hid (set_seven (.bool false) (.int .i64 0) (.int .i8 0) (.int .i64 0) (.string ⟨#[]⟩) (.string ⟨#[]⟩) (.slice none 0 0) gB)
            have q0 := cell_of_row (i := 0) gB rfl
            have f0 := free_of_row (i := 0) gB
            have q1 := cell_of_row (i := 1) gB rfl
            have f1 := free_of_row (i := 1) gB
            have q2 := cell_of_row (i := 2) gB rfl
            have f2 := free_of_row (i := 2) gB
            have q3 := cell_of_row (i := 3) gB rfl
            have f3 := free_of_row (i := 3) gB
            have q4 := cell_of_row (i := 4) gB rfl
            have f4 := free_of_row (i := 4) gB
            have q5 := cell_of_row (i := 5) gB rfl
            have f5 := free_of_row (i := 5) gB
            have q6 := cell_of_row (i := 6) gB rfl
            have f6 := free_of_row (i := 6) gB
            clear gB
            go_wp2_with fail
            obtain ⟨s7, m7⟩ := SV.out
            generalize ((((((V2.setCell ⟨w.heap.size, 0, none⟩ (.bool false)).setCell ⟨w.heap.size, 1, none⟩ (.int .i64 0)).setCell ⟨w.heap.size, 2, none⟩ (.int .i8 0)).setCell ⟨w.heap.size, 3, none⟩ (.int .i64 0)).setCell ⟨w.heap.size, 4, none⟩ (.string ⟨#[]⟩)).setCell ⟨w.heap.size, 5, none⟩ (.string ⟨#[]⟩)).setCell ⟨w.heap.size, 6, none⟩ (.slice none 0 0) = VX at s7 m7 ⊢
            have y0 := cell_of_row (i := 0) s7 rfl
            have y1 := cell_of_row (i := 1) s7 rfl
            have y2 := cell_of_row (i := 2) s7 rfl
            have y3 := cell_of_row (i := 3) s7 rfl
            have y4 := cell_of_row (i := 4) s7 rfl
            have y5 := cell_of_row (i := 5) s7 rfl
            have y6 := cell_of_row (i := 6) s7 rfl
            refine bodyPost_ret (v := .tuple #[word0, .int .i64 20]) (by simp [results, Tryz.f25, go_sem, word0, y0, y1, y2, y3, y4, y5, y6]) rfl (.inl ⟨by rw [HE0.out]; decide, by rw [HE0.out]; rfl, ?_⟩)
            exact HB2.out.trans (m7.below HB2.out.size (fun k (e : k = w.heap.size) => by omega))
          · have HE0 : Hid (makeE s.cs L = 0) := HE1.out.trans ((if_neg h11).trans (if_neg h20))
            have h20' : decide ((1048576 : Int) ≤ (s.cs.length : Int)) = false := by rw [decide_eq_false_iff_not]; omega
            clear HE1
            have HADD := Lib.hid (hadd_any k L A cap P V2 (Nat.le_trans hbw HB2.out.size) (HH.out.under HB2.out) hrn HGS.out (HR.out.keep (fun b hb => HB2.out.block b (HP.out b hb).1) (fun _ h => h)) (fun b hb => ⟨Nat.lt_of_lt_of_le (HP.out b hb).1 HB2.out.size, (HP.out b hb).2⟩) HALL.out hll hws (by omega))
            clear h20 hcl
            go_wp2_with fail
            refine HADD.out.mono ?_
            rintro e V3 ⟨rfl, s', hcs, hws', hmv⟩
            have HMV := Lib.hid hmv
            have HCS := Lib.hid hcs
            have HWS := Lib.hid hws'
            have HC0 : Hid (s.Core base V2 w.heap.size) := HH.out.new HB2.out
            have hlt2 : w.heap.size < V2.heap.size := heap_lt HG2.out
            have HG3 := Lib.hid ((hmv.block hlt2 HC0.out (by have := HH.out.lt; omega)).trans HG2.out)
            clear hmv hcs hws' y0 hlt2
            unfold refV
            have gB : V3.heap[w.heap.size]? = some (.cells #[(.bool false), (.int .i64 0), (.int .i8 0), (.int .i64 0), (.string ⟨#[]⟩), (.string ⟨#[]⟩), (.slice none 0 0)] 51 (0, 0)) := HG3.out
            have SV := Lib.hid (set_seven (.bool true) (.int .i64 s.cs.length) (.int .i8 0) (.int .i64 0) (.string ⟨#[]⟩) (.string ⟨#[]⟩) (.slice none 0 0) gB)
            have q0 := cell_of_row (i := 0) gB rfl
            have f0 := free_of_row (i := 0) gB
            have q1 := cell_of_row (i := 1) gB rfl
            have f1 := free_of_row (i := 1) gB
            have q2 := cell_of_row (i := 2) gB rfl
            have f2 := free_of_row (i := 2) gB
            have q3 := cell_of_row (i := 3) gB rfl
            have f3 := free_of_row (i := 3) gB
            have q4 := cell_of_row (i := 4) gB rfl
            have f4 := free_of_row (i := 4) gB
            have q5 := cell_of_row (i := 5) gB rfl
            have f5 := free_of_row (i := 5) gB
            have q6 := cell_of_row (i := 6) gB rfl
            have f6 := free_of_row (i := 6) gB
            clear gB
            go_wp2_with fail
            obtain ⟨s7, m7⟩ := SV.out
            generalize ((((((V3.setCell ⟨w.heap.size, 0, none⟩ (.bool true)).setCell ⟨w.heap.size, 1, none⟩ (.int .i64 s.cs.length)).setCell ⟨w.heap.size, 2, none⟩ (.int .i8 0)).setCell ⟨w.heap.size, 3, none⟩ (.int .i64 0)).setCell ⟨w.heap.size, 4, none⟩ (.string ⟨#[]⟩)).setCell ⟨w.heap.size, 5, none⟩ (.string ⟨#[]⟩)).setCell ⟨w.heap.size, 6, none⟩ (.slice none 0 0) = VX at s7 m7 ⊢
            have y0 := cell_of_row (i := 0) s7 rfl
            have y1 := cell_of_row (i := 1) s7 rfl
            have y2 := cell_of_row (i := 2) s7 rfl
            have y3 := cell_of_row (i := 3) s7 rfl
            have y4 := cell_of_row (i := 4) s7 rfl
            have y5 := cell_of_row (i := 5) s7 rfl
            have y6 := cell_of_row (i := 6) s7 rfl
            refine bodyPost_ret (v := .tuple #[refV s.cs.length, .int .i64 0]) (by simp [results, Tryz.f25, go_sem, refV, y0, y1, y2, y3, y4, y5, y6]) rfl (.inr ⟨HE0.out, rfl, s', HCS.out, HWS.out, ?_⟩)
            exact (HMV.out.of_below HB2.out HH.out hrn).write HH.out.lt (Nat.le_refl _) (HMV.out.apart _ (heap_lt HG2.out) HC0.out) m7
end Go.Proofs.YtaemfjmmklpjeaaGreatDoor
