/- The document's own answers of layer 3: count, Check, Size, Int. -/
import Derived.Test.YtphfekcacaaabaaDoorRef03B
set_option linter.unusedVariables false
namespace Go.Proofs.YtphfekcacaaabaaDoor
open Go.RowKit

theorem pre_parts {k n : Int} {s t : ByteArray} {l : List Tm} {j : Nat} {y : Tm} (hy : l[j]? = some y) : (Tm.mk k n s t l).pre = (Tm.mk k n s t l :: Tm.pres (l.take j)) ++ (y.pre ++ Tm.pres (l.drop (j + 1))) := by
  have hl : l = l.take j ++ (y :: l.drop (j + 1)) := by
    obtain ⟨h, e⟩ := List.getElem?_eq_some_iff.1 hy
    rw [← e, List.getElem_cons_drop, List.take_append_drop]
  rw [show (Tm.mk k n s t l).pre = Tm.mk k n s t l :: Tm.pres l by rw [Tm.pre]]
  have h2 : Tm.pres l = Tm.pres (l.take j) ++ (y.pre ++ Tm.pres (l.drop (j + 1))) := by
    have h3 := Tm.pres_append_cons (l.take j) (l.drop (j + 1)) y
    rw [← hl] at h3
    exact h3
  rw [h2, List.cons_append]
theorem all_take_left {a b : List Tm} {m : Nat} (h : ((a ++ b).take m).all okB = true) : (a.take m).all okB = true := by
  rw [List.take_append, List.all_append, Bool.and_eq_true] at h; exact h.1

/-- What count answers. -/
def CountP (x : Tm) (most : Nat) (w : World) (e : Ending) (w' : World) : Prop :=
  ∃ q : Nat, e = .returned (.tuple #[.int .i64 q, .bool ((x.pre.take most).all okB)]) ∧ ((x.pre.take most).all okB = true → q = min x.nodes most) ∧ 1 ≤ q ∧ q ≤ most ∧ Below w.heap.size w w'

set_option maxHeartbeats 4000000 in
set_option maxRecDepth 100000 in
theorem count_any (x : Tm) : ∀ (v : Value) (most : Nat) (w : World), TmAt (· < w.heap.size) w x v → 1 ≤ most → most ≤ 1000000 →
    Calls Tryd.prog 42 #[v, .int .i64 most] w (CountP x most w) := by
  induction x using Tm.ind with
  | h k n s t l ih =>
    intro v most w hT h1 hmost
    obtain ⟨A, cap, rfl, hR, hk, hn, hs, ht⟩ := hT.parts
    have hlen := hR.max
    have HR := Lib.hid hR
    have HIH := Lib.hid ih
    clear hR ih hT hk hn
    obtain ⟨w1, hw1⟩ : ∃ w1, w1 = w.alloc (.cells #[.int .i8 k, .int .i64 n, .string s, .string t, .slice A l.length cap] 25) := ⟨_, rfl⟩
    have hB1 : Below w.heap.size w w1 := by rw [hw1]; exact (Below.refl _ w).alloc (Nat.le_refl _) _
    have hbox : w1.heap[w.heap.size]? = some (.cells #[.int .i8 k, .int .i64 n, .string s, .string t, .slice A l.length cap] 25 (0, 0)) := by rw [hw1]; exact block_alloc _ _
    have HO := Lib.hid (rone_any k n s t A l.length cap hs ht w1)
    have x0 : w1.cell? ⟨w.heap.size, 0, none⟩ = some (.int .i8 k) := cell_of_row hbox rfl
    have x1 : w1.cell? ⟨w.heap.size, 1, none⟩ = some (.int .i64 n) := cell_of_row hbox rfl
    have x2 : w1.cell? ⟨w.heap.size, 2, none⟩ = some (.string s) := cell_of_row hbox rfl
    have x3 : w1.cell? ⟨w.heap.size, 3, none⟩ = some (.string t) := cell_of_row hbox rfl
    have x4 : w1.cell? ⟨w.heap.size, 4, none⟩ = some (.slice A l.length cap) := cell_of_row hbox rfl
    have HB1 := Lib.hid hB1
    have HX1 := Lib.hid hbox
    clear hB1 hbox hs ht
    unfold maxLen at hlen
    have hpm : ∃ rest, (Tm.mk k n s t l).pre.take most = Tm.mk k n s t l :: rest := by
      obtain ⟨m', rfl⟩ : ∃ m', most = m' + 1 := ⟨most - 1, by omega⟩
      exact ⟨(Tm.pres l).take m', by rw [Tm.pre]; rfl⟩
    have HPM := Lib.hid hpm
    clear hpm
    go_enter Tryd.func42, Tryd.ntmps42
    go_wp2_with fail
    rw [← hw1]
    clear hw1
    go_wp2_with fail
    refine HO.out.mono ?_
    rintro e w2 ⟨rfl, b2⟩
    have HB2 := Lib.hid (HB1.out.trans (b2.mono HB1.out.size))
    have HX2 := Lib.hid ((b2.block _ (heap_lt HX1.out)).trans HX1.out)
    clear b2 x0 x1 x2 x3 x4 HO
    cases hok : okN k n s t l.length
    · have hall : ((Tm.mk k n s t l).pre.take most).all okB = false := by
        obtain ⟨rest, e⟩ := HPM.out
        rw [e, List.all_cons, show okB (Tm.mk k n s t l) = false from hok, Bool.false_and]
      have HAL := Lib.hid hall
      clear hall hok
      go_wp2_with fail
      go_ret2
      refine ⟨1, by rw [HAL.out]; rfl, fun h => ?_, by omega, by omega, HB2.out⟩
      rw [HAL.out] at h
      cases h
    · have HOK : Hid (okB (Tm.mk k n s t l) = true) := hok
      have HLT : Hid (w.heap.size < w2.heap.size) := heap_lt HX2.out
      clear hok
      go_wp2_with fail
      go_loopw [6, 7] (fun r i wr => ∃ j : Nat, j ≤ l.length ∧ i = .int .i64 j ∧ (∃ q : Nat, r = .int .i64 q ∧ q = min (1 + (Tm.pres (l.take j)).length) most ∧ ((Tm.mk k n s t l :: Tm.pres (l.take j)).take most).all okB = true) ∧ Below w2.heap.size w2 wr) (fun _ i _ => l.length - (intOf i).toNat)
      case atStart =>
        refine ⟨0, Nat.zero_le _, rfl, ⟨1, rfl, by simp [Tm.pres]; omega, ?_⟩, Below.refl _ _⟩
        obtain ⟨m', rfl⟩ : ∃ m', most = m' + 1 := ⟨most - 1, by omega⟩
        simp [Tm.pres, HOK.out]
      case round =>
        obtain ⟨j, hj, rfl, ⟨q, rfl, hq, hal⟩, hB⟩ := hrel
        have hbw := (hB.block w.heap.size HLT.out).trans HX2.out
        have hc4 : wr.cell? ⟨w.heap.size, 4, none⟩ = some (.slice A l.length cap) := cell_of_row hbw rfl
        have hq1 : 1 ≤ q := by omega
        have hq2 : q ≤ most := by omega
        have HQ := Lib.hid hq
        have HAL := Lib.hid hal
        have HB := Lib.hid hB
        have HW : Hid (Below w.heap.size w wr) := HB2.out.trans (hB.mono HB2.out.size)
        clear hq hB hbw hal
        by_cases hlt : j < l.length
        · obtain ⟨y, hy⟩ : ∃ y, l[j]? = some y := ⟨l[j], List.getElem?_eq_getElem hlt⟩
          have HPP := Lib.hid (pre_parts (k := k) (n := n) (s := s) (t := t) hy)
          by_cases hm : q < most
          · obtain ⟨ad, u, rfl, had, hE, hTy⟩ := HR.out.at_ j y hy
            have hEr : ElemAt wr ad j u := hE.keep (HW.out.block ad.block had)
            have hTr : TmAt (· < wr.heap.size) wr y u := hTy.later HW.out
            obtain ⟨c0, c1, c2, c3, c4, rfl, e0, e1, e2, e3, e4⟩ := hEr
            have hmem := List.mem_of_getElem? hy
            have HY := Lib.hid hy
            have he : (most : Int) - q = ((most - q : Nat) : Int) := by omega
            have HC := Lib.hid (HIH.out y hmem _ (most - q) wr hTr (by omega) (by omega))
            rw [← he] at HC
            have hql : q = 1 + (Tm.pres (l.take j)).length := by have := HQ.out; omega
            have HQL := Lib.hid hql
            clear hE hTy hy hTr hmem hql he
            go_wp2_with fail
            refine HC.out.mono ?_
            rintro e w3 ⟨z, rfl, hz, hz1, hz2, b3⟩
            have HZ := Lib.hid hz
            have HB3 := Lib.hid (HB.out.trans (b3.mono HB.out.size))
            clear hz b3 e0 e1 e2 e3 e4 hc4
            have htk : ((Tm.mk k n s t l).pre.take most) = (Tm.mk k n s t l :: Tm.pres (l.take j)) ++ ((y.pre.take (most - q)) ++ (Tm.pres (l.drop (j + 1))).take (most - q - y.pre.length)) := by
              rw [HPP.out, List.take_append, List.take_of_length_le (by have := HQL.out; simp; omega), List.take_append]
              rw [show (Tm.mk k n s t l :: Tm.pres (l.take j)).length = q by have := HQL.out; simp; omega]
            have HTK := Lib.hid htk
            clear htk
            cases hby : (y.pre.take (most - q)).all okB
            · have hall : ((Tm.mk k n s t l).pre.take most).all okB = false := by
                rw [HTK.out, List.all_append, List.all_append, hby, Bool.false_and, Bool.and_false]
              have HALL := Lib.hid hall
              clear hall hby
              go_wp2_with fail
              go_ret2
              refine ⟨q, (show Ending.returned (.tuple #[.int .i64 (q : Int), .bool false]) = _ by rw [HALL.out]), fun h => ?_, hq1, hq2, HB2.out.trans (HB3.out.mono HB2.out.size)⟩
              rw [HALL.out] at h
              cases h
            · have hzv := HZ.out hby
              have hr : q + z = min (1 + (Tm.pres (l.take (j + 1))).length) most := by
                rw [Tm.pres_take_succ HY.out, List.length_append, hzv]
                have := HQL.out
                unfold Tm.nodes
                omega
              have hal2 : ((Tm.mk k n s t l :: Tm.pres (l.take (j + 1))).take most).all okB = true := by
                rw [Tm.pres_take_succ HY.out, ← List.cons_append, List.take_append, List.all_append, HAL.out, Bool.true_and]
                rw [show (Tm.mk k n s t l :: Tm.pres (l.take j)).length = q by have := HQL.out; simp; omega]
                exact hby
              have HRR := Lib.hid hr
              have HA2 := Lib.hid hal2
              clear hr hal2 hzv hby
              go_wp2_with fail
              go_roundw
              case rel => exact ⟨j + 1, by omega, by go_num, ⟨q + z, by go_num, HRR.out, HA2.out⟩, HB3.out⟩
              case measure => simp [intOf]; omega
          · have hqm : q = most := by omega
            clear hy
            go_wp2_with fail
            go_ret2
            have hge : most ≤ (Tm.mk k n s t l :: Tm.pres (l.take j)).length := by have := HQ.out; simp; omega
            have hte : (Tm.mk k n s t l).pre.take most = (Tm.mk k n s t l :: Tm.pres (l.take j)).take most := by
              rw [HPP.out, List.take_append_of_le_length hge]
            have hall : ((Tm.mk k n s t l).pre.take most).all okB = true := by rw [hte]; exact HAL.out
            refine ⟨q, (show Ending.returned (.tuple #[.int .i64 (q : Int), .bool true]) = _ by rw [hall]), fun _ => ?_, hq1, hq2, HW.out⟩
            have h2 : most ≤ (Tm.mk k n s t l).nodes := by
              unfold Tm.nodes
              rw [HPP.out, List.length_append]
              omega
            omega
        · obtain rfl : j = l.length := by omega
          go_wp2_with fail
          go_ret2
          have h2 := HAL.out
          have h3 := HQ.out
          rw [List.take_length] at h2 h3
          have h4 : (Tm.mk k n s t l).pre = Tm.mk k n s t l :: Tm.pres l := by rw [Tm.pre]
          refine ⟨q, (show Ending.returned (.tuple #[.int .i64 (q : Int), .bool true]) = _ by rw [h4, h2]), fun _ => ?_, hq1, hq2, HW.out⟩
          unfold Tm.nodes
          rw [h4, h3]
          simp; omega

set_option maxHeartbeats 2000000 in
set_option maxRecDepth 100000 in
theorem rCheck_any (x : Tm) (v : Value) (w : World) (hT : TmAt (· < w.heap.size) w x v) : Calls Tryd.prog 17 #[v] w fun e w' => e = .returned (.int .i64 (checkN x)) ∧ Below w.heap.size w w' := by
  obtain ⟨k, n, s, t, l⟩ := x
  obtain ⟨A, cap, rfl, -⟩ := hT.parts
  obtain ⟨w1, hw1⟩ : ∃ w1, w1 = w.alloc (.cells #[.int .i8 k, .int .i64 n, .string s, .string t, .slice A l.length cap] 25) := ⟨_, rfl⟩
  have hB1 : Below w.heap.size w w1 := by rw [hw1]; exact (Below.refl _ w).alloc (Nat.le_refl _) _
  have hbox : w1.heap[w.heap.size]? = some (.cells #[.int .i8 k, .int .i64 n, .string s, .string t, .slice A l.length cap] 25 (0, 0)) := by rw [hw1]; exact block_alloc _ _
  have HC := Lib.hid (count_any _ _ 257 w1 (hT.later hB1) (by decide) (by decide))
  rw [show ((257 : Nat) : Int) = 257 from rfl] at HC
  have x0 : w1.cell? ⟨w.heap.size, 0, none⟩ = some (.int .i8 k) := cell_of_row hbox rfl
  have x1 : w1.cell? ⟨w.heap.size, 1, none⟩ = some (.int .i64 n) := cell_of_row hbox rfl
  have x2 : w1.cell? ⟨w.heap.size, 2, none⟩ = some (.string s) := cell_of_row hbox rfl
  have x3 : w1.cell? ⟨w.heap.size, 3, none⟩ = some (.string t) := cell_of_row hbox rfl
  have x4 : w1.cell? ⟨w.heap.size, 4, none⟩ = some (.slice A l.length cap) := cell_of_row hbox rfl
  have HB1 := Lib.hid hB1
  clear hT hB1 hbox
  go_enter Tryd.func17, Tryd.ntmps17
  go_wp2_with fail
  rw [← hw1]
  clear hw1
  go_wp2_with fail
  refine HC.out.mono ?_
  rintro e w2 ⟨q, rfl, hq, h1, h2, b2⟩
  have HB2 := Lib.hid (HB1.out.trans (b2.mono HB1.out.size))
  clear b2 x0 x1 x2 x3 x4
  cases hall : ((Tm.mk k n s t l).pre.take 257).all okB
  · have HV : Hid (checkN (.mk k n s t l) = 30) := by unfold checkN; rw [hall]; rfl
    clear hq hall
    go_wp2_with fail
    go_ret
    exact ⟨ret_int HV.out.symm, HB2.out⟩
  · have hq := hq hall
    have HV : Hid (checkN (.mk k n s t l) = if 256 < (Tm.mk k n s t l).nodes then 11 else 0) := by unfold checkN; rw [hall]; rfl
    by_cases hn : 256 < (Tm.mk k n s t l).nodes
    · have HV2 : Hid (checkN (.mk k n s t l) = 11) := HV.out.trans (if_pos hn)
      have hq' : (256 : Int) < (q : Int) := by omega
      clear hq hall hn
      go_wp2_with fail
      go_ret
      exact ⟨ret_int HV2.out.symm, HB2.out⟩
    · have HV2 : Hid (checkN (.mk k n s t l) = 0) := HV.out.trans (if_neg hn)
      have hq' : ¬ (256 : Int) < (q : Int) := by omega
      clear hq hall hn
      go_wp2_with fail
      go_ret
      exact ⟨ret_int HV2.out.symm, HB2.out⟩

set_option maxHeartbeats 2000000 in
set_option maxRecDepth 100000 in
theorem rSize_any (x : Tm) (v : Value) (w : World) (hT : TmAt (· < w.heap.size) w x v) : Calls Tryd.prog 20 #[v] w fun e w' => e = .returned (.int .i64 (min x.nodes 257 : Nat)) ∧ Below w.heap.size w w' := by
  obtain ⟨k, n, s, t, l⟩ := x
  obtain ⟨A, cap, rfl, -⟩ := hT.parts
  obtain ⟨w1, hw1⟩ : ∃ w1, w1 = w.alloc (.cells #[.int .i8 k, .int .i64 n, .string s, .string t, .slice A l.length cap] 25) := ⟨_, rfl⟩
  have hB1 : Below w.heap.size w w1 := by rw [hw1]; exact (Below.refl _ w).alloc (Nat.le_refl _) _
  have hbox : w1.heap[w.heap.size]? = some (.cells #[.int .i8 k, .int .i64 n, .string s, .string t, .slice A l.length cap] 25 (0, 0)) := by rw [hw1]; exact block_alloc _ _
  have HC := Lib.hid (rsize_any _ _ 257 w1 (hT.later hB1) (by decide) (by decide))
  rw [show ((257 : Nat) : Int) = 257 from rfl] at HC
  have x0 : w1.cell? ⟨w.heap.size, 0, none⟩ = some (.int .i8 k) := cell_of_row hbox rfl
  have x1 : w1.cell? ⟨w.heap.size, 1, none⟩ = some (.int .i64 n) := cell_of_row hbox rfl
  have x2 : w1.cell? ⟨w.heap.size, 2, none⟩ = some (.string s) := cell_of_row hbox rfl
  have x3 : w1.cell? ⟨w.heap.size, 3, none⟩ = some (.string t) := cell_of_row hbox rfl
  have x4 : w1.cell? ⟨w.heap.size, 4, none⟩ = some (.slice A l.length cap) := cell_of_row hbox rfl
  have HB1 := Lib.hid hB1
  clear hT hB1 hbox
  go_enter Tryd.func20, Tryd.ntmps20
  go_wp2_with fail
  rw [← hw1]
  clear hw1
  go_wp2_with fail
  refine HC.out.mono ?_
  rintro e w2 ⟨rfl, b2⟩
  have HB2 := Lib.hid (HB1.out.trans (b2.mono HB1.out.size))
  obtain ⟨q, hq⟩ : ∃ q, q = min (Tm.mk k n s t l).nodes 257 := ⟨_, rfl⟩
  have hq2 : q ≤ 257 := by omega
  rw [← hq]
  have HQ := Lib.hid hq
  clear b2 x0 x1 x2 x3 x4 hq
  go_wp2_with fail
  go_ret
  refine ⟨ret_int ?_, HB2.out⟩
  have := HQ.out
  omega

set_option maxHeartbeats 2000000 in
set_option maxRecDepth 100000 in
theorem rInt_any (n : Int) (w : World) : Calls Tryd.prog 59 #[.int .i64 n] w fun e w' => e = .returned (.agg #[.int .i8 0, .int .i64 n, .string ⟨#[]⟩, .string ⟨#[]⟩, .slice none 0 0]) ∧ Below w.heap.size w w' := by
  go_enter Tryd.func59, Tryd.ntmps59
  go_wp2_with fail
  refine bodyPost_ret (v := .agg #[.int .i8 0, .int .i64 n, .string ⟨#[]⟩, .string ⟨#[]⟩, .slice none 0 0]) (by simp [results, Tryd.f59, go_sem]) rfl ⟨rfl, ?_⟩
  exact (Below.refl _ w).alloc (Nat.le_refl _) _
end Go.Proofs.YtphfekcacaaabaaDoor
