/- pleachlaw04.great: a contract. -/
import Derived.Test.YtphfekcacaaabaaDoorOpenA
import Derived.Test.YtphfekcacaaabaaDoorBoxes
import Derived.LoopTactic
import Derived.LoopNIn
set_option linter.unusedVariables false
namespace Go.Proofs.YtphfekcacaaabaaDoor
open Go.RowKit

set_option maxHeartbeats 4000000 in
set_option maxRecDepth 100000 in
theorem greatA_any (A : Option Addr) (n cap : Nat) (l : List PAct) (w : World) (hR : ARow w.heap.size w A n cap l) :
    Calls Tryd.prog 21 #[.slice A n cap] w (NoThen (∀ a ∈ l, a.L.length ≤ 400) w) := by
  have hlen := hR.max
  have hll := hR.len
  unfold maxLen at hlen
  have HR := Lib.hid hR
  have HL := Lib.hid hll
  clear hR hll
  go_enter Tryd.func21, Tryd.ntmps21
  go_wp2_with fail
  go_loopw [3, 4] (fun r i wr => ∃ j : Nat, j ≤ n ∧ i = .int .i64 j ∧ (∃ q : Nat, r = .int .i64 q ∧ q ≤ 9223372036854775807) ∧ (∀ a ∈ l.take j, a.L.length ≤ 400) ∧ Below w.heap.size w wr) (fun _ i _ => n - (intOf i).toNat)
  case atStart => exact ⟨0, Nat.zero_le _, rfl, ⟨n, rfl, by omega⟩, fun a h => by simp at h, Below.refl _ _⟩
  case round =>
    obtain ⟨j, hj, rfl, ⟨q, rfl, hq⟩, hA, hB⟩ := hrel
    have HA := Lib.hid hA
    have HB := Lib.hid hB
    clear hA hB
    by_cases hlt : j < n
    · by_cases hm : q ≤ 300
      · obtain ⟨y, hy⟩ : ∃ y, l[j]? = some y := ⟨l[j]'(by have := HL.out; omega), List.getElem?_eq_getElem _⟩
        obtain ⟨ad, rfl, had, hE⟩ := HR.out.at_ j y hy
        obtain ⟨k, nn, s, t, tl, TA, tc, LA, Lc, k2, n2, s2, t2, l2, A2, cap2, ex, eq, hr, hT1, hW, hWm, hT2⟩ := hE
        have HRW := Lib.hid hr
        have HT1 := Lib.hid hT1
        have HW := Lib.hid hW
        have HT2 := Lib.hid hT2
        have HY := Lib.hid hy
        have HAD : Hid (ad.block < w.heap.size) := had
        clear hr hT1 hW hT2 hy ex eq
        obtain ⟨d0, d1, d2, d3, d4, d5, d6, d7, d8, d9, d10, d11, d12, d13, d14, d15⟩ := HRW.out.keep (HB.out.block ad.block HAD.out)
        obtain ⟨z, hz, hzm⟩ : ∃ z : Nat, wrap64 (↑q + wrap64 ((y.L.length : Int) / 4)) = (z : Int) ∧ z ≤ 9223372036854775807 := by
          unfold maxLen at hWm
          refine ⟨q + y.L.length / 4, ?_, by omega⟩
          unfold wrap64
          omega
        go_wp2_with fail
        rw [hz]
        refine (Great_any _ _ wr (HT1.out.keep (fun b hb => HB.out.block b hb) (fun b hb => Nat.lt_of_lt_of_le hb HB.out.size))).mono ?_
        rintro e w2 ⟨b, rfl, -, b2⟩
        have HB2 := Lib.hid (HB.out.trans (b2.mono HB.out.size))
        clear b2 d0 d1 d2 d3 d4 d5 d6 d7 d8 d9 d10 d11 d12 d13 d14 d15
        cases b with
        | true =>
          go_wp2_with fail
          go_ret
          exact ⟨_, rfl, fun h => (by cases h), HB2.out⟩
        | false =>
          obtain ⟨d0, d1, d2, d3, d4, d5, d6, d7, d8, d9, d10, d11, d12, d13, d14, d15⟩ := HRW.out.keep (HB2.out.block ad.block HAD.out)
          go_wp2_with fail
          refine (Great_any _ _ w2 (HT2.out.keep (fun b hb => HB2.out.block b hb) (fun b hb => Nat.lt_of_lt_of_le hb HB2.out.size))).mono ?_
          rintro e w3 ⟨b, rfl, -, b3⟩
          have HB3 := Lib.hid (HB2.out.trans (b3.mono HB2.out.size))
          clear b3 d0 d1 d2 d3 d4 d5 d6 d7 d8 d9 d10 d11 d12 d13 d14 d15
          cases b with
          | true =>
            go_wp2_with fail
            go_ret
            exact ⟨_, rfl, fun h => (by cases h), HB3.out⟩
          | false =>
            obtain ⟨d0, d1, d2, d3, d4, d5, d6, d7, d8, d9, d10, d11, d12, d13, d14, d15⟩ := HRW.out.keep (HB3.out.block ad.block HAD.out)
            by_cases h4 : (400 : Int) < (y.L.length : Int)
            · go_wp2_with fail
              go_ret
              exact ⟨_, rfl, fun h => (by cases h), HB3.out⟩
            · go_wp2_with fail
              clear d0 d1 d2 d3 d4 d5 d6 d7 d8 d9 d10 d11 d12 d13 d14 d15
              have HA1 : Hid (∀ a ∈ l.take (j + 1), a.L.length ≤ 400) := by
                intro a ha
                rw [List.take_add_one, HY.out] at ha
                rcases List.mem_append.1 ha with ha | ha
                · exact HA.out a ha
                · simp at ha; subst ha; omega
              go_loopw [5] (fun i wr => ∃ m : Nat, m ≤ y.L.length ∧ i = .int .i64 m ∧ Below w.heap.size w wr) (fun i _ => y.L.length - (intOf i).toNat)
              case atStart => exact ⟨0, Nat.zero_le _, rfl, HB3.out⟩
              case round =>
                obtain ⟨m, hm, rfl, hB4⟩ := hrel
                have HB4 := Lib.hid hB4
                clear hB4
                obtain ⟨d0, d1, d2, d3, d4, d5, d6, d7, d8, d9, d10, d11, d12, d13, d14, d15⟩ := HRW.out.keep (HB4.out.block ad.block HAD.out)
                by_cases hlt4 : m < y.L.length
                · obtain ⟨u, hu⟩ : ∃ u, y.L[m]? = some u := ⟨y.L[m], List.getElem?_eq_getElem hlt4⟩
                  obtain ⟨ad2, v2, rfl, had2, hE2, hA2⟩ := HW.out.at_ m u hu
                  obtain ⟨k5, n5, s5, t5, A5, len5, cap5, rfl, hT5⟩ := hA2
                  obtain ⟨c0, c1, c2, c3, c4, c5, c6, ec, e0, e1, e2, e3, e4, e5, e6⟩ := hE2.keep (HB4.out.block ad2.block had2)
                  simp only [Value.agg.injEq, Array.mk.injEq, List.cons.injEq, and_true] at ec
                  obtain ⟨rfl, rfl, rfl, rfl, rfl, rfl, rfl⟩ := ec
                  have HT5 := Lib.hid hT5
                  clear hE2 hT5 hu
                  go_wp2_with fail
                  refine (Great_any _ _ _ (HT5.out.keep (fun b hb => HB4.out.block b hb) (fun b hb => Nat.lt_of_lt_of_le hb HB4.out.size))).mono ?_
                  rintro e w5 ⟨b, rfl, -, b5⟩
                  have HB5 := Lib.hid (HB4.out.trans (b5.mono HB4.out.size))
                  clear b5
                  cases b with
                  | true =>
                    go_wp2_with fail
                    go_ret
                    exact ⟨_, rfl, fun h => (by cases h), HB5.out⟩
                  | false =>
                    go_wp2_with fail
                    go_roundw
                    case rel => exact ⟨m + 1, by omega, by go_num, HB5.out⟩
                    case measure => simp [intOf]; omega
                · go_wp2_with fail
                  go_roundw
                  case rel => exact ⟨j + 1, by omega, by go_num, ⟨z, rfl, hzm⟩, HA1.out, HB4.out⟩
                  case measure => simp [intOf]; omega
      · go_wp2_with fail
        go_ret
        exact ⟨_, rfl, fun h => (by cases h), HB.out⟩
    · obtain rfl : j = n := by omega
      go_wp2_with fail
      go_ret
      refine ⟨_, rfl, fun h => ?_, HB.out⟩
      rw [← HL.out, List.take_length] at HA
      exact HA.out
end Go.Proofs.YtphfekcacaaabaaDoor
