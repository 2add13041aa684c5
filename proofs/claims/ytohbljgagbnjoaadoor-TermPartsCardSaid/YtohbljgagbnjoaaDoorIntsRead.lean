/- Contract of ints.Read: for any text that may be read. -/
import Derived.Test.YtohbljgagbnjoaaDoorIMay
import Derived.Test.YtohbljgagbnjoaaDoorDigits
import Derived.IntWalk
namespace Go.Proofs.YtohbljgagbnjoaaDoor
open Go.RowKit

theorem readR_none {l : List UInt8} (h : dg l = 0) : readR l = (0, 0, 2) := by rw [readR, if_pos h]
theorem readR_some {l : List UInt8} {k : Nat} (h : dg l = k) (h0 : ¬ k = 0) : readR l = ((fit (held (vl l k))).1, (k : Int), (fit (held (vl l k))).2) := by
  subst h
  rw [readR, if_neg h0]
  by_cases h : 576460752303423487 < vl l (dg l)
  · rw [if_pos h, fit_no (by unfold mayB held; split <;> simp <;> omega)]
  · rw [if_neg h, fit_yes (by unfold mayB held; split <;> simp <;> omega)]
    simp only [held]
    rw [if_pos (by omega)]

set_option maxHeartbeats 1000000 in
theorem Read_any (s : ByteArray) (w : World) (hs : s.size ≤ maxLen) :
    Calls Tryd.prog 110 #[.string s] w fun e w' => e = .returned (.tuple #[.int .i64 (readR s.data.toList).1, .int .i64 (readR s.data.toList).2.1, .int .i64 (readR s.data.toList).2.2]) ∧ w = w' := by
  unfold maxLen at hs
  go_enter Tryd.func110, Tryd.ntmps110
  go_wp2
  go_loop [5, 6] (fun n i => ∃ k : Nat, k ≤ s.size ∧ k ≤ dg s.data.toList ∧ i = .int .i64 k ∧ n = .int .i64 (held (vl s.data.toList k))) (fun _ i => s.size - (intOf i).toNat)
  case atStart => exact ⟨0, Nat.zero_le _, Nat.zero_le _, rfl, by rw [vl_zero]; rfl⟩
  case round =>
    obtain ⟨k, hk, hd, rfl, rfl⟩ := hrel
    have hb := held_bd (vl s.data.toList k)
    by_cases hlt : k < s.size
    · have hlen : k < s.data.toList.length := by simpa using hlt
      by_cases hc : 48 ≤ (s[k].toNat : Int) ∧ (s[k].toNat : Int) ≤ 57
      · have hdg : isDig s[k] = true := by unfold isDig; rw [decide_eq_true_eq]; exact ⟨by have := hc.1; omega, by have := hc.2; omega⟩
        have hd1 := dg_at _ _ hlen hd hdg
        have hv : Hid (held (vl s.data.toList (k + 1)) = min (held (vl s.data.toList k) * 10 + ((s[k].toNat : Int) - 48)) 576460752303423488) := by
          have e : vl s.data.toList (k + 1) = vl s.data.toList k * 10 + (s[k].toNat - 48) := by rw [vl_succ _ _ hlen]; rfl
          rw [Hid, e, held_step _ _ (by have := hc.2; omega)]
          congr 2
          have := hc.1; omega
        obtain ⟨hc1, hc2⟩ := hc
        clear hdg
        go_wp2
        go_round
        case rel => exact ⟨k + 1, by omega, hd1, by go_num, by rw [hv.out]; congr 1; split <;> omega⟩
        case measure => simp [intOf]; omega
      · have hdg : isDig s[k] = false := by unfold isDig; rw [decide_eq_false_iff_not]; omega
        have hfin := Lib.hid (dg_stop _ _ hlen hd hdg)
        clear hdg hd
        by_cases h0 : k = 0
        · subst h0
          have hc1 : (s[0].toNat : Int) < 48 ∨ 57 < (s[0].toNat : Int) := by omega
          clear hc
          rcases hc1 with hc1 | hc1
          all_goals
            go_wp2
            go_ret3
            exact ⟨ret_three (by rw [readR_none hfin.out]) (by rw [readR_none hfin.out]) (by rw [readR_none hfin.out]), rfl⟩
        · have h00 : ((k : Int) == 0) = false := by rw [beq_eq_false_iff_ne]; omega
          have hc1 : (s[k].toNat : Int) < 48 ∨ 57 < (s[k].toNat : Int) := by omega
          clear hc
          rcases hc1 with hc1 | hc1
          all_goals
            go_wp2_with (go_at_call 118; refine (told_int _ _).mono ?_; rintro e w' ⟨rfl, rfl⟩)
            go_ret3
            exact ⟨ret_three (by rw [readR_some hfin.out h0]) (by rw [readR_some hfin.out h0]) (by rw [readR_some hfin.out h0]), rfl⟩
    · have hfin : Hid (dg s.data.toList = k) := by have := dg_le s.data.toList; simp at this; show _ = _; omega
      clear hd
      by_cases h0 : k = 0
      · subst h0
        go_wp2
        go_ret3
        exact ⟨ret_three (by rw [readR_none hfin.out]) (by rw [readR_none hfin.out]) (by rw [readR_none hfin.out]), rfl⟩
      · have h00 : ((k : Int) == 0) = false := by rw [beq_eq_false_iff_ne]; omega
        go_wp2_with (go_at_call 118; refine (told_int _ _).mono ?_; rintro e w' ⟨rfl, rfl⟩)
        go_ret3
        exact ⟨ret_three (by rw [readR_some hfin.out h0]) (by rw [readR_some hfin.out h0]) (by rw [readR_some hfin.out h0]), rfl⟩
end Go.Proofs.YtohbljgagbnjoaaDoor
