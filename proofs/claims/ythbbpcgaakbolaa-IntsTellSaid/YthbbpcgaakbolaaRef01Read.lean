/- Contract of the document's own Read of layer 1. -/
import Derived.Test.YthbbpcgaakbolaaRef01
namespace Go.Proofs.Ythbbpcgaakbolaa
open Go.RowKit

/-- Has the number passed MaxInt? -/
def bigB (x : Nat) : Bool := decide (576460752303423487 < x)
theorem big_no {x : Nat} (h : bigB x = false) : x ≤ 576460752303423487 := by have := of_decide_eq_false h; omega
theorem big_up {x d : Nat} (h : bigB x = true) : bigB (x * 10 + d) = true := by
  have := of_decide_eq_true h; exact decide_eq_true (by omega)

theorem readR_big {l : List UInt8} {k : Nat} (h : dg l = k) (h0 : ¬ k = 0) (hb : bigB (vl l k) = true) : readR l = (0, (k : Int), 11) := by
  subst h
  rw [readR, if_neg h0, if_pos (of_decide_eq_true hb)]
theorem readR_ok {l : List UInt8} {k : Nat} (h : dg l = k) (h0 : ¬ k = 0) (hb : bigB (vl l k) = false) : readR l = (((vl l k : Nat) : Int), (k : Int), 0) := by
  subst h
  rw [readR, if_neg h0, if_neg (of_decide_eq_false hb)]

set_option maxHeartbeats 1000000 in
theorem rRead_any (s : ByteArray) (w : World) (hs : s.size ≤ maxLen) :
    Calls Try.prog 14 #[.string s] w fun e w' => e = .returned (.tuple #[.int .i64 (readR s.data.toList).1, .int .i64 (readR s.data.toList).2.1, .int .i64 (readR s.data.toList).2.2]) ∧ w = w' := by
  unfold maxLen at hs
  go_enter Try.func14, Try.ntmps14
  go_wp2
  go_loop [5, 6, 7] (fun n i b => ∃ k m : Nat, k ≤ s.size ∧ k ≤ dg s.data.toList ∧ (bigB (vl s.data.toList k) = false → m = vl s.data.toList k) ∧ i = .int .i64 k ∧ n = .int .i64 m ∧ b = .bool (bigB (vl s.data.toList k))) (fun _ i _ => s.size - (intOf i).toNat)
  case atStart => exact ⟨0, 0, Nat.zero_le _, Nat.zero_le _, fun _ => (vl_zero _).symm, rfl, rfl, by rw [vl_zero]; rfl⟩
  case round =>
    obtain ⟨k, m, hk, hd, hm, rfl, rfl, rfl⟩ := hrel
    by_cases hlt : k < s.size
    · have hlen : k < s.data.toList.length := by simpa using hlt
      by_cases hc : 48 ≤ (s[k].toNat : Int) ∧ (s[k].toNat : Int) ≤ 57
      · have hdg : isDig s[k] = true := by unfold isDig; rw [decide_eq_true_eq]; exact ⟨by have := hc.1; omega, by have := hc.2; omega⟩
        have hd1 := dg_at _ _ hlen hd hdg
        have ev : Hid (vl s.data.toList (k + 1) = vl s.data.toList k * 10 + (s[k].toNat - 48)) := by show _ = _; rw [vl_succ _ _ hlen]; rfl
        obtain ⟨hc1, hc2⟩ := hc
        clear hdg hd
        cases hbig : bigB (vl s.data.toList k)
        · have em := hm hbig
          have hx := big_no hbig
          clear hm
          rw [← em] at hx ev
          subst em
          have hnew : Hid (∀ x : Nat, bigB x = decide (576460752303423487 < (x : Int))) := by intro x; unfold bigB; rw [Bool.eq_iff_iff]; simp; omega
          go_wp2
          go_round
          case rel => exact ⟨k + 1, vl s.data.toList (k + 1), by omega, hd1, fun _ => rfl, by go_num, by rw [ev.out]; go_num, by rw [ev.out, hnew.out]; congr 1; rw [Bool.eq_iff_iff, decide_eq_true_eq, decide_eq_true_eq]; omega⟩
          case measure => simp [intOf]; omega
        · have hb2 : Hid (bigB (vl s.data.toList (k + 1)) = true) := by show _ = _; rw [ev.out]; exact big_up hbig
          clear hm
          go_wp2
          go_round
          case rel => exact ⟨k + 1, m, by omega, hd1, fun h => by (rw [hb2.out] at h; cases h), by go_num, rfl, by rw [hb2.out]⟩
          case measure => simp [intOf]; omega
      · have hdg : isDig s[k] = false := by unfold isDig; rw [decide_eq_false_iff_not]; omega
        have hfin := Lib.hid (dg_stop _ _ hlen hd hdg)
        clear hdg hd
        by_cases h0 : k = 0
        · subst h0
          have hc1 : (s[0].toNat : Int) < 48 ∨ 57 < (s[0].toNat : Int) := by omega
          clear hc
          rcases hc1 with hc1 | hc1
          all_goals
            go_wp2
            go_ret3
            exact ⟨ret_three (by rw [readR_none hfin.out]) (by rw [readR_none hfin.out]) (by rw [readR_none hfin.out]), rfl⟩
        · have h00 : ((k : Int) == 0) = false := by rw [beq_eq_false_iff_ne]; omega
          have hc1 : (s[k].toNat : Int) < 48 ∨ 57 < (s[k].toNat : Int) := by omega
          clear hc
          rcases hc1 with hc1 | hc1
          all_goals
            cases hbig : bigB (vl s.data.toList k)
            · have em := Lib.hid (hm hbig)
              clear hm
              go_wp2
              go_ret3
              exact ⟨ret_three (by rw [readR_ok hfin.out h0 hbig, em.out]) (by rw [readR_ok hfin.out h0 hbig]) (by rw [readR_ok hfin.out h0 hbig]), rfl⟩
            · clear hm
              go_wp2
              go_ret3
              exact ⟨ret_three (by rw [readR_big hfin.out h0 hbig]) (by rw [readR_big hfin.out h0 hbig]) (by rw [readR_big hfin.out h0 hbig]), rfl⟩
    · have hfin : Hid (dg s.data.toList = k) := by have := dg_le s.data.toList; simp at this; show _ = _; omega
      clear hd
      by_cases h0 : k = 0
      · subst h0
        go_wp2
        go_ret3
        exact ⟨ret_three (by rw [readR_none hfin.out]) (by rw [readR_none hfin.out]) (by rw [readR_none hfin.out]), rfl⟩
      · have h00 : ((k : Int) == 0) = false := by rw [beq_eq_false_iff_ne]; omega
        cases hbig : bigB (vl s.data.toList k)
        · have em := Lib.hid (hm hbig)
          clear hm
          go_wp2
          go_ret3
          exact ⟨ret_three (by rw [readR_ok hfin.out h0 hbig, em.out]) (by rw [readR_ok hfin.out h0 hbig]) (by rw [readR_ok hfin.out h0 hbig]), rfl⟩
        · clear hm
          go_wp2
          go_ret3
          exact ⟨ret_three (by rw [readR_big hfin.out h0 hbig]) (by rw [readR_big hfin.out h0 hbig]) (by rw [readR_big hfin.out h0 hbig]), rfl⟩
end Go.Proofs.Ythbbpcgaakbolaa
