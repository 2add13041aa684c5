/- pleachref06.Blank. -/
import Derived.Test.YtkaijnbefbggeaaDoorScanP
set_option linter.unusedVariables false
namespace Go.Proofs.YtkaijnbefbggeaaDoor
open Go.RowKit

set_option maxHeartbeats 4000000 in
theorem rBlank_any (s : ByteArray) (a : Int) (w : World) (hs : s.size ≤ 9223372036854775806) : Calls Tryd.prog 10 #[.string s, .int .i64 a] w fun e w' => e = .returned (.int .i64 (blankR s a)) ∧ w = w' := by
  by_cases hn : a < 0
  · have HV : Hid (blankR s a = a) := by show _ = _; unfold blankR; rw [if_pos (.inl hn)]
    go_enter Tryd.func10, Tryd.ntmps10
    go_wp2
    go_ret
    exact ⟨ret_int (by rw [HV.out]), rfl⟩
  obtain ⟨k, rfl⟩ : ∃ k : Nat, a = k := ⟨a.toNat, by omega⟩
  by_cases hgt : s.size < k
  · have HV : Hid (blankR s k = k) := by show _ = _; unfold blankR; rw [if_pos (.inr (by omega))]
    go_enter Tryd.func10, Tryd.ntmps10
    go_wp2
    go_loop [1] (fun i => i = .int .i64 k) (fun i => s.size - (intOf i).toNat)
    case atStart => rfl
    case round =>
      subst hrel
      have hlt : ¬ (k : Int) < (s.size : Int) := by omega
      go_wp2
      go_ret
      exact ⟨ret_int (by rw [HV.out]), rfl⟩
  obtain ⟨R, hR⟩ : ∃ R, R = k + blk false (s.data.toList.drop k) := ⟨_, rfl⟩
  have HV : Hid (blankR s k = (R : Int)) := by show _ = _; unfold blankR; rw [if_neg (by omega), Int.toNat_natCast, hR]
  have H0 : Hid (k + blk false (s.data.toList.drop k) = R) := hR.symm
  clear hR
  go_enter Tryd.func10, Tryd.ntmps10
  go_wp2
  go_loop [1] (fun i => ∃ j : Nat, i = .int .i64 j ∧ j ≤ s.size ∧ Hid (j + blk false (s.data.toList.drop j) = R)) (fun i => s.size - (intOf i).toNat)
  case atStart => exact ⟨k, rfl, by omega, H0⟩
  case round =>
    obtain ⟨j, rfl, hj, HR⟩ := hrel
    by_cases hlt : j < s.size
    · skip
      cases b32 : (((s[j]'hlt).toNat : Int) == 32)
      case true =>
        have e32 : (s[j]'hlt).toNat = 32 := by have h5 := eq_of_beq b32; omega
        have hn : j + 1 + blk false (s.data.toList.drop (j + 1)) = R := by
          rw [← HR.out, drop_cons (l := s.data.toList) (k := j) (by rw [size_list]; exact hlt)]
          have e : (s.data[j]'hlt).toNat = 32 := e32
          simp [blk, e]; omega
        have HN := Lib.hid hn
        clear e32 hn
        go_wp2
        go_round
        case rel => exact ⟨j + 1, by go_num, by omega, HN⟩
        case measure => simp [intOf]; omega
      case false =>
        cases b9 : (((s[j]'hlt).toNat : Int) == 9)
        case true =>
          have e9 : (s[j]'hlt).toNat = 9 := by have h5 := eq_of_beq b9; omega
          have hn : j + 1 + blk false (s.data.toList.drop (j + 1)) = R := by
            rw [← HR.out, drop_cons (l := s.data.toList) (k := j) (by rw [size_list]; exact hlt)]
            have e : (s.data[j]'hlt).toNat = 9 := e9
            simp [blk, e]; omega
          have HN := Lib.hid hn
          clear e9 hn
          go_wp2
          go_round
          case rel => exact ⟨j + 1, by go_num, by omega, HN⟩
          case measure => simp [intOf]; omega
        case false =>
          cases b10 : (((s[j]'hlt).toNat : Int) == 10)
          case true =>
            have e10 : (s[j]'hlt).toNat = 10 := by have h5 := eq_of_beq b10; omega
            have hn : j + 1 + blk false (s.data.toList.drop (j + 1)) = R := by
              rw [← HR.out, drop_cons (l := s.data.toList) (k := j) (by rw [size_list]; exact hlt)]
              have e : (s.data[j]'hlt).toNat = 10 := e10
              simp [blk, e]; omega
            have HN := Lib.hid hn
            clear e10 hn
            go_wp2
            go_round
            case rel => exact ⟨j + 1, by go_num, by omega, HN⟩
            case measure => simp [intOf]; omega
          case false =>
            cases b13 : (((s[j]'hlt).toNat : Int) == 13)
            case true =>
              have e13 : (s[j]'hlt).toNat = 13 := by have h5 := eq_of_beq b13; omega
              have hn : j + 1 + blk false (s.data.toList.drop (j + 1)) = R := by
                rw [← HR.out, drop_cons (l := s.data.toList) (k := j) (by rw [size_list]; exact hlt)]
                have e : (s.data[j]'hlt).toNat = 13 := e13
                simp [blk, e]; omega
              have HN := Lib.hid hn
              clear e13 hn
              go_wp2
              go_round
              case rel => exact ⟨j + 1, by go_num, by omega, HN⟩
              case measure => simp [intOf]; omega
            case false =>
              cases b37 : (((s[j]'hlt).toNat : Int) == 37)
              case true =>
                have e37 : (s[j]'hlt).toNat = 37 := by have h5 := eq_of_beq b37; omega
                have hstep : blk false (s.data.toList.drop j) = blk true (s.data.toList.drop j) := by
                  rw [drop_cons (l := s.data.toList) (k := j) (by rw [size_list]; exact hlt)]
                  have e : (s.data[j]'hlt).toNat = 37 := e37
                  simp [blk, e]
                have HST : Hid (j + blk true (s.data.toList.drop j) = R) := by show _ = _; rw [← hstep]; exact HR.out
                have HE := Lib.hid e37
                clear hstep e37
                go_wp2
                go_loop [1] (fun i => ∃ m : Nat, i = .int .i64 m ∧ m ≤ s.size ∧ (m = j ∨ j < m) ∧ Hid (m + blk true (s.data.toList.drop m) = R)) (fun i => s.size - (intOf i).toNat)
                case atStart => exact ⟨j, rfl, by omega, .inl rfl, HST.out⟩
                case round =>
                  obtain ⟨m, rfl, hm, hjm, hR2⟩ := hrel
                  by_cases hlt2 : m < s.size
                  · cases c10 : (((s[m]'hlt2).toNat : Int) == 10)
                    case true =>
                      have e10 : (s[m]'hlt2).toNat = 10 := by have h5 := eq_of_beq c10; omega
                      have hlt3 : j < m := by
                        rcases hjm with h | h
                        · subst h; have := HE.out; omega
                        · exact h
                      have hn : m + blk false (s.data.toList.drop m) = R := by
                        rw [← hR2.out, drop_cons (l := s.data.toList) (k := m) (by rw [size_list]; exact hlt2)]
                        have e : (s.data[m]'hlt2).toNat = 10 := e10
                        simp [blk, e]
                      have HN := Lib.hid hn
                      clear e10 hn hjm
                      go_wp2
                      go_round
                      case rel => exact ⟨m, rfl, by omega, HN⟩
                      case measure => simp [intOf]; omega
                    case false =>
                      have e10 : ¬ (s[m]'hlt2).toNat = 10 := by have h5 := beq_eq_false_iff_ne.1 c10; omega
                      have hn : m + 1 + blk true (s.data.toList.drop (m + 1)) = R := by
                        rw [← hR2.out, drop_cons (l := s.data.toList) (k := m) (by rw [size_list]; exact hlt2)]
                        have e : ¬ (s.data[m]'hlt2).toNat = 10 := e10
                        simp [blk, e]; omega
                      have HN := Lib.hid hn
                      clear e10 hn
                      go_wp2
                      go_round
                      case rel => exact ⟨m + 1, by go_num, by omega, by omega, HN⟩
                      case measure => simp [intOf]; omega
                  · have hlt3 : j < m := by omega
                    have hn : m + blk false (s.data.toList.drop m) = R := by
                      have h5 := hR2.out
                      rw [List.drop_eq_nil_of_le (by rw [size_list]; omega)] at h5 ⊢
                      simpa [blk] using h5
                    have HN := Lib.hid hn
                    clear hn hjm
                    go_wp2
                    go_round
                    case rel => exact ⟨m, rfl, by omega, HN⟩
                    case measure => simp [intOf]; omega
              case false =>
                have hz : blk false (s.data.toList.drop j) = 0 := by
                  rw [drop_cons (l := s.data.toList) (k := j) (by rw [size_list]; exact hlt)]
                  have c32 : ¬ (s.data[j]'hlt).toNat = 32 := by have h5 := beq_eq_false_iff_ne.1 b32; show ¬ (s[j]'hlt).toNat = 32; omega
                  have c9 : ¬ (s.data[j]'hlt).toNat = 9 := by have h5 := beq_eq_false_iff_ne.1 b9; show ¬ (s[j]'hlt).toNat = 9; omega
                  have c10 : ¬ (s.data[j]'hlt).toNat = 10 := by have h5 := beq_eq_false_iff_ne.1 b10; show ¬ (s[j]'hlt).toNat = 10; omega
                  have c13 : ¬ (s.data[j]'hlt).toNat = 13 := by have h5 := beq_eq_false_iff_ne.1 b13; show ¬ (s[j]'hlt).toNat = 13; omega
                  have c37 : ¬ (s.data[j]'hlt).toNat = 37 := by have h5 := beq_eq_false_iff_ne.1 b37; show ¬ (s[j]'hlt).toNat = 37; omega
                  simp [blk, c32, c9, c10, c13, c37]
                have hR1 := HR.out
                rw [hz] at hR1
                have HR1 := Lib.hid hR1
                clear hz hR1
                go_wp2
                go_ret
                exact ⟨ret_int (by rw [HV.out, ← HR1.out]; simp), rfl⟩
    · have hz : blk false (s.data.toList.drop j) = 0 := by rw [List.drop_eq_nil_of_le (by rw [size_list]; omega)]; rfl
      have hR1 := HR.out
      rw [hz] at hR1
      have HR1 := Lib.hid hR1
      clear hz hR1
      go_wp2
      go_ret
      exact ⟨ret_int (by rw [HV.out, ← HR1.out]; simp), rfl⟩
end Go.Proofs.YtkaijnbefbggeaaDoor
