/- Layer 9: the built-ins, by the program and by the document (written by gen_built9b.py). -/
import Derived.Test.YtmdcdhdjojimeaaGreatDoorKFirst9
import Derived.WalkKit
import Derived.Lib.Hide
set_option linter.unusedVariables false
set_option linter.unusedSimpArgs false
namespace Go.Proofs.YtmdcdhdjojimeaaGreatDoor
open Go.RowKit

set_option maxHeartbeats 16000000 in
set_option maxRecDepth 100000 in
theorem rbuilt_any (s : ByteArray) (n : Int) (w : World) : Calls Tryz.prog 12 #[.string s, .int .i64 n] w fun e w' => e = .returned (.bool (builtB s n)) ∧ w' = w := by
 by_cases h0 : s.toList = [115, 101, 108, 102]
 ·rw [lit_built h0, show builtB ⟨_⟩ n = (n == 0) by simp [builtB, built0, built1, built2, built3]]
  clear h0
  go_enter Tryz.func12, Tryz.ntmps12
  go_wp2_with fail
  all_goals
   go_ret
   exact ⟨ret_bool (by simp_all), rfl⟩
 by_cases h1 : s.toList = [109, 97, 107, 101, 95, 114, 101, 102]
 ·rw [lit_built h1, show builtB ⟨_⟩ n = (n == 0) by simp [builtB, built0, built1, built2, built3]]
  clear h1
  go_enter Tryz.func12, Tryz.ntmps12
  go_wp2_with fail
  all_goals
   go_ret
   exact ⟨ret_bool (by simp_all), rfl⟩
 by_cases h2 : s.toList = [110, 111, 119]
 ·rw [lit_built h2, show builtB ⟨_⟩ n = (n == 0) by simp [builtB, built0, built1, built2, built3]]
  clear h2
  go_enter Tryz.func12, Tryz.ntmps12
  go_wp2_with fail
  all_goals
   go_ret
   exact ⟨ret_bool (by simp_all), rfl⟩
 by_cases h3 : s.toList = [108, 105, 110, 107]
 ·rw [lit_built h3, show builtB ⟨_⟩ n = (n == 1) by simp [builtB, built0, built1, built2, built3]]
  clear h3
  go_enter Tryz.func12, Tryz.ntmps12
  go_wp2_with fail
  all_goals
   go_ret
   exact ⟨ret_bool (by simp_all), rfl⟩
 by_cases h4 : s.toList = [109, 111, 110, 105, 116, 111, 114]
 ·rw [lit_built h4, show builtB ⟨_⟩ n = (n == 1) by simp [builtB, built0, built1, built2, built3]]
  clear h4
  go_enter Tryz.func12, Tryz.ntmps12
  go_wp2_with fail
  all_goals
   go_ret
   exact ⟨ret_bool (by simp_all), rfl⟩
 by_cases h5 : s.toList = [101, 114, 114, 111, 114]
 ·rw [lit_built h5, show builtB ⟨_⟩ n = (n == 1) by simp [builtB, built0, built1, built2, built3]]
  clear h5
  go_enter Tryz.func12, Tryz.ntmps12
  go_wp2_with fail
  all_goals
   go_ret
   exact ⟨ret_bool (by simp_all), rfl⟩
 by_cases h6 : s.toList = [116, 104, 114, 111, 119]
 ·rw [lit_built h6, show builtB ⟨_⟩ n = (n == 1) by simp [builtB, built0, built1, built2, built3]]
  clear h6
  go_enter Tryz.func12, Tryz.ntmps12
  go_wp2_with fail
  all_goals
   go_ret
   exact ⟨ret_bool (by simp_all), rfl⟩
 by_cases h7 : s.toList = [116, 114, 97, 112, 95, 101, 120, 105, 116]
 ·rw [lit_built h7, show builtB ⟨_⟩ n = (n == 1) by simp [builtB, built0, built1, built2, built3]]
  clear h7
  go_enter Tryz.func12, Tryz.ntmps12
  go_wp2_with fail
  all_goals
   go_ret
   exact ⟨ret_bool (by simp_all), rfl⟩
 by_cases h8 : s.toList = [114, 101, 103, 105, 115, 116, 101, 114]
 ·rw [lit_built h8, show builtB ⟨_⟩ n = (n == 1) by simp [builtB, built0, built1, built2, built3]]
  clear h8
  go_enter Tryz.func12, Tryz.ntmps12
  go_wp2_with fail
  all_goals
   go_ret
   exact ⟨ret_bool (by simp_all), rfl⟩
 by_cases h9 : s.toList = [119, 104, 101, 114, 101, 105, 115]
 ·rw [lit_built h9, show builtB ⟨_⟩ n = (n == 1) by simp [builtB, built0, built1, built2, built3]]
  clear h9
  go_enter Tryz.func12, Tryz.ntmps12
  go_wp2_with fail
  all_goals
   go_ret
   exact ⟨ret_bool (by simp_all), rfl⟩
 by_cases h10 : s.toList = [108, 101, 110, 103, 116, 104]
 ·rw [lit_built h10, show builtB ⟨_⟩ n = (n == 1) by simp [builtB, built0, built1, built2, built3]]
  clear h10
  go_enter Tryz.func12, Tryz.ntmps12
  go_wp2_with fail
  all_goals
   go_ret
   exact ⟨ret_bool (by simp_all), rfl⟩
 by_cases h11 : s.toList = [104, 100]
 ·rw [lit_built h11, show builtB ⟨_⟩ n = (n == 1) by simp [builtB, built0, built1, built2, built3]]
  clear h11
  go_enter Tryz.func12, Tryz.ntmps12
  go_wp2_with fail
  all_goals
   go_ret
   exact ⟨ret_bool (by simp_all), rfl⟩
 by_cases h12 : s.toList = [116, 108]
 ·rw [lit_built h12, show builtB ⟨_⟩ n = (n == 1) by simp [builtB, built0, built1, built2, built3]]
  clear h12
  go_enter Tryz.func12, Tryz.ntmps12
  go_wp2_with fail
  all_goals
   go_ret
   exact ⟨ret_bool (by simp_all), rfl⟩
 by_cases h13 : s.toList = [116, 117, 112, 108, 101, 95, 115, 105, 122, 101]
 ·rw [lit_built h13, show builtB ⟨_⟩ n = (n == 1) by simp [builtB, built0, built1, built2, built3]]
  clear h13
  go_enter Tryz.func12, Tryz.ntmps12
  go_wp2_with fail
  all_goals
   go_ret
   exact ⟨ret_bool (by simp_all), rfl⟩
 by_cases h14 : s.toList = [111, 117, 116]
 ·rw [lit_built h14, show builtB ⟨_⟩ n = (n == 1) by simp [builtB, built0, built1, built2, built3]]
  clear h14
  go_enter Tryz.func12, Tryz.ntmps12
  go_wp2_with fail
  all_goals
   go_ret
   exact ⟨ret_bool (by simp_all), rfl⟩
 by_cases h15 : s.toList = [119, 104, 105, 99, 104, 95, 99, 104, 105, 108, 100, 114, 101, 110]
 ·rw [lit_built h15, show builtB ⟨_⟩ n = (n == 1) by simp [builtB, built0, built1, built2, built3]]
  clear h15
  go_enter Tryz.func12, Tryz.ntmps12
  go_wp2_with fail
  all_goals
   go_ret
   exact ⟨ret_bool (by simp_all), rfl⟩
 by_cases h16 : s.toList = [101, 120, 105, 116]
 ·rw [lit_built h16, show builtB ⟨_⟩ n = ((n == 1) || (n == 2)) by simp [builtB, built0, built1, built2, built3]]
  clear h16
  go_enter Tryz.func12, Tryz.ntmps12
  go_wp2_with fail
  all_goals
   go_ret
   exact ⟨ret_bool (by simp_all), rfl⟩
 by_cases h17 : s.toList = [101, 108, 101, 109, 101, 110, 116]
 ·rw [lit_built h17, show builtB ⟨_⟩ n = (n == 2) by simp [builtB, built0, built1, built2, built3]]
  clear h17
  go_enter Tryz.func12, Tryz.ntmps12
  go_wp2_with fail
  all_goals
   go_ret
   exact ⟨ret_bool (by simp_all), rfl⟩
 by_cases h18 : s.toList = [115, 101, 110, 100]
 ·rw [lit_built h18, show builtB ⟨_⟩ n = (n == 2) by simp [builtB, built0, built1, built2, built3]]
  clear h18
  go_enter Tryz.func12, Tryz.ntmps12
  go_wp2_with fail
  all_goals
   go_ret
   exact ⟨ret_bool (by simp_all), rfl⟩
 by_cases h19 : s.toList = [99, 97, 115, 116]
 ·rw [lit_built h19, show builtB ⟨_⟩ n = (n == 2) by simp [builtB, built0, built1, built2, built3]]
  clear h19
  go_enter Tryz.func12, Tryz.ntmps12
  go_wp2_with fail
  all_goals
   go_ret
   exact ⟨ret_bool (by simp_all), rfl⟩
 by_cases h20 : s.toList = [115, 116, 97, 114, 116, 95, 99, 104, 105, 108, 100]
 ·rw [lit_built h20, show builtB ⟨_⟩ n = (n == 2) by simp [builtB, built0, built1, built2, built3]]
  clear h20
  go_enter Tryz.func12, Tryz.ntmps12
  go_wp2_with fail
  all_goals
   go_ret
   exact ⟨ret_bool (by simp_all), rfl⟩
 by_cases h21 : s.toList = [116, 101, 114, 109, 105, 110, 97, 116, 101, 95, 99, 104, 105, 108, 100]
 ·rw [lit_built h21, show builtB ⟨_⟩ n = (n == 2) by simp [builtB, built0, built1, built2, built3]]
  clear h21
  go_enter Tryz.func12, Tryz.ntmps12
  go_wp2_with fail
  all_goals
   go_ret
   exact ⟨ret_bool (by simp_all), rfl⟩
 by_cases h22 : s.toList = [114, 101, 115, 116, 97, 114, 116, 95, 99, 104, 105, 108, 100]
 ·rw [lit_built h22, show builtB ⟨_⟩ n = (n == 2) by simp [builtB, built0, built1, built2, built3]]
  clear h22
  go_enter Tryz.func12, Tryz.ntmps12
  go_wp2_with fail
  all_goals
   go_ret
   exact ⟨ret_bool (by simp_all), rfl⟩
 by_cases h23 : s.toList = [100, 101, 108, 101, 116, 101, 95, 99, 104, 105, 108, 100]
 ·rw [lit_built h23, show builtB ⟨_⟩ n = (n == 2) by simp [builtB, built0, built1, built2, built3]]
  clear h23
  go_enter Tryz.func12, Tryz.ntmps12
  go_wp2_with fail
  all_goals
   go_ret
   exact ⟨ret_bool (by simp_all), rfl⟩
 by_cases h24 : s.toList = [115, 112, 97, 119, 110, 95, 108, 105, 110, 107]
 ·rw [lit_built h24, show builtB ⟨_⟩ n = (n == 3) by simp [builtB, built0, built1, built2, built3]]
  clear h24
  go_enter Tryz.func12, Tryz.ntmps12
  go_wp2_with fail
  all_goals
   go_ret
   exact ⟨ret_bool (by simp_all), rfl⟩
 by_cases h25 : s.toList = [99, 97, 108, 108]
 ·rw [lit_built h25, show builtB ⟨_⟩ n = (n == 3) by simp [builtB, built0, built1, built2, built3]]
  clear h25
  go_enter Tryz.func12, Tryz.ntmps12
  go_wp2_with fail
  all_goals
   go_ret
   exact ⟨ret_bool (by simp_all), rfl⟩
 have f0 := beq_eq_false_iff_ne.2 h0
 have f1 := beq_eq_false_iff_ne.2 h1
 have f2 := beq_eq_false_iff_ne.2 h2
 have f3 := beq_eq_false_iff_ne.2 h3
 have f4 := beq_eq_false_iff_ne.2 h4
 have f5 := beq_eq_false_iff_ne.2 h5
 have f6 := beq_eq_false_iff_ne.2 h6
 have f7 := beq_eq_false_iff_ne.2 h7
 have f8 := beq_eq_false_iff_ne.2 h8
 have f9 := beq_eq_false_iff_ne.2 h9
 have f10 := beq_eq_false_iff_ne.2 h10
 have f11 := beq_eq_false_iff_ne.2 h11
 have f12 := beq_eq_false_iff_ne.2 h12
 have f13 := beq_eq_false_iff_ne.2 h13
 have f14 := beq_eq_false_iff_ne.2 h14
 have f15 := beq_eq_false_iff_ne.2 h15
 have f16 := beq_eq_false_iff_ne.2 h16
 have f17 := beq_eq_false_iff_ne.2 h17
 have f18 := beq_eq_false_iff_ne.2 h18
 have f19 := beq_eq_false_iff_ne.2 h19
 have f20 := beq_eq_false_iff_ne.2 h20
 have f21 := beq_eq_false_iff_ne.2 h21
 have f22 := beq_eq_false_iff_ne.2 h22
 have f23 := beq_eq_false_iff_ne.2 h23
 have f24 := beq_eq_false_iff_ne.2 h24
 have f25 := beq_eq_false_iff_ne.2 h25
 have HB : Hid (builtB s n = false) := by show _ = _; unfold builtB; rw [← Go.Lib.toList_data]; simp [built0, built1, built2, built3, h0, h1, h2, h3, h4, h5, h6, h7, h8, h9, h10, h11, h12, h13, h14, h15, h16, h17, h18, h19, h20, h21, h22, h23, h24, h25]
 clear h0 h1 h2 h3 h4 h5 h6 h7 h8 h9 h10 h11 h12 h13 h14 h15 h16 h17 h18 h19 h20 h21 h22 h23 h24 h25
 rw [HB.out]
 clear HB
 go_enter Tryz.func12, Tryz.ntmps12
 go_wp2_with fail
 all_goals
  go_ret
  exact ⟨ret_bool (by simp_all), rfl⟩
end Go.Proofs.YtmdcdhdjojimeaaGreatDoor
