/- Layer 9: the built-ins, by the program and by the document. -/
import Derived.Test.YtdimcddbmccniaaGreatDoorKInts
import Derived.WalkKit
import Derived.Lib.Hide
set_option linter.unusedVariables false
set_option linter.unusedSimpArgs false
namespace Go.Proofs.YtdimcddbmccniaaGreatDoor
open Go.RowKit

set_option maxHeartbeats 16000000 in
set_option maxRecDepth 100000 in
theorem built_any (s : ByteArray) (n : Int) (w : World) : Calls Tryz.prog 12 #[.string s, .int .i64 n] w fun e w' => e = .returned (.bool (builtB s n)) ∧ w' = w := by
  by_cases h0 : s.toList = [115, 101, 108, 102]
  · have h := h0
    clear h0
    have f0 : (s.toList == [115, 101, 108, 102]) = true := by rw [h]; rfl
    have f1 : (s.toList == [109, 97, 107, 101, 95, 114, 101, 102]) = false := by rw [h]; rfl
    have f2 : (s.toList == [110, 111, 119]) = false := by rw [h]; rfl
    have f3 : (s.toList == [108, 105, 110, 107]) = false := by rw [h]; rfl
    have f4 : (s.toList == [109, 111, 110, 105, 116, 111, 114]) = false := by rw [h]; rfl
    have f5 : (s.toList == [101, 114, 114, 111, 114]) = false := by rw [h]; rfl
    have f6 : (s.toList == [116, 104, 114, 111, 119]) = false := by rw [h]; rfl
    have f7 : (s.toList == [116, 114, 97, 112, 95, 101, 120, 105, 116]) = false := by rw [h]; rfl
    have f8 : (s.toList == [114, 101, 103, 105, 115, 116, 101, 114]) = false := by rw [h]; rfl
    have f9 : (s.toList == [119, 104, 101, 114, 101, 105, 115]) = false := by rw [h]; rfl
    have f10 : (s.toList == [108, 101, 110, 103, 116, 104]) = false := by rw [h]; rfl
    have f11 : (s.toList == [104, 100]) = false := by rw [h]; rfl
    have f12 : (s.toList == [116, 108]) = false := by rw [h]; rfl
    have f13 : (s.toList == [116, 117, 112, 108, 101, 95, 115, 105, 122, 101]) = false := by rw [h]; rfl
    have f14 : (s.toList == [111, 117, 116]) = false := by rw [h]; rfl
    have f15 : (s.toList == [119, 104, 105, 99, 104, 95, 99, 104, 105, 108, 100, 114, 101, 110]) = false := by rw [h]; rfl
    have f16 : (s.toList == [101, 120, 105, 116]) = false := by rw [h]; rfl
    have f17 : (s.toList == [101, 108, 101, 109, 101, 110, 116]) = false := by rw [h]; rfl
    have f18 : (s.toList == [115, 101, 110, 100]) = false := by rw [h]; rfl
    have f19 : (s.toList == [99, 97, 115, 116]) = false := by rw [h]; rfl
    have f20 : (s.toList == [115, 116, 97, 114, 116, 95, 99, 104, 105, 108, 100]) = false := by rw [h]; rfl
    have f21 : (s.toList == [116, 101, 114, 109, 105, 110, 97, 116, 101, 95, 99, 104, 105, 108, 100]) = false := by rw [h]; rfl
    have f22 : (s.toList == [114, 101, 115, 116, 97, 114, 116, 95, 99, 104, 105, 108, 100]) = false := by rw [h]; rfl
    have f23 : (s.toList == [100, 101, 108, 101, 116, 101, 95, 99, 104, 105, 108, 100]) = false := by rw [h]; rfl
    have f24 : (s.toList == [115, 112, 97, 119, 110, 95, 108, 105, 110, 107]) = false := by rw [h]; rfl
    have f25 : (s.toList == [99, 97, 108, 108]) = false := by rw [h]; rfl
    have HB : Hid (builtB s n = (n == 0)) := by show _ = _; unfold builtB; rw [← Go.Lib.toList_data, h]; simp [built0, built1, built2, built3]
    clear h 
    rw [HB.out]
    clear HB
    go_enter Tryz.func12, Tryz.ntmps12
    go_wp2_with fail
    all_goals
      go_ret
      exact ⟨ret_bool (by simp_all), rfl⟩
  by_cases h1 : s.toList = [109, 97, 107, 101, 95, 114, 101, 102]
  · have h := h1
    clear h1
    have f0 : (s.toList == [115, 101, 108, 102]) = false := by rw [h]; rfl
    have f1 : (s.toList == [109, 97, 107, 101, 95, 114, 101, 102]) = true := by rw [h]; rfl
    have f2 : (s.toList == [110, 111, 119]) = false := by rw [h]; rfl
    have f3 : (s.toList == [108, 105, 110, 107]) = false := by rw [h]; rfl
    have f4 : (s.toList == [109, 111, 110, 105, 116, 111, 114]) = false := by rw [h]; rfl
    have f5 : (s.toList == [101, 114, 114, 111, 114]) = false := by rw [h]; rfl
    have f6 : (s.toList == [116, 104, 114, 111, 119]) = false := by rw [h]; rfl
    have f7 : (s.toList == [116, 114, 97, 112, 95, 101, 120, 105, 116]) = false := by rw [h]; rfl
    have f8 : (s.toList == [114, 101, 103, 105, 115, 116, 101, 114]) = false := by rw [h]; rfl
    have f9 : (s.toList == [119, 104, 101, 114, 101, 105, 115]) = false := by rw [h]; rfl
    have f10 : (s.toList == [108, 101, 110, 103, 116, 104]) = false := by rw [h]; rfl
    have f11 : (s.toList == [104, 100]) = false := by rw [h]; rfl
    have f12 : (s.toList == [116, 108]) = false := by rw [h]; rfl
    have f13 : (s.toList == [116, 117, 112, 108, 101, 95, 115, 105, 122, 101]) = false := by rw [h]; rfl
    have f14 : (s.toList == [111, 117, 116]) = false := by rw [h]; rfl
    have f15 : (s.toList == [119, 104, 105, 99, 104, 95, 99, 104, 105, 108, 100, 114, 101, 110]) = false := by rw [h]; rfl
    have f16 : (s.toList == [101, 120, 105, 116]) = false := by rw [h]; rfl
    have f17 : (s.toList == [101, 108, 101, 109, 101, 110, 116]) = false := by rw [h]; rfl
    have f18 : (s.toList == [115, 101, 110, 100]) = false := by rw [h]; rfl
    have f19 : (s.toList == [99, 97, 115, 116]) = false := by rw [h]; rfl
    have f20 : (s.toList == [115, 116, 97, 114, 116, 95, 99, 104, 105, 108, 100]) = false := by rw [h]; rfl
    have f21 : (s.toList == [116, 101, 114, 109, 105, 110, 97, 116, 101, 95, 99, 104, 105, 108, 100]) = false := by rw [h]; rfl
    have f22 : (s.toList == [114, 101, 115, 116, 97, 114, 116, 95, 99, 104, 105, 108, 100]) = false := by rw [h]; rfl
    have f23 : (s.toList == [100, 101, 108, 101, 116, 101, 95, 99, 104, 105, 108, 100]) = false := by rw [h]; rfl
    have f24 : (s.toList == [115, 112, 97, 119, 110, 95, 108, 105, 110, 107]) = false := by rw [h]; rfl
    have f25 : (s.toList == [99, 97, 108, 108]) = false := by rw [h]; rfl
    have HB : Hid (builtB s n = (n == 0)) := by show _ = _; unfold builtB; rw [← Go.Lib.toList_data, h]; simp [built0, built1, built2, built3]
    clear h h0
    rw [HB.out]
    clear HB
    go_enter Tryz.func12, Tryz.ntmps12
    go_wp2_with fail
    all_goals
      go_ret
      exact ⟨ret_bool (by simp_all), rfl⟩
  by_cases h2 : s.toList = [110, 111, 119]
  · have h := h2
    clear h2
    have f0 : (s.toList == [115, 101, 108, 102]) = false := by rw [h]; rfl
    have f1 : (s.toList == [109, 97, 107, 101, 95, 114, 101, 102]) = false := by rw [h]; rfl
    have f2 : (s.toList == [110, 111, 119]) = true := by rw [h]; rfl
    have f3 : (s.toList == [108, 105, 110, 107]) = false := by rw [h]; rfl
    have f4 : (s.toList == [109, 111, 110, 105, 116, 111, 114]) = false := by rw [h]; rfl
    have f5 : (s.toList == [101, 114, 114, 111, 114]) = false := by rw [h]; rfl
    have f6 : (s.toList == [116, 104, 114, 111, 119]) = false := by rw [h]; rfl
    have f7 : (s.toList == [116, 114, 97, 112, 95, 101, 120, 105, 116]) = false := by rw [h]; rfl
    have f8 : (s.toList == [114, 101, 103, 105, 115, 116, 101, 114]) = false := by rw [h]; rfl
    have f9 : (s.toList == [119, 104, 101, 114, 101, 105, 115]) = false := by rw [h]; rfl
    have f10 : (s.toList == [108, 101, 110, 103, 116, 104]) = false := by rw [h]; rfl
    have f11 : (s.toList == [104, 100]) = false := by rw [h]; rfl
    have f12 : (s.toList == [116, 108]) = false := by rw [h]; rfl
    have f13 : (s.toList == [116, 117, 112, 108, 101, 95, 115, 105, 122, 101]) = false := by rw [h]; rfl
    have f14 : (s.toList == [111, 117, 116]) = false := by rw [h]; rfl
    have f15 : (s.toList == [119, 104, 105, 99, 104, 95, 99, 104, 105, 108, 100, 114, 101, 110]) = false := by rw [h]; rfl
    have f16 : (s.toList == [101, 120, 105, 116]) = false := by rw [h]; rfl
    have f17 : (s.toList == [101, 108, 101, 109, 101, 110, 116]) = false := by rw [h]; rfl
    have f18 : (s.toList == [115, 101, 110, 100]) = false := by rw [h]; rfl
    have f19 : (s.toList == [99, 97, 115, 116]) = false := by rw [h]; rfl
    have f20 : (s.toList == [115, 116, 97, 114, 116, 95, 99, 104, 105, 108, 100]) = false := by rw [h]; rfl
    have f21 : (s.toList == [116, 101, 114, 109, 105, 110, 97, 116, 101, 95, 99, 104, 105, 108, 100]) = false := by rw [h]; rfl
    have f22 : (s.toList == [114, 101, 115, 116, 97, 114, 116, 95, 99, 104, 105, 108, 100]) = false := by rw [h]; rfl
    have f23 : (s.toList == [100, 101, 108, 101, 116, 101, 95, 99, 104, 105, 108, 100]) = false := by rw [h]; rfl
    have f24 : (s.toList == [115, 112, 97, 119, 110, 95, 108, 105, 110, 107]) = false := by rw [h]; rfl
    have f25 : (s.toList == [99, 97, 108, 108]) = false := by rw [h]; rfl
    have HB : Hid (builtB s n = (n == 0)) := by show _ = _; unfold builtB; rw [← Go.Lib.toList_data, h]; simp [built0, built1, built2, built3]
    clear h h0 h1
    rw [HB.out]
    clear HB
    go_enter Tryz.func12, Tryz.ntmps12
    go_wp2_with fail
    all_goals
      go_ret
      exact ⟨ret_bool (by simp_all), rfl⟩
  by_cases h3 : s.toList = [108, 105, 110, 107]
  · have h := h3
    clear h3
    have f0 : (s.toList == [115, 101, 108, 102]) = false := by rw [h]; rfl
    have f1 : (s.toList == [109, 97, 107, 101, 95, 114, 101, 102]) = false := by rw [h]; rfl
    have f2 : (s.toList == [110, 111, 119]) = false := by rw [h]; rfl
    have f3 : (s.toList == [108, 105, 110, 107]) = true := by rw [h]; rfl
    have f4 : (s.toList == [109, 111, 110, 105, 116, 111, 114]) = false := by rw [h]; rfl
    have f5 : (s.toList == [101, 114, 114, 111, 114]) = false := by rw [h]; rfl
    have f6 : (s.toList == [116, 104, 114, 111, 119]) = false := by rw [h]; rfl
    have f7 : (s.toList == [116, 114, 97, 112, 95, 101, 120, 105, 116]) = false := by rw [h]; rfl
    have f8 : (s.toList == [114, 101, 103, 105, 115, 116, 101, 114]) = false := by rw [h]; rfl
    have f9 : (s.toList == [119, 104, 101, 114, 101, 105, 115]) = false := by rw [h]; rfl
    have f10 : (s.toList == [108, 101, 110, 103, 116, 104]) = false := by rw [h]; rfl
    have f11 : (s.toList == [104, 100]) = false := by rw [h]; rfl
    have f12 : (s.toList == [116, 108]) = false := by rw [h]; rfl
    have f13 : (s.toList == [116, 117, 112, 108, 101, 95, 115, 105, 122, 101]) = false := by rw [h]; rfl
    have f14 : (s.toList == [111, 117, 116]) = false := by rw [h]; rfl
    have f15 : (s.toList == [119, 104, 105, 99, 104, 95, 99, 104, 105, 108, 100, 114, 101, 110]) = false := by rw [h]; rfl
    have f16 : (s.toList == [101, 120, 105, 116]) = false := by rw [h]; rfl
    have f17 : (s.toList == [101, 108, 101, 109, 101, 110, 116]) = false := by rw [h]; rfl
    have f18 : (s.toList == [115, 101, 110, 100]) = false := by rw [h]; rfl
    have f19 : (s.toList == [99, 97, 115, 116]) = false := by rw [h]; rfl
    have f20 : (s.toList == [115, 116, 97, 114, 116, 95, 99, 104, 105, 108, 100]) = false := by rw [h]; rfl
    have f21 : (s.toList == [116, 101, 114, 109, 105, 110, 97, 116, 101, 95, 99, 104, 105, 108, 100]) = false := by rw [h]; rfl
    have f22 : (s.toList == [114, 101, 115, 116, 97, 114, 116, 95, 99, 104, 105, 108, 100]) = false := by rw [h]; rfl
    have f23 : (s.toList == [100, 101, 108, 101, 116, 101, 95, 99, 104, 105, 108, 100]) = false := by rw [h]; rfl
    have f24 : (s.toList == [115, 112, 97, 119, 110, 95, 108, 105, 110, 107]) = false := by rw [h]; rfl
    have f25 : (s.toList == [99, 97, 108, 108]) = false := by rw [h]; rfl
    have HB : Hid (builtB s n = (n == 1)) := by show _ = _; unfold builtB; rw [← Go.Lib.toList_data, h]; simp [built0, built1, built2, built3]
    clear h h0 h1 h2
    rw [HB.out]
    clear HB
    go_enter Tryz.func12, Tryz.ntmps12
    go_wp2_with fail
    all_goals
      go_ret
      exact ⟨ret_bool (by simp_all), rfl⟩
  by_cases h4 : s.toList = [109, 111, 110, 105, 116, 111, 114]
  · have h := h4
    clear h4
    have f0 : (s.toList == [115, 101, 108, 102]) = false := by rw [h]; rfl
    have f1 : (s.toList == [109, 97, 107, 101, 95, 114, 101, 102]) = false := by rw [h]; rfl
    have f2 : (s.toList == [110, 111, 119]) = false := by rw [h]; rfl
    have f3 : (s.toList == [108, 105, 110, 107]) = false := by rw [h]; rfl
    have f4 : (s.toList == [109, 111, 110, 105, 116, 111, 114]) = true := by rw [h]; rfl
    have f5 : (s.toList == [101, 114, 114, 111, 114]) = false := by rw [h]; rfl
    have f6 : (s.toList == [116, 104, 114, 111, 119]) = false := by rw [h]; rfl
    have f7 : (s.toList == [116, 114, 97, 112, 95, 101, 120, 105, 116]) = false := by rw [h]; rfl
    have f8 : (s.toList == [114, 101, 103, 105, 115, 116, 101, 114]) = false := by rw [h]; rfl
    have f9 : (s.toList == [119, 104, 101, 114, 101, 105, 115]) = false := by rw [h]; rfl
    have f10 : (s.toList == [108, 101, 110, 103, 116, 104]) = false := by rw [h]; rfl
    have f11 : (s.toList == [104, 100]) = false := by rw [h]; rfl
    have f12 : (s.toList == [116, 108]) = false := by rw [h]; rfl
    have f13 : (s.toList == [116, 117, 112, 108, 101, 95, 115, 105, 122, 101]) = false := by rw [h]; rfl
    have f14 : (s.toList == [111, 117, 116]) = false := by rw [h]; rfl
    have f15 : (s.toList == [119, 104, 105, 99, 104, 95, 99, 104, 105, 108, 100, 114, 101, 110]) = false := by rw [h]; rfl
    have f16 : (s.toList == [101, 120, 105, 116]) = false := by rw [h]; rfl
    have f17 : (s.toList == [101, 108, 101, 109, 101, 110, 116]) = false := by rw [h]; rfl
    have f18 : (s.toList == [115, 101, 110, 100]) = false := by rw [h]; rfl
    have f19 : (s.toList == [99, 97, 115, 116]) = false := by rw [h]; rfl
    have f20 : (s.toList == [115, 116, 97, 114, 116, 95, 99, 104, 105, 108, 100]) = false := by rw [h]; rfl
    have f21 : (s.toList == [116, 101, 114, 109, 105, 110, 97, 116, 101, 95, 99, 104, 105, 108, 100]) = false := by rw [h]; rfl
    have f22 : (s.toList == [114, 101, 115, 116, 97, 114, 116, 95, 99, 104, 105, 108, 100]) = false := by rw [h]; rfl
    have f23 : (s.toList == [100, 101, 108, 101, 116, 101, 95, 99, 104, 105, 108, 100]) = false := by rw [h]; rfl
    have f24 : (s.toList == [115, 112, 97, 119, 110, 95, 108, 105, 110, 107]) = false := by rw [h]; rfl
    have f25 : (s.toList == [99, 97, 108, 108]) = false := by rw [h]; rfl
    have HB : Hid (builtB s n = (n == 1)) := by show _ = _; unfold builtB; rw [← Go.Lib.toList_data, h]; simp [built0, built1, built2, built3]
    clear h h0 h1 h2 h3
    rw [HB.out]
    clear HB
    go_enter Tryz.func12, Tryz.ntmps12
    go_wp2_with fail
    all_goals
      go_ret
      exact ⟨ret_bool (by simp_all), rfl⟩
  by_cases h5 : s.toList = [101, 114, 114, 111, 114]
  · have h := h5
    clear h5
    have f0 : (s.toList == [115, 101, 108, 102]) = false := by rw [h]; rfl
    have f1 : (s.toList == [109, 97, 107, 101, 95, 114, 101, 102]) = false := by rw [h]; rfl
    have f2 : (s.toList == [110, 111, 119]) = false := by rw [h]; rfl
    have f3 : (s.toList == [108, 105, 110, 107]) = false := by rw [h]; rfl
    have f4 : (s.toList == [109, 111, 110, 105, 116, 111, 114]) = false := by rw [h]; rfl
    have f5 : (s.toList == [101, 114, 114, 111, 114]) = true := by rw [h]; rfl
    have f6 : (s.toList == [116, 104, 114, 111, 119]) = false := by rw [h]; rfl
    have f7 : (s.toList == [116, 114, 97, 112, 95, 101, 120, 105, 116]) = false := by rw [h]; rfl
    have f8 : (s.toList == [114, 101, 103, 105, 115, 116, 101, 114]) = false := by rw [h]; rfl
    have f9 : (s.toList == [119, 104, 101, 114, 101, 105, 115]) = false := by rw [h]; rfl
    have f10 : (s.toList == [108, 101, 110, 103, 116, 104]) = false := by rw [h]; rfl
    have f11 : (s.toList == [104, 100]) = false := by rw [h]; rfl
    have f12 : (s.toList == [116, 108]) = false := by rw [h]; rfl
    have f13 : (s.toList == [116, 117, 112, 108, 101, 95, 115, 105, 122, 101]) = false := by rw [h]; rfl
    have f14 : (s.toList == [111, 117, 116]) = false := by rw [h]; rfl
    have f15 : (s.toList == [119, 104, 105, 99, 104, 95, 99, 104, 105, 108, 100, 114, 101, 110]) = false := by rw [h]; rfl
    have f16 : (s.toList == [101, 120, 105, 116]) = false := by rw [h]; rfl
    have f17 : (s.toList == [101, 108, 101, 109, 101, 110, 116]) = false := by rw [h]; rfl
    have f18 : (s.toList == [115, 101, 110, 100]) = false := by rw [h]; rfl
    have f19 : (s.toList == [99, 97, 115, 116]) = false := by rw [h]; rfl
    have f20 : (s.toList == [115, 116, 97, 114, 116, 95, 99, 104, 105, 108, 100]) = false := by rw [h]; rfl
    have f21 : (s.toList == [116, 101, 114, 109, 105, 110, 97, 116, 101, 95, 99, 104, 105, 108, 100]) = false := by rw [h]; rfl
    have f22 : (s.toList == [114, 101, 115, 116, 97, 114, 116, 95, 99, 104, 105, 108, 100]) = false := by rw [h]; rfl
    have f23 : (s.toList == [100, 101, 108, 101, 116, 101, 95, 99, 104, 105, 108, 100]) = false := by rw [h]; rfl
    have f24 : (s.toList == [115, 112, 97, 119, 110, 95, 108, 105, 110, 107]) = false := by rw [h]; rfl
    have f25 : (s.toList == [99, 97, 108, 108]) = false := by rw [h]; rfl
    have HB : Hid (builtB s n = (n == 1)) := by show _ = _; unfold builtB; rw [← Go.Lib.toList_data, h]; simp [built0, built1, built2, built3]
    clear h h0 h1 h2 h3 h4
    rw [HB.out]
    clear HB
    go_enter Tryz.func12, Tryz.ntmps12
    go_wp2_with fail
    all_goals
      go_ret
      exact ⟨ret_bool (by simp_all), rfl⟩
  by_cases h6 : s.toList = [116, 104, 114, 111, 119]
  · have h := h6
    clear h6
    have f0 : (s.toList == [115, 101, 108, 102]) = false := by rw [h]; rfl
    have f1 : (s.toList == [109, 97, 107, 101, 95, 114, 101, 102]) = false := by rw [h]; rfl
    have f2 : (s.toList == [110, 111, 119]) = false := by rw [h]; rfl
    have f3 : (s.toList == [108, 105, 110, 107]) = false := by rw [h]; rfl
    have f4 : (s.toList == [109, 111, 110, 105, 116, 111, 114]) = false := by rw [h]; rfl
    have f5 : (s.toList == [101, 114, 114, 111, 114]) = false := by rw [h]; rfl
    have f6 : (s.toList == [116, 104, 114, 111, 119]) = true := by rw [h]; rfl
    have f7 : (s.toList == [116, 114, 97, 112, 95, 101, 120, 105, 116]) = false := by rw [h]; rfl
    have f8 : (s.toList == [114, 101, 103, 105, 115, 116, 101, 114]) = false := by rw [h]; rfl
    have f9 : (s.toList == [119, 104, 101, 114, 101, 105, 115]) = false := by rw [h]; rfl
    have f10 : (s.toList == [108, 101, 110, 103, 116, 104]) = false := by rw [h]; rfl
    have f11 : (s.toList == [104, 100]) = false := by rw [h]; rfl
    have f12 : (s.toList == [116, 108]) = false := by rw [h]; rfl
    have f13 : (s.toList == [116, 117, 112, 108, 101, 95, 115, 105, 122, 101]) = false := by rw [h]; rfl
    have f14 : (s.toList == [111, 117, 116]) = false := by rw [h]; rfl
    have f15 : (s.toList == [119, 104, 105, 99, 104, 95, 99, 104, 105, 108, 100, 114, 101, 110]) = false := by rw [h]; rfl
    have f16 : (s.toList == [101, 120, 105, 116]) = false := by rw [h]; rfl
    have f17 : (s.toList == [101, 108, 101, 109, 101, 110, 116]) = false := by rw [h]; rfl
    have f18 : (s.toList == [115, 101, 110, 100]) = false := by rw [h]; rfl
    have f19 : (s.toList == [99, 97, 115, 116]) = false := by rw [h]; rfl
    have f20 : (s.toList == [115, 116, 97, 114, 116, 95, 99, 104, 105, 108, 100]) = false := by rw [h]; rfl
    have f21 : (s.toList == [116, 101, 114, 109, 105, 110, 97, 116, 101, 95, 99, 104, 105, 108, 100]) = false := by rw [h]; rfl
    have f22 : (s.toList == [114, 101, 115, 116, 97, 114, 116, 95, 99, 104, 105, 108, 100]) = false := by rw [h]; rfl
    have f23 : (s.toList == [100, 101, 108, 101, 116, 101, 95, 99, 104, 105, 108, 100]) = false := by rw [h]; rfl
    have f24 : (s.toList == [115, 112, 97, 119, 110, 95, 108, 105, 110, 107]) = false := by rw [h]; rfl
    have f25 : (s.toList == [99, 97, 108, 108]) = false := by rw [h]; rfl
    have HB : Hid (builtB s n = (n == 1)) := by show _ = _; unfold builtB; rw [← Go.Lib.toList_data, h]; simp [built0, built1, built2, built3]
    clear h h0 h1 h2 h3 h4 h5
    rw [HB.out]
    clear HB
    go_enter Tryz.func12, Tryz.ntmps12
    go_wp2_with fail
    all_goals
      go_ret
      exact ⟨ret_bool (by simp_all), rfl⟩
  by_cases h7 : s.toList = [116, 114, 97, 112, 95, 101, 120, 105, 116]
  · have h := h7
    clear h7
    have f0 : (s.toList == [115, 101, 108, 102]) = false := by rw [h]; rfl
    have f1 : (s.toList == [109, 97, 107, 101, 95, 114, 101, 102]) = false := by rw [h]; rfl
    have f2 : (s.toList == [110, 111, 119]) = false := by rw [h]; rfl
    have f3 : (s.toList == [108, 105, 110, 107]) = false := by rw [h]; rfl
    have f4 : (s.toList == [109, 111, 110, 105, 116, 111, 114]) = false := by rw [h]; rfl
    have f5 : (s.toList == [101, 114, 114, 111, 114]) = false := by rw [h]; rfl
    have f6 : (s.toList == [116, 104, 114, 111, 119]) = false := by rw [h]; rfl
    have f7 : (s.toList == [116, 114, 97, 112, 95, 101, 120, 105, 116]) = true := by rw [h]; rfl
    have f8 : (s.toList == [114, 101, 103, 105, 115, 116, 101, 114]) = false := by rw [h]; rfl
    have f9 : (s.toList == [119, 104, 101, 114, 101, 105, 115]) = false := by rw [h]; rfl
    have f10 : (s.toList == [108, 101, 110, 103, 116, 104]) = false := by rw [h]; rfl
    have f11 : (s.toList == [104, 100]) = false := by rw [h]; rfl
    have f12 : (s.toList == [116, 108]) = false := by rw [h]; rfl
    have f13 : (s.toList == [116, 117, 112, 108, 101, 95, 115, 105, 122, 101]) = false := by rw [h]; rfl
    have f14 : (s.toList == [111, 117, 116]) = false := by rw [h]; rfl
    have f15 : (s.toList == [119, 104, 105, 99, 104, 95, 99, 104, 105, 108, 100, 114, 101, 110]) = false := by rw [h]; rfl
    have f16 : (s.toList == [101, 120, 105, 116]) = false := by rw [h]; rfl
    have f17 : (s.toList == [101, 108, 101, 109, 101, 110, 116]) = false := by rw [h]; rfl
    have f18 : (s.toList == [115, 101, 110, 100]) = false := by rw [h]; rfl
    have f19 : (s.toList == [99, 97, 115, 116]) = false := by rw [h]; rfl
    have f20 : (s.toList == [115, 116, 97, 114, 116, 95, 99, 104, 105, 108, 100]) = false := by rw [h]; rfl
    have f21 : (s.toList == [116, 101, 114, 109, 105, 110, 97, 116, 101, 95, 99, 104, 105, 108, 100]) = false := by rw [h]; rfl
    have f22 : (s.toList == [114, 101, 115, 116, 97, 114, 116, 95, 99, 104, 105, 108, 100]) = false := by rw [h]; rfl
    have f23 : (s.toList == [100, 101, 108, 101, 116, 101, 95, 99, 104, 105, 108, 100]) = false := by rw [h]; rfl
    have f24 : (s.toList == [115, 112, 97, 119, 110, 95, 108, 105, 110, 107]) = false := by rw [h]; rfl
    have f25 : (s.toList == [99, 97, 108, 108]) = false := by rw [h]; rfl
    have HB : Hid (builtB s n = (n == 1)) := by show _ = _; unfold builtB; rw [← Go.Lib.toList_data, h]; simp [built0, built1, built2, built3]
    clear h h0 h1 h2 h3 h4 h5 h6
    rw [HB.out]
    clear HB
    go_enter Tryz.func12, Tryz.ntmps12
    go_wp2_with fail
    all_goals
      go_ret
      exact ⟨ret_bool (by simp_all), rfl⟩
  by_cases h8 : s.toList = [114, 101, 103, 105, 115, 116, 101, 114]
  · have h := h8
    clear h8
    have f0 : (s.toList == [115, 101, 108, 102]) = false := by rw [h]; rfl
    have f1 : (s.toList == [109, 97, 107, 101, 95, 114, 101, 102]) = false := by rw [h]; rfl
    have f2 : (s.toList == [110, 111, 119]) = false := by rw [h]; rfl
    have f3 : (s.toList == [108, 105, 110, 107]) = false := by rw [h]; rfl
    have f4 : (s.toList == [109, 111, 110, 105, 116, 111, 114]) = false := by rw [h]; rfl
    have f5 : (s.toList == [101, 114, 114, 111, 114]) = false := by rw [h]; rfl
    have f6 : (s.toList == [116, 104, 114, 111, 119]) = false := by rw [h]; rfl
    have f7 : (s.toList == [116, 114, 97, 112, 95, 101, 120, 105, 116]) = false := by rw [h]; rfl
    have f8 : (s.toList == [114, 101, 103, 105, 115, 116, 101, 114]) = true := by rw [h]; rfl
    have f9 : (s.toList == [119, 104, 101, 114, 101, 105, 115]) = false := by rw [h]; rfl
    have f10 : (s.toList == [108, 101, 110, 103, 116, 104]) = false := by rw [h]; rfl
    have f11 : (s.toList == [104, 100]) = false := by rw [h]; rfl
    have f12 : (s.toList == [116, 108]) = false := by rw [h]; rfl
    have f13 : (s.toList == [116, 117, 112, 108, 101, 95, 115, 105, 122, 101]) = false := by rw [h]; rfl
    have f14 : (s.toList == [111, 117, 116]) = false := by rw [h]; rfl
    have f15 : (s.toList == [119, 104, 105, 99, 104, 95, 99, 104, 105, 108, 100, 114, 101, 110]) = false := by rw [h]; rfl
    have f16 : (s.toList == [101, 120, 105, 116]) = false := by rw [h]; rfl
    have f17 : (s.toList == [101, 108, 101, 109, 101, 110, 116]) = false := by rw [h]; rfl
    have f18 : (s.toList == [115, 101, 110, 100]) = false := by rw [h]; rfl
    have f19 : (s.toList == [99, 97, 115, 116]) = false := by rw [h]; rfl
    have f20 : (s.toList == [115, 116, 97, 114, 116, 95, 99, 104, 105, 108, 100]) = false := by rw [h]; rfl
    have f21 : (s.toList == [116, 101, 114, 109, 105, 110, 97, 116, 101, 95, 99, 104, 105, 108, 100]) = false := by rw [h]; rfl
    have f22 : (s.toList == [114, 101, 115, 116, 97, 114, 116, 95, 99, 104, 105, 108, 100]) = false := by rw [h]; rfl
    have f23 : (s.toList == [100, 101, 108, 101, 116, 101, 95, 99, 104, 105, 108, 100]) = false := by rw [h]; rfl
    have f24 : (s.toList == [115, 112, 97, 119, 110, 95, 108, 105, 110, 107]) = false := by rw [h]; rfl
    have f25 : (s.toList == [99, 97, 108, 108]) = false := by rw [h]; rfl
    have HB : Hid (builtB s n = (n == 1)) := by show _ = _; unfold builtB; rw [← Go.Lib.toList_data, h]; simp [built0, built1, built2, built3]
    clear h h0 h1 h2 h3 h4 h5 h6 h7
    rw [HB.out]
    clear HB
    go_enter Tryz.func12, Tryz.ntmps12
    go_wp2_with fail
    all_goals
      go_ret
      exact ⟨ret_bool (by simp_all), rfl⟩
  by_cases h9 : s.toList = [119, 104, 101, 114, 101, 105, 115]
  · have h := h9
    clear h9
    have f0 : (s.toList == [115, 101, 108, 102]) = false := by rw [h]; rfl
    have f1 : (s.toList == [109, 97, 107, 101, 95, 114, 101, 102]) = false := by rw [h]; rfl
    have f2 : (s.toList == [110, 111, 119]) = false := by rw [h]; rfl
    have f3 : (s.toList == [108, 105, 110, 107]) = false := by rw [h]; rfl
    have f4 : (s.toList == [109, 111, 110, 105, 116, 111, 114]) = false := by rw [h]; rfl
    have f5 : (s.toList == [101, 114, 114, 111, 114]) = false := by rw [h]; rfl
    have f6 : (s.toList == [116, 104, 114, 111, 119]) = false := by rw [h]; rfl
    have f7 : (s.toList == [116, 114, 97, 112, 95, 101, 120, 105, 116]) = false := by rw [h]; rfl
    have f8 : (s.toList == [114, 101, 103, 105, 115, 116, 101, 114]) = false := by rw [h]; rfl
    have f9 : (s.toList == [119, 104, 101, 114, 101, 105, 115]) = true := by rw [h]; rfl
    have f10 : (s.toList == [108, 101, 110, 103, 116, 104]) = false := by rw [h]; rfl
    have f11 : (s.toList == [104, 100]) = false := by rw [h]; rfl
    have f12 : (s.toList == [116, 108]) = false := by rw [h]; rfl
    have f13 : (s.toList == [116, 117, 112, 108, 101, 95, 115, 105, 122, 101]) = false := by rw [h]; rfl
    have f14 : (s.toList == [111, 117, 116]) = false := by rw [h]; rfl
    have f15 : (s.toList == [119, 104, 105, 99, 104, 95, 99, 104, 105, 108, 100, 114, 101, 110]) = false := by rw [h]; rfl
    have f16 : (s.toList == [101, 120, 105, 116]) = false := by rw [h]; rfl
    have f17 : (s.toList == [101, 108, 101, 109, 101, 110, 116]) = false := by rw [h]; rfl
    have f18 : (s.toList == [115, 101, 110, 100]) = false := by rw [h]; rfl
    have f19 : (s.toList == [99, 97, 115, 116]) = false := by rw [h]; rfl
    have f20 : (s.toList == [115, 116, 97, 114, 116, 95, 99, 104, 105, 108, 100]) = false := by rw [h]; rfl
    have f21 : (s.toList == [116, 101, 114, 109, 105, 110, 97, 116, 101, 95, 99, 104, 105, 108, 100]) = false := by rw [h]; rfl
    have f22 : (s.toList == [114, 101, 115, 116, 97, 114, 116, 95, 99, 104, 105, 108, 100]) = false := by rw [h]; rfl
    have f23 : (s.toList == [100, 101, 108, 101, 116, 101, 95, 99, 104, 105, 108, 100]) = false := by rw [h]; rfl
    have f24 : (s.toList == [115, 112, 97, 119, 110, 95, 108, 105, 110, 107]) = false := by rw [h]; rfl
    have f25 : (s.toList == [99, 97, 108, 108]) = false := by rw [h]; rfl
    have HB : Hid (builtB s n = (n == 1)) := by show _ = _; unfold builtB; rw [← Go.Lib.toList_data, h]; simp [built0, built1, built2, built3]
    clear h h0 h1 h2 h3 h4 h5 h6 h7 h8
    rw [HB.out]
    clear HB
    go_enter Tryz.func12, Tryz.ntmps12
    go_wp2_with fail
    all_goals
      go_ret
      exact ⟨ret_bool (by simp_all), rfl⟩
  by_cases h10 : s.toList = [108, 101, 110, 103, 116, 104]
  · have h := h10
    clear h10
    have f0 : (s.toList == [115, 101, 108, 102]) = false := by rw [h]; rfl
    have f1 : (s.toList == [109, 97, 107, 101, 95, 114, 101, 102]) = false := by rw [h]; rfl
    have f2 : (s.toList == [110, 111, 119]) = false := by rw [h]; rfl
    have f3 : (s.toList == [108, 105, 110, 107]) = false := by rw [h]; rfl
    have f4 : (s.toList == [109, 111, 110, 105, 116, 111, 114]) = false := by rw [h]; rfl
    have f5 : (s.toList == [101, 114, 114, 111, 114]) = false := by rw [h]; rfl
    have f6 : (s.toList == [116, 104, 114, 111, 119]) = false := by rw [h]; rfl
    have f7 : (s.toList == [116, 114, 97, 112, 95, 101, 120, 105, 116]) = false := by rw [h]; rfl
    have f8 : (s.toList == [114, 101, 103, 105, 115, 116, 101, 114]) = false := by rw [h]; rfl
    have f9 : (s.toList == [119, 104, 101, 114, 101, 105, 115]) = false := by rw [h]; rfl
    have f10 : (s.toList == [108, 101, 110, 103, 116, 104]) = true := by rw [h]; rfl
    have f11 : (s.toList == [104, 100]) = false := by rw [h]; rfl
    have f12 : (s.toList == [116, 108]) = false := by rw [h]; rfl
    have f13 : (s.toList == [116, 117, 112, 108, 101, 95, 115, 105, 122, 101]) = false := by rw [h]; rfl
    have f14 : (s.toList == [111, 117, 116]) = false := by rw [h]; rfl
    have f15 : (s.toList == [119, 104, 105, 99, 104, 95, 99, 104, 105, 108, 100, 114, 101, 110]) = false := by rw [h]; rfl
    have f16 : (s.toList == [101, 120, 105, 116]) = false := by rw [h]; rfl
    have f17 : (s.toList == [101, 108, 101, 109, 101, 110, 116]) = false := by rw [h]; rfl
    have f18 : (s.toList == [115, 101, 110, 100]) = false := by rw [h]; rfl
    have f19 : (s.toList == [99, 97, 115, 116]) = false := by rw [h]; rfl
    have f20 : (s.toList == [115, 116, 97, 114, 116, 95, 99, 104, 105, 108, 100]) = false := by rw [h]; rfl
    have f21 : (s.toList == [116, 101, 114, 109, 105, 110, 97, 116, 101, 95, 99, 104, 105, 108, 100]) = false := by rw [h]; rfl
    have f22 : (s.toList == [114, 101, 115, 116, 97, 114, 116, 95, 99, 104, 105, 108, 100]) = false := by rw [h]; rfl
    have f23 : (s.toList == [100, 101, 108, 101, 116, 101, 95, 99, 104, 105, 108, 100]) = false := by rw [h]; rfl
    have f24 : (s.toList == [115, 112, 97, 119, 110, 95, 108, 105, 110, 107]) = false := by rw [h]; rfl
    have f25 : (s.toList == [99, 97, 108, 108]) = false := by rw [h]; rfl
    have HB : Hid (builtB s n = (n == 1)) := by show _ = _; unfold builtB; rw [← Go.Lib.toList_data, h]; simp [built0, built1, built2, built3]
    clear h h0 h1 h2 h3 h4 h5 h6 h7 h8 h9
    rw [HB.out]
    clear HB
    go_enter Tryz.func12, Tryz.ntmps12
    go_wp2_with fail
    all_goals
      go_ret
      exact ⟨ret_bool (by simp_all), rfl⟩
  by_cases h11 : s.toList = [104, 100]
  · have h := h11
    clear h11
    have f0 : (s.toList == [115, 101, 108, 102]) = false := by rw [h]; rfl
    have f1 : (s.toList == [109, 97, 107, 101, 95, 114, 101, 102]) = false := by rw [h]; rfl
    have f2 : (s.toList == [110, 111, 119]) = false := by rw [h]; rfl
    have f3 : (s.toList == [108, 105, 110, 107]) = false := by rw [h]; rfl
    have f4 : (s.toList == [109, 111, 110, 105, 116, 111, 114]) = false := by rw [h]; rfl
    have f5 : (s.toList == [101, 114, 114, 111, 114]) = false := by rw [h]; rfl
    have f6 : (s.toList == [116, 104, 114, 111, 119]) = false := by rw [h]; rfl
    have f7 : (s.toList == [116, 114, 97, 112, 95, 101, 120, 105, 116]) = false := by rw [h]; rfl
    have f8 : (s.toList == [114, 101, 103, 105, 115, 116, 101, 114]) = false := by rw [h]; rfl
    have f9 : (s.toList == [119, 104, 101, 114, 101, 105, 115]) = false := by rw [h]; rfl
    have f10 : (s.toList == [108, 101, 110, 103, 116, 104]) = false := by rw [h]; rfl
    have f11 : (s.toList == [104, 100]) = true := by rw [h]; rfl
    have f12 : (s.toList == [116, 108]) = false := by rw [h]; rfl
    have f13 : (s.toList == [116, 117, 112, 108, 101, 95, 115, 105, 122, 101]) = false := by rw [h]; rfl
    have f14 : (s.toList == [111, 117, 116]) = false := by rw [h]; rfl
    have f15 : (s.toList == [119, 104, 105, 99, 104, 95, 99, 104, 105, 108, 100, 114, 101, 110]) = false := by rw [h]; rfl
    have f16 : (s.toList == [101, 120, 105, 116]) = false := by rw [h]; rfl
    have f17 : (s.toList == [101, 108, 101, 109, 101, 110, 116]) = false := by rw [h]; rfl
    have f18 : (s.toList == [115, 101, 110, 100]) = false := by rw [h]; rfl
    have f19 : (s.toList == [99, 97, 115, 116]) = false := by rw [h]; rfl
    have f20 : (s.toList == [115, 116, 97, 114, 116, 95, 99, 104, 105, 108, 100]) = false := by rw [h]; rfl
    have f21 : (s.toList == [116, 101, 114, 109, 105, 110, 97, 116, 101, 95, 99, 104, 105, 108, 100]) = false := by rw [h]; rfl
    have f22 : (s.toList == [114, 101, 115, 116, 97, 114, 116, 95, 99, 104, 105, 108, 100]) = false := by rw [h]; rfl
    have f23 : (s.toList == [100, 101, 108, 101, 116, 101, 95, 99, 104, 105, 108, 100]) = false := by rw [h]; rfl
    have f24 : (s.toList == [115, 112, 97, 119, 110, 95, 108, 105, 110, 107]) = false := by rw [h]; rfl
    have f25 : (s.toList == [99, 97, 108, 108]) = false := by rw [h]; rfl
    have HB : Hid (builtB s n = (n == 1)) := by show _ = _; unfold builtB; rw [← Go.Lib.toList_data, h]; simp [built0, built1, built2, built3]
    clear h h0 h1 h2 h3 h4 h5 h6 h7 h8 h9 h10
    rw [HB.out]
    clear HB
    go_enter Tryz.func12, Tryz.ntmps12
    go_wp2_with fail
    all_goals
      go_ret
      exact ⟨ret_bool (by simp_all), rfl⟩
  by_cases h12 : s.toList = [116, 108]
  · have h := h12
    clear h12
    have f0 : (s.toList == [115, 101, 108, 102]) = false := by rw [h]; rfl
    have f1 : (s.toList == [109, 97, 107, 101, 95, 114, 101, 102]) = false := by rw [h]; rfl
    have f2 : (s.toList == [110, 111, 119]) = false := by rw [h]; rfl
    have f3 : (s.toList == [108, 105, 110, 107]) = false := by rw [h]; rfl
    have f4 : (s.toList == [109, 111, 110, 105, 116, 111, 114]) = false := by rw [h]; rfl
    have f5 : (s.toList == [101, 114, 114, 111, 114]) = false := by rw [h]; rfl
    have f6 : (s.toList == [116, 104, 114, 111, 119]) = false := by rw [h]; rfl
    have f7 : (s.toList == [116, 114, 97, 112, 95, 101, 120, 105, 116]) = false := by rw [h]; rfl
    have f8 : (s.toList == [114, 101, 103, 105, 115, 116, 101, 114]) = false := by rw [h]; rfl
    have f9 : (s.toList == [119, 104, 101, 114, 101, 105, 115]) = false := by rw [h]; rfl
    have f10 : (s.toList == [108, 101, 110, 103, 116, 104]) = false := by rw [h]; rfl
    have f11 : (s.toList == [104, 100]) = false := by rw [h]; rfl
    have f12 : (s.toList == [116, 108]) = true := by rw [h]; rfl
    have f13 : (s.toList == [116, 117, 112, 108, 101, 95, 115, 105, 122, 101]) = false := by rw [h]; rfl
    have f14 : (s.toList == [111, 117, 116]) = false := by rw [h]; rfl
    have f15 : (s.toList == [119, 104, 105, 99, 104, 95, 99, 104, 105, 108, 100, 114, 101, 110]) = false := by rw [h]; rfl
    have f16 : (s.toList == [101, 120, 105, 116]) = false := by rw [h]; rfl
    have f17 : (s.toList == [101, 108, 101, 109, 101, 110, 116]) = false := by rw [h]; rfl
    have f18 : (s.toList == [115, 101, 110, 100]) = false := by rw [h]; rfl
    have f19 : (s.toList == [99, 97, 115, 116]) = false := by rw [h]; rfl
    have f20 : (s.toList == [115, 116, 97, 114, 116, 95, 99, 104, 105, 108, 100]) = false := by rw [h]; rfl
    have f21 : (s.toList == [116, 101, 114, 109, 105, 110, 97, 116, 101, 95, 99, 104, 105, 108, 100]) = false := by rw [h]; rfl
    have f22 : (s.toList == [114, 101, 115, 116, 97, 114, 116, 95, 99, 104, 105, 108, 100]) = false := by rw [h]; rfl
    have f23 : (s.toList == [100, 101, 108, 101, 116, 101, 95, 99, 104, 105, 108, 100]) = false := by rw [h]; rfl
    have f24 : (s.toList == [115, 112, 97, 119, 110, 95, 108, 105, 110, 107]) = false := by rw [h]; rfl
    have f25 : (s.toList == [99, 97, 108, 108]) = false := by rw [h]; rfl
    have HB : Hid (builtB s n = (n == 1)) := by show _ = _; unfold builtB; rw [← Go.Lib.toList_data, h]; simp [built0, built1, built2, built3]
    clear h h0 h1 h2 h3 h4 h5 h6 h7 h8 h9 h10 h11
    rw [HB.out]
    clear HB
    go_enter Tryz.func12, Tryz.ntmps12
    go_wp2_with fail
    all_goals
      go_ret
      exact ⟨ret_bool (by simp_all), rfl⟩
  by_cases h13 : s.toList = [116, 117, 112, 108, 101, 95, 115, 105, 122, 101]
  · have h := h13
    clear h13
    have f0 : (s.toList == [115, 101, 108, 102]) = false := by rw [h]; rfl
    have f1 : (s.toList == [109, 97, 107, 101, 95, 114, 101, 102]) = false := by rw [h]; rfl
    have f2 : (s.toList == [110, 111, 119]) = false := by rw [h]; rfl
    have f3 : (s.toList == [108, 105, 110, 107]) = false := by rw [h]; rfl
    have f4 : (s.toList == [109, 111, 110, 105, 116, 111, 114]) = false := by rw [h]; rfl
    have f5 : (s.toList == [101, 114, 114, 111, 114]) = false := by rw [h]; rfl
    have f6 : (s.toList == [116, 104, 114, 111, 119]) = false := by rw [h]; rfl
    have f7 : (s.toList == [116, 114, 97, 112, 95, 101, 120, 105, 116]) = false := by rw [h]; rfl
    have f8 : (s.toList == [114, 101, 103, 105, 115, 116, 101, 114]) = false := by rw [h]; rfl
    have f9 : (s.toList == [119, 104, 101, 114, 101, 105, 115]) = false := by rw [h]; rfl
    have f10 : (s.toList == [108, 101, 110, 103, 116, 104]) = false := by rw [h]; rfl
    have f11 : (s.toList == [104, 100]) = false := by rw [h]; rfl
    have f12 : (s.toList == [116, 108]) = false := by rw [h]; rfl
    have f13 : (s.toList == [116, 117, 112, 108, 101, 95, 115, 105, 122, 101]) = true := by rw [h]; rfl
    have f14 : (s.toList == [111, 117, 116]) = false := by rw [h]; rfl
    have f15 : (s.toList == [119, 104, 105, 99, 104, 95, 99, 104, 105, 108, 100, 114, 101, 110]) = false := by rw [h]; rfl
    have f16 : (s.toList == [101, 120, 105, 116]) = false := by rw [h]; rfl
    have f17 : (s.toList == [101, 108, 101, 109, 101, 110, 116]) = false := by rw [h]; rfl
    have f18 : (s.toList == [115, 101, 110, 100]) = false := by rw [h]; rfl
    have f19 : (s.toList == [99, 97, 115, 116]) = false := by rw [h]; rfl
    have f20 : (s.toList == [115, 116, 97, 114, 116, 95, 99, 104, 105, 108, 100]) = false := by rw [h]; rfl
    have f21 : (s.toList == [116, 101, 114, 109, 105, 110, 97, 116, 101, 95, 99, 104, 105, 108, 100]) = false := by rw [h]; rfl
    have f22 : (s.toList == [114, 101, 115, 116, 97, 114, 116, 95, 99, 104, 105, 108, 100]) = false := by rw [h]; rfl
    have f23 : (s.toList == [100, 101, 108, 101, 116, 101, 95, 99, 104, 105, 108, 100]) = false := by rw [h]; rfl
    have f24 : (s.toList == [115, 112, 97, 119, 110, 95, 108, 105, 110, 107]) = false := by rw [h]; rfl
    have f25 : (s.toList == [99, 97, 108, 108]) = false := by rw [h]; rfl
    have HB : Hid (builtB s n = (n == 1)) := by show _ = _; unfold builtB; rw [← Go.Lib.toList_data, h]; simp [built0, built1, built2, built3]
    clear h h0 h1 h2 h3 h4 h5 h6 h7 h8 h9 h10 h11 h12
    rw [HB.out]
    clear HB
    go_enter Tryz.func12, Tryz.ntmps12
    go_wp2_with fail
    all_goals
      go_ret
      exact ⟨ret_bool (by simp_all), rfl⟩
  by_cases h14 : s.toList = [111, 117, 116]
  · have h := h14
    clear h14
    have f0 : (s.toList == [115, 101, 108, 102]) = false := by rw [h]; rfl
    have f1 : (s.toList == [109, 97, 107, 101, 95, 114, 101, 102]) = false := by rw [h]; rfl
    have f2 : (s.toList == [110, 111, 119]) = false := by rw [h]; rfl
    have f3 : (s.toList == [108, 105, 110, 107]) = false := by rw [h]; rfl
    have f4 : (s.toList == [109, 111, 110, 105, 116, 111, 114]) = false := by rw [h]; rfl
    have f5 : (s.toList == [101, 114, 114, 111, 114]) = false := by rw [h]; rfl
    have f6 : (s.toList == [116, 104, 114, 111, 119]) = false := by rw [h]; rfl
    have f7 : (s.toList == [116, 114, 97, 112, 95, 101, 120, 105, 116]) = false := by rw [h]; rfl
    have f8 : (s.toList == [114, 101, 103, 105, 115, 116, 101, 114]) = false := by rw [h]; rfl
    have f9 : (s.toList == [119, 104, 101, 114, 101, 105, 115]) = false := by rw [h]; rfl
    have f10 : (s.toList == [108, 101, 110, 103, 116, 104]) = false := by rw [h]; rfl
    have f11 : (s.toList == [104, 100]) = false := by rw [h]; rfl
    have f12 : (s.toList == [116, 108]) = false := by rw [h]; rfl
    have f13 : (s.toList == [116, 117, 112, 108, 101, 95, 115, 105, 122, 101]) = false := by rw [h]; rfl
    have f14 : (s.toList == [111, 117, 116]) = true := by rw [h]; rfl
    have f15 : (s.toList == [119, 104, 105, 99, 104, 95, 99, 104, 105, 108, 100, 114, 101, 110]) = false := by rw [h]; rfl
    have f16 : (s.toList == [101, 120, 105, 116]) = false := by rw [h]; rfl
    have f17 : (s.toList == [101, 108, 101, 109, 101, 110, 116]) = false := by rw [h]; rfl
    have f18 : (s.toList == [115, 101, 110, 100]) = false := by rw [h]; rfl
    have f19 : (s.toList == [99, 97, 115, 116]) = false := by rw [h]; rfl
    have f20 : (s.toList == [115, 116, 97, 114, 116, 95, 99, 104, 105, 108, 100]) = false := by rw [h]; rfl
    have f21 : (s.toList == [116, 101, 114, 109, 105, 110, 97, 116, 101, 95, 99, 104, 105, 108, 100]) = false := by rw [h]; rfl
    have f22 : (s.toList == [114, 101, 115, 116, 97, 114, 116, 95, 99, 104, 105, 108, 100]) = false := by rw [h]; rfl
    have f23 : (s.toList == [100, 101, 108, 101, 116, 101, 95, 99, 104, 105, 108, 100]) = false := by rw [h]; rfl
    have f24 : (s.toList == [115, 112, 97, 119, 110, 95, 108, 105, 110, 107]) = false := by rw [h]; rfl
    have f25 : (s.toList == [99, 97, 108, 108]) = false := by rw [h]; rfl
    have HB : Hid (builtB s n = (n == 1)) := by show _ = _; unfold builtB; rw [← Go.Lib.toList_data, h]; simp [built0, built1, built2, built3]
    clear h h0 h1 h2 h3 h4 h5 h6 h7 h8 h9 h10 h11 h12 h13
    rw [HB.out]
    clear HB
    go_enter Tryz.func12, Tryz.ntmps12
    go_wp2_with fail
    all_goals
      go_ret
      exact ⟨ret_bool (by simp_all), rfl⟩
  by_cases h15 : s.toList = [119, 104, 105, 99, 104, 95, 99, 104, 105, 108, 100, 114, 101, 110]
  · have h := h15
    clear h15
    have f0 : (s.toList == [115, 101, 108, 102]) = false := by rw [h]; rfl
    have f1 : (s.toList == [109, 97, 107, 101, 95, 114, 101, 102]) = false := by rw [h]; rfl
    have f2 : (s.toList == [110, 111, 119]) = false := by rw [h]; rfl
    have f3 : (s.toList == [108, 105, 110, 107]) = false := by rw [h]; rfl
    have f4 : (s.toList == [109, 111, 110, 105, 116, 111, 114]) = false := by rw [h]; rfl
    have f5 : (s.toList == [101, 114, 114, 111, 114]) = false := by rw [h]; rfl
    have f6 : (s.toList == [116, 104, 114, 111, 119]) = false := by rw [h]; rfl
    have f7 : (s.toList == [116, 114, 97, 112, 95, 101, 120, 105, 116]) = false := by rw [h]; rfl
    have f8 : (s.toList == [114, 101, 103, 105, 115, 116, 101, 114]) = false := by rw [h]; rfl
    have f9 : (s.toList == [119, 104, 101, 114, 101, 105, 115]) = false := by rw [h]; rfl
    have f10 : (s.toList == [108, 101, 110, 103, 116, 104]) = false := by rw [h]; rfl
    have f11 : (s.toList == [104, 100]) = false := by rw [h]; rfl
    have f12 : (s.toList == [116, 108]) = false := by rw [h]; rfl
    have f13 : (s.toList == [116, 117, 112, 108, 101, 95, 115, 105, 122, 101]) = false := by rw [h]; rfl
    have f14 : (s.toList == [111, 117, 116]) = false := by rw [h]; rfl
    have f15 : (s.toList == [119, 104, 105, 99, 104, 95, 99, 104, 105, 108, 100, 114, 101, 110]) = true := by rw [h]; rfl
    have f16 : (s.toList == [101, 120, 105, 116]) = false := by rw [h]; rfl
    have f17 : (s.toList == [101, 108, 101, 109, 101, 110, 116]) = false := by rw [h]; rfl
    have f18 : (s.toList == [115, 101, 110, 100]) = false := by rw [h]; rfl
    have f19 : (s.toList == [99, 97, 115, 116]) = false := by rw [h]; rfl
    have f20 : (s.toList == [115, 116, 97, 114, 116, 95, 99, 104, 105, 108, 100]) = false := by rw [h]; rfl
    have f21 : (s.toList == [116, 101, 114, 109, 105, 110, 97, 116, 101, 95, 99, 104, 105, 108, 100]) = false := by rw [h]; rfl
    have f22 : (s.toList == [114, 101, 115, 116, 97, 114, 116, 95, 99, 104, 105, 108, 100]) = false := by rw [h]; rfl
    have f23 : (s.toList == [100, 101, 108, 101, 116, 101, 95, 99, 104, 105, 108, 100]) = false := by rw [h]; rfl
    have f24 : (s.toList == [115, 112, 97, 119, 110, 95, 108, 105, 110, 107]) = false := by rw [h]; rfl
    have f25 : (s.toList == [99, 97, 108, 108]) = false := by rw [h]; rfl
    have HB : Hid (builtB s n = (n == 1)) := by show _ = _; unfold builtB; rw [← Go.Lib.toList_data, h]; simp [built0, built1, built2, built3]
    clear h h0 h1 h2 h3 h4 h5 h6 h7 h8 h9 h10 h11 h12 h13 h14
    rw [HB.out]
    clear HB
    go_enter Tryz.func12, Tryz.ntmps12
    go_wp2_with fail
    all_goals
      go_ret
      exact ⟨ret_bool (by simp_all), rfl⟩
  by_cases h16 : s.toList = [101, 120, 105, 116]
  · have h := h16
    clear h16
    have f0 : (s.toList == [115, 101, 108, 102]) = false := by rw [h]; rfl
    have f1 : (s.toList == [109, 97, 107, 101, 95, 114, 101, 102]) = false := by rw [h]; rfl
    have f2 : (s.toList == [110, 111, 119]) = false := by rw [h]; rfl
    have f3 : (s.toList == [108, 105, 110, 107]) = false := by rw [h]; rfl
    have f4 : (s.toList == [109, 111, 110, 105, 116, 111, 114]) = false := by rw [h]; rfl
    have f5 : (s.toList == [101, 114, 114, 111, 114]) = false := by rw [h]; rfl
    have f6 : (s.toList == [116, 104, 114, 111, 119]) = false := by rw [h]; rfl
    have f7 : (s.toList == [116, 114, 97, 112, 95, 101, 120, 105, 116]) = false := by rw [h]; rfl
    have f8 : (s.toList == [114, 101, 103, 105, 115, 116, 101, 114]) = false := by rw [h]; rfl
    have f9 : (s.toList == [119, 104, 101, 114, 101, 105, 115]) = false := by rw [h]; rfl
    have f10 : (s.toList == [108, 101, 110, 103, 116, 104]) = false := by rw [h]; rfl
    have f11 : (s.toList == [104, 100]) = false := by rw [h]; rfl
    have f12 : (s.toList == [116, 108]) = false := by rw [h]; rfl
    have f13 : (s.toList == [116, 117, 112, 108, 101, 95, 115, 105, 122, 101]) = false := by rw [h]; rfl
    have f14 : (s.toList == [111, 117, 116]) = false := by rw [h]; rfl
    have f15 : (s.toList == [119, 104, 105, 99, 104, 95, 99, 104, 105, 108, 100, 114, 101, 110]) = false := by rw [h]; rfl
    have f16 : (s.toList == [101, 120, 105, 116]) = true := by rw [h]; rfl
    have f17 : (s.toList == [101, 108, 101, 109, 101, 110, 116]) = false := by rw [h]; rfl
    have f18 : (s.toList == [115, 101, 110, 100]) = false := by rw [h]; rfl
    have f19 : (s.toList == [99, 97, 115, 116]) = false := by rw [h]; rfl
    have f20 : (s.toList == [115, 116, 97, 114, 116, 95, 99, 104, 105, 108, 100]) = false := by rw [h]; rfl
    have f21 : (s.toList == [116, 101, 114, 109, 105, 110, 97, 116, 101, 95, 99, 104, 105, 108, 100]) = false := by rw [h]; rfl
    have f22 : (s.toList == [114, 101, 115, 116, 97, 114, 116, 95, 99, 104, 105, 108, 100]) = false := by rw [h]; rfl
    have f23 : (s.toList == [100, 101, 108, 101, 116, 101, 95, 99, 104, 105, 108, 100]) = false := by rw [h]; rfl
    have f24 : (s.toList == [115, 112, 97, 119, 110, 95, 108, 105, 110, 107]) = false := by rw [h]; rfl
    have f25 : (s.toList == [99, 97, 108, 108]) = false := by rw [h]; rfl
    have HB : Hid (builtB s n = ((n == 1) || (n == 2))) := by show _ = _; unfold builtB; rw [← Go.Lib.toList_data, h]; simp [built0, built1, built2, built3]
    clear h h0 h1 h2 h3 h4 h5 h6 h7 h8 h9 h10 h11 h12 h13 h14 h15
    rw [HB.out]
    clear HB
    go_enter Tryz.func12, Tryz.ntmps12
    go_wp2_with fail
    all_goals
      go_ret
      exact ⟨ret_bool (by simp_all), rfl⟩
  by_cases h17 : s.toList = [101, 108, 101, 109, 101, 110, 116]
  · have h := h17
    clear h17
    have f0 : (s.toList == [115, 101, 108, 102]) = false := by rw [h]; rfl
    have f1 : (s.toList == [109, 97, 107, 101, 95, 114, 101, 102]) = false := by rw [h]; rfl
    have f2 : (s.toList == [110, 111, 119]) = false := by rw [h]; rfl
    have f3 : (s.toList == [108, 105, 110, 107]) = false := by rw [h]; rfl
    have f4 : (s.toList == [109, 111, 110, 105, 116, 111, 114]) = false := by rw [h]; rfl
    have f5 : (s.toList == [101, 114, 114, 111, 114]) = false := by rw [h]; rfl
    have f6 : (s.toList == [116, 104, 114, 111, 119]) = false := by rw [h]; rfl
    have f7 : (s.toList == [116, 114, 97, 112, 95, 101, 120, 105, 116]) = false := by rw [h]; rfl
    have f8 : (s.toList == [114, 101, 103, 105, 115, 116, 101, 114]) = false := by rw [h]; rfl
    have f9 : (s.toList == [119, 104, 101, 114, 101, 105, 115]) = false := by rw [h]; rfl
    have f10 : (s.toList == [108, 101, 110, 103, 116, 104]) = false := by rw [h]; rfl
    have f11 : (s.toList == [104, 100]) = false := by rw [h]; rfl
    have f12 : (s.toList == [116, 108]) = false := by rw [h]; rfl
    have f13 : (s.toList == [116, 117, 112, 108, 101, 95, 115, 105, 122, 101]) = false := by rw [h]; rfl
    have f14 : (s.toList == [111, 117, 116]) = false := by rw [h]; rfl
    have f15 : (s.toList == [119, 104, 105, 99, 104, 95, 99, 104, 105, 108, 100, 114, 101, 110]) = false := by rw [h]; rfl
    have f16 : (s.toList == [101, 120, 105, 116]) = false := by rw [h]; rfl
    have f17 : (s.toList == [101, 108, 101, 109, 101, 110, 116]) = true := by rw [h]; rfl
    have f18 : (s.toList == [115, 101, 110, 100]) = false := by rw [h]; rfl
    have f19 : (s.toList == [99, 97, 115, 116]) = false := by rw [h]; rfl
    have f20 : (s.toList == [115, 116, 97, 114, 116, 95, 99, 104, 105, 108, 100]) = false := by rw [h]; rfl
    have f21 : (s.toList == [116, 101, 114, 109, 105, 110, 97, 116, 101, 95, 99, 104, 105, 108, 100]) = false := by rw [h]; rfl
    have f22 : (s.toList == [114, 101, 115, 116, 97, 114, 116, 95, 99, 104, 105, 108, 100]) = false := by rw [h]; rfl
    have f23 : (s.toList == [100, 101, 108, 101, 116, 101, 95, 99, 104, 105, 108, 100]) = false := by rw [h]; rfl
    have f24 : (s.toList == [115, 112, 97, 119, 110, 95, 108, 105, 110, 107]) = false := by rw [h]; rfl
    have f25 : (s.toList == [99, 97, 108, 108]) = false := by rw [h]; rfl
    have HB : Hid (builtB s n = (n == 2)) := by show _ = _; unfold builtB; rw [← Go.Lib.toList_data, h]; simp [built0, built1, built2, built3]
    clear h h0 h1 h2 h3 h4 h5 h6 h7 h8 h9 h10 h11 h12 h13 h14 h15 h16
    rw [HB.out]
    clear HB
    go_enter Tryz.func12, Tryz.ntmps12
    go_wp2_with fail
    all_goals
      go_ret
      exact ⟨ret_bool (by simp_all), rfl⟩
  by_cases h18 : s.toList = [115, 101, 110, 100]
  · have h := h18
    clear h18
    have f0 : (s.toList == [115, 101, 108, 102]) = false := by rw [h]; rfl
    have f1 : (s.toList == [109, 97, 107, 101, 95, 114, 101, 102]) = false := by rw [h]; rfl
    have f2 : (s.toList == [110, 111, 119]) = false := by rw [h]; rfl
    have f3 : (s.toList == [108, 105, 110, 107]) = false := by rw [h]; rfl
    have f4 : (s.toList == [109, 111, 110, 105, 116, 111, 114]) = false := by rw [h]; rfl
    have f5 : (s.toList == [101, 114, 114, 111, 114]) = false := by rw [h]; rfl
    have f6 : (s.toList == [116, 104, 114, 111, 119]) = false := by rw [h]; rfl
    have f7 : (s.toList == [116, 114, 97, 112, 95, 101, 120, 105, 116]) = false := by rw [h]; rfl
    have f8 : (s.toList == [114, 101, 103, 105, 115, 116, 101, 114]) = false := by rw [h]; rfl
    have f9 : (s.toList == [119, 104, 101, 114, 101, 105, 115]) = false := by rw [h]; rfl
    have f10 : (s.toList == [108, 101, 110, 103, 116, 104]) = false := by rw [h]; rfl
    have f11 : (s.toList == [104, 100]) = false := by rw [h]; rfl
    have f12 : (s.toList == [116, 108]) = false := by rw [h]; rfl
    have f13 : (s.toList == [116, 117, 112, 108, 101, 95, 115, 105, 122, 101]) = false := by rw [h]; rfl
    have f14 : (s.toList == [111, 117, 116]) = false := by rw [h]; rfl
    have f15 : (s.toList == [119, 104, 105, 99, 104, 95, 99, 104, 105, 108, 100, 114, 101, 110]) = false := by rw [h]; rfl
    have f16 : (s.toList == [101, 120, 105, 116]) = false := by rw [h]; rfl
    have f17 : (s.toList == [101, 108, 101, 109, 101, 110, 116]) = false := by rw [h]; rfl
    have f18 : (s.toList == [115, 101, 110, 100]) = true := by rw [h]; rfl
    have f19 : (s.toList == [99, 97, 115, 116]) = false := by rw [h]; rfl
    have f20 : (s.toList == [115, 116, 97, 114, 116, 95, 99, 104, 105, 108, 100]) = false := by rw [h]; rfl
    have f21 : (s.toList == [116, 101, 114, 109, 105, 110, 97, 116, 101, 95, 99, 104, 105, 108, 100]) = false := by rw [h]; rfl
    have f22 : (s.toList == [114, 101, 115, 116, 97, 114, 116, 95, 99, 104, 105, 108, 100]) = false := by rw [h]; rfl
    have f23 : (s.toList == [100, 101, 108, 101, 116, 101, 95, 99, 104, 105, 108, 100]) = false := by rw [h]; rfl
    have f24 : (s.toList == [115, 112, 97, 119, 110, 95, 108, 105, 110, 107]) = false := by rw [h]; rfl
    have f25 : (s.toList == [99, 97, 108, 108]) = false := by rw [h]; rfl
    have HB : Hid (builtB s n = (n == 2)) := by show _ = _; unfold builtB; rw [← Go.Lib.toList_data, h]; simp [built0, built1, built2, built3]
    clear h h0 h1 h2 h3 h4 h5 h6 h7 h8 h9 h10 h11 h12 h13 h14 h15 h16 h17
    rw [HB.out]
    clear HB
    go_enter Tryz.func12, Tryz.ntmps12
    go_wp2_with fail
    all_goals
      go_ret
      exact ⟨ret_bool (by simp_all), rfl⟩
  by_cases h19 : s.toList = [99, 97, 115, 116]
  · have h := h19
    clear h19
    have f0 : (s.toList == [115, 101, 108, 102]) = false := by rw [h]; rfl
    have f1 : (s.toList == [109, 97, 107, 101, 95, 114, 101, 102]) = false := by rw [h]; rfl
    have f2 : (s.toList == [110, 111, 119]) = false := by rw [h]; rfl
    have f3 : (s.toList == [108, 105, 110, 107]) = false := by rw [h]; rfl
    have f4 : (s.toList == [109, 111, 110, 105, 116, 111, 114]) = false := by rw [h]; rfl
    have f5 : (s.toList == [101, 114, 114, 111, 114]) = false := by rw [h]; rfl
    have f6 : (s.toList == [116, 104, 114, 111, 119]) = false := by rw [h]; rfl
    have f7 : (s.toList == [116, 114, 97, 112, 95, 101, 120, 105, 116]) = false := by rw [h]; rfl
    have f8 : (s.toList == [114, 101, 103, 105, 115, 116, 101, 114]) = false := by rw [h]; rfl
    have f9 : (s.toList == [119, 104, 101, 114, 101, 105, 115]) = false := by rw [h]; rfl
    have f10 : (s.toList == [108, 101, 110, 103, 116, 104]) = false := by rw [h]; rfl
    have f11 : (s.toList == [104, 100]) = false := by rw [h]; rfl
    have f12 : (s.toList == [116, 108]) = false := by rw [h]; rfl
    have f13 : (s.toList == [116, 117, 112, 108, 101, 95, 115, 105, 122, 101]) = false := by rw [h]; rfl
    have f14 : (s.toList == [111, 117, 116]) = false := by rw [h]; rfl
    have f15 : (s.toList == [119, 104, 105, 99, 104, 95, 99, 104, 105, 108, 100, 114, 101, 110]) = false := by rw [h]; rfl
    have f16 : (s.toList == [101, 120, 105, 116]) = false := by rw [h]; rfl
    have f17 : (s.toList == [101, 108, 101, 109, 101, 110, 116]) = false := by rw [h]; rfl
    have f18 : (s.toList == [115, 101, 110, 100]) = false := by rw [h]; rfl
    have f19 : (s.toList == [99, 97, 115, 116]) = true := by rw [h]; rfl
    have f20 : (s.toList == [115, 116, 97, 114, 116, 95, 99, 104, 105, 108, 100]) = false := by rw [h]; rfl
    have f21 : (s.toList == [116, 101, 114, 109, 105, 110, 97, 116, 101, 95, 99, 104, 105, 108, 100]) = false := by rw [h]; rfl
    have f22 : (s.toList == [114, 101, 115, 116, 97, 114, 116, 95, 99, 104, 105, 108, 100]) = false := by rw [h]; rfl
    have f23 : (s.toList == [100, 101, 108, 101, 116, 101, 95, 99, 104, 105, 108, 100]) = false := by rw [h]; rfl
    have f24 : (s.toList == [115, 112, 97, 119, 110, 95, 108, 105, 110, 107]) = false := by rw [h]; rfl
    have f25 : (s.toList == [99, 97, 108, 108]) = false := by rw [h]; rfl
    have HB : Hid (builtB s n = (n == 2)) := by show _ = _; unfold builtB; rw [← Go.Lib.toList_data, h]; simp [built0, built1, built2, built3]
    clear h h0 h1 h2 h3 h4 h5 h6 h7 h8 h9 h10 h11 h12 h13 h14 h15 h16 h17 h18
    rw [HB.out]
    clear HB
    go_enter Tryz.func12, Tryz.ntmps12
    go_wp2_with fail
    all_goals
      go_ret
      exact ⟨ret_bool (by simp_all), rfl⟩
  by_cases h20 : s.toList = [115, 116, 97, 114, 116, 95, 99, 104, 105, 108, 100]
  · have h := h20
    clear h20
    have f0 : (s.toList == [115, 101, 108, 102]) = false := by rw [h]; rfl
    have f1 : (s.toList == [109, 97, 107, 101, 95, 114, 101, 102]) = false := by rw [h]; rfl
    have f2 : (s.toList == [110, 111, 119]) = false := by rw [h]; rfl
    have f3 : (s.toList == [108, 105, 110, 107]) = false := by rw [h]; rfl
    have f4 : (s.toList == [109, 111, 110, 105, 116, 111, 114]) = false := by rw [h]; rfl
    have f5 : (s.toList == [101, 114, 114, 111, 114]) = false := by rw [h]; rfl
    have f6 : (s.toList == [116, 104, 114, 111, 119]) = false := by rw [h]; rfl
    have f7 : (s.toList == [116, 114, 97, 112, 95, 101, 120, 105, 116]) = false := by rw [h]; rfl
    have f8 : (s.toList == [114, 101, 103, 105, 115, 116, 101, 114]) = false := by rw [h]; rfl
    have f9 : (s.toList == [119, 104, 101, 114, 101, 105, 115]) = false := by rw [h]; rfl
    have f10 : (s.toList == [108, 101, 110, 103, 116, 104]) = false := by rw [h]; rfl
    have f11 : (s.toList == [104, 100]) = false := by rw [h]; rfl
    have f12 : (s.toList == [116, 108]) = false := by rw [h]; rfl
    have f13 : (s.toList == [116, 117, 112, 108, 101, 95, 115, 105, 122, 101]) = false := by rw [h]; rfl
    have f14 : (s.toList == [111, 117, 116]) = false := by rw [h]; rfl
    have f15 : (s.toList == [119, 104, 105, 99, 104, 95, 99, 104, 105, 108, 100, 114, 101, 110]) = false := by rw [h]; rfl
    have f16 : (s.toList == [101, 120, 105, 116]) = false := by rw [h]; rfl
    have f17 : (s.toList == [101, 108, 101, 109, 101, 110, 116]) = false := by rw [h]; rfl
    have f18 : (s.toList == [115, 101, 110, 100]) = false := by rw [h]; rfl
    have f19 : (s.toList == [99, 97, 115, 116]) = false := by rw [h]; rfl
    have f20 : (s.toList == [115, 116, 97, 114, 116, 95, 99, 104, 105, 108, 100]) = true := by rw [h]; rfl
    have f21 : (s.toList == [116, 101, 114, 109, 105, 110, 97, 116, 101, 95, 99, 104, 105, 108, 100]) = false := by rw [h]; rfl
    have f22 : (s.toList == [114, 101, 115, 116, 97, 114, 116, 95, 99, 104, 105, 108, 100]) = false := by rw [h]; rfl
    have f23 : (s.toList == [100, 101, 108, 101, 116, 101, 95, 99, 104, 105, 108, 100]) = false := by rw [h]; rfl
    have f24 : (s.toList == [115, 112, 97, 119, 110, 95, 108, 105, 110, 107]) = false := by rw [h]; rfl
    have f25 : (s.toList == [99, 97, 108, 108]) = false := by rw [h]; rfl
    have HB : Hid (builtB s n = (n == 2)) := by show _ = _; unfold builtB; rw [← Go.Lib.toList_data, h]; simp [built0, built1, built2, built3]
    clear h h0 h1 h2 h3 h4 h5 h6 h7 h8 h9 h10 h11 h12 h13 h14 h15 h16 h17 h18 h19
    rw [HB.out]
    clear HB
    go_enter Tryz.func12, Tryz.ntmps12
    go_wp2_with fail
    all_goals
      go_ret
      exact ⟨ret_bool (by simp_all), rfl⟩
  by_cases h21 : s.toList = [116, 101, 114, 109, 105, 110, 97, 116, 101, 95, 99, 104, 105, 108, 100]
  · have h := h21
    clear h21
    have f0 : (s.toList == [115, 101, 108, 102]) = false := by rw [h]; rfl
    have f1 : (s.toList == [109, 97, 107, 101, 95, 114, 101, 102]) = false := by rw [h]; rfl
    have f2 : (s.toList == [110, 111, 119]) = false := by rw [h]; rfl
    have f3 : (s.toList == [108, 105, 110, 107]) = false := by rw [h]; rfl
    have f4 : (s.toList == [109, 111, 110, 105, 116, 111, 114]) = false := by rw [h]; rfl
    have f5 : (s.toList == [101, 114, 114, 111, 114]) = false := by rw [h]; rfl
    have f6 : (s.toList == [116, 104, 114, 111, 119]) = false := by rw [h]; rfl
    have f7 : (s.toList == [116, 114, 97, 112, 95, 101, 120, 105, 116]) = false := by rw [h]; rfl
    have f8 : (s.toList == [114, 101, 103, 105, 115, 116, 101, 114]) = false := by rw [h]; rfl
    have f9 : (s.toList == [119, 104, 101, 114, 101, 105, 115]) = false := by rw [h]; rfl
    have f10 : (s.toList == [108, 101, 110, 103, 116, 104]) = false := by rw [h]; rfl
    have f11 : (s.toList == [104, 100]) = false := by rw [h]; rfl
    have f12 : (s.toList == [116, 108]) = false := by rw [h]; rfl
    have f13 : (s.toList == [116, 117, 112, 108, 101, 95, 115, 105, 122, 101]) = false := by rw [h]; rfl
    have f14 : (s.toList == [111, 117, 116]) = false := by rw [h]; rfl
    have f15 : (s.toList == [119, 104, 105, 99, 104, 95, 99, 104, 105, 108, 100, 114, 101, 110]) = false := by rw [h]; rfl
    have f16 : (s.toList == [101, 120, 105, 116]) = false := by rw [h]; rfl
    have f17 : (s.toList == [101, 108, 101, 109, 101, 110, 116]) = false := by rw [h]; rfl
    have f18 : (s.toList == [115, 101, 110, 100]) = false := by rw [h]; rfl
    have f19 : (s.toList == [99, 97, 115, 116]) = false := by rw [h]; rfl
    have f20 : (s.toList == [115, 116, 97, 114, 116, 95, 99, 104, 105, 108, 100]) = false := by rw [h]; rfl
    have f21 : (s.toList == [116, 101, 114, 109, 105, 110, 97, 116, 101, 95, 99, 104, 105, 108, 100]) = true := by rw [h]; rfl
    have f22 : (s.toList == [114, 101, 115, 116, 97, 114, 116, 95, 99, 104, 105, 108, 100]) = false := by rw [h]; rfl
    have f23 : (s.toList == [100, 101, 108, 101, 116, 101, 95, 99, 104, 105, 108, 100]) = false := by rw [h]; rfl
    have f24 : (s.toList == [115, 112, 97, 119, 110, 95, 108, 105, 110, 107]) = false := by rw [h]; rfl
    have f25 : (s.toList == [99, 97, 108, 108]) = false := by rw [h]; rfl
    have HB : Hid (builtB s n = (n == 2)) := by show _ = _; unfold builtB; rw [← Go.Lib.toList_data, h]; simp [built0, built1, built2, built3]
    clear h h0 h1 h2 h3 h4 h5 h6 h7 h8 h9 h10 h11 h12 h13 h14 h15 h16 h17 h18 h19 h20
    rw [HB.out]
    clear HB
    go_enter Tryz.func12, Tryz.ntmps12
    go_wp2_with fail
    all_goals
      go_ret
      exact ⟨ret_bool (by simp_all), rfl⟩
  by_cases h22 : s.toList = [114, 101, 115, 116, 97, 114, 116, 95, 99, 104, 105, 108, 100]
  · have h := h22
    clear h22
    have f0 : (s.toList == [115, 101, 108, 102]) = false := by rw [h]; rfl
    have f1 : (s.toList == [109, 97, 107, 101, 95, 114, 101, 102]) = false := by rw [h]; rfl
    have f2 : (s.toList == [110, 111, 119]) = false := by rw [h]; rfl
    have f3 : (s.toList == [108, 105, 110, 107]) = false := by rw [h]; rfl
    have f4 : (s.toList == [109, 111, 110, 105, 116, 111, 114]) = false := by rw [h]; rfl
    have f5 : (s.toList == [101, 114, 114, 111, 114]) = false := by rw [h]; rfl
    have f6 : (s.toList == [116, 104, 114, 111, 119]) = false := by rw [h]; rfl
    have f7 : (s.toList == [116, 114, 97, 112, 95, 101, 120, 105, 116]) = false := by rw [h]; rfl
    have f8 : (s.toList == [114, 101, 103, 105, 115, 116, 101, 114]) = false := by rw [h]; rfl
    have f9 : (s.toList == [119, 104, 101, 114, 101, 105, 115]) = false := by rw [h]; rfl
    have f10 : (s.toList == [108, 101, 110, 103, 116, 104]) = false := by rw [h]; rfl
    have f11 : (s.toList == [104, 100]) = false := by rw [h]; rfl
    have f12 : (s.toList == [116, 108]) = false := by rw [h]; rfl
    have f13 : (s.toList == [116, 117, 112, 108, 101, 95, 115, 105, 122, 101]) = false := by rw [h]; rfl
    have f14 : (s.toList == [111, 117, 116]) = false := by rw [h]; rfl
    have f15 : (s.toList == [119, 104, 105, 99, 104, 95, 99, 104, 105, 108, 100, 114, 101, 110]) = false := by rw [h]; rfl
    have f16 : (s.toList == [101, 120, 105, 116]) = false := by rw [h]; rfl
    have f17 : (s.toList == [101, 108, 101, 109, 101, 110, 116]) = false := by rw [h]; rfl
    have f18 : (s.toList == [115, 101, 110, 100]) = false := by rw [h]; rfl
    have f19 : (s.toList == [99, 97, 115, 116]) = false := by rw [h]; rfl
    have f20 : (s.toList == [115, 116, 97, 114, 116, 95, 99, 104, 105, 108, 100]) = false := by rw [h]; rfl
    have f21 : (s.toList == [116, 101, 114, 109, 105, 110, 97, 116, 101, 95, 99, 104, 105, 108, 100]) = false := by rw [h]; rfl
    have f22 : (s.toList == [114, 101, 115, 116, 97, 114, 116, 95, 99, 104, 105, 108, 100]) = true := by rw [h]; rfl
    have f23 : (s.toList == [100, 101, 108, 101, 116, 101, 95, 99, 104, 105, 108, 100]) = false := by rw [h]; rfl
    have f24 : (s.toList == [115, 112, 97, 119, 110, 95, 108, 105, 110, 107]) = false := by rw [h]; rfl
    have f25 : (s.toList == [99, 97, 108, 108]) = false := by rw [h]; rfl
    have HB : Hid (builtB s n = (n == 2)) := by show _ = _; unfold builtB; rw [← Go.Lib.toList_data, h]; simp [built0, built1, built2, built3]
    clear h h0 h1 h2 h3 h4 h5 h6 h7 h8 h9 h10 h11 h12 h13 h14 h15 h16 h17 h18 h19 h20 h21
    rw [HB.out]
    clear HB
    go_enter Tryz.func12, Tryz.ntmps12
    go_wp2_with fail
    all_goals
      go_ret
      exact ⟨ret_bool (by simp_all), rfl⟩
  by_cases h23 : s.toList = [100, 101, 108, 101, 116, 101, 95, 99, 104, 105, 108, 100]
  · have h := h23
    clear h23
    have f0 : (s.toList == [115, 101, 108, 102]) = false := by rw [h]; rfl
    have f1 : (s.toList == [109, 97, 107, 101, 95, 114, 101, 102]) = false := by rw [h]; rfl
    have f2 : (s.toList == [110, 111, 119]) = false := by rw [h]; rfl
    have f3 : (s.toList == [108, 105, 110, 107]) = false := by rw [h]; rfl
    have f4 : (s.toList == [109, 111, 110, 105, 116, 111, 114]) = false := by rw [h]; rfl
    have f5 : (s.toList == [101, 114, 114, 111, 114]) = false := by rw [h]; rfl
    have f6 : (s.toList == [116, 104, 114, 111, 119]) = false := by rw [h]; rfl
    have f7 : (s.toList == [116, 114, 97, 112, 95, 101, 120, 105, 116]) = false := by rw [h]; rfl
    have f8 : (s.toList == [114, 101, 103, 105, 115, 116, 101, 114]) = false := by rw [h]; rfl
    have f9 : (s.toList == [119, 104, 101, 114, 101, 105, 115]) = false := by rw [h]; rfl
    have f10 : (s.toList == [108, 101, 110, 103, 116, 104]) = false := by rw [h]; rfl
    have f11 : (s.toList == [104, 100]) = false := by rw [h]; rfl
    have f12 : (s.toList == [116, 108]) = false := by rw [h]; rfl
    have f13 : (s.toList == [116, 117, 112, 108, 101, 95, 115, 105, 122, 101]) = false := by rw [h]; rfl
    have f14 : (s.toList == [111, 117, 116]) = false := by rw [h]; rfl
    have f15 : (s.toList == [119, 104, 105, 99, 104, 95, 99, 104, 105, 108, 100, 114, 101, 110]) = false := by rw [h]; rfl
    have f16 : (s.toList == [101, 120, 105, 116]) = false := by rw [h]; rfl
    have f17 : (s.toList == [101, 108, 101, 109, 101, 110, 116]) = false := by rw [h]; rfl
    have f18 : (s.toList == [115, 101, 110, 100]) = false := by rw [h]; rfl
    have f19 : (s.toList == [99, 97, 115, 116]) = false := by rw [h]; rfl
    have f20 : (s.toList == [115, 116, 97, 114, 116, 95, 99, 104, 105, 108, 100]) = false := by rw [h]; rfl
    have f21 : (s.toList == [116, 101, 114, 109, 105, 110, 97, 116, 101, 95, 99, 104, 105, 108, 100]) = false := by rw [h]; rfl
    have f22 : (s.toList == [114, 101, 115, 116, 97, 114, 116, 95, 99, 104, 105, 108, 100]) = false := by rw [h]; rfl
    have f23 : (s.toList == [100, 101, 108, 101, 116, 101, 95, 99, 104, 105, 108, 100]) = true := by rw [h]; rfl
    have f24 : (s.toList == [115, 112, 97, 119, 110, 95, 108, 105, 110, 107]) = false := by rw [h]; rfl
    have f25 : (s.toList == [99, 97, 108, 108]) = false := by rw [h]; rfl
    have HB : Hid (builtB s n = (n == 2)) := by show _ = _; unfold builtB; rw [← Go.Lib.toList_data, h]; simp [built0, built1, built2, built3]
    clear h h0 h1 h2 h3 h4 h5 h6 h7 h8 h9 h10 h11 h12 h13 h14 h15 h16 h17 h18 h19 h20 h21 h22
    rw [HB.out]
    clear HB
    go_enter Tryz.func12, Tryz.ntmps12
    go_wp2_with fail
    all_goals
      go_ret
      exact ⟨ret_bool (by simp_all), rfl⟩
  by_cases h24 : s.toList = [115, 112, 97, 119, 110, 95, 108, 105, 110, 107]
  · have h := h24
    clear h24
    have f0 : (s.toList == [115, 101, 108, 102]) = false := by rw [h]; rfl
    have f1 : (s.toList == [109, 97, 107, 101, 95, 114, 101, 102]) = false := by rw [h]; rfl
    have f2 : (s.toList == [110, 111, 119]) = false := by rw [h]; rfl
    have f3 : (s.toList == [108, 105, 110, 107]) = false := by rw [h]; rfl
    have f4 : (s.toList == [109, 111, 110, 105, 116, 111, 114]) = false := by rw [h]; rfl
    have f5 : (s.toList == [101, 114, 114, 111, 114]) = false := by rw [h]; rfl
    have f6 : (s.toList == [116, 104, 114, 111, 119]) = false := by rw [h]; rfl
    have f7 : (s.toList == [116, 114, 97, 112, 95, 101, 120, 105, 116]) = false := by rw [h]; rfl
    have f8 : (s.toList == [114, 101, 103, 105, 115, 116, 101, 114]) = false := by rw [h]; rfl
    have f9 : (s.toList == [119, 104, 101, 114, 101, 105, 115]) = false := by rw [h]; rfl
    have f10 : (s.toList == [108, 101, 110, 103, 116, 104]) = false := by rw [h]; rfl
    have f11 : (s.toList == [104, 100]) = false := by rw [h]; rfl
    have f12 : (s.toList == [116, 108]) = false := by rw [h]; rfl
    have f13 : (s.toList == [116, 117, 112, 108, 101, 95, 115, 105, 122, 101]) = false := by rw [h]; rfl
    have f14 : (s.toList == [111, 117, 116]) = false := by rw [h]; rfl
    have f15 : (s.toList == [119, 104, 105, 99, 104, 95, 99, 104, 105, 108, 100, 114, 101, 110]) = false := by rw [h]; rfl
    have f16 : (s.toList == [101, 120, 105, 116]) = false := by rw [h]; rfl
    have f17 : (s.toList == [101, 108, 101, 109, 101, 110, 116]) = false := by rw [h]; rfl
    have f18 : (s.toList == [115, 101, 110, 100]) = false := by rw [h]; rfl
    have f19 : (s.toList == [99, 97, 115, 116]) = false := by rw [h]; rfl
    have f20 : (s.toList == [115, 116, 97, 114, 116, 95, 99, 104, 105, 108, 100]) = false := by rw [h]; rfl
    have f21 : (s.toList == [116, 101, 114, 109, 105, 110, 97, 116, 101, 95, 99, 104, 105, 108, 100]) = false := by rw [h]; rfl
    have f22 : (s.toList == [114, 101, 115, 116, 97, 114, 116, 95, 99, 104, 105, 108, 100]) = false := by rw [h]; rfl
    have f23 : (s.toList == [100, 101, 108, 101, 116, 101, 95, 99, 104, 105, 108, 100]) = false := by rw [h]; rfl
    have f24 : (s.toList == [115, 112, 97, 119, 110, 95, 108, 105, 110, 107]) = true := by rw [h]; rfl
    have f25 : (s.toList == [99, 97, 108, 108]) = false := by rw [h]; rfl
    have HB : Hid (builtB s n = (n == 3)) := by show _ = _; unfold builtB; rw [← Go.Lib.toList_data, h]; simp [built0, built1, built2, built3]
    clear h h0 h1 h2 h3 h4 h5 h6 h7 h8 h9 h10 h11 h12 h13 h14 h15 h16 h17 h18 h19 h20 h21 h22 h23
    rw [HB.out]
    clear HB
    go_enter Tryz.func12, Tryz.ntmps12
    go_wp2_with fail
    all_goals
      go_ret
      exact ⟨ret_bool (by simp_all), rfl⟩
  by_cases h25 : s.toList = [99, 97, 108, 108]
  · have h := h25
    clear h25
    have f0 : (s.toList == [115, 101, 108, 102]) = false := by rw [h]; rfl
    have f1 : (s.toList == [109, 97, 107, 101, 95, 114, 101, 102]) = false := by rw [h]; rfl
    have f2 : (s.toList == [110, 111, 119]) = false := by rw [h]; rfl
    have f3 : (s.toList == [108, 105, 110, 107]) = false := by rw [h]; rfl
    have f4 : (s.toList == [109, 111, 110, 105, 116, 111, 114]) = false := by rw [h]; rfl
    have f5 : (s.toList == [101, 114, 114, 111, 114]) = false := by rw [h]; rfl
    have f6 : (s.toList == [116, 104, 114, 111, 119]) = false := by rw [h]; rfl
    have f7 : (s.toList == [116, 114, 97, 112, 95, 101, 120, 105, 116]) = false := by rw [h]; rfl
    have f8 : (s.toList == [114, 101, 103, 105, 115, 116, 101, 114]) = false := by rw [h]; rfl
    have f9 : (s.toList == [119, 104, 101, 114, 101, 105, 115]) = false := by rw [h]; rfl
    have f10 : (s.toList == [108, 101, 110, 103, 116, 104]) = false := by rw [h]; rfl
    have f11 : (s.toList == [104, 100]) = false := by rw [h]; rfl
    have f12 : (s.toList == [116, 108]) = false := by rw [h]; rfl
    have f13 : (s.toList == [116, 117, 112, 108, 101, 95, 115, 105, 122, 101]) = false := by rw [h]; rfl
    have f14 : (s.toList == [111, 117, 116]) = false := by rw [h]; rfl
    have f15 : (s.toList == [119, 104, 105, 99, 104, 95, 99, 104, 105, 108, 100, 114, 101, 110]) = false := by rw [h]; rfl
    have f16 : (s.toList == [101, 120, 105, 116]) = false := by rw [h]; rfl
    have f17 : (s.toList == [101, 108, 101, 109, 101, 110, 116]) = false := by rw [h]; rfl
    have f18 : (s.toList == [115, 101, 110, 100]) = false := by rw [h]; rfl
    have f19 : (s.toList == [99, 97, 115, 116]) = false := by rw [h]; rfl
    have f20 : (s.toList == [115, 116, 97, 114, 116, 95, 99, 104, 105, 108, 100]) = false := by rw [h]; rfl
    have f21 : (s.toList == [116, 101, 114, 109, 105, 110, 97, 116, 101, 95, 99, 104, 105, 108, 100]) = false := by rw [h]; rfl
    have f22 : (s.toList == [114, 101, 115, 116, 97, 114, 116, 95, 99, 104, 105, 108, 100]) = false := by rw [h]; rfl
    have f23 : (s.toList == [100, 101, 108, 101, 116, 101, 95, 99, 104, 105, 108, 100]) = false := by rw [h]; rfl
    have f24 : (s.toList == [115, 112, 97, 119, 110, 95, 108, 105, 110, 107]) = false := by rw [h]; rfl
    have f25 : (s.toList == [99, 97, 108, 108]) = true := by rw [h]; rfl
    have HB : Hid (builtB s n = (n == 3)) := by show _ = _; unfold builtB; rw [← Go.Lib.toList_data, h]; simp [built0, built1, built2, built3]
    clear h h0 h1 h2 h3 h4 h5 h6 h7 h8 h9 h10 h11 h12 h13 h14 h15 h16 h17 h18 h19 h20 h21 h22 h23 h24
    rw [HB.out]
    clear HB
    go_enter Tryz.func12, Tryz.ntmps12
    go_wp2_with fail
    all_goals
      go_ret
      exact ⟨ret_bool (by simp_all), rfl⟩
  have f0 : (s.toList == [115, 101, 108, 102]) = false := by exact beq_eq_false_iff_ne.2 h0
  have f1 : (s.toList == [109, 97, 107, 101, 95, 114, 101, 102]) = false := by exact beq_eq_false_iff_ne.2 h1
  have f2 : (s.toList == [110, 111, 119]) = false := by exact beq_eq_false_iff_ne.2 h2
  have f3 : (s.toList == [108, 105, 110, 107]) = false := by exact beq_eq_false_iff_ne.2 h3
  have f4 : (s.toList == [109, 111, 110, 105, 116, 111, 114]) = false := by exact beq_eq_false_iff_ne.2 h4
  have f5 : (s.toList == [101, 114, 114, 111, 114]) = false := by exact beq_eq_false_iff_ne.2 h5
  have f6 : (s.toList == [116, 104, 114, 111, 119]) = false := by exact beq_eq_false_iff_ne.2 h6
  have f7 : (s.toList == [116, 114, 97, 112, 95, 101, 120, 105, 116]) = false := by exact beq_eq_false_iff_ne.2 h7
  have f8 : (s.toList == [114, 101, 103, 105, 115, 116, 101, 114]) = false := by exact beq_eq_false_iff_ne.2 h8
  have f9 : (s.toList == [119, 104, 101, 114, 101, 105, 115]) = false := by exact beq_eq_false_iff_ne.2 h9
  have f10 : (s.toList == [108, 101, 110, 103, 116, 104]) = false := by exact beq_eq_false_iff_ne.2 h10
  have f11 : (s.toList == [104, 100]) = false := by exact beq_eq_false_iff_ne.2 h11
  have f12 : (s.toList == [116, 108]) = false := by exact beq_eq_false_iff_ne.2 h12
  have f13 : (s.toList == [116, 117, 112, 108, 101, 95, 115, 105, 122, 101]) = false := by exact beq_eq_false_iff_ne.2 h13
  have f14 : (s.toList == [111, 117, 116]) = false := by exact beq_eq_false_iff_ne.2 h14
  have f15 : (s.toList == [119, 104, 105, 99, 104, 95, 99, 104, 105, 108, 100, 114, 101, 110]) = false := by exact beq_eq_false_iff_ne.2 h15
  have f16 : (s.toList == [101, 120, 105, 116]) = false := by exact beq_eq_false_iff_ne.2 h16
  have f17 : (s.toList == [101, 108, 101, 109, 101, 110, 116]) = false := by exact beq_eq_false_iff_ne.2 h17
  have f18 : (s.toList == [115, 101, 110, 100]) = false := by exact beq_eq_false_iff_ne.2 h18
  have f19 : (s.toList == [99, 97, 115, 116]) = false := by exact beq_eq_false_iff_ne.2 h19
  have f20 : (s.toList == [115, 116, 97, 114, 116, 95, 99, 104, 105, 108, 100]) = false := by exact beq_eq_false_iff_ne.2 h20
  have f21 : (s.toList == [116, 101, 114, 109, 105, 110, 97, 116, 101, 95, 99, 104, 105, 108, 100]) = false := by exact beq_eq_false_iff_ne.2 h21
  have f22 : (s.toList == [114, 101, 115, 116, 97, 114, 116, 95, 99, 104, 105, 108, 100]) = false := by exact beq_eq_false_iff_ne.2 h22
  have f23 : (s.toList == [100, 101, 108, 101, 116, 101, 95, 99, 104, 105, 108, 100]) = false := by exact beq_eq_false_iff_ne.2 h23
  have f24 : (s.toList == [115, 112, 97, 119, 110, 95, 108, 105, 110, 107]) = false := by exact beq_eq_false_iff_ne.2 h24
  have f25 : (s.toList == [99, 97, 108, 108]) = false := by exact beq_eq_false_iff_ne.2 h25
  have HB : Hid (builtB s n = false) := by show _ = _; unfold builtB; rw [← Go.Lib.toList_data]; simp [built0, built1, built2, built3, h0, h1, h2, h3, h4, h5, h6, h7, h8, h9, h10, h11, h12, h13, h14, h15, h16, h17, h18, h19, h20, h21, h22, h23, h24, h25]
  clear h0 h1 h2 h3 h4 h5 h6 h7 h8 h9 h10 h11 h12 h13 h14 h15 h16 h17 h18 h19 h20 h21 h22 h23 h24 h25
  rw [HB.out]
  clear HB
  go_enter Tryz.func12, Tryz.ntmps12
  go_wp2_with fail
  all_goals
    go_ret
    exact ⟨ret_bool (by simp_all), rfl⟩
end Go.Proofs.YtdimcddbmccniaaGreatDoor
