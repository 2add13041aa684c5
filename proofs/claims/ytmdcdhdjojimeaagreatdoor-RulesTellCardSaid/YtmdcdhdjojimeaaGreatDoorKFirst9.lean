/- Layer 9: the first fault of a number. -/
import Derived.Test.YtmdcdhdjojimeaaGreatDoorKFOnce9
import Derived.Test.YtmdcdhdjojimeaaGreatDoorKSet9
import Derived.LaidEql
import Derived.Stop.Asserts
import Derived.Lib.IfaceEq
import Derived.WalkKit
import Derived.Lib.Hide
import Derived.LoopTactic
import Derived.LoopNIn
section
set_option linter.unusedVariables false
set_option linter.unusedSimpArgs false
namespace Go.Proofs.YtmdcdhdjojimeaaGreatDoor
open Go.RowKit Go.Shelf Go.Stop Go.Extern.Stop Go.Extern

def cmp9 : Array Value → Sem Value := Extern.ReflectliteType.method fun t => do Go.Extern.Rtype.noPackHeld "Comparable" t; pure (.bool (← typeInfo t).comparable)
theorem isTypeOf9 : ∃ b, (∀ (v : Value) (w : World), (Extern.ReflectliteType.typeOf #[.iface 28 v]).run Tryz.prog w = .ok (.iface 105 (.agg #[.pointer (some ⟨b, 28, none⟩)])) w) ∧
  ∀ w : World, (cmp9 #[.agg #[.pointer (some ⟨b, 28, none⟩)]]).run Tryz.prog w = .ok (.bool true) w := ⟨Tryz.prog.globals.size, fun v w => by kernel_rfl, fun w => by kernel_rfl⟩
theorem isMethodComparable9 (n : Nat) (v : Value) (w : World) : (Go.method (n + 1) 105 v "Comparable").run Tryz.prog w = .ok (190, v) w := by kernel_rfl
theorem methodUnwrap9 (n : Nat) (v : Value) (w : World) : (Go.method (n + 1) 44 v "Unwrap").run Tryz.prog w = .ok (184, v) w := by kernel_rfl
theorem noIsE9 (v : Value) (xT : TypeId) (w : World) : (Instr.typeAssert (.iface 28 v) xT 160 true).run Tryz.prog w = .ok (.tuple #[.nilIface, .bool false]) w := run_typeAssert_lacksB Tryz.underlying160 (by kernel_rfl) (by kernel_rfl) v xT w
theorem noUnwrapE9 (v : Value) (xT : TypeId) (w : World) : (Instr.typeAssert (.iface 28 v) xT 113 true).run Tryz.prog w = .ok (.tuple #[.nilIface, .bool false]) w := run_typeAssert_lacksB Tryz.underlying113 (by kernel_rfl) (by kernel_rfl) v xT w
theorem noUnwrapsE9 (v : Value) (xT : TypeId) (w : World) : (Instr.typeAssert (.iface 28 v) xT 114 true).run Tryz.prog w = .ok (.tuple #[.nilIface, .bool false]) w := run_typeAssert_lacksB Tryz.underlying114 (by kernel_rfl) (by kernel_rfl) v xT w
theorem noIsR9 (v : Value) (xT : TypeId) (w : World) : (Instr.typeAssert (.iface 44 v) xT 160 true).run Tryz.prog w = .ok (.tuple #[.nilIface, .bool false]) w := run_typeAssert_lacksB Tryz.underlying160 (by kernel_rfl) (by kernel_rfl) v xT w
theorem hasUnwrapR9 (v : Value) (xT : TypeId) (w : World) : (Instr.typeAssert (.iface 44 v) xT 113 true).run Tryz.prog w = .ok (.tuple #[.iface 44 v, .bool true]) w := run_typeAssert_hasB Tryz.underlying113 (by kernel_rfl) v xT w
theorem unwrap_any (r : Nat) (e p : Int) (w : World) (h : w.heap[r]? = some (.cells #[.int .i64 9, .int .i64 e, .int .i64 p] 51 (0, 0))) :
  Calls Tryz.prog 184 #[.pointer (some ⟨r, 0, none⟩)] w fun o w' => o = .returned (.iface 28 (.int .i64 e)) ∧ w' = w := by
 have c1 := cell_of_row (i := 1) h rfl
 go_enter Tryz.func184, Tryz.ntmps184
 go_wp2
 go_ret
 exact ⟨rfl, rfl⟩
set_option maxHeartbeats 8000000 in
set_option maxRecDepth 100000 in
theorem is_any (r : Nat) (e e2 p : Int) (w : World) (h : w.heap[r]? = some (.cells #[.int .i64 9, .int .i64 e, .int .i64 p] 51 (0, 0))) :
  Calls Tryz.prog 92 #[.iface 44 (.pointer (some ⟨r, 0, none⟩)), .iface 28 (.int .i64 e2)] w fun o w' => o = .returned (.bool (e == e2)) ∧ w' = w := by
 have h8 := @run_callFunc_extern Tryz.prog 53 _ Extern.ReflectliteType.typeOf Tryz.func53 (by kernel_rfl) (by kernel_rfl) (by kernel_rfl) (by kernel_rfl)
 have h32 := @run_callFunc_extern Tryz.prog 190 _ cmp9 Tryz.func190 (by kernel_rfl) (by kernel_rfl) (by kernel_rfl) (by kernel_rfl)
 obtain ⟨b, tT, cT⟩ := isTypeOf9
 have mR := isMethodComparable9
 have mU := methodUnwrap9
 have nE := noIsE9
 have uE := noUnwrapE9
 have vE := noUnwrapsE9
 have nR := noIsR9
 have uR := hasUnwrapR9
 have hty := run_eql_iface_types (P := Tryz.prog) 44 28 (.pointer (some ⟨r, 0, none⟩)) (.int .i64 e2) Tryz.underlying47 (by decide)
 have hun := unwrap_any r e p w h
 by_cases hee : e = e2
 ·subst hee
  have heq := fun W => Lib.run_eql_iface_int (P := Tryz.prog) W (k := .i64) e e Tryz.underlying47 (tx := 28) (by kernel_rfl) Tryz.underlying28
  simp only [beq_self_eq_true] at heq ⊢
  have HUN := Lib.hid hun
  clear hun h
  go_enter Tryz.func92, Tryz.ntmps92
  go_wp2
  refine wp_loop_rounds 2 ?_
  rw [rounds_succ]
  go_wp2_with (go_at_call 184; refine HUN.out.mono ?_; rintro e w' ⟨rfl, rfl⟩)
  rw [rounds_succ]
  go_wp2
  go_ret
  exact ⟨rfl, rfl⟩
 ·have heq := fun W => Lib.run_eql_iface_int (P := Tryz.prog) W (k := .i64) e e2 Tryz.underlying47 (tx := 28) (by kernel_rfl) Tryz.underlying28
  simp only [beq_eq_false_iff_ne.2 hee] at heq ⊢
  have HUN := Lib.hid hun
  clear hun h hee
  go_enter Tryz.func92, Tryz.ntmps92
  go_wp2
  refine wp_loop_rounds 2 ?_
  rw [rounds_succ]
  go_wp2_with (go_at_call 184; refine HUN.out.mono ?_; rintro e w' ⟨rfl, rfl⟩)
  rw [rounds_succ]
  go_wp2
  go_ret
  exact ⟨rfl, rfl⟩
end Go.Proofs.YtmdcdhdjojimeaaGreatDoor
end
section
set_option linter.unusedVariables false
set_option linter.unusedSimpArgs false
namespace Go.Proofs.YtmdcdhdjojimeaaGreatDoor
open Go.RowKit

theorem lit_built {s : ByteArray} {l : List UInt8} (h : s.toList = l) : s = ⟨l.toArray⟩ := by
 rw [ByteArray.toList_eq] at h
 cases s
 subst h
 rfl
set_option maxHeartbeats 16000000 in
set_option maxRecDepth 100000 in
theorem built_any (s : ByteArray) (n : Int) (w : World) : Calls Tryz.prog 11 #[.string s, .int .i64 n] w fun e w' => e = .returned (.bool (builtB s n)) ∧ w' = w := by
 by_cases h0 : s.toList = [115, 101, 108, 102]
 ·rw [lit_built h0, show builtB ⟨_⟩ n = (n == 0) by simp [builtB, built0, built1, built2, built3]]
  clear h0
  go_enter Tryz.func11, Tryz.ntmps11
  go_wp2_with fail
  all_goals
   go_ret
   exact ⟨ret_bool (by simp_all), rfl⟩
 by_cases h1 : s.toList = [109, 97, 107, 101, 95, 114, 101, 102]
 ·rw [lit_built h1, show builtB ⟨_⟩ n = (n == 0) by simp [builtB, built0, built1, built2, built3]]
  clear h1
  go_enter Tryz.func11, Tryz.ntmps11
  go_wp2_with fail
  all_goals
   go_ret
   exact ⟨ret_bool (by simp_all), rfl⟩
 by_cases h2 : s.toList = [110, 111, 119]
 ·rw [lit_built h2, show builtB ⟨_⟩ n = (n == 0) by simp [builtB, built0, built1, built2, built3]]
  clear h2
  go_enter Tryz.func11, Tryz.ntmps11
  go_wp2_with fail
  all_goals
   go_ret
   exact ⟨ret_bool (by simp_all), rfl⟩
 by_cases h3 : s.toList = [108, 105, 110, 107]
 ·rw [lit_built h3, show builtB ⟨_⟩ n = (n == 1) by simp [builtB, built0, built1, built2, built3]]
  clear h3
  go_enter Tryz.func11, Tryz.ntmps11
  go_wp2_with fail
  all_goals
   go_ret
   exact ⟨ret_bool (by simp_all), rfl⟩
 by_cases h4 : s.toList = [109, 111, 110, 105, 116, 111, 114]
 ·rw [lit_built h4, show builtB ⟨_⟩ n = (n == 1) by simp [builtB, built0, built1, built2, built3]]
  clear h4
  go_enter Tryz.func11, Tryz.ntmps11
  go_wp2_with fail
  all_goals
   go_ret
   exact ⟨ret_bool (by simp_all), rfl⟩
 by_cases h5 : s.toList = [101, 114, 114, 111, 114]
 ·rw [lit_built h5, show builtB ⟨_⟩ n = (n == 1) by simp [builtB, built0, built1, built2, built3]]
  clear h5
  go_enter Tryz.func11, Tryz.ntmps11
  go_wp2_with fail
  all_goals
   go_ret
   exact ⟨ret_bool (by simp_all), rfl⟩
 by_cases h6 : s.toList = [116, 104, 114, 111, 119]
 ·rw [lit_built h6, show builtB ⟨_⟩ n = (n == 1) by simp [builtB, built0, built1, built2, built3]]
  clear h6
  go_enter Tryz.func11, Tryz.ntmps11
  go_wp2_with fail
  all_goals
   go_ret
   exact ⟨ret_bool (by simp_all), rfl⟩
 by_cases h7 : s.toList = [116, 114, 97, 112, 95, 101, 120, 105, 116]
 ·rw [lit_built h7, show builtB ⟨_⟩ n = (n == 1) by simp [builtB, built0, built1, built2, built3]]
  clear h7
  go_enter Tryz.func11, Tryz.ntmps11
  go_wp2_with fail
  all_goals
   go_ret
   exact ⟨ret_bool (by simp_all), rfl⟩
 by_cases h8 : s.toList = [114, 101, 103, 105, 115, 116, 101, 114]
 ·rw [lit_built h8, show builtB ⟨_⟩ n = (n == 1) by simp [builtB, built0, built1, built2, built3]]
  clear h8
  go_enter Tryz.func11, Tryz.ntmps11
  go_wp2_with fail
  all_goals
   go_ret
   exact ⟨ret_bool (by simp_all), rfl⟩
 by_cases h9 : s.toList = [119, 104, 101, 114, 101, 105, 115]
 ·rw [lit_built h9, show builtB ⟨_⟩ n = (n == 1) by simp [builtB, built0, built1, built2, built3]]
  clear h9
  go_enter Tryz.func11, Tryz.ntmps11
  go_wp2_with fail
  all_goals
   go_ret
   exact ⟨ret_bool (by simp_all), rfl⟩
 by_cases h10 : s.toList = [108, 101, 110, 103, 116, 104]
 ·rw [lit_built h10, show builtB ⟨_⟩ n = (n == 1) by simp [builtB, built0, built1, built2, built3]]
  clear h10
  go_enter Tryz.func11, Tryz.ntmps11
  go_wp2_with fail
  all_goals
   go_ret
   exact ⟨ret_bool (by simp_all), rfl⟩
 by_cases h11 : s.toList = [104, 100]
 ·rw [lit_built h11, show builtB ⟨_⟩ n = (n == 1) by simp [builtB, built0, built1, built2, built3]]
  clear h11
  go_enter Tryz.func11, Tryz.ntmps11
  go_wp2_with fail
  all_goals
   go_ret
   exact ⟨ret_bool (by simp_all), rfl⟩
 by_cases h12 : s.toList = [116, 108]
 ·rw [lit_built h12, show builtB ⟨_⟩ n = (n == 1) by simp [builtB, built0, built1, built2, built3]]
  clear h12
  go_enter Tryz.func11, Tryz.ntmps11
  go_wp2_with fail
  all_goals
   go_ret
   exact ⟨ret_bool (by simp_all), rfl⟩
 by_cases h13 : s.toList = [116, 117, 112, 108, 101, 95, 115, 105, 122, 101]
 ·rw [lit_built h13, show builtB ⟨_⟩ n = (n == 1) by simp [builtB, built0, built1, built2, built3]]
  clear h13
  go_enter Tryz.func11, Tryz.ntmps11
  go_wp2_with fail
  all_goals
   go_ret
   exact ⟨ret_bool (by simp_all), rfl⟩
 by_cases h14 : s.toList = [111, 117, 116]
 ·rw [lit_built h14, show builtB ⟨_⟩ n = (n == 1) by simp [builtB, built0, built1, built2, built3]]
  clear h14
  go_enter Tryz.func11, Tryz.ntmps11
  go_wp2_with fail
  all_goals
   go_ret
   exact ⟨ret_bool (by simp_all), rfl⟩
 by_cases h15 : s.toList = [119, 104, 105, 99, 104, 95, 99, 104, 105, 108, 100, 114, 101, 110]
 ·rw [lit_built h15, show builtB ⟨_⟩ n = (n == 1) by simp [builtB, built0, built1, built2, built3]]
  clear h15
  go_enter Tryz.func11, Tryz.ntmps11
  go_wp2_with fail
  all_goals
   go_ret
   exact ⟨ret_bool (by simp_all), rfl⟩
 by_cases h16 : s.toList = [101, 120, 105, 116]
 ·rw [lit_built h16, show builtB ⟨_⟩ n = ((n == 1) || (n == 2)) by simp [builtB, built0, built1, built2, built3]]
  clear h16
  go_enter Tryz.func11, Tryz.ntmps11
  go_wp2_with fail
  all_goals
   go_ret
   exact ⟨ret_bool (by simp_all), rfl⟩
 by_cases h17 : s.toList = [101, 108, 101, 109, 101, 110, 116]
 ·rw [lit_built h17, show builtB ⟨_⟩ n = (n == 2) by simp [builtB, built0, built1, built2, built3]]
  clear h17
  go_enter Tryz.func11, Tryz.ntmps11
  go_wp2_with fail
  all_goals
   go_ret
   exact ⟨ret_bool (by simp_all), rfl⟩
 by_cases h18 : s.toList = [115, 101, 110, 100]
 ·rw [lit_built h18, show builtB ⟨_⟩ n = (n == 2) by simp [builtB, built0, built1, built2, built3]]
  clear h18
  go_enter Tryz.func11, Tryz.ntmps11
  go_wp2_with fail
  all_goals
   go_ret
   exact ⟨ret_bool (by simp_all), rfl⟩
 by_cases h19 : s.toList = [99, 97, 115, 116]
 ·rw [lit_built h19, show builtB ⟨_⟩ n = (n == 2) by simp [builtB, built0, built1, built2, built3]]
  clear h19
  go_enter Tryz.func11, Tryz.ntmps11
  go_wp2_with fail
  all_goals
   go_ret
   exact ⟨ret_bool (by simp_all), rfl⟩
 by_cases h20 : s.toList = [115, 116, 97, 114, 116, 95, 99, 104, 105, 108, 100]
 ·rw [lit_built h20, show builtB ⟨_⟩ n = (n == 2) by simp [builtB, built0, built1, built2, built3]]
  clear h20
  go_enter Tryz.func11, Tryz.ntmps11
  go_wp2_with fail
  all_goals
   go_ret
   exact ⟨ret_bool (by simp_all), rfl⟩
 by_cases h21 : s.toList = [116, 101, 114, 109, 105, 110, 97, 116, 101, 95, 99, 104, 105, 108, 100]
 ·rw [lit_built h21, show builtB ⟨_⟩ n = (n == 2) by simp [builtB, built0, built1, built2, built3]]
  clear h21
  go_enter Tryz.func11, Tryz.ntmps11
  go_wp2_with fail
  all_goals
   go_ret
   exact ⟨ret_bool (by simp_all), rfl⟩
 by_cases h22 : s.toList = [114, 101, 115, 116, 97, 114, 116, 95, 99, 104, 105, 108, 100]
 ·rw [lit_built h22, show builtB ⟨_⟩ n = (n == 2) by simp [builtB, built0, built1, built2, built3]]
  clear h22
  go_enter Tryz.func11, Tryz.ntmps11
  go_wp2_with fail
  all_goals
   go_ret
   exact ⟨ret_bool (by simp_all), rfl⟩
 by_cases h23 : s.toList = [100, 101, 108, 101, 116, 101, 95, 99, 104, 105, 108, 100]
 ·rw [lit_built h23, show builtB ⟨_⟩ n = (n == 2) by simp [builtB, built0, built1, built2, built3]]
  clear h23
  go_enter Tryz.func11, Tryz.ntmps11
  go_wp2_with fail
  all_goals
   go_ret
   exact ⟨ret_bool (by simp_all), rfl⟩
 by_cases h24 : s.toList = [115, 112, 97, 119, 110, 95, 108, 105, 110, 107]
 ·rw [lit_built h24, show builtB ⟨_⟩ n = (n == 3) by simp [builtB, built0, built1, built2, built3]]
  clear h24
  go_enter Tryz.func11, Tryz.ntmps11
  go_wp2_with fail
  all_goals
   go_ret
   exact ⟨ret_bool (by simp_all), rfl⟩
 by_cases h25 : s.toList = [99, 97, 108, 108]
 ·rw [lit_built h25, show builtB ⟨_⟩ n = (n == 3) by simp [builtB, built0, built1, built2, built3]]
  clear h25
  go_enter Tryz.func11, Tryz.ntmps11
  go_wp2_with fail
  all_goals
   go_ret
   exact ⟨ret_bool (by simp_all), rfl⟩
 have f0 := beq_eq_false_iff_ne.2 h0
 have f1 := beq_eq_false_iff_ne.2 h1
 have f2 := beq_eq_false_iff_ne.2 h2
 have f3 := beq_eq_false_iff_ne.2 h3
 have f4 := beq_eq_false_iff_ne.2 h4
 have f5 := beq_eq_false_iff_ne.2 h5
 have f6 := beq_eq_false_iff_ne.2 h6
 have f7 := beq_eq_false_iff_ne.2 h7
 have f8 := beq_eq_false_iff_ne.2 h8
 have f9 := beq_eq_false_iff_ne.2 h9
 have f10 := beq_eq_false_iff_ne.2 h10
 have f11 := beq_eq_false_iff_ne.2 h11
 have f12 := beq_eq_false_iff_ne.2 h12
 have f13 := beq_eq_false_iff_ne.2 h13
 have f14 := beq_eq_false_iff_ne.2 h14
 have f15 := beq_eq_false_iff_ne.2 h15
 have f16 := beq_eq_false_iff_ne.2 h16
 have f17 := beq_eq_false_iff_ne.2 h17
 have f18 := beq_eq_false_iff_ne.2 h18
 have f19 := beq_eq_false_iff_ne.2 h19
 have f20 := beq_eq_false_iff_ne.2 h20
 have f21 := beq_eq_false_iff_ne.2 h21
 have f22 := beq_eq_false_iff_ne.2 h22
 have f23 := beq_eq_false_iff_ne.2 h23
 have f24 := beq_eq_false_iff_ne.2 h24
 have f25 := beq_eq_false_iff_ne.2 h25
 have HB : Hid (builtB s n = false) := by show _ = _; unfold builtB; rw [← Go.Lib.toList_data]; simp [built0, built1, built2, built3, h0, h1, h2, h3, h4, h5, h6, h7, h8, h9, h10, h11, h12, h13, h14, h15, h16, h17, h18, h19, h20, h21, h22, h23, h24, h25]
 clear h0 h1 h2 h3 h4 h5 h6 h7 h8 h9 h10 h11 h12 h13 h14 h15 h16 h17 h18 h19 h20 h21 h22 h23 h24 h25
 rw [HB.out]
 clear HB
 go_enter Tryz.func11, Tryz.ntmps11
 go_wp2_with fail
 all_goals
  go_ret
  exact ⟨ret_bool (by simp_all), rfl⟩
end Go.Proofs.YtmdcdhdjojimeaaGreatDoor
end
section
set_option linter.unusedVariables false
set_option linter.unusedSimpArgs false
namespace Go.Proofs.YtmdcdhdjojimeaaGreatDoor
open Go.RowKit

set_option maxRecDepth 100000 in
theorem there_any (CB LB lc fm : Nat) (fv : Value) (x : Tm) (fl : List (Int × Nat)) (V : World) (m s : ByteArray) (n : Int) (h : Chk CB LB lc fm fv x fl V) (hf : FnOk (m, s, n)) :
  Calls Tryz.prog 82 #[.pointer (some ⟨CB, 0, none⟩), .string m, .string s, .int .i64 n] V fun e V' => e = .returned (.int .i64 (if (m, s, n) ∈ fnsW x.l then 0 else 92)) ∧ Below V.heap.size V V' := by
 obtain ⟨es, c, h1, h2⟩ := h.fns
 have ql := h2.look V fm c h1 hf
 have hv : fnV (m, s, n) = .agg #[.string m, .string s, .int .i64 n, .int .i64 0, .int .i64 0] := rfl
 rw [hv] at ql
 have c1 := cell_of_row (i := 1) h.box rfl
 clear h1 h2 hv h hf
 cases hd : decide ((m, s, n) ∈ fnsW x.l)
 ·rw [hd] at ql
  have HD := Lib.hid (of_decide_eq_false hd)
  clear hd
  rw [if_neg HD.out]
  clear HD
  go_enter Tryz.func82, Tryz.ntmps82
  go_wp2_with fail
  go_ret
  exact ⟨rfl, (Below.refl _ _).alloc (Nat.le_refl _) _⟩
 ·rw [hd] at ql
  have HD := Lib.hid (of_decide_eq_true hd)
  clear hd
  rw [if_pos HD.out]
  clear HD
  go_enter Tryz.func82, Tryz.ntmps82
  go_wp2_with fail
  go_ret
  exact ⟨rfl, (Below.refl _ _).alloc (Nat.le_refl _) _⟩
set_option maxRecDepth 100000 in
theorem modulesOnce_any (CB LB lc fm : Nat) (fv : Value) (x : Tm) (fl : List (Int × Nat)) (V : World) (h : Chk CB LB lc fm fv x fl V) (hok : ∀ z ∈ x.l, TmOk z) :
  Calls Tryz.prog 57 #[.pointer (some ⟨CB, 0, none⟩)] V (RuleTo ((onceW [] 1 x.l).map fun q => (91, q)) V) := by
 have HC := Lib.hid (once_any CB LB lc fm fv x fl V 0 x h ⟨[], by simp⟩ hok)
 clear h hok
 go_enter Tryz.func57, Tryz.ntmps57
 go_wp2_with fail
 refine HC.out.mono ?_
 rintro e w2 ⟨v, rfl, h1, h2⟩
 have H1 := Lib.hid h1
 have H2 := Lib.hid h2
 clear h1 h2
 go_wp2_with fail
 go_ret
 exact ⟨_, rfl, H1.out, H2.out⟩
theorem mk_k (k n : Int) (s t : ByteArray) (l : List Tm) : (Tm.mk k n s t l).k = k := rfl
theorem mk_n (k n : Int) (s t : ByteArray) (l : List Tm) : (Tm.mk k n s t l).n = n := rfl
theorem mk_s (k n : Int) (s t : ByteArray) (l : List Tm) : (Tm.mk k n s t l).s = s := rfl
theorem mk_t (k n : Int) (s t : ByteArray) (l : List Tm) : (Tm.mk k n s t l).t = t := rfl
theorem mk_l (k n : Int) (s t : ByteArray) (l : List Tm) : (Tm.mk k n s t l).l = l := rfl
theorem thereW_drop {F : List Fn9} {m : ByteArray} {P : List Tm} {i : Nat} {z : Tm} (hz : P[i]? = some z) :
  thereW F m i (P.drop i) = if thereE F (if z.k = 1 then z.s else m) z = 0 then thereW F (if z.k = 1 then z.s else m) (i + 1) (P.drop (i + 1)) else some (thereE F (if z.k = 1 then z.s else m) z, i) := by
 obtain ⟨hi, e⟩ := List.getElem?_eq_some_iff.1 hz
 rw [List.drop_eq_getElem_cons hi, e, thereW]

set_option maxHeartbeats 16000000 in
set_option maxRecDepth 100000 in
theorem functionsThere_any (CB LB lc fm : Nat) (fv : Value) (x : Tm) (fl : List (Int × Nat)) (V : World) (h : Chk CB LB lc fm fv x fl V) (hok : ∀ z ∈ x.pre, TmOk z ∧ z.l.length ≤ 100000) :
  Calls Tryz.prog 60 #[.pointer (some ⟨CB, 0, none⟩)] V (RuleTo (thereW (fnsW x.l) ⟨#[]⟩ 0 x.pre) V) := by
 have c0 := cell_of_row (i := 0) h.box rfl
 have hlen := h.lay.len
 have H := Lib.hid h
 have HOK := Lib.hid hok
 have hl4 : (x.pre.length : Int) ≤ 4096 := by omega
 clear h hok hlen
 go_enter Tryz.func60, Tryz.ntmps60
 go_wp2_with fail
 clear c0
 go_loopw [3, 12] (fun mv iv wr => ∃ (i : Nat) (m : ByteArray), i ≤ x.pre.length ∧ mv = .string m ∧ iv = .int .i64 (i : Int) ∧ thereW (fnsW x.l) ⟨#[]⟩ 0 x.pre = thereW (fnsW x.l) m i (x.pre.drop i) ∧ m.size ≤ maxLen ∧ Below V.heap.size V wr) (fun _ iv _ => x.pre.length - (intOf iv).toNat)
 case atStart => exact ⟨0, ⟨#[]⟩, Nat.zero_le _, rfl, rfl, by rw [List.drop_zero], Nat.zero_le _, Below.refl _ _⟩
 case round =>
  obtain ⟨i, m, hi, rfl, rfl, hw, hms, hb⟩ := hrel
  have HW := Lib.hid hw
  have HMS := Lib.hid hms
  have HB := Lib.hid hb
  clear hw hms hb
  by_cases hlt : i < x.pre.length
  ·obtain ⟨z, hz⟩ : ∃ z, x.pre[i]? = some z := ⟨x.pre[i], List.getElem?_eq_getElem hlt⟩
   have hch := H.out.under HB.out
   obtain ⟨A4, cap4, s0, s1, s2, s3, s4, s5⟩ := hch.lay.spot hz
   obtain ⟨b5, hb5⟩ : ∃ b5 : Nat, b5 = i + z.nodes := ⟨_, rfl⟩
   rw [← hb5] at s5
   obtain ⟨hzo, hzl⟩ := HOK.out z (List.mem_of_getElem? hz)
   obtain ⟨k, n, s, t, l⟩ := z
   simp only [mk_k, mk_n, mk_s, mk_t, mk_l] at s0 s1 s2 s3 s4 hzl
   have HDR := Lib.hid (thereW_drop (F := fnsW x.l) (m := m) hz)
   have had := add6 LB i
   have hi1 : (i : Int) < (x.pre.length : Int) := by omega
   have hi0 : (0 : Int) ≤ (i : Int) := by omega
   have g6 := block_alloc wr (.cells #[.int .i8 k, .int .i64 n, .string s, .string t, .slice A4 l.length cap4, .int .i64 (b5 : Int)] 102)
   have b6 : Below wr.heap.size wr (wr.alloc (.cells #[.int .i8 k, .int .i64 n, .string s, .string t, .slice A4 l.length cap4, .int .i64 (b5 : Int)] 102)) := (Below.refl _ _).alloc (Nat.le_refl _) _
   have d0 := cell_of_row (i := 0) g6 rfl
   have d1 := cell_of_row (i := 1) g6 rfl
   have d2 := cell_of_row (i := 2) g6 rfl
   have d3 := cell_of_row (i := 3) g6 rfl
   have d4 := cell_of_row (i := 4) g6 rfl
   have HB6 := Lib.hid (HB.out.trans (b6.mono HB.out.size))
   have HZOK := Lib.hid hzo
   have HCH := Lib.hid (hch.under b6)
   have HG6 := Lib.hid g6
   have HLT := Lib.hid hlt
   have HB5 := Lib.hid hb5
   have hzl0 : (0 : Int) ≤ (l.length : Int) := by omega
   have HLN2 : Hid (-9223372036854775808 ≤ (l.length : Int) ∧ (l.length : Int) ≤ 9223372036854775807) := by show _ ∧ _; omega
   clear hch hzo g6 b6 hlt hz hb5
   by_cases h1 : k = 1
   ·subst h1
    have HN : Hid (thereW (fnsW x.l) m i (x.pre.drop i) = thereW (fnsW x.l) s (i + 1) (x.pre.drop (i + 1))) := by show _ = _; rw [HDR.out]; simp [thereE, mk_k, mk_n, mk_s, mk_t, mk_l]
    go_wp2_with fail
    go_roundw
    case rel => exact ⟨i + 1, s, HLT.out, rfl, by go_num, by rw [HW.out, HN.out], HZOK.out.1, HB6.out⟩
    case measure => simp [intOf]; have := HLT.out; omega
   by_cases h2 : k = 2
   ·subst h2
    go_wp2_with fail
    refine (built_any _ _ _).mono ?_
    rintro e w7 ⟨rfl, rfl⟩
    cases hb : builtB s n
    ·have HBU := Lib.hid hb
     clear hb
     have HN : Hid (thereW (fnsW x.l) m i (x.pre.drop i) = thereW (fnsW x.l) m (i + 1) (x.pre.drop (i + 1))) := by show _ = _; rw [HDR.out]; simp [thereE, mk_k, mk_n, mk_s, mk_t, mk_l, HBU.out]
     go_wp2_with fail
     go_roundw
     case rel => exact ⟨i + 1, m, HLT.out, rfl, by go_num, by rw [HW.out, HN.out], HMS.out, HB6.out⟩
     case measure => simp [intOf]; have := HLT.out; omega
    ·have HBU := Lib.hid hb
     clear hb
     generalize wr.alloc (.cells #[.int .i8 2, .int .i64 n, .string s, .string t, .slice A4 l.length cap4, .int .i64 (b5 : Int)] 102) = W6 at HB6 ⊢
     have HN : Hid (thereW (fnsW x.l) m i (x.pre.drop i) = some (91, i)) := by show _ = _; rw [HDR.out]; simp [thereE, mk_k, mk_n, mk_s, mk_t, mk_l, HBU.out]
     go_wp2_with fail
     refine (refused_any _ _ _).mono ?_
     rintro e w9 ⟨rfl, rfl⟩
     have g9 := Lib.hid (block_alloc W6 (.cells #[.int .i64 9, .int .i64 91, .int .i64 (i : Int)] 51))
     have b9 := Lib.hid ((HB6.out).alloc (by have := (HB6.out).size; omega) (.cells #[.int .i64 9, .int .i64 91, .int .i64 (i : Int)] 51))
     go_wp2_with fail
     go_ret
     exact ⟨_, rfl, by rw [HW.out, HN.out]; exact ⟨_, rfl, g9.out⟩, b9.out⟩
   by_cases h14 : k = 14
   ·subst h14
    go_wp2_with fail
    refine (built_any _ _ _).mono ?_
    rintro e w7 ⟨rfl, rfl⟩
    cases hb : builtB s l.length
    ·have HBU := Lib.hid hb
     clear hb
     go_wp2_with fail
     refine (there_any CB LB lc fm fv x fl _ m s (l.length : Int) HCH.out ⟨HMS.out, HZOK.out.1, HLN2.out⟩).mono ?_
     rintro e w8 ⟨rfl, hb8⟩
     have HB8 := Lib.hid ((HB6.out).trans (hb8.mono (HB6.out).size))
     clear hb8
     by_cases hF : (m, s, (l.length : Int)) ∈ fnsW x.l
     ·rw [if_pos hF]
      have HF := Lib.hid hF
      clear hF
      have HN : Hid (thereW (fnsW x.l) m i (x.pre.drop i) = thereW (fnsW x.l) m (i + 1) (x.pre.drop (i + 1))) := by show _ = _; rw [HDR.out]; simp [thereE, mk_k, mk_n, mk_s, mk_t, mk_l, HBU.out, HF.out]
      go_wp2_with fail
      go_roundw
      case rel => exact ⟨i + 1, m, HLT.out, rfl, by go_num, by rw [HW.out, HN.out], HMS.out, HB8.out⟩
      case measure => simp [intOf]; have := HLT.out; omega
     ·rw [if_neg hF]
      have HF := Lib.hid hF
      clear hF
      have HN : Hid (thereW (fnsW x.l) m i (x.pre.drop i) = some (92, i)) := by show _ = _; rw [HDR.out]; simp [thereE, mk_k, mk_n, mk_s, mk_t, mk_l, HBU.out, HF.out]
      go_wp2_with fail
      refine (refused_any _ _ _).mono ?_
      rintro e w9 ⟨rfl, rfl⟩
      have g9 := Lib.hid (block_alloc w8 (.cells #[.int .i64 9, .int .i64 92, .int .i64 (i : Int)] 51))
      have b9 := Lib.hid ((HB8.out).alloc (by have := (HB8.out).size; omega) (.cells #[.int .i64 9, .int .i64 92, .int .i64 (i : Int)] 51))
      go_wp2_with fail
      go_ret
      exact ⟨_, rfl, by rw [HW.out, HN.out]; exact ⟨_, rfl, g9.out⟩, b9.out⟩
    ·have HBU := Lib.hid hb
     clear hb
     have HN : Hid (thereW (fnsW x.l) m i (x.pre.drop i) = thereW (fnsW x.l) m (i + 1) (x.pre.drop (i + 1))) := by show _ = _; rw [HDR.out]; simp [thereE, mk_k, mk_n, mk_s, mk_t, mk_l, HBU.out]
     go_wp2_with fail
     go_roundw
     case rel => exact ⟨i + 1, m, HLT.out, rfl, by go_num, by rw [HW.out, HN.out], HMS.out, HB6.out⟩
     case measure => simp [intOf]; have := HLT.out; omega
   by_cases h15 : k = 15
   ·subst h15
    go_wp2_with fail
    refine (there_any CB LB lc fm fv x fl _ s t (l.length : Int) HCH.out ⟨HZOK.out.1, HZOK.out.2.1, HLN2.out⟩).mono ?_
    rintro e w8 ⟨rfl, hb8⟩
    have HB8 := Lib.hid ((HB6.out).trans (hb8.mono (HB6.out).size))
    clear hb8
    by_cases hF : (s, t, (l.length : Int)) ∈ fnsW x.l
    ·rw [if_pos hF]
     have HF := Lib.hid hF
     clear hF
     have HN : Hid (thereW (fnsW x.l) m i (x.pre.drop i) = thereW (fnsW x.l) m (i + 1) (x.pre.drop (i + 1))) := by show _ = _; rw [HDR.out]; simp [thereE, mk_k, mk_n, mk_s, mk_t, mk_l, HF.out]
     go_wp2_with fail
     go_roundw
     case rel => exact ⟨i + 1, m, HLT.out, rfl, by go_num, by rw [HW.out, HN.out], HMS.out, HB8.out⟩
     case measure => simp [intOf]; have := HLT.out; omega
    ·rw [if_neg hF]
     have HF := Lib.hid hF
     clear hF
     have HN : Hid (thereW (fnsW x.l) m i (x.pre.drop i) = some (92, i)) := by show _ = _; rw [HDR.out]; simp [thereE, mk_k, mk_n, mk_s, mk_t, mk_l, HF.out]
     go_wp2_with fail
     refine (refused_any _ _ _).mono ?_
     rintro e w9 ⟨rfl, rfl⟩
     have g9 := Lib.hid (block_alloc w8 (.cells #[.int .i64 9, .int .i64 92, .int .i64 (i : Int)] 51))
     have b9 := Lib.hid ((HB8.out).alloc (by have := (HB8.out).size; omega) (.cells #[.int .i64 9, .int .i64 92, .int .i64 (i : Int)] 51))
     go_wp2_with fail
     go_ret
     exact ⟨_, rfl, by rw [HW.out, HN.out]; exact ⟨_, rfl, g9.out⟩, b9.out⟩
   by_cases h17 : k = 17
   ·subst h17
    go_wp2_with fail
    refine (there_any CB LB lc fm fv x fl _ s t n HCH.out ⟨HZOK.out.1, HZOK.out.2.1, HZOK.out.2.2⟩).mono ?_
    rintro e w8 ⟨rfl, hb8⟩
    have HB8 := Lib.hid ((HB6.out).trans (hb8.mono (HB6.out).size))
    clear hb8
    by_cases hF : (s, t, n) ∈ fnsW x.l
    ·rw [if_pos hF]
     have HF := Lib.hid hF
     clear hF
     have HN : Hid (thereW (fnsW x.l) m i (x.pre.drop i) = thereW (fnsW x.l) m (i + 1) (x.pre.drop (i + 1))) := by show _ = _; rw [HDR.out]; simp [thereE, mk_k, mk_n, mk_s, mk_t, mk_l, HF.out]
     go_wp2_with fail
     go_roundw
     case rel => exact ⟨i + 1, m, HLT.out, rfl, by go_num, by rw [HW.out, HN.out], HMS.out, HB8.out⟩
     case measure => simp [intOf]; have := HLT.out; omega
    ·rw [if_neg hF]
     have HF := Lib.hid hF
     clear hF
     have HN : Hid (thereW (fnsW x.l) m i (x.pre.drop i) = some (92, i)) := by show _ = _; rw [HDR.out]; simp [thereE, mk_k, mk_n, mk_s, mk_t, mk_l, HF.out]
     go_wp2_with fail
     refine (refused_any _ _ _).mono ?_
     rintro e w9 ⟨rfl, rfl⟩
     have g9 := Lib.hid (block_alloc w8 (.cells #[.int .i64 9, .int .i64 92, .int .i64 (i : Int)] 51))
     have b9 := Lib.hid ((HB8.out).alloc (by have := (HB8.out).size; omega) (.cells #[.int .i64 9, .int .i64 92, .int .i64 (i : Int)] 51))
     go_wp2_with fail
     go_ret
     exact ⟨_, rfl, by rw [HW.out, HN.out]; exact ⟨_, rfl, g9.out⟩, b9.out⟩
   have HN : Hid (thereW (fnsW x.l) m i (x.pre.drop i) = thereW (fnsW x.l) m (i + 1) (x.pre.drop (i + 1))) := by show _ = _; rw [HDR.out]; simp [thereE, mk_k, mk_n, mk_s, mk_t, mk_l, h1, h2, h14, h15, h17]
   go_wp2_with fail
   go_roundw
   case rel => exact ⟨i + 1, m, HLT.out, rfl, by go_num, by rw [HW.out, HN.out], HMS.out, HB6.out⟩
   case measure => simp [intOf]; have := HLT.out; omega
  ·obtain rfl : i = x.pre.length := by omega
   go_wp2_with fail
   go_ret
   exact ⟨_, rfl, by rw [HW.out, List.drop_length]; rfl, HB.out⟩
end Go.Proofs.YtmdcdhdjojimeaaGreatDoor
end
section
set_option linter.unusedVariables false
set_option linter.unusedSimpArgs false
namespace Go.Proofs.YtmdcdhdjojimeaaGreatDoor
open Go.RowKit

theorem addo (g o i : Nat) : (⟨g, o, none⟩ : Addr).add i = ⟨g, o + i, none⟩ := by unfold Addr.add; split <;> simp_all
theorem findF_drop {e : Int} {fl : List (Int × Nat)} {i : Nat} {z : Int × Nat} (hz : fl[i]? = some z) : findF e (fl.drop i) = if z.1 = e then some z else findF e (fl.drop (i + 1)) := by
 obtain ⟨hi, e'⟩ := List.getElem?_eq_some_iff.1 hz
 rw [List.drop_eq_getElem_cons hi, e', findF]
set_option maxHeartbeats 8000000 in
set_option maxRecDepth 100000 in
theorem first_any (CB LB lc fm : Nat) (fv : Value) (x : Tm) (fl : List (Int × Nat)) (V : World) (e : Int) (h : Chk CB LB lc fm fv x fl V) (hlen : fl.length ≤ 2000000) :
  Calls Tryz.prog 81 #[.pointer (some ⟨CB, 0, none⟩), .int .i64 e] V (RuleTo (findF e fl) V) := by
 have c2 := cell_of_row (i := 2) h.box rfl
 obtain ⟨A, c, rfl, hc, hel⟩ := h.faults
 have HE := Lib.hid hel
 have HL := Lib.hid hlen
 have HH := Lib.hid h
 clear hel h hlen
 go_enter Tryz.func81, Tryz.ntmps81
 go_wp2_with fail
 clear c2
 go_loopw [12] (fun q w' => ∃ i : Nat, i ≤ fl.length ∧ q = .int .i64 (i : Int) ∧ findF e fl = findF e (fl.drop i) ∧ w' = V) (fun q _ => fl.length - (intOf q).toNat)
 case atStart => exact ⟨0, Nat.zero_le _, rfl, rfl, rfl⟩
 case round =>
  obtain ⟨i, hi, rfl, hW, rfl⟩ := hrel
  have HW := Lib.hid hW
  clear hW
  by_cases hlt : i < fl.length
  ·obtain ⟨⟨e', p⟩, hz⟩ : ∃ z, fl[i]? = some z := ⟨fl[i], List.getElem?_eq_getElem hlt⟩
   obtain ⟨g, o, v, rfl, hg, hcell, r, rfl, hr⟩ := HE.out i e' p hz
   have HZ := Lib.hid (findF_drop (e := e) hz)
   have HLT := Lib.hid hlt
   have HR := Lib.hid hr
   have HIS := Lib.hid (is_any r e' e p wr hr)
   have had := addo g o i
   have hl9 := HL.out
   clear hz hr hi
   by_cases hee : e' = e
   ·subst hee
    rw [beq_self_eq_true] at HIS
    have HN : Hid (findF e' fl = some (e', p)) := by show _ = _; rw [HW.out, HZ.out, if_pos rfl]
    go_wp2_with fail
    refine HIS.out.mono ?_
    rintro e9 w9 ⟨rfl, rfl⟩
    go_wp2_with fail
    go_ret
    exact ⟨_, rfl, by rw [HN.out]; exact ⟨r, rfl, HR.out⟩, Below.refl _ _⟩
   ·rw [beq_eq_false_iff_ne.2 hee] at HIS
    have HN : Hid (findF e fl = findF e (fl.drop (i + 1))) := by show _ = _; rw [HW.out, HZ.out, if_neg hee]
    clear hee
    go_wp2_with fail
    refine HIS.out.mono ?_
    rintro e9 w9 ⟨rfl, rfl⟩
    go_wp2_with fail
    go_roundw
    case rel => exact ⟨i + 1, HLT.out, by go_num, HN.out, trivial⟩
    case measure => simp [intOf]; have := HLT.out; omega
  ·obtain rfl : i = fl.length := by omega
   have HN : Hid (findF e fl = none) := by show _ = _; rw [HW.out, List.drop_length]; rfl
   go_wp2_with fail
   go_ret
   exact ⟨_, rfl, by rw [HN.out]; rfl, Below.refl _ _⟩
set_option maxRecDepth 100000 in
theorem namesBound_any (CB LB lc fm : Nat) (fv : Value) (x : Tm) (fl : List (Int × Nat)) (V : World) (h : Chk CB LB lc fm fv x fl V) (hlen : fl.length ≤ 2000000) :
  Calls Tryz.prog 59 #[.pointer (some ⟨CB, 0, none⟩)] V (RuleTo (findF 90 fl) V) := by
 have HC := Lib.hid (first_any CB LB lc fm fv x fl V 90 h hlen)
 clear h hlen
 go_enter Tryz.func59, Tryz.ntmps59
 go_wp2_with fail
 refine HC.out.mono ?_
 rintro e w2 ⟨v, rfl, h1, h2⟩
 have H1 := Lib.hid h1
 have H2 := Lib.hid h2
 clear h1 h2
 go_wp2_with fail
 go_ret
 exact ⟨_, rfl, H1.out, H2.out⟩
set_option maxRecDepth 100000 in
theorem slotsEnough_any (CB LB lc fm : Nat) (fv : Value) (x : Tm) (fl : List (Int × Nat)) (V : World) (h : Chk CB LB lc fm fv x fl V) (hlen : fl.length ≤ 2000000) :
  Calls Tryz.prog 61 #[.pointer (some ⟨CB, 0, none⟩)] V (RuleTo (findF 11 fl) V) := by
 have HC := Lib.hid (first_any CB LB lc fm fv x fl V 11 h hlen)
 clear h hlen
 go_enter Tryz.func61, Tryz.ntmps61
 go_wp2_with fail
 refine HC.out.mono ?_
 rintro e w2 ⟨v, rfl, h1, h2⟩
 have H1 := Lib.hid h1
 have H2 := Lib.hid h2
 clear h1 h2
 go_wp2_with fail
 go_ret
 exact ⟨_, rfl, H1.out, H2.out⟩
end Go.Proofs.YtmdcdhdjojimeaaGreatDoor
end
