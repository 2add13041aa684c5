/- Layer 9: errors.Is, at an error that wraps a number, and a number. -/
import Derived.Test.YthbiaaeoajmlbaaGreatDoorKFOnce9
import Derived.LaidEql
import Derived.Stop.Asserts
import Derived.Lib.IfaceEq
set_option linter.unusedVariables false
set_option linter.unusedSimpArgs false
namespace Go.Proofs.YthbiaaeoajmlbaaGreatDoor
open Go.RowKit Go.Shelf Go.Stop Go.Extern.Stop Go.Extern

def cmp9 : Array Value → Sem Value := Extern.ReflectliteType.method fun t => do Go.Extern.Rtype.noPackHeld "Comparable" t; pure (.bool (← typeInfo t).comparable)
theorem isTypeOf9 : ∃ b, (∀ (v : Value) (w : World), (Extern.ReflectliteType.typeOf #[.iface 28 v]).run Tryz.prog w = .ok (.iface 197 (.agg #[.pointer (some ⟨b, 28, none⟩)])) w) ∧
    ∀ w : World, (cmp9 #[.agg #[.pointer (some ⟨b, 28, none⟩)]]).run Tryz.prog w = .ok (.bool true) w := ⟨Tryz.prog.globals.size, fun v w => by kernel_rfl, fun w => by kernel_rfl⟩
theorem isMethodComparable9 (n : Nat) (v : Value) (w : World) : (Go.method (n + 1) 197 v "Comparable").run Tryz.prog w = .ok (342, v) w := by kernel_rfl
theorem methodUnwrap9 (n : Nat) (v : Value) (w : World) : (Go.method (n + 1) 80 v "Unwrap").run Tryz.prog w = .ok (336, v) w := by kernel_rfl
theorem noIsE9 (v : Value) (xT : TypeId) (w : World) : (Instr.typeAssert (.iface 28 v) xT 230 true).run Tryz.prog w = .ok (.tuple #[.nilIface, .bool false]) w := run_typeAssert_lacksB Tryz.underlying230 (by kernel_rfl) (by kernel_rfl) v xT w
theorem noUnwrapE9 (v : Value) (xT : TypeId) (w : World) : (Instr.typeAssert (.iface 28 v) xT 204 true).run Tryz.prog w = .ok (.tuple #[.nilIface, .bool false]) w := run_typeAssert_lacksB Tryz.underlying204 (by kernel_rfl) (by kernel_rfl) v xT w
theorem noUnwrapsE9 (v : Value) (xT : TypeId) (w : World) : (Instr.typeAssert (.iface 28 v) xT 205 true).run Tryz.prog w = .ok (.tuple #[.nilIface, .bool false]) w := run_typeAssert_lacksB Tryz.underlying205 (by kernel_rfl) (by kernel_rfl) v xT w
theorem noIsR9 (v : Value) (xT : TypeId) (w : World) : (Instr.typeAssert (.iface 80 v) xT 230 true).run Tryz.prog w = .ok (.tuple #[.nilIface, .bool false]) w := run_typeAssert_lacksB Tryz.underlying230 (by kernel_rfl) (by kernel_rfl) v xT w
theorem hasUnwrapR9 (v : Value) (xT : TypeId) (w : World) : (Instr.typeAssert (.iface 80 v) xT 204 true).run Tryz.prog w = .ok (.tuple #[.iface 80 v, .bool true]) w := run_typeAssert_hasB Tryz.underlying204 (by kernel_rfl) v xT w
theorem unwrap_any (r : Nat) (e p : Int) (w : World) (h : w.heap[r]? = some (.cells #[.int .i64 9, .int .i64 e, .int .i64 p] 87 (0, 0))) :
    Calls Tryz.prog 336 #[.pointer (some ⟨r, 0, none⟩)] w fun o w' => o = .returned (.iface 28 (.int .i64 e)) ∧ w' = w := by
  have c1 := cell_of_row (i := 1) h rfl
  go_enter Tryz.func336, Tryz.ntmps336
  go_wp2
  go_ret
  exact ⟨rfl, rfl⟩
set_option maxHeartbeats 8000000 in
set_option maxRecDepth 100000 in
theorem is_any (r : Nat) (e e2 p : Int) (w : World) (h : w.heap[r]? = some (.cells #[.int .i64 9, .int .i64 e, .int .i64 p] 87 (0, 0))) :
    Calls Tryz.prog 103 #[.iface 80 (.pointer (some ⟨r, 0, none⟩)), .iface 28 (.int .i64 e2)] w fun o w' => o = .returned (.bool (e == e2)) ∧ w' = w := by
  have h8 := @run_callFunc_extern Tryz.prog 160 _ Extern.ReflectliteType.typeOf Tryz.func160 (by kernel_rfl) (by kernel_rfl) (by kernel_rfl) (by kernel_rfl)
  have h32 := @run_callFunc_extern Tryz.prog 342 _ cmp9 Tryz.func342 (by kernel_rfl) (by kernel_rfl) (by kernel_rfl) (by kernel_rfl)
  obtain ⟨b, tT, cT⟩ := isTypeOf9
  have mR := isMethodComparable9
  have mU := methodUnwrap9
  have nE := noIsE9
  have uE := noUnwrapE9
  have vE := noUnwrapsE9
  have nR := noIsR9
  have uR := hasUnwrapR9
  have hty := run_eql_iface_types (P := Tryz.prog) 80 28 (.pointer (some ⟨r, 0, none⟩)) (.int .i64 e2) Tryz.underlying83 (by decide)
  have hun := unwrap_any r e p w h
  by_cases hee : e = e2
  · subst hee
    have heq := fun W => Lib.run_eql_iface_int (P := Tryz.prog) W (k := .i64) e e Tryz.underlying83 (tx := 28) (by kernel_rfl) Tryz.underlying28
    simp only [beq_self_eq_true] at heq ⊢
    have HUN := Lib.hid hun
    clear hun h
    go_enter Tryz.func103, Tryz.ntmps103
    go_wp2
    refine wp_loop_rounds 2 ?_
    rw [rounds_succ]
    go_wp2_with (go_at_call 336; refine HUN.out.mono ?_; rintro e w' ⟨rfl, rfl⟩)
    rw [rounds_succ]
    go_wp2
    go_ret
    exact ⟨rfl, rfl⟩
  · have heq := fun W => Lib.run_eql_iface_int (P := Tryz.prog) W (k := .i64) e e2 Tryz.underlying83 (tx := 28) (by kernel_rfl) Tryz.underlying28
    simp only [beq_eq_false_iff_ne.2 hee] at heq ⊢
    have HUN := Lib.hid hun
    clear hun h hee
    go_enter Tryz.func103, Tryz.ntmps103
    go_wp2
    refine wp_loop_rounds 2 ?_
    rw [rounds_succ]
    go_wp2_with (go_at_call 336; refine HUN.out.mono ?_; rintro e w' ⟨rfl, rfl⟩)
    rw [rounds_succ]
    go_wp2
    go_ret
    exact ⟨rfl, rfl⟩
end Go.Proofs.YthbiaaeoajmlbaaGreatDoor
