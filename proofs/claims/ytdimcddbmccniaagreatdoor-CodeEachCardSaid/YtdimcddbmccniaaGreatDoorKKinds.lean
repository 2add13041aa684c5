/- Nodes of terms as values of types of their own: nodeOf, termOf, may. -/
import Derived.Test.YtdimcddbmccniaaGreatDoorKInts
import Derived.Test.YtdimcddbmccniaaGreatDoorKCd1
import Derived.WalkKit
import Derived.Lib.Hide
set_option linter.unusedVariables false
namespace Go.Proofs.YtdimcddbmccniaaGreatDoor
open Go.RowKit

theorem ta_integer_integer (v : Value) (w : World) : Sem.run Tryz.prog (Instr.typeAssert (.iface 248 v) 20 248 true) w = .ok (.tuple #[v, .bool true]) w := by kernel_rfl
theorem ta_atom_integer (v : Value) (w : World) : Sem.run Tryz.prog (Instr.typeAssert (.iface 250 v) 20 248 true) w = .ok (.tuple #[.int .i64 0, .bool false]) w := by kernel_rfl
theorem ta_atom_atom (v : Value) (w : World) : Sem.run Tryz.prog (Instr.typeAssert (.iface 250 v) 20 250 true) w = .ok (.tuple #[v, .bool true]) w := by kernel_rfl
theorem ta_ref_integer (v : Value) (w : World) : Sem.run Tryz.prog (Instr.typeAssert (.iface 251 v) 20 248 true) w = .ok (.tuple #[.int .i64 0, .bool false]) w := by kernel_rfl
theorem ta_ref_atom (v : Value) (w : World) : Sem.run Tryz.prog (Instr.typeAssert (.iface 251 v) 20 250 true) w = .ok (.tuple #[.string ⟨#[]⟩, .bool false]) w := by kernel_rfl
theorem ta_ref_ref (v : Value) (w : World) : Sem.run Tryz.prog (Instr.typeAssert (.iface 251 v) 20 251 true) w = .ok (.tuple #[v, .bool true]) w := by kernel_rfl
theorem ta_fun_integer (v : Value) (w : World) : Sem.run Tryz.prog (Instr.typeAssert (.iface 253 v) 20 248 true) w = .ok (.tuple #[.int .i64 0, .bool false]) w := by kernel_rfl
theorem ta_fun_atom (v : Value) (w : World) : Sem.run Tryz.prog (Instr.typeAssert (.iface 253 v) 20 250 true) w = .ok (.tuple #[.string ⟨#[]⟩, .bool false]) w := by kernel_rfl
theorem ta_fun_ref (v : Value) (w : World) : Sem.run Tryz.prog (Instr.typeAssert (.iface 253 v) 20 251 true) w = .ok (.tuple #[.int .i64 0, .bool false]) w := by kernel_rfl
theorem ta_fun_fun (v : Value) (w : World) : Sem.run Tryz.prog (Instr.typeAssert (.iface 253 v) 20 253 true) w = .ok (.tuple #[v, .bool true]) w := by kernel_rfl
theorem ta_pid_integer (v : Value) (w : World) : Sem.run Tryz.prog (Instr.typeAssert (.iface 254 v) 20 248 true) w = .ok (.tuple #[.int .i64 0, .bool false]) w := by kernel_rfl
theorem ta_pid_atom (v : Value) (w : World) : Sem.run Tryz.prog (Instr.typeAssert (.iface 254 v) 20 250 true) w = .ok (.tuple #[.string ⟨#[]⟩, .bool false]) w := by kernel_rfl
theorem ta_pid_ref (v : Value) (w : World) : Sem.run Tryz.prog (Instr.typeAssert (.iface 254 v) 20 251 true) w = .ok (.tuple #[.int .i64 0, .bool false]) w := by kernel_rfl
theorem ta_pid_fun (v : Value) (w : World) : Sem.run Tryz.prog (Instr.typeAssert (.iface 254 v) 20 253 true) w = .ok (.tuple #[.agg #[.string ⟨#[]⟩, .string ⟨#[]⟩, .int .i64 0], .bool false]) w := by kernel_rfl
theorem ta_pid_pid (v : Value) (w : World) : Sem.run Tryz.prog (Instr.typeAssert (.iface 254 v) 20 254 true) w = .ok (.tuple #[v, .bool true]) w := by kernel_rfl
theorem ta_tuple_integer (v : Value) (w : World) : Sem.run Tryz.prog (Instr.typeAssert (.iface 255 v) 20 248 true) w = .ok (.tuple #[.int .i64 0, .bool false]) w := by kernel_rfl
theorem ta_tuple_atom (v : Value) (w : World) : Sem.run Tryz.prog (Instr.typeAssert (.iface 255 v) 20 250 true) w = .ok (.tuple #[.string ⟨#[]⟩, .bool false]) w := by kernel_rfl
theorem ta_tuple_ref (v : Value) (w : World) : Sem.run Tryz.prog (Instr.typeAssert (.iface 255 v) 20 251 true) w = .ok (.tuple #[.int .i64 0, .bool false]) w := by kernel_rfl
theorem ta_tuple_fun (v : Value) (w : World) : Sem.run Tryz.prog (Instr.typeAssert (.iface 255 v) 20 253 true) w = .ok (.tuple #[.agg #[.string ⟨#[]⟩, .string ⟨#[]⟩, .int .i64 0], .bool false]) w := by kernel_rfl
theorem ta_tuple_pid (v : Value) (w : World) : Sem.run Tryz.prog (Instr.typeAssert (.iface 255 v) 20 254 true) w = .ok (.tuple #[.int .i64 0, .bool false]) w := by kernel_rfl
theorem ta_tuple_tuple (v : Value) (w : World) : Sem.run Tryz.prog (Instr.typeAssert (.iface 255 v) 20 255 true) w = .ok (.tuple #[v, .bool true]) w := by kernel_rfl
theorem ta_tuple_empty (v : Value) (w : World) : Sem.run Tryz.prog (Instr.typeAssert (.iface 255 v) 20 257 true) w = .ok (.tuple #[.agg #[], .bool false]) w := by kernel_rfl
theorem ta_empty_integer (v : Value) (w : World) : Sem.run Tryz.prog (Instr.typeAssert (.iface 257 v) 20 248 true) w = .ok (.tuple #[.int .i64 0, .bool false]) w := by kernel_rfl
theorem ta_empty_atom (v : Value) (w : World) : Sem.run Tryz.prog (Instr.typeAssert (.iface 257 v) 20 250 true) w = .ok (.tuple #[.string ⟨#[]⟩, .bool false]) w := by kernel_rfl
theorem ta_empty_ref (v : Value) (w : World) : Sem.run Tryz.prog (Instr.typeAssert (.iface 257 v) 20 251 true) w = .ok (.tuple #[.int .i64 0, .bool false]) w := by kernel_rfl
theorem ta_empty_fun (v : Value) (w : World) : Sem.run Tryz.prog (Instr.typeAssert (.iface 257 v) 20 253 true) w = .ok (.tuple #[.agg #[.string ⟨#[]⟩, .string ⟨#[]⟩, .int .i64 0], .bool false]) w := by kernel_rfl
theorem ta_empty_pid (v : Value) (w : World) : Sem.run Tryz.prog (Instr.typeAssert (.iface 257 v) 20 254 true) w = .ok (.tuple #[.int .i64 0, .bool false]) w := by kernel_rfl
theorem ta_empty_tuple (v : Value) (w : World) : Sem.run Tryz.prog (Instr.typeAssert (.iface 257 v) 20 255 true) w = .ok (.tuple #[.slice none 0 0, .bool false]) w := by kernel_rfl
theorem ta_empty_empty (v : Value) (w : World) : Sem.run Tryz.prog (Instr.typeAssert (.iface 257 v) 20 257 true) w = .ok (.tuple #[v, .bool true]) w := by kernel_rfl
theorem ta_cons_integer (v : Value) (w : World) : Sem.run Tryz.prog (Instr.typeAssert (.iface 258 v) 20 248 true) w = .ok (.tuple #[.int .i64 0, .bool false]) w := by kernel_rfl
theorem ta_cons_atom (v : Value) (w : World) : Sem.run Tryz.prog (Instr.typeAssert (.iface 258 v) 20 250 true) w = .ok (.tuple #[.string ⟨#[]⟩, .bool false]) w := by kernel_rfl
theorem ta_cons_ref (v : Value) (w : World) : Sem.run Tryz.prog (Instr.typeAssert (.iface 258 v) 20 251 true) w = .ok (.tuple #[.int .i64 0, .bool false]) w := by kernel_rfl
theorem ta_cons_fun (v : Value) (w : World) : Sem.run Tryz.prog (Instr.typeAssert (.iface 258 v) 20 253 true) w = .ok (.tuple #[.agg #[.string ⟨#[]⟩, .string ⟨#[]⟩, .int .i64 0], .bool false]) w := by kernel_rfl
theorem ta_cons_pid (v : Value) (w : World) : Sem.run Tryz.prog (Instr.typeAssert (.iface 258 v) 20 254 true) w = .ok (.tuple #[.int .i64 0, .bool false]) w := by kernel_rfl
theorem ta_cons_tuple (v : Value) (w : World) : Sem.run Tryz.prog (Instr.typeAssert (.iface 258 v) 20 255 true) w = .ok (.tuple #[.slice none 0 0, .bool false]) w := by kernel_rfl
theorem ta_cons_empty (v : Value) (w : World) : Sem.run Tryz.prog (Instr.typeAssert (.iface 258 v) 20 257 true) w = .ok (.tuple #[.agg #[], .bool false]) w := by kernel_rfl
theorem ta_cons_cons (v : Value) (w : World) : Sem.run Tryz.prog (Instr.typeAssert (.iface 258 v) 20 258 true) w = .ok (.tuple #[v, .bool true]) w := by kernel_rfl
theorem ta_none_integer (w : World) : Sem.run Tryz.prog (Instr.typeAssert .nilIface 20 248 true) w = .ok (.tuple #[.int .i64 0, .bool false]) w := by kernel_rfl
theorem ta_none_atom (w : World) : Sem.run Tryz.prog (Instr.typeAssert .nilIface 20 250 true) w = .ok (.tuple #[.string ⟨#[]⟩, .bool false]) w := by kernel_rfl
theorem ta_none_ref (w : World) : Sem.run Tryz.prog (Instr.typeAssert .nilIface 20 251 true) w = .ok (.tuple #[.int .i64 0, .bool false]) w := by kernel_rfl
theorem ta_none_fun (w : World) : Sem.run Tryz.prog (Instr.typeAssert .nilIface 20 253 true) w = .ok (.tuple #[.agg #[.string ⟨#[]⟩, .string ⟨#[]⟩, .int .i64 0], .bool false]) w := by kernel_rfl
theorem ta_none_pid (w : World) : Sem.run Tryz.prog (Instr.typeAssert .nilIface 20 254 true) w = .ok (.tuple #[.int .i64 0, .bool false]) w := by kernel_rfl
theorem ta_none_tuple (w : World) : Sem.run Tryz.prog (Instr.typeAssert .nilIface 20 255 true) w = .ok (.tuple #[.slice none 0 0, .bool false]) w := by kernel_rfl
theorem ta_none_empty (w : World) : Sem.run Tryz.prog (Instr.typeAssert .nilIface 20 257 true) w = .ok (.tuple #[.agg #[], .bool false]) w := by kernel_rfl
theorem ta_none_cons (w : World) : Sem.run Tryz.prog (Instr.typeAssert .nilIface 20 258 true) w = .ok (.tuple #[.slice none 0 0, .bool false]) w := by kernel_rfl

set_option maxHeartbeats 1000000 in
theorem nodeOf_integer (n : Int) (s t : ByteArray) (A : Option Addr) (len cap : Nat) (w : World) : Calls Tryz.prog 232 #[.agg #[.int .i8 0, .int .i64 n, .string s, .string t, .slice A len cap]] w fun e w' => e = .returned (.iface 248 (.int .i64 n)) ∧ Below w.heap.size w w' := by
  go_enter Tryz.func232, Tryz.ntmps232
  go_wp2
  go_ret
  exact ⟨rfl, (Below.refl _ w).alloc (Nat.le_refl _) _⟩

set_option maxHeartbeats 1000000 in
theorem nodeOf_atom (n : Int) (s t : ByteArray) (A : Option Addr) (len cap : Nat) (w : World) : Calls Tryz.prog 232 #[.agg #[.int .i8 1, .int .i64 n, .string s, .string t, .slice A len cap]] w fun e w' => e = .returned (.iface 250 (.string s)) ∧ Below w.heap.size w w' := by
  go_enter Tryz.func232, Tryz.ntmps232
  go_wp2
  go_ret
  exact ⟨rfl, (Below.refl _ w).alloc (Nat.le_refl _) _⟩

set_option maxHeartbeats 1000000 in
theorem nodeOf_ref (n : Int) (s t : ByteArray) (A : Option Addr) (len cap : Nat) (w : World) : Calls Tryz.prog 232 #[.agg #[.int .i8 2, .int .i64 n, .string s, .string t, .slice A len cap]] w fun e w' => e = .returned (.iface 251 (.int .i64 n)) ∧ Below w.heap.size w w' := by
  go_enter Tryz.func232, Tryz.ntmps232
  go_wp2
  go_ret
  exact ⟨rfl, (Below.refl _ w).alloc (Nat.le_refl _) _⟩

set_option maxHeartbeats 1000000 in
theorem nodeOf_fun (n : Int) (s t : ByteArray) (A : Option Addr) (len cap : Nat) (w : World) : Calls Tryz.prog 232 #[.agg #[.int .i8 3, .int .i64 n, .string s, .string t, .slice A len cap]] w fun e w' => e = .returned (.iface 253 (.agg #[.string s, .string t, .int .i64 n])) ∧ Below w.heap.size w w' := by
  go_enter Tryz.func232, Tryz.ntmps232
  go_wp2
  go_ret
  exact ⟨rfl, (Below.refl _ w).alloc (Nat.le_refl _) _⟩

set_option maxHeartbeats 1000000 in
theorem nodeOf_pid (n : Int) (s t : ByteArray) (A : Option Addr) (len cap : Nat) (w : World) : Calls Tryz.prog 232 #[.agg #[.int .i8 4, .int .i64 n, .string s, .string t, .slice A len cap]] w fun e w' => e = .returned (.iface 254 (.int .i64 n)) ∧ Below w.heap.size w w' := by
  go_enter Tryz.func232, Tryz.ntmps232
  go_wp2
  go_ret
  exact ⟨rfl, (Below.refl _ w).alloc (Nat.le_refl _) _⟩

set_option maxHeartbeats 1000000 in
theorem nodeOf_tuple (n : Int) (s t : ByteArray) (A : Option Addr) (len cap : Nat) (w : World) : Calls Tryz.prog 232 #[.agg #[.int .i8 5, .int .i64 n, .string s, .string t, .slice A len cap]] w fun e w' => e = .returned (.iface 255 (.slice A len cap)) ∧ Below w.heap.size w w' := by
  go_enter Tryz.func232, Tryz.ntmps232
  go_wp2
  go_ret
  exact ⟨rfl, (Below.refl _ w).alloc (Nat.le_refl _) _⟩

set_option maxHeartbeats 1000000 in
theorem nodeOf_empty (n : Int) (s t : ByteArray) (A : Option Addr) (len cap : Nat) (w : World) : Calls Tryz.prog 232 #[.agg #[.int .i8 6, .int .i64 n, .string s, .string t, .slice A len cap]] w fun e w' => e = .returned (.iface 257 (.agg #[])) ∧ Below w.heap.size w w' := by
  go_enter Tryz.func232, Tryz.ntmps232
  go_wp2
  go_ret
  exact ⟨rfl, (Below.refl _ w).alloc (Nat.le_refl _) _⟩

set_option maxHeartbeats 1000000 in
theorem nodeOf_cons (n : Int) (s t : ByteArray) (A : Option Addr) (len cap : Nat) (w : World) : Calls Tryz.prog 232 #[.agg #[.int .i8 7, .int .i64 n, .string s, .string t, .slice A len cap]] w fun e w' => e = .returned (.iface 258 (.slice A len cap)) ∧ Below w.heap.size w w' := by
  go_enter Tryz.func232, Tryz.ntmps232
  go_wp2
  go_ret
  exact ⟨rfl, (Below.refl _ w).alloc (Nat.le_refl _) _⟩

set_option maxHeartbeats 1000000 in
theorem nodeOf_none (k n : Int) (s t : ByteArray) (A : Option Addr) (len cap : Nat) (hk : k < 0 ∨ 7 < k) (w : World) : Calls Tryz.prog 232 #[.agg #[.int .i8 k, .int .i64 n, .string s, .string t, .slice A len cap]] w fun e w' => e = .returned (.nilIface) ∧ Below w.heap.size w w' := by
  have h0 : (k == 0) = false := by rw [beq_eq_false_iff_ne]; omega
  have h1 : (k == 1) = false := by rw [beq_eq_false_iff_ne]; omega
  have h2 : (k == 2) = false := by rw [beq_eq_false_iff_ne]; omega
  have h3 : (k == 3) = false := by rw [beq_eq_false_iff_ne]; omega
  have h4 : (k == 4) = false := by rw [beq_eq_false_iff_ne]; omega
  have h5 : (k == 5) = false := by rw [beq_eq_false_iff_ne]; omega
  have h6 : (k == 6) = false := by rw [beq_eq_false_iff_ne]; omega
  have h7 : (k == 7) = false := by rw [beq_eq_false_iff_ne]; omega
  clear hk
  go_enter Tryz.func232, Tryz.ntmps232
  go_wp2
  go_ret
  exact ⟨rfl, (Below.refl _ w).alloc (Nat.le_refl _) _⟩

set_option maxHeartbeats 1000000 in
theorem termOf_integer (n : Int) (s t : ByteArray) (A : Option Addr) (len cap : Nat) (w : World) : Calls Tryz.prog 243 #[.iface 248 (.int .i64 n)] w fun e w' => e = .returned (.agg #[.int .i8 0, .int .i64 n, .string ⟨#[]⟩, .string ⟨#[]⟩, .slice none 0 0]) ∧ Below w.heap.size w w' := by
  have q0 := ta_integer_integer (.int .i64 n)
  go_enter Tryz.func243, Tryz.ntmps243
  go_wp2
  exact bodyPost_ret (v := .agg #[.int .i8 0, .int .i64 n, .string ⟨#[]⟩, .string ⟨#[]⟩, .slice none 0 0]) (by simp [results, Tryz.f243, go_sem]) rfl ⟨rfl, (Below.refl _ w).alloc (Nat.le_refl _) _⟩

set_option maxHeartbeats 1000000 in
theorem termOf_atom (n : Int) (s t : ByteArray) (A : Option Addr) (len cap : Nat) (w : World) : Calls Tryz.prog 243 #[.iface 250 (.string s)] w fun e w' => e = .returned (.agg #[.int .i8 1, .int .i64 0, .string s, .string ⟨#[]⟩, .slice none 0 0]) ∧ Below w.heap.size w w' := by
  have q0 := ta_atom_integer (.string s)
  have q1 := ta_atom_atom (.string s)
  go_enter Tryz.func243, Tryz.ntmps243
  go_wp2
  exact bodyPost_ret (v := .agg #[.int .i8 1, .int .i64 0, .string s, .string ⟨#[]⟩, .slice none 0 0]) (by simp [results, Tryz.f243, go_sem]) rfl ⟨rfl, (Below.refl _ w).alloc (Nat.le_refl _) _⟩

set_option maxHeartbeats 1000000 in
theorem termOf_ref (n : Int) (s t : ByteArray) (A : Option Addr) (len cap : Nat) (w : World) : Calls Tryz.prog 243 #[.iface 251 (.int .i64 n)] w fun e w' => e = .returned (.agg #[.int .i8 2, .int .i64 n, .string ⟨#[]⟩, .string ⟨#[]⟩, .slice none 0 0]) ∧ Below w.heap.size w w' := by
  have q0 := ta_ref_integer (.int .i64 n)
  have q1 := ta_ref_atom (.int .i64 n)
  have q2 := ta_ref_ref (.int .i64 n)
  go_enter Tryz.func243, Tryz.ntmps243
  go_wp2
  exact bodyPost_ret (v := .agg #[.int .i8 2, .int .i64 n, .string ⟨#[]⟩, .string ⟨#[]⟩, .slice none 0 0]) (by simp [results, Tryz.f243, go_sem]) rfl ⟨rfl, (Below.refl _ w).alloc (Nat.le_refl _) _⟩

set_option maxHeartbeats 1000000 in
theorem termOf_fun (n : Int) (s t : ByteArray) (A : Option Addr) (len cap : Nat) (w : World) : Calls Tryz.prog 243 #[.iface 253 (.agg #[.string s, .string t, .int .i64 n])] w fun e w' => e = .returned (.agg #[.int .i8 3, .int .i64 n, .string s, .string t, .slice none 0 0]) ∧ Below w.heap.size w w' := by
  have q0 := ta_fun_integer (.agg #[.string s, .string t, .int .i64 n])
  have q1 := ta_fun_atom (.agg #[.string s, .string t, .int .i64 n])
  have q2 := ta_fun_ref (.agg #[.string s, .string t, .int .i64 n])
  have q3 := ta_fun_fun (.agg #[.string s, .string t, .int .i64 n])
  go_enter Tryz.func243, Tryz.ntmps243
  go_wp2
  exact bodyPost_ret (v := .agg #[.int .i8 3, .int .i64 n, .string s, .string t, .slice none 0 0]) (by simp [results, Tryz.f243, go_sem]) rfl ⟨rfl, ((Below.refl _ w).alloc (Nat.le_refl _) _).alloc (by simp) _⟩

set_option maxHeartbeats 1000000 in
theorem termOf_pid (n : Int) (s t : ByteArray) (A : Option Addr) (len cap : Nat) (w : World) : Calls Tryz.prog 243 #[.iface 254 (.int .i64 n)] w fun e w' => e = .returned (.agg #[.int .i8 4, .int .i64 n, .string ⟨#[]⟩, .string ⟨#[]⟩, .slice none 0 0]) ∧ Below w.heap.size w w' := by
  have q0 := ta_pid_integer (.int .i64 n)
  have q1 := ta_pid_atom (.int .i64 n)
  have q2 := ta_pid_ref (.int .i64 n)
  have q3 := ta_pid_fun (.int .i64 n)
  have q4 := ta_pid_pid (.int .i64 n)
  go_enter Tryz.func243, Tryz.ntmps243
  go_wp2
  exact bodyPost_ret (v := .agg #[.int .i8 4, .int .i64 n, .string ⟨#[]⟩, .string ⟨#[]⟩, .slice none 0 0]) (by simp [results, Tryz.f243, go_sem]) rfl ⟨rfl, (Below.refl _ w).alloc (Nat.le_refl _) _⟩

set_option maxHeartbeats 1000000 in
theorem termOf_tuple (n : Int) (s t : ByteArray) (A : Option Addr) (len cap : Nat) (w : World) : Calls Tryz.prog 243 #[.iface 255 (.slice A len cap)] w fun e w' => e = .returned (.agg #[.int .i8 5, .int .i64 0, .string ⟨#[]⟩, .string ⟨#[]⟩, .slice A len cap]) ∧ Below w.heap.size w w' := by
  have q0 := ta_tuple_integer (.slice A len cap)
  have q1 := ta_tuple_atom (.slice A len cap)
  have q2 := ta_tuple_ref (.slice A len cap)
  have q3 := ta_tuple_fun (.slice A len cap)
  have q4 := ta_tuple_pid (.slice A len cap)
  have q5 := ta_tuple_tuple (.slice A len cap)
  go_enter Tryz.func243, Tryz.ntmps243
  go_wp2
  exact bodyPost_ret (v := .agg #[.int .i8 5, .int .i64 0, .string ⟨#[]⟩, .string ⟨#[]⟩, .slice A len cap]) (by simp [results, Tryz.f243, go_sem]) rfl ⟨rfl, (Below.refl _ w).alloc (Nat.le_refl _) _⟩

set_option maxHeartbeats 1000000 in
theorem termOf_empty (n : Int) (s t : ByteArray) (A : Option Addr) (len cap : Nat) (w : World) : Calls Tryz.prog 243 #[.iface 257 (.agg #[])] w fun e w' => e = .returned (.agg #[.int .i8 6, .int .i64 0, .string ⟨#[]⟩, .string ⟨#[]⟩, .slice none 0 0]) ∧ Below w.heap.size w w' := by
  have q0 := ta_empty_integer (.agg #[])
  have q1 := ta_empty_atom (.agg #[])
  have q2 := ta_empty_ref (.agg #[])
  have q3 := ta_empty_fun (.agg #[])
  have q4 := ta_empty_pid (.agg #[])
  have q5 := ta_empty_tuple (.agg #[])
  have q6 := ta_empty_empty (.agg #[])
  go_enter Tryz.func243, Tryz.ntmps243
  go_wp2
  exact bodyPost_ret (v := .agg #[.int .i8 6, .int .i64 0, .string ⟨#[]⟩, .string ⟨#[]⟩, .slice none 0 0]) (by simp [results, Tryz.f243, go_sem]) rfl ⟨rfl, ((Below.refl _ w).alloc (Nat.le_refl _) _).alloc (by simp) _⟩

set_option maxHeartbeats 1000000 in
theorem termOf_cons (n : Int) (s t : ByteArray) (A : Option Addr) (len cap : Nat) (w : World) : Calls Tryz.prog 243 #[.iface 258 (.slice A len cap)] w fun e w' => e = .returned (.agg #[.int .i8 7, .int .i64 0, .string ⟨#[]⟩, .string ⟨#[]⟩, .slice A len cap]) ∧ Below w.heap.size w w' := by
  have q0 := ta_cons_integer (.slice A len cap)
  have q1 := ta_cons_atom (.slice A len cap)
  have q2 := ta_cons_ref (.slice A len cap)
  have q3 := ta_cons_fun (.slice A len cap)
  have q4 := ta_cons_pid (.slice A len cap)
  have q5 := ta_cons_tuple (.slice A len cap)
  have q6 := ta_cons_empty (.slice A len cap)
  have q7 := ta_cons_cons (.slice A len cap)
  go_enter Tryz.func243, Tryz.ntmps243
  go_wp2
  exact bodyPost_ret (v := .agg #[.int .i8 7, .int .i64 0, .string ⟨#[]⟩, .string ⟨#[]⟩, .slice A len cap]) (by simp [results, Tryz.f243, go_sem]) rfl ⟨rfl, (Below.refl _ w).alloc (Nat.le_refl _) _⟩

set_option maxHeartbeats 1000000 in
theorem termOf_none (n : Int) (s t : ByteArray) (A : Option Addr) (len cap : Nat) (w : World) : Calls Tryz.prog 243 #[.nilIface] w fun e w' => e = .returned (.agg #[.int .i8 0, .int .i64 0, .string ⟨#[]⟩, .string ⟨#[]⟩, .slice none 0 0]) ∧ Below w.heap.size w w' := by
  have q0 := ta_none_integer
  have q1 := ta_none_atom
  have q2 := ta_none_ref
  have q3 := ta_none_fun
  have q4 := ta_none_pid
  have q5 := ta_none_tuple
  have q6 := ta_none_empty
  have q7 := ta_none_cons
  go_enter Tryz.func243, Tryz.ntmps243
  go_wp2
  exact bodyPost_ret (v := .agg #[.int .i8 0, .int .i64 0, .string ⟨#[]⟩, .string ⟨#[]⟩, .slice none 0 0]) (by simp [results, Tryz.f243, go_sem]) rfl ⟨rfl, (Below.refl _ w).alloc (Nat.le_refl _) _⟩

def pidB (n : Int) : Bool := decide (0 ≤ n ∧ n ≤ 576460752303423487)
def arB (n : Int) : Bool := decide (0 ≤ n ∧ n ≤ 8)

set_option maxHeartbeats 1000000 in
theorem mayN_integer (n : Int) (w : World) : Calls Tryz.prog 244 #[.iface 248 (.int .i64 n)] w fun e w' => e = .returned (.bool (mayB n)) ∧ Below w.heap.size w w' := by
  have q0 := ta_integer_integer (.int .i64 n)
  go_enter Tryz.func244, Tryz.ntmps244
  go_wp2_with fail
  refine (IMay_any _ _).mono ?_
  rintro e w' ⟨rfl, rfl⟩
  go_wp2_with fail
  go_ret
  exact ⟨rfl, Below.refl _ _⟩

set_option maxHeartbeats 1000000 in
theorem mayN_atom (s : ByteArray) (hsz : s.size ≤ maxLen) (w : World) (hS : Spans w) : Calls Tryz.prog 244 #[.iface 250 (.string s)] w fun e w' => e = .returned (.bool (nameB s 2)) ∧ Below w.heap.size w w' := by
  have q0 := ta_atom_integer (.string s)
  have q1 := ta_atom_atom (.string s)
  have HZ := Lib.hid hsz
  clear hsz
  go_enter Tryz.func244, Tryz.ntmps244
  go_wp2_with fail
  refine (May_any s HZ.out _ hS).mono ?_
  rintro e w1 ⟨rfl, b1⟩
  go_wp2_with fail
  go_ret
  exact ⟨rfl, b1⟩

set_option maxHeartbeats 1000000 in
theorem mayN_ref (n : Int) (w : World) : Calls Tryz.prog 244 #[.iface 251 (.int .i64 n)] w fun e w' => e = .returned (.bool (pidB n)) ∧ Below w.heap.size w w' := by
  have q0 := ta_ref_integer (.int .i64 n)
  have q1 := ta_ref_atom (.int .i64 n)
  have q2 := ta_ref_ref (.int .i64 n)
  have hd : pidB n = (decide (0 ≤ n) && decide (n ≤ 576460752303423487)) := by unfold pidB; rw [Bool.eq_iff_iff]; simp
  have H := Lib.hid hd
  clear hd
  by_cases h1 : 0 ≤ n
  all_goals
    go_enter Tryz.func244, Tryz.ntmps244
    go_wp2
    go_ret
    exact ⟨ret_bool (by rw [H.out]; simp <;> omega), Below.refl _ _⟩

set_option maxHeartbeats 1000000 in
theorem mayN_pid (n : Int) (w : World) : Calls Tryz.prog 244 #[.iface 254 (.int .i64 n)] w fun e w' => e = .returned (.bool (pidB n)) ∧ Below w.heap.size w w' := by
  have q0 := ta_pid_integer (.int .i64 n)
  have q1 := ta_pid_atom (.int .i64 n)
  have q2 := ta_pid_ref (.int .i64 n)
  have q3 := ta_pid_fun (.int .i64 n)
  have q4 := ta_pid_pid (.int .i64 n)
  have hd : pidB n = (decide (0 ≤ n) && decide (n ≤ 576460752303423487)) := by unfold pidB; rw [Bool.eq_iff_iff]; simp
  have H := Lib.hid hd
  clear hd
  by_cases h1 : 0 ≤ n
  all_goals
    go_enter Tryz.func244, Tryz.ntmps244
    go_wp2
    go_ret
    exact ⟨ret_bool (by rw [H.out]; simp <;> omega), Below.refl _ _⟩

set_option maxHeartbeats 1000000 in
theorem mayN_fun (s t : ByteArray) (n : Int) (hsz : s.size ≤ maxLen) (htz : t.size ≤ maxLen) (w : World) (hS : Spans w) : Calls Tryz.prog 244 #[.iface 253 (.agg #[.string s, .string t, .int .i64 n])] w fun e w' => e = .returned (.bool (nameB s 2 && nameB t 2 && arB n)) ∧ Below w.heap.size w w' := by
  have q0 := ta_fun_integer (.agg #[.string s, .string t, .int .i64 n])
  have q1 := ta_fun_atom (.agg #[.string s, .string t, .int .i64 n])
  have q2 := ta_fun_ref (.agg #[.string s, .string t, .int .i64 n])
  have q3 := ta_fun_fun (.agg #[.string s, .string t, .int .i64 n])
  have hd : arB n = (decide (0 ≤ n) && decide (n ≤ 8)) := by unfold arB; rw [Bool.eq_iff_iff]; simp
  have HD := Lib.hid hd
  have HZ := Lib.hid hsz
  have HT := Lib.hid htz
  clear hd hsz htz
  have hb1 : Below w.heap.size w (w.alloc (.cells #[.string s, .string t, .int .i64 n] 253)) := (Below.refl _ w).alloc (Nat.le_refl _) _
  have hS1 := hS.below hb1 hS.lt
  have HB1 := Lib.hid hb1
  clear hb1
  go_enter Tryz.func244, Tryz.ntmps244
  go_wp2_with fail
  refine (May_any s HZ.out _ hS1).mono ?_
  rintro e w2 ⟨rfl, b2⟩
  have hS2 := hS1.below b2 hS1.lt
  have HB2 := Lib.hid (HB1.out.trans (b2.mono HB1.out.size))
  have hbx : w2.heap[w.heap.size]? = some (.cells #[.string s, .string t, .int .i64 n] 253) := (b2.block _ (by simp)).trans (block_alloc _ _)
  have c1 : w2.cell? ⟨w.heap.size, 1, none⟩ = some (.string t) := cell_of_row hbx rfl
  have c2 : w2.cell? ⟨w.heap.size, 2, none⟩ = some (.int .i64 n) := cell_of_row hbx rfl
  have HBX := Lib.hid hbx
  clear hbx b2 hS1
  cases hm : nameB s 2
  · go_wp2_with fail
    go_ret
    exact ⟨ret_bool (by simp [hm]), HB2.out⟩
  · go_wp2_with fail
    refine (May_any t HT.out _ hS2).mono ?_
    rintro e w3 ⟨rfl, b3⟩
    have HB3 := Lib.hid (HB2.out.trans (b3.mono HB2.out.size))
    have hbx : w3.heap[w.heap.size]? = some (.cells #[.string s, .string t, .int .i64 n] 253) := (b3.block _ (heap_lt HBX.out)).trans HBX.out
    have c2 : w3.cell? ⟨w.heap.size, 2, none⟩ = some (.int .i64 n) := cell_of_row hbx rfl
    clear hbx b3
    cases hm2 : nameB t 2
    · go_wp2_with fail
      go_ret
      exact ⟨ret_bool (by simp [hm2]), HB3.out⟩
    · by_cases h1 : 0 ≤ n
      · go_wp2_with fail
        go_ret
        exact ⟨ret_bool (by rw [HD.out]; simp [h1, hm, hm2]), HB3.out⟩
      · go_wp2_with fail
        go_ret
        exact ⟨ret_bool (by rw [HD.out]; simp; omega), HB3.out⟩

set_option maxHeartbeats 1000000 in
theorem mayN_tuple (A : Option Addr) (len cap : Nat) (w : World) : Calls Tryz.prog 244 #[.iface 255 (.slice A len cap)] w fun e w' => e = .returned (.bool true) ∧ Below w.heap.size w w' := by
  have q0 := ta_tuple_integer (.slice A len cap)
  have q1 := ta_tuple_atom (.slice A len cap)
  have q2 := ta_tuple_ref (.slice A len cap)
  have q3 := ta_tuple_fun (.slice A len cap)
  have q4 := ta_tuple_pid (.slice A len cap)
  have q5 := ta_tuple_tuple (.slice A len cap)
  have q6 := ta_tuple_empty (.slice A len cap)
  go_enter Tryz.func244, Tryz.ntmps244
  go_wp2
  go_ret
  exact ⟨rfl, Below.refl _ _⟩

set_option maxHeartbeats 1000000 in
theorem mayN_empty (w : World) : Calls Tryz.prog 244 #[.iface 257 (.agg #[])] w fun e w' => e = .returned (.bool true) ∧ Below w.heap.size w w' := by
  have q0 := ta_empty_integer (.agg #[])
  have q1 := ta_empty_atom (.agg #[])
  have q2 := ta_empty_ref (.agg #[])
  have q3 := ta_empty_fun (.agg #[])
  have q4 := ta_empty_pid (.agg #[])
  have q5 := ta_empty_tuple (.agg #[])
  have q6 := ta_empty_empty (.agg #[])
  go_enter Tryz.func244, Tryz.ntmps244
  go_wp2
  go_ret
  exact ⟨rfl, Below.refl _ _⟩

set_option maxHeartbeats 1000000 in
theorem mayN_cons (A : Option Addr) (len cap : Nat) (w : World) : Calls Tryz.prog 244 #[.iface 258 (.slice A len cap)] w fun e w' => e = .returned (.bool ((len : Int) == 2)) ∧ Below w.heap.size w w' := by
  have q0 := ta_cons_integer (.slice A len cap)
  have q1 := ta_cons_atom (.slice A len cap)
  have q2 := ta_cons_ref (.slice A len cap)
  have q3 := ta_cons_fun (.slice A len cap)
  have q4 := ta_cons_pid (.slice A len cap)
  have q5 := ta_cons_tuple (.slice A len cap)
  have q6 := ta_cons_empty (.slice A len cap)
  have q7 := ta_cons_cons (.slice A len cap)
  go_enter Tryz.func244, Tryz.ntmps244
  go_wp2
  go_ret
  exact ⟨rfl, Below.refl _ _⟩

set_option maxHeartbeats 1000000 in
theorem mayN_none (w : World) : Calls Tryz.prog 244 #[.nilIface] w fun e w' => e = .returned (.bool false) ∧ Below w.heap.size w w' := by
  have q0 := ta_none_integer
  have q1 := ta_none_atom
  have q2 := ta_none_ref
  have q3 := ta_none_fun
  have q4 := ta_none_pid
  have q5 := ta_none_tuple
  have q6 := ta_none_empty
  have q7 := ta_none_cons
  go_enter Tryz.func244, Tryz.ntmps244
  go_wp2
  go_ret
  exact ⟨rfl, Below.refl _ _⟩

end Go.Proofs.YtdimcddbmccniaaGreatDoor
