/- The document's own answer of layer 7 for a tree's size: Size, Fits. -/
import Derived.Test.YthbiaaeoajmlbaaGreatDoorKDigits
import Derived.Test.YthbiaaeoajmlbaaGreatDoorKGd6
import Derived.Test.YthbiaaeoajmlbaaGreatDoorKBnd
import Derived.Test.YthbiaaeoajmlbaaGreatDoorKWakes07
import Derived.WalkKit
import Derived.LaidEql
import Derived.Stop.Asserts
import Derived.Lib.IfaceEq
import Derived.BigQuiet
import Derived.Deep.QuietTactic
import Derived.Below
import Derived.Deep.RegionHeld
import Derived.OrdersHeld
section
set_option linter.unusedVariables false
set_option linter.unusedSimpArgs false
namespace Go.Proofs.YthbiaaeoajmlbaaGreatDoor
open Go.RowKit Go.Shelf Go.Stop Go.Extern.Stop Go.Extern

def cmp11 : Array Value → Sem Value := Extern.ReflectliteType.method fun t => do Go.Extern.Rtype.noPackHeld "Comparable" t; pure (.bool (← typeInfo t).comparable)
theorem isTypeOf11 : ∃ b, (∀ (v : Value) (w : World), (Extern.ReflectliteType.typeOf #[.iface 28 v]).run Tryz.prog w = .ok (.iface 197 (.agg #[.pointer (some ⟨b, 28, none⟩)])) w) ∧
    ∀ w : World, (cmp11 #[.agg #[.pointer (some ⟨b, 28, none⟩)]]).run Tryz.prog w = .ok (.bool true) w := ⟨Tryz.prog.globals.size, fun v w => by kernel_rfl, fun w => by kernel_rfl⟩
theorem isMethodComparable11 (n : Nat) (v : Value) (w : World) : (Go.method (n + 1) 197 v "Comparable").run Tryz.prog w = .ok (342, v) w := by kernel_rfl
theorem methodUnwrap11 (n : Nat) (v : Value) (w : World) : (Go.method (n + 1) 80 v "Unwrap").run Tryz.prog w = .ok (336, v) w := by kernel_rfl
theorem noIsE11 (v : Value) (xT : TypeId) (w : World) : (Instr.typeAssert (.iface 28 v) xT 230 true).run Tryz.prog w = .ok (.tuple #[.nilIface, .bool false]) w := run_typeAssert_lacksB Tryz.underlying230 (by kernel_rfl) (by kernel_rfl) v xT w
theorem noUnwrapE11 (v : Value) (xT : TypeId) (w : World) : (Instr.typeAssert (.iface 28 v) xT 204 true).run Tryz.prog w = .ok (.tuple #[.nilIface, .bool false]) w := run_typeAssert_lacksB Tryz.underlying204 (by kernel_rfl) (by kernel_rfl) v xT w
theorem noUnwrapsE11 (v : Value) (xT : TypeId) (w : World) : (Instr.typeAssert (.iface 28 v) xT 205 true).run Tryz.prog w = .ok (.tuple #[.nilIface, .bool false]) w := run_typeAssert_lacksB Tryz.underlying205 (by kernel_rfl) (by kernel_rfl) v xT w
theorem noIsR11 (v : Value) (xT : TypeId) (w : World) : (Instr.typeAssert (.iface 80 v) xT 230 true).run Tryz.prog w = .ok (.tuple #[.nilIface, .bool false]) w := run_typeAssert_lacksB Tryz.underlying230 (by kernel_rfl) (by kernel_rfl) v xT w
theorem hasUnwrapR11 (v : Value) (xT : TypeId) (w : World) : (Instr.typeAssert (.iface 80 v) xT 204 true).run Tryz.prog w = .ok (.tuple #[.iface 80 v, .bool true]) w := run_typeAssert_hasB Tryz.underlying204 (by kernel_rfl) v xT w
theorem unwrap11_any (r : Nat) (e p : Int) (w : World) (h : w.heap[r]? = some (.cells #[.int .i64 11, .int .i64 e, .int .i64 p] 87 (0, 0))) :
    Calls Tryz.prog 336 #[.pointer (some ⟨r, 0, none⟩)] w fun o w' => o = .returned (.iface 28 (.int .i64 e)) ∧ w' = w := by
  have c1 := cell_of_row (i := 1) h rfl
  go_enter Tryz.func336, Tryz.ntmps336
  go_wp2
  go_ret
  exact ⟨rfl, rfl⟩
set_option maxHeartbeats 8000000 in
set_option maxRecDepth 100000 in
theorem is11_any (r : Nat) (e e2 p : Int) (w : World) (h : w.heap[r]? = some (.cells #[.int .i64 11, .int .i64 e, .int .i64 p] 87 (0, 0))) :
    Calls Tryz.prog 103 #[.iface 80 (.pointer (some ⟨r, 0, none⟩)), .iface 28 (.int .i64 e2)] w fun o w' => o = .returned (.bool (e == e2)) ∧ w' = w := by
  have h8 := @run_callFunc_extern Tryz.prog 160 _ Extern.ReflectliteType.typeOf Tryz.func160 (by kernel_rfl) (by kernel_rfl) (by kernel_rfl) (by kernel_rfl)
  have h32 := @run_callFunc_extern Tryz.prog 342 _ cmp11 Tryz.func342 (by kernel_rfl) (by kernel_rfl) (by kernel_rfl) (by kernel_rfl)
  obtain ⟨b, tT, cT⟩ := isTypeOf11
  have mR := isMethodComparable11
  have mU := methodUnwrap11
  have nE := noIsE11
  have uE := noUnwrapE11
  have vE := noUnwrapsE11
  have nR := noIsR11
  have uR := hasUnwrapR11
  have hty := run_eql_iface_types (P := Tryz.prog) 80 28 (.pointer (some ⟨r, 0, none⟩)) (.int .i64 e2) Tryz.underlying83 (by decide)
  have hun := unwrap11_any r e p w h
  by_cases hee : e = e2
  · subst hee
    have heq := fun W => Lib.run_eql_iface_int (P := Tryz.prog) W (k := .i64) e e Tryz.underlying83 (tx := 28) (by kernel_rfl) Tryz.underlying28
    simp only [beq_self_eq_true] at heq ⊢
    have HUN := Lib.hid hun
    clear hun h
    go_enter Tryz.func103, Tryz.ntmps103
    go_wp2
    refine wp_loop_rounds 2 ?_
    rw [rounds_succ]
    go_wp2_with (go_at_call 336; refine HUN.out.mono ?_; rintro e w' ⟨rfl, rfl⟩)
    rw [rounds_succ]
    go_wp2
    go_ret
    exact ⟨rfl, rfl⟩
  · have heq := fun W => Lib.run_eql_iface_int (P := Tryz.prog) W (k := .i64) e e2 Tryz.underlying83 (tx := 28) (by kernel_rfl) Tryz.underlying28
    simp only [beq_eq_false_iff_ne.2 hee] at heq ⊢
    have HUN := Lib.hid hun
    clear hun h hee
    go_enter Tryz.func103, Tryz.ntmps103
    go_wp2
    refine wp_loop_rounds 2 ?_
    rw [rounds_succ]
    go_wp2_with (go_at_call 336; refine HUN.out.mono ?_; rintro e w' ⟨rfl, rfl⟩)
    rw [rounds_succ]
    go_wp2
    go_ret
    exact ⟨rfl, rfl⟩
end Go.Proofs.YthbiaaeoajmlbaaGreatDoor
end
section
set_option linter.unusedVariables false
set_option linter.unusedSimpArgs false
namespace Go.Proofs.YthbiaaeoajmlbaaGreatDoor
open Go.RowKit

set_option maxHeartbeats 2000000 in
set_option maxRecDepth 100000 in
theorem isNil11_any (e2 : Int) (w : World) : Calls Tryz.prog 103 #[.nilIface, .iface 28 (.int .i64 e2)] w fun o w' => o = .returned (.bool false) ∧ w' = w := by
  have hq : ∀ W : World, Sem.run Tryz.prog (binOp BinOp.eql 83 Value.nilIface (.iface 28 (.int .i64 e2))) W = .ok (.bool false) W := fun W => by kernel_rfl
  go_enter Tryz.func103, Tryz.ntmps103
  go_wp2
  go_ret
  exact ⟨rfl, rfl⟩
theorem valE_or (l : List Bd) (x : Tm) : valE l x = 0 ∨ valE l x = 2 ∨ valE l x = 93 := by
  unfold valE; split
  · cases gvT l x
    · exact .inr (.inr rfl)
    · exact .inl rfl
  · exact .inr (.inl rfl)
set_option maxHeartbeats 8000000 in
set_option maxRecDepth 100000 in
theorem Value_any (l : List Bd) (x : Tm) (v : Value) (A : Option Addr) (m cap : Nat) (W : World) (hT : TmAt (· < W.heap.size) W x v) (hR : BRow (· < W.heap.size) W A m cap l) (hN : x.nodes ≤ 8200) (hE : Env7 W) :
    Calls Tryz.prog 49 #[v, .slice A m cap] W fun e w' => ∃ k9 n9 s9 t9 A9 m9 c9, e = .returned (.tuple #[.agg #[.int .i8 k9, .int .i64 n9, .string s9, .string t9, .slice A9 m9 c9], .int .i64 (valE l x)]) ∧ TmAt (· < w'.heap.size) w' (valV l x) (.agg #[.int .i8 k9, .int .i64 n9, .string s9, .string t9, .slice A9 m9 c9]) ∧ Below W.heap.size W w' := by
  obtain ⟨X, hX⟩ : ∃ X, X = x := ⟨_, rfl⟩
  obtain ⟨k, n, s, t, ps⟩ := x
  obtain ⟨NA, nc, rfl, hRn, -⟩ := hT.parts
  rw [← hX] at hT hN ⊢
  have HX := Lib.hid hX
  clear hX
  have g0 := there_of (.cells #[.int .i8 0, .int .i64 0, .string ⟨#[]⟩, .string ⟨#[]⟩, .slice none 0 0] 48) (block_alloc W (.cells #[.int .i8 k, .int .i64 n, .string s, .string t, .slice NA ps.length nc] 25))
  have g1 := block_alloc (W.alloc (.cells #[.int .i8 k, .int .i64 n, .string s, .string t, .slice NA ps.length nc] 25)) (.cells #[.int .i8 0, .int .i64 0, .string ⟨#[]⟩, .string ⟨#[]⟩, .slice none 0 0] 48)
  rw [World.size_alloc] at g1
  have b2 : Below W.heap.size W ((W.alloc (.cells #[.int .i8 k, .int .i64 n, .string s, .string t, .slice NA ps.length nc] 25)).alloc (.cells #[.int .i8 0, .int .i64 0, .string ⟨#[]⟩, .string ⟨#[]⟩, .slice none 0 0] 48)) := ((Below.refl _ W).alloc (Nat.le_refl _) _).alloc (by simp) _
  have z2 : ((W.alloc (.cells #[.int .i8 k, .int .i64 n, .string s, .string t, .slice NA ps.length nc] 25)).alloc (.cells #[.int .i8 0, .int .i64 0, .string ⟨#[]⟩, .string ⟨#[]⟩, .slice none 0 0] 48)).heap.size = W.heap.size + 2 := by rw [World.size_alloc, World.size_alloc]
  obtain ⟨W2, hW2⟩ : ∃ W2, W2 = (W.alloc (.cells #[.int .i8 k, .int .i64 n, .string s, .string t, .slice NA ps.length nc] 25)).alloc (.cells #[.int .i8 0, .int .i64 0, .string ⟨#[]⟩, .string ⟨#[]⟩, .slice none 0 0] 48) := ⟨_, rfl⟩
  rw [← hW2] at g0 g1 b2 z2
  have HB2 := Lib.hid b2
  have HG1 := Lib.hid g1
  have HZ2 := Lib.hid z2
  have HC := Lib.hid (valueOf_any W.heap.size l X _ A m cap W2 (hT.laterN b2) (hR.under b2 (Nat.le_refl _)) b2.size hN (hE.under b2))
  have x0 : (W2).cell? ⟨W.heap.size, 0, none⟩ = some (.int .i8 k) := cell_of_row (i := 0) g0 rfl
  have x1 : (W2).cell? ⟨W.heap.size, 1, none⟩ = some (.int .i64 n) := cell_of_row (i := 1) g0 rfl
  have x2 : (W2).cell? ⟨W.heap.size, 2, none⟩ = some (.string s) := cell_of_row (i := 2) g0 rfl
  have x3 : (W2).cell? ⟨W.heap.size, 3, none⟩ = some (.string t) := cell_of_row (i := 3) g0 rfl
  have x4 : (W2).cell? ⟨W.heap.size, 4, none⟩ = some (.slice NA ps.length nc) := cell_of_row (i := 4) g0 rfl
  clear g0 g1 b2 z2 hT hR hE hN hRn
  go_enter Tryz.func49, Tryz.ntmps49
  go_upto_region 1 with fail
  rw [← hW2]
  clear hW2
  go_wp2_with fail
  refine HC.out.mono ?_
  rintro e W3 ⟨k9, n9, s9, t9, A9, m9, c9, ev, rfl, hv, b3⟩
  obtain ⟨W4, hW4⟩ : ∃ W4, W4 = W3.alloc (.cells #[.int .i8 k9, .int .i64 n9, .string s9, .string t9, .slice A9 m9 c9] 48) := ⟨_, rfl⟩
  have b4 : Below W3.heap.size W3 W4 := by rw [hW4]; exact (Below.refl _ _).alloc (Nat.le_refl _) _
  have r4 : W4.heap[W3.heap.size]? = some (.cells #[.int .i8 k9, .int .i64 n9, .string s9, .string t9, .slice A9 m9 c9] 48 (0, 0)) := by rw [hW4]; exact block_alloc _ _
  have HB4 := Lib.hid (HB2.out.trans ((b3.trans (b4.mono b3.size)).mono HB2.out.size))
  have HB34 := Lib.hid b4
  have HB23 : Hid (W2.heap.size ≤ W3.heap.size) := b3.size
  have hg1 := ((b3.trans (b4.mono b3.size)).block _ (heap_lt HG1.out)).trans HG1.out
  have HR4 := Lib.hid r4
  have HG4 := Lib.hid hg1
  clear b3 b4 r4 hg1 x0 x1 x2 x3 x4
  rcases hv with ⟨hve, rfl, hT⟩ | ⟨hve, hvv, q, rfl, hq⟩
  · have HVE := Lib.hid hve
    have HT := Lib.hid hT
    clear hve hT
    go_upto_region 2 with fail
    rw [← hW4]
    clear hW4
    go_wp2_with fail
    refine (isNil11_any 2 W4).mono ?_
    rintro e w' ⟨rfl, hq⟩
    subst w'
    go_wp2_with fail
    refine (isNil11_any 93 W4).mono ?_
    rintro e w' ⟨rfl, hq⟩
    subst w'
    have r4 := HR4.out
    have e0 : (W4).cell? ⟨W3.heap.size, 0, none⟩ = some (.int .i8 k9) := cell_of_row (i := 0) r4 rfl
    have e1 : (W4).cell? ⟨W3.heap.size, 1, none⟩ = some (.int .i64 n9) := cell_of_row (i := 1) r4 rfl
    have e2 : (W4).cell? ⟨W3.heap.size, 2, none⟩ = some (.string s9) := cell_of_row (i := 2) r4 rfl
    have e3 : (W4).cell? ⟨W3.heap.size, 3, none⟩ = some (.string t9) := cell_of_row (i := 3) r4 rfl
    have e4 : (W4).cell? ⟨W3.heap.size, 4, none⟩ = some (.slice A9 m9 c9) := cell_of_row (i := 4) r4 rfl
    have hg1 := HG4.out
    clear r4
    have r0 : (W4).cell? ⟨W.heap.size + 1, 0, none⟩ = some (.int .i8 0) := cell_of_row (i := 0) hg1 rfl
    have rf0 : (W4).frozen? ⟨W.heap.size + 1, 0, none⟩ = false := free_of_row (i := 0) hg1
    have r1 : (W4).cell? ⟨W.heap.size + 1, 1, none⟩ = some (.int .i64 0) := cell_of_row (i := 1) hg1 rfl
    have rf1 : (W4).frozen? ⟨W.heap.size + 1, 1, none⟩ = false := free_of_row (i := 1) hg1
    have r2 : (W4).cell? ⟨W.heap.size + 1, 2, none⟩ = some (.string ⟨#[]⟩) := cell_of_row (i := 2) hg1 rfl
    have rf2 : (W4).frozen? ⟨W.heap.size + 1, 2, none⟩ = false := free_of_row (i := 2) hg1
    have r3 : (W4).cell? ⟨W.heap.size + 1, 3, none⟩ = some (.string ⟨#[]⟩) := cell_of_row (i := 3) hg1 rfl
    have rf3 : (W4).frozen? ⟨W.heap.size + 1, 3, none⟩ = false := free_of_row (i := 3) hg1
    have r4 : (W4).cell? ⟨W.heap.size + 1, 4, none⟩ = some (.slice none 0 0) := cell_of_row (i := 4) hg1 rfl
    have rf4 : (W4).frozen? ⟨W.heap.size + 1, 4, none⟩ = false := free_of_row (i := 4) hg1
    have S5 := Lib.hid (set_five (.int .i8 k9) (.int .i64 n9) (.string s9) (.string t9) (.slice A9 m9 c9) hg1)
    go_wp2_with fail
    obtain ⟨s5, m5⟩ := S5.out
    generalize ((((((W4).setCell ⟨W.heap.size + 1, 0, none⟩ (.int .i8 k9)).setCell ⟨W.heap.size + 1, 1, none⟩ (.int .i64 n9)).setCell ⟨W.heap.size + 1, 2, none⟩ (.string s9)).setCell ⟨W.heap.size + 1, 3, none⟩ (.string t9)).setCell ⟨W.heap.size + 1, 4, none⟩ (.slice A9 m9 c9)) = VX at s5 m5 ⊢
    have z0 : (VX).cell? ⟨W.heap.size + 1, 0, none⟩ = some (.int .i8 k9) := cell_of_row (i := 0) s5 rfl
    have z1 : (VX).cell? ⟨W.heap.size + 1, 1, none⟩ = some (.int .i64 n9) := cell_of_row (i := 1) s5 rfl
    have z2 : (VX).cell? ⟨W.heap.size + 1, 2, none⟩ = some (.string s9) := cell_of_row (i := 2) s5 rfl
    have z3 : (VX).cell? ⟨W.heap.size + 1, 3, none⟩ = some (.string t9) := cell_of_row (i := 3) s5 rfl
    have z4 : (VX).cell? ⟨W.heap.size + 1, 4, none⟩ = some (.slice A9 m9 c9) := cell_of_row (i := 4) s5 rfl
    refine bodyPost_ret (v := .tuple #[.agg #[.int .i8 k9, .int .i64 n9, .string s9, .string t9, .slice A9 m9 c9], .int .i64 0]) (by simp [results, Tryz.f49, go_sem, z0, z1, z2, z3, z4]) rfl ?_
    refine ⟨_, _, _, _, _, _, _, by rw [HVE.out], HT.out.keep (fun b hb => (m5.block b ?_ ?_).trans (HB34.out.block b ?_)) (fun b hb => ?_), HB4.out.trans (m5.below HB4.out.size (fun k (e : k = _) => by omega))⟩
    · have := HZ2.out; have := HB34.out.size; have := HB23.out; rcases hb with h | h <;> omega
    · have := HZ2.out; rcases hb with h | h <;> omega
    · have := HZ2.out; have := HB23.out; rcases hb with h | h <;> omega
    · show b < _; have := HZ2.out; have := HB34.out.size; have := HB23.out; have := m5.size; rcases hb with h | h <;> omega
  · have h3 : valE l X = 2 ∨ valE l X = 93 := by rcases valE_or l X with h | h | h; (exact absurd h hve); (exact .inl h); (exact .inr h)
    clear hve
    rcases h3 with hv0 | hv0
    · skip
      have HVV := Lib.hid hvv
      have hq4 := (HB34.out.block _ (heap_lt hq)).trans hq
      rw [hv0] at hq4
      have HV0 := Lib.hid hv0
      have hg1 := HG4.out
      clear hvv hq hv0
      go_upto_region 2 with fail
      rw [← hW4]
      clear hW4
      go_wp2_with fail
      refine (is11_any q 2 2 0 W4 hq4).mono ?_
      rintro e w' ⟨rfl, hqq⟩
      subst w'
      rw [show ((2 : Int) == 2) = true from by decide]
      have r0 : (W4).cell? ⟨W.heap.size + 1, 0, none⟩ = some (.int .i8 0) := cell_of_row (i := 0) hg1 rfl
      have rf0 : (W4).frozen? ⟨W.heap.size + 1, 0, none⟩ = false := free_of_row (i := 0) hg1
      have r1 : (W4).cell? ⟨W.heap.size + 1, 1, none⟩ = some (.int .i64 0) := cell_of_row (i := 1) hg1 rfl
      have rf1 : (W4).frozen? ⟨W.heap.size + 1, 1, none⟩ = false := free_of_row (i := 1) hg1
      have r2 : (W4).cell? ⟨W.heap.size + 1, 2, none⟩ = some (.string ⟨#[]⟩) := cell_of_row (i := 2) hg1 rfl
      have rf2 : (W4).frozen? ⟨W.heap.size + 1, 2, none⟩ = false := free_of_row (i := 2) hg1
      have r3 : (W4).cell? ⟨W.heap.size + 1, 3, none⟩ = some (.string ⟨#[]⟩) := cell_of_row (i := 3) hg1 rfl
      have rf3 : (W4).frozen? ⟨W.heap.size + 1, 3, none⟩ = false := free_of_row (i := 3) hg1
      have r4 : (W4).cell? ⟨W.heap.size + 1, 4, none⟩ = some (.slice none 0 0) := cell_of_row (i := 4) hg1 rfl
      have rf4 : (W4).frozen? ⟨W.heap.size + 1, 4, none⟩ = false := free_of_row (i := 4) hg1
      have S5 := Lib.hid (set_five (.int .i8 0) (.int .i64 0) (.string ⟨#[]⟩) (.string ⟨#[]⟩) (.slice none 0 0) hg1)
      go_wp2_with fail
      obtain ⟨s5, m5⟩ := S5.out
      generalize ((((((W4).setCell ⟨W.heap.size + 1, 0, none⟩ (.int .i8 0)).setCell ⟨W.heap.size + 1, 1, none⟩ (.int .i64 0)).setCell ⟨W.heap.size + 1, 2, none⟩ (.string ⟨#[]⟩)).setCell ⟨W.heap.size + 1, 3, none⟩ (.string ⟨#[]⟩)).setCell ⟨W.heap.size + 1, 4, none⟩ (.slice none 0 0)) = VX at s5 m5 ⊢
      have z0 : (VX).cell? ⟨W.heap.size + 1, 0, none⟩ = some (.int .i8 0) := cell_of_row (i := 0) s5 rfl
      have z1 : (VX).cell? ⟨W.heap.size + 1, 1, none⟩ = some (.int .i64 0) := cell_of_row (i := 1) s5 rfl
      have z2 : (VX).cell? ⟨W.heap.size + 1, 2, none⟩ = some (.string ⟨#[]⟩) := cell_of_row (i := 2) s5 rfl
      have z3 : (VX).cell? ⟨W.heap.size + 1, 3, none⟩ = some (.string ⟨#[]⟩) := cell_of_row (i := 3) s5 rfl
      have z4 : (VX).cell? ⟨W.heap.size + 1, 4, none⟩ = some (.slice none 0 0) := cell_of_row (i := 4) s5 rfl
      refine bodyPost_ret (v := .tuple #[.agg #[.int .i8 0, .int .i64 0, .string ⟨#[]⟩, .string ⟨#[]⟩, .slice none 0 0], .int .i64 2]) (by simp [results, Tryz.f49, go_sem, z0, z1, z2, z3, z4]) rfl ?_
      refine ⟨_, _, _, _, _, _, _, by rw [HV0.out], ?_, HB4.out.trans (m5.below HB4.out.size (fun k (e : k = _) => by omega))⟩
      rw [HVV.out]
      exact TmAt.of_row (.nil _ _ none 0) (by decide) (by decide) (by decide) (by decide)
    · skip
      have HVV := Lib.hid hvv
      have hq4 := (HB34.out.block _ (heap_lt hq)).trans hq
      rw [hv0] at hq4
      have HV0 := Lib.hid hv0
      have hg1 := HG4.out
      clear hvv hq hv0
      go_upto_region 2 with fail
      rw [← hW4]
      clear hW4
      go_wp2_with fail
      refine (is11_any q 93 2 0 W4 hq4).mono ?_
      rintro e w' ⟨rfl, hqq⟩
      subst w'
      rw [show ((93 : Int) == 2) = false from by decide]
      go_wp2_with fail
      refine (is11_any q 93 93 0 W4 hq4).mono ?_
      rintro e w' ⟨rfl, hqq⟩
      subst w'
      rw [show ((93 : Int) == 93) = true from by decide]
      have r0 : (W4).cell? ⟨W.heap.size + 1, 0, none⟩ = some (.int .i8 0) := cell_of_row (i := 0) hg1 rfl
      have rf0 : (W4).frozen? ⟨W.heap.size + 1, 0, none⟩ = false := free_of_row (i := 0) hg1
      have r1 : (W4).cell? ⟨W.heap.size + 1, 1, none⟩ = some (.int .i64 0) := cell_of_row (i := 1) hg1 rfl
      have rf1 : (W4).frozen? ⟨W.heap.size + 1, 1, none⟩ = false := free_of_row (i := 1) hg1
      have r2 : (W4).cell? ⟨W.heap.size + 1, 2, none⟩ = some (.string ⟨#[]⟩) := cell_of_row (i := 2) hg1 rfl
      have rf2 : (W4).frozen? ⟨W.heap.size + 1, 2, none⟩ = false := free_of_row (i := 2) hg1
      have r3 : (W4).cell? ⟨W.heap.size + 1, 3, none⟩ = some (.string ⟨#[]⟩) := cell_of_row (i := 3) hg1 rfl
      have rf3 : (W4).frozen? ⟨W.heap.size + 1, 3, none⟩ = false := free_of_row (i := 3) hg1
      have r4 : (W4).cell? ⟨W.heap.size + 1, 4, none⟩ = some (.slice none 0 0) := cell_of_row (i := 4) hg1 rfl
      have rf4 : (W4).frozen? ⟨W.heap.size + 1, 4, none⟩ = false := free_of_row (i := 4) hg1
      have S5 := Lib.hid (set_five (.int .i8 0) (.int .i64 0) (.string ⟨#[]⟩) (.string ⟨#[]⟩) (.slice none 0 0) hg1)
      go_wp2_with fail
      obtain ⟨s5, m5⟩ := S5.out
      generalize ((((((W4).setCell ⟨W.heap.size + 1, 0, none⟩ (.int .i8 0)).setCell ⟨W.heap.size + 1, 1, none⟩ (.int .i64 0)).setCell ⟨W.heap.size + 1, 2, none⟩ (.string ⟨#[]⟩)).setCell ⟨W.heap.size + 1, 3, none⟩ (.string ⟨#[]⟩)).setCell ⟨W.heap.size + 1, 4, none⟩ (.slice none 0 0)) = VX at s5 m5 ⊢
      have z0 : (VX).cell? ⟨W.heap.size + 1, 0, none⟩ = some (.int .i8 0) := cell_of_row (i := 0) s5 rfl
      have z1 : (VX).cell? ⟨W.heap.size + 1, 1, none⟩ = some (.int .i64 0) := cell_of_row (i := 1) s5 rfl
      have z2 : (VX).cell? ⟨W.heap.size + 1, 2, none⟩ = some (.string ⟨#[]⟩) := cell_of_row (i := 2) s5 rfl
      have z3 : (VX).cell? ⟨W.heap.size + 1, 3, none⟩ = some (.string ⟨#[]⟩) := cell_of_row (i := 3) s5 rfl
      have z4 : (VX).cell? ⟨W.heap.size + 1, 4, none⟩ = some (.slice none 0 0) := cell_of_row (i := 4) s5 rfl
      refine bodyPost_ret (v := .tuple #[.agg #[.int .i8 0, .int .i64 0, .string ⟨#[]⟩, .string ⟨#[]⟩, .slice none 0 0], .int .i64 93]) (by simp [results, Tryz.f49, go_sem, z0, z1, z2, z3, z4]) rfl ?_
      refine ⟨_, _, _, _, _, _, _, by rw [HV0.out], ?_, HB4.out.trans (m5.below HB4.out.size (fun k (e : k = _) => by omega))⟩
      rw [HVV.out]
      exact TmAt.of_row (.nil _ _ none 0) (by decide) (by decide) (by decide) (by decide)
end Go.Proofs.YthbiaaeoajmlbaaGreatDoor
end
section
set_option linter.unusedVariables false
namespace Go
open Go.RowKit
section
variable {P : Program} {C : World → Prop}
theorem wp_region_qC {id : Nat} {Q : Exit → Act → World → Prop} {a : Act} {w : World} {l : List Oper} (hm : P.follows .mixedOrders = true) (hB : Region.lexB .any l.toArray = true) (hC : C w.drew)
    (h : wpQuiet P l.toArray C (fun a' => ∀ w', C w' → Q .normal a' w') l a) : (Code.region id l.toArray true).wp P Q a w :=
  wp_region_quiet (C := C) hm hB hC (by simpa using h)
theorem wpqC {ops : Array Oper} {Q : Act → Prop} {a : Act} {o : Oper} {rest : List Oper} {v : Value} (hw : Region.wanted o (yielded ops a.tmps) = true) (h : ∀ V, C V → o.quietAt P a C V v) (hr : wpQuiet P ops C Q rest (a.put o.dst v)) : wpQuiet P ops C Q (o :: rest) a :=
  wpQuiet_step fun K hK => by rw [if_pos hw]; exact ⟨v, h, hK _ hr⟩
theorem wpqC_skip {ops : Array Oper} {Q : Act → Prop} {a : Act} {o : Oper} {rest : List Oper} (hw : Region.wanted o (yielded ops a.tmps) = false) (h : wpQuiet P ops C Q rest (a.put o.dst undef)) : wpQuiet P ops C Q (o :: rest) a :=
  wpQuiet_step fun K hK => by rw [if_neg (by rw [hw]; exact Bool.false_ne_true)]; exact hK _ h
end
theorem drewC (w : World) : Below w.heap.size w w.drew := ⟨rfl, rfl, rfl, Nat.le_refl _, fun _ _ => rfl⟩
end Go
end
section
set_option linter.unusedVariables false
set_option linter.unusedSimpArgs false
namespace Go.Proofs.YthbiaaeoajmlbaaGreatDoor
open Go.RowKit

theorem deeps_take7 : ∀ {l : List Tm} {j : Nat} {y : Tm}, l[j]? = some y → Tm.deeps (l.take (j + 1)) = max (Tm.deeps (l.take j)) y.deep
  | [], j, y, h => by simp at h
  | x :: l, 0, y, h => by
    simp at h; subst h
    simp [Tm.deeps]
  | x :: l, j + 1, y, h => by
    have h' : l[j]? = some y := by simpa using h
    rw [List.take_succ_cons, List.take_succ_cons, Tm.deeps, Tm.deeps, deeps_take7 h']
    omega
set_option maxHeartbeats 1000000 in
set_option maxRecDepth 100000 in
theorem rdeep_any (x : Tm) : ∀ (v : Value) (most : Nat) (w : World), TmAt (· < w.heap.size) w x v → 1 ≤ most → most ≤ 1000000 →
    Calls Tryz.prog 79 #[v, .int .i64 most] w fun e w' => e = .returned (.int .i64 (min x.deep most : Nat)) ∧ Below w.heap.size w w' := by
  induction x using Tm.ind with
  | h k n s t l ih =>
    intro v most w hT h1 hmost
    obtain ⟨A, cap, rfl, hR, hk, hn, hs, ht⟩ := hT.parts
    have hlen := hR.max
    unfold maxLen at hlen
    have HR := Lib.hid hR
    have HIH := Lib.hid ih
    clear hR ih hT
    obtain ⟨w1, hw1⟩ : ∃ w1, w1 = w.alloc (.cells #[.int .i8 k, .int .i64 n, .string s, .string t, .slice A l.length cap] 25) := ⟨_, rfl⟩
    have hB1 : Below w.heap.size w w1 := by rw [hw1]; exact (Below.refl _ w).alloc (Nat.le_refl _) _
    have hs1 : w1.heap.size = w.heap.size + 1 := by rw [hw1]; simp
    have hbox : w1.heap[w.heap.size]? = some (.cells #[.int .i8 k, .int .i64 n, .string s, .string t, .slice A l.length cap] 25) := by rw [hw1]; exact block_alloc _ _
    have HB1 := Lib.hid hB1
    have HS1 := Lib.hid hs1
    clear hB1 hs1
    go_enter Tryz.func79, Tryz.ntmps79
    go_wp2_with fail
    rw [← hw1]
    clear hw1
    have HX := Lib.hid hbox
    clear hbox
    go_loopw [5, 6] (fun r i wr => ∃ j : Nat, j ≤ l.length ∧ i = .int .i64 j ∧ (∃ q : Nat, r = .int .i64 q ∧ q = min (1 + Tm.deeps (l.take j)) most) ∧ Below w1.heap.size w1 wr) (fun _ i _ => l.length - (intOf i).toNat)
    case atStart => exact ⟨0, Nat.zero_le _, rfl, ⟨1, rfl, by simp [Tm.deeps]; omega⟩, Below.refl _ _⟩
    case round =>
      obtain ⟨j, hj, rfl, ⟨q, rfl, hq⟩, hB⟩ := hrel
      have hbw : wr.heap[w.heap.size]? = _ := (hB.block w.heap.size (by rw [HS1.out]; omega)).trans HX.out
      have hc4 : wr.cell? ⟨w.heap.size, 4, none⟩ = some (.slice A l.length cap) := cell_of_row hbw rfl
      have hq1 : 1 ≤ q := by omega
      have hq2 : q ≤ most := by omega
      have HQ := Lib.hid hq
      have HB := Lib.hid hB
      clear hq hB hbw
      by_cases hlt : j < l.length
      · by_cases hm : 1 < most
        · obtain ⟨y, hy⟩ : ∃ y, l[j]? = some y := ⟨l[j], List.getElem?_eq_getElem hlt⟩
          obtain ⟨ad, u, rfl, had, hE, hTy⟩ := HR.out.at_ j y hy
          have hEr : ElemAt wr ad j u := hE.keep ((HB.out.block ad.block (by rw [HS1.out]; omega)).trans (HB1.out.block ad.block had))
          have hTr : TmAt (· < wr.heap.size) wr y u := hTy.keep (fun b hb => (HB.out.block b (by rw [HS1.out]; omega)).trans (HB1.out.block b hb)) (fun b hb => by have := HB1.out.size; have := HB.out.size; omega)
          obtain ⟨c0, c1, c2, c3, c4, rfl, e0, e1, e2, e3, e4⟩ := hEr
          have hmem := List.mem_of_getElem? hy
          have hpy := Tm.pre_ne y
          have HY := Lib.hid hy
          clear hE hTy hy
          go_wp2_with fail
          have he : (most : Int) - 1 = ((most - 1 : Nat) : Int) := by omega
          rw [he]
          refine (HIH.out y hmem _ (most - 1) _ hTr (by omega) (by omega)).mono ?_
          rintro e w2 ⟨rfl, b2⟩
          have hr : max q (1 + min y.deep (most - 1)) = min (1 + Tm.deeps (l.take (j + 1))) most := by
            rw [deeps_take7 HY.out]
            have := HQ.out
            omega
          have HRR := Lib.hid hr
          have hle : min y.deep (most - 1) ≤ 1000000 := by omega
          clear hr he
          generalize min y.deep (most - 1) = z at HRR hle ⊢
          go_wp2_with fail
          go_roundw
          case rel => exact ⟨j + 1, by omega, by go_num, ⟨max q (1 + z), by go_num, HRR.out⟩, HB.out.trans (b2.mono HB.out.size)⟩
          case measure => simp [intOf]; omega
        · obtain rfl : most = 1 := by omega
          go_wp2_with fail
          go_ret
          refine ⟨ret_int ?_, HB1.out.trans (HB.out.mono (by rw [HS1.out]; omega))⟩
          have : 1 ≤ (Tm.mk k n s t l).deep := by rw [Tm.deep]; omega
          omega
      · obtain rfl : j = l.length := by omega
        go_wp2_with fail
        go_ret
        refine ⟨ret_int ?_, HB1.out.trans (HB.out.mono (by rw [HS1.out]; omega))⟩
        have h := HQ.out
        rw [List.take_length] at h
        rw [Tm.deep]
        omega

set_option maxHeartbeats 1000000 in
set_option maxRecDepth 100000 in
theorem rSizeN_any (x : Tm) (v : Value) (w : World) (hT : TmAt (· < w.heap.size) w x v) :
    Calls Tryz.prog 29 #[v] w fun e w' => e = .returned (.tuple #[.int .i64 (min x.nodes 4097 : Nat), .int .i64 (min x.deep 65 : Nat)]) ∧ Below w.heap.size w w' := by
  obtain ⟨X, hX⟩ : ∃ X, X = x := ⟨_, rfl⟩
  obtain ⟨k, n, s, t, l⟩ := x
  obtain ⟨A, cap, rfl, -⟩ := hT.parts
  rw [← hX] at hT
  rw [← hX]
  obtain ⟨w1, hw1⟩ : ∃ w1, w1 = w.alloc (.cells #[.int .i8 k, .int .i64 n, .string s, .string t, .slice A l.length cap] 25) := ⟨_, rfl⟩
  have hB1 : Below w.heap.size w w1 := by rw [hw1]; exact (Below.refl _ w).alloc (Nat.le_refl _) _
  have hbox : w1.heap[w.heap.size]? = some (.cells #[.int .i8 k, .int .i64 n, .string s, .string t, .slice A l.length cap] 25) := by rw [hw1]; exact block_alloc _ _
  have HT := Lib.hid (hT.laterN hB1)
  have HB1 := Lib.hid hB1
  have HX := Lib.hid hbox
  clear hT hB1 hX hbox
  go_enter Tryz.func29, Tryz.ntmps29
  go_wp2_with fail
  rw [← hw1]
  clear hw1
  refine wp_region_qC (C := fun V => Below w1.heap.size w1 V) (by kernel_rfl) (by kernel_rfl) (drewC w1) ?_
  refine wpqC (v := ?_) (by kernel_rfl) ?_ ?_; rotate_left; (intro V hV; (try dsimp only at hV); have hx := (hV.block _ (heap_lt HX.out)).trans HX.out; have x0 := cell_of_row (i := 0) hx rfl; have x1 := cell_of_row (i := 1) hx rfl; have x2 := cell_of_row (i := 2) hx rfl; have x3 := cell_of_row (i := 3) hx rfl; have x4 := cell_of_row (i := 4) hx rfl; go_simp; first | done | with_reducible rfl); (try simp only [Act.put, List.setIfInBounds_toArray, List.set_cons_zero, List.set_cons_succ])
  refine wpqC (v := .int .i64 (min X.nodes 4097 : Nat)) (by kernel_rfl) ?_ ?_; (· intro V hV; (try dsimp only at hV); go_simp; refine (rnodes_any X _ 4097 V (HT.out.laterN hV) (by omega) (by omega)).mono ?_; rintro e V2 ⟨rfl, b2⟩; exact ⟨rfl, hV.trans (b2.mono hV.size)⟩); (try simp only [Act.put, List.setIfInBounds_toArray, List.set_cons_zero, List.set_cons_succ])
  refine wpqC (v := ?_) (by kernel_rfl) ?_ ?_; rotate_left; (intro V hV; (try dsimp only at hV); go_simp; first | done | with_reducible rfl); (try simp only [Act.put, List.setIfInBounds_toArray, List.set_cons_zero, List.set_cons_succ])
  refine wpqC (v := ?_) (by kernel_rfl) ?_ ?_; rotate_left; (intro V hV; (try dsimp only at hV); have hx := (hV.block _ (heap_lt HX.out)).trans HX.out; have x0 := cell_of_row (i := 0) hx rfl; have x1 := cell_of_row (i := 1) hx rfl; have x2 := cell_of_row (i := 2) hx rfl; have x3 := cell_of_row (i := 3) hx rfl; have x4 := cell_of_row (i := 4) hx rfl; go_simp; first | done | with_reducible rfl); (try simp only [Act.put, List.setIfInBounds_toArray, List.set_cons_zero, List.set_cons_succ])
  refine wpqC (v := .int .i64 (min X.deep 65 : Nat)) (by kernel_rfl) ?_ ?_; (· intro V hV; (try dsimp only at hV); go_simp; refine (rdeep_any X _ 65 V (HT.out.laterN hV) (by omega) (by omega)).mono ?_; rintro e V2 ⟨rfl, b2⟩; exact ⟨rfl, hV.trans (b2.mono hV.size)⟩); (try simp only [Act.put, List.setIfInBounds_toArray, List.set_cons_zero, List.set_cons_succ])
  refine wpqC (v := ?_) (by kernel_rfl) ?_ ?_; rotate_left; (intro V hV; (try dsimp only at hV); go_simp; first | done | with_reducible rfl); (try simp only [Act.put, List.setIfInBounds_toArray, List.set_cons_zero, List.set_cons_succ])
  refine wpqC (v := ?_) (by kernel_rfl) ?_ ?_; rotate_left; (intro V hV; (try dsimp only at hV); go_simp; first | done | with_reducible rfl); (try simp only [Act.put, List.setIfInBounds_toArray, List.set_cons_zero, List.set_cons_succ])
  refine wpqC (v := ?_) (by kernel_rfl) ?_ ?_; rotate_left; (intro V hV; (try dsimp only at hV); go_simp; first | done | with_reducible rfl); (try simp only [Act.put, List.setIfInBounds_toArray, List.set_cons_zero, List.set_cons_succ])
  refine wpQuiet_nil ?_
  intro V9 h9
  (try dsimp only at h9)
  have HB9 := Lib.hid h9
  clear h9
  go_wp2_with fail
  all_goals first
    | (exfalso; omega)
    | exact bodyPost_ret (v := .tuple #[.int .i64 (min X.nodes 4097 : Nat), .int .i64 (min X.deep 65 : Nat)]) (by simp [results, Tryz.f29, go_sem]) rfl ⟨rfl, HB1.out.trans (HB9.out.mono HB1.out.size)⟩
set_option maxHeartbeats 1000000 in
set_option maxRecDepth 100000 in
theorem rFits_any (x : Tm) (v : Value) (w : World) (hT : TmAt (· < w.heap.size) w x v) :
    Calls Tryz.prog 71 #[v] w fun e w' => e = .returned (.bool (fitsB x)) ∧ Below w.heap.size w w' := by
  obtain ⟨X, hX⟩ : ∃ X, X = x := ⟨_, rfl⟩
  obtain ⟨k, n, s, t, l⟩ := x
  obtain ⟨A, cap, rfl, -⟩ := hT.parts
  rw [← hX] at hT
  rw [← hX]
  obtain ⟨w1, hw1⟩ : ∃ w1, w1 = w.alloc (.cells #[.int .i8 k, .int .i64 n, .string s, .string t, .slice A l.length cap] 25) := ⟨_, rfl⟩
  have hB1 : Below w.heap.size w w1 := by rw [hw1]; exact (Below.refl _ w).alloc (Nat.le_refl _) _
  have HT := Lib.hid (hT.laterN hB1)
  have HB1 := Lib.hid hB1
  have HF : Hid (fitsB X = (decide (min X.nodes 4097 ≤ 4096) && decide (min X.deep 65 ≤ 64))) := Lib.hid (by
    unfold fitsB
    rw [Bool.eq_iff_iff]
    simp only [decide_eq_true_eq, Bool.and_eq_true]
    omega)
  clear hT hB1 hX
  go_enter Tryz.func71, Tryz.ntmps71
  go_wp2_with fail
  rw [← hw1]
  clear hw1
  refine (rSizeN_any X _ w1 HT.out).mono ?_
  rintro e w2 ⟨rfl, b2⟩
  have HB2 := Lib.hid (HB1.out.trans (b2.mono HB1.out.size))
  clear b2
  generalize min X.nodes 4097 = z1 at HF ⊢
  generalize min X.deep 65 = z2 at HF ⊢
  go_wp2_with fail
  all_goals
    go_ret
    refine ⟨ret_bool ?_, HB2.out⟩
    rw [HF.out]
    rw [Bool.eq_iff_iff]
    simp only [decide_eq_true_eq, Bool.and_eq_true, Bool.false_eq_true, false_iff]
    omega
end Go.Proofs.YthbiaaeoajmlbaaGreatDoor
end
