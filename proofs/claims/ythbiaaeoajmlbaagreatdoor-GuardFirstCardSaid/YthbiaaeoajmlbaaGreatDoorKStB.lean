/- Rows of binds of the call's own among other new blocks (as StN says of nodes). -/
import Derived.Test.YthbiaaeoajmlbaaGreatDoorKSame
import Derived.Test.YthbiaaeoajmlbaaGreatDoorKOwnB
import Derived.Test.YthbiaaeoajmlbaaGreatDoorKDigits
import Derived.Test.YthbiaaeoajmlbaaGreatDoorKGd6
import Derived.Test.YthbiaaeoajmlbaaGreatDoorKAppend
import Derived.WalkKit
import Derived.LaidEql
import Derived.Stop.Asserts
import Derived.Lib.IfaceEq
section
set_option linter.unusedVariables false
set_option linter.unusedSimpArgs false
namespace Go.Proofs.YthbiaaeoajmlbaaGreatDoor
open Go.RowKit

theorem Same_yes11 (x : Tm) (v u : Value) (w : World) (hv : TmAt (· < w.heap.size) w x v) (hu : TmAt (· < w.heap.size) w x u) : Calls Tryz.prog 43 #[v, u] w fun e w' => e = .returned (.bool true) ∧ Below w.heap.size w w' :=
  (Same_any x x v u w hv hu).mono fun e w' ⟨b, he, hb, h⟩ => ⟨by rw [he, hb.2 rfl], h⟩
def vaN (s : ByteArray) : Tm := .mk 5 0 s ⟨#[]⟩ []
theorem va_nodes (s : ByteArray) : (vaN s).nodes ≤ 8200 := by unfold vaN; rw [Tm.nodes_mk]; simp [Tm.pres]
theorem va_ok (l : List Bd) (s : ByteArray) (h : nameB s 3 = true) (hm : mayL l = true) : okG l (vaN s) = true := by
  have h1 : fitsB (vaN s) = true := by unfold fitsB vaN; rw [Tm.nodes_mk]; simp [Tm.pres, Tm.deep, Tm.deeps]
  have h2 : guaB (vaN s) = true := by unfold vaN guaB leafB; rw [h, show emp ⟨#[]⟩ = true from by decide]; rfl
  unfold okG
  rw [h1, h2, hm]; rfl
theorem va_gv (l : List Bd) (s : ByteArray) (h : ¬ s.data.toList = [95]) : gvT l (vaN s) = findB l s := by
  unfold vaN
  rw [gvT_mk]
  simp [gvTsO, putT, varT, h]
theorem va_E (l : List Bd) (s : ByteArray) (h : nameB s 3 = true) (h2 : ¬ s.data.toList = [95]) (hm : mayL l = true) : valE l (vaN s) = match findB l s with | some _ => 0 | none => 93 := by
  unfold valE; rw [if_pos (va_ok l s h hm), va_gv l s h2]; cases findB l s <;> rfl
theorem va_V (l : List Bd) (s : ByteArray) (h : nameB s 3 = true) (h2 : ¬ s.data.toList = [95]) (hm : mayL l = true) : valV l (vaN s) = (findB l s).getD (intT 0) := by
  unfold valV; rw [if_pos (va_ok l s h hm), va_gv l s h2]
theorem findB_app : ∀ (a b : List Bd) (s : ByteArray), findB (a ++ b) s = match findB a s with | some y => some y | none => findB b s
  | [], b, s => rfl
  | x :: a, b, s => by
    rw [List.cons_append, findB, findB]
    by_cases h : x.1 = s
    · rw [if_pos h, if_pos h]
    · rw [if_neg h, if_neg h]; exact findB_app a b s
theorem findB_one (s : ByteArray) (t : Tm) : findB [(s, t)] s = some t := by rw [findB, if_pos rfl]
theorem mayL_app (a b : List Bd) : mayL (a ++ b) = (mayL a && mayL b) := by simp [mayL]
theorem mayL_one (s : ByteArray) (t : Tm) (h : checkN t = 0) : mayL [(s, t)] = true := by simp [mayL, h]
theorem first_E (l : List Bd) (s : ByteArray) (t : Tm) (h : nameB s 3 = true) (h2 : ¬ s.data.toList = [95]) (hm : mayL l = true) (ht : checkN t = 0) : valE ([(s, t)] ++ l) (vaN s) = 0 ∧ valV ([(s, t)] ++ l) (vaN s) = t := by
  have hm2 : mayL ([(s, t)] ++ l) = true := by rw [mayL_app, hm, mayL_one s t ht]; rfl
  rw [va_E _ s h h2 hm2, va_V _ s h h2 hm2, findB_app, findB_one]
  exact ⟨rfl, rfl⟩
theorem last_E (l : List Bd) (s : ByteArray) (t : Tm) (h : nameB s 3 = true) (h2 : ¬ s.data.toList = [95]) (hm : mayL l = true) (ht : checkN t = 0) : valE (([] ++ l) ++ [(s, t)]) (vaN s) = 0 ∧ valV (([] ++ l) ++ [(s, t)]) (vaN s) = (findB l s).getD t := by
  have hm2 : mayL (([] ++ l) ++ [(s, t)]) = true := by rw [mayL_app, List.nil_append, hm, mayL_one s t ht]; rfl
  rw [va_E _ s h h2 hm2, va_V _ s h h2 hm2, findB_app, findB_one, List.nil_append]
  cases findB l s with
  | none => exact ⟨rfl, rfl⟩
  | some y => exact ⟨rfl, rfl⟩
end Go.Proofs.YthbiaaeoajmlbaaGreatDoor
end
section
set_option linter.unusedVariables false
set_option linter.unusedSimpArgs false
namespace Go.Proofs.YthbiaaeoajmlbaaGreatDoor
open Go.RowKit Go.Shelf Go.Stop Go.Extern.Stop Go.Extern

def cmp11 : Array Value → Sem Value := Extern.ReflectliteType.method fun t => do Go.Extern.Rtype.noPackHeld "Comparable" t; pure (.bool (← typeInfo t).comparable)
theorem isTypeOf11 : ∃ b, (∀ (v : Value) (w : World), (Extern.ReflectliteType.typeOf #[.iface 28 v]).run Tryz.prog w = .ok (.iface 197 (.agg #[.pointer (some ⟨b, 28, none⟩)])) w) ∧
    ∀ w : World, (cmp11 #[.agg #[.pointer (some ⟨b, 28, none⟩)]]).run Tryz.prog w = .ok (.bool true) w := ⟨Tryz.prog.globals.size, fun v w => by kernel_rfl, fun w => by kernel_rfl⟩
theorem isMethodComparable11 (n : Nat) (v : Value) (w : World) : (Go.method (n + 1) 197 v "Comparable").run Tryz.prog w = .ok (342, v) w := by kernel_rfl
theorem methodUnwrap11 (n : Nat) (v : Value) (w : World) : (Go.method (n + 1) 80 v "Unwrap").run Tryz.prog w = .ok (336, v) w := by kernel_rfl
theorem noIsE11 (v : Value) (xT : TypeId) (w : World) : (Instr.typeAssert (.iface 28 v) xT 230 true).run Tryz.prog w = .ok (.tuple #[.nilIface, .bool false]) w := run_typeAssert_lacksB Tryz.underlying230 (by kernel_rfl) (by kernel_rfl) v xT w
theorem noUnwrapE11 (v : Value) (xT : TypeId) (w : World) : (Instr.typeAssert (.iface 28 v) xT 204 true).run Tryz.prog w = .ok (.tuple #[.nilIface, .bool false]) w := run_typeAssert_lacksB Tryz.underlying204 (by kernel_rfl) (by kernel_rfl) v xT w
theorem noUnwrapsE11 (v : Value) (xT : TypeId) (w : World) : (Instr.typeAssert (.iface 28 v) xT 205 true).run Tryz.prog w = .ok (.tuple #[.nilIface, .bool false]) w := run_typeAssert_lacksB Tryz.underlying205 (by kernel_rfl) (by kernel_rfl) v xT w
theorem noIsR11 (v : Value) (xT : TypeId) (w : World) : (Instr.typeAssert (.iface 80 v) xT 230 true).run Tryz.prog w = .ok (.tuple #[.nilIface, .bool false]) w := run_typeAssert_lacksB Tryz.underlying230 (by kernel_rfl) (by kernel_rfl) v xT w
theorem hasUnwrapR11 (v : Value) (xT : TypeId) (w : World) : (Instr.typeAssert (.iface 80 v) xT 204 true).run Tryz.prog w = .ok (.tuple #[.iface 80 v, .bool true]) w := run_typeAssert_hasB Tryz.underlying204 (by kernel_rfl) v xT w
theorem unwrap11_any (r : Nat) (e p : Int) (w : World) (h : w.heap[r]? = some (.cells #[.int .i64 11, .int .i64 e, .int .i64 p] 87 (0, 0))) :
    Calls Tryz.prog 336 #[.pointer (some ⟨r, 0, none⟩)] w fun o w' => o = .returned (.iface 28 (.int .i64 e)) ∧ w' = w := by
  have c1 := cell_of_row (i := 1) h rfl
  go_enter Tryz.func336, Tryz.ntmps336
  go_wp2
  go_ret
  exact ⟨rfl, rfl⟩
set_option maxHeartbeats 8000000 in
set_option maxRecDepth 100000 in
theorem is11_any (r : Nat) (e e2 p : Int) (w : World) (h : w.heap[r]? = some (.cells #[.int .i64 11, .int .i64 e, .int .i64 p] 87 (0, 0))) :
    Calls Tryz.prog 103 #[.iface 80 (.pointer (some ⟨r, 0, none⟩)), .iface 28 (.int .i64 e2)] w fun o w' => o = .returned (.bool (e == e2)) ∧ w' = w := by
  have h8 := @run_callFunc_extern Tryz.prog 160 _ Extern.ReflectliteType.typeOf Tryz.func160 (by kernel_rfl) (by kernel_rfl) (by kernel_rfl) (by kernel_rfl)
  have h32 := @run_callFunc_extern Tryz.prog 342 _ cmp11 Tryz.func342 (by kernel_rfl) (by kernel_rfl) (by kernel_rfl) (by kernel_rfl)
  obtain ⟨b, tT, cT⟩ := isTypeOf11
  have mR := isMethodComparable11
  have mU := methodUnwrap11
  have nE := noIsE11
  have uE := noUnwrapE11
  have vE := noUnwrapsE11
  have nR := noIsR11
  have uR := hasUnwrapR11
  have hty := run_eql_iface_types (P := Tryz.prog) 80 28 (.pointer (some ⟨r, 0, none⟩)) (.int .i64 e2) Tryz.underlying83 (by decide)
  have hun := unwrap11_any r e p w h
  by_cases hee : e = e2
  · subst hee
    have heq := fun W => Lib.run_eql_iface_int (P := Tryz.prog) W (k := .i64) e e Tryz.underlying83 (tx := 28) (by kernel_rfl) Tryz.underlying28
    simp only [beq_self_eq_true] at heq ⊢
    have HUN := Lib.hid hun
    clear hun h
    go_enter Tryz.func103, Tryz.ntmps103
    go_wp2
    refine wp_loop_rounds 2 ?_
    rw [rounds_succ]
    go_wp2_with (go_at_call 336; refine HUN.out.mono ?_; rintro e w' ⟨rfl, rfl⟩)
    rw [rounds_succ]
    go_wp2
    go_ret
    exact ⟨rfl, rfl⟩
  · have heq := fun W => Lib.run_eql_iface_int (P := Tryz.prog) W (k := .i64) e e2 Tryz.underlying83 (tx := 28) (by kernel_rfl) Tryz.underlying28
    simp only [beq_eq_false_iff_ne.2 hee] at heq ⊢
    have HUN := Lib.hid hun
    clear hun h hee
    go_enter Tryz.func103, Tryz.ntmps103
    go_wp2
    refine wp_loop_rounds 2 ?_
    rw [rounds_succ]
    go_wp2_with (go_at_call 336; refine HUN.out.mono ?_; rintro e w' ⟨rfl, rfl⟩)
    rw [rounds_succ]
    go_wp2
    go_ret
    exact ⟨rfl, rfl⟩
end Go.Proofs.YthbiaaeoajmlbaaGreatDoor
end
section
set_option linter.unusedVariables false
set_option linter.unusedSimpArgs false
namespace Go.Proofs.YthbiaaeoajmlbaaGreatDoor
open Go.RowKit

set_option maxHeartbeats 2000000 in
set_option maxRecDepth 100000 in
theorem isNil11_any (e2 : Int) (w : World) : Calls Tryz.prog 103 #[.nilIface, .iface 28 (.int .i64 e2)] w fun o w' => o = .returned (.bool false) ∧ w' = w := by
  have hq : ∀ W : World, Sem.run Tryz.prog (binOp BinOp.eql 83 Value.nilIface (.iface 28 (.int .i64 e2))) W = .ok (.bool false) W := fun W => by kernel_rfl
  go_enter Tryz.func103, Tryz.ntmps103
  go_wp2
  go_ret
  exact ⟨rfl, rfl⟩
theorem valE_or (l : List Bd) (x : Tm) : valE l x = 0 ∨ valE l x = 2 ∨ valE l x = 93 := by
  unfold valE; split
  · cases gvT l x
    · exact .inr (.inr rfl)
    · exact .inl rfl
  · exact .inr (.inl rfl)
set_option maxHeartbeats 8000000 in
set_option maxRecDepth 100000 in
theorem Value_in (n0 n1 : Nat) (l : List Bd) (x : Tm) (v : Value) (A : Option Addr) (m cap : Nat) (W : World) (hT : TmAt (· < W.heap.size) W x v) (hR : BRT n0 n1 W A m cap l) (hn1 : n1 ≤ W.heap.size) (hN : x.nodes ≤ 8200) (hE : Env7 W) :
    Calls Tryz.prog 49 #[v, .slice A m cap] W fun e w' => ∃ k9 n9 s9 t9 A9 m9 c9, e = .returned (.tuple #[.agg #[.int .i8 k9, .int .i64 n9, .string s9, .string t9, .slice A9 m9 c9], .int .i64 (valE l x)]) ∧ TmAt (fun b => b < n0 ∨ (W.heap.size ≤ b ∧ b < w'.heap.size)) w' (valV l x) (.agg #[.int .i8 k9, .int .i64 n9, .string s9, .string t9, .slice A9 m9 c9]) ∧ Below W.heap.size W w' := by
  obtain ⟨X, hX⟩ : ∃ X, X = x := ⟨_, rfl⟩
  obtain ⟨k, n, s, t, ps⟩ := x
  obtain ⟨NA, nc, rfl, hRn, -⟩ := hT.parts
  rw [← hX] at hT hN ⊢
  have HX := Lib.hid hX
  clear hX
  have g0 := there_of (.cells #[.int .i8 0, .int .i64 0, .string ⟨#[]⟩, .string ⟨#[]⟩, .slice none 0 0] 48) (block_alloc W (.cells #[.int .i8 k, .int .i64 n, .string s, .string t, .slice NA ps.length nc] 25))
  have g1 := block_alloc (W.alloc (.cells #[.int .i8 k, .int .i64 n, .string s, .string t, .slice NA ps.length nc] 25)) (.cells #[.int .i8 0, .int .i64 0, .string ⟨#[]⟩, .string ⟨#[]⟩, .slice none 0 0] 48)
  rw [World.size_alloc] at g1
  have b2 : Below W.heap.size W ((W.alloc (.cells #[.int .i8 k, .int .i64 n, .string s, .string t, .slice NA ps.length nc] 25)).alloc (.cells #[.int .i8 0, .int .i64 0, .string ⟨#[]⟩, .string ⟨#[]⟩, .slice none 0 0] 48)) := ((Below.refl _ W).alloc (Nat.le_refl _) _).alloc (by simp) _
  have z2 : ((W.alloc (.cells #[.int .i8 k, .int .i64 n, .string s, .string t, .slice NA ps.length nc] 25)).alloc (.cells #[.int .i8 0, .int .i64 0, .string ⟨#[]⟩, .string ⟨#[]⟩, .slice none 0 0] 48)).heap.size = W.heap.size + 2 := by rw [World.size_alloc, World.size_alloc]
  obtain ⟨W2, hW2⟩ : ∃ W2, W2 = (W.alloc (.cells #[.int .i8 k, .int .i64 n, .string s, .string t, .slice NA ps.length nc] 25)).alloc (.cells #[.int .i8 0, .int .i64 0, .string ⟨#[]⟩, .string ⟨#[]⟩, .slice none 0 0] 48) := ⟨_, rfl⟩
  rw [← hW2] at g0 g1 b2 z2
  have HB2 := Lib.hid b2
  have HG1 := Lib.hid g1
  have HZ2 := Lib.hid z2
  have HC := Lib.hid (valueOf_in n0 n1 l X _ A m cap W2 (hT.laterN b2) (hR.under b2 hn1) (Nat.le_trans hn1 b2.size) hN (hE.under b2))
  have HN0 : Hid (n0 ≤ W.heap.size) := Nat.le_trans hR.le hn1
  obtain ⟨x0, x1, x2, x3, x4⟩ := five_of g0
  clear g0 g1 b2 z2 hT hR hE hN hRn hn1
  go_enter Tryz.func49, Tryz.ntmps49
  go_upto_region 1 with fail
  rw [← hW2]
  clear hW2
  go_wp2_with fail
  refine HC.out.mono ?_
  rintro e W3 ⟨k9, n9, s9, t9, A9, m9, c9, ev, rfl, hv, b3⟩
  obtain ⟨W4, hW4⟩ : ∃ W4, W4 = W3.alloc (.cells #[.int .i8 k9, .int .i64 n9, .string s9, .string t9, .slice A9 m9 c9] 48) := ⟨_, rfl⟩
  have b4 : Below W3.heap.size W3 W4 := by rw [hW4]; exact (Below.refl _ _).alloc (Nat.le_refl _) _
  have r4 : W4.heap[W3.heap.size]? = some (.cells #[.int .i8 k9, .int .i64 n9, .string s9, .string t9, .slice A9 m9 c9] 48 (0, 0)) := by rw [hW4]; exact block_alloc _ _
  have HB4 := Lib.hid (HB2.out.trans ((b3.trans (b4.mono b3.size)).mono HB2.out.size))
  have HB34 := Lib.hid b4
  have HB23 : Hid (W2.heap.size ≤ W3.heap.size) := b3.size
  have hg1 := ((b3.trans (b4.mono b3.size)).block _ (heap_lt HG1.out)).trans HG1.out
  have HR4 := Lib.hid r4
  have HG4 := Lib.hid hg1
  clear b3 b4 r4 hg1 x0 x1 x2 x3 x4
  rcases hv with ⟨hve, rfl, hT⟩ | ⟨hve, hvv, q, rfl, hq⟩
  · have HVE := Lib.hid hve
    have HT := Lib.hid hT
    clear hve hT
    go_upto_region 2 with fail
    rw [← hW4]
    clear hW4
    go_wp2_with fail
    refine (isNil11_any 2 W4).mono ?_
    rintro e w' ⟨rfl, hq⟩
    subst w'
    go_wp2_with fail
    refine (isNil11_any 93 W4).mono ?_
    rintro e w' ⟨rfl, hq⟩
    subst w'
    have r4 := HR4.out
    obtain ⟨e0, e1, e2, e3, e4⟩ := five_of r4
    have hg1 := HG4.out
    clear r4
    obtain ⟨⟨r0, r1, r2, r3, r4⟩, rf0, rf1, rf2, rf3, rf4⟩ := five_fr hg1
    have S5 := Lib.hid (set_five (.int .i8 k9) (.int .i64 n9) (.string s9) (.string t9) (.slice A9 m9 c9) hg1)
    go_wp2_with fail
    obtain ⟨s5, m5⟩ := S5.out
    generalize ((((((W4).setCell ⟨W.heap.size + 1, 0, none⟩ (.int .i8 k9)).setCell ⟨W.heap.size + 1, 1, none⟩ (.int .i64 n9)).setCell ⟨W.heap.size + 1, 2, none⟩ (.string s9)).setCell ⟨W.heap.size + 1, 3, none⟩ (.string t9)).setCell ⟨W.heap.size + 1, 4, none⟩ (.slice A9 m9 c9)) = VX at s5 m5 ⊢
    obtain ⟨z0, z1, z2, z3, z4⟩ := five_of s5
    refine bodyPost_ret (v := .tuple #[.agg #[.int .i8 k9, .int .i64 n9, .string s9, .string t9, .slice A9 m9 c9], .int .i64 0]) (by simp [results, Tryz.f49, go_sem, z0, z1, z2, z3, z4]) rfl ?_
    refine ⟨_, _, _, _, _, _, _, by rw [HVE.out], HT.out.keep (fun b hb => (m5.block b ?_ ?_).trans (HB34.out.block b ?_)) (fun b hb => ?_), HB4.out.trans (m5.below HB4.out.size (fun k (e : k = _) => by omega))⟩
    · have := HN0.out; have := HZ2.out; have := HB34.out.size; have := HB23.out; rcases hb with h | h <;> omega
    · have := HN0.out; have := HZ2.out; rcases hb with h | h <;> omega
    · have := HN0.out; have := HZ2.out; have := HB23.out; rcases hb with h | h <;> omega
    · have := HZ2.out; have := HB34.out.size; have := HB23.out; have := m5.size; rcases hb with h | h; (exact .inl h); (exact .inr ⟨by omega, by omega⟩)
  · have h3 : valE l X = 2 ∨ valE l X = 93 := by rcases valE_or l X with h | h | h; (exact absurd h hve); (exact .inl h); (exact .inr h)
    clear hve
    rcases h3 with hv0 | hv0
    · skip
      have HVV := Lib.hid hvv
      have hq4 := (HB34.out.block _ (heap_lt hq)).trans hq
      rw [hv0] at hq4
      have HV0 := Lib.hid hv0
      have hg1 := HG4.out
      clear hvv hq hv0
      go_upto_region 2 with fail
      rw [← hW4]
      clear hW4
      go_wp2_with fail
      refine (is11_any q 2 2 0 W4 hq4).mono ?_
      rintro e w' ⟨rfl, hqq⟩
      subst w'
      rw [show ((2 : Int) == 2) = true from by decide]
      obtain ⟨⟨r0, r1, r2, r3, r4⟩, rf0, rf1, rf2, rf3, rf4⟩ := five_fr hg1
      have S5 := Lib.hid (set_five (.int .i8 0) (.int .i64 0) (.string ⟨#[]⟩) (.string ⟨#[]⟩) (.slice none 0 0) hg1)
      go_wp2_with fail
      obtain ⟨s5, m5⟩ := S5.out
      generalize ((((((W4).setCell ⟨W.heap.size + 1, 0, none⟩ (.int .i8 0)).setCell ⟨W.heap.size + 1, 1, none⟩ (.int .i64 0)).setCell ⟨W.heap.size + 1, 2, none⟩ (.string ⟨#[]⟩)).setCell ⟨W.heap.size + 1, 3, none⟩ (.string ⟨#[]⟩)).setCell ⟨W.heap.size + 1, 4, none⟩ (.slice none 0 0)) = VX at s5 m5 ⊢
      obtain ⟨z0, z1, z2, z3, z4⟩ := five_of s5
      refine bodyPost_ret (v := .tuple #[.agg #[.int .i8 0, .int .i64 0, .string ⟨#[]⟩, .string ⟨#[]⟩, .slice none 0 0], .int .i64 2]) (by simp [results, Tryz.f49, go_sem, z0, z1, z2, z3, z4]) rfl ?_
      refine ⟨_, _, _, _, _, _, _, by rw [HV0.out], ?_, HB4.out.trans (m5.below HB4.out.size (fun k (e : k = _) => by omega))⟩
      rw [HVV.out]
      exact TmAt.of_row (.nil _ _ none 0) (by decide) (by decide) (by decide) (by decide)
    · skip
      have HVV := Lib.hid hvv
      have hq4 := (HB34.out.block _ (heap_lt hq)).trans hq
      rw [hv0] at hq4
      have HV0 := Lib.hid hv0
      have hg1 := HG4.out
      clear hvv hq hv0
      go_upto_region 2 with fail
      rw [← hW4]
      clear hW4
      go_wp2_with fail
      refine (is11_any q 93 2 0 W4 hq4).mono ?_
      rintro e w' ⟨rfl, hqq⟩
      subst w'
      rw [show ((93 : Int) == 2) = false from by decide]
      go_wp2_with fail
      refine (is11_any q 93 93 0 W4 hq4).mono ?_
      rintro e w' ⟨rfl, hqq⟩
      subst w'
      rw [show ((93 : Int) == 93) = true from by decide]
      obtain ⟨⟨r0, r1, r2, r3, r4⟩, rf0, rf1, rf2, rf3, rf4⟩ := five_fr hg1
      have S5 := Lib.hid (set_five (.int .i8 0) (.int .i64 0) (.string ⟨#[]⟩) (.string ⟨#[]⟩) (.slice none 0 0) hg1)
      go_wp2_with fail
      obtain ⟨s5, m5⟩ := S5.out
      generalize ((((((W4).setCell ⟨W.heap.size + 1, 0, none⟩ (.int .i8 0)).setCell ⟨W.heap.size + 1, 1, none⟩ (.int .i64 0)).setCell ⟨W.heap.size + 1, 2, none⟩ (.string ⟨#[]⟩)).setCell ⟨W.heap.size + 1, 3, none⟩ (.string ⟨#[]⟩)).setCell ⟨W.heap.size + 1, 4, none⟩ (.slice none 0 0)) = VX at s5 m5 ⊢
      obtain ⟨z0, z1, z2, z3, z4⟩ := five_of s5
      refine bodyPost_ret (v := .tuple #[.agg #[.int .i8 0, .int .i64 0, .string ⟨#[]⟩, .string ⟨#[]⟩, .slice none 0 0], .int .i64 93]) (by simp [results, Tryz.f49, go_sem, z0, z1, z2, z3, z4]) rfl ?_
      refine ⟨_, _, _, _, _, _, _, by rw [HV0.out], ?_, HB4.out.trans (m5.below HB4.out.size (fun k (e : k = _) => by omega))⟩
      rw [HVV.out]
      exact TmAt.of_row (.nil _ _ none 0) (by decide) (by decide) (by decide) (by decide)
theorem Value_any (l : List Bd) (x : Tm) (v : Value) (A : Option Addr) (m cap : Nat) (W : World) (hT : TmAt (· < W.heap.size) W x v) (hR : BRow (· < W.heap.size) W A m cap l) (hN : x.nodes ≤ 8200) (hE : Env7 W) :
    Calls Tryz.prog 49 #[v, .slice A m cap] W fun e w' => ∃ k9 n9 s9 t9 A9 m9 c9, e = .returned (.tuple #[.agg #[.int .i8 k9, .int .i64 n9, .string s9, .string t9, .slice A9 m9 c9], .int .i64 (valE l x)]) ∧ TmAt (· < w'.heap.size) w' (valV l x) (.agg #[.int .i8 k9, .int .i64 n9, .string s9, .string t9, .slice A9 m9 c9]) ∧ Below W.heap.size W w' :=
  (Value_in W.heap.size W.heap.size l x v A m cap W hT hR.brt (Nat.le_refl _) hN hE).mono (by
    rintro e w2 ⟨k9, n9, s9, t9, A9, m9, c9, rfl, hv, b2⟩
    exact ⟨_, _, _, _, _, _, _, rfl, hv.mono (fun b hb => by have := b2.size; rcases hb with h | h; (exact Nat.lt_of_lt_of_le h this); (exact h.2)), b2⟩)
end Go.Proofs.YthbiaaeoajmlbaaGreatDoor
end
section
set_option linter.unusedVariables false
namespace Go.Proofs.YthbiaaeoajmlbaaGreatDoor
open Go.RowKit

theorem kindN0 (c : Int) : kindN c = 0 ↔ ¬ ((97 ≤ c ∧ c ≤ 122) ∨ (65 ≤ c ∧ c ≤ 90) ∨ (48 ≤ c ∧ c ≤ 57) ∨ c = 95) := by
  unfold kindN
  split <;> (try split) <;> (try split) <;> (try split) <;> omega
set_option maxHeartbeats 2000000 in
theorem rname7_any (s : ByteArray) (w : World) (hs : s.size ≤ maxLen) :
    Calls Tryz.prog 60 #[.string s] w fun e w' => e = .returned (.bool (nameB s 3)) ∧ w = w' := by
  unfold maxLen at hs
  by_cases h0 : 0 < s.size
  · have hI := Lib.hid (nameB_iff s 3 h0)
    have hL := Lib.hid (fun (h : ∀ j, j < s.size → kd s j ≠ 0) => prefN_eq s s.size (Nat.le_refl _) h (.inl rfl))
    have hP := Lib.hid (fun (k : Nat) (hk : k < s.size) (h : ∀ j, j < k → kd s j ≠ 0) (hz : kd s k = 0) => prefN_eq s k (Nat.le_of_lt hk) h (.inr ⟨hk, hz⟩))
    by_cases h32 : s.size ≤ 32
    · by_cases hf : kindN ((s[0]).toNat : Int) = 3
      · have hf2 := (kindN3 _).1 hf
        have HF := Lib.hid hf
        clear hf
        go_enter Tryz.func60, Tryz.ntmps60
        go_wp2
        all_goals
          go_loop [3] (fun i => ∃ k : Nat, k ≤ s.size ∧ i = .int .i64 k ∧ Hid (∀ j, j < k → kd s j ≠ 0)) (fun i => s.size - (intOf i).toNat)
          case atStart => exact ⟨0, Nat.zero_le _, rfl, fun j h => by omega⟩
          case round =>
            obtain ⟨k, hk, rfl, hd⟩ := hrel
            by_cases hlt : k < s.size
            · have hkd := kd_at s k hlt
              have hz0 := kindN0 ((s[k]).toNat : Int)
              by_cases hz : kindN ((s[k]).toNat : Int) = 0
              · have hn := hz0.1 hz
                have HZ := Lib.hid (hkd.symm.trans hz)
                clear hz0 hz hkd
                go_wp2
                all_goals first
                  | (exfalso; first | omega | (simp only [bne_eq_false_iff_eq] at *; omega))
                  | (go_ret; refine ⟨ret_bool ?_, rfl⟩; rw [eq_comm, Bool.eq_false_iff]; intro hb; have h1 := ((hI.out.1 hb).2.2); have h2 := hP.out k hlt hd.out HZ.out; omega)
              · have hn : ¬ ¬ _ := fun h => hz (hz0.2 h)
                have HZ := Lib.hid (fun h => hz (hkd.trans h))
                clear hz0 hz hkd
                go_wp2
                all_goals first
                  | (exfalso; first | omega | (simp only [bne_eq_false_iff_eq] at *; omega))
                  | (go_round
                     case rel => exact ⟨k + 1, by omega, by go_num, fun j hj => by
                       by_cases e : j = k
                       · subst e; exact HZ.out
                       · exact hd.out j (by omega)⟩
                     case measure => simp [intOf]; omega)
            · go_wp2
              go_ret
              refine ⟨ret_bool ?_, rfl⟩
              rw [eq_comm, hI.out]
              exact ⟨h32, HF.out, hL.out fun j hj => hd.out j (by omega)⟩
      · have hf2 := fun h => hf ((kindN3 _).2 h)
        have HF : Hid (nameB s 3 = false) := Lib.hid (by rw [Bool.eq_false_iff]; intro hb; exact hf (hI.out.1 hb).2.1)
        clear hf
        go_enter Tryz.func60, Tryz.ntmps60
        go_wp2
        all_goals first
          | (exfalso; apply hf2; first | omega | (simp only [bne_eq_false_iff_eq] at *; omega))
          | (go_ret; exact ⟨ret_bool HF.out.symm, rfl⟩)
    · have HF : Hid (nameB s 3 = false) := Lib.hid (by rw [Bool.eq_false_iff]; intro hb; exact h32 (hI.out.1 hb).1)
      have h33 : 32 < s.size := by omega
      clear h32
      go_enter Tryz.func60, Tryz.ntmps60
      go_wp2
      all_goals first
        | (exfalso; omega)
        | (go_ret; exact ⟨ret_bool HF.out.symm, rfl⟩)
  · have HZ := Lib.hid (nameB_0 s 3 h0)
    go_enter Tryz.func60, Tryz.ntmps60
    have h00 : s.size < 1 := by omega
    go_wp2
    all_goals first
      | (exfalso; omega)
      | (go_ret; exact ⟨ret_bool HZ.out.symm, rfl⟩)
end Go.Proofs.YthbiaaeoajmlbaaGreatDoor
end
section
set_option linter.unusedVariables false
set_option linter.unusedSimpArgs false
namespace Go.Proofs.YthbiaaeoajmlbaaGreatDoor
open Go.RowKit

theorem OwnB.nil (base : Nat) (P : Nat → Prop) (w : World) : OwnB base P w (.slice Option.none 0 0) [] := ⟨[], World.ownsRow_nil _ _ _ _, rfl, fun j x h => by simp at h⟩
theorem OwnB.own {base : Nat} {P : Nat → Prop} {w : World} {v : Value} {hs : List Bd} (h : OwnB base P w v hs) : ∀ g, v.ownBlock = some g → base ≤ g ∧ g < w.heap.size := by
  intro g hg
  obtain ⟨us, ho, _⟩ := h.row
  exact ho.lt g hg
theorem OwnB.brt {base n0 : Nat} {P : Nat → Prop} {w : World} {A : Option Addr} {n cap : Nat} {hs : List Bd} (h : OwnB base P w (.slice A n cap) hs) (hP : ∀ b, P b → b < n0) (hn : n0 ≤ w.heap.size) : BRT n0 w.heap.size w A n cap hs := by
  have hb := h.brow (Q := fun _ => True) (fun _ _ => trivial) (fun _ _ _ => trivial)
  obtain ⟨us, ho, hl, ht⟩ := h.row
  have hf := ownB_six hl ht
  refine ⟨hb.len, hb.max, hb.cap, fun j x hj => ?_, hn⟩
  obtain ⟨u, hu, c0, c1, c2, c3, c4, rfl, hs', hT⟩ := ht j x hj
  rw [hb.len] at ho
  obtain ⟨g, rfl, _, hg, hE⟩ := own_elem6 ho hf hu
  exact ⟨_, _, rfl, hg, hs', hE, hT.mono hP⟩
structure StB (w0 V : World) (P : Nat → Prop) (B : List (Nat × Obj)) (v : Value) (hs : List Bd) : Prop where
  below : Below w0.heap.size w0 V
  own : OwnB w0.heap.size P V v hs
  kept : ∀ q ∈ B, w0.heap.size ≤ q.1 ∧ V.heap[q.1]? = some q.2 ∧ v.ownBlock ≠ some q.1
section
variable {w0 V : World} {P : Nat → Prop} {B : List (Nat × Obj)} {v : Value} {hs : List Bd}
theorem StB.start (w0 : World) (P : Nat → Prop) : StB w0 w0 P [] (.slice none 0 0) [] := ⟨Below.refl _ _, OwnB.nil _ _ _, fun q hq => by simp at hq⟩
theorem StB.under (h : StB w0 V P B v hs) (hP : ∀ b, P b → b < w0.heap.size) {V' : World} (hb : Below V.heap.size V V') : StB w0 V' P B v hs := by
  have hs' := h.below.size
  refine ⟨h.below.trans (hb.mono hs'), h.own.keep (Mod.of_below (F := fun _ => False) hb) (fun _ _ f => f) (fun b hb' => ⟨Nat.lt_of_lt_of_le (hP b hb') hs', fun f => f⟩) (fun _ h => h), fun q hq => ?_⟩
  obtain ⟨h1, h2, h3⟩ := h.kept q hq
  exact ⟨h1, (hb.block _ (heap_lt h2)).trans h2, h3⟩
theorem StB.apart (h : StB w0 V P B v hs) (hP : ∀ b, P b → b < w0.heap.size) : ∀ b, P b → b < V.heap.size ∧ v.ownBlock ≠ some b := fun b hb =>
  ⟨Nat.lt_of_lt_of_le (hP b hb) h.below.size, fun e => by have := (h.own.own b e).1; have := hP b hb; omega⟩
theorem StB.alloc (h : StB w0 V P B v hs) (hP : ∀ b, P b → b < w0.heap.size) (o : Obj) : StB w0 (V.alloc o) P ((V.heap.size, o) :: B) v hs := by
  have h' := h.under hP ((Below.refl _ V).alloc (Nat.le_refl _) o)
  refine ⟨h'.below, h'.own, fun q hq => ?_⟩
  rcases List.mem_cons.1 hq with rfl | hq
  · exact ⟨h.below.size, block_alloc _ _, fun e => by have := (h.own.own _ e).2; omega⟩
  · exact h'.kept q hq
theorem StB.fresh_in (h : StB w0 V P B (.slice none 0 0) []) (hP : ∀ b, P b → b < w0.heap.size) (o : Obj) {n cap : Nat} {hs : List Bd} (hO : OwnB w0.heap.size P (V.alloc o) (.slice (some ⟨V.heap.size, 0, none⟩) n cap) hs) : StB w0 (V.alloc o) P B (.slice (some ⟨V.heap.size, 0, none⟩) n cap) hs := by
  have h' := h.under hP ((Below.refl _ V).alloc (Nat.le_refl _) o)
  refine ⟨h'.below, hO, fun q hq => ?_⟩
  obtain ⟨h1, h2, _⟩ := h'.kept q hq
  obtain ⟨_, h4, _⟩ := h.kept q hq
  refine ⟨h1, h2, fun e => ?_⟩
  have := heap_lt h4
  simp [Value.ownBlock] at e
  omega
theorem StB.fresh (h : StB w0 V P B (.slice none 0 0) []) (hP : ∀ b, P b → b < w0.heap.size) : StB w0 (V.alloc (.cells #[] 65)) P B (.slice (some ⟨V.heap.size, 0, none⟩) 0 0) [] :=
  h.fresh_in hP _ (OwnB.none (block_alloc _ _) h.below.size)
theorem StB.fresh1 (h : StB w0 V P B (.slice none 0 0) []) (hP : ∀ b, P b → b < w0.heap.size) {s : ByteArray} {t : Tm} {c0 c1 c2 c3 c4 : Value} (hs : s.size ≤ maxLen) (ht : TmAt P w0 t (.agg #[c0, c1, c2, c3, c4])) : StB w0 (V.alloc (.cells #[.string s, c0, c1, c2, c3, c4] 65)) P B (.slice (some ⟨V.heap.size, 0, none⟩) 1 1) [(s, t)] :=
  h.fresh_in hP _ (OwnB.one (block_alloc _ _) h.below.size hs (ht.keep (fun b hb => by
    have hb2 := hP b hb
    exact (Below.heap_alloc _ _ _ (Nat.lt_of_lt_of_le hb2 h.below.size)).trans (h.below.block b hb2)) (fun _ h => h)))
theorem StB.app (h : StB w0 V P B v hs) {V' : World} {v' : Value} {hs' : List Bd} (O : OwnB w0.heap.size P V' v' hs') (hg : V.grownBy V' v.ownBlock) (hb : v'.ownBlock = v.ownBlock ∨ v'.ownBlock = some V.heap.size) : StB w0 V' P B v' hs' := by
  have hm : Mod (fun g => v.ownBlock = some g) V V' := Mod.grown hg (fun _ _ e => e)
  refine ⟨h.below.trans (hm.below h.below.size (fun g e => (h.own.own g e).1)), O, fun q hq => ?_⟩
  obtain ⟨h1, h2, h3⟩ := h.kept q hq
  have hlt := heap_lt h2
  refine ⟨h1, (hm.block _ hlt h3).trans h2, fun e => ?_⟩
  rcases hb with hb | hb
  · exact h3 (hb.symm.trans e)
  · rw [hb] at e; injection e with e; omega
end
end Go.Proofs.YthbiaaeoajmlbaaGreatDoor
end
