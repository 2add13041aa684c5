/- Layer 11: guard.Value. -/
import Derived.Test.YtkceoiaaiaomoaaGreatDoorKAstQ
import Derived.Test.YtkceoiaaiaomoaaGreatDoorKGd6
import Derived.WalkKit
import Derived.LaidEql
import Derived.Stop.Asserts
import Derived.Lib.IfaceEq
section
set_option linter.unusedVariables false
set_option linter.unusedSimpArgs false
namespace Go.Proofs.YtkceoiaaiaomoaaGreatDoor
open Go.RowKit Go.Shelf Go.Stop Go.Extern.Stop Go.Extern

def cmp11 : Array Value → Sem Value := Extern.ReflectliteType.method fun t => do Go.Extern.Rtype.noPackHeld "Comparable" t; pure (.bool (← typeInfo t).comparable)
theorem isTypeOf11 : ∃ b, (∀ (v : Value) (w : World), (Extern.ReflectliteType.typeOf #[.iface 28 v]).run Tryz.prog w = .ok (.iface 191 (.agg #[.pointer (some ⟨b, 28, none⟩)])) w) ∧
    ∀ w : World, (cmp11 #[.agg #[.pointer (some ⟨b, 28, none⟩)]]).run Tryz.prog w = .ok (.bool true) w := ⟨Tryz.prog.globals.size, fun v w => by kernel_rfl, fun w => by kernel_rfl⟩
theorem isMethodComparable11 (n : Nat) (v : Value) (w : World) : (Go.method (n + 1) 191 v "Comparable").run Tryz.prog w = .ok (338, v) w := by kernel_rfl
theorem methodUnwrap11 (n : Nat) (v : Value) (w : World) : (Go.method (n + 1) 69 v "Unwrap").run Tryz.prog w = .ok (332, v) w := by kernel_rfl
theorem noIsE11 (v : Value) (xT : TypeId) (w : World) : (Instr.typeAssert (.iface 28 v) xT 225 true).run Tryz.prog w = .ok (.tuple #[.nilIface, .bool false]) w := run_typeAssert_lacksB Tryz.underlying225 (by kernel_rfl) (by kernel_rfl) v xT w
theorem noUnwrapE11 (v : Value) (xT : TypeId) (w : World) : (Instr.typeAssert (.iface 28 v) xT 198 true).run Tryz.prog w = .ok (.tuple #[.nilIface, .bool false]) w := run_typeAssert_lacksB Tryz.underlying198 (by kernel_rfl) (by kernel_rfl) v xT w
theorem noUnwrapsE11 (v : Value) (xT : TypeId) (w : World) : (Instr.typeAssert (.iface 28 v) xT 199 true).run Tryz.prog w = .ok (.tuple #[.nilIface, .bool false]) w := run_typeAssert_lacksB Tryz.underlying199 (by kernel_rfl) (by kernel_rfl) v xT w
theorem noIsR11 (v : Value) (xT : TypeId) (w : World) : (Instr.typeAssert (.iface 69 v) xT 225 true).run Tryz.prog w = .ok (.tuple #[.nilIface, .bool false]) w := run_typeAssert_lacksB Tryz.underlying225 (by kernel_rfl) (by kernel_rfl) v xT w
theorem hasUnwrapR11 (v : Value) (xT : TypeId) (w : World) : (Instr.typeAssert (.iface 69 v) xT 198 true).run Tryz.prog w = .ok (.tuple #[.iface 69 v, .bool true]) w := run_typeAssert_hasB Tryz.underlying198 (by kernel_rfl) v xT w
theorem unwrap11_any (r : Nat) (e p : Int) (w : World) (h : w.heap[r]? = some (.cells #[.int .i64 11, .int .i64 e, .int .i64 p] 76 (0, 0))) :
    Calls Tryz.prog 332 #[.pointer (some ⟨r, 0, none⟩)] w fun o w' => o = .returned (.iface 28 (.int .i64 e)) ∧ w' = w := by
  have c1 := cell_of_row (i := 1) h rfl
  go_enter Tryz.func332, Tryz.ntmps332
  go_wp2
  go_ret
  exact ⟨rfl, rfl⟩
set_option maxHeartbeats 8000000 in
set_option maxRecDepth 100000 in
theorem is11_any (r : Nat) (e e2 p : Int) (w : World) (h : w.heap[r]? = some (.cells #[.int .i64 11, .int .i64 e, .int .i64 p] 76 (0, 0))) :
    Calls Tryz.prog 91 #[.iface 69 (.pointer (some ⟨r, 0, none⟩)), .iface 28 (.int .i64 e2)] w fun o w' => o = .returned (.bool (e == e2)) ∧ w' = w := by
  have h8 := @run_callFunc_extern Tryz.prog 150 _ Extern.ReflectliteType.typeOf Tryz.func150 (by kernel_rfl) (by kernel_rfl) (by kernel_rfl) (by kernel_rfl)
  have h32 := @run_callFunc_extern Tryz.prog 338 _ cmp11 Tryz.func338 (by kernel_rfl) (by kernel_rfl) (by kernel_rfl) (by kernel_rfl)
  obtain ⟨b, tT, cT⟩ := isTypeOf11
  have mR := isMethodComparable11
  have mU := methodUnwrap11
  have nE := noIsE11
  have uE := noUnwrapE11
  have vE := noUnwrapsE11
  have nR := noIsR11
  have uR := hasUnwrapR11
  have hty := run_eql_iface_types (P := Tryz.prog) 69 28 (.pointer (some ⟨r, 0, none⟩)) (.int .i64 e2) Tryz.underlying72 (by decide)
  have hun := unwrap11_any r e p w h
  by_cases hee : e = e2
  · subst hee
    have heq := fun W => Lib.run_eql_iface_int (P := Tryz.prog) W (k := .i64) e e Tryz.underlying72 (tx := 28) (by kernel_rfl) Tryz.underlying28
    simp only [beq_self_eq_true] at heq ⊢
    have HUN := Lib.hid hun
    clear hun h
    go_enter Tryz.func91, Tryz.ntmps91
    go_wp2
    refine wp_loop_rounds 2 ?_
    rw [rounds_succ]
    go_wp2_with (go_at_call 332; refine HUN.out.mono ?_; rintro e w' ⟨rfl, rfl⟩)
    rw [rounds_succ]
    go_wp2
    go_ret
    exact ⟨rfl, rfl⟩
  · have heq := fun W => Lib.run_eql_iface_int (P := Tryz.prog) W (k := .i64) e e2 Tryz.underlying72 (tx := 28) (by kernel_rfl) Tryz.underlying28
    simp only [beq_eq_false_iff_ne.2 hee] at heq ⊢
    have HUN := Lib.hid hun
    clear hun h hee
    go_enter Tryz.func91, Tryz.ntmps91
    go_wp2
    refine wp_loop_rounds 2 ?_
    rw [rounds_succ]
    go_wp2_with (go_at_call 332; refine HUN.out.mono ?_; rintro e w' ⟨rfl, rfl⟩)
    rw [rounds_succ]
    go_wp2
    go_ret
    exact ⟨rfl, rfl⟩
end Go.Proofs.YtkceoiaaiaomoaaGreatDoor
end
section
set_option linter.unusedVariables false
set_option linter.unusedSimpArgs false
namespace Go.Proofs.YtkceoiaaiaomoaaGreatDoor
open Go.RowKit

set_option maxHeartbeats 2000000 in
set_option maxRecDepth 100000 in
theorem isNil11_any (e2 : Int) (w : World) : Calls Tryz.prog 91 #[.nilIface, .iface 28 (.int .i64 e2)] w fun o w' => o = .returned (.bool false) ∧ w' = w := by
  have hq : ∀ W : World, Sem.run Tryz.prog (binOp BinOp.eql 72 Value.nilIface (.iface 28 (.int .i64 e2))) W = .ok (.bool false) W := fun W => by kernel_rfl
  go_enter Tryz.func91, Tryz.ntmps91
  go_wp2
  go_ret
  exact ⟨rfl, rfl⟩
theorem valE_or (l : List Bd) (x : Tm) : valE l x = 0 ∨ valE l x = 2 ∨ valE l x = 93 := by
  unfold valE; split
  · cases gvT l x
    · exact .inr (.inr rfl)
    · exact .inl rfl
  · exact .inr (.inl rfl)
set_option maxHeartbeats 8000000 in
set_option maxRecDepth 100000 in
theorem Value_in (n0 n1 : Nat) (l : List Bd) (x : Tm) (v : Value) (A : Option Addr) (m cap : Nat) (W : World) (hT : TmAt (· < W.heap.size) W x v) (hR : BRT n0 n1 W A m cap l) (hn1 : n1 ≤ W.heap.size) (hN : x.nodes ≤ 8200) (hE : Env7 W) :
    Calls Tryz.prog 43 #[v, .slice A m cap] W fun e w' => ∃ k9 n9 s9 t9 A9 m9 c9, e = .returned (.tuple #[.agg #[.int .i8 k9, .int .i64 n9, .string s9, .string t9, .slice A9 m9 c9], .int .i64 (valE l x)]) ∧ TmAt (fun b => b < n0 ∨ (W.heap.size ≤ b ∧ b < w'.heap.size)) w' (valV l x) (.agg #[.int .i8 k9, .int .i64 n9, .string s9, .string t9, .slice A9 m9 c9]) ∧ Below W.heap.size W w' := by
  obtain ⟨X, hX⟩ : ∃ X, X = x := ⟨_, rfl⟩
  obtain ⟨k, n, s, t, ps⟩ := x
  obtain ⟨NA, nc, rfl, hRn, -⟩ := hT.parts
  rw [← hX] at hT hN ⊢
  have HX := Lib.hid hX
  clear hX
  have g0 := there_of (.cells #[.int .i8 0, .int .i64 0, .string ⟨#[]⟩, .string ⟨#[]⟩, .slice none 0 0] 44) (block_alloc W (.cells #[.int .i8 k, .int .i64 n, .string s, .string t, .slice NA ps.length nc] 25))
  have g1 := block_alloc (W.alloc (.cells #[.int .i8 k, .int .i64 n, .string s, .string t, .slice NA ps.length nc] 25)) (.cells #[.int .i8 0, .int .i64 0, .string ⟨#[]⟩, .string ⟨#[]⟩, .slice none 0 0] 44)
  rw [World.size_alloc] at g1
  have b2 : Below W.heap.size W ((W.alloc (.cells #[.int .i8 k, .int .i64 n, .string s, .string t, .slice NA ps.length nc] 25)).alloc (.cells #[.int .i8 0, .int .i64 0, .string ⟨#[]⟩, .string ⟨#[]⟩, .slice none 0 0] 44)) := ((Below.refl _ W).alloc (Nat.le_refl _) _).alloc (by simp) _
  have z2 : ((W.alloc (.cells #[.int .i8 k, .int .i64 n, .string s, .string t, .slice NA ps.length nc] 25)).alloc (.cells #[.int .i8 0, .int .i64 0, .string ⟨#[]⟩, .string ⟨#[]⟩, .slice none 0 0] 44)).heap.size = W.heap.size + 2 := by rw [World.size_alloc, World.size_alloc]
  obtain ⟨W2, hW2⟩ : ∃ W2, W2 = (W.alloc (.cells #[.int .i8 k, .int .i64 n, .string s, .string t, .slice NA ps.length nc] 25)).alloc (.cells #[.int .i8 0, .int .i64 0, .string ⟨#[]⟩, .string ⟨#[]⟩, .slice none 0 0] 44) := ⟨_, rfl⟩
  rw [← hW2] at g0 g1 b2 z2
  have HB2 := Lib.hid b2
  have HG1 := Lib.hid g1
  have HZ2 := Lib.hid z2
  have HC := Lib.hid (valueOf_in n0 n1 l X _ A m cap W2 (hT.laterN b2) (hR.under b2 hn1) (Nat.le_trans hn1 b2.size) hN (hE.under b2))
  have HN0 : Hid (n0 ≤ W.heap.size) := Nat.le_trans hR.le hn1
  obtain ⟨x0, x1, x2, x3, x4⟩ := five_of g0
  clear g0 g1 b2 z2 hT hR hE hN hRn hn1
  go_enter Tryz.func43, Tryz.ntmps43
  go_upto_region 1 with fail
  rw [← hW2]
  clear hW2
  go_wp2_with fail
  refine HC.out.mono ?_
  rintro e W3 ⟨k9, n9, s9, t9, A9, m9, c9, ev, rfl, hv, b3⟩
  obtain ⟨W4, hW4⟩ : ∃ W4, W4 = W3.alloc (.cells #[.int .i8 k9, .int .i64 n9, .string s9, .string t9, .slice A9 m9 c9] 44) := ⟨_, rfl⟩
  have b4 : Below W3.heap.size W3 W4 := by rw [hW4]; exact (Below.refl _ _).alloc (Nat.le_refl _) _
  have r4 : W4.heap[W3.heap.size]? = some (.cells #[.int .i8 k9, .int .i64 n9, .string s9, .string t9, .slice A9 m9 c9] 44 (0, 0)) := by rw [hW4]; exact block_alloc _ _
  have HB4 := Lib.hid (HB2.out.trans ((b3.trans (b4.mono b3.size)).mono HB2.out.size))
  have HB34 := Lib.hid b4
  have HB23 : Hid (W2.heap.size ≤ W3.heap.size) := b3.size
  have hg1 := ((b3.trans (b4.mono b3.size)).block _ (heap_lt HG1.out)).trans HG1.out
  have HR4 := Lib.hid r4
  have HG4 := Lib.hid hg1
  clear b3 b4 r4 hg1 x0 x1 x2 x3 x4
  rcases hv with ⟨hve, rfl, hT⟩ | ⟨hve, hvv, q, rfl, hq⟩
  · have HVE := Lib.hid hve
    have HT := Lib.hid hT
    clear hve hT
    go_upto_region 2 with fail
    rw [← hW4]
    clear hW4
    go_wp2_with fail
    refine (isNil11_any 2 W4).mono ?_
    rintro e w' ⟨rfl, hq⟩
    subst w'
    go_wp2_with fail
    refine (isNil11_any 93 W4).mono ?_
    rintro e w' ⟨rfl, hq⟩
    subst w'
    have r4 := HR4.out
    obtain ⟨e0, e1, e2, e3, e4⟩ := five_of r4
    have hg1 := HG4.out
    clear r4
    obtain ⟨⟨r0, r1, r2, r3, r4⟩, rf0, rf1, rf2, rf3, rf4⟩ := five_fr hg1
    have S5 := Lib.hid (set_five (.int .i8 k9) (.int .i64 n9) (.string s9) (.string t9) (.slice A9 m9 c9) hg1)
    go_wp2_with fail
    obtain ⟨s5, m5⟩ := S5.out
    generalize ((((((W4).setCell ⟨W.heap.size + 1, 0, none⟩ (.int .i8 k9)).setCell ⟨W.heap.size + 1, 1, none⟩ (.int .i64 n9)).setCell ⟨W.heap.size + 1, 2, none⟩ (.string s9)).setCell ⟨W.heap.size + 1, 3, none⟩ (.string t9)).setCell ⟨W.heap.size + 1, 4, none⟩ (.slice A9 m9 c9)) = VX at s5 m5 ⊢
    obtain ⟨z0, z1, z2, z3, z4⟩ := five_of s5
    refine bodyPost_ret (v := .tuple #[.agg #[.int .i8 k9, .int .i64 n9, .string s9, .string t9, .slice A9 m9 c9], .int .i64 0]) (by simp [results, Tryz.f43, go_sem, z0, z1, z2, z3, z4]) rfl ?_
    refine ⟨_, _, _, _, _, _, _, by rw [HVE.out], HT.out.keep (fun b hb => (m5.block b ?_ ?_).trans (HB34.out.block b ?_)) (fun b hb => ?_), HB4.out.trans (m5.below HB4.out.size (fun k (e : k = _) => by omega))⟩
    · have := HN0.out; have := HZ2.out; have := HB34.out.size; have := HB23.out; rcases hb with h | h <;> omega
    · have := HN0.out; have := HZ2.out; rcases hb with h | h <;> omega
    · have := HN0.out; have := HZ2.out; have := HB23.out; rcases hb with h | h <;> omega
    · have := HZ2.out; have := HB34.out.size; have := HB23.out; have := m5.size; rcases hb with h | h; (exact .inl h); (exact .inr ⟨by omega, by omega⟩)
  · have h3 : valE l X = 2 ∨ valE l X = 93 := by rcases valE_or l X with h | h | h; (exact absurd h hve); (exact .inl h); (exact .inr h)
    clear hve
    rcases h3 with hv0 | hv0
    · skip
      have HVV := Lib.hid hvv
      have hq4 := (HB34.out.block _ (heap_lt hq)).trans hq
      rw [hv0] at hq4
      have HV0 := Lib.hid hv0
      have hg1 := HG4.out
      clear hvv hq hv0
      go_upto_region 2 with fail
      rw [← hW4]
      clear hW4
      go_wp2_with fail
      refine (is11_any q 2 2 0 W4 hq4).mono ?_
      rintro e w' ⟨rfl, hqq⟩
      subst w'
      rw [show ((2 : Int) == 2) = true from by decide]
      obtain ⟨⟨r0, r1, r2, r3, r4⟩, rf0, rf1, rf2, rf3, rf4⟩ := five_fr hg1
      have S5 := Lib.hid (set_five (.int .i8 0) (.int .i64 0) (.string ⟨#[]⟩) (.string ⟨#[]⟩) (.slice none 0 0) hg1)
      go_wp2_with fail
      obtain ⟨s5, m5⟩ := S5.out
      generalize ((((((W4).setCell ⟨W.heap.size + 1, 0, none⟩ (.int .i8 0)).setCell ⟨W.heap.size + 1, 1, none⟩ (.int .i64 0)).setCell ⟨W.heap.size + 1, 2, none⟩ (.string ⟨#[]⟩)).setCell ⟨W.heap.size + 1, 3, none⟩ (.string ⟨#[]⟩)).setCell ⟨W.heap.size + 1, 4, none⟩ (.slice none 0 0)) = VX at s5 m5 ⊢
      obtain ⟨z0, z1, z2, z3, z4⟩ := five_of s5
      refine bodyPost_ret (v := .tuple #[.agg #[.int .i8 0, .int .i64 0, .string ⟨#[]⟩, .string ⟨#[]⟩, .slice none 0 0], .int .i64 2]) (by simp [results, Tryz.f43, go_sem, z0, z1, z2, z3, z4]) rfl ?_
      refine ⟨_, _, _, _, _, _, _, by rw [HV0.out], ?_, HB4.out.trans (m5.below HB4.out.size (fun k (e : k = _) => by omega))⟩
      rw [HVV.out]
      exact TmAt.of_row (.nil _ _ none 0) (by decide) (by decide) (by decide) (by decide)
    · skip
      have HVV := Lib.hid hvv
      have hq4 := (HB34.out.block _ (heap_lt hq)).trans hq
      rw [hv0] at hq4
      have HV0 := Lib.hid hv0
      have hg1 := HG4.out
      clear hvv hq hv0
      go_upto_region 2 with fail
      rw [← hW4]
      clear hW4
      go_wp2_with fail
      refine (is11_any q 93 2 0 W4 hq4).mono ?_
      rintro e w' ⟨rfl, hqq⟩
      subst w'
      rw [show ((93 : Int) == 2) = false from by decide]
      go_wp2_with fail
      refine (is11_any q 93 93 0 W4 hq4).mono ?_
      rintro e w' ⟨rfl, hqq⟩
      subst w'
      rw [show ((93 : Int) == 93) = true from by decide]
      obtain ⟨⟨r0, r1, r2, r3, r4⟩, rf0, rf1, rf2, rf3, rf4⟩ := five_fr hg1
      have S5 := Lib.hid (set_five (.int .i8 0) (.int .i64 0) (.string ⟨#[]⟩) (.string ⟨#[]⟩) (.slice none 0 0) hg1)
      go_wp2_with fail
      obtain ⟨s5, m5⟩ := S5.out
      generalize ((((((W4).setCell ⟨W.heap.size + 1, 0, none⟩ (.int .i8 0)).setCell ⟨W.heap.size + 1, 1, none⟩ (.int .i64 0)).setCell ⟨W.heap.size + 1, 2, none⟩ (.string ⟨#[]⟩)).setCell ⟨W.heap.size + 1, 3, none⟩ (.string ⟨#[]⟩)).setCell ⟨W.heap.size + 1, 4, none⟩ (.slice none 0 0)) = VX at s5 m5 ⊢
      obtain ⟨z0, z1, z2, z3, z4⟩ := five_of s5
      refine bodyPost_ret (v := .tuple #[.agg #[.int .i8 0, .int .i64 0, .string ⟨#[]⟩, .string ⟨#[]⟩, .slice none 0 0], .int .i64 93]) (by simp [results, Tryz.f43, go_sem, z0, z1, z2, z3, z4]) rfl ?_
      refine ⟨_, _, _, _, _, _, _, by rw [HV0.out], ?_, HB4.out.trans (m5.below HB4.out.size (fun k (e : k = _) => by omega))⟩
      rw [HVV.out]
      exact TmAt.of_row (.nil _ _ none 0) (by decide) (by decide) (by decide) (by decide)
theorem Value_any (l : List Bd) (x : Tm) (v : Value) (A : Option Addr) (m cap : Nat) (W : World) (hT : TmAt (· < W.heap.size) W x v) (hR : BRow (· < W.heap.size) W A m cap l) (hN : x.nodes ≤ 8200) (hE : Env7 W) :
    Calls Tryz.prog 43 #[v, .slice A m cap] W fun e w' => ∃ k9 n9 s9 t9 A9 m9 c9, e = .returned (.tuple #[.agg #[.int .i8 k9, .int .i64 n9, .string s9, .string t9, .slice A9 m9 c9], .int .i64 (valE l x)]) ∧ TmAt (· < w'.heap.size) w' (valV l x) (.agg #[.int .i8 k9, .int .i64 n9, .string s9, .string t9, .slice A9 m9 c9]) ∧ Below W.heap.size W w' :=
  (Value_in W.heap.size W.heap.size l x v A m cap W hT hR.brt (Nat.le_refl _) hN hE).mono (by
    rintro e w2 ⟨k9, n9, s9, t9, A9, m9, c9, rfl, hv, b2⟩
    exact ⟨_, _, _, _, _, _, _, rfl, hv.mono (fun b hb => by have := b2.size; rcases hb with h | h; (exact Nat.lt_of_lt_of_le h this); (exact h.2)), b2⟩)
end Go.Proofs.YtkceoiaaiaomoaaGreatDoor
end
