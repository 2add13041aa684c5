/- Contracts of package ints: what each of its functions comes to. -/
import Derived.Test.YtkceoiaaiaomoaaGreatDoorKOkPure
import Derived.Test.YtkceoiaaiaomoaaGreatDoorKCons
import Derived.Test.YtkceoiaaiaomoaaGreatDoorRows
import Derived.Test.YtkceoiaaiaomoaaGreatDoorKIMay
import Derived.WalkKit
import Derived.MapKept
import Derived.ProofKit
import Derived.Lib.Hide
import Derived.WalkLawsBesides
import Derived.WalkSpells
import Derived.Outline
section
set_option linter.unusedVariables false
set_option linter.unusedSimpArgs false
namespace Go.Proofs.YtkceoiaaiaomoaaGreatDoor
open Go.RowKit

def intT (n : Int) : Tm := .mk 0 n ⟨#[]⟩ ⟨#[]⟩ []
def atmT (s : ByteArray) : Tm := .mk 1 0 s ⟨#[]⟩ []
def nilT11 : Tm := .mk 6 0 ⟨#[]⟩ ⟨#[]⟩ []
def PutP (r : Option Tm) (Q : Nat → Prop) (w : World) (e : Ending) (w' : World) : Prop :=
  ∃ (k n : Int) (s t : ByteArray) (A : Option Addr) (m c : Nat) (ec : Int), e = .returned (.tuple #[.agg #[.int .i8 k, .int .i64 n, .string s, .string t, .slice A m c], .int .i64 ec]) ∧
    (∀ y, r = some y → ec = 0 ∧ TmAt (fun b => Q b ∨ (w.heap.size ≤ b ∧ b < w'.heap.size)) w' y (.agg #[.int .i8 k, .int .i64 n, .string s, .string t, .slice A m c])) ∧ (r = none → ec ≠ 0) ∧ Below w.heap.size w w'

set_option maxHeartbeats 1000000 in
set_option maxRecDepth 100000 in
theorem put1_any (k n : Int) (s t : ByteArray) (A : Option Addr) (m c : Nat) (pv : Value) (Q : Nat → Prop) (w : World) (hn : -9223372036854775808 ≤ n ∧ n ≤ 9223372036854775807) (hs : s.size ≤ maxLen) :
    Calls Tryz.prog 213 #[.agg #[.int .i8 k, .int .i64 n, .string s, .string t, .slice A m c], pv] w (PutP (some (intT n)) Q w) := by
  have HN := Lib.hid hn
  have HS := Lib.hid hs
  clear hn hs
  have g0 := there_of (.cells #[.int .i8 0, .int .i64 0, .string ⟨#[]⟩, .string ⟨#[]⟩, .slice none 0 0] 44) (block_alloc w (.cells #[.int .i8 k, .int .i64 n, .string s, .string t, .slice A m c] 25))
  obtain ⟨x0, x1, x2, x3, x4⟩ := five_of g0
  have g1 := block_alloc (w.alloc (.cells #[.int .i8 k, .int .i64 n, .string s, .string t, .slice A m c] 25)) (.cells #[.int .i8 0, .int .i64 0, .string ⟨#[]⟩, .string ⟨#[]⟩, .slice none 0 0] 44)
  rw [World.size_alloc] at g1
  obtain ⟨⟨r0, r1, r2, r3, r4⟩, rf0, rf1, rf2, rf3, rf4⟩ := five_fr g1
  clear g0 g1
  go_enter Tryz.func213, Tryz.ntmps213
  go_wp2_with fail
  refine bodyPost_ret (v := .tuple #[.agg #[.int .i8 0, .int .i64 n, .string ⟨#[]⟩, .string ⟨#[]⟩, .slice none 0 0], .int .i64 0]) (by simp [results, Tryz.f213, go_sem]) rfl ?_
  exact ⟨_, _, _, _, _, _, _, _, rfl, fun y hy => ⟨rfl, by cases hy; exact TmAt.of_row (.nil _ _ none 0) (by decide) HN.out (by decide) (by decide)⟩, (fun h => by cases h), ((Below.refl _ w).alloc (Nat.le_refl _) _).alloc (by simp) _⟩

set_option maxHeartbeats 1000000 in
set_option maxRecDepth 100000 in
theorem put2_any (k n : Int) (s t : ByteArray) (A : Option Addr) (m c : Nat) (pv : Value) (Q : Nat → Prop) (w : World) (hn : -9223372036854775808 ≤ n ∧ n ≤ 9223372036854775807) (hs : s.size ≤ maxLen) :
    Calls Tryz.prog 214 #[.agg #[.int .i8 k, .int .i64 n, .string s, .string t, .slice A m c], pv] w (PutP (some (atmT s)) Q w) := by
  have HN := Lib.hid hn
  have HS := Lib.hid hs
  clear hn hs
  have g0 := there_of (.cells #[.int .i8 0, .int .i64 0, .string ⟨#[]⟩, .string ⟨#[]⟩, .slice none 0 0] 44) (block_alloc w (.cells #[.int .i8 k, .int .i64 n, .string s, .string t, .slice A m c] 25))
  obtain ⟨x0, x1, x2, x3, x4⟩ := five_of g0
  have g1 := block_alloc (w.alloc (.cells #[.int .i8 k, .int .i64 n, .string s, .string t, .slice A m c] 25)) (.cells #[.int .i8 0, .int .i64 0, .string ⟨#[]⟩, .string ⟨#[]⟩, .slice none 0 0] 44)
  rw [World.size_alloc] at g1
  obtain ⟨⟨r0, r1, r2, r3, r4⟩, rf0, rf1, rf2, rf3, rf4⟩ := five_fr g1
  clear g0 g1
  go_enter Tryz.func214, Tryz.ntmps214
  go_wp2_with fail
  refine bodyPost_ret (v := .tuple #[.agg #[.int .i8 1, .int .i64 0, .string s, .string ⟨#[]⟩, .slice none 0 0], .int .i64 0]) (by simp [results, Tryz.f214, go_sem]) rfl ?_
  exact ⟨_, _, _, _, _, _, _, _, rfl, fun y hy => ⟨rfl, by cases hy; exact TmAt.of_row (.nil _ _ none 0) (by decide) (by decide) HS.out (by decide)⟩, (fun h => by cases h), ((Below.refl _ w).alloc (Nat.le_refl _) _).alloc (by simp) _⟩

set_option maxHeartbeats 1000000 in
set_option maxRecDepth 100000 in
theorem put3_any (k n : Int) (s t : ByteArray) (A : Option Addr) (m c : Nat) (pv : Value) (Q : Nat → Prop) (w : World) (hn : -9223372036854775808 ≤ n ∧ n ≤ 9223372036854775807) (hs : s.size ≤ maxLen) :
    Calls Tryz.prog 215 #[.agg #[.int .i8 k, .int .i64 n, .string s, .string t, .slice A m c], pv] w (PutP (some (nilT11)) Q w) := by
  have HN := Lib.hid hn
  have HS := Lib.hid hs
  clear hn hs
  have g0 := there_of (.cells #[.int .i8 0, .int .i64 0, .string ⟨#[]⟩, .string ⟨#[]⟩, .slice none 0 0] 44) (block_alloc w (.cells #[.int .i8 k, .int .i64 n, .string s, .string t, .slice A m c] 25))
  obtain ⟨x0, x1, x2, x3, x4⟩ := five_of g0
  have g1 := block_alloc (w.alloc (.cells #[.int .i8 k, .int .i64 n, .string s, .string t, .slice A m c] 25)) (.cells #[.int .i8 0, .int .i64 0, .string ⟨#[]⟩, .string ⟨#[]⟩, .slice none 0 0] 44)
  rw [World.size_alloc] at g1
  obtain ⟨⟨r0, r1, r2, r3, r4⟩, rf0, rf1, rf2, rf3, rf4⟩ := five_fr g1
  clear g0 g1
  go_enter Tryz.func215, Tryz.ntmps215
  go_wp2_with fail
  refine bodyPost_ret (v := .tuple #[.agg #[.int .i8 6, .int .i64 0, .string ⟨#[]⟩, .string ⟨#[]⟩, .slice none 0 0], .int .i64 0]) (by simp [results, Tryz.f215, go_sem]) rfl ?_
  exact ⟨_, _, _, _, _, _, _, _, rfl, fun y hy => ⟨rfl, by cases hy; exact TmAt.of_row (.nil _ _ none 0) (by decide) (by decide) (by decide) (by decide)⟩, (fun h => by cases h), ((Below.refl _ w).alloc (Nat.le_refl _) _).alloc (by simp) _⟩

theorem zeroTerm (w : World) : (zeroValue 44).run Tryz.prog w = .ok (.agg #[.int .i8 0, .int .i64 0, .string ⟨#[]⟩, .string ⟨#[]⟩, .slice none 0 0]) w := by kernel_rfl
def varT (l : List Bd) (s : ByteArray) : Option Tm := if s.data.toList = [95] then none else findB l s
set_option maxHeartbeats 2000000 in
set_option maxRecDepth 100000 in
theorem putVar_any (l : List Bd) (k n : Int) (s t : ByteArray) (A : Option Addr) (m c : Nat) (pv : Value) (n0 gm mc : Nat) (w0 : World) (es : Array MapEntry) (w : World) (hm : w.heap[gm]? = some (.map es mc)) (hM : MapB n0 w0 es l) (hb : Below n0 w0 w) (h0 : n0 ≤ w0.heap.size) :
    Calls Tryz.prog 212 #[.map (some gm), .agg #[.int .i8 k, .int .i64 n, .string s, .string t, .slice A m c], pv] w (PutP (varT l s) (· < n0) w) := by
  obtain ⟨f, hT, hF⟩ := hM
  have g0 := there_of (.cells #[.int .i8 0, .int .i64 0, .string ⟨#[]⟩, .string ⟨#[]⟩, .slice none 0 0] 44) (block_alloc w (.cells #[.int .i8 k, .int .i64 n, .string s, .string t, .slice A m c] 25))
  obtain ⟨x0, x1, x2, x3, x4⟩ := five_of g0
  have g1 := block_alloc (w.alloc (.cells #[.int .i8 k, .int .i64 n, .string s, .string t, .slice A m c] 25)) (.cells #[.int .i8 0, .int .i64 0, .string ⟨#[]⟩, .string ⟨#[]⟩, .slice none 0 0] 44)
  rw [World.size_alloc] at g1
  have gm2 := there_of (.cells #[.int .i8 0, .int .i64 0, .string ⟨#[]⟩, .string ⟨#[]⟩, .slice none 0 0] 44) (there_of (.cells #[.int .i8 k, .int .i64 n, .string s, .string t, .slice A m c] 25) hm)
  have b2 : Below w.heap.size w ((w.alloc (.cells #[.int .i8 k, .int .i64 n, .string s, .string t, .slice A m c] 25)).alloc (.cells #[.int .i8 0, .int .i64 0, .string ⟨#[]⟩, .string ⟨#[]⟩, .slice none 0 0] 44)) := ((Below.refl _ w).alloc (Nat.le_refl _) _).alloc (by simp) _
  have z2 : ((w.alloc (.cells #[.int .i8 k, .int .i64 n, .string s, .string t, .slice A m c] 25)).alloc (.cells #[.int .i8 0, .int .i64 0, .string ⟨#[]⟩, .string ⟨#[]⟩, .slice none 0 0] 44)).heap.size = w.heap.size + 2 := by rw [World.size_alloc, World.size_alloc]
  have HF := Lib.hid hF
  have HB2 := Lib.hid b2
  have HBW := Lib.hid hb
  have H0 : Hid (n0 ≤ w0.heap.size) := h0
  have HGM := Lib.hid gm2
  have HG0 := Lib.hid g0
  have HG1 := Lib.hid g1
  obtain ⟨W2, hW2⟩ : ∃ W2, W2 = (w.alloc (.cells #[.int .i8 k, .int .i64 n, .string s, .string t, .slice A m c] 25)).alloc (.cells #[.int .i8 0, .int .i64 0, .string ⟨#[]⟩, .string ⟨#[]⟩, .slice none 0 0] 44) := ⟨_, rfl⟩
  rw [← hW2] at HB2 HGM HG0 HG1 z2
  have HZ2 := Lib.hid z2
  clear hF b2 hb h0 g0 g1 gm2 z2 x0 x1 x2 x3 x4 hm
  cases hf : findB l s with
  | none =>
    have hlk := hT.miss (t := 184) Tryz.underlying184 Tryz.underlying9 W2 gm mc HGM.out zeroTerm ((HF.out s).2 hf)
    have hr : varT l s = none := by unfold varT; split; rfl; exact hf
    rw [hr]
    have xs2 : W2.cell? ⟨w.heap.size, 2, none⟩ = some (.string s) := cell_of_row (i := 2) HG0.out rfl
    clear hf hr
    go_enter Tryz.func212, Tryz.ntmps212
    go_upto_region 1 with fail
    rw [← hW2]
    clear hW2
    go_upto_region 2 with fail
    obtain ⟨W3, hW3⟩ : ∃ W3, W3 = W2.alloc (.cells #[.int .i8 0, .int .i64 0, .string ⟨#[]⟩, .string ⟨#[]⟩, .slice none 0 0] 44) := ⟨_, rfl⟩
    have b3 : Below w.heap.size w W3 := by rw [hW3]; exact HB2.out.alloc HB2.out.size _
    have hg1 := there_of (.cells #[.int .i8 0, .int .i64 0, .string ⟨#[]⟩, .string ⟨#[]⟩, .slice none 0 0] 44) HG1.out
    have hg0 := there_of (.cells #[.int .i8 0, .int .i64 0, .string ⟨#[]⟩, .string ⟨#[]⟩, .slice none 0 0] 44) HG0.out
    have hg2 := block_alloc W2 (.cells #[.int .i8 0, .int .i64 0, .string ⟨#[]⟩, .string ⟨#[]⟩, .slice none 0 0] 44)
    rw [← hW3] at hg1 hg0 hg2
    rw [← hW3]
    clear hW3 xs2 hlk
    have HB3 := Lib.hid b3
    have HG3 := Lib.hid hg1
    clear b3 
    have xs3 : W3.cell? ⟨w.heap.size, 2, none⟩ = some (.string s) := cell_of_row (i := 2) hg0 rfl
    clear hg0
    obtain ⟨⟨r0, r1, r2, r3, r4⟩, rf0, rf1, rf2, rf3, rf4⟩ := five_fr hg1
    have S5 := Lib.hid (set_five (.int .i8 0) (.int .i64 0) (.string ⟨#[]⟩) (.string ⟨#[]⟩) (.slice none 0 0) hg1)
    go_wp2_with fail
    obtain ⟨s5, m5⟩ := S5.out
    generalize ((((((W3).setCell ⟨w.heap.size + 1, 0, none⟩ (.int .i8 0)).setCell ⟨w.heap.size + 1, 1, none⟩ (.int .i64 0)).setCell ⟨w.heap.size + 1, 2, none⟩ (.string ⟨#[]⟩)).setCell ⟨w.heap.size + 1, 3, none⟩ (.string ⟨#[]⟩)).setCell ⟨w.heap.size + 1, 4, none⟩ (.slice none 0 0)) = VX at s5 m5 ⊢
    obtain ⟨z0, z1, z2, z3, z4⟩ := five_of s5
    refine bodyPost_ret (v := .tuple #[.agg #[.int .i8 0, .int .i64 0, .string ⟨#[]⟩, .string ⟨#[]⟩, .slice none 0 0], .int .i64 4]) (by simp [results, Tryz.f212, go_sem, z0, z1, z2, z3, z4]) rfl ?_
    exact ⟨_, _, _, _, _, _, _, _, rfl, (fun y hy => by cases hy), (fun _ => by decide), HB3.out.trans (m5.below HB3.out.size (fun k (e : k = _) => by omega))⟩
  | some y =>
    obtain ⟨k', n', s', t', A', m', c', hfs, hy⟩ := (HF.out s).1 y hf
    have hlk := hT.hit (t := 184) Tryz.underlying184 Tryz.underlying9 W2 gm mc HGM.out hfs
    have HY := Lib.hid hy
    have HV := Lib.hid hf
    have xs2 : W2.cell? ⟨w.heap.size, 2, none⟩ = some (.string s) := cell_of_row (i := 2) HG0.out rfl
    clear hf hfs hy
    by_cases hs : s.toList = [95]
    · have hsb : (s.toList == [95]) = true := beq_iff_eq.2 hs
      have hr : varT l s = none := by unfold varT; rw [if_pos (by rw [← Go.Lib.toList_data]; exact hs)]
      rw [hr]
      clear hr
      go_enter Tryz.func212, Tryz.ntmps212
      go_upto_region 1 with fail
      rw [← hW2]
      clear hW2
      go_upto_region 2 with fail
      obtain ⟨W3, hW3⟩ : ∃ W3, W3 = W2.alloc (.cells #[.int .i8 k', .int .i64 n', .string s', .string t', .slice A' m' c'] 44) := ⟨_, rfl⟩
      have b3 : Below w.heap.size w W3 := by rw [hW3]; exact HB2.out.alloc HB2.out.size _
      have hg1 := there_of (.cells #[.int .i8 k', .int .i64 n', .string s', .string t', .slice A' m' c'] 44) HG1.out
      have hg0 := there_of (.cells #[.int .i8 k', .int .i64 n', .string s', .string t', .slice A' m' c'] 44) HG0.out
      have hg2 := block_alloc W2 (.cells #[.int .i8 k', .int .i64 n', .string s', .string t', .slice A' m' c'] 44)
      rw [← hW3] at hg1 hg0 hg2
      rw [← hW3]
      clear hW3 xs2 hlk
      have HB3 := Lib.hid b3
      have HG3 := Lib.hid hg1
      clear b3 
      have xs3 : W3.cell? ⟨w.heap.size, 2, none⟩ = some (.string s) := cell_of_row (i := 2) hg0 rfl
      clear hg0
      obtain ⟨⟨r0, r1, r2, r3, r4⟩, rf0, rf1, rf2, rf3, rf4⟩ := five_fr hg1
      have S5 := Lib.hid (set_five (.int .i8 0) (.int .i64 0) (.string ⟨#[]⟩) (.string ⟨#[]⟩) (.slice none 0 0) hg1)
      go_wp2_with fail
      obtain ⟨s5, m5⟩ := S5.out
      generalize ((((((W3).setCell ⟨w.heap.size + 1, 0, none⟩ (.int .i8 0)).setCell ⟨w.heap.size + 1, 1, none⟩ (.int .i64 0)).setCell ⟨w.heap.size + 1, 2, none⟩ (.string ⟨#[]⟩)).setCell ⟨w.heap.size + 1, 3, none⟩ (.string ⟨#[]⟩)).setCell ⟨w.heap.size + 1, 4, none⟩ (.slice none 0 0)) = VX at s5 m5 ⊢
      obtain ⟨z0, z1, z2, z3, z4⟩ := five_of s5
      refine bodyPost_ret (v := .tuple #[.agg #[.int .i8 0, .int .i64 0, .string ⟨#[]⟩, .string ⟨#[]⟩, .slice none 0 0], .int .i64 4]) (by simp [results, Tryz.f212, go_sem, z0, z1, z2, z3, z4]) rfl ?_
      exact ⟨_, _, _, _, _, _, _, _, rfl, (fun y hy => by cases hy), (fun _ => by decide), HB3.out.trans (m5.below HB3.out.size (fun k (e : k = _) => by omega))⟩
    · have hsb : (s.toList == [95]) = false := beq_eq_false_iff_ne.2 hs
      have hr : varT l s = some y := by unfold varT; rw [if_neg (by rw [← Go.Lib.toList_data]; exact hs)]; exact HV.out
      rw [hr]
      clear hr
      go_enter Tryz.func212, Tryz.ntmps212
      go_upto_region 1 with fail
      rw [← hW2]
      clear hW2
      go_upto_region 2 with fail
      obtain ⟨W3, hW3⟩ : ∃ W3, W3 = W2.alloc (.cells #[.int .i8 k', .int .i64 n', .string s', .string t', .slice A' m' c'] 44) := ⟨_, rfl⟩
      have b3 : Below w.heap.size w W3 := by rw [hW3]; exact HB2.out.alloc HB2.out.size _
      have hg1 := there_of (.cells #[.int .i8 k', .int .i64 n', .string s', .string t', .slice A' m' c'] 44) HG1.out
      have hg0 := there_of (.cells #[.int .i8 k', .int .i64 n', .string s', .string t', .slice A' m' c'] 44) HG0.out
      have hg2 := block_alloc W2 (.cells #[.int .i8 k', .int .i64 n', .string s', .string t', .slice A' m' c'] 44)
      rw [← hW3] at hg1 hg0 hg2
      rw [← hW3]
      clear hW3 xs2 hlk
      have HB3 := Lib.hid b3
      have HG3 := Lib.hid hg1
      clear b3 
      have xs3 : W3.cell? ⟨w.heap.size, 2, none⟩ = some (.string s) := cell_of_row (i := 2) hg0 rfl
      clear hg0
      obtain ⟨v0, v1, v2, v3, v4⟩ := five_of hg2
      obtain ⟨⟨r0, r1, r2, r3, r4⟩, rf0, rf1, rf2, rf3, rf4⟩ := five_fr hg1
      have S5 := Lib.hid (set_five (.int .i8 k') (.int .i64 n') (.string s') (.string t') (.slice A' m' c') hg1)
      go_wp2_with fail
      obtain ⟨s5, m5⟩ := S5.out
      generalize ((((((W3).setCell ⟨w.heap.size + 1, 0, none⟩ (.int .i8 k')).setCell ⟨w.heap.size + 1, 1, none⟩ (.int .i64 n')).setCell ⟨w.heap.size + 1, 2, none⟩ (.string s')).setCell ⟨w.heap.size + 1, 3, none⟩ (.string t')).setCell ⟨w.heap.size + 1, 4, none⟩ (.slice A' m' c')) = VX at s5 m5 ⊢
      obtain ⟨z0, z1, z2, z3, z4⟩ := five_of s5
      refine bodyPost_ret (v := .tuple #[.agg #[.int .i8 k', .int .i64 n', .string s', .string t', .slice A' m' c'], .int .i64 0]) (by simp [results, Tryz.f212, go_sem, z0, z1, z2, z3, z4]) rfl ?_
      exact ⟨_, _, _, _, _, _, _, _, rfl, (fun z hz => by cases hz; exact ⟨rfl, HY.out.keep (fun q hq => (m5.block q (by have := H0.out; have := HB3.out.size; have := HBW.out.size; omega) (by have := H0.out; have := HBW.out.size; omega)).trans ((HB3.out.block q (by have := H0.out; have := HBW.out.size; omega)).trans (HBW.out.block q hq))) (fun q hq => .inl hq)⟩), (fun h => by cases h), HB3.out.trans (m5.below HB3.out.size (fun k (e : k = _) => by omega))⟩
end Go.Proofs.YtkceoiaaiaomoaaGreatDoor
end
section
namespace Go.Proofs.YtkceoiaaiaomoaaGreatDoor
open Go.RowKit

theorem run_put_last {P : Program} {t k e : TypeId} (ht : P.underlying t = some (.map k e)) (hk : P.underlying k = some .string) (w : World) (es : Array MapEntry) (c : Nat) (s : ByteArray) (v : Value)
    (hn : Instr.findNow .string (.string s) es.toList 0 = some none) :
    (Instr.mapUpdate t (.map (some w.heap.size)) (.string s) v).run P (w.alloc (.map es c)) = .ok () (w.alloc (.map (es.push ⟨.string s, v, c⟩) (c + 1))) := by
  have hb : (w.alloc (.map es c)).heap[w.heap.size]? = some (.map es c) := (MapKept.heap_alloc w _).1
  have hkey : MapKept.IsKey .string (.string s) := by simp [MapKept.IsKey]
  have hset : ({ w.alloc (.map es c) with heap := (w.alloc (.map es c)).heap.setIfInBounds w.heap.size (.map (es.push ⟨.string s, v, c⟩) (c + 1)) } : World) = w.alloc (.map (es.push ⟨.string s, v, c⟩) (c + 1)) := by
    have e : (w.alloc (.map es c)).heap = w.heap.push (.map es c) := rfl
    have e2 : ((w.heap.push (.map es c)).setIfInBounds w.heap.size (.map (es.push ⟨.string s, v, c⟩) (c + 1))) = w.heap.push (.map (es.push ⟨.string s, v, c⟩) (c + 1)) := by
      apply Array.ext_getElem?
      intro i
      simp only [Array.getElem?_setIfInBounds, Array.getElem?_push, Array.size_push]
      by_cases hi : i = w.heap.size
      · subst hi; simp
      · simp [hi, Ne.symm hi]
    rw [e, e2]; rfl
  simp [Instr.mapUpdate, run_underlying ht, MapKept.run_getObj_map hb, MapKept.run_checkKey hk hkey, MapKept.run_findKey hk hn, MapKept.run_setObj_map _ hb, Result.andThen]
  exact hset

theorem run_look_last {P : Program} {t k e : TypeId} (ht : P.underlying t = some (.map k e)) (hk : P.underlying k = some .string) (w : World) (es : Array MapEntry) (c : Nat) (s : ByteArray) (i : Nat) (v : Value)
    (hn : Instr.findNow .string (.string s) es.toList 0 = some (some (i, v))) :
    (Instr.lookup t (.map (some w.heap.size)) (.string s) true).run P (w.alloc (.map es c)) = .ok (.tuple #[v, .bool true]) (w.alloc (.map es c)) := by
  have hb : (w.alloc (.map es c)).heap[w.heap.size]? = some (.map es c) := (MapKept.heap_alloc w _).1
  have hkey : MapKept.IsKey .string (.string s) := by simp [MapKept.IsKey]
  simp [Instr.lookup, run_underlying ht, MapKept.run_getObj_map hb, MapKept.run_checkKey hk hkey, MapKept.run_findKey hk hn, Result.andThen]

theorem run_miss_last {P : Program} {t k e : TypeId} (ht : P.underlying t = some (.map k e)) (hk : P.underlying k = some .string) (w : World) (es : Array MapEntry) (c : Nat) (s : ByteArray) (z : Value)
    (hz : ∀ w, (zeroValue e).run P w = .ok z w) (hn : Instr.findNow .string (.string s) es.toList 0 = some none) :
    (Instr.lookup t (.map (some w.heap.size)) (.string s) true).run P (w.alloc (.map es c)) = .ok (.tuple #[z, .bool false]) (w.alloc (.map es c)) := by
  have hb : (w.alloc (.map es c)).heap[w.heap.size]? = some (.map es c) := (MapKept.heap_alloc w _).1
  have hkey : MapKept.IsKey .string (.string s) := by simp [MapKept.IsKey]
  simp [Instr.lookup, run_underlying ht, MapKept.run_getObj_map hb, MapKept.run_checkKey hk hkey, MapKept.run_findKey hk hn, hz, Result.andThen]

end Go.Proofs.YtkceoiaaiaomoaaGreatDoor
end
section
namespace Go.Proofs.YtkceoiaaiaomoaaGreatDoor
open Go.RowKit

def opTab (k : Nat) : Array MapEntry := (#[⟨.string ⟨#[43]⟩, .func (.func 307) #[] #[], 0⟩, ⟨.string ⟨#[45]⟩, .func (.func 308) #[] #[], 1⟩, ⟨.string ⟨#[42]⟩, .func (.func 309) #[] #[], 2⟩,
  ⟨.string ⟨#[100, 105, 118]⟩, .func (.func 310) #[] #[], 3⟩, ⟨.string ⟨#[114, 101, 109]⟩, .func (.func 311) #[] #[], 4⟩] : Array MapEntry).take k

theorem operations_any (w : World) : Calls Tryz.prog 291 #[] w fun e w' => e = .returned (.map (some w.heap.size)) ∧ w' = w.alloc (.map (opTab 5) 5) := by
  have hmm := @run_makeMap Tryz.prog
  have i1 : Sem.run Tryz.prog (Instr.mapUpdate 285 (.map (some w.heap.size)) (.string ⟨#[43]⟩) (.func (.func 307) #[] #[])) (w.alloc (.map #[] 0)) = .ok () (w.alloc (.map (opTab 1) 1)) :=
    run_put_last Tryz.underlying285 Tryz.underlying9 w (opTab 0) 0 _ _ rfl
  have i2 : Sem.run Tryz.prog (Instr.mapUpdate 285 (.map (some w.heap.size)) (.string ⟨#[45]⟩) (.func (.func 308) #[] #[])) (w.alloc (.map (opTab 1) 1)) = .ok () (w.alloc (.map (opTab 2) 2)) :=
    run_put_last Tryz.underlying285 Tryz.underlying9 w (opTab 1) 1 _ _ rfl
  have i3 : Sem.run Tryz.prog (Instr.mapUpdate 285 (.map (some w.heap.size)) (.string ⟨#[42]⟩) (.func (.func 309) #[] #[])) (w.alloc (.map (opTab 2) 2)) = .ok () (w.alloc (.map (opTab 3) 3)) :=
    run_put_last Tryz.underlying285 Tryz.underlying9 w (opTab 2) 2 _ _ rfl
  have i4 : Sem.run Tryz.prog (Instr.mapUpdate 285 (.map (some w.heap.size)) (.string ⟨#[100, 105, 118]⟩) (.func (.func 310) #[] #[])) (w.alloc (.map (opTab 3) 3)) = .ok () (w.alloc (.map (opTab 4) 4)) :=
    run_put_last Tryz.underlying285 Tryz.underlying9 w (opTab 3) 3 _ _ rfl
  have i5 : Sem.run Tryz.prog (Instr.mapUpdate 285 (.map (some w.heap.size)) (.string ⟨#[114, 101, 109]⟩) (.func (.func 311) #[] #[])) (w.alloc (.map (opTab 4) 4)) = .ok () (w.alloc (.map (opTab 5) 5)) :=
    run_put_last Tryz.underlying285 Tryz.underlying9 w (opTab 4) 4 _ _ rfl
  go_enter Tryz.func291, Tryz.ntmps291
  go_wp2
  go_ret
  exact ⟨rfl, rfl⟩
end Go.Proofs.YtkceoiaaiaomoaaGreatDoor
end
section
namespace Go.Proofs.YtkceoiaaiaomoaaGreatDoor
open Go.RowKit

theorem quo_0 (a : Int) (w : World) : Calls Tryz.prog 310 #[.int .i64 a, .int .i64 0] w fun e w' => e = .returned (.iface 28 (.int .i64 10)) ∧ w = w' := by
  go_enter Tryz.func310, Tryz.ntmps310
  go_wp2
  go_ret
  exact ⟨rfl, rfl⟩

theorem rem_0 (a : Int) (w : World) : Calls Tryz.prog 311 #[.int .i64 a, .int .i64 0] w fun e w' => e = .returned (.iface 28 (.int .i64 10)) ∧ w = w' := by
  go_enter Tryz.func311, Tryz.ntmps311
  go_wp2
  go_ret
  exact ⟨rfl, rfl⟩

theorem quo_any (a b : Int) (w : World) (hb : ¬ b = 0) : Calls Tryz.prog 310 #[.int .i64 a, .int .i64 b] w fun e w' => e = .returned (.iface 3 (.int .i64 (wrap64 (a.tdiv b)))) ∧ w = w' := by
  go_enter Tryz.func310, Tryz.ntmps310
  go_wp2
  go_ret
  exact ⟨rfl, rfl⟩

theorem rem_any (a b : Int) (w : World) (hb : ¬ b = 0) : Calls Tryz.prog 311 #[.int .i64 a, .int .i64 b] w fun e w' => e = .returned (.iface 3 (.int .i64 (a.tmod b))) ∧ w = w' := by
  go_enter Tryz.func311, Tryz.ntmps311
  go_wp2
  go_ret
  exact ⟨rfl, rfl⟩

theorem times_0 (a : Int) (w : World) : Calls Tryz.prog 309 #[.int .i64 a, .int .i64 0] w fun e w' => e = .returned (.iface 3 (.int .i64 0)) ∧ w = w' := by
  go_enter Tryz.func309, Tryz.ntmps309
  go_wp2
  go_ret
  exact ⟨rfl, rfl⟩

theorem times_ok (a b : Int) (w : World) (hb : ¬ b = 0) (h : ((wrap64 (a * b)).tdiv b) = a) (ha : mayB a = true) : Calls Tryz.prog 309 #[.int .i64 a, .int .i64 b] w fun e w' => e = .returned (.iface 3 (.int .i64 (wrap64 (a * b)))) ∧ w = w' := by
  have h2 : (wrap64 ((wrap64 (a * b)).tdiv b) != a) = false := by
    have := may_bd ha
    rw [h, bne_eq_false_iff_eq]; unfold wrap64; omega
  clear h ha
  go_enter Tryz.func309, Tryz.ntmps309
  go_wp2
  go_ret
  exact ⟨rfl, rfl⟩

theorem times_long (a b : Int) (w : World) (hb : ¬ b = 0) (h : (wrap64 ((wrap64 (a * b)).tdiv b) != a) = true) : Calls Tryz.prog 309 #[.int .i64 a, .int .i64 b] w fun e w' => e = .returned (.iface 28 (.int .i64 11)) ∧ w = w' := by
  go_enter Tryz.func309, Tryz.ntmps309
  go_wp2
  go_ret
  exact ⟨rfl, rfl⟩

theorem plus_any (a b : Int) (w : World) : Calls Tryz.prog 307 #[.int .i64 a, .int .i64 b] w fun e w' => e = .returned (.iface 3 (.int .i64 (wrap64 (a + b)))) ∧ w = w' := by
  go_enter Tryz.func307, Tryz.ntmps307
  go_wp2
  go_ret
  exact ⟨rfl, rfl⟩

theorem minus_any (a b : Int) (w : World) : Calls Tryz.prog 308 #[.int .i64 a, .int .i64 b] w fun e w' => e = .returned (.iface 3 (.int .i64 (wrap64 (a - b)))) ∧ w = w' := by
  go_enter Tryz.func308, Tryz.ntmps308
  go_wp2
  go_ret
  exact ⟨rfl, rfl⟩

end Go.Proofs.YtkceoiaaiaomoaaGreatDoor
end
