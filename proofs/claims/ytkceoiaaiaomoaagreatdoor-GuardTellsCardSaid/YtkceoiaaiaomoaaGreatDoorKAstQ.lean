/- Layer 7: what follows of trees that may be. -/
import Derived.Test.YtkceoiaaiaomoaaGreatDoorKSuch
import Derived.Test.YtkceoiaaiaomoaaGreatDoorKNodes
import Derived.Test.YtkceoiaaiaomoaaGreatDoorKBnd
import Derived.Test.YtkceoiaaiaomoaaGreatDoorKIMay
import Derived.LoopTactic
import Derived.LoopNIn
import Derived.Deep.DeepCutAuto
import Derived.Tactics2
import Derived.MapKept
import Derived.IntWalk
import Derived.WalkKit
import Derived.Lib.Strings
section
set_option linter.unusedVariables false
namespace Go.Proofs.YtkceoiaaiaomoaaGreatDoor
open Go.RowKit Go.Shelf
attribute [local go_sem] Oper.semAt_some

def checkN (x : Tm) : Int := if (x.pre.take 257).all okB then (if 256 < x.nodes then 11 else 0) else 30

theorem all_map_ok {xs : List (Tm × Value)} (h : ∀ p ∈ xs, okB p.1 = true) {l : List Tm} (e : xs.map (·.1) = l) : l.all okB = true := by
  subst e; rw [List.all_eq_true]; intro y hy; obtain ⟨p, hp, rfl⟩ := List.mem_map.1 hy; exact h p hp

set_option maxRecDepth 100000 in
set_option maxHeartbeats 4000000 in
theorem Check_any (x : Tm) (v : Value) (w : World) (hT : TmAt (· < w.heap.size) w x v) (hS : Spans w) :
    Calls Tryz.prog 128 #[v] w fun e w' => e = .returned (.int .i64 (checkN x)) ∧ Below w.heap.size w w' := by
  obtain ⟨kk, nn, s, t, L, A, cap, hx, rfl⟩ : ∃ k' n' s' t' L' A' cap', x = Tm.mk k' n' s' t' L' ∧ v = .agg #[.int .i8 k', .int .i64 n', .string s', .string t', .slice A' L'.length cap'] := by
    cases hT; exact ⟨_, _, _, _, _, _, _, rfl, rfl⟩
  have HX := Lib.hid hx
  clear hx
  obtain ⟨S, hSz⟩ : ∃ S, S = w.heap.size := ⟨_, rfl⟩
  obtain ⟨w3, hw3⟩ : ∃ w3, w3 = ((w.alloc (.cells #[.int .i8 kk, .int .i64 nn, .string s, .string t, .slice A L.length cap] 44)).alloc (.cells #[.int .i64 0] 28)).alloc (.cells #[.int .i64 0] 3) := ⟨_, rfl⟩
  have hs3 : w3.heap.size = w.heap.size + 3 := by rw [hw3]; simp
  have b3 : Below w.heap.size w w3 := by rw [hw3]; exact (((Below.refl _ w).alloc (Nat.le_refl _) _).alloc (by simp) _).alloc (by simp; omega) _
  have r3 : w3.heap[w.heap.size + 1]? = some (.cells #[.int .i64 0] 28) := by
    rw [hw3]
    have := World.alloc_heap_new (w.alloc (.cells #[.int .i8 kk, .int .i64 nn, .string s, .string t, .slice A L.length cap] 44)) (.cells #[.int .i64 0] 28)
    rw [World.size_alloc] at this
    exact (Below.heap_alloc _ _ _ (by simp)).trans this
  have n3 : w3.heap[w.heap.size + 1 + 1]? = some (.cells #[.int .i64 0] 3) := by
    rw [hw3]
    have := World.alloc_heap_new ((w.alloc (.cells #[.int .i8 kk, .int .i64 nn, .string s, .string t, .slice A L.length cap] 44)).alloc (.cells #[.int .i64 0] 28)) (.cells #[.int .i64 0] 3)
    simp only [World.size_alloc] at this
    exact this
  obtain ⟨wL, hwL⟩ : ∃ wL, wL = w3.alloc (.cells #[.int .i8 kk, .int .i64 nn, .string s, .string t, .slice A L.length cap] 44) := ⟨_, rfl⟩
  have hsL : wL.heap.size = w.heap.size + 4 := by rw [hwL]; simp [hs3]
  have bL : Below w.heap.size w wL := by rw [hwL]; exact b3.alloc (by omega) _
  have HRL : Hid (wL.heap[w.heap.size + 1]? = some (.cells #[.int .i64 0] 28)) := by rw [hwL]; exact (Below.heap_alloc _ _ _ (by omega)).trans r3
  have HNL : Hid (wL.heap[w.heap.size + 1 + 1]? = some (.cells #[.int .i64 0] 3)) := by rw [hwL]; exact (Below.heap_alloc _ _ _ (by omega)).trans n3
  have hbt : wL.heap[w.heap.size + 1 + 1 + 1]? = some (.cells #[.int .i8 kk, .int .i64 nn, .string s, .string t, .slice A L.length cap] 44) := by
    rw [hwL]; have := World.alloc_heap_new w3 (.cells #[.int .i8 kk, .int .i64 nn, .string s, .string t, .slice A L.length cap] 44); rwa [hs3] at this
  have hTL : TmAt (· < w.heap.size) wL x _ := hT.under bL (Nat.le_refl _)
  have HSeq := Lib.hid (nodes_seq (3 - 1) w.heap.size (w.heap.size + 1 + 1 + 1) x _ wL hTL (by omega) ⟨_, rfl, hbt⟩)
  have HBL := Lib.hid bL
  have HSL := Lib.hid hsL
  have HS3 := Lib.hid hs3
  clear hTL hbt hsL bL b3 r3 n3 hs3 hT
  refine (callsIn_wide (n := 3)).1 ?_
  refine callsIn_of_wp_marks Tryz.func128 rfl trivial ?_ rfl
  simp only [Tryz.ntmps128, List.size_toArray, List.length_cons, List.length_nil, Nat.reduceAdd, Nat.reduceSub, Array.replicate_succ, Array.replicate_zero, List.push_toArray, List.append_toArray, List.nil_append, List.cons_append]
  gi_wp2_with (refine ⟨trivial, ?_⟩; gi_at_call 198; refine (nodes_in _ _ _).mono ?_; rintro e w' ⟨rfl, rfl⟩)
  rw [← hw3, ← hwL]
  have hSL : Spans wL := hS.below HBL.out hS.lt
  refine range_cells (α := Tm × Value) (gf := 235) (lb := #[.pointer (some ⟨w.heap.size + 1 + 1 + 1, 0, none⟩)]) rfl (enters_of Tryz.func235 (by kernel_rfl) rfl) (fun _ => rfl) HSeq.out (by rw [HSL.out]; omega)
    (fun pre W => ((∀ p ∈ pre, okB p.1 = true) ∧ W.heap[w.heap.size + 1]? = some (.cells #[.int .i64 0] 28 (0, 0)) ∧ W.heap[w.heap.size + 1 + 1]? = some (.cells #[.int .i64 pre.length] 3 (0, 0))) ∧ Below w.heap.size w W)
    (fun c pre W => (c = .ret ∧ (∃ (ini : List (Tm × Value)) (last : Tm × Value), pre = ini ++ [last] ∧ okB last.1 = false) ∧ W.heap[w.heap.size + 1]? = some (.cells #[.int .i64 30] 28 (0, 0))) ∧ Below w.heap.size w W)
    (fun s X Y hb h => ⟨⟨h.1.1, (hb.block _ (by rw [HSL.out]; omega)).trans h.1.2.1, (hb.block _ (by rw [HSL.out]; omega)).trans h.1.2.2⟩, h.2.trans (hb.mono (by rw [HSL.out]; omega))⟩)
    (fun c s X Y hb h => ⟨⟨h.1.1, h.1.2.1, (hb.block _ (by rw [HSL.out]; omega)).trans h.1.2.2⟩, h.2.trans (hb.mono (by rw [HSL.out]; omega))⟩)
    ⟨⟨fun p hp => (by simp at hp), HRL.out, HNL.out⟩, HBL.out⟩
    (fun x a' W => ∃ b c, wL.heap.size + 2 ≤ b ∧ x.2 = .agg c ∧ W.heap[b]? = some (.cells c 44 (0, 0)) ∧ a' = { tmps := #[.agg #[.int .i8 kk, .int .i64 nn, .string s, .string t, .slice A L.length cap], .pointer (some ⟨w.heap.size, 0, none⟩), .pointer (some ⟨w.heap.size + 1, 0, none⟩), .pointer (some ⟨w.heap.size + 1 + 1, 0, none⟩), .pointer (some ⟨b, 0, none⟩),
      .agg #[.int .i8 kk, .int .i64 nn, .string s, .string t, .slice A L.length cap], .func (.func 235) #[] #[.pointer (some ⟨w.heap.size + 1 + 1 + 1, 0, none⟩)], x.2, undef, undef, undef, undef, undef, undef, undef], defers := [] })
    (fun x a' X Y hm h => by obtain ⟨b, c, h1, h2, h3, h4⟩ := h; exact ⟨b, c, h1, h2, (hm.block _ (heap_lt h3) (by omega)).trans h3, h4⟩) ?assign ?body ?done ?stop (by decide)
  case assign =>
    rintro l pre ⟨y, u⟩ W K hi hE hsz hK
    dsimp only at hE
    obtain ⟨k', n', s', t', L', A', cap', hy', rfl⟩ : ∃ k' n' s' t' L' A' cap', y = Tm.mk k' n' s' t' L' ∧ u = .agg #[.int .i8 k', .int .i64 n', .string s', .string t', .slice A' L'.length cap'] := by
      cases hE; exact ⟨_, _, _, _, _, _, _, rfl, rfl⟩
    have HK := Lib.hid (hK _ _ ((Below.refl _ W).alloc (Nat.le_refl _) _) ⟨W.heap.size, _, hsz, rfl, World.alloc_heap_new W _, rfl⟩)
    clear hK hi hy' hE
    gi_wp2
    exact HK.out
  case body =>
    rintro l pre ⟨y, u⟩ a' W ⟨⟨hok, hr, hn⟩, hB⟩ hE ⟨b, c, hb, hu, hbx, rfl⟩ hlen hsz
    dsimp only at hE hu
    have HTy := Lib.hid hE
    obtain ⟨k', n', s', t', L', A', cap', hy', rfl⟩ : ∃ k' n' s' t' L' A' cap', y = Tm.mk k' n' s' t' L' ∧ u = .agg #[.int .i8 k', .int .i64 n', .string s', .string t', .slice A' L'.length cap'] := by
      cases hE; exact ⟨_, _, _, _, _, _, _, rfl, rfl⟩
    simp only [Value.agg.injEq] at hu
    subst hu
    clear hy' hE
    have d0 : W.cell? ⟨b, 0, none⟩ = some (.int .i8 k') := cell_of_row hbx rfl
    have d1 : W.cell? ⟨b, 1, none⟩ = some (.int .i64 n') := cell_of_row hbx rfl
    have d2 : W.cell? ⟨b, 2, none⟩ = some (.string s') := cell_of_row hbx rfl
    have d3 : W.cell? ⟨b, 3, none⟩ = some (.string t') := cell_of_row hbx rfl
    have d4 : W.cell? ⟨b, 4, none⟩ = some (.slice A' L'.length cap') := cell_of_row hbx rfl
    have hSW : Spans W := hS.below hB hS.lt
    have HC := Lib.hid (such_any (P := (· < w.heap.size)) (HTy.out.keep (w' := W) (fun q hq => (hB.block q hq).trans (HBL.out.block q hq).symm) (fun _ h => h)) hSW)
    have HB := Lib.hid hB
    have HR := Lib.hid hr
    have HN := Lib.hid hn
    have HOK := Lib.hid hok
    clear hB hr hn hok hbx
    gi_wp2_with fail
    refine ⟨trivial, (CallsIn.inRound l (callsIn_wide.2 HC.out)).mono ?_⟩
    clear d0 d1 d2 d3 d4
    rintro e W1 ⟨rfl, b1⟩
    have B1 := HB.out.trans (b1.mono HB.out.size)
    have hr1 : W1.heap[w.heap.size + 1]? = _ := (b1.block _ (heap_lt HR.out)).trans HR.out
    have hn1 : W1.heap[w.heap.size + 1 + 1]? = _ := (b1.block _ (heap_lt HN.out)).trans HN.out
    have HM1 := Lib.hid (Mod.of_below (F := fun k => w.heap.size ≤ k ∧ k < wL.heap.size) b1)
    have HBB := Lib.hid B1
    have HSL' := HSL.out
    have f1 : W1.frozen? ⟨w.heap.size + 1, 0, none⟩ = false := free_of_row hr1
    have f2 : W1.frozen? ⟨w.heap.size + 1 + 1, 0, none⟩ = false := free_of_row hn1
    have c1 : W1.cell? ⟨w.heap.size + 1, 0, none⟩ = some (.int .i64 0) := cell_of_row hr1 rfl
    have c2 : W1.cell? ⟨w.heap.size + 1 + 1, 0, none⟩ = some (.int .i64 pre.length) := cell_of_row hn1 rfl
    have HR1 := Lib.hid hr1
    have HN1 := Lib.hid hn1
    have hlen' : pre.length < 257 := hlen
    have HSS := Lib.hid HSL'
    clear b1 B1 hr1 hn1 HSL' hlen hsz hb
    cases hk : okB y
    · gi_wp2
      refine ⟨HM1.out.trans (Mod.setCell _ _ _ (.inl (by have := HSS.out; dsimp only; omega))) (fun _ _ h => h), ⟨rfl, ⟨pre, _, rfl, hk⟩, set_row _ HR1.out⟩, HBB.out.setCell (by dsimp only; omega) _⟩
    · gi_wp2
      refine ⟨HM1.out.trans (Mod.setCell _ _ _ (.inl (by have := HSS.out; dsimp only; omega))) (fun _ _ h => h), ⟨fun p hp => ?_, ?_, ?_⟩, HBB.out.setCell (by dsimp only; omega) _⟩
      · rcases List.mem_append.1 hp with hp | hp
        · exact HOK.out p hp
        · simp at hp; subst hp; exact hk
      · exact (Below.heap_setCell _ _ _ _ (by simp)).trans HR1.out
      · have e : ((pre ++ [(y, Value.agg #[.int .i8 k', .int .i64 n', .string s', .string t', .slice A' L'.length cap'])]).length : Int) = (pre.length : Int) + 1 := by simp
        rw [e]
        exact set_row _ HN1.out
  case done =>
    rintro xs W hxs ⟨⟨hok, hr, hn⟩, hB⟩ hK
    have hlen : xs.length = min 257 x.nodes := by rw [← List.length_map (f := (·.1)), hxs, List.length_take]; rfl
    have hall := all_map_ok hok hxs
    have c1 : W.cell? ⟨w.heap.size + 1, 0, none⟩ = some (.int .i64 0) := cell_of_row hr rfl
    have f1 : W.frozen? ⟨w.heap.size + 1, 0, none⟩ = false := free_of_row hr
    have c2 : W.cell? ⟨w.heap.size + 1 + 1, 0, none⟩ = some (.int .i64 xs.length) := cell_of_row hn rfl
    have HR := Lib.hid hr
    have HB := Lib.hid hB
    have HK := Lib.hid hK
    have HLE := Lib.hid hlen
    have HAL := Lib.hid hall
    clear hr hn hB hK hok hxs hlen hall
    have fin : ∀ z : Int, z = checkN x → ∀ V, V = (W.setCell ⟨w.heap.size + 1, 0, none⟩ (.int .i64 z)).putObj wL.heap.size (.deferred none) → V.cell? ⟨w.heap.size + 1, 0, none⟩ = some (.int .i64 (checkN x)) ∧ Below w.heap.size w V := by
      rintro z rfl V rfl
      have h1 := set_row (.int .i64 (checkN x)) (i := 0) HR.out
      have hD : wL.heap.size < W.heap.size := heap_lt HK.out
      refine ⟨?_, ?_⟩
      · exact cell_of_row ((World.putObj_heap_other (by rw [HSL.out]; omega)).trans h1) rfl
      · exact (HB.out.setCell (by dsimp only; omega) _).trans ((Mod.putObj (F := fun k => k = wL.heap.size) _ _ _ rfl).below (by simp [World.setCell]; have := HSL.out; omega) (fun k (e : k = wL.heap.size) => by have := HSL.out; omega))
    have HF := Lib.hid fin
    clear fin
    by_cases hgt : 256 < xs.length
    · gi_wp2
      refine ⟨by simp, .inl ⟨_, _, rfl, run_takeDeferred ((KeepsOthers.setCell W _ _).same _ _ HK.out rfl), ?_⟩⟩
      obtain ⟨h5, h6⟩ := HF.out 11 (by unfold checkN; rw [if_pos HAL.out, if_pos (by have := HLE.out; omega)]) _ rfl
      exact ⟨_, by simp [results, Tryz.f128, go_sem, h5], rfl, h6⟩
    · gi_wp2
      refine ⟨by simp, .inl ⟨_, _, rfl, run_takeDeferred ((KeepsOthers.setCell W _ _).same _ _ HK.out rfl), ?_⟩⟩
      obtain ⟨h5, h6⟩ := HF.out 0 (by unfold checkN; rw [if_pos HAL.out, if_neg (by have := HLE.out; omega)]) _ rfl
      exact ⟨_, by simp [results, Tryz.f128, go_sem, h5], rfl, h6⟩
  case stop =>
    rintro c pre W ⟨k, hk, hkl⟩ ⟨⟨rfl, ⟨ini, last, e1, e2⟩, hr⟩, hB⟩ hK
    have hbad : checkN x = 30 := by
      unfold checkN
      rw [if_neg]
      intro hall
      have hmem : last.1 ∈ x.pre.take k := by rw [← hk, e1]; simp
      have hk257 : last.1 ∈ x.pre.take 257 := by
        have hkl' : (x.pre.take k).length ≤ 257 := by rw [← hk, List.length_map]; exact hkl
        rw [List.length_take] at hkl'
        by_cases h : k ≤ 257
        · exact List.take_subset_take_left _ h hmem
        · rw [List.take_of_length_le (by omega)]; exact List.mem_of_mem_take hmem
      have := List.all_eq_true.1 hall _ hk257
      rw [e2] at this; cases this
    gi_wp2
    refine ⟨by simp, .inl ⟨_, _, rfl, run_takeDeferred hK, ?_⟩⟩
    have h5 : (W.putObj wL.heap.size (.deferred none)).cell? ⟨w.heap.size + 1, 0, none⟩ = some (.int .i64 30) := cell_of_row ((World.putObj_heap_other (by rw [HSL.out]; omega)).trans hr) rfl
    refine ⟨.int .i64 30, by simp [results, Tryz.f128, go_sem, h5], ret_int hbad.symm, ?_⟩
    exact hB.trans ((Mod.putObj (F := fun k => k = wL.heap.size) _ _ _ rfl).below (by have := heap_lt hK; have := HSL.out; omega) (fun k (e : k = wL.heap.size) => by have := HSL.out; omega))
end Go.Proofs.YtkceoiaaiaomoaaGreatDoor
end
section
set_option linter.unusedVariables false
set_option linter.unusedSimpArgs false
namespace Go.Proofs.YtkceoiaaiaomoaaGreatDoor
open Go.RowKit

def mayL (l : List Bd) : Bool := l.all fun b => checkN b.2 == 0
theorem mayOne_any (s : ByteArray) (t : Tm) (k n : Int) (ts tt : ByteArray) (A : Option Addr) (m c : Nat) (w : World) (hT : TmAt (· < w.heap.size) w t (.agg #[.int .i8 k, .int .i64 n, .string ts, .string tt, .slice A m c])) (hS : Spans w) :
    Calls Tryz.prog 157 #[.agg #[.string s, .int .i8 k, .int .i64 n, .string ts, .string tt, .slice A m c]] w fun e w' => e = .returned (.bool (checkN t == 0)) ∧ Below w.heap.size w w' := by
  obtain ⟨w1, hw1⟩ : ∃ w1, w1 = w.alloc (.cells #[.string s, .int .i8 k, .int .i64 n, .string ts, .string tt, .slice A m c] 61) := ⟨_, rfl⟩
  have hb1 : Below w.heap.size w w1 := by rw [hw1]; exact (Below.refl _ w).alloc (Nat.le_refl _) _
  have hg1 : w1.heap[w.heap.size]? = some (.cells #[.string s, .int .i8 k, .int .i64 n, .string ts, .string tt, .slice A m c] 61 (0, 0)) := by rw [hw1]; exact block_alloc _ _
  have HC := Lib.hid (Check_any t _ w1 (hT.keep (fun b hb => hb1.block b hb) (fun b hb => Nat.lt_of_lt_of_le hb hb1.size)) (hS.below hb1 hS.lt))
  have HB1 := Lib.hid hb1
  have x1 : w1.cell? ⟨w.heap.size, 1, none⟩ = some (.int .i8 k) := cell_of_row (i := 1) hg1 rfl
  have x2 : w1.cell? ⟨w.heap.size, 2, none⟩ = some (.int .i64 n) := cell_of_row (i := 2) hg1 rfl
  have x3 : w1.cell? ⟨w.heap.size, 3, none⟩ = some (.string ts) := cell_of_row (i := 3) hg1 rfl
  have x4 : w1.cell? ⟨w.heap.size, 4, none⟩ = some (.string tt) := cell_of_row (i := 4) hg1 rfl
  have x5 : w1.cell? ⟨w.heap.size, 5, none⟩ = some (.slice A m c) := cell_of_row (i := 5) hg1 rfl
  clear hb1 hg1 hT hS
  go_enter Tryz.func157, Tryz.ntmps157
  go_upto_region 1 with fail
  rw [← hw1]
  clear hw1
  go_wp2_with fail
  refine HC.out.mono ?_
  rintro e w2 ⟨rfl, b2⟩
  go_wp2_with fail
  go_ret
  exact ⟨rfl, HB1.out.trans (b2.mono HB1.out.size)⟩
set_option maxHeartbeats 1000000 in
theorem eachOne_any (s : ByteArray) (t : Tm) (k n : Int) (ts tt : ByteArray) (A : Option Addr) (m c : Nat) (g : Nat) (w : World) (hT : TmAt (· < w.heap.size) w t (.agg #[.int .i8 k, .int .i64 n, .string ts, .string tt, .slice A m c])) (hS : Spans w)
    (hg : w.cell? ⟨g, 0, none⟩ = some (.func (.func 157) #[] #[])) :
    Calls Tryz.prog 211 #[.agg #[.string s, .int .i8 k, .int .i64 n, .string ts, .string tt, .slice A m c], .pointer (some ⟨g, 0, none⟩)] w fun e w' => e = .returned (.bool (!(checkN t == 0))) ∧ Below w.heap.size w w' := by
  obtain ⟨w1, hw1⟩ : ∃ w1, w1 = w.alloc (.cells #[.string s, .int .i8 k, .int .i64 n, .string ts, .string tt, .slice A m c] 61) := ⟨_, rfl⟩
  have hb1 : Below w.heap.size w w1 := by rw [hw1]; exact (Below.refl _ w).alloc (Nat.le_refl _) _
  have hg1 : w1.heap[w.heap.size]? = some (.cells #[.string s, .int .i8 k, .int .i64 n, .string ts, .string tt, .slice A m c] 61 (0, 0)) := by rw [hw1]; exact block_alloc _ _
  have HC := Lib.hid (mayOne_any s t k n ts tt A m c w1 (hT.keep (fun b hb => hb1.block b hb) (fun b hb => Nat.lt_of_lt_of_le hb hb1.size)) (hS.below hb1 hS.lt))
  have HB1 := Lib.hid hb1
  have x0 : w1.cell? ⟨w.heap.size, 0, none⟩ = some (.string s) := cell_of_row (i := 0) hg1 rfl
  have x1 : w1.cell? ⟨w.heap.size, 1, none⟩ = some (.int .i8 k) := cell_of_row (i := 1) hg1 rfl
  have x2 : w1.cell? ⟨w.heap.size, 2, none⟩ = some (.int .i64 n) := cell_of_row (i := 2) hg1 rfl
  have x3 : w1.cell? ⟨w.heap.size, 3, none⟩ = some (.string ts) := cell_of_row (i := 3) hg1 rfl
  have x4 : w1.cell? ⟨w.heap.size, 4, none⟩ = some (.string tt) := cell_of_row (i := 4) hg1 rfl
  have x5 : w1.cell? ⟨w.heap.size, 5, none⟩ = some (.slice A m c) := cell_of_row (i := 5) hg1 rfl
  have xg : w1.cell? ⟨g, 0, none⟩ = some (.func (.func 157) #[] #[]) := (World.cell?_of_block (w := w) (a := ⟨g, 0, none⟩) (hb1.block g (World.block_lt_of_cell? w _ hg))).trans hg
  clear hb1 hg1 hT hS hg
  go_enter Tryz.func211, Tryz.ntmps211
  go_upto_region 1 with fail
  rw [← hw1]
  clear hw1
  go_wp2_with fail
  refine HC.out.mono ?_
  rintro e w2 ⟨rfl, b2⟩
  go_wp2_with fail
  go_ret
  exact ⟨rfl, HB1.out.trans (b2.mono HB1.out.size)⟩
set_option maxHeartbeats 2000000 in
set_option maxRecDepth 100000 in
theorem idx11_any (l : List Bd) (A : Option Addr) (cap g : Nat) (w : World) (hR : BRow (· < w.heap.size) w A l.length cap l) (hS : Spans w) (hg : w.cell? ⟨g, 0, none⟩ = some (.func (.func 157) #[] #[])) :
    Calls Tryz.prog 195 #[.slice A l.length cap, .func (.func 211) #[] #[.pointer (some ⟨g, 0, none⟩)]] w
      fun e w' => (∃ r : Int, e = .returned (.int .i64 r) ∧ decide (0 ≤ r) = !mayL l) ∧ Below w.heap.size w w' := by
  have hmax := hR.max
  unfold maxLen at hmax
  have HR := Lib.hid hR
  have HS := Lib.hid hS
  have HG := Lib.hid hg
  clear hR hS hg
  go_enter Tryz.func195, Tryz.ntmps195
  go_wp2_with fail
  go_loopw [8] (fun i wr => ∃ j : Nat, j ≤ l.length ∧ i = .int .i64 j ∧ Hid (mayL (l.take j) = true) ∧ Hid (Below w.heap.size w wr)) (fun i _ => l.length - (intOf i).toNat)
  case atStart => exact ⟨0, Nat.zero_le _, rfl, Lib.hid (by simp [mayL]), Lib.hid (Below.refl _ _)⟩
  case round =>
    obtain ⟨j, hj, rfl, HM, HB⟩ := hrel
    by_cases hlt : j < l.length
    · obtain ⟨y, hy⟩ : ∃ y, l[j]? = some y := ⟨l[j], List.getElem?_eq_getElem hlt⟩
      obtain ⟨ad, u, rfl, had, hsz, hE, hTy⟩ := HR.out.at_ j y hy
      have hEr := hE.keep (HB.out.block ad.block had)
      have hTr := hTy.keep (Q := (· < wr.heap.size)) (w' := wr) (fun b hb => HB.out.block b hb) (fun b hb => Nat.lt_of_lt_of_le hb HB.out.size)
      obtain ⟨s, t⟩ := y
      obtain ⟨k, n, ts, tt, L, hte⟩ : ∃ k n ts tt L, t = Tm.mk k n ts tt L := by cases t; exact ⟨_, _, _, _, _, rfl⟩
      obtain ⟨TA, tc, rfl, -⟩ := (by rw [← hte]; exact hTr : TmAt _ wr (Tm.mk k n ts tt L) u).parts
      have HT := Lib.hid hTr
      obtain ⟨c0, c1, c2, c3, c4, hcc, es, e0, e1, e2, e3, e4⟩ := hEr
      simp only [Value.agg.injEq, Array.mk.injEq, List.cons.injEq, and_true] at hcc
      obtain ⟨rfl, rfl, rfl, rfl, rfl⟩ := hcc
      have HC := Lib.hid (eachOne_any s t k n ts tt TA L.length tc g wr HT.out (HS.out.below HB.out HS.out.lt) ((World.cell?_of_block (w := w) (a := ⟨g, 0, none⟩) (HB.out.block g (World.block_lt_of_cell? w _ HG.out))).trans HG.out))
      have HY := Lib.hid hy
      clear hE hTy hTr hy had hte hsz
      go_wp2_with fail
      refine HC.out.mono ?_
      rintro e w2 ⟨rfl, b2⟩
      have HB2 := Lib.hid (HB.out.trans (b2.mono HB.out.size))
      clear b2 es e0 e1 e2 e3 e4
      cases hc : (checkN t == 0)
      · go_wp2_with fail
        go_ret
        refine ⟨⟨_, rfl, ?_⟩, HB2.out⟩
        have hm : mayL l = false := by
          unfold mayL
          rw [List.all_eq_false]
          exact ⟨(s, t), List.mem_of_getElem? HY.out, by simp [hc]⟩
        rw [hm]
        simp
      · go_wp2_with fail
        go_roundw
        case rel =>
          refine ⟨j + 1, by omega, by go_num, Lib.hid ?_, HB2⟩
          have hm := HM.out
          unfold mayL at hm ⊢
          rw [List.take_add_one, HY.out, List.all_append, hm]
          simp [hc]
        case measure => simp [intOf]; omega
    · obtain rfl : j = l.length := by omega
      go_wp2_with fail
      go_ret
      refine ⟨⟨_, rfl, ?_⟩, HB.out⟩
      have hm := HM.out
      rw [List.take_length] at hm
      rw [hm]
      rfl
set_option maxHeartbeats 1000000 in
set_option maxRecDepth 100000 in
theorem has11_any (l : List Bd) (A : Option Addr) (cap g : Nat) (w : World) (hR : BRow (· < w.heap.size) w A l.length cap l) (hS : Spans w) (hg : w.cell? ⟨g, 0, none⟩ = some (.func (.func 157) #[] #[])) :
    Calls Tryz.prog 125 #[.slice A l.length cap, .func (.func 211) #[] #[.pointer (some ⟨g, 0, none⟩)]] w
      fun e w' => e = .returned (.bool (!mayL l)) ∧ Below w.heap.size w w' := by
  have HC := Lib.hid (idx11_any l A cap g w hR hS hg)
  clear hR hS hg
  go_enter Tryz.func125, Tryz.ntmps125
  go_wp2_with fail
  refine HC.out.mono ?_
  rintro e w2 ⟨⟨r, rfl, hr⟩, b2⟩
  have HR := Lib.hid hr
  clear hr
  go_wp2_with fail
  go_ret
  exact ⟨ret_bool HR.out, b2⟩
set_option maxHeartbeats 1000000 in
set_option maxRecDepth 100000 in
theorem each11_any (l : List Bd) (A : Option Addr) (cap : Nat) (w : World) (hR : BRow (· < w.heap.size) w A l.length cap l) (hS : Spans w) :
    Calls Tryz.prog 156 #[.slice A l.length cap, .func (.func 157) #[] #[]] w
      fun e w' => e = .returned (.bool (mayL l)) ∧ Below w.heap.size w w' := by
  obtain ⟨w1, hw1⟩ : ∃ w1, w1 = w.alloc (.cells #[.func (.func 157) #[] #[]] 107) := ⟨_, rfl⟩
  have hb1 : Below w.heap.size w w1 := by rw [hw1]; exact (Below.refl _ w).alloc (Nat.le_refl _) _
  have hg1 : w1.heap[w.heap.size]? = some (.cells #[.func (.func 157) #[] #[]] 107 (0, 0)) := by rw [hw1]; exact block_alloc _ _
  have HC := Lib.hid (has11_any l A cap w.heap.size w1 (hR.later hb1) (hS.below hb1 hS.lt) (cell_of_row (i := 0) hg1 rfl))
  have HB1 := Lib.hid hb1
  clear hR hS hb1 hg1
  go_enter Tryz.func156, Tryz.ntmps156
  go_upto_region 1 with fail
  rw [← hw1]
  clear hw1
  go_wp2_with fail
  refine HC.out.mono ?_
  rintro e w2 ⟨rfl, b2⟩
  go_wp2_with fail
  go_ret
  exact ⟨by simp, HB1.out.trans (b2.mono HB1.out.size)⟩
set_option maxHeartbeats 1000000 in
theorem may11_any (l : List Bd) (A : Option Addr) (n cap : Nat) (w : World) (hR : BRow (· < w.heap.size) w A n cap l) (hS : Spans w) :
    Calls Tryz.prog 96 #[.slice A n cap] w fun e w' => e = .returned (.bool (mayL l)) ∧ Below w.heap.size w w' := by
  obtain rfl := hR.len
  have HC := Lib.hid (each11_any l A cap w hR hS)
  clear hR hS
  go_enter Tryz.func96, Tryz.ntmps96
  go_wp2_with fail
  refine HC.out.mono ?_
  rintro e w2 ⟨rfl, b2⟩
  go_wp2_with fail
  go_ret
  exact ⟨rfl, b2⟩
end Go.Proofs.YtkceoiaaiaomoaaGreatDoor
end
section
set_option linter.unusedVariables false
set_option linter.unusedSimpArgs false
namespace Go.Proofs.YtkceoiaaiaomoaaGreatDoor
open Go.RowKit

structure MapT (es : Array MapEntry) (f : ByteArray → Option Value) : Prop where
  key : ∀ (i : Nat) x, es.toList[i]? = some x → ∃ s, x.key = .string s
  get : ∀ s v, f s = some v ↔ ∃ (i : Nat) (x : MapEntry), es.toList[i]? = some x ∧ x.key = .string s ∧ x.val = v
  once : ∀ (i j : Nat) x y, es.toList[i]? = some x → es.toList[j]? = some y → x.key = y.key → i = j
theorem MapT.nil : MapT #[] (fun _ => none) := ⟨by simp, by simp, by simp⟩
theorem MapT.ext {es : Array MapEntry} {f g : ByteArray → Option Value} (h : MapT es f) (e : ∀ s, g s = f s) : MapT es g := ⟨h.key, fun s v => by rw [e]; exact h.get s v, h.once⟩
theorem MapT.keys {es : Array MapEntry} {f : ByteArray → Option Value} (h : MapT es f) : ∀ x ∈ es.toList, MapKept.IsKey .string x.key := fun x hx => by
  obtain ⟨i, hi⟩ := List.mem_iff_getElem?.1 hx
  obtain ⟨s, e⟩ := h.key i x hi
  rw [e]; simp [MapKept.IsKey]
theorem MapT.find {es : Array MapEntry} {f : ByteArray → Option Value} (h : MapT es f) (s : ByteArray) :
    (Instr.findNow .string (.string s) es.toList 0 = some none ∧ f s = none) ∨ ∃ (j : Nat) (e : MapEntry), Instr.findNow .string (.string s) es.toList 0 = some (some (j, e.val)) ∧ es.toList[j]? = some e ∧ e.key = .string s ∧ f s = some e.val := by
  have hkey : MapKept.IsKey .string (.string s) := by simp [MapKept.IsKey]
  rcases MapKept.findNow_spec hkey es.toList 0 h.keys with ⟨h1, h2⟩ | ⟨j, e, h1, h2, h3⟩
  · refine .inl ⟨h1, ?_⟩
    cases hf : f s with
    | none => rfl
    | some v =>
      obtain ⟨i, x, hi, hk, _⟩ := (h.get s v).1 hf
      exact absurd hk (h2 x (List.mem_of_getElem? hi))
  · exact .inr ⟨j, e, by simpa using h1, h2, h3, (h.get s e.val).2 ⟨j, e, h2, h3, rfl⟩⟩
section
variable {P : Program} {t k e : TypeId}
theorem MapT.hit {es : Array MapEntry} {f : ByteArray → Option Value} (h : MapT es f) (ht : P.underlying t = some (.map k e)) (hk : P.underlying k = some .string) (w : World) (mb c : Nat) (hb : w.heap[mb]? = some (.map es c)) {s : ByteArray} {v : Value} (hf : f s = some v) :
    (Instr.lookup t (.map (some mb)) (.string s) true).run P w = .ok (.tuple #[v, .bool true]) w := by
  have hkey : MapKept.IsKey .string (.string s) := by simp [MapKept.IsKey]
  rcases h.find s with ⟨_, h2⟩ | ⟨j, x, h1, _, _, h2⟩
  · rw [hf] at h2; cases h2
  · rw [hf] at h2; cases h2
    simp [Instr.lookup, run_underlying ht, MapKept.run_getObj_map hb, MapKept.run_checkKey hk hkey, MapKept.run_findKey hk h1, Result.andThen]
theorem MapT.miss {es : Array MapEntry} {f : ByteArray → Option Value} (h : MapT es f) (ht : P.underlying t = some (.map k e)) (hk : P.underlying k = some .string) (w : World) (mb c : Nat) (hb : w.heap[mb]? = some (.map es c)) {z : Value} (hz : ∀ w, (zeroValue e).run P w = .ok z w) {s : ByteArray} (hf : f s = none) :
    (Instr.lookup t (.map (some mb)) (.string s) true).run P w = .ok (.tuple #[z, .bool false]) w := by
  have hkey : MapKept.IsKey .string (.string s) := by simp [MapKept.IsKey]
  rcases h.find s with ⟨h1, _⟩ | ⟨j, x, _, _, _, h2⟩
  · simp [Instr.lookup, run_underlying ht, MapKept.run_getObj_map hb, MapKept.run_checkKey hk hkey, MapKept.run_findKey hk h1, hz, Result.andThen]
  · rw [hf] at h2; cases h2
theorem MapT.put {es : Array MapEntry} {f : ByteArray → Option Value} (h : MapT es f) (ht : P.underlying t = some (.map k e)) (hk : P.underlying k = some .string) (w : World) (mb c : Nat) (hb : w.heap[mb]? = some (.map es c)) (s : ByteArray) (v : Value) :
    ∃ es2 c2, (Instr.mapUpdate t (.map (some mb)) (.string s) v).run P w = .ok () (w.putObj mb (.map es2 c2)) ∧ MapT es2 (fun t => if t = s then some v else f t) := by
  have hkey : MapKept.IsKey .string (.string s) := by simp [MapKept.IsKey]
  rcases h.find s with ⟨h1, h2⟩ | ⟨j, x, h1, hj, hxk, h2⟩
  · refine ⟨es.push ⟨.string s, v, c⟩, c + 1, ?_, ?_, ?_, ?_⟩
    · simp [Instr.mapUpdate, run_underlying ht, MapKept.run_getObj_map hb, MapKept.run_checkKey hk hkey, MapKept.run_findKey hk h1, MapKept.run_setObj_map _ hb, Result.andThen]
      rfl
    · intro i x hx
      rw [Array.toList_push, List.getElem?_append] at hx
      split at hx
      · exact h.key i x hx
      · have := List.mem_of_getElem? hx
        rw [List.mem_singleton] at this
        exact ⟨s, by rw [this]⟩
    · intro t' v'
      have hne : ∀ (i : Nat) y, es.toList[i]? = some y → y.key ≠ .string s := fun i y hy hk' => by
        have := (h.get s y.val).2 ⟨i, y, hy, hk', rfl⟩
        rw [h2] at this; cases this
      constructor
      · intro hg
        by_cases e1 : t' = s
        · rw [if_pos e1] at hg
          cases hg
          exact ⟨es.toList.length, ⟨.string s, v, c⟩, by rw [Array.toList_push, List.getElem?_append_right (Nat.le_refl _)]; simp, by rw [e1], rfl⟩
        · rw [if_neg e1] at hg
          obtain ⟨i, y, hi, q1, q2⟩ := (h.get t' v').1 hg
          exact ⟨i, y, by rw [Array.toList_push, List.getElem?_append_left (List.getElem?_eq_some_iff.1 hi).1]; exact hi, q1, q2⟩
      · rintro ⟨i, y, hi, q1, q2⟩
        rw [Array.toList_push, List.getElem?_append] at hi
        split at hi
        · have e1 : t' ≠ s := fun e1 => hne i y hi (by rw [q1, e1])
          rw [if_neg e1]
          exact (h.get t' v').2 ⟨i, y, hi, q1, q2⟩
        · have := List.mem_of_getElem? hi
          rw [List.mem_singleton] at this
          subst this
          simp only [Value.string.injEq] at q1
          rw [if_pos q1.symm, ← q2]
    · intro i1 i2 x y hx hy hxy
      have hne : ∀ (i : Nat) y, es.toList[i]? = some y → y.key ≠ .string s := fun i y hy hk' => by
        have := (h.get s y.val).2 ⟨i, y, hy, hk', rfl⟩
        rw [h2] at this; cases this
      have hcase : ∀ (i : Nat) (z : MapEntry), (es.push ⟨.string s, v, c⟩).toList[i]? = some z → es.toList[i]? = some z ∨ (i = es.toList.length ∧ z.key = .string s) := fun i z hz => by
        rw [Array.toList_push, List.getElem?_append] at hz
        split at hz
        · exact .inl hz
        · have h9 := (List.getElem?_eq_some_iff.1 hz).1
          have := List.mem_of_getElem? hz
          rw [List.mem_singleton] at this
          exact .inr ⟨by simp only [List.length_cons, List.length_nil] at h9; omega, by rw [this]⟩
      rcases hcase i1 x hx with hx | ⟨q1, q2⟩ <;> rcases hcase i2 y hy with hy | ⟨r1, r2⟩
      · exact h.once i1 i2 x y hx hy hxy
      · exact absurd (hxy.trans r2) (hne i1 x hx)
      · exact absurd (hxy.symm.trans q2) (hne i2 y hy)
      · rw [q1, r1]
  · have hja : es[j]? = some x := by simpa using hj
    have hmod : ∀ i : Nat, (es.modify j (fun e' => { e' with key := .string s, val := v })).toList[i]? = if j = i then (es.toList[i]?).map (fun e' => { e' with key := .string s, val := v }) else es.toList[i]? := fun i => by
      rw [Array.toList_modify, List.getElem?_modify]
      split
      · rfl
      · cases es.toList[i]? <;> rfl
    refine ⟨es.modify j (fun e' => { e' with key := .string s, val := v }), c, ?_, ?_, ?_, ?_⟩
    · simp [Instr.mapUpdate, run_underlying ht, MapKept.run_getObj_map hb, MapKept.run_checkKey hk hkey, MapKept.run_findKey hk h1, hja, hxk, MapKept.run_keyThatStays hkey, MapKept.run_setObj_map _ hb, Result.andThen]
      rfl
    · intro i y hy
      rw [hmod] at hy
      split at hy
      · cases hq : es.toList[i]? with
        | none => rw [hq] at hy; cases hy
        | some q => rw [hq] at hy; simp at hy; exact ⟨s, by rw [← hy]⟩
      · exact h.key i y hy
    · intro t' v'
      constructor
      · intro hg
        by_cases e1 : t' = s
        · rw [if_pos e1] at hg
          cases hg
          exact ⟨j, { x with key := .string s, val := v }, by rw [hmod, if_pos rfl, hj]; rfl, by rw [e1], rfl⟩
        · rw [if_neg e1] at hg
          obtain ⟨i, y, hi, q1, q2⟩ := (h.get t' v').1 hg
          have hij : j ≠ i := fun e2 => by
            subst e2
            rw [hj] at hi; cases hi
            rw [hxk] at q1; simp only [Value.string.injEq] at q1
            exact e1 q1.symm
          exact ⟨i, y, by rw [hmod, if_neg hij]; exact hi, q1, q2⟩
      · rintro ⟨i, y, hi, q1, q2⟩
        rw [hmod] at hi
        by_cases hij : j = i
        · subst hij
          rw [if_pos rfl, hj] at hi
          simp at hi
          subst hi
          simp only [Value.string.injEq] at q1
          rw [if_pos q1.symm, ← q2]
        · rw [if_neg hij] at hi
          have e1 : t' ≠ s := fun e1 => hij (h.once j i x y hj hi (by rw [hxk, q1, e1]))
          rw [if_neg e1]
          exact (h.get t' v').2 ⟨i, y, hi, q1, q2⟩
    · intro i1 i2 a b ha hb' hab
      have hcase : ∀ (i : Nat) (z : MapEntry), (es.modify j (fun e' => { e' with key := .string s, val := v })).toList[i]? = some z → ∃ z', es.toList[i]? = some z' ∧ z'.key = z.key := fun i z hz => by
        rw [hmod] at hz
        by_cases hij : j = i
        · subst hij
          rw [if_pos rfl, hj] at hz
          simp at hz
          exact ⟨x, hj, by rw [← hz]; exact hxk⟩
        · rw [if_neg hij] at hz
          exact ⟨z, hz, rfl⟩
      obtain ⟨a', ha1, ha2⟩ := hcase i1 a ha
      obtain ⟨b', hb1, hb2⟩ := hcase i2 b hb'
      exact h.once i1 i2 a' b' ha1 hb1 (by rw [ha2, hb2, hab])
end
end Go.Proofs.YtkceoiaaiaomoaaGreatDoor
end
section
set_option linter.unusedVariables false
namespace Go.Proofs.YtkceoiaaiaomoaaGreatDoor
open Go.RowKit

def letB (c : Int) : Bool := decide (kindN c ≠ 0)
theorem letB_iff (c : Int) : letB c = true ↔ ((97 ≤ c ∧ c ≤ 122) ∨ (65 ≤ c ∧ c ≤ 90) ∨ (48 ≤ c ∧ c ≤ 57) ∨ c = 95) := by
  unfold letB kindN
  rw [decide_eq_true_eq]
  split <;> (try split) <;> (try split) <;> (try split) <;> omega

theorem letter_any (c : Int) (w : World) : Calls Tryz.prog 200 #[.int .u8 c] w fun e w' => e = .returned (.bool (letB c)) ∧ w = w' := by
  go_enter Tryz.func200, Tryz.ntmps200
  go_wp2
  all_goals
    go_ret
    refine ⟨ret_bool ?_, rfl⟩
    rw [Bool.eq_iff_iff, letB_iff]
    first | (simp; done) | (simp; omega)

set_option maxHeartbeats 1000000 in
theorem rPrefix_any (s : ByteArray) (w : World) (hs : s.size ≤ maxLen) :
    Calls Tryz.prog 129 #[.string s] w fun e w' => e = .returned (.int .i64 (prefN s)) ∧ w = w' := by
  unfold maxLen at hs
  go_enter Tryz.func129, Tryz.ntmps129
  go_wp2
  go_loop [3] (fun i => ∃ k : Nat, k ≤ s.size ∧ i = .int .i64 k ∧ Hid (∀ j, j < k → kd s j ≠ 0)) (fun i => s.size - (intOf i).toNat)
  case atStart => exact ⟨0, Nat.zero_le _, rfl, fun j h => by omega⟩
  case round =>
    obtain ⟨k, hk, rfl, hd⟩ := hrel
    by_cases hlt : k < s.size
    · have hkd := kd_at s k hlt
      cases hb : letB ((s[k]).toNat : Int)
      · have hz : Hid (kd s k = 0) := by
          show _ = _
          unfold letB at hb
          rw [← hkd]
          simpa using hb
        clear hkd
        go_wp2_with (go_at_call 200; refine (letter_any _ _).mono ?_; rintro e w' ⟨rfl, rfl⟩)
        go_ret
        exact ⟨ret_int (by rw [prefN_eq s k hk hd.out (.inr ⟨hlt, hz.out⟩)]), rfl⟩
      · have hz : Hid (kd s k ≠ 0) := by
          show _ ≠ _
          unfold letB at hb
          rw [← hkd]
          simpa using hb
        clear hkd
        go_wp2_with (go_at_call 200; refine (letter_any _ _).mono ?_; rintro e w' ⟨rfl, rfl⟩)
        go_round
        case rel => exact ⟨k + 1, by omega, by go_num, fun j hj => by
          by_cases e : j = k
          · subst e; exact hz.out
          · exact hd.out j (by omega)⟩
        case measure => simp [intOf]; omega
    · go_wp2
      go_ret
      exact ⟨ret_int (by rw [prefN_eq s k hk hd.out (.inl (by omega))]), rfl⟩

theorem kindN2 (c : Int) : kindN c = 2 ↔ 97 ≤ c ∧ c ≤ 122 := by
  unfold kindN
  split <;> (try split) <;> (try split) <;> (try split) <;> omega
theorem kindN3 (c : Int) : kindN c = 3 ↔ (65 ≤ c ∧ c ≤ 90) ∨ c = 95 := by
  unfold kindN
  split <;> (try split) <;> (try split) <;> (try split) <;> omega

theorem nameB_iff (s : ByteArray) (k : Int) (h0 : 0 < s.size) : nameB s k = true ↔ s.size ≤ 32 ∧ kindN ((s[0]).toNat : Int) = k ∧ prefN s = s.size := by
  unfold nameB
  rw [decide_eq_true_eq, kd_at s 0 h0]
  constructor
  · rintro ⟨_, h⟩; exact h
  · intro h; exact ⟨h0, h⟩
theorem nameB_0 (s : ByteArray) (k : Int) (h0 : ¬ 0 < s.size) : nameB s k = false := by
  unfold nameB
  rw [decide_eq_false_iff_not]
  rintro ⟨h, _⟩
  omega

set_option maxHeartbeats 1000000 in
theorem rMay_any (s : ByteArray) (w : World) (hs : s.size ≤ maxLen) :
    Calls Tryz.prog 177 #[.string s] w fun e w' => e = .returned (.bool (nameB s 2)) ∧ w = w' := by
  have hp := prefN_le s
  by_cases h0 : 0 < s.size
  · have hI := Lib.hid (nameB_iff s 2 h0)
    have HP := Lib.hid (rPrefix_any s w hs)
    unfold maxLen at hs
    by_cases h32 : s.size ≤ 32
    · go_enter Tryz.func177, Tryz.ntmps177
      go_wp2_with (go_at_call 129; refine HP.out.mono ?_; rintro e w' ⟨rfl, rfl⟩)
      all_goals
        go_ret
        refine ⟨ret_bool ?_, rfl⟩
        rw [Bool.eq_iff_iff, hI.out, kindN2]
        first | (simp; done) | (simp; omega)
    · go_enter Tryz.func177, Tryz.ntmps177
      go_wp2_with (go_at_call 129; refine HP.out.mono ?_; rintro e w' ⟨rfl, rfl⟩)
      all_goals
        go_ret
        refine ⟨ret_bool ?_, rfl⟩
        rw [Bool.eq_iff_iff, hI.out, kindN2]
        first | (simp; done) | (simp; omega)
  · have HZ := Lib.hid (nameB_0 s 2 h0)
    go_enter Tryz.func177, Tryz.ntmps177
    go_wp2
    go_ret
    exact ⟨ret_bool HZ.out.symm, rfl⟩

end Go.Proofs.YtkceoiaaiaomoaaGreatDoor
end
section

end
section
set_option linter.unusedVariables false
namespace Go.Proofs.YtkceoiaaiaomoaaGreatDoor
open Go.RowKit

def wordList : List (List UInt8) := [[109, 111, 100, 117, 108, 101], [119, 104, 101, 110], [99, 97, 115, 101], [111, 102], [101, 110, 100], [116, 114, 121], [99, 97, 116, 99, 104], [114, 101, 99, 101, 105, 118, 101], [97, 102, 116, 101, 114], [102, 117, 110], [100, 105, 118], [114, 101, 109], [99, 111, 110, 102, 105, 103]]
def wordL (l : List UInt8) : Bool := wordList.any fun w => l == w
theorem size_list (s : ByteArray) : s.data.toList.length = s.size := by rw [Array.length_toList]; rfl
end Go.Proofs.YtkceoiaaiaomoaaGreatDoor
end
section
set_option linter.unusedVariables false
namespace Go.Proofs.YtkceoiaaiaomoaaGreatDoor
open Go.RowKit

mutual
def Tm.deep : Tm → Nat
  | .mk _ _ _ _ l => Tm.deeps l + 1
def Tm.deeps : List Tm → Nat
  | [] => 0
  | x :: l => max x.deep (Tm.deeps l)
end
theorem Tm.deep_mem : ∀ {l : List Tm} {x : Tm}, x ∈ l → x.deep ≤ Tm.deeps l
  | y :: l, x, h => by
    rw [Tm.deeps]
    rcases List.mem_cons.1 h with rfl | h
    · exact Nat.le_max_left _ _
    · exact Nat.le_trans (Tm.deep_mem h) (Nat.le_max_right _ _)
theorem Tm.nodes_mem : ∀ {l : List Tm} {x : Tm}, x ∈ l → x.nodes ≤ (Tm.pres l).length
  | y :: l, x, h => by
    rw [Tm.pres, List.length_append]
    rcases List.mem_cons.1 h with rfl | h
    · exact Nat.le_add_right _ _
    · exact Nat.le_trans (Tm.nodes_mem h) (Nat.le_add_left _ _)
theorem Tm.nodes_mk (k n : Int) (s t : ByteArray) (l : List Tm) : (Tm.mk k n s t l).nodes = (Tm.pres l).length + 1 := by unfold Tm.nodes; rw [Tm.pre, List.length_cons]
def fitsB (x : Tm) : Bool := decide (x.nodes ≤ 4096 ∧ x.deep ≤ 64)
def emp (s : ByteArray) : Bool := decide (s.size = 0)
def atomB (s : ByteArray) : Bool := nameB s 2 && !wordL s.data.toList
def cmpB (s : ByteArray) : Bool := [[61, 58, 61], [61, 47, 61], [60], [61, 60], [62], [62, 61]].any fun x => s.data.toList == x
def ariB (s : ByteArray) : Bool := [[43], [45], [42], [100, 105, 118], [114, 101, 109]].any fun x => s.data.toList == x
def plusB (s : ByteArray) : Bool := [[43], [45], [42]].any fun x => s.data.toList == x
def kindB (s : ByteArray) : Bool := [[105, 115, 95, 97, 116, 111, 109], [105, 115, 95, 105, 110, 116, 101, 103, 101, 114], [105, 115, 95, 112, 105, 100], [105, 115, 95, 114, 101, 102, 101, 114, 101, 110, 99, 101], [105, 115, 95, 116, 117, 112, 108, 101], [105, 115, 95, 108, 105, 115, 116], [105, 115, 95, 102, 117, 110, 99, 116, 105, 111, 110]].any fun x => s.data.toList == x
def classB (s : ByteArray) : Bool := [[101, 114, 114, 111, 114], [101, 120, 105, 116], [116, 104, 114, 111, 119]].any fun x => s.data.toList == x
def leafB (k n : Int) (s t : ByteArray) (l : List Tm) : Bool :=
  l.isEmpty && emp t && ((k == 5 && n == 0 && nameB s 3) || (k == 6 && emp s && mayB n) || (k == 7 && n == 0 && atomB s) || (k == 8 && n == 0 && emp s))
mutual
def patB : Tm → Bool
  | .mk k n s t l => leafB k n s t l || ((k == 10 || (k == 9 && l.length == 2)) && n == 0 && emp s && emp t && patsB l)
def patsB : List Tm → Bool
  | [] => true
  | x :: l => patB x && patsB l
end
mutual
def guaB : Tm → Bool
  | .mk k n s t l => leafB k n s t l || (((k == 10 && emp s) || (k == 9 && emp s && l.length == 2) || (k == 11 && plusB s && l.length == 2)) && n == 0 && emp t && guasB l)
def guasB : List Tm → Bool
  | [] => true
  | x :: l => guaB x && guasB l
end
def testB : Tm → Bool
  | .mk k n s t l => ((k == 11 && cmpB s && l.length == 2) || (k == 12 && kindB s && l.length == 1)) && n == 0 && emp t && guasB l
def guardB : Tm → Bool
  | .mk k n s t l => k == 4 && n == 0 && emp s && emp t && l.all testB
def classedB : Tm → Bool
  | .mk _ _ _ _ (.mk k _ s _ _ :: _) => k == 5 || (k == 7 && classB s)
  | _ => false
def varFirst : List Tm → Bool
  | .mk k _ _ _ _ :: _ => k == 5
  | [] => false
mutual
def exprB : Tm → Bool
  | .mk k n s t l => leafB k n s t l ||
    (k == 9 && n == 0 && emp s && emp t && l.length == 2 && exprsB l) ||
    (k == 10 && n == 0 && emp s && emp t && exprsB l) ||
    (k == 11 && n == 0 && emp t && (cmpB s || ariB s) && l.length == 2 && exprsB l) ||
    (k == 13 && n == 0 && emp s && emp t && l.length == 2 && patFirst l) ||
    (k == 14 && n == 0 && emp t && atomB s && decide (l.length ≤ 8) && exprsB l) ||
    (k == 15 && n == 0 && atomB s && atomB t && decide (l.length ≤ 8) && exprsB l) ||
    (k == 16 && n == 0 && emp s && emp t && decide (l.length ≤ 9) && varFirst l && exprsB l) ||
    (k == 17 && atomB s && atomB t && decide (0 ≤ n ∧ n ≤ 8) && l.isEmpty) ||
    (k == 18 && n == 0 && emp s && emp t && decide (2 ≤ l.length) && caseB 1 l) ||
    (k == 19 && n == 0 && emp s && emp t && decide (2 ≤ l.length) && caseB 2 l && l.tail.all classedB) ||
    (k == 20 && emp s && emp t && ((n == 0 && !l.isEmpty && clsB 1 l) || (n == 1 && recvB l)))
def exprsB : List Tm → Bool
  | [] => true
  | x :: l => exprB x && exprsB l
def patFirst : List Tm → Bool
  | [] => true
  | p :: l => patB p && exprsB l
def caseB (m : Nat) : List Tm → Bool
  | [] => true
  | e :: l => exprB e && clsB m l
def clsB (m : Nat) : List Tm → Bool
  | [] => true
  | c :: l => clB m c && clsB m l
def clB (m : Nat) : Tm → Bool
  | .mk k n s t l => k == 3 && n == (m : Int) && emp s && emp t && partsB m l
def partsB : Nat → List Tm → Bool
  | 0, g :: l => guardB g && !l.isEmpty && exprsB l
  | m + 1, p :: l => patB p && partsB m l
  | _, [] => false
def recvB : List Tm → Bool
  | [] => false
  | c :: l => if l.isEmpty then afterB c else clB 1 c && recvB l
def afterB : Tm → Bool
  | .mk k n s t l => k == 21 && n == 0 && emp s && emp t && decide (2 ≤ l.length) && exprsB l
end
def funB : Tm → Bool
  | .mk k n s t l => k == 2 && emp t && atomB s && decide (0 ≤ n ∧ n ≤ 8) && !l.isEmpty && clsB n.toNat l
def modB : Tm → Bool
  | .mk k n s t l => k == 1 && n == 0 && emp t && atomB s && l.all funB
def modsB : Tm → Bool
  | .mk k n s t l => k == 0 && n == 0 && emp s && emp t && l.all modB
end Go.Proofs.YtkceoiaaiaomoaaGreatDoor
end
section
set_option linter.unusedVariables false
namespace Go.Proofs.YtkceoiaaiaomoaaGreatDoor
open Go.RowKit

theorem patsB_all : ∀ {l : List Tm}, patsB l = true ↔ ∀ x ∈ l, patB x = true
  | [] => by simp [patsB]
  | x :: l => by simp [patsB, patsB_all (l := l)]
theorem guasB_all : ∀ {l : List Tm}, guasB l = true ↔ ∀ x ∈ l, guaB x = true
  | [] => by simp [guasB]
  | x :: l => by simp [guasB, guasB_all (l := l)]
theorem clB_n {m : Nat} {k n : Int} {s t : ByteArray} {l : List Tm} (h : clB m (.mk k n s t l) = true) : n = (m : Int) := by
  rw [clB] at h
  simp only [Bool.and_eq_true] at h
  exact eq_of_beq h.1.1.1.2
end Go.Proofs.YtkceoiaaiaomoaaGreatDoor
end
