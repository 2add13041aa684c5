/- term.Check and term.Size: their contracts. -/
import Derived.Test.YtaemfjmmklpjeaaGreatDoorSuch
import Derived.Test.YtaemfjmmklpjeaaGreatDoorNodes
set_option linter.unusedVariables false
namespace Go.Proofs.YtaemfjmmklpjeaaGreatDoor
open Go.RowKit Go.Shelf
attribute [local go_sem] Oper.semAt_some

def checkN (x : Tm) : Int := if (x.pre.take 257).all okB then (if 256 < x.nodes then 11 else 0) else 30

theorem all_map_ok {xs : List (Tm × Value)} (h : ∀ p ∈ xs, okB p.1 = true) {l : List Tm} (e : xs.map (·.1) = l) : l.all okB = true := by
  subst e; rw [List.all_eq_true]; intro y hy; obtain ⟨p, hp, rfl⟩ := List.mem_map.1 hy; exact h p hp

set_option maxRecDepth 100000 in
set_option maxHeartbeats 4000000 in
theorem Check_any (x : Tm) (v : Value) (w : World) (hT : TmAt (· < w.heap.size) w x v) (hS : Spans w) :
    Calls Tryz.prog 63 #[v] w fun e w' => e = .returned (.int .i64 (checkN x)) ∧ Below w.heap.size w w' := by
  obtain ⟨kk, nn, s, t, L, A, cap, hx, rfl⟩ : ∃ k' n' s' t' L' A' cap', x = Tm.mk k' n' s' t' L' ∧ v = .agg #[.int .i8 k', .int .i64 n', .string s', .string t', .slice A' L'.length cap'] := by
    cases hT; exact ⟨_, _, _, _, _, _, _, rfl, rfl⟩
  have HX := Lib.hid hx
  clear hx
  obtain ⟨S, hSz⟩ : ∃ S, S = w.heap.size := ⟨_, rfl⟩
  obtain ⟨w3, hw3⟩ : ∃ w3, w3 = ((w.alloc (.cells #[.int .i8 kk, .int .i64 nn, .string s, .string t, .slice A L.length cap] 27)).alloc (.cells #[.int .i64 0] 38)).alloc (.cells #[.int .i64 0] 3) := ⟨_, rfl⟩
  have hs3 : w3.heap.size = w.heap.size + 3 := by rw [hw3]; simp
  have b3 : Below w.heap.size w w3 := by rw [hw3]; exact (((Below.refl _ w).alloc (Nat.le_refl _) _).alloc (by simp) _).alloc (by simp; omega) _
  have r3 : w3.heap[w.heap.size + 1]? = some (.cells #[.int .i64 0] 38) := by
    rw [hw3]
    have := World.alloc_heap_new (w.alloc (.cells #[.int .i8 kk, .int .i64 nn, .string s, .string t, .slice A L.length cap] 27)) (.cells #[.int .i64 0] 38)
    rw [World.size_alloc] at this
    exact (Below.heap_alloc _ _ _ (by simp)).trans this
  have n3 : w3.heap[w.heap.size + 1 + 1]? = some (.cells #[.int .i64 0] 3) := by
    rw [hw3]
    have := World.alloc_heap_new ((w.alloc (.cells #[.int .i8 kk, .int .i64 nn, .string s, .string t, .slice A L.length cap] 27)).alloc (.cells #[.int .i64 0] 38)) (.cells #[.int .i64 0] 3)
    simp only [World.size_alloc] at this
    exact this
  obtain ⟨wL, hwL⟩ : ∃ wL, wL = w3.alloc (.cells #[.int .i8 kk, .int .i64 nn, .string s, .string t, .slice A L.length cap] 27) := ⟨_, rfl⟩
  have hsL : wL.heap.size = w.heap.size + 4 := by rw [hwL]; simp [hs3]
  have bL : Below w.heap.size w wL := by rw [hwL]; exact b3.alloc (by omega) _
  have HRL : Hid (wL.heap[w.heap.size + 1]? = some (.cells #[.int .i64 0] 38)) := by rw [hwL]; exact (Below.heap_alloc _ _ _ (by omega)).trans r3
  have HNL : Hid (wL.heap[w.heap.size + 1 + 1]? = some (.cells #[.int .i64 0] 3)) := by rw [hwL]; exact (Below.heap_alloc _ _ _ (by omega)).trans n3
  have hbt : wL.heap[w.heap.size + 1 + 1 + 1]? = some (.cells #[.int .i8 kk, .int .i64 nn, .string s, .string t, .slice A L.length cap] 27) := by
    rw [hwL]; have := World.alloc_heap_new w3 (.cells #[.int .i8 kk, .int .i64 nn, .string s, .string t, .slice A L.length cap] 27); rwa [hs3] at this
  have hTL : TmAt (· < w.heap.size) wL x _ := hT.under bL (Nat.le_refl _)
  have HSeq := Lib.hid (nodes_seq (3 - 1) w.heap.size (w.heap.size + 1 + 1 + 1) x _ wL hTL (by omega) ⟨_, rfl, hbt⟩)
  have HBL := Lib.hid bL
  have HSL := Lib.hid hsL
  have HS3 := Lib.hid hs3
  clear hTL hbt hsL bL b3 r3 n3 hs3 hT
  refine (callsIn_wide (n := 3)).1 ?_
  refine callsIn_of_wp_marks Tryz.func63 rfl trivial ?_ rfl
  simp only [Tryz.ntmps63, List.size_toArray, List.length_cons, List.length_nil, Nat.reduceAdd, Nat.reduceSub, Array.replicate_succ, Array.replicate_zero, List.push_toArray, List.append_toArray, List.nil_append, List.cons_append]
  gi_wp2_with (refine ⟨trivial, ?_⟩; gi_at_call 79; refine (nodes_in _ _ _).mono ?_; rintro e w' ⟨rfl, rfl⟩)
  rw [← hw3, ← hwL]
  have hSL : Spans wL := hS.below HBL.out hS.lt
  refine range_cells (α := Tm × Value) (gf := 92) (lb := #[.pointer (some ⟨w.heap.size + 1 + 1 + 1, 0, none⟩)]) rfl (enters_of Tryz.func92 (by kernel_rfl) rfl) (fun _ => rfl) HSeq.out (by rw [HSL.out]; omega)
    (fun pre W => ((∀ p ∈ pre, okB p.1 = true) ∧ W.heap[w.heap.size + 1]? = some (.cells #[.int .i64 0] 38 (0, 0)) ∧ W.heap[w.heap.size + 1 + 1]? = some (.cells #[.int .i64 pre.length] 3 (0, 0))) ∧ Below w.heap.size w W)
    (fun c pre W => (c = .ret ∧ (∃ (ini : List (Tm × Value)) (last : Tm × Value), pre = ini ++ [last] ∧ okB last.1 = false) ∧ W.heap[w.heap.size + 1]? = some (.cells #[.int .i64 30] 38 (0, 0))) ∧ Below w.heap.size w W)
    (fun s X Y hb h => ⟨⟨h.1.1, (hb.block _ (by rw [HSL.out]; omega)).trans h.1.2.1, (hb.block _ (by rw [HSL.out]; omega)).trans h.1.2.2⟩, h.2.trans (hb.mono (by rw [HSL.out]; omega))⟩)
    (fun c s X Y hb h => ⟨⟨h.1.1, h.1.2.1, (hb.block _ (by rw [HSL.out]; omega)).trans h.1.2.2⟩, h.2.trans (hb.mono (by rw [HSL.out]; omega))⟩)
    ⟨⟨fun p hp => (by simp at hp), HRL.out, HNL.out⟩, HBL.out⟩
    (fun x a' W => ∃ b c, wL.heap.size + 2 ≤ b ∧ x.2 = .agg c ∧ W.heap[b]? = some (.cells c 27 (0, 0)) ∧ a' = { tmps := #[.agg #[.int .i8 kk, .int .i64 nn, .string s, .string t, .slice A L.length cap], .pointer (some ⟨w.heap.size, 0, none⟩), .pointer (some ⟨w.heap.size + 1, 0, none⟩), .pointer (some ⟨w.heap.size + 1 + 1, 0, none⟩), .pointer (some ⟨b, 0, none⟩),
      .agg #[.int .i8 kk, .int .i64 nn, .string s, .string t, .slice A L.length cap], .func (.func 92) #[] #[.pointer (some ⟨w.heap.size + 1 + 1 + 1, 0, none⟩)], x.2, undef, undef, undef, undef, undef, undef, undef], defers := [] })
    (fun x a' X Y hm h => by obtain ⟨b, c, h1, h2, h3, h4⟩ := h; exact ⟨b, c, h1, h2, (hm.block _ (heap_lt h3) (by omega)).trans h3, h4⟩) ?assign ?body ?done ?stop (by decide)
  case assign =>
    rintro l pre ⟨y, u⟩ W K hi hE hsz hK
    dsimp only at hE
    obtain ⟨k', n', s', t', L', A', cap', hy', rfl⟩ : ∃ k' n' s' t' L' A' cap', y = Tm.mk k' n' s' t' L' ∧ u = .agg #[.int .i8 k', .int .i64 n', .string s', .string t', .slice A' L'.length cap'] := by
      cases hE; exact ⟨_, _, _, _, _, _, _, rfl, rfl⟩
    have HK := Lib.hid (hK _ _ ((Below.refl _ W).alloc (Nat.le_refl _) _) ⟨W.heap.size, _, hsz, rfl, World.alloc_heap_new W _, rfl⟩)
    clear hK hi hy' hE
    gi_wp2
    exact HK.out
  case body =>
    rintro l pre ⟨y, u⟩ a' W ⟨⟨hok, hr, hn⟩, hB⟩ hE ⟨b, c, hb, hu, hbx, rfl⟩ hlen hsz
    dsimp only at hE hu
    have HTy := Lib.hid hE
    obtain ⟨k', n', s', t', L', A', cap', hy', rfl⟩ : ∃ k' n' s' t' L' A' cap', y = Tm.mk k' n' s' t' L' ∧ u = .agg #[.int .i8 k', .int .i64 n', .string s', .string t', .slice A' L'.length cap'] := by
      cases hE; exact ⟨_, _, _, _, _, _, _, rfl, rfl⟩
    simp only [Value.agg.injEq] at hu
    subst hu
    clear hy' hE
    have d0 : W.cell? ⟨b, 0, none⟩ = some (.int .i8 k') := cell_of_row hbx rfl
    have d1 : W.cell? ⟨b, 1, none⟩ = some (.int .i64 n') := cell_of_row hbx rfl
    have d2 : W.cell? ⟨b, 2, none⟩ = some (.string s') := cell_of_row hbx rfl
    have d3 : W.cell? ⟨b, 3, none⟩ = some (.string t') := cell_of_row hbx rfl
    have d4 : W.cell? ⟨b, 4, none⟩ = some (.slice A' L'.length cap') := cell_of_row hbx rfl
    have hSW : Spans W := hS.below hB hS.lt
    have HC := Lib.hid (such_any (P := (· < w.heap.size)) (HTy.out.keep (w' := W) (fun q hq => (hB.block q hq).trans (HBL.out.block q hq).symm) (fun _ h => h)) hSW)
    have HB := Lib.hid hB
    have HR := Lib.hid hr
    have HN := Lib.hid hn
    have HOK := Lib.hid hok
    clear hB hr hn hok hbx
    gi_wp2_with fail
    refine ⟨trivial, (CallsIn.inRound l (callsIn_wide.2 HC.out)).mono ?_⟩
    clear d0 d1 d2 d3 d4
    rintro e W1 ⟨rfl, b1⟩
    have B1 := HB.out.trans (b1.mono HB.out.size)
    have hr1 : W1.heap[w.heap.size + 1]? = _ := (b1.block _ (heap_lt HR.out)).trans HR.out
    have hn1 : W1.heap[w.heap.size + 1 + 1]? = _ := (b1.block _ (heap_lt HN.out)).trans HN.out
    have HM1 := Lib.hid (Mod.of_below (F := fun k => w.heap.size ≤ k ∧ k < wL.heap.size) b1)
    have HBB := Lib.hid B1
    have HSL' := HSL.out
    have f1 : W1.frozen? ⟨w.heap.size + 1, 0, none⟩ = false := free_of_row hr1
    have f2 : W1.frozen? ⟨w.heap.size + 1 + 1, 0, none⟩ = false := free_of_row hn1
    have c1 : W1.cell? ⟨w.heap.size + 1, 0, none⟩ = some (.int .i64 0) := cell_of_row hr1 rfl
    have c2 : W1.cell? ⟨w.heap.size + 1 + 1, 0, none⟩ = some (.int .i64 pre.length) := cell_of_row hn1 rfl
    have HR1 := Lib.hid hr1
    have HN1 := Lib.hid hn1
    have hlen' : pre.length < 257 := hlen
    have HSS := Lib.hid HSL'
    clear b1 B1 hr1 hn1 HSL' hlen hsz hb
    cases hk : okB y
    · gi_wp2
      refine ⟨HM1.out.trans (Mod.setCell _ _ _ (.inl (by have := HSS.out; dsimp only; omega))) (fun _ _ h => h), ⟨rfl, ⟨pre, _, rfl, hk⟩, set_row _ HR1.out⟩, HBB.out.setCell (by dsimp only; omega) _⟩
    · gi_wp2
      refine ⟨HM1.out.trans (Mod.setCell _ _ _ (.inl (by have := HSS.out; dsimp only; omega))) (fun _ _ h => h), ⟨fun p hp => ?_, ?_, ?_⟩, HBB.out.setCell (by dsimp only; omega) _⟩
      · rcases List.mem_append.1 hp with hp | hp
        · exact HOK.out p hp
        · simp at hp; subst hp; exact hk
      · exact (Below.heap_setCell _ _ _ _ (by simp)).trans HR1.out
      · have e : ((pre ++ [(y, Value.agg #[.int .i8 k', .int .i64 n', .string s', .string t', .slice A' L'.length cap'])]).length : Int) = (pre.length : Int) + 1 := by simp
        rw [e]
        exact set_row _ HN1.out
  case done =>
    rintro xs W hxs ⟨⟨hok, hr, hn⟩, hB⟩ hK
    have hlen : xs.length = min 257 x.nodes := by rw [← List.length_map (f := (·.1)), hxs, List.length_take]; rfl
    have hall := all_map_ok hok hxs
    have c1 : W.cell? ⟨w.heap.size + 1, 0, none⟩ = some (.int .i64 0) := cell_of_row hr rfl
    have f1 : W.frozen? ⟨w.heap.size + 1, 0, none⟩ = false := free_of_row hr
    have c2 : W.cell? ⟨w.heap.size + 1 + 1, 0, none⟩ = some (.int .i64 xs.length) := cell_of_row hn rfl
    have HR := Lib.hid hr
    have HB := Lib.hid hB
    have HK := Lib.hid hK
    have HLE := Lib.hid hlen
    have HAL := Lib.hid hall
    clear hr hn hB hK hok hxs hlen hall
    have fin : ∀ z : Int, z = checkN x → ∀ V, V = (W.setCell ⟨w.heap.size + 1, 0, none⟩ (.int .i64 z)).putObj wL.heap.size (.deferred none) → V.cell? ⟨w.heap.size + 1, 0, none⟩ = some (.int .i64 (checkN x)) ∧ Below w.heap.size w V := by
      rintro z rfl V rfl
      have h1 := set_row (.int .i64 (checkN x)) (i := 0) HR.out
      have hD : wL.heap.size < W.heap.size := heap_lt HK.out
      refine ⟨?_, ?_⟩
      · exact cell_of_row ((World.putObj_heap_other (by rw [HSL.out]; omega)).trans h1) rfl
      · exact (HB.out.setCell (by dsimp only; omega) _).trans ((Mod.putObj (F := fun k => k = wL.heap.size) _ _ _ rfl).below (by simp [World.setCell]; have := HSL.out; omega) (fun k (e : k = wL.heap.size) => by have := HSL.out; omega))
    have HF := Lib.hid fin
    clear fin
    by_cases hgt : 256 < xs.length
    · gi_wp2
      refine ⟨by simp, .inl ⟨_, _, rfl, run_takeDeferred ((KeepsOthers.setCell W _ _).same _ _ HK.out rfl), ?_⟩⟩
      obtain ⟨h5, h6⟩ := HF.out 11 (by unfold checkN; rw [if_pos HAL.out, if_pos (by have := HLE.out; omega)]) _ rfl
      exact ⟨_, by simp [results, Tryz.f63, go_sem, h5], rfl, h6⟩
    · gi_wp2
      refine ⟨by simp, .inl ⟨_, _, rfl, run_takeDeferred ((KeepsOthers.setCell W _ _).same _ _ HK.out rfl), ?_⟩⟩
      obtain ⟨h5, h6⟩ := HF.out 0 (by unfold checkN; rw [if_pos HAL.out, if_neg (by have := HLE.out; omega)]) _ rfl
      exact ⟨_, by simp [results, Tryz.f63, go_sem, h5], rfl, h6⟩
  case stop =>
    rintro c pre W ⟨k, hk, hkl⟩ ⟨⟨rfl, ⟨ini, last, e1, e2⟩, hr⟩, hB⟩ hK
    have hbad : checkN x = 30 := by
      unfold checkN
      rw [if_neg]
      intro hall
      have hmem : last.1 ∈ x.pre.take k := by rw [← hk, e1]; simp
      have hk257 : last.1 ∈ x.pre.take 257 := by
        have hkl' : (x.pre.take k).length ≤ 257 := by rw [← hk, List.length_map]; exact hkl
        rw [List.length_take] at hkl'
        by_cases h : k ≤ 257
        · exact List.take_subset_take_left _ h hmem
        · rw [List.take_of_length_le (by omega)]; exact List.mem_of_mem_take hmem
      have := List.all_eq_true.1 hall _ hk257
      rw [e2] at this; cases this
    gi_wp2
    refine ⟨by simp, .inl ⟨_, _, rfl, run_takeDeferred hK, ?_⟩⟩
    have h5 : (W.putObj wL.heap.size (.deferred none)).cell? ⟨w.heap.size + 1, 0, none⟩ = some (.int .i64 30) := cell_of_row ((World.putObj_heap_other (by rw [HSL.out]; omega)).trans hr) rfl
    refine ⟨.int .i64 30, by simp [results, Tryz.f63, go_sem, h5], ret_int hbad.symm, ?_⟩
    exact hB.trans ((Mod.putObj (F := fun k => k = wL.heap.size) _ _ _ rfl).below (by have := heap_lt hK; have := HSL.out; omega) (fun k (e : k = wL.heap.size) => by have := HSL.out; omega))
end Go.Proofs.YtaemfjmmklpjeaaGreatDoor
