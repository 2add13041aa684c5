/- term.Size: its contract. -/
import Derived.Test.YtohbljgagbnjoaaDoorNodes
set_option linter.unusedVariables false
namespace Go.Proofs.YtohbljgagbnjoaaDoor
open Go.RowKit Go.Shelf
attribute [local go_sem] Oper.semAt_some

set_option maxRecDepth 100000 in
set_option maxHeartbeats 4000000 in
theorem Size_any (x : Tm) (v : Value) (w : World) (hT : TmAt (· < w.heap.size) w x v) :
    Calls Tryd.prog 19 #[v] w fun e w' => e = .returned (.int .i64 (min 257 x.nodes : Nat)) ∧ Below w.heap.size w w' := by
  obtain ⟨kk, nn, s, t, L, A, cap, hx, rfl⟩ : ∃ k' n' s' t' L' A' cap', x = Tm.mk k' n' s' t' L' ∧ v = .agg #[.int .i8 k', .int .i64 n', .string s', .string t', .slice A' L'.length cap'] := by
    cases hT; exact ⟨_, _, _, _, _, _, _, rfl, rfl⟩
  have HX := Lib.hid hx
  clear hx
  obtain ⟨w3, hw3⟩ : ∃ w3, w3 = (w.alloc (.cells #[.int .i8 kk, .int .i64 nn, .string s, .string t, .slice A L.length cap] 25)).alloc (.cells #[.int .i64 0] 3) := ⟨_, rfl⟩
  have hs3 : w3.heap.size = w.heap.size + 2 := by rw [hw3]; simp
  have b3 : Below w.heap.size w w3 := by rw [hw3]; exact ((Below.refl _ w).alloc (Nat.le_refl _) _).alloc (by simp) _
  have n3 : w3.heap[w.heap.size + 1]? = some (.cells #[.int .i64 0] 3) := by
    rw [hw3]
    have := World.alloc_heap_new (w.alloc (.cells #[.int .i8 kk, .int .i64 nn, .string s, .string t, .slice A L.length cap] 25)) (.cells #[.int .i64 0] 3)
    rwa [World.size_alloc] at this
  obtain ⟨wL, hwL⟩ : ∃ wL, wL = w3.alloc (.cells #[.int .i8 kk, .int .i64 nn, .string s, .string t, .slice A L.length cap] 25) := ⟨_, rfl⟩
  have hsL : wL.heap.size = w.heap.size + 3 := by rw [hwL]; simp [hs3]
  have bL : Below w.heap.size w wL := by rw [hwL]; exact b3.alloc (by omega) _
  have HNL : Hid (wL.heap[w.heap.size + 1]? = some (.cells #[.int .i64 0] 3)) := by rw [hwL]; exact (Below.heap_alloc _ _ _ (by omega)).trans n3
  have hbt : wL.heap[w.heap.size + 1 + 1]? = some (.cells #[.int .i8 kk, .int .i64 nn, .string s, .string t, .slice A L.length cap] 25) := by
    rw [hwL]; have := World.alloc_heap_new w3 (.cells #[.int .i8 kk, .int .i64 nn, .string s, .string t, .slice A L.length cap] 25); rwa [hs3] at this
  have hTL : TmAt (· < w.heap.size) wL x _ := hT.under bL (Nat.le_refl _)
  have HSeq := Lib.hid (nodes_seq (3 - 1) w.heap.size (w.heap.size + 1 + 1) x _ wL hTL (by omega) ⟨_, rfl, hbt⟩)
  have HBL := Lib.hid bL
  have HSL := Lib.hid hsL
  clear hTL hbt hsL bL b3 n3 hs3 hT
  refine (callsIn_wide (n := 3)).1 ?_
  refine callsIn_of_wp_marks Tryd.func19 rfl trivial ?_ rfl
  simp only [Tryd.ntmps19, List.size_toArray, List.length_cons, List.length_nil, Nat.reduceAdd, Nat.reduceSub, Array.replicate_succ, Array.replicate_zero, List.push_toArray, List.append_toArray, List.nil_append, List.cons_append]
  gi_wp2_with (refine ⟨trivial, ?_⟩; gi_at_call 38; refine (nodes_in _ _ _).mono ?_; rintro e w' ⟨rfl, rfl⟩)
  rw [← hw3, ← hwL]
  refine range_cells (α := Tm × Value) (gf := 62) (lb := #[.pointer (some ⟨w.heap.size + 1 + 1, 0, none⟩)]) rfl (enters_of Tryd.func62 (by kernel_rfl) rfl) (fun _ => rfl) HSeq.out (by rw [HSL.out]; omega)
    (fun pre W => W.heap[w.heap.size + 1]? = some (.cells #[.int .i64 pre.length] 3 (0, 0)) ∧ Below w.heap.size w W)
    (fun c pre W => False)
    (fun s X Y hb h => ⟨(hb.block _ (by rw [HSL.out]; omega)).trans h.1, h.2.trans (hb.mono (by rw [HSL.out]; omega))⟩)
    (fun c s X Y hb h => h)
    ⟨HNL.out, HBL.out⟩
    (fun x a' W => a' = { tmps := #[.agg #[.int .i8 kk, .int .i64 nn, .string s, .string t, .slice A L.length cap], .pointer (some ⟨w.heap.size, 0, none⟩), .int .i64 0, .pointer (some ⟨w.heap.size + 1, 0, none⟩),
      .agg #[.int .i8 kk, .int .i64 nn, .string s, .string t, .slice A L.length cap], .func (.func 62) #[] #[.pointer (some ⟨w.heap.size + 1 + 1, 0, none⟩)], x.2, undef, undef, undef], defers := [] })
    (fun x a' X Y hm h => h) ?assign ?body ?done ?stop (by decide)
  case assign =>
    rintro l pre ⟨y, u⟩ W K hi hE hsz hK
    have HK := Lib.hid (hK _ _ (Below.refl _ W) rfl)
    clear hK hi hE
    gi_wp2
    exact HK.out
  case body =>
    rintro l pre ⟨y, u⟩ a' W ⟨hn, hB⟩ hE rfl hlen hsz
    have f2 : W.frozen? ⟨w.heap.size + 1, 0, none⟩ = false := free_of_row hn
    have c2 : W.cell? ⟨w.heap.size + 1, 0, none⟩ = some (.int .i64 pre.length) := cell_of_row hn rfl
    have HN := Lib.hid hn
    have HB := Lib.hid hB
    clear hn hB hE
    gi_wp2
    refine ⟨Mod.setCell _ _ _ (.inl (by have := HSL.out; dsimp only; omega)), ?_, HB.out.setCell (by dsimp only; omega) _⟩
    have e : ((pre ++ [(y, u)]).length : Int) = (pre.length : Int) + 1 := by simp
    rw [e]
    exact set_row _ HN.out
  case done =>
    rintro xs W hxs ⟨hn, hB⟩ hK
    have hlen : xs.length = min 257 x.nodes := by rw [← List.length_map (f := (·.1)), hxs, List.length_take]; rfl
    have c2 : W.cell? ⟨w.heap.size + 1, 0, none⟩ = some (.int .i64 xs.length) := cell_of_row hn rfl
    have HB := Lib.hid hB
    have HK := Lib.hid hK
    have HLE := Lib.hid hlen
    clear hn hB hK hxs hlen
    gi_wp2
    refine ⟨by simp, .inl ⟨_, _, rfl, run_takeDeferred HK.out, ?_⟩⟩
    refine ⟨.int .i64 xs.length, by simp [results, Tryd.f19, go_sem], ret_int (by rw [HLE.out]), ?_⟩
    exact HB.out.trans ((Mod.putObj (F := fun k => k = wL.heap.size) _ _ _ rfl).below (by have := heap_lt HK.out; have := HSL.out; omega) (fun k (e : k = wL.heap.size) => by have := HSL.out; omega))
  case stop =>
    rintro c pre W ⟨k, hk, hkl⟩ h
    exact h.elim
end Go.Proofs.YtohbljgagbnjoaaDoor
