/- ast.walked, ast.size.fits: how great a tree is. -/
import Derived.Test.YtcallgoglnkkiaaGreatDoorNd7
set_option linter.unusedVariables false
namespace Go.Proofs.YtcallgoglnkkiaaGreatDoor
open Go.RowKit Go.Shelf
attribute [local go_sem] Oper.semAt_some

def fdS (a : Nat) (p : Tm × Nat) : Nat := min (max a p.2) 65
theorem fdS_pres (d : Nat) : ∀ (l : List Tm) (a : Nat), (∀ x ∈ l, ∀ d a, 1 ≤ d → a ≤ 65 → (Tm.preD d x).foldl fdS a = min (max a (d - 1 + x.deep)) 65) → 1 ≤ d → a ≤ 65 → min (d - 1) 65 ≤ a →
    (Tm.presD d l).foldl fdS a = min (max a (d - 1 + Tm.deeps l)) 65
  | [], a, _, h1, h2, h3 => by rw [Tm.presD, List.foldl_nil, Tm.deeps]; omega
  | x :: l, a, ih, h1, h2, h3 => by
    rw [Tm.presD, List.foldl_append, ih x (by simp) d a h1 h2, fdS_pres d l _ (fun y hy => ih y (by simp [hy])) h1 (by omega) (by omega), Tm.deeps]
    omega
theorem fdS_pre (x : Tm) : ∀ d a, 1 ≤ d → a ≤ 65 → (Tm.preD d x).foldl fdS a = min (max a (d - 1 + x.deep)) 65 := by
  induction x using Tm.ind with
  | h k n s t l ih =>
    intro d a h1 h2
    rw [Tm.preD, List.foldl_cons, fdS_pres (d + 1) l _ ih (by omega) (by unfold fdS; omega) (by unfold fdS; simp only; omega), Tm.deep]
    unfold fdS; simp only; omega
/-- How deep what is gone over is. -/
def walkedD (x : Tm) : Nat := ((Tm.preD 1 x).take 4097).foldl fdS 0
theorem walkedD_small {x : Tm} (h : x.nodes ≤ 4097) : walkedD x = min x.deep 65 := by
  unfold walkedD
  rw [List.take_of_length_le (by rw [Tm.preD_len]; exact h), fdS_pre x 1 0 (by omega) (by omega)]
  omega
theorem foldl_fdS_le (l : List (Tm × Nat)) : ∀ a, a ≤ 65 → l.foldl fdS a ≤ 65 := by
  induction l with
  | nil => intro a h; exact h
  | cons p l ih => intro a h; exact ih _ (by unfold fdS; omega)
theorem walkedD_le (x : Tm) : walkedD x ≤ 65 := foldl_fdS_le _ _ (by omega)
theorem walked_fits (x : Tm) : decide (((min 4097 x.nodes : Nat) : Int) ≤ 4096 ∧ ((walkedD x : Nat) : Int) ≤ 64) = fitsB x := by
  unfold fitsB
  by_cases h : x.nodes ≤ 4096
  · rw [walkedD_small (by omega)]
    exact decide_eq_decide.2 (by omega)
  · exact decide_eq_decide.2 (by omega)

set_option maxHeartbeats 1000000 in
theorem fits_any (a b : Int) (w : World) :
    Calls Tryz.prog 26 #[.agg #[.int .i64 a, .int .i64 b]] w fun e w' => e = .returned (.bool (decide (a ≤ 4096 ∧ b ≤ 64))) ∧ Below w.heap.size w w' := by
  have hb : Below w.heap.size w (w.alloc (.cells #[.int .i64 a, .int .i64 b] 45)) := (Below.refl _ w).alloc (Nat.le_refl _) _
  have HB := Lib.hid hb
  clear hb
  by_cases ha : a ≤ 4096
  · by_cases hb : b ≤ 64
    · go_enter Tryz.func26, Tryz.ntmps26
      go_wp2_with fail
      go_ret
      exact ⟨by rw [decide_eq_true ⟨ha, hb⟩]; rfl, HB.out⟩
    · go_enter Tryz.func26, Tryz.ntmps26
      go_wp2_with fail
      go_ret
      exact ⟨by rw [decide_eq_false (fun h => by omega)]; rfl, HB.out⟩
  · go_enter Tryz.func26, Tryz.ntmps26
    go_wp2_with fail
    go_ret
    exact ⟨by rw [decide_eq_false (fun h => by omega)]; rfl, HB.out⟩

theorem foldl_map_fdS (xs : List ND) : ∀ a, (xs.map ndK).foldl fdS a = xs.foldl (fun a p => min (max a p.2) 65) a := by
  induction xs with
  | nil => intro a; rfl
  | cons p xs ih => intro a; rw [List.map_cons, List.foldl_cons, List.foldl_cons, ih]; rfl
def deepF (xs : List ND) : Nat := xs.foldl (fun a p => min (max a p.2) 65) 0
theorem deepF_snoc (xs : List ND) (p : ND) : deepF (xs ++ [p]) = min (max (deepF xs) p.2) 65 := by unfold deepF; rw [List.foldl_append]; rfl

theorem size_put {W : World} {b : Nat} {a : Int} {q d : Nat} {T : TypeId} {z : Int} (h : W.heap[b]? = some (.cells #[.int .i64 a, .int .i64 q] T (0, 0))) (hz : z = ((min (max q d) 65 : Nat) : Int)) :
    (W.setCell ⟨b, 1, none⟩ (.int .i64 z)).heap[b]? = some (.cells #[.int .i64 a, .int .i64 (min (max q d) 65 : Nat)] T (0, 0)) := by subst hz; exact set_row _ h

set_option maxRecDepth 100000 in
set_option maxHeartbeats 4000000 in
theorem walked_any (x : Tm) (v : Value) (w : World) (hT : TmAt (· < w.heap.size) w x v) :
    Calls Tryz.prog 25 #[v] w fun e w' => e = .returned (.agg #[.int .i64 (min 4097 x.nodes : Nat), .int .i64 (walkedD x)]) ∧ Below w.heap.size w w' := by
  obtain ⟨kk, nn, s, t, L, A, cap, hx, rfl⟩ : ∃ k' n' s' t' L' A' cap', x = Tm.mk k' n' s' t' L' ∧ v = .agg #[.int .i8 k', .int .i64 n', .string s', .string t', .slice A' L'.length cap'] := by
    cases hT; exact ⟨_, _, _, _, _, _, _, rfl, rfl⟩
  have HX := Lib.hid hx
  clear hx
  obtain ⟨w1, hw1⟩ : ∃ w1, w1 = w.alloc (.cells #[.int .i8 kk, .int .i64 nn, .string s, .string t, .slice A L.length cap] 25) := ⟨_, rfl⟩
  have hs1 : w1.heap.size = w.heap.size + 1 := by rw [hw1]; simp
  obtain ⟨w2, hw2⟩ : ∃ w2, w2 = w1.alloc (.cells #[.int .i64 0, .int .i64 0] 45) := ⟨_, rfl⟩
  have hs2 : w2.heap.size = w.heap.size + 2 := by rw [hw2]; simp [hs1]
  obtain ⟨w3, hw3⟩ : ∃ w3, w3 = w2.alloc (.cells #[.int .i64 0, .int .i64 0] 45) := ⟨_, rfl⟩
  have hs3 : w3.heap.size = w.heap.size + 3 := by rw [hw3]; simp [hs2]
  have b3 : Below w.heap.size w w3 := by rw [hw3, hw2, hw1]; exact (((Below.refl _ w).alloc (Nat.le_refl _) _).alloc (by simp) _).alloc (by simp; omega) _
  have r3 : w3.heap[w.heap.size + 1]? = some (.cells #[.int .i64 0, .int .i64 0] 45) := by
    rw [hw3]
    have := World.alloc_heap_new w1 (.cells #[.int .i64 0, .int .i64 0] 45)
    rw [hs1, ← hw2] at this
    exact (Below.heap_alloc _ _ _ (by omega)).trans this
  have n3 : w3.heap[w.heap.size + 1 + 1]? = some (.cells #[.int .i64 0, .int .i64 0] 45) := by
    rw [hw3]
    have := World.alloc_heap_new w2 (.cells #[.int .i64 0, .int .i64 0] 45)
    rwa [hs2] at this
  obtain ⟨wL, hwL⟩ : ∃ wL, wL = w3.alloc (.cells #[.int .i8 kk, .int .i64 nn, .string s, .string t, .slice A L.length cap] 25) := ⟨_, rfl⟩
  have hsL : wL.heap.size = w.heap.size + 4 := by rw [hwL]; simp [hs3]
  have bL : Below w.heap.size w wL := by rw [hwL]; exact b3.alloc (by omega) _
  have HRL : Hid (wL.heap[w.heap.size + 1]? = some (.cells #[.int .i64 0, .int .i64 0] 45)) := by rw [hwL]; exact (Below.heap_alloc _ _ _ (by omega)).trans r3
  have HNL : Hid (wL.heap[w.heap.size + 1 + 1]? = some (.cells #[.int .i64 0, .int .i64 0] 45)) := by rw [hwL]; exact (Below.heap_alloc _ _ _ (by omega)).trans n3
  have hbt : wL.heap[w.heap.size + 1 + 1 + 1]? = some (.cells #[.int .i8 kk, .int .i64 nn, .string s, .string t, .slice A L.length cap] 25) := by
    rw [hwL]; have := World.alloc_heap_new w3 (.cells #[.int .i8 kk, .int .i64 nn, .string s, .string t, .slice A L.length cap] 25); rwa [hs3] at this
  have hTL : TmAt (· < w.heap.size) wL x _ := hT.under bL (Nat.le_refl _)
  have HSeq := Lib.hid (nodes7_seq (3 - 1) w.heap.size (w.heap.size + 1 + 1 + 1) x _ wL hTL (by omega) ⟨_, rfl, hbt⟩)
  have HBL := Lib.hid bL
  have HSL := Lib.hid hsL
  clear hTL hbt hsL bL b3 r3 n3 hs3 hs2 hs1 hT
  refine (callsIn_wide (n := 3)).1 ?_
  refine callsIn_of_wp_marks Tryz.func25 rfl trivial ?_ rfl
  simp only [Tryz.ntmps25, List.size_toArray, List.length_cons, List.length_nil, Nat.reduceAdd, Nat.reduceSub, Array.replicate_succ, Array.replicate_zero, List.push_toArray, List.append_toArray, List.nil_append, List.cons_append]
  gi_wp2_with (refine ⟨trivial, ?_⟩; gi_at_call 29; refine (nodes7_in _ _ _).mono ?_; rintro e w' ⟨rfl, rfl⟩)
  rw [← hw1, ← hw2, ← hw3, ← hwL]
  refine range_cells (α := ND) (gf := 60) (lb := #[.pointer (some ⟨w.heap.size + 1 + 1 + 1, 0, none⟩)]) rfl (enters_of Tryz.func60 (by kernel_rfl) rfl) (fun _ => rfl) HSeq.out (by rw [HSL.out]; omega)
    (fun pre W => W.heap[w.heap.size + 1 + 1]? = some (.cells #[.int .i64 pre.length, .int .i64 (deepF pre)] 45 (0, 0)) ∧ W.heap[w.heap.size + 1]? = some (.cells #[.int .i64 0, .int .i64 0] 45 (0, 0)) ∧ Below w.heap.size w W)
    (fun c pre W => False)
    (fun s X Y hb h => ⟨(hb.block _ (by rw [HSL.out]; omega)).trans h.1, (hb.block _ (by rw [HSL.out]; omega)).trans h.2.1, h.2.2.trans (hb.mono (by rw [HSL.out]; omega))⟩)
    (fun c s X Y hb h => h)
    ⟨HNL.out, HRL.out, HBL.out⟩
    (fun x a' W => a' = { tmps := #[.agg #[.int .i8 kk, .int .i64 nn, .string s, .string t, .slice A L.length cap], .pointer (some ⟨w.heap.size, 0, none⟩), .pointer (some ⟨w.heap.size + 1, 0, none⟩), .pointer (some ⟨w.heap.size + 1 + 1, 0, none⟩), .int .i64 x.2,
      .agg #[.int .i8 kk, .int .i64 nn, .string s, .string t, .slice A L.length cap], .func (.func 60) #[] #[.pointer (some ⟨w.heap.size + 1 + 1 + 1, 0, none⟩)], .int .i64 x.2, x.1.2, undef, undef, undef, undef, undef, undef, undef, undef, undef, undef, undef], defers := [] })
    (fun x a' X Y hm h => h) ?assign ?body ?done ?stop (by decide)
  case assign =>
    rintro l pre ⟨⟨y, u⟩, d⟩ W K hi hE hsz hK
    have HK := Lib.hid (hK _ _ (Below.refl _ W) rfl)
    clear hK hi hE
    gi_wp2
    exact HK.out
  case body =>
    rintro l pre ⟨⟨y, u⟩, d⟩ a' W ⟨hn, hr, hB⟩ hE rfl hlen hsz
    have f0 : W.frozen? ⟨w.heap.size + 1 + 1, 0, none⟩ = false := free_of_row hn
    have c0 : W.cell? ⟨w.heap.size + 1 + 1, 0, none⟩ = some (.int .i64 pre.length) := cell_of_row hn rfl
    have hn2 := set_row (.int .i64 ((pre.length : Int) + 1)) (i := 0) hn
    have c1 : (W.setCell ⟨w.heap.size + 1 + 1, 0, none⟩ (.int .i64 ((pre.length : Int) + 1))).cell? ⟨w.heap.size + 1 + 1, 1, none⟩ = some (.int .i64 (deepF pre)) := cell_of_row hn2 rfl
    have f1 : (W.setCell ⟨w.heap.size + 1 + 1, 0, none⟩ (.int .i64 ((pre.length : Int) + 1))).frozen? ⟨w.heap.size + 1 + 1, 1, none⟩ = false := free_of_row hn2
    obtain ⟨q, hq⟩ : ∃ q, q = deepF pre := ⟨_, rfl⟩
    rw [← hq] at hn hn2 c1
    have HQ := Lib.hid hq
    have HN := Lib.hid hn2
    have HR := Lib.hid hr
    have HB := Lib.hid hB
    clear hn hr hB hE hn2 hq
    have hlen' : pre.length < 4097 := hlen
    gi_wp2
    all_goals
      refine ⟨(Mod.setCell _ _ _ (.inl (by have := HSL.out; dsimp only; omega))).trans (Mod.setCell _ _ _ (.inl (by have := HSL.out; dsimp only; omega))) (fun _ _ h => h), ?_, ?_, ?_⟩
      · have e : ((pre ++ [((y, u), d)]).length : Int) = (pre.length : Int) + 1 := by simp
        rw [e, deepF_snoc, ← HQ.out]
        exact size_put HN.out (by dsimp only; omega)
      · exact (Below.heap_setCell _ _ _ _ (by simp)).trans ((Below.heap_setCell _ _ _ _ (by simp)).trans HR.out)
      · exact (HB.out.setCell (by dsimp only; omega) _).setCell (by dsimp only; omega) _
  case done =>
    rintro xs W hxs ⟨hn, hr, hB⟩ hK
    have hlen : xs.length = min 4097 x.nodes := by rw [← List.length_map (f := ndK), hxs, List.length_take, Tm.preD_len]
    have hdp : deepF xs = walkedD x := by unfold deepF walkedD; rw [← hxs, foldl_map_fdS]
    have c0 : W.cell? ⟨w.heap.size + 1 + 1, 0, none⟩ = some (.int .i64 xs.length) := cell_of_row hn rfl
    have c1 : W.cell? ⟨w.heap.size + 1 + 1, 1, none⟩ = some (.int .i64 (deepF xs)) := cell_of_row hn rfl
    have f0 : W.frozen? ⟨w.heap.size + 1, 0, none⟩ = false := free_of_row hr
    have d0 : W.cell? ⟨w.heap.size + 1, 0, none⟩ = some (.int .i64 0) := cell_of_row hr rfl
    have hr2 := set_row (.int .i64 xs.length) (i := 0) hr
    have d1 : (W.setCell ⟨w.heap.size + 1, 0, none⟩ (.int .i64 xs.length)).cell? ⟨w.heap.size + 1, 1, none⟩ = some (.int .i64 0) := cell_of_row hr2 rfl
    have f1 : (W.setCell ⟨w.heap.size + 1, 0, none⟩ (.int .i64 xs.length)).frozen? ⟨w.heap.size + 1, 1, none⟩ = false := free_of_row hr2
    have HR2 := Lib.hid (set_row (.int .i64 (deepF xs)) (i := 1) hr2)
    have HR := Lib.hid hr
    have HB := Lib.hid hB
    have HK := Lib.hid hK
    have HLE := Lib.hid hlen
    have HDP := Lib.hid hdp
    clear hn hr hr2 hB hK hxs hlen hdp
    gi_wp2
    have hD : wL.heap.size < W.heap.size := heap_lt HK.out
    have hk2 : ((W.setCell ⟨w.heap.size + 1, 0, none⟩ (.int .i64 xs.length)).setCell ⟨w.heap.size + 1, 1, none⟩ (.int .i64 (deepF xs))).heap[wL.heap.size]? = some (.deferred (some [])) :=
      (KeepsOthers.setCell _ _ _).same _ _ ((KeepsOthers.setCell W _ _).same _ _ HK.out rfl) rfl
    refine ⟨by simp, .inl ⟨_, _, rfl, run_takeDeferred hk2, ?_⟩⟩
    have h5 : (((W.setCell ⟨w.heap.size + 1, 0, none⟩ (.int .i64 xs.length)).setCell ⟨w.heap.size + 1, 1, none⟩ (.int .i64 (deepF xs))).putObj wL.heap.size (.deferred none)).heap[w.heap.size + 1]? = some (.cells #[.int .i64 xs.length, .int .i64 (deepF xs)] 45 (0, 0)) :=
      (World.putObj_heap_other (by rw [HSL.out]; omega)).trans HR2.out
    have g0 := cell_of_row (i := 0) h5 rfl
    have g1 := cell_of_row (i := 1) h5 rfl
    refine ⟨.agg #[.int .i64 xs.length, .int .i64 (deepF xs)], by simp [results, Tryz.f25, go_sem, g0, g1], by rw [HLE.out, HDP.out], ?_⟩
    exact ((HB.out.setCell (by dsimp only; omega) _).setCell (by dsimp only; omega) _).trans ((Mod.putObj (F := fun k => k = wL.heap.size) _ _ _ rfl).below (by simp [World.setCell]; have := HSL.out; omega) (fun k (e : k = wL.heap.size) => by have := HSL.out; omega))
  case stop =>
    rintro c pre W ⟨k, hk, hkl⟩ h
    exact h.elim
end Go.Proofs.YtcallgoglnkkiaaGreatDoor
