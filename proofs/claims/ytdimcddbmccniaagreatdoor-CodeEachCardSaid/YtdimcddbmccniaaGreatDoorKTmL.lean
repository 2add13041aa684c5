/- Rows of terms, in a later world. -/
import Derived.Test.YtdimcddbmccniaaGreatDoorKNd7
import Derived.Test.YtdimcddbmccniaaGreatDoorKInts
import Derived.Test.YtdimcddbmccniaaGreatDoorKCd1
import Derived.Test.YtdimcddbmccniaaGreatDoorProg
import Derived.LoopTactic
import Derived.LoopNIn
import Derived.Shelf.Strings.Builder1
import Derived.Shelf.Strings.Builder2
import Derived.Shelf.Strings.OnBuilder
import Derived.Shelf.Strconv.Itoa0
import Derived.Shelf.Strconv.Itoa1
import Derived.Shelf.LaysM
import Derived.Shelf.Strconv.Itoa2
import Derived.Shelf.Strconv.Itoa3
import Derived.Shelf.Strconv.AppendUint10
import Derived.Shelf.Strconv.AppendInt10
import Derived.Shelf.Strconv.AppendIntPublic10
import Derived.Shelf.Strings.Prefix
import Derived.Lib.AppendIntMem
import Derived.Deep.RegionHeld
import Derived.OrdersHeld
section
set_option linter.unusedVariables false
namespace Go.Proofs.YtdimcddbmccniaaGreatDoor
open Go.RowKit Go.Shelf
attribute [local go_sem] Oper.semAt_some

def fdS (a : Nat) (p : Tm × Nat) : Nat := min (max a p.2) 65
theorem fdS_pres (d : Nat) : ∀ (l : List Tm) (a : Nat), (∀ x ∈ l, ∀ d a, 1 ≤ d → a ≤ 65 → (Tm.preD d x).foldl fdS a = min (max a (d - 1 + x.deep)) 65) → 1 ≤ d → a ≤ 65 → min (d - 1) 65 ≤ a →
    (Tm.presD d l).foldl fdS a = min (max a (d - 1 + Tm.deeps l)) 65
  | [], a, _, h1, h2, h3 => by rw [Tm.presD, List.foldl_nil, Tm.deeps]; omega
  | x :: l, a, ih, h1, h2, h3 => by
    rw [Tm.presD, List.foldl_append, ih x (by simp) d a h1 h2, fdS_pres d l _ (fun y hy => ih y (by simp [hy])) h1 (by omega) (by omega), Tm.deeps]
    omega
theorem fdS_pre (x : Tm) : ∀ d a, 1 ≤ d → a ≤ 65 → (Tm.preD d x).foldl fdS a = min (max a (d - 1 + x.deep)) 65 := by
  induction x using Tm.ind with
  | h k n s t l ih =>
    intro d a h1 h2
    rw [Tm.preD, List.foldl_cons, fdS_pres (d + 1) l _ ih (by omega) (by unfold fdS; omega) (by unfold fdS; simp only; omega), Tm.deep]
    unfold fdS; simp only; omega
def walkedD (x : Tm) : Nat := ((Tm.preD 1 x).take 4097).foldl fdS 0
theorem walkedD_small {x : Tm} (h : x.nodes ≤ 4097) : walkedD x = min x.deep 65 := by
  unfold walkedD
  rw [List.take_of_length_le (by rw [Tm.preD_len]; exact h), fdS_pre x 1 0 (by omega) (by omega)]
  omega
theorem walked_fits (x : Tm) : decide (((min 4097 x.nodes : Nat) : Int) ≤ 4096 ∧ ((walkedD x : Nat) : Int) ≤ 64) = fitsB x := by
  unfold fitsB
  by_cases h : x.nodes ≤ 4096
  · rw [walkedD_small (by omega)]
    exact decide_eq_decide.2 (by omega)
  · exact decide_eq_decide.2 (by omega)

set_option maxHeartbeats 1000000 in
theorem fits_any (a b : Int) (w : World) :
    Calls Tryz.prog 95 #[.agg #[.int .i64 a, .int .i64 b]] w fun e w' => e = .returned (.bool (decide (a ≤ 4096 ∧ b ≤ 64))) ∧ Below w.heap.size w w' := by
  have hb : Below w.heap.size w (w.alloc (.cells #[.int .i64 a, .int .i64 b] 165)) := (Below.refl _ w).alloc (Nat.le_refl _) _
  have HB := Lib.hid hb
  clear hb
  by_cases ha : a ≤ 4096
  · by_cases hb : b ≤ 64
    · go_enter Tryz.func95, Tryz.ntmps95
      go_wp2_with fail
      go_ret
      exact ⟨by rw [decide_eq_true ⟨ha, hb⟩]; rfl, HB.out⟩
    · go_enter Tryz.func95, Tryz.ntmps95
      go_wp2_with fail
      go_ret
      exact ⟨by rw [decide_eq_false (fun h => by omega)]; rfl, HB.out⟩
  · go_enter Tryz.func95, Tryz.ntmps95
    go_wp2_with fail
    go_ret
    exact ⟨by rw [decide_eq_false (fun h => by omega)]; rfl, HB.out⟩

theorem foldl_map_fdS (xs : List ND) : ∀ a, (xs.map ndK).foldl fdS a = xs.foldl (fun a p => min (max a p.2) 65) a := by
  induction xs with
  | nil => intro a; rfl
  | cons p xs ih => intro a; rw [List.map_cons, List.foldl_cons, List.foldl_cons, ih]; rfl
def deepF (xs : List ND) : Nat := xs.foldl (fun a p => min (max a p.2) 65) 0
theorem deepF_snoc (xs : List ND) (p : ND) : deepF (xs ++ [p]) = min (max (deepF xs) p.2) 65 := by unfold deepF; rw [List.foldl_append]; rfl

theorem size_put {W : World} {b : Nat} {a : Int} {q d : Nat} {T : TypeId} {z : Int} (h : W.heap[b]? = some (.cells #[.int .i64 a, .int .i64 q] T (0, 0))) (hz : z = ((min (max q d) 65 : Nat) : Int)) :
    (W.setCell ⟨b, 1, none⟩ (.int .i64 z)).heap[b]? = some (.cells #[.int .i64 a, .int .i64 (min (max q d) 65 : Nat)] T (0, 0)) := by subst hz; exact set_row _ h

set_option maxRecDepth 100000 in
set_option maxHeartbeats 4000000 in
theorem walked_any (x : Tm) (v : Value) (w : World) (hT : TmAt (· < w.heap.size) w x v) :
    Calls Tryz.prog 94 #[v] w fun e w' => e = .returned (.agg #[.int .i64 (min 4097 x.nodes : Nat), .int .i64 (walkedD x)]) ∧ Below w.heap.size w w' := by
  obtain ⟨kk, nn, s, t, L, A, cap, hx, rfl⟩ : ∃ k' n' s' t' L' A' cap', x = Tm.mk k' n' s' t' L' ∧ v = .agg #[.int .i8 k', .int .i64 n', .string s', .string t', .slice A' L'.length cap'] := by
    cases hT; exact ⟨_, _, _, _, _, _, _, rfl, rfl⟩
  have HX := Lib.hid hx
  clear hx
  obtain ⟨w1, hw1⟩ : ∃ w1, w1 = w.alloc (.cells #[.int .i8 kk, .int .i64 nn, .string s, .string t, .slice A L.length cap] 25) := ⟨_, rfl⟩
  have hs1 : w1.heap.size = w.heap.size + 1 := by rw [hw1]; simp
  obtain ⟨w2, hw2⟩ : ∃ w2, w2 = w1.alloc (.cells #[.int .i64 0, .int .i64 0] 165) := ⟨_, rfl⟩
  have hs2 : w2.heap.size = w.heap.size + 2 := by rw [hw2]; simp [hs1]
  obtain ⟨w3, hw3⟩ : ∃ w3, w3 = w2.alloc (.cells #[.int .i64 0, .int .i64 0] 165) := ⟨_, rfl⟩
  have hs3 : w3.heap.size = w.heap.size + 3 := by rw [hw3]; simp [hs2]
  have b3 : Below w.heap.size w w3 := by rw [hw3, hw2, hw1]; exact (((Below.refl _ w).alloc (Nat.le_refl _) _).alloc (by simp) _).alloc (by simp; omega) _
  have r3 : w3.heap[w.heap.size + 1]? = some (.cells #[.int .i64 0, .int .i64 0] 165) := by
    rw [hw3]
    have := World.alloc_heap_new w1 (.cells #[.int .i64 0, .int .i64 0] 165)
    rw [hs1, ← hw2] at this
    exact (Below.heap_alloc _ _ _ (by omega)).trans this
  have n3 : w3.heap[w.heap.size + 1 + 1]? = some (.cells #[.int .i64 0, .int .i64 0] 165) := by
    rw [hw3]
    have := World.alloc_heap_new w2 (.cells #[.int .i64 0, .int .i64 0] 165)
    rwa [hs2] at this
  obtain ⟨wL, hwL⟩ : ∃ wL, wL = w3.alloc (.cells #[.int .i8 kk, .int .i64 nn, .string s, .string t, .slice A L.length cap] 25) := ⟨_, rfl⟩
  have hsL : wL.heap.size = w.heap.size + 4 := by rw [hwL]; simp [hs3]
  have bL : Below w.heap.size w wL := by rw [hwL]; exact b3.alloc (by omega) _
  have HRL : Hid (wL.heap[w.heap.size + 1]? = some (.cells #[.int .i64 0, .int .i64 0] 165)) := by rw [hwL]; exact (Below.heap_alloc _ _ _ (by omega)).trans r3
  have HNL : Hid (wL.heap[w.heap.size + 1 + 1]? = some (.cells #[.int .i64 0, .int .i64 0] 165)) := by rw [hwL]; exact (Below.heap_alloc _ _ _ (by omega)).trans n3
  have hbt : wL.heap[w.heap.size + 1 + 1 + 1]? = some (.cells #[.int .i8 kk, .int .i64 nn, .string s, .string t, .slice A L.length cap] 25) := by
    rw [hwL]; have := World.alloc_heap_new w3 (.cells #[.int .i8 kk, .int .i64 nn, .string s, .string t, .slice A L.length cap] 25); rwa [hs3] at this
  have hTL : TmAt (· < w.heap.size) wL x _ := hT.under bL (Nat.le_refl _)
  have HSeq := Lib.hid (nodes7_seq (3 - 1) w.heap.size (w.heap.size + 1 + 1 + 1) x _ wL hTL (by omega) ⟨_, rfl, hbt⟩)
  have HBL := Lib.hid bL
  have HSL := Lib.hid hsL
  clear hTL hbt hsL bL b3 r3 n3 hs3 hs2 hs1 hT
  refine (callsIn_wide (n := 3)).1 ?_
  refine callsIn_of_wp_marks Tryz.func94 rfl trivial ?_ rfl
  simp only [Tryz.ntmps94, List.size_toArray, List.length_cons, List.length_nil, Nat.reduceAdd, Nat.reduceSub, Array.replicate_succ, Array.replicate_zero, List.push_toArray, List.append_toArray, List.nil_append, List.cons_append]
  gi_wp2_with (refine ⟨trivial, ?_⟩; gi_at_call 140; refine (nodes7_in _ _ _).mono ?_; rintro e w' ⟨rfl, rfl⟩)
  rw [← hw1, ← hw2, ← hw3, ← hwL]
  refine range_cells (α := ND) (gf := 168) (lb := #[.pointer (some ⟨w.heap.size + 1 + 1 + 1, 0, none⟩)]) rfl (enters_of Tryz.func168 (by kernel_rfl) rfl) (fun _ => rfl) HSeq.out (by rw [HSL.out]; omega)
    (fun pre W => W.heap[w.heap.size + 1 + 1]? = some (.cells #[.int .i64 pre.length, .int .i64 (deepF pre)] 165 (0, 0)) ∧ W.heap[w.heap.size + 1]? = some (.cells #[.int .i64 0, .int .i64 0] 165 (0, 0)) ∧ Below w.heap.size w W)
    (fun c pre W => False)
    (fun s X Y hb h => ⟨(hb.block _ (by rw [HSL.out]; omega)).trans h.1, (hb.block _ (by rw [HSL.out]; omega)).trans h.2.1, h.2.2.trans (hb.mono (by rw [HSL.out]; omega))⟩)
    (fun c s X Y hb h => h)
    ⟨HNL.out, HRL.out, HBL.out⟩
    (fun x a' W => a' = { tmps := #[.agg #[.int .i8 kk, .int .i64 nn, .string s, .string t, .slice A L.length cap], .pointer (some ⟨w.heap.size, 0, none⟩), .pointer (some ⟨w.heap.size + 1, 0, none⟩), .pointer (some ⟨w.heap.size + 1 + 1, 0, none⟩), .int .i64 x.2,
      .agg #[.int .i8 kk, .int .i64 nn, .string s, .string t, .slice A L.length cap], .func (.func 168) #[] #[.pointer (some ⟨w.heap.size + 1 + 1 + 1, 0, none⟩)], .int .i64 x.2, x.1.2, undef, undef, undef, undef, undef, undef, undef, undef, undef, undef, undef], defers := [] })
    (fun x a' X Y hm h => h) ?assign ?body ?done ?stop (by decide)
  case assign =>
    rintro l pre ⟨⟨y, u⟩, d⟩ W K hi hE hsz hK
    have HK := Lib.hid (hK _ _ (Below.refl _ W) rfl)
    clear hK hi hE
    gi_wp2
    exact HK.out
  case body =>
    rintro l pre ⟨⟨y, u⟩, d⟩ a' W ⟨hn, hr, hB⟩ hE rfl hlen hsz
    have f0 : W.frozen? ⟨w.heap.size + 1 + 1, 0, none⟩ = false := free_of_row hn
    have c0 : W.cell? ⟨w.heap.size + 1 + 1, 0, none⟩ = some (.int .i64 pre.length) := cell_of_row hn rfl
    have hn2 := set_row (.int .i64 ((pre.length : Int) + 1)) (i := 0) hn
    have c1 : (W.setCell ⟨w.heap.size + 1 + 1, 0, none⟩ (.int .i64 ((pre.length : Int) + 1))).cell? ⟨w.heap.size + 1 + 1, 1, none⟩ = some (.int .i64 (deepF pre)) := cell_of_row hn2 rfl
    have f1 : (W.setCell ⟨w.heap.size + 1 + 1, 0, none⟩ (.int .i64 ((pre.length : Int) + 1))).frozen? ⟨w.heap.size + 1 + 1, 1, none⟩ = false := free_of_row hn2
    obtain ⟨q, hq⟩ : ∃ q, q = deepF pre := ⟨_, rfl⟩
    rw [← hq] at hn hn2 c1
    have HQ := Lib.hid hq
    have HN := Lib.hid hn2
    have HR := Lib.hid hr
    have HB := Lib.hid hB
    clear hn hr hB hE hn2 hq
    have hlen' : pre.length < 4097 := hlen
    gi_wp2
    all_goals
      refine ⟨(Mod.setCell _ _ _ (.inl (by have := HSL.out; dsimp only; omega))).trans (Mod.setCell _ _ _ (.inl (by have := HSL.out; dsimp only; omega))) (fun _ _ h => h), ?_, ?_, ?_⟩
      · have e : ((pre ++ [((y, u), d)]).length : Int) = (pre.length : Int) + 1 := by simp
        rw [e, deepF_snoc, ← HQ.out]
        exact size_put HN.out (by dsimp only; omega)
      · exact (Below.heap_setCell _ _ _ _ (by simp)).trans ((Below.heap_setCell _ _ _ _ (by simp)).trans HR.out)
      · exact (HB.out.setCell (by dsimp only; omega) _).setCell (by dsimp only; omega) _
  case done =>
    rintro xs W hxs ⟨hn, hr, hB⟩ hK
    have hlen : xs.length = min 4097 x.nodes := by rw [← List.length_map (f := ndK), hxs, List.length_take, Tm.preD_len]
    have hdp : deepF xs = walkedD x := by unfold deepF walkedD; rw [← hxs, foldl_map_fdS]
    have c0 : W.cell? ⟨w.heap.size + 1 + 1, 0, none⟩ = some (.int .i64 xs.length) := cell_of_row hn rfl
    have c1 : W.cell? ⟨w.heap.size + 1 + 1, 1, none⟩ = some (.int .i64 (deepF xs)) := cell_of_row hn rfl
    have f0 : W.frozen? ⟨w.heap.size + 1, 0, none⟩ = false := free_of_row hr
    have d0 : W.cell? ⟨w.heap.size + 1, 0, none⟩ = some (.int .i64 0) := cell_of_row hr rfl
    have hr2 := set_row (.int .i64 xs.length) (i := 0) hr
    have d1 : (W.setCell ⟨w.heap.size + 1, 0, none⟩ (.int .i64 xs.length)).cell? ⟨w.heap.size + 1, 1, none⟩ = some (.int .i64 0) := cell_of_row hr2 rfl
    have f1 : (W.setCell ⟨w.heap.size + 1, 0, none⟩ (.int .i64 xs.length)).frozen? ⟨w.heap.size + 1, 1, none⟩ = false := free_of_row hr2
    have HR2 := Lib.hid (set_row (.int .i64 (deepF xs)) (i := 1) hr2)
    have HR := Lib.hid hr
    have HB := Lib.hid hB
    have HK := Lib.hid hK
    have HLE := Lib.hid hlen
    have HDP := Lib.hid hdp
    clear hn hr hr2 hB hK hxs hlen hdp
    gi_wp2
    have hD : wL.heap.size < W.heap.size := heap_lt HK.out
    have hk2 : ((W.setCell ⟨w.heap.size + 1, 0, none⟩ (.int .i64 xs.length)).setCell ⟨w.heap.size + 1, 1, none⟩ (.int .i64 (deepF xs))).heap[wL.heap.size]? = some (.deferred (some [])) :=
      (KeepsOthers.setCell _ _ _).same _ _ ((KeepsOthers.setCell W _ _).same _ _ HK.out rfl) rfl
    refine ⟨by simp, .inl ⟨_, _, rfl, run_takeDeferred hk2, ?_⟩⟩
    have h5 : (((W.setCell ⟨w.heap.size + 1, 0, none⟩ (.int .i64 xs.length)).setCell ⟨w.heap.size + 1, 1, none⟩ (.int .i64 (deepF xs))).putObj wL.heap.size (.deferred none)).heap[w.heap.size + 1]? = some (.cells #[.int .i64 xs.length, .int .i64 (deepF xs)] 165 (0, 0)) :=
      (World.putObj_heap_other (by rw [HSL.out]; omega)).trans HR2.out
    have g0 := cell_of_row (i := 0) h5 rfl
    have g1 := cell_of_row (i := 1) h5 rfl
    refine ⟨.agg #[.int .i64 xs.length, .int .i64 (deepF xs)], by simp [results, Tryz.f94, go_sem, g0, g1], by rw [HLE.out, HDP.out], ?_⟩
    exact ((HB.out.setCell (by dsimp only; omega) _).setCell (by dsimp only; omega) _).trans ((Mod.putObj (F := fun k => k = wL.heap.size) _ _ _ rfl).below (by simp [World.setCell]; have := HSL.out; omega) (fun k (e : k = wL.heap.size) => by have := HSL.out; omega))
  case stop =>
    rintro c pre W ⟨k, hk, hkl⟩ h
    exact h.elim
end Go.Proofs.YtdimcddbmccniaaGreatDoor
end
section
set_option linter.unusedVariables false
namespace Go.Proofs.YtdimcddbmccniaaGreatDoor
open Go.RowKit

def wordsRow : Array Value := #[.string ⟨#[109, 111, 100, 117, 108, 101]⟩, .string ⟨#[119, 104, 101, 110]⟩, .string ⟨#[99, 97, 115, 101]⟩, .string ⟨#[111, 102]⟩, .string ⟨#[101, 110, 100]⟩, .string ⟨#[116, 114, 121]⟩, .string ⟨#[99, 97, 116, 99, 104]⟩, .string ⟨#[114, 101, 99, 101, 105, 118, 101]⟩, .string ⟨#[97, 102, 116, 101, 114]⟩, .string ⟨#[102, 117, 110]⟩, .string ⟨#[100, 105, 118]⟩, .string ⟨#[114, 101, 109]⟩, .string ⟨#[99, 111, 110, 102, 105, 103]⟩]
def wordAt (k : Nat) : ByteArray := ⟨(wordList.getD k []).toArray⟩
def WordTab (w : World) : Prop := ∃ t fr, w.heap[5]? = some (.cells wordsRow t fr)
theorem WordTab.under {w w' : World} (h : WordTab w) (hb : Below w.heap.size w w') : WordTab w' := by
  obtain ⟨t, fr, h⟩ := h
  exact ⟨t, fr, (hb.block _ (heap_lt h)).trans h⟩
set_option maxRecDepth 100000 in
theorem words_at (w : World) : ∀ k, k < 13 → (Instr.index 275 (.agg wordsRow) (.int .i64 (k : Nat))).run Tryz.prog w = .ok (.string (wordAt k)) w
  | 0, _ => by kernel_rfl | 1, _ => by kernel_rfl | 2, _ => by kernel_rfl | 3, _ => by kernel_rfl | 4, _ => by kernel_rfl | 5, _ => by kernel_rfl | 6, _ => by kernel_rfl
  | 7, _ => by kernel_rfl | 8, _ => by kernel_rfl | 9, _ => by kernel_rfl | 10, _ => by kernel_rfl | 11, _ => by kernel_rfl | 12, _ => by kernel_rfl
  | k + 13, h => by omega
theorem wordAt_list (k : Nat) : (wordAt k).toList = wordList.getD k [] := by rw [Go.Lib.toList_data]; rfl
theorem wordL_hit (s : ByteArray) (k : Nat) (hk : k < 13) (h : s.toList = (wordAt k).toList) : wordL s.data.toList = true := by
  rw [wordAt_list, Go.Lib.toList_data] at h
  have : ∀ k, k < 13 → wordL (wordList.getD k []) = true := by decide
  rw [h]; exact this k hk
theorem wordL_miss (s : ByteArray) (h : ∀ j, j < 13 → ¬ s.toList = (wordAt j).toList) : wordL s.data.toList = false := by
  cases hw : wordL s.data.toList
  · rfl
  · unfold wordL at hw
    rw [List.any_eq_true] at hw
    obtain ⟨x, hx, he⟩ := hw
    obtain ⟨j, hj, hjx⟩ := List.getElem_of_mem hx
    have hlt : j < 13 := hj
    exact (h j hlt (by rw [wordAt_list, Go.Lib.toList_data, eq_of_beq he, ← hjx, List.getD_eq_getElem?_getD, List.getElem?_eq_getElem hj]; rfl)).elim

set_option maxRecDepth 100000 in
set_option maxHeartbeats 4000000 in
theorem sWord_any (s : ByteArray) (w : World) (hW : WordTab w) : Calls Tryz.prog 225 #[.string s] w fun e w' => e = .returned (.bool (wordL s.data.toList)) ∧ w' = w := by
  obtain ⟨t, fr, hrow⟩ := hW
  go_enter Tryz.func225, Tryz.ntmps225
  go_wp2_with (refine wpList_load_row rfl _ _ rfl 5 rfl _ _ _ _ hrow Tryz.underlying275 rfl (by kernel_rfl) ?_)
  clear hrow
  go_loopw [6] (fun i wr => ∃ k : Nat, k ≤ 13 ∧ i = .int .i64 k ∧ wr = w ∧ Hid (∀ j, j < k → ¬ s.toList = (wordAt j).toList)) (fun i _ => 13 - (intOf i).toNat)
  case atStart => exact ⟨0, by omega, rfl, rfl, fun j hj => by omega⟩
  case round =>
    obtain ⟨k, hk, rfl, hwr, HK⟩ := hrel
    subst wr
    by_cases hlt : k < 13
    · have hi := words_at w k hlt
      have hlt' : (k : Int) < 13 := by omega
      cases hb : (s.toList == (wordAt k).toList)
      · have HB := Lib.hid hb
        go_wp2_with fail
        go_roundw
        case rel =>
          refine ⟨k + 1, by omega, by go_num, trivial, fun j hj => ?_⟩
          rcases Nat.lt_or_ge j k with h | h
          · exact HK.out j h
          · obtain rfl : j = k := by omega
            exact beq_eq_false_iff_ne.1 HB.out
        case measure => simp [intOf]; omega
      · have HB := Lib.hid hb
        go_wp2_with fail
        go_ret
        exact ⟨ret_bool (wordL_hit s k hlt (eq_of_beq HB.out)).symm, rfl⟩
    · obtain rfl : k = 13 := by omega
      go_wp2_with fail
      go_ret
      exact ⟨ret_bool (wordL_miss s HK.out).symm, rfl⟩

end Go.Proofs.YtdimcddbmccniaaGreatDoor
end
section
namespace Go.Sort
end Go.Sort
namespace Go.Lib
end Go.Lib
namespace Go.Proofs
open Go.Shelf Go.RowKit Go.Sort Go.Lib
def Tryz.lays169_ren : Go.Shelf.Ren := ⟨fun | 169 => 111 | n => n, fun | 70 => 170 | 9 => 9 | 0 => 0 | 72 => 173 | 37 => 171 | 127 => 200 | 3 => 3 | 5 => 5 | n => n, fun | n => n⟩
theorem Tryz.lays169 : Go.Proofs.Lays.n169 Tryz.prog Tryz.lays169_ren := {
  mixed := by kernel_rfl
  f169 := Tryz.func111.trans (congrArg some (by kernel_rfl))
  t0 := Tryz.underlying0
  a0 := Tryz.isAgg0
  z0 := Tryz.sizeOf0
  v0 := Tryz.zeroValue0
  t3 := Tryz.underlying3
  a3 := Tryz.isAgg3
  z3 := Tryz.sizeOf3
  v3 := Tryz.zeroValue3
  t9 := Tryz.underlying9
  a9 := Tryz.isAgg9
  z9 := Tryz.sizeOf9
  v9 := Tryz.zeroValue9
  t37 := Tryz.underlying171
  a37 := Tryz.isAgg171
  z37 := Tryz.sizeOf171
  v37 := Tryz.zeroValue171
  t70 := Tryz.underlying170
  a70 := Tryz.isAgg170
  z70 := Tryz.sizeOf170
  v70 := Tryz.zeroValue170
  t72 := Tryz.underlying173
  a72 := Tryz.isAgg173
  z72 := Tryz.sizeOf173
  v72 := Tryz.zeroValue173
  t127 := Tryz.underlying200
  a127 := Tryz.isAgg200
  z127 := Tryz.sizeOf200
  v127 := Tryz.zeroValue200 }
theorem Tryz.Builder_Extra_169 : Builder.Extra Tryz.prog Tryz.lays169_ren := {
  sizeBuilder := by kernel_rfl
  liesBuilder := by kernel_rfl
  t5 := Tryz.underlying5
  a5 := Tryz.isAgg5
  z5 := Tryz.sizeOf5
  v5 := Tryz.zeroValue5
  infoByte := by kernel_rfl
  cellsByte := by kernel_rfl
  sizeByte := by kernel_rfl
  neB5 := by decide }
theorem Tryz.Builder_String (B b : Nat) (l : List UInt8) (w : World) (h : Lib.IsBuilder 173 5 B b (Lib.byteCells l) w) (h0 : l ≠ []) :
    Calls Tryz.prog 111 #[.pointer (some ⟨b, 0, none⟩)] w fun e w' => e = .returned (.string ⟨l.toArray⟩) ∧ Below B w w' := Any.Builder_String Tryz.lays169 Tryz.Builder_Extra_169 B b l w h h0
def Tryz.lays156_ren : Go.Shelf.Ren := ⟨fun | 156 => 108 | 165 => 146 | 166 => 107 | 169 => 111 | 240 => 145 | 241 => 203 | 276 => 202 | 277 => 231 | n => n, fun | 31 => 36 | 9 => 9 | 3 => 3 | 4 => 4 | 0 => 0 | 20 => 20 | 72 => 173 | 76 => 174 | 70 => 170 | 37 => 171 | 75 => 60 | 127 => 200 | 164 => 100 | 5 => 5 | 80 => 180 | n => n, fun | n => n⟩
theorem Tryz.lays156 : Go.Proofs.Lays.n156 Tryz.prog Tryz.lays156_ren := {
  mixed := by kernel_rfl
  f156 := Tryz.func108.trans (congrArg some (by kernel_rfl))
  f165 := Tryz.func146.trans (congrArg some (by kernel_rfl))
  f166 := Tryz.func107.trans (congrArg some (by kernel_rfl))
  f169 := Tryz.func111.trans (congrArg some (by kernel_rfl))
  f240 := Tryz.func145.trans (congrArg some (by kernel_rfl))
  f241 := Tryz.func203.trans (congrArg some (by kernel_rfl))
  f276 := Tryz.func202.trans (congrArg some (by kernel_rfl))
  f277 := Tryz.func231.trans (congrArg some (by kernel_rfl))
  t0 := Tryz.underlying0
  a0 := Tryz.isAgg0
  z0 := Tryz.sizeOf0
  v0 := Tryz.zeroValue0
  t3 := Tryz.underlying3
  a3 := Tryz.isAgg3
  z3 := Tryz.sizeOf3
  v3 := Tryz.zeroValue3
  t4 := Tryz.underlying4
  a4 := Tryz.isAgg4
  z4 := Tryz.sizeOf4
  v4 := Tryz.zeroValue4
  t9 := Tryz.underlying9
  a9 := Tryz.isAgg9
  z9 := Tryz.sizeOf9
  v9 := Tryz.zeroValue9
  t20 := Tryz.underlying20
  a20 := Tryz.isAgg20
  z20 := Tryz.sizeOf20
  v20 := Tryz.zeroValue20
  t31 := Tryz.underlying36
  a31 := Tryz.isAgg36
  z31 := Tryz.sizeOf36
  v31 := Tryz.zeroValue36
  t37 := Tryz.underlying171
  a37 := Tryz.isAgg171
  z37 := Tryz.sizeOf171
  v37 := Tryz.zeroValue171
  t70 := Tryz.underlying170
  a70 := Tryz.isAgg170
  z70 := Tryz.sizeOf170
  v70 := Tryz.zeroValue170
  t72 := Tryz.underlying173
  a72 := Tryz.isAgg173
  z72 := Tryz.sizeOf173
  v72 := Tryz.zeroValue173
  t75 := Tryz.underlying60
  a75 := Tryz.isAgg60
  z75 := Tryz.sizeOf60
  v75 := Tryz.zeroValue60
  t76 := Tryz.underlying174
  a76 := Tryz.isAgg174
  z76 := Tryz.sizeOf174
  v76 := Tryz.zeroValue174
  t127 := Tryz.underlying200
  a127 := Tryz.isAgg200
  z127 := Tryz.sizeOf200
  v127 := Tryz.zeroValue200
  t164 := Tryz.underlying100
  a164 := Tryz.isAgg100
  z164 := Tryz.sizeOf100
  v164 := Tryz.zeroValue100 }
theorem Tryz.Builder_Extra_156 : Builder.Extra Tryz.prog Tryz.lays156_ren := {
  sizeBuilder := by kernel_rfl
  liesBuilder := by kernel_rfl
  t5 := Tryz.underlying5
  a5 := Tryz.isAgg5
  z5 := Tryz.sizeOf5
  v5 := Tryz.zeroValue5
  infoByte := by kernel_rfl
  cellsByte := by kernel_rfl
  sizeByte := by kernel_rfl
  neB5 := by decide }
theorem Tryz.strings_Join (bk o c : Nat) (xs : List ByteArray) (sep : ByteArray) (w : World) (hcells : ∀ (j : Nat) x, xs[j]? = some x → w.cell? ⟨bk, o + j, none⟩ = some (.string x)) (hbk : bk < w.heap.size) (hN : xs.length ≤ 140737488355328) (hcap : xs.length ≤ c) (hlen : (Lib.join (xs.map (·.data.toList)) sep.data.toList).length ≤ 140737488355328) :
    Calls Tryz.prog 108 #[.slice (some ⟨bk, o, none⟩) xs.length c, .string sep] w fun e w' => e = .returned (.string ⟨(Lib.join (xs.map (·.data.toList)) sep.data.toList).toArray⟩) ∧ Below w.heap.size w w' := Any.strings_Join Tryz.lays156 Tryz.Builder_Extra_156 bk o c xs sep w hcells hbk hN hcap hlen
def Tryz.laysM171_ren : Go.Shelf.Ren := ⟨fun | 171 => 73 | 243 => 112 | 246 => 148 | 283 => 205 | 284 => 206 | 285 => 207 | 286 => 208 | 129 => 237 | 317 => 236 | 318 => 238 | 319 => 239 | 320 => 240 | 337 => 263 | 338 => 264 | n => n, fun | 3 => 3 | 9 => 9 | 2 => 2 | 4 => 4 | 171 => 214 | 0 => 0 | 53 => 215 | 37 => 171 | 5 => 5 | 173 => 218 | 212 => 261 | 51 => 262 | 20 => 20 | 213 => 263 | 46 => 264 | 232 => 282 | 233 => 283 | n => n, fun | 17 => 4 | 18 => 7 | 19 => 8 | n => n⟩
theorem Tryz.laysM171 : Go.Proofs.LaysM.n171 Tryz.prog Tryz.laysM171_ren := {
  mixed := by kernel_rfl
  f129 := Tryz.func237.trans (congrArg some (by kernel_rfl))
  f171 := Tryz.func73.trans (congrArg some (by kernel_rfl))
  f243 := Tryz.func112.trans (congrArg some (by kernel_rfl))
  f246 := Tryz.func148.trans (congrArg some (by kernel_rfl))
  f283 := Tryz.func205.trans (congrArg some (by kernel_rfl))
  f284 := Tryz.func206.trans (congrArg some (by kernel_rfl))
  f285 := Tryz.func207.trans (congrArg some (by kernel_rfl))
  f286 := Tryz.func208.trans (congrArg some (by kernel_rfl))
  f317 := Tryz.func236.trans (congrArg some (by kernel_rfl))
  f318 := Tryz.func238.trans (congrArg some (by kernel_rfl))
  f319 := Tryz.func239.trans (congrArg some (by kernel_rfl))
  f320 := Tryz.func240.trans (congrArg some (by kernel_rfl))
  f337 := Tryz.func263.trans (congrArg some (by kernel_rfl))
  f338 := Tryz.func264.trans (congrArg some (by kernel_rfl))
  t0 := Tryz.underlying0
  a0 := Tryz.isAgg0
  z0 := Tryz.sizeOf0
  v0 := Tryz.zeroValue0
  t2 := Tryz.underlying2
  a2 := Tryz.isAgg2
  z2 := Tryz.sizeOf2
  v2 := Tryz.zeroValue2
  t3 := Tryz.underlying3
  a3 := Tryz.isAgg3
  z3 := Tryz.sizeOf3
  v3 := Tryz.zeroValue3
  t4 := Tryz.underlying4
  a4 := Tryz.isAgg4
  z4 := Tryz.sizeOf4
  v4 := Tryz.zeroValue4
  t5 := Tryz.underlying5
  a5 := Tryz.isAgg5
  z5 := Tryz.sizeOf5
  v5 := Tryz.zeroValue5
  t9 := Tryz.underlying9
  a9 := Tryz.isAgg9
  z9 := Tryz.sizeOf9
  v9 := Tryz.zeroValue9
  t20 := Tryz.underlying20
  a20 := Tryz.isAgg20
  z20 := Tryz.sizeOf20
  v20 := Tryz.zeroValue20
  t37 := Tryz.underlying171
  a37 := Tryz.isAgg171
  z37 := Tryz.sizeOf171
  v37 := Tryz.zeroValue171
  t46 := Tryz.underlying264
  a46 := Tryz.isAgg264
  z46 := Tryz.sizeOf264
  v46 := Tryz.zeroValue264
  t51 := Tryz.underlying262
  a51 := Tryz.isAgg262
  z51 := Tryz.sizeOf262
  v51 := Tryz.zeroValue262
  t53 := Tryz.underlying215
  a53 := Tryz.isAgg215
  z53 := Tryz.sizeOf215
  v53 := Tryz.zeroValue215
  t171 := Tryz.underlying214
  a171 := Tryz.isAgg214
  z171 := Tryz.sizeOf214
  v171 := Tryz.zeroValue214
  t173 := Tryz.underlying218
  a173 := Tryz.isAgg218
  z173 := Tryz.sizeOf218
  v173 := Tryz.zeroValue218
  t212 := Tryz.underlying261
  a212 := Tryz.isAgg261
  z212 := Tryz.sizeOf261
  v212 := Tryz.zeroValue261
  t213 := Tryz.underlying263
  a213 := Tryz.isAgg263
  z213 := Tryz.sizeOf263
  t232 := Tryz.underlying282
  a232 := Tryz.isAgg282
  z232 := Tryz.sizeOf282
  v232 := Tryz.zeroValue282
  t233 := Tryz.underlying283
  a233 := Tryz.isAgg283
  z233 := Tryz.sizeOf283
  v233 := Tryz.zeroValue283
  g17 := by kernel_rfl
  g18 := by kernel_rfl
  g19 := by kernel_rfl
  i0 := by kernel_rfl
  i2 := by kernel_rfl
  i3 := by kernel_rfl
  i4 := by kernel_rfl
  i5 := by kernel_rfl
  i9 := by kernel_rfl
  i20 := by kernel_rfl
  i37 := by kernel_rfl
  i46 := by kernel_rfl
  i51 := by kernel_rfl
  i53 := by kernel_rfl
  i171 := by kernel_rfl
  i173 := by kernel_rfl
  i212 := by kernel_rfl
  i232 := by kernel_rfl
  i233 := by kernel_rfl
  m17 := by kernel_rfl
  m18 := by kernel_rfl
  m19 := by kernel_rfl }
theorem Tryz.strconv_Itoa (n : Int) (h0 : -9223372036854775808 ≤ n) (h1 : n ≤ 9223372036854775807) (w : World) (htab : Lib.TabIs Tryz.prog w "internal/strconv.uint64pow10" .u64 Lib.pow10Tab) :
    Calls Tryz.prog 73 #[.int .i64 n] w fun e w' => e = .returned (.string ⟨(Lib.itoa n).toArray⟩) ∧ ∃ k os, w' = grow (w.drewN k) os := Any.strconv_Itoa Tryz.laysM171 n h0 h1 w htab
def Tryz.laysM176_ren : Go.Shelf.Ren := ⟨fun | 176 => 261 | 249 => 268 | 288 => 270 | 283 => 205 | 284 => 206 | 285 => 207 | 286 => 208 | 129 => 237 | 317 => 236 | 318 => 238 | 319 => 239 | 320 => 240 | 337 => 263 | 338 => 264 | n => n, fun | 37 => 171 | 2 => 2 | 3 => 3 | 53 => 215 | 4 => 4 | 9 => 9 | 171 => 214 | 0 => 0 | 173 => 218 | 212 => 261 | 51 => 262 | 5 => 5 | 20 => 20 | 213 => 263 | 46 => 264 | 232 => 282 | 233 => 283 | n => n, fun | 17 => 4 | 18 => 7 | 19 => 8 | n => n⟩
theorem Tryz.laysM176 : Go.Proofs.LaysM.n176 Tryz.prog Tryz.laysM176_ren := {
  mixed := by kernel_rfl
  f129 := Tryz.func237.trans (congrArg some (by kernel_rfl))
  f176 := Tryz.func261.trans (congrArg some (by kernel_rfl))
  f249 := Tryz.func268.trans (congrArg some (by kernel_rfl))
  f283 := Tryz.func205.trans (congrArg some (by kernel_rfl))
  f284 := Tryz.func206.trans (congrArg some (by kernel_rfl))
  f285 := Tryz.func207.trans (congrArg some (by kernel_rfl))
  f286 := Tryz.func208.trans (congrArg some (by kernel_rfl))
  f288 := Tryz.func270.trans (congrArg some (by kernel_rfl))
  f317 := Tryz.func236.trans (congrArg some (by kernel_rfl))
  f318 := Tryz.func238.trans (congrArg some (by kernel_rfl))
  f319 := Tryz.func239.trans (congrArg some (by kernel_rfl))
  f320 := Tryz.func240.trans (congrArg some (by kernel_rfl))
  f337 := Tryz.func263.trans (congrArg some (by kernel_rfl))
  f338 := Tryz.func264.trans (congrArg some (by kernel_rfl))
  t0 := Tryz.underlying0
  a0 := Tryz.isAgg0
  z0 := Tryz.sizeOf0
  v0 := Tryz.zeroValue0
  t2 := Tryz.underlying2
  a2 := Tryz.isAgg2
  z2 := Tryz.sizeOf2
  v2 := Tryz.zeroValue2
  t3 := Tryz.underlying3
  a3 := Tryz.isAgg3
  z3 := Tryz.sizeOf3
  v3 := Tryz.zeroValue3
  t4 := Tryz.underlying4
  a4 := Tryz.isAgg4
  z4 := Tryz.sizeOf4
  v4 := Tryz.zeroValue4
  t5 := Tryz.underlying5
  a5 := Tryz.isAgg5
  z5 := Tryz.sizeOf5
  v5 := Tryz.zeroValue5
  t9 := Tryz.underlying9
  a9 := Tryz.isAgg9
  z9 := Tryz.sizeOf9
  v9 := Tryz.zeroValue9
  t20 := Tryz.underlying20
  a20 := Tryz.isAgg20
  z20 := Tryz.sizeOf20
  v20 := Tryz.zeroValue20
  t37 := Tryz.underlying171
  a37 := Tryz.isAgg171
  z37 := Tryz.sizeOf171
  v37 := Tryz.zeroValue171
  t46 := Tryz.underlying264
  a46 := Tryz.isAgg264
  z46 := Tryz.sizeOf264
  v46 := Tryz.zeroValue264
  t51 := Tryz.underlying262
  a51 := Tryz.isAgg262
  z51 := Tryz.sizeOf262
  v51 := Tryz.zeroValue262
  t53 := Tryz.underlying215
  a53 := Tryz.isAgg215
  z53 := Tryz.sizeOf215
  v53 := Tryz.zeroValue215
  t171 := Tryz.underlying214
  a171 := Tryz.isAgg214
  z171 := Tryz.sizeOf214
  v171 := Tryz.zeroValue214
  t173 := Tryz.underlying218
  a173 := Tryz.isAgg218
  z173 := Tryz.sizeOf218
  v173 := Tryz.zeroValue218
  t212 := Tryz.underlying261
  a212 := Tryz.isAgg261
  z212 := Tryz.sizeOf261
  v212 := Tryz.zeroValue261
  t213 := Tryz.underlying263
  a213 := Tryz.isAgg263
  z213 := Tryz.sizeOf263
  t232 := Tryz.underlying282
  a232 := Tryz.isAgg282
  z232 := Tryz.sizeOf282
  v232 := Tryz.zeroValue282
  t233 := Tryz.underlying283
  a233 := Tryz.isAgg283
  z233 := Tryz.sizeOf283
  v233 := Tryz.zeroValue283
  g17 := by kernel_rfl
  g18 := by kernel_rfl
  g19 := by kernel_rfl
  i0 := by kernel_rfl
  i2 := by kernel_rfl
  i3 := by kernel_rfl
  i4 := by kernel_rfl
  i5 := by kernel_rfl
  i9 := by kernel_rfl
  i20 := by kernel_rfl
  i37 := by kernel_rfl
  i46 := by kernel_rfl
  i51 := by kernel_rfl
  i53 := by kernel_rfl
  i171 := by kernel_rfl
  i173 := by kernel_rfl
  i212 := by kernel_rfl
  i232 := by kernel_rfl
  i233 := by kernel_rfl
  m17 := by kernel_rfl
  m18 := by kernel_rfl
  m19 := by kernel_rfl }
theorem Tryz.strconv_AppendInt_10 (B n : Nat) (i : Int) (h0 : -9223372036854775808 ≤ i) (h1 : i ≤ 9223372036854775807) (sv : Value) (xs : List Value) (w : World) (hown : w.ownsRow B 5 1 sv n xs) (hBw : B ≤ w.heap.size) (hlim : n + 21 ≤ 140737488355328) (htab : Lib.TabBelow Tryz.prog B w "internal/strconv.uint64pow10" .u64 Lib.pow10Tab) :
    Calls Tryz.prog 261 #[sv, .int .i64 i, .int .i64 10] w fun e w' => ∃ v', e = .returned v' ∧ w'.ownsRow B 5 1 v' (n + (Lib.itoa i).length) (xs ++ Lib.byteCells (Lib.itoa i)) ∧ Below B w w' ∧ Lib.OthersKept 5 none w w' := Any.strconv_AppendInt_10 Tryz.laysM176 B n i h0 h1 sv xs w hown hBw hlim htab
def Tryz.lays101_ren : Go.Shelf.Ren := ⟨fun | 101 => 259 | 208 => 267 | 206 => 269 | n => n, fun | 9 => 9 | 4 => 4 | 3 => 3 | n => n, fun | n => n⟩
theorem Tryz.lays101 : Go.Proofs.Lays.n101 Tryz.prog Tryz.lays101_ren := {
  mixed := by kernel_rfl
  f101 := Tryz.func259.trans (congrArg some (by kernel_rfl))
  f206 := Tryz.func269.trans (congrArg some (by kernel_rfl))
  f208 := Tryz.func267.trans (congrArg some (by kernel_rfl))
  t3 := Tryz.underlying3
  a3 := Tryz.isAgg3
  z3 := Tryz.sizeOf3
  v3 := Tryz.zeroValue3
  t4 := Tryz.underlying4
  a4 := Tryz.isAgg4
  z4 := Tryz.sizeOf4
  v4 := Tryz.zeroValue4
  t9 := Tryz.underlying9
  a9 := Tryz.isAgg9
  z9 := Tryz.sizeOf9
  v9 := Tryz.zeroValue9 }
theorem Tryz.strings_TrimPrefix (s p : ByteArray) (w : World) :
    Calls Tryz.prog 259 #[.string s, .string p] w fun e w' => e = .returned (.string ⟨(Lib.trimPrefix s.data.toList p.data.toList).toArray⟩) ∧ w' = w := Any.strings_TrimPrefix Tryz.lays101 s p w
end Go.Proofs
end
section
set_option linter.unusedVariables false
namespace Go.Proofs.YtdimcddbmccniaaGreatDoor
open Go.RowKit

def naturesRow : Array Value := #[.int .u16 1, .int .u8 8, .int .u16 2, .int .u8 10, .int .u16 4, .int .u8 11, .int .u16 8, .int .u8 9, .int .u16 16, .int .u8 8, .int .u16 448, .int .u8 2, .int .u16 448, .int .u8 1, .int .u16 448, .int .u8 2, .int .u16 448, .int .u8 0, .int .u16 448, .int .u8 8, .int .u16 448, .int .u8 8,
  .int .u16 352, .int .u8 10, .int .u16 32, .int .u8 10, .int .u16 256, .int .u8 8, .int .u16 256, .int .u8 10, .int .u16 256, .int .u8 14, .int .u16 256, .int .u8 8, .int .u16 256, .int .u8 7, .int .u16 256, .int .u8 8, .int .u16 256, .int .u8 8, .int .u16 256, .int .u8 9, .int .u16 512, .int .u8 8]
def Natures (w : World) : Prop := ∃ t fr, w.heap[2]? = some (.cells naturesRow t fr)
def PowTab7 (w : World) : Prop := (Tryz.prog.globalNamed "internal/strconv.uint64pow10").isSome = true → Go.Lib.TabIs Tryz.prog w "internal/strconv.uint64pow10" .u64 Go.Lib.pow10Tab
structure Env7 (w : World) : Prop where
  spans : Spans w
  words : WordTab w
  nats : Natures w
  pow : PowTab7 w
theorem Env7.under {w w' : World} (h : Env7 w) (hb : Below w.heap.size w w') : Env7 w' := by
  refine ⟨h.spans.below hb h.spans.lt, h.words.under hb, ?_, fun hp => Go.Lib.tabBelow_of_tabIs (h.pow hp) _ hb⟩
  obtain ⟨t, fr, h⟩ := h.nats
  exact ⟨t, fr, (hb.block _ (heap_lt h)).trans h⟩
theorem env7_E : ∀ w w', Env7 w → Below w.heap.size w w' → Env7 w' := fun _ _ h b => h.under b

def plN (j : Nat) : Int := [1, 2, 4, 8, 16, 448, 448, 448, 448, 448, 448, 352, 32, 256, 256, 256, 256, 256, 256, 256, 256, 512].getD j 0
def flN (j : Nat) : Int := [8, 10, 11, 9, 8, 2, 1, 2, 0, 8, 8, 10, 10, 8, 10, 14, 8, 7, 8, 8, 9, 8].getD j 0
theorem nats_row : ∀ j, j < 22 → naturesRow[j * 2]? = some (.int .u16 (plN j)) ∧ naturesRow[j * 2 + 1]? = some (.int .u8 (flN j))
  | 0, _ => ⟨rfl, rfl⟩ | 1, _ => ⟨rfl, rfl⟩ | 2, _ => ⟨rfl, rfl⟩ | 3, _ => ⟨rfl, rfl⟩ | 4, _ => ⟨rfl, rfl⟩ | 5, _ => ⟨rfl, rfl⟩ | 6, _ => ⟨rfl, rfl⟩ | 7, _ => ⟨rfl, rfl⟩ | 8, _ => ⟨rfl, rfl⟩ | 9, _ => ⟨rfl, rfl⟩ | 10, _ => ⟨rfl, rfl⟩
  | 11, _ => ⟨rfl, rfl⟩ | 12, _ => ⟨rfl, rfl⟩ | 13, _ => ⟨rfl, rfl⟩ | 14, _ => ⟨rfl, rfl⟩ | 15, _ => ⟨rfl, rfl⟩ | 16, _ => ⟨rfl, rfl⟩ | 17, _ => ⟨rfl, rfl⟩ | 18, _ => ⟨rfl, rfl⟩ | 19, _ => ⟨rfl, rfl⟩ | 20, _ => ⟨rfl, rfl⟩ | 21, _ => ⟨rfl, rfl⟩
  | j + 22, h => by omega
theorem nats_cell {w : World} (h : Natures w) (j : Nat) (hj : j < 22) : w.cell? ⟨2, j * 2, none⟩ = some (.int .u16 (plN j)) ∧ w.cell? ⟨2, j * 2 + 1, none⟩ = some (.int .u8 (flN j)) := by
  obtain ⟨t, fr, h⟩ := h
  exact ⟨cell_of_row h (nats_row j hj).1, cell_of_row h (nats_row j hj).2⟩

def blankB (n : Int) (s t : ByteArray) (len : Nat) (f : Int) : Bool :=
  (n == 0 || bits .and .u8 f 1 != 0) && ((s.toList.isEmpty || bits .and .u8 f 2 != 0) && ((t.toList.isEmpty || bits .and .u8 f 4 != 0) && (((len : Int) == 0) || bits .and .u8 f 8 != 0)))
set_option maxHeartbeats 2000000 in
set_option maxRecDepth 100000 in
theorem blank_any (n k : Int) (s t : ByteArray) (A : Option Addr) (len cap : Nat) (f : Int) (w : World) :
    Calls Tryz.prog 141 #[.agg #[.int .i8 k, .int .i64 n, .string s, .string t, .slice A len cap], .int .u8 f] w fun e w' => e = .returned (.bool (blankB n s t len f)) ∧ Below w.heap.size w w' := by
  obtain ⟨R, hR⟩ : ∃ R, R = blankB n s t len f := ⟨_, rfl⟩
  have HR := Lib.hid hR
  rw [← hR]
  clear hR
  go_enter Tryz.func141, Tryz.ntmps141
  go_wp2_with fail
  all_goals
    go_ret
    exact ⟨ret_bool (by have h := HR.out; rw [h]; unfold blankB; simp_all [Bool.and_assoc]), (Below.refl _ w).alloc (Nat.le_refl _) _⟩
end Go.Proofs.YtdimcddbmccniaaGreatDoor
end
section
set_option linter.unusedVariables false
namespace Go.Proofs.YtdimcddbmccniaaGreatDoor
open Go.RowKit

theorem TRow.later {w V : World} {A : Option Addr} {n cap : Nat} {l : List Tm} (h : TRow (· < w.heap.size) w A n cap l) (hb : Below w.heap.size w V) : TRow (· < V.heap.size) V A n cap l :=
  h.keep (fun b hb' => hb.block b hb') (fun b hb' => Nat.lt_of_lt_of_le hb' hb.size)
end Go.Proofs.YtdimcddbmccniaaGreatDoor
end
