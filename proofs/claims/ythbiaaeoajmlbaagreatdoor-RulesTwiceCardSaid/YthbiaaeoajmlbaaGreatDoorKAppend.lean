/- 'xs = append(xs, ..)' to a row of the call's own: where the longer row lies: in the row's own block, or in a new one. -/
import Derived.Test.YthbiaaeoajmlbaaGreatDoorKRName7
import Derived.Test.YthbiaaeoajmlbaaGreatDoorKFnsR9
import Derived.Test.YthbiaaeoajmlbaaGreatDoorKMorP9
import Derived.Test.YthbiaaeoajmlbaaGreatDoorKTm
section
set_option linter.unusedVariables false
set_option linter.unusedSimpArgs false
namespace Go.Proofs.YthbiaaeoajmlbaaGreatDoor
open Go.RowKit Go.Shelf
attribute [local go_sem] Oper.semAt_some

def findT (key : Fn9) : List (Fn9 × Tm) → Option Tm
  | [] => none
  | q :: l => if q.1 = key then some q.2 else findT key l
theorem findT_none {key : Fn9} : ∀ {l : List (Fn9 × Tm)}, (∀ q ∈ l, q.1 ≠ key) → findT key l = none
  | [], _ => rfl
  | q :: l, h => by rw [findT, if_neg (h q List.mem_cons_self), findT_none (fun z hz => h z (List.mem_cons_of_mem _ hz))]
theorem findT_at {key : Fn9} : ∀ {l : List (Fn9 × Tm)} {j : Nat} {q : Fn9 × Tm}, l[j]? = some q → (∀ z ∈ l.take j, z.1 ≠ key) → q.1 = key → findT key l = some q.2
  | [], j, q, h, _, _ => by simp at h
  | z :: l, 0, q, h, _, hq => by
    simp at h; subst h
    rw [findT, if_pos hq]
  | z :: l, j + 1, q, h, hn, hq => by
    rw [findT, if_neg (hn z (by rw [List.take_succ_cons]; exact List.mem_cons_self))]
    exact findT_at (by simpa using h) (fun y hy => hn y (by rw [List.take_succ_cons]; exact List.mem_cons_of_mem _ hy)) hq
def FiI (w7 : World) (key : Fn9) (pre : List FnI) (W : World) : Prop := Below w7.heap.size w7 W ∧ ∀ q ∈ pre, q.1 ≠ key
def FiX (w w7 : World) (key : Fn9) (c : Code) (W : World) (x : Tm) : Prop := c = .ret ∧ ∃ y k' n' s' t' A' m' c', findT key (fns9T x) = some y ∧ TmAt (· < w.heap.size) w y (.agg #[.int .i8 k', .int .i64 n', .string s', .string t', .slice A' m' c']) ∧
  W.heap[w.heap.size + 4]? = some (.cells #[.int .i8 k', .int .i64 n', .string s', .string t', .slice A' m' c'] 25 (0, 0)) ∧ W.heap[w.heap.size + 5]? = some (.cells #[.bool true] 4 (0, 0)) ∧ Below w.heap.size w W ∧ w7.heap.size ≤ W.heap.size
theorem FiI.soft {w7 A C : World} {key : Fn9} {pre : List FnI} (h : FiI w7 key pre A) (hs : Soft w7.heap.size A C) : FiI w7 key pre C := ⟨h.1.trans hs.below, h.2⟩
theorem FiX.soft {w w7 A C : World} {key : Fn9} {c : Code} {x : Tm} (h : FiX w w7 key c A x) (hs : Soft w7.heap.size A C) (hw : w.heap.size ≤ w7.heap.size) : FiX w w7 key c C x := by
  obtain ⟨h0, y, k', n', s', t', A', m', c', h1, h2, h3, h4, h5, h6⟩ := h
  exact ⟨h0, y, k', n', s', t', A', m', c', h1, h2, hs.same _ _ h3 (.inl rfl), hs.same _ _ h4 (.inl rfl), h5.trans (hs.below.mono hw), Nat.le_trans h6 hs.below.size⟩
set_option maxHeartbeats 16000000 in
set_option maxRecDepth 100000 in
theorem find_any (x : Tm) (nv : Value) (md nm : ByteArray) (ar : Int) (w : World) (hT : TmAt (· < w.heap.size) w x nv) (hN : x.nodes ≤ 8200) (hE : Env7 w) :
    Calls Tryz.prog 17 #[nv, .string md, .string nm, .int .i64 ar] w fun e w' => ∃ v, (∃ k' n' s' t' A' m' c', v = .agg #[.int .i8 k', .int .i64 n', .string s', .string t', .slice A' m' c']) ∧ e = .returned (.tuple #[v, .bool (findT (md, nm, ar) (fns9T x)).isSome]) ∧ (∀ y, findT (md, nm, ar) (fns9T x) = some y → TmAt (· < w'.heap.size) w' y v) ∧ Below w.heap.size w w' := by
  obtain ⟨k, n, s, t, L, A, cap, hx, rfl⟩ : ∃ k' n' s' t' L' A' cap', x = Tm.mk k' n' s' t' L' ∧ nv = .agg #[.int .i8 k', .int .i64 n', .string s', .string t', .slice A' L'.length cap'] := by
    cases hT; exact ⟨_, _, _, _, _, _, _, rfl, rfl⟩
  obtain ⟨w7, hw7⟩ : ∃ w7, w7 = (((((((w.alloc (.cells #[.int .i8 k, .int .i64 n, .string s, .string t, .slice A L.length cap] 25)).alloc (.cells #[.string md] 9)).alloc (.cells #[.string nm] 9)).alloc (.cells #[.int .i64 ar] 3)).alloc (.cells #[.int .i8 0, .int .i64 0, .string ⟨#[]⟩, .string ⟨#[]⟩, .slice none 0 0] 25)).alloc (.cells #[.bool false] 4)).alloc (.cells #[.int .i8 k, .int .i64 n, .string s, .string t, .slice A L.length cap] 25)) := ⟨_, rfl⟩
  obtain ⟨g0, g1, g2, g3, g4, g5, g6, b7, z7⟩ := allocs7_at w _ _ _ _ _ _ _ w7 hw7
  have a0 := block_alloc w (.cells #[.int .i8 k, .int .i64 n, .string s, .string t, .slice A L.length cap] 25)
  have hst := fns1_seq w.heap.size (w.heap.size + 6) x _ (3 - 1) w7 (hT.under b7 (Nat.le_refl _)) (by omega) (hE.under b7) hN g6
  have HST := Lib.hid hst
  have HZ := Lib.hid z7
  have HB7 := Lib.hid b7
  have HG := Lib.hid (And.intro g1 (And.intro g2 (And.intro g3 (And.intro g4 g5))))
  have HT := Lib.hid hT
  clear hst z7 b7 g0 g1 g2 g3 g4 g5 g6 hT hN hE a0 hx
  refine (callsIn_wide (n := 3)).1 ?_
  refine callsIn_of_wp_marks Tryz.func17 rfl trivial ?_ rfl
  simp only [Tryz.ntmps17, List.size_toArray, List.length_cons, List.length_nil, Nat.reduceAdd, Nat.reduceSub, Array.replicate_succ, Array.replicate_zero, List.push_toArray, List.append_toArray, List.nil_append, List.cons_append]
  gi_wp2_with (refine ⟨trivial, ?_⟩; gi_at_call 69; refine (functions_in _ _ _).mono ?_; rintro e w' ⟨rfl, rfl⟩)
  simp only [Nat.add_assoc, Nat.reduceAdd]
  rw [← hw7]
  clear hw7
  refine range_E (α := FnI) (gf := 126) (lb := #[.pointer (some ⟨w.heap.size + 6, 0, none⟩)]) rfl (enters_of Tryz.func126 (by kernel_rfl) rfl) (fun _ => rfl) HST.out
    KpN.trans (fun W l o o' hl h ho => KpN.put (by have := HZ.out; omega) h ho) (fun A C h => KpN.of_below h)
    (FiI w7 (md, nm, ar)) (fun c _ W => FiX w w7 (md, nm, ar) c W x) (fun s A C h hs _ => h.soft hs) (fun c s A C h hs _ => h.soft hs (by have := HZ.out; omega))
    ⟨Below.refl _ _, fun q hq => by cases hq⟩
    (fun q a' W => a'.defers = [] ∧ ∃ g k' n' s' t' A' m' c', q.2.2 = .agg #[.int .i8 k', .int .i64 n', .string s', .string t', .slice A' m' c'] ∧ a'.tmps = #[.agg #[.int .i8 k, .int .i64 n, .string s, .string t, .slice A L.length cap], .string md, .string nm, .int .i64 ar, .pointer (some ⟨w.heap.size, 0, none⟩), .pointer (some ⟨w.heap.size + 1, 0, none⟩), .pointer (some ⟨w.heap.size + 2, 0, none⟩), .pointer (some ⟨w.heap.size + 3, 0, none⟩), .pointer (some ⟨w.heap.size + 4, 0, none⟩), .pointer (some ⟨w.heap.size + 5, 0, none⟩), .pointer (some ⟨g, 0, none⟩), .pointer (some ⟨g + 1, 0, none⟩), .agg #[.int .i8 k, .int .i64 n, .string s, .string t, .slice A L.length cap],
      .func (.func 126) #[] #[.pointer (some ⟨w.heap.size + 6, 0, none⟩)], fnV q.1, q.2.2, undef, undef, undef, undef, undef, undef, undef, undef] ∧ W.heap[g]? = some (.cells (fnCells q.1).toArray 99 (0, 0)) ∧ W.heap[g + 1]? = some (.cells #[.int .i8 k', .int .i64 n', .string s', .string t', .slice A' m' c'] 25 (0, 0)))
      (fun q a' X Y h hs => ⟨h.1, by obtain ⟨g, k', n', s', t', A', m', c', e, e2, hg, hg2⟩ := h.2; exact ⟨g, k', n', s', t', A', m', c', e, e2, hs.same _ _ hg (.inl rfl), hs.same _ _ hg2 (.inl rfl)⟩⟩) ?assign ?body ?done ?stop (by decide)
  case assign =>
    rintro l' pre ⟨q1, q2, q3⟩ W K hi ⟨j, hpre, hq, hqT⟩ hz hK
    dsimp only at hqT
    obtain ⟨k', n', s', t', l', hq2⟩ : ∃ k' n' s' t' l', q2 = Tm.mk k' n' s' t' l' := by cases q2; exact ⟨_, _, _, _, _, rfl⟩
    subst hq2
    obtain ⟨A', c', hq3, -⟩ := hqT.parts
    subst hq3
    have HK := Lib.hid hK
    simp only [encF, fnV]
    clear hK hi hpre hq hqT
    gi_wp2_with fail
    refine HK.out _ _ (((Below.refl _ _).alloc (Nat.le_refl _) _).alloc (by simp) _) ⟨rfl, _, _, _, _, _, _, _, _, rfl, ?_, (Below.heap_alloc _ _ _ (by simp)).trans (block_alloc _ _), ?_⟩
    · simp only [World.size_alloc]; rfl
    · have := block_alloc (W.alloc (.cells (fnCells q1).toArray 99)) (.cells #[.int .i8 k', .int .i64 n', .string s', .string t', .slice A' l'.length c'] 25)
      rw [World.size_alloc] at this
      exact this
  case body =>
    rintro l' pre ⟨⟨qa, qb, qc⟩, q2, q3⟩ ⟨tm, df⟩ W hi ⟨j, hpre, hq, hqT⟩ ⟨hdf, g, k', n', s', t', A', m', c', hq3, htm, hg, hg2⟩ hz ⟨r, hr⟩ ⟨d, hd⟩
    dsimp only at hdf htm hq3 hqT
    subst hdf htm hq3
    have k1 := (hi.1.block _ (heap_lt HG.out.1)).trans HG.out.1
    have k2 := (hi.1.block _ (heap_lt HG.out.2.1)).trans HG.out.2.1
    have k3 := (hi.1.block _ (heap_lt HG.out.2.2.1)).trans HG.out.2.2.1
    have k4 := (hi.1.block _ (heap_lt HG.out.2.2.2.1)).trans HG.out.2.2.2.1
    have k5 := (hi.1.block _ (heap_lt HG.out.2.2.2.2)).trans HG.out.2.2.2.2
    have e0 : W.cell? ⟨g, 0, none⟩ = some (.string qa) := cell_of_row hg rfl
    have e1 : W.cell? ⟨g, 1, none⟩ = some (.string qb) := cell_of_row (i := 1) hg rfl
    have e2 : W.cell? ⟨g, 2, none⟩ = some (.int .i64 qc) := cell_of_row (i := 2) hg rfl
    have e3 : W.cell? ⟨g, 3, none⟩ = some (.int .i64 0) := cell_of_row (i := 3) hg rfl
    have e4 : W.cell? ⟨g, 4, none⟩ = some (.int .i64 0) := cell_of_row (i := 4) hg rfl
    have f0 : W.cell? ⟨g + 1, 0, none⟩ = some (.int .i8 k') := cell_of_row (i := 0) hg2 rfl
    have f1 : W.cell? ⟨g + 1, 1, none⟩ = some (.int .i64 n') := cell_of_row (i := 1) hg2 rfl
    have f2 : W.cell? ⟨g + 1, 2, none⟩ = some (.string s') := cell_of_row (i := 2) hg2 rfl
    have f3 : W.cell? ⟨g + 1, 3, none⟩ = some (.string t') := cell_of_row (i := 3) hg2 rfl
    have f4 : W.cell? ⟨g + 1, 4, none⟩ = some (.slice A' m' c') := cell_of_row (i := 4) hg2 rfl
    have m1 : W.cell? ⟨w.heap.size + 1, 0, none⟩ = some (.string md) := cell_of_row k1 rfl
    have m2 : W.cell? ⟨w.heap.size + 2, 0, none⟩ = some (.string nm) := cell_of_row k2 rfl
    have m3 : W.cell? ⟨w.heap.size + 3, 0, none⟩ = some (.int .i64 ar) := cell_of_row k3 rfl
    have u0 : W.cell? ⟨w.heap.size + 4, 0, none⟩ = some (.int .i8 0) := cell_of_row (i := 0) k4 rfl
    have uf0 : W.frozen? ⟨w.heap.size + 4, 0, none⟩ = false := free_of_row (i := 0) k4
    have u1 : W.cell? ⟨w.heap.size + 4, 1, none⟩ = some (.int .i64 0) := cell_of_row (i := 1) k4 rfl
    have uf1 : W.frozen? ⟨w.heap.size + 4, 1, none⟩ = false := free_of_row (i := 1) k4
    have u2 : W.cell? ⟨w.heap.size + 4, 2, none⟩ = some (.string ⟨#[]⟩) := cell_of_row (i := 2) k4 rfl
    have uf2 : W.frozen? ⟨w.heap.size + 4, 2, none⟩ = false := free_of_row (i := 2) k4
    have u3 : W.cell? ⟨w.heap.size + 4, 3, none⟩ = some (.string ⟨#[]⟩) := cell_of_row (i := 3) k4 rfl
    have uf3 : W.frozen? ⟨w.heap.size + 4, 3, none⟩ = false := free_of_row (i := 3) k4
    have u4 : W.cell? ⟨w.heap.size + 4, 4, none⟩ = some (.slice none 0 0) := cell_of_row (i := 4) k4 rfl
    have uf4 : W.frozen? ⟨w.heap.size + 4, 4, none⟩ = false := free_of_row (i := 4) k4
    have y0 : W.cell? ⟨w.heap.size + 5, 0, none⟩ = some (.bool false) := cell_of_row k5 rfl
    have yf : W.frozen? ⟨w.heap.size + 5, 0, none⟩ = false := free_of_row k5
    have HI := Lib.hid hi
    have HQ := Lib.hid hq
    have HQT := Lib.hid hqT
    have HPRE := Lib.hid hpre
    have HR := Lib.hid hr
    have HD := Lib.hid hd
    have HZZ := Lib.hid hz
    have H45 := Lib.hid (And.intro k4 k5)
    clear hi hq hpre hr hd hqT hz k1 k2 k3 k4 k5 hg hg2
    by_cases hk : qa = md ∧ qb = nm ∧ qc = ar
    · obtain ⟨rfl, rfl, rfl⟩ := hk
      gi_wp2_with fail
      obtain ⟨s4, mm4⟩ := set_five7 (.int .i8 k') (.int .i64 n') (.string s') (.string t') (.slice A' m' c') H45.out.1
      have s5 := (mm4.block _ (heap_lt H45.out.2) (by omega)).trans H45.out.2
      generalize ((((W.setCell ⟨w.heap.size + 4, 0, none⟩ (.int .i8 k')).setCell ⟨w.heap.size + 4, 1, none⟩ (.int .i64 n')).setCell ⟨w.heap.size + 4, 2, none⟩ (.string s')).setCell ⟨w.heap.size + 4, 3, none⟩ (.string t')).setCell ⟨w.heap.size + 4, 4, none⟩ (.slice A' m' c') = W4 at s4 mm4 s5 ⊢
      have mm5 : Mod (fun k => k = w.heap.size + 5) W4 (W4.setCell ⟨w.heap.size + 5, 0, none⟩ (.bool true)) := Mod.setCell _ _ _ (.inl rfl)
      have m45 : Mod (fun k => k = w.heap.size + 4 ∨ k = w.heap.size + 5) W (W4.setCell ⟨w.heap.size + 5, 0, none⟩ (.bool true)) := (mm4.mono (fun _ _ h => .inl h)).trans mm5 (fun _ _ h => .inr h)
      have hz7 := HZ.out
      have hzz := HZZ.out
      have hg := heap_lt HR.out
      have hbw := HI.out.1
      refine ⟨own2_mod m45 (by omega) ⟨by omega, by omega⟩, rfl, q2, k', n', s', t', A', m', c', ?_, HQT.out.keep (fun b hb => (HB7.out.block b hb).symm) (fun _ h => h), (mm5.block _ (heap_lt s4) (by omega)).trans s4, set_row (i := 0) _ s5, ?_, ?_⟩
      · refine findT_at HQ.out (fun z hz => ?_) rfl
        rw [← HPRE.out] at hz
        obtain ⟨z', hz', rfl⟩ := List.mem_map.1 hz
        exact HI.out.2 z' hz'
      · exact (HB7.out.trans (hbw.mono HB7.out.size)).trans (m45.below (Nat.le_trans HB7.out.size hbw.size) (fun k hk => by omega))
      · exact Nat.le_trans hbw.size m45.size
    · have HK := Lib.hid hk
      clear hk
      gi_wp2_with fail
      all_goals first
        | (exfalso
           refine HK.out ⟨?_, ?_, by assumption⟩
           · have h9 := ‹qa.toList = md.toList›
             rw [Go.Lib.toList_data, Go.Lib.toList_data] at h9
             exact ByteArray.ext (Array.toList_inj.1 h9)
           · have h9 := ‹qb.toList = nm.toList›
             rw [Go.Lib.toList_data, Go.Lib.toList_data] at h9
             exact ByteArray.ext (Array.toList_inj.1 h9))
        | (refine ⟨⟨Nat.le_refl _, rfl, rfl⟩, KpN.refl _ _, HI.out.1, fun z hz => ?_⟩
           rcases List.mem_append.1 hz with hz | hz
           · exact HI.out.2 z hz
           · obtain rfl := List.mem_singleton.1 hz
             intro e9
             injection e9 with e1' e2'
             injection e2' with e2' e3'
             exact HK.out ⟨e1', e2', e3'⟩)
  case done =>
    rintro xs W hxs hi hd
    have k4 := (hi.1.block _ (heap_lt HG.out.2.2.2.1)).trans HG.out.2.2.2.1
    have k5 := (hi.1.block _ (heap_lt HG.out.2.2.2.2)).trans HG.out.2.2.2.2
    have u0 : W.cell? ⟨w.heap.size + 4, 0, none⟩ = some (.int .i8 0) := cell_of_row (i := 0) k4 rfl
    have uf0 : W.frozen? ⟨w.heap.size + 4, 0, none⟩ = false := free_of_row (i := 0) k4
    have u1 : W.cell? ⟨w.heap.size + 4, 1, none⟩ = some (.int .i64 0) := cell_of_row (i := 1) k4 rfl
    have uf1 : W.frozen? ⟨w.heap.size + 4, 1, none⟩ = false := free_of_row (i := 1) k4
    have u2 : W.cell? ⟨w.heap.size + 4, 2, none⟩ = some (.string ⟨#[]⟩) := cell_of_row (i := 2) k4 rfl
    have uf2 : W.frozen? ⟨w.heap.size + 4, 2, none⟩ = false := free_of_row (i := 2) k4
    have u3 : W.cell? ⟨w.heap.size + 4, 3, none⟩ = some (.string ⟨#[]⟩) := cell_of_row (i := 3) k4 rfl
    have uf3 : W.frozen? ⟨w.heap.size + 4, 3, none⟩ = false := free_of_row (i := 3) k4
    have u4 : W.cell? ⟨w.heap.size + 4, 4, none⟩ = some (.slice none 0 0) := cell_of_row (i := 4) k4 rfl
    have uf4 : W.frozen? ⟨w.heap.size + 4, 4, none⟩ = false := free_of_row (i := 4) k4
    have y0 : W.cell? ⟨w.heap.size + 5, 0, none⟩ = some (.bool false) := cell_of_row k5 rfl
    have yf : W.frozen? ⟨w.heap.size + 5, 0, none⟩ = false := free_of_row k5
    have HI := Lib.hid hi
    have HXS := Lib.hid hxs
    have HD := Lib.hid hd
    have H45 := Lib.hid (And.intro k4 k5)
    clear hi hxs hd k4 k5
    gi_wp2
    have hz := HZ.out
    obtain ⟨s4, mm4⟩ := set_five7 (.int .i8 0) (.int .i64 0) (.string ⟨#[]⟩) (.string ⟨#[]⟩) (.slice none 0 0) H45.out.1
    have s5 := (mm4.block _ (heap_lt H45.out.2) (by omega)).trans H45.out.2
    have sd := (mm4.block _ (heap_lt HD.out) (by omega)).trans HD.out
    generalize ((((W.setCell ⟨w.heap.size + 4, 0, none⟩ (.int .i8 0)).setCell ⟨w.heap.size + 4, 1, none⟩ (.int .i64 0)).setCell ⟨w.heap.size + 4, 2, none⟩ (.string ⟨#[]⟩)).setCell ⟨w.heap.size + 4, 3, none⟩ (.string ⟨#[]⟩)).setCell ⟨w.heap.size + 4, 4, none⟩ (.slice none 0 0) = W4 at s4 mm4 s5 sd ⊢
    have mm5 : Mod (fun k => k = w.heap.size + 5) W4 (W4.setCell ⟨w.heap.size + 5, 0, none⟩ (.bool false)) := Mod.setCell _ _ _ (.inl rfl)
    have m45 : Mod (fun k => k = w.heap.size + 4 ∨ k = w.heap.size + 5) W (W4.setCell ⟨w.heap.size + 5, 0, none⟩ (.bool false)) := (mm4.mono (fun _ _ h => .inl h)).trans mm5 (fun _ _ h => .inr h)
    have t4 := (mm5.block _ (heap_lt s4) (by omega)).trans s4
    have t5 := set_row (i := 0) (.bool false) s5
    have td := (mm5.block _ (heap_lt sd) (by omega)).trans sd
    generalize W4.setCell ⟨w.heap.size + 5, 0, none⟩ (.bool false) = W5 at m45 t4 t5 td ⊢
    have mm := Mod.putObj W5 w7.heap.size (.deferred none) (F := fun k => k = w7.heap.size) rfl
    have q4 := (mm.block _ (heap_lt t4) (by omega)).trans t4
    have q5 := (mm.block _ (heap_lt t5) (by omega)).trans t5
    have z0 := cell_of_row (i := 0) q4 rfl
    have z1 := cell_of_row (i := 1) q4 rfl
    have z2 := cell_of_row (i := 2) q4 rfl
    have z3 := cell_of_row (i := 3) q4 rfl
    have z4 := cell_of_row (i := 4) q4 rfl
    have z5 := cell_of_row (i := 0) q5 rfl
    have hbw := HI.out.1
    have hb5 : Below w.heap.size w W5 := (HB7.out.trans (hbw.mono HB7.out.size)).trans (m45.below (Nat.le_trans HB7.out.size hbw.size) (fun k hk => by omega))
    have hbb : Below w.heap.size w (W5.putObj w7.heap.size (.deferred none)) := hb5.trans (mm.below hb5.size (fun k e => by omega))
    have hn : findT (md, nm, ar) (fns9T x) = none := findT_none (fun z hz => by
      rw [← HXS.out] at hz
      obtain ⟨z', hz', rfl⟩ := List.mem_map.1 hz
      exact HI.out.2 z' hz')
    refine ⟨by simp, .inl ⟨_, _, rfl, run_takeDeferred td, ?_⟩⟩
    refine ⟨.tuple #[.agg #[.int .i8 0, .int .i64 0, .string ⟨#[]⟩, .string ⟨#[]⟩, .slice none 0 0], .bool false], by simp [results, Tryz.f17, go_sem, z0, z1, z2, z3, z4, z5], .agg #[.int .i8 0, .int .i64 0, .string ⟨#[]⟩, .string ⟨#[]⟩, .slice none 0 0], ⟨_, _, _, _, _, _, _, rfl⟩, ?_, ?_, hbb⟩
    · rw [hn]; rfl
    · intro y9 hy9
      rw [hn] at hy9
      cases hy9
  case stop =>
    rintro c pre W _ ⟨rfl, y, k', n', s', t', A', m', c', h1, h2, h3, h4, h5, h6⟩ hd
    have HD := Lib.hid hd
    have H1 := Lib.hid (And.intro h1 (And.intro h2 (And.intro h3 (And.intro h4 (And.intro h5 h6)))))
    clear h1 h2 h3 h4 h5 h6 hd
    gi_wp2
    obtain ⟨h1, h2, h3, h4, h5, h6⟩ := H1.out
    have hz := HZ.out
    have mm := Mod.putObj W w7.heap.size (.deferred none) (F := fun k => k = w7.heap.size) rfl
    have q4 := (mm.block _ (heap_lt h3) (by omega)).trans h3
    have q5 := (mm.block _ (heap_lt h4) (by omega)).trans h4
    have z0 := cell_of_row (i := 0) q4 rfl
    have z1 := cell_of_row (i := 1) q4 rfl
    have z2 := cell_of_row (i := 2) q4 rfl
    have z3 := cell_of_row (i := 3) q4 rfl
    have z4 := cell_of_row (i := 4) q4 rfl
    have z5 := cell_of_row (i := 0) q5 rfl
    have hbb : Below w.heap.size w (W.putObj w7.heap.size (.deferred none)) := h5.trans (mm.below h5.size (fun k e => by omega))
    refine ⟨by simp, .inl ⟨_, _, rfl, run_takeDeferred HD.out, ?_⟩⟩
    refine ⟨.tuple #[.agg #[.int .i8 k', .int .i64 n', .string s', .string t', .slice A' m' c'], .bool true], by simp [results, Tryz.f17, go_sem, z0, z1, z2, z3, z4, z5], .agg #[.int .i8 k', .int .i64 n', .string s', .string t', .slice A' m' c'], ⟨_, _, _, _, _, _, _, rfl⟩, ?_, ?_, hbb⟩
    · rw [h1]; rfl
    · intro y9 hy9
      rw [h1] at hy9
      cases hy9
      exact h2.laterN hbb
end Go.Proofs.YthbiaaeoajmlbaaGreatDoor
end
section
set_option linter.unusedVariables false
set_option linter.unusedSimpArgs false
namespace Go.Proofs.YthbiaaeoajmlbaaGreatDoor
open Go.RowKit

def moreF (nm : ByteArray) : Tm := .mk 2 0 nm ⟨#[]⟩ [.mk 3 0 ⟨#[]⟩ ⟨#[]⟩ [.mk 4 0 ⟨#[]⟩ ⟨#[]⟩ [], .mk 7 0 ⟨#[111, 107]⟩ ⟨#[]⟩ []]]
def moreM (m : Tm) (nm : ByteArray) : Tm := .mk m.k m.n m.s m.t (m.l ++ [moreF nm])
def moreT (m : Tm) (ms : List Tm) (nm : ByteArray) : Tm := .mk 0 0 ⟨#[]⟩ ⟨#[]⟩ (moreM m nm :: ms)

theorem pres_app9 : ∀ (a b : List Tm), Tm.pres (a ++ b) = Tm.pres a ++ Tm.pres b
  | [], b => rfl
  | x :: a, b => by rw [List.cons_append, Tm.pres, Tm.pres, pres_app9 a b, List.append_assoc]
theorem deeps_app9 : ∀ (a b : List Tm), Tm.deeps (a ++ b) = max (Tm.deeps a) (Tm.deeps b)
  | [], b => by simp [Tm.deeps]
  | x :: a, b => by rw [List.cons_append, Tm.deeps, Tm.deeps, deeps_app9 a b]; omega
theorem moreF_nodes (nm : ByteArray) : (moreF nm).nodes = 4 := by simp [moreF, Tm.nodes, Tm.pre, Tm.pres]
theorem moreM_nodes (m : Tm) (nm : ByteArray) : (moreM m nm).nodes = m.nodes + 4 := by
  obtain ⟨k, n, s, t, l⟩ := m
  rw [moreM, nodes_mk9, nodes_mk9, pres_app9, List.length_append]
  show (Tm.pres l).length + _ + 1 = _
  rw [nodes_pres_cons, moreF_nodes]
  simp [Tm.pres]
theorem moreF_deep (nm : ByteArray) : (moreF nm).deep = 3 := by simp [moreF, Tm.deep, Tm.deeps]
theorem moreM_deep (m : Tm) (nm : ByteArray) : (moreM m nm).deep ≤ max m.deep 4 := by
  obtain ⟨k, n, s, t, l⟩ := m
  rw [moreM, Tm.deep, Tm.deep]
  show Tm.deeps (l ++ _) + 1 ≤ _
  rw [deeps_app9, Tm.deeps, moreF_deep, Tm.deeps]
  omega
theorem moreF_fun {nm : ByteArray} (h : atomB nm = true) : funB (moreF nm) = true := by
  have h2 : atomB ⟨#[111, 107]⟩ = true := by decide
  have he : emp ⟨#[]⟩ = true := by decide
  unfold funB moreF
  simp [clsB, clB, partsB, exprsB, exprB, guardB, leafB, h, h2, he]
theorem mods_cons {x m : Tm} {ms : List Tm} (hl : x.l = m :: ms) (h : modsB x = true) : modB m = true ∧ ms.all modB = true := by
  obtain ⟨k, n, s, t, l⟩ := x
  have hl' : l = m :: ms := hl
  subst hl'
  unfold modsB at h
  simp at h
  exact ⟨h.2.1, by rw [List.all_eq_true]; exact h.2.2⟩
theorem moreM_mod {m : Tm} {nm : ByteArray} (hm : modB m = true) (h : atomB nm = true) : modB (moreM m nm) = true := by
  obtain ⟨k, n, s, t, l⟩ := m
  unfold modB at hm
  show modB (.mk k n s t (l ++ [moreF nm])) = true
  unfold modB
  simp only [List.all_append, List.all_cons, List.all_nil, moreF_fun h, Bool.and_true]
  exact hm
theorem more_fits {x m : Tm} {ms : List Tm} {nm : ByteArray} (hl : x.l = m :: ms) (hf : fitsB x = true) (hn : x.nodes + 4 ≤ 4096) : fitsB (moreT m ms nm) = true := by
  obtain ⟨k, n, s, t, l⟩ := x
  have hl' : l = m :: ms := hl
  subst hl'
  unfold fitsB at hf ⊢
  have h1 := of_decide_eq_true hf
  rw [nodes_mk9, nodes_pres_cons, Tm.deep, Tm.deeps] at h1
  rw [nodes_mk9, nodes_pres_cons] at hn
  have h2 := moreM_nodes m nm
  have h3 := moreM_deep m nm
  refine decide_eq_true ⟨?_, ?_⟩
  · rw [moreT, nodes_mk9, nodes_pres_cons, h2]; omega
  · rw [moreT, Tm.deep, Tm.deeps]; omega
theorem more_mods {x m : Tm} {ms : List Tm} {nm : ByteArray} (hl : x.l = m :: ms) (h : modsB x = true) (ha : atomB nm = true) : modsB (moreT m ms nm) = true := by
  obtain ⟨h1, h2⟩ := mods_cons hl h
  have he : emp ⟨#[]⟩ = true := by decide
  unfold modsB moreT
  simp only [List.all_cons, moreM_mod h1 ha, h2, he]
  rfl
theorem findT_mem {key : Fn9} : ∀ {l : List (Fn9 × Tm)} {q : Fn9 × Tm}, q ∈ l → q.1 = key → (findT key l).isSome = true
  | z :: l, q, h, hq => by
    rw [findT]
    split
    · rfl
    · rename_i hz
      rcases List.mem_cons.1 h with rfl | h
      · exact absurd hq hz
      · exact findT_mem h hq
theorem findT_out {key : Fn9} : ∀ {l : List (Fn9 × Tm)}, findT key l = none → ∀ q ∈ l, q.1 ≠ key
  | z :: l, h, q, hq => by
    rw [findT] at h
    split at h
    · cases h
    · rename_i hz
      rcases List.mem_cons.1 hq with rfl | hq
      · exact hz
      · exact findT_out h q hq
theorem fnsW_more {m : Tm} {ms : List Tm} {nm : ByteArray} : ∀ z ∈ fnsW (m :: ms), z ∈ fnsW (moreM m nm :: ms) := by
  intro z hz
  rw [fnsW] at hz ⊢
  rcases List.mem_append.1 hz with hz | hz
  · refine List.mem_append.2 (.inl ?_)
    unfold fnsM at hz ⊢
    show z ∈ (m.l ++ [moreF nm]).map fun f => (m.s, f.s, f.n)
    rw [List.map_append]
    exact List.mem_append.2 (.inl hz)
  · exact List.mem_append.2 (.inr hz)
theorem cur_append : ∀ {a b : List Tm} {m : ByteArray}, curW m (a ++ b) = curW (curW m a) b
  | [], b, m => rfl
  | y :: a, b, m => by rw [List.cons_append, curW, curW, cur_append]
theorem there_0 {F : List Fn9} {m : ByteArray} {y : Tm} (h : y.k ≠ 2) (h1 : y.k ≠ 14) (h2 : y.k ≠ 15) (h3 : y.k ≠ 17) : thereE F m y = 0 := by
  unfold thereE
  rw [if_neg h, if_neg h1, if_neg h2, if_neg h3]
theorem moreF_quiet {nm : ByteArray} (hb : builtB nm 0 = false) {F : List Fn9} : ∀ y ∈ Tm.pres [moreF nm], y.k ≠ 1 ∧ ∀ m, thereE F m y = 0 := by
  intro y hy
  have h4 : y = moreF nm ∨ y.k = 3 ∨ y.k = 4 ∨ y.k = 7 := by
    simp only [Tm.pres, Tm.pre, moreF, List.append_nil, List.mem_cons, List.mem_append, List.not_mem_nil, or_false, List.cons_append, List.nil_append] at hy
    rcases hy with rfl | rfl | rfl | rfl
    · exact .inl rfl
    · exact .inr (.inl rfl)
    · exact .inr (.inr (.inl rfl))
    · exact .inr (.inr (.inr rfl))
  rcases h4 with rfl | h | h | h
  · refine ⟨by show (2 : Int) ≠ 1; decide, fun m => ?_⟩
    unfold thereE
    rw [if_pos (show (moreF nm).k = 2 from rfl)]
    rw [show builtB (moreF nm).s (moreF nm).n = false from hb]
    rfl
  all_goals exact ⟨by rw [h]; decide, fun m => there_0 (by rw [h]; decide) (by rw [h]; decide) (by rw [h]; decide) (by rw [h]; decide)⟩
theorem more_rules {x m : Tm} {ms : List Tm} {nm : ByteArray} (hl : x.l = m :: ms) (hm : modsB x = true) (hr : rules9 x = none) (hb : builtB nm 0 = false) (hF : findT (m.s, nm, 0) (fnsT x.l) = none) : rules9 (moreT m ms nm) = none := by
  obtain ⟨r1, r2, r3, r4, r5⟩ := rules9_none.1 hr
  rw [hl] at r1 r2 r3 r4 r5 hF
  have hkey : kyT (moreF nm) ∉ m.l.map kyT := by
    intro hk
    obtain ⟨f, hf, he⟩ := List.mem_map.1 hk
    have hq := findT_out hF ((m.s, f.s, f.n), f) (by rw [fnsT]; exact List.mem_append.2 (.inl (List.mem_map.2 ⟨f, hf, rfl⟩)))
    apply hq
    have he' : (f.s, f.n) = (nm, 0) := he
    injection he' with e1 e2
    show (m.s, f.s, f.n) = _
    rw [e1, e2]
  have hfl : ∀ e : Int, findF e (modsF 1 (m :: ms)) = none → findF e (modsF 1 (moreM m nm :: ms)) = none := by
    intro e h
    rw [findF_none] at h ⊢
    rw [modsF, List.map_append] at h ⊢
    rw [modsF_fst ms _ (1 + m.nodes)]
    have hfu : (funsF (1 + 1) (moreM m nm).l).map (·.1) = (funsF (1 + 1) m.l).map (·.1) := by
      show (funsF (1 + 1) (m.l ++ [moreF nm])).map (·.1) = _
      rw [funsF_append, List.map_append]
      have : (funsF (1 + 1 + (Tm.pres m.l).length) [moreF nm]).map (·.1) = [] := by
        rw [funsF_fst _ _ 0]
        simp [funsF, moreF, clsF, clW, overW, clauseW, allW, backW, Tm.l]
      rw [this, List.append_nil]
    rw [hfu]
    exact h
  refine rules9_none.2 ⟨?_, ?_, hfl _ r3, ?_, hfl _ r5⟩
  · exact (once_same (l := m :: ms) (l' := moreM m nm :: ms) rfl).1 r1
  · rw [onceM_cons] at r2
    show onceM 1 (moreM m nm :: ms) = none
    rw [onceM_cons]
    exact ⟨once_snoc r2.1 (by simp) hkey, onceM_same.1 r2.2⟩
  · have hG := fnsW_more (m := m) (ms := ms) (nm := nm)
    obtain ⟨k, n, s, t, l⟩ := x
    have hl' : l = m :: ms := hl
    subst hl'
    have hk0 : k = 0 := by
      have := (modsB_ok hm).1
      exact this
    have hm1 : m.k = 1 := ((modsB_ok hm).2 m List.mem_cons_self).1
    obtain ⟨mk, mn, msn, mt, ml⟩ := m
    have hmk : mk = 1 := hm1
    subst hmk hk0
    rw [Tm.pre, there_cons, Tm.pres, there_append] at r4
    obtain ⟨-, r6, r7⟩ := r4
    rw [Tm.pre, there_cons] at r6
    rw [Tm.pre, curW] at r7
    simp only [show (Tm.mk 0 n s t (Tm.mk 1 mn msn mt ml :: ms)).k = 0 from rfl, show (Tm.mk 1 mn msn mt ml).k = 1 from rfl, show (Tm.mk 1 mn msn mt ml).s = msn from rfl, if_pos] at r6 r7
    rw [moreT, Tm.pre, there_cons, Tm.pres, there_append]
    refine ⟨there_0 (by show (0 : Int) ≠ 2; decide) (by show (0 : Int) ≠ 14; decide) (by show (0 : Int) ≠ 15; decide) (by show (0 : Int) ≠ 17; decide), ?_, ?_⟩
    · show thereW _ _ _ (Tm.mk 1 mn msn mt (ml ++ [moreF nm])).pre = none
      rw [Tm.pre, there_cons]
      refine ⟨there_0 (by show (1 : Int) ≠ 2; decide) (by show (1 : Int) ≠ 14; decide) (by show (1 : Int) ≠ 15; decide) (by show (1 : Int) ≠ 17; decide), ?_⟩
      rw [pres_app9, there_append]
      refine ⟨?_, there_quiet (moreF_quiet hb)⟩
      exact there_mono hG r6.2
    · show thereW _ (curW _ (Tm.mk 1 mn msn mt (ml ++ [moreF nm])).pre) _ _ = none
      rw [Tm.pre, curW, pres_app9, cur_append, cur_none (fun y hy => (moreF_quiet hb (F := []) y hy).1)]
      exact there_mono hG r7
theorem more9 {x m : Tm} {ms : List Tm} {nm : ByteArray} (hl : x.l = m :: ms) (hc : (chk9 x).1 = 0) (ha : atomB nm = true) (hb : builtB nm 0 = false) (hF : findT (m.s, nm, 0) (fns9T x) = none) (hn : x.nodes + 4 ≤ 4096) :
    chk9 (moreT m ms nm) = (0, 0) ∧ (findT (m.s, nm, 0) (fns9T (moreT m ms nm))).isSome = true ∧ (fns9T (moreT m ms nm)).length = (fns9T x).length + 1 := by
  obtain ⟨h1, h2, h3⟩ := chk9_ok hc
  have f1 := more_fits (nm := nm) hl h1 hn
  have f2 := more_mods hl h2 ha
  have e1 : fns9T x = fnsT x.l := if_pos ⟨h1, h2⟩
  have e2 : fns9T (moreT m ms nm) = fnsT (moreM m nm :: ms) := if_pos ⟨f1, f2⟩
  rw [e1] at hF
  refine ⟨?_, ?_, ?_⟩
  · unfold chk9
    rw [if_pos ⟨f1, f2⟩, more_rules hl h2 h3 hb hF]
    rfl
  · rw [e2, fnsT]
    refine findT_mem (q := ((m.s, nm, 0), moreF nm)) (List.mem_append.2 (.inl ?_)) rfl
    show _ ∈ (m.l ++ [moreF nm]).map _
    rw [List.map_append]
    exact List.mem_append.2 (.inr (List.mem_singleton.2 rfl))
  · rw [e1, e2, hl, fnsT, fnsT, List.length_append, List.length_append, List.length_map, List.length_map]
    show (m.l ++ [moreF nm]).length + _ = _
    rw [List.length_append, List.length_singleton]
    omega
end Go.Proofs.YthbiaaeoajmlbaaGreatDoor
end
section
set_option linter.unusedVariables false
namespace Go.Proofs.YthbiaaeoajmlbaaGreatDoor
open Go.RowKit

theorem append_where {P : Program} (w : World) (base : Nat) (t ty e : TypeId) (i : TypeInfo) (z : Value) (size bytes : Nat) (ht : P.underlying t = some (.slice e)) (hi : P.info? e = some i) (hz : i.zero = some z)
    (hsize : i.size = size) (hby : i.bytes = bytes) (hsz : 0 < size)
    (v : Value) (n : Nat) (xs : List Value) (hown : w.ownsRow base e size v n xs)
    (a : Addr) (m c : Nat) (news : List Value) (hm : 0 < m) (hl : news.length = m * size) (hnews : ∀ j u, news[j]? = some u → w.cell? (a.add j) = some u) (h1 : ∀ u ∈ news, u.oneCell' = true)
    (h63 : n + m ≤ maxLen) (hbytes : (n + m) * bytes ≤ 140737488355328) {v' : Value} {w' : World} (hr : (Builtin.append_ #[t, t] ty #[v, .slice (some a) m c]).run P w = .ok v' w') :
    ∃ g' cap', v' = .slice (some ⟨g', 0, none⟩) (n + m) cap' ∧ (v.ownBlock = some g' ∨ g' = w.heap.size) := by
  subst hsize
  subst hby
  have h64 : n + m ≤ 9223372036854775807 := by simp only [maxLen] at h63; omega
  rcases hown.2 with ⟨rfl, rfl⟩ | ⟨g, cap, cur, rfl, hbg, hg, hnc, hcm, hcs, htake⟩
  · have h := run_append_nil (P := P) w t ty e i z ht hi hz a m c news hl hnews hm (by omega) (by simp only [Nat.zero_add] at hbytes; omega)
    rw [h] at hr
    cases hr
    exact ⟨_, _, by rw [Nat.zero_add], .inr rfl⟩
  · by_cases hroom : n + m ≤ cap
    · have hfit : n * i.size + news.length ≤ cur.size := by rw [hl, hcs, ← Nat.add_mul]; exact Nat.mul_le_mul_right _ hroom
      have h := run_append_room (P := P) w t ty e i ht hi g n cap cur hg a m c news hl hnews h1 hroom hfit
      rw [h] at hr
      cases hr
      exact ⟨_, _, rfl, .inl rfl⟩
    · have holds : ∀ j u, xs[j]? = some u → w.cell? ((⟨g, 0, none⟩ : Addr).add j) = some u := hown.cells (g := g) rfl
      have h := run_append_grow (P := P) w t ty e i z ht hi hz ⟨g, 0, none⟩ n cap xs hown.1 holds a m c news hl hnews (by omega) (by omega) (growslice_fits (by omega) hbytes)
      rw [h] at hr
      cases hr
      exact ⟨_, _, rfl, .inr rfl⟩

theorem wpList_append_at {P : Program} (w : World) {ops : Array Oper} {rest : List Oper} {o : Oper} {a : Act} {Q : Exit → Act → World → Prop} (hgd : o.guard = none) (s x : Operand) (t : TypeId)
    (ho : o.op = .call { callee := .builtin .append, args := #[s, x], argTypes := #[t, t] })
    (base : Nat) (e : TypeId) (i : TypeInfo) (z : Value) (size bytes : Nat) (ht : P.underlying t = some (.slice e)) (hi : P.info? e = some i) (hz : i.zero = some z)
    (hsize : i.size = size) (hby : i.bytes = bytes) (hzs : z.cells.size = size) (hsz : 0 < size)
    (v : Value) (n : Nat) (xs : List Value) (hs : a.eval s = v) (hown : w.ownsRow base e size v n xs)
    (ad : Addr) (m c : Nat) (news : List Value) (hx : a.eval x = .slice (some ad) m c) (hm : 0 < m) (hl : news.length = m * size) (hnews : ∀ j u, news[j]? = some u → w.cell? (ad.add j) = some u) (h1 : ∀ u ∈ news, u.oneCell' = true)
    (h63 : n + m ≤ maxLen) (hbytes : (n + m) * bytes ≤ 140737488355328) (hbase : base ≤ w.heap.size)
    (h : ∀ g' cap' w', w'.ownsRow base e size (.slice (some ⟨g', 0, none⟩) (n + m) cap') (n + m) (xs ++ news) → w.grownBy w' v.ownBlock → (v.ownBlock = some g' ∨ g' = w.heap.size) → wpList P ops Q rest (a.put o.dst (.slice (some ⟨g', 0, none⟩) (n + m) cap')) w') : wpList P ops Q (o :: rest) a w :=
  wpList_plain hgd fun _ hK => by
    obtain ⟨v', w', hr, h2, h3, h4⟩ := run_append_own (P := P) w base t o.type e i z size bytes ht hi hz hsize hby hzs hsz v n xs hown ad m c news hl hnews h1 h63 hbytes hbase
    obtain ⟨g', cap', rfl, hw⟩ := append_where (P := P) w base t o.type e i z size bytes ht hi hz hsize hby hsz v n xs hown ad m c news hm hl hnews h1 h63 hbytes hr
    unfold Oper.wp execOp
    simp only [ho, resolve, invoke, builtin, Sem.run_bind, Sem.run_pure, Result.andThen_ok, List.map_toArray, List.map_cons, List.map_nil, hs, hx, hr]
    exact hK _ _ (h g' cap' w' h2 h3 hw)
end Go.Proofs.YthbiaaeoajmlbaaGreatDoor
end
