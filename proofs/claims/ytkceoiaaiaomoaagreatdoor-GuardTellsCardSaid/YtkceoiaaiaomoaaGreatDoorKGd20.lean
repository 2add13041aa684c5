/- Layer 11: values of guard expressions may be; the document's own Find and kind, the values of leaves. -/
import Derived.Test.YtkceoiaaiaomoaaGreatDoorKRef03M
import Derived.Test.YtkceoiaaiaomoaaGreatDoorKRCmp3
set_option linter.unusedVariables false
set_option linter.unusedSimpArgs false
namespace Go.Proofs.YtkceoiaaiaomoaaGreatDoor
open Go.RowKit

theorem tup_check11 {l : List Tm} (h : fitN 1 l = 0) : checkN (tupT l) = 0 := by
  obtain ⟨h1, h2⟩ := fit_zero h
  have hs := sumN_small l (by omega)
  refine check_of (fun y hy => ?_) ?_
  · unfold tupT at hy
    rw [Tm.pre] at hy
    rcases List.mem_cons.1 hy with rfl | hz
    · show okN 5 0 ⟨#[]⟩ ⟨#[]⟩ l.length = true
      simp [okN, ok_tuple]
    · clear hy
      have hy := hz
      obtain ⟨x, hx, hyx⟩ : ∃ x ∈ l, y ∈ x.pre := by
        clear h h1 h2 hs hz
        induction l with
        | nil => cases hy
        | cons a l ih =>
          rw [Tm.pres] at hy
          rcases List.mem_append.1 hy with h | h
          · exact ⟨a, by simp, h⟩
          · obtain ⟨x, hx, h⟩ := ih h
            exact ⟨x, by simp [hx], h⟩
      exact (h2 x hx).1 y hyx
  · unfold tupT
    rw [Tm.nodes_mk, hs.1]; omega
theorem cons_check11 {a b : Tm} (h : fitN 1 [a, b] = 0) : checkN (consT a b) = 0 := by
  obtain ⟨h1, h2⟩ := fit_zero h
  have hs := sumN_small [a, b] (by omega)
  refine check_of (fun y hy => ?_) ?_
  · unfold consT at hy
    rw [Tm.pre] at hy
    rcases List.mem_cons.1 hy with rfl | hy
    · show okN 7 0 ⟨#[]⟩ ⟨#[]⟩ 2 = true
      simp [okN, ok_cons]
    · rw [Tm.pres, Tm.pres, Tm.pres, List.append_nil] at hy
      rcases List.mem_append.1 hy with h | h
      · exact (h2 a (by simp)).1 y h
      · exact (h2 b (by simp)).1 y h
  · unfold consT
    rw [Tm.nodes_mk, hs.1]; omega
theorem one_check11 {k n : Int} {s t : ByteArray} (h : okN k n s t 0 = true) : checkN (.mk k n s t []) = 0 :=
  check_of (fun y hy => by rw [Tm.pre, Tm.pres] at hy; rcases List.mem_cons.1 hy with rfl | hy; (exact h); (cases hy)) (by rw [Tm.nodes_mk]; simp [Tm.pres])
theorem do_may11 {s : ByteArray} {a b : Int} (h : (doR s a b).2 = 0) : mayB (doR s a b).1 = true := by
  unfold doR at h ⊢
  have hf : ∀ x : Int, (fit x).2 = 0 → mayB (fit x).1 = true := by
    intro x hx; unfold fit at hx ⊢
    split
    · rename_i hm; exact hm
    · rename_i hm; rw [if_neg hm] at hx; cases hx
  repeat' split
  all_goals simp_all
theorem gv_check {l : List Bd} {x y : Tm} (h : gvT l x = some y) (hm : mayL l = true) (hg : guaB x = true) : checkN y = 0 := by
  obtain ⟨k, n, s, t, ps⟩ := x
  rw [gvT_mk] at h
  obtain ⟨vs, hvs, hp⟩ := Option.bind_eq_some_iff.1 h
  clear h
  have h := hp
  clear hp
  have hleaf : (k = 5 ∨ k = 6 ∨ k = 7 ∨ k = 8) → leafB k n s t ps = true := by
    intro hk
    unfold guaB at hg
    rw [Bool.or_eq_true] at hg
    rcases hg with hg | hg
    · exact hg
    · simp only [Bool.and_eq_true, Bool.or_eq_true, beq_iff_eq] at hg
      omega
  unfold putT at h
  by_cases h5 : k = 5
  · rw [if_pos h5] at h
    unfold varT at h
    split at h
    · cases h
    · have hc := List.all_eq_true.1 hm _ (findB_mem h)
      simpa using hc
  rw [if_neg h5] at h
  by_cases h6 : k = 6
  · rw [if_pos h6] at h
    have hl := hleaf (.inr (.inl h6))
    unfold leafB at hl
    subst h6
    simp only [Bool.and_eq_true, Bool.or_eq_true, beq_iff_eq] at hl
    have hmy : mayB n = true := by
      rcases hl.2 with ((h | h) | h) | h
      · exact absurd h.1.1 (by decide)
      · exact h.2
      · exact absurd h.1.1 (by decide)
      · exact absurd h.1.1 (by decide)
    cases h
    exact one_check11 (by simp [okN, ok_integer, hmy])
  rw [if_neg h6] at h
  by_cases h7 : k = 7
  · rw [if_pos h7] at h
    have hl := hleaf (.inr (.inr (.inl h7)))
    unfold leafB at hl
    subst h7
    simp only [Bool.and_eq_true, Bool.or_eq_true, beq_iff_eq] at hl
    have hmy : nameB s 2 = true := by
      rcases hl.2 with ((h | h) | h) | h
      · exact absurd h.1.1 (by decide)
      · exact absurd h.1.1 (by decide)
      · have := h.2; unfold atomB at this; rw [Bool.and_eq_true] at this; exact this.1
      · exact absurd h.1.1 (by decide)
    cases h
    exact one_check11 (by simp [okN, ok_atom, hmy])
  rw [if_neg h7] at h
  by_cases h8 : k = 8
  · rw [if_pos h8] at h
    cases h
    exact one_check11 (by simp [okN, ok_empty])
  rw [if_neg h8] at h
  by_cases h9 : k = 9
  · rw [if_pos h9] at h
    unfold consR at h
    split at h
    · split at h
      · rename_i hf; cases h; exact cons_check11 hf
      · cases h
    · cases h
  rw [if_neg h9] at h
  by_cases h10 : k = 10
  · rw [if_pos h10] at h
    unfold tupR at h
    split at h
    · rename_i hf; cases h; exact tup_check11 hf
    · cases h
  rw [if_neg h10] at h
  by_cases h11 : k = 11
  · rw [if_pos h11] at h
    unfold opR at h
    split at h
    · split at h
      · rename_i hf; cases h; exact one_check11 (by simp [okN, ok_integer, do_may11 hf.2.2])
      · cases h
    · cases h
  rw [if_neg h11] at h
  cases h
def RValP (r : Option Tm) (n0 : Nat) (w : World) (e : Ending) (w' : World) : Prop :=
  ∃ (k n : Int) (s t : ByteArray) (A : Option Addr) (m c : Nat), e = .returned (.tuple #[.agg #[.int .i8 k, .int .i64 n, .string s, .string t, .slice A m c], .bool r.isSome]) ∧
    (∀ y, r = some y → TmAt (fun b => b < n0 ∨ (w.heap.size ≤ b ∧ b < w'.heap.size)) w' y (.agg #[.int .i8 k, .int .i64 n, .string s, .string t, .slice A m c])) ∧ Below w.heap.size w w'
def RFindP (r : Option Tm) (n0 : Nat) (w : World) (e : Ending) (w' : World) : Prop :=
  ∃ (k n : Int) (s t : ByteArray) (A : Option Addr) (m c : Nat), e = .returned (.tuple #[.agg #[.int .i8 k, .int .i64 n, .string s, .string t, .slice A m c], .bool r.isSome]) ∧
    (∀ y, r = some y → TmAt (fun b => b < n0 ∨ (w.heap.size ≤ b ∧ b < w'.heap.size)) w' y (.agg #[.int .i8 k, .int .i64 n, .string s, .string t, .slice A m c])) ∧ (r = none → TmAt (fun b => b < n0) w' (intT 0) (.agg #[.int .i8 k, .int .i64 n, .string s, .string t, .slice A m c])) ∧ Below w.heap.size w w'

set_option maxHeartbeats 4000000 in
set_option maxRecDepth 100000 in
theorem rFind11_any (n0 n1 : Nat) (l : List Bd) (nm : ByteArray) (A : Option Addr) (pn cap : Nat) (W : World) (hR : BRT n0 n1 W A pn cap l) (hn1 : n1 ≤ W.heap.size) :
    Calls Tryz.prog 46 #[.slice A pn cap, .string nm] W (RFindP (findB l nm) n0 W) := by
  obtain rfl := hR.len
  have hmax := hR.max
  unfold maxLen at hmax
  obtain ⟨w1, hw1⟩ : ∃ w1, w1 = W.alloc (.cells #[.int .i8 0, .int .i64 0, .string ⟨#[]⟩, .string ⟨#[]⟩, .slice none 0 0] 44) := ⟨_, rfl⟩
  have b1 : Below W.heap.size W w1 := by rw [hw1]; exact (Below.refl _ W).alloc (Nat.le_refl _) _
  have HG : Hid (w1.heap[W.heap.size]? = some (.cells #[.int .i8 0, .int .i64 0, .string ⟨#[]⟩, .string ⟨#[]⟩, .slice none 0 0] 44 (0, 0))) := Lib.hid (by rw [hw1]; exact block_alloc _ _)
  have HR := Lib.hid (hR.under b1 hn1)
  have HB1 := Lib.hid b1
  have HN1 : Hid (n1 ≤ W.heap.size) := hn1
  have HN0 : Hid (n0 ≤ W.heap.size) := Nat.le_trans hR.le hn1
  have HZ1 : Hid (w1.heap.size = W.heap.size + 1) := Lib.hid (by rw [hw1, World.size_alloc])
  clear hR b1 hn1
  go_enter Tryz.func46, Tryz.ntmps46
  go_upto_region 1 with fail
  rw [← hw1]
  clear hw1
  go_wp2_with fail
  go_loopw [6] (fun i wr => ∃ j : Nat, j ≤ l.length ∧ i = .int .i64 j ∧ Hid (Below w1.heap.size w1 wr) ∧ Hid (findB l nm = findB (l.drop j) nm)) (fun i _ => l.length - (intOf i).toNat)
  case atStart => exact ⟨0, Nat.zero_le _, rfl, Lib.hid (Below.refl _ _), Lib.hid rfl⟩
  case round =>
    obtain ⟨j, hj, rfl, HB, HM⟩ := hrel
    by_cases hlt : j < l.length
    · obtain ⟨y, hy⟩ : ∃ y, l[j]? = some y := ⟨l[j], List.getElem?_eq_getElem hlt⟩
      obtain ⟨ad, u, rfl, had, hsz, hE, hTy⟩ := HR.out.at_ j y hy
      have hEr := hE.keep (HB.out.block ad.block (by have := HN1.out; have := HZ1.out; omega))
      have hTr := hTy.keep (Q := (· < n0)) (w' := wr) (fun b hb => HB.out.block b (by have := HN0.out; have := HZ1.out; omega)) (fun b hb => hb)
      have HD : Hid (findB l nm = if y.1 = nm then some y.2 else findB (l.drop (j + 1)) nm) := Lib.hid (by
        rw [HM.out, List.drop_eq_getElem_cons hlt]
        rw [List.getElem?_eq_getElem hlt] at hy
        rw [Option.some.inj hy]
        rfl)
      obtain ⟨ys, yt⟩ := y
      obtain ⟨k', n', s', t', A', m', c', rfl⟩ : ∃ k' n' s' t' A' m' c', u = .agg #[.int .i8 k', .int .i64 n', .string s', .string t', .slice A' m' c'] := by
        dsimp only at hTy; cases hTy; exact ⟨_, _, _, _, _, _, _, rfl⟩
      obtain ⟨c0, c1, c2, c3, c4, hcc, es, e0, e1, e2, e3, e4⟩ := hEr
      simp only [Value.agg.injEq, Array.mk.injEq, List.cons.injEq, and_true] at hcc
      obtain ⟨rfl, rfl, rfl, rfl, rfl⟩ := hcc
      dsimp only at HD es
      have HTR := Lib.hid hTr
      clear hE hTy hTr hy had hsz
      by_cases hn : ys = nm
      · have HF : Hid (findB l nm = some yt) := Lib.hid (by rw [HD.out, if_pos hn])
        have hn2 : (ys.toList == nm.toList) = true := by rw [hn]; exact beq_self_eq_true _
        clear hn
        have gR := (HB.out.block _ (heap_lt HG.out)).trans HG.out
        clear HD
        obtain ⟨⟨r0, r1, r2, r3, r4⟩, rf0, rf1, rf2, rf3, rf4⟩ := five_fr gR
        have S5 := Lib.hid (set_five (.int .i8 k') (.int .i64 n') (.string s') (.string t') (.slice A' m' c') gR)
        go_wp2_with fail
        obtain ⟨s5, m5⟩ := S5.out
        generalize ((((((wr).setCell ⟨W.heap.size, 0, none⟩ (.int .i8 k')).setCell ⟨W.heap.size, 1, none⟩ (.int .i64 n')).setCell ⟨W.heap.size, 2, none⟩ (.string s')).setCell ⟨W.heap.size, 3, none⟩ (.string t')).setCell ⟨W.heap.size, 4, none⟩ (.slice A' m' c')) = VX at s5 m5 ⊢
        obtain ⟨z0, z1, z2, z3, z4⟩ := five_of s5
        refine bodyPost_ret (v := .tuple #[.agg #[.int .i8 k', .int .i64 n', .string s', .string t', .slice A' m' c'], .bool true]) (by simp [results, Tryz.f46, go_sem, z0, z1, z2, z3, z4]) rfl ?_
        refine ⟨_, _, _, _, _, _, _, by rw [HF.out]; rfl, fun y hy => ?_, (fun h => by rw [HF.out] at h; cases h), ?_⟩
        · rw [HF.out] at hy
          cases hy
          have z1 := HZ1.out
          have z2 := HB.out.size
          have z3 := m5.size
          have z4 := HN0.out
          exact HTR.out.keep (fun b (hb : b < n0) => m5.block b (by omega) (by omega)) (fun b (hb : b < n0) => .inl hb)
        · exact (HB1.out.trans (HB.out.mono HB1.out.size)).trans (m5.below (HB1.out.trans (HB.out.mono HB1.out.size)).size (fun q (e : q = _) => by omega))
      · have HM2 : Hid (findB l nm = findB (l.drop (j + 1)) nm) := Lib.hid (by rw [HD.out, if_neg hn])
        have hn2 : (ys.toList == nm.toList) = false := by
          cases h : (ys.toList == nm.toList) with
          | false => rfl
          | true => exact absurd (ByteArray.ext (Array.toList_inj.1 (by have := eq_of_beq h; rwa [ByteArray.toList_eq, ByteArray.toList_eq] at this))) hn
        clear hn
        clear HD
        go_wp2_with fail
        go_roundw
        case rel => exact ⟨j + 1, by omega, by go_num, HB, HM2⟩
        case measure => simp [intOf]; omega
    · obtain rfl : j = l.length := by omega
      have HF : Hid (findB l nm = none) := Lib.hid (by rw [HM.out, List.drop_length]; rfl)
      have gR := (HB.out.block _ (heap_lt HG.out)).trans HG.out
      obtain ⟨⟨r0, r1, r2, r3, r4⟩, rf0, rf1, rf2, rf3, rf4⟩ := five_fr gR
      have S5 := Lib.hid (set_five (.int .i8 0) (.int .i64 0) (.string ⟨#[]⟩) (.string ⟨#[]⟩) (.slice none 0 0) gR)
      go_wp2_with fail
      obtain ⟨s5, m5⟩ := S5.out
      generalize ((((((wr).setCell ⟨W.heap.size, 0, none⟩ (.int .i8 0)).setCell ⟨W.heap.size, 1, none⟩ (.int .i64 0)).setCell ⟨W.heap.size, 2, none⟩ (.string ⟨#[]⟩)).setCell ⟨W.heap.size, 3, none⟩ (.string ⟨#[]⟩)).setCell ⟨W.heap.size, 4, none⟩ (.slice none 0 0)) = VX at s5 m5 ⊢
      obtain ⟨z0, z1, z2, z3, z4⟩ := five_of s5
      refine bodyPost_ret (v := .tuple #[.agg #[.int .i8 0, .int .i64 0, .string ⟨#[]⟩, .string ⟨#[]⟩, .slice none 0 0], .bool false]) (by simp [results, Tryz.f46, go_sem, z0, z1, z2, z3, z4]) rfl ?_
      refine ⟨_, _, _, _, _, _, _, by rw [HF.out]; rfl, (fun y hy => by rw [HF.out] at hy; cases hy), fun _ => .leaf _ _ 0 0 ⟨#[]⟩ (by decide) (by decide) (by decide), ?_⟩
      exact (HB1.out.trans (HB.out.mono HB1.out.size)).trans (m5.below (HB1.out.trans (HB.out.mono HB1.out.size)).size (fun q (e : q = _) => by omega))

set_option maxHeartbeats 4000000 in
set_option maxRecDepth 100000 in
theorem rval_leaf (n0 n1 : Nat) (l : List Bd) (k n : Int) (s t : ByteArray) (hk : k = 5 ∨ k = 6 ∨ k = 7 ∨ k = 8) (NA : Option Addr) (nm nc : Nat) (A : Option Addr) (m cap : Nat) (W : World) (hnn : -9223372036854775808 ≤ n ∧ n ≤ 9223372036854775807) (hss : s.size ≤ maxLen) (hR : BRT n0 n1 W A m cap l) (hn1 : n1 ≤ W.heap.size) :
    Calls Tryz.prog 94 #[.agg #[.int .i8 k, .int .i64 n, .string s, .string t, .slice NA nm nc], .slice A m cap] W (RValP (putT l k n s []) n0 W) := by
  have g0 := there_of (.cells #[.int .i8 0, .int .i64 0, .string ⟨#[]⟩, .string ⟨#[]⟩, .slice none 0 0] 44) (block_alloc W (.cells #[.int .i8 k, .int .i64 n, .string s, .string t, .slice NA nm nc] 25))
  have g1 := block_alloc (W.alloc (.cells #[.int .i8 k, .int .i64 n, .string s, .string t, .slice NA nm nc] 25)) (.cells #[.int .i8 0, .int .i64 0, .string ⟨#[]⟩, .string ⟨#[]⟩, .slice none 0 0] 44)
  rw [World.size_alloc] at g1
  have b2 : Below W.heap.size W ((W.alloc (.cells #[.int .i8 k, .int .i64 n, .string s, .string t, .slice NA nm nc] 25)).alloc (.cells #[.int .i8 0, .int .i64 0, .string ⟨#[]⟩, .string ⟨#[]⟩, .slice none 0 0] 44)) := ((Below.refl _ W).alloc (Nat.le_refl _) _).alloc (by simp) _
  have z2 : ((W.alloc (.cells #[.int .i8 k, .int .i64 n, .string s, .string t, .slice NA nm nc] 25)).alloc (.cells #[.int .i8 0, .int .i64 0, .string ⟨#[]⟩, .string ⟨#[]⟩, .slice none 0 0] 44)).heap.size = W.heap.size + 2 := by rw [World.size_alloc, World.size_alloc]
  obtain ⟨W2, hW2⟩ : ∃ W2, W2 = (W.alloc (.cells #[.int .i8 k, .int .i64 n, .string s, .string t, .slice NA nm nc] 25)).alloc (.cells #[.int .i8 0, .int .i64 0, .string ⟨#[]⟩, .string ⟨#[]⟩, .slice none 0 0] 44) := ⟨_, rfl⟩
  rw [← hW2] at g0 g1 b2 z2
  have HB2 := Lib.hid b2
  have HG0 := Lib.hid g0
  have HG1 := Lib.hid g1
  have HZ2 := Lib.hid z2
  have HN1 : Hid (n1 ≤ W.heap.size) := hn1
  have HN0 : Hid (n0 ≤ W.heap.size) := Nat.le_trans hR.le hn1
  have HR := Lib.hid (hR.under b2 hn1)
  have HNN := Lib.hid hnn
  have HSS := Lib.hid hss
  obtain ⟨x0, x1, x2, x3, x4⟩ := five_of g0
  clear g0 g1 b2 z2 hR hn1 hnn hss
  rcases hk with rfl | rfl | rfl | rfl
  · by_cases hu : s.data.toList = [95]
    · have hu2 : (s.toList == [95]) = true := by rw [ByteArray.toList_eq, hu]; rfl
      have HF : Hid (putT l 5 n s [] = none) := Lib.hid (by unfold putT varT; rw [if_pos rfl, if_pos hu])
      clear hu
      go_enter Tryz.func94, Tryz.ntmps94
      go_upto_region 1 with fail
      rw [← hW2]
      clear hW2
      have gR := HG1.out
      obtain ⟨⟨r0, r1, r2, r3, r4⟩, rf0, rf1, rf2, rf3, rf4⟩ := five_fr gR
      have S5 := Lib.hid (set_five (.int .i8 0) (.int .i64 0) (.string ⟨#[]⟩) (.string ⟨#[]⟩) (.slice none 0 0) gR)
      go_wp2_with fail
      obtain ⟨s5, m5⟩ := S5.out
      generalize ((((((W2).setCell ⟨W.heap.size + 1, 0, none⟩ (.int .i8 0)).setCell ⟨W.heap.size + 1, 1, none⟩ (.int .i64 0)).setCell ⟨W.heap.size + 1, 2, none⟩ (.string ⟨#[]⟩)).setCell ⟨W.heap.size + 1, 3, none⟩ (.string ⟨#[]⟩)).setCell ⟨W.heap.size + 1, 4, none⟩ (.slice none 0 0)) = VX at s5 m5 ⊢
      obtain ⟨z0, z1, z2, z3, z4⟩ := five_of s5
      refine bodyPost_ret (v := .tuple #[.agg #[.int .i8 0, .int .i64 0, .string ⟨#[]⟩, .string ⟨#[]⟩, .slice none 0 0], .bool false]) (by simp [results, Tryz.f94, go_sem, z0, z1, z2, z3, z4]) rfl ?_
      exact ⟨_, _, _, _, _, _, _, by rw [HF.out]; rfl, (fun y hy => by rw [HF.out] at hy; cases hy), HB2.out.trans (m5.below HB2.out.size (fun q (e : q = _) => by omega))⟩
    · have hu2 : (s.toList == [95]) = false := by
        cases h : (s.toList == [95]) with
        | false => rfl
        | true => exact absurd (by have := eq_of_beq h; rwa [ByteArray.toList_eq] at this) hu
      have HF : Hid (putT l 5 n s [] = findB l s) := Lib.hid (by unfold putT varT; rw [if_pos rfl, if_neg hu])
      clear hu
      have HC := Lib.hid (rFind11_any n0 n1 l s A m cap W2 HR.out (Nat.le_trans HN1.out HB2.out.size))
      go_enter Tryz.func94, Tryz.ntmps94
      go_upto_region 1 with fail
      rw [← hW2]
      clear hW2
      go_wp2_with fail
      refine HC.out.mono ?_
      rintro e W3 ⟨k9, n9, s9, t9, A9, m9, c9, rfl, hy, hno, b3⟩
      have HB3 := Lib.hid (HB2.out.trans (b3.mono HB2.out.size))
      have gR := (b3.block _ (heap_lt HG1.out)).trans HG1.out
      have HY := Lib.hid hy
      have HNO := Lib.hid hno
      have HB23 : Hid (W2.heap.size ≤ W3.heap.size) := b3.size
      obtain ⟨bf, hbf⟩ : ∃ bf, bf = (findB l s).isSome := ⟨_, rfl⟩
      rw [← hbf]
      have HBF := Lib.hid hbf
      clear hy hno b3 hbf HC x0 x1 x2 x3 x4
      obtain ⟨⟨r0, r1, r2, r3, r4⟩, rf0, rf1, rf2, rf3, rf4⟩ := five_fr gR
      have S5 := Lib.hid (set_five (.int .i8 k9) (.int .i64 n9) (.string s9) (.string t9) (.slice A9 m9 c9) gR)
      go_wp2_with fail
      obtain ⟨s5, m5⟩ := S5.out
      generalize ((((((W3).setCell ⟨W.heap.size + 1, 0, none⟩ (.int .i8 k9)).setCell ⟨W.heap.size + 1, 1, none⟩ (.int .i64 n9)).setCell ⟨W.heap.size + 1, 2, none⟩ (.string s9)).setCell ⟨W.heap.size + 1, 3, none⟩ (.string t9)).setCell ⟨W.heap.size + 1, 4, none⟩ (.slice A9 m9 c9)) = VX at s5 m5 ⊢
      obtain ⟨z0, z1, z2, z3, z4⟩ := five_of s5
      refine bodyPost_ret (v := .tuple #[.agg #[.int .i8 k9, .int .i64 n9, .string s9, .string t9, .slice A9 m9 c9], .bool bf]) (by simp [results, Tryz.f94, go_sem, z0, z1, z2, z3, z4]) rfl ?_
      have z1 := HZ2.out
      have z2 := HB23.out
      have z3 := m5.size
      have z4 := HN0.out
      refine ⟨_, _, _, _, _, _, _, by rw [HF.out, HBF.out], fun y hy => ?_, HB3.out.trans (m5.below HB3.out.size (fun q (e : q = _) => by omega))⟩
      · rw [HF.out] at hy
        exact (HY.out y hy).keep (fun b hb => m5.block b (by rcases hb with h | h <;> omega) (by rcases hb with h | h <;> omega)) (fun b hb => by rcases hb with h | h; (exact .inl h); (exact .inr ⟨by omega, by omega⟩))
  · have HF : Hid (putT l 6 n s [] = some (intT n)) := Lib.hid (by unfold putT; rfl)
    go_enter Tryz.func94, Tryz.ntmps94
    go_upto_region 1 with fail
    rw [← hW2]
    clear hW2
    go_wp2_with fail
    refine (rInt_any n W2).mono ?_
    rintro e W3 ⟨rfl, b3⟩
    have HB3 := Lib.hid (HB2.out.trans (b3.mono HB2.out.size))
    have gR := (b3.block _ (heap_lt HG1.out)).trans HG1.out
    clear b3 x0 x1 x2 x3 x4
    obtain ⟨⟨r0, r1, r2, r3, r4⟩, rf0, rf1, rf2, rf3, rf4⟩ := five_fr gR
    have S5 := Lib.hid (set_five (.int .i8 0) (.int .i64 n) (.string ⟨#[]⟩) (.string ⟨#[]⟩) (.slice none 0 0) gR)
    go_wp2_with fail
    obtain ⟨s5, m5⟩ := S5.out
    generalize ((((((W3).setCell ⟨W.heap.size + 1, 0, none⟩ (.int .i8 0)).setCell ⟨W.heap.size + 1, 1, none⟩ (.int .i64 n)).setCell ⟨W.heap.size + 1, 2, none⟩ (.string ⟨#[]⟩)).setCell ⟨W.heap.size + 1, 3, none⟩ (.string ⟨#[]⟩)).setCell ⟨W.heap.size + 1, 4, none⟩ (.slice none 0 0)) = VX at s5 m5 ⊢
    obtain ⟨z0, z1, z2, z3, z4⟩ := five_of s5
    refine bodyPost_ret (v := .tuple #[.agg #[.int .i8 0, .int .i64 n, .string ⟨#[]⟩, .string ⟨#[]⟩, .slice none 0 0], .bool true]) (by simp [results, Tryz.f94, go_sem, z0, z1, z2, z3, z4]) rfl ?_
    exact ⟨_, _, _, _, _, _, _, by rw [HF.out]; rfl, (fun y hy => by rw [HF.out] at hy; cases hy; exact TmAt.of_row (.nil _ _ none 0) (by decide) HNN.out (by decide) (by decide)), HB3.out.trans (m5.below HB3.out.size (fun q (e : q = _) => by omega))⟩
  · have HF : Hid (putT l 7 n s [] = some (atmT s)) := Lib.hid (by unfold putT; rfl)
    go_enter Tryz.func94, Tryz.ntmps94
    go_upto_region 1 with fail
    rw [← hW2]
    clear hW2
    go_wp2_with fail
    refine (rAtom_any s W2).mono ?_
    rintro e W3 ⟨rfl, b3⟩
    have HB3 := Lib.hid (HB2.out.trans (b3.mono HB2.out.size))
    have gR := (b3.block _ (heap_lt HG1.out)).trans HG1.out
    clear b3 x0 x1 x2 x3 x4
    obtain ⟨⟨r0, r1, r2, r3, r4⟩, rf0, rf1, rf2, rf3, rf4⟩ := five_fr gR
    have S5 := Lib.hid (set_five (.int .i8 1) (.int .i64 0) (.string s) (.string ⟨#[]⟩) (.slice none 0 0) gR)
    go_wp2_with fail
    obtain ⟨s5, m5⟩ := S5.out
    generalize ((((((W3).setCell ⟨W.heap.size + 1, 0, none⟩ (.int .i8 1)).setCell ⟨W.heap.size + 1, 1, none⟩ (.int .i64 0)).setCell ⟨W.heap.size + 1, 2, none⟩ (.string s)).setCell ⟨W.heap.size + 1, 3, none⟩ (.string ⟨#[]⟩)).setCell ⟨W.heap.size + 1, 4, none⟩ (.slice none 0 0)) = VX at s5 m5 ⊢
    obtain ⟨z0, z1, z2, z3, z4⟩ := five_of s5
    refine bodyPost_ret (v := .tuple #[.agg #[.int .i8 1, .int .i64 0, .string s, .string ⟨#[]⟩, .slice none 0 0], .bool true]) (by simp [results, Tryz.f94, go_sem, z0, z1, z2, z3, z4]) rfl ?_
    exact ⟨_, _, _, _, _, _, _, by rw [HF.out]; rfl, (fun y hy => by rw [HF.out] at hy; cases hy; exact TmAt.of_row (.nil _ _ none 0) (by decide) (by decide) HSS.out (by decide)), HB3.out.trans (m5.below HB3.out.size (fun q (e : q = _) => by omega))⟩
  · have HF : Hid (putT l 8 n s [] = some (nilT11)) := Lib.hid (by unfold putT; rfl)
    go_enter Tryz.func94, Tryz.ntmps94
    go_upto_region 1 with fail
    rw [← hW2]
    clear hW2
    have gR := HG1.out
    have HB3 := HB2
    obtain ⟨⟨r0, r1, r2, r3, r4⟩, rf0, rf1, rf2, rf3, rf4⟩ := five_fr gR
    have S5 := Lib.hid (set_five (.int .i8 6) (.int .i64 0) (.string ⟨#[]⟩) (.string ⟨#[]⟩) (.slice none 0 0) gR)
    go_wp2_with fail
    obtain ⟨s5, m5⟩ := S5.out
    generalize ((((((W2).setCell ⟨W.heap.size + 1, 0, none⟩ (.int .i8 6)).setCell ⟨W.heap.size + 1, 1, none⟩ (.int .i64 0)).setCell ⟨W.heap.size + 1, 2, none⟩ (.string ⟨#[]⟩)).setCell ⟨W.heap.size + 1, 3, none⟩ (.string ⟨#[]⟩)).setCell ⟨W.heap.size + 1, 4, none⟩ (.slice none 0 0)) = VX at s5 m5 ⊢
    obtain ⟨z0, z1, z2, z3, z4⟩ := five_of s5
    refine bodyPost_ret (v := .tuple #[.agg #[.int .i8 6, .int .i64 0, .string ⟨#[]⟩, .string ⟨#[]⟩, .slice none 0 0], .bool true]) (by simp [results, Tryz.f94, go_sem, z0, z1, z2, z3, z4]) rfl ?_
    exact ⟨_, _, _, _, _, _, _, by rw [HF.out]; rfl, (fun y hy => by rw [HF.out] at hy; cases hy; exact TmAt.of_row (.nil _ _ none 0) (by decide) (by decide) (by decide) (by decide)), HB3.out.trans (m5.below HB3.out.size (fun q (e : q = _) => by omega))⟩
end Go.Proofs.YtkceoiaaiaomoaaGreatDoor
