/- Layer 10: the document's own Find, May and Goes; pleachref07.Pattern. -/
import Derived.Test.YtkceoiaaiaomoaaGreatDoorKRName7
import Derived.Test.YtkceoiaaiaomoaaGreatDoorKGd16
import Derived.Test.YtkceoiaaiaomoaaGreatDoorKAstC
set_option linter.unusedVariables false
set_option linter.unusedSimpArgs false
namespace Go.Proofs.YtkceoiaaiaomoaaGreatDoor
open Go.RowKit

set_option maxHeartbeats 4000000 in
set_option maxRecDepth 100000 in
theorem rFind10_any (n0 n1 : Nat) (l : List Bd) (nm : ByteArray) (A : Option Addr) (pn cap : Nat) (W : World) (hR : BRT n0 n1 W A pn cap l) (hn1 : n1 ≤ W.heap.size) :
    Calls Tryz.prog 85 #[.slice A pn cap, .string nm] W (RFindP (findB l nm) n0 W) := by
  obtain rfl := hR.len
  have hmax := hR.max
  unfold maxLen at hmax
  obtain ⟨w1, hw1⟩ : ∃ w1, w1 = W.alloc (.cells #[.int .i8 0, .int .i64 0, .string ⟨#[]⟩, .string ⟨#[]⟩, .slice none 0 0] 44) := ⟨_, rfl⟩
  have b1 : Below W.heap.size W w1 := by rw [hw1]; exact (Below.refl _ W).alloc (Nat.le_refl _) _
  have HG : Hid (w1.heap[W.heap.size]? = some (.cells #[.int .i8 0, .int .i64 0, .string ⟨#[]⟩, .string ⟨#[]⟩, .slice none 0 0] 44 (0, 0))) := Lib.hid (by rw [hw1]; exact block_alloc _ _)
  have HR := Lib.hid (hR.under b1 hn1)
  have HB1 := Lib.hid b1
  have HN1 : Hid (n1 ≤ W.heap.size) := hn1
  have HN0 : Hid (n0 ≤ W.heap.size) := Nat.le_trans hR.le hn1
  have HZ1 : Hid (w1.heap.size = W.heap.size + 1) := Lib.hid (by rw [hw1, World.size_alloc])
  clear hR b1 hn1
  go_enter Tryz.func85, Tryz.ntmps85
  go_upto_region 1 with fail
  rw [← hw1]
  clear hw1
  go_wp2_with fail
  go_loopw [6] (fun i wr => ∃ j : Nat, j ≤ l.length ∧ i = .int .i64 j ∧ Hid (Below w1.heap.size w1 wr) ∧ Hid (findB l nm = findB (l.drop j) nm)) (fun i _ => l.length - (intOf i).toNat)
  case atStart => exact ⟨0, Nat.zero_le _, rfl, Lib.hid (Below.refl _ _), Lib.hid rfl⟩
  case round =>
    obtain ⟨j, hj, rfl, HB, HM⟩ := hrel
    by_cases hlt : j < l.length
    · obtain ⟨y, hy⟩ : ∃ y, l[j]? = some y := ⟨l[j], List.getElem?_eq_getElem hlt⟩
      obtain ⟨ad, u, rfl, had, hsz, hE, hTy⟩ := HR.out.at_ j y hy
      have hEr := hE.keep (HB.out.block ad.block (by have := HN1.out; have := HZ1.out; omega))
      have hTr := hTy.keep (Q := (· < n0)) (w' := wr) (fun b hb => HB.out.block b (by have := HN0.out; have := HZ1.out; omega)) (fun b hb => hb)
      have HD : Hid (findB l nm = if y.1 = nm then some y.2 else findB (l.drop (j + 1)) nm) := Lib.hid (by
        rw [HM.out, List.drop_eq_getElem_cons hlt]
        rw [List.getElem?_eq_getElem hlt] at hy
        rw [Option.some.inj hy]
        rfl)
      obtain ⟨ys, yt⟩ := y
      obtain ⟨k', n', s', t', A', m', c', rfl⟩ : ∃ k' n' s' t' A' m' c', u = .agg #[.int .i8 k', .int .i64 n', .string s', .string t', .slice A' m' c'] := by
        dsimp only at hTy; cases hTy; exact ⟨_, _, _, _, _, _, _, rfl⟩
      obtain ⟨c0, c1, c2, c3, c4, hcc, es, e0, e1, e2, e3, e4⟩ := hEr
      simp only [Value.agg.injEq, Array.mk.injEq, List.cons.injEq, and_true] at hcc
      obtain ⟨rfl, rfl, rfl, rfl, rfl⟩ := hcc
      dsimp only at HD es
      have HTR := Lib.hid hTr
      clear hE hTy hTr hy had hsz
      by_cases hn : ys = nm
      · have HF : Hid (findB l nm = some yt) := Lib.hid (by rw [HD.out, if_pos hn])
        have hn2 : (ys.toList == nm.toList) = true := by rw [hn]; exact beq_self_eq_true _
        clear hn
        have gR := (HB.out.block _ (heap_lt HG.out)).trans HG.out
        clear HD
        obtain ⟨⟨r0, r1, r2, r3, r4⟩, rf0, rf1, rf2, rf3, rf4⟩ := five_fr gR
        have S5 := Lib.hid (set_five (.int .i8 k') (.int .i64 n') (.string s') (.string t') (.slice A' m' c') gR)
        go_wp2_with fail
        obtain ⟨s5, m5⟩ := S5.out
        generalize ((((((wr).setCell ⟨W.heap.size, 0, none⟩ (.int .i8 k')).setCell ⟨W.heap.size, 1, none⟩ (.int .i64 n')).setCell ⟨W.heap.size, 2, none⟩ (.string s')).setCell ⟨W.heap.size, 3, none⟩ (.string t')).setCell ⟨W.heap.size, 4, none⟩ (.slice A' m' c')) = VX at s5 m5 ⊢
        obtain ⟨z0, z1, z2, z3, z4⟩ := five_of s5
        refine bodyPost_ret (v := .tuple #[.agg #[.int .i8 k', .int .i64 n', .string s', .string t', .slice A' m' c'], .bool true]) (by simp [results, Tryz.f85, go_sem, z0, z1, z2, z3, z4]) rfl ?_
        refine ⟨_, _, _, _, _, _, _, by rw [HF.out]; rfl, fun y hy => ?_, (fun h => by rw [HF.out] at h; cases h), ?_⟩
        · rw [HF.out] at hy
          cases hy
          have z1 := HZ1.out
          have z2 := HB.out.size
          have z3 := m5.size
          have z4 := HN0.out
          exact HTR.out.keep (fun b (hb : b < n0) => m5.block b (by omega) (by omega)) (fun b (hb : b < n0) => .inl hb)
        · exact (HB1.out.trans (HB.out.mono HB1.out.size)).trans (m5.below (HB1.out.trans (HB.out.mono HB1.out.size)).size (fun q (e : q = _) => by omega))
      · have HM2 : Hid (findB l nm = findB (l.drop (j + 1)) nm) := Lib.hid (by rw [HD.out, if_neg hn])
        have hn2 : (ys.toList == nm.toList) = false := by
          cases h : (ys.toList == nm.toList) with
          | false => rfl
          | true => exact absurd (ByteArray.ext (Array.toList_inj.1 (by have := eq_of_beq h; rwa [ByteArray.toList_eq, ByteArray.toList_eq] at this))) hn
        clear hn
        clear HD
        go_wp2_with fail
        go_roundw
        case rel => exact ⟨j + 1, by omega, by go_num, HB, HM2⟩
        case measure => simp [intOf]; omega
    · obtain rfl : j = l.length := by omega
      have HF : Hid (findB l nm = none) := Lib.hid (by rw [HM.out, List.drop_length]; rfl)
      have gR := (HB.out.block _ (heap_lt HG.out)).trans HG.out
      obtain ⟨⟨r0, r1, r2, r3, r4⟩, rf0, rf1, rf2, rf3, rf4⟩ := five_fr gR
      have S5 := Lib.hid (set_five (.int .i8 0) (.int .i64 0) (.string ⟨#[]⟩) (.string ⟨#[]⟩) (.slice none 0 0) gR)
      go_wp2_with fail
      obtain ⟨s5, m5⟩ := S5.out
      generalize ((((((wr).setCell ⟨W.heap.size, 0, none⟩ (.int .i8 0)).setCell ⟨W.heap.size, 1, none⟩ (.int .i64 0)).setCell ⟨W.heap.size, 2, none⟩ (.string ⟨#[]⟩)).setCell ⟨W.heap.size, 3, none⟩ (.string ⟨#[]⟩)).setCell ⟨W.heap.size, 4, none⟩ (.slice none 0 0)) = VX at s5 m5 ⊢
      obtain ⟨z0, z1, z2, z3, z4⟩ := five_of s5
      refine bodyPost_ret (v := .tuple #[.agg #[.int .i8 0, .int .i64 0, .string ⟨#[]⟩, .string ⟨#[]⟩, .slice none 0 0], .bool false]) (by simp [results, Tryz.f85, go_sem, z0, z1, z2, z3, z4]) rfl ?_
      refine ⟨_, _, _, _, _, _, _, by rw [HF.out]; rfl, (fun y hy => by rw [HF.out] at hy; cases hy), fun _ => .leaf _ _ 0 0 ⟨#[]⟩ (by decide) (by decide) (by decide), ?_⟩
      exact (HB1.out.trans (HB.out.mono HB1.out.size)).trans (m5.below (HB1.out.trans (HB.out.mono HB1.out.size)).size (fun q (e : q = _) => by omega))

set_option maxHeartbeats 2000000 in
set_option maxRecDepth 100000 in
theorem rPattern_any (x : Tm) (v : Value) (w : World) (hT : TmAt (· < w.heap.size) w x v) :
    Calls Tryz.prog 70 #[v] w fun e w' => e = .returned (.bool (fitsB x && patB x)) ∧ Below w.heap.size w w' := by
  obtain ⟨k, n, s, t, A, m, c, rfl⟩ : ∃ k n s t A m c, v = .agg #[.int .i8 k, .int .i64 n, .string s, .string t, .slice A m c] := by cases hT; exact ⟨_, _, _, _, _, _, _, rfl⟩
  obtain ⟨w1, hw1⟩ : ∃ w1, w1 = w.alloc (.cells #[.int .i8 k, .int .i64 n, .string s, .string t, .slice A m c] 25) := ⟨_, rfl⟩
  have b1 : Below w.heap.size w w1 := by rw [hw1]; exact (Below.refl _ w).alloc (Nat.le_refl _) _
  have HG : Hid (w1.heap[w.heap.size]? = some (.cells #[.int .i8 k, .int .i64 n, .string s, .string t, .slice A m c] 25 (0, 0))) := Lib.hid (by rw [hw1]; exact block_alloc _ _)
  have HT := Lib.hid (hT.laterN b1)
  have HB := Lib.hid b1
  have gx := HG.out
  obtain ⟨x0, x1, x2, x3, x4⟩ := five_of gx
  clear gx hT b1
  go_enter Tryz.func70, Tryz.ntmps70
  go_upto_region 1 with fail
  rw [← hw1]
  clear hw1
  go_wp2_with fail
  refine (rFits_any x _ w1 HT.out).mono ?_
  rintro e w2 ⟨rfl, b2⟩
  have HB2 := Lib.hid (HB.out.trans (b2.mono HB.out.size))
  have HT2 := Lib.hid (HT.out.laterN b2)
  have gx := (b2.block _ (heap_lt HG.out)).trans HG.out
  clear x0 x1 x2 x3 x4 b2
  obtain ⟨x0, x1, x2, x3, x4⟩ := five_of gx
  clear gx
  cases hf : fitsB x with
  | false =>
    have HF : Hid ((fitsB x && patB x) = false) := Lib.hid (by rw [hf]; rfl)
    go_wp2_with fail
    go_ret
    exact ⟨by rw [HF.out]; rfl, HB2.out⟩
  | true =>
    have HF : Hid ((fitsB x && patB x) = patB x) := Lib.hid (by rw [hf]; rfl)
    clear hf
    go_wp2_with fail
    refine (rpattern_any x _ w2 HT2.out).mono ?_
    rintro e w3 ⟨rfl, b3⟩
    have HB3 := Lib.hid (HB2.out.trans (b3.mono HB2.out.size))
    clear b3
    go_wp2_with fail
    go_ret
    exact ⟨by rw [HF.out]; rfl, HB3.out⟩

set_option maxHeartbeats 4000000 in
set_option maxRecDepth 100000 in
theorem rMay10_any (l : List Bd) (A : Option Addr) (pn cap : Nat) (W : World) (hR : BRow (· < W.heap.size) W A pn cap l) :
    Calls Tryz.prog 31 #[.slice A pn cap] W fun e w' => e = .returned (.bool (may10 l)) ∧ Below W.heap.size W w' := by
  obtain rfl := hR.len
  have hmax := hR.max
  unfold maxLen at hmax
  have HR := Lib.hid hR
  clear hR
  obtain ⟨RR, hRR⟩ : ∃ r, r = may10 l := ⟨_, rfl⟩
  rw [← hRR]
  have HRR := Lib.hid hRR
  clear hRR
  by_cases h2 : l.length ≤ 64
  case neg =>
    have h3 : (64 : Int) < (l.length : Int) := by omega
    have HF : Hid (RR = false) := by show _ = _; rw [HRR.out]; unfold may10; rw [decide_eq_false h2]; rfl
    clear h2
    go_enter Tryz.func31, Tryz.ntmps31
    go_wp2_with fail
    go_ret
    exact ⟨ret_bool HF.out.symm, Below.refl _ _⟩
  have HF1 : Hid (RR = l.all bdOk) := by show _ = _; rw [HRR.out]; unfold may10; rw [decide_eq_true h2]; rfl
  have h3 : ¬ (64 : Int) < (l.length : Int) := by omega
  clear h2
  go_enter Tryz.func31, Tryz.ntmps31
  go_wp2_with fail
  go_loopw [3] (fun i wr => ∃ j : Nat, j ≤ l.length ∧ i = .int .i64 j ∧ Hid (Below W.heap.size W wr) ∧ Hid (RR = (l.drop j).all bdOk)) (fun i _ => l.length - (intOf i).toNat)
  case atStart => exact ⟨0, Nat.zero_le _, rfl, Lib.hid (Below.refl _ _), HF1⟩
  case round =>
    obtain ⟨j, hj, rfl, HB, HM⟩ := hrel
    by_cases hlt : j < l.length
    · obtain ⟨y, hy⟩ : ∃ y, l[j]? = some y := ⟨l[j], List.getElem?_eq_getElem hlt⟩
      obtain ⟨ad, u, rfl, had, hsz, hE, hTy⟩ := HR.out.at_ j y hy
      have hEr := hE.keep (HB.out.block ad.block had)
      have hTr := hTy.keep (Q := (· < wr.heap.size)) (w' := wr) (fun b hb => HB.out.block b hb) (fun b hb => Nat.lt_of_lt_of_le hb HB.out.size)
      have HD : Hid (RR = (bdOk y && (l.drop (j + 1)).all bdOk)) := Lib.hid (by
        rw [HM.out, List.drop_eq_getElem_cons hlt]
        rw [List.getElem?_eq_getElem hlt] at hy
        rw [Option.some.inj hy]
        rfl)
      obtain ⟨ys, yt⟩ := y
      obtain ⟨k', n', s', t', A', m', c', rfl⟩ : ∃ k' n' s' t' A' m' c', u = .agg #[.int .i8 k', .int .i64 n', .string s', .string t', .slice A' m' c'] := by
        dsimp only at hTy; cases hTy; exact ⟨_, _, _, _, _, _, _, rfl⟩
      have HCK := Lib.hid (rCheck_any yt _ wr hTr)
      have HC := Lib.hid (rName_any ys wr hsz)
      obtain ⟨c0, c1, c2, c3, c4, hcc, es, e0, e1, e2, e3, e4⟩ := hEr
      simp only [Value.agg.injEq, Array.mk.injEq, List.cons.injEq, and_true] at hcc
      obtain ⟨rfl, rfl, rfl, rfl, rfl⟩ := hcc
      clear hE hTy hTr hy had hsz
      dsimp only at HD es
      have hte : (ys.toList == [95]) = (ys.data.toList == [95]) := by rw [ByteArray.toList_eq]
      go_wp2_with fail
      refine HC.out.mono ?_
      rintro e w2 ⟨rfl, hq⟩
      subst hq
      cases h1 : nameB ys 3 with
      | false =>
        have HF : Hid (RR = false) := by show _ = _; rw [HD.out]; unfold bdOk; rw [h1]; rfl
        clear h1
        go_wp2_with fail
        go_ret
        exact ⟨ret_bool HF.out.symm, HB.out⟩
      | true =>
        cases h2 : (ys.data.toList == [95]) with
        | true =>
          have h3 : (ys.toList == [95]) = true := hte.trans h2
          have HF : Hid (RR = false) := by show _ = _; rw [HD.out]; unfold bdOk; rw [h1, h2]; rfl
          clear h1 h2 hte
          go_wp2_with fail
          go_ret
          exact ⟨ret_bool HF.out.symm, HB.out⟩
        | false =>
          have h3 : (ys.toList == [95]) = false := hte.trans h2
          have HD2 : Hid (RR = ((checkN yt == 0) && (l.drop (j + 1)).all bdOk)) := by show _ = _; rw [HD.out]; unfold bdOk; rw [h1, h2]; rfl
          clear h1 h2 hte
          go_wp2_with fail
          refine HCK.out.mono ?_
          rintro e w3 ⟨rfl, b3⟩
          have HB3 := Lib.hid (HB.out.trans (b3.mono HB.out.size))
          clear b3 es e0 e1 e2 e3 e4
          by_cases hc : checkN yt = 0
          · have hc2 : (checkN yt != 0) = false := by simpa using hc
            have HF : Hid (RR = (l.drop (j + 1)).all bdOk) := by show _ = _; rw [HD2.out, hc]; rfl
            clear hc
            go_wp2_with fail
            go_roundw
            case rel => exact ⟨j + 1, by omega, by go_num, HB3, HF⟩
            case measure => simp [intOf]; omega
          · have hc2 : (checkN yt != 0) = true := by simpa using hc
            have HF : Hid (RR = false) := by show _ = _; rw [HD2.out, beq_eq_false_iff_ne.2 hc]; rfl
            clear hc
            go_wp2_with fail
            go_ret
            exact ⟨ret_bool HF.out.symm, HB3.out⟩
    · obtain rfl : j = l.length := by omega
      have HF : Hid (RR = true) := by show _ = _; rw [HM.out, List.drop_length]; rfl
      go_wp2_with fail
      go_ret
      exact ⟨ret_bool HF.out.symm, HB.out⟩

def GoesP (r : Option (List Bd)) (w : World) (e : Ending) (w' : World) : Prop :=
  ∃ (A' : Option Addr) (n' c' : Nat), e = .returned (.tuple #[.slice A' n' c', .bool r.isSome]) ∧ (∀ l', r = some l' → BRow (· < w'.heap.size) w' A' n' c' l') ∧ Below w.heap.size w w'
def GoesC (p : Tm) : Prop := ∀ (t : Tm) (l : List Bd) (v u : Value) (A : Option Addr) (n cap : Nat) (W : World), TmAt (· < W.heap.size) W p v → TmAt (· < W.heap.size) W t u → BRow (· < W.heap.size) W A n cap l → checkN t = 0 → (∀ b ∈ l, checkN b.2 = 0) → l.length + p.nodes ≤ 500000 →
  Calls Tryz.prog 72 #[v, u, .slice A n cap] W (GoesP (goP p t l) W)
theorem goP_ok : ∀ (p t : Tm) (l l' : List Bd), goP p t l = some l' → checkN t = 0 → (∀ b ∈ l, checkN b.2 = 0) → ∀ b ∈ l', checkN b.2 = 0 := by
  intro p
  induction p using Tm.ind with
  | h k n s u ps ih =>
    intro t l l' h ht hl
    have rows : ∀ (ps ts : List Tm) (l l' : List Bd), (∀ x ∈ ps, ∀ (t : Tm) (l l' : List Bd), goP x t l = some l' → checkN t = 0 → (∀ b ∈ l, checkN b.2 = 0) → ∀ b ∈ l', checkN b.2 = 0) → goPs ps ts l = some l' → (∀ y ∈ ts, checkN y = 0) → (∀ b ∈ l, checkN b.2 = 0) → ∀ b ∈ l', checkN b.2 = 0 := by
      intro ps
      induction ps with
      | nil =>
        intro ts l l' _ h _ hl
        rw [goPs] at h
        · cases h; exact hl
        · intro a b c d e; cases e
      | cons p ps ihp =>
        intro ts l l' hp h hts hl
        cases ts with
        | nil =>
          rw [goPs] at h
          · cases h; exact hl
          · intro a b c d e f; cases f
        | cons t ts =>
          rw [goPs] at h
          cases hq : goP p t l with
          | none => rw [hq] at h; cases h
          | some l1 =>
            rw [hq] at h
            exact ihp ts l1 l' (fun x hx => hp x (by simp [hx])) h (fun y hy => hts y (by simp [hy])) (hp p (by simp) t l l1 hq (hts t (by simp)) hl)
    rw [goP] at h
    split at h
    · split at h
      · cases h; exact hl
      · split at h
        · split at h
          · cases h; exact hl
          · cases h
        · cases h
          intro b hb
          rcases List.mem_append.1 hb with hb | hb
          · exact hl b hb
          · rw [List.mem_singleton.1 hb]; exact ht
    · split at h
      · split at h
        · cases h; exact hl
        · cases h
      · split at h
        · split at h
          · cases h; exact hl
          · cases h
        · split at h
          · split at h
            · cases h; exact hl
            · cases h
          · split at h
            · split at h
              · exact rows ps t.l l l' ih h (fun y hy => check_part ht hy) hl
              · cases h
            · split at h
              · exact rows ps t.l l l' ih h (fun y hy => check_part ht hy) hl
              · cases h
set_option maxHeartbeats 4000000 in
set_option maxRecDepth 100000 in
theorem goes_6 (n : Int) (s u : ByteArray) (ps : List Tm) : GoesC (.mk 6 n s u ps) := by
  intro t l v u0 A m cap W hP hT hR hc hok hmany
  obtain rfl := hR.len
  obtain ⟨NA, nc, rfl, hRP, _, _, hss, _⟩ := hP.parts
  obtain ⟨tk, tn, ts, tu, TL⟩ := t
  obtain ⟨TA, tc, rfl, hRT, -⟩ := hT.parts
  obtain ⟨RR, hRR⟩ : ∃ r, r = goP (.mk 6 n s u ps) (.mk tk tn ts tu TL) l := ⟨_, rfl⟩
  rw [← hRR]
  have g0 := there_of (.cells #[.int .i8 tk, .int .i64 tn, .string ts, .string tu, .slice TA TL.length tc] 44) (block_alloc W (.cells #[.int .i8 6, .int .i64 n, .string s, .string u, .slice NA ps.length nc] 25))
  have g1 := block_alloc (W.alloc (.cells #[.int .i8 6, .int .i64 n, .string s, .string u, .slice NA ps.length nc] 25)) (.cells #[.int .i8 tk, .int .i64 tn, .string ts, .string tu, .slice TA TL.length tc] 44)
  rw [World.size_alloc] at g1
  have b2 : Below W.heap.size W ((W.alloc (.cells #[.int .i8 6, .int .i64 n, .string s, .string u, .slice NA ps.length nc] 25)).alloc (.cells #[.int .i8 tk, .int .i64 tn, .string ts, .string tu, .slice TA TL.length tc] 44)) := ((Below.refl _ W).alloc (Nat.le_refl _) _).alloc (by simp) _
  obtain ⟨W2, hW2⟩ : ∃ W2, W2 = (W.alloc (.cells #[.int .i8 6, .int .i64 n, .string s, .string u, .slice NA ps.length nc] 25)).alloc (.cells #[.int .i8 tk, .int .i64 tn, .string ts, .string tu, .slice TA TL.length tc] 44) := ⟨_, rfl⟩
  rw [← hW2] at g0 g1 b2
  have HB2 := Lib.hid b2
  have HG0 := Lib.hid g0
  have HG1 := Lib.hid g1
  have HR := Lib.hid hR
  have HRP := Lib.hid hRP
  have HRT := Lib.hid hRT
  have HT := Lib.hid hT
  have HC := Lib.hid hc
  have HOK := Lib.hid hok
  have HSS := Lib.hid hss
  have HMANY : Hid (l.length + (Tm.mk 6 n s u ps).nodes ≤ 500000) := hmany
  have hml := hR.max
  unfold maxLen at hml
  obtain ⟨x0, x1, x2, x3, x4⟩ := five_of g0
  obtain ⟨y0, y1, y2, y3, y4⟩ := five_of g1
  rw [goP_6] at hRR
  have HRR := Lib.hid hRR
  clear g0 g1 b2 hP hT hR hc hok hmany hRP hRT hss hRR
  by_cases h1 : tk = 0
  · have hb : (tk == 0) = true := by simpa using h1
    by_cases h2 : tn = n
    · have hb2 : (tn == n) = true := by simpa using h2
      have HRES : Hid (RR = some l) := HRR.out.trans (if_pos ⟨h1, h2⟩)
      clear h1 h2
      go_enter Tryz.func72, Tryz.ntmps72
      go_upto_region 1 with fail
      rw [← hW2]
      clear hW2
      go_upto_region 12 with fail
      clear x0 x1 x2 x3 x4 y0 y1 y2 y3 y4
      refine wp_region_held (S := fun V => Below W2.heap.size W2 V) (by kernel_rfl) ?_
      show wpAnyH _ _ _ _ _ _ _ _ W2.drew
      have hS : Below W2.heap.size W2 W2.drew := ⟨rfl, rfl, rfl, Nat.le_refl _, fun _ _ => rfl⟩
      generalize W2.drew = D at hS ⊢
      refine wpAnyH_take (i := 0) (oi := ⟨some 46, _, _, _, _, _⟩) (v := ?_) rfl (by kernel_rfl) (by kernel_rfl) (by kernel_rfl) (fun _ _ _ h => h) (Or.inl ⟨by kernel_rfl, ?_⟩) (by assumption) ?_; rotate_left; (intro VV hSw; (try dsimp only at hSw); go_simp; first | done | with_reducible rfl); (try simp only [Act.put, sI, sZ, sS])
      refine wpAnyH_take (i := 1) (oi := ⟨some 47, _, _, _, _, _⟩) (v := ?_) rfl (by kernel_rfl) (by kernel_rfl) (by kernel_rfl) (fun _ _ _ h => h) (Or.inl ⟨by kernel_rfl, ?_⟩) (by assumption) ?_; rotate_left; (intro VV hSw; (try dsimp only at hSw); go_simp; first | done | with_reducible rfl); (try simp only [Act.put, sI, sZ, sS])
      refine wpAnyH_take (i := 2) (oi := ⟨some 48, _, _, _, _, _⟩) (v := ?_) rfl (by kernel_rfl) (by kernel_rfl) (by kernel_rfl) (fun _ _ _ h => h) (Or.inl ⟨by kernel_rfl, ?_⟩) (by assumption) ?_; rotate_left; (intro VV hSw; (try dsimp only at hSw); have hr1 := (hSw.block _ (heap_lt HG1.out)).trans HG1.out; obtain ⟨y0, y1, y2, y3, y4⟩ := five_of hr1; go_simp; first | done | with_reducible rfl); (try simp only [Act.put, sI, sZ, sS])
      refine wpAnyH_take (i := 3) (oi := ⟨some 49, _, _, _, _, _⟩) (v := ?_) rfl (by kernel_rfl) (by kernel_rfl) (by kernel_rfl) (fun _ _ _ h => h) (Or.inl ⟨by kernel_rfl, ?_⟩) (by assumption) ?_; rotate_left; (intro VV hSw; (try dsimp only at hSw); go_simp; first | done | with_reducible rfl); (try simp only [Act.put, sI, sZ, sS])
      refine wpAnyH_take (i := 4) (oi := ⟨some 50, _, _, _, _, _⟩) (v := ?_) rfl (by kernel_rfl) (by kernel_rfl) (by kernel_rfl) (fun _ _ _ h => h) (Or.inl ⟨by kernel_rfl, ?_⟩) (by assumption) ?_; rotate_left; (intro VV hSw; (try dsimp only at hSw); go_simp; first | done | with_reducible rfl); (try simp only [Act.put, sI, sZ, sS])
      refine wpAnyH_take (i := 5) (oi := ⟨some 51, _, _, _, _, _⟩) (v := ?_) rfl (by kernel_rfl) (by kernel_rfl) (by kernel_rfl) (fun _ _ _ h => h) (Or.inl ⟨by kernel_rfl, ?_⟩) (by assumption) ?_; rotate_left; (intro VV hSw; (try dsimp only at hSw); go_simp; first | done | with_reducible rfl); (try simp only [Act.put, sI, sZ, sS])
      refine wpAnyH_take (i := 6) (oi := ⟨some 52, _, _, _, _, _⟩) (v := ?_) rfl (by kernel_rfl) (by kernel_rfl) (by kernel_rfl) (fun _ _ _ h => h) (Or.inl ⟨by kernel_rfl, ?_⟩) (by assumption) ?_; rotate_left; (intro VV hSw; (try dsimp only at hSw); have hr1 := (hSw.block _ (heap_lt HG1.out)).trans HG1.out; obtain ⟨y0, y1, y2, y3, y4⟩ := five_of hr1; go_simp; first | done | with_reducible rfl); (try simp only [Act.put, sI, sZ, sS])
      refine wpAnyH_take (i := 7) (oi := ⟨some 53, _, _, _, _, _⟩) (v := ?_) rfl (by kernel_rfl) (by kernel_rfl) (by kernel_rfl) (fun _ _ _ h => h) (Or.inl ⟨by kernel_rfl, ?_⟩) (by assumption) ?_; rotate_left; (intro VV hSw; (try dsimp only at hSw); go_simp; first | done | with_reducible rfl); (try simp only [Act.put, sI, sZ, sS])
      refine wpAnyH_take (i := 8) (oi := ⟨some 54, _, _, _, _, _⟩) (v := ?_) rfl (by kernel_rfl) (by kernel_rfl) (by kernel_rfl) (fun _ _ _ h => h) (Or.inl ⟨by kernel_rfl, ?_⟩) (by assumption) ?_; rotate_left; (intro VV hSw; (try dsimp only at hSw); have hr0 := (hSw.block _ (heap_lt HG0.out)).trans HG0.out; obtain ⟨x0, x1, x2, x3, x4⟩ := five_of hr0; go_simp; first | done | with_reducible rfl); (try simp only [Act.put, sI, sZ, sS])
      refine wpAnyH_take (i := 9) (oi := ⟨some 55, _, _, _, _, _⟩) (v := ?_) rfl (by kernel_rfl) (by kernel_rfl) (by kernel_rfl) (fun _ _ _ h => h) (Or.inl ⟨by kernel_rfl, ?_⟩) (by assumption) ?_; rotate_left; (intro VV hSw; (try dsimp only at hSw); go_simp; first | done | with_reducible rfl); (try simp only [Act.put, sI, sZ, sS])
      refine wpAnyH_take (i := 10) (oi := ⟨some 56, _, _, _, _, _⟩) (v := ?_) rfl (by kernel_rfl) (by kernel_rfl) (by kernel_rfl) (fun _ _ _ h => h) (Or.inl ⟨by kernel_rfl, ?_⟩) (by assumption) ?_; rotate_left; (intro VV hSw; (try dsimp only at hSw); go_simp; first | done | with_reducible rfl); (try simp only [Act.put, sI, sZ, sS])
      refine wpAnyH_take (i := 11) (oi := ⟨some 6, _, _, _, _, _⟩) (v := ?_) rfl (by kernel_rfl) (by kernel_rfl) (by kernel_rfl) (fun _ _ _ h => h) (Or.inl ⟨by kernel_rfl, ?_⟩) (by assumption) ?_; rotate_left; (intro VV hSw; (try dsimp only at hSw); go_simp; first | done | with_reducible rfl); (try simp only [Act.put, sI, sZ, sS])
      refine wpAnyH_take (i := 12) (oi := ⟨some 7, _, _, _, _, _⟩) (v := ?_) rfl (by kernel_rfl) (by kernel_rfl) (by kernel_rfl) (fun _ _ _ h => h) (Or.inl ⟨by kernel_rfl, ?_⟩) (by assumption) ?_; rotate_left; (intro VV hSw; (try dsimp only at hSw); go_simp; first | done | with_reducible rfl); (try simp only [Act.put, sI, sZ, sS])
      refine wpAnyH_done (by kernel_rfl) ?_ _
      have HF := Lib.hid (HB2.out.trans (hS.mono HB2.out.size))
      clear hS
      go_wp2_with fail
      refine bodyPost_ret (v := .tuple #[.slice A l.length cap, .bool true]) (by simp [results, Tryz.f72, go_sem]) rfl ?_
      refine ⟨_, _, _, by rw [HRES.out]; rfl, fun l' hl' => ?_, HF.out⟩
      rw [HRES.out] at hl'
      cases hl'; exact HR.out.later HF.out
    · have hb2 : (tn == n) = false := by
        simpa using h2
      have HRES : Hid (RR = none) := HRR.out.trans (if_neg (fun h => h2 h.2))
      clear h1 h2
      go_enter Tryz.func72, Tryz.ntmps72
      go_upto_region 1 with fail
      rw [← hW2]
      clear hW2
      go_upto_region 12 with fail
      clear x0 x1 x2 x3 x4 y0 y1 y2 y3 y4
      refine wp_region_held (S := fun V => Below W2.heap.size W2 V) (by kernel_rfl) ?_
      show wpAnyH _ _ _ _ _ _ _ _ W2.drew
      have hS : Below W2.heap.size W2 W2.drew := ⟨rfl, rfl, rfl, Nat.le_refl _, fun _ _ => rfl⟩
      generalize W2.drew = D at hS ⊢
      refine wpAnyH_take (i := 0) (oi := ⟨some 46, _, _, _, _, _⟩) (v := ?_) rfl (by kernel_rfl) (by kernel_rfl) (by kernel_rfl) (fun _ _ _ h => h) (Or.inl ⟨by kernel_rfl, ?_⟩) (by assumption) ?_; rotate_left; (intro VV hSw; (try dsimp only at hSw); go_simp; first | done | with_reducible rfl); (try simp only [Act.put, sI, sZ, sS])
      refine wpAnyH_take (i := 1) (oi := ⟨some 47, _, _, _, _, _⟩) (v := ?_) rfl (by kernel_rfl) (by kernel_rfl) (by kernel_rfl) (fun _ _ _ h => h) (Or.inl ⟨by kernel_rfl, ?_⟩) (by assumption) ?_; rotate_left; (intro VV hSw; (try dsimp only at hSw); go_simp; first | done | with_reducible rfl); (try simp only [Act.put, sI, sZ, sS])
      refine wpAnyH_take (i := 2) (oi := ⟨some 48, _, _, _, _, _⟩) (v := ?_) rfl (by kernel_rfl) (by kernel_rfl) (by kernel_rfl) (fun _ _ _ h => h) (Or.inl ⟨by kernel_rfl, ?_⟩) (by assumption) ?_; rotate_left; (intro VV hSw; (try dsimp only at hSw); have hr1 := (hSw.block _ (heap_lt HG1.out)).trans HG1.out; obtain ⟨y0, y1, y2, y3, y4⟩ := five_of hr1; go_simp; first | done | with_reducible rfl); (try simp only [Act.put, sI, sZ, sS])
      refine wpAnyH_take (i := 3) (oi := ⟨some 49, _, _, _, _, _⟩) (v := ?_) rfl (by kernel_rfl) (by kernel_rfl) (by kernel_rfl) (fun _ _ _ h => h) (Or.inl ⟨by kernel_rfl, ?_⟩) (by assumption) ?_; rotate_left; (intro VV hSw; (try dsimp only at hSw); go_simp; first | done | with_reducible rfl); (try simp only [Act.put, sI, sZ, sS])
      refine wpAnyH_take (i := 4) (oi := ⟨some 50, _, _, _, _, _⟩) (v := ?_) rfl (by kernel_rfl) (by kernel_rfl) (by kernel_rfl) (fun _ _ _ h => h) (Or.inl ⟨by kernel_rfl, ?_⟩) (by assumption) ?_; rotate_left; (intro VV hSw; (try dsimp only at hSw); go_simp; first | done | with_reducible rfl); (try simp only [Act.put, sI, sZ, sS])
      refine wpAnyH_take (i := 5) (oi := ⟨some 51, _, _, _, _, _⟩) (v := ?_) rfl (by kernel_rfl) (by kernel_rfl) (by kernel_rfl) (fun _ _ _ h => h) (Or.inl ⟨by kernel_rfl, ?_⟩) (by assumption) ?_; rotate_left; (intro VV hSw; (try dsimp only at hSw); go_simp; first | done | with_reducible rfl); (try simp only [Act.put, sI, sZ, sS])
      refine wpAnyH_take (i := 6) (oi := ⟨some 52, _, _, _, _, _⟩) (v := ?_) rfl (by kernel_rfl) (by kernel_rfl) (by kernel_rfl) (fun _ _ _ h => h) (Or.inl ⟨by kernel_rfl, ?_⟩) (by assumption) ?_; rotate_left; (intro VV hSw; (try dsimp only at hSw); have hr1 := (hSw.block _ (heap_lt HG1.out)).trans HG1.out; obtain ⟨y0, y1, y2, y3, y4⟩ := five_of hr1; go_simp; first | done | with_reducible rfl); (try simp only [Act.put, sI, sZ, sS])
      refine wpAnyH_take (i := 7) (oi := ⟨some 53, _, _, _, _, _⟩) (v := ?_) rfl (by kernel_rfl) (by kernel_rfl) (by kernel_rfl) (fun _ _ _ h => h) (Or.inl ⟨by kernel_rfl, ?_⟩) (by assumption) ?_; rotate_left; (intro VV hSw; (try dsimp only at hSw); go_simp; first | done | with_reducible rfl); (try simp only [Act.put, sI, sZ, sS])
      refine wpAnyH_take (i := 8) (oi := ⟨some 54, _, _, _, _, _⟩) (v := ?_) rfl (by kernel_rfl) (by kernel_rfl) (by kernel_rfl) (fun _ _ _ h => h) (Or.inl ⟨by kernel_rfl, ?_⟩) (by assumption) ?_; rotate_left; (intro VV hSw; (try dsimp only at hSw); have hr0 := (hSw.block _ (heap_lt HG0.out)).trans HG0.out; obtain ⟨x0, x1, x2, x3, x4⟩ := five_of hr0; go_simp; first | done | with_reducible rfl); (try simp only [Act.put, sI, sZ, sS])
      refine wpAnyH_take (i := 9) (oi := ⟨some 55, _, _, _, _, _⟩) (v := ?_) rfl (by kernel_rfl) (by kernel_rfl) (by kernel_rfl) (fun _ _ _ h => h) (Or.inl ⟨by kernel_rfl, ?_⟩) (by assumption) ?_; rotate_left; (intro VV hSw; (try dsimp only at hSw); go_simp; first | done | with_reducible rfl); (try simp only [Act.put, sI, sZ, sS])
      refine wpAnyH_take (i := 10) (oi := ⟨some 56, _, _, _, _, _⟩) (v := ?_) rfl (by kernel_rfl) (by kernel_rfl) (by kernel_rfl) (fun _ _ _ h => h) (Or.inl ⟨by kernel_rfl, ?_⟩) (by assumption) ?_; rotate_left; (intro VV hSw; (try dsimp only at hSw); go_simp; first | done | with_reducible rfl); (try simp only [Act.put, sI, sZ, sS])
      refine wpAnyH_take (i := 11) (oi := ⟨some 6, _, _, _, _, _⟩) (v := ?_) rfl (by kernel_rfl) (by kernel_rfl) (by kernel_rfl) (fun _ _ _ h => h) (Or.inl ⟨by kernel_rfl, ?_⟩) (by assumption) ?_; rotate_left; (intro VV hSw; (try dsimp only at hSw); go_simp; first | done | with_reducible rfl); (try simp only [Act.put, sI, sZ, sS])
      refine wpAnyH_take (i := 12) (oi := ⟨some 7, _, _, _, _, _⟩) (v := ?_) rfl (by kernel_rfl) (by kernel_rfl) (by kernel_rfl) (fun _ _ _ h => h) (Or.inl ⟨by kernel_rfl, ?_⟩) (by assumption) ?_; rotate_left; (intro VV hSw; (try dsimp only at hSw); go_simp; first | done | with_reducible rfl); (try simp only [Act.put, sI, sZ, sS])
      refine wpAnyH_done (by kernel_rfl) ?_ _
      have HF := Lib.hid (HB2.out.trans (hS.mono HB2.out.size))
      clear hS
      go_wp2_with fail
      refine bodyPost_ret (v := .tuple #[.slice A l.length cap, .bool false]) (by simp [results, Tryz.f72, go_sem]) rfl ?_
      refine ⟨_, _, _, by rw [HRES.out]; rfl, fun l' hl' => ?_, HF.out⟩
      rw [HRES.out] at hl'
      cases hl'
  · have hb : (tk == 0) = false := by simpa using h1
    have HRES : Hid (RR = none) := HRR.out.trans (if_neg (fun h => h1 h.1))
    clear h1
    go_enter Tryz.func72, Tryz.ntmps72
    go_upto_region 1 with fail
    rw [← hW2]
    clear hW2
    go_upto_region 12 with fail
    clear x0 x1 x2 x3 x4 y0 y1 y2 y3 y4
    refine wp_region_held (S := fun V => Below W2.heap.size W2 V) (by kernel_rfl) ?_
    show wpAnyH _ _ _ _ _ _ _ _ W2.drew
    have hS : Below W2.heap.size W2 W2.drew := ⟨rfl, rfl, rfl, Nat.le_refl _, fun _ _ => rfl⟩
    generalize W2.drew = D at hS ⊢
    refine wpAnyH_take (i := 0) (oi := ⟨some 46, _, _, _, _, _⟩) (v := ?_) rfl (by kernel_rfl) (by kernel_rfl) (by kernel_rfl) (fun _ _ _ h => h) (Or.inl ⟨by kernel_rfl, ?_⟩) (by assumption) ?_; rotate_left; (intro VV hSw; (try dsimp only at hSw); go_simp; first | done | with_reducible rfl); (try simp only [Act.put, sI, sZ, sS])
    refine wpAnyH_take (i := 1) (oi := ⟨some 47, _, _, _, _, _⟩) (v := ?_) rfl (by kernel_rfl) (by kernel_rfl) (by kernel_rfl) (fun _ _ _ h => h) (Or.inl ⟨by kernel_rfl, ?_⟩) (by assumption) ?_; rotate_left; (intro VV hSw; (try dsimp only at hSw); go_simp; first | done | with_reducible rfl); (try simp only [Act.put, sI, sZ, sS])
    refine wpAnyH_take (i := 2) (oi := ⟨some 48, _, _, _, _, _⟩) (v := ?_) rfl (by kernel_rfl) (by kernel_rfl) (by kernel_rfl) (fun _ _ _ h => h) (Or.inl ⟨by kernel_rfl, ?_⟩) (by assumption) ?_; rotate_left; (intro VV hSw; (try dsimp only at hSw); have hr1 := (hSw.block _ (heap_lt HG1.out)).trans HG1.out; obtain ⟨y0, y1, y2, y3, y4⟩ := five_of hr1; go_simp; first | done | with_reducible rfl); (try simp only [Act.put, sI, sZ, sS])
    refine wpAnyH_take (i := 3) (oi := ⟨some 49, _, _, _, _, _⟩) (v := ?_) rfl (by kernel_rfl) (by kernel_rfl) (by kernel_rfl) (fun _ _ _ h => h) (Or.inl ⟨by kernel_rfl, ?_⟩) (by assumption) ?_; rotate_left; (intro VV hSw; (try dsimp only at hSw); go_simp; first | done | with_reducible rfl); (try simp only [Act.put, sI, sZ, sS])
    refine wpAnyH_take (i := 4) (oi := ⟨some 50, _, _, _, _, _⟩) (v := ?_) rfl (by kernel_rfl) (by kernel_rfl) (by kernel_rfl) (fun _ _ _ h => h) (Or.inl ⟨by kernel_rfl, ?_⟩) (by assumption) ?_; rotate_left; (intro VV hSw; (try dsimp only at hSw); go_simp; first | done | with_reducible rfl); (try simp only [Act.put, sI, sZ, sS])
    refine wpAnyH_take (i := 5) (oi := ⟨some 51, _, _, _, _, _⟩) (v := undef) rfl (by kernel_rfl) (by kernel_rfl) (by kernel_rfl) (fun _ _ _ h => h) (Or.inr ⟨by kernel_rfl, rfl⟩) (by assumption) ?_; (try simp only [Act.put, sI, sZ, sS])
    refine wpAnyH_take (i := 6) (oi := ⟨some 52, _, _, _, _, _⟩) (v := undef) rfl (by kernel_rfl) (by kernel_rfl) (by kernel_rfl) (fun _ _ _ h => h) (Or.inr ⟨by kernel_rfl, rfl⟩) (by assumption) ?_; (try simp only [Act.put, sI, sZ, sS])
    refine wpAnyH_take (i := 7) (oi := ⟨some 53, _, _, _, _, _⟩) (v := undef) rfl (by kernel_rfl) (by kernel_rfl) (by kernel_rfl) (fun _ _ _ h => h) (Or.inr ⟨by kernel_rfl, rfl⟩) (by assumption) ?_; (try simp only [Act.put, sI, sZ, sS])
    refine wpAnyH_take (i := 8) (oi := ⟨some 54, _, _, _, _, _⟩) (v := undef) rfl (by kernel_rfl) (by kernel_rfl) (by kernel_rfl) (fun _ _ _ h => h) (Or.inr ⟨by kernel_rfl, rfl⟩) (by assumption) ?_; (try simp only [Act.put, sI, sZ, sS])
    refine wpAnyH_take (i := 9) (oi := ⟨some 55, _, _, _, _, _⟩) (v := undef) rfl (by kernel_rfl) (by kernel_rfl) (by kernel_rfl) (fun _ _ _ h => h) (Or.inr ⟨by kernel_rfl, rfl⟩) (by assumption) ?_; (try simp only [Act.put, sI, sZ, sS])
    refine wpAnyH_take (i := 10) (oi := ⟨some 56, _, _, _, _, _⟩) (v := ?_) rfl (by kernel_rfl) (by kernel_rfl) (by kernel_rfl) (fun _ _ _ h => h) (Or.inl ⟨by kernel_rfl, ?_⟩) (by assumption) ?_; rotate_left; (intro VV hSw; (try dsimp only at hSw); go_simp; first | done | with_reducible rfl); (try simp only [Act.put, sI, sZ, sS])
    refine wpAnyH_take (i := 11) (oi := ⟨some 6, _, _, _, _, _⟩) (v := ?_) rfl (by kernel_rfl) (by kernel_rfl) (by kernel_rfl) (fun _ _ _ h => h) (Or.inl ⟨by kernel_rfl, ?_⟩) (by assumption) ?_; rotate_left; (intro VV hSw; (try dsimp only at hSw); go_simp; first | done | with_reducible rfl); (try simp only [Act.put, sI, sZ, sS])
    refine wpAnyH_take (i := 12) (oi := ⟨some 7, _, _, _, _, _⟩) (v := ?_) rfl (by kernel_rfl) (by kernel_rfl) (by kernel_rfl) (fun _ _ _ h => h) (Or.inl ⟨by kernel_rfl, ?_⟩) (by assumption) ?_; rotate_left; (intro VV hSw; (try dsimp only at hSw); go_simp; first | done | with_reducible rfl); (try simp only [Act.put, sI, sZ, sS])
    refine wpAnyH_done (by kernel_rfl) ?_ _
    have HF := Lib.hid (HB2.out.trans (hS.mono HB2.out.size))
    clear hS
    go_wp2_with fail
    refine bodyPost_ret (v := .tuple #[.slice A l.length cap, .bool false]) (by simp [results, Tryz.f72, go_sem]) rfl ?_
    refine ⟨_, _, _, by rw [HRES.out]; rfl, fun l' hl' => ?_, HF.out⟩
    rw [HRES.out] at hl'
    cases hl'
set_option maxHeartbeats 4000000 in
set_option maxRecDepth 100000 in
theorem goes_7 (n : Int) (s u : ByteArray) (ps : List Tm) : GoesC (.mk 7 n s u ps) := by
  intro t l v u0 A m cap W hP hT hR hc hok hmany
  obtain rfl := hR.len
  obtain ⟨NA, nc, rfl, hRP, _, _, hss, _⟩ := hP.parts
  obtain ⟨tk, tn, ts, tu, TL⟩ := t
  obtain ⟨TA, tc, rfl, hRT, -⟩ := hT.parts
  obtain ⟨RR, hRR⟩ : ∃ r, r = goP (.mk 7 n s u ps) (.mk tk tn ts tu TL) l := ⟨_, rfl⟩
  rw [← hRR]
  have g0 := there_of (.cells #[.int .i8 tk, .int .i64 tn, .string ts, .string tu, .slice TA TL.length tc] 44) (block_alloc W (.cells #[.int .i8 7, .int .i64 n, .string s, .string u, .slice NA ps.length nc] 25))
  have g1 := block_alloc (W.alloc (.cells #[.int .i8 7, .int .i64 n, .string s, .string u, .slice NA ps.length nc] 25)) (.cells #[.int .i8 tk, .int .i64 tn, .string ts, .string tu, .slice TA TL.length tc] 44)
  rw [World.size_alloc] at g1
  have b2 : Below W.heap.size W ((W.alloc (.cells #[.int .i8 7, .int .i64 n, .string s, .string u, .slice NA ps.length nc] 25)).alloc (.cells #[.int .i8 tk, .int .i64 tn, .string ts, .string tu, .slice TA TL.length tc] 44)) := ((Below.refl _ W).alloc (Nat.le_refl _) _).alloc (by simp) _
  obtain ⟨W2, hW2⟩ : ∃ W2, W2 = (W.alloc (.cells #[.int .i8 7, .int .i64 n, .string s, .string u, .slice NA ps.length nc] 25)).alloc (.cells #[.int .i8 tk, .int .i64 tn, .string ts, .string tu, .slice TA TL.length tc] 44) := ⟨_, rfl⟩
  rw [← hW2] at g0 g1 b2
  have HB2 := Lib.hid b2
  have HG0 := Lib.hid g0
  have HG1 := Lib.hid g1
  have HR := Lib.hid hR
  have HRP := Lib.hid hRP
  have HRT := Lib.hid hRT
  have HT := Lib.hid hT
  have HC := Lib.hid hc
  have HOK := Lib.hid hok
  have HSS := Lib.hid hss
  have HMANY : Hid (l.length + (Tm.mk 7 n s u ps).nodes ≤ 500000) := hmany
  have hml := hR.max
  unfold maxLen at hml
  obtain ⟨x0, x1, x2, x3, x4⟩ := five_of g0
  obtain ⟨y0, y1, y2, y3, y4⟩ := five_of g1
  rw [goP_7] at hRR
  have HRR := Lib.hid hRR
  clear g0 g1 b2 hP hT hR hc hok hmany hRP hRT hss hRR
  by_cases h1 : tk = 1
  · have hb : (tk == 1) = true := by simpa using h1
    by_cases h2 : ts = s
    · have hb2 : (ts.toList == s.toList) = true := by rw [h2]; exact beq_self_eq_true _
      have HRES : Hid (RR = some l) := HRR.out.trans (if_pos ⟨h1, h2⟩)
      clear h1 h2
      go_enter Tryz.func72, Tryz.ntmps72
      go_upto_region 1 with fail
      rw [← hW2]
      clear hW2
      go_upto_region 14 with fail
      clear x0 x1 x2 x3 x4 y0 y1 y2 y3 y4
      refine wp_region_held (S := fun V => Below W2.heap.size W2 V) (by kernel_rfl) ?_
      show wpAnyH _ _ _ _ _ _ _ _ W2.drew
      have hS : Below W2.heap.size W2 W2.drew := ⟨rfl, rfl, rfl, Nat.le_refl _, fun _ _ => rfl⟩
      generalize W2.drew = D at hS ⊢
      refine wpAnyH_take (i := 0) (oi := ⟨some 59, _, _, _, _, _⟩) (v := ?_) rfl (by kernel_rfl) (by kernel_rfl) (by kernel_rfl) (fun _ _ _ h => h) (Or.inl ⟨by kernel_rfl, ?_⟩) (by assumption) ?_; rotate_left; (intro VV hSw; (try dsimp only at hSw); go_simp; first | done | with_reducible rfl); (try simp only [Act.put, sI, sZ, sS])
      refine wpAnyH_take (i := 1) (oi := ⟨some 60, _, _, _, _, _⟩) (v := ?_) rfl (by kernel_rfl) (by kernel_rfl) (by kernel_rfl) (fun _ _ _ h => h) (Or.inl ⟨by kernel_rfl, ?_⟩) (by assumption) ?_; rotate_left; (intro VV hSw; (try dsimp only at hSw); go_simp; first | done | with_reducible rfl); (try simp only [Act.put, sI, sZ, sS])
      refine wpAnyH_take (i := 2) (oi := ⟨some 61, _, _, _, _, _⟩) (v := ?_) rfl (by kernel_rfl) (by kernel_rfl) (by kernel_rfl) (fun _ _ _ h => h) (Or.inl ⟨by kernel_rfl, ?_⟩) (by assumption) ?_; rotate_left; (intro VV hSw; (try dsimp only at hSw); have hr1 := (hSw.block _ (heap_lt HG1.out)).trans HG1.out; obtain ⟨y0, y1, y2, y3, y4⟩ := five_of hr1; go_simp; first | done | with_reducible rfl); (try simp only [Act.put, sI, sZ, sS])
      refine wpAnyH_take (i := 3) (oi := ⟨some 62, _, _, _, _, _⟩) (v := ?_) rfl (by kernel_rfl) (by kernel_rfl) (by kernel_rfl) (fun _ _ _ h => h) (Or.inl ⟨by kernel_rfl, ?_⟩) (by assumption) ?_; rotate_left; (intro VV hSw; (try dsimp only at hSw); go_simp; first | done | with_reducible rfl); (try simp only [Act.put, sI, sZ, sS])
      refine wpAnyH_take (i := 4) (oi := ⟨some 63, _, _, _, _, _⟩) (v := ?_) rfl (by kernel_rfl) (by kernel_rfl) (by kernel_rfl) (fun _ _ _ h => h) (Or.inl ⟨by kernel_rfl, ?_⟩) (by assumption) ?_; rotate_left; (intro VV hSw; (try dsimp only at hSw); go_simp; first | done | with_reducible rfl); (try simp only [Act.put, sI, sZ, sS])
      refine wpAnyH_take (i := 5) (oi := ⟨some 64, _, _, _, _, _⟩) (v := ?_) rfl (by kernel_rfl) (by kernel_rfl) (by kernel_rfl) (fun _ _ _ h => h) (Or.inl ⟨by kernel_rfl, ?_⟩) (by assumption) ?_; rotate_left; (intro VV hSw; (try dsimp only at hSw); go_simp; first | done | with_reducible rfl); (try simp only [Act.put, sI, sZ, sS])
      refine wpAnyH_take (i := 6) (oi := ⟨some 65, _, _, _, _, _⟩) (v := ?_) rfl (by kernel_rfl) (by kernel_rfl) (by kernel_rfl) (fun _ _ _ h => h) (Or.inl ⟨by kernel_rfl, ?_⟩) (by assumption) ?_; rotate_left; (intro VV hSw; (try dsimp only at hSw); have hr1 := (hSw.block _ (heap_lt HG1.out)).trans HG1.out; obtain ⟨y0, y1, y2, y3, y4⟩ := five_of hr1; go_simp; first | done | with_reducible rfl); (try simp only [Act.put, sI, sZ, sS])
      refine wpAnyH_take (i := 7) (oi := ⟨some 66, _, _, _, _, _⟩) (v := ?_) rfl (by kernel_rfl) (by kernel_rfl) (by kernel_rfl) (fun _ _ _ h => h) (Or.inl ⟨by kernel_rfl, ?_⟩) (by assumption) ?_; rotate_left; (intro VV hSw; (try dsimp only at hSw); go_simp; first | done | with_reducible rfl); (try simp only [Act.put, sI, sZ, sS])
      refine wpAnyH_take (i := 8) (oi := ⟨some 67, _, _, _, _, _⟩) (v := ?_) rfl (by kernel_rfl) (by kernel_rfl) (by kernel_rfl) (fun _ _ _ h => h) (Or.inl ⟨by kernel_rfl, ?_⟩) (by assumption) ?_; rotate_left; (intro VV hSw; (try dsimp only at hSw); have hr0 := (hSw.block _ (heap_lt HG0.out)).trans HG0.out; obtain ⟨x0, x1, x2, x3, x4⟩ := five_of hr0; go_simp; first | done | with_reducible rfl); (try simp only [Act.put, sI, sZ, sS])
      refine wpAnyH_take (i := 9) (oi := ⟨some 68, _, _, _, _, _⟩) (v := ?_) rfl (by kernel_rfl) (by kernel_rfl) (by kernel_rfl) (fun _ _ _ h => h) (Or.inl ⟨by kernel_rfl, ?_⟩) (by assumption) ?_; rotate_left; (intro VV hSw; (try dsimp only at hSw); go_simp; first | done | with_reducible rfl); (try simp only [Act.put, sI, sZ, sS])
      refine wpAnyH_take (i := 10) (oi := ⟨some 69, _, _, _, _, _⟩) (v := ?_) rfl (by kernel_rfl) (by kernel_rfl) (by kernel_rfl) (fun _ _ _ h => h) (Or.inl ⟨by kernel_rfl, ?_⟩) (by assumption) ?_; rotate_left; (intro VV hSw; (try dsimp only at hSw); go_simp; first | done | with_reducible rfl); (try simp only [Act.put, sI, sZ, sS])
      refine wpAnyH_take (i := 11) (oi := ⟨some 6, _, _, _, _, _⟩) (v := ?_) rfl (by kernel_rfl) (by kernel_rfl) (by kernel_rfl) (fun _ _ _ h => h) (Or.inl ⟨by kernel_rfl, ?_⟩) (by assumption) ?_; rotate_left; (intro VV hSw; (try dsimp only at hSw); go_simp; first | done | with_reducible rfl); (try simp only [Act.put, sI, sZ, sS])
      refine wpAnyH_take (i := 12) (oi := ⟨some 7, _, _, _, _, _⟩) (v := ?_) rfl (by kernel_rfl) (by kernel_rfl) (by kernel_rfl) (fun _ _ _ h => h) (Or.inl ⟨by kernel_rfl, ?_⟩) (by assumption) ?_; rotate_left; (intro VV hSw; (try dsimp only at hSw); go_simp; first | done | with_reducible rfl); (try simp only [Act.put, sI, sZ, sS])
      refine wpAnyH_done (by kernel_rfl) ?_ _
      have HF := Lib.hid (HB2.out.trans (hS.mono HB2.out.size))
      clear hS
      go_wp2_with fail
      refine bodyPost_ret (v := .tuple #[.slice A l.length cap, .bool true]) (by simp [results, Tryz.f72, go_sem]) rfl ?_
      refine ⟨_, _, _, by rw [HRES.out]; rfl, fun l' hl' => ?_, HF.out⟩
      rw [HRES.out] at hl'
      cases hl'; exact HR.out.later HF.out
    · have hb2 : (ts.toList == s.toList) = false := by
        cases h : (ts.toList == s.toList) with
        | false => rfl
        | true => exact absurd (ByteArray.ext (Array.toList_inj.1 (by have := eq_of_beq h; rwa [ByteArray.toList_eq, ByteArray.toList_eq] at this))) h2
      have HRES : Hid (RR = none) := HRR.out.trans (if_neg (fun h => h2 h.2))
      clear h1 h2
      go_enter Tryz.func72, Tryz.ntmps72
      go_upto_region 1 with fail
      rw [← hW2]
      clear hW2
      go_upto_region 14 with fail
      clear x0 x1 x2 x3 x4 y0 y1 y2 y3 y4
      refine wp_region_held (S := fun V => Below W2.heap.size W2 V) (by kernel_rfl) ?_
      show wpAnyH _ _ _ _ _ _ _ _ W2.drew
      have hS : Below W2.heap.size W2 W2.drew := ⟨rfl, rfl, rfl, Nat.le_refl _, fun _ _ => rfl⟩
      generalize W2.drew = D at hS ⊢
      refine wpAnyH_take (i := 0) (oi := ⟨some 59, _, _, _, _, _⟩) (v := ?_) rfl (by kernel_rfl) (by kernel_rfl) (by kernel_rfl) (fun _ _ _ h => h) (Or.inl ⟨by kernel_rfl, ?_⟩) (by assumption) ?_; rotate_left; (intro VV hSw; (try dsimp only at hSw); go_simp; first | done | with_reducible rfl); (try simp only [Act.put, sI, sZ, sS])
      refine wpAnyH_take (i := 1) (oi := ⟨some 60, _, _, _, _, _⟩) (v := ?_) rfl (by kernel_rfl) (by kernel_rfl) (by kernel_rfl) (fun _ _ _ h => h) (Or.inl ⟨by kernel_rfl, ?_⟩) (by assumption) ?_; rotate_left; (intro VV hSw; (try dsimp only at hSw); go_simp; first | done | with_reducible rfl); (try simp only [Act.put, sI, sZ, sS])
      refine wpAnyH_take (i := 2) (oi := ⟨some 61, _, _, _, _, _⟩) (v := ?_) rfl (by kernel_rfl) (by kernel_rfl) (by kernel_rfl) (fun _ _ _ h => h) (Or.inl ⟨by kernel_rfl, ?_⟩) (by assumption) ?_; rotate_left; (intro VV hSw; (try dsimp only at hSw); have hr1 := (hSw.block _ (heap_lt HG1.out)).trans HG1.out; obtain ⟨y0, y1, y2, y3, y4⟩ := five_of hr1; go_simp; first | done | with_reducible rfl); (try simp only [Act.put, sI, sZ, sS])
      refine wpAnyH_take (i := 3) (oi := ⟨some 62, _, _, _, _, _⟩) (v := ?_) rfl (by kernel_rfl) (by kernel_rfl) (by kernel_rfl) (fun _ _ _ h => h) (Or.inl ⟨by kernel_rfl, ?_⟩) (by assumption) ?_; rotate_left; (intro VV hSw; (try dsimp only at hSw); go_simp; first | done | with_reducible rfl); (try simp only [Act.put, sI, sZ, sS])
      refine wpAnyH_take (i := 4) (oi := ⟨some 63, _, _, _, _, _⟩) (v := ?_) rfl (by kernel_rfl) (by kernel_rfl) (by kernel_rfl) (fun _ _ _ h => h) (Or.inl ⟨by kernel_rfl, ?_⟩) (by assumption) ?_; rotate_left; (intro VV hSw; (try dsimp only at hSw); go_simp; first | done | with_reducible rfl); (try simp only [Act.put, sI, sZ, sS])
      refine wpAnyH_take (i := 5) (oi := ⟨some 64, _, _, _, _, _⟩) (v := ?_) rfl (by kernel_rfl) (by kernel_rfl) (by kernel_rfl) (fun _ _ _ h => h) (Or.inl ⟨by kernel_rfl, ?_⟩) (by assumption) ?_; rotate_left; (intro VV hSw; (try dsimp only at hSw); go_simp; first | done | with_reducible rfl); (try simp only [Act.put, sI, sZ, sS])
      refine wpAnyH_take (i := 6) (oi := ⟨some 65, _, _, _, _, _⟩) (v := ?_) rfl (by kernel_rfl) (by kernel_rfl) (by kernel_rfl) (fun _ _ _ h => h) (Or.inl ⟨by kernel_rfl, ?_⟩) (by assumption) ?_; rotate_left; (intro VV hSw; (try dsimp only at hSw); have hr1 := (hSw.block _ (heap_lt HG1.out)).trans HG1.out; obtain ⟨y0, y1, y2, y3, y4⟩ := five_of hr1; go_simp; first | done | with_reducible rfl); (try simp only [Act.put, sI, sZ, sS])
      refine wpAnyH_take (i := 7) (oi := ⟨some 66, _, _, _, _, _⟩) (v := ?_) rfl (by kernel_rfl) (by kernel_rfl) (by kernel_rfl) (fun _ _ _ h => h) (Or.inl ⟨by kernel_rfl, ?_⟩) (by assumption) ?_; rotate_left; (intro VV hSw; (try dsimp only at hSw); go_simp; first | done | with_reducible rfl); (try simp only [Act.put, sI, sZ, sS])
      refine wpAnyH_take (i := 8) (oi := ⟨some 67, _, _, _, _, _⟩) (v := ?_) rfl (by kernel_rfl) (by kernel_rfl) (by kernel_rfl) (fun _ _ _ h => h) (Or.inl ⟨by kernel_rfl, ?_⟩) (by assumption) ?_; rotate_left; (intro VV hSw; (try dsimp only at hSw); have hr0 := (hSw.block _ (heap_lt HG0.out)).trans HG0.out; obtain ⟨x0, x1, x2, x3, x4⟩ := five_of hr0; go_simp; first | done | with_reducible rfl); (try simp only [Act.put, sI, sZ, sS])
      refine wpAnyH_take (i := 9) (oi := ⟨some 68, _, _, _, _, _⟩) (v := ?_) rfl (by kernel_rfl) (by kernel_rfl) (by kernel_rfl) (fun _ _ _ h => h) (Or.inl ⟨by kernel_rfl, ?_⟩) (by assumption) ?_; rotate_left; (intro VV hSw; (try dsimp only at hSw); go_simp; first | done | with_reducible rfl); (try simp only [Act.put, sI, sZ, sS])
      refine wpAnyH_take (i := 10) (oi := ⟨some 69, _, _, _, _, _⟩) (v := ?_) rfl (by kernel_rfl) (by kernel_rfl) (by kernel_rfl) (fun _ _ _ h => h) (Or.inl ⟨by kernel_rfl, ?_⟩) (by assumption) ?_; rotate_left; (intro VV hSw; (try dsimp only at hSw); go_simp; first | done | with_reducible rfl); (try simp only [Act.put, sI, sZ, sS])
      refine wpAnyH_take (i := 11) (oi := ⟨some 6, _, _, _, _, _⟩) (v := ?_) rfl (by kernel_rfl) (by kernel_rfl) (by kernel_rfl) (fun _ _ _ h => h) (Or.inl ⟨by kernel_rfl, ?_⟩) (by assumption) ?_; rotate_left; (intro VV hSw; (try dsimp only at hSw); go_simp; first | done | with_reducible rfl); (try simp only [Act.put, sI, sZ, sS])
      refine wpAnyH_take (i := 12) (oi := ⟨some 7, _, _, _, _, _⟩) (v := ?_) rfl (by kernel_rfl) (by kernel_rfl) (by kernel_rfl) (fun _ _ _ h => h) (Or.inl ⟨by kernel_rfl, ?_⟩) (by assumption) ?_; rotate_left; (intro VV hSw; (try dsimp only at hSw); go_simp; first | done | with_reducible rfl); (try simp only [Act.put, sI, sZ, sS])
      refine wpAnyH_done (by kernel_rfl) ?_ _
      have HF := Lib.hid (HB2.out.trans (hS.mono HB2.out.size))
      clear hS
      go_wp2_with fail
      refine bodyPost_ret (v := .tuple #[.slice A l.length cap, .bool false]) (by simp [results, Tryz.f72, go_sem]) rfl ?_
      refine ⟨_, _, _, by rw [HRES.out]; rfl, fun l' hl' => ?_, HF.out⟩
      rw [HRES.out] at hl'
      cases hl'
  · have hb : (tk == 1) = false := by simpa using h1
    have HRES : Hid (RR = none) := HRR.out.trans (if_neg (fun h => h1 h.1))
    clear h1
    go_enter Tryz.func72, Tryz.ntmps72
    go_upto_region 1 with fail
    rw [← hW2]
    clear hW2
    go_upto_region 14 with fail
    clear x0 x1 x2 x3 x4 y0 y1 y2 y3 y4
    refine wp_region_held (S := fun V => Below W2.heap.size W2 V) (by kernel_rfl) ?_
    show wpAnyH _ _ _ _ _ _ _ _ W2.drew
    have hS : Below W2.heap.size W2 W2.drew := ⟨rfl, rfl, rfl, Nat.le_refl _, fun _ _ => rfl⟩
    generalize W2.drew = D at hS ⊢
    refine wpAnyH_take (i := 0) (oi := ⟨some 59, _, _, _, _, _⟩) (v := ?_) rfl (by kernel_rfl) (by kernel_rfl) (by kernel_rfl) (fun _ _ _ h => h) (Or.inl ⟨by kernel_rfl, ?_⟩) (by assumption) ?_; rotate_left; (intro VV hSw; (try dsimp only at hSw); go_simp; first | done | with_reducible rfl); (try simp only [Act.put, sI, sZ, sS])
    refine wpAnyH_take (i := 1) (oi := ⟨some 60, _, _, _, _, _⟩) (v := ?_) rfl (by kernel_rfl) (by kernel_rfl) (by kernel_rfl) (fun _ _ _ h => h) (Or.inl ⟨by kernel_rfl, ?_⟩) (by assumption) ?_; rotate_left; (intro VV hSw; (try dsimp only at hSw); go_simp; first | done | with_reducible rfl); (try simp only [Act.put, sI, sZ, sS])
    refine wpAnyH_take (i := 2) (oi := ⟨some 61, _, _, _, _, _⟩) (v := ?_) rfl (by kernel_rfl) (by kernel_rfl) (by kernel_rfl) (fun _ _ _ h => h) (Or.inl ⟨by kernel_rfl, ?_⟩) (by assumption) ?_; rotate_left; (intro VV hSw; (try dsimp only at hSw); have hr1 := (hSw.block _ (heap_lt HG1.out)).trans HG1.out; obtain ⟨y0, y1, y2, y3, y4⟩ := five_of hr1; go_simp; first | done | with_reducible rfl); (try simp only [Act.put, sI, sZ, sS])
    refine wpAnyH_take (i := 3) (oi := ⟨some 62, _, _, _, _, _⟩) (v := ?_) rfl (by kernel_rfl) (by kernel_rfl) (by kernel_rfl) (fun _ _ _ h => h) (Or.inl ⟨by kernel_rfl, ?_⟩) (by assumption) ?_; rotate_left; (intro VV hSw; (try dsimp only at hSw); go_simp; first | done | with_reducible rfl); (try simp only [Act.put, sI, sZ, sS])
    refine wpAnyH_take (i := 4) (oi := ⟨some 63, _, _, _, _, _⟩) (v := ?_) rfl (by kernel_rfl) (by kernel_rfl) (by kernel_rfl) (fun _ _ _ h => h) (Or.inl ⟨by kernel_rfl, ?_⟩) (by assumption) ?_; rotate_left; (intro VV hSw; (try dsimp only at hSw); go_simp; first | done | with_reducible rfl); (try simp only [Act.put, sI, sZ, sS])
    refine wpAnyH_take (i := 5) (oi := ⟨some 64, _, _, _, _, _⟩) (v := undef) rfl (by kernel_rfl) (by kernel_rfl) (by kernel_rfl) (fun _ _ _ h => h) (Or.inr ⟨by kernel_rfl, rfl⟩) (by assumption) ?_; (try simp only [Act.put, sI, sZ, sS])
    refine wpAnyH_take (i := 6) (oi := ⟨some 65, _, _, _, _, _⟩) (v := undef) rfl (by kernel_rfl) (by kernel_rfl) (by kernel_rfl) (fun _ _ _ h => h) (Or.inr ⟨by kernel_rfl, rfl⟩) (by assumption) ?_; (try simp only [Act.put, sI, sZ, sS])
    refine wpAnyH_take (i := 7) (oi := ⟨some 66, _, _, _, _, _⟩) (v := undef) rfl (by kernel_rfl) (by kernel_rfl) (by kernel_rfl) (fun _ _ _ h => h) (Or.inr ⟨by kernel_rfl, rfl⟩) (by assumption) ?_; (try simp only [Act.put, sI, sZ, sS])
    refine wpAnyH_take (i := 8) (oi := ⟨some 67, _, _, _, _, _⟩) (v := undef) rfl (by kernel_rfl) (by kernel_rfl) (by kernel_rfl) (fun _ _ _ h => h) (Or.inr ⟨by kernel_rfl, rfl⟩) (by assumption) ?_; (try simp only [Act.put, sI, sZ, sS])
    refine wpAnyH_take (i := 9) (oi := ⟨some 68, _, _, _, _, _⟩) (v := undef) rfl (by kernel_rfl) (by kernel_rfl) (by kernel_rfl) (fun _ _ _ h => h) (Or.inr ⟨by kernel_rfl, rfl⟩) (by assumption) ?_; (try simp only [Act.put, sI, sZ, sS])
    refine wpAnyH_take (i := 10) (oi := ⟨some 69, _, _, _, _, _⟩) (v := ?_) rfl (by kernel_rfl) (by kernel_rfl) (by kernel_rfl) (fun _ _ _ h => h) (Or.inl ⟨by kernel_rfl, ?_⟩) (by assumption) ?_; rotate_left; (intro VV hSw; (try dsimp only at hSw); go_simp; first | done | with_reducible rfl); (try simp only [Act.put, sI, sZ, sS])
    refine wpAnyH_take (i := 11) (oi := ⟨some 6, _, _, _, _, _⟩) (v := ?_) rfl (by kernel_rfl) (by kernel_rfl) (by kernel_rfl) (fun _ _ _ h => h) (Or.inl ⟨by kernel_rfl, ?_⟩) (by assumption) ?_; rotate_left; (intro VV hSw; (try dsimp only at hSw); go_simp; first | done | with_reducible rfl); (try simp only [Act.put, sI, sZ, sS])
    refine wpAnyH_take (i := 12) (oi := ⟨some 7, _, _, _, _, _⟩) (v := ?_) rfl (by kernel_rfl) (by kernel_rfl) (by kernel_rfl) (fun _ _ _ h => h) (Or.inl ⟨by kernel_rfl, ?_⟩) (by assumption) ?_; rotate_left; (intro VV hSw; (try dsimp only at hSw); go_simp; first | done | with_reducible rfl); (try simp only [Act.put, sI, sZ, sS])
    refine wpAnyH_done (by kernel_rfl) ?_ _
    have HF := Lib.hid (HB2.out.trans (hS.mono HB2.out.size))
    clear hS
    go_wp2_with fail
    refine bodyPost_ret (v := .tuple #[.slice A l.length cap, .bool false]) (by simp [results, Tryz.f72, go_sem]) rfl ?_
    refine ⟨_, _, _, by rw [HRES.out]; rfl, fun l' hl' => ?_, HF.out⟩
    rw [HRES.out] at hl'
    cases hl'
set_option maxHeartbeats 4000000 in
set_option maxRecDepth 100000 in
theorem goes_8 (n : Int) (s u : ByteArray) (ps : List Tm) : GoesC (.mk 8 n s u ps) := by
  intro t l v u0 A m cap W hP hT hR hc hok hmany
  obtain rfl := hR.len
  obtain ⟨NA, nc, rfl, hRP, _, _, hss, _⟩ := hP.parts
  obtain ⟨tk, tn, ts, tu, TL⟩ := t
  obtain ⟨TA, tc, rfl, hRT, -⟩ := hT.parts
  obtain ⟨RR, hRR⟩ : ∃ r, r = goP (.mk 8 n s u ps) (.mk tk tn ts tu TL) l := ⟨_, rfl⟩
  rw [← hRR]
  have g0 := there_of (.cells #[.int .i8 tk, .int .i64 tn, .string ts, .string tu, .slice TA TL.length tc] 44) (block_alloc W (.cells #[.int .i8 8, .int .i64 n, .string s, .string u, .slice NA ps.length nc] 25))
  have g1 := block_alloc (W.alloc (.cells #[.int .i8 8, .int .i64 n, .string s, .string u, .slice NA ps.length nc] 25)) (.cells #[.int .i8 tk, .int .i64 tn, .string ts, .string tu, .slice TA TL.length tc] 44)
  rw [World.size_alloc] at g1
  have b2 : Below W.heap.size W ((W.alloc (.cells #[.int .i8 8, .int .i64 n, .string s, .string u, .slice NA ps.length nc] 25)).alloc (.cells #[.int .i8 tk, .int .i64 tn, .string ts, .string tu, .slice TA TL.length tc] 44)) := ((Below.refl _ W).alloc (Nat.le_refl _) _).alloc (by simp) _
  obtain ⟨W2, hW2⟩ : ∃ W2, W2 = (W.alloc (.cells #[.int .i8 8, .int .i64 n, .string s, .string u, .slice NA ps.length nc] 25)).alloc (.cells #[.int .i8 tk, .int .i64 tn, .string ts, .string tu, .slice TA TL.length tc] 44) := ⟨_, rfl⟩
  rw [← hW2] at g0 g1 b2
  have HB2 := Lib.hid b2
  have HG0 := Lib.hid g0
  have HG1 := Lib.hid g1
  have HR := Lib.hid hR
  have HRP := Lib.hid hRP
  have HRT := Lib.hid hRT
  have HT := Lib.hid hT
  have HC := Lib.hid hc
  have HOK := Lib.hid hok
  have HSS := Lib.hid hss
  have HMANY : Hid (l.length + (Tm.mk 8 n s u ps).nodes ≤ 500000) := hmany
  have hml := hR.max
  unfold maxLen at hml
  obtain ⟨x0, x1, x2, x3, x4⟩ := five_of g0
  obtain ⟨y0, y1, y2, y3, y4⟩ := five_of g1
  rw [goP_8] at hRR
  have HRR := Lib.hid hRR
  clear g0 g1 b2 hP hT hR hc hok hmany hRP hRT hss hRR
  by_cases h1 : tk = 6
  · have hb : (tk == 6) = true := by simpa using h1
    have HRES : Hid (RR = some l) := HRR.out.trans (if_pos h1)
    clear h1
    go_enter Tryz.func72, Tryz.ntmps72
    go_upto_region 1 with fail
    rw [← hW2]
    clear hW2
    go_upto_region 16 with fail
    clear x0 x1 x2 x3 x4 y0 y1 y2 y3 y4
    refine wp_region_held (S := fun V => Below W2.heap.size W2 V) (by kernel_rfl) ?_
    show wpAnyH _ _ _ _ _ _ _ _ W2.drew
    have hS : Below W2.heap.size W2 W2.drew := ⟨rfl, rfl, rfl, Nat.le_refl _, fun _ _ => rfl⟩
    generalize W2.drew = D at hS ⊢
    refine wpAnyH_take (i := 0) (oi := ⟨some 72, _, _, _, _, _⟩) (v := ?_) rfl (by kernel_rfl) (by kernel_rfl) (by kernel_rfl) (fun _ _ _ h => h) (Or.inl ⟨by kernel_rfl, ?_⟩) (by assumption) ?_; rotate_left; (intro VV hSw; (try dsimp only at hSw); go_simp; first | done | with_reducible rfl); (try simp only [Act.put, sI, sZ, sS])
    refine wpAnyH_take (i := 1) (oi := ⟨some 73, _, _, _, _, _⟩) (v := ?_) rfl (by kernel_rfl) (by kernel_rfl) (by kernel_rfl) (fun _ _ _ h => h) (Or.inl ⟨by kernel_rfl, ?_⟩) (by assumption) ?_; rotate_left; (intro VV hSw; (try dsimp only at hSw); go_simp; first | done | with_reducible rfl); (try simp only [Act.put, sI, sZ, sS])
    refine wpAnyH_take (i := 2) (oi := ⟨some 74, _, _, _, _, _⟩) (v := ?_) rfl (by kernel_rfl) (by kernel_rfl) (by kernel_rfl) (fun _ _ _ h => h) (Or.inl ⟨by kernel_rfl, ?_⟩) (by assumption) ?_; rotate_left; (intro VV hSw; (try dsimp only at hSw); have hr1 := (hSw.block _ (heap_lt HG1.out)).trans HG1.out; obtain ⟨y0, y1, y2, y3, y4⟩ := five_of hr1; go_simp; first | done | with_reducible rfl); (try simp only [Act.put, sI, sZ, sS])
    refine wpAnyH_take (i := 3) (oi := ⟨some 75, _, _, _, _, _⟩) (v := ?_) rfl (by kernel_rfl) (by kernel_rfl) (by kernel_rfl) (fun _ _ _ h => h) (Or.inl ⟨by kernel_rfl, ?_⟩) (by assumption) ?_; rotate_left; (intro VV hSw; (try dsimp only at hSw); go_simp; first | done | with_reducible rfl); (try simp only [Act.put, sI, sZ, sS])
    refine wpAnyH_take (i := 4) (oi := ⟨some 6, _, _, _, _, _⟩) (v := ?_) rfl (by kernel_rfl) (by kernel_rfl) (by kernel_rfl) (fun _ _ _ h => h) (Or.inl ⟨by kernel_rfl, ?_⟩) (by assumption) ?_; rotate_left; (intro VV hSw; (try dsimp only at hSw); go_simp; first | done | with_reducible rfl); (try simp only [Act.put, sI, sZ, sS])
    refine wpAnyH_take (i := 5) (oi := ⟨some 7, _, _, _, _, _⟩) (v := ?_) rfl (by kernel_rfl) (by kernel_rfl) (by kernel_rfl) (fun _ _ _ h => h) (Or.inl ⟨by kernel_rfl, ?_⟩) (by assumption) ?_; rotate_left; (intro VV hSw; (try dsimp only at hSw); go_simp; first | done | with_reducible rfl); (try simp only [Act.put, sI, sZ, sS])
    refine wpAnyH_done (by kernel_rfl) ?_ _
    have HF := Lib.hid (HB2.out.trans (hS.mono HB2.out.size))
    clear hS
    go_wp2_with fail
    refine bodyPost_ret (v := .tuple #[.slice A l.length cap, .bool true]) (by simp [results, Tryz.f72, go_sem]) rfl ?_
    refine ⟨_, _, _, by rw [HRES.out]; rfl, fun l' hl' => ?_, HF.out⟩
    rw [HRES.out] at hl'
    cases hl'; exact HR.out.later HF.out
  · have hb : (tk == 6) = false := by simpa using h1
    have HRES : Hid (RR = none) := HRR.out.trans (if_neg h1)
    clear h1
    go_enter Tryz.func72, Tryz.ntmps72
    go_upto_region 1 with fail
    rw [← hW2]
    clear hW2
    go_upto_region 16 with fail
    clear x0 x1 x2 x3 x4 y0 y1 y2 y3 y4
    refine wp_region_held (S := fun V => Below W2.heap.size W2 V) (by kernel_rfl) ?_
    show wpAnyH _ _ _ _ _ _ _ _ W2.drew
    have hS : Below W2.heap.size W2 W2.drew := ⟨rfl, rfl, rfl, Nat.le_refl _, fun _ _ => rfl⟩
    generalize W2.drew = D at hS ⊢
    refine wpAnyH_take (i := 0) (oi := ⟨some 72, _, _, _, _, _⟩) (v := ?_) rfl (by kernel_rfl) (by kernel_rfl) (by kernel_rfl) (fun _ _ _ h => h) (Or.inl ⟨by kernel_rfl, ?_⟩) (by assumption) ?_; rotate_left; (intro VV hSw; (try dsimp only at hSw); go_simp; first | done | with_reducible rfl); (try simp only [Act.put, sI, sZ, sS])
    refine wpAnyH_take (i := 1) (oi := ⟨some 73, _, _, _, _, _⟩) (v := ?_) rfl (by kernel_rfl) (by kernel_rfl) (by kernel_rfl) (fun _ _ _ h => h) (Or.inl ⟨by kernel_rfl, ?_⟩) (by assumption) ?_; rotate_left; (intro VV hSw; (try dsimp only at hSw); go_simp; first | done | with_reducible rfl); (try simp only [Act.put, sI, sZ, sS])
    refine wpAnyH_take (i := 2) (oi := ⟨some 74, _, _, _, _, _⟩) (v := ?_) rfl (by kernel_rfl) (by kernel_rfl) (by kernel_rfl) (fun _ _ _ h => h) (Or.inl ⟨by kernel_rfl, ?_⟩) (by assumption) ?_; rotate_left; (intro VV hSw; (try dsimp only at hSw); have hr1 := (hSw.block _ (heap_lt HG1.out)).trans HG1.out; obtain ⟨y0, y1, y2, y3, y4⟩ := five_of hr1; go_simp; first | done | with_reducible rfl); (try simp only [Act.put, sI, sZ, sS])
    refine wpAnyH_take (i := 3) (oi := ⟨some 75, _, _, _, _, _⟩) (v := ?_) rfl (by kernel_rfl) (by kernel_rfl) (by kernel_rfl) (fun _ _ _ h => h) (Or.inl ⟨by kernel_rfl, ?_⟩) (by assumption) ?_; rotate_left; (intro VV hSw; (try dsimp only at hSw); go_simp; first | done | with_reducible rfl); (try simp only [Act.put, sI, sZ, sS])
    refine wpAnyH_take (i := 4) (oi := ⟨some 6, _, _, _, _, _⟩) (v := ?_) rfl (by kernel_rfl) (by kernel_rfl) (by kernel_rfl) (fun _ _ _ h => h) (Or.inl ⟨by kernel_rfl, ?_⟩) (by assumption) ?_; rotate_left; (intro VV hSw; (try dsimp only at hSw); go_simp; first | done | with_reducible rfl); (try simp only [Act.put, sI, sZ, sS])
    refine wpAnyH_take (i := 5) (oi := ⟨some 7, _, _, _, _, _⟩) (v := ?_) rfl (by kernel_rfl) (by kernel_rfl) (by kernel_rfl) (fun _ _ _ h => h) (Or.inl ⟨by kernel_rfl, ?_⟩) (by assumption) ?_; rotate_left; (intro VV hSw; (try dsimp only at hSw); go_simp; first | done | with_reducible rfl); (try simp only [Act.put, sI, sZ, sS])
    refine wpAnyH_done (by kernel_rfl) ?_ _
    have HF := Lib.hid (HB2.out.trans (hS.mono HB2.out.size))
    clear hS
    go_wp2_with fail
    refine bodyPost_ret (v := .tuple #[.slice A l.length cap, .bool false]) (by simp [results, Tryz.f72, go_sem]) rfl ?_
    refine ⟨_, _, _, by rw [HRES.out]; rfl, fun l' hl' => ?_, HF.out⟩
    rw [HRES.out] at hl'
    cases hl'
end Go.Proofs.YtkceoiaaiaomoaaGreatDoor
