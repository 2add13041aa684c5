/- Layer 11: the document's own conses; its value of a guard expression. -/
import Derived.Test.YtkceoiaaiaomoaaGreatDoorKGd20
import Derived.Test.YtkceoiaaiaomoaaGreatDoorKGd11
set_option linter.unusedVariables false
set_option linter.unusedSimpArgs false
namespace Go.Proofs.YtkceoiaaiaomoaaGreatDoor
open Go.RowKit

theorem made_fit {l : List Tm} (h : ∀ y ∈ l, checkN y = 0) : madeE (Tm.pres l).length = fitN 1 l := by
  have hn : l.any (fun x => checkN x == 30) = false := by
    rw [List.any_eq_false]
    intro x hx
    rw [h x hx]; decide
  have hs : ∀ l : List Tm, (∀ y ∈ l, checkN y = 0) → (Tm.pres l).length = sumN l := by
    intro l
    induction l with
    | nil => intro _; rfl
    | cons x l ih =>
      intro h
      rw [Tm.pres, List.length_append, sumN, ih (fun y hy => h y (by simp [hy]))]
      have := (check_valid (h x (by simp))).2
      unfold Tm.nodes at *
      omega
  unfold madeE fitN
  rw [hs l h, hn]
  simp

theorem elem_0 {V : World} {g off : Nat} {o : Option Nat} {c0 c1 c2 c3 c4 : Value} (h : ElemAt V ⟨g, off, o⟩ 0 (.agg #[c0, c1, c2, c3, c4])) :
    V.cell? ⟨g, off, o⟩ = some c0 ∧ V.cell? ⟨g, off + 1, none⟩ = some c1 ∧ V.cell? ⟨g, off + 2, none⟩ = some c2 ∧ V.cell? ⟨g, off + 3, none⟩ = some c3 ∧ V.cell? ⟨g, off + 4, none⟩ = some c4 := by
  obtain ⟨d0, d1, d2, d3, d4, he, e0, e1, e2, e3, e4⟩ := h
  cases he
  exact ⟨e0, e1, e2, e3, e4⟩
theorem elem_1 {V : World} {g off : Nat} {o : Option Nat} {c0 c1 c2 c3 c4 : Value} (h : ElemAt V ⟨g, off, o⟩ 1 (.agg #[c0, c1, c2, c3, c4])) :
    V.cell? ⟨g, off + 5, none⟩ = some c0 ∧ V.cell? ⟨g, off + 5 + 1, none⟩ = some c1 ∧ V.cell? ⟨g, off + 5 + 2, none⟩ = some c2 ∧ V.cell? ⟨g, off + 5 + 3, none⟩ = some c3 ∧ V.cell? ⟨g, off + 5 + 4, none⟩ = some c4 := by
  obtain ⟨d0, d1, d2, d3, d4, he, e0, e1, e2, e3, e4⟩ := h
  cases he
  exact ⟨e0, e1, e2, e3, e4⟩

set_option maxHeartbeats 4000000 in
set_option maxRecDepth 100000 in
theorem rCons_any (Q : Nat → Prop) (a b : Tm) (k n k' n' : Int) (s t s' t' : ByteArray) (A A' : Option Addr) (m c m' c' : Nat) (w : World) (hQ : ∀ q, Q q → q < w.heap.size) (ha : TmAt Q w a (.agg #[.int .i8 k, .int .i64 n, .string s, .string t, .slice A m c])) (hb : TmAt Q w b (.agg #[.int .i8 k', .int .i64 n', .string s', .string t', .slice A' m' c'])) (hc : checkN a = 0 ∧ checkN b = 0) :
    Calls Tryz.prog 154 #[.agg #[.int .i8 k, .int .i64 n, .string s, .string t, .slice A m c], .agg #[.int .i8 k', .int .i64 n', .string s', .string t', .slice A' m' c']] w (MadeP Q 7 [a, b] w) := by
  obtain ⟨h0, z0⟩ := here_of (.cells #[.int .i8 k, .int .i64 n, .string s, .string t, .slice A m c] 44) (rfl : w.heap.size = w.heap.size)
  obtain ⟨h1, z1⟩ := here_of (.cells #[.int .i8 k', .int .i64 n', .string s', .string t', .slice A' m' c'] 44) z0
  obtain ⟨h2, z2⟩ := here_of (.cells #[.int .i8 0, .int .i64 0, .string ⟨#[]⟩, .string ⟨#[]⟩, .slice none 0 0] 44) z1
  obtain ⟨h3, z3⟩ := here_of (.cells #[.int .i8 k, .int .i64 n, .string s, .string t, .slice A m c, .int .i8 k', .int .i64 n', .string s', .string t', .slice A' m' c'] 44) z2
  have g0 := there_of (.cells #[.int .i8 0, .int .i64 0, .string ⟨#[]⟩, .string ⟨#[]⟩, .slice none 0 0] 44) (there_of (.cells #[.int .i8 k', .int .i64 n', .string s', .string t', .slice A' m' c'] 44) h0)
  have g1 := there_of (.cells #[.int .i8 0, .int .i64 0, .string ⟨#[]⟩, .string ⟨#[]⟩, .slice none 0 0] 44) h1
  obtain ⟨x0, x1, x2, x3, x4⟩ := five_of g0
  obtain ⟨y0, y1, y2, y3, y4⟩ := five_of g1
  have g2 := there_of (.cells #[.int .i8 k, .int .i64 n, .string s, .string t, .slice A m c, .int .i8 k', .int .i64 n', .string s', .string t', .slice A' m' c'] 44) h2
  obtain ⟨w4, hw4⟩ : ∃ w4, w4 = (((w.alloc (.cells #[.int .i8 k, .int .i64 n, .string s, .string t, .slice A m c] 44)).alloc (.cells #[.int .i8 k', .int .i64 n', .string s', .string t', .slice A' m' c'] 44)).alloc (.cells #[.int .i8 0, .int .i64 0, .string ⟨#[]⟩, .string ⟨#[]⟩, .slice none 0 0] 44)).alloc (.cells #[.int .i8 k, .int .i64 n, .string s, .string t, .slice A m c, .int .i8 k', .int .i64 n', .string s', .string t', .slice A' m' c'] 44) := ⟨_, rfl⟩
  have b4 : Below w.heap.size w w4 := by rw [hw4]; exact ((((Below.refl _ w).alloc (Nat.le_refl _) _).alloc (by omega) _).alloc (by omega) _).alloc (by omega) _
  rw [← hw4] at g2 h3 z3
  have hP : TRow (fun q => Q q ∨ q = w.heap.size + 3) w4 (some ⟨w.heap.size + 3, 0, none⟩) 2 2 [a, b] := row2_of h3 (.inr rfl) (ha.keep (fun q hq => b4.block q (hQ q hq)) (fun _ h => .inl h)) (hb.keep (fun q hq => b4.block q (hQ q hq)) (fun _ h => .inl h))
  have hcc := made_any (fun q => Q q ∨ q = w.heap.size + 3) 7 (by decide) [a, b] (some ⟨w.heap.size + 3, 0, none⟩) 2 2 w4 (fun q hq => by rcases hq with hq | hq; (have := hQ q hq; omega); omega) hP (by show 2 ≤ 100000; omega) (fun y hy => by rcases List.mem_cons.1 hy with rfl | hy; (exact hc.1); (rcases List.mem_cons.1 hy with rfl | hy; (exact hc.2); (cases hy)))
  have HC := Lib.hid hcc
  have HQ := Lib.hid hQ
  have HZ4 := Lib.hid z3
  have HB4 := Lib.hid b4
  have HG2 := Lib.hid g2
  clear h0 z0 h1 z1 h2 z2 h3 z3 g0 g1 g2 b4 hP hcc ha hb hQ hc
  go_enter Tryz.func154, Tryz.ntmps154
  go_wp2_with fail
  simp only [Nat.add_assoc, Nat.reduceAdd]
  rw [← hw4]
  clear hw4 x0 x1 x2 x3 x4 y0 y1 y2 y3 y4
  refine HC.out.mono ?_
  rintro e V1 ⟨k9, A9, m9, c9, rfl, hT, b1⟩
  obtain ⟨ec, hec⟩ : ∃ ec, ec = madeE (Tm.pres [a, b]).length := ⟨_, rfl⟩
  rw [← hec] at hT ⊢
  have HB5 := Lib.hid (HB4.out.trans (b1.mono HB4.out.size))
  have hg5 := (b1.block _ (heap_lt HG2.out)).trans HG2.out
  have HQ1 := Lib.hid b1
  have HT := Lib.hid hT
  have HEC := Lib.hid hec
  clear b1 hT hec HC
  obtain ⟨⟨r0, r1, r2, r3, r4⟩, rf0, rf1, rf2, rf3, rf4⟩ := five_fr hg5
  have S5 := Lib.hid (set_five (.int .i8 k9) (.int .i64 0) (.string ⟨#[]⟩) (.string ⟨#[]⟩) (.slice A9 m9 c9) hg5)
  go_wp2_with fail
  obtain ⟨s5, m5⟩ := S5.out
  generalize ((((((V1).setCell ⟨w.heap.size + 2, 0, none⟩ (.int .i8 k9)).setCell ⟨w.heap.size + 2, 1, none⟩ (.int .i64 0)).setCell ⟨w.heap.size + 2, 2, none⟩ (.string ⟨#[]⟩)).setCell ⟨w.heap.size + 2, 3, none⟩ (.string ⟨#[]⟩)).setCell ⟨w.heap.size + 2, 4, none⟩ (.slice A9 m9 c9)) = VX at s5 m5 ⊢
  obtain ⟨z0, z1, z2, z3, z4⟩ := five_of s5
  refine bodyPost_ret (v := .tuple #[.agg #[.int .i8 k9, .int .i64 0, .string ⟨#[]⟩, .string ⟨#[]⟩, .slice A9 m9 c9], .int .i64 ec]) (by simp [results, Tryz.f154, go_sem, z0, z1, z2, z3, z4]) rfl ?_
  have z4 := HZ4.out
  have z5 := HQ1.out.size
  have z6 := m5.size
  refine ⟨_, _, _, _, by rw [HEC.out], fun h => ?_, HB5.out.trans (m5.below HB5.out.size (fun q (e : q = _) => by omega))⟩
  rw [← HEC.out] at h
  refine (HT.out h).keep (fun q hq => m5.block q ?_ ?_) (fun q hq => ?_)
  · rcases hq with (h | h) | h <;> (try have := HQ.out q h) <;> omega
  · rcases hq with (h | h) | h <;> (try have := HQ.out q h) <;> omega
  · rcases hq with (h | h) | h
    · exact .inl h
    · exact .inr ⟨by omega, by omega⟩
    · exact .inr ⟨by omega, by omega⟩

set_option maxHeartbeats 16000000 in
set_option maxRecDepth 100000 in
theorem rval_part (n0 n1 : Nat) (l : List Bd) (hM : mayL l = true) (j n : Int) (s t : ByteArray) (ps : List Tm) (hj : j = 10 ∨ (j = 9 ∧ ps.length = 2) ∨ (j = 11 ∧ ps.length = 2)) (hgu : ∀ y ∈ ps, guaB y = true)
    (ih : ∀ y ∈ ps, ∀ v A m cap V, BRT n0 n1 V A m cap l → n1 ≤ V.heap.size → TmAt (· < V.heap.size) V y v → Calls Tryz.prog 94 #[v, .slice A m cap] V (RValP (gvT l y) n0 V))
    (hpl : ps.length ≤ 100000) (v : Value) (A : Option Addr) (m cap : Nat) (W : World) (hR : BRT n0 n1 W A m cap l) (hn1 : n1 ≤ W.heap.size) (hT : TmAt (· < W.heap.size) W (.mk j n s t ps) v) :
    Calls Tryz.prog 94 #[v, .slice A m cap] W (RValP ((gvTsO (gvT l) ps).bind (putT l j n s)) n0 W) := by
  obtain ⟨NA, nc, rfl, hRN, -⟩ := hT.parts
  have g0 := there_of (.cells #[.int .i8 0, .int .i64 0, .string ⟨#[]⟩, .string ⟨#[]⟩, .slice none 0 0] 44) (block_alloc W (.cells #[.int .i8 j, .int .i64 n, .string s, .string t, .slice NA ps.length nc] 25))
  have g1 := block_alloc (W.alloc (.cells #[.int .i8 j, .int .i64 n, .string s, .string t, .slice NA ps.length nc] 25)) (.cells #[.int .i8 0, .int .i64 0, .string ⟨#[]⟩, .string ⟨#[]⟩, .slice none 0 0] 44)
  rw [World.size_alloc] at g1
  have b2 : Below W.heap.size W ((W.alloc (.cells #[.int .i8 j, .int .i64 n, .string s, .string t, .slice NA ps.length nc] 25)).alloc (.cells #[.int .i8 0, .int .i64 0, .string ⟨#[]⟩, .string ⟨#[]⟩, .slice none 0 0] 44)) := ((Below.refl _ W).alloc (Nat.le_refl _) _).alloc (by simp) _
  have z2 : ((W.alloc (.cells #[.int .i8 j, .int .i64 n, .string s, .string t, .slice NA ps.length nc] 25)).alloc (.cells #[.int .i8 0, .int .i64 0, .string ⟨#[]⟩, .string ⟨#[]⟩, .slice none 0 0] 44)).heap.size = W.heap.size + 2 := by rw [World.size_alloc, World.size_alloc]
  obtain ⟨W2, hW2⟩ : ∃ W2, W2 = (W.alloc (.cells #[.int .i8 j, .int .i64 n, .string s, .string t, .slice NA ps.length nc] 25)).alloc (.cells #[.int .i8 0, .int .i64 0, .string ⟨#[]⟩, .string ⟨#[]⟩, .slice none 0 0] 44) := ⟨_, rfl⟩
  rw [← hW2] at g0 g1 b2 z2
  have HB2 := Lib.hid b2
  have HG0 := Lib.hid g0
  have HG1 := Lib.hid g1
  have HZ2 := Lib.hid z2
  have HN1 : Hid (n1 ≤ W.heap.size) := hn1
  have HN0 : Hid (n0 ≤ W.heap.size) := Nat.le_trans hR.le hn1
  have HR := Lib.hid (hR.under b2 hn1)
  have HRN := Lib.hid hRN
  have HIH := Lib.hid ih
  have HGU := Lib.hid hgu
  have HM := Lib.hid hM
  have HJ := Lib.hid hj
  have j5 : (j == 5) = false := by rw [beq_eq_false_iff_ne]; omega
  have j6 : (j == 6) = false := by rw [beq_eq_false_iff_ne]; omega
  have j7 : (j == 7) = false := by rw [beq_eq_false_iff_ne]; omega
  have j8 : (j == 8) = false := by rw [beq_eq_false_iff_ne]; omega
  obtain ⟨x0, x1, x2, x3, x4⟩ := five_of g0
  clear g0 g1 b2 z2 hT hR hRN hn1 ih hgu hM hj
  go_enter Tryz.func94, Tryz.ntmps94
  go_upto_region 1 with fail
  rw [← hW2]
  clear hW2
  go_wp2_with fail
  clear x0 x1 x2 x3 x4 j5 j6 j7 j8
  go_loopw [6, 7] (fun p q wr => ∃ i : Nat, i ≤ ps.length ∧ q = .int .i64 (i : Int) ∧ (∃ vs, gvTsO (gvT l) (ps.take i) = some vs ∧ OwnT W2.heap.size (PB n0 W2.heap.size wr p) wr p vs) ∧ Below W2.heap.size W2 wr) (fun _ q _ => ps.length - (intOf q).toNat)
  case atStart => exact ⟨0, Nat.zero_le _, rfl, ⟨[], rfl, OwnT.nil _ _ _⟩, Below.refl _ _⟩
  case round =>
    obtain ⟨i, hi, rfl, ⟨vs, hvs, hO⟩, hB⟩ := hrel
    have HVS := Lib.hid hvs
    have HO := Lib.hid hO
    have HB := Lib.hid hB
    have hg0 := (hB.block _ (heap_lt HG0.out)).trans HG0.out
    obtain ⟨x0, x1, x2, x3, x4⟩ := five_of hg0
    clear hvs hO hB hg0
    by_cases hlt : i < ps.length
    · obtain ⟨y, hy⟩ : ∃ y, ps[i]? = some y := ⟨ps[i], List.getElem?_eq_getElem hlt⟩
      obtain ⟨ad, u, hA, had, hE, hTy⟩ := HRN.out.at_ i y hy
      subst hA
      have hEr : ElemAt wr ad i u := hE.keep ((HB.out.block ad.block (by have := HZ2.out; omega)).trans (HB2.out.block ad.block had))
      obtain ⟨k', n', s', t', L', A', cap', rfl, rfl⟩ : ∃ k' n' s' t' L' A' cap', y = Tm.mk k' n' s' t' L' ∧ u = .agg #[.int .i8 k', .int .i64 n', .string s', .string t', .slice A' L'.length cap'] := by
        cases hTy; exact ⟨_, _, _, _, _, _, _, rfl, rfl⟩
      obtain ⟨q0, q1, q2, q3, q4, hc, e0, e1, e2, e3, e4⟩ := hEr
      simp only [Value.agg.injEq, Array.mk.injEq, List.cons.injEq, and_true] at hc
      obtain ⟨rfl, rfl, rfl, rfl, rfl⟩ := hc
      have hn2 : n0 ≤ wr.heap.size := by have := HB.out.size; have := HZ2.out; have := HN0.out; omega
      have HN2 : Hid (n0 ≤ wr.heap.size) := hn2
      have HTY := Lib.hid (hTy.keep (Q := (· < wr.heap.size)) (w' := wr) (fun q hq => (HB.out.block q (by have := HZ2.out; omega)).trans (HB2.out.block q hq)) (fun q hq => by have := HB.out.size; have := HZ2.out; omega))
      have HMEM := Lib.hid (List.mem_of_getElem? hy)
      have HYI := Lib.hid hy
      have HRR := Lib.hid (HR.out.under HB.out (by have := HZ2.out; have := HN1.out; omega))
      have HNR : Hid (n1 ≤ wr.heap.size) := by have := HB.out.size; have := HZ2.out; have := HN1.out; show _ ≤ _; omega
      clear hn2 hE hTy hy had
      obtain ⟨fy, hfy⟩ : ∃ fy, fy = gvT l (Tm.mk k' n' s' t' L') := ⟨_, rfl⟩
      have HFY := Lib.hid hfy
      clear hfy
      go_wp2_with fail
      refine (HIH.out _ HMEM.out _ A m cap wr HRR.out HNR.out HTY.out).mono ?_
      rintro e V1 ⟨k9, n9, s9, t9, A9, m9, c9, rfl, hv, b5⟩
      rw [← HFY.out] at hv ⊢
      have HB5 := Lib.hid b5
      clear b5 e0 e1 e2 e3 e4 x0 x1 x2 x3 x4
      obtain ⟨W5, hW5⟩ : ∃ W5, W5 = V1.alloc (.cells #[.int .i8 k9, .int .i64 n9, .string s9, .string t9, .slice A9 m9 c9] 44) := ⟨_, rfl⟩
      obtain ⟨g9, hg9⟩ : ∃ g9, g9 = V1.heap.size := ⟨_, rfl⟩
      have b6 : Below V1.heap.size V1 W5 := by rw [hW5]; exact (Below.refl _ _).alloc (Nat.le_refl _) _
      have r9 : W5.heap[g9]? = some (.cells #[.int .i8 k9, .int .i64 n9, .string s9, .string t9, .slice A9 m9 c9] 44 (0, 0)) := by rw [hW5, hg9]; exact block_alloc _ _
      have z9 : W5.heap.size = V1.heap.size + 1 := by rw [hW5, World.size_alloc]
      have HZ9 := Lib.hid z9
      have HB35 := Lib.hid (HB5.out.trans (b6.mono HB5.out.size))
      have HB6 := Lib.hid b6
      have HR9 := Lib.hid r9
      clear b6 r9 z9
      cases fy with
      | none =>
        have HNONE := Lib.hid ((gvTsO_take HYI.out HVS.out).2 HFY.out.symm)
        clear hv
        simp only [Option.isSome_none]
        go_upto_region 17 with fail
        rw [← hW5]
        clear hW5 hg9
        have HBW5 := Lib.hid (HB2.out.trans ((HB.out.trans (HB35.out.mono HB.out.size)).mono HB2.out.size))
        have hg1 := ((HB.out.trans (HB35.out.mono HB.out.size)).block _ (heap_lt HG1.out)).trans HG1.out
        obtain ⟨⟨r0, r1, r2, r3, r4⟩, rf0, rf1, rf2, rf3, rf4⟩ := five_fr hg1
        have S5 := Lib.hid (set_five (.int .i8 0) (.int .i64 0) (.string ⟨#[]⟩) (.string ⟨#[]⟩) (.slice none 0 0) hg1)
        go_wp2_with fail
        obtain ⟨s5, m5⟩ := S5.out
        generalize ((((((W5).setCell ⟨W.heap.size + 1, 0, none⟩ (.int .i8 0)).setCell ⟨W.heap.size + 1, 1, none⟩ (.int .i64 0)).setCell ⟨W.heap.size + 1, 2, none⟩ (.string ⟨#[]⟩)).setCell ⟨W.heap.size + 1, 3, none⟩ (.string ⟨#[]⟩)).setCell ⟨W.heap.size + 1, 4, none⟩ (.slice none 0 0)) = VX at s5 m5 ⊢
        obtain ⟨z0, z1, z2, z3, z4⟩ := five_of s5
        refine bodyPost_ret (v := .tuple #[.agg #[.int .i8 0, .int .i64 0, .string ⟨#[]⟩, .string ⟨#[]⟩, .slice none 0 0], .bool false]) (by simp [results, Tryz.f94, go_sem, z0, z1, z2, z3, z4]) rfl ?_
        rw [HNONE.out]
        exact ⟨_, _, _, _, _, _, _, rfl, (fun y hy => by cases hy), HBW5.out.trans (m5.below HBW5.out.size (fun k (e : k = _) => by omega))⟩
      | some z =>
        have hz := hv z rfl
        have HZV := Lib.hid hz
        have HSOME := Lib.hid ((gvTsO_take HYI.out HVS.out).1 z HFY.out.symm)
        clear hv hz
        simp only [Option.isSome_some]
        go_upto_region 17 with fail
        rw [← hW5, ← hg9]
        clear hW5 hg9
        have r9 := HR9.out
        obtain ⟨t0, t1, t2, t3, t4⟩ := five_of r9
        clear r9
        obtain ⟨W6, hW6⟩ : ∃ W6, W6 = W5.alloc (.cells #[.int .i8 k9, .int .i64 n9, .string s9, .string t9, .slice A9 m9 c9] 44) := ⟨_, rfl⟩
        have b6 : Below W5.heap.size W5 W6 := by rw [hW6]; exact (Below.refl _ _).alloc (Nat.le_refl _) _
        have r6 : W6.heap[W5.heap.size]? = some (.cells #[.int .i8 k9, .int .i64 n9, .string s9, .string t9, .slice A9 m9 c9] 44 (0, 0)) := by rw [hW6]; exact block_alloc _ _
        have HR6 := Lib.hid r6
        have HB36 := Lib.hid (HB35.out.trans (b6.mono HB35.out.size))
        have HO6 := Lib.hid (own_later HO.out HB36.out HN2.out)
        have HP6 : Hid (∀ b, PB n0 W2.heap.size W6 u6 b → b < W6.heap.size ∧ u6.ownBlock ≠ some b) := fun b hb => ⟨by have := HB36.out.size; have := HN2.out; rcases hb.1 with h | h <;> omega, hb.2⟩
        have HZ6 : Hid (TmAt (PB n0 W2.heap.size W6 u6) W6 z (.agg #[.int .i8 k9, .int .i64 n9, .string s9, .string t9, .slice A9 m9 c9])) := HZV.out.keep (fun q hq => ((HB6.out.trans (b6.mono HB6.out.size)).block q (by have := HB5.out.size; have := HN2.out; rcases hq with h | h <;> omega))) (fun q hq => ⟨by have := HB6.out.size; have := b6.size; have := HB.out.size; rcases hq with h | h; (exact .inl h); (exact .inr ⟨by omega, by omega⟩), fun e => by
          have h1 := HO.out.own q e
          have h2 := HN0.out
          have h3 := HZ2.out
          rcases hq with h | h <;> omega⟩)
        have HL6 : Hid (vs.length + 1 ≤ 1000000) := by
          have h1 := gvTsO_len HVS.out
          rw [List.length_take] at h1
          show _ ≤ _
          omega
        have HB26 : Hid (W2.heap.size ≤ W6.heap.size) := (HB.out.trans (HB36.out.mono HB.out.size)).size
        have HBW6 := Lib.hid (HB.out.trans (HB36.out.mono HB.out.size))
        clear b6 r6
        go_wp2_with (at_builtin; rw [← hW6]; refine wpList_own_term rfl (.tmp 60) (.tmp 62) rfl HO6.out HB26.out HP6.out rfl W5.heap.size rfl HR6.out HZ6.out HL6.out ?_)
        intro v7 W7 O7 hg7 hb7
        have hz6 : W6.heap.size = W5.heap.size + 1 := by rw [hW6, World.size_alloc]
        rw [← hW6] at O7 hg7
        rw [← hz6] at hb7
        have m7 : Mod (fun g => u6.ownBlock = some g) W6 W7 := Mod.grown hg7 (fun _ _ e => e)
        have hB7 : Below W2.heap.size W2 W7 := HBW6.out.trans (m7.below HBW6.out.size (fun g e => ((HO6.out).own g e).1))
        have O8 : OwnT W2.heap.size (PB n0 W2.heap.size W7 v7) W7 v7 (vs ++ [z]) := O7.keep (.refl (fun _ => False) _) (fun _ _ f => f) (fun b hb => ⟨by have := (HP6.out b hb).1; have := m7.size; omega, fun f => f⟩) (fun b hb => ⟨by have := m7.size; rcases hb.1 with h | h; (exact .inl h); (exact .inr ⟨h.1, by omega⟩), fun e => by
          rcases hb7 with h | h
          · exact hb.2 (h.trans e)
          · rw [h] at e; injection e with e; have := (HP6.out b hb).1; omega⟩)
        have HO8 := Lib.hid O8
        have HB8 := Lib.hid hB7
        clear O7 hg7 hb7 m7 hB7 O8 t0 t1 t2 t3 t4 hW6
        go_wp2_with fail
        go_roundw
        case rel => exact ⟨i + 1, by omega, by go_num, ⟨vs ++ [z], HSOME.out, HO8.out⟩, HB8.out⟩
        case measure => (simp [intOf] <;> omega)
    · obtain rfl : i = ps.length := by omega
      have hvs := HVS.out
      rw [List.take_length] at hvs
      obtain ⟨PA, pc, rfl⟩ := HO.out.shape
      obtain ⟨-, hTR⟩ := HO.out.trow (Q := fun b => b < n0 ∨ (W2.heap.size ≤ b ∧ b < wr.heap.size)) (fun b hb => hb.1) (fun b h1 h2 _ => .inr ⟨h1, h2⟩)
      have hck : ∀ y ∈ vs, checkN y = 0 := by
        have hall : ∀ (ps vs : List Tm), gvTsO (gvT l) ps = some vs → (∀ y ∈ ps, guaB y = true) → ∀ y ∈ vs, checkN y = 0 := by
          intro ps
          induction ps with
          | nil => intro vs h _ y hy; rw [gvTsO] at h; cases h; cases hy
          | cons x ps ihp =>
            intro vs h hg y hy
            rw [gvTsO] at h
            cases hx : gvT l x with
            | none => rw [hx] at h; simp at h
            | some v =>
              cases hl : gvTsO (gvT l) ps with
              | none => rw [hx, hl] at h; simp at h
              | some vs0 =>
                rw [hx, hl] at h; simp at h; subst h
                rcases List.mem_cons.1 hy with rfl | hy
                · exact gv_check hx HM.out (hg x (by simp))
                · exact ihp vs0 hl (fun y hy => hg y (by simp [hy])) y hy
        exact hall ps vs hvs HGU.out
      have HTR := Lib.hid hTR
      have HVL := Lib.hid hvs
      have HCK := Lib.hid hck
      have HLV : Hid (vs.length = ps.length) := gvTsO_len hvs
      have HG1R := Lib.hid ((HB.out.block _ (heap_lt HG1.out)).trans HG1.out)
      have HNR : Hid (n0 ≤ wr.heap.size) := by have := HB.out.size; have := HZ2.out; have := HN0.out; show _ ≤ _; omega
      have HBW := Lib.hid (HB2.out.trans (HB.out.mono HB2.out.size))
      obtain ⟨pn, hpn⟩ : ∃ pn, pn = vs.length := ⟨_, rfl⟩
      have HPN := Lib.hid hpn
      rw [← hpn] at HTR
      rw [← hpn]
      clear hvs hTR hck hpn HO HVS
      obtain ⟨rr, hrr⟩ : ∃ rr, rr = putT l j n s vs := ⟨_, rfl⟩
      have HRES : Hid ((gvTsO (gvT l) ps).bind (putT l j n s) = rr) := by show _ = _; rw [HVL.out, hrr]; rfl
      have HRR := Lib.hid hrr
      clear hrr
      go_upto_region 20 with fail
      obtain ⟨W4, hW4⟩ : ∃ W4, W4 = wr.alloc (.cells #[.int .i8 0, .int .i64 0, .string ⟨#[]⟩, .string ⟨#[]⟩, .slice none 0 0] 44) := ⟨_, rfl⟩
      obtain ⟨g4, hg4⟩ : ∃ g4, g4 = wr.heap.size := ⟨_, rfl⟩
      have b4 : Below wr.heap.size wr W4 := by rw [hW4]; exact (Below.refl _ _).alloc (Nat.le_refl _) _
      have r4 : W4.heap[g4]? = some (.cells #[.int .i8 0, .int .i64 0, .string ⟨#[]⟩, .string ⟨#[]⟩, .slice none 0 0] 44 (0, 0)) := by rw [hW4, hg4]; exact block_alloc _ _
      have z4 : W4.heap.size = g4 + 1 := by rw [hW4, hg4, World.size_alloc]
      have HR4 := Lib.hid r4
      have HB4 := Lib.hid b4
      have HZ4 := Lib.hid z4
      have HG4 := Lib.hid hg4
      have hx0 := (b4.block _ (heap_lt ((HB.out.block _ (heap_lt HG0.out)).trans HG0.out))).trans ((HB.out.block _ (heap_lt HG0.out)).trans HG0.out)
      have HX0 := Lib.hid hx0
      obtain ⟨p0, p1, p2, p3, p4⟩ := five_of hx0
      clear b4 r4 z4 x0 x1 x2 x3 x4 hx0
      go_upto_region 22 with fail
      rw [← hW4, ← hg4]
      clear hW4 hg4
      rcases HJ.out with hj | hj | hj
      · subst hj
        have HPT : Hid (rr = tupR vs) := by show _ = _; rw [HRR.out]; unfold putT; rfl
        have hck2 := rTuple_any (fun b => b < n0 ∨ (W2.heap.size ≤ b ∧ b < wr.heap.size)) vs PA pn pc W4 (fun b hb => by have := HB4.out.size; have := HNR.out; rcases hb with h | h <;> omega) (HTR.out.keep (fun b hb => HB4.out.block b (by have := HNR.out; rcases hb with h | h <;> omega)) (fun _ h => h)) (by rw [HLV.out]; exact hpl) HCK.out
        have HC := Lib.hid hck2
        clear hck2
        go_wp2_with fail
        refine HC.out.mono ?_
        rintro e V1 ⟨k9, A9, m9, c9, rfl, hT, b5⟩
        obtain ⟨ec, hec⟩ : ∃ ec, ec = madeE (Tm.pres vs).length := ⟨_, rfl⟩
        rw [← hec] at hT ⊢
        have HEC := Lib.hid (hec.trans (made_fit HCK.out))
        have hga := (b5.block _ (heap_lt HR4.out)).trans HR4.out
        have hS : Below wr.heap.size wr V1 := HB4.out.trans (b5.mono HB4.out.size)
        have hv : ∀ y, rr = some y → ec = 0 ∧ TmAt (fun b => (b < n0 ∨ (W2.heap.size ≤ b ∧ b < V1.heap.size)) ∧ b ≠ g4) V1 y (.agg #[.int .i8 k9, .int .i64 0, .string ⟨#[]⟩, .string ⟨#[]⟩, .slice A9 m9 c9]) := fun y hy => by
          rw [HPT.out] at hy
          unfold tupR at hy
          split at hy
          · rename_i hf
            cases hy
            have h0 : ec = 0 := HEC.out.trans hf
            refine ⟨h0, (hT h0).mono (fun q hq => ?_)⟩
            have := HNR.out; have := b5.size; have := HB.out.size; have := HZ4.out; have := HG4.out
            rcases hq with (h | h) | h
            · exact ⟨.inl h, by omega⟩
            · exact ⟨.inr ⟨by omega, by omega⟩, by omega⟩
            · exact ⟨.inr ⟨by omega, by omega⟩, by omega⟩
          · cases hy
        have hno : rr = none → ec ≠ 0 := fun h => by
          rw [HPT.out] at h
          unfold tupR at h
          split at h
          · cases h
          · rename_i hf; exact fun h0 => hf (HEC.out.symm.trans h0)
        obtain ⟨⟨z0, z1, z2, z3, z4⟩, zf0, zf1, zf2, zf3, zf4⟩ := five_fr hga
        obtain ⟨s5, m5⟩ := set_five (.int .i8 k9) (.int .i64 0) (.string ⟨#[]⟩) (.string ⟨#[]⟩) (.slice A9 m9 c9) hga
        have hpr := Lib.hid (pr_of HNR.out hS hga (by have := HG4.out; omega) hv hno s5 m5)
        clear hT hec b5 HC hv hno hS hga
        go_upto_region 32 with fail
        generalize ((((((V1).setCell ⟨g4, 0, none⟩ (.int .i8 k9)).setCell ⟨g4, 1, none⟩ (.int .i64 0)).setCell ⟨g4, 2, none⟩ (.string ⟨#[]⟩)).setCell ⟨g4, 3, none⟩ (.string ⟨#[]⟩)).setCell ⟨g4, 4, none⟩ (.slice A9 m9 c9)) = VX at s5 m5 hpr ⊢
        clear z0 zf0 z1 zf1 z2 zf2 z3 zf3 z4 zf4
        have HS5 := Lib.hid s5
        obtain ⟨W5, hW5⟩ : ∃ W5, W5 = VX := ⟨_, rfl⟩
        subst hW5
        have hg1 := (hpr.out.below.block _ (heap_lt HG1R.out)).trans HG1R.out
        have HBW5 := Lib.hid (HBW.out.trans (hpr.out.below.mono HBW.out.size))
        clear s5 m5
        obtain ⟨e0, e1, e2, e3, e4⟩ := five_of HS5.out
        obtain ⟨⟨r0, r1, r2, r3, r4⟩, rf0, rf1, rf2, rf3, rf4⟩ := five_fr hg1
        have S5 := Lib.hid (set_five (.int .i8 k9) (.int .i64 0) (.string ⟨#[]⟩) (.string ⟨#[]⟩) (.slice A9 m9 c9) hg1)
        go_wp2_with fail
        obtain ⟨s5, m5⟩ := S5.out
        generalize ((((((W5).setCell ⟨W.heap.size + 1, 0, none⟩ (.int .i8 k9)).setCell ⟨W.heap.size + 1, 1, none⟩ (.int .i64 0)).setCell ⟨W.heap.size + 1, 2, none⟩ (.string ⟨#[]⟩)).setCell ⟨W.heap.size + 1, 3, none⟩ (.string ⟨#[]⟩)).setCell ⟨W.heap.size + 1, 4, none⟩ (.slice A9 m9 c9)) = VX at s5 m5 ⊢
        obtain ⟨z0, z1, z2, z3, z4⟩ := five_of s5
        refine bodyPost_ret (v := .tuple #[.agg #[.int .i8 k9, .int .i64 0, .string ⟨#[]⟩, .string ⟨#[]⟩, .slice A9 m9 c9], .bool (ec == 0)]) (by simp [results, Tryz.f94, go_sem, z0, z1, z2, z3, z4]) rfl ?_
        have hec : (ec == 0) = rr.isSome := by
          obtain ⟨_, _, _, _, _, _, _, _, hv⟩ := hpr.out.at_
          cases hrr : rr with
          | none => simpa using hpr.out.no hrr
          | some y => rw [(hv y hrr).1]; rfl
        rw [HRES.out]
        refine ⟨_, _, _, _, _, _, _, by rw [hec], fun y hy => ?_, HBW5.out.trans (m5.below HBW5.out.size (fun k (e : k = _) => by omega))⟩
        obtain ⟨_, _, _, _, _, _, _, hcell, hv⟩ := hpr.out.at_
        have hty := (hv y hy).2
        rw [HS5.out] at hcell
        injection hcell with hcell
        injection hcell with hcell
        simp only [Array.mk.injEq, List.cons.injEq, and_true, Value.int.injEq, Value.string.injEq, Value.slice.injEq, true_and] at hcell
        obtain ⟨h1, h2, h3, h4, h5, h6, h7⟩ := hcell
        rw [← h1, ← h2, ← h3, ← h4, ← h5, ← h6, ← h7] at hty
        have q1 := HZ2.out; have q2 := HB.out.size; have q3 := hpr.out.below.size; have q4 := m5.size; have q5 := HN0.out
        exact hty.keep (fun b hb => m5.block b (by rcases hb with h | h <;> omega) (by rcases hb with h | h <;> omega)) (fun b hb => by rcases hb with h | h; (exact .inl h); (exact .inr ⟨by omega, by omega⟩))

      · obtain ⟨hj9, hl2⟩ := hj
        have hj := And.intro hj9 hl2
        subst hj9
        obtain ⟨a, b, hvs2⟩ := two_of (show vs.length = 2 by rw [HLV.out]; exact hj.2)
        have HV2 := Lib.hid hvs2
        have h2 := HTR.out
        rw [hvs2] at h2
        obtain ⟨pad, pu, hPA, hpb, hpE, hpT⟩ := h2.at_ 0 a rfl
        obtain ⟨pad', pu', hPA', hpb', hpE', hpT'⟩ := h2.at_ 1 b rfl
        obtain rfl : pad = pad' := by rw [hPA] at hPA'; exact Option.some.inj hPA'
        obtain ⟨pk, pnn, psn, ptn, pL, pA, pcap, hae, rfl⟩ : ∃ k' n' s' t' L' A' cap', a = Tm.mk k' n' s' t' L' ∧ pu = .agg #[.int .i8 k', .int .i64 n', .string s', .string t', .slice A' L'.length cap'] := by
          cases hpT; exact ⟨_, _, _, _, _, _, _, rfl, rfl⟩
        obtain ⟨qk, qnn, qsn, qtn, qL, qA, qcap, hbe, rfl⟩ : ∃ k' n' s' t' L' A' cap', b = Tm.mk k' n' s' t' L' ∧ pu' = .agg #[.int .i8 k', .int .i64 n', .string s', .string t', .slice A' L'.length cap'] := by
          cases hpT'; exact ⟨_, _, _, _, _, _, _, rfl, rfl⟩
        have hblt : pad.block < wr.heap.size := by have := HNR.out; rcases hpb with h | h <;> omega
        have HE0 : Hid (∀ V, Below wr.heap.size wr V → ElemAt V pad 0 (.agg #[.int .i8 pk, .int .i64 pnn, .string psn, .string ptn, .slice pA pL.length pcap])) := fun V hb => hpE.keep (hb.block _ hblt)
        have HE1 : Hid (∀ V, Below wr.heap.size wr V → ElemAt V pad 1 (.agg #[.int .i8 qk, .int .i64 qnn, .string qsn, .string qtn, .slice qA qL.length qcap])) := fun V hb => hpE'.keep (hb.block _ hblt)
        have HT0 := Lib.hid hpT
        have HT1 := Lib.hid hpT'
        have HPN2 : Hid (pn = 2) := by show _ = _; rw [HPN.out, HLV.out]; exact hj.2
        obtain rfl := HPN2.out
        subst hPA
        obtain ⟨pg, poff, po⟩ := pad
        have HPT : Hid (rr = consR vs) := by show _ = _; rw [HRR.out]; unfold putT; rfl
        clear hj hl2 h2 hPA' hpb hpb' hpE hpE' hpT hpT' hvs2 hblt
        go_upto_region 31 with fail
        refine wp_region_held (S := fun V => Below wr.heap.size wr V) (by kernel_rfl) ?_
        show wpAnyH _ _ _ _ _ _ _ _ W4.drew
        have hS : Below wr.heap.size wr W4.drew := HB4.out.trans ⟨rfl, rfl, rfl, Nat.le_refl _, fun _ _ => rfl⟩
        have hga : W4.drew.heap[g4]? = some (.cells #[.int .i8 0, .int .i64 0, .string ⟨#[]⟩, .string ⟨#[]⟩, .slice none 0 0] 44 (0, 0)) := HR4.out
        have hz4 : W4.drew.heap.size = g4 + 1 := HZ4.out
        generalize W4.drew = V0 at hS hga hz4 ⊢
        refine wpAnyH_take (i := 0) (oi := ⟨some 105, _, _, _, _, _⟩) (v := ?_) rfl (by kernel_rfl) (by kernel_rfl) (by kernel_rfl) (fun _ _ _ h => h) (Or.inl ⟨by kernel_rfl, ?_⟩) (by assumption) ?_; rotate_left; (intro VV hSw; (try dsimp only at hSw); go_simp; first | done | with_reducible rfl); (try simp only [Act.put, sI, sZ, sS])
        refine wpAnyH_take (i := 1) (oi := ⟨some 106, _, _, _, _, _⟩) (v := ?_) rfl (by kernel_rfl) (by kernel_rfl) (by kernel_rfl) (fun _ _ _ h => h) (Or.inl ⟨by kernel_rfl, ?_⟩) (by assumption) ?_; rotate_left; (intro VV hSw; (try dsimp only at hSw); go_simp; first | done | with_reducible rfl); (try simp only [Act.put, sI, sZ, sS])
        refine wpAnyH_take (i := 2) (oi := ⟨some 107, _, _, _, _, _⟩) (v := ?_) rfl (by kernel_rfl) (by kernel_rfl) (by kernel_rfl) (fun _ _ _ h => h) (Or.inl ⟨by kernel_rfl, ?_⟩) (by assumption) ?_; rotate_left; (intro VV hSw; (try dsimp only at hSw); obtain ⟨f0, f1, f2, f3, f4⟩ := elem_0 (HE0.out VV hSw); go_simp; first | done | with_reducible rfl); (try simp only [Act.put, sI, sZ, sS])
        refine wpAnyH_take (i := 3) (oi := ⟨some 108, _, _, _, _, _⟩) (v := ?_) rfl (by kernel_rfl) (by kernel_rfl) (by kernel_rfl) (fun _ _ _ h => h) (Or.inl ⟨by kernel_rfl, ?_⟩) (by assumption) ?_; rotate_left; (intro VV hSw; (try dsimp only at hSw); go_simp; first | done | with_reducible rfl); (try simp only [Act.put, sI, sZ, sS])
        refine wpAnyH_take (i := 4) (oi := ⟨some 109, _, _, _, _, _⟩) (v := ?_) rfl (by kernel_rfl) (by kernel_rfl) (by kernel_rfl) (fun _ _ _ h => h) (Or.inl ⟨by kernel_rfl, ?_⟩) (by assumption) ?_; rotate_left; (intro VV hSw; (try dsimp only at hSw); go_simp; first | done | with_reducible rfl); (try simp only [Act.put, sI, sZ, sS])
        refine wpAnyH_take (i := 5) (oi := ⟨some 110, _, _, _, _, _⟩) (v := ?_) rfl (by kernel_rfl) (by kernel_rfl) (by kernel_rfl) (fun _ _ _ h => h) (Or.inl ⟨by kernel_rfl, ?_⟩) (by assumption) ?_; rotate_left; (intro VV hSw; (try dsimp only at hSw); obtain ⟨f0, f1, f2, f3, f4⟩ := elem_1 (HE1.out VV hSw); go_simp; first | done | with_reducible rfl); (try simp only [Act.put, sI, sZ, sS])
        refine wpAnyH_ready (rs := [6]) (by kernel_rfl) (by simp) ?_
        refine AllReadyH.cons (o := ⟨some 111, _, _, _, _, _⟩) rfl (fun K hK => ?_) AllReadyH.nil
        · rw [if_pos (by rfl)]
          go_simp
          have hc0 := HCK.out a (by rw [HV2.out]; simp)
          have hc1 := HCK.out b (by rw [HV2.out]; simp)
          refine (rCons_any (fun b => b < n0 ∨ (W2.heap.size ≤ b ∧ b < wr.heap.size)) a b _ _ _ _ _ _ _ _ _ _ _ _ _ _ V0 (fun b hb => by have := hS.size; have := HNR.out; rcases hb with h | h <;> omega) (HT0.out.keep (fun b hb => hS.block b (by have := HNR.out; rcases hb with h | h <;> omega)) (fun _ h => h)) (HT1.out.keep (fun b hb => hS.block b (by have := HNR.out; rcases hb with h | h <;> omega)) (fun _ h => h)) ⟨hc0, hc1⟩).mono ?_
          rintro e V1 ⟨k9, A9, m9, c9, rfl, hT, b5⟩
          obtain ⟨ec, hec⟩ : ∃ ec, ec = madeE (Tm.pres [a, b]).length := ⟨_, rfl⟩
          rw [← hec] at hT ⊢
          have HEC := Lib.hid (hec.trans (made_fit (fun y hy => by rcases List.mem_cons.1 hy with rfl | hy; (exact hc0); (rcases List.mem_cons.1 hy with rfl | hy; (exact hc1); (cases hy)))))
          have hS1 : Below wr.heap.size wr V1 := hS.trans (b5.mono hS.size)
          have hga1 := (b5.block _ (heap_lt hga)).trans hga
          have hv : ∀ y, rr = some y → ec = 0 ∧ TmAt (fun b => (b < n0 ∨ (W2.heap.size ≤ b ∧ b < V1.heap.size)) ∧ b ≠ g4) V1 y (.agg #[.int .i8 k9, .int .i64 0, .string ⟨#[]⟩, .string ⟨#[]⟩, .slice A9 m9 c9]) := fun y hy => by
            rw [HPT.out, HV2.out] at hy
            unfold consR at hy
            dsimp only at hy
            split at hy
            · rename_i hf
              cases hy
              have h0 : ec = 0 := HEC.out.trans hf
              refine ⟨h0, (hT h0).mono (fun q hq => ?_)⟩
              have := HNR.out; have := b5.size; have := HB.out.size; have := hz4; have := HG4.out
              rcases hq with (h | h) | h
              · exact ⟨.inl h, by omega⟩
              · exact ⟨.inr ⟨by omega, by omega⟩, by omega⟩
              · exact ⟨.inr ⟨by omega, by omega⟩, by omega⟩
            · cases hy
          have hno : rr = none → ec ≠ 0 := fun h => by
            rw [HPT.out, HV2.out] at h
            unfold consR at h
            dsimp only at h
            split at h
            · cases h
            · rename_i hf; exact fun h0 => hf (HEC.out.symm.trans h0)
          clear hT hec b5 hc0 hc1
          refine hK.out _ _ hS1 (fun hSn => ?_)
          clear hK K hSn; (try simp only [Act.put, sI, sZ, sS])
          refine wpAnyH_take (i := 7) (oi := ⟨some 104, _, _, _, _, _⟩) (v := ?_) rfl (by kernel_rfl) (by kernel_rfl) (by kernel_rfl) (fun _ _ _ h => h) (Or.inl ⟨by kernel_rfl, ?_⟩) (by assumption) ?_; rotate_left; (intro VV hSw; (try dsimp only at hSw); go_simp; first | done | with_reducible rfl); (try simp only [Act.put, sI, sZ, sS])
          refine wpAnyH_take (i := 8) (oi := ⟨some 112, _, _, _, _, _⟩) (v := ?_) rfl (by kernel_rfl) (by kernel_rfl) (by kernel_rfl) (fun _ _ _ h => h) (Or.inl ⟨by kernel_rfl, ?_⟩) (by assumption) ?_; rotate_left; (intro VV hSw; (try dsimp only at hSw); go_simp; first | done | with_reducible rfl); (try simp only [Act.put, sI, sZ, sS])
          refine wpAnyH_take (i := 9) (oi := ⟨some 113, _, _, _, _, _⟩) (v := ?_) rfl (by kernel_rfl) (by kernel_rfl) (by kernel_rfl) (fun _ _ _ h => h) (Or.inl ⟨by kernel_rfl, ?_⟩) (by assumption) ?_; rotate_left; (intro VV hSw; (try dsimp only at hSw); go_simp; first | done | with_reducible rfl); (try simp only [Act.put, sI, sZ, sS])
          obtain ⟨⟨z0, z1, z2, z3, z4⟩, zf0, zf1, zf2, zf3, zf4⟩ := five_fr hga1
          obtain ⟨s5, m5⟩ := set_five (.int .i8 k9) (.int .i64 0) (.string ⟨#[]⟩) (.string ⟨#[]⟩) (.slice A9 m9 c9) hga1
          have hpr := Lib.hid (pr_of HNR.out hS1 hga1 (by have := HG4.out; omega) hv hno s5 m5)
          have hS9 := hpr.out.below
          refine wpAnyH_ready (rs := [10]) (by kernel_rfl) (by simp) ?_
          refine AllReadyH.cons (o := ⟨none, _, _, _, _, _⟩) rfl (fun K hK => ?_) AllReadyH.nil
          · rw [if_pos (by rfl)]
            go_simp
            generalize ((((((V1).setCell ⟨g4, 0, none⟩ (.int .i8 k9)).setCell ⟨g4, 1, none⟩ (.int .i64 0)).setCell ⟨g4, 2, none⟩ (.string ⟨#[]⟩)).setCell ⟨g4, 3, none⟩ (.string ⟨#[]⟩)).setCell ⟨g4, 4, none⟩ (.slice A9 m9 c9)) = VX at s5 m5 hpr hS9 ⊢
            refine hK.out _ _ hS9 (fun hSn => ?_)
            clear hK K hSn; (try simp only [Act.put, sI, sZ, sS])
            refine wpAnyH_take (i := 11) (oi := ⟨some 11, _, _, _, _, _⟩) (v := ?_) rfl (by kernel_rfl) (by kernel_rfl) (by kernel_rfl) (fun _ _ _ h => h) (Or.inl ⟨by kernel_rfl, ?_⟩) (by assumption) ?_; rotate_left; (intro VV hSw; (try dsimp only at hSw); go_simp; first | done | with_reducible rfl); (try simp only [Act.put, sI, sZ, sS])
            refine wpAnyH_done (by kernel_rfl) ?_ _
            clear z0 zf0 z1 zf1 z2 zf2 z3 zf3 z4 zf4
            have HS5 := Lib.hid s5
            obtain ⟨W5, hW5⟩ : ∃ W5, W5 = VX := ⟨_, rfl⟩
            subst hW5
            have hg1 := (hpr.out.below.block _ (heap_lt HG1R.out)).trans HG1R.out
            have HBW5 := Lib.hid (HBW.out.trans (hpr.out.below.mono HBW.out.size))
            clear s5 m5
            obtain ⟨e0, e1, e2, e3, e4⟩ := five_of HS5.out
            obtain ⟨⟨r0, r1, r2, r3, r4⟩, rf0, rf1, rf2, rf3, rf4⟩ := five_fr hg1
            have S5 := Lib.hid (set_five (.int .i8 k9) (.int .i64 0) (.string ⟨#[]⟩) (.string ⟨#[]⟩) (.slice A9 m9 c9) hg1)
            go_wp2_with fail
            obtain ⟨s5, m5⟩ := S5.out
            generalize ((((((W5).setCell ⟨W.heap.size + 1, 0, none⟩ (.int .i8 k9)).setCell ⟨W.heap.size + 1, 1, none⟩ (.int .i64 0)).setCell ⟨W.heap.size + 1, 2, none⟩ (.string ⟨#[]⟩)).setCell ⟨W.heap.size + 1, 3, none⟩ (.string ⟨#[]⟩)).setCell ⟨W.heap.size + 1, 4, none⟩ (.slice A9 m9 c9)) = VX at s5 m5 ⊢
            obtain ⟨z0, z1, z2, z3, z4⟩ := five_of s5
            refine bodyPost_ret (v := .tuple #[.agg #[.int .i8 k9, .int .i64 0, .string ⟨#[]⟩, .string ⟨#[]⟩, .slice A9 m9 c9], .bool (ec == 0)]) (by simp [results, Tryz.f94, go_sem, z0, z1, z2, z3, z4]) rfl ?_
            have hec : (ec == 0) = rr.isSome := by
              obtain ⟨_, _, _, _, _, _, _, _, hv⟩ := hpr.out.at_
              cases hrr : rr with
              | none => simpa using hpr.out.no hrr
              | some y => rw [(hv y hrr).1]; rfl
            rw [HRES.out]
            refine ⟨_, _, _, _, _, _, _, by rw [hec], fun y hy => ?_, HBW5.out.trans (m5.below HBW5.out.size (fun k (e : k = _) => by omega))⟩
            obtain ⟨_, _, _, _, _, _, _, hcell, hv⟩ := hpr.out.at_
            have hty := (hv y hy).2
            rw [HS5.out] at hcell
            injection hcell with hcell
            injection hcell with hcell
            simp only [Array.mk.injEq, List.cons.injEq, and_true, Value.int.injEq, Value.string.injEq, Value.slice.injEq, true_and] at hcell
            obtain ⟨h1, h2, h3, h4, h5, h6, h7⟩ := hcell
            rw [← h1, ← h2, ← h3, ← h4, ← h5, ← h6, ← h7] at hty
            have q1 := HZ2.out; have q2 := HB.out.size; have q3 := hpr.out.below.size; have q4 := m5.size; have q5 := HN0.out
            exact hty.keep (fun b hb => m5.block b (by rcases hb with h | h <;> omega) (by rcases hb with h | h <;> omega)) (fun b hb => by rcases hb with h | h; (exact .inl h); (exact .inr ⟨by omega, by omega⟩))
      · obtain ⟨hj9, hl2⟩ := hj
        have hj := And.intro hj9 hl2
        subst hj9
        obtain ⟨a, b, hvs2⟩ := two_of (show vs.length = 2 by rw [HLV.out]; exact hj.2)
        have HV2 := Lib.hid hvs2
        have h2 := HTR.out
        rw [hvs2] at h2
        obtain ⟨pad, pu, hPA, hpb, hpE, hpT⟩ := h2.at_ 0 a rfl
        obtain ⟨pad', pu', hPA', hpb', hpE', hpT'⟩ := h2.at_ 1 b rfl
        obtain rfl : pad = pad' := by rw [hPA] at hPA'; exact Option.some.inj hPA'
        obtain ⟨pk, pnn, psn, ptn, pL, pA, pcap, hae, rfl⟩ : ∃ k' n' s' t' L' A' cap', a = Tm.mk k' n' s' t' L' ∧ pu = .agg #[.int .i8 k', .int .i64 n', .string s', .string t', .slice A' L'.length cap'] := by
          cases hpT; exact ⟨_, _, _, _, _, _, _, rfl, rfl⟩
        obtain ⟨qk, qnn, qsn, qtn, qL, qA, qcap, hbe, rfl⟩ : ∃ k' n' s' t' L' A' cap', b = Tm.mk k' n' s' t' L' ∧ pu' = .agg #[.int .i8 k', .int .i64 n', .string s', .string t', .slice A' L'.length cap'] := by
          cases hpT'; exact ⟨_, _, _, _, _, _, _, rfl, rfl⟩
        have hblt : pad.block < wr.heap.size := by have := HNR.out; rcases hpb with h | h <;> omega
        have HE0 : Hid (∀ V, Below wr.heap.size wr V → ElemAt V pad 0 (.agg #[.int .i8 pk, .int .i64 pnn, .string psn, .string ptn, .slice pA pL.length pcap])) := fun V hb => hpE.keep (hb.block _ hblt)
        have HE1 : Hid (∀ V, Below wr.heap.size wr V → ElemAt V pad 1 (.agg #[.int .i8 qk, .int .i64 qnn, .string qsn, .string qtn, .slice qA qL.length qcap])) := fun V hb => hpE'.keep (hb.block _ hblt)
        have HT0 := Lib.hid hpT
        have HT1 := Lib.hid hpT'
        have HPN2 : Hid (pn = 2) := by show _ = _; rw [HPN.out, HLV.out]; exact hj.2
        obtain rfl := HPN2.out
        subst hPA
        obtain ⟨pg, poff, po⟩ := pad
        have HPT : Hid (rr = opR s vs) := by show _ = _; rw [HRR.out]; unfold putT; rfl
        clear hj hl2 h2 hPA' hpb hpb' hpE hpE' hpT hpT' hvs2 hblt
        obtain ⟨f0, f1, f2, f3, f4⟩ := elem_0 (HE0.out W4 HB4.out)
        obtain ⟨h0, h1, h2, h3, h4⟩ := elem_1 (HE1.out W4 HB4.out)
        subst hae hbe
        have HBW4 := Lib.hid (HBW.out.trans (HB4.out.mono HBW.out.size))
        have hgr := (HB4.out.block _ (heap_lt HG1R.out)).trans HG1R.out
        by_cases hk1 : pk = 0
        case neg =>
          have hk3 : (pk != 0) = true := by simpa using hk1
          have HNO : Hid (rr = none) := by show _ = _; rw [HPT.out, HV2.out]; unfold opR; dsimp only; rw [if_neg (fun h => hk1 h.1)]
          clear hk1 h0 h1 h2 h3 h4
          obtain ⟨⟨r0, r1, r2, r3, r4⟩, rf0, rf1, rf2, rf3, rf4⟩ := five_fr hgr
          have S5 := Lib.hid (set_five (.int .i8 0) (.int .i64 0) (.string ⟨#[]⟩) (.string ⟨#[]⟩) (.slice none 0 0) hgr)
          go_wp2_with fail
          obtain ⟨s5, m5⟩ := S5.out
          generalize ((((((W4).setCell ⟨W.heap.size + 1, 0, none⟩ (.int .i8 0)).setCell ⟨W.heap.size + 1, 1, none⟩ (.int .i64 0)).setCell ⟨W.heap.size + 1, 2, none⟩ (.string ⟨#[]⟩)).setCell ⟨W.heap.size + 1, 3, none⟩ (.string ⟨#[]⟩)).setCell ⟨W.heap.size + 1, 4, none⟩ (.slice none 0 0)) = VX at s5 m5 ⊢
          obtain ⟨z0, z1, z2, z3, z4⟩ := five_of s5
          refine bodyPost_ret (v := .tuple #[.agg #[.int .i8 0, .int .i64 0, .string ⟨#[]⟩, .string ⟨#[]⟩, .slice none 0 0], .bool false]) (by simp [results, Tryz.f94, go_sem, z0, z1, z2, z3, z4]) rfl ?_
          rw [HRES.out, HNO.out]
          exact ⟨_, _, _, _, _, _, _, rfl, (fun y hy => by cases hy), HBW4.out.trans (m5.below HBW4.out.size (fun k (e : k = _) => by omega))⟩
        by_cases hk2 : qk = 0
        case neg =>
          have hk3 : (pk != 0) = false := by simpa using hk1
          have hk4 : (qk != 0) = true := by simpa using hk2
          have HNO : Hid (rr = none) := by show _ = _; rw [HPT.out, HV2.out]; unfold opR; dsimp only; rw [if_neg (fun h => hk2 h.2.1)]
          clear hk1 hk2
          obtain ⟨⟨r0, r1, r2, r3, r4⟩, rf0, rf1, rf2, rf3, rf4⟩ := five_fr hgr
          have S5 := Lib.hid (set_five (.int .i8 0) (.int .i64 0) (.string ⟨#[]⟩) (.string ⟨#[]⟩) (.slice none 0 0) hgr)
          go_wp2_with fail
          obtain ⟨s5, m5⟩ := S5.out
          generalize ((((((W4).setCell ⟨W.heap.size + 1, 0, none⟩ (.int .i8 0)).setCell ⟨W.heap.size + 1, 1, none⟩ (.int .i64 0)).setCell ⟨W.heap.size + 1, 2, none⟩ (.string ⟨#[]⟩)).setCell ⟨W.heap.size + 1, 3, none⟩ (.string ⟨#[]⟩)).setCell ⟨W.heap.size + 1, 4, none⟩ (.slice none 0 0)) = VX at s5 m5 ⊢
          obtain ⟨z0, z1, z2, z3, z4⟩ := five_of s5
          refine bodyPost_ret (v := .tuple #[.agg #[.int .i8 0, .int .i64 0, .string ⟨#[]⟩, .string ⟨#[]⟩, .slice none 0 0], .bool false]) (by simp [results, Tryz.f94, go_sem, z0, z1, z2, z3, z4]) rfl ?_
          rw [HRES.out, HNO.out]
          exact ⟨_, _, _, _, _, _, _, rfl, (fun y hy => by cases hy), HBW4.out.trans (m5.below HBW4.out.size (fun k (e : k = _) => by omega))⟩
        subst hk1 hk2
        obtain ⟨dn, hdn⟩ : ∃ dn, dn = (doR s pnn qnn).1 := ⟨_, rfl⟩
        obtain ⟨ec, hec⟩ : ∃ ec, ec = (doR s pnn qnn).2 := ⟨_, rfl⟩
        have HOP : Hid (rr = if ec = 0 then some (intT dn) else none) := by
          show _ = _
          rw [HPT.out, HV2.out, hdn, hec]
          unfold opR
          dsimp only
          by_cases h : (doR s pnn qnn).2 = 0
          · rw [if_pos h, if_pos ⟨rfl, rfl, h⟩]; rfl
          · rw [if_neg h, if_neg (fun g => h g.2.2)]
        have HMY : Hid (ec = 0 → mayB dn = true) := fun h => by rw [hdn]; exact do_may11 (hec.symm.trans h)
        have HDN := Lib.hid hdn
        have HEC := Lib.hid hec
        clear hdn hec
        go_upto_region 26 with fail
        clear f0 f1 f2 f3 f4 h0 h1 h2 h3 h4 p0 p1 p2 p3 p4 hgr
        refine wp_region_held (S := fun V => Below wr.heap.size wr V ∧ V.heap[g4]? = some (.cells #[.int .i8 0, .int .i64 0, .string ⟨#[]⟩, .string ⟨#[]⟩, .slice none 0 0] 44 (0, 0))) (by kernel_rfl) ?_
        show wpAnyH _ _ _ _ _ _ _ _ W4.drew
        have hS : Below wr.heap.size wr W4.drew ∧ W4.drew.heap[g4]? = some (.cells #[.int .i8 0, .int .i64 0, .string ⟨#[]⟩, .string ⟨#[]⟩, .slice none 0 0] 44 (0, 0)) := ⟨HB4.out.trans ⟨rfl, rfl, rfl, Nat.le_refl _, fun _ _ => rfl⟩, HR4.out⟩
        generalize W4.drew = V0 at hS ⊢
        refine wpAnyH_take (i := 0) (oi := ⟨some 80, _, _, _, _, _⟩) (v := ?_) rfl (by kernel_rfl) (by kernel_rfl) (by kernel_rfl) (fun _ _ _ h => h) (Or.inl ⟨by kernel_rfl, ?_⟩) (by assumption) ?_; rotate_left; (intro VV hSw; (try dsimp only at hSw); go_simp; first | done | with_reducible rfl); (try simp only [Act.put, sI, sZ, sS])
        refine wpAnyH_take (i := 1) (oi := ⟨some 81, _, _, _, _, _⟩) (v := ?_) rfl (by kernel_rfl) (by kernel_rfl) (by kernel_rfl) (fun _ _ _ h => h) (Or.inl ⟨by kernel_rfl, ?_⟩) (by assumption) ?_; rotate_left; (intro VV hSw; (try dsimp only at hSw); have hr := (hSw.1.block _ (heap_lt ((HB.out.block _ (heap_lt HG0.out)).trans HG0.out))).trans ((HB.out.block _ (heap_lt HG0.out)).trans HG0.out); have y2 : VV.cell? ⟨W.heap.size, 2, none⟩ = some (.string s) := cell_of_row (i := 2) hr rfl; go_simp; first | done | with_reducible rfl); (try simp only [Act.put, sI, sZ, sS])
        refine wpAnyH_take (i := 2) (oi := ⟨some 82, _, _, _, _, _⟩) (v := ?_) rfl (by kernel_rfl) (by kernel_rfl) (by kernel_rfl) (fun _ _ _ h => h) (Or.inl ⟨by kernel_rfl, ?_⟩) (by assumption) ?_; rotate_left; (intro VV hSw; (try dsimp only at hSw); go_simp; first | done | with_reducible rfl); (try simp only [Act.put, sI, sZ, sS])
        refine wpAnyH_take (i := 3) (oi := ⟨some 83, _, _, _, _, _⟩) (v := ?_) rfl (by kernel_rfl) (by kernel_rfl) (by kernel_rfl) (fun _ _ _ h => h) (Or.inl ⟨by kernel_rfl, ?_⟩) (by assumption) ?_; rotate_left; (intro VV hSw; (try dsimp only at hSw); go_simp; first | done | with_reducible rfl); (try simp only [Act.put, sI, sZ, sS])
        refine wpAnyH_take (i := 4) (oi := ⟨some 84, _, _, _, _, _⟩) (v := ?_) rfl (by kernel_rfl) (by kernel_rfl) (by kernel_rfl) (fun _ _ _ h => h) (Or.inl ⟨by kernel_rfl, ?_⟩) (by assumption) ?_; rotate_left; (intro VV hSw; (try dsimp only at hSw); go_simp; first | done | with_reducible rfl); (try simp only [Act.put, sI, sZ, sS])
        refine wpAnyH_take (i := 5) (oi := ⟨some 85, _, _, _, _, _⟩) (v := ?_) rfl (by kernel_rfl) (by kernel_rfl) (by kernel_rfl) (fun _ _ _ h => h) (Or.inl ⟨by kernel_rfl, ?_⟩) (by assumption) ?_; rotate_left; (intro VV hSw; (try dsimp only at hSw); obtain ⟨f0, f1, f2, f3, f4⟩ := elem_0 (HE0.out VV hSw.1); go_simp; first | done | with_reducible rfl); (try simp only [Act.put, sI, sZ, sS])
        refine wpAnyH_take (i := 6) (oi := ⟨some 86, _, _, _, _, _⟩) (v := ?_) rfl (by kernel_rfl) (by kernel_rfl) (by kernel_rfl) (fun _ _ _ h => h) (Or.inl ⟨by kernel_rfl, ?_⟩) (by assumption) ?_; rotate_left; (intro VV hSw; (try dsimp only at hSw); go_simp; first | done | with_reducible rfl); (try simp only [Act.put, sI, sZ, sS])
        refine wpAnyH_take (i := 7) (oi := ⟨some 87, _, _, _, _, _⟩) (v := ?_) rfl (by kernel_rfl) (by kernel_rfl) (by kernel_rfl) (fun _ _ _ h => h) (Or.inl ⟨by kernel_rfl, ?_⟩) (by assumption) ?_; rotate_left; (intro VV hSw; (try dsimp only at hSw); go_simp; first | done | with_reducible rfl); (try simp only [Act.put, sI, sZ, sS])
        refine wpAnyH_take (i := 8) (oi := ⟨some 88, _, _, _, _, _⟩) (v := ?_) rfl (by kernel_rfl) (by kernel_rfl) (by kernel_rfl) (fun _ _ _ h => h) (Or.inl ⟨by kernel_rfl, ?_⟩) (by assumption) ?_; rotate_left; (intro VV hSw; (try dsimp only at hSw); go_simp; first | done | with_reducible rfl); (try simp only [Act.put, sI, sZ, sS])
        refine wpAnyH_take (i := 9) (oi := ⟨some 89, _, _, _, _, _⟩) (v := ?_) rfl (by kernel_rfl) (by kernel_rfl) (by kernel_rfl) (fun _ _ _ h => h) (Or.inl ⟨by kernel_rfl, ?_⟩) (by assumption) ?_; rotate_left; (intro VV hSw; (try dsimp only at hSw); obtain ⟨f0, f1, f2, f3, f4⟩ := elem_1 (HE1.out VV hSw.1); go_simp; first | done | with_reducible rfl); (try simp only [Act.put, sI, sZ, sS])
        refine wpAnyH_ready (rs := [10]) (by kernel_rfl) (by simp) ?_
        refine AllReadyH.cons (o := ⟨some 90, _, _, _, _, _⟩) rfl (fun K hK => ?_) AllReadyH.nil
        · rw [if_pos (by rfl)]
          go_simp
          refine (rDo_any s pnn qnn V0).mono ?_
          rintro e V1 ⟨rfl, hq⟩
          subst hq
          rw [← HDN.out, ← HEC.out]
          refine hK.out _ _ hS (fun hSn => ?_)
          clear hK K hSn; (try simp only [Act.put, sI, sZ, sS])
          refine wpAnyH_take (i := 11) (oi := ⟨some 79, _, _, _, _, _⟩) (v := ?_) rfl (by kernel_rfl) (by kernel_rfl) (by kernel_rfl) (fun _ _ _ h => h) (Or.inl ⟨by kernel_rfl, ?_⟩) (by assumption) ?_; rotate_left; (intro VV hSw; (try dsimp only at hSw); go_simp; first | done | with_reducible rfl); (try simp only [Act.put, sI, sZ, sS])
          refine wpAnyH_take (i := 12) (oi := ⟨some 91, _, _, _, _, _⟩) (v := ?_) rfl (by kernel_rfl) (by kernel_rfl) (by kernel_rfl) (fun _ _ _ h => h) (Or.inl ⟨by kernel_rfl, ?_⟩) (by assumption) ?_; rotate_left; (intro VV hSw; (try dsimp only at hSw); go_simp; first | done | with_reducible rfl); (try simp only [Act.put, sI, sZ, sS])
          refine wpAnyH_take (i := 13) (oi := ⟨some 92, _, _, _, _, _⟩) (v := ?_) rfl (by kernel_rfl) (by kernel_rfl) (by kernel_rfl) (fun _ _ _ h => h) (Or.inl ⟨by kernel_rfl, ?_⟩) (by assumption) ?_; rotate_left; (intro VV hSw; (try dsimp only at hSw); go_simp; first | done | with_reducible rfl); (try simp only [Act.put, sI, sZ, sS])
          refine wpAnyH_take (i := 14) (oi := ⟨some 12, _, _, _, _, _⟩) (v := ?_) rfl (by kernel_rfl) (by kernel_rfl) (by kernel_rfl) (fun _ _ _ h => h) (Or.inl ⟨by kernel_rfl, ?_⟩) (by assumption) ?_; rotate_left; (intro VV hSw; (try dsimp only at hSw); go_simp; first | done | with_reducible rfl); (try simp only [Act.put, sI, sZ, sS])
          refine wpAnyH_take (i := 15) (oi := ⟨some 11, _, _, _, _, _⟩) (v := ?_) rfl (by kernel_rfl) (by kernel_rfl) (by kernel_rfl) (fun _ _ _ h => h) (Or.inl ⟨by kernel_rfl, ?_⟩) (by assumption) ?_; rotate_left; (intro VV hSw; (try dsimp only at hSw); go_simp; first | done | with_reducible rfl); (try simp only [Act.put, sI, sZ, sS])
          refine wpAnyH_done (by kernel_rfl) ?_ _
          have HS := Lib.hid hS
          clear hS
          go_wp2_with fail
          refine (rInt_any dn V0).mono ?_
          rintro e V1 ⟨rfl, b5⟩
          have hga := (b5.block _ (heap_lt HS.out.2)).trans HS.out.2
          have hS1 : Below wr.heap.size wr V1 := HS.out.1.trans (b5.mono HS.out.1.size)
          have hv : ∀ y, rr = some y → ec = 0 ∧ TmAt (fun b => (b < n0 ∨ (W2.heap.size ≤ b ∧ b < V1.heap.size)) ∧ b ≠ g4) V1 y (.agg #[.int .i8 0, .int .i64 dn, .string ⟨#[]⟩, .string ⟨#[]⟩, .slice none 0 0]) := fun y hy => by
            rw [HOP.out] at hy
            by_cases h : ec = 0
            · rw [if_pos h] at hy
              cases hy
              have hm := HMY.out h
              unfold mayB at hm
              simp only [decide_eq_true_eq] at hm
              exact ⟨h, TmAt.of_row (.nil _ _ none 0) (by decide) (by omega) (by decide) (by decide)⟩
            · rw [if_neg h] at hy; cases hy
          have hno : rr = none → ec ≠ 0 := fun h g => by rw [HOP.out, if_pos g] at h; cases h
          obtain ⟨⟨z0, z1, z2, z3, z4⟩, zf0, zf1, zf2, zf3, zf4⟩ := five_fr hga
          obtain ⟨s5, m5⟩ := set_five (.int .i8 0) (.int .i64 dn) (.string ⟨#[]⟩) (.string ⟨#[]⟩) (.slice none 0 0) hga
          have hpr := Lib.hid (pr_of HNR.out hS1 hga (by have := HG4.out; omega) hv hno s5 m5)
          clear b5 hv hno hS1 hga
          go_upto_region 32 with fail
          generalize ((((((V1).setCell ⟨g4, 0, none⟩ (.int .i8 0)).setCell ⟨g4, 1, none⟩ (.int .i64 dn)).setCell ⟨g4, 2, none⟩ (.string ⟨#[]⟩)).setCell ⟨g4, 3, none⟩ (.string ⟨#[]⟩)).setCell ⟨g4, 4, none⟩ (.slice none 0 0)) = VX at s5 m5 hpr ⊢
          clear z0 zf0 z1 zf1 z2 zf2 z3 zf3 z4 zf4
          have HS5 := Lib.hid s5
          obtain ⟨W5, hW5⟩ : ∃ W5, W5 = VX := ⟨_, rfl⟩
          subst hW5
          have hg1 := (hpr.out.below.block _ (heap_lt HG1R.out)).trans HG1R.out
          have HBW5 := Lib.hid (HBW.out.trans (hpr.out.below.mono HBW.out.size))
          clear s5 m5
          obtain ⟨e0, e1, e2, e3, e4⟩ := five_of HS5.out
          obtain ⟨⟨r0, r1, r2, r3, r4⟩, rf0, rf1, rf2, rf3, rf4⟩ := five_fr hg1
          have S5 := Lib.hid (set_five (.int .i8 0) (.int .i64 dn) (.string ⟨#[]⟩) (.string ⟨#[]⟩) (.slice none 0 0) hg1)
          go_wp2_with fail
          obtain ⟨s5, m5⟩ := S5.out
          generalize ((((((W5).setCell ⟨W.heap.size + 1, 0, none⟩ (.int .i8 0)).setCell ⟨W.heap.size + 1, 1, none⟩ (.int .i64 dn)).setCell ⟨W.heap.size + 1, 2, none⟩ (.string ⟨#[]⟩)).setCell ⟨W.heap.size + 1, 3, none⟩ (.string ⟨#[]⟩)).setCell ⟨W.heap.size + 1, 4, none⟩ (.slice none 0 0)) = VX at s5 m5 ⊢
          obtain ⟨z0, z1, z2, z3, z4⟩ := five_of s5
          refine bodyPost_ret (v := .tuple #[.agg #[.int .i8 0, .int .i64 dn, .string ⟨#[]⟩, .string ⟨#[]⟩, .slice none 0 0], .bool (ec == 0)]) (by simp [results, Tryz.f94, go_sem, z0, z1, z2, z3, z4]) rfl ?_
          have hec : (ec == 0) = rr.isSome := by
            obtain ⟨_, _, _, _, _, _, _, _, hv⟩ := hpr.out.at_
            cases hrr : rr with
            | none => simpa using hpr.out.no hrr
            | some y => rw [(hv y hrr).1]; rfl
          rw [HRES.out]
          refine ⟨_, _, _, _, _, _, _, by rw [hec], fun y hy => ?_, HBW5.out.trans (m5.below HBW5.out.size (fun k (e : k = _) => by omega))⟩
          obtain ⟨_, _, _, _, _, _, _, hcell, hv⟩ := hpr.out.at_
          have hty := (hv y hy).2
          rw [HS5.out] at hcell
          injection hcell with hcell
          injection hcell with hcell
          simp only [Array.mk.injEq, List.cons.injEq, and_true, Value.int.injEq, Value.string.injEq, Value.slice.injEq, true_and] at hcell
          obtain ⟨h1, h2, h3, h4, h5, h6, h7⟩ := hcell
          rw [← h1, ← h2, ← h3, ← h4, ← h5, ← h6, ← h7] at hty
          have q1 := HZ2.out; have q2 := HB.out.size; have q3 := hpr.out.below.size; have q4 := m5.size; have q5 := HN0.out
          exact hty.keep (fun b hb => m5.block b (by rcases hb with h | h <;> omega) (by rcases hb with h | h <;> omega)) (fun b hb => by rcases hb with h | h; (exact .inl h); (exact .inr ⟨by omega, by omega⟩))

theorem rval_any (n0 n1 : Nat) (l : List Bd) (hM : mayL l = true) (x : Tm) : guaB x = true → x.nodes ≤ 100000 → ∀ v A m cap V, BRT n0 n1 V A m cap l → n1 ≤ V.heap.size → TmAt (· < V.heap.size) V x v →
    Calls Tryz.prog 94 #[v, .slice A m cap] V (RValP (gvT l x) n0 V) := by
  induction x using Tm.ind with
  | h k n s t ps ih =>
    intro hg hn v A m cap W hR hn1 hT
    have hnn : (Tm.pres ps).length + 1 ≤ 100000 := by rw [Tm.nodes_mk] at hn; exact hn
    have hpl : ps.length ≤ 100000 := by have := len_pres11 ps; omega
    have ih' : ∀ {ps' : List Tm}, ps' = ps → (∀ y ∈ ps, guaB y = true) → ∀ y ∈ ps, ∀ v A m cap V, BRT n0 n1 V A m cap l → n1 ≤ V.heap.size → TmAt (· < V.heap.size) V y v → Calls Tryz.prog 94 #[v, .slice A m cap] V (RValP (gvT l y) n0 V) := fun _ hgp y hy => ih y hy (hgp y hy) (by have := Tm.nodes_mem hy; rw [Tm.nodes_mk] at hn; omega)
    rw [gvT_mk]
    rcases gua_cases hg with ⟨hk, rfl⟩ | ⟨rfl, hgp⟩ | ⟨rfl, h2, hgp⟩ | ⟨rfl, h2, hgp⟩
    · obtain ⟨NA, nc, rfl, hRN, hk1, hn0, hs0, ht0⟩ := hT.parts
      exact rval_leaf n0 n1 l k n s t hk NA _ nc A m cap W hn0 hs0 hR hn1
    · exact rval_part n0 n1 l hM 10 n s t ps (.inl rfl) hgp (ih' rfl hgp) hpl v A m cap W hR hn1 hT
    · exact rval_part n0 n1 l hM 9 n s t ps (.inr (.inl ⟨rfl, h2⟩)) hgp (ih' rfl hgp) hpl v A m cap W hR hn1 hT
    · exact rval_part n0 n1 l hM 11 n s t ps (.inr (.inr ⟨rfl, h2⟩)) hgp (ih' rfl hgp) hpl v A m cap W hR hn1 hT
end Go.Proofs.YtkceoiaaiaomoaaGreatDoor
