/- Layer 11: the document's own Guarded and Test of trees; its kind, test, Test, Holds, Value. -/
import Derived.Test.YtkceoiaaiaomoaaGreatDoorKGd21
import Derived.Test.YtkceoiaaiaomoaaGreatDoorKGd16
set_option linter.unusedVariables false
set_option linter.unusedSimpArgs false
namespace Go.Proofs.YtkceoiaaiaomoaaGreatDoor
open Go.RowKit
set_option maxHeartbeats 2000000 in
set_option maxRecDepth 100000 in
theorem rGuarded_any (x : Tm) (v : Value) (w : World) (hT : TmAt (· < w.heap.size) w x v) :
    Calls Tryz.prog 92 #[v] w fun e w' => e = .returned (.bool (fitsB x && guaB x)) ∧ Below w.heap.size w w' := by
  obtain ⟨k, n, s, t, A, m, c, rfl⟩ : ∃ k n s t A m c, v = .agg #[.int .i8 k, .int .i64 n, .string s, .string t, .slice A m c] := by cases hT; exact ⟨_, _, _, _, _, _, _, rfl⟩
  obtain ⟨w1, hw1⟩ : ∃ w1, w1 = w.alloc (.cells #[.int .i8 k, .int .i64 n, .string s, .string t, .slice A m c] 25) := ⟨_, rfl⟩
  have b1 : Below w.heap.size w w1 := by rw [hw1]; exact (Below.refl _ w).alloc (Nat.le_refl _) _
  have HG : Hid (w1.heap[w.heap.size]? = some (.cells #[.int .i8 k, .int .i64 n, .string s, .string t, .slice A m c] 25 (0, 0))) := Lib.hid (by rw [hw1]; exact block_alloc _ _)
  have HT := Lib.hid (hT.laterN b1)
  have HB := Lib.hid b1
  have gx := HG.out
  obtain ⟨x0, x1, x2, x3, x4⟩ := five_of gx
  clear gx hT b1
  go_enter Tryz.func92, Tryz.ntmps92
  go_upto_region 1 with fail
  rw [← hw1]
  clear hw1
  go_wp2_with fail
  refine (rFits_any x _ w1 HT.out).mono ?_
  rintro e w2 ⟨rfl, b2⟩
  have HB2 := Lib.hid (HB.out.trans (b2.mono HB.out.size))
  have HT2 := Lib.hid (HT.out.laterN b2)
  have gx := (b2.block _ (heap_lt HG.out)).trans HG.out
  clear x0 x1 x2 x3 x4 b2
  obtain ⟨x0, x1, x2, x3, x4⟩ := five_of gx
  clear gx
  cases hf : fitsB x with
  | false =>
    have HF : Hid ((fitsB x && guaB x) = false) := Lib.hid (by rw [hf]; rfl)
    go_wp2_with fail
    go_ret
    exact ⟨by rw [HF.out]; rfl, HB2.out⟩
  | true =>
    have HF : Hid ((fitsB x && guaB x) = guaB x) := Lib.hid (by rw [hf]; rfl)
    clear hf
    go_wp2_with fail
    refine (rguarded_any x _ w2 HT2.out).mono ?_
    rintro e w3 ⟨rfl, b3⟩
    have HB3 := Lib.hid (HB2.out.trans (b3.mono HB2.out.size))
    clear b3
    go_wp2_with fail
    go_ret
    exact ⟨by rw [HF.out]; rfl, HB3.out⟩

set_option maxHeartbeats 2000000 in
set_option maxRecDepth 100000 in
theorem rTest7_any (x : Tm) (v : Value) (w : World) (hT : TmAt (· < w.heap.size) w x v) :
    Calls Tryz.prog 99 #[v] w fun e w' => e = .returned (.bool (fitsB x && testB x)) ∧ Below w.heap.size w w' := by
  obtain ⟨k, n, s, t, A, m, c, rfl⟩ : ∃ k n s t A m c, v = .agg #[.int .i8 k, .int .i64 n, .string s, .string t, .slice A m c] := by cases hT; exact ⟨_, _, _, _, _, _, _, rfl⟩
  obtain ⟨w1, hw1⟩ : ∃ w1, w1 = w.alloc (.cells #[.int .i8 k, .int .i64 n, .string s, .string t, .slice A m c] 25) := ⟨_, rfl⟩
  have b1 : Below w.heap.size w w1 := by rw [hw1]; exact (Below.refl _ w).alloc (Nat.le_refl _) _
  have HG : Hid (w1.heap[w.heap.size]? = some (.cells #[.int .i8 k, .int .i64 n, .string s, .string t, .slice A m c] 25 (0, 0))) := Lib.hid (by rw [hw1]; exact block_alloc _ _)
  have HT := Lib.hid (hT.laterN b1)
  have HB := Lib.hid b1
  have gx := HG.out
  obtain ⟨x0, x1, x2, x3, x4⟩ := five_of gx
  clear gx hT b1
  go_enter Tryz.func99, Tryz.ntmps99
  go_upto_region 1 with fail
  rw [← hw1]
  clear hw1
  go_wp2_with fail
  refine (rFits_any x _ w1 HT.out).mono ?_
  rintro e w2 ⟨rfl, b2⟩
  have HB2 := Lib.hid (HB.out.trans (b2.mono HB.out.size))
  have HT2 := Lib.hid (HT.out.laterN b2)
  have gx := (b2.block _ (heap_lt HG.out)).trans HG.out
  clear x0 x1 x2 x3 x4 b2
  obtain ⟨x0, x1, x2, x3, x4⟩ := five_of gx
  clear gx
  cases hf : fitsB x with
  | false =>
    have HF : Hid ((fitsB x && testB x) = false) := Lib.hid (by rw [hf]; rfl)
    go_wp2_with fail
    go_ret
    exact ⟨by rw [HF.out]; rfl, HB2.out⟩
  | true =>
    have HF : Hid ((fitsB x && testB x) = testB x) := Lib.hid (by rw [hf]; rfl)
    clear hf
    go_wp2_with fail
    refine (rtest_any x _ w2 HT2.out).mono ?_
    rintro e w3 ⟨rfl, b3⟩
    have HB3 := Lib.hid (HB2.out.trans (b3.mono HB2.out.size))
    clear b3
    go_wp2_with fail
    go_ret
    exact ⟨by rw [HF.out]; rfl, HB3.out⟩

theorem kind_all (p : Int → Bool) (s : ByteArray) (h : ∀ j : Nat, j < 8 → p (j : Int) = ((kw j).data.toList == s.data.toList)) (k : Int) (hk : 0 ≤ k ∧ k < 8) : p k = ((kw k.toNat).toList == s.toList) := by
  obtain ⟨j, rfl⟩ : ∃ j : Nat, k = (j : Int) := ⟨k.toNat, by omega⟩
  rw [ByteArray.toList_eq, ByteArray.toList_eq, h j (by omega)]
  rfl
theorem any_of {s : ByteArray} {l : List UInt8} (h : (s.data.toList == l) = true) : s = ⟨l.toArray⟩ := ByteArray.ext (Array.toList_inj.1 (eq_of_beq h))
set_option maxHeartbeats 4000000 in
set_option maxRecDepth 100000 in
theorem rkind_any (s : ByteArray) (hs : kindB s = true) (k n : Int) (s9 t9 : ByteArray) (A9 : Option Addr) (m9 c9 : Nat) (hk : 0 ≤ k ∧ k < 8) (w : World) :
    Calls Tryz.prog 164 #[.string s, .agg #[.int .i8 k, .int .i64 n, .string s9, .string t9, .slice A9 m9 c9]] w fun e w' => e = .returned (.bool ((kw k.toNat).toList == s.toList)) ∧ Below w.heap.size w w' := by
  have HK := Lib.hid hk
  clear hk
  unfold kindB at hs
  simp only [List.any_cons, List.any_nil, Bool.or_false, Bool.or_eq_true] at hs
  rcases hs with h | h | h | h | h | h | h
  · obtain rfl := any_of h
    clear h
    have HP := Lib.hid (kind_all (fun k => k == 1) ⟨List.toArray [105, 115, 95, 97, 116, 111, 109]⟩ (by decide) k HK.out)
    rw [← HP.out]
    have hb := (Below.refl _ w).alloc (Nat.le_refl _) (.cells #[.int .i8 k, .int .i64 n, .string s9, .string t9, .slice A9 m9 c9] 44)
    go_enter Tryz.func164, Tryz.ntmps164
    go_wp2_with fail
    go_ret
    exact ⟨rfl, hb⟩
  · obtain rfl := any_of h
    clear h
    have HP := Lib.hid (kind_all (fun k => k == 0) ⟨List.toArray [105, 115, 95, 105, 110, 116, 101, 103, 101, 114]⟩ (by decide) k HK.out)
    rw [← HP.out]
    have hb := (Below.refl _ w).alloc (Nat.le_refl _) (.cells #[.int .i8 k, .int .i64 n, .string s9, .string t9, .slice A9 m9 c9] 44)
    go_enter Tryz.func164, Tryz.ntmps164
    go_wp2_with fail
    go_ret
    exact ⟨rfl, hb⟩
  · obtain rfl := any_of h
    clear h
    have HP := Lib.hid (kind_all (fun k => k == 4) ⟨List.toArray [105, 115, 95, 112, 105, 100]⟩ (by decide) k HK.out)
    rw [← HP.out]
    have hb := (Below.refl _ w).alloc (Nat.le_refl _) (.cells #[.int .i8 k, .int .i64 n, .string s9, .string t9, .slice A9 m9 c9] 44)
    go_enter Tryz.func164, Tryz.ntmps164
    go_wp2_with fail
    go_ret
    exact ⟨rfl, hb⟩
  · obtain rfl := any_of h
    clear h
    have HP := Lib.hid (kind_all (fun k => k == 2) ⟨List.toArray [105, 115, 95, 114, 101, 102, 101, 114, 101, 110, 99, 101]⟩ (by decide) k HK.out)
    rw [← HP.out]
    have hb := (Below.refl _ w).alloc (Nat.le_refl _) (.cells #[.int .i8 k, .int .i64 n, .string s9, .string t9, .slice A9 m9 c9] 44)
    go_enter Tryz.func164, Tryz.ntmps164
    go_wp2_with fail
    go_ret
    exact ⟨rfl, hb⟩
  · obtain rfl := any_of h
    clear h
    have HP := Lib.hid (kind_all (fun k => k == 5) ⟨List.toArray [105, 115, 95, 116, 117, 112, 108, 101]⟩ (by decide) k HK.out)
    rw [← HP.out]
    have hb := (Below.refl _ w).alloc (Nat.le_refl _) (.cells #[.int .i8 k, .int .i64 n, .string s9, .string t9, .slice A9 m9 c9] 44)
    go_enter Tryz.func164, Tryz.ntmps164
    go_wp2_with fail
    go_ret
    exact ⟨rfl, hb⟩
  · obtain rfl := any_of h
    clear h
    have HP := Lib.hid (kind_all (fun k => k == 6 || k == 7) ⟨List.toArray [105, 115, 95, 108, 105, 115, 116]⟩ (by decide) k HK.out)
    rw [← HP.out]
    have hb := (Below.refl _ w).alloc (Nat.le_refl _) (.cells #[.int .i8 k, .int .i64 n, .string s9, .string t9, .slice A9 m9 c9] 44)
    cases h6 : (k == 6)
    · go_enter Tryz.func164, Tryz.ntmps164
      go_wp2_with fail
      go_ret
      exact ⟨rfl, hb⟩
    · go_enter Tryz.func164, Tryz.ntmps164
      go_wp2_with fail
      go_ret
      exact ⟨rfl, hb⟩
  · obtain rfl := any_of h
    clear h
    have HP := Lib.hid (kind_all (fun k => k == 3) ⟨List.toArray [105, 115, 95, 102, 117, 110, 99, 116, 105, 111, 110]⟩ (by decide) k HK.out)
    rw [← HP.out]
    have hb := (Below.refl _ w).alloc (Nat.le_refl _) (.cells #[.int .i8 k, .int .i64 n, .string s9, .string t9, .slice A9 m9 c9] 44)
    go_enter Tryz.func164, Tryz.ntmps164
    go_wp2_with fail
    go_ret
    exact ⟨rfl, hb⟩
theorem test_kind11 {n : Int} {s t : ByteArray} {ps : List Tm} (h : testB (.mk 12 n s t ps) = true) : kindB s = true := by
  simp only [testB, Bool.or_eq_true, Bool.and_eq_true, beq_iff_eq] at h
  rcases h.1.1.1 with h | h
  · exact absurd h.1.1 (by decide)
  · exact h.1.2
theorem tm_kind {P : Nat → Prop} {w : World} {y : Tm} {k n : Int} {s t : ByteArray} {A : Option Addr} {m c : Nat} (h : TmAt P w y (.agg #[.int .i8 k, .int .i64 n, .string s, .string t, .slice A m c])) : k = y.k := by
  cases y
  obtain ⟨_, _, he, _⟩ := h.parts
  simp only [Value.agg.injEq, Array.mk.injEq, List.cons.injEq, Value.int.injEq, true_and] at he
  exact he.1
set_option maxHeartbeats 8000000 in
set_option maxRecDepth 100000 in
theorem rtst_is (n0 n1 : Nat) (l : List Bd) (hM : mayL l = true) (n : Int) (s t : ByteArray) (a : Tm) (hga : guaB a = true) (hks : kindB s = true) (hna : a.nodes ≤ 100000) (v : Value) (A : Option Addr) (m cap : Nat) (W : World) (hR : BRT n0 n1 W A m cap l) (hn1 : n1 ≤ W.heap.size) (hT : TmAt (· < W.heap.size) W (.mk 12 n s t [a]) v) :
    Calls Tryz.prog 100 #[v, .slice A m cap] W fun e w' => e = .returned (.bool (isR l s a)) ∧ Below W.heap.size W w' := by
  obtain ⟨NA, nc, rfl, hRN, -⟩ := hT.parts
  obtain ⟨⟨pg, poff, po⟩, pu, rfl, hpb, hpE, hpT⟩ := hRN.at_ 0 a rfl
  obtain ⟨ak, an, asx, at_, aL, aA, ac, hae, rfl⟩ : ∃ k' n' s' t' L' A' cap', a = Tm.mk k' n' s' t' L' ∧ pu = .agg #[.int .i8 k', .int .i64 n', .string s', .string t', .slice A' L'.length cap'] := by
    cases hpT; exact ⟨_, _, _, _, _, _, _, rfl, rfl⟩
  obtain ⟨w1, hw1⟩ : ∃ w1, w1 = W.alloc (.cells #[.int .i8 12, .int .i64 n, .string s, .string t, .slice (some ⟨pg, poff, po⟩) 1 nc] 25) := ⟨_, rfl⟩
  have b1 : Below W.heap.size W w1 := by rw [hw1]; exact (Below.refl _ W).alloc (Nat.le_refl _) _
  have HG : Hid (w1.heap[W.heap.size]? = some (.cells #[.int .i8 12, .int .i64 n, .string s, .string t, .slice (some ⟨pg, poff, po⟩) 1 nc] 25 (0, 0))) := Lib.hid (by rw [hw1]; exact block_alloc _ _)
  have HB1 := Lib.hid b1
  have HM := Lib.hid hM
  have HE0 : Hid (∀ V, Below W.heap.size W V → ElemAt V ⟨pg, poff, po⟩ 0 (.agg #[.int .i8 ak, .int .i64 an, .string asx, .string at_, .slice aA aL.length ac])) := fun V hb => hpE.keep (hb.block _ hpb)
  have HC := Lib.hid (rval_any n0 n1 l hM a hga hna _ A m cap w1 (hR.under b1 hn1) (Nat.le_trans hn1 b1.size) (hpT.laterN b1))
  have HKS := Lib.hid hks
  have HN0 : Hid (n0 ≤ W.heap.size) := Nat.le_trans hR.le hn1
  have gx := HG.out
  obtain ⟨x0, x1, x2, x3, x4⟩ := five_of gx
  obtain ⟨e0, e1, e2, e3, e4⟩ := elem_0 (HE0.out w1 HB1.out)
  clear gx b1 hR hn1 hT hRN hpb hpE hpT hga hna hae hks hM
  obtain ⟨RR, hRR⟩ : ∃ RR, RR = isR l s a := ⟨_, rfl⟩
  have HRR := Lib.hid hRR
  rw [← hRR]
  clear hRR
  go_enter Tryz.func100, Tryz.ntmps100
  go_upto_region 1 with fail
  rw [← hw1]
  clear hw1
  go_wp2_with fail
  refine HC.out.mono ?_
  rintro e V1 ⟨k9, n9, s9, t9, A9, m9, c9, rfl, hv, b5⟩
  clear x0 x1 x2 x3 x4 e0 e1 e2 e3 e4
  obtain ⟨W5, hW5⟩ : ∃ W5, W5 = V1.alloc (.cells #[.int .i8 k9, .int .i64 n9, .string s9, .string t9, .slice A9 m9 c9] 44) := ⟨_, rfl⟩
  obtain ⟨g5, hg5⟩ : ∃ g5, g5 = V1.heap.size := ⟨_, rfl⟩
  have b6 : Below V1.heap.size V1 W5 := by rw [hW5]; exact (Below.refl _ _).alloc (Nat.le_refl _) _
  have HR5 : Hid (W5.heap[g5]? = some (.cells #[.int .i8 k9, .int .i64 n9, .string s9, .string t9, .slice A9 m9 c9] 44 (0, 0))) := Lib.hid (by rw [hW5, hg5]; exact block_alloc _ _)
  have HB5 := Lib.hid (HB1.out.trans ((b5.trans (b6.mono b5.size)).mono HB1.out.size))
  have HG5 := Lib.hid ((b6.block _ (Nat.lt_of_lt_of_le (heap_lt HG.out) b5.size)).trans ((b5.block _ (heap_lt HG.out)).trans HG.out))
  obtain ⟨fy, hfy⟩ : ∃ fy, fy = gvT l a := ⟨_, rfl⟩
  have HFY := Lib.hid hfy
  rw [← hfy] at hv ⊢
  clear hfy
  cases fy with
  | none =>
    have HPO : Hid (RR = false) := by show _ = _; rw [HRR.out]; unfold isR; rw [← HFY.out]
    clear hv b5 b6 HC
    simp only [Option.isSome_none]
    go_upto_region 2 with fail
    rw [← hW5]
    clear hW5 hg5
    go_wp2_with fail
    go_ret
    exact ⟨ret_bool HPO.out.symm, HB5.out⟩
  | some y =>
    have HY : Hid (TmAt (· < W5.heap.size) W5 y (.agg #[.int .i8 k9, .int .i64 n9, .string s9, .string t9, .slice A9 m9 c9])) := (hv y rfl).keep (fun q hq => b6.block q (by have := HN0.out; have := HB1.out.size; have := b5.size; rcases hq with h | h <;> omega)) (fun q hq => by have := HN0.out; have := HB1.out.size; have := b5.size; have := b6.size; rcases hq with h | h <;> omega)
    clear hv b5 b6 HC
    simp only [Option.isSome_some]
    go_upto_region 2 with fail
    rw [← hW5, ← hg5]
    clear hW5 hg5
    have gx := HG5.out
    obtain ⟨x0, x1, x2, x3, x4⟩ := five_of gx
    have gr := HR5.out
    obtain ⟨r0, r1, r2, r3, r4⟩ := five_of gr
    clear gx gr
    have hkk : 0 ≤ k9 ∧ k9 < 8 := by
      obtain ⟨j, hj, hj8⟩ := gv_kind HFY.out.symm HM.out
      rw [tm_kind HY.out, hj]; omega
    have HPO : Hid (RR = ((kw k9.toNat).toList == s.toList)) := by show _ = _; rw [HRR.out]; unfold isR; rw [← HFY.out, tm_kind HY.out]
    have HKC := Lib.hid (rkind_any s HKS.out k9 n9 s9 t9 A9 m9 c9 hkk W5)
    clear hkk
    go_wp2_with fail
    refine HKC.out.mono ?_
    rintro e V2 ⟨rfl, b7⟩
    rw [← HPO.out]
    go_wp2_with fail
    go_ret
    exact ⟨rfl, HB5.out.trans (b7.mono HB5.out.size)⟩
set_option maxHeartbeats 8000000 in
set_option maxRecDepth 100000 in
theorem rtst_cmp (n0 n1 : Nat) (l : List Bd) (hM : mayL l = true) (n : Int) (s t : ByteArray) (a b : Tm) (hga : guaB a = true) (hgb : guaB b = true) (hna : a.nodes ≤ 100000) (hnb : b.nodes ≤ 100000) (v : Value) (A : Option Addr) (m cap : Nat) (W : World) (hR : BRT n0 n1 W A m cap l) (hn1 : n1 ≤ W.heap.size) (hT : TmAt (· < W.heap.size) W (.mk 11 n s t [a, b]) v) :
    Calls Tryz.prog 100 #[v, .slice A m cap] W fun e w' => e = .returned (.bool (cmpT l s a b)) ∧ Below W.heap.size W w' := by
  obtain ⟨NA, nc, rfl, hRN, -⟩ := hT.parts
  obtain ⟨⟨pg, poff, po⟩, pu, rfl, hpb, hpE, hpT⟩ := hRN.at_ 0 a rfl
  obtain ⟨ak, an, asx, at_, aL, aA, ac, hae, rfl⟩ : ∃ k' n' s' t' L' A' cap', a = Tm.mk k' n' s' t' L' ∧ pu = .agg #[.int .i8 k', .int .i64 n', .string s', .string t', .slice A' L'.length cap'] := by
    cases hpT; exact ⟨_, _, _, _, _, _, _, rfl, rfl⟩
  obtain ⟨pad', qu, hPA', hqb, hqE, hqT⟩ := hRN.at_ 1 b rfl
  obtain rfl : (⟨pg, poff, po⟩ : Addr) = pad' := Option.some.inj hPA'
  obtain ⟨bk, bn, bs, bt, bL, bA, bc, hbe, rfl⟩ : ∃ k' n' s' t' L' A' cap', b = Tm.mk k' n' s' t' L' ∧ qu = .agg #[.int .i8 k', .int .i64 n', .string s', .string t', .slice A' L'.length cap'] := by
    cases hqT; exact ⟨_, _, _, _, _, _, _, rfl, rfl⟩
  obtain ⟨w1, hw1⟩ : ∃ w1, w1 = W.alloc (.cells #[.int .i8 11, .int .i64 n, .string s, .string t, .slice (some ⟨pg, poff, po⟩) 2 nc] 25) := ⟨_, rfl⟩
  have b1 : Below W.heap.size W w1 := by rw [hw1]; exact (Below.refl _ W).alloc (Nat.le_refl _) _
  have HG : Hid (w1.heap[W.heap.size]? = some (.cells #[.int .i8 11, .int .i64 n, .string s, .string t, .slice (some ⟨pg, poff, po⟩) 2 nc] 25 (0, 0))) := Lib.hid (by rw [hw1]; exact block_alloc _ _)
  have HB1 := Lib.hid b1
  have HM := Lib.hid hM
  have HE0 : Hid (∀ V, Below W.heap.size W V → ElemAt V ⟨pg, poff, po⟩ 0 (.agg #[.int .i8 ak, .int .i64 an, .string asx, .string at_, .slice aA aL.length ac])) := fun V hb => hpE.keep (hb.block _ hpb)
  have HC := Lib.hid (rval_any n0 n1 l hM a hga hna _ A m cap w1 (hR.under b1 hn1) (Nat.le_trans hn1 b1.size) (hpT.laterN b1))
  have HE1 : Hid (∀ V, Below W.heap.size W V → ElemAt V ⟨pg, poff, po⟩ 1 (.agg #[.int .i8 bk, .int .i64 bn, .string bs, .string bt, .slice bA bL.length bc])) := fun V hb => hqE.keep (hb.block _ hqb)
  have HC2 : Hid (∀ V, Below W.heap.size W V → Calls Tryz.prog 94 #[.agg #[.int .i8 bk, .int .i64 bn, .string bs, .string bt, .slice bA bL.length bc], .slice A m cap] V (RValP (gvT l b) n0 V)) := fun V hb => rval_any n0 n1 l hM b hgb hnb _ A m cap V (hR.under hb hn1) (Nat.le_trans hn1 hb.size) (hqT.laterN hb)
  have HN0 : Hid (n0 ≤ W.heap.size) := Nat.le_trans hR.le hn1
  have gx := HG.out
  obtain ⟨x0, x1, x2, x3, x4⟩ := five_of gx
  obtain ⟨e0, e1, e2, e3, e4⟩ := elem_0 (HE0.out w1 HB1.out)
  clear gx b1 hR hn1 hT hRN hpb hpE hpT hga hna hae hPA' hqb hqE hqT hgb hnb hbe hM
  obtain ⟨RR, hRR⟩ : ∃ RR, RR = cmpT l s a b := ⟨_, rfl⟩
  have HRR := Lib.hid hRR
  rw [← hRR]
  clear hRR
  go_enter Tryz.func100, Tryz.ntmps100
  go_upto_region 1 with fail
  rw [← hw1]
  clear hw1
  go_wp2_with fail
  refine HC.out.mono ?_
  rintro e V1 ⟨k9, n9, s9, t9, A9, m9, c9, rfl, hv, b5⟩
  clear x0 x1 x2 x3 x4 e0 e1 e2 e3 e4
  obtain ⟨W5, hW5⟩ : ∃ W5, W5 = V1.alloc (.cells #[.int .i8 k9, .int .i64 n9, .string s9, .string t9, .slice A9 m9 c9] 44) := ⟨_, rfl⟩
  obtain ⟨g5, hg5⟩ : ∃ g5, g5 = V1.heap.size := ⟨_, rfl⟩
  have b6 : Below V1.heap.size V1 W5 := by rw [hW5]; exact (Below.refl _ _).alloc (Nat.le_refl _) _
  have HR5 : Hid (W5.heap[g5]? = some (.cells #[.int .i8 k9, .int .i64 n9, .string s9, .string t9, .slice A9 m9 c9] 44 (0, 0))) := Lib.hid (by rw [hW5, hg5]; exact block_alloc _ _)
  have HB5 := Lib.hid (HB1.out.trans ((b5.trans (b6.mono b5.size)).mono HB1.out.size))
  have HG5 := Lib.hid ((b6.block _ (Nat.lt_of_lt_of_le (heap_lt HG.out) b5.size)).trans ((b5.block _ (heap_lt HG.out)).trans HG.out))
  obtain ⟨fy, hfy⟩ : ∃ fy, fy = gvT l a := ⟨_, rfl⟩
  have HFY := Lib.hid hfy
  rw [← hfy] at hv ⊢
  clear hfy
  cases fy with
  | none =>
    have HPO : Hid (RR = false) := by show _ = _; rw [HRR.out]; unfold cmpT; rw [← HFY.out]
    clear hv b5 b6 HC
    simp only [Option.isSome_none]
    go_upto_region 2 with fail
    rw [← hW5]
    clear hW5 hg5
    go_wp2_with fail
    go_ret
    exact ⟨ret_bool HPO.out.symm, HB5.out⟩
  | some y =>
    have HY : Hid (TmAt (· < W5.heap.size) W5 y (.agg #[.int .i8 k9, .int .i64 n9, .string s9, .string t9, .slice A9 m9 c9])) := (hv y rfl).keep (fun q hq => b6.block q (by have := HN0.out; have := HB1.out.size; have := b5.size; rcases hq with h | h <;> omega)) (fun q hq => by have := HN0.out; have := HB1.out.size; have := b5.size; have := b6.size; rcases hq with h | h <;> omega)
    clear hv b5 b6 HC
    simp only [Option.isSome_some]
    go_upto_region 2 with fail
    rw [← hW5, ← hg5]
    clear hW5 hg5
    have gx := HG5.out
    obtain ⟨x0, x1, x2, x3, x4⟩ := five_of gx
    have gr := HR5.out
    obtain ⟨r0, r1, r2, r3, r4⟩ := five_of gr
    clear gx gr
    obtain ⟨e0, e1, e2, e3, e4⟩ := elem_1 (HE1.out W5 HB5.out)
    have HC3 := Lib.hid (HC2.out W5 HB5.out)
    go_wp2_with fail
    refine HC3.out.mono ?_
    rintro e V3 ⟨k8, n8, s8, t8, A8, m8, c8, rfl, hv, b7⟩
    clear x0 x1 x2 x3 x4 e0 e1 e2 e3 e4 r0 r1 r2 r3 r4
    obtain ⟨W7, hW7⟩ : ∃ W7, W7 = V3.alloc (.cells #[.int .i8 k8, .int .i64 n8, .string s8, .string t8, .slice A8 m8 c8] 44) := ⟨_, rfl⟩
    obtain ⟨g7, hg7⟩ : ∃ g7, g7 = V3.heap.size := ⟨_, rfl⟩
    have b8 : Below V3.heap.size V3 W7 := by rw [hW7]; exact (Below.refl _ _).alloc (Nat.le_refl _) _
    have HR7 : Hid (W7.heap[g7]? = some (.cells #[.int .i8 k8, .int .i64 n8, .string s8, .string t8, .slice A8 m8 c8] 44 (0, 0))) := Lib.hid (by rw [hW7, hg7]; exact block_alloc _ _)
    have HB57 := Lib.hid (b7.trans (b8.mono b7.size))
    have HB7 := Lib.hid (HB5.out.trans (HB57.out.mono HB5.out.size))
    have HG7 := Lib.hid ((HB57.out.block _ (heap_lt HG5.out)).trans HG5.out)
    have HR57 := Lib.hid ((HB57.out.block _ (heap_lt HR5.out)).trans HR5.out)
    have HY7 := Lib.hid (HY.out.later HB57.out)
    obtain ⟨fz, hfz⟩ : ∃ fz, fz = gvT l b := ⟨_, rfl⟩
    have HFZ := Lib.hid hfz
    rw [← hfz] at hv ⊢
    clear hfz
    cases fz with
    | none =>
      have HPO : Hid (RR = false) := by show _ = _; rw [HRR.out]; unfold cmpT; rw [← HFY.out, ← HFZ.out]
      clear hv b7 b8 HC3
      simp only [Option.isSome_none]
      go_upto_region 7 with fail
      rw [← hW7]
      clear hW7 hg7
      go_wp2_with fail
      go_ret
      exact ⟨ret_bool HPO.out.symm, HB7.out⟩
    | some z =>
      have HZ : Hid (TmAt (· < W7.heap.size) W7 z (.agg #[.int .i8 k8, .int .i64 n8, .string s8, .string t8, .slice A8 m8 c8])) := (hv z rfl).keep (fun q hq => b8.block q (by have := HN0.out; have := HB5.out.size; have := b7.size; rcases hq with h | h <;> omega)) (fun q hq => by have := HN0.out; have := HB5.out.size; have := b7.size; have := b8.size; rcases hq with h | h <;> omega)
      have HPO : Hid (RR = (cmpR s (compN y z)).1) := by show _ = _; rw [HRR.out]; unfold cmpT; rw [← HFY.out, ← HFZ.out]
      clear hv b7 b8 HC3
      simp only [Option.isSome_some]
      go_upto_region 9 with fail
      rw [← hW7, ← hg7]
      clear hW7 hg7
      refine wp_region_held (S := fun V => Below W7.heap.size W7 V) (by kernel_rfl) ?_
      show wpAnyH _ _ _ _ _ _ _ _ W7.drew
      have hS : Below W7.heap.size W7 W7.drew := ⟨rfl, rfl, rfl, Nat.le_refl _, fun _ _ => rfl⟩
      generalize W7.drew = V0 at hS ⊢
      refine wpAnyH_take (i := 0) (oi := ⟨some 40, _, _, _, _, _⟩) (v := ?_) rfl (by kernel_rfl) (by kernel_rfl) (by kernel_rfl) (fun _ _ _ h => h) (Or.inl ⟨by kernel_rfl, ?_⟩) (by assumption) ?_; rotate_left; (intro VV hSw; (try dsimp only at hSw); go_simp; first | done | with_reducible rfl); (try simp only [Act.put, sI, sZ, sS])
      refine wpAnyH_take (i := 1) (oi := ⟨some 41, _, _, _, _, _⟩) (v := ?_) rfl (by kernel_rfl) (by kernel_rfl) (by kernel_rfl) (fun _ _ _ h => h) (Or.inl ⟨by kernel_rfl, ?_⟩) (by assumption) ?_; rotate_left; (intro VV hSw; (try dsimp only at hSw); have hr := (hSw.block _ (heap_lt HG7.out)).trans HG7.out; obtain ⟨y0, y1, y2, y3, y4⟩ := five_of hr; go_simp; first | done | with_reducible rfl); (try simp only [Act.put, sI, sZ, sS])
      refine wpAnyH_take (i := 2) (oi := ⟨some 42, _, _, _, _, _⟩) (v := ?_) rfl (by kernel_rfl) (by kernel_rfl) (by kernel_rfl) (fun _ _ _ h => h) (Or.inl ⟨by kernel_rfl, ?_⟩) (by assumption) ?_; rotate_left; (intro VV hSw; (try dsimp only at hSw); have hr := (hSw.block _ (heap_lt HR57.out)).trans HR57.out; obtain ⟨y0, y1, y2, y3, y4⟩ := five_of hr; go_simp; first | done | with_reducible rfl); (try simp only [Act.put, sI, sZ, sS])
      refine wpAnyH_take (i := 3) (oi := ⟨some 43, _, _, _, _, _⟩) (v := ?_) rfl (by kernel_rfl) (by kernel_rfl) (by kernel_rfl) (fun _ _ _ h => h) (Or.inl ⟨by kernel_rfl, ?_⟩) (by assumption) ?_; rotate_left; (intro VV hSw; (try dsimp only at hSw); have hr := (hSw.block _ (heap_lt HR7.out)).trans HR7.out; obtain ⟨y0, y1, y2, y3, y4⟩ := five_of hr; go_simp; first | done | with_reducible rfl); (try simp only [Act.put, sI, sZ, sS])
      refine wpAnyH_ready (rs := [4]) (by kernel_rfl) (by simp) ?_
      refine AllReadyH.cons (o := ⟨some 44, _, _, _, _, _⟩) rfl (fun K hK => ?_) AllReadyH.nil
      · rw [if_pos (by rfl)]
        go_simp
        refine (rCompare3_any y z _ _ V0 (HY7.out.later hS) (HZ.out.later hS)).mono ?_
        rintro e V1 ⟨rfl, b9⟩
        have hS1 := hS.trans (b9.mono hS.size)
        refine hK.out _ _ hS1 (fun hSn => ?_)
        clear hK K hSn; (try simp only [Act.put, sI, sZ, sS])
        clear hS
        refine wpAnyH_ready (rs := [5]) (by kernel_rfl) (by simp) ?_
        refine AllReadyH.cons (o := ⟨some 45, _, _, _, _, _⟩) rfl (fun K hK => ?_) AllReadyH.nil
        · rw [if_pos (by rfl)]
          go_simp
          refine (rCompare_any s (compN y z) V1).mono ?_
          rintro e V2 ⟨rfl, hq⟩
          subst hq
          rw [← HPO.out]
          refine hK.out _ _ hS1 (fun hSn => ?_)
          clear hK K hSn; (try simp only [Act.put, sI, sZ, sS])
          refine wpAnyH_take (i := 6) (oi := ⟨some 39, _, _, _, _, _⟩) (v := ?_) rfl (by kernel_rfl) (by kernel_rfl) (by kernel_rfl) (fun _ _ _ h => h) (Or.inl ⟨by kernel_rfl, ?_⟩) (by assumption) ?_; rotate_left; (intro VV hSw; (try dsimp only at hSw); go_simp; first | done | with_reducible rfl); (try simp only [Act.put, sI, sZ, sS])
          refine wpAnyH_take (i := 7) (oi := ⟨some 46, _, _, _, _, _⟩) (v := ?_) rfl (by kernel_rfl) (by kernel_rfl) (by kernel_rfl) (fun _ _ _ h => h) (Or.inl ⟨by kernel_rfl, ?_⟩) (by assumption) ?_; rotate_left; (intro VV hSw; (try dsimp only at hSw); go_simp; first | done | with_reducible rfl); (try simp only [Act.put, sI, sZ, sS])
          refine wpAnyH_take (i := 8) (oi := ⟨some 47, _, _, _, _, _⟩) (v := ?_) rfl (by kernel_rfl) (by kernel_rfl) (by kernel_rfl) (fun _ _ _ h => h) (Or.inl ⟨by kernel_rfl, ?_⟩) (by assumption) ?_; rotate_left; (intro VV hSw; (try dsimp only at hSw); go_simp; first | done | with_reducible rfl); (try simp only [Act.put, sI, sZ, sS])
          refine wpAnyH_take (i := 9) (oi := ⟨some 8, _, _, _, _, _⟩) (v := ?_) rfl (by kernel_rfl) (by kernel_rfl) (by kernel_rfl) (fun _ _ _ h => h) (Or.inl ⟨by kernel_rfl, ?_⟩) (by assumption) ?_; rotate_left; (intro VV hSw; (try dsimp only at hSw); go_simp; first | done | with_reducible rfl); (try simp only [Act.put, sI, sZ, sS])
          refine wpAnyH_take (i := 10) (oi := ⟨some 9, _, _, _, _, _⟩) (v := ?_) rfl (by kernel_rfl) (by kernel_rfl) (by kernel_rfl) (fun _ _ _ h => h) (Or.inl ⟨by kernel_rfl, ?_⟩) (by assumption) ?_; rotate_left; (intro VV hSw; (try dsimp only at hSw); go_simp; first | done | with_reducible rfl); (try simp only [Act.put, sI, sZ, sS])
          refine wpAnyH_done (by kernel_rfl) ?_ _
          have HFIN := Lib.hid (HB7.out.trans (hS1.mono HB7.out.size))
          clear hS1
          go_wp2_with fail
          go_ret
          exact ⟨rfl, HFIN.out⟩
theorem rtst_any (n0 n1 : Nat) (l : List Bd) (hM : mayL l = true) (x : Tm) (hx : testB x = true) (hn : x.nodes ≤ 100000) (v : Value) (A : Option Addr) (m cap : Nat) (W : World) (hR : BRT n0 n1 W A m cap l) (hn1 : n1 ≤ W.heap.size) (hT : TmAt (· < W.heap.size) W x v) :
    Calls Tryz.prog 100 #[v, .slice A m cap] W fun e w' => e = .returned (.bool (tstT l x)) ∧ Below W.heap.size W w' := by
  obtain ⟨k, n, s, t, ps⟩ := x
  have hnp : (Tm.pres ps).length + 1 ≤ 100000 := by rw [Tm.nodes_mk] at hn; exact hn
  have hnm : ∀ y ∈ ps, y.nodes ≤ 100000 := fun y hy => by have := Tm.nodes_mem hy; omega
  rcases tst_cases hx with ⟨rfl, a, b, rfl, ha, hb⟩ | ⟨rfl, a, rfl, ha⟩
  · exact rtst_cmp n0 n1 l hM n s t a b ha hb (hnm a (by simp)) (hnm b (by simp)) v A m cap W hR hn1 hT
  · exact rtst_is n0 n1 l hM n s t a ha (test_kind11 hx) (hnm a (by simp)) v A m cap W hR hn1 hT
end Go.Proofs.YtkceoiaaiaomoaaGreatDoor
