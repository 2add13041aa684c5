/- The law GuardTells' walk. -/
import Derived.Test.YtkceoiaaiaomoaaGreatDoorKGd15
import Derived.Test.YtkceoiaaiaomoaaGreatDoorKGd7
import Derived.Deep.DeepCutAuto
import Derived.Tactics2
set_option linter.unusedVariables false
set_option linter.unusedSimpArgs false
namespace Go.Proofs.YtkceoiaaiaomoaaGreatDoor
open Go.RowKit

set_option maxHeartbeats 16000000 in
set_option maxRecDepth 100000 in
theorem walk_GuardTells (v0 v1 : Value) (nm : ByteArray) (hnm : nm.size ≤ maxLen) (w : World) (o0 : ∃ t, TmAt (· < w.heap.size) w t v0) (o1 : ∃ A n cap l, v1 = .slice A n cap ∧ BRow (· < w.heap.size) w A n cap l) (hE : Env11 w) :
    Calls Tryz.prog 8 #[v0, v1, .string nm] w fun e w' => e = .returned (.bool true) ∧ Below w.heap.size w w' := by
  obtain ⟨x, hT⟩ := o0
  obtain ⟨A, m, cap, l, rfl, hR⟩ := o1
  obtain ⟨k, n, s, t, NA, nm2, nc, rfl⟩ : ∃ k n s t A m c, v0 = .agg #[.int .i8 k, .int .i64 n, .string s, .string t, .slice A m c] := by cases hT; exact ⟨_, _, _, _, _, _, _, rfl⟩
  obtain ⟨w1, hw1⟩ : ∃ w1, w1 = w.alloc (.cells #[.int .i8 k, .int .i64 n, .string s, .string t, .slice NA nm2 nc] 25) := ⟨_, rfl⟩
  have b1 : Below w.heap.size w w1 := by rw [hw1]; exact (Below.refl _ w).alloc (Nat.le_refl _) _
  have HG : Hid (w1.heap[w.heap.size]? = some (.cells #[.int .i8 k, .int .i64 n, .string s, .string t, .slice NA nm2 nc] 25 (0, 0))) := Lib.hid (by rw [hw1]; exact block_alloc _ _)
  have HT : Hid (∀ V, Below w.heap.size w V → TmAt (· < V.heap.size) V x (.agg #[.int .i8 k, .int .i64 n, .string s, .string t, .slice NA nm2 nc])) := fun V hb => hT.laterN hb
  have HR : Hid (∀ V, Below w.heap.size w V → BRow (· < V.heap.size) V A m cap l) := fun V hb => hR.later hb
  have HE : Hid (∀ V, Below w.heap.size w V → Env11 V) := fun V hb => hE.under hb
  have HB1 := Lib.hid b1
  have HG1 := HG
  have gx := HG.out
  obtain ⟨x0, x1, x2, x3, x4⟩ := five_of gx
  clear gx hT b1 hR hE
  go_enter Tryz.func8, Tryz.ntmps8
  go_upto_region 1 with fail
  rw [← hw1]
  clear hw1
  go_wp2_with fail
  refine (GreatN_any x _ w1 (HT.out w1 HB1.out)).mono ?_
  rintro e w2 ⟨q0, rfl, hq0, b2⟩
  have HB2 := Lib.hid (HB1.out.trans (b2.mono HB1.out.size))
  have HG2 := Lib.hid ((b2.block _ (heap_lt HG1.out)).trans HG1.out)
  clear b2 x0 x1 x2 x3 x4
  have gx := HG2.out
  obtain ⟨x0, x1, x2, x3, x4⟩ := five_of gx
  clear gx
  cases q0 with
  | true =>
    clear hq0
    go_wp2_with fail
    refine (wakes11_any w2 (HE.out w2 HB2.out)).mono ?_
    rintro e w9 ⟨rfl, b9⟩
    have HF := Lib.hid (HB2.out.trans (b9.mono HB2.out.size))
    clear b9
    go_wp2_with fail
    go_ret
    exact ⟨rfl, HF.out⟩
  | false =>
  have HN : Hid (x.nodes ≤ 8200) := by have := hq0 rfl; show _ ≤ _; omega
  clear hq0
  go_wp2_with fail
  refine (great11_any l A m cap w2 (HR.out w2 HB2.out)).mono ?_
  rintro e w3 ⟨⟨q1, rfl⟩, b3⟩
  have HB3 := Lib.hid (HB2.out.trans (b3.mono HB2.out.size))
  have HG3 := Lib.hid ((b3.block _ (heap_lt HG2.out)).trans HG2.out)
  clear b3 x0 x1 x2 x3 x4
  have gx := HG3.out
  obtain ⟨x0, x1, x2, x3, x4⟩ := five_of gx
  clear gx
  cases q1 with
  | true =>
    go_wp2_with fail
    refine (wakes11_any w3 (HE.out w3 HB3.out)).mono ?_
    rintro e w9 ⟨rfl, b9⟩
    have HF := Lib.hid (HB3.out.trans (b9.mono HB3.out.size))
    clear b9
    go_wp2_with fail
    go_ret
    exact ⟨rfl, HF.out⟩
  | false =>
  obtain ⟨EE, hEE⟩ : ∃ EE, EE = valE l x := ⟨_, rfl⟩
  have HEE := Lib.hid hEE
  clear hEE
  obtain ⟨FB, hFB⟩ : ∃ FB, FB = (findB l nm).isSome := ⟨_, rfl⟩
  have HFB := Lib.hid hFB
  clear hFB
  go_wp2_with fail
  refine (Value_any l x _ A m cap w3 (HT.out w3 HB3.out) (HR.out w3 HB3.out) HN.out (HE.out w3 HB3.out).env).mono ?_
  rintro e w4 ⟨k7, n7, s7, t7, A7, m7, c7, rfl, hv, b⟩
  have HB4 := Lib.hid (HB3.out.trans (b.mono HB3.out.size))
  obtain ⟨w5, hw5⟩ : ∃ W, W = w4.alloc (.cells #[.int .i8 k7, .int .i64 n7, .string s7, .string t7, .slice A7 m7 c7] 44) := ⟨_, rfl⟩
  obtain ⟨g7, hg7⟩ : ∃ g, g = w4.heap.size := ⟨_, rfl⟩
  have b' : Below w4.heap.size w4 w5 := by rw [hw5]; exact (Below.refl _ _).alloc (Nat.le_refl _) _
  have HQ7 : Hid (w5.heap[g7]? = some (.cells #[.int .i8 k7, .int .i64 n7, .string s7, .string t7, .slice A7 m7 c7] 44 (0, 0))) := Lib.hid (by rw [hw5, hg7]; exact block_alloc _ _)
  have HY7 := Lib.hid (hv.later b')
  rw [← HEE.out]
  have b2 := b.trans (b'.mono b.size)
  have HK7 := Lib.hid b2
  clear hv b b'
  have HB5 := Lib.hid (HB3.out.trans (b2.mono HB3.out.size))
  have HG5 := Lib.hid ((b2.block _ (heap_lt HG3.out)).trans HG3.out)
  clear b2 x0 x1 x2 x3 x4
  have gx := HG5.out
  obtain ⟨x0, x1, x2, x3, x4⟩ := five_of gx
  clear gx
  go_upto_region 4 with fail
  rw [← hw5, ← hg7]
  clear hw5 hg7
  go_wp2_with fail
  refine (rValue_any l x _ A m cap w5 (HT.out w5 HB5.out) (HR.out w5 HB5.out) HN.out).mono ?_
  rintro e w6 ⟨k9, n9, s9, t9, A9, m9, c9, rfl, hv, b⟩
  have HB6 := Lib.hid (HB5.out.trans (b.mono HB5.out.size))
  obtain ⟨w7, hw7⟩ : ∃ W, W = w6.alloc (.cells #[.int .i8 k9, .int .i64 n9, .string s9, .string t9, .slice A9 m9 c9] 44) := ⟨_, rfl⟩
  obtain ⟨g9, hg9⟩ : ∃ g, g = w6.heap.size := ⟨_, rfl⟩
  have b' : Below w6.heap.size w6 w7 := by rw [hw7]; exact (Below.refl _ _).alloc (Nat.le_refl _) _
  have HQ9 : Hid (w7.heap[g9]? = some (.cells #[.int .i8 k9, .int .i64 n9, .string s9, .string t9, .slice A9 m9 c9] 44 (0, 0))) := Lib.hid (by rw [hw7, hg9]; exact block_alloc _ _)
  have HY9 := Lib.hid (hv.later b')
  rw [← HEE.out]
  have b2 := b.trans (b'.mono b.size)
  have HK9 := Lib.hid b2
  clear hv b b'
  have HB7 := Lib.hid (HB5.out.trans (b2.mono HB5.out.size))
  have HG7 := Lib.hid ((b2.block _ (heap_lt HG5.out)).trans HG5.out)
  clear b2 x0 x1 x2 x3 x4
  have gx := HG7.out
  obtain ⟨x0, x1, x2, x3, x4⟩ := five_of gx
  clear gx
  go_upto_region 5 with fail
  rw [← hw7, ← hg9]
  clear hw7 hg9
  go_wp2_with fail
  refine (Find_any l nm A m cap w7 (HR.out w7 HB7.out)).mono ?_
  rintro e w8 ⟨k11, n11, s11, t11, A11, m11, c11, rfl, hv, b⟩
  have HB8 := Lib.hid (HB7.out.trans (b.mono HB7.out.size))
  obtain ⟨w9, hw9⟩ : ∃ W, W = w8.alloc (.cells #[.int .i8 k11, .int .i64 n11, .string s11, .string t11, .slice A11 m11 c11] 44) := ⟨_, rfl⟩
  obtain ⟨g11, hg11⟩ : ∃ g, g = w8.heap.size := ⟨_, rfl⟩
  have b' : Below w8.heap.size w8 w9 := by rw [hw9]; exact (Below.refl _ _).alloc (Nat.le_refl _) _
  have HQ11 : Hid (w9.heap[g11]? = some (.cells #[.int .i8 k11, .int .i64 n11, .string s11, .string t11, .slice A11 m11 c11] 44 (0, 0))) := Lib.hid (by rw [hw9, hg11]; exact block_alloc _ _)
  have HY11 := Lib.hid (hv.later b')
  rw [← HFB.out]
  have b2 := b.trans (b'.mono b.size)
  have HK11 := Lib.hid b2
  clear hv b b'
  have HB9 := Lib.hid (HB7.out.trans (b2.mono HB7.out.size))
  have HG9 := Lib.hid ((b2.block _ (heap_lt HG7.out)).trans HG7.out)
  clear b2 x0 x1 x2 x3 x4
  have gx := HG9.out
  obtain ⟨x0, x1, x2, x3, x4⟩ := five_of gx
  clear gx
  go_upto_region 6 with fail
  rw [← hw9, ← hg11]
  clear hw9 hg11
  go_wp2_with fail
  refine (rFind11_any w9.heap.size w9.heap.size l nm A m cap w9 (HR.out w9 HB9.out).brt (Nat.le_refl _)).mono ?_
  rintro e w10 ⟨k13, n13, s13, t13, A13, m13, c13, rfl, hv1, hv2, b⟩
  have hv : TmAt (· < w10.heap.size) w10 ((findB l nm).getD (intT 0)) (.agg #[.int .i8 k13, .int .i64 n13, .string s13, .string t13, .slice A13 m13 c13]) := by
    have hz := b.size
    cases hf : findB l nm with
    | none => exact (hv2 hf).mono (fun q hq => Nat.lt_of_lt_of_le hq hz)
    | some y => exact (hv1 y hf).mono (fun q hq => by show q < _; rcases hq with h | h <;> omega)
  clear hv1 hv2
  rw [← HFB.out]
  have HB10 := Lib.hid (HB9.out.trans (b.mono HB9.out.size))
  obtain ⟨w11, hw11⟩ : ∃ W, W = w10.alloc (.cells #[.int .i8 k13, .int .i64 n13, .string s13, .string t13, .slice A13 m13 c13] 44) := ⟨_, rfl⟩
  obtain ⟨g13, hg13⟩ : ∃ g, g = w10.heap.size := ⟨_, rfl⟩
  have b' : Below w10.heap.size w10 w11 := by rw [hw11]; exact (Below.refl _ _).alloc (Nat.le_refl _) _
  have HQ13 : Hid (w11.heap[g13]? = some (.cells #[.int .i8 k13, .int .i64 n13, .string s13, .string t13, .slice A13 m13 c13] 44 (0, 0))) := Lib.hid (by rw [hw11, hg13]; exact block_alloc _ _)
  have HY13 := Lib.hid (hv.later b')
  have b2 := b.trans (b'.mono b.size)
  have HK13 := Lib.hid b2
  clear hv b b'
  have HB11 := Lib.hid (HB9.out.trans (b2.mono HB9.out.size))
  have HG11 := Lib.hid ((b2.block _ (heap_lt HG9.out)).trans HG9.out)
  clear b2 x0 x1 x2 x3 x4
  have gx := HG11.out
  obtain ⟨x0, x1, x2, x3, x4⟩ := five_of gx
  clear gx
  clear x0 x1 x2 x3 x4
  go_upto_region 7 with fail
  rw [← hw11, ← hg13]
  clear hw11 hg13
  have HQ7' := Lib.hid ((HK13.out.block _ (Nat.lt_of_lt_of_le (heap_lt HQ7.out) (Nat.le_trans HK9.out.size HK11.out.size))).trans ((HK11.out.block _ (Nat.lt_of_lt_of_le (heap_lt HQ7.out) HK9.out.size)).trans ((HK9.out.block _ (heap_lt HQ7.out)).trans HQ7.out)))
  have HQ9' := Lib.hid ((HK13.out.block _ (Nat.lt_of_lt_of_le (heap_lt HQ9.out) HK11.out.size)).trans ((HK11.out.block _ (heap_lt HQ9.out)).trans HQ9.out))
  have HQ11' := Lib.hid ((HK13.out.block _ (heap_lt HQ11.out)).trans HQ11.out)
  have HY7' := Lib.hid (((HY7.out.later HK9.out).later HK11.out).later HK13.out)
  have HY9' := Lib.hid ((HY9.out.later HK11.out).later HK13.out)
  have HY11' := Lib.hid (HY11.out.later HK13.out)
  refine wp_region_held (S := fun V => Below w11.heap.size w11 V) (by kernel_rfl) ?_
  show wpAnyH _ _ _ _ _ _ _ _ w11.drew
  have hS : Below w11.heap.size w11 w11.drew := ⟨rfl, rfl, rfl, Nat.le_refl _, fun _ _ => rfl⟩
  generalize w11.drew = V0 at hS ⊢
  obtain ⟨TT, hTT⟩ : ∃ TT, TT = testR l x := ⟨_, rfl⟩
  have HTT := Lib.hid hTT
  clear hTT
  obtain ⟨HH, hHH⟩ : ∃ HH, HH = holdR l x := ⟨_, rfl⟩
  have HHH := Lib.hid hHH
  clear hHH
  refine wpAnyH_take (i := 0) (oi := ⟨some 46, _, _, _, _, _⟩) (v := ?_) rfl (by kernel_rfl) (by kernel_rfl) (by kernel_rfl) (fun _ _ _ h => h) (Or.inl ⟨by kernel_rfl, ?_⟩) (by assumption) ?_; rotate_left; (intro VV hSw; (try dsimp only at hSw); have hr := (hSw.block _ (heap_lt HQ7'.out)).trans HQ7'.out; obtain ⟨y0, y1, y2, y3, y4⟩ := five_of hr; go_simp; first | done | with_reducible rfl); (try simp only [Act.put, sI, sZ, sS])
  refine wpAnyH_take (i := 1) (oi := ⟨some 47, _, _, _, _, _⟩) (v := ?_) rfl (by kernel_rfl) (by kernel_rfl) (by kernel_rfl) (fun _ _ _ h => h) (Or.inl ⟨by kernel_rfl, ?_⟩) (by assumption) ?_; rotate_left; (intro VV hSw; (try dsimp only at hSw); have hr := (hSw.block _ (heap_lt HQ9'.out)).trans HQ9'.out; obtain ⟨y0, y1, y2, y3, y4⟩ := five_of hr; go_simp; first | done | with_reducible rfl); (try simp only [Act.put, sI, sZ, sS])
  refine wpAnyH_ready (rs := [2]) (by kernel_rfl) (by simp) ?_
  refine AllReadyH.cons (o := ⟨some 48, _, _, _, _, _⟩) rfl (fun K hK => ?_) AllReadyH.nil
  · rw [if_pos (by rfl)]
    go_simp
    refine (Same_yes11 (valV l x) _ _ V0 (HY7'.out.later hS) (HY9'.out.later hS)).mono ?_
    rintro e V101 ⟨rfl, bb⟩
    have hS1 := hS.trans (bb.mono hS.size)
    refine hK.out _ _ hS1 (fun hSn => ?_)
    clear hK K hSn; (try simp only [Act.put, sI, sZ, sS])
    clear hS
    have hS := hS1
    clear hS1
    refine wpAnyH_take (i := 3) (oi := ⟨some 49, _, _, _, _, _⟩) (v := ?_) rfl (by kernel_rfl) (by kernel_rfl) (by kernel_rfl) (fun _ _ _ h => h) (Or.inl ⟨by kernel_rfl, ?_⟩) (by assumption) ?_; rotate_left; (intro VV hSw; (try dsimp only at hSw); go_simp; first | done | with_reducible rfl); (try simp only [Act.put, sI, sZ, sS])
    refine wpAnyH_take (i := 4) (oi := ⟨some 50, _, _, _, _, _⟩) (v := ?_) rfl (by kernel_rfl) (by kernel_rfl) (by kernel_rfl) (fun _ _ _ h => h) (Or.inl ⟨by kernel_rfl, ?_⟩) (by assumption) ?_; rotate_left; (intro VV hSw; (try dsimp only at hSw); go_simp; first | done | with_reducible rfl); (try simp only [Act.put, sI, sZ, sS])
    refine wpAnyH_take (i := 5) (oi := ⟨some 51, _, _, _, _, _⟩) (v := ?_) rfl (by kernel_rfl) (by kernel_rfl) (by kernel_rfl) (fun _ _ _ h => h) (Or.inl ⟨by kernel_rfl, ?_⟩) (by assumption) ?_; rotate_left; (intro VV hSw; (try dsimp only at hSw); go_simp; first | done | with_reducible rfl); (try simp only [Act.put, sI, sZ, sS])
    refine wpAnyH_take (i := 6) (oi := ⟨some 52, _, _, _, _, _⟩) (v := ?_) rfl (by kernel_rfl) (by kernel_rfl) (by kernel_rfl) (fun _ _ _ h => h) (Or.inl ⟨by kernel_rfl, ?_⟩) (by assumption) ?_; rotate_left; (intro VV hSw; (try dsimp only at hSw); have hee : (EE == EE) = true := beq_self_eq_true _; go_simp; first | done | with_reducible rfl); (try simp only [Act.put, sI, sZ, sS])
    refine wpAnyH_take (i := 7) (oi := ⟨some 53, _, _, _, _, _⟩) (v := ?_) rfl (by kernel_rfl) (by kernel_rfl) (by kernel_rfl) (fun _ _ _ h => h) (Or.inl ⟨by kernel_rfl, ?_⟩) (by assumption) ?_; rotate_left; (intro VV hSw; (try dsimp only at hSw); go_simp; first | done | with_reducible rfl); (try simp only [Act.put, sI, sZ, sS])
    refine wpAnyH_take (i := 8) (oi := ⟨some 54, _, _, _, _, _⟩) (v := ?_) rfl (by kernel_rfl) (by kernel_rfl) (by kernel_rfl) (fun _ _ _ h => h) (Or.inl ⟨by kernel_rfl, ?_⟩) (by assumption) ?_; rotate_left; (intro VV hSw; (try dsimp only at hSw); go_simp; first | done | with_reducible rfl); (try simp only [Act.put, sI, sZ, sS])
    refine wpAnyH_take (i := 9) (oi := ⟨some 55, _, _, _, _, _⟩) (v := ?_) rfl (by kernel_rfl) (by kernel_rfl) (by kernel_rfl) (fun _ _ _ h => h) (Or.inl ⟨by kernel_rfl, ?_⟩) (by assumption) ?_; rotate_left; (intro VV hSw; (try dsimp only at hSw); have hr := (hSw.block _ (heap_lt HQ11'.out)).trans HQ11'.out; obtain ⟨y0, y1, y2, y3, y4⟩ := five_of hr; go_simp; first | done | with_reducible rfl); (try simp only [Act.put, sI, sZ, sS])
    refine wpAnyH_take (i := 10) (oi := ⟨some 56, _, _, _, _, _⟩) (v := ?_) rfl (by kernel_rfl) (by kernel_rfl) (by kernel_rfl) (fun _ _ _ h => h) (Or.inl ⟨by kernel_rfl, ?_⟩) (by assumption) ?_; rotate_left; (intro VV hSw; (try dsimp only at hSw); have hr := (hSw.block _ (heap_lt HQ13.out)).trans HQ13.out; obtain ⟨y0, y1, y2, y3, y4⟩ := five_of hr; go_simp; first | done | with_reducible rfl); (try simp only [Act.put, sI, sZ, sS])
    refine wpAnyH_ready (rs := [11]) (by kernel_rfl) (by simp) ?_
    refine AllReadyH.cons (o := ⟨some 57, _, _, _, _, _⟩) rfl (fun K hK => ?_) AllReadyH.nil
    · rw [if_pos (by rfl)]
      go_simp
      refine (Same_yes11 ((findB l nm).getD (intT 0)) _ _ V101 (HY11'.out.later hS) (HY13.out.later hS)).mono ?_
      rintro e V102 ⟨rfl, bb⟩
      have hS1 := hS.trans (bb.mono hS.size)
      refine hK.out _ _ hS1 (fun hSn => ?_)
      clear hK K hSn; (try simp only [Act.put, sI, sZ, sS])
      clear hS
      have hS := hS1
      clear hS1
      refine wpAnyH_take (i := 12) (oi := ⟨some 58, _, _, _, _, _⟩) (v := ?_) rfl (by kernel_rfl) (by kernel_rfl) (by kernel_rfl) (fun _ _ _ h => h) (Or.inl ⟨by kernel_rfl, ?_⟩) (by assumption) ?_; rotate_left; (intro VV hSw; (try dsimp only at hSw); go_simp; first | done | with_reducible rfl); (try simp only [Act.put, sI, sZ, sS])
      refine wpAnyH_take (i := 13) (oi := ⟨some 59, _, _, _, _, _⟩) (v := ?_) rfl (by kernel_rfl) (by kernel_rfl) (by kernel_rfl) (fun _ _ _ h => h) (Or.inl ⟨by kernel_rfl, ?_⟩) (by assumption) ?_; rotate_left; (intro VV hSw; (try dsimp only at hSw); go_simp; first | done | with_reducible rfl); (try simp only [Act.put, sI, sZ, sS])
      refine wpAnyH_take (i := 14) (oi := ⟨some 60, _, _, _, _, _⟩) (v := ?_) rfl (by kernel_rfl) (by kernel_rfl) (by kernel_rfl) (fun _ _ _ h => h) (Or.inl ⟨by kernel_rfl, ?_⟩) (by assumption) ?_; rotate_left; (intro VV hSw; (try dsimp only at hSw); go_simp; first | done | with_reducible rfl); (try simp only [Act.put, sI, sZ, sS])
      refine wpAnyH_take (i := 15) (oi := ⟨some 61, _, _, _, _, _⟩) (v := ?_) rfl (by kernel_rfl) (by kernel_rfl) (by kernel_rfl) (fun _ _ _ h => h) (Or.inl ⟨by kernel_rfl, ?_⟩) (by assumption) ?_; rotate_left; (intro VV hSw; (try dsimp only at hSw); go_simp; first | done | with_reducible rfl); (try simp only [Act.put, sI, sZ, sS])
      refine wpAnyH_take (i := 16) (oi := ⟨some 62, _, _, _, _, _⟩) (v := ?_) rfl (by kernel_rfl) (by kernel_rfl) (by kernel_rfl) (fun _ _ _ h => h) (Or.inl ⟨by kernel_rfl, ?_⟩) (by assumption) ?_; rotate_left; (intro VV hSw; (try dsimp only at hSw); have hee : (FB == FB) = true := beq_self_eq_true _; go_simp; first | done | with_reducible rfl); (try simp only [Act.put, sI, sZ, sS])
      refine wpAnyH_take (i := 17) (oi := ⟨some 63, _, _, _, _, _⟩) (v := ?_) rfl (by kernel_rfl) (by kernel_rfl) (by kernel_rfl) (fun _ _ _ h => h) (Or.inl ⟨by kernel_rfl, ?_⟩) (by assumption) ?_; rotate_left; (intro VV hSw; (try dsimp only at hSw); go_simp; first | done | with_reducible rfl); (try simp only [Act.put, sI, sZ, sS])
      refine wpAnyH_take (i := 18) (oi := ⟨some 64, _, _, _, _, _⟩) (v := ?_) rfl (by kernel_rfl) (by kernel_rfl) (by kernel_rfl) (fun _ _ _ h => h) (Or.inl ⟨by kernel_rfl, ?_⟩) (by assumption) ?_; rotate_left; (intro VV hSw; (try dsimp only at hSw); go_simp; first | done | with_reducible rfl); (try simp only [Act.put, sI, sZ, sS])
      refine wpAnyH_take (i := 19) (oi := ⟨some 65, _, _, _, _, _⟩) (v := ?_) rfl (by kernel_rfl) (by kernel_rfl) (by kernel_rfl) (fun _ _ _ h => h) (Or.inl ⟨by kernel_rfl, ?_⟩) (by assumption) ?_; rotate_left; (intro VV hSw; (try dsimp only at hSw); have hr := (hSw.block _ (heap_lt HG11.out)).trans HG11.out; obtain ⟨y0, y1, y2, y3, y4⟩ := five_of hr; go_simp; first | done | with_reducible rfl); (try simp only [Act.put, sI, sZ, sS])
      refine wpAnyH_take (i := 20) (oi := ⟨some 66, _, _, _, _, _⟩) (v := ?_) rfl (by kernel_rfl) (by kernel_rfl) (by kernel_rfl) (fun _ _ _ h => h) (Or.inl ⟨by kernel_rfl, ?_⟩) (by assumption) ?_; rotate_left; (intro VV hSw; (try dsimp only at hSw); go_simp; first | done | with_reducible rfl); (try simp only [Act.put, sI, sZ, sS])
      refine wpAnyH_take (i := 22) (oi := ⟨some 68, _, _, _, _, _⟩) (v := ?_) rfl (by kernel_rfl) (by kernel_rfl) (by kernel_rfl) (fun _ _ _ h => h) (Or.inl ⟨by kernel_rfl, ?_⟩) (by assumption) ?_; rotate_left; (intro VV hSw; (try dsimp only at hSw); have hr := (hSw.block _ (heap_lt HG11.out)).trans HG11.out; obtain ⟨y0, y1, y2, y3, y4⟩ := five_of hr; go_simp; first | done | with_reducible rfl); (try simp only [Act.put, sI, sZ, sS])
      refine wpAnyH_take (i := 23) (oi := ⟨some 69, _, _, _, _, _⟩) (v := ?_) rfl (by kernel_rfl) (by kernel_rfl) (by kernel_rfl) (fun _ _ _ h => h) (Or.inl ⟨by kernel_rfl, ?_⟩) (by assumption) ?_; rotate_left; (intro VV hSw; (try dsimp only at hSw); go_simp; first | done | with_reducible rfl); (try simp only [Act.put, sI, sZ, sS])
      refine wpAnyH_ready (rs := [21]) (by kernel_rfl) (by simp) ?_
      refine AllReadyH.cons (o := ⟨some 67, _, _, _, _, _⟩) rfl (fun K hK => ?_) AllReadyH.nil
      · rw [if_pos (by rfl)]
        go_simp
        refine (Test_any l x _ A m cap V102 (HT.out V102 (HB11.out.trans (hS.mono HB11.out.size))) (HR.out V102 (HB11.out.trans (hS.mono HB11.out.size))) HN.out (HE.out V102 (HB11.out.trans (hS.mono HB11.out.size)))).mono ?_
        rintro e V103 ⟨rfl, bb⟩
        have hS1 := hS.trans (bb.mono hS.size)
        refine hK.out _ _ hS1 (fun hSn => ?_)
        clear hK K hSn; (try simp only [Act.put, sI, sZ, sS])
        clear hS
        have hS := hS1
        clear hS1
        rw [← HTT.out]
        refine wpAnyH_ready (rs := [24]) (by kernel_rfl) (by simp) ?_
        refine AllReadyH.cons (o := ⟨some 70, _, _, _, _, _⟩) rfl (fun K hK => ?_) AllReadyH.nil
        · rw [if_pos (by rfl)]
          go_simp
          refine (rTest11_any l x _ A m cap V103 (HT.out V103 (HB11.out.trans (hS.mono HB11.out.size))) (HR.out V103 (HB11.out.trans (hS.mono HB11.out.size))) HN.out).mono ?_
          rintro e V104 ⟨rfl, bb⟩
          have hS1 := hS.trans (bb.mono hS.size)
          refine hK.out _ _ hS1 (fun hSn => ?_)
          clear hK K hSn; (try simp only [Act.put, sI, sZ, sS])
          clear hS
          have hS := hS1
          clear hS1
          rw [← HTT.out]
          refine wpAnyH_take (i := 25) (oi := ⟨some 71, _, _, _, _, _⟩) (v := ?_) rfl (by kernel_rfl) (by kernel_rfl) (by kernel_rfl) (fun _ _ _ h => h) (Or.inl ⟨by kernel_rfl, ?_⟩) (by assumption) ?_; rotate_left; (intro VV hSw; (try dsimp only at hSw); have hee : (TT == TT) = true := beq_self_eq_true _; go_simp; first | done | with_reducible rfl); (try simp only [Act.put, sI, sZ, sS])
          refine wpAnyH_take (i := 26) (oi := ⟨some 72, _, _, _, _, _⟩) (v := ?_) rfl (by kernel_rfl) (by kernel_rfl) (by kernel_rfl) (fun _ _ _ h => h) (Or.inl ⟨by kernel_rfl, ?_⟩) (by assumption) ?_; rotate_left; (intro VV hSw; (try dsimp only at hSw); go_simp; first | done | with_reducible rfl); (try simp only [Act.put, sI, sZ, sS])
          refine wpAnyH_take (i := 27) (oi := ⟨some 73, _, _, _, _, _⟩) (v := ?_) rfl (by kernel_rfl) (by kernel_rfl) (by kernel_rfl) (fun _ _ _ h => h) (Or.inl ⟨by kernel_rfl, ?_⟩) (by assumption) ?_; rotate_left; (intro VV hSw; (try dsimp only at hSw); go_simp; first | done | with_reducible rfl); (try simp only [Act.put, sI, sZ, sS])
          refine wpAnyH_take (i := 28) (oi := ⟨some 74, _, _, _, _, _⟩) (v := ?_) rfl (by kernel_rfl) (by kernel_rfl) (by kernel_rfl) (fun _ _ _ h => h) (Or.inl ⟨by kernel_rfl, ?_⟩) (by assumption) ?_; rotate_left; (intro VV hSw; (try dsimp only at hSw); have hr := (hSw.block _ (heap_lt HG11.out)).trans HG11.out; obtain ⟨y0, y1, y2, y3, y4⟩ := five_of hr; go_simp; first | done | with_reducible rfl); (try simp only [Act.put, sI, sZ, sS])
          refine wpAnyH_take (i := 29) (oi := ⟨some 75, _, _, _, _, _⟩) (v := ?_) rfl (by kernel_rfl) (by kernel_rfl) (by kernel_rfl) (fun _ _ _ h => h) (Or.inl ⟨by kernel_rfl, ?_⟩) (by assumption) ?_; rotate_left; (intro VV hSw; (try dsimp only at hSw); go_simp; first | done | with_reducible rfl); (try simp only [Act.put, sI, sZ, sS])
          refine wpAnyH_take (i := 31) (oi := ⟨some 77, _, _, _, _, _⟩) (v := ?_) rfl (by kernel_rfl) (by kernel_rfl) (by kernel_rfl) (fun _ _ _ h => h) (Or.inl ⟨by kernel_rfl, ?_⟩) (by assumption) ?_; rotate_left; (intro VV hSw; (try dsimp only at hSw); have hr := (hSw.block _ (heap_lt HG11.out)).trans HG11.out; obtain ⟨y0, y1, y2, y3, y4⟩ := five_of hr; go_simp; first | done | with_reducible rfl); (try simp only [Act.put, sI, sZ, sS])
          refine wpAnyH_take (i := 32) (oi := ⟨some 78, _, _, _, _, _⟩) (v := ?_) rfl (by kernel_rfl) (by kernel_rfl) (by kernel_rfl) (fun _ _ _ h => h) (Or.inl ⟨by kernel_rfl, ?_⟩) (by assumption) ?_; rotate_left; (intro VV hSw; (try dsimp only at hSw); go_simp; first | done | with_reducible rfl); (try simp only [Act.put, sI, sZ, sS])
          refine wpAnyH_ready (rs := [30]) (by kernel_rfl) (by simp) ?_
          refine AllReadyH.cons (o := ⟨some 76, _, _, _, _, _⟩) rfl (fun K hK => ?_) AllReadyH.nil
          · rw [if_pos (by rfl)]
            go_simp
            refine (Holds_any l x _ A m cap V104 (HT.out V104 (HB11.out.trans (hS.mono HB11.out.size))) (HR.out V104 (HB11.out.trans (hS.mono HB11.out.size))) HN.out (HE.out V104 (HB11.out.trans (hS.mono HB11.out.size)))).mono ?_
            rintro e V105 ⟨rfl, bb⟩
            have hS1 := hS.trans (bb.mono hS.size)
            refine hK.out _ _ hS1 (fun hSn => ?_)
            clear hK K hSn; (try simp only [Act.put, sI, sZ, sS])
            clear hS
            have hS := hS1
            clear hS1
            rw [← HHH.out]
            refine wpAnyH_ready (rs := [33]) (by kernel_rfl) (by simp) ?_
            refine AllReadyH.cons (o := ⟨some 79, _, _, _, _, _⟩) rfl (fun K hK => ?_) AllReadyH.nil
            · rw [if_pos (by rfl)]
              go_simp
              refine (rHolds_any l x _ A m cap V105 (HT.out V105 (HB11.out.trans (hS.mono HB11.out.size))) (HR.out V105 (HB11.out.trans (hS.mono HB11.out.size))) HN.out).mono ?_
              rintro e V106 ⟨rfl, bb⟩
              have hS1 := hS.trans (bb.mono hS.size)
              refine hK.out _ _ hS1 (fun hSn => ?_)
              clear hK K hSn; (try simp only [Act.put, sI, sZ, sS])
              clear hS
              have hS := hS1
              clear hS1
              rw [← HHH.out]
              refine wpAnyH_take (i := 34) (oi := ⟨some 80, _, _, _, _, _⟩) (v := ?_) rfl (by kernel_rfl) (by kernel_rfl) (by kernel_rfl) (fun _ _ _ h => h) (Or.inl ⟨by kernel_rfl, ?_⟩) (by assumption) ?_; rotate_left; (intro VV hSw; (try dsimp only at hSw); have hee : (HH == HH) = true := beq_self_eq_true _; go_simp; first | done | with_reducible rfl); (try simp only [Act.put, sI, sZ, sS])
              refine wpAnyH_take (i := 35) (oi := ⟨some 81, _, _, _, _, _⟩) (v := ?_) rfl (by kernel_rfl) (by kernel_rfl) (by kernel_rfl) (fun _ _ _ h => h) (Or.inl ⟨by kernel_rfl, ?_⟩) (by assumption) ?_; rotate_left; (intro VV hSw; (try dsimp only at hSw); go_simp; first | done | with_reducible rfl); (try simp only [Act.put, sI, sZ, sS])
              refine wpAnyH_take (i := 36) (oi := ⟨some 82, _, _, _, _, _⟩) (v := ?_) rfl (by kernel_rfl) (by kernel_rfl) (by kernel_rfl) (fun _ _ _ h => h) (Or.inl ⟨by kernel_rfl, ?_⟩) (by assumption) ?_; rotate_left; (intro VV hSw; (try dsimp only at hSw); go_simp; first | done | with_reducible rfl); (try simp only [Act.put, sI, sZ, sS])
              refine wpAnyH_ready (rs := [37]) (by kernel_rfl) (by simp) ?_
              refine AllReadyH.cons (o := ⟨some 83, _, _, _, _, _⟩) rfl (fun K hK => ?_) AllReadyH.nil
              · rw [if_pos (by rfl)]
                go_simp
                refine (wakes11_any V106 (HE.out V106 (HB11.out.trans (hS.mono HB11.out.size)))).mono ?_
                rintro e V107 ⟨rfl, bb⟩
                have hS1 := hS.trans (bb.mono hS.size)
                refine hK.out _ _ hS1 (fun hSn => ?_)
                clear hK K hSn; (try simp only [Act.put, sI, sZ, sS])
                clear hS
                have hS := hS1
                clear hS1
                refine wpAnyH_take (i := 38) (oi := ⟨some 84, _, _, _, _, _⟩) (v := ?_) rfl (by kernel_rfl) (by kernel_rfl) (by kernel_rfl) (fun _ _ _ h => h) (Or.inl ⟨by kernel_rfl, ?_⟩) (by assumption) ?_; rotate_left; (intro VV hSw; (try dsimp only at hSw); go_simp; first | done | with_reducible rfl); (try simp only [Act.put, sI, sZ, sS])
                refine wpAnyH_take (i := 39) (oi := ⟨some 6, _, _, _, _, _⟩) (v := ?_) rfl (by kernel_rfl) (by kernel_rfl) (by kernel_rfl) (fun _ _ _ h => h) (Or.inl ⟨by kernel_rfl, ?_⟩) (by assumption) ?_; rotate_left; (intro VV hSw; (try dsimp only at hSw); go_simp; first | done | with_reducible rfl); (try simp only [Act.put, sI, sZ, sS])
                refine wpAnyH_done (by kernel_rfl) ?_ _
                have HFIN := Lib.hid (HB11.out.trans (hS.mono HB11.out.size))
                clear hS
                go_wp2_with fail
                go_ret
                exact ⟨rfl, HFIN.out⟩
end Go.Proofs.YtkceoiaaiaomoaaGreatDoor
