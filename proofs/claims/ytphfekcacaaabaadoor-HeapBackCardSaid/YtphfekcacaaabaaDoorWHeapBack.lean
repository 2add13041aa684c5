/- HeapBack: its walk. -/
import Derived.Test.YtphfekcacaaabaaDoorHeapZ2
import Derived.Deep.RegionHeld
import Derived.OrdersHeld
import Derived.Deep.DeepCutAuto
import Derived.Tactics2
import Derived.LoopTactic
import Derived.LoopNIn
set_option linter.unusedVariables false
namespace Go.Proofs.YtphfekcacaaabaaDoor
open Go.RowKit

set_option maxHeartbeats 16000000 in
set_option maxRecDepth 100000 in
theorem walk_HeapBack (v0 : Value) (w : World) (o0 : ∃ A n cap l, v0 = .slice A n cap ∧ TRow (· < w.heap.size) w A n cap l) (hL : Spans w ∧ PowTab w) :
    Calls Tryd.prog 4 #[v0] w fun e w' => e = .returned (.bool true) ∧ Below w.heap.size w w' := by
  obtain ⟨A, n, cap, l, rfl, hR⟩ := o0
  obtain rfl := hR.len
  have hmax := hR.max
  unfold maxLen at hmax
  have HR := Lib.hid hR
  have HSP := Lib.hid hL.1
  have HPW := Lib.hid hL.2
  clear hR hL
  by_cases h12 : 12 < l.length
  · have h12' : (12 : Int) < (l.length : Int) := by omega
    go_enter Tryd.func4, Tryd.ntmps4
    go_wp2_with fail
    refine (wakes4_ok w HSP.out HPW.out).mono ?_
    rintro e V ⟨rfl, b⟩
    go_wp2_with fail
    go_ret
    exact ⟨rfl, b⟩
  have h12' : ¬ (12 : Int) < (l.length : Int) := by omega
  go_enter Tryd.func4, Tryd.ntmps4
  go_wp2_with fail
  refine (New_any w.heap.size w (Nat.le_refl _)).mono ?_
  rintro e V1 ⟨rfl, h1, b1⟩
  have H0 : Hid (L1 l w ⟨[], 0, .slice none 0 0, none, 0⟩ 0 (.slice none 0 0) V1) := by
    refine ⟨⟨b1, h1, ?_, fun g hg => by simp [Value.ownBlock] at hg⟩, ⟨good_none, rfl, by show 0 ≤ 1000000; omega⟩, by simp [puts], fun y hy => by simp at hy⟩
    simp only [List.take_zero, puts, flatW, List.flatMap_nil, List.length_nil]
    exact World.ownsRow_nil _ _ _ _
  clear h1 b1
  go_wp2_with fail
  go_loopw [4, 5] (fun wv i wr => ∃ (j : Nat) (s : HSt) (A2 : Option Addr) (cap2 : Nat), j ≤ l.length ∧ i = .int .i64 j ∧ wv = .slice A2 j cap2 ∧ L1 l w s j (.slice A2 j cap2) wr) (fun _ i _ => l.length - (intOf i).toNat)
  case atStart => exact ⟨0, _, none, 0, Nat.zero_le _, rfl, rfl, H0.out⟩
  case round =>
    obtain ⟨j, s, A2, cap2, hj, rfl, rfl, hL1⟩ := hrel
    have H1 := Lib.hid hL1
    clear hL1
    by_cases hlt : j < l.length
    · obtain ⟨y, hy⟩ : ∃ y, l[j]? = some y := ⟨l[j], List.getElem?_eq_getElem hlt⟩
      obtain ⟨ad, u, rfl, had, hEl, hTy⟩ := HR.out.at_ j y hy
      have hT0 := hTy.keep (Q := (· < w.heap.size)) (fun b hb => H1.out.hb.below.block b hb) (fun _ h => h)
      have hEr := hEl.keep (H1.out.hb.below.block ad.block had)
      obtain ⟨k', n', s', t', L', A', cap', hye, rfl⟩ : ∃ k' n' s' t' L' A' cap', y = Tm.mk k' n' s' t' L' ∧ u = .agg #[.int .i8 k', .int .i64 n', .string s', .string t', .slice A' L'.length cap'] := by
        cases hT0; exact ⟨_, _, _, _, _, _, _, rfl, rfl⟩
      have HC := Lib.hid (rCheck_any y _ wr (hT0.mono (fun b hb => Nat.lt_of_lt_of_le hb H1.out.hb.below.size)))
      have HT0 := Lib.hid hT0
      have HER := Lib.hid hEr
      have HY := Lib.hid hy
      obtain ⟨c0, c1, c2, c3, c4, hcc, e0, e1, e2, e3, e4⟩ := hEr
      simp only [Value.agg.injEq, Array.mk.injEq, List.cons.injEq, and_true] at hcc
      obtain ⟨rfl, rfl, rfl, rfl, rfl⟩ := hcc
      have i0 : (0 : Int) ≤ (j : Int) := by omega
      have i1 : (j : Int) < (l.length : Int) := by omega
      have HAD := Lib.hid had
      clear hEl hTy hT0 hye hy had
      by_cases hck : checkN y = 0
      case neg =>
        have hckb : (checkN y != 0) = true := by simpa using hck
        clear hck
        go_wp2_with fail
        refine HC.out.mono ?_
        rintro e V2 ⟨rfl, b2⟩
        have HB2 := Lib.hid (H1.out.hb.below.trans (b2.mono H1.out.hb.below.size))
        clear b2 e0 e1 e2 e3 e4
        go_wp2_with fail
        refine (wakes4_ok V2 (HSP.out.below HB2.out HSP.out.lt) (Go.Lib.tabBelow_of_tabIs HPW.out _ HB2.out)).mono ?_
        rintro e V3 ⟨rfl, b3⟩
        have HB3 := Lib.hid (HB2.out.trans (b3.mono HB2.out.size))
        clear b3
        go_wp2_with fail
        go_ret
        exact ⟨rfl, HB3.out⟩
      case pos =>
        have HCK := Lib.hid hck
        rw [hck] at HC
        clear hck
        go_wp2_with fail
        refine HC.out.mono ?_
        rintro e V2 ⟨rfl, b2⟩
        have hb2 := H1.out.hb.under (Nat.le_refl _) b2
        have hEr := HER.out.keep (b2.block ad.block (Nat.lt_of_lt_of_le HAD.out H1.out.hb.below.size))
        clear e0 e1 e2 e3 e4
        obtain ⟨c0, c1, c2, c3, c4, hcc, e0, e1, e2, e3, e4⟩ := hEr
        simp only [Value.agg.injEq, Array.mk.injEq, List.cons.injEq, and_true] at hcc
        obtain ⟨rfl, rfl, rfl, rfl, rfl⟩ := hcc
        have hall := put_all H1.out.chk (by rw [List.length_take]; omega)
        have hcs := H1.out.cs
        have HP := Lib.hid (Put_any y (· < w.heap.size) (.agg #[(.int .i8 k'), (.int .i64 n'), (.string s'), (.string t'), (.slice A' L'.length cap')]) V2 H1.out.ok (by rw [hcs]; have := hall.2; omega) hb2.below.size hb2.heap (HT0.out.keep (fun b hb => b2.block b (Nat.lt_of_lt_of_le hb H1.out.hb.below.size)) (fun _ h => h)) (fun b hb => ⟨Nat.lt_of_lt_of_le hb hb2.below.size, hb2.heap.low_core hb⟩) (HSP.out.below hb2.below HSP.out.lt))
        have H2 := Lib.hid hb2
        have HALL := Lib.hid hall
        clear b2 hb2 hall hcs
        go_wp2_with fail
        refine HP.out.mono ?_
        rintro e W1 (⟨h0, -⟩ | ⟨-, rfl, s1, hcs1, hws1, hm1⟩)
        · exact absurd HCK.out h0
        obtain ⟨bb, aa, kk, nn, ss, tt, hcc⟩ := HW.shape (put1 s.cs y).2
        rw [hcc]
        have hb3 := H2.out.move (Nat.le_refl _) hm1
        have hrn := hm1.rn
        obtain ⟨W2, hW2⟩ : ∃ W2, W2 = W1.alloc (.cells #[(.bool bb), (.int .i64 aa), (.int .i8 kk), (.int .i64 nn), (.string ss), (.string tt), (.slice none 0 0)] 27) := ⟨_, rfl⟩
        obtain ⟨W3, hW3⟩ : ∃ W3, W3 = W2.alloc (.cells #[(.bool bb), (.int .i64 aa), (.int .i8 kk), (.int .i64 nn), (.string ss), (.string tt), (.slice none 0 0)] 27) := ⟨_, rfl⟩
        have z2 : W2.heap.size = W1.heap.size + 1 := by rw [hW2]; exact World.size_alloc _ _
        have b13 : Below W1.heap.size W1 W3 := by rw [hW3, hW2]; exact ((Below.refl _ _).alloc (Nat.le_refl _) _).alloc (by simp) _
        have g3 : W3.heap[W1.heap.size + 1]? = some (.cells #[(.bool bb), (.int .i64 aa), (.int .i8 kk), (.int .i64 nn), (.string ss), (.string tt), (.slice none 0 0)] 27 (0, 0)) := by rw [hW3, ← z2]; exact block_alloc _ _
        have H3 := Lib.hid (hb3.under (Nat.le_refl _) b13)
        have HG3 := Lib.hid g3
        have HCC := Lib.hid hcc
        have HCS := Lib.hid (And.intro hcs1 (And.intro hws1 hrn))
        have hjl : (puts [] (l.take j)).2.length = j := by rw [puts_len, List.length_take]; omega
        have HJL := Lib.hid hjl
        have HW3 := Lib.hid hW3
        have HLE : Hid ((puts [] (l.take j)).2.length + 1 ≤ 1000000) := by show _ ≤ _; omega
        have HZ3 : Hid (W3.heap.size = W1.heap.size + 2) := by show _ = _; rw [hW3, World.size_alloc, z2]
        clear hcs1 hws1 hm1 hcc hb3 hrn z2 b13 g3 hjl e0 e1 e2 e3 e4
        subst hW2
        go_wp2_with (rw [← hW3]; refine wpList_own_word rfl (.tmp 49) (.tmp 51) rfl H3.out.own (H3.out.ge (Nat.le_refl _)) rfl (W1.heap.size + 1) rfl HG3.out HLE.out ?_)
        intro v5 w5 ho hg hn
        (try rw [← HW3.out] at hg); (try rw [← HW3.out] at hn)
        have hn' : v5.ownBlock = (Value.slice A2 j cap2).ownBlock ∨ v5.ownBlock = some W3.heap.size := hn.imp id (fun e => e.trans (by rw [HZ3.out]))
        have hgr := H3.out.grow (Nat.le_refl _) (y := (put1 s.cs y).2) (by rw [HCC.out]; exact ho) hg hn'
        obtain ⟨A5, cap5, rfl⟩ := ownW_shape ho
        obtain ⟨hcs1, hws1, hrn⟩ := HCS.out
        have hps := puts_take_succ [] HY.out
        have hcs0 := H1.out.cs
        have hnext : L1 l w s1 (j + 1) (.slice A5 (j + 1) cap5) w5 := by
          have hjl := HJL.out
          rw [hjl] at hgr
          refine ⟨?_, ⟨?_, hws1, hrn⟩, ?_, fun z hz => ?_⟩
          · rw [hps, ← hcs0]; exact hgr
          · rw [hcs1]
            have hcv := check_valid HCK.out
            exact (put1_ok y hcv.1 hcv.2 s.cs H1.out.ok.good (by rw [hcs0]; have := HALL.out.2; omega)).good
          · rw [hps, ← hcs0]; exact hcs1
          · rw [List.take_add_one, HY.out] at hz
            simp at hz
            rcases hz with hz | rfl
            · exact H1.out.chk z hz
            · exact HCK.out
        have HNX := Lib.hid hnext
        have hjl := HJL.out
        rw [hjl]
        clear hgr hn' hn hg ho hnext hcs1 hws1 hrn hps hcs0 hW3 hjl
        go_wp2_with fail
        go_roundw
        case rel => exact ⟨j + 1, s1, A5, cap5, by omega, by go_num, rfl, HNX.out⟩
        case measure => simp [intOf]; omega
    · obtain rfl : j = l.length := by omega
      have hchk : ∀ y ∈ l, checkN y = 0 := by
        have := H1.out.chk
        rwa [List.take_length] at this
      have HCHK := Lib.hid hchk
      have H20 : Hid (L2 l w s 0 (.slice A2 l.length cap2) wr) := by
        have h := H1.out
        have hcs := h.cs
        have hb := h.hb
        rw [List.take_length] at hcs hb
        exact ⟨hb, h.ok, ⟨[], by rw [hcs]; simp⟩, by rw [hcs]; have := (put_all hchk (by omega)).2; omega⟩
      clear hchk
      go_wp2_with fail
      go_loopw [8] (fun i wr => ∃ (j : Nat) (s : HSt), j ≤ l.length ∧ i = .int .i64 j ∧ L2 l w s j (.slice A2 l.length cap2) wr) (fun i _ => l.length - (intOf i).toNat)
      case atStart => exact ⟨0, s, Nat.zero_le _, rfl, H20.out⟩
      case round =>
        rename_i wr1 hj1
        obtain ⟨j, s, hj, rfl, h2⟩ := hrel
        have H2 := Lib.hid h2
        clear h2
        by_cases hlt2 : j < l.length
        · obtain ⟨x, hx⟩ : ∃ x, l[j]? = some x := ⟨l[j], List.getElem?_eq_getElem hlt2⟩
          obtain ⟨y, hy2, hyg, hys, hyt⟩ := H2.out.word HCHK.out (by omega) hx
          obtain ⟨gw, capw, hwv, hgw, hcells⟩ := ownW_at H2.out.hb.own hy2
          simp only [Value.slice.injEq] at hwv
          obtain ⟨rfl, -, -⟩ := hwv
          obtain ⟨bb, aa, kk, nn, ss, tt, hcc⟩ := HW.shape y
          obtain ⟨q, hqy, hqm, hqc, hqa, hqx, hqt⟩ := word_aw hyg hcc
          have haw : ∀ (P : Nat → Prop) (W : World), AWAt P W q (.agg #[(.bool bb), (.int .i64 aa), (.int .i8 kk), (.int .i64 nn), (.string ss), (.string tt), (.slice none 0 0)]) := fun P W => ⟨kk, nn, ss, tt, none, 0, 0, by rw [hqc, hqa], by rw [hqx]; exact hqt P W⟩
          have hme := make_two (x := x) hqm (by rw [hqy]; exact hys) (by have := H2.out.len; omega)
          obtain ⟨ad, u, hAad, had, hEl, hTy⟩ := HR.out.at_ j x hx
          obtain ⟨k', n', s', t', L', A', cap', hye, rfl⟩ : ∃ k' n' s' t' L' A' cap', x = Tm.mk k' n' s' t' L' ∧ u = .agg #[.int .i8 k', .int .i64 n', .string s', .string t', .slice A' L'.length cap'] := by
            cases hTy; exact ⟨_, _, _, _, _, _, _, rfl, rfl⟩
          have hrow : RowL wr gw (j * 7) (.bool bb) (.int .i64 aa) (.int .i8 kk) (.int .i64 nn) (.string ss) (.string tt) (.slice none 0 0) := by
            have h0 : ∀ i u, y.cells[i]? = some u → wr.cell? ⟨gw, j * 7 + i, none⟩ = some u := hcells
            rw [hcc] at h0
            exact ⟨h0 0 _ rfl, h0 1 _ rfl, h0 2 _ rfl, h0 3 _ rfl, h0 4 _ rfl, h0 5 _ rfl, h0 6 _ rfl⟩
          have HROW := Lib.hid hrow
          have HAW := Lib.hid haw
          have HQY := Lib.hid hqy
          have HME := Lib.hid hme
          have HMD := Lib.hid (made_two x)
          have HYT := Lib.hid (And.intro hyg (And.intro hys hyt))
          have HOK := Lib.hid H2.out.ok
          have HLEN := Lib.hid H2.out.len
          have HTX := Lib.hid hTy
          have HEL := Lib.hid hEl
          have HADL : Hid (ad.block < w.heap.size) := had
          have HX := Lib.hid hx
          have HCX := Lib.hid (HCHK.out x (List.mem_of_getElem? hx))
          have HXE := Lib.hid hye
          have i0 : (0 : Int) ≤ (j : Int) := by omega
          have i1 : (j : Int) < (l.length : Int) := by omega
          clear hy2 hyg hys hyt hcells hcc hqy hqm hqc hqa hqx hqt haw hme hEl hTy hrow hgw had hx hye
          subst hAad
          go_wp2_with fail
          go_upto_region 18 with fail
          go_cut [9, 10] (fun p e wx => R17 w.heap.size s (.slice (some ⟨gw, 0, none⟩) l.length cap2) (puts [] l).2 (twoE x) y w p e wx)
          case first =>
            have hH0 := H2.out.hb.under (Nat.le_refl _) (V' := wr.drew) ⟨rfl, rfl, rfl, Nat.le_refl _, fun _ _ => rfl⟩
            have hS0 : RowL wr.drew gw (j * 7) (.bool bb) (.int .i64 aa) (.int .i8 kk) (.int .i64 nn) (.string ss) (.string tt) (.slice none 0 0) := HROW.out
            refine wp_region_held (S := fun V => RowL V gw (j * 7) (.bool bb) (.int .i64 aa) (.int .i8 kk) (.int .i64 nn) (.string ss) (.string tt) (.slice none 0 0)) (by kernel_rfl) ?_
            show wpAnyH _ _ _ _ _ _ _ _ wr.drew
            generalize wr.drew = D at hH0 hS0 ⊢
            refine wpAnyH_take (i := 0) (oi := ⟨some 60, _, _, _, _, _⟩) (v := ?_) rfl (by kernel_rfl) (by kernel_rfl) (by kernel_rfl) (fun _ _ _ h => h) (Or.inl ⟨by kernel_rfl, ?_⟩) (by assumption) ?_; rotate_left; (intro w hSw; (try dsimp only at hSw); obtain ⟨r0, r1, r2, r3, r4, r5, r6⟩ := hSw; go_simp; first | done | with_reducible rfl); (try simp only [Act.put, List.setIfInBounds_toArray, List.set_cons_zero, List.set_cons_succ])
            refine wpAnyH_take (i := 1) (oi := ⟨some 61, _, _, _, _, _⟩) (v := ?_) rfl (by kernel_rfl) (by kernel_rfl) (by kernel_rfl) (fun _ _ _ h => h) (Or.inl ⟨by kernel_rfl, ?_⟩) (by assumption) ?_; rotate_left; (intro w hSw; (try dsimp only at hSw); obtain ⟨r0, r1, r2, r3, r4, r5, r6⟩ := hSw; go_simp; first | done | with_reducible rfl); (try simp only [Act.put, List.setIfInBounds_toArray, List.set_cons_zero, List.set_cons_succ])
            refine wpAnyH_take (i := 2) (oi := ⟨some 62, _, _, _, _, _⟩) (v := ?_) rfl (by kernel_rfl) (by kernel_rfl) (by kernel_rfl) (fun _ _ _ h => h) (Or.inl ⟨by kernel_rfl, ?_⟩) (by assumption) ?_; rotate_left; (intro w hSw; (try dsimp only at hSw); obtain ⟨r0, r1, r2, r3, r4, r5, r6⟩ := hSw; go_simp; first | done | with_reducible rfl); (try simp only [Act.put, List.setIfInBounds_toArray, List.set_cons_zero, List.set_cons_succ])
            refine wpAnyH_take (i := 3) (oi := ⟨some 63, _, _, _, _, _⟩) (v := ?_) rfl (by kernel_rfl) (by kernel_rfl) (by kernel_rfl) (fun _ _ _ h => h) (Or.inl ⟨by kernel_rfl, ?_⟩) (by assumption) ?_; rotate_left; (intro w hSw; (try dsimp only at hSw); obtain ⟨r0, r1, r2, r3, r4, r5, r6⟩ := hSw; go_simp; first | done | with_reducible rfl); (try simp only [Act.put, List.setIfInBounds_toArray, List.set_cons_zero, List.set_cons_succ])
            refine wpAnyH_take (i := 4) (oi := ⟨some 64, _, _, _, _, _⟩) (v := ?_) rfl (by kernel_rfl) (by kernel_rfl) (by kernel_rfl) (fun _ _ _ h => h) (Or.inl ⟨by kernel_rfl, ?_⟩) (by assumption) ?_; rotate_left; (intro w hSw; (try dsimp only at hSw); obtain ⟨r0, r1, r2, r3, r4, r5, r6⟩ := hSw; go_simp; first | done | with_reducible rfl); (try simp only [Act.put, List.setIfInBounds_toArray, List.set_cons_zero, List.set_cons_succ])
            refine wpAnyH_take (i := 5) (oi := ⟨some 65, _, _, _, _, _⟩) (v := ?_) rfl (by kernel_rfl) (by kernel_rfl) (by kernel_rfl) (fun _ _ _ h => h) (Or.inl ⟨by kernel_rfl, ?_⟩) (by assumption) ?_; rotate_left; (intro w hSw; (try dsimp only at hSw); obtain ⟨r0, r1, r2, r3, r4, r5, r6⟩ := hSw; go_simp; first | done | with_reducible rfl); (try simp only [Act.put, List.setIfInBounds_toArray, List.set_cons_zero, List.set_cons_succ])
            refine wpAnyH_take (i := 6) (oi := ⟨some 66, _, _, _, _, _⟩) (v := ?_) rfl (by kernel_rfl) (by kernel_rfl) (by kernel_rfl) (fun _ _ _ h => h) (Or.inl ⟨by kernel_rfl, ?_⟩) (by assumption) ?_; rotate_left; (intro w hSw; (try dsimp only at hSw); obtain ⟨r0, r1, r2, r3, r4, r5, r6⟩ := hSw; go_simp; first | done | with_reducible rfl); (try simp only [Act.put, List.setIfInBounds_toArray, List.set_cons_zero, List.set_cons_succ])
            refine wpAnyH_take (i := 7) (oi := ⟨some 67, _, _, _, _, _⟩) (v := ?_) rfl (by kernel_rfl) (by kernel_rfl) (by kernel_rfl) (fun _ _ _ h => h) (Or.inl ⟨by kernel_rfl, ?_⟩) (by assumption) ?_; rotate_left; (intro w hSw; (try dsimp only at hSw); obtain ⟨r0, r1, r2, r3, r4, r5, r6⟩ := hSw; go_simp; first | done | with_reducible rfl); (try simp only [Act.put, List.setIfInBounds_toArray, List.set_cons_zero, List.set_cons_succ])
            refine wpAnyH_take (i := 8) (oi := ⟨some 68, _, _, _, _, _⟩) (v := ?_) rfl (by kernel_rfl) (by kernel_rfl) (by kernel_rfl) (fun _ _ _ h => h) (Or.inl ⟨by kernel_rfl, ?_⟩) (by assumption) ?_; rotate_left; (intro w hSw; (try dsimp only at hSw); obtain ⟨r0, r1, r2, r3, r4, r5, r6⟩ := hSw; go_simp; first | done | with_reducible rfl); (try simp only [Act.put, List.setIfInBounds_toArray, List.set_cons_zero, List.set_cons_succ])
            refine wpAnyH_ready (rs := [9, 14]) (by kernel_rfl) (by simp) ?_
            refine AllReadyH.cons (o := ⟨some 69, _, _, _, _, _⟩) rfl (fun K hK => ?_) (AllReadyH.cons (o := ⟨some 9, _, _, _, _, _⟩) rfl (fun K hK => ?_) AllReadyH.nil)
            · rw [if_pos (by rfl)]
              go_simp
              have gX1 := block_alloc D (.cells #[(.bool bb), (.int .i64 aa), (.int .i8 kk), (.int .i64 nn), (.string ss), (.string tt), (.slice none 0 0), (.bool bb), (.int .i64 aa), (.int .i8 kk), (.int .i64 nn), (.string ss), (.string tt), (.slice none 0 0)] 27)
              obtain ⟨X1, hX1⟩ : ∃ X, X = D.alloc (.cells #[(.bool bb), (.int .i64 aa), (.int .i8 kk), (.int .i64 nn), (.string ss), (.string tt), (.slice none 0 0), (.bool bb), (.int .i64 aa), (.int .i8 kk), (.int .i64 nn), (.string ss), (.string tt), (.slice none 0 0)] 27) := ⟨_, rfl⟩
              have bX1 : Below D.heap.size D X1 := by rw [hX1]; exact (Below.refl _ _).alloc (Nat.le_refl _) _
              rw [← hX1] at gX1 ⊢
              have hH1 := hH0.under (Nat.le_refl _) bX1
              have hS1 := hS0.keep (bX1.block _ (World.block_lt_of_cell? _ _ hS0.1))
              have hK1 := Kept.new hH0.heap bX1 gX1
              clear hX1 bX1
              refine hK.out _ _ hS1 (fun hSn => ?_)
              clear hK K; (try simp only [Act.put, List.setIfInBounds_toArray, List.set_cons_zero, List.set_cons_succ])
              refine wpAnyH_ready (rs := [10, 14]) (by kernel_rfl) (by simp) ?_
              refine AllReadyH.cons (o := ⟨some 70, _, _, _, _, _⟩) rfl (fun K hK => ?_) (AllReadyH.cons (o := ⟨some 9, _, _, _, _, _⟩) rfl (fun K hK => ?_) AllReadyH.nil)
              · rw [if_pos (by rfl)]
                go_simp
                refine ((Make_any (hb := w.heap.size) (s := s) 5 [q, q] (some ⟨D.heap.size, 0, none⟩) 2 (fun b => b = D.heap.size) X1 (hH1.ge (Nat.le_refl _)) hH1.heap HOK.out.rn (fun n c h => HOK.out.good.most n c h) (wrow_two hK1.blk q q (HAW.out _ _) (HAW.out _ _)) (fun b hb => by subst hb; exact ⟨heap_lt hK1.blk, hK1.core.not_fp hK1.ne⟩) (by show 2 ≤ 1000; omega) HOK.out.ws_le (by have := HLEN.out; omega) (show kindB 5 2 = true by decide) (HSP.out.below hH1.below HSP.out.lt))).mono ?_
                rintro e X2 hm2
                obtain ⟨bb2, aa2, s2, rfl, hmv2, hy2, hn2⟩ := make_u hH1.heap HOK.out.rn hm2
                rw [HME.out] at hy2 hn2 ⊢
                have hH2 := hH1.move (Nat.le_refl _) hmv2
                have hS2 := hS1.keep (hmv2.block (World.block_lt_of_cell? _ _ hS1.1) (hH1.apart gw rfl).1 (hH1.apart gw rfl).2)
                have hrn2 := hmv2.rn
                clear hm2
                refine hK.out _ _ hS2 (fun hSn => ?_)
                clear hK K; (try simp only [Act.put, List.setIfInBounds_toArray, List.set_cons_zero, List.set_cons_succ])
                refine wpAnyH_take (i := 11) (oi := ⟨some 59, _, _, _, _, _⟩) (v := ?_) rfl (by kernel_rfl) (by kernel_rfl) (by kernel_rfl) (fun _ _ _ h => h) (Or.inl ⟨by kernel_rfl, ?_⟩) (by assumption) ?_; rotate_left; (intro w hSw; (try dsimp only at hSw); go_simp; first | done | with_reducible rfl); (try simp only [Act.put, List.setIfInBounds_toArray, List.set_cons_zero, List.set_cons_succ])
                refine wpAnyH_take (i := 12) (oi := ⟨some 71, _, _, _, _, _⟩) (v := ?_) rfl (by kernel_rfl) (by kernel_rfl) (by kernel_rfl) (fun _ _ _ h => h) (Or.inl ⟨by kernel_rfl, ?_⟩) (by assumption) ?_; rotate_left; (intro w hSw; (try dsimp only at hSw); go_simp; first | done | with_reducible rfl); (try simp only [Act.put, List.setIfInBounds_toArray, List.set_cons_zero, List.set_cons_succ])
                refine wpAnyH_take (i := 13) (oi := ⟨some 72, _, _, _, _, _⟩) (v := ?_) rfl (by kernel_rfl) (by kernel_rfl) (by kernel_rfl) (fun _ _ _ h => h) (Or.inl ⟨by kernel_rfl, ?_⟩) (by assumption) ?_; rotate_left; (intro w hSw; (try dsimp only at hSw); go_simp; first | done | with_reducible rfl); (try simp only [Act.put, List.setIfInBounds_toArray, List.set_cons_zero, List.set_cons_succ])
                refine wpAnyH_ready (rs := [14]) (by kernel_rfl) (by simp) ?_
                refine AllReadyH.cons (o := ⟨some 9, _, _, _, _, _⟩) rfl (fun K hK => ?_) AllReadyH.nil
                · rw [if_pos (by rfl)]
                  go_simp
                  have gX3 := block_alloc X2 (.cells #[(.bool false), (.int .i64 0), (.int .i8 0), (.int .i64 0), (.string ⟨#[]⟩), (.string ⟨#[]⟩), (.slice none 0 0)] 27)
                  obtain ⟨X3, hX3⟩ : ∃ X, X = X2.alloc (.cells #[(.bool false), (.int .i64 0), (.int .i8 0), (.int .i64 0), (.string ⟨#[]⟩), (.string ⟨#[]⟩), (.slice none 0 0)] 27) := ⟨_, rfl⟩
                  have bX3 : Below X2.heap.size X2 X3 := by rw [hX3]; exact (Below.refl _ _).alloc (Nat.le_refl _) _
                  rw [← hX3] at gX3 ⊢
                  have hH3 := hH2.under (Nat.le_refl _) bX3
                  have hS3 := hS2.keep (bX3.block _ (World.block_lt_of_cell? _ _ hS2.1))
                  have hK3 := Kept.new hH2.heap bX3 gX3
                  have hlt3 : gw < X2.heap.size := World.block_lt_of_cell? _ _ hS2.1
                  have hlo3 : w.heap.size ≤ X2.heap.size := hH2.ge (Nat.le_refl _)
                  clear hX3 bX3
                  refine hK.out _ _ hS3 (fun hSn => ?_)
                  clear hK K; (try simp only [Act.put, List.setIfInBounds_toArray, List.set_cons_zero, List.set_cons_succ])
                  have gB := hK3.blk
                  have y0 : X3.cell? ⟨(X2.heap.size), 0, none⟩ = some (.bool false) := cell_of_row gB rfl
                  have y1 : X3.cell? ⟨(X2.heap.size), 1, none⟩ = some (.int .i64 0) := cell_of_row gB rfl
                  have y2 : X3.cell? ⟨(X2.heap.size), 2, none⟩ = some (.int .i8 0) := cell_of_row gB rfl
                  have y3 : X3.cell? ⟨(X2.heap.size), 3, none⟩ = some (.int .i64 0) := cell_of_row gB rfl
                  have y4 : X3.cell? ⟨(X2.heap.size), 4, none⟩ = some (.string ⟨#[]⟩) := cell_of_row gB rfl
                  have y5 : X3.cell? ⟨(X2.heap.size), 5, none⟩ = some (.string ⟨#[]⟩) := cell_of_row gB rfl
                  have y6 : X3.cell? ⟨(X2.heap.size), 6, none⟩ = some (.slice none 0 0) := cell_of_row gB rfl
                  have fz0 : X3.frozen? ⟨(X2.heap.size), 0, none⟩ = false := free_of_row gB
                  have fz1 : X3.frozen? ⟨(X2.heap.size), 1, none⟩ = false := free_of_row gB
                  have fz2 : X3.frozen? ⟨(X2.heap.size), 2, none⟩ = false := free_of_row gB
                  have fz3 : X3.frozen? ⟨(X2.heap.size), 3, none⟩ = false := free_of_row gB
                  have fz4 : X3.frozen? ⟨(X2.heap.size), 4, none⟩ = false := free_of_row gB
                  have fz5 : X3.frozen? ⟨(X2.heap.size), 5, none⟩ = false := free_of_row gB
                  have fz6 : X3.frozen? ⟨(X2.heap.size), 6, none⟩ = false := free_of_row gB
                  have SV := Lib.hid (set_seven (.bool bb2) (.int .i64 aa2) (.int .i8 0) (.int .i64 0) (.string ⟨#[]⟩) (.string ⟨#[]⟩) (.slice none 0 0) gB)
                  clear gB
                  refine wpAnyH_ready (rs := [15]) (by kernel_rfl) (by simp) ?_
                  refine AllReadyH.cons (o := ⟨none, _, _, _, _, _⟩) rfl (fun K hK => ?_) AllReadyH.nil
                  rw [if_pos (by rfl)]
                  go_simp
                  obtain ⟨s7, m7⟩ := SV.out
                  generalize ((((((X3.setCell ⟨X2.heap.size, 0, none⟩ (.bool bb2)).setCell ⟨X2.heap.size, 1, none⟩ (.int .i64 aa2)).setCell ⟨X2.heap.size, 2, none⟩ (.int .i8 0)).setCell ⟨X2.heap.size, 3, none⟩ (.int .i64 0)).setCell ⟨X2.heap.size, 4, none⟩ (.string ⟨#[]⟩)).setCell ⟨X2.heap.size, 5, none⟩ (.string ⟨#[]⟩)).setCell ⟨X2.heap.size, 6, none⟩ (.slice none 0 0) = X4 at s7 m7 ⊢
                  have hH4 := hH3.write hK3.core hK3.ne hlo3 (fun e => by have e2 : gw = X2.heap.size := Option.some.inj e; omega) (Nat.le_refl _) m7
                  have hS4 := hS3.keep (m7.block _ (World.block_lt_of_cell? _ _ hS3.1) (fun (e : gw = X2.heap.size) => by omega))
                  have hB4 : Kept w.heap.size w.heap.size s2 (X2.heap.size) _ X4 := ⟨s7, hK3.core.write hK3.core m7, hK3.ne⟩
                  clear y0 y1 y2 y3 y4 y5 y6 fz0 fz1 fz2 fz3 fz4 fz5 fz6 SV m7
                  refine hK.out _ _ hS4 (fun hSn => ?_)
                  clear hK K; (try simp only [Act.put, List.setIfInBounds_toArray, List.set_cons_zero, List.set_cons_succ])
                  refine wpAnyH_take (i := 16) (oi := ⟨some 10, _, _, _, _, _⟩) (v := ?_) rfl (by kernel_rfl) (by kernel_rfl) (by kernel_rfl) (fun _ _ _ h => h) (Or.inl ⟨by kernel_rfl, ?_⟩) (by assumption) ?_; rotate_left; (intro w hSw; (try dsimp only at hSw); go_simp; first | done | with_reducible rfl); (try simp only [Act.put, List.setIfInBounds_toArray, List.set_cons_zero, List.set_cons_succ])
                  refine wpAnyH_done (by kernel_rfl) ?_ _
                  have HFIN := Lib.hid (And.intro hH4 (And.intro hB4 (And.intro hrn2 (And.intro hy2 hn2))))
                  clear hH4 hS4 hB4 hy2 hn2
                  go_wp2_with fail
                  go_meet
                  exact ⟨bb2, aa2, s2, _, rfl, rfl, HFIN.out.1, HFIN.out.2.1, HFIN.out.2.2.1, fun h => by have h5 := HFIN.out.2.2.2.1 h; rw [show ([q, q].map AW.hw) = [y, y] by simp [HQY.out]] at h5; exact h5, HFIN.out.2.2.2.2⟩
              · rw [if_pos (by rfl)]
                go_simp
                have gX5 := block_alloc X1 (.cells #[(.bool false), (.int .i64 0), (.int .i8 0), (.int .i64 0), (.string ⟨#[]⟩), (.string ⟨#[]⟩), (.slice none 0 0)] 27)
                obtain ⟨X5, hX5⟩ : ∃ X, X = X1.alloc (.cells #[(.bool false), (.int .i64 0), (.int .i8 0), (.int .i64 0), (.string ⟨#[]⟩), (.string ⟨#[]⟩), (.slice none 0 0)] 27) := ⟨_, rfl⟩
                have bX5 : Below X1.heap.size X1 X5 := by rw [hX5]; exact (Below.refl _ _).alloc (Nat.le_refl _) _
                rw [← hX5] at gX5 ⊢
                have hH5 := hH1.under (Nat.le_refl _) bX5
                have hS5 := hS1.keep (bX5.block _ (World.block_lt_of_cell? _ _ hS1.1))
                have hK5 := Kept.new hH1.heap bX5 gX5
                have hlt5 : gw < X1.heap.size := World.block_lt_of_cell? _ _ hS1.1
                have hlo5 : w.heap.size ≤ X1.heap.size := hH1.ge (Nat.le_refl _)
                have hR5 := hK1.under bX5
                clear hX5 bX5
                refine hK.out _ _ hS5 (fun hSn => ?_)
                clear hK K; (try simp only [Act.put, List.setIfInBounds_toArray, List.set_cons_zero, List.set_cons_succ])
                refine wpAnyH_ready (rs := [10]) (by kernel_rfl) (by simp) ?_
                refine AllReadyH.cons (o := ⟨some 70, _, _, _, _, _⟩) rfl (fun K hK => ?_) AllReadyH.nil
                · rw [if_pos (by rfl)]
                  go_simp
                  refine ((Make_any (hb := w.heap.size) (s := s) 5 [q, q] (some ⟨D.heap.size, 0, none⟩) 2 (fun b => b = D.heap.size) X5 (hH5.ge (Nat.le_refl _)) hH5.heap HOK.out.rn (fun n c h => HOK.out.good.most n c h) (wrow_two hR5.blk q q (HAW.out _ _) (HAW.out _ _)) (fun b hb => by subst hb; exact ⟨heap_lt hR5.blk, hR5.core.not_fp hR5.ne⟩) (by show 2 ≤ 1000; omega) HOK.out.ws_le (by have := HLEN.out; omega) (show kindB 5 2 = true by decide) (HSP.out.below hH5.below HSP.out.lt))).mono ?_
                  rintro e X6 hm6
                  obtain ⟨bb6, aa6, s6, rfl, hmv6, hy6, hn6⟩ := make_u hH5.heap HOK.out.rn hm6
                  rw [HME.out] at hy6 hn6 ⊢
                  have hH6 := hH5.move (Nat.le_refl _) hmv6
                  have hS6 := hS5.keep (hmv6.block (World.block_lt_of_cell? _ _ hS5.1) (hH5.apart gw rfl).1 (hH5.apart gw rfl).2)
                  have hB6 := hK5.move hmv6
                  have hrn6 := hmv6.rn
                  clear hm6
                  refine hK.out _ _ hS6 (fun hSn => ?_)
                  clear hK K; (try simp only [Act.put, List.setIfInBounds_toArray, List.set_cons_zero, List.set_cons_succ])
                  refine wpAnyH_take (i := 11) (oi := ⟨some 59, _, _, _, _, _⟩) (v := ?_) rfl (by kernel_rfl) (by kernel_rfl) (by kernel_rfl) (fun _ _ _ h => h) (Or.inl ⟨by kernel_rfl, ?_⟩) (by assumption) ?_; rotate_left; (intro w hSw; (try dsimp only at hSw); go_simp; first | done | with_reducible rfl); (try simp only [Act.put, List.setIfInBounds_toArray, List.set_cons_zero, List.set_cons_succ])
                  refine wpAnyH_take (i := 12) (oi := ⟨some 71, _, _, _, _, _⟩) (v := ?_) rfl (by kernel_rfl) (by kernel_rfl) (by kernel_rfl) (fun _ _ _ h => h) (Or.inl ⟨by kernel_rfl, ?_⟩) (by assumption) ?_; rotate_left; (intro w hSw; (try dsimp only at hSw); go_simp; first | done | with_reducible rfl); (try simp only [Act.put, List.setIfInBounds_toArray, List.set_cons_zero, List.set_cons_succ])
                  refine wpAnyH_take (i := 13) (oi := ⟨some 72, _, _, _, _, _⟩) (v := ?_) rfl (by kernel_rfl) (by kernel_rfl) (by kernel_rfl) (fun _ _ _ h => h) (Or.inl ⟨by kernel_rfl, ?_⟩) (by assumption) ?_; rotate_left; (intro w hSw; (try dsimp only at hSw); go_simp; first | done | with_reducible rfl); (try simp only [Act.put, List.setIfInBounds_toArray, List.set_cons_zero, List.set_cons_succ])
                  have gB := hB6.blk
                  have y0 : X6.cell? ⟨(X1.heap.size), 0, none⟩ = some (.bool false) := cell_of_row gB rfl
                  have y1 : X6.cell? ⟨(X1.heap.size), 1, none⟩ = some (.int .i64 0) := cell_of_row gB rfl
                  have y2 : X6.cell? ⟨(X1.heap.size), 2, none⟩ = some (.int .i8 0) := cell_of_row gB rfl
                  have y3 : X6.cell? ⟨(X1.heap.size), 3, none⟩ = some (.int .i64 0) := cell_of_row gB rfl
                  have y4 : X6.cell? ⟨(X1.heap.size), 4, none⟩ = some (.string ⟨#[]⟩) := cell_of_row gB rfl
                  have y5 : X6.cell? ⟨(X1.heap.size), 5, none⟩ = some (.string ⟨#[]⟩) := cell_of_row gB rfl
                  have y6 : X6.cell? ⟨(X1.heap.size), 6, none⟩ = some (.slice none 0 0) := cell_of_row gB rfl
                  have fz0 : X6.frozen? ⟨(X1.heap.size), 0, none⟩ = false := free_of_row gB
                  have fz1 : X6.frozen? ⟨(X1.heap.size), 1, none⟩ = false := free_of_row gB
                  have fz2 : X6.frozen? ⟨(X1.heap.size), 2, none⟩ = false := free_of_row gB
                  have fz3 : X6.frozen? ⟨(X1.heap.size), 3, none⟩ = false := free_of_row gB
                  have fz4 : X6.frozen? ⟨(X1.heap.size), 4, none⟩ = false := free_of_row gB
                  have fz5 : X6.frozen? ⟨(X1.heap.size), 5, none⟩ = false := free_of_row gB
                  have fz6 : X6.frozen? ⟨(X1.heap.size), 6, none⟩ = false := free_of_row gB
                  have SV := Lib.hid (set_seven (.bool bb6) (.int .i64 aa6) (.int .i8 0) (.int .i64 0) (.string ⟨#[]⟩) (.string ⟨#[]⟩) (.slice none 0 0) gB)
                  clear gB
                  refine wpAnyH_ready (rs := [15]) (by kernel_rfl) (by simp) ?_
                  refine AllReadyH.cons (o := ⟨none, _, _, _, _, _⟩) rfl (fun K hK => ?_) AllReadyH.nil
                  rw [if_pos (by rfl)]
                  go_simp
                  obtain ⟨s7, m7⟩ := SV.out
                  generalize ((((((X6.setCell ⟨X1.heap.size, 0, none⟩ (.bool bb6)).setCell ⟨X1.heap.size, 1, none⟩ (.int .i64 aa6)).setCell ⟨X1.heap.size, 2, none⟩ (.int .i8 0)).setCell ⟨X1.heap.size, 3, none⟩ (.int .i64 0)).setCell ⟨X1.heap.size, 4, none⟩ (.string ⟨#[]⟩)).setCell ⟨X1.heap.size, 5, none⟩ (.string ⟨#[]⟩)).setCell ⟨X1.heap.size, 6, none⟩ (.slice none 0 0) = X7 at s7 m7 ⊢
                  have hH7 := hH6.write hB6.core hB6.ne hlo5 (fun e => by have e2 : gw = X1.heap.size := Option.some.inj e; omega) (Nat.le_refl _) m7
                  have hS7 := hS6.keep (m7.block _ (World.block_lt_of_cell? _ _ hS6.1) (fun (e : gw = X1.heap.size) => by omega))
                  have hB7 : Kept w.heap.size w.heap.size s6 (X1.heap.size) _ X7 := ⟨s7, hB6.core.write hB6.core m7, hB6.ne⟩
                  clear y0 y1 y2 y3 y4 y5 y6 fz0 fz1 fz2 fz3 fz4 fz5 fz6 SV m7
                  refine hK.out _ _ hS7 (fun hSn => ?_)
                  clear hK K; (try simp only [Act.put, List.setIfInBounds_toArray, List.set_cons_zero, List.set_cons_succ])
                  refine wpAnyH_take (i := 16) (oi := ⟨some 10, _, _, _, _, _⟩) (v := ?_) rfl (by kernel_rfl) (by kernel_rfl) (by kernel_rfl) (fun _ _ _ h => h) (Or.inl ⟨by kernel_rfl, ?_⟩) (by assumption) ?_; rotate_left; (intro w hSw; (try dsimp only at hSw); go_simp; first | done | with_reducible rfl); (try simp only [Act.put, List.setIfInBounds_toArray, List.set_cons_zero, List.set_cons_succ])
                  refine wpAnyH_done (by kernel_rfl) ?_ _
                  have HFIN := Lib.hid (And.intro hH7 (And.intro hB7 (And.intro hrn6 (And.intro hy6 hn6))))
                  clear hH7 hS7 hB7 hy6 hn6
                  go_wp2_with fail
                  go_meet
                  exact ⟨bb6, aa6, s6, _, rfl, rfl, HFIN.out.1, HFIN.out.2.1, HFIN.out.2.2.1, fun h => by have h5 := HFIN.out.2.2.2.1 h; rw [show ([q, q].map AW.hw) = [y, y] by simp [HQY.out]] at h5; exact h5, HFIN.out.2.2.2.2⟩
            · rw [if_pos (by rfl)]
              go_simp
              have gX8 := block_alloc D (.cells #[(.bool false), (.int .i64 0), (.int .i8 0), (.int .i64 0), (.string ⟨#[]⟩), (.string ⟨#[]⟩), (.slice none 0 0)] 27)
              obtain ⟨X8, hX8⟩ : ∃ X, X = D.alloc (.cells #[(.bool false), (.int .i64 0), (.int .i8 0), (.int .i64 0), (.string ⟨#[]⟩), (.string ⟨#[]⟩), (.slice none 0 0)] 27) := ⟨_, rfl⟩
              have bX8 : Below D.heap.size D X8 := by rw [hX8]; exact (Below.refl _ _).alloc (Nat.le_refl _) _
              rw [← hX8] at gX8 ⊢
              have hH8 := hH0.under (Nat.le_refl _) bX8
              have hS8 := hS0.keep (bX8.block _ (World.block_lt_of_cell? _ _ hS0.1))
              have hK8 := Kept.new hH0.heap bX8 gX8
              have hlt8 : gw < D.heap.size := World.block_lt_of_cell? _ _ hS0.1
              have hlo8 : w.heap.size ≤ D.heap.size := hH0.ge (Nat.le_refl _)
              clear hX8 bX8
              refine hK.out _ _ hS8 (fun hSn => ?_)
              clear hK K; (try simp only [Act.put, List.setIfInBounds_toArray, List.set_cons_zero, List.set_cons_succ])
              refine wpAnyH_ready (rs := [9]) (by kernel_rfl) (by simp) ?_
              refine AllReadyH.cons (o := ⟨some 69, _, _, _, _, _⟩) rfl (fun K hK => ?_) AllReadyH.nil
              · rw [if_pos (by rfl)]
                go_simp
                have gX9 := block_alloc X8 (.cells #[(.bool bb), (.int .i64 aa), (.int .i8 kk), (.int .i64 nn), (.string ss), (.string tt), (.slice none 0 0), (.bool bb), (.int .i64 aa), (.int .i8 kk), (.int .i64 nn), (.string ss), (.string tt), (.slice none 0 0)] 27)
                obtain ⟨X9, hX9⟩ : ∃ X, X = X8.alloc (.cells #[(.bool bb), (.int .i64 aa), (.int .i8 kk), (.int .i64 nn), (.string ss), (.string tt), (.slice none 0 0), (.bool bb), (.int .i64 aa), (.int .i8 kk), (.int .i64 nn), (.string ss), (.string tt), (.slice none 0 0)] 27) := ⟨_, rfl⟩
                have bX9 : Below X8.heap.size X8 X9 := by rw [hX9]; exact (Below.refl _ _).alloc (Nat.le_refl _) _
                rw [← hX9] at gX9 ⊢
                have hH9 := hH8.under (Nat.le_refl _) bX9
                have hS9 := hS8.keep (bX9.block _ (World.block_lt_of_cell? _ _ hS8.1))
                have hK9 := Kept.new hH8.heap bX9 gX9
                have hB9 := hK8.under bX9
                clear hX9 bX9
                refine hK.out _ _ hS9 (fun hSn => ?_)
                clear hK K; (try simp only [Act.put, List.setIfInBounds_toArray, List.set_cons_zero, List.set_cons_succ])
                refine wpAnyH_ready (rs := [10]) (by kernel_rfl) (by simp) ?_
                refine AllReadyH.cons (o := ⟨some 70, _, _, _, _, _⟩) rfl (fun K hK => ?_) AllReadyH.nil
                · rw [if_pos (by rfl)]
                  go_simp
                  refine ((Make_any (hb := w.heap.size) (s := s) 5 [q, q] (some ⟨X8.heap.size, 0, none⟩) 2 (fun b => b = X8.heap.size) X9 (hH9.ge (Nat.le_refl _)) hH9.heap HOK.out.rn (fun n c h => HOK.out.good.most n c h) (wrow_two hK9.blk q q (HAW.out _ _) (HAW.out _ _)) (fun b hb => by subst hb; exact ⟨heap_lt hK9.blk, hK9.core.not_fp hK9.ne⟩) (by show 2 ≤ 1000; omega) HOK.out.ws_le (by have := HLEN.out; omega) (show kindB 5 2 = true by decide) (HSP.out.below hH9.below HSP.out.lt))).mono ?_
                  rintro e X10 hm10
                  obtain ⟨bb10, aa10, s10, rfl, hmv10, hy10, hn10⟩ := make_u hH9.heap HOK.out.rn hm10
                  rw [HME.out] at hy10 hn10 ⊢
                  have hH10 := hH9.move (Nat.le_refl _) hmv10
                  have hS10 := hS9.keep (hmv10.block (World.block_lt_of_cell? _ _ hS9.1) (hH9.apart gw rfl).1 (hH9.apart gw rfl).2)
                  have hB10 := hB9.move hmv10
                  have hrn10 := hmv10.rn
                  clear hm10
                  refine hK.out _ _ hS10 (fun hSn => ?_)
                  clear hK K; (try simp only [Act.put, List.setIfInBounds_toArray, List.set_cons_zero, List.set_cons_succ])
                  refine wpAnyH_take (i := 11) (oi := ⟨some 59, _, _, _, _, _⟩) (v := ?_) rfl (by kernel_rfl) (by kernel_rfl) (by kernel_rfl) (fun _ _ _ h => h) (Or.inl ⟨by kernel_rfl, ?_⟩) (by assumption) ?_; rotate_left; (intro w hSw; (try dsimp only at hSw); go_simp; first | done | with_reducible rfl); (try simp only [Act.put, List.setIfInBounds_toArray, List.set_cons_zero, List.set_cons_succ])
                  refine wpAnyH_take (i := 12) (oi := ⟨some 71, _, _, _, _, _⟩) (v := ?_) rfl (by kernel_rfl) (by kernel_rfl) (by kernel_rfl) (fun _ _ _ h => h) (Or.inl ⟨by kernel_rfl, ?_⟩) (by assumption) ?_; rotate_left; (intro w hSw; (try dsimp only at hSw); go_simp; first | done | with_reducible rfl); (try simp only [Act.put, List.setIfInBounds_toArray, List.set_cons_zero, List.set_cons_succ])
                  refine wpAnyH_take (i := 13) (oi := ⟨some 72, _, _, _, _, _⟩) (v := ?_) rfl (by kernel_rfl) (by kernel_rfl) (by kernel_rfl) (fun _ _ _ h => h) (Or.inl ⟨by kernel_rfl, ?_⟩) (by assumption) ?_; rotate_left; (intro w hSw; (try dsimp only at hSw); go_simp; first | done | with_reducible rfl); (try simp only [Act.put, List.setIfInBounds_toArray, List.set_cons_zero, List.set_cons_succ])
                  have gB := hB10.blk
                  have y0 : X10.cell? ⟨(D.heap.size), 0, none⟩ = some (.bool false) := cell_of_row gB rfl
                  have y1 : X10.cell? ⟨(D.heap.size), 1, none⟩ = some (.int .i64 0) := cell_of_row gB rfl
                  have y2 : X10.cell? ⟨(D.heap.size), 2, none⟩ = some (.int .i8 0) := cell_of_row gB rfl
                  have y3 : X10.cell? ⟨(D.heap.size), 3, none⟩ = some (.int .i64 0) := cell_of_row gB rfl
                  have y4 : X10.cell? ⟨(D.heap.size), 4, none⟩ = some (.string ⟨#[]⟩) := cell_of_row gB rfl
                  have y5 : X10.cell? ⟨(D.heap.size), 5, none⟩ = some (.string ⟨#[]⟩) := cell_of_row gB rfl
                  have y6 : X10.cell? ⟨(D.heap.size), 6, none⟩ = some (.slice none 0 0) := cell_of_row gB rfl
                  have fz0 : X10.frozen? ⟨(D.heap.size), 0, none⟩ = false := free_of_row gB
                  have fz1 : X10.frozen? ⟨(D.heap.size), 1, none⟩ = false := free_of_row gB
                  have fz2 : X10.frozen? ⟨(D.heap.size), 2, none⟩ = false := free_of_row gB
                  have fz3 : X10.frozen? ⟨(D.heap.size), 3, none⟩ = false := free_of_row gB
                  have fz4 : X10.frozen? ⟨(D.heap.size), 4, none⟩ = false := free_of_row gB
                  have fz5 : X10.frozen? ⟨(D.heap.size), 5, none⟩ = false := free_of_row gB
                  have fz6 : X10.frozen? ⟨(D.heap.size), 6, none⟩ = false := free_of_row gB
                  have SV := Lib.hid (set_seven (.bool bb10) (.int .i64 aa10) (.int .i8 0) (.int .i64 0) (.string ⟨#[]⟩) (.string ⟨#[]⟩) (.slice none 0 0) gB)
                  clear gB
                  refine wpAnyH_ready (rs := [15]) (by kernel_rfl) (by simp) ?_
                  refine AllReadyH.cons (o := ⟨none, _, _, _, _, _⟩) rfl (fun K hK => ?_) AllReadyH.nil
                  rw [if_pos (by rfl)]
                  go_simp
                  obtain ⟨s7, m7⟩ := SV.out
                  generalize ((((((X10.setCell ⟨D.heap.size, 0, none⟩ (.bool bb10)).setCell ⟨D.heap.size, 1, none⟩ (.int .i64 aa10)).setCell ⟨D.heap.size, 2, none⟩ (.int .i8 0)).setCell ⟨D.heap.size, 3, none⟩ (.int .i64 0)).setCell ⟨D.heap.size, 4, none⟩ (.string ⟨#[]⟩)).setCell ⟨D.heap.size, 5, none⟩ (.string ⟨#[]⟩)).setCell ⟨D.heap.size, 6, none⟩ (.slice none 0 0) = X11 at s7 m7 ⊢
                  have hH11 := hH10.write hB10.core hB10.ne hlo8 (fun e => by have e2 : gw = D.heap.size := Option.some.inj e; omega) (Nat.le_refl _) m7
                  have hS11 := hS10.keep (m7.block _ (World.block_lt_of_cell? _ _ hS10.1) (fun (e : gw = D.heap.size) => by omega))
                  have hB11 : Kept w.heap.size w.heap.size s10 (D.heap.size) _ X11 := ⟨s7, hB10.core.write hB10.core m7, hB10.ne⟩
                  clear y0 y1 y2 y3 y4 y5 y6 fz0 fz1 fz2 fz3 fz4 fz5 fz6 SV m7
                  refine hK.out _ _ hS11 (fun hSn => ?_)
                  clear hK K; (try simp only [Act.put, List.setIfInBounds_toArray, List.set_cons_zero, List.set_cons_succ])
                  refine wpAnyH_take (i := 16) (oi := ⟨some 10, _, _, _, _, _⟩) (v := ?_) rfl (by kernel_rfl) (by kernel_rfl) (by kernel_rfl) (fun _ _ _ h => h) (Or.inl ⟨by kernel_rfl, ?_⟩) (by assumption) ?_; rotate_left; (intro w hSw; (try dsimp only at hSw); go_simp; first | done | with_reducible rfl); (try simp only [Act.put, List.setIfInBounds_toArray, List.set_cons_zero, List.set_cons_succ])
                  refine wpAnyH_done (by kernel_rfl) ?_ _
                  have HFIN := Lib.hid (And.intro hH11 (And.intro hB11 (And.intro hrn10 (And.intro hy10 hn10))))
                  clear hH11 hS11 hB11 hy10 hn10
                  go_wp2_with fail
                  go_meet
                  exact ⟨bb10, aa10, s10, _, rfl, rfl, HFIN.out.1, HFIN.out.2.1, HFIN.out.2.2.1, fun h => by have h5 := HFIN.out.2.2.2.1 h; rw [show ([q, q].map AW.hw) = [y, y] by simp [HQY.out]] at h5; exact h5, HFIN.out.2.2.2.2⟩
          case rest =>
            obtain ⟨b1, a1, s1, gB, rfl, rfl, hH1, hK1, hrn1, hy1, hn1⟩ := hcut
            obtain ⟨wq, hwq⟩ : ∃ wq, wq = wc := ⟨_, rfl⟩
            subst hwq
            have HH1 := Lib.hid hH1
            have HK1 := Lib.hid hK1
            have HY1 := Lib.hid hy1
            have HN1 := Lib.hid hn1
            have HWQ : Hid (w.heap.size ≤ wq.heap.size) := hH1.below.size
            have hrf : RowF wq ad j (.int .i8 k') (.int .i64 n') (.string s') (.string t') (.slice A' L'.length cap') := by
              obtain ⟨c0, c1, c2, c3, c4, hcc, e0, e1, e2, e3, e4⟩ := HEL.out.keep (hH1.below.block ad.block HADL.out)
              simp only [Value.agg.injEq, Array.mk.injEq, List.cons.injEq, and_true] at hcc
              obtain ⟨rfl, rfl, rfl, rfl, rfl⟩ := hcc
              exact ⟨e0, e1, e2, e3, e4⟩
            have HRF := Lib.hid hrf
            have HADQ : Hid (ad.block < wq.heap.size) := Nat.lt_of_lt_of_le HADL.out HWQ.out
            have HTQ := Lib.hid (HTX.out.keep (Q := (· < w.heap.size)) (fun b hb => hH1.below.block b hb) (fun _ h => h))
            clear hH1 hK1 hy1 hn1 hrf
            go_upto_region 19 with fail
            go_cut [11, 12] (fun p e wx => R18 (twoE x) x wq p e wx)
            case first =>
              have hS0 : RowF wq.drew ad j (.int .i8 k') (.int .i64 n') (.string s') (.string t') (.slice A' L'.length cap') := HRF.out
              have hD0 : Below wq.heap.size wq wq.drew := ⟨rfl, rfl, rfl, Nat.le_refl _, fun _ _ => rfl⟩
              have hwq := HWQ.out
              refine wp_region_held (S := fun V => RowF V ad j (.int .i8 k') (.int .i64 n') (.string s') (.string t') (.slice A' L'.length cap')) (by kernel_rfl) ?_
              show wpAnyH _ _ _ _ _ _ _ _ wq.drew
              generalize wq.drew = D at hS0 hD0 ⊢
              refine wpAnyH_take (i := 0) (oi := ⟨some 74, _, _, _, _, _⟩) (v := ?_) rfl (by kernel_rfl) (by kernel_rfl) (by kernel_rfl) (fun _ _ _ h => h) (Or.inl ⟨by kernel_rfl, ?_⟩) (by assumption) ?_; rotate_left; (intro w hSw; (try dsimp only at hSw); obtain ⟨r0, r1, r2, r3, r4⟩ := hSw; go_simp; first | done | with_reducible rfl); (try simp only [Act.put, List.setIfInBounds_toArray, List.set_cons_zero, List.set_cons_succ])
              refine wpAnyH_take (i := 1) (oi := ⟨some 75, _, _, _, _, _⟩) (v := ?_) rfl (by kernel_rfl) (by kernel_rfl) (by kernel_rfl) (fun _ _ _ h => h) (Or.inl ⟨by kernel_rfl, ?_⟩) (by assumption) ?_; rotate_left; (intro w hSw; (try dsimp only at hSw); obtain ⟨r0, r1, r2, r3, r4⟩ := hSw; go_simp; first | done | with_reducible rfl); (try simp only [Act.put, List.setIfInBounds_toArray, List.set_cons_zero, List.set_cons_succ])
              refine wpAnyH_take (i := 2) (oi := ⟨some 76, _, _, _, _, _⟩) (v := ?_) rfl (by kernel_rfl) (by kernel_rfl) (by kernel_rfl) (fun _ _ _ h => h) (Or.inl ⟨by kernel_rfl, ?_⟩) (by assumption) ?_; rotate_left; (intro w hSw; (try dsimp only at hSw); obtain ⟨r0, r1, r2, r3, r4⟩ := hSw; go_simp; first | done | with_reducible rfl); (try simp only [Act.put, List.setIfInBounds_toArray, List.set_cons_zero, List.set_cons_succ])
              refine wpAnyH_take (i := 3) (oi := ⟨some 77, _, _, _, _, _⟩) (v := ?_) rfl (by kernel_rfl) (by kernel_rfl) (by kernel_rfl) (fun _ _ _ h => h) (Or.inl ⟨by kernel_rfl, ?_⟩) (by assumption) ?_; rotate_left; (intro w hSw; (try dsimp only at hSw); obtain ⟨r0, r1, r2, r3, r4⟩ := hSw; go_simp; first | done | with_reducible rfl); (try simp only [Act.put, List.setIfInBounds_toArray, List.set_cons_zero, List.set_cons_succ])
              refine wpAnyH_take (i := 4) (oi := ⟨some 78, _, _, _, _, _⟩) (v := ?_) rfl (by kernel_rfl) (by kernel_rfl) (by kernel_rfl) (fun _ _ _ h => h) (Or.inl ⟨by kernel_rfl, ?_⟩) (by assumption) ?_; rotate_left; (intro w hSw; (try dsimp only at hSw); obtain ⟨r0, r1, r2, r3, r4⟩ := hSw; go_simp; first | done | with_reducible rfl); (try simp only [Act.put, List.setIfInBounds_toArray, List.set_cons_zero, List.set_cons_succ])
              refine wpAnyH_take (i := 5) (oi := ⟨some 79, _, _, _, _, _⟩) (v := ?_) rfl (by kernel_rfl) (by kernel_rfl) (by kernel_rfl) (fun _ _ _ h => h) (Or.inl ⟨by kernel_rfl, ?_⟩) (by assumption) ?_; rotate_left; (intro w hSw; (try dsimp only at hSw); obtain ⟨r0, r1, r2, r3, r4⟩ := hSw; go_simp; first | done | with_reducible rfl); (try simp only [Act.put, List.setIfInBounds_toArray, List.set_cons_zero, List.set_cons_succ])
              refine wpAnyH_take (i := 6) (oi := ⟨some 80, _, _, _, _, _⟩) (v := ?_) rfl (by kernel_rfl) (by kernel_rfl) (by kernel_rfl) (fun _ _ _ h => h) (Or.inl ⟨by kernel_rfl, ?_⟩) (by assumption) ?_; rotate_left; (intro w hSw; (try dsimp only at hSw); obtain ⟨r0, r1, r2, r3, r4⟩ := hSw; go_simp; first | done | with_reducible rfl); (try simp only [Act.put, List.setIfInBounds_toArray, List.set_cons_zero, List.set_cons_succ])
              refine wpAnyH_take (i := 7) (oi := ⟨some 81, _, _, _, _, _⟩) (v := ?_) rfl (by kernel_rfl) (by kernel_rfl) (by kernel_rfl) (fun _ _ _ h => h) (Or.inl ⟨by kernel_rfl, ?_⟩) (by assumption) ?_; rotate_left; (intro w hSw; (try dsimp only at hSw); obtain ⟨r0, r1, r2, r3, r4⟩ := hSw; go_simp; first | done | with_reducible rfl); (try simp only [Act.put, List.setIfInBounds_toArray, List.set_cons_zero, List.set_cons_succ])
              refine wpAnyH_ready (rs := [8, 13]) (by kernel_rfl) (by simp) ?_
              refine AllReadyH.cons (o := ⟨some 82, _, _, _, _, _⟩) rfl (fun K hK => ?_) (AllReadyH.cons (o := ⟨some 11, _, _, _, _, _⟩) rfl (fun K hK => ?_) AllReadyH.nil)
              · rw [if_pos (by rfl)]
                go_simp
                have gX12 := block_alloc D (.cells #[(.int .i8 k'), (.int .i64 n'), (.string s'), (.string t'), (.slice A' L'.length cap'), (.int .i8 k'), (.int .i64 n'), (.string s'), (.string t'), (.slice A' L'.length cap')] 25)
                obtain ⟨X12, hX12⟩ : ∃ X, X = D.alloc (.cells #[(.int .i8 k'), (.int .i64 n'), (.string s'), (.string t'), (.slice A' L'.length cap'), (.int .i8 k'), (.int .i64 n'), (.string s'), (.string t'), (.slice A' L'.length cap')] 25) := ⟨_, rfl⟩
                have bX12 : Below D.heap.size D X12 := by rw [hX12]; exact (Below.refl _ _).alloc (Nat.le_refl _) _
                rw [← hX12] at gX12 ⊢
                have hD12 := hD0.trans (bX12.mono hD0.size)
                have hS12 := hS0.keep (bX12.block _ (Nat.lt_of_lt_of_le HADQ.out hD0.size))
                have hsz12 : D.heap.size < X12.heap.size := heap_lt gX12
                clear hX12 bX12
                refine hK.out _ _ hS12 (fun hSn => ?_)
                clear hK K; (try simp only [Act.put, List.setIfInBounds_toArray, List.set_cons_zero, List.set_cons_succ])
                refine wpAnyH_ready (rs := [9, 13]) (by kernel_rfl) (by simp) ?_
                refine AllReadyH.cons (o := ⟨some 83, _, _, _, _, _⟩) rfl (fun K hK => ?_) (AllReadyH.cons (o := ⟨some 11, _, _, _, _, _⟩) rfl (fun K hK => ?_) AllReadyH.nil)
                · rw [if_pos (by rfl)]
                  go_simp
                  have hxx13 : TmAt (· < w.heap.size) X12 x (.agg #[(.int .i8 k'), (.int .i64 n'), (.string s'), (.string t'), (.slice A' L'.length cap')]) := HTQ.out.keep (fun b hb => hD12.block b (Nat.lt_of_lt_of_le hb HWQ.out)) (fun _ h => h)
                  refine ((rTuple_any (fun b => b < w.heap.size ∨ b = D.heap.size) [x, x] (some ⟨D.heap.size, 0, none⟩) 2 2 X12 (fun b hb => by rcases hb with hb | hb; exact Nat.lt_of_lt_of_le hb (Nat.le_trans HWQ.out hD12.size); rw [hb]; exact heap_lt gX12) (trow_two gX12 hxx13 hxx13) (by show 2 ≤ 1000; omega) (fun z hz => by simp at hz; rw [hz]; exact HCX.out))).mono ?_
                  rintro e X13 ⟨k13, A13, n13, cap13, rfl, hT13, b13⟩
                  rw [HMD.out] at hT13 ⊢
                  have hD13 := hD12.trans (b13.mono hD12.size)
                  have hS13 := hS12.keep (b13.block _ (Nat.lt_of_lt_of_le HADQ.out hD12.size))
                  have hU13 : twoE x = 0 → TmAt (fun b => (b < w.heap.size ∨ b = D.heap.size) ∨ (X12.heap.size ≤ b ∧ b < X13.heap.size)) X13 (tup2 x) _ := fun h => hT13 (by rw [h]; rfl)
                  have hRl13 : D.heap.size < X12.heap.size := heap_lt gX12
                  have hsz13 : X12.heap.size ≤ X13.heap.size := b13.size
                  clear hT13 b13 hxx13
                  refine hK.out _ _ hS13 (fun hSn => ?_)
                  clear hK K; (try simp only [Act.put, List.setIfInBounds_toArray, List.set_cons_zero, List.set_cons_succ])
                  refine wpAnyH_take (i := 10) (oi := ⟨some 73, _, _, _, _, _⟩) (v := ?_) rfl (by kernel_rfl) (by kernel_rfl) (by kernel_rfl) (fun _ _ _ h => h) (Or.inl ⟨by kernel_rfl, ?_⟩) (by assumption) ?_; rotate_left; (intro w hSw; (try dsimp only at hSw); go_simp; first | done | with_reducible rfl); (try simp only [Act.put, List.setIfInBounds_toArray, List.set_cons_zero, List.set_cons_succ])
                  refine wpAnyH_take (i := 11) (oi := ⟨some 84, _, _, _, _, _⟩) (v := ?_) rfl (by kernel_rfl) (by kernel_rfl) (by kernel_rfl) (fun _ _ _ h => h) (Or.inl ⟨by kernel_rfl, ?_⟩) (by assumption) ?_; rotate_left; (intro w hSw; (try dsimp only at hSw); go_simp; first | done | with_reducible rfl); (try simp only [Act.put, List.setIfInBounds_toArray, List.set_cons_zero, List.set_cons_succ])
                  refine wpAnyH_take (i := 12) (oi := ⟨some 85, _, _, _, _, _⟩) (v := ?_) rfl (by kernel_rfl) (by kernel_rfl) (by kernel_rfl) (fun _ _ _ h => h) (Or.inl ⟨by kernel_rfl, ?_⟩) (by assumption) ?_; rotate_left; (intro w hSw; (try dsimp only at hSw); go_simp; first | done | with_reducible rfl); (try simp only [Act.put, List.setIfInBounds_toArray, List.set_cons_zero, List.set_cons_succ])
                  refine wpAnyH_ready (rs := [13]) (by kernel_rfl) (by simp) ?_
                  refine AllReadyH.cons (o := ⟨some 11, _, _, _, _, _⟩) rfl (fun K hK => ?_) AllReadyH.nil
                  · rw [if_pos (by rfl)]
                    go_simp
                    have gX14 := block_alloc X13 (.cells #[(.int .i8 0), (.int .i64 0), (.string ⟨#[]⟩), (.string ⟨#[]⟩), (.slice none 0 0)] 25)
                    obtain ⟨X14, hX14⟩ : ∃ X, X = X13.alloc (.cells #[(.int .i8 0), (.int .i64 0), (.string ⟨#[]⟩), (.string ⟨#[]⟩), (.slice none 0 0)] 25) := ⟨_, rfl⟩
                    have bX14 : Below X13.heap.size X13 X14 := by rw [hX14]; exact (Below.refl _ _).alloc (Nat.le_refl _) _
                    rw [← hX14] at gX14 ⊢
                    have hD14 := hD13.trans (bX14.mono hD13.size)
                    have hS14 := hS13.keep (bX14.block _ (Nat.lt_of_lt_of_le HADQ.out hD13.size))
                    have hsz14 : X13.heap.size < X14.heap.size := heap_lt gX14
                    have hne14 : D.heap.size < X13.heap.size := by omega
                    have hlo14 : wq.heap.size ≤ X13.heap.size := hD13.size
                    have hU14 := fun h => (hU13 h).keep (fun b hb => bX14.block b (by rcases hb with (hb | hb) | hb <;> omega)) (fun _ h => h)
                    clear hX14 bX14
                    refine hK.out _ _ hS14 (fun hSn => ?_)
                    clear hK K; (try simp only [Act.put, List.setIfInBounds_toArray, List.set_cons_zero, List.set_cons_succ])
                    have y0 : X14.cell? ⟨(X13.heap.size), 0, none⟩ = some (.int .i8 0) := cell_of_row gX14 rfl
                    have y1 : X14.cell? ⟨(X13.heap.size), 1, none⟩ = some (.int .i64 0) := cell_of_row gX14 rfl
                    have y2 : X14.cell? ⟨(X13.heap.size), 2, none⟩ = some (.string ⟨#[]⟩) := cell_of_row gX14 rfl
                    have y3 : X14.cell? ⟨(X13.heap.size), 3, none⟩ = some (.string ⟨#[]⟩) := cell_of_row gX14 rfl
                    have y4 : X14.cell? ⟨(X13.heap.size), 4, none⟩ = some (.slice none 0 0) := cell_of_row gX14 rfl
                    have fz0 : X14.frozen? ⟨(X13.heap.size), 0, none⟩ = false := free_of_row gX14
                    have fz1 : X14.frozen? ⟨(X13.heap.size), 1, none⟩ = false := free_of_row gX14
                    have fz2 : X14.frozen? ⟨(X13.heap.size), 2, none⟩ = false := free_of_row gX14
                    have fz3 : X14.frozen? ⟨(X13.heap.size), 3, none⟩ = false := free_of_row gX14
                    have fz4 : X14.frozen? ⟨(X13.heap.size), 4, none⟩ = false := free_of_row gX14
                    have SV := Lib.hid (set_five (.int .i8 k13) (.int .i64 0) (.string ⟨#[]⟩) (.string ⟨#[]⟩) (.slice A13 n13 cap13) gX14)
                    refine wpAnyH_ready (rs := [14]) (by kernel_rfl) (by simp) ?_
                    refine AllReadyH.cons (o := ⟨none, _, _, _, _, _⟩) rfl (fun K hK => ?_) AllReadyH.nil
                    rw [if_pos (by rfl)]
                    go_simp
                    obtain ⟨s5, m5⟩ := SV.out
                    generalize ((((X14.setCell ⟨X13.heap.size, 0, none⟩ (.int .i8 k13)).setCell ⟨X13.heap.size, 1, none⟩ (.int .i64 0)).setCell ⟨X13.heap.size, 2, none⟩ (.string ⟨#[]⟩)).setCell ⟨X13.heap.size, 3, none⟩ (.string ⟨#[]⟩)).setCell ⟨X13.heap.size, 4, none⟩ (.slice A13 n13 cap13) = X15 at s5 m5 ⊢
                    have hD15 := hD14.trans (m5.below hD14.size (fun k (e : k = X13.heap.size) => by omega))
                    have hS15 := hS14.keep (m5.block _ (Nat.lt_of_lt_of_le HADQ.out hD14.size) (fun (e : ad.block = X13.heap.size) => by have := HADL.out; omega))
                    clear y0 y1 y2 y3 y4 fz0 fz1 fz2 fz3 fz4 SV
                    refine hK.out _ _ hS15 (fun hSn => ?_)
                    clear hK K; (try simp only [Act.put, List.setIfInBounds_toArray, List.set_cons_zero, List.set_cons_succ])
                    refine wpAnyH_take (i := 15) (oi := ⟨some 12, _, _, _, _, _⟩) (v := ?_) rfl (by kernel_rfl) (by kernel_rfl) (by kernel_rfl) (fun _ _ _ h => h) (Or.inl ⟨by kernel_rfl, ?_⟩) (by assumption) ?_; rotate_left; (intro w hSw; (try dsimp only at hSw); go_simp; first | done | with_reducible rfl); (try simp only [Act.put, List.setIfInBounds_toArray, List.set_cons_zero, List.set_cons_succ])
                    refine wpAnyH_done (by kernel_rfl) ?_ _
                    have hUU : twoE x = 0 → TmAt (· < X15.heap.size) X15 (tup2 x) (.agg #[(.int .i8 k13), (.int .i64 0), (.string ⟨#[]⟩), (.string ⟨#[]⟩), (.slice A13 n13 cap13)]) := fun h => ((hU14 h).keep (fun b hb => m5.block b (by rcases hb with (hb | hb) | hb <;> omega) (fun (e : b = X13.heap.size) => by rcases hb with (hb | hb) | hb <;> omega)) (fun b hb => Nat.lt_of_lt_of_le (by rcases hb with (hb | hb) | hb <;> omega) m5.size))
                    have HFIN := Lib.hid (And.intro hD15 (And.intro s5 hUU))
                    clear hD15 hS15 s5 m5 hUU
                    go_wp2_with fail
                    go_meet
                    exact ⟨_, k13, A13, n13, cap13, rfl, rfl, HFIN.out.1, HFIN.out.2.1, HFIN.out.2.2⟩
                · rw [if_pos (by rfl)]
                  go_simp
                  have gX16 := block_alloc X12 (.cells #[(.int .i8 0), (.int .i64 0), (.string ⟨#[]⟩), (.string ⟨#[]⟩), (.slice none 0 0)] 25)
                  obtain ⟨X16, hX16⟩ : ∃ X, X = X12.alloc (.cells #[(.int .i8 0), (.int .i64 0), (.string ⟨#[]⟩), (.string ⟨#[]⟩), (.slice none 0 0)] 25) := ⟨_, rfl⟩
                  have bX16 : Below X12.heap.size X12 X16 := by rw [hX16]; exact (Below.refl _ _).alloc (Nat.le_refl _) _
                  rw [← hX16] at gX16 ⊢
                  have hD16 := hD12.trans (bX16.mono hD12.size)
                  have hS16 := hS12.keep (bX16.block _ (Nat.lt_of_lt_of_le HADQ.out hD12.size))
                  have hsz16 : X12.heap.size < X16.heap.size := heap_lt gX16
                  have hne16 : D.heap.size < X12.heap.size := heap_lt gX12
                  have hlo16 : wq.heap.size ≤ X12.heap.size := hD12.size
                  have gR16 := (bX16.block _ (heap_lt gX12)).trans gX12
                  clear hX16 bX16
                  refine hK.out _ _ hS16 (fun hSn => ?_)
                  clear hK K; (try simp only [Act.put, List.setIfInBounds_toArray, List.set_cons_zero, List.set_cons_succ])
                  refine wpAnyH_ready (rs := [9]) (by kernel_rfl) (by simp) ?_
                  refine AllReadyH.cons (o := ⟨some 83, _, _, _, _, _⟩) rfl (fun K hK => ?_) AllReadyH.nil
                  · rw [if_pos (by rfl)]
                    go_simp
                    have hxx17 : TmAt (· < w.heap.size) X16 x (.agg #[(.int .i8 k'), (.int .i64 n'), (.string s'), (.string t'), (.slice A' L'.length cap')]) := HTQ.out.keep (fun b hb => hD16.block b (Nat.lt_of_lt_of_le hb HWQ.out)) (fun _ h => h)
                    refine ((rTuple_any (fun b => b < w.heap.size ∨ b = D.heap.size) [x, x] (some ⟨D.heap.size, 0, none⟩) 2 2 X16 (fun b hb => by rcases hb with hb | hb; exact Nat.lt_of_lt_of_le hb (Nat.le_trans HWQ.out hD16.size); rw [hb]; exact heap_lt gR16) (trow_two gR16 hxx17 hxx17) (by show 2 ≤ 1000; omega) (fun z hz => by simp at hz; rw [hz]; exact HCX.out))).mono ?_
                    rintro e X17 ⟨k17, A17, n17, cap17, rfl, hT17, b17⟩
                    rw [HMD.out] at hT17 ⊢
                    have hD17 := hD16.trans (b17.mono hD16.size)
                    have hS17 := hS16.keep (b17.block _ (Nat.lt_of_lt_of_le HADQ.out hD16.size))
                    have hU17 : twoE x = 0 → TmAt (fun b => (b < w.heap.size ∨ b = D.heap.size) ∨ (X16.heap.size ≤ b ∧ b < X17.heap.size)) X17 (tup2 x) _ := fun h => hT17 (by rw [h]; rfl)
                    have hRl17 : D.heap.size < X16.heap.size := heap_lt gR16
                    have hsz17 : X16.heap.size ≤ X17.heap.size := b17.size
                    have gB17 := (b17.block _ (heap_lt gX16)).trans gX16
                    have hBW17 : X12.heap.size < X16.heap.size := heap_lt gX16
                    clear hT17 b17 hxx17
                    refine hK.out _ _ hS17 (fun hSn => ?_)
                    clear hK K; (try simp only [Act.put, List.setIfInBounds_toArray, List.set_cons_zero, List.set_cons_succ])
                    refine wpAnyH_take (i := 10) (oi := ⟨some 73, _, _, _, _, _⟩) (v := ?_) rfl (by kernel_rfl) (by kernel_rfl) (by kernel_rfl) (fun _ _ _ h => h) (Or.inl ⟨by kernel_rfl, ?_⟩) (by assumption) ?_; rotate_left; (intro w hSw; (try dsimp only at hSw); go_simp; first | done | with_reducible rfl); (try simp only [Act.put, List.setIfInBounds_toArray, List.set_cons_zero, List.set_cons_succ])
                    refine wpAnyH_take (i := 11) (oi := ⟨some 84, _, _, _, _, _⟩) (v := ?_) rfl (by kernel_rfl) (by kernel_rfl) (by kernel_rfl) (fun _ _ _ h => h) (Or.inl ⟨by kernel_rfl, ?_⟩) (by assumption) ?_; rotate_left; (intro w hSw; (try dsimp only at hSw); go_simp; first | done | with_reducible rfl); (try simp only [Act.put, List.setIfInBounds_toArray, List.set_cons_zero, List.set_cons_succ])
                    refine wpAnyH_take (i := 12) (oi := ⟨some 85, _, _, _, _, _⟩) (v := ?_) rfl (by kernel_rfl) (by kernel_rfl) (by kernel_rfl) (fun _ _ _ h => h) (Or.inl ⟨by kernel_rfl, ?_⟩) (by assumption) ?_; rotate_left; (intro w hSw; (try dsimp only at hSw); go_simp; first | done | with_reducible rfl); (try simp only [Act.put, List.setIfInBounds_toArray, List.set_cons_zero, List.set_cons_succ])
                    have y0 : X17.cell? ⟨(X12.heap.size), 0, none⟩ = some (.int .i8 0) := cell_of_row gB17 rfl
                    have y1 : X17.cell? ⟨(X12.heap.size), 1, none⟩ = some (.int .i64 0) := cell_of_row gB17 rfl
                    have y2 : X17.cell? ⟨(X12.heap.size), 2, none⟩ = some (.string ⟨#[]⟩) := cell_of_row gB17 rfl
                    have y3 : X17.cell? ⟨(X12.heap.size), 3, none⟩ = some (.string ⟨#[]⟩) := cell_of_row gB17 rfl
                    have y4 : X17.cell? ⟨(X12.heap.size), 4, none⟩ = some (.slice none 0 0) := cell_of_row gB17 rfl
                    have fz0 : X17.frozen? ⟨(X12.heap.size), 0, none⟩ = false := free_of_row gB17
                    have fz1 : X17.frozen? ⟨(X12.heap.size), 1, none⟩ = false := free_of_row gB17
                    have fz2 : X17.frozen? ⟨(X12.heap.size), 2, none⟩ = false := free_of_row gB17
                    have fz3 : X17.frozen? ⟨(X12.heap.size), 3, none⟩ = false := free_of_row gB17
                    have fz4 : X17.frozen? ⟨(X12.heap.size), 4, none⟩ = false := free_of_row gB17
                    have SV := Lib.hid (set_five (.int .i8 k17) (.int .i64 0) (.string ⟨#[]⟩) (.string ⟨#[]⟩) (.slice A17 n17 cap17) gB17)
                    refine wpAnyH_ready (rs := [14]) (by kernel_rfl) (by simp) ?_
                    refine AllReadyH.cons (o := ⟨none, _, _, _, _, _⟩) rfl (fun K hK => ?_) AllReadyH.nil
                    rw [if_pos (by rfl)]
                    go_simp
                    obtain ⟨s5, m5⟩ := SV.out
                    generalize ((((X17.setCell ⟨X12.heap.size, 0, none⟩ (.int .i8 k17)).setCell ⟨X12.heap.size, 1, none⟩ (.int .i64 0)).setCell ⟨X12.heap.size, 2, none⟩ (.string ⟨#[]⟩)).setCell ⟨X12.heap.size, 3, none⟩ (.string ⟨#[]⟩)).setCell ⟨X12.heap.size, 4, none⟩ (.slice A17 n17 cap17) = X18 at s5 m5 ⊢
                    have hD18 := hD17.trans (m5.below hD17.size (fun k (e : k = X12.heap.size) => by omega))
                    have hS18 := hS17.keep (m5.block _ (Nat.lt_of_lt_of_le HADQ.out hD17.size) (fun (e : ad.block = X12.heap.size) => by have := HADL.out; omega))
                    clear y0 y1 y2 y3 y4 fz0 fz1 fz2 fz3 fz4 SV
                    refine hK.out _ _ hS18 (fun hSn => ?_)
                    clear hK K; (try simp only [Act.put, List.setIfInBounds_toArray, List.set_cons_zero, List.set_cons_succ])
                    refine wpAnyH_take (i := 15) (oi := ⟨some 12, _, _, _, _, _⟩) (v := ?_) rfl (by kernel_rfl) (by kernel_rfl) (by kernel_rfl) (fun _ _ _ h => h) (Or.inl ⟨by kernel_rfl, ?_⟩) (by assumption) ?_; rotate_left; (intro w hSw; (try dsimp only at hSw); go_simp; first | done | with_reducible rfl); (try simp only [Act.put, List.setIfInBounds_toArray, List.set_cons_zero, List.set_cons_succ])
                    refine wpAnyH_done (by kernel_rfl) ?_ _
                    have hUU : twoE x = 0 → TmAt (· < X18.heap.size) X18 (tup2 x) (.agg #[(.int .i8 k17), (.int .i64 0), (.string ⟨#[]⟩), (.string ⟨#[]⟩), (.slice A17 n17 cap17)]) := fun h => ((hU17 h).keep (fun b hb => m5.block b (by rcases hb with (hb | hb) | hb <;> omega) (fun (e : b = X12.heap.size) => by rcases hb with (hb | hb) | hb <;> omega)) (fun b hb => Nat.lt_of_lt_of_le (by rcases hb with (hb | hb) | hb <;> omega) m5.size))
                    have HFIN := Lib.hid (And.intro hD18 (And.intro s5 hUU))
                    clear hD18 hS18 s5 m5 hUU
                    go_wp2_with fail
                    go_meet
                    exact ⟨_, k17, A17, n17, cap17, rfl, rfl, HFIN.out.1, HFIN.out.2.1, HFIN.out.2.2⟩
              · rw [if_pos (by rfl)]
                go_simp
                have gX19 := block_alloc D (.cells #[(.int .i8 0), (.int .i64 0), (.string ⟨#[]⟩), (.string ⟨#[]⟩), (.slice none 0 0)] 25)
                obtain ⟨X19, hX19⟩ : ∃ X, X = D.alloc (.cells #[(.int .i8 0), (.int .i64 0), (.string ⟨#[]⟩), (.string ⟨#[]⟩), (.slice none 0 0)] 25) := ⟨_, rfl⟩
                have bX19 : Below D.heap.size D X19 := by rw [hX19]; exact (Below.refl _ _).alloc (Nat.le_refl _) _
                rw [← hX19] at gX19 ⊢
                have hD19 := hD0.trans (bX19.mono hD0.size)
                have hS19 := hS0.keep (bX19.block _ (Nat.lt_of_lt_of_le HADQ.out hD0.size))
                have hsz19 : D.heap.size < X19.heap.size := heap_lt gX19
                have hlo19 : wq.heap.size ≤ D.heap.size := hD0.size
                clear hX19 bX19
                refine hK.out _ _ hS19 (fun hSn => ?_)
                clear hK K; (try simp only [Act.put, List.setIfInBounds_toArray, List.set_cons_zero, List.set_cons_succ])
                refine wpAnyH_ready (rs := [8]) (by kernel_rfl) (by simp) ?_
                refine AllReadyH.cons (o := ⟨some 82, _, _, _, _, _⟩) rfl (fun K hK => ?_) AllReadyH.nil
                · rw [if_pos (by rfl)]
                  go_simp
                  have gX20 := block_alloc X19 (.cells #[(.int .i8 k'), (.int .i64 n'), (.string s'), (.string t'), (.slice A' L'.length cap'), (.int .i8 k'), (.int .i64 n'), (.string s'), (.string t'), (.slice A' L'.length cap')] 25)
                  obtain ⟨X20, hX20⟩ : ∃ X, X = X19.alloc (.cells #[(.int .i8 k'), (.int .i64 n'), (.string s'), (.string t'), (.slice A' L'.length cap'), (.int .i8 k'), (.int .i64 n'), (.string s'), (.string t'), (.slice A' L'.length cap')] 25) := ⟨_, rfl⟩
                  have bX20 : Below X19.heap.size X19 X20 := by rw [hX20]; exact (Below.refl _ _).alloc (Nat.le_refl _) _
                  rw [← hX20] at gX20 ⊢
                  have hD20 := hD19.trans (bX20.mono hD19.size)
                  have hS20 := hS19.keep (bX20.block _ (Nat.lt_of_lt_of_le HADQ.out hD19.size))
                  have hsz20 : X19.heap.size < X20.heap.size := heap_lt gX20
                  have hne20 : D.heap.size < X19.heap.size := heap_lt gX19
                  have gB20 := (bX20.block _ (heap_lt gX19)).trans gX19
                  clear hX20 bX20
                  refine hK.out _ _ hS20 (fun hSn => ?_)
                  clear hK K; (try simp only [Act.put, List.setIfInBounds_toArray, List.set_cons_zero, List.set_cons_succ])
                  refine wpAnyH_ready (rs := [9]) (by kernel_rfl) (by simp) ?_
                  refine AllReadyH.cons (o := ⟨some 83, _, _, _, _, _⟩) rfl (fun K hK => ?_) AllReadyH.nil
                  · rw [if_pos (by rfl)]
                    go_simp
                    have hxx21 : TmAt (· < w.heap.size) X20 x (.agg #[(.int .i8 k'), (.int .i64 n'), (.string s'), (.string t'), (.slice A' L'.length cap')]) := HTQ.out.keep (fun b hb => hD20.block b (Nat.lt_of_lt_of_le hb HWQ.out)) (fun _ h => h)
                    refine ((rTuple_any (fun b => b < w.heap.size ∨ b = X19.heap.size) [x, x] (some ⟨X19.heap.size, 0, none⟩) 2 2 X20 (fun b hb => by rcases hb with hb | hb; exact Nat.lt_of_lt_of_le hb (Nat.le_trans HWQ.out hD20.size); rw [hb]; exact heap_lt gX20) (trow_two gX20 hxx21 hxx21) (by show 2 ≤ 1000; omega) (fun z hz => by simp at hz; rw [hz]; exact HCX.out))).mono ?_
                    rintro e X21 ⟨k21, A21, n21, cap21, rfl, hT21, b21⟩
                    rw [HMD.out] at hT21 ⊢
                    have hD21 := hD20.trans (b21.mono hD20.size)
                    have hS21 := hS20.keep (b21.block _ (Nat.lt_of_lt_of_le HADQ.out hD20.size))
                    have hU21 : twoE x = 0 → TmAt (fun b => (b < w.heap.size ∨ b = X19.heap.size) ∨ (X20.heap.size ≤ b ∧ b < X21.heap.size)) X21 (tup2 x) _ := fun h => hT21 (by rw [h]; rfl)
                    have hRl21 : X19.heap.size < X20.heap.size := heap_lt gX20
                    have hsz21 : X20.heap.size ≤ X21.heap.size := b21.size
                    have gB21 := (b21.block _ (heap_lt gB20)).trans gB20
                    have hBW21 : D.heap.size < X20.heap.size := heap_lt gB20
                    clear hT21 b21 hxx21
                    refine hK.out _ _ hS21 (fun hSn => ?_)
                    clear hK K; (try simp only [Act.put, List.setIfInBounds_toArray, List.set_cons_zero, List.set_cons_succ])
                    refine wpAnyH_take (i := 10) (oi := ⟨some 73, _, _, _, _, _⟩) (v := ?_) rfl (by kernel_rfl) (by kernel_rfl) (by kernel_rfl) (fun _ _ _ h => h) (Or.inl ⟨by kernel_rfl, ?_⟩) (by assumption) ?_; rotate_left; (intro w hSw; (try dsimp only at hSw); go_simp; first | done | with_reducible rfl); (try simp only [Act.put, List.setIfInBounds_toArray, List.set_cons_zero, List.set_cons_succ])
                    refine wpAnyH_take (i := 11) (oi := ⟨some 84, _, _, _, _, _⟩) (v := ?_) rfl (by kernel_rfl) (by kernel_rfl) (by kernel_rfl) (fun _ _ _ h => h) (Or.inl ⟨by kernel_rfl, ?_⟩) (by assumption) ?_; rotate_left; (intro w hSw; (try dsimp only at hSw); go_simp; first | done | with_reducible rfl); (try simp only [Act.put, List.setIfInBounds_toArray, List.set_cons_zero, List.set_cons_succ])
                    refine wpAnyH_take (i := 12) (oi := ⟨some 85, _, _, _, _, _⟩) (v := ?_) rfl (by kernel_rfl) (by kernel_rfl) (by kernel_rfl) (fun _ _ _ h => h) (Or.inl ⟨by kernel_rfl, ?_⟩) (by assumption) ?_; rotate_left; (intro w hSw; (try dsimp only at hSw); go_simp; first | done | with_reducible rfl); (try simp only [Act.put, List.setIfInBounds_toArray, List.set_cons_zero, List.set_cons_succ])
                    have y0 : X21.cell? ⟨(D.heap.size), 0, none⟩ = some (.int .i8 0) := cell_of_row gB21 rfl
                    have y1 : X21.cell? ⟨(D.heap.size), 1, none⟩ = some (.int .i64 0) := cell_of_row gB21 rfl
                    have y2 : X21.cell? ⟨(D.heap.size), 2, none⟩ = some (.string ⟨#[]⟩) := cell_of_row gB21 rfl
                    have y3 : X21.cell? ⟨(D.heap.size), 3, none⟩ = some (.string ⟨#[]⟩) := cell_of_row gB21 rfl
                    have y4 : X21.cell? ⟨(D.heap.size), 4, none⟩ = some (.slice none 0 0) := cell_of_row gB21 rfl
                    have fz0 : X21.frozen? ⟨(D.heap.size), 0, none⟩ = false := free_of_row gB21
                    have fz1 : X21.frozen? ⟨(D.heap.size), 1, none⟩ = false := free_of_row gB21
                    have fz2 : X21.frozen? ⟨(D.heap.size), 2, none⟩ = false := free_of_row gB21
                    have fz3 : X21.frozen? ⟨(D.heap.size), 3, none⟩ = false := free_of_row gB21
                    have fz4 : X21.frozen? ⟨(D.heap.size), 4, none⟩ = false := free_of_row gB21
                    have SV := Lib.hid (set_five (.int .i8 k21) (.int .i64 0) (.string ⟨#[]⟩) (.string ⟨#[]⟩) (.slice A21 n21 cap21) gB21)
                    refine wpAnyH_ready (rs := [14]) (by kernel_rfl) (by simp) ?_
                    refine AllReadyH.cons (o := ⟨none, _, _, _, _, _⟩) rfl (fun K hK => ?_) AllReadyH.nil
                    rw [if_pos (by rfl)]
                    go_simp
                    obtain ⟨s5, m5⟩ := SV.out
                    generalize ((((X21.setCell ⟨D.heap.size, 0, none⟩ (.int .i8 k21)).setCell ⟨D.heap.size, 1, none⟩ (.int .i64 0)).setCell ⟨D.heap.size, 2, none⟩ (.string ⟨#[]⟩)).setCell ⟨D.heap.size, 3, none⟩ (.string ⟨#[]⟩)).setCell ⟨D.heap.size, 4, none⟩ (.slice A21 n21 cap21) = X22 at s5 m5 ⊢
                    have hD22 := hD21.trans (m5.below hD21.size (fun k (e : k = D.heap.size) => by omega))
                    have hS22 := hS21.keep (m5.block _ (Nat.lt_of_lt_of_le HADQ.out hD21.size) (fun (e : ad.block = D.heap.size) => by have := HADL.out; omega))
                    clear y0 y1 y2 y3 y4 fz0 fz1 fz2 fz3 fz4 SV
                    refine hK.out _ _ hS22 (fun hSn => ?_)
                    clear hK K; (try simp only [Act.put, List.setIfInBounds_toArray, List.set_cons_zero, List.set_cons_succ])
                    refine wpAnyH_take (i := 15) (oi := ⟨some 12, _, _, _, _, _⟩) (v := ?_) rfl (by kernel_rfl) (by kernel_rfl) (by kernel_rfl) (fun _ _ _ h => h) (Or.inl ⟨by kernel_rfl, ?_⟩) (by assumption) ?_; rotate_left; (intro w hSw; (try dsimp only at hSw); go_simp; first | done | with_reducible rfl); (try simp only [Act.put, List.setIfInBounds_toArray, List.set_cons_zero, List.set_cons_succ])
                    refine wpAnyH_done (by kernel_rfl) ?_ _
                    have hUU : twoE x = 0 → TmAt (· < X22.heap.size) X22 (tup2 x) (.agg #[(.int .i8 k21), (.int .i64 0), (.string ⟨#[]⟩), (.string ⟨#[]⟩), (.slice A21 n21 cap21)]) := fun h => ((hU21 h).keep (fun b hb => m5.block b (by rcases hb with (hb | hb) | hb <;> omega) (fun (e : b = D.heap.size) => by rcases hb with (hb | hb) | hb <;> omega)) (fun b hb => Nat.lt_of_lt_of_le (by rcases hb with (hb | hb) | hb <;> omega) m5.size))
                    have HFIN := Lib.hid (And.intro hD22 (And.intro s5 hUU))
                    clear hD22 hS22 s5 m5 hUU
                    go_wp2_with fail
                    go_meet
                    exact ⟨_, k21, A21, n21, cap21, rfl, rfl, HFIN.out.1, HFIN.out.2.1, HFIN.out.2.2⟩
            case rest =>
              obtain ⟨gT, k1, A1, n1, cap1, rfl, rfl, hD, hgT, hU⟩ := hcut
              have hH2 := HH1.out.under (Nat.le_refl _) hD
              have hK2 := HK1.out.under hD
              by_cases hE : twoE x = 0
              case neg =>
                have h11 : twoE x = 11 := by
                  unfold twoE at hE ⊢
                  split
                  · rfl
                  · rename_i h; rw [if_neg h] at hE; exact absurd rfl hE
                have hC : ((twoE x : Nat) : Int) = 11 := by rw [h11]; rfl
                have hss := HN1.out hE
                have HNX : Hid (L2 l w s (j + 1) (.slice (some ⟨gw, 0, none⟩) l.length cap2) wc) := ⟨hss ▸ hH2, H2.out.ok, H2.out.ext, Nat.le_trans H2.out.len (by omega)⟩
                rw [hC]
                clear hH2 hK2 hE h11 hC hss hD hgT hU
                go_wp2_with fail
                go_roundw
                case rel => exact ⟨j + 1, s, by omega, by go_num, HNX.out⟩
                case measure => simp [intOf]; omega
              case pos =>
                have hC : ((twoE x : Nat) : Int) = 0 := by rw [hE]; rfl
                rw [hC]
                clear hC
                obtain ⟨rfl, rfl, hcs1, hws1⟩ := HY1.out hE
                obtain ⟨hyg, hys, hyt⟩ := HYT.out
                have hsz : 1 + 2 * x.nodes ≤ 256 := by
                  unfold twoE at hE
                  split at hE
                  · cases hE
                  · omega
                have hsum : wsum s.cs [y, y] = 1 + 2 * x.nodes := by simp [wsum, hys]; omega
                have hg1 : HGood s1.cs := by
                  rw [hcs1]
                  exact HOK.out.good.snoc 5 [y, y] (.inl rfl) (fun z hz => by simp at hz; rw [hz]; exact hyg) (by omega) (by have := HLEN.out; omega)
                have hw1 : s1.ws = wordsOf s1.cs := by
                  rw [hws1, hcs1, HOK.out.ws]
                  unfold HSt.more
                  rw [wordsOf_append]
                  simp [wordsOf]
                have hat : s1.cs[s.cs.length]? = some ⟨5, wsum s.cs [y, y], [y, y]⟩ := by
                  rw [hcs1]
                  unfold HSt.more
                  rw [List.getElem?_append_right (Nat.le_refl _)]; simp
                have hl1 : s1.cs.length = s.cs.length + 1 := by rw [hcs1]; unfold HSt.more; simp
                have hwt : wt s1.cs s1.cs.length (.ref s.cs.length) = tup2 x := by
                  rw [hl1, wt_ref hat]
                  have h7 : wt s1.cs s.cs.length y = x := by
                    rw [hcs1]
                    unfold HSt.more
                    rw [wt_stable HOK.out.good _ s.cs.length y hyg (Nat.le_refl _) _ s.cs.length (Nat.le_refl _) (Nat.le_refl _)]
                    exact hyt
                  show Tm.mk 5 0 ⟨#[]⟩ ⟨#[]⟩ [wt s1.cs s.cs.length y, wt s1.cs s.cs.length y] = _
                  rw [h7]
                  rfl
                have hwz : wsize s1.cs (.ref s.cs.length) = 1 + 2 * x.nodes := (wsize_at hat).trans hsum
                have hmy : mayW s1.cs.length true s.cs.length (.mk 0 0 ⟨#[]⟩ ⟨#[]⟩ []) = true := by
                  unfold mayW
                  rw [if_pos rfl]
                  simp only [Bool.and_eq_true, decide_eq_true_eq]
                  exact ⟨⟨by omega, by omega⟩, blank0⟩
                have tz : ∀ V : World, TmAt (· < V.heap.size) V (.mk 0 0 ⟨#[]⟩ ⟨#[]⟩ []) (.agg #[.int .i8 0, .int .i64 0, .string ⟨#[]⟩, .string ⟨#[]⟩, .slice none 0 0]) := fun V => leaf_at _ V (by decide) (by decide) (by show 0 ≤ maxLen; omega) (by show 0 ≤ maxLen; omega)
                have HTK := Lib.hid (Take_any hg1 true s.cs.length 0 0 ⟨#[]⟩ ⟨#[]⟩ [] none 0 wc hH2.heap (tz wc) (HSP.out.below hH2.below HSP.out.lt))
                obtain ⟨M, hM⟩ : ∃ M : Nat, M = 1 + 2 * x.nodes := ⟨_, rfl⟩
                have HZS : Hid (∀ V, Below wc.heap.size wc V → Calls Tryd.prog 10 #[.pointer (some ⟨w.heap.size, 0, none⟩), .agg #[(.bool true), (.int .i64 s.cs.length), (.int .i8 0), (.int .i64 0), (.string ⟨#[]⟩), (.string ⟨#[]⟩), (.slice none 0 0)]] V fun e w' => e = .returned (.tuple #[.int .i64 (M : Int), .int .i64 0]) ∧ Below V.heap.size V w') := by
                  intro V hV
                  have h8 := HSize_any true s.cs.length 0 0 ⟨#[]⟩ ⟨#[]⟩ [] none 0 V (hH2.heap.under hV) (tz V) (HSP.out.below (hH2.under (Nat.le_refl _) hV).below HSP.out.lt)
                  rw [if_pos hmy, show (AW.hw ⟨true, (s.cs.length : Int), .mk 0 0 ⟨#[]⟩ ⟨#[]⟩ []⟩) = .ref s.cs.length by unfold AW.hw; simp, hwz, ← hM] at h8
                  exact h8
                have HMM := Lib.hid hM
                clear hM
                have HH2 := Lib.hid hH2
                have HK2 := Lib.hid hK2
                have HGT := Lib.hid hgT
                have HUT := Lib.hid (hU hE)
                have HW1 := Lib.hid (And.intro hmy hwt)
                have HNX : Hid (∀ V, Below wc.heap.size wc V → L2 l w s1 (j + 1) (.slice (some ⟨gw, 0, none⟩) l.length cap2) V) := fun V hV => ⟨hH2.under (Nat.le_refl _) hV, ⟨hg1, hw1, hrn1⟩, by
                  obtain ⟨more, e⟩ := H2.out.ext
                  exact ⟨more ++ [⟨5, wsum s.cs [y, y], [y, y]⟩], by rw [hcs1]; unfold HSt.more; rw [e, List.append_assoc]⟩, by have := HLEN.out; omega⟩
                have gBf := hK2.blk
                have y0 : wc.cell? ⟨gB, 0, none⟩ = some (.bool true) := cell_of_row gBf rfl
                have y1 : wc.cell? ⟨gB, 1, none⟩ = some (.int .i64 s.cs.length) := cell_of_row gBf rfl
                have y2 : wc.cell? ⟨gB, 2, none⟩ = some (.int .i8 0) := cell_of_row gBf rfl
                have y3 : wc.cell? ⟨gB, 3, none⟩ = some (.int .i64 0) := cell_of_row gBf rfl
                have y4 : wc.cell? ⟨gB, 4, none⟩ = some (.string ⟨#[]⟩) := cell_of_row gBf rfl
                have y5 : wc.cell? ⟨gB, 5, none⟩ = some (.string ⟨#[]⟩) := cell_of_row gBf rfl
                have y6 : wc.cell? ⟨gB, 6, none⟩ = some (.slice none 0 0) := cell_of_row gBf rfl
                clear gBf hH2 hK2 hgT hU hg1 hw1 hat hl1 hwt hwz hmy tz hcs1 hws1 hyg hys hyt hsum hE hD
                go_wp2_with fail
                refine HTK.out.mono ?_
                rintro e V8 (⟨h0, -⟩ | ⟨-, tv, rfl, hTm, b8⟩)
                · exact absurd (HW1.out.1.symm.trans h0) (by decide)
                rw [show (AW.hw ⟨true, (s.cs.length : Int), .mk 0 0 ⟨#[]⟩ ⟨#[]⟩ []⟩) = .ref s.cs.length by unfold AW.hw; simp, HW1.out.2] at hTm
                obtain ⟨A8, cap8, rfl, -⟩ := hTm.parts
                obtain ⟨W9, hW9⟩ : ∃ W9, W9 = V8.alloc (.cells #[.int .i8 5, .int .i64 0, .string ⟨#[]⟩, .string ⟨#[]⟩, .slice A8 2 cap8] 25) := ⟨_, rfl⟩
                have b9 : Below V8.heap.size V8 W9 := by rw [hW9]; exact (Below.refl _ _).alloc (Nat.le_refl _) _
                have g9 : W9.heap[V8.heap.size]? = some (.cells #[.int .i8 5, .int .i64 0, .string ⟨#[]⟩, .string ⟨#[]⟩, .slice A8 2 cap8] 25 (0, 0)) := by rw [hW9]; exact block_alloc _ _
                have hB9 : Below wc.heap.size wc W9 := b8.trans (b9.mono b8.size)
                have hT9 : TmAt (· < W9.heap.size) W9 (tup2 x) (.agg #[.int .i8 5, .int .i64 0, .string ⟨#[]⟩, .string ⟨#[]⟩, .slice A8 2 cap8]) := hTm.keep (fun b hb => b9.block b hb.2) (fun b hb => Nat.lt_of_lt_of_le hb.2 b9.size)
                have HSZ := Lib.hid (HZS.out W9 hB9)
                have gBf := (HK2.out.under hB9).blk
                have HB9 := Lib.hid hB9
                have HG9 := Lib.hid g9
                have HT9 := Lib.hid hT9
                clear y0 y1 y2 y3 y4 y5 y6 b8 b9 g9 hB9 hT9 hTm
                have y0 : W9.cell? ⟨gB, 0, none⟩ = some (.bool true) := cell_of_row gBf rfl
                have y1 : W9.cell? ⟨gB, 1, none⟩ = some (.int .i64 s.cs.length) := cell_of_row gBf rfl
                have y2 : W9.cell? ⟨gB, 2, none⟩ = some (.int .i8 0) := cell_of_row gBf rfl
                have y3 : W9.cell? ⟨gB, 3, none⟩ = some (.int .i64 0) := cell_of_row gBf rfl
                have y4 : W9.cell? ⟨gB, 4, none⟩ = some (.string ⟨#[]⟩) := cell_of_row gBf rfl
                have y5 : W9.cell? ⟨gB, 5, none⟩ = some (.string ⟨#[]⟩) := cell_of_row gBf rfl
                have y6 : W9.cell? ⟨gB, 6, none⟩ = some (.slice none 0 0) := cell_of_row gBf rfl
                clear gBf
                subst hW9
                go_wp2_with fail
                refine HSZ.out.mono ?_
                rintro e V10 ⟨rfl, b10⟩
                have g10 := (b10.block _ (heap_lt HG9.out)).trans HG9.out
                have hB10 := HB9.out.trans (b10.mono HB9.out.size)
                have gT10 := (hB10.block _ (heap_lt HGT.out)).trans HGT.out
                have hT10 := HT9.out.later b10
                have hU10 := HUT.out.later hB10
                have HSM := Lib.hid (Same_any (tup2 x) (tup2 x) _ _ V10 hT10 hU10)
                have HB10 := Lib.hid hB10
                have HU10 := Lib.hid hU10
                have HG10 := Lib.hid gT10
                clear y0 y1 y2 y3 y4 y5 y6
                have y0 : V10.cell? ⟨(V8.heap.size), 0, none⟩ = some (.int .i8 5) := cell_of_row g10 rfl
                have y1 : V10.cell? ⟨(V8.heap.size), 1, none⟩ = some (.int .i64 0) := cell_of_row g10 rfl
                have y2 : V10.cell? ⟨(V8.heap.size), 2, none⟩ = some (.string ⟨#[]⟩) := cell_of_row g10 rfl
                have y3 : V10.cell? ⟨(V8.heap.size), 3, none⟩ = some (.string ⟨#[]⟩) := cell_of_row g10 rfl
                have y4 : V10.cell? ⟨(V8.heap.size), 4, none⟩ = some (.slice A8 2 cap8) := cell_of_row g10 rfl
                have z0 : V10.cell? ⟨gT, 0, none⟩ = some (.int .i8 k1) := cell_of_row gT10 rfl
                have z1 : V10.cell? ⟨gT, 1, none⟩ = some (.int .i64 0) := cell_of_row gT10 rfl
                have z2 : V10.cell? ⟨gT, 2, none⟩ = some (.string ⟨#[]⟩) := cell_of_row gT10 rfl
                have z3 : V10.cell? ⟨gT, 3, none⟩ = some (.string ⟨#[]⟩) := cell_of_row gT10 rfl
                have z4 : V10.cell? ⟨gT, 4, none⟩ = some (.slice A1 n1 cap1) := cell_of_row gT10 rfl
                clear b10 g10 hB10 gT10 hT10 hU10
                go_wp2_with fail
                refine HSM.out.mono ?_
                rintro e V11 ⟨bs, rfl, hbs, b11⟩
                obtain rfl : bs = true := hbs.2 rfl
                have g11 := (b11.block _ (heap_lt HG10.out)).trans HG10.out
                have hB11 := HB10.out.trans (b11.mono HB10.out.size)
                have hZ := rSize_any (tup2 x) _ V11 (HU10.out.later b11)
                have hmin : min (tup2 x).nodes 257 = 1 + 2 * x.nodes := by rw [(tup2_nodes x).1]; omega
                rw [hmin, ← HMM.out] at hZ
                have HZ := Lib.hid hZ
                have HB11 := Lib.hid hB11
                clear y0 y1 y2 y3 y4 z0 z1 z2 z3 z4
                have z0 : V11.cell? ⟨gT, 0, none⟩ = some (.int .i8 k1) := cell_of_row g11 rfl
                have z1 : V11.cell? ⟨gT, 1, none⟩ = some (.int .i64 0) := cell_of_row g11 rfl
                have z2 : V11.cell? ⟨gT, 2, none⟩ = some (.string ⟨#[]⟩) := cell_of_row g11 rfl
                have z3 : V11.cell? ⟨gT, 3, none⟩ = some (.string ⟨#[]⟩) := cell_of_row g11 rfl
                have z4 : V11.cell? ⟨gT, 4, none⟩ = some (.slice A1 n1 cap1) := cell_of_row g11 rfl
                clear g11 hB11 hZ hmin b11 hbs
                go_wp2_with fail
                refine HZ.out.mono ?_
                rintro e V12 ⟨rfl, b12⟩
                have HN12 := Lib.hid (HNX.out V12 (HB11.out.trans (b12.mono HB11.out.size)))
                clear z0 z1 z2 z3 z4 b12
                go_wp2_with fail
                go_roundw
                case rel => exact ⟨j + 1, s1, by omega, by go_num, HN12.out⟩
                case measure => simp [intOf]; omega
        · go_wp2_with fail
          go_loopw [17] (fun i wr => ∃ jj : Nat, jj ≤ l.length ∧ i = .int .i64 jj ∧ L2 l w s j (.slice A2 l.length cap2) wr) (fun i _ => l.length - (intOf i).toNat)
          case atStart => exact ⟨0, Nat.zero_le _, rfl, H2.out⟩
          case round =>
            obtain ⟨i3, hi3, rfl, h3⟩ := hrel
            clear H2
            have H2 := Lib.hid h3
            clear h3
            by_cases hlt3 : i3 < l.length
            · obtain ⟨x, hx⟩ : ∃ x, l[i3]? = some x := ⟨l[i3], List.getElem?_eq_getElem hlt3⟩
              obtain ⟨y, hy2, hyg, hys, hyt⟩ := H2.out.word HCHK.out (by omega) hx
              obtain ⟨gw, capw, hwv, hgw, hcells⟩ := ownW_at H2.out.hb.own hy2
              simp only [Value.slice.injEq] at hwv
              obtain ⟨rfl, -, -⟩ := hwv
              obtain ⟨bb, aa, kk, nn, ss, tt, hcc⟩ := HW.shape y
              obtain ⟨q, hqy, hqm, hqc, hqa, hqx, hqt⟩ := word_aw hyg hcc
              obtain ⟨qc, qa, qx⟩ := q
              dsimp only at hqc hqa hqx hqm
              replace hqc := hqc.symm
              replace hqa := hqa.symm
              subst hqc hqa hqx
              obtain ⟨ad, u, hAad, had, hEl, hTy⟩ := HR.out.at_ i3 x hx
              obtain ⟨k', n', s', t', L', A', cap', hye, rfl⟩ : ∃ k' n' s' t' L' A' cap', x = Tm.mk k' n' s' t' L' ∧ u = .agg #[.int .i8 k', .int .i64 n', .string s', .string t', .slice A' L'.length cap'] := by
                cases hTy; exact ⟨_, _, _, _, _, _, _, rfl, rfl⟩
              have hrow : RowL wr gw (i3 * 7) (.bool bb) (.int .i64 aa) (.int .i8 kk) (.int .i64 nn) (.string ss) (.string tt) (.slice none 0 0) := by
                have h0 : ∀ i u, y.cells[i]? = some u → wr.cell? ⟨gw, i3 * 7 + i, none⟩ = some u := hcells
                rw [hcc] at h0
                exact ⟨h0 0 _ rfl, h0 1 _ rfl, h0 2 _ rfl, h0 3 _ rfl, h0 4 _ rfl, h0 5 _ rfl, h0 6 _ rfl⟩
              have hTK := Take_any H2.out.ok.good bb aa kk nn ss tt [] none 0 wr H2.out.hb.heap (hqt _ wr) (HSP.out.below H2.out.hb.below HSP.out.lt)
              have HTK := Lib.hid hTK
              have HQM := Lib.hid hqm
              have HQY := Lib.hid hqy
              have HYT := Lib.hid hyt
              have HTX := Lib.hid hTy
              have HEL := Lib.hid hEl
              have HADL : Hid (ad.block < w.heap.size) := had
              have HXE := Lib.hid hye
              have i0 : (0 : Int) ≤ (i3 : Int) := by omega
              have i1 : (i3 : Int) < (l.length : Int) := by omega
              obtain ⟨r0, r1, r2, r3, r4, r5, r6⟩ := hrow
              clear hTK hy2 hyg hys hyt hcells hcc hqy hqm hqt hEl hTy hgw had hx hye
              subst hAad
              go_wp2_with fail
              refine HTK.out.mono ?_
              rintro e V8 (⟨h0, -⟩ | ⟨-, tv, rfl, hTm, b8⟩)
              · exact absurd (HQM.out.symm.trans h0) (by decide)
              rw [HQY.out, HYT.out, HXE.out] at hTm
              obtain ⟨A8, cap8, rfl, -⟩ := hTm.parts
              obtain ⟨W9, hW9⟩ : ∃ W9, W9 = V8.alloc (.cells #[.int .i8 k', .int .i64 n', .string s', .string t', .slice A8 L'.length cap8] 25) := ⟨_, rfl⟩
              have b9 : Below V8.heap.size V8 W9 := by rw [hW9]; exact (Below.refl _ _).alloc (Nat.le_refl _) _
              have g9 : W9.heap[V8.heap.size]? = some (.cells #[.int .i8 k', .int .i64 n', .string s', .string t', .slice A8 L'.length cap8] 25 (0, 0)) := by rw [hW9]; exact block_alloc _ _
              have hB9 : Below wr.heap.size wr W9 := b8.trans (b9.mono b8.size)
              have hT9 : TmAt (· < W9.heap.size) W9 (Tm.mk k' n' s' t' L') (.agg #[.int .i8 k', .int .i64 n', .string s', .string t', .slice A8 L'.length cap8]) := hTm.keep (fun b hb => b9.block b hb.2) (fun b hb => Nat.lt_of_lt_of_le hb.2 b9.size)
              have hH9 := H2.out.hb.under (Nat.le_refl _) hB9
              have hrf : RowF W9 ad i3 (.int .i8 k') (.int .i64 n') (.string s') (.string t') (.slice A' L'.length cap') := by
                obtain ⟨c0, c1, c2, c3, c4, hcc, e0, e1, e2, e3, e4⟩ := HEL.out.keep (hH9.below.block ad.block HADL.out)
                simp only [Value.agg.injEq, Array.mk.injEq, List.cons.injEq, and_true] at hcc
                obtain ⟨rfl, rfl, rfl, rfl, rfl⟩ := hcc
                exact ⟨e0, e1, e2, e3, e4⟩
              have hT0 := HTX.out.keep (Q := (· < W9.heap.size)) (fun b hb => hH9.below.block b hb) (fun b hb => Nat.lt_of_lt_of_le hb hH9.below.size)
              rw [HXE.out] at hT0
              have hlt9 : ad.block < W9.heap.size := Nat.lt_of_lt_of_le HADL.out hH9.below.size
              have HB9 := Lib.hid hB9
              have HS9 := Lib.hid (And.intro g9 (And.intro hrf (And.intro hT9 (And.intro hT0 hlt9))))
              clear b8 b9 g9 hB9 hT9 hTm hH9 hrf hT0 hlt9 r0 r1 r2 r3 r4 r5 r6
              subst hW9
              go_wp2_with fail
              generalize V8.alloc (.cells #[.int .i8 k', .int .i64 n', .string s', .string t', .slice A8 L'.length cap8] 25) = W9 at HB9 HS9 ⊢
              obtain ⟨hg0, hrf0, hT9, hT0, hlt9⟩ := HS9.out
              have b0 : Below W9.heap.size W9 W9.drew := ⟨rfl, rfl, rfl, Nat.le_refl _, fun _ _ => rfl⟩
              have hS0 : W9.drew.heap[V8.heap.size]? = some (.cells #[(.int .i8 k'), (.int .i64 n'), (.string s'), (.string t'), (.slice A8 L'.length cap8)] 25 (0, 0)) ∧ RowF W9.drew ad i3 (.int .i8 k') (.int .i64 n') (.string s') (.string t') (.slice A' L'.length cap') := ⟨hg0, hrf0⟩
              have hS0' := hS0
              have hSM := Same_any (Tm.mk k' n' s' t' L') (Tm.mk k' n' s' t' L') _ _ W9.drew (hT9.later b0) (hT0.later b0)
              have hl0 : ad.block < W9.drew.heap.size := hlt9
              have hB0 := HB9.out.trans (b0.mono HB9.out.size)
              clear hg0 hrf0 hT9 hT0 hlt9 b0 HS9 HB9
              refine wp_region_held (S := fun V => V.heap[V8.heap.size]? = some (.cells #[(.int .i8 k'), (.int .i64 n'), (.string s'), (.string t'), (.slice A8 L'.length cap8)] 25 (0, 0)) ∧ RowF V ad i3 (.int .i8 k') (.int .i64 n') (.string s') (.string t') (.slice A' L'.length cap')) (by kernel_rfl) ?_
              show wpAnyH _ _ _ _ _ _ _ _ W9.drew
              generalize W9.drew = D at hS0 hS0' hSM hl0 hB0 ⊢
              refine wpAnyH_take (i := 0) (oi := ⟨some 136, _, _, _, _, _⟩) (v := ?_) rfl (by kernel_rfl) (by kernel_rfl) (by kernel_rfl) (fun _ _ _ h => h) (Or.inl ⟨by kernel_rfl, ?_⟩) (by assumption) ?_; rotate_left; (intro w hSw; (try dsimp only at hSw); obtain ⟨hgw, r0, r1, r2, r3, r4⟩ := hSw; have z0 : w.cell? ⟨V8.heap.size, 0, none⟩ = some (.int .i8 k') := cell_of_row hgw rfl; have z1 : w.cell? ⟨V8.heap.size, 1, none⟩ = some (.int .i64 n') := cell_of_row hgw rfl; have z2 : w.cell? ⟨V8.heap.size, 2, none⟩ = some (.string s') := cell_of_row hgw rfl; have z3 : w.cell? ⟨V8.heap.size, 3, none⟩ = some (.string t') := cell_of_row hgw rfl; have z4 : w.cell? ⟨V8.heap.size, 4, none⟩ = some (.slice A8 L'.length cap8) := cell_of_row hgw rfl; go_simp; first | done | with_reducible rfl); (try simp only [Act.put, List.setIfInBounds_toArray, List.set_cons_zero, List.set_cons_succ])
              refine wpAnyH_take (i := 1) (oi := ⟨some 137, _, _, _, _, _⟩) (v := ?_) rfl (by kernel_rfl) (by kernel_rfl) (by kernel_rfl) (fun _ _ _ h => h) (Or.inl ⟨by kernel_rfl, ?_⟩) (by assumption) ?_; rotate_left; (intro w hSw; (try dsimp only at hSw); obtain ⟨hgw, r0, r1, r2, r3, r4⟩ := hSw; have z0 : w.cell? ⟨V8.heap.size, 0, none⟩ = some (.int .i8 k') := cell_of_row hgw rfl; have z1 : w.cell? ⟨V8.heap.size, 1, none⟩ = some (.int .i64 n') := cell_of_row hgw rfl; have z2 : w.cell? ⟨V8.heap.size, 2, none⟩ = some (.string s') := cell_of_row hgw rfl; have z3 : w.cell? ⟨V8.heap.size, 3, none⟩ = some (.string t') := cell_of_row hgw rfl; have z4 : w.cell? ⟨V8.heap.size, 4, none⟩ = some (.slice A8 L'.length cap8) := cell_of_row hgw rfl; go_simp; first | done | with_reducible rfl); (try simp only [Act.put, List.setIfInBounds_toArray, List.set_cons_zero, List.set_cons_succ])
              refine wpAnyH_take (i := 2) (oi := ⟨some 138, _, _, _, _, _⟩) (v := ?_) rfl (by kernel_rfl) (by kernel_rfl) (by kernel_rfl) (fun _ _ _ h => h) (Or.inl ⟨by kernel_rfl, ?_⟩) (by assumption) ?_; rotate_left; (intro w hSw; (try dsimp only at hSw); obtain ⟨hgw, r0, r1, r2, r3, r4⟩ := hSw; have z0 : w.cell? ⟨V8.heap.size, 0, none⟩ = some (.int .i8 k') := cell_of_row hgw rfl; have z1 : w.cell? ⟨V8.heap.size, 1, none⟩ = some (.int .i64 n') := cell_of_row hgw rfl; have z2 : w.cell? ⟨V8.heap.size, 2, none⟩ = some (.string s') := cell_of_row hgw rfl; have z3 : w.cell? ⟨V8.heap.size, 3, none⟩ = some (.string t') := cell_of_row hgw rfl; have z4 : w.cell? ⟨V8.heap.size, 4, none⟩ = some (.slice A8 L'.length cap8) := cell_of_row hgw rfl; go_simp; first | done | with_reducible rfl); (try simp only [Act.put, List.setIfInBounds_toArray, List.set_cons_zero, List.set_cons_succ])
              refine wpAnyH_take (i := 3) (oi := ⟨some 139, _, _, _, _, _⟩) (v := ?_) rfl (by kernel_rfl) (by kernel_rfl) (by kernel_rfl) (fun _ _ _ h => h) (Or.inl ⟨by kernel_rfl, ?_⟩) (by assumption) ?_; rotate_left; (intro w hSw; (try dsimp only at hSw); obtain ⟨hgw, r0, r1, r2, r3, r4⟩ := hSw; have z0 : w.cell? ⟨V8.heap.size, 0, none⟩ = some (.int .i8 k') := cell_of_row hgw rfl; have z1 : w.cell? ⟨V8.heap.size, 1, none⟩ = some (.int .i64 n') := cell_of_row hgw rfl; have z2 : w.cell? ⟨V8.heap.size, 2, none⟩ = some (.string s') := cell_of_row hgw rfl; have z3 : w.cell? ⟨V8.heap.size, 3, none⟩ = some (.string t') := cell_of_row hgw rfl; have z4 : w.cell? ⟨V8.heap.size, 4, none⟩ = some (.slice A8 L'.length cap8) := cell_of_row hgw rfl; go_simp; first | done | with_reducible rfl); (try simp only [Act.put, List.setIfInBounds_toArray, List.set_cons_zero, List.set_cons_succ])
              refine wpAnyH_take (i := 4) (oi := ⟨some 140, _, _, _, _, _⟩) (v := ?_) rfl (by kernel_rfl) (by kernel_rfl) (by kernel_rfl) (fun _ _ _ h => h) (Or.inl ⟨by kernel_rfl, ?_⟩) (by assumption) ?_; rotate_left; (intro w hSw; (try dsimp only at hSw); obtain ⟨hgw, r0, r1, r2, r3, r4⟩ := hSw; have z0 : w.cell? ⟨V8.heap.size, 0, none⟩ = some (.int .i8 k') := cell_of_row hgw rfl; have z1 : w.cell? ⟨V8.heap.size, 1, none⟩ = some (.int .i64 n') := cell_of_row hgw rfl; have z2 : w.cell? ⟨V8.heap.size, 2, none⟩ = some (.string s') := cell_of_row hgw rfl; have z3 : w.cell? ⟨V8.heap.size, 3, none⟩ = some (.string t') := cell_of_row hgw rfl; have z4 : w.cell? ⟨V8.heap.size, 4, none⟩ = some (.slice A8 L'.length cap8) := cell_of_row hgw rfl; go_simp; first | done | with_reducible rfl); (try simp only [Act.put, List.setIfInBounds_toArray, List.set_cons_zero, List.set_cons_succ])
              refine wpAnyH_take (i := 5) (oi := ⟨some 141, _, _, _, _, _⟩) (v := ?_) rfl (by kernel_rfl) (by kernel_rfl) (by kernel_rfl) (fun _ _ _ h => h) (Or.inl ⟨by kernel_rfl, ?_⟩) (by assumption) ?_; rotate_left; (intro w hSw; (try dsimp only at hSw); obtain ⟨hgw, r0, r1, r2, r3, r4⟩ := hSw; have z0 : w.cell? ⟨V8.heap.size, 0, none⟩ = some (.int .i8 k') := cell_of_row hgw rfl; have z1 : w.cell? ⟨V8.heap.size, 1, none⟩ = some (.int .i64 n') := cell_of_row hgw rfl; have z2 : w.cell? ⟨V8.heap.size, 2, none⟩ = some (.string s') := cell_of_row hgw rfl; have z3 : w.cell? ⟨V8.heap.size, 3, none⟩ = some (.string t') := cell_of_row hgw rfl; have z4 : w.cell? ⟨V8.heap.size, 4, none⟩ = some (.slice A8 L'.length cap8) := cell_of_row hgw rfl; go_simp; first | done | with_reducible rfl); (try simp only [Act.put, List.setIfInBounds_toArray, List.set_cons_zero, List.set_cons_succ])
              refine wpAnyH_take (i := 6) (oi := ⟨some 142, _, _, _, _, _⟩) (v := ?_) rfl (by kernel_rfl) (by kernel_rfl) (by kernel_rfl) (fun _ _ _ h => h) (Or.inl ⟨by kernel_rfl, ?_⟩) (by assumption) ?_; rotate_left; (intro w hSw; (try dsimp only at hSw); obtain ⟨hgw, r0, r1, r2, r3, r4⟩ := hSw; have z0 : w.cell? ⟨V8.heap.size, 0, none⟩ = some (.int .i8 k') := cell_of_row hgw rfl; have z1 : w.cell? ⟨V8.heap.size, 1, none⟩ = some (.int .i64 n') := cell_of_row hgw rfl; have z2 : w.cell? ⟨V8.heap.size, 2, none⟩ = some (.string s') := cell_of_row hgw rfl; have z3 : w.cell? ⟨V8.heap.size, 3, none⟩ = some (.string t') := cell_of_row hgw rfl; have z4 : w.cell? ⟨V8.heap.size, 4, none⟩ = some (.slice A8 L'.length cap8) := cell_of_row hgw rfl; go_simp; first | done | with_reducible rfl); (try simp only [Act.put, List.setIfInBounds_toArray, List.set_cons_zero, List.set_cons_succ])
              refine wpAnyH_take (i := 7) (oi := ⟨some 143, _, _, _, _, _⟩) (v := ?_) rfl (by kernel_rfl) (by kernel_rfl) (by kernel_rfl) (fun _ _ _ h => h) (Or.inl ⟨by kernel_rfl, ?_⟩) (by assumption) ?_; rotate_left; (intro w hSw; (try dsimp only at hSw); obtain ⟨hgw, r0, r1, r2, r3, r4⟩ := hSw; have z0 : w.cell? ⟨V8.heap.size, 0, none⟩ = some (.int .i8 k') := cell_of_row hgw rfl; have z1 : w.cell? ⟨V8.heap.size, 1, none⟩ = some (.int .i64 n') := cell_of_row hgw rfl; have z2 : w.cell? ⟨V8.heap.size, 2, none⟩ = some (.string s') := cell_of_row hgw rfl; have z3 : w.cell? ⟨V8.heap.size, 3, none⟩ = some (.string t') := cell_of_row hgw rfl; have z4 : w.cell? ⟨V8.heap.size, 4, none⟩ = some (.slice A8 L'.length cap8) := cell_of_row hgw rfl; go_simp; first | done | with_reducible rfl); (try simp only [Act.put, List.setIfInBounds_toArray, List.set_cons_zero, List.set_cons_succ])
              refine wpAnyH_ready (rs := [8]) (by kernel_rfl) (by simp) ?_
              refine AllReadyH.cons (o := ⟨some 144, _, _, _, _, _⟩) rfl (fun K hK => ?_) AllReadyH.nil
              rw [if_pos (by rfl)]
              go_simp
              refine hSM.mono ?_
              rintro e V10 ⟨bs, rfl, hbs, b10⟩
              obtain rfl : bs = true := hbs.2 rfl
              have hS7 : V10.heap[V8.heap.size]? = some (.cells #[(.int .i8 k'), (.int .i64 n'), (.string s'), (.string t'), (.slice A8 L'.length cap8)] 25 (0, 0)) ∧ RowF V10 ad i3 (.int .i8 k') (.int .i64 n') (.string s') (.string t') (.slice A' L'.length cap') := ⟨(b10.block _ (heap_lt hS0'.1)).trans hS0'.1, hS0'.2.keep (b10.block _ hl0)⟩
              have hB10 := hB0.trans (b10.mono hB0.size)
              have HNX : Hid (L2 l w s j (.slice (some ⟨gw, 0, none⟩) l.length cap2) V10) := ⟨H2.out.hb.under (Nat.le_refl _) hB10, H2.out.ok, H2.out.ext, H2.out.len⟩
              clear hSM hbs b10 hB10 hB0 hS0 hS0' hl0
              refine hK.out _ _ hS7 (fun hSn => ?_)
              clear hK K; (try simp only [Act.put, List.setIfInBounds_toArray, List.set_cons_zero, List.set_cons_succ])
              refine wpAnyH_take (i := 9) (oi := ⟨some 145, _, _, _, _, _⟩) (v := ?_) rfl (by kernel_rfl) (by kernel_rfl) (by kernel_rfl) (fun _ _ _ h => h) (Or.inl ⟨by kernel_rfl, ?_⟩) (by assumption) ?_; rotate_left; (intro w hSw; (try dsimp only at hSw); go_simp; first | done | with_reducible rfl); (try simp only [Act.put, List.setIfInBounds_toArray, List.set_cons_zero, List.set_cons_succ])
              refine wpAnyH_take (i := 10) (oi := ⟨some 146, _, _, _, _, _⟩) (v := ?_) rfl (by kernel_rfl) (by kernel_rfl) (by kernel_rfl) (fun _ _ _ h => h) (Or.inl ⟨by kernel_rfl, ?_⟩) (by assumption) ?_; rotate_left; (intro w hSw; (try dsimp only at hSw); go_simp; first | done | with_reducible rfl); (try simp only [Act.put, List.setIfInBounds_toArray, List.set_cons_zero, List.set_cons_succ])
              refine wpAnyH_done (by kernel_rfl) ?_ _
              clear hS7
              go_wp2_with fail
              go_roundw
              case rel => exact ⟨i3 + 1, by omega, by go_num, HNX.out⟩
              case measure => simp [intOf]; omega
            · go_wp2_with fail
              refine (wakes4_ok wr (HSP.out.below H2.out.hb.below HSP.out.lt) (Go.Lib.tabBelow_of_tabIs HPW.out _ H2.out.hb.below)).mono ?_
              rintro e V12 ⟨rfl, b12⟩
              have HB12 := Lib.hid (H2.out.hb.below.trans (b12.mono H2.out.hb.below.size))
              clear b12
              go_wp2_with fail
              go_ret
              exact ⟨rfl, HB12.out⟩
end Go.Proofs.YtphfekcacaaabaaDoor
