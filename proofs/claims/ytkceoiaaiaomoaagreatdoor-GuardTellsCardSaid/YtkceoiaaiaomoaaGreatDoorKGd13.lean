/- Nothing of its own. -/
import Derived.Test.YtkceoiaaiaomoaaGreatDoorKGd11
section
set_option linter.unusedVariables false
set_option linter.unusedSimpArgs false
namespace Go.Proofs.YtkceoiaaiaomoaaGreatDoor
open Go.RowKit

def yesT : Tm := .mk 4 0 ⟨#[]⟩ ⟨#[]⟩ [moreT11 (.mk 6 0 ⟨#[]⟩ ⟨#[]⟩ []), isX]
theorem yes_n : yesT.nodes ≤ 8200 := by decide +kernel
theorem isX_n : isX.nodes ≤ 8200 := by decide +kernel
theorem moreA_n : (moreT11 (.mk 7 0 ⟨#[97]⟩ ⟨#[]⟩ [])).nodes ≤ 8200 := by decide +kernel
def YesAt (w1 wx : World) (gy : Nat) : Prop := Below w1.heap.size w1 wx ∧ ∃ Y0, wx.heap[gy]? = some (.cells #[.int .i8 4, .int .i64 0, .string ⟨#[]⟩, .string ⟨#[]⟩, .slice (some ⟨Y0, 0, none⟩) 2 2] 25 (0, 0)) ∧ TmAt (· < wx.heap.size) wx yesT (.agg #[.int .i8 4, .int .i64 0, .string ⟨#[]⟩, .string ⟨#[]⟩, .slice (some ⟨Y0, 0, none⟩) 2 2])
theorem yes_of {w1 V V9 : World} {ga gb : Nat} {k9 n9 : Int} {s9 t9 : ByteArray} {A9 : Option Addr} {m9 c9 : Nat} {a b c' d' e' : Value} (hS : Below w1.heap.size w1 V) (p0 : V.heap[gb]? = some (.cells #[.int .i8 k9, .int .i64 n9, .string s9, .string t9, .slice A9 m9 c9, a, b, c', d', e'] 25 (0, 0))) (hne : gb ≠ ga) (hge : w1.heap.size ≤ ga)
    (hm : TmAt (fun b => b < V.heap.size ∧ b ≠ ga) V (moreT11 (.mk 6 0 ⟨#[]⟩ ⟨#[]⟩ [])) (.agg #[.int .i8 k9, .int .i64 n9, .string s9, .string t9, .slice A9 m9 c9])) (hI : TmAt (· < w1.heap.size) w1 isX (.agg #[a, b, c', d', e'])) (s5 : V9.heap[ga]? = some (.cells #[.int .i8 4, .int .i64 0, .string ⟨#[]⟩, .string ⟨#[]⟩, .slice (some ⟨gb, 0, none⟩) 2 2] 25 (0, 0))) (m5 : Mod (fun k => k = ga) V V9) : YesAt w1 V9 ga := by
  obtain ⟨ik, iN, is, it, iA, im, ic, hIe⟩ : ∃ k n s t A m c, (Value.agg #[a, b, c', d', e']) = .agg #[.int .i8 k, .int .i64 n, .string s, .string t, .slice A m c] := by
    revert hI; generalize Value.agg #[a, b, c', d', e'] = u; intro hI; cases hI; exact ⟨_, _, _, _, _, _, _, rfl⟩
  simp only [Value.agg.injEq, Array.mk.injEq, List.cons.injEq, and_true] at hIe
  obtain ⟨rfl, rfl, rfl, rfl, rfl⟩ := hIe
  have z := hS.size
  have zz := m5.size
  have hS9 : Below w1.heap.size w1 V9 := hS.trans (m5.below hS.size (fun k (e : k = ga) => by omega))
  have p9 := (m5.block _ (heap_lt p0) hne).trans p0
  have hm9 : TmAt (· < V9.heap.size) V9 (moreT11 (.mk 6 0 ⟨#[]⟩ ⟨#[]⟩ [])) (.agg #[.int .i8 k9, .int .i64 n9, .string s9, .string t9, .slice A9 m9 c9]) := hm.keep (fun q hq => m5.block q hq.1 hq.2) (fun q hq => Nat.lt_of_lt_of_le hq.1 zz)
  exact ⟨hS9, gb, s5, TmAt.of_row (k := 4) (n := 0) (s := ⟨#[]⟩) (t := ⟨#[]⟩) (l := [_, _]) (row2_of (P := (· < V9.heap.size)) p9 (heap_lt p9) hm9 (hI.laterN hS9)) (by decide) (by decide) (by decide) (by decide)⟩
set_option maxHeartbeats 8000000 in
set_option maxRecDepth 100000 in
theorem wakes11_any (W : World) (hE : Env11 W) : Calls Tryz.prog 42 #[] W fun e w' => e = .returned (.bool true) ∧ Below W.heap.size W w' := by
  obtain ⟨h0, z0⟩ := here_of (.cells #[.int .i8 5, .int .i64 0, .string ⟨#[88]⟩, .string ⟨#[]⟩, .slice none 0 0] 25) (rfl : W.heap.size = W.heap.size)
  obtain ⟨h1, z1⟩ := here_of (.cells #[.int .i8 12, .int .i64 0, .string ⟨#[105, 115, 95, 105, 110, 116, 101, 103, 101, 114]⟩, .string ⟨#[]⟩, .slice (some ⟨W.heap.size, 0, none⟩) 1 1] 25) z0
  have g0 := there_of (.cells #[.int .i8 12, .int .i64 0, .string ⟨#[105, 115, 95, 105, 110, 116, 101, 103, 101, 114]⟩, .string ⟨#[]⟩, .slice (some ⟨W.heap.size, 0, none⟩) 1 1] 25) h0
  obtain ⟨w1, hw1⟩ : ∃ w1, w1 = (W.alloc (.cells #[.int .i8 5, .int .i64 0, .string ⟨#[88]⟩, .string ⟨#[]⟩, .slice none 0 0] 25)).alloc (.cells #[.int .i8 12, .int .i64 0, .string ⟨#[105, 115, 95, 105, 110, 116, 101, 103, 101, 114]⟩, .string ⟨#[]⟩, .slice (some ⟨W.heap.size, 0, none⟩) 1 1] 25) := ⟨_, rfl⟩
  have b1 : Below W.heap.size W w1 := by rw [hw1]; exact ((Below.refl _ W).alloc (Nat.le_refl _) _).alloc (by omega) _
  rw [← hw1] at g0 h1 z1
  have tX : TmAt (· < w1.heap.size) w1 (.mk 5 0 ⟨#[88]⟩ ⟨#[]⟩ []) (.agg #[.int .i8 5, .int .i64 0, .string ⟨#[88]⟩, .string ⟨#[]⟩, .slice none 0 0]) := .leaf _ _ 5 0 ⟨#[88]⟩ (by decide) (by decide) (by decide)
  have tI : TmAt (· < w1.heap.size) w1 isX (.agg #[.int .i8 12, .int .i64 0, .string ⟨#[105, 115, 95, 105, 110, 116, 101, 103, 101, 114]⟩, .string ⟨#[]⟩, .slice (some ⟨W.heap.size, 0, none⟩) 1 1]) := TmAt.of_row (k := 12) (n := 0) (s := ⟨#[105, 115, 95, 105, 110, 116, 101, 103, 101, 114]⟩) (t := ⟨#[]⟩) (l := [_]) (row1_of (P := (· < w1.heap.size)) g0 (heap_lt g0) tX) (by decide) (by decide) (by decide) (by decide)
  have HE1 := Lib.hid (hE.under b1)
  have HB1 := Lib.hid b1
  have HI := Lib.hid tI
  have HG1 := Lib.hid h1
  clear h0 z0 z1 g0 tX tI b1 hE
  go_enter Tryz.func42, Tryz.ntmps42
  go_upto_region 2 with fail
  rw [← hw1]
  clear hw1
  have HISR : Hid (w1.heap[W.heap.size + 1]? = some (.cells #[.int .i8 12, .int .i64 0, .string ⟨#[105, 115, 95, 105, 110, 116, 101, 103, 101, 114]⟩, .string ⟨#[]⟩, .slice (some ⟨W.heap.size, 0, none⟩) 1 1] 25 (0, 0))) := HG1
  clear HG1
  have HG1 := HISR
  clear HISR
  go_cut [2] (fun p wx => ∃ gy, p = .pointer (some ⟨gy, 0, none⟩) ∧ Hid (YesAt w1 wx gy))
  case first =>
    refine wp_region_held (S := fun V => Below w1.heap.size w1 V) (by kernel_rfl) ?_
    show wpAnyH _ _ _ _ _ _ _ _ w1.drew
    have hS : Below w1.heap.size w1 w1.drew := ⟨rfl, rfl, rfl, Nat.le_refl _, fun _ _ => rfl⟩
    generalize w1.drew = V0 at hS ⊢
    refine wpAnyH_take (i := 0) (oi := ⟨some 6, _, _, _, _, _⟩) (v := ?_) rfl (by kernel_rfl) (by kernel_rfl) (by kernel_rfl) (fun _ _ _ h => h) (Or.inl ⟨by kernel_rfl, ?_⟩) (by assumption) ?_; rotate_left; (intro VV hSw; (try dsimp only at hSw); go_simp; first | done | with_reducible rfl); (try simp only [Act.put, sI, sZ, sS])
    refine wpAnyH_take (i := 2) (oi := ⟨some 8, _, _, _, _, _⟩) (v := ?_) rfl (by kernel_rfl) (by kernel_rfl) (by kernel_rfl) (fun _ _ _ h => h) (Or.inl ⟨by kernel_rfl, ?_⟩) (by assumption) ?_; rotate_left; (intro VV hSw; (try dsimp only at hSw); have hr := (hSw.block _ (heap_lt HG1.out)).trans HG1.out; obtain ⟨x0, x1, x2, x3, x4⟩ := five_of hr; go_simp; first | done | with_reducible rfl); (try simp only [Act.put, sI, sZ, sS])
    refine wpAnyH_ready (rs := [1, 5]) (by kernel_rfl) (by simp) ?_
    refine AllReadyH.cons (o := ⟨some 7, _, _, _, _, _⟩) rfl (fun K hK => ?_) (AllReadyH.cons (o := ⟨some 2, _, _, _, _, _⟩) rfl (fun K hK => ?_) AllReadyH.nil)
    · rw [if_pos (by rfl)]
      go_simp
      refine (more11_in (fun _ => False) (.mk 6 0 ⟨#[]⟩ ⟨#[]⟩ []) _ V0 (fun _ h => h.elim) (.leaf _ _ 6 0 ⟨#[]⟩ (by decide) (by decide) (by decide))).mono ?_
      rintro e V1 ⟨k9, n9, s9, t9, A9, m9, c9, rfl, hm0, b5⟩
      have hS1 := hS.trans (b5.mono hS.size)
      have zS := hS.size
      have hm : TmAt (· < V1.heap.size) V1 (moreT11 (.mk 6 0 ⟨#[]⟩ ⟨#[]⟩ [])) (.agg #[.int .i8 k9, .int .i64 n9, .string s9, .string t9, .slice A9 m9 c9]) := hm0.mono (fun b hb => hb.elim (fun h => h.elim) (fun h => h.2))
      clear hm0
      refine hK.out _ _ hS1 (fun hSn => ?_)
      clear hK K hSn; (try simp only [Act.put, sI, sZ, sS])
      clear hS
      have hS := hS1
      clear hS1
      refine wpAnyH_ready (rs := [3, 5]) (by kernel_rfl) (by simp) ?_
      refine AllReadyH.cons (o := ⟨some 9, _, _, _, _, _⟩) rfl (fun K hK => ?_) (AllReadyH.cons (o := ⟨some 2, _, _, _, _, _⟩) rfl (fun K hK => ?_) AllReadyH.nil)
      · rw [if_pos (by rfl)]
        go_simp
        have p0 := block_alloc V1 (.cells #[.int .i8 k9, .int .i64 n9, .string s9, .string t9, .slice A9 m9 c9, .int .i8 12, .int .i64 0, .string ⟨#[105, 115, 95, 105, 110, 116, 101, 103, 101, 114]⟩, .string ⟨#[]⟩, .slice (some ⟨W.heap.size, 0, none⟩) 1 1] 25)
        have hS1 := hS.alloc hS.size (.cells #[.int .i8 k9, .int .i64 n9, .string s9, .string t9, .slice A9 m9 c9, .int .i8 12, .int .i64 0, .string ⟨#[105, 115, 95, 105, 110, 116, 101, 103, 101, 114]⟩, .string ⟨#[]⟩, .slice (some ⟨W.heap.size, 0, none⟩) 1 1] 25)
        have ba := Below.heap_alloc V1 (.cells #[.int .i8 k9, .int .i64 n9, .string s9, .string t9, .slice A9 m9 c9, .int .i8 12, .int .i64 0, .string ⟨#[105, 115, 95, 105, 110, 116, 101, 103, 101, 114]⟩, .string ⟨#[]⟩, .slice (some ⟨W.heap.size, 0, none⟩) 1 1] 25)
        have bz : (V1.alloc (.cells #[.int .i8 k9, .int .i64 n9, .string s9, .string t9, .slice A9 m9 c9, .int .i8 12, .int .i64 0, .string ⟨#[105, 115, 95, 105, 110, 116, 101, 103, 101, 114]⟩, .string ⟨#[]⟩, .slice (some ⟨W.heap.size, 0, none⟩) 1 1] 25)).heap.size = V1.heap.size + 1 := World.size_alloc _ _
        have p0e : w1.heap.size ≤ V1.heap.size := hS.size
        have hm2 := hm.keep (Q := (· < (V1.alloc (.cells #[.int .i8 k9, .int .i64 n9, .string s9, .string t9, .slice A9 m9 c9, .int .i8 12, .int .i64 0, .string ⟨#[105, 115, 95, 105, 110, 116, 101, 103, 101, 114]⟩, .string ⟨#[]⟩, .slice (some ⟨W.heap.size, 0, none⟩) 1 1] 25)).heap.size)) (fun b hb => ba b hb) (fun b hb => Nat.lt_of_lt_of_le hb (by rw [World.size_alloc]; exact Nat.le_succ _))
        clear hm
        have hm := hm2
        clear hm2
        obtain ⟨gb, gbe⟩ : ∃ g, g = V1.heap.size := ⟨_, rfl⟩
        rw [← gbe] at p0 p0e
        refine hK.out _ _ hS1 (fun hSn => ?_)
        clear hK K hSn; (try simp only [Act.put, sI, sZ, sS])
        rw [← gbe]
        clear gbe
        generalize V1.alloc (.cells #[.int .i8 k9, .int .i64 n9, .string s9, .string t9, .slice A9 m9 c9, .int .i8 12, .int .i64 0, .string ⟨#[105, 115, 95, 105, 110, 116, 101, 103, 101, 114]⟩, .string ⟨#[]⟩, .slice (some ⟨W.heap.size, 0, none⟩) 1 1] 25) = V2 at p0 hS1 ba bz hm ⊢
        clear hS
        have hS := hS1
        clear hS1
        refine wpAnyH_take (i := 4) (oi := ⟨some 10, _, _, _, _, _⟩) (v := ?_) rfl (by kernel_rfl) (by kernel_rfl) (by kernel_rfl) (fun _ _ _ h => h) (Or.inl ⟨by kernel_rfl, ?_⟩) (by assumption) ?_; rotate_left; (intro VV hSw; (try dsimp only at hSw); go_simp; first | done | with_reducible rfl); (try simp only [Act.put, sI, sZ, sS])
        have hlt := heap_lt p0
        clear ba bz p0e
        refine wpAnyH_ready (rs := [5]) (by kernel_rfl) (by simp) ?_
        refine AllReadyH.cons (o := ⟨some 2, _, _, _, _, _⟩) rfl (fun K hK => ?_) AllReadyH.nil
        · rw [if_pos (by rfl)]
          go_simp
          have hga := block_alloc V2 (.cells #[.int .i8 0, .int .i64 0, .string ⟨#[]⟩, .string ⟨#[]⟩, .slice none 0 0] 25)
          have hS1 := hS.alloc hS.size (.cells #[.int .i8 0, .int .i64 0, .string ⟨#[]⟩, .string ⟨#[]⟩, .slice none 0 0] 25)
          have ba := Below.heap_alloc V2 (.cells #[.int .i8 0, .int .i64 0, .string ⟨#[]⟩, .string ⟨#[]⟩, .slice none 0 0] 25)
          have bz : (V2.alloc (.cells #[.int .i8 0, .int .i64 0, .string ⟨#[]⟩, .string ⟨#[]⟩, .slice none 0 0] 25)).heap.size = V2.heap.size + 1 := World.size_alloc _ _
          have hgae : w1.heap.size ≤ V2.heap.size := hS.size
          have hm2 := hm.keep (Q := fun b => b < (V2.alloc (.cells #[.int .i8 0, .int .i64 0, .string ⟨#[]⟩, .string ⟨#[]⟩, .slice none 0 0] 25)).heap.size ∧ b ≠ V2.heap.size) (fun b hb => ba b hb) (fun b (hb : b < _) => ⟨by rw [World.size_alloc]; omega, by omega⟩)
          have p2 := (ba gb hlt).trans p0
          have hne : gb ≠ V2.heap.size := by omega
          clear hm p0 hlt
          have hm := hm2
          have p0 := p2
          clear hm2 p2
          obtain ⟨ga, gae⟩ : ∃ g, g = V2.heap.size := ⟨_, rfl⟩
          rw [← gae] at hga hgae hm hne
          refine hK.out _ _ hS1 (fun hSn => ?_)
          clear hK K hSn; (try simp only [Act.put, sI, sZ, sS])
          rw [← gae]
          clear gae
          generalize V2.alloc (.cells #[.int .i8 0, .int .i64 0, .string ⟨#[]⟩, .string ⟨#[]⟩, .slice none 0 0] 25) = V3 at hga hS1 ba bz hm p0 ⊢
          clear hS
          have hS := hS1
          clear hS1
          refine wpAnyH_ready (rs := [6]) (by kernel_rfl) (by simp) ?_
          refine AllReadyH.cons (o := ⟨none, _, _, _, _, _⟩) rfl (fun K hK => ?_) AllReadyH.nil
          · rw [if_pos (by rfl)]
            obtain ⟨⟨z0, z1, z2, z3, z4⟩, zf0, zf1, zf2, zf3, zf4⟩ := five_fr hga
            obtain ⟨s5, m5⟩ := set_five (.int .i8 4) (.int .i64 0) (.string ⟨#[]⟩) (.string ⟨#[]⟩) (.slice (some ⟨gb, 0, none⟩) 2 2) hga
            have hy := yes_of hS p0 hne hgae hm (HI.out) s5 m5
            go_simp
            generalize ((((((V3).setCell ⟨ga, 0, none⟩ (.int .i8 4)).setCell ⟨ga, 1, none⟩ (.int .i64 0)).setCell ⟨ga, 2, none⟩ (.string ⟨#[]⟩)).setCell ⟨ga, 3, none⟩ (.string ⟨#[]⟩)).setCell ⟨ga, 4, none⟩ (.slice (some ⟨gb, 0, none⟩) 2 2)) = V9 at s5 m5 hy ⊢
            have HY := Lib.hid hy
            refine hK.out _ _ hy.1 (fun hSn => ?_)
            clear hK K hSn; (try simp only [Act.put, sI, sZ, sS])
            refine wpAnyH_done (by kernel_rfl) ?_ _
            clear z0 zf0 z1 zf1 z2 zf2 z3 zf3 z4 zf4
            go_wp2_with fail
            go_meet
            exact ⟨ga, rfl, HY⟩
      · rw [if_pos (by rfl)]
        go_simp
        have hga := block_alloc V1 (.cells #[.int .i8 0, .int .i64 0, .string ⟨#[]⟩, .string ⟨#[]⟩, .slice none 0 0] 25)
        have hS1 := hS.alloc hS.size (.cells #[.int .i8 0, .int .i64 0, .string ⟨#[]⟩, .string ⟨#[]⟩, .slice none 0 0] 25)
        have ba := Below.heap_alloc V1 (.cells #[.int .i8 0, .int .i64 0, .string ⟨#[]⟩, .string ⟨#[]⟩, .slice none 0 0] 25)
        have bz : (V1.alloc (.cells #[.int .i8 0, .int .i64 0, .string ⟨#[]⟩, .string ⟨#[]⟩, .slice none 0 0] 25)).heap.size = V1.heap.size + 1 := World.size_alloc _ _
        have hgae : w1.heap.size ≤ V1.heap.size := hS.size
        have hm2 := hm.keep (Q := fun b => b < (V1.alloc (.cells #[.int .i8 0, .int .i64 0, .string ⟨#[]⟩, .string ⟨#[]⟩, .slice none 0 0] 25)).heap.size ∧ b ≠ V1.heap.size) (fun b hb => ba b hb) (fun b (hb : b < _) => ⟨by rw [World.size_alloc]; omega, by omega⟩)
        clear hm
        have hm := hm2
        clear hm2
        obtain ⟨ga, gae⟩ : ∃ g, g = V1.heap.size := ⟨_, rfl⟩
        rw [← gae] at hga hgae hm
        refine hK.out _ _ hS1 (fun hSn => ?_)
        clear hK K hSn; (try simp only [Act.put, sI, sZ, sS])
        rw [← gae]
        clear gae
        generalize V1.alloc (.cells #[.int .i8 0, .int .i64 0, .string ⟨#[]⟩, .string ⟨#[]⟩, .slice none 0 0] 25) = V2 at hga hS1 ba bz hm ⊢
        clear hS
        have hS := hS1
        clear hS1
        have hlt := heap_lt hga
        clear ba bz
        refine wpAnyH_ready (rs := [3]) (by kernel_rfl) (by simp) ?_
        refine AllReadyH.cons (o := ⟨some 9, _, _, _, _, _⟩) rfl (fun K hK => ?_) AllReadyH.nil
        · rw [if_pos (by rfl)]
          go_simp
          have p0 := block_alloc V2 (.cells #[.int .i8 k9, .int .i64 n9, .string s9, .string t9, .slice A9 m9 c9, .int .i8 12, .int .i64 0, .string ⟨#[105, 115, 95, 105, 110, 116, 101, 103, 101, 114]⟩, .string ⟨#[]⟩, .slice (some ⟨W.heap.size, 0, none⟩) 1 1] 25)
          have hS1 := hS.alloc hS.size (.cells #[.int .i8 k9, .int .i64 n9, .string s9, .string t9, .slice A9 m9 c9, .int .i8 12, .int .i64 0, .string ⟨#[105, 115, 95, 105, 110, 116, 101, 103, 101, 114]⟩, .string ⟨#[]⟩, .slice (some ⟨W.heap.size, 0, none⟩) 1 1] 25)
          have ba := Below.heap_alloc V2 (.cells #[.int .i8 k9, .int .i64 n9, .string s9, .string t9, .slice A9 m9 c9, .int .i8 12, .int .i64 0, .string ⟨#[105, 115, 95, 105, 110, 116, 101, 103, 101, 114]⟩, .string ⟨#[]⟩, .slice (some ⟨W.heap.size, 0, none⟩) 1 1] 25)
          have bz : (V2.alloc (.cells #[.int .i8 k9, .int .i64 n9, .string s9, .string t9, .slice A9 m9 c9, .int .i8 12, .int .i64 0, .string ⟨#[105, 115, 95, 105, 110, 116, 101, 103, 101, 114]⟩, .string ⟨#[]⟩, .slice (some ⟨W.heap.size, 0, none⟩) 1 1] 25)).heap.size = V2.heap.size + 1 := World.size_alloc _ _
          have p0e : w1.heap.size ≤ V2.heap.size := hS.size
          have hm2 := hm.keep (Q := fun b => b < (V2.alloc (.cells #[.int .i8 k9, .int .i64 n9, .string s9, .string t9, .slice A9 m9 c9, .int .i8 12, .int .i64 0, .string ⟨#[105, 115, 95, 105, 110, 116, 101, 103, 101, 114]⟩, .string ⟨#[]⟩, .slice (some ⟨W.heap.size, 0, none⟩) 1 1] 25)).heap.size ∧ b ≠ ga) (fun b hb => ba b hb.1) (fun b hb => ⟨by rw [World.size_alloc]; omega, hb.2⟩)
          have hga2 := (ba ga hlt).trans hga
          have hne : V2.heap.size ≠ ga := by omega
          clear hm hga hlt
          have hm := hm2
          have hga := hga2
          clear hm2 hga2
          obtain ⟨gb, gbe⟩ : ∃ g, g = V2.heap.size := ⟨_, rfl⟩
          rw [← gbe] at p0 p0e hne
          refine hK.out _ _ hS1 (fun hSn => ?_)
          clear hK K hSn; (try simp only [Act.put, sI, sZ, sS])
          rw [← gbe]
          clear gbe
          generalize V2.alloc (.cells #[.int .i8 k9, .int .i64 n9, .string s9, .string t9, .slice A9 m9 c9, .int .i8 12, .int .i64 0, .string ⟨#[105, 115, 95, 105, 110, 116, 101, 103, 101, 114]⟩, .string ⟨#[]⟩, .slice (some ⟨W.heap.size, 0, none⟩) 1 1] 25) = V4 at p0 hS1 ba bz hm hga ⊢
          clear hS
          have hS := hS1
          clear hS1
          refine wpAnyH_take (i := 4) (oi := ⟨some 10, _, _, _, _, _⟩) (v := ?_) rfl (by kernel_rfl) (by kernel_rfl) (by kernel_rfl) (fun _ _ _ h => h) (Or.inl ⟨by kernel_rfl, ?_⟩) (by assumption) ?_; rotate_left; (intro VV hSw; (try dsimp only at hSw); go_simp; first | done | with_reducible rfl); (try simp only [Act.put, sI, sZ, sS])
          refine wpAnyH_ready (rs := [6]) (by kernel_rfl) (by simp) ?_
          refine AllReadyH.cons (o := ⟨none, _, _, _, _, _⟩) rfl (fun K hK => ?_) AllReadyH.nil
          · rw [if_pos (by rfl)]
            obtain ⟨⟨z0, z1, z2, z3, z4⟩, zf0, zf1, zf2, zf3, zf4⟩ := five_fr hga
            obtain ⟨s5, m5⟩ := set_five (.int .i8 4) (.int .i64 0) (.string ⟨#[]⟩) (.string ⟨#[]⟩) (.slice (some ⟨gb, 0, none⟩) 2 2) hga
            have hy := yes_of hS p0 hne hgae hm (HI.out) s5 m5
            go_simp
            generalize ((((((V4).setCell ⟨ga, 0, none⟩ (.int .i8 4)).setCell ⟨ga, 1, none⟩ (.int .i64 0)).setCell ⟨ga, 2, none⟩ (.string ⟨#[]⟩)).setCell ⟨ga, 3, none⟩ (.string ⟨#[]⟩)).setCell ⟨ga, 4, none⟩ (.slice (some ⟨gb, 0, none⟩) 2 2)) = V9 at s5 m5 hy ⊢
            have HY := Lib.hid hy
            refine hK.out _ _ hy.1 (fun hSn => ?_)
            clear hK K hSn; (try simp only [Act.put, sI, sZ, sS])
            refine wpAnyH_done (by kernel_rfl) ?_ _
            clear z0 zf0 z1 zf1 z2 zf2 z3 zf3 z4 zf4
            go_wp2_with fail
            go_meet
            exact ⟨ga, rfl, HY⟩
    · rw [if_pos (by rfl)]
      go_simp
      have hga := block_alloc V0 (.cells #[.int .i8 0, .int .i64 0, .string ⟨#[]⟩, .string ⟨#[]⟩, .slice none 0 0] 25)
      have hS1 := hS.alloc hS.size (.cells #[.int .i8 0, .int .i64 0, .string ⟨#[]⟩, .string ⟨#[]⟩, .slice none 0 0] 25)
      have ba := Below.heap_alloc V0 (.cells #[.int .i8 0, .int .i64 0, .string ⟨#[]⟩, .string ⟨#[]⟩, .slice none 0 0] 25)
      have bz : (V0.alloc (.cells #[.int .i8 0, .int .i64 0, .string ⟨#[]⟩, .string ⟨#[]⟩, .slice none 0 0] 25)).heap.size = V0.heap.size + 1 := World.size_alloc _ _
      have hgae : w1.heap.size ≤ V0.heap.size := hS.size
      obtain ⟨ga, gae⟩ : ∃ g, g = V0.heap.size := ⟨_, rfl⟩
      rw [← gae] at hga hgae
      refine hK.out _ _ hS1 (fun hSn => ?_)
      clear hK K hSn; (try simp only [Act.put, sI, sZ, sS])
      rw [← gae]
      clear gae
      generalize V0.alloc (.cells #[.int .i8 0, .int .i64 0, .string ⟨#[]⟩, .string ⟨#[]⟩, .slice none 0 0] 25) = V1 at hga hS1 ba bz ⊢
      clear hS
      have hS := hS1
      clear hS1
      have hlt := heap_lt hga
      clear ba bz
      refine wpAnyH_ready (rs := [1]) (by kernel_rfl) (by simp) ?_
      refine AllReadyH.cons (o := ⟨some 7, _, _, _, _, _⟩) rfl (fun K hK => ?_) AllReadyH.nil
      · rw [if_pos (by rfl)]
        go_simp
        refine (more11_in (fun _ => False) (.mk 6 0 ⟨#[]⟩ ⟨#[]⟩ []) _ V1 (fun _ h => h.elim) (.leaf _ _ 6 0 ⟨#[]⟩ (by decide) (by decide) (by decide))).mono ?_
        rintro e V2 ⟨k9, n9, s9, t9, A9, m9, c9, rfl, hm0, b5⟩
        have hS1 := hS.trans (b5.mono hS.size)
        have zS := hS.size
        have hm : TmAt (fun b => b < V2.heap.size ∧ b ≠ ga) V2 (moreT11 (.mk 6 0 ⟨#[]⟩ ⟨#[]⟩ [])) (.agg #[.int .i8 k9, .int .i64 n9, .string s9, .string t9, .slice A9 m9 c9]) := hm0.mono (fun b hb => hb.elim (fun h => h.elim) (fun h => ⟨h.2, by omega⟩))
        have hga2 := (b5.block _ hlt).trans hga
        clear hga hlt
        have hga := hga2
        have hlt := heap_lt hga
        clear hga2
        clear hm0
        refine hK.out _ _ hS1 (fun hSn => ?_)
        clear hK K hSn; (try simp only [Act.put, sI, sZ, sS])
        clear hS
        have hS := hS1
        clear hS1
        refine wpAnyH_ready (rs := [3]) (by kernel_rfl) (by simp) ?_
        refine AllReadyH.cons (o := ⟨some 9, _, _, _, _, _⟩) rfl (fun K hK => ?_) AllReadyH.nil
        · rw [if_pos (by rfl)]
          go_simp
          have p0 := block_alloc V2 (.cells #[.int .i8 k9, .int .i64 n9, .string s9, .string t9, .slice A9 m9 c9, .int .i8 12, .int .i64 0, .string ⟨#[105, 115, 95, 105, 110, 116, 101, 103, 101, 114]⟩, .string ⟨#[]⟩, .slice (some ⟨W.heap.size, 0, none⟩) 1 1] 25)
          have hS1 := hS.alloc hS.size (.cells #[.int .i8 k9, .int .i64 n9, .string s9, .string t9, .slice A9 m9 c9, .int .i8 12, .int .i64 0, .string ⟨#[105, 115, 95, 105, 110, 116, 101, 103, 101, 114]⟩, .string ⟨#[]⟩, .slice (some ⟨W.heap.size, 0, none⟩) 1 1] 25)
          have ba := Below.heap_alloc V2 (.cells #[.int .i8 k9, .int .i64 n9, .string s9, .string t9, .slice A9 m9 c9, .int .i8 12, .int .i64 0, .string ⟨#[105, 115, 95, 105, 110, 116, 101, 103, 101, 114]⟩, .string ⟨#[]⟩, .slice (some ⟨W.heap.size, 0, none⟩) 1 1] 25)
          have bz : (V2.alloc (.cells #[.int .i8 k9, .int .i64 n9, .string s9, .string t9, .slice A9 m9 c9, .int .i8 12, .int .i64 0, .string ⟨#[105, 115, 95, 105, 110, 116, 101, 103, 101, 114]⟩, .string ⟨#[]⟩, .slice (some ⟨W.heap.size, 0, none⟩) 1 1] 25)).heap.size = V2.heap.size + 1 := World.size_alloc _ _
          have p0e : w1.heap.size ≤ V2.heap.size := hS.size
          have hm2 := hm.keep (Q := fun b => b < (V2.alloc (.cells #[.int .i8 k9, .int .i64 n9, .string s9, .string t9, .slice A9 m9 c9, .int .i8 12, .int .i64 0, .string ⟨#[105, 115, 95, 105, 110, 116, 101, 103, 101, 114]⟩, .string ⟨#[]⟩, .slice (some ⟨W.heap.size, 0, none⟩) 1 1] 25)).heap.size ∧ b ≠ ga) (fun b hb => ba b hb.1) (fun b hb => ⟨by rw [World.size_alloc]; omega, hb.2⟩)
          have hga2 := (ba ga hlt).trans hga
          have hne : V2.heap.size ≠ ga := by omega
          clear hm hga hlt
          have hm := hm2
          have hga := hga2
          clear hm2 hga2
          obtain ⟨gb, gbe⟩ : ∃ g, g = V2.heap.size := ⟨_, rfl⟩
          rw [← gbe] at p0 p0e hne
          refine hK.out _ _ hS1 (fun hSn => ?_)
          clear hK K hSn; (try simp only [Act.put, sI, sZ, sS])
          rw [← gbe]
          clear gbe
          generalize V2.alloc (.cells #[.int .i8 k9, .int .i64 n9, .string s9, .string t9, .slice A9 m9 c9, .int .i8 12, .int .i64 0, .string ⟨#[105, 115, 95, 105, 110, 116, 101, 103, 101, 114]⟩, .string ⟨#[]⟩, .slice (some ⟨W.heap.size, 0, none⟩) 1 1] 25) = V4 at p0 hS1 ba bz hm hga ⊢
          clear hS
          have hS := hS1
          clear hS1
          refine wpAnyH_take (i := 4) (oi := ⟨some 10, _, _, _, _, _⟩) (v := ?_) rfl (by kernel_rfl) (by kernel_rfl) (by kernel_rfl) (fun _ _ _ h => h) (Or.inl ⟨by kernel_rfl, ?_⟩) (by assumption) ?_; rotate_left; (intro VV hSw; (try dsimp only at hSw); go_simp; first | done | with_reducible rfl); (try simp only [Act.put, sI, sZ, sS])
          refine wpAnyH_ready (rs := [6]) (by kernel_rfl) (by simp) ?_
          refine AllReadyH.cons (o := ⟨none, _, _, _, _, _⟩) rfl (fun K hK => ?_) AllReadyH.nil
          · rw [if_pos (by rfl)]
            obtain ⟨⟨z0, z1, z2, z3, z4⟩, zf0, zf1, zf2, zf3, zf4⟩ := five_fr hga
            obtain ⟨s5, m5⟩ := set_five (.int .i8 4) (.int .i64 0) (.string ⟨#[]⟩) (.string ⟨#[]⟩) (.slice (some ⟨gb, 0, none⟩) 2 2) hga
            have hy := yes_of hS p0 hne hgae hm (HI.out) s5 m5
            go_simp
            generalize ((((((V4).setCell ⟨ga, 0, none⟩ (.int .i8 4)).setCell ⟨ga, 1, none⟩ (.int .i64 0)).setCell ⟨ga, 2, none⟩ (.string ⟨#[]⟩)).setCell ⟨ga, 3, none⟩ (.string ⟨#[]⟩)).setCell ⟨ga, 4, none⟩ (.slice (some ⟨gb, 0, none⟩) 2 2)) = V9 at s5 m5 hy ⊢
            have HY := Lib.hid hy
            refine hK.out _ _ hy.1 (fun hSn => ?_)
            clear hK K hSn; (try simp only [Act.put, sI, sZ, sS])
            refine wpAnyH_done (by kernel_rfl) ?_ _
            clear z0 zf0 z1 zf1 z2 zf2 z3 zf3 z4 zf4
            go_wp2_with fail
            go_meet
            exact ⟨ga, rfl, HY⟩
  case rest =>
  obtain ⟨gy, rfl, HYES⟩ := hcut
  obtain ⟨w3, hw3⟩ : ∃ w, w = wc := ⟨_, rfl⟩
  subst hw3
  obtain ⟨b13, Y0, q1, tY⟩ := HYES.out
  have HY := Lib.hid tY
  have HI3 := Lib.hid (HI.out.laterN b13)
  have HB3 := Lib.hid (HB1.out.trans (b13.mono HB1.out.size))
  have HE3 := Lib.hid (HE1.out.under b13)
  have HG3 := Lib.hid q1
  have HG13 := Lib.hid ((b13.block _ (heap_lt HG1.out)).trans HG1.out)
  clear q1 tY b13 HYES
  go_upto_region 3 with fail
  refine wp_region_held (S := fun V => Below w3.heap.size w3 V) (by kernel_rfl) ?_
  show wpAnyH _ _ _ _ _ _ _ _ w3.drew
  have hS : Below w3.heap.size w3 w3.drew := ⟨rfl, rfl, rfl, Nat.le_refl _, fun _ _ => rfl⟩
  generalize w3.drew = V0 at hS ⊢
  refine wpAnyH_take (i := 0) (oi := ⟨some 11, _, _, _, _, _⟩) (v := ?_) rfl (by kernel_rfl) (by kernel_rfl) (by kernel_rfl) (fun _ _ _ h => h) (Or.inl ⟨by kernel_rfl, ?_⟩) (by assumption) ?_; rotate_left; (intro VV hSw; (try dsimp only at hSw); have hr := (hSw.block _ (heap_lt HG3.out)).trans HG3.out; obtain ⟨y0, y1, y2, y3, y4⟩ := five_of hr; go_simp; first | done | with_reducible rfl); (try simp only [Act.put, sI, sZ, sS])
  refine wpAnyH_ready (rs := [1]) (by kernel_rfl) (by simp) ?_
  refine AllReadyH.cons (o := ⟨some 12, _, _, _, _, _⟩) rfl (fun K hK => ?_) AllReadyH.nil
  · rw [if_pos (by rfl)]
    go_simp
    refine (binds11_any V0).mono ?_
    rintro e V101 ⟨rfl, bq, hb1⟩
    have hS1 := hS.trans (bq.mono hS.size)
    refine hK.out _ _ hS1 (fun hSn => ?_)
    clear hK K hSn; (try simp only [Act.put, sI, sZ, sS])
    clear hS
    have hS := hS1
    clear hS1
    refine wpAnyH_ready (rs := [2]) (by kernel_rfl) (by simp) ?_
    refine AllReadyH.cons (o := ⟨some 13, _, _, _, _, _⟩) rfl (fun K hK => ?_) AllReadyH.nil
    · rw [if_pos (by rfl)]
      go_simp
      refine (Holds_any bx3 yesT _ _ 1 1 V101 (HY.out.laterN hS) hb1 yes_n (HE3.out.under hS)).mono ?_
      rintro e V102 ⟨rfl, bq2⟩
      have hS1 := hS.trans (bq2.mono hS.size)
      refine hK.out _ _ hS1 (fun hSn => ?_)
      clear hK K hSn; (try simp only [Act.put, sI, sZ, sS])
      clear hS
      have hS := hS1
      clear hS1
      rw [show holdR bx3 yesT = true from wk1]
      refine wpAnyH_take (i := 3) (oi := ⟨some 14, _, _, _, _, _⟩) (v := ?_) rfl (by kernel_rfl) (by kernel_rfl) (by kernel_rfl) (fun _ _ _ h => h) (Or.inl ⟨by kernel_rfl, ?_⟩) (by assumption) ?_; rotate_left; (intro VV hSw; (try dsimp only at hSw); go_simp; first | done | with_reducible rfl); (try simp only [Act.put, sI, sZ, sS])
      refine wpAnyH_take (i := 4) (oi := ⟨some 15, _, _, _, _, _⟩) (v := ?_) rfl (by kernel_rfl) (by kernel_rfl) (by kernel_rfl) (fun _ _ _ h => h) (Or.inl ⟨by kernel_rfl, ?_⟩) (by assumption) ?_; rotate_left; (intro VV hSw; (try dsimp only at hSw); go_simp; first | done | with_reducible rfl); (try simp only [Act.put, sI, sZ, sS])
      refine wpAnyH_ready (rs := [5]) (by kernel_rfl) (by simp) ?_
      refine AllReadyH.cons (o := ⟨some 16, _, _, _, _, _⟩) rfl (fun K hK => ?_) AllReadyH.nil
      · rw [if_pos (by rfl)]
        go_simp
        refine (more11_any (.mk 7 0 ⟨#[97]⟩ ⟨#[]⟩ []) _ V102 (.leaf _ _ 7 0 ⟨#[97]⟩ (by decide) (by decide) (by decide))).mono ?_
        rintro e V103 ⟨k8, n8, s8, t8, A8, m8, c8, rfl, hm, bq3⟩
        have hS1 := hS.trans (bq3.mono hS.size)
        refine hK.out _ _ hS1 (fun hSn => ?_)
        clear hK K hSn; (try simp only [Act.put, sI, sZ, sS])
        clear hS
        have hS := hS1
        clear hS1
        refine wpAnyH_ready (rs := [6]) (by kernel_rfl) (by simp) ?_
        refine AllReadyH.cons (o := ⟨some 17, _, _, _, _, _⟩) rfl (fun K hK => ?_) AllReadyH.nil
        · rw [if_pos (by rfl)]
          go_simp
          refine (binds11_any V103).mono ?_
          rintro e V104 ⟨rfl, bq4, hb2⟩
          have hS1 := hS.trans (bq4.mono hS.size)
          refine hK.out _ _ hS1 (fun hSn => ?_)
          clear hK K hSn; (try simp only [Act.put, sI, sZ, sS])
          clear hS
          have hS := hS1
          clear hS1
          refine wpAnyH_ready (rs := [7]) (by kernel_rfl) (by simp) ?_
          refine AllReadyH.cons (o := ⟨some 18, _, _, _, _, _⟩) rfl (fun K hK => ?_) AllReadyH.nil
          · rw [if_pos (by rfl)]
            go_simp
            refine (Test_any bx3 (moreT11 (.mk 7 0 ⟨#[97]⟩ ⟨#[]⟩ [])) _ _ 1 1 V104 (hm.laterN bq4) hb2 moreA_n (HE3.out.under hS)).mono ?_
            rintro e V105 ⟨rfl, bq5⟩
            have hS1 := hS.trans (bq5.mono hS.size)
            refine hK.out _ _ hS1 (fun hSn => ?_)
            clear hK K hSn; (try simp only [Act.put, sI, sZ, sS])
            clear hS
            have hS := hS1
            clear hS1
            rw [wk2]
            refine wpAnyH_take (i := 8) (oi := ⟨some 19, _, _, _, _, _⟩) (v := ?_) rfl (by kernel_rfl) (by kernel_rfl) (by kernel_rfl) (fun _ _ _ h => h) (Or.inl ⟨by kernel_rfl, ?_⟩) (by assumption) ?_; rotate_left; (intro VV hSw; (try dsimp only at hSw); go_simp; first | done | with_reducible rfl); (try simp only [Act.put, sI, sZ, sS])
            refine wpAnyH_take (i := 9) (oi := ⟨some 20, _, _, _, _, _⟩) (v := ?_) rfl (by kernel_rfl) (by kernel_rfl) (by kernel_rfl) (fun _ _ _ h => h) (Or.inl ⟨by kernel_rfl, ?_⟩) (by assumption) ?_; rotate_left; (intro VV hSw; (try dsimp only at hSw); go_simp; first | done | with_reducible rfl); (try simp only [Act.put, sI, sZ, sS])
            refine wpAnyH_take (i := 10) (oi := ⟨some 21, _, _, _, _, _⟩) (v := ?_) rfl (by kernel_rfl) (by kernel_rfl) (by kernel_rfl) (fun _ _ _ h => h) (Or.inl ⟨by kernel_rfl, ?_⟩) (by assumption) ?_; rotate_left; (intro VV hSw; (try dsimp only at hSw); go_simp; first | done | with_reducible rfl); (try simp only [Act.put, sI, sZ, sS])
            refine wpAnyH_take (i := 11) (oi := ⟨some 22, _, _, _, _, _⟩) (v := ?_) rfl (by kernel_rfl) (by kernel_rfl) (by kernel_rfl) (fun _ _ _ h => h) (Or.inl ⟨by kernel_rfl, ?_⟩) (by assumption) ?_; rotate_left; (intro VV hSw; (try dsimp only at hSw); have hr := (hSw.block _ (heap_lt HG13.out)).trans HG13.out; obtain ⟨y0, y1, y2, y3, y4⟩ := five_of hr; go_simp; first | done | with_reducible rfl); (try simp only [Act.put, sI, sZ, sS])
            refine wpAnyH_ready (rs := [12]) (by kernel_rfl) (by simp) ?_
            refine AllReadyH.cons (o := ⟨some 23, _, _, _, _, _⟩) rfl (fun K hK => ?_) AllReadyH.nil
            · rw [if_pos (by rfl)]
              go_simp
              refine (binds11_any V105).mono ?_
              rintro e V106 ⟨rfl, bq6, hb3⟩
              have hS1 := hS.trans (bq6.mono hS.size)
              refine hK.out _ _ hS1 (fun hSn => ?_)
              clear hK K hSn; (try simp only [Act.put, sI, sZ, sS])
              clear hS
              have hS := hS1
              clear hS1
              refine wpAnyH_ready (rs := [13]) (by kernel_rfl) (by simp) ?_
              refine AllReadyH.cons (o := ⟨some 24, _, _, _, _, _⟩) rfl (fun K hK => ?_) AllReadyH.nil
              · rw [if_pos (by rfl)]
                go_simp
                refine (Test_any bx3 isX _ _ 1 1 V106 (HI3.out.laterN hS) hb3 isX_n (HE3.out.under hS)).mono ?_
                rintro e V107 ⟨rfl, bq7⟩
                have hS1 := hS.trans (bq7.mono hS.size)
                refine hK.out _ _ hS1 (fun hSn => ?_)
                clear hK K hSn; (try simp only [Act.put, sI, sZ, sS])
                clear hS
                have hS := hS1
                clear hS1
                rw [wk3]
                refine wpAnyH_take (i := 14) (oi := ⟨some 25, _, _, _, _, _⟩) (v := ?_) rfl (by kernel_rfl) (by kernel_rfl) (by kernel_rfl) (fun _ _ _ h => h) (Or.inl ⟨by kernel_rfl, ?_⟩) (by assumption) ?_; rotate_left; (intro VV hSw; (try dsimp only at hSw); go_simp; first | done | with_reducible rfl); (try simp only [Act.put, sI, sZ, sS])
                refine wpAnyH_take (i := 15) (oi := ⟨some 0, _, _, _, _, _⟩) (v := ?_) rfl (by kernel_rfl) (by kernel_rfl) (by kernel_rfl) (fun _ _ _ h => h) (Or.inl ⟨by kernel_rfl, ?_⟩) (by assumption) ?_; rotate_left; (intro VV hSw; (try dsimp only at hSw); go_simp; first | done | with_reducible rfl); (try simp only [Act.put, sI, sZ, sS])
                refine wpAnyH_done (by kernel_rfl) ?_ _
                have HFIN := Lib.hid (HB3.out.trans (hS.mono HB3.out.size))
                go_wp2_with fail
                go_ret
                exact ⟨rfl, HFIN.out⟩
end Go.Proofs.YtkceoiaaiaomoaaGreatDoor
end
section

end
