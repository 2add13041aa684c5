/- The law GuardFirst's walk, from the program's own contracts. -/
import Derived.Test.YthbiaaeoajmlbaaGreatDoorKStB
import Derived.Test.YthbiaaeoajmlbaaGreatDoorKWakes07
import Derived.Deep.DeepCutAuto
import Derived.Tactics2
set_option linter.unusedVariables false
set_option linter.unusedSimpArgs false
namespace Go.Proofs.YthbiaaeoajmlbaaGreatDoor
open Go.RowKit

def VBx (W : World) (y : Tm) (wx : World) (g : Nat) : Prop := Below W.heap.size W wx ∧ ∃ k9 n9 s9 t9 A9 m9 c9, wx.heap[g]? = some (.cells #[.int .i8 k9, .int .i64 n9, .string s9, .string t9, .slice A9 m9 c9] 48 (0, 0)) ∧ TmAt (· < wx.heap.size) wx y (.agg #[.int .i8 k9, .int .i64 n9, .string s9, .string t9, .slice A9 m9 c9])
theorem vbx_of {W V V9 : World} {y : Tm} {g : Nat} {k9 n9 : Int} {s9 t9 : ByteArray} {A9 : Option Addr} {m9 c9 : Nat} (hS : Below W.heap.size W V) (hge : W.heap.size ≤ g) (hv : TmAt (fun b => b < V.heap.size ∧ b ≠ g) V y (.agg #[.int .i8 k9, .int .i64 n9, .string s9, .string t9, .slice A9 m9 c9])) (s5 : V9.heap[g]? = some (.cells #[.int .i8 k9, .int .i64 n9, .string s9, .string t9, .slice A9 m9 c9] 48 (0, 0))) (m5 : Mod (fun k => k = g) V V9) : VBx W y V9 g :=
  ⟨hS.trans (m5.below hS.size (fun k (e : k = g) => by omega)), _, _, _, _, _, _, _, s5, hv.keep (fun q hq => m5.block q hq.1 hq.2) (fun q hq => Nat.lt_of_lt_of_le hq.1 m5.size)⟩
set_option maxHeartbeats 16000000 in
set_option maxRecDepth 100000 in
theorem walk_GuardFirst (v0 : Value) (nm : ByteArray) (v2 : Value) (hnm : nm.size ≤ maxLen) (w : World) (o0 : ∃ A n cap l, v0 = .slice A n cap ∧ BRow (· < w.heap.size) w A n cap l) (o2 : ∃ t, TmAt (· < w.heap.size) w t v2) (hE : Env11 w) :
    Calls Tryz.prog 12 #[v0, .string nm, v2] w fun e w' => e = .returned (.bool true) ∧ Below w.heap.size w w' := by
  obtain ⟨A, m, cap, l, rfl, hR⟩ := o0
  obtain ⟨t, hT⟩ := o2
  obtain ⟨tk, tn, ts_, tt_, tA, tm, tc, rfl⟩ : ∃ k n s t A m c, v2 = .agg #[.int .i8 k, .int .i64 n, .string s, .string t, .slice A m c] := by cases hT; exact ⟨_, _, _, _, _, _, _, rfl⟩
  obtain rfl := hR.len
  obtain ⟨m, hm9⟩ : ∃ m, m = l.length := ⟨_, rfl⟩
  rw [← hm9] at hR ⊢
  clear hm9
  obtain ⟨w1, hw1⟩ : ∃ w1, w1 = w.alloc (.cells #[.int .i8 tk, .int .i64 tn, .string ts_, .string tt_, .slice tA tm tc] 48) := ⟨_, rfl⟩
  have b1 : Below w.heap.size w w1 := by rw [hw1]; exact (Below.refl _ w).alloc (Nat.le_refl _) _
  have HG0 : Hid (w1.heap[w.heap.size]? = some (.cells #[.int .i8 tk, .int .i64 tn, .string ts_, .string tt_, .slice tA tm tc] 48 (0, 0))) := Lib.hid (by rw [hw1]; exact block_alloc _ _)
  have HT := Lib.hid (hT.laterN b1)
  have HR := Lib.hid (hR.later b1)
  have HE := Lib.hid (hE.under b1)
  have HB1 := Lib.hid b1
  have HNM := Lib.hid hnm
  have HB := Lib.hid (Below.refl w1.heap.size w1)
  have gx := HG0.out
  obtain ⟨x0, x1, x2, x3, x4⟩ := five_of gx
  clear gx b1 hE hT hR
  go_enter Tryz.func12, Tryz.ntmps12
  go_upto_region 1 with fail
  rw [← hw1]
  clear hw1
  go_wp2_with fail
  refine (great11_le l A m cap w1 HR.out).mono ?_
  rintro e w2 ⟨⟨q0, rfl, hq0⟩, b2⟩
  have HBn := Lib.hid (HB.out.trans (b2.mono HB.out.size))
  clear HB x0 x1 x2 x3 x4
  have HB := HBn
  clear HBn
  have gx := (HB.out.block _ (heap_lt HG0.out)).trans HG0.out
  obtain ⟨x0, x1, x2, x3, x4⟩ := five_of gx
  clear gx
  clear b2
  cases q0 with
  | true =>
    go_wp2_with fail
    refine (wakes11_any w2 (HE.out.under HB.out)).mono ?_
    rintro e w9 ⟨rfl, b9⟩
    have HF := Lib.hid (HB1.out.trans ((HB.out.trans (b9.mono HB.out.size)).mono HB1.out.size))
    clear b9
    go_wp2_with fail
    go_ret
    exact ⟨rfl, HF.out⟩
  | false =>
  have HL := Lib.hid (hq0 rfl)
  clear hq0
  go_wp2_with fail
  refine (rCheck_any t _ w2 (HT.out.laterN HB.out)).mono ?_
  rintro e w3 ⟨rfl, b3⟩
  have HBn := Lib.hid (HB.out.trans (b3.mono HB.out.size))
  clear HB x0 x1 x2 x3 x4
  have HB := HBn
  clear HBn
  have gx := (HB.out.block _ (heap_lt HG0.out)).trans HG0.out
  obtain ⟨x0, x1, x2, x3, x4⟩ := five_of gx
  clear gx
  clear b3
  by_cases hck : checkN t = 0
  rotate_left
  · have hc2 : (checkN t != 0) = true := by simpa using hck
    go_wp2_with fail
    refine (wakes11_any w3 (HE.out.under HB.out)).mono ?_
    rintro e w9 ⟨rfl, b9⟩
    have HF := Lib.hid (HB1.out.trans ((HB.out.trans (b9.mono HB.out.size)).mono HB1.out.size))
    clear b9
    go_wp2_with fail
    go_ret
    exact ⟨rfl, HF.out⟩
  rw [hck]
  have HCK := Lib.hid hck
  clear hck
  go_wp2_with fail
  refine (rname7_any nm w3 hnm).mono ?_
  rintro e w4 ⟨rfl, hq4⟩
  subst hq4
  cases hnb : nameB nm 3 with
  | false =>
    go_wp2_with fail
    refine (wakes11_any w3 (HE.out.under HB.out)).mono ?_
    rintro e w9 ⟨rfl, b9⟩
    have HF := Lib.hid (HB1.out.trans ((HB.out.trans (b9.mono HB.out.size)).mono HB1.out.size))
    clear b9
    go_wp2_with fail
    go_ret
    exact ⟨rfl, HF.out⟩
  | true =>
  by_cases hus : nm.data.toList = [95]
  · have hu2 : (nm.toList == [95]) = true := by rw [ByteArray.toList_eq, hus]; rfl
    go_wp2_with fail
    refine (wakes11_any w3 (HE.out.under HB.out)).mono ?_
    rintro e w9 ⟨rfl, b9⟩
    have HF := Lib.hid (HB1.out.trans ((HB.out.trans (b9.mono HB.out.size)).mono HB1.out.size))
    clear b9
    go_wp2_with fail
    go_ret
    exact ⟨rfl, HF.out⟩
  have hu2 : (nm.toList == [95]) = false := by
    rw [ByteArray.toList_eq]
    cases h : (nm.data.toList == [95]) with
    | false => rfl
    | true => exact absurd (eq_of_beq h) hus
  have HNB := Lib.hid hnb
  have HUS := Lib.hid hus
  clear hnb hus
  go_wp2_with fail
  refine (rmay_any l A m cap w3 (HR.out.later HB.out)).mono ?_
  rintro e w5 ⟨rfl, b5⟩
  have HBn := Lib.hid (HB.out.trans (b5.mono HB.out.size))
  clear HB x0 x1 x2 x3 x4
  have HB := HBn
  clear HBn
  have gx := (HB.out.block _ (heap_lt HG0.out)).trans HG0.out
  obtain ⟨x0, x1, x2, x3, x4⟩ := five_of gx
  clear gx
  clear b5 hu2
  cases hml : mayL l with
  | false =>
    go_wp2_with fail
    refine (wakes11_any w5 (HE.out.under HB.out)).mono ?_
    rintro e w9 ⟨rfl, b9⟩
    have HF := Lib.hid (HB1.out.trans ((HB.out.trans (b9.mono HB.out.size)).mono HB1.out.size))
    clear b9
    go_wp2_with fail
    go_ret
    exact ⟨rfl, HF.out⟩
  | true =>
  have HML := Lib.hid hml
  clear hml
  go_upto_region 3 with fail
  obtain ⟨w6, hw6⟩ : ∃ w6, w6 = w5.alloc (.cells #[.int .i8 5, .int .i64 0, .string nm, .string ⟨#[]⟩, .slice none 0 0] 25) := ⟨_, rfl⟩
  obtain ⟨gv, hgv⟩ : ∃ gv, gv = w5.heap.size := ⟨_, rfl⟩
  have HGV : Hid (w6.heap[gv]? = some (.cells #[.int .i8 5, .int .i64 0, .string nm, .string ⟨#[]⟩, .slice none 0 0] 25 (0, 0))) := Lib.hid (by rw [hw6, hgv]; exact block_alloc _ _)
  have HBn : Hid (Below w1.heap.size w1 w6) := Lib.hid (by rw [hw6]; exact HB.out.alloc HB.out.size _)
  have HBV := Lib.hid (Below.refl w6.heap.size w6)
  clear HB x0 x1 x2 x3 x4
  have HB := HBn
  clear HBn
  go_upto_region 4 with fail
  rw [← hw6, ← hgv]
  clear hw6 hgv
  have gx := (HB.out.block _ (heap_lt HG0.out)).trans HG0.out
  obtain ⟨x0, x1, x2, x3, x4⟩ := five_of gx
  clear gx
  have gx := (HBV.out.block _ (heap_lt HGV.out)).trans HGV.out
  obtain ⟨y0, y1, y2, y3, y4⟩ := five_of gx
  clear gx
  obtain ⟨L5, hL5⟩ : ∃ L5, L5 = [(nm, t)] ++ l := ⟨_, rfl⟩
  have HL5 := Lib.hid hL5
  have HEV5 : Hid (valE L5 (vaN nm) = 0 ∧ valV L5 (vaN nm) = t) := Lib.hid (by rw [hL5]; exact first_E l nm t HNB.out HUS.out HML.out HCK.out)
  clear hL5
  have HX5 := Lib.hid ((HB.out.block _ (heap_lt HG0.out)).trans HG0.out)
  have HY5 := Lib.hid ((HBV.out.block _ (heap_lt HGV.out)).trans HGV.out)
  go_cut [8, 9] (fun p q wx => ∃ g9, p = .pointer (some ⟨g9, 0, none⟩) ∧ q = .int .i64 0 ∧ Hid (VBx w6 t wx g9))
  case first =>
    refine wp_region_held (S := fun V => Below w6.heap.size w6 V) (by kernel_rfl) ?_
    show wpAnyH _ _ _ _ _ _ _ _ w6.drew
    have hS : Below w6.heap.size w6 w6.drew := ⟨rfl, rfl, rfl, Nat.le_refl _, fun _ _ => rfl⟩
    have hDz : w6.drew.heap.size = w6.heap.size := rfl
    generalize w6.drew = D at hS hDz ⊢
    have HDW := Lib.hid hS
    have HDZ := Lib.hid hDz
    obtain ⟨P, hPd⟩ : ∃ P : Nat → Prop, P = (· < D.heap.size) := ⟨_, rfl⟩
    have HP : Hid (∀ b, P b → b < D.heap.size) := Lib.hid (fun b hb => by rw [hPd] at hb; exact hb)
    have HTF : Hid (TmAt P D t (.agg #[.int .i8 tk, .int .i64 tn, .string ts_, .string tt_, .slice tA tm tc])) := Lib.hid (by rw [hPd]; exact HT.out.laterN (HB.out.trans (hS.mono HB.out.size)))
    have HLB : Hid (BRow P D A m cap l) := Lib.hid (by rw [hPd]; exact HR.out.later (HB.out.trans (hS.mono HB.out.size)))
    have HED : Hid (Env11 D) := Lib.hid (HE.out.under (HB.out.trans (hS.mono HB.out.size)))
    have h : StB D D P [] (.slice none 0 0) [] := StB.start _ _
    clear hDz hPd x0 x1 x2 x3 x4 y0 y1 y2 y3 y4
    refine wpAnyH_take (i := 0) (oi := ⟨some 41, _, _, _, _, _⟩) (v := ?_) rfl (by kernel_rfl) (by kernel_rfl) (by kernel_rfl) (fun _ _ _ h => h) (Or.inl ⟨by kernel_rfl, ?_⟩) (by assumption) ?_; rotate_left; (intro VV hSw; (try dsimp only at hSw); have hr := (hSw.block _ (heap_lt HY5.out)).trans HY5.out; obtain ⟨y0, y1, y2, y3, y4⟩ := five_of hr; go_simp; first | done | with_reducible rfl); (try simp only [Act.put, sI, sZ, sS])
    refine wpAnyH_take (i := 1) (oi := ⟨some 42, _, _, _, _, _⟩) (v := ?_) rfl (by kernel_rfl) (by kernel_rfl) (by kernel_rfl) (fun _ _ _ h => h) (Or.inl ⟨by kernel_rfl, ?_⟩) (by assumption) ?_; rotate_left; (intro VV hSw; (try dsimp only at hSw); go_simp; first | done | with_reducible rfl); (try simp only [Act.put, sI, sZ, sS])
    refine wpAnyH_take (i := 2) (oi := ⟨some 43, _, _, _, _, _⟩) (v := ?_) rfl (by kernel_rfl) (by kernel_rfl) (by kernel_rfl) (fun _ _ _ h => h) (Or.inl ⟨by kernel_rfl, ?_⟩) (by assumption) ?_; rotate_left; (intro VV hSw; (try dsimp only at hSw); have hr := (hSw.block _ (heap_lt HX5.out)).trans HX5.out; obtain ⟨x0, x1, x2, x3, x4⟩ := five_of hr; go_simp; first | done | with_reducible rfl); (try simp only [Act.put, sI, sZ, sS])
    refine wpAnyH_take (i := 3) (oi := ⟨some 44, _, _, _, _, _⟩) (v := ?_) rfl (by kernel_rfl) (by kernel_rfl) (by kernel_rfl) (fun _ _ _ h => h) (Or.inl ⟨by kernel_rfl, ?_⟩) (by assumption) ?_; rotate_left; (intro VV hSw; (try dsimp only at hSw); go_simp; first | done | with_reducible rfl); (try simp only [Act.put, sI, sZ, sS])
    refine wpAnyH_take (i := 5) (oi := ⟨some 46, _, _, _, _, _⟩) (v := ?_) rfl (by kernel_rfl) (by kernel_rfl) (by kernel_rfl) (fun _ _ _ h => h) (Or.inl ⟨by kernel_rfl, ?_⟩) (by assumption) ?_; rotate_left; (intro VV hSw; (try dsimp only at hSw); go_simp; first | done | with_reducible rfl); (try simp only [Act.put, sI, sZ, sS])
    refine wpAnyH_ready (rs := [4, 11]) (by kernel_rfl) (by simp) ?_
    refine AllReadyH.cons (o := ⟨some 45, _, _, _, _, _⟩) rfl (fun K hK => ?_) (AllReadyH.cons (o := ⟨some 8, _, _, _, _, _⟩) rfl (fun K hK => ?_) AllReadyH.nil)
    · rw [if_pos (by rfl)]
      go_simp
      have h1 := h.fresh1 HP.out HNM.out HTF.out
      have hS1 := hS.alloc hS.size (.cells #[.string nm, .int .i8 tk, .int .i64 tn, .string ts_, .string tt_, .slice tA tm tc] 65)
      obtain ⟨gb, hg⟩ : ∃ g, g = D.heap.size := ⟨_, rfl⟩
      rw [← hg] at h1
      refine hK.out _ _ hS1 (fun hSn => ?_)
      clear hK K hSn; (try simp only [Act.put, sI, sZ, sS])
      rw [← hg]
      clear hg
      generalize D.alloc (.cells #[.string nm, .int .i8 tk, .int .i64 tn, .string ts_, .string tt_, .slice tA tm tc] 65) = X1 at h1 hS1 ⊢
      clear h hS
      have h := h1
      have hS := hS1
      clear h1 hS1
      refine wpAnyH_ready (rs := [6, 11]) (by kernel_rfl) (by simp) ?_
      refine AllReadyH.cons (o := ⟨some 47, _, _, _, _, _⟩) rfl (fun K hK => ?_) (AllReadyH.cons (o := ⟨some 8, _, _, _, _, _⟩) rfl (fun K hK => ?_) AllReadyH.nil)
      · rw [if_pos (by rfl)]
        have hb0 := h.below
        refine wp_own_binds (ys := l) (.tmp 45) (.tmp 46) rfl h.own hb0.size (h.apart HP.out) rfl rfl (((HLB.out.keep (Q := P) (fun b hb => hb0.block b (HP.out b hb)) (fun _ h => h)).rowB)) (by have := HL.out; show 1 + _ ≤ _; omega) ?_
        intro v1 X2 O hg hb
        rw [← HL5.out] at O
        have h1 := h.app O hg hb
        obtain ⟨A5, cap5, rfl⟩ := O.shape
        have hS1 : Below w6.heap.size w6 X2 := HDW.out.trans (h1.below.mono (by rw [HDZ.out]; exact Nat.le_refl _))
        refine hK.out _ _ hS1 (fun hSn => ?_)
        clear hK K hSn; (try simp only [Act.put, sI, sZ, sS])
        clear O hg hb hb0
        clear h hS
        have h := h1
        have hS := hS1
        clear h1 hS1
        refine wpAnyH_ready (rs := [7, 11]) (by kernel_rfl) (by simp) ?_
        refine AllReadyH.cons (o := ⟨some 48, _, _, _, _, _⟩) rfl (fun K hK => ?_) (AllReadyH.cons (o := ⟨some 8, _, _, _, _, _⟩) rfl (fun K hK => ?_) AllReadyH.nil)
        · rw [if_pos (by rfl)]
          go_simp
          refine (Value_in D.heap.size X2.heap.size L5 (vaN nm) _ A5 L5.length cap5 X2 (.leaf _ _ 5 0 nm (by decide) (by decide) HNM.out) (h.own.brt HP.out h.below.size) (Nat.le_refl _) (va_nodes nm) (HED.out.under h.below).env).mono ?_
          rintro e X3 ⟨k9, n9, s9, t9, A9, m9, c9, rfl, hv, b5⟩
          have h1 := h.under HP.out b5
          have hS1 := hS.trans (b5.mono hS.size)
          rw [HEV5.out.1]
          rw [HEV5.out.2] at hv
          have z1 := h.below.size
          have z2 := b5.size
          have hvt : TmAt (· < X3.heap.size) X3 (t) (.agg #[.int .i8 k9, .int .i64 n9, .string s9, .string t9, .slice A9 m9 c9]) := hv.mono (fun b hb => by rcases hb with hb | hb <;> omega)
          clear hv b5 z1 z2
          refine hK.out _ _ hS1 (fun hSn => ?_)
          clear hK K hSn; (try simp only [Act.put, sI, sZ, sS])
          clear h hS
          have h := h1
          have hS := hS1
          clear h1 hS1
          refine wpAnyH_take (i := 8) (oi := ⟨some 40, _, _, _, _, _⟩) (v := ?_) rfl (by kernel_rfl) (by kernel_rfl) (by kernel_rfl) (fun _ _ _ h => h) (Or.inl ⟨by kernel_rfl, ?_⟩) (by assumption) ?_; rotate_left; (intro VV hSw; (try dsimp only at hSw); go_simp; first | done | with_reducible rfl); (try simp only [Act.put, sI, sZ, sS])
          refine wpAnyH_take (i := 9) (oi := ⟨some 49, _, _, _, _, _⟩) (v := ?_) rfl (by kernel_rfl) (by kernel_rfl) (by kernel_rfl) (fun _ _ _ h => h) (Or.inl ⟨by kernel_rfl, ?_⟩) (by assumption) ?_; rotate_left; (intro VV hSw; (try dsimp only at hSw); go_simp; first | done | with_reducible rfl); (try simp only [Act.put, sI, sZ, sS])
          refine wpAnyH_take (i := 10) (oi := ⟨some 50, _, _, _, _, _⟩) (v := ?_) rfl (by kernel_rfl) (by kernel_rfl) (by kernel_rfl) (fun _ _ _ h => h) (Or.inl ⟨by kernel_rfl, ?_⟩) (by assumption) ?_; rotate_left; (intro VV hSw; (try dsimp only at hSw); go_simp; first | done | with_reducible rfl); (try simp only [Act.put, sI, sZ, sS])
          refine wpAnyH_ready (rs := [11]) (by kernel_rfl) (by simp) ?_
          refine AllReadyH.cons (o := ⟨some 8, _, _, _, _, _⟩) rfl (fun K hK => ?_) AllReadyH.nil
          · rw [if_pos (by rfl)]
            go_simp
            have h1 := h.alloc HP.out (.cells #[.int .i8 0, .int .i64 0, .string ⟨#[]⟩, .string ⟨#[]⟩, .slice none 0 0] 48)
            have hS1 := hS.alloc hS.size (.cells #[.int .i8 0, .int .i64 0, .string ⟨#[]⟩, .string ⟨#[]⟩, .slice none 0 0] 48)
            have ba := Below.heap_alloc X3 (.cells #[.int .i8 0, .int .i64 0, .string ⟨#[]⟩, .string ⟨#[]⟩, .slice none 0 0] 48)
            have hv1 := hvt.keep (Q := fun b => b < (X3.alloc (.cells #[.int .i8 0, .int .i64 0, .string ⟨#[]⟩, .string ⟨#[]⟩, .slice none 0 0] 48)).heap.size ∧ b ≠ X3.heap.size) (fun b hb => ba b hb) (fun b (hb : b < _) => ⟨by rw [World.size_alloc]; omega, by omega⟩)
            clear hvt ba
            obtain ⟨g9, hg⟩ : ∃ g, g = X3.heap.size := ⟨_, rfl⟩
            rw [← hg] at h1 hv1
            refine hK.out _ _ hS1 (fun hSn => ?_)
            clear hK K hSn; (try simp only [Act.put, sI, sZ, sS])
            rw [← hg]
            clear hg
            generalize X3.alloc (.cells #[.int .i8 0, .int .i64 0, .string ⟨#[]⟩, .string ⟨#[]⟩, .slice none 0 0] 48) = X4 at h1 hS1 hv1 ⊢
            clear h hS
            have h := h1
            have hS := hS1
            clear h1 hS1
            have hvt := hv1
            clear hv1
            obtain ⟨gge, gz, gne⟩ := h.kept (g9, .cells #[.int .i8 0, .int .i64 0, .string ⟨#[]⟩, .string ⟨#[]⟩, .slice none 0 0] 48 (0, 0)) (by simp)
            have gg2 : w6.heap.size ≤ g9 := by have := HDZ.out; have g3 : D.heap.size ≤ g9 := gge; omega
            obtain ⟨⟨z0, z1, z2, z3, z4⟩, zf0, zf1, zf2, zf3, zf4⟩ := five_fr gz
            obtain ⟨s5, m5⟩ := set_five (.int .i8 k9) (.int .i64 n9) (.string s9) (.string t9) (.slice A9 m9 c9) gz
            have hVB := vbx_of hS gg2 hvt s5 m5
            have HVB := Lib.hid hVB
            have hS9 := hVB.1
            clear s5 m5 hVB
            refine wpAnyH_ready (rs := [12]) (by kernel_rfl) (by simp) ?_
            refine AllReadyH.cons (o := ⟨none, _, _, _, _, _⟩) rfl (fun K hK => ?_) AllReadyH.nil
            · rw [if_pos (by rfl)]
              go_simp
              refine hK.out _ _ hS9 (fun hSn => ?_)
              clear hK K hSn; (try simp only [Act.put, sI, sZ, sS])
              refine wpAnyH_take (i := 13) (oi := ⟨some 9, _, _, _, _, _⟩) (v := ?_) rfl (by kernel_rfl) (by kernel_rfl) (by kernel_rfl) (fun _ _ _ h => h) (Or.inl ⟨by kernel_rfl, ?_⟩) (by assumption) ?_; rotate_left; (intro VV hSw; (try dsimp only at hSw); go_simp; first | done | with_reducible rfl); (try simp only [Act.put, sI, sZ, sS])
              refine wpAnyH_done (by kernel_rfl) ?_ _
              clear z0 zf0 z1 zf1 z2 zf2 z3 zf3 z4 zf4 gz gge gg2 gne
              go_wp2_with fail
              go_meet
              exact ⟨g9, rfl, rfl, HVB⟩
        · rw [if_pos (by rfl)]
          go_simp
          have h1 := h.alloc HP.out (.cells #[.int .i8 0, .int .i64 0, .string ⟨#[]⟩, .string ⟨#[]⟩, .slice none 0 0] 48)
          have hS1 := hS.alloc hS.size (.cells #[.int .i8 0, .int .i64 0, .string ⟨#[]⟩, .string ⟨#[]⟩, .slice none 0 0] 48)
          obtain ⟨g9, hg⟩ : ∃ g, g = X2.heap.size := ⟨_, rfl⟩
          rw [← hg] at h1
          refine hK.out _ _ hS1 (fun hSn => ?_)
          clear hK K hSn; (try simp only [Act.put, sI, sZ, sS])
          rw [← hg]
          clear hg
          generalize X2.alloc (.cells #[.int .i8 0, .int .i64 0, .string ⟨#[]⟩, .string ⟨#[]⟩, .slice none 0 0] 48) = X5 at h1 hS1 ⊢
          clear h hS
          have h := h1
          have hS := hS1
          clear h1 hS1
          refine wpAnyH_ready (rs := [7]) (by kernel_rfl) (by simp) ?_
          refine AllReadyH.cons (o := ⟨some 48, _, _, _, _, _⟩) rfl (fun K hK => ?_) AllReadyH.nil
          · rw [if_pos (by rfl)]
            go_simp
            refine (Value_in D.heap.size X5.heap.size L5 (vaN nm) _ A5 L5.length cap5 X5 (.leaf _ _ 5 0 nm (by decide) (by decide) HNM.out) (h.own.brt HP.out h.below.size) (Nat.le_refl _) (va_nodes nm) (HED.out.under h.below).env).mono ?_
            rintro e X6 ⟨k9, n9, s9, t9, A9, m9, c9, rfl, hv, b5⟩
            have h1 := h.under HP.out b5
            have hS1 := hS.trans (b5.mono hS.size)
            rw [HEV5.out.1]
            rw [HEV5.out.2] at hv
            have z1 := h.below.size
            have z2 := b5.size
            have q1 : D.heap.size ≤ g9 := (h.kept (g9, .cells #[.int .i8 0, .int .i64 0, .string ⟨#[]⟩, .string ⟨#[]⟩, .slice none 0 0] 48 (0, 0)) (by simp)).1
            have q2 : g9 < X5.heap.size := heap_lt (h.kept (g9, .cells #[.int .i8 0, .int .i64 0, .string ⟨#[]⟩, .string ⟨#[]⟩, .slice none 0 0] 48 (0, 0)) (by simp)).2.1
            have hvt : TmAt (fun b => b < X6.heap.size ∧ b ≠ g9) X6 (t) (.agg #[.int .i8 k9, .int .i64 n9, .string s9, .string t9, .slice A9 m9 c9]) := hv.mono (fun b hb => by rcases hb with hb | hb <;> exact ⟨by omega, by omega⟩)
            clear q1 q2
            clear hv b5 z1 z2
            refine hK.out _ _ hS1 (fun hSn => ?_)
            clear hK K hSn; (try simp only [Act.put, sI, sZ, sS])
            clear h hS
            have h := h1
            have hS := hS1
            clear h1 hS1
            refine wpAnyH_take (i := 8) (oi := ⟨some 40, _, _, _, _, _⟩) (v := ?_) rfl (by kernel_rfl) (by kernel_rfl) (by kernel_rfl) (fun _ _ _ h => h) (Or.inl ⟨by kernel_rfl, ?_⟩) (by assumption) ?_; rotate_left; (intro VV hSw; (try dsimp only at hSw); go_simp; first | done | with_reducible rfl); (try simp only [Act.put, sI, sZ, sS])
            refine wpAnyH_take (i := 9) (oi := ⟨some 49, _, _, _, _, _⟩) (v := ?_) rfl (by kernel_rfl) (by kernel_rfl) (by kernel_rfl) (fun _ _ _ h => h) (Or.inl ⟨by kernel_rfl, ?_⟩) (by assumption) ?_; rotate_left; (intro VV hSw; (try dsimp only at hSw); go_simp; first | done | with_reducible rfl); (try simp only [Act.put, sI, sZ, sS])
            refine wpAnyH_take (i := 10) (oi := ⟨some 50, _, _, _, _, _⟩) (v := ?_) rfl (by kernel_rfl) (by kernel_rfl) (by kernel_rfl) (fun _ _ _ h => h) (Or.inl ⟨by kernel_rfl, ?_⟩) (by assumption) ?_; rotate_left; (intro VV hSw; (try dsimp only at hSw); go_simp; first | done | with_reducible rfl); (try simp only [Act.put, sI, sZ, sS])
            obtain ⟨gge, gz, gne⟩ := h.kept (g9, .cells #[.int .i8 0, .int .i64 0, .string ⟨#[]⟩, .string ⟨#[]⟩, .slice none 0 0] 48 (0, 0)) (by simp)
            have gg2 : w6.heap.size ≤ g9 := by have := HDZ.out; have g3 : D.heap.size ≤ g9 := gge; omega
            obtain ⟨⟨z0, z1, z2, z3, z4⟩, zf0, zf1, zf2, zf3, zf4⟩ := five_fr gz
            obtain ⟨s5, m5⟩ := set_five (.int .i8 k9) (.int .i64 n9) (.string s9) (.string t9) (.slice A9 m9 c9) gz
            have hVB := vbx_of hS gg2 hvt s5 m5
            have HVB := Lib.hid hVB
            have hS9 := hVB.1
            clear s5 m5 hVB
            refine wpAnyH_ready (rs := [12]) (by kernel_rfl) (by simp) ?_
            refine AllReadyH.cons (o := ⟨none, _, _, _, _, _⟩) rfl (fun K hK => ?_) AllReadyH.nil
            · rw [if_pos (by rfl)]
              go_simp
              refine hK.out _ _ hS9 (fun hSn => ?_)
              clear hK K hSn; (try simp only [Act.put, sI, sZ, sS])
              refine wpAnyH_take (i := 13) (oi := ⟨some 9, _, _, _, _, _⟩) (v := ?_) rfl (by kernel_rfl) (by kernel_rfl) (by kernel_rfl) (fun _ _ _ h => h) (Or.inl ⟨by kernel_rfl, ?_⟩) (by assumption) ?_; rotate_left; (intro VV hSw; (try dsimp only at hSw); go_simp; first | done | with_reducible rfl); (try simp only [Act.put, sI, sZ, sS])
              refine wpAnyH_done (by kernel_rfl) ?_ _
              clear z0 zf0 z1 zf1 z2 zf2 z3 zf3 z4 zf4 gz gge gg2 gne
              go_wp2_with fail
              go_meet
              exact ⟨g9, rfl, rfl, HVB⟩
      · rw [if_pos (by rfl)]
        go_simp
        have h1 := h.alloc HP.out (.cells #[.int .i8 0, .int .i64 0, .string ⟨#[]⟩, .string ⟨#[]⟩, .slice none 0 0] 48)
        have hS1 := hS.alloc hS.size (.cells #[.int .i8 0, .int .i64 0, .string ⟨#[]⟩, .string ⟨#[]⟩, .slice none 0 0] 48)
        obtain ⟨g9, hg⟩ : ∃ g, g = X1.heap.size := ⟨_, rfl⟩
        rw [← hg] at h1
        refine hK.out _ _ hS1 (fun hSn => ?_)
        clear hK K hSn; (try simp only [Act.put, sI, sZ, sS])
        rw [← hg]
        clear hg
        generalize X1.alloc (.cells #[.int .i8 0, .int .i64 0, .string ⟨#[]⟩, .string ⟨#[]⟩, .slice none 0 0] 48) = X7 at h1 hS1 ⊢
        clear h hS
        have h := h1
        have hS := hS1
        clear h1 hS1
        refine wpAnyH_ready (rs := [6]) (by kernel_rfl) (by simp) ?_
        refine AllReadyH.cons (o := ⟨some 47, _, _, _, _, _⟩) rfl (fun K hK => ?_) AllReadyH.nil
        · rw [if_pos (by rfl)]
          have hb0 := h.below
          refine wp_own_binds (ys := l) (.tmp 45) (.tmp 46) rfl h.own hb0.size (h.apart HP.out) rfl rfl (((HLB.out.keep (Q := P) (fun b hb => hb0.block b (HP.out b hb)) (fun _ h => h)).rowB)) (by have := HL.out; show 1 + _ ≤ _; omega) ?_
          intro v1 X8 O hg hb
          rw [← HL5.out] at O
          have h1 := h.app O hg hb
          obtain ⟨A5, cap5, rfl⟩ := O.shape
          have hS1 : Below w6.heap.size w6 X8 := HDW.out.trans (h1.below.mono (by rw [HDZ.out]; exact Nat.le_refl _))
          refine hK.out _ _ hS1 (fun hSn => ?_)
          clear hK K hSn; (try simp only [Act.put, sI, sZ, sS])
          clear O hg hb hb0
          clear h hS
          have h := h1
          have hS := hS1
          clear h1 hS1
          refine wpAnyH_ready (rs := [7]) (by kernel_rfl) (by simp) ?_
          refine AllReadyH.cons (o := ⟨some 48, _, _, _, _, _⟩) rfl (fun K hK => ?_) AllReadyH.nil
          · rw [if_pos (by rfl)]
            go_simp
            refine (Value_in D.heap.size X8.heap.size L5 (vaN nm) _ A5 L5.length cap5 X8 (.leaf _ _ 5 0 nm (by decide) (by decide) HNM.out) (h.own.brt HP.out h.below.size) (Nat.le_refl _) (va_nodes nm) (HED.out.under h.below).env).mono ?_
            rintro e X9 ⟨k9, n9, s9, t9, A9, m9, c9, rfl, hv, b5⟩
            have h1 := h.under HP.out b5
            have hS1 := hS.trans (b5.mono hS.size)
            rw [HEV5.out.1]
            rw [HEV5.out.2] at hv
            have z1 := h.below.size
            have z2 := b5.size
            have q1 : D.heap.size ≤ g9 := (h.kept (g9, .cells #[.int .i8 0, .int .i64 0, .string ⟨#[]⟩, .string ⟨#[]⟩, .slice none 0 0] 48 (0, 0)) (by simp)).1
            have q2 : g9 < X8.heap.size := heap_lt (h.kept (g9, .cells #[.int .i8 0, .int .i64 0, .string ⟨#[]⟩, .string ⟨#[]⟩, .slice none 0 0] 48 (0, 0)) (by simp)).2.1
            have hvt : TmAt (fun b => b < X9.heap.size ∧ b ≠ g9) X9 (t) (.agg #[.int .i8 k9, .int .i64 n9, .string s9, .string t9, .slice A9 m9 c9]) := hv.mono (fun b hb => by rcases hb with hb | hb <;> exact ⟨by omega, by omega⟩)
            clear q1 q2
            clear hv b5 z1 z2
            refine hK.out _ _ hS1 (fun hSn => ?_)
            clear hK K hSn; (try simp only [Act.put, sI, sZ, sS])
            clear h hS
            have h := h1
            have hS := hS1
            clear h1 hS1
            refine wpAnyH_take (i := 8) (oi := ⟨some 40, _, _, _, _, _⟩) (v := ?_) rfl (by kernel_rfl) (by kernel_rfl) (by kernel_rfl) (fun _ _ _ h => h) (Or.inl ⟨by kernel_rfl, ?_⟩) (by assumption) ?_; rotate_left; (intro VV hSw; (try dsimp only at hSw); go_simp; first | done | with_reducible rfl); (try simp only [Act.put, sI, sZ, sS])
            refine wpAnyH_take (i := 9) (oi := ⟨some 49, _, _, _, _, _⟩) (v := ?_) rfl (by kernel_rfl) (by kernel_rfl) (by kernel_rfl) (fun _ _ _ h => h) (Or.inl ⟨by kernel_rfl, ?_⟩) (by assumption) ?_; rotate_left; (intro VV hSw; (try dsimp only at hSw); go_simp; first | done | with_reducible rfl); (try simp only [Act.put, sI, sZ, sS])
            refine wpAnyH_take (i := 10) (oi := ⟨some 50, _, _, _, _, _⟩) (v := ?_) rfl (by kernel_rfl) (by kernel_rfl) (by kernel_rfl) (fun _ _ _ h => h) (Or.inl ⟨by kernel_rfl, ?_⟩) (by assumption) ?_; rotate_left; (intro VV hSw; (try dsimp only at hSw); go_simp; first | done | with_reducible rfl); (try simp only [Act.put, sI, sZ, sS])
            obtain ⟨gge, gz, gne⟩ := h.kept (g9, .cells #[.int .i8 0, .int .i64 0, .string ⟨#[]⟩, .string ⟨#[]⟩, .slice none 0 0] 48 (0, 0)) (by simp)
            have gg2 : w6.heap.size ≤ g9 := by have := HDZ.out; have g3 : D.heap.size ≤ g9 := gge; omega
            obtain ⟨⟨z0, z1, z2, z3, z4⟩, zf0, zf1, zf2, zf3, zf4⟩ := five_fr gz
            obtain ⟨s5, m5⟩ := set_five (.int .i8 k9) (.int .i64 n9) (.string s9) (.string t9) (.slice A9 m9 c9) gz
            have hVB := vbx_of hS gg2 hvt s5 m5
            have HVB := Lib.hid hVB
            have hS9 := hVB.1
            clear s5 m5 hVB
            refine wpAnyH_ready (rs := [12]) (by kernel_rfl) (by simp) ?_
            refine AllReadyH.cons (o := ⟨none, _, _, _, _, _⟩) rfl (fun K hK => ?_) AllReadyH.nil
            · rw [if_pos (by rfl)]
              go_simp
              refine hK.out _ _ hS9 (fun hSn => ?_)
              clear hK K hSn; (try simp only [Act.put, sI, sZ, sS])
              refine wpAnyH_take (i := 13) (oi := ⟨some 9, _, _, _, _, _⟩) (v := ?_) rfl (by kernel_rfl) (by kernel_rfl) (by kernel_rfl) (fun _ _ _ h => h) (Or.inl ⟨by kernel_rfl, ?_⟩) (by assumption) ?_; rotate_left; (intro VV hSw; (try dsimp only at hSw); go_simp; first | done | with_reducible rfl); (try simp only [Act.put, sI, sZ, sS])
              refine wpAnyH_done (by kernel_rfl) ?_ _
              clear z0 zf0 z1 zf1 z2 zf2 z3 zf3 z4 zf4 gz gge gg2 gne
              go_wp2_with fail
              go_meet
              exact ⟨g9, rfl, rfl, HVB⟩
    · rw [if_pos (by rfl)]
      go_simp
      have h1 := h.alloc HP.out (.cells #[.int .i8 0, .int .i64 0, .string ⟨#[]⟩, .string ⟨#[]⟩, .slice none 0 0] 48)
      have hS1 := hS.alloc hS.size (.cells #[.int .i8 0, .int .i64 0, .string ⟨#[]⟩, .string ⟨#[]⟩, .slice none 0 0] 48)
      obtain ⟨g9, hg⟩ : ∃ g, g = D.heap.size := ⟨_, rfl⟩
      rw [← hg] at h1
      refine hK.out _ _ hS1 (fun hSn => ?_)
      clear hK K hSn; (try simp only [Act.put, sI, sZ, sS])
      rw [← hg]
      clear hg
      generalize D.alloc (.cells #[.int .i8 0, .int .i64 0, .string ⟨#[]⟩, .string ⟨#[]⟩, .slice none 0 0] 48) = X10 at h1 hS1 ⊢
      clear h hS
      have h := h1
      have hS := hS1
      clear h1 hS1
      refine wpAnyH_ready (rs := [4]) (by kernel_rfl) (by simp) ?_
      refine AllReadyH.cons (o := ⟨some 45, _, _, _, _, _⟩) rfl (fun K hK => ?_) AllReadyH.nil
      · rw [if_pos (by rfl)]
        go_simp
        have h1 := h.fresh1 HP.out HNM.out HTF.out
        have hS1 := hS.alloc hS.size (.cells #[.string nm, .int .i8 tk, .int .i64 tn, .string ts_, .string tt_, .slice tA tm tc] 65)
        obtain ⟨gb, hg⟩ : ∃ g, g = X10.heap.size := ⟨_, rfl⟩
        rw [← hg] at h1
        refine hK.out _ _ hS1 (fun hSn => ?_)
        clear hK K hSn; (try simp only [Act.put, sI, sZ, sS])
        rw [← hg]
        clear hg
        generalize X10.alloc (.cells #[.string nm, .int .i8 tk, .int .i64 tn, .string ts_, .string tt_, .slice tA tm tc] 65) = X11 at h1 hS1 ⊢
        clear h hS
        have h := h1
        have hS := hS1
        clear h1 hS1
        refine wpAnyH_ready (rs := [6]) (by kernel_rfl) (by simp) ?_
        refine AllReadyH.cons (o := ⟨some 47, _, _, _, _, _⟩) rfl (fun K hK => ?_) AllReadyH.nil
        · rw [if_pos (by rfl)]
          have hb0 := h.below
          refine wp_own_binds (ys := l) (.tmp 45) (.tmp 46) rfl h.own hb0.size (h.apart HP.out) rfl rfl (((HLB.out.keep (Q := P) (fun b hb => hb0.block b (HP.out b hb)) (fun _ h => h)).rowB)) (by have := HL.out; show 1 + _ ≤ _; omega) ?_
          intro v1 X12 O hg hb
          rw [← HL5.out] at O
          have h1 := h.app O hg hb
          obtain ⟨A5, cap5, rfl⟩ := O.shape
          have hS1 : Below w6.heap.size w6 X12 := HDW.out.trans (h1.below.mono (by rw [HDZ.out]; exact Nat.le_refl _))
          refine hK.out _ _ hS1 (fun hSn => ?_)
          clear hK K hSn; (try simp only [Act.put, sI, sZ, sS])
          clear O hg hb hb0
          clear h hS
          have h := h1
          have hS := hS1
          clear h1 hS1
          refine wpAnyH_ready (rs := [7]) (by kernel_rfl) (by simp) ?_
          refine AllReadyH.cons (o := ⟨some 48, _, _, _, _, _⟩) rfl (fun K hK => ?_) AllReadyH.nil
          · rw [if_pos (by rfl)]
            go_simp
            refine (Value_in D.heap.size X12.heap.size L5 (vaN nm) _ A5 L5.length cap5 X12 (.leaf _ _ 5 0 nm (by decide) (by decide) HNM.out) (h.own.brt HP.out h.below.size) (Nat.le_refl _) (va_nodes nm) (HED.out.under h.below).env).mono ?_
            rintro e X13 ⟨k9, n9, s9, t9, A9, m9, c9, rfl, hv, b5⟩
            have h1 := h.under HP.out b5
            have hS1 := hS.trans (b5.mono hS.size)
            rw [HEV5.out.1]
            rw [HEV5.out.2] at hv
            have z1 := h.below.size
            have z2 := b5.size
            have q1 : D.heap.size ≤ g9 := (h.kept (g9, .cells #[.int .i8 0, .int .i64 0, .string ⟨#[]⟩, .string ⟨#[]⟩, .slice none 0 0] 48 (0, 0)) (by simp)).1
            have q2 : g9 < X12.heap.size := heap_lt (h.kept (g9, .cells #[.int .i8 0, .int .i64 0, .string ⟨#[]⟩, .string ⟨#[]⟩, .slice none 0 0] 48 (0, 0)) (by simp)).2.1
            have hvt : TmAt (fun b => b < X13.heap.size ∧ b ≠ g9) X13 (t) (.agg #[.int .i8 k9, .int .i64 n9, .string s9, .string t9, .slice A9 m9 c9]) := hv.mono (fun b hb => by rcases hb with hb | hb <;> exact ⟨by omega, by omega⟩)
            clear q1 q2
            clear hv b5 z1 z2
            refine hK.out _ _ hS1 (fun hSn => ?_)
            clear hK K hSn; (try simp only [Act.put, sI, sZ, sS])
            clear h hS
            have h := h1
            have hS := hS1
            clear h1 hS1
            refine wpAnyH_take (i := 8) (oi := ⟨some 40, _, _, _, _, _⟩) (v := ?_) rfl (by kernel_rfl) (by kernel_rfl) (by kernel_rfl) (fun _ _ _ h => h) (Or.inl ⟨by kernel_rfl, ?_⟩) (by assumption) ?_; rotate_left; (intro VV hSw; (try dsimp only at hSw); go_simp; first | done | with_reducible rfl); (try simp only [Act.put, sI, sZ, sS])
            refine wpAnyH_take (i := 9) (oi := ⟨some 49, _, _, _, _, _⟩) (v := ?_) rfl (by kernel_rfl) (by kernel_rfl) (by kernel_rfl) (fun _ _ _ h => h) (Or.inl ⟨by kernel_rfl, ?_⟩) (by assumption) ?_; rotate_left; (intro VV hSw; (try dsimp only at hSw); go_simp; first | done | with_reducible rfl); (try simp only [Act.put, sI, sZ, sS])
            refine wpAnyH_take (i := 10) (oi := ⟨some 50, _, _, _, _, _⟩) (v := ?_) rfl (by kernel_rfl) (by kernel_rfl) (by kernel_rfl) (fun _ _ _ h => h) (Or.inl ⟨by kernel_rfl, ?_⟩) (by assumption) ?_; rotate_left; (intro VV hSw; (try dsimp only at hSw); go_simp; first | done | with_reducible rfl); (try simp only [Act.put, sI, sZ, sS])
            obtain ⟨gge, gz, gne⟩ := h.kept (g9, .cells #[.int .i8 0, .int .i64 0, .string ⟨#[]⟩, .string ⟨#[]⟩, .slice none 0 0] 48 (0, 0)) (by simp)
            have gg2 : w6.heap.size ≤ g9 := by have := HDZ.out; have g3 : D.heap.size ≤ g9 := gge; omega
            obtain ⟨⟨z0, z1, z2, z3, z4⟩, zf0, zf1, zf2, zf3, zf4⟩ := five_fr gz
            obtain ⟨s5, m5⟩ := set_five (.int .i8 k9) (.int .i64 n9) (.string s9) (.string t9) (.slice A9 m9 c9) gz
            have hVB := vbx_of hS gg2 hvt s5 m5
            have HVB := Lib.hid hVB
            have hS9 := hVB.1
            clear s5 m5 hVB
            refine wpAnyH_ready (rs := [12]) (by kernel_rfl) (by simp) ?_
            refine AllReadyH.cons (o := ⟨none, _, _, _, _, _⟩) rfl (fun K hK => ?_) AllReadyH.nil
            · rw [if_pos (by rfl)]
              go_simp
              refine hK.out _ _ hS9 (fun hSn => ?_)
              clear hK K hSn; (try simp only [Act.put, sI, sZ, sS])
              refine wpAnyH_take (i := 13) (oi := ⟨some 9, _, _, _, _, _⟩) (v := ?_) rfl (by kernel_rfl) (by kernel_rfl) (by kernel_rfl) (fun _ _ _ h => h) (Or.inl ⟨by kernel_rfl, ?_⟩) (by assumption) ?_; rotate_left; (intro VV hSw; (try dsimp only at hSw); go_simp; first | done | with_reducible rfl); (try simp only [Act.put, sI, sZ, sS])
              refine wpAnyH_done (by kernel_rfl) ?_ _
              clear z0 zf0 z1 zf1 z2 zf2 z3 zf3 z4 zf4 gz gge gg2 gne
              go_wp2_with fail
              go_meet
              exact ⟨g9, rfl, rfl, HVB⟩
  case rest =>
  obtain ⟨g8, rfl, rfl, hcut⟩ := hcut
  obtain ⟨w8, hw⟩ : ∃ w, w = wc := ⟨_, rfl⟩
  subst hw
  obtain ⟨b8, k8, n8, s8, t8, A8, m8, c8, r8, hv8⟩ := hcut.out
  have HBn := Lib.hid (HB.out.trans (b8.mono HB.out.size))
  have HBVn := Lib.hid (HBV.out.trans (b8.mono HBV.out.size))
  clear HBV
  have HBV := HBVn
  clear HBVn
  clear HB x0 x1 x2 x3 x4 y0 y1 y2 y3 y4 hcut HX5 HY5
  have HB := HBn
  clear HBn
  have HG8 := Lib.hid r8
  have HV8 := Lib.hid hv8
  have HB8 := Lib.hid (Below.refl w8.heap.size w8)
  clear b8 r8 hv8
  have gx := (HB.out.block _ (heap_lt HG0.out)).trans HG0.out
  obtain ⟨x0, x1, x2, x3, x4⟩ := five_of gx
  clear gx
  have gx := (HBV.out.block _ (heap_lt HGV.out)).trans HGV.out
  obtain ⟨y0, y1, y2, y3, y4⟩ := five_of gx
  clear gx
  have gx := (HB8.out.block _ (heap_lt HG8.out)).trans HG8.out
  obtain ⟨z0, z1, z2, z3, z4⟩ := five_of gx
  clear gx
  go_wp2_with fail
  refine (Same_yes11 t _ _ w8 HV8.out (HT.out.laterN HB.out)).mono ?_
  rintro e w10 ⟨rfl, b10⟩
  have HBn := Lib.hid (HB.out.trans (b10.mono HB.out.size))
  have HBVn := Lib.hid (HBV.out.trans (b10.mono HBV.out.size))
  clear HBV
  have HBV := HBVn
  clear HBVn
  have HB8n := Lib.hid (HB8.out.trans (b10.mono HB8.out.size))
  clear HB8
  have HB8 := HB8n
  clear HB8n
  clear HB x0 x1 x2 x3 x4 y0 y1 y2 y3 y4 z0 z1 z2 z3 z4
  have HB := HBn
  clear HBn
  have gx := (HB.out.block _ (heap_lt HG0.out)).trans HG0.out
  obtain ⟨x0, x1, x2, x3, x4⟩ := five_of gx
  clear gx
  have gx := (HBV.out.block _ (heap_lt HGV.out)).trans HGV.out
  obtain ⟨y0, y1, y2, y3, y4⟩ := five_of gx
  clear gx
  have gx := (HB8.out.block _ (heap_lt HG8.out)).trans HG8.out
  obtain ⟨z0, z1, z2, z3, z4⟩ := five_of gx
  clear gx
  clear b10
  go_wp2_with fail
  refine (Find_any l nm A m cap w10 (HR.out.later HB.out)).mono ?_
  rintro e w11 ⟨k11, n11, s11, t11, A11, m11, c11, rfl, hv11, b11⟩
  have HBn := Lib.hid (HB.out.trans (b11.mono HB.out.size))
  have HBVn := Lib.hid (HBV.out.trans (b11.mono HBV.out.size))
  clear HBV
  have HBV := HBVn
  clear HBVn
  have HB8n := Lib.hid (HB8.out.trans (b11.mono HB8.out.size))
  clear HB8
  have HB8 := HB8n
  clear HB8n
  clear HB x0 x1 x2 x3 x4 y0 y1 y2 y3 y4 z0 z1 z2 z3 z4
  have HB := HBn
  clear HBn
  have gx := (HB.out.block _ (heap_lt HG0.out)).trans HG0.out
  obtain ⟨x0, x1, x2, x3, x4⟩ := five_of gx
  clear gx
  have gx := (HBV.out.block _ (heap_lt HGV.out)).trans HGV.out
  obtain ⟨y0, y1, y2, y3, y4⟩ := five_of gx
  clear gx
  have gx := (HB8.out.block _ (heap_lt HG8.out)).trans HG8.out
  obtain ⟨z0, z1, z2, z3, z4⟩ := five_of gx
  clear gx
  clear b11
  obtain ⟨fo, hfo⟩ : ∃ fo, fo = findB l nm := ⟨_, rfl⟩
  rw [← hfo] at hv11
  rw [← hfo]
  have HFO := Lib.hid hfo
  clear hfo
  obtain ⟨w12, hw⟩ : ∃ W, W = w11.alloc (.cells #[.int .i8 k11, .int .i64 n11, .string s11, .string t11, .slice A11 m11 c11] 48) := ⟨_, rfl⟩
  obtain ⟨g11, hg11⟩ : ∃ g, g = w11.heap.size := ⟨_, rfl⟩
  have HG11 : Hid (w12.heap[g11]? = some (.cells #[.int .i8 k11, .int .i64 n11, .string s11, .string t11, .slice A11 m11 c11] 48 (0, 0))) := Lib.hid (by rw [hw, hg11]; exact block_alloc _ _)
  have bw : Below w11.heap.size w11 w12 := by rw [hw]; exact (Below.refl _ _).alloc (Nat.le_refl _) _
  have HV11 := Lib.hid (hv11.laterN bw)
  have HBn := Lib.hid (HB.out.trans (bw.mono HB.out.size))
  have HBVn := Lib.hid (HBV.out.trans (bw.mono HBV.out.size))
  clear HBV
  have HBV := HBVn
  clear HBVn
  have HB8n := Lib.hid (HB8.out.trans (bw.mono HB8.out.size))
  clear HB8
  have HB8 := HB8n
  clear HB8n
  clear HB x0 x1 x2 x3 x4 y0 y1 y2 y3 y4 z0 z1 z2 z3 z4 hv11 bw
  have HB := HBn
  clear HBn
  have HB11 := Lib.hid (Below.refl w12.heap.size w12)
  go_upto_region 8 with fail
  rw [← hw, ← hg11]
  clear hw hg11
  have gx := (HB.out.block _ (heap_lt HG0.out)).trans HG0.out
  obtain ⟨x0, x1, x2, x3, x4⟩ := five_of gx
  clear gx
  have gx := (HBV.out.block _ (heap_lt HGV.out)).trans HGV.out
  obtain ⟨y0, y1, y2, y3, y4⟩ := five_of gx
  clear gx
  have gx := (HB8.out.block _ (heap_lt HG8.out)).trans HG8.out
  obtain ⟨z0, z1, z2, z3, z4⟩ := five_of gx
  clear gx
  have gx := (HB11.out.block _ (heap_lt HG11.out)).trans HG11.out
  obtain ⟨a0, a1, a2, a3, a4⟩ := five_of gx
  clear gx
  obtain ⟨L3, hL3⟩ : ∃ L3, L3 = [] ++ l := ⟨_, rfl⟩
  obtain ⟨L9, hL9⟩ : ∃ L9, L9 = L3 ++ [(nm, t)] := ⟨_, rfl⟩
  have HL3 := Lib.hid hL3
  have HL9 := Lib.hid hL9
  have HEV9 : Hid (valE L9 (vaN nm) = 0 ∧ valV L9 (vaN nm) = fo.getD t) := Lib.hid (by rw [hL9, hL3, HFO.out]; exact last_E l nm t HNB.out HUS.out HML.out HCK.out)
  clear hL3 hL9
  have HX5 := Lib.hid ((HB.out.block _ (heap_lt HG0.out)).trans HG0.out)
  have HY5 := Lib.hid ((HBV.out.block _ (heap_lt HGV.out)).trans HGV.out)
  go_cut [12, 13] (fun p q wx => ∃ g9, p = .pointer (some ⟨g9, 0, none⟩) ∧ q = .int .i64 0 ∧ Hid (VBx w12 (fo.getD t) wx g9))
  case first =>
    refine wp_region_held (S := fun V => Below w12.heap.size w12 V) (by kernel_rfl) ?_
    show wpAnyH _ _ _ _ _ _ _ _ w12.drew
    have hS : Below w12.heap.size w12 w12.drew := ⟨rfl, rfl, rfl, Nat.le_refl _, fun _ _ => rfl⟩
    have hDz : w12.drew.heap.size = w12.heap.size := rfl
    generalize w12.drew = D at hS hDz ⊢
    have HDW := Lib.hid hS
    have HDZ := Lib.hid hDz
    obtain ⟨P, hPd⟩ : ∃ P : Nat → Prop, P = (· < D.heap.size) := ⟨_, rfl⟩
    have HP : Hid (∀ b, P b → b < D.heap.size) := Lib.hid (fun b hb => by rw [hPd] at hb; exact hb)
    have HTF : Hid (TmAt P D t (.agg #[.int .i8 tk, .int .i64 tn, .string ts_, .string tt_, .slice tA tm tc])) := Lib.hid (by rw [hPd]; exact HT.out.laterN (HB.out.trans (hS.mono HB.out.size)))
    have HLB : Hid (BRow P D A m cap l) := Lib.hid (by rw [hPd]; exact HR.out.later (HB.out.trans (hS.mono HB.out.size)))
    have HED : Hid (Env11 D) := Lib.hid (HE.out.under (HB.out.trans (hS.mono HB.out.size)))
    have h : StB D D P [] (.slice none 0 0) [] := StB.start _ _
    clear hDz hPd x0 x1 x2 x3 x4 y0 y1 y2 y3 y4 z0 z1 z2 z3 z4 a0 a1 a2 a3 a4
    refine wpAnyH_take (i := 0) (oi := ⟨some 66, _, _, _, _, _⟩) (v := ?_) rfl (by kernel_rfl) (by kernel_rfl) (by kernel_rfl) (fun _ _ _ h => h) (Or.inl ⟨by kernel_rfl, ?_⟩) (by assumption) ?_; rotate_left; (intro VV hSw; (try dsimp only at hSw); have hr := (hSw.block _ (heap_lt HY5.out)).trans HY5.out; obtain ⟨y0, y1, y2, y3, y4⟩ := five_of hr; go_simp; first | done | with_reducible rfl); (try simp only [Act.put, sI, sZ, sS])
    refine wpAnyH_take (i := 2) (oi := ⟨some 68, _, _, _, _, _⟩) (v := ?_) rfl (by kernel_rfl) (by kernel_rfl) (by kernel_rfl) (fun _ _ _ h => h) (Or.inl ⟨by kernel_rfl, ?_⟩) (by assumption) ?_; rotate_left; (intro VV hSw; (try dsimp only at hSw); go_simp; first | done | with_reducible rfl); (try simp only [Act.put, sI, sZ, sS])
    refine wpAnyH_take (i := 4) (oi := ⟨some 70, _, _, _, _, _⟩) (v := ?_) rfl (by kernel_rfl) (by kernel_rfl) (by kernel_rfl) (fun _ _ _ h => h) (Or.inl ⟨by kernel_rfl, ?_⟩) (by assumption) ?_; rotate_left; (intro VV hSw; (try dsimp only at hSw); go_simp; first | done | with_reducible rfl); (try simp only [Act.put, sI, sZ, sS])
    refine wpAnyH_take (i := 5) (oi := ⟨some 71, _, _, _, _, _⟩) (v := ?_) rfl (by kernel_rfl) (by kernel_rfl) (by kernel_rfl) (fun _ _ _ h => h) (Or.inl ⟨by kernel_rfl, ?_⟩) (by assumption) ?_; rotate_left; (intro VV hSw; (try dsimp only at hSw); have hr := (hSw.block _ (heap_lt HX5.out)).trans HX5.out; obtain ⟨x0, x1, x2, x3, x4⟩ := five_of hr; go_simp; first | done | with_reducible rfl); (try simp only [Act.put, sI, sZ, sS])
    refine wpAnyH_take (i := 6) (oi := ⟨some 72, _, _, _, _, _⟩) (v := ?_) rfl (by kernel_rfl) (by kernel_rfl) (by kernel_rfl) (fun _ _ _ h => h) (Or.inl ⟨by kernel_rfl, ?_⟩) (by assumption) ?_; rotate_left; (intro VV hSw; (try dsimp only at hSw); go_simp; first | done | with_reducible rfl); (try simp only [Act.put, sI, sZ, sS])
    refine wpAnyH_ready (rs := [1, 7, 13]) (by kernel_rfl) (by simp) ?_
    refine AllReadyH.cons (o := ⟨some 67, _, _, _, _, _⟩) rfl (fun K hK => ?_) (AllReadyH.cons (o := ⟨some 73, _, _, _, _, _⟩) rfl (fun K hK => ?_) (AllReadyH.cons (o := ⟨some 12, _, _, _, _, _⟩) rfl (fun K hK => ?_) AllReadyH.nil))
    · rw [if_pos (by rfl)]
      go_simp
      have h1 := h.fresh HP.out
      have hS1 := hS.alloc hS.size (.cells #[] 65)
      obtain ⟨gb, hg⟩ : ∃ g, g = D.heap.size := ⟨_, rfl⟩
      rw [← hg] at h1
      refine hK.out _ _ hS1 (fun hSn => ?_)
      clear hK K hSn; (try simp only [Act.put, sI, sZ, sS])
      rw [← hg]
      clear hg
      generalize D.alloc (.cells #[] 65) = X14 at h1 hS1 ⊢
      clear h hS
      have h := h1
      have hS := hS1
      clear h1 hS1
      refine wpAnyH_ready (rs := [3, 7, 13]) (by kernel_rfl) (by simp) ?_
      refine AllReadyH.cons (o := ⟨some 69, _, _, _, _, _⟩) rfl (fun K hK => ?_) (AllReadyH.cons (o := ⟨some 73, _, _, _, _, _⟩) rfl (fun K hK => ?_) (AllReadyH.cons (o := ⟨some 12, _, _, _, _, _⟩) rfl (fun K hK => ?_) AllReadyH.nil))
      · rw [if_pos (by rfl)]
        have hb0 := h.below
        refine wp_own_binds (ys := l) (.tmp 67) (.tmp 68) rfl h.own hb0.size (h.apart HP.out) rfl rfl (((HLB.out.keep (Q := P) (fun b hb => hb0.block b (HP.out b hb)) (fun _ h => h)).rowB)) (by have := HL.out; show 0 + _ ≤ _; omega) ?_
        intro v1 X15 O hg hb
        rw [← HL3.out] at O
        have h1 := h.app O hg hb
        have hS1 : Below w12.heap.size w12 X15 := HDW.out.trans (h1.below.mono (by rw [HDZ.out]; exact Nat.le_refl _))
        refine hK.out _ _ hS1 (fun hSn => ?_)
        clear hK K hSn; (try simp only [Act.put, sI, sZ, sS])
        clear O hg hb hb0
        clear h hS
        have h := h1
        have hS := hS1
        clear h1 hS1
        refine wpAnyH_ready (rs := [7, 13]) (by kernel_rfl) (by simp) ?_
        refine AllReadyH.cons (o := ⟨some 73, _, _, _, _, _⟩) rfl (fun K hK => ?_) (AllReadyH.cons (o := ⟨some 12, _, _, _, _, _⟩) rfl (fun K hK => ?_) AllReadyH.nil)
        · rw [if_pos (by rfl)]
          go_simp
          have h1 := h.alloc HP.out (.cells #[.string nm, .int .i8 tk, .int .i64 tn, .string ts_, .string tt_, .slice tA tm tc] 65)
          have hS1 := hS.alloc hS.size (.cells #[.string nm, .int .i8 tk, .int .i64 tn, .string ts_, .string tt_, .slice tA tm tc] 65)
          obtain ⟨g7, hg⟩ : ∃ g, g = X15.heap.size := ⟨_, rfl⟩
          rw [← hg] at h1
          refine hK.out _ _ hS1 (fun hSn => ?_)
          clear hK K hSn; (try simp only [Act.put, sI, sZ, sS])
          rw [← hg]
          clear hg
          generalize X15.alloc (.cells #[.string nm, .int .i8 tk, .int .i64 tn, .string ts_, .string tt_, .slice tA tm tc] 65) = X16 at h1 hS1 ⊢
          clear h hS
          have h := h1
          have hS := hS1
          clear h1 hS1
          refine wpAnyH_ready (rs := [8, 13]) (by kernel_rfl) (by simp) ?_
          refine AllReadyH.cons (o := ⟨some 74, _, _, _, _, _⟩) rfl (fun K hK => ?_) (AllReadyH.cons (o := ⟨some 12, _, _, _, _, _⟩) rfl (fun K hK => ?_) AllReadyH.nil)
          · rw [if_pos (by rfl)]
            have hb0 := h.below
            refine wp_own_binds (ys := [(nm, t)]) (.tmp 69) (.tmp 73) rfl h.own hb0.size (h.apart HP.out) rfl rfl (RowB.one (h.kept (g7, .cells #[.string nm, .int .i8 tk, .int .i64 tn, .string ts_, .string tt_, .slice tA tm tc] 65 (0, 0)) (by simp)).2.1 HNM.out (HTF.out.keep (fun b hb => hb0.block b (HP.out b hb)) (fun _ h => h))) (by have := HL.out; rw [HL3.out]; simp; omega) ?_
            intro v1 X17 O hg hb
            rw [← HL9.out] at O
            have h1 := h.app O hg hb
            obtain ⟨A5, cap5, rfl⟩ := O.shape
            have hS1 : Below w12.heap.size w12 X17 := HDW.out.trans (h1.below.mono (by rw [HDZ.out]; exact Nat.le_refl _))
            refine hK.out _ _ hS1 (fun hSn => ?_)
            clear hK K hSn; (try simp only [Act.put, sI, sZ, sS])
            clear O hg hb hb0
            clear h hS
            have h := h1
            have hS := hS1
            clear h1 hS1
            refine wpAnyH_ready (rs := [9, 13]) (by kernel_rfl) (by simp) ?_
            refine AllReadyH.cons (o := ⟨some 75, _, _, _, _, _⟩) rfl (fun K hK => ?_) (AllReadyH.cons (o := ⟨some 12, _, _, _, _, _⟩) rfl (fun K hK => ?_) AllReadyH.nil)
            · rw [if_pos (by rfl)]
              go_simp
              refine (Value_in D.heap.size X17.heap.size L9 (vaN nm) _ A5 L9.length cap5 X17 (.leaf _ _ 5 0 nm (by decide) (by decide) HNM.out) (h.own.brt HP.out h.below.size) (Nat.le_refl _) (va_nodes nm) (HED.out.under h.below).env).mono ?_
              rintro e X18 ⟨k9, n9, s9, t9, A9, m9, c9, rfl, hv, b5⟩
              have h1 := h.under HP.out b5
              have hS1 := hS.trans (b5.mono hS.size)
              rw [HEV9.out.1]
              rw [HEV9.out.2] at hv
              have z1 := h.below.size
              have z2 := b5.size
              have hvt : TmAt (· < X18.heap.size) X18 ((fo.getD t)) (.agg #[.int .i8 k9, .int .i64 n9, .string s9, .string t9, .slice A9 m9 c9]) := hv.mono (fun b hb => by rcases hb with hb | hb <;> omega)
              clear hv b5 z1 z2
              refine hK.out _ _ hS1 (fun hSn => ?_)
              clear hK K hSn; (try simp only [Act.put, sI, sZ, sS])
              clear h hS
              have h := h1
              have hS := hS1
              clear h1 hS1
              refine wpAnyH_take (i := 10) (oi := ⟨some 65, _, _, _, _, _⟩) (v := ?_) rfl (by kernel_rfl) (by kernel_rfl) (by kernel_rfl) (fun _ _ _ h => h) (Or.inl ⟨by kernel_rfl, ?_⟩) (by assumption) ?_; rotate_left; (intro VV hSw; (try dsimp only at hSw); go_simp; first | done | with_reducible rfl); (try simp only [Act.put, sI, sZ, sS])
              refine wpAnyH_take (i := 11) (oi := ⟨some 76, _, _, _, _, _⟩) (v := ?_) rfl (by kernel_rfl) (by kernel_rfl) (by kernel_rfl) (fun _ _ _ h => h) (Or.inl ⟨by kernel_rfl, ?_⟩) (by assumption) ?_; rotate_left; (intro VV hSw; (try dsimp only at hSw); go_simp; first | done | with_reducible rfl); (try simp only [Act.put, sI, sZ, sS])
              refine wpAnyH_take (i := 12) (oi := ⟨some 77, _, _, _, _, _⟩) (v := ?_) rfl (by kernel_rfl) (by kernel_rfl) (by kernel_rfl) (fun _ _ _ h => h) (Or.inl ⟨by kernel_rfl, ?_⟩) (by assumption) ?_; rotate_left; (intro VV hSw; (try dsimp only at hSw); go_simp; first | done | with_reducible rfl); (try simp only [Act.put, sI, sZ, sS])
              refine wpAnyH_ready (rs := [13]) (by kernel_rfl) (by simp) ?_
              refine AllReadyH.cons (o := ⟨some 12, _, _, _, _, _⟩) rfl (fun K hK => ?_) AllReadyH.nil
              · rw [if_pos (by rfl)]
                go_simp
                have h1 := h.alloc HP.out (.cells #[.int .i8 0, .int .i64 0, .string ⟨#[]⟩, .string ⟨#[]⟩, .slice none 0 0] 48)
                have hS1 := hS.alloc hS.size (.cells #[.int .i8 0, .int .i64 0, .string ⟨#[]⟩, .string ⟨#[]⟩, .slice none 0 0] 48)
                have ba := Below.heap_alloc X18 (.cells #[.int .i8 0, .int .i64 0, .string ⟨#[]⟩, .string ⟨#[]⟩, .slice none 0 0] 48)
                have hv1 := hvt.keep (Q := fun b => b < (X18.alloc (.cells #[.int .i8 0, .int .i64 0, .string ⟨#[]⟩, .string ⟨#[]⟩, .slice none 0 0] 48)).heap.size ∧ b ≠ X18.heap.size) (fun b hb => ba b hb) (fun b (hb : b < _) => ⟨by rw [World.size_alloc]; omega, by omega⟩)
                clear hvt ba
                obtain ⟨g9, hg⟩ : ∃ g, g = X18.heap.size := ⟨_, rfl⟩
                rw [← hg] at h1 hv1
                refine hK.out _ _ hS1 (fun hSn => ?_)
                clear hK K hSn; (try simp only [Act.put, sI, sZ, sS])
                rw [← hg]
                clear hg
                generalize X18.alloc (.cells #[.int .i8 0, .int .i64 0, .string ⟨#[]⟩, .string ⟨#[]⟩, .slice none 0 0] 48) = X19 at h1 hS1 hv1 ⊢
                clear h hS
                have h := h1
                have hS := hS1
                clear h1 hS1
                have hvt := hv1
                clear hv1
                obtain ⟨gge, gz, gne⟩ := h.kept (g9, .cells #[.int .i8 0, .int .i64 0, .string ⟨#[]⟩, .string ⟨#[]⟩, .slice none 0 0] 48 (0, 0)) (by simp)
                have gg2 : w12.heap.size ≤ g9 := by have := HDZ.out; have g3 : D.heap.size ≤ g9 := gge; omega
                obtain ⟨⟨z0, z1, z2, z3, z4⟩, zf0, zf1, zf2, zf3, zf4⟩ := five_fr gz
                obtain ⟨s5, m5⟩ := set_five (.int .i8 k9) (.int .i64 n9) (.string s9) (.string t9) (.slice A9 m9 c9) gz
                have hVB := vbx_of hS gg2 hvt s5 m5
                have HVB := Lib.hid hVB
                have hS9 := hVB.1
                clear s5 m5 hVB
                refine wpAnyH_ready (rs := [14]) (by kernel_rfl) (by simp) ?_
                refine AllReadyH.cons (o := ⟨none, _, _, _, _, _⟩) rfl (fun K hK => ?_) AllReadyH.nil
                · rw [if_pos (by rfl)]
                  go_simp
                  refine hK.out _ _ hS9 (fun hSn => ?_)
                  clear hK K hSn; (try simp only [Act.put, sI, sZ, sS])
                  refine wpAnyH_take (i := 15) (oi := ⟨some 13, _, _, _, _, _⟩) (v := ?_) rfl (by kernel_rfl) (by kernel_rfl) (by kernel_rfl) (fun _ _ _ h => h) (Or.inl ⟨by kernel_rfl, ?_⟩) (by assumption) ?_; rotate_left; (intro VV hSw; (try dsimp only at hSw); go_simp; first | done | with_reducible rfl); (try simp only [Act.put, sI, sZ, sS])
                  refine wpAnyH_done (by kernel_rfl) ?_ _
                  clear z0 zf0 z1 zf1 z2 zf2 z3 zf3 z4 zf4 gz gge gg2 gne
                  go_wp2_with fail
                  go_meet
                  exact ⟨g9, rfl, rfl, HVB⟩
            · rw [if_pos (by rfl)]
              go_simp
              have h1 := h.alloc HP.out (.cells #[.int .i8 0, .int .i64 0, .string ⟨#[]⟩, .string ⟨#[]⟩, .slice none 0 0] 48)
              have hS1 := hS.alloc hS.size (.cells #[.int .i8 0, .int .i64 0, .string ⟨#[]⟩, .string ⟨#[]⟩, .slice none 0 0] 48)
              obtain ⟨g9, hg⟩ : ∃ g, g = X17.heap.size := ⟨_, rfl⟩
              rw [← hg] at h1
              refine hK.out _ _ hS1 (fun hSn => ?_)
              clear hK K hSn; (try simp only [Act.put, sI, sZ, sS])
              rw [← hg]
              clear hg
              generalize X17.alloc (.cells #[.int .i8 0, .int .i64 0, .string ⟨#[]⟩, .string ⟨#[]⟩, .slice none 0 0] 48) = X20 at h1 hS1 ⊢
              clear h hS
              have h := h1
              have hS := hS1
              clear h1 hS1
              refine wpAnyH_ready (rs := [9]) (by kernel_rfl) (by simp) ?_
              refine AllReadyH.cons (o := ⟨some 75, _, _, _, _, _⟩) rfl (fun K hK => ?_) AllReadyH.nil
              · rw [if_pos (by rfl)]
                go_simp
                refine (Value_in D.heap.size X20.heap.size L9 (vaN nm) _ A5 L9.length cap5 X20 (.leaf _ _ 5 0 nm (by decide) (by decide) HNM.out) (h.own.brt HP.out h.below.size) (Nat.le_refl _) (va_nodes nm) (HED.out.under h.below).env).mono ?_
                rintro e X21 ⟨k9, n9, s9, t9, A9, m9, c9, rfl, hv, b5⟩
                have h1 := h.under HP.out b5
                have hS1 := hS.trans (b5.mono hS.size)
                rw [HEV9.out.1]
                rw [HEV9.out.2] at hv
                have z1 := h.below.size
                have z2 := b5.size
                have q1 : D.heap.size ≤ g9 := (h.kept (g9, .cells #[.int .i8 0, .int .i64 0, .string ⟨#[]⟩, .string ⟨#[]⟩, .slice none 0 0] 48 (0, 0)) (by simp)).1
                have q2 : g9 < X20.heap.size := heap_lt (h.kept (g9, .cells #[.int .i8 0, .int .i64 0, .string ⟨#[]⟩, .string ⟨#[]⟩, .slice none 0 0] 48 (0, 0)) (by simp)).2.1
                have hvt : TmAt (fun b => b < X21.heap.size ∧ b ≠ g9) X21 ((fo.getD t)) (.agg #[.int .i8 k9, .int .i64 n9, .string s9, .string t9, .slice A9 m9 c9]) := hv.mono (fun b hb => by rcases hb with hb | hb <;> exact ⟨by omega, by omega⟩)
                clear q1 q2
                clear hv b5 z1 z2
                refine hK.out _ _ hS1 (fun hSn => ?_)
                clear hK K hSn; (try simp only [Act.put, sI, sZ, sS])
                clear h hS
                have h := h1
                have hS := hS1
                clear h1 hS1
                refine wpAnyH_take (i := 10) (oi := ⟨some 65, _, _, _, _, _⟩) (v := ?_) rfl (by kernel_rfl) (by kernel_rfl) (by kernel_rfl) (fun _ _ _ h => h) (Or.inl ⟨by kernel_rfl, ?_⟩) (by assumption) ?_; rotate_left; (intro VV hSw; (try dsimp only at hSw); go_simp; first | done | with_reducible rfl); (try simp only [Act.put, sI, sZ, sS])
                refine wpAnyH_take (i := 11) (oi := ⟨some 76, _, _, _, _, _⟩) (v := ?_) rfl (by kernel_rfl) (by kernel_rfl) (by kernel_rfl) (fun _ _ _ h => h) (Or.inl ⟨by kernel_rfl, ?_⟩) (by assumption) ?_; rotate_left; (intro VV hSw; (try dsimp only at hSw); go_simp; first | done | with_reducible rfl); (try simp only [Act.put, sI, sZ, sS])
                refine wpAnyH_take (i := 12) (oi := ⟨some 77, _, _, _, _, _⟩) (v := ?_) rfl (by kernel_rfl) (by kernel_rfl) (by kernel_rfl) (fun _ _ _ h => h) (Or.inl ⟨by kernel_rfl, ?_⟩) (by assumption) ?_; rotate_left; (intro VV hSw; (try dsimp only at hSw); go_simp; first | done | with_reducible rfl); (try simp only [Act.put, sI, sZ, sS])
                obtain ⟨gge, gz, gne⟩ := h.kept (g9, .cells #[.int .i8 0, .int .i64 0, .string ⟨#[]⟩, .string ⟨#[]⟩, .slice none 0 0] 48 (0, 0)) (by simp)
                have gg2 : w12.heap.size ≤ g9 := by have := HDZ.out; have g3 : D.heap.size ≤ g9 := gge; omega
                obtain ⟨⟨z0, z1, z2, z3, z4⟩, zf0, zf1, zf2, zf3, zf4⟩ := five_fr gz
                obtain ⟨s5, m5⟩ := set_five (.int .i8 k9) (.int .i64 n9) (.string s9) (.string t9) (.slice A9 m9 c9) gz
                have hVB := vbx_of hS gg2 hvt s5 m5
                have HVB := Lib.hid hVB
                have hS9 := hVB.1
                clear s5 m5 hVB
                refine wpAnyH_ready (rs := [14]) (by kernel_rfl) (by simp) ?_
                refine AllReadyH.cons (o := ⟨none, _, _, _, _, _⟩) rfl (fun K hK => ?_) AllReadyH.nil
                · rw [if_pos (by rfl)]
                  go_simp
                  refine hK.out _ _ hS9 (fun hSn => ?_)
                  clear hK K hSn; (try simp only [Act.put, sI, sZ, sS])
                  refine wpAnyH_take (i := 15) (oi := ⟨some 13, _, _, _, _, _⟩) (v := ?_) rfl (by kernel_rfl) (by kernel_rfl) (by kernel_rfl) (fun _ _ _ h => h) (Or.inl ⟨by kernel_rfl, ?_⟩) (by assumption) ?_; rotate_left; (intro VV hSw; (try dsimp only at hSw); go_simp; first | done | with_reducible rfl); (try simp only [Act.put, sI, sZ, sS])
                  refine wpAnyH_done (by kernel_rfl) ?_ _
                  clear z0 zf0 z1 zf1 z2 zf2 z3 zf3 z4 zf4 gz gge gg2 gne
                  go_wp2_with fail
                  go_meet
                  exact ⟨g9, rfl, rfl, HVB⟩
          · rw [if_pos (by rfl)]
            go_simp
            have h1 := h.alloc HP.out (.cells #[.int .i8 0, .int .i64 0, .string ⟨#[]⟩, .string ⟨#[]⟩, .slice none 0 0] 48)
            have hS1 := hS.alloc hS.size (.cells #[.int .i8 0, .int .i64 0, .string ⟨#[]⟩, .string ⟨#[]⟩, .slice none 0 0] 48)
            obtain ⟨g9, hg⟩ : ∃ g, g = X16.heap.size := ⟨_, rfl⟩
            rw [← hg] at h1
            refine hK.out _ _ hS1 (fun hSn => ?_)
            clear hK K hSn; (try simp only [Act.put, sI, sZ, sS])
            rw [← hg]
            clear hg
            generalize X16.alloc (.cells #[.int .i8 0, .int .i64 0, .string ⟨#[]⟩, .string ⟨#[]⟩, .slice none 0 0] 48) = X22 at h1 hS1 ⊢
            clear h hS
            have h := h1
            have hS := hS1
            clear h1 hS1
            refine wpAnyH_ready (rs := [8]) (by kernel_rfl) (by simp) ?_
            refine AllReadyH.cons (o := ⟨some 74, _, _, _, _, _⟩) rfl (fun K hK => ?_) AllReadyH.nil
            · rw [if_pos (by rfl)]
              have hb0 := h.below
              refine wp_own_binds (ys := [(nm, t)]) (.tmp 69) (.tmp 73) rfl h.own hb0.size (h.apart HP.out) rfl rfl (RowB.one (h.kept (g7, .cells #[.string nm, .int .i8 tk, .int .i64 tn, .string ts_, .string tt_, .slice tA tm tc] 65 (0, 0)) (by simp)).2.1 HNM.out (HTF.out.keep (fun b hb => hb0.block b (HP.out b hb)) (fun _ h => h))) (by have := HL.out; rw [HL3.out]; simp; omega) ?_
              intro v1 X23 O hg hb
              rw [← HL9.out] at O
              have h1 := h.app O hg hb
              obtain ⟨A5, cap5, rfl⟩ := O.shape
              have hS1 : Below w12.heap.size w12 X23 := HDW.out.trans (h1.below.mono (by rw [HDZ.out]; exact Nat.le_refl _))
              refine hK.out _ _ hS1 (fun hSn => ?_)
              clear hK K hSn; (try simp only [Act.put, sI, sZ, sS])
              clear O hg hb hb0
              clear h hS
              have h := h1
              have hS := hS1
              clear h1 hS1
              refine wpAnyH_ready (rs := [9]) (by kernel_rfl) (by simp) ?_
              refine AllReadyH.cons (o := ⟨some 75, _, _, _, _, _⟩) rfl (fun K hK => ?_) AllReadyH.nil
              · rw [if_pos (by rfl)]
                go_simp
                refine (Value_in D.heap.size X23.heap.size L9 (vaN nm) _ A5 L9.length cap5 X23 (.leaf _ _ 5 0 nm (by decide) (by decide) HNM.out) (h.own.brt HP.out h.below.size) (Nat.le_refl _) (va_nodes nm) (HED.out.under h.below).env).mono ?_
                rintro e X24 ⟨k9, n9, s9, t9, A9, m9, c9, rfl, hv, b5⟩
                have h1 := h.under HP.out b5
                have hS1 := hS.trans (b5.mono hS.size)
                rw [HEV9.out.1]
                rw [HEV9.out.2] at hv
                have z1 := h.below.size
                have z2 := b5.size
                have q1 : D.heap.size ≤ g9 := (h.kept (g9, .cells #[.int .i8 0, .int .i64 0, .string ⟨#[]⟩, .string ⟨#[]⟩, .slice none 0 0] 48 (0, 0)) (by simp)).1
                have q2 : g9 < X23.heap.size := heap_lt (h.kept (g9, .cells #[.int .i8 0, .int .i64 0, .string ⟨#[]⟩, .string ⟨#[]⟩, .slice none 0 0] 48 (0, 0)) (by simp)).2.1
                have hvt : TmAt (fun b => b < X24.heap.size ∧ b ≠ g9) X24 ((fo.getD t)) (.agg #[.int .i8 k9, .int .i64 n9, .string s9, .string t9, .slice A9 m9 c9]) := hv.mono (fun b hb => by rcases hb with hb | hb <;> exact ⟨by omega, by omega⟩)
                clear q1 q2
                clear hv b5 z1 z2
                refine hK.out _ _ hS1 (fun hSn => ?_)
                clear hK K hSn; (try simp only [Act.put, sI, sZ, sS])
                clear h hS
                have h := h1
                have hS := hS1
                clear h1 hS1
                refine wpAnyH_take (i := 10) (oi := ⟨some 65, _, _, _, _, _⟩) (v := ?_) rfl (by kernel_rfl) (by kernel_rfl) (by kernel_rfl) (fun _ _ _ h => h) (Or.inl ⟨by kernel_rfl, ?_⟩) (by assumption) ?_; rotate_left; (intro VV hSw; (try dsimp only at hSw); go_simp; first | done | with_reducible rfl); (try simp only [Act.put, sI, sZ, sS])
                refine wpAnyH_take (i := 11) (oi := ⟨some 76, _, _, _, _, _⟩) (v := ?_) rfl (by kernel_rfl) (by kernel_rfl) (by kernel_rfl) (fun _ _ _ h => h) (Or.inl ⟨by kernel_rfl, ?_⟩) (by assumption) ?_; rotate_left; (intro VV hSw; (try dsimp only at hSw); go_simp; first | done | with_reducible rfl); (try simp only [Act.put, sI, sZ, sS])
                refine wpAnyH_take (i := 12) (oi := ⟨some 77, _, _, _, _, _⟩) (v := ?_) rfl (by kernel_rfl) (by kernel_rfl) (by kernel_rfl) (fun _ _ _ h => h) (Or.inl ⟨by kernel_rfl, ?_⟩) (by assumption) ?_; rotate_left; (intro VV hSw; (try dsimp only at hSw); go_simp; first | done | with_reducible rfl); (try simp only [Act.put, sI, sZ, sS])
                obtain ⟨gge, gz, gne⟩ := h.kept (g9, .cells #[.int .i8 0, .int .i64 0, .string ⟨#[]⟩, .string ⟨#[]⟩, .slice none 0 0] 48 (0, 0)) (by simp)
                have gg2 : w12.heap.size ≤ g9 := by have := HDZ.out; have g3 : D.heap.size ≤ g9 := gge; omega
                obtain ⟨⟨z0, z1, z2, z3, z4⟩, zf0, zf1, zf2, zf3, zf4⟩ := five_fr gz
                obtain ⟨s5, m5⟩ := set_five (.int .i8 k9) (.int .i64 n9) (.string s9) (.string t9) (.slice A9 m9 c9) gz
                have hVB := vbx_of hS gg2 hvt s5 m5
                have HVB := Lib.hid hVB
                have hS9 := hVB.1
                clear s5 m5 hVB
                refine wpAnyH_ready (rs := [14]) (by kernel_rfl) (by simp) ?_
                refine AllReadyH.cons (o := ⟨none, _, _, _, _, _⟩) rfl (fun K hK => ?_) AllReadyH.nil
                · rw [if_pos (by rfl)]
                  go_simp
                  refine hK.out _ _ hS9 (fun hSn => ?_)
                  clear hK K hSn; (try simp only [Act.put, sI, sZ, sS])
                  refine wpAnyH_take (i := 15) (oi := ⟨some 13, _, _, _, _, _⟩) (v := ?_) rfl (by kernel_rfl) (by kernel_rfl) (by kernel_rfl) (fun _ _ _ h => h) (Or.inl ⟨by kernel_rfl, ?_⟩) (by assumption) ?_; rotate_left; (intro VV hSw; (try dsimp only at hSw); go_simp; first | done | with_reducible rfl); (try simp only [Act.put, sI, sZ, sS])
                  refine wpAnyH_done (by kernel_rfl) ?_ _
                  clear z0 zf0 z1 zf1 z2 zf2 z3 zf3 z4 zf4 gz gge gg2 gne
                  go_wp2_with fail
                  go_meet
                  exact ⟨g9, rfl, rfl, HVB⟩
        · rw [if_pos (by rfl)]
          go_simp
          have h1 := h.alloc HP.out (.cells #[.int .i8 0, .int .i64 0, .string ⟨#[]⟩, .string ⟨#[]⟩, .slice none 0 0] 48)
          have hS1 := hS.alloc hS.size (.cells #[.int .i8 0, .int .i64 0, .string ⟨#[]⟩, .string ⟨#[]⟩, .slice none 0 0] 48)
          obtain ⟨g9, hg⟩ : ∃ g, g = X15.heap.size := ⟨_, rfl⟩
          rw [← hg] at h1
          refine hK.out _ _ hS1 (fun hSn => ?_)
          clear hK K hSn; (try simp only [Act.put, sI, sZ, sS])
          rw [← hg]
          clear hg
          generalize X15.alloc (.cells #[.int .i8 0, .int .i64 0, .string ⟨#[]⟩, .string ⟨#[]⟩, .slice none 0 0] 48) = X25 at h1 hS1 ⊢
          clear h hS
          have h := h1
          have hS := hS1
          clear h1 hS1
          refine wpAnyH_ready (rs := [7]) (by kernel_rfl) (by simp) ?_
          refine AllReadyH.cons (o := ⟨some 73, _, _, _, _, _⟩) rfl (fun K hK => ?_) AllReadyH.nil
          · rw [if_pos (by rfl)]
            go_simp
            have h1 := h.alloc HP.out (.cells #[.string nm, .int .i8 tk, .int .i64 tn, .string ts_, .string tt_, .slice tA tm tc] 65)
            have hS1 := hS.alloc hS.size (.cells #[.string nm, .int .i8 tk, .int .i64 tn, .string ts_, .string tt_, .slice tA tm tc] 65)
            obtain ⟨g7, hg⟩ : ∃ g, g = X25.heap.size := ⟨_, rfl⟩
            rw [← hg] at h1
            refine hK.out _ _ hS1 (fun hSn => ?_)
            clear hK K hSn; (try simp only [Act.put, sI, sZ, sS])
            rw [← hg]
            clear hg
            generalize X25.alloc (.cells #[.string nm, .int .i8 tk, .int .i64 tn, .string ts_, .string tt_, .slice tA tm tc] 65) = X26 at h1 hS1 ⊢
            clear h hS
            have h := h1
            have hS := hS1
            clear h1 hS1
            refine wpAnyH_ready (rs := [8]) (by kernel_rfl) (by simp) ?_
            refine AllReadyH.cons (o := ⟨some 74, _, _, _, _, _⟩) rfl (fun K hK => ?_) AllReadyH.nil
            · rw [if_pos (by rfl)]
              have hb0 := h.below
              refine wp_own_binds (ys := [(nm, t)]) (.tmp 69) (.tmp 73) rfl h.own hb0.size (h.apart HP.out) rfl rfl (RowB.one (h.kept (g7, .cells #[.string nm, .int .i8 tk, .int .i64 tn, .string ts_, .string tt_, .slice tA tm tc] 65 (0, 0)) (by simp)).2.1 HNM.out (HTF.out.keep (fun b hb => hb0.block b (HP.out b hb)) (fun _ h => h))) (by have := HL.out; rw [HL3.out]; simp; omega) ?_
              intro v1 X27 O hg hb
              rw [← HL9.out] at O
              have h1 := h.app O hg hb
              obtain ⟨A5, cap5, rfl⟩ := O.shape
              have hS1 : Below w12.heap.size w12 X27 := HDW.out.trans (h1.below.mono (by rw [HDZ.out]; exact Nat.le_refl _))
              refine hK.out _ _ hS1 (fun hSn => ?_)
              clear hK K hSn; (try simp only [Act.put, sI, sZ, sS])
              clear O hg hb hb0
              clear h hS
              have h := h1
              have hS := hS1
              clear h1 hS1
              refine wpAnyH_ready (rs := [9]) (by kernel_rfl) (by simp) ?_
              refine AllReadyH.cons (o := ⟨some 75, _, _, _, _, _⟩) rfl (fun K hK => ?_) AllReadyH.nil
              · rw [if_pos (by rfl)]
                go_simp
                refine (Value_in D.heap.size X27.heap.size L9 (vaN nm) _ A5 L9.length cap5 X27 (.leaf _ _ 5 0 nm (by decide) (by decide) HNM.out) (h.own.brt HP.out h.below.size) (Nat.le_refl _) (va_nodes nm) (HED.out.under h.below).env).mono ?_
                rintro e X28 ⟨k9, n9, s9, t9, A9, m9, c9, rfl, hv, b5⟩
                have h1 := h.under HP.out b5
                have hS1 := hS.trans (b5.mono hS.size)
                rw [HEV9.out.1]
                rw [HEV9.out.2] at hv
                have z1 := h.below.size
                have z2 := b5.size
                have q1 : D.heap.size ≤ g9 := (h.kept (g9, .cells #[.int .i8 0, .int .i64 0, .string ⟨#[]⟩, .string ⟨#[]⟩, .slice none 0 0] 48 (0, 0)) (by simp)).1
                have q2 : g9 < X27.heap.size := heap_lt (h.kept (g9, .cells #[.int .i8 0, .int .i64 0, .string ⟨#[]⟩, .string ⟨#[]⟩, .slice none 0 0] 48 (0, 0)) (by simp)).2.1
                have hvt : TmAt (fun b => b < X28.heap.size ∧ b ≠ g9) X28 ((fo.getD t)) (.agg #[.int .i8 k9, .int .i64 n9, .string s9, .string t9, .slice A9 m9 c9]) := hv.mono (fun b hb => by rcases hb with hb | hb <;> exact ⟨by omega, by omega⟩)
                clear q1 q2
                clear hv b5 z1 z2
                refine hK.out _ _ hS1 (fun hSn => ?_)
                clear hK K hSn; (try simp only [Act.put, sI, sZ, sS])
                clear h hS
                have h := h1
                have hS := hS1
                clear h1 hS1
                refine wpAnyH_take (i := 10) (oi := ⟨some 65, _, _, _, _, _⟩) (v := ?_) rfl (by kernel_rfl) (by kernel_rfl) (by kernel_rfl) (fun _ _ _ h => h) (Or.inl ⟨by kernel_rfl, ?_⟩) (by assumption) ?_; rotate_left; (intro VV hSw; (try dsimp only at hSw); go_simp; first | done | with_reducible rfl); (try simp only [Act.put, sI, sZ, sS])
                refine wpAnyH_take (i := 11) (oi := ⟨some 76, _, _, _, _, _⟩) (v := ?_) rfl (by kernel_rfl) (by kernel_rfl) (by kernel_rfl) (fun _ _ _ h => h) (Or.inl ⟨by kernel_rfl, ?_⟩) (by assumption) ?_; rotate_left; (intro VV hSw; (try dsimp only at hSw); go_simp; first | done | with_reducible rfl); (try simp only [Act.put, sI, sZ, sS])
                refine wpAnyH_take (i := 12) (oi := ⟨some 77, _, _, _, _, _⟩) (v := ?_) rfl (by kernel_rfl) (by kernel_rfl) (by kernel_rfl) (fun _ _ _ h => h) (Or.inl ⟨by kernel_rfl, ?_⟩) (by assumption) ?_; rotate_left; (intro VV hSw; (try dsimp only at hSw); go_simp; first | done | with_reducible rfl); (try simp only [Act.put, sI, sZ, sS])
                obtain ⟨gge, gz, gne⟩ := h.kept (g9, .cells #[.int .i8 0, .int .i64 0, .string ⟨#[]⟩, .string ⟨#[]⟩, .slice none 0 0] 48 (0, 0)) (by simp)
                have gg2 : w12.heap.size ≤ g9 := by have := HDZ.out; have g3 : D.heap.size ≤ g9 := gge; omega
                obtain ⟨⟨z0, z1, z2, z3, z4⟩, zf0, zf1, zf2, zf3, zf4⟩ := five_fr gz
                obtain ⟨s5, m5⟩ := set_five (.int .i8 k9) (.int .i64 n9) (.string s9) (.string t9) (.slice A9 m9 c9) gz
                have hVB := vbx_of hS gg2 hvt s5 m5
                have HVB := Lib.hid hVB
                have hS9 := hVB.1
                clear s5 m5 hVB
                refine wpAnyH_ready (rs := [14]) (by kernel_rfl) (by simp) ?_
                refine AllReadyH.cons (o := ⟨none, _, _, _, _, _⟩) rfl (fun K hK => ?_) AllReadyH.nil
                · rw [if_pos (by rfl)]
                  go_simp
                  refine hK.out _ _ hS9 (fun hSn => ?_)
                  clear hK K hSn; (try simp only [Act.put, sI, sZ, sS])
                  refine wpAnyH_take (i := 15) (oi := ⟨some 13, _, _, _, _, _⟩) (v := ?_) rfl (by kernel_rfl) (by kernel_rfl) (by kernel_rfl) (fun _ _ _ h => h) (Or.inl ⟨by kernel_rfl, ?_⟩) (by assumption) ?_; rotate_left; (intro VV hSw; (try dsimp only at hSw); go_simp; first | done | with_reducible rfl); (try simp only [Act.put, sI, sZ, sS])
                  refine wpAnyH_done (by kernel_rfl) ?_ _
                  clear z0 zf0 z1 zf1 z2 zf2 z3 zf3 z4 zf4 gz gge gg2 gne
                  go_wp2_with fail
                  go_meet
                  exact ⟨g9, rfl, rfl, HVB⟩
      · rw [if_pos (by rfl)]
        go_simp
        have h1 := h.alloc HP.out (.cells #[.string nm, .int .i8 tk, .int .i64 tn, .string ts_, .string tt_, .slice tA tm tc] 65)
        have hS1 := hS.alloc hS.size (.cells #[.string nm, .int .i8 tk, .int .i64 tn, .string ts_, .string tt_, .slice tA tm tc] 65)
        obtain ⟨g7, hg⟩ : ∃ g, g = X14.heap.size := ⟨_, rfl⟩
        rw [← hg] at h1
        refine hK.out _ _ hS1 (fun hSn => ?_)
        clear hK K hSn; (try simp only [Act.put, sI, sZ, sS])
        rw [← hg]
        clear hg
        generalize X14.alloc (.cells #[.string nm, .int .i8 tk, .int .i64 tn, .string ts_, .string tt_, .slice tA tm tc] 65) = X29 at h1 hS1 ⊢
        clear h hS
        have h := h1
        have hS := hS1
        clear h1 hS1
        refine wpAnyH_ready (rs := [3, 13]) (by kernel_rfl) (by simp) ?_
        refine AllReadyH.cons (o := ⟨some 69, _, _, _, _, _⟩) rfl (fun K hK => ?_) (AllReadyH.cons (o := ⟨some 12, _, _, _, _, _⟩) rfl (fun K hK => ?_) AllReadyH.nil)
        · rw [if_pos (by rfl)]
          have hb0 := h.below
          refine wp_own_binds (ys := l) (.tmp 67) (.tmp 68) rfl h.own hb0.size (h.apart HP.out) rfl rfl (((HLB.out.keep (Q := P) (fun b hb => hb0.block b (HP.out b hb)) (fun _ h => h)).rowB)) (by have := HL.out; show 0 + _ ≤ _; omega) ?_
          intro v1 X30 O hg hb
          rw [← HL3.out] at O
          have h1 := h.app O hg hb
          have hS1 : Below w12.heap.size w12 X30 := HDW.out.trans (h1.below.mono (by rw [HDZ.out]; exact Nat.le_refl _))
          refine hK.out _ _ hS1 (fun hSn => ?_)
          clear hK K hSn; (try simp only [Act.put, sI, sZ, sS])
          clear O hg hb hb0
          clear h hS
          have h := h1
          have hS := hS1
          clear h1 hS1
          refine wpAnyH_ready (rs := [8, 13]) (by kernel_rfl) (by simp) ?_
          refine AllReadyH.cons (o := ⟨some 74, _, _, _, _, _⟩) rfl (fun K hK => ?_) (AllReadyH.cons (o := ⟨some 12, _, _, _, _, _⟩) rfl (fun K hK => ?_) AllReadyH.nil)
          · rw [if_pos (by rfl)]
            have hb0 := h.below
            refine wp_own_binds (ys := [(nm, t)]) (.tmp 69) (.tmp 73) rfl h.own hb0.size (h.apart HP.out) rfl rfl (RowB.one (h.kept (g7, .cells #[.string nm, .int .i8 tk, .int .i64 tn, .string ts_, .string tt_, .slice tA tm tc] 65 (0, 0)) (by simp)).2.1 HNM.out (HTF.out.keep (fun b hb => hb0.block b (HP.out b hb)) (fun _ h => h))) (by have := HL.out; rw [HL3.out]; simp; omega) ?_
            intro v1 X31 O hg hb
            rw [← HL9.out] at O
            have h1 := h.app O hg hb
            obtain ⟨A5, cap5, rfl⟩ := O.shape
            have hS1 : Below w12.heap.size w12 X31 := HDW.out.trans (h1.below.mono (by rw [HDZ.out]; exact Nat.le_refl _))
            refine hK.out _ _ hS1 (fun hSn => ?_)
            clear hK K hSn; (try simp only [Act.put, sI, sZ, sS])
            clear O hg hb hb0
            clear h hS
            have h := h1
            have hS := hS1
            clear h1 hS1
            refine wpAnyH_ready (rs := [9, 13]) (by kernel_rfl) (by simp) ?_
            refine AllReadyH.cons (o := ⟨some 75, _, _, _, _, _⟩) rfl (fun K hK => ?_) (AllReadyH.cons (o := ⟨some 12, _, _, _, _, _⟩) rfl (fun K hK => ?_) AllReadyH.nil)
            · rw [if_pos (by rfl)]
              go_simp
              refine (Value_in D.heap.size X31.heap.size L9 (vaN nm) _ A5 L9.length cap5 X31 (.leaf _ _ 5 0 nm (by decide) (by decide) HNM.out) (h.own.brt HP.out h.below.size) (Nat.le_refl _) (va_nodes nm) (HED.out.under h.below).env).mono ?_
              rintro e X32 ⟨k9, n9, s9, t9, A9, m9, c9, rfl, hv, b5⟩
              have h1 := h.under HP.out b5
              have hS1 := hS.trans (b5.mono hS.size)
              rw [HEV9.out.1]
              rw [HEV9.out.2] at hv
              have z1 := h.below.size
              have z2 := b5.size
              have hvt : TmAt (· < X32.heap.size) X32 ((fo.getD t)) (.agg #[.int .i8 k9, .int .i64 n9, .string s9, .string t9, .slice A9 m9 c9]) := hv.mono (fun b hb => by rcases hb with hb | hb <;> omega)
              clear hv b5 z1 z2
              refine hK.out _ _ hS1 (fun hSn => ?_)
              clear hK K hSn; (try simp only [Act.put, sI, sZ, sS])
              clear h hS
              have h := h1
              have hS := hS1
              clear h1 hS1
              refine wpAnyH_take (i := 10) (oi := ⟨some 65, _, _, _, _, _⟩) (v := ?_) rfl (by kernel_rfl) (by kernel_rfl) (by kernel_rfl) (fun _ _ _ h => h) (Or.inl ⟨by kernel_rfl, ?_⟩) (by assumption) ?_; rotate_left; (intro VV hSw; (try dsimp only at hSw); go_simp; first | done | with_reducible rfl); (try simp only [Act.put, sI, sZ, sS])
              refine wpAnyH_take (i := 11) (oi := ⟨some 76, _, _, _, _, _⟩) (v := ?_) rfl (by kernel_rfl) (by kernel_rfl) (by kernel_rfl) (fun _ _ _ h => h) (Or.inl ⟨by kernel_rfl, ?_⟩) (by assumption) ?_; rotate_left; (intro VV hSw; (try dsimp only at hSw); go_simp; first | done | with_reducible rfl); (try simp only [Act.put, sI, sZ, sS])
              refine wpAnyH_take (i := 12) (oi := ⟨some 77, _, _, _, _, _⟩) (v := ?_) rfl (by kernel_rfl) (by kernel_rfl) (by kernel_rfl) (fun _ _ _ h => h) (Or.inl ⟨by kernel_rfl, ?_⟩) (by assumption) ?_; rotate_left; (intro VV hSw; (try dsimp only at hSw); go_simp; first | done | with_reducible rfl); (try simp only [Act.put, sI, sZ, sS])
              refine wpAnyH_ready (rs := [13]) (by kernel_rfl) (by simp) ?_
              refine AllReadyH.cons (o := ⟨some 12, _, _, _, _, _⟩) rfl (fun K hK => ?_) AllReadyH.nil
              · rw [if_pos (by rfl)]
                go_simp
                have h1 := h.alloc HP.out (.cells #[.int .i8 0, .int .i64 0, .string ⟨#[]⟩, .string ⟨#[]⟩, .slice none 0 0] 48)
                have hS1 := hS.alloc hS.size (.cells #[.int .i8 0, .int .i64 0, .string ⟨#[]⟩, .string ⟨#[]⟩, .slice none 0 0] 48)
                have ba := Below.heap_alloc X32 (.cells #[.int .i8 0, .int .i64 0, .string ⟨#[]⟩, .string ⟨#[]⟩, .slice none 0 0] 48)
                have hv1 := hvt.keep (Q := fun b => b < (X32.alloc (.cells #[.int .i8 0, .int .i64 0, .string ⟨#[]⟩, .string ⟨#[]⟩, .slice none 0 0] 48)).heap.size ∧ b ≠ X32.heap.size) (fun b hb => ba b hb) (fun b (hb : b < _) => ⟨by rw [World.size_alloc]; omega, by omega⟩)
                clear hvt ba
                obtain ⟨g9, hg⟩ : ∃ g, g = X32.heap.size := ⟨_, rfl⟩
                rw [← hg] at h1 hv1
                refine hK.out _ _ hS1 (fun hSn => ?_)
                clear hK K hSn; (try simp only [Act.put, sI, sZ, sS])
                rw [← hg]
                clear hg
                generalize X32.alloc (.cells #[.int .i8 0, .int .i64 0, .string ⟨#[]⟩, .string ⟨#[]⟩, .slice none 0 0] 48) = X33 at h1 hS1 hv1 ⊢
                clear h hS
                have h := h1
                have hS := hS1
                clear h1 hS1
                have hvt := hv1
                clear hv1
                obtain ⟨gge, gz, gne⟩ := h.kept (g9, .cells #[.int .i8 0, .int .i64 0, .string ⟨#[]⟩, .string ⟨#[]⟩, .slice none 0 0] 48 (0, 0)) (by simp)
                have gg2 : w12.heap.size ≤ g9 := by have := HDZ.out; have g3 : D.heap.size ≤ g9 := gge; omega
                obtain ⟨⟨z0, z1, z2, z3, z4⟩, zf0, zf1, zf2, zf3, zf4⟩ := five_fr gz
                obtain ⟨s5, m5⟩ := set_five (.int .i8 k9) (.int .i64 n9) (.string s9) (.string t9) (.slice A9 m9 c9) gz
                have hVB := vbx_of hS gg2 hvt s5 m5
                have HVB := Lib.hid hVB
                have hS9 := hVB.1
                clear s5 m5 hVB
                refine wpAnyH_ready (rs := [14]) (by kernel_rfl) (by simp) ?_
                refine AllReadyH.cons (o := ⟨none, _, _, _, _, _⟩) rfl (fun K hK => ?_) AllReadyH.nil
                · rw [if_pos (by rfl)]
                  go_simp
                  refine hK.out _ _ hS9 (fun hSn => ?_)
                  clear hK K hSn; (try simp only [Act.put, sI, sZ, sS])
                  refine wpAnyH_take (i := 15) (oi := ⟨some 13, _, _, _, _, _⟩) (v := ?_) rfl (by kernel_rfl) (by kernel_rfl) (by kernel_rfl) (fun _ _ _ h => h) (Or.inl ⟨by kernel_rfl, ?_⟩) (by assumption) ?_; rotate_left; (intro VV hSw; (try dsimp only at hSw); go_simp; first | done | with_reducible rfl); (try simp only [Act.put, sI, sZ, sS])
                  refine wpAnyH_done (by kernel_rfl) ?_ _
                  clear z0 zf0 z1 zf1 z2 zf2 z3 zf3 z4 zf4 gz gge gg2 gne
                  go_wp2_with fail
                  go_meet
                  exact ⟨g9, rfl, rfl, HVB⟩
            · rw [if_pos (by rfl)]
              go_simp
              have h1 := h.alloc HP.out (.cells #[.int .i8 0, .int .i64 0, .string ⟨#[]⟩, .string ⟨#[]⟩, .slice none 0 0] 48)
              have hS1 := hS.alloc hS.size (.cells #[.int .i8 0, .int .i64 0, .string ⟨#[]⟩, .string ⟨#[]⟩, .slice none 0 0] 48)
              obtain ⟨g9, hg⟩ : ∃ g, g = X31.heap.size := ⟨_, rfl⟩
              rw [← hg] at h1
              refine hK.out _ _ hS1 (fun hSn => ?_)
              clear hK K hSn; (try simp only [Act.put, sI, sZ, sS])
              rw [← hg]
              clear hg
              generalize X31.alloc (.cells #[.int .i8 0, .int .i64 0, .string ⟨#[]⟩, .string ⟨#[]⟩, .slice none 0 0] 48) = X34 at h1 hS1 ⊢
              clear h hS
              have h := h1
              have hS := hS1
              clear h1 hS1
              refine wpAnyH_ready (rs := [9]) (by kernel_rfl) (by simp) ?_
              refine AllReadyH.cons (o := ⟨some 75, _, _, _, _, _⟩) rfl (fun K hK => ?_) AllReadyH.nil
              · rw [if_pos (by rfl)]
                go_simp
                refine (Value_in D.heap.size X34.heap.size L9 (vaN nm) _ A5 L9.length cap5 X34 (.leaf _ _ 5 0 nm (by decide) (by decide) HNM.out) (h.own.brt HP.out h.below.size) (Nat.le_refl _) (va_nodes nm) (HED.out.under h.below).env).mono ?_
                rintro e X35 ⟨k9, n9, s9, t9, A9, m9, c9, rfl, hv, b5⟩
                have h1 := h.under HP.out b5
                have hS1 := hS.trans (b5.mono hS.size)
                rw [HEV9.out.1]
                rw [HEV9.out.2] at hv
                have z1 := h.below.size
                have z2 := b5.size
                have q1 : D.heap.size ≤ g9 := (h.kept (g9, .cells #[.int .i8 0, .int .i64 0, .string ⟨#[]⟩, .string ⟨#[]⟩, .slice none 0 0] 48 (0, 0)) (by simp)).1
                have q2 : g9 < X34.heap.size := heap_lt (h.kept (g9, .cells #[.int .i8 0, .int .i64 0, .string ⟨#[]⟩, .string ⟨#[]⟩, .slice none 0 0] 48 (0, 0)) (by simp)).2.1
                have hvt : TmAt (fun b => b < X35.heap.size ∧ b ≠ g9) X35 ((fo.getD t)) (.agg #[.int .i8 k9, .int .i64 n9, .string s9, .string t9, .slice A9 m9 c9]) := hv.mono (fun b hb => by rcases hb with hb | hb <;> exact ⟨by omega, by omega⟩)
                clear q1 q2
                clear hv b5 z1 z2
                refine hK.out _ _ hS1 (fun hSn => ?_)
                clear hK K hSn; (try simp only [Act.put, sI, sZ, sS])
                clear h hS
                have h := h1
                have hS := hS1
                clear h1 hS1
                refine wpAnyH_take (i := 10) (oi := ⟨some 65, _, _, _, _, _⟩) (v := ?_) rfl (by kernel_rfl) (by kernel_rfl) (by kernel_rfl) (fun _ _ _ h => h) (Or.inl ⟨by kernel_rfl, ?_⟩) (by assumption) ?_; rotate_left; (intro VV hSw; (try dsimp only at hSw); go_simp; first | done | with_reducible rfl); (try simp only [Act.put, sI, sZ, sS])
                refine wpAnyH_take (i := 11) (oi := ⟨some 76, _, _, _, _, _⟩) (v := ?_) rfl (by kernel_rfl) (by kernel_rfl) (by kernel_rfl) (fun _ _ _ h => h) (Or.inl ⟨by kernel_rfl, ?_⟩) (by assumption) ?_; rotate_left; (intro VV hSw; (try dsimp only at hSw); go_simp; first | done | with_reducible rfl); (try simp only [Act.put, sI, sZ, sS])
                refine wpAnyH_take (i := 12) (oi := ⟨some 77, _, _, _, _, _⟩) (v := ?_) rfl (by kernel_rfl) (by kernel_rfl) (by kernel_rfl) (fun _ _ _ h => h) (Or.inl ⟨by kernel_rfl, ?_⟩) (by assumption) ?_; rotate_left; (intro VV hSw; (try dsimp only at hSw); go_simp; first | done | with_reducible rfl); (try simp only [Act.put, sI, sZ, sS])
                obtain ⟨gge, gz, gne⟩ := h.kept (g9, .cells #[.int .i8 0, .int .i64 0, .string ⟨#[]⟩, .string ⟨#[]⟩, .slice none 0 0] 48 (0, 0)) (by simp)
                have gg2 : w12.heap.size ≤ g9 := by have := HDZ.out; have g3 : D.heap.size ≤ g9 := gge; omega
                obtain ⟨⟨z0, z1, z2, z3, z4⟩, zf0, zf1, zf2, zf3, zf4⟩ := five_fr gz
                obtain ⟨s5, m5⟩ := set_five (.int .i8 k9) (.int .i64 n9) (.string s9) (.string t9) (.slice A9 m9 c9) gz
                have hVB := vbx_of hS gg2 hvt s5 m5
                have HVB := Lib.hid hVB
                have hS9 := hVB.1
                clear s5 m5 hVB
                refine wpAnyH_ready (rs := [14]) (by kernel_rfl) (by simp) ?_
                refine AllReadyH.cons (o := ⟨none, _, _, _, _, _⟩) rfl (fun K hK => ?_) AllReadyH.nil
                · rw [if_pos (by rfl)]
                  go_simp
                  refine hK.out _ _ hS9 (fun hSn => ?_)
                  clear hK K hSn; (try simp only [Act.put, sI, sZ, sS])
                  refine wpAnyH_take (i := 15) (oi := ⟨some 13, _, _, _, _, _⟩) (v := ?_) rfl (by kernel_rfl) (by kernel_rfl) (by kernel_rfl) (fun _ _ _ h => h) (Or.inl ⟨by kernel_rfl, ?_⟩) (by assumption) ?_; rotate_left; (intro VV hSw; (try dsimp only at hSw); go_simp; first | done | with_reducible rfl); (try simp only [Act.put, sI, sZ, sS])
                  refine wpAnyH_done (by kernel_rfl) ?_ _
                  clear z0 zf0 z1 zf1 z2 zf2 z3 zf3 z4 zf4 gz gge gg2 gne
                  go_wp2_with fail
                  go_meet
                  exact ⟨g9, rfl, rfl, HVB⟩
          · rw [if_pos (by rfl)]
            go_simp
            have h1 := h.alloc HP.out (.cells #[.int .i8 0, .int .i64 0, .string ⟨#[]⟩, .string ⟨#[]⟩, .slice none 0 0] 48)
            have hS1 := hS.alloc hS.size (.cells #[.int .i8 0, .int .i64 0, .string ⟨#[]⟩, .string ⟨#[]⟩, .slice none 0 0] 48)
            obtain ⟨g9, hg⟩ : ∃ g, g = X30.heap.size := ⟨_, rfl⟩
            rw [← hg] at h1
            refine hK.out _ _ hS1 (fun hSn => ?_)
            clear hK K hSn; (try simp only [Act.put, sI, sZ, sS])
            rw [← hg]
            clear hg
            generalize X30.alloc (.cells #[.int .i8 0, .int .i64 0, .string ⟨#[]⟩, .string ⟨#[]⟩, .slice none 0 0] 48) = X36 at h1 hS1 ⊢
            clear h hS
            have h := h1
            have hS := hS1
            clear h1 hS1
            refine wpAnyH_ready (rs := [8]) (by kernel_rfl) (by simp) ?_
            refine AllReadyH.cons (o := ⟨some 74, _, _, _, _, _⟩) rfl (fun K hK => ?_) AllReadyH.nil
            · rw [if_pos (by rfl)]
              have hb0 := h.below
              refine wp_own_binds (ys := [(nm, t)]) (.tmp 69) (.tmp 73) rfl h.own hb0.size (h.apart HP.out) rfl rfl (RowB.one (h.kept (g7, .cells #[.string nm, .int .i8 tk, .int .i64 tn, .string ts_, .string tt_, .slice tA tm tc] 65 (0, 0)) (by simp)).2.1 HNM.out (HTF.out.keep (fun b hb => hb0.block b (HP.out b hb)) (fun _ h => h))) (by have := HL.out; rw [HL3.out]; simp; omega) ?_
              intro v1 X37 O hg hb
              rw [← HL9.out] at O
              have h1 := h.app O hg hb
              obtain ⟨A5, cap5, rfl⟩ := O.shape
              have hS1 : Below w12.heap.size w12 X37 := HDW.out.trans (h1.below.mono (by rw [HDZ.out]; exact Nat.le_refl _))
              refine hK.out _ _ hS1 (fun hSn => ?_)
              clear hK K hSn; (try simp only [Act.put, sI, sZ, sS])
              clear O hg hb hb0
              clear h hS
              have h := h1
              have hS := hS1
              clear h1 hS1
              refine wpAnyH_ready (rs := [9]) (by kernel_rfl) (by simp) ?_
              refine AllReadyH.cons (o := ⟨some 75, _, _, _, _, _⟩) rfl (fun K hK => ?_) AllReadyH.nil
              · rw [if_pos (by rfl)]
                go_simp
                refine (Value_in D.heap.size X37.heap.size L9 (vaN nm) _ A5 L9.length cap5 X37 (.leaf _ _ 5 0 nm (by decide) (by decide) HNM.out) (h.own.brt HP.out h.below.size) (Nat.le_refl _) (va_nodes nm) (HED.out.under h.below).env).mono ?_
                rintro e X38 ⟨k9, n9, s9, t9, A9, m9, c9, rfl, hv, b5⟩
                have h1 := h.under HP.out b5
                have hS1 := hS.trans (b5.mono hS.size)
                rw [HEV9.out.1]
                rw [HEV9.out.2] at hv
                have z1 := h.below.size
                have z2 := b5.size
                have q1 : D.heap.size ≤ g9 := (h.kept (g9, .cells #[.int .i8 0, .int .i64 0, .string ⟨#[]⟩, .string ⟨#[]⟩, .slice none 0 0] 48 (0, 0)) (by simp)).1
                have q2 : g9 < X37.heap.size := heap_lt (h.kept (g9, .cells #[.int .i8 0, .int .i64 0, .string ⟨#[]⟩, .string ⟨#[]⟩, .slice none 0 0] 48 (0, 0)) (by simp)).2.1
                have hvt : TmAt (fun b => b < X38.heap.size ∧ b ≠ g9) X38 ((fo.getD t)) (.agg #[.int .i8 k9, .int .i64 n9, .string s9, .string t9, .slice A9 m9 c9]) := hv.mono (fun b hb => by rcases hb with hb | hb <;> exact ⟨by omega, by omega⟩)
                clear q1 q2
                clear hv b5 z1 z2
                refine hK.out _ _ hS1 (fun hSn => ?_)
                clear hK K hSn; (try simp only [Act.put, sI, sZ, sS])
                clear h hS
                have h := h1
                have hS := hS1
                clear h1 hS1
                refine wpAnyH_take (i := 10) (oi := ⟨some 65, _, _, _, _, _⟩) (v := ?_) rfl (by kernel_rfl) (by kernel_rfl) (by kernel_rfl) (fun _ _ _ h => h) (Or.inl ⟨by kernel_rfl, ?_⟩) (by assumption) ?_; rotate_left; (intro VV hSw; (try dsimp only at hSw); go_simp; first | done | with_reducible rfl); (try simp only [Act.put, sI, sZ, sS])
                refine wpAnyH_take (i := 11) (oi := ⟨some 76, _, _, _, _, _⟩) (v := ?_) rfl (by kernel_rfl) (by kernel_rfl) (by kernel_rfl) (fun _ _ _ h => h) (Or.inl ⟨by kernel_rfl, ?_⟩) (by assumption) ?_; rotate_left; (intro VV hSw; (try dsimp only at hSw); go_simp; first | done | with_reducible rfl); (try simp only [Act.put, sI, sZ, sS])
                refine wpAnyH_take (i := 12) (oi := ⟨some 77, _, _, _, _, _⟩) (v := ?_) rfl (by kernel_rfl) (by kernel_rfl) (by kernel_rfl) (fun _ _ _ h => h) (Or.inl ⟨by kernel_rfl, ?_⟩) (by assumption) ?_; rotate_left; (intro VV hSw; (try dsimp only at hSw); go_simp; first | done | with_reducible rfl); (try simp only [Act.put, sI, sZ, sS])
                obtain ⟨gge, gz, gne⟩ := h.kept (g9, .cells #[.int .i8 0, .int .i64 0, .string ⟨#[]⟩, .string ⟨#[]⟩, .slice none 0 0] 48 (0, 0)) (by simp)
                have gg2 : w12.heap.size ≤ g9 := by have := HDZ.out; have g3 : D.heap.size ≤ g9 := gge; omega
                obtain ⟨⟨z0, z1, z2, z3, z4⟩, zf0, zf1, zf2, zf3, zf4⟩ := five_fr gz
                obtain ⟨s5, m5⟩ := set_five (.int .i8 k9) (.int .i64 n9) (.string s9) (.string t9) (.slice A9 m9 c9) gz
                have hVB := vbx_of hS gg2 hvt s5 m5
                have HVB := Lib.hid hVB
                have hS9 := hVB.1
                clear s5 m5 hVB
                refine wpAnyH_ready (rs := [14]) (by kernel_rfl) (by simp) ?_
                refine AllReadyH.cons (o := ⟨none, _, _, _, _, _⟩) rfl (fun K hK => ?_) AllReadyH.nil
                · rw [if_pos (by rfl)]
                  go_simp
                  refine hK.out _ _ hS9 (fun hSn => ?_)
                  clear hK K hSn; (try simp only [Act.put, sI, sZ, sS])
                  refine wpAnyH_take (i := 15) (oi := ⟨some 13, _, _, _, _, _⟩) (v := ?_) rfl (by kernel_rfl) (by kernel_rfl) (by kernel_rfl) (fun _ _ _ h => h) (Or.inl ⟨by kernel_rfl, ?_⟩) (by assumption) ?_; rotate_left; (intro VV hSw; (try dsimp only at hSw); go_simp; first | done | with_reducible rfl); (try simp only [Act.put, sI, sZ, sS])
                  refine wpAnyH_done (by kernel_rfl) ?_ _
                  clear z0 zf0 z1 zf1 z2 zf2 z3 zf3 z4 zf4 gz gge gg2 gne
                  go_wp2_with fail
                  go_meet
                  exact ⟨g9, rfl, rfl, HVB⟩
        · rw [if_pos (by rfl)]
          go_simp
          have h1 := h.alloc HP.out (.cells #[.int .i8 0, .int .i64 0, .string ⟨#[]⟩, .string ⟨#[]⟩, .slice none 0 0] 48)
          have hS1 := hS.alloc hS.size (.cells #[.int .i8 0, .int .i64 0, .string ⟨#[]⟩, .string ⟨#[]⟩, .slice none 0 0] 48)
          obtain ⟨g9, hg⟩ : ∃ g, g = X29.heap.size := ⟨_, rfl⟩
          rw [← hg] at h1
          refine hK.out _ _ hS1 (fun hSn => ?_)
          clear hK K hSn; (try simp only [Act.put, sI, sZ, sS])
          rw [← hg]
          clear hg
          generalize X29.alloc (.cells #[.int .i8 0, .int .i64 0, .string ⟨#[]⟩, .string ⟨#[]⟩, .slice none 0 0] 48) = X39 at h1 hS1 ⊢
          clear h hS
          have h := h1
          have hS := hS1
          clear h1 hS1
          refine wpAnyH_ready (rs := [3]) (by kernel_rfl) (by simp) ?_
          refine AllReadyH.cons (o := ⟨some 69, _, _, _, _, _⟩) rfl (fun K hK => ?_) AllReadyH.nil
          · rw [if_pos (by rfl)]
            have hb0 := h.below
            refine wp_own_binds (ys := l) (.tmp 67) (.tmp 68) rfl h.own hb0.size (h.apart HP.out) rfl rfl (((HLB.out.keep (Q := P) (fun b hb => hb0.block b (HP.out b hb)) (fun _ h => h)).rowB)) (by have := HL.out; show 0 + _ ≤ _; omega) ?_
            intro v1 X40 O hg hb
            rw [← HL3.out] at O
            have h1 := h.app O hg hb
            have hS1 : Below w12.heap.size w12 X40 := HDW.out.trans (h1.below.mono (by rw [HDZ.out]; exact Nat.le_refl _))
            refine hK.out _ _ hS1 (fun hSn => ?_)
            clear hK K hSn; (try simp only [Act.put, sI, sZ, sS])
            clear O hg hb hb0
            clear h hS
            have h := h1
            have hS := hS1
            clear h1 hS1
            refine wpAnyH_ready (rs := [8]) (by kernel_rfl) (by simp) ?_
            refine AllReadyH.cons (o := ⟨some 74, _, _, _, _, _⟩) rfl (fun K hK => ?_) AllReadyH.nil
            · rw [if_pos (by rfl)]
              have hb0 := h.below
              refine wp_own_binds (ys := [(nm, t)]) (.tmp 69) (.tmp 73) rfl h.own hb0.size (h.apart HP.out) rfl rfl (RowB.one (h.kept (g7, .cells #[.string nm, .int .i8 tk, .int .i64 tn, .string ts_, .string tt_, .slice tA tm tc] 65 (0, 0)) (by simp)).2.1 HNM.out (HTF.out.keep (fun b hb => hb0.block b (HP.out b hb)) (fun _ h => h))) (by have := HL.out; rw [HL3.out]; simp; omega) ?_
              intro v1 X41 O hg hb
              rw [← HL9.out] at O
              have h1 := h.app O hg hb
              obtain ⟨A5, cap5, rfl⟩ := O.shape
              have hS1 : Below w12.heap.size w12 X41 := HDW.out.trans (h1.below.mono (by rw [HDZ.out]; exact Nat.le_refl _))
              refine hK.out _ _ hS1 (fun hSn => ?_)
              clear hK K hSn; (try simp only [Act.put, sI, sZ, sS])
              clear O hg hb hb0
              clear h hS
              have h := h1
              have hS := hS1
              clear h1 hS1
              refine wpAnyH_ready (rs := [9]) (by kernel_rfl) (by simp) ?_
              refine AllReadyH.cons (o := ⟨some 75, _, _, _, _, _⟩) rfl (fun K hK => ?_) AllReadyH.nil
              · rw [if_pos (by rfl)]
                go_simp
                refine (Value_in D.heap.size X41.heap.size L9 (vaN nm) _ A5 L9.length cap5 X41 (.leaf _ _ 5 0 nm (by decide) (by decide) HNM.out) (h.own.brt HP.out h.below.size) (Nat.le_refl _) (va_nodes nm) (HED.out.under h.below).env).mono ?_
                rintro e X42 ⟨k9, n9, s9, t9, A9, m9, c9, rfl, hv, b5⟩
                have h1 := h.under HP.out b5
                have hS1 := hS.trans (b5.mono hS.size)
                rw [HEV9.out.1]
                rw [HEV9.out.2] at hv
                have z1 := h.below.size
                have z2 := b5.size
                have q1 : D.heap.size ≤ g9 := (h.kept (g9, .cells #[.int .i8 0, .int .i64 0, .string ⟨#[]⟩, .string ⟨#[]⟩, .slice none 0 0] 48 (0, 0)) (by simp)).1
                have q2 : g9 < X41.heap.size := heap_lt (h.kept (g9, .cells #[.int .i8 0, .int .i64 0, .string ⟨#[]⟩, .string ⟨#[]⟩, .slice none 0 0] 48 (0, 0)) (by simp)).2.1
                have hvt : TmAt (fun b => b < X42.heap.size ∧ b ≠ g9) X42 ((fo.getD t)) (.agg #[.int .i8 k9, .int .i64 n9, .string s9, .string t9, .slice A9 m9 c9]) := hv.mono (fun b hb => by rcases hb with hb | hb <;> exact ⟨by omega, by omega⟩)
                clear q1 q2
                clear hv b5 z1 z2
                refine hK.out _ _ hS1 (fun hSn => ?_)
                clear hK K hSn; (try simp only [Act.put, sI, sZ, sS])
                clear h hS
                have h := h1
                have hS := hS1
                clear h1 hS1
                refine wpAnyH_take (i := 10) (oi := ⟨some 65, _, _, _, _, _⟩) (v := ?_) rfl (by kernel_rfl) (by kernel_rfl) (by kernel_rfl) (fun _ _ _ h => h) (Or.inl ⟨by kernel_rfl, ?_⟩) (by assumption) ?_; rotate_left; (intro VV hSw; (try dsimp only at hSw); go_simp; first | done | with_reducible rfl); (try simp only [Act.put, sI, sZ, sS])
                refine wpAnyH_take (i := 11) (oi := ⟨some 76, _, _, _, _, _⟩) (v := ?_) rfl (by kernel_rfl) (by kernel_rfl) (by kernel_rfl) (fun _ _ _ h => h) (Or.inl ⟨by kernel_rfl, ?_⟩) (by assumption) ?_; rotate_left; (intro VV hSw; (try dsimp only at hSw); go_simp; first | done | with_reducible rfl); (try simp only [Act.put, sI, sZ, sS])
                refine wpAnyH_take (i := 12) (oi := ⟨some 77, _, _, _, _, _⟩) (v := ?_) rfl (by kernel_rfl) (by kernel_rfl) (by kernel_rfl) (fun _ _ _ h => h) (Or.inl ⟨by kernel_rfl, ?_⟩) (by assumption) ?_; rotate_left; (intro VV hSw; (try dsimp only at hSw); go_simp; first | done | with_reducible rfl); (try simp only [Act.put, sI, sZ, sS])
                obtain ⟨gge, gz, gne⟩ := h.kept (g9, .cells #[.int .i8 0, .int .i64 0, .string ⟨#[]⟩, .string ⟨#[]⟩, .slice none 0 0] 48 (0, 0)) (by simp)
                have gg2 : w12.heap.size ≤ g9 := by have := HDZ.out; have g3 : D.heap.size ≤ g9 := gge; omega
                obtain ⟨⟨z0, z1, z2, z3, z4⟩, zf0, zf1, zf2, zf3, zf4⟩ := five_fr gz
                obtain ⟨s5, m5⟩ := set_five (.int .i8 k9) (.int .i64 n9) (.string s9) (.string t9) (.slice A9 m9 c9) gz
                have hVB := vbx_of hS gg2 hvt s5 m5
                have HVB := Lib.hid hVB
                have hS9 := hVB.1
                clear s5 m5 hVB
                refine wpAnyH_ready (rs := [14]) (by kernel_rfl) (by simp) ?_
                refine AllReadyH.cons (o := ⟨none, _, _, _, _, _⟩) rfl (fun K hK => ?_) AllReadyH.nil
                · rw [if_pos (by rfl)]
                  go_simp
                  refine hK.out _ _ hS9 (fun hSn => ?_)
                  clear hK K hSn; (try simp only [Act.put, sI, sZ, sS])
                  refine wpAnyH_take (i := 15) (oi := ⟨some 13, _, _, _, _, _⟩) (v := ?_) rfl (by kernel_rfl) (by kernel_rfl) (by kernel_rfl) (fun _ _ _ h => h) (Or.inl ⟨by kernel_rfl, ?_⟩) (by assumption) ?_; rotate_left; (intro VV hSw; (try dsimp only at hSw); go_simp; first | done | with_reducible rfl); (try simp only [Act.put, sI, sZ, sS])
                  refine wpAnyH_done (by kernel_rfl) ?_ _
                  clear z0 zf0 z1 zf1 z2 zf2 z3 zf3 z4 zf4 gz gge gg2 gne
                  go_wp2_with fail
                  go_meet
                  exact ⟨g9, rfl, rfl, HVB⟩
      · rw [if_pos (by rfl)]
        go_simp
        have h1 := h.alloc HP.out (.cells #[.int .i8 0, .int .i64 0, .string ⟨#[]⟩, .string ⟨#[]⟩, .slice none 0 0] 48)
        have hS1 := hS.alloc hS.size (.cells #[.int .i8 0, .int .i64 0, .string ⟨#[]⟩, .string ⟨#[]⟩, .slice none 0 0] 48)
        obtain ⟨g9, hg⟩ : ∃ g, g = X14.heap.size := ⟨_, rfl⟩
        rw [← hg] at h1
        refine hK.out _ _ hS1 (fun hSn => ?_)
        clear hK K hSn; (try simp only [Act.put, sI, sZ, sS])
        rw [← hg]
        clear hg
        generalize X14.alloc (.cells #[.int .i8 0, .int .i64 0, .string ⟨#[]⟩, .string ⟨#[]⟩, .slice none 0 0] 48) = X43 at h1 hS1 ⊢
        clear h hS
        have h := h1
        have hS := hS1
        clear h1 hS1
        refine wpAnyH_ready (rs := [3, 7]) (by kernel_rfl) (by simp) ?_
        refine AllReadyH.cons (o := ⟨some 69, _, _, _, _, _⟩) rfl (fun K hK => ?_) (AllReadyH.cons (o := ⟨some 73, _, _, _, _, _⟩) rfl (fun K hK => ?_) AllReadyH.nil)
        · rw [if_pos (by rfl)]
          have hb0 := h.below
          refine wp_own_binds (ys := l) (.tmp 67) (.tmp 68) rfl h.own hb0.size (h.apart HP.out) rfl rfl (((HLB.out.keep (Q := P) (fun b hb => hb0.block b (HP.out b hb)) (fun _ h => h)).rowB)) (by have := HL.out; show 0 + _ ≤ _; omega) ?_
          intro v1 X44 O hg hb
          rw [← HL3.out] at O
          have h1 := h.app O hg hb
          have hS1 : Below w12.heap.size w12 X44 := HDW.out.trans (h1.below.mono (by rw [HDZ.out]; exact Nat.le_refl _))
          refine hK.out _ _ hS1 (fun hSn => ?_)
          clear hK K hSn; (try simp only [Act.put, sI, sZ, sS])
          clear O hg hb hb0
          clear h hS
          have h := h1
          have hS := hS1
          clear h1 hS1
          refine wpAnyH_ready (rs := [7]) (by kernel_rfl) (by simp) ?_
          refine AllReadyH.cons (o := ⟨some 73, _, _, _, _, _⟩) rfl (fun K hK => ?_) AllReadyH.nil
          · rw [if_pos (by rfl)]
            go_simp
            have h1 := h.alloc HP.out (.cells #[.string nm, .int .i8 tk, .int .i64 tn, .string ts_, .string tt_, .slice tA tm tc] 65)
            have hS1 := hS.alloc hS.size (.cells #[.string nm, .int .i8 tk, .int .i64 tn, .string ts_, .string tt_, .slice tA tm tc] 65)
            obtain ⟨g7, hg⟩ : ∃ g, g = X44.heap.size := ⟨_, rfl⟩
            rw [← hg] at h1
            refine hK.out _ _ hS1 (fun hSn => ?_)
            clear hK K hSn; (try simp only [Act.put, sI, sZ, sS])
            rw [← hg]
            clear hg
            generalize X44.alloc (.cells #[.string nm, .int .i8 tk, .int .i64 tn, .string ts_, .string tt_, .slice tA tm tc] 65) = X45 at h1 hS1 ⊢
            clear h hS
            have h := h1
            have hS := hS1
            clear h1 hS1
            refine wpAnyH_ready (rs := [8]) (by kernel_rfl) (by simp) ?_
            refine AllReadyH.cons (o := ⟨some 74, _, _, _, _, _⟩) rfl (fun K hK => ?_) AllReadyH.nil
            · rw [if_pos (by rfl)]
              have hb0 := h.below
              refine wp_own_binds (ys := [(nm, t)]) (.tmp 69) (.tmp 73) rfl h.own hb0.size (h.apart HP.out) rfl rfl (RowB.one (h.kept (g7, .cells #[.string nm, .int .i8 tk, .int .i64 tn, .string ts_, .string tt_, .slice tA tm tc] 65 (0, 0)) (by simp)).2.1 HNM.out (HTF.out.keep (fun b hb => hb0.block b (HP.out b hb)) (fun _ h => h))) (by have := HL.out; rw [HL3.out]; simp; omega) ?_
              intro v1 X46 O hg hb
              rw [← HL9.out] at O
              have h1 := h.app O hg hb
              obtain ⟨A5, cap5, rfl⟩ := O.shape
              have hS1 : Below w12.heap.size w12 X46 := HDW.out.trans (h1.below.mono (by rw [HDZ.out]; exact Nat.le_refl _))
              refine hK.out _ _ hS1 (fun hSn => ?_)
              clear hK K hSn; (try simp only [Act.put, sI, sZ, sS])
              clear O hg hb hb0
              clear h hS
              have h := h1
              have hS := hS1
              clear h1 hS1
              refine wpAnyH_ready (rs := [9]) (by kernel_rfl) (by simp) ?_
              refine AllReadyH.cons (o := ⟨some 75, _, _, _, _, _⟩) rfl (fun K hK => ?_) AllReadyH.nil
              · rw [if_pos (by rfl)]
                go_simp
                refine (Value_in D.heap.size X46.heap.size L9 (vaN nm) _ A5 L9.length cap5 X46 (.leaf _ _ 5 0 nm (by decide) (by decide) HNM.out) (h.own.brt HP.out h.below.size) (Nat.le_refl _) (va_nodes nm) (HED.out.under h.below).env).mono ?_
                rintro e X47 ⟨k9, n9, s9, t9, A9, m9, c9, rfl, hv, b5⟩
                have h1 := h.under HP.out b5
                have hS1 := hS.trans (b5.mono hS.size)
                rw [HEV9.out.1]
                rw [HEV9.out.2] at hv
                have z1 := h.below.size
                have z2 := b5.size
                have q1 : D.heap.size ≤ g9 := (h.kept (g9, .cells #[.int .i8 0, .int .i64 0, .string ⟨#[]⟩, .string ⟨#[]⟩, .slice none 0 0] 48 (0, 0)) (by simp)).1
                have q2 : g9 < X46.heap.size := heap_lt (h.kept (g9, .cells #[.int .i8 0, .int .i64 0, .string ⟨#[]⟩, .string ⟨#[]⟩, .slice none 0 0] 48 (0, 0)) (by simp)).2.1
                have hvt : TmAt (fun b => b < X47.heap.size ∧ b ≠ g9) X47 ((fo.getD t)) (.agg #[.int .i8 k9, .int .i64 n9, .string s9, .string t9, .slice A9 m9 c9]) := hv.mono (fun b hb => by rcases hb with hb | hb <;> exact ⟨by omega, by omega⟩)
                clear q1 q2
                clear hv b5 z1 z2
                refine hK.out _ _ hS1 (fun hSn => ?_)
                clear hK K hSn; (try simp only [Act.put, sI, sZ, sS])
                clear h hS
                have h := h1
                have hS := hS1
                clear h1 hS1
                refine wpAnyH_take (i := 10) (oi := ⟨some 65, _, _, _, _, _⟩) (v := ?_) rfl (by kernel_rfl) (by kernel_rfl) (by kernel_rfl) (fun _ _ _ h => h) (Or.inl ⟨by kernel_rfl, ?_⟩) (by assumption) ?_; rotate_left; (intro VV hSw; (try dsimp only at hSw); go_simp; first | done | with_reducible rfl); (try simp only [Act.put, sI, sZ, sS])
                refine wpAnyH_take (i := 11) (oi := ⟨some 76, _, _, _, _, _⟩) (v := ?_) rfl (by kernel_rfl) (by kernel_rfl) (by kernel_rfl) (fun _ _ _ h => h) (Or.inl ⟨by kernel_rfl, ?_⟩) (by assumption) ?_; rotate_left; (intro VV hSw; (try dsimp only at hSw); go_simp; first | done | with_reducible rfl); (try simp only [Act.put, sI, sZ, sS])
                refine wpAnyH_take (i := 12) (oi := ⟨some 77, _, _, _, _, _⟩) (v := ?_) rfl (by kernel_rfl) (by kernel_rfl) (by kernel_rfl) (fun _ _ _ h => h) (Or.inl ⟨by kernel_rfl, ?_⟩) (by assumption) ?_; rotate_left; (intro VV hSw; (try dsimp only at hSw); go_simp; first | done | with_reducible rfl); (try simp only [Act.put, sI, sZ, sS])
                obtain ⟨gge, gz, gne⟩ := h.kept (g9, .cells #[.int .i8 0, .int .i64 0, .string ⟨#[]⟩, .string ⟨#[]⟩, .slice none 0 0] 48 (0, 0)) (by simp)
                have gg2 : w12.heap.size ≤ g9 := by have := HDZ.out; have g3 : D.heap.size ≤ g9 := gge; omega
                obtain ⟨⟨z0, z1, z2, z3, z4⟩, zf0, zf1, zf2, zf3, zf4⟩ := five_fr gz
                obtain ⟨s5, m5⟩ := set_five (.int .i8 k9) (.int .i64 n9) (.string s9) (.string t9) (.slice A9 m9 c9) gz
                have hVB := vbx_of hS gg2 hvt s5 m5
                have HVB := Lib.hid hVB
                have hS9 := hVB.1
                clear s5 m5 hVB
                refine wpAnyH_ready (rs := [14]) (by kernel_rfl) (by simp) ?_
                refine AllReadyH.cons (o := ⟨none, _, _, _, _, _⟩) rfl (fun K hK => ?_) AllReadyH.nil
                · rw [if_pos (by rfl)]
                  go_simp
                  refine hK.out _ _ hS9 (fun hSn => ?_)
                  clear hK K hSn; (try simp only [Act.put, sI, sZ, sS])
                  refine wpAnyH_take (i := 15) (oi := ⟨some 13, _, _, _, _, _⟩) (v := ?_) rfl (by kernel_rfl) (by kernel_rfl) (by kernel_rfl) (fun _ _ _ h => h) (Or.inl ⟨by kernel_rfl, ?_⟩) (by assumption) ?_; rotate_left; (intro VV hSw; (try dsimp only at hSw); go_simp; first | done | with_reducible rfl); (try simp only [Act.put, sI, sZ, sS])
                  refine wpAnyH_done (by kernel_rfl) ?_ _
                  clear z0 zf0 z1 zf1 z2 zf2 z3 zf3 z4 zf4 gz gge gg2 gne
                  go_wp2_with fail
                  go_meet
                  exact ⟨g9, rfl, rfl, HVB⟩
        · rw [if_pos (by rfl)]
          go_simp
          have h1 := h.alloc HP.out (.cells #[.string nm, .int .i8 tk, .int .i64 tn, .string ts_, .string tt_, .slice tA tm tc] 65)
          have hS1 := hS.alloc hS.size (.cells #[.string nm, .int .i8 tk, .int .i64 tn, .string ts_, .string tt_, .slice tA tm tc] 65)
          obtain ⟨g7, hg⟩ : ∃ g, g = X43.heap.size := ⟨_, rfl⟩
          rw [← hg] at h1
          refine hK.out _ _ hS1 (fun hSn => ?_)
          clear hK K hSn; (try simp only [Act.put, sI, sZ, sS])
          rw [← hg]
          clear hg
          generalize X43.alloc (.cells #[.string nm, .int .i8 tk, .int .i64 tn, .string ts_, .string tt_, .slice tA tm tc] 65) = X48 at h1 hS1 ⊢
          clear h hS
          have h := h1
          have hS := hS1
          clear h1 hS1
          refine wpAnyH_ready (rs := [3]) (by kernel_rfl) (by simp) ?_
          refine AllReadyH.cons (o := ⟨some 69, _, _, _, _, _⟩) rfl (fun K hK => ?_) AllReadyH.nil
          · rw [if_pos (by rfl)]
            have hb0 := h.below
            refine wp_own_binds (ys := l) (.tmp 67) (.tmp 68) rfl h.own hb0.size (h.apart HP.out) rfl rfl (((HLB.out.keep (Q := P) (fun b hb => hb0.block b (HP.out b hb)) (fun _ h => h)).rowB)) (by have := HL.out; show 0 + _ ≤ _; omega) ?_
            intro v1 X49 O hg hb
            rw [← HL3.out] at O
            have h1 := h.app O hg hb
            have hS1 : Below w12.heap.size w12 X49 := HDW.out.trans (h1.below.mono (by rw [HDZ.out]; exact Nat.le_refl _))
            refine hK.out _ _ hS1 (fun hSn => ?_)
            clear hK K hSn; (try simp only [Act.put, sI, sZ, sS])
            clear O hg hb hb0
            clear h hS
            have h := h1
            have hS := hS1
            clear h1 hS1
            refine wpAnyH_ready (rs := [8]) (by kernel_rfl) (by simp) ?_
            refine AllReadyH.cons (o := ⟨some 74, _, _, _, _, _⟩) rfl (fun K hK => ?_) AllReadyH.nil
            · rw [if_pos (by rfl)]
              have hb0 := h.below
              refine wp_own_binds (ys := [(nm, t)]) (.tmp 69) (.tmp 73) rfl h.own hb0.size (h.apart HP.out) rfl rfl (RowB.one (h.kept (g7, .cells #[.string nm, .int .i8 tk, .int .i64 tn, .string ts_, .string tt_, .slice tA tm tc] 65 (0, 0)) (by simp)).2.1 HNM.out (HTF.out.keep (fun b hb => hb0.block b (HP.out b hb)) (fun _ h => h))) (by have := HL.out; rw [HL3.out]; simp; omega) ?_
              intro v1 X50 O hg hb
              rw [← HL9.out] at O
              have h1 := h.app O hg hb
              obtain ⟨A5, cap5, rfl⟩ := O.shape
              have hS1 : Below w12.heap.size w12 X50 := HDW.out.trans (h1.below.mono (by rw [HDZ.out]; exact Nat.le_refl _))
              refine hK.out _ _ hS1 (fun hSn => ?_)
              clear hK K hSn; (try simp only [Act.put, sI, sZ, sS])
              clear O hg hb hb0
              clear h hS
              have h := h1
              have hS := hS1
              clear h1 hS1
              refine wpAnyH_ready (rs := [9]) (by kernel_rfl) (by simp) ?_
              refine AllReadyH.cons (o := ⟨some 75, _, _, _, _, _⟩) rfl (fun K hK => ?_) AllReadyH.nil
              · rw [if_pos (by rfl)]
                go_simp
                refine (Value_in D.heap.size X50.heap.size L9 (vaN nm) _ A5 L9.length cap5 X50 (.leaf _ _ 5 0 nm (by decide) (by decide) HNM.out) (h.own.brt HP.out h.below.size) (Nat.le_refl _) (va_nodes nm) (HED.out.under h.below).env).mono ?_
                rintro e X51 ⟨k9, n9, s9, t9, A9, m9, c9, rfl, hv, b5⟩
                have h1 := h.under HP.out b5
                have hS1 := hS.trans (b5.mono hS.size)
                rw [HEV9.out.1]
                rw [HEV9.out.2] at hv
                have z1 := h.below.size
                have z2 := b5.size
                have q1 : D.heap.size ≤ g9 := (h.kept (g9, .cells #[.int .i8 0, .int .i64 0, .string ⟨#[]⟩, .string ⟨#[]⟩, .slice none 0 0] 48 (0, 0)) (by simp)).1
                have q2 : g9 < X50.heap.size := heap_lt (h.kept (g9, .cells #[.int .i8 0, .int .i64 0, .string ⟨#[]⟩, .string ⟨#[]⟩, .slice none 0 0] 48 (0, 0)) (by simp)).2.1
                have hvt : TmAt (fun b => b < X51.heap.size ∧ b ≠ g9) X51 ((fo.getD t)) (.agg #[.int .i8 k9, .int .i64 n9, .string s9, .string t9, .slice A9 m9 c9]) := hv.mono (fun b hb => by rcases hb with hb | hb <;> exact ⟨by omega, by omega⟩)
                clear q1 q2
                clear hv b5 z1 z2
                refine hK.out _ _ hS1 (fun hSn => ?_)
                clear hK K hSn; (try simp only [Act.put, sI, sZ, sS])
                clear h hS
                have h := h1
                have hS := hS1
                clear h1 hS1
                refine wpAnyH_take (i := 10) (oi := ⟨some 65, _, _, _, _, _⟩) (v := ?_) rfl (by kernel_rfl) (by kernel_rfl) (by kernel_rfl) (fun _ _ _ h => h) (Or.inl ⟨by kernel_rfl, ?_⟩) (by assumption) ?_; rotate_left; (intro VV hSw; (try dsimp only at hSw); go_simp; first | done | with_reducible rfl); (try simp only [Act.put, sI, sZ, sS])
                refine wpAnyH_take (i := 11) (oi := ⟨some 76, _, _, _, _, _⟩) (v := ?_) rfl (by kernel_rfl) (by kernel_rfl) (by kernel_rfl) (fun _ _ _ h => h) (Or.inl ⟨by kernel_rfl, ?_⟩) (by assumption) ?_; rotate_left; (intro VV hSw; (try dsimp only at hSw); go_simp; first | done | with_reducible rfl); (try simp only [Act.put, sI, sZ, sS])
                refine wpAnyH_take (i := 12) (oi := ⟨some 77, _, _, _, _, _⟩) (v := ?_) rfl (by kernel_rfl) (by kernel_rfl) (by kernel_rfl) (fun _ _ _ h => h) (Or.inl ⟨by kernel_rfl, ?_⟩) (by assumption) ?_; rotate_left; (intro VV hSw; (try dsimp only at hSw); go_simp; first | done | with_reducible rfl); (try simp only [Act.put, sI, sZ, sS])
                obtain ⟨gge, gz, gne⟩ := h.kept (g9, .cells #[.int .i8 0, .int .i64 0, .string ⟨#[]⟩, .string ⟨#[]⟩, .slice none 0 0] 48 (0, 0)) (by simp)
                have gg2 : w12.heap.size ≤ g9 := by have := HDZ.out; have g3 : D.heap.size ≤ g9 := gge; omega
                obtain ⟨⟨z0, z1, z2, z3, z4⟩, zf0, zf1, zf2, zf3, zf4⟩ := five_fr gz
                obtain ⟨s5, m5⟩ := set_five (.int .i8 k9) (.int .i64 n9) (.string s9) (.string t9) (.slice A9 m9 c9) gz
                have hVB := vbx_of hS gg2 hvt s5 m5
                have HVB := Lib.hid hVB
                have hS9 := hVB.1
                clear s5 m5 hVB
                refine wpAnyH_ready (rs := [14]) (by kernel_rfl) (by simp) ?_
                refine AllReadyH.cons (o := ⟨none, _, _, _, _, _⟩) rfl (fun K hK => ?_) AllReadyH.nil
                · rw [if_pos (by rfl)]
                  go_simp
                  refine hK.out _ _ hS9 (fun hSn => ?_)
                  clear hK K hSn; (try simp only [Act.put, sI, sZ, sS])
                  refine wpAnyH_take (i := 15) (oi := ⟨some 13, _, _, _, _, _⟩) (v := ?_) rfl (by kernel_rfl) (by kernel_rfl) (by kernel_rfl) (fun _ _ _ h => h) (Or.inl ⟨by kernel_rfl, ?_⟩) (by assumption) ?_; rotate_left; (intro VV hSw; (try dsimp only at hSw); go_simp; first | done | with_reducible rfl); (try simp only [Act.put, sI, sZ, sS])
                  refine wpAnyH_done (by kernel_rfl) ?_ _
                  clear z0 zf0 z1 zf1 z2 zf2 z3 zf3 z4 zf4 gz gge gg2 gne
                  go_wp2_with fail
                  go_meet
                  exact ⟨g9, rfl, rfl, HVB⟩
    · rw [if_pos (by rfl)]
      go_simp
      have h1 := h.alloc HP.out (.cells #[.string nm, .int .i8 tk, .int .i64 tn, .string ts_, .string tt_, .slice tA tm tc] 65)
      have hS1 := hS.alloc hS.size (.cells #[.string nm, .int .i8 tk, .int .i64 tn, .string ts_, .string tt_, .slice tA tm tc] 65)
      obtain ⟨g7, hg⟩ : ∃ g, g = D.heap.size := ⟨_, rfl⟩
      rw [← hg] at h1
      refine hK.out _ _ hS1 (fun hSn => ?_)
      clear hK K hSn; (try simp only [Act.put, sI, sZ, sS])
      rw [← hg]
      clear hg
      generalize D.alloc (.cells #[.string nm, .int .i8 tk, .int .i64 tn, .string ts_, .string tt_, .slice tA tm tc] 65) = X52 at h1 hS1 ⊢
      clear h hS
      have h := h1
      have hS := hS1
      clear h1 hS1
      refine wpAnyH_ready (rs := [1, 13]) (by kernel_rfl) (by simp) ?_
      refine AllReadyH.cons (o := ⟨some 67, _, _, _, _, _⟩) rfl (fun K hK => ?_) (AllReadyH.cons (o := ⟨some 12, _, _, _, _, _⟩) rfl (fun K hK => ?_) AllReadyH.nil)
      · rw [if_pos (by rfl)]
        go_simp
        have h1 := h.fresh HP.out
        have hS1 := hS.alloc hS.size (.cells #[] 65)
        obtain ⟨gb, hg⟩ : ∃ g, g = X52.heap.size := ⟨_, rfl⟩
        rw [← hg] at h1
        refine hK.out _ _ hS1 (fun hSn => ?_)
        clear hK K hSn; (try simp only [Act.put, sI, sZ, sS])
        rw [← hg]
        clear hg
        generalize X52.alloc (.cells #[] 65) = X53 at h1 hS1 ⊢
        clear h hS
        have h := h1
        have hS := hS1
        clear h1 hS1
        refine wpAnyH_ready (rs := [3, 13]) (by kernel_rfl) (by simp) ?_
        refine AllReadyH.cons (o := ⟨some 69, _, _, _, _, _⟩) rfl (fun K hK => ?_) (AllReadyH.cons (o := ⟨some 12, _, _, _, _, _⟩) rfl (fun K hK => ?_) AllReadyH.nil)
        · rw [if_pos (by rfl)]
          have hb0 := h.below
          refine wp_own_binds (ys := l) (.tmp 67) (.tmp 68) rfl h.own hb0.size (h.apart HP.out) rfl rfl (((HLB.out.keep (Q := P) (fun b hb => hb0.block b (HP.out b hb)) (fun _ h => h)).rowB)) (by have := HL.out; show 0 + _ ≤ _; omega) ?_
          intro v1 X54 O hg hb
          rw [← HL3.out] at O
          have h1 := h.app O hg hb
          have hS1 : Below w12.heap.size w12 X54 := HDW.out.trans (h1.below.mono (by rw [HDZ.out]; exact Nat.le_refl _))
          refine hK.out _ _ hS1 (fun hSn => ?_)
          clear hK K hSn; (try simp only [Act.put, sI, sZ, sS])
          clear O hg hb hb0
          clear h hS
          have h := h1
          have hS := hS1
          clear h1 hS1
          refine wpAnyH_ready (rs := [8, 13]) (by kernel_rfl) (by simp) ?_
          refine AllReadyH.cons (o := ⟨some 74, _, _, _, _, _⟩) rfl (fun K hK => ?_) (AllReadyH.cons (o := ⟨some 12, _, _, _, _, _⟩) rfl (fun K hK => ?_) AllReadyH.nil)
          · rw [if_pos (by rfl)]
            have hb0 := h.below
            refine wp_own_binds (ys := [(nm, t)]) (.tmp 69) (.tmp 73) rfl h.own hb0.size (h.apart HP.out) rfl rfl (RowB.one (h.kept (g7, .cells #[.string nm, .int .i8 tk, .int .i64 tn, .string ts_, .string tt_, .slice tA tm tc] 65 (0, 0)) (by simp)).2.1 HNM.out (HTF.out.keep (fun b hb => hb0.block b (HP.out b hb)) (fun _ h => h))) (by have := HL.out; rw [HL3.out]; simp; omega) ?_
            intro v1 X55 O hg hb
            rw [← HL9.out] at O
            have h1 := h.app O hg hb
            obtain ⟨A5, cap5, rfl⟩ := O.shape
            have hS1 : Below w12.heap.size w12 X55 := HDW.out.trans (h1.below.mono (by rw [HDZ.out]; exact Nat.le_refl _))
            refine hK.out _ _ hS1 (fun hSn => ?_)
            clear hK K hSn; (try simp only [Act.put, sI, sZ, sS])
            clear O hg hb hb0
            clear h hS
            have h := h1
            have hS := hS1
            clear h1 hS1
            refine wpAnyH_ready (rs := [9, 13]) (by kernel_rfl) (by simp) ?_
            refine AllReadyH.cons (o := ⟨some 75, _, _, _, _, _⟩) rfl (fun K hK => ?_) (AllReadyH.cons (o := ⟨some 12, _, _, _, _, _⟩) rfl (fun K hK => ?_) AllReadyH.nil)
            · rw [if_pos (by rfl)]
              go_simp
              refine (Value_in D.heap.size X55.heap.size L9 (vaN nm) _ A5 L9.length cap5 X55 (.leaf _ _ 5 0 nm (by decide) (by decide) HNM.out) (h.own.brt HP.out h.below.size) (Nat.le_refl _) (va_nodes nm) (HED.out.under h.below).env).mono ?_
              rintro e X56 ⟨k9, n9, s9, t9, A9, m9, c9, rfl, hv, b5⟩
              have h1 := h.under HP.out b5
              have hS1 := hS.trans (b5.mono hS.size)
              rw [HEV9.out.1]
              rw [HEV9.out.2] at hv
              have z1 := h.below.size
              have z2 := b5.size
              have hvt : TmAt (· < X56.heap.size) X56 ((fo.getD t)) (.agg #[.int .i8 k9, .int .i64 n9, .string s9, .string t9, .slice A9 m9 c9]) := hv.mono (fun b hb => by rcases hb with hb | hb <;> omega)
              clear hv b5 z1 z2
              refine hK.out _ _ hS1 (fun hSn => ?_)
              clear hK K hSn; (try simp only [Act.put, sI, sZ, sS])
              clear h hS
              have h := h1
              have hS := hS1
              clear h1 hS1
              refine wpAnyH_take (i := 10) (oi := ⟨some 65, _, _, _, _, _⟩) (v := ?_) rfl (by kernel_rfl) (by kernel_rfl) (by kernel_rfl) (fun _ _ _ h => h) (Or.inl ⟨by kernel_rfl, ?_⟩) (by assumption) ?_; rotate_left; (intro VV hSw; (try dsimp only at hSw); go_simp; first | done | with_reducible rfl); (try simp only [Act.put, sI, sZ, sS])
              refine wpAnyH_take (i := 11) (oi := ⟨some 76, _, _, _, _, _⟩) (v := ?_) rfl (by kernel_rfl) (by kernel_rfl) (by kernel_rfl) (fun _ _ _ h => h) (Or.inl ⟨by kernel_rfl, ?_⟩) (by assumption) ?_; rotate_left; (intro VV hSw; (try dsimp only at hSw); go_simp; first | done | with_reducible rfl); (try simp only [Act.put, sI, sZ, sS])
              refine wpAnyH_take (i := 12) (oi := ⟨some 77, _, _, _, _, _⟩) (v := ?_) rfl (by kernel_rfl) (by kernel_rfl) (by kernel_rfl) (fun _ _ _ h => h) (Or.inl ⟨by kernel_rfl, ?_⟩) (by assumption) ?_; rotate_left; (intro VV hSw; (try dsimp only at hSw); go_simp; first | done | with_reducible rfl); (try simp only [Act.put, sI, sZ, sS])
              refine wpAnyH_ready (rs := [13]) (by kernel_rfl) (by simp) ?_
              refine AllReadyH.cons (o := ⟨some 12, _, _, _, _, _⟩) rfl (fun K hK => ?_) AllReadyH.nil
              · rw [if_pos (by rfl)]
                go_simp
                have h1 := h.alloc HP.out (.cells #[.int .i8 0, .int .i64 0, .string ⟨#[]⟩, .string ⟨#[]⟩, .slice none 0 0] 48)
                have hS1 := hS.alloc hS.size (.cells #[.int .i8 0, .int .i64 0, .string ⟨#[]⟩, .string ⟨#[]⟩, .slice none 0 0] 48)
                have ba := Below.heap_alloc X56 (.cells #[.int .i8 0, .int .i64 0, .string ⟨#[]⟩, .string ⟨#[]⟩, .slice none 0 0] 48)
                have hv1 := hvt.keep (Q := fun b => b < (X56.alloc (.cells #[.int .i8 0, .int .i64 0, .string ⟨#[]⟩, .string ⟨#[]⟩, .slice none 0 0] 48)).heap.size ∧ b ≠ X56.heap.size) (fun b hb => ba b hb) (fun b (hb : b < _) => ⟨by rw [World.size_alloc]; omega, by omega⟩)
                clear hvt ba
                obtain ⟨g9, hg⟩ : ∃ g, g = X56.heap.size := ⟨_, rfl⟩
                rw [← hg] at h1 hv1
                refine hK.out _ _ hS1 (fun hSn => ?_)
                clear hK K hSn; (try simp only [Act.put, sI, sZ, sS])
                rw [← hg]
                clear hg
                generalize X56.alloc (.cells #[.int .i8 0, .int .i64 0, .string ⟨#[]⟩, .string ⟨#[]⟩, .slice none 0 0] 48) = X57 at h1 hS1 hv1 ⊢
                clear h hS
                have h := h1
                have hS := hS1
                clear h1 hS1
                have hvt := hv1
                clear hv1
                obtain ⟨gge, gz, gne⟩ := h.kept (g9, .cells #[.int .i8 0, .int .i64 0, .string ⟨#[]⟩, .string ⟨#[]⟩, .slice none 0 0] 48 (0, 0)) (by simp)
                have gg2 : w12.heap.size ≤ g9 := by have := HDZ.out; have g3 : D.heap.size ≤ g9 := gge; omega
                obtain ⟨⟨z0, z1, z2, z3, z4⟩, zf0, zf1, zf2, zf3, zf4⟩ := five_fr gz
                obtain ⟨s5, m5⟩ := set_five (.int .i8 k9) (.int .i64 n9) (.string s9) (.string t9) (.slice A9 m9 c9) gz
                have hVB := vbx_of hS gg2 hvt s5 m5
                have HVB := Lib.hid hVB
                have hS9 := hVB.1
                clear s5 m5 hVB
                refine wpAnyH_ready (rs := [14]) (by kernel_rfl) (by simp) ?_
                refine AllReadyH.cons (o := ⟨none, _, _, _, _, _⟩) rfl (fun K hK => ?_) AllReadyH.nil
                · rw [if_pos (by rfl)]
                  go_simp
                  refine hK.out _ _ hS9 (fun hSn => ?_)
                  clear hK K hSn; (try simp only [Act.put, sI, sZ, sS])
                  refine wpAnyH_take (i := 15) (oi := ⟨some 13, _, _, _, _, _⟩) (v := ?_) rfl (by kernel_rfl) (by kernel_rfl) (by kernel_rfl) (fun _ _ _ h => h) (Or.inl ⟨by kernel_rfl, ?_⟩) (by assumption) ?_; rotate_left; (intro VV hSw; (try dsimp only at hSw); go_simp; first | done | with_reducible rfl); (try simp only [Act.put, sI, sZ, sS])
                  refine wpAnyH_done (by kernel_rfl) ?_ _
                  clear z0 zf0 z1 zf1 z2 zf2 z3 zf3 z4 zf4 gz gge gg2 gne
                  go_wp2_with fail
                  go_meet
                  exact ⟨g9, rfl, rfl, HVB⟩
            · rw [if_pos (by rfl)]
              go_simp
              have h1 := h.alloc HP.out (.cells #[.int .i8 0, .int .i64 0, .string ⟨#[]⟩, .string ⟨#[]⟩, .slice none 0 0] 48)
              have hS1 := hS.alloc hS.size (.cells #[.int .i8 0, .int .i64 0, .string ⟨#[]⟩, .string ⟨#[]⟩, .slice none 0 0] 48)
              obtain ⟨g9, hg⟩ : ∃ g, g = X55.heap.size := ⟨_, rfl⟩
              rw [← hg] at h1
              refine hK.out _ _ hS1 (fun hSn => ?_)
              clear hK K hSn; (try simp only [Act.put, sI, sZ, sS])
              rw [← hg]
              clear hg
              generalize X55.alloc (.cells #[.int .i8 0, .int .i64 0, .string ⟨#[]⟩, .string ⟨#[]⟩, .slice none 0 0] 48) = X58 at h1 hS1 ⊢
              clear h hS
              have h := h1
              have hS := hS1
              clear h1 hS1
              refine wpAnyH_ready (rs := [9]) (by kernel_rfl) (by simp) ?_
              refine AllReadyH.cons (o := ⟨some 75, _, _, _, _, _⟩) rfl (fun K hK => ?_) AllReadyH.nil
              · rw [if_pos (by rfl)]
                go_simp
                refine (Value_in D.heap.size X58.heap.size L9 (vaN nm) _ A5 L9.length cap5 X58 (.leaf _ _ 5 0 nm (by decide) (by decide) HNM.out) (h.own.brt HP.out h.below.size) (Nat.le_refl _) (va_nodes nm) (HED.out.under h.below).env).mono ?_
                rintro e X59 ⟨k9, n9, s9, t9, A9, m9, c9, rfl, hv, b5⟩
                have h1 := h.under HP.out b5
                have hS1 := hS.trans (b5.mono hS.size)
                rw [HEV9.out.1]
                rw [HEV9.out.2] at hv
                have z1 := h.below.size
                have z2 := b5.size
                have q1 : D.heap.size ≤ g9 := (h.kept (g9, .cells #[.int .i8 0, .int .i64 0, .string ⟨#[]⟩, .string ⟨#[]⟩, .slice none 0 0] 48 (0, 0)) (by simp)).1
                have q2 : g9 < X58.heap.size := heap_lt (h.kept (g9, .cells #[.int .i8 0, .int .i64 0, .string ⟨#[]⟩, .string ⟨#[]⟩, .slice none 0 0] 48 (0, 0)) (by simp)).2.1
                have hvt : TmAt (fun b => b < X59.heap.size ∧ b ≠ g9) X59 ((fo.getD t)) (.agg #[.int .i8 k9, .int .i64 n9, .string s9, .string t9, .slice A9 m9 c9]) := hv.mono (fun b hb => by rcases hb with hb | hb <;> exact ⟨by omega, by omega⟩)
                clear q1 q2
                clear hv b5 z1 z2
                refine hK.out _ _ hS1 (fun hSn => ?_)
                clear hK K hSn; (try simp only [Act.put, sI, sZ, sS])
                clear h hS
                have h := h1
                have hS := hS1
                clear h1 hS1
                refine wpAnyH_take (i := 10) (oi := ⟨some 65, _, _, _, _, _⟩) (v := ?_) rfl (by kernel_rfl) (by kernel_rfl) (by kernel_rfl) (fun _ _ _ h => h) (Or.inl ⟨by kernel_rfl, ?_⟩) (by assumption) ?_; rotate_left; (intro VV hSw; (try dsimp only at hSw); go_simp; first | done | with_reducible rfl); (try simp only [Act.put, sI, sZ, sS])
                refine wpAnyH_take (i := 11) (oi := ⟨some 76, _, _, _, _, _⟩) (v := ?_) rfl (by kernel_rfl) (by kernel_rfl) (by kernel_rfl) (fun _ _ _ h => h) (Or.inl ⟨by kernel_rfl, ?_⟩) (by assumption) ?_; rotate_left; (intro VV hSw; (try dsimp only at hSw); go_simp; first | done | with_reducible rfl); (try simp only [Act.put, sI, sZ, sS])
                refine wpAnyH_take (i := 12) (oi := ⟨some 77, _, _, _, _, _⟩) (v := ?_) rfl (by kernel_rfl) (by kernel_rfl) (by kernel_rfl) (fun _ _ _ h => h) (Or.inl ⟨by kernel_rfl, ?_⟩) (by assumption) ?_; rotate_left; (intro VV hSw; (try dsimp only at hSw); go_simp; first | done | with_reducible rfl); (try simp only [Act.put, sI, sZ, sS])
                obtain ⟨gge, gz, gne⟩ := h.kept (g9, .cells #[.int .i8 0, .int .i64 0, .string ⟨#[]⟩, .string ⟨#[]⟩, .slice none 0 0] 48 (0, 0)) (by simp)
                have gg2 : w12.heap.size ≤ g9 := by have := HDZ.out; have g3 : D.heap.size ≤ g9 := gge; omega
                obtain ⟨⟨z0, z1, z2, z3, z4⟩, zf0, zf1, zf2, zf3, zf4⟩ := five_fr gz
                obtain ⟨s5, m5⟩ := set_five (.int .i8 k9) (.int .i64 n9) (.string s9) (.string t9) (.slice A9 m9 c9) gz
                have hVB := vbx_of hS gg2 hvt s5 m5
                have HVB := Lib.hid hVB
                have hS9 := hVB.1
                clear s5 m5 hVB
                refine wpAnyH_ready (rs := [14]) (by kernel_rfl) (by simp) ?_
                refine AllReadyH.cons (o := ⟨none, _, _, _, _, _⟩) rfl (fun K hK => ?_) AllReadyH.nil
                · rw [if_pos (by rfl)]
                  go_simp
                  refine hK.out _ _ hS9 (fun hSn => ?_)
                  clear hK K hSn; (try simp only [Act.put, sI, sZ, sS])
                  refine wpAnyH_take (i := 15) (oi := ⟨some 13, _, _, _, _, _⟩) (v := ?_) rfl (by kernel_rfl) (by kernel_rfl) (by kernel_rfl) (fun _ _ _ h => h) (Or.inl ⟨by kernel_rfl, ?_⟩) (by assumption) ?_; rotate_left; (intro VV hSw; (try dsimp only at hSw); go_simp; first | done | with_reducible rfl); (try simp only [Act.put, sI, sZ, sS])
                  refine wpAnyH_done (by kernel_rfl) ?_ _
                  clear z0 zf0 z1 zf1 z2 zf2 z3 zf3 z4 zf4 gz gge gg2 gne
                  go_wp2_with fail
                  go_meet
                  exact ⟨g9, rfl, rfl, HVB⟩
          · rw [if_pos (by rfl)]
            go_simp
            have h1 := h.alloc HP.out (.cells #[.int .i8 0, .int .i64 0, .string ⟨#[]⟩, .string ⟨#[]⟩, .slice none 0 0] 48)
            have hS1 := hS.alloc hS.size (.cells #[.int .i8 0, .int .i64 0, .string ⟨#[]⟩, .string ⟨#[]⟩, .slice none 0 0] 48)
            obtain ⟨g9, hg⟩ : ∃ g, g = X54.heap.size := ⟨_, rfl⟩
            rw [← hg] at h1
            refine hK.out _ _ hS1 (fun hSn => ?_)
            clear hK K hSn; (try simp only [Act.put, sI, sZ, sS])
            rw [← hg]
            clear hg
            generalize X54.alloc (.cells #[.int .i8 0, .int .i64 0, .string ⟨#[]⟩, .string ⟨#[]⟩, .slice none 0 0] 48) = X60 at h1 hS1 ⊢
            clear h hS
            have h := h1
            have hS := hS1
            clear h1 hS1
            refine wpAnyH_ready (rs := [8]) (by kernel_rfl) (by simp) ?_
            refine AllReadyH.cons (o := ⟨some 74, _, _, _, _, _⟩) rfl (fun K hK => ?_) AllReadyH.nil
            · rw [if_pos (by rfl)]
              have hb0 := h.below
              refine wp_own_binds (ys := [(nm, t)]) (.tmp 69) (.tmp 73) rfl h.own hb0.size (h.apart HP.out) rfl rfl (RowB.one (h.kept (g7, .cells #[.string nm, .int .i8 tk, .int .i64 tn, .string ts_, .string tt_, .slice tA tm tc] 65 (0, 0)) (by simp)).2.1 HNM.out (HTF.out.keep (fun b hb => hb0.block b (HP.out b hb)) (fun _ h => h))) (by have := HL.out; rw [HL3.out]; simp; omega) ?_
              intro v1 X61 O hg hb
              rw [← HL9.out] at O
              have h1 := h.app O hg hb
              obtain ⟨A5, cap5, rfl⟩ := O.shape
              have hS1 : Below w12.heap.size w12 X61 := HDW.out.trans (h1.below.mono (by rw [HDZ.out]; exact Nat.le_refl _))
              refine hK.out _ _ hS1 (fun hSn => ?_)
              clear hK K hSn; (try simp only [Act.put, sI, sZ, sS])
              clear O hg hb hb0
              clear h hS
              have h := h1
              have hS := hS1
              clear h1 hS1
              refine wpAnyH_ready (rs := [9]) (by kernel_rfl) (by simp) ?_
              refine AllReadyH.cons (o := ⟨some 75, _, _, _, _, _⟩) rfl (fun K hK => ?_) AllReadyH.nil
              · rw [if_pos (by rfl)]
                go_simp
                refine (Value_in D.heap.size X61.heap.size L9 (vaN nm) _ A5 L9.length cap5 X61 (.leaf _ _ 5 0 nm (by decide) (by decide) HNM.out) (h.own.brt HP.out h.below.size) (Nat.le_refl _) (va_nodes nm) (HED.out.under h.below).env).mono ?_
                rintro e X62 ⟨k9, n9, s9, t9, A9, m9, c9, rfl, hv, b5⟩
                have h1 := h.under HP.out b5
                have hS1 := hS.trans (b5.mono hS.size)
                rw [HEV9.out.1]
                rw [HEV9.out.2] at hv
                have z1 := h.below.size
                have z2 := b5.size
                have q1 : D.heap.size ≤ g9 := (h.kept (g9, .cells #[.int .i8 0, .int .i64 0, .string ⟨#[]⟩, .string ⟨#[]⟩, .slice none 0 0] 48 (0, 0)) (by simp)).1
                have q2 : g9 < X61.heap.size := heap_lt (h.kept (g9, .cells #[.int .i8 0, .int .i64 0, .string ⟨#[]⟩, .string ⟨#[]⟩, .slice none 0 0] 48 (0, 0)) (by simp)).2.1
                have hvt : TmAt (fun b => b < X62.heap.size ∧ b ≠ g9) X62 ((fo.getD t)) (.agg #[.int .i8 k9, .int .i64 n9, .string s9, .string t9, .slice A9 m9 c9]) := hv.mono (fun b hb => by rcases hb with hb | hb <;> exact ⟨by omega, by omega⟩)
                clear q1 q2
                clear hv b5 z1 z2
                refine hK.out _ _ hS1 (fun hSn => ?_)
                clear hK K hSn; (try simp only [Act.put, sI, sZ, sS])
                clear h hS
                have h := h1
                have hS := hS1
                clear h1 hS1
                refine wpAnyH_take (i := 10) (oi := ⟨some 65, _, _, _, _, _⟩) (v := ?_) rfl (by kernel_rfl) (by kernel_rfl) (by kernel_rfl) (fun _ _ _ h => h) (Or.inl ⟨by kernel_rfl, ?_⟩) (by assumption) ?_; rotate_left; (intro VV hSw; (try dsimp only at hSw); go_simp; first | done | with_reducible rfl); (try simp only [Act.put, sI, sZ, sS])
                refine wpAnyH_take (i := 11) (oi := ⟨some 76, _, _, _, _, _⟩) (v := ?_) rfl (by kernel_rfl) (by kernel_rfl) (by kernel_rfl) (fun _ _ _ h => h) (Or.inl ⟨by kernel_rfl, ?_⟩) (by assumption) ?_; rotate_left; (intro VV hSw; (try dsimp only at hSw); go_simp; first | done | with_reducible rfl); (try simp only [Act.put, sI, sZ, sS])
                refine wpAnyH_take (i := 12) (oi := ⟨some 77, _, _, _, _, _⟩) (v := ?_) rfl (by kernel_rfl) (by kernel_rfl) (by kernel_rfl) (fun _ _ _ h => h) (Or.inl ⟨by kernel_rfl, ?_⟩) (by assumption) ?_; rotate_left; (intro VV hSw; (try dsimp only at hSw); go_simp; first | done | with_reducible rfl); (try simp only [Act.put, sI, sZ, sS])
                obtain ⟨gge, gz, gne⟩ := h.kept (g9, .cells #[.int .i8 0, .int .i64 0, .string ⟨#[]⟩, .string ⟨#[]⟩, .slice none 0 0] 48 (0, 0)) (by simp)
                have gg2 : w12.heap.size ≤ g9 := by have := HDZ.out; have g3 : D.heap.size ≤ g9 := gge; omega
                obtain ⟨⟨z0, z1, z2, z3, z4⟩, zf0, zf1, zf2, zf3, zf4⟩ := five_fr gz
                obtain ⟨s5, m5⟩ := set_five (.int .i8 k9) (.int .i64 n9) (.string s9) (.string t9) (.slice A9 m9 c9) gz
                have hVB := vbx_of hS gg2 hvt s5 m5
                have HVB := Lib.hid hVB
                have hS9 := hVB.1
                clear s5 m5 hVB
                refine wpAnyH_ready (rs := [14]) (by kernel_rfl) (by simp) ?_
                refine AllReadyH.cons (o := ⟨none, _, _, _, _, _⟩) rfl (fun K hK => ?_) AllReadyH.nil
                · rw [if_pos (by rfl)]
                  go_simp
                  refine hK.out _ _ hS9 (fun hSn => ?_)
                  clear hK K hSn; (try simp only [Act.put, sI, sZ, sS])
                  refine wpAnyH_take (i := 15) (oi := ⟨some 13, _, _, _, _, _⟩) (v := ?_) rfl (by kernel_rfl) (by kernel_rfl) (by kernel_rfl) (fun _ _ _ h => h) (Or.inl ⟨by kernel_rfl, ?_⟩) (by assumption) ?_; rotate_left; (intro VV hSw; (try dsimp only at hSw); go_simp; first | done | with_reducible rfl); (try simp only [Act.put, sI, sZ, sS])
                  refine wpAnyH_done (by kernel_rfl) ?_ _
                  clear z0 zf0 z1 zf1 z2 zf2 z3 zf3 z4 zf4 gz gge gg2 gne
                  go_wp2_with fail
                  go_meet
                  exact ⟨g9, rfl, rfl, HVB⟩
        · rw [if_pos (by rfl)]
          go_simp
          have h1 := h.alloc HP.out (.cells #[.int .i8 0, .int .i64 0, .string ⟨#[]⟩, .string ⟨#[]⟩, .slice none 0 0] 48)
          have hS1 := hS.alloc hS.size (.cells #[.int .i8 0, .int .i64 0, .string ⟨#[]⟩, .string ⟨#[]⟩, .slice none 0 0] 48)
          obtain ⟨g9, hg⟩ : ∃ g, g = X53.heap.size := ⟨_, rfl⟩
          rw [← hg] at h1
          refine hK.out _ _ hS1 (fun hSn => ?_)
          clear hK K hSn; (try simp only [Act.put, sI, sZ, sS])
          rw [← hg]
          clear hg
          generalize X53.alloc (.cells #[.int .i8 0, .int .i64 0, .string ⟨#[]⟩, .string ⟨#[]⟩, .slice none 0 0] 48) = X63 at h1 hS1 ⊢
          clear h hS
          have h := h1
          have hS := hS1
          clear h1 hS1
          refine wpAnyH_ready (rs := [3]) (by kernel_rfl) (by simp) ?_
          refine AllReadyH.cons (o := ⟨some 69, _, _, _, _, _⟩) rfl (fun K hK => ?_) AllReadyH.nil
          · rw [if_pos (by rfl)]
            have hb0 := h.below
            refine wp_own_binds (ys := l) (.tmp 67) (.tmp 68) rfl h.own hb0.size (h.apart HP.out) rfl rfl (((HLB.out.keep (Q := P) (fun b hb => hb0.block b (HP.out b hb)) (fun _ h => h)).rowB)) (by have := HL.out; show 0 + _ ≤ _; omega) ?_
            intro v1 X64 O hg hb
            rw [← HL3.out] at O
            have h1 := h.app O hg hb
            have hS1 : Below w12.heap.size w12 X64 := HDW.out.trans (h1.below.mono (by rw [HDZ.out]; exact Nat.le_refl _))
            refine hK.out _ _ hS1 (fun hSn => ?_)
            clear hK K hSn; (try simp only [Act.put, sI, sZ, sS])
            clear O hg hb hb0
            clear h hS
            have h := h1
            have hS := hS1
            clear h1 hS1
            refine wpAnyH_ready (rs := [8]) (by kernel_rfl) (by simp) ?_
            refine AllReadyH.cons (o := ⟨some 74, _, _, _, _, _⟩) rfl (fun K hK => ?_) AllReadyH.nil
            · rw [if_pos (by rfl)]
              have hb0 := h.below
              refine wp_own_binds (ys := [(nm, t)]) (.tmp 69) (.tmp 73) rfl h.own hb0.size (h.apart HP.out) rfl rfl (RowB.one (h.kept (g7, .cells #[.string nm, .int .i8 tk, .int .i64 tn, .string ts_, .string tt_, .slice tA tm tc] 65 (0, 0)) (by simp)).2.1 HNM.out (HTF.out.keep (fun b hb => hb0.block b (HP.out b hb)) (fun _ h => h))) (by have := HL.out; rw [HL3.out]; simp; omega) ?_
              intro v1 X65 O hg hb
              rw [← HL9.out] at O
              have h1 := h.app O hg hb
              obtain ⟨A5, cap5, rfl⟩ := O.shape
              have hS1 : Below w12.heap.size w12 X65 := HDW.out.trans (h1.below.mono (by rw [HDZ.out]; exact Nat.le_refl _))
              refine hK.out _ _ hS1 (fun hSn => ?_)
              clear hK K hSn; (try simp only [Act.put, sI, sZ, sS])
              clear O hg hb hb0
              clear h hS
              have h := h1
              have hS := hS1
              clear h1 hS1
              refine wpAnyH_ready (rs := [9]) (by kernel_rfl) (by simp) ?_
              refine AllReadyH.cons (o := ⟨some 75, _, _, _, _, _⟩) rfl (fun K hK => ?_) AllReadyH.nil
              · rw [if_pos (by rfl)]
                go_simp
                refine (Value_in D.heap.size X65.heap.size L9 (vaN nm) _ A5 L9.length cap5 X65 (.leaf _ _ 5 0 nm (by decide) (by decide) HNM.out) (h.own.brt HP.out h.below.size) (Nat.le_refl _) (va_nodes nm) (HED.out.under h.below).env).mono ?_
                rintro e X66 ⟨k9, n9, s9, t9, A9, m9, c9, rfl, hv, b5⟩
                have h1 := h.under HP.out b5
                have hS1 := hS.trans (b5.mono hS.size)
                rw [HEV9.out.1]
                rw [HEV9.out.2] at hv
                have z1 := h.below.size
                have z2 := b5.size
                have q1 : D.heap.size ≤ g9 := (h.kept (g9, .cells #[.int .i8 0, .int .i64 0, .string ⟨#[]⟩, .string ⟨#[]⟩, .slice none 0 0] 48 (0, 0)) (by simp)).1
                have q2 : g9 < X65.heap.size := heap_lt (h.kept (g9, .cells #[.int .i8 0, .int .i64 0, .string ⟨#[]⟩, .string ⟨#[]⟩, .slice none 0 0] 48 (0, 0)) (by simp)).2.1
                have hvt : TmAt (fun b => b < X66.heap.size ∧ b ≠ g9) X66 ((fo.getD t)) (.agg #[.int .i8 k9, .int .i64 n9, .string s9, .string t9, .slice A9 m9 c9]) := hv.mono (fun b hb => by rcases hb with hb | hb <;> exact ⟨by omega, by omega⟩)
                clear q1 q2
                clear hv b5 z1 z2
                refine hK.out _ _ hS1 (fun hSn => ?_)
                clear hK K hSn; (try simp only [Act.put, sI, sZ, sS])
                clear h hS
                have h := h1
                have hS := hS1
                clear h1 hS1
                refine wpAnyH_take (i := 10) (oi := ⟨some 65, _, _, _, _, _⟩) (v := ?_) rfl (by kernel_rfl) (by kernel_rfl) (by kernel_rfl) (fun _ _ _ h => h) (Or.inl ⟨by kernel_rfl, ?_⟩) (by assumption) ?_; rotate_left; (intro VV hSw; (try dsimp only at hSw); go_simp; first | done | with_reducible rfl); (try simp only [Act.put, sI, sZ, sS])
                refine wpAnyH_take (i := 11) (oi := ⟨some 76, _, _, _, _, _⟩) (v := ?_) rfl (by kernel_rfl) (by kernel_rfl) (by kernel_rfl) (fun _ _ _ h => h) (Or.inl ⟨by kernel_rfl, ?_⟩) (by assumption) ?_; rotate_left; (intro VV hSw; (try dsimp only at hSw); go_simp; first | done | with_reducible rfl); (try simp only [Act.put, sI, sZ, sS])
                refine wpAnyH_take (i := 12) (oi := ⟨some 77, _, _, _, _, _⟩) (v := ?_) rfl (by kernel_rfl) (by kernel_rfl) (by kernel_rfl) (fun _ _ _ h => h) (Or.inl ⟨by kernel_rfl, ?_⟩) (by assumption) ?_; rotate_left; (intro VV hSw; (try dsimp only at hSw); go_simp; first | done | with_reducible rfl); (try simp only [Act.put, sI, sZ, sS])
                obtain ⟨gge, gz, gne⟩ := h.kept (g9, .cells #[.int .i8 0, .int .i64 0, .string ⟨#[]⟩, .string ⟨#[]⟩, .slice none 0 0] 48 (0, 0)) (by simp)
                have gg2 : w12.heap.size ≤ g9 := by have := HDZ.out; have g3 : D.heap.size ≤ g9 := gge; omega
                obtain ⟨⟨z0, z1, z2, z3, z4⟩, zf0, zf1, zf2, zf3, zf4⟩ := five_fr gz
                obtain ⟨s5, m5⟩ := set_five (.int .i8 k9) (.int .i64 n9) (.string s9) (.string t9) (.slice A9 m9 c9) gz
                have hVB := vbx_of hS gg2 hvt s5 m5
                have HVB := Lib.hid hVB
                have hS9 := hVB.1
                clear s5 m5 hVB
                refine wpAnyH_ready (rs := [14]) (by kernel_rfl) (by simp) ?_
                refine AllReadyH.cons (o := ⟨none, _, _, _, _, _⟩) rfl (fun K hK => ?_) AllReadyH.nil
                · rw [if_pos (by rfl)]
                  go_simp
                  refine hK.out _ _ hS9 (fun hSn => ?_)
                  clear hK K hSn; (try simp only [Act.put, sI, sZ, sS])
                  refine wpAnyH_take (i := 15) (oi := ⟨some 13, _, _, _, _, _⟩) (v := ?_) rfl (by kernel_rfl) (by kernel_rfl) (by kernel_rfl) (fun _ _ _ h => h) (Or.inl ⟨by kernel_rfl, ?_⟩) (by assumption) ?_; rotate_left; (intro VV hSw; (try dsimp only at hSw); go_simp; first | done | with_reducible rfl); (try simp only [Act.put, sI, sZ, sS])
                  refine wpAnyH_done (by kernel_rfl) ?_ _
                  clear z0 zf0 z1 zf1 z2 zf2 z3 zf3 z4 zf4 gz gge gg2 gne
                  go_wp2_with fail
                  go_meet
                  exact ⟨g9, rfl, rfl, HVB⟩
      · rw [if_pos (by rfl)]
        go_simp
        have h1 := h.alloc HP.out (.cells #[.int .i8 0, .int .i64 0, .string ⟨#[]⟩, .string ⟨#[]⟩, .slice none 0 0] 48)
        have hS1 := hS.alloc hS.size (.cells #[.int .i8 0, .int .i64 0, .string ⟨#[]⟩, .string ⟨#[]⟩, .slice none 0 0] 48)
        obtain ⟨g9, hg⟩ : ∃ g, g = X52.heap.size := ⟨_, rfl⟩
        rw [← hg] at h1
        refine hK.out _ _ hS1 (fun hSn => ?_)
        clear hK K hSn; (try simp only [Act.put, sI, sZ, sS])
        rw [← hg]
        clear hg
        generalize X52.alloc (.cells #[.int .i8 0, .int .i64 0, .string ⟨#[]⟩, .string ⟨#[]⟩, .slice none 0 0] 48) = X67 at h1 hS1 ⊢
        clear h hS
        have h := h1
        have hS := hS1
        clear h1 hS1
        refine wpAnyH_ready (rs := [1]) (by kernel_rfl) (by simp) ?_
        refine AllReadyH.cons (o := ⟨some 67, _, _, _, _, _⟩) rfl (fun K hK => ?_) AllReadyH.nil
        · rw [if_pos (by rfl)]
          go_simp
          have h1 := h.fresh HP.out
          have hS1 := hS.alloc hS.size (.cells #[] 65)
          obtain ⟨gb, hg⟩ : ∃ g, g = X67.heap.size := ⟨_, rfl⟩
          rw [← hg] at h1
          refine hK.out _ _ hS1 (fun hSn => ?_)
          clear hK K hSn; (try simp only [Act.put, sI, sZ, sS])
          rw [← hg]
          clear hg
          generalize X67.alloc (.cells #[] 65) = X68 at h1 hS1 ⊢
          clear h hS
          have h := h1
          have hS := hS1
          clear h1 hS1
          refine wpAnyH_ready (rs := [3]) (by kernel_rfl) (by simp) ?_
          refine AllReadyH.cons (o := ⟨some 69, _, _, _, _, _⟩) rfl (fun K hK => ?_) AllReadyH.nil
          · rw [if_pos (by rfl)]
            have hb0 := h.below
            refine wp_own_binds (ys := l) (.tmp 67) (.tmp 68) rfl h.own hb0.size (h.apart HP.out) rfl rfl (((HLB.out.keep (Q := P) (fun b hb => hb0.block b (HP.out b hb)) (fun _ h => h)).rowB)) (by have := HL.out; show 0 + _ ≤ _; omega) ?_
            intro v1 X69 O hg hb
            rw [← HL3.out] at O
            have h1 := h.app O hg hb
            have hS1 : Below w12.heap.size w12 X69 := HDW.out.trans (h1.below.mono (by rw [HDZ.out]; exact Nat.le_refl _))
            refine hK.out _ _ hS1 (fun hSn => ?_)
            clear hK K hSn; (try simp only [Act.put, sI, sZ, sS])
            clear O hg hb hb0
            clear h hS
            have h := h1
            have hS := hS1
            clear h1 hS1
            refine wpAnyH_ready (rs := [8]) (by kernel_rfl) (by simp) ?_
            refine AllReadyH.cons (o := ⟨some 74, _, _, _, _, _⟩) rfl (fun K hK => ?_) AllReadyH.nil
            · rw [if_pos (by rfl)]
              have hb0 := h.below
              refine wp_own_binds (ys := [(nm, t)]) (.tmp 69) (.tmp 73) rfl h.own hb0.size (h.apart HP.out) rfl rfl (RowB.one (h.kept (g7, .cells #[.string nm, .int .i8 tk, .int .i64 tn, .string ts_, .string tt_, .slice tA tm tc] 65 (0, 0)) (by simp)).2.1 HNM.out (HTF.out.keep (fun b hb => hb0.block b (HP.out b hb)) (fun _ h => h))) (by have := HL.out; rw [HL3.out]; simp; omega) ?_
              intro v1 X70 O hg hb
              rw [← HL9.out] at O
              have h1 := h.app O hg hb
              obtain ⟨A5, cap5, rfl⟩ := O.shape
              have hS1 : Below w12.heap.size w12 X70 := HDW.out.trans (h1.below.mono (by rw [HDZ.out]; exact Nat.le_refl _))
              refine hK.out _ _ hS1 (fun hSn => ?_)
              clear hK K hSn; (try simp only [Act.put, sI, sZ, sS])
              clear O hg hb hb0
              clear h hS
              have h := h1
              have hS := hS1
              clear h1 hS1
              refine wpAnyH_ready (rs := [9]) (by kernel_rfl) (by simp) ?_
              refine AllReadyH.cons (o := ⟨some 75, _, _, _, _, _⟩) rfl (fun K hK => ?_) AllReadyH.nil
              · rw [if_pos (by rfl)]
                go_simp
                refine (Value_in D.heap.size X70.heap.size L9 (vaN nm) _ A5 L9.length cap5 X70 (.leaf _ _ 5 0 nm (by decide) (by decide) HNM.out) (h.own.brt HP.out h.below.size) (Nat.le_refl _) (va_nodes nm) (HED.out.under h.below).env).mono ?_
                rintro e X71 ⟨k9, n9, s9, t9, A9, m9, c9, rfl, hv, b5⟩
                have h1 := h.under HP.out b5
                have hS1 := hS.trans (b5.mono hS.size)
                rw [HEV9.out.1]
                rw [HEV9.out.2] at hv
                have z1 := h.below.size
                have z2 := b5.size
                have q1 : D.heap.size ≤ g9 := (h.kept (g9, .cells #[.int .i8 0, .int .i64 0, .string ⟨#[]⟩, .string ⟨#[]⟩, .slice none 0 0] 48 (0, 0)) (by simp)).1
                have q2 : g9 < X70.heap.size := heap_lt (h.kept (g9, .cells #[.int .i8 0, .int .i64 0, .string ⟨#[]⟩, .string ⟨#[]⟩, .slice none 0 0] 48 (0, 0)) (by simp)).2.1
                have hvt : TmAt (fun b => b < X71.heap.size ∧ b ≠ g9) X71 ((fo.getD t)) (.agg #[.int .i8 k9, .int .i64 n9, .string s9, .string t9, .slice A9 m9 c9]) := hv.mono (fun b hb => by rcases hb with hb | hb <;> exact ⟨by omega, by omega⟩)
                clear q1 q2
                clear hv b5 z1 z2
                refine hK.out _ _ hS1 (fun hSn => ?_)
                clear hK K hSn; (try simp only [Act.put, sI, sZ, sS])
                clear h hS
                have h := h1
                have hS := hS1
                clear h1 hS1
                refine wpAnyH_take (i := 10) (oi := ⟨some 65, _, _, _, _, _⟩) (v := ?_) rfl (by kernel_rfl) (by kernel_rfl) (by kernel_rfl) (fun _ _ _ h => h) (Or.inl ⟨by kernel_rfl, ?_⟩) (by assumption) ?_; rotate_left; (intro VV hSw; (try dsimp only at hSw); go_simp; first | done | with_reducible rfl); (try simp only [Act.put, sI, sZ, sS])
                refine wpAnyH_take (i := 11) (oi := ⟨some 76, _, _, _, _, _⟩) (v := ?_) rfl (by kernel_rfl) (by kernel_rfl) (by kernel_rfl) (fun _ _ _ h => h) (Or.inl ⟨by kernel_rfl, ?_⟩) (by assumption) ?_; rotate_left; (intro VV hSw; (try dsimp only at hSw); go_simp; first | done | with_reducible rfl); (try simp only [Act.put, sI, sZ, sS])
                refine wpAnyH_take (i := 12) (oi := ⟨some 77, _, _, _, _, _⟩) (v := ?_) rfl (by kernel_rfl) (by kernel_rfl) (by kernel_rfl) (fun _ _ _ h => h) (Or.inl ⟨by kernel_rfl, ?_⟩) (by assumption) ?_; rotate_left; (intro VV hSw; (try dsimp only at hSw); go_simp; first | done | with_reducible rfl); (try simp only [Act.put, sI, sZ, sS])
                obtain ⟨gge, gz, gne⟩ := h.kept (g9, .cells #[.int .i8 0, .int .i64 0, .string ⟨#[]⟩, .string ⟨#[]⟩, .slice none 0 0] 48 (0, 0)) (by simp)
                have gg2 : w12.heap.size ≤ g9 := by have := HDZ.out; have g3 : D.heap.size ≤ g9 := gge; omega
                obtain ⟨⟨z0, z1, z2, z3, z4⟩, zf0, zf1, zf2, zf3, zf4⟩ := five_fr gz
                obtain ⟨s5, m5⟩ := set_five (.int .i8 k9) (.int .i64 n9) (.string s9) (.string t9) (.slice A9 m9 c9) gz
                have hVB := vbx_of hS gg2 hvt s5 m5
                have HVB := Lib.hid hVB
                have hS9 := hVB.1
                clear s5 m5 hVB
                refine wpAnyH_ready (rs := [14]) (by kernel_rfl) (by simp) ?_
                refine AllReadyH.cons (o := ⟨none, _, _, _, _, _⟩) rfl (fun K hK => ?_) AllReadyH.nil
                · rw [if_pos (by rfl)]
                  go_simp
                  refine hK.out _ _ hS9 (fun hSn => ?_)
                  clear hK K hSn; (try simp only [Act.put, sI, sZ, sS])
                  refine wpAnyH_take (i := 15) (oi := ⟨some 13, _, _, _, _, _⟩) (v := ?_) rfl (by kernel_rfl) (by kernel_rfl) (by kernel_rfl) (fun _ _ _ h => h) (Or.inl ⟨by kernel_rfl, ?_⟩) (by assumption) ?_; rotate_left; (intro VV hSw; (try dsimp only at hSw); go_simp; first | done | with_reducible rfl); (try simp only [Act.put, sI, sZ, sS])
                  refine wpAnyH_done (by kernel_rfl) ?_ _
                  clear z0 zf0 z1 zf1 z2 zf2 z3 zf3 z4 zf4 gz gge gg2 gne
                  go_wp2_with fail
                  go_meet
                  exact ⟨g9, rfl, rfl, HVB⟩
    · rw [if_pos (by rfl)]
      go_simp
      have h1 := h.alloc HP.out (.cells #[.int .i8 0, .int .i64 0, .string ⟨#[]⟩, .string ⟨#[]⟩, .slice none 0 0] 48)
      have hS1 := hS.alloc hS.size (.cells #[.int .i8 0, .int .i64 0, .string ⟨#[]⟩, .string ⟨#[]⟩, .slice none 0 0] 48)
      obtain ⟨g9, hg⟩ : ∃ g, g = D.heap.size := ⟨_, rfl⟩
      rw [← hg] at h1
      refine hK.out _ _ hS1 (fun hSn => ?_)
      clear hK K hSn; (try simp only [Act.put, sI, sZ, sS])
      rw [← hg]
      clear hg
      generalize D.alloc (.cells #[.int .i8 0, .int .i64 0, .string ⟨#[]⟩, .string ⟨#[]⟩, .slice none 0 0] 48) = X72 at h1 hS1 ⊢
      clear h hS
      have h := h1
      have hS := hS1
      clear h1 hS1
      refine wpAnyH_ready (rs := [1, 7]) (by kernel_rfl) (by simp) ?_
      refine AllReadyH.cons (o := ⟨some 67, _, _, _, _, _⟩) rfl (fun K hK => ?_) (AllReadyH.cons (o := ⟨some 73, _, _, _, _, _⟩) rfl (fun K hK => ?_) AllReadyH.nil)
      · rw [if_pos (by rfl)]
        go_simp
        have h1 := h.fresh HP.out
        have hS1 := hS.alloc hS.size (.cells #[] 65)
        obtain ⟨gb, hg⟩ : ∃ g, g = X72.heap.size := ⟨_, rfl⟩
        rw [← hg] at h1
        refine hK.out _ _ hS1 (fun hSn => ?_)
        clear hK K hSn; (try simp only [Act.put, sI, sZ, sS])
        rw [← hg]
        clear hg
        generalize X72.alloc (.cells #[] 65) = X73 at h1 hS1 ⊢
        clear h hS
        have h := h1
        have hS := hS1
        clear h1 hS1
        refine wpAnyH_ready (rs := [3, 7]) (by kernel_rfl) (by simp) ?_
        refine AllReadyH.cons (o := ⟨some 69, _, _, _, _, _⟩) rfl (fun K hK => ?_) (AllReadyH.cons (o := ⟨some 73, _, _, _, _, _⟩) rfl (fun K hK => ?_) AllReadyH.nil)
        · rw [if_pos (by rfl)]
          have hb0 := h.below
          refine wp_own_binds (ys := l) (.tmp 67) (.tmp 68) rfl h.own hb0.size (h.apart HP.out) rfl rfl (((HLB.out.keep (Q := P) (fun b hb => hb0.block b (HP.out b hb)) (fun _ h => h)).rowB)) (by have := HL.out; show 0 + _ ≤ _; omega) ?_
          intro v1 X74 O hg hb
          rw [← HL3.out] at O
          have h1 := h.app O hg hb
          have hS1 : Below w12.heap.size w12 X74 := HDW.out.trans (h1.below.mono (by rw [HDZ.out]; exact Nat.le_refl _))
          refine hK.out _ _ hS1 (fun hSn => ?_)
          clear hK K hSn; (try simp only [Act.put, sI, sZ, sS])
          clear O hg hb hb0
          clear h hS
          have h := h1
          have hS := hS1
          clear h1 hS1
          refine wpAnyH_ready (rs := [7]) (by kernel_rfl) (by simp) ?_
          refine AllReadyH.cons (o := ⟨some 73, _, _, _, _, _⟩) rfl (fun K hK => ?_) AllReadyH.nil
          · rw [if_pos (by rfl)]
            go_simp
            have h1 := h.alloc HP.out (.cells #[.string nm, .int .i8 tk, .int .i64 tn, .string ts_, .string tt_, .slice tA tm tc] 65)
            have hS1 := hS.alloc hS.size (.cells #[.string nm, .int .i8 tk, .int .i64 tn, .string ts_, .string tt_, .slice tA tm tc] 65)
            obtain ⟨g7, hg⟩ : ∃ g, g = X74.heap.size := ⟨_, rfl⟩
            rw [← hg] at h1
            refine hK.out _ _ hS1 (fun hSn => ?_)
            clear hK K hSn; (try simp only [Act.put, sI, sZ, sS])
            rw [← hg]
            clear hg
            generalize X74.alloc (.cells #[.string nm, .int .i8 tk, .int .i64 tn, .string ts_, .string tt_, .slice tA tm tc] 65) = X75 at h1 hS1 ⊢
            clear h hS
            have h := h1
            have hS := hS1
            clear h1 hS1
            refine wpAnyH_ready (rs := [8]) (by kernel_rfl) (by simp) ?_
            refine AllReadyH.cons (o := ⟨some 74, _, _, _, _, _⟩) rfl (fun K hK => ?_) AllReadyH.nil
            · rw [if_pos (by rfl)]
              have hb0 := h.below
              refine wp_own_binds (ys := [(nm, t)]) (.tmp 69) (.tmp 73) rfl h.own hb0.size (h.apart HP.out) rfl rfl (RowB.one (h.kept (g7, .cells #[.string nm, .int .i8 tk, .int .i64 tn, .string ts_, .string tt_, .slice tA tm tc] 65 (0, 0)) (by simp)).2.1 HNM.out (HTF.out.keep (fun b hb => hb0.block b (HP.out b hb)) (fun _ h => h))) (by have := HL.out; rw [HL3.out]; simp; omega) ?_
              intro v1 X76 O hg hb
              rw [← HL9.out] at O
              have h1 := h.app O hg hb
              obtain ⟨A5, cap5, rfl⟩ := O.shape
              have hS1 : Below w12.heap.size w12 X76 := HDW.out.trans (h1.below.mono (by rw [HDZ.out]; exact Nat.le_refl _))
              refine hK.out _ _ hS1 (fun hSn => ?_)
              clear hK K hSn; (try simp only [Act.put, sI, sZ, sS])
              clear O hg hb hb0
              clear h hS
              have h := h1
              have hS := hS1
              clear h1 hS1
              refine wpAnyH_ready (rs := [9]) (by kernel_rfl) (by simp) ?_
              refine AllReadyH.cons (o := ⟨some 75, _, _, _, _, _⟩) rfl (fun K hK => ?_) AllReadyH.nil
              · rw [if_pos (by rfl)]
                go_simp
                refine (Value_in D.heap.size X76.heap.size L9 (vaN nm) _ A5 L9.length cap5 X76 (.leaf _ _ 5 0 nm (by decide) (by decide) HNM.out) (h.own.brt HP.out h.below.size) (Nat.le_refl _) (va_nodes nm) (HED.out.under h.below).env).mono ?_
                rintro e X77 ⟨k9, n9, s9, t9, A9, m9, c9, rfl, hv, b5⟩
                have h1 := h.under HP.out b5
                have hS1 := hS.trans (b5.mono hS.size)
                rw [HEV9.out.1]
                rw [HEV9.out.2] at hv
                have z1 := h.below.size
                have z2 := b5.size
                have q1 : D.heap.size ≤ g9 := (h.kept (g9, .cells #[.int .i8 0, .int .i64 0, .string ⟨#[]⟩, .string ⟨#[]⟩, .slice none 0 0] 48 (0, 0)) (by simp)).1
                have q2 : g9 < X76.heap.size := heap_lt (h.kept (g9, .cells #[.int .i8 0, .int .i64 0, .string ⟨#[]⟩, .string ⟨#[]⟩, .slice none 0 0] 48 (0, 0)) (by simp)).2.1
                have hvt : TmAt (fun b => b < X77.heap.size ∧ b ≠ g9) X77 ((fo.getD t)) (.agg #[.int .i8 k9, .int .i64 n9, .string s9, .string t9, .slice A9 m9 c9]) := hv.mono (fun b hb => by rcases hb with hb | hb <;> exact ⟨by omega, by omega⟩)
                clear q1 q2
                clear hv b5 z1 z2
                refine hK.out _ _ hS1 (fun hSn => ?_)
                clear hK K hSn; (try simp only [Act.put, sI, sZ, sS])
                clear h hS
                have h := h1
                have hS := hS1
                clear h1 hS1
                refine wpAnyH_take (i := 10) (oi := ⟨some 65, _, _, _, _, _⟩) (v := ?_) rfl (by kernel_rfl) (by kernel_rfl) (by kernel_rfl) (fun _ _ _ h => h) (Or.inl ⟨by kernel_rfl, ?_⟩) (by assumption) ?_; rotate_left; (intro VV hSw; (try dsimp only at hSw); go_simp; first | done | with_reducible rfl); (try simp only [Act.put, sI, sZ, sS])
                refine wpAnyH_take (i := 11) (oi := ⟨some 76, _, _, _, _, _⟩) (v := ?_) rfl (by kernel_rfl) (by kernel_rfl) (by kernel_rfl) (fun _ _ _ h => h) (Or.inl ⟨by kernel_rfl, ?_⟩) (by assumption) ?_; rotate_left; (intro VV hSw; (try dsimp only at hSw); go_simp; first | done | with_reducible rfl); (try simp only [Act.put, sI, sZ, sS])
                refine wpAnyH_take (i := 12) (oi := ⟨some 77, _, _, _, _, _⟩) (v := ?_) rfl (by kernel_rfl) (by kernel_rfl) (by kernel_rfl) (fun _ _ _ h => h) (Or.inl ⟨by kernel_rfl, ?_⟩) (by assumption) ?_; rotate_left; (intro VV hSw; (try dsimp only at hSw); go_simp; first | done | with_reducible rfl); (try simp only [Act.put, sI, sZ, sS])
                obtain ⟨gge, gz, gne⟩ := h.kept (g9, .cells #[.int .i8 0, .int .i64 0, .string ⟨#[]⟩, .string ⟨#[]⟩, .slice none 0 0] 48 (0, 0)) (by simp)
                have gg2 : w12.heap.size ≤ g9 := by have := HDZ.out; have g3 : D.heap.size ≤ g9 := gge; omega
                obtain ⟨⟨z0, z1, z2, z3, z4⟩, zf0, zf1, zf2, zf3, zf4⟩ := five_fr gz
                obtain ⟨s5, m5⟩ := set_five (.int .i8 k9) (.int .i64 n9) (.string s9) (.string t9) (.slice A9 m9 c9) gz
                have hVB := vbx_of hS gg2 hvt s5 m5
                have HVB := Lib.hid hVB
                have hS9 := hVB.1
                clear s5 m5 hVB
                refine wpAnyH_ready (rs := [14]) (by kernel_rfl) (by simp) ?_
                refine AllReadyH.cons (o := ⟨none, _, _, _, _, _⟩) rfl (fun K hK => ?_) AllReadyH.nil
                · rw [if_pos (by rfl)]
                  go_simp
                  refine hK.out _ _ hS9 (fun hSn => ?_)
                  clear hK K hSn; (try simp only [Act.put, sI, sZ, sS])
                  refine wpAnyH_take (i := 15) (oi := ⟨some 13, _, _, _, _, _⟩) (v := ?_) rfl (by kernel_rfl) (by kernel_rfl) (by kernel_rfl) (fun _ _ _ h => h) (Or.inl ⟨by kernel_rfl, ?_⟩) (by assumption) ?_; rotate_left; (intro VV hSw; (try dsimp only at hSw); go_simp; first | done | with_reducible rfl); (try simp only [Act.put, sI, sZ, sS])
                  refine wpAnyH_done (by kernel_rfl) ?_ _
                  clear z0 zf0 z1 zf1 z2 zf2 z3 zf3 z4 zf4 gz gge gg2 gne
                  go_wp2_with fail
                  go_meet
                  exact ⟨g9, rfl, rfl, HVB⟩
        · rw [if_pos (by rfl)]
          go_simp
          have h1 := h.alloc HP.out (.cells #[.string nm, .int .i8 tk, .int .i64 tn, .string ts_, .string tt_, .slice tA tm tc] 65)
          have hS1 := hS.alloc hS.size (.cells #[.string nm, .int .i8 tk, .int .i64 tn, .string ts_, .string tt_, .slice tA tm tc] 65)
          obtain ⟨g7, hg⟩ : ∃ g, g = X73.heap.size := ⟨_, rfl⟩
          rw [← hg] at h1
          refine hK.out _ _ hS1 (fun hSn => ?_)
          clear hK K hSn; (try simp only [Act.put, sI, sZ, sS])
          rw [← hg]
          clear hg
          generalize X73.alloc (.cells #[.string nm, .int .i8 tk, .int .i64 tn, .string ts_, .string tt_, .slice tA tm tc] 65) = X78 at h1 hS1 ⊢
          clear h hS
          have h := h1
          have hS := hS1
          clear h1 hS1
          refine wpAnyH_ready (rs := [3]) (by kernel_rfl) (by simp) ?_
          refine AllReadyH.cons (o := ⟨some 69, _, _, _, _, _⟩) rfl (fun K hK => ?_) AllReadyH.nil
          · rw [if_pos (by rfl)]
            have hb0 := h.below
            refine wp_own_binds (ys := l) (.tmp 67) (.tmp 68) rfl h.own hb0.size (h.apart HP.out) rfl rfl (((HLB.out.keep (Q := P) (fun b hb => hb0.block b (HP.out b hb)) (fun _ h => h)).rowB)) (by have := HL.out; show 0 + _ ≤ _; omega) ?_
            intro v1 X79 O hg hb
            rw [← HL3.out] at O
            have h1 := h.app O hg hb
            have hS1 : Below w12.heap.size w12 X79 := HDW.out.trans (h1.below.mono (by rw [HDZ.out]; exact Nat.le_refl _))
            refine hK.out _ _ hS1 (fun hSn => ?_)
            clear hK K hSn; (try simp only [Act.put, sI, sZ, sS])
            clear O hg hb hb0
            clear h hS
            have h := h1
            have hS := hS1
            clear h1 hS1
            refine wpAnyH_ready (rs := [8]) (by kernel_rfl) (by simp) ?_
            refine AllReadyH.cons (o := ⟨some 74, _, _, _, _, _⟩) rfl (fun K hK => ?_) AllReadyH.nil
            · rw [if_pos (by rfl)]
              have hb0 := h.below
              refine wp_own_binds (ys := [(nm, t)]) (.tmp 69) (.tmp 73) rfl h.own hb0.size (h.apart HP.out) rfl rfl (RowB.one (h.kept (g7, .cells #[.string nm, .int .i8 tk, .int .i64 tn, .string ts_, .string tt_, .slice tA tm tc] 65 (0, 0)) (by simp)).2.1 HNM.out (HTF.out.keep (fun b hb => hb0.block b (HP.out b hb)) (fun _ h => h))) (by have := HL.out; rw [HL3.out]; simp; omega) ?_
              intro v1 X80 O hg hb
              rw [← HL9.out] at O
              have h1 := h.app O hg hb
              obtain ⟨A5, cap5, rfl⟩ := O.shape
              have hS1 : Below w12.heap.size w12 X80 := HDW.out.trans (h1.below.mono (by rw [HDZ.out]; exact Nat.le_refl _))
              refine hK.out _ _ hS1 (fun hSn => ?_)
              clear hK K hSn; (try simp only [Act.put, sI, sZ, sS])
              clear O hg hb hb0
              clear h hS
              have h := h1
              have hS := hS1
              clear h1 hS1
              refine wpAnyH_ready (rs := [9]) (by kernel_rfl) (by simp) ?_
              refine AllReadyH.cons (o := ⟨some 75, _, _, _, _, _⟩) rfl (fun K hK => ?_) AllReadyH.nil
              · rw [if_pos (by rfl)]
                go_simp
                refine (Value_in D.heap.size X80.heap.size L9 (vaN nm) _ A5 L9.length cap5 X80 (.leaf _ _ 5 0 nm (by decide) (by decide) HNM.out) (h.own.brt HP.out h.below.size) (Nat.le_refl _) (va_nodes nm) (HED.out.under h.below).env).mono ?_
                rintro e X81 ⟨k9, n9, s9, t9, A9, m9, c9, rfl, hv, b5⟩
                have h1 := h.under HP.out b5
                have hS1 := hS.trans (b5.mono hS.size)
                rw [HEV9.out.1]
                rw [HEV9.out.2] at hv
                have z1 := h.below.size
                have z2 := b5.size
                have q1 : D.heap.size ≤ g9 := (h.kept (g9, .cells #[.int .i8 0, .int .i64 0, .string ⟨#[]⟩, .string ⟨#[]⟩, .slice none 0 0] 48 (0, 0)) (by simp)).1
                have q2 : g9 < X80.heap.size := heap_lt (h.kept (g9, .cells #[.int .i8 0, .int .i64 0, .string ⟨#[]⟩, .string ⟨#[]⟩, .slice none 0 0] 48 (0, 0)) (by simp)).2.1
                have hvt : TmAt (fun b => b < X81.heap.size ∧ b ≠ g9) X81 ((fo.getD t)) (.agg #[.int .i8 k9, .int .i64 n9, .string s9, .string t9, .slice A9 m9 c9]) := hv.mono (fun b hb => by rcases hb with hb | hb <;> exact ⟨by omega, by omega⟩)
                clear q1 q2
                clear hv b5 z1 z2
                refine hK.out _ _ hS1 (fun hSn => ?_)
                clear hK K hSn; (try simp only [Act.put, sI, sZ, sS])
                clear h hS
                have h := h1
                have hS := hS1
                clear h1 hS1
                refine wpAnyH_take (i := 10) (oi := ⟨some 65, _, _, _, _, _⟩) (v := ?_) rfl (by kernel_rfl) (by kernel_rfl) (by kernel_rfl) (fun _ _ _ h => h) (Or.inl ⟨by kernel_rfl, ?_⟩) (by assumption) ?_; rotate_left; (intro VV hSw; (try dsimp only at hSw); go_simp; first | done | with_reducible rfl); (try simp only [Act.put, sI, sZ, sS])
                refine wpAnyH_take (i := 11) (oi := ⟨some 76, _, _, _, _, _⟩) (v := ?_) rfl (by kernel_rfl) (by kernel_rfl) (by kernel_rfl) (fun _ _ _ h => h) (Or.inl ⟨by kernel_rfl, ?_⟩) (by assumption) ?_; rotate_left; (intro VV hSw; (try dsimp only at hSw); go_simp; first | done | with_reducible rfl); (try simp only [Act.put, sI, sZ, sS])
                refine wpAnyH_take (i := 12) (oi := ⟨some 77, _, _, _, _, _⟩) (v := ?_) rfl (by kernel_rfl) (by kernel_rfl) (by kernel_rfl) (fun _ _ _ h => h) (Or.inl ⟨by kernel_rfl, ?_⟩) (by assumption) ?_; rotate_left; (intro VV hSw; (try dsimp only at hSw); go_simp; first | done | with_reducible rfl); (try simp only [Act.put, sI, sZ, sS])
                obtain ⟨gge, gz, gne⟩ := h.kept (g9, .cells #[.int .i8 0, .int .i64 0, .string ⟨#[]⟩, .string ⟨#[]⟩, .slice none 0 0] 48 (0, 0)) (by simp)
                have gg2 : w12.heap.size ≤ g9 := by have := HDZ.out; have g3 : D.heap.size ≤ g9 := gge; omega
                obtain ⟨⟨z0, z1, z2, z3, z4⟩, zf0, zf1, zf2, zf3, zf4⟩ := five_fr gz
                obtain ⟨s5, m5⟩ := set_five (.int .i8 k9) (.int .i64 n9) (.string s9) (.string t9) (.slice A9 m9 c9) gz
                have hVB := vbx_of hS gg2 hvt s5 m5
                have HVB := Lib.hid hVB
                have hS9 := hVB.1
                clear s5 m5 hVB
                refine wpAnyH_ready (rs := [14]) (by kernel_rfl) (by simp) ?_
                refine AllReadyH.cons (o := ⟨none, _, _, _, _, _⟩) rfl (fun K hK => ?_) AllReadyH.nil
                · rw [if_pos (by rfl)]
                  go_simp
                  refine hK.out _ _ hS9 (fun hSn => ?_)
                  clear hK K hSn; (try simp only [Act.put, sI, sZ, sS])
                  refine wpAnyH_take (i := 15) (oi := ⟨some 13, _, _, _, _, _⟩) (v := ?_) rfl (by kernel_rfl) (by kernel_rfl) (by kernel_rfl) (fun _ _ _ h => h) (Or.inl ⟨by kernel_rfl, ?_⟩) (by assumption) ?_; rotate_left; (intro VV hSw; (try dsimp only at hSw); go_simp; first | done | with_reducible rfl); (try simp only [Act.put, sI, sZ, sS])
                  refine wpAnyH_done (by kernel_rfl) ?_ _
                  clear z0 zf0 z1 zf1 z2 zf2 z3 zf3 z4 zf4 gz gge gg2 gne
                  go_wp2_with fail
                  go_meet
                  exact ⟨g9, rfl, rfl, HVB⟩
      · rw [if_pos (by rfl)]
        go_simp
        have h1 := h.alloc HP.out (.cells #[.string nm, .int .i8 tk, .int .i64 tn, .string ts_, .string tt_, .slice tA tm tc] 65)
        have hS1 := hS.alloc hS.size (.cells #[.string nm, .int .i8 tk, .int .i64 tn, .string ts_, .string tt_, .slice tA tm tc] 65)
        obtain ⟨g7, hg⟩ : ∃ g, g = X72.heap.size := ⟨_, rfl⟩
        rw [← hg] at h1
        refine hK.out _ _ hS1 (fun hSn => ?_)
        clear hK K hSn; (try simp only [Act.put, sI, sZ, sS])
        rw [← hg]
        clear hg
        generalize X72.alloc (.cells #[.string nm, .int .i8 tk, .int .i64 tn, .string ts_, .string tt_, .slice tA tm tc] 65) = X82 at h1 hS1 ⊢
        clear h hS
        have h := h1
        have hS := hS1
        clear h1 hS1
        refine wpAnyH_ready (rs := [1]) (by kernel_rfl) (by simp) ?_
        refine AllReadyH.cons (o := ⟨some 67, _, _, _, _, _⟩) rfl (fun K hK => ?_) AllReadyH.nil
        · rw [if_pos (by rfl)]
          go_simp
          have h1 := h.fresh HP.out
          have hS1 := hS.alloc hS.size (.cells #[] 65)
          obtain ⟨gb, hg⟩ : ∃ g, g = X82.heap.size := ⟨_, rfl⟩
          rw [← hg] at h1
          refine hK.out _ _ hS1 (fun hSn => ?_)
          clear hK K hSn; (try simp only [Act.put, sI, sZ, sS])
          rw [← hg]
          clear hg
          generalize X82.alloc (.cells #[] 65) = X83 at h1 hS1 ⊢
          clear h hS
          have h := h1
          have hS := hS1
          clear h1 hS1
          refine wpAnyH_ready (rs := [3]) (by kernel_rfl) (by simp) ?_
          refine AllReadyH.cons (o := ⟨some 69, _, _, _, _, _⟩) rfl (fun K hK => ?_) AllReadyH.nil
          · rw [if_pos (by rfl)]
            have hb0 := h.below
            refine wp_own_binds (ys := l) (.tmp 67) (.tmp 68) rfl h.own hb0.size (h.apart HP.out) rfl rfl (((HLB.out.keep (Q := P) (fun b hb => hb0.block b (HP.out b hb)) (fun _ h => h)).rowB)) (by have := HL.out; show 0 + _ ≤ _; omega) ?_
            intro v1 X84 O hg hb
            rw [← HL3.out] at O
            have h1 := h.app O hg hb
            have hS1 : Below w12.heap.size w12 X84 := HDW.out.trans (h1.below.mono (by rw [HDZ.out]; exact Nat.le_refl _))
            refine hK.out _ _ hS1 (fun hSn => ?_)
            clear hK K hSn; (try simp only [Act.put, sI, sZ, sS])
            clear O hg hb hb0
            clear h hS
            have h := h1
            have hS := hS1
            clear h1 hS1
            refine wpAnyH_ready (rs := [8]) (by kernel_rfl) (by simp) ?_
            refine AllReadyH.cons (o := ⟨some 74, _, _, _, _, _⟩) rfl (fun K hK => ?_) AllReadyH.nil
            · rw [if_pos (by rfl)]
              have hb0 := h.below
              refine wp_own_binds (ys := [(nm, t)]) (.tmp 69) (.tmp 73) rfl h.own hb0.size (h.apart HP.out) rfl rfl (RowB.one (h.kept (g7, .cells #[.string nm, .int .i8 tk, .int .i64 tn, .string ts_, .string tt_, .slice tA tm tc] 65 (0, 0)) (by simp)).2.1 HNM.out (HTF.out.keep (fun b hb => hb0.block b (HP.out b hb)) (fun _ h => h))) (by have := HL.out; rw [HL3.out]; simp; omega) ?_
              intro v1 X85 O hg hb
              rw [← HL9.out] at O
              have h1 := h.app O hg hb
              obtain ⟨A5, cap5, rfl⟩ := O.shape
              have hS1 : Below w12.heap.size w12 X85 := HDW.out.trans (h1.below.mono (by rw [HDZ.out]; exact Nat.le_refl _))
              refine hK.out _ _ hS1 (fun hSn => ?_)
              clear hK K hSn; (try simp only [Act.put, sI, sZ, sS])
              clear O hg hb hb0
              clear h hS
              have h := h1
              have hS := hS1
              clear h1 hS1
              refine wpAnyH_ready (rs := [9]) (by kernel_rfl) (by simp) ?_
              refine AllReadyH.cons (o := ⟨some 75, _, _, _, _, _⟩) rfl (fun K hK => ?_) AllReadyH.nil
              · rw [if_pos (by rfl)]
                go_simp
                refine (Value_in D.heap.size X85.heap.size L9 (vaN nm) _ A5 L9.length cap5 X85 (.leaf _ _ 5 0 nm (by decide) (by decide) HNM.out) (h.own.brt HP.out h.below.size) (Nat.le_refl _) (va_nodes nm) (HED.out.under h.below).env).mono ?_
                rintro e X86 ⟨k9, n9, s9, t9, A9, m9, c9, rfl, hv, b5⟩
                have h1 := h.under HP.out b5
                have hS1 := hS.trans (b5.mono hS.size)
                rw [HEV9.out.1]
                rw [HEV9.out.2] at hv
                have z1 := h.below.size
                have z2 := b5.size
                have q1 : D.heap.size ≤ g9 := (h.kept (g9, .cells #[.int .i8 0, .int .i64 0, .string ⟨#[]⟩, .string ⟨#[]⟩, .slice none 0 0] 48 (0, 0)) (by simp)).1
                have q2 : g9 < X85.heap.size := heap_lt (h.kept (g9, .cells #[.int .i8 0, .int .i64 0, .string ⟨#[]⟩, .string ⟨#[]⟩, .slice none 0 0] 48 (0, 0)) (by simp)).2.1
                have hvt : TmAt (fun b => b < X86.heap.size ∧ b ≠ g9) X86 ((fo.getD t)) (.agg #[.int .i8 k9, .int .i64 n9, .string s9, .string t9, .slice A9 m9 c9]) := hv.mono (fun b hb => by rcases hb with hb | hb <;> exact ⟨by omega, by omega⟩)
                clear q1 q2
                clear hv b5 z1 z2
                refine hK.out _ _ hS1 (fun hSn => ?_)
                clear hK K hSn; (try simp only [Act.put, sI, sZ, sS])
                clear h hS
                have h := h1
                have hS := hS1
                clear h1 hS1
                refine wpAnyH_take (i := 10) (oi := ⟨some 65, _, _, _, _, _⟩) (v := ?_) rfl (by kernel_rfl) (by kernel_rfl) (by kernel_rfl) (fun _ _ _ h => h) (Or.inl ⟨by kernel_rfl, ?_⟩) (by assumption) ?_; rotate_left; (intro VV hSw; (try dsimp only at hSw); go_simp; first | done | with_reducible rfl); (try simp only [Act.put, sI, sZ, sS])
                refine wpAnyH_take (i := 11) (oi := ⟨some 76, _, _, _, _, _⟩) (v := ?_) rfl (by kernel_rfl) (by kernel_rfl) (by kernel_rfl) (fun _ _ _ h => h) (Or.inl ⟨by kernel_rfl, ?_⟩) (by assumption) ?_; rotate_left; (intro VV hSw; (try dsimp only at hSw); go_simp; first | done | with_reducible rfl); (try simp only [Act.put, sI, sZ, sS])
                refine wpAnyH_take (i := 12) (oi := ⟨some 77, _, _, _, _, _⟩) (v := ?_) rfl (by kernel_rfl) (by kernel_rfl) (by kernel_rfl) (fun _ _ _ h => h) (Or.inl ⟨by kernel_rfl, ?_⟩) (by assumption) ?_; rotate_left; (intro VV hSw; (try dsimp only at hSw); go_simp; first | done | with_reducible rfl); (try simp only [Act.put, sI, sZ, sS])
                obtain ⟨gge, gz, gne⟩ := h.kept (g9, .cells #[.int .i8 0, .int .i64 0, .string ⟨#[]⟩, .string ⟨#[]⟩, .slice none 0 0] 48 (0, 0)) (by simp)
                have gg2 : w12.heap.size ≤ g9 := by have := HDZ.out; have g3 : D.heap.size ≤ g9 := gge; omega
                obtain ⟨⟨z0, z1, z2, z3, z4⟩, zf0, zf1, zf2, zf3, zf4⟩ := five_fr gz
                obtain ⟨s5, m5⟩ := set_five (.int .i8 k9) (.int .i64 n9) (.string s9) (.string t9) (.slice A9 m9 c9) gz
                have hVB := vbx_of hS gg2 hvt s5 m5
                have HVB := Lib.hid hVB
                have hS9 := hVB.1
                clear s5 m5 hVB
                refine wpAnyH_ready (rs := [14]) (by kernel_rfl) (by simp) ?_
                refine AllReadyH.cons (o := ⟨none, _, _, _, _, _⟩) rfl (fun K hK => ?_) AllReadyH.nil
                · rw [if_pos (by rfl)]
                  go_simp
                  refine hK.out _ _ hS9 (fun hSn => ?_)
                  clear hK K hSn; (try simp only [Act.put, sI, sZ, sS])
                  refine wpAnyH_take (i := 15) (oi := ⟨some 13, _, _, _, _, _⟩) (v := ?_) rfl (by kernel_rfl) (by kernel_rfl) (by kernel_rfl) (fun _ _ _ h => h) (Or.inl ⟨by kernel_rfl, ?_⟩) (by assumption) ?_; rotate_left; (intro VV hSw; (try dsimp only at hSw); go_simp; first | done | with_reducible rfl); (try simp only [Act.put, sI, sZ, sS])
                  refine wpAnyH_done (by kernel_rfl) ?_ _
                  clear z0 zf0 z1 zf1 z2 zf2 z3 zf3 z4 zf4 gz gge gg2 gne
                  go_wp2_with fail
                  go_meet
                  exact ⟨g9, rfl, rfl, HVB⟩
  case rest =>
  obtain ⟨g12, rfl, rfl, hcut⟩ := hcut
  obtain ⟨w13, hw⟩ : ∃ w, w = wc := ⟨_, rfl⟩
  subst hw
  obtain ⟨b8, k12, n12, s12, t12, A12, m12, c12, r8, hv8⟩ := hcut.out
  have HBn := Lib.hid (HB.out.trans (b8.mono HB.out.size))
  have HBVn := Lib.hid (HBV.out.trans (b8.mono HBV.out.size))
  clear HBV
  have HBV := HBVn
  clear HBVn
  have HB8n := Lib.hid (HB8.out.trans (b8.mono HB8.out.size))
  clear HB8
  have HB8 := HB8n
  clear HB8n
  have HB11n := Lib.hid (HB11.out.trans (b8.mono HB11.out.size))
  clear HB11
  have HB11 := HB11n
  clear HB11n
  clear HB x0 x1 x2 x3 x4 y0 y1 y2 y3 y4 z0 z1 z2 z3 z4 a0 a1 a2 a3 a4 hcut HX5 HY5
  have HB := HBn
  clear HBn
  have HG12 := Lib.hid r8
  have HV12 := Lib.hid hv8
  have HB12 := Lib.hid (Below.refl w13.heap.size w13)
  clear b8 r8 hv8
  have gx := (HB.out.block _ (heap_lt HG0.out)).trans HG0.out
  obtain ⟨x0, x1, x2, x3, x4⟩ := five_of gx
  clear gx
  have gx := (HBV.out.block _ (heap_lt HGV.out)).trans HGV.out
  obtain ⟨y0, y1, y2, y3, y4⟩ := five_of gx
  clear gx
  have gx := (HB8.out.block _ (heap_lt HG8.out)).trans HG8.out
  obtain ⟨z0, z1, z2, z3, z4⟩ := five_of gx
  clear gx
  have gx := (HB11.out.block _ (heap_lt HG11.out)).trans HG11.out
  obtain ⟨a0, a1, a2, a3, a4⟩ := five_of gx
  clear gx
  have gx := (HB12.out.block _ (heap_lt HG12.out)).trans HG12.out
  obtain ⟨b0, b1, b2, b3, b4⟩ := five_of gx
  clear gx
  cases fo with
  | none =>
    go_wp2_with fail
    refine (Same_yes11 t _ _ w13 HV12.out (HT.out.laterN HB.out)).mono ?_
    rintro e w14 ⟨rfl, b14⟩
    have HBn := Lib.hid (HB.out.trans (b14.mono HB.out.size))
    have HBVn := Lib.hid (HBV.out.trans (b14.mono HBV.out.size))
    clear HBV
    have HBV := HBVn
    clear HBVn
    have HB8n := Lib.hid (HB8.out.trans (b14.mono HB8.out.size))
    clear HB8
    have HB8 := HB8n
    clear HB8n
    have HB11n := Lib.hid (HB11.out.trans (b14.mono HB11.out.size))
    clear HB11
    have HB11 := HB11n
    clear HB11n
    have HB12n := Lib.hid (HB12.out.trans (b14.mono HB12.out.size))
    clear HB12
    have HB12 := HB12n
    clear HB12n
    clear HB x0 x1 x2 x3 x4 y0 y1 y2 y3 y4 z0 z1 z2 z3 z4 a0 a1 a2 a3 a4 b0 b1 b2 b3 b4
    have HB := HBn
    clear HBn
    have gx := (HB.out.block _ (heap_lt HG0.out)).trans HG0.out
    obtain ⟨x0, x1, x2, x3, x4⟩ := five_of gx
    clear gx
    have gx := (HBV.out.block _ (heap_lt HGV.out)).trans HGV.out
    obtain ⟨y0, y1, y2, y3, y4⟩ := five_of gx
    clear gx
    have gx := (HB8.out.block _ (heap_lt HG8.out)).trans HG8.out
    obtain ⟨z0, z1, z2, z3, z4⟩ := five_of gx
    clear gx
    have gx := (HB11.out.block _ (heap_lt HG11.out)).trans HG11.out
    obtain ⟨a0, a1, a2, a3, a4⟩ := five_of gx
    clear gx
    have gx := (HB12.out.block _ (heap_lt HG12.out)).trans HG12.out
    obtain ⟨b0, b1, b2, b3, b4⟩ := five_of gx
    clear gx
    clear b14
    have he0 : valE l (vaN nm) = 93 := by rw [va_E l nm HNB.out HUS.out HML.out, ← HFO.out]
    have HE0 := Lib.hid he0
    clear he0
    go_wp2_with fail
    refine (Value_any l (vaN nm) _ A m cap w14 (.leaf _ _ 5 0 nm (by decide) (by decide) HNM.out) (HR.out.later HB.out) (va_nodes nm) (HE.out.under HB.out).env).mono ?_
    rintro e w15 ⟨k15, n15, s15, t15, A15, m15, c15, rfl, hv15, b15⟩
    have HBn := Lib.hid (HB.out.trans (b15.mono HB.out.size))
    have HBVn := Lib.hid (HBV.out.trans (b15.mono HBV.out.size))
    clear HBV
    have HBV := HBVn
    clear HBVn
    have HB8n := Lib.hid (HB8.out.trans (b15.mono HB8.out.size))
    clear HB8
    have HB8 := HB8n
    clear HB8n
    have HB11n := Lib.hid (HB11.out.trans (b15.mono HB11.out.size))
    clear HB11
    have HB11 := HB11n
    clear HB11n
    have HB12n := Lib.hid (HB12.out.trans (b15.mono HB12.out.size))
    clear HB12
    have HB12 := HB12n
    clear HB12n
    clear HB x0 x1 x2 x3 x4 y0 y1 y2 y3 y4 z0 z1 z2 z3 z4 a0 a1 a2 a3 a4 b0 b1 b2 b3 b4
    have HB := HBn
    clear HBn
    have gx := (HB.out.block _ (heap_lt HG0.out)).trans HG0.out
    obtain ⟨x0, x1, x2, x3, x4⟩ := five_of gx
    clear gx
    have gx := (HBV.out.block _ (heap_lt HGV.out)).trans HGV.out
    obtain ⟨y0, y1, y2, y3, y4⟩ := five_of gx
    clear gx
    have gx := (HB8.out.block _ (heap_lt HG8.out)).trans HG8.out
    obtain ⟨z0, z1, z2, z3, z4⟩ := five_of gx
    clear gx
    have gx := (HB11.out.block _ (heap_lt HG11.out)).trans HG11.out
    obtain ⟨a0, a1, a2, a3, a4⟩ := five_of gx
    clear gx
    have gx := (HB12.out.block _ (heap_lt HG12.out)).trans HG12.out
    obtain ⟨b0, b1, b2, b3, b4⟩ := five_of gx
    clear gx
    clear b15
    rw [HE0.out]
    obtain ⟨w16, hw⟩ : ∃ W, W = w15.alloc (.cells #[.int .i8 k15, .int .i64 n15, .string s15, .string t15, .slice A15 m15 c15] 48) := ⟨_, rfl⟩
    obtain ⟨g15, hg15⟩ : ∃ g, g = w15.heap.size := ⟨_, rfl⟩
    have HG15 : Hid (w16.heap[g15]? = some (.cells #[.int .i8 k15, .int .i64 n15, .string s15, .string t15, .slice A15 m15 c15] 48 (0, 0))) := Lib.hid (by rw [hw, hg15]; exact block_alloc _ _)
    have bw : Below w15.heap.size w15 w16 := by rw [hw]; exact (Below.refl _ _).alloc (Nat.le_refl _) _
    have HV15 := Lib.hid (hv15.laterN bw)
    have HBn := Lib.hid (HB.out.trans (bw.mono HB.out.size))
    have HBVn := Lib.hid (HBV.out.trans (bw.mono HBV.out.size))
    clear HBV
    have HBV := HBVn
    clear HBVn
    have HB8n := Lib.hid (HB8.out.trans (bw.mono HB8.out.size))
    clear HB8
    have HB8 := HB8n
    clear HB8n
    have HB11n := Lib.hid (HB11.out.trans (bw.mono HB11.out.size))
    clear HB11
    have HB11 := HB11n
    clear HB11n
    have HB12n := Lib.hid (HB12.out.trans (bw.mono HB12.out.size))
    clear HB12
    have HB12 := HB12n
    clear HB12n
    clear HB x0 x1 x2 x3 x4 y0 y1 y2 y3 y4 z0 z1 z2 z3 z4 a0 a1 a2 a3 a4 b0 b1 b2 b3 b4 hv15 bw
    have HB := HBn
    clear HBn
    have HB15 := Lib.hid (Below.refl w16.heap.size w16)
    go_upto_region 12 with fail
    rw [← hw, ← hg15]
    clear hw hg15
    have gx := (HB.out.block _ (heap_lt HG0.out)).trans HG0.out
    obtain ⟨x0, x1, x2, x3, x4⟩ := five_of gx
    clear gx
    have gx := (HBV.out.block _ (heap_lt HGV.out)).trans HGV.out
    obtain ⟨y0, y1, y2, y3, y4⟩ := five_of gx
    clear gx
    have gx := (HB8.out.block _ (heap_lt HG8.out)).trans HG8.out
    obtain ⟨z0, z1, z2, z3, z4⟩ := five_of gx
    clear gx
    have gx := (HB11.out.block _ (heap_lt HG11.out)).trans HG11.out
    obtain ⟨a0, a1, a2, a3, a4⟩ := five_of gx
    clear gx
    have gx := (HB12.out.block _ (heap_lt HG12.out)).trans HG12.out
    obtain ⟨b0, b1, b2, b3, b4⟩ := five_of gx
    clear gx
    have gx := (HB15.out.block _ (heap_lt HG15.out)).trans HG15.out
    obtain ⟨c0, c1, c2, c3, c4⟩ := five_of gx
    clear gx
    go_wp2_with fail
    refine (wakes11_any w16 (HE.out.under HB.out)).mono ?_
    rintro e w9 ⟨rfl, b9⟩
    have HF := Lib.hid (HB1.out.trans ((HB.out.trans (b9.mono HB.out.size)).mono HB1.out.size))
    clear b9
    go_wp2_with fail
    go_ret
    exact ⟨rfl, HF.out⟩
  | some y =>
    go_wp2_with fail
    refine (Same_yes11 y _ _ w13 HV12.out (HV11.out.laterN HB11.out)).mono ?_
    rintro e w14 ⟨rfl, b14⟩
    have HBn := Lib.hid (HB.out.trans (b14.mono HB.out.size))
    have HBVn := Lib.hid (HBV.out.trans (b14.mono HBV.out.size))
    clear HBV
    have HBV := HBVn
    clear HBVn
    have HB8n := Lib.hid (HB8.out.trans (b14.mono HB8.out.size))
    clear HB8
    have HB8 := HB8n
    clear HB8n
    have HB11n := Lib.hid (HB11.out.trans (b14.mono HB11.out.size))
    clear HB11
    have HB11 := HB11n
    clear HB11n
    have HB12n := Lib.hid (HB12.out.trans (b14.mono HB12.out.size))
    clear HB12
    have HB12 := HB12n
    clear HB12n
    clear HB x0 x1 x2 x3 x4 y0 y1 y2 y3 y4 z0 z1 z2 z3 z4 a0 a1 a2 a3 a4 b0 b1 b2 b3 b4
    have HB := HBn
    clear HBn
    have gx := (HB.out.block _ (heap_lt HG0.out)).trans HG0.out
    obtain ⟨x0, x1, x2, x3, x4⟩ := five_of gx
    clear gx
    have gx := (HBV.out.block _ (heap_lt HGV.out)).trans HGV.out
    obtain ⟨y0, y1, y2, y3, y4⟩ := five_of gx
    clear gx
    have gx := (HB8.out.block _ (heap_lt HG8.out)).trans HG8.out
    obtain ⟨z0, z1, z2, z3, z4⟩ := five_of gx
    clear gx
    have gx := (HB11.out.block _ (heap_lt HG11.out)).trans HG11.out
    obtain ⟨a0, a1, a2, a3, a4⟩ := five_of gx
    clear gx
    have gx := (HB12.out.block _ (heap_lt HG12.out)).trans HG12.out
    obtain ⟨b0, b1, b2, b3, b4⟩ := five_of gx
    clear gx
    clear b14
    have he0 : valE l (vaN nm) = 0 := by rw [va_E l nm HNB.out HUS.out HML.out, ← HFO.out]
    have HE0 := Lib.hid he0
    clear he0
    go_wp2_with fail
    refine (Value_any l (vaN nm) _ A m cap w14 (.leaf _ _ 5 0 nm (by decide) (by decide) HNM.out) (HR.out.later HB.out) (va_nodes nm) (HE.out.under HB.out).env).mono ?_
    rintro e w15 ⟨k15, n15, s15, t15, A15, m15, c15, rfl, hv15, b15⟩
    have HBn := Lib.hid (HB.out.trans (b15.mono HB.out.size))
    have HBVn := Lib.hid (HBV.out.trans (b15.mono HBV.out.size))
    clear HBV
    have HBV := HBVn
    clear HBVn
    have HB8n := Lib.hid (HB8.out.trans (b15.mono HB8.out.size))
    clear HB8
    have HB8 := HB8n
    clear HB8n
    have HB11n := Lib.hid (HB11.out.trans (b15.mono HB11.out.size))
    clear HB11
    have HB11 := HB11n
    clear HB11n
    have HB12n := Lib.hid (HB12.out.trans (b15.mono HB12.out.size))
    clear HB12
    have HB12 := HB12n
    clear HB12n
    clear HB x0 x1 x2 x3 x4 y0 y1 y2 y3 y4 z0 z1 z2 z3 z4 a0 a1 a2 a3 a4 b0 b1 b2 b3 b4
    have HB := HBn
    clear HBn
    have gx := (HB.out.block _ (heap_lt HG0.out)).trans HG0.out
    obtain ⟨x0, x1, x2, x3, x4⟩ := five_of gx
    clear gx
    have gx := (HBV.out.block _ (heap_lt HGV.out)).trans HGV.out
    obtain ⟨y0, y1, y2, y3, y4⟩ := five_of gx
    clear gx
    have gx := (HB8.out.block _ (heap_lt HG8.out)).trans HG8.out
    obtain ⟨z0, z1, z2, z3, z4⟩ := five_of gx
    clear gx
    have gx := (HB11.out.block _ (heap_lt HG11.out)).trans HG11.out
    obtain ⟨a0, a1, a2, a3, a4⟩ := five_of gx
    clear gx
    have gx := (HB12.out.block _ (heap_lt HG12.out)).trans HG12.out
    obtain ⟨b0, b1, b2, b3, b4⟩ := five_of gx
    clear gx
    clear b15
    rw [HE0.out]
    obtain ⟨w16, hw⟩ : ∃ W, W = w15.alloc (.cells #[.int .i8 k15, .int .i64 n15, .string s15, .string t15, .slice A15 m15 c15] 48) := ⟨_, rfl⟩
    obtain ⟨g15, hg15⟩ : ∃ g, g = w15.heap.size := ⟨_, rfl⟩
    have HG15 : Hid (w16.heap[g15]? = some (.cells #[.int .i8 k15, .int .i64 n15, .string s15, .string t15, .slice A15 m15 c15] 48 (0, 0))) := Lib.hid (by rw [hw, hg15]; exact block_alloc _ _)
    have bw : Below w15.heap.size w15 w16 := by rw [hw]; exact (Below.refl _ _).alloc (Nat.le_refl _) _
    have HV15 := Lib.hid (hv15.laterN bw)
    have HBn := Lib.hid (HB.out.trans (bw.mono HB.out.size))
    have HBVn := Lib.hid (HBV.out.trans (bw.mono HBV.out.size))
    clear HBV
    have HBV := HBVn
    clear HBVn
    have HB8n := Lib.hid (HB8.out.trans (bw.mono HB8.out.size))
    clear HB8
    have HB8 := HB8n
    clear HB8n
    have HB11n := Lib.hid (HB11.out.trans (bw.mono HB11.out.size))
    clear HB11
    have HB11 := HB11n
    clear HB11n
    have HB12n := Lib.hid (HB12.out.trans (bw.mono HB12.out.size))
    clear HB12
    have HB12 := HB12n
    clear HB12n
    clear HB x0 x1 x2 x3 x4 y0 y1 y2 y3 y4 z0 z1 z2 z3 z4 a0 a1 a2 a3 a4 b0 b1 b2 b3 b4 hv15 bw
    have HB := HBn
    clear HBn
    have HB15 := Lib.hid (Below.refl w16.heap.size w16)
    go_upto_region 12 with fail
    rw [← hw, ← hg15]
    clear hw hg15
    have gx := (HB.out.block _ (heap_lt HG0.out)).trans HG0.out
    obtain ⟨x0, x1, x2, x3, x4⟩ := five_of gx
    clear gx
    have gx := (HBV.out.block _ (heap_lt HGV.out)).trans HGV.out
    obtain ⟨y0, y1, y2, y3, y4⟩ := five_of gx
    clear gx
    have gx := (HB8.out.block _ (heap_lt HG8.out)).trans HG8.out
    obtain ⟨z0, z1, z2, z3, z4⟩ := five_of gx
    clear gx
    have gx := (HB11.out.block _ (heap_lt HG11.out)).trans HG11.out
    obtain ⟨a0, a1, a2, a3, a4⟩ := five_of gx
    clear gx
    have gx := (HB12.out.block _ (heap_lt HG12.out)).trans HG12.out
    obtain ⟨b0, b1, b2, b3, b4⟩ := five_of gx
    clear gx
    have gx := (HB15.out.block _ (heap_lt HG15.out)).trans HG15.out
    obtain ⟨c0, c1, c2, c3, c4⟩ := five_of gx
    clear gx
    go_wp2_with fail
    refine (wakes11_any w16 (HE.out.under HB.out)).mono ?_
    rintro e w9 ⟨rfl, b9⟩
    have HF := Lib.hid (HB1.out.trans ((HB.out.trans (b9.mono HB.out.size)).mono HB1.out.size))
    clear b9
    go_wp2_with fail
    go_ret
    exact ⟨rfl, HF.out⟩
end Go.Proofs.YthbiaaeoajmlbaaGreatDoor
