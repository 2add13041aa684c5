/- HeapLower: its walk. -/
import Derived.Test.YtphfekcacaaabaaDoorLowerA
import Derived.Test.YtphfekcacaaabaaDoorWakes04
import Derived.Deep.RegionHeld
import Derived.OrdersHeld
import Derived.Deep.DeepCutAuto
import Derived.Tactics2
import Derived.LoopTactic
import Derived.LoopNIn
set_option linter.unusedVariables false
namespace Go.Proofs.YtphfekcacaaabaaDoor
open Go.RowKit

/-- What holds behind an act. -/
def StepL (s : HSt) (cv : Value) (vs : List Value) (V0 V : World) : Prop :=
  ∃ s1 : HSt, HOk s1 ∧ (∃ more : List HC, s1.cs = s.cs ++ more ∧ more.length ≤ 256) ∧ LB V0.heap.size s1 cv vs V0 V
theorem StepL.of {s : HSt} {cv : Value} {vs : List Value} {V0 V V' : World} (h : LB V0.heap.size s cv vs V0 V) (hp : StepS V0.heap.size s V V') : StepL s cv vs V0 V' := by
  obtain ⟨s1, h1, h2, more, h3, h4⟩ := hp
  exact ⟨s1, h2, ⟨more, h3, h4⟩, h.move (Nat.le_refl _) h1 ⟨more, h3⟩⟩

set_option maxHeartbeats 16000000 in
set_option maxRecDepth 100000 in
theorem walk_HeapLower (v0 : Value) (w : World) (o0 : ∃ A n cap l, v0 = .slice A n cap ∧ ARow w.heap.size w A n cap l) (hL : Spans w ∧ PowTab w) :
    Calls Tryd.prog 5 #[v0] w fun e w' => e = .returned (.bool true) ∧ Below w.heap.size w w' := by
  obtain ⟨A, n, cap, l, rfl, hR⟩ := o0
  obtain rfl := hR.len
  have hmax := hR.max
  unfold maxLen at hmax
  have HR := Lib.hid hR
  have HSP := Lib.hid hL.1
  have HPW := Lib.hid hL.2
  clear hR hL
  go_enter Tryd.func5, Tryd.ntmps5
  go_wp2_with fail
  refine (greatA_any A l.length cap l w HR.out).mono ?_
  rintro e V0 ⟨b, rfl, hb, b0⟩
  have HG := Lib.hid hb
  have HB0 := Lib.hid b0
  have HSP0 := Lib.hid (HSP.out.below b0 HSP.out.lt)
  have HPW0 := Lib.hid (Go.Lib.tabBelow_of_tabIs HPW.out _ b0)
  clear hb b0
  cases b with
  | true =>
    go_wp2_with fail
    refine (wakes4_ok V0 HSP0.out HPW0.out).mono ?_
    rintro e V ⟨rfl, b⟩
    have HB := Lib.hid (HB0.out.trans (b.mono HB0.out.size))
    clear b
    go_wp2_with fail
    go_ret
    exact ⟨rfl, HB.out⟩
  | false =>
    by_cases h100 : (100 : Int) < (l.length : Int)
    · go_wp2_with fail
      refine (wakes4_ok V0 HSP0.out HPW0.out).mono ?_
      rintro e V ⟨rfl, b⟩
      have HB := Lib.hid (HB0.out.trans (b.mono HB0.out.size))
      clear b
      go_wp2_with fail
      go_ret
      exact ⟨rfl, HB.out⟩
    have HA := Lib.hid (HG.out rfl)
    have HR0 : Hid (ARow w.heap.size V0 A l.length cap l) := HR.out.under HB0.out (Nat.le_refl _)
    have HW0 : Hid (w.heap.size ≤ V0.heap.size) := HB0.out.size
    go_wp2_with fail
    refine (New_any V0.heap.size V0 (Nat.le_refl _)).mono ?_
    rintro e V1 ⟨rfl, h1, b1⟩
    have H0 : Hid (LB V0.heap.size ⟨[], 0, .slice none 0 0, none, 0⟩ (.slice none 0 0) [] V0 V1) :=
      ⟨b1, h1, World.ownsRow_nil _ _ _ _, fun g hg => by simp [Value.ownBlock] at hg, Nat.le_refl _, fun n c hn hc => by simp at hn⟩
    clear h1 b1
    go_wp2_with fail
    go_loopw [4, 5, 6] (fun cv wv i wr => ∃ (j : Nat) (s : HSt) (CA : Option Addr) (ccap : Nat) (vs : List Value) (M q : Nat), j ≤ l.length ∧ i = .int .i64 j ∧ cv = .slice CA q ccap ∧ wv = .int .i64 M ∧ M = wordsOf s.cs ∧ vs.length = q ∧ q = s.cs.length ∧ s.cs.length ≤ 256 * j ∧ HOk s ∧ LB V0.heap.size s (.slice CA q ccap) vs V0 wr) (fun _ _ i _ => l.length - (intOf i).toNat)
    case atStart => exact ⟨0, ⟨[], 0, .slice none 0 0, none, 0⟩, none, 0, [], 0, 0, Nat.zero_le _, rfl, rfl, rfl, rfl, rfl, rfl, Nat.zero_le _, ⟨good_none, rfl, by show 0 ≤ 1000000; omega⟩, H0.out⟩
    case round =>
      obtain ⟨j, s, CA, ccap, vs, M, q, hj, rfl, rfl, rfl, hM, hvs, hvl, hcl, hok, hlb⟩ := hrel
      have HVS := Lib.hid hvs
      have HM := Lib.hid hM
      have HVL := Lib.hid hvl
      have HCL := Lib.hid hcl
      have HOK := Lib.hid hok
      have H1 := Lib.hid hlb
      clear hM hvs hvl hcl hok hlb
      by_cases hlt : j < l.length
      · obtain ⟨a, ha⟩ : ∃ a, l[j]? = some a := ⟨l[j], List.getElem?_eq_getElem hlt⟩
        obtain ⟨ad, rfl, had, hact⟩ := HR0.out.at_ j a ha
        obtain ⟨k, nn, s1, t1, tl, TA, tc, LA, Lc, k2, n2, s2, t2, l2, A2, cap2, ex, eq, hr, hT1, hW, hWm, hT2⟩ := hact
        have HRW := Lib.hid hr
        have HT1 := Lib.hid (hT1.keep (Q := (· < w.heap.size)) (fun b hb => H1.out.below.block b (Nat.lt_of_lt_of_le hb HW0.out)) (fun _ h => h))
        have HWR := Lib.hid (hW.keep (Q := (· < w.heap.size)) (fun b hb => H1.out.below.block b (Nat.lt_of_lt_of_le hb HW0.out)) (fun _ h => h))
        have HLL := Lib.hid (HA.out a (List.mem_of_getElem? ha))
        have HAD : Hid (ad.block < V0.heap.size) := Nat.lt_of_lt_of_le had HW0.out
        have HRR := Lib.hid (HRW.out.keep (H1.out.below.block ad.block HAD.out))
        have HLO : Hid (∀ (b : Nat), b < w.heap.size → b < wr.heap.size ∧ s.Core V0.heap.size wr b ∧ b ≠ V0.heap.size) := fun b hb => ⟨Nat.lt_of_lt_of_le hb (Nat.le_trans HW0.out H1.out.below.size), H1.out.heap.low_core (Nat.lt_of_lt_of_le hb HW0.out)⟩
        have HSPR := Lib.hid (HSP0.out.below H1.out.below HSP0.out.lt)
        have hlm : (a.L.length : Int) ≤ 9223372036854775807 := by unfold maxLen at hWm; omega
        have i0 : (0 : Int) ≤ (j : Int) := by omega
        have i1 : (j : Int) < (l.length : Int) := by omega
        clear hr hT1 hW hT2 ha ex eq
        obtain ⟨d0, d1, d2, d3, d4, d5, d6, d7, d8, d9, d10, d11, d12, d13, d14, d15⟩ := HRR.out
        go_upto_if 37 with fail
        go_cut [] (fun wx => StepL s (.slice CA q ccap) vs V0 wx)
        case first =>
          by_cases hd : a.d = 0
          · go_wp2_with fail
            refine (put_call _ (· < w.heap.size) _ wr HOK.out (by have := HCL.out; omega) H1.out.below.size H1.out.heap HT1.out HLO.out HSPR.out).mono ?_
            rintro e V2 ⟨⟨v, rfl⟩, hst⟩
            have HST := Lib.hid (StepL.of H1.out hst)
            clear hst
            go_wp2_with fail
            go_meet
            exact HST.out
          · go_wp2_with fail
            have hSD : (wr.drew.cell? ⟨(ad.add (j * 16)).block, (ad.add (j * 16)).off + 6, none⟩ = some (.int .i8 a.k) ∧ wr.drew.cell? ⟨(ad.add (j * 16)).block, (ad.add (j * 16)).off + 7, none⟩ = some (.slice LA a.L.length Lc)) := ⟨d6, d7⟩
            have bD : Below wr.heap.size wr wr.drew := ⟨rfl, rfl, rfl, Nat.le_refl _, fun _ _ => rfl⟩
            have hMC := make_call a.k a.L LA Lc (· < w.heap.size) wr.drew HOK.out (Nat.le_trans H1.out.below.size bD.size) (H1.out.heap.under bD) (HWR.out.keep (fun b hb => bD.block b (HLO.out b hb).1) (fun _ h => h)) (fun b hb => ⟨Nat.lt_of_lt_of_le (HLO.out b hb).1 bD.size, (HLO.out b hb).2.1.under bD, (HLO.out b hb).2.2⟩) (Nat.le_trans HLL.out (by omega)) (HSPR.out.below bD HSPR.out.lt)
            have h1D := H1.out.under (Nat.le_refl _) bD
            clear d0 d1 d2 d3 d4 d5 d6 d7 d8 d9 d10 d11 d12 d13 d14 d15 bD
            refine wp_region_held (S := fun V => V.cell? ⟨(ad.add (j * 16)).block, (ad.add (j * 16)).off + 6, none⟩ = some (.int .i8 a.k) ∧ V.cell? ⟨(ad.add (j * 16)).block, (ad.add (j * 16)).off + 7, none⟩ = some (.slice LA a.L.length Lc)) (by kernel_rfl) ?_
            show wpAnyH _ _ _ _ _ _ _ _ wr.drew
            generalize wr.drew = D at hSD hMC h1D ⊢
            refine wpAnyH_take (i := 0) (oi := ⟨some 45, _, _, _, _, _⟩) (v := ?_) rfl (by kernel_rfl) (by kernel_rfl) (by kernel_rfl) (fun _ _ _ h => h) (Or.inl ⟨by kernel_rfl, ?_⟩) (by assumption) ?_; rotate_left; (intro w hSw; (try dsimp only at hSw); obtain ⟨d6, d7⟩ := hSw; go_simp; first | done | with_reducible rfl); (try simp only [Act.put, List.setIfInBounds_toArray, List.set_cons_zero, List.set_cons_succ])
            refine wpAnyH_take (i := 1) (oi := ⟨some 46, _, _, _, _, _⟩) (v := ?_) rfl (by kernel_rfl) (by kernel_rfl) (by kernel_rfl) (fun _ _ _ h => h) (Or.inl ⟨by kernel_rfl, ?_⟩) (by assumption) ?_; rotate_left; (intro w hSw; (try dsimp only at hSw); obtain ⟨d6, d7⟩ := hSw; go_simp; first | done | with_reducible rfl); (try simp only [Act.put, List.setIfInBounds_toArray, List.set_cons_zero, List.set_cons_succ])
            refine wpAnyH_take (i := 2) (oi := ⟨some 47, _, _, _, _, _⟩) (v := ?_) rfl (by kernel_rfl) (by kernel_rfl) (by kernel_rfl) (fun _ _ _ h => h) (Or.inl ⟨by kernel_rfl, ?_⟩) (by assumption) ?_; rotate_left; (intro w hSw; (try dsimp only at hSw); obtain ⟨d6, d7⟩ := hSw; go_simp; first | done | with_reducible rfl); (try simp only [Act.put, List.setIfInBounds_toArray, List.set_cons_zero, List.set_cons_succ])
            refine wpAnyH_take (i := 3) (oi := ⟨some 48, _, _, _, _, _⟩) (v := ?_) rfl (by kernel_rfl) (by kernel_rfl) (by kernel_rfl) (fun _ _ _ h => h) (Or.inl ⟨by kernel_rfl, ?_⟩) (by assumption) ?_; rotate_left; (intro w hSw; (try dsimp only at hSw); obtain ⟨d6, d7⟩ := hSw; go_simp; first | done | with_reducible rfl); (try simp only [Act.put, List.setIfInBounds_toArray, List.set_cons_zero, List.set_cons_succ])
            refine wpAnyH_take (i := 4) (oi := ⟨some 49, _, _, _, _, _⟩) (v := ?_) rfl (by kernel_rfl) (by kernel_rfl) (by kernel_rfl) (fun _ _ _ h => h) (Or.inl ⟨by kernel_rfl, ?_⟩) (by assumption) ?_; rotate_left; (intro w hSw; (try dsimp only at hSw); obtain ⟨d6, d7⟩ := hSw; go_simp; first | done | with_reducible rfl); (try simp only [Act.put, List.setIfInBounds_toArray, List.set_cons_zero, List.set_cons_succ])
            refine wpAnyH_take (i := 5) (oi := ⟨some 50, _, _, _, _, _⟩) (v := ?_) rfl (by kernel_rfl) (by kernel_rfl) (by kernel_rfl) (fun _ _ _ h => h) (Or.inl ⟨by kernel_rfl, ?_⟩) (by assumption) ?_; rotate_left; (intro w hSw; (try dsimp only at hSw); obtain ⟨d6, d7⟩ := hSw; go_simp; first | done | with_reducible rfl); (try simp only [Act.put, List.setIfInBounds_toArray, List.set_cons_zero, List.set_cons_succ])
            refine wpAnyH_take (i := 6) (oi := ⟨some 51, _, _, _, _, _⟩) (v := ?_) rfl (by kernel_rfl) (by kernel_rfl) (by kernel_rfl) (fun _ _ _ h => h) (Or.inl ⟨by kernel_rfl, ?_⟩) (by assumption) ?_; rotate_left; (intro w hSw; (try dsimp only at hSw); obtain ⟨d6, d7⟩ := hSw; go_simp; first | done | with_reducible rfl); (try simp only [Act.put, List.setIfInBounds_toArray, List.set_cons_zero, List.set_cons_succ])
            refine wpAnyH_take (i := 7) (oi := ⟨some 52, _, _, _, _, _⟩) (v := ?_) rfl (by kernel_rfl) (by kernel_rfl) (by kernel_rfl) (fun _ _ _ h => h) (Or.inl ⟨by kernel_rfl, ?_⟩) (by assumption) ?_; rotate_left; (intro w hSw; (try dsimp only at hSw); obtain ⟨d6, d7⟩ := hSw; go_simp; first | done | with_reducible rfl); (try simp only [Act.put, List.setIfInBounds_toArray, List.set_cons_zero, List.set_cons_succ])
            refine wpAnyH_take (i := 8) (oi := ⟨some 53, _, _, _, _, _⟩) (v := ?_) rfl (by kernel_rfl) (by kernel_rfl) (by kernel_rfl) (fun _ _ _ h => h) (Or.inl ⟨by kernel_rfl, ?_⟩) (by assumption) ?_; rotate_left; (intro w hSw; (try dsimp only at hSw); obtain ⟨d6, d7⟩ := hSw; go_simp; first | done | with_reducible rfl); (try simp only [Act.put, List.setIfInBounds_toArray, List.set_cons_zero, List.set_cons_succ])
            refine wpAnyH_take (i := 9) (oi := ⟨some 54, _, _, _, _, _⟩) (v := ?_) rfl (by kernel_rfl) (by kernel_rfl) (by kernel_rfl) (fun _ _ _ h => h) (Or.inl ⟨by kernel_rfl, ?_⟩) (by assumption) ?_; rotate_left; (intro w hSw; (try dsimp only at hSw); obtain ⟨d6, d7⟩ := hSw; go_simp; first | done | with_reducible rfl); (try simp only [Act.put, List.setIfInBounds_toArray, List.set_cons_zero, List.set_cons_succ])
            refine wpAnyH_take (i := 10) (oi := ⟨some 55, _, _, _, _, _⟩) (v := ?_) rfl (by kernel_rfl) (by kernel_rfl) (by kernel_rfl) (fun _ _ _ h => h) (Or.inl ⟨by kernel_rfl, ?_⟩) (by assumption) ?_; rotate_left; (intro w hSw; (try dsimp only at hSw); obtain ⟨d6, d7⟩ := hSw; go_simp; first | done | with_reducible rfl); (try simp only [Act.put, List.setIfInBounds_toArray, List.set_cons_zero, List.set_cons_succ])
            refine wpAnyH_ready (rs := [11]) (by kernel_rfl) (by simp) ?_
            refine AllReadyH.cons (o := ⟨some 56, _, _, _, _, _⟩) rfl (fun K hK => ?_) AllReadyH.nil
            rw [if_pos (by rfl)]
            go_simp
            refine hMC.mono ?_
            rintro e V2 ⟨⟨v, rfl⟩, hst⟩
            have hsl := StepL.of h1D hst
            have HST := Lib.hid hsl
            obtain ⟨s3, -, -, hl3⟩ := hsl
            have hrr := HRW.out.keep (hl3.below.block ad.block HAD.out)
            obtain ⟨d0, d1, d2, d3, d4, d5, d6, d7, d8, d9, d10, d11, d12, d13, d14, d15⟩ := hrr
            have hS7 : (V2.cell? ⟨(ad.add (j * 16)).block, (ad.add (j * 16)).off + 6, none⟩ = some (.int .i8 a.k) ∧ V2.cell? ⟨(ad.add (j * 16)).block, (ad.add (j * 16)).off + 7, none⟩ = some (.slice LA a.L.length Lc)) := ⟨d6, d7⟩
            clear hMC hst hl3 hSD h1D d0 d1 d2 d3 d4 d5 d6 d7 d8 d9 d10 d11 d12 d13 d14 d15
            refine hK.out _ _ hS7 (fun hSn => ?_)
            clear hK K; (try simp only [Act.put, List.setIfInBounds_toArray, List.set_cons_zero, List.set_cons_succ])
            refine wpAnyH_done (by kernel_rfl) ?_ _
            clear hS7
            go_wp2_with fail
            go_meet
            exact HST.out
        case rest =>
          obtain ⟨s3, hok3, ⟨more, he3, hm3⟩, hlb3⟩ := hcut
          have HOK3 := Lib.hid hok3
          have HCL3 : Hid (s3.cs.length ≤ 256 * (j + 1)) := by have := HCL.out; show _ ≤ _; rw [he3, List.length_append]; omega
          have HM3 : Hid (M = wordsOf (s3.cs.take q)) := by
            show _ = _
            rw [he3, HM.out, HVL.out, List.take_append_of_le_length (Nat.le_refl _), List.take_length]
          have H3 := Lib.hid hlb3
          clear hok3 he3 hm3 hlb3 d0 d1 d2 d3 d4 d5 d6 d7 d8 d9 d10 d11 d12 d13 d14 d15
          go_wp2_with fail
          go_loopw [4, 5, 7] (fun cv wv nv wr => ∃ (CA2 : Option Addr) (ccap2 : Nat) (vs2 : List Value) (M2 q2 : Nat), cv = .slice CA2 q2 ccap2 ∧ wv = .int .i64 M2 ∧ M2 = wordsOf (s3.cs.take q2) ∧ nv = .int .i64 q2 ∧ vs2.length = q2 ∧ LB V0.heap.size s3 (.slice CA2 q2 ccap2) vs2 V0 wr) (fun _ _ nv _ => s3.cs.length - (intOf nv).toNat)
          case atStart => exact ⟨CA, ccap, vs, M, q, rfl, rfl, HM3.out, rfl, HVS.out, H3.out⟩
          case round =>
            clear H3 HM3
            obtain ⟨CA2, ccap2, vs2, M2, q2, rfl, rfl, hM2, rfl, hvs2, hl2⟩ := hrel
            have HM2 := Lib.hid hM2
            have HV2 := Lib.hid hvs2
            have H2 := Lib.hid hl2
            have hMb : M2 ≤ 1000000000 := by
              have h1 := wordsOf_take_le s3.cs q2
              have h2 := wordsOf_le HOK3.out.good
              have h3 := HOK3.out.good.len
              omega
            have hqb : q2 ≤ 1048576 := by
              have h1 := hl2.len
              have h3 := HOK3.out.good.len
              omega
            clear hM2 hvs2 hl2
            by_cases hlt2 : q2 < s3.cs.length
            · obtain ⟨c, hc⟩ : ∃ c, s3.cs[q2]? = some c := ⟨s3.cs[q2], List.getElem?_eq_getElem hlt2⟩
              have HCC := Lib.hid hc
              have hcb := HOK3.out.good.len_le hc
              have HC5 := Lib.hid (Cell_any wr H2.out.heap q2 c hc (by omega))
              clear hc
              go_wp2_with fail
              refine (Len_any wr H2.out.heap).mono ?_
              rintro e V ⟨rfl, hVV⟩
              subst V
              go_wp2_with fail
              refine HC5.out.mono ?_
              rintro e V5 ⟨A5, cap5, rfl, b5, hcp5⟩
              obtain ⟨V6, hV6⟩ : ∃ V6, V6 = V5.alloc (.cells #[(.int .i8 c.k), (.int .i64 c.size), (.slice A5 c.L.length cap5)] 39) := ⟨_, rfl⟩
              have b6 : Below V5.heap.size V5 V6 := by rw [hV6]; exact (Below.refl _ _).alloc (Nat.le_refl _) _
              have g6 : V6.heap[V5.heap.size]? = some (.cells #[(.int .i8 c.k), (.int .i64 c.size), (.slice A5 c.L.length cap5)] 39 (0, 0)) := by rw [hV6]; exact block_alloc _ _
              have h6 := (H2.out.under (Nat.le_refl _) b5).under (Nat.le_refl _) b6
              have hcp6 : CopyAt V0.heap.size s3 (.slice CA2 q2 ccap2) c.L A5 V6 := fun hL => by
                obtain ⟨g, e, h1, h2, h3⟩ := hcp5 hL
                have hf := H2.out.heap.fresh h1
                exact ⟨g, e, Nat.lt_of_lt_of_le h2 b6.size, (hf.1.under b5).under b6, hf.2, fun e2 => by have := (H2.out.own.lt g e2).2; omega, h3.keep (b6.block g h2)⟩
              have H6 := Lib.hid h6
              have HCP := Lib.hid hcp6
              have HG6 := Lib.hid g6
              have HS5 := Lib.hid b5.size
              clear b5 b6 h6 hcp5 hcp6
              have y0 : V6.cell? ⟨V5.heap.size, 0, none⟩ = some (.int .i8 c.k) := cell_of_row g6 rfl
              have y1 : V6.cell? ⟨V5.heap.size, 1, none⟩ = some (.int .i64 c.size) := cell_of_row g6 rfl
              have y2 : V6.cell? ⟨V5.heap.size, 2, none⟩ = some (.slice A5 c.L.length cap5) := cell_of_row g6 rfl
              clear g6
              subst hV6
              go_wp2_with fail
              generalize V5.alloc (.cells #[(.int .i8 c.k), (.int .i64 c.size), (.slice A5 c.L.length cap5)] 39) = V6 at H6 HCP HG6 ⊢
              clear y0 y1 y2
              go_loopw [10, 11] (fun sz kv wr => ∃ m Z : Nat, m ≤ c.L.length ∧ sz = .int .i64 Z ∧ Z = wsum s3.cs (c.L.take m) ∧ kv = .int .i64 m ∧ Below V6.heap.size V6 wr) (fun _ kv _ => c.L.length - (intOf kv).toNat)
              case atStart => exact ⟨0, 1, Nat.zero_le _, rfl, by simp [wsum], rfl, Below.refl _ _⟩
              case round =>
                obtain ⟨m, Z, hm, rfl, hZ, rfl, hB⟩ := hrel
                have HZ := Lib.hid hZ
                have HB := Lib.hid hB
                have hZb : Z ≤ 1000000 := by
                  have := wsum_le HOK3.out.good.most (c.L.take m)
                  rw [List.length_take] at this
                  omega
                have g7 := (hB.block _ (heap_lt HG6.out)).trans HG6.out
                clear hB hZ
                have y0 : wr.cell? ⟨V5.heap.size, 0, none⟩ = some (.int .i8 c.k) := cell_of_row g7 rfl
                have y1 : wr.cell? ⟨V5.heap.size, 1, none⟩ = some (.int .i64 c.size) := cell_of_row g7 rfl
                have y2 : wr.cell? ⟨V5.heap.size, 2, none⟩ = some (.slice A5 c.L.length cap5) := cell_of_row g7 rfl
                by_cases hlt3 : m < c.L.length
                · obtain ⟨x, hx⟩ : ∃ x, c.L[m]? = some x := ⟨c.L[m], List.getElem?_eq_getElem hlt3⟩
                  have hne : c.L ≠ [] := fun e => by rw [e] at hlt3; simp at hlt3
                  obtain ⟨g, rfl, hgl, -, -, -, hwin⟩ := HCP.out hne
                  have hxl := HOK3.out.good.low q2 c HCC.out x (List.mem_of_getElem? hx)
                  obtain ⟨bb, aa, kk, nn5, ss, tt, hcc⟩ := HW.shape x
                  have hba : bb = true → aa < (q2 : Int) := by
                    intro e
                    cases x with
                    | ref n5 =>
                      simp only [HW.cells, List.cons.injEq, Value.int.injEq, true_and] at hcc
                      have h5 : n5 < q2 := hxl
                      have := hcc.2.1
                      omega
                    | leaf x5 => simp [HW.cells, e] at hcc
                  obtain ⟨q5, hqy, hqm, hqc, hqa, hqx, hqt⟩ := word_aw (N := s3.cs.length) (y := x) (by cases x with | ref n5 => exact Nat.lt_trans hxl hlt2 | leaf x5 => exact hxl) hcc
                  obtain ⟨qc, qa, qx⟩ := q5
                  dsimp only at hqc hqa hqx hqm
                  replace hqc := hqc.symm
                  replace hqa := hqa.symm
                  subst hqc hqa hqx
                  obtain ⟨r0, r1, r2, r3, r4, r5, r6⟩ := (hwin.keep (HB.out.block g hgl)).rowL hx hcc
                  have h7 := H6.out.under (Nat.le_refl _) HB.out
                  have h8 := HSize_any bb aa kk nn5 ss tt [] none 0 wr h7.heap (hqt _ wr) (HSP0.out.below h7.below HSP0.out.lt)
                  obtain ⟨z, hz⟩ : ∃ z : Nat, z = wsize s3.cs x := ⟨_, rfl⟩
                  rw [if_pos hqm, hqy, ← hz] at h8
                  have hzb : z ≤ 256 := by rw [hz]; exact wsize_le HOK3.out.good.most x
                  have HS8 := Lib.hid h8
                  have HZZ : Hid (Z + z = wsum s3.cs (c.L.take (m + 1))) := by show _ = _; rw [wsum_take_succ hx, ← HZ.out, hz]
                  have HRL := Lib.hid (And.intro r0 r1)
                  have HGL : Hid (g < wr.heap.size) := Nat.lt_of_lt_of_le hgl HB.out.size
                  have HG7 := Lib.hid g7
                  have i0 : (0 : Int) ≤ (m : Int) := by omega
                  have i1 : (m : Int) < (c.L.length : Int) := by omega
                  clear hx hne hwin hxl hcc hqy hqm hqt h7 h8 hz g7 hgl
                  go_wp2_with fail
                  refine HS8.out.mono ?_
                  rintro e V9 ⟨rfl, b9⟩
                  have HB9 := Lib.hid (HB.out.trans (b9.mono HB.out.size))
                  have g9 := (b9.block _ (heap_lt HG7.out)).trans HG7.out
                  have ra : V9.cell? ⟨g, m * 7, none⟩ = some (.bool bb) := (World.cell?_of_block (w := wr) (a := ⟨g, m * 7, none⟩) (b9.block g HGL.out)).trans HRL.out.1
                  have rb : V9.cell? ⟨g, m * 7 + 1, none⟩ = some (.int .i64 aa) := (World.cell?_of_block (w := wr) (a := ⟨g, m * 7 + 1, none⟩) (b9.block g HGL.out)).trans HRL.out.2
                  clear b9 y0 y1 y2 r0 r1 r2 r3 r4 r5 r6
                  have y0 : V9.cell? ⟨V5.heap.size, 0, none⟩ = some (.int .i8 c.k) := cell_of_row g9 rfl
                  have y1 : V9.cell? ⟨V5.heap.size, 1, none⟩ = some (.int .i64 c.size) := cell_of_row g9 rfl
                  have y2 : V9.cell? ⟨V5.heap.size, 2, none⟩ = some (.slice (some ⟨g, 0, none⟩) c.L.length cap5) := cell_of_row g9 rfl
                  clear g9
                  cases bb with
                  | true =>
                    have haq := hba rfl
                    clear hba
                    go_wp2_with fail
                    go_roundw
                    case rel => exact ⟨m + 1, Z + z, by omega, by go_num, HZZ.out, by go_num, HB9.out⟩
                    case measure => simp [intOf]; omega
                  | false =>
                    clear hba
                    go_wp2_with fail
                    go_roundw
                    case rel => exact ⟨m + 1, Z + z, by omega, by go_num, HZZ.out, by go_num, HB9.out⟩
                    case measure => simp [intOf]; omega
                · have hme : m = c.L.length := by omega
                  have hZc : Z = c.size := by rw [HZ.out, hme, List.take_length]; exact (HOK3.out.good.size q2 c HCC.out).symm
                  have hs256 : (c.size : Int) ≤ 256 := by have := HOK3.out.good.most q2 c HCC.out; omega
                  subst hZc
                  obtain ⟨V8, hV8⟩ : ∃ V8, V8 = wr.alloc (.cells #[(.int .i8 c.k), (.int .i64 c.size), (.slice A5 c.L.length cap5)] 39) := ⟨_, rfl⟩
                  have b8 : Below wr.heap.size wr V8 := by rw [hV8]; exact (Below.refl _ _).alloc (Nat.le_refl _) _
                  have g8 : V8.heap[wr.heap.size]? = some (.cells #[(.int .i8 c.k), (.int .i64 c.size), (.slice A5 c.L.length cap5)] 39 (0, 0)) := by rw [hV8]; exact block_alloc _ _
                  have h8 := (H6.out.under (Nat.le_refl _) HB.out).under (Nat.le_refl _) b8
                  have hown := h8.own
                  rw [HV2.out] at hown
                  have HOWN := Lib.hid hown
                  have H8 := Lib.hid h8
                  have HCP8 := Lib.hid ((HCP.out.under HB.out).under b8)
                  have HG8 := Lib.hid g8
                  have HG68 := Lib.hid ((b8.block _ (heap_lt g7)).trans g7)
                  have HLE : Hid (q2 + 1 ≤ 2000000) := by show _ ≤ _; omega
                  have HZ8 : Hid (V8.heap.size = wr.heap.size + 1) := by show _ = _; rw [hV8]; exact World.size_alloc _ _
                  have HV8 := Lib.hid hV8
                  clear b8 g8 h8 hown g7 hme
                  go_wp2_with (rw [← hV8]; refine wpList_own_cell rfl (.tmp 123) (.tmp 125) rfl HOWN.out (H8.out.ge (Nat.le_refl _)) rfl wr.heap.size rfl HG8.out HLE.out ?_)
                  intro v9 w9 ho hg hn
                  (try rw [← HV8.out] at hg); (try rw [← HV8.out] at hn)
                  have hn' : v9.ownBlock = (Value.slice CA2 q2 ccap2).ownBlock ∨ v9.ownBlock = some V8.heap.size := hn.imp id (fun e => e.trans (by rw [HZ8.out]))
                  have hgr := H8.out.grow (Nat.le_refl _) (c := c) (A := A5) (cap := cap5) (by rw [HV2.out]; exact HCC.out) HCP8.out (by rw [HV2.out]; exact ho) hg hn'
                  obtain ⟨A9, cap9, rfl⟩ := ownC_shape ho
                  have m9 : Mod (fun k => (Value.slice CA2 q2 ccap2).ownBlock = some k) V8 w9 := Mod.grown hg (fun _ _ e => e)
                  have g9 := (m9.block V5.heap.size (heap_lt HG68.out) (fun e => by have h5 := (H2.out.own.lt _ e).2; have h6 := HS5.out; omega)).trans HG68.out
                  have HNX := Lib.hid hgr
                  have HM9 : Hid (M2 + 1 + c.L.length = wordsOf (s3.cs.take (q2 + 1))) := by show _ = _; rw [wordsOf_take_succ HCC.out, ← HM2.out]
                  have HV9 : Hid ((vs2 ++ [Value.slice A5 c.L.length cap5]).length = q2 + 1) := by show _ = _; rw [List.length_append, HV2.out]; rfl
                  clear hgr hn' hn hg ho m9 hV8 y0 y1 y2
                  have y0 : w9.cell? ⟨V5.heap.size, 0, none⟩ = some (.int .i8 c.k) := cell_of_row g9 rfl
                  have y1 : w9.cell? ⟨V5.heap.size, 1, none⟩ = some (.int .i64 c.size) := cell_of_row g9 rfl
                  have y2 : w9.cell? ⟨V5.heap.size, 2, none⟩ = some (.slice A5 c.L.length cap5) := cell_of_row g9 rfl
                  clear g9
                  go_wp2_with fail
                  go_roundw
                  case rel => exact ⟨A9, cap9, vs2 ++ [Value.slice A5 c.L.length cap5], M2 + 1 + c.L.length, q2 + 1, rfl, by go_num, HM9.out, by go_num, HV9.out, HNX.out⟩
                  case measure => simp [intOf]; omega
            · have hqe : q2 = s3.cs.length := by have h5 := H2.out.len; rw [HV2.out] at h5; omega
              have hMe : M2 = s3.ws := by rw [HM2.out, hqe, List.take_length]; exact HOK3.out.ws.symm
              subst hMe
              subst hqe
              go_wp2_with fail
              refine (Len_any wr H2.out.heap).mono ?_
              rintro e V ⟨rfl, hVV⟩
              subst V
              go_wp2_with fail
              refine (Words_any wr H2.out.heap).mono ?_
              rintro e V ⟨rfl, hVV⟩
              subst V
              go_wp2_with fail
              refine (Len_any wr H2.out.heap).mono ?_
              rintro e V ⟨rfl, hVV⟩
              subst V
              go_wp2_with fail
              go_roundw
              case rel => exact ⟨j + 1, s3, CA2, ccap2, vs2, s3.ws, s3.cs.length, by omega, by go_num, rfl, rfl, HOK3.out.ws, HV2.out, rfl, HCL3.out, HOK3.out, H2.out⟩
              case measure => simp [intOf]; omega
      · go_wp2_with fail
        go_loopw [14] (fun i wr => ∃ m : Nat, m ≤ q ∧ i = .int .i64 m ∧ LB V0.heap.size s (.slice CA q ccap) vs V0 wr) (fun i _ => q - (intOf i).toNat)
        case atStart => exact ⟨0, Nat.zero_le _, rfl, H1.out⟩
        case round =>
          clear H1
          obtain ⟨m, hm, rfl, hl4⟩ := hrel
          have H4 := Lib.hid hl4
          clear hl4
          by_cases hlt4 : m < q
          · obtain ⟨c, hc⟩ : ∃ c, s.cs[m]? = some c := ⟨s.cs[m]'(by have := HVL.out; omega), List.getElem?_eq_getElem _⟩
            have hcb := HOK.out.good.len_le hc
            have hqb : q ≤ 1048576 := by rw [HVL.out]; exact HOK.out.good.len
            obtain ⟨A6, cap6, hv6, hcp6⟩ := H4.out.copy m c (by rw [HVS.out]; exact hlt4) hc
            have hown := H4.out.own
            have hown2 : wr.ownsRow V0.heap.size 39 3 (.slice CA q ccap) vs.length (rowC (s.cs.take vs.length) vs) := hown
            have hct : (s.cs.take vs.length)[m]? = some c := by rw [List.getElem?_take_of_lt (by rw [HVS.out]; exact hlt4)]; exact hc
            obtain ⟨g2, capx, hcv, hg2, hrow⟩ := ownC_at hown2 hct hv6
            simp only [Value.slice.injEq] at hcv
            obtain ⟨rfl, -, -⟩ := hcv
            have HC5 := Lib.hid (Cell_any wr H4.out.heap m c hc (by omega))
            have HLOW : Hid (∀ x ∈ c.L, wgood m x) := HOK.out.good.low m c hc
            have HCP6 := Lib.hid hcp6
            have HROW := Lib.hid hrow
            have HG2 := Lib.hid hg2
            have i0 : (0 : Int) ≤ (m : Int) := by omega
            have i1 : (m : Int) < (q : Int) := by omega
            clear hc hv6 hcp6 hown hown2 hct hrow hg2
            go_wp2_with fail
            refine HC5.out.mono ?_
            rintro e V5 ⟨A5, cap5, rfl, b5, hcp5⟩
            obtain ⟨V6, hV6⟩ : ∃ V6, V6 = V5.alloc (.cells #[(.int .i8 c.k), (.int .i64 c.size), (.slice A5 c.L.length cap5)] 39) := ⟨_, rfl⟩
            have b6 : Below V5.heap.size V5 V6 := by rw [hV6]; exact (Below.refl _ _).alloc (Nat.le_refl _) _
            have g6 : V6.heap[V5.heap.size]? = some (.cells #[(.int .i8 c.k), (.int .i64 c.size), (.slice A5 c.L.length cap5)] 39 (0, 0)) := by rw [hV6]; exact block_alloc _ _
            have hb6 := b5.trans (b6.mono b5.size)
            have h6 := H4.out.under (Nat.le_refl _) hb6
            have hrow6 := HROW.out.keep (hb6.block g2 HG2.out)
            have hc1 : c.L ≠ [] → ∃ g, A5 = some ⟨g, 0, none⟩ ∧ g < V6.heap.size ∧ WordsIn V6 g c.L := fun hL => by
              obtain ⟨g, e, h1, h2, h3⟩ := hcp5 hL
              exact ⟨g, e, Nat.lt_of_lt_of_le h2 b6.size, h3.keep (b6.block g h2)⟩
            have hc2 : c.L ≠ [] → ∃ g, A6 = some ⟨g, 0, none⟩ ∧ g < V6.heap.size ∧ WordsIn V6 g c.L := fun hL => by
              obtain ⟨g, e, h1, -, -, -, h3⟩ := HCP6.out hL
              exact ⟨g, e, Nat.lt_of_lt_of_le h1 hb6.size, h3.keep (hb6.block g h1)⟩
            have H6 := Lib.hid h6
            have HS6 := Lib.hid (And.intro g6 (And.intro hrow6 (And.intro hc1 (And.intro hc2 (Nat.lt_of_lt_of_le HG2.out hb6.size)))))
            clear b5 b6 hb6 h6 g6 hrow6 hc1 hc2 hcp5
            subst hV6
            go_wp2_with fail
            generalize V5.alloc (.cells #[(.int .i8 c.k), (.int .i64 c.size), (.slice A5 c.L.length cap5)] 39) = V6 at H6 HS6 ⊢
            obtain ⟨hg0, hrow0, hc1, hc2, hlt0⟩ := HS6.out
            have b0 : Below V6.heap.size V6 V6.drew := ⟨rfl, rfl, rfl, Nat.le_refl _, fun _ _ => rfl⟩
            have hS0 : V6.drew.heap[V5.heap.size]? = some (.cells #[(.int .i8 c.k), (.int .i64 c.size), (.slice A5 c.L.length cap5)] 39 (0, 0)) ∧ RowC3 V6.drew g2 (m * 3) (.int .i8 c.k) (.int .i64 c.size) (.slice A6 c.L.length cap6) := ⟨hg0, hrow0⟩
            have hS0' := hS0
            have hSM := sameCell_self m c HLOW.out (by omega) A5 A6 cap5 cap6 V6.drew hc1 hc2
            have hl0 : g2 < V6.drew.heap.size := hlt0
            have h60 := H6.out.under (Nat.le_refl _) b0
            clear hg0 hrow0 hc1 hc2 hlt0 b0 HS6
            refine wp_region_held (S := fun V => V.heap[V5.heap.size]? = some (.cells #[(.int .i8 c.k), (.int .i64 c.size), (.slice A5 c.L.length cap5)] 39 (0, 0)) ∧ RowC3 V g2 (m * 3) (.int .i8 c.k) (.int .i64 c.size) (.slice A6 c.L.length cap6)) (by kernel_rfl) ?_
            show wpAnyH _ _ _ _ _ _ _ _ V6.drew
            generalize V6.drew = D at hS0 hS0' hSM hl0 h60 ⊢
            refine wpAnyH_take (i := 0) (oi := ⟨some 156, _, _, _, _, _⟩) (v := ?_) rfl (by kernel_rfl) (by kernel_rfl) (by kernel_rfl) (fun _ _ _ h => h) (Or.inl ⟨by kernel_rfl, ?_⟩) (by assumption) ?_; rotate_left; (intro w hSw; (try dsimp only at hSw); obtain ⟨hgw, r0, r1, r2⟩ := hSw; have z0 : w.cell? ⟨V5.heap.size, 0, none⟩ = some (.int .i8 c.k) := cell_of_row hgw rfl; have z1 : w.cell? ⟨V5.heap.size, 1, none⟩ = some (.int .i64 c.size) := cell_of_row hgw rfl; have z2 : w.cell? ⟨V5.heap.size, 2, none⟩ = some (.slice A5 c.L.length cap5) := cell_of_row hgw rfl; go_simp; first | done | with_reducible rfl); (try simp only [Act.put, List.setIfInBounds_toArray, List.set_cons_zero, List.set_cons_succ])
            refine wpAnyH_take (i := 1) (oi := ⟨some 157, _, _, _, _, _⟩) (v := ?_) rfl (by kernel_rfl) (by kernel_rfl) (by kernel_rfl) (fun _ _ _ h => h) (Or.inl ⟨by kernel_rfl, ?_⟩) (by assumption) ?_; rotate_left; (intro w hSw; (try dsimp only at hSw); obtain ⟨hgw, r0, r1, r2⟩ := hSw; have z0 : w.cell? ⟨V5.heap.size, 0, none⟩ = some (.int .i8 c.k) := cell_of_row hgw rfl; have z1 : w.cell? ⟨V5.heap.size, 1, none⟩ = some (.int .i64 c.size) := cell_of_row hgw rfl; have z2 : w.cell? ⟨V5.heap.size, 2, none⟩ = some (.slice A5 c.L.length cap5) := cell_of_row hgw rfl; go_simp; first | done | with_reducible rfl); (try simp only [Act.put, List.setIfInBounds_toArray, List.set_cons_zero, List.set_cons_succ])
            refine wpAnyH_take (i := 2) (oi := ⟨some 158, _, _, _, _, _⟩) (v := ?_) rfl (by kernel_rfl) (by kernel_rfl) (by kernel_rfl) (fun _ _ _ h => h) (Or.inl ⟨by kernel_rfl, ?_⟩) (by assumption) ?_; rotate_left; (intro w hSw; (try dsimp only at hSw); obtain ⟨hgw, r0, r1, r2⟩ := hSw; have z0 : w.cell? ⟨V5.heap.size, 0, none⟩ = some (.int .i8 c.k) := cell_of_row hgw rfl; have z1 : w.cell? ⟨V5.heap.size, 1, none⟩ = some (.int .i64 c.size) := cell_of_row hgw rfl; have z2 : w.cell? ⟨V5.heap.size, 2, none⟩ = some (.slice A5 c.L.length cap5) := cell_of_row hgw rfl; go_simp; first | done | with_reducible rfl); (try simp only [Act.put, List.setIfInBounds_toArray, List.set_cons_zero, List.set_cons_succ])
            refine wpAnyH_take (i := 3) (oi := ⟨some 159, _, _, _, _, _⟩) (v := ?_) rfl (by kernel_rfl) (by kernel_rfl) (by kernel_rfl) (fun _ _ _ h => h) (Or.inl ⟨by kernel_rfl, ?_⟩) (by assumption) ?_; rotate_left; (intro w hSw; (try dsimp only at hSw); obtain ⟨hgw, r0, r1, r2⟩ := hSw; have z0 : w.cell? ⟨V5.heap.size, 0, none⟩ = some (.int .i8 c.k) := cell_of_row hgw rfl; have z1 : w.cell? ⟨V5.heap.size, 1, none⟩ = some (.int .i64 c.size) := cell_of_row hgw rfl; have z2 : w.cell? ⟨V5.heap.size, 2, none⟩ = some (.slice A5 c.L.length cap5) := cell_of_row hgw rfl; go_simp; first | done | with_reducible rfl); (try simp only [Act.put, List.setIfInBounds_toArray, List.set_cons_zero, List.set_cons_succ])
            refine wpAnyH_take (i := 4) (oi := ⟨some 160, _, _, _, _, _⟩) (v := ?_) rfl (by kernel_rfl) (by kernel_rfl) (by kernel_rfl) (fun _ _ _ h => h) (Or.inl ⟨by kernel_rfl, ?_⟩) (by assumption) ?_; rotate_left; (intro w hSw; (try dsimp only at hSw); obtain ⟨hgw, r0, r1, r2⟩ := hSw; have z0 : w.cell? ⟨V5.heap.size, 0, none⟩ = some (.int .i8 c.k) := cell_of_row hgw rfl; have z1 : w.cell? ⟨V5.heap.size, 1, none⟩ = some (.int .i64 c.size) := cell_of_row hgw rfl; have z2 : w.cell? ⟨V5.heap.size, 2, none⟩ = some (.slice A5 c.L.length cap5) := cell_of_row hgw rfl; go_simp; first | done | with_reducible rfl); (try simp only [Act.put, List.setIfInBounds_toArray, List.set_cons_zero, List.set_cons_succ])
            refine wpAnyH_take (i := 5) (oi := ⟨some 161, _, _, _, _, _⟩) (v := ?_) rfl (by kernel_rfl) (by kernel_rfl) (by kernel_rfl) (fun _ _ _ h => h) (Or.inl ⟨by kernel_rfl, ?_⟩) (by assumption) ?_; rotate_left; (intro w hSw; (try dsimp only at hSw); obtain ⟨hgw, r0, r1, r2⟩ := hSw; have z0 : w.cell? ⟨V5.heap.size, 0, none⟩ = some (.int .i8 c.k) := cell_of_row hgw rfl; have z1 : w.cell? ⟨V5.heap.size, 1, none⟩ = some (.int .i64 c.size) := cell_of_row hgw rfl; have z2 : w.cell? ⟨V5.heap.size, 2, none⟩ = some (.slice A5 c.L.length cap5) := cell_of_row hgw rfl; go_simp; first | done | with_reducible rfl); (try simp only [Act.put, List.setIfInBounds_toArray, List.set_cons_zero, List.set_cons_succ])
            refine wpAnyH_take (i := 6) (oi := ⟨some 162, _, _, _, _, _⟩) (v := ?_) rfl (by kernel_rfl) (by kernel_rfl) (by kernel_rfl) (fun _ _ _ h => h) (Or.inl ⟨by kernel_rfl, ?_⟩) (by assumption) ?_; rotate_left; (intro w hSw; (try dsimp only at hSw); obtain ⟨hgw, r0, r1, r2⟩ := hSw; have z0 : w.cell? ⟨V5.heap.size, 0, none⟩ = some (.int .i8 c.k) := cell_of_row hgw rfl; have z1 : w.cell? ⟨V5.heap.size, 1, none⟩ = some (.int .i64 c.size) := cell_of_row hgw rfl; have z2 : w.cell? ⟨V5.heap.size, 2, none⟩ = some (.slice A5 c.L.length cap5) := cell_of_row hgw rfl; go_simp; first | done | with_reducible rfl); (try simp only [Act.put, List.setIfInBounds_toArray, List.set_cons_zero, List.set_cons_succ])
            refine wpAnyH_take (i := 7) (oi := ⟨some 163, _, _, _, _, _⟩) (v := ?_) rfl (by kernel_rfl) (by kernel_rfl) (by kernel_rfl) (fun _ _ _ h => h) (Or.inl ⟨by kernel_rfl, ?_⟩) (by assumption) ?_; rotate_left; (intro w hSw; (try dsimp only at hSw); obtain ⟨hgw, r0, r1, r2⟩ := hSw; have z0 : w.cell? ⟨V5.heap.size, 0, none⟩ = some (.int .i8 c.k) := cell_of_row hgw rfl; have z1 : w.cell? ⟨V5.heap.size, 1, none⟩ = some (.int .i64 c.size) := cell_of_row hgw rfl; have z2 : w.cell? ⟨V5.heap.size, 2, none⟩ = some (.slice A5 c.L.length cap5) := cell_of_row hgw rfl; go_simp; first | done | with_reducible rfl); (try simp only [Act.put, List.setIfInBounds_toArray, List.set_cons_zero, List.set_cons_succ])
            refine wpAnyH_ready (rs := [8]) (by kernel_rfl) (by simp) ?_
            refine AllReadyH.cons (o := ⟨some 164, _, _, _, _, _⟩) rfl (fun K hK => ?_) AllReadyH.nil
            rw [if_pos (by rfl)]
            go_simp
            refine hSM.mono ?_
            rintro e V10 ⟨rfl, b10⟩
            have hS7 : V10.heap[V5.heap.size]? = some (.cells #[(.int .i8 c.k), (.int .i64 c.size), (.slice A5 c.L.length cap5)] 39 (0, 0)) ∧ RowC3 V10 g2 (m * 3) (.int .i8 c.k) (.int .i64 c.size) (.slice A6 c.L.length cap6) := ⟨(b10.block _ (heap_lt hS0'.1)).trans hS0'.1, hS0'.2.keep (b10.block _ hl0)⟩
            have HNX := Lib.hid (h60.under (Nat.le_refl _) b10)
            clear hSM b10 h60 hS0 hS0' hl0
            refine hK.out _ _ hS7 (fun hSn => ?_)
            clear hK K; (try simp only [Act.put, List.setIfInBounds_toArray, List.set_cons_zero, List.set_cons_succ])
            refine wpAnyH_take (i := 9) (oi := ⟨some 165, _, _, _, _, _⟩) (v := ?_) rfl (by kernel_rfl) (by kernel_rfl) (by kernel_rfl) (fun _ _ _ h => h) (Or.inl ⟨by kernel_rfl, ?_⟩) (by assumption) ?_; rotate_left; (intro w hSw; (try dsimp only at hSw); go_simp; first | done | with_reducible rfl); (try simp only [Act.put, List.setIfInBounds_toArray, List.set_cons_zero, List.set_cons_succ])
            refine wpAnyH_take (i := 10) (oi := ⟨some 166, _, _, _, _, _⟩) (v := ?_) rfl (by kernel_rfl) (by kernel_rfl) (by kernel_rfl) (fun _ _ _ h => h) (Or.inl ⟨by kernel_rfl, ?_⟩) (by assumption) ?_; rotate_left; (intro w hSw; (try dsimp only at hSw); go_simp; first | done | with_reducible rfl); (try simp only [Act.put, List.setIfInBounds_toArray, List.set_cons_zero, List.set_cons_succ])
            refine wpAnyH_done (by kernel_rfl) ?_ _
            clear hS7
            go_wp2_with fail
            go_roundw
            case rel => exact ⟨m + 1, by omega, by go_num, HNX.out⟩
            case measure => simp [intOf]; omega
          · go_wp2_with fail
            refine (wakes4_ok wr (HSP0.out.below H4.out.below HSP0.out.lt) (Go.Lib.tabBelow_of_tabIs HPW0.out _ H4.out.below)).mono ?_
            rintro e V12 ⟨rfl, b12⟩
            have HB12 := Lib.hid (HB0.out.trans ((H4.out.below.trans (b12.mono H4.out.below.size)).mono HB0.out.size))
            clear b12
            go_wp2_with fail
            go_ret
            exact ⟨rfl, HB12.out⟩
end Go.Proofs.YtphfekcacaaabaaDoor
