/- Nothing of its own. -/
import Derived.Test.YtkceoiaaiaomoaaGreatDoorKMt14
import Derived.Test.YtkceoiaaiaomoaaGreatDoorKAstC
import Derived.Test.YtkceoiaaiaomoaaGreatDoorKGd6
import Derived.WalkKit
import Derived.LaidEql
import Derived.Stop.Asserts
import Derived.Lib.IfaceEq
section
set_option linter.unusedVariables false
set_option linter.unusedSimpArgs false
namespace Go.Proofs.YtkceoiaaiaomoaaGreatDoor
open Go.RowKit

set_option maxHeartbeats 4000000 in
set_option maxRecDepth 100000 in
theorem fil_5 (l : List Bd) (n : Int) (s t : ByteArray) : FilK l (.mk 5 n s t []) 141 ptrA := by
  intro n0 W0 X mb W v hF hT
  unfold ptrA
  obtain ⟨NA, nc, rfl, -, -, hn, hs, -⟩ := hT.parts
  have hv := gv_leaf l 5 n s t
  have hv2 : gvT l (.mk 5 n s t []) = findB l s := by rw [hv]; unfold putT; rw [if_pos rfl]; exact may10_any_name hF.ok s
  have he2 : findB l s = none → filE l (.mk 5 n s t []) = 2 := fun h => by
    unfold filE bndB
    rw [hv2, h]
    rw [show (Tm.mk 5 n s t []).pre = [Tm.mk 5 n s t []] from by simp [Tm.pre, Tm.pres]]
    have hz := may10_any_name hF.ok s
    rw [h] at hz
    simp [Tm.k, Tm.s, hz]
  have HV := Lib.hid hv2
  have HE2 := Lib.hid he2
  obtain ⟨W2, hW2⟩ : ∃ w1, w1 = (W.alloc (.cells #[.int .i8 5, .int .i64 n, .string s, .string t, .slice NA 0 nc] 25)).alloc (.cells #[.int .i8 0, .int .i64 0, .string ⟨#[]⟩, .string ⟨#[]⟩, .slice none 0 0] 44) := ⟨_, rfl⟩
  have g0 := there_of (.cells #[.int .i8 0, .int .i64 0, .string ⟨#[]⟩, .string ⟨#[]⟩, .slice none 0 0] 44) (block_alloc W (.cells #[.int .i8 5, .int .i64 n, .string s, .string t, .slice NA 0 nc] 25))
  have g1 := block_alloc (W.alloc (.cells #[.int .i8 5, .int .i64 n, .string s, .string t, .slice NA 0 nc] 25)) (.cells #[.int .i8 0, .int .i64 0, .string ⟨#[]⟩, .string ⟨#[]⟩, .slice none 0 0] 44)
  rw [World.size_alloc] at g1
  have b2 : Below W.heap.size W W2 := by rw [hW2]; exact ((Below.refl _ W).alloc (Nat.le_refl _) _).alloc (by simp) _
  rw [← hW2] at g0 g1
  have HB2 := Lib.hid b2
  have HG0 := Lib.hid g0
  have HG1 := Lib.hid g1
  have HM2 := Lib.hid (hF.under b2)
  have HN0 : Hid (n0 ≤ W.heap.size) := Nat.le_trans hF.size hF.below.size
  obtain ⟨es, mc, hmp, f, hMT, hF2⟩ := HM2.out.map
  have HMP := Lib.hid hmp
  have HMT := Lib.hid hMT
  have HF := Lib.hid hF2
  clear hmp hMT hF2 hF hT hn hs g0 g1 b2 hv hv2 he2
  go_enter Tryz.func141, Tryz.ntmps141
  go_upto_region 1 with fail
  rw [← hW2]
  clear hW2
  have hcase : (∃ z, findB l s = some z) ∨ findB l s = none := by cases findB l s; exact .inr rfl; exact .inl ⟨_, rfl⟩
  rcases hcase with ⟨z, hfd⟩ | hfd
  · obtain ⟨vk, vn, vs, vu, vA, vm, vc, hfz, hTz⟩ := (HF.out s).1 z hfd
    have HTZ := Lib.hid hTz
    have HFZ := Lib.hid hfz
    have HFD := Lib.hid hfd
    clear hfz hTz hfd
    refine wp_region_held (S := fun V => Below W2.heap.size W2 V) (by kernel_rfl) ?_
    show wpAnyH _ _ _ _ _ _ _ _ W2.drew
    have hS : Below W2.heap.size W2 W2.drew := ⟨rfl, rfl, rfl, Nat.le_refl _, fun _ _ => rfl⟩
    generalize W2.drew = V0 at hS ⊢
    refine wpAnyH_take (i := 0) (oi := ⟨some 9, _, _, _, _, _⟩) (v := ?_) rfl (by kernel_rfl) (by kernel_rfl) (by kernel_rfl) (fun _ _ _ h => h) (Or.inl ⟨by kernel_rfl, ?_⟩) (by assumption) ?_; rotate_left; (intro VV hSw; (try dsimp only at hSw); go_simp; first | done | with_reducible rfl); (try simp only [Act.put, sI, sZ, sS])
    refine wpAnyH_take (i := 1) (oi := ⟨some 10, _, _, _, _, _⟩) (v := ?_) rfl (by kernel_rfl) (by kernel_rfl) (by kernel_rfl) (fun _ _ _ h => h) (Or.inl ⟨by kernel_rfl, ?_⟩) (by assumption) ?_; rotate_left; (intro VV hSw; (try dsimp only at hSw); go_simp; first | done | with_reducible rfl); (try simp only [Act.put, sI, sZ, sS])
    refine wpAnyH_take (i := 2) (oi := ⟨some 11, _, _, _, _, _⟩) (v := ?_) rfl (by kernel_rfl) (by kernel_rfl) (by kernel_rfl) (fun _ _ _ h => h) (Or.inl ⟨by kernel_rfl, ?_⟩) (by assumption) ?_; rotate_left; (intro VV hSw; (try dsimp only at hSw); go_simp; first | done | with_reducible rfl); (try simp only [Act.put, sI, sZ, sS])
    refine wpAnyH_take (i := 3) (oi := ⟨some 12, _, _, _, _, _⟩) (v := ?_) rfl (by kernel_rfl) (by kernel_rfl) (by kernel_rfl) (fun _ _ _ h => h) (Or.inl ⟨by kernel_rfl, ?_⟩) (by assumption) ?_; rotate_left; (intro VV hSw; (try dsimp only at hSw); have hr := (hSw.block _ (heap_lt HM2.out.box)).trans HM2.out.box; have q1 : VV.cell? ⟨X, 0, none⟩ = some (.map (some mb)) := cell_of_row (i := 0) hr rfl; go_simp; first | done | with_reducible rfl); (try simp only [Act.put, sI, sZ, sS])
    refine wpAnyH_take (i := 4) (oi := ⟨some 13, _, _, _, _, _⟩) (v := ?_) rfl (by kernel_rfl) (by kernel_rfl) (by kernel_rfl) (fun _ _ _ h => h) (Or.inl ⟨by kernel_rfl, ?_⟩) (by assumption) ?_; rotate_left; (intro VV hSw; (try dsimp only at hSw); go_simp; first | done | with_reducible rfl); (try simp only [Act.put, sI, sZ, sS])
    refine wpAnyH_take (i := 5) (oi := ⟨some 14, _, _, _, _, _⟩) (v := ?_) rfl (by kernel_rfl) (by kernel_rfl) (by kernel_rfl) (fun _ _ _ h => h) (Or.inl ⟨by kernel_rfl, ?_⟩) (by assumption) ?_; rotate_left; (intro VV hSw; (try dsimp only at hSw); have hr := (hSw.block _ (heap_lt HG0.out)).trans HG0.out; have q2 : VV.cell? ⟨W.heap.size, 2, none⟩ = some (.string s) := cell_of_row (i := 2) hr rfl; go_simp; first | done | with_reducible rfl); (try simp only [Act.put, sI, sZ, sS])
    refine wpAnyH_take (i := 6) (oi := ⟨some 15, _, _, _, _, _⟩) (v := ?_) rfl (by kernel_rfl) (by kernel_rfl) (by kernel_rfl) (fun _ _ _ h => h) (Or.inl ⟨by kernel_rfl, ?_⟩) (by assumption) ?_; rotate_left; (intro VV hSw; (try dsimp only at hSw); have hm := (hSw.block _ (heap_lt HMP.out)).trans HMP.out; have hlk := HMT.out.hit (t := 114) Tryz.underlying114 Tryz.underlying9 VV mb mc hm HFZ.out; go_simp; first | done | with_reducible rfl); (try simp only [Act.put, sI, sZ, sS])
    refine wpAnyH_take (i := 7) (oi := ⟨some 8, _, _, _, _, _⟩) (v := ?_) rfl (by kernel_rfl) (by kernel_rfl) (by kernel_rfl) (fun _ _ _ h => h) (Or.inl ⟨by kernel_rfl, ?_⟩) (by assumption) ?_; rotate_left; (intro VV hSw; (try dsimp only at hSw); go_simp; first | done | with_reducible rfl); (try simp only [Act.put, sI, sZ, sS])
    refine wpAnyH_take (i := 8) (oi := ⟨some 16, _, _, _, _, _⟩) (v := ?_) rfl (by kernel_rfl) (by kernel_rfl) (by kernel_rfl) (fun _ _ _ h => h) (Or.inl ⟨by kernel_rfl, ?_⟩) (by assumption) ?_; rotate_left; (intro VV hSw; (try dsimp only at hSw); go_simp; first | done | with_reducible rfl); (try simp only [Act.put, sI, sZ, sS])
    refine wpAnyH_take (i := 9) (oi := ⟨some 17, _, _, _, _, _⟩) (v := ?_) rfl (by kernel_rfl) (by kernel_rfl) (by kernel_rfl) (fun _ _ _ h => h) (Or.inl ⟨by kernel_rfl, ?_⟩) (by assumption) ?_; rotate_left; (intro VV hSw; (try dsimp only at hSw); go_simp; first | done | with_reducible rfl); (try simp only [Act.put, sI, sZ, sS])
    refine wpAnyH_ready (rs := [10]) (by kernel_rfl) (by simp) ?_
    refine AllReadyH.cons (o := ⟨some 6, _, _, _, _, _⟩) rfl (fun K hK => ?_) AllReadyH.nil
    · rw [if_pos (by rfl)]
      go_simp
      have hga := block_alloc V0 (.cells #[.int .i8 0, .int .i64 0, .string ⟨#[]⟩, .string ⟨#[]⟩, .slice none 0 0] 44)
      have hS1 := hS.alloc hS.size (.cells #[.int .i8 0, .int .i64 0, .string ⟨#[]⟩, .string ⟨#[]⟩, .slice none 0 0] 44)
      have hge : W2.heap.size ≤ V0.heap.size := hS.size
      obtain ⟨ga, hgae⟩ : ∃ ga, ga = V0.heap.size := ⟨_, rfl⟩
      rw [← hgae] at hga hge
      refine hK.out _ _ hS1 (fun hSn => ?_)
      clear hK K hSn; (try simp only [Act.put, sI, sZ, sS])
      rw [← hgae]
      generalize V0.alloc (.cells #[.int .i8 0, .int .i64 0, .string ⟨#[]⟩, .string ⟨#[]⟩, .slice none 0 0] 44) = V1 at hga hS1 ⊢
      clear hgae hS
      obtain ⟨⟨z0, z1, z2, z3, z4⟩, zf0, zf1, zf2, zf3, zf4⟩ := five_fr hga
      obtain ⟨s5, m5⟩ := set_five (.int .i8 vk) (.int .i64 vn) (.string vs) (.string vu) (.slice vA vm vc) hga
      refine wpAnyH_ready (rs := [11]) (by kernel_rfl) (by simp) ?_
      refine AllReadyH.cons (o := ⟨none, _, _, _, _, _⟩) rfl (fun K hK => ?_) AllReadyH.nil
      · rw [if_pos (by rfl)]
        go_simp
        generalize ((((((V1).setCell ⟨ga, 0, none⟩ (.int .i8 vk)).setCell ⟨ga, 1, none⟩ (.int .i64 vn)).setCell ⟨ga, 2, none⟩ (.string vs)).setCell ⟨ga, 3, none⟩ (.string vu)).setCell ⟨ga, 4, none⟩ (.slice vA vm vc)) = V2 at s5 m5 ⊢
        have hS9 : Below W2.heap.size W2 V2 := hS1.trans (m5.below hS1.size (fun q (e : q = _) => by omega))
        refine hK.out _ _ hS9 (fun hSn => ?_)
        clear hK K hSn z0 zf0 z1 zf1 z2 zf2 z3 zf3 z4 zf4; (try simp only [Act.put, sI, sZ, sS])
        refine wpAnyH_take (i := 12) (oi := ⟨some 7, _, _, _, _, _⟩) (v := ?_) rfl (by kernel_rfl) (by kernel_rfl) (by kernel_rfl) (fun _ _ _ h => h) (Or.inl ⟨by kernel_rfl, ?_⟩) (by assumption) ?_; rotate_left; (intro VV hSw; (try dsimp only at hSw); go_simp; first | done | with_reducible rfl); (try simp only [Act.put, sI, sZ, sS])
        refine wpAnyH_done (by kernel_rfl) ?_ _
        have HV2 := Lib.hid hS9
        have HGA := Lib.hid s5
        clear hS1 hga hge m5 s5 hS9
        have HMV := Lib.hid (HM2.out.under HV2.out)
        have HE0 := Lib.hid (fil_ok (HV.out.trans HFD.out))
        have gt := (HV2.out.block _ (heap_lt HG1.out)).trans HG1.out
        obtain ⟨y0, y1, y2, y3, y4⟩ := five_of HGA.out
        obtain ⟨⟨r0, r1, r2, r3, r4⟩, rf0, rf1, rf2, rf3, rf4⟩ := five_fr gt
        have S5 := Lib.hid (set_five (.int .i8 vk) (.int .i64 vn) (.string vs) (.string vu) (.slice vA vm vc) gt)
        go_wp2_with fail
        obtain ⟨s5, m5⟩ := S5.out
        generalize ((((((V2).setCell ⟨W.heap.size + 1, 0, none⟩ (.int .i8 vk)).setCell ⟨W.heap.size + 1, 1, none⟩ (.int .i64 vn)).setCell ⟨W.heap.size + 1, 2, none⟩ (.string vs)).setCell ⟨W.heap.size + 1, 3, none⟩ (.string vu)).setCell ⟨W.heap.size + 1, 4, none⟩ (.slice vA vm vc)) = VX at s5 m5 ⊢
        obtain ⟨z0, z1, z2, z3, z4⟩ := five_of s5
        refine bodyPost_ret (v := .tuple #[.agg #[.int .i8 vk, .int .i64 vn, .string vs, .string vu, .slice vA vm vc], .int .i64 0]) (by simp [results, Tryz.f141, go_sem, z0, z1, z2, z3, z4]) rfl ?_
        have hF2 : Below W.heap.size W VX := (HB2.out.trans (HV2.out.mono HB2.out.size)).trans (m5.below (Nat.le_trans HB2.out.size HV2.out.size) (fun q (e : q = _) => by omega))
        refine ⟨_, _, _, _, _, _, _, by rw [HE0.out], fun y hy => ?_, (fun h => by rw [HV.out, HFD.out] at h; cases h), hF2⟩
        rw [HV.out, HFD.out] at hy
        cases hy
        exact HTZ.out.keep (fun b (hb : b < n0) => (m5.block b (by have := HN0.out; have := HB2.out.size; have := HV2.out.size; omega) (by have := HN0.out; omega)).trans (HMV.out.below.block b hb)) (fun b hb => .inl hb)
  · have HFD := Lib.hid hfd
    clear hfd
    refine wp_region_held (S := fun V => Below W2.heap.size W2 V) (by kernel_rfl) ?_
    show wpAnyH _ _ _ _ _ _ _ _ W2.drew
    have hS : Below W2.heap.size W2 W2.drew := ⟨rfl, rfl, rfl, Nat.le_refl _, fun _ _ => rfl⟩
    generalize W2.drew = V0 at hS ⊢
    refine wpAnyH_take (i := 0) (oi := ⟨some 9, _, _, _, _, _⟩) (v := ?_) rfl (by kernel_rfl) (by kernel_rfl) (by kernel_rfl) (fun _ _ _ h => h) (Or.inl ⟨by kernel_rfl, ?_⟩) (by assumption) ?_; rotate_left; (intro VV hSw; (try dsimp only at hSw); go_simp; first | done | with_reducible rfl); (try simp only [Act.put, sI, sZ, sS])
    refine wpAnyH_take (i := 1) (oi := ⟨some 10, _, _, _, _, _⟩) (v := ?_) rfl (by kernel_rfl) (by kernel_rfl) (by kernel_rfl) (fun _ _ _ h => h) (Or.inl ⟨by kernel_rfl, ?_⟩) (by assumption) ?_; rotate_left; (intro VV hSw; (try dsimp only at hSw); go_simp; first | done | with_reducible rfl); (try simp only [Act.put, sI, sZ, sS])
    refine wpAnyH_take (i := 2) (oi := ⟨some 11, _, _, _, _, _⟩) (v := ?_) rfl (by kernel_rfl) (by kernel_rfl) (by kernel_rfl) (fun _ _ _ h => h) (Or.inl ⟨by kernel_rfl, ?_⟩) (by assumption) ?_; rotate_left; (intro VV hSw; (try dsimp only at hSw); go_simp; first | done | with_reducible rfl); (try simp only [Act.put, sI, sZ, sS])
    refine wpAnyH_take (i := 3) (oi := ⟨some 12, _, _, _, _, _⟩) (v := ?_) rfl (by kernel_rfl) (by kernel_rfl) (by kernel_rfl) (fun _ _ _ h => h) (Or.inl ⟨by kernel_rfl, ?_⟩) (by assumption) ?_; rotate_left; (intro VV hSw; (try dsimp only at hSw); have hr := (hSw.block _ (heap_lt HM2.out.box)).trans HM2.out.box; have q1 : VV.cell? ⟨X, 0, none⟩ = some (.map (some mb)) := cell_of_row (i := 0) hr rfl; go_simp; first | done | with_reducible rfl); (try simp only [Act.put, sI, sZ, sS])
    refine wpAnyH_take (i := 4) (oi := ⟨some 13, _, _, _, _, _⟩) (v := ?_) rfl (by kernel_rfl) (by kernel_rfl) (by kernel_rfl) (fun _ _ _ h => h) (Or.inl ⟨by kernel_rfl, ?_⟩) (by assumption) ?_; rotate_left; (intro VV hSw; (try dsimp only at hSw); go_simp; first | done | with_reducible rfl); (try simp only [Act.put, sI, sZ, sS])
    refine wpAnyH_take (i := 5) (oi := ⟨some 14, _, _, _, _, _⟩) (v := ?_) rfl (by kernel_rfl) (by kernel_rfl) (by kernel_rfl) (fun _ _ _ h => h) (Or.inl ⟨by kernel_rfl, ?_⟩) (by assumption) ?_; rotate_left; (intro VV hSw; (try dsimp only at hSw); have hr := (hSw.block _ (heap_lt HG0.out)).trans HG0.out; have q2 : VV.cell? ⟨W.heap.size, 2, none⟩ = some (.string s) := cell_of_row (i := 2) hr rfl; go_simp; first | done | with_reducible rfl); (try simp only [Act.put, sI, sZ, sS])
    refine wpAnyH_take (i := 6) (oi := ⟨some 15, _, _, _, _, _⟩) (v := ?_) rfl (by kernel_rfl) (by kernel_rfl) (by kernel_rfl) (fun _ _ _ h => h) (Or.inl ⟨by kernel_rfl, ?_⟩) (by assumption) ?_; rotate_left; (intro VV hSw; (try dsimp only at hSw); have hm := (hSw.block _ (heap_lt HMP.out)).trans HMP.out; have hlk := HMT.out.miss (t := 114) Tryz.underlying114 Tryz.underlying9 VV mb mc hm zeroTerm ((HF.out s).2 HFD.out); go_simp; first | done | with_reducible rfl); (try simp only [Act.put, sI, sZ, sS])
    refine wpAnyH_take (i := 7) (oi := ⟨some 8, _, _, _, _, _⟩) (v := ?_) rfl (by kernel_rfl) (by kernel_rfl) (by kernel_rfl) (fun _ _ _ h => h) (Or.inl ⟨by kernel_rfl, ?_⟩) (by assumption) ?_; rotate_left; (intro VV hSw; (try dsimp only at hSw); go_simp; first | done | with_reducible rfl); (try simp only [Act.put, sI, sZ, sS])
    refine wpAnyH_take (i := 8) (oi := ⟨some 16, _, _, _, _, _⟩) (v := ?_) rfl (by kernel_rfl) (by kernel_rfl) (by kernel_rfl) (fun _ _ _ h => h) (Or.inl ⟨by kernel_rfl, ?_⟩) (by assumption) ?_; rotate_left; (intro VV hSw; (try dsimp only at hSw); go_simp; first | done | with_reducible rfl); (try simp only [Act.put, sI, sZ, sS])
    refine wpAnyH_take (i := 9) (oi := ⟨some 17, _, _, _, _, _⟩) (v := ?_) rfl (by kernel_rfl) (by kernel_rfl) (by kernel_rfl) (fun _ _ _ h => h) (Or.inl ⟨by kernel_rfl, ?_⟩) (by assumption) ?_; rotate_left; (intro VV hSw; (try dsimp only at hSw); go_simp; first | done | with_reducible rfl); (try simp only [Act.put, sI, sZ, sS])
    refine wpAnyH_ready (rs := [10]) (by kernel_rfl) (by simp) ?_
    refine AllReadyH.cons (o := ⟨some 6, _, _, _, _, _⟩) rfl (fun K hK => ?_) AllReadyH.nil
    · rw [if_pos (by rfl)]
      go_simp
      have hga := block_alloc V0 (.cells #[.int .i8 0, .int .i64 0, .string ⟨#[]⟩, .string ⟨#[]⟩, .slice none 0 0] 44)
      have hS1 := hS.alloc hS.size (.cells #[.int .i8 0, .int .i64 0, .string ⟨#[]⟩, .string ⟨#[]⟩, .slice none 0 0] 44)
      have hge : W2.heap.size ≤ V0.heap.size := hS.size
      obtain ⟨ga, hgae⟩ : ∃ ga, ga = V0.heap.size := ⟨_, rfl⟩
      rw [← hgae] at hga hge
      refine hK.out _ _ hS1 (fun hSn => ?_)
      clear hK K hSn; (try simp only [Act.put, sI, sZ, sS])
      rw [← hgae]
      generalize V0.alloc (.cells #[.int .i8 0, .int .i64 0, .string ⟨#[]⟩, .string ⟨#[]⟩, .slice none 0 0] 44) = V1 at hga hS1 ⊢
      clear hgae hS
      obtain ⟨⟨z0, z1, z2, z3, z4⟩, zf0, zf1, zf2, zf3, zf4⟩ := five_fr hga
      obtain ⟨s5, m5⟩ := set_five (.int .i8 0) (.int .i64 0) (.string ⟨#[]⟩) (.string ⟨#[]⟩) (.slice none 0 0) hga
      refine wpAnyH_ready (rs := [11]) (by kernel_rfl) (by simp) ?_
      refine AllReadyH.cons (o := ⟨none, _, _, _, _, _⟩) rfl (fun K hK => ?_) AllReadyH.nil
      · rw [if_pos (by rfl)]
        go_simp
        generalize ((((((V1).setCell ⟨ga, 0, none⟩ (.int .i8 0)).setCell ⟨ga, 1, none⟩ (.int .i64 0)).setCell ⟨ga, 2, none⟩ (.string ⟨#[]⟩)).setCell ⟨ga, 3, none⟩ (.string ⟨#[]⟩)).setCell ⟨ga, 4, none⟩ (.slice none 0 0)) = V2 at s5 m5 ⊢
        have hS9 : Below W2.heap.size W2 V2 := hS1.trans (m5.below hS1.size (fun q (e : q = _) => by omega))
        refine hK.out _ _ hS9 (fun hSn => ?_)
        clear hK K hSn z0 zf0 z1 zf1 z2 zf2 z3 zf3 z4 zf4; (try simp only [Act.put, sI, sZ, sS])
        refine wpAnyH_take (i := 12) (oi := ⟨some 7, _, _, _, _, _⟩) (v := ?_) rfl (by kernel_rfl) (by kernel_rfl) (by kernel_rfl) (fun _ _ _ h => h) (Or.inl ⟨by kernel_rfl, ?_⟩) (by assumption) ?_; rotate_left; (intro VV hSw; (try dsimp only at hSw); go_simp; first | done | with_reducible rfl); (try simp only [Act.put, sI, sZ, sS])
        refine wpAnyH_done (by kernel_rfl) ?_ _
        have HV2 := Lib.hid hS9
        have HGA := Lib.hid s5
        clear hS1 hga hge m5 s5 hS9
        have gt := (HV2.out.block _ (heap_lt HG1.out)).trans HG1.out
        obtain ⟨⟨r0, r1, r2, r3, r4⟩, rf0, rf1, rf2, rf3, rf4⟩ := five_fr gt
        have S5 := Lib.hid (set_five (.int .i8 0) (.int .i64 0) (.string ⟨#[]⟩) (.string ⟨#[]⟩) (.slice none 0 0) gt)
        go_wp2_with fail
        obtain ⟨s5, m5⟩ := S5.out
        generalize ((((((V2).setCell ⟨W.heap.size + 1, 0, none⟩ (.int .i8 0)).setCell ⟨W.heap.size + 1, 1, none⟩ (.int .i64 0)).setCell ⟨W.heap.size + 1, 2, none⟩ (.string ⟨#[]⟩)).setCell ⟨W.heap.size + 1, 3, none⟩ (.string ⟨#[]⟩)).setCell ⟨W.heap.size + 1, 4, none⟩ (.slice none 0 0)) = VX at s5 m5 ⊢
        obtain ⟨z0, z1, z2, z3, z4⟩ := five_of s5
        refine bodyPost_ret (v := .tuple #[.agg #[.int .i8 0, .int .i64 0, .string ⟨#[]⟩, .string ⟨#[]⟩, .slice none 0 0], .int .i64 2]) (by simp [results, Tryz.f141, go_sem, z0, z1, z2, z3, z4]) rfl ?_
        have hF2 : Below W.heap.size W VX := (HB2.out.trans (HV2.out.mono HB2.out.size)).trans (m5.below (Nat.le_trans HB2.out.size HV2.out.size) (fun q (e : q = _) => by omega))
        exact ⟨_, _, _, _, _, _, _, by rw [HE2.out HFD.out], (fun y hy => by rw [HV.out, HFD.out] at hy; cases hy), (fun _ => rfl), hF2⟩
end Go.Proofs.YtkceoiaaiaomoaaGreatDoor
end
section

end
section

end
