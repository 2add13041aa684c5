/- Nothing of its own. -/
import Derived.Test.YtkceoiaaiaomoaaGreatDoorKMt7
import Derived.Test.YtkceoiaaiaomoaaGreatDoorKGd15
import Derived.Test.YtkceoiaaiaomoaaGreatDoorKGd6
import Derived.Test.YtkceoiaaiaomoaaGreatDoorKOrd
import Derived.Test.YtkceoiaaiaomoaaGreatDoorKBnd
import Derived.Test.YtkceoiaaiaomoaaGreatDoorKAstC
import Derived.Test.YtkceoiaaiaomoaaGreatDoorKRef01
import Derived.Test.YtkceoiaaiaomoaaGreatDoorKShr7
import Derived.Test.YtkceoiaaiaomoaaGreatDoorKHeldE
import Derived.Test.YtkceoiaaiaomoaaGreatDoorKListT
import Derived.LoopTactic
import Derived.LoopNIn
import Derived.Deep.DeepCutAuto
import Derived.Tactics2
import Derived.StillTailTactics
import Derived.Deep.QuietTactic
import Derived.BigQuiet
import Derived.Below
import Derived.Deep.RegionHeld
import Derived.OrdersHeld
section
set_option linter.unusedVariables false
set_option linter.unusedSimpArgs false
namespace Go.Proofs.YtkceoiaaiaomoaaGreatDoor
open Go.RowKit

def pX10 : Tm := .mk 10 0 ⟨#[]⟩ ⟨#[]⟩ [vaN ⟨#[88]⟩, vaN ⟨#[88]⟩]
theorem pX_nodes : pX10.nodes ≤ 8200 := by decide +kernel
theorem wk_ok (a b : Int) (h : allOk10 [pX10] [twoT a b] [] = true) : allE [pX10] [twoT a b] [] = 0 := if_pos h
theorem wk_1 : allOk10 [pX10] [twoT 1 1] [] = true := by decide +kernel
theorem wk_2 : allOk10 [pX10] [twoT 1 2] [] = true := by decide +kernel
theorem wk_g1 : goPs [pX10] [twoT 1 1] [] = some [(⟨#[88]⟩, intT 1)] := by rfl
theorem wk_g2 : goPs [pX10] [twoT 1 2] [] = none := by rfl
theorem wk_b1 : allB [pX10] [twoT 1 1] [] = true := by unfold allB; rw [wk_1, wk_g1]; rfl
theorem wk_b2 : allB [pX10] [twoT 1 2] [] = false := by unfold allB; rw [wk_2, wk_g2]; rfl
theorem wk_l1 : allL [pX10] [twoT 1 1] [] = [(⟨#[88]⟩, intT 1)] := by unfold allL; rw [if_pos wk_1, wk_g1]; rfl
set_option maxHeartbeats 4000000 in
set_option maxRecDepth 100000 in
theorem wakes10_any (W : World) (hE : Env7 W) : Calls Tryz.prog 26 #[] W fun e w' => e = .returned (.bool true) ∧ Below W.heap.size W w' := by
  have HE := Lib.hid hE
  clear hE
  go_enter Tryz.func26, Tryz.ntmps26
  go_wp2_with fail
  refine (v10_any _ W).mono ?_
  rintro e w1 ⟨rfl, b1⟩
  have HB1 := Lib.hid b1
  clear b1
  go_wp2_with fail
  refine (v10_any _ w1).mono ?_
  rintro e w2 ⟨rfl, b2⟩
  have HB2 := Lib.hid (HB1.out.trans (b2.mono HB1.out.size))
  clear b2
  obtain ⟨w4, hw4⟩ : ∃ w4, w4 = (w2.alloc (.cells #[.int .i8 5, .int .i64 0, .string ⟨#[88]⟩, .string ⟨#[]⟩, .slice none 0 0, .int .i8 5, .int .i64 0, .string ⟨#[88]⟩, .string ⟨#[]⟩, .slice none 0 0] 25)).alloc (.cells #[.int .i8 10, .int .i64 0, .string ⟨#[]⟩, .string ⟨#[]⟩, .slice (some ⟨w2.heap.size, 0, none⟩) 2 2] 25) := ⟨_, rfl⟩
  obtain ⟨gp, hgp⟩ : ∃ gp, gp = w2.heap.size + 1 := ⟨_, rfl⟩
  have b4 : Below w2.heap.size w2 w4 := by rw [hw4]; exact ((Below.refl _ _).alloc (Nat.le_refl _) _).alloc (by simp) _
  have r0 : w4.heap[w2.heap.size]? = some (.cells #[.int .i8 5, .int .i64 0, .string ⟨#[88]⟩, .string ⟨#[]⟩, .slice none 0 0, .int .i8 5, .int .i64 0, .string ⟨#[88]⟩, .string ⟨#[]⟩, .slice none 0 0] 25 (0, 0)) := by rw [hw4]; exact there_of _ (block_alloc _ _)
  have r1 : w4.heap[gp]? = some (.cells #[.int .i8 10, .int .i64 0, .string ⟨#[]⟩, .string ⟨#[]⟩, .slice (some ⟨w2.heap.size, 0, none⟩) 2 2] 25 (0, 0)) := by
    rw [hw4, hgp]
    have := block_alloc (w2.alloc (.cells #[.int .i8 5, .int .i64 0, .string ⟨#[88]⟩, .string ⟨#[]⟩, .slice none 0 0, .int .i8 5, .int .i64 0, .string ⟨#[88]⟩, .string ⟨#[]⟩, .slice none 0 0] 25)) (.cells #[.int .i8 10, .int .i64 0, .string ⟨#[]⟩, .string ⟨#[]⟩, .slice (some ⟨w2.heap.size, 0, none⟩) 2 2] 25)
    rw [World.size_alloc] at this
    exact this
  have hT : TmAt (· < w4.heap.size) w4 pX10 (.agg #[.int .i8 10, .int .i64 0, .string ⟨#[]⟩, .string ⟨#[]⟩, .slice (some ⟨w2.heap.size, 0, none⟩) 2 2]) := TmAt.of_row (k := 10) (n := 0) (s := ⟨#[]⟩) (t := ⟨#[]⟩) (l := [vaN ⟨#[88]⟩, vaN ⟨#[88]⟩]) (row2_of r0 (heap_lt r0) (TmAt.of_row (.nil _ _ none 0) (by decide) (by decide) (by decide) (by decide)) (TmAt.of_row (.nil _ _ none 0) (by decide) (by decide) (by decide) (by decide))) (by decide) (by decide) (by decide) (by decide)
  obtain ⟨g2, hg2⟩ : ∃ g2, g2 = w2.heap.size := ⟨_, rfl⟩
  have HB4 := Lib.hid (HB2.out.trans (b4.mono HB2.out.size))
  rw [← hg2] at r1 hT
  have HG := Lib.hid r1
  have HT := Lib.hid hT
  clear b4 r0 r1 hT
  go_upto_region 2 with fail
  try simp only [World.size_alloc]
  rw [← hw4, ← hgp]
  clear hw4 hgp hg2
  have HBR := Lib.hid (Below.refl w4.heap.size w4)
  refine wp_region_held (S := fun V => Below w4.heap.size w4 V) (by kernel_rfl) ?_
  show wpAnyH _ _ _ _ _ _ _ _ w4.drew
  have hS : Below w4.heap.size w4 w4.drew := ⟨rfl, rfl, rfl, Nat.le_refl _, fun _ _ => rfl⟩
  generalize w4.drew = D at hS ⊢
  refine wpAnyH_take (i := 0) (oi := ⟨some 13, _, _, _, _, _⟩) (v := ?_) rfl (by kernel_rfl) (by kernel_rfl) (by kernel_rfl) (fun _ _ _ h => h) (Or.inl ⟨by kernel_rfl, ?_⟩) (by assumption) ?_; rotate_left; (intro VV hSw; (try dsimp only at hSw); have hr := (hSw.block _ (heap_lt HG.out)).trans HG.out; obtain ⟨y0, y1, y2, y3, y4⟩ := five_of hr; go_simp; first | done | with_reducible rfl); (try simp only [Act.put, sI, sZ, sS])
  refine wpAnyH_ready (rs := [1]) (by kernel_rfl) (by simp) ?_
  refine AllReadyH.cons (o := ⟨some 14, _, _, _, _, _⟩) rfl (fun K hK => ?_) AllReadyH.nil
  · rw [if_pos (by rfl)]
    go_simp
    refine (two10_any 1 1 (by decide) (by decide) D).mono ?_
    rintro e D1 ⟨g3, rfl, hT3, b3⟩
    have hS1 := hS.trans (b3.mono hS.size)
    refine hK.out _ _ hS1 (fun hSn => ?_)
    clear hK K hSn; (try simp only [Act.put, sI, sZ, sS])
    clear hS
    have hS := hS1
    clear hS1 b3
    refine wpAnyH_ready (rs := [2]) (by kernel_rfl) (by simp) ?_
    refine AllReadyH.cons (o := ⟨some 15, _, _, _, _, _⟩) rfl (fun K hK => ?_) AllReadyH.nil
    · rw [if_pos (by rfl)]
      go_simp
      have hBB := HBR.out.trans (hS.mono HBR.out.size)
      refine (Match10_any pX10 (twoT 1 1) [] _ _ none 0 0 D1 (HT.out.keep (fun q hq => (hBB.block q (Nat.lt_of_lt_of_le hq (Nat.le_refl _)))) (fun q hq => Nat.lt_of_lt_of_le hq hBB.size)) hT3 (.nil _ _ _ _) pX_nodes (HE.out.under (HB4.out.trans (hBB.mono HB4.out.size)))).mono ?_
      rintro e D2 ⟨A5, n5, c5, rfl, hr5, b5⟩
      have hS1 := hS.trans (b5.mono hS.size)
      rw [wk_ok _ _ wk_1, wk_b1]
      refine hK.out _ _ hS1 (fun hSn => ?_)
      clear hK K hSn; (try simp only [Act.put, sI, sZ, sS])
      refine wpAnyH_take (i := 3) (oi := ⟨some 12, _, _, _, _, _⟩) (v := ?_) rfl (by kernel_rfl) (by kernel_rfl) (by kernel_rfl) (fun _ _ _ h => h) (Or.inl ⟨by kernel_rfl, ?_⟩) (by assumption) ?_; rotate_left; (intro VV hSw; (try dsimp only at hSw); go_simp; first | done | with_reducible rfl); (try simp only [Act.put, sI, sZ, sS])
      refine wpAnyH_take (i := 4) (oi := ⟨some 16, _, _, _, _, _⟩) (v := ?_) rfl (by kernel_rfl) (by kernel_rfl) (by kernel_rfl) (fun _ _ _ h => h) (Or.inl ⟨by kernel_rfl, ?_⟩) (by assumption) ?_; rotate_left; (intro VV hSw; (try dsimp only at hSw); go_simp; first | done | with_reducible rfl); (try simp only [Act.put, sI, sZ, sS])
      refine wpAnyH_take (i := 5) (oi := ⟨some 17, _, _, _, _, _⟩) (v := ?_) rfl (by kernel_rfl) (by kernel_rfl) (by kernel_rfl) (fun _ _ _ h => h) (Or.inl ⟨by kernel_rfl, ?_⟩) (by assumption) ?_; rotate_left; (intro VV hSw; (try dsimp only at hSw); go_simp; first | done | with_reducible rfl); (try simp only [Act.put, sI, sZ, sS])
      refine wpAnyH_take (i := 6) (oi := ⟨some 18, _, _, _, _, _⟩) (v := ?_) rfl (by kernel_rfl) (by kernel_rfl) (by kernel_rfl) (fun _ _ _ h => h) (Or.inl ⟨by kernel_rfl, ?_⟩) (by assumption) ?_; rotate_left; (intro VV hSw; (try dsimp only at hSw); go_simp; first | done | with_reducible rfl); (try simp only [Act.put, sI, sZ, sS])
      refine wpAnyH_take (i := 7) (oi := ⟨some 2, _, _, _, _, _⟩) (v := ?_) rfl (by kernel_rfl) (by kernel_rfl) (by kernel_rfl) (fun _ _ _ h => h) (Or.inl ⟨by kernel_rfl, ?_⟩) (by assumption) ?_; rotate_left; (intro VV hSw; (try dsimp only at hSw); go_simp; first | done | with_reducible rfl); (try simp only [Act.put, sI, sZ, sS])
      refine wpAnyH_take (i := 8) (oi := ⟨some 3, _, _, _, _, _⟩) (v := ?_) rfl (by kernel_rfl) (by kernel_rfl) (by kernel_rfl) (fun _ _ _ h => h) (Or.inl ⟨by kernel_rfl, ?_⟩) (by assumption) ?_; rotate_left; (intro VV hSw; (try dsimp only at hSw); go_simp; first | done | with_reducible rfl); (try simp only [Act.put, sI, sZ, sS])
      refine wpAnyH_take (i := 9) (oi := ⟨some 4, _, _, _, _, _⟩) (v := ?_) rfl (by kernel_rfl) (by kernel_rfl) (by kernel_rfl) (fun _ _ _ h => h) (Or.inl ⟨by kernel_rfl, ?_⟩) (by assumption) ?_; rotate_left; (intro VV hSw; (try dsimp only at hSw); go_simp; first | done | with_reducible rfl); (try simp only [Act.put, sI, sZ, sS])
      refine wpAnyH_done (by kernel_rfl) ?_ _
      rw [wk_l1] at hr5
      have HR5 := Lib.hid hr5
      have HB5 := Lib.hid hS1
      have HG5 := Lib.hid ((hS1.block _ (heap_lt HG.out)).trans HG.out)
      clear hr5 b5 hS hS1 hBB hT3
      go_upto_region 3 with fail
      refine wp_region_held (S := fun V => Below D2.heap.size D2 V) (by kernel_rfl) ?_
      show wpAnyH _ _ _ _ _ _ _ _ D2.drew
      have hS : Below D2.heap.size D2 D2.drew := ⟨rfl, rfl, rfl, Nat.le_refl _, fun _ _ => rfl⟩
      generalize D2.drew = E at hS ⊢
      refine wpAnyH_take (i := 0) (oi := ⟨some 20, _, _, _, _, _⟩) (v := ?_) rfl (by kernel_rfl) (by kernel_rfl) (by kernel_rfl) (fun _ _ _ h => h) (Or.inl ⟨by kernel_rfl, ?_⟩) (by assumption) ?_; rotate_left; (intro VV hSw; (try dsimp only at hSw); have hr := (hSw.block _ (heap_lt HG5.out)).trans HG5.out; obtain ⟨y0, y1, y2, y3, y4⟩ := five_of hr; go_simp; first | done | with_reducible rfl); (try simp only [Act.put, sI, sZ, sS])
      refine wpAnyH_ready (rs := [1]) (by kernel_rfl) (by simp) ?_
      refine AllReadyH.cons (o := ⟨some 21, _, _, _, _, _⟩) rfl (fun K hK => ?_) AllReadyH.nil
      · rw [if_pos (by rfl)]
        go_simp
        refine (two10_any 1 2 (by decide) (by decide) E).mono ?_
        rintro e E1 ⟨g3, rfl, hT3, b3⟩
        have hS1 := hS.trans (b3.mono hS.size)
        refine hK.out _ _ hS1 (fun hSn => ?_)
        clear hK K hSn; (try simp only [Act.put, sI, sZ, sS])
        clear hS
        have hS := hS1
        clear hS1 b3
        refine wpAnyH_ready (rs := [2]) (by kernel_rfl) (by simp) ?_
        refine AllReadyH.cons (o := ⟨some 22, _, _, _, _, _⟩) rfl (fun K hK => ?_) AllReadyH.nil
        · rw [if_pos (by rfl)]
          go_simp
          have hBB := HB5.out.trans (hS.mono HB5.out.size)
          refine (Match10_any pX10 (twoT 1 2) [] _ _ none 0 0 E1 (HT.out.keep (fun q hq => (hBB.block q (Nat.lt_of_lt_of_le hq (Nat.le_refl _)))) (fun q hq => Nat.lt_of_lt_of_le hq hBB.size)) hT3 (.nil _ _ _ _) pX_nodes (HE.out.under (HB4.out.trans (hBB.mono HB4.out.size)))).mono ?_
          rintro e E2 ⟨A6, n6, c6, rfl, hr5, b5⟩
          have hS1 := hS.trans (b5.mono hS.size)
          rw [wk_ok _ _ wk_2, wk_b2]
          refine hK.out _ _ hS1 (fun hSn => ?_)
          clear hK K hSn; (try simp only [Act.put, sI, sZ, sS])
          refine wpAnyH_take (i := 3) (oi := ⟨some 19, _, _, _, _, _⟩) (v := ?_) rfl (by kernel_rfl) (by kernel_rfl) (by kernel_rfl) (fun _ _ _ h => h) (Or.inl ⟨by kernel_rfl, ?_⟩) (by assumption) ?_; rotate_left; (intro VV hSw; (try dsimp only at hSw); go_simp; first | done | with_reducible rfl); (try simp only [Act.put, sI, sZ, sS])
          refine wpAnyH_take (i := 4) (oi := ⟨some 23, _, _, _, _, _⟩) (v := ?_) rfl (by kernel_rfl) (by kernel_rfl) (by kernel_rfl) (fun _ _ _ h => h) (Or.inl ⟨by kernel_rfl, ?_⟩) (by assumption) ?_; rotate_left; (intro VV hSw; (try dsimp only at hSw); go_simp; first | done | with_reducible rfl); (try simp only [Act.put, sI, sZ, sS])
          refine wpAnyH_take (i := 5) (oi := ⟨some 24, _, _, _, _, _⟩) (v := ?_) rfl (by kernel_rfl) (by kernel_rfl) (by kernel_rfl) (fun _ _ _ h => h) (Or.inl ⟨by kernel_rfl, ?_⟩) (by assumption) ?_; rotate_left; (intro VV hSw; (try dsimp only at hSw); go_simp; first | done | with_reducible rfl); (try simp only [Act.put, sI, sZ, sS])
          refine wpAnyH_take (i := 6) (oi := ⟨some 25, _, _, _, _, _⟩) (v := ?_) rfl (by kernel_rfl) (by kernel_rfl) (by kernel_rfl) (fun _ _ _ h => h) (Or.inl ⟨by kernel_rfl, ?_⟩) (by assumption) ?_; rotate_left; (intro VV hSw; (try dsimp only at hSw); go_simp; first | done | with_reducible rfl); (try simp only [Act.put, sI, sZ, sS])
          refine wpAnyH_take (i := 7) (oi := ⟨some 5, _, _, _, _, _⟩) (v := ?_) rfl (by kernel_rfl) (by kernel_rfl) (by kernel_rfl) (fun _ _ _ h => h) (Or.inl ⟨by kernel_rfl, ?_⟩) (by assumption) ?_; rotate_left; (intro VV hSw; (try dsimp only at hSw); go_simp; first | done | with_reducible rfl); (try simp only [Act.put, sI, sZ, sS])
          refine wpAnyH_take (i := 8) (oi := ⟨some 6, _, _, _, _, _⟩) (v := ?_) rfl (by kernel_rfl) (by kernel_rfl) (by kernel_rfl) (fun _ _ _ h => h) (Or.inl ⟨by kernel_rfl, ?_⟩) (by assumption) ?_; rotate_left; (intro VV hSw; (try dsimp only at hSw); go_simp; first | done | with_reducible rfl); (try simp only [Act.put, sI, sZ, sS])
          refine wpAnyH_take (i := 9) (oi := ⟨some 7, _, _, _, _, _⟩) (v := ?_) rfl (by kernel_rfl) (by kernel_rfl) (by kernel_rfl) (fun _ _ _ h => h) (Or.inl ⟨by kernel_rfl, ?_⟩) (by assumption) ?_; rotate_left; (intro VV hSw; (try dsimp only at hSw); go_simp; first | done | with_reducible rfl); (try simp only [Act.put, sI, sZ, sS])
          refine wpAnyH_done (by kernel_rfl) ?_ _
          have HB7 := Lib.hid (HB5.out.trans (hS1.mono HB5.out.size))
          have HS7 := Lib.hid hS1
          clear hr5 b5 hS hS1 hBB hT3
          obtain ⟨ad, u, hA, had, hsz, hEl, hTy⟩ := HR5.out.at_ 0 _ rfl
          have hn5 := HR5.out.len
          obtain ⟨ag, ao, asp⟩ := ad
          subst hA
          obtain ⟨c0, c1, c2, c3, c4, rfl, es, e0, e1, e2, e3, e4⟩ := hEl.keep (HS7.out.block _ had)
          obtain ⟨_, _, he, _⟩ := hTy.parts
          simp only [Value.agg.injEq, Array.mk.injEq, List.cons.injEq, and_true] at he
          obtain ⟨rfl, rfl, rfl, rfl, rfl⟩ := he
          obtain rfl : 1 = _ := hn5
          have q0 : E2.cell? ⟨ag, ao, asp⟩ = some (.string ⟨#[88]⟩) := es
          have q1 : E2.cell? ⟨ag, ao + 2, none⟩ = some (.int .i64 1) := e1
          have HF := Lib.hid (HB4.out.trans (HB7.out.mono HB4.out.size))
          clear es e0 e1 e2 e3 e4 hEl hTy had hsz
          go_wp2_with fail
          go_ret
          exact ⟨rfl, HF.out⟩
end Go.Proofs.YtkceoiaaiaomoaaGreatDoor
end
section

end
section

end
section
set_option linter.unusedVariables false
set_option linter.unusedSimpArgs false
namespace Go.Proofs.YtkceoiaaiaomoaaGreatDoor
open Go.RowKit

theorem tup_check11 {l : List Tm} (h : fitN 1 l = 0) : checkN (tupT l) = 0 := by
  obtain ⟨h1, h2⟩ := fit_zero h
  have hs := sumN_small l (by omega)
  refine check_of (fun y hy => ?_) ?_
  · unfold tupT at hy
    rw [Tm.pre] at hy
    rcases List.mem_cons.1 hy with rfl | hz
    · show okN 5 0 ⟨#[]⟩ ⟨#[]⟩ l.length = true
      simp [okN, ok_tuple]
    · clear hy
      have hy := hz
      obtain ⟨x, hx, hyx⟩ : ∃ x ∈ l, y ∈ x.pre := by
        clear h h1 h2 hs hz
        induction l with
        | nil => cases hy
        | cons a l ih =>
          rw [Tm.pres] at hy
          rcases List.mem_append.1 hy with h | h
          · exact ⟨a, by simp, h⟩
          · obtain ⟨x, hx, h⟩ := ih h
            exact ⟨x, by simp [hx], h⟩
      exact (h2 x hx).1 y hyx
  · unfold tupT
    rw [Tm.nodes_mk, hs.1]; omega
theorem cons_check11 {a b : Tm} (h : fitN 1 [a, b] = 0) : checkN (consT a b) = 0 := by
  obtain ⟨h1, h2⟩ := fit_zero h
  have hs := sumN_small [a, b] (by omega)
  refine check_of (fun y hy => ?_) ?_
  · unfold consT at hy
    rw [Tm.pre] at hy
    rcases List.mem_cons.1 hy with rfl | hy
    · show okN 7 0 ⟨#[]⟩ ⟨#[]⟩ 2 = true
      simp [okN, ok_cons]
    · rw [Tm.pres, Tm.pres, Tm.pres, List.append_nil] at hy
      rcases List.mem_append.1 hy with h | h
      · exact (h2 a (by simp)).1 y h
      · exact (h2 b (by simp)).1 y h
  · unfold consT
    rw [Tm.nodes_mk, hs.1]; omega
theorem one_check11 {k n : Int} {s t : ByteArray} (h : okN k n s t 0 = true) : checkN (.mk k n s t []) = 0 :=
  check_of (fun y hy => by rw [Tm.pre, Tm.pres] at hy; rcases List.mem_cons.1 hy with rfl | hy; (exact h); (cases hy)) (by rw [Tm.nodes_mk]; simp [Tm.pres])
theorem do_may11 {s : ByteArray} {a b : Int} (h : (doR s a b).2 = 0) : mayB (doR s a b).1 = true := by
  unfold doR at h ⊢
  have hf : ∀ x : Int, (fit x).2 = 0 → mayB (fit x).1 = true := by
    intro x hx; unfold fit at hx ⊢
    split
    · rename_i hm; exact hm
    · rename_i hm; rw [if_neg hm] at hx; cases hx
  repeat' split
  all_goals simp_all
theorem gv_check {l : List Bd} {x y : Tm} (h : gvT l x = some y) (hm : mayL l = true) (hg : guaB x = true) : checkN y = 0 := by
  obtain ⟨k, n, s, t, ps⟩ := x
  rw [gvT_mk] at h
  obtain ⟨vs, hvs, hp⟩ := Option.bind_eq_some_iff.1 h
  clear h
  have h := hp
  clear hp
  have hleaf : (k = 5 ∨ k = 6 ∨ k = 7 ∨ k = 8) → leafB k n s t ps = true := by
    intro hk
    unfold guaB at hg
    rw [Bool.or_eq_true] at hg
    rcases hg with hg | hg
    · exact hg
    · simp only [Bool.and_eq_true, Bool.or_eq_true, beq_iff_eq] at hg
      omega
  unfold putT at h
  by_cases h5 : k = 5
  · rw [if_pos h5] at h
    unfold varT at h
    split at h
    · cases h
    · have hc := List.all_eq_true.1 hm _ (findB_mem h)
      simpa using hc
  rw [if_neg h5] at h
  by_cases h6 : k = 6
  · rw [if_pos h6] at h
    have hl := hleaf (.inr (.inl h6))
    unfold leafB at hl
    subst h6
    simp only [Bool.and_eq_true, Bool.or_eq_true, beq_iff_eq] at hl
    have hmy : mayB n = true := by
      rcases hl.2 with ((h | h) | h) | h
      · exact absurd h.1.1 (by decide)
      · exact h.2
      · exact absurd h.1.1 (by decide)
      · exact absurd h.1.1 (by decide)
    cases h
    exact one_check11 (by simp [okN, ok_integer, hmy])
  rw [if_neg h6] at h
  by_cases h7 : k = 7
  · rw [if_pos h7] at h
    have hl := hleaf (.inr (.inr (.inl h7)))
    unfold leafB at hl
    subst h7
    simp only [Bool.and_eq_true, Bool.or_eq_true, beq_iff_eq] at hl
    have hmy : nameB s 2 = true := by
      rcases hl.2 with ((h | h) | h) | h
      · exact absurd h.1.1 (by decide)
      · exact absurd h.1.1 (by decide)
      · have := h.2; unfold atomB at this; rw [Bool.and_eq_true] at this; exact this.1
      · exact absurd h.1.1 (by decide)
    cases h
    exact one_check11 (by simp [okN, ok_atom, hmy])
  rw [if_neg h7] at h
  by_cases h8 : k = 8
  · rw [if_pos h8] at h
    cases h
    exact one_check11 (by simp [okN, ok_empty])
  rw [if_neg h8] at h
  by_cases h9 : k = 9
  · rw [if_pos h9] at h
    unfold consR at h
    split at h
    · split at h
      · rename_i hf; cases h; exact cons_check11 hf
      · cases h
    · cases h
  rw [if_neg h9] at h
  by_cases h10 : k = 10
  · rw [if_pos h10] at h
    unfold tupR at h
    split at h
    · rename_i hf; cases h; exact tup_check11 hf
    · cases h
  rw [if_neg h10] at h
  by_cases h11 : k = 11
  · rw [if_pos h11] at h
    unfold opR at h
    split at h
    · split at h
      · rename_i hf; cases h; exact one_check11 (by simp [okN, ok_integer, do_may11 hf.2.2])
      · cases h
    · cases h
  rw [if_neg h11] at h
  cases h
end Go.Proofs.YtkceoiaaiaomoaaGreatDoor
end
section

end
section

end
section

end
section

end
section

end
section

end
section

end
section
set_option linter.unusedVariables false
set_option linter.unusedSimpArgs false
namespace Go.Proofs.YtkceoiaaiaomoaaGreatDoor
open Go.RowKit

theorem pres_sub11 : ∀ {l : List Tm} {x y : Tm}, x ∈ l → y ∈ x.pre → y ∈ Tm.pres l
  | z :: l, x, y, hx, hy => by
    rw [Tm.pres]
    rcases List.mem_cons.1 hx with rfl | hx
    · exact List.mem_append_left _ hy
    · exact List.mem_append_right _ (pres_sub11 hx hy)
end Go.Proofs.YtkceoiaaiaomoaaGreatDoor
end
section
set_option linter.unusedVariables false
set_option linter.unusedSimpArgs false
namespace Go.Proofs.YtkceoiaaiaomoaaGreatDoor
open Go.RowKit

theorem goP_ok : ∀ (p t : Tm) (l l' : List Bd), goP p t l = some l' → checkN t = 0 → (∀ b ∈ l, checkN b.2 = 0) → ∀ b ∈ l', checkN b.2 = 0 := by
  intro p
  induction p using Tm.ind with
  | h k n s u ps ih =>
    intro t l l' h ht hl
    have rows : ∀ (ps ts : List Tm) (l l' : List Bd), (∀ x ∈ ps, ∀ (t : Tm) (l l' : List Bd), goP x t l = some l' → checkN t = 0 → (∀ b ∈ l, checkN b.2 = 0) → ∀ b ∈ l', checkN b.2 = 0) → goPs ps ts l = some l' → (∀ y ∈ ts, checkN y = 0) → (∀ b ∈ l, checkN b.2 = 0) → ∀ b ∈ l', checkN b.2 = 0 := by
      intro ps
      induction ps with
      | nil =>
        intro ts l l' _ h _ hl
        rw [goPs] at h
        · cases h; exact hl
        · intro a b c d e; cases e
      | cons p ps ihp =>
        intro ts l l' hp h hts hl
        cases ts with
        | nil =>
          rw [goPs] at h
          · cases h; exact hl
          · intro a b c d e f; cases f
        | cons t ts =>
          rw [goPs] at h
          cases hq : goP p t l with
          | none => rw [hq] at h; cases h
          | some l1 =>
            rw [hq] at h
            exact ihp ts l1 l' (fun x hx => hp x (by simp [hx])) h (fun y hy => hts y (by simp [hy])) (hp p (by simp) t l l1 hq (hts t (by simp)) hl)
    rw [goP] at h
    split at h
    · split at h
      · cases h; exact hl
      · split at h
        · split at h
          · cases h; exact hl
          · cases h
        · cases h
          intro b hb
          rcases List.mem_append.1 hb with hb | hb
          · exact hl b hb
          · rw [List.mem_singleton.1 hb]; exact ht
    · split at h
      · split at h
        · cases h; exact hl
        · cases h
      · split at h
        · split at h
          · cases h; exact hl
          · cases h
        · split at h
          · split at h
            · cases h; exact hl
            · cases h
          · split at h
            · split at h
              · exact rows ps t.l l l' ih h (fun y hy => check_part ht hy) hl
              · cases h
            · split at h
              · exact rows ps t.l l l' ih h (fun y hy => check_part ht hy) hl
              · cases h
end Go.Proofs.YtkceoiaaiaomoaaGreatDoor
end
section

end
section

end
section
set_option linter.unusedVariables false
set_option linter.unusedSimpArgs false
namespace Go.Proofs.YtkceoiaaiaomoaaGreatDoor
open Go.RowKit

theorem one_ok (p t : Tm) (l : List Bd) : allOk10 [p] [t] l = (patOk p && ((checkN t == 0) && may10 l)) := by unfold allOk10; simp
theorem one_go (p t : Tm) (l : List Bd) : goPs [p] [t] l = goP p t l := by
  cases h : goP p t l with
  | none => rw [goPs, h]
  | some l' =>
    rw [goPs, h]
    show goPs [] [] l' = some l'
    rw [goPs]
    intro a b c d e; cases e
theorem all_yes {ps ts : List Tm} {l : List Bd} (h : allOk10 ps ts l = true) : allE ps ts l = 0 ∧ allB ps ts l = (goPs ps ts l).isSome ∧ allL ps ts l = (goPs ps ts l).getD l := by
  unfold allE allB allL
  rw [h]
  exact ⟨rfl, rfl, rfl⟩
end Go.Proofs.YtkceoiaaiaomoaaGreatDoor
end
section
set_option linter.unusedVariables false
set_option linter.unusedSimpArgs false
namespace Go.Proofs.YtkceoiaaiaomoaaGreatDoor
open Go.RowKit

structure RowN (P : Nat → Prop) (w : World) (A : Option Addr) (n : Nat) (l : List Tm) : Prop where
  len : l.length = n
  at_ : ∀ j x, l[j]? = some x → ∃ ad v, A = some ad ∧ ElemAt w ad j v ∧ TmAt P w x v
theorem OwnTN.rowN {base : Nat} {P : Nat → Prop} {w : World} {A : Option Addr} {n cap : Nat} {hs : List Tm} (h : OwnTN base P w (.slice A n cap) hs) : RowN P w A n hs := by
  have hn := (h.trow (Q := fun _ => True) (fun _ _ => trivial) (fun _ _ _ _ => trivial)).1
  obtain ⟨us, ho, hl, ht⟩ := h.row
  have hf := ownT_fiveN hl ht
  refine ⟨hn.symm, fun j x hj => ?_⟩
  obtain ⟨u, hu, hT⟩ := ht j x hj
  rw [← hn] at ho
  obtain ⟨g, rfl, _, _, _, hE⟩ := own_elemN ho hf hu
  exact ⟨_, u, rfl, hE, hT⟩
theorem OwnTN.low {base base' : Nat} {P : Nat → Prop} {w : World} {v : Value} {hs : List Tm} (h : OwnTN base P w v hs) (hb : base' ≤ base) : OwnTN base' P w v hs := by
  obtain ⟨us, ho, r⟩ := h.row
  refine ⟨us, ⟨ho.1, ?_⟩, r⟩
  rcases ho.2 with e | ⟨g, c, cur, e, hg, q⟩
  · exact .inl e
  · exact .inr ⟨g, c, cur, e, Nat.le_trans hb hg, q⟩
theorem OwnTN.one {base g : Nat} {P : Nat → Prop} {w : World} {x : Tm} {c0 c1 c2 c3 c4 : Value} (hg : w.heap[g]? = some (.cells #[c0, c1, c2, c3, c4] 25 (0, 0))) (hb : base ≤ g) (ht : TmAt P w x (.agg #[c0, c1, c2, c3, c4])) : OwnTN base P w (.slice (some ⟨g, 0, none⟩) 1 1) [x] :=
  ⟨[.agg #[c0, c1, c2, c3, c4]], ⟨rfl, .inr ⟨g, 1, _, rfl, hb, hg, Nat.le_refl _, by decide, rfl, rfl⟩⟩, rfl, fun j b hj => by
    match j, hj with
    | 0, hj => simp at hj; subst hj; exact ⟨_, rfl, ht⟩
    | j + 1, hj => simp at hj⟩
theorem RowN.flatN {P : Nat → Prop} {w : World} {ad : Addr} {n : Nat} {l : List Tm} (h : RowN P w (some ad) n l) :
    ∃ us : List Value, us.length = l.length ∧ (∀ (j : Nat) (x : Tm), l[j]? = some x → ∃ u, us[j]? = some u ∧ TmAt P w x u) ∧ ∀ i u, (flatN us)[i]? = some u → w.cell? (ad.add i) = some u := by
  obtain ⟨us, hl, hu⟩ := rows_choose (n := l.length) (p := fun j u => ElemAt w ad j u ∧ ∀ x, l[j]? = some x → TmAt P w x u) (fun j hj => by
    obtain ⟨ad', v, e, he, ht⟩ := h.at_ j _ (List.getElem?_eq_getElem hj)
    cases e
    exact ⟨v, he, fun x hx => by rw [List.getElem?_eq_getElem hj] at hx; cases hx; exact ht⟩)
  have at_ : ∀ (j : Nat) (x : Tm), l[j]? = some x → ∃ u, us[j]? = some u ∧ TmAt P w x u := fun j x hx => by
    have hj := (List.getElem?_eq_some_iff.1 hx).1
    have e : us[j]? = some us[j] := List.getElem?_eq_getElem (by omega)
    exact ⟨_, e, (hu _ _ e).2 x hx⟩
  have hf := ownT_fiveN hl at_
  refine ⟨us, hl, at_, fun i u hi => ?_⟩
  have hlen := flat_lengthN hf
  have hil := (List.getElem?_eq_some_iff.1 hi).1
  have e5 : i / 5 * 5 + i % 5 = i := by omega
  have hj : i / 5 < us.length := by omega
  have eu : us[i / 5]? = some us[i / 5] := List.getElem?_eq_getElem hj
  obtain ⟨c0, c1, c2, c3, c4, ec, g0, g1, g2, g3, g4⟩ := (hu _ _ eu).1
  have hfl := flat_atN hf eu (i % 5) (by omega)
  rw [e5, hi, ec] at hfl
  have addj : ∀ r, (ad.add (i / 5 * 5)).add r = ad.add (i / 5 * 5 + r) := by
    intro r
    unfold Addr.add
    by_cases h0 : i / 5 * 5 = 0
    · simp [h0]
    · by_cases h1 : r = 0
      · simp [h1]
      · simp [h0, h1]; omega
  have hm : i % 5 = 0 ∨ i % 5 = 1 ∨ i % 5 = 2 ∨ i % 5 = 3 ∨ i % 5 = 4 := by omega
  rcases hm with hm | hm | hm | hm | hm
  all_goals
    rw [hm] at hfl e5
    simp [fiveN] at hfl
    subst hfl
    rw [← e5]
  · rw [Nat.add_zero]; exact g0
  · rw [← addj]; rw [show (ad.add (i / 5 * 5)).add 1 = ⟨(ad.add (i / 5 * 5)).block, (ad.add (i / 5 * 5)).off + 1, none⟩ by simp [Addr.add]]; exact g1
  · rw [← addj]; rw [show (ad.add (i / 5 * 5)).add 2 = ⟨(ad.add (i / 5 * 5)).block, (ad.add (i / 5 * 5)).off + 2, none⟩ by simp [Addr.add]]; exact g2
  · rw [← addj]; rw [show (ad.add (i / 5 * 5)).add 3 = ⟨(ad.add (i / 5 * 5)).block, (ad.add (i / 5 * 5)).off + 3, none⟩ by simp [Addr.add]]; exact g3
  · rw [← addj]; rw [show (ad.add (i / 5 * 5)).add 4 = ⟨(ad.add (i / 5 * 5)).block, (ad.add (i / 5 * 5)).off + 4, none⟩ by simp [Addr.add]]; exact g4

section
variable {ops : Array Oper} {rest : List Oper} {o : Oper} {a : Act} {w : World}
set_option maxRecDepth 100000 in
theorem wp_own_rowsN {K : Act → World → Prop} {Q : Exit → Act → World → Prop} (sl x : Operand)
    (ho : o.op = .call { callee := .builtin .append, args := #[sl, x], argTypes := #[23, 23] })
    {base : Nat} {P : Nat → Prop} {v : Value} {hs : List Tm} (hown : OwnTN base P w v hs) (hbase : base ≤ w.heap.size) (hP : ∀ b, P b → b < w.heap.size ∧ v.ownBlock ≠ some b) (he : a.eval sl = v)
    {A : Option Addr} {m cap : Nat} {ys : List Tm} (hx : a.eval x = .slice A m cap) (hR : RowN P w A m ys) (hlen : hs.length + ys.length ≤ 1000000)
    (h : ∀ v' w', OwnTN base P w' v' (hs ++ ys) → w.grownBy w' v.ownBlock → (v'.ownBlock = v.ownBlock ∨ v'.ownBlock = some w.heap.size) → K (a.put o.dst v') w') : o.wp Tryz.prog a w K Q := by
  obtain ⟨i, hi, hz, hsz, hby⟩ := info_parts info_termN
  obtain ⟨us, hu, hl, ht⟩ := hown.row
  obtain rfl := hR.len
  unfold Oper.wp execOp
  simp only [ho, resolve, invoke, builtin, Sem.run_bind, Sem.run_pure, Result.andThen_ok, List.map_toArray, List.map_cons, List.map_nil, he, hx]
  rcases A with _ | ad
  · have hy : ys = [] := by
      cases ys with
      | nil => rfl
      | cons y ys => obtain ⟨ad, _, e, _⟩ := hR.at_ 0 y rfl; cases e
    subst hy
    rw [show ([] : List Tm).length = 0 from rfl, append_noughtN Tryz.underlying23 hi hu cap]
    exact h _ _ (by rw [List.append_nil]; exact hown) (World.grownBy.refl w _) (.inl rfl)
  · obtain ⟨vs, hvl, hvt, hvc⟩ := hR.flatN
    have hf := ownT_fiveN hl ht
    have hg := ownT_fiveN hvl hvt
    have h1 : ∀ u ∈ flatN vs, u.oneCell' = true := by
      intro u hu
      obtain ⟨v, hv, hu⟩ := List.mem_flatMap.1 hu
      obtain ⟨j, hj, rfl⟩ := List.getElem_of_mem hv
      obtain ⟨u', e1, hT⟩ := hvt j ys[j] (List.getElem?_eq_getElem (by omega))
      rw [List.getElem?_eq_getElem hj] at e1
      cases e1
      generalize vs[j] = r at hT hu
      generalize ys[j] = q at hT
      cases hT
      simp [fiveN] at hu
      rcases hu with rfl | rfl | rfl | rfl | rfl <;> rfl
    obtain ⟨v', w', hr, h2, h3, _, h5⟩ := run_append_own_at (P := Tryz.prog) w base 23 o.type 25 i _ 5 72 Tryz.underlying23 hi hz hsz hby rfl (by decide) v hs.length (flatN us) hu ad ys.length cap (flatN vs) (by rw [flat_lengthN hg, hvl]) hvc h1 (by unfold maxLen; omega) (by omega) hbase
    rw [hr]
    have keepP : ∀ b, P b → w'.heap[b]? = w.heap[b]? := fun b hb => h3.block b (hP b hb).1 (fun e => (hP b hb).2 e.symm)
    refine h _ _ ⟨us ++ vs, ?_, by simp [hl, hvl], fun j z hj => ?_⟩ h3 h5
    · rw [List.length_append, flat_appendN]; exact h2
    · rw [List.getElem?_append] at hj
      split at hj
      · obtain ⟨u, hu', hT⟩ := ht j z hj
        exact ⟨u, by rw [List.getElem?_append_left (by omega)]; exact hu', hT.keep keepP (fun _ h => h)⟩
      · obtain ⟨u, hu', hT⟩ := hvt _ z hj
        exact ⟨u, by rw [List.getElem?_append_right (by omega), hl]; exact hu', hT.keep keepP (fun _ h => h)⟩
theorem wpList_own_rowsN {Q : Exit → Act → World → Prop} (hgd : o.guard = none) (sl x : Operand)
    (ho : o.op = .call { callee := .builtin .append, args := #[sl, x], argTypes := #[23, 23] })
    {base : Nat} {P : Nat → Prop} {v : Value} {hs : List Tm} (hown : OwnTN base P w v hs) (hbase : base ≤ w.heap.size) (hP : ∀ b, P b → b < w.heap.size ∧ v.ownBlock ≠ some b) (he : a.eval sl = v)
    {A : Option Addr} {m cap : Nat} {ys : List Tm} (hx : a.eval x = .slice A m cap) (hR : RowN P w A m ys) (hlen : hs.length + ys.length ≤ 1000000)
    (h : ∀ v' w', OwnTN base P w' v' (hs ++ ys) → w.grownBy w' v.ownBlock → (v'.ownBlock = v.ownBlock ∨ v'.ownBlock = some w.heap.size) → wpList Tryz.prog ops Q rest (a.put o.dst v') w') : wpList Tryz.prog ops Q (o :: rest) a w :=
  wpList_plain hgd fun K hK => wp_own_rowsN sl x ho hown hbase hP he hx hR hlen fun v' w' h1 h2 h3 => hK _ _ (h v' w' h1 h2 h3)
end
theorem take_more {α : Type} {a c : List α} {m : Nat} (h : (a.take m).length < m) : a.take m ++ c.take (m - (a.take m).length) = (a ++ c).take m := by
  rw [List.length_take] at h
  have h2 : a.length < m := by omega
  rw [List.take_append, List.length_take, show min m a.length = a.length by omega]
theorem take_full {α : Type} {a c : List α} {m : Nat} (h : ¬ (a.take m).length < m) : (a ++ c).take m = a.take m := by
  rw [List.length_take] at h
  rw [List.take_append, show m - a.length = 0 by omega, List.take_zero, List.append_nil]
set_option maxHeartbeats 4000000 in
set_option maxRecDepth 100000 in
theorem rWalk_any (x : Tm) : ∀ (P : Nat → Prop) (v : Value) (most : Nat) (w : World), TmAt P w x v → (∀ b, P b → b < w.heap.size) → 1 ≤ most → most ≤ 500000 →
    Calls Tryz.prog 38 #[v, .int .i64 most] w fun e w' => ∃ A cap, e = .returned (.slice A (x.pre.take most).length cap) ∧ OwnTN w.heap.size P w' (.slice A (x.pre.take most).length cap) (x.pre.take most) ∧ Below w.heap.size w w' := by
  induction x using Tm.ind with
  | h k n s t l ih =>
    intro P v most w hT hP h1 hmost
    obtain ⟨X, hX⟩ : ∃ X, X = Tm.mk k n s t l := ⟨_, rfl⟩
    have hT0 := hT
    rw [← hX] at hT0
    obtain ⟨A, cap, rfl, hR, hk, hn, hs, ht⟩ := hT.parts
    have hlen := hR.max
    unfold maxLen at hlen
    have HXP : Hid ((Tm.mk k n s t l).pre = X :: Tm.pres l) := Lib.hid (by rw [Tm.pre, hX])
    have HR := Lib.hid hR
    have HIH := Lib.hid ih
    have HP := Lib.hid hP
    clear hR ih hT hP
    rw [← hX]
    rw [← hX] at HXP
    clear hX
    obtain ⟨w1, hw1⟩ : ∃ w1, w1 = w.alloc (.cells #[.int .i8 k, .int .i64 n, .string s, .string t, .slice A l.length cap] 25) := ⟨_, rfl⟩
    have hB1 : Below w.heap.size w w1 := by rw [hw1]; exact (Below.refl _ w).alloc (Nat.le_refl _) _
    have hbox : w1.heap[w.heap.size]? = some (.cells #[.int .i8 k, .int .i64 n, .string s, .string t, .slice A l.length cap] 25 (0, 0)) := by rw [hw1]; exact block_alloc _ _
    have HB1 := Lib.hid hB1
    have HX := Lib.hid hbox
    have HZ := Lib.hid (heap_lt hbox)
    have HT0 := Lib.hid (hT0.keep (Q := P) (fun b hb => hB1.block b (HP.out b hb)) (fun _ h => h))
    obtain ⟨x0, x1, x2, x3, x4⟩ := five_of hbox
    obtain ⟨w2, hw2⟩ : ∃ w2, w2 = w1.alloc (.cells #[.int .i8 k, .int .i64 n, .string s, .string t, .slice A l.length cap] 25) := ⟨_, rfl⟩
    have hB2 : Below w1.heap.size w1 w2 := by rw [hw2]; exact (Below.refl _ w1).alloc (Nat.le_refl _) _
    have hg2 : w2.heap[w1.heap.size]? = some (.cells #[.int .i8 k, .int .i64 n, .string s, .string t, .slice A l.length cap] 25 (0, 0)) := by rw [hw2]; exact block_alloc _ _
    have HB2 := Lib.hid hB2
    have HO2 : Hid (OwnTN w1.heap.size P w2 (.slice (some ⟨w1.heap.size, 0, none⟩) 1 1) [X]) := Lib.hid (OwnTN.one hg2 (Nat.le_refl _) (HT0.out.keep (fun b hb => hB2.block b (Nat.lt_of_lt_of_le (HP.out b hb) HB1.out.size)) (fun _ h => h)))
    clear hB1 hbox hB2 hg2 hT0
    go_enter Tryz.func38, Tryz.ntmps38
    go_upto_region 1 with fail
    rw [← hw1]
    clear hw1
    go_upto_region 2 with fail
    rw [← hw2]
    clear hw2 x0 x1 x2 x3 x4
    go_wp2_with fail
    go_loopw [5, 6] (fun r i wr => ∃ j : Nat, j ≤ l.length ∧ i = .int .i64 j ∧ ∃ (RA : Option Addr) (rc : Nat) (hs : List Tm), r = .slice RA hs.length rc ∧ Hid (hs = (X :: Tm.pres (l.take j)).take most) ∧ Hid (OwnTN w1.heap.size P wr (.slice RA hs.length rc) hs) ∧ Hid (Below w1.heap.size w1 wr)) (fun _ i _ => l.length - (intOf i).toNat)
    case atStart => exact ⟨0, Nat.zero_le _, rfl, _, 1, [X], rfl, Lib.hid (by rw [List.take_zero, show Tm.pres [] = [] from rfl, List.take_of_length_le (by simp; omega)]), HO2, HB2⟩
    case round =>
      obtain ⟨j, hj, rfl, RA, rc, hs', rfl, HH, HO, HB⟩ := hrel
      have hc4 : wr.cell? ⟨w.heap.size, 4, none⟩ = some (.slice A l.length cap) := cell_of_row (i := 4) ((HB.out.block _ HZ.out).trans HX.out) rfl
      have hq2 : hs'.length ≤ most := by rw [HH.out, List.length_take]; omega
      obtain ⟨q, hq⟩ : ∃ q, q = hs'.length := ⟨_, rfl⟩
      rw [← hq] at HO hq2 ⊢
      have HQ := Lib.hid hq
      clear hq
      by_cases hlt : j < l.length
      · by_cases hm : q < most
        · obtain ⟨y, hy⟩ : ∃ y, l[j]? = some y := ⟨l[j], List.getElem?_eq_getElem hlt⟩
          obtain ⟨ad, u, rfl, had, hE, hTy⟩ := HR.out.at_ j y hy
          have hEr : ElemAt wr ad j u := hE.keep ((HB.out.block ad.block (Nat.lt_of_lt_of_le (HP.out _ had) HB1.out.size)).trans (HB1.out.block ad.block (HP.out _ had)))
          have hTr : TmAt P wr y u := hTy.keep (fun b hb => (HB.out.block b (Nat.lt_of_lt_of_le (HP.out _ hb) HB1.out.size)).trans (HB1.out.block b (HP.out _ hb))) (fun _ h => h)
          have HC := Lib.hid (HIH.out y (List.mem_of_getElem? hy) P u (most - q) wr hTr (fun b hb => Nat.lt_of_lt_of_le (Nat.lt_of_lt_of_le (HP.out b hb) HB1.out.size) HB.out.size) (by omega) (by omega))
          have HNX : Hid (∀ c, c = hs' ++ y.pre.take (most - q) → c = (X :: Tm.pres (l.take (j + 1))).take most) := Lib.hid (fun c hc => by
            rw [hc, Tm.pres_take_succ hy, ← List.cons_append, HH.out, HQ.out, HH.out]
            exact take_more (by rw [← HH.out, ← HQ.out]; exact hm))
          obtain ⟨c0, c1, c2, c3, c4, rfl, e0, e1, e2, e3, e4⟩ := hEr
          clear hE hTy hTr hy had
          have he : (most : Int) - q = ((most - q : Nat) : Int) := by omega
          go_wp2_with fail
          clear he
          refine HC.out.mono ?_
          rintro e w4 ⟨A2, cap2, rfl, hO2, b2⟩
          obtain ⟨ys, hys⟩ : ∃ ys, ys = y.pre.take (most - q) := ⟨_, rfl⟩
          rw [← hys] at hO2 ⊢
          have hyl : ys.length ≤ most - q := by rw [hys, List.length_take]; omega
          have HRN := Lib.hid hO2.rowN
          have hO3 : OwnTN w1.heap.size P w4 (.slice RA q rc) hs' := HO.out.keep (Mod.of_below (F := fun _ => False) b2) (fun _ _ f => f) (fun b hb => ⟨Nat.lt_of_lt_of_le (Nat.lt_of_lt_of_le (HP.out b hb) HB1.out.size) HB.out.size, fun f => f⟩) (fun _ h => h)
          have HO3 := Lib.hid hO3
          have HB4 := Lib.hid (HB.out.trans (b2.mono HB.out.size))
          have HPP : Hid (∀ b, P b → b < w4.heap.size ∧ (Value.slice RA q rc).ownBlock ≠ some b) := Lib.hid (fun b hb => ⟨Nat.lt_of_lt_of_le (Nat.lt_of_lt_of_le (HP.out b hb) HB1.out.size) HB4.out.size, fun e => by have h1 := (HO3.out.own b e).1; have h2 := HP.out b hb; have h3 := HB1.out.size; have h4 := HZ.out; omega⟩)
          have HLE : Hid (hs'.length + ys.length ≤ 1000000) := Lib.hid (by have := HQ.out; omega)
          have HYS := Lib.hid hys
          clear hO2 hO3 hys hyl b2 HC e0 e1 e2 e3 e4
          go_wp2_with (at_builtin; refine wpList_own_rowsN rfl (.tmp 22) (.tmp 32) rfl HO3.out HB4.out.size HPP.out rfl rfl HRN.out HLE.out ?_)
          intro v' w5 O' hg hwh
          obtain ⟨A5, cap5, rfl⟩ := O'.shape
          have mg : Mod (fun g => (Value.slice RA q rc).ownBlock = some g) w4 w5 := Mod.grown hg (fun _ _ e => e)
          have HB5 := Lib.hid (HB4.out.trans (mg.below HB4.out.size (fun g e => (HO3.out.own g e).1)))
          obtain ⟨hs5, hh5⟩ : ∃ hs5, hs5 = hs' ++ ys := ⟨_, rfl⟩
          rw [← hh5] at O' ⊢
          have HN5 := Lib.hid (HNX.out hs5 (by rw [hh5, HYS.out]))
          have HO5 := Lib.hid O'
          clear O' hg hwh mg hh5 HNX
          go_wp2_with fail
          go_roundw
          case rel => exact ⟨j + 1, by omega, by go_num, A5, cap5, hs5, rfl, HN5, HO5, HB5⟩
          case measure => simp [intOf]; omega
        · have hfin : hs' = X.pre.take most := by
            rw [HXP.out, show Tm.pres l = Tm.pres (l.take j) ++ Tm.pres (l.drop j) by rw [← Tm.pres_append, List.take_append_drop], ← List.cons_append, take_full (by rw [← HH.out, ← HQ.out]; exact hm)]
            exact HH.out
          have HFN := Lib.hid hfin
          clear hfin
          go_wp2_with fail
          go_ret
          refine ⟨RA, rc, by rw [← HFN.out, ← HQ.out]; rfl, ?_, HB1.out.trans (HB.out.mono HB1.out.size)⟩
          rw [← HFN.out, ← HQ.out]
          exact HO.out.low HB1.out.size
      · obtain rfl : j = l.length := by omega
        have hfin : hs' = X.pre.take most := by
          rw [HXP.out, HH.out, List.take_length]
        have HFN := Lib.hid hfin
        clear hfin
        go_wp2_with fail
        go_ret
        refine ⟨RA, rc, by rw [← HFN.out, ← HQ.out]; rfl, ?_, HB1.out.trans (HB.out.mono HB1.out.size)⟩
        rw [← HFN.out, ← HQ.out]
        exact HO.out.low HB1.out.size
end Go.Proofs.YtkceoiaaiaomoaaGreatDoor
end
section

end
