/- The document's own answer of layer 7 for a variable's name. -/
import Derived.Test.YtkceoiaaiaomoaaGreatDoorKMt7
import Derived.Test.YtkceoiaaiaomoaaGreatDoorKRef03C
import Derived.Test.YtkceoiaaiaomoaaGreatDoorKGd6
import Derived.Test.YtkceoiaaiaomoaaGreatDoorKOrd
import Derived.Test.YtkceoiaaiaomoaaGreatDoorKGd15
import Derived.Test.YtkceoiaaiaomoaaGreatDoorKBnd
import Derived.Test.YtkceoiaaiaomoaaGreatDoorKAstC
import Derived.LoopTactic
import Derived.LoopNIn
import Derived.Deep.DeepCutAuto
import Derived.Tactics2
import Derived.StillTailTactics
import Derived.Deep.QuietTactic
import Derived.BigQuiet
import Derived.Below
import Derived.Deep.RegionHeld
import Derived.OrdersHeld
section
set_option linter.unusedVariables false
set_option linter.unusedSimpArgs false
namespace Go.Proofs.YtkceoiaaiaomoaaGreatDoor
open Go.RowKit

def pX10 : Tm := .mk 10 0 ⟨#[]⟩ ⟨#[]⟩ [vaN ⟨#[88]⟩, vaN ⟨#[88]⟩]
theorem pX_nodes : pX10.nodes ≤ 8200 := by decide +kernel
theorem wk_ok (a b : Int) (h : allOk10 [pX10] [twoT a b] [] = true) : allE [pX10] [twoT a b] [] = 0 := if_pos h
theorem wk_1 : allOk10 [pX10] [twoT 1 1] [] = true := by decide +kernel
theorem wk_2 : allOk10 [pX10] [twoT 1 2] [] = true := by decide +kernel
theorem wk_g1 : goPs [pX10] [twoT 1 1] [] = some [(⟨#[88]⟩, intT 1)] := by rfl
theorem wk_g2 : goPs [pX10] [twoT 1 2] [] = none := by rfl
theorem wk_b1 : allB [pX10] [twoT 1 1] [] = true := by unfold allB; rw [wk_1, wk_g1]; rfl
theorem wk_b2 : allB [pX10] [twoT 1 2] [] = false := by unfold allB; rw [wk_2, wk_g2]; rfl
theorem wk_l1 : allL [pX10] [twoT 1 1] [] = [(⟨#[88]⟩, intT 1)] := by unfold allL; rw [if_pos wk_1, wk_g1]; rfl
set_option maxHeartbeats 4000000 in
set_option maxRecDepth 100000 in
theorem wakes10_any (W : World) (hE : Env7 W) : Calls Tryz.prog 26 #[] W fun e w' => e = .returned (.bool true) ∧ Below W.heap.size W w' := by
  have HE := Lib.hid hE
  clear hE
  go_enter Tryz.func26, Tryz.ntmps26
  go_wp2_with fail
  refine (v10_any _ W).mono ?_
  rintro e w1 ⟨rfl, b1⟩
  have HB1 := Lib.hid b1
  clear b1
  go_wp2_with fail
  refine (v10_any _ w1).mono ?_
  rintro e w2 ⟨rfl, b2⟩
  have HB2 := Lib.hid (HB1.out.trans (b2.mono HB1.out.size))
  clear b2
  obtain ⟨w4, hw4⟩ : ∃ w4, w4 = (w2.alloc (.cells #[.int .i8 5, .int .i64 0, .string ⟨#[88]⟩, .string ⟨#[]⟩, .slice none 0 0, .int .i8 5, .int .i64 0, .string ⟨#[88]⟩, .string ⟨#[]⟩, .slice none 0 0] 25)).alloc (.cells #[.int .i8 10, .int .i64 0, .string ⟨#[]⟩, .string ⟨#[]⟩, .slice (some ⟨w2.heap.size, 0, none⟩) 2 2] 25) := ⟨_, rfl⟩
  obtain ⟨gp, hgp⟩ : ∃ gp, gp = w2.heap.size + 1 := ⟨_, rfl⟩
  have b4 : Below w2.heap.size w2 w4 := by rw [hw4]; exact ((Below.refl _ _).alloc (Nat.le_refl _) _).alloc (by simp) _
  have r0 : w4.heap[w2.heap.size]? = some (.cells #[.int .i8 5, .int .i64 0, .string ⟨#[88]⟩, .string ⟨#[]⟩, .slice none 0 0, .int .i8 5, .int .i64 0, .string ⟨#[88]⟩, .string ⟨#[]⟩, .slice none 0 0] 25 (0, 0)) := by rw [hw4]; exact there_of _ (block_alloc _ _)
  have r1 : w4.heap[gp]? = some (.cells #[.int .i8 10, .int .i64 0, .string ⟨#[]⟩, .string ⟨#[]⟩, .slice (some ⟨w2.heap.size, 0, none⟩) 2 2] 25 (0, 0)) := by
    rw [hw4, hgp]
    have := block_alloc (w2.alloc (.cells #[.int .i8 5, .int .i64 0, .string ⟨#[88]⟩, .string ⟨#[]⟩, .slice none 0 0, .int .i8 5, .int .i64 0, .string ⟨#[88]⟩, .string ⟨#[]⟩, .slice none 0 0] 25)) (.cells #[.int .i8 10, .int .i64 0, .string ⟨#[]⟩, .string ⟨#[]⟩, .slice (some ⟨w2.heap.size, 0, none⟩) 2 2] 25)
    rw [World.size_alloc] at this
    exact this
  have hT : TmAt (· < w4.heap.size) w4 pX10 (.agg #[.int .i8 10, .int .i64 0, .string ⟨#[]⟩, .string ⟨#[]⟩, .slice (some ⟨w2.heap.size, 0, none⟩) 2 2]) := TmAt.of_row (k := 10) (n := 0) (s := ⟨#[]⟩) (t := ⟨#[]⟩) (l := [vaN ⟨#[88]⟩, vaN ⟨#[88]⟩]) (row2_of r0 (heap_lt r0) (TmAt.of_row (.nil _ _ none 0) (by decide) (by decide) (by decide) (by decide)) (TmAt.of_row (.nil _ _ none 0) (by decide) (by decide) (by decide) (by decide))) (by decide) (by decide) (by decide) (by decide)
  obtain ⟨g2, hg2⟩ : ∃ g2, g2 = w2.heap.size := ⟨_, rfl⟩
  have HB4 := Lib.hid (HB2.out.trans (b4.mono HB2.out.size))
  rw [← hg2] at r1 hT
  have HG := Lib.hid r1
  have HT := Lib.hid hT
  clear b4 r0 r1 hT
  go_upto_region 2 with fail
  try simp only [World.size_alloc]
  rw [← hw4, ← hgp]
  clear hw4 hgp hg2
  have HBR := Lib.hid (Below.refl w4.heap.size w4)
  refine wp_region_held (S := fun V => Below w4.heap.size w4 V) (by kernel_rfl) ?_
  show wpAnyH _ _ _ _ _ _ _ _ w4.drew
  have hS : Below w4.heap.size w4 w4.drew := ⟨rfl, rfl, rfl, Nat.le_refl _, fun _ _ => rfl⟩
  generalize w4.drew = D at hS ⊢
  refine wpAnyH_take (i := 0) (oi := ⟨some 13, _, _, _, _, _⟩) (v := ?_) rfl (by kernel_rfl) (by kernel_rfl) (by kernel_rfl) (fun _ _ _ h => h) (Or.inl ⟨by kernel_rfl, ?_⟩) (by assumption) ?_; rotate_left; (intro VV hSw; (try dsimp only at hSw); have hr := (hSw.block _ (heap_lt HG.out)).trans HG.out; obtain ⟨y0, y1, y2, y3, y4⟩ := five_of hr; go_simp; first | done | with_reducible rfl); (try simp only [Act.put, sI, sZ, sS])
  refine wpAnyH_ready (rs := [1]) (by kernel_rfl) (by simp) ?_
  refine AllReadyH.cons (o := ⟨some 14, _, _, _, _, _⟩) rfl (fun K hK => ?_) AllReadyH.nil
  · rw [if_pos (by rfl)]
    go_simp
    refine (two10_any 1 1 (by decide) (by decide) D).mono ?_
    rintro e D1 ⟨g3, rfl, hT3, b3⟩
    have hS1 := hS.trans (b3.mono hS.size)
    refine hK.out _ _ hS1 (fun hSn => ?_)
    clear hK K hSn; (try simp only [Act.put, sI, sZ, sS])
    clear hS
    have hS := hS1
    clear hS1 b3
    refine wpAnyH_ready (rs := [2]) (by kernel_rfl) (by simp) ?_
    refine AllReadyH.cons (o := ⟨some 15, _, _, _, _, _⟩) rfl (fun K hK => ?_) AllReadyH.nil
    · rw [if_pos (by rfl)]
      go_simp
      have hBB := HBR.out.trans (hS.mono HBR.out.size)
      refine (Match10_any pX10 (twoT 1 1) [] _ _ none 0 0 D1 (HT.out.keep (fun q hq => (hBB.block q (Nat.lt_of_lt_of_le hq (Nat.le_refl _)))) (fun q hq => Nat.lt_of_lt_of_le hq hBB.size)) hT3 (.nil _ _ _ _) pX_nodes (HE.out.under (HB4.out.trans (hBB.mono HB4.out.size)))).mono ?_
      rintro e D2 ⟨A5, n5, c5, rfl, hr5, b5⟩
      have hS1 := hS.trans (b5.mono hS.size)
      rw [wk_ok _ _ wk_1, wk_b1]
      refine hK.out _ _ hS1 (fun hSn => ?_)
      clear hK K hSn; (try simp only [Act.put, sI, sZ, sS])
      refine wpAnyH_take (i := 3) (oi := ⟨some 12, _, _, _, _, _⟩) (v := ?_) rfl (by kernel_rfl) (by kernel_rfl) (by kernel_rfl) (fun _ _ _ h => h) (Or.inl ⟨by kernel_rfl, ?_⟩) (by assumption) ?_; rotate_left; (intro VV hSw; (try dsimp only at hSw); go_simp; first | done | with_reducible rfl); (try simp only [Act.put, sI, sZ, sS])
      refine wpAnyH_take (i := 4) (oi := ⟨some 16, _, _, _, _, _⟩) (v := ?_) rfl (by kernel_rfl) (by kernel_rfl) (by kernel_rfl) (fun _ _ _ h => h) (Or.inl ⟨by kernel_rfl, ?_⟩) (by assumption) ?_; rotate_left; (intro VV hSw; (try dsimp only at hSw); go_simp; first | done | with_reducible rfl); (try simp only [Act.put, sI, sZ, sS])
      refine wpAnyH_take (i := 5) (oi := ⟨some 17, _, _, _, _, _⟩) (v := ?_) rfl (by kernel_rfl) (by kernel_rfl) (by kernel_rfl) (fun _ _ _ h => h) (Or.inl ⟨by kernel_rfl, ?_⟩) (by assumption) ?_; rotate_left; (intro VV hSw; (try dsimp only at hSw); go_simp; first | done | with_reducible rfl); (try simp only [Act.put, sI, sZ, sS])
      refine wpAnyH_take (i := 6) (oi := ⟨some 18, _, _, _, _, _⟩) (v := ?_) rfl (by kernel_rfl) (by kernel_rfl) (by kernel_rfl) (fun _ _ _ h => h) (Or.inl ⟨by kernel_rfl, ?_⟩) (by assumption) ?_; rotate_left; (intro VV hSw; (try dsimp only at hSw); go_simp; first | done | with_reducible rfl); (try simp only [Act.put, sI, sZ, sS])
      refine wpAnyH_take (i := 7) (oi := ⟨some 2, _, _, _, _, _⟩) (v := ?_) rfl (by kernel_rfl) (by kernel_rfl) (by kernel_rfl) (fun _ _ _ h => h) (Or.inl ⟨by kernel_rfl, ?_⟩) (by assumption) ?_; rotate_left; (intro VV hSw; (try dsimp only at hSw); go_simp; first | done | with_reducible rfl); (try simp only [Act.put, sI, sZ, sS])
      refine wpAnyH_take (i := 8) (oi := ⟨some 3, _, _, _, _, _⟩) (v := ?_) rfl (by kernel_rfl) (by kernel_rfl) (by kernel_rfl) (fun _ _ _ h => h) (Or.inl ⟨by kernel_rfl, ?_⟩) (by assumption) ?_; rotate_left; (intro VV hSw; (try dsimp only at hSw); go_simp; first | done | with_reducible rfl); (try simp only [Act.put, sI, sZ, sS])
      refine wpAnyH_take (i := 9) (oi := ⟨some 4, _, _, _, _, _⟩) (v := ?_) rfl (by kernel_rfl) (by kernel_rfl) (by kernel_rfl) (fun _ _ _ h => h) (Or.inl ⟨by kernel_rfl, ?_⟩) (by assumption) ?_; rotate_left; (intro VV hSw; (try dsimp only at hSw); go_simp; first | done | with_reducible rfl); (try simp only [Act.put, sI, sZ, sS])
      refine wpAnyH_done (by kernel_rfl) ?_ _
      rw [wk_l1] at hr5
      have HR5 := Lib.hid hr5
      have HB5 := Lib.hid hS1
      have HG5 := Lib.hid ((hS1.block _ (heap_lt HG.out)).trans HG.out)
      clear hr5 b5 hS hS1 hBB hT3
      go_upto_region 3 with fail
      refine wp_region_held (S := fun V => Below D2.heap.size D2 V) (by kernel_rfl) ?_
      show wpAnyH _ _ _ _ _ _ _ _ D2.drew
      have hS : Below D2.heap.size D2 D2.drew := ⟨rfl, rfl, rfl, Nat.le_refl _, fun _ _ => rfl⟩
      generalize D2.drew = E at hS ⊢
      refine wpAnyH_take (i := 0) (oi := ⟨some 20, _, _, _, _, _⟩) (v := ?_) rfl (by kernel_rfl) (by kernel_rfl) (by kernel_rfl) (fun _ _ _ h => h) (Or.inl ⟨by kernel_rfl, ?_⟩) (by assumption) ?_; rotate_left; (intro VV hSw; (try dsimp only at hSw); have hr := (hSw.block _ (heap_lt HG5.out)).trans HG5.out; obtain ⟨y0, y1, y2, y3, y4⟩ := five_of hr; go_simp; first | done | with_reducible rfl); (try simp only [Act.put, sI, sZ, sS])
      refine wpAnyH_ready (rs := [1]) (by kernel_rfl) (by simp) ?_
      refine AllReadyH.cons (o := ⟨some 21, _, _, _, _, _⟩) rfl (fun K hK => ?_) AllReadyH.nil
      · rw [if_pos (by rfl)]
        go_simp
        refine (two10_any 1 2 (by decide) (by decide) E).mono ?_
        rintro e E1 ⟨g3, rfl, hT3, b3⟩
        have hS1 := hS.trans (b3.mono hS.size)
        refine hK.out _ _ hS1 (fun hSn => ?_)
        clear hK K hSn; (try simp only [Act.put, sI, sZ, sS])
        clear hS
        have hS := hS1
        clear hS1 b3
        refine wpAnyH_ready (rs := [2]) (by kernel_rfl) (by simp) ?_
        refine AllReadyH.cons (o := ⟨some 22, _, _, _, _, _⟩) rfl (fun K hK => ?_) AllReadyH.nil
        · rw [if_pos (by rfl)]
          go_simp
          have hBB := HB5.out.trans (hS.mono HB5.out.size)
          refine (Match10_any pX10 (twoT 1 2) [] _ _ none 0 0 E1 (HT.out.keep (fun q hq => (hBB.block q (Nat.lt_of_lt_of_le hq (Nat.le_refl _)))) (fun q hq => Nat.lt_of_lt_of_le hq hBB.size)) hT3 (.nil _ _ _ _) pX_nodes (HE.out.under (HB4.out.trans (hBB.mono HB4.out.size)))).mono ?_
          rintro e E2 ⟨A6, n6, c6, rfl, hr5, b5⟩
          have hS1 := hS.trans (b5.mono hS.size)
          rw [wk_ok _ _ wk_2, wk_b2]
          refine hK.out _ _ hS1 (fun hSn => ?_)
          clear hK K hSn; (try simp only [Act.put, sI, sZ, sS])
          refine wpAnyH_take (i := 3) (oi := ⟨some 19, _, _, _, _, _⟩) (v := ?_) rfl (by kernel_rfl) (by kernel_rfl) (by kernel_rfl) (fun _ _ _ h => h) (Or.inl ⟨by kernel_rfl, ?_⟩) (by assumption) ?_; rotate_left; (intro VV hSw; (try dsimp only at hSw); go_simp; first | done | with_reducible rfl); (try simp only [Act.put, sI, sZ, sS])
          refine wpAnyH_take (i := 4) (oi := ⟨some 23, _, _, _, _, _⟩) (v := ?_) rfl (by kernel_rfl) (by kernel_rfl) (by kernel_rfl) (fun _ _ _ h => h) (Or.inl ⟨by kernel_rfl, ?_⟩) (by assumption) ?_; rotate_left; (intro VV hSw; (try dsimp only at hSw); go_simp; first | done | with_reducible rfl); (try simp only [Act.put, sI, sZ, sS])
          refine wpAnyH_take (i := 5) (oi := ⟨some 24, _, _, _, _, _⟩) (v := ?_) rfl (by kernel_rfl) (by kernel_rfl) (by kernel_rfl) (fun _ _ _ h => h) (Or.inl ⟨by kernel_rfl, ?_⟩) (by assumption) ?_; rotate_left; (intro VV hSw; (try dsimp only at hSw); go_simp; first | done | with_reducible rfl); (try simp only [Act.put, sI, sZ, sS])
          refine wpAnyH_take (i := 6) (oi := ⟨some 25, _, _, _, _, _⟩) (v := ?_) rfl (by kernel_rfl) (by kernel_rfl) (by kernel_rfl) (fun _ _ _ h => h) (Or.inl ⟨by kernel_rfl, ?_⟩) (by assumption) ?_; rotate_left; (intro VV hSw; (try dsimp only at hSw); go_simp; first | done | with_reducible rfl); (try simp only [Act.put, sI, sZ, sS])
          refine wpAnyH_take (i := 7) (oi := ⟨some 5, _, _, _, _, _⟩) (v := ?_) rfl (by kernel_rfl) (by kernel_rfl) (by kernel_rfl) (fun _ _ _ h => h) (Or.inl ⟨by kernel_rfl, ?_⟩) (by assumption) ?_; rotate_left; (intro VV hSw; (try dsimp only at hSw); go_simp; first | done | with_reducible rfl); (try simp only [Act.put, sI, sZ, sS])
          refine wpAnyH_take (i := 8) (oi := ⟨some 6, _, _, _, _, _⟩) (v := ?_) rfl (by kernel_rfl) (by kernel_rfl) (by kernel_rfl) (fun _ _ _ h => h) (Or.inl ⟨by kernel_rfl, ?_⟩) (by assumption) ?_; rotate_left; (intro VV hSw; (try dsimp only at hSw); go_simp; first | done | with_reducible rfl); (try simp only [Act.put, sI, sZ, sS])
          refine wpAnyH_take (i := 9) (oi := ⟨some 7, _, _, _, _, _⟩) (v := ?_) rfl (by kernel_rfl) (by kernel_rfl) (by kernel_rfl) (fun _ _ _ h => h) (Or.inl ⟨by kernel_rfl, ?_⟩) (by assumption) ?_; rotate_left; (intro VV hSw; (try dsimp only at hSw); go_simp; first | done | with_reducible rfl); (try simp only [Act.put, sI, sZ, sS])
          refine wpAnyH_done (by kernel_rfl) ?_ _
          have HB7 := Lib.hid (HB5.out.trans (hS1.mono HB5.out.size))
          have HS7 := Lib.hid hS1
          clear hr5 b5 hS hS1 hBB hT3
          obtain ⟨ad, u, hA, had, hsz, hEl, hTy⟩ := HR5.out.at_ 0 _ rfl
          have hn5 := HR5.out.len
          obtain ⟨ag, ao, asp⟩ := ad
          subst hA
          obtain ⟨c0, c1, c2, c3, c4, rfl, es, e0, e1, e2, e3, e4⟩ := hEl.keep (HS7.out.block _ had)
          obtain ⟨_, _, he, _⟩ := hTy.parts
          simp only [Value.agg.injEq, Array.mk.injEq, List.cons.injEq, and_true] at he
          obtain ⟨rfl, rfl, rfl, rfl, rfl⟩ := he
          obtain rfl : 1 = _ := hn5
          have q0 : E2.cell? ⟨ag, ao, asp⟩ = some (.string ⟨#[88]⟩) := es
          have q1 : E2.cell? ⟨ag, ao + 2, none⟩ = some (.int .i64 1) := e1
          have HF := Lib.hid (HB4.out.trans (HB7.out.mono HB4.out.size))
          clear es e0 e1 e2 e3 e4 hEl hTy had hsz
          go_wp2_with fail
          go_ret
          exact ⟨rfl, HF.out⟩
end Go.Proofs.YtkceoiaaiaomoaaGreatDoor
end
section

end
section
set_option linter.unusedVariables false
set_option linter.unusedSimpArgs false
namespace Go.Proofs.YtkceoiaaiaomoaaGreatDoor
open Go.RowKit

theorem rAtom_any (s : ByteArray) (w : World) : Calls Tryz.prog 147 #[.string s] w fun e w' => e = .returned (.agg #[.int .i8 1, .int .i64 0, .string s, .string ⟨#[]⟩, .slice none 0 0]) ∧ Below w.heap.size w w' := by
  go_enter Tryz.func147, Tryz.ntmps147
  go_wp2_with fail
  refine bodyPost_ret (v := .agg #[.int .i8 1, .int .i64 0, .string s, .string ⟨#[]⟩, .slice none 0 0]) (by simp [results, Tryz.f147, go_sem]) rfl ⟨rfl, (Below.refl _ _).alloc (Nat.le_refl _) _⟩
end Go.Proofs.YtkceoiaaiaomoaaGreatDoor
end
section
set_option linter.unusedVariables false
set_option linter.unusedSimpArgs false
namespace Go.Proofs.YtkceoiaaiaomoaaGreatDoor
open Go.RowKit

theorem tup_check11 {l : List Tm} (h : fitN 1 l = 0) : checkN (tupT l) = 0 := by
  obtain ⟨h1, h2⟩ := fit_zero h
  have hs := sumN_small l (by omega)
  refine check_of (fun y hy => ?_) ?_
  · unfold tupT at hy
    rw [Tm.pre] at hy
    rcases List.mem_cons.1 hy with rfl | hz
    · show okN 5 0 ⟨#[]⟩ ⟨#[]⟩ l.length = true
      simp [okN, ok_tuple]
    · clear hy
      have hy := hz
      obtain ⟨x, hx, hyx⟩ : ∃ x ∈ l, y ∈ x.pre := by
        clear h h1 h2 hs hz
        induction l with
        | nil => cases hy
        | cons a l ih =>
          rw [Tm.pres] at hy
          rcases List.mem_append.1 hy with h | h
          · exact ⟨a, by simp, h⟩
          · obtain ⟨x, hx, h⟩ := ih h
            exact ⟨x, by simp [hx], h⟩
      exact (h2 x hx).1 y hyx
  · unfold tupT
    rw [Tm.nodes_mk, hs.1]; omega
theorem cons_check11 {a b : Tm} (h : fitN 1 [a, b] = 0) : checkN (consT a b) = 0 := by
  obtain ⟨h1, h2⟩ := fit_zero h
  have hs := sumN_small [a, b] (by omega)
  refine check_of (fun y hy => ?_) ?_
  · unfold consT at hy
    rw [Tm.pre] at hy
    rcases List.mem_cons.1 hy with rfl | hy
    · show okN 7 0 ⟨#[]⟩ ⟨#[]⟩ 2 = true
      simp [okN, ok_cons]
    · rw [Tm.pres, Tm.pres, Tm.pres, List.append_nil] at hy
      rcases List.mem_append.1 hy with h | h
      · exact (h2 a (by simp)).1 y h
      · exact (h2 b (by simp)).1 y h
  · unfold consT
    rw [Tm.nodes_mk, hs.1]; omega
theorem one_check11 {k n : Int} {s t : ByteArray} (h : okN k n s t 0 = true) : checkN (.mk k n s t []) = 0 :=
  check_of (fun y hy => by rw [Tm.pre, Tm.pres] at hy; rcases List.mem_cons.1 hy with rfl | hy; (exact h); (cases hy)) (by rw [Tm.nodes_mk]; simp [Tm.pres])
theorem do_may11 {s : ByteArray} {a b : Int} (h : (doR s a b).2 = 0) : mayB (doR s a b).1 = true := by
  unfold doR at h ⊢
  have hf : ∀ x : Int, (fit x).2 = 0 → mayB (fit x).1 = true := by
    intro x hx; unfold fit at hx ⊢
    split
    · rename_i hm; exact hm
    · rename_i hm; rw [if_neg hm] at hx; cases hx
  repeat' split
  all_goals simp_all
theorem gv_check {l : List Bd} {x y : Tm} (h : gvT l x = some y) (hm : mayL l = true) (hg : guaB x = true) : checkN y = 0 := by
  obtain ⟨k, n, s, t, ps⟩ := x
  rw [gvT_mk] at h
  obtain ⟨vs, hvs, hp⟩ := Option.bind_eq_some_iff.1 h
  clear h
  have h := hp
  clear hp
  have hleaf : (k = 5 ∨ k = 6 ∨ k = 7 ∨ k = 8) → leafB k n s t ps = true := by
    intro hk
    unfold guaB at hg
    rw [Bool.or_eq_true] at hg
    rcases hg with hg | hg
    · exact hg
    · simp only [Bool.and_eq_true, Bool.or_eq_true, beq_iff_eq] at hg
      omega
  unfold putT at h
  by_cases h5 : k = 5
  · rw [if_pos h5] at h
    unfold varT at h
    split at h
    · cases h
    · have hc := List.all_eq_true.1 hm _ (findB_mem h)
      simpa using hc
  rw [if_neg h5] at h
  by_cases h6 : k = 6
  · rw [if_pos h6] at h
    have hl := hleaf (.inr (.inl h6))
    unfold leafB at hl
    subst h6
    simp only [Bool.and_eq_true, Bool.or_eq_true, beq_iff_eq] at hl
    have hmy : mayB n = true := by
      rcases hl.2 with ((h | h) | h) | h
      · exact absurd h.1.1 (by decide)
      · exact h.2
      · exact absurd h.1.1 (by decide)
      · exact absurd h.1.1 (by decide)
    cases h
    exact one_check11 (by simp [okN, ok_integer, hmy])
  rw [if_neg h6] at h
  by_cases h7 : k = 7
  · rw [if_pos h7] at h
    have hl := hleaf (.inr (.inr (.inl h7)))
    unfold leafB at hl
    subst h7
    simp only [Bool.and_eq_true, Bool.or_eq_true, beq_iff_eq] at hl
    have hmy : nameB s 2 = true := by
      rcases hl.2 with ((h | h) | h) | h
      · exact absurd h.1.1 (by decide)
      · exact absurd h.1.1 (by decide)
      · have := h.2; unfold atomB at this; rw [Bool.and_eq_true] at this; exact this.1
      · exact absurd h.1.1 (by decide)
    cases h
    exact one_check11 (by simp [okN, ok_atom, hmy])
  rw [if_neg h7] at h
  by_cases h8 : k = 8
  · rw [if_pos h8] at h
    cases h
    exact one_check11 (by simp [okN, ok_empty])
  rw [if_neg h8] at h
  by_cases h9 : k = 9
  · rw [if_pos h9] at h
    unfold consR at h
    split at h
    · split at h
      · rename_i hf; cases h; exact cons_check11 hf
      · cases h
    · cases h
  rw [if_neg h9] at h
  by_cases h10 : k = 10
  · rw [if_pos h10] at h
    unfold tupR at h
    split at h
    · rename_i hf; cases h; exact tup_check11 hf
    · cases h
  rw [if_neg h10] at h
  by_cases h11 : k = 11
  · rw [if_pos h11] at h
    unfold opR at h
    split at h
    · split at h
      · rename_i hf; cases h; exact one_check11 (by simp [okN, ok_integer, do_may11 hf.2.2])
      · cases h
    · cases h
  rw [if_neg h11] at h
  cases h
def RFindP (r : Option Tm) (n0 : Nat) (w : World) (e : Ending) (w' : World) : Prop :=
  ∃ (k n : Int) (s t : ByteArray) (A : Option Addr) (m c : Nat), e = .returned (.tuple #[.agg #[.int .i8 k, .int .i64 n, .string s, .string t, .slice A m c], .bool r.isSome]) ∧
    (∀ y, r = some y → TmAt (fun b => b < n0 ∨ (w.heap.size ≤ b ∧ b < w'.heap.size)) w' y (.agg #[.int .i8 k, .int .i64 n, .string s, .string t, .slice A m c])) ∧ (r = none → TmAt (fun b => b < n0) w' (intT 0) (.agg #[.int .i8 k, .int .i64 n, .string s, .string t, .slice A m c])) ∧ Below w.heap.size w w'

end Go.Proofs.YtkceoiaaiaomoaaGreatDoor
end
section
set_option linter.unusedVariables false
namespace Go
open Go.RowKit
section
variable {P : Program} {C : World → Prop}
theorem wp_region_qC {id : Nat} {Q : Exit → Act → World → Prop} {a : Act} {w : World} {l : List Oper} (hm : P.follows .mixedOrders = true) (hB : Region.lexB .any l.toArray = true) (hC : C w.drew)
    (h : wpQuiet P l.toArray C (fun a' => ∀ w', C w' → Q .normal a' w') l a) : (Code.region id l.toArray true).wp P Q a w :=
  wp_region_quiet (C := C) hm hB hC (by simpa using h)
theorem wpqC {ops : Array Oper} {Q : Act → Prop} {a : Act} {o : Oper} {rest : List Oper} {v : Value} (hw : Region.wanted o (yielded ops a.tmps) = true) (h : ∀ V, C V → o.quietAt P a C V v) (hr : wpQuiet P ops C Q rest (a.put o.dst v)) : wpQuiet P ops C Q (o :: rest) a :=
  wpQuiet_step fun K hK => by rw [if_pos hw]; exact ⟨v, h, hK _ hr⟩
end
theorem drewC (w : World) : Below w.heap.size w w.drew := ⟨rfl, rfl, rfl, Nat.le_refl _, fun _ _ => rfl⟩
end Go
end
section
set_option linter.unusedVariables false
set_option linter.unusedSimpArgs false
namespace Go.Proofs.YtkceoiaaiaomoaaGreatDoor
open Go.RowKit

theorem deeps_take7 : ∀ {l : List Tm} {j : Nat} {y : Tm}, l[j]? = some y → Tm.deeps (l.take (j + 1)) = max (Tm.deeps (l.take j)) y.deep
  | [], j, y, h => by simp at h
  | x :: l, 0, y, h => by
    simp at h; subst h
    simp [Tm.deeps]
  | x :: l, j + 1, y, h => by
    have h' : l[j]? = some y := by simpa using h
    rw [List.take_succ_cons, List.take_succ_cons, Tm.deeps, Tm.deeps, deeps_take7 h']
    omega
set_option maxHeartbeats 1000000 in
set_option maxRecDepth 100000 in
theorem rdeep_any (x : Tm) : ∀ (v : Value) (most : Nat) (w : World), TmAt (· < w.heap.size) w x v → 1 ≤ most → most ≤ 1000000 →
    Calls Tryz.prog 181 #[v, .int .i64 most] w fun e w' => e = .returned (.int .i64 (min x.deep most : Nat)) ∧ Below w.heap.size w w' := by
  induction x using Tm.ind with
  | h k n s t l ih =>
    intro v most w hT h1 hmost
    obtain ⟨A, cap, rfl, hR, hk, hn, hs, ht⟩ := hT.parts
    have hlen := hR.max
    unfold maxLen at hlen
    have HR := Lib.hid hR
    have HIH := Lib.hid ih
    clear hR ih hT
    obtain ⟨w1, hw1⟩ : ∃ w1, w1 = w.alloc (.cells #[.int .i8 k, .int .i64 n, .string s, .string t, .slice A l.length cap] 25) := ⟨_, rfl⟩
    have hB1 : Below w.heap.size w w1 := by rw [hw1]; exact (Below.refl _ w).alloc (Nat.le_refl _) _
    have hs1 : w1.heap.size = w.heap.size + 1 := by rw [hw1]; simp
    have hbox : w1.heap[w.heap.size]? = some (.cells #[.int .i8 k, .int .i64 n, .string s, .string t, .slice A l.length cap] 25) := by rw [hw1]; exact block_alloc _ _
    have HB1 := Lib.hid hB1
    have HS1 := Lib.hid hs1
    clear hB1 hs1
    go_enter Tryz.func181, Tryz.ntmps181
    go_wp2_with fail
    rw [← hw1]
    clear hw1
    have HX := Lib.hid hbox
    clear hbox
    go_loopw [5, 6] (fun r i wr => ∃ j : Nat, j ≤ l.length ∧ i = .int .i64 j ∧ (∃ q : Nat, r = .int .i64 q ∧ q = min (1 + Tm.deeps (l.take j)) most) ∧ Below w1.heap.size w1 wr) (fun _ i _ => l.length - (intOf i).toNat)
    case atStart => exact ⟨0, Nat.zero_le _, rfl, ⟨1, rfl, by simp [Tm.deeps]; omega⟩, Below.refl _ _⟩
    case round =>
      obtain ⟨j, hj, rfl, ⟨q, rfl, hq⟩, hB⟩ := hrel
      have hbw : wr.heap[w.heap.size]? = _ := (hB.block w.heap.size (by rw [HS1.out]; omega)).trans HX.out
      have hc4 : wr.cell? ⟨w.heap.size, 4, none⟩ = some (.slice A l.length cap) := cell_of_row hbw rfl
      have hq1 : 1 ≤ q := by omega
      have hq2 : q ≤ most := by omega
      have HQ := Lib.hid hq
      have HB := Lib.hid hB
      clear hq hB hbw
      by_cases hlt : j < l.length
      · by_cases hm : 1 < most
        · obtain ⟨y, hy⟩ : ∃ y, l[j]? = some y := ⟨l[j], List.getElem?_eq_getElem hlt⟩
          obtain ⟨ad, u, rfl, had, hE, hTy⟩ := HR.out.at_ j y hy
          have hEr : ElemAt wr ad j u := hE.keep ((HB.out.block ad.block (by rw [HS1.out]; omega)).trans (HB1.out.block ad.block had))
          have hTr : TmAt (· < wr.heap.size) wr y u := hTy.keep (fun b hb => (HB.out.block b (by rw [HS1.out]; omega)).trans (HB1.out.block b hb)) (fun b hb => by have := HB1.out.size; have := HB.out.size; omega)
          obtain ⟨c0, c1, c2, c3, c4, rfl, e0, e1, e2, e3, e4⟩ := hEr
          have hmem := List.mem_of_getElem? hy
          have hpy := Tm.pre_ne y
          have HY := Lib.hid hy
          clear hE hTy hy
          go_wp2_with fail
          have he : (most : Int) - 1 = ((most - 1 : Nat) : Int) := by omega
          rw [he]
          refine (HIH.out y hmem _ (most - 1) _ hTr (by omega) (by omega)).mono ?_
          rintro e w2 ⟨rfl, b2⟩
          have hr : max q (1 + min y.deep (most - 1)) = min (1 + Tm.deeps (l.take (j + 1))) most := by
            rw [deeps_take7 HY.out]
            have := HQ.out
            omega
          have HRR := Lib.hid hr
          have hle : min y.deep (most - 1) ≤ 1000000 := by omega
          clear hr he
          generalize min y.deep (most - 1) = z at HRR hle ⊢
          go_wp2_with fail
          go_roundw
          case rel => exact ⟨j + 1, by omega, by go_num, ⟨max q (1 + z), by go_num, HRR.out⟩, HB.out.trans (b2.mono HB.out.size)⟩
          case measure => simp [intOf]; omega
        · obtain rfl : most = 1 := by omega
          go_wp2_with fail
          go_ret
          refine ⟨ret_int ?_, HB1.out.trans (HB.out.mono (by rw [HS1.out]; omega))⟩
          have : 1 ≤ (Tm.mk k n s t l).deep := by rw [Tm.deep]; omega
          omega
      · obtain rfl : j = l.length := by omega
        go_wp2_with fail
        go_ret
        refine ⟨ret_int ?_, HB1.out.trans (HB.out.mono (by rw [HS1.out]; omega))⟩
        have h := HQ.out
        rw [List.take_length] at h
        rw [Tm.deep]
        omega

set_option maxHeartbeats 1000000 in
set_option maxRecDepth 100000 in
theorem rSizeN_any (x : Tm) (v : Value) (w : World) (hT : TmAt (· < w.heap.size) w x v) :
    Calls Tryz.prog 118 #[v] w fun e w' => e = .returned (.tuple #[.int .i64 (min x.nodes 4097 : Nat), .int .i64 (min x.deep 65 : Nat)]) ∧ Below w.heap.size w w' := by
  obtain ⟨X, hX⟩ : ∃ X, X = x := ⟨_, rfl⟩
  obtain ⟨k, n, s, t, l⟩ := x
  obtain ⟨A, cap, rfl, -⟩ := hT.parts
  rw [← hX] at hT
  rw [← hX]
  obtain ⟨w1, hw1⟩ : ∃ w1, w1 = w.alloc (.cells #[.int .i8 k, .int .i64 n, .string s, .string t, .slice A l.length cap] 25) := ⟨_, rfl⟩
  have hB1 : Below w.heap.size w w1 := by rw [hw1]; exact (Below.refl _ w).alloc (Nat.le_refl _) _
  have hbox : w1.heap[w.heap.size]? = some (.cells #[.int .i8 k, .int .i64 n, .string s, .string t, .slice A l.length cap] 25) := by rw [hw1]; exact block_alloc _ _
  have HT := Lib.hid (hT.laterN hB1)
  have HB1 := Lib.hid hB1
  have HX := Lib.hid hbox
  clear hT hB1 hX hbox
  go_enter Tryz.func118, Tryz.ntmps118
  go_wp2_with fail
  rw [← hw1]
  clear hw1
  refine wp_region_qC (C := fun V => Below w1.heap.size w1 V) (by kernel_rfl) (by kernel_rfl) (drewC w1) ?_
  refine wpqC (v := ?_) (by kernel_rfl) ?_ ?_; rotate_left; (intro V hV; (try dsimp only at hV); have hx := (hV.block _ (heap_lt HX.out)).trans HX.out; have x0 := cell_of_row (i := 0) hx rfl; have x1 := cell_of_row (i := 1) hx rfl; have x2 := cell_of_row (i := 2) hx rfl; have x3 := cell_of_row (i := 3) hx rfl; have x4 := cell_of_row (i := 4) hx rfl; go_simp; first | done | with_reducible rfl); (try simp only [Act.put, sI, sZ, sS])
  refine wpqC (v := .int .i64 (min X.nodes 4097 : Nat)) (by kernel_rfl) ?_ ?_; (· intro V hV; (try dsimp only at hV); go_simp; refine (rnodes_any X _ 4097 V (HT.out.laterN hV) (by omega) (by omega)).mono ?_; rintro e V2 ⟨rfl, b2⟩; exact ⟨rfl, hV.trans (b2.mono hV.size)⟩); (try simp only [Act.put, sI, sZ, sS])
  refine wpqC (v := ?_) (by kernel_rfl) ?_ ?_; rotate_left; (intro V hV; (try dsimp only at hV); go_simp; first | done | with_reducible rfl); (try simp only [Act.put, sI, sZ, sS])
  refine wpqC (v := ?_) (by kernel_rfl) ?_ ?_; rotate_left; (intro V hV; (try dsimp only at hV); have hx := (hV.block _ (heap_lt HX.out)).trans HX.out; have x0 := cell_of_row (i := 0) hx rfl; have x1 := cell_of_row (i := 1) hx rfl; have x2 := cell_of_row (i := 2) hx rfl; have x3 := cell_of_row (i := 3) hx rfl; have x4 := cell_of_row (i := 4) hx rfl; go_simp; first | done | with_reducible rfl); (try simp only [Act.put, sI, sZ, sS])
  refine wpqC (v := .int .i64 (min X.deep 65 : Nat)) (by kernel_rfl) ?_ ?_; (· intro V hV; (try dsimp only at hV); go_simp; refine (rdeep_any X _ 65 V (HT.out.laterN hV) (by omega) (by omega)).mono ?_; rintro e V2 ⟨rfl, b2⟩; exact ⟨rfl, hV.trans (b2.mono hV.size)⟩); (try simp only [Act.put, sI, sZ, sS])
  refine wpqC (v := ?_) (by kernel_rfl) ?_ ?_; rotate_left; (intro V hV; (try dsimp only at hV); go_simp; first | done | with_reducible rfl); (try simp only [Act.put, sI, sZ, sS])
  refine wpqC (v := ?_) (by kernel_rfl) ?_ ?_; rotate_left; (intro V hV; (try dsimp only at hV); go_simp; first | done | with_reducible rfl); (try simp only [Act.put, sI, sZ, sS])
  refine wpqC (v := ?_) (by kernel_rfl) ?_ ?_; rotate_left; (intro V hV; (try dsimp only at hV); go_simp; first | done | with_reducible rfl); (try simp only [Act.put, sI, sZ, sS])
  refine wpQuiet_nil ?_
  intro V9 h9
  (try dsimp only at h9)
  have HB9 := Lib.hid h9
  clear h9
  go_wp2_with fail
  all_goals first
    | (exfalso; omega)
    | exact bodyPost_ret (v := .tuple #[.int .i64 (min X.nodes 4097 : Nat), .int .i64 (min X.deep 65 : Nat)]) (by simp [results, Tryz.f118, go_sem]) rfl ⟨rfl, HB1.out.trans (HB9.out.mono HB1.out.size)⟩
set_option maxHeartbeats 1000000 in
set_option maxRecDepth 100000 in
theorem rFits_any (x : Tm) (v : Value) (w : World) (hT : TmAt (· < w.heap.size) w x v) :
    Calls Tryz.prog 62 #[v] w fun e w' => e = .returned (.bool (fitsB x)) ∧ Below w.heap.size w w' := by
  obtain ⟨X, hX⟩ : ∃ X, X = x := ⟨_, rfl⟩
  obtain ⟨k, n, s, t, l⟩ := x
  obtain ⟨A, cap, rfl, -⟩ := hT.parts
  rw [← hX] at hT
  rw [← hX]
  obtain ⟨w1, hw1⟩ : ∃ w1, w1 = w.alloc (.cells #[.int .i8 k, .int .i64 n, .string s, .string t, .slice A l.length cap] 25) := ⟨_, rfl⟩
  have hB1 : Below w.heap.size w w1 := by rw [hw1]; exact (Below.refl _ w).alloc (Nat.le_refl _) _
  have HT := Lib.hid (hT.laterN hB1)
  have HB1 := Lib.hid hB1
  have HF : Hid (fitsB X = (decide (min X.nodes 4097 ≤ 4096) && decide (min X.deep 65 ≤ 64))) := Lib.hid (by
    unfold fitsB
    rw [Bool.eq_iff_iff]
    simp only [decide_eq_true_eq, Bool.and_eq_true]
    omega)
  clear hT hB1 hX
  go_enter Tryz.func62, Tryz.ntmps62
  go_wp2_with fail
  rw [← hw1]
  clear hw1
  refine (rSizeN_any X _ w1 HT.out).mono ?_
  rintro e w2 ⟨rfl, b2⟩
  have HB2 := Lib.hid (HB1.out.trans (b2.mono HB1.out.size))
  clear b2
  generalize min X.nodes 4097 = z1 at HF ⊢
  generalize min X.deep 65 = z2 at HF ⊢
  go_wp2_with fail
  all_goals
    go_ret
    refine ⟨ret_bool ?_, HB2.out⟩
    rw [HF.out]
    rw [Bool.eq_iff_iff]
    simp only [decide_eq_true_eq, Bool.and_eq_true, Bool.false_eq_true, false_iff]
    omega
end Go.Proofs.YtkceoiaaiaomoaaGreatDoor
end
section
set_option linter.unusedVariables false
namespace Go.Proofs.YtkceoiaaiaomoaaGreatDoor
open Go.RowKit

theorem kindN0 (c : Int) : kindN c = 0 ↔ ¬ ((97 ≤ c ∧ c ≤ 122) ∨ (65 ≤ c ∧ c ≤ 90) ∨ (48 ≤ c ∧ c ≤ 57) ∨ c = 95) := by
  unfold kindN
  split <;> (try split) <;> (try split) <;> (try split) <;> omega
set_option maxHeartbeats 2000000 in
theorem rname7_any (s : ByteArray) (w : World) (hs : s.size ≤ maxLen) :
    Calls Tryz.prog 232 #[.string s] w fun e w' => e = .returned (.bool (nameB s 3)) ∧ w = w' := by
  unfold maxLen at hs
  by_cases h0 : 0 < s.size
  · have hI := Lib.hid (nameB_iff s 3 h0)
    have hL := Lib.hid (fun (h : ∀ j, j < s.size → kd s j ≠ 0) => prefN_eq s s.size (Nat.le_refl _) h (.inl rfl))
    have hP := Lib.hid (fun (k : Nat) (hk : k < s.size) (h : ∀ j, j < k → kd s j ≠ 0) (hz : kd s k = 0) => prefN_eq s k (Nat.le_of_lt hk) h (.inr ⟨hk, hz⟩))
    by_cases h32 : s.size ≤ 32
    · by_cases hf : kindN ((s[0]).toNat : Int) = 3
      · have hf2 := (kindN3 _).1 hf
        have HF := Lib.hid hf
        clear hf
        go_enter Tryz.func232, Tryz.ntmps232
        go_wp2
        all_goals
          go_loop [3] (fun i => ∃ k : Nat, k ≤ s.size ∧ i = .int .i64 k ∧ Hid (∀ j, j < k → kd s j ≠ 0)) (fun i => s.size - (intOf i).toNat)
          case atStart => exact ⟨0, Nat.zero_le _, rfl, fun j h => by omega⟩
          case round =>
            obtain ⟨k, hk, rfl, hd⟩ := hrel
            by_cases hlt : k < s.size
            · have hkd := kd_at s k hlt
              have hz0 := kindN0 ((s[k]).toNat : Int)
              by_cases hz : kindN ((s[k]).toNat : Int) = 0
              · have hn := hz0.1 hz
                have HZ := Lib.hid (hkd.symm.trans hz)
                clear hz0 hz hkd
                go_wp2
                all_goals first
                  | (exfalso; first | omega | (simp only [bne_eq_false_iff_eq] at *; omega))
                  | (go_ret; refine ⟨ret_bool ?_, rfl⟩; rw [eq_comm, Bool.eq_false_iff]; intro hb; have h1 := ((hI.out.1 hb).2.2); have h2 := hP.out k hlt hd.out HZ.out; omega)
              · have hn : ¬ ¬ _ := fun h => hz (hz0.2 h)
                have HZ := Lib.hid (fun h => hz (hkd.trans h))
                clear hz0 hz hkd
                go_wp2
                all_goals first
                  | (exfalso; first | omega | (simp only [bne_eq_false_iff_eq] at *; omega))
                  | (go_round
                     case rel => exact ⟨k + 1, by omega, by go_num, fun j hj => by
                       by_cases e : j = k
                       · subst e; exact HZ.out
                       · exact hd.out j (by omega)⟩
                     case measure => simp [intOf]; omega)
            · go_wp2
              go_ret
              refine ⟨ret_bool ?_, rfl⟩
              rw [eq_comm, hI.out]
              exact ⟨h32, HF.out, hL.out fun j hj => hd.out j (by omega)⟩
      · have hf2 := fun h => hf ((kindN3 _).2 h)
        have HF : Hid (nameB s 3 = false) := Lib.hid (by rw [Bool.eq_false_iff]; intro hb; exact hf (hI.out.1 hb).2.1)
        clear hf
        go_enter Tryz.func232, Tryz.ntmps232
        go_wp2
        all_goals first
          | (exfalso; apply hf2; first | omega | (simp only [bne_eq_false_iff_eq] at *; omega))
          | (go_ret; exact ⟨ret_bool HF.out.symm, rfl⟩)
    · have HF : Hid (nameB s 3 = false) := Lib.hid (by rw [Bool.eq_false_iff]; intro hb; exact h32 (hI.out.1 hb).1)
      have h33 : 32 < s.size := by omega
      clear h32
      go_enter Tryz.func232, Tryz.ntmps232
      go_wp2
      all_goals first
        | (exfalso; omega)
        | (go_ret; exact ⟨ret_bool HF.out.symm, rfl⟩)
  · have HZ := Lib.hid (nameB_0 s 3 h0)
    go_enter Tryz.func232, Tryz.ntmps232
    have h00 : s.size < 1 := by omega
    go_wp2
    all_goals first
      | (exfalso; omega)
      | (go_ret; exact ⟨ret_bool HZ.out.symm, rfl⟩)
end Go.Proofs.YtkceoiaaiaomoaaGreatDoor
end
