/- The law AstOne from contracts, and from this: the texts of trees that may be are one just if the trees are. -/
import Derived.Test.YtcallgoglnkkiaaGreatDoorWakes07
import Derived.Test.YtcallgoglnkkiaaGreatDoorAstS
import Derived.Test.YtcallgoglnkkiaaGreatDoorAstN
import Derived.Deep.RegionHeld
import Derived.OrdersHeld
set_option linter.unusedVariables false
namespace Go.Proofs.YtcallgoglnkkiaaGreatDoor
open Go.RowKit

/-- Texts of trees that may be are one to one. -/
def Inj7 : Prop := ∀ x y : Tm, fitsB x = true → modsB x = true → fitsB y = true → modsB y = true → txMods x = txMods y → x = y
theorem inj7_ok : Inj7 := inj7

set_option maxRecDepth 100000 in
set_option maxHeartbeats 8000000 in
theorem astOne_of {E : World → Prop} (hE : ∀ w w', E w → Below w.heap.size w w' → E w') (hWk : WakesC E) (hChk : CheckC E) (hTxt : TextC E) (hSam : SameC E) (hInj : Inj7) (x y : Tm) (u v : Value) (w : World) (hT : TmAt (· < w.heap.size) w x u) (hU : TmAt (· < w.heap.size) w y v) (hw : E w) :
    Calls Tryz.prog 3 #[u, v] w fun e w' => e = .returned (.bool true) ∧ Below w.heap.size w w' := by
  obtain ⟨X, hX⟩ : ∃ X, X = x := ⟨_, rfl⟩
  obtain ⟨Y, hY⟩ : ∃ Y, Y = y := ⟨_, rfl⟩
  obtain ⟨k1, n1, s1, t1, l1⟩ := x
  obtain ⟨k2, n2, s2, t2, l2⟩ := y
  obtain ⟨A1, cap1, rfl, -⟩ := hT.parts
  obtain ⟨A2, cap2, rfl, -⟩ := hU.parts
  rw [← hX] at hT
  rw [← hY] at hU
  have HT := Lib.hid hT
  have HU := Lib.hid hU
  have HEE := Lib.hid hE
  have HWK := Lib.hid hWk
  have HCK := Lib.hid hChk
  have HTX := Lib.hid hTxt
  have HSM := Lib.hid hSam
  have HIN := Lib.hid hInj
  have b0 : Below w.heap.size w ((w.alloc (.cells #[.int .i8 k1, .int .i64 n1, .string s1, .string t1, .slice A1 l1.length cap1] 25)).alloc (.cells #[.int .i8 k2, .int .i64 n2, .string s2, .string t2, .slice A2 l2.length cap2] 25)) := ((Below.refl _ w).alloc (Nat.le_refl _) _).alloc (by simp) _
  obtain ⟨g0, z0⟩ := here_of (.cells #[.int .i8 k1, .int .i64 n1, .string s1, .string t1, .slice A1 l1.length cap1] 25) (rfl : w.heap.size = w.heap.size)
  obtain ⟨g1, z1⟩ := here_of (.cells #[.int .i8 k2, .int .i64 n2, .string s2, .string t2, .slice A2 l2.length cap2] 25) z0
  have H1 : Hid (NBx E w ((w.alloc (.cells #[.int .i8 k1, .int .i64 n1, .string s1, .string t1, .slice A1 l1.length cap1] 25)).alloc (.cells #[.int .i8 k2, .int .i64 n2, .string s2, .string t2, .slice A2 l2.length cap2] 25)) w.heap.size #[.int .i8 k1, .int .i64 n1, .string s1, .string t1, .slice A1 l1.length cap1] ∧ ((w.alloc (.cells #[.int .i8 k1, .int .i64 n1, .string s1, .string t1, .slice A1 l1.length cap1] 25)).alloc (.cells #[.int .i8 k2, .int .i64 n2, .string s2, .string t2, .slice A2 l2.length cap2] 25)).heap[w.heap.size + 1]? = some (.cells #[.int .i8 k2, .int .i64 n2, .string s2, .string t2, .slice A2 l2.length cap2] 25 (0, 0))) := ⟨⟨b0, there_of _ g0, hE _ _ hw b0⟩, g1⟩
  have x0 : ((w.alloc (.cells #[.int .i8 k1, .int .i64 n1, .string s1, .string t1, .slice A1 l1.length cap1] 25)).alloc (.cells #[.int .i8 k2, .int .i64 n2, .string s2, .string t2, .slice A2 l2.length cap2] 25)).cell? ⟨w.heap.size, 0, none⟩ = some (.int .i8 k1) := cell_of_row H1.out.1.box rfl
  have y0 : ((w.alloc (.cells #[.int .i8 k1, .int .i64 n1, .string s1, .string t1, .slice A1 l1.length cap1] 25)).alloc (.cells #[.int .i8 k2, .int .i64 n2, .string s2, .string t2, .slice A2 l2.length cap2] 25)).cell? ⟨w.heap.size + 1, 0, none⟩ = some (.int .i8 k2) := cell_of_row H1.out.2 rfl
  have x1 : ((w.alloc (.cells #[.int .i8 k1, .int .i64 n1, .string s1, .string t1, .slice A1 l1.length cap1] 25)).alloc (.cells #[.int .i8 k2, .int .i64 n2, .string s2, .string t2, .slice A2 l2.length cap2] 25)).cell? ⟨w.heap.size, 1, none⟩ = some (.int .i64 n1) := cell_of_row H1.out.1.box rfl
  have y1 : ((w.alloc (.cells #[.int .i8 k1, .int .i64 n1, .string s1, .string t1, .slice A1 l1.length cap1] 25)).alloc (.cells #[.int .i8 k2, .int .i64 n2, .string s2, .string t2, .slice A2 l2.length cap2] 25)).cell? ⟨w.heap.size + 1, 1, none⟩ = some (.int .i64 n2) := cell_of_row H1.out.2 rfl
  have x2 : ((w.alloc (.cells #[.int .i8 k1, .int .i64 n1, .string s1, .string t1, .slice A1 l1.length cap1] 25)).alloc (.cells #[.int .i8 k2, .int .i64 n2, .string s2, .string t2, .slice A2 l2.length cap2] 25)).cell? ⟨w.heap.size, 2, none⟩ = some (.string s1) := cell_of_row H1.out.1.box rfl
  have y2 : ((w.alloc (.cells #[.int .i8 k1, .int .i64 n1, .string s1, .string t1, .slice A1 l1.length cap1] 25)).alloc (.cells #[.int .i8 k2, .int .i64 n2, .string s2, .string t2, .slice A2 l2.length cap2] 25)).cell? ⟨w.heap.size + 1, 2, none⟩ = some (.string s2) := cell_of_row H1.out.2 rfl
  have x3 : ((w.alloc (.cells #[.int .i8 k1, .int .i64 n1, .string s1, .string t1, .slice A1 l1.length cap1] 25)).alloc (.cells #[.int .i8 k2, .int .i64 n2, .string s2, .string t2, .slice A2 l2.length cap2] 25)).cell? ⟨w.heap.size, 3, none⟩ = some (.string t1) := cell_of_row H1.out.1.box rfl
  have y3 : ((w.alloc (.cells #[.int .i8 k1, .int .i64 n1, .string s1, .string t1, .slice A1 l1.length cap1] 25)).alloc (.cells #[.int .i8 k2, .int .i64 n2, .string s2, .string t2, .slice A2 l2.length cap2] 25)).cell? ⟨w.heap.size + 1, 3, none⟩ = some (.string t2) := cell_of_row H1.out.2 rfl
  have x4 : ((w.alloc (.cells #[.int .i8 k1, .int .i64 n1, .string s1, .string t1, .slice A1 l1.length cap1] 25)).alloc (.cells #[.int .i8 k2, .int .i64 n2, .string s2, .string t2, .slice A2 l2.length cap2] 25)).cell? ⟨w.heap.size, 4, none⟩ = some (.slice A1 l1.length cap1) := cell_of_row H1.out.1.box rfl
  have y4 : ((w.alloc (.cells #[.int .i8 k1, .int .i64 n1, .string s1, .string t1, .slice A1 l1.length cap1] 25)).alloc (.cells #[.int .i8 k2, .int .i64 n2, .string s2, .string t2, .slice A2 l2.length cap2] 25)).cell? ⟨w.heap.size + 1, 4, none⟩ = some (.slice A2 l2.length cap2) := cell_of_row H1.out.2 rfl
  clear b0 g0 g1 z0 z1 hX hY hT hU hE hWk hChk hTxt hSam hInj hw
  go_enter Tryz.func3, Tryz.ntmps3
  go_wp2_with fail
  generalize (w.alloc (.cells #[.int .i8 k1, .int .i64 n1, .string s1, .string t1, .slice A1 l1.length cap1] 25)).alloc (.cells #[.int .i8 k2, .int .i64 n2, .string s2, .string t2, .slice A2 l2.length cap2] 25) = w1 at H1 x0 x1 x2 x3 x4 y0 y1 y2 y3 y4 ⊢
  refine (GreatN_any X _ w1 (HT.out.laterN H1.out.1.below)).mono ?_
  rintro e w2 ⟨b, rfl, hb, bw2⟩
  have H2 : Hid (NBx E w w2 w.heap.size #[.int .i8 k1, .int .i64 n1, .string s1, .string t1, .slice A1 l1.length cap1] ∧ w2.heap[w.heap.size + 1]? = some (.cells #[.int .i8 k2, .int .i64 n2, .string s2, .string t2, .slice A2 l2.length cap2] 25 (0, 0))) := Lib.hid (And.intro (H1.out.1.under HEE.out bw2) ((bw2.block _ (heap_lt H1.out.2)).trans H1.out.2))
  clear bw2
  clear x0 x1 x2 x3 x4 y0 y1 y2 y3 y4
  have x0 : w2.cell? ⟨w.heap.size, 0, none⟩ = some (.int .i8 k1) := cell_of_row H2.out.1.box rfl
  have y0 : w2.cell? ⟨w.heap.size + 1, 0, none⟩ = some (.int .i8 k2) := cell_of_row H2.out.2 rfl
  have x1 : w2.cell? ⟨w.heap.size, 1, none⟩ = some (.int .i64 n1) := cell_of_row H2.out.1.box rfl
  have y1 : w2.cell? ⟨w.heap.size + 1, 1, none⟩ = some (.int .i64 n2) := cell_of_row H2.out.2 rfl
  have x2 : w2.cell? ⟨w.heap.size, 2, none⟩ = some (.string s1) := cell_of_row H2.out.1.box rfl
  have y2 : w2.cell? ⟨w.heap.size + 1, 2, none⟩ = some (.string s2) := cell_of_row H2.out.2 rfl
  have x3 : w2.cell? ⟨w.heap.size, 3, none⟩ = some (.string t1) := cell_of_row H2.out.1.box rfl
  have y3 : w2.cell? ⟨w.heap.size + 1, 3, none⟩ = some (.string t2) := cell_of_row H2.out.2 rfl
  have x4 : w2.cell? ⟨w.heap.size, 4, none⟩ = some (.slice A1 l1.length cap1) := cell_of_row H2.out.1.box rfl
  have y4 : w2.cell? ⟨w.heap.size + 1, 4, none⟩ = some (.slice A2 l2.length cap2) := cell_of_row H2.out.2 rfl
  cases b with
  | true =>
    go_wp2_with fail
    refine (HWK.out w2 H2.out.1.env).mono ?_
    rintro e w3 ⟨rfl, bw3⟩
    go_wp2_with fail
    go_ret
    exact ⟨rfl, H2.out.1.below.trans (bw3.mono H2.out.1.below.size)⟩
  | false =>
    have hnx : X.nodes ≤ 8200 := by have := hb rfl; omega
    have HNX := Lib.hid hnx
    clear hb hnx
    go_wp2_with fail
    refine (GreatN_any Y _ w2 (HU.out.laterN H2.out.1.below)).mono ?_
    rintro e w4 ⟨b, rfl, hb, bw4⟩
    have H4 : Hid (NBx E w w4 w.heap.size #[.int .i8 k1, .int .i64 n1, .string s1, .string t1, .slice A1 l1.length cap1] ∧ w4.heap[w.heap.size + 1]? = some (.cells #[.int .i8 k2, .int .i64 n2, .string s2, .string t2, .slice A2 l2.length cap2] 25 (0, 0))) := Lib.hid (And.intro (H2.out.1.under HEE.out bw4) ((bw4.block _ (heap_lt H2.out.2)).trans H2.out.2))
    clear bw4
    clear x0 x1 x2 x3 x4 y0 y1 y2 y3 y4
    have x0 : w4.cell? ⟨w.heap.size, 0, none⟩ = some (.int .i8 k1) := cell_of_row H4.out.1.box rfl
    have y0 : w4.cell? ⟨w.heap.size + 1, 0, none⟩ = some (.int .i8 k2) := cell_of_row H4.out.2 rfl
    have x1 : w4.cell? ⟨w.heap.size, 1, none⟩ = some (.int .i64 n1) := cell_of_row H4.out.1.box rfl
    have y1 : w4.cell? ⟨w.heap.size + 1, 1, none⟩ = some (.int .i64 n2) := cell_of_row H4.out.2 rfl
    have x2 : w4.cell? ⟨w.heap.size, 2, none⟩ = some (.string s1) := cell_of_row H4.out.1.box rfl
    have y2 : w4.cell? ⟨w.heap.size + 1, 2, none⟩ = some (.string s2) := cell_of_row H4.out.2 rfl
    have x3 : w4.cell? ⟨w.heap.size, 3, none⟩ = some (.string t1) := cell_of_row H4.out.1.box rfl
    have y3 : w4.cell? ⟨w.heap.size + 1, 3, none⟩ = some (.string t2) := cell_of_row H4.out.2 rfl
    have x4 : w4.cell? ⟨w.heap.size, 4, none⟩ = some (.slice A1 l1.length cap1) := cell_of_row H4.out.1.box rfl
    have y4 : w4.cell? ⟨w.heap.size + 1, 4, none⟩ = some (.slice A2 l2.length cap2) := cell_of_row H4.out.2 rfl
    cases b with
    | true =>
      go_wp2_with fail
      refine (HWK.out w4 H4.out.1.env).mono ?_
      rintro e w5 ⟨rfl, bw5⟩
      go_wp2_with fail
      go_ret
      exact ⟨rfl, H4.out.1.below.trans (bw5.mono H4.out.1.below.size)⟩
    | false =>
      have hny : Y.nodes ≤ 8200 := by have := hb rfl; omega
      have HNY := Lib.hid hny
      clear hb hny
      go_wp2_with fail
      refine (HCK.out X _ w4 (HT.out.laterN H4.out.1.below) HNX.out H4.out.1.env).mono ?_
      rintro e w6 ⟨rfl, bw6⟩
      have H6 : Hid (NBx E w w6 w.heap.size #[.int .i8 k1, .int .i64 n1, .string s1, .string t1, .slice A1 l1.length cap1] ∧ w6.heap[w.heap.size + 1]? = some (.cells #[.int .i8 k2, .int .i64 n2, .string s2, .string t2, .slice A2 l2.length cap2] 25 (0, 0))) := Lib.hid (And.intro (H4.out.1.under HEE.out bw6) ((bw6.block _ (heap_lt H4.out.2)).trans H4.out.2))
      clear bw6
      clear x0 x1 x2 x3 x4 y0 y1 y2 y3 y4
      have x0 : w6.cell? ⟨w.heap.size, 0, none⟩ = some (.int .i8 k1) := cell_of_row H6.out.1.box rfl
      have y0 : w6.cell? ⟨w.heap.size + 1, 0, none⟩ = some (.int .i8 k2) := cell_of_row H6.out.2 rfl
      have x1 : w6.cell? ⟨w.heap.size, 1, none⟩ = some (.int .i64 n1) := cell_of_row H6.out.1.box rfl
      have y1 : w6.cell? ⟨w.heap.size + 1, 1, none⟩ = some (.int .i64 n2) := cell_of_row H6.out.2 rfl
      have x2 : w6.cell? ⟨w.heap.size, 2, none⟩ = some (.string s1) := cell_of_row H6.out.1.box rfl
      have y2 : w6.cell? ⟨w.heap.size + 1, 2, none⟩ = some (.string s2) := cell_of_row H6.out.2 rfl
      have x3 : w6.cell? ⟨w.heap.size, 3, none⟩ = some (.string t1) := cell_of_row H6.out.1.box rfl
      have y3 : w6.cell? ⟨w.heap.size + 1, 3, none⟩ = some (.string t2) := cell_of_row H6.out.2 rfl
      have x4 : w6.cell? ⟨w.heap.size, 4, none⟩ = some (.slice A1 l1.length cap1) := cell_of_row H6.out.1.box rfl
      have y4 : w6.cell? ⟨w.heap.size + 1, 4, none⟩ = some (.slice A2 l2.length cap2) := cell_of_row H6.out.2 rfl
      rcases checkR_or X with ⟨hc, hfx, hmx⟩ | ⟨hc, -⟩
      rotate_left
      · rw [hc]
        clear hc
        go_wp2_with fail
        refine (HWK.out w6 H6.out.1.env).mono ?_
        rintro e w7 ⟨rfl, bw7⟩
        go_wp2_with fail
        go_ret
        exact ⟨rfl, H6.out.1.below.trans (bw7.mono H6.out.1.below.size)⟩
      rw [hc]
      clear hc
      have HFX := Lib.hid (And.intro hfx hmx)
      clear hfx hmx
      go_wp2_with fail
      refine (HCK.out Y _ w6 (HU.out.laterN H6.out.1.below) HNY.out H6.out.1.env).mono ?_
      rintro e w8 ⟨rfl, bw8⟩
      have H8 : Hid (NBx E w w8 w.heap.size #[.int .i8 k1, .int .i64 n1, .string s1, .string t1, .slice A1 l1.length cap1] ∧ w8.heap[w.heap.size + 1]? = some (.cells #[.int .i8 k2, .int .i64 n2, .string s2, .string t2, .slice A2 l2.length cap2] 25 (0, 0))) := Lib.hid (And.intro (H6.out.1.under HEE.out bw8) ((bw8.block _ (heap_lt H6.out.2)).trans H6.out.2))
      clear bw8
      clear x0 x1 x2 x3 x4 y0 y1 y2 y3 y4
      have x0 : w8.cell? ⟨w.heap.size, 0, none⟩ = some (.int .i8 k1) := cell_of_row H8.out.1.box rfl
      have y0 : w8.cell? ⟨w.heap.size + 1, 0, none⟩ = some (.int .i8 k2) := cell_of_row H8.out.2 rfl
      have x1 : w8.cell? ⟨w.heap.size, 1, none⟩ = some (.int .i64 n1) := cell_of_row H8.out.1.box rfl
      have y1 : w8.cell? ⟨w.heap.size + 1, 1, none⟩ = some (.int .i64 n2) := cell_of_row H8.out.2 rfl
      have x2 : w8.cell? ⟨w.heap.size, 2, none⟩ = some (.string s1) := cell_of_row H8.out.1.box rfl
      have y2 : w8.cell? ⟨w.heap.size + 1, 2, none⟩ = some (.string s2) := cell_of_row H8.out.2 rfl
      have x3 : w8.cell? ⟨w.heap.size, 3, none⟩ = some (.string t1) := cell_of_row H8.out.1.box rfl
      have y3 : w8.cell? ⟨w.heap.size + 1, 3, none⟩ = some (.string t2) := cell_of_row H8.out.2 rfl
      have x4 : w8.cell? ⟨w.heap.size, 4, none⟩ = some (.slice A1 l1.length cap1) := cell_of_row H8.out.1.box rfl
      have y4 : w8.cell? ⟨w.heap.size + 1, 4, none⟩ = some (.slice A2 l2.length cap2) := cell_of_row H8.out.2 rfl
      rcases checkR_or Y with ⟨hc, hfy, hmy⟩ | ⟨hc, -⟩
      rotate_left
      · rw [hc]
        clear hc
        go_wp2_with fail
        refine (HWK.out w8 H8.out.1.env).mono ?_
        rintro e w9 ⟨rfl, bw9⟩
        go_wp2_with fail
        go_ret
        exact ⟨rfl, H8.out.1.below.trans (bw9.mono H8.out.1.below.size)⟩
      rw [hc]
      clear hc
      have HFY := Lib.hid (And.intro hfy hmy)
      clear hfy hmy
      go_upto_region 3 with fail
      clear x0 x1 x2 x3 x4 y0 y1 y2 y3 y4
      have GX := Lib.hid H8.out.1.box
      have GY := Lib.hid H8.out.2
      have hsm : sameR X X = true := by unfold sameR; rw [HFX.out.1, (eqT_iff X X).2 rfl]; rfl
      have HSX := Lib.hid hsm
      clear hsm
      refine wp_region_held (S := fun V => Below w8.heap.size w8 V) (by kernel_rfl) ?_
      show wpAnyH _ _ _ _ _ _ _ _ w8.drew
      have hS0 : Below w8.heap.size w8 w8.drew := ⟨rfl, rfl, rfl, Nat.le_refl _, fun _ _ => rfl⟩
      generalize w8.drew = D at hS0 ⊢
      refine wpAnyH_take (i := 0) (oi := ⟨some 22, _, _, _, _, _⟩) (v := ?_) rfl (by kernel_rfl) (by kernel_rfl) (by kernel_rfl) (fun _ _ _ h => h) (Or.inl ⟨by kernel_rfl, ?_⟩) (by assumption) ?_; rotate_left; (intro V hSw; (try dsimp only at hSw); have q0 := cell_of_row (i := 0) ((hSw.block _ (heap_lt GX.out)).trans GX.out) rfl; have q1 := cell_of_row (i := 1) ((hSw.block _ (heap_lt GX.out)).trans GX.out) rfl; have q2 := cell_of_row (i := 2) ((hSw.block _ (heap_lt GX.out)).trans GX.out) rfl; have q3 := cell_of_row (i := 3) ((hSw.block _ (heap_lt GX.out)).trans GX.out) rfl; have q4 := cell_of_row (i := 4) ((hSw.block _ (heap_lt GX.out)).trans GX.out) rfl; go_simp; first | done | with_reducible rfl); (try simp only [Act.put, List.setIfInBounds_toArray, List.set_cons_zero, List.set_cons_succ])
      refine wpAnyH_take (i := 2) (oi := ⟨some 24, _, _, _, _, _⟩) (v := ?_) rfl (by kernel_rfl) (by kernel_rfl) (by kernel_rfl) (fun _ _ _ h => h) (Or.inl ⟨by kernel_rfl, ?_⟩) (by assumption) ?_; rotate_left; (intro V hSw; (try dsimp only at hSw); have q0 := cell_of_row (i := 0) ((hSw.block _ (heap_lt GY.out)).trans GY.out) rfl; have q1 := cell_of_row (i := 1) ((hSw.block _ (heap_lt GY.out)).trans GY.out) rfl; have q2 := cell_of_row (i := 2) ((hSw.block _ (heap_lt GY.out)).trans GY.out) rfl; have q3 := cell_of_row (i := 3) ((hSw.block _ (heap_lt GY.out)).trans GY.out) rfl; have q4 := cell_of_row (i := 4) ((hSw.block _ (heap_lt GY.out)).trans GY.out) rfl; go_simp; first | done | with_reducible rfl); (try simp only [Act.put, List.setIfInBounds_toArray, List.set_cons_zero, List.set_cons_succ])
      refine wpAnyH_take (i := 5) (oi := ⟨some 27, _, _, _, _, _⟩) (v := ?_) rfl (by kernel_rfl) (by kernel_rfl) (by kernel_rfl) (fun _ _ _ h => h) (Or.inl ⟨by kernel_rfl, ?_⟩) (by assumption) ?_; rotate_left; (intro V hSw; (try dsimp only at hSw); have q0 := cell_of_row (i := 0) ((hSw.block _ (heap_lt GX.out)).trans GX.out) rfl; have q1 := cell_of_row (i := 1) ((hSw.block _ (heap_lt GX.out)).trans GX.out) rfl; have q2 := cell_of_row (i := 2) ((hSw.block _ (heap_lt GX.out)).trans GX.out) rfl; have q3 := cell_of_row (i := 3) ((hSw.block _ (heap_lt GX.out)).trans GX.out) rfl; have q4 := cell_of_row (i := 4) ((hSw.block _ (heap_lt GX.out)).trans GX.out) rfl; go_simp; first | done | with_reducible rfl); (try simp only [Act.put, List.setIfInBounds_toArray, List.set_cons_zero, List.set_cons_succ])
      refine wpAnyH_take (i := 6) (oi := ⟨some 28, _, _, _, _, _⟩) (v := ?_) rfl (by kernel_rfl) (by kernel_rfl) (by kernel_rfl) (fun _ _ _ h => h) (Or.inl ⟨by kernel_rfl, ?_⟩) (by assumption) ?_; rotate_left; (intro V hSw; (try dsimp only at hSw); have q0 := cell_of_row (i := 0) ((hSw.block _ (heap_lt GY.out)).trans GY.out) rfl; have q1 := cell_of_row (i := 1) ((hSw.block _ (heap_lt GY.out)).trans GY.out) rfl; have q2 := cell_of_row (i := 2) ((hSw.block _ (heap_lt GY.out)).trans GY.out) rfl; have q3 := cell_of_row (i := 3) ((hSw.block _ (heap_lt GY.out)).trans GY.out) rfl; have q4 := cell_of_row (i := 4) ((hSw.block _ (heap_lt GY.out)).trans GY.out) rfl; go_simp; first | done | with_reducible rfl); (try simp only [Act.put, List.setIfInBounds_toArray, List.set_cons_zero, List.set_cons_succ])
      refine wpAnyH_ready (rs := [1]) (by kernel_rfl) (by simp) ?_
      refine AllReadyH.cons (o := ⟨some 23, _, _, _, _, _⟩) rfl (fun K hK => ?_) AllReadyH.nil
      rw [if_pos (by rfl)]
      go_simp
      refine (HTX.out X _ D (HT.out.laterN (H8.out.1.below.trans (hS0.mono H8.out.1.below.size))) HNX.out (HEE.out _ _ H8.out.1.env hS0)).mono ?_
      rintro e Y1 ⟨ba, rfl, hba, bY1⟩
      have hSY1 : Below w8.heap.size w8 Y1 := hS0.trans (bY1.mono hS0.size)
      refine hK.out _ _ hSY1 (fun hSn => ?_)
      clear hK K hSn bY1; (try simp only [Act.put, List.setIfInBounds_toArray, List.set_cons_zero, List.set_cons_succ])
      refine wpAnyH_ready (rs := [3]) (by kernel_rfl) (by simp) ?_
      refine AllReadyH.cons (o := ⟨some 25, _, _, _, _, _⟩) rfl (fun K hK => ?_) AllReadyH.nil
      rw [if_pos (by rfl)]
      go_simp
      refine (HTX.out Y _ Y1 (HU.out.laterN (H8.out.1.below.trans (hSY1.mono H8.out.1.below.size))) HNY.out (HEE.out _ _ H8.out.1.env hSY1)).mono ?_
      rintro e Y2 ⟨bb, rfl, hbb, bY2⟩
      have hSY2 : Below w8.heap.size w8 Y2 := hSY1.trans (bY2.mono hSY1.size)
      refine hK.out _ _ hSY2 (fun hSn => ?_)
      clear hK K hSn bY2; (try simp only [Act.put, List.setIfInBounds_toArray, List.set_cons_zero, List.set_cons_succ])
      have heq : (ba.toList == bb.toList) = sameR X Y := by
        rw [Go.Lib.toList_data, Go.Lib.toList_data, hba, hbb]
        unfold textL
        rw [if_pos HFX.out, if_pos HFY.out, Bool.eq_iff_iff, beq_iff_eq]
        unfold sameR
        rw [HFX.out.1, HFY.out.1, Bool.and_self, Bool.true_and, eqT_iff]
        exact ⟨fun h => HIN.out X Y HFX.out.1 HFX.out.2 HFY.out.1 HFY.out.2 h, fun h => by rw [h]⟩
      clear hba hbb
      refine wpAnyH_take (i := 4) (oi := ⟨some 26, _, _, _, _, _⟩) (v := ?_) rfl (by kernel_rfl) (by kernel_rfl) (by kernel_rfl) (fun _ _ _ h => h) (Or.inl ⟨by kernel_rfl, ?_⟩) (by assumption) ?_; rotate_left; (intro V hSw; (try dsimp only at hSw); go_simp; first | done | with_reducible rfl); (try simp only [Act.put, List.setIfInBounds_toArray, List.set_cons_zero, List.set_cons_succ])
      refine wpAnyH_ready (rs := [7]) (by kernel_rfl) (by simp) ?_
      refine AllReadyH.cons (o := ⟨some 29, _, _, _, _, _⟩) rfl (fun K hK => ?_) AllReadyH.nil
      rw [if_pos (by rfl)]
      go_simp
      refine (HSM.out X Y _ _ Y2 (HT.out.laterN (H8.out.1.below.trans (hSY2.mono H8.out.1.below.size))) (HU.out.laterN (H8.out.1.below.trans (hSY2.mono H8.out.1.below.size))) HNX.out HNY.out (HEE.out _ _ H8.out.1.env hSY2)).mono ?_
      rintro e Y3 ⟨rfl, bY3⟩
      have hSY3 : Below w8.heap.size w8 Y3 := hSY2.trans (bY3.mono hSY2.size)
      refine hK.out _ _ hSY3 (fun hSn => ?_)
      clear hK K hSn bY3; (try simp only [Act.put, List.setIfInBounds_toArray, List.set_cons_zero, List.set_cons_succ])
      refine wpAnyH_take (i := 8) (oi := ⟨some 30, _, _, _, _, _⟩) (v := ?_) rfl (by kernel_rfl) (by kernel_rfl) (by kernel_rfl) (fun _ _ _ h => h) (Or.inl ⟨by kernel_rfl, ?_⟩) (by assumption) ?_; rotate_left; (intro V hSw; (try dsimp only at hSw); go_simp; first | done | with_reducible rfl); (try simp only [Act.put, List.setIfInBounds_toArray, List.set_cons_zero, List.set_cons_succ])
      refine wpAnyH_take (i := 9) (oi := ⟨some 31, _, _, _, _, _⟩) (v := ?_) rfl (by kernel_rfl) (by kernel_rfl) (by kernel_rfl) (fun _ _ _ h => h) (Or.inl ⟨by kernel_rfl, ?_⟩) (by assumption) ?_; rotate_left; (intro V hSw; (try dsimp only at hSw); go_simp; first | done | with_reducible rfl); (try simp only [Act.put, List.setIfInBounds_toArray, List.set_cons_zero, List.set_cons_succ])
      refine wpAnyH_take (i := 10) (oi := ⟨some 32, _, _, _, _, _⟩) (v := ?_) rfl (by kernel_rfl) (by kernel_rfl) (by kernel_rfl) (fun _ _ _ h => h) (Or.inl ⟨by kernel_rfl, ?_⟩) (by assumption) ?_; rotate_left; (intro V hSw; (try dsimp only at hSw); have q0 := cell_of_row (i := 0) ((hSw.block _ (heap_lt GX.out)).trans GX.out) rfl; have q1 := cell_of_row (i := 1) ((hSw.block _ (heap_lt GX.out)).trans GX.out) rfl; have q2 := cell_of_row (i := 2) ((hSw.block _ (heap_lt GX.out)).trans GX.out) rfl; have q3 := cell_of_row (i := 3) ((hSw.block _ (heap_lt GX.out)).trans GX.out) rfl; have q4 := cell_of_row (i := 4) ((hSw.block _ (heap_lt GX.out)).trans GX.out) rfl; go_simp; first | done | with_reducible rfl); (try simp only [Act.put, List.setIfInBounds_toArray, List.set_cons_zero, List.set_cons_succ])
      refine wpAnyH_take (i := 11) (oi := ⟨some 33, _, _, _, _, _⟩) (v := ?_) rfl (by kernel_rfl) (by kernel_rfl) (by kernel_rfl) (fun _ _ _ h => h) (Or.inl ⟨by kernel_rfl, ?_⟩) (by assumption) ?_; rotate_left; (intro V hSw; (try dsimp only at hSw); have q0 := cell_of_row (i := 0) ((hSw.block _ (heap_lt GX.out)).trans GX.out) rfl; have q1 := cell_of_row (i := 1) ((hSw.block _ (heap_lt GX.out)).trans GX.out) rfl; have q2 := cell_of_row (i := 2) ((hSw.block _ (heap_lt GX.out)).trans GX.out) rfl; have q3 := cell_of_row (i := 3) ((hSw.block _ (heap_lt GX.out)).trans GX.out) rfl; have q4 := cell_of_row (i := 4) ((hSw.block _ (heap_lt GX.out)).trans GX.out) rfl; go_simp; first | done | with_reducible rfl); (try simp only [Act.put, List.setIfInBounds_toArray, List.set_cons_zero, List.set_cons_succ])
      refine wpAnyH_ready (rs := [12]) (by kernel_rfl) (by simp) ?_
      refine AllReadyH.cons (o := ⟨some 34, _, _, _, _, _⟩) rfl (fun K hK => ?_) AllReadyH.nil
      rw [if_pos (by rfl)]
      go_simp
      refine (HSM.out X X _ _ Y3 (HT.out.laterN (H8.out.1.below.trans (hSY3.mono H8.out.1.below.size))) (HT.out.laterN (H8.out.1.below.trans (hSY3.mono H8.out.1.below.size))) HNX.out HNX.out (HEE.out _ _ H8.out.1.env hSY3)).mono ?_
      rintro e Y4 ⟨rfl, bY4⟩
      rw [HSX.out]
      have hSY4 : Below w8.heap.size w8 Y4 := hSY3.trans (bY4.mono hSY3.size)
      refine hK.out _ _ hSY4 (fun hSn => ?_)
      clear hK K hSn bY4; (try simp only [Act.put, List.setIfInBounds_toArray, List.set_cons_zero, List.set_cons_succ])
      refine wpAnyH_take (i := 13) (oi := ⟨some 35, _, _, _, _, _⟩) (v := ?_) rfl (by kernel_rfl) (by kernel_rfl) (by kernel_rfl) (fun _ _ _ h => h) (Or.inl ⟨by kernel_rfl, ?_⟩) (by assumption) ?_; rotate_left; (intro V hSw; (try dsimp only at hSw); go_simp; first | done | with_reducible rfl); (try simp only [Act.put, List.setIfInBounds_toArray, List.set_cons_zero, List.set_cons_succ])
      refine wpAnyH_take (i := 14) (oi := ⟨some 36, _, _, _, _, _⟩) (v := ?_) rfl (by kernel_rfl) (by kernel_rfl) (by kernel_rfl) (fun _ _ _ h => h) (Or.inl ⟨by kernel_rfl, ?_⟩) (by assumption) ?_; rotate_left; (intro V hSw; (try dsimp only at hSw); go_simp; first | done | with_reducible rfl); (try simp only [Act.put, List.setIfInBounds_toArray, List.set_cons_zero, List.set_cons_succ])
      refine wpAnyH_ready (rs := [15]) (by kernel_rfl) (by simp) ?_
      refine AllReadyH.cons (o := ⟨some 37, _, _, _, _, _⟩) rfl (fun K hK => ?_) AllReadyH.nil
      rw [if_pos (by rfl)]
      go_simp
      refine (HWK.out Y4 (HEE.out _ _ H8.out.1.env hSY4)).mono ?_
      rintro e Y5 ⟨rfl, bY5⟩
      have hSY5 : Below w8.heap.size w8 Y5 := hSY4.trans (bY5.mono hSY4.size)
      refine hK.out _ _ hSY5 (fun hSn => ?_)
      clear hK K hSn bY5; (try simp only [Act.put, List.setIfInBounds_toArray, List.set_cons_zero, List.set_cons_succ])
      refine wpAnyH_take (i := 16) (oi := ⟨some 38, _, _, _, _, _⟩) (v := ?_) rfl (by kernel_rfl) (by kernel_rfl) (by kernel_rfl) (fun _ _ _ h => h) (Or.inl ⟨by kernel_rfl, ?_⟩) (by assumption) ?_; rotate_left; (intro V hSw; (try dsimp only at hSw); go_simp; first | done | with_reducible rfl); (try simp only [Act.put, List.setIfInBounds_toArray, List.set_cons_zero, List.set_cons_succ])
      refine wpAnyH_take (i := 17) (oi := ⟨some 4, _, _, _, _, _⟩) (v := ?_) rfl (by kernel_rfl) (by kernel_rfl) (by kernel_rfl) (fun _ _ _ h => h) (Or.inl ⟨by kernel_rfl, ?_⟩) (by assumption) ?_; rotate_left; (intro V hSw; (try dsimp only at hSw); go_simp; first | done | with_reducible rfl); (try simp only [Act.put, List.setIfInBounds_toArray, List.set_cons_zero, List.set_cons_succ])
      refine wpAnyH_done (by kernel_rfl) ?_ _
      go_wp2_with fail
      go_ret
      exact ⟨rfl, H8.out.1.below.trans (hSY5.mono H8.out.1.below.size)⟩
end Go.Proofs.YtcallgoglnkkiaaGreatDoor
