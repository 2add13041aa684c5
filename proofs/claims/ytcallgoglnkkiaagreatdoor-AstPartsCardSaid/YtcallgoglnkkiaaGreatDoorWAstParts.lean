/- The law AstParts from contracts. -/
import Derived.Test.YtcallgoglnkkiaaGreatDoorAstC
set_option linter.unusedVariables false
namespace Go.Proofs.YtcallgoglnkkiaaGreatDoor
open Go.RowKit

set_option maxRecDepth 100000 in
set_option maxHeartbeats 4000000 in
theorem astParts_of {E : World → Prop} (hE : ∀ w w', E w → Below w.heap.size w w' → E w') (hWk : WakesC E) (hPat : BoolC E 12 patB) (hExp : BoolC E 13 exprB) (hGua : BoolC E 14 guaB)
    (hGrd : BoolC E 15 guardB) (hTst : BoolC E 16 testB) (hChk : CheckC E) (hCls : ClauseC E) (x : Tm) (v : Value) (w : World) (hT : TmAt (· < w.heap.size) w x v) (hw : E w) :
    Calls Tryz.prog 4 #[v] w fun e w' => e = .returned (.bool true) ∧ Below w.heap.size w w' := by
  obtain ⟨k, n, s, t, l⟩ := x
  obtain ⟨A, cap, rfl, hR, hk, hn, hs, ht⟩ := hT.parts
  have hlen := hR.max
  unfold maxLen at hlen
  obtain ⟨X, hX⟩ : ∃ X, X = Tm.mk k n s t l := ⟨_, rfl⟩
  rw [← hX] at hT
  have HX := Lib.hid hX
  have HT := Lib.hid hT
  have HR := Lib.hid hR
  have HEE := Lib.hid hE
  have HWK := Lib.hid hWk
  have HP := Lib.hid hPat
  have HXP := Lib.hid hExp
  have HG := Lib.hid hGua
  have HGD := Lib.hid hGrd
  have HTS := Lib.hid hTst
  have HCK := Lib.hid hChk
  have HCL := Lib.hid hCls
  have hb1 := nbx_of hE hw #[.int .i8 k, .int .i64 n, .string s, .string t, .slice A l.length cap]
  have HB1 := Lib.hid hb1
  have x0 := cell_of_row (i := 0) hb1.box rfl
  have x1 := cell_of_row (i := 1) hb1.box rfl
  have x2 := cell_of_row (i := 2) hb1.box rfl
  have x3 := cell_of_row (i := 3) hb1.box rfl
  have x4 := cell_of_row (i := 4) hb1.box rfl
  clear hX hT hR hE hWk hPat hExp hGua hGrd hTst hChk hCls hb1 hw
  go_enter Tryz.func4, Tryz.ntmps4
  go_wp2_with fail
  generalize w.alloc (.cells #[.int .i8 k, .int .i64 n, .string s, .string t, .slice A l.length cap] 25) = w1 at HB1 x0 x1 x2 x3 x4 ⊢
  refine (GreatN_any X _ w1 (HT.out.laterN HB1.out.below)).mono ?_
  rintro e w2 ⟨b, rfl, hb, bw2⟩
  have HB2 := Lib.hid (HB1.out.under HEE.out bw2)
  clear bw2 x0 x1 x2 x3 x4
  have x0 : w2.cell? ⟨w.heap.size, 0, none⟩ = some (.int .i8 k) := cell_of_row HB2.out.box rfl
  have x1 : w2.cell? ⟨w.heap.size, 1, none⟩ = some (.int .i64 n) := cell_of_row HB2.out.box rfl
  have x2 : w2.cell? ⟨w.heap.size, 2, none⟩ = some (.string s) := cell_of_row HB2.out.box rfl
  have x3 : w2.cell? ⟨w.heap.size, 3, none⟩ = some (.string t) := cell_of_row HB2.out.box rfl
  have x4 : w2.cell? ⟨w.heap.size, 4, none⟩ = some (.slice A l.length cap) := cell_of_row HB2.out.box rfl
  cases b with
  | true =>
    go_wp2_with fail
    refine (HWK.out w2 HB2.out.env).mono ?_
    rintro e w3 ⟨rfl, b3⟩
    go_wp2_with fail
    go_ret
    exact ⟨rfl, HB2.out.below.trans (b3.mono HB2.out.below.size)⟩
  | false =>
    have HN : Hid (X.nodes ≤ 8200) := by have := hb rfl; show _ ≤ _; omega
    clear hb
    go_upto_region 3 with fail
    go_cut [25] (fun p wx => p = .bool false ∧ NBx E w wx w.heap.size #[.int .i8 k, .int .i64 n, .string s, .string t, .slice A l.length cap])
    case first =>
      cases hp : (fitsB X && patB X)
      · go_wp2_with fail
        refine (HP.out _ _ w2 (HT.out.laterN HB2.out.below) HN.out HB2.out.env).mono ?_
        rintro e w3 ⟨rfl, bw3⟩
        rw [hp]
        have HB3 := Lib.hid (HB2.out.under HEE.out bw3)
        clear bw3
        clear x0 x1 x2 x3 x4
        have x0 : w3.cell? ⟨w.heap.size, 0, none⟩ = some (.int .i8 k) := cell_of_row HB3.out.box rfl
        have x1 : w3.cell? ⟨w.heap.size, 1, none⟩ = some (.int .i64 n) := cell_of_row HB3.out.box rfl
        have x2 : w3.cell? ⟨w.heap.size, 2, none⟩ = some (.string s) := cell_of_row HB3.out.box rfl
        have x3 : w3.cell? ⟨w.heap.size, 3, none⟩ = some (.string t) := cell_of_row HB3.out.box rfl
        have x4 : w3.cell? ⟨w.heap.size, 4, none⟩ = some (.slice A l.length cap) := cell_of_row HB3.out.box rfl
        go_wp2_with fail
        go_meet
        exact ⟨rfl, HB3.out⟩
      · have hp2 := (Bool.and_eq_true_iff.1 hp)
        have hx : (fitsB X && exprB X) = true := by rw [hp2.1, pat_expr X hp2.2]; rfl
        have hg : (fitsB X && guaB X) = true := by rw [hp2.1, pat_gua X hp2.2]; rfl
        clear hp2
        go_wp2_with fail
        refine (HP.out _ _ w2 (HT.out.laterN HB2.out.below) HN.out HB2.out.env).mono ?_
        rintro e w3 ⟨rfl, bw3⟩
        rw [hp]
        have HB3 := Lib.hid (HB2.out.under HEE.out bw3)
        clear bw3
        clear x0 x1 x2 x3 x4
        have x0 : w3.cell? ⟨w.heap.size, 0, none⟩ = some (.int .i8 k) := cell_of_row HB3.out.box rfl
        have x1 : w3.cell? ⟨w.heap.size, 1, none⟩ = some (.int .i64 n) := cell_of_row HB3.out.box rfl
        have x2 : w3.cell? ⟨w.heap.size, 2, none⟩ = some (.string s) := cell_of_row HB3.out.box rfl
        have x3 : w3.cell? ⟨w.heap.size, 3, none⟩ = some (.string t) := cell_of_row HB3.out.box rfl
        have x4 : w3.cell? ⟨w.heap.size, 4, none⟩ = some (.slice A l.length cap) := cell_of_row HB3.out.box rfl
        go_wp2_with fail
        refine (HXP.out _ _ w3 (HT.out.laterN HB3.out.below) HN.out HB3.out.env).mono ?_
        rintro e w4 ⟨rfl, bw4⟩
        rw [hx]
        have HB4 := Lib.hid (HB3.out.under HEE.out bw4)
        clear bw4
        clear x0 x1 x2 x3 x4
        have x0 : w4.cell? ⟨w.heap.size, 0, none⟩ = some (.int .i8 k) := cell_of_row HB4.out.box rfl
        have x1 : w4.cell? ⟨w.heap.size, 1, none⟩ = some (.int .i64 n) := cell_of_row HB4.out.box rfl
        have x2 : w4.cell? ⟨w.heap.size, 2, none⟩ = some (.string s) := cell_of_row HB4.out.box rfl
        have x3 : w4.cell? ⟨w.heap.size, 3, none⟩ = some (.string t) := cell_of_row HB4.out.box rfl
        have x4 : w4.cell? ⟨w.heap.size, 4, none⟩ = some (.slice A l.length cap) := cell_of_row HB4.out.box rfl
        go_wp2_with fail
        refine (HG.out _ _ w4 (HT.out.laterN HB4.out.below) HN.out HB4.out.env).mono ?_
        rintro e w5 ⟨rfl, bw5⟩
        rw [hg]
        have HB5 := Lib.hid (HB4.out.under HEE.out bw5)
        clear bw5
        clear x0 x1 x2 x3 x4
        have x0 : w5.cell? ⟨w.heap.size, 0, none⟩ = some (.int .i8 k) := cell_of_row HB5.out.box rfl
        have x1 : w5.cell? ⟨w.heap.size, 1, none⟩ = some (.int .i64 n) := cell_of_row HB5.out.box rfl
        have x2 : w5.cell? ⟨w.heap.size, 2, none⟩ = some (.string s) := cell_of_row HB5.out.box rfl
        have x3 : w5.cell? ⟨w.heap.size, 3, none⟩ = some (.string t) := cell_of_row HB5.out.box rfl
        have x4 : w5.cell? ⟨w.heap.size, 4, none⟩ = some (.slice A l.length cap) := cell_of_row HB5.out.box rfl
        go_wp2_with fail
        go_meet
        exact ⟨rfl, HB5.out⟩
    case rest =>
      obtain ⟨rfl, hcut⟩ := hcut
      obtain ⟨wa, hwa⟩ : ∃ wa, wa = wc := ⟨_, rfl⟩
      subst hwa
      have HA := Lib.hid hcut
      clear hcut x0 x1 x2 x3 x4
      have x0 : wa.cell? ⟨w.heap.size, 0, none⟩ = some (.int .i8 k) := cell_of_row HA.out.box rfl
      have x1 : wa.cell? ⟨w.heap.size, 1, none⟩ = some (.int .i64 n) := cell_of_row HA.out.box rfl
      have x2 : wa.cell? ⟨w.heap.size, 2, none⟩ = some (.string s) := cell_of_row HA.out.box rfl
      have x3 : wa.cell? ⟨w.heap.size, 3, none⟩ = some (.string t) := cell_of_row HA.out.box rfl
      have x4 : wa.cell? ⟨w.heap.size, 4, none⟩ = some (.slice A l.length cap) := cell_of_row HA.out.box rfl
      go_upto_region 5 with fail
      go_cut [32] (fun p wx => p = .bool false ∧ NBx E w wx w.heap.size #[.int .i8 k, .int .i64 n, .string s, .string t, .slice A l.length cap])
      case first =>
        cases hg : (fitsB X && guaB X)
        · go_wp2_with fail
          refine (HG.out _ _ wa (HT.out.laterN HA.out.below) HN.out HA.out.env).mono ?_
          rintro e w3 ⟨rfl, bw3⟩
          rw [hg]
          have HB3 := Lib.hid (HA.out.under HEE.out bw3)
          clear bw3
          clear x0 x1 x2 x3 x4
          have x0 : w3.cell? ⟨w.heap.size, 0, none⟩ = some (.int .i8 k) := cell_of_row HB3.out.box rfl
          have x1 : w3.cell? ⟨w.heap.size, 1, none⟩ = some (.int .i64 n) := cell_of_row HB3.out.box rfl
          have x2 : w3.cell? ⟨w.heap.size, 2, none⟩ = some (.string s) := cell_of_row HB3.out.box rfl
          have x3 : w3.cell? ⟨w.heap.size, 3, none⟩ = some (.string t) := cell_of_row HB3.out.box rfl
          have x4 : w3.cell? ⟨w.heap.size, 4, none⟩ = some (.slice A l.length cap) := cell_of_row HB3.out.box rfl
          go_wp2_with fail
          go_meet
          exact ⟨rfl, HB3.out⟩
        · have hp2 := (Bool.and_eq_true_iff.1 hg)
          have hx : (fitsB X && exprB X) = true := by rw [hp2.1, gua_expr X hp2.2]; rfl
          clear hp2
          go_wp2_with fail
          refine (HG.out _ _ wa (HT.out.laterN HA.out.below) HN.out HA.out.env).mono ?_
          rintro e w3 ⟨rfl, bw3⟩
          rw [hg]
          have HB3 := Lib.hid (HA.out.under HEE.out bw3)
          clear bw3
          clear x0 x1 x2 x3 x4
          have x0 : w3.cell? ⟨w.heap.size, 0, none⟩ = some (.int .i8 k) := cell_of_row HB3.out.box rfl
          have x1 : w3.cell? ⟨w.heap.size, 1, none⟩ = some (.int .i64 n) := cell_of_row HB3.out.box rfl
          have x2 : w3.cell? ⟨w.heap.size, 2, none⟩ = some (.string s) := cell_of_row HB3.out.box rfl
          have x3 : w3.cell? ⟨w.heap.size, 3, none⟩ = some (.string t) := cell_of_row HB3.out.box rfl
          have x4 : w3.cell? ⟨w.heap.size, 4, none⟩ = some (.slice A l.length cap) := cell_of_row HB3.out.box rfl
          go_wp2_with fail
          refine (HXP.out _ _ w3 (HT.out.laterN HB3.out.below) HN.out HB3.out.env).mono ?_
          rintro e w4 ⟨rfl, bw4⟩
          rw [hx]
          have HB4 := Lib.hid (HB3.out.under HEE.out bw4)
          clear bw4
          clear x0 x1 x2 x3 x4
          have x0 : w4.cell? ⟨w.heap.size, 0, none⟩ = some (.int .i8 k) := cell_of_row HB4.out.box rfl
          have x1 : w4.cell? ⟨w.heap.size, 1, none⟩ = some (.int .i64 n) := cell_of_row HB4.out.box rfl
          have x2 : w4.cell? ⟨w.heap.size, 2, none⟩ = some (.string s) := cell_of_row HB4.out.box rfl
          have x3 : w4.cell? ⟨w.heap.size, 3, none⟩ = some (.string t) := cell_of_row HB4.out.box rfl
          have x4 : w4.cell? ⟨w.heap.size, 4, none⟩ = some (.slice A l.length cap) := cell_of_row HB4.out.box rfl
          go_wp2_with fail
          go_meet
          exact ⟨rfl, HB4.out⟩
      case rest =>
        obtain ⟨rfl, hcut⟩ := hcut
        obtain ⟨wb, hwb⟩ : ∃ wb, wb = wc := ⟨_, rfl⟩
        subst hwb
        have HBB := Lib.hid hcut
        clear hcut x0 x1 x2 x3 x4
        have x0 : wb.cell? ⟨w.heap.size, 0, none⟩ = some (.int .i8 k) := cell_of_row HBB.out.box rfl
        have x1 : wb.cell? ⟨w.heap.size, 1, none⟩ = some (.int .i64 n) := cell_of_row HBB.out.box rfl
        have x2 : wb.cell? ⟨w.heap.size, 2, none⟩ = some (.string s) := cell_of_row HBB.out.box rfl
        have x3 : wb.cell? ⟨w.heap.size, 3, none⟩ = some (.string t) := cell_of_row HBB.out.box rfl
        have x4 : wb.cell? ⟨w.heap.size, 4, none⟩ = some (.slice A l.length cap) := cell_of_row HBB.out.box rfl
        go_wp2_with fail
        refine (HGD.out _ _ wb (HT.out.laterN HBB.out.below) HN.out HBB.out.env).mono ?_
        rintro e w3 ⟨rfl, bw3⟩
        have HB3 := Lib.hid (HBB.out.under HEE.out bw3)
        clear bw3
        clear x0 x1 x2 x3 x4
        have x0 : w3.cell? ⟨w.heap.size, 0, none⟩ = some (.int .i8 k) := cell_of_row HB3.out.box rfl
        have x1 : w3.cell? ⟨w.heap.size, 1, none⟩ = some (.int .i64 n) := cell_of_row HB3.out.box rfl
        have x2 : w3.cell? ⟨w.heap.size, 2, none⟩ = some (.string s) := cell_of_row HB3.out.box rfl
        have x3 : w3.cell? ⟨w.heap.size, 3, none⟩ = some (.string t) := cell_of_row HB3.out.box rfl
        have x4 : w3.cell? ⟨w.heap.size, 4, none⟩ = some (.slice A l.length cap) := cell_of_row HB3.out.box rfl
        go_upto_if 34 with fail
        go_cut [] (fun wx => NBx E w wx w.heap.size #[.int .i8 k, .int .i64 n, .string s, .string t, .slice A l.length cap])
        case first =>
          cases hgd : (fitsB X && guardB X)
          · go_wp2_with fail
            go_meet
            exact HB3.out
          · have hgd2 := Bool.and_eq_true_iff.1 hgd
            rw [HX.out] at hgd2
            have HTE : Hid (∀ y ∈ l, (fitsB y && testB y) = true ∧ y.nodes ≤ 8200) := fun y hy => ⟨by rw [fits_mem hgd2.1 hy, guard_tests hgd2.2 y hy]; rfl, by have h1 := nodes_le_mem (k := k) (n := n) (s := s) (t := t) hy; have h2 := HN.out; rw [HX.out] at h2; omega⟩
            clear hgd2
            go_wp2_with fail
            go_loopw [38] (fun i wr => ∃ j : Nat, j ≤ l.length ∧ i = .int .i64 j ∧ NBx E w wr w.heap.size #[.int .i8 k, .int .i64 n, .string s, .string t, .slice A l.length cap]) (fun i _ => l.length - (intOf i).toNat)
            case atStart => exact ⟨0, Nat.zero_le _, rfl, HB3.out⟩
            case round =>
              obtain ⟨j, hj, rfl, hst⟩ := hrel
              have HS := Lib.hid hst
              clear hst x0 x1 x2 x3 x4
              by_cases hlt : j < l.length
              · obtain ⟨y, hy⟩ : ∃ y, l[j]? = some y := ⟨l[j], List.getElem?_eq_getElem hlt⟩
                obtain ⟨ad, u, rfl, had, hEl, hTy⟩ := HR.out.at_ j y hy
                have hmem := List.mem_of_getElem? hy
                obtain ⟨c0, c1, c2, c3, c4, rfl, e0, e1, e2, e3, e4⟩ := hEl.keep (HS.out.below.block ad.block had)
                have HTQ := Lib.hid (HTE.out y hmem)
                have HTY := Lib.hid (hTy.laterN HS.out.below)
                obtain ⟨ky, ny, sy, ty, ly⟩ := y
                obtain ⟨Ay, capy, huy, hRy, hky, hny, hsy, hty⟩ := hTy.parts
                simp only [Value.agg.injEq, Array.mk.injEq, List.cons.injEq, and_true] at huy
                obtain ⟨rfl, rfl, rfl, rfl, rfl⟩ := huy
                have bz0 : (wr.alloc (.cells #[.int .i8 0, .int .i64 0, .string ⟨#[]⟩, .string ⟨#[]⟩, .slice none 0 0] 25)).cell? ⟨wr.heap.size, 0, none⟩ = some (.int .i8 0) := cell_of_row (block_alloc _ _) rfl
                have bf0 : (wr.alloc (.cells #[.int .i8 0, .int .i64 0, .string ⟨#[]⟩, .string ⟨#[]⟩, .slice none 0 0] 25)).frozen? ⟨wr.heap.size, 0, none⟩ = false := free_of_row (block_alloc _ _)
                have bz1 : (wr.alloc (.cells #[.int .i8 0, .int .i64 0, .string ⟨#[]⟩, .string ⟨#[]⟩, .slice none 0 0] 25)).cell? ⟨wr.heap.size, 1, none⟩ = some (.int .i64 0) := cell_of_row (block_alloc _ _) rfl
                have bf1 : (wr.alloc (.cells #[.int .i8 0, .int .i64 0, .string ⟨#[]⟩, .string ⟨#[]⟩, .slice none 0 0] 25)).frozen? ⟨wr.heap.size, 1, none⟩ = false := free_of_row (block_alloc _ _)
                have bz2 : (wr.alloc (.cells #[.int .i8 0, .int .i64 0, .string ⟨#[]⟩, .string ⟨#[]⟩, .slice none 0 0] 25)).cell? ⟨wr.heap.size, 2, none⟩ = some (.string ⟨#[]⟩) := cell_of_row (block_alloc _ _) rfl
                have bf2 : (wr.alloc (.cells #[.int .i8 0, .int .i64 0, .string ⟨#[]⟩, .string ⟨#[]⟩, .slice none 0 0] 25)).frozen? ⟨wr.heap.size, 2, none⟩ = false := free_of_row (block_alloc _ _)
                have bz3 : (wr.alloc (.cells #[.int .i8 0, .int .i64 0, .string ⟨#[]⟩, .string ⟨#[]⟩, .slice none 0 0] 25)).cell? ⟨wr.heap.size, 3, none⟩ = some (.string ⟨#[]⟩) := cell_of_row (block_alloc _ _) rfl
                have bf3 : (wr.alloc (.cells #[.int .i8 0, .int .i64 0, .string ⟨#[]⟩, .string ⟨#[]⟩, .slice none 0 0] 25)).frozen? ⟨wr.heap.size, 3, none⟩ = false := free_of_row (block_alloc _ _)
                have bz4 : (wr.alloc (.cells #[.int .i8 0, .int .i64 0, .string ⟨#[]⟩, .string ⟨#[]⟩, .slice none 0 0] 25)).cell? ⟨wr.heap.size, 4, none⟩ = some (.slice none 0 0) := cell_of_row (block_alloc _ _) rfl
                have bf4 : (wr.alloc (.cells #[.int .i8 0, .int .i64 0, .string ⟨#[]⟩, .string ⟨#[]⟩, .slice none 0 0] 25)).frozen? ⟨wr.heap.size, 4, none⟩ = false := free_of_row (block_alloc _ _)
                have bv0 : (wr.alloc (.cells #[.int .i8 ky, .int .i64 ny, .string sy, .string ty, .slice Ay ly.length capy] 25)).cell? ⟨wr.heap.size, 0, none⟩ = some (.int .i8 ky) := cell_of_row (block_alloc _ _) rfl
                have bv1 : (wr.alloc (.cells #[.int .i8 ky, .int .i64 ny, .string sy, .string ty, .slice Ay ly.length capy] 25)).cell? ⟨wr.heap.size, 1, none⟩ = some (.int .i64 ny) := cell_of_row (block_alloc _ _) rfl
                have bv2 : (wr.alloc (.cells #[.int .i8 ky, .int .i64 ny, .string sy, .string ty, .slice Ay ly.length capy] 25)).cell? ⟨wr.heap.size, 2, none⟩ = some (.string sy) := cell_of_row (block_alloc _ _) rfl
                have bv3 : (wr.alloc (.cells #[.int .i8 ky, .int .i64 ny, .string sy, .string ty, .slice Ay ly.length capy] 25)).cell? ⟨wr.heap.size, 3, none⟩ = some (.string ty) := cell_of_row (block_alloc _ _) rfl
                have bv4 : (wr.alloc (.cells #[.int .i8 ky, .int .i64 ny, .string sy, .string ty, .slice Ay ly.length capy] 25)).cell? ⟨wr.heap.size, 4, none⟩ = some (.slice Ay ly.length capy) := cell_of_row (block_alloc _ _) rfl
                clear hEl hTy
                have hb5 := (HS.out.under HEE.out ((Below.refl wr.heap.size wr).alloc (Nat.le_refl _) (.cells #[.int .i8 ky, .int .i64 ny, .string sy, .string ty, .slice Ay ly.length capy] 25)))
                have HB5 := Lib.hid hb5
                have HC5 := Lib.hid (HTS.out _ _ _ (HTY.out.laterN ((Below.refl wr.heap.size wr).alloc (Nat.le_refl _) (.cells #[.int .i8 ky, .int .i64 ny, .string sy, .string ty, .slice Ay ly.length capy] 25))) HTQ.out.2 hb5.env)
                clear hb5
                go_wp2_with fail
                refine HC5.out.mono ?_
                rintro e w6 ⟨rfl, b6⟩
                rw [HTQ.out.1]
                have HB6 := Lib.hid (HB5.out.under HEE.out b6)
                clear b6
                go_wp2_with fail
                go_roundw
                case rel => exact ⟨j + 1, by omega, by go_num, HB6.out⟩
                case measure => simp [intOf]; omega
              · obtain rfl : j = l.length := by omega
                go_wp2_with fail
                go_meet
                exact HS.out
        case rest =>
          obtain ⟨wd, hwd⟩ : ∃ wd, wd = wc := ⟨_, rfl⟩
          subst hwd
          have HD := Lib.hid hcut
          clear hcut x0 x1 x2 x3 x4
          have x0 : wd.cell? ⟨w.heap.size, 0, none⟩ = some (.int .i8 k) := cell_of_row HD.out.box rfl
          have x1 : wd.cell? ⟨w.heap.size, 1, none⟩ = some (.int .i64 n) := cell_of_row HD.out.box rfl
          have x2 : wd.cell? ⟨w.heap.size, 2, none⟩ = some (.string s) := cell_of_row HD.out.box rfl
          have x3 : wd.cell? ⟨w.heap.size, 3, none⟩ = some (.string t) := cell_of_row HD.out.box rfl
          have x4 : wd.cell? ⟨w.heap.size, 4, none⟩ = some (.slice A l.length cap) := cell_of_row HD.out.box rfl
          go_wp2_with fail
          refine (HCK.out _ _ wd (HT.out.laterN HD.out.below) HN.out HD.out.env).mono ?_
          rintro e we ⟨rfl, bwe⟩
          have HE5 := Lib.hid (HD.out.under HEE.out bwe)
          clear bwe
          clear x0 x1 x2 x3 x4
          go_upto_if 48 with fail
          go_cut [] (fun wx => Below w.heap.size w wx ∧ E wx)
          case first =>
            rcases checkR_or X with ⟨hc, hfit, hmods⟩ | ⟨hc, -⟩
            · have HFM := Lib.hid (And.intro hfit hmods)
              clear hfit hmods
              have x0 : we.cell? ⟨w.heap.size, 0, none⟩ = some (.int .i8 k) := cell_of_row HE5.out.box rfl
              have x1 : we.cell? ⟨w.heap.size, 1, none⟩ = some (.int .i64 n) := cell_of_row HE5.out.box rfl
              have x2 : we.cell? ⟨w.heap.size, 2, none⟩ = some (.string s) := cell_of_row HE5.out.box rfl
              have x3 : we.cell? ⟨w.heap.size, 3, none⟩ = some (.string t) := cell_of_row HE5.out.box rfl
              have x4 : we.cell? ⟨w.heap.size, 4, none⟩ = some (.slice A l.length cap) := cell_of_row HE5.out.box rfl
              rw [show (checkR X == (0 : Int)) = true from by rw [hc]; rfl, hc]
              clear hc
              go_wp2_with fail
              have HI1 : Hid (Below w.heap.size w we ∧ E we) := ⟨HE5.out.below, HE5.out.env⟩
              go_loopw [52] (fun i wr => ∃ j : Nat, j ≤ l.length ∧ i = .int .i64 j ∧ Below we.heap.size we wr ∧ E wr) (fun i _ => l.length - (intOf i).toNat)
              case atStart => exact ⟨0, Nat.zero_le _, rfl, Below.refl _ _, HI1.out.2⟩
              case round =>
                obtain ⟨j1, hj1, rfl, hst1⟩ := hrel
                obtain ⟨wr1, hwr1⟩ : ∃ wr1, wr1 = wr := ⟨_, rfl⟩
                subst hwr1
                have HS1 := Lib.hid hst1
                have HBW1 : Hid (Below w.heap.size w wr1) := HI1.out.1.trans (hst1.1.mono HI1.out.1.size)
                clear hst1
                by_cases hlt1 : j1 < l.length
                · obtain ⟨y1, hy1⟩ : ∃ y, l[j1]? = some y := ⟨l[j1], List.getElem?_eq_getElem hlt1⟩
                  obtain ⟨ad1, u1, hA1, had1, hEl, hTy⟩ := HR.out.at_ j1 y1 hy1
                  subst hA1
                  have hmem1 := List.mem_of_getElem? hy1
                  obtain ⟨c0, c1, c2, c3, c4, rfl, e10, e11, e12, e13, e14⟩ := hEl.keep (HBW1.out.block ad1.block had1)
                  have HTY1 := Lib.hid hTy
                  obtain ⟨k1, n1, s1, t1, l1⟩ := y1
                  obtain ⟨A1, cap1, hu1, hR1, hk1, hn1, hs1, ht1⟩ := hTy.parts
                  simp only [Value.agg.injEq, Array.mk.injEq, List.cons.injEq, and_true] at hu1
                  obtain ⟨rfl, rfl, rfl, rfl, rfl⟩ := hu1
                  have b1z0 : (wr1.alloc (.cells #[.int .i8 0, .int .i64 0, .string ⟨#[]⟩, .string ⟨#[]⟩, .slice none 0 0] 25)).cell? ⟨wr1.heap.size, 0, none⟩ = some (.int .i8 0) := cell_of_row (block_alloc _ _) rfl
                  have b1f0 : (wr1.alloc (.cells #[.int .i8 0, .int .i64 0, .string ⟨#[]⟩, .string ⟨#[]⟩, .slice none 0 0] 25)).frozen? ⟨wr1.heap.size, 0, none⟩ = false := free_of_row (block_alloc _ _)
                  have b1z1 : (wr1.alloc (.cells #[.int .i8 0, .int .i64 0, .string ⟨#[]⟩, .string ⟨#[]⟩, .slice none 0 0] 25)).cell? ⟨wr1.heap.size, 1, none⟩ = some (.int .i64 0) := cell_of_row (block_alloc _ _) rfl
                  have b1f1 : (wr1.alloc (.cells #[.int .i8 0, .int .i64 0, .string ⟨#[]⟩, .string ⟨#[]⟩, .slice none 0 0] 25)).frozen? ⟨wr1.heap.size, 1, none⟩ = false := free_of_row (block_alloc _ _)
                  have b1z2 : (wr1.alloc (.cells #[.int .i8 0, .int .i64 0, .string ⟨#[]⟩, .string ⟨#[]⟩, .slice none 0 0] 25)).cell? ⟨wr1.heap.size, 2, none⟩ = some (.string ⟨#[]⟩) := cell_of_row (block_alloc _ _) rfl
                  have b1f2 : (wr1.alloc (.cells #[.int .i8 0, .int .i64 0, .string ⟨#[]⟩, .string ⟨#[]⟩, .slice none 0 0] 25)).frozen? ⟨wr1.heap.size, 2, none⟩ = false := free_of_row (block_alloc _ _)
                  have b1z3 : (wr1.alloc (.cells #[.int .i8 0, .int .i64 0, .string ⟨#[]⟩, .string ⟨#[]⟩, .slice none 0 0] 25)).cell? ⟨wr1.heap.size, 3, none⟩ = some (.string ⟨#[]⟩) := cell_of_row (block_alloc _ _) rfl
                  have b1f3 : (wr1.alloc (.cells #[.int .i8 0, .int .i64 0, .string ⟨#[]⟩, .string ⟨#[]⟩, .slice none 0 0] 25)).frozen? ⟨wr1.heap.size, 3, none⟩ = false := free_of_row (block_alloc _ _)
                  have b1z4 : (wr1.alloc (.cells #[.int .i8 0, .int .i64 0, .string ⟨#[]⟩, .string ⟨#[]⟩, .slice none 0 0] 25)).cell? ⟨wr1.heap.size, 4, none⟩ = some (.slice none 0 0) := cell_of_row (block_alloc _ _) rfl
                  have b1f4 : (wr1.alloc (.cells #[.int .i8 0, .int .i64 0, .string ⟨#[]⟩, .string ⟨#[]⟩, .slice none 0 0] 25)).frozen? ⟨wr1.heap.size, 4, none⟩ = false := free_of_row (block_alloc _ _)
                  have b1v0 : (wr1.alloc (.cells #[.int .i8 k1, .int .i64 n1, .string s1, .string t1, .slice A1 l1.length cap1] 25)).cell? ⟨wr1.heap.size, 0, none⟩ = some (.int .i8 k1) := cell_of_row (block_alloc _ _) rfl
                  have b1v1 : (wr1.alloc (.cells #[.int .i8 k1, .int .i64 n1, .string s1, .string t1, .slice A1 l1.length cap1] 25)).cell? ⟨wr1.heap.size, 1, none⟩ = some (.int .i64 n1) := cell_of_row (block_alloc _ _) rfl
                  have b1v2 : (wr1.alloc (.cells #[.int .i8 k1, .int .i64 n1, .string s1, .string t1, .slice A1 l1.length cap1] 25)).cell? ⟨wr1.heap.size, 2, none⟩ = some (.string s1) := cell_of_row (block_alloc _ _) rfl
                  have b1v3 : (wr1.alloc (.cells #[.int .i8 k1, .int .i64 n1, .string s1, .string t1, .slice A1 l1.length cap1] 25)).cell? ⟨wr1.heap.size, 3, none⟩ = some (.string t1) := cell_of_row (block_alloc _ _) rfl
                  have b1v4 : (wr1.alloc (.cells #[.int .i8 k1, .int .i64 n1, .string s1, .string t1, .slice A1 l1.length cap1] 25)).cell? ⟨wr1.heap.size, 4, none⟩ = some (.slice A1 l1.length cap1) := cell_of_row (block_alloc _ _) rfl
                  have HRY1 := Lib.hid hR1
                  have HB10 := Lib.hid ((Below.refl wr1.heap.size wr1).alloc (Nat.le_refl _) (.cells #[.int .i8 k1, .int .i64 n1, .string s1, .string t1, .slice A1 l1.length cap1] 25))
                  have HG1 := Lib.hid (block_alloc wr1 (.cells #[.int .i8 k1, .int .i64 n1, .string s1, .string t1, .slice A1 l1.length cap1] 25))
                  have hlen1 := hR1.max
                  unfold maxLen at hlen1
                  clear hEl hTy hR1
                  go_wp2_with fail
                  generalize (wr1.alloc (.cells #[.int .i8 k1, .int .i64 n1, .string s1, .string t1, .slice A1 l1.length cap1] 25)) = wm1 at HB10 HG1 ⊢
                  clear e10 e11 e12 e13 e14
                  clear b1z0 b1f0 b1v0 b1z1 b1f1 b1v1 b1z2 b1f2 b1v2 b1z3 b1f3 b1v3 b1z4 b1f4 b1v4
                  have HI2 : Hid (Below w.heap.size w wm1 ∧ E wm1) := ⟨HBW1.out.trans (HB10.out.mono HBW1.out.size), HEE.out _ _ HS1.out.2 HB10.out⟩
                  go_loopw [59] (fun i wr => ∃ j : Nat, j ≤ l1.length ∧ i = .int .i64 j ∧ Below wm1.heap.size wm1 wr ∧ E wr) (fun i _ => l1.length - (intOf i).toNat)
                  case atStart => exact ⟨0, Nat.zero_le _, rfl, Below.refl _ _, HI2.out.2⟩
                  case round =>
                    obtain ⟨j2, hj2, rfl, hst2⟩ := hrel
                    obtain ⟨wr2, hwr2⟩ : ∃ wr2, wr2 = wr := ⟨_, rfl⟩
                    subst hwr2
                    have HS2 := Lib.hid hst2
                    have HBW2 : Hid (Below w.heap.size w wr2) := HI2.out.1.trans (hst2.1.mono HI2.out.1.size)
                    clear hst2
                    by_cases hlt2 : j2 < l1.length
                    · obtain ⟨y2, hy2⟩ : ∃ y, l1[j2]? = some y := ⟨l1[j2], List.getElem?_eq_getElem hlt2⟩
                      obtain ⟨ad2, u2, hA2, had2, hEl, hTy⟩ := HRY1.out.at_ j2 y2 hy2
                      subst hA2
                      have hmem2 := List.mem_of_getElem? hy2
                      obtain ⟨c0, c1, c2, c3, c4, rfl, e20, e21, e22, e23, e24⟩ := hEl.keep (HBW2.out.block ad2.block had2)
                      have HTY2 := Lib.hid hTy
                      obtain ⟨k2, n2, s2, t2, l2⟩ := y2
                      obtain ⟨A2, cap2, hu2, hR2, hk2, hn2, hs2, ht2⟩ := hTy.parts
                      simp only [Value.agg.injEq, Array.mk.injEq, List.cons.injEq, and_true] at hu2
                      obtain ⟨rfl, rfl, rfl, rfl, rfl⟩ := hu2
                      have b2z0 : (wr2.alloc (.cells #[.int .i8 0, .int .i64 0, .string ⟨#[]⟩, .string ⟨#[]⟩, .slice none 0 0] 25)).cell? ⟨wr2.heap.size, 0, none⟩ = some (.int .i8 0) := cell_of_row (block_alloc _ _) rfl
                      have b2f0 : (wr2.alloc (.cells #[.int .i8 0, .int .i64 0, .string ⟨#[]⟩, .string ⟨#[]⟩, .slice none 0 0] 25)).frozen? ⟨wr2.heap.size, 0, none⟩ = false := free_of_row (block_alloc _ _)
                      have b2z1 : (wr2.alloc (.cells #[.int .i8 0, .int .i64 0, .string ⟨#[]⟩, .string ⟨#[]⟩, .slice none 0 0] 25)).cell? ⟨wr2.heap.size, 1, none⟩ = some (.int .i64 0) := cell_of_row (block_alloc _ _) rfl
                      have b2f1 : (wr2.alloc (.cells #[.int .i8 0, .int .i64 0, .string ⟨#[]⟩, .string ⟨#[]⟩, .slice none 0 0] 25)).frozen? ⟨wr2.heap.size, 1, none⟩ = false := free_of_row (block_alloc _ _)
                      have b2z2 : (wr2.alloc (.cells #[.int .i8 0, .int .i64 0, .string ⟨#[]⟩, .string ⟨#[]⟩, .slice none 0 0] 25)).cell? ⟨wr2.heap.size, 2, none⟩ = some (.string ⟨#[]⟩) := cell_of_row (block_alloc _ _) rfl
                      have b2f2 : (wr2.alloc (.cells #[.int .i8 0, .int .i64 0, .string ⟨#[]⟩, .string ⟨#[]⟩, .slice none 0 0] 25)).frozen? ⟨wr2.heap.size, 2, none⟩ = false := free_of_row (block_alloc _ _)
                      have b2z3 : (wr2.alloc (.cells #[.int .i8 0, .int .i64 0, .string ⟨#[]⟩, .string ⟨#[]⟩, .slice none 0 0] 25)).cell? ⟨wr2.heap.size, 3, none⟩ = some (.string ⟨#[]⟩) := cell_of_row (block_alloc _ _) rfl
                      have b2f3 : (wr2.alloc (.cells #[.int .i8 0, .int .i64 0, .string ⟨#[]⟩, .string ⟨#[]⟩, .slice none 0 0] 25)).frozen? ⟨wr2.heap.size, 3, none⟩ = false := free_of_row (block_alloc _ _)
                      have b2z4 : (wr2.alloc (.cells #[.int .i8 0, .int .i64 0, .string ⟨#[]⟩, .string ⟨#[]⟩, .slice none 0 0] 25)).cell? ⟨wr2.heap.size, 4, none⟩ = some (.slice none 0 0) := cell_of_row (block_alloc _ _) rfl
                      have b2f4 : (wr2.alloc (.cells #[.int .i8 0, .int .i64 0, .string ⟨#[]⟩, .string ⟨#[]⟩, .slice none 0 0] 25)).frozen? ⟨wr2.heap.size, 4, none⟩ = false := free_of_row (block_alloc _ _)
                      have b2v0 : (wr2.alloc (.cells #[.int .i8 k2, .int .i64 n2, .string s2, .string t2, .slice A2 l2.length cap2] 25)).cell? ⟨wr2.heap.size, 0, none⟩ = some (.int .i8 k2) := cell_of_row (block_alloc _ _) rfl
                      have b2v1 : (wr2.alloc (.cells #[.int .i8 k2, .int .i64 n2, .string s2, .string t2, .slice A2 l2.length cap2] 25)).cell? ⟨wr2.heap.size, 1, none⟩ = some (.int .i64 n2) := cell_of_row (block_alloc _ _) rfl
                      have b2v2 : (wr2.alloc (.cells #[.int .i8 k2, .int .i64 n2, .string s2, .string t2, .slice A2 l2.length cap2] 25)).cell? ⟨wr2.heap.size, 2, none⟩ = some (.string s2) := cell_of_row (block_alloc _ _) rfl
                      have b2v3 : (wr2.alloc (.cells #[.int .i8 k2, .int .i64 n2, .string s2, .string t2, .slice A2 l2.length cap2] 25)).cell? ⟨wr2.heap.size, 3, none⟩ = some (.string t2) := cell_of_row (block_alloc _ _) rfl
                      have b2v4 : (wr2.alloc (.cells #[.int .i8 k2, .int .i64 n2, .string s2, .string t2, .slice A2 l2.length cap2] 25)).cell? ⟨wr2.heap.size, 4, none⟩ = some (.slice A2 l2.length cap2) := cell_of_row (block_alloc _ _) rfl
                      have HRY2 := Lib.hid hR2
                      have HB20 := Lib.hid ((Below.refl wr2.heap.size wr2).alloc (Nat.le_refl _) (.cells #[.int .i8 k2, .int .i64 n2, .string s2, .string t2, .slice A2 l2.length cap2] 25))
                      have HG2 := Lib.hid (block_alloc wr2 (.cells #[.int .i8 k2, .int .i64 n2, .string s2, .string t2, .slice A2 l2.length cap2] 25))
                      have hlen2 := hR2.max
                      unfold maxLen at hlen2
                      clear hEl hTy hR2
                      go_wp2_with fail
                      generalize (wr2.alloc (.cells #[.int .i8 k2, .int .i64 n2, .string s2, .string t2, .slice A2 l2.length cap2] 25)) = wm2 at HB20 HG2 ⊢
                      clear e20 e21 e22 e23 e24
                      clear b2z0 b2f0 b2v0 b2z1 b2f1 b2v1 b2z2 b2f2 b2v2 b2z3 b2f3 b2v3 b2z4 b2f4 b2v4
                      have HI3 : Hid (Below w.heap.size w wm2 ∧ E wm2) := ⟨HBW2.out.trans (HB20.out.mono HBW2.out.size), HEE.out _ _ HS2.out.2 HB20.out⟩
                      go_loopw [66] (fun i wr => ∃ j : Nat, j ≤ l2.length ∧ i = .int .i64 j ∧ Below wm2.heap.size wm2 wr ∧ E wr) (fun i _ => l2.length - (intOf i).toNat)
                      case atStart => exact ⟨0, Nat.zero_le _, rfl, Below.refl _ _, HI3.out.2⟩
                      case round =>
                        obtain ⟨j3, hj3, rfl, hst3⟩ := hrel
                        obtain ⟨wr3, hwr3⟩ : ∃ wr3, wr3 = wr := ⟨_, rfl⟩
                        subst hwr3
                        have HS3 := Lib.hid hst3
                        have HBW3 : Hid (Below w.heap.size w wr3) := HI3.out.1.trans (hst3.1.mono HI3.out.1.size)
                        clear hst3
                        by_cases hlt3 : j3 < l2.length
                        · obtain ⟨y3, hy3⟩ : ∃ y, l2[j3]? = some y := ⟨l2[j3], List.getElem?_eq_getElem hlt3⟩
                          obtain ⟨ad3, u3, hA3, had3, hEl, hTy⟩ := HRY2.out.at_ j3 y3 hy3
                          subst hA3
                          have hmem3 := List.mem_of_getElem? hy3
                          obtain ⟨c0, c1, c2, c3, c4, rfl, e30, e31, e32, e33, e34⟩ := hEl.keep (HBW3.out.block ad3.block had3)
                          have HTY3 := Lib.hid hTy
                          obtain ⟨k3, n3, s3, t3, l3⟩ := y3
                          obtain ⟨A3, cap3, hu3, hR3, hk3, hn3, hs3, ht3⟩ := hTy.parts
                          simp only [Value.agg.injEq, Array.mk.injEq, List.cons.injEq, and_true] at hu3
                          obtain ⟨rfl, rfl, rfl, rfl, rfl⟩ := hu3
                          have b3z0 : (wr3.alloc (.cells #[.int .i8 0, .int .i64 0, .string ⟨#[]⟩, .string ⟨#[]⟩, .slice none 0 0] 25)).cell? ⟨wr3.heap.size, 0, none⟩ = some (.int .i8 0) := cell_of_row (block_alloc _ _) rfl
                          have b3f0 : (wr3.alloc (.cells #[.int .i8 0, .int .i64 0, .string ⟨#[]⟩, .string ⟨#[]⟩, .slice none 0 0] 25)).frozen? ⟨wr3.heap.size, 0, none⟩ = false := free_of_row (block_alloc _ _)
                          have b3z1 : (wr3.alloc (.cells #[.int .i8 0, .int .i64 0, .string ⟨#[]⟩, .string ⟨#[]⟩, .slice none 0 0] 25)).cell? ⟨wr3.heap.size, 1, none⟩ = some (.int .i64 0) := cell_of_row (block_alloc _ _) rfl
                          have b3f1 : (wr3.alloc (.cells #[.int .i8 0, .int .i64 0, .string ⟨#[]⟩, .string ⟨#[]⟩, .slice none 0 0] 25)).frozen? ⟨wr3.heap.size, 1, none⟩ = false := free_of_row (block_alloc _ _)
                          have b3z2 : (wr3.alloc (.cells #[.int .i8 0, .int .i64 0, .string ⟨#[]⟩, .string ⟨#[]⟩, .slice none 0 0] 25)).cell? ⟨wr3.heap.size, 2, none⟩ = some (.string ⟨#[]⟩) := cell_of_row (block_alloc _ _) rfl
                          have b3f2 : (wr3.alloc (.cells #[.int .i8 0, .int .i64 0, .string ⟨#[]⟩, .string ⟨#[]⟩, .slice none 0 0] 25)).frozen? ⟨wr3.heap.size, 2, none⟩ = false := free_of_row (block_alloc _ _)
                          have b3z3 : (wr3.alloc (.cells #[.int .i8 0, .int .i64 0, .string ⟨#[]⟩, .string ⟨#[]⟩, .slice none 0 0] 25)).cell? ⟨wr3.heap.size, 3, none⟩ = some (.string ⟨#[]⟩) := cell_of_row (block_alloc _ _) rfl
                          have b3f3 : (wr3.alloc (.cells #[.int .i8 0, .int .i64 0, .string ⟨#[]⟩, .string ⟨#[]⟩, .slice none 0 0] 25)).frozen? ⟨wr3.heap.size, 3, none⟩ = false := free_of_row (block_alloc _ _)
                          have b3z4 : (wr3.alloc (.cells #[.int .i8 0, .int .i64 0, .string ⟨#[]⟩, .string ⟨#[]⟩, .slice none 0 0] 25)).cell? ⟨wr3.heap.size, 4, none⟩ = some (.slice none 0 0) := cell_of_row (block_alloc _ _) rfl
                          have b3f4 : (wr3.alloc (.cells #[.int .i8 0, .int .i64 0, .string ⟨#[]⟩, .string ⟨#[]⟩, .slice none 0 0] 25)).frozen? ⟨wr3.heap.size, 4, none⟩ = false := free_of_row (block_alloc _ _)
                          have b3v0 : (wr3.alloc (.cells #[.int .i8 k3, .int .i64 n3, .string s3, .string t3, .slice A3 l3.length cap3] 25)).cell? ⟨wr3.heap.size, 0, none⟩ = some (.int .i8 k3) := cell_of_row (block_alloc _ _) rfl
                          have b3v1 : (wr3.alloc (.cells #[.int .i8 k3, .int .i64 n3, .string s3, .string t3, .slice A3 l3.length cap3] 25)).cell? ⟨wr3.heap.size, 1, none⟩ = some (.int .i64 n3) := cell_of_row (block_alloc _ _) rfl
                          have b3v2 : (wr3.alloc (.cells #[.int .i8 k3, .int .i64 n3, .string s3, .string t3, .slice A3 l3.length cap3] 25)).cell? ⟨wr3.heap.size, 2, none⟩ = some (.string s3) := cell_of_row (block_alloc _ _) rfl
                          have b3v3 : (wr3.alloc (.cells #[.int .i8 k3, .int .i64 n3, .string s3, .string t3, .slice A3 l3.length cap3] 25)).cell? ⟨wr3.heap.size, 3, none⟩ = some (.string t3) := cell_of_row (block_alloc _ _) rfl
                          have b3v4 : (wr3.alloc (.cells #[.int .i8 k3, .int .i64 n3, .string s3, .string t3, .slice A3 l3.length cap3] 25)).cell? ⟨wr3.heap.size, 4, none⟩ = some (.slice A3 l3.length cap3) := cell_of_row (block_alloc _ _) rfl
                          have HRY3 := Lib.hid hR3
                          have HB30 := Lib.hid ((Below.refl wr3.heap.size wr3).alloc (Nat.le_refl _) (.cells #[.int .i8 k3, .int .i64 n3, .string s3, .string t3, .slice A3 l3.length cap3] 25))
                          have HG3 := Lib.hid (block_alloc wr3 (.cells #[.int .i8 k3, .int .i64 n3, .string s3, .string t3, .slice A3 l3.length cap3] 25))
                          have hlen3 := hR3.max
                          unfold maxLen at hlen3
                          clear hEl hTy hR3
                          have HF2 : Hid ((wm2).heap[wr2.heap.size]? = some (.cells #[.int .i8 k2, .int .i64 n2, .string s2, .string t2, .slice (some ad3) l2.length cap2] 25 (0, 0))) := HG2.out
                          have hcl := mods_parts (x := X) (m := .mk k1 n1 s1 t1 l1) (f := .mk k2 n2 s2 t2 l2) (c := .mk k3 n3 s3 t3 l3) HFM.out.1 HFM.out.2 (by rw [HX.out]; exact hmem1) hmem2 hmem3
                          have hc1 : clauseR (.mk k3 n3 s3 t3 l3) n2 = true := hcl.1
                          have hc2 : clauseR (.mk k3 n3 s3 t3 l3) (n2 + 1) = false := cls_one hc1
                          have hn2 : 0 ≤ n2 ∧ n2 ≤ 8 := hcl.2
                          have hsz : (Tm.mk k3 n3 s3 t3 l3).nodes ≤ 8200 := by
                            have h1 := nodes_le_mem (k := k) (n := n) (s := s) (t := t) hmem1
                            have h2 := nodes_le_mem (k := k1) (n := n1) (s := s1) (t := t1) hmem2
                            have h3 := nodes_le_mem (k := k2) (n := n2) (s := s2) (t := t2) hmem3
                            have h4 := HN.out
                            rw [HX.out] at h4
                            omega
                          have HC12 := Lib.hid (And.intro hc1 hc2)
                          have HSZ := Lib.hid hsz
                          have f1 : wr3.cell? ⟨wr2.heap.size, 1, none⟩ = some (.int .i64 n2) := cell_of_row ((HS3.out.1.block _ (heap_lt HG2.out)).trans HG2.out) rfl
                          have hB7 := HBW3.out.trans (HB30.out.mono HBW3.out.size)
                          have g1 : ((wr3.alloc (.cells #[.int .i8 k3, .int .i64 n3, .string s3, .string t3, .slice A3 l3.length cap3] 25))).cell? ⟨wr2.heap.size, 1, none⟩ = some (.int .i64 n2) := cell_of_row ((HB30.out.block _ (Nat.lt_of_lt_of_le (heap_lt HG2.out) HS3.out.1.size)).trans ((HS3.out.1.block _ (heap_lt HG2.out)).trans HG2.out)) rfl
                          have HB7 := Lib.hid hB7
                          have HE7 := Lib.hid (HEE.out _ _ HS3.out.2 HB30.out)
                          clear hcl hc1 hc2 hsz hB7
                          go_wp2_with fail
                          generalize (wr3.alloc (.cells #[.int .i8 k3, .int .i64 n3, .string s3, .string t3, .slice A3 l3.length cap3] 25)) = wk at HB30 HG3 HB7 HE7 g1 ⊢
                          clear e30 e31 e32 e33 e34
                          clear b3z0 b3f0 b3v0 b3z1 b3f1 b3v1 b3z2 b3f2 b3v2 b3z3 b3f3 b3v3 b3z4 b3f4 b3v4
                          clear f1
                          refine (HCL.out (.mk k3 n3 s3 t3 l3) n2 _ wk (HTY3.out.laterN HB7.out) HSZ.out HE7.out).mono ?_
                          rintro e wl ⟨rfl, bl⟩
                          rw [HC12.out.1]
                          have HBL := Lib.hid bl
                          have hg3 := (bl.block _ (heap_lt HG3.out)).trans HG3.out
                          have z0 : wl.cell? ⟨wr3.heap.size, 0, none⟩ = some (.int .i8 k3) := cell_of_row hg3 rfl
                          have z1 : wl.cell? ⟨wr3.heap.size, 1, none⟩ = some (.int .i64 n3) := cell_of_row hg3 rfl
                          have z2 : wl.cell? ⟨wr3.heap.size, 2, none⟩ = some (.string s3) := cell_of_row hg3 rfl
                          have z3 : wl.cell? ⟨wr3.heap.size, 3, none⟩ = some (.string t3) := cell_of_row hg3 rfl
                          have z4 : wl.cell? ⟨wr3.heap.size, 4, none⟩ = some (.slice A3 l3.length cap3) := cell_of_row hg3 rfl
                          have z5 : wl.cell? ⟨wr2.heap.size, 1, none⟩ = some (.int .i64 n2) := cell_of_row ((bl.block _ (Nat.lt_of_lt_of_le (Nat.lt_of_lt_of_le (heap_lt HG2.out) HS3.out.1.size) HB30.out.size)).trans ((HB30.out.block _ (Nat.lt_of_lt_of_le (heap_lt HG2.out) HS3.out.1.size)).trans ((HS3.out.1.block _ (heap_lt HG2.out)).trans HG2.out))) rfl
                          clear g1 bl hg3
                          go_wp2_with fail
                          refine (HCL.out (.mk k3 n3 s3 t3 l3) (n2 + 1) _ wl (HTY3.out.laterN (HB7.out.trans (HBL.out.mono HB7.out.size))) HSZ.out (HEE.out _ _ HE7.out HBL.out)).mono ?_
                          rintro e wn ⟨rfl, bn⟩
                          rw [HC12.out.2]
                          have HBN := Lib.hid bn
                          clear z0 z1 z2 z3 z4 z5 bn
                          go_wp2_with fail
                          go_roundw
                          case rel => exact ⟨j3 + 1, by omega, by go_num, HS3.out.1.trans ((HB30.out.trans ((HBL.out.trans (HBN.out.mono HBL.out.size)).mono HB30.out.size)).mono HS3.out.1.size), HEE.out _ _ (HEE.out _ _ HE7.out HBL.out) HBN.out⟩
                          case measure => simp [intOf]; omega
                        · obtain rfl : j3 = l2.length := by omega
                          go_wp2_with fail
                          go_roundw
                          case rel => exact ⟨j2 + 1, by omega, by go_num, HS2.out.1.trans ((HB20.out.trans (HS3.out.1.mono HB20.out.size)).mono HS2.out.1.size), HS3.out.2⟩
                          case measure => simp [intOf]; omega
                    · obtain rfl : j2 = l1.length := by omega
                      go_wp2_with fail
                      go_roundw
                      case rel => exact ⟨j1 + 1, by omega, by go_num, HS1.out.1.trans ((HB10.out.trans (HS2.out.1.mono HB10.out.size)).mono HS1.out.1.size), HS2.out.2⟩
                      case measure => simp [intOf]; omega
                · obtain rfl : j1 = l.length := by omega
                  go_wp2_with fail
                  go_meet
                  exact ⟨HBW1.out, HS1.out.2⟩
            · rw [show (checkR X == (0 : Int)) = false from by rw [hc]; rfl, hc]
              clear hc
              go_wp2_with fail
              go_meet
              exact ⟨HE5.out.below, HE5.out.env⟩
          case rest =>
            obtain ⟨wd2, hwd2⟩ : ∃ wd2, wd2 = wc := ⟨_, rfl⟩
            subst hwd2
            have HZ := Lib.hid hcut
            clear hcut
            go_wp2_with fail
            refine (HWK.out wd2 HZ.out.2).mono ?_
            rintro e w9 ⟨rfl, b9⟩
            go_wp2_with fail
            go_ret
            exact ⟨rfl, HZ.out.1.trans (b9.mono HZ.out.1.size)⟩
end Go.Proofs.YtcallgoglnkkiaaGreatDoor
