/- The law AstSize from contracts. -/
import Derived.Test.YtcallgoglnkkiaaGreatDoorWakes07
import Derived.Test.YtcallgoglnkkiaaGreatDoorAstU
import Derived.Test.YtcallgoglnkkiaaGreatDoorBoolMap
import Derived.Test.YtcallgoglnkkiaaGreatDoorOpenN
import Derived.Deep.RegionHeld
import Derived.OrdersHeld
set_option linter.unusedVariables false
namespace Go.Proofs.YtcallgoglnkkiaaGreatDoor
open Go.RowKit

def SizeC7 (E : World → Prop) : Prop := ∀ (x : Tm) (v : Value) (w : World), TmAt (· < w.heap.size) w x v → (4096 < x.nodes → FreeT w x v) → x.nodes ≤ 8200 → E w →
  Calls Tryz.prog 18 #[v] w fun e w' => ∃ d : Nat, e = .returned (.tuple #[.int .i64 (min x.nodes 4097 : Nat), .int .i64 d]) ∧ (x.nodes ≤ 4096 → d = min x.deep 65) ∧ d ≤ 65 ∧ Below w.heap.size w w'
theorem zero_bool7 (w : World) : (zeroValue 4).run Tryz.prog w = .ok (.bool false) w := by kernel_rfl

set_option maxRecDepth 100000 in
set_option maxHeartbeats 8000000 in
theorem astSize_of {E : World → Prop} (hE : ∀ w w', E w → Below w.heap.size w w' → E w') (hWk : WakesC E) (hSz : SizeC7 E) (hVar : VarsC E) (x : Tm) (v : Value) (w : World) (hT : TmAt (· < w.heap.size) w x v) (hF : FreeT w x v) (hZ : Szd x) (hw : E w) :
    Calls Tryz.prog 5 #[v] w fun e w' => e = .returned (.bool true) ∧ Below w.heap.size w w' := by
  obtain ⟨k, n, s, t, l⟩ := x
  obtain ⟨A, cap, rfl, hR, hk, hn, hs, ht⟩ := hT.parts
  have hlen := hR.max
  unfold maxLen at hlen
  obtain ⟨X, hX⟩ : ∃ X, X = Tm.mk k n s t l := ⟨_, rfl⟩
  rw [← hX] at hT hF hZ
  have HZX := Lib.hid hZ
  clear hZ
  have HT := Lib.hid hT
  have HF := Lib.hid hF
  clear hF
  have HEE := Lib.hid hE
  have HWK := Lib.hid hWk
  have HSZ := Lib.hid hSz
  have HVR := Lib.hid hVar
  have HX := Lib.hid hX
  have HR := Lib.hid hR
  have hb1 := nbx_of hE hw #[.int .i8 k, .int .i64 n, .string s, .string t, .slice A l.length cap]
  have HB1 := Lib.hid hb1
  have x0 : (w.alloc (.cells #[.int .i8 k, .int .i64 n, .string s, .string t, .slice A l.length cap] 25)).cell? ⟨w.heap.size, 0, none⟩ = some (.int .i8 k) := cell_of_row hb1.box rfl
  have x1 : (w.alloc (.cells #[.int .i8 k, .int .i64 n, .string s, .string t, .slice A l.length cap] 25)).cell? ⟨w.heap.size, 1, none⟩ = some (.int .i64 n) := cell_of_row hb1.box rfl
  have x2 : (w.alloc (.cells #[.int .i8 k, .int .i64 n, .string s, .string t, .slice A l.length cap] 25)).cell? ⟨w.heap.size, 2, none⟩ = some (.string s) := cell_of_row hb1.box rfl
  have x3 : (w.alloc (.cells #[.int .i8 k, .int .i64 n, .string s, .string t, .slice A l.length cap] 25)).cell? ⟨w.heap.size, 3, none⟩ = some (.string t) := cell_of_row hb1.box rfl
  have x4 : (w.alloc (.cells #[.int .i8 k, .int .i64 n, .string s, .string t, .slice A l.length cap] 25)).cell? ⟨w.heap.size, 4, none⟩ = some (.slice A l.length cap) := cell_of_row hb1.box rfl
  clear hX hT hR hE hWk hSz hVar hb1 hw
  go_enter Tryz.func5, Tryz.ntmps5
  go_wp2_with fail
  generalize w.alloc (.cells #[.int .i8 k, .int .i64 n, .string s, .string t, .slice A l.length cap] 25) = w1 at HB1 x0 x1 x2 x3 x4 ⊢
  refine (GreatN_any X _ w1 (HT.out.laterN HB1.out.below)).mono ?_
  rintro e w2 ⟨b, rfl, hb, bw2⟩
  have HB2 := Lib.hid (HB1.out.under HEE.out bw2)
  clear bw2 x0 x1 x2 x3 x4
  have x0 : w2.cell? ⟨w.heap.size, 0, none⟩ = some (.int .i8 k) := cell_of_row HB2.out.box rfl
  have x1 : w2.cell? ⟨w.heap.size, 1, none⟩ = some (.int .i64 n) := cell_of_row HB2.out.box rfl
  have x2 : w2.cell? ⟨w.heap.size, 2, none⟩ = some (.string s) := cell_of_row HB2.out.box rfl
  have x3 : w2.cell? ⟨w.heap.size, 3, none⟩ = some (.string t) := cell_of_row HB2.out.box rfl
  have x4 : w2.cell? ⟨w.heap.size, 4, none⟩ = some (.slice A l.length cap) := cell_of_row HB2.out.box rfl
  cases b with
  | true =>
    go_wp2_with fail
    refine (HWK.out w2 HB2.out.env).mono ?_
    rintro e w3 ⟨rfl, b3⟩
    go_wp2_with fail
    go_ret
    exact ⟨rfl, HB2.out.below.trans (b3.mono HB2.out.below.size)⟩
  | false =>
    have HN : Hid (X.nodes ≤ 8200) := by have := hb rfl; show _ ≤ _; omega
    clear hb
    go_wp2_with fail
    refine (HSZ.out X _ w2 (HT.out.laterN HB2.out.below) (fun _ => HF.out.keep HT.out (fun b hb => HB2.out.below.block b hb)) (by have := HN.out; omega) HB2.out.env).mono ?_
    rintro e w3 ⟨d, rfl, hd, hdb, b3⟩
    have HB3 := Lib.hid (HB2.out.under HEE.out b3)
    clear b3 x0 x1 x2 x3 x4
    obtain ⟨a, ha⟩ : ∃ a : Nat, a = min X.nodes 4097 := ⟨_, rfl⟩
    rw [← ha]
    have HA := Lib.hid ha
    have HD := Lib.hid hd
    have hab : a ≤ 4097 := by omega
    clear ha hd
    by_cases hbig : 4096 < (a : Int)
    · have hnf : ¬ fitsB X = true := fun h => by
        have h1 := of_decide_eq_true (h : decide _ = true)
        have h2 := HA.out
        have h3 := HD.out h1.1
        omega
      have HNF := Lib.hid (vars_none hnf)
      clear hnf
      have x0 : w3.cell? ⟨w.heap.size, 0, none⟩ = some (.int .i8 k) := cell_of_row HB3.out.box rfl
      have x1 : w3.cell? ⟨w.heap.size, 1, none⟩ = some (.int .i64 n) := cell_of_row HB3.out.box rfl
      have x2 : w3.cell? ⟨w.heap.size, 2, none⟩ = some (.string s) := cell_of_row HB3.out.box rfl
      have x3 : w3.cell? ⟨w.heap.size, 3, none⟩ = some (.string t) := cell_of_row HB3.out.box rfl
      have x4 : w3.cell? ⟨w.heap.size, 4, none⟩ = some (.slice A l.length cap) := cell_of_row HB3.out.box rfl
      go_wp2_with fail
      refine (HVR.out X _ w3 (HT.out.laterN HB3.out.below) HN.out HZX.out HB3.out.env).mono ?_
      rintro e w4 ⟨A4, cap4, rfl, -, b4⟩
      rw [HNF.out]
      have HB4 := Lib.hid (HB3.out.under HEE.out b4)
      clear b4 x0 x1 x2 x3 x4
      dsimp only [List.length_nil]
      go_wp2_with fail
      refine (HWK.out w4 HB4.out.env).mono ?_
      rintro e w5 ⟨rfl, b5⟩
      go_wp2_with fail
      go_ret
      exact ⟨rfl, HB4.out.below.trans (b5.mono HB4.out.below.size)⟩
    by_cases hdeep : 64 < (d : Int)
    · have hnf : ¬ fitsB X = true := fun h => by
        have h1 := of_decide_eq_true (h : decide _ = true)
        have h2 := HA.out
        have h3 := HD.out h1.1
        omega
      have HNF := Lib.hid (vars_none hnf)
      clear hnf
      have x0 : w3.cell? ⟨w.heap.size, 0, none⟩ = some (.int .i8 k) := cell_of_row HB3.out.box rfl
      have x1 : w3.cell? ⟨w.heap.size, 1, none⟩ = some (.int .i64 n) := cell_of_row HB3.out.box rfl
      have x2 : w3.cell? ⟨w.heap.size, 2, none⟩ = some (.string s) := cell_of_row HB3.out.box rfl
      have x3 : w3.cell? ⟨w.heap.size, 3, none⟩ = some (.string t) := cell_of_row HB3.out.box rfl
      have x4 : w3.cell? ⟨w.heap.size, 4, none⟩ = some (.slice A l.length cap) := cell_of_row HB3.out.box rfl
      go_wp2_with fail
      refine (HVR.out X _ w3 (HT.out.laterN HB3.out.below) HN.out HZX.out HB3.out.env).mono ?_
      rintro e w4 ⟨A4, cap4, rfl, -, b4⟩
      rw [HNF.out]
      have HB4 := Lib.hid (HB3.out.under HEE.out b4)
      clear b4 x0 x1 x2 x3 x4
      dsimp only [List.length_nil]
      go_wp2_with fail
      refine (HWK.out w4 HB4.out.env).mono ?_
      rintro e w5 ⟨rfl, b5⟩
      go_wp2_with fail
      go_ret
      exact ⟨rfl, HB4.out.below.trans (b5.mono HB4.out.below.size)⟩
    have hfit : fitsB X = true := decide_eq_true ⟨by have h1 := HA.out; omega, by have h1 := HD.out (by have h2 := HA.out; omega); omega⟩
    have ha2 : a = X.nodes := by have h1 := HA.out; omega
    have hd2 : d = X.deep := by have h1 := HD.out (by have h2 := HA.out; omega); omega
    have HFIT := Lib.hid hfit
    have HA2 := Lib.hid ha2
    have HD2 := Lib.hid hd2
    clear hfit ha2 hd2
    have x0 : w3.cell? ⟨w.heap.size, 0, none⟩ = some (.int .i8 k) := cell_of_row HB3.out.box rfl
    have x1 : w3.cell? ⟨w.heap.size, 1, none⟩ = some (.int .i64 n) := cell_of_row HB3.out.box rfl
    have x2 : w3.cell? ⟨w.heap.size, 2, none⟩ = some (.string s) := cell_of_row HB3.out.box rfl
    have x3 : w3.cell? ⟨w.heap.size, 3, none⟩ = some (.string t) := cell_of_row HB3.out.box rfl
    have x4 : w3.cell? ⟨w.heap.size, 4, none⟩ = some (.slice A l.length cap) := cell_of_row HB3.out.box rfl
    go_wp2_with fail
    refine (HVR.out X _ w3 (HT.out.laterN HB3.out.below) HN.out HZX.out HB3.out.env).mono ?_
    rintro e w4 ⟨A4, cap4, rfl, hsr, b4⟩
    obtain ⟨L, hL⟩ : ∃ L, L = varsL X := ⟨_, rfl⟩
    rw [← hL] at hsr ⊢
    have hLlen : L.length ≤ 8200 := by rw [hL]; exact Nat.le_trans (vars_len X) HN.out
    have HND := Lib.hid (show L.Nodup by rw [hL]; exact vars_nodup X)
    have HGD := Lib.hid (show ∀ b ∈ L, ¬ b.data.toList = [95] from fun b hb => by rw [hL] at hb; exact vars_good hb)
    have HB4 := Lib.hid (HB3.out.under HEE.out b4)
    have HSR := Lib.hid hsr
    have HLL := Lib.hid hL
    clear hsr b4 x0 x1 x2 x3 x4 hL
    have hmm := @run_makeMap Tryz.prog
    go_wp2_with fail
    have hm5 : (w4.alloc (.map #[] 0)).heap[w4.heap.size]? = some (.map #[] 0) := World.alloc_heap_new w4 _
    have b5 : Below w4.heap.size w4 (w4.alloc (.map #[] 0)) := (Below.refl _ _).alloc (Nat.le_refl _) _
    obtain ⟨m, hm⟩ : ∃ m, m = w4.heap.size := ⟨_, rfl⟩
    rw [← hm] at hm5 ⊢
    generalize w4.alloc (.map #[] 0) = w5 at hm5 b5 ⊢
    have HM := Lib.hid hm
    have HB5 := Lib.hid b5
    have HM5 := Lib.hid hm5
    clear hm hm5 b5
    go_loopw [43] (fun i wr => ∃ j : Nat, j ≤ L.length ∧ i = .int .i64 j ∧ Hid (wr.heap[m]? = some (.map (entsB (L.take j)) j)) ∧ Hid (Mod (fun k => k = m) w5 wr)) (fun i _ => L.length - (intOf i).toNat)
    case atStart => exact ⟨0, Nat.zero_le _, rfl, HM5.out, Mod.refl _ _⟩
    case round =>
      obtain ⟨j, hj, rfl, HMP, HMD⟩ := hrel
      by_cases hlt : j < L.length
      · obtain ⟨b, hb⟩ : ∃ b, L[j]? = some b := ⟨L[j], List.getElem?_eq_getElem hlt⟩
        obtain ⟨ad, hA, had, hcb⟩ := HSR.out j b hb
        have HA4 := Lib.hid hA
        subst hA
        have hblk : wr.heap[ad.block]? = w4.heap[ad.block]? := (HMD.out.block _ (Nat.lt_of_lt_of_le had HB5.out.size) (by have := HM.out; omega)).trans (HB5.out.block _ had)
        have hc9 : wr.cell? (ad.add j) = some (.string b) := (World.cell?_of_block (w := w4) (a := ad.add j) (by rw [add_block]; exact hblk)).trans hcb
        have hne : (b.toList == [95]) = false := by
          rw [Go.Lib.toList_data, beq_eq_false_iff_ne]
          exact HGD.out b (List.mem_of_getElem? hb)
        have hnot := nodup_take HND.out hb
        have hlk := look1_miss (P := Tryz.prog) Tryz.underlying37 Tryz.underlying9 wr m _ _ b (.bool false) HMP.out zero_bool7 (entsB_miss hnot)
        have hpt := run_put_new (P := Tryz.prog) Tryz.underlying37 Tryz.underlying9 wr m _ _ b (.bool true) HMP.out (entsB_miss hnot)
        have HB9 := Lib.hid hb
        clear hblk hcb hb hnot
        go_wp2_with fail
        go_roundw
        case rel =>
          have hst : L.take (j + 1) = L.take j ++ [b] := by rw [List.take_add_one, HB9.out]; rfl
          have hln : (L.take j).length = j := by rw [List.length_take]; omega
          refine ⟨j + 1, by omega, by go_num, ?_, HMD.out.trans (show Mod (fun k => k = m) wr _ from Mod.putObj _ _ _ rfl) (fun _ _ h => h)⟩
          show _ = _
          rw [hst, entsB_snoc, hln]
          exact World.putObj_heap_same (heap_lt HMP.out)
        case measure => simp [intOf]; omega
      · obtain rfl : j = L.length := by omega
        have hmp := HMP.out
        rw [List.take_length] at hmp
        have h6 : Below w4.heap.size w4 wr := HB5.out.trans (HMD.out.below HB5.out.size (fun k e => by have := HM.out; omega))
        obtain ⟨w6, hw6⟩ : ∃ w6, w6 = wr := ⟨_, rfl⟩
        subst hw6
        have HMP6 := Lib.hid hmp
        have HB6 := Lib.hid (HB4.out.under HEE.out h6)
        clear hmp h6 HMP HMD
        have x0 : w6.cell? ⟨w.heap.size, 0, none⟩ = some (.int .i8 k) := cell_of_row HB6.out.box rfl
        have x1 : w6.cell? ⟨w.heap.size, 1, none⟩ = some (.int .i64 n) := cell_of_row HB6.out.box rfl
        have x2 : w6.cell? ⟨w.heap.size, 2, none⟩ = some (.string s) := cell_of_row HB6.out.box rfl
        have x3 : w6.cell? ⟨w.heap.size, 3, none⟩ = some (.string t) := cell_of_row HB6.out.box rfl
        have x4 : w6.cell? ⟨w.heap.size, 4, none⟩ = some (.slice A l.length cap) := cell_of_row HB6.out.box rfl
        go_wp2_with fail
        clear x0 x1 x2 x3 x4
        go_loopw [5, 6, 60] (fun nv dv i wr => ∃ j q r : Nat, j ≤ l.length ∧ nv = .int .i64 q ∧ dv = .int .i64 r ∧ i = .int .i64 j ∧ Hid (q = 1 + (Tm.pres (l.take j)).length) ∧ Hid (r = Tm.deeps (l.take j) + 1) ∧ Hid (Below w6.heap.size w6 wr ∧ E wr)) (fun _ _ i _ => l.length - (intOf i).toNat)
        case atStart => exact ⟨0, 1, 1, Nat.zero_le _, rfl, rfl, rfl, by show _ = _; simp [Tm.pres], by show _ = _; simp [Tm.deeps], Below.refl _ _, HB6.out.env⟩
        case round =>
          obtain ⟨j2, q, r, hj2, rfl, rfl, rfl, HQ, HRR, HS⟩ := hrel
          obtain ⟨wq, hwq⟩ : ∃ wq, wq = wr := ⟨_, rfl⟩
          subst hwq
          have HBW : Hid (Below w.heap.size w wq) := HB6.out.below.trans (HS.out.1.mono HB6.out.below.size)
          have hnX : X.nodes ≤ 4096 := by have h1 := of_decide_eq_true (HFIT.out : decide _ = true); exact h1.1
          have hdX : X.deep ≤ 64 := by have h1 := of_decide_eq_true (HFIT.out : decide _ = true); exact h1.2
          have hq1 : q ≤ 4096 := by
            have h1 := HQ.out
            have h2 : (Tm.pres (l.take j2)).length ≤ (Tm.pres l).length := by
              rw [show Tm.pres l = Tm.pres (l.take j2) ++ Tm.pres (l.drop j2) by rw [← Tm.pres_append, List.take_append_drop]]
              simp
            rw [HX.out, Tm.nodes_mk] at hnX
            omega
          have hr1 : r ≤ 64 := by
            have h1 := HRR.out
            have h2 := deeps_le (l := l) j2
            rw [HX.out, Tm.deep] at hdX
            omega
          clear hnX hdX
          by_cases hlt : j2 < l.length
          · obtain ⟨y, hy⟩ : ∃ y, l[j2]? = some y := ⟨l[j2], List.getElem?_eq_getElem hlt⟩
            obtain ⟨ad, u, hA, had, hEl, hTy⟩ := HR.out.at_ j2 y hy
            subst hA
            have hmem := List.mem_of_getElem? hy
            obtain ⟨c0, c1, c2, c3, c4, rfl, e0, e1, e2, e3, e4⟩ := hEl.keep (HBW.out.block ad.block had)
            have hfy : fitsB y = true := fits_mem (by have := HFIT.out; rwa [HX.out] at this) hmem
            have hyn : y.nodes ≤ 4096 ∧ y.deep ≤ 64 := of_decide_eq_true (hfy : decide _ = true)
            have hn2 := nodes_take hy
            have hd2 := deeps_take hy
            have hvp : ∀ b ∈ varsL y, b ∈ L := fun b hb => by
              rw [HLL.out, HX.out]
              exact vars_part (by have := HFIT.out; rwa [HX.out] at this) hmem hb
            obtain ⟨Yt, hYt⟩ : ∃ Yt, Yt = y := ⟨_, rfl⟩
            have hzy : Szd y := by
              have h1 := HZX.out
              rw [HX.out] at h1
              exact szd_part h1 hmem
            rw [← hYt] at hn2 hd2 hvp hyn hzy
            have HZY := Lib.hid hzy
            clear hzy
            have HTY := Lib.hid (hYt ▸ hTy : TmAt (· < w.heap.size) w Yt _)
            obtain ⟨ky, ny, sy, ty, ly⟩ := y
            obtain ⟨Ay, capy, huy, hRy, hky, hny, hsy, hty⟩ := hTy.parts
            simp only [Value.agg.injEq, Array.mk.injEq, List.cons.injEq, and_true] at huy
            obtain ⟨rfl, rfl, rfl, rfl, rfl⟩ := huy
            have bz0 : (wq.alloc (.cells #[.int .i8 0, .int .i64 0, .string ⟨#[]⟩, .string ⟨#[]⟩, .slice none 0 0] 25)).cell? ⟨wq.heap.size, 0, none⟩ = some (.int .i8 0) := cell_of_row (block_alloc _ _) rfl
            have bf0 : (wq.alloc (.cells #[.int .i8 0, .int .i64 0, .string ⟨#[]⟩, .string ⟨#[]⟩, .slice none 0 0] 25)).frozen? ⟨wq.heap.size, 0, none⟩ = false := free_of_row (block_alloc _ _)
            have bz1 : (wq.alloc (.cells #[.int .i8 0, .int .i64 0, .string ⟨#[]⟩, .string ⟨#[]⟩, .slice none 0 0] 25)).cell? ⟨wq.heap.size, 1, none⟩ = some (.int .i64 0) := cell_of_row (block_alloc _ _) rfl
            have bf1 : (wq.alloc (.cells #[.int .i8 0, .int .i64 0, .string ⟨#[]⟩, .string ⟨#[]⟩, .slice none 0 0] 25)).frozen? ⟨wq.heap.size, 1, none⟩ = false := free_of_row (block_alloc _ _)
            have bz2 : (wq.alloc (.cells #[.int .i8 0, .int .i64 0, .string ⟨#[]⟩, .string ⟨#[]⟩, .slice none 0 0] 25)).cell? ⟨wq.heap.size, 2, none⟩ = some (.string ⟨#[]⟩) := cell_of_row (block_alloc _ _) rfl
            have bf2 : (wq.alloc (.cells #[.int .i8 0, .int .i64 0, .string ⟨#[]⟩, .string ⟨#[]⟩, .slice none 0 0] 25)).frozen? ⟨wq.heap.size, 2, none⟩ = false := free_of_row (block_alloc _ _)
            have bz3 : (wq.alloc (.cells #[.int .i8 0, .int .i64 0, .string ⟨#[]⟩, .string ⟨#[]⟩, .slice none 0 0] 25)).cell? ⟨wq.heap.size, 3, none⟩ = some (.string ⟨#[]⟩) := cell_of_row (block_alloc _ _) rfl
            have bf3 : (wq.alloc (.cells #[.int .i8 0, .int .i64 0, .string ⟨#[]⟩, .string ⟨#[]⟩, .slice none 0 0] 25)).frozen? ⟨wq.heap.size, 3, none⟩ = false := free_of_row (block_alloc _ _)
            have bz4 : (wq.alloc (.cells #[.int .i8 0, .int .i64 0, .string ⟨#[]⟩, .string ⟨#[]⟩, .slice none 0 0] 25)).cell? ⟨wq.heap.size, 4, none⟩ = some (.slice none 0 0) := cell_of_row (block_alloc _ _) rfl
            have bf4 : (wq.alloc (.cells #[.int .i8 0, .int .i64 0, .string ⟨#[]⟩, .string ⟨#[]⟩, .slice none 0 0] 25)).frozen? ⟨wq.heap.size, 4, none⟩ = false := free_of_row (block_alloc _ _)
            have bv0 : (wq.alloc (.cells #[.int .i8 ky, .int .i64 ny, .string sy, .string ty, .slice Ay ly.length capy] 25)).cell? ⟨wq.heap.size, 0, none⟩ = some (.int .i8 ky) := cell_of_row (block_alloc _ _) rfl
            have bv1 : (wq.alloc (.cells #[.int .i8 ky, .int .i64 ny, .string sy, .string ty, .slice Ay ly.length capy] 25)).cell? ⟨wq.heap.size, 1, none⟩ = some (.int .i64 ny) := cell_of_row (block_alloc _ _) rfl
            have bv2 : (wq.alloc (.cells #[.int .i8 ky, .int .i64 ny, .string sy, .string ty, .slice Ay ly.length capy] 25)).cell? ⟨wq.heap.size, 2, none⟩ = some (.string sy) := cell_of_row (block_alloc _ _) rfl
            have bv3 : (wq.alloc (.cells #[.int .i8 ky, .int .i64 ny, .string sy, .string ty, .slice Ay ly.length capy] 25)).cell? ⟨wq.heap.size, 3, none⟩ = some (.string ty) := cell_of_row (block_alloc _ _) rfl
            have bv4 : (wq.alloc (.cells #[.int .i8 ky, .int .i64 ny, .string sy, .string ty, .slice Ay ly.length capy] 25)).cell? ⟨wq.heap.size, 4, none⟩ = some (.slice Ay ly.length capy) := cell_of_row (block_alloc _ _) rfl
            have HY2 := Lib.hid (And.intro hn2 (And.intro hd2 hvp))
            have HB0 := Lib.hid ((Below.refl wq.heap.size wq).alloc (Nat.le_refl _) (.cells #[.int .i8 ky, .int .i64 ny, .string sy, .string ty, .slice Ay ly.length capy] 25))
            have HGY := Lib.hid (block_alloc wq (.cells #[.int .i8 ky, .int .i64 ny, .string sy, .string ty, .slice Ay ly.length capy] 25))
            clear hEl hTy hRy hYt hn2 hd2 hvp hfy hy hmem
            go_wp2_with fail
            generalize (wq.alloc (.cells #[.int .i8 ky, .int .i64 ny, .string sy, .string ty, .slice Ay ly.length capy] 25)) = wk at HB0 HGY ⊢
            clear e0 e1 e2 e3 e4
            clear bz0 bf0 bv0 bz1 bf1 bv1 bz2 bf2 bv2 bz3 bf3 bv3 bz4 bf4 bv4
            refine (HSZ.out Yt _ wk (HTY.out.laterN (HBW.out.trans (HB0.out.mono HBW.out.size))) (fun h => absurd h (by omega)) (by omega) (HEE.out _ _ HS.out.2 HB0.out)).mono ?_
            rintro e wl ⟨d9, rfl, hd9, -, bl⟩
            obtain rfl := hd9 (by omega)
            rw [Nat.min_eq_left (by omega : Yt.nodes ≤ 4097), Nat.min_eq_left (by omega : Yt.deep ≤ 65)]
            obtain ⟨ny2, hny2⟩ : ∃ z, z = Yt.nodes := ⟨_, rfl⟩
            obtain ⟨dy2, hdy2⟩ : ∃ z, z = Yt.deep := ⟨_, rfl⟩
            have hvl := Nat.le_trans (vars_len Yt) hyn.1
            rw [← hny2, ← hdy2] at hyn ⊢
            have HND2 := Lib.hid (And.intro hny2 hdy2)
            clear hny2 hdy2
            have HGL := Lib.hid ((bl.block _ (heap_lt HGY.out)).trans HGY.out)
            have HBL := Lib.hid (HB0.out.trans (bl.mono HB0.out.size))
            clear bl
            have g0 : wl.cell? ⟨wq.heap.size, 0, none⟩ = some (.int .i8 ky) := cell_of_row HGL.out rfl
            have g1 : wl.cell? ⟨wq.heap.size, 1, none⟩ = some (.int .i64 ny) := cell_of_row HGL.out rfl
            have g2 : wl.cell? ⟨wq.heap.size, 2, none⟩ = some (.string sy) := cell_of_row HGL.out rfl
            have g3 : wl.cell? ⟨wq.heap.size, 3, none⟩ = some (.string ty) := cell_of_row HGL.out rfl
            have g4 : wl.cell? ⟨wq.heap.size, 4, none⟩ = some (.slice Ay ly.length capy) := cell_of_row HGL.out rfl
            by_cases hmx : r < dy2 + 1
            · have hmx2 : (r : Int) < (dy2 : Int) + 1 := by omega
              go_wp2_with fail
              refine (HVR.out Yt _ wl (HTY.out.laterN (HBW.out.trans (HBL.out.mono HBW.out.size))) (by have := HND2.out.1; omega) HZY.out (HEE.out _ _ HS.out.2 HBL.out)).mono ?_
              rintro e w9 ⟨A9, cap9, rfl, hs9, b9⟩
              obtain ⟨L9, hL9⟩ : ∃ L9, L9 = varsL Yt := ⟨_, rfl⟩
              rw [← hL9] at hs9 hvl ⊢
              have HS9 := Lib.hid hs9
              have HL9 := Lib.hid hL9
              have HB9 := Lib.hid (HBL.out.trans (b9.mono HBL.out.size))
              clear hs9 hL9 b9 g0 g1 g2 g3 g4
              go_wp2_with fail
              go_loopw [79] (fun i wr => ∃ j : Nat, j ≤ L9.length ∧ i = .int .i64 j ∧ wr = w9) (fun i _ => L9.length - (intOf i).toNat)
              case atStart => exact ⟨0, Nat.zero_le _, rfl, rfl⟩
              case round =>
                obtain ⟨j4, hj4, rfl, hw9⟩ := hrel
                subst wr
                by_cases hlt4 : j4 < L9.length
                · obtain ⟨b, hb⟩ : ∃ b, L9[j4]? = some b := ⟨L9[j4], List.getElem?_eq_getElem hlt4⟩
                  obtain ⟨ad9, hA9, had9, hcb⟩ := HS9.out j4 b hb
                  subst hA9
                  have hbl : b ∈ L := HY2.out.2.2 b (by rw [← HL9.out]; exact List.mem_of_getElem? hb)
                  obtain ⟨jj, hjj⟩ := entsB_hit hbl
                  have hmp9 : w9.heap[m]? = some (.map (entsB L) L.length) := (HB9.out.block _ (Nat.lt_of_lt_of_le (heap_lt HMP6.out) HS.out.1.size)).trans ((HS.out.1.block _ (heap_lt HMP6.out)).trans HMP6.out)
                  have hlk := look1_hit (P := Tryz.prog) Tryz.underlying37 Tryz.underlying9 w9 m _ _ b jj (.bool true) hmp9 hjj
                  clear hb hbl hjj hmp9
                  go_wp2_with fail
                  go_roundw
                  case rel => exact ⟨j4 + 1, by omega, by go_num, trivial⟩
                  case measure => simp [intOf]; omega
                · obtain rfl : j4 = L9.length := by omega
                  go_wp2_with fail
                  go_roundw
                  case rel => exact ⟨j2 + 1, q + ny2, dy2 + 1, by omega, by go_num, by go_num, by go_num, by show _ = _; have h1 := HQ.out; have h2 := HY2.out.1; have h3 := HND2.out.1; omega, by show _ = _; have h1 := HRR.out; have h2 := HY2.out.2.1; have h3 := HND2.out.2; omega, HS.out.1.trans (HB9.out.mono HS.out.1.size), HEE.out _ _ HS.out.2 HB9.out⟩
                  case measure => simp [intOf]; omega
            · have hmx2 : ¬ (r : Int) < (dy2 : Int) + 1 := by omega
              go_wp2_with fail
              refine (HVR.out Yt _ wl (HTY.out.laterN (HBW.out.trans (HBL.out.mono HBW.out.size))) (by have := HND2.out.1; omega) HZY.out (HEE.out _ _ HS.out.2 HBL.out)).mono ?_
              rintro e w9 ⟨A9, cap9, rfl, hs9, b9⟩
              obtain ⟨L9, hL9⟩ : ∃ L9, L9 = varsL Yt := ⟨_, rfl⟩
              rw [← hL9] at hs9 hvl ⊢
              have HS9 := Lib.hid hs9
              have HL9 := Lib.hid hL9
              have HB9 := Lib.hid (HBL.out.trans (b9.mono HBL.out.size))
              clear hs9 hL9 b9 g0 g1 g2 g3 g4
              go_wp2_with fail
              go_loopw [79] (fun i wr => ∃ j : Nat, j ≤ L9.length ∧ i = .int .i64 j ∧ wr = w9) (fun i _ => L9.length - (intOf i).toNat)
              case atStart => exact ⟨0, Nat.zero_le _, rfl, rfl⟩
              case round =>
                obtain ⟨j4, hj4, rfl, hw9⟩ := hrel
                subst wr
                by_cases hlt4 : j4 < L9.length
                · obtain ⟨b, hb⟩ : ∃ b, L9[j4]? = some b := ⟨L9[j4], List.getElem?_eq_getElem hlt4⟩
                  obtain ⟨ad9, hA9, had9, hcb⟩ := HS9.out j4 b hb
                  subst hA9
                  have hbl : b ∈ L := HY2.out.2.2 b (by rw [← HL9.out]; exact List.mem_of_getElem? hb)
                  obtain ⟨jj, hjj⟩ := entsB_hit hbl
                  have hmp9 : w9.heap[m]? = some (.map (entsB L) L.length) := (HB9.out.block _ (Nat.lt_of_lt_of_le (heap_lt HMP6.out) HS.out.1.size)).trans ((HS.out.1.block _ (heap_lt HMP6.out)).trans HMP6.out)
                  have hlk := look1_hit (P := Tryz.prog) Tryz.underlying37 Tryz.underlying9 w9 m _ _ b jj (.bool true) hmp9 hjj
                  clear hb hbl hjj hmp9
                  go_wp2_with fail
                  go_roundw
                  case rel => exact ⟨j4 + 1, by omega, by go_num, trivial⟩
                  case measure => simp [intOf]; omega
                · obtain rfl : j4 = L9.length := by omega
                  go_wp2_with fail
                  go_roundw
                  case rel => exact ⟨j2 + 1, q + ny2, r, by omega, by go_num, by go_num, by go_num, by show _ = _; have h1 := HQ.out; have h2 := HY2.out.1; have h3 := HND2.out.1; omega, by show _ = _; have h1 := HRR.out; have h2 := HY2.out.2.1; have h3 := HND2.out.2; omega, HS.out.1.trans (HB9.out.mono HS.out.1.size), HEE.out _ _ HS.out.2 HB9.out⟩
                  case measure => simp [intOf]; omega
          · obtain rfl : j2 = l.length := by omega
            have hq2 : q = a := by
              have h1 := HQ.out
              rw [List.take_length] at h1
              rw [HA2.out, HX.out, Tm.nodes_mk]
              omega
            have hr2 : r = d := by
              have h1 := HRR.out
              rw [List.take_length] at h1
              rw [HD2.out, HX.out, Tm.deep]
              exact h1
            subst hq2
            subst hr2
            go_wp2_with fail
            refine (HWK.out wq HS.out.2).mono ?_
            rintro e wz ⟨rfl, bz⟩
            go_wp2_with fail
            go_ret
            exact ⟨rfl, HBW.out.trans (bz.mono HBW.out.size)⟩
end Go.Proofs.YtcallgoglnkkiaaGreatDoor
