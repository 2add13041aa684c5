/- Layer 11: a variable's value under a row of binds (GuardFirst, plain). -/
import Derived.Test.YtkceoiaaiaomoaaGreatDoorKGd22
import Derived.Test.YtkceoiaaiaomoaaGreatDoorKAppRow
import Derived.Test.YtkceoiaaiaomoaaGreatDoorKBnd
import Derived.Test.YtkceoiaaiaomoaaGreatDoorKOkPure
import Derived.Test.YtkceoiaaiaomoaaGreatDoorKRef03M
import Derived.StillTailTactics
import Derived.Deep.QuietTactic
import Derived.BigQuiet
import Derived.LoopTactic
import Derived.LoopNIn
import Derived.Lib.Hide
import Derived.Laws.AppendOwn
import Derived.OwnWalk
import Derived.Maps.AppendAt
section
set_option linter.unusedVariables false
set_option linter.unusedSimpArgs false
namespace Go.Proofs.YtkceoiaaiaomoaaGreatDoor
open Go.RowKit
set_option maxHeartbeats 4000000 in
set_option maxRecDepth 100000 in
theorem rTest11_any (l : List Bd) (x : Tm) (v : Value) (A : Option Addr) (m cap : Nat) (W : World) (hT : TmAt (· < W.heap.size) W x v) (hR : BRow (· < W.heap.size) W A m cap l) (hN : x.nodes ≤ 8200) :
    Calls Tryz.prog 48 #[v, .slice A m cap] W fun e w' => e = .returned (.bool (testR l x)) ∧ Below W.heap.size W w' := by
  obtain ⟨k, n, s, t, NA, nm, nc, rfl⟩ : ∃ k n s t A m c, v = .agg #[.int .i8 k, .int .i64 n, .string s, .string t, .slice A m c] := by cases hT; exact ⟨_, _, _, _, _, _, _, rfl⟩
  obtain ⟨w1, hw1⟩ : ∃ w1, w1 = W.alloc (.cells #[.int .i8 k, .int .i64 n, .string s, .string t, .slice NA nm nc] 25) := ⟨_, rfl⟩
  have b1 : Below W.heap.size W w1 := by rw [hw1]; exact (Below.refl _ W).alloc (Nat.le_refl _) _
  have HG : Hid (w1.heap[W.heap.size]? = some (.cells #[.int .i8 k, .int .i64 n, .string s, .string t, .slice NA nm nc] 25 (0, 0))) := Lib.hid (by rw [hw1]; exact block_alloc _ _)
  have HT : Hid (∀ V, Below W.heap.size W V → TmAt (· < V.heap.size) V x (.agg #[.int .i8 k, .int .i64 n, .string s, .string t, .slice NA nm nc])) := fun V hb => hT.laterN hb
  have HR : Hid (∀ V, Below W.heap.size W V → BRow (· < V.heap.size) V A m cap l) := fun V hb => hR.later hb
  have HB := Lib.hid b1
  have HN : Hid (x.nodes ≤ 8200) := hN
  have gx := HG.out
  obtain ⟨x0, x1, x2, x3, x4⟩ := five_of gx
  clear gx hT b1 hR hN
  go_enter Tryz.func48, Tryz.ntmps48
  go_upto_region 1 with fail
  rw [← hw1]
  clear hw1
  go_wp2_with fail
  refine (rTest7_any x _ w1 (HT.out w1 HB.out)).mono ?_
  rintro e w2 ⟨rfl, b2⟩
  have HB2 := Lib.hid (HB.out.trans (b2.mono HB.out.size))
  have HG2 := Lib.hid ((b2.block _ (heap_lt HG.out)).trans HG.out)
  clear b2 x0 x1 x2 x3 x4
  have gx := HG2.out
  obtain ⟨x0, x1, x2, x3, x4⟩ := five_of gx
  clear gx
  cases hf : (fitsB x && testB x) with
  | false =>
    have HF : Hid (testR l x = false) := by show _ = _; unfold testR; rw [hf]; rfl
    clear hf
    go_wp2_with fail
    go_ret
    exact ⟨ret_bool HF.out.symm, HB2.out⟩
  | true =>
    have HF : Hid (testR l x = (mayL l && tstT l x)) := by show _ = _; unfold testR; rw [hf]; rfl
    have HTB : Hid (testB x = true) := by simp only [Bool.and_eq_true] at hf; exact hf.2
    clear hf
    go_wp2_with fail
    refine (rmay_any l A m cap w2 (HR.out w2 HB2.out)).mono ?_
    rintro e w3 ⟨rfl, b3⟩
    have HB3 := Lib.hid (HB2.out.trans (b3.mono HB2.out.size))
    have HG3 := Lib.hid ((b3.block _ (heap_lt HG2.out)).trans HG2.out)
    clear b3 x0 x1 x2 x3 x4
    have gx := HG3.out
    obtain ⟨x0, x1, x2, x3, x4⟩ := five_of gx
    clear gx
    cases hm : mayL l with
    | false =>
      have HF2 : Hid (testR l x = false) := by show _ = _; rw [HF.out, hm]; rfl
      clear hm
      go_wp2_with fail
      go_ret
      exact ⟨ret_bool HF2.out.symm, HB3.out⟩
    | true =>
      have HF2 : Hid (testR l x = tstT l x) := by show _ = _; rw [HF.out, hm]; rfl
      have HC := Lib.hid (rtst_any w3.heap.size w3.heap.size l hm x HTB.out (by have := HN.out; omega) _ A m cap w3 (HR.out w3 HB3.out).brt (Nat.le_refl _) (HT.out w3 HB3.out))
      clear hm
      go_wp2_with fail
      refine HC.out.mono ?_
      rintro e w4 ⟨rfl, b4⟩
      have HB4 := Lib.hid (HB3.out.trans (b4.mono HB3.out.size))
      clear b4
      go_wp2_with fail
      go_ret
      exact ⟨ret_bool HF2.out.symm, HB4.out⟩
set_option maxHeartbeats 4000000 in
set_option maxRecDepth 100000 in
theorem rHolds_any (l : List Bd) (x : Tm) (v : Value) (A : Option Addr) (m cap : Nat) (W : World) (hT : TmAt (· < W.heap.size) W x v) (hR : BRow (· < W.heap.size) W A m cap l) (hN : x.nodes ≤ 8200) :
    Calls Tryz.prog 50 #[v, .slice A m cap] W fun e w' => e = .returned (.bool (holdR l x)) ∧ Below W.heap.size W w' := by
  obtain ⟨k, n, s, t, ps, NA, nc, hx, rfl⟩ : ∃ k n s t ps A c, x = Tm.mk k n s t ps ∧ v = .agg #[.int .i8 k, .int .i64 n, .string s, .string t, .slice A ps.length c] := by cases hT; exact ⟨_, _, _, _, _, _, _, rfl, rfl⟩
  have HX := Lib.hid hx
  have HRN : Hid (TRow (· < W.heap.size) W NA ps.length nc ps) := by
    rw [hx] at hT
    obtain ⟨A', c', he, hr, -⟩ := hT.parts
    simp only [Value.agg.injEq, Array.mk.injEq, List.cons.injEq, and_true, Value.slice.injEq, true_and] at he
    obtain ⟨rfl, rfl⟩ := he
    exact hr
  clear hx
  obtain ⟨w1, hw1⟩ : ∃ w1, w1 = W.alloc (.cells #[.int .i8 k, .int .i64 n, .string s, .string t, .slice NA ps.length nc] 25) := ⟨_, rfl⟩
  have b1 : Below W.heap.size W w1 := by rw [hw1]; exact (Below.refl _ W).alloc (Nat.le_refl _) _
  have HG : Hid (w1.heap[W.heap.size]? = some (.cells #[.int .i8 k, .int .i64 n, .string s, .string t, .slice NA ps.length nc] 25 (0, 0))) := Lib.hid (by rw [hw1]; exact block_alloc _ _)
  have HT : Hid (∀ V, Below W.heap.size W V → TmAt (· < V.heap.size) V x (.agg #[.int .i8 k, .int .i64 n, .string s, .string t, .slice NA ps.length nc])) := fun V hb => hT.laterN hb
  have HR : Hid (∀ V, Below W.heap.size W V → BRow (· < V.heap.size) V A m cap l) := fun V hb => hR.later hb
  have HB := Lib.hid b1
  have HN : Hid (x.nodes ≤ 8200) := hN
  have gx := HG.out
  obtain ⟨x0, x1, x2, x3, x4⟩ := five_of gx
  clear gx hT b1 hR hN
  go_enter Tryz.func50, Tryz.ntmps50
  go_upto_region 1 with fail
  rw [← hw1]
  clear hw1
  have hpl : ps.length ≤ 9223372036854775807 := by have := HRN.out.max; unfold maxLen at this; omega
  go_wp2_with fail
  refine (rGuard_any x _ w1 (HT.out w1 HB.out)).mono ?_
  rintro e w2 ⟨rfl, b2⟩
  have HB2 := Lib.hid (HB.out.trans (b2.mono HB.out.size))
  have HG2 := Lib.hid ((b2.block _ (heap_lt HG.out)).trans HG.out)
  clear b2 x0 x1 x2 x3 x4
  have gx := HG2.out
  obtain ⟨x0, x1, x2, x3, x4⟩ := five_of gx
  clear gx
  cases hf : (fitsB x && guardB x) with
  | false =>
    have HF : Hid (holdR l x = false) := by show _ = _; unfold holdR; rw [hf]; rfl
    clear hf
    go_wp2_with fail
    go_ret
    exact ⟨ret_bool HF.out.symm, HB2.out⟩
  | true =>
    have HF : Hid (holdR l x = (mayL l && ps.all (tstT l))) := by show _ = _; unfold holdR; rw [hf, HX.out]; rfl
    have HTB : Hid (∀ y ∈ ps, testB y = true) := by
      show ∀ y ∈ ps, testB y = true
      simp only [Bool.and_eq_true] at hf
      have := guard_tests11 hf.2
      rw [HX.out] at this
      exact this
    clear hf
    go_wp2_with fail
    refine (rmay_any l A m cap w2 (HR.out w2 HB2.out)).mono ?_
    rintro e w3 ⟨rfl, b3⟩
    have HB3 := Lib.hid (HB2.out.trans (b3.mono HB2.out.size))
    have HG3 := Lib.hid ((b3.block _ (heap_lt HG2.out)).trans HG2.out)
    clear b3 x0 x1 x2 x3 x4
    have gx := HG3.out
    obtain ⟨x0, x1, x2, x3, x4⟩ := five_of gx
    clear gx
    cases hm : mayL l with
    | false =>
      have HF2 : Hid (holdR l x = false) := by show _ = _; rw [HF.out, hm]; rfl
      clear hm
      go_wp2_with fail
      go_ret
      exact ⟨ret_bool HF2.out.symm, HB3.out⟩
    | true =>
      have HF2 : Hid (holdR l x = ps.all (tstT l)) := by show _ = _; rw [HF.out, hm]; rfl
      have HM := Lib.hid hm
      clear hm
      go_wp2_with fail
      clear x0 x1 x2 x3 x4
      go_loopw [5] (fun i wr => ∃ j : Nat, j ≤ ps.length ∧ i = .int .i64 j ∧ Hid (holdR l x = (ps.drop j).all (tstT l)) ∧ Hid (Below W.heap.size W wr) ∧ Hid (wr.heap[W.heap.size]? = some (.cells #[.int .i8 k, .int .i64 n, .string s, .string t, .slice NA ps.length nc] 25 (0, 0)))) (fun i _ => ps.length - (intOf i).toNat)
      case atStart => exact ⟨0, Nat.zero_le _, rfl, Lib.hid HF2.out, HB3, HG3⟩
      case round =>
        obtain ⟨j, hj, rfl, HV, HBR, HGR⟩ := hrel
        have gx := HGR.out
        obtain ⟨x0, x1, x2, x3, x4⟩ := five_of gx
        clear gx
        by_cases hlt : j < ps.length
        · obtain ⟨y, hy⟩ : ∃ y, ps[j]? = some y := ⟨ps[j], List.getElem?_eq_getElem hlt⟩
          obtain ⟨ad, u, hA, had, hE, hTy⟩ := HRN.out.at_ j y hy
          subst hA
          have hEr := hE.keep (HBR.out.block ad.block had)
          have hTr := hTy.laterN HBR.out
          have HD : Hid (holdR l x = (tstT l y && (ps.drop (j + 1)).all (tstT l))) := Lib.hid (by
            rw [HV.out, List.drop_eq_getElem_cons hlt]
            rw [List.getElem?_eq_getElem hlt] at hy
            rw [Option.some.inj hy]
            rfl)
          have hyn : y.nodes ≤ 100000 := by
            have h1 := Tm.nodes_mem (List.mem_of_getElem? hy)
            have h2 := HN.out
            rw [HX.out, Tm.nodes_mk] at h2
            omega
          have HC := Lib.hid (rtst_any wr.heap.size wr.heap.size l HM.out y (HTB.out y (List.mem_of_getElem? hy)) hyn _ A m cap wr (HR.out wr HBR.out).brt (Nat.le_refl _) hTr)
          obtain ⟨qk, qn, qs, qt, qA, qm, qc, rfl⟩ : ∃ k' n' s' t' A' m' c', u = .agg #[.int .i8 k', .int .i64 n', .string s', .string t', .slice A' m' c'] := by
            cases hTy; exact ⟨_, _, _, _, _, _, _, rfl⟩
          obtain ⟨c0, c1, c2, c3, c4, hcc, e0, e1, e2, e3, e4⟩ := hEr
          simp only [Value.agg.injEq, Array.mk.injEq, List.cons.injEq, and_true] at hcc
          obtain ⟨rfl, rfl, rfl, rfl, rfl⟩ := hcc
          clear hy hE hTy hTr had hyn
          go_wp2_with fail
          refine HC.out.mono ?_
          rintro e w4 ⟨rfl, b4⟩
          have HB4 := Lib.hid (HBR.out.trans (b4.mono HBR.out.size))
          have HG4 := Lib.hid ((b4.block _ (heap_lt HGR.out)).trans HGR.out)
          clear b4 e0 e1 e2 e3 e4 x0 x1 x2 x3 x4
          cases ht : tstT l y with
          | false =>
            have HF3 : Hid (holdR l x = false) := by show _ = _; rw [HD.out, ht]; rfl
            clear ht
            go_wp2_with fail
            go_ret
            exact ⟨ret_bool HF3.out.symm, HB4.out⟩
          | true =>
            have HF3 : Hid (holdR l x = (ps.drop (j + 1)).all (tstT l)) := by show _ = _; rw [HD.out, ht]; rfl
            clear ht
            go_wp2_with fail
            go_roundw
            case rel => exact ⟨j + 1, by omega, by go_num, HF3, HB4, HG4⟩
            case measure => simp [intOf]; omega
        · obtain rfl : j = ps.length := by omega
          have HF3 : Hid (holdR l x = true) := by show _ = _; rw [HV.out, List.drop_length]; rfl
          go_wp2_with fail
          go_ret
          exact ⟨ret_bool HF3.out.symm, HBR.out⟩
set_option maxHeartbeats 4000000 in
set_option maxRecDepth 100000 in
theorem rValue_any (l : List Bd) (x : Tm) (v : Value) (A : Option Addr) (m cap : Nat) (W : World) (hT : TmAt (· < W.heap.size) W x v) (hR : BRow (· < W.heap.size) W A m cap l) (hN : x.nodes ≤ 8200) :
    Calls Tryz.prog 44 #[v, .slice A m cap] W fun e w' => ∃ k9 n9 s9 t9 A9 m9 c9, e = .returned (.tuple #[.agg #[.int .i8 k9, .int .i64 n9, .string s9, .string t9, .slice A9 m9 c9], .int .i64 (valE l x)]) ∧ TmAt (· < w'.heap.size) w' (valV l x) (.agg #[.int .i8 k9, .int .i64 n9, .string s9, .string t9, .slice A9 m9 c9]) ∧ Below W.heap.size W w' := by
  obtain ⟨k, n, s, t, NA, nm, nc, rfl⟩ : ∃ k n s t A m c, v = .agg #[.int .i8 k, .int .i64 n, .string s, .string t, .slice A m c] := by cases hT; exact ⟨_, _, _, _, _, _, _, rfl⟩
  have g0 := there_of (.cells #[.int .i8 0, .int .i64 0, .string ⟨#[]⟩, .string ⟨#[]⟩, .slice none 0 0] 44) (block_alloc W (.cells #[.int .i8 k, .int .i64 n, .string s, .string t, .slice NA nm nc] 25))
  have g1 := block_alloc (W.alloc (.cells #[.int .i8 k, .int .i64 n, .string s, .string t, .slice NA nm nc] 25)) (.cells #[.int .i8 0, .int .i64 0, .string ⟨#[]⟩, .string ⟨#[]⟩, .slice none 0 0] 44)
  rw [World.size_alloc] at g1
  have b2 : Below W.heap.size W ((W.alloc (.cells #[.int .i8 k, .int .i64 n, .string s, .string t, .slice NA nm nc] 25)).alloc (.cells #[.int .i8 0, .int .i64 0, .string ⟨#[]⟩, .string ⟨#[]⟩, .slice none 0 0] 44)) := ((Below.refl _ W).alloc (Nat.le_refl _) _).alloc (by simp) _
  have z2 : ((W.alloc (.cells #[.int .i8 k, .int .i64 n, .string s, .string t, .slice NA nm nc] 25)).alloc (.cells #[.int .i8 0, .int .i64 0, .string ⟨#[]⟩, .string ⟨#[]⟩, .slice none 0 0] 44)).heap.size = W.heap.size + 2 := by rw [World.size_alloc, World.size_alloc]
  obtain ⟨w1, hw1⟩ : ∃ w1, w1 = (W.alloc (.cells #[.int .i8 k, .int .i64 n, .string s, .string t, .slice NA nm nc] 25)).alloc (.cells #[.int .i8 0, .int .i64 0, .string ⟨#[]⟩, .string ⟨#[]⟩, .slice none 0 0] 44) := ⟨_, rfl⟩
  rw [← hw1] at g0 g1 b2 z2
  have HB := Lib.hid b2
  have HG := Lib.hid g0
  have HQ := Lib.hid g1
  have HZ := Lib.hid z2
  have HT : Hid (∀ V, Below W.heap.size W V → TmAt (· < V.heap.size) V x (.agg #[.int .i8 k, .int .i64 n, .string s, .string t, .slice NA nm nc])) := fun V hb => hT.laterN hb
  have HR : Hid (∀ V, Below W.heap.size W V → BRow (· < V.heap.size) V A m cap l) := fun V hb => hR.later hb
  have HR0 : Hid (∀ V, Below W.heap.size W V → BRT W.heap.size W.heap.size V A m cap l) := fun V hb => hR.brt.under hb (Nat.le_refl _)
  have HN : Hid (x.nodes ≤ 8200) := hN
  obtain ⟨x0, x1, x2, x3, x4⟩ := five_of g0
  clear g0 g1 b2 z2 hT hR hN
  go_enter Tryz.func44, Tryz.ntmps44
  go_upto_region 1 with fail
  rw [← hw1]
  clear hw1
  go_wp2_with fail
  refine (rGuarded_any x _ w1 (HT.out w1 HB.out)).mono ?_
  rintro e w2 ⟨rfl, b2⟩
  have HQ2 := Lib.hid ((b2.block _ (heap_lt HQ.out)).trans HQ.out)
  have HB2 := Lib.hid (HB.out.trans (b2.mono HB.out.size))
  have HG2 := Lib.hid ((b2.block _ (heap_lt HG.out)).trans HG.out)
  clear b2 x0 x1 x2 x3 x4
  have gx := HG2.out
  obtain ⟨x0, x1, x2, x3, x4⟩ := five_of gx
  clear gx
  cases hf : (fitsB x && guaB x) with
  | false =>
    have HVE : Hid (valE l x = 2) := by show _ = _; unfold valE okG; rw [hf]; rfl
    have HVV : Hid (valV l x = intT 0) := by show _ = _; unfold valV okG; rw [hf]; rfl
    clear hf
    have hq := HQ2.out
    obtain ⟨⟨r0, r1, r2, r3, r4⟩, rf0, rf1, rf2, rf3, rf4⟩ := five_fr hq
    have S5 := Lib.hid (set_five (.int .i8 0) (.int .i64 0) (.string ⟨#[]⟩) (.string ⟨#[]⟩) (.slice none 0 0) hq)
    go_wp2_with fail
    obtain ⟨s5, m5⟩ := S5.out
    generalize ((((((w2).setCell ⟨W.heap.size + 1, 0, none⟩ (.int .i8 0)).setCell ⟨W.heap.size + 1, 1, none⟩ (.int .i64 0)).setCell ⟨W.heap.size + 1, 2, none⟩ (.string ⟨#[]⟩)).setCell ⟨W.heap.size + 1, 3, none⟩ (.string ⟨#[]⟩)).setCell ⟨W.heap.size + 1, 4, none⟩ (.slice none 0 0)) = VX at s5 m5 ⊢
    obtain ⟨z0, z1, z2, z3, z4⟩ := five_of s5
    refine bodyPost_ret (v := .tuple #[.agg #[.int .i8 0, .int .i64 0, .string ⟨#[]⟩, .string ⟨#[]⟩, .slice none 0 0], .int .i64 2]) (by simp [results, Tryz.f44, go_sem, z0, z1, z2, z3, z4]) rfl ?_
    have hve : valE l x = 2 := HVE.out
    have hvv : valV l x = intT 0 := HVV.out
    refine ⟨_, _, _, _, _, _, _, by rw [hve], ?_, HB2.out.trans (m5.below HB2.out.size (fun k (e : k = _) => by omega))⟩
    rw [hvv]
    exact TmAt.of_row (.nil _ _ none 0) (by decide) (by decide) (by decide) (by decide)
  | true =>
    have HTB : Hid (guaB x = true) := by simp only [Bool.and_eq_true] at hf; exact hf.2
    have HFF := Lib.hid hf
    clear hf
    go_wp2_with fail
    refine (rmay_any l A m cap w2 (HR.out w2 HB2.out)).mono ?_
    rintro e w3 ⟨rfl, b3⟩
    have HQ3 := Lib.hid ((b3.block _ (heap_lt HQ2.out)).trans HQ2.out)
    have HB3 := Lib.hid (HB2.out.trans (b3.mono HB2.out.size))
    have HG3 := Lib.hid ((b3.block _ (heap_lt HG2.out)).trans HG2.out)
    clear b3 x0 x1 x2 x3 x4
    have gx := HG3.out
    obtain ⟨x0, x1, x2, x3, x4⟩ := five_of gx
    clear gx
    cases hm : mayL l with
    | false =>
      have HVE : Hid (valE l x = 2) := by show _ = _; unfold valE okG; rw [HFF.out, hm]; rfl
      have HVV : Hid (valV l x = intT 0) := by show _ = _; unfold valV okG; rw [HFF.out, hm]; rfl
      clear hm
      have hq := HQ3.out
      obtain ⟨⟨r0, r1, r2, r3, r4⟩, rf0, rf1, rf2, rf3, rf4⟩ := five_fr hq
      have S5 := Lib.hid (set_five (.int .i8 0) (.int .i64 0) (.string ⟨#[]⟩) (.string ⟨#[]⟩) (.slice none 0 0) hq)
      go_wp2_with fail
      obtain ⟨s5, m5⟩ := S5.out
      generalize ((((((w3).setCell ⟨W.heap.size + 1, 0, none⟩ (.int .i8 0)).setCell ⟨W.heap.size + 1, 1, none⟩ (.int .i64 0)).setCell ⟨W.heap.size + 1, 2, none⟩ (.string ⟨#[]⟩)).setCell ⟨W.heap.size + 1, 3, none⟩ (.string ⟨#[]⟩)).setCell ⟨W.heap.size + 1, 4, none⟩ (.slice none 0 0)) = VX at s5 m5 ⊢
      obtain ⟨z0, z1, z2, z3, z4⟩ := five_of s5
      refine bodyPost_ret (v := .tuple #[.agg #[.int .i8 0, .int .i64 0, .string ⟨#[]⟩, .string ⟨#[]⟩, .slice none 0 0], .int .i64 2]) (by simp [results, Tryz.f44, go_sem, z0, z1, z2, z3, z4]) rfl ?_
      have hve : valE l x = 2 := HVE.out
      have hvv : valV l x = intT 0 := HVV.out
      refine ⟨_, _, _, _, _, _, _, by rw [hve], ?_, HB3.out.trans (m5.below HB3.out.size (fun k (e : k = _) => by omega))⟩
      rw [hvv]
      exact TmAt.of_row (.nil _ _ none 0) (by decide) (by decide) (by decide) (by decide)
    | true =>
      have HOK : Hid (okG l x = true) := by show _ = _; unfold okG; rw [HFF.out, hm]; rfl
      have HC := Lib.hid (rval_any W.heap.size W.heap.size l hm x HTB.out (by have := HN.out; omega) _ A m cap w3 (HR0.out w3 HB3.out) HB3.out.size (HT.out w3 HB3.out))
      clear hm
      obtain ⟨rr, hrr⟩ : ∃ rr, rr = gvT l x := ⟨_, rfl⟩
      have HRR := Lib.hid hrr
      rw [← hrr] at HC
      clear hrr
      go_wp2_with fail
      refine HC.out.mono ?_
      rintro e w4 ⟨k9, n9, s9, t9, A9, m9, c9, rfl, hv, b4⟩
      have HQ4 := Lib.hid ((b4.block _ (heap_lt HQ3.out)).trans HQ3.out)
      have HB4 := Lib.hid (HB3.out.trans (b4.mono HB3.out.size))
      obtain ⟨w5, hw5⟩ : ∃ w5, w5 = w4.alloc (.cells #[.int .i8 k9, .int .i64 n9, .string s9, .string t9, .slice A9 m9 c9] 44) := ⟨_, rfl⟩
      obtain ⟨g5, hg5⟩ : ∃ g5, g5 = w4.heap.size := ⟨_, rfl⟩
      have b5 : Below w4.heap.size w4 w5 := by rw [hw5]; exact (Below.refl _ _).alloc (Nat.le_refl _) _
      have HG5 : Hid (w5.heap[g5]? = some (.cells #[.int .i8 k9, .int .i64 n9, .string s9, .string t9, .slice A9 m9 c9] 44 (0, 0))) := Lib.hid (by rw [hw5, hg5]; exact block_alloc _ _)
      have HQ5 := Lib.hid ((b5.block _ (heap_lt HQ4.out)).trans HQ4.out)
      have HB5 := Lib.hid (HB4.out.trans (b5.mono HB4.out.size))
      have HS := Lib.hid (And.intro b4.size b5.size)
      have HBB := Lib.hid b5
      clear b4 b5 HC x0 x1 x2 x3 x4
      cases rr with
      | none =>
        have HVE : Hid (valE l x = 93) := by show _ = _; unfold valE; rw [if_pos HOK.out, ← HRR.out]
        have HVV : Hid (valV l x = intT 0) := by show _ = _; unfold valV; rw [if_pos HOK.out, ← HRR.out]; rfl
        clear hv
        simp only [Option.isSome_none]
        go_upto_region 4 with fail
        rw [← hw5]
        clear hw5 hg5
        have hq := HQ5.out
        obtain ⟨⟨r0, r1, r2, r3, r4⟩, rf0, rf1, rf2, rf3, rf4⟩ := five_fr hq
        have S5 := Lib.hid (set_five (.int .i8 0) (.int .i64 0) (.string ⟨#[]⟩) (.string ⟨#[]⟩) (.slice none 0 0) hq)
        go_wp2_with fail
        obtain ⟨s5, m5⟩ := S5.out
        generalize ((((((w5).setCell ⟨W.heap.size + 1, 0, none⟩ (.int .i8 0)).setCell ⟨W.heap.size + 1, 1, none⟩ (.int .i64 0)).setCell ⟨W.heap.size + 1, 2, none⟩ (.string ⟨#[]⟩)).setCell ⟨W.heap.size + 1, 3, none⟩ (.string ⟨#[]⟩)).setCell ⟨W.heap.size + 1, 4, none⟩ (.slice none 0 0)) = VX at s5 m5 ⊢
        obtain ⟨z0, z1, z2, z3, z4⟩ := five_of s5
        refine bodyPost_ret (v := .tuple #[.agg #[.int .i8 0, .int .i64 0, .string ⟨#[]⟩, .string ⟨#[]⟩, .slice none 0 0], .int .i64 93]) (by simp [results, Tryz.f44, go_sem, z0, z1, z2, z3, z4]) rfl ?_
        have hve : valE l x = 93 := HVE.out
        have hvv : valV l x = intT 0 := HVV.out
        refine ⟨_, _, _, _, _, _, _, by rw [hve], ?_, HB5.out.trans (m5.below HB5.out.size (fun k (e : k = _) => by omega))⟩
        rw [hvv]
        exact TmAt.of_row (.nil _ _ none 0) (by decide) (by decide) (by decide) (by decide)
      | some y =>
        have HVE : Hid (valE l x = 0) := by show _ = _; unfold valE; rw [if_pos HOK.out, ← HRR.out]
        have HVV : Hid (valV l x = y) := by show _ = _; unfold valV; rw [if_pos HOK.out, ← HRR.out]; rfl
        have HY := Lib.hid (hv y rfl)
        clear hv
        simp only [Option.isSome_some]
        go_upto_region 4 with fail
        rw [← hw5, ← hg5]
        clear hw5 hg5
        have gr := HG5.out
        obtain ⟨r0, r1, r2, r3, r4⟩ := five_of gr
        clear gr
        have hq := HQ5.out
        obtain ⟨⟨p0, p1, p2, p3, p4⟩, pf0, pf1, pf2, pf3, pf4⟩ := five_fr hq
        have S5 := Lib.hid (set_five (.int .i8 k9) (.int .i64 n9) (.string s9) (.string t9) (.slice A9 m9 c9) hq)
        go_wp2_with fail
        obtain ⟨s5, m5⟩ := S5.out
        generalize ((((((w5).setCell ⟨W.heap.size + 1, 0, none⟩ (.int .i8 k9)).setCell ⟨W.heap.size + 1, 1, none⟩ (.int .i64 n9)).setCell ⟨W.heap.size + 1, 2, none⟩ (.string s9)).setCell ⟨W.heap.size + 1, 3, none⟩ (.string t9)).setCell ⟨W.heap.size + 1, 4, none⟩ (.slice A9 m9 c9)) = VX at s5 m5 ⊢
        obtain ⟨z0, z1, z2, z3, z4⟩ := five_of s5
        refine bodyPost_ret (v := .tuple #[.agg #[.int .i8 k9, .int .i64 n9, .string s9, .string t9, .slice A9 m9 c9], .int .i64 0]) (by simp [results, Tryz.f44, go_sem, z0, z1, z2, z3, z4]) rfl ?_
        refine ⟨_, _, _, _, _, _, _, by rw [HVE.out], ?_, HB5.out.trans (m5.below HB5.out.size (fun k (e : k = _) => by omega))⟩
        rw [HVV.out]
        have q1 := HS.out; have q2 := HZ.out; have q3 := HB3.out.size; have q4 := m5.size; have q5 := heap_lt HQ3.out
        exact HY.out.keep (fun b hb => (m5.block b (by rcases hb with h | h <;> omega) (by rcases hb with h | h <;> omega)).trans (HBB.out.block b (by rcases hb with h | h <;> omega))) (fun b hb => by rcases hb with h | h <;> omega)
end Go.Proofs.YtkceoiaaiaomoaaGreatDoor
end
section
set_option linter.unusedVariables false
namespace Go.Proofs.YtkceoiaaiaomoaaGreatDoor
open Go.RowKit

def SameP (x y : Tm) (w : World) (e : Ending) (w' : World) : Prop := ∃ b : Bool, e = .returned (.bool b) ∧ (b = true ↔ x = y) ∧ Below w.heap.size w w'

set_option maxHeartbeats 8000000 in
set_option maxRecDepth 100000 in
theorem Same_any (x : Tm) : ∀ (y : Tm) (v u : Value) (w : World), TmAt (· < w.heap.size) w x v → TmAt (· < w.heap.size) w y u → Calls Tryz.prog 37 #[v, u] w (SameP x y w) := by
  induction x using Tm.ind with
  | h k n s t l ih =>
  intro y v u w hx hy
  obtain ⟨A, cap, rfl, hR, -⟩ := hx.parts
  obtain ⟨k', n', s', t', m⟩ := y
  obtain ⟨B, cap', rfl, hQ, -⟩ := hy.parts
  have hl1 := hR.max
  have hl2 := hQ.max
  unfold maxLen at hl1 hl2
  obtain ⟨w1, hw1⟩ : ∃ w1, w1 = (w.alloc (.cells #[(.int .i8 k), (.int .i64 n), (.string s), (.string t), (.slice A l.length cap)] 44)).alloc (.cells #[(.int .i8 k'), (.int .i64 n'), (.string s'), (.string t'), (.slice B m.length cap')] 44) := ⟨_, rfl⟩
  have h0 : Bx2 w w1 #[(.int .i8 k), (.int .i64 n), (.string s), (.string t), (.slice A l.length cap)] #[(.int .i8 k'), (.int .i64 n'), (.string s'), (.string t'), (.slice B m.length cap')] := by rw [hw1]; exact bx2_of _ _ _
  have H0 := Lib.hid h0
  have HR := Lib.hid hR
  have HQ := Lib.hid hQ
  have HIH := Lib.hid ih
  clear hx hy hR hQ ih
  have x0 : w1.cell? ⟨w.heap.size, 0, none⟩ = some (.int .i8 k) := cell_of_row h0.bx rfl
  have x1 : w1.cell? ⟨w.heap.size, 1, none⟩ = some (.int .i64 n) := cell_of_row h0.bx rfl
  have x2 : w1.cell? ⟨w.heap.size, 2, none⟩ = some (.string s) := cell_of_row h0.bx rfl
  have x3 : w1.cell? ⟨w.heap.size, 3, none⟩ = some (.string t) := cell_of_row h0.bx rfl
  have x4 : w1.cell? ⟨w.heap.size, 4, none⟩ = some (.slice A l.length cap) := cell_of_row h0.bx rfl
  have y0 : w1.cell? ⟨(w.heap.size + 1), 0, none⟩ = some (.int .i8 k') := cell_of_row h0.by_ rfl
  have y1 : w1.cell? ⟨(w.heap.size + 1), 1, none⟩ = some (.int .i64 n') := cell_of_row h0.by_ rfl
  have y2 : w1.cell? ⟨(w.heap.size + 1), 2, none⟩ = some (.string s') := cell_of_row h0.by_ rfl
  have y3 : w1.cell? ⟨(w.heap.size + 1), 3, none⟩ = some (.string t') := cell_of_row h0.by_ rfl
  have y4 : w1.cell? ⟨(w.heap.size + 1), 4, none⟩ = some (.slice B m.length cap') := cell_of_row h0.by_ rfl
  clear h0
  subst hw1
  by_cases hk : k = k'
  case neg =>
    have hk1 : (k != k') = true := by simpa using hk
    have HN := Lib.hid hk
    clear hk
    go_enter Tryz.func37, Tryz.ntmps37
    go_wp2_with fail
    go_ret
    exact ⟨false, rfl, ⟨fun h => (by cases h), fun h => by rw [Tm.mk.injEq] at h; exact absurd (h.1) HN.out⟩, H0.out.below⟩
  have hk1 : (k != k') = false := by simpa using hk
  have Ehk := Lib.hid hk
  clear hk
  by_cases hn : n = n'
  case neg =>
    have hn1 : (n != n') = true := by simpa using hn
    have HN := Lib.hid hn
    clear hn
    go_enter Tryz.func37, Tryz.ntmps37
    go_wp2_with fail
    go_ret
    exact ⟨false, rfl, ⟨fun h => (by cases h), fun h => by rw [Tm.mk.injEq] at h; exact absurd (h.2.1) HN.out⟩, H0.out.below⟩
  have hn1 : (n != n') = false := by simpa using hn
  have Ehn := Lib.hid hn
  clear hn
  by_cases hs : s = s'
  case neg =>
    have hs1 : (s.toList == s'.toList) = false := by rw [beq_eq_false_iff_ne, ByteArray.toList_eq, ByteArray.toList_eq]; exact fun e => hs (ByteArray.ext (Array.toList_inj.1 e))
    have hs2 : (!s.toList == s'.toList) = true := by rw [hs1]; rfl
    have HN := Lib.hid hs
    clear hs
    go_enter Tryz.func37, Tryz.ntmps37
    go_wp2_with fail
    go_ret
    exact ⟨false, rfl, ⟨fun h => (by cases h), fun h => by rw [Tm.mk.injEq] at h; exact absurd (h.2.2.1) HN.out⟩, H0.out.below⟩
  have hs1 : (s.toList == s'.toList) = true := by rw [hs]; exact beq_self_eq_true _
  have hs2 : (!s.toList == s'.toList) = false := by rw [hs1]; rfl
  have Ehs := Lib.hid hs
  clear hs
  by_cases ht : t = t'
  case neg =>
    have ht1 : (t.toList == t'.toList) = false := by rw [beq_eq_false_iff_ne, ByteArray.toList_eq, ByteArray.toList_eq]; exact fun e => ht (ByteArray.ext (Array.toList_inj.1 e))
    have ht2 : (!t.toList == t'.toList) = true := by rw [ht1]; rfl
    have HN := Lib.hid ht
    clear ht
    go_enter Tryz.func37, Tryz.ntmps37
    go_wp2_with fail
    go_ret
    exact ⟨false, rfl, ⟨fun h => (by cases h), fun h => by rw [Tm.mk.injEq] at h; exact absurd (h.2.2.2.1) HN.out⟩, H0.out.below⟩
  have ht1 : (t.toList == t'.toList) = true := by rw [ht]; exact beq_self_eq_true _
  have ht2 : (!t.toList == t'.toList) = false := by rw [ht1]; rfl
  have Eht := Lib.hid ht
  clear ht
  by_cases hl : l.length = m.length
  case neg =>
    have hle1 : ((l.length : Int) != (m.length : Int)) = true := by rw [bne_iff_ne]; omega
    have HN := Lib.hid hl
    clear hl
    go_enter Tryz.func37, Tryz.ntmps37
    go_wp2_with fail
    go_ret
    exact ⟨false, rfl, ⟨fun h => (by cases h), fun h => by rw [Tm.mk.injEq] at h; exact absurd (congrArg List.length h.2.2.2.2) HN.out⟩, H0.out.below⟩
  have hle1 : ((l.length : Int) != (m.length : Int)) = false := by rw [hl]; simp
  have Ehl := Lib.hid hl
  clear hl
  go_enter Tryz.func37, Tryz.ntmps37
  go_wp2_with fail
  clear x0 x1 x2 x3 x4 y0 y1 y2 y3 y4
  go_loopw [5] (fun i wr => ∃ j : Nat, j ≤ l.length ∧ i = .int .i64 j ∧ l.take j = m.take j ∧ Bx2 w wr #[(.int .i8 k), (.int .i64 n), (.string s), (.string t), (.slice A l.length cap)] #[(.int .i8 k'), (.int .i64 n'), (.string s'), (.string t'), (.slice B m.length cap')]) (fun i _ => l.length - (intOf i).toNat)
  case atStart => exact ⟨0, Nat.zero_le _, rfl, rfl, H0.out⟩
  case round =>
    obtain ⟨j, hj, rfl, hd, hB⟩ := hrel
    have HD := Lib.hid hd
    have HB := Lib.hid hB
    clear hd
    have x4 : wr.cell? ⟨w.heap.size, 4, none⟩ = some (.slice A l.length cap) := cell_of_row hB.bx rfl
    have y4 : wr.cell? ⟨w.heap.size + 1, 4, none⟩ = some (.slice B m.length cap') := cell_of_row hB.by_ rfl
    clear hB
    by_cases hlt : j < l.length
    · have hlt2 : j < m.length := by rw [← Ehl.out]; exact hlt
      obtain ⟨x, hx⟩ : ∃ x, l[j]? = some x := ⟨l[j], List.getElem?_eq_getElem hlt⟩
      obtain ⟨y, hy⟩ : ∃ y, m[j]? = some y := ⟨m[j], List.getElem?_eq_getElem hlt2⟩
      obtain ⟨ad, u, rfl, had, hE, hTx⟩ := HR.out.at_ j x hx
      obtain ⟨bd, u', rfl, hbd, hE', hTy⟩ := HQ.out.at_ j y hy
      have hTx1 := hTx.later HB.out.below
      have hTy1 := hTy.later HB.out.below
      obtain ⟨c0, c1, c2, c3, c4, rfl, e0, e1, e2, e3, e4⟩ := hE.keep (HB.out.below.block ad.block had)
      obtain ⟨d0, d1, d2, d3, d4, rfl, g0, g1, g2, g3, g4⟩ := hE'.keep (HB.out.below.block bd.block hbd)
      have hmem := List.mem_of_getElem? hx
      have HXE := Lib.hid hx
      have HYE := Lib.hid hy
      have HC : Hid (Calls Tryz.prog 37 #[.agg #[c0, c1, c2, c3, c4], .agg #[d0, d1, d2, d3, d4]] { wr with drawn := wr.drawn + 1 } (SameP x y wr)) :=
        (HIH.out x hmem y _ _ { wr with drawn := wr.drawn + 1 } (hTx1.keep (fun _ _ => rfl) (fun _ h => h)) (hTy1.keep (fun _ _ => rfl) (fun _ h => h))).mono fun e w' ⟨b, he, hi, hb⟩ => ⟨b, he, hi, (⟨rfl, rfl, rfl, Nat.le_refl _, fun _ _ => rfl⟩ : Below wr.heap.size wr { wr with drawn := wr.drawn + 1 }).trans hb⟩
      clear hx hy hE hE' hTx hTy hTx1 hTy1 hmem had hbd
      have i0 : (0 : Int) ≤ (j : Int) := by omega
      have i1 : (j : Int) < (l.length : Int) := by omega
      have i2 : (j : Int) < (m.length : Int) := by omega
      go_wp2_with fail
      go_still_tail 10, (by kernel_rfl)
      go_wp2_with fail
      refine HC.out.mono ?_
      clear e0 e1 e2 e3 e4 g0 g1 g2 g3 g4 x4 y4
      rintro e w2 ⟨b, rfl, hb, b1⟩
      have HB1 := Lib.hid (HB.out.on b1)
      have HBI := Lib.hid hb
      clear hb b1
      cases b
      · go_wp2_with fail
        go_ret
        refine ⟨false, rfl, ⟨fun h => (by cases h), fun h => ?_⟩, HB1.out.below⟩
        rw [Tm.mk.injEq] at h
        have h5 := h.2.2.2.2
        have h6 := HXE.out
        rw [h5, HYE.out] at h6
        exact HBI.out.2 (Option.some.inj h6).symm
      · go_wp2_with fail
        go_roundw
        case rel => exact ⟨j + 1, by omega, by go_num, by rw [List.take_add_one, List.take_add_one, HD.out, HXE.out, HYE.out, HBI.out.1 trivial], HB1.out⟩
        case measure => simp [intOf]; omega
    · obtain rfl : j = l.length := by omega
      go_wp2_with fail
      go_ret
      refine ⟨true, rfl, ⟨fun _ => ?_, fun _ => rfl⟩, HB.out.below⟩
      have h := HD.out
      rw [List.take_length, Ehl.out, List.take_length] at h
      rw [Ehk.out, Ehn.out, Ehs.out, Eht.out, h]
end Go.Proofs.YtkceoiaaiaomoaaGreatDoor
end
section

end
section

end
section
set_option linter.unusedVariables false
set_option linter.unusedSimpArgs false
namespace Go.Proofs.YtkceoiaaiaomoaaGreatDoor
open Go.RowKit

theorem Same_yes11 (x : Tm) (v u : Value) (w : World) (hv : TmAt (· < w.heap.size) w x v) (hu : TmAt (· < w.heap.size) w x u) : Calls Tryz.prog 37 #[v, u] w fun e w' => e = .returned (.bool true) ∧ Below w.heap.size w w' :=
  (Same_any x x v u w hv hu).mono fun e w' ⟨b, he, hb, h⟩ => ⟨by rw [he, hb.2 rfl], h⟩
end Go.Proofs.YtkceoiaaiaomoaaGreatDoor
end
