/- pleachref03.Same: its contract. -/
import Derived.Test.YthbiaaeoajmlbaaGreatDoorKGd13
import Derived.Test.YthbiaaeoajmlbaaGreatDoorKRef03C
import Derived.Test.YthbiaaeoajmlbaaGreatDoorKBoxes
import Derived.StillTailTactics
import Derived.Deep.QuietTactic
import Derived.BigQuiet
import Derived.LoopTactic
import Derived.LoopNIn
import Derived.Lib.Hide
section
set_option linter.unusedVariables false
set_option linter.unusedSimpArgs false
namespace Go.Proofs.YthbiaaeoajmlbaaGreatDoor
open Go.RowKit

def LeB (l : List Bd) (e : Ending) : Prop := ∃ b : Bool, e = .returned (.bool b) ∧ (b = false → l.length ≤ 40)
set_option maxHeartbeats 2000000 in
set_option maxRecDepth 100000 in
theorem great11_le (l : List Bd) (A : Option Addr) (pn cap : Nat) (W : World) (hR : BRow (· < W.heap.size) W A pn cap l) :
    Calls Tryz.prog 47 #[.slice A pn cap] W fun e w' => LeB l e ∧ Below W.heap.size W w' := by
  obtain rfl := hR.len
  have hmax := hR.max
  unfold maxLen at hmax
  have HR := Lib.hid hR
  clear hR
  go_enter Tryz.func47, Tryz.ntmps47
  go_wp2_with fail
  go_loopw [6] (fun i wr => ∃ j : Nat, j ≤ l.length ∧ j ≤ 40 ∧ i = .int .i64 j ∧ Hid (Below W.heap.size W wr)) (fun i _ => l.length - (intOf i).toNat)
  case atStart => exact ⟨0, Nat.zero_le _, Nat.zero_le _, rfl, Lib.hid (Below.refl _ _)⟩
  case round =>
    obtain ⟨j, hj, hj4, rfl, HB⟩ := hrel
    by_cases hlt : j < l.length
    · obtain ⟨y, hy⟩ : ∃ y, l[j]? = some y := ⟨l[j], List.getElem?_eq_getElem hlt⟩
      obtain ⟨ad, u, rfl, had, hsz, hE, hTy⟩ := HR.out.at_ j y hy
      have hEr := hE.keep (HB.out.block ad.block had)
      have hTr := hTy.keep (Q := (· < wr.heap.size)) (w' := wr) (fun b hb => HB.out.block b hb) (fun b hb => Nat.lt_of_lt_of_le hb HB.out.size)
      have HC := Lib.hid (Great_any y.2 u wr hTr)
      obtain ⟨ys, yt⟩ := y
      obtain ⟨k', n', s', t', A', m', c', rfl⟩ : ∃ k' n' s' t' A' m' c', u = .agg #[.int .i8 k', .int .i64 n', .string s', .string t', .slice A' m' c'] := by
        dsimp only at hTy; cases hTy; exact ⟨_, _, _, _, _, _, _, rfl⟩
      obtain ⟨c0, c1, c2, c3, c4, hcc, es, e0, e1, e2, e3, e4⟩ := hEr
      simp only [Value.agg.injEq, Array.mk.injEq, List.cons.injEq, and_true] at hcc
      obtain ⟨rfl, rfl, rfl, rfl, rfl⟩ := hcc
      clear hE hTy hTr hy had hsz
      by_cases h40 : (40 : Int) ≤ (j : Int)
      · have h41 : ¬ (j : Int) < 40 := by omega
        have h42 : decide ((40 : Int) ≤ (j : Int)) = true := decide_eq_true h40
        clear h40 h41
        go_wp2_with fail
        go_ret
        exact ⟨⟨true, rfl, (fun h => by cases h)⟩, HB.out⟩
      · have h41 : (j : Int) < 40 := by omega
        have h42 : decide ((40 : Int) ≤ (j : Int)) = false := decide_eq_false h40
        have h43 : j + 1 ≤ 40 := by omega
        go_wp2_with fail
        refine HC.out.mono ?_
        rintro e w2 ⟨b, rfl, -, b2⟩
        have HB2 := Lib.hid (HB.out.trans (b2.mono HB.out.size))
        clear b2 es e0 e1 e2 e3 e4
        cases b
        · go_wp2_with fail
          go_roundw
          case rel => exact ⟨j + 1, by omega, h43, by go_num, HB2⟩
          case measure => simp [intOf]; omega
        · go_wp2_with fail
          go_ret
          exact ⟨⟨true, rfl, (fun h => by cases h)⟩, HB2.out⟩
    · obtain rfl : j = l.length := by omega
      go_wp2_with fail
      go_ret
      exact ⟨⟨false, rfl, fun _ => hj4⟩, HB.out⟩

set_option maxHeartbeats 2000000 in
set_option maxRecDepth 100000 in
theorem rmay_any (l : List Bd) (A : Option Addr) (pn cap : Nat) (W : World) (hR : BRow (· < W.heap.size) W A pn cap l) :
    Calls Tryz.prog 59 #[.slice A pn cap] W fun e w' => e = .returned (.bool (mayL l)) ∧ Below W.heap.size W w' := by
  obtain rfl := hR.len
  have hmax := hR.max
  unfold maxLen at hmax
  have HR := Lib.hid hR
  clear hR
  go_enter Tryz.func59, Tryz.ntmps59
  go_wp2_with fail
  go_loopw [3] (fun i wr => ∃ j : Nat, j ≤ l.length ∧ i = .int .i64 j ∧ Hid (Below W.heap.size W wr) ∧ Hid (mayL l = mayL (l.drop j))) (fun i _ => l.length - (intOf i).toNat)
  case atStart => exact ⟨0, Nat.zero_le _, rfl, Lib.hid (Below.refl _ _), Lib.hid rfl⟩
  case round =>
    obtain ⟨j, hj, rfl, HB, HM⟩ := hrel
    by_cases hlt : j < l.length
    · obtain ⟨y, hy⟩ : ∃ y, l[j]? = some y := ⟨l[j], List.getElem?_eq_getElem hlt⟩
      obtain ⟨ad, u, rfl, had, hsz, hE, hTy⟩ := HR.out.at_ j y hy
      have hEr := hE.keep (HB.out.block ad.block had)
      have hTr := hTy.keep (Q := (· < wr.heap.size)) (w' := wr) (fun b hb => HB.out.block b hb) (fun b hb => Nat.lt_of_lt_of_le hb HB.out.size)
      have HC := Lib.hid (rCheck_any y.2 u wr hTr)
      have HD : Hid (mayL l = (checkN y.2 == 0 && mayL (l.drop (j + 1)))) := Lib.hid (by
        rw [HM.out, List.drop_eq_getElem_cons hlt]
        rw [List.getElem?_eq_getElem hlt] at hy
        rw [Option.some.inj hy]
        rfl)
      obtain ⟨ys, yt⟩ := y
      obtain ⟨k', n', s', t', A', m', c', rfl⟩ : ∃ k' n' s' t' A' m' c', u = .agg #[.int .i8 k', .int .i64 n', .string s', .string t', .slice A' m' c'] := by
        dsimp only at hTy; cases hTy; exact ⟨_, _, _, _, _, _, _, rfl⟩
      obtain ⟨c0, c1, c2, c3, c4, hcc, es, e0, e1, e2, e3, e4⟩ := hEr
      simp only [Value.agg.injEq, Array.mk.injEq, List.cons.injEq, and_true] at hcc
      obtain ⟨rfl, rfl, rfl, rfl, rfl⟩ := hcc
      clear hE hTy hTr hy had hsz
      dsimp only at HC HD
      go_wp2_with fail
      refine HC.out.mono ?_
      rintro e w2 ⟨rfl, b2⟩
      have HB2 := Lib.hid (HB.out.trans (b2.mono HB.out.size))
      clear b2 es e0 e1 e2 e3 e4 HC
      by_cases hz : checkN yt = 0
      · have hz2 : (checkN yt == 0) = true := by simpa using hz
        have HM2 : Hid (mayL l = mayL (l.drop (j + 1))) := Lib.hid (by rw [HD.out, hz2, Bool.true_and])
        rw [hz]
        clear hz hz2 HD
        go_wp2_with fail
        go_roundw
        case rel => exact ⟨j + 1, by omega, by go_num, HB2, HM2⟩
        case measure => simp [intOf]; omega
      · have hz2 : (checkN yt == 0) = false := by simpa using hz
        have HM2 : Hid (mayL l = false) := Lib.hid (by rw [HD.out, hz2, Bool.false_and])
        have hz3 : (checkN yt != 0) = true := by simpa using hz
        clear HD
        go_wp2_with fail
        go_ret
        exact ⟨by rw [HM2.out]; rfl, HB2.out⟩
    · obtain rfl : j = l.length := by omega
      have HM2 : Hid (mayL l = true) := Lib.hid (by rw [HM.out, List.drop_length]; rfl)
      go_wp2_with fail
      go_ret
      exact ⟨by rw [HM2.out]; rfl, HB.out⟩

set_option maxHeartbeats 4000000 in
set_option maxRecDepth 100000 in
theorem Find_any (l : List Bd) (nm : ByteArray) (A : Option Addr) (pn cap : Nat) (W : World) (hR : BRow (· < W.heap.size) W A pn cap l) :
    Calls Tryz.prog 51 #[.slice A pn cap, .string nm] W fun e w' => ∃ k9 n9 s9 t9 A9 m9 c9, e = .returned (.tuple #[.agg #[.int .i8 k9, .int .i64 n9, .string s9, .string t9, .slice A9 m9 c9], .bool (findB l nm).isSome]) ∧
      TmAt (· < w'.heap.size) w' ((findB l nm).getD (intT 0)) (.agg #[.int .i8 k9, .int .i64 n9, .string s9, .string t9, .slice A9 m9 c9]) ∧ Below W.heap.size W w' := by
  obtain rfl := hR.len
  have hmax := hR.max
  unfold maxLen at hmax
  obtain ⟨w1, hw1⟩ : ∃ w1, w1 = W.alloc (.cells #[.int .i8 0, .int .i64 0, .string ⟨#[]⟩, .string ⟨#[]⟩, .slice none 0 0] 48) := ⟨_, rfl⟩
  have b1 : Below W.heap.size W w1 := by rw [hw1]; exact (Below.refl _ W).alloc (Nat.le_refl _) _
  have HG : Hid (w1.heap[W.heap.size]? = some (.cells #[.int .i8 0, .int .i64 0, .string ⟨#[]⟩, .string ⟨#[]⟩, .slice none 0 0] 48 (0, 0))) := Lib.hid (by rw [hw1]; exact block_alloc _ _)
  have HR := Lib.hid (hR.under b1 (Nat.le_refl _))
  have HB1 := Lib.hid b1
  have HZ1 : Hid (w1.heap.size = W.heap.size + 1) := Lib.hid (by rw [hw1, World.size_alloc])
  clear hR b1
  go_enter Tryz.func51, Tryz.ntmps51
  go_upto_region 1 with fail
  rw [← hw1]
  clear hw1
  go_wp2_with fail
  go_loopw [10] (fun i wr => ∃ j : Nat, j ≤ l.length ∧ i = .int .i64 j ∧ Hid (Below w1.heap.size w1 wr) ∧ Hid (findB l nm = findB (l.drop j) nm)) (fun i _ => l.length - (intOf i).toNat)
  case atStart => exact ⟨0, Nat.zero_le _, rfl, Lib.hid (Below.refl _ _), Lib.hid rfl⟩
  case round =>
    obtain ⟨j, hj, rfl, HB, HM⟩ := hrel
    by_cases hlt : j < l.length
    · obtain ⟨y, hy⟩ : ∃ y, l[j]? = some y := ⟨l[j], List.getElem?_eq_getElem hlt⟩
      obtain ⟨ad, u, rfl, had, hsz, hE, hTy⟩ := HR.out.at_ j y hy
      have hEr := hE.keep (HB.out.block ad.block (Nat.lt_of_lt_of_le had HB1.out.size))
      have hTr := hTy.keep (Q := (· < W.heap.size)) (w' := wr) (fun b hb => HB.out.block b (Nat.lt_of_lt_of_le hb HB1.out.size)) (fun b hb => hb)
      have HD : Hid (findB l nm = if y.1 = nm then some y.2 else findB (l.drop (j + 1)) nm) := Lib.hid (by
        rw [HM.out, List.drop_eq_getElem_cons hlt]
        rw [List.getElem?_eq_getElem hlt] at hy
        rw [Option.some.inj hy]
        rfl)
      obtain ⟨ys, yt⟩ := y
      obtain ⟨k', n', s', t', A', m', c', rfl⟩ : ∃ k' n' s' t' A' m' c', u = .agg #[.int .i8 k', .int .i64 n', .string s', .string t', .slice A' m' c'] := by
        dsimp only at hTy; cases hTy; exact ⟨_, _, _, _, _, _, _, rfl⟩
      obtain ⟨c0, c1, c2, c3, c4, hcc, es, e0, e1, e2, e3, e4⟩ := hEr
      simp only [Value.agg.injEq, Array.mk.injEq, List.cons.injEq, and_true] at hcc
      obtain ⟨rfl, rfl, rfl, rfl, rfl⟩ := hcc
      dsimp only at HD
      have HTR := Lib.hid hTr
      clear hE hTy hTr hy had hsz
      obtain ⟨V2, hV2⟩ : ∃ V2, V2 = wr.alloc (.cells #[.string ys, .int .i8 k', .int .i64 n', .string s', .string t', .slice A' m' c'] 65) := ⟨_, rfl⟩
      have bV : Below wr.heap.size wr V2 := by rw [hV2]; exact (Below.refl _ _).alloc (Nat.le_refl _) _
      have gB : V2.heap[wr.heap.size]? = some (.cells #[.string ys, .int .i8 k', .int .i64 n', .string s', .string t', .slice A' m' c'] 65 (0, 0)) := by rw [hV2]; exact block_alloc _ _
      have HB2 := Lib.hid (HB.out.trans (bV.mono HB.out.size))
      have HT2 : Hid (TmAt (· < W.heap.size) V2 yt (.agg #[.int .i8 k', .int .i64 n', .string s', .string t', .slice A' m' c'])) := Lib.hid (HTR.out.keep (fun b hb => bV.block b (Nat.lt_of_lt_of_le (Nat.lt_of_lt_of_le hb HB1.out.size) HB.out.size)) (fun _ h => h))
      have f0 : V2.cell? ⟨wr.heap.size, 0, none⟩ = some (.string ys) := cell_of_row (i := 0) gB rfl
      have f1 : V2.cell? ⟨wr.heap.size, 1, none⟩ = some (.int .i8 k') := cell_of_row (i := 1) gB rfl
      have f2 : V2.cell? ⟨wr.heap.size, 2, none⟩ = some (.int .i64 n') := cell_of_row (i := 2) gB rfl
      have f3 : V2.cell? ⟨wr.heap.size, 3, none⟩ = some (.string s') := cell_of_row (i := 3) gB rfl
      have f4 : V2.cell? ⟨wr.heap.size, 4, none⟩ = some (.string t') := cell_of_row (i := 4) gB rfl
      have f5 : V2.cell? ⟨wr.heap.size, 5, none⟩ = some (.slice A' m' c') := cell_of_row (i := 5) gB rfl
      clear bV gB
      go_upto_region 4 with fail
      rw [← hV2]
      clear hV2 es e0 e1 e2 e3 e4 HTR
      by_cases hn : ys = nm
      · have HF : Hid (findB l nm = some yt) := Lib.hid (by rw [HD.out, if_pos hn])
        have hn2 : (ys.toList == nm.toList) = true := by rw [hn]; exact beq_self_eq_true _
        clear hn
        have gR := (HB2.out.block _ (heap_lt HG.out)).trans HG.out
        clear HD
        obtain ⟨⟨r0, r1, r2, r3, r4⟩, rf0, rf1, rf2, rf3, rf4⟩ := five_fr gR
        have S5 := Lib.hid (set_five (.int .i8 k') (.int .i64 n') (.string s') (.string t') (.slice A' m' c') gR)
        go_wp2_with fail
        obtain ⟨s5, m5⟩ := S5.out
        generalize ((((((V2).setCell ⟨W.heap.size, 0, none⟩ (.int .i8 k')).setCell ⟨W.heap.size, 1, none⟩ (.int .i64 n')).setCell ⟨W.heap.size, 2, none⟩ (.string s')).setCell ⟨W.heap.size, 3, none⟩ (.string t')).setCell ⟨W.heap.size, 4, none⟩ (.slice A' m' c')) = VX at s5 m5 ⊢
        obtain ⟨z0, z1, z2, z3, z4⟩ := five_of s5
        refine bodyPost_ret (v := .tuple #[.agg #[.int .i8 k', .int .i64 n', .string s', .string t', .slice A' m' c'], .bool true]) (by simp [results, Tryz.f51, go_sem, z0, z1, z2, z3, z4]) rfl ?_
        refine ⟨_, _, _, _, _, _, _, by rw [HF.out]; rfl, ?_, ?_⟩
        · rw [HF.out]
          have z1 := HZ1.out
          have z2 := HB2.out.size
          have z3 := m5.size
          exact HT2.out.keep (fun b (hb : b < W.heap.size) => m5.block b (by omega) (by omega)) (fun b (hb : b < W.heap.size) => by omega)
        · exact (HB1.out.trans (HB2.out.mono HB1.out.size)).trans (m5.below (HB1.out.trans (HB2.out.mono HB1.out.size)).size (fun q (e : q = _) => by omega))
      · have HM2 : Hid (findB l nm = findB (l.drop (j + 1)) nm) := Lib.hid (by rw [HD.out, if_neg hn])
        have hn2 : (ys.toList == nm.toList) = false := by
          cases h : (ys.toList == nm.toList) with
          | false => rfl
          | true => exact absurd (ByteArray.ext (Array.toList_inj.1 (by have := eq_of_beq h; rwa [ByteArray.toList_eq, ByteArray.toList_eq] at this))) hn
        clear hn
        clear HD
        go_wp2_with fail
        go_roundw
        case rel => exact ⟨j + 1, by omega, by go_num, HB2, HM2⟩
        case measure => simp [intOf]; omega
    · obtain rfl : j = l.length := by omega
      have HF : Hid (findB l nm = none) := Lib.hid (by rw [HM.out, List.drop_length]; rfl)
      have gR := (HB.out.block _ (heap_lt HG.out)).trans HG.out
      obtain ⟨⟨r0, r1, r2, r3, r4⟩, rf0, rf1, rf2, rf3, rf4⟩ := five_fr gR
      have S5 := Lib.hid (set_five (.int .i8 0) (.int .i64 0) (.string ⟨#[]⟩) (.string ⟨#[]⟩) (.slice none 0 0) gR)
      go_wp2_with fail
      obtain ⟨s5, m5⟩ := S5.out
      generalize ((((((wr).setCell ⟨W.heap.size, 0, none⟩ (.int .i8 0)).setCell ⟨W.heap.size, 1, none⟩ (.int .i64 0)).setCell ⟨W.heap.size, 2, none⟩ (.string ⟨#[]⟩)).setCell ⟨W.heap.size, 3, none⟩ (.string ⟨#[]⟩)).setCell ⟨W.heap.size, 4, none⟩ (.slice none 0 0)) = VX at s5 m5 ⊢
      obtain ⟨z0, z1, z2, z3, z4⟩ := five_of s5
      refine bodyPost_ret (v := .tuple #[.agg #[.int .i8 0, .int .i64 0, .string ⟨#[]⟩, .string ⟨#[]⟩, .slice none 0 0], .bool false]) (by simp [results, Tryz.f51, go_sem, z0, z1, z2, z3, z4]) rfl ?_
      refine ⟨_, _, _, _, _, _, _, by rw [HF.out]; rfl, ?_, ?_⟩
      · rw [HF.out]
        exact .leaf _ _ 0 0 ⟨#[]⟩ (by decide) (by decide) (by decide)
      · exact (HB1.out.trans (HB.out.mono HB1.out.size)).trans (m5.below (HB1.out.trans (HB.out.mono HB1.out.size)).size (fun q (e : q = _) => by omega))
end Go.Proofs.YthbiaaeoajmlbaaGreatDoor
end
section
set_option linter.unusedVariables false
namespace Go.Proofs.YthbiaaeoajmlbaaGreatDoor
open Go.RowKit

def SameP (x y : Tm) (w : World) (e : Ending) (w' : World) : Prop := ∃ b : Bool, e = .returned (.bool b) ∧ (b = true ↔ x = y) ∧ Below w.heap.size w w'

set_option maxHeartbeats 8000000 in
set_option maxRecDepth 100000 in
theorem Same_any (x : Tm) : ∀ (y : Tm) (v u : Value) (w : World), TmAt (· < w.heap.size) w x v → TmAt (· < w.heap.size) w y u → Calls Tryz.prog 43 #[v, u] w (SameP x y w) := by
  induction x using Tm.ind with
  | h k n s t l ih =>
  intro y v u w hx hy
  obtain ⟨A, cap, rfl, hR, -⟩ := hx.parts
  obtain ⟨k', n', s', t', m⟩ := y
  obtain ⟨B, cap', rfl, hQ, -⟩ := hy.parts
  have hl1 := hR.max
  have hl2 := hQ.max
  unfold maxLen at hl1 hl2
  obtain ⟨w1, hw1⟩ : ∃ w1, w1 = (w.alloc (.cells #[(.int .i8 k), (.int .i64 n), (.string s), (.string t), (.slice A l.length cap)] 48)).alloc (.cells #[(.int .i8 k'), (.int .i64 n'), (.string s'), (.string t'), (.slice B m.length cap')] 48) := ⟨_, rfl⟩
  have h0 : Bx2 w w1 #[(.int .i8 k), (.int .i64 n), (.string s), (.string t), (.slice A l.length cap)] #[(.int .i8 k'), (.int .i64 n'), (.string s'), (.string t'), (.slice B m.length cap')] := by rw [hw1]; exact bx2_of _ _ _
  have H0 := Lib.hid h0
  have HR := Lib.hid hR
  have HQ := Lib.hid hQ
  have HIH := Lib.hid ih
  clear hx hy hR hQ ih
  have x0 : w1.cell? ⟨w.heap.size, 0, none⟩ = some (.int .i8 k) := cell_of_row h0.bx rfl
  have x1 : w1.cell? ⟨w.heap.size, 1, none⟩ = some (.int .i64 n) := cell_of_row h0.bx rfl
  have x2 : w1.cell? ⟨w.heap.size, 2, none⟩ = some (.string s) := cell_of_row h0.bx rfl
  have x3 : w1.cell? ⟨w.heap.size, 3, none⟩ = some (.string t) := cell_of_row h0.bx rfl
  have x4 : w1.cell? ⟨w.heap.size, 4, none⟩ = some (.slice A l.length cap) := cell_of_row h0.bx rfl
  have y0 : w1.cell? ⟨(w.heap.size + 1), 0, none⟩ = some (.int .i8 k') := cell_of_row h0.by_ rfl
  have y1 : w1.cell? ⟨(w.heap.size + 1), 1, none⟩ = some (.int .i64 n') := cell_of_row h0.by_ rfl
  have y2 : w1.cell? ⟨(w.heap.size + 1), 2, none⟩ = some (.string s') := cell_of_row h0.by_ rfl
  have y3 : w1.cell? ⟨(w.heap.size + 1), 3, none⟩ = some (.string t') := cell_of_row h0.by_ rfl
  have y4 : w1.cell? ⟨(w.heap.size + 1), 4, none⟩ = some (.slice B m.length cap') := cell_of_row h0.by_ rfl
  clear h0
  subst hw1
  by_cases hk : k = k'
  case neg =>
    have hk1 : (k != k') = true := by simpa using hk
    have HN := Lib.hid hk
    clear hk
    go_enter Tryz.func43, Tryz.ntmps43
    go_wp2_with fail
    go_ret
    exact ⟨false, rfl, ⟨fun h => (by cases h), fun h => by rw [Tm.mk.injEq] at h; exact absurd (h.1) HN.out⟩, H0.out.below⟩
  have hk1 : (k != k') = false := by simpa using hk
  have Ehk := Lib.hid hk
  clear hk
  by_cases hn : n = n'
  case neg =>
    have hn1 : (n != n') = true := by simpa using hn
    have HN := Lib.hid hn
    clear hn
    go_enter Tryz.func43, Tryz.ntmps43
    go_wp2_with fail
    go_ret
    exact ⟨false, rfl, ⟨fun h => (by cases h), fun h => by rw [Tm.mk.injEq] at h; exact absurd (h.2.1) HN.out⟩, H0.out.below⟩
  have hn1 : (n != n') = false := by simpa using hn
  have Ehn := Lib.hid hn
  clear hn
  by_cases hs : s = s'
  case neg =>
    have hs1 : (s.toList == s'.toList) = false := by rw [beq_eq_false_iff_ne, ByteArray.toList_eq, ByteArray.toList_eq]; exact fun e => hs (ByteArray.ext (Array.toList_inj.1 e))
    have hs2 : (!s.toList == s'.toList) = true := by rw [hs1]; rfl
    have HN := Lib.hid hs
    clear hs
    go_enter Tryz.func43, Tryz.ntmps43
    go_wp2_with fail
    go_ret
    exact ⟨false, rfl, ⟨fun h => (by cases h), fun h => by rw [Tm.mk.injEq] at h; exact absurd (h.2.2.1) HN.out⟩, H0.out.below⟩
  have hs1 : (s.toList == s'.toList) = true := by rw [hs]; exact beq_self_eq_true _
  have hs2 : (!s.toList == s'.toList) = false := by rw [hs1]; rfl
  have Ehs := Lib.hid hs
  clear hs
  by_cases ht : t = t'
  case neg =>
    have ht1 : (t.toList == t'.toList) = false := by rw [beq_eq_false_iff_ne, ByteArray.toList_eq, ByteArray.toList_eq]; exact fun e => ht (ByteArray.ext (Array.toList_inj.1 e))
    have ht2 : (!t.toList == t'.toList) = true := by rw [ht1]; rfl
    have HN := Lib.hid ht
    clear ht
    go_enter Tryz.func43, Tryz.ntmps43
    go_wp2_with fail
    go_ret
    exact ⟨false, rfl, ⟨fun h => (by cases h), fun h => by rw [Tm.mk.injEq] at h; exact absurd (h.2.2.2.1) HN.out⟩, H0.out.below⟩
  have ht1 : (t.toList == t'.toList) = true := by rw [ht]; exact beq_self_eq_true _
  have ht2 : (!t.toList == t'.toList) = false := by rw [ht1]; rfl
  have Eht := Lib.hid ht
  clear ht
  by_cases hl : l.length = m.length
  case neg =>
    have hle1 : ((l.length : Int) != (m.length : Int)) = true := by rw [bne_iff_ne]; omega
    have HN := Lib.hid hl
    clear hl
    go_enter Tryz.func43, Tryz.ntmps43
    go_wp2_with fail
    go_ret
    exact ⟨false, rfl, ⟨fun h => (by cases h), fun h => by rw [Tm.mk.injEq] at h; exact absurd (congrArg List.length h.2.2.2.2) HN.out⟩, H0.out.below⟩
  have hle1 : ((l.length : Int) != (m.length : Int)) = false := by rw [hl]; simp
  have Ehl := Lib.hid hl
  clear hl
  go_enter Tryz.func43, Tryz.ntmps43
  go_wp2_with fail
  clear x0 x1 x2 x3 x4 y0 y1 y2 y3 y4
  go_loopw [5] (fun i wr => ∃ j : Nat, j ≤ l.length ∧ i = .int .i64 j ∧ l.take j = m.take j ∧ Bx2 w wr #[(.int .i8 k), (.int .i64 n), (.string s), (.string t), (.slice A l.length cap)] #[(.int .i8 k'), (.int .i64 n'), (.string s'), (.string t'), (.slice B m.length cap')]) (fun i _ => l.length - (intOf i).toNat)
  case atStart => exact ⟨0, Nat.zero_le _, rfl, rfl, H0.out⟩
  case round =>
    obtain ⟨j, hj, rfl, hd, hB⟩ := hrel
    have HD := Lib.hid hd
    have HB := Lib.hid hB
    clear hd
    have x4 : wr.cell? ⟨w.heap.size, 4, none⟩ = some (.slice A l.length cap) := cell_of_row hB.bx rfl
    have y4 : wr.cell? ⟨w.heap.size + 1, 4, none⟩ = some (.slice B m.length cap') := cell_of_row hB.by_ rfl
    clear hB
    by_cases hlt : j < l.length
    · have hlt2 : j < m.length := by rw [← Ehl.out]; exact hlt
      obtain ⟨x, hx⟩ : ∃ x, l[j]? = some x := ⟨l[j], List.getElem?_eq_getElem hlt⟩
      obtain ⟨y, hy⟩ : ∃ y, m[j]? = some y := ⟨m[j], List.getElem?_eq_getElem hlt2⟩
      obtain ⟨ad, u, rfl, had, hE, hTx⟩ := HR.out.at_ j x hx
      obtain ⟨bd, u', rfl, hbd, hE', hTy⟩ := HQ.out.at_ j y hy
      have hTx1 := hTx.later HB.out.below
      have hTy1 := hTy.later HB.out.below
      obtain ⟨c0, c1, c2, c3, c4, rfl, e0, e1, e2, e3, e4⟩ := hE.keep (HB.out.below.block ad.block had)
      obtain ⟨d0, d1, d2, d3, d4, rfl, g0, g1, g2, g3, g4⟩ := hE'.keep (HB.out.below.block bd.block hbd)
      have hmem := List.mem_of_getElem? hx
      have HXE := Lib.hid hx
      have HYE := Lib.hid hy
      have HC : Hid (Calls Tryz.prog 43 #[.agg #[c0, c1, c2, c3, c4], .agg #[d0, d1, d2, d3, d4]] { wr with drawn := wr.drawn + 1 } (SameP x y wr)) :=
        (HIH.out x hmem y _ _ { wr with drawn := wr.drawn + 1 } (hTx1.keep (fun _ _ => rfl) (fun _ h => h)) (hTy1.keep (fun _ _ => rfl) (fun _ h => h))).mono fun e w' ⟨b, he, hi, hb⟩ => ⟨b, he, hi, (⟨rfl, rfl, rfl, Nat.le_refl _, fun _ _ => rfl⟩ : Below wr.heap.size wr { wr with drawn := wr.drawn + 1 }).trans hb⟩
      clear hx hy hE hE' hTx hTy hTx1 hTy1 hmem had hbd
      have i0 : (0 : Int) ≤ (j : Int) := by omega
      have i1 : (j : Int) < (l.length : Int) := by omega
      have i2 : (j : Int) < (m.length : Int) := by omega
      go_wp2_with fail
      go_still_tail 10, (by kernel_rfl)
      go_wp2_with fail
      refine HC.out.mono ?_
      clear e0 e1 e2 e3 e4 g0 g1 g2 g3 g4 x4 y4
      rintro e w2 ⟨b, rfl, hb, b1⟩
      have HB1 := Lib.hid (HB.out.on b1)
      have HBI := Lib.hid hb
      clear hb b1
      cases b
      · go_wp2_with fail
        go_ret
        refine ⟨false, rfl, ⟨fun h => (by cases h), fun h => ?_⟩, HB1.out.below⟩
        rw [Tm.mk.injEq] at h
        have h5 := h.2.2.2.2
        have h6 := HXE.out
        rw [h5, HYE.out] at h6
        exact HBI.out.2 (Option.some.inj h6).symm
      · go_wp2_with fail
        go_roundw
        case rel => exact ⟨j + 1, by omega, by go_num, by rw [List.take_add_one, List.take_add_one, HD.out, HXE.out, HYE.out, HBI.out.1 trivial], HB1.out⟩
        case measure => simp [intOf]; omega
    · obtain rfl : j = l.length := by omega
      go_wp2_with fail
      go_ret
      refine ⟨true, rfl, ⟨fun _ => ?_, fun _ => rfl⟩, HB.out.below⟩
      have h := HD.out
      rw [List.take_length, Ehl.out, List.take_length] at h
      rw [Ehk.out, Ehn.out, Ehs.out, Eht.out, h]
end Go.Proofs.YthbiaaeoajmlbaaGreatDoor
end
