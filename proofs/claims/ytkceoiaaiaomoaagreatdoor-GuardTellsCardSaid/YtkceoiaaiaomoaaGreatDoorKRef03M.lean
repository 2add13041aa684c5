/- The document's own tuples, of parts that may be. -/
import Derived.Test.YtkceoiaaiaomoaaGreatDoorKGd13
import Derived.Test.YtkceoiaaiaomoaaGreatDoorKRef03C
import Derived.Test.YtkceoiaaiaomoaaGreatDoorKAppRow
import Derived.LoopTactic
import Derived.LoopNIn
section
set_option linter.unusedVariables false
set_option linter.unusedSimpArgs false
namespace Go.Proofs.YtkceoiaaiaomoaaGreatDoor
open Go.RowKit

def LeB (l : List Bd) (e : Ending) : Prop := ∃ b : Bool, e = .returned (.bool b) ∧ (b = false → l.length ≤ 40)
set_option maxHeartbeats 2000000 in
set_option maxRecDepth 100000 in
theorem great11_le (l : List Bd) (A : Option Addr) (pn cap : Nat) (W : World) (hR : BRow (· < W.heap.size) W A pn cap l) :
    Calls Tryz.prog 41 #[.slice A pn cap] W fun e w' => LeB l e ∧ Below W.heap.size W w' := by
  obtain rfl := hR.len
  have hmax := hR.max
  unfold maxLen at hmax
  have HR := Lib.hid hR
  clear hR
  go_enter Tryz.func41, Tryz.ntmps41
  go_wp2_with fail
  go_loopw [6] (fun i wr => ∃ j : Nat, j ≤ l.length ∧ j ≤ 40 ∧ i = .int .i64 j ∧ Hid (Below W.heap.size W wr)) (fun i _ => l.length - (intOf i).toNat)
  case atStart => exact ⟨0, Nat.zero_le _, Nat.zero_le _, rfl, Lib.hid (Below.refl _ _)⟩
  case round =>
    obtain ⟨j, hj, hj4, rfl, HB⟩ := hrel
    by_cases hlt : j < l.length
    · obtain ⟨y, hy⟩ : ∃ y, l[j]? = some y := ⟨l[j], List.getElem?_eq_getElem hlt⟩
      obtain ⟨ad, u, rfl, had, hsz, hE, hTy⟩ := HR.out.at_ j y hy
      have hEr := hE.keep (HB.out.block ad.block had)
      have hTr := hTy.keep (Q := (· < wr.heap.size)) (w' := wr) (fun b hb => HB.out.block b hb) (fun b hb => Nat.lt_of_lt_of_le hb HB.out.size)
      have HC := Lib.hid (Great_any y.2 u wr hTr)
      obtain ⟨ys, yt⟩ := y
      obtain ⟨k', n', s', t', A', m', c', rfl⟩ : ∃ k' n' s' t' A' m' c', u = .agg #[.int .i8 k', .int .i64 n', .string s', .string t', .slice A' m' c'] := by
        dsimp only at hTy; cases hTy; exact ⟨_, _, _, _, _, _, _, rfl⟩
      obtain ⟨c0, c1, c2, c3, c4, hcc, es, e0, e1, e2, e3, e4⟩ := hEr
      simp only [Value.agg.injEq, Array.mk.injEq, List.cons.injEq, and_true] at hcc
      obtain ⟨rfl, rfl, rfl, rfl, rfl⟩ := hcc
      clear hE hTy hTr hy had hsz
      by_cases h40 : (40 : Int) ≤ (j : Int)
      · have h41 : ¬ (j : Int) < 40 := by omega
        have h42 : decide ((40 : Int) ≤ (j : Int)) = true := decide_eq_true h40
        clear h40 h41
        go_wp2_with fail
        go_ret
        exact ⟨⟨true, rfl, (fun h => by cases h)⟩, HB.out⟩
      · have h41 : (j : Int) < 40 := by omega
        have h42 : decide ((40 : Int) ≤ (j : Int)) = false := decide_eq_false h40
        have h43 : j + 1 ≤ 40 := by omega
        go_wp2_with fail
        refine HC.out.mono ?_
        rintro e w2 ⟨b, rfl, -, b2⟩
        have HB2 := Lib.hid (HB.out.trans (b2.mono HB.out.size))
        clear b2 es e0 e1 e2 e3 e4
        cases b
        · go_wp2_with fail
          go_roundw
          case rel => exact ⟨j + 1, by omega, h43, by go_num, HB2⟩
          case measure => simp [intOf]; omega
        · go_wp2_with fail
          go_ret
          exact ⟨⟨true, rfl, (fun h => by cases h)⟩, HB2.out⟩
    · obtain rfl : j = l.length := by omega
      go_wp2_with fail
      go_ret
      exact ⟨⟨false, rfl, fun _ => hj4⟩, HB.out⟩

set_option maxHeartbeats 2000000 in
set_option maxRecDepth 100000 in
theorem rmay_any (l : List Bd) (A : Option Addr) (pn cap : Nat) (W : World) (hR : BRow (· < W.heap.size) W A pn cap l) :
    Calls Tryz.prog 93 #[.slice A pn cap] W fun e w' => e = .returned (.bool (mayL l)) ∧ Below W.heap.size W w' := by
  obtain rfl := hR.len
  have hmax := hR.max
  unfold maxLen at hmax
  have HR := Lib.hid hR
  clear hR
  go_enter Tryz.func93, Tryz.ntmps93
  go_wp2_with fail
  go_loopw [3] (fun i wr => ∃ j : Nat, j ≤ l.length ∧ i = .int .i64 j ∧ Hid (Below W.heap.size W wr) ∧ Hid (mayL l = mayL (l.drop j))) (fun i _ => l.length - (intOf i).toNat)
  case atStart => exact ⟨0, Nat.zero_le _, rfl, Lib.hid (Below.refl _ _), Lib.hid rfl⟩
  case round =>
    obtain ⟨j, hj, rfl, HB, HM⟩ := hrel
    by_cases hlt : j < l.length
    · obtain ⟨y, hy⟩ : ∃ y, l[j]? = some y := ⟨l[j], List.getElem?_eq_getElem hlt⟩
      obtain ⟨ad, u, rfl, had, hsz, hE, hTy⟩ := HR.out.at_ j y hy
      have hEr := hE.keep (HB.out.block ad.block had)
      have hTr := hTy.keep (Q := (· < wr.heap.size)) (w' := wr) (fun b hb => HB.out.block b hb) (fun b hb => Nat.lt_of_lt_of_le hb HB.out.size)
      have HC := Lib.hid (rCheck_any y.2 u wr hTr)
      have HD : Hid (mayL l = (checkN y.2 == 0 && mayL (l.drop (j + 1)))) := Lib.hid (by
        rw [HM.out, List.drop_eq_getElem_cons hlt]
        rw [List.getElem?_eq_getElem hlt] at hy
        rw [Option.some.inj hy]
        rfl)
      obtain ⟨ys, yt⟩ := y
      obtain ⟨k', n', s', t', A', m', c', rfl⟩ : ∃ k' n' s' t' A' m' c', u = .agg #[.int .i8 k', .int .i64 n', .string s', .string t', .slice A' m' c'] := by
        dsimp only at hTy; cases hTy; exact ⟨_, _, _, _, _, _, _, rfl⟩
      obtain ⟨c0, c1, c2, c3, c4, hcc, es, e0, e1, e2, e3, e4⟩ := hEr
      simp only [Value.agg.injEq, Array.mk.injEq, List.cons.injEq, and_true] at hcc
      obtain ⟨rfl, rfl, rfl, rfl, rfl⟩ := hcc
      clear hE hTy hTr hy had hsz
      dsimp only at HC HD
      go_wp2_with fail
      refine HC.out.mono ?_
      rintro e w2 ⟨rfl, b2⟩
      have HB2 := Lib.hid (HB.out.trans (b2.mono HB.out.size))
      clear b2 es e0 e1 e2 e3 e4 HC
      by_cases hz : checkN yt = 0
      · have hz2 : (checkN yt == 0) = true := by simpa using hz
        have HM2 : Hid (mayL l = mayL (l.drop (j + 1))) := Lib.hid (by rw [HD.out, hz2, Bool.true_and])
        rw [hz]
        clear hz hz2 HD
        go_wp2_with fail
        go_roundw
        case rel => exact ⟨j + 1, by omega, by go_num, HB2, HM2⟩
        case measure => simp [intOf]; omega
      · have hz2 : (checkN yt == 0) = false := by simpa using hz
        have HM2 : Hid (mayL l = false) := Lib.hid (by rw [HD.out, hz2, Bool.false_and])
        have hz3 : (checkN yt != 0) = true := by simpa using hz
        clear HD
        go_wp2_with fail
        go_ret
        exact ⟨by rw [HM2.out]; rfl, HB2.out⟩
    · obtain rfl : j = l.length := by omega
      have HM2 : Hid (mayL l = true) := Lib.hid (by rw [HM.out, List.drop_length]; rfl)
      go_wp2_with fail
      go_ret
      exact ⟨by rw [HM2.out]; rfl, HB.out⟩

set_option maxHeartbeats 4000000 in
set_option maxRecDepth 100000 in
theorem Find_any (l : List Bd) (nm : ByteArray) (A : Option Addr) (pn cap : Nat) (W : World) (hR : BRow (· < W.heap.size) W A pn cap l) :
    Calls Tryz.prog 45 #[.slice A pn cap, .string nm] W fun e w' => ∃ k9 n9 s9 t9 A9 m9 c9, e = .returned (.tuple #[.agg #[.int .i8 k9, .int .i64 n9, .string s9, .string t9, .slice A9 m9 c9], .bool (findB l nm).isSome]) ∧
      TmAt (· < w'.heap.size) w' ((findB l nm).getD (intT 0)) (.agg #[.int .i8 k9, .int .i64 n9, .string s9, .string t9, .slice A9 m9 c9]) ∧ Below W.heap.size W w' := by
  obtain rfl := hR.len
  have hmax := hR.max
  unfold maxLen at hmax
  obtain ⟨w1, hw1⟩ : ∃ w1, w1 = W.alloc (.cells #[.int .i8 0, .int .i64 0, .string ⟨#[]⟩, .string ⟨#[]⟩, .slice none 0 0] 44) := ⟨_, rfl⟩
  have b1 : Below W.heap.size W w1 := by rw [hw1]; exact (Below.refl _ W).alloc (Nat.le_refl _) _
  have HG : Hid (w1.heap[W.heap.size]? = some (.cells #[.int .i8 0, .int .i64 0, .string ⟨#[]⟩, .string ⟨#[]⟩, .slice none 0 0] 44 (0, 0))) := Lib.hid (by rw [hw1]; exact block_alloc _ _)
  have HR := Lib.hid (hR.under b1 (Nat.le_refl _))
  have HB1 := Lib.hid b1
  have HZ1 : Hid (w1.heap.size = W.heap.size + 1) := Lib.hid (by rw [hw1, World.size_alloc])
  clear hR b1
  go_enter Tryz.func45, Tryz.ntmps45
  go_upto_region 1 with fail
  rw [← hw1]
  clear hw1
  go_wp2_with fail
  go_loopw [10] (fun i wr => ∃ j : Nat, j ≤ l.length ∧ i = .int .i64 j ∧ Hid (Below w1.heap.size w1 wr) ∧ Hid (findB l nm = findB (l.drop j) nm)) (fun i _ => l.length - (intOf i).toNat)
  case atStart => exact ⟨0, Nat.zero_le _, rfl, Lib.hid (Below.refl _ _), Lib.hid rfl⟩
  case round =>
    obtain ⟨j, hj, rfl, HB, HM⟩ := hrel
    by_cases hlt : j < l.length
    · obtain ⟨y, hy⟩ : ∃ y, l[j]? = some y := ⟨l[j], List.getElem?_eq_getElem hlt⟩
      obtain ⟨ad, u, rfl, had, hsz, hE, hTy⟩ := HR.out.at_ j y hy
      have hEr := hE.keep (HB.out.block ad.block (Nat.lt_of_lt_of_le had HB1.out.size))
      have hTr := hTy.keep (Q := (· < W.heap.size)) (w' := wr) (fun b hb => HB.out.block b (Nat.lt_of_lt_of_le hb HB1.out.size)) (fun b hb => hb)
      have HD : Hid (findB l nm = if y.1 = nm then some y.2 else findB (l.drop (j + 1)) nm) := Lib.hid (by
        rw [HM.out, List.drop_eq_getElem_cons hlt]
        rw [List.getElem?_eq_getElem hlt] at hy
        rw [Option.some.inj hy]
        rfl)
      obtain ⟨ys, yt⟩ := y
      obtain ⟨k', n', s', t', A', m', c', rfl⟩ : ∃ k' n' s' t' A' m' c', u = .agg #[.int .i8 k', .int .i64 n', .string s', .string t', .slice A' m' c'] := by
        dsimp only at hTy; cases hTy; exact ⟨_, _, _, _, _, _, _, rfl⟩
      obtain ⟨c0, c1, c2, c3, c4, hcc, es, e0, e1, e2, e3, e4⟩ := hEr
      simp only [Value.agg.injEq, Array.mk.injEq, List.cons.injEq, and_true] at hcc
      obtain ⟨rfl, rfl, rfl, rfl, rfl⟩ := hcc
      dsimp only at HD
      have HTR := Lib.hid hTr
      clear hE hTy hTr hy had hsz
      obtain ⟨V2, hV2⟩ : ∃ V2, V2 = wr.alloc (.cells #[.string ys, .int .i8 k', .int .i64 n', .string s', .string t', .slice A' m' c'] 61) := ⟨_, rfl⟩
      have bV : Below wr.heap.size wr V2 := by rw [hV2]; exact (Below.refl _ _).alloc (Nat.le_refl _) _
      have gB : V2.heap[wr.heap.size]? = some (.cells #[.string ys, .int .i8 k', .int .i64 n', .string s', .string t', .slice A' m' c'] 61 (0, 0)) := by rw [hV2]; exact block_alloc _ _
      have HB2 := Lib.hid (HB.out.trans (bV.mono HB.out.size))
      have HT2 : Hid (TmAt (· < W.heap.size) V2 yt (.agg #[.int .i8 k', .int .i64 n', .string s', .string t', .slice A' m' c'])) := Lib.hid (HTR.out.keep (fun b hb => bV.block b (Nat.lt_of_lt_of_le (Nat.lt_of_lt_of_le hb HB1.out.size) HB.out.size)) (fun _ h => h))
      have f0 : V2.cell? ⟨wr.heap.size, 0, none⟩ = some (.string ys) := cell_of_row (i := 0) gB rfl
      have f1 : V2.cell? ⟨wr.heap.size, 1, none⟩ = some (.int .i8 k') := cell_of_row (i := 1) gB rfl
      have f2 : V2.cell? ⟨wr.heap.size, 2, none⟩ = some (.int .i64 n') := cell_of_row (i := 2) gB rfl
      have f3 : V2.cell? ⟨wr.heap.size, 3, none⟩ = some (.string s') := cell_of_row (i := 3) gB rfl
      have f4 : V2.cell? ⟨wr.heap.size, 4, none⟩ = some (.string t') := cell_of_row (i := 4) gB rfl
      have f5 : V2.cell? ⟨wr.heap.size, 5, none⟩ = some (.slice A' m' c') := cell_of_row (i := 5) gB rfl
      clear bV gB
      go_upto_region 4 with fail
      rw [← hV2]
      clear hV2 es e0 e1 e2 e3 e4 HTR
      by_cases hn : ys = nm
      · have HF : Hid (findB l nm = some yt) := Lib.hid (by rw [HD.out, if_pos hn])
        have hn2 : (ys.toList == nm.toList) = true := by rw [hn]; exact beq_self_eq_true _
        clear hn
        have gR := (HB2.out.block _ (heap_lt HG.out)).trans HG.out
        clear HD
        obtain ⟨⟨r0, r1, r2, r3, r4⟩, rf0, rf1, rf2, rf3, rf4⟩ := five_fr gR
        have S5 := Lib.hid (set_five (.int .i8 k') (.int .i64 n') (.string s') (.string t') (.slice A' m' c') gR)
        go_wp2_with fail
        obtain ⟨s5, m5⟩ := S5.out
        generalize ((((((V2).setCell ⟨W.heap.size, 0, none⟩ (.int .i8 k')).setCell ⟨W.heap.size, 1, none⟩ (.int .i64 n')).setCell ⟨W.heap.size, 2, none⟩ (.string s')).setCell ⟨W.heap.size, 3, none⟩ (.string t')).setCell ⟨W.heap.size, 4, none⟩ (.slice A' m' c')) = VX at s5 m5 ⊢
        obtain ⟨z0, z1, z2, z3, z4⟩ := five_of s5
        refine bodyPost_ret (v := .tuple #[.agg #[.int .i8 k', .int .i64 n', .string s', .string t', .slice A' m' c'], .bool true]) (by simp [results, Tryz.f45, go_sem, z0, z1, z2, z3, z4]) rfl ?_
        refine ⟨_, _, _, _, _, _, _, by rw [HF.out]; rfl, ?_, ?_⟩
        · rw [HF.out]
          have z1 := HZ1.out
          have z2 := HB2.out.size
          have z3 := m5.size
          exact HT2.out.keep (fun b (hb : b < W.heap.size) => m5.block b (by omega) (by omega)) (fun b (hb : b < W.heap.size) => by omega)
        · exact (HB1.out.trans (HB2.out.mono HB1.out.size)).trans (m5.below (HB1.out.trans (HB2.out.mono HB1.out.size)).size (fun q (e : q = _) => by omega))
      · have HM2 : Hid (findB l nm = findB (l.drop (j + 1)) nm) := Lib.hid (by rw [HD.out, if_neg hn])
        have hn2 : (ys.toList == nm.toList) = false := by
          cases h : (ys.toList == nm.toList) with
          | false => rfl
          | true => exact absurd (ByteArray.ext (Array.toList_inj.1 (by have := eq_of_beq h; rwa [ByteArray.toList_eq, ByteArray.toList_eq] at this))) hn
        clear hn
        clear HD
        go_wp2_with fail
        go_roundw
        case rel => exact ⟨j + 1, by omega, by go_num, HB2, HM2⟩
        case measure => simp [intOf]; omega
    · obtain rfl : j = l.length := by omega
      have HF : Hid (findB l nm = none) := Lib.hid (by rw [HM.out, List.drop_length]; rfl)
      have gR := (HB.out.block _ (heap_lt HG.out)).trans HG.out
      obtain ⟨⟨r0, r1, r2, r3, r4⟩, rf0, rf1, rf2, rf3, rf4⟩ := five_fr gR
      have S5 := Lib.hid (set_five (.int .i8 0) (.int .i64 0) (.string ⟨#[]⟩) (.string ⟨#[]⟩) (.slice none 0 0) gR)
      go_wp2_with fail
      obtain ⟨s5, m5⟩ := S5.out
      generalize ((((((wr).setCell ⟨W.heap.size, 0, none⟩ (.int .i8 0)).setCell ⟨W.heap.size, 1, none⟩ (.int .i64 0)).setCell ⟨W.heap.size, 2, none⟩ (.string ⟨#[]⟩)).setCell ⟨W.heap.size, 3, none⟩ (.string ⟨#[]⟩)).setCell ⟨W.heap.size, 4, none⟩ (.slice none 0 0)) = VX at s5 m5 ⊢
      obtain ⟨z0, z1, z2, z3, z4⟩ := five_of s5
      refine bodyPost_ret (v := .tuple #[.agg #[.int .i8 0, .int .i64 0, .string ⟨#[]⟩, .string ⟨#[]⟩, .slice none 0 0], .bool false]) (by simp [results, Tryz.f45, go_sem, z0, z1, z2, z3, z4]) rfl ?_
      refine ⟨_, _, _, _, _, _, _, by rw [HF.out]; rfl, ?_, ?_⟩
      · rw [HF.out]
        exact .leaf _ _ 0 0 ⟨#[]⟩ (by decide) (by decide) (by decide)
      · exact (HB1.out.trans (HB.out.mono HB1.out.size)).trans (m5.below (HB1.out.trans (HB.out.mono HB1.out.size)).size (fun q (e : q = _) => by omega))
end Go.Proofs.YtkceoiaaiaomoaaGreatDoor
end
section
set_option linter.unusedVariables false
namespace Go.Proofs.YtkceoiaaiaomoaaGreatDoor
open Go.RowKit

def madeE (m : Nat) : Int := if 256 < 1 + m then 11 else 0
def MadeP (Q : Nat → Prop) (k : Int) (l : List Tm) (w : World) (e : Ending) (w' : World) : Prop :=
  ∃ (k' : Int) (A' : Option Addr) (n' cap' : Nat), e = .returned (.tuple #[.agg #[.int .i8 k', .int .i64 0, .string ⟨#[]⟩, .string ⟨#[]⟩, .slice A' n' cap'], .int .i64 (madeE (Tm.pres l).length)]) ∧
    (madeE (Tm.pres l).length = 0 → TmAt (fun b => Q b ∨ (w.heap.size ≤ b ∧ b < w'.heap.size)) w' (.mk k 0 ⟨#[]⟩ ⟨#[]⟩ l) (.agg #[.int .i8 k', .int .i64 0, .string ⟨#[]⟩, .string ⟨#[]⟩, .slice A' n' cap'])) ∧ Below w.heap.size w w'

set_option maxHeartbeats 8000000 in
set_option maxRecDepth 100000 in
theorem made_any (Q : Nat → Prop) (k : Int) (hk : -128 ≤ k ∧ k ≤ 127) (l : List Tm) (A : Option Addr) (n cap : Nat) (w : World) (hQ : ∀ b, Q b → b < w.heap.size) (hRQ : TRow Q w A n cap l) (hl : l.length ≤ 100000) (hc : ∀ y ∈ l, checkN y = 0) :
    Calls Tryz.prog 207 #[.int .i8 k, .slice A n cap] w (MadeP Q k l w) := by
  obtain rfl := hRQ.len
  have hR := hRQ.mono hQ
  obtain ⟨w1, hw1⟩ : ∃ w1, w1 = w.alloc (.cells #[(.int .i8 0), (.int .i64 0), (.string ⟨#[]⟩), (.string ⟨#[]⟩), (.slice none 0 0)] 44) := ⟨_, rfl⟩
  have B1 : Below w.heap.size w w1 := by rw [hw1]; exact (Below.refl _ w).alloc (Nat.le_refl _) _
  have g1 : w1.heap[w.heap.size]? = some (.cells #[(.int .i8 0), (.int .i64 0), (.string ⟨#[]⟩), (.string ⟨#[]⟩), (.slice none 0 0)] 44 (0, 0)) := by rw [hw1]; exact block_alloc _ _
  have HRQ := Lib.hid hRQ
  have HQ := Lib.hid hQ
  have HR := Lib.hid hR
  have HB1 := Lib.hid B1
  have HG1 := Lib.hid g1
  have HCK := Lib.hid hc
  have HLT : Hid (w.heap.size < w1.heap.size) := heap_lt g1
  clear hRQ hQ hR B1 g1 hc
  go_enter Tryz.func207, Tryz.ntmps207
  go_wp2_with fail
  rw [← hw1]
  clear hw1
  go_loopw [6] (fun i wr => ∃ j : Nat, j ≤ l.length ∧ i = .int .i64 j ∧ Below w1.heap.size w1 wr) (fun i _ => l.length - (intOf i).toNat)
  case atStart => exact ⟨0, Nat.zero_le _, rfl, Below.refl _ _⟩
  case round =>
    obtain ⟨j, hj, rfl, hB⟩ := hrel
    have HB := Lib.hid hB
    have HW : Hid (Below w.heap.size w wr) := HB1.out.trans (hB.mono HB1.out.size)
    clear hB
    by_cases hlt : j < l.length
    · obtain ⟨y, hy⟩ : ∃ y, l[j]? = some y := ⟨l[j], List.getElem?_eq_getElem hlt⟩
      obtain ⟨ad, u, rfl, had, hE, hTy⟩ := HR.out.at_ j y hy
      have hEr : ElemAt wr ad j u := hE.keep (HW.out.block ad.block had)
      have hTr : TmAt (· < wr.heap.size) wr y u := hTy.later HW.out
      obtain ⟨c0, c1, c2, c3, c4, rfl, e0, e1, e2, e3, e4⟩ := hEr
      have HC := Lib.hid (rCheck_any y _ wr hTr)
      rw [HCK.out y (List.mem_of_getElem? hy)] at HC
      clear hE hTy hy hTr had
      go_wp2_with fail
      refine HC.out.mono ?_
      rintro e w2 ⟨rfl, b2⟩
      have HB2 := Lib.hid (HB.out.trans (b2.mono HB.out.size))
      clear b2 e0 e1 e2 e3 e4
      go_wp2_with fail
      go_roundw
      case rel => exact ⟨j + 1, by omega, by go_num, HB2.out⟩
      case measure => simp [intOf]; omega
    · obtain rfl : j = l.length := by omega
      obtain ⟨w2, hw2⟩ : ∃ w2, w2 = wr.alloc (.cells #[(.int .i8 k), (.int .i64 0), (.string ⟨#[]⟩), (.string ⟨#[]⟩), (.slice none 0 0)] 44) := ⟨_, rfl⟩
      have b2 : Below wr.heap.size wr w2 := by rw [hw2]; exact (Below.refl _ _).alloc (Nat.le_refl _) _
      have g2 : w2.heap[wr.heap.size]? = some (.cells #[(.int .i8 k), (.int .i64 0), (.string ⟨#[]⟩), (.string ⟨#[]⟩), (.slice none 0 0)] 44 (0, 0)) := by rw [hw2]; exact block_alloc _ _
      have hlw : w.heap.size < wr.heap.size := Nat.lt_of_lt_of_le HLT.out HB.out.size
      have HO := Lib.hid (OwnT.nil w2.heap.size Q w2)
      have HB2 := Lib.hid (HW.out.trans (b2.mono HW.out.size))
      have HG0 : Hid (w2.heap[w.heap.size]? = some (.cells #[(.int .i8 0), (.int .i64 0), (.string ⟨#[]⟩), (.string ⟨#[]⟩), (.slice none 0 0)] 44 (0, 0))) := (b2.block _ hlw).trans ((HB.out.block _ HLT.out).trans HG1.out)
      have HR2 := Lib.hid (HRQ.out.keep (fun b hb => HB2.out.block b (HQ.out b hb)) (fun _ h => h))
      have HP2 : Hid (∀ b, Q b → b < w2.heap.size ∧ (Value.slice none 0 0).ownBlock ≠ some b) := fun b hb => ⟨Nat.lt_of_lt_of_le (HQ.out b hb) HB2.out.size, by simp [Value.ownBlock]⟩
      have HLE : Hid (([] : List Tm).length + l.length ≤ 1000000) := by show _ ≤ _; simp; omega
      have x4 : w2.cell? ⟨wr.heap.size, 4, none⟩ = some (.slice none 0 0) := cell_of_row g2 rfl
      have f4 : w2.frozen? ⟨wr.heap.size, 4, none⟩ = false := free_of_row g2
      have HG2 := Lib.hid g2
      have HLW := Lib.hid hlw
      clear b2 g2 hlw
      subst hw2
      go_wp2_with (at_builtin; refine wpList_own_terms rfl (.tmp 24) (.tmp 25) rfl HO.out (Nat.le_refl _) HP2.out rfl rfl HR2.out HLE.out ?_)
      intro v' w' O' hg hwh
      obtain ⟨A', cap', rfl⟩ := O'.shape
      have hzz : (wr.alloc (.cells #[(.int .i8 k), (.int .i64 0), (.string ⟨#[]⟩), (.string ⟨#[]⟩), (.slice none 0 0)] 44)).heap.size = wr.heap.size + 1 := World.size_alloc _ _
      have mg : Mod (fun _ => False) (wr.alloc (.cells #[(.int .i8 k), (.int .i64 0), (.string ⟨#[]⟩), (.string ⟨#[]⟩), (.slice none 0 0)] 44)) w' := Mod.grown hg (fun k _ e => by simp [Value.ownBlock] at e)
      have hsz := mg.size
      have hT := (O'.trow (Q := fun b => Q b ∨ (wr.heap.size + 1 ≤ b ∧ b < w'.heap.size)) (fun b hb => .inl hb) (fun b h1 h2 _ => .inr ⟨by omega, h2⟩)).2
      have g3 := (mg.block _ (heap_lt HG2.out) (fun h => h)).trans HG2.out
      have g30 := (mg.block _ (heap_lt HG0.out) (fun h => h)).trans HG0.out
      have hB3 := HB2.out.trans (mg.below HB2.out.size (fun k h => h.elim))
      have y0 : w'.cell? ⟨wr.heap.size, 0, none⟩ = some (.int .i8 k) := cell_of_row g3 rfl
      have y1 : w'.cell? ⟨wr.heap.size, 1, none⟩ = some (.int .i64 0) := cell_of_row g3 rfl
      have y2 : w'.cell? ⟨wr.heap.size, 2, none⟩ = some (.string ⟨#[]⟩) := cell_of_row g3 rfl
      have y3 : w'.cell? ⟨wr.heap.size, 3, none⟩ = some (.string ⟨#[]⟩) := cell_of_row g3 rfl
      have y4 : w'.cell? ⟨wr.heap.size, 4, none⟩ = some (.slice none 0 0) := cell_of_row g3 rfl
      have fy0 : w'.frozen? ⟨wr.heap.size, 0, none⟩ = false := free_of_row g3
      have fy1 : w'.frozen? ⟨wr.heap.size, 1, none⟩ = false := free_of_row g3
      have fy2 : w'.frozen? ⟨wr.heap.size, 2, none⟩ = false := free_of_row g3
      have fy3 : w'.frozen? ⟨wr.heap.size, 3, none⟩ = false := free_of_row g3
      have fy4 : w'.frozen? ⟨wr.heap.size, 4, none⟩ = false := free_of_row g3
      obtain ⟨W5, hW5⟩ : ∃ W5, W5 = w'.setCell ⟨wr.heap.size, 4, none⟩ (.slice A' l.length cap') := ⟨_, rfl⟩
      have m5 : Mod (fun k => k = wr.heap.size) w' W5 := by rw [hW5]; exact Mod.setCell _ _ _ (.inl rfl)
      have g5 : W5.heap[wr.heap.size]? = some (.cells #[(.int .i8 k), (.int .i64 0), (.string ⟨#[]⟩), (.string ⟨#[]⟩), (.slice A' l.length cap')] 44 (0, 0)) := by rw [hW5]; exact set_row (i := 4) _ g3
      have hlw := HLW.out
      have g50 := (m5.block _ (heap_lt g30) (by omega)).trans g30
      have hB5 := hB3.trans (m5.below hB3.size (fun k (e : k = wr.heap.size) => by omega))
      have hT5 : TRow (fun b => Q b ∨ (wr.heap.size + 1 ≤ b ∧ b < W5.heap.size)) W5 A' l.length cap' l := hT.keep (fun b hb => m5.block b (by rcases hb with hb | hb; exact Nat.lt_of_lt_of_le (HQ.out b hb) (hB3.size); exact hb.2) (fun (e : b = wr.heap.size) => by rcases hb with hb | hb; (have := HQ.out b hb; omega); (have := hb.1; omega))) (fun b hb => by rcases hb with hb | hb; exact .inl hb; exact .inr ⟨hb.1, Nat.lt_of_lt_of_le hb.2 m5.size⟩)
      have hX : TmAt (fun b => Q b ∨ (wr.heap.size + 1 ≤ b ∧ b < W5.heap.size)) W5 (.mk k 0 ⟨#[]⟩ ⟨#[]⟩ l) (.agg #[(.int .i8 k), (.int .i64 0), (.string ⟨#[]⟩), (.string ⟨#[]⟩), (.slice A' l.length cap')]) := TmAt.of_row hT5 hk (by decide) (by show 0 ≤ maxLen; omega) (by show 0 ≤ maxLen; omega)
      have HSZ := Lib.hid (rSize_any _ _ W5 (hX.mono (fun b hb => by rcases hb with hb | hb; exact Nat.lt_of_lt_of_le (HQ.out b hb) hB5.size; exact hb.2)))
      have HX := Lib.hid hX
      have HB5 := Lib.hid hB5
      have HG5 := Lib.hid g5
      have HG50 := Lib.hid g50
      have hnod : (Tm.mk k 0 ⟨#[]⟩ ⟨#[]⟩ l).nodes = 1 + (Tm.pres l).length := by unfold Tm.nodes Tm.pre; simp; omega
      rw [hnod] at HSZ
      clear O' hg hwh hzz mg hsz hT g3 g30 hB3 m5 g5 g50 hB5 hT5 hX hnod hlw x4 f4
      go_wp2_with fail
      rw [← hW5]
      clear hW5
      refine HSZ.out.mono ?_
      rintro e V6 ⟨rfl, b6⟩
      have h6 := (b6.block _ (heap_lt HG5.out)).trans HG5.out
      have h60 := (b6.block _ (heap_lt HG50.out)).trans HG50.out
      have HB6 := Lib.hid (HB5.out.trans (b6.mono HB5.out.size))
      have HX6 := Lib.hid (HX.out.keep (Q := fun b => Q b ∨ (wr.heap.size + 1 ≤ b ∧ b < V6.heap.size)) (fun b hb => b6.block b (by rcases hb with hb | hb; exact Nat.lt_of_lt_of_le (HQ.out b hb) HB5.out.size; exact hb.2)) (fun b hb => by rcases hb with hb | hb; exact .inl hb; exact .inr ⟨hb.1, Nat.lt_of_lt_of_le hb.2 b6.size⟩))
      have r0 : V6.cell? ⟨w.heap.size, 0, none⟩ = some (.int .i8 0) := cell_of_row h60 rfl
      have r1 : V6.cell? ⟨w.heap.size, 1, none⟩ = some (.int .i64 0) := cell_of_row h60 rfl
      have r2 : V6.cell? ⟨w.heap.size, 2, none⟩ = some (.string ⟨#[]⟩) := cell_of_row h60 rfl
      have r3 : V6.cell? ⟨w.heap.size, 3, none⟩ = some (.string ⟨#[]⟩) := cell_of_row h60 rfl
      have r4 : V6.cell? ⟨w.heap.size, 4, none⟩ = some (.slice none 0 0) := cell_of_row h60 rfl
      have fr0 : V6.frozen? ⟨w.heap.size, 0, none⟩ = false := free_of_row h60
      have fr1 : V6.frozen? ⟨w.heap.size, 1, none⟩ = false := free_of_row h60
      have fr2 : V6.frozen? ⟨w.heap.size, 2, none⟩ = false := free_of_row h60
      have fr3 : V6.frozen? ⟨w.heap.size, 3, none⟩ = false := free_of_row h60
      have fr4 : V6.frozen? ⟨w.heap.size, 4, none⟩ = false := free_of_row h60
      clear y0 y1 y2 y3 y4 fy0 fy1 fy2 fy3 fy4 b6
      by_cases hbig : 256 < 1 + (Tm.pres l).length
      · have HE0 : Hid (madeE (Tm.pres l).length = 11) := if_pos hbig
        have SV := Lib.hid (set_five (.int .i8 0) (.int .i64 0) (.string ⟨#[]⟩) (.string ⟨#[]⟩) (.slice none 0 0) h60)
        have hgt : (256 : Int) < ((min (1 + (Tm.pres l).length) 257 : Nat) : Int) := by omega
        generalize (min (1 + (Tm.pres l).length) 257 : Nat) = mm at hgt ⊢
        clear h6 h60 hbig
        go_wp2_with fail
        obtain ⟨s5, m5⟩ := SV.out
        generalize ((((V6.setCell ⟨w.heap.size, 0, none⟩ (.int .i8 0)).setCell ⟨w.heap.size, 1, none⟩ (.int .i64 0)).setCell ⟨w.heap.size, 2, none⟩ (.string ⟨#[]⟩)).setCell ⟨w.heap.size, 3, none⟩ (.string ⟨#[]⟩)).setCell ⟨w.heap.size, 4, none⟩ (.slice none 0 0) = VX at s5 m5 ⊢
        have v0 := cell_of_row (i := 0) s5 rfl
        have v1 := cell_of_row (i := 1) s5 rfl
        have v2 := cell_of_row (i := 2) s5 rfl
        have v3 := cell_of_row (i := 3) s5 rfl
        have v4 := cell_of_row (i := 4) s5 rfl
        refine bodyPost_ret (v := .tuple #[.agg #[(.int .i8 0), (.int .i64 0), (.string ⟨#[]⟩), (.string ⟨#[]⟩), (.slice none 0 0)], .int .i64 11]) (by simp [results, Tryz.f207, go_sem, v0, v1, v2, v3, v4]) rfl ⟨0, none, 0, 0, by rw [HE0.out], fun h => ?_, ?_⟩
        · rw [HE0.out] at h; exact absurd h (by decide)
        · exact HB6.out.trans (m5.below HB6.out.size (fun k (e : k = w.heap.size) => by omega))
      · have HE0 : Hid (madeE (Tm.pres l).length = 0) := if_neg hbig
        have SV := Lib.hid (set_five (.int .i8 k) (.int .i64 0) (.string ⟨#[]⟩) (.string ⟨#[]⟩) (.slice A' l.length cap') h60)
        have hle : ¬ (256 : Int) < ((min (1 + (Tm.pres l).length) 257 : Nat) : Int) := by omega
        generalize (min (1 + (Tm.pres l).length) 257 : Nat) = mm at hle ⊢
        have t0 : V6.cell? ⟨wr.heap.size, 0, none⟩ = some (.int .i8 k) := cell_of_row h6 rfl
        have t1 : V6.cell? ⟨wr.heap.size, 1, none⟩ = some (.int .i64 0) := cell_of_row h6 rfl
        have t2 : V6.cell? ⟨wr.heap.size, 2, none⟩ = some (.string ⟨#[]⟩) := cell_of_row h6 rfl
        have t3 : V6.cell? ⟨wr.heap.size, 3, none⟩ = some (.string ⟨#[]⟩) := cell_of_row h6 rfl
        have t4 : V6.cell? ⟨wr.heap.size, 4, none⟩ = some (.slice A' l.length cap') := cell_of_row h6 rfl
        clear h6 h60 hbig
        go_wp2_with fail
        obtain ⟨s5, m5⟩ := SV.out
        generalize ((((V6.setCell ⟨w.heap.size, 0, none⟩ (.int .i8 k)).setCell ⟨w.heap.size, 1, none⟩ (.int .i64 0)).setCell ⟨w.heap.size, 2, none⟩ (.string ⟨#[]⟩)).setCell ⟨w.heap.size, 3, none⟩ (.string ⟨#[]⟩)).setCell ⟨w.heap.size, 4, none⟩ (.slice A' l.length cap') = VX at s5 m5 ⊢
        have v0 := cell_of_row (i := 0) s5 rfl
        have v1 := cell_of_row (i := 1) s5 rfl
        have v2 := cell_of_row (i := 2) s5 rfl
        have v3 := cell_of_row (i := 3) s5 rfl
        have v4 := cell_of_row (i := 4) s5 rfl
        refine bodyPost_ret (v := .tuple #[.agg #[(.int .i8 k), (.int .i64 0), (.string ⟨#[]⟩), (.string ⟨#[]⟩), (.slice A' l.length cap')], .int .i64 0]) (by simp [results, Tryz.f207, go_sem, v0, v1, v2, v3, v4]) rfl ⟨k, A', l.length, cap', by rw [HE0.out], fun _ => ?_, ?_⟩
        · refine HX6.out.keep (fun b hb => m5.block b (by rcases hb with hb | hb; exact Nat.lt_of_lt_of_le (HQ.out b hb) HB6.out.size; exact hb.2) (fun (e : b = w.heap.size) => by rcases hb with hb | hb; (have := HQ.out b hb; omega); (have := hb.1; have := HLW.out; omega))) (fun b hb => ?_)
          rcases hb with hb | hb
          · exact .inl hb
          · exact .inr ⟨by have := hb.1; have := HLW.out; omega, Nat.lt_of_lt_of_le hb.2 m5.size⟩
        · exact HB6.out.trans (m5.below HB6.out.size (fun k (e : k = w.heap.size) => by omega))

set_option maxHeartbeats 4000000 in
set_option maxRecDepth 100000 in
theorem rTuple_any (Q : Nat → Prop) (l : List Tm) (A : Option Addr) (n cap : Nat) (w : World) (hQ : ∀ b, Q b → b < w.heap.size) (hRQ : TRow Q w A n cap l) (hl : l.length ≤ 100000) (hc : ∀ y ∈ l, checkN y = 0) :
    Calls Tryz.prog 153 #[.slice A n cap] w (MadeP Q 5 l w) := by
  obtain ⟨w1, hw1⟩ : ∃ w1, w1 = w.alloc (.cells #[(.int .i8 0), (.int .i64 0), (.string ⟨#[]⟩), (.string ⟨#[]⟩), (.slice none 0 0)] 44) := ⟨_, rfl⟩
  have B1 : Below w.heap.size w w1 := by rw [hw1]; exact (Below.refl _ w).alloc (Nat.le_refl _) _
  have g1 : w1.heap[w.heap.size]? = some (.cells #[(.int .i8 0), (.int .i64 0), (.string ⟨#[]⟩), (.string ⟨#[]⟩), (.slice none 0 0)] 44 (0, 0)) := by rw [hw1]; exact block_alloc _ _
  have HC := Lib.hid (made_any Q 5 (by decide) l A n cap w1 (fun b hb => Nat.lt_of_lt_of_le (hQ b hb) B1.size) (hRQ.keep (fun b hb => B1.block b (hQ b hb)) (fun _ h => h)) hl hc)
  have HQ := Lib.hid hQ
  have HB1 := Lib.hid B1
  have HG1 := Lib.hid g1
  clear hQ hRQ B1 g1 hc
  go_enter Tryz.func153, Tryz.ntmps153
  go_wp2_with fail
  rw [← hw1]
  clear hw1
  refine HC.out.mono ?_
  rintro e V ⟨k', A', n', cap', rfl, hT, b2⟩
  have gB := (b2.block _ (heap_lt HG1.out)).trans HG1.out
  have SV := Lib.hid (set_five (.int .i8 k') (.int .i64 0) (.string ⟨#[]⟩) (.string ⟨#[]⟩) (.slice A' n' cap') gB)
  have y0 : V.cell? ⟨w.heap.size, 0, none⟩ = some (.int .i8 0) := cell_of_row gB rfl
  have y1 : V.cell? ⟨w.heap.size, 1, none⟩ = some (.int .i64 0) := cell_of_row gB rfl
  have y2 : V.cell? ⟨w.heap.size, 2, none⟩ = some (.string ⟨#[]⟩) := cell_of_row gB rfl
  have y3 : V.cell? ⟨w.heap.size, 3, none⟩ = some (.string ⟨#[]⟩) := cell_of_row gB rfl
  have y4 : V.cell? ⟨w.heap.size, 4, none⟩ = some (.slice none 0 0) := cell_of_row gB rfl
  have f0 : V.frozen? ⟨w.heap.size, 0, none⟩ = false := free_of_row gB
  have f1 : V.frozen? ⟨w.heap.size, 1, none⟩ = false := free_of_row gB
  have f2 : V.frozen? ⟨w.heap.size, 2, none⟩ = false := free_of_row gB
  have f3 : V.frozen? ⟨w.heap.size, 3, none⟩ = false := free_of_row gB
  have f4 : V.frozen? ⟨w.heap.size, 4, none⟩ = false := free_of_row gB
  have HB2 := Lib.hid (HB1.out.trans (b2.mono HB1.out.size))
  have HT := Lib.hid hT
  have HLT : Hid (w.heap.size < w1.heap.size) := heap_lt HG1.out
  clear gB b2 hT
  go_wp2_with fail
  obtain ⟨s5, m5⟩ := SV.out
  generalize ((((V.setCell ⟨w.heap.size, 0, none⟩ (.int .i8 k')).setCell ⟨w.heap.size, 1, none⟩ (.int .i64 0)).setCell ⟨w.heap.size, 2, none⟩ (.string ⟨#[]⟩)).setCell ⟨w.heap.size, 3, none⟩ (.string ⟨#[]⟩)).setCell ⟨w.heap.size, 4, none⟩ (.slice A' n' cap') = VX at s5 m5 ⊢
  have v0 := cell_of_row (i := 0) s5 rfl
  have v1 := cell_of_row (i := 1) s5 rfl
  have v2 := cell_of_row (i := 2) s5 rfl
  have v3 := cell_of_row (i := 3) s5 rfl
  have v4 := cell_of_row (i := 4) s5 rfl
  refine bodyPost_ret (v := .tuple #[.agg #[(.int .i8 k'), (.int .i64 0), (.string ⟨#[]⟩), (.string ⟨#[]⟩), (.slice A' n' cap')], .int .i64 (madeE (Tm.pres l).length)]) (by simp [results, Tryz.f153, go_sem, v0, v1, v2, v3, v4]) rfl ⟨k', A', n', cap', rfl, fun h => ?_, ?_⟩
  · refine (HT.out h).keep (fun b hb => m5.block b (by rcases hb with hb | hb; exact Nat.lt_of_lt_of_le (HQ.out b hb) HB2.out.size; exact hb.2) (fun (e : b = w.heap.size) => by rcases hb with hb | hb; (have := HQ.out b hb; omega); (have := hb.1; have := HLT.out; omega))) (fun b hb => ?_)
    rcases hb with hb | hb
    · exact .inl hb
    · exact .inr ⟨by have := hb.1; have := HLT.out; omega, Nat.lt_of_lt_of_le hb.2 m5.size⟩
  · exact HB2.out.trans (m5.below HB2.out.size (fun k (e : k = w.heap.size) => by omega))
end Go.Proofs.YtkceoiaaiaomoaaGreatDoor
end
