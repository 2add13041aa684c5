/- term.fit, FromList, List, proper: their contracts. -/
import Derived.Test.YtohbljgagbnjoaaDoorRdTm
import Derived.Test.YtohbljgagbnjoaaDoorSizeT
import Derived.Test.YtohbljgagbnjoaaDoorBoxes
import Derived.Test.YtohbljgagbnjoaaDoorOrdPure
set_option linter.unusedVariables false
namespace Go.Proofs.YtohbljgagbnjoaaDoor
open Go.RowKit

theorem check_of {x : Tm} (hV : Valid x) (hn : x.nodes ≤ 256) : checkN x = 0 := by
  unfold checkN
  rw [if_pos (List.all_eq_true.2 (fun y hy => hV y (List.mem_of_mem_take hy))), if_neg (by omega)]

/-- The nodes of parts, each counted up to 257. -/
def sumN : List Tm → Nat
  | [] => 0
  | x :: l => min 257 x.nodes + sumN l
theorem sumN_append (a b : List Tm) : sumN (a ++ b) = sumN a + sumN b := by
  induction a with
  | nil => simp [sumN]
  | cons x a ih => simp [sumN, ih]; omega
theorem sumN_le (l : List Tm) : sumN l ≤ 257 * l.length := by
  induction l with
  | nil => simp [sumN]
  | cons x l ih => simp [sumN]; omega
theorem sumN_take_succ {l : List Tm} {j : Nat} {x : Tm} (h : l[j]? = some x) : sumN (l.take (j + 1)) = sumN (l.take j) + min 257 x.nodes := by
  rw [List.take_add_one, h, sumN_append]; simp [sumN]
theorem sumN_take_le (l : List Tm) (j : Nat) : sumN (l.take j) ≤ sumN l := by
  have h : sumN l = sumN (l.take j) + sumN (l.drop j) := by rw [← sumN_append, List.take_append_drop]
  omega
theorem sumN_small (l : List Tm) (h : sumN l ≤ 256) : (Tm.pres l).length = sumN l ∧ ∀ x ∈ l, x.nodes ≤ 256 := by
  induction l with
  | nil => exact ⟨rfl, fun x hx => by simp at hx⟩
  | cons x l ih =>
    simp only [sumN] at h ⊢
    have hn : x.nodes ≤ 256 := by omega
    obtain ⟨h1, h2⟩ := ih (by omega)
    refine ⟨by rw [Tm.pres, List.length_append, h1]; unfold Tm.nodes at *; omega, fun y hy => ?_⟩
    rcases List.mem_cons.1 hy with rfl | hy
    · exact hn
    · exact h2 y hy

/-- Why parts can't be put together with so many nodes beside theirs. -/
def fitN (b : Nat) (l : List Tm) : Int := if l.any (fun x => checkN x == 30) = true then 30 else if 256 < b + sumN l then 11 else 0

theorem check_val (x : Tm) : checkN x = 0 ∨ checkN x = 11 ∨ checkN x = 30 := by
  unfold checkN; split
  · split
    · exact .inr (.inl rfl)
    · exact .inl rfl
  · exact .inr (.inr rfl)

set_option maxHeartbeats 4000000 in
set_option maxRecDepth 100000 in
theorem fit_any (b : Nat) (hb : b ≤ 1000000000000) (A : Option Addr) (n cap : Nat) (l : List Tm) (hl : l.length ≤ 1000000000000) (w : World) (hR : TRow (· < w.heap.size) w A n cap l) (hS : Spans w) :
    Calls Tryd.prog 44 #[.int .i64 b, .slice A n cap] w fun e w' => e = .returned (.int .i64 (fitN b l)) ∧ Below w.heap.size w w' := by
  obtain rfl := hR.len
  have HR := Lib.hid hR
  have HSP := Lib.hid hS
  obtain ⟨R, hRd⟩ : ∃ R, R = fitN b l := ⟨_, rfl⟩
  have HF := Lib.hid hRd
  rw [← hRd]
  have hsl := sumN_le l
  have HSL := Lib.hid hsl
  clear hR hS hRd hsl
  go_enter Tryd.func44, Tryd.ntmps44
  go_wp2_with fail
  go_loopw [5, 11] (fun s i wr => ∃ j : Nat, j ≤ l.length ∧ i = .int .i64 j ∧ (∃ q : Nat, s = .int .i64 q ∧ q = b + sumN (l.take j)) ∧ (∀ y ∈ l.take j, checkN y ≠ 30) ∧ Below w.heap.size w wr) (fun _ i _ => l.length - (intOf i).toNat)
  case atStart => exact ⟨0, Nat.zero_le _, rfl, ⟨b, rfl, by simp [sumN]⟩, fun y hy => by simp at hy, Below.refl _ _⟩
  case round =>
    obtain ⟨j, hj, rfl, ⟨q, rfl, hq⟩, hno, hB⟩ := hrel
    have hqb : q ≤ 300000000000000 := by have := sumN_take_le l j; have := HSL.out; omega
    have HQ := Lib.hid hq
    have HNO := Lib.hid hno
    have HB := Lib.hid hB
    clear hq hno hB
    by_cases hlt : j < l.length
    · obtain ⟨y, hy⟩ : ∃ y, l[j]? = some y := ⟨l[j], List.getElem?_eq_getElem hlt⟩
      obtain ⟨ad, u, rfl, had, hE, hTy⟩ := HR.out.at_ j y hy
      have hEr : ElemAt wr ad j u := hE.keep (HB.out.block ad.block had)
      have hTr := hTy.later HB.out
      obtain ⟨ky, ny, sy, ty, Ly, Ay, capy, ey, rfl⟩ : ∃ k' n' s' t' L' A' cap', y = Tm.mk k' n' s' t' L' ∧ u = .agg #[.int .i8 k', .int .i64 n', .string s', .string t', .slice A' L'.length cap'] := by
        cases hTy; exact ⟨_, _, _, _, _, _, _, rfl, rfl⟩
      clear ey
      obtain ⟨c0, c1, c2, c3, c4, hcc, e0, e1, e2, e3, e4⟩ := hEr
      simp only [Value.agg.injEq, Array.mk.injEq, List.cons.injEq, and_true] at hcc
      obtain ⟨rfl, rfl, rfl, rfl, rfl⟩ := hcc
      obtain ⟨wz, hwz⟩ : ∃ wz, wz = wr.alloc (.cells #[.int .i8 ky, .int .i64 ny, .string sy, .string ty, .slice Ay Ly.length capy] 25) := ⟨_, rfl⟩
      have bz : Below wr.heap.size wr wz := by rw [hwz]; exact (Below.refl _ _).alloc (Nat.le_refl _) _
      have gz : wz.heap[wr.heap.size]? = some (.cells #[.int .i8 ky, .int .i64 ny, .string sy, .string ty, .slice Ay Ly.length capy] 25 (0, 0)) := by rw [hwz]; exact block_alloc _ _
      have hBz : Below w.heap.size w wz := HB.out.trans (bz.mono HB.out.size)
      have HC := Lib.hid (Check_any y _ wz (hTr.later bz) (HSP.out.below hBz HSP.out.lt))
      have HTZ := Lib.hid (hTr.later bz)
      have HGZ := Lib.hid gz
      have HBZ := Lib.hid hBz
      have HY := Lib.hid hy
      have z0 : wz.cell? ⟨wr.heap.size, 0, none⟩ = some (.int .i8 ky) := cell_of_row gz rfl
      have z1 : wz.cell? ⟨wr.heap.size, 1, none⟩ = some (.int .i64 ny) := cell_of_row gz rfl
      have z2 : wz.cell? ⟨wr.heap.size, 2, none⟩ = some (.string sy) := cell_of_row gz rfl
      have z3 : wz.cell? ⟨wr.heap.size, 3, none⟩ = some (.string ty) := cell_of_row gz rfl
      have z4 : wz.cell? ⟨wr.heap.size, 4, none⟩ = some (.slice Ay Ly.length capy) := cell_of_row gz rfl
      subst hwz
      clear hE hTy hTr bz gz hBz hy had
      go_wp2_with fail
      refine HC.out.mono ?_
      rintro e w2 ⟨rfl, b2⟩
      have g2 := (b2.block _ (heap_lt HGZ.out)).trans HGZ.out
      have HB2 := Lib.hid (HBZ.out.trans (b2.mono HBZ.out.size))
      have HT2 := Lib.hid (HTZ.out.keep (fun b hb => b2.block b hb) (fun b hb => Nat.lt_of_lt_of_le hb b2.size))
      clear z0 z1 z2 z3 z4 e0 e1 e2 e3 e4 b2
      by_cases hc : checkN y = 30
      · have hc1 : (checkN y == 30) = true := by simpa using hc
        have HCY := Lib.hid hc
        clear hc g2
        go_wp2_with fail
        go_ret
        refine ⟨ret_int ?_, HB2.out⟩
        rw [HF.out]; unfold fitN
        rw [if_pos]
        rw [List.any_eq_true]
        exact ⟨y, List.mem_of_getElem? HY.out, by rw [HCY.out]; rfl⟩
      · have hc1 : (checkN y == 30) = false := by simpa using hc
        have HCY := Lib.hid hc
        have z0 : w2.cell? ⟨wr.heap.size, 0, none⟩ = some (.int .i8 ky) := cell_of_row g2 rfl
        have z1 : w2.cell? ⟨wr.heap.size, 1, none⟩ = some (.int .i64 ny) := cell_of_row g2 rfl
        have z2 : w2.cell? ⟨wr.heap.size, 2, none⟩ = some (.string sy) := cell_of_row g2 rfl
        have z3 : w2.cell? ⟨wr.heap.size, 3, none⟩ = some (.string ty) := cell_of_row g2 rfl
        have z4 : w2.cell? ⟨wr.heap.size, 4, none⟩ = some (.slice Ay Ly.length capy) := cell_of_row g2 rfl
        clear hc g2
        go_wp2_with fail
        refine (Size_any y _ _ HT2.out).mono ?_
        rintro e w3 ⟨rfl, b3⟩
        have HB3 := Lib.hid (HB2.out.trans (b3.mono HB2.out.size))
        clear b3 z0 z1 z2 z3 z4
        have hs : q + min 257 y.nodes = b + sumN (l.take (j + 1)) := by rw [sumN_take_succ HY.out, HQ.out]; omega
        have HSS := Lib.hid hs
        have hm : min 257 y.nodes ≤ 257 := by omega
        clear hs
        generalize min 257 y.nodes = m at HSS hm ⊢
        go_wp2_with fail
        go_roundw
        case rel =>
          refine ⟨j + 1, by omega, by go_num, ⟨q + m, by go_num, HSS.out⟩, fun z hz => ?_, HB3.out⟩
          rw [List.take_add_one, HY.out, List.mem_append] at hz
          rcases hz with hz | hz
          · exact HNO.out z hz
          · simp at hz; subst hz; exact HCY.out
        case measure => simp [intOf]; omega
    · obtain rfl : j = l.length := by omega
      have hR : R = if 256 < q then 11 else 0 := by
        rw [HF.out]; unfold fitN
        rw [if_neg, HQ.out, List.take_length]
        rw [Bool.not_eq_true, List.any_eq_false]
        intro y hy h
        exact HNO.out y (by rw [List.take_length]; exact hy) (by simpa using h)
      by_cases h256 : 256 < q
      · have hd : decide ((256 : Int) < (q : Int)) = true := decide_eq_true (by omega)
        rw [if_pos h256] at hR
        have HRR := Lib.hid hR
        clear hR
        go_wp2_with fail
        go_ret
        exact ⟨ret_int HRR.out.symm, HB.out⟩
      · have hd : decide ((256 : Int) < (q : Int)) = false := decide_eq_false (by omega)
        rw [if_neg h256] at hR
        have HRR := Lib.hid hR
        clear hR
        go_wp2_with fail
        go_ret
        exact ⟨ret_int HRR.out.symm, HB.out⟩
end Go.Proofs.YtohbljgagbnjoaaDoor
