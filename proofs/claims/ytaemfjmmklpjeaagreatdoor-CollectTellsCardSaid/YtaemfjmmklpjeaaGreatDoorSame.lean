/- pleachref03.Same: its contract. -/
import Derived.Test.YtaemfjmmklpjeaaGreatDoorBoxes
import Derived.StillTailTactics
import Derived.Deep.QuietTactic
import Derived.BigQuiet
import Derived.LoopTactic
import Derived.LoopNIn
import Derived.Lib.Hide
set_option linter.unusedVariables false
namespace Go.Proofs.YtaemfjmmklpjeaaGreatDoor
open Go.RowKit

def SameP (x y : Tm) (w : World) (e : Ending) (w' : World) : Prop := ∃ b : Bool, e = .returned (.bool b) ∧ (b = true ↔ x = y) ∧ Below w.heap.size w w'

set_option maxHeartbeats 8000000 in
set_option maxRecDepth 100000 in
theorem Same_any (x : Tm) : ∀ (y : Tm) (v u : Value) (w : World), TmAt (· < w.heap.size) w x v → TmAt (· < w.heap.size) w y u → Calls Tryz.prog 41 #[v, u] w (SameP x y w) := by
  induction x using Tm.ind with
  | h k n s t l ih =>
  intro y v u w hx hy
  obtain ⟨A, cap, rfl, hR, -⟩ := hx.parts
  obtain ⟨k', n', s', t', m⟩ := y
  obtain ⟨B, cap', rfl, hQ, -⟩ := hy.parts
  have hl1 := hR.max
  have hl2 := hQ.max
  unfold maxLen at hl1 hl2
  obtain ⟨w1, hw1⟩ : ∃ w1, w1 = (w.alloc (.cells #[(.int .i8 k), (.int .i64 n), (.string s), (.string t), (.slice A l.length cap)] 27)).alloc (.cells #[(.int .i8 k'), (.int .i64 n'), (.string s'), (.string t'), (.slice B m.length cap')] 27) := ⟨_, rfl⟩
  have h0 : Bx2 w w1 #[(.int .i8 k), (.int .i64 n), (.string s), (.string t), (.slice A l.length cap)] #[(.int .i8 k'), (.int .i64 n'), (.string s'), (.string t'), (.slice B m.length cap')] := by rw [hw1]; exact bx2_of _ _ _
  have H0 := Lib.hid h0
  have HR := Lib.hid hR
  have HQ := Lib.hid hQ
  have HIH := Lib.hid ih
  clear hx hy hR hQ ih
  have x0 : w1.cell? ⟨w.heap.size, 0, none⟩ = some (.int .i8 k) := cell_of_row h0.bx rfl
  have x1 : w1.cell? ⟨w.heap.size, 1, none⟩ = some (.int .i64 n) := cell_of_row h0.bx rfl
  have x2 : w1.cell? ⟨w.heap.size, 2, none⟩ = some (.string s) := cell_of_row h0.bx rfl
  have x3 : w1.cell? ⟨w.heap.size, 3, none⟩ = some (.string t) := cell_of_row h0.bx rfl
  have x4 : w1.cell? ⟨w.heap.size, 4, none⟩ = some (.slice A l.length cap) := cell_of_row h0.bx rfl
  have y0 : w1.cell? ⟨(w.heap.size + 1), 0, none⟩ = some (.int .i8 k') := cell_of_row h0.by_ rfl
  have y1 : w1.cell? ⟨(w.heap.size + 1), 1, none⟩ = some (.int .i64 n') := cell_of_row h0.by_ rfl
  have y2 : w1.cell? ⟨(w.heap.size + 1), 2, none⟩ = some (.string s') := cell_of_row h0.by_ rfl
  have y3 : w1.cell? ⟨(w.heap.size + 1), 3, none⟩ = some (.string t') := cell_of_row h0.by_ rfl
  have y4 : w1.cell? ⟨(w.heap.size + 1), 4, none⟩ = some (.slice B m.length cap') := cell_of_row h0.by_ rfl
  clear h0
  subst hw1
  by_cases hk : k = k'
  case neg =>
    have hk1 : (k != k') = true := by simpa using hk
    have HN := Lib.hid hk
    clear hk
    go_enter Tryz.func41, Tryz.ntmps41
    go_wp2_with fail
    go_ret
    exact ⟨false, rfl, ⟨fun h => (by cases h), fun h => by rw [Tm.mk.injEq] at h; exact absurd (h.1) HN.out⟩, H0.out.below⟩
  have hk1 : (k != k') = false := by simpa using hk
  have Ehk := Lib.hid hk
  clear hk
  by_cases hn : n = n'
  case neg =>
    have hn1 : (n != n') = true := by simpa using hn
    have HN := Lib.hid hn
    clear hn
    go_enter Tryz.func41, Tryz.ntmps41
    go_wp2_with fail
    go_ret
    exact ⟨false, rfl, ⟨fun h => (by cases h), fun h => by rw [Tm.mk.injEq] at h; exact absurd (h.2.1) HN.out⟩, H0.out.below⟩
  have hn1 : (n != n') = false := by simpa using hn
  have Ehn := Lib.hid hn
  clear hn
  by_cases hs : s = s'
  case neg =>
    have hs1 : (s.toList == s'.toList) = false := by rw [beq_eq_false_iff_ne, ByteArray.toList_eq, ByteArray.toList_eq]; exact fun e => hs (ByteArray.ext (Array.toList_inj.1 e))
    have hs2 : (!s.toList == s'.toList) = true := by rw [hs1]; rfl
    have HN := Lib.hid hs
    clear hs
    go_enter Tryz.func41, Tryz.ntmps41
    go_wp2_with fail
    go_ret
    exact ⟨false, rfl, ⟨fun h => (by cases h), fun h => by rw [Tm.mk.injEq] at h; exact absurd (h.2.2.1) HN.out⟩, H0.out.below⟩
  have hs1 : (s.toList == s'.toList) = true := by rw [hs]; exact beq_self_eq_true _
  have hs2 : (!s.toList == s'.toList) = false := by rw [hs1]; rfl
  have Ehs := Lib.hid hs
  clear hs
  by_cases ht : t = t'
  case neg =>
    have ht1 : (t.toList == t'.toList) = false := by rw [beq_eq_false_iff_ne, ByteArray.toList_eq, ByteArray.toList_eq]; exact fun e => ht (ByteArray.ext (Array.toList_inj.1 e))
    have ht2 : (!t.toList == t'.toList) = true := by rw [ht1]; rfl
    have HN := Lib.hid ht
    clear ht
    go_enter Tryz.func41, Tryz.ntmps41
    go_wp2_with fail
    go_ret
    exact ⟨false, rfl, ⟨fun h => (by cases h), fun h => by rw [Tm.mk.injEq] at h; exact absurd (h.2.2.2.1) HN.out⟩, H0.out.below⟩
  have ht1 : (t.toList == t'.toList) = true := by rw [ht]; exact beq_self_eq_true _
  have ht2 : (!t.toList == t'.toList) = false := by rw [ht1]; rfl
  have Eht := Lib.hid ht
  clear ht
  by_cases hl : l.length = m.length
  case neg =>
    have hle1 : ((l.length : Int) != (m.length : Int)) = true := by rw [bne_iff_ne]; omega
    have HN := Lib.hid hl
    clear hl
    go_enter Tryz.func41, Tryz.ntmps41
    go_wp2_with fail
    go_ret
    exact ⟨false, rfl, ⟨fun h => (by cases h), fun h => by rw [Tm.mk.injEq] at h; exact absurd (congrArg List.length h.2.2.2.2) HN.out⟩, H0.out.below⟩
  have hle1 : ((l.length : Int) != (m.length : Int)) = false := by rw [hl]; simp
  have Ehl := Lib.hid hl
  clear hl
  go_enter Tryz.func41, Tryz.ntmps41
  go_wp2_with fail
  clear x0 x1 x2 x3 x4 y0 y1 y2 y3 y4
  go_loopw [5] (fun i wr => ∃ j : Nat, j ≤ l.length ∧ i = .int .i64 j ∧ l.take j = m.take j ∧ Bx2 w wr #[(.int .i8 k), (.int .i64 n), (.string s), (.string t), (.slice A l.length cap)] #[(.int .i8 k'), (.int .i64 n'), (.string s'), (.string t'), (.slice B m.length cap')]) (fun i _ => l.length - (intOf i).toNat)
  case atStart => exact ⟨0, Nat.zero_le _, rfl, rfl, H0.out⟩
  case round =>
    obtain ⟨j, hj, rfl, hd, hB⟩ := hrel
    have HD := Lib.hid hd
    have HB := Lib.hid hB
    clear hd
    have x4 : wr.cell? ⟨w.heap.size, 4, none⟩ = some (.slice A l.length cap) := cell_of_row hB.bx rfl
    have y4 : wr.cell? ⟨w.heap.size + 1, 4, none⟩ = some (.slice B m.length cap') := cell_of_row hB.by_ rfl
    clear hB
    by_cases hlt : j < l.length
    · have hlt2 : j < m.length := by rw [← Ehl.out]; exact hlt
      obtain ⟨x, hx⟩ : ∃ x, l[j]? = some x := ⟨l[j], List.getElem?_eq_getElem hlt⟩
      obtain ⟨y, hy⟩ : ∃ y, m[j]? = some y := ⟨m[j], List.getElem?_eq_getElem hlt2⟩
      obtain ⟨ad, u, rfl, had, hE, hTx⟩ := HR.out.at_ j x hx
      obtain ⟨bd, u', rfl, hbd, hE', hTy⟩ := HQ.out.at_ j y hy
      have hTx1 := hTx.later HB.out.below
      have hTy1 := hTy.later HB.out.below
      obtain ⟨c0, c1, c2, c3, c4, rfl, e0, e1, e2, e3, e4⟩ := hE.keep (HB.out.below.block ad.block had)
      obtain ⟨d0, d1, d2, d3, d4, rfl, g0, g1, g2, g3, g4⟩ := hE'.keep (HB.out.below.block bd.block hbd)
      have hmem := List.mem_of_getElem? hx
      have HXE := Lib.hid hx
      have HYE := Lib.hid hy
      have HC : Hid (Calls Tryz.prog 41 #[.agg #[c0, c1, c2, c3, c4], .agg #[d0, d1, d2, d3, d4]] { wr with drawn := wr.drawn + 1 } (SameP x y wr)) :=
        (HIH.out x hmem y _ _ { wr with drawn := wr.drawn + 1 } (hTx1.keep (fun _ _ => rfl) (fun _ h => h)) (hTy1.keep (fun _ _ => rfl) (fun _ h => h))).mono fun e w' ⟨b, he, hi, hb⟩ => ⟨b, he, hi, (⟨rfl, rfl, rfl, Nat.le_refl _, fun _ _ => rfl⟩ : Below wr.heap.size wr { wr with drawn := wr.drawn + 1 }).trans hb⟩
      clear hx hy hE hE' hTx hTy hTx1 hTy1 hmem had hbd
      have i0 : (0 : Int) ≤ (j : Int) := by omega
      have i1 : (j : Int) < (l.length : Int) := by omega
      have i2 : (j : Int) < (m.length : Int) := by omega
      go_wp2_with fail
      go_still_tail 10, (by kernel_rfl)
      go_wp2_with fail
      refine HC.out.mono ?_
      clear e0 e1 e2 e3 e4 g0 g1 g2 g3 g4 x4 y4
      rintro e w2 ⟨b, rfl, hb, b1⟩
      have HB1 := Lib.hid (HB.out.on b1)
      have HBI := Lib.hid hb
      clear hb b1
      cases b
      · go_wp2_with fail
        go_ret
        refine ⟨false, rfl, ⟨fun h => (by cases h), fun h => ?_⟩, HB1.out.below⟩
        rw [Tm.mk.injEq] at h
        have h5 := h.2.2.2.2
        have h6 := HXE.out
        rw [h5, HYE.out] at h6
        exact HBI.out.2 (Option.some.inj h6).symm
      · go_wp2_with fail
        go_roundw
        case rel => exact ⟨j + 1, by omega, by go_num, by rw [List.take_add_one, List.take_add_one, HD.out, HXE.out, HYE.out, HBI.out.1 trivial], HB1.out⟩
        case measure => simp [intOf]; omega
    · obtain rfl : j = l.length := by omega
      go_wp2_with fail
      go_ret
      refine ⟨true, rfl, ⟨fun _ => ?_, fun _ => rfl⟩, HB.out.below⟩
      have h := HD.out
      rw [List.take_length, Ehl.out, List.take_length] at h
      rw [Ehk.out, Ehn.out, Ehs.out, Eht.out, h]
end Go.Proofs.YtaemfjmmklpjeaaGreatDoor
