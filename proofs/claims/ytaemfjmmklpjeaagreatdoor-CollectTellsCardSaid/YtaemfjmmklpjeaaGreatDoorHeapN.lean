/- package heap: nodes; rows of words that came in; sum. -/
import Derived.Test.YtaemfjmmklpjeaaGreatDoorHeapR
import Derived.Deep.QuietTactic
import Derived.BigQuiet
import Derived.LoopTactic
import Derived.LoopNIn
set_option linter.unusedVariables false
namespace Go.Proofs.YtaemfjmmklpjeaaGreatDoor
open Go.RowKit

set_option maxHeartbeats 2000000 in
set_option maxRecDepth 100000 in
theorem nodes_leaf (hb : Nat) (c1 c2 c3 c4 c5 c6 : Value) (w : World) : Calls Tryz.prog 68 #[.pointer (some ⟨hb, 0, none⟩), .agg #[.bool false, c1, c2, c3, c4, c5, c6]] w fun e w' => e = .returned (.int .i64 1) ∧ Below w.heap.size w w' := by
  obtain ⟨w1, hw1⟩ : ∃ w1, w1 = w.alloc (.cells #[.bool false, c1, c2, c3, c4, c5, c6] 51) := ⟨_, rfl⟩
  have B1 : Below w.heap.size w w1 := by rw [hw1]; exact (Below.refl _ w).alloc (Nat.le_refl _) _
  have x0 : w1.cell? ⟨w.heap.size, 0, none⟩ = some (.bool false) := by rw [hw1]; exact cell_of_row (block_alloc _ _) rfl
  have HB1 := Lib.hid B1
  clear B1
  subst hw1
  go_enter Tryz.func68, Tryz.ntmps68
  go_wp2_with fail
  go_ret
  exact ⟨rfl, HB1.out⟩

set_option maxHeartbeats 2000000 in
set_option maxRecDepth 100000 in
theorem nodes_ref {base hb ws : Nat} {cs : List HC} {CS RM : Value} (w : World) (h : HeapAt base w hb cs ws CS RM) (a : Nat) (c : HC) (hc : cs[a]? = some c) (c2 c3 c4 c5 c6 : Value) :
    Calls Tryz.prog 68 #[.pointer (some ⟨hb, 0, none⟩), .agg #[.bool true, .int .i64 a, c2, c3, c4, c5, c6]] w fun e w' => e = .returned (.int .i64 c.size) ∧ Below w.heap.size w w' := by
  obtain ⟨w1, hw1⟩ : ∃ w1, w1 = w.alloc (.cells #[.bool true, .int .i64 a, c2, c3, c4, c5, c6] 51) := ⟨_, rfl⟩
  have B1 : Below w.heap.size w w1 := by rw [hw1]; exact (Below.refl _ w).alloc (Nat.le_refl _) _
  have g1 : w1.heap[w.heap.size]? = some (.cells #[.bool true, .int .i64 a, c2, c3, c4, c5, c6] 51 (0, 0)) := by rw [hw1]; exact block_alloc _ _
  have x0 : w1.cell? ⟨w.heap.size, 0, none⟩ = some (.bool true) := cell_of_row g1 rfl
  have x1 : w1.cell? ⟨w.heap.size, 1, none⟩ = some (.int .i64 a) := cell_of_row g1 rfl
  obtain ⟨g, cap, A, rfl, -, h1, -, -⟩ := (h.under B1).cell hc
  have y0 : w1.cell? ⟨hb, 0, none⟩ = some (.slice (some ⟨g, 0, none⟩) cs.length cap) := cell_of_row (h.under B1).box rfl
  have hal := (List.getElem?_eq_some_iff.1 hc).1
  have i0 : (0 : Int) ≤ (a : Int) := by omega
  have i1 : (a : Int) < (cs.length : Int) := by omega
  have h1' : w1.cell? ⟨((⟨g, 0, none⟩ : Addr).add (a * 3)).block, ((⟨g, 0, none⟩ : Addr).add (a * 3)).off + 1, none⟩ = some (.int .i64 c.size) := by
    rw [show (⟨g, 0, none⟩ : Addr).add (a * 3) = ⟨g, a * 3, none⟩ by unfold Addr.add; split <;> simp_all]; exact h1
  have HB1 := Lib.hid B1
  clear B1 g1 h hc
  subst hw1
  go_enter Tryz.func68, Tryz.ntmps68
  go_wp2_with fail
  go_quiet (fail)
  go_wp2_with fail
  go_ret
  exact ⟨rfl, HB1.out.trans ⟨rfl, rfl, rfl, Nat.le_refl _, fun _ _ => rfl⟩⟩

structure AW where
  c : Bool
  a : Int
  x : Tm
def AW.hw (q : AW) : HW := if q.c = true then .ref q.a.toNat else .leaf q.x
def AWAt (P : Nat → Prop) (w : World) (q : AW) (v : Value) : Prop :=
  ∃ k n s t A len cap, v = .agg #[.bool q.c, .int .i64 q.a, .int .i8 k, .int .i64 n, .string s, .string t, .slice A len cap] ∧ TmAt P w q.x (.agg #[.int .i8 k, .int .i64 n, .string s, .string t, .slice A len cap])
def ElemW (w : World) (ad : Addr) (i : Nat) (v : Value) : Prop :=
  ∃ c0 c1 c2 c3 c4 c5 c6, v = .agg #[c0, c1, c2, c3, c4, c5, c6] ∧ w.cell? (ad.add (i * 7)) = some c0 ∧ w.cell? ⟨(ad.add (i * 7)).block, (ad.add (i * 7)).off + 1, none⟩ = some c1 ∧ w.cell? ⟨(ad.add (i * 7)).block, (ad.add (i * 7)).off + 2, none⟩ = some c2 ∧
    w.cell? ⟨(ad.add (i * 7)).block, (ad.add (i * 7)).off + 3, none⟩ = some c3 ∧ w.cell? ⟨(ad.add (i * 7)).block, (ad.add (i * 7)).off + 4, none⟩ = some c4 ∧ w.cell? ⟨(ad.add (i * 7)).block, (ad.add (i * 7)).off + 5, none⟩ = some c5 ∧ w.cell? ⟨(ad.add (i * 7)).block, (ad.add (i * 7)).off + 6, none⟩ = some c6
theorem ElemW.keep {w w' : World} {ad : Addr} {i : Nat} {v : Value} (h : ElemW w ad i v) (hb : w'.heap[ad.block]? = w.heap[ad.block]?) : ElemW w' ad i v := by
  obtain ⟨c0, c1, c2, c3, c4, c5, c6, e, h0, h1, h2, h3, h4, h5, h6⟩ := h
  have hbb : (ad.add (i * 7)).block = ad.block := add_block _ _
  refine ⟨c0, c1, c2, c3, c4, c5, c6, e, ?_, ?_, ?_, ?_, ?_, ?_, ?_⟩
  · exact (World.cell?_of_block (w := w) (a := ad.add (i * 7)) (by rw [hbb]; exact hb)).trans h0
  all_goals
    refine (World.cell?_of_block (w := w) (by show w'.heap[(ad.add (i * 7)).block]? = w.heap[(ad.add (i * 7)).block]?; rw [hbb]; exact hb)).trans ?_
    assumption
theorem AWAt.keep {P Q : Nat → Prop} {w w' : World} {q : AW} {v : Value} (h : AWAt P w q v) (hb : ∀ b, P b → w'.heap[b]? = w.heap[b]?) (hQ : ∀ b, P b → Q b) : AWAt Q w' q v := by
  obtain ⟨k, n, s, t, A, len, cap, e, hT⟩ := h
  exact ⟨k, n, s, t, A, len, cap, e, hT.keep hb hQ⟩
structure WRow (P : Nat → Prop) (w : World) (A : Option Addr) (n cap : Nat) (L : List AW) : Prop where
  len : L.length = n
  cap : n ≤ cap
  at_ : ∀ (j : Nat) (q : AW), L[j]? = some q → ∃ ad v, A = some ad ∧ P ad.block ∧ ElemW w ad j v ∧ AWAt P w q v
theorem WRow.keep {P Q : Nat → Prop} {w w' : World} {A : Option Addr} {n cap : Nat} {L : List AW} (h : WRow P w A n cap L) (hb : ∀ b, P b → w'.heap[b]? = w.heap[b]?) (hQ : ∀ b, P b → Q b) : WRow Q w' A n cap L :=
  ⟨h.len, h.cap, fun j q hj => by obtain ⟨ad, v, e, hp, he, ht⟩ := h.at_ j q hj; exact ⟨ad, v, e, hQ _ hp, he.keep (hb _ hp), ht.keep hb hQ⟩⟩
theorem WRow.later {w V : World} {A : Option Addr} {n cap : Nat} {L : List AW} (h : WRow (· < w.heap.size) w A n cap L) (hb : Below w.heap.size w V) : WRow (· < V.heap.size) V A n cap L :=
  h.keep (fun b hb' => hb.block b hb') (fun b hb' => Nat.lt_of_lt_of_le hb' hb.size)

theorem wsize_le {cs : List HC} (hg : ∀ (n : Nat) (c : HC), cs[n]? = some c → c.size ≤ 256) (x : HW) : wsize cs x ≤ 256 := by
  cases x with
  | leaf x => show 1 ≤ 256; omega
  | ref a =>
    unfold wsize
    cases h : cs[a]? with
    | none => simp only [h]; omega
    | some c => simp only [h]; exact hg a c h
theorem wsum_append (cs : List HC) (a b : List HW) : wsum cs (a ++ b) + 1 = wsum cs a + wsum cs b := by
  induction a with
  | nil => simp [wsum]; omega
  | cons x a ih => simp [wsum]; omega
theorem wsum_take_succ {cs : List HC} {L : List HW} {j : Nat} {x : HW} (h : L[j]? = some x) : wsum cs (L.take (j + 1)) = wsum cs (L.take j) + wsize cs x := by
  rw [List.take_add_one, h]
  have := wsum_append cs (L.take j) [x]
  simp [wsum] at this
  simp only [Option.toList]; omega
theorem wsum_le {cs : List HC} (hg : ∀ (n : Nat) (c : HC), cs[n]? = some c → c.size ≤ 256) (L : List HW) : wsum cs L ≤ 1 + 256 * L.length := by
  induction L with
  | nil => simp [wsum]
  | cons x L ih => have := wsize_le hg x; simp [wsum]; omega

theorem nodes_any {base hb ws : Nat} {cs : List HC} {CS RM : Value} (w : World) (h : HeapAt base w hb cs ws CS RM) (q : AW) (v : Value) (hq : ∃ c2 c3 c4 c5 c6, v = .agg #[.bool q.c, .int .i64 q.a, c2, c3, c4, c5, c6]) (hm : mayW cs.length q.c q.a q.x = true) :
    Calls Tryz.prog 68 #[.pointer (some ⟨hb, 0, none⟩), v] w fun e w' => e = .returned (.int .i64 (wsize cs q.hw)) ∧ Below w.heap.size w w' := by
  obtain ⟨c2, c3, c4, c5, c6, rfl⟩ := hq
  obtain ⟨c, a, x⟩ := q
  cases c
  · exact nodes_leaf hb _ _ _ _ _ _ w
  · have hm' : (decide (0 ≤ a) && decide (a < (cs.length : Int))) = true := by
      have h2 : mayW cs.length true a x = true := hm
      unfold mayW at h2
      rw [if_pos rfl, Bool.and_eq_true] at h2
      exact h2.1
    simp only [Bool.and_eq_true, decide_eq_true_eq] at hm'
    obtain ⟨an, rfl⟩ : ∃ an : Nat, a = an := ⟨a.toNat, by omega⟩
    have hc : cs[an]? = some cs[an] := List.getElem?_eq_getElem (by omega)
    have hw : wsize cs (AW.hw ⟨true, (an : Int), x⟩) = (cs[an]'(by omega)).size := by
      unfold AW.hw; rw [if_pos rfl]; unfold wsize; dsimp only; rw [Int.toNat_natCast, hc]
    rw [hw]
    exact nodes_ref w h an _ hc _ _ _ _ _

set_option maxHeartbeats 4000000 in
set_option maxRecDepth 100000 in
theorem sum_any {base hb ws : Nat} {cs : List HC} {CS RM : Value} (w : World) (h : HeapAt base w hb cs ws CS RM) (hg : ∀ (n : Nat) (c : HC), cs[n]? = some c → c.size ≤ 256) (A : Option Addr) (n cap : Nat) (L : List AW) (hll : L.length ≤ 1000000) (hR : WRow (· < w.heap.size) w A n cap L) (hm : ∀ q ∈ L, mayW cs.length q.c q.a q.x = true) :
    Calls Tryz.prog 45 #[.pointer (some ⟨hb, 0, none⟩), .slice A n cap] w fun e w' => e = .returned (.int .i64 (wsum cs (L.map AW.hw))) ∧ Below w.heap.size w w' := by
  obtain rfl := hR.len
  have HR := Lib.hid hR
  have HH := Lib.hid h
  have HM := Lib.hid hm
  have HGS := Lib.hid hg
  clear hR h hm hg
  go_enter Tryz.func45, Tryz.ntmps45
  go_wp2_with fail
  go_loopw [5, 10] (fun r i wr => ∃ j : Nat, j ≤ L.length ∧ i = .int .i64 j ∧ (∃ q : Nat, r = .int .i64 q ∧ q = wsum cs ((L.map AW.hw).take j)) ∧ Below w.heap.size w wr) (fun _ i _ => L.length - (intOf i).toNat)
  case atStart => exact ⟨0, Nat.zero_le _, rfl, ⟨1, rfl, by simp [wsum]⟩, Below.refl _ _⟩
  case round =>
    obtain ⟨j, hj, rfl, ⟨q, rfl, hq⟩, hB⟩ := hrel
    have hqb : q ≤ 1000000000 := by
      have := wsum_le HGS.out ((L.map AW.hw).take j)
      have h2 : ((L.map AW.hw).take j).length ≤ L.length := by simp; omega
      omega
    have HQ := Lib.hid hq
    have HB := Lib.hid hB
    clear hq hB
    by_cases hlt : j < L.length
    · obtain ⟨y, hy⟩ : ∃ y, L[j]? = some y := ⟨L[j], List.getElem?_eq_getElem hlt⟩
      obtain ⟨ad, u, rfl, had, hE, hA⟩ := HR.out.at_ j y hy
      have hEr : ElemW wr ad j u := hE.keep (HB.out.block ad.block had)
      have hmy := HM.out y (List.mem_of_getElem? hy)
      obtain ⟨k, m, s, t, A2, len2, cap2, rfl, hT⟩ := hA
      obtain ⟨c0, c1, c2, c3, c4, c5, c6, hcc, e0, e1, e2, e3, e4, e5, e6⟩ := hEr
      simp only [Value.agg.injEq, Array.mk.injEq, List.cons.injEq, and_true] at hcc
      obtain ⟨rfl, rfl, rfl, rfl, rfl, rfl, rfl⟩ := hcc
      obtain ⟨wz, hwz⟩ : ∃ wz, wz = wr.alloc (.cells #[.bool y.c, .int .i64 y.a, .int .i8 k, .int .i64 m, .string s, .string t, .slice A2 len2 cap2] 51) := ⟨_, rfl⟩
      have bz : Below wr.heap.size wr wz := by rw [hwz]; exact (Below.refl _ _).alloc (Nat.le_refl _) _
      have gz : wz.heap[wr.heap.size]? = some (.cells #[.bool y.c, .int .i64 y.a, .int .i8 k, .int .i64 m, .string s, .string t, .slice A2 len2 cap2] 51 (0, 0)) := by rw [hwz]; exact block_alloc _ _
      have HC := Lib.hid (nodes_any wz ((HH.out.under (HB.out)).under bz) y (.agg #[.bool y.c, .int .i64 y.a, .int .i8 k, .int .i64 m, .string s, .string t, .slice A2 len2 cap2]) ⟨_, _, _, _, _, rfl⟩ hmy)
      have hs : q + wsize cs y.hw = wsum cs ((L.map AW.hw).take (j + 1)) := by rw [wsum_take_succ (x := y.hw) (by simp [hy]), HQ.out]
      have HSS := Lib.hid hs
      have hsz := wsize_le HGS.out y.hw
      have HBZ := Lib.hid (HB.out.trans (bz.mono HB.out.size))
      have HBZ2 := Lib.hid bz
      have z0 : wz.cell? ⟨wr.heap.size, 0, none⟩ = some (.bool y.c) := cell_of_row gz rfl
      have z1 : wz.cell? ⟨wr.heap.size, 1, none⟩ = some (.int .i64 y.a) := cell_of_row gz rfl
      have z2 : wz.cell? ⟨wr.heap.size, 2, none⟩ = some (.int .i8 k) := cell_of_row gz rfl
      have z3 : wz.cell? ⟨wr.heap.size, 3, none⟩ = some (.int .i64 m) := cell_of_row gz rfl
      have z4 : wz.cell? ⟨wr.heap.size, 4, none⟩ = some (.string s) := cell_of_row gz rfl
      have z5 : wz.cell? ⟨wr.heap.size, 5, none⟩ = some (.string t) := cell_of_row gz rfl
      have z6 : wz.cell? ⟨wr.heap.size, 6, none⟩ = some (.slice A2 len2 cap2) := cell_of_row gz rfl
      subst hwz
      clear hE hmy hT bz gz hy hs had
      generalize wsize cs y.hw = m2 at HC HSS hsz
      go_wp2_with fail
      refine HC.out.mono ?_
      rintro e w2 ⟨rfl, b2⟩
      have HB2 := Lib.hid (HBZ.out.trans (b2.mono HBZ.out.size))
      clear b2 z0 z1 z2 z3 z4 z5 z6 e0 e1 e2 e3 e4 e5 e6
      go_wp2_with fail
      go_roundw
      case rel => exact ⟨j + 1, by omega, by go_num, ⟨q + m2, by go_num, HSS.out⟩, HB2.out⟩
      case measure => simp [intOf]; omega
    · obtain rfl : j = L.length := by omega
      go_wp2_with fail
      go_ret
      exact ⟨ret_int (by rw [HQ.out, List.take_of_length_le (by simp)]), HB.out⟩
end Go.Proofs.YtaemfjmmklpjeaaGreatDoor
