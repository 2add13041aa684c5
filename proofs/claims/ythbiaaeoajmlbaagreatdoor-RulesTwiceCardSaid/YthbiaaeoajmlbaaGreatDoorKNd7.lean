/- ast.nodes: an iterator over the first 4097 nodes of a tree, each with how deep it stands. (Out of XNodes, by gen_nd7.py.) -/
import Derived.Test.YthbiaaeoajmlbaaGreatDoorKSet9
import Derived.Test.YthbiaaeoajmlbaaGreatDoorKTm
import Derived.Test.YthbiaaeoajmlbaaGreatDoorKRange
import Derived.WalkKit
import Derived.LoopTactic
import Derived.Lib.Hide
import Derived.LoopNIn
import Derived.Deep.DeepCutAuto
import Derived.Tactics2
import Derived.Shelf.Abstract
import Derived.Shelf.RegionOpen
import Derived.OwnWalkIn
import Derived.TacticsInMore
import Derived.LoopIn
import Derived.RangeFuncBox
import Derived.Laws.EntriesVeiled
import Derived.Outline
section
set_option linter.unusedVariables false
namespace Go.Proofs.YthbiaaeoajmlbaaGreatDoor
open Go.RowKit

theorem patsB_all : ∀ {l : List Tm}, patsB l = true ↔ ∀ x ∈ l, patB x = true
  | [] => by simp [patsB]
  | x :: l => by simp [patsB, patsB_all (l := l)]
theorem guasB_all : ∀ {l : List Tm}, guasB l = true ↔ ∀ x ∈ l, guaB x = true
  | [] => by simp [guasB]
  | x :: l => by simp [guasB, guasB_all (l := l)]
theorem exprsB_all : ∀ {l : List Tm}, exprsB l = true ↔ ∀ x ∈ l, exprB x = true
  | [] => by simp [exprsB]
  | x :: l => by simp [exprsB, exprsB_all (l := l)]
theorem clsB_all {m : Nat} : ∀ {l : List Tm}, clsB m l = true ↔ ∀ x ∈ l, clB m x = true
  | [] => by simp [clsB]
  | x :: l => by simp [clsB, clsB_all (l := l)]

theorem pat_gua (x : Tm) : patB x = true → guaB x = true := by
  induction x using Tm.ind with
  | h k n s t l ih =>
    intro h
    rw [patB, Bool.or_eq_true] at h
    rw [guaB, Bool.or_eq_true]
    rcases h with h | h
    · exact .inl h
    · simp only [Bool.and_eq_true, Bool.or_eq_true] at h
      obtain ⟨⟨⟨⟨h1, h2⟩, h3⟩, h4⟩, h5⟩ := h
      have h6 : guasB l = true := guasB_all.2 fun x hx => ih x hx (patsB_all.1 h5 x hx)
      right
      simp only [Bool.and_eq_true, Bool.or_eq_true]
      refine ⟨⟨⟨?_, h2⟩, h4⟩, h6⟩
      rcases h1 with h1 | ⟨h1, h7⟩
      · exact .inl (.inl ⟨h1, h3⟩)
      · exact .inl (.inr ⟨⟨h1, h3⟩, h7⟩)
theorem gua_expr (x : Tm) : guaB x = true → exprB x = true := by
  induction x using Tm.ind with
  | h k n s t l ih =>
    intro h
    rw [guaB, Bool.or_eq_true] at h
    rw [exprB]
    simp only [Bool.or_eq_true]
    rcases h with h | h
    · simp [h]
    · simp only [Bool.and_eq_true, Bool.or_eq_true] at h
      obtain ⟨⟨⟨h1, h2⟩, h4⟩, h5⟩ := h
      have h6 : exprsB l = true := exprsB_all.2 fun x hx => ih x hx (guasB_all.1 h5 x hx)
      rcases h1 with (⟨h1, h3⟩ | ⟨⟨h1, h3⟩, h7⟩) | ⟨⟨h1, h3⟩, h7⟩
      · simp [h1, h2, h3, h4, h6]
      · simp [h1, h2, h3, h4, h6, h7]
      · simp [h1, h2, plus_ari h3, h4, h6, h7]
theorem pat_expr (x : Tm) (h : patB x = true) : exprB x = true := gua_expr x (pat_gua x h)

theorem guard_tests {k n : Int} {s t : ByteArray} {l : List Tm} (h : guardB (.mk k n s t l) = true) : ∀ x ∈ l, testB x = true := by
  rw [guardB] at h
  simp only [Bool.and_eq_true] at h
  exact List.all_eq_true.1 h.2
def clauseR (x : Tm) (m : Int) : Bool := fitsB x && decide (0 ≤ m) && clB m.toNat x
theorem clB_n {m : Nat} {k n : Int} {s t : ByteArray} {l : List Tm} (h : clB m (.mk k n s t l) = true) : n = (m : Int) := by
  rw [clB] at h
  simp only [Bool.and_eq_true] at h
  exact eq_of_beq h.1.1.1.2
theorem cls_one {x : Tm} {m : Int} (h : clauseR x m = true) : clauseR x (m + 1) = false := by
  obtain ⟨k, n, s, t, l⟩ := x
  unfold clauseR at h ⊢
  simp only [Bool.and_eq_true] at h
  have h1 := clB_n h.2
  have h2 : 0 ≤ m := of_decide_eq_true h.1.2
  cases hx : clB (m + 1).toNat (Tm.mk k n s t l)
  · simp
  · have h3 := clB_n hx
    omega
theorem mods_parts {x m f c : Tm} (h : fitsB x = true) (hx : modsB x = true) (hm : m ∈ x.l) (hf : f ∈ m.l) (hc : c ∈ f.l) : clauseR c f.n = true ∧ 0 ≤ f.n ∧ f.n ≤ 8 := by
  obtain ⟨k0, n0, s0, t0, l0⟩ := x
  obtain ⟨k1, n1, s1, t1, l1⟩ := m
  obtain ⟨k2, n2, s2, t2, l2⟩ := f
  have hm' : Tm.mk k1 n1 s1 t1 l1 ∈ l0 := hm
  have hf' : Tm.mk k2 n2 s2 t2 l2 ∈ l1 := hf
  have hc' : c ∈ l2 := hc
  rw [modsB] at hx
  simp only [Bool.and_eq_true] at hx
  have e1 := List.all_eq_true.1 hx.2 _ hm'
  rw [modB] at e1
  simp only [Bool.and_eq_true] at e1
  have e2 := List.all_eq_true.1 e1.2 _ hf'
  rw [funB] at e2
  simp only [Bool.and_eq_true] at e2
  have e3 := of_decide_eq_true e2.1.1.2
  have e4 := clsB_all.1 e2.2 _ hc'
  have fc : fitsB c = true := fits_mem (fits_mem (fits_mem h hm') hf') hc'
  refine ⟨?_, e3⟩
  show clauseR c n2 = true
  unfold clauseR
  rw [fc, e4, decide_eq_true e3.1]
  rfl
end Go.Proofs.YthbiaaeoajmlbaaGreatDoor
end
section
set_option linter.unusedVariables false
namespace Go.Proofs.YthbiaaeoajmlbaaGreatDoor
open Go.RowKit Go.ChangeShapes Go.WideShapes Go.Deep

theorem tcells_node : Tryz.prog.cellsOf 25 = 5 := by kernel_rfl
theorem tcells_nrow : Tryz.prog.cellsOf 23 = 1 := by kernel_rfl
set_option maxRecDepth 100000 in
theorem open_nrow {H : Type} {enc : TypeId × Value → H} {W : World} {fuel : Nat} {v : Value} {x : DataW H × List MemPlace}
    (ih : ∀ n, n < fuel → ∀ cs x, DataW.trod enc Tryz.prog W 0 (fun _ => true) true n 25 cs = some x → ∃ t, TmAt (· < W.heap.size) W t (.agg cs.toArray))
    (h : DataW.trod enc Tryz.prog W 0 (fun _ => true) true fuel 23 [v] = some x) : ∃ A n cap l, v = .slice A n cap ∧ TRow (· < W.heap.size) W A n cap l := by
  rcases DataW.trod_slice Tryz.underlying23 h with ⟨hcs, _⟩ | ⟨a, len, cap, elems, rest, n, hfu, hcs, _, hb, hl, hm, hlen, hel, _, _⟩
  · simp at hcs
    exact ⟨none, 0, 0, [], hcs, .nil _ _ _ _⟩
  · simp at hcs
    subst hcs
    rw [tcells_node] at hel
    have each : ∀ i, i < len → ∃ t v, a.block < W.heap.size ∧ ElemAt W a i v ∧ TmAt (· < W.heap.size) W t v := by
      intro i hi
      have h1 := hel i hi
      rw [List.getElem?_eq_getElem (by omega)] at h1
      obtain ⟨cs, hc, ht⟩ := Option.bind_eq_some_iff.1 h1
      obtain ⟨t, hT⟩ := ih n (by omega) cs _ ht
      obtain ⟨_, hcl, hat⟩ := World.cells?_some hc
      match cs, hcl with
      | [c0, c1, c2, c3, c4], _ =>
        have e0 := hat 0 (by decide)
        have e1 := hat 1 (by decide)
        have e2 := hat 2 (by decide)
        have e3 := hat 3 (by decide)
        have e4 := hat 4 (by decide)
        rw [add_next] at e0
        rw [add_next'] at e1 e2 e3 e4
        refine ⟨t, _, ?_, ⟨c0, c1, c2, c3, c4, rfl, e0, e1, e2, e3, e4⟩, hT⟩
        have := World.block_lt_of_cell? W _ (e0.trans rfl)
        rwa [add_block] at this
    obtain ⟨l, hll, hlp⟩ := rows_choose (p := fun j x => ∃ v, a.block < W.heap.size ∧ ElemAt W a j v ∧ TmAt (· < W.heap.size) W x v) each
    exact ⟨some a, len, cap, l, rfl, hll, Nat.le_trans hl hm, hl, fun j x hj => by obtain ⟨v, h1, h2, h3⟩ := hlp j x hj; exact ⟨a, v, rfl, h1, h2, h3⟩⟩

set_option maxRecDepth 100000 in
theorem open_node_fuel {H : Type} {enc : TypeId × Value → H} {W : World} (fuel : Nat) : ∀ cs x, DataW.trod enc Tryz.prog W 0 (fun _ => true) true fuel 25 cs = some x → ∃ t, TmAt (· < W.heap.size) W t (.agg cs.toArray) := by
  induction fuel using Nat.strongRecOn with
  | ind fuel ih =>
    intro cs x h
    obtain ⟨xs, n, hfu, _, hlen, hxl, hf⟩ := DataW.trod_struct Tryz.underlying25 h
    rw [tcells_node] at hlen
    match cs, hlen with
    | [c0, c1, c2, c3, c4], _ =>
      have f0 : DataW.trod enc Tryz.prog W 0 (fun _ => true) true n 22 (([c0, c1, c2, c3, c4].drop 0).take (Tryz.prog.cellsOf 22)) = xs[0]? := hf 0 _ rfl
      have f1 : DataW.trod enc Tryz.prog W 0 (fun _ => true) true n 3 (([c0, c1, c2, c3, c4].drop 1).take (Tryz.prog.cellsOf 3)) = xs[1]? := hf 1 _ rfl
      have f2 : DataW.trod enc Tryz.prog W 0 (fun _ => true) true n 9 (([c0, c1, c2, c3, c4].drop 2).take (Tryz.prog.cellsOf 9)) = xs[2]? := hf 2 _ rfl
      have f3 : DataW.trod enc Tryz.prog W 0 (fun _ => true) true n 9 (([c0, c1, c2, c3, c4].drop 3).take (Tryz.prog.cellsOf 9)) = xs[3]? := hf 3 _ rfl
      have f4 : DataW.trod enc Tryz.prog W 0 (fun _ => true) true n 23 (([c0, c1, c2, c3, c4].drop 4).take (Tryz.prog.cellsOf 23)) = xs[4]? := hf 4 _ rfl
      rw [tcells_i8] at f0
      rw [tcells_int] at f1
      rw [tcells_str] at f2 f3
      rw [tcells_nrow] at f4
      match xs, hxl with
      | [y0, y1, y2, y3, y4], _ =>
        simp at f0 f1 f2 f3 f4
        obtain ⟨k, e0, _, hk⟩ := DataW.trod_int Tryz.underlying22 f0
        obtain ⟨m, e1, _, hm⟩ := DataW.trod_int Tryz.underlying3 f1
        obtain ⟨s, e2, _, hs⟩ := DataW.trod_string Tryz.underlying9 f2
        obtain ⟨t, e3, _, ht⟩ := DataW.trod_string Tryz.underlying9 f3
        obtain ⟨A, len, cap, l, rfl, hr⟩ := open_nrow (fun n' hn' => ih n' (by omega)) f4
        simp at e0 e1 e2 e3
        subst e0 e1 e2 e3
        obtain rfl := hr.len
        exact ⟨.mk k m s t l, .of_row hr (i8_wf hk) (i64_wf hm) hs ht⟩

set_option maxRecDepth 100000 in
theorem open_node {H : Type} {enc : TypeId × Value → H} {W : World} {base : Nat} {v : Value} {d : DataW H} {p : List MemPlace} (hv : Value.okWide Tryz.prog W .any base 25 v) (h : DataW.Trod enc Tryz.prog W 0 (fun _ => true) true 25 v d p) : ∃ t, TmAt (· < W.heap.size) W t v := by
  obtain ⟨cs, rfl, hsz⟩ := okWide_struct Tryz.underlying25 hv
  obtain ⟨fuel, hf⟩ := h
  obtain ⟨t, ht⟩ := open_node_fuel fuel _ _ hf
  simp [Value.cells] at ht
  exact ⟨t, ht⟩

set_option maxRecDepth 100000 in
theorem open_nodes {H : Type} {enc : TypeId × Value → H} {W : World} {base : Nat} {v : Value} {d : DataW H} {p : List MemPlace} (hv : Value.okWide Tryz.prog W .any base 23 v) (h : DataW.Trod enc Tryz.prog W 0 (fun _ => true) true 23 v d p) : ∃ A n cap l, v = .slice A n cap ∧ TRow (· < W.heap.size) W A n cap l := by
  obtain ⟨a0, len, cap, rfl⟩ := okWide_slice Tryz.underlying23 hv
  obtain ⟨fuel, hf⟩ := h
  simp [Value.cells] at hf
  exact open_nrow (fun n _ => open_node_fuel n) hf
set_option maxHeartbeats 1000000 in
set_option maxRecDepth 100000 in
theorem rnodes_any (x : Tm) : ∀ (v : Value) (most : Nat) (w : World), TmAt (· < w.heap.size) w x v → 1 ≤ most → most ≤ 1000000 →
    Calls Tryz.prog 61 #[v, .int .i64 most] w fun e w' => e = .returned (.int .i64 (min x.nodes most : Nat)) ∧ Below w.heap.size w w' := by
  induction x using Tm.ind with
  | h k n s t l ih =>
    intro v most w hT h1 hmost
    obtain ⟨A, cap, rfl, hR, hk, hn, hs, ht⟩ := hT.parts
    have hlen := hR.max
    unfold maxLen at hlen
    have HR := Lib.hid hR
    have HIH := Lib.hid ih
    clear hR ih hT
    obtain ⟨w1, hw1⟩ : ∃ w1, w1 = w.alloc (.cells #[.int .i8 k, .int .i64 n, .string s, .string t, .slice A l.length cap] 25) := ⟨_, rfl⟩
    have hB1 : Below w.heap.size w w1 := by rw [hw1]; exact (Below.refl _ w).alloc (Nat.le_refl _) _
    have hs1 : w1.heap.size = w.heap.size + 1 := by rw [hw1]; simp
    have hbox : w1.heap[w.heap.size]? = some (.cells #[.int .i8 k, .int .i64 n, .string s, .string t, .slice A l.length cap] 25) := by rw [hw1]; exact block_alloc _ _
    have HB1 := Lib.hid hB1
    have HS1 := Lib.hid hs1
    clear hB1 hs1
    go_enter Tryz.func61, Tryz.ntmps61
    go_wp2_with fail
    rw [← hw1]
    clear hw1
    have HX := Lib.hid hbox
    clear hbox
    go_loopw [5, 6] (fun r i wr => ∃ j : Nat, j ≤ l.length ∧ i = .int .i64 j ∧ (∃ q : Nat, r = .int .i64 q ∧ q = min (1 + (Tm.pres (l.take j)).length) most) ∧ Below w1.heap.size w1 wr) (fun _ i _ => l.length - (intOf i).toNat)
    case atStart => exact ⟨0, Nat.zero_le _, rfl, ⟨1, rfl, by simp [Tm.pres]; omega⟩, Below.refl _ _⟩
    case round =>
      obtain ⟨j, hj, rfl, ⟨q, rfl, hq⟩, hB⟩ := hrel
      have hbw : wr.heap[w.heap.size]? = _ := (hB.block w.heap.size (by rw [HS1.out]; omega)).trans HX.out
      have hc4 : wr.cell? ⟨w.heap.size, 4, none⟩ = some (.slice A l.length cap) := cell_of_row hbw rfl
      have hq1 : 1 ≤ q := by omega
      have hq2 : q ≤ most := by omega
      have HQ := Lib.hid hq
      have HB := Lib.hid hB
      clear hq hB hbw
      by_cases hlt : j < l.length
      · by_cases hm : q < most
        · obtain ⟨y, hy⟩ : ∃ y, l[j]? = some y := ⟨l[j], List.getElem?_eq_getElem hlt⟩
          obtain ⟨ad, u, rfl, had, hE, hTy⟩ := HR.out.at_ j y hy
          have hEr : ElemAt wr ad j u := hE.keep ((HB.out.block ad.block (by rw [HS1.out]; omega)).trans (HB1.out.block ad.block had))
          have hTr : TmAt (· < wr.heap.size) wr y u := hTy.keep (fun b hb => (HB.out.block b (by rw [HS1.out]; omega)).trans (HB1.out.block b hb)) (fun b hb => by have := HB1.out.size; have := HB.out.size; omega)
          obtain ⟨c0, c1, c2, c3, c4, rfl, e0, e1, e2, e3, e4⟩ := hEr
          have hmem := List.mem_of_getElem? hy
          have hpy := Tm.pre_ne y
          have HY := Lib.hid hy
          clear hE hTy hy
          go_wp2_with fail
          have he : (most : Int) - q = ((most - q : Nat) : Int) := by omega
          rw [he]
          refine (HIH.out y hmem _ (most - q) _ hTr (by omega) (by omega)).mono ?_
          rintro e w2 ⟨rfl, b2⟩
          have hr : q + min y.nodes (most - q) = min (1 + (Tm.pres (l.take (j + 1))).length) most := by
            rw [Tm.pres_take_succ HY.out, List.length_append]
            have := HQ.out
            unfold Tm.nodes
            omega
          have HRR := Lib.hid hr
          have hle : min y.nodes (most - q) ≤ 1000000 := by omega
          clear hr he
          generalize min y.nodes (most - q) = z at HRR hle ⊢
          go_wp2_with fail
          go_roundw
          case rel => exact ⟨j + 1, by omega, by go_num, ⟨q + z, by go_num, HRR.out⟩, HB.out.trans (b2.mono HB.out.size)⟩
          case measure => simp [intOf]; omega
        · go_wp2_with fail
          go_ret
          refine ⟨ret_int ?_, HB1.out.trans (HB.out.mono (by rw [HS1.out]; omega))⟩
          have h := HQ.out
          have : (Tm.pres (l.take j)).length ≤ (Tm.pres l).length := by
            rw [show Tm.pres l = Tm.pres (l.take j) ++ Tm.pres (l.drop j) by rw [← Tm.pres_append, List.take_append_drop]]
            simp
          unfold Tm.nodes Tm.pre
          simp only [List.length_cons]
          omega
      · obtain rfl : j = l.length := by omega
        go_wp2_with fail
        go_ret
        refine ⟨ret_int ?_, HB1.out.trans (HB.out.mono (by rw [HS1.out]; omega))⟩
        have h := HQ.out
        rw [List.take_length] at h
        unfold Tm.nodes Tm.pre
        simp only [List.length_cons]
        omega

def NoThenN (p : Prop) (w : World) (e : Ending) (w' : World) : Prop := ∃ b : Bool, e = .returned (.bool b) ∧ (b = false → p) ∧ Below w.heap.size w w'
theorem GreatN_any (x : Tm) (v : Value) (w : World) (hT : TmAt (· < w.heap.size) w x v) : Calls Tryz.prog 13 #[v] w (NoThenN (x.nodes < 8192) w) := by
  obtain ⟨c, rfl⟩ : ∃ c, v = .agg c := by cases hT; exact ⟨_, rfl⟩
  have hT2 : TmAt (· < (w.alloc (.cells c 25)).heap.size) (w.alloc (.cells c 25)) x (.agg c) := hT.keep (fun b hb => Below.heap_alloc _ _ _ hb) (fun b hb => by simp; omega)
  cases hT with
  | mk vs hk hn hs ht hl hcap hc hx =>
    have HC := Lib.hid (rnodes_any _ _ 8192 _ hT2 (by decide) (by decide))
    clear hT2 hc hx hl hcap
    unfold maxLen at hs ht
    go_enter Tryz.func13, Tryz.ntmps13
    go_wp2_with fail
    refine HC.out.mono ?_
    rintro e w1 ⟨rfl, b1⟩
    go_wp2_with fail
    go_ret
    refine ⟨_, rfl, fun h => ?_, ((Below.refl _ w).alloc (Nat.le_refl _) _).trans (b1.mono (by simp))⟩
    have := of_decide_eq_false h
    omega

end Go.Proofs.YthbiaaeoajmlbaaGreatDoor
end
section
set_option linter.unusedVariables false
namespace Go.Proofs.YthbiaaeoajmlbaaGreatDoor
open Go.RowKit

def checkR (x : Tm) : Int := if fitsB x = true ∧ modsB x = true then 0 else 70
theorem checkR_or (x : Tm) : (checkR x = 0 ∧ fitsB x = true ∧ modsB x = true) ∨ (checkR x = 70 ∧ ¬ (fitsB x = true ∧ modsB x = true)) := by
  unfold checkR
  by_cases h : fitsB x = true ∧ modsB x = true
  · rw [if_pos h]; exact .inl ⟨rfl, h⟩
  · rw [if_neg h]; exact .inr ⟨rfl, h⟩
def BoolC (E : World → Prop) (f : Nat) (p : Tm → Bool) : Prop := ∀ (x : Tm) (v : Value) (w : World), TmAt (· < w.heap.size) w x v → x.nodes ≤ 8200 → E w →
  Calls Tryz.prog f #[v] w fun e w' => e = .returned (.bool (fitsB x && p x)) ∧ Below w.heap.size w w'
def CheckC (E : World → Prop) : Prop := ∀ (x : Tm) (v : Value) (w : World), TmAt (· < w.heap.size) w x v → x.nodes ≤ 8200 → E w →
  Calls Tryz.prog 73 #[v] w fun e w' => e = .returned (.int .i64 (checkR x)) ∧ Below w.heap.size w w'
structure NBx (E : World → Prop) (w V : World) (g : Nat) (c : Array Value) : Prop where
  below : Below w.heap.size w V
  box : V.heap[g]? = some (.cells c 25 (0, 0))
  env : E V
theorem NBx.under {E : World → Prop} (hE : ∀ w w', E w → Below w.heap.size w w' → E w') {w V V' : World} {g : Nat} {c : Array Value} (h : NBx E w V g c) (b : Below V.heap.size V V') : NBx E w V' g c :=
  ⟨h.below.trans (b.mono h.below.size), (b.block _ (heap_lt h.box)).trans h.box, hE _ _ h.env b⟩
theorem nbx_of {E : World → Prop} (hE : ∀ w w', E w → Below w.heap.size w w' → E w') {w : World} (hw : E w) (c : Array Value) : NBx E w (w.alloc (.cells c 25)) w.heap.size c :=
  ⟨(Below.refl _ _).alloc (Nat.le_refl _) _, block_alloc _ _, hE _ _ hw ((Below.refl _ _).alloc (Nat.le_refl _) _)⟩
theorem TmAt.laterN {w V : World} {x : Tm} {v : Value} (h : TmAt (· < w.heap.size) w x v) (hb : Below w.heap.size w V) : TmAt (· < V.heap.size) V x v :=
  h.keep (fun b hb' => hb.block b hb') (fun b hb' => Nat.lt_of_lt_of_le hb' hb.size)
theorem nodes_le_mem {k n : Int} {s t : ByteArray} {l : List Tm} {x : Tm} (hx : x ∈ l) : x.nodes ≤ (Tm.mk k n s t l).nodes := by
  rw [Tm.nodes_mk]; exact Nat.le_succ_of_le (Tm.nodes_mem hx)
end Go.Proofs.YthbiaaeoajmlbaaGreatDoor
end
section
set_option linter.unusedVariables false
namespace Go.Proofs.YthbiaaeoajmlbaaGreatDoor
open Go.RowKit Go.Shelf
attribute [local go_sem] Oper.semAt_some

theorem YieldAt.deep7 {m : Nat} (m' : Nat) {P : Program} {l : Nat} {args : Array Value} {W : World} {R : Ending → World → Prop} (h : YieldAt Fence.wide m P l args W R) : YieldAt Fence.wide m' P l args W R := by
  obtain ⟨fn, tmps, assign, body, hy, hR⟩ := h
  exact ⟨fn, tmps, assign, body, hy, hR.1, fun c cs _ => hR.2 c cs (room_wide _)⟩

mutual
def Tm.preD : Nat → Tm → List (Tm × Nat)
  | d, .mk k n s t l => (.mk k n s t l, d) :: Tm.presD (d + 1) l
def Tm.presD : Nat → List Tm → List (Tm × Nat)
  | _, [] => []
  | d, x :: l => Tm.preD d x ++ Tm.presD d l
end
theorem Tm.presD_fst (d : Nat) : ∀ (l : List Tm), (∀ x ∈ l, ∀ d, (Tm.preD d x).map (·.1) = x.pre) → (Tm.presD d l).map (·.1) = Tm.pres l
  | [], _ => rfl
  | x :: l, h => by rw [Tm.presD, List.map_append, h x (by simp), Tm.presD_fst d l (fun y hy => h y (by simp [hy])), Tm.pres]
theorem Tm.preD_fst (x : Tm) : ∀ d, (Tm.preD d x).map (·.1) = x.pre := by
  induction x using Tm.ind with
  | h k n s t l ih => intro d; rw [Tm.preD, List.map_cons, Tm.presD_fst _ _ ih, Tm.pre]
theorem Tm.preD_len (d : Nat) (x : Tm) : (Tm.preD d x).length = x.nodes := by rw [← List.length_map (f := (·.1)), Tm.preD_fst]; rfl
theorem Tm.presD_len (d : Nat) (l : List Tm) : (Tm.presD d l).length = (Tm.pres l).length := by rw [← Tm.presD_fst d l (fun x _ => Tm.preD_fst x), List.length_map]
theorem Tm.presD_append (d : Nat) (a b : List Tm) : Tm.presD d (a ++ b) = Tm.presD d a ++ Tm.presD d b := by
  induction a with
  | nil => simp [Tm.presD]
  | cons x a ih => simp [Tm.presD, ih]
theorem Tm.presD_take_succ {d : Nat} {l : List Tm} {j : Nat} {x : Tm} (h : l[j]? = some x) : Tm.presD d (l.take (j + 1)) = Tm.presD d (l.take j) ++ Tm.preD d x := by
  rw [List.take_add_one, h, Option.toList_some, Tm.presD_append]; simp [Tm.presD]
theorem Tm.presD_split {d : Nat} {L : List Tm} {j : Nat} {y : Tm} (h : L[j]? = some y) : Tm.presD d L = Tm.presD d (L.take j) ++ (Tm.preD d y ++ Tm.presD d (L.drop (j + 1))) := by
  have e : L = L.take j ++ (y :: L.drop (j + 1)) := by
    obtain ⟨hj, e⟩ := List.getElem?_eq_some_iff.1 h
    subst e
    rw [← List.drop_eq_getElem_cons hj, List.take_append_drop]
  have e2 := Tm.presD_append d (L.take j) (y :: L.drop (j + 1))
  rw [← e] at e2
  rw [e2]; rfl
theorem Tm.pres_len_split {L : List Tm} {j : Nat} {y : Tm} (h : L[j]? = some y) : (Tm.pres (L.take j)).length + y.nodes ≤ (Tm.pres L).length := by
  have e := Tm.presD_split (d := 0) h
  have e2 := congrArg List.length e
  rw [List.length_append, List.length_append, Tm.presD_len, Tm.presD_len, Tm.preD_len] at e2
  omega
theorem Tm.preD_take {k n : Int} {s t : ByteArray} {L : List Tm} {j d : Nat} {y : Tm} (h : L[j]? = some y) (i : Nat) (hi : i ≤ y.nodes) :
    (Tm.preD d (Tm.mk k n s t L)).take ((Tm.pres (L.take j)).length + i + 1) = (Tm.mk k n s t L, d) :: (Tm.presD (d + 1) (L.take j) ++ (Tm.preD (d + 1) y).take i) := by
  rw [Tm.preD, List.take_succ_cons, Tm.presD_split h, List.take_append, List.take_of_length_le (by rw [Tm.presD_len]; omega), List.take_append]
  have e1 : (Tm.pres (L.take j)).length + i - (Tm.presD (d + 1) (L.take j)).length = i := by rw [Tm.presD_len]; omega
  have e2 : i - (Tm.preD (d + 1) y).length = 0 := by rw [Tm.preD_len]; omega
  rw [e1, e2]
  simp
abbrev ND : Type := (Tm × Value) × Nat
def ndK (p : ND) : Tm × Nat := (p.1.1, p.2)

structure Gen7 (l Y : Nat) (M : Nat) (W : World) : Prop where
  yield : W.heap[Y]? = some (.cells #[.func (.yield l) #[] #[]] 275 (0, 0))
  left : W.heap[Y + 1]? = some (.cells #[.int .i64 M] 3 (0, 0))
  walk : W.heap[Y + 2]? = some (.cells #[.func (.func 257) #[] #[.pointer (some ⟨Y + 1, 0, none⟩), .pointer (some ⟨Y, 0, none⟩), .pointer (some ⟨Y + 2, 0, none⟩)]] 275 (0, 0))

theorem Gen7.mod {l Y M : Nat} {F : Nat → Prop} {W W' : World} (h : Gen7 l Y M W) (hm : Mod F W W') (hF : ¬ F Y ∧ ¬ F (Y + 1) ∧ ¬ F (Y + 2)) : Gen7 l Y M W' :=
  ⟨(hm.block _ (heap_lt h.yield) hF.1).trans h.yield, (hm.block _ (heap_lt h.left) hF.2.1).trans h.left, (hm.block _ (heap_lt h.walk) hF.2.2).trans h.walk⟩

def WalkP7 (l n₀ Y M N : Nat) (J Jx : List ND → World → Prop) (pre : List ND) (d : Nat) (x : Tm) (W : World) (e : Ending) (W' : World) : Prop :=
  (e = .returned (.bool true) ∧ x.nodes < M ∧ (∃ q : List ND, q.map ndK = Tm.preD d x ∧ J (pre ++ q) W') ∧ Gen7 l Y (M - x.nodes) W' ∧ Mod (fun k => (n₀ ≤ k ∧ k < Y) ∨ k = Y + 1) W W') ∨
  (e = .returned (.bool false) ∧ ((M ≤ x.nodes ∧ ∃ q : List ND, q.map ndK = (Tm.preD d x).take M ∧ J (pre ++ q) W') ∨ (∃ (q : List ND) (k : Nat), q.map ndK = (Tm.preD d x).take k ∧ pre.length + q.length ≤ N ∧ Jx (pre ++ q) W')))

set_option maxRecDepth 100000 in
set_option maxHeartbeats 4000000 in
theorem nodes7_walked (l n₀ Y N : Nat) (w0 : World) (J Jx : List ND → World → Prop) (hn : n₀ ≤ Y)
    (hJ : ∀ s A B, J s A → Mod (fun k => Y ≤ k) A B → J s B)
    (hY : ∀ (m : Nat) pre x W, J pre W → TmAt (· < n₀) w0 x.1.1 x.1.2 → pre.length < N → YieldAt Fence.wide m Tryz.prog l #[.int .i64 x.2, x.1.2] W fun e W' =>
      (e = .returned (.bool true) ∧ J (pre ++ [x]) W' ∧ Mod (fun k => n₀ ≤ k ∧ k < Y) W W') ∨ (e = .returned (.bool false) ∧ Jx (pre ++ [x]) W')) (x : Tm) :
    ∀ (n d : Nat) (v : Value) (pre : List ND) (M : Nat) (W : World), d + M ≤ 4098 → TmAt (· < n₀) w0 x v → Below n₀ w0 W → n₀ ≤ w0.heap.size → Gen7 l Y M W → 1 ≤ M → M ≤ 4097 → J pre W → pre.length + M ≤ N →
      CallsIn Fence.wide n Tryz.prog 257 #[.int .i64 d, v, .pointer (some ⟨Y + 1, 0, none⟩), .pointer (some ⟨Y, 0, none⟩), .pointer (some ⟨Y + 2, 0, none⟩)] W (WalkP7 l n₀ Y M N J Jx pre d x W) := by
  induction x using Tm.ind with
  | h kk nn s t L ih =>
    intro n d v pre M W hdM hT hB hn0 hG hM hM2 hj hN
    obtain ⟨m, rfl⟩ : ∃ m, M = m + 1 := ⟨M - 1, by omega⟩
    have HT := Lib.hid hT
    obtain ⟨A, cap, rfl, hR, hk, hnn, hs, ht⟩ := hT.parts
    have hlen := hR.max
    unfold maxLen at hlen
    have HR := Lib.hid hR
    have HIH := Lib.hid ih
    clear hR ih hT
    obtain ⟨X, hX⟩ : ∃ X, X = (Tm.mk kk nn s t L) := ⟨_, rfl⟩
    rw [← hX] at HT ⊢
    obtain ⟨W1, hW1⟩ : ∃ W1, W1 = W.alloc (.cells #[.int .i8 kk, .int .i64 nn, .string s, .string t, .slice A L.length cap] 25) := ⟨_, rfl⟩
    have hYlt := heap_lt hG.walk
    have m1 : Mod (fun _ => False) W W1 := by rw [hW1]; exact Mod.alloc _ _ _
    have hs1 : W1.heap.size = W.heap.size + 1 := by rw [hW1]; simp
    have hbox : W1.heap[W.heap.size]? = some (.cells #[.int .i8 kk, .int .i64 nn, .string s, .string t, .slice A L.length cap] 25) := by rw [hW1]; exact World.alloc_heap_new _ _
    have G1 := hG.mod m1 ⟨fun h => h, fun h => h, fun h => h⟩
    have cl : W1.cell? ⟨Y + 1, 0, none⟩ = some (.int .i64 ((m : Int) + 1)) := cell_of_row G1.left rfl
    have fl : W1.frozen? ⟨Y + 1, 0, none⟩ = false := free_of_row G1.left
    obtain ⟨W2, hW2⟩ : ∃ W2, W2 = W1.setCell ⟨Y + 1, 0, none⟩ (.int .i64 (m : Int)) := ⟨_, rfl⟩
    have m2 : Mod (fun k => k = Y + 1) W1 W2 := by rw [hW2]; exact Mod.setCell _ _ _ (.inl rfl)
    have m12 : Mod (fun k => k = Y + 1) W W2 := (m1.mono (fun _ _ h => h.elim)).trans m2 (fun k _ e => e)
    have G2 : Gen7 l Y m W2 := by
      refine ⟨(m2.block _ (heap_lt G1.yield) (by omega)).trans G1.yield, ?_, (m2.block _ (heap_lt G1.walk) (by omega)).trans G1.walk⟩
      rw [hW2]; exact set_row _ G1.left
    have hs2 : W2.heap.size = W.heap.size + 1 := by rw [hW2]; simp [World.setCell, hs1]
    have cy : W2.cell? ⟨Y, 0, none⟩ = some (.func (.yield l) #[] #[]) := cell_of_row G2.yield rfl
    have hb2 : W2.heap[W.heap.size]? = _ := (m2.block _ (by omega) (by omega)).trans hbox
    have b0 : W2.cell? ⟨W.heap.size, 0, none⟩ = some (.int .i8 kk) := cell_of_row hb2 rfl
    have b1 : W2.cell? ⟨W.heap.size, 1, none⟩ = some (.int .i64 nn) := cell_of_row hb2 rfl
    have b2 : W2.cell? ⟨W.heap.size, 2, none⟩ = some (.string s) := cell_of_row hb2 rfl
    have b3 : W2.cell? ⟨W.heap.size, 3, none⟩ = some (.string t) := cell_of_row hb2 rfl
    have b4 : W2.cell? ⟨W.heap.size, 4, none⟩ = some (.slice A L.length cap) := cell_of_row hb2 rfl
    have j2 : J pre W2 := hJ _ _ _ hj (m12.mono (fun k _ e => by omega))
    obtain ⟨fn, tmps, assign, body, hy, hRound⟩ := hY (n - 1) pre ((X, _), d) W2 j2 HT.out (by omega)
    dsimp only at hy
    have HX := Lib.hid hX
    have HB := Lib.hid hB
    have HS2 := Lib.hid hs2
    have HB2 := Lib.hid hb2
    have HM12 := Lib.hid m12
    have HG2 := Lib.hid G2
    have HJ := Lib.hid hJ
    have HY := Lib.hid hY
    clear hX hG hB hs1 hs2 hbox hb2 G1 m1 m2 m12 G2 hJ hY hj j2
    -- where the walk goes on behind yield
    have back : ∀ (W3 : World) (K : Ending → World → Prop), True := fun _ _ => trivial
    subst hW2
    subst hW1
    refine callsIn_of_wp Tryz.func257 rfl trivial ?_ rfl
    simp only [Tryz.ntmps257, List.size_toArray, List.length_cons, List.length_nil, Nat.reduceAdd, Nat.reduceSub, Array.replicate_succ, Array.replicate_zero, List.push_toArray, List.append_toArray, List.nil_append, List.cons_append]
    gi_wp2
    refine ⟨fun h => (by cases h), ?_⟩
    refine hRound.mono ?_
    clear hRound hy cl fl cy b0 b1 b2 b3 b4
    rintro e W3 (⟨rfl, hJ3, hm3⟩ | ⟨rfl, hx3⟩)
    · have hs3 : W.heap.size + 1 ≤ W3.heap.size := by have := hm3.size; rw [HS2.out] at this; exact this
      have G3 : Gen7 l Y m W3 := HG2.out.mod hm3 ⟨by omega, by omega, by omega⟩
      have hb3 : W3.heap[W.heap.size]? = _ := (hm3.block _ (by rw [HS2.out]; omega) (by omega)).trans HB2.out
      have b4 : W3.cell? ⟨W.heap.size, 4, none⟩ = some (.slice A L.length cap) := cell_of_row hb3 rfl
      have cl : W3.cell? ⟨Y + 1, 0, none⟩ = some (.int .i64 (m : Int)) := cell_of_row G3.left rfl
      have HM3 : Hid (Mod (fun k => (n₀ ≤ k ∧ k < Y) ∨ k = Y + 1) W W3) := (HM12.out.mono (fun k _ e => .inr e)).trans hm3 (fun k _ e => .inl e)
      have HG3 := Lib.hid G3
      have HJ3 := Lib.hid hJ3
      clear hb3 G3 hm3 hJ3
      by_cases hm0 : m = 0
      · subst hm0
        gi_wp2
        go_ret
        refine .inr ⟨rfl, .inl ⟨Tm.pre_ne _, [((X, _), d)], ?_, HJ3.out⟩⟩
        rw [HX.out]; rfl
      · have h0 : ((m : Int) == 0) = false := by rw [beq_eq_false_iff_ne]; omega
        gi_wp2
        gi_loopw [24] (fun i wr => ∃ j : Nat, j ≤ L.length ∧ i = .int .i64 j ∧ (Tm.pres (L.take j)).length < m ∧ (∃ q : List ND, q.map ndK = Tm.presD (d + 1) (L.take j) ∧ J (pre ++ [((X, .agg #[.int .i8 kk, .int .i64 nn, .string s, .string t, .slice A L.length cap]), d)] ++ q) wr) ∧ Gen7 l Y (m - (Tm.pres (L.take j)).length) wr ∧ Mod (fun k => (n₀ ≤ k ∧ k < Y) ∨ k = Y + 1) W wr)
          (fun i _ => L.length - (intOf i).toNat)
        case atStart => exact ⟨0, Nat.zero_le _, rfl, by simp [Tm.pres]; omega, ⟨[], by simp [Tm.presD], by simpa using HJ3.out⟩, by simpa [Tm.pres] using HG3.out, HM3.out⟩
        case round =>
          obtain ⟨j, hj, rfl, hlt, ⟨q, hq, hJr⟩, hG, hMr⟩ := hrel
          have hYr : Y + 2 < wr.heap.size := by have := hMr.size; omega
          have HQ := Lib.hid hq
          have HJr := Lib.hid hJr
          have HGr := Lib.hid hG
          have HMr := Lib.hid hMr
          clear hq hJr hG hMr
          by_cases hjl : j < L.length
          · obtain ⟨y, hy⟩ : ∃ y, L[j]? = some y := ⟨L[j], List.getElem?_eq_getElem hjl⟩
            obtain ⟨ad, u, rfl, had, hE, hTy⟩ := HR.out.at_ j y hy
            have hbw : Below n₀ w0 wr := HB.out.trans (HMr.out.below (B := n₀) (by omega) (fun k h => by omega))
            have hEr : ElemAt wr ad j u := hE.keep (hbw.block ad.block had)
            obtain ⟨k', n', s', t', L', A', cap', hy', rfl⟩ : ∃ k' n' s' t' L' A' cap', y = Tm.mk k' n' s' t' L' ∧ u = .agg #[.int .i8 k', .int .i64 n', .string s', .string t', .slice A' L'.length cap'] := by
              cases hTy; exact ⟨_, _, _, _, _, _, _, rfl, rfl⟩
            obtain ⟨c0, c1, c2, c3, c4, hc, e0, e1, e2, e3, e4⟩ := hEr
            simp only [Value.agg.injEq, Array.mk.injEq, List.cons.injEq, and_true] at hc
            obtain ⟨rfl, rfl, rfl, rfl, rfl⟩ := hc
            clear hy'
            have hmem := List.mem_of_getElem? hy
            have hpy := Tm.pre_ne y
            have HYY := Lib.hid hy
            have HTY := Lib.hid hTy
            have HBW := Lib.hid hbw
            clear hE hTy hy hbw
            obtain ⟨W4, hW4⟩ : ∃ W4, W4 = wr.alloc (.cells #[.int .i8 k', .int .i64 n', .string s', .string t', .slice A' L'.length cap'] 25) := ⟨_, rfl⟩
            have m4 : Mod (fun _ => False) wr W4 := by rw [hW4]; exact Mod.alloc _ _ _
            have G4 := HGr.out.mod m4 ⟨fun h => h, fun h => h, fun h => h⟩
            have cw : W4.cell? ⟨Y + 2, 0, none⟩ = some (.func (.func 257) #[] #[.pointer (some ⟨Y + 1, 0, none⟩), .pointer (some ⟨Y, 0, none⟩), .pointer (some ⟨Y + 2, 0, none⟩)]) := cell_of_row G4.walk rfl
            have hb5 : W4.heap[wr.heap.size]? = some (.cells #[.int .i8 k', .int .i64 n', .string s', .string t', .slice A' L'.length cap'] 25) := by rw [hW4]; exact World.alloc_heap_new _ _
            have d0 : W4.cell? ⟨wr.heap.size, 0, none⟩ = some (.int .i8 k') := cell_of_row hb5 rfl
            have d1 : W4.cell? ⟨wr.heap.size, 1, none⟩ = some (.int .i64 n') := cell_of_row hb5 rfl
            have d2 : W4.cell? ⟨wr.heap.size, 2, none⟩ = some (.string s') := cell_of_row hb5 rfl
            have d3 : W4.cell? ⟨wr.heap.size, 3, none⟩ = some (.string t') := cell_of_row hb5 rfl
            have d4 : W4.cell? ⟨wr.heap.size, 4, none⟩ = some (.slice A' L'.length cap') := cell_of_row hb5 rfl
            have hlq : q.length = (Tm.pres (L.take j)).length := by rw [← Tm.presD_len (d + 1), ← HQ.out, List.length_map]
            have HC := Lib.hid (HIH.out y hmem (n - 1) (d + 1) _ (pre ++ [((X, .agg #[.int .i8 kk, .int .i64 nn, .string s, .string t, .slice (some ad) L.length cap]), d)] ++ q) (m - (Tm.pres (L.take j)).length) W4 (by omega) HTY.out
              (HBW.out.trans (m4.below (B := n₀) (by omega) (fun k h => h.elim))) hn0 G4 (by omega) (by omega) (HJ.out _ _ _ HJr.out (m4.mono (fun _ _ h => h.elim))) (by simp; omega))
            have HM4 := Lib.hid m4
            clear hb5 m4 G4
            subst hW4
            gi_wp2_with fail
            refine ⟨trivial, fun h => (by cases h), ?_⟩
            refine HC.out.mono ?_
            clear cw d0 d1 d2 d3 d4 e0 e1 e2 e3 e4
            rintro e W5 (⟨rfl, hn5, ⟨q5, hq5, hJ5⟩, hG5, hM5⟩ | ⟨rfl, hw⟩)
            · have HQ5 := Lib.hid hq5
              have HJ5 := Lib.hid hJ5
              have HG5 := Lib.hid hG5
              have HM5 := Lib.hid hM5
              have HN5 := Lib.hid hn5
              clear hq5 hJ5 hG5 hM5 hn5
              gi_wp2
              go_roundw
              case rel =>
                have e5 := Tm.presD_take_succ (d := d + 1) HYY.out
                have e6 : (Tm.pres (L.take (j + 1))).length = (Tm.pres (L.take j)).length + y.nodes := by rw [Tm.pres_take_succ HYY.out, List.length_append]; rfl
                have := HN5.out
                refine ⟨j + 1, by omega, by go_num, by omega, ⟨q ++ q5, by rw [List.map_append, HQ.out, HQ5.out, e5], by rw [← List.append_assoc]; exact HJ5.out⟩, ?_, ?_⟩
                · rw [e6, ← Nat.sub_sub]; exact HG5.out
                · exact (HMr.out.trans (HM4.out.mono (G := fun k => (n₀ ≤ k ∧ k < Y) ∨ k = Y + 1) (fun _ _ h => h.elim)) (fun _ _ h => h)).trans HM5.out (fun _ _ h => h)
              case measure => simp [intOf]; omega
            · have HW := Lib.hid hw
              clear hw
              gi_wp2
              go_ret
              rcases HW.out with ⟨h1, q5, hq5, hJ5⟩ | ⟨q5, k, hq5, hl5, hx5⟩
              · refine .inr ⟨rfl, .inl ⟨?_, [((X, _), d)] ++ q ++ q5, ?_, by simpa using hJ5⟩⟩
                · rw [HX.out, Tm.nodes_mk]
                  have := Tm.pres_len_split HYY.out
                  omega
                · have h2 := Tm.preD_take (k := kk) (n := nn) (s := s) (t := t) (d := d) HYY.out (m - (Tm.pres (L.take j)).length) h1
                  rw [show (Tm.pres (L.take j)).length + (m - (Tm.pres (L.take j)).length) + 1 = m + 1 by omega] at h2
                  rw [HX.out, h2, List.map_append, List.map_append, HQ.out, hq5]
                  rfl
              · refine .inr ⟨rfl, .inr ⟨[((X, _), d)] ++ q ++ q5, (Tm.pres (L.take j)).length + min k y.nodes + 1, ?_, by simp at hl5 ⊢; omega, by simpa using hx5⟩⟩
                rw [HX.out, Tm.preD_take HYY.out _ (Nat.min_le_right _ _), List.map_append, List.map_append, HQ.out, hq5]
                rw [show (Tm.preD (d + 1) y).take k = (Tm.preD (d + 1) y).take (min k y.nodes) by rw [← Tm.preD_len (d + 1) y]; exact List.take_eq_take_min]
                rfl
          · obtain rfl : j = L.length := by omega
            gi_wp2
            go_ret
            have hq := HQ.out
            have hG := HGr.out
            rw [List.take_length] at hq hG hlt
            refine .inl ⟨rfl, ?_, ⟨[((X, _), d)] ++ q, ?_, by simpa using HJr.out⟩, ?_, HMr.out⟩
            · rw [HX.out, Tm.nodes_mk]; omega
            · rw [List.map_append, hq, HX.out]; rfl
            · rw [HX.out, Tm.nodes_mk]
              rw [show m + 1 - ((Tm.pres L).length + 1) = m - (Tm.pres L).length by omega]
              exact hG
    · gi_wp2
      go_ret
      refine .inr ⟨rfl, .inr ⟨[((X, _), d)], 1, ?_, by simp; omega, hx3⟩⟩
      rw [HX.out]; rfl

set_option maxHeartbeats 1000000 in
theorem nodes7_in (v : Array Value) (n : Nat) (w : World) :
    CallsIn Fence.wide n Tryz.prog 234 #[.agg v] w fun e w' => e = .returned (.func (.func 256) #[] #[.pointer (some ⟨w.heap.size, 0, none⟩)]) ∧ w' = w.alloc (.cells v 25) := by
  refine callsIn_of_wp Tryz.func234 rfl trivial ?_ rfl
  simp only [Tryz.ntmps234, List.size_toArray, List.length_cons, List.length_nil, Nat.reduceAdd, Nat.reduceSub, Array.replicate_succ, Array.replicate_zero, List.push_toArray, List.append_toArray, List.nil_append, List.cons_append]
  gi_wp2
  go_ret
  exact ⟨rfl, rfl⟩

set_option maxHeartbeats 2000000 in
set_option maxRecDepth 100000 in
theorem nodes71_in (n l n₀ Bt : Nat) (x : Tm) (v : Value) (w0 W : World) (J Jx : List ND → World → Prop) (hT : TmAt (· < n₀) w0 x v) (hB : Below n₀ w0 W) (hn0 : n₀ ≤ w0.heap.size)
    (hbt : ∃ cs, v = .agg cs ∧ W.heap[Bt]? = some (.cells cs 25))
    (hJ : ∀ s A B, J s A → Mod (fun k => W.heap.size ≤ k) A B → J s B)
    (hY : ∀ pre x W1, J pre W1 → TmAt (· < n₀) w0 x.1.1 x.1.2 → pre.length < 4097 → YieldAt Fence.wide (n - 1) Tryz.prog l #[.int .i64 x.2, x.1.2] W1 fun e W' =>
      (e = .returned (.bool true) ∧ J (pre ++ [x]) W' ∧ Mod (fun k => n₀ ≤ k ∧ k < W.heap.size) W1 W') ∨ (e = .returned (.bool false) ∧ Jx (pre ++ [x]) W')) (h0 : J [] W) :
    CallsIn Fence.wide n Tryz.prog 256 #[.func (.yield l) #[] #[], .pointer (some ⟨Bt, 0, none⟩)] W fun e W' => (∃ v, e = .returned v) ∧
      ((∃ xs : List ND, xs.map ndK = (Tm.preD 1 x).take 4097 ∧ J xs W') ∨ (∃ pre : List ND, (∃ k, pre.map ndK = (Tm.preD 1 x).take k ∧ pre.length ≤ 4097) ∧ Jx pre W')) := by
  obtain ⟨cs, rfl, hbt⟩ := hbt
  obtain ⟨kk, nn, s, t, L, A, cap, hx, hcs⟩ : ∃ k' n' s' t' L' A' cap', x = Tm.mk k' n' s' t' L' ∧ Value.agg cs = .agg #[.int .i8 k', .int .i64 n', .string s', .string t', .slice A' L'.length cap'] := by
    cases hT; exact ⟨_, _, _, _, _, _, _, rfl, rfl⟩
  simp only [Value.agg.injEq] at hcs
  subst hcs
  have hs0 : n₀ ≤ W.heap.size := Nat.le_trans hn0 hB.size
  have hlt := heap_lt hbt
  obtain ⟨V, hV⟩ : ∃ V, V = ((W.alloc (.cells #[.func (.yield l) #[] #[]] 275)).alloc (.cells #[.int .i64 4097] 3)).alloc (.cells #[.func (.func 257) #[] #[.pointer (some ⟨W.heap.size + 1, 0, none⟩), .pointer (some ⟨W.heap.size, 0, none⟩), .pointer (some ⟨W.heap.size + 2, 0, none⟩)]] 275) := ⟨_, rfl⟩
  have mV : Mod (fun _ => False) W V := by rw [hV]; exact ((Mod.alloc _ _ _).trans (Mod.alloc _ _ _) (fun _ _ h => h)).trans (Mod.alloc _ _ _) (fun _ _ h => h)
  have gV : Gen7 l W.heap.size 4097 V := by
    rw [hV]
    refine ⟨?_, ?_, ?_⟩
    · exact ((Below.heap_alloc _ _ _ (by simp; omega)).trans (Below.heap_alloc _ _ _ (by simp))).trans (World.alloc_heap_new _ _)
    · refine (Below.heap_alloc _ _ _ (by simp)).trans ?_
      have := World.alloc_heap_new (W.alloc (.cells #[.func (.yield l) #[] #[]] 275)) (.cells #[.int .i64 4097] 3)
      rw [World.size_alloc] at this
      exact this
    · have := World.alloc_heap_new ((W.alloc (.cells #[.func (.yield l) #[] #[]] 275)).alloc (.cells #[.int .i64 4097] 3)) (.cells #[.func (.func 257) #[] #[.pointer (some ⟨W.heap.size + 1, 0, none⟩), .pointer (some ⟨W.heap.size, 0, none⟩), .pointer (some ⟨W.heap.size + 2, 0, none⟩)]] 275)
      simp only [World.size_alloc] at this
      exact this
  have cw : V.cell? ⟨W.heap.size + 2, 0, none⟩ = some (.func (.func 257) #[] #[.pointer (some ⟨W.heap.size + 1, 0, none⟩), .pointer (some ⟨W.heap.size, 0, none⟩), .pointer (some ⟨W.heap.size + 2, 0, none⟩)]) := cell_of_row gV.walk rfl
  have hbv : V.heap[Bt]? = _ := (mV.block _ hlt (fun h => h)).trans hbt
  have d0 : V.cell? ⟨Bt, 0, none⟩ = some (.int .i8 kk) := cell_of_row hbv rfl
  have d1 : V.cell? ⟨Bt, 1, none⟩ = some (.int .i64 nn) := cell_of_row hbv rfl
  have d2 : V.cell? ⟨Bt, 2, none⟩ = some (.string s) := cell_of_row hbv rfl
  have d3 : V.cell? ⟨Bt, 3, none⟩ = some (.string t) := cell_of_row hbv rfl
  have d4 : V.cell? ⟨Bt, 4, none⟩ = some (.slice A L.length cap) := cell_of_row hbv rfl
  have HC := Lib.hid (nodes7_walked l n₀ W.heap.size 4097 w0 J Jx hs0 hJ (fun m pre x W1 hj hx hl => YieldAt.deep7 m (hY pre x W1 hj hx hl)) x (n - 1) 1 _ [] 4097 V (by decide) hT
    (hB.trans (mV.below (B := n₀) hs0 (fun k h => h.elim))) hn0 gV (by decide) (by decide) (hJ _ _ _ h0 (mV.mono (fun _ _ h => h.elim))) (by decide))
  have HX := Lib.hid hx
  clear hbv hbt gV mV hx hT hB hJ hY h0
  subst hV
  refine callsIn_of_wp Tryz.func256 rfl trivial ?_ rfl
  simp only [Tryz.ntmps256, List.size_toArray, List.length_cons, List.length_nil, Nat.reduceAdd, Nat.reduceSub, Array.replicate_succ, Array.replicate_zero, List.push_toArray, List.append_toArray, List.nil_append, List.cons_append]
  gi_wp2_with fail
  refine ⟨trivial, fun h => (by cases h), ?_⟩
  refine HC.out.mono ?_
  clear cw d0 d1 d2 d3 d4
  rintro e W5 (⟨rfl, hn5, ⟨q5, hq5, hJ5⟩, _, _⟩ | ⟨rfl, hw⟩)
  · have HQ5 := Lib.hid hq5
    have HJ5 := Lib.hid hJ5
    have HN5 := Lib.hid hn5
    clear hq5 hJ5 hn5
    gi_wp2
    go_end0
    refine ⟨⟨_, rfl⟩, .inl ⟨q5, ?_, by simpa using HJ5.out⟩⟩
    have h := HN5.out
    rw [HQ5.out, List.take_of_length_le (by rw [Tm.preD_len]; omega)]
  · have HW := Lib.hid hw
    clear hw
    gi_wp2
    go_end0
    refine ⟨⟨_, rfl⟩, ?_⟩
    rcases HW.out with ⟨h1, q5, hq5, hJ5⟩ | ⟨q5, k, hq5, hl5, hx5⟩
    · exact .inl ⟨q5, hq5, by simpa using hJ5⟩
    · exact .inr ⟨q5, ⟨k, hq5, by simpa using hl5⟩, by simpa using hx5⟩

theorem nodes7_seq (n n₀ Bt : Nat) (x : Tm) (v : Value) (w : World) (hT : TmAt (· < n₀) w x v) (hn0 : n₀ ≤ w.heap.size) (hbt : ∃ cs, v = .agg cs ∧ w.heap[Bt]? = some (.cells cs 25)) :
    SeqC n Tryz.prog 256 #[.pointer (some ⟨Bt, 0, none⟩)] (fun y : ND => #[.int .i64 y.2, y.1.2]) n₀ (fun y => TmAt (· < n₀) w y.1.1 y.1.2) (fun xs => xs.map ndK = (Tm.preD 1 x).take 4097) (fun pre => ∃ k, pre.map ndK = (Tm.preD 1 x).take k ∧ pre.length ≤ 4097) 4097 w :=
  fun l J Jx W hW hJ hJx hY h0 => by
    obtain ⟨cs, e, hb⟩ := hbt
    exact nodes71_in n l n₀ Bt x v w W J Jx hT (hW.mono hn0) hn0 ⟨cs, e, (hW.block _ (heap_lt hb)).trans hb⟩ hJ hY h0
end Go.Proofs.YthbiaaeoajmlbaaGreatDoor
end
