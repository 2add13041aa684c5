/- A region that draws its order, in a round: walked as outside of one. A heap, where blocks apart from it are turned. slices.Values of a row of ints, and collect.below, as ranges over them want them. collect.cells: the cells of a heap at places, as a range over them wants them. collect's small functions: cells, below, Cells, split; slices.Values; words of a heap as words that come in. collect.moved: the words of a heap, in the collected one. collect.collected: the new heap. -/
import Derived.Test.YtaemfjmmklpjeaaGreatDoorRows
import Derived.RangeFuncCalls
import Derived.OrdersHeld
import Derived.OrdersIn
import Derived.RegionIn
import Derived.Deep.RegionHeld
import Derived.Test.YtaemfjmmklpjeaaGreatDoorHeapQ
import Derived.Test.YtaemfjmmklpjeaaGreatDoorRangeQ
import Derived.Test.YtaemfjmmklpjeaaGreatDoorMod
import Derived.WalkKit
import Derived.Lib.Hide
import Derived.Shelf.Abstract
import Derived.Shelf.RegionOpen
import Derived.OwnWalkIn
import Derived.TacticsInMore
import Derived.LoopNIn
import Derived.LoopIn
import Derived.RangeFuncBox
import Derived.Laws.EntriesVeiled
import Derived.Test.YtaemfjmmklpjeaaGreatDoorCellA
import Derived.Test.YtaemfjmmklpjeaaGreatDoorCoD
import Derived.LoopTactic
set_option linter.unusedVariables false
namespace Go.Proofs.YtaemfjmmklpjeaaGreatDoor
open Go.RowKit

theorem rows_in {l n : Nat} {P : Program} {row : String} {args : Array Value} {w : World} {R : Value → World → Prop} (h : Rows P row args w R) : RowsIn (Fence.wide.inRound l) n P row args w R :=
  fun c cs _ => by
    obtain ⟨v, w', r, s⟩ := h c cs
    exact ⟨v, w', r, by rw [fenced_inRound]; exact stepsIn_wide.2 s⟩
theorem oper_in {l n : Nat} {P : Program} {o : Oper} {a : Act} {w : World} {K : Act → World → Prop} {Q : Exit → Act → World → Prop} (hd : ∀ c, o.op ≠ .defer c) (h : o.wp P a w K Q) : o.wpIn (Fence.wide.inRound l) n P a w K Q := by
  refine ⟨fun _ _ => trivial, ?_⟩
  rw [Oper.semAt_eq _ _ _ hd]
  unfold Oper.wp at h
  generalize (execOp a.eval o).run P w = r at h ⊢
  cases r with
  | ok x w' =>
    cases x <;> first | exact h | exact h.elim | exact ⟨(fun e => by cases e), CallsIn.inRound l (callsIn_wide.2 h)⟩ | exact ⟨(fun e => by cases e), rows_in h⟩
  | halt x w' => cases x <;> first | exact h | exact h.elim
theorem any_in {l n : Nat} {P : Program} {md : Region.Mode} {ops : Array Oper} {Q : Exit → Act → World → Prop} (hq : ¬ LetsOut Q) (hd : ∀ (i : Nat) (o : Oper), ops[i]? = some o → ∀ c, o.op ≠ .defer c) :
    ∀ (fuel : Nat) (listed : Array Bool) (a : Act) (w : World), wpAny P md ops Q fuel listed a w → wpAnyIn (Fence.wide.inRound l) n P md ops Q fuel listed a w := by
  intro fuel
  induction fuel with
  | zero => intro listed a w h; exact h
  | succ fuel ih =>
    intro listed a w h
    refine ⟨h.1, fun i hi => ?_⟩
    have h2 := h.2 i hi
    unfold wpOp at h2
    unfold wpOpIn
    cases ho : ops[i]? with
    | none => rw [ho] at h2; exact ih _ _ _ h2
    | some o =>
      simp only [ho] at h2 ⊢
      split at h2
      · rename_i hw
        rw [if_pos hw]
        rcases h2 with h2 | h2
        · exact Oper.wpIn_mono (fun a w h => ih _ _ _ h) (oper_in (hd i o ho) h2)
        · exact absurd h2.2 hq
      · rename_i hw
        rw [if_neg hw]
        exact ⟨fun _ _ => trivial, ih _ _ _ h2⟩
def noDefer (o : Oper) : Bool := match o.op with | .defer _ => false | _ => true
theorem noDefer_ne {o : Oper} (h : noDefer o = true) (c : Call) : o.op ≠ .defer c := by
  intro e
  unfold noDefer at h
  rw [e] at h
  cases h
theorem region_in {l n : Nat} {P : Program} {id : Nat} {ops : Array Oper} {Q : Exit → Act → World → Prop} {a : Act} {w : World} (hq : ¬ LetsOut Q) (hd : ops.all noDefer = true) (hm : P.follows .mixedOrders = true)
    (h : wpAny P .any ops Q ops.size (Array.replicate ops.size false) a w.drew) : (Code.region id ops true).wpIn (Fence.wide.inRound l) n P Q a w :=
  wpIn_region_any hm (any_in hq (fun i o ho c => noDefer_ne (by
    rw [Array.all_eq_true] at hd
    obtain ⟨hi, e⟩ := Array.getElem?_eq_some_iff.1 ho
    rw [← e]; exact hd i hi) c) _ _ _ _ h)
theorem region_held_in {l n : Nat} {P : Program} {id : Nat} {ops : Array Oper} {Q : Exit → Act → World → Prop} {S : World → Prop} {a : Act} {w : World} (hq : ¬ LetsOut Q) (hd : ops.all noDefer = true) (hm : P.follows .mixedOrders = true)
    (h : wpAnyH P .any ops Q S ops.size (Array.replicate ops.size false) a w.drew) : (Code.region id ops true).wpIn (Fence.wide.inRound l) n P Q a w :=
  region_in hq hd hm (wpAny_of_held _ _ _ _ h)
end Go.Proofs.YtaemfjmmklpjeaaGreatDoor
set_option linter.unusedVariables false
namespace Go.Proofs.YtaemfjmmklpjeaaGreatDoor
open Go.RowKit

theorem HeapCore.mods {base hb : Nat} {w w' : World} {cs : List HC} {CS RM : Value} {F : Nat → Prop} (h : HeapCore base w hb cs CS RM) (m : Mod F w w') (hF : ∀ i, i < w.heap.size → F i → HeapCore base w i cs CS RM) : HeapCore base w' hb cs CS RM := by
  obtain ⟨vs, hl, ho, hp⟩ := h.row
  obtain ⟨A, rn, e, h2⟩ := h.room
  subst e
  refine ⟨⟨vs, hl, m.row ho (fun i hk hf => (hF i (ho.lt i hk).2 hf).apart hk), fun n c hc => ?_⟩, ⟨A, rn, rfl, fun hr => ?_⟩, h.apart⟩
  · obtain ⟨A, hv, hw, hs⟩ := hp n c hc
    refine ⟨A, hv, hw.keep (fun g o e hL => ?_), hs⟩
    subst e
    have hlt := hw.lt hL
    refine m.block _ hlt (fun hf => ?_)
    obtain ⟨vs', hl', ho', hp'⟩ := (hF g hlt hf).row
    obtain ⟨A2, hv2, hw2, hs2⟩ := hp' n c hc
    have e := vs_eq ho ho' hc hv hv2
    cases e
    exact (hs2 g o rfl hL).2.1 rfl
  · obtain ⟨g, o, cur, e1, e2, e3, e4, e5, e6⟩ := h2 hr
    refine ⟨g, o, cur, e1, e2, e3, e4, (m.block g (heap_lt e5) (fun hf => ?_)).trans e5, e6⟩
    obtain ⟨A9, rn9, e9, h9⟩ := (hF g (heap_lt e5) hf).room
    cases e9
    obtain ⟨g', o', cur', e1', _, e3', _⟩ := h9 hr
    subst e1
    cases e1'
    exact e3' rfl
theorem HSt.Core.mods {s : HSt} {base : Nat} {w w' : World} {b : Nat} {F : Nat → Prop} (h : s.Core base w b) (m : Mod F w w') (hF : ∀ i, i < w.heap.size → F i → s.Core base w i) : s.Core base w' b := HeapCore.mods h m hF
theorem HSt.At.mods {s : HSt} {base : Nat} {w w' : World} {hb : Nat} {F : Nat → Prop} (h : s.At base w hb) (m : Mod F w w') (hF : ∀ i, i < w.heap.size → F i → i ≠ hb ∧ s.Core base w i) : s.At base w' hb :=
  ⟨HeapAt.low h, (m.block hb h.lt (fun hf => (hF hb h.lt hf).1 rfl)).trans h.bx, HeapCore.mods (HeapAt.core h) m (fun i hi hf => (hF i hi hf).2)⟩
theorem HeapCore.swap {base hb b : Nat} {w : World} {cs cs' : List HC} {CS RM : Value} (h : HeapCore base w hb cs CS RM) (k : HeapCore base w b cs' CS RM) : HeapCore base w b cs CS RM := by
  obtain ⟨vs, hl, ho, hp⟩ := h.row
  obtain ⟨vs', hl', ho', hp'⟩ := k.row
  have hlen : cs.length = cs'.length := by
    rcases ho.2 with ⟨e, hn⟩ | ⟨g, cap, cur, e, _⟩
    · rcases ho'.2 with ⟨e', hn'⟩ | ⟨g', cap', cur', e', _⟩
      · omega
      · rw [e] at e'; cases e'
    · rcases ho'.2 with ⟨e', hn'⟩ | ⟨g', cap', cur', e', _⟩
      · rw [e] at e'; cases e'
      · rw [e] at e'; simp at e'; omega
  obtain ⟨A9, rn9, e9, h9⟩ := h.room
  obtain ⟨A, rn, e, h2⟩ := k.room
  refine ⟨⟨vs, hl, ho, fun n c hc => ?_⟩, ⟨A, rn, e, h2⟩, k.apart⟩
  obtain ⟨A1, hv, hw, hs⟩ := hp n c hc
  have hn := (List.getElem?_eq_some_iff.1 hc).1
  obtain ⟨c2, hc2⟩ : ∃ c2, cs'[n]? = some c2 := ⟨cs'[n], List.getElem?_eq_getElem (by omega)⟩
  obtain ⟨A2, hv2, hw2, hs2⟩ := hp' n c2 hc2
  have hvv : (Value.slice A1 c.L.length c.L.length) = .slice A2 c2.L.length c2.L.length := by
    obtain ⟨-, -, q1⟩ := rowC_at hc hv
    obtain ⟨-, -, q2⟩ := rowC_at hc2 hv2
    have hown := ho
    rcases ho.2 with ⟨_, hz⟩ | ⟨g, cap, cur, rfl, _⟩
    · omega
    · have a := hown.cells (g := g) rfl _ _ q1
      have b := ho'.cells (g := g) rfl _ _ q2
      rw [a] at b
      exact Option.some.inj b
  simp only [Value.slice.injEq] at hvv
  refine ⟨A1, hv, hw, fun g o e hL => ⟨(hs g o e hL).1, ?_, (hs g o e hL).2.2.1, (hs g o e hL).2.2.2⟩⟩
  exact (hs2 g o (by rw [← hvv.1]; exact e) (fun h0 => hL (List.eq_nil_of_length_eq_zero (by rw [hvv.2.1, h0]; rfl)))).2.1
theorem HSt.At.swap {s s' : HSt} {base hb b : Nat} {w : World} (h : s.At base w hb) (h' : s'.At base w hb) (k : s'.Core base w b) : s.Core base w b := by
  have e := h.bx
  rw [h'.bx] at e
  simp only [Option.some.injEq, Obj.cells.injEq, Array.mk.injEq, List.cons.injEq, Value.slice.injEq, and_true] at e
  unfold HSt.Core at k ⊢
  obtain ⟨e1, -, e2, e3, -⟩ := e
  rw [e1, e2, e3] at k
  exact HeapCore.swap (HeapAt.core h) k
end Go.Proofs.YtaemfjmmklpjeaaGreatDoor
set_option linter.unusedVariables false
namespace Go.Proofs.YtaemfjmmklpjeaaGreatDoor
open Go.RowKit

def IRow (w : World) (A : Option Addr) (PL : List Nat) : Prop := ∀ (j a : Nat), PL[j]? = some a → ∃ g, A = some ⟨g, 0, none⟩ ∧ w.cell? ⟨g, j, none⟩ = some (.int .i64 (a : Int))
theorem IRow.keep {w w' : World} {A : Option Addr} {PL : List Nat} (h : IRow w A PL) (hb : ∀ g, A = some ⟨g, 0, none⟩ → w'.heap[g]? = w.heap[g]?) : IRow w' A PL := fun j a hj => by
  obtain ⟨g, e, hc⟩ := h j a hj
  exact ⟨g, e, (World.cell?_of_block (w := w) (a := ⟨g, j, none⟩) (hb g e)).trans hc⟩

set_option maxRecDepth 100000 in
set_option maxHeartbeats 4000000 in
theorem values_seq (n : Nat) (Lo : Nat → Prop) (sb : Nat) (A : Option Addr) (cap : Nat) (PL : List Nat) (w : World) (hb : w.heap[sb]? = some (.cells #[.slice A PL.length cap] 44 (0, 0))) (hsb : Lo sb) (hA : ∀ g, A = some ⟨g, 0, none⟩ → Lo g ∧ g < w.heap.size) (hR : IRow w A PL) (hl : PL.length ≤ 1000000000) :
    SeqQ n Tryz.prog 72 #[.pointer (some ⟨sb, 0, none⟩)] (fun a : Nat => #[.int .i64 (a : Int)]) Lo (fun _ _ _ => True) (fun xs => xs = PL) (fun pre => ∃ k, pre = PL.take k) w := by
  intro Own l J Jx W hW hO hOs hOn hJ hY hJx h0
  have hbW := (hW.block _ (heap_lt hb)).trans hb
  have hRW : IRow W A PL := hR.keep (fun g e => hW.block _ (hA g e).2)
  have c0 : W.cell? ⟨sb, 0, none⟩ = some (.slice A PL.length cap) := cell_of_row hbW rfl
  have HY := Lib.hid hY
  have HR := Lib.hid hRW
  have HA := Lib.hid hA
  have HSB := Lib.hid hsb
  have H0 := Lib.hid h0
  clear hW hO hOs hOn hJ hJx hbW hb hR hRW hY hA hsb h0
  refine callsIn_of_wp Tryz.func72 rfl trivial ?_ rfl
  simp only [Tryz.ntmps72, List.size_toArray, List.length_cons, List.length_nil, Nat.reduceAdd, Nat.reduceSub, Array.replicate_succ, Array.replicate_zero, List.push_toArray, List.append_toArray, List.nil_append, List.cons_append]
  gi_wp2_with fail
  gi_loopw [7] (fun i wr => ∃ j : Nat, j ≤ PL.length ∧ i = .int .i64 j ∧ Hid (J (PL.take j) wr) ∧ Hid (∀ k, Lo k → wr.heap[k]? = W.heap[k]?)) (fun i _ => PL.length - (intOf i).toNat)
  case atStart => exact ⟨0, Nat.zero_le _, rfl, H0, Lib.hid (fun _ _ => rfl)⟩
  case round =>
    obtain ⟨j, hj, rfl, HJ, HK⟩ := hrel
    by_cases hlt : j < PL.length
    · obtain ⟨a, ha⟩ : ∃ a, PL[j]? = some a := ⟨PL[j], List.getElem?_eq_getElem hlt⟩
      obtain ⟨g, hAg, hc⟩ := HR.out j a ha
      subst hAg
      have hc' : wr.cell? ⟨g, j, none⟩ = some (.int .i64 (a : Int)) := (World.cell?_of_block (w := W) (a := ⟨g, j, none⟩) (HK.out g (HA.out g rfl).1)).trans hc
      have hc2 : wr.cell? ((⟨g, 0, none⟩ : Addr).add j) = some (.int .i64 (a : Int)) := by rw [show (⟨g, 0, none⟩ : Addr).add j = ⟨g, j, none⟩ by unfold Addr.add; split <;> simp_all]; exact hc'
      have htk : PL.take (j + 1) = PL.take j ++ [a] := by rw [List.take_add_one, ha]; rfl
      obtain ⟨fn, tmps, assign, body, hy, hRd⟩ := HY.out (PL.take j) a wr HJ.out trivial ⟨j + 1, htk.symm⟩
      have HTK := Lib.hid htk
      clear hc ha htk
      gi_wp2_with fail
      refine ⟨(fun h => by cases h), hRd.mono ?_⟩
      rintro e W3 (⟨rfl, hJ3, hK3⟩ | ⟨rfl, hJx3, -⟩)
      · have HJ3 : Hid (J (PL.take (j + 1)) W3) := by rw [HTK.out]; exact hJ3
        have HK3 : Hid (∀ k, Lo k → W3.heap[k]? = W.heap[k]?) := fun k hk => (hK3.low k hk).trans (HK.out k hk)
        clear hJ3 hRd hy hK3 hc' hc2
        gi_wp2_with fail
        go_roundw
        case rel => exact ⟨j + 1, by omega, by go_num, HJ3, HK3⟩
        case measure => simp [intOf]; omega
      · have HJ3 : Hid (Jx (PL.take (j + 1)) W3) := by rw [HTK.out]; exact hJx3
        clear hJx3 hRd hy hc' hc2
        gi_wp2_with fail
        refine bodyPost_ret (results_none rfl _ _ _) rfl ?_
        exact ⟨⟨_, rfl⟩, .inr ⟨_, ⟨j + 1, rfl⟩, HJ3.out⟩⟩
    · obtain rfl : j = PL.length := by omega
      rw [List.take_length] at HJ
      gi_wp2_with fail
      go_end0
      exact ⟨⟨_, rfl⟩, .inl ⟨_, rfl, HJ.out⟩⟩

set_option maxRecDepth 100000 in
set_option maxHeartbeats 4000000 in
theorem below5_seq (n : Nat) (Lo : Nat → Prop) (nb N : Nat) (w : World) (hb : w.heap[nb]? = some (.cells #[.int .i64 (N : Int)] 3 (0, 0))) (hN : N ≤ 1000000000) :
    SeqQ n Tryz.prog 67 #[.pointer (some ⟨nb, 0, none⟩)] (fun a : Nat => #[.int .i64 (a : Int)]) Lo (fun _ _ _ => True) (fun xs => xs = List.range N) (fun pre => ∃ k, pre = (List.range N).take k) w := by
  intro Own l J Jx W hW hO hOs hOn hJ hY hJx h0
  have hbW := (hW.block _ (heap_lt hb)).trans hb
  have c0 : W.cell? ⟨nb, 0, none⟩ = some (.int .i64 (N : Int)) := cell_of_row hbW rfl
  have HY := Lib.hid hY
  have H0 := Lib.hid h0
  clear hW hO hOs hOn hJ hJx hbW hb hY h0
  refine callsIn_of_wp Tryz.func67 rfl trivial ?_ rfl
  simp only [Tryz.ntmps67, List.size_toArray, List.length_cons, List.length_nil, Nat.reduceAdd, Nat.reduceSub, Array.replicate_succ, Array.replicate_zero, List.push_toArray, List.append_toArray, List.nil_append, List.cons_append]
  gi_wp2_with fail
  gi_loopw [5] (fun i wr => ∃ j : Nat, j ≤ N ∧ i = .int .i64 j ∧ Hid (J ((List.range N).take j) wr)) (fun i _ => N - (intOf i).toNat)
  case atStart => exact ⟨0, Nat.zero_le _, rfl, H0⟩
  case round =>
    obtain ⟨j, hj, rfl, HJ⟩ := hrel
    by_cases hlt : j < N
    · have htk : (List.range N).take (j + 1) = (List.range N).take j ++ [j] := by rw [List.take_add_one, List.getElem?_range hlt]; rfl
      obtain ⟨fn, tmps, assign, body, hy, hRd⟩ := HY.out ((List.range N).take j) j wr HJ.out trivial ⟨j + 1, htk.symm⟩
      have HTK := Lib.hid htk
      clear htk
      gi_wp2_with fail
      refine ⟨(fun h => by cases h), hRd.mono ?_⟩
      rintro e W3 (⟨rfl, hJ3, hK3⟩ | ⟨rfl, hJx3, -⟩)
      · have HJ3 : Hid (J ((List.range N).take (j + 1)) W3) := by rw [HTK.out]; exact hJ3
        clear hJ3 hRd hy hK3
        gi_wp2_with fail
        go_roundw
        case rel => exact ⟨j + 1, by omega, by go_num, HJ3⟩
        case measure => simp [intOf]; omega
      · have HJ3 : Hid (Jx ((List.range N).take (j + 1)) W3) := by rw [HTK.out]; exact hJx3
        clear hJx3 hRd hy
        gi_wp2_with fail
        refine bodyPost_ret (results_none rfl _ _ _) rfl ?_
        exact ⟨⟨_, rfl⟩, .inr ⟨_, ⟨j + 1, rfl⟩, HJ3.out⟩⟩
    · obtain rfl : j = N := by omega
      rw [List.take_of_length_le (by simp)] at HJ
      gi_wp2_with fail
      go_end0
      exact ⟨⟨_, rfl⟩, .inl ⟨_, rfl, HJ.out⟩⟩
end Go.Proofs.YtaemfjmmklpjeaaGreatDoor
set_option linter.unusedVariables false
namespace Go.Proofs.YtaemfjmmklpjeaaGreatDoor
open Go.RowKit

theorem KQ.of_below {Own : Nat → World → Prop} {Lo : Nat → Prop} {A V C : World} (hO : ∀ k A, Own k A → k < A.heap.size) (hOs : ∀ k A B F, Own k A → Mod F A B → (∀ j, j < A.heap.size → F j → Own j A) → Own k B) (hLo : ∀ k, Lo k → k < A.heap.size)
    (b : Below A.heap.size A V) (h : KQ Own Lo V C) : KQ Own Lo A C :=
  ⟨Nat.le_trans b.size h.size, fun k hk => (h.low k hk).trans (b.block k (hLo k hk)), fun k hk => by
    obtain ⟨e, o⟩ := h.own k (hOs k A V (fun _ => False) hk (Mod.of_below b) (fun _ _ f => f.elim))
    exact ⟨e.trans (b.block k (hO k A hk)), o⟩⟩

abbrev CI := Nat × HC × Value
def CellE (CR : Nat → HC → Prop) (lo : Nat) (x : CI) (W : World) : Prop :=
  CR x.1 x.2.1 ∧ ∃ A cap, x.2.2 = .agg #[.int .i8 x.2.1.k, .int .i64 x.2.1.size, .slice A x.2.1.L.length cap] ∧ (x.2.1.L ≠ [] → ∃ g, A = some ⟨g, 0, none⟩ ∧ lo ≤ g ∧ g < W.heap.size ∧ WordsIn W g x.2.1.L)
def encC (x : CI) : Array Value := #[.int .i64 (x.1 : Int), x.2.2]
def CellsTold (Lo : Nat → Prop) (hv : Value) (PL : List Nat) (CR : Nat → HC → Prop) (w : World) : Prop :=
  ∀ a ∈ PL, ∃ c, CR a c ∧ ∀ V, (∀ k, Lo k → V.heap[k]? = w.heap[k]?) → w.heap.size ≤ V.heap.size → Calls Tryz.prog 56 #[hv, .int .i64 (a : Int)] V (CellP c V)
def InnerQ (Lo : Nat → Prop) (gin : Nat) (lbin : Array Value) (PL : List Nat) (w : World) : Prop :=
  ∀ m V, (∀ k, Lo k → V.heap[k]? = w.heap[k]?) → w.heap.size ≤ V.heap.size → SeqQ m Tryz.prog gin lbin (fun a : Nat => #[.int .i64 (a : Int)]) Lo (fun _ _ _ => True) (fun xs => xs = PL) (fun pre => ∃ k, pre = PL.take k) V

def OwnI (Own : Nat → World → Prop) (B k : Nat) (A : World) : Prop := Own k A ∧ B + 2 ≤ k ∧ Own B A ∧ Own (B + 1) A
structure InI (Own : Nat → World → Prop) (Lo : Nat → Prop) (J : List CI → World → Prop) (yv : Value) (T : TypeId) (B : Nat) (w : World) (pre : List Nat) (A : World) : Prop where
  inv : ∃ xs : List CI, xs.map (·.1) = pre ∧ J xs A
  r0 : Own B A
  r1 : Own (B + 1) A
  yb : A.heap[B - 1]? = some (.cells #[yv] T (0, 0))
  yo : Own (B - 1) A
  lo : ∀ k, Lo k → A.heap[k]? = w.heap[k]?
  size : B + 2 ≤ A.heap.size
def InX (Own : Nat → World → Prop) (Jx : List CI → World → Prop) (B : Nat) (c : Code) (pre : List Nat) (A : World) : Prop :=
  c = .ret ∧ (∃ xs : List CI, xs.map (·.1) = pre ∧ Jx xs A) ∧ Own B A ∧ Own (B + 1) A

attribute [local go_sem] Oper.semAt_some
set_option maxRecDepth 100000 in
set_option maxHeartbeats 8000000 in
theorem cells5_seq (n : Nat) (Lo : Nat → Prop) (hbx pbx : Nat) (hv : Value) (gin : Nat) (lbin : Array Value) (PL : List Nat) (CR : Nat → HC → Prop) (w : World) (eg : ∀ args w, (callFunc gin args).run Tryz.prog w = .ok (.enter gin args) w)
    (hLo : ∀ k, Lo k → k < w.heap.size) (h1 : Lo hbx) (h2 : Lo pbx) (hb1 : w.heap[hbx]? = some (.cells #[hv] 33 (0, 0))) (hb2 : w.heap[pbx]? = some (.cells #[.func (.func gin) #[] lbin] 91 (0, 0)))
    (HIN : InnerQ Lo gin lbin PL w) (HC : CellsTold Lo hv PL CR w) :
    SeqQ n Tryz.prog 66 #[.pointer (some ⟨pbx, 0, none⟩), .pointer (some ⟨hbx, 0, none⟩)] encC Lo (CellE CR) (fun xs => xs.map (·.1) = PL) (fun pre => ∃ k, pre.map (·.1) = PL.take k) w := by
  intro Own l J Jx W hW hO hOs hOn hJ hY hJx h0
  obtain ⟨B, hB⟩ : ∃ B, B = W.heap.size + 1 := ⟨_, rfl⟩
  obtain ⟨W2, hW2⟩ : ∃ W2, W2 = W.alloc (.cells #[.func (.yield l) #[] #[]] 113) := ⟨_, rfl⟩
  have hs2 : W2.heap.size = B := by rw [hW2, hB]; simp
  have b2 : Below W.heap.size W W2 := by rw [hW2]; exact (Below.refl _ _).alloc (Nat.le_refl _) _
  have g2 : W2.heap[W.heap.size]? = some (.cells #[.func (.yield l) #[] #[]] 113 (0, 0)) := by rw [hW2]; exact block_alloc _ _
  have j2 : J [] W2 := hJ _ _ _ (fun _ => False) h0 (Mod.of_below b2) (fun _ _ f => f.elim)
  have oy : Own W.heap.size W2 := by rw [hW2]; exact hOn _ _ _ h0 (Nat.le_refl _)
  have p2 : W2.cell? ⟨pbx, 0, none⟩ = some (.func (.func gin) #[] lbin) := cell_of_row ((b2.block _ (by have := hLo _ h2; have := hW.size; omega)).trans ((hW.block _ (heap_lt hb2)).trans hb2)) rfl
  have lo2 : ∀ k, Lo k → W2.heap[k]? = w.heap[k]? := fun k hk => (b2.block k (Nat.lt_of_lt_of_le (hLo k hk) hW.size)).trans (hW.block k (hLo k hk))
  have hSQ : ∀ m, SeqQ m Tryz.prog gin lbin (fun a : Nat => #[.int .i64 (a : Int)]) Lo (fun _ _ _ => True) (fun xs => xs = PL) (fun pre => ∃ k, pre = PL.take k) W2 := fun m => HIN m W2 lo2 (Nat.le_trans hW.size b2.size)
  have HSQ := Lib.hid hSQ
  have HO := Lib.hid hO
  have HOs := Lib.hid hOs
  have HOn := Lib.hid hOn
  have HJ := Lib.hid hJ
  have HY := Lib.hid hY
  have HJX := Lib.hid hJx
  have HLO := Lib.hid hLo
  have HCT := Lib.hid HC
  have HB := Lib.hid (And.intro hB (And.intro hs2 hW.size))
  have HBX := Lib.hid (And.intro hb1 h1)
  have H2 := Lib.hid (And.intro g2 (And.intro j2 (And.intro oy lo2)))
  clear hO hOs hOn hJ hY hJx h0 hLo HC hB hs2 g2 j2 oy lo2 b2 hW HIN h1 h2 hb1 hb2 hSQ
  refine callsIn_of_wp_marks Tryz.func66 rfl trivial ?_ rfl
  simp only [Tryz.ntmps66, List.size_toArray, List.length_cons, List.length_nil, Nat.reduceAdd, Nat.reduceSub, Array.replicate_succ, Array.replicate_zero, List.push_toArray, List.append_toArray, List.nil_append, List.cons_append]
  rw [hW2] at p2
  gi_wp2_with fail
  rw [← hW2]
  clear hW2 p2
  have OF : ∀ (A : World) (F : Nat → Prop) (o0 : Own B A) (o1 : Own (B + 1) A) (H : ∀ j, j < A.heap.size → F j → OwnI Own B j A ∨ j = W2.heap.size ∨ j = W2.heap.size + 1), ∀ j, j < A.heap.size → F j → Own j A := fun A F o0 o1 H j hj hf => by
    have e := HB.out.2.1
    rcases H j hj hf with h | h | h
    · exact h.1
    · rw [h, e]; exact o0
    · rw [h, e]; exact o1
  have HOF := Lib.hid OF
  clear OF
  have hOI : ∀ k A C F, OwnI Own B k A → Mod F A C → (∀ j, j < A.heap.size → F j → Own j A) → OwnI Own B k C := fun k A C F h hm hF => ⟨HOs.out _ _ _ _ h.1 hm hF, h.2.1, HOs.out _ _ _ _ h.2.2.1 hm hF, HOs.out _ _ _ _ h.2.2.2 hm hF⟩
  have HOI := Lib.hid hOI
  clear hOI
  have hII : ∀ s A C F, InI Own Lo J (.func (.yield l) #[] #[]) 113 B w s A → Mod F A C → (∀ j, j < A.heap.size → F j → Own j A) → (∀ j, F j → B ≤ j) → InI Own Lo J (.func (.yield l) #[] #[]) 113 B w s C := fun s A C F h hm hF hB' => by
    have hB1 := HB.out.1
    obtain ⟨xs, hx, hJ⟩ := h.inv
    refine ⟨⟨xs, hx, HJ.out _ _ _ _ hJ hm hF⟩, HOs.out _ _ _ _ h.r0 hm hF, HOs.out _ _ _ _ h.r1 hm hF, (hm.block _ (heap_lt h.yb) (fun hf => by have := hB' _ hf; omega)).trans h.yb, HOs.out _ _ _ _ h.yo hm hF, fun k hk => ?_, Nat.le_trans h.size hm.size⟩
    have := HLO.out k hk
    have := HB.out.2.2
    have := h.size
    exact (hm.block k (by omega) (fun hf => by have := hB' _ hf; omega)).trans (h.lo k hk)
  have HII := Lib.hid hII
  clear hII
  have hFB : ∀ (A : World) (F : Nat → Prop), (∀ j, j < A.heap.size → F j → OwnI Own B j A ∨ j = W2.heap.size ∨ j = W2.heap.size + 1) → ∀ (C : World), Mod F A C → ∃ G : Nat → Prop, Mod G A C ∧ (∀ j, j < A.heap.size → G j → OwnI Own B j A ∨ j = W2.heap.size ∨ j = W2.heap.size + 1) ∧ (∀ j, G j → B ≤ j) := fun A F H C hm => by
    refine ⟨fun j => F j ∧ j < A.heap.size, hm.mono (fun i hi hf => ⟨hf, hi⟩), fun j hj hf => H j hj hf.1, fun j hf => ?_⟩
    have e := HB.out.2.1
    rcases H j hf.2 hf.1 with h | h | h
    · have := h.2.1; omega
    · omega
    · omega
  have HFB := Lib.hid hFB
  clear hFB
  have hI0 : ∀ d r, InI Own Lo J (.func (.yield l) #[] #[]) 113 B w [] ((W2.alloc d).alloc r) := fun d r => by
    obtain ⟨hB1, hB2, hB3⟩ := HB.out
    obtain ⟨g2, j2, oy, lo2⟩ := H2.out
    have bd : Below W2.heap.size W2 (W2.alloc d) := (Below.refl _ _).alloc (Nat.le_refl _) _
    have br : Below (W2.alloc d).heap.size (W2.alloc d) ((W2.alloc d).alloc r) := (Below.refl _ _).alloc (Nat.le_refl _) _
    have jd : J [] (W2.alloc d) := HJ.out _ _ _ (fun _ => False) j2 (Mod.of_below bd) (fun _ _ f => f.elim)
    have jr : J [] ((W2.alloc d).alloc r) := HJ.out _ _ _ (fun _ => False) jd (Mod.of_below br) (fun _ _ f => f.elim)
    have o0 : Own B (W2.alloc d) := by have := HOn.out _ _ d j2 (by omega); rwa [hB2] at this
    have hsd : (W2.alloc d).heap.size = B + 1 := by simp [hB2]
    have o1 : Own (B + 1) ((W2.alloc d).alloc r) := by have := HOn.out _ _ r jd (by omega); rwa [hsd] at this
    have oyd : Own W.heap.size (W2.alloc d) := HOs.out _ _ _ (fun _ => False) oy (Mod.of_below bd) (fun _ _ f => f.elim)
    refine ⟨⟨[], rfl, jr⟩, HOs.out _ _ _ (fun _ => False) o0 (Mod.of_below br) (fun _ _ f => f.elim), o1, ?_, ?_, fun k hk => ?_, ?_⟩
    · rw [show B - 1 = W.heap.size by omega]
      exact (br.block _ (by omega)).trans ((bd.block _ (by omega)).trans g2)
    · rw [show B - 1 = W.heap.size by omega]
      exact HOs.out _ _ _ (fun _ => False) oyd (Mod.of_below br) (fun _ _ f => f.elim)
    · have := HLO.out k hk
      exact (br.block _ (by omega)).trans ((bd.block _ (by omega)).trans (lo2 k hk))
    · simp [hB2]
  have HI0 := Lib.hid hI0
  clear hI0
  refine range_q (α := Nat) (gf := gin) (lb := lbin) rfl eg (fun _ => rfl) (HSQ.out (n - 1)) (fun k hk => by have := HLO.out k hk; have := HB.out; omega)
    (OwnI Own B) (fun k A h => ⟨(HO.out _ _ h.1).1, by have := h.2.1; have := HB.out; omega⟩) (fun k A C F hs h hm hF => HOI.out _ _ _ _ h hm (HOF.out _ _ h.2.2.1 h.2.2.2 hF))
    (InI Own Lo J (.func (.yield l) #[] #[]) 113 B w) (InX Own Jx B) (fun s A o h hs => by
      obtain ⟨xs, hx, hj⟩ := h.inv
      have hm : Mod (fun _ => False) A (A.alloc o) := Mod.of_below ((Below.refl _ _).alloc (Nat.le_refl _) _)
      exact ⟨HOn.out _ _ o hj (by have := h.size; have := HB.out; omega), h.size, HOs.out _ _ _ _ h.r0 hm (fun _ _ f => f.elim), HOs.out _ _ _ _ h.r1 hm (fun _ _ f => f.elim)⟩)
    (fun s A C F _ h hm hF => by
      obtain ⟨G, hG, hGF, hGB⟩ := HFB.out A F hF C hm
      exact HII.out _ _ _ _ h hG (HOF.out _ _ h.r0 h.r1 hGF) hGB)
    (fun c s A C F _ h hm hF => by
      obtain ⟨hc, ⟨xs, hx, hj⟩, o0, o1⟩ := h
      have hf := HOF.out _ _ o0 o1 hF
      exact ⟨hc, ⟨xs, hx, HJX.out _ _ _ _ hj hm hf⟩, HOs.out _ _ _ _ o0 hm hf, HOs.out _ _ _ _ o1 hm hf⟩) HI0.out
    (fun _ _ _ _ _ => trivial)
    (fun x a' X => a' = { tmps := #[.func (.yield l) #[] #[], .pointer (some ⟨pbx, 0, none⟩), .pointer (some ⟨hbx, 0, none⟩), .pointer (some ⟨W.heap.size, 0, none⟩), .int .i64 (x : Int), undef, undef, .func (.func gin) #[] lbin, .int .i64 (x : Int), undef, undef, undef, undef, undef, undef, undef, undef, undef, undef, undef, undef, undef, undef, undef], defers := [] })
    (fun x a' X Y hm h => h) ?assign ?body ?done ?stop
  case assign =>
    intro l2 pre x V K hi _ hsz hK
    have HK := Lib.hid (hK _ _ (Below.refl _ V) rfl)
    clear hK hi hsz
    gi_wp2
    exact HK.out
  case body =>
    rintro l2 pre x a' V hi - rfl hsp hsz hlow
    have HI := Lib.hid hi
    have HSP := Lib.hid hsp
    clear hi hsp hsz hlow
    obtain ⟨k, hk⟩ := HSP.out
    have hxm : x ∈ PL := List.mem_of_mem_take (by rw [← hk]; simp)
    obtain ⟨c, hcr, hcell⟩ := HCT.out x hxm
    have hVw : w.heap.size ≤ V.heap.size := by have := HI.out.size; have := HB.out; omega
    have HCELL := Lib.hid (hcell V HI.out.lo hVw)
    have HCR := Lib.hid hcr
    clear hcell hcr hxm hk
    have b0 : V.cell? ⟨hbx, 0, none⟩ = some hv := cell_of_row ((HI.out.lo _ HBX.out.2).trans HBX.out.1) rfl
    gi_wp2_with fail
    refine ⟨trivial, (fun h => by cases h), ?_⟩
    refine (CallsIn.inRound l2 (callsIn_wide.2 HCELL.out)).mono ?_
    rintro e V1 ⟨A1, cap1, rfl, bV1, hW1⟩
    have BV1 := Lib.hid bV1
    have HW1 := Lib.hid hW1
    clear bV1 hW1 b0
    have z0 : (V1.alloc (.cells #[.int .i8 0, .int .i64 0, .slice none 0 0] 62)).cell? ⟨V1.heap.size, 0, none⟩ = some (.int .i8 0) := cell_of_row (block_alloc _ _) rfl
    have zf0 : (V1.alloc (.cells #[.int .i8 0, .int .i64 0, .slice none 0 0] 62)).frozen? ⟨V1.heap.size, 0, none⟩ = false := free_of_row (block_alloc _ _)
    have z1 : (V1.alloc (.cells #[.int .i8 0, .int .i64 0, .slice none 0 0] 62)).cell? ⟨V1.heap.size, 1, none⟩ = some (.int .i64 0) := cell_of_row (block_alloc _ _) rfl
    have zf1 : (V1.alloc (.cells #[.int .i8 0, .int .i64 0, .slice none 0 0] 62)).frozen? ⟨V1.heap.size, 1, none⟩ = false := free_of_row (block_alloc _ _)
    have z2 : (V1.alloc (.cells #[.int .i8 0, .int .i64 0, .slice none 0 0] 62)).cell? ⟨V1.heap.size, 2, none⟩ = some (.slice none 0 0) := cell_of_row (block_alloc _ _) rfl
    have zf2 : (V1.alloc (.cells #[.int .i8 0, .int .i64 0, .slice none 0 0] 62)).frozen? ⟨V1.heap.size, 2, none⟩ = false := free_of_row (block_alloc _ _)
    obtain ⟨V2, hV2⟩ : ∃ V2, V2 = V1.alloc (.cells #[.int .i8 c.k, .int .i64 c.size, .slice A1 c.L.length cap1] 62) := ⟨_, rfl⟩
    have b2 : Below V1.heap.size V1 V2 := by rw [hV2]; exact (Below.refl _ _).alloc (Nat.le_refl _) _
    have g2 : V2.heap[V1.heap.size]? = some (.cells #[.int .i8 c.k, .int .i64 c.size, .slice A1 c.L.length cap1] 62 (0, 0)) := by rw [hV2]; exact block_alloc _ _
    have x0 : V2.cell? ⟨V1.heap.size, 0, none⟩ = some (.int .i8 c.k) := cell_of_row g2 rfl
    have x1 : V2.cell? ⟨V1.heap.size, 1, none⟩ = some (.int .i64 c.size) := cell_of_row g2 rfl
    have x2 : V2.cell? ⟨V1.heap.size, 2, none⟩ = some (.slice A1 c.L.length cap1) := cell_of_row g2 rfl
    have hyb : V2.cell? ⟨W.heap.size, 0, none⟩ = some (.func (.yield l) #[] #[]) := by
      have h := HI.out.yb
      rw [show B - 1 = W.heap.size by have := HB.out; omega] at h
      exact cell_of_row ((b2.block _ (Nat.lt_of_lt_of_le (heap_lt h) BV1.out.size)).trans ((BV1.out.block _ (heap_lt h)).trans h)) rfl
    have bb : Below V.heap.size V V2 := BV1.out.trans (b2.mono BV1.out.size)
    have BB := Lib.hid bb
    have B2 := Lib.hid b2
    obtain ⟨xs, hx, hJV⟩ := HI.out.inv
    have hJ2 : J xs V2 := HJ.out _ _ _ (fun _ => False) hJV (Mod.of_below bb) (fun _ _ f => f.elim)
    have hE2 : CellE CR W.heap.size (x, c, .agg #[.int .i8 c.k, .int .i64 c.size, .slice A1 c.L.length cap1]) V2 := by
      refine ⟨HCR.out, A1, cap1, rfl, fun hL => ?_⟩
      obtain ⟨g, e1, e2, e3, e4⟩ := HW1.out hL
      have := HI.out.size
      have := HB.out
      have := b2.size
      exact ⟨g, e1, by omega, by omega, e4.keep (b2.block _ e3)⟩
    obtain ⟨fn, tmps, assign, body, hy, hRd⟩ := HY.out xs _ V2 hJ2 hE2 (by obtain ⟨k, hk⟩ := HSP.out; exact ⟨k, by rw [List.map_append, hx]; exact hk⟩)
    have hRd' : RoundIn (Fence.wide.inRound l2) (n - 1 - 1 - 1) Tryz.prog l fn tmps assign body V2 _ := ⟨hRd.1, fun c cs _ => hRd.2 c cs (fun _ h => by cases h)⟩
    have HX := Lib.hid hx
    unfold encC at hy
    dsimp only at hy
    clear hRd hx hJV hJ2 hE2 b2 bb g2
    rw [hV2] at x0 x1 x2 hyb hy
    gi_wp2_with fail
    rw [← hV2]
    clear hV2 z0 zf0 z1 zf1 z2 zf2 x0 x1 x2 hyb hy
    refine ⟨(fun h => by cases h), hRd'.mono ?_⟩
    clear hRd'
    have hKQ : ∀ V3, KQ Own Lo V2 V3 → KQ Own Lo V V3 := fun V3 h => KQ.of_below (fun k A h => (HO.out k A h).1) HOs.out (fun k hk => by have := HLO.out k hk; have := HI.out.size; have := HB.out; omega) BB.out h
    have hKC : ∀ V3, KQ Own Lo V2 V3 → KC (OwnI Own B) Lo W2.heap.size V V3 := fun V3 h => by
      have hq := hKQ V3 h
      rw [HB.out.2.1]
      exact ⟨⟨hq.size, hq.low, fun k hk => ⟨(hq.own k hk.1).1, (hq.own k hk.1).2, hk.2.1, (hq.own _ hk.2.2.1).2, (hq.own _ hk.2.2.2).2⟩⟩, (hq.own _ HI.out.r1).1, (hq.own _ HI.out.r0).1⟩
    have HKQ := Lib.hid hKQ
    have HKC := Lib.hid hKC
    clear hKQ hKC
    rintro e V3 (⟨rfl, hJ3, hK3⟩ | ⟨rfl, hJx3, hK3⟩)
    · have H3 := Lib.hid (And.intro hJ3 hK3)
      clear hJ3 hK3
      gi_wp2_with fail
      have hq := HKQ.out _ H3.out.2
      refine ⟨HKC.out _ H3.out.2, ⟨xs ++ [(x, c, _)], by rw [List.map_append, HX.out]; rfl, H3.out.1⟩, (hq.own _ HI.out.r0).2, (hq.own _ HI.out.r1).2, (hq.own _ HI.out.yo).1.trans HI.out.yb, (hq.own _ HI.out.yo).2, fun k hk => (hq.low k hk).trans (HI.out.lo k hk), Nat.le_trans HI.out.size hq.size⟩
    · have H3 := Lib.hid (And.intro hJx3 hK3)
      clear hJx3 hK3
      gi_wp2_with fail
      have hq := HKQ.out _ H3.out.2
      exact ⟨HKC.out _ H3.out.2, rfl, ⟨xs ++ [(x, c, _)], by rw [List.map_append, HX.out]; rfl, H3.out.1⟩, (hq.own _ HI.out.r0).2, (hq.own _ HI.out.r1).2⟩
  case done =>
    rintro xs V rfl hi hd
    obtain ⟨ys, hy, hJ⟩ := hi.inv
    have m : Mod (fun k => k = W2.heap.size) V (V.putObj W2.heap.size (.deferred none)) := Mod.putObj _ _ _ rfl
    have hJ' := HJ.out _ _ _ _ hJ m (fun j _ e => by rw [e, HB.out.2.1]; exact hi.r0)
    have HJ3 := Lib.hid (And.intro hy hJ')
    clear hi hy hJ hJ' m
    gi_wp2_with fail
    refine ⟨by simp, .inl ⟨_, _, rfl, run_takeDeferred hd, ?_⟩⟩
    exact ⟨.tuple #[], by simp [results, Tryz.f66, go_sem], ⟨_, rfl⟩, .inl ⟨ys, HJ3.out⟩⟩
  case stop =>
    rintro c pre V ⟨k, hk⟩ ⟨rfl, ⟨ys, hy, hJ⟩, o0, -⟩ hd
    have m : Mod (fun k => k = W2.heap.size) V (V.putObj W2.heap.size (.deferred none)) := Mod.putObj _ _ _ rfl
    have hJ' := HJX.out _ _ _ _ hJ m (fun j _ e => by rw [e, HB.out.2.1]; exact o0)
    have HJ3 := Lib.hid (And.intro (show ys.map (·.1) = PL.take k by rw [hy, hk]) hJ')
    clear hy hJ hk hJ' m o0
    gi_wp2_with fail
    refine ⟨by simp, .inl ⟨_, _, rfl, run_takeDeferred hd, ?_⟩⟩
    exact ⟨.tuple #[], by simp [results, Tryz.f66, go_sem], ⟨_, rfl⟩, .inr ⟨ys, ⟨k, HJ3.out.1⟩, HJ3.out.2⟩⟩
end Go.Proofs.YtaemfjmmklpjeaaGreatDoor
set_option linter.unusedVariables false
namespace Go.Proofs.YtaemfjmmklpjeaaGreatDoor
open Go.RowKit

def awOf : HW → AW
  | .ref a => ⟨true, (a : Int), .mk 0 0 ⟨#[]⟩ ⟨#[]⟩ []⟩
  | .leaf x => ⟨false, 0, x⟩
theorem awOf_hw (y : HW) : (awOf y).hw = y := by cases y <;> simp [awOf, AW.hw]
theorem awOf_map (L : List HW) : (L.map awOf).map AW.hw = L := by
  rw [List.map_map]
  exact (List.map_congr_left (fun y _ => awOf_hw y)).trans (List.map_id L)
theorem awOf_may {N : Nat} {y : HW} (h : wgood N y) : mayW N (awOf y).c (awOf y).a (awOf y).x = true := by
  cases y with
  | ref a =>
    have ha : a < N := h
    unfold mayW awOf
    have hb : blankB 0 0 ⟨#[]⟩ ⟨#[]⟩ 0 = true := by decide +kernel
    simp [ha]
    exact hb
  | leaf x =>
    have hx : leafE x = 0 := h
    unfold mayW awOf
    simp [hx]
theorem wrow_of {w : World} {g cap n : Nat} {L : List HW} (hL : ∀ y ∈ L, wgood n y) (hn : n ≤ 1000000000) (h : WordsIn w g L) (hc : L.length ≤ cap) : WRow (fun b => b = g) w (some ⟨g, 0, none⟩) L.length cap (L.map awOf) := by
  refine ⟨by simp, hc, fun j q hj => ?_⟩
  rw [List.getElem?_map] at hj
  cases hy : L[j]? with
  | none => rw [hy] at hj; cases hj
  | some y =>
    rw [hy] at hj
    obtain rfl : awOf y = q := Option.some.inj hj
    have hm := List.mem_of_getElem? hy
    have hg := hL y hm
    have hw := h j y hy
    cases y with
    | ref a =>
      have ha : a < n := hg
      refine ⟨⟨g, 0, none⟩, .agg #[.bool true, .int .i64 a, .int .i8 0, .int .i64 0, .string ⟨#[]⟩, .string ⟨#[]⟩, .slice none 0 0], rfl, rfl, RowW.elem ⟨_, _, _, _, _, _, _, rfl, hw 0 _ rfl, hw 1 _ rfl, hw 2 _ rfl, hw 3 _ rfl, hw 4 _ rfl, hw 5 _ rfl, hw 6 _ rfl⟩, ?_⟩
      exact ⟨0, 0, _, _, none, 0, 0, rfl, leaf_at _ w (by decide) (by decide) (by show 0 ≤ maxLen; omega) (by show 0 ≤ maxLen; omega)⟩
    | leaf x =>
      have hx : leafE x = 0 := hg
      obtain ⟨hl, hk, hi, hs, ht⟩ := leaf_bounds hx
      obtain ⟨k, m, s, t, l⟩ := x
      obtain rfl : l = [] := hl
      refine ⟨⟨g, 0, none⟩, .agg #[.bool false, .int .i64 0, .int .i8 k, .int .i64 m, .string s, .string t, .slice none 0 0], rfl, rfl, RowW.elem ⟨_, _, _, _, _, _, _, rfl, hw 0 _ rfl, hw 1 _ rfl, hw 2 _ rfl, hw 3 _ rfl, hw 4 _ rfl, hw 5 _ rfl, hw 6 _ rfl⟩, ?_⟩
      exact ⟨k, m, s, t, none, 0, 0, rfl, leaf_at _ w hk hi hs ht⟩
theorem wrow_nil (P : Nat → Prop) (w : World) (A : Option Addr) (cap : Nat) : WRow P w A 0 cap [] := ⟨rfl, Nat.zero_le _, fun j q h => by simp at h⟩

set_option maxRecDepth 100000 in
set_option maxHeartbeats 2000000 in
theorem cells_fn (hp : Option Addr) (fg : Fn) (lb : Array Value) (w : World) : Calls Tryz.prog 42 #[.pointer hp, .func fg #[] lb] w fun e w' => e = .returned (.func (.func 66) #[] #[.pointer (some ⟨w.heap.size + 1, 0, none⟩), .pointer (some ⟨w.heap.size, 0, none⟩)]) ∧
    w' = (w.alloc (.cells #[.pointer hp] 33)).alloc (.cells #[.func fg #[] lb] 91) := by
  have hmf : ∀ (fn : Fn) (first cap : Array Value) (w : World), (Instr.makeFunc fn first cap).run Tryz.prog w = .ok (.func fn first cap) w := fun _ _ _ _ => rfl
  go_enter Tryz.func42, Tryz.ntmps42
  go_wp2_with fail
  go_ret
  exact ⟨rfl, rfl⟩
set_option maxRecDepth 100000 in
set_option maxHeartbeats 2000000 in
theorem values_fn (A : Option Addr) (n cap : Nat) (w : World) : Calls Tryz.prog 50 #[.slice A n cap] w fun e w' => e = .returned (.func (.func 72) #[] #[.pointer (some ⟨w.heap.size, 0, none⟩)]) ∧ w' = w.alloc (.cells #[.slice A n cap] 44) := by
  have hmf : ∀ (fn : Fn) (first cap : Array Value) (w : World), (Instr.makeFunc fn first cap).run Tryz.prog w = .ok (.func fn first cap) w := fun _ _ _ _ => rfl
  go_enter Tryz.func50, Tryz.ntmps50
  go_wp2_with fail
  go_ret
  exact ⟨rfl, rfl⟩
set_option maxRecDepth 100000 in
set_option maxHeartbeats 2000000 in
theorem below_fn (n : Int) (w : World) : Calls Tryz.prog 43 #[.int .i64 n] w fun e w' => e = .returned (.func (.func 67) #[] #[.pointer (some ⟨w.heap.size, 0, none⟩)]) ∧ w' = w.alloc (.cells #[.int .i64 n] 3) := by
  have hmf : ∀ (fn : Fn) (first cap : Array Value) (w : World), (Instr.makeFunc fn first cap).run Tryz.prog w = .ok (.func fn first cap) w := fun _ _ _ _ => rfl
  go_enter Tryz.func43, Tryz.ntmps43
  go_wp2_with fail
  go_ret
  exact ⟨rfl, rfl⟩
def CellsP (hp : Option Addr) (n : Nat) (w : World) (e : Ending) (w' : World) : Prop :=
  ∃ b, Below w.heap.size w w' ∧ w.heap.size ≤ b ∧ b + 2 < w'.heap.size ∧ e = .returned (.func (.func 66) #[] #[.pointer (some ⟨b + 2, 0, none⟩), .pointer (some ⟨b + 1, 0, none⟩)]) ∧
    w'.heap[b]? = some (.cells #[.int .i64 (n : Int)] 3 (0, 0)) ∧ w'.heap[b + 1]? = some (.cells #[.pointer hp] 33 (0, 0)) ∧ w'.heap[b + 2]? = some (.cells #[.func (.func 67) #[] #[.pointer (some ⟨b, 0, none⟩)]] 91 (0, 0))
set_option maxRecDepth 100000 in
set_option maxHeartbeats 2000000 in
theorem Cells_any (hp : Option Addr) (n : Nat) (w : World) (hlen : Calls Tryz.prog 21 #[.pointer hp] w fun e w' => e = .returned (.int .i64 (n : Int)) ∧ Below w.heap.size w w') : Calls Tryz.prog 20 #[.pointer hp] w (CellsP hp n w) := by
  have HL := Lib.hid hlen
  clear hlen
  go_enter Tryz.func20, Tryz.ntmps20
  go_wp2_with fail
  refine HL.out.mono ?_
  rintro e w1 ⟨rfl, b1⟩
  have B1 := Lib.hid b1
  clear b1
  go_wp2_with fail
  refine (below_fn _ w1).mono ?_
  rintro e w2 ⟨rfl, hw2⟩
  have H2 := Lib.hid hw2
  clear hw2
  go_wp2_with fail
  refine (cells_fn hp _ _ w2).mono ?_
  rintro e w3 ⟨rfl, hw3⟩
  have H3 := Lib.hid hw3
  clear hw3
  go_wp2_with fail
  go_ret
  have e2 := H2.out
  have e3 := H3.out
  have s2 : w2.heap.size = w1.heap.size + 1 := by rw [e2]; simp
  have b2 : Below w1.heap.size w1 w2 := by rw [e2]; exact (Below.refl _ _).alloc (Nat.le_refl _) _
  have b3 : Below w2.heap.size w2 w3 := by rw [e3]; exact ((Below.refl _ _).alloc (Nat.le_refl _) _).alloc (by simp) _
  have s3 : w3.heap.size = w1.heap.size + 3 := by rw [e3]; simp [s2]
  refine ⟨w1.heap.size, B1.out.trans ((b2.mono B1.out.size).trans (b3.mono (Nat.le_trans B1.out.size b2.size))), B1.out.size, by omega, by show _ = Ending.returned (Value.func _ _ #[Value.pointer (some ⟨w1.heap.size + 1 + 1, 0, none⟩), Value.pointer (some ⟨w1.heap.size + 1, 0, none⟩)]); rw [← s2]; rfl, ?_, ?_, ?_⟩
  · exact (b3.block _ (by omega)).trans (by rw [e2]; exact block_alloc _ _)
  · rw [← s2, e3]
    exact (Below.heap_alloc _ _ _ (by simp)).trans (block_alloc _ _)
  · have := block_alloc (w2.alloc (.cells #[.pointer hp] 33)) (.cells #[.func (.func 67) #[] #[.pointer (some ⟨w1.heap.size, 0, none⟩)]] 91)
    rw [← e3, World.size_alloc, s2] at this
    exact this
set_option maxRecDepth 100000 in
set_option maxHeartbeats 2000000 in
theorem rev_nil (w : World) : Calls Tryz.prog 71 #[.slice none 0 0] w fun e w' => e = .returned (.tuple #[]) ∧ w' = w := by
  go_enter Tryz.func71, Tryz.ntmps71
  go_wp2_with fail
  go_loopw [2, 3] (fun i j wr => i = .int .i64 0 ∧ j = .int .i64 (-1) ∧ wr = w) (fun _ _ _ => 0)
  case atStart => exact ⟨rfl, rfl, rfl⟩
  case round =>
    obtain ⟨rfl, rfl, rfl⟩ := hrel
    go_wp2_with fail
    first | go_end0 | go_ret
    exact ⟨rfl, rfl⟩
set_option maxRecDepth 100000 in
set_option maxHeartbeats 2000000 in
theorem split_any (hv : Value) (A : Option Addr) (n cap : Nat) (w : World) (hn : n ≤ 1048576) (hc : n ≤ cap) (hA : A = none → n = 0 ∧ cap = 0) (hO : ∀ ad, A = some ad → ad = ⟨ad.block, 0, none⟩) : Calls Tryz.prog 49 #[hv, .slice A n cap] w fun e w' => e = .returned (.tuple #[.slice A n cap, .slice none 0 0]) ∧ w' = w := by
  have HH := Lib.hid (And.intro hc (And.intro hA hO))
  clear hA hO
  have hin : (n : Int) ≤ 1048576 := by omega
  have hs : (Instr.slice 44 (.slice A n cap) none (some (.int .i64 (n : Int))) none).run Tryz.prog w = .ok (.slice A n cap) w := by
    obtain ⟨h2, h3, h4⟩ := HH.out
    have e1 : (0 : Int) ≤ (n : Int) ∧ (n : Int) ≤ (cap : Int) := by omega
    simp [Instr.slice, Instr.sliceBounds, go_sem, e1]
  go_enter Tryz.func49, Tryz.ntmps49
  go_wp2_with fail
  go_loopw [5, 6] (fun i j wr => i = .slice none 0 0 ∧ j = .int .i64 n ∧ wr = w) (fun _ _ _ => 0)
  case atStart => exact ⟨rfl, rfl, rfl⟩
  case round =>
    obtain ⟨rfl, rfl, rfl⟩ := hrel
    go_wp2_with fail
    refine (rev_nil wr).mono ?_
    rintro e w' ⟨rfl, rfl⟩
    go_wp2_with fail
    refine bodyPost_ret (v := .tuple #[.slice A n cap, .slice none 0 0]) (by simp [results, Tryz.f49, go_sem]) rfl ⟨rfl, rfl⟩
end Go.Proofs.YtaemfjmmklpjeaaGreatDoor
set_option linter.unusedVariables false
namespace Go.Proofs.YtaemfjmmklpjeaaGreatDoor
open Go.RowKit

def wentV (L : List Nat) : List (Nat × Value) := L.mapIdx fun i a => (a, Value.int .i64 (i : Int))
theorem wentV_len (L : List Nat) : (wentV L).length = L.length := by simp [wentV]
theorem wentV_mem {L : List Nat} (up : L.Pairwise (· < ·)) {a : Nat} {v : Value} (h : (a, v) ∈ wentV L) : v = .int .i64 (L.idxOf a : Nat) := by
  unfold wentV at h
  rw [List.mem_mapIdx] at h
  obtain ⟨i, hi, e⟩ := h
  cases e
  rw [idx_of_at up (List.getElem?_eq_getElem hi)]
theorem wentV_has {L : List Nat} {a : Nat} (h : a ∈ L) : ∃ p ∈ wentV L, p.1 = a := by
  obtain ⟨i, hi, e⟩ := List.mem_iff_getElem.1 h
  exact ⟨(a, .int .i64 (i : Int)), by unfold wentV; rw [List.mem_mapIdx]; exact ⟨i, hi, by rw [e]⟩, rfl⟩

structure MovS (PL : List Nat) (L : List AW) (w : World) (j : Nat) (V : World) : Prop where
  blk : ∃ cur, V.heap[w.heap.size]? = some (.cells cur 51 (0, 0)) ∧ cur.size = L.length * 7
  row : WordsAt V (some ⟨w.heap.size, 0, none⟩) ((L.take j).map fun q => mvW PL q.hw)
  below : Below w.heap.size w V
theorem MovS.under {PL : List Nat} {L : List AW} {w V V' : World} {j : Nat} (h : MovS PL L w j V) (b : Below V.heap.size V V') : MovS PL L w j V' := by
  obtain ⟨cur, h1, h2⟩ := h.blk
  exact ⟨⟨cur, (b.block _ (heap_lt h1)).trans h1, h2⟩, h.row.keep (fun g o e _ => by cases e; exact b.block _ (heap_lt h1)), h.below.trans (b.mono h.below.size)⟩
theorem MovS.put {PL : List Nat} {L : List AW} {w V : World} {j : Nat} (h : MovS PL L w j V) {q : AW} (hq : L[j]? = some q) (c0 c1 c2 c3 c4 c5 c6 : Value) (hx : (mvW PL q.hw).cells = [c0, c1, c2, c3, c4, c5, c6]) : MovS PL L w (j + 1) (setW V w.heap.size (j * 7) c0 c1 c2 c3 c4 c5 c6) := by
  obtain ⟨cur, h1, h2⟩ := h.blk
  have hjl := (List.getElem?_eq_some_iff.1 hq).1
  have hlen : ((L.take j).map fun q => mvW PL q.hw).length = j := by rw [List.length_map, List.length_take]; omega
  obtain ⟨cur', h3, h4⟩ := setW_block (p := j * 7) h1 c0 c1 c2 c3 c4 c5 c6
  refine ⟨⟨cur', h3, by rw [h4, h2]⟩, ?_, h.below.trans ((setW_mod V w.heap.size (j * 7) c0 c1 c2 c3 c4 c5 c6).below h.below.size (fun i e => by omega))⟩
  have hw := setW_words h.row h1 (by rw [hlen, h2]; omega) (mvW PL q.hw) c0 c1 c2 c3 c4 c5 c6 hx
  rw [hlen, Nat.zero_add] at hw
  rw [List.take_add_one, hq, List.map_append]
  exact hw

set_option maxRecDepth 100000 in
set_option maxHeartbeats 8000000 in
theorem moved_any (N : Nat) (PL : List Nat) (L : List AW) (A : Option Addr) (cap cap' m : Nat) (w : World) (hR : WRow (· < w.heap.size) w A L.length cap' L) (hm : ∀ q ∈ L, mayW N q.c q.a q.x = true) (hin : ∀ q ∈ L, q.c = true → q.a.toNat ∈ PL) (hN : N ≤ 2000000)
    (hmap : w.heap[m]? = some (.map (entsV (wentV PL)) PL.length)) (hup : PL.Pairwise (· < ·)) (hS : Spans w) (hl : L.length ≤ 1000000) :
    Calls Tryz.prog 32 #[.slice A L.length cap, .map (some m)] w fun e w' => e = .returned (.slice (some ⟨w.heap.size, 0, none⟩) L.length L.length) ∧ w.heap.size < w'.heap.size ∧
      WordsIn w' w.heap.size (L.map fun q => mvW PL q.hw) ∧ Below w.heap.size w w' := by
  obtain ⟨M, hM, hMs⟩ : ∃ M : Array Value, (Instr.makeSlice 37 (.int .i64 (L.length : Int)) (.int .i64 (L.length : Int))).run Tryz.prog w = .ok (.slice (some ⟨w.heap.size, 0, none⟩) L.length L.length) (w.alloc (.cells M 51)) ∧ M.size = L.length * 7 := by
    obtain ⟨i, hi, hz⟩ := Option.map_eq_some_iff.1 info_wordb
    simp only [Prod.mk.injEq] at hz
    obtain ⟨hz, hsz, hby⟩ := hz
    have := run_makeSlice (P := Tryz.prog) w 37 51 i _ Tryz.underlying37 hi hz .i64 .i64 (L.length : Int) (L.length : Int) (by omega) (Int.le_refl _) (by rw [hsz, Int.toNat_natCast]; omega) (by rw [hby]; omega) (by omega)
    rw [this, Int.toNat_natCast]
    exact ⟨_, rfl, by rw [hsz]; unfold madeCells; simp⟩
  obtain ⟨w1, hw1⟩ : ∃ w1, w1 = w.alloc (.cells M 51) := ⟨_, rfl⟩
  have b1 : Below w.heap.size w w1 := by rw [hw1]; exact (Below.refl _ _).alloc (Nat.le_refl _) _
  have g1 : w1.heap[w.heap.size]? = some (.cells M 51 (0, 0)) := by rw [hw1]; exact block_alloc _ _
  have h0 : MovS PL L w 0 w1 := ⟨⟨M, g1, hMs⟩, (fun j x hj => by simp at hj), b1⟩
  have H0 := Lib.hid h0
  have HR := Lib.hid hR
  have HM := Lib.hid (And.intro hm (And.intro hin hmap))
  have HS := Lib.hid hS
  have HUP := Lib.hid hup
  rw [← hw1] at hM
  clear hMs b1 g1 h0 hR hm hin hmap hS hup hw1
  go_enter Tryz.func32, Tryz.ntmps32
  go_wp2_with fail
  clear hM
  go_loopw [13] (fun i wr => ∃ j : Nat, j ≤ L.length ∧ i = .int .i64 j ∧ Hid (MovS PL L w j wr)) (fun i _ => L.length - (intOf i).toNat)
  case atStart => exact ⟨0, Nat.zero_le _, rfl, H0.out⟩
  case round =>
    obtain ⟨j, hj, rfl, HX⟩ := hrel
    obtain ⟨wq, hwq⟩ : ∃ wq, wq = wr := ⟨_, rfl⟩
    subst hwq
    by_cases hlt : j < L.length
    · obtain ⟨q, hq⟩ : ∃ q, L[j]? = some q := ⟨L[j], List.getElem?_eq_getElem hlt⟩
      obtain ⟨ad, v, hA, had, hE, k, n, s, t, A2, len, cap2, rfl, hT⟩ := HR.out.at_ j q hq
      subst hA
      obtain ⟨c0, c1, c2, c3, c4, c5, c6, hc, e0, e1, e2, e3, e4, e5, e6⟩ := hE.keep (HX.out.below.block ad.block had)
      simp only [Value.agg.injEq, Array.mk.injEq, List.cons.injEq, and_true] at hc
      obtain ⟨rfl, rfl, rfl, rfl, rfl, rfl, rfl⟩ := hc
      have hmem := List.mem_of_getElem? hq
      have hmay := HM.out.1 q hmem
      have hini := HM.out.2.1 q hmem
      obtain ⟨cc, hcc⟩ : ∃ cc, cc = q.c := ⟨_, rfl⟩
      obtain ⟨a, ha⟩ : ∃ a, a = q.a := ⟨_, rfl⟩
      rw [← hcc, ← ha] at hmay
      rw [← hcc] at e0 hini
      rw [← ha] at e1 hini
      have HQ := Lib.hid hq
      have HCA := Lib.hid (And.intro hcc ha)
      have HT := Lib.hid hT
      have HMAY := Lib.hid hmay
      have HINI := Lib.hid hini
      clear hq hE hT hmem had hcc ha hmay hini
      have z0 : (wq.alloc (.cells #[.bool false, .int .i64 0, .int .i8 0, .int .i64 0, .string ⟨#[]⟩, .string ⟨#[]⟩, .slice none 0 0] 51)).cell? ⟨wq.heap.size, 0, none⟩ = some (.bool false) := cell_of_row (block_alloc _ _) rfl
      have zf0 : (wq.alloc (.cells #[.bool false, .int .i64 0, .int .i8 0, .int .i64 0, .string ⟨#[]⟩, .string ⟨#[]⟩, .slice none 0 0] 51)).frozen? ⟨wq.heap.size, 0, none⟩ = false := free_of_row (block_alloc _ _)
      have z1 : (wq.alloc (.cells #[.bool false, .int .i64 0, .int .i8 0, .int .i64 0, .string ⟨#[]⟩, .string ⟨#[]⟩, .slice none 0 0] 51)).cell? ⟨wq.heap.size, 1, none⟩ = some (.int .i64 0) := cell_of_row (block_alloc _ _) rfl
      have zf1 : (wq.alloc (.cells #[.bool false, .int .i64 0, .int .i8 0, .int .i64 0, .string ⟨#[]⟩, .string ⟨#[]⟩, .slice none 0 0] 51)).frozen? ⟨wq.heap.size, 1, none⟩ = false := free_of_row (block_alloc _ _)
      have z2 : (wq.alloc (.cells #[.bool false, .int .i64 0, .int .i8 0, .int .i64 0, .string ⟨#[]⟩, .string ⟨#[]⟩, .slice none 0 0] 51)).cell? ⟨wq.heap.size, 2, none⟩ = some (.int .i8 0) := cell_of_row (block_alloc _ _) rfl
      have zf2 : (wq.alloc (.cells #[.bool false, .int .i64 0, .int .i8 0, .int .i64 0, .string ⟨#[]⟩, .string ⟨#[]⟩, .slice none 0 0] 51)).frozen? ⟨wq.heap.size, 2, none⟩ = false := free_of_row (block_alloc _ _)
      have z3 : (wq.alloc (.cells #[.bool false, .int .i64 0, .int .i8 0, .int .i64 0, .string ⟨#[]⟩, .string ⟨#[]⟩, .slice none 0 0] 51)).cell? ⟨wq.heap.size, 3, none⟩ = some (.int .i64 0) := cell_of_row (block_alloc _ _) rfl
      have zf3 : (wq.alloc (.cells #[.bool false, .int .i64 0, .int .i8 0, .int .i64 0, .string ⟨#[]⟩, .string ⟨#[]⟩, .slice none 0 0] 51)).frozen? ⟨wq.heap.size, 3, none⟩ = false := free_of_row (block_alloc _ _)
      have z4 : (wq.alloc (.cells #[.bool false, .int .i64 0, .int .i8 0, .int .i64 0, .string ⟨#[]⟩, .string ⟨#[]⟩, .slice none 0 0] 51)).cell? ⟨wq.heap.size, 4, none⟩ = some (.string ⟨#[]⟩) := cell_of_row (block_alloc _ _) rfl
      have zf4 : (wq.alloc (.cells #[.bool false, .int .i64 0, .int .i8 0, .int .i64 0, .string ⟨#[]⟩, .string ⟨#[]⟩, .slice none 0 0] 51)).frozen? ⟨wq.heap.size, 4, none⟩ = false := free_of_row (block_alloc _ _)
      have z5 : (wq.alloc (.cells #[.bool false, .int .i64 0, .int .i8 0, .int .i64 0, .string ⟨#[]⟩, .string ⟨#[]⟩, .slice none 0 0] 51)).cell? ⟨wq.heap.size, 5, none⟩ = some (.string ⟨#[]⟩) := cell_of_row (block_alloc _ _) rfl
      have zf5 : (wq.alloc (.cells #[.bool false, .int .i64 0, .int .i8 0, .int .i64 0, .string ⟨#[]⟩, .string ⟨#[]⟩, .slice none 0 0] 51)).frozen? ⟨wq.heap.size, 5, none⟩ = false := free_of_row (block_alloc _ _)
      have z6 : (wq.alloc (.cells #[.bool false, .int .i64 0, .int .i8 0, .int .i64 0, .string ⟨#[]⟩, .string ⟨#[]⟩, .slice none 0 0] 51)).cell? ⟨wq.heap.size, 6, none⟩ = some (.slice none 0 0) := cell_of_row (block_alloc _ _) rfl
      have zf6 : (wq.alloc (.cells #[.bool false, .int .i64 0, .int .i8 0, .int .i64 0, .string ⟨#[]⟩, .string ⟨#[]⟩, .slice none 0 0] 51)).frozen? ⟨wq.heap.size, 6, none⟩ = false := free_of_row (block_alloc _ _)
      go_upto_region 5 with fail
      have b1 : Below wq.heap.size wq (wq.alloc (.cells #[.bool cc, .int .i64 a, .int .i8 k, .int .i64 n, .string s, .string t, .slice A2 len cap2] 51)) := (Below.refl _ _).alloc (Nat.le_refl _) _
      have g1 : (wq.alloc (.cells #[.bool cc, .int .i64 a, .int .i8 k, .int .i64 n, .string s, .string t, .slice A2 len cap2] 51)).heap[wq.heap.size]? = some (.cells #[.bool cc, .int .i64 a, .int .i8 k, .int .i64 n, .string s, .string t, .slice A2 len cap2] 51) := block_alloc _ _
      generalize (wq.alloc (.cells #[.bool cc, .int .i64 a, .int .i8 k, .int .i64 n, .string s, .string t, .slice A2 len cap2] 51)) = w2 at b1 g1 ⊢
      have x0 : w2.cell? ⟨wq.heap.size, 0, none⟩ = some (.bool cc) := cell_of_row g1 rfl
      have x1 : w2.cell? ⟨wq.heap.size, 1, none⟩ = some (.int .i64 a) := cell_of_row g1 rfl
      have x2 : w2.cell? ⟨wq.heap.size, 2, none⟩ = some (.int .i8 k) := cell_of_row g1 rfl
      have x3 : w2.cell? ⟨wq.heap.size, 3, none⟩ = some (.int .i64 n) := cell_of_row g1 rfl
      have x4 : w2.cell? ⟨wq.heap.size, 4, none⟩ = some (.string s) := cell_of_row g1 rfl
      have x5 : w2.cell? ⟨wq.heap.size, 5, none⟩ = some (.string t) := cell_of_row g1 rfl
      have x6 : w2.cell? ⟨wq.heap.size, 6, none⟩ = some (.slice A2 len cap2) := cell_of_row g1 rfl
      have H2 := Lib.hid (HX.out.under b1)
      have B2 := Lib.hid b1
      have G2 := Lib.hid g1
      clear z0 zf0 z1 zf1 z2 zf2 z3 zf3 z4 zf4 z5 zf5 z6 zf6 b1 g1 e0 e1 e2 e3 e4 e5 e6
      cases cc with
      | true =>
        have ha0 : 0 ≤ a ∧ a.toNat ∈ PL := ⟨by have h := HMAY.out; unfold mayW at h; simp at h; omega, HINI.out rfl⟩
        obtain ⟨an, han⟩ : ∃ an : Nat, a = (an : Int) := ⟨a.toNat, by omega⟩
        subst han
        rw [Int.toNat_natCast] at ha0
        have hlk : (Instr.lookup 76 (.map (some m)) (.int .i64 (an : Int)) false).run Tryz.prog w2 = .ok (.int .i64 ((PL.idxOf an : Nat) : Int)) w2 := by
          have hmp : w2.heap[m]? = some (.map (entsV (wentV PL)) PL.length) := (B2.out.block _ (Nat.lt_of_lt_of_le (heap_lt HM.out.2.2) HX.out.below.size)).trans ((HX.out.below.block _ (heap_lt HM.out.2.2)).trans HM.out.2.2)
          rcases entsV_find (wentV PL) an with ⟨hn, hno⟩ | ⟨jj, vv, hn, hv⟩
          · obtain ⟨p, hp, e⟩ := wentV_has ha0.2
            exact absurd e (hno p hp)
          · rw [wentV_mem HUP.out hv] at hn
            simpa using look2_hit (P := Tryz.prog) Tryz.underlying76 Tryz.underlying3 w2 m _ _ (an : Int) jj _ hmp hn false
        obtain ⟨ix, hix⟩ : ∃ ix, ix = PL.idxOf an := ⟨_, rfl⟩
        rw [← hix] at hlk
        have HIX := Lib.hid hix
        clear hix ha0
        obtain ⟨cur, hg, hcs⟩ := H2.out.blk
        obtain ⟨u0', y0⟩ : ∃ u, w2.cell? ⟨w.heap.size, j * 7, none⟩ = some u := ⟨_, cell_of_row hg (Array.getElem?_eq_getElem (by omega))⟩
        have yf0 : w2.frozen? ⟨w.heap.size, j * 7, none⟩ = false := free_of_row hg
        obtain ⟨u1', y1⟩ : ∃ u, w2.cell? ⟨w.heap.size, j * 7 + 1, none⟩ = some u := ⟨_, cell_of_row hg (Array.getElem?_eq_getElem (by omega))⟩
        have yf1 : w2.frozen? ⟨w.heap.size, j * 7 + 1, none⟩ = false := free_of_row hg
        obtain ⟨u2', y2⟩ : ∃ u, w2.cell? ⟨w.heap.size, j * 7 + 2, none⟩ = some u := ⟨_, cell_of_row hg (Array.getElem?_eq_getElem (by omega))⟩
        have yf2 : w2.frozen? ⟨w.heap.size, j * 7 + 2, none⟩ = false := free_of_row hg
        obtain ⟨u3', y3⟩ : ∃ u, w2.cell? ⟨w.heap.size, j * 7 + 3, none⟩ = some u := ⟨_, cell_of_row hg (Array.getElem?_eq_getElem (by omega))⟩
        have yf3 : w2.frozen? ⟨w.heap.size, j * 7 + 3, none⟩ = false := free_of_row hg
        obtain ⟨u4', y4⟩ : ∃ u, w2.cell? ⟨w.heap.size, j * 7 + 4, none⟩ = some u := ⟨_, cell_of_row hg (Array.getElem?_eq_getElem (by omega))⟩
        have yf4 : w2.frozen? ⟨w.heap.size, j * 7 + 4, none⟩ = false := free_of_row hg
        obtain ⟨u5', y5⟩ : ∃ u, w2.cell? ⟨w.heap.size, j * 7 + 5, none⟩ = some u := ⟨_, cell_of_row hg (Array.getElem?_eq_getElem (by omega))⟩
        have yf5 : w2.frozen? ⟨w.heap.size, j * 7 + 5, none⟩ = false := free_of_row hg
        obtain ⟨u6', y6⟩ : ∃ u, w2.cell? ⟨w.heap.size, j * 7 + 6, none⟩ = some u := ⟨_, cell_of_row hg (Array.getElem?_eq_getElem (by omega))⟩
        have yf6 : w2.frozen? ⟨w.heap.size, j * 7 + 6, none⟩ = false := free_of_row hg
        clear hg hcs cur
        go_wp2_with fail
        obtain ⟨X, hX⟩ : ∃ X, X = setW w2 w.heap.size (j * 7) (.bool true) (.int .i64 ix) (.int .i8 0) (.int .i64 0) (.string ⟨#[]⟩) (.string ⟨#[]⟩) (.slice none 0 0) := ⟨_, rfl⟩
        have hX2 := hX
        unfold setW at hX2
        rw [← hX2]
        have HN : Hid (MovS PL L w (j + 1) X) := by
          show MovS _ _ _ _ _
          rw [hX]
          exact H2.out.put HQ.out _ _ _ _ _ _ _ (by unfold AW.hw; rw [← HCA.out.1, if_pos rfl, ← HCA.out.2, Int.toNat_natCast, HIX.out]; rfl)
        clear hX hX2 y0 yf0 y1 yf1 y2 yf2 y3 yf3 y4 yf4 y5 yf5 y6 yf6
        go_wp2_with fail
        go_roundw
        case rel => exact ⟨j + 1, by omega, by go_num, HN.out⟩
        case measure => simp [intOf]; omega
      | false =>
        have hle : leafE q.x = 0 := by have h := HMAY.out; unfold mayW at h; simp at h; exact h.1
        have HLF := Lib.hid (Leaf_any q.x _ w2 (HT.out.keep (fun b hb => (B2.out.block b (Nat.lt_of_lt_of_le hb HX.out.below.size)).trans (HX.out.below.block b hb)) (fun b hb => Nat.lt_of_lt_of_le hb (Nat.le_trans HX.out.below.size B2.out.size))) (HS.out.below (HX.out.below.trans (B2.out.mono HX.out.below.size)) HS.out.lt))
        have HLE := Lib.hid hle
        clear hle
        go_wp2_with fail
        refine HLF.out.mono ?_
        rintro e w3 ⟨rfl, b3⟩
        rw [if_pos HLE.out, HLE.out]
        have H3 := Lib.hid (H2.out.under b3)
        unfold leafV
        obtain ⟨xk, hxk⟩ : ∃ z, z = q.x.k := ⟨_, rfl⟩
        obtain ⟨xn, hxn⟩ : ∃ z, z = q.x.n := ⟨_, rfl⟩
        obtain ⟨xs, hxs⟩ : ∃ z, z = q.x.s := ⟨_, rfl⟩
        obtain ⟨xt, hxt⟩ : ∃ z, z = q.x.t := ⟨_, rfl⟩
        rw [← hxk, ← hxn, ← hxs, ← hxt]
        have HXX := Lib.hid (And.intro hxk (And.intro hxn (And.intro hxs hxt)))
        clear hxk hxn hxs hxt b3 x0 x1 x2 x3 x4 x5 x6
        obtain ⟨cur, hg, hcs⟩ := H3.out.blk
        obtain ⟨u0', y0⟩ : ∃ u, w3.cell? ⟨w.heap.size, j * 7, none⟩ = some u := ⟨_, cell_of_row hg (Array.getElem?_eq_getElem (by omega))⟩
        have yf0 : w3.frozen? ⟨w.heap.size, j * 7, none⟩ = false := free_of_row hg
        obtain ⟨u1', y1⟩ : ∃ u, w3.cell? ⟨w.heap.size, j * 7 + 1, none⟩ = some u := ⟨_, cell_of_row hg (Array.getElem?_eq_getElem (by omega))⟩
        have yf1 : w3.frozen? ⟨w.heap.size, j * 7 + 1, none⟩ = false := free_of_row hg
        obtain ⟨u2', y2⟩ : ∃ u, w3.cell? ⟨w.heap.size, j * 7 + 2, none⟩ = some u := ⟨_, cell_of_row hg (Array.getElem?_eq_getElem (by omega))⟩
        have yf2 : w3.frozen? ⟨w.heap.size, j * 7 + 2, none⟩ = false := free_of_row hg
        obtain ⟨u3', y3⟩ : ∃ u, w3.cell? ⟨w.heap.size, j * 7 + 3, none⟩ = some u := ⟨_, cell_of_row hg (Array.getElem?_eq_getElem (by omega))⟩
        have yf3 : w3.frozen? ⟨w.heap.size, j * 7 + 3, none⟩ = false := free_of_row hg
        obtain ⟨u4', y4⟩ : ∃ u, w3.cell? ⟨w.heap.size, j * 7 + 4, none⟩ = some u := ⟨_, cell_of_row hg (Array.getElem?_eq_getElem (by omega))⟩
        have yf4 : w3.frozen? ⟨w.heap.size, j * 7 + 4, none⟩ = false := free_of_row hg
        obtain ⟨u5', y5⟩ : ∃ u, w3.cell? ⟨w.heap.size, j * 7 + 5, none⟩ = some u := ⟨_, cell_of_row hg (Array.getElem?_eq_getElem (by omega))⟩
        have yf5 : w3.frozen? ⟨w.heap.size, j * 7 + 5, none⟩ = false := free_of_row hg
        obtain ⟨u6', y6⟩ : ∃ u, w3.cell? ⟨w.heap.size, j * 7 + 6, none⟩ = some u := ⟨_, cell_of_row hg (Array.getElem?_eq_getElem (by omega))⟩
        have yf6 : w3.frozen? ⟨w.heap.size, j * 7 + 6, none⟩ = false := free_of_row hg
        clear hg hcs cur
        go_wp2_with fail
        obtain ⟨X, hX⟩ : ∃ X, X = setW w3 w.heap.size (j * 7) (.bool false) (.int .i64 0) (.int .i8 xk) (.int .i64 xn) (.string xs) (.string xt) (.slice none 0 0) := ⟨_, rfl⟩
        have hX2 := hX
        unfold setW at hX2
        rw [← hX2]
        have HN : Hid (MovS PL L w (j + 1) X) := by
          show MovS _ _ _ _ _
          rw [hX]
          exact H3.out.put HQ.out _ _ _ _ _ _ _ (by unfold AW.hw; rw [← HCA.out.1, if_neg (by decide)]; obtain ⟨h1, h2, h3, h4⟩ := HXX.out; rw [h1, h2, h3, h4]; rfl)
        clear hX hX2 y0 yf0 y1 yf1 y2 yf2 y3 yf3 y4 yf4 y5 yf5 y6 yf6
        go_wp2_with fail
        go_roundw
        case rel => exact ⟨j + 1, by omega, by go_num, HN.out⟩
        case measure => simp [intOf]; omega
    · obtain rfl : j = L.length := by omega
      go_wp2_with fail
      go_ret
      have hrow := HX.out.row
      rw [List.take_length] at hrow
      obtain ⟨cur, hg, _⟩ := HX.out.blk
      refine ⟨rfl, heap_lt hg, fun j x hj i u hi => ?_, HX.out.below⟩
      obtain ⟨g, o, e, h⟩ := hrow j x hj
      cases e
      have := h i u hi
      rwa [Nat.zero_add] at this
end Go.Proofs.YtaemfjmmklpjeaaGreatDoor
set_option linter.unusedVariables false
namespace Go.Proofs.YtaemfjmmklpjeaaGreatDoor
open Go.RowKit

structure PRow (w : World) (A : Option Addr) (cap : Nat) (PL : List Nat) : Prop where
  capL : PL.length ≤ cap
  none_ : A = none → PL.length = 0 ∧ cap = 0
  zero : ∀ ad, A = some ad → ad = ⟨ad.block, 0, none⟩
  lt : ∀ g, A = some ⟨g, 0, none⟩ → g < w.heap.size
  row : IRow w A PL
theorem PRow.of_own {w : World} {base : Nat} {v : Value} {PL : List Nat} (h : w.ownsRow base 3 1 v PL.length (PL.map fun n : Nat => Value.int .i64 (n : Int))) : ∃ A cap, v = .slice A PL.length cap ∧ PRow w A cap PL ∧ ∀ g, A = some ⟨g, 0, none⟩ → base ≤ g := by
  have hown := h
  rcases h.2 with ⟨rfl, h0⟩ | ⟨g, cap, cur, rfl, h1, h2, h3, h4, h5, h6⟩
  · refine ⟨none, 0, by rw [h0], ⟨by omega, (fun _ => ⟨h0, rfl⟩), (fun _ e => by cases e), (fun _ e => by cases e), fun j a hj => ?_⟩, (fun _ e => by cases e)⟩
    rw [List.eq_nil_of_length_eq_zero h0] at hj
    simp at hj
  · refine ⟨some ⟨g, 0, none⟩, cap, rfl, ⟨by omega, (fun e => by cases e), (fun _ e => by cases e; rfl), (fun _ e => by cases e; exact heap_lt h2), fun j a hj => ⟨g, rfl, ?_⟩⟩, (fun _ e => by cases e; exact h1)⟩
    have := hown.cells (g := g) rfl j (.int .i64 (a : Int)) (by rw [List.getElem?_map, hj]; rfl)
    rwa [show (⟨g, 0, none⟩ : Addr).add j = ⟨g, j, none⟩ by unfold Addr.add; split <;> simp_all] at this
theorem PRow.keep {w w' : World} {A : Option Addr} {cap : Nat} {PL : List Nat} (h : PRow w A cap PL) (b : Below w.heap.size w w') : PRow w' A cap PL :=
  ⟨h.capL, h.none_, h.zero, fun g e => Nat.lt_of_lt_of_le (h.lt g e) b.size, h.row.keep (fun g e => b.block _ (h.lt g e))⟩

def OwnC (base ho B k : Nat) (A : World) : Prop := B + 2 ≤ k ∧ k < A.heap.size ∧ ∃ s : HSt, s.At base A ho ∧ s.Core base A k ∧ s.Core base A B ∧ s.Core base A (B + 1)
structure ColI (cs : List HC) (PL : List Nat) (base ho B : Nat) (w4 : World) (xs : List CI) (A : World) : Prop where
  st : ∃ s : HSt, s.cs = (colC cs PL).take xs.length ∧ HOk s ∧ s.At base A ho ∧ s.Core base A B ∧ s.Core base A (B + 1) ∧ ∀ k, s.FP ho k → k = ho ∨ B + 2 ≤ k
  lo : ∀ k, k < B → k ≠ ho → A.heap[k]? = w4.heap[k]?
  size : B + 2 ≤ A.heap.size
  os : A.os = w4.os ∧ A.tape = w4.tape ∧ A.output = w4.output

theorem ownC_keep {base ho B k : Nat} {A C : World} {F : Nat → Prop} (hho : ho < B) (h : OwnC base ho B k A) (hm : Mod F A C) (hF : ∀ j, j < A.heap.size → F j → OwnC base ho B j A ∨ j = B ∨ j = B + 1) : OwnC base ho B k C := by
  obtain ⟨h1, h2, s, hs, c1, c2, c3⟩ := h
  have hc : ∀ i, i < A.heap.size → F i → s.Core base A i := fun i hi hf => by
    rcases hF i hi hf with ⟨_, _, s', hs', c', _⟩ | e | e
    · exact hs.swap hs' c'
    · rw [e]; exact c2
    · rw [e]; exact c3
  refine ⟨h1, Nat.lt_of_lt_of_le h2 hm.size, s, hs.mods hm (fun i hi hf => ⟨?_, hc i hi hf⟩), c1.mods hm hc, c2.mods hm hc, c3.mods hm hc⟩
  rcases hF i hi hf with ⟨h, _⟩ | e | e <;> omega
theorem colI_keep {cs : List HC} {PL : List Nat} {base ho B : Nat} {w4 A C : World} {xs : List CI} {F : Nat → Prop} (hho : ho < B) (h : ColI cs PL base ho B w4 xs A) (hm : Mod F A C) (hF : ∀ j, j < A.heap.size → F j → OwnC base ho B j A ∨ j = B ∨ j = B + 1) : ColI cs PL base ho B w4 xs C := by
  obtain ⟨s, e, ok, hs, c2, c3, fp⟩ := h.st
  have hge : ∀ i, i < A.heap.size → F i → B ≤ i := fun i hi hf => by rcases hF i hi hf with ⟨h, _⟩ | e | e <;> omega
  have hc : ∀ i, i < A.heap.size → F i → s.Core base A i := fun i hi hf => by
    rcases hF i hi hf with ⟨_, _, s', hs', c', _⟩ | e | e
    · exact hs.swap hs' c'
    · rw [e]; exact c2
    · rw [e]; exact c3
  refine ⟨⟨s, e, ok, hs.mods hm (fun i hi hf => ⟨by have := hge i hi hf; omega, hc i hi hf⟩), c2.mods hm hc, c3.mods hm hc, fp⟩, fun k hk hne => ?_, Nat.le_trans h.size hm.size, ⟨hm.os.trans h.os.1, hm.tape.trans h.os.2.1, hm.output.trans h.os.2.2⟩⟩
  have hsz := h.size
  exact (hm.block k (by omega) (fun hf => by have := hge k (by omega) hf; omega)).trans (h.lo k hk hne)
theorem ownC_new {cs : List HC} {PL : List Nat} {base ho B : Nat} {w4 A : World} {xs : List CI} (h : ColI cs PL base ho B w4 xs A) (o : Obj) : OwnC base ho B A.heap.size (A.alloc o) := by
  obtain ⟨s, e, ok, hs, c2, c3, fp⟩ := h.st
  have b : Below A.heap.size A (A.alloc o) := (Below.refl _ _).alloc (Nat.le_refl _) _
  exact ⟨h.size, by simp, s, hs.under b, hs.new b, c2.under b, c3.under b⟩
theorem colI_step {cs : List HC} {PL : List Nat} {base ho B : Nat} {w4 A C : World} {xs : List CI} {x : CI} (hho : ho < B) (h : ColI cs PL base ho B w4 xs A) {s s' : HSt} (hs : s.At base A ho) (hm : HMove base ho s s' A C) (he : s'.cs = (colC cs PL).take (xs ++ [x]).length) (hok : HOk s') (c2 : s.Core base A B) (c3 : s.Core base A (B + 1)) (fp : ∀ k, s.FP ho k → k = ho ∨ B + 2 ≤ k) :
    ColI cs PL base ho B w4 (xs ++ [x]) C ∧ KC (OwnC base ho B) (fun k => k < B ∧ k ≠ ho) B A C := by
  have hsz := h.size
  have kept : ∀ k, k < A.heap.size → s.Core base A k → k ≠ ho → C.heap[k]? = A.heap[k]? := fun k hk hc hne => hm.block hk hc hne
  have hlo : ∀ k, k < B → k ≠ ho → C.heap[k]? = A.heap[k]? := fun k hk hne => hm.mod.block k (by omega) (fun hf => by rcases fp k hf with e | e <;> omega)
  have hC2 := hm.apart B (by omega) c2
  have hC3 := hm.apart (B + 1) (by omega) c3
  refine ⟨⟨⟨s', he, hok, hm.at_, hC2, hC3, fun k hk => ?_⟩, fun k hk hne => (hlo k hk hne).trans (h.lo k hk hne), Nat.le_trans hsz hm.mod.size, ⟨hm.mod.os.trans h.os.1, hm.mod.tape.trans h.os.2.1, hm.mod.output.trans h.os.2.2⟩⟩, ⟨⟨hm.mod.size, fun k hk => hlo k hk.1 hk.2, fun k hk => ?_⟩, kept _ (by omega) c3 (by omega), kept _ (by omega) c2 (by omega)⟩⟩
  · rcases hm.fp k hk with e | e
    · exact fp k e
    · exact .inr (by omega)
  · obtain ⟨k1, k2, s2, hs2, d1, d2, d3⟩ := hk
    have hc := hs.swap hs2 d1
    exact ⟨kept k k2 hc (by omega), k1, Nat.lt_of_lt_of_le k2 hm.mod.size, s', hm.at_, hm.apart k k2 hc, hC2, hC3⟩

theorem shut_len {cs : List HC} {PL : List Nat} (h : Shut cs PL) : PL.length ≤ cs.length := nodup_len _ _ (h.up.imp (fun {a b} hab e => by omega)) h.lt

theorem HSt.At.heap {s : HSt} {b hb : Nat} {w V : World} (h : s.At b w hb) (hk : ∀ k, k < w.heap.size → V.heap[k]? = w.heap[k]?) (hs : w.heap.size ≤ V.heap.size) : s.At b V hb := by
  have hb' : Below w.heap.size w { V with os := w.os, tape := w.tape, output := w.output } := ⟨rfl, rfl, rfl, hs, hk⟩
  have h2 := h.under hb'
  refine ⟨HeapAt.low h2, ?_, ⟨?_, ?_, (HeapAt.core h2).apart⟩⟩
  · exact h2.bx
  · exact (HeapAt.core h2).row
  · exact (HeapAt.core h2).room
theorem make_next {cs : List HC} {PL : List Nat} (hg : HGood cs) (hs : Shut cs PL) {i a : Nat} {c : HC} (hi : PL[i]? = some a) (hc : cs[a]? = some c) {s : HSt} (hcs : s.cs = (colC cs PL).take i) (hok : HOk s) :
    makeE s.cs ((c.L.map (mvW PL)).map awOf) = 0 ∧ s.more c.k (((c.L.map (mvW PL)).map awOf).map AW.hw) = (colC cs PL).take (i + 1) ∧
    ∀ s2 : HSt, s2.cs = s.more c.k (((c.L.map (mvW PL)).map awOf).map AW.hw) → s2.ws = s.ws + (1 + ((c.L.map (mvW PL)).map awOf).length) → s2.rn ≤ 1000000 → HOk s2 := by
  have hil := (List.getElem?_eq_some_iff.1 hi).1
  have hplen := shut_len hs
  have hcl := hg.len
  have hlen : s.cs.length = i := by rw [hcs, List.length_take, colC_len]; omega
  obtain ⟨h1, h2⟩ := col_step hg hs hi hc
  rw [awOf_map]
  have hword : ∀ y ∈ c.L.map (mvW PL), wgood s.cs.length y := fun y hy => by
    obtain ⟨z, hz, rfl⟩ := List.mem_map.1 hy
    rw [hlen]
    exact col_word hg hs hi hc z hz
  have hall : ((c.L.map (mvW PL)).map awOf).all (fun q => mayW s.cs.length q.c q.a q.x) = true := by
    rw [List.all_eq_true]
    intro q hq
    obtain ⟨y, hy, rfl⟩ := List.mem_map.1 hq
    exact awOf_may (hword y hy)
  have hw : wsum s.cs (c.L.map (mvW PL)) = c.size := by rw [hcs]; exact h1
  have hmost := hg.most a c hc
  refine ⟨?_, ?_, fun s2 e1 e2 e3 => ?_⟩
  · unfold makeE
    rw [if_pos hall, awOf_map, if_neg (by omega), if_neg (by omega)]
  · unfold HSt.more
    rw [h2, hcs]
  · have hkind : c.k = 5 ∨ (c.k = 7 ∧ (c.L.map (mvW PL)).length = 2) := by rw [List.length_map]; exact hg.kind a c hc
    refine ⟨by rw [e1]; exact hok.good.snoc c.k _ hkind hword (by omega) (by omega), ?_, e3⟩
    rw [e2, e1, hok.ws]
    unfold HSt.more
    rw [wordsOf_append]
    simp [wordsOf]

theorem moved_hw (n : Nat) (PL : List Nat) (L : List HW) (A : Option Addr) (cap m : Nat) (w : World) (hA : L ≠ [] → ∃ g, A = some ⟨g, 0, none⟩ ∧ g < w.heap.size ∧ WordsIn w g L) (hgood : ∀ y ∈ L, wgood n y) (hin : ∀ a, HW.ref a ∈ L → a ∈ PL) (hn : n ≤ 2000000)
    (hmap : w.heap[m]? = some (.map (entsV (wentV PL)) PL.length)) (hup : PL.Pairwise (· < ·)) (hS : Spans w) (hl : L.length ≤ 1000000) :
    Calls Tryz.prog 32 #[.slice A L.length cap, .map (some m)] w fun e w' => e = .returned (.slice (some ⟨w.heap.size, 0, none⟩) L.length L.length) ∧ w.heap.size < w'.heap.size ∧ WordsIn w' w.heap.size (L.map (mvW PL)) ∧ Below w.heap.size w w' := by
  have hrow : WRow (· < w.heap.size) w A (L.map awOf).length L.length (L.map awOf) := by
    rw [List.length_map]
    by_cases hL : L = []
    · subst hL; exact wrow_nil _ _ _ _
    · obtain ⟨g, rfl, h1, h2⟩ := hA hL
      exact (wrow_of hgood (by omega) h2 (Nat.le_refl _)).keep (fun _ _ => rfl) (fun b e => by subst e; exact h1)
  have h := moved_any n PL (L.map awOf) A cap L.length m w hrow (fun q hq => by obtain ⟨y, hy, rfl⟩ := List.mem_map.1 hq; exact awOf_may (hgood y hy)) (fun q hq hc => by
    obtain ⟨y, hy, rfl⟩ := List.mem_map.1 hq
    cases y with
    | leaf x => cases hc
    | ref a => show ((a : Int)).toNat ∈ PL; rw [Int.toNat_natCast]; exact hin a hy) hn hmap hup hS (by rw [List.length_map]; exact hl)
  rw [List.length_map] at h
  refine h.mono ?_
  rintro e w' ⟨h1, h2, h3, h4⟩
  refine ⟨h1, h2, ?_, h4⟩
  have e1 : (L.map awOf).map (fun q => mvW PL q.hw) = L.map (mvW PL) := by
    rw [List.map_map]
    exact List.map_congr_left (fun y _ => by show mvW PL (awOf y).hw = _; rw [awOf_hw])
  rwa [e1] at h3

attribute [local go_sem] Oper.semAt_some
set_option maxRecDepth 100000 in
set_option maxHeartbeats 8000000 in
theorem collected_any {b0 hb : Nat} {s : HSt} (hg : HGood s.cs) (w : World) (h : s.At b0 w hb) (PL : List Nat) (hsh : Shut s.cs PL) (A : Option Addr) (cap m : Nat) (hP : PRow w A cap PL) (hmap : w.heap[m]? = some (.map (entsV (wentV PL)) PL.length)) (hS : Spans w) :
    Calls Tryz.prog 31 #[.pointer (some ⟨hb, 0, none⟩), .slice A PL.length cap, .map (some m)] w fun e w' =>
      ∃ (so : HSt) (ho : Nat), so.cs = colC s.cs PL ∧ HOk so ∧ so.At w.heap.size w' ho ∧ e = .returned (.pointer (some ⟨ho, 0, none⟩)) ∧ Below w.heap.size w w' := by
  refine (callsIn_wide (n := 6)).1 ?_
  have hlen : PL.length ≤ 1048576 := Nat.le_trans (shut_len hsh) hg.len
  obtain ⟨w1, hw1⟩ : ∃ w1, w1 = w.alloc (.cells #[.map (some m)] 76) := ⟨_, rfl⟩
  have b1 : Below w.heap.size w w1 := by rw [hw1]; exact (Below.refl _ _).alloc (Nat.le_refl _) _
  have s1 : w1.heap.size = w.heap.size + 1 := by rw [hw1]; simp
  have g1 : w1.heap[w.heap.size]? = some (.cells #[.map (some m)] 76 (0, 0)) := by rw [hw1]; exact block_alloc _ _
  have HW1 := Lib.hid (And.intro b1 (And.intro s1 g1))
  have HH := Lib.hid h
  have HG := Lib.hid hg
  have HSH := Lib.hid hsh
  have HP := Lib.hid hP
  have HM := Lib.hid hmap
  have HS := Lib.hid hS
  have HL := Lib.hid hlen
  clear b1 s1 g1 h hg hsh hP hmap hS hlen
  refine callsIn_of_wp_marks Tryz.func31 rfl trivial ?_ rfl
  simp only [Tryz.ntmps31, List.size_toArray, List.length_cons, List.length_nil, Nat.reduceAdd, Nat.reduceSub, Array.replicate_succ, Array.replicate_zero, List.push_toArray, List.append_toArray, List.nil_append, List.cons_append]
  gi_wp2_with fail
  refine ⟨trivial, ?_⟩
  rw [← hw1]
  clear hw1
  gi_at_call 24
  refine (callsIn_wide.2 (New_any w.heap.size w1 HW1.out.1.size)).mono ?_
  rintro e w2 ⟨rfl, hA2, b2⟩
  have HA2 := Lib.hid hA2
  have B2 := Lib.hid b2
  clear hA2 b2
  have z0 : (w2.alloc (.cells #[.pointer none] 33)).cell? ⟨w2.heap.size, 0, none⟩ = some (.pointer none) := cell_of_row (block_alloc _ _) rfl
  have zf0 : (w2.alloc (.cells #[.pointer none] 33)).frozen? ⟨w2.heap.size, 0, none⟩ = false := free_of_row (block_alloc _ _)
  obtain ⟨w3, hw3⟩ : ∃ w3, w3 = w2.alloc (.cells #[.pointer (some ⟨w1.heap.size, 0, none⟩)] 33) := ⟨_, rfl⟩
  have b3 : Below w2.heap.size w2 w3 := by rw [hw3]; exact (Below.refl _ _).alloc (Nat.le_refl _) _
  have s3 : w3.heap.size = w2.heap.size + 1 := by rw [hw3]; simp
  have g3 : w3.heap[w2.heap.size]? = some (.cells #[.pointer (some ⟨w1.heap.size, 0, none⟩)] 33 (0, 0)) := by rw [hw3]; exact block_alloc _ _
  have HW3 := Lib.hid (And.intro b3 (And.intro s3 g3))
  clear b3 s3 g3
  gi_wp2_with fail
  rw [← hw3]
  clear hw3 z0 zf0
  refine ⟨trivial, ?_⟩
  gi_at_call 49
  refine (callsIn_wide.2 (split_any _ A PL.length cap w3 HL.out HP.out.capL HP.out.none_ HP.out.zero)).mono ?_
  rintro e w3' ⟨rfl, e3⟩
  subst w3'
  gi_wp2_with fail
  refine ⟨trivial, ?_⟩
  gi_at_call 50
  refine (callsIn_wide.2 (values_fn A PL.length cap w3)).mono ?_
  rintro e w4 ⟨rfl, hw4⟩
  have HW4 := Lib.hid hw4
  clear hw4
  gi_wp2_with fail
  refine ⟨trivial, ?_⟩
  gi_at_call 42
  refine (callsIn_wide.2 (cells_fn (some ⟨hb, 0, none⟩) _ _ w4)).mono ?_
  rintro e w5 ⟨rfl, hw5⟩
  have HW5 := Lib.hid hw5
  clear hw5
  gi_wp2_with fail
  obtain ⟨B, hB⟩ : ∃ B, B = w5.heap.size := ⟨_, rfl⟩
  obtain ⟨ho, hho⟩ : ∃ ho, ho = w1.heap.size := ⟨_, rfl⟩
  have hmem : w5.heap[w.heap.size]? = some (.cells #[.map (some m)] 76 (0, 0)) ∧ w5.heap[w2.heap.size]? = some (.cells #[.pointer (some ⟨ho, 0, none⟩)] 33 (0, 0)) ∧ w5.heap[w3.heap.size]? = some (.cells #[.slice A PL.length cap] 44 (0, 0)) ∧ w5.heap[w4.heap.size]? = some (.cells #[.pointer (some ⟨hb, 0, none⟩)] 33 (0, 0)) ∧
      w5.heap[w4.heap.size + 1]? = some (.cells #[.func (.func 72) #[] #[.pointer (some ⟨w3.heap.size, 0, none⟩)]] 91 (0, 0)) ∧ Below w.heap.size w w5 ∧ HeapAt w.heap.size w5 ho [] 0 (.slice none 0 0) (.slice none 0 0) := by
    obtain ⟨b1, s1, g1⟩ := HW1.out
    obtain ⟨b3, s3, g3⟩ := HW3.out
    have b2 := B2.out
    have e4 := HW4.out
    have e5 := HW5.out
    have s4 : w4.heap.size = w3.heap.size + 1 := by rw [e4]; simp
    have b4 : Below w3.heap.size w3 w4 := by rw [e4]; exact (Below.refl _ _).alloc (Nat.le_refl _) _
    have g4 : w4.heap[w3.heap.size]? = some (.cells #[.slice A PL.length cap] 44 (0, 0)) := by rw [e4]; exact block_alloc _ _
    have b5 : Below w4.heap.size w4 w5 := by rw [e5]; exact ((Below.refl _ _).alloc (Nat.le_refl _) _).alloc (by simp) _
    have l1 := heap_lt g1
    have l3 := heap_lt g3
    have l4 := heap_lt g4
    have z2 := b2.size
    have h5 : w5.heap[w4.heap.size + 1]? = some (.cells #[.func (.func 72) #[] #[.pointer (some ⟨w3.heap.size, 0, none⟩)]] 91 (0, 0)) := by
      have := block_alloc (w4.alloc (.cells #[.pointer (some ⟨hb, 0, none⟩)] 33)) (.cells #[.func (.func 72) #[] #[.pointer (some ⟨w3.heap.size, 0, none⟩)]] 91)
      rw [← e5, World.size_alloc] at this
      exact this
    have h4 : w5.heap[w4.heap.size]? = some (.cells #[.pointer (some ⟨hb, 0, none⟩)] 33 (0, 0)) := by
      rw [e5]
      exact (Below.heap_alloc _ _ _ (by simp)).trans (block_alloc _ _)
    refine ⟨(b5.block _ (by omega)).trans ((b4.block _ (by omega)).trans ((b3.block _ (by omega)).trans ((b2.block _ l1).trans g1))), (b5.block _ (by omega)).trans ((b4.block _ l3).trans (by rw [hho]; exact g3)), (b5.block _ l4).trans g4, h4, h5, ?_, ?_⟩
    · exact b1.trans ((b2.mono b1.size).trans ((b3.mono (by omega)).trans ((b4.mono (by omega)).trans (b5.mono (by omega)))))
    · rw [hho]
      exact (HA2.out.under b3).under (b4) |>.under b5
  have hord : w.heap.size < ho ∧ ho < w2.heap.size ∧ w2.heap.size < w3.heap.size ∧ w3.heap.size < w4.heap.size ∧ w4.heap.size + 1 < B := by
    obtain ⟨h0, h1, h2, h3, h4, h5, h6⟩ := hmem
    have e4 := HW4.out
    have s4 : w4.heap.size = w3.heap.size + 1 := by rw [e4]; simp
    have := HW1.out.2.1
    have := HW3.out.2.1
    have := heap_lt (HA2.out.box)
    have := heap_lt h3
    have := heap_lt h4
    omega
  have HO := Lib.hid (And.intro hB hord)
  have HMEM := Lib.hid hmem
  have hs0 : (⟨[], 0, .slice none 0 0, none, 0⟩ : HSt).At w.heap.size w5 ho := hmem.2.2.2.2.2.2
  have HS0 := Lib.hid hs0
  have HHO := Lib.hid hho
  have hplt := Nat.le_trans (shut_len HSH.out) HG.out.len
  have HKW : Hid (∀ (V : World), (∀ k, (k < B ∧ k ≠ ho) → V.heap[k]? = w5.heap[k]?) → ∀ k, k < w.heap.size → V.heap[k]? = w.heap[k]?) := fun V hV k hk => by
    obtain ⟨hB', h1, h2, h3, h4, h5⟩ := HO.out
    exact (hV k ⟨by omega, by omega⟩).trans (HMEM.out.2.2.2.2.2.1.block k hk)
  have hCT : CellsTold (fun k => k < B ∧ k ≠ ho) (.pointer (some ⟨hb, 0, none⟩)) PL (fun a c => s.cs[a]? = some c) w5 := fun a ha => by
    obtain ⟨c, hc⟩ : ∃ c, s.cs[a]? = some c := ⟨s.cs[a]'(HSH.out.lt a ha), List.getElem?_eq_getElem _⟩
    have hcl := HG.out.len_le hc
    exact ⟨c, hc, fun V hV hs => Cell_any V (HH.out.heap (HKW.out V hV) (Nat.le_trans HMEM.out.2.2.2.2.2.1.size hs)) a c hc (by omega)⟩
  have hIN : InnerQ (fun k => k < B ∧ k ≠ ho) 72 #[.pointer (some ⟨w3.heap.size, 0, none⟩)] PL w5 := fun m' V hV hs => by
    obtain ⟨hB', h1, h2, h3, h4, h5⟩ := HO.out
    obtain ⟨-, -, k3, -, -, k6, -⟩ := HMEM.out
    refine values_seq m' _ w3.heap.size A cap PL V ((hV _ ⟨by omega, by omega⟩).trans k3) ⟨by omega, by omega⟩ (fun g e => ?_) ?_ (by omega)
    · have := HP.out.lt g e
      exact ⟨⟨by omega, by omega⟩, by omega⟩
    · exact HP.out.row.keep (fun g e => HKW.out V hV g (HP.out.lt g e))
  have hSEQ : SeqQ (6 - 1) Tryz.prog 66 #[.pointer (some ⟨w4.heap.size + 1, 0, none⟩), .pointer (some ⟨w4.heap.size, 0, none⟩)] encC (fun k => k < B ∧ k ≠ ho) (CellE (fun a c => s.cs[a]? = some c)) (fun xs => xs.map (·.1) = PL) (fun pre => ∃ k, pre.map (·.1) = PL.take k) w5 := by
    obtain ⟨hB', h1, h2, h3, h4, h5⟩ := HO.out
    exact cells5_seq _ _ w4.heap.size (w4.heap.size + 1) _ _ _ PL _ w5 (enters_of Tryz.func72 (by kernel_rfl) rfl) (fun k hk => by omega) ⟨by omega, by omega⟩ ⟨by omega, by omega⟩ HMEM.out.2.2.2.1 HMEM.out.2.2.2.2.1 hIN hCT
  have HSEQ := Lib.hid hSEQ
  have HPLT := Lib.hid hplt
  have hI0 : ∀ d r, ColI s.cs PL w.heap.size ho B w5 [] ((w5.alloc d).alloc r) := fun d r => by
    obtain ⟨hB', h1, h2, h3, h4, h5⟩ := HO.out
    have bd : Below w5.heap.size w5 (w5.alloc d) := (Below.refl _ _).alloc (Nat.le_refl _) _
    have br : Below (w5.alloc d).heap.size (w5.alloc d) ((w5.alloc d).alloc r) := (Below.refl _ _).alloc (Nat.le_refl _) _
    have sd : (w5.alloc d).heap.size = B + 1 := by simp [hB']
    have a1 := HS0.out.under bd
    have c0 := HS0.out.new bd
    have c1 := a1.new br
    rw [← hB'] at c0
    rw [sd] at c1
    refine ⟨⟨⟨[], 0, .slice none 0 0, none, 0⟩, rfl, ⟨⟨(fun n c h => by simp at h), (fun n c h => by simp at h), (fun n c h => by simp at h), (fun n c h => by simp at h), by simp⟩, rfl, by simp⟩, a1.under br, c0.under br, c1, fun k hk => ?_⟩, fun k hk _ => ?_, by simp [← hB'], rfl, rfl, rfl⟩
    · rcases hk with e | e | ⟨e, -⟩
      · exact .inl e
      · simp [Value.ownBlock] at e
      · exact absurd e (by simp)
    · exact (br.block k (by omega)).trans (bd.block k (by omega))
  have HI0 := Lib.hid hI0
  clear hmem hord hs0 hplt hCT hIN hSEQ hI0 hB hho
  have HJO : ∀ (C : World) (F : Nat → Prop), (∀ j, j < C.heap.size → F j → OwnC w.heap.size ho B j C ∨ j = w5.heap.size ∨ j = w5.heap.size + 1) → ∀ j, j < C.heap.size → F j → OwnC w.heap.size ho B j C ∨ j = B ∨ j = B + 1 := fun C F H j hj hf => by rw [HO.out.1]; rw [HO.out.1] at H; exact H j hj hf
  have HJO := Lib.hid HJO
  refine range_q (α := CI) (gf := 66) (lb := #[.pointer (some ⟨w4.heap.size + 1, 0, none⟩), .pointer (some ⟨w4.heap.size, 0, none⟩)]) rfl (enters_of Tryz.func66 (by kernel_rfl) rfl) (fun _ => rfl) HSEQ.out (fun k hk => by have := HO.out.1; omega)
    (OwnC w.heap.size ho B) (fun k C h => ⟨h.2.1, by have := h.1; have := HO.out.1; omega⟩) (fun k C D F _ h hm hF => ownC_keep (by have := HO.out; omega) h hm (HJO.out _ _ hF))
    (ColI s.cs PL w.heap.size ho B w5) (fun c pre W => False) (fun xs C o h _ => ownC_new h o) (fun xs C D F _ h hm hF => colI_keep (by have := HO.out; omega) h hm (HJO.out _ _ hF)) (fun c xs C D F _ h _ _ => h) HI0.out
    (fun x X Y hm h => by
      obtain ⟨hcr, A1, cap1, he, hw⟩ := h
      refine ⟨hcr, A1, cap1, he, fun hL => ?_⟩
      obtain ⟨g, e1, e2, e3, e4⟩ := hw hL
      exact ⟨g, e1, e2, Nat.lt_of_lt_of_le e3 hm.size, e4.keep (hm.block g e3 (by omega))⟩)
    (fun x a' X => ∃ b cv, OwnC w.heap.size ho B b X ∧ x.2.2 = .agg cv ∧ X.heap[b]? = some (.cells cv 62 (0, 0)) ∧ a' = { tmps := #[.pointer (some ⟨hb, 0, none⟩), .slice A PL.length cap, .map (some m), undef, undef, .pointer (some ⟨w.heap.size, 0, none⟩), .pointer none, .pointer (some ⟨w2.heap.size, 0, none⟩), .slice A PL.length cap, .slice none 0 0, undef, .pointer (some ⟨b, 0, none⟩), undef, undef, undef, undef, .pointer (some ⟨w1.heap.size, 0, none⟩), .tuple #[.slice A PL.length cap, .slice none 0 0], .pointer (some ⟨hb, 0, none⟩), .slice A PL.length cap, .tuple #[.slice A PL.length cap, .slice none 0 0], .slice A PL.length cap, .slice none 0 0, .pointer (some ⟨hb, 0, none⟩), .slice A PL.length cap, .func (.func 72) #[] #[.pointer (some ⟨w3.heap.size, 0, none⟩)], .func (.func 66) #[] #[.pointer (some ⟨w4.heap.size + 1, 0, none⟩), .pointer (some ⟨w4.heap.size, 0, none⟩)], .int .i64 (x.1 : Int), .agg cv, undef, undef, undef, undef, undef, undef, undef, undef, undef, undef, undef, undef, undef, undef, undef, undef, undef, undef, undef, undef, undef, undef, undef, undef, undef, undef], defers := [] })
    (fun x a' X Y hm h => by
      obtain ⟨b, cv, h1, h2, h3, h4⟩ := h
      exact ⟨b, cv, ownC_keep (by have := HO.out; omega) h1 hm (fun j _ e => .inr (.inr (by have := HO.out.1; omega))), h2, (hm.block _ (heap_lt h3) (by have := HO.out.1; have := h1.1; omega)).trans h3, h4⟩) ?assign ?body ?done ?stop
  case assign =>
    rintro l2 pre ⟨a, c, v⟩ V K hi ⟨hcr, A1, cap1, he, hw⟩ hsz hK
    dsimp only at he hcr hw
    subst he
    have HK := Lib.hid (hK _ _ ((Below.refl _ V).alloc (Nat.le_refl _) _) ⟨V.heap.size, _, ownC_new hi _, rfl, block_alloc _ _, rfl⟩)
    clear hK hi hsz hw hcr
    have z0 : (V.alloc (.cells #[.int .i8 0, .int .i64 0, .slice none 0 0] 62)).cell? ⟨V.heap.size, 0, none⟩ = some (.int .i8 0) := cell_of_row (block_alloc _ _) rfl
    have zf0 : (V.alloc (.cells #[.int .i8 0, .int .i64 0, .slice none 0 0] 62)).frozen? ⟨V.heap.size, 0, none⟩ = false := free_of_row (block_alloc _ _)
    have z1 : (V.alloc (.cells #[.int .i8 0, .int .i64 0, .slice none 0 0] 62)).cell? ⟨V.heap.size, 1, none⟩ = some (.int .i64 0) := cell_of_row (block_alloc _ _) rfl
    have zf1 : (V.alloc (.cells #[.int .i8 0, .int .i64 0, .slice none 0 0] 62)).frozen? ⟨V.heap.size, 1, none⟩ = false := free_of_row (block_alloc _ _)
    have z2 : (V.alloc (.cells #[.int .i8 0, .int .i64 0, .slice none 0 0] 62)).cell? ⟨V.heap.size, 2, none⟩ = some (.slice none 0 0) := cell_of_row (block_alloc _ _) rfl
    have zf2 : (V.alloc (.cells #[.int .i8 0, .int .i64 0, .slice none 0 0] 62)).frozen? ⟨V.heap.size, 2, none⟩ = false := free_of_row (block_alloc _ _)
    unfold encC
    dsimp only
    gi_wp2
    exact HK.out
  case body =>
    rintro l2 pre ⟨a, c, v⟩ a' V hi ⟨hcr, A1, cap1, he, hw⟩ ⟨b, cv, hb2, hv, hbx, rfl⟩ hsp hsz hlow
    dsimp only at he hcr hw hv hsp
    subst he
    simp only [Value.agg.injEq] at hv
    subst hv
    obtain ⟨k, hk⟩ := hsp
    have hpi : PL[pre.length]? = some a := by
      have h1 : (PL.take k)[pre.length]? = some a := by rw [← hk, List.map_append, List.getElem?_append_right (by simp)]; simp
      rw [List.getElem?_take] at h1
      split at h1
      · exact h1
      · cases h1
    have HAPL := Lib.hid (List.mem_of_getElem? hpi)
    have hpre : (pre ++ [((a, c, .agg #[.int .i8 c.k, .int .i64 c.size, .slice A1 c.L.length cap1]) : CI)]).length = pre.length + 1 := by simp
    obtain ⟨s1, hcs1, hok1, hat1, hc0, hc1, hfp1⟩ := hi.st
    obtain ⟨hmk, hmore, hokn⟩ := make_next HG.out HSH.out hpi hcr hcs1 hok1
    have HCR := Lib.hid hcr
    have HMK := Lib.hid (And.intro hmk (And.intro hmore (And.intro hokn hpre)))
    have HI := Lib.hid hi
    have HST := Lib.hid (And.intro hcs1 (And.intro hok1 (And.intro hat1 (And.intro hc0 (And.intro hc1 hfp1)))))
    have HWI := Lib.hid hw
    have hbB : b < V.heap.size := heap_lt hbx
    have HBB := Lib.hid (And.intro hb2 hbB)
    have g0 := (hlow w2.heap.size ⟨by have := HO.out; omega, by have := HO.out; omega⟩).trans HMEM.out.2.1
    have g1 := (hlow w.heap.size ⟨by have := HO.out; omega, by have := HO.out; omega⟩).trans HMEM.out.1
    have hlw : ∀ k, k < w.heap.size → V.heap[k]? = w.heap[k]? := HKW.out V hlow
    have HLW := Lib.hid hlw
    clear hmk hmore hokn hi hcs1 hok1 hat1 hc0 hc1 hfp1 hw hb2 hlow hlw hk hpi hpre hcr hbB
    have hdr : Below V.heap.size V V.drew := ⟨rfl, rfl, rfl, Nat.le_refl _, fun _ _ => rfl⟩
    have hsD : (fun X => X.heap[w2.heap.size]? = some (.cells #[.pointer (some ⟨ho, 0, none⟩)] 33 (0, 0)) ∧ X.heap[w.heap.size]? = some (.cells #[.map (some m)] 76 (0, 0)) ∧ X.heap[b]? = some (.cells #[.int .i8 c.k, .int .i64 c.size, .slice A1 c.L.length cap1] 62 (0, 0))) V.drew := ⟨(hdr.block _ (heap_lt g0)).trans g0, (hdr.block _ (heap_lt g1)).trans g1, (hdr.block _ (heap_lt hbx)).trans hbx⟩
    gi_wp2_with fail
    refine region_held_in (S := fun X => X.heap[w2.heap.size]? = some (.cells #[.pointer (some ⟨ho, 0, none⟩)] 33 (0, 0)) ∧ X.heap[w.heap.size]? = some (.cells #[.map (some m)] 76 (0, 0)) ∧ X.heap[b]? = some (.cells #[.int .i8 c.k, .int .i64 c.size, .slice A1 c.L.length cap1] 62 (0, 0))) ?hq (by kernel_rfl) (by kernel_rfl) ?_
    case hq =>
      rintro ⟨a, w, h⟩
      exact h
    show wpAnyH _ _ _ _ _ _ _ _ V.drew
    have hDs : V.drew.heap.size = V.heap.size := rfl
    generalize V.drew = D at hdr hsD hDs ⊢
    have HDR := Lib.hid (And.intro hdr hDs)
    have HSD := Lib.hid hsD
    clear hdr hDs g0 g1 hbx
    refine wpAnyH_take (i := 0) (oi := ⟨some 29, _, _, _, _, _⟩) (v := ?_) rfl (by kernel_rfl) (by kernel_rfl) (by kernel_rfl) (fun _ _ _ h => h) (Or.inl ⟨by kernel_rfl, ?_⟩) (by assumption) ?_; rotate_left; (intro X hX; (try dsimp only at hX); obtain ⟨q0, q1, q2⟩ := hX; have y0 := cell_of_row (i := 0) q0 rfl; have y1 := cell_of_row (i := 0) q1 rfl; have y2 := cell_of_row (i := 0) q2 rfl; have y3 := cell_of_row (i := 2) q2 rfl; clear q0 q1 q2; go_simp; first | done | with_reducible rfl); (try simp only [Act.put, List.setIfInBounds_toArray, List.set_cons_zero, List.set_cons_succ])
    refine wpAnyH_take (i := 1) (oi := ⟨some 30, _, _, _, _, _⟩) (v := ?_) rfl (by kernel_rfl) (by kernel_rfl) (by kernel_rfl) (fun _ _ _ h => h) (Or.inl ⟨by kernel_rfl, ?_⟩) (by assumption) ?_; rotate_left; (intro X hX; (try dsimp only at hX); obtain ⟨q0, q1, q2⟩ := hX; have y0 := cell_of_row (i := 0) q0 rfl; have y1 := cell_of_row (i := 0) q1 rfl; have y2 := cell_of_row (i := 0) q2 rfl; have y3 := cell_of_row (i := 2) q2 rfl; clear q0 q1 q2; go_simp; first | done | with_reducible rfl); (try simp only [Act.put, List.setIfInBounds_toArray, List.set_cons_zero, List.set_cons_succ])
    refine wpAnyH_take (i := 2) (oi := ⟨some 31, _, _, _, _, _⟩) (v := ?_) rfl (by kernel_rfl) (by kernel_rfl) (by kernel_rfl) (fun _ _ _ h => h) (Or.inl ⟨by kernel_rfl, ?_⟩) (by assumption) ?_; rotate_left; (intro X hX; (try dsimp only at hX); obtain ⟨q0, q1, q2⟩ := hX; have y0 := cell_of_row (i := 0) q0 rfl; have y1 := cell_of_row (i := 0) q1 rfl; have y2 := cell_of_row (i := 0) q2 rfl; have y3 := cell_of_row (i := 2) q2 rfl; clear q0 q1 q2; go_simp; first | done | with_reducible rfl); (try simp only [Act.put, List.setIfInBounds_toArray, List.set_cons_zero, List.set_cons_succ])
    refine wpAnyH_take (i := 3) (oi := ⟨some 32, _, _, _, _, _⟩) (v := ?_) rfl (by kernel_rfl) (by kernel_rfl) (by kernel_rfl) (fun _ _ _ h => h) (Or.inl ⟨by kernel_rfl, ?_⟩) (by assumption) ?_; rotate_left; (intro X hX; (try dsimp only at hX); obtain ⟨q0, q1, q2⟩ := hX; have y0 := cell_of_row (i := 0) q0 rfl; have y1 := cell_of_row (i := 0) q1 rfl; have y2 := cell_of_row (i := 0) q2 rfl; have y3 := cell_of_row (i := 2) q2 rfl; clear q0 q1 q2; go_simp; first | done | with_reducible rfl); (try simp only [Act.put, List.setIfInBounds_toArray, List.set_cons_zero, List.set_cons_succ])
    refine wpAnyH_take (i := 4) (oi := ⟨some 33, _, _, _, _, _⟩) (v := ?_) rfl (by kernel_rfl) (by kernel_rfl) (by kernel_rfl) (fun _ _ _ h => h) (Or.inl ⟨by kernel_rfl, ?_⟩) (by assumption) ?_; rotate_left; (intro X hX; (try dsimp only at hX); obtain ⟨q0, q1, q2⟩ := hX; have y0 := cell_of_row (i := 0) q0 rfl; have y1 := cell_of_row (i := 0) q1 rfl; have y2 := cell_of_row (i := 0) q2 rfl; have y3 := cell_of_row (i := 2) q2 rfl; clear q0 q1 q2; go_simp; first | done | with_reducible rfl); (try simp only [Act.put, List.setIfInBounds_toArray, List.set_cons_zero, List.set_cons_succ])
    refine wpAnyH_take (i := 5) (oi := ⟨some 34, _, _, _, _, _⟩) (v := ?_) rfl (by kernel_rfl) (by kernel_rfl) (by kernel_rfl) (fun _ _ _ h => h) (Or.inl ⟨by kernel_rfl, ?_⟩) (by assumption) ?_; rotate_left; (intro X hX; (try dsimp only at hX); obtain ⟨q0, q1, q2⟩ := hX; have y0 := cell_of_row (i := 0) q0 rfl; have y1 := cell_of_row (i := 0) q1 rfl; have y2 := cell_of_row (i := 0) q2 rfl; have y3 := cell_of_row (i := 2) q2 rfl; clear q0 q1 q2; go_simp; first | done | with_reducible rfl); (try simp only [Act.put, List.setIfInBounds_toArray, List.set_cons_zero, List.set_cons_succ])
    refine wpAnyH_ready (rs := [6]) (by kernel_rfl) (by simp) ?_
    refine AllReadyH.cons (o := ⟨some 35, _, _, _, _, _⟩) rfl (fun K hK => ?_) AllReadyH.nil
    rw [if_pos (by rfl)]
    go_simp
    have hlD : ∀ k, k < w.heap.size → D.heap[k]? = w.heap[k]? := fun k hk => (HDR.out.1.block k (by have := HI.out.size; have := HO.out; omega)).trans (HLW.out k hk)
    have hSpD : Spans D := by
      obtain ⟨t, fr, h⟩ := HS.out
      exact ⟨t, fr, (hlD _ (heap_lt h)).trans h⟩
    have hmD : D.heap[m]? = some (.map (entsV (wentV PL)) PL.length) := (hlD m (heap_lt HM.out)).trans HM.out
    have haPL : a ∈ PL := HAPL.out
    have hlenL := HG.out.len_le HCR.out
    have hsmall := HG.out.len
    have HMV := Lib.hid (moved_hw s.cs.length PL c.L A1 cap1 m D (fun hL => by
      obtain ⟨g, e1, e2, e3, e4⟩ := HWI.out hL
      exact ⟨g, e1, by have := HDR.out.2; omega, e4.keep (HDR.out.1.block g e3)⟩) (fun y hy => wgood_mono (Nat.le_of_lt (HSH.out.lt a haPL)) (HG.out.low a c HCR.out y hy)) (fun x hx => HSH.out.parts a haPL c HCR.out x hx) (by omega) hmD HSH.out.up hSpD (by omega))
    clear hmD
    have HSP := Lib.hid hSpD
    have HLL := Lib.hid (And.intro hlenL haPL)
    clear hlD hSpD haPL hlenL hsmall
    refine HMV.out.mono ?_
    rintro e V1 ⟨rfl, hV1, hWI1, bV1⟩
    have BV1 := Lib.hid bV1
    have HV1 := Lib.hid (And.intro hV1 hWI1)
    have hS1 : (fun X => X.heap[w2.heap.size]? = some (.cells #[.pointer (some ⟨ho, 0, none⟩)] 33 (0, 0)) ∧ X.heap[w.heap.size]? = some (.cells #[.map (some m)] 76 (0, 0)) ∧ X.heap[b]? = some (.cells #[.int .i8 c.k, .int .i64 c.size, .slice A1 c.L.length cap1] 62 (0, 0))) V1 := by
      obtain ⟨q0, q1, q2⟩ := HSD.out
      exact ⟨(bV1.block _ (heap_lt q0)).trans q0, (bV1.block _ (heap_lt q1)).trans q1, (bV1.block _ (heap_lt q2)).trans q2⟩
    clear bV1 hV1 hWI1 hsD
    refine hK.out _ _ hS1 (fun _ => ?_)
    clear hK K; (try simp only [Act.put, List.setIfInBounds_toArray, List.set_cons_zero, List.set_cons_succ])
    have hbelow : Below V.heap.size V V1 := HDR.out.1.trans (BV1.out.mono (Nat.le_of_eq HDR.out.2.symm))
    obtain ⟨hcs1, hok1, hat1, hc0, hc1, hfp1⟩ := HST.out
    have hatD := hat1.under HDR.out.1
    have hat2 := hatD.under BV1.out
    have hnew := hatD.new BV1.out
    have hsp2 : Spans V1 := HSP.out.below BV1.out HSP.out.lt
    have hi9 := HI.out.size
    have hlenM : (c.L.map (mvW PL)).length = c.L.length := List.length_map _
    have hMake := Make_any c.k ((c.L.map (mvW PL)).map awOf) (some ⟨D.heap.size, 0, none⟩) c.L.length (fun b => b = D.heap.size) V1 (by have := hbelow.size; have := HO.out; omega) hat2 hok1.rn hok1.good.most
      (by
        have h := wrow_of (n := PL.length) (cap := c.L.length) (w := V1) (g := D.heap.size) (L := c.L.map (mvW PL)) (fun y hy => by
          obtain ⟨z, hz, rfl⟩ := List.mem_map.1 hy
          cases z with
          | leaf x => exact HG.out.low a c HCR.out _ hz
          | ref q => exact List.idxOf_lt_length_of_mem (HSH.out.parts a HLL.out.2 c HCR.out q hz)) (by have := HPLT.out; omega) HV1.out.2 (by omega)
        rw [List.length_map]
        rw [hlenM] at h ⊢
        exact h)
      (fun b e => by
        subst e
        have hlt := hatD.lt
        exact ⟨HV1.out.1, hnew.not_fp (by omega)⟩) (by rw [List.length_map, hlenM]; have := HLL.out.1; omega) hok1.ws_le hok1.good.len
      (by
        rw [List.length_map, hlenM]
        unfold kindB
        rcases HG.out.kind a c HCR.out with e | ⟨e1, e2⟩
        · rw [e]; rfl
        · rw [e1, e2]; rfl) hsp2
    rw [List.length_map, hlenM] at hMake
    have HMKE := Lib.hid hMake
    have HBL := Lib.hid hbelow
    have HAT2 := Lib.hid hat2
    clear hMake hbelow hcs1 hok1 hat1 hc0 hc1 hfp1 hatD hat2 hnew hsp2 hi9 hlenM
    refine wpAnyH_ready (rs := [7]) (by kernel_rfl) (by simp) ?_
    refine AllReadyH.cons (o := ⟨some 36, _, _, _, _, _⟩) rfl (fun K hK => ?_) AllReadyH.nil
    rw [if_pos (by rfl)]
    go_simp
    refine HMKE.out.mono ?_
    rintro e V2 hp
    obtain ⟨hmk, hmore, hokn, hpre⟩ := HMK.out
    rcases hp with ⟨hne, -⟩ | ⟨-, rfl, s2, e1, e2, hmv⟩
    · exact absurd hmk hne
    have hmvV : HMove w.heap.size ho s1 s2 V V2 := hmv.of_below HBL.out HST.out.2.2.1 HST.out.2.1.rn
    have hres := colI_step (by have := HO.out; omega) HI.out HST.out.2.2.1 hmvV (x := (a, c, .agg #[.int .i8 c.k, .int .i64 c.size, .slice A1 c.L.length cap1])) (by rw [e1, hmore, hpre]) (hokn s2 e1 e2 hmv.rn) HST.out.2.2.2.1 HST.out.2.2.2.2.1 HST.out.2.2.2.2.2
    have HRES := Lib.hid hres
    have hS2 : (fun X => X.heap[w2.heap.size]? = some (.cells #[.pointer (some ⟨ho, 0, none⟩)] 33 (0, 0)) ∧ X.heap[w.heap.size]? = some (.cells #[.map (some m)] 76 (0, 0)) ∧ X.heap[b]? = some (.cells #[.int .i8 c.k, .int .i64 c.size, .slice A1 c.L.length cap1] 62 (0, 0))) V2 := by
      obtain ⟨q0, q1, q2⟩ := hS1
      have hi9 := HI.out.size
      have hb9 := HBL.out.size
      have hord := HO.out
      have nf : ∀ k, k < B → k ≠ ho → ¬ s1.FP ho k := fun k hk hne hf => by rcases HST.out.2.2.2.2.2 k hf with e | e <;> omega
      obtain ⟨k1, k2, s9, ha9, d1, -, -⟩ := HBB.out.1
      have hcb : s1.Core w.heap.size V1 b := (HST.out.2.2.1.swap ha9 d1).under HBL.out
      exact ⟨(hmv.mod.block _ (heap_lt q0) (nf _ (by omega) (by omega))).trans q0, (hmv.mod.block _ (heap_lt q1) (nf _ (by omega) (by omega))).trans q1, (hmv.block (heap_lt q2) hcb (by omega)).trans q2⟩
    clear hmk hmore hokn hpre e1 e2 hmv hmvV hres hS1
    refine hK.out _ _ hS2 (fun _ => ?_)
    clear hK K; (try simp only [Act.put, List.setIfInBounds_toArray, List.set_cons_zero, List.set_cons_succ])
    refine wpAnyH_done (by kernel_rfl) ?_ _
    clear hS2
    exact ⟨kc_at HO.out.1.symm HRES.out.2, HRES.out.1⟩
  case done =>
    rintro xs V hxs hi hd
    obtain ⟨s1, hcs1, hok1, hat1, hc0, hc1, hfp1⟩ := hi.st
    have hbo : V.heap[w2.heap.size]? = some (.cells #[.pointer (some ⟨ho, 0, none⟩)] 33 (0, 0)) := (hi.lo _ (by have := HO.out; omega) (by have := HO.out; omega)).trans HMEM.out.2.1
    have hfull : s1.cs = colC s.cs PL := by
      have hl : xs.length = (colC s.cs PL).length := by rw [colC_len, ← hxs, List.length_map]
      rw [hcs1, hl, List.take_length]
    have HF := Lib.hid (And.intro hfull (And.intro hok1 (And.intro hat1 (And.intro hc0 hi))))
    have HBO := Lib.hid hbo
    have x0 : V.cell? ⟨w2.heap.size, 0, none⟩ = some (.pointer (some ⟨ho, 0, none⟩)) := cell_of_row hbo rfl
    have HD := Lib.hid hd
    clear hi hcs1 hok1 hat1 hc0 hc1 hfp1 hbo hfull hxs hd
    gi_wp2_with fail
    gi_loopw [39] (fun i wr => i = .int .i64 0 ∧ wr = V) (fun _ _ => 0)
    case atStart => exact ⟨rfl, rfl⟩
    case round =>
      obtain ⟨rfl, rfl⟩ := hrel
      gi_wp2_with fail
      refine ⟨by simp, .inl ⟨_, _, rfl, run_takeDeferred HD.out, ?_⟩⟩
      refine ⟨.pointer (some ⟨ho, 0, none⟩), by simp [results, Tryz.f31, go_sem], s1, ho, HF.out.1, HF.out.2.1, ?_, rfl, ?_⟩
      · have m := Mod.putObj (F := fun k => k = w5.heap.size) wr w5.heap.size (.deferred none) rfl
        have hc := HF.out.2.2.2.1
        rw [HO.out.1] at hc
        exact HF.out.2.2.1.write hc (by have := HO.out; omega) m
      · have hi := HF.out.2.2.2.2
        have hb5 := HMEM.out.2.2.2.2.2.1
        have hord := HO.out
        have hsz := hi.size
        refine ⟨hi.os.1.trans hb5.os, hi.os.2.1.trans hb5.tape, hi.os.2.2.trans hb5.output, by rw [World.putObj_size]; omega, fun k hk => ?_⟩
        exact (World.putObj_heap_other (by omega)).trans ((hi.lo k (by omega) (by omega)).trans (hb5.block k hk))
  case stop =>
    intro c pre V _ h
    exact h.elim
end Go.Proofs.YtaemfjmmklpjeaaGreatDoor
