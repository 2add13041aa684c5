/- pleachlaw05.CollectNil: the walk. -/
import Derived.Test.YtgdkhmamjhdfdaaDoorCoWak
import Derived.Test.YtgdkhmamjhdfdaaDoorWord5
set_option linter.unusedVariables false
namespace Go.Proofs.YtgdkhmamjhdfdaaDoor
open Go.RowKit

set_option maxRecDepth 100000 in
set_option maxHeartbeats 4000000 in
theorem Reached_nil (A : Option Addr) (n cap : Nat) (w : World) : Calls Tryd.prog 8 #[.pointer none, .slice A n cap] w fun e w' => e = .returned (.tuple #[.slice none 0 0, .int .i64 1]) ∧ w' = w := by
  go_enter Tryd.func8, Tryd.ntmps8
  go_wp2_with fail
  exact bodyPost_ret (v := .tuple #[.slice none 0 0, .int .i64 1]) (by simp [results, Tryd.f8, go_sem]) rfl ⟨rfl, rfl⟩
set_option maxRecDepth 100000 in
set_option maxHeartbeats 4000000 in
theorem Run_nil (A : Option Addr) (n cap : Nat) (w : World) : Calls Tryd.prog 6 #[.pointer none, .slice A n cap] w fun e w' => e = .returned (.tuple #[.pointer none, .slice none 0 0, .int .i64 1]) ∧ w' = w := by
  go_enter Tryd.func6, Tryd.ntmps6
  go_wp2_with fail
  refine (Reached_nil A n cap w).mono ?_
  rintro e w' ⟨rfl, hq⟩
  subst w'
  go_wp2_with fail
  exact bodyPost_ret (v := .tuple #[.pointer none, .slice none 0 0, .int .i64 1]) (by simp [results, Tryd.f6, go_sem]) rfl ⟨rfl, rfl⟩

/-- What a loop without rounds leaves. -/
structure NilI (w5 A : World) : Prop where
  size : w5.heap.size + 2 ≤ A.heap.size
  lo : ∀ k, k < w5.heap.size → A.heap[k]? = w5.heap[k]?
  os : A.os = w5.os
  tape : A.tape = w5.tape
  output : A.output = w5.output
theorem NilI.keep {w5 A C : World} {F : Nat → Prop} (h : NilI w5 A) (hm : Mod F A C) (hF : ∀ j, j < A.heap.size → F j → w5.heap.size ≤ j) : NilI w5 C :=
  ⟨Nat.le_trans h.size hm.size, fun k hk => (hm.block k (by have := h.size; omega) (fun hf => by have := hF k (by have := h.size; omega) hf; omega)).trans (h.lo k hk), hm.os.trans h.os, hm.tape.trans h.tape, hm.output.trans h.output⟩
theorem eql_nil5 (p : Nat) (w : World) : Sem.run Tryd.prog (binOp BinOp.eql 35 (.func (.func 38) #[] #[.pointer (some ⟨p + 2, 0, none⟩), .pointer (some ⟨p + 1, 0, none⟩)]) .nilFunc) w = .ok (.bool false) w := by kernel_rfl

attribute [local go_sem] Oper.semAt_some
set_option maxRecDepth 100000 in
set_option maxHeartbeats 8000000 in
theorem walk_CollectNil (v0 : Value) (w : World) (o0 : ∃ A n cap L, v0 = .slice A n cap ∧ WRow (· < w.heap.size) w A n cap L ∧ n ≤ 140737488351232) (hS : Spans w) :
    Calls Tryd.prog 3 #[v0] w fun e w' => e = .returned (.bool true) ∧ Below w.heap.size w w' := by
  obtain ⟨A, n, cap, L, rfl, hR, hn⟩ := o0
  refine (callsIn_wide (n := 6)).1 ?_
  obtain ⟨w1, hw1⟩ : ∃ w1, w1 = w.alloc (.cells #[.bool false] 4) := ⟨_, rfl⟩
  have b1 : Below w.heap.size w w1 := by rw [hw1]; exact (Below.refl _ _).alloc (Nat.le_refl _) _
  have g1 : w1.heap[w.heap.size]? = some (.cells #[.bool false] 4 (0, 0)) := by rw [hw1]; exact block_alloc _ _
  have HB1 := Lib.hid (And.intro b1 g1)
  have HR := Lib.hid hR
  have HS := Lib.hid hS
  have HL := Lib.hid hR.len
  clear b1 g1 hR hS
  refine callsIn_of_wp_marks Tryd.func3 rfl trivial ?_ rfl
  simp only [Tryd.ntmps3, List.size_toArray, List.length_cons, List.length_nil, Nat.reduceAdd, Nat.reduceSub, Array.replicate_succ, Array.replicate_zero, List.push_toArray, List.append_toArray, List.nil_append, List.cons_append]
  gi_wp2_with fail
  rw [← hw1]
  clear hw1
  refine ⟨trivial, ?_⟩
  gi_at_call 4
  refine (callsIn_wide.2 (great5_any none A 0 0 n cap [] L w1 (MRow.nil _ _) (HR.out.later HB1.out.1) hn)).mono ?_
  rintro e w2 ⟨b, rfl, hb, b2⟩
  have HB2 := Lib.hid (HB1.out.1.trans (b2.mono HB1.out.1.size))
  have HG2 : Hid (w2.heap[w.heap.size]? = some (.cells #[.bool false] 4 (0, 0))) := (b2.block _ (heap_lt HB1.out.2)).trans HB1.out.2
  have HSM := Lib.hid hb
  clear b2 hb
  cases b with
  | true =>
    gi_wp2_with fail
    refine ⟨trivial, ?_⟩
    gi_at_call 5
    refine (callsIn_wide.2 (wakes5_ok w2 (HS.out.below HB2.out HS.out.lt))).mono ?_
    rintro e w3 ⟨rfl, b3⟩
    have g3 := (b3.block _ (heap_lt HG2.out)).trans HG2.out
    have y0 : w3.cell? ⟨w.heap.size, 0, none⟩ = some (.bool false) := cell_of_row g3 rfl
    have yf0 : w3.frozen? ⟨w.heap.size, 0, none⟩ = false := free_of_row g3
    have h4 : (w3.setCell ⟨w.heap.size, 0, none⟩ (.bool true)).cell? ⟨w.heap.size, 0, none⟩ = some (.bool true) := cell_of_row (set_row (.bool true) g3) rfl
    have HB3 : Hid (Below w.heap.size w (w3.setCell ⟨w.heap.size, 0, none⟩ (.bool true))) := (HB2.out.trans (b3.mono HB2.out.size)).setCell (Nat.le_refl _) _
    clear b3 g3
    gi_wp2_with fail
    exact ⟨.bool true, by simp [results, Tryd.f3, go_sem, h4], rfl, HB3.out⟩
  | false =>
    have hsm := HSM.out rfl
    have hnL : n ≤ 1000000 := by have := hsm.1; have := HL.out; simp at *; omega
    clear hsm
    gi_wp2_with fail
    refine ⟨trivial, ?_⟩
    gi_at_call 7
    refine (callsIn_wide.2 (words5_any (· < w2.heap.size) A n cap L w2 (HR.out.later HB2.out) (fun _ h => h) hnL)).mono ?_
    rintro e w3 ⟨A3, cap3, rfl, -, b3⟩
    have HB3 := Lib.hid (HB2.out.trans (b3.mono HB2.out.size))
    have HG3 : Hid (w3.heap[w.heap.size]? = some (.cells #[.bool false] 4 (0, 0))) := (b3.block _ (heap_lt HG2.out)).trans HG2.out
    clear b3
    gi_wp2_with fail
    refine ⟨trivial, ?_⟩
    gi_at_call 6
    refine (callsIn_wide.2 (Run_nil A3 n cap3 w3)).mono ?_
    rintro e w3' ⟨rfl, hq⟩
    subst w3'
    gi_wp2_with fail
    refine ⟨trivial, ?_⟩
    gi_at_call 7
    refine (callsIn_wide.2 (words5_any (· < w3.heap.size) A n cap L w3 (HR.out.later HB3.out) (fun _ h => h) hnL)).mono ?_
    rintro e w4 ⟨A4, cap4, rfl, -, b4⟩
    have HB4 := Lib.hid (HB3.out.trans (b4.mono HB3.out.size))
    have HG4 : Hid (w4.heap[w.heap.size]? = some (.cells #[.bool false] 4 (0, 0))) := (b4.block _ (heap_lt HG3.out)).trans HG3.out
    clear b4
    gi_wp2_with fail
    refine ⟨trivial, ?_⟩
    gi_at_call 8
    refine (callsIn_wide.2 (Reached_nil A4 n cap4 w4)).mono ?_
    rintro e w4' ⟨rfl, hq⟩
    subst w4'
    gi_wp2_with fail
    refine ⟨trivial, ?_⟩
    gi_at_call 9
    refine (callsIn_wide.2 (Cells_any none 0 w4 ((Len_nil w4).mono (fun e w' h => ⟨h.1, h.2 ▸ Below.refl _ _⟩)))).mono ?_
    rintro e w5 ⟨p, b5, hp1, hp2, rfl, q0, q1, q2⟩
    have HB5 := Lib.hid (HB4.out.trans (b5.mono HB4.out.size))
    have HG5 : Hid (w5.heap[w.heap.size]? = some (.cells #[.bool false] 4 (0, 0))) := (b5.block _ (heap_lt HG4.out)).trans HG4.out
    have hlw : w.heap.size < p := by have := heap_lt HG4.out; omega
    have HSEQ : Hid (SeqQ (6 - 1) Tryd.prog 38 #[.pointer (some ⟨p + 2, 0, none⟩), .pointer (some ⟨p + 1, 0, none⟩)] encC (fun k => k < w5.heap.size) (CellE (fun _ _ => False)) (fun xs => xs.map (·.1) = []) (fun pre => ∃ k, pre.map (·.1) = ([] : List Nat).take k) w5) :=
      cells5_seq _ _ (p + 1) (p + 2) _ _ _ [] _ w5 (enters_of Tryd.func39 (by kernel_rfl) rfl) (fun k hk => hk) (heap_lt q1) (heap_lt q2) q1 q2 (fun m V hV _ => by
        have h := below5_seq m (fun k => k < w5.heap.size) p 0 V ((hV p (heap_lt q0)).trans q0) (by omega)
        exact h) (fun a ha => by cases ha)
    have HLW := Lib.hid (And.intro hlw (And.intro hp1 hp2))
    have hnil := eql_nil5 p w5
    clear b5 hp1 hp2 q0 q1 q2 hlw
    gi_wp2_with fail
    have hI0 : ∀ d r, NilI w5 ((w5.alloc d).alloc r) := fun d r => ⟨by simp, fun k hk => (Below.heap_alloc _ _ _ (by simp; omega)).trans (Below.heap_alloc _ _ _ hk), rfl, rfl, rfl⟩
    refine range_q (α := CI) (gf := 38) (lb := #[.pointer (some ⟨p + 2, 0, none⟩), .pointer (some ⟨p + 1, 0, none⟩)]) rfl (enters_of Tryd.func38 (by kernel_rfl) rfl) (fun _ => rfl) HSEQ.out (fun k hk => hk)
      (fun k C => w5.heap.size + 2 ≤ k ∧ k < C.heap.size) (fun k C h => ⟨h.2, h.1⟩) (fun k C D F _ h hm _ => ⟨h.1, Nat.lt_of_lt_of_le h.2 hm.size⟩)
      (fun _ C => NilI w5 C) (fun _ _ _ => False) (fun _ C o h hs => ⟨hs, by simp⟩) (fun _ C D F _ h hm hF => h.keep hm (fun j hj hf => by rcases hF j hj hf with h | h | h <;> omega)) (fun _ _ _ _ _ _ h _ _ => h) hI0
      (fun x X Y _ h => h.1.elim) (fun _ _ _ => False) (fun _ _ _ _ _ h => h) ?assign ?body ?done ?stop
    case assign =>
      intro l2 pre x V K _ h
      exact h.1.elim
    case body =>
      intro l2 pre x a' V _ h
      exact h.1.elim
    case stop =>
      intro c pre V _ h
      exact h.elim
    case done =>
      rintro xs V - hi hd
      have hb5 := HB5.out
      have hbV : Below w.heap.size w V := ⟨hi.os.trans hb5.os, hi.tape.trans hb5.tape, hi.output.trans hb5.output, Nat.le_trans hb5.size (by have := hi.size; omega), fun k hk => (hi.lo k (Nat.lt_of_lt_of_le hk hb5.size)).trans (hb5.block k hk)⟩
      have gV : V.heap[w.heap.size]? = some (.cells #[.bool false] 4 (0, 0)) := (hi.lo _ (heap_lt HG5.out)).trans HG5.out
      have HBV := Lib.hid hbV
      have HGV := Lib.hid gV
      have HD := Lib.hid hd
      have HLT := Lib.hid (heap_lt HG5.out)
      clear hi hb5 hbV gV hd hI0
      gi_wp2_with fail
      refine ⟨trivial, ?_⟩
      gi_at_call 5
      refine (callsIn_wide.2 (wakes5_ok V (HS.out.below HBV.out HS.out.lt))).mono ?_
      rintro e w6 ⟨rfl, b6⟩
      have g6 := (b6.block _ (heap_lt HGV.out)).trans HGV.out
      have y0 : w6.cell? ⟨w.heap.size, 0, none⟩ = some (.bool false) := cell_of_row g6 rfl
      have yf0 : w6.frozen? ⟨w.heap.size, 0, none⟩ = false := free_of_row g6
      have h4 := set_row (i := 0) (.bool true) g6
      have hd6 := (b6.block _ (heap_lt HD.out)).trans HD.out
      have hd7 : (w6.setCell ⟨w.heap.size, 0, none⟩ (.bool true)).heap[w5.heap.size]? = some (.deferred (some [])) := (Below.heap_setCell _ _ _ _ (fun e => by have := HLT.out; simp at e; omega)).trans hd6
      have h5 : ((w6.setCell ⟨w.heap.size, 0, none⟩ (.bool true)).putObj w5.heap.size (.deferred none)).cell? ⟨w.heap.size, 0, none⟩ = some (.bool true) := cell_of_row ((World.putObj_heap_other (by have := HLT.out; omega)).trans h4) rfl
      have hB7 : Below w.heap.size w ((w6.setCell ⟨w.heap.size, 0, none⟩ (.bool true)).putObj w5.heap.size (.deferred none)) :=
        ((HBV.out.trans (b6.mono HBV.out.size)).setCell (Nat.le_refl _) _).trans ((Mod.putObj (F := fun k => k = w5.heap.size) _ _ _ rfl).below (by simp [World.setCell]; have := HBV.out.size; have := b6.size; omega) (fun k (e : k = w5.heap.size) => by have := HLT.out; omega))
      have HB7 := Lib.hid hB7
      clear b6 g6 h4 hd6 hB7
      gi_wp2_with fail
      refine ⟨by simp, .inl ⟨_, _, rfl, run_takeDeferred hd7, ?_⟩⟩
      exact ⟨.bool true, by simp [results, Tryd.f3, go_sem, h5], rfl, HB7.out⟩
end Go.Proofs.YtgdkhmamjhdfdaaDoor
