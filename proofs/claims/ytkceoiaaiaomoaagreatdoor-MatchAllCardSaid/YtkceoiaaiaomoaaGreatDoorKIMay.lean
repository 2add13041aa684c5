/- Contracts of ints.May and ints.told. -/
import Derived.Test.YtkceoiaaiaomoaaGreatDoorKBnd
import Derived.WalkKit
import Derived.Lib.Hide
import Derived.WalkLawsBesides
import Derived.WalkSpells
import Derived.Outline
import Derived.LoopTactic
import Derived.Laws.Rows
import Derived.MapKept
import Derived.StillTailTactics
import Derived.Deep.RegionWith
import Derived.RangeFuncNested
import Derived.RangeFuncBound
import Derived.RangeFuncCalls
import Derived.RangeFuncLeaves
import Derived.RangeFuncBox
import Derived.Shelf.Abstract
import Derived.Shelf.RegionOpen
import Derived.OwnWalkIn
import Derived.TacticsInMore
import Derived.LoopNIn
import Derived.LoopIn
section
set_option linter.unusedVariables false
namespace Go.Proofs.YtkceoiaaiaomoaaGreatDoor
open Go.RowKit

def spansRow : Array Value := #[.int .u8 97, .int .u8 122, .int .u8 2, .int .u8 65, .int .u8 90, .int .u8 3, .int .u8 95, .int .u8 95, .int .u8 3, .int .u8 48, .int .u8 57, .int .u8 1]

def Spans (w : World) : Prop := ∃ t fr, w.heap[3]? = some (.cells spansRow t fr)
theorem Spans.lt {w : World} (h : Spans w) : 3 < w.heap.size := by obtain ⟨t, fr, h⟩ := h; exact (Array.getElem?_eq_some_iff.1 h).1
theorem Spans.below {w w' : World} (h : Spans w) {B : Nat} (hb : Below B w w') (hB : 3 < B) : Spans w' := by
  obtain ⟨t, fr, h⟩ := h
  exact ⟨t, fr, (hb.block 3 hB).trans h⟩

def kindN (b : Int) : Int := if 97 ≤ b ∧ b ≤ 122 then 2 else if 65 ≤ b ∧ b ≤ 90 then 3 else if b = 95 then 3 else if 48 ≤ b ∧ b ≤ 57 then 1 else 0

theorem kind_a {b : Int} (h : 97 ≤ b) (h' : b ≤ 122) : kindN b = 2 := by unfold kindN; rw [if_pos ⟨h, h'⟩]
theorem kind_A {b : Int} (h0 : b < 97 ∨ 122 < b) (h : 65 ≤ b) (h' : b ≤ 90) : kindN b = 3 := by unfold kindN; rw [if_neg (by omega), if_pos ⟨h, h'⟩]
theorem kind_u {b : Int} (h0 : b < 97 ∨ 122 < b) (h1 : b < 65 ∨ 90 < b) (h : 95 ≤ b) (h' : b ≤ 95) : kindN b = 3 := by unfold kindN; rw [if_neg (by omega), if_neg (by omega), if_pos (by omega)]
theorem kind_d {b : Int} (h0 : b < 97 ∨ 122 < b) (h1 : b < 65 ∨ 90 < b) (h2 : b < 95 ∨ 95 < b) (h : 48 ≤ b) (h' : b ≤ 57) : kindN b = 1 := by unfold kindN; rw [if_neg (by omega), if_neg (by omega), if_neg (by omega), if_pos ⟨h, h'⟩]
theorem kind_no {b : Int} (h0 : b < 97 ∨ 122 < b) (h1 : b < 65 ∨ 90 < b) (h2 : b < 95 ∨ 95 < b) (h3 : b < 48 ∨ 57 < b) : kindN b = 0 := by unfold kindN; rw [if_neg (by omega), if_neg (by omega), if_neg (by omega), if_neg (by omega)]

theorem spans_0 (w : World) : (Instr.index 252 (.agg spansRow) (.int .i64 0)).run Tryz.prog w = .ok (.agg #[.int .u8 97, .int .u8 122, .int .u8 2]) w := by kernel_rfl
theorem spans_1 (w : World) : (Instr.index 252 (.agg spansRow) (.int .i64 1)).run Tryz.prog w = .ok (.agg #[.int .u8 65, .int .u8 90, .int .u8 3]) w := by kernel_rfl
theorem spans_2 (w : World) : (Instr.index 252 (.agg spansRow) (.int .i64 2)).run Tryz.prog w = .ok (.agg #[.int .u8 95, .int .u8 95, .int .u8 3]) w := by kernel_rfl
theorem spans_3 (w : World) : (Instr.index 252 (.agg spansRow) (.int .i64 3)).run Tryz.prog w = .ok (.agg #[.int .u8 48, .int .u8 57, .int .u8 1]) w := by kernel_rfl

set_option maxRecDepth 100000 in
set_option maxHeartbeats 2000000 in
theorem kindOf_any (b : Int) (h0 : 0 ≤ b) (h1 : b ≤ 255) (w : World) (hs : Spans w) :
    Calls Tryz.prog 196 #[.int .u8 b] w fun e w' => e = .returned (.int .u8 (kindN b)) ∧ Below w.heap.size w w' := by
  obtain ⟨t, fr, hrow⟩ := hs
  go_enter Tryz.func196, Tryz.ntmps196
  go_wp2_with (refine wpList_load_row rfl _ _ rfl 3 rfl _ _ _ _ hrow Tryz.underlying252 rfl (by kernel_rfl) ?_)
  have s0 := spans_0
  have s1 := spans_1
  have s2 := spans_2
  have s3 := spans_3
  go_loopw [6] (fun i wr => ∃ k : Nat, k ≤ 4 ∧ i = .int .i64 k ∧ Below w.heap.size w wr ∧ Hid (1 ≤ k → b < 97 ∨ 122 < b) ∧ Hid (2 ≤ k → b < 65 ∨ 90 < b) ∧ Hid (3 ≤ k → b < 95 ∨ 95 < b) ∧ Hid (4 ≤ k → b < 48 ∨ 57 < b)) (fun i _ => 4 - (intOf i).toNat)
  case atStart => exact ⟨0, by omega, rfl, Below.refl _ _, fun h => by omega, fun h => by omega, fun h => by omega, fun h => by omega⟩
  case round =>
    obtain ⟨k, hk, rfl, hb, k1, k2, k3, k4⟩ := hrel
    have h4 : k = 0 ∨ k = 1 ∨ k = 2 ∨ k = 3 ∨ k = 4 := by omega
    have hsz := hb.size
    have h0 : (wr.heap)[3]? = some (.cells spansRow t fr) := (hb.block 3 (Array.getElem?_eq_some_iff.1 hrow).1).trans hrow
    clear h0
    have HB := Lib.hid hb
    clear hb
    rcases h4 with rfl | rfl | rfl | rfl | rfl
    · go_wp2
      · go_ret
        exact ⟨ret_int (kind_a (by assumption) (by assumption)).symm, HB.out.alloc hsz _⟩
      · exact ⟨⟨1, by omega, rfl, HB.out.alloc hsz _, fun _ => by omega, fun h => by omega, fun h => by omega, fun h => by omega⟩, by simp [intOf]⟩
      · exact ⟨⟨1, by omega, rfl, HB.out.alloc hsz _, fun _ => by omega, fun h => by omega, fun h => by omega, fun h => by omega⟩, by simp [intOf]⟩
    · have c1 := k1.out (by omega)
      have C1 := Lib.hid c1
      clear c1
      go_wp2
      · go_ret
        exact ⟨ret_int (kind_A C1.out (by assumption) (by assumption)).symm, HB.out.alloc hsz _⟩
      · exact ⟨⟨2, by omega, rfl, HB.out.alloc hsz _, fun _ => C1.out, fun h => by omega, fun h => by omega, fun h => by omega⟩, by simp [intOf]⟩
      · exact ⟨⟨2, by omega, rfl, HB.out.alloc hsz _, fun _ => C1.out, fun h => by omega, fun h => by omega, fun h => by omega⟩, by simp [intOf]⟩
    · have C1 := Lib.hid (k1.out (by omega))
      have C2 := Lib.hid (k2.out (by omega))
      go_wp2
      · go_ret
        exact ⟨ret_int (kind_u C1.out C2.out (by assumption) (by assumption)).symm, HB.out.alloc hsz _⟩
      · exact ⟨⟨3, by omega, rfl, HB.out.alloc hsz _, fun _ => C1.out, fun _ => C2.out, fun h => by omega, fun h => by omega⟩, by simp [intOf]⟩
      · exact ⟨⟨3, by omega, rfl, HB.out.alloc hsz _, fun _ => C1.out, fun _ => C2.out, fun h => by omega, fun h => by omega⟩, by simp [intOf]⟩
    · have C1 := Lib.hid (k1.out (by omega))
      have C2 := Lib.hid (k2.out (by omega))
      have C3 := Lib.hid (k3.out (by omega))
      go_wp2
      · go_ret
        exact ⟨ret_int (kind_d C1.out C2.out C3.out (by assumption) (by assumption)).symm, HB.out.alloc hsz _⟩
      · exact ⟨⟨4, by omega, rfl, HB.out.alloc hsz _, fun _ => C1.out, fun _ => C2.out, fun _ => C3.out, fun h => by omega⟩, by simp [intOf]⟩
      · exact ⟨⟨4, by omega, rfl, HB.out.alloc hsz _, fun _ => C1.out, fun _ => C2.out, fun _ => C3.out, fun h => by omega⟩, by simp [intOf]⟩
    · have C1 := Lib.hid (k1.out (by omega))
      have C2 := Lib.hid (k2.out (by omega))
      have C3 := Lib.hid (k3.out (by omega))
      have C4 := Lib.hid (k4.out (by omega))
      go_wp2
      go_ret
      exact ⟨ret_int (kind_no C1.out C2.out C3.out C4.out).symm, HB.out⟩
end Go.Proofs.YtkceoiaaiaomoaaGreatDoor
set_option linter.unusedVariables false
namespace Go.Proofs.YtkceoiaaiaomoaaGreatDoor
open Go.RowKit Go.Shelf
attribute [local go_sem] Oper.semAt_some

def upto {α : Type} (f : Nat → α) (k : Nat) : List α := (List.range k).map f
theorem upto_succ {α : Type} (f : Nat → α) (k : Nat) : upto f (k + 1) = upto f k ++ [f k] := by simp [upto, List.range_succ]
theorem upto_length {α : Type} (f : Nat → α) (k : Nat) : (upto f k).length = k := by simp [upto]
theorem mem_upto {α : Type} {f : Nat → α} {k j : Nat} (h : j < k) : f j ∈ upto f k := by simp only [upto, List.mem_map, List.mem_range]; exact ⟨j, h, rfl⟩

def kd (s : ByteArray) (j : Nat) : Int := kindN ((s.data.toList[j]?.getD 0).toNat : Int)
theorem kd_at (s : ByteArray) (j : Nat) (h : j < s.size) : kindN ((s[j]).toNat : Int) = kd s j := by
  unfold kd
  have hl : j < s.data.toList.length := by simpa using h
  rw [List.getElem?_eq_getElem hl]
  rfl

theorem grown_of_below {W W' : World} (h : Below W.heap.size W W') : W.grownBy W' none := ⟨h.os, h.tape, h.output, h.size, fun k hk _ => h.block k hk⟩

set_option maxHeartbeats 1000000 in
theorem kinds_in (s : ByteArray) (n : Nat) (w : World) :
    CallsIn Fence.wide n Tryz.prog 234 #[.string s] w fun e w' => e = .returned (.func (.func 283) #[] #[.pointer (some ⟨w.heap.size, 0, none⟩)]) ∧ w' = w.alloc (.cells #[.string s] 9) := by
  refine callsIn_of_wp Tryz.func234 rfl trivial ?_ rfl
  simp only [Tryz.ntmps234, List.size_toArray, List.length_cons, List.length_nil, Nat.reduceAdd, Nat.reduceSub, Array.replicate_succ, Array.replicate_zero, List.push_toArray, List.append_toArray, List.nil_append, List.cons_append]
  gi_wp2
  go_ret
  exact ⟨rfl, rfl⟩

set_option maxRecDepth 100000 in
set_option maxHeartbeats 2000000 in
theorem kinds1_in (n : Nat) (hn : 1 ≤ n) (l Bs n₀ : Nat) (s : ByteArray) (hsz : s.size ≤ maxLen) (hb : Bs < n₀) (hg0 : 3 < n₀) (J Jx : List (Nat × Int) → World → Prop)
    (hJa : ∀ pre W W', J pre W → Below W.heap.size W W' → J pre W')
    (hY : ∀ pre x W, J pre W → pre.length < s.size → YieldAt Fence.wide (n - 1) Tryz.prog l #[.int .i64 (x.1 : Int), .int .u8 x.2] W fun e W' =>
      (e = .returned (.bool true) ∧ J (pre ++ [x]) W' ∧ Below n₀ W W') ∨ (e = .returned (.bool false) ∧ Jx (pre ++ [x]) W'))
    (W : World) (hS : Spans W) (hn0 : n₀ ≤ W.heap.size) (hBs : W.cell? ⟨Bs, 0, none⟩ = some (.string s)) (h0 : J [] W) :
    CallsIn Fence.wide n Tryz.prog 283 #[.func (.yield l) #[] #[], .pointer (some ⟨Bs, 0, none⟩)] W fun e W' => (∃ v, e = .returned v) ∧
      ((∃ ys, ys = upto (fun j => (j, kd s j)) s.size ∧ J ys W') ∨ (∃ pre, (∃ k, k ≤ s.size ∧ pre = upto (fun j => (j, kd s j)) k) ∧ Jx pre W')) := by
  unfold maxLen at hsz
  have H0 := Lib.hid hn0
  clear hn0
  refine callsIn_of_wp Tryz.func283 rfl trivial ?_ rfl
  simp only [Tryz.ntmps283, List.size_toArray, List.length_cons, List.length_nil, Nat.reduceAdd, Nat.reduceSub, Array.replicate_succ, Array.replicate_zero, List.push_toArray, List.append_toArray, List.nil_append, List.cons_append]
  gi_wp2
  gi_loopw [6] (fun i wr => ∃ k : Nat, k ≤ s.size ∧ i = .int .i64 k ∧ J (upto (fun j => (j, kd s j)) k) wr ∧ Below n₀ W wr)
    (fun i _ => s.size - (intOf i).toNat)
  case atStart => exact ⟨0, Nat.zero_le _, rfl, h0, Below.refl _ _⟩
  case round =>
    obtain ⟨k, hk, rfl, hJs, hnx⟩ := hrel
    have hcx : wr.cell? ⟨Bs, 0, none⟩ = some (.string s) := (hnx.cell (p := ⟨Bs, 0, none⟩) hb).trans hBs
    have hSr : Spans wr := hS.below hnx hg0
    have hszr : n₀ ≤ wr.heap.size := Nat.le_trans H0.out hnx.size
    by_cases hlt : k < s.size
    · have hkd := Lib.hid (kd_at s k hlt)
      gi_wp2_with fail
      refine ⟨trivial, ?_⟩
      gi_at_call 196
      refine (callsIn_wide.2 (kindOf_any _ (Int.natCast_nonneg _) (by have := (s[k]'hlt).toNat_lt; omega) _ hSr)).mono ?_
      rintro e w1 ⟨rfl, hb1⟩
      obtain ⟨fn, tmps, assign, body, hy, hR⟩ := hY _ (k, kd s k) w1 (hJa _ _ _ hJs hb1) (by rw [upto_length]; exact hlt)
      dsimp only at hy
      rw [← hkd.out] at hy
      gi_wp2
      refine hR.mono ?_
      rintro e W3 (⟨rfl, hJ3, hk3⟩ | ⟨rfl, hJx3⟩)
      · gi_wp2
        go_roundw
        case rel => exact ⟨k + 1, by omega, by simp, by rw [upto_succ]; exact hJ3, hnx.trans ((hb1.mono hszr).trans hk3)⟩
        case measure => simp [intOf]; omega
      · gi_wp2
        refine bodyPost_ret (results_none rfl _ _ _) rfl ?_
        exact ⟨⟨_, rfl⟩, .inr ⟨_, ⟨k + 1, by omega, (upto_succ _ _).symm⟩, hJx3⟩⟩
    · obtain rfl : k = s.size := by omega
      gi_wp2
      go_end0
      exact ⟨⟨_, rfl⟩, .inl ⟨_, rfl, hJs⟩⟩

theorem kinds_stops (n : Nat) (hn : 1 ≤ n) (Bs n₀ : Nat) (s : ByteArray) (hsz : s.size ≤ maxLen) (w : World) (hb : Bs < n₀) (hg0 : 3 < n₀) (hn₀ : n₀ ≤ w.heap.size) (hS : Spans w) (hc : w.cell? ⟨Bs, 0, none⟩ = some (.string s)) :
    SeqStopsK Fence.wide n Tryz.prog 283 #[.pointer (some ⟨Bs, 0, none⟩)] (fun x : Nat × Int => #[Value.int .i64 (x.1 : Int), Value.int .u8 x.2]) (Below n₀)
      (fun ys => ys = upto (fun j => (j, kd s j)) s.size) (fun pre => ∃ k, k ≤ s.size ∧ pre = upto (fun j => (j, kd s j)) k) s.size w := fun l J Jx W hW hJ _ hY h0 =>
  kinds1_in n hn l Bs n₀ s hsz hb hg0 J Jx (fun pre A B h hAB => hJ pre A B none h (grown_of_below hAB) (fun r e => by cases e)) hY W (hS.below hW (Nat.lt_of_lt_of_le hg0 hn₀)) (Nat.le_trans hn₀ hW.size) ((hW.cell (p := ⟨Bs, 0, none⟩) (show Bs < w.heap.size by omega)).trans hc) h0

def prefL : List UInt8 → Nat
  | [] => 0
  | c :: l => if kindN (c.toNat : Int) = 0 then 0 else prefL l + 1
def prefN (s : ByteArray) : Nat := prefL s.data.toList
theorem prefL_eq (l : List UInt8) (k : Nat) (hk : k ≤ l.length) (h : ∀ j, j < k → kindN ((l[j]?.getD 0).toNat : Int) ≠ 0) (he : k = l.length ∨ (k < l.length ∧ kindN ((l[k]?.getD 0).toNat : Int) = 0)) : prefL l = k := by
  induction l generalizing k with
  | nil => simp at hk; subst hk; rfl
  | cons c l ih =>
    cases k with
    | zero =>
      rcases he with he | ⟨_, he⟩
      · simp at he
      · simp at he; rw [prefL, if_pos he]
    | succ k =>
      have h0 := h 0 (by omega)
      simp at h0
      have hE : k = l.length ∨ (k < l.length ∧ kindN ((l[k]?.getD 0).toNat : Int) = 0) := by
        rcases he with he | ⟨h1, he⟩
        · exact .inl (by simpa using he)
        · exact .inr ⟨by simpa using h1, by simpa using he⟩
      rw [prefL, if_neg h0, ih k (by simpa using hk) (fun j hj => by have := h (j + 1) (by omega); simpa using this) hE]
theorem prefN_eq (s : ByteArray) (k : Nat) (hk : k ≤ s.size) (h : ∀ j, j < k → kd s j ≠ 0) (he : k = s.size ∨ (k < s.size ∧ kd s k = 0)) : prefN s = k := by
  have hl : s.data.toList.length = s.size := by rw [Array.length_toList]; rfl
  exact prefL_eq _ k (by rw [hl]; exact hk) h (by rw [hl]; exact he)

set_option maxRecDepth 100000 in
set_option maxHeartbeats 2000000 in
theorem Prefix_any (s : ByteArray) (hsz : s.size ≤ maxLen) (w : World) (hS : Spans w) :
    Calls Tryz.prog 197 #[.string s] w fun e w' => e = .returned (.int .i64 (prefN s)) ∧ Below w.heap.size w w' := by
  refine (callsIn_wide (n := 3)).1 ?_
  refine callsIn_of_wp_marks Tryz.func197 rfl trivial ?_ rfl
  simp only [Tryz.ntmps197, List.size_toArray, List.length_cons, List.length_nil, Nat.reduceAdd, Nat.reduceSub, Array.replicate_succ, Array.replicate_zero, List.push_toArray, List.append_toArray, List.nil_append, List.cons_append]
  gi_wp2_with (refine ⟨trivial, ?_⟩; gi_at_call 234; refine (kinds_in _ _ _).mono ?_; rintro e w' ⟨rfl, rfl⟩)
  have bR := Boxed.new w 3 (.int .i64 0)
  have bN := Boxed.new (w.alloc (.cells #[.int .i64 0] 3)) 9 (.string s)
  rw [World.size_alloc] at bN
  have hB0 : Below w.heap.size w ((w.alloc (.cells #[.int .i64 0] 3)).alloc (.cells #[.string s] 9)) := ((Below.refl _ w).alloc (Nat.le_refl _) _).alloc (by simp) _
  refine wpIn_rangeFunc_ownG rfl (by decide) (gf := 283) (lb := #[.pointer (some ⟨w.heap.size + 1, 0, none⟩)]) rfl trivial (enters_of Tryz.func283 (by kernel_rfl) rfl)
    (kinds_stops (3 - 1) (by decide) (w.heap.size + 1) (w.heap.size + 2) s hsz _ (by omega) (Nat.lt_of_lt_of_le hS.lt (by omega)) (by simp) (hS.below hB0 hS.lt) bN.cell) belowK_t (belowK_b (by simp)) (Below.refl _ _) (fun _ => rfl)
    (fun pre W => ((∀ p ∈ pre, p.2 ≠ 0) ∧ W.cell? ⟨w.heap.size, 0, none⟩ = some (.int .i64 0) ∧ W.frozen? ⟨w.heap.size, 0, none⟩ = false) ∧ Below w.heap.size w W)
    (fun c pre W => (c = .ret ∧ ∃ ini last, pre = ini ++ [last] ∧ (∀ p ∈ ini, p.2 ≠ 0) ∧ last.2 = 0 ∧ W.cell? ⟨w.heap.size, 0, none⟩ = some (.int .i64 (last.1 : Int))) ∧ Below w.heap.size w W)
    (OwnFrom.and (Own.from (fun s A B row hs hg hr => ⟨hs.1, cell_kept hs.2.1 hg hr, (frozen_kept hs.2.1 hg hr).trans hs.2.2⟩) _) (ownFrom_below (Nat.le_refl _) (by simp; omega)))
    (fun c => OwnFrom.and (Own.from (fun s A B row hs hg hr => by obtain ⟨hc, ini, last, e1, e2, e3, e4⟩ := hs; exact ⟨hc, ini, last, e1, e2, e3, cell_kept e4 hg hr⟩) _) (ownFrom_below (Nat.le_refl _) (by simp; omega)))
    ⟨⟨by simp, (bR.alloc _).cell, (bR.alloc _).frozen⟩, hB0⟩
    (fun x => { tmps := #[.string s, undef, .pointer (some ⟨w.heap.size, 0, none⟩), .int .i64 (x.1 : Int), .int .u8 x.2, .string s, .func (.func 283) #[] #[.pointer (some ⟨w.heap.size + 1, 0, none⟩)], .int .i64 (x.1 : Int), .int .u8 x.2, undef, undef, undef, undef, undef], defers := [] }) ?assign ?body ?done ?stop
  case assign =>
    intro l x W K hK
    gi_wp2
    exact hK
  case body =>
    rintro l pre x W ⟨⟨hp, hcr, hfr⟩, hB⟩ _
    cases hx : (x.2 == 0)
    · have hx0 : x.2 ≠ 0 := by simpa using hx
      have HX := Lib.hid hx0
      clear hx0
      gi_wp2
      exact ⟨KeepsFrom.refl _ _, Below.refl _ _, ⟨fun p hp' => (List.mem_append.1 hp').elim (hp p) (fun e => by simp at e; subst e; exact HX.out), hcr, hfr⟩, hB⟩
    · have hx0 : x.2 = 0 := by simpa using hx
      have HX := Lib.hid hx0
      clear hx0
      gi_wp2
      exact ⟨(KeepsOthers.setCell _ _ _).from _, ⟨rfl, pre, x, rfl, hp, HX.out, World.cell?_setCell_same' _ _ _ (by rw [hcr]; rfl)⟩, hB.setCell (p := ⟨w.heap.size, 0, none⟩) (Nat.le_refl _) _⟩
  case done =>
    rintro D ys W hD rfl ⟨⟨hne, hcr, hfr⟩, hB⟩ hK
    gi_wp2
    have hK' := (KeepsOthers.setCell W ⟨w.heap.size, 0, none⟩ (.int .i64 (s.size : Int))).same D _ hK rfl
    refine ⟨by simp, .inl ⟨_, _, rfl, run_takeDeferred hK', ?_⟩⟩
    have hc5 := cell_kept (World.cell?_setCell_same' W ⟨w.heap.size, 0, none⟩ (.int .i64 (s.size : Int)) (by rw [hcr]; rfl)) (grownBy_putObj' _ D (.deferred none)) (fun r e => by cases e; exact ⟨_, hK', rfl⟩)
    refine ⟨.int .i64 (s.size : Int), ?_, ?_, (hB.setCell (p := ⟨w.heap.size, 0, none⟩) (Nat.le_refl _) _).trans (belowK_b (w := w) (Nat.le_refl _) _ D _ _ (by simp at hD; omega) hK' rfl rfl)⟩
    · simp [results, Tryz.f197, go_sem, hc5]
    · exact ret_int (by rw [prefN_eq s s.size (Nat.le_refl _) (fun j hj => hne (j, kd s j) (mem_upto hj)) (.inl rfl)])
  case stop =>
    rintro D c pre W hD ⟨k, hk, rfl⟩ ⟨⟨rfl, ini, last, e1, e2, e3, hcr⟩, hB⟩ hK
    gi_wp2
    refine ⟨by simp, .inl ⟨_, _, rfl, run_takeDeferred hK, ?_⟩⟩
    have hc5 := cell_kept hcr (grownBy_putObj' _ D (.deferred none)) (fun r e => by cases e; exact ⟨_, hK, rfl⟩)
    obtain ⟨k', rfl⟩ : ∃ k', k = k' + 1 := by
      cases k with
      | zero => simp [upto] at e1
      | succ k' => exact ⟨k', rfl⟩
    rw [upto_succ] at e1
    obtain ⟨rfl, e5⟩ := List.append_inj' e1 rfl
    obtain rfl : (k', kd s k') = last := by simpa using e5
    refine ⟨.int .i64 (k' : Int), ?_, ?_, hB.trans (belowK_b (w := w) (Nat.le_refl _) W D _ _ (by simp at hD; omega) hK rfl rfl)⟩
    · simp [results, Tryz.f197, go_sem, hc5]
    · exact ret_int (by rw [prefN_eq s k' (by omega) (fun j hj => e2 (j, kd s j) (mem_upto hj)) (.inr ⟨by omega, e3⟩)])

theorem no_iff {p : Prop} (h : ¬ p) : (false = true ↔ p) := ⟨(fun e => by cases e), fun e => (h e).elim⟩

def nameB (s : ByteArray) (k : Int) : Bool := decide (1 ≤ s.size ∧ s.size ≤ 32 ∧ kd s 0 = k ∧ prefN s = s.size)

theorem prefL_le (l : List UInt8) : prefL l ≤ l.length := by
  induction l with
  | nil => simp [prefL]
  | cons c l ih => rw [prefL]; split <;> simp <;> omega
theorem prefN_le (s : ByteArray) : prefN s ≤ s.size := by
  have hl : s.data.toList.length = s.size := by rw [Array.length_toList]; rfl
  have := prefL_le s.data.toList
  rw [hl] at this
  exact this

set_option maxHeartbeats 1000000 in
theorem named_any (s : ByteArray) (hsz : s.size ≤ maxLen) (k : Int) (hk0 : 0 ≤ k) (hk : k ≤ 255) (w : World) (hS : Spans w) :
    Calls Tryz.prog 127 #[.string s, .int .u8 k] w fun e w' => e = .returned (.bool (nameB s k)) ∧ Below w.heap.size w w' := by
  have HB : ∀ b : Bool, (b = true ↔ (1 ≤ s.size ∧ s.size ≤ 32 ∧ kd s 0 = k ∧ prefN s = s.size)) → nameB s k = b := fun b h => by
    unfold nameB; rw [Bool.eq_iff_iff, decide_eq_true_eq]; exact h.symm
  have HH := Lib.hid HB
  clear HB
  have hl : s.toList.length = s.size := by rw [ByteArray.toList_eq]; rw [Array.length_toList]; rfl
  by_cases h0 : s.size = 0
  · have he : s.toList = [] := List.eq_nil_of_length_eq_zero (by omega)
    have hf := HH.out false (no_iff (by omega))
    have HF := Lib.hid hf
    clear hf hl h0
    go_enter Tryz.func127, Tryz.ntmps127
    go_wp2
    go_ret
    exact ⟨ret_bool HF.out.symm, Below.refl _ _⟩
  · have hpos : 0 < s.size := by omega
    have hne : ¬ s.toList = [] := fun e => by rw [e] at hl; simp at hl; omega
    have hne2 : s.toList.isEmpty = false := by cases hx : s.toList <;> simp_all
    clear hl h0
    by_cases h32 : s.size ≤ 32
    · have hat := kd_at s 0 hpos
      have hsz0 : s.size ≤ maxLen := hsz
      have HZ := Lib.hid hsz0
      clear hsz hsz0
      cases hk1 : (kindN ((s[0]).toNat : Int) == k)
      · have hf := HH.out false (by
          constructor
          · intro h; cases h
          · rintro ⟨_, _, h, _⟩; rw [hat, h] at hk1; simp at hk1)
        have HF := Lib.hid hf
        clear hf hat
        go_enter Tryz.func127, Tryz.ntmps127
        go_wp2_with fail
        refine (kindOf_any _ (Int.natCast_nonneg _) (by have := (s[0]'hpos).toNat_lt; omega) _ hS).mono ?_
        rintro e w1 ⟨rfl, hb1⟩
        go_wp2_with fail
        go_ret
        exact ⟨ret_bool HF.out.symm, hb1⟩
      · have hK : kd s 0 = k := by rw [← hat]; simpa using hk1
        have HK := Lib.hid hK
        have hp := prefN_le s
        clear hat hK
        go_enter Tryz.func127, Tryz.ntmps127
        go_wp2_with fail
        refine (kindOf_any _ (Int.natCast_nonneg _) (by have := (s[0]'hpos).toNat_lt; omega) _ hS).mono ?_
        rintro e w1 ⟨rfl, hb1⟩
        go_wp2_with fail
        refine (Prefix_any s HZ.out _ (hS.below hb1 hS.lt)).mono ?_
        rintro e w2 ⟨rfl, hb2⟩
        go_wp2_with fail
        go_ret
        refine ⟨ret_bool ?_, hb1.trans (hb2.mono hb1.size)⟩
        refine (HH.out _ ?_).symm
        simp [h32, HK.out]
        omega
    · have hf := HH.out false (no_iff (by omega))
      have HF := Lib.hid hf
      clear hf
      go_enter Tryz.func127, Tryz.ntmps127
      go_wp2
      go_ret
      exact ⟨ret_bool HF.out.symm, Below.refl _ _⟩

theorem May_any (s : ByteArray) (hsz : s.size ≤ maxLen) (w : World) (hS : Spans w) :
    Calls Tryz.prog 284 #[.string s] w fun e w' => e = .returned (.bool (nameB s 2)) ∧ Below w.heap.size w w' := by
  have HZ := Lib.hid hsz
  clear hsz
  go_enter Tryz.func284, Tryz.ntmps284
  go_wp2_with fail
  refine (named_any s HZ.out 2 (by decide) (by decide) _ hS).mono ?_
  rintro e w1 ⟨rfl, hb1⟩
  go_wp2_with fail
  go_ret
  exact ⟨rfl, hb1⟩

theorem Name_any (s : ByteArray) (hsz : s.size ≤ maxLen) (w : World) (hS : Spans w) :
    Calls Tryz.prog 75 #[.string s] w fun e w' => e = .returned (.bool (nameB s 3)) ∧ Below w.heap.size w w' := by
  have HZ := Lib.hid hsz
  clear hsz
  go_enter Tryz.func75, Tryz.ntmps75
  go_wp2_with fail
  refine (named_any s HZ.out 3 (by decide) (by decide) _ hS).mono ?_
  rintro e w1 ⟨rfl, hb1⟩
  go_wp2_with fail
  go_ret
  exact ⟨rfl, hb1⟩
end Go.Proofs.YtkceoiaaiaomoaaGreatDoor
end
section
namespace Go.Proofs.YtkceoiaaiaomoaaGreatDoor
open Go.RowKit

def mayB (n : Int) : Bool := decide (-576460752303423488 ≤ n ∧ n ≤ 576460752303423487)
def fit (n : Int) : Int × Int := if mayB n = true then (n, 0) else (0, 11)
def sPlus : ByteArray := ⟨#[43]⟩
def sMinus : ByteArray := ⟨#[45]⟩
def sTimes : ByteArray := ⟨#[42]⟩
def sDiv : ByteArray := ⟨#[100, 105, 118]⟩
def sRem : ByteArray := ⟨#[114, 101, 109]⟩

def doR (s : ByteArray) (a b : Int) : Int × Int :=
  if mayB a = false ∨ mayB b = false then (0, 2)
  else if s = sPlus then fit (a + b)
  else if s = sMinus then fit (a - b)
  else if s = sTimes then fit (a * b)
  else if s = sDiv then (if b = 0 then (0, 10) else fit (a.tdiv b))
  else if s = sRem then (if b = 0 then (0, 10) else fit (a.tmod b))
  else (0, 2)

end Go.Proofs.YtkceoiaaiaomoaaGreatDoor
end
section
set_option linter.unusedVariables false
namespace Go.Proofs.YtkceoiaaiaomoaaGreatDoor
open Go.RowKit

theorem IMay_any (n : Int) (w : World) : Calls Tryz.prog 263 #[.int .i64 n] w fun e w' => e = .returned (.bool (mayB n)) ∧ w = w' := by
  have hd : mayB n = (decide (-576460752303423488 ≤ n) && decide (n ≤ 576460752303423487)) := by unfold mayB; rw [Bool.eq_iff_iff]; simp
  have H := Lib.hid hd
  clear hd
  by_cases h1 : -576460752303423488 ≤ n
  · go_enter Tryz.func263, Tryz.ntmps263
    go_wp2
    go_ret
    exact ⟨ret_bool (by rw [H.out]; simp [h1]), rfl⟩
  · go_enter Tryz.func263, Tryz.ntmps263
    go_wp2
    go_ret
    exact ⟨ret_bool (by rw [H.out]; simp; omega), rfl⟩

end Go.Proofs.YtkceoiaaiaomoaaGreatDoor
end
