/- Nothing of its own. -/
import Derived.Test.YtdimcddbmccniaaGreatDoorKCd1
import Derived.Test.YtdimcddbmccniaaGreatDoorRows
import Derived.WalkKit
import Derived.Lib.Hide
import Derived.WalkLawsBesides
import Derived.WalkSpells
import Derived.Outline
import Derived.LoopTactic
import Derived.Laws.Rows
import Derived.MapKept
import Derived.StillTailTactics
import Derived.Deep.RegionWith
import Derived.RangeFuncNested
import Derived.RangeFuncBound
import Derived.RangeFuncCalls
import Derived.RangeFuncLeaves
import Derived.RangeFuncBox
import Derived.Shelf.Abstract
import Derived.Shelf.RegionOpen
import Derived.OwnWalkIn
import Derived.TacticsInMore
import Derived.LoopNIn
import Derived.LoopIn
import Derived.IntWalk
import Derived.Lib.Strings
import Derived.ProofKit
section
set_option linter.unusedVariables false
namespace Go.Proofs.YtdimcddbmccniaaGreatDoor
open Go.RowKit

def spansRow : Array Value := #[.int .u8 97, .int .u8 122, .int .u8 2, .int .u8 65, .int .u8 90, .int .u8 3, .int .u8 95, .int .u8 95, .int .u8 3, .int .u8 48, .int .u8 57, .int .u8 1]

def Spans (w : World) : Prop := ∃ t fr, w.heap[3]? = some (.cells spansRow t fr)
theorem Spans.lt {w : World} (h : Spans w) : 3 < w.heap.size := by obtain ⟨t, fr, h⟩ := h; exact (Array.getElem?_eq_some_iff.1 h).1
theorem Spans.below {w w' : World} (h : Spans w) {B : Nat} (hb : Below B w w') (hB : 3 < B) : Spans w' := by
  obtain ⟨t, fr, h⟩ := h
  exact ⟨t, fr, (hb.block 3 hB).trans h⟩

def kindN (b : Int) : Int := if 97 ≤ b ∧ b ≤ 122 then 2 else if 65 ≤ b ∧ b ≤ 90 then 3 else if b = 95 then 3 else if 48 ≤ b ∧ b ≤ 57 then 1 else 0

theorem kind_a {b : Int} (h : 97 ≤ b) (h' : b ≤ 122) : kindN b = 2 := by unfold kindN; rw [if_pos ⟨h, h'⟩]
theorem kind_A {b : Int} (h0 : b < 97 ∨ 122 < b) (h : 65 ≤ b) (h' : b ≤ 90) : kindN b = 3 := by unfold kindN; rw [if_neg (by omega), if_pos ⟨h, h'⟩]
theorem kind_u {b : Int} (h0 : b < 97 ∨ 122 < b) (h1 : b < 65 ∨ 90 < b) (h : 95 ≤ b) (h' : b ≤ 95) : kindN b = 3 := by unfold kindN; rw [if_neg (by omega), if_neg (by omega), if_pos (by omega)]
theorem kind_d {b : Int} (h0 : b < 97 ∨ 122 < b) (h1 : b < 65 ∨ 90 < b) (h2 : b < 95 ∨ 95 < b) (h : 48 ≤ b) (h' : b ≤ 57) : kindN b = 1 := by unfold kindN; rw [if_neg (by omega), if_neg (by omega), if_neg (by omega), if_pos ⟨h, h'⟩]
theorem kind_no {b : Int} (h0 : b < 97 ∨ 122 < b) (h1 : b < 65 ∨ 90 < b) (h2 : b < 95 ∨ 95 < b) (h3 : b < 48 ∨ 57 < b) : kindN b = 0 := by unfold kindN; rw [if_neg (by omega), if_neg (by omega), if_neg (by omega), if_neg (by omega)]

theorem spans_0 (w : World) : (Instr.index 242 (.agg spansRow) (.int .i64 0)).run Tryz.prog w = .ok (.agg #[.int .u8 97, .int .u8 122, .int .u8 2]) w := by kernel_rfl
theorem spans_1 (w : World) : (Instr.index 242 (.agg spansRow) (.int .i64 1)).run Tryz.prog w = .ok (.agg #[.int .u8 65, .int .u8 90, .int .u8 3]) w := by kernel_rfl
theorem spans_2 (w : World) : (Instr.index 242 (.agg spansRow) (.int .i64 2)).run Tryz.prog w = .ok (.agg #[.int .u8 95, .int .u8 95, .int .u8 3]) w := by kernel_rfl
theorem spans_3 (w : World) : (Instr.index 242 (.agg spansRow) (.int .i64 3)).run Tryz.prog w = .ok (.agg #[.int .u8 48, .int .u8 57, .int .u8 1]) w := by kernel_rfl

set_option maxRecDepth 100000 in
set_option maxHeartbeats 2000000 in
theorem kindOf_any (b : Int) (h0 : 0 ≤ b) (h1 : b ≤ 255) (w : World) (hs : Spans w) :
    Calls Tryz.prog 200 #[.int .u8 b] w fun e w' => e = .returned (.int .u8 (kindN b)) ∧ Below w.heap.size w w' := by
  obtain ⟨t, fr, hrow⟩ := hs
  go_enter Tryz.func200, Tryz.ntmps200
  go_wp2_with (refine wpList_load_row rfl _ _ rfl 3 rfl _ _ _ _ hrow Tryz.underlying242 rfl (by kernel_rfl) ?_)
  have s0 := spans_0
  have s1 := spans_1
  have s2 := spans_2
  have s3 := spans_3
  go_loopw [6] (fun i wr => ∃ k : Nat, k ≤ 4 ∧ i = .int .i64 k ∧ Below w.heap.size w wr ∧ Hid (1 ≤ k → b < 97 ∨ 122 < b) ∧ Hid (2 ≤ k → b < 65 ∨ 90 < b) ∧ Hid (3 ≤ k → b < 95 ∨ 95 < b) ∧ Hid (4 ≤ k → b < 48 ∨ 57 < b)) (fun i _ => 4 - (intOf i).toNat)
  case atStart => exact ⟨0, by omega, rfl, Below.refl _ _, fun h => by omega, fun h => by omega, fun h => by omega, fun h => by omega⟩
  case round =>
    obtain ⟨k, hk, rfl, hb, k1, k2, k3, k4⟩ := hrel
    have h4 : k = 0 ∨ k = 1 ∨ k = 2 ∨ k = 3 ∨ k = 4 := by omega
    have hsz := hb.size
    have h0 : (wr.heap)[3]? = some (.cells spansRow t fr) := (hb.block 3 (Array.getElem?_eq_some_iff.1 hrow).1).trans hrow
    clear h0
    have HB := Lib.hid hb
    clear hb
    rcases h4 with rfl | rfl | rfl | rfl | rfl
    · go_wp2
      · go_ret
        exact ⟨ret_int (kind_a (by assumption) (by assumption)).symm, HB.out.alloc hsz _⟩
      · exact ⟨⟨1, by omega, rfl, HB.out.alloc hsz _, fun _ => by omega, fun h => by omega, fun h => by omega, fun h => by omega⟩, by simp [intOf]⟩
      · exact ⟨⟨1, by omega, rfl, HB.out.alloc hsz _, fun _ => by omega, fun h => by omega, fun h => by omega, fun h => by omega⟩, by simp [intOf]⟩
    · have c1 := k1.out (by omega)
      have C1 := Lib.hid c1
      clear c1
      go_wp2
      · go_ret
        exact ⟨ret_int (kind_A C1.out (by assumption) (by assumption)).symm, HB.out.alloc hsz _⟩
      · exact ⟨⟨2, by omega, rfl, HB.out.alloc hsz _, fun _ => C1.out, fun h => by omega, fun h => by omega, fun h => by omega⟩, by simp [intOf]⟩
      · exact ⟨⟨2, by omega, rfl, HB.out.alloc hsz _, fun _ => C1.out, fun h => by omega, fun h => by omega, fun h => by omega⟩, by simp [intOf]⟩
    · have C1 := Lib.hid (k1.out (by omega))
      have C2 := Lib.hid (k2.out (by omega))
      go_wp2
      · go_ret
        exact ⟨ret_int (kind_u C1.out C2.out (by assumption) (by assumption)).symm, HB.out.alloc hsz _⟩
      · exact ⟨⟨3, by omega, rfl, HB.out.alloc hsz _, fun _ => C1.out, fun _ => C2.out, fun h => by omega, fun h => by omega⟩, by simp [intOf]⟩
      · exact ⟨⟨3, by omega, rfl, HB.out.alloc hsz _, fun _ => C1.out, fun _ => C2.out, fun h => by omega, fun h => by omega⟩, by simp [intOf]⟩
    · have C1 := Lib.hid (k1.out (by omega))
      have C2 := Lib.hid (k2.out (by omega))
      have C3 := Lib.hid (k3.out (by omega))
      go_wp2
      · go_ret
        exact ⟨ret_int (kind_d C1.out C2.out C3.out (by assumption) (by assumption)).symm, HB.out.alloc hsz _⟩
      · exact ⟨⟨4, by omega, rfl, HB.out.alloc hsz _, fun _ => C1.out, fun _ => C2.out, fun _ => C3.out, fun h => by omega⟩, by simp [intOf]⟩
      · exact ⟨⟨4, by omega, rfl, HB.out.alloc hsz _, fun _ => C1.out, fun _ => C2.out, fun _ => C3.out, fun h => by omega⟩, by simp [intOf]⟩
    · have C1 := Lib.hid (k1.out (by omega))
      have C2 := Lib.hid (k2.out (by omega))
      have C3 := Lib.hid (k3.out (by omega))
      have C4 := Lib.hid (k4.out (by omega))
      go_wp2
      go_ret
      exact ⟨ret_int (kind_no C1.out C2.out C3.out C4.out).symm, HB.out⟩
end Go.Proofs.YtdimcddbmccniaaGreatDoor
set_option linter.unusedVariables false
namespace Go.Proofs.YtdimcddbmccniaaGreatDoor
open Go.RowKit Go.Shelf
attribute [local go_sem] Oper.semAt_some

def upto {α : Type} (f : Nat → α) (k : Nat) : List α := (List.range k).map f
theorem upto_succ {α : Type} (f : Nat → α) (k : Nat) : upto f (k + 1) = upto f k ++ [f k] := by simp [upto, List.range_succ]
theorem upto_length {α : Type} (f : Nat → α) (k : Nat) : (upto f k).length = k := by simp [upto]
theorem mem_upto {α : Type} {f : Nat → α} {k j : Nat} (h : j < k) : f j ∈ upto f k := by simp only [upto, List.mem_map, List.mem_range]; exact ⟨j, h, rfl⟩

def kd (s : ByteArray) (j : Nat) : Int := kindN ((s.data.toList[j]?.getD 0).toNat : Int)
theorem kd_at (s : ByteArray) (j : Nat) (h : j < s.size) : kindN ((s[j]).toNat : Int) = kd s j := by
  unfold kd
  have hl : j < s.data.toList.length := by simpa using h
  rw [List.getElem?_eq_getElem hl]
  rfl

theorem grown_of_below {W W' : World} (h : Below W.heap.size W W') : W.grownBy W' none := ⟨h.os, h.tape, h.output, h.size, fun k hk _ => h.block k hk⟩

set_option maxHeartbeats 1000000 in
theorem kinds_in (s : ByteArray) (n : Nat) (w : World) :
    CallsIn Fence.wide n Tryz.prog 230 #[.string s] w fun e w' => e = .returned (.func (.func 260) #[] #[.pointer (some ⟨w.heap.size, 0, none⟩)]) ∧ w' = w.alloc (.cells #[.string s] 9) := by
  refine callsIn_of_wp Tryz.func230 rfl trivial ?_ rfl
  simp only [Tryz.ntmps230, List.size_toArray, List.length_cons, List.length_nil, Nat.reduceAdd, Nat.reduceSub, Array.replicate_succ, Array.replicate_zero, List.push_toArray, List.append_toArray, List.nil_append, List.cons_append]
  gi_wp2
  go_ret
  exact ⟨rfl, rfl⟩

set_option maxRecDepth 100000 in
set_option maxHeartbeats 2000000 in
theorem kinds1_in (n : Nat) (hn : 1 ≤ n) (l Bs n₀ : Nat) (s : ByteArray) (hsz : s.size ≤ maxLen) (hb : Bs < n₀) (hg0 : 3 < n₀) (J Jx : List (Nat × Int) → World → Prop)
    (hJa : ∀ pre W W', J pre W → Below W.heap.size W W' → J pre W')
    (hY : ∀ pre x W, J pre W → pre.length < s.size → YieldAt Fence.wide (n - 1) Tryz.prog l #[.int .i64 (x.1 : Int), .int .u8 x.2] W fun e W' =>
      (e = .returned (.bool true) ∧ J (pre ++ [x]) W' ∧ Below n₀ W W') ∨ (e = .returned (.bool false) ∧ Jx (pre ++ [x]) W'))
    (W : World) (hS : Spans W) (hn0 : n₀ ≤ W.heap.size) (hBs : W.cell? ⟨Bs, 0, none⟩ = some (.string s)) (h0 : J [] W) :
    CallsIn Fence.wide n Tryz.prog 260 #[.func (.yield l) #[] #[], .pointer (some ⟨Bs, 0, none⟩)] W fun e W' => (∃ v, e = .returned v) ∧
      ((∃ ys, ys = upto (fun j => (j, kd s j)) s.size ∧ J ys W') ∨ (∃ pre, (∃ k, k ≤ s.size ∧ pre = upto (fun j => (j, kd s j)) k) ∧ Jx pre W')) := by
  unfold maxLen at hsz
  have H0 := Lib.hid hn0
  clear hn0
  refine callsIn_of_wp Tryz.func260 rfl trivial ?_ rfl
  simp only [Tryz.ntmps260, List.size_toArray, List.length_cons, List.length_nil, Nat.reduceAdd, Nat.reduceSub, Array.replicate_succ, Array.replicate_zero, List.push_toArray, List.append_toArray, List.nil_append, List.cons_append]
  gi_wp2
  gi_loopw [6] (fun i wr => ∃ k : Nat, k ≤ s.size ∧ i = .int .i64 k ∧ J (upto (fun j => (j, kd s j)) k) wr ∧ Below n₀ W wr)
    (fun i _ => s.size - (intOf i).toNat)
  case atStart => exact ⟨0, Nat.zero_le _, rfl, h0, Below.refl _ _⟩
  case round =>
    obtain ⟨k, hk, rfl, hJs, hnx⟩ := hrel
    have hcx : wr.cell? ⟨Bs, 0, none⟩ = some (.string s) := (hnx.cell (p := ⟨Bs, 0, none⟩) hb).trans hBs
    have hSr : Spans wr := hS.below hnx hg0
    have hszr : n₀ ≤ wr.heap.size := Nat.le_trans H0.out hnx.size
    by_cases hlt : k < s.size
    · have hkd := Lib.hid (kd_at s k hlt)
      gi_wp2_with fail
      refine ⟨trivial, ?_⟩
      gi_at_call 200
      refine (callsIn_wide.2 (kindOf_any _ (Int.natCast_nonneg _) (by have := (s[k]'hlt).toNat_lt; omega) _ hSr)).mono ?_
      rintro e w1 ⟨rfl, hb1⟩
      obtain ⟨fn, tmps, assign, body, hy, hR⟩ := hY _ (k, kd s k) w1 (hJa _ _ _ hJs hb1) (by rw [upto_length]; exact hlt)
      dsimp only at hy
      rw [← hkd.out] at hy
      gi_wp2
      refine hR.mono ?_
      rintro e W3 (⟨rfl, hJ3, hk3⟩ | ⟨rfl, hJx3⟩)
      · gi_wp2
        go_roundw
        case rel => exact ⟨k + 1, by omega, by simp, by rw [upto_succ]; exact hJ3, hnx.trans ((hb1.mono hszr).trans hk3)⟩
        case measure => simp [intOf]; omega
      · gi_wp2
        refine bodyPost_ret (results_none rfl _ _ _) rfl ?_
        exact ⟨⟨_, rfl⟩, .inr ⟨_, ⟨k + 1, by omega, (upto_succ _ _).symm⟩, hJx3⟩⟩
    · obtain rfl : k = s.size := by omega
      gi_wp2
      go_end0
      exact ⟨⟨_, rfl⟩, .inl ⟨_, rfl, hJs⟩⟩

theorem kinds_stops (n : Nat) (hn : 1 ≤ n) (Bs n₀ : Nat) (s : ByteArray) (hsz : s.size ≤ maxLen) (w : World) (hb : Bs < n₀) (hg0 : 3 < n₀) (hn₀ : n₀ ≤ w.heap.size) (hS : Spans w) (hc : w.cell? ⟨Bs, 0, none⟩ = some (.string s)) :
    SeqStopsK Fence.wide n Tryz.prog 260 #[.pointer (some ⟨Bs, 0, none⟩)] (fun x : Nat × Int => #[Value.int .i64 (x.1 : Int), Value.int .u8 x.2]) (Below n₀)
      (fun ys => ys = upto (fun j => (j, kd s j)) s.size) (fun pre => ∃ k, k ≤ s.size ∧ pre = upto (fun j => (j, kd s j)) k) s.size w := fun l J Jx W hW hJ _ hY h0 =>
  kinds1_in n hn l Bs n₀ s hsz hb hg0 J Jx (fun pre A B h hAB => hJ pre A B none h (grown_of_below hAB) (fun r e => by cases e)) hY W (hS.below hW (Nat.lt_of_lt_of_le hg0 hn₀)) (Nat.le_trans hn₀ hW.size) ((hW.cell (p := ⟨Bs, 0, none⟩) (show Bs < w.heap.size by omega)).trans hc) h0

def prefL : List UInt8 → Nat
  | [] => 0
  | c :: l => if kindN (c.toNat : Int) = 0 then 0 else prefL l + 1
def prefN (s : ByteArray) : Nat := prefL s.data.toList
theorem prefL_eq (l : List UInt8) (k : Nat) (hk : k ≤ l.length) (h : ∀ j, j < k → kindN ((l[j]?.getD 0).toNat : Int) ≠ 0) (he : k = l.length ∨ (k < l.length ∧ kindN ((l[k]?.getD 0).toNat : Int) = 0)) : prefL l = k := by
  induction l generalizing k with
  | nil => simp at hk; subst hk; rfl
  | cons c l ih =>
    cases k with
    | zero =>
      rcases he with he | ⟨_, he⟩
      · simp at he
      · simp at he; rw [prefL, if_pos he]
    | succ k =>
      have h0 := h 0 (by omega)
      simp at h0
      have hE : k = l.length ∨ (k < l.length ∧ kindN ((l[k]?.getD 0).toNat : Int) = 0) := by
        rcases he with he | ⟨h1, he⟩
        · exact .inl (by simpa using he)
        · exact .inr ⟨by simpa using h1, by simpa using he⟩
      rw [prefL, if_neg h0, ih k (by simpa using hk) (fun j hj => by have := h (j + 1) (by omega); simpa using this) hE]
theorem prefN_eq (s : ByteArray) (k : Nat) (hk : k ≤ s.size) (h : ∀ j, j < k → kd s j ≠ 0) (he : k = s.size ∨ (k < s.size ∧ kd s k = 0)) : prefN s = k := by
  have hl : s.data.toList.length = s.size := by rw [Array.length_toList]; rfl
  exact prefL_eq _ k (by rw [hl]; exact hk) h (by rw [hl]; exact he)

set_option maxRecDepth 100000 in
set_option maxHeartbeats 2000000 in
theorem Prefix_any (s : ByteArray) (hsz : s.size ≤ maxLen) (w : World) (hS : Spans w) :
    Calls Tryz.prog 201 #[.string s] w fun e w' => e = .returned (.int .i64 (prefN s)) ∧ Below w.heap.size w w' := by
  refine (callsIn_wide (n := 3)).1 ?_
  refine callsIn_of_wp_marks Tryz.func201 rfl trivial ?_ rfl
  simp only [Tryz.ntmps201, List.size_toArray, List.length_cons, List.length_nil, Nat.reduceAdd, Nat.reduceSub, Array.replicate_succ, Array.replicate_zero, List.push_toArray, List.append_toArray, List.nil_append, List.cons_append]
  gi_wp2_with (refine ⟨trivial, ?_⟩; gi_at_call 230; refine (kinds_in _ _ _).mono ?_; rintro e w' ⟨rfl, rfl⟩)
  have bR := Boxed.new w 3 (.int .i64 0)
  have bN := Boxed.new (w.alloc (.cells #[.int .i64 0] 3)) 9 (.string s)
  rw [World.size_alloc] at bN
  have hB0 : Below w.heap.size w ((w.alloc (.cells #[.int .i64 0] 3)).alloc (.cells #[.string s] 9)) := ((Below.refl _ w).alloc (Nat.le_refl _) _).alloc (by simp) _
  refine wpIn_rangeFunc_ownG rfl (by decide) (gf := 260) (lb := #[.pointer (some ⟨w.heap.size + 1, 0, none⟩)]) rfl trivial (enters_of Tryz.func260 (by kernel_rfl) rfl)
    (kinds_stops (3 - 1) (by decide) (w.heap.size + 1) (w.heap.size + 2) s hsz _ (by omega) (Nat.lt_of_lt_of_le hS.lt (by omega)) (by simp) (hS.below hB0 hS.lt) bN.cell) belowK_t (belowK_b (by simp)) (Below.refl _ _) (fun _ => rfl)
    (fun pre W => ((∀ p ∈ pre, p.2 ≠ 0) ∧ W.cell? ⟨w.heap.size, 0, none⟩ = some (.int .i64 0) ∧ W.frozen? ⟨w.heap.size, 0, none⟩ = false) ∧ Below w.heap.size w W)
    (fun c pre W => (c = .ret ∧ ∃ ini last, pre = ini ++ [last] ∧ (∀ p ∈ ini, p.2 ≠ 0) ∧ last.2 = 0 ∧ W.cell? ⟨w.heap.size, 0, none⟩ = some (.int .i64 (last.1 : Int))) ∧ Below w.heap.size w W)
    (OwnFrom.and (Own.from (fun s A B row hs hg hr => ⟨hs.1, cell_kept hs.2.1 hg hr, (frozen_kept hs.2.1 hg hr).trans hs.2.2⟩) _) (ownFrom_below (Nat.le_refl _) (by simp; omega)))
    (fun c => OwnFrom.and (Own.from (fun s A B row hs hg hr => by obtain ⟨hc, ini, last, e1, e2, e3, e4⟩ := hs; exact ⟨hc, ini, last, e1, e2, e3, cell_kept e4 hg hr⟩) _) (ownFrom_below (Nat.le_refl _) (by simp; omega)))
    ⟨⟨by simp, (bR.alloc _).cell, (bR.alloc _).frozen⟩, hB0⟩
    (fun x => { tmps := #[.string s, undef, .pointer (some ⟨w.heap.size, 0, none⟩), .int .i64 (x.1 : Int), .int .u8 x.2, .string s, .func (.func 260) #[] #[.pointer (some ⟨w.heap.size + 1, 0, none⟩)], .int .i64 (x.1 : Int), .int .u8 x.2, undef, undef, undef, undef, undef], defers := [] }) ?assign ?body ?done ?stop
  case assign =>
    intro l x W K hK
    gi_wp2
    exact hK
  case body =>
    rintro l pre x W ⟨⟨hp, hcr, hfr⟩, hB⟩ _
    cases hx : (x.2 == 0)
    · have hx0 : x.2 ≠ 0 := by simpa using hx
      have HX := Lib.hid hx0
      clear hx0
      gi_wp2
      exact ⟨KeepsFrom.refl _ _, Below.refl _ _, ⟨fun p hp' => (List.mem_append.1 hp').elim (hp p) (fun e => by simp at e; subst e; exact HX.out), hcr, hfr⟩, hB⟩
    · have hx0 : x.2 = 0 := by simpa using hx
      have HX := Lib.hid hx0
      clear hx0
      gi_wp2
      exact ⟨(KeepsOthers.setCell _ _ _).from _, ⟨rfl, pre, x, rfl, hp, HX.out, World.cell?_setCell_same' _ _ _ (by rw [hcr]; rfl)⟩, hB.setCell (p := ⟨w.heap.size, 0, none⟩) (Nat.le_refl _) _⟩
  case done =>
    rintro D ys W hD rfl ⟨⟨hne, hcr, hfr⟩, hB⟩ hK
    gi_wp2
    have hK' := (KeepsOthers.setCell W ⟨w.heap.size, 0, none⟩ (.int .i64 (s.size : Int))).same D _ hK rfl
    refine ⟨by simp, .inl ⟨_, _, rfl, run_takeDeferred hK', ?_⟩⟩
    have hc5 := cell_kept (World.cell?_setCell_same' W ⟨w.heap.size, 0, none⟩ (.int .i64 (s.size : Int)) (by rw [hcr]; rfl)) (grownBy_putObj' _ D (.deferred none)) (fun r e => by cases e; exact ⟨_, hK', rfl⟩)
    refine ⟨.int .i64 (s.size : Int), ?_, ?_, (hB.setCell (p := ⟨w.heap.size, 0, none⟩) (Nat.le_refl _) _).trans (belowK_b (w := w) (Nat.le_refl _) _ D _ _ (by simp at hD; omega) hK' rfl rfl)⟩
    · simp [results, Tryz.f201, go_sem, hc5]
    · exact ret_int (by rw [prefN_eq s s.size (Nat.le_refl _) (fun j hj => hne (j, kd s j) (mem_upto hj)) (.inl rfl)])
  case stop =>
    rintro D c pre W hD ⟨k, hk, rfl⟩ ⟨⟨rfl, ini, last, e1, e2, e3, hcr⟩, hB⟩ hK
    gi_wp2
    refine ⟨by simp, .inl ⟨_, _, rfl, run_takeDeferred hK, ?_⟩⟩
    have hc5 := cell_kept hcr (grownBy_putObj' _ D (.deferred none)) (fun r e => by cases e; exact ⟨_, hK, rfl⟩)
    obtain ⟨k', rfl⟩ : ∃ k', k = k' + 1 := by
      cases k with
      | zero => simp [upto] at e1
      | succ k' => exact ⟨k', rfl⟩
    rw [upto_succ] at e1
    obtain ⟨rfl, e5⟩ := List.append_inj' e1 rfl
    obtain rfl : (k', kd s k') = last := by simpa using e5
    refine ⟨.int .i64 (k' : Int), ?_, ?_, hB.trans (belowK_b (w := w) (Nat.le_refl _) W D _ _ (by simp at hD; omega) hK rfl rfl)⟩
    · simp [results, Tryz.f201, go_sem, hc5]
    · exact ret_int (by rw [prefN_eq s k' (by omega) (fun j hj => e2 (j, kd s j) (mem_upto hj)) (.inr ⟨by omega, e3⟩)])

theorem no_iff {p : Prop} (h : ¬ p) : (false = true ↔ p) := ⟨(fun e => by cases e), fun e => (h e).elim⟩

def nameB (s : ByteArray) (k : Int) : Bool := decide (1 ≤ s.size ∧ s.size ≤ 32 ∧ kd s 0 = k ∧ prefN s = s.size)

theorem prefL_le (l : List UInt8) : prefL l ≤ l.length := by
  induction l with
  | nil => simp [prefL]
  | cons c l ih => rw [prefL]; split <;> simp <;> omega
theorem prefN_le (s : ByteArray) : prefN s ≤ s.size := by
  have hl : s.data.toList.length = s.size := by rw [Array.length_toList]; rfl
  have := prefL_le s.data.toList
  rw [hl] at this
  exact this

set_option maxHeartbeats 1000000 in
theorem named_any (s : ByteArray) (hsz : s.size ≤ maxLen) (k : Int) (hk0 : 0 ≤ k) (hk : k ≤ 255) (w : World) (hS : Spans w) :
    Calls Tryz.prog 144 #[.string s, .int .u8 k] w fun e w' => e = .returned (.bool (nameB s k)) ∧ Below w.heap.size w w' := by
  have HB : ∀ b : Bool, (b = true ↔ (1 ≤ s.size ∧ s.size ≤ 32 ∧ kd s 0 = k ∧ prefN s = s.size)) → nameB s k = b := fun b h => by
    unfold nameB; rw [Bool.eq_iff_iff, decide_eq_true_eq]; exact h.symm
  have HH := Lib.hid HB
  clear HB
  have hl : s.toList.length = s.size := by rw [ByteArray.toList_eq]; rw [Array.length_toList]; rfl
  by_cases h0 : s.size = 0
  · have he : s.toList = [] := List.eq_nil_of_length_eq_zero (by omega)
    have hf := HH.out false (no_iff (by omega))
    have HF := Lib.hid hf
    clear hf hl h0
    go_enter Tryz.func144, Tryz.ntmps144
    go_wp2
    go_ret
    exact ⟨ret_bool HF.out.symm, Below.refl _ _⟩
  · have hpos : 0 < s.size := by omega
    have hne : ¬ s.toList = [] := fun e => by rw [e] at hl; simp at hl; omega
    have hne2 : s.toList.isEmpty = false := by cases hx : s.toList <;> simp_all
    clear hl h0
    by_cases h32 : s.size ≤ 32
    · have hat := kd_at s 0 hpos
      have hsz0 : s.size ≤ maxLen := hsz
      have HZ := Lib.hid hsz0
      clear hsz hsz0
      cases hk1 : (kindN ((s[0]).toNat : Int) == k)
      · have hf := HH.out false (by
          constructor
          · intro h; cases h
          · rintro ⟨_, _, h, _⟩; rw [hat, h] at hk1; simp at hk1)
        have HF := Lib.hid hf
        clear hf hat
        go_enter Tryz.func144, Tryz.ntmps144
        go_wp2_with fail
        refine (kindOf_any _ (Int.natCast_nonneg _) (by have := (s[0]'hpos).toNat_lt; omega) _ hS).mono ?_
        rintro e w1 ⟨rfl, hb1⟩
        go_wp2_with fail
        go_ret
        exact ⟨ret_bool HF.out.symm, hb1⟩
      · have hK : kd s 0 = k := by rw [← hat]; simpa using hk1
        have HK := Lib.hid hK
        have hp := prefN_le s
        clear hat hK
        go_enter Tryz.func144, Tryz.ntmps144
        go_wp2_with fail
        refine (kindOf_any _ (Int.natCast_nonneg _) (by have := (s[0]'hpos).toNat_lt; omega) _ hS).mono ?_
        rintro e w1 ⟨rfl, hb1⟩
        go_wp2_with fail
        refine (Prefix_any s HZ.out _ (hS.below hb1 hS.lt)).mono ?_
        rintro e w2 ⟨rfl, hb2⟩
        go_wp2_with fail
        go_ret
        refine ⟨ret_bool ?_, hb1.trans (hb2.mono hb1.size)⟩
        refine (HH.out _ ?_).symm
        simp [h32, HK.out]
        omega
    · have hf := HH.out false (no_iff (by omega))
      have HF := Lib.hid hf
      clear hf
      go_enter Tryz.func144, Tryz.ntmps144
      go_wp2
      go_ret
      exact ⟨ret_bool HF.out.symm, Below.refl _ _⟩

theorem May_any (s : ByteArray) (hsz : s.size ≤ maxLen) (w : World) (hS : Spans w) :
    Calls Tryz.prog 105 #[.string s] w fun e w' => e = .returned (.bool (nameB s 2)) ∧ Below w.heap.size w w' := by
  have HZ := Lib.hid hsz
  clear hsz
  go_enter Tryz.func105, Tryz.ntmps105
  go_wp2_with fail
  refine (named_any s HZ.out 2 (by decide) (by decide) _ hS).mono ?_
  rintro e w1 ⟨rfl, hb1⟩
  go_wp2_with fail
  go_ret
  exact ⟨rfl, hb1⟩

theorem Name_any (s : ByteArray) (hsz : s.size ≤ maxLen) (w : World) (hS : Spans w) :
    Calls Tryz.prog 178 #[.string s] w fun e w' => e = .returned (.bool (nameB s 3)) ∧ Below w.heap.size w w' := by
  have HZ := Lib.hid hsz
  clear hsz
  go_enter Tryz.func178, Tryz.ntmps178
  go_wp2_with fail
  refine (named_any s HZ.out 3 (by decide) (by decide) _ hS).mono ?_
  rintro e w1 ⟨rfl, hb1⟩
  go_wp2_with fail
  go_ret
  exact ⟨rfl, hb1⟩
end Go.Proofs.YtdimcddbmccniaaGreatDoor
end
section
namespace Go.Proofs.YtdimcddbmccniaaGreatDoor
open Go.RowKit

def mayB (n : Int) : Bool := decide (-576460752303423488 ≤ n ∧ n ≤ 576460752303423487)
theorem may_bd {n : Int} (h : mayB n = true) : -576460752303423488 ≤ n ∧ n ≤ 576460752303423487 := of_decide_eq_true h
def fit (n : Int) : Int × Int := if mayB n = true then (n, 0) else (0, 11)
theorem fit_yes {n : Int} (h : mayB n = true) : fit n = (n, 0) := by rw [fit, if_pos h]
theorem fit_no {n : Int} (h : mayB n = false) : fit n = (0, 11) := by rw [fit, if_neg (by simp [h])]

def sPlus : ByteArray := ⟨#[43]⟩
def sMinus : ByteArray := ⟨#[45]⟩
def sTimes : ByteArray := ⟨#[42]⟩
def sDiv : ByteArray := ⟨#[100, 105, 118]⟩
def sRem : ByteArray := ⟨#[114, 101, 109]⟩

end Go.Proofs.YtdimcddbmccniaaGreatDoor
end
section
set_option linter.unusedVariables false
namespace Go.Proofs.YtdimcddbmccniaaGreatDoor
open Go.RowKit

theorem IMay_any (n : Int) (w : World) : Calls Tryz.prog 180 #[.int .i64 n] w fun e w' => e = .returned (.bool (mayB n)) ∧ w = w' := by
  have hd : mayB n = (decide (-576460752303423488 ≤ n) && decide (n ≤ 576460752303423487)) := by unfold mayB; rw [Bool.eq_iff_iff]; simp
  have H := Lib.hid hd
  clear hd
  by_cases h1 : -576460752303423488 ≤ n
  · go_enter Tryz.func180, Tryz.ntmps180
    go_wp2
    go_ret
    exact ⟨ret_bool (by rw [H.out]; simp [h1]), rfl⟩
  · go_enter Tryz.func180, Tryz.ntmps180
    go_wp2
    go_ret
    exact ⟨ret_bool (by rw [H.out]; simp; omega), rfl⟩

theorem is_no_err (v : Value) (w : World) : Sem.run Tryz.prog (Instr.typeAssert (.iface 3 v) 20 28 true) w = .ok (.tuple #[.int .i64 0, .bool false]) w := by kernel_rfl
theorem is_int (v : Value) (w : World) : Sem.run Tryz.prog (Instr.typeAssert (.iface 3 v) 20 3 true) w = .ok (.tuple #[v, .bool true]) w := by kernel_rfl

theorem told_int (x : Int) (w : World) : Calls Tryz.prog 266 #[.iface 3 (.int .i64 x)] w fun e w' => e = .returned (.tuple #[.int .i64 (fit x).1, .int .i64 (fit x).2]) ∧ w = w' := by
  have k1 := is_no_err (.int .i64 x)
  have k2 := is_int (.int .i64 x)
  cases hm : mayB x
  · have H := Lib.hid (fit_no hm)
    go_enter Tryz.func266, Tryz.ntmps266
    go_wp2_with (go_at_call 180; refine (IMay_any _ _).mono ?_; rintro e w' ⟨rfl, rfl⟩)
    go_ret2
    exact ⟨ret_two (by rw [H.out]) (by rw [H.out]), rfl⟩
  · have H := Lib.hid (fit_yes hm)
    go_enter Tryz.func266, Tryz.ntmps266
    go_wp2_with (go_at_call 180; refine (IMay_any _ _).mono ?_; rintro e w' ⟨rfl, rfl⟩)
    go_ret2
    exact ⟨ret_two (by rw [H.out]) (by rw [H.out]), rfl⟩

end Go.Proofs.YtdimcddbmccniaaGreatDoor
end
section

end
section
namespace Go.Proofs.YtdimcddbmccniaaGreatDoor
open Go.RowKit

def isDig (c : UInt8) : Bool := decide (48 ≤ c.toNat ∧ c.toNat ≤ 57)
def dg (l : List UInt8) : Nat := (l.takeWhile isDig).length
def vl (l : List UInt8) (k : Nat) : Nat := (l.take k).foldl (fun n c => n * 10 + (c.toNat - 48)) 0

theorem dg_cons (c : UInt8) (l : List UInt8) : dg (c :: l) = if isDig c = true then dg l + 1 else 0 := by
  unfold dg; rw [List.takeWhile_cons]; split <;> simp

theorem dg_le (l : List UInt8) : dg l ≤ l.length := by
  induction l with
  | nil => simp [dg]
  | cons c l ih => rw [dg_cons]; split <;> simp <;> omega

theorem dg_at : ∀ (l : List UInt8) (k : Nat) (h : k < l.length), k ≤ dg l → isDig l[k] = true → k + 1 ≤ dg l
  | c :: l, 0, _, _, hd => by rw [dg_cons, if_pos (by simpa using hd)]; omega
  | c :: l, k + 1, h, hk, hd => by
    rw [dg_cons] at hk ⊢
    split at hk
    · rename_i hc
      rw [if_pos hc]
      have := dg_at l k (by simpa using h) (by omega) (by simpa using hd)
      omega
    · omega

theorem dg_stop : ∀ (l : List UInt8) (k : Nat) (h : k < l.length), k ≤ dg l → isDig l[k] = false → dg l = k
  | c :: l, 0, _, _, hd => by rw [dg_cons, if_neg (by simpa using hd)]
  | c :: l, k + 1, h, hk, hd => by
    rw [dg_cons] at hk ⊢
    split at hk
    · rename_i hc
      rw [if_pos hc, dg_stop l k (by simpa using h) (by omega) (by simpa using hd)]
    · omega

theorem vl_zero (l : List UInt8) : vl l 0 = 0 := by simp [vl]
theorem vl_succ (l : List UInt8) (k : Nat) (h : k < l.length) : vl l (k + 1) = vl l k * 10 + (l[k].toNat - 48) := by
  unfold vl; rw [List.take_succ_eq_append_getElem h, List.foldl_append]; rfl

def held (x : Nat) : Int := if x ≤ 576460752303423488 then (x : Int) else 576460752303423488
theorem held_bd (x : Nat) : 0 ≤ held x ∧ held x ≤ 576460752303423488 := by unfold held; split <;> omega
theorem held_step (x d : Nat) (hd : d ≤ 9) : held (x * 10 + d) = min (held x * 10 + d) 576460752303423488 := by
  unfold held; split <;> split <;> omega

def readR (l : List UInt8) : Int × Int × Int :=
  if dg l = 0 then (0, 0, 2) else if 576460752303423487 < vl l (dg l) then (0, dg l, 11) else (vl l (dg l), dg l, 0)

end Go.Proofs.YtdimcddbmccniaaGreatDoor
end
section
set_option linter.unusedVariables false
namespace Go.Proofs.YtdimcddbmccniaaGreatDoor
open Go.RowKit

def wordList : List (List UInt8) := [[109, 111, 100, 117, 108, 101], [119, 104, 101, 110], [99, 97, 115, 101], [111, 102], [101, 110, 100], [116, 114, 121], [99, 97, 116, 99, 104], [114, 101, 99, 101, 105, 118, 101], [97, 102, 116, 101, 114], [102, 117, 110], [100, 105, 118], [114, 101, 109], [99, 111, 110, 102, 105, 103]]
def wordL (l : List UInt8) : Bool := wordList.any fun w => l == w
theorem size_list (s : ByteArray) : s.data.toList.length = s.size := by rw [Array.length_toList]; rfl
end Go.Proofs.YtdimcddbmccniaaGreatDoor
end
section
set_option linter.unusedVariables false
namespace Go.Proofs.YtdimcddbmccniaaGreatDoor
open Go.RowKit

mutual
def Tm.deep : Tm → Nat
  | .mk _ _ _ _ l => Tm.deeps l + 1
def Tm.deeps : List Tm → Nat
  | [] => 0
  | x :: l => max x.deep (Tm.deeps l)
end
theorem Tm.nodes_mk (k n : Int) (s t : ByteArray) (l : List Tm) : (Tm.mk k n s t l).nodes = (Tm.pres l).length + 1 := by unfold Tm.nodes; rw [Tm.pre, List.length_cons]
def fitsB (x : Tm) : Bool := decide (x.nodes ≤ 4096 ∧ x.deep ≤ 64)
def emp (s : ByteArray) : Bool := decide (s.size = 0)
def atomB (s : ByteArray) : Bool := nameB s 2 && !wordL s.data.toList
def cmpB (s : ByteArray) : Bool := [[61, 58, 61], [61, 47, 61], [60], [61, 60], [62], [62, 61]].any fun x => s.data.toList == x
def ariB (s : ByteArray) : Bool := [[43], [45], [42], [100, 105, 118], [114, 101, 109]].any fun x => s.data.toList == x
def plusB (s : ByteArray) : Bool := [[43], [45], [42]].any fun x => s.data.toList == x
def kindB (s : ByteArray) : Bool := [[105, 115, 95, 97, 116, 111, 109], [105, 115, 95, 105, 110, 116, 101, 103, 101, 114], [105, 115, 95, 112, 105, 100], [105, 115, 95, 114, 101, 102, 101, 114, 101, 110, 99, 101], [105, 115, 95, 116, 117, 112, 108, 101], [105, 115, 95, 108, 105, 115, 116], [105, 115, 95, 102, 117, 110, 99, 116, 105, 111, 110]].any fun x => s.data.toList == x
def classB (s : ByteArray) : Bool := [[101, 114, 114, 111, 114], [101, 120, 105, 116], [116, 104, 114, 111, 119]].any fun x => s.data.toList == x
def leafB (k n : Int) (s t : ByteArray) (l : List Tm) : Bool :=
  l.isEmpty && emp t && ((k == 5 && n == 0 && nameB s 3) || (k == 6 && emp s && mayB n) || (k == 7 && n == 0 && atomB s) || (k == 8 && n == 0 && emp s))
mutual
def patB : Tm → Bool
  | .mk k n s t l => leafB k n s t l || ((k == 10 || (k == 9 && l.length == 2)) && n == 0 && emp s && emp t && patsB l)
def patsB : List Tm → Bool
  | [] => true
  | x :: l => patB x && patsB l
end
mutual
def guaB : Tm → Bool
  | .mk k n s t l => leafB k n s t l || (((k == 10 && emp s) || (k == 9 && emp s && l.length == 2) || (k == 11 && plusB s && l.length == 2)) && n == 0 && emp t && guasB l)
def guasB : List Tm → Bool
  | [] => true
  | x :: l => guaB x && guasB l
end
def testB : Tm → Bool
  | .mk k n s t l => ((k == 11 && cmpB s && l.length == 2) || (k == 12 && kindB s && l.length == 1)) && n == 0 && emp t && guasB l
def guardB : Tm → Bool
  | .mk k n s t l => k == 4 && n == 0 && emp s && emp t && l.all testB
def classedB : Tm → Bool
  | .mk _ _ _ _ (.mk k _ s _ _ :: _) => k == 5 || (k == 7 && classB s)
  | _ => false
def varFirst : List Tm → Bool
  | .mk k _ _ _ _ :: _ => k == 5
  | [] => false
mutual
def exprB : Tm → Bool
  | .mk k n s t l => leafB k n s t l ||
    (k == 9 && n == 0 && emp s && emp t && l.length == 2 && exprsB l) ||
    (k == 10 && n == 0 && emp s && emp t && exprsB l) ||
    (k == 11 && n == 0 && emp t && (cmpB s || ariB s) && l.length == 2 && exprsB l) ||
    (k == 13 && n == 0 && emp s && emp t && l.length == 2 && patFirst l) ||
    (k == 14 && n == 0 && emp t && atomB s && decide (l.length ≤ 8) && exprsB l) ||
    (k == 15 && n == 0 && atomB s && atomB t && decide (l.length ≤ 8) && exprsB l) ||
    (k == 16 && n == 0 && emp s && emp t && decide (l.length ≤ 9) && varFirst l && exprsB l) ||
    (k == 17 && atomB s && atomB t && decide (0 ≤ n ∧ n ≤ 8) && l.isEmpty) ||
    (k == 18 && n == 0 && emp s && emp t && decide (2 ≤ l.length) && caseB 1 l) ||
    (k == 19 && n == 0 && emp s && emp t && decide (2 ≤ l.length) && caseB 2 l && l.tail.all classedB) ||
    (k == 20 && emp s && emp t && ((n == 0 && !l.isEmpty && clsB 1 l) || (n == 1 && recvB l)))
def exprsB : List Tm → Bool
  | [] => true
  | x :: l => exprB x && exprsB l
def patFirst : List Tm → Bool
  | [] => true
  | p :: l => patB p && exprsB l
def caseB (m : Nat) : List Tm → Bool
  | [] => true
  | e :: l => exprB e && clsB m l
def clsB (m : Nat) : List Tm → Bool
  | [] => true
  | c :: l => clB m c && clsB m l
def clB (m : Nat) : Tm → Bool
  | .mk k n s t l => k == 3 && n == (m : Int) && emp s && emp t && partsB m l
def partsB : Nat → List Tm → Bool
  | 0, g :: l => guardB g && !l.isEmpty && exprsB l
  | m + 1, p :: l => patB p && partsB m l
  | _, [] => false
def recvB : List Tm → Bool
  | [] => false
  | c :: l => if l.isEmpty then afterB c else clB 1 c && recvB l
def afterB : Tm → Bool
  | .mk k n s t l => k == 21 && n == 0 && emp s && emp t && decide (2 ≤ l.length) && exprsB l
end
def funB : Tm → Bool
  | .mk k n s t l => k == 2 && emp t && atomB s && decide (0 ≤ n ∧ n ≤ 8) && !l.isEmpty && clsB n.toNat l
def modB : Tm → Bool
  | .mk k n s t l => k == 1 && n == 0 && emp t && atomB s && l.all funB
def modsB : Tm → Bool
  | .mk k n s t l => k == 0 && n == 0 && emp s && emp t && l.all modB
end Go.Proofs.YtdimcddbmccniaaGreatDoor
end
section
set_option linter.unusedVariables false
set_option linter.unusedSimpArgs false
namespace Go.Proofs.YtdimcddbmccniaaGreatDoor
open Go.RowKit

instance decMemB (s : ByteArray) (L : List ByteArray) : Decidable (s ∈ L) := decidable_of_iff ((L.any fun b => decide (b = s)) = true) (by simp [List.any_eq_true])
instance decMemK (s : ByteArray × Int) (L : List (ByteArray × Int)) : Decidable (s ∈ L) := decidable_of_iff ((L.any fun b => decide (b = s)) = true) (by simp [List.any_eq_true])
instance decMemF (s : ByteArray × ByteArray × Int) (L : List (ByteArray × ByteArray × Int)) : Decidable (s ∈ L) := decidable_of_iff ((L.any fun b => decide (b = s)) = true) (by simp [List.any_eq_true])
structure Wk where
  bound : List ByteArray
  all : List ByteArray
  fl : List (Int × Nat)

def bindW (most : Int) (st : Wk) (s : ByteArray) (p : Nat) : Wk :=
  if s ∈ st.bound then st else
  { bound := st.bound ++ [s], all := if s ∈ st.all then st.all else st.all ++ [s],
    fl := if most < ((st.bound.length + 1 : Nat) : Int) then st.fl ++ [(11, p)] else st.fl }
def patW (most : Int) (st : Wk) (p : Nat) : List Tm → Wk
  | [] => st
  | y :: l => patW most (if y.k = 5 ∧ ¬ y.s.data.toList = [95] then bindW most st y.s p else st) (p + 1) l
def backW (old new : Wk) : Wk := { new with bound := new.bound.take old.bound.length }
def toldW (st : Wk) (s : ByteArray) (p : Nat) : Wk := if s ∈ st.bound then st else { st with fl := st.fl ++ [(90, p)] }
mutual
def overW (most : Int) (st : Wk) (p : Nat) : Tm → Wk
  | .mk k n s t l =>
    if k = 5 then toldW st s p
    else if k = 13 then matchW most st (p + 1) l
    else if k = 3 then backW st (clauseW most st (p + 1) n.toNat l)
    else if k = 18 ∨ k = 21 then backW st (allW most st (p + 1) l)
    else if k = 19 then tryW most st (p + 1) l
    else allW most st (p + 1) l
def allW (most : Int) (st : Wk) (p : Nat) : List Tm → Wk
  | [] => st
  | x :: l => allW most (overW most st p x) (p + x.nodes) l
def matchW (most : Int) (st : Wk) (p : Nat) : List Tm → Wk
  | [] => st
  | a :: l => patW most (allW most st (p + a.nodes) l) p a.pre
def tryW (most : Int) (st : Wk) (p : Nat) : List Tm → Wk
  | [] => st
  | e :: l => allW most (backW st (overW most st p e)) (p + e.nodes) l
def clauseW (most : Int) (st : Wk) (p : Nat) : Nat → List Tm → Wk
  | 0, x :: l => allW most (overW most st p x) (p + x.nodes) l
  | m + 1, x :: l => clauseW most (patW most st p x.pre) (p + x.nodes) m l
  | _, [] => st
end
abbrev Fn9 := ByteArray × ByteArray × Int
def built0 : List (List UInt8) := [[115, 101, 108, 102], [109, 97, 107, 101, 95, 114, 101, 102], [110, 111, 119]]
def built1 : List (List UInt8) := [[108, 105, 110, 107], [109, 111, 110, 105, 116, 111, 114], [101, 120, 105, 116], [101, 114, 114, 111, 114], [116, 104, 114, 111, 119], [116, 114, 97, 112, 95, 101, 120, 105, 116], [114, 101, 103, 105, 115, 116, 101, 114], [119, 104, 101, 114, 101, 105, 115], [108, 101, 110, 103, 116, 104], [104, 100], [116, 108], [116, 117, 112, 108, 101, 95, 115, 105, 122, 101], [111, 117, 116], [119, 104, 105, 99, 104, 95, 99, 104, 105, 108, 100, 114, 101, 110]]
def built2 : List (List UInt8) := [[101, 120, 105, 116], [101, 108, 101, 109, 101, 110, 116], [115, 101, 110, 100], [99, 97, 115, 116], [115, 116, 97, 114, 116, 95, 99, 104, 105, 108, 100], [116, 101, 114, 109, 105, 110, 97, 116, 101, 95, 99, 104, 105, 108, 100], [114, 101, 115, 116, 97, 114, 116, 95, 99, 104, 105, 108, 100], [100, 101, 108, 101, 116, 101, 95, 99, 104, 105, 108, 100]]
def built3 : List (List UInt8) := [[115, 112, 97, 119, 110, 95, 108, 105, 110, 107], [99, 97, 108, 108]]
def builtB (s : ByteArray) (n : Int) : Bool :=
  (n == 0 && built0.contains s.data.toList) || (n == 1 && built1.contains s.data.toList) || (n == 2 && built2.contains s.data.toList) || (n == 3 && built3.contains s.data.toList)
end Go.Proofs.YtdimcddbmccniaaGreatDoor
end
section
namespace Go.Proofs.YtdimcddbmccniaaGreatDoor
open Go.RowKit

theorem run_put_last {P : Program} {t k e : TypeId} (ht : P.underlying t = some (.map k e)) (hk : P.underlying k = some .string) (w : World) (es : Array MapEntry) (c : Nat) (s : ByteArray) (v : Value)
    (hn : Instr.findNow .string (.string s) es.toList 0 = some none) :
    (Instr.mapUpdate t (.map (some w.heap.size)) (.string s) v).run P (w.alloc (.map es c)) = .ok () (w.alloc (.map (es.push ⟨.string s, v, c⟩) (c + 1))) := by
  have hb : (w.alloc (.map es c)).heap[w.heap.size]? = some (.map es c) := (MapKept.heap_alloc w _).1
  have hkey : MapKept.IsKey .string (.string s) := by simp [MapKept.IsKey]
  have hset : ({ w.alloc (.map es c) with heap := (w.alloc (.map es c)).heap.setIfInBounds w.heap.size (.map (es.push ⟨.string s, v, c⟩) (c + 1)) } : World) = w.alloc (.map (es.push ⟨.string s, v, c⟩) (c + 1)) := by
    have e : (w.alloc (.map es c)).heap = w.heap.push (.map es c) := rfl
    have e2 : ((w.heap.push (.map es c)).setIfInBounds w.heap.size (.map (es.push ⟨.string s, v, c⟩) (c + 1))) = w.heap.push (.map (es.push ⟨.string s, v, c⟩) (c + 1)) := by
      apply Array.ext_getElem?
      intro i
      simp only [Array.getElem?_setIfInBounds, Array.getElem?_push, Array.size_push]
      by_cases hi : i = w.heap.size
      · subst hi; simp
      · simp [hi, Ne.symm hi]
    rw [e, e2]; rfl
  simp [Instr.mapUpdate, run_underlying ht, MapKept.run_getObj_map hb, MapKept.run_checkKey hk hkey, MapKept.run_findKey hk hn, MapKept.run_setObj_map _ hb, Result.andThen]
  exact hset

theorem run_look_last {P : Program} {t k e : TypeId} (ht : P.underlying t = some (.map k e)) (hk : P.underlying k = some .string) (w : World) (es : Array MapEntry) (c : Nat) (s : ByteArray) (i : Nat) (v : Value)
    (hn : Instr.findNow .string (.string s) es.toList 0 = some (some (i, v))) :
    (Instr.lookup t (.map (some w.heap.size)) (.string s) true).run P (w.alloc (.map es c)) = .ok (.tuple #[v, .bool true]) (w.alloc (.map es c)) := by
  have hb : (w.alloc (.map es c)).heap[w.heap.size]? = some (.map es c) := (MapKept.heap_alloc w _).1
  have hkey : MapKept.IsKey .string (.string s) := by simp [MapKept.IsKey]
  simp [Instr.lookup, run_underlying ht, MapKept.run_getObj_map hb, MapKept.run_checkKey hk hkey, MapKept.run_findKey hk hn, Result.andThen]

theorem run_miss_last {P : Program} {t k e : TypeId} (ht : P.underlying t = some (.map k e)) (hk : P.underlying k = some .string) (w : World) (es : Array MapEntry) (c : Nat) (s : ByteArray) (z : Value)
    (hz : ∀ w, (zeroValue e).run P w = .ok z w) (hn : Instr.findNow .string (.string s) es.toList 0 = some none) :
    (Instr.lookup t (.map (some w.heap.size)) (.string s) true).run P (w.alloc (.map es c)) = .ok (.tuple #[z, .bool false]) (w.alloc (.map es c)) := by
  have hb : (w.alloc (.map es c)).heap[w.heap.size]? = some (.map es c) := (MapKept.heap_alloc w _).1
  have hkey : MapKept.IsKey .string (.string s) := by simp [MapKept.IsKey]
  simp [Instr.lookup, run_underlying ht, MapKept.run_getObj_map hb, MapKept.run_checkKey hk hkey, MapKept.run_findKey hk hn, hz, Result.andThen]

end Go.Proofs.YtdimcddbmccniaaGreatDoor
end
section
namespace Go.Proofs.YtdimcddbmccniaaGreatDoor
open Go.RowKit

def opTab (k : Nat) : Array MapEntry := (#[⟨.string ⟨#[43]⟩, .func (.func 251) #[] #[], 0⟩, ⟨.string ⟨#[45]⟩, .func (.func 252) #[] #[], 1⟩, ⟨.string ⟨#[42]⟩, .func (.func 253) #[] #[], 2⟩,
  ⟨.string ⟨#[100, 105, 118]⟩, .func (.func 254) #[] #[], 3⟩, ⟨.string ⟨#[114, 101, 109]⟩, .func (.func 255) #[] #[], 4⟩] : Array MapEntry).take k

theorem operations_any (w : World) : Calls Tryz.prog 213 #[] w fun e w' => e = .returned (.map (some w.heap.size)) ∧ w' = w.alloc (.map (opTab 5) 5) := by
  have hmm := @run_makeMap Tryz.prog
  have i1 : Sem.run Tryz.prog (Instr.mapUpdate 231 (.map (some w.heap.size)) (.string ⟨#[43]⟩) (.func (.func 251) #[] #[])) (w.alloc (.map #[] 0)) = .ok () (w.alloc (.map (opTab 1) 1)) :=
    run_put_last Tryz.underlying231 Tryz.underlying9 w (opTab 0) 0 _ _ rfl
  have i2 : Sem.run Tryz.prog (Instr.mapUpdate 231 (.map (some w.heap.size)) (.string ⟨#[45]⟩) (.func (.func 252) #[] #[])) (w.alloc (.map (opTab 1) 1)) = .ok () (w.alloc (.map (opTab 2) 2)) :=
    run_put_last Tryz.underlying231 Tryz.underlying9 w (opTab 1) 1 _ _ rfl
  have i3 : Sem.run Tryz.prog (Instr.mapUpdate 231 (.map (some w.heap.size)) (.string ⟨#[42]⟩) (.func (.func 253) #[] #[])) (w.alloc (.map (opTab 2) 2)) = .ok () (w.alloc (.map (opTab 3) 3)) :=
    run_put_last Tryz.underlying231 Tryz.underlying9 w (opTab 2) 2 _ _ rfl
  have i4 : Sem.run Tryz.prog (Instr.mapUpdate 231 (.map (some w.heap.size)) (.string ⟨#[100, 105, 118]⟩) (.func (.func 254) #[] #[])) (w.alloc (.map (opTab 3) 3)) = .ok () (w.alloc (.map (opTab 4) 4)) :=
    run_put_last Tryz.underlying231 Tryz.underlying9 w (opTab 3) 3 _ _ rfl
  have i5 : Sem.run Tryz.prog (Instr.mapUpdate 231 (.map (some w.heap.size)) (.string ⟨#[114, 101, 109]⟩) (.func (.func 255) #[] #[])) (w.alloc (.map (opTab 4) 4)) = .ok () (w.alloc (.map (opTab 5) 5)) :=
    run_put_last Tryz.underlying231 Tryz.underlying9 w (opTab 4) 4 _ _ rfl
  go_enter Tryz.func213, Tryz.ntmps213
  go_wp2
  go_ret
  exact ⟨rfl, rfl⟩
end Go.Proofs.YtdimcddbmccniaaGreatDoor
end
section

end
