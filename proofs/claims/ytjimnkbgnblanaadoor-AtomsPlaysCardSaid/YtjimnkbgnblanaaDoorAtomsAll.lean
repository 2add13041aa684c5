/- All of a table of atoms (an iterator over its row), and the law's own 'goes' over it. -/
import Derived.Test.YtjimnkbgnblanaaDoorAtomsPut
set_option linter.unusedVariables false
namespace Go.Proofs.YtjimnkbgnblanaaDoor
open Go.RowKit Go.Shelf
attribute [local go_sem] Oper.semAt_some

theorem foot_of_new {tb mb : Nat} {rv rv' : Value} {N : Nat} (k2 : ∀ k, rv'.ownBlock = some k → rv.ownBlock = some k ∨ N ≤ k) {g : Nat} (hg : g < N) (h : ¬ foot tb mb rv g) : ¬ foot tb mb rv' g := by
  rintro (e | e | e)
  · exact h (.inl e)
  · exact h (.inr (.inl e))
  · rcases k2 g e with e | e
    · exact h (.inr (.inr e))
    · omega

theorem Tbl.drewN {base : Nat} {w : World} {tb mb : Nat} {rv : Value} {most : Int} {L : List ByteArray} (h : Tbl base w tb mb rv most L) (k : Nat) : Tbl base (w.drewN k) tb mb rv most L :=
  ⟨h.tbl, h.map, h.row, h.nodup, h.may, h.len, h.most, h.tlow, h.mlow⟩
theorem Len_quiet {base : Nat} {w : World} {tb mb : Nat} {rv : Value} {most : Int} {L : List ByteArray} (h : Tbl base w tb mb rv most L) (k : Nat) :
    Calls Tryd.prog 22 #[.pointer (some ⟨tb, 0, none⟩)] (w.drewN k) fun e w'' => e = .returned (.int .i64 (L.length : Int)) ∧ ∃ m, w'' = w.drewN m :=
  (Len_any (h.drewN k)).mono fun e w' ⟨h1, h2⟩ => ⟨h1, k, h2.symm⟩
theorem Below.drewN_ {B : Nat} {a w : World} (h : Below B a w) (k : Nat) : Below B a (w.drewN k) := ⟨h.os, h.tape, h.output, h.size, h.block⟩

/-- The slice value v reads as the texts L. -/
def RowAt (w : World) (v : Value) (L : List ByteArray) : Prop :=
  ∃ a cap, v = .slice a L.length cap ∧ ∀ k s, L[k]? = some s → ∃ g, a = some ⟨g, 0, none⟩ ∧ g < w.heap.size ∧ w.cell? ⟨g, k, none⟩ = some (.string s)
theorem RowAt.below {w w' : World} {v : Value} {L : List ByteArray} (h : RowAt w v L) (hb : Below w.heap.size w w') : RowAt w' v L := by
  obtain ⟨a, cap, rfl, h⟩ := h
  refine ⟨a, cap, rfl, fun k s hk => ?_⟩
  obtain ⟨g, rfl, hg, hc⟩ := h k s hk
  exact ⟨g, rfl, Nat.lt_of_lt_of_le hg hb.size, (hb.cell (p := ⟨g, k, none⟩) hg).trans hc⟩
theorem RowAt.of_own {w : World} {base : Nat} {e : TypeId} {v : Value} {L : List ByteArray} (h : w.ownsRow base e 1 v L.length (L.map .string)) : RowAt w v L := by
  obtain ⟨a, cap, rfl⟩ := row_shape h
  refine ⟨a, cap, rfl, fun k s hk => ?_⟩
  obtain ⟨g, rfl, hc⟩ := row_cell h hk
  exact ⟨g, rfl, (h.lt g rfl).2, hc⟩

/-- An element that the iterator hands out. -/
def at_ (L : List ByteArray) (j : Nat) : Nat × ByteArray := (j, L[j]?.getD ⟨#[]⟩)

set_option maxRecDepth 100000 in
set_option maxHeartbeats 2000000 in
theorem all1_in (n : Nat) (hn : 1 ≤ n) (l Bs n₀ : Nat) (a : Option Addr) (cap : Nat) (L : List ByteArray) (hlen : L.length ≤ 65536) (J Jx : List (Nat × ByteArray) → World → Prop)
    (hY : ∀ pre x W, J pre W → pre.length < L.length → YieldAt Fence.wide (n - 1) Tryd.prog l #[.int .i64 (x.1 : Int), .string x.2] W fun e W' =>
      (e = .returned (.bool true) ∧ J (pre ++ [x]) W' ∧ Below n₀ W W') ∨ (e = .returned (.bool false) ∧ Jx (pre ++ [x]) W'))
    (W : World) (hBs : W.cell? ⟨Bs, 0, none⟩ = some (.slice a L.length cap)) (hc : ∀ k s, L[k]? = some s → ∃ g, a = some ⟨g, 0, none⟩ ∧ g < n₀ ∧ W.cell? ⟨g, k, none⟩ = some (.string s)) (h0 : J [] W) :
    CallsIn Fence.wide n Tryd.prog 32 #[.func (.yield l) #[] #[], .pointer (some ⟨Bs, 0, none⟩)] W fun e W' => (∃ v, e = .returned v) ∧
      ((∃ ys, ys = upto (at_ L) L.length ∧ J ys W') ∨ (∃ pre, (∃ k, k ≤ L.length ∧ pre = upto (at_ L) k) ∧ Jx pre W')) := by
  refine callsIn_of_wp Tryd.func32 rfl trivial ?_ rfl
  simp only [Tryd.ntmps32, List.size_toArray, List.length_cons, List.length_nil, Nat.reduceAdd, Nat.reduceSub, Array.replicate_succ, Array.replicate_zero, List.push_toArray, List.append_toArray, List.nil_append, List.cons_append]
  have HC := Lib.hid hc
  clear hc
  gi_wp2
  gi_loopw [7] (fun i wr => ∃ k : Nat, k ≤ L.length ∧ i = .int .i64 k ∧ J (upto (at_ L) k) wr ∧ Below n₀ W wr)
    (fun i _ => L.length - (intOf i).toNat)
  case atStart => exact ⟨0, Nat.zero_le _, rfl, h0, Below.refl _ _⟩
  case round =>
    obtain ⟨k, hk, rfl, hJs, hnx⟩ := hrel
    by_cases hlt : k < L.length
    · obtain ⟨g, rfl, hg, hcg⟩ := HC.out k L[k] (List.getElem?_eq_getElem hlt)
      have hcx : wr.cell? ⟨g, k, none⟩ = some (.string L[k]) := (hnx.cell (p := ⟨g, k, none⟩) hg).trans hcg
      clear hcg
      obtain ⟨fn, tmps, assign, body, hy, hR⟩ := hY _ (k, L[k]) wr hJs (by rw [upto_length]; exact hlt)
      dsimp only at hy
      have HA : Hid (at_ L k = (k, L[k])) := by unfold at_; rw [List.getElem?_eq_getElem hlt]; rfl
      gi_wp2
      refine hR.mono ?_
      rintro e W3 (⟨rfl, hJ3, hk3⟩ | ⟨rfl, hJx3⟩)
      · gi_wp2
        go_roundw
        case rel => exact ⟨k + 1, by omega, by simp, by rw [upto_succ, HA.out]; exact hJ3, hnx.trans hk3⟩
        case measure => simp [intOf]; omega
      · gi_wp2
        refine bodyPost_ret (results_none rfl _ _ _) rfl ?_
        exact ⟨⟨_, rfl⟩, .inr ⟨_, ⟨k + 1, by omega, by rw [upto_succ, HA.out]⟩, hJx3⟩⟩
    · obtain rfl : k = L.length := by omega
      gi_wp2
      go_end0
      exact ⟨⟨_, rfl⟩, .inl ⟨_, rfl, hJs⟩⟩

theorem all_stops (n : Nat) (hn : 1 ≤ n) (Bs n₀ : Nat) (a : Option Addr) (cap : Nat) (L : List ByteArray) (hlen : L.length ≤ 65536) (w : World) (hBs : Bs < w.heap.size) (hn₀ : n₀ ≤ w.heap.size)
    (hc : w.cell? ⟨Bs, 0, none⟩ = some (.slice a L.length cap)) (hI : ∀ k s, L[k]? = some s → ∃ g, a = some ⟨g, 0, none⟩ ∧ g < n₀ ∧ w.cell? ⟨g, k, none⟩ = some (.string s)) :
    SeqStopsK Fence.wide n Tryd.prog 32 #[.pointer (some ⟨Bs, 0, none⟩)] (fun x : Nat × ByteArray => #[Value.int .i64 (x.1 : Int), Value.string x.2]) (Below n₀)
      (fun ys => ys = upto (at_ L) L.length) (fun pre => ∃ k, k ≤ L.length ∧ pre = upto (at_ L) k) L.length w := fun l J Jx W hW _ _ hY h0 =>
  all1_in n hn l Bs n₀ a cap L hlen J Jx hY W ((hW.cell (p := ⟨Bs, 0, none⟩) hBs).trans hc)
    (fun k s hk => by
      obtain ⟨g, e, hg, hc⟩ := hI k s hk
      exact ⟨g, e, hg, (hW.cell (p := ⟨g, k, none⟩) (show g < w.heap.size by omega)).trans hc⟩) h0

set_option maxHeartbeats 1000000 in
theorem All_in {base : Nat} {w : World} {tb mb : Nat} {rv : Value} {most : Int} {L : List ByteArray} (h : Tbl base w tb mb rv most L) (n : Nat) :
    CallsIn Fence.wide n Tryd.prog 28 #[.pointer (some ⟨tb, 0, none⟩)] w fun e w' => e = .returned (.func (.func 32) #[] #[.pointer (some ⟨w.heap.size, 0, none⟩)]) ∧ w' = w.alloc (.cells #[rv] 42) := by
  obtain ⟨a, cap, rfl⟩ := row_shape h.row
  have hc := cell_of_row (i := 2) (v := .slice a L.length cap) h.tbl rfl
  have hlt := heap_lt h.tbl
  refine callsIn_of_wp Tryd.func28 rfl trivial ?_ rfl
  simp only [Tryd.ntmps28, List.size_toArray, List.length_cons, List.length_nil, Nat.reduceAdd, Nat.reduceSub, Array.replicate_succ, Array.replicate_zero, List.push_toArray, List.append_toArray, List.nil_append, List.cons_append]
  gi_wp2
  go_ret
  exact ⟨rfl, rfl⟩

theorem eql_seq_nil (b : Array Value) (w : World) : Sem.run Tryd.prog (binOp BinOp.eql 60 (.func (.func 32) #[] b) .nilFunc) w = .ok (.bool false) w := by kernel_rfl

theorem boxed_keep {W W' : World} {row : Option Nat} {B : Nat} {t : TypeId} {v : Value} (h : Boxed W B t v) (hg : W.grownBy W' row) (hr : ∀ r, row = some r → ∃ o : Obj, W.heap[r]? = some o ∧ o.isCells = false) : Boxed W' B t v :=
  (grownBy_keeps_cells hg hr h rfl).trans h

/-- What goes has in its own boxes between two rounds, n having come. -/
def GoBox (S : Nat) (lv : Value) (leave : Int) (n : Nat) (W : World) : Prop :=
  Boxed W S 42 lv ∧ Boxed W (S + 1) 3 (.int .i64 leave) ∧ Boxed W (S + 1 + 1) 4 (.bool false) ∧ Boxed W (S + 3 + 1) 3 (.int .i64 (n : Int))
theorem GoBox.keep {S : Nat} {lv : Value} {leave : Int} {n : Nat} {W W' : World} {row : Option Nat} (h : GoBox S lv leave n W) (hg : W.grownBy W' row) (hr : ∀ r, row = some r → ∃ o : Obj, W.heap[r]? = some o ∧ o.isCells = false) : GoBox S lv leave n W' :=
  ⟨boxed_keep h.1 hg hr, boxed_keep h.2.1 hg hr, boxed_keep h.2.2.1 hg hr, boxed_keep h.2.2.2 hg hr⟩

theorem GoBox.step {S : Nat} {lv : Value} {leave : Int} {n : Nat} {W : World} (h : GoBox S lv leave n W) : GoBox S lv leave (n + 1) (W.setCell ⟨S + 3 + 1, 0, none⟩ (.int .i64 ((n : Int) + 1))) := by
  have e : ((n + 1 : Nat) : Int) = (n : Int) + 1 := by omega
  refine ⟨?_, ?_, ?_, ?_⟩
  · exact (Below.heap_setCell _ _ _ _ (show S ≠ S + 3 + 1 by omega)).trans h.1
  · exact (Below.heap_setCell _ _ _ _ (show S + 1 ≠ S + 3 + 1 by omega)).trans h.2.1
  · exact (Below.heap_setCell _ _ _ _ (show S + 1 + 1 ≠ S + 3 + 1 by omega)).trans h.2.2.1
  · rw [e]; exact h.2.2.2.set _

theorem at_len {L : List ByteArray} {k : Nat} {s : ByteArray} (h : L[k]? = some s) : at_ L k = (k, s) := by unfold at_; rw [h]; rfl

set_option maxRecDepth 100000 in
set_option maxHeartbeats 4000000 in
theorem goes_same {base : Nat} {w : World} {tb mb : Nat} {rv : Value} {most : Int} {L : List ByteArray} (h : Tbl base w tb mb rv most L) (lv : Value) (hl : RowAt w lv L) (leave : Int) :
    Calls Tryd.prog 23 #[.pointer (some ⟨tb, 0, none⟩), lv, .int .i64 leave] w fun e w' => e = .returned (.bool true) ∧ Below w.heap.size w w' := by
  obtain ⟨la, lcap, rfl, hl⟩ := hl
  obtain ⟨a, cap, hrv⟩ := row_shape h.row
  have hrow := RowAt.of_own h.row
  rw [hrv] at hrow
  obtain ⟨a', cap', e0, hI⟩ := hrow
  simp at e0
  obtain ⟨rfl, rfl⟩ := e0
  have hlen : L.length ≤ 65536 := by have := h.len; have := h.most; omega
  have HL := Lib.hid hl
  have HI := Lib.hid hI
  clear hl hI
  refine (callsIn_wide (n := 3)).1 ?_
  refine callsIn_of_wp_marks Tryd.func23 rfl trivial ?_ rfl
  simp only [Tryd.ntmps23, List.size_toArray, List.length_cons, List.length_nil, Nat.reduceAdd, Nat.reduceSub, Array.replicate_succ, Array.replicate_zero, List.push_toArray, List.append_toArray, List.nil_append, List.cons_append]
  have b0 := Boxed.new w 42 (.slice la L.length lcap)
  have b1 := Boxed.new (w.alloc (.cells #[.slice la L.length lcap] 42)) 3 (.int .i64 leave)
  have b2 := Boxed.new ((w.alloc (.cells #[.slice la L.length lcap] 42)).alloc (.cells #[.int .i64 leave] 3)) 4 (.bool false)
  have B3 : Below w.heap.size w (((w.alloc (.cells #[.slice la L.length lcap] 42)).alloc (.cells #[.int .i64 leave] 3)).alloc (.cells #[.bool false] 4)) := (((Below.refl _ w).alloc (Nat.le_refl _) _).alloc (by simp) _).alloc (by simp; omega) _
  simp only [World.size_alloc] at b1 b2
  obtain ⟨w3, hw3⟩ : ∃ w3, (((w.alloc (.cells #[.slice la L.length lcap] 42)).alloc (.cells #[.int .i64 leave] 3)).alloc (.cells #[.bool false] 4)) = w3 := ⟨_, rfl⟩
  have c0 : Boxed w3 w.heap.size 42 (.slice la L.length lcap) := by rw [← hw3]; exact (b0.alloc _).alloc _
  have c1 : Boxed w3 (w.heap.size + 1) 3 (.int .i64 leave) := by rw [← hw3]; exact b1.alloc _
  have c2 : Boxed w3 (w.heap.size + 2) 4 (.bool false) := by rw [← hw3]; exact b2
  have hs3 : w3.heap.size = w.heap.size + 3 := by rw [← hw3]; simp
  rw [hw3] at B3
  have T3 := h.below B3
  clear b0 b1 b2
  gi_wp2_with fail
  refine ⟨trivial, ?_⟩
  refine (All_in T3 _).mono ?_
  rintro e w4 ⟨rfl, rfl⟩
  rw [hrv]
  have hfn := eql_seq_nil #[.pointer (some ⟨w.heap.size + 3, 0, none⟩)]
  gi_wp2
  have bS := Boxed.new w3 42 (.slice a L.length cap)
  rw [hs3] at bS
  have bN := Boxed.new (w3.alloc (.cells #[.slice a L.length cap] 42)) 3 (.int .i64 0)
  simp only [World.size_alloc, hs3] at bN
  have B5 : Below w.heap.size w ((w3.alloc (.cells #[.slice a L.length cap] 42)).alloc (.cells #[.int .i64 0] 3)) := (B3.alloc (by omega) _).alloc (by simp; omega) _
  have hs5 : ((w3.alloc (.cells #[.slice a L.length cap] 42)).alloc (.cells #[.int .i64 0] 3)).heap.size = w.heap.size + 5 := by simp [hs3]
  have G5 : GoBox w.heap.size (.slice la L.length lcap) leave 0 ((w3.alloc (.cells #[.slice a L.length cap] 42)).alloc (.cells #[.int .i64 0] 3)) :=
    ⟨(c0.alloc _).alloc _, (c1.alloc _).alloc _, (c2.alloc _).alloc _, bN⟩
  refine wpIn_rangeFunc_ownG rfl (by decide) (gf := 32) (lb := #[.pointer (some ⟨w.heap.size + 3, 0, none⟩)]) rfl trivial (enters_of Tryd.func32 (by kernel_rfl) rfl)
    (all_stops (3 - 1) (by decide) (w.heap.size + 3) w.heap.size a cap L hlen _ (by omega) (by omega) (bS.alloc _).cell (fun k s hk => by
      obtain ⟨g, e, hg, hc⟩ := HI.out k s hk
      exact ⟨g, e, hg, (B5.cell (p := ⟨g, k, none⟩) hg).trans hc⟩)) belowK_t (belowK_b (by omega)) (Below.refl _ _) (fun _ => rfl)
    (fun pre W => GoBox w.heap.size (.slice la L.length lcap) leave pre.length W ∧ Below w.heap.size w W)
    (fun c pre W => ((c = .ret ∧ ∃ ini x, pre = ini ++ [x] ∧ x ≠ at_ L ini.length) ∨ (c = .exit 0 ∧ (pre.length : Int) = leave ∧ GoBox w.heap.size (.slice la L.length lcap) leave pre.length W)) ∧ Below w.heap.size w W)
    (OwnFrom.and (Own.from (fun s A B row hs hg hr => hs.keep hg hr) _) (ownFrom_below (Nat.le_refl _) (by omega)))
    (fun c => OwnFrom.and (Own.from (fun s A B row hs hg hr => by
      rcases hs with hs | ⟨h1, h2, h3⟩
      · exact .inl hs
      · exact .inr ⟨h1, h2, h3.keep hg hr⟩) _) (ownFrom_below (Nat.le_refl _) (by omega)))
    ⟨G5, B5⟩
    (fun x => { tmps := #[.pointer (some ⟨tb, 0, none⟩), .slice la L.length lcap, .int .i64 leave, undef, .pointer (some ⟨w.heap.size, 0, none⟩), .pointer (some ⟨w.heap.size + 1, 0, none⟩), .pointer (some ⟨w.heap.size + 1 + 1, 0, none⟩),
      .func (.func 32) #[] #[.pointer (some ⟨w.heap.size + 3, 0, none⟩)], .pointer (some ⟨w.heap.size + 3 + 1, 0, none⟩), .int .i64 (x.1 : Int), .string x.2, .pointer (some ⟨tb, 0, none⟩),
      .func (.func 32) #[] #[.pointer (some ⟨w.heap.size + 3, 0, none⟩)], .func (.func 32) #[] #[.pointer (some ⟨w.heap.size + 3, 0, none⟩)], .bool false,
      .func (.func 32) #[] #[.pointer (some ⟨w.heap.size + 3, 0, none⟩)], .int .i64 (x.1 : Int), .string x.2,
      undef, undef, undef, undef, undef, undef, undef, undef, undef, undef, undef, undef, undef, undef, undef, undef, undef, undef, undef, undef, undef, undef, undef, undef, undef, undef, undef, undef, undef, undef, undef], defers := [] }) ?assign ?body ?done ?stop
  case assign =>
    intro l x W K hK
    gi_wp2
    exact hK
  case body =>
    rintro l pre x W ⟨⟨g0, g1, g2, g3⟩, hB⟩ hlp
    have k0 := g0.cell
    have k1 := g1.cell
    have k2 := g2.cell
    have k3 := g3.cell
    have f2 := g2.frozen
    have f3 := g3.frozen
    obtain ⟨g, rfl, hg, hcg⟩ := HL.out pre.length L[pre.length] (List.getElem?_eq_getElem hlp)
    have hcx : W.cell? ⟨g, pre.length, none⟩ = some (.string L[pre.length]) := (hB.cell (p := ⟨g, pre.length, none⟩) hg).trans hcg
    clear hcg
    have HA := Lib.hid (at_len (List.getElem?_eq_getElem hlp))
    have gb : GoBox w.heap.size (.slice (some ⟨g, 0, none⟩) L.length lcap) leave pre.length W := ⟨g0, g1, g2, g3⟩
    have GB := Lib.hid gb
    clear gb g0 g1 g2 g3
    gi_wp2
    · have hm : L.length ≤ pre.length ∨ (!x.snd.toList == L[pre.length].toList) = true := by assumption
      refine ⟨(KeepsOthers.setCell _ _ _).from _, .inl ⟨rfl, pre, x, rfl, fun e => ?_⟩, hB.setCell (p := ⟨w.heap.size + 1 + 1, 0, none⟩) (by simp; omega) _⟩
      rw [HA.out] at e
      subst e
      rcases hm with hm | hm
      · omega
      · simp at hm
    · have hv : (((pre.length : Int) + 1) == leave) = true := by assumption
      have hv' : (pre.length : Int) + 1 = leave := by simpa using hv
      refine ⟨(KeepsOthers.setCell _ _ _).from _, .inr ⟨rfl, ?_, ?_⟩, hB.setCell (p := ⟨w.heap.size + 3 + 1, 0, none⟩) (by simp; omega) _⟩
      · rw [List.length_append]; simpa using hv'
      · rw [List.length_append]; exact GB.out.step
    · refine ⟨(KeepsOthers.setCell _ _ _).from _, (Below.refl _ _).setCell (p := ⟨w.heap.size + 3 + 1, 0, none⟩) (by simp; omega) _, ?_, hB.setCell (p := ⟨w.heap.size + 3 + 1, 0, none⟩) (by simp; omega) _⟩
      rw [List.length_append]; exact GB.out.step
    · have hm : ¬ (x.fst : Int) = (pre.length : Int) := by assumption
      refine ⟨(KeepsOthers.setCell _ _ _).from _, .inl ⟨rfl, pre, x, rfl, fun e => ?_⟩, hB.setCell (p := ⟨w.heap.size + 1 + 1, 0, none⟩) (by simp; omega) _⟩
      rw [HA.out] at e
      subst e
      exact hm rfl
  case done =>
    rintro D ys W hD rfl ⟨⟨g0, g1, g2, g3⟩, hB⟩ hK
    rw [upto_length] at g3
    have k0 := g0.cell
    have k1 := g1.cell
    have k2 := g2.cell
    have k3 := g3.cell
    have f2 := g2.frozen
    clear g0 g1 g3
    gi_wp2
    have hK' := (KeepsOthers.setCell W ⟨w.heap.size + 1 + 1, 0, none⟩ (.bool true)).same D _ hK rfl
    refine ⟨by simp, .inl ⟨_, _, rfl, run_takeDeferred hK', ?_⟩⟩
    have hc5 := cell_kept (World.cell?_setCell_same' W ⟨w.heap.size + 1 + 1, 0, none⟩ (.bool true) (by rw [k2]; rfl)) (grownBy_putObj' _ D (.deferred none)) (fun r e => by cases e; exact ⟨_, hK', rfl⟩)
    refine ⟨.bool true, ?_, rfl, (hB.setCell (p := ⟨w.heap.size + 1 + 1, 0, none⟩) (by simp; omega) _).trans (belowK_b (w := w) (Nat.le_refl _) _ D _ _ (by omega) hK' rfl rfl)⟩
    simp [results, Tryd.f23, go_sem, hc5]
  case stop =>
    rintro D c pre W hD ⟨k, hk, rfl⟩ ⟨hc, hB⟩ hK
    rcases hc with ⟨rfl, ini, x, e1, hx⟩ | ⟨rfl, hlv, g0, g1, g2, g3⟩
    · exfalso
      cases k with
      | zero => simp [upto] at e1
      | succ k =>
        rw [upto_succ] at e1
        obtain ⟨rfl, e5⟩ := List.append_inj' e1 rfl
        simp at e5
        exact hx (by rw [upto_length]; exact e5.symm)
    · rw [upto_length] at g3 hlv
      have k0 := g0.cell
      have k1 := g1.cell
      have k2 := g2.cell
      have k3 := g3.cell
      have f2 := g2.frozen
      clear g0 g1 g3
      gi_wp2
      all_goals
        have hK' := (KeepsOthers.setCell W ⟨w.heap.size + 1 + 1, 0, none⟩ (.bool true)).same D _ hK rfl
        refine ⟨by simp, .inl ⟨_, _, rfl, run_takeDeferred hK', ?_⟩⟩
        have hc5 := cell_kept (World.cell?_setCell_same' W ⟨w.heap.size + 1 + 1, 0, none⟩ (.bool true) (by rw [k2]; rfl)) (grownBy_putObj' _ D (.deferred none)) (fun r e => by cases e; exact ⟨_, hK', rfl⟩)
        refine ⟨.bool true, ?_, rfl, (hB.setCell (p := ⟨w.heap.size + 1 + 1, 0, none⟩) (by simp; omega) _).trans (belowK_b (w := w) (Nat.le_refl _) _ D _ _ (by omega) hK' rfl rfl)⟩
        simp [results, Tryd.f23, go_sem, hc5]

end Go.Proofs.YtjimnkbgnblanaaDoor
