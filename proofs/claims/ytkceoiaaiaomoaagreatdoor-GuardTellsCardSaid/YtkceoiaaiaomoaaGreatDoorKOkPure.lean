/- Terms that may be: what that says of their fields; nodes of rows. -/
import Derived.Test.YtkceoiaaiaomoaaGreatDoorKAstQ
import Derived.Test.YtkceoiaaiaomoaaGreatDoorKRangeE
import Derived.Test.YtkceoiaaiaomoaaGreatDoorKBnd
import Derived.Test.YtkceoiaaiaomoaaGreatDoorKSuch
import Derived.RangeFuncCalls
import Derived.RangeFuncNested
import Derived.RangeFuncLeaves
import Derived.RangeFuncBox
import Derived.TacticsInMore
import Derived.LoopIn
import Derived.OwnWalkIn
import Derived.Deep.RegionHeld
import Derived.OrdersHeld
import Derived.Laws.AppendOwn
import Derived.OwnWalk
import Derived.LoopTactic
import Derived.LoopNIn
import Derived.StillTailTactics
import Derived.RegionTactic
import Derived.Outline
section
set_option linter.unusedVariables false
set_option linter.unusedSimpArgs false
namespace Go.Proofs.YtkceoiaaiaomoaaGreatDoor
open Go.RowKit Go.Shelf
attribute [local go_sem] Oper.semAt_some

structure KpF (n0 : Nat) (A C : World) : Prop where
  size : A.heap.size ≤ C.heap.size
  low : ∀ k, k < n0 → n0 ≤ A.heap.size → C.heap[k]? = A.heap[k]?
  cells : ∀ (k : Nat) (c : Array Value) (t : TypeId) (z : Nat × Nat), A.heap[k]? = some (.cells c t z) → C.heap[k]? = some (.cells c t z)
theorem KpF.trans {n0 : Nat} {A B C : World} (h : KpF n0 A B) (g : KpF n0 B C) : KpF n0 A C := ⟨Nat.le_trans h.size g.size, fun k hk hn => (g.low k hk (Nat.le_trans hn h.size)).trans (h.low k hk hn), fun k c t z hk => g.cells k c t z (h.cells k c t z hk)⟩
theorem KpF.refl (n0 : Nat) (A : World) : KpF n0 A A := ⟨Nat.le_refl _, fun _ _ _ => rfl, fun _ _ _ _ h => h⟩
theorem KpF.of_below {n0 : Nat} {A B : World} (h : Below A.heap.size A B) : KpF n0 A B := ⟨h.size, fun k hk hn => h.block k (by omega), fun k c t z hk => (h.block k (heap_lt hk)).trans hk⟩
theorem KpF.put {n0 : Nat} {W : World} {l : Nat} {o o' : Obj} (hl : n0 ≤ l) (h : W.heap[l]? = some o) (ho : o.isCells = false) : KpF n0 W (W.putObj l o') :=
  ⟨by rw [World.putObj_size]; exact Nat.le_refl _, fun k hk _ => World.putObj_heap_other (by omega), fun k c t z hk => (World.putObj_heap_other (fun e => by subst e; rw [h] at hk; cases hk; cases ho)).trans hk⟩
abbrev BdI := Int × Value
def encB (a : BdI) : Array Value := #[.int .i64 a.1, a.2]
def NextB (n0 : Nat) (w0 : World) (l : List Bd) (pre : List BdI) (a : BdI) : Prop :=
  ∃ (r : Nat) (b : Bd) (k n : Int) (ts tt : ByteArray) (A : Option Addr) (m c : Nat), pre.length + (r + 1) = l.length ∧ a.1 = (r : Int) ∧ l[r]? = some b ∧ a.2 = .agg #[.string b.1, .int .i8 k, .int .i64 n, .string ts, .string tt, .slice A m c] ∧ TmAt (· < n0) w0 b.2 (.agg #[.int .i8 k, .int .i64 n, .string ts, .string tt, .slice A m c])
theorem backward_in (A : Option Addr) (m c n : Nat) (w : World) :
    CallsIn Fence.wide n Tryz.prog 219 #[.slice A m c] w fun e w' => e = .returned (.func (.func 243) #[] #[.pointer (some ⟨w.heap.size, 0, none⟩)]) ∧ w' = w.alloc (.cells #[.slice A m c] 45) := by
  refine callsIn_of_wp Tryz.func219 rfl trivial ?_ rfl
  simp only [Tryz.ntmps219, List.size_toArray, List.length_cons, List.length_nil, Nat.reduceAdd, Nat.reduceSub, Array.replicate_succ, Array.replicate_zero, List.push_toArray, List.append_toArray, List.nil_append, List.cons_append]
  gi_wp2
  go_ret
  exact ⟨rfl, rfl⟩
structure BRT (n0 n1 : Nat) (w : World) (A : Option Addr) (n cap : Nat) (l : List Bd) : Prop where
  len : l.length = n
  max : n ≤ maxLen
  cap : n ≤ cap
  at_ : ∀ j b, l[j]? = some b → ∃ ad v, A = some ad ∧ ad.block < n1 ∧ b.1.size ≤ maxLen ∧ BElem w ad j b.1 v ∧ TmAt (· < n0) w b.2 v
  le : n0 ≤ n1
theorem BRT.under {n0 n1 C : Nat} {w w' : World} {A : Option Addr} {n cap : Nat} {l : List Bd} (h : BRT n0 n1 w A n cap l) (hb : Below C w w') (hC : n1 ≤ C) : BRT n0 n1 w' A n cap l :=
  ⟨h.len, h.max, h.cap, fun j b hj => by obtain ⟨ad, v, e, hp, hs, hE, hT⟩ := h.at_ j b hj; exact ⟨ad, v, e, hp, hs, hE.keep (hb.block _ (Nat.lt_of_lt_of_le hp hC)), hT.keep (fun k hk => hb.block k (Nat.lt_of_lt_of_le hk (Nat.le_trans h.le hC))) (fun _ h => h)⟩, h.le⟩
theorem BRow.brt {n0 : Nat} {w : World} {A : Option Addr} {n cap : Nat} {l : List Bd} (h : BRow (· < n0) w A n cap l) : BRT n0 n0 w A n cap l := ⟨h.len, h.max, h.cap, h.at_, Nat.le_refl _⟩
theorem BRT.brow {n0 n1 : Nat} {w : World} {A : Option Addr} {n cap : Nat} {l : List Bd} (h : BRT n0 n1 w A n cap l) : BRow (· < n1) w A n cap l :=
  ⟨h.len, h.max, h.cap, fun j b hj => by obtain ⟨ad, v, e, hp, hs, hE, hT⟩ := h.at_ j b hj; exact ⟨ad, v, e, hp, hs, hE, hT.mono (fun k hk => Nat.lt_of_lt_of_le hk h.le)⟩⟩
set_option maxHeartbeats 16000000 in
set_option maxRecDepth 100000 in
theorem back1_seq (n0 n1 bs : Nat) (l : List Bd) (A : Option Addr) (cap n : Nat) (w : World) (hR : BRT n0 n1 w A l.length cap l) (hn1 : n1 ≤ w.heap.size) (hb : w.heap[bs]? = some (.cells #[.slice A l.length cap] 45 (0, 0))) :
    SeqE n Tryz.prog 243 #[.pointer (some ⟨bs, 0, none⟩)] encB (KpF n1) (NextB n0 w l) (fun xs => xs.length = l.length) (fun _ => True) w := by
  intro lid J Jx W hW hJ hJx hY h0
  have hn0 : n0 ≤ w.heap.size := Nat.le_trans hR.le hn1
  have hRW : BRT n0 n1 W A l.length cap l := hR.under hW hn1
  have hbW : W.heap[bs]? = _ := (hW.block _ (heap_lt hb)).trans hb
  have hlen := hR.max
  unfold maxLen at hlen
  have c0 := cell_of_row (i := 0) hbW rfl
  have HB := Lib.hid hbW
  have HR := Lib.hid hRW
  have HJ := Lib.hid hJ
  have HJx := Lib.hid hJx
  have HY := Lib.hid hY
  have H0 := Lib.hid h0
  have HWL : Hid (∀ y v, TmAt (· < n0) W y v → TmAt (· < n0) w y v) := fun y v h => h.keep (fun b hb => (hW.block b (Nat.lt_of_lt_of_le hb hn0)).symm) (fun _ h => h)
  have HN0 : Hid (n1 ≤ W.heap.size) := Nat.le_trans hn1 hW.size
  clear hR hn0 hn1 hb hW hJ hJx hY h0 hRW hbW
  have hw1 : IntKind.i64.wrap ((l.length : Int) - 1) = (l.length : Int) - 1 := by rw [IntKind.wrap_i64]; omega
  refine callsIn_of_wp Tryz.func243 rfl trivial ?_ rfl
  simp only [Tryz.ntmps243, List.size_toArray, List.length_cons, List.length_nil, Nat.reduceAdd, Nat.reduceSub, Array.replicate_succ, Array.replicate_zero, List.push_toArray, List.append_toArray, List.nil_append, List.cons_append]
  gi_wp2_with fail
  gi_loopw [3] (fun q wr => ∃ (r : Nat) (z : Int), r ≤ l.length ∧ q = .int .i64 z ∧ z = (r : Int) - 1 ∧ (∃ pre : List BdI, J pre wr ∧ pre.length + r = l.length) ∧ KpF n1 W wr) (fun q _ => (intOf q + 1).toNat)
  case atStart => exact ⟨l.length, _, Nat.le_refl _, rfl, by go_num, ⟨[], H0.out, by simp⟩, .refl _ _⟩
  case round =>
    obtain ⟨r, z, hr, rfl, hz, ⟨pre, hJp, hpre⟩, hK⟩ := hrel
    have HJP := Lib.hid hJp
    have HPRE := Lib.hid hpre
    have HK := Lib.hid hK
    clear hJp hpre hK
    have cb : wr.cell? ⟨bs, 0, none⟩ = some (.slice A l.length cap) := cell_of_row (i := 0) (HK.out.cells _ _ _ _ HB.out) rfl
    cases r with
    | zero =>
      have hz0 : z < 0 := by omega
      have hz1 : ¬ 0 ≤ z := by omega
      clear hz
      gi_wp2_with fail
      go_end0
      exact ⟨⟨_, rfl⟩, .inl ⟨pre, by have := HPRE.out; omega, HJP.out⟩⟩
    | succ r =>
      obtain rfl : z = (r : Int) := by omega
      have hr0 : (0 : Int) ≤ (r : Int) := by omega
      have hr1 : ¬ (r : Int) < 0 := by omega
      clear hz
      have hlt : r < l.length := by omega
      obtain ⟨y, hy⟩ : ∃ y, l[r]? = some y := ⟨l[r], List.getElem?_eq_getElem hlt⟩
      obtain ⟨ad, u, hA, had, hsz, hE, hTy⟩ := HR.out.at_ r y hy
      subst hA
      have hEr : BElem wr ad r y.1 u := hE.keep (HK.out.low ad.block had HN0.out)
      obtain ⟨s, t⟩ := y
      obtain ⟨k, n', ts, tt, L, hte⟩ : ∃ k n ts tt L, t = Tm.mk k n ts tt L := by cases t; exact ⟨_, _, _, _, _, rfl⟩
      have hT2 := hTy
      rw [show (s, t).2 = Tm.mk k n' ts tt L from hte] at hT2
      obtain ⟨TA, tc, rfl, -⟩ := hT2.parts
      obtain ⟨q0, q1, q2, q3, q4, hcc, es, e0, e1, e2, e3, e4⟩ := hEr
      simp only [Value.agg.injEq, Array.mk.injEq, List.cons.injEq, and_true] at hcc
      obtain ⟨rfl, rfl, rfl, rfl, rfl⟩ := hcc
      obtain ⟨fn, tmps, assign, body, hyy, hRound⟩ := HY.out pre ((r : Int), .agg #[.string s, .int .i8 k, .int .i64 n', .string ts, .string tt, .slice TA L.length tc]) _ HJP.out ⟨r, (s, t), k, n', ts, tt, TA, L.length, tc, by have := HPRE.out; omega, rfl, hy, rfl, HWL.out _ _ hTy⟩
      unfold encB at hyy
      clear hy hE hTy hT2 had hsz hte
      gi_wp2_with fail
      refine ⟨fun h => (by cases h), ?_⟩
      refine hRound.mono ?_
      clear hRound hyy es e0 e1 e2 e3 e4 cb
      rintro e W5 (⟨rfl, hJ5, hK5⟩ | ⟨rfl, hx5⟩)
      · have HJ5 := Lib.hid hJ5
        have HK5 := Lib.hid hK5
        have hw2 : IntKind.i64.wrap ((r : Int) - 1) = (r : Int) - 1 := by rw [IntKind.wrap_i64]; omega
        clear hJ5 hK5
        gi_wp2_with fail
        go_roundw
        case rel => exact ⟨r, _, by omega, rfl, by first | rfl | go_num, ⟨pre ++ [_], HJ5.out, by rw [List.length_append, List.length_singleton]; have := HPRE.out; omega⟩, HK.out.trans HK5.out⟩
        case measure => (simp [intOf] <;> omega)
      · have HX5 := Lib.hid hx5
        clear hx5
        gi_wp2_with fail
        refine bodyPost_ret (v := .tuple #[]) (results_none rfl _ _ _) rfl ?_
        exact ⟨⟨_, rfl⟩, .inr ⟨_, trivial, HX5.out⟩⟩
def MapB (n0 : Nat) (w0 : World) (es : Array MapEntry) (l : List Bd) : Prop :=
  ∃ f, MapT es f ∧ ∀ s, (∀ y, findB l s = some y → ∃ k n ts tt A m c, f s = some (.agg #[.int .i8 k, .int .i64 n, .string ts, .string tt, .slice A m c]) ∧ TmAt (· < n0) w0 y (.agg #[.int .i8 k, .int .i64 n, .string ts, .string tt, .slice A m c])) ∧ (findB l s = none → f s = none)
structure FsI (n0 : Nat) (l : List Bd) (w w3 : World) (pre : List BdI) (W : World) : Prop where
  len : pre.length ≤ l.length
  map : ∃ es c, W.heap[w.heap.size]? = some (.map es c) ∧ MapB n0 w es (l.drop (l.length - pre.length))
  mod : Mod (fun k => k = w.heap.size) w3 W
theorem mod_soft11 {F : Nat → Prop} {B : Nat} {w A C : World} (h : Mod F w A) (hB : w.heap.size ≤ B) (hs : Soft B A C) : Mod F w C := by
  have hb := hs.below
  exact ⟨hb.os.trans h.os, hb.tape.trans h.tape, hb.output.trans h.output, Nat.le_trans h.size hb.size, fun j hj hn => (hb.block j (by omega)).trans (h.block j hj hn)⟩
theorem FsI.soft {n0 : Nat} {l : List Bd} {w w3 A C : World} {pre : List BdI} (h : FsI n0 l w w3 pre A) (hs : Soft w3.heap.size A C) (hw : w.heap.size < w3.heap.size) : FsI n0 l w w3 pre C := by
  obtain ⟨es, c, h1, h2⟩ := h.map
  exact ⟨h.len, ⟨es, c, hs.same _ _ h1 (.inr ⟨by omega, by omega⟩), h2⟩, mod_soft11 h.mod (Nat.le_refl _) hs⟩
theorem mkmap11 (w : World) : Sem.run Tryz.prog (Instr.makeMap 184 none) w = .ok (.map (some w.heap.size)) (w.alloc (.map #[] 0)) := by kernel_rfl
set_option maxHeartbeats 8000000 in
set_option maxRecDepth 100000 in
theorem firsts_in (n0 n1 : Nat) (l : List Bd) (A : Option Addr) (cap : Nat) (w : World) (hR : BRT n0 n1 w A l.length cap l) (hn1 : n1 ≤ w.heap.size) :
    Calls Tryz.prog 159 #[.slice A l.length cap] w fun e w' => e = .returned (.map (some w.heap.size)) ∧ Below w.heap.size w w' ∧ ∃ es c, w'.heap[w.heap.size]? = some (.map es c) ∧ MapB n0 w es l := by
  obtain ⟨h0, z0⟩ := here_of (.map #[] 0) (rfl : w.heap.size = w.heap.size)
  obtain ⟨h1, z1⟩ := here_of (.cells #[.map (some w.heap.size)] 184) z0
  obtain ⟨h2, z2⟩ := here_of (.cells #[.slice A l.length cap] 45) z1
  have g1 := there_of (.cells #[.slice A l.length cap] 45) h1
  have g0 := there_of (.cells #[.slice A l.length cap] 45) (there_of (.cells #[.map (some w.heap.size)] 184) h0)
  obtain ⟨w3, hw3⟩ : ∃ w3, w3 = ((w.alloc (.map #[] 0)).alloc (.cells #[.map (some w.heap.size)] 184)).alloc (.cells #[.slice A l.length cap] 45) := ⟨_, rfl⟩
  have b3 : Below w.heap.size w w3 := by rw [hw3]; exact (((Below.refl _ w).alloc (Nat.le_refl _) _).alloc (by omega) _).alloc (by omega) _
  rw [← hw3] at h2 z2 g1 g0
  have hst := back1_seq n0 n1 (w.heap.size + 2) l A cap (3 - 1) w3 (hR.under b3 hn1) (by omega) h2
  have HN1 : Hid (n1 ≤ w.heap.size) := hn1
  have HN0 : Hid (n0 ≤ w.heap.size) := Nat.le_trans hR.le hn1
  have hmk := mkmap11 w
  have HST := Lib.hid hst
  have HZ := Lib.hid z2
  have HB3 := Lib.hid b3
  have HG1 := Lib.hid g1
  have HG0 := Lib.hid g0
  have hlen := hR.max
  unfold maxLen at hlen
  clear hst z2 b3 g1 g0 h0 z0 h1 z1 h2 hR hn1
  refine (callsIn_wide (n := 3)).1 ?_
  refine callsIn_of_wp_marks Tryz.func159 rfl trivial ?_ rfl
  simp only [Tryz.ntmps159, List.size_toArray, List.length_cons, List.length_nil, Nat.reduceAdd, Nat.reduceSub, Array.replicate_succ, Array.replicate_zero, List.push_toArray, List.append_toArray, List.nil_append, List.cons_append]
  gi_wp2_with (refine ⟨trivial, ?_⟩; gi_at_call 219; refine (backward_in _ _ _ _ _).mono ?_; rintro e w' ⟨rfl, rfl⟩)
  simp only [Nat.add_assoc, Nat.reduceAdd]
  rw [← hw3]
  clear hw3 hmk
  refine range_E (α := BdI) (gf := 243) (lb := #[.pointer (some ⟨w.heap.size + 2, 0, none⟩)]) rfl (enters_of Tryz.func243 (by kernel_rfl) rfl) (fun _ => rfl) HST.out
    KpF.trans (fun W l o o' hl h ho => KpF.put (by have := HZ.out; have := HN1.out; omega) h ho) (fun A C h => KpF.of_below h)
    (FsI n0 l w w3) (fun _ _ _ => False) (fun s A C h hs _ => h.soft hs (by have := HZ.out; omega)) (fun c s A C h _ _ => h)
    ⟨Nat.zero_le _, ⟨#[], 0, HG0.out, fun _ => none, MapT.nil, fun s => ⟨fun y h => by simp [findB] at h, fun _ => rfl⟩⟩, .refl _ _⟩
    (fun q a' W => a'.defers = [] ∧ ∃ g s k n ts tt TA m c, q.2 = .agg #[.string s, .int .i8 k, .int .i64 n, .string ts, .string tt, .slice TA m c] ∧ a'.tmps = #[.slice A l.length cap, undef, .map none, .pointer (some ⟨w.heap.size + 1, 0, none⟩), undef, .pointer (some ⟨g, 0, none⟩), .map (some w.heap.size), .slice A l.length cap, .func (.func 243) #[] #[.pointer (some ⟨w.heap.size + 2, 0, none⟩)], .int .i64 q.1, q.2, undef, undef, undef, undef, undef, undef] ∧ W.heap[g]? = some (.cells #[.string s, .int .i8 k, .int .i64 n, .string ts, .string tt, .slice TA m c] 61 (0, 0)))
    (fun q a' X Y h hs => ⟨h.1, by obtain ⟨g, s, k, n, ts, tt, TA, m, c, e1, e2, hg⟩ := h.2; exact ⟨g, s, k, n, ts, tt, TA, m, c, e1, e2, hs.same _ _ hg (.inl rfl)⟩⟩) ?assign ?body ?done ?stop (by decide)
  case assign =>
    rintro l' pre ⟨qi, qv⟩ W K hi hE hz hK
    obtain ⟨r, b, k, n, ts, tt, TA, m, c, h1, h2, h3, h4, h5⟩ := hE
    dsimp only at h2 h4
    subst h2 h4
    have HK := Lib.hid hK
    simp only [encB]
    clear hK hi h1 h3 h5
    gi_wp2_with fail
    exact HK.out _ _ ((Below.refl _ _).alloc (Nat.le_refl _) _) ⟨rfl, _, _, _, _, _, _, _, _, _, rfl, rfl, block_alloc _ _⟩
  case body =>
    rintro l' pre ⟨qi, qv⟩ ⟨tm, df⟩ W hi ⟨r, b, k, n, ts, tt, TA, m, c, h1, h2, h3, h4, h5⟩ ⟨hdf, g, s, k', n', ts', tt', TA', m', c', h6, htm, hg⟩ hz ⟨rr, hrr⟩ ⟨dd, hdd⟩
    dsimp only at h2 h4 h6 hdf htm
    rw [h4] at h6
    simp only [Value.agg.injEq, Array.mk.injEq, List.cons.injEq, Value.string.injEq, Value.int.injEq, Value.slice.injEq, and_true, true_and] at h6
    obtain ⟨rfl, rfl, rfl, rfl, rfl, rfl, rfl, rfl⟩ := h6
    subst hdf htm h4 h2
    obtain ⟨es, cc, hm, f, hT, hF⟩ := hi.map
    have hbx := (hi.mod.block _ (heap_lt HG1.out) (by omega)).trans HG1.out
    have c1 : W.cell? ⟨w.heap.size + 1, 0, none⟩ = some (.map (some w.heap.size)) := cell_of_row (i := 0) hbx rfl
    have q0 : W.cell? ⟨g, 0, none⟩ = some (.string b.1) := cell_of_row (i := 0) hg rfl
    have q1 : W.cell? ⟨g, 1, none⟩ = some (.int .i8 k) := cell_of_row (i := 1) hg rfl
    have q2 : W.cell? ⟨g, 2, none⟩ = some (.int .i64 n) := cell_of_row (i := 2) hg rfl
    have q3 : W.cell? ⟨g, 3, none⟩ = some (.string ts) := cell_of_row (i := 3) hg rfl
    have q4 : W.cell? ⟨g, 4, none⟩ = some (.string tt) := cell_of_row (i := 4) hg rfl
    have q5 : W.cell? ⟨g, 5, none⟩ = some (.slice TA m c) := cell_of_row (i := 5) hg rfl
    obtain ⟨es2, c2, hput, hT2⟩ := hT.put (t := 184) Tryz.underlying184 Tryz.underlying9 W w.heap.size cc hm b.1 (.agg #[.int .i8 k, .int .i64 n, .string ts, .string tt, .slice TA m c])
    have hdrop : l.drop (l.length - (pre.length + 1)) = b :: l.drop (l.length - pre.length) := by
      have e1 : l.length - (pre.length + 1) = r := by omega
      have e2 : l.length - pre.length = r + 1 := by omega
      obtain ⟨g1, g2⟩ := List.getElem?_eq_some_iff.1 h3
      rw [e1, e2, ← g2]
      exact List.drop_eq_getElem_cons g1
    have HI := Lib.hid hi
    have HM := Lib.hid hm
    have HT2 := Lib.hid hT2
    have HF := Lib.hid hF
    have HD := Lib.hid hdrop
    have H5 := Lib.hid h5
    have H1 := Lib.hid h1
    have HRR := Lib.hid hrr
    have HDD := Lib.hid hdd
    clear hi hm hT hT2 hF hdrop h5 h1 h3 hrr hdd hbx hg
    gi_wp2_with fail
    have m5 : Mod (fun k => k = w.heap.size) W (W.putObj w.heap.size (.map es2 c2)) := Mod.putObj W _ _ rfl
    have hz3 := HZ.out
    have e2 : ∀ (k : Nat) (o : Obj), W.heap[k]? = some o → k ≠ w.heap.size → (W.putObj w.heap.size (.map es2 c2)).heap[k]? = some o := fun k o h hk => (m5.block k (heap_lt h) hk).trans h
    refine ⟨⟨m5.size, m5.block _ (by omega) (by omega), m5.block _ (by omega) (by omega)⟩, ⟨m5.size, fun k hk hn9 => m5.block k (by omega) (by have := HN1.out; omega), fun k c t z hk => e2 k _ hk (fun e => by rw [e, HM.out] at hk; cases hk)⟩, ⟨by rw [List.length_append, List.length_singleton]; have := H1.out; omega, ⟨es2, c2, World.putObj_heap_same (heap_lt HM.out), _, HT2.out, fun s => ?_⟩, HI.out.mod.trans m5 (fun _ _ h => h)⟩⟩
    rw [List.length_append, List.length_singleton, HD.out]
    simp only [findB]
    by_cases e9 : b.1 = s
    · rw [if_pos e9, if_pos e9.symm]
      exact ⟨fun y hy => by cases hy; exact ⟨_, _, _, _, _, _, _, rfl, H5.out.keep (fun q hq => (HB3.out.block q (Nat.lt_of_lt_of_le hq HN0.out)).symm) (fun _ h => h)⟩, fun h => by cases h⟩
    · rw [if_neg e9, if_neg (Ne.symm e9)]
      exact HF.out s
  case done =>
    rintro xs W hxs hi hd
    have hbx := (hi.mod.block _ (heap_lt HG1.out) (by omega)).trans HG1.out
    have c1 : W.cell? ⟨w.heap.size + 1, 0, none⟩ = some (.map (some w.heap.size)) := cell_of_row (i := 0) hbx rfl
    have HI := Lib.hid hi
    have HXS := Lib.hid hxs
    have HD := Lib.hid hd
    clear hi hxs hbx hd
    gi_wp2
    refine ⟨by simp, .inl ⟨_, _, rfl, run_takeDeferred HD.out, ?_⟩⟩
    have hs := Soft.put0 (o' := .deferred none) HD.out rfl
    have hi2 := HI.out.soft hs (by have := HZ.out; omega)
    obtain ⟨es, cc, hm, hM⟩ := hi2.map
    rw [HXS.out, Nat.sub_self, List.drop_zero] at hM
    refine ⟨.map (some w.heap.size), by simp [results, Tryz.f159, go_sem], rfl, HB3.out.trans (hi2.mod.below (by have := HZ.out; omega) (fun k e => by omega)), es, cc, hm, hM⟩
  case stop =>
    rintro c pre W - h
    exact h.elim
end Go.Proofs.YtkceoiaaiaomoaaGreatDoor
end
section
set_option linter.unusedVariables false
namespace Go.Proofs.YtkceoiaaiaomoaaGreatDoor
open Go.RowKit

theorem append_where {P : Program} (w : World) (base : Nat) (t ty e : TypeId) (i : TypeInfo) (z : Value) (size bytes : Nat) (ht : P.underlying t = some (.slice e)) (hi : P.info? e = some i) (hz : i.zero = some z)
    (hsize : i.size = size) (hby : i.bytes = bytes) (hsz : 0 < size)
    (v : Value) (n : Nat) (xs : List Value) (hown : w.ownsRow base e size v n xs)
    (a : Addr) (m c : Nat) (news : List Value) (hm : 0 < m) (hl : news.length = m * size) (hnews : ∀ j u, news[j]? = some u → w.cell? (a.add j) = some u) (h1 : ∀ u ∈ news, u.oneCell' = true)
    (h63 : n + m ≤ maxLen) (hbytes : (n + m) * bytes ≤ 140737488355328) {v' : Value} {w' : World} (hr : (Builtin.append_ #[t, t] ty #[v, .slice (some a) m c]).run P w = .ok v' w') :
    ∃ g' cap', v' = .slice (some ⟨g', 0, none⟩) (n + m) cap' ∧ (v.ownBlock = some g' ∨ g' = w.heap.size) := by
  subst hsize
  subst hby
  have h64 : n + m ≤ 9223372036854775807 := by simp only [maxLen] at h63; omega
  rcases hown.2 with ⟨rfl, rfl⟩ | ⟨g, cap, cur, rfl, hbg, hg, hnc, hcm, hcs, htake⟩
  · have h := run_append_nil (P := P) w t ty e i z ht hi hz a m c news hl hnews hm (by omega) (by simp only [Nat.zero_add] at hbytes; omega)
    rw [h] at hr
    cases hr
    exact ⟨_, _, by rw [Nat.zero_add], .inr rfl⟩
  · by_cases hroom : n + m ≤ cap
    · have hfit : n * i.size + news.length ≤ cur.size := by rw [hl, hcs, ← Nat.add_mul]; exact Nat.mul_le_mul_right _ hroom
      have h := run_append_room (P := P) w t ty e i ht hi g n cap cur hg a m c news hl hnews h1 hroom hfit
      rw [h] at hr
      cases hr
      exact ⟨_, _, rfl, .inl rfl⟩
    · have holds : ∀ j u, xs[j]? = some u → w.cell? ((⟨g, 0, none⟩ : Addr).add j) = some u := hown.cells (g := g) rfl
      have h := run_append_grow (P := P) w t ty e i z ht hi hz ⟨g, 0, none⟩ n cap xs hown.1 holds a m c news hl hnews (by omega) (by omega) (growslice_fits (by omega) hbytes)
      rw [h] at hr
      cases hr
      exact ⟨_, _, rfl, .inr rfl⟩

end Go.Proofs.YtkceoiaaiaomoaaGreatDoor
end
section
set_option linter.unusedVariables false
namespace Go.Proofs.YtkceoiaaiaomoaaGreatDoor
open Go.RowKit

def termZ : Obj := .cells #[.int .i8 0, .int .i64 0, .string ⟨#[]⟩, .string ⟨#[]⟩, .slice none 0 0] 44

theorem info_term : (Tryz.prog.info? 44).map (fun i => (i.zero, i.size, i.bytes)) = some (some (.agg #[.int .i8 0, .int .i64 0, .string ⟨#[]⟩, .string ⟨#[]⟩, .slice none 0 0]), 5, 72) := by kernel_rfl

theorem set_five {w : World} {b : Nat} {T : TypeId} {a0 a1 a2 a3 a4 : Value} (c0 c1 c2 c3 c4 : Value) (h : w.heap[b]? = some (.cells #[a0, a1, a2, a3, a4] T (0, 0))) :
    (((((w.setCell ⟨b, 0, none⟩ c0).setCell ⟨b, 1, none⟩ c1).setCell ⟨b, 2, none⟩ c2).setCell ⟨b, 3, none⟩ c3).setCell ⟨b, 4, none⟩ c4).heap[b]? = some (.cells #[c0, c1, c2, c3, c4] T (0, 0)) ∧
    Mod (fun k => k = b) w (((((w.setCell ⟨b, 0, none⟩ c0).setCell ⟨b, 1, none⟩ c1).setCell ⟨b, 2, none⟩ c2).setCell ⟨b, 3, none⟩ c3).setCell ⟨b, 4, none⟩ c4) := by
  refine ⟨?_, ?_⟩
  · exact set_row c4 (i := 4) (set_row c3 (i := 3) (set_row c2 (i := 2) (set_row c1 (i := 1) (set_row c0 (i := 0) h))))
  · have m : ∀ (W : World) (i : Nat) (c : Value), Mod (fun k => k = b) W (W.setCell ⟨b, i, none⟩ c) := fun W i c => Mod.setCell _ _ _ (.inl rfl)
    exact ((((m _ 0 _).trans (m _ 1 _) (fun _ _ h => h)).trans (m _ 2 _) (fun _ _ h => h)).trans (m _ 3 _) (fun _ _ h => h)).trans (m _ 4 _) (fun _ _ h => h)

def Five (u : Value) : Prop := ∃ c0 c1 c2 c3 c4, u = .agg #[c0, c1, c2, c3, c4]
theorem TmAt.five {P : Nat → Prop} {w : World} {x : Tm} {v : Value} (h : TmAt P w x v) : Five v := by cases h; exact ⟨_, _, _, _, _, rfl⟩

def five (u : Value) : List Value := match u with | .agg c => c.toList | _ => []
def flat (us : List Value) : List Value := us.flatMap five
theorem flat_append (a b : List Value) : flat (a ++ b) = flat a ++ flat b := by simp [flat]
theorem flat_length {us : List Value} (h : ∀ u ∈ us, Five u) : (flat us).length = us.length * 5 := by
  induction us with
  | nil => rfl
  | cons u us ih =>
    obtain ⟨c0, c1, c2, c3, c4, rfl⟩ := h u (by simp)
    have := ih (fun v hv => h v (by simp [hv]))
    simp only [flat, List.flatMap_cons, List.length_append, List.length_cons] at this ⊢
    rw [this]
    simp [five]; omega
theorem flat_at : ∀ {us : List Value} (_ : ∀ u ∈ us, Five u) {j : Nat} {u : Value} (_ : us[j]? = some u) (i : Nat) (_ : i < 5), (flat us)[j * 5 + i]? = (five u)[i]?
  | v :: us, h, 0, u, hj, i, hi => by
    obtain ⟨c0, c1, c2, c3, c4, rfl⟩ := h v (by simp)
    simp at hj
    subst hj
    simp only [flat, List.flatMap_cons, Nat.zero_mul, Nat.zero_add]
    rw [List.getElem?_append_left (by simp [five]; omega)]
  | v :: us, h, j + 1, u, hj, i, hi => by
    obtain ⟨c0, c1, c2, c3, c4, rfl⟩ := h v (by simp)
    have := flat_at (us := us) (fun u hu => h u (by simp [hu])) (j := j) (by simpa using hj) i hi
    simp only [flat, List.flatMap_cons] at this ⊢
    rw [List.getElem?_append_right (by simp [five]; omega)]
    rw [← this]
    congr 1
    simp [five]; omega

theorem own_elem {base : Nat} {w : World} {A : Option Addr} {n cap : Nat} {us : List Value} (h : w.ownsRow base 44 5 (.slice A n cap) n (flat us)) (hf : ∀ u ∈ us, Five u) {j : Nat} {u : Value} (hj : us[j]? = some u) :
    ∃ g, A = some ⟨g, 0, none⟩ ∧ base ≤ g ∧ g < w.heap.size ∧ (∃ c fz, w.heap[g]? = some (.cells c 44 fz)) ∧ ElemAt w ⟨g, 0, none⟩ j u := by
  have hlen := flat_length hf
  have hjl := (List.getElem?_eq_some_iff.1 hj).1
  have hown := h
  rcases h.2 with ⟨e, hn⟩ | ⟨g, cap', cur, e, hb, hg, rest⟩
  · have h1 := h.1
    omega
  · simp only [Value.slice.injEq] at e
    obtain ⟨rfl, _, rfl⟩ := e
    refine ⟨g, rfl, hb, heap_lt hg, ⟨_, _, hg⟩, ?_⟩
    have hc := hown.cells (g := g) rfl
    obtain ⟨c0, c1, c2, c3, c4, rfl⟩ := hf u (List.mem_of_getElem? hj)
    have at_ : ∀ i, i < 5 → ∀ x, (five (.agg #[c0, c1, c2, c3, c4]))[i]? = some x → w.cell? ((⟨g, 0, none⟩ : Addr).add (j * 5 + i)) = some x := fun i hi x hx => hc _ _ ((flat_at hf hj i hi).trans hx)
    have a0 := at_ 0 (by decide) c0 rfl
    have a1 := at_ 1 (by decide) c1 rfl
    have a2 := at_ 2 (by decide) c2 rfl
    have a3 := at_ 3 (by decide) c3 rfl
    have a4 := at_ 4 (by decide) c4 rfl
    have addj : ∀ i, (⟨g, 0, none⟩ : Addr).add (j * 5 + (i + 1)) = ⟨((⟨g, 0, none⟩ : Addr).add (j * 5)).block, ((⟨g, 0, none⟩ : Addr).add (j * 5)).off + (i + 1), none⟩ := by
      intro i
      unfold Addr.add
      by_cases h0 : j * 5 = 0
      · simp [h0]
      · simp [h0]
    rw [addj 0] at a1
    rw [addj 1] at a2
    rw [addj 2] at a3
    rw [addj 3] at a4
    exact ⟨c0, c1, c2, c3, c4, rfl, a0, a1, a2, a3, a4⟩

structure OwnT (base : Nat) (P : Nat → Prop) (w : World) (v : Value) (hs : List Tm) : Prop where
  row : ∃ us : List Value, w.ownsRow base 44 5 v hs.length (flat us) ∧ us.length = hs.length ∧ ∀ (j : Nat) (x : Tm), hs[j]? = some x → ∃ u, us[j]? = some u ∧ TmAt P w x u

theorem OwnT.nil (base : Nat) (P : Nat → Prop) (w : World) : OwnT base P w (.slice none 0 0) [] := ⟨[], World.ownsRow_nil _ _ _ _, rfl, fun j x h => by simp at h⟩
theorem ownT_five {P : Nat → Prop} {w : World} {hs : List Tm} {us : List Value} (hl : us.length = hs.length) (h : ∀ (j : Nat) (x : Tm), hs[j]? = some x → ∃ u, us[j]? = some u ∧ TmAt P w x u) : ∀ u ∈ us, Five u := by
  intro u hu
  obtain ⟨j, hj, rfl⟩ := List.getElem_of_mem hu
  obtain ⟨u', h1, h2⟩ := h j hs[j] (List.getElem?_eq_getElem (by omega))
  rw [List.getElem?_eq_getElem hj] at h1
  cases h1
  exact h2.five
theorem OwnT.trow {base : Nat} {P Q : Nat → Prop} {w : World} {A : Option Addr} {n cap : Nat} {hs : List Tm} (h : OwnT base P w (.slice A n cap) hs) (hP : ∀ b, P b → Q b) (hQ : ∀ b, base ≤ b → b < w.heap.size → (∃ c fz, w.heap[b]? = some (.cells c 44 fz)) → Q b) : n = hs.length ∧ TRow Q w A n cap hs := by
  obtain ⟨us, ho, hl, ht⟩ := h.row
  have hf := ownT_five hl ht
  have hn : n = hs.length ∧ n ≤ cap ∧ cap ≤ maxLen := by
    rcases ho.2 with ⟨e, hn⟩ | ⟨g, cap', cur, e, _, _, hc, hm, _⟩
    · simp only [Value.slice.injEq] at e
      obtain ⟨rfl, rfl, rfl⟩ := e
      exact ⟨hn.symm, Nat.le_refl _, Nat.zero_le _⟩
    · simp only [Value.slice.injEq] at e
      obtain ⟨_, rfl, rfl⟩ := e
      exact ⟨rfl, hc, hm⟩
  obtain ⟨rfl, h2, h3⟩ := hn
  refine ⟨rfl, rfl, Nat.le_trans h2 h3, h2, fun j x hj => ?_⟩
  obtain ⟨u, hu, hT⟩ := ht j x hj
  obtain ⟨g, rfl, hb, hg, hty, hE⟩ := own_elem ho hf hu
  exact ⟨_, u, rfl, hQ _ hb hg hty, hE, hT.mono hP⟩
theorem OwnT.shape {base : Nat} {P : Nat → Prop} {w : World} {v : Value} {hs : List Tm} (h : OwnT base P w v hs) : ∃ A cap, v = .slice A hs.length cap := by
  obtain ⟨us, ho, _⟩ := h.row
  rcases ho.2 with ⟨rfl, hn⟩ | ⟨g, cap', cur, rfl, _⟩
  · exact ⟨none, 0, by rw [hn]⟩
  · exact ⟨_, _, rfl⟩
theorem OwnT.keep {base : Nat} {P Q F : Nat → Prop} {w w' : World} {v : Value} {hs : List Tm} (h : OwnT base P w v hs) (hm : Mod F w w') (hv : ∀ g, v.ownBlock = some g → ¬ F g) (hP : ∀ b, P b → b < w.heap.size ∧ ¬ F b) (hQ : ∀ b, P b → Q b) : OwnT base Q w' v hs := by
  obtain ⟨us, ho, hl, ht⟩ := h.row
  exact ⟨us, hm.row ho hv, hl, fun j x hj => by obtain ⟨u, hu, hT⟩ := ht j x hj; exact ⟨u, hu, hT.keep (fun b hb => hm.block b (hP b hb).1 (hP b hb).2) hQ⟩⟩

section
variable {ops : Array Oper} {rest : List Oper} {o : Oper} {a : Act} {w : World}
theorem wp_own_term {K : Act → World → Prop} {Q : Exit → Act → World → Prop} (sl x : Operand)
    (ho : o.op = .call { callee := .builtin .append, args := #[sl, x], argTypes := #[42, 42] })
    {base : Nat} {P : Nat → Prop} {v : Value} {hs : List Tm} (hown : OwnT base P w v hs) (hbase : base ≤ w.heap.size) (hP : ∀ b, P b → b < w.heap.size ∧ v.ownBlock ≠ some b) (he : a.eval sl = v)
    (g : Nat) {c0 c1 c2 c3 c4 : Value} (hx : a.eval x = .slice (some ⟨g, 0, none⟩) 1 1) (hg : w.heap[g]? = some (.cells #[c0, c1, c2, c3, c4] 44 (0, 0))) {y : Tm} (hy : TmAt P w y (.agg #[c0, c1, c2, c3, c4])) (hlen : hs.length + 1 ≤ 1000000)
    (h : ∀ v' w', OwnT base P w' v' (hs ++ [y]) → w.grownBy w' v.ownBlock → (v.ownBlock = v'.ownBlock ∨ v'.ownBlock = some w.heap.size) → K (a.put o.dst v') w') : o.wp Tryz.prog a w K Q := by
  obtain ⟨i, hi, hz, hsz, hby⟩ := info_parts info_term
  obtain ⟨us, hu, hl, ht⟩ := hown.row
  have hf := ownT_five hl ht
  obtain ⟨k', n', s', t', A', len', cap', e'⟩ : ∃ k' n' s' t' A' len' cap', (Value.agg #[c0, c1, c2, c3, c4]) = .agg #[.int .i8 k', .int .i64 n', .string s', .string t', .slice A' len' cap'] := by cases hy; exact ⟨_, _, _, _, _, _, _, rfl⟩
  simp only [Value.agg.injEq, Array.mk.injEq, List.cons.injEq, and_true] at e'
  obtain ⟨rfl, rfl, rfl, rfl, rfl⟩ := e'
  have hnews : ∀ j u, [Value.int .i8 k', .int .i64 n', .string s', .string t', .slice A' len' cap'][j]? = some u → w.cell? ((⟨g, 0, none⟩ : Addr).add j) = some u := by
    intro j u hj
    match j, hj with
    | 0, hj => simp at hj; subst hj; exact cell_of_row hg rfl
    | 1, hj => simp at hj; subst hj; exact cell_of_row (i := 1) hg rfl
    | 2, hj => simp at hj; subst hj; exact cell_of_row (i := 2) hg rfl
    | 3, hj => simp at hj; subst hj; exact cell_of_row (i := 3) hg rfl
    | 4, hj => simp at hj; subst hj; exact cell_of_row (i := 4) hg rfl
    | j + 5, hj => simp at hj
  have h1 : ∀ u ∈ [Value.int .i8 k', .int .i64 n', .string s', .string t', .slice A' len' cap'], u.oneCell' = true := by
    intro u hu; simp at hu; rcases hu with rfl | rfl | rfl | rfl | rfl <;> rfl
  obtain ⟨v', w', hr, h2, h3, _⟩ := run_append_own (P := Tryz.prog) w base 42 o.type 44 i _ 5 72 Tryz.underlying42 hi hz hsz hby rfl (by decide) v hs.length (flat us) hu ⟨g, 0, none⟩ 1 1 _ rfl hnews h1 (by unfold maxLen; omega) (by omega) hbase
  obtain ⟨g', cap2, rfl, hwh⟩ := append_where (P := Tryz.prog) w base 42 o.type 44 i _ 5 72 Tryz.underlying42 hi hz hsz hby (by decide) v hs.length (flat us) hu ⟨g, 0, none⟩ 1 1 _ (by decide) rfl hnews h1 (by unfold maxLen; omega) (by omega) hr
  unfold Oper.wp execOp
  simp only [ho, resolve, invoke, builtin, Sem.run_bind, Sem.run_pure, Result.andThen_ok, List.map_toArray, List.map_cons, List.map_nil, he, hx, hr]
  have keepP : ∀ b, P b → w'.heap[b]? = w.heap[b]? := fun b hb => h3.block b (hP b hb).1 (fun e => (hP b hb).2 e.symm)
  refine h _ _ ⟨us ++ [.agg #[.int .i8 k', .int .i64 n', .string s', .string t', .slice A' len' cap']], ?_, by simp [hl], fun j z hj => ?_⟩ h3 ?_
  · rw [List.length_append, flat_append]; exact h2
  · rw [List.getElem?_append] at hj
    split at hj
    · obtain ⟨u, hu', hT⟩ := ht j z hj
      exact ⟨u, by rw [List.getElem?_append_left (by omega)]; exact hu', hT.keep keepP (fun _ h => h)⟩
    · have hjl := (List.getElem?_eq_some_iff.1 hj).1
      have ej : j = hs.length := by simp at hjl; omega
      subst ej
      simp at hj
      subst hj
      exact ⟨_, by rw [← hl]; simp, hy.keep keepP (fun _ h => h)⟩
  · rcases hwh with hw | hw
    · exact .inl (by rw [hw]; simp [Value.ownBlock])
    · exact .inr (by rw [hw]; simp [Value.ownBlock])
theorem wpList_own_term {Q : Exit → Act → World → Prop} (hgd : o.guard = none) (sl x : Operand)
    (ho : o.op = .call { callee := .builtin .append, args := #[sl, x], argTypes := #[42, 42] })
    {base : Nat} {P : Nat → Prop} {v : Value} {hs : List Tm} (hown : OwnT base P w v hs) (hbase : base ≤ w.heap.size) (hP : ∀ b, P b → b < w.heap.size ∧ v.ownBlock ≠ some b) (he : a.eval sl = v)
    (g : Nat) {c0 c1 c2 c3 c4 : Value} (hx : a.eval x = .slice (some ⟨g, 0, none⟩) 1 1) (hg : w.heap[g]? = some (.cells #[c0, c1, c2, c3, c4] 44 (0, 0))) {y : Tm} (hy : TmAt P w y (.agg #[c0, c1, c2, c3, c4])) (hlen : hs.length + 1 ≤ 1000000)
    (h : ∀ v' w', OwnT base P w' v' (hs ++ [y]) → w.grownBy w' v.ownBlock → (v.ownBlock = v'.ownBlock ∨ v'.ownBlock = some w.heap.size) → wpList Tryz.prog ops Q rest (a.put o.dst v') w') : wpList Tryz.prog ops Q (o :: rest) a w :=
  wpList_plain hgd fun K hK => wp_own_term sl x ho hown hbase hP he g hx hg hy hlen fun v' w' h1 h2 h3 => hK _ _ (h v' w' h1 h2 h3)
end
end Go.Proofs.YtkceoiaaiaomoaaGreatDoor
end
section
set_option linter.unusedVariables false
namespace Go.Proofs.YtkceoiaaiaomoaaGreatDoor
open Go.RowKit

def Valid (x : Tm) : Prop := ∀ y ∈ x.pre, okB y = true
theorem Valid.own {x : Tm} (h : Valid x) : okB x = true := h x (by cases x; simp [Tm.pre])
end Go.Proofs.YtkceoiaaiaomoaaGreatDoor
end
section
set_option linter.unusedVariables false
namespace Go.Proofs.YtkceoiaaiaomoaaGreatDoor
open Go.RowKit

theorem okN_no {k n : Int} {s t : ByteArray} {len : Nat} (h : k < 0 ∨ 7 < k) : okN k n s t len = false := by
  unfold okN
  rw [if_neg (by omega), if_neg (by omega), if_neg (by omega), if_neg (by omega), if_neg (by omega), if_neg (by omega), if_neg (by omega), if_neg (by omega)]

theorem check_valid {x : Tm} (h : checkN x = 0) : Valid x ∧ x.nodes ≤ 256 := by
  unfold checkN at h
  by_cases ha : (x.pre.take 257).all okB = true
  · rw [if_pos ha] at h
    by_cases hn : 256 < x.nodes
    · rw [if_pos hn] at h; cases h
    · refine ⟨fun y hy => ?_, by omega⟩
      have : x.pre.take 257 = x.pre := List.take_of_length_le (by unfold Tm.nodes at hn; omega)
      rw [this] at ha
      exact List.all_eq_true.1 ha y hy
  · rw [if_neg ha] at h; cases h

theorem valid_cases {k n : Int} {s t : ByteArray} {l : List Tm} (h : okB (.mk k n s t l) = true) :
    (k = 0 ∧ s = ⟨#[]⟩ ∧ t = ⟨#[]⟩ ∧ l = []) ∨ (k = 1 ∧ n = 0 ∧ t = ⟨#[]⟩ ∧ l = []) ∨ (k = 2 ∧ s = ⟨#[]⟩ ∧ t = ⟨#[]⟩ ∧ l = []) ∨ (k = 3 ∧ l = []) ∨ (k = 4 ∧ s = ⟨#[]⟩ ∧ t = ⟨#[]⟩ ∧ l = []) ∨
    (k = 5 ∧ n = 0 ∧ s = ⟨#[]⟩ ∧ t = ⟨#[]⟩) ∨ (k = 6 ∧ n = 0 ∧ s = ⟨#[]⟩ ∧ t = ⟨#[]⟩ ∧ l = []) ∨ (k = 7 ∧ n = 0 ∧ s = ⟨#[]⟩ ∧ t = ⟨#[]⟩ ∧ l.length = 2) := by
  by_cases h8 : k < 0 ∨ 7 < k
  · rw [show okB (.mk k n s t l) = okN k n s t l.length from rfl, okN_no h8] at h
    cases h
  · have h8 : k = 0 ∨ k = 1 ∨ k = 2 ∨ k = 3 ∨ k = 4 ∨ k = 5 ∨ k = 6 ∨ k = 7 := by omega
    have em : ∀ {u : ByteArray}, u.toList.isEmpty = true → u = ⟨#[]⟩ := fun {u} hu => by
      apply ByteArray.ext
      apply Array.toList_inj.1
      rw [← ByteArray.toList_eq]
      simpa using hu
    have nl : ((l.length : Int) == 0) = true → l = [] := fun hl => by
      have : (l.length : Int) = 0 := by simpa using hl
      exact List.length_eq_zero_iff.1 (by omega)
    rcases h8 with rfl | rfl | rfl | rfl | rfl | rfl | rfl | rfl
    · have h := (show ok_integer n s t l.length = true from h)
      unfold ok_integer at h; simp only [Bool.and_eq_true] at h
      exact .inl ⟨rfl, em h.1.1.2, em h.1.2, nl h.2⟩
    · have h := (show ok_atom n s t l.length = true from h)
      unfold ok_atom at h; simp only [Bool.and_eq_true] at h
      exact .inr (.inl ⟨rfl, beq_iff_eq.1 h.1.1.2, em h.1.2, nl h.2⟩)
    · have h := (show ok_ref n s t l.length = true from h)
      unfold ok_ref at h; simp only [Bool.and_eq_true] at h
      exact .inr (.inr (.inl ⟨rfl, em h.1.1.2, em h.1.2, nl h.2⟩))
    · have h := (show ok_fun n s t l.length = true from h)
      unfold ok_fun at h; simp only [Bool.and_eq_true] at h
      exact .inr (.inr (.inr (.inl ⟨rfl, nl h.2⟩)))
    · have h := (show ok_pid n s t l.length = true from h)
      unfold ok_pid at h; simp only [Bool.and_eq_true] at h
      exact .inr (.inr (.inr (.inr (.inl ⟨rfl, em h.1.1.2, em h.1.2, nl h.2⟩))))
    · have h := (show ok_tuple n s t l.length = true from h)
      unfold ok_tuple at h; simp only [Bool.and_eq_true] at h
      exact .inr (.inr (.inr (.inr (.inr (.inl ⟨rfl, beq_iff_eq.1 h.1.1, em h.1.2, em h.2⟩)))))
    · have h := (show ok_empty n s t l.length = true from h)
      unfold ok_empty at h; simp only [Bool.and_eq_true] at h
      exact .inr (.inr (.inr (.inr (.inr (.inr (.inl ⟨rfl, beq_iff_eq.1 h.1.1.1, em h.1.1.2, em h.1.2, nl h.2⟩))))))
    · have h := (show ok_cons n s t l.length = true from h)
      unfold ok_cons at h; simp only [Bool.and_eq_true] at h
      have : (l.length : Int) = 2 := by simpa using h.1.1.1
      exact .inr (.inr (.inr (.inr (.inr (.inr (.inr ⟨rfl, beq_iff_eq.1 h.1.1.2, em h.1.2, em h.2, by omega⟩))))))

theorem check_of {x : Tm} (hV : Valid x) (hn : x.nodes ≤ 256) : checkN x = 0 := by
  unfold checkN
  rw [if_pos (List.all_eq_true.2 (fun y hy => hV y (List.mem_of_mem_take hy))), if_neg (by omega)]

def sumN : List Tm → Nat
  | [] => 0
  | x :: l => min 257 x.nodes + sumN l
theorem sumN_append (a b : List Tm) : sumN (a ++ b) = sumN a + sumN b := by
  induction a with
  | nil => simp [sumN]
  | cons x a ih => simp [sumN, ih]; omega
theorem sumN_le (l : List Tm) : sumN l ≤ 257 * l.length := by
  induction l with
  | nil => simp [sumN]
  | cons x l ih => simp [sumN]; omega
theorem sumN_take_succ {l : List Tm} {j : Nat} {x : Tm} (h : l[j]? = some x) : sumN (l.take (j + 1)) = sumN (l.take j) + min 257 x.nodes := by
  rw [List.take_add_one, h, sumN_append]; simp [sumN]
theorem sumN_take_le (l : List Tm) (j : Nat) : sumN (l.take j) ≤ sumN l := by
  have h : sumN l = sumN (l.take j) + sumN (l.drop j) := by rw [← sumN_append, List.take_append_drop]
  omega
theorem sumN_small (l : List Tm) (h : sumN l ≤ 256) : (Tm.pres l).length = sumN l ∧ ∀ x ∈ l, x.nodes ≤ 256 := by
  induction l with
  | nil => exact ⟨rfl, fun x hx => by simp at hx⟩
  | cons x l ih =>
    simp only [sumN] at h ⊢
    have hn : x.nodes ≤ 256 := by omega
    obtain ⟨h1, h2⟩ := ih (by omega)
    refine ⟨by rw [Tm.pres, List.length_append, h1]; unfold Tm.nodes at *; omega, fun y hy => ?_⟩
    rcases List.mem_cons.1 hy with rfl | hy
    · exact hn
    · exact h2 y hy

def fitN (b : Nat) (l : List Tm) : Int := if l.any (fun x => checkN x == 30) = true then 30 else if 256 < b + sumN l then 11 else 0

theorem check_val (x : Tm) : checkN x = 0 ∨ checkN x = 11 ∨ checkN x = 30 := by
  unfold checkN; split
  · split
    · exact .inr (.inl rfl)
    · exact .inl rfl
  · exact .inr (.inr rfl)

theorem sumN_ge (l : List Tm) : l.length ≤ sumN l := by
  induction l with
  | nil => simp
  | cons x l ih =>
    have := Tm.pre_ne x
    simp only [sumN, List.length_cons]; unfold Tm.nodes; omega
theorem fit_zero {b : Nat} {l : List Tm} (h : fitN b l = 0) : b + sumN l ≤ 256 ∧ ∀ x ∈ l, Valid x ∧ x.nodes ≤ 256 := by
  unfold fitN at h
  by_cases h1 : l.any (fun x => checkN x == 30) = true
  · rw [if_pos h1] at h; cases h
  · rw [if_neg h1] at h
    by_cases h2 : 256 < b + sumN l
    · rw [if_pos h2] at h; cases h
    · have hs := (sumN_small l (by omega)).2
      refine ⟨by omega, fun x hx => ⟨?_, hs x hx⟩⟩
      rw [Bool.not_eq_true, List.any_eq_false] at h1
      have h3 := h1 x hx
      rcases check_val x with h4 | h4 | h4
      · exact (check_valid h4).1
      · unfold checkN at h4
        split at h4
        · rw [if_neg (by have := hs x hx; omega)] at h4; cases h4
        · cases h4
      · exact absurd (by rw [h4]; rfl) h3

end Go.Proofs.YtkceoiaaiaomoaaGreatDoor
end
