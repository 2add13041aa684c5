/- Maps from ints that a call makes itself, each entry known. What a collection comes to, purely: which cells are reached, where they go, that all read as they did. collect.reached$1: the cells that words name are seen, and opened. The walk over what is open, purely. -/
import Derived.Test.YtaemfjmmklpjeaaGreatDoorMod
import Derived.MapKept
import Derived.Test.YtaemfjmmklpjeaaGreatDoorHeapQ
import Derived.Test.YtaemfjmmklpjeaaGreatDoorHeapN
import Derived.Test.YtaemfjmmklpjeaaGreatDoorAppend
import Derived.Deep.DeepCutAuto
import Derived.Tactics2
set_option linter.unusedVariables false
namespace Go.Proofs.YtaemfjmmklpjeaaGreatDoor
open Go.RowKit

def entsV (L : List (Nat × Value)) : Array MapEntry := (L.mapIdx (fun i p => (⟨.int .i64 p.1, p.2, i⟩ : MapEntry))).toArray
theorem entsV_snoc (L : List (Nat × Value)) (p : Nat × Value) : entsV (L ++ [p]) = (entsV L).push ⟨.int .i64 p.1, p.2, L.length⟩ := by
  simp [entsV, List.mapIdx_append]
theorem entsV_key (L : List (Nat × Value)) : ∀ x ∈ (entsV L).toList, MapKept.IsKey (.int .i64) x.key := by
  intro x hx
  simp only [entsV, List.mem_mapIdx] at hx
  obtain ⟨i, hi, rfl⟩ := hx
  simp [MapKept.IsKey]
theorem entsV_find (L : List (Nat × Value)) (n : Nat) : (Instr.findNow (.int .i64) (.int .i64 n) (entsV L).toList 0 = some none ∧ ∀ p ∈ L, p.1 ≠ n) ∨
    ∃ j v, Instr.findNow (.int .i64) (.int .i64 n) (entsV L).toList 0 = some (some (j, v)) ∧ (n, v) ∈ L := by
  have hkey : MapKept.IsKey (.int .i64) (.int .i64 (n : Int)) := by simp [MapKept.IsKey]
  rcases MapKept.findNow_spec hkey (entsV L).toList 0 (entsV_key L) with ⟨h1, h2⟩ | ⟨j, e, h1, h2, h3⟩
  · refine .inl ⟨h1, fun p hp e => ?_⟩
    obtain ⟨i, hi, e2⟩ := List.mem_iff_getElem.1 hp
    refine h2 ⟨.int .i64 p.1, p.2, i⟩ ?_ (by rw [e])
    simp only [entsV, List.mem_mapIdx]
    exact ⟨i, hi, by rw [e2]⟩
  · simp only [entsV, List.getElem?_mapIdx] at h2
    cases hl : L[j]? with
    | none => simp [hl] at h2
    | some p =>
      simp [hl] at h2
      subst h2
      simp only [Value.int.injEq, true_and] at h3
      refine .inr ⟨j, p.2, by simpa using h1, ?_⟩
      have hp := List.mem_of_getElem? hl
      have : p.1 = n := by omega
      rw [← this]
      exact hp
def setV (S : List Nat) : List (Nat × Value) := S.map fun n => (n, .agg #[])
theorem setV_mem {S : List Nat} {n : Nat} {v : Value} (h : (n, v) ∈ setV S) : n ∈ S ∧ v = .agg #[] := by
  obtain ⟨m, hm, e⟩ := List.mem_map.1 h
  cases e
  exact ⟨hm, rfl⟩
theorem setV_at {S : List Nat} {x : MapEntry} (hx : x ∈ (entsV (setV S)).toList) : ∃ n ∈ S, x.key = .int .i64 n ∧ x.born < S.length := by
  simp only [entsV, setV, List.mem_mapIdx] at hx
  obtain ⟨i, hi, rfl⟩ := hx
  simp only [List.length_map] at hi
  exact ⟨S[i], List.getElem_mem _, by simp, hi⟩
theorem setV_keys (S : List Nat) : (entsV (setV S)).toList.map (·.key) = S.map fun n : Nat => Value.int .i64 (n : Int) := by
  unfold entsV setV
  apply List.ext_getElem (by simp)
  intro i h1 h2
  simp
theorem setV_borns (S : List Nat) : (entsV (setV S)).toList.map (·.born) = List.range S.length := by
  unfold entsV setV
  apply List.ext_getElem (by simp)
  intro i h1 h2
  simp

theorem look2_hit {P : Program} {t k e : TypeId} (ht : P.underlying t = some (.map k e)) (hk : P.underlying k = some (.int .i64)) (w : World) (mb : Nat) (es : Array MapEntry) (c : Nat) (n : Int) (i : Nat) (v : Value) (hb : w.heap[mb]? = some (.map es c))
    (hn : Instr.findNow (.int .i64) (.int .i64 n) es.toList 0 = some (some (i, v))) (ok : Bool) :
    (Instr.lookup t (.map (some mb)) (.int .i64 n) ok).run P w = .ok (if ok then .tuple #[v, .bool true] else v) w := by
  have hkey : MapKept.IsKey (.int .i64) (.int .i64 n) := by simp [MapKept.IsKey]
  simp [Instr.lookup, run_underlying ht, MapKept.run_getObj_map hb, MapKept.run_checkKey hk hkey, MapKept.run_findKey hk hn, Result.andThen]
theorem look2_miss {P : Program} {t k e : TypeId} (ht : P.underlying t = some (.map k e)) (hk : P.underlying k = some (.int .i64)) (w : World) (mb : Nat) (es : Array MapEntry) (c : Nat) (n : Int) (z : Value) (hb : w.heap[mb]? = some (.map es c))
    (hz : ∀ w, (zeroValue e).run P w = .ok z w) (hn : Instr.findNow (.int .i64) (.int .i64 n) es.toList 0 = some none) (ok : Bool) :
    (Instr.lookup t (.map (some mb)) (.int .i64 n) ok).run P w = .ok (if ok then .tuple #[z, .bool false] else z) w := by
  have hkey : MapKept.IsKey (.int .i64) (.int .i64 n) := by simp [MapKept.IsKey]
  simp [Instr.lookup, run_underlying ht, MapKept.run_getObj_map hb, MapKept.run_checkKey hk hkey, MapKept.run_findKey hk hn, hz, Result.andThen]
theorem put2_new {P : Program} {t k e : TypeId} (ht : P.underlying t = some (.map k e)) (hk : P.underlying k = some (.int .i64)) (w : World) (mb : Nat) (es : Array MapEntry) (c : Nat) (n : Int) (v : Value) (hb : w.heap[mb]? = some (.map es c))
    (hn : Instr.findNow (.int .i64) (.int .i64 n) es.toList 0 = some none) :
    (Instr.mapUpdate t (.map (some mb)) (.int .i64 n) v).run P w = .ok () (w.putObj mb (.map (es.push ⟨.int .i64 n, v, c⟩) (c + 1))) := by
  have hkey : MapKept.IsKey (.int .i64) (.int .i64 n) := by simp [MapKept.IsKey]
  simp [Instr.mapUpdate, run_underlying ht, MapKept.run_getObj_map hb, MapKept.run_checkKey hk hkey, MapKept.run_findKey hk hn, MapKept.run_setObj_map _ hb, Result.andThen]
  rfl
end Go.Proofs.YtaemfjmmklpjeaaGreatDoor
set_option linter.unusedVariables false
namespace Go.Proofs.YtaemfjmmklpjeaaGreatDoor
open Go.RowKit

inductive Rch (cs : List HC) (rs : List Nat) : Nat → Prop
  | root {n : Nat} (h : n ∈ rs) : Rch cs rs n
  | part {a b : Nat} {c : HC} (h : Rch cs rs a) (hc : cs[a]? = some c) (hb : HW.ref b ∈ c.L) : Rch cs rs b
theorem Rch.lt {cs : List HC} {rs : List Nat} (hg : HGood cs) (hr : ∀ n ∈ rs, n < cs.length) {n : Nat} (h : Rch cs rs n) : n < cs.length := by
  induction h with
  | root h => exact hr _ h
  | part h hc hb ih => exact Nat.lt_trans (show _ < _ from hg.low _ _ hc _ hb) ih
theorem Rch.least {cs : List HC} {rs : List Nat} {S : Nat → Prop} (h0 : ∀ n ∈ rs, S n) (h1 : ∀ a c b, S a → cs[a]? = some c → HW.ref b ∈ c.L → S b) {n : Nat} (h : Rch cs rs n) : S n := by
  induction h with
  | root h => exact h0 _ h
  | part h hc hb ih => exact h1 _ _ _ ih hc hb
theorem Rch.mono {cs : List HC} {rs rs' : List Nat} (h : ∀ n ∈ rs, n ∈ rs') {n : Nat} (hn : Rch cs rs n) : Rch cs rs' n := hn.least (fun n hn => .root (h n hn)) (fun _ _ _ ha hc hb => .part ha hc hb)

open Classical in
noncomputable def reachL (cs : List HC) (rs : List Nat) : List Nat := (List.range cs.length).filter fun n => decide (Rch cs rs n)
theorem reachL_mem {cs : List HC} {rs : List Nat} (hg : HGood cs) (hr : ∀ n ∈ rs, n < cs.length) {n : Nat} : n ∈ reachL cs rs ↔ Rch cs rs n := by
  unfold reachL
  simp only [List.mem_filter, List.mem_range, decide_eq_true_eq]
  exact ⟨fun h => h.2, fun h => ⟨h.lt hg hr, h⟩⟩
theorem reachL_up (cs : List HC) (rs : List Nat) : (reachL cs rs).Pairwise (· < ·) := List.pairwise_lt_range.filter _
theorem up_ext : ∀ {a b : List Nat}, a.Pairwise (· < ·) → b.Pairwise (· < ·) → (∀ n, n ∈ a ↔ n ∈ b) → a = b
  | [], [], _, _, _ => rfl
  | [], y :: b, _, _, h => by have := (h y).2 (by simp); cases this
  | x :: a, [], _, _, h => by have := (h x).1 (by simp); cases this
  | x :: a, y :: b, ha, hb, h => by
    rw [List.pairwise_cons] at ha hb
    have hxy : x = y := by
      rcases List.mem_cons.1 ((h x).1 (by simp)) with e | h1
      · exact e
      · rcases List.mem_cons.1 ((h y).2 (by simp)) with e | h2
        · exact e.symm
        · have := hb.1 _ h1; have := ha.1 _ h2; omega
    subst hxy
    rw [up_ext ha.2 hb.2 fun n => ⟨fun hn => ?_, fun hn => ?_⟩]
    · rcases List.mem_cons.1 ((h n).1 (by simp [hn])) with e | h1
      · have := ha.1 _ hn; omega
      · exact h1
    · rcases List.mem_cons.1 ((h n).2 (by simp [hn])) with e | h1
      · have := hb.1 _ hn; omega
      · exact h1

def mvW (L : List Nat) : HW → HW
  | .ref a => .ref (L.idxOf a)
  | .leaf x => .leaf x
def movC (L : List Nat) (c : HC) : HC := ⟨c.k, c.size, c.L.map (mvW L)⟩
def colC (cs : List HC) (L : List Nat) : List HC := L.map fun a => match cs[a]? with | some c => movC L c | none => ⟨5, 1, []⟩
theorem colC_len (cs : List HC) (L : List Nat) : (colC cs L).length = L.length := by unfold colC; rw [List.length_map]
theorem colC_at {cs : List HC} {L : List Nat} {i a : Nat} {c : HC} (hi : L[i]? = some a) (hc : cs[a]? = some c) : (colC cs L)[i]? = some (movC L c) := by
  unfold colC
  rw [List.getElem?_map, hi]
  simp only [Option.map_some, hc]

structure Shut (cs : List HC) (L : List Nat) : Prop where
  up : L.Pairwise (· < ·)
  lt : ∀ a ∈ L, a < cs.length
  parts : ∀ a ∈ L, ∀ c, cs[a]? = some c → ∀ b, HW.ref b ∈ c.L → b ∈ L
theorem reachL_shut {cs : List HC} {rs : List Nat} (hg : HGood cs) (hr : ∀ n ∈ rs, n < cs.length) : Shut cs (reachL cs rs) :=
  ⟨reachL_up _ _, fun a ha => ((reachL_mem hg hr).1 ha).lt hg hr, fun a ha c hc b hb => (reachL_mem hg hr).2 (.part ((reachL_mem hg hr).1 ha) hc hb)⟩
theorem idx_at {L : List Nat} {b : Nat} (h : b ∈ L) : L[L.idxOf b]? = some b := by
  have hlt := List.idxOf_lt_length_of_mem h
  rw [List.getElem?_eq_getElem hlt, List.getElem_idxOf]
theorem up_at {L : List Nat} (up : L.Pairwise (· < ·)) {i j a b : Nat} (hi : L[i]? = some a) (hj : L[j]? = some b) : i < j ↔ a < b := by
  obtain ⟨hi1, hi2⟩ := List.getElem?_eq_some_iff.1 hi
  obtain ⟨hj1, hj2⟩ := List.getElem?_eq_some_iff.1 hj
  rw [List.pairwise_iff_getElem] at up
  constructor
  · intro h
    have := up i j hi1 hj1 h
    omega
  · intro h
    rcases Nat.lt_trichotomy i j with h1 | h1 | h1
    · exact h1
    · subst h1; omega
    · have := up j i hj1 hi1 h1; omega
theorem idx_of_at {L : List Nat} (up : L.Pairwise (· < ·)) {i a : Nat} (hi : L[i]? = some a) : L.idxOf a = i := by
  have h1 := idx_at (List.mem_of_getElem? hi)
  have h2 := up_at up hi h1
  have h3 := up_at up h1 hi
  omega
theorem idx_lt {L : List Nat} (up : L.Pairwise (· < ·)) {i a b : Nat} (hi : L[i]? = some a) (hb : b ∈ L) (h : b < a) : L.idxOf b < i := (up_at up (idx_at hb) hi).2 h

theorem wsum_congr {cs cs' : List HC} {f : HW → HW} : ∀ {L : List HW}, (∀ y ∈ L, wsize cs' (f y) = wsize cs y) → wsum cs' (L.map f) = wsum cs L
  | [], _ => rfl
  | y :: L, h => by rw [List.map_cons, wsum, wsum, h y (by simp), wsum_congr (fun z hz => h z (by simp [hz]))]
theorem col_size {cs : List HC} {L : List Nat} (hs : Shut cs L) {y : HW} (hy : ∀ b, y = .ref b → b ∈ L) : wsize (colC cs L) (mvW L y) = wsize cs y := by
  cases y with
  | leaf x => rfl
  | ref b =>
    have hb := hy b rfl
    obtain ⟨c, hc⟩ : ∃ c, cs[b]? = some c := ⟨cs[b]'(hs.lt b hb), List.getElem?_eq_getElem _⟩
    show wsize (colC cs L) (.ref (L.idxOf b)) = _
    rw [wsize_at (colC_at (idx_at hb) hc), wsize_at hc]
    rfl
theorem col_word {cs : List HC} {L : List Nat} (hg : HGood cs) (hs : Shut cs L) {i a : Nat} {c : HC} (hi : L[i]? = some a) (hc : cs[a]? = some c) : ∀ y ∈ c.L, wgood i (mvW L y) := by
  intro y hy
  have hgy := hg.low a c hc y hy
  cases y with
  | leaf x => exact hgy
  | ref b => exact idx_lt hs.up hi (hs.parts a (List.mem_of_getElem? hi) c hc b hy) hgy
theorem col_sum {cs : List HC} {L : List Nat} (hg : HGood cs) (hs : Shut cs L) {a : Nat} {c : HC} (ha : a ∈ L) (hc : cs[a]? = some c) : wsum (colC cs L) (c.L.map (mvW L)) = c.size := by
  rw [wsum_congr (cs := cs) (fun y hy => col_size hs (fun b e => by subst e; exact hs.parts a ha c hc b hy)), ← hg.size a c hc]
theorem col_step {cs : List HC} {L : List Nat} (hg : HGood cs) (hs : Shut cs L) {i a : Nat} {c : HC} (hi : L[i]? = some a) (hc : cs[a]? = some c) :
    wsum ((colC cs L).take i) (c.L.map (mvW L)) = c.size ∧ (colC cs L).take (i + 1) = (colC cs L).take i ++ [⟨c.k, wsum ((colC cs L).take i) (c.L.map (mvW L)), c.L.map (mvW L)⟩] := by
  have hil : i < (colC cs L).length := by rw [colC_len]; exact (List.getElem?_eq_some_iff.1 hi).1
  have h1 : wsum ((colC cs L).take i) (c.L.map (mvW L)) = c.size := by
    rw [← col_sum hg hs (List.mem_of_getElem? hi) hc]
    conv => rhs; rw [← List.take_append_drop i (colC cs L)]
    rw [wsum_ext]
    intro y hy
    obtain ⟨z, hz, rfl⟩ := List.mem_map.1 hy
    rw [List.length_take, Nat.min_eq_left (Nat.le_of_lt hil)]
    exact col_word hg hs hi hc z hz
  refine ⟨h1, ?_⟩
  rw [List.take_add_one, colC_at hi hc, h1]
  rfl
end Go.Proofs.YtaemfjmmklpjeaaGreatDoor
set_option linter.unusedVariables false
namespace Go.Proofs.YtaemfjmmklpjeaaGreatDoor
open Go.RowKit

def WBox (c : Bool) (a : Int) (v : Value) : Prop := ∃ k n s t A len cap, v = .agg #[.bool c, .int .i64 a, .int .i8 k, .int .i64 n, .string s, .string t, .slice A len cap]
def SeeRow (w : World) (A : Option Addr) (L : List (Bool × Nat)) : Prop := ∀ (j : Nat) (q : Bool × Nat), L[j]? = some q → ∃ ad v, A = some ad ∧ ad.block < w.heap.size ∧ ElemW w ad j v ∧ WBox q.1 q.2 v
structure SeeAt (B : Nat) (W : World) (sb ob m : Nat) (ov : Value) (S O : List Nat) : Prop where
  sbx : W.heap[sb]? = some (.cells #[.map (some m)] 104 (0, 0))
  mp : W.heap[m]? = some (.map (entsV (setV S)) S.length)
  obx : W.heap[ob]? = some (.cells #[ov] 44 (0, 0))
  row : W.ownsRow B 3 1 ov O.length (O.map fun n : Nat => Value.int .i64 (n : Int))
  low : B ≤ sb ∧ B ≤ ob ∧ B ≤ m
  ne : sb ≠ ob
  apart : ∀ k, ov.ownBlock = some k → k ≠ sb ∧ k ≠ ob
def SFP (m ob : Nat) (ov : Value) (k : Nat) : Prop := k = m ∨ k = ob ∨ ov.ownBlock = some k
theorem SeeAt.under {B : Nat} {W W' : World} {sb ob m : Nat} {ov : Value} {S O : List Nat} (h : SeeAt B W sb ob m ov S O) (b : Below W.heap.size W W') : SeeAt B W' sb ob m ov S O :=
  ⟨(b.block _ (heap_lt h.sbx)).trans h.sbx, (b.block _ (heap_lt h.mp)).trans h.mp, (b.block _ (heap_lt h.obx)).trans h.obx, (Mod.of_below (F := fun _ => False) b).row h.row (fun _ _ f => f), h.low, h.ne, h.apart⟩
theorem SeeAt.ownlt {B : Nat} {W : World} {sb ob m : Nat} {ov : Value} {S O : List Nat} (h : SeeAt B W sb ob m ov S O) (k : Nat) (hk : ov.ownBlock = some k) : k < W.heap.size ∧ B ≤ k ∧ k ≠ m := by
  rcases h.row.2 with ⟨rfl, _⟩ | ⟨g, cap, cur, rfl, hb, hg, _⟩
  · cases hk
  · simp [Value.ownBlock] at hk
    subst hk
    exact ⟨heap_lt hg, hb, fun e => by rw [e, h.mp] at hg; cases hg⟩
theorem SeeAt.fp_ge {B : Nat} {W : World} {sb ob m : Nat} {ov : Value} {S O : List Nat} (h : SeeAt B W sb ob m ov S O) {k : Nat} (hk : SFP m ob ov k) : B ≤ k := by
  rcases hk with rfl | rfl | e
  · exact h.low.2.2
  · exact h.low.2.1
  · exact (h.ownlt k e).2.1
def seeStep (p : List Nat × List Nat) (q : Bool × Nat) : List Nat × List Nat := if q.1 = true ∧ q.2 ∉ p.1 then (p.1 ++ [q.2], p.2 ++ [q.2]) else p
def seeF (p : List Nat × List Nat) (L : List (Bool × Nat)) : List Nat × List Nat := L.foldl seeStep p
theorem seeF_take {p : List Nat × List Nat} {L : List (Bool × Nat)} {j : Nat} {q : Bool × Nat} (h : L[j]? = some q) : seeF p (L.take (j + 1)) = seeStep (seeF p (L.take j)) q := by
  unfold seeF
  rw [List.take_add_one, h, List.foldl_append]
  rfl
theorem seeF_len (L : List (Bool × Nat)) : ∀ p : List Nat × List Nat, (seeF p L).2.length ≤ p.2.length + L.length := by
  induction L with
  | nil => intro p; simp [seeF]
  | cons q L ih =>
    intro p
    have h1 := ih (seeStep p q)
    have h2 : (seeStep p q).2.length ≤ p.2.length + 1 := by unfold seeStep; split <;> simp
    show (seeF (seeStep p q) L).2.length ≤ _
    simp
    omega
theorem info_int5 : (Tryz.prog.info? 3).map (fun i => (i.zero, i.size, i.bytes)) = some (some (.int .i64 0), 1, 8) := by kernel_rfl
theorem zero_unit5 (w : World) : (zeroValue 105).run Tryz.prog w = .ok (.agg #[]) w := by kernel_rfl

set_option maxRecDepth 100000 in
set_option maxHeartbeats 8000000 in
theorem see_any {B sb ob m : Nat} {ov : Value} {S O : List Nat} (A : Option Addr) (cap : Nat) (L : List (Bool × Nat)) (w : World) (h : SeeAt B w sb ob m ov S O) (hR : SeeRow w A L) (hA : ∀ ad, A = some ad → 0 < L.length → ¬ SFP m ob ov ad.block)
    (hl : L.length ≤ 1000000) (hO : O.length ≤ 2000000) (hB : B ≤ w.heap.size) (ha : ∀ q ∈ L, q.2 < 4611686018427387904) :
    Calls Tryz.prog 55 #[.slice A L.length cap, .pointer (some ⟨sb, 0, none⟩), .pointer (some ⟨ob, 0, none⟩)] w fun e w' => e = .returned (.tuple #[]) ∧
      ∃ ov', SeeAt B w' sb ob m ov' (seeF (S, O) L).1 (seeF (S, O) L).2 ∧ Mod (SFP m ob ov) w w' ∧ ∀ k, ov'.ownBlock = some k → ov.ownBlock = some k ∨ w.heap.size ≤ k := by
  obtain ⟨i0, hi, hz0, hz1, hz2⟩ := info_parts info_int5
  have HI := Lib.hid (And.intro hi (And.intro hz0 (And.intro hz1 hz2)))
  have HR := Lib.hid hR
  have HAA := Lib.hid hA
  have HH := Lib.hid h
  have HQ := Lib.hid ha
  clear hi hz0 hz1 hz2 hR hA h ha
  go_enter Tryz.func55, Tryz.ntmps55
  go_wp2_with fail
  go_loopw [10] (fun i wr => ∃ j : Nat, j ≤ L.length ∧ i = .int .i64 j ∧ ∃ ov', Hid (SeeAt B wr sb ob m ov' (seeF (S, O) (L.take j)).1 (seeF (S, O) (L.take j)).2 ∧ Mod (SFP m ob ov) w wr ∧ ∀ k, ov'.ownBlock = some k → ov.ownBlock = some k ∨ w.heap.size ≤ k)) (fun i _ => L.length - (intOf i).toNat)
  case atStart => exact ⟨0, Nat.zero_le _, rfl, ov, HH.out, Mod.refl _ _, fun k hk => .inl hk⟩
  case round =>
    obtain ⟨j, hj, rfl, ov1, HX⟩ := hrel
    obtain ⟨wq, hwq⟩ : ∃ wq, wq = wr := ⟨_, rfl⟩
    subst hwq
    by_cases hlt : j < L.length
    · obtain ⟨q, hq⟩ : ∃ q, L[j]? = some q := ⟨L[j], List.getElem?_eq_getElem hlt⟩
      obtain ⟨ad, v, hA, had, hE, k, n, s, t, A2, len, cap2, rfl⟩ := HR.out j q hq
      subst hA
      have hnf := HAA.out ad rfl (by omega)
      obtain ⟨c0, c1, c2, c3, c4, c5, c6, hc, e0, e1, e2, e3, e4, e5, e6⟩ := hE.keep (HX.out.2.1.block ad.block had hnf)
      simp only [Value.agg.injEq, Array.mk.injEq, List.cons.injEq, and_true] at hc
      obtain ⟨rfl, rfl, rfl, rfl, rfl, rfl, rfl⟩ := hc
      have hst := seeF_take (p := (S, O)) hq
      have hln := seeF_len (L.take j) (S, O)
      have hqb := HQ.out q (List.mem_of_getElem? hq)
      obtain ⟨S1, hS1⟩ : ∃ S1, S1 = (seeF (S, O) (L.take j)).1 := ⟨_, rfl⟩
      obtain ⟨O1, hO1⟩ : ∃ O1, O1 = (seeF (S, O) (L.take j)).2 := ⟨_, rfl⟩
      have hso : seeF (S, O) (L.take j) = (S1, O1) := by rw [hS1, hO1]
      rw [hso] at hst hln HX
      clear hS1 hO1 hso
      dsimp only at HX hln
      obtain ⟨cc, a⟩ := q
      dsimp only at e0 e1 hqb
      have hO1 : O1.length ≤ 3000000 := by rw [List.length_take] at hln; omega
      have HST := Lib.hid hst
      clear hst hln hq hE hnf had
      have z0 : (wq.alloc (.cells #[.bool false, .int .i64 0, .int .i8 0, .int .i64 0, .string ⟨#[]⟩, .string ⟨#[]⟩, .slice none 0 0] 51)).cell? ⟨wq.heap.size, 0, none⟩ = some (.bool false) := cell_of_row (block_alloc _ _) rfl
      have zf0 : (wq.alloc (.cells #[.bool false, .int .i64 0, .int .i8 0, .int .i64 0, .string ⟨#[]⟩, .string ⟨#[]⟩, .slice none 0 0] 51)).frozen? ⟨wq.heap.size, 0, none⟩ = false := free_of_row (block_alloc _ _)
      have z1 : (wq.alloc (.cells #[.bool false, .int .i64 0, .int .i8 0, .int .i64 0, .string ⟨#[]⟩, .string ⟨#[]⟩, .slice none 0 0] 51)).cell? ⟨wq.heap.size, 1, none⟩ = some (.int .i64 0) := cell_of_row (block_alloc _ _) rfl
      have zf1 : (wq.alloc (.cells #[.bool false, .int .i64 0, .int .i8 0, .int .i64 0, .string ⟨#[]⟩, .string ⟨#[]⟩, .slice none 0 0] 51)).frozen? ⟨wq.heap.size, 1, none⟩ = false := free_of_row (block_alloc _ _)
      have z2 : (wq.alloc (.cells #[.bool false, .int .i64 0, .int .i8 0, .int .i64 0, .string ⟨#[]⟩, .string ⟨#[]⟩, .slice none 0 0] 51)).cell? ⟨wq.heap.size, 2, none⟩ = some (.int .i8 0) := cell_of_row (block_alloc _ _) rfl
      have zf2 : (wq.alloc (.cells #[.bool false, .int .i64 0, .int .i8 0, .int .i64 0, .string ⟨#[]⟩, .string ⟨#[]⟩, .slice none 0 0] 51)).frozen? ⟨wq.heap.size, 2, none⟩ = false := free_of_row (block_alloc _ _)
      have z3 : (wq.alloc (.cells #[.bool false, .int .i64 0, .int .i8 0, .int .i64 0, .string ⟨#[]⟩, .string ⟨#[]⟩, .slice none 0 0] 51)).cell? ⟨wq.heap.size, 3, none⟩ = some (.int .i64 0) := cell_of_row (block_alloc _ _) rfl
      have zf3 : (wq.alloc (.cells #[.bool false, .int .i64 0, .int .i8 0, .int .i64 0, .string ⟨#[]⟩, .string ⟨#[]⟩, .slice none 0 0] 51)).frozen? ⟨wq.heap.size, 3, none⟩ = false := free_of_row (block_alloc _ _)
      have z4 : (wq.alloc (.cells #[.bool false, .int .i64 0, .int .i8 0, .int .i64 0, .string ⟨#[]⟩, .string ⟨#[]⟩, .slice none 0 0] 51)).cell? ⟨wq.heap.size, 4, none⟩ = some (.string ⟨#[]⟩) := cell_of_row (block_alloc _ _) rfl
      have zf4 : (wq.alloc (.cells #[.bool false, .int .i64 0, .int .i8 0, .int .i64 0, .string ⟨#[]⟩, .string ⟨#[]⟩, .slice none 0 0] 51)).frozen? ⟨wq.heap.size, 4, none⟩ = false := free_of_row (block_alloc _ _)
      have z5 : (wq.alloc (.cells #[.bool false, .int .i64 0, .int .i8 0, .int .i64 0, .string ⟨#[]⟩, .string ⟨#[]⟩, .slice none 0 0] 51)).cell? ⟨wq.heap.size, 5, none⟩ = some (.string ⟨#[]⟩) := cell_of_row (block_alloc _ _) rfl
      have zf5 : (wq.alloc (.cells #[.bool false, .int .i64 0, .int .i8 0, .int .i64 0, .string ⟨#[]⟩, .string ⟨#[]⟩, .slice none 0 0] 51)).frozen? ⟨wq.heap.size, 5, none⟩ = false := free_of_row (block_alloc _ _)
      have z6 : (wq.alloc (.cells #[.bool false, .int .i64 0, .int .i8 0, .int .i64 0, .string ⟨#[]⟩, .string ⟨#[]⟩, .slice none 0 0] 51)).cell? ⟨wq.heap.size, 6, none⟩ = some (.slice none 0 0) := cell_of_row (block_alloc _ _) rfl
      have zf6 : (wq.alloc (.cells #[.bool false, .int .i64 0, .int .i8 0, .int .i64 0, .string ⟨#[]⟩, .string ⟨#[]⟩, .slice none 0 0] 51)).frozen? ⟨wq.heap.size, 6, none⟩ = false := free_of_row (block_alloc _ _)
      have x0 : (wq.alloc (.cells #[.bool cc, .int .i64 a, .int .i8 k, .int .i64 n, .string s, .string t, .slice A2 len cap2] 51)).cell? ⟨wq.heap.size, 0, none⟩ = some (.bool cc) := cell_of_row (block_alloc _ _) rfl
      have x1 : (wq.alloc (.cells #[.bool cc, .int .i64 a, .int .i8 k, .int .i64 n, .string s, .string t, .slice A2 len cap2] 51)).cell? ⟨wq.heap.size, 1, none⟩ = some (.int .i64 a) := cell_of_row (block_alloc _ _) rfl
      have b1 : Below wq.heap.size wq (wq.alloc (.cells #[.bool cc, .int .i64 a, .int .i8 k, .int .i64 n, .string s, .string t, .slice A2 len cap2] 51)) := (Below.refl _ _).alloc (Nat.le_refl _) _
      have g1 : (wq.alloc (.cells #[.bool cc, .int .i64 a, .int .i8 k, .int .i64 n, .string s, .string t, .slice A2 len cap2] 51)).heap[wq.heap.size]? = some (.cells #[.bool cc, .int .i64 a, .int .i8 k, .int .i64 n, .string s, .string t, .slice A2 len cap2] 51) := block_alloc _ _
      have h1 := HX.out.1.under b1
      have s0 : (wq.alloc (.cells #[.bool cc, .int .i64 a, .int .i8 k, .int .i64 n, .string s, .string t, .slice A2 len cap2] 51)).cell? ⟨sb, 0, none⟩ = some (.map (some m)) := cell_of_row h1.sbx rfl
      go_upto_region 3 with fail
      generalize (wq.alloc (.cells #[.bool cc, .int .i64 a, .int .i8 k, .int .i64 n, .string s, .string t, .slice A2 len cap2] 51)) = w1 at x0 x1 b1 g1 h1 s0 ⊢
      have H1 := Lib.hid h1
      have B1 := Lib.hid b1
      have G1 := Lib.hid g1
      clear z0 zf0 z1 zf1 z2 zf2 z3 zf3 z4 zf4 z5 zf5 z6 zf6 b1 g1 h1 e0 e1 e2 e3 e4 e5 e6
      have x0' : (w1.alloc (.cells #[] 105)).cell? ⟨wq.heap.size, 0, none⟩ = some (.bool cc) := cell_of_row ((Below.heap_alloc _ _ _ (heap_lt G1.out)).trans G1.out) rfl
      rcases entsV_find (setV S1) a with ⟨hn, hno⟩ | ⟨jj, vv, hn, hin⟩
      · have hna : a ∉ S1 := fun h => hno (a, .agg #[]) (List.mem_map_of_mem (f := fun n => (n, Value.agg #[])) h) rfl
        cases cc with
        | false =>
          have hlk : (Instr.lookup 104 (.map (some m)) (.int .i64 (a : Int)) true).run Tryz.prog w1 = .ok (.tuple #[.agg #[], .bool false]) w1 := by
            simpa using look2_miss (P := Tryz.prog) Tryz.underlying104 Tryz.underlying3 w1 m _ _ (a : Int) (.agg #[]) H1.out.mp zero_unit5 hn true
          go_wp2_with fail
          go_roundw
          case rel => exact ⟨j + 1, by omega, by go_num, ov1, by rw [HST.out, show seeStep (S1, O1) (false, a) = (S1, O1) from if_neg (fun h => by cases h.1)]; exact H1.out.under ((Below.refl _ _).alloc (Nat.le_refl _) _), HX.out.2.1.trans (Mod.of_below (F := fun _ => False) (B1.out.trans (((Below.refl _ w1).alloc (Nat.le_refl _) _).mono B1.out.size))) (fun _ _ f => f.elim), HX.out.2.2⟩
          case measure => simp [intOf]; omega
        | true =>
          have hlk : (Instr.lookup 104 (.map (some m)) (.int .i64 (a : Int)) true).run Tryz.prog w1 = .ok (.tuple #[.agg #[], .bool false]) w1 := by
            simpa using look2_miss (P := Tryz.prog) Tryz.underlying104 Tryz.underlying3 w1 m _ _ (a : Int) (.agg #[]) H1.out.mp zero_unit5 hn true
          go_upto_region 5 with fail
          have b2 : Below w1.heap.size w1 (w1.alloc (.cells #[] 105)) := (Below.refl _ _).alloc (Nat.le_refl _) _
          generalize (w1.alloc (.cells #[] 105)) = w2 at b2 ⊢
          have H2 := Lib.hid (H1.out.under b2)
          have B2 := Lib.hid b2
          have G2 := Lib.hid ((b2.block _ (heap_lt G1.out)).trans G1.out)
          clear b2 hlk x0 x1 s0 x0'
          have s2 : w2.cell? ⟨sb, 0, none⟩ = some (.map (some m)) := cell_of_row H2.out.sbx rfl
          have y1 : w2.cell? ⟨wq.heap.size, 1, none⟩ = some (.int .i64 a) := cell_of_row G2.out rfl
          have hup := put2_new (P := Tryz.prog) Tryz.underlying104 Tryz.underlying3 w2 m _ _ (a : Int) (.agg #[]) H2.out.mp hn
          go_upto_region 6 with fail
          have m3 : Mod (fun k => k = m) w2 (w2.putObj m (.map ((entsV (setV S1)).push ⟨.int .i64 (a : Int), .agg #[], S1.length⟩) (S1.length + 1))) := Mod.putObj _ _ _ rfl
          have p3 : (w2.putObj m (.map ((entsV (setV S1)).push ⟨.int .i64 (a : Int), .agg #[], S1.length⟩) (S1.length + 1))).heap[m]? = some (.map ((entsV (setV S1)).push ⟨.int .i64 (a : Int), .agg #[], S1.length⟩) (S1.length + 1)) := World.putObj_heap_same (heap_lt H2.out.mp)
          generalize (w2.putObj m (.map ((entsV (setV S1)).push ⟨.int .i64 (a : Int), .agg #[], S1.length⟩) (S1.length + 1))) = w3 at m3 p3 ⊢
          have hmob : m ≠ ob := fun e => by have h1 := H2.out.mp; rw [e, H2.out.obx] at h1; cases h1
          have hmsb : m ≠ sb := fun e => by have h1 := H2.out.mp; rw [e, H2.out.sbx] at h1; cases h1
          have hmw : m ≠ wq.heap.size := fun e => by have h1 := H2.out.mp; rw [e, G2.out] at h1; cases h1
          have o3 := (m3.block ob (heap_lt H2.out.obx) (fun e => hmob e.symm)).trans H2.out.obx
          have q3 := (m3.block sb (heap_lt H2.out.sbx) (fun e => hmsb e.symm)).trans H2.out.sbx
          have g3 := (m3.block _ (heap_lt G2.out) (fun e => hmw e.symm)).trans G2.out
          have R3 := m3.row H2.out.row (fun k hk e => (H2.out.ownlt k hk).2.2 e)
          have t3 : w3.cell? ⟨ob, 0, none⟩ = some ov1 := cell_of_row o3 rfl
          have y3 : w3.cell? ⟨wq.heap.size, 1, none⟩ = some (.int .i64 a) := cell_of_row g3 rfl
          have hs3 : wq.heap.size < w3.heap.size := heap_lt g3
          have hBq : B ≤ wq.heap.size := Nat.le_trans hB HX.out.2.1.size
          have M3 := Lib.hid m3
          have P3 := Lib.hid p3
          have O3 := Lib.hid o3
          have Q3 := Lib.hid q3
          obtain ⟨hi, hz0, hz1, hz2⟩ := HI.out
          clear hup s2 y1 m3 p3 o3 q3 g3
          go_wp2_with (at_builtin; refine wpList_append_at _ rfl _ _ 44 rfl B 3 i0 (.int .i64 0) 1 8 Tryz.underlying44 hi hz0 hz1 hz2 rfl (by decide) _ _ _ rfl (R3.alloc _) ⟨w3.heap.size, 0, none⟩ 1 1 [.int .i64 a] rfl (by decide) rfl ?c1 ?c2 ?c3 ?c4 ?c5 ?_)
          case c1 =>
            intro j u hu
            exact cell_one_new _ _ _ j u hu
          case c2 => simp [Value.oneCell']
          case c3 => unfold maxLen; omega
          case c4 => omega
          case c5 => simp; omega
          intro g9 cap9 w9 R9 grow9 hwh
          have hal : Below w3.heap.size w3 (w3.alloc (.cells #[.int .i64 a] 3)) := (Below.refl _ _).alloc (Nat.le_refl _) _
          have hsz : (w3.alloc (.cells #[.int .i64 a] 3)).heap.size = w3.heap.size + 1 := World.size_alloc _ _
          have hov : ∀ q, ov1.ownBlock = some q → q < w3.heap.size ∧ B ≤ q ∧ q ≠ m ∧ q ≠ sb ∧ q ≠ ob := fun q hq => ⟨Nat.lt_of_lt_of_le (H2.out.ownlt q hq).1 M3.out.size, (H2.out.ownlt q hq).2.1, (H2.out.ownlt q hq).2.2, (H2.out.apart q hq).1, (H2.out.apart q hq).2⟩
          have hblk : ∀ k, k < w3.heap.size → (∀ q, ov1.ownBlock = some q → k ≠ q) → w9.heap[k]? = w3.heap[k]? := fun k hk hq => (grow9.block k (by omega) (fun e => hq k e.symm rfl)).trans (hal.block k hk)
          have o9 := (hblk ob (heap_lt O3.out) (fun q hq e => (hov q hq).2.2.2.2 e.symm)).trans O3.out
          have q9 := (hblk sb (heap_lt Q3.out) (fun q hq e => (hov q hq).2.2.2.1 e.symm)).trans Q3.out
          have p9 := (hblk m (heap_lt P3.out) (fun q hq e => (hov q hq).2.2.1 e.symm)).trans P3.out
          have hgb : g9 ≠ sb ∧ g9 ≠ ob ∧ g9 ≠ m ∧ (ov1.ownBlock = some g9 ∨ w3.heap.size ≤ g9) := by
            have a1 := heap_lt O3.out; have a2 := heap_lt Q3.out; have a3 := heap_lt P3.out
            rcases hwh with e | e
            · exact ⟨(hov g9 e).2.2.2.1, (hov g9 e).2.2.2.2, (hov g9 e).2.2.1, .inl e⟩
            · exact ⟨by omega, by omega, by omega, .inr (by omega)⟩
          have m9 : Mod (SFP m ob ov1) wq w9 := ((((Mod.of_below (F := SFP m ob ov1) (B1.out.trans (B2.out.mono B1.out.size))).trans M3.out (fun _ _ e => .inl e)).trans (Mod.of_below (F := fun _ => False) hal) (fun _ _ f => f.elim)).trans (Mod.grown (F := fun k => ov1.ownBlock = some k) grow9 (fun k _ e => e)) (fun _ _ e => .inr (.inr e)))
          have t9 : w9.cell? ⟨ob, 0, none⟩ = some ov1 := cell_of_row o9 rfl
          have f9 : w9.frozen? ⟨ob, 0, none⟩ = false := free_of_row o9
          have R9' : w9.ownsRow B 3 1 (.slice (some ⟨g9, 0, none⟩) (O1.length + 1) cap9) (O1 ++ [a]).length ((O1 ++ [a]).map fun n : Nat => Value.int .i64 (n : Int)) := by simpa using R9
          have hend : SeeAt B (w9.setCell ⟨ob, 0, none⟩ (.slice (some ⟨g9, 0, none⟩) (O1.length + 1) cap9)) sb ob m (.slice (some ⟨g9, 0, none⟩) (O1.length + 1) cap9) (S1 ++ [a]) (O1 ++ [a]) := by
            have hset : ∀ k, k ≠ ob → (w9.setCell ⟨ob, 0, none⟩ (.slice (some ⟨g9, 0, none⟩) (O1.length + 1) cap9)).heap[k]? = w9.heap[k]? := fun k hk => Below.heap_setCell _ _ _ _ (fun e => hk e)
            refine ⟨(hset sb H2.out.ne).trans q9, ?_, set_row _ o9, ?_, H2.out.low, H2.out.ne, fun k hk => ?_⟩
            · rw [hset m hmob, p9]
              have e1 : setV (S1 ++ [a]) = setV S1 ++ [(a, .agg #[])] := by simp [setV]
              have e2 : (setV S1).length = S1.length := by simp [setV]
              rw [e1, entsV_snoc, e2, List.length_append]
              rfl
            · exact (Mod.setCell (F := fun k => k = ob) w9 ⟨ob, 0, none⟩ _ (.inl rfl)).row R9' (fun k hk e => by simp [Value.ownBlock] at hk; exact hgb.2.1 (hk.trans e))
            · simp [Value.ownBlock] at hk
              subst hk
              exact ⟨hgb.1, hgb.2.1⟩
          have m10 := m9.trans (Mod.setCell (F := fun k => k = ob) w9 ⟨ob, 0, none⟩ (.slice (some ⟨g9, 0, none⟩) (O1.length + 1) cap9) (.inl rfl)) (fun _ _ e => .inr (.inl e))
          have HE := Lib.hid hend
          have M10 := Lib.hid m10
          have HG := Lib.hid hgb
          clear hend m10 hgb R9 R9' grow9 hwh m9 o9 q9 p9 hblk hov hal hsz R3 t3 y3
          go_wp2_with fail
          go_roundw
          case rel =>
            refine ⟨j + 1, by omega, by go_num, _, by rw [HST.out, show seeStep (S1, O1) (true, a) = (S1 ++ [a], O1 ++ [a]) from if_pos ⟨rfl, hna⟩]; exact HE.out, HX.out.2.1.trans M10.out (fun i hi hf => ?_), fun k hk => ?_⟩
            · rcases hf with e | e | e
              · exact .inl e
              · exact .inr (.inl e)
              · exact (HX.out.2.2 i e).elim (fun e => .inr (.inr e)) (fun e => by omega)
            · simp [Value.ownBlock] at hk
              subst hk
              rcases HG.out.2.2.2 with e | e
              · exact HX.out.2.2 _ e
              · exact .inr (by have := HX.out.2.1.size; omega)
          case measure => simp [intOf]; omega
      · obtain ⟨hin2, rfl⟩ := setV_mem hin
        have hlk : (Instr.lookup 104 (.map (some m)) (.int .i64 (a : Int)) true).run Tryz.prog w1 = .ok (.tuple #[.agg #[], .bool true]) w1 := by
          simpa using look2_hit (P := Tryz.prog) Tryz.underlying104 Tryz.underlying3 w1 m _ _ (a : Int) jj (.agg #[]) H1.out.mp hn true
        cases cc with
        | false =>
          go_wp2_with fail
          go_roundw
          case rel => exact ⟨j + 1, by omega, by go_num, ov1, by rw [HST.out, show seeStep (S1, O1) (false, a) = (S1, O1) from if_neg (fun h => by cases h.1)]; exact H1.out.under ((Below.refl _ _).alloc (Nat.le_refl _) _), HX.out.2.1.trans (Mod.of_below (F := fun _ => False) (B1.out.trans (((Below.refl _ w1).alloc (Nat.le_refl _) _).mono B1.out.size))) (fun _ _ f => f.elim), HX.out.2.2⟩
          case measure => simp [intOf]; omega
        | true =>
          go_wp2_with fail
          go_roundw
          case rel => exact ⟨j + 1, by omega, by go_num, ov1, by rw [HST.out, show seeStep (S1, O1) (true, a) = (S1, O1) from if_neg (fun h => h.2 hin2)]; exact H1.out.under ((Below.refl _ _).alloc (Nat.le_refl _) _), HX.out.2.1.trans (Mod.of_below (F := fun _ => False) (B1.out.trans (((Below.refl _ w1).alloc (Nat.le_refl _) _).mono B1.out.size))) (fun _ _ f => f.elim), HX.out.2.2⟩
          case measure => simp [intOf]; omega
    · obtain rfl : j = L.length := by omega
      go_wp2_with fail
      have hx := HX.out
      rw [List.take_length] at hx
      first | go_end0 | go_ret
      exact ⟨rfl, ov1, hx⟩
end Go.Proofs.YtaemfjmmklpjeaaGreatDoor
set_option linter.unusedVariables false
namespace Go.Proofs.YtaemfjmmklpjeaaGreatDoor
open Go.RowKit

theorem nodup_len : ∀ (N : Nat) (L : List Nat), L.Nodup → (∀ a ∈ L, a < N) → L.length ≤ N
  | 0, [], _, _ => Nat.le_refl _
  | 0, a :: L, _, h => by have := h a (by simp); omega
  | N + 1, L, hn, h => by
    by_cases hN : N ∈ L
    · have h1 := nodup_len N (L.erase N) (hn.erase N) (fun a ha => by
        have := h a (List.mem_of_mem_erase ha)
        have : a ≠ N := fun e => by subst e; exact (List.Nodup.not_mem_erase hn) ha
        omega)
      rw [List.length_erase_of_mem hN] at h1
      omega
    · have := nodup_len N L hn (fun a ha => by
        have := h a ha
        have : a ≠ N := fun e => hN (e ▸ ha)
        omega)
      omega
theorem seeF_spec : ∀ (L : List (Bool × Nat)) (S O : List Nat), ∃ new : List Nat, seeF (S, O) L = (S ++ new, O ++ new) ∧ new.Nodup ∧ (∀ n ∈ new, n ∉ S ∧ (true, n) ∈ L) ∧ ∀ n, (true, n) ∈ L → n ∈ S ++ new
  | [], S, O => ⟨[], by simp [seeF], List.nodup_nil, (fun n h => by cases h), (fun n h => by cases h)⟩
  | (c, a) :: L, S, O => by
    by_cases h : c = true ∧ a ∉ S
    · obtain ⟨rfl, ha⟩ := h
      obtain ⟨new, h1, h2, h3, h4⟩ := seeF_spec L (S ++ [a]) (O ++ [a])
      refine ⟨a :: new, ?_, List.nodup_cons.2 ⟨fun hm => (h3 a hm).1 (by simp), h2⟩, fun n hn => ?_, fun n hn => ?_⟩
      · show seeF (seeStep (S, O) (true, a)) L = _
        rw [show seeStep (S, O) (true, a) = (S ++ [a], O ++ [a]) from if_pos ⟨rfl, ha⟩, h1]
        simp
      · rcases List.mem_cons.1 hn with rfl | hn
        · exact ⟨ha, by simp⟩
        · exact ⟨fun hs => (h3 n hn).1 (by simp [hs]), List.mem_cons_of_mem _ (h3 n hn).2⟩
      · rcases List.mem_cons.1 hn with e | hn
        · cases e; simp
        · have := h4 n hn
          simp at this ⊢
          rcases this with h | h | h
          · exact .inl h
          · exact .inr (.inl h)
          · exact .inr (.inr h)
    · obtain ⟨new, h1, h2, h3, h4⟩ := seeF_spec L S O
      refine ⟨new, ?_, h2, fun n hn => ⟨(h3 n hn).1, List.mem_cons_of_mem _ (h3 n hn).2⟩, fun n hn => ?_⟩
      · show seeF (seeStep (S, O) (c, a)) L = _
        rw [show seeStep (S, O) (c, a) = (S, O) from if_neg h, h1]
      · rcases List.mem_cons.1 hn with e | hn
        · cases e
          have hS : a ∈ S := Classical.byContradiction fun hs => h ⟨rfl, hs⟩
          exact List.mem_append_left _ hS
        · exact h4 n hn

def hwq : HW → Bool × Nat
  | .ref a => (true, a)
  | .leaf _ => (false, 0)
theorem hwq_mem {L : List HW} {n : Nat} : (true, n) ∈ L.map hwq ↔ HW.ref n ∈ L := by
  rw [List.mem_map]
  constructor
  · rintro ⟨y, hy, e⟩
    cases y with
    | leaf x => cases e
    | ref a => cases e; exact hy
  · intro h
    exact ⟨_, h, rfl⟩
structure Dfs (cs : List HC) (rs : List Nat) (S O : List Nat) : Prop where
  nodup : S.Nodup
  ond : O.Nodup
  sub : ∀ n ∈ O, n ∈ S
  rch : ∀ n ∈ S, Rch cs rs n
  root : ∀ n ∈ rs, n ∈ S
  parts : ∀ a ∈ S, a ∉ O → ∀ c, cs[a]? = some c → ∀ b, HW.ref b ∈ c.L → b ∈ S
theorem nodup_app {S new : List Nat} (h1 : S.Nodup) (h2 : new.Nodup) (h3 : ∀ n ∈ new, n ∉ S) : (S ++ new).Nodup :=
  List.nodup_append.2 ⟨h1, h2, fun a ha b hb e => h3 b hb (e ▸ ha)⟩
theorem dfs_start {cs : List HC} {rs : List Nat} (RL : List (Bool × Nat)) (hr : ∀ n, (true, n) ∈ RL ↔ n ∈ rs) : Dfs cs rs (seeF ([], []) RL).1 (seeF ([], []) RL).2 := by
  obtain ⟨new, h1, h2, h3, h4⟩ := seeF_spec RL [] []
  rw [h1]
  simp only [List.nil_append] at *
  exact ⟨h2, h2, fun n h => h, fun n h => .root ((hr n).1 (h3 n h).2), fun n h => h4 n ((hr n).2 h), fun a ha ho => absurd ha ho⟩
theorem dfs_step {cs : List HC} {rs : List Nat} {S O : List Nat} {a : Nat} {c : HC} (h : Dfs cs rs S (O ++ [a])) (hc : cs[a]? = some c) :
    Dfs cs rs (seeF (S, O) (c.L.map hwq)).1 (seeF (S, O) (c.L.map hwq)).2 ∧ ∃ k, (seeF (S, O) (c.L.map hwq)).1.length = S.length + k ∧ (seeF (S, O) (c.L.map hwq)).2.length = O.length + k := by
  obtain ⟨new, h1, h2, h3, h4⟩ := seeF_spec (c.L.map hwq) S O
  rw [h1]
  have ha : a ∈ S := h.sub a (by simp)
  refine ⟨⟨nodup_app h.nodup h2 (fun n hn => (h3 n hn).1), nodup_app (List.nodup_append.1 h.ond).1 h2 (fun n hn ho => (h3 n hn).1 (h.sub n (by simp [ho]))), fun n hn => ?_, fun n hn => ?_, fun n hn => List.mem_append_left _ (h.root n hn), fun b hb hbo d hd e he => ?_⟩, new.length, by simp, by simp⟩
  · rcases List.mem_append.1 hn with hn | hn
    · exact List.mem_append_left _ (h.sub n (by simp [hn]))
    · exact List.mem_append_right _ hn
  · rcases List.mem_append.1 hn with hn | hn
    · exact h.rch n hn
    · exact .part (h.rch a ha) hc (hwq_mem.1 (h3 n hn).2)
  · simp only at hb hbo ⊢
    by_cases hba : b = a
    · subst hba
      rw [hc] at hd
      cases hd
      exact h4 e (hwq_mem.2 he)
    · rcases List.mem_append.1 hb with hb | hb
      · refine List.mem_append_left _ (h.parts b hb (fun ho => ?_) d hd e he)
        rcases List.mem_append.1 ho with ho | ho
        · exact hbo (List.mem_append_left _ ho)
        · simp at ho; exact hba ho
      · exact absurd (List.mem_append_right _ hb) hbo
theorem dfs_end {cs : List HC} {rs : List Nat} {S : List Nat} (h : Dfs cs rs S []) (n : Nat) : n ∈ S ↔ Rch cs rs n :=
  ⟨h.rch n, fun hn => hn.least h.root (fun a c b ha hc hb => h.parts a ha (by simp) c hc b hb)⟩
end Go.Proofs.YtaemfjmmklpjeaaGreatDoor
