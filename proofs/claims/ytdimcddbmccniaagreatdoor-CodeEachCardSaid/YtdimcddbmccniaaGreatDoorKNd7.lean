/- ast.nodes: an iterator over the first 4097 nodes of a tree, each with how deep it stands. (Out of XNodes, by gen_nd7.py.) -/
import Derived.Test.YtdimcddbmccniaaGreatDoorKSuch
import Derived.Test.YtdimcddbmccniaaGreatDoorKNodes
import Derived.Test.YtdimcddbmccniaaGreatDoorKCd1
import Derived.Test.YtdimcddbmccniaaGreatDoorKInts
import Derived.Test.YtdimcddbmccniaaGreatDoorKAstT
import Derived.Lib.ItoaNum
import Derived.WalkKit
import Derived.Lib.Hide
import Derived.Shelf.Abstract
import Derived.Shelf.RegionOpen
import Derived.OwnWalkIn
import Derived.TacticsInMore
import Derived.LoopNIn
import Derived.LoopIn
import Derived.RangeFuncBox
import Derived.Laws.EntriesVeiled
import Derived.Outline
section
set_option linter.unusedVariables false
namespace Go.Proofs.YtdimcddbmccniaaGreatDoor
open Go.RowKit Go.Shelf
attribute [local go_sem] Oper.semAt_some

def checkN (x : Tm) : Int := if (x.pre.take 257).all okB then (if 256 < x.nodes then 11 else 0) else 30

theorem all_map_ok {xs : List (Tm × Value)} (h : ∀ p ∈ xs, okB p.1 = true) {l : List Tm} (e : xs.map (·.1) = l) : l.all okB = true := by
  subst e; rw [List.all_eq_true]; intro y hy; obtain ⟨p, hp, rfl⟩ := List.mem_map.1 hy; exact h p hp

set_option maxRecDepth 100000 in
set_option maxHeartbeats 4000000 in
theorem Check_any (x : Tm) (v : Value) (w : World) (hT : TmAt (· < w.heap.size) w x v) (hS : Spans w) :
    Calls Tryz.prog 149 #[v] w fun e w' => e = .returned (.int .i64 (checkN x)) ∧ Below w.heap.size w w' := by
  obtain ⟨kk, nn, s, t, L, A, cap, hx, rfl⟩ : ∃ k' n' s' t' L' A' cap', x = Tm.mk k' n' s' t' L' ∧ v = .agg #[.int .i8 k', .int .i64 n', .string s', .string t', .slice A' L'.length cap'] := by
    cases hT; exact ⟨_, _, _, _, _, _, _, rfl, rfl⟩
  have HX := Lib.hid hx
  clear hx
  obtain ⟨S, hSz⟩ : ∃ S, S = w.heap.size := ⟨_, rfl⟩
  obtain ⟨w3, hw3⟩ : ∃ w3, w3 = ((w.alloc (.cells #[.int .i8 kk, .int .i64 nn, .string s, .string t, .slice A L.length cap] 48)).alloc (.cells #[.int .i64 0] 28)).alloc (.cells #[.int .i64 0] 3) := ⟨_, rfl⟩
  have hs3 : w3.heap.size = w.heap.size + 3 := by rw [hw3]; simp
  have b3 : Below w.heap.size w w3 := by rw [hw3]; exact (((Below.refl _ w).alloc (Nat.le_refl _) _).alloc (by simp) _).alloc (by simp; omega) _
  have r3 : w3.heap[w.heap.size + 1]? = some (.cells #[.int .i64 0] 28) := by
    rw [hw3]
    have := World.alloc_heap_new (w.alloc (.cells #[.int .i8 kk, .int .i64 nn, .string s, .string t, .slice A L.length cap] 48)) (.cells #[.int .i64 0] 28)
    rw [World.size_alloc] at this
    exact (Below.heap_alloc _ _ _ (by simp)).trans this
  have n3 : w3.heap[w.heap.size + 1 + 1]? = some (.cells #[.int .i64 0] 3) := by
    rw [hw3]
    have := World.alloc_heap_new ((w.alloc (.cells #[.int .i8 kk, .int .i64 nn, .string s, .string t, .slice A L.length cap] 48)).alloc (.cells #[.int .i64 0] 28)) (.cells #[.int .i64 0] 3)
    simp only [World.size_alloc] at this
    exact this
  obtain ⟨wL, hwL⟩ : ∃ wL, wL = w3.alloc (.cells #[.int .i8 kk, .int .i64 nn, .string s, .string t, .slice A L.length cap] 48) := ⟨_, rfl⟩
  have hsL : wL.heap.size = w.heap.size + 4 := by rw [hwL]; simp [hs3]
  have bL : Below w.heap.size w wL := by rw [hwL]; exact b3.alloc (by omega) _
  have HRL : Hid (wL.heap[w.heap.size + 1]? = some (.cells #[.int .i64 0] 28)) := by rw [hwL]; exact (Below.heap_alloc _ _ _ (by omega)).trans r3
  have HNL : Hid (wL.heap[w.heap.size + 1 + 1]? = some (.cells #[.int .i64 0] 3)) := by rw [hwL]; exact (Below.heap_alloc _ _ _ (by omega)).trans n3
  have hbt : wL.heap[w.heap.size + 1 + 1 + 1]? = some (.cells #[.int .i8 kk, .int .i64 nn, .string s, .string t, .slice A L.length cap] 48) := by
    rw [hwL]; have := World.alloc_heap_new w3 (.cells #[.int .i8 kk, .int .i64 nn, .string s, .string t, .slice A L.length cap] 48); rwa [hs3] at this
  have hTL : TmAt (· < w.heap.size) wL x _ := hT.under bL (Nat.le_refl _)
  have HSeq := Lib.hid (nodes_seq (3 - 1) w.heap.size (w.heap.size + 1 + 1 + 1) x _ wL hTL (by omega) ⟨_, rfl, hbt⟩)
  have HBL := Lib.hid bL
  have HSL := Lib.hid hsL
  have HS3 := Lib.hid hs3
  clear hTL hbt hsL bL b3 r3 n3 hs3 hT
  refine (callsIn_wide (n := 3)).1 ?_
  refine callsIn_of_wp_marks Tryz.func149 rfl trivial ?_ rfl
  simp only [Tryz.ntmps149, List.size_toArray, List.length_cons, List.length_nil, Nat.reduceAdd, Nat.reduceSub, Array.replicate_succ, Array.replicate_zero, List.push_toArray, List.append_toArray, List.nil_append, List.cons_append]
  gi_wp2_with (refine ⟨trivial, ?_⟩; gi_at_call 209; refine (nodes_in _ _ _).mono ?_; rintro e w' ⟨rfl, rfl⟩)
  rw [← hw3, ← hwL]
  have hSL : Spans wL := hS.below HBL.out hS.lt
  refine range_cells (α := Tm × Value) (gf := 241) (lb := #[.pointer (some ⟨w.heap.size + 1 + 1 + 1, 0, none⟩)]) rfl (enters_of Tryz.func241 (by kernel_rfl) rfl) (fun _ => rfl) HSeq.out (by rw [HSL.out]; omega)
    (fun pre W => ((∀ p ∈ pre, okB p.1 = true) ∧ W.heap[w.heap.size + 1]? = some (.cells #[.int .i64 0] 28 (0, 0)) ∧ W.heap[w.heap.size + 1 + 1]? = some (.cells #[.int .i64 pre.length] 3 (0, 0))) ∧ Below w.heap.size w W)
    (fun c pre W => (c = .ret ∧ (∃ (ini : List (Tm × Value)) (last : Tm × Value), pre = ini ++ [last] ∧ okB last.1 = false) ∧ W.heap[w.heap.size + 1]? = some (.cells #[.int .i64 30] 28 (0, 0))) ∧ Below w.heap.size w W)
    (fun s X Y hb h => ⟨⟨h.1.1, (hb.block _ (by rw [HSL.out]; omega)).trans h.1.2.1, (hb.block _ (by rw [HSL.out]; omega)).trans h.1.2.2⟩, h.2.trans (hb.mono (by rw [HSL.out]; omega))⟩)
    (fun c s X Y hb h => ⟨⟨h.1.1, h.1.2.1, (hb.block _ (by rw [HSL.out]; omega)).trans h.1.2.2⟩, h.2.trans (hb.mono (by rw [HSL.out]; omega))⟩)
    ⟨⟨fun p hp => (by simp at hp), HRL.out, HNL.out⟩, HBL.out⟩
    (fun x a' W => ∃ b c, wL.heap.size + 2 ≤ b ∧ x.2 = .agg c ∧ W.heap[b]? = some (.cells c 48 (0, 0)) ∧ a' = { tmps := #[.agg #[.int .i8 kk, .int .i64 nn, .string s, .string t, .slice A L.length cap], .pointer (some ⟨w.heap.size, 0, none⟩), .pointer (some ⟨w.heap.size + 1, 0, none⟩), .pointer (some ⟨w.heap.size + 1 + 1, 0, none⟩), .pointer (some ⟨b, 0, none⟩),
      .agg #[.int .i8 kk, .int .i64 nn, .string s, .string t, .slice A L.length cap], .func (.func 241) #[] #[.pointer (some ⟨w.heap.size + 1 + 1 + 1, 0, none⟩)], x.2, undef, undef, undef, undef, undef, undef, undef], defers := [] })
    (fun x a' X Y hm h => by obtain ⟨b, c, h1, h2, h3, h4⟩ := h; exact ⟨b, c, h1, h2, (hm.block _ (heap_lt h3) (by omega)).trans h3, h4⟩) ?assign ?body ?done ?stop (by decide)
  case assign =>
    rintro l pre ⟨y, u⟩ W K hi hE hsz hK
    dsimp only at hE
    obtain ⟨k', n', s', t', L', A', cap', hy', rfl⟩ : ∃ k' n' s' t' L' A' cap', y = Tm.mk k' n' s' t' L' ∧ u = .agg #[.int .i8 k', .int .i64 n', .string s', .string t', .slice A' L'.length cap'] := by
      cases hE; exact ⟨_, _, _, _, _, _, _, rfl, rfl⟩
    have HK := Lib.hid (hK _ _ ((Below.refl _ W).alloc (Nat.le_refl _) _) ⟨W.heap.size, _, hsz, rfl, World.alloc_heap_new W _, rfl⟩)
    clear hK hi hy' hE
    gi_wp2
    exact HK.out
  case body =>
    rintro l pre ⟨y, u⟩ a' W ⟨⟨hok, hr, hn⟩, hB⟩ hE ⟨b, c, hb, hu, hbx, rfl⟩ hlen hsz
    dsimp only at hE hu
    have HTy := Lib.hid hE
    obtain ⟨k', n', s', t', L', A', cap', hy', rfl⟩ : ∃ k' n' s' t' L' A' cap', y = Tm.mk k' n' s' t' L' ∧ u = .agg #[.int .i8 k', .int .i64 n', .string s', .string t', .slice A' L'.length cap'] := by
      cases hE; exact ⟨_, _, _, _, _, _, _, rfl, rfl⟩
    simp only [Value.agg.injEq] at hu
    subst hu
    clear hy' hE
    have d0 : W.cell? ⟨b, 0, none⟩ = some (.int .i8 k') := cell_of_row hbx rfl
    have d1 : W.cell? ⟨b, 1, none⟩ = some (.int .i64 n') := cell_of_row hbx rfl
    have d2 : W.cell? ⟨b, 2, none⟩ = some (.string s') := cell_of_row hbx rfl
    have d3 : W.cell? ⟨b, 3, none⟩ = some (.string t') := cell_of_row hbx rfl
    have d4 : W.cell? ⟨b, 4, none⟩ = some (.slice A' L'.length cap') := cell_of_row hbx rfl
    have hSW : Spans W := hS.below hB hS.lt
    have HC := Lib.hid (such_any (P := (· < w.heap.size)) (HTy.out.keep (w' := W) (fun q hq => (hB.block q hq).trans (HBL.out.block q hq).symm) (fun _ h => h)) hSW)
    have HB := Lib.hid hB
    have HR := Lib.hid hr
    have HN := Lib.hid hn
    have HOK := Lib.hid hok
    clear hB hr hn hok hbx
    gi_wp2_with fail
    refine ⟨trivial, (CallsIn.inRound l (callsIn_wide.2 HC.out)).mono ?_⟩
    clear d0 d1 d2 d3 d4
    rintro e W1 ⟨rfl, b1⟩
    have B1 := HB.out.trans (b1.mono HB.out.size)
    have hr1 : W1.heap[w.heap.size + 1]? = _ := (b1.block _ (heap_lt HR.out)).trans HR.out
    have hn1 : W1.heap[w.heap.size + 1 + 1]? = _ := (b1.block _ (heap_lt HN.out)).trans HN.out
    have HM1 := Lib.hid (Mod.of_below (F := fun k => w.heap.size ≤ k ∧ k < wL.heap.size) b1)
    have HBB := Lib.hid B1
    have HSL' := HSL.out
    have f1 : W1.frozen? ⟨w.heap.size + 1, 0, none⟩ = false := free_of_row hr1
    have f2 : W1.frozen? ⟨w.heap.size + 1 + 1, 0, none⟩ = false := free_of_row hn1
    have c1 : W1.cell? ⟨w.heap.size + 1, 0, none⟩ = some (.int .i64 0) := cell_of_row hr1 rfl
    have c2 : W1.cell? ⟨w.heap.size + 1 + 1, 0, none⟩ = some (.int .i64 pre.length) := cell_of_row hn1 rfl
    have HR1 := Lib.hid hr1
    have HN1 := Lib.hid hn1
    have hlen' : pre.length < 257 := hlen
    have HSS := Lib.hid HSL'
    clear b1 B1 hr1 hn1 HSL' hlen hsz hb
    cases hk : okB y
    · gi_wp2
      refine ⟨HM1.out.trans (Mod.setCell _ _ _ (.inl (by have := HSS.out; dsimp only; omega))) (fun _ _ h => h), ⟨rfl, ⟨pre, _, rfl, hk⟩, set_row _ HR1.out⟩, HBB.out.setCell (by dsimp only; omega) _⟩
    · gi_wp2
      refine ⟨HM1.out.trans (Mod.setCell _ _ _ (.inl (by have := HSS.out; dsimp only; omega))) (fun _ _ h => h), ⟨fun p hp => ?_, ?_, ?_⟩, HBB.out.setCell (by dsimp only; omega) _⟩
      · rcases List.mem_append.1 hp with hp | hp
        · exact HOK.out p hp
        · simp at hp; subst hp; exact hk
      · exact (Below.heap_setCell _ _ _ _ (by simp)).trans HR1.out
      · have e : ((pre ++ [(y, Value.agg #[.int .i8 k', .int .i64 n', .string s', .string t', .slice A' L'.length cap'])]).length : Int) = (pre.length : Int) + 1 := by simp
        rw [e]
        exact set_row _ HN1.out
  case done =>
    rintro xs W hxs ⟨⟨hok, hr, hn⟩, hB⟩ hK
    have hlen : xs.length = min 257 x.nodes := by rw [← List.length_map (f := (·.1)), hxs, List.length_take]; rfl
    have hall := all_map_ok hok hxs
    have c1 : W.cell? ⟨w.heap.size + 1, 0, none⟩ = some (.int .i64 0) := cell_of_row hr rfl
    have f1 : W.frozen? ⟨w.heap.size + 1, 0, none⟩ = false := free_of_row hr
    have c2 : W.cell? ⟨w.heap.size + 1 + 1, 0, none⟩ = some (.int .i64 xs.length) := cell_of_row hn rfl
    have HR := Lib.hid hr
    have HB := Lib.hid hB
    have HK := Lib.hid hK
    have HLE := Lib.hid hlen
    have HAL := Lib.hid hall
    clear hr hn hB hK hok hxs hlen hall
    have fin : ∀ z : Int, z = checkN x → ∀ V, V = (W.setCell ⟨w.heap.size + 1, 0, none⟩ (.int .i64 z)).putObj wL.heap.size (.deferred none) → V.cell? ⟨w.heap.size + 1, 0, none⟩ = some (.int .i64 (checkN x)) ∧ Below w.heap.size w V := by
      rintro z rfl V rfl
      have h1 := set_row (.int .i64 (checkN x)) (i := 0) HR.out
      have hD : wL.heap.size < W.heap.size := heap_lt HK.out
      refine ⟨?_, ?_⟩
      · exact cell_of_row ((World.putObj_heap_other (by rw [HSL.out]; omega)).trans h1) rfl
      · exact (HB.out.setCell (by dsimp only; omega) _).trans ((Mod.putObj (F := fun k => k = wL.heap.size) _ _ _ rfl).below (by simp [World.setCell]; have := HSL.out; omega) (fun k (e : k = wL.heap.size) => by have := HSL.out; omega))
    have HF := Lib.hid fin
    clear fin
    by_cases hgt : 256 < xs.length
    · gi_wp2
      refine ⟨by simp, .inl ⟨_, _, rfl, run_takeDeferred ((KeepsOthers.setCell W _ _).same _ _ HK.out rfl), ?_⟩⟩
      obtain ⟨h5, h6⟩ := HF.out 11 (by unfold checkN; rw [if_pos HAL.out, if_pos (by have := HLE.out; omega)]) _ rfl
      exact ⟨_, by simp [results, Tryz.f149, go_sem, h5], rfl, h6⟩
    · gi_wp2
      refine ⟨by simp, .inl ⟨_, _, rfl, run_takeDeferred ((KeepsOthers.setCell W _ _).same _ _ HK.out rfl), ?_⟩⟩
      obtain ⟨h5, h6⟩ := HF.out 0 (by unfold checkN; rw [if_pos HAL.out, if_neg (by have := HLE.out; omega)]) _ rfl
      exact ⟨_, by simp [results, Tryz.f149, go_sem, h5], rfl, h6⟩
  case stop =>
    rintro c pre W ⟨k, hk, hkl⟩ ⟨⟨rfl, ⟨ini, last, e1, e2⟩, hr⟩, hB⟩ hK
    have hbad : checkN x = 30 := by
      unfold checkN
      rw [if_neg]
      intro hall
      have hmem : last.1 ∈ x.pre.take k := by rw [← hk, e1]; simp
      have hk257 : last.1 ∈ x.pre.take 257 := by
        have hkl' : (x.pre.take k).length ≤ 257 := by rw [← hk, List.length_map]; exact hkl
        rw [List.length_take] at hkl'
        by_cases h : k ≤ 257
        · exact List.take_subset_take_left _ h hmem
        · rw [List.take_of_length_le (by omega)]; exact List.mem_of_mem_take hmem
      have := List.all_eq_true.1 hall _ hk257
      rw [e2] at this; cases this
    gi_wp2
    refine ⟨by simp, .inl ⟨_, _, rfl, run_takeDeferred hK, ?_⟩⟩
    have h5 : (W.putObj wL.heap.size (.deferred none)).cell? ⟨w.heap.size + 1, 0, none⟩ = some (.int .i64 30) := cell_of_row ((World.putObj_heap_other (by rw [HSL.out]; omega)).trans hr) rfl
    refine ⟨.int .i64 30, by simp [results, Tryz.f149, go_sem, h5], ret_int hbad.symm, ?_⟩
    exact hB.trans ((Mod.putObj (F := fun k => k = wL.heap.size) _ _ _ rfl).below (by have := heap_lt hK; have := HSL.out; omega) (fun k (e : k = wL.heap.size) => by have := HSL.out; omega))
end Go.Proofs.YtdimcddbmccniaaGreatDoor
end
section
set_option linter.unusedVariables false
namespace Go.Proofs.YtdimcddbmccniaaGreatDoor
open Go.RowKit
open Go.Lib (decDigits itoa)

def nameV (n : Int) : ByteArray := if n < 0 ∨ 32 ≤ n then ⟨#[]⟩ else ⟨(86 :: itoa n).toArray⟩
def trimV : List UInt8 → List UInt8
  | c :: l => if c = 86 then l else c :: l
  | [] => []
def slotN (s : ByteArray) : Int := (readR (trimV s.data.toList)).1
def slotB (s : ByteArray) : Bool := decide (nameV (slotN s) = s)
def inSlotsB (x : Tm) : Bool := (varsL x).all slotB

def blank5 (k n : Int) (s t : ByteArray) (len : Nat) : Bool := (k == 0) && ((n == 0) && (s.toList.isEmpty && (t.toList.isEmpty && ((len : Int) == 0))))
def noT (x : Tm) : Bool := blank5 x.k x.n x.s x.t x.l.length
def isT (x : Tm) : Bool := checkN x == 0
def bare5 (k n : Int) (t : ByteArray) (len : Nat) : Bool := (k == 1) && ((n == 0) && (t.toList.isEmpty && ((len : Int) == 0)))
def bareB (x : Tm) : Bool := bare5 x.k x.n x.t x.l.length
def withinB (n a b : Int) : Bool := decide (a ≤ n) && decide (n ≤ b)
def callsB (F : List Fn13) (c : Cd) : Bool := withinB c.b 0 ((F.length : Int) - 1) && (match F[c.b.toNat]? with | some f => f.n == c.a | none => false)
def takesB (x : Tm) : Bool := clauseR x 1 && (x.l.length == 3 && ((match x.l[2]? with | some y => y.k == 8 | none => false) && inSlotsB x))
def recvC (T : List (List Int)) (c : Cd) : Bool :=
  withinB c.a 0 1 && (c.t.k == 0 && (isT c.t && (withinB c.t.n 0 32 && (withinB c.b 0 ((T.length : Int) - 1) && ((match T[c.b.toNat]? with | some l => l.length == c.l.length + 1 | none => false) && c.l.all takesB)))))
def ruleB (F : List Fn13) (T : List (List Int)) (c : Cd) : Bool :=
  if c.op = 0 then isT c.t
  else if c.op = 1 ∨ c.op = 2 then withinB c.a 0 31
  else if c.op = 4 then withinB c.a 0 256
  else if c.op = 6 then bareB c.t && ((cmpR c.t.s 0).2 || arithB c.t.s)
  else if c.op = 7 then bareB c.t && builtB c.t.s c.a
  else if c.op = 8 ∨ c.op = 9 then callsB F c
  else if c.op = 10 then withinB c.a 0 8
  else if c.op = 13 then withinB c.b 0 32 && (fitsB c.p && patB c.p && inSlotsB c.p)
  else if c.op = 14 then fitsB c.p && guardB c.p && inSlotsB c.p
  else if c.op = 15 then withinB c.b 0 2 && isT c.t
  else if c.op = 18 then recvC T c
  else true
def fldN (j : Nat) : Nat := [4, 1, 1, 0, 1, 0, 4, 5, 3, 3, 1, 0, 1, 11, 9, 6, 1, 0, 23, 0].getD j 0
def blankC (c : Cd) (f : Nat) : Bool :=
  (c.a == 0 || f.testBit 0) && ((c.b == 0 || f.testBit 1) && ((noT c.t || f.testBit 2) && ((noT c.p || f.testBit 3) && ((c.l.length : Int) == 0 || f.testBit 4))))
def instB (F : List Fn13) (T : List (List Int)) (c : Cd) : Bool := decide (0 ≤ c.op ∧ c.op < 20) && (blankC c (fldN c.op.toNat) && ruleB F T c)
def gathN (c : Cd) : List Int := if c.op = 12 ∨ c.op = 13 ∨ c.op = 14 ∨ c.op = 16 then [c.a] else []
def placeB (m : Nat) (n : Int) : Bool := decide (0 ≤ n ∧ n < (m : Int))
def oneB (F : List Fn13) (T : List (List Int)) (m : Nat) (c : Cd) : Bool := instB F T c && (gathN c).all (placeB m)
def fnB (f : Fn13) : Bool := nameB f.s 2 && (nameB f.t 2 && (withinB f.n 0 8 && withinB f.slots f.n 32))
def fnK (f : Fn13) : ByteArray × ByteArray × Int := (f.s, f.t, f.n)
def fnsB : List (ByteArray × ByteArray × Int) → List Fn13 → Bool
  | _, [] => true
  | seen, f :: l => fnB f && (!decide (fnK f ∈ seen) && fnsB (seen ++ [fnK f]) l)
def overB (l : List Cd) : Bool := match l.getLast? with | none => true | some c => c.op == 11 || (c.op == 9 || (c.op == 12 || c.op == 15))
def fitsP (x : Pg) : Bool := decide (x.ops.length ≤ 4096 ∧ x.fns.length ≤ 4096 ∧ x.tab.length ≤ 4097 ∧ x.tab.flatten.length ≤ 4096)
def namedP (x : Pg) : List Int := x.tab.flatten ++ (x.fns.map Fn13.at_ ++ x.ops.flatMap gathN)
def mayP (x : Pg) : Bool := fitsP x && (overB x.ops && (fnsB [] x.fns && (x.ops.all (instB x.fns x.tab) && (namedP x).all (placeB x.ops.length))))
def checkP (x : Pg) : Int := if mayP x = true then 0 else 130
theorem fnsB_app (l m : List Fn13) : ∀ seen, fnsB seen (l ++ m) = (fnsB seen l && fnsB (seen ++ l.map fnK) m) := by
  induction l with
  | nil => intro seen; simp [fnsB]
  | cons f l ih =>
    intro seen
    rw [List.cons_append, fnsB, fnsB, ih]
    simp [Bool.and_assoc]

theorem each_P {x : Pg} (h : mayP x = true) {c : Cd} (hc : c ∈ x.ops) : oneB x.fns x.tab x.ops.length c = true := by
  unfold mayP at h
  simp only [Bool.and_eq_true] at h
  obtain ⟨h1, h2, h3, h4, h5⟩ := h
  unfold oneB
  rw [Bool.and_eq_true]
  refine ⟨List.all_eq_true.1 h4 c hc, ?_⟩
  rw [List.all_eq_true] at h5 ⊢
  intro n hn
  refine h5 n ?_
  unfold namedP
  exact List.mem_append_right _ (List.mem_append_right _ (List.mem_flatMap.2 ⟨c, hc, hn⟩))
theorem spoil_P {x : Pg} (h : mayP x = true) {c : Cd} {k : Nat} (hk : k + 1 < x.ops.length) : mayP ⟨x.fns, x.ops.set k c, x.tab⟩ = oneB x.fns x.tab x.ops.length c := by
  have hm := h
  unfold mayP at h
  simp only [Bool.and_eq_true] at h
  obtain ⟨h1, h2, h3, h4, h5⟩ := h
  have hfit : fitsP ⟨x.fns, x.ops.set k c, x.tab⟩ = true := by
    unfold fitsP at h1 ⊢
    simpa using h1
  have hov : overB (x.ops.set k c) = true := by
    unfold overB at h2 ⊢
    rw [List.getLast?_eq_getElem?, List.length_set, List.getElem?_set, if_neg (by omega), ← List.getLast?_eq_getElem?]
    exact h2
  have hall : ∀ p : Cd → Bool, x.ops.all p = true → (x.ops.set k c).all p = p c := by
    intro p hp
    rw [Bool.eq_iff_iff, List.all_eq_true]
    rw [List.all_eq_true] at hp
    constructor
    · intro h; exact h c (by rw [List.mem_iff_getElem?]; exact ⟨k, by rw [List.getElem?_set]; simp; omega⟩)
    · intro hc d hd
      rcases List.mem_or_eq_of_mem_set hd with hd | rfl
      · exact hp d hd
      · exact hc
  have hpl : ∀ p : Int → Bool, (namedP x).all p = true → (namedP ⟨x.fns, x.ops.set k c, x.tab⟩).all p = (gathN c).all p := by
    intro p hp
    unfold namedP at hp ⊢
    simp only [List.all_append, List.all_flatMap, Bool.and_eq_true] at hp
    simp only [List.all_append, List.all_flatMap, hp.1, hp.2.1, Bool.true_and]
    exact hall _ hp.2.2
  unfold mayP oneB
  simp only [hfit, hov, h3, hall _ h4, Bool.true_and, List.length_set, hpl _ h5]
end Go.Proofs.YtdimcddbmccniaaGreatDoor
end
section
set_option linter.unusedVariables false
namespace Go.Proofs.YtdimcddbmccniaaGreatDoor
open Go.RowKit Go.Shelf
attribute [local go_sem] Oper.semAt_some

theorem YieldAt.deep7 {m : Nat} (m' : Nat) {P : Program} {l : Nat} {args : Array Value} {W : World} {R : Ending → World → Prop} (h : YieldAt Fence.wide m P l args W R) : YieldAt Fence.wide m' P l args W R := by
  obtain ⟨fn, tmps, assign, body, hy, hR⟩ := h
  exact ⟨fn, tmps, assign, body, hy, hR.1, fun c cs _ => hR.2 c cs (room_wide _)⟩

mutual
def Tm.preD : Nat → Tm → List (Tm × Nat)
  | d, .mk k n s t l => (.mk k n s t l, d) :: Tm.presD (d + 1) l
def Tm.presD : Nat → List Tm → List (Tm × Nat)
  | _, [] => []
  | d, x :: l => Tm.preD d x ++ Tm.presD d l
end
theorem Tm.presD_fst (d : Nat) : ∀ (l : List Tm), (∀ x ∈ l, ∀ d, (Tm.preD d x).map (·.1) = x.pre) → (Tm.presD d l).map (·.1) = Tm.pres l
  | [], _ => rfl
  | x :: l, h => by rw [Tm.presD, List.map_append, h x (by simp), Tm.presD_fst d l (fun y hy => h y (by simp [hy])), Tm.pres]
theorem Tm.preD_fst (x : Tm) : ∀ d, (Tm.preD d x).map (·.1) = x.pre := by
  induction x using Tm.ind with
  | h k n s t l ih => intro d; rw [Tm.preD, List.map_cons, Tm.presD_fst _ _ ih, Tm.pre]
theorem Tm.preD_len (d : Nat) (x : Tm) : (Tm.preD d x).length = x.nodes := by rw [← List.length_map (f := (·.1)), Tm.preD_fst]; rfl
theorem Tm.presD_len (d : Nat) (l : List Tm) : (Tm.presD d l).length = (Tm.pres l).length := by rw [← Tm.presD_fst d l (fun x _ => Tm.preD_fst x), List.length_map]
theorem Tm.presD_append (d : Nat) (a b : List Tm) : Tm.presD d (a ++ b) = Tm.presD d a ++ Tm.presD d b := by
  induction a with
  | nil => simp [Tm.presD]
  | cons x a ih => simp [Tm.presD, ih]
theorem Tm.presD_take_succ {d : Nat} {l : List Tm} {j : Nat} {x : Tm} (h : l[j]? = some x) : Tm.presD d (l.take (j + 1)) = Tm.presD d (l.take j) ++ Tm.preD d x := by
  rw [List.take_add_one, h, Option.toList_some, Tm.presD_append]; simp [Tm.presD]
theorem Tm.presD_split {d : Nat} {L : List Tm} {j : Nat} {y : Tm} (h : L[j]? = some y) : Tm.presD d L = Tm.presD d (L.take j) ++ (Tm.preD d y ++ Tm.presD d (L.drop (j + 1))) := by
  have e : L = L.take j ++ (y :: L.drop (j + 1)) := by
    obtain ⟨hj, e⟩ := List.getElem?_eq_some_iff.1 h
    subst e
    rw [← List.drop_eq_getElem_cons hj, List.take_append_drop]
  have e2 := Tm.presD_append d (L.take j) (y :: L.drop (j + 1))
  rw [← e] at e2
  rw [e2]; rfl
theorem Tm.pres_len_split {L : List Tm} {j : Nat} {y : Tm} (h : L[j]? = some y) : (Tm.pres (L.take j)).length + y.nodes ≤ (Tm.pres L).length := by
  have e := Tm.presD_split (d := 0) h
  have e2 := congrArg List.length e
  rw [List.length_append, List.length_append, Tm.presD_len, Tm.presD_len, Tm.preD_len] at e2
  omega
theorem Tm.preD_take {k n : Int} {s t : ByteArray} {L : List Tm} {j d : Nat} {y : Tm} (h : L[j]? = some y) (i : Nat) (hi : i ≤ y.nodes) :
    (Tm.preD d (Tm.mk k n s t L)).take ((Tm.pres (L.take j)).length + i + 1) = (Tm.mk k n s t L, d) :: (Tm.presD (d + 1) (L.take j) ++ (Tm.preD (d + 1) y).take i) := by
  rw [Tm.preD, List.take_succ_cons, Tm.presD_split h, List.take_append, List.take_of_length_le (by rw [Tm.presD_len]; omega), List.take_append]
  have e1 : (Tm.pres (L.take j)).length + i - (Tm.presD (d + 1) (L.take j)).length = i := by rw [Tm.presD_len]; omega
  have e2 : i - (Tm.preD (d + 1) y).length = 0 := by rw [Tm.preD_len]; omega
  rw [e1, e2]
  simp
abbrev ND : Type := (Tm × Value) × Nat
def ndK (p : ND) : Tm × Nat := (p.1.1, p.2)

structure Gen7 (l Y : Nat) (M : Nat) (W : World) : Prop where
  yield : W.heap[Y]? = some (.cells #[.func (.yield l) #[] #[]] 209 (0, 0))
  left : W.heap[Y + 1]? = some (.cells #[.int .i64 M] 3 (0, 0))
  walk : W.heap[Y + 2]? = some (.cells #[.func (.func 169) #[] #[.pointer (some ⟨Y + 1, 0, none⟩), .pointer (some ⟨Y, 0, none⟩), .pointer (some ⟨Y + 2, 0, none⟩)]] 209 (0, 0))

theorem Gen7.mod {l Y M : Nat} {F : Nat → Prop} {W W' : World} (h : Gen7 l Y M W) (hm : Mod F W W') (hF : ¬ F Y ∧ ¬ F (Y + 1) ∧ ¬ F (Y + 2)) : Gen7 l Y M W' :=
  ⟨(hm.block _ (heap_lt h.yield) hF.1).trans h.yield, (hm.block _ (heap_lt h.left) hF.2.1).trans h.left, (hm.block _ (heap_lt h.walk) hF.2.2).trans h.walk⟩

def WalkP7 (l n₀ Y M N : Nat) (J Jx : List ND → World → Prop) (pre : List ND) (d : Nat) (x : Tm) (W : World) (e : Ending) (W' : World) : Prop :=
  (e = .returned (.bool true) ∧ x.nodes < M ∧ (∃ q : List ND, q.map ndK = Tm.preD d x ∧ J (pre ++ q) W') ∧ Gen7 l Y (M - x.nodes) W' ∧ Mod (fun k => (n₀ ≤ k ∧ k < Y) ∨ k = Y + 1) W W') ∨
  (e = .returned (.bool false) ∧ ((M ≤ x.nodes ∧ ∃ q : List ND, q.map ndK = (Tm.preD d x).take M ∧ J (pre ++ q) W') ∨ (∃ (q : List ND) (k : Nat), q.map ndK = (Tm.preD d x).take k ∧ pre.length + q.length ≤ N ∧ Jx (pre ++ q) W')))

set_option maxRecDepth 100000 in
set_option maxHeartbeats 4000000 in
theorem nodes7_walked (l n₀ Y N : Nat) (w0 : World) (J Jx : List ND → World → Prop) (hn : n₀ ≤ Y)
    (hJ : ∀ s A B, J s A → Mod (fun k => Y ≤ k) A B → J s B)
    (hY : ∀ (m : Nat) pre x W, J pre W → TmAt (· < n₀) w0 x.1.1 x.1.2 → pre.length < N → YieldAt Fence.wide m Tryz.prog l #[.int .i64 x.2, x.1.2] W fun e W' =>
      (e = .returned (.bool true) ∧ J (pre ++ [x]) W' ∧ Mod (fun k => n₀ ≤ k ∧ k < Y) W W') ∨ (e = .returned (.bool false) ∧ Jx (pre ++ [x]) W')) (x : Tm) :
    ∀ (n d : Nat) (v : Value) (pre : List ND) (M : Nat) (W : World), d + M ≤ 4098 → TmAt (· < n₀) w0 x v → Below n₀ w0 W → n₀ ≤ w0.heap.size → Gen7 l Y M W → 1 ≤ M → M ≤ 4097 → J pre W → pre.length + M ≤ N →
      CallsIn Fence.wide n Tryz.prog 169 #[.int .i64 d, v, .pointer (some ⟨Y + 1, 0, none⟩), .pointer (some ⟨Y, 0, none⟩), .pointer (some ⟨Y + 2, 0, none⟩)] W (WalkP7 l n₀ Y M N J Jx pre d x W) := by
  induction x using Tm.ind with
  | h kk nn s t L ih =>
    intro n d v pre M W hdM hT hB hn0 hG hM hM2 hj hN
    obtain ⟨m, rfl⟩ : ∃ m, M = m + 1 := ⟨M - 1, by omega⟩
    have HT := Lib.hid hT
    obtain ⟨A, cap, rfl, hR, hk, hnn, hs, ht⟩ := hT.parts
    have hlen := hR.max
    unfold maxLen at hlen
    have HR := Lib.hid hR
    have HIH := Lib.hid ih
    clear hR ih hT
    obtain ⟨X, hX⟩ : ∃ X, X = (Tm.mk kk nn s t L) := ⟨_, rfl⟩
    rw [← hX] at HT ⊢
    obtain ⟨W1, hW1⟩ : ∃ W1, W1 = W.alloc (.cells #[.int .i8 kk, .int .i64 nn, .string s, .string t, .slice A L.length cap] 25) := ⟨_, rfl⟩
    have hYlt := heap_lt hG.walk
    have m1 : Mod (fun _ => False) W W1 := by rw [hW1]; exact Mod.alloc _ _ _
    have hs1 : W1.heap.size = W.heap.size + 1 := by rw [hW1]; simp
    have hbox : W1.heap[W.heap.size]? = some (.cells #[.int .i8 kk, .int .i64 nn, .string s, .string t, .slice A L.length cap] 25) := by rw [hW1]; exact World.alloc_heap_new _ _
    have G1 := hG.mod m1 ⟨fun h => h, fun h => h, fun h => h⟩
    have cl : W1.cell? ⟨Y + 1, 0, none⟩ = some (.int .i64 ((m : Int) + 1)) := cell_of_row G1.left rfl
    have fl : W1.frozen? ⟨Y + 1, 0, none⟩ = false := free_of_row G1.left
    obtain ⟨W2, hW2⟩ : ∃ W2, W2 = W1.setCell ⟨Y + 1, 0, none⟩ (.int .i64 (m : Int)) := ⟨_, rfl⟩
    have m2 : Mod (fun k => k = Y + 1) W1 W2 := by rw [hW2]; exact Mod.setCell _ _ _ (.inl rfl)
    have m12 : Mod (fun k => k = Y + 1) W W2 := (m1.mono (fun _ _ h => h.elim)).trans m2 (fun k _ e => e)
    have G2 : Gen7 l Y m W2 := by
      refine ⟨(m2.block _ (heap_lt G1.yield) (by omega)).trans G1.yield, ?_, (m2.block _ (heap_lt G1.walk) (by omega)).trans G1.walk⟩
      rw [hW2]; exact set_row _ G1.left
    have hs2 : W2.heap.size = W.heap.size + 1 := by rw [hW2]; simp [World.setCell, hs1]
    have cy : W2.cell? ⟨Y, 0, none⟩ = some (.func (.yield l) #[] #[]) := cell_of_row G2.yield rfl
    have hb2 : W2.heap[W.heap.size]? = _ := (m2.block _ (by omega) (by omega)).trans hbox
    have b0 : W2.cell? ⟨W.heap.size, 0, none⟩ = some (.int .i8 kk) := cell_of_row hb2 rfl
    have b1 : W2.cell? ⟨W.heap.size, 1, none⟩ = some (.int .i64 nn) := cell_of_row hb2 rfl
    have b2 : W2.cell? ⟨W.heap.size, 2, none⟩ = some (.string s) := cell_of_row hb2 rfl
    have b3 : W2.cell? ⟨W.heap.size, 3, none⟩ = some (.string t) := cell_of_row hb2 rfl
    have b4 : W2.cell? ⟨W.heap.size, 4, none⟩ = some (.slice A L.length cap) := cell_of_row hb2 rfl
    have j2 : J pre W2 := hJ _ _ _ hj (m12.mono (fun k _ e => by omega))
    obtain ⟨fn, tmps, assign, body, hy, hRound⟩ := hY (n - 1) pre ((X, _), d) W2 j2 HT.out (by omega)
    dsimp only at hy
    have HX := Lib.hid hX
    have HB := Lib.hid hB
    have HS2 := Lib.hid hs2
    have HB2 := Lib.hid hb2
    have HM12 := Lib.hid m12
    have HG2 := Lib.hid G2
    have HJ := Lib.hid hJ
    have HY := Lib.hid hY
    clear hX hG hB hs1 hs2 hbox hb2 G1 m1 m2 m12 G2 hJ hY hj j2
    -- where the walk goes on behind yield
    have back : ∀ (W3 : World) (K : Ending → World → Prop), True := fun _ _ => trivial
    subst hW2
    subst hW1
    refine callsIn_of_wp Tryz.func169 rfl trivial ?_ rfl
    simp only [Tryz.ntmps169, List.size_toArray, List.length_cons, List.length_nil, Nat.reduceAdd, Nat.reduceSub, Array.replicate_succ, Array.replicate_zero, List.push_toArray, List.append_toArray, List.nil_append, List.cons_append]
    gi_wp2
    refine ⟨fun h => (by cases h), ?_⟩
    refine hRound.mono ?_
    clear hRound hy cl fl cy b0 b1 b2 b3 b4
    rintro e W3 (⟨rfl, hJ3, hm3⟩ | ⟨rfl, hx3⟩)
    · have hs3 : W.heap.size + 1 ≤ W3.heap.size := by have := hm3.size; rw [HS2.out] at this; exact this
      have G3 : Gen7 l Y m W3 := HG2.out.mod hm3 ⟨by omega, by omega, by omega⟩
      have hb3 : W3.heap[W.heap.size]? = _ := (hm3.block _ (by rw [HS2.out]; omega) (by omega)).trans HB2.out
      have b4 : W3.cell? ⟨W.heap.size, 4, none⟩ = some (.slice A L.length cap) := cell_of_row hb3 rfl
      have cl : W3.cell? ⟨Y + 1, 0, none⟩ = some (.int .i64 (m : Int)) := cell_of_row G3.left rfl
      have HM3 : Hid (Mod (fun k => (n₀ ≤ k ∧ k < Y) ∨ k = Y + 1) W W3) := (HM12.out.mono (fun k _ e => .inr e)).trans hm3 (fun k _ e => .inl e)
      have HG3 := Lib.hid G3
      have HJ3 := Lib.hid hJ3
      clear hb3 G3 hm3 hJ3
      by_cases hm0 : m = 0
      · subst hm0
        gi_wp2
        go_ret
        refine .inr ⟨rfl, .inl ⟨Tm.pre_ne _, [((X, _), d)], ?_, HJ3.out⟩⟩
        rw [HX.out]; rfl
      · have h0 : ((m : Int) == 0) = false := by rw [beq_eq_false_iff_ne]; omega
        gi_wp2
        gi_loopw [24] (fun i wr => ∃ j : Nat, j ≤ L.length ∧ i = .int .i64 j ∧ (Tm.pres (L.take j)).length < m ∧ (∃ q : List ND, q.map ndK = Tm.presD (d + 1) (L.take j) ∧ J (pre ++ [((X, .agg #[.int .i8 kk, .int .i64 nn, .string s, .string t, .slice A L.length cap]), d)] ++ q) wr) ∧ Gen7 l Y (m - (Tm.pres (L.take j)).length) wr ∧ Mod (fun k => (n₀ ≤ k ∧ k < Y) ∨ k = Y + 1) W wr)
          (fun i _ => L.length - (intOf i).toNat)
        case atStart => exact ⟨0, Nat.zero_le _, rfl, by simp [Tm.pres]; omega, ⟨[], by simp [Tm.presD], by simpa using HJ3.out⟩, by simpa [Tm.pres] using HG3.out, HM3.out⟩
        case round =>
          obtain ⟨j, hj, rfl, hlt, ⟨q, hq, hJr⟩, hG, hMr⟩ := hrel
          have hYr : Y + 2 < wr.heap.size := by have := hMr.size; omega
          have HQ := Lib.hid hq
          have HJr := Lib.hid hJr
          have HGr := Lib.hid hG
          have HMr := Lib.hid hMr
          clear hq hJr hG hMr
          by_cases hjl : j < L.length
          · obtain ⟨y, hy⟩ : ∃ y, L[j]? = some y := ⟨L[j], List.getElem?_eq_getElem hjl⟩
            obtain ⟨ad, u, rfl, had, hE, hTy⟩ := HR.out.at_ j y hy
            have hbw : Below n₀ w0 wr := HB.out.trans (HMr.out.below (B := n₀) (by omega) (fun k h => by omega))
            have hEr : ElemAt wr ad j u := hE.keep (hbw.block ad.block had)
            obtain ⟨k', n', s', t', L', A', cap', hy', rfl⟩ : ∃ k' n' s' t' L' A' cap', y = Tm.mk k' n' s' t' L' ∧ u = .agg #[.int .i8 k', .int .i64 n', .string s', .string t', .slice A' L'.length cap'] := by
              cases hTy; exact ⟨_, _, _, _, _, _, _, rfl, rfl⟩
            obtain ⟨c0, c1, c2, c3, c4, hc, e0, e1, e2, e3, e4⟩ := hEr
            simp only [Value.agg.injEq, Array.mk.injEq, List.cons.injEq, and_true] at hc
            obtain ⟨rfl, rfl, rfl, rfl, rfl⟩ := hc
            clear hy'
            have hmem := List.mem_of_getElem? hy
            have hpy := Tm.pre_ne y
            have HYY := Lib.hid hy
            have HTY := Lib.hid hTy
            have HBW := Lib.hid hbw
            clear hE hTy hy hbw
            obtain ⟨W4, hW4⟩ : ∃ W4, W4 = wr.alloc (.cells #[.int .i8 k', .int .i64 n', .string s', .string t', .slice A' L'.length cap'] 25) := ⟨_, rfl⟩
            have m4 : Mod (fun _ => False) wr W4 := by rw [hW4]; exact Mod.alloc _ _ _
            have G4 := HGr.out.mod m4 ⟨fun h => h, fun h => h, fun h => h⟩
            have cw : W4.cell? ⟨Y + 2, 0, none⟩ = some (.func (.func 169) #[] #[.pointer (some ⟨Y + 1, 0, none⟩), .pointer (some ⟨Y, 0, none⟩), .pointer (some ⟨Y + 2, 0, none⟩)]) := cell_of_row G4.walk rfl
            have hb5 : W4.heap[wr.heap.size]? = some (.cells #[.int .i8 k', .int .i64 n', .string s', .string t', .slice A' L'.length cap'] 25) := by rw [hW4]; exact World.alloc_heap_new _ _
            have d0 : W4.cell? ⟨wr.heap.size, 0, none⟩ = some (.int .i8 k') := cell_of_row hb5 rfl
            have d1 : W4.cell? ⟨wr.heap.size, 1, none⟩ = some (.int .i64 n') := cell_of_row hb5 rfl
            have d2 : W4.cell? ⟨wr.heap.size, 2, none⟩ = some (.string s') := cell_of_row hb5 rfl
            have d3 : W4.cell? ⟨wr.heap.size, 3, none⟩ = some (.string t') := cell_of_row hb5 rfl
            have d4 : W4.cell? ⟨wr.heap.size, 4, none⟩ = some (.slice A' L'.length cap') := cell_of_row hb5 rfl
            have hlq : q.length = (Tm.pres (L.take j)).length := by rw [← Tm.presD_len (d + 1), ← HQ.out, List.length_map]
            have HC := Lib.hid (HIH.out y hmem (n - 1) (d + 1) _ (pre ++ [((X, .agg #[.int .i8 kk, .int .i64 nn, .string s, .string t, .slice (some ad) L.length cap]), d)] ++ q) (m - (Tm.pres (L.take j)).length) W4 (by omega) HTY.out
              (HBW.out.trans (m4.below (B := n₀) (by omega) (fun k h => h.elim))) hn0 G4 (by omega) (by omega) (HJ.out _ _ _ HJr.out (m4.mono (fun _ _ h => h.elim))) (by simp; omega))
            have HM4 := Lib.hid m4
            clear hb5 m4 G4
            subst hW4
            gi_wp2_with fail
            refine ⟨trivial, fun h => (by cases h), ?_⟩
            refine HC.out.mono ?_
            clear cw d0 d1 d2 d3 d4 e0 e1 e2 e3 e4
            rintro e W5 (⟨rfl, hn5, ⟨q5, hq5, hJ5⟩, hG5, hM5⟩ | ⟨rfl, hw⟩)
            · have HQ5 := Lib.hid hq5
              have HJ5 := Lib.hid hJ5
              have HG5 := Lib.hid hG5
              have HM5 := Lib.hid hM5
              have HN5 := Lib.hid hn5
              clear hq5 hJ5 hG5 hM5 hn5
              gi_wp2
              go_roundw
              case rel =>
                have e5 := Tm.presD_take_succ (d := d + 1) HYY.out
                have e6 : (Tm.pres (L.take (j + 1))).length = (Tm.pres (L.take j)).length + y.nodes := by rw [Tm.pres_take_succ HYY.out, List.length_append]; rfl
                have := HN5.out
                refine ⟨j + 1, by omega, by go_num, by omega, ⟨q ++ q5, by rw [List.map_append, HQ.out, HQ5.out, e5], by rw [← List.append_assoc]; exact HJ5.out⟩, ?_, ?_⟩
                · rw [e6, ← Nat.sub_sub]; exact HG5.out
                · exact (HMr.out.trans (HM4.out.mono (G := fun k => (n₀ ≤ k ∧ k < Y) ∨ k = Y + 1) (fun _ _ h => h.elim)) (fun _ _ h => h)).trans HM5.out (fun _ _ h => h)
              case measure => simp [intOf]; omega
            · have HW := Lib.hid hw
              clear hw
              gi_wp2
              go_ret
              rcases HW.out with ⟨h1, q5, hq5, hJ5⟩ | ⟨q5, k, hq5, hl5, hx5⟩
              · refine .inr ⟨rfl, .inl ⟨?_, [((X, _), d)] ++ q ++ q5, ?_, by simpa using hJ5⟩⟩
                · rw [HX.out, Tm.nodes_mk]
                  have := Tm.pres_len_split HYY.out
                  omega
                · have h2 := Tm.preD_take (k := kk) (n := nn) (s := s) (t := t) (d := d) HYY.out (m - (Tm.pres (L.take j)).length) h1
                  rw [show (Tm.pres (L.take j)).length + (m - (Tm.pres (L.take j)).length) + 1 = m + 1 by omega] at h2
                  rw [HX.out, h2, List.map_append, List.map_append, HQ.out, hq5]
                  rfl
              · refine .inr ⟨rfl, .inr ⟨[((X, _), d)] ++ q ++ q5, (Tm.pres (L.take j)).length + min k y.nodes + 1, ?_, by simp at hl5 ⊢; omega, by simpa using hx5⟩⟩
                rw [HX.out, Tm.preD_take HYY.out _ (Nat.min_le_right _ _), List.map_append, List.map_append, HQ.out, hq5]
                rw [show (Tm.preD (d + 1) y).take k = (Tm.preD (d + 1) y).take (min k y.nodes) by rw [← Tm.preD_len (d + 1) y]; exact List.take_eq_take_min]
                rfl
          · obtain rfl : j = L.length := by omega
            gi_wp2
            go_ret
            have hq := HQ.out
            have hG := HGr.out
            rw [List.take_length] at hq hG hlt
            refine .inl ⟨rfl, ?_, ⟨[((X, _), d)] ++ q, ?_, by simpa using HJr.out⟩, ?_, HMr.out⟩
            · rw [HX.out, Tm.nodes_mk]; omega
            · rw [List.map_append, hq, HX.out]; rfl
            · rw [HX.out, Tm.nodes_mk]
              rw [show m + 1 - ((Tm.pres L).length + 1) = m - (Tm.pres L).length by omega]
              exact hG
    · gi_wp2
      go_ret
      refine .inr ⟨rfl, .inr ⟨[((X, _), d)], 1, ?_, by simp; omega, hx3⟩⟩
      rw [HX.out]; rfl

set_option maxHeartbeats 1000000 in
theorem nodes7_in (v : Array Value) (n : Nat) (w : World) :
    CallsIn Fence.wide n Tryz.prog 140 #[.agg v] w fun e w' => e = .returned (.func (.func 168) #[] #[.pointer (some ⟨w.heap.size, 0, none⟩)]) ∧ w' = w.alloc (.cells v 25) := by
  refine callsIn_of_wp Tryz.func140 rfl trivial ?_ rfl
  simp only [Tryz.ntmps140, List.size_toArray, List.length_cons, List.length_nil, Nat.reduceAdd, Nat.reduceSub, Array.replicate_succ, Array.replicate_zero, List.push_toArray, List.append_toArray, List.nil_append, List.cons_append]
  gi_wp2
  go_ret
  exact ⟨rfl, rfl⟩

set_option maxHeartbeats 2000000 in
set_option maxRecDepth 100000 in
theorem nodes71_in (n l n₀ Bt : Nat) (x : Tm) (v : Value) (w0 W : World) (J Jx : List ND → World → Prop) (hT : TmAt (· < n₀) w0 x v) (hB : Below n₀ w0 W) (hn0 : n₀ ≤ w0.heap.size)
    (hbt : ∃ cs, v = .agg cs ∧ W.heap[Bt]? = some (.cells cs 25))
    (hJ : ∀ s A B, J s A → Mod (fun k => W.heap.size ≤ k) A B → J s B)
    (hY : ∀ pre x W1, J pre W1 → TmAt (· < n₀) w0 x.1.1 x.1.2 → pre.length < 4097 → YieldAt Fence.wide (n - 1) Tryz.prog l #[.int .i64 x.2, x.1.2] W1 fun e W' =>
      (e = .returned (.bool true) ∧ J (pre ++ [x]) W' ∧ Mod (fun k => n₀ ≤ k ∧ k < W.heap.size) W1 W') ∨ (e = .returned (.bool false) ∧ Jx (pre ++ [x]) W')) (h0 : J [] W) :
    CallsIn Fence.wide n Tryz.prog 168 #[.func (.yield l) #[] #[], .pointer (some ⟨Bt, 0, none⟩)] W fun e W' => (∃ v, e = .returned v) ∧
      ((∃ xs : List ND, xs.map ndK = (Tm.preD 1 x).take 4097 ∧ J xs W') ∨ (∃ pre : List ND, (∃ k, pre.map ndK = (Tm.preD 1 x).take k ∧ pre.length ≤ 4097) ∧ Jx pre W')) := by
  obtain ⟨cs, rfl, hbt⟩ := hbt
  obtain ⟨kk, nn, s, t, L, A, cap, hx, hcs⟩ : ∃ k' n' s' t' L' A' cap', x = Tm.mk k' n' s' t' L' ∧ Value.agg cs = .agg #[.int .i8 k', .int .i64 n', .string s', .string t', .slice A' L'.length cap'] := by
    cases hT; exact ⟨_, _, _, _, _, _, _, rfl, rfl⟩
  simp only [Value.agg.injEq] at hcs
  subst hcs
  have hs0 : n₀ ≤ W.heap.size := Nat.le_trans hn0 hB.size
  have hlt := heap_lt hbt
  obtain ⟨V, hV⟩ : ∃ V, V = ((W.alloc (.cells #[.func (.yield l) #[] #[]] 209)).alloc (.cells #[.int .i64 4097] 3)).alloc (.cells #[.func (.func 169) #[] #[.pointer (some ⟨W.heap.size + 1, 0, none⟩), .pointer (some ⟨W.heap.size, 0, none⟩), .pointer (some ⟨W.heap.size + 2, 0, none⟩)]] 209) := ⟨_, rfl⟩
  have mV : Mod (fun _ => False) W V := by rw [hV]; exact ((Mod.alloc _ _ _).trans (Mod.alloc _ _ _) (fun _ _ h => h)).trans (Mod.alloc _ _ _) (fun _ _ h => h)
  have gV : Gen7 l W.heap.size 4097 V := by
    rw [hV]
    refine ⟨?_, ?_, ?_⟩
    · exact ((Below.heap_alloc _ _ _ (by simp; omega)).trans (Below.heap_alloc _ _ _ (by simp))).trans (World.alloc_heap_new _ _)
    · refine (Below.heap_alloc _ _ _ (by simp)).trans ?_
      have := World.alloc_heap_new (W.alloc (.cells #[.func (.yield l) #[] #[]] 209)) (.cells #[.int .i64 4097] 3)
      rw [World.size_alloc] at this
      exact this
    · have := World.alloc_heap_new ((W.alloc (.cells #[.func (.yield l) #[] #[]] 209)).alloc (.cells #[.int .i64 4097] 3)) (.cells #[.func (.func 169) #[] #[.pointer (some ⟨W.heap.size + 1, 0, none⟩), .pointer (some ⟨W.heap.size, 0, none⟩), .pointer (some ⟨W.heap.size + 2, 0, none⟩)]] 209)
      simp only [World.size_alloc] at this
      exact this
  have cw : V.cell? ⟨W.heap.size + 2, 0, none⟩ = some (.func (.func 169) #[] #[.pointer (some ⟨W.heap.size + 1, 0, none⟩), .pointer (some ⟨W.heap.size, 0, none⟩), .pointer (some ⟨W.heap.size + 2, 0, none⟩)]) := cell_of_row gV.walk rfl
  have hbv : V.heap[Bt]? = _ := (mV.block _ hlt (fun h => h)).trans hbt
  have d0 : V.cell? ⟨Bt, 0, none⟩ = some (.int .i8 kk) := cell_of_row hbv rfl
  have d1 : V.cell? ⟨Bt, 1, none⟩ = some (.int .i64 nn) := cell_of_row hbv rfl
  have d2 : V.cell? ⟨Bt, 2, none⟩ = some (.string s) := cell_of_row hbv rfl
  have d3 : V.cell? ⟨Bt, 3, none⟩ = some (.string t) := cell_of_row hbv rfl
  have d4 : V.cell? ⟨Bt, 4, none⟩ = some (.slice A L.length cap) := cell_of_row hbv rfl
  have HC := Lib.hid (nodes7_walked l n₀ W.heap.size 4097 w0 J Jx hs0 hJ (fun m pre x W1 hj hx hl => YieldAt.deep7 m (hY pre x W1 hj hx hl)) x (n - 1) 1 _ [] 4097 V (by decide) hT
    (hB.trans (mV.below (B := n₀) hs0 (fun k h => h.elim))) hn0 gV (by decide) (by decide) (hJ _ _ _ h0 (mV.mono (fun _ _ h => h.elim))) (by decide))
  have HX := Lib.hid hx
  clear hbv hbt gV mV hx hT hB hJ hY h0
  subst hV
  refine callsIn_of_wp Tryz.func168 rfl trivial ?_ rfl
  simp only [Tryz.ntmps168, List.size_toArray, List.length_cons, List.length_nil, Nat.reduceAdd, Nat.reduceSub, Array.replicate_succ, Array.replicate_zero, List.push_toArray, List.append_toArray, List.nil_append, List.cons_append]
  gi_wp2_with fail
  refine ⟨trivial, fun h => (by cases h), ?_⟩
  refine HC.out.mono ?_
  clear cw d0 d1 d2 d3 d4
  rintro e W5 (⟨rfl, hn5, ⟨q5, hq5, hJ5⟩, _, _⟩ | ⟨rfl, hw⟩)
  · have HQ5 := Lib.hid hq5
    have HJ5 := Lib.hid hJ5
    have HN5 := Lib.hid hn5
    clear hq5 hJ5 hn5
    gi_wp2
    go_end0
    refine ⟨⟨_, rfl⟩, .inl ⟨q5, ?_, by simpa using HJ5.out⟩⟩
    have h := HN5.out
    rw [HQ5.out, List.take_of_length_le (by rw [Tm.preD_len]; omega)]
  · have HW := Lib.hid hw
    clear hw
    gi_wp2
    go_end0
    refine ⟨⟨_, rfl⟩, ?_⟩
    rcases HW.out with ⟨h1, q5, hq5, hJ5⟩ | ⟨q5, k, hq5, hl5, hx5⟩
    · exact .inl ⟨q5, hq5, by simpa using hJ5⟩
    · exact .inr ⟨q5, ⟨k, hq5, by simpa using hl5⟩, by simpa using hx5⟩

theorem nodes7_seq (n n₀ Bt : Nat) (x : Tm) (v : Value) (w : World) (hT : TmAt (· < n₀) w x v) (hn0 : n₀ ≤ w.heap.size) (hbt : ∃ cs, v = .agg cs ∧ w.heap[Bt]? = some (.cells cs 25)) :
    SeqC n Tryz.prog 168 #[.pointer (some ⟨Bt, 0, none⟩)] (fun y : ND => #[.int .i64 y.2, y.1.2]) n₀ (fun y => TmAt (· < n₀) w y.1.1 y.1.2) (fun xs => xs.map ndK = (Tm.preD 1 x).take 4097) (fun pre => ∃ k, pre.map ndK = (Tm.preD 1 x).take k ∧ pre.length ≤ 4097) 4097 w :=
  fun l J Jx W hW hJ hJx hY h0 => by
    obtain ⟨cs, e, hb⟩ := hbt
    exact nodes71_in n l n₀ Bt x v w W J Jx hT (hW.mono hn0) hn0 ⟨cs, e, (hW.block _ (heap_lt hb)).trans hb⟩ hJ hY h0
end Go.Proofs.YtdimcddbmccniaaGreatDoor
end
