/- Layer 13: which codes may be, as plain facts. -/
import Derived.Test.YtndihgdhpfjgmaaGreatDoorKSuch
import Derived.Test.YtndihgdhpfjgmaaGreatDoorKNodes
import Derived.Test.YtndihgdhpfjgmaaGreatDoorKCd1
import Derived.Test.YtndihgdhpfjgmaaGreatDoorKRulP
import Derived.Test.YtndihgdhpfjgmaaGreatDoorKAstT
import Derived.Lib.ItoaNum
section
set_option linter.unusedVariables false
namespace Go.Proofs.YtndihgdhpfjgmaaGreatDoor
open Go.RowKit Go.Shelf
attribute [local go_sem] Oper.semAt_some

def checkN (x : Tm) : Int := if (x.pre.take 257).all okB then (if 256 < x.nodes then 11 else 0) else 30

theorem all_map_ok {xs : List (Tm × Value)} (h : ∀ p ∈ xs, okB p.1 = true) {l : List Tm} (e : xs.map (·.1) = l) : l.all okB = true := by
  subst e; rw [List.all_eq_true]; intro y hy; obtain ⟨p, hp, rfl⟩ := List.mem_map.1 hy; exact h p hp

set_option maxRecDepth 100000 in
set_option maxHeartbeats 4000000 in
theorem Check_any (x : Tm) (v : Value) (w : World) (hT : TmAt (· < w.heap.size) w x v) (hS : Spans w) :
    Calls Tryz.prog 85 #[v] w fun e w' => e = .returned (.int .i64 (checkN x)) ∧ Below w.heap.size w w' := by
  obtain ⟨kk, nn, s, t, L, A, cap, hx, rfl⟩ : ∃ k' n' s' t' L' A' cap', x = Tm.mk k' n' s' t' L' ∧ v = .agg #[.int .i8 k', .int .i64 n', .string s', .string t', .slice A' L'.length cap'] := by
    cases hT; exact ⟨_, _, _, _, _, _, _, rfl, rfl⟩
  have HX := Lib.hid hx
  clear hx
  obtain ⟨S, hSz⟩ : ∃ S, S = w.heap.size := ⟨_, rfl⟩
  obtain ⟨w3, hw3⟩ : ∃ w3, w3 = ((w.alloc (.cells #[.int .i8 kk, .int .i64 nn, .string s, .string t, .slice A L.length cap] 43)).alloc (.cells #[.int .i64 0] 28)).alloc (.cells #[.int .i64 0] 3) := ⟨_, rfl⟩
  have hs3 : w3.heap.size = w.heap.size + 3 := by rw [hw3]; simp
  have b3 : Below w.heap.size w w3 := by rw [hw3]; exact (((Below.refl _ w).alloc (Nat.le_refl _) _).alloc (by simp) _).alloc (by simp; omega) _
  have r3 : w3.heap[w.heap.size + 1]? = some (.cells #[.int .i64 0] 28) := by
    rw [hw3]
    have := World.alloc_heap_new (w.alloc (.cells #[.int .i8 kk, .int .i64 nn, .string s, .string t, .slice A L.length cap] 43)) (.cells #[.int .i64 0] 28)
    rw [World.size_alloc] at this
    exact (Below.heap_alloc _ _ _ (by simp)).trans this
  have n3 : w3.heap[w.heap.size + 1 + 1]? = some (.cells #[.int .i64 0] 3) := by
    rw [hw3]
    have := World.alloc_heap_new ((w.alloc (.cells #[.int .i8 kk, .int .i64 nn, .string s, .string t, .slice A L.length cap] 43)).alloc (.cells #[.int .i64 0] 28)) (.cells #[.int .i64 0] 3)
    simp only [World.size_alloc] at this
    exact this
  obtain ⟨wL, hwL⟩ : ∃ wL, wL = w3.alloc (.cells #[.int .i8 kk, .int .i64 nn, .string s, .string t, .slice A L.length cap] 43) := ⟨_, rfl⟩
  have hsL : wL.heap.size = w.heap.size + 4 := by rw [hwL]; simp [hs3]
  have bL : Below w.heap.size w wL := by rw [hwL]; exact b3.alloc (by omega) _
  have HRL : Hid (wL.heap[w.heap.size + 1]? = some (.cells #[.int .i64 0] 28)) := by rw [hwL]; exact (Below.heap_alloc _ _ _ (by omega)).trans r3
  have HNL : Hid (wL.heap[w.heap.size + 1 + 1]? = some (.cells #[.int .i64 0] 3)) := by rw [hwL]; exact (Below.heap_alloc _ _ _ (by omega)).trans n3
  have hbt : wL.heap[w.heap.size + 1 + 1 + 1]? = some (.cells #[.int .i8 kk, .int .i64 nn, .string s, .string t, .slice A L.length cap] 43) := by
    rw [hwL]; have := World.alloc_heap_new w3 (.cells #[.int .i8 kk, .int .i64 nn, .string s, .string t, .slice A L.length cap] 43); rwa [hs3] at this
  have hTL : TmAt (· < w.heap.size) wL x _ := hT.under bL (Nat.le_refl _)
  have HSeq := Lib.hid (nodes_seq (3 - 1) w.heap.size (w.heap.size + 1 + 1 + 1) x _ wL hTL (by omega) ⟨_, rfl, hbt⟩)
  have HBL := Lib.hid bL
  have HSL := Lib.hid hsL
  have HS3 := Lib.hid hs3
  clear hTL hbt hsL bL b3 r3 n3 hs3 hT
  refine (callsIn_wide (n := 3)).1 ?_
  refine callsIn_of_wp_marks Tryz.func85 rfl trivial ?_ rfl
  simp only [Tryz.ntmps85, List.size_toArray, List.length_cons, List.length_nil, Nat.reduceAdd, Nat.reduceSub, Array.replicate_succ, Array.replicate_zero, List.push_toArray, List.append_toArray, List.nil_append, List.cons_append]
  gi_wp2_with (refine ⟨trivial, ?_⟩; gi_at_call 104; refine (nodes_in _ _ _).mono ?_; rintro e w' ⟨rfl, rfl⟩)
  rw [← hw3, ← hwL]
  have hSL : Spans wL := hS.below HBL.out hS.lt
  refine range_cells (α := Tm × Value) (gf := 123) (lb := #[.pointer (some ⟨w.heap.size + 1 + 1 + 1, 0, none⟩)]) rfl (enters_of Tryz.func123 (by kernel_rfl) rfl) (fun _ => rfl) HSeq.out (by rw [HSL.out]; omega)
    (fun pre W => ((∀ p ∈ pre, okB p.1 = true) ∧ W.heap[w.heap.size + 1]? = some (.cells #[.int .i64 0] 28 (0, 0)) ∧ W.heap[w.heap.size + 1 + 1]? = some (.cells #[.int .i64 pre.length] 3 (0, 0))) ∧ Below w.heap.size w W)
    (fun c pre W => (c = .ret ∧ (∃ (ini : List (Tm × Value)) (last : Tm × Value), pre = ini ++ [last] ∧ okB last.1 = false) ∧ W.heap[w.heap.size + 1]? = some (.cells #[.int .i64 30] 28 (0, 0))) ∧ Below w.heap.size w W)
    (fun s X Y hb h => ⟨⟨h.1.1, (hb.block _ (by rw [HSL.out]; omega)).trans h.1.2.1, (hb.block _ (by rw [HSL.out]; omega)).trans h.1.2.2⟩, h.2.trans (hb.mono (by rw [HSL.out]; omega))⟩)
    (fun c s X Y hb h => ⟨⟨h.1.1, h.1.2.1, (hb.block _ (by rw [HSL.out]; omega)).trans h.1.2.2⟩, h.2.trans (hb.mono (by rw [HSL.out]; omega))⟩)
    ⟨⟨fun p hp => (by simp at hp), HRL.out, HNL.out⟩, HBL.out⟩
    (fun x a' W => ∃ b c, wL.heap.size + 2 ≤ b ∧ x.2 = .agg c ∧ W.heap[b]? = some (.cells c 43 (0, 0)) ∧ a' = { tmps := #[.agg #[.int .i8 kk, .int .i64 nn, .string s, .string t, .slice A L.length cap], .pointer (some ⟨w.heap.size, 0, none⟩), .pointer (some ⟨w.heap.size + 1, 0, none⟩), .pointer (some ⟨w.heap.size + 1 + 1, 0, none⟩), .pointer (some ⟨b, 0, none⟩),
      .agg #[.int .i8 kk, .int .i64 nn, .string s, .string t, .slice A L.length cap], .func (.func 123) #[] #[.pointer (some ⟨w.heap.size + 1 + 1 + 1, 0, none⟩)], x.2, undef, undef, undef, undef, undef, undef, undef], defers := [] })
    (fun x a' X Y hm h => by obtain ⟨b, c, h1, h2, h3, h4⟩ := h; exact ⟨b, c, h1, h2, (hm.block _ (heap_lt h3) (by omega)).trans h3, h4⟩) ?assign ?body ?done ?stop (by decide)
  case assign =>
    rintro l pre ⟨y, u⟩ W K hi hE hsz hK
    dsimp only at hE
    obtain ⟨k', n', s', t', L', A', cap', hy', rfl⟩ : ∃ k' n' s' t' L' A' cap', y = Tm.mk k' n' s' t' L' ∧ u = .agg #[.int .i8 k', .int .i64 n', .string s', .string t', .slice A' L'.length cap'] := by
      cases hE; exact ⟨_, _, _, _, _, _, _, rfl, rfl⟩
    have HK := Lib.hid (hK _ _ ((Below.refl _ W).alloc (Nat.le_refl _) _) ⟨W.heap.size, _, hsz, rfl, World.alloc_heap_new W _, rfl⟩)
    clear hK hi hy' hE
    gi_wp2
    exact HK.out
  case body =>
    rintro l pre ⟨y, u⟩ a' W ⟨⟨hok, hr, hn⟩, hB⟩ hE ⟨b, c, hb, hu, hbx, rfl⟩ hlen hsz
    dsimp only at hE hu
    have HTy := Lib.hid hE
    obtain ⟨k', n', s', t', L', A', cap', hy', rfl⟩ : ∃ k' n' s' t' L' A' cap', y = Tm.mk k' n' s' t' L' ∧ u = .agg #[.int .i8 k', .int .i64 n', .string s', .string t', .slice A' L'.length cap'] := by
      cases hE; exact ⟨_, _, _, _, _, _, _, rfl, rfl⟩
    simp only [Value.agg.injEq] at hu
    subst hu
    clear hy' hE
    have d0 : W.cell? ⟨b, 0, none⟩ = some (.int .i8 k') := cell_of_row hbx rfl
    have d1 : W.cell? ⟨b, 1, none⟩ = some (.int .i64 n') := cell_of_row hbx rfl
    have d2 : W.cell? ⟨b, 2, none⟩ = some (.string s') := cell_of_row hbx rfl
    have d3 : W.cell? ⟨b, 3, none⟩ = some (.string t') := cell_of_row hbx rfl
    have d4 : W.cell? ⟨b, 4, none⟩ = some (.slice A' L'.length cap') := cell_of_row hbx rfl
    have hSW : Spans W := hS.below hB hS.lt
    have HC := Lib.hid (such_any (P := (· < w.heap.size)) (HTy.out.keep (w' := W) (fun q hq => (hB.block q hq).trans (HBL.out.block q hq).symm) (fun _ h => h)) hSW)
    have HB := Lib.hid hB
    have HR := Lib.hid hr
    have HN := Lib.hid hn
    have HOK := Lib.hid hok
    clear hB hr hn hok hbx
    gi_wp2_with fail
    refine ⟨trivial, (CallsIn.inRound l (callsIn_wide.2 HC.out)).mono ?_⟩
    clear d0 d1 d2 d3 d4
    rintro e W1 ⟨rfl, b1⟩
    have B1 := HB.out.trans (b1.mono HB.out.size)
    have hr1 : W1.heap[w.heap.size + 1]? = _ := (b1.block _ (heap_lt HR.out)).trans HR.out
    have hn1 : W1.heap[w.heap.size + 1 + 1]? = _ := (b1.block _ (heap_lt HN.out)).trans HN.out
    have HM1 := Lib.hid (Mod.of_below (F := fun k => w.heap.size ≤ k ∧ k < wL.heap.size) b1)
    have HBB := Lib.hid B1
    have HSL' := HSL.out
    have f1 : W1.frozen? ⟨w.heap.size + 1, 0, none⟩ = false := free_of_row hr1
    have f2 : W1.frozen? ⟨w.heap.size + 1 + 1, 0, none⟩ = false := free_of_row hn1
    have c1 : W1.cell? ⟨w.heap.size + 1, 0, none⟩ = some (.int .i64 0) := cell_of_row hr1 rfl
    have c2 : W1.cell? ⟨w.heap.size + 1 + 1, 0, none⟩ = some (.int .i64 pre.length) := cell_of_row hn1 rfl
    have HR1 := Lib.hid hr1
    have HN1 := Lib.hid hn1
    have hlen' : pre.length < 257 := hlen
    have HSS := Lib.hid HSL'
    clear b1 B1 hr1 hn1 HSL' hlen hsz hb
    cases hk : okB y
    · gi_wp2
      refine ⟨HM1.out.trans (Mod.setCell _ _ _ (.inl (by have := HSS.out; dsimp only; omega))) (fun _ _ h => h), ⟨rfl, ⟨pre, _, rfl, hk⟩, set_row _ HR1.out⟩, HBB.out.setCell (by dsimp only; omega) _⟩
    · gi_wp2
      refine ⟨HM1.out.trans (Mod.setCell _ _ _ (.inl (by have := HSS.out; dsimp only; omega))) (fun _ _ h => h), ⟨fun p hp => ?_, ?_, ?_⟩, HBB.out.setCell (by dsimp only; omega) _⟩
      · rcases List.mem_append.1 hp with hp | hp
        · exact HOK.out p hp
        · simp at hp; subst hp; exact hk
      · exact (Below.heap_setCell _ _ _ _ (by simp)).trans HR1.out
      · have e : ((pre ++ [(y, Value.agg #[.int .i8 k', .int .i64 n', .string s', .string t', .slice A' L'.length cap'])]).length : Int) = (pre.length : Int) + 1 := by simp
        rw [e]
        exact set_row _ HN1.out
  case done =>
    rintro xs W hxs ⟨⟨hok, hr, hn⟩, hB⟩ hK
    have hlen : xs.length = min 257 x.nodes := by rw [← List.length_map (f := (·.1)), hxs, List.length_take]; rfl
    have hall := all_map_ok hok hxs
    have c1 : W.cell? ⟨w.heap.size + 1, 0, none⟩ = some (.int .i64 0) := cell_of_row hr rfl
    have f1 : W.frozen? ⟨w.heap.size + 1, 0, none⟩ = false := free_of_row hr
    have c2 : W.cell? ⟨w.heap.size + 1 + 1, 0, none⟩ = some (.int .i64 xs.length) := cell_of_row hn rfl
    have HR := Lib.hid hr
    have HB := Lib.hid hB
    have HK := Lib.hid hK
    have HLE := Lib.hid hlen
    have HAL := Lib.hid hall
    clear hr hn hB hK hok hxs hlen hall
    have fin : ∀ z : Int, z = checkN x → ∀ V, V = (W.setCell ⟨w.heap.size + 1, 0, none⟩ (.int .i64 z)).putObj wL.heap.size (.deferred none) → V.cell? ⟨w.heap.size + 1, 0, none⟩ = some (.int .i64 (checkN x)) ∧ Below w.heap.size w V := by
      rintro z rfl V rfl
      have h1 := set_row (.int .i64 (checkN x)) (i := 0) HR.out
      have hD : wL.heap.size < W.heap.size := heap_lt HK.out
      refine ⟨?_, ?_⟩
      · exact cell_of_row ((World.putObj_heap_other (by rw [HSL.out]; omega)).trans h1) rfl
      · exact (HB.out.setCell (by dsimp only; omega) _).trans ((Mod.putObj (F := fun k => k = wL.heap.size) _ _ _ rfl).below (by simp [World.setCell]; have := HSL.out; omega) (fun k (e : k = wL.heap.size) => by have := HSL.out; omega))
    have HF := Lib.hid fin
    clear fin
    by_cases hgt : 256 < xs.length
    · gi_wp2
      refine ⟨by simp, .inl ⟨_, _, rfl, run_takeDeferred ((KeepsOthers.setCell W _ _).same _ _ HK.out rfl), ?_⟩⟩
      obtain ⟨h5, h6⟩ := HF.out 11 (by unfold checkN; rw [if_pos HAL.out, if_pos (by have := HLE.out; omega)]) _ rfl
      exact ⟨_, by simp [results, Tryz.f85, go_sem, h5], rfl, h6⟩
    · gi_wp2
      refine ⟨by simp, .inl ⟨_, _, rfl, run_takeDeferred ((KeepsOthers.setCell W _ _).same _ _ HK.out rfl), ?_⟩⟩
      obtain ⟨h5, h6⟩ := HF.out 0 (by unfold checkN; rw [if_pos HAL.out, if_neg (by have := HLE.out; omega)]) _ rfl
      exact ⟨_, by simp [results, Tryz.f85, go_sem, h5], rfl, h6⟩
  case stop =>
    rintro c pre W ⟨k, hk, hkl⟩ ⟨⟨rfl, ⟨ini, last, e1, e2⟩, hr⟩, hB⟩ hK
    have hbad : checkN x = 30 := by
      unfold checkN
      rw [if_neg]
      intro hall
      have hmem : last.1 ∈ x.pre.take k := by rw [← hk, e1]; simp
      have hk257 : last.1 ∈ x.pre.take 257 := by
        have hkl' : (x.pre.take k).length ≤ 257 := by rw [← hk, List.length_map]; exact hkl
        rw [List.length_take] at hkl'
        by_cases h : k ≤ 257
        · exact List.take_subset_take_left _ h hmem
        · rw [List.take_of_length_le (by omega)]; exact List.mem_of_mem_take hmem
      have := List.all_eq_true.1 hall _ hk257
      rw [e2] at this; cases this
    gi_wp2
    refine ⟨by simp, .inl ⟨_, _, rfl, run_takeDeferred hK, ?_⟩⟩
    have h5 : (W.putObj wL.heap.size (.deferred none)).cell? ⟨w.heap.size + 1, 0, none⟩ = some (.int .i64 30) := cell_of_row ((World.putObj_heap_other (by rw [HSL.out]; omega)).trans hr) rfl
    refine ⟨.int .i64 30, by simp [results, Tryz.f85, go_sem, h5], ret_int hbad.symm, ?_⟩
    exact hB.trans ((Mod.putObj (F := fun k => k = wL.heap.size) _ _ _ rfl).below (by have := heap_lt hK; have := HSL.out; omega) (fun k (e : k = wL.heap.size) => by have := HSL.out; omega))
end Go.Proofs.YtndihgdhpfjgmaaGreatDoor
end
section
set_option linter.unusedVariables false
namespace Go.Proofs.YtndihgdhpfjgmaaGreatDoor
open Go.RowKit
open Go.Lib (decDigits itoa)

def nameV (n : Int) : ByteArray := if n < 0 ∨ 32 ≤ n then ⟨#[]⟩ else ⟨(86 :: itoa n).toArray⟩
def trimV : List UInt8 → List UInt8
  | c :: l => if c = 86 then l else c :: l
  | [] => []
def slotN (s : ByteArray) : Int := (readR (trimV s.data.toList)).1
def slotB (s : ByteArray) : Bool := decide (nameV (slotN s) = s)
def inSlotsB (x : Tm) : Bool := (varsL x).all slotB

def blank5 (k n : Int) (s t : ByteArray) (len : Nat) : Bool := (k == 0) && ((n == 0) && (s.toList.isEmpty && (t.toList.isEmpty && ((len : Int) == 0))))
def noT (x : Tm) : Bool := blank5 x.k x.n x.s x.t x.l.length
def isT (x : Tm) : Bool := checkN x == 0
def bare5 (k n : Int) (t : ByteArray) (len : Nat) : Bool := (k == 1) && ((n == 0) && (t.toList.isEmpty && ((len : Int) == 0)))
def bareB (x : Tm) : Bool := bare5 x.k x.n x.t x.l.length
def withinB (n a b : Int) : Bool := decide (a ≤ n) && decide (n ≤ b)
def callsB (F : List Fn13) (c : Cd) : Bool := withinB c.b 0 ((F.length : Int) - 1) && (match F[c.b.toNat]? with | some f => f.n == c.a | none => false)
def takesB (x : Tm) : Bool := clauseR x 1 && (x.l.length == 3 && ((match x.l[2]? with | some y => y.k == 8 | none => false) && inSlotsB x))
def recvC (T : List (List Int)) (c : Cd) : Bool :=
  withinB c.a 0 1 && (c.t.k == 0 && (isT c.t && (withinB c.t.n 0 32 && (withinB c.b 0 ((T.length : Int) - 1) && ((match T[c.b.toNat]? with | some l => l.length == c.l.length + 1 | none => false) && c.l.all takesB)))))
def ruleB (F : List Fn13) (T : List (List Int)) (c : Cd) : Bool :=
  if c.op = 0 then isT c.t
  else if c.op = 1 ∨ c.op = 2 then withinB c.a 0 31
  else if c.op = 4 then withinB c.a 0 256
  else if c.op = 6 then bareB c.t && ((cmpR c.t.s 0).2 || arithB c.t.s)
  else if c.op = 7 then bareB c.t && builtB c.t.s c.a
  else if c.op = 8 ∨ c.op = 9 then callsB F c
  else if c.op = 10 then withinB c.a 0 8
  else if c.op = 13 then withinB c.b 0 32 && (fitsB c.p && patB c.p && inSlotsB c.p)
  else if c.op = 14 then fitsB c.p && guardB c.p && inSlotsB c.p
  else if c.op = 15 then withinB c.b 0 2 && isT c.t
  else if c.op = 18 then recvC T c
  else true
def fldN (j : Nat) : Nat := [4, 1, 1, 0, 1, 0, 4, 5, 3, 3, 1, 0, 1, 11, 9, 6, 1, 0, 23, 0].getD j 0
def blankC (c : Cd) (f : Nat) : Bool :=
  (c.a == 0 || f.testBit 0) && ((c.b == 0 || f.testBit 1) && ((noT c.t || f.testBit 2) && ((noT c.p || f.testBit 3) && ((c.l.length : Int) == 0 || f.testBit 4))))
def instB (F : List Fn13) (T : List (List Int)) (c : Cd) : Bool := decide (0 ≤ c.op ∧ c.op < 20) && (blankC c (fldN c.op.toNat) && ruleB F T c)
def gathN (c : Cd) : List Int := if c.op = 12 ∨ c.op = 13 ∨ c.op = 14 ∨ c.op = 16 then [c.a] else []
def placeB (m : Nat) (n : Int) : Bool := decide (0 ≤ n ∧ n < (m : Int))
def fnB (f : Fn13) : Bool := nameB f.s 2 && (nameB f.t 2 && (withinB f.n 0 8 && withinB f.slots f.n 32))
def fnK (f : Fn13) : ByteArray × ByteArray × Int := (f.s, f.t, f.n)
def fnsB : List (ByteArray × ByteArray × Int) → List Fn13 → Bool
  | _, [] => true
  | seen, f :: l => fnB f && (!decide (fnK f ∈ seen) && fnsB (seen ++ [fnK f]) l)
def overB (l : List Cd) : Bool := match l.getLast? with | none => true | some c => c.op == 11 || (c.op == 9 || (c.op == 12 || c.op == 15))
def fitsP (x : Pg) : Bool := decide (x.ops.length ≤ 4096 ∧ x.fns.length ≤ 4096 ∧ x.tab.length ≤ 4097 ∧ x.tab.flatten.length ≤ 4096)
def namedP (x : Pg) : List Int := x.tab.flatten ++ (x.fns.map Fn13.at_ ++ x.ops.flatMap gathN)
def mayP (x : Pg) : Bool := fitsP x && (overB x.ops && (fnsB [] x.fns && (x.ops.all (instB x.fns x.tab) && (namedP x).all (placeB x.ops.length))))
def checkP (x : Pg) : Int := if mayP x = true then 0 else 130
def findP : List Fn13 → ByteArray → ByteArray → Int → Option Nat
  | [], _, _, _ => none
  | f :: l, s, t, n => if f.s = s ∧ f.t = t ∧ f.n = n then some 0 else (findP l s t n).map (· + 1)

theorem findP_none {l : List Fn13} {s t : ByteArray} {n : Int} : findP l s t n = none ↔ ∀ f ∈ l, ¬ (f.s = s ∧ f.t = t ∧ f.n = n) := by
  induction l with
  | nil => simp [findP]
  | cons f l ih =>
    unfold findP
    by_cases h : f.s = s ∧ f.t = t ∧ f.n = n
    · rw [if_pos h]
      constructor
      · intro e; cases e
      · intro hh; exact absurd h (hh f List.mem_cons_self)
    · rw [if_neg h, Option.map_eq_none_iff, ih]
      refine ⟨fun hh g hg => ?_, fun hh g hg => hh g (List.mem_cons_of_mem _ hg)⟩
      rcases List.mem_cons.1 hg with rfl | hg
      · exact h
      · exact hh g hg
theorem fnsB_app (l m : List Fn13) : ∀ seen, fnsB seen (l ++ m) = (fnsB seen l && fnsB (seen ++ l.map fnK) m) := by
  induction l with
  | nil => intro seen; simp [fnsB]
  | cons f l ih =>
    intro seen
    rw [List.cons_append, fnsB, fnsB, ih]
    simp [Bool.and_assoc]

theorem more_P {x : Pg} (h : mayP x = true) (hl : x.fns.length < 4096) {g : Fn13} (hs : nameB g.s 2 = true) (ht : nameB g.t 2 = true) (hn : g.n = 0) (hsl : g.slots = 0) (ha : 0 ≤ g.at_ ∧ g.at_ < (x.ops.length : Int)) :
    mayP ⟨x.fns ++ [g], x.ops, x.tab⟩ = true ↔ findP x.fns g.s g.t 0 = none := by
  unfold mayP at h
  simp only [Bool.and_eq_true] at h
  obtain ⟨h1, h2, h3, h4, h5⟩ := h
  have hfit : fitsP ⟨x.fns ++ [g], x.ops, x.tab⟩ = true := by
    unfold fitsP at h1 ⊢
    have := of_decide_eq_true h1
    refine decide_eq_true ⟨this.1, ?_, this.2.2⟩
    simp; omega
  have hin : x.ops.all (instB (x.fns ++ [g]) x.tab) = true := by
    rw [List.all_eq_true] at h4 ⊢
    intro c hc
    have h6 := h4 c hc
    unfold instB at h6 ⊢
    simp only [Bool.and_eq_true] at h6 ⊢
    refine ⟨h6.1, h6.2.1, ?_⟩
    have h7 := h6.2.2
    have hcb : callsB x.fns c = true → callsB (x.fns ++ [g]) c = true := by
      intro hb
      unfold callsB withinB at hb ⊢
      simp only [Bool.and_eq_true, decide_eq_true_eq] at hb ⊢
      obtain ⟨⟨hb1, hb2⟩, hb3⟩ := hb
      refine ⟨⟨hb1, by simp; omega⟩, ?_⟩
      rw [List.getElem?_append_left (by omega)]
      exact hb3
    unfold ruleB at h7 ⊢
    by_cases e : c.op = 8 ∨ c.op = 9
    · have n0 : ¬ c.op = 0 := by omega
      have n1 : ¬ (c.op = 1 ∨ c.op = 2) := by omega
      have n4 : ¬ c.op = 4 := by omega
      have n6 : ¬ c.op = 6 := by omega
      have n7 : ¬ c.op = 7 := by omega
      rw [if_neg n0, if_neg n1, if_neg n4, if_neg n6, if_neg n7, if_pos e] at h7 ⊢
      exact hcb h7
    · rw [if_neg e] at h7 ⊢
      exact h7
  have hnm : (namedP ⟨x.fns ++ [g], x.ops, x.tab⟩).all (placeB x.ops.length) = true := by
    unfold namedP at h5 ⊢
    simp only [List.all_append, List.map_append, Bool.and_eq_true] at h5 ⊢
    refine ⟨h5.1, ⟨h5.2.1, ?_⟩, h5.2.2⟩
    simp [placeB]; exact ha
  have hg : fnB g = true := by
    unfold fnB withinB
    rw [hs, ht, hn, hsl]; decide
  have hkey : fnsB [] (x.fns ++ [g]) = true ↔ findP x.fns g.s g.t 0 = none := by
    rw [fnsB_app, h3, Bool.true_and, findP_none]
    simp only [fnsB, hg, Bool.true_and, Bool.and_true, List.nil_append, Bool.not_eq_true', decide_eq_false_iff_not, List.mem_map, not_exists, not_and]
    constructor
    · intro h f hf e1 e2 e3
      exact h f hf (by unfold fnK; rw [e1, e2, e3, hn])
    · intro h f hf e
      unfold fnK at e
      simp only [Prod.mk.injEq] at e
      exact h f hf e.1 e.2.1 (by rw [e.2.2, hn])
  rw [← hkey]
  unfold mayP
  simp only [hfit, h2, hin, hnm, Bool.true_and, Bool.and_true]

end Go.Proofs.YtndihgdhpfjgmaaGreatDoor
end
