/- Layer 7: the two texts of the document, from contracts. -/
import Derived.Test.YthbiaaeoajmlbaaGreatDoorKDigits
import Derived.Test.YthbiaaeoajmlbaaGreatDoorKBnd
import Derived.Test.YthbiaaeoajmlbaaGreatDoorKIMay
import Derived.Lib.Strings
import Derived.WalkKit
import Derived.LoopTactic
import Derived.Lib.Hide
import Derived.LoopNIn
import Derived.Deep.DeepCutAuto
import Derived.Tactics2
import Derived.Lib.ItoaLen
import Derived.Deep.RegionHeld
import Derived.OrdersHeld
section
set_option linter.unusedVariables false
namespace Go.Proofs.YthbiaaeoajmlbaaGreatDoor
open Go.RowKit

def blk : Bool → List UInt8 → Nat
  | _, [] => 0
  | true, b :: t => if b.toNat = 10 then blk false t + 1 else blk true t + 1
  | false, b :: t => if b.toNat = 32 ∨ b.toNat = 9 ∨ b.toNat = 10 ∨ b.toNat = 13 then blk false t + 1 else if b.toNat = 37 then blk true t + 1 else 0
theorem blk_le : ∀ (c : Bool) (l : List UInt8), blk c l ≤ l.length
  | _, [] => by simp [blk]
  | true, b :: t => by have h1 := blk_le false t; have h2 := blk_le true t; simp only [blk]; split <;> simp <;> omega
  | false, b :: t => by have h1 := blk_le false t; have h2 := blk_le true t; simp only [blk]; split <;> (try split) <;> simp <;> omega
theorem drop_cons {l : List UInt8} {k : Nat} (h : k < l.length) : l.drop k = l[k] :: l.drop (k + 1) := List.drop_eq_getElem_cons h

def wordList : List (List UInt8) := [[109, 111, 100, 117, 108, 101], [119, 104, 101, 110], [99, 97, 115, 101], [111, 102], [101, 110, 100], [116, 114, 121], [99, 97, 116, 99, 104], [114, 101, 99, 101, 105, 118, 101], [97, 102, 116, 101, 114], [102, 117, 110], [100, 105, 118], [114, 101, 109], [99, 111, 110, 102, 105, 103]]
def wordL (l : List UInt8) : Bool := wordList.any fun w => l == w
def oneL (b : UInt8) : Bool := [60, 62, 61, 43, 45, 42, 40, 41, 91, 93, 123, 125, 44, 59, 124, 58, 47].any fun (c : Int) => (b.toNat : Int) == c
def markL (l : List UInt8) : Nat :=
  if l.take 3 = [61, 58, 61] ∨ l.take 3 = [61, 47, 61] then 3 else if l.take 2 = [45, 62] ∨ l.take 2 = [61, 60] ∨ l.take 2 = [62, 61] then 2 else
  match l with
  | [] => 0
  | b :: _ => if oneL b = true then 1 else 0
theorem markL_le (l : List UInt8) : markL l ≤ l.length := by
  unfold markL
  split
  · rename_i h
    have : (l.take 3).length = 3 := by rcases h with h | h <;> rw [h] <;> rfl
    rw [List.length_take] at this; omega
  · split
    · rename_i h
      have : (l.take 2).length = 2 := by rcases h with h | h | h <;> rw [h] <;> rfl
      rw [List.length_take] at this; omega
    · split
      · exact Nat.le_refl _
      · split <;> simp

inductive SR where
  | tok (k n : Int) (len sl : Nat)
  | bad (e : Int)
def tokL (l : List UInt8) : SR :=
  match l with
  | [] => .bad 60
  | b :: _ =>
    if isDig b = true then (if 576460752303423488 < vl l (dg l) then .bad 11 else .tok 2 (vl l (dg l)) (dg l) 0)
    else if kindN (b.toNat : Int) ≠ 0 then (if 32 < prefL l then .bad 11 else .tok (if wordL (l.take (prefL l)) = true then 3 else if kindN (b.toNat : Int) = 2 then 0 else 1) 0 (prefL l) (prefL l))
    else if b.toNat = 46 then .tok 4 0 1 0
    else if markL l = 0 then .bad 60 else .tok 3 0 (markL l) (markL l)

structure Tk where
  k : Int
  n : Int
  s : ByteArray
  a : Int
def Tk.v (t : Tk) : Value := .agg #[.int .i8 t.k, .int .i64 t.n, .string t.s, .int .i64 t.a]
def tk0 : Tk := ⟨0, 0, ⟨#[]⟩, 0⟩
structure NR where
  t : Tk
  e : Int
  f : Int
  a : Int
def NR.v (r : NR) : Value := .tuple #[r.t.v, .int .i64 r.e, .agg #[.int .i64 r.f, .int .i64 r.a]]
def tokAt (s : ByteArray) (b : Nat) : NR :=
  match tokL (s.data.toList.drop b) with
  | .bad e => ⟨tk0, b, e, b⟩
  | .tok k n len sl => ⟨⟨k, n, if sl = 0 then ⟨#[]⟩ else s.extract b (b + sl), b⟩, b + len, 0, 0⟩
def blankR (s : ByteArray) (a : Int) : Int := if a < 0 ∨ (s.size : Int) < a then a else (a.toNat + blk false (s.data.toList.drop a.toNat) : Nat)
def nextR (s : ByteArray) (a : Int) : NR :=
  if a < 0 ∨ (s.size : Int) < a then ⟨tk0, a, 60, a⟩
  else if (s.size : Int) ≤ blankR s a then ⟨tk0, s.size, 60, s.size⟩
  else tokAt s (blankR s a).toNat

theorem size_list (s : ByteArray) : s.data.toList.length = s.size := by rw [Array.length_toList]; rfl
theorem ext_list (s : ByteArray) (a b : Nat) : (s.extract a b).data.toList = (s.data.toList.take b).drop a := by
  rw [ByteArray.data_extract, Array.toList_extract, List.extract_eq_take_drop]
  rw [List.drop_take]
theorem ext_rest (s : ByteArray) (a : Nat) : (s.extract a s.size).data.toList = s.data.toList.drop a := by
  rw [ext_list, List.take_of_length_le (by rw [size_list]; exact Nat.le_refl _)]
theorem ext_ext (s : ByteArray) (a n : Nat) (h : a + n ≤ s.size) : (s.extract a s.size).extract 0 n = s.extract a (a + n) := by
  apply ByteArray.ext
  apply Array.toList_inj.1
  rw [ext_list, ext_rest, ext_list]
  rw [List.drop_zero, List.take_drop]
theorem markL_s (s : ByteArray) (h0 : 0 < s.size) : markL s.data.toList =
    if 3 ≤ (s.size : Int) ∧ ((s.extract 0 3).toList = [61, 58, 61] ∨ (s.extract 0 3).toList = [61, 47, 61]) then 3
    else if 2 ≤ (s.size : Int) ∧ ((s.extract 0 2).toList = [45, 62] ∨ (s.extract 0 2).toList = [61, 60] ∨ (s.extract 0 2).toList = [62, 61]) then 2
    else if oneL s[0] = true then 1 else 0 := by
  have hl := size_list s
  have e3 : (s.extract 0 3).toList = s.data.toList.take 3 := by rw [Go.Lib.toList_data, ext_list, List.drop_zero]
  have e2 : (s.extract 0 2).toList = s.data.toList.take 2 := by rw [Go.Lib.toList_data, ext_list, List.drop_zero]
  rw [e3, e2]
  have hc : s.data.toList = s[0] :: s.data.toList.drop 1 := by
    have := drop_cons (l := s.data.toList) (k := 0) (by omega)
    rw [List.drop_zero] at this
    exact this
  have h3 : ∀ x y z : UInt8, s.data.toList.take 3 = [x, y, z] → 3 ≤ (s.size : Int) := fun x y z e => by
    have := congrArg List.length e
    rw [List.length_take] at this
    simp only [List.length_cons, List.length_nil] at this
    omega
  have h2 : ∀ x y : UInt8, s.data.toList.take 2 = [x, y] → 2 ≤ (s.size : Int) := fun x y e => by
    have := congrArg List.length e
    rw [List.length_take] at this
    simp only [List.length_cons, List.length_nil] at this
    omega
  unfold markL
  by_cases a : s.data.toList.take 3 = [61, 58, 61] ∨ s.data.toList.take 3 = [61, 47, 61]
  · rw [if_pos a, if_pos ⟨a.elim (h3 _ _ _) (h3 _ _ _), a⟩]
  · rw [if_neg a, if_neg (fun (e : _ ∧ _) => a e.2)]
    by_cases b : s.data.toList.take 2 = [45, 62] ∨ s.data.toList.take 2 = [61, 60] ∨ s.data.toList.take 2 = [62, 61]
    · rw [if_pos b, if_pos ⟨b.elim (h2 _ _) (fun b => b.elim (h2 _ _) (h2 _ _)), b⟩]
    · rw [if_neg b, if_neg (fun (e : _ ∧ _) => b e.2)]
      rw [hc]
end Go.Proofs.YthbiaaeoajmlbaaGreatDoor
end
section
set_option linter.unusedVariables false
namespace Go.Proofs.YthbiaaeoajmlbaaGreatDoor
open Go.RowKit

mutual
def Tm.deep : Tm → Nat
  | .mk _ _ _ _ l => Tm.deeps l + 1
def Tm.deeps : List Tm → Nat
  | [] => 0
  | x :: l => max x.deep (Tm.deeps l)
end
theorem Tm.deep_mem : ∀ {l : List Tm} {x : Tm}, x ∈ l → x.deep ≤ Tm.deeps l
  | y :: l, x, h => by
    rw [Tm.deeps]
    rcases List.mem_cons.1 h with rfl | h
    · exact Nat.le_max_left _ _
    · exact Nat.le_trans (Tm.deep_mem h) (Nat.le_max_right _ _)
theorem Tm.nodes_mem : ∀ {l : List Tm} {x : Tm}, x ∈ l → x.nodes ≤ (Tm.pres l).length
  | y :: l, x, h => by
    rw [Tm.pres, List.length_append]
    rcases List.mem_cons.1 h with rfl | h
    · exact Nat.le_add_right _ _
    · exact Nat.le_trans (Tm.nodes_mem h) (Nat.le_add_left _ _)
theorem Tm.nodes_mk (k n : Int) (s t : ByteArray) (l : List Tm) : (Tm.mk k n s t l).nodes = (Tm.pres l).length + 1 := by unfold Tm.nodes; rw [Tm.pre, List.length_cons]
def fitsB (x : Tm) : Bool := decide (x.nodes ≤ 4096 ∧ x.deep ≤ 64)
theorem fits_mem {k n : Int} {s t : ByteArray} {l : List Tm} {x : Tm} (h : fitsB (.mk k n s t l) = true) (hx : x ∈ l) : fitsB x = true := by
  unfold fitsB at h ⊢
  have h1 := of_decide_eq_true h
  rw [Tm.nodes_mk, Tm.deep] at h1
  have h2 := Tm.deep_mem hx
  have h3 := Tm.nodes_mem hx
  exact decide_eq_true ⟨by omega, by omega⟩

def emp (s : ByteArray) : Bool := decide (s.size = 0)
def atomB (s : ByteArray) : Bool := nameB s 2 && !wordL s.data.toList
def cmpB (s : ByteArray) : Bool := [[61, 58, 61], [61, 47, 61], [60], [61, 60], [62], [62, 61]].any fun x => s.data.toList == x
def ariB (s : ByteArray) : Bool := [[43], [45], [42], [100, 105, 118], [114, 101, 109]].any fun x => s.data.toList == x
def plusB (s : ByteArray) : Bool := [[43], [45], [42]].any fun x => s.data.toList == x
def kindB (s : ByteArray) : Bool := [[105, 115, 95, 97, 116, 111, 109], [105, 115, 95, 105, 110, 116, 101, 103, 101, 114], [105, 115, 95, 112, 105, 100], [105, 115, 95, 114, 101, 102, 101, 114, 101, 110, 99, 101], [105, 115, 95, 116, 117, 112, 108, 101], [105, 115, 95, 108, 105, 115, 116], [105, 115, 95, 102, 117, 110, 99, 116, 105, 111, 110]].any fun x => s.data.toList == x
def classB (s : ByteArray) : Bool := [[101, 114, 114, 111, 114], [101, 120, 105, 116], [116, 104, 114, 111, 119]].any fun x => s.data.toList == x
theorem plus_ari {s : ByteArray} (h : plusB s = true) : ariB s = true := by
  unfold plusB at h; unfold ariB
  simp only [List.any_cons, List.any_nil, Bool.or_eq_true, Bool.or_false] at h ⊢
  rcases h with h | h | h
  · exact .inl h
  · exact .inr (.inl h)
  · exact .inr (.inr (.inl h))

def leafB (k n : Int) (s t : ByteArray) (l : List Tm) : Bool :=
  l.isEmpty && emp t && ((k == 5 && n == 0 && nameB s 3) || (k == 6 && emp s && mayB n) || (k == 7 && n == 0 && atomB s) || (k == 8 && n == 0 && emp s))
mutual
def patB : Tm → Bool
  | .mk k n s t l => leafB k n s t l || ((k == 10 || (k == 9 && l.length == 2)) && n == 0 && emp s && emp t && patsB l)
def patsB : List Tm → Bool
  | [] => true
  | x :: l => patB x && patsB l
end
mutual
def guaB : Tm → Bool
  | .mk k n s t l => leafB k n s t l || (((k == 10 && emp s) || (k == 9 && emp s && l.length == 2) || (k == 11 && plusB s && l.length == 2)) && n == 0 && emp t && guasB l)
def guasB : List Tm → Bool
  | [] => true
  | x :: l => guaB x && guasB l
end
def testB : Tm → Bool
  | .mk k n s t l => ((k == 11 && cmpB s && l.length == 2) || (k == 12 && kindB s && l.length == 1)) && n == 0 && emp t && guasB l
def guardB : Tm → Bool
  | .mk k n s t l => k == 4 && n == 0 && emp s && emp t && l.all testB
def classedB : Tm → Bool
  | .mk _ _ _ _ (.mk k _ s _ _ :: _) => k == 5 || (k == 7 && classB s)
  | _ => false
def varFirst : List Tm → Bool
  | .mk k _ _ _ _ :: _ => k == 5
  | [] => false
mutual
def exprB : Tm → Bool
  | .mk k n s t l => leafB k n s t l ||
    (k == 9 && n == 0 && emp s && emp t && l.length == 2 && exprsB l) ||
    (k == 10 && n == 0 && emp s && emp t && exprsB l) ||
    (k == 11 && n == 0 && emp t && (cmpB s || ariB s) && l.length == 2 && exprsB l) ||
    (k == 13 && n == 0 && emp s && emp t && l.length == 2 && patFirst l) ||
    (k == 14 && n == 0 && emp t && atomB s && decide (l.length ≤ 8) && exprsB l) ||
    (k == 15 && n == 0 && atomB s && atomB t && decide (l.length ≤ 8) && exprsB l) ||
    (k == 16 && n == 0 && emp s && emp t && decide (l.length ≤ 9) && varFirst l && exprsB l) ||
    (k == 17 && atomB s && atomB t && decide (0 ≤ n ∧ n ≤ 8) && l.isEmpty) ||
    (k == 18 && n == 0 && emp s && emp t && decide (2 ≤ l.length) && caseB 1 l) ||
    (k == 19 && n == 0 && emp s && emp t && decide (2 ≤ l.length) && caseB 2 l && l.tail.all classedB) ||
    (k == 20 && emp s && emp t && ((n == 0 && !l.isEmpty && clsB 1 l) || (n == 1 && recvB l)))
def exprsB : List Tm → Bool
  | [] => true
  | x :: l => exprB x && exprsB l
def patFirst : List Tm → Bool
  | [] => true
  | p :: l => patB p && exprsB l
def caseB (m : Nat) : List Tm → Bool
  | [] => true
  | e :: l => exprB e && clsB m l
def clsB (m : Nat) : List Tm → Bool
  | [] => true
  | c :: l => clB m c && clsB m l
def clB (m : Nat) : Tm → Bool
  | .mk k n s t l => k == 3 && n == (m : Int) && emp s && emp t && partsB m l
def partsB : Nat → List Tm → Bool
  | 0, g :: l => guardB g && !l.isEmpty && exprsB l
  | m + 1, p :: l => patB p && partsB m l
  | _, [] => false
def recvB : List Tm → Bool
  | [] => false
  | c :: l => if l.isEmpty then afterB c else clB 1 c && recvB l
def afterB : Tm → Bool
  | .mk k n s t l => k == 21 && n == 0 && emp s && emp t && decide (2 ≤ l.length) && exprsB l
end
def funB : Tm → Bool
  | .mk k n s t l => k == 2 && emp t && atomB s && decide (0 ≤ n ∧ n ≤ 8) && !l.isEmpty && clsB n.toNat l
def modB : Tm → Bool
  | .mk k n s t l => k == 1 && n == 0 && emp t && atomB s && l.all funB
def modsB : Tm → Bool
  | .mk k n s t l => k == 0 && n == 0 && emp s && emp t && l.all modB
end Go.Proofs.YthbiaaeoajmlbaaGreatDoor
end
section
set_option linter.unusedVariables false
namespace Go.Proofs.YthbiaaeoajmlbaaGreatDoor
open Go.RowKit

theorem patsB_all : ∀ {l : List Tm}, patsB l = true ↔ ∀ x ∈ l, patB x = true
  | [] => by simp [patsB]
  | x :: l => by simp [patsB, patsB_all (l := l)]
theorem guasB_all : ∀ {l : List Tm}, guasB l = true ↔ ∀ x ∈ l, guaB x = true
  | [] => by simp [guasB]
  | x :: l => by simp [guasB, guasB_all (l := l)]
theorem exprsB_all : ∀ {l : List Tm}, exprsB l = true ↔ ∀ x ∈ l, exprB x = true
  | [] => by simp [exprsB]
  | x :: l => by simp [exprsB, exprsB_all (l := l)]
theorem clsB_all {m : Nat} : ∀ {l : List Tm}, clsB m l = true ↔ ∀ x ∈ l, clB m x = true
  | [] => by simp [clsB]
  | x :: l => by simp [clsB, clsB_all (l := l)]

theorem pat_gua (x : Tm) : patB x = true → guaB x = true := by
  induction x using Tm.ind with
  | h k n s t l ih =>
    intro h
    rw [patB, Bool.or_eq_true] at h
    rw [guaB, Bool.or_eq_true]
    rcases h with h | h
    · exact .inl h
    · simp only [Bool.and_eq_true, Bool.or_eq_true] at h
      obtain ⟨⟨⟨⟨h1, h2⟩, h3⟩, h4⟩, h5⟩ := h
      have h6 : guasB l = true := guasB_all.2 fun x hx => ih x hx (patsB_all.1 h5 x hx)
      right
      simp only [Bool.and_eq_true, Bool.or_eq_true]
      refine ⟨⟨⟨?_, h2⟩, h4⟩, h6⟩
      rcases h1 with h1 | ⟨h1, h7⟩
      · exact .inl (.inl ⟨h1, h3⟩)
      · exact .inl (.inr ⟨⟨h1, h3⟩, h7⟩)
theorem gua_expr (x : Tm) : guaB x = true → exprB x = true := by
  induction x using Tm.ind with
  | h k n s t l ih =>
    intro h
    rw [guaB, Bool.or_eq_true] at h
    rw [exprB]
    simp only [Bool.or_eq_true]
    rcases h with h | h
    · simp [h]
    · simp only [Bool.and_eq_true, Bool.or_eq_true] at h
      obtain ⟨⟨⟨h1, h2⟩, h4⟩, h5⟩ := h
      have h6 : exprsB l = true := exprsB_all.2 fun x hx => ih x hx (guasB_all.1 h5 x hx)
      rcases h1 with (⟨h1, h3⟩ | ⟨⟨h1, h3⟩, h7⟩) | ⟨⟨h1, h3⟩, h7⟩
      · simp [h1, h2, h3, h4, h6]
      · simp [h1, h2, h3, h4, h6, h7]
      · simp [h1, h2, plus_ari h3, h4, h6, h7]
theorem pat_expr (x : Tm) (h : patB x = true) : exprB x = true := gua_expr x (pat_gua x h)

theorem guard_tests {k n : Int} {s t : ByteArray} {l : List Tm} (h : guardB (.mk k n s t l) = true) : ∀ x ∈ l, testB x = true := by
  rw [guardB] at h
  simp only [Bool.and_eq_true] at h
  exact List.all_eq_true.1 h.2
def clauseR (x : Tm) (m : Int) : Bool := fitsB x && decide (0 ≤ m) && clB m.toNat x
theorem clB_n {m : Nat} {k n : Int} {s t : ByteArray} {l : List Tm} (h : clB m (.mk k n s t l) = true) : n = (m : Int) := by
  rw [clB] at h
  simp only [Bool.and_eq_true] at h
  exact eq_of_beq h.1.1.1.2
theorem cls_one {x : Tm} {m : Int} (h : clauseR x m = true) : clauseR x (m + 1) = false := by
  obtain ⟨k, n, s, t, l⟩ := x
  unfold clauseR at h ⊢
  simp only [Bool.and_eq_true] at h
  have h1 := clB_n h.2
  have h2 : 0 ≤ m := of_decide_eq_true h.1.2
  cases hx : clB (m + 1).toNat (Tm.mk k n s t l)
  · simp
  · have h3 := clB_n hx
    omega
theorem mods_parts {x m f c : Tm} (h : fitsB x = true) (hx : modsB x = true) (hm : m ∈ x.l) (hf : f ∈ m.l) (hc : c ∈ f.l) : clauseR c f.n = true ∧ 0 ≤ f.n ∧ f.n ≤ 8 := by
  obtain ⟨k0, n0, s0, t0, l0⟩ := x
  obtain ⟨k1, n1, s1, t1, l1⟩ := m
  obtain ⟨k2, n2, s2, t2, l2⟩ := f
  have hm' : Tm.mk k1 n1 s1 t1 l1 ∈ l0 := hm
  have hf' : Tm.mk k2 n2 s2 t2 l2 ∈ l1 := hf
  have hc' : c ∈ l2 := hc
  rw [modsB] at hx
  simp only [Bool.and_eq_true] at hx
  have e1 := List.all_eq_true.1 hx.2 _ hm'
  rw [modB] at e1
  simp only [Bool.and_eq_true] at e1
  have e2 := List.all_eq_true.1 e1.2 _ hf'
  rw [funB] at e2
  simp only [Bool.and_eq_true] at e2
  have e3 := of_decide_eq_true e2.1.1.2
  have e4 := clsB_all.1 e2.2 _ hc'
  have fc : fitsB c = true := fits_mem (fits_mem (fits_mem h hm') hf') hc'
  refine ⟨?_, e3⟩
  show clauseR c n2 = true
  unfold clauseR
  rw [fc, e4, decide_eq_true e3.1]
  rfl
end Go.Proofs.YthbiaaeoajmlbaaGreatDoor
end
section
set_option linter.unusedVariables false
namespace Go.Proofs.YthbiaaeoajmlbaaGreatDoor
open Go.RowKit Go.ChangeShapes Go.WideShapes Go.Deep

theorem tcells_node : Tryz.prog.cellsOf 25 = 5 := by kernel_rfl
theorem tcells_nrow : Tryz.prog.cellsOf 23 = 1 := by kernel_rfl
set_option maxRecDepth 100000 in
theorem open_nrow {H : Type} {enc : TypeId × Value → H} {W : World} {fuel : Nat} {v : Value} {x : DataW H × List MemPlace}
    (ih : ∀ n, n < fuel → ∀ cs x, DataW.trod enc Tryz.prog W 0 (fun _ => true) true n 25 cs = some x → ∃ t, TmAt (· < W.heap.size) W t (.agg cs.toArray))
    (h : DataW.trod enc Tryz.prog W 0 (fun _ => true) true fuel 23 [v] = some x) : ∃ A n cap l, v = .slice A n cap ∧ TRow (· < W.heap.size) W A n cap l := by
  rcases DataW.trod_slice Tryz.underlying23 h with ⟨hcs, _⟩ | ⟨a, len, cap, elems, rest, n, hfu, hcs, _, hb, hl, hm, hlen, hel, _, _⟩
  · simp at hcs
    exact ⟨none, 0, 0, [], hcs, .nil _ _ _ _⟩
  · simp at hcs
    subst hcs
    rw [tcells_node] at hel
    have each : ∀ i, i < len → ∃ t v, a.block < W.heap.size ∧ ElemAt W a i v ∧ TmAt (· < W.heap.size) W t v := by
      intro i hi
      have h1 := hel i hi
      rw [List.getElem?_eq_getElem (by omega)] at h1
      obtain ⟨cs, hc, ht⟩ := Option.bind_eq_some_iff.1 h1
      obtain ⟨t, hT⟩ := ih n (by omega) cs _ ht
      obtain ⟨_, hcl, hat⟩ := World.cells?_some hc
      match cs, hcl with
      | [c0, c1, c2, c3, c4], _ =>
        have e0 := hat 0 (by decide)
        have e1 := hat 1 (by decide)
        have e2 := hat 2 (by decide)
        have e3 := hat 3 (by decide)
        have e4 := hat 4 (by decide)
        rw [add_next] at e0
        rw [add_next'] at e1 e2 e3 e4
        refine ⟨t, _, ?_, ⟨c0, c1, c2, c3, c4, rfl, e0, e1, e2, e3, e4⟩, hT⟩
        have := World.block_lt_of_cell? W _ (e0.trans rfl)
        rwa [add_block] at this
    obtain ⟨l, hll, hlp⟩ := rows_choose (p := fun j x => ∃ v, a.block < W.heap.size ∧ ElemAt W a j v ∧ TmAt (· < W.heap.size) W x v) each
    exact ⟨some a, len, cap, l, rfl, hll, Nat.le_trans hl hm, hl, fun j x hj => by obtain ⟨v, h1, h2, h3⟩ := hlp j x hj; exact ⟨a, v, rfl, h1, h2, h3⟩⟩

set_option maxRecDepth 100000 in
theorem open_node_fuel {H : Type} {enc : TypeId × Value → H} {W : World} (fuel : Nat) : ∀ cs x, DataW.trod enc Tryz.prog W 0 (fun _ => true) true fuel 25 cs = some x → ∃ t, TmAt (· < W.heap.size) W t (.agg cs.toArray) := by
  induction fuel using Nat.strongRecOn with
  | ind fuel ih =>
    intro cs x h
    obtain ⟨xs, n, hfu, _, hlen, hxl, hf⟩ := DataW.trod_struct Tryz.underlying25 h
    rw [tcells_node] at hlen
    match cs, hlen with
    | [c0, c1, c2, c3, c4], _ =>
      have f0 : DataW.trod enc Tryz.prog W 0 (fun _ => true) true n 22 (([c0, c1, c2, c3, c4].drop 0).take (Tryz.prog.cellsOf 22)) = xs[0]? := hf 0 _ rfl
      have f1 : DataW.trod enc Tryz.prog W 0 (fun _ => true) true n 3 (([c0, c1, c2, c3, c4].drop 1).take (Tryz.prog.cellsOf 3)) = xs[1]? := hf 1 _ rfl
      have f2 : DataW.trod enc Tryz.prog W 0 (fun _ => true) true n 9 (([c0, c1, c2, c3, c4].drop 2).take (Tryz.prog.cellsOf 9)) = xs[2]? := hf 2 _ rfl
      have f3 : DataW.trod enc Tryz.prog W 0 (fun _ => true) true n 9 (([c0, c1, c2, c3, c4].drop 3).take (Tryz.prog.cellsOf 9)) = xs[3]? := hf 3 _ rfl
      have f4 : DataW.trod enc Tryz.prog W 0 (fun _ => true) true n 23 (([c0, c1, c2, c3, c4].drop 4).take (Tryz.prog.cellsOf 23)) = xs[4]? := hf 4 _ rfl
      rw [tcells_i8] at f0
      rw [tcells_int] at f1
      rw [tcells_str] at f2 f3
      rw [tcells_nrow] at f4
      match xs, hxl with
      | [y0, y1, y2, y3, y4], _ =>
        simp at f0 f1 f2 f3 f4
        obtain ⟨k, e0, _, hk⟩ := DataW.trod_int Tryz.underlying22 f0
        obtain ⟨m, e1, _, hm⟩ := DataW.trod_int Tryz.underlying3 f1
        obtain ⟨s, e2, _, hs⟩ := DataW.trod_string Tryz.underlying9 f2
        obtain ⟨t, e3, _, ht⟩ := DataW.trod_string Tryz.underlying9 f3
        obtain ⟨A, len, cap, l, rfl, hr⟩ := open_nrow (fun n' hn' => ih n' (by omega)) f4
        simp at e0 e1 e2 e3
        subst e0 e1 e2 e3
        obtain rfl := hr.len
        exact ⟨.mk k m s t l, .of_row hr (i8_wf hk) (i64_wf hm) hs ht⟩

set_option maxRecDepth 100000 in
theorem open_node {H : Type} {enc : TypeId × Value → H} {W : World} {base : Nat} {v : Value} {d : DataW H} {p : List MemPlace} (hv : Value.okWide Tryz.prog W .any base 25 v) (h : DataW.Trod enc Tryz.prog W 0 (fun _ => true) true 25 v d p) : ∃ t, TmAt (· < W.heap.size) W t v := by
  obtain ⟨cs, rfl, hsz⟩ := okWide_struct Tryz.underlying25 hv
  obtain ⟨fuel, hf⟩ := h
  obtain ⟨t, ht⟩ := open_node_fuel fuel _ _ hf
  simp [Value.cells] at ht
  exact ⟨t, ht⟩

set_option maxRecDepth 100000 in
theorem open_nodes {H : Type} {enc : TypeId × Value → H} {W : World} {base : Nat} {v : Value} {d : DataW H} {p : List MemPlace} (hv : Value.okWide Tryz.prog W .any base 23 v) (h : DataW.Trod enc Tryz.prog W 0 (fun _ => true) true 23 v d p) : ∃ A n cap l, v = .slice A n cap ∧ TRow (· < W.heap.size) W A n cap l := by
  obtain ⟨a0, len, cap, rfl⟩ := okWide_slice Tryz.underlying23 hv
  obtain ⟨fuel, hf⟩ := h
  simp [Value.cells] at hf
  exact open_nrow (fun n _ => open_node_fuel n) hf
set_option maxHeartbeats 1000000 in
set_option maxRecDepth 100000 in
theorem rnodes_any (x : Tm) : ∀ (v : Value) (most : Nat) (w : World), TmAt (· < w.heap.size) w x v → 1 ≤ most → most ≤ 1000000 →
    Calls Tryz.prog 61 #[v, .int .i64 most] w fun e w' => e = .returned (.int .i64 (min x.nodes most : Nat)) ∧ Below w.heap.size w w' := by
  induction x using Tm.ind with
  | h k n s t l ih =>
    intro v most w hT h1 hmost
    obtain ⟨A, cap, rfl, hR, hk, hn, hs, ht⟩ := hT.parts
    have hlen := hR.max
    unfold maxLen at hlen
    have HR := Lib.hid hR
    have HIH := Lib.hid ih
    clear hR ih hT
    obtain ⟨w1, hw1⟩ : ∃ w1, w1 = w.alloc (.cells #[.int .i8 k, .int .i64 n, .string s, .string t, .slice A l.length cap] 25) := ⟨_, rfl⟩
    have hB1 : Below w.heap.size w w1 := by rw [hw1]; exact (Below.refl _ w).alloc (Nat.le_refl _) _
    have hs1 : w1.heap.size = w.heap.size + 1 := by rw [hw1]; simp
    have hbox : w1.heap[w.heap.size]? = some (.cells #[.int .i8 k, .int .i64 n, .string s, .string t, .slice A l.length cap] 25) := by rw [hw1]; exact block_alloc _ _
    have HB1 := Lib.hid hB1
    have HS1 := Lib.hid hs1
    clear hB1 hs1
    go_enter Tryz.func61, Tryz.ntmps61
    go_wp2_with fail
    rw [← hw1]
    clear hw1
    have HX := Lib.hid hbox
    clear hbox
    go_loopw [5, 6] (fun r i wr => ∃ j : Nat, j ≤ l.length ∧ i = .int .i64 j ∧ (∃ q : Nat, r = .int .i64 q ∧ q = min (1 + (Tm.pres (l.take j)).length) most) ∧ Below w1.heap.size w1 wr) (fun _ i _ => l.length - (intOf i).toNat)
    case atStart => exact ⟨0, Nat.zero_le _, rfl, ⟨1, rfl, by simp [Tm.pres]; omega⟩, Below.refl _ _⟩
    case round =>
      obtain ⟨j, hj, rfl, ⟨q, rfl, hq⟩, hB⟩ := hrel
      have hbw : wr.heap[w.heap.size]? = _ := (hB.block w.heap.size (by rw [HS1.out]; omega)).trans HX.out
      have hc4 : wr.cell? ⟨w.heap.size, 4, none⟩ = some (.slice A l.length cap) := cell_of_row hbw rfl
      have hq1 : 1 ≤ q := by omega
      have hq2 : q ≤ most := by omega
      have HQ := Lib.hid hq
      have HB := Lib.hid hB
      clear hq hB hbw
      by_cases hlt : j < l.length
      · by_cases hm : q < most
        · obtain ⟨y, hy⟩ : ∃ y, l[j]? = some y := ⟨l[j], List.getElem?_eq_getElem hlt⟩
          obtain ⟨ad, u, rfl, had, hE, hTy⟩ := HR.out.at_ j y hy
          have hEr : ElemAt wr ad j u := hE.keep ((HB.out.block ad.block (by rw [HS1.out]; omega)).trans (HB1.out.block ad.block had))
          have hTr : TmAt (· < wr.heap.size) wr y u := hTy.keep (fun b hb => (HB.out.block b (by rw [HS1.out]; omega)).trans (HB1.out.block b hb)) (fun b hb => by have := HB1.out.size; have := HB.out.size; omega)
          obtain ⟨c0, c1, c2, c3, c4, rfl, e0, e1, e2, e3, e4⟩ := hEr
          have hmem := List.mem_of_getElem? hy
          have hpy := Tm.pre_ne y
          have HY := Lib.hid hy
          clear hE hTy hy
          go_wp2_with fail
          have he : (most : Int) - q = ((most - q : Nat) : Int) := by omega
          rw [he]
          refine (HIH.out y hmem _ (most - q) _ hTr (by omega) (by omega)).mono ?_
          rintro e w2 ⟨rfl, b2⟩
          have hr : q + min y.nodes (most - q) = min (1 + (Tm.pres (l.take (j + 1))).length) most := by
            rw [Tm.pres_take_succ HY.out, List.length_append]
            have := HQ.out
            unfold Tm.nodes
            omega
          have HRR := Lib.hid hr
          have hle : min y.nodes (most - q) ≤ 1000000 := by omega
          clear hr he
          generalize min y.nodes (most - q) = z at HRR hle ⊢
          go_wp2_with fail
          go_roundw
          case rel => exact ⟨j + 1, by omega, by go_num, ⟨q + z, by go_num, HRR.out⟩, HB.out.trans (b2.mono HB.out.size)⟩
          case measure => simp [intOf]; omega
        · go_wp2_with fail
          go_ret
          refine ⟨ret_int ?_, HB1.out.trans (HB.out.mono (by rw [HS1.out]; omega))⟩
          have h := HQ.out
          have : (Tm.pres (l.take j)).length ≤ (Tm.pres l).length := by
            rw [show Tm.pres l = Tm.pres (l.take j) ++ Tm.pres (l.drop j) by rw [← Tm.pres_append, List.take_append_drop]]
            simp
          unfold Tm.nodes Tm.pre
          simp only [List.length_cons]
          omega
      · obtain rfl : j = l.length := by omega
        go_wp2_with fail
        go_ret
        refine ⟨ret_int ?_, HB1.out.trans (HB.out.mono (by rw [HS1.out]; omega))⟩
        have h := HQ.out
        rw [List.take_length] at h
        unfold Tm.nodes Tm.pre
        simp only [List.length_cons]
        omega

def NoThenN (p : Prop) (w : World) (e : Ending) (w' : World) : Prop := ∃ b : Bool, e = .returned (.bool b) ∧ (b = false → p) ∧ Below w.heap.size w w'
theorem GreatN_any (x : Tm) (v : Value) (w : World) (hT : TmAt (· < w.heap.size) w x v) : Calls Tryz.prog 13 #[v] w (NoThenN (x.nodes < 8192) w) := by
  obtain ⟨c, rfl⟩ : ∃ c, v = .agg c := by cases hT; exact ⟨_, rfl⟩
  have hT2 : TmAt (· < (w.alloc (.cells c 25)).heap.size) (w.alloc (.cells c 25)) x (.agg c) := hT.keep (fun b hb => Below.heap_alloc _ _ _ hb) (fun b hb => by simp; omega)
  cases hT with
  | mk vs hk hn hs ht hl hcap hc hx =>
    have HC := Lib.hid (rnodes_any _ _ 8192 _ hT2 (by decide) (by decide))
    clear hT2 hc hx hl hcap
    unfold maxLen at hs ht
    go_enter Tryz.func13, Tryz.ntmps13
    go_wp2_with fail
    refine HC.out.mono ?_
    rintro e w1 ⟨rfl, b1⟩
    go_wp2_with fail
    go_ret
    refine ⟨_, rfl, fun h => ?_, ((Below.refl _ w).alloc (Nat.le_refl _) _).trans (b1.mono (by simp))⟩
    have := of_decide_eq_false h
    omega

end Go.Proofs.YthbiaaeoajmlbaaGreatDoor
end
section
set_option linter.unusedVariables false
namespace Go.Proofs.YthbiaaeoajmlbaaGreatDoor
open Go.RowKit

def checkR (x : Tm) : Int := if fitsB x = true ∧ modsB x = true then 0 else 70
theorem checkR_or (x : Tm) : (checkR x = 0 ∧ fitsB x = true ∧ modsB x = true) ∨ (checkR x = 70 ∧ ¬ (fitsB x = true ∧ modsB x = true)) := by
  unfold checkR
  by_cases h : fitsB x = true ∧ modsB x = true
  · rw [if_pos h]; exact .inl ⟨rfl, h⟩
  · rw [if_neg h]; exact .inr ⟨rfl, h⟩
def BoolC (E : World → Prop) (f : Nat) (p : Tm → Bool) : Prop := ∀ (x : Tm) (v : Value) (w : World), TmAt (· < w.heap.size) w x v → x.nodes ≤ 8200 → E w →
  Calls Tryz.prog f #[v] w fun e w' => e = .returned (.bool (fitsB x && p x)) ∧ Below w.heap.size w w'
def CheckC (E : World → Prop) : Prop := ∀ (x : Tm) (v : Value) (w : World), TmAt (· < w.heap.size) w x v → x.nodes ≤ 8200 → E w →
  Calls Tryz.prog 73 #[v] w fun e w' => e = .returned (.int .i64 (checkR x)) ∧ Below w.heap.size w w'
structure NBx (E : World → Prop) (w V : World) (g : Nat) (c : Array Value) : Prop where
  below : Below w.heap.size w V
  box : V.heap[g]? = some (.cells c 25 (0, 0))
  env : E V
theorem NBx.under {E : World → Prop} (hE : ∀ w w', E w → Below w.heap.size w w' → E w') {w V V' : World} {g : Nat} {c : Array Value} (h : NBx E w V g c) (b : Below V.heap.size V V') : NBx E w V' g c :=
  ⟨h.below.trans (b.mono h.below.size), (b.block _ (heap_lt h.box)).trans h.box, hE _ _ h.env b⟩
theorem nbx_of {E : World → Prop} (hE : ∀ w w', E w → Below w.heap.size w w' → E w') {w : World} (hw : E w) (c : Array Value) : NBx E w (w.alloc (.cells c 25)) w.heap.size c :=
  ⟨(Below.refl _ _).alloc (Nat.le_refl _) _, block_alloc _ _, hE _ _ hw ((Below.refl _ _).alloc (Nat.le_refl _) _)⟩
theorem TmAt.laterN {w V : World} {x : Tm} {v : Value} (h : TmAt (· < w.heap.size) w x v) (hb : Below w.heap.size w V) : TmAt (· < V.heap.size) V x v :=
  h.keep (fun b hb' => hb.block b hb') (fun b hb' => Nat.lt_of_lt_of_le hb' hb.size)
theorem nodes_le_mem {k n : Int} {s t : ByteArray} {l : List Tm} {x : Tm} (hx : x ∈ l) : x.nodes ≤ (Tm.mk k n s t l).nodes := by
  rw [Tm.nodes_mk]; exact Nat.le_succ_of_le (Tm.nodes_mem hx)
end Go.Proofs.YthbiaaeoajmlbaaGreatDoor
end
section
set_option linter.unusedVariables false
namespace Go.Proofs.YthbiaaeoajmlbaaGreatDoor
open Go.RowKit
open Go.Lib (itoa)

mutual
def txE : Tm → List UInt8
  | .mk k n s t l =>
    if k = 5 ∨ k = 7 then s.data.toList
    else if k = 6 then itoa n
    else if k = 8 then [91, 93]
    else if k = 9 then [91] ++ txSep [124] l ++ [93]
    else if k = 10 then [123] ++ txSep [44, 32] l ++ [125]
    else if k = 11 then [40] ++ txSep ([32] ++ s.data.toList ++ [32]) l ++ [41]
    else if k = 12 ∨ k = 14 then s.data.toList ++ [40] ++ txSep [44, 32] l ++ [41]
    else if k = 13 then [40] ++ txSep [32, 61, 32] l ++ [41]
    else if k = 15 then s.data.toList ++ [58] ++ t.data.toList ++ [40] ++ txSep [44, 32] l ++ [41]
    else if k = 16 then txApp l
    else if k = 17 then [102, 117, 110, 32] ++ s.data.toList ++ [58] ++ t.data.toList ++ [47] ++ itoa n
    else if k = 18 then [99, 97, 115, 101, 32] ++ txCase [32, 111, 102, 32] l ++ [32, 101, 110, 100]
    else if k = 19 then [116, 114, 121, 32] ++ txCase [32, 99, 97, 116, 99, 104, 32] l ++ [32, 101, 110, 100]
    else [114, 101, 99, 101, 105, 118, 101] ++ (if n = 1 then txRecv [32] l else [32] ++ txCls l) ++ [32, 101, 110, 100]
def txSep (sep : List UInt8) : List Tm → List UInt8
  | [] => []
  | x :: l => txE x ++ ((if l.isEmpty then [] else sep) ++ txSep sep l)
def txApp : List Tm → List UInt8
  | [] => []
  | x :: l => txE x ++ [40] ++ txSep [44, 32] l ++ [41]
def txCase (w : List UInt8) : List Tm → List UInt8
  | [] => []
  | e :: l => txE e ++ w ++ txCls l
def txCls : List Tm → List UInt8
  | [] => []
  | c :: l => txCl c ++ ((if l.isEmpty then [] else [59, 32]) ++ txCls l)
def txCl : Tm → List UInt8
  | .mk _ n _ _ l => txParts [58] [] n.toNat l
def txParts (sep close : List UInt8) : Nat → List Tm → List UInt8
  | 0, g :: l => close ++ txGuard g ++ [32, 45, 62, 32] ++ txSep [44, 32] l
  | m + 1, p :: l => txE p ++ ((if m = 0 then [] else sep) ++ txParts sep close m l)
  | _, [] => []
def txGuard : Tm → List UInt8
  | .mk _ _ _ _ l => if l.isEmpty then [] else [32, 119, 104, 101, 110, 32] ++ txSep [44, 32] l
def txRecv (sep : List UInt8) : List Tm → List UInt8
  | [] => []
  | c :: l => if l.isEmpty then [32, 97, 102, 116, 101, 114, 32] ++ txAfter c else sep ++ txCl c ++ txRecv [59, 32] l
def txAfter : Tm → List UInt8
  | .mk _ _ _ _ l => txThen l
def txThen : List Tm → List UInt8
  | [] => []
  | e :: l => txE e ++ [32, 45, 62, 32] ++ txSep [44, 32] l
end
def txFunCl (f : List UInt8) : Tm → List UInt8
  | .mk _ n _ _ l => f ++ [40] ++ txParts [44, 32] [41] n.toNat l
def txFunCls (f : List UInt8) : List Tm → List UInt8
  | [] => []
  | c :: l => txFunCl f c ++ ((if l.isEmpty then [] else [59, 10]) ++ txFunCls f l)
def txFun : Tm → List UInt8
  | .mk _ _ s _ l => txFunCls s.data.toList l ++ [46, 10]
def txMod : Tm → List UInt8
  | .mk _ _ s _ l => [109, 111, 100, 117, 108, 101, 32] ++ s.data.toList ++ [46, 10] ++ (l.map txFun).flatten
def txMods : Tm → List UInt8
  | .mk _ _ _ _ l => (l.map txMod).flatten
def textL (x : Tm) : List UInt8 := if fitsB x = true ∧ modsB x = true then txMods x else []

def addV (acc : List ByteArray) (y : Tm) : List ByteArray := if (y.k == 5 && !(y.s.data.toList == [95]) && !(acc.any fun b => b.data.toList == y.s.data.toList)) = true then acc ++ [y.s] else acc
def varsL (x : Tm) : List ByteArray := if fitsB x = true then x.pre.foldl addV [] else []

def SRow (V : World) (A : Option Addr) (L : List ByteArray) : Prop := ∀ (j : Nat) (b : ByteArray), L[j]? = some b → ∃ ad, A = some ad ∧ ad.block < V.heap.size ∧ V.cell? (ad.add j) = some (.string b)
def Szd (x : Tm) : Prop := ∀ y ∈ x.pre, y.s.size ≤ 281474976710656
def tree0 : Tm := .mk 0 0 ⟨#[]⟩ ⟨#[]⟩ [.mk 1 0 ⟨#[97]⟩ ⟨#[]⟩ [.mk 2 1 ⟨#[102]⟩ ⟨#[]⟩ [.mk 3 1 ⟨#[]⟩ ⟨#[]⟩ [.mk 5 0 ⟨#[88]⟩ ⟨#[]⟩ [], .mk 4 0 ⟨#[]⟩ ⟨#[]⟩ [.mk 11 0 ⟨#[62]⟩ ⟨#[]⟩ [.mk 5 0 ⟨#[88]⟩ ⟨#[]⟩ [], .mk 6 1 ⟨#[]⟩ ⟨#[]⟩ []]], .mk 5 0 ⟨#[88]⟩ ⟨#[]⟩ []]]]]
set_option maxRecDepth 100000 in
theorem tree0_mods : (fitsB tree0 && modsB tree0) = true := by kernel_rfl
set_option maxRecDepth 100000 in
theorem tree0_text : txMods tree0 = [109, 111, 100, 117, 108, 101, 32, 97, 46, 10, 102, 40, 88, 41, 32, 119, 104, 101, 110, 32, 40, 88, 32, 62, 32, 49, 41, 32, 45, 62, 32, 88, 46, 10] := by kernel_rfl
set_option maxRecDepth 100000 in
theorem tree0_vars : (varsL tree0).length = 1 := by kernel_rfl
theorem tree0_szd : Szd tree0 := by
  have h : (tree0.pre.all fun y => decide (y.s.size ≤ 281474976710656)) = true := by kernel_rfl
  intro y hy
  exact of_decide_eq_true (List.all_eq_true.1 h y hy)
theorem nil_check : checkR (.mk 8 0 ⟨#[]⟩ ⟨#[]⟩ []) = 70 := by kernel_rfl
end Go.Proofs.YthbiaaeoajmlbaaGreatDoor
end
section
set_option linter.unusedVariables false
namespace Go.Proofs.YthbiaaeoajmlbaaGreatDoor
open Go.RowKit

theorem row1_of {P : Nat → Prop} {w : World} {b : Nat} {T : TypeId} {c0 c1 c2 c3 c4 : Value} {x : Tm} (h : w.heap[b]? = some (.cells #[c0, c1, c2, c3, c4] T (0, 0))) (hP : P b) (hx : TmAt P w x (.agg #[c0, c1, c2, c3, c4])) : TRow P w (some ⟨b, 0, none⟩) 1 1 [x] :=
  ⟨rfl, by decide, by decide, fun j y hj => by
    match j, hj with
    | 0, hj =>
      simp at hj; subst hj
      exact ⟨_, _, rfl, hP, ⟨c0, c1, c2, c3, c4, rfl, cell_of_row (i := 0) h rfl, cell_of_row (i := 1) h rfl, cell_of_row (i := 2) h rfl, cell_of_row (i := 3) h rfl, cell_of_row (i := 4) h rfl⟩, hx⟩
    | j + 1, hj => simp at hj⟩
theorem row2_of {P : Nat → Prop} {w : World} {b : Nat} {T : TypeId} {c0 c1 c2 c3 c4 d0 d1 d2 d3 d4 : Value} {x y : Tm} (h : w.heap[b]? = some (.cells #[c0, c1, c2, c3, c4, d0, d1, d2, d3, d4] T (0, 0))) (hP : P b) (hx : TmAt P w x (.agg #[c0, c1, c2, c3, c4])) (hy : TmAt P w y (.agg #[d0, d1, d2, d3, d4])) : TRow P w (some ⟨b, 0, none⟩) 2 2 [x, y] :=
  ⟨rfl, by decide, by decide, fun j z hj => by
    match j, hj with
    | 0, hj =>
      simp at hj; subst hj
      exact ⟨_, _, rfl, hP, ⟨c0, c1, c2, c3, c4, rfl, cell_of_row (i := 0) h rfl, cell_of_row (i := 1) h rfl, cell_of_row (i := 2) h rfl, cell_of_row (i := 3) h rfl, cell_of_row (i := 4) h rfl⟩, hx⟩
    | 1, hj =>
      simp at hj; subst hj
      exact ⟨_, _, rfl, hP, ⟨d0, d1, d2, d3, d4, rfl, cell_of_row (i := 5) h rfl, cell_of_row (i := 6) h rfl, cell_of_row (i := 7) h rfl, cell_of_row (i := 8) h rfl, cell_of_row (i := 9) h rfl⟩, hy⟩
    | j + 2, hj => simp at hj⟩
theorem row3_of {P : Nat → Prop} {w : World} {b : Nat} {T : TypeId} {c0 c1 c2 c3 c4 d0 d1 d2 d3 d4 e0 e1 e2 e3 e4 : Value} {x y z : Tm} (h : w.heap[b]? = some (.cells #[c0, c1, c2, c3, c4, d0, d1, d2, d3, d4, e0, e1, e2, e3, e4] T (0, 0))) (hP : P b) (hx : TmAt P w x (.agg #[c0, c1, c2, c3, c4])) (hy : TmAt P w y (.agg #[d0, d1, d2, d3, d4])) (hz : TmAt P w z (.agg #[e0, e1, e2, e3, e4])) : TRow P w (some ⟨b, 0, none⟩) 3 3 [x, y, z] :=
  ⟨rfl, by decide, by decide, fun j u hj => by
    match j, hj with
    | 0, hj =>
      simp at hj; subst hj
      exact ⟨_, _, rfl, hP, ⟨c0, c1, c2, c3, c4, rfl, cell_of_row (i := 0) h rfl, cell_of_row (i := 1) h rfl, cell_of_row (i := 2) h rfl, cell_of_row (i := 3) h rfl, cell_of_row (i := 4) h rfl⟩, hx⟩
    | 1, hj =>
      simp at hj; subst hj
      exact ⟨_, _, rfl, hP, ⟨d0, d1, d2, d3, d4, rfl, cell_of_row (i := 5) h rfl, cell_of_row (i := 6) h rfl, cell_of_row (i := 7) h rfl, cell_of_row (i := 8) h rfl, cell_of_row (i := 9) h rfl⟩, hy⟩
    | 2, hj =>
      simp at hj; subst hj
      exact ⟨_, _, rfl, hP, ⟨e0, e1, e2, e3, e4, rfl, cell_of_row (i := 10) h rfl, cell_of_row (i := 11) h rfl, cell_of_row (i := 12) h rfl, cell_of_row (i := 13) h rfl, cell_of_row (i := 14) h rfl⟩, hz⟩
    | j + 3, hj => simp at hj⟩
theorem TmAt.leaf (P : Nat → Prop) (w : World) (k n : Int) (s : ByteArray) (hk : -128 ≤ k ∧ k ≤ 127) (hn : -9223372036854775808 ≤ n ∧ n ≤ 9223372036854775807) (hs : s.size ≤ maxLen) : TmAt P w (.mk k n s ⟨#[]⟩ []) (.agg #[.int .i8 k, .int .i64 n, .string s, .string ⟨#[]⟩, .slice none 0 0]) :=
  .of_row (.nil P w none 0) hk hn hs (by decide)

theorem here_of {W : World} {n : Nat} (o : Obj) (h : W.heap.size = n) : (W.alloc o).heap[n]? = some o ∧ (W.alloc o).heap.size = n + 1 := by subst h; exact ⟨block_alloc W o, World.size_alloc _ _⟩
theorem there_of {W : World} {n : Nat} {o' : Obj} (o : Obj) (h : W.heap[n]? = some o') : (W.alloc o).heap[n]? = some o' := (Below.heap_alloc _ _ _ (heap_lt h)).trans h
theorem set_five7 {w : World} {b : Nat} {T : TypeId} {a0 a1 a2 a3 a4 : Value} (c0 c1 c2 c3 c4 : Value) (h : w.heap[b]? = some (.cells #[a0, a1, a2, a3, a4] T (0, 0))) :
    (((((w.setCell ⟨b, 0, none⟩ c0).setCell ⟨b, 1, none⟩ c1).setCell ⟨b, 2, none⟩ c2).setCell ⟨b, 3, none⟩ c3).setCell ⟨b, 4, none⟩ c4).heap[b]? = some (.cells #[c0, c1, c2, c3, c4] T (0, 0)) ∧
    Mod (fun k => k = b) w (((((w.setCell ⟨b, 0, none⟩ c0).setCell ⟨b, 1, none⟩ c1).setCell ⟨b, 2, none⟩ c2).setCell ⟨b, 3, none⟩ c3).setCell ⟨b, 4, none⟩ c4) := by
  refine ⟨set_row c4 (i := 4) (set_row c3 (i := 3) (set_row c2 (i := 2) (set_row c1 (i := 1) (set_row c0 (i := 0) h)))), ?_⟩
  have m : ∀ (W : World) (i : Nat) (c : Value), Mod (fun k => k = b) W (W.setCell ⟨b, i, none⟩ c) := fun W i c => Mod.setCell _ _ _ (.inl rfl)
  exact ((((m _ 0 _).trans (m _ 1 _) (fun _ _ h => h)).trans (m _ 2 _) (fun _ _ h => h)).trans (m _ 3 _) (fun _ _ h => h)).trans (m _ 4 _) (fun _ _ h => h)

def fun7 (x y z : Tm) : Tm := .mk 0 0 ⟨#[]⟩ ⟨#[]⟩ [.mk 1 0 ⟨#[97]⟩ ⟨#[]⟩ [.mk 2 1 ⟨#[102]⟩ ⟨#[]⟩ [.mk 3 1 ⟨#[]⟩ ⟨#[]⟩ [x, y, z]]]]
theorem leafX (P : Nat → Prop) (w : World) : TmAt P w (.mk 5 0 ⟨#[88]⟩ ⟨#[]⟩ []) (.agg #[.int .i8 5, .int .i64 0, .string ⟨#[88]⟩, .string ⟨#[]⟩, .slice none 0 0]) := .leaf P w 5 0 ⟨#[88]⟩ (by omega) (by omega) (by decide)
def R07 (E : World → Prop) (w : World) (p : Value) (wx : World) : Prop := ∃ gB A cap, p = .pointer (some ⟨gB, 0, none⟩) ∧ wx.heap[gB]? = some (.cells #[.int .i8 0, .int .i64 0, .string ⟨#[]⟩, .string ⟨#[]⟩, .slice A 1 cap] 25 (0, 0)) ∧ TmAt (· < wx.heap.size) wx tree0 (.agg #[.int .i8 0, .int .i64 0, .string ⟨#[]⟩, .string ⟨#[]⟩, .slice A 1 cap]) ∧ Below w.heap.size w wx ∧ E wx

end Go.Proofs.YthbiaaeoajmlbaaGreatDoor
end
