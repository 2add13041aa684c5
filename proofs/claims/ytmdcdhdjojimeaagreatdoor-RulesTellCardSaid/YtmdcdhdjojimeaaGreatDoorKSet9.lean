/- A map from texts to nothing as a set: put, looked up, taken out. -/
import Derived.Test.YtmdcdhdjojimeaaGreatDoorKIMay
import Derived.IntWalk
import Derived.WalkKit
import Derived.Lib.Strings
import Derived.MapKept
section
set_option linter.unusedVariables false
namespace Go.Proofs.YtmdcdhdjojimeaaGreatDoor
open Go.RowKit

def letB (c : Int) : Bool := decide (kindN c ≠ 0)
theorem letB_iff (c : Int) : letB c = true ↔ ((97 ≤ c ∧ c ≤ 122) ∨ (65 ≤ c ∧ c ≤ 90) ∨ (48 ≤ c ∧ c ≤ 57) ∨ c = 95) := by
 unfold letB kindN
 rw [decide_eq_true_eq]
 split <;> (try split) <;> (try split) <;> (try split) <;> omega

theorem letter_any (c : Int) (w : World) : Calls Tryz.prog 93 #[.int .u8 c] w fun e w' => e = .returned (.bool (letB c)) ∧ w = w' := by
 go_enter Tryz.func93, Tryz.ntmps93
 go_wp2
 all_goals
  go_ret
  refine ⟨ret_bool ?_, rfl⟩
  rw [Bool.eq_iff_iff, letB_iff]
  first | (simp; done) | (simp; omega)

set_option maxHeartbeats 1000000 in
theorem rPrefix_any (s : ByteArray) (w : World) (hs : s.size ≤ maxLen) :
  Calls Tryz.prog 83 #[.string s] w fun e w' => e = .returned (.int .i64 (prefN s)) ∧ w = w' := by
 unfold maxLen at hs
 go_enter Tryz.func83, Tryz.ntmps83
 go_wp2
 go_loop [3] (fun i => ∃ k : Nat, k ≤ s.size ∧ i = .int .i64 k ∧ Hid (∀ j, j < k → kd s j ≠ 0)) (fun i => s.size - (intOf i).toNat)
 case atStart => exact ⟨0, Nat.zero_le _, rfl, fun j h => by omega⟩
 case round =>
  obtain ⟨k, hk, rfl, hd⟩ := hrel
  by_cases hlt : k < s.size
  ·have hkd := kd_at s k hlt
   cases hb : letB ((s[k]).toNat : Int)
   ·have hz : Hid (kd s k = 0) := by
     show _ = _
     unfold letB at hb
     rw [← hkd]
     simpa using hb
    clear hkd
    go_wp2_with (go_at_call 93; refine (letter_any _ _).mono ?_; rintro e w' ⟨rfl, rfl⟩)
    go_ret
    exact ⟨ret_int (by rw [prefN_eq s k hk hd.out (.inr ⟨hlt, hz.out⟩)]), rfl⟩
   ·have hz : Hid (kd s k ≠ 0) := by
     show _ ≠ _
     unfold letB at hb
     rw [← hkd]
     simpa using hb
    clear hkd
    go_wp2_with (go_at_call 93; refine (letter_any _ _).mono ?_; rintro e w' ⟨rfl, rfl⟩)
    go_round
    case rel => exact ⟨k + 1, by omega, by go_num, fun j hj => by
     by_cases e : j = k
     ·subst e; exact hz.out
     ·exact hd.out j (by omega)⟩
    case measure => simp [intOf]; omega
  ·go_wp2
   go_ret
   exact ⟨ret_int (by rw [prefN_eq s k hk hd.out (.inl (by omega))]), rfl⟩

theorem kindN2 (c : Int) : kindN c = 2 ↔ 97 ≤ c ∧ c ≤ 122 := by
 unfold kindN
 split <;> (try split) <;> (try split) <;> (try split) <;> omega
theorem kindN3 (c : Int) : kindN c = 3 ↔ (65 ≤ c ∧ c ≤ 90) ∨ c = 95 := by
 unfold kindN
 split <;> (try split) <;> (try split) <;> (try split) <;> omega

theorem nameB_iff (s : ByteArray) (k : Int) (h0 : 0 < s.size) : nameB s k = true ↔ s.size ≤ 32 ∧ kindN ((s[0]).toNat : Int) = k ∧ prefN s = s.size := by
 unfold nameB
 rw [decide_eq_true_eq, kd_at s 0 h0]
 constructor
 ·rintro ⟨_, h⟩; exact h
 ·intro h; exact ⟨h0, h⟩
theorem nameB_0 (s : ByteArray) (k : Int) (h0 : ¬ 0 < s.size) : nameB s k = false := by
 unfold nameB
 rw [decide_eq_false_iff_not]
 rintro ⟨h, _⟩
 omega

set_option maxHeartbeats 1000000 in
theorem rMay_any (s : ByteArray) (w : World) (hs : s.size ≤ maxLen) :
  Calls Tryz.prog 62 #[.string s] w fun e w' => e = .returned (.bool (nameB s 2)) ∧ w = w' := by
 have hp := prefN_le s
 by_cases h0 : 0 < s.size
 ·have hI := Lib.hid (nameB_iff s 2 h0)
  have HP := Lib.hid (rPrefix_any s w hs)
  unfold maxLen at hs
  by_cases h32 : s.size ≤ 32
  ·go_enter Tryz.func62, Tryz.ntmps62
   go_wp2_with (go_at_call 83; refine HP.out.mono ?_; rintro e w' ⟨rfl, rfl⟩)
   all_goals
    go_ret
    refine ⟨ret_bool ?_, rfl⟩
    rw [Bool.eq_iff_iff, hI.out, kindN2]
    first | (simp; done) | (simp; omega)
  ·go_enter Tryz.func62, Tryz.ntmps62
   go_wp2_with (go_at_call 83; refine HP.out.mono ?_; rintro e w' ⟨rfl, rfl⟩)
   all_goals
    go_ret
    refine ⟨ret_bool ?_, rfl⟩
    rw [Bool.eq_iff_iff, hI.out, kindN2]
    first | (simp; done) | (simp; omega)
 ·have HZ := Lib.hid (nameB_0 s 2 h0)
  go_enter Tryz.func62, Tryz.ntmps62
  go_wp2
  go_ret
  exact ⟨ret_bool HZ.out.symm, rfl⟩

end Go.Proofs.YtmdcdhdjojimeaaGreatDoor
end
section

end
section
set_option linter.unusedVariables false
namespace Go.Proofs.YtmdcdhdjojimeaaGreatDoor
open Go.RowKit

def wordList : List (List UInt8) := [[109, 111, 100, 117, 108, 101], [119, 104, 101, 110], [99, 97, 115, 101], [111, 102], [101, 110, 100], [116, 114, 121], [99, 97, 116, 99, 104], [114, 101, 99, 101, 105, 118, 101], [97, 102, 116, 101, 114], [102, 117, 110], [100, 105, 118], [114, 101, 109], [99, 111, 110, 102, 105, 103]]
def wordL (l : List UInt8) : Bool := wordList.any fun w => l == w
theorem size_list (s : ByteArray) : s.data.toList.length = s.size := by rw [Array.length_toList]; rfl
end Go.Proofs.YtmdcdhdjojimeaaGreatDoor
end
section
set_option linter.unusedVariables false
namespace Go.Proofs.YtmdcdhdjojimeaaGreatDoor
open Go.RowKit

mutual
def Tm.deep : Tm → Nat
 | .mk _ _ _ _ l => Tm.deeps l + 1
def Tm.deeps : List Tm → Nat
 | [] => 0
 | x :: l => max x.deep (Tm.deeps l)
end
theorem Tm.deep_mem : ∀ {l : List Tm} {x : Tm}, x ∈ l → x.deep ≤ Tm.deeps l
 | y :: l, x, h => by
  rw [Tm.deeps]
  rcases List.mem_cons.1 h with rfl | h
  ·exact Nat.le_max_left _ _
  ·exact Nat.le_trans (Tm.deep_mem h) (Nat.le_max_right _ _)
theorem Tm.nodes_mem : ∀ {l : List Tm} {x : Tm}, x ∈ l → x.nodes ≤ (Tm.pres l).length
 | y :: l, x, h => by
  rw [Tm.pres, List.length_append]
  rcases List.mem_cons.1 h with rfl | h
  ·exact Nat.le_add_right _ _
  ·exact Nat.le_trans (Tm.nodes_mem h) (Nat.le_add_left _ _)
theorem Tm.nodes_mk (k n : Int) (s t : ByteArray) (l : List Tm) : (Tm.mk k n s t l).nodes = (Tm.pres l).length + 1 := by unfold Tm.nodes; rw [Tm.pre, List.length_cons]
def fitsB (x : Tm) : Bool := decide (x.nodes ≤ 4096 ∧ x.deep ≤ 64)
theorem fits_mem {k n : Int} {s t : ByteArray} {l : List Tm} {x : Tm} (h : fitsB (.mk k n s t l) = true) (hx : x ∈ l) : fitsB x = true := by
 unfold fitsB at h ⊢
 have h1 := of_decide_eq_true h
 rw [Tm.nodes_mk, Tm.deep] at h1
 have h2 := Tm.deep_mem hx
 have h3 := Tm.nodes_mem hx
 exact decide_eq_true ⟨by omega, by omega⟩

def emp (s : ByteArray) : Bool := decide (s.size = 0)
def atomB (s : ByteArray) : Bool := nameB s 2 && !wordL s.data.toList
def cmpB (s : ByteArray) : Bool := [[61, 58, 61], [61, 47, 61], [60], [61, 60], [62], [62, 61]].any fun x => s.data.toList == x
def ariB (s : ByteArray) : Bool := [[43], [45], [42], [100, 105, 118], [114, 101, 109]].any fun x => s.data.toList == x
def plusB (s : ByteArray) : Bool := [[43], [45], [42]].any fun x => s.data.toList == x
def kindB (s : ByteArray) : Bool := [[105, 115, 95, 97, 116, 111, 109], [105, 115, 95, 105, 110, 116, 101, 103, 101, 114], [105, 115, 95, 112, 105, 100], [105, 115, 95, 114, 101, 102, 101, 114, 101, 110, 99, 101], [105, 115, 95, 116, 117, 112, 108, 101], [105, 115, 95, 108, 105, 115, 116], [105, 115, 95, 102, 117, 110, 99, 116, 105, 111, 110]].any fun x => s.data.toList == x
def classB (s : ByteArray) : Bool := [[101, 114, 114, 111, 114], [101, 120, 105, 116], [116, 104, 114, 111, 119]].any fun x => s.data.toList == x
theorem plus_ari {s : ByteArray} (h : plusB s = true) : ariB s = true := by
 unfold plusB at h; unfold ariB
 simp only [List.any_cons, List.any_nil, Bool.or_eq_true, Bool.or_false] at h ⊢
 rcases h with h | h | h
 ·exact .inl h
 ·exact .inr (.inl h)
 ·exact .inr (.inr (.inl h))

def leafB (k n : Int) (s t : ByteArray) (l : List Tm) : Bool :=
 l.isEmpty && emp t && ((k == 5 && n == 0 && nameB s 3) || (k == 6 && emp s && mayB n) || (k == 7 && n == 0 && atomB s) || (k == 8 && n == 0 && emp s))
mutual
def patB : Tm → Bool
 | .mk k n s t l => leafB k n s t l || ((k == 10 || (k == 9 && l.length == 2)) && n == 0 && emp s && emp t && patsB l)
def patsB : List Tm → Bool
 | [] => true
 | x :: l => patB x && patsB l
end
mutual
def guaB : Tm → Bool
 | .mk k n s t l => leafB k n s t l || (((k == 10 && emp s) || (k == 9 && emp s && l.length == 2) || (k == 11 && plusB s && l.length == 2)) && n == 0 && emp t && guasB l)
def guasB : List Tm → Bool
 | [] => true
 | x :: l => guaB x && guasB l
end
def testB : Tm → Bool
 | .mk k n s t l => ((k == 11 && cmpB s && l.length == 2) || (k == 12 && kindB s && l.length == 1)) && n == 0 && emp t && guasB l
def guardB : Tm → Bool
 | .mk k n s t l => k == 4 && n == 0 && emp s && emp t && l.all testB
def classedB : Tm → Bool
 | .mk _ _ _ _ (.mk k _ s _ _ :: _) => k == 5 || (k == 7 && classB s)
 | _ => false
def varFirst : List Tm → Bool
 | .mk k _ _ _ _ :: _ => k == 5
 | [] => false
mutual
def exprB : Tm → Bool
 | .mk k n s t l => leafB k n s t l ||
  (k == 9 && n == 0 && emp s && emp t && l.length == 2 && exprsB l) ||
  (k == 10 && n == 0 && emp s && emp t && exprsB l) ||
  (k == 11 && n == 0 && emp t && (cmpB s || ariB s) && l.length == 2 && exprsB l) ||
  (k == 13 && n == 0 && emp s && emp t && l.length == 2 && patFirst l) ||
  (k == 14 && n == 0 && emp t && atomB s && decide (l.length ≤ 8) && exprsB l) ||
  (k == 15 && n == 0 && atomB s && atomB t && decide (l.length ≤ 8) && exprsB l) ||
  (k == 16 && n == 0 && emp s && emp t && decide (l.length ≤ 9) && varFirst l && exprsB l) ||
  (k == 17 && atomB s && atomB t && decide (0 ≤ n ∧ n ≤ 8) && l.isEmpty) ||
  (k == 18 && n == 0 && emp s && emp t && decide (2 ≤ l.length) && caseB 1 l) ||
  (k == 19 && n == 0 && emp s && emp t && decide (2 ≤ l.length) && caseB 2 l && l.tail.all classedB) ||
  (k == 20 && emp s && emp t && ((n == 0 && !l.isEmpty && clsB 1 l) || (n == 1 && recvB l)))
def exprsB : List Tm → Bool
 | [] => true
 | x :: l => exprB x && exprsB l
def patFirst : List Tm → Bool
 | [] => true
 | p :: l => patB p && exprsB l
def caseB (m : Nat) : List Tm → Bool
 | [] => true
 | e :: l => exprB e && clsB m l
def clsB (m : Nat) : List Tm → Bool
 | [] => true
 | c :: l => clB m c && clsB m l
def clB (m : Nat) : Tm → Bool
 | .mk k n s t l => k == 3 && n == (m : Int) && emp s && emp t && partsB m l
def partsB : Nat → List Tm → Bool
 | 0, g :: l => guardB g && !l.isEmpty && exprsB l
 | m + 1, p :: l => patB p && partsB m l
 | _, [] => false
def recvB : List Tm → Bool
 | [] => false
 | c :: l => if l.isEmpty then afterB c else clB 1 c && recvB l
def afterB : Tm → Bool
 | .mk k n s t l => k == 21 && n == 0 && emp s && emp t && decide (2 ≤ l.length) && exprsB l
end
def funB : Tm → Bool
 | .mk k n s t l => k == 2 && emp t && atomB s && decide (0 ≤ n ∧ n ≤ 8) && !l.isEmpty && clsB n.toNat l
def modB : Tm → Bool
 | .mk k n s t l => k == 1 && n == 0 && emp t && atomB s && l.all funB
def modsB : Tm → Bool
 | .mk k n s t l => k == 0 && n == 0 && emp s && emp t && l.all modB
end Go.Proofs.YtmdcdhdjojimeaaGreatDoor
end
section
set_option linter.unusedVariables false
set_option linter.unusedSimpArgs false
namespace Go.Proofs.YtmdcdhdjojimeaaGreatDoor
open Go.RowKit

instance decMemB (s : ByteArray) (L : List ByteArray) : Decidable (s ∈ L) := decidable_of_iff ((L.any fun b => decide (b = s)) = true) (by simp [List.any_eq_true])
instance decMemK (s : ByteArray × Int) (L : List (ByteArray × Int)) : Decidable (s ∈ L) := decidable_of_iff ((L.any fun b => decide (b = s)) = true) (by simp [List.any_eq_true])
instance decMemF (s : ByteArray × ByteArray × Int) (L : List (ByteArray × ByteArray × Int)) : Decidable (s ∈ L) := decidable_of_iff ((L.any fun b => decide (b = s)) = true) (by simp [List.any_eq_true])
structure Wk where
 bound : List ByteArray
 all : List ByteArray
 fl : List (Int × Nat)

def bindW (most : Int) (st : Wk) (s : ByteArray) (p : Nat) : Wk :=
  if s ∈ st.bound then st else
  { bound := st.bound ++ [s], all := if s ∈ st.all then st.all else st.all ++ [s],
    fl := if most < ((st.bound.length + 1 : Nat) : Int) then st.fl ++ [(11, p)] else st.fl }
def patW (most : Int) (st : Wk) (p : Nat) : List Tm → Wk
 | [] => st
 | y :: l => patW most (if y.k = 5 ∧ ¬ y.s.data.toList = [95] then bindW most st y.s p else st) (p + 1) l
def backW (old new : Wk) : Wk := { new with bound := new.bound.take old.bound.length }
def toldW (st : Wk) (s : ByteArray) (p : Nat) : Wk := if s ∈ st.bound then st else { st with fl := st.fl ++ [(90, p)] }
mutual
def overW (most : Int) (st : Wk) (p : Nat) : Tm → Wk
 | .mk k n s t l =>
  if k = 5 then toldW st s p
  else if k = 13 then matchW most st (p + 1) l
  else if k = 3 then backW st (clauseW most st (p + 1) n.toNat l)
  else if k = 18 ∨ k = 21 then backW st (allW most st (p + 1) l)
  else if k = 19 then tryW most st (p + 1) l
  else allW most st (p + 1) l
def allW (most : Int) (st : Wk) (p : Nat) : List Tm → Wk
 | [] => st
 | x :: l => allW most (overW most st p x) (p + x.nodes) l
def matchW (most : Int) (st : Wk) (p : Nat) : List Tm → Wk
 | [] => st
 | a :: l => patW most (allW most st (p + a.nodes) l) p a.pre
def tryW (most : Int) (st : Wk) (p : Nat) : List Tm → Wk
 | [] => st
 | e :: l => allW most (backW st (overW most st p e)) (p + e.nodes) l
def clauseW (most : Int) (st : Wk) (p : Nat) : Nat → List Tm → Wk
 | 0, x :: l => allW most (overW most st p x) (p + x.nodes) l
 | m + 1, x :: l => clauseW most (patW most st p x.pre) (p + x.nodes) m l
 | _, [] => st
end
theorem clauseW_0 (most : Int) (st : Wk) (p : Nat) (l : List Tm) : clauseW most st p 0 l = allW most st p l := by cases l <;> simp [clauseW, allW]
def clW (most : Int) (p : Nat) (c : Tm) : Wk := overW most ⟨[], [], []⟩ p c

def clsF (p : Nat) : List Tm → List (Int × Nat)
 | [] => []
 | c :: l => (clW (32 - c.n) p c).fl ++ clsF (p + c.nodes) l
def funsF (p : Nat) : List Tm → List (Int × Nat)
 | [] => []
 | f :: l => clsF (p + 1) f.l ++ funsF (p + f.nodes) l
def modsF (p : Nat) : List Tm → List (Int × Nat)
 | [] => []
 | m :: l => funsF (p + 1) m.l ++ modsF (p + m.nodes) l
def findF (e : Int) : List (Int × Nat) → Option (Int × Nat)
 | [] => none
 | x :: l => if x.1 = e then some x else findF e l

def onceW (seen : List (ByteArray × Int)) (p : Nat) : List Tm → Option Nat
 | [] => none
 | x :: l => if (x.s, x.n) ∈ seen then some p else onceW (seen ++ [(x.s, x.n)]) (p + x.nodes) l
def onceM (p : Nat) : List Tm → Option Nat
 | [] => none
 | m :: l => match onceW [] (p + 1) m.l with
  | some q => some q
  | none => onceM (p + m.nodes) l

abbrev Fn9 := ByteArray × ByteArray × Int
def fnsM (m : Tm) : List Fn9 := m.l.map fun f => (m.s, f.s, f.n)
def fnsW : List Tm → List Fn9
 | [] => []
 | m :: l => fnsM m ++ fnsW l

def bOf (l : List UInt8) : ByteArray := ⟨l.toArray⟩
def built0 : List (List UInt8) := [[115, 101, 108, 102], [109, 97, 107, 101, 95, 114, 101, 102], [110, 111, 119]]
def built1 : List (List UInt8) := [[108, 105, 110, 107], [109, 111, 110, 105, 116, 111, 114], [101, 120, 105, 116], [101, 114, 114, 111, 114], [116, 104, 114, 111, 119], [116, 114, 97, 112, 95, 101, 120, 105, 116], [114, 101, 103, 105, 115, 116, 101, 114], [119, 104, 101, 114, 101, 105, 115], [108, 101, 110, 103, 116, 104], [104, 100], [116, 108], [116, 117, 112, 108, 101, 95, 115, 105, 122, 101], [111, 117, 116], [119, 104, 105, 99, 104, 95, 99, 104, 105, 108, 100, 114, 101, 110]]
def built2 : List (List UInt8) := [[101, 120, 105, 116], [101, 108, 101, 109, 101, 110, 116], [115, 101, 110, 100], [99, 97, 115, 116], [115, 116, 97, 114, 116, 95, 99, 104, 105, 108, 100], [116, 101, 114, 109, 105, 110, 97, 116, 101, 95, 99, 104, 105, 108, 100], [114, 101, 115, 116, 97, 114, 116, 95, 99, 104, 105, 108, 100], [100, 101, 108, 101, 116, 101, 95, 99, 104, 105, 108, 100]]
def built3 : List (List UInt8) := [[115, 112, 97, 119, 110, 95, 108, 105, 110, 107], [99, 97, 108, 108]]
def builtB (s : ByteArray) (n : Int) : Bool :=
 (n == 0 && built0.contains s.data.toList) || (n == 1 && built1.contains s.data.toList) || (n == 2 && built2.contains s.data.toList) || (n == 3 && built3.contains s.data.toList)
def thereE (F : List Fn9) (m : ByteArray) (y : Tm) : Int :=
 if y.k = 2 then (if builtB y.s y.n = true then 91 else 0)
 else if y.k = 14 then (if builtB y.s y.l.length = true ∨ (m, y.s, (y.l.length : Int)) ∈ F then 0 else 92)
 else if y.k = 15 then (if (y.s, y.t, (y.l.length : Int)) ∈ F then 0 else 92)
 else if y.k = 17 then (if (y.s, y.t, y.n) ∈ F then 0 else 92)
 else 0
def thereW (F : List Fn9) (m : ByteArray) (p : Nat) : List Tm → Option (Int × Nat)
 | [] => none
 | y :: l => if thereE F (if y.k = 1 then y.s else m) y = 0 then thereW F (if y.k = 1 then y.s else m) (p + 1) l else some (thereE F (if y.k = 1 then y.s else m) y, p)

def rules9 (x : Tm) : Option (Int × Nat) :=
 match onceW [] 1 x.l with
 | some p => some (91, p)
 | none => match onceM 1 x.l with
  | some p => some (91, p)
  | none => match findF 90 (modsF 1 x.l) with
   | some r => some r
   | none => match thereW (fnsW x.l) ⟨#[]⟩ 0 x.pre with
    | some r => some r
    | none => findF 11 (modsF 1 x.l)
def chk9 (x : Tm) : Int × Nat := if fitsB x = true ∧ modsB x = true then (rules9 x).getD (0, 0) else (70, 0)
def wrap9 (c : Tm) : Tm := .mk 0 0 ⟨#[]⟩ ⟨#[]⟩ [.mk 1 0 (bOf [109]) ⟨#[]⟩ [.mk 2 c.n (bOf [102]) ⟨#[]⟩ [c]]]
def names9 (c : Tm) : List ByteArray := if fitsB (wrap9 c) = true ∧ modsB (wrap9 c) = true then (clW (32 - c.n) 3 c).all else []
end Go.Proofs.YtmdcdhdjojimeaaGreatDoor
end
section
set_option linter.unusedVariables false
set_option linter.unusedSimpArgs false
namespace Go.Proofs.YtmdcdhdjojimeaaGreatDoor
open Go.RowKit

def Wk.lee (st : Wk) (m : Nat) : Prop := st.bound.length ≤ m ∧ st.all.length ≤ m ∧ st.fl.length ≤ m
def Fwd (st st' : Wk) : Prop := ∃ t, st'.bound = st.bound ++ t
theorem Fwd.refl (st : Wk) : Fwd st st := ⟨[], by simp⟩
theorem Fwd.trans {a b c : Wk} (h : Fwd a b) (g : Fwd b c) : Fwd a c := by
 obtain ⟨t, h⟩ := h; obtain ⟨u, g⟩ := g
 exact ⟨t ++ u, by rw [g, h, List.append_assoc]⟩
theorem Fwd.back {a b : Wk} (h : Fwd a b) : (backW a b).bound = a.bound := by
 obtain ⟨t, h⟩ := h
 show b.bound.take a.bound.length = a.bound
 rw [h, List.take_left]
theorem Fwd.len {a b : Wk} (h : Fwd a b) : a.bound.length ≤ b.bound.length := by
 obtain ⟨t, h⟩ := h; rw [h, List.length_append]; omega
theorem fwd_bind (most : Int) (st : Wk) (s : ByteArray) (p : Nat) : Fwd st (bindW most st s p) := by
 unfold bindW; split
 ·exact .refl _
 ·exact ⟨[s], rfl⟩
theorem fwd_pat (most : Int) : ∀ (L : List Tm) (st : Wk) (p : Nat), Fwd st (patW most st p L)
 | [], st, _ => by rw [patW]; exact .refl _
 | y :: L, st, p => by
  rw [patW]
  refine Fwd.trans ?_ (fwd_pat most L _ _)
  split
  ·exact fwd_bind _ _ _ _
  ·exact .refl _
theorem fwd_told (st : Wk) (s : ByteArray) (p : Nat) : Fwd st (toldW st s p) := by
 unfold toldW; split
 ·exact .refl _
 ·exact ⟨[], by simp⟩
theorem fwd_back {a b : Wk} (h : Fwd a b) : Fwd a (backW a b) := ⟨[], by rw [h.back]; simp⟩
theorem fwd_all' {most : Int} : ∀ (l : List Tm), (∀ x ∈ l, ∀ (st : Wk) (p : Nat), Fwd st (overW most st p x)) → ∀ (st : Wk) (p : Nat), Fwd st (allW most st p l)
 | [], _, st, p => by rw [allW]; exact .refl _
 | x :: l, h, st, p => by
  rw [allW]
  exact (h x (by simp) st p).trans (fwd_all' l (fun y hy => h y (by simp [hy])) _ _)
theorem fwd_clause' {most : Int} : ∀ (l : List Tm) (m : Nat), (∀ x ∈ l, ∀ (st : Wk) (p : Nat), Fwd st (overW most st p x)) → ∀ (st : Wk) (p : Nat), Fwd st (clauseW most st p m l)
 | [], m, _, st, p => by cases m <;> (rw [clauseW]; exact .refl _)
 | x :: l, 0, h, st, p => by rw [clauseW_0]; exact fwd_all' _ h _ _
 | x :: l, m + 1, h, st, p => by
  rw [clauseW]
  exact (fwd_pat _ _ _ _).trans (fwd_clause' l m (fun y hy => h y (by simp [hy])) _ _)
theorem fwd_over (most : Int) (y : Tm) : ∀ (st : Wk) (p : Nat), Fwd st (overW most st p y) := by
 induction y using Tm.ind with
 | h k n s t l ih =>
  intro st p
  rw [overW]
  split
  ·exact fwd_told _ _ _
  split
  ·cases l with
   | nil => rw [matchW]; exact .refl _
   | cons a l => rw [matchW]; exact (fwd_all' l (fun x hx => ih x (by simp [hx])) _ _).trans (fwd_pat _ _ _ _)
  split
  ·exact fwd_back (fwd_clause' l _ ih _ _)
  split
  ·exact fwd_back (fwd_all' l ih _ _)
  split
  ·cases l with
   | nil => rw [tryW]; exact .refl _
   | cons e l => rw [tryW]; exact (fwd_back (ih e (by simp) _ _)).trans (fwd_all' l (fun x hx => ih x (by simp [hx])) _ _)
  ·exact fwd_all' l ih _ _
theorem fwd_all (most : Int) (l : List Tm) (st : Wk) (p : Nat) : Fwd st (allW most st p l) := fwd_all' l (fun x _ => fwd_over most x) st p
theorem fwd_clause (most : Int) (m : Nat) (l : List Tm) (st : Wk) (p : Nat) : Fwd st (clauseW most st p m l) := fwd_clause' l m (fun x _ => fwd_over most x) st p

theorem lee_mono {st : Wk} {m n : Nat} (h : st.lee m) (hn : m ≤ n) : st.lee n := ⟨Nat.le_trans h.1 hn, Nat.le_trans h.2.1 hn, Nat.le_trans h.2.2 hn⟩
theorem lee_bind {most : Int} {st : Wk} {m : Nat} (s : ByteArray) (p : Nat) (h : st.lee m) : (bindW most st s p).lee (m + 1) := by
 unfold bindW
 split
 ·exact lee_mono h (by omega)
 ·obtain ⟨h1, h2, h3⟩ := h
  refine ⟨by simp; omega, ?_, ?_⟩
  ·dsimp only; split <;> (try simp) <;> omega
  ·dsimp only; split <;> (try simp) <;> omega
theorem lee_pat {most : Int} : ∀ (L : List Tm) {st : Wk} {m : Nat} (p : Nat), st.lee m → (patW most st p L).lee (m + L.length)
 | [], st, m, p, h => by rw [patW]; exact lee_mono h (by simp)
 | y :: L, st, m, p, h => by
  rw [patW]
  have key : (if y.k = 5 ∧ ¬ y.s.data.toList = [95] then bindW most st y.s p else st).lee (m + 1) := by
   split
   ·exact lee_bind _ _ h
   ·exact lee_mono h (by omega)
  exact lee_mono (lee_pat L (p + 1) key) (by simp; omega)
theorem lee_told {st : Wk} {m : Nat} (s : ByteArray) (p : Nat) (h : st.lee m) : (toldW st s p).lee (m + 1) := by
 unfold toldW
 split
 ·exact lee_mono h (by omega)
 ·obtain ⟨h1, h2, h3⟩ := h
  exact ⟨by dsimp only; omega, by dsimp only; omega, by simp; omega⟩
theorem lee_back {a b : Wk} {m : Nat} (h : b.lee m) : (backW a b).lee m := by
 obtain ⟨h1, h2, h3⟩ := h
 refine ⟨?_, h2, h3⟩
 show (b.bound.take _).length ≤ m
 rw [List.length_take]; omega
theorem nodes_pres_cons (x : Tm) (l : List Tm) : (Tm.pres (x :: l)).length = x.nodes + (Tm.pres l).length := by rw [Tm.pres, List.length_append]; rfl
theorem lee_all' {most : Int} : ∀ (l : List Tm), (∀ x ∈ l, ∀ (st : Wk) (p m : Nat), st.lee m → (overW most st p x).lee (m + x.nodes)) → ∀ (st : Wk) (p m : Nat), st.lee m → (allW most st p l).lee (m + (Tm.pres l).length)
 | [], _, st, p, m, h => by rw [allW]; exact lee_mono h (by omega)
 | x :: l, hx, st, p, m, h => by
  rw [allW, nodes_pres_cons]
  exact lee_mono (lee_all' l (fun y hy => hx y (by simp [hy])) _ _ _ (hx x (by simp) st p m h)) (by omega)
theorem lee_clause' {most : Int} : ∀ (l : List Tm) (i : Nat), (∀ x ∈ l, ∀ (st : Wk) (p m : Nat), st.lee m → (overW most st p x).lee (m + x.nodes)) → ∀ (st : Wk) (p m : Nat), st.lee m → (clauseW most st p i l).lee (m + (Tm.pres l).length)
 | [], i, _, st, p, m, h => by cases i <;> (rw [clauseW]; exact lee_mono h (by omega))
 | x :: l, 0, hx, st, p, m, h => by rw [clauseW_0]; exact lee_all' _ hx _ _ _ h
 | x :: l, i + 1, hx, st, p, m, h => by
  rw [clauseW, nodes_pres_cons]
  exact lee_mono (lee_clause' l i (fun y hy => hx y (by simp [hy])) _ _ _ (lee_pat x.pre p h)) (by unfold Tm.nodes; omega)
theorem nodes_mk9 (k n : Int) (s t : ByteArray) (l : List Tm) : (Tm.mk k n s t l).nodes = (Tm.pres l).length + 1 := by unfold Tm.nodes; rw [Tm.pre, List.length_cons]
theorem lee_over (most : Int) (y : Tm) : ∀ (st : Wk) (p m : Nat), st.lee m → (overW most st p y).lee (m + y.nodes) := by
 induction y using Tm.ind with
 | h k n s t l ih =>
  intro st p m h
  rw [nodes_mk9, overW]
  split
  ·exact lee_mono (lee_told s p h) (by omega)
  split
  ·cases l with
   | nil => rw [matchW]; exact lee_mono h (by omega)
   | cons a l =>
    rw [matchW, nodes_pres_cons]
    exact lee_mono (lee_pat a.pre _ (lee_all' l (fun x hx => ih x (by simp [hx])) _ _ _ h)) (by unfold Tm.nodes; omega)
  split
  ·exact lee_back (lee_mono (lee_clause' l _ ih _ _ _ h) (by omega))
  split
  ·exact lee_back (lee_mono (lee_all' l ih _ _ _ h) (by omega))
  split
  ·cases l with
   | nil => rw [tryW]; exact lee_mono h (by omega)
   | cons e l =>
    rw [tryW, nodes_pres_cons]
    exact lee_mono (lee_all' l (fun x hx => ih x (by simp [hx])) _ _ _ (lee_back (ih e (by simp) _ _ _ h))) (by omega)
  ·exact lee_mono (lee_all' l ih _ _ _ h) (by omega)
theorem lee_all (most : Int) (l : List Tm) (st : Wk) (p m : Nat) (h : st.lee m) : (allW most st p l).lee (m + (Tm.pres l).length) := lee_all' l (fun x _ => lee_over most x) st p m h
theorem lee_clause (most : Int) (i : Nat) (l : List Tm) (st : Wk) (p m : Nat) (h : st.lee m) : (clauseW most st p i l).lee (m + (Tm.pres l).length) := lee_clause' l i (fun x _ => lee_over most x) st p m h

theorem patW_append (most : Int) : ∀ (A B : List Tm) (st : Wk) (p : Nat), patW most st p (A ++ B) = patW most (patW most st p A) (p + A.length) B
 | [], B, st, p => by simp [patW]
 | y :: A, B, st, p => by
  rw [List.cons_append, patW, patW_append most A B, patW, List.length_cons]
  congr 1; omega
theorem patW_snoc {most : Int} {L : List Tm} {i : Nat} {z : Tm} (h : L[i]? = some z) (st : Wk) (p : Nat) :
  patW most st p (L.take (i + 1)) = (if z.k = 5 ∧ ¬ z.s.data.toList = [95] then bindW most (patW most st p (L.take i)) z.s (p + i) else patW most st p (L.take i)) := by
 have hi := (List.getElem?_eq_some_iff.1 h).1
 rw [List.take_add_one, h, patW_append]
 simp only [Option.toList_some, patW, List.length_take]
 rw [Nat.min_eq_left (by omega)]
theorem allW_append (most : Int) : ∀ (A B : List Tm) (st : Wk) (p : Nat), allW most st p (A ++ B) = allW most (allW most st p A) (p + (Tm.pres A).length) B
 | [], B, st, p => by simp [allW, Tm.pres]
 | y :: A, B, st, p => by
  rw [List.cons_append, allW, allW_append most A B, allW, nodes_pres_cons]
  congr 1; omega
theorem allW_snoc {most : Int} {L : List Tm} {i : Nat} {z : Tm} (h : L[i]? = some z) (st : Wk) (p : Nat) :
  allW most st p (L.take (i + 1)) = overW most (allW most st p (L.take i)) (p + (Tm.pres (L.take i)).length) z := by
 rw [List.take_add_one, h, allW_append]
 simp only [Option.toList_some, allW]
end Go.Proofs.YtmdcdhdjojimeaaGreatDoor
end
section
set_option linter.unusedVariables false
set_option linter.unusedSimpArgs false
namespace Go.Proofs.YtmdcdhdjojimeaaGreatDoor
open Go.RowKit

structure SetOf (es : Array MapEntry) (L : List ByteArray) : Prop where
 key : ∀ x ∈ es.toList, MapKept.IsKey .string x.key ∧ x.val = .agg #[]
 mem : ∀ s, (∃ x ∈ es.toList, x.key = .string s) ↔ s ∈ L
 nodup : (es.toList.map (·.key)).Nodup
theorem SetOf.nil : SetOf #[] [] := ⟨by simp, by simp, by simp⟩
theorem SetOf.ext {es : Array MapEntry} {L M : List ByteArray} (h : SetOf es L) (e : ∀ s, s ∈ L ↔ s ∈ M) : SetOf es M := ⟨h.key, fun s => (h.mem s).trans (e s), h.nodup⟩
theorem SetOf.miss {es : Array MapEntry} {L : List ByteArray} {s : ByteArray} (h : SetOf es L) (hs : s ∉ L) : Instr.findNow .string (.string s) es.toList 0 = some none := by
 have hkey : MapKept.IsKey .string (.string s) := by simp [MapKept.IsKey]
 rcases MapKept.findNow_spec hkey es.toList 0 (fun x hx => (h.key x hx).1) with ⟨h1, _⟩ | ⟨j, e, _, h2, h3⟩
 ·exact h1
 ·exact (hs ((h.mem s).1 ⟨e, List.mem_of_getElem? h2, h3⟩)).elim
theorem SetOf.hit {es : Array MapEntry} {L : List ByteArray} {s : ByteArray} (h : SetOf es L) (hs : s ∈ L) : ∃ j e, Instr.findNow .string (.string s) es.toList 0 = some (some (j, .agg #[])) ∧ es.toList[j]? = some e ∧ e.key = .string s := by
 have hkey : MapKept.IsKey .string (.string s) := by simp [MapKept.IsKey]
 rcases MapKept.findNow_spec hkey es.toList 0 (fun x hx => (h.key x hx).1) with ⟨_, h1⟩ | ⟨j, e, h1, h2, h3⟩
 ·obtain ⟨x, hx, e⟩ := (h.mem s).2 hs
  exact (h1 x hx e).elim
 ·rw [(h.key e (List.mem_of_getElem? h2)).2] at h1
  exact ⟨j, e, by simpa using h1, h2, h3⟩
theorem SetOf.push {es : Array MapEntry} {L : List ByteArray} {s : ByteArray} (h : SetOf es L) (hs : s ∉ L) (c : Nat) : SetOf (es.push ⟨.string s, .agg #[], c⟩) (L ++ [s]) := by
 refine ⟨fun x hx => ?_, fun t => ?_, ?_⟩
 ·simp only [Array.toList_push, List.mem_append, List.mem_singleton] at hx
  rcases hx with hx | rfl
  ·exact h.key x hx
  ·exact ⟨by simp [MapKept.IsKey], rfl⟩
 ·simp only [Array.toList_push, List.mem_append, List.mem_singleton]
  constructor
  ·rintro ⟨x, hx | rfl, e⟩
   ·exact .inl ((h.mem t).1 ⟨x, hx, e⟩)
   ·simp only [Value.string.injEq] at e; exact .inr e.symm
  ·rintro (ht | rfl)
   ·obtain ⟨x, hx, e⟩ := (h.mem t).2 ht; exact ⟨x, .inl hx, e⟩
   ·exact ⟨_, .inr rfl, rfl⟩
 ·simp only [Array.toList_push, List.map_append, List.map_cons, List.map_nil]
  refine List.nodup_append.2 ⟨h.nodup, by simp, ?_⟩
  intro a ha b hb
  simp only [List.mem_singleton] at hb
  subst hb
  obtain ⟨x, hx, rfl⟩ := List.mem_map.1 ha
  intro e
  exact hs ((h.mem s).1 ⟨x, hx, e⟩)
theorem SetOf.erase {es : Array MapEntry} {L : List ByteArray} {s : ByteArray} {j : Nat} {e : MapEntry} (h : SetOf es L) (hj : es.toList[j]? = some e) (he : e.key = .string s) : SetOf (es.eraseIdxIfInBounds j) (L.filter fun t => decide (t ≠ s)) := by
 have hlt : j < es.size := by have := (List.getElem?_eq_some_iff.1 hj).1; simpa using this
 have hl : (es.eraseIdxIfInBounds j).toList = es.toList.eraseIdx j := by unfold Array.eraseIdxIfInBounds; rw [dif_pos hlt]; simp
 have hsub : (es.eraseIdxIfInBounds j).toList.Sublist es.toList := by rw [hl]; exact List.eraseIdx_sublist _ _
 obtain ⟨hj1, hj2⟩ := List.getElem?_eq_some_iff.1 hj
 have hd : es.toList = es.toList.take j ++ e :: es.toList.drop (j + 1) := by
  rw [← hj2, ← List.drop_eq_getElem_cons hj1, List.take_append_drop]
 have hn := h.nodup
 rw [hd, List.map_append, List.map_cons, List.nodup_append] at hn
 obtain ⟨n1, n2, n3⟩ := hn
 rw [List.nodup_cons] at n2
 refine ⟨fun x hx => h.key x (hsub.subset hx), fun t => ?_, (hsub.map _).nodup h.nodup⟩
 rw [List.mem_filter, hl, List.eraseIdx_eq_take_drop_succ, decide_eq_true_eq]
 constructor
 ·rintro ⟨x, hx, ex⟩
  refine ⟨(h.mem t).1 ⟨x, hsub.subset (by rw [hl, List.eraseIdx_eq_take_drop_succ]; exact hx), ex⟩, ?_⟩
  rintro rfl
  rcases List.mem_append.1 hx with hx | hx
  ·exact n3 _ (List.mem_map.2 ⟨x, hx, rfl⟩) e.key (List.mem_cons_self) (ex.trans he.symm)
  ·exact n2.1 (List.mem_map.2 ⟨x, hx, ex.trans he.symm⟩)
 ·rintro ⟨ht, hts⟩
  obtain ⟨x, hx, ex⟩ := (h.mem t).2 ht
  refine ⟨x, ?_, ex⟩
  rw [hd] at hx
  rcases List.mem_append.1 hx with hx | hx
  ·exact List.mem_append.2 (.inl hx)
  ·rcases List.mem_cons.1 hx with rfl | hx
   ·exfalso; rw [he] at ex; simp only [Value.string.injEq] at ex; exact hts ex.symm
   ·exact List.mem_append.2 (.inr hx)
theorem run_delete_hit {P : Program} {t k e ty : TypeId} (ht : P.underlying t = some (.map k e)) (hk : P.underlying k = some .string) (w : World) (mb : Nat) (es : Array MapEntry) (c : Nat) (s : ByteArray) (i : Nat) (v : Value) (hb : w.heap[mb]? = some (.map es c))
  (hn : Instr.findNow .string (.string s) es.toList 0 = some (some (i, v))) :
  (Builtin.delete_ #[t, k] ty #[.map (some mb), .string s]).run P w = .ok (.tuple #[]) (w.putObj mb (.map (es.eraseIdxIfInBounds i) c)) := by
 have hkey : MapKept.IsKey .string (.string s) := by simp [MapKept.IsKey]
 simp [Builtin.delete_, run_underlying ht, MapKept.run_getObj_map hb, MapKept.run_checkKey hk hkey, MapKept.run_findKey hk hn, MapKept.run_setObj_map _ hb, Result.andThen]
 rfl
end Go.Proofs.YtmdcdhdjojimeaaGreatDoor
end
