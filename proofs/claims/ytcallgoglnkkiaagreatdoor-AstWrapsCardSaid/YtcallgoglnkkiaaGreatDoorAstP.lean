/- Layer 7: which trees may be, as plain facts on trees. -/
import Derived.Test.YtcallgoglnkkiaaGreatDoorTm
import Derived.Test.YtcallgoglnkkiaaGreatDoorAtomsPrefix
import Derived.Test.YtcallgoglnkkiaaGreatDoorIMay
import Derived.Test.YtcallgoglnkkiaaGreatDoorScanP
set_option linter.unusedVariables false
namespace Go.Proofs.YtcallgoglnkkiaaGreatDoor
open Go.RowKit

mutual
/-- How deep a tree is. -/
def Tm.deep : Tm → Nat
  | .mk _ _ _ _ l => Tm.deeps l + 1
def Tm.deeps : List Tm → Nat
  | [] => 0
  | x :: l => max x.deep (Tm.deeps l)
end
theorem Tm.deep_mem : ∀ {l : List Tm} {x : Tm}, x ∈ l → x.deep ≤ Tm.deeps l
  | y :: l, x, h => by
    rw [Tm.deeps]
    rcases List.mem_cons.1 h with rfl | h
    · exact Nat.le_max_left _ _
    · exact Nat.le_trans (Tm.deep_mem h) (Nat.le_max_right _ _)
theorem Tm.nodes_mem : ∀ {l : List Tm} {x : Tm}, x ∈ l → x.nodes ≤ (Tm.pres l).length
  | y :: l, x, h => by
    rw [Tm.pres, List.length_append]
    rcases List.mem_cons.1 h with rfl | h
    · exact Nat.le_add_right _ _
    · exact Nat.le_trans (Tm.nodes_mem h) (Nat.le_add_left _ _)
theorem Tm.nodes_mk (k n : Int) (s t : ByteArray) (l : List Tm) : (Tm.mk k n s t l).nodes = (Tm.pres l).length + 1 := by unfold Tm.nodes; rw [Tm.pre, List.length_cons]
/-- Is a tree within the limits? -/
def fitsB (x : Tm) : Bool := decide (x.nodes ≤ 4096 ∧ x.deep ≤ 64)
theorem fits_mem {k n : Int} {s t : ByteArray} {l : List Tm} {x : Tm} (h : fitsB (.mk k n s t l) = true) (hx : x ∈ l) : fitsB x = true := by
  unfold fitsB at h ⊢
  have h1 := of_decide_eq_true h
  rw [Tm.nodes_mk, Tm.deep] at h1
  have h2 := Tm.deep_mem hx
  have h3 := Tm.nodes_mem hx
  exact decide_eq_true ⟨by omega, by omega⟩

def emp (s : ByteArray) : Bool := decide (s.size = 0)
/-- An atom in a tree. -/
def atomB (s : ByteArray) : Bool := nameB s 2 && !wordL s.data.toList
def cmpB (s : ByteArray) : Bool := [[61, 58, 61], [61, 47, 61], [60], [61, 60], [62], [62, 61]].any fun x => s.data.toList == x
def ariB (s : ByteArray) : Bool := [[43], [45], [42], [100, 105, 118], [114, 101, 109]].any fun x => s.data.toList == x
def plusB (s : ByteArray) : Bool := [[43], [45], [42]].any fun x => s.data.toList == x
def kindB (s : ByteArray) : Bool := [[105, 115, 95, 97, 116, 111, 109], [105, 115, 95, 105, 110, 116, 101, 103, 101, 114], [105, 115, 95, 112, 105, 100], [105, 115, 95, 114, 101, 102, 101, 114, 101, 110, 99, 101], [105, 115, 95, 116, 117, 112, 108, 101], [105, 115, 95, 108, 105, 115, 116], [105, 115, 95, 102, 117, 110, 99, 116, 105, 111, 110]].any fun x => s.data.toList == x
def classB (s : ByteArray) : Bool := [[101, 114, 114, 111, 114], [101, 120, 105, 116], [116, 104, 114, 111, 119]].any fun x => s.data.toList == x
theorem plus_ari {s : ByteArray} (h : plusB s = true) : ariB s = true := by
  unfold plusB at h; unfold ariB
  simp only [List.any_cons, List.any_nil, Bool.or_eq_true, Bool.or_false] at h ⊢
  rcases h with h | h | h
  · exact .inl h
  · exact .inr (.inl h)
  · exact .inr (.inr (.inl h))

/-- A leaf that may be. -/
def leafB (k n : Int) (s t : ByteArray) (l : List Tm) : Bool :=
  l.isEmpty && emp t && ((k == 5 && n == 0 && nameB s 3) || (k == 6 && emp s && mayB n) || (k == 7 && n == 0 && atomB s) || (k == 8 && n == 0 && emp s))
mutual
/-- A pattern. -/
def patB : Tm → Bool
  | .mk k n s t l => leafB k n s t l || ((k == 10 || (k == 9 && l.length == 2)) && n == 0 && emp s && emp t && patsB l)
def patsB : List Tm → Bool
  | [] => true
  | x :: l => patB x && patsB l
end
mutual
/-- A guard expression. -/
def guaB : Tm → Bool
  | .mk k n s t l => leafB k n s t l || (((k == 10 && emp s) || (k == 9 && emp s && l.length == 2) || (k == 11 && plusB s && l.length == 2)) && n == 0 && emp t && guasB l)
def guasB : List Tm → Bool
  | [] => true
  | x :: l => guaB x && guasB l
end
/-- A test; a guard. -/
def testB : Tm → Bool
  | .mk k n s t l => ((k == 11 && cmpB s && l.length == 2) || (k == 12 && kindB s && l.length == 1)) && n == 0 && emp t && guasB l
def guardB : Tm → Bool
  | .mk k n s t l => k == 4 && n == 0 && emp s && emp t && l.all testB
/-- The first pattern of a clause is a class, or a name. -/
def classedB : Tm → Bool
  | .mk _ _ _ _ (.mk k _ s _ _ :: _) => k == 5 || (k == 7 && classB s)
  | _ => false
def varFirst : List Tm → Bool
  | .mk k _ _ _ _ :: _ => k == 5
  | [] => false
mutual
/-- An expression. -/
def exprB : Tm → Bool
  | .mk k n s t l => leafB k n s t l ||
    (k == 9 && n == 0 && emp s && emp t && l.length == 2 && exprsB l) ||
    (k == 10 && n == 0 && emp s && emp t && exprsB l) ||
    (k == 11 && n == 0 && emp t && (cmpB s || ariB s) && l.length == 2 && exprsB l) ||
    (k == 13 && n == 0 && emp s && emp t && l.length == 2 && patFirst l) ||
    (k == 14 && n == 0 && emp t && atomB s && decide (l.length ≤ 8) && exprsB l) ||
    (k == 15 && n == 0 && atomB s && atomB t && decide (l.length ≤ 8) && exprsB l) ||
    (k == 16 && n == 0 && emp s && emp t && decide (l.length ≤ 9) && varFirst l && exprsB l) ||
    (k == 17 && atomB s && atomB t && decide (0 ≤ n ∧ n ≤ 8) && l.isEmpty) ||
    (k == 18 && n == 0 && emp s && emp t && decide (2 ≤ l.length) && caseB 1 l) ||
    (k == 19 && n == 0 && emp s && emp t && decide (2 ≤ l.length) && caseB 2 l && l.tail.all classedB) ||
    (k == 20 && emp s && emp t && ((n == 0 && !l.isEmpty && clsB 1 l) || (n == 1 && recvB l)))
def exprsB : List Tm → Bool
  | [] => true
  | x :: l => exprB x && exprsB l
def patFirst : List Tm → Bool
  | [] => true
  | p :: l => patB p && exprsB l
def caseB (m : Nat) : List Tm → Bool
  | [] => true
  | e :: l => exprB e && clsB m l
/-- Clauses of m patterns. -/
def clsB (m : Nat) : List Tm → Bool
  | [] => true
  | c :: l => clB m c && clsB m l
def clB (m : Nat) : Tm → Bool
  | .mk k n s t l => k == 3 && n == (m : Int) && emp s && emp t && partsB m l
def partsB : Nat → List Tm → Bool
  | 0, g :: l => guardB g && !l.isEmpty && exprsB l
  | m + 1, p :: l => patB p && partsB m l
  | _, [] => false
/-- Clauses of one pattern, and a last one that is an NdAfter. -/
def recvB : List Tm → Bool
  | [] => false
  | c :: l => if l.isEmpty then afterB c else clB 1 c && recvB l
def afterB : Tm → Bool
  | .mk k n s t l => k == 21 && n == 0 && emp s && emp t && decide (2 ≤ l.length) && exprsB l
end
/-- A function; a module; modules. -/
def funB : Tm → Bool
  | .mk k n s t l => k == 2 && emp t && atomB s && decide (0 ≤ n ∧ n ≤ 8) && !l.isEmpty && clsB n.toNat l
def modB : Tm → Bool
  | .mk k n s t l => k == 1 && n == 0 && emp t && atomB s && l.all funB
def modsB : Tm → Bool
  | .mk k n s t l => k == 0 && n == 0 && emp s && emp t && l.all modB
end Go.Proofs.YtcallgoglnkkiaaGreatDoor
