/- Layer 7: the text of a tree; the names in it. -/
import Derived.Test.YtcallgoglnkkiaaGreatDoorAstC
import Derived.Lib.ItoaLen
set_option linter.unusedVariables false
namespace Go.Proofs.YtcallgoglnkkiaaGreatDoor
open Go.RowKit
open Go.Lib (itoa)

mutual
/-- The text of an expression, a pattern, a test. -/
def txE : Tm → List UInt8
  | .mk k n s t l =>
    if k = 5 ∨ k = 7 then s.data.toList
    else if k = 6 then itoa n
    else if k = 8 then [91, 93]
    else if k = 9 then [91] ++ txSep [124] l ++ [93]
    else if k = 10 then [123] ++ txSep [44, 32] l ++ [125]
    else if k = 11 then [40] ++ txSep ([32] ++ s.data.toList ++ [32]) l ++ [41]
    else if k = 12 ∨ k = 14 then s.data.toList ++ [40] ++ txSep [44, 32] l ++ [41]
    else if k = 13 then [40] ++ txSep [32, 61, 32] l ++ [41]
    else if k = 15 then s.data.toList ++ [58] ++ t.data.toList ++ [40] ++ txSep [44, 32] l ++ [41]
    else if k = 16 then txApp l
    else if k = 17 then [102, 117, 110, 32] ++ s.data.toList ++ [58] ++ t.data.toList ++ [47] ++ itoa n
    else if k = 18 then [99, 97, 115, 101, 32] ++ txCase [32, 111, 102, 32] l ++ [32, 101, 110, 100]
    else if k = 19 then [116, 114, 121, 32] ++ txCase [32, 99, 97, 116, 99, 104, 32] l ++ [32, 101, 110, 100]
    else [114, 101, 99, 101, 105, 118, 101] ++ (if n = 1 then txRecv [32] l else [32] ++ txCls l) ++ [32, 101, 110, 100]
def txSep (sep : List UInt8) : List Tm → List UInt8
  | [] => []
  | x :: l => txE x ++ ((if l.isEmpty then [] else sep) ++ txSep sep l)
def txApp : List Tm → List UInt8
  | [] => []
  | x :: l => txE x ++ [40] ++ txSep [44, 32] l ++ [41]
def txCase (w : List UInt8) : List Tm → List UInt8
  | [] => []
  | e :: l => txE e ++ w ++ txCls l
def txCls : List Tm → List UInt8
  | [] => []
  | c :: l => txCl c ++ ((if l.isEmpty then [] else [59, 32]) ++ txCls l)
def txCl : Tm → List UInt8
  | .mk _ n _ _ l => txParts [58] [] n.toNat l
/-- Patterns, the guard, the arrow, expressions. -/
def txParts (sep close : List UInt8) : Nat → List Tm → List UInt8
  | 0, g :: l => close ++ txGuard g ++ [32, 45, 62, 32] ++ txSep [44, 32] l
  | m + 1, p :: l => txE p ++ ((if m = 0 then [] else sep) ++ txParts sep close m l)
  | _, [] => []
def txGuard : Tm → List UInt8
  | .mk _ _ _ _ l => if l.isEmpty then [] else [32, 119, 104, 101, 110, 32] ++ txSep [44, 32] l
def txRecv (sep : List UInt8) : List Tm → List UInt8
  | [] => []
  | c :: l => if l.isEmpty then [32, 97, 102, 116, 101, 114, 32] ++ txAfter c else sep ++ txCl c ++ txRecv [59, 32] l
def txAfter : Tm → List UInt8
  | .mk _ _ _ _ l => txThen l
def txThen : List Tm → List UInt8
  | [] => []
  | e :: l => txE e ++ [32, 45, 62, 32] ++ txSep [44, 32] l
end
def txFunCl (f : List UInt8) : Tm → List UInt8
  | .mk _ n _ _ l => f ++ [40] ++ txParts [44, 32] [41] n.toNat l
def txFunCls (f : List UInt8) : List Tm → List UInt8
  | [] => []
  | c :: l => txFunCl f c ++ ((if l.isEmpty then [] else [59, 10]) ++ txFunCls f l)
def txFun : Tm → List UInt8
  | .mk _ _ s _ l => txFunCls s.data.toList l ++ [46, 10]
def txMod : Tm → List UInt8
  | .mk _ _ s _ l => [109, 111, 100, 117, 108, 101, 32] ++ s.data.toList ++ [46, 10] ++ (l.map txFun).flatten
def txMods : Tm → List UInt8
  | .mk _ _ _ _ l => (l.map txMod).flatten
/-- What Text answers. -/
def textL (x : Tm) : List UInt8 := if fitsB x = true ∧ modsB x = true then txMods x else []

/-- A name more, if it is a new one. -/
def addV (acc : List ByteArray) (y : Tm) : List ByteArray := if (y.k == 5 && !(y.s.data.toList == [95]) && !(acc.any fun b => b.data.toList == y.s.data.toList)) = true then acc ++ [y.s] else acc
/-- What Vars answers. -/
def varsL (x : Tm) : List ByteArray := if fitsB x = true then x.pre.foldl addV [] else []

def TextC (E : World → Prop) : Prop := ∀ (x : Tm) (v : Value) (w : World), TmAt (· < w.heap.size) w x v → x.nodes ≤ 8200 → E w →
  Calls Tryz.prog 10 #[v] w fun e w' => ∃ b : ByteArray, e = .returned (.string b) ∧ b.data.toList = textL x ∧ Below w.heap.size w w'
/-- Texts in a row. -/
def SRow (V : World) (A : Option Addr) (L : List ByteArray) : Prop := ∀ (j : Nat) (b : ByteArray), L[j]? = some b → ∃ ad, A = some ad ∧ ad.block < V.heap.size ∧ V.cell? (ad.add j) = some (.string b)
/-- No text in a tree is longer than a copy may be. -/
def Szd (x : Tm) : Prop := ∀ y ∈ x.pre, y.s.size ≤ 281474976710656
def VarsC (E : World → Prop) : Prop := ∀ (x : Tm) (v : Value) (w : World), TmAt (· < w.heap.size) w x v → x.nodes ≤ 8200 → Szd x → E w →
  Calls Tryz.prog 19 #[v] w fun e w' => ∃ A cap, e = .returned (.slice A (varsL x).length cap) ∧ SRow w' A (varsL x) ∧ Below w.heap.size w w'

def tree0 : Tm := .mk 0 0 ⟨#[]⟩ ⟨#[]⟩ [.mk 1 0 ⟨#[97]⟩ ⟨#[]⟩ [.mk 2 1 ⟨#[102]⟩ ⟨#[]⟩ [.mk 3 1 ⟨#[]⟩ ⟨#[]⟩ [.mk 5 0 ⟨#[88]⟩ ⟨#[]⟩ [], .mk 4 0 ⟨#[]⟩ ⟨#[]⟩ [.mk 11 0 ⟨#[62]⟩ ⟨#[]⟩ [.mk 5 0 ⟨#[88]⟩ ⟨#[]⟩ [], .mk 6 1 ⟨#[]⟩ ⟨#[]⟩ []]], .mk 5 0 ⟨#[88]⟩ ⟨#[]⟩ []]]]]
set_option maxRecDepth 100000 in
theorem tree0_mods : (fitsB tree0 && modsB tree0) = true := by kernel_rfl
set_option maxRecDepth 100000 in
theorem tree0_text : txMods tree0 = [109, 111, 100, 117, 108, 101, 32, 97, 46, 10, 102, 40, 88, 41, 32, 119, 104, 101, 110, 32, 40, 88, 32, 62, 32, 49, 41, 32, 45, 62, 32, 88, 46, 10] := by kernel_rfl
set_option maxRecDepth 100000 in
theorem tree0_vars : (varsL tree0).length = 1 := by kernel_rfl
theorem tree0_szd : Szd tree0 := by
  have h : (tree0.pre.all fun y => decide (y.s.size ≤ 281474976710656)) = true := by kernel_rfl
  intro y hy
  exact of_decide_eq_true (List.all_eq_true.1 h y hy)
theorem nil_check : checkR (.mk 8 0 ⟨#[]⟩ ⟨#[]⟩ []) = 70 := by kernel_rfl
end Go.Proofs.YtcallgoglnkkiaaGreatDoor
