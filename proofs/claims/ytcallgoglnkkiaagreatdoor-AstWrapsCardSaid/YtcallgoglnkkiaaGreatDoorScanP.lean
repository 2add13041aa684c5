/- Layer 6: a text's tokens, as plain facts on lists of bytes. -/
import Derived.Test.YtcallgoglnkkiaaGreatDoorRef02
import Derived.Test.YtcallgoglnkkiaaGreatDoorDigits
import Derived.Lib.Strings
set_option linter.unusedVariables false
namespace Go.Proofs.YtcallgoglnkkiaaGreatDoor
open Go.RowKit

/-- How many bytes ahead are blank; c: is it a remark that goes on? -/
def blk : Bool → List UInt8 → Nat
  | _, [] => 0
  | true, b :: t => if b.toNat = 10 then blk false t + 1 else blk true t + 1
  | false, b :: t => if b.toNat = 32 ∨ b.toNat = 9 ∨ b.toNat = 10 ∨ b.toNat = 13 then blk false t + 1 else if b.toNat = 37 then blk true t + 1 else 0
theorem blk_le : ∀ (c : Bool) (l : List UInt8), blk c l ≤ l.length
  | _, [] => by simp [blk]
  | true, b :: t => by have h1 := blk_le false t; have h2 := blk_le true t; simp only [blk]; split <;> simp <;> omega
  | false, b :: t => by have h1 := blk_le false t; have h2 := blk_le true t; simp only [blk]; split <;> (try split) <;> simp <;> omega
theorem drop_cons {l : List UInt8} {k : Nat} (h : k < l.length) : l.drop k = l[k] :: l.drop (k + 1) := List.drop_eq_getElem_cons h

/-- The language's words. -/
def wordList : List (List UInt8) := [[109, 111, 100, 117, 108, 101], [119, 104, 101, 110], [99, 97, 115, 101], [111, 102], [101, 110, 100], [116, 114, 121], [99, 97, 116, 99, 104], [114, 101, 99, 101, 105, 118, 101], [97, 102, 116, 101, 114], [102, 117, 110], [100, 105, 118], [114, 101, 109], [99, 111, 110, 102, 105, 103]]
def wordL (l : List UInt8) : Bool := wordList.any fun w => l == w
/-- The bytes that are marks by themselves. -/
def oneL (b : UInt8) : Bool := [60, 62, 61, 43, 45, 42, 40, 41, 91, 93, 123, 125, 44, 59, 124, 58, 47].any fun (c : Int) => (b.toNat : Int) == c
/-- How many bytes the mark ahead has; 0: none. -/
def markL (l : List UInt8) : Nat :=
  if l.take 3 = [61, 58, 61] ∨ l.take 3 = [61, 47, 61] then 3 else if l.take 2 = [45, 62] ∨ l.take 2 = [61, 60] ∨ l.take 2 = [62, 61] then 2 else
  match l with
  | [] => 0
  | b :: _ => if oneL b = true then 1 else 0
theorem markL_le (l : List UInt8) : markL l ≤ l.length := by
  unfold markL
  split
  · rename_i h
    have : (l.take 3).length = 3 := by rcases h with h | h <;> rw [h] <;> rfl
    rw [List.length_take] at this; omega
  · split
    · rename_i h
      have : (l.take 2).length = 2 := by rcases h with h | h | h <;> rw [h] <;> rfl
      rw [List.length_take] at this; omega
    · split
      · exact Nat.le_refl _
      · split <;> simp

/-- The token ahead: its kind, its number, how many bytes it has, how many of them it says; or the flaw. -/
inductive SR where
  | tok (k n : Int) (len sl : Nat)
  | bad (e : Int)
def tokL (l : List UInt8) : SR :=
  match l with
  | [] => .bad 60
  | b :: _ =>
    if isDig b = true then (if 576460752303423488 < vl l (dg l) then .bad 11 else .tok 2 (vl l (dg l)) (dg l) 0)
    else if kindN (b.toNat : Int) ≠ 0 then (if 32 < prefL l then .bad 11 else .tok (if wordL (l.take (prefL l)) = true then 3 else if kindN (b.toNat : Int) = 2 then 0 else 1) 0 (prefL l) (prefL l))
    else if b.toNat = 46 then .tok 4 0 1 0
    else if markL l = 0 then .bad 60 else .tok 3 0 (markL l) (markL l)

/-- A token. -/
structure Tk where
  k : Int
  n : Int
  s : ByteArray
  a : Int
def Tk.v (t : Tk) : Value := .agg #[.int .i8 t.k, .int .i64 t.n, .string t.s, .int .i64 t.a]
def tk0 : Tk := ⟨0, 0, ⟨#[]⟩, 0⟩
/-- What Next answers: the token, the end, the flaw, its place. -/
structure NR where
  t : Tk
  e : Int
  f : Int
  a : Int
def NR.v (r : NR) : Value := .tuple #[r.t.v, .int .i64 r.e, .agg #[.int .i64 r.f, .int .i64 r.a]]
def tokAt (s : ByteArray) (b : Nat) : NR :=
  match tokL (s.data.toList.drop b) with
  | .bad e => ⟨tk0, b, e, b⟩
  | .tok k n len sl => ⟨⟨k, n, if sl = 0 then ⟨#[]⟩ else s.extract b (b + sl), b⟩, b + len, 0, 0⟩
/-- Where the blanks from there on end. -/
def blankR (s : ByteArray) (a : Int) : Int := if a < 0 ∨ (s.size : Int) < a then a else (a.toNat + blk false (s.data.toList.drop a.toNat) : Nat)
def nextR (s : ByteArray) (a : Int) : NR :=
  if a < 0 ∨ (s.size : Int) < a then ⟨tk0, a, 60, a⟩
  else if (s.size : Int) ≤ blankR s a then ⟨tk0, s.size, 60, s.size⟩
  else tokAt s (blankR s a).toNat

/-- Parts of a text. -/
theorem size_list (s : ByteArray) : s.data.toList.length = s.size := by rw [Array.length_toList]; rfl
theorem ext_list (s : ByteArray) (a b : Nat) : (s.extract a b).data.toList = (s.data.toList.take b).drop a := by
  rw [ByteArray.data_extract, Array.toList_extract, List.extract_eq_take_drop]
  rw [List.drop_take]
theorem ext_rest (s : ByteArray) (a : Nat) : (s.extract a s.size).data.toList = s.data.toList.drop a := by
  rw [ext_list, List.take_of_length_le (by rw [size_list]; exact Nat.le_refl _)]
theorem ext_ext (s : ByteArray) (a n : Nat) (h : a + n ≤ s.size) : (s.extract a s.size).extract 0 n = s.extract a (a + n) := by
  apply ByteArray.ext
  apply Array.toList_inj.1
  rw [ext_list, ext_rest, ext_list]
  rw [List.drop_zero, List.take_drop]
theorem markL_s (s : ByteArray) (h0 : 0 < s.size) : markL s.data.toList =
    if 3 ≤ (s.size : Int) ∧ ((s.extract 0 3).toList = [61, 58, 61] ∨ (s.extract 0 3).toList = [61, 47, 61]) then 3
    else if 2 ≤ (s.size : Int) ∧ ((s.extract 0 2).toList = [45, 62] ∨ (s.extract 0 2).toList = [61, 60] ∨ (s.extract 0 2).toList = [62, 61]) then 2
    else if oneL s[0] = true then 1 else 0 := by
  have hl := size_list s
  have e3 : (s.extract 0 3).toList = s.data.toList.take 3 := by rw [Go.Lib.toList_data, ext_list, List.drop_zero]
  have e2 : (s.extract 0 2).toList = s.data.toList.take 2 := by rw [Go.Lib.toList_data, ext_list, List.drop_zero]
  rw [e3, e2]
  have hc : s.data.toList = s[0] :: s.data.toList.drop 1 := by
    have := drop_cons (l := s.data.toList) (k := 0) (by omega)
    rw [List.drop_zero] at this
    exact this
  have h3 : ∀ x y z : UInt8, s.data.toList.take 3 = [x, y, z] → 3 ≤ (s.size : Int) := fun x y z e => by
    have := congrArg List.length e
    rw [List.length_take] at this
    simp only [List.length_cons, List.length_nil] at this
    omega
  have h2 : ∀ x y : UInt8, s.data.toList.take 2 = [x, y] → 2 ≤ (s.size : Int) := fun x y e => by
    have := congrArg List.length e
    rw [List.length_take] at this
    simp only [List.length_cons, List.length_nil] at this
    omega
  unfold markL
  by_cases a : s.data.toList.take 3 = [61, 58, 61] ∨ s.data.toList.take 3 = [61, 47, 61]
  · rw [if_pos a, if_pos ⟨a.elim (h3 _ _ _) (h3 _ _ _), a⟩]
  · rw [if_neg a, if_neg (fun (e : _ ∧ _) => a e.2)]
    by_cases b : s.data.toList.take 2 = [45, 62] ∨ s.data.toList.take 2 = [61, 60] ∨ s.data.toList.take 2 = [62, 61]
    · rw [if_pos b, if_pos ⟨b.elim (h2 _ _) (fun b => b.elim (h2 _ _) (h2 _ _)), b⟩]
    · rw [if_neg b, if_neg (fun (e : _ ∧ _) => b e.2)]
      rw [hc]
end Go.Proofs.YtcallgoglnkkiaaGreatDoor
