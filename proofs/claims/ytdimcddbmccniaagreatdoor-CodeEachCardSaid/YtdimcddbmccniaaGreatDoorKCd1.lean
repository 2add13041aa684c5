/- Codes (api.Prog) as the heap holds them: instructions, functions, tables; an argument opened. -/
import Derived.Test.YtdimcddbmccniaaGreatDoorRows
import Derived.WalkKit
import Derived.RangeFuncWrites
import Derived.MapKept
import Derived.Below
import Derived.RangeFuncRecord
import Derived.ProofKit
import Derived.Deep.Slices
import Derived.Deep.Fields
import Derived.ChangeSame
import Derived.LoopTactic
import Derived.Lib.Hide
import Derived.LoopNIn
section
set_option linter.unusedVariables false
namespace Go.Proofs.YtdimcddbmccniaaGreatDoor
open Go.RowKit

structure Mod (F : Nat → Prop) (w w' : World) : Prop where
  os : w'.os = w.os
  tape : w'.tape = w.tape
  output : w'.output = w.output
  size : w.heap.size ≤ w'.heap.size
  block : ∀ k, k < w.heap.size → ¬ F k → w'.heap[k]? = w.heap[k]?

theorem Mod.refl (F : Nat → Prop) (w : World) : Mod F w w := ⟨rfl, rfl, rfl, Nat.le_refl _, fun _ _ _ => rfl⟩
theorem Mod.trans {F G : Nat → Prop} {a b c : World} (h : Mod F a b) (k : Mod G b c) (hG : ∀ i, i < a.heap.size → G i → F i) : Mod F a c :=
  ⟨k.os.trans h.os, k.tape.trans h.tape, k.output.trans h.output, Nat.le_trans h.size k.size, fun i hi hF => (k.block i (Nat.lt_of_lt_of_le hi h.size) (fun g => hF (hG i hi g))).trans (h.block i hi hF)⟩
theorem Mod.mono {F G : Nat → Prop} {w w' : World} (h : Mod F w w') (hF : ∀ i, i < w.heap.size → F i → G i) : Mod G w w' := ⟨h.os, h.tape, h.output, h.size, fun k hk hG => h.block k hk (fun f => hG (hF k hk f))⟩
theorem Mod.of_below {F : Nat → Prop} {w w' : World} (h : Below w.heap.size w w') : Mod F w w' := ⟨h.os, h.tape, h.output, h.size, fun k hk _ => h.block k hk⟩
theorem Mod.below {F : Nat → Prop} {B : Nat} {w w' : World} (h : Mod F w w') (hB : B ≤ w.heap.size) (hF : ∀ i, F i → B ≤ i) : Below B w w' :=
  ⟨h.os, h.tape, h.output, h.size, fun k hk => h.block k (Nat.lt_of_lt_of_le hk hB) (fun f => by have := hF k f; omega)⟩
theorem Mod.drew (F : Nat → Prop) (w : World) : Mod F w w.drew := ⟨rfl, rfl, rfl, Nat.le_refl _, fun _ _ _ => rfl⟩
theorem Mod.alloc (F : Nat → Prop) (w : World) (o : Obj) : Mod F w (w.alloc o) := ⟨rfl, rfl, rfl, by simp, fun k hk _ => Below.heap_alloc _ _ _ hk⟩
theorem Mod.setCell {F : Nat → Prop} (w : World) (p : Addr) (u : Value) (hp : F p.block ∨ w.heap.size ≤ p.block) : Mod F w (w.setCell p u) :=
  ⟨rfl, rfl, rfl, by simp [World.setCell], fun k hk hF => Below.heap_setCell _ _ _ _ (fun e => by subst e; rcases hp with hp | hp; exact hF hp; omega)⟩
theorem Mod.grown {F : Nat → Prop} {w w' : World} {row : Option Nat} (hg : w.grownBy w' row) (hr : ∀ k, k < w.heap.size → row = some k → F k) : Mod F w w' :=
  ⟨hg.os, hg.tape, hg.output, hg.size, fun k hk hF => hg.block k hk (fun e => hF (hr k hk e.symm))⟩
theorem Mod.putObj {F : Nat → Prop} (w : World) (l : Nat) (o : Obj) (hl : F l) : Mod F w (w.putObj l o) :=
  Mod.grown (grownBy_putObj' w l o) (fun k _ e => by cases e; exact hl)
theorem Mod.cell {F : Nat → Prop} {w w' : World} (h : Mod F w w') {p : Addr} (hp : p.block < w.heap.size) (hF : ¬ F p.block) : w'.cell? p = w.cell? p := World.cell?_of_block (w := w) (h.block p.block hp hF)
theorem Mod.row {F : Nat → Prop} {w w' : World} (h : Mod F w w') {base : Nat} {e : TypeId} {size : Nat} {v : Value} {n : Nat} {xs : List Value} (ho : w.ownsRow base e size v n xs) (hF : ∀ k, v.ownBlock = some k → ¬ F k) : w'.ownsRow base e size v n xs := by
  refine ⟨ho.1, ?_⟩
  rcases ho.2 with hn | ⟨g, cap, cur, rfl, hb, hgg, rest⟩
  · exact .inl hn
  · exact .inr ⟨g, cap, cur, rfl, hb, (h.block g (Array.getElem?_eq_some_iff.1 hgg).1 (hF g rfl)).trans hgg, rest⟩

theorem heap_lt {w : World} {k : Nat} {o : Obj} (h : w.heap[k]? = some o) : k < w.heap.size := (Array.getElem?_eq_some_iff.1 h).1

theorem cell_of_row {w : World} {b i : Nat} {cs : Array Value} {T : TypeId} {z : Nat × Nat} {v : Value} (h : w.heap[b]? = some (.cells cs T z)) (hi : cs[i]? = some v) : w.cell? ⟨b, i, none⟩ = some v := by
  simp [World.cell?, h, hi]
theorem free_of_row {w : World} {b i : Nat} {cs : Array Value} {T : TypeId} (h : w.heap[b]? = some (.cells cs T (0, 0))) : w.frozen? ⟨b, i, none⟩ = false := by
  simp [World.frozen?, h]

theorem c3 {w : World} {b : Nat} {T : TypeId} {z : Nat × Nat} {a0 a1 a2 : Value} (h : w.heap[b]? = some (.cells #[a0, a1, a2] T z)) : w.cell? ⟨b, 0, none⟩ = some a0 ∧ w.cell? ⟨b, 1, none⟩ = some a1 ∧ w.cell? ⟨b, 2, none⟩ = some a2 :=
  ⟨cell_of_row (i := 0) h rfl, cell_of_row (i := 1) h rfl, cell_of_row (i := 2) h rfl⟩
theorem c4 {w : World} {b : Nat} {T : TypeId} {z : Nat × Nat} {a0 a1 a2 a3 : Value} (h : w.heap[b]? = some (.cells #[a0, a1, a2, a3] T z)) : w.cell? ⟨b, 0, none⟩ = some a0 ∧ w.cell? ⟨b, 1, none⟩ = some a1 ∧ w.cell? ⟨b, 2, none⟩ = some a2 ∧ w.cell? ⟨b, 3, none⟩ = some a3 :=
  ⟨cell_of_row (i := 0) h rfl, cell_of_row (i := 1) h rfl, cell_of_row (i := 2) h rfl, cell_of_row (i := 3) h rfl⟩
theorem c14 {w : World} {b : Nat} {T : TypeId} {z : Nat × Nat} {a0 a1 a2 a3 a4 a5 a6 a7 a8 a9 a10 a11 a12 a13 : Value} (h : w.heap[b]? = some (.cells #[a0, a1, a2, a3, a4, a5, a6, a7, a8, a9, a10, a11, a12, a13] T z)) : w.cell? ⟨b, 0, none⟩ = some a0 ∧ w.cell? ⟨b, 1, none⟩ = some a1 ∧ w.cell? ⟨b, 2, none⟩ = some a2 ∧ w.cell? ⟨b, 3, none⟩ = some a3 ∧ w.cell? ⟨b, 4, none⟩ = some a4 ∧ w.cell? ⟨b, 5, none⟩ = some a5 ∧ w.cell? ⟨b, 6, none⟩ = some a6 ∧ w.cell? ⟨b, 7, none⟩ = some a7 ∧ w.cell? ⟨b, 8, none⟩ = some a8 ∧ w.cell? ⟨b, 9, none⟩ = some a9 ∧ w.cell? ⟨b, 10, none⟩ = some a10 ∧ w.cell? ⟨b, 11, none⟩ = some a11 ∧ w.cell? ⟨b, 12, none⟩ = some a12 ∧ w.cell? ⟨b, 13, none⟩ = some a13 :=
  ⟨cell_of_row (i := 0) h rfl, cell_of_row (i := 1) h rfl, cell_of_row (i := 2) h rfl, cell_of_row (i := 3) h rfl, cell_of_row (i := 4) h rfl, cell_of_row (i := 5) h rfl, cell_of_row (i := 6) h rfl, cell_of_row (i := 7) h rfl, cell_of_row (i := 8) h rfl, cell_of_row (i := 9) h rfl, cell_of_row (i := 10) h rfl, cell_of_row (i := 11) h rfl, cell_of_row (i := 12) h rfl, cell_of_row (i := 13) h rfl⟩
theorem five_of {w : World} {b : Nat} {T : TypeId} {z : Nat × Nat} {a0 a1 a2 a3 a4 : Value} (h : w.heap[b]? = some (.cells #[a0, a1, a2, a3, a4] T z)) : w.cell? ⟨b, 0, none⟩ = some a0 ∧ w.cell? ⟨b, 1, none⟩ = some a1 ∧ w.cell? ⟨b, 2, none⟩ = some a2 ∧ w.cell? ⟨b, 3, none⟩ = some a3 ∧ w.cell? ⟨b, 4, none⟩ = some a4 :=
  ⟨cell_of_row (i := 0) h rfl, cell_of_row (i := 1) h rfl, cell_of_row (i := 2) h rfl, cell_of_row (i := 3) h rfl, cell_of_row (i := 4) h rfl⟩
theorem five_fr {w : World} {b : Nat} {T : TypeId} {a0 a1 a2 a3 a4 : Value} (h : w.heap[b]? = some (.cells #[a0, a1, a2, a3, a4] T (0, 0))) : (w.cell? ⟨b, 0, none⟩ = some a0 ∧ w.cell? ⟨b, 1, none⟩ = some a1 ∧ w.cell? ⟨b, 2, none⟩ = some a2 ∧ w.cell? ⟨b, 3, none⟩ = some a3 ∧ w.cell? ⟨b, 4, none⟩ = some a4) ∧ w.frozen? ⟨b, 0, none⟩ = false ∧ w.frozen? ⟨b, 1, none⟩ = false ∧ w.frozen? ⟨b, 2, none⟩ = false ∧ w.frozen? ⟨b, 3, none⟩ = false ∧ w.frozen? ⟨b, 4, none⟩ = false :=
  ⟨five_of h, free_of_row h, free_of_row h, free_of_row h, free_of_row h, free_of_row h⟩
theorem sI {α : Type _} (l : List α) (i : Nat) (a : α) : l.toArray.setIfInBounds i a = (l.set i a).toArray := List.setIfInBounds_toArray l i a
theorem sZ {α : Type _} (x : α) (xs : List α) (a : α) : (x :: xs).set 0 a = a :: xs := List.set_cons_zero
theorem sS {α : Type _} (x : α) (xs : List α) (n : Nat) (a : α) : (x :: xs).set (n + 1) a = x :: xs.set n a := List.set_cons_succ

theorem set_row {w : World} {b i : Nat} {cs : Array Value} {T : TypeId} {z : Nat × Nat} (v : Value) (h : w.heap[b]? = some (.cells cs T z)) : (w.setCell ⟨b, i, none⟩ v).heap[b]? = some (.cells (cs.setIfInBounds i v) T z) := by
  obtain ⟨hlt, hk⟩ := Array.getElem?_eq_some_iff.1 h
  show (w.heap.modify b _)[b]? = _
  rw [Array.getElem?_eq_getElem (by rw [Array.size_modify]; exact hlt), Array.getElem_modify_self, hk]
  rfl

theorem run_put_new {P : Program} {t k e : TypeId} (ht : P.underlying t = some (.map k e)) (hk : P.underlying k = some .string) (w : World) (mb : Nat) (es : Array MapEntry) (c : Nat) (s : ByteArray) (v : Value) (hb : w.heap[mb]? = some (.map es c))
    (hn : Instr.findNow .string (.string s) es.toList 0 = some none) :
    (Instr.mapUpdate t (.map (some mb)) (.string s) v).run P w = .ok () (w.putObj mb (.map (es.push ⟨.string s, v, c⟩) (c + 1))) := by
  have hkey : MapKept.IsKey .string (.string s) := by simp [MapKept.IsKey]
  simp [Instr.mapUpdate, run_underlying ht, MapKept.run_getObj_map hb, MapKept.run_checkKey hk hkey, MapKept.run_findKey hk hn, MapKept.run_setObj_map _ hb, Result.andThen]
  rfl
theorem run_look_hit {P : Program} {t k e : TypeId} (ht : P.underlying t = some (.map k e)) (hk : P.underlying k = some .string) (w : World) (mb : Nat) (es : Array MapEntry) (c : Nat) (s : ByteArray) (i : Nat) (v : Value) (hb : w.heap[mb]? = some (.map es c))
    (hn : Instr.findNow .string (.string s) es.toList 0 = some (some (i, v))) :
    (Instr.lookup t (.map (some mb)) (.string s) true).run P w = .ok (.tuple #[v, .bool true]) w := by
  have hkey : MapKept.IsKey .string (.string s) := by simp [MapKept.IsKey]
  simp [Instr.lookup, run_underlying ht, MapKept.run_getObj_map hb, MapKept.run_checkKey hk hkey, MapKept.run_findKey hk hn, Result.andThen]
theorem run_look_miss {P : Program} {t k e : TypeId} (ht : P.underlying t = some (.map k e)) (hk : P.underlying k = some .string) (w : World) (mb : Nat) (es : Array MapEntry) (c : Nat) (s : ByteArray) (z : Value) (hb : w.heap[mb]? = some (.map es c))
    (hz : ∀ w, (zeroValue e).run P w = .ok z w) (hn : Instr.findNow .string (.string s) es.toList 0 = some none) :
    (Instr.lookup t (.map (some mb)) (.string s) true).run P w = .ok (.tuple #[z, .bool false]) w := by
  have hkey : MapKept.IsKey .string (.string s) := by simp [MapKept.IsKey]
  simp [Instr.lookup, run_underlying ht, MapKept.run_getObj_map hb, MapKept.run_checkKey hk hkey, MapKept.run_findKey hk hn, hz, Result.andThen]

end Go.Proofs.YtdimcddbmccniaaGreatDoor
end
section
set_option linter.unusedVariables false
namespace Go.Proofs.YtdimcddbmccniaaGreatDoor
open Go.RowKit

theorem ret_bool {a b : Bool} (h : a = b) : Ending.returned (.bool a) = .returned (.bool b) := by rw [h]
theorem ret_int {k : IntKind} {a b : Int} (h : a = b) : Ending.returned (.int k a) = .returned (.int k b) := by rw [h]
theorem ret_two {k l : IntKind} {a a' b b' : Int} (h : a = a') (h' : b = b') : Ending.returned (.tuple #[.int k a, .int l b]) = .returned (.tuple #[.int k a', .int l b']) := by rw [h, h']
theorem ret_three {k l m : IntKind} {a a' b b' c c' : Int} (h : a = a') (h' : b = b') (h'' : c = c') : Ending.returned (.tuple #[.int k a, .int l b, .int m c]) = .returned (.tuple #[.int k a', .int l b', .int m c']) := by rw [h, h', h'']
theorem add_block (a : Addr) (n : Nat) : (a.add n).block = a.block := by unfold Addr.add; split <;> rfl
theorem block_alloc (w : World) (o : Obj) : (w.alloc o).heap[w.heap.size]? = some o := World.alloc_heap_new w o
end Go.Proofs.YtdimcddbmccniaaGreatDoor
end
section
set_option linter.unusedVariables false
namespace Go.Proofs.YtdimcddbmccniaaGreatDoor
open Go.RowKit Go.ChangeShapes Go.WideShapes Go.Deep

inductive Tm where
  | mk (k n : Int) (s t : ByteArray) (l : List Tm)

namespace Tm
def k : Tm → Int | .mk k _ _ _ _ => k
def n : Tm → Int | .mk _ n _ _ _ => n
def s : Tm → ByteArray | .mk _ _ s _ _ => s
def t : Tm → ByteArray | .mk _ _ _ t _ => t
def l : Tm → List Tm | .mk _ _ _ _ l => l

theorem ind {M : Tm → Prop} (h : ∀ k n s t l, (∀ x ∈ l, M x) → M (.mk k n s t l)) (x : Tm) : M x :=
  Tm.rec (motive_1 := M) (motive_2 := fun l => ∀ x ∈ l, M x) (fun k n s t l hl => h k n s t l hl) (fun _ hx => nomatch hx)
    (fun a l ha hl x hx => by rcases List.mem_cons.1 hx with rfl | hx; exact ha; exact hl x hx) x

mutual
def pre : Tm → List Tm
  | .mk k n s t l => .mk k n s t l :: pres l
def pres : List Tm → List Tm
  | [] => []
  | x :: l => x.pre ++ pres l
end
theorem pre_ne (x : Tm) : 1 ≤ x.pre.length := by cases x; simp [pre]
theorem pres_append (a b : List Tm) : pres (a ++ b) = pres a ++ pres b := by
  induction a with
  | nil => simp [pres]
  | cons x a ih => simp [pres, ih]
theorem pres_append_cons (a b : List Tm) (y : Tm) : pres (a ++ (y :: b)) = pres a ++ (y.pre ++ pres b) := by rw [pres_append]; simp [pres]
theorem pres_snoc (a : List Tm) (x : Tm) : pres (a ++ [x]) = pres a ++ x.pre := by rw [pres_append]; simp [pres]
theorem pres_take_succ {l : List Tm} {j : Nat} {x : Tm} (h : l[j]? = some x) : pres (l.take (j + 1)) = pres (l.take j) ++ x.pre := by
  rw [List.take_add_one, h]; exact pres_snoc _ _
def nodes (x : Tm) : Nat := x.pre.length
end Tm

def ElemAt (w : World) (ad : Addr) (i : Nat) (v : Value) : Prop :=
  ∃ c0 c1 c2 c3 c4, v = .agg #[c0, c1, c2, c3, c4] ∧ w.cell? (ad.add (i * 5)) = some c0 ∧ w.cell? ⟨(ad.add (i * 5)).block, (ad.add (i * 5)).off + 1, none⟩ = some c1 ∧
    w.cell? ⟨(ad.add (i * 5)).block, (ad.add (i * 5)).off + 2, none⟩ = some c2 ∧ w.cell? ⟨(ad.add (i * 5)).block, (ad.add (i * 5)).off + 3, none⟩ = some c3 ∧ w.cell? ⟨(ad.add (i * 5)).block, (ad.add (i * 5)).off + 4, none⟩ = some c4

inductive TmAt (P : Nat → Prop) (w : World) : Tm → Value → Prop
  | mk {k n : Int} {s t : ByteArray} {l : List Tm} {A : Option Addr} {cap : Nat} (vs : Nat → Value) (hk : -128 ≤ k ∧ k ≤ 127) (hn : -9223372036854775808 ≤ n ∧ n ≤ 9223372036854775807) (hs : s.size ≤ maxLen) (ht : t.size ≤ maxLen) (hl : l.length ≤ maxLen) (hcap : l.length ≤ cap)
      (hc : ∀ j, j < l.length → ∃ ad, A = some ad ∧ P ad.block ∧ ElemAt w ad j (vs j)) (hx : ∀ j x, l[j]? = some x → TmAt P w x (vs j)) :
      TmAt P w (.mk k n s t l) (.agg #[.int .i8 k, .int .i64 n, .string s, .string t, .slice A l.length cap])

structure TRow (P : Nat → Prop) (w : World) (A : Option Addr) (n cap : Nat) (l : List Tm) : Prop where
  len : l.length = n
  max : n ≤ maxLen
  cap : n ≤ cap
  at_ : ∀ j x, l[j]? = some x → ∃ ad v, A = some ad ∧ P ad.block ∧ ElemAt w ad j v ∧ TmAt P w x v


theorem ElemAt.keep {w w' : World} {ad : Addr} {i : Nat} {v : Value} (h : ElemAt w ad i v) (hb : w'.heap[ad.block]? = w.heap[ad.block]?) : ElemAt w' ad i v := by
  obtain ⟨c0, c1, c2, c3, c4, e, h0, h1, h2, h3, h4⟩ := h
  have hbb : (ad.add (i * 5)).block = ad.block := add_block _ _
  refine ⟨c0, c1, c2, c3, c4, e, ?_, ?_, ?_, ?_, ?_⟩
  · exact (World.cell?_of_block (w := w) (a := ad.add (i * 5)) (by rw [hbb]; exact hb)).trans h0
  all_goals
    refine (World.cell?_of_block (w := w) (by show w'.heap[(ad.add (i * 5)).block]? = w.heap[(ad.add (i * 5)).block]?; rw [hbb]; exact hb)).trans ?_
    assumption

theorem TmAt.keep {P Q : Nat → Prop} {w w' : World} {x : Tm} {v : Value} (h : TmAt P w x v) (hb : ∀ b, P b → w'.heap[b]? = w.heap[b]?) (hQ : ∀ b, P b → Q b) : TmAt Q w' x v := by
  induction h with
  | mk vs hk hn hs ht hl hcap hc hx ih =>
    exact .mk vs hk hn hs ht hl hcap (fun j hj => by obtain ⟨ad, e, hp, he⟩ := hc j hj; exact ⟨ad, e, hQ _ hp, he.keep (hb _ hp)⟩) ih
theorem TmAt.mono {P Q : Nat → Prop} {w : World} {x : Tm} {v : Value} (h : TmAt P w x v) (hQ : ∀ b, P b → Q b) : TmAt Q w x v := h.keep (fun _ _ => rfl) hQ
theorem TmAt.mod {P F : Nat → Prop} {w w' : World} {x : Tm} {v : Value} (h : TmAt P w x v) (hm : Mod F w w') (hP : ∀ b, P b → b < w.heap.size ∧ ¬ F b) : TmAt P w' x v := h.keep (fun b hp => hm.block b (hP b hp).1 (hP b hp).2) (fun _ hp => hp)
theorem TmAt.under {B C : Nat} {w w' : World} {x : Tm} {v : Value} (h : TmAt (· < B) w x v) (hb : Below C w w') (hBC : B ≤ C) : TmAt (· < B) w' x v := h.keep (fun b hp => hb.block b (Nat.lt_of_lt_of_le hp hBC)) (fun _ hp => hp)

theorem TRow.keep {P Q : Nat → Prop} {w w' : World} {A : Option Addr} {n cap : Nat} {l : List Tm} (h : TRow P w A n cap l) (hb : ∀ b, P b → w'.heap[b]? = w.heap[b]?) (hQ : ∀ b, P b → Q b) : TRow Q w' A n cap l :=
  ⟨h.len, h.max, h.cap, fun j x hj => by obtain ⟨ad, v, e, hp, he, ht⟩ := h.at_ j x hj; exact ⟨ad, v, e, hQ _ hp, he.keep (hb _ hp), ht.keep hb hQ⟩⟩
theorem TRow.mono {P Q : Nat → Prop} {w : World} {A : Option Addr} {n cap : Nat} {l : List Tm} (h : TRow P w A n cap l) (hQ : ∀ b, P b → Q b) : TRow Q w A n cap l := h.keep (fun _ _ => rfl) hQ
theorem TRow.mod {P F : Nat → Prop} {w w' : World} {A : Option Addr} {n cap : Nat} {l : List Tm} (h : TRow P w A n cap l) (hm : Mod F w w') (hP : ∀ b, P b → b < w.heap.size ∧ ¬ F b) : TRow P w' A n cap l := h.keep (fun b hp => hm.block b (hP b hp).1 (hP b hp).2) (fun _ hp => hp)
theorem TRow.under {B C : Nat} {w w' : World} {A : Option Addr} {n cap : Nat} {l : List Tm} (h : TRow (· < B) w A n cap l) (hb : Below C w w') (hBC : B ≤ C) : TRow (· < B) w' A n cap l := h.keep (fun b hp => hb.block b (Nat.lt_of_lt_of_le hp hBC)) (fun _ hp => hp)

theorem TmAt.parts {P : Nat → Prop} {w : World} {k n : Int} {s t : ByteArray} {l : List Tm} {v : Value} (h : TmAt P w (.mk k n s t l) v) :
    ∃ A cap, v = .agg #[.int .i8 k, .int .i64 n, .string s, .string t, .slice A l.length cap] ∧ TRow P w A l.length cap l ∧ (-128 ≤ k ∧ k ≤ 127) ∧ (-9223372036854775808 ≤ n ∧ n ≤ 9223372036854775807) ∧ s.size ≤ maxLen ∧ t.size ≤ maxLen := by
  cases h with
  | mk vs hk hn hs ht hl hcap hc hx =>
    refine ⟨_, _, rfl, ⟨rfl, hl, hcap, fun j x hj => ?_⟩, hk, hn, hs, ht⟩
    obtain ⟨ad, e, hp, he⟩ := hc j (List.getElem?_eq_some_iff.1 hj).1
    exact ⟨ad, _, e, hp, he, hx j x hj⟩
theorem TmAt.of_row {P : Nat → Prop} {w : World} {k n : Int} {s t : ByteArray} {l : List Tm} {A : Option Addr} {cap : Nat} (h : TRow P w A l.length cap l) (hk : -128 ≤ k ∧ k ≤ 127) (hn : -9223372036854775808 ≤ n ∧ n ≤ 9223372036854775807) (hs : s.size ≤ maxLen) (ht : t.size ≤ maxLen) :
    TmAt P w (.mk k n s t l) (.agg #[.int .i8 k, .int .i64 n, .string s, .string t, .slice A l.length cap]) := by
  have key : ∀ j, ∃ v, ∀ x, l[j]? = some x → ∃ ad, A = some ad ∧ P ad.block ∧ ElemAt w ad j v ∧ TmAt P w x v := by
    intro j
    cases hj : l[j]? with
    | none => exact ⟨undef, fun x h => by cases h⟩
    | some x => obtain ⟨ad, v, h1⟩ := h.at_ j x hj; exact ⟨v, fun y hy => by cases hy; exact ⟨ad, h1⟩⟩
  exact .mk (fun j => Classical.choose (key j)) hk hn hs ht h.max h.cap
    (fun j hj => by obtain ⟨ad, e, hp, he, _⟩ := Classical.choose_spec (key j) _ (List.getElem?_eq_getElem hj); exact ⟨ad, e, hp, he⟩)
    (fun j x hj => by obtain ⟨ad, e, hp, he, ht⟩ := Classical.choose_spec (key j) x hj; exact ht)

theorem TRow.nil (P : Nat → Prop) (w : World) (A : Option Addr) (cap : Nat) : TRow P w A 0 cap [] := ⟨rfl, Nat.zero_le _, Nat.zero_le _, fun j x h => by simp at h⟩

theorem tcells_term : Tryz.prog.cellsOf 48 = 5 := by kernel_rfl
theorem tcells_row : Tryz.prog.cellsOf 46 = 1 := by kernel_rfl
theorem tcells_int : Tryz.prog.cellsOf 3 = 1 := by kernel_rfl
theorem tcells_i8 : Tryz.prog.cellsOf 22 = 1 := by kernel_rfl
theorem tcells_str : Tryz.prog.cellsOf 9 = 1 := by kernel_rfl

theorem add_next (ad : Addr) (i : Nat) : (ad.add i).add 0 = ad.add i := by simp [Addr.add]
theorem add_next' (ad : Addr) (i j : Nat) : (ad.add i).add (j + 1) = ⟨(ad.add i).block, (ad.add i).off + (j + 1), none⟩ := by simp [Addr.add]

theorem i8_wf {n : Int} (h : (Lit.int .i8 n).wf = true) : -128 ≤ n ∧ n ≤ 127 := by
  unfold Lit.wf at h; simp only [Bool.and_eq_true, decide_eq_true_eq] at h; exact h
theorem i64_wf {n : Int} (h : (Lit.int .i64 n).wf = true) : -9223372036854775808 ≤ n ∧ n ≤ 9223372036854775807 := by
  unfold Lit.wf at h; simp only [Bool.and_eq_true, decide_eq_true_eq] at h; exact h


theorem rows_choose {α : Type} {n : Nat} {p : Nat → α → Prop} (h : ∀ i, i < n → ∃ a, p i a) : ∃ l : List α, l.length = n ∧ ∀ i a, l[i]? = some a → p i a := by
  induction n with
  | zero => exact ⟨[], rfl, fun i a h => by simp at h⟩
  | succ n ih =>
    obtain ⟨l, hl, hp⟩ := ih (fun i hi => h i (by omega))
    obtain ⟨a, ha⟩ := h n (by omega)
    refine ⟨l ++ [a], by simp [hl], fun i b hb => ?_⟩
    rw [List.getElem?_append] at hb
    split at hb
    · exact hp i b hb
    · have hin : i = n := by
        have := (List.getElem?_eq_some_iff.1 hb).1
        simp at this; omega
      subst hin
      simp [hl] at hb
      subst hb
      exact ha

set_option maxRecDepth 100000 in
theorem open_row {H : Type} {enc : TypeId × Value → H} {W : World} {fuel : Nat} {v : Value} {x : DataW H × List MemPlace}
    (ih : ∀ n, n < fuel → ∀ cs x, DataW.trod enc Tryz.prog W 0 (fun _ => true) true n 48 cs = some x → ∃ t, TmAt (· < W.heap.size) W t (.agg cs.toArray))
    (h : DataW.trod enc Tryz.prog W 0 (fun _ => true) true fuel 46 [v] = some x) : ∃ A n cap l, v = .slice A n cap ∧ TRow (· < W.heap.size) W A n cap l := by
  rcases DataW.trod_slice Tryz.underlying46 h with ⟨hcs, _⟩ | ⟨a, len, cap, elems, rest, n, hfu, hcs, _, hb, hl, hm, hlen, hel, _, _⟩
  · simp at hcs
    exact ⟨none, 0, 0, [], hcs, .nil _ _ _ _⟩
  · simp at hcs
    subst hcs
    rw [tcells_term] at hel
    have each : ∀ i, i < len → ∃ t v, a.block < W.heap.size ∧ ElemAt W a i v ∧ TmAt (· < W.heap.size) W t v := by
      intro i hi
      have h1 := hel i hi
      rw [List.getElem?_eq_getElem (by omega)] at h1
      obtain ⟨cs, hc, ht⟩ := Option.bind_eq_some_iff.1 h1
      obtain ⟨t, hT⟩ := ih n (by omega) cs _ ht
      obtain ⟨_, hcl, hat⟩ := World.cells?_some hc
      match cs, hcl with
      | [c0, c1, c2, c3, c4], _ =>
        have e0 := hat 0 (by decide)
        have e1 := hat 1 (by decide)
        have e2 := hat 2 (by decide)
        have e3 := hat 3 (by decide)
        have e4 := hat 4 (by decide)
        rw [add_next] at e0
        rw [add_next'] at e1 e2 e3 e4
        refine ⟨t, _, ?_, ⟨c0, c1, c2, c3, c4, rfl, e0, e1, e2, e3, e4⟩, hT⟩
        have := World.block_lt_of_cell? W _ (e0.trans rfl)
        rwa [add_block] at this
    obtain ⟨l, hll, hlp⟩ := rows_choose (p := fun j x => ∃ v, a.block < W.heap.size ∧ ElemAt W a j v ∧ TmAt (· < W.heap.size) W x v) each
    exact ⟨some a, len, cap, l, rfl, hll, Nat.le_trans hl hm, hl, fun j x hj => by obtain ⟨v, h1, h2, h3⟩ := hlp j x hj; exact ⟨a, v, rfl, h1, h2, h3⟩⟩

set_option maxRecDepth 100000 in
theorem open_term_fuel {H : Type} {enc : TypeId × Value → H} {W : World} (fuel : Nat) : ∀ cs x, DataW.trod enc Tryz.prog W 0 (fun _ => true) true fuel 48 cs = some x → ∃ t, TmAt (· < W.heap.size) W t (.agg cs.toArray) := by
  induction fuel using Nat.strongRecOn with
  | ind fuel ih =>
    intro cs x h
    obtain ⟨xs, n, hfu, _, hlen, hxl, hf⟩ := DataW.trod_struct Tryz.underlying48 h
    rw [tcells_term] at hlen
    match cs, hlen with
    | [c0, c1, c2, c3, c4], _ =>
      have f0 : DataW.trod enc Tryz.prog W 0 (fun _ => true) true n 22 (([c0, c1, c2, c3, c4].drop 0).take (Tryz.prog.cellsOf 22)) = xs[0]? := hf 0 _ rfl
      have f1 : DataW.trod enc Tryz.prog W 0 (fun _ => true) true n 3 (([c0, c1, c2, c3, c4].drop 1).take (Tryz.prog.cellsOf 3)) = xs[1]? := hf 1 _ rfl
      have f2 : DataW.trod enc Tryz.prog W 0 (fun _ => true) true n 9 (([c0, c1, c2, c3, c4].drop 2).take (Tryz.prog.cellsOf 9)) = xs[2]? := hf 2 _ rfl
      have f3 : DataW.trod enc Tryz.prog W 0 (fun _ => true) true n 9 (([c0, c1, c2, c3, c4].drop 3).take (Tryz.prog.cellsOf 9)) = xs[3]? := hf 3 _ rfl
      have f4 : DataW.trod enc Tryz.prog W 0 (fun _ => true) true n 46 (([c0, c1, c2, c3, c4].drop 4).take (Tryz.prog.cellsOf 46)) = xs[4]? := hf 4 _ rfl
      rw [tcells_i8] at f0
      rw [tcells_int] at f1
      rw [tcells_str] at f2 f3
      rw [tcells_row] at f4
      match xs, hxl with
      | [y0, y1, y2, y3, y4], _ =>
        simp at f0 f1 f2 f3 f4
        obtain ⟨k, e0, _, hk⟩ := DataW.trod_int Tryz.underlying22 f0
        obtain ⟨m, e1, _, hm⟩ := DataW.trod_int Tryz.underlying3 f1
        obtain ⟨s, e2, _, hs⟩ := DataW.trod_string Tryz.underlying9 f2
        obtain ⟨t, e3, _, ht⟩ := DataW.trod_string Tryz.underlying9 f3
        obtain ⟨A, len, cap, l, rfl, hr⟩ := open_row (fun n' hn' => ih n' (by omega)) f4
        simp at e0 e1 e2 e3
        subst e0 e1 e2 e3
        obtain rfl := hr.len
        exact ⟨.mk k m s t l, .of_row hr (i8_wf hk) (i64_wf hm) hs ht⟩

end Go.Proofs.YtdimcddbmccniaaGreatDoor
end
section
set_option linter.unusedVariables false
namespace Go.Proofs.YtdimcddbmccniaaGreatDoor
open Go.RowKit Go.ChangeShapes Go.WideShapes Go.Deep

theorem tcells_node : Tryz.prog.cellsOf 25 = 5 := by kernel_rfl
theorem tcells_nrow : Tryz.prog.cellsOf 23 = 1 := by kernel_rfl
set_option maxRecDepth 100000 in
theorem open_nrow {H : Type} {enc : TypeId × Value → H} {W : World} {fuel : Nat} {v : Value} {x : DataW H × List MemPlace}
    (ih : ∀ n, n < fuel → ∀ cs x, DataW.trod enc Tryz.prog W 0 (fun _ => true) true n 25 cs = some x → ∃ t, TmAt (· < W.heap.size) W t (.agg cs.toArray))
    (h : DataW.trod enc Tryz.prog W 0 (fun _ => true) true fuel 23 [v] = some x) : ∃ A n cap l, v = .slice A n cap ∧ TRow (· < W.heap.size) W A n cap l := by
  rcases DataW.trod_slice Tryz.underlying23 h with ⟨hcs, _⟩ | ⟨a, len, cap, elems, rest, n, hfu, hcs, _, hb, hl, hm, hlen, hel, _, _⟩
  · simp at hcs
    exact ⟨none, 0, 0, [], hcs, .nil _ _ _ _⟩
  · simp at hcs
    subst hcs
    rw [tcells_node] at hel
    have each : ∀ i, i < len → ∃ t v, a.block < W.heap.size ∧ ElemAt W a i v ∧ TmAt (· < W.heap.size) W t v := by
      intro i hi
      have h1 := hel i hi
      rw [List.getElem?_eq_getElem (by omega)] at h1
      obtain ⟨cs, hc, ht⟩ := Option.bind_eq_some_iff.1 h1
      obtain ⟨t, hT⟩ := ih n (by omega) cs _ ht
      obtain ⟨_, hcl, hat⟩ := World.cells?_some hc
      match cs, hcl with
      | [c0, c1, c2, c3, c4], _ =>
        have e0 := hat 0 (by decide)
        have e1 := hat 1 (by decide)
        have e2 := hat 2 (by decide)
        have e3 := hat 3 (by decide)
        have e4 := hat 4 (by decide)
        rw [add_next] at e0
        rw [add_next'] at e1 e2 e3 e4
        refine ⟨t, _, ?_, ⟨c0, c1, c2, c3, c4, rfl, e0, e1, e2, e3, e4⟩, hT⟩
        have := World.block_lt_of_cell? W _ (e0.trans rfl)
        rwa [add_block] at this
    obtain ⟨l, hll, hlp⟩ := rows_choose (p := fun j x => ∃ v, a.block < W.heap.size ∧ ElemAt W a j v ∧ TmAt (· < W.heap.size) W x v) each
    exact ⟨some a, len, cap, l, rfl, hll, Nat.le_trans hl hm, hl, fun j x hj => by obtain ⟨v, h1, h2, h3⟩ := hlp j x hj; exact ⟨a, v, rfl, h1, h2, h3⟩⟩

set_option maxRecDepth 100000 in
theorem open_node_fuel {H : Type} {enc : TypeId × Value → H} {W : World} (fuel : Nat) : ∀ cs x, DataW.trod enc Tryz.prog W 0 (fun _ => true) true fuel 25 cs = some x → ∃ t, TmAt (· < W.heap.size) W t (.agg cs.toArray) := by
  induction fuel using Nat.strongRecOn with
  | ind fuel ih =>
    intro cs x h
    obtain ⟨xs, n, hfu, _, hlen, hxl, hf⟩ := DataW.trod_struct Tryz.underlying25 h
    rw [tcells_node] at hlen
    match cs, hlen with
    | [c0, c1, c2, c3, c4], _ =>
      have f0 : DataW.trod enc Tryz.prog W 0 (fun _ => true) true n 22 (([c0, c1, c2, c3, c4].drop 0).take (Tryz.prog.cellsOf 22)) = xs[0]? := hf 0 _ rfl
      have f1 : DataW.trod enc Tryz.prog W 0 (fun _ => true) true n 3 (([c0, c1, c2, c3, c4].drop 1).take (Tryz.prog.cellsOf 3)) = xs[1]? := hf 1 _ rfl
      have f2 : DataW.trod enc Tryz.prog W 0 (fun _ => true) true n 9 (([c0, c1, c2, c3, c4].drop 2).take (Tryz.prog.cellsOf 9)) = xs[2]? := hf 2 _ rfl
      have f3 : DataW.trod enc Tryz.prog W 0 (fun _ => true) true n 9 (([c0, c1, c2, c3, c4].drop 3).take (Tryz.prog.cellsOf 9)) = xs[3]? := hf 3 _ rfl
      have f4 : DataW.trod enc Tryz.prog W 0 (fun _ => true) true n 23 (([c0, c1, c2, c3, c4].drop 4).take (Tryz.prog.cellsOf 23)) = xs[4]? := hf 4 _ rfl
      rw [tcells_i8] at f0
      rw [tcells_int] at f1
      rw [tcells_str] at f2 f3
      rw [tcells_nrow] at f4
      match xs, hxl with
      | [y0, y1, y2, y3, y4], _ =>
        simp at f0 f1 f2 f3 f4
        obtain ⟨k, e0, _, hk⟩ := DataW.trod_int Tryz.underlying22 f0
        obtain ⟨m, e1, _, hm⟩ := DataW.trod_int Tryz.underlying3 f1
        obtain ⟨s, e2, _, hs⟩ := DataW.trod_string Tryz.underlying9 f2
        obtain ⟨t, e3, _, ht⟩ := DataW.trod_string Tryz.underlying9 f3
        obtain ⟨A, len, cap, l, rfl, hr⟩ := open_nrow (fun n' hn' => ih n' (by omega)) f4
        simp at e0 e1 e2 e3
        subst e0 e1 e2 e3
        obtain rfl := hr.len
        exact ⟨.mk k m s t l, .of_row hr (i8_wf hk) (i64_wf hm) hs ht⟩

set_option maxHeartbeats 1000000 in
set_option maxRecDepth 100000 in
theorem rnodes_any (x : Tm) : ∀ (v : Value) (most : Nat) (w : World), TmAt (· < w.heap.size) w x v → 1 ≤ most → most ≤ 1000000 →
    Calls Tryz.prog 24 #[v, .int .i64 most] w fun e w' => e = .returned (.int .i64 (min x.nodes most : Nat)) ∧ Below w.heap.size w w' := by
  induction x using Tm.ind with
  | h k n s t l ih =>
    intro v most w hT h1 hmost
    obtain ⟨A, cap, rfl, hR, hk, hn, hs, ht⟩ := hT.parts
    have hlen := hR.max
    unfold maxLen at hlen
    have HR := Lib.hid hR
    have HIH := Lib.hid ih
    clear hR ih hT
    obtain ⟨w1, hw1⟩ : ∃ w1, w1 = w.alloc (.cells #[.int .i8 k, .int .i64 n, .string s, .string t, .slice A l.length cap] 25) := ⟨_, rfl⟩
    have hB1 : Below w.heap.size w w1 := by rw [hw1]; exact (Below.refl _ w).alloc (Nat.le_refl _) _
    have hs1 : w1.heap.size = w.heap.size + 1 := by rw [hw1]; simp
    have hbox : w1.heap[w.heap.size]? = some (.cells #[.int .i8 k, .int .i64 n, .string s, .string t, .slice A l.length cap] 25) := by rw [hw1]; exact block_alloc _ _
    have HB1 := Lib.hid hB1
    have HS1 := Lib.hid hs1
    clear hB1 hs1
    go_enter Tryz.func24, Tryz.ntmps24
    go_wp2_with fail
    rw [← hw1]
    clear hw1
    have HX := Lib.hid hbox
    clear hbox
    go_loopw [5, 6] (fun r i wr => ∃ j : Nat, j ≤ l.length ∧ i = .int .i64 j ∧ (∃ q : Nat, r = .int .i64 q ∧ q = min (1 + (Tm.pres (l.take j)).length) most) ∧ Below w1.heap.size w1 wr) (fun _ i _ => l.length - (intOf i).toNat)
    case atStart => exact ⟨0, Nat.zero_le _, rfl, ⟨1, rfl, by simp [Tm.pres]; omega⟩, Below.refl _ _⟩
    case round =>
      obtain ⟨j, hj, rfl, ⟨q, rfl, hq⟩, hB⟩ := hrel
      have hbw : wr.heap[w.heap.size]? = _ := (hB.block w.heap.size (by rw [HS1.out]; omega)).trans HX.out
      have hc4 : wr.cell? ⟨w.heap.size, 4, none⟩ = some (.slice A l.length cap) := cell_of_row hbw rfl
      have hq1 : 1 ≤ q := by omega
      have hq2 : q ≤ most := by omega
      have HQ := Lib.hid hq
      have HB := Lib.hid hB
      clear hq hB hbw
      by_cases hlt : j < l.length
      · by_cases hm : q < most
        · obtain ⟨y, hy⟩ : ∃ y, l[j]? = some y := ⟨l[j], List.getElem?_eq_getElem hlt⟩
          obtain ⟨ad, u, rfl, had, hE, hTy⟩ := HR.out.at_ j y hy
          have hEr : ElemAt wr ad j u := hE.keep ((HB.out.block ad.block (by rw [HS1.out]; omega)).trans (HB1.out.block ad.block had))
          have hTr : TmAt (· < wr.heap.size) wr y u := hTy.keep (fun b hb => (HB.out.block b (by rw [HS1.out]; omega)).trans (HB1.out.block b hb)) (fun b hb => by have := HB1.out.size; have := HB.out.size; omega)
          obtain ⟨c0, c1, c2, c3, c4, rfl, e0, e1, e2, e3, e4⟩ := hEr
          have hmem := List.mem_of_getElem? hy
          have hpy := Tm.pre_ne y
          have HY := Lib.hid hy
          clear hE hTy hy
          go_wp2_with fail
          have he : (most : Int) - q = ((most - q : Nat) : Int) := by omega
          rw [he]
          refine (HIH.out y hmem _ (most - q) _ hTr (by omega) (by omega)).mono ?_
          rintro e w2 ⟨rfl, b2⟩
          have hr : q + min y.nodes (most - q) = min (1 + (Tm.pres (l.take (j + 1))).length) most := by
            rw [Tm.pres_take_succ HY.out, List.length_append]
            have := HQ.out
            unfold Tm.nodes
            omega
          have HRR := Lib.hid hr
          have hle : min y.nodes (most - q) ≤ 1000000 := by omega
          clear hr he
          generalize min y.nodes (most - q) = z at HRR hle ⊢
          go_wp2_with fail
          go_roundw
          case rel => exact ⟨j + 1, by omega, by go_num, ⟨q + z, by go_num, HRR.out⟩, HB.out.trans (b2.mono HB.out.size)⟩
          case measure => simp [intOf]; omega
        · go_wp2_with fail
          go_ret
          refine ⟨ret_int ?_, HB1.out.trans (HB.out.mono (by rw [HS1.out]; omega))⟩
          have h := HQ.out
          have : (Tm.pres (l.take j)).length ≤ (Tm.pres l).length := by
            rw [show Tm.pres l = Tm.pres (l.take j) ++ Tm.pres (l.drop j) by rw [← Tm.pres_append, List.take_append_drop]]
            simp
          unfold Tm.nodes Tm.pre
          simp only [List.length_cons]
          omega
      · obtain rfl : j = l.length := by omega
        go_wp2_with fail
        go_ret
        refine ⟨ret_int ?_, HB1.out.trans (HB.out.mono (by rw [HS1.out]; omega))⟩
        have h := HQ.out
        rw [List.take_length] at h
        unfold Tm.nodes Tm.pre
        simp only [List.length_cons]
        omega

def NoThenN (p : Prop) (w : World) (e : Ending) (w' : World) : Prop := ∃ b : Bool, e = .returned (.bool b) ∧ (b = false → p) ∧ Below w.heap.size w w'
theorem GreatN_any (x : Tm) (v : Value) (w : World) (hT : TmAt (· < w.heap.size) w x v) : Calls Tryz.prog 5 #[v] w (NoThenN (x.nodes < 8192) w) := by
  obtain ⟨c, rfl⟩ : ∃ c, v = .agg c := by cases hT; exact ⟨_, rfl⟩
  have hT2 : TmAt (· < (w.alloc (.cells c 25)).heap.size) (w.alloc (.cells c 25)) x (.agg c) := hT.keep (fun b hb => Below.heap_alloc _ _ _ hb) (fun b hb => by simp; omega)
  cases hT with
  | mk vs hk hn hs ht hl hcap hc hx =>
    have HC := Lib.hid (rnodes_any _ _ 8192 _ hT2 (by decide) (by decide))
    clear hT2 hc hx hl hcap
    unfold maxLen at hs ht
    go_enter Tryz.func5, Tryz.ntmps5
    go_wp2_with fail
    refine HC.out.mono ?_
    rintro e w1 ⟨rfl, b1⟩
    go_wp2_with fail
    go_ret
    refine ⟨_, rfl, fun h => ?_, ((Below.refl _ w).alloc (Nat.le_refl _) _).trans (b1.mono (by simp))⟩
    have := of_decide_eq_false h
    omega

end Go.Proofs.YtdimcddbmccniaaGreatDoor
end
section
set_option linter.unusedVariables false
namespace Go.Proofs.YtdimcddbmccniaaGreatDoor
open Go.RowKit Go.ChangeShapes Go.WideShapes Go.Deep

structure Cd where
  op : Int
  a : Int
  b : Int
  t : Tm
  p : Tm
  l : List Tm
structure Fn13 where
  s : ByteArray
  t : ByteArray
  n : Int
  at_ : Int
  slots : Int
structure Pg where
  fns : List Fn13
  ops : List Cd
  tab : List (List Int)

def CElem (w : World) (ad : Addr) (i : Nat) (v : Value) : Prop :=
  ∃ c0 c1 c2 c3 c4 c5 c6 c7 c8 c9 c10 c11 c12 c13, v = .agg #[c0, c1, c2, c3, c4, c5, c6, c7, c8, c9, c10, c11, c12, c13] ∧ w.cell? (ad.add (i * 14)) = some c0 ∧
    w.cell? ⟨(ad.add (i * 14)).block, (ad.add (i * 14)).off + 1, none⟩ = some c1 ∧
    w.cell? ⟨(ad.add (i * 14)).block, (ad.add (i * 14)).off + 2, none⟩ = some c2 ∧
    w.cell? ⟨(ad.add (i * 14)).block, (ad.add (i * 14)).off + 3, none⟩ = some c3 ∧
    w.cell? ⟨(ad.add (i * 14)).block, (ad.add (i * 14)).off + 4, none⟩ = some c4 ∧
    w.cell? ⟨(ad.add (i * 14)).block, (ad.add (i * 14)).off + 5, none⟩ = some c5 ∧
    w.cell? ⟨(ad.add (i * 14)).block, (ad.add (i * 14)).off + 6, none⟩ = some c6 ∧
    w.cell? ⟨(ad.add (i * 14)).block, (ad.add (i * 14)).off + 7, none⟩ = some c7 ∧
    w.cell? ⟨(ad.add (i * 14)).block, (ad.add (i * 14)).off + 8, none⟩ = some c8 ∧
    w.cell? ⟨(ad.add (i * 14)).block, (ad.add (i * 14)).off + 9, none⟩ = some c9 ∧
    w.cell? ⟨(ad.add (i * 14)).block, (ad.add (i * 14)).off + 10, none⟩ = some c10 ∧
    w.cell? ⟨(ad.add (i * 14)).block, (ad.add (i * 14)).off + 11, none⟩ = some c11 ∧
    w.cell? ⟨(ad.add (i * 14)).block, (ad.add (i * 14)).off + 12, none⟩ = some c12 ∧
    w.cell? ⟨(ad.add (i * 14)).block, (ad.add (i * 14)).off + 13, none⟩ = some c13
theorem CElem.keep {w w' : World} {ad : Addr} {i : Nat} {v : Value} (h : CElem w ad i v) (hb : w'.heap[ad.block]? = w.heap[ad.block]?) : CElem w' ad i v := by
  obtain ⟨c0, c1, c2, c3, c4, c5, c6, c7, c8, c9, c10, c11, c12, c13, e, h0, h1, h2, h3, h4, h5, h6, h7, h8, h9, h10, h11, h12, h13⟩ := h
  have hbb : (ad.add (i * 14)).block = ad.block := add_block _ _
  refine ⟨c0, c1, c2, c3, c4, c5, c6, c7, c8, c9, c10, c11, c12, c13, e, ?_, ?_, ?_, ?_, ?_, ?_, ?_, ?_, ?_, ?_, ?_, ?_, ?_, ?_⟩
  · exact (World.cell?_of_block (w := w) (a := ad.add (i * 14)) (by rw [hbb]; exact hb)).trans h0
  all_goals
    refine (World.cell?_of_block (w := w) (by show w'.heap[(ad.add (i * 14)).block]? = w.heap[(ad.add (i * 14)).block]?; rw [hbb]; exact hb)).trans ?_
    assumption
inductive CdAt (P : Nat → Prop) (w : World) : Cd → Value → Prop
  | mk {op a b : Int} {t p : Tm} {l : List Tm} {t0 t1 t2 t3 t4 p0 p1 p2 p3 p4 : Value} {A : Option Addr} {cap : Nat}
      (hop : -128 ≤ op ∧ op ≤ 127) (ha : -9223372036854775808 ≤ a ∧ a ≤ 9223372036854775807) (hb : -9223372036854775808 ≤ b ∧ b ≤ 9223372036854775807)
      (ht : TmAt P w t (.agg #[t0, t1, t2, t3, t4])) (hp : TmAt P w p (.agg #[p0, p1, p2, p3, p4])) (hl : TRow P w A l.length cap l) :
      CdAt P w ⟨op, a, b, t, p, l⟩ (.agg #[.int .i8 op, .int .i64 a, .int .i64 b, t0, t1, t2, t3, t4, p0, p1, p2, p3, p4, .slice A l.length cap])
theorem CdAt.keep {P Q : Nat → Prop} {w w' : World} {c : Cd} {v : Value} (h : CdAt P w c v) (hb : ∀ b, P b → w'.heap[b]? = w.heap[b]?) (hQ : ∀ b, P b → Q b) : CdAt Q w' c v := by
  obtain ⟨hop, ha, hbb, ht, hp, hl⟩ := h
  exact .mk hop ha hbb (ht.keep hb hQ) (hp.keep hb hQ) (hl.keep hb hQ)
theorem CdAt.laterN {w V : World} {x : Cd} {v : Value} (h : CdAt (· < w.heap.size) w x v) (hb : Below w.heap.size w V) : CdAt (· < V.heap.size) V x v :=
  h.keep (fun b hb' => hb.block b hb') (fun b hb' => Nat.lt_of_lt_of_le hb' hb.size)

theorem CdAt.parts {P : Nat → Prop} {w : World} {op a b : Int} {tk tn : Int} {ts tt : ByteArray} {tl : List Tm} {pk pn : Int} {ps pt : ByteArray} {pl l : List Tm} {v : Value} (h : CdAt P w ⟨op, a, b, .mk tk tn ts tt tl, .mk pk pn ps pt pl, l⟩ v) :
    ∃ TA tcap PA pcap A cap, v = .agg #[.int .i8 op, .int .i64 a, .int .i64 b, .int .i8 tk, .int .i64 tn, .string ts, .string tt, .slice TA tl.length tcap, .int .i8 pk, .int .i64 pn, .string ps, .string pt, .slice PA pl.length pcap, .slice A l.length cap] ∧
      TmAt P w (.mk tk tn ts tt tl) (.agg #[.int .i8 tk, .int .i64 tn, .string ts, .string tt, .slice TA tl.length tcap]) ∧ TmAt P w (.mk pk pn ps pt pl) (.agg #[.int .i8 pk, .int .i64 pn, .string ps, .string pt, .slice PA pl.length pcap]) ∧ TRow P w A l.length cap l ∧
      (-128 ≤ op ∧ op ≤ 127) ∧ (-9223372036854775808 ≤ a ∧ a ≤ 9223372036854775807) ∧ (-9223372036854775808 ≤ b ∧ b ≤ 9223372036854775807) := by
  cases h with
  | mk hop ha hb ht hp hl =>
    obtain ⟨TA, tcap, e, -⟩ := ht.parts
    obtain ⟨PA, pcap, e2, -⟩ := hp.parts
    simp only [Value.agg.injEq, Array.mk.injEq, List.cons.injEq, and_true] at e e2
    obtain ⟨rfl, rfl, rfl, rfl, rfl⟩ := e
    obtain ⟨rfl, rfl, rfl, rfl, rfl⟩ := e2
    exact ⟨TA, tcap, PA, pcap, _, _, rfl, ht, hp, hl, hop, ha, hb⟩
theorem CdAt.mono {P Q : Nat → Prop} {w : World} {c : Cd} {v : Value} (h : CdAt P w c v) (hQ : ∀ b, P b → Q b) : CdAt Q w c v := h.keep (fun _ _ => rfl) hQ

structure CRow (P : Nat → Prop) (w : World) (A : Option Addr) (n cap : Nat) (l : List Cd) : Prop where
  len : l.length = n
  max : n ≤ maxLen
  cap : n ≤ cap
  at_ : ∀ j x, l[j]? = some x → ∃ ad v, A = some ad ∧ P ad.block ∧ CElem w ad j v ∧ CdAt P w x v
theorem CRow.keep {P Q : Nat → Prop} {w w' : World} {A : Option Addr} {n cap : Nat} {l : List Cd} (h : CRow P w A n cap l) (hb : ∀ b, P b → w'.heap[b]? = w.heap[b]?) (hQ : ∀ b, P b → Q b) : CRow Q w' A n cap l :=
  ⟨h.len, h.max, h.cap, fun j x hj => by obtain ⟨ad, v, e, hp, he, ht⟩ := h.at_ j x hj; exact ⟨ad, v, e, hQ _ hp, he.keep (hb _ hp), ht.keep hb hQ⟩⟩
theorem CRow.later {w V : World} {A : Option Addr} {n cap : Nat} {l : List Cd} (h : CRow (· < w.heap.size) w A n cap l) (hb : Below w.heap.size w V) : CRow (· < V.heap.size) V A n cap l :=
  h.keep (fun b hb' => hb.block b hb') (fun b hb' => Nat.lt_of_lt_of_le hb' hb.size)
theorem CRow.nil (P : Nat → Prop) (w : World) (A : Option Addr) (cap : Nat) : CRow P w A 0 cap [] := ⟨rfl, Nat.zero_le _, Nat.zero_le _, fun j x h => by simp at h⟩

def fn13V (f : Fn13) : Value := .agg #[.string f.s, .string f.t, .int .i64 f.n, .int .i64 f.at_, .int .i64 f.slots]
structure FnB (f : Fn13) : Prop where
  s : f.s.size ≤ maxLen
  t : f.t.size ≤ maxLen
  n : -9223372036854775808 ≤ f.n ∧ f.n ≤ 9223372036854775807
  at_ : -9223372036854775808 ≤ f.at_ ∧ f.at_ ≤ 9223372036854775807
  slots : -9223372036854775808 ≤ f.slots ∧ f.slots ≤ 9223372036854775807
structure FRow (P : Nat → Prop) (w : World) (A : Option Addr) (n cap : Nat) (l : List Fn13) : Prop where
  len : l.length = n
  max : n ≤ maxLen
  cap : n ≤ cap
  at_ : ∀ j x, l[j]? = some x → ∃ ad, A = some ad ∧ P ad.block ∧ ElemAt w ad j (fn13V x) ∧ FnB x
theorem FRow.keep {P Q : Nat → Prop} {w w' : World} {A : Option Addr} {n cap : Nat} {l : List Fn13} (h : FRow P w A n cap l) (hb : ∀ b, P b → w'.heap[b]? = w.heap[b]?) (hQ : ∀ b, P b → Q b) : FRow Q w' A n cap l :=
  ⟨h.len, h.max, h.cap, fun j x hj => by obtain ⟨ad, e, hp, he, ht⟩ := h.at_ j x hj; exact ⟨ad, e, hQ _ hp, he.keep (hb _ hp), ht⟩⟩
theorem FRow.later {w V : World} {A : Option Addr} {n cap : Nat} {l : List Fn13} (h : FRow (· < w.heap.size) w A n cap l) (hb : Below w.heap.size w V) : FRow (· < V.heap.size) V A n cap l :=
  h.keep (fun b hb' => hb.block b hb') (fun b hb' => Nat.lt_of_lt_of_le hb' hb.size)
theorem FRow.nil (P : Nat → Prop) (w : World) (A : Option Addr) (cap : Nat) : FRow P w A 0 cap [] := ⟨rfl, Nat.zero_le _, Nat.zero_le _, fun j x h => by simp at h⟩

structure NRow (P : Nat → Prop) (w : World) (A : Option Addr) (n cap : Nat) (l : List Int) : Prop where
  len : l.length = n
  max : n ≤ maxLen
  cap : n ≤ cap
  at_ : ∀ j x, l[j]? = some x → ∃ ad, A = some ad ∧ P ad.block ∧ w.cell? (ad.add j) = some (.int .i64 x) ∧ (-9223372036854775808 ≤ x ∧ x ≤ 9223372036854775807)
theorem NRow.keep {P Q : Nat → Prop} {w w' : World} {A : Option Addr} {n cap : Nat} {l : List Int} (h : NRow P w A n cap l) (hb : ∀ b, P b → w'.heap[b]? = w.heap[b]?) (hQ : ∀ b, P b → Q b) : NRow Q w' A n cap l :=
  ⟨h.len, h.max, h.cap, fun j x hj => by obtain ⟨ad, e, hp, he, ht⟩ := h.at_ j x hj; exact ⟨ad, e, hQ _ hp, (World.cell?_of_block (w := w) (a := ad.add j) (by rw [add_block]; exact hb _ hp)).trans he, ht⟩⟩
theorem NRow.nil (P : Nat → Prop) (w : World) (A : Option Addr) (cap : Nat) : NRow P w A 0 cap [] := ⟨rfl, Nat.zero_le _, Nat.zero_le _, fun j x h => by simp at h⟩
structure NsRow (P : Nat → Prop) (w : World) (A : Option Addr) (n cap : Nat) (l : List (List Int)) : Prop where
  len : l.length = n
  max : n ≤ maxLen
  cap : n ≤ cap
  at_ : ∀ j x, l[j]? = some x → ∃ ad B m, A = some ad ∧ P ad.block ∧ w.cell? (ad.add j) = some (.slice B x.length m) ∧ NRow P w B x.length m x
theorem NsRow.keep {P Q : Nat → Prop} {w w' : World} {A : Option Addr} {n cap : Nat} {l : List (List Int)} (h : NsRow P w A n cap l) (hb : ∀ b, P b → w'.heap[b]? = w.heap[b]?) (hQ : ∀ b, P b → Q b) : NsRow Q w' A n cap l :=
  ⟨h.len, h.max, h.cap, fun j x hj => by obtain ⟨ad, B, m, e, hp, he, ht⟩ := h.at_ j x hj; exact ⟨ad, B, m, e, hQ _ hp, (World.cell?_of_block (w := w) (a := ad.add j) (by rw [add_block]; exact hb _ hp)).trans he, ht.keep hb hQ⟩⟩
theorem NsRow.later {w V : World} {A : Option Addr} {n cap : Nat} {l : List (List Int)} (h : NsRow (· < w.heap.size) w A n cap l) (hb : Below w.heap.size w V) : NsRow (· < V.heap.size) V A n cap l :=
  h.keep (fun b hb' => hb.block b hb') (fun b hb' => Nat.lt_of_lt_of_le hb' hb.size)
theorem NsRow.nil (P : Nat → Prop) (w : World) (A : Option Addr) (cap : Nat) : NsRow P w A 0 cap [] := ⟨rfl, Nat.zero_le _, Nat.zero_le _, fun j x h => by simp at h⟩

structure PgAt (P : Nat → Prop) (w : World) (x : Pg) (A : Option Addr) (ca : Nat) (B : Option Addr) (cb : Nat) (C : Option Addr) (cc : Nat) : Prop where
  fns : FRow P w A x.fns.length ca x.fns
  ops : CRow P w B x.ops.length cb x.ops
  tab : NsRow P w C x.tab.length cc x.tab
theorem PgAt.keep {P Q : Nat → Prop} {w w' : World} {x : Pg} {A B C : Option Addr} {ca cb cc : Nat} (h : PgAt P w x A ca B cb C cc) (hb : ∀ b, P b → w'.heap[b]? = w.heap[b]?) (hQ : ∀ b, P b → Q b) : PgAt Q w' x A ca B cb C cc :=
  ⟨h.fns.keep hb hQ, h.ops.keep hb hQ, h.tab.keep hb hQ⟩
theorem PgAt.later {w V : World} {x : Pg} {A B C : Option Addr} {ca cb cc : Nat} (h : PgAt (· < w.heap.size) w x A ca B cb C cc) (hb : Below w.heap.size w V) : PgAt (· < V.heap.size) V x A ca B cb C cc :=
  h.keep (fun b hb' => hb.block b hb') (fun b hb' => Nat.lt_of_lt_of_le hb' hb.size)
end Go.Proofs.YtdimcddbmccniaaGreatDoor
end
