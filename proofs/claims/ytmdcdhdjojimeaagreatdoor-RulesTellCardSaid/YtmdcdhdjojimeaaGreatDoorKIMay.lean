/- Contracts of ints.May and ints.told. -/
import Derived.Test.YtmdcdhdjojimeaaGreatDoorRows
import Derived.WalkKit
import Derived.RangeFuncWrites
import Derived.MapKept
import Derived.BigQuiet
import Derived.Deep.QuietTactic
import Derived.Deep.RegionHeld
import Derived.OrdersHeld
import Derived.Below
import Derived.Tactics2
import Derived.RangeFuncRecord
import Derived.ProofKit
import Derived.Deep.Slices
import Derived.Deep.Fields
import Derived.ChangeSame
import Derived.Lib.Hide
import Derived.WalkLawsBesides
import Derived.WalkSpells
import Derived.Outline
import Derived.LoopTactic
import Derived.Laws.Rows
import Derived.StillTailTactics
import Derived.Deep.RegionWith
import Derived.RangeFuncNested
import Derived.RangeFuncBound
import Derived.RangeFuncCalls
import Derived.RangeFuncLeaves
import Derived.RangeFuncBox
import Derived.Shelf.Abstract
import Derived.Shelf.RegionOpen
import Derived.OwnWalkIn
import Derived.TacticsInMore
import Derived.LoopNIn
import Derived.LoopIn
section
set_option linter.unusedVariables false
namespace Go.Proofs.YtmdcdhdjojimeaaGreatDoor
open Go.RowKit

structure Mod (F : Nat → Prop) (w w' : World) : Prop where
 os : w'.os = w.os
 tape : w'.tape = w.tape
 output : w'.output = w.output
 size : w.heap.size ≤ w'.heap.size
 block : ∀ k, k < w.heap.size → ¬ F k → w'.heap[k]? = w.heap[k]?

theorem Mod.refl (F : Nat → Prop) (w : World) : Mod F w w := ⟨rfl, rfl, rfl, Nat.le_refl _, fun _ _ _ => rfl⟩
theorem Mod.trans {F G : Nat → Prop} {a b c : World} (h : Mod F a b) (k : Mod G b c) (hG : ∀ i, i < a.heap.size → G i → F i) : Mod F a c :=
 ⟨k.os.trans h.os, k.tape.trans h.tape, k.output.trans h.output, Nat.le_trans h.size k.size, fun i hi hF => (k.block i (Nat.lt_of_lt_of_le hi h.size) (fun g => hF (hG i hi g))).trans (h.block i hi hF)⟩
theorem Mod.mono {F G : Nat → Prop} {w w' : World} (h : Mod F w w') (hF : ∀ i, i < w.heap.size → F i → G i) : Mod G w w' := ⟨h.os, h.tape, h.output, h.size, fun k hk hG => h.block k hk (fun f => hG (hF k hk f))⟩
theorem Mod.of_below {F : Nat → Prop} {w w' : World} (h : Below w.heap.size w w') : Mod F w w' := ⟨h.os, h.tape, h.output, h.size, fun k hk _ => h.block k hk⟩
theorem Mod.below {F : Nat → Prop} {B : Nat} {w w' : World} (h : Mod F w w') (hB : B ≤ w.heap.size) (hF : ∀ i, F i → B ≤ i) : Below B w w' :=
 ⟨h.os, h.tape, h.output, h.size, fun k hk => h.block k (Nat.lt_of_lt_of_le hk hB) (fun f => by have := hF k f; omega)⟩
theorem Mod.drew (F : Nat → Prop) (w : World) : Mod F w w.drew := ⟨rfl, rfl, rfl, Nat.le_refl _, fun _ _ _ => rfl⟩
theorem Mod.alloc (F : Nat → Prop) (w : World) (o : Obj) : Mod F w (w.alloc o) := ⟨rfl, rfl, rfl, by simp, fun k hk _ => Below.heap_alloc _ _ _ hk⟩
theorem Mod.setCell {F : Nat → Prop} (w : World) (p : Addr) (u : Value) (hp : F p.block ∨ w.heap.size ≤ p.block) : Mod F w (w.setCell p u) :=
 ⟨rfl, rfl, rfl, by simp [World.setCell], fun k hk hF => Below.heap_setCell _ _ _ _ (fun e => by subst e; rcases hp with hp | hp; exact hF hp; omega)⟩
theorem Mod.grown {F : Nat → Prop} {w w' : World} {row : Option Nat} (hg : w.grownBy w' row) (hr : ∀ k, k < w.heap.size → row = some k → F k) : Mod F w w' :=
 ⟨hg.os, hg.tape, hg.output, hg.size, fun k hk hF => hg.block k hk (fun e => hF (hr k hk e.symm))⟩
theorem Mod.putObj {F : Nat → Prop} (w : World) (l : Nat) (o : Obj) (hl : F l) : Mod F w (w.putObj l o) :=
 Mod.grown (grownBy_putObj' w l o) (fun k _ e => by cases e; exact hl)
theorem Mod.cell {F : Nat → Prop} {w w' : World} (h : Mod F w w') {p : Addr} (hp : p.block < w.heap.size) (hF : ¬ F p.block) : w'.cell? p = w.cell? p := World.cell?_of_block (w := w) (h.block p.block hp hF)
theorem Mod.row {F : Nat → Prop} {w w' : World} (h : Mod F w w') {base : Nat} {e : TypeId} {size : Nat} {v : Value} {n : Nat} {xs : List Value} (ho : w.ownsRow base e size v n xs) (hF : ∀ k, v.ownBlock = some k → ¬ F k) : w'.ownsRow base e size v n xs := by
 refine ⟨ho.1, ?_⟩
 rcases ho.2 with hn | ⟨g, cap, cur, rfl, hb, hgg, rest⟩
 ·exact .inl hn
 ·exact .inr ⟨g, cap, cur, rfl, hb, (h.block g (Array.getElem?_eq_some_iff.1 hgg).1 (hF g rfl)).trans hgg, rest⟩

theorem heap_lt {w : World} {k : Nat} {o : Obj} (h : w.heap[k]? = some o) : k < w.heap.size := (Array.getElem?_eq_some_iff.1 h).1

theorem cell_of_row {w : World} {b i : Nat} {cs : Array Value} {T : TypeId} {z : Nat × Nat} {v : Value} (h : w.heap[b]? = some (.cells cs T z)) (hi : cs[i]? = some v) : w.cell? ⟨b, i, none⟩ = some v := by
 simp [World.cell?, h, hi]
theorem free_of_row {w : World} {b i : Nat} {cs : Array Value} {T : TypeId} (h : w.heap[b]? = some (.cells cs T (0, 0))) : w.frozen? ⟨b, i, none⟩ = false := by
 simp [World.frozen?, h]

theorem wpq1 {P : Program} {C : World → Prop} {ops : Array Oper} {Q : Act → Prop} {a : Act} {o : Oper} {rest : List Oper} {v : Value} (hr : wpQuiet P ops C Q rest (a.put o.dst v)) (hw : Region.wanted o (yielded ops a.tmps) = true := by kernel_rfl)
  (h : ∀ V, C V → o.quietAt P a C V v := by (intro V hV; (try dsimp only at hV); go_simp; first | done | with_reducible rfl)) : wpQuiet P ops C Q (o :: rest) a :=
 wpQuiet_step fun K hK => by rw [if_pos hw]; exact ⟨v, h, hK _ hr⟩
theorem tkq {P : Program} {md : Region.Mode} {ops : Array Oper} {Q : Exit → Act → World → Prop} {S : World → Prop} (i : Nat) {op : Op} {ty : TypeId} {d : Option Tmp} {pos : String} {af : Array Edge} {g : Option (Nat × Bool)} {v : Value} {fuel : Nat} {listed : Array Bool} {a : Act} {w : World} (h : wpAnyH P md ops Q S fuel (listed.setIfInBounds i true) (a.put d v) w)
  (hi : ops[i]? = some ⟨d, op, ty, pos, af, g⟩ := by rfl) (hs : Region.noSelect ops = true := by kernel_rfl) (hf : Region.free md ops listed i = true := by kernel_rfl) (hr : (Region.ready md ops listed).contains i = true := by kernel_rfl)
  (hQ : ∀ c a w, Q (.panic c) (a.put d v) w → Q (.panic c) a w := by exact fun _ _ _ h => h) (hS : S w := by assumption) (hw : Region.wanted ⟨d, op, ty, pos, af, g⟩ (yielded ops a.tmps) = true := by kernel_rfl)
  (hy : ∀ V, S V → (execOp a.eval ⟨d, op, ty, pos, af, g⟩).run P V = .ok (.value v) V := by (intro V hV; (try dsimp only at hV); go_simp; first | done | with_reducible rfl)) : wpAnyH P md ops Q S (fuel + 1) listed a w :=
 wpAnyH_take hi hs hf hr hQ (Or.inl ⟨hw, hy⟩) hS h
theorem skq {P : Program} {md : Region.Mode} {ops : Array Oper} {Q : Exit → Act → World → Prop} {S : World → Prop} (i : Nat) {op : Op} {ty : TypeId} {d : Option Tmp} {pos : String} {af : Array Edge} {g : Option (Nat × Bool)} {fuel : Nat} {listed : Array Bool} {a : Act} {w : World} (h : wpAnyH P md ops Q S fuel (listed.setIfInBounds i true) (a.put d undef) w)
  (hi : ops[i]? = some ⟨d, op, ty, pos, af, g⟩ := by rfl) (hs : Region.noSelect ops = true := by kernel_rfl) (hf : Region.free md ops listed i = true := by kernel_rfl) (hr : (Region.ready md ops listed).contains i = true := by kernel_rfl)
  (hQ : ∀ c a w, Q (.panic c) (a.put d undef) w → Q (.panic c) a w := by exact fun _ _ _ h => h) (hS : S w := by assumption) (hw : Region.wanted ⟨d, op, ty, pos, af, g⟩ (yielded ops a.tmps) = false := by kernel_rfl) : wpAnyH P md ops Q S (fuel + 1) listed a w :=
 wpAnyH_take hi hs hf hr hQ (Or.inr ⟨hw, rfl⟩) hS h
theorem c3 {w : World} {b : Nat} {T : TypeId} {z : Nat × Nat} {a0 a1 a2 : Value} (h : w.heap[b]? = some (.cells #[a0, a1, a2] T z)) : w.cell? ⟨b, 0, none⟩ = some a0 ∧ w.cell? ⟨b, 1, none⟩ = some a1 ∧ w.cell? ⟨b, 2, none⟩ = some a2 :=
 ⟨cell_of_row (i := 0) h rfl, cell_of_row (i := 1) h rfl, cell_of_row (i := 2) h rfl⟩
theorem c4 {w : World} {b : Nat} {T : TypeId} {z : Nat × Nat} {a0 a1 a2 a3 : Value} (h : w.heap[b]? = some (.cells #[a0, a1, a2, a3] T z)) : w.cell? ⟨b, 0, none⟩ = some a0 ∧ w.cell? ⟨b, 1, none⟩ = some a1 ∧ w.cell? ⟨b, 2, none⟩ = some a2 ∧ w.cell? ⟨b, 3, none⟩ = some a3 :=
 ⟨cell_of_row (i := 0) h rfl, cell_of_row (i := 1) h rfl, cell_of_row (i := 2) h rfl, cell_of_row (i := 3) h rfl⟩
theorem c14 {w : World} {b : Nat} {T : TypeId} {z : Nat × Nat} {a0 a1 a2 a3 a4 a5 a6 a7 a8 a9 a10 a11 a12 a13 : Value} (h : w.heap[b]? = some (.cells #[a0, a1, a2, a3, a4, a5, a6, a7, a8, a9, a10, a11, a12, a13] T z)) : w.cell? ⟨b, 0, none⟩ = some a0 ∧ w.cell? ⟨b, 1, none⟩ = some a1 ∧ w.cell? ⟨b, 2, none⟩ = some a2 ∧ w.cell? ⟨b, 3, none⟩ = some a3 ∧ w.cell? ⟨b, 4, none⟩ = some a4 ∧ w.cell? ⟨b, 5, none⟩ = some a5 ∧ w.cell? ⟨b, 6, none⟩ = some a6 ∧ w.cell? ⟨b, 7, none⟩ = some a7 ∧ w.cell? ⟨b, 8, none⟩ = some a8 ∧ w.cell? ⟨b, 9, none⟩ = some a9 ∧ w.cell? ⟨b, 10, none⟩ = some a10 ∧ w.cell? ⟨b, 11, none⟩ = some a11 ∧ w.cell? ⟨b, 12, none⟩ = some a12 ∧ w.cell? ⟨b, 13, none⟩ = some a13 :=
 ⟨cell_of_row (i := 0) h rfl, cell_of_row (i := 1) h rfl, cell_of_row (i := 2) h rfl, cell_of_row (i := 3) h rfl, cell_of_row (i := 4) h rfl, cell_of_row (i := 5) h rfl, cell_of_row (i := 6) h rfl, cell_of_row (i := 7) h rfl, cell_of_row (i := 8) h rfl, cell_of_row (i := 9) h rfl, cell_of_row (i := 10) h rfl, cell_of_row (i := 11) h rfl, cell_of_row (i := 12) h rfl, cell_of_row (i := 13) h rfl⟩
theorem five_of {w : World} {b : Nat} {T : TypeId} {z : Nat × Nat} {a0 a1 a2 a3 a4 : Value} (h : w.heap[b]? = some (.cells #[a0, a1, a2, a3, a4] T z)) : w.cell? ⟨b, 0, none⟩ = some a0 ∧ w.cell? ⟨b, 1, none⟩ = some a1 ∧ w.cell? ⟨b, 2, none⟩ = some a2 ∧ w.cell? ⟨b, 3, none⟩ = some a3 ∧ w.cell? ⟨b, 4, none⟩ = some a4 :=
 ⟨cell_of_row (i := 0) h rfl, cell_of_row (i := 1) h rfl, cell_of_row (i := 2) h rfl, cell_of_row (i := 3) h rfl, cell_of_row (i := 4) h rfl⟩
theorem five_fr {w : World} {b : Nat} {T : TypeId} {a0 a1 a2 a3 a4 : Value} (h : w.heap[b]? = some (.cells #[a0, a1, a2, a3, a4] T (0, 0))) : (w.cell? ⟨b, 0, none⟩ = some a0 ∧ w.cell? ⟨b, 1, none⟩ = some a1 ∧ w.cell? ⟨b, 2, none⟩ = some a2 ∧ w.cell? ⟨b, 3, none⟩ = some a3 ∧ w.cell? ⟨b, 4, none⟩ = some a4) ∧ w.frozen? ⟨b, 0, none⟩ = false ∧ w.frozen? ⟨b, 1, none⟩ = false ∧ w.frozen? ⟨b, 2, none⟩ = false ∧ w.frozen? ⟨b, 3, none⟩ = false ∧ w.frozen? ⟨b, 4, none⟩ = false :=
 ⟨five_of h, free_of_row h, free_of_row h, free_of_row h, free_of_row h, free_of_row h⟩
theorem sI {α : Type _} (l : List α) (i : Nat) (a : α) : l.toArray.setIfInBounds i a = (l.set i a).toArray := List.setIfInBounds_toArray l i a
theorem sZ {α : Type _} (x : α) (xs : List α) (a : α) : (x :: xs).set 0 a = a :: xs := List.set_cons_zero
theorem sS {α : Type _} (x : α) (xs : List α) (n : Nat) (a : α) : (x :: xs).set (n + 1) a = x :: xs.set n a := List.set_cons_succ

theorem set_row {w : World} {b i : Nat} {cs : Array Value} {T : TypeId} {z : Nat × Nat} (v : Value) (h : w.heap[b]? = some (.cells cs T z)) : (w.setCell ⟨b, i, none⟩ v).heap[b]? = some (.cells (cs.setIfInBounds i v) T z) := by
 obtain ⟨hlt, hk⟩ := Array.getElem?_eq_some_iff.1 h
 show (w.heap.modify b _)[b]? = _
 rw [Array.getElem?_eq_getElem (by rw [Array.size_modify]; exact hlt), Array.getElem_modify_self, hk]
 rfl

theorem run_put_new {P : Program} {t k e : TypeId} (ht : P.underlying t = some (.map k e)) (hk : P.underlying k = some .string) (w : World) (mb : Nat) (es : Array MapEntry) (c : Nat) (s : ByteArray) (v : Value) (hb : w.heap[mb]? = some (.map es c))
  (hn : Instr.findNow .string (.string s) es.toList 0 = some none) :
  (Instr.mapUpdate t (.map (some mb)) (.string s) v).run P w = .ok () (w.putObj mb (.map (es.push ⟨.string s, v, c⟩) (c + 1))) := by
 have hkey : MapKept.IsKey .string (.string s) := by simp [MapKept.IsKey]
 simp [Instr.mapUpdate, run_underlying ht, MapKept.run_getObj_map hb, MapKept.run_checkKey hk hkey, MapKept.run_findKey hk hn, MapKept.run_setObj_map _ hb, Result.andThen]
 rfl
theorem run_look_hit {P : Program} {t k e : TypeId} (ht : P.underlying t = some (.map k e)) (hk : P.underlying k = some .string) (w : World) (mb : Nat) (es : Array MapEntry) (c : Nat) (s : ByteArray) (i : Nat) (v : Value) (hb : w.heap[mb]? = some (.map es c))
  (hn : Instr.findNow .string (.string s) es.toList 0 = some (some (i, v))) :
  (Instr.lookup t (.map (some mb)) (.string s) true).run P w = .ok (.tuple #[v, .bool true]) w := by
 have hkey : MapKept.IsKey .string (.string s) := by simp [MapKept.IsKey]
 simp [Instr.lookup, run_underlying ht, MapKept.run_getObj_map hb, MapKept.run_checkKey hk hkey, MapKept.run_findKey hk hn, Result.andThen]
theorem run_look_miss {P : Program} {t k e : TypeId} (ht : P.underlying t = some (.map k e)) (hk : P.underlying k = some .string) (w : World) (mb : Nat) (es : Array MapEntry) (c : Nat) (s : ByteArray) (z : Value) (hb : w.heap[mb]? = some (.map es c))
  (hz : ∀ w, (zeroValue e).run P w = .ok z w) (hn : Instr.findNow .string (.string s) es.toList 0 = some none) :
  (Instr.lookup t (.map (some mb)) (.string s) true).run P w = .ok (.tuple #[z, .bool false]) w := by
 have hkey : MapKept.IsKey .string (.string s) := by simp [MapKept.IsKey]
 simp [Instr.lookup, run_underlying ht, MapKept.run_getObj_map hb, MapKept.run_checkKey hk hkey, MapKept.run_findKey hk hn, hz, Result.andThen]

end Go.Proofs.YtmdcdhdjojimeaaGreatDoor
end
section
set_option linter.unusedVariables false
namespace Go.Proofs.YtmdcdhdjojimeaaGreatDoor
open Go.RowKit

theorem ret_bool {a b : Bool} (h : a = b) : Ending.returned (.bool a) = .returned (.bool b) := by rw [h]
theorem ret_int {k : IntKind} {a b : Int} (h : a = b) : Ending.returned (.int k a) = .returned (.int k b) := by rw [h]
theorem add_block (a : Addr) (n : Nat) : (a.add n).block = a.block := by unfold Addr.add; split <;> rfl
theorem block_alloc (w : World) (o : Obj) : (w.alloc o).heap[w.heap.size]? = some o := World.alloc_heap_new w o
end Go.Proofs.YtmdcdhdjojimeaaGreatDoor
end
section
set_option linter.unusedVariables false
namespace Go.Proofs.YtmdcdhdjojimeaaGreatDoor
open Go.RowKit Go.ChangeShapes Go.WideShapes Go.Deep

inductive Tm where
 | mk (k n : Int) (s t : ByteArray) (l : List Tm)

namespace Tm
def k : Tm → Int | .mk k _ _ _ _ => k
def n : Tm → Int | .mk _ n _ _ _ => n
def s : Tm → ByteArray | .mk _ _ s _ _ => s
def t : Tm → ByteArray | .mk _ _ _ t _ => t
def l : Tm → List Tm | .mk _ _ _ _ l => l

theorem ind {M : Tm → Prop} (h : ∀ k n s t l, (∀ x ∈ l, M x) → M (.mk k n s t l)) (x : Tm) : M x :=
 Tm.rec (motive_1 := M) (motive_2 := fun l => ∀ x ∈ l, M x) (fun k n s t l hl => h k n s t l hl) (fun _ hx => nomatch hx)
  (fun a l ha hl x hx => by rcases List.mem_cons.1 hx with rfl | hx; exact ha; exact hl x hx) x

mutual
def pre : Tm → List Tm
 | .mk k n s t l => .mk k n s t l :: pres l
def pres : List Tm → List Tm
 | [] => []
 | x :: l => x.pre ++ pres l
end
theorem pre_ne (x : Tm) : 1 ≤ x.pre.length := by cases x; simp [pre]
theorem pres_append (a b : List Tm) : pres (a ++ b) = pres a ++ pres b := by
 induction a with
 | nil => simp [pres]
 | cons x a ih => simp [pres, ih]
theorem pres_snoc (a : List Tm) (x : Tm) : pres (a ++ [x]) = pres a ++ x.pre := by rw [pres_append]; simp [pres]
theorem pres_take_succ {l : List Tm} {j : Nat} {x : Tm} (h : l[j]? = some x) : pres (l.take (j + 1)) = pres (l.take j) ++ x.pre := by
 rw [List.take_add_one, h]; exact pres_snoc _ _
def nodes (x : Tm) : Nat := x.pre.length
end Tm

def ElemAt (w : World) (ad : Addr) (i : Nat) (v : Value) : Prop :=
 ∃ c0 c1 c2 c3 c4, v = .agg #[c0, c1, c2, c3, c4] ∧ w.cell? (ad.add (i * 5)) = some c0 ∧ w.cell? ⟨(ad.add (i * 5)).block, (ad.add (i * 5)).off + 1, none⟩ = some c1 ∧
  w.cell? ⟨(ad.add (i * 5)).block, (ad.add (i * 5)).off + 2, none⟩ = some c2 ∧ w.cell? ⟨(ad.add (i * 5)).block, (ad.add (i * 5)).off + 3, none⟩ = some c3 ∧ w.cell? ⟨(ad.add (i * 5)).block, (ad.add (i * 5)).off + 4, none⟩ = some c4

inductive TmAt (P : Nat → Prop) (w : World) : Tm → Value → Prop
 | mk {k n : Int} {s t : ByteArray} {l : List Tm} {A : Option Addr} {cap : Nat} (vs : Nat → Value) (hk : -128 ≤ k ∧ k ≤ 127) (hn : -9223372036854775808 ≤ n ∧ n ≤ 9223372036854775807) (hs : s.size ≤ maxLen) (ht : t.size ≤ maxLen) (hl : l.length ≤ maxLen) (hcap : l.length ≤ cap)
   (hc : ∀ j, j < l.length → ∃ ad, A = some ad ∧ P ad.block ∧ ElemAt w ad j (vs j)) (hx : ∀ j x, l[j]? = some x → TmAt P w x (vs j)) :
   TmAt P w (.mk k n s t l) (.agg #[.int .i8 k, .int .i64 n, .string s, .string t, .slice A l.length cap])

structure TRow (P : Nat → Prop) (w : World) (A : Option Addr) (n cap : Nat) (l : List Tm) : Prop where
 len : l.length = n
 max : n ≤ maxLen
 cap : n ≤ cap
 at_ : ∀ j x, l[j]? = some x → ∃ ad v, A = some ad ∧ P ad.block ∧ ElemAt w ad j v ∧ TmAt P w x v


theorem ElemAt.keep {w w' : World} {ad : Addr} {i : Nat} {v : Value} (h : ElemAt w ad i v) (hb : w'.heap[ad.block]? = w.heap[ad.block]?) : ElemAt w' ad i v := by
 obtain ⟨c0, c1, c2, c3, c4, e, h0, h1, h2, h3, h4⟩ := h
 have hbb : (ad.add (i * 5)).block = ad.block := add_block _ _
 refine ⟨c0, c1, c2, c3, c4, e, ?_, ?_, ?_, ?_, ?_⟩
 ·exact (World.cell?_of_block (w := w) (a := ad.add (i * 5)) (by rw [hbb]; exact hb)).trans h0
 all_goals
  refine (World.cell?_of_block (w := w) (by show w'.heap[(ad.add (i * 5)).block]? = w.heap[(ad.add (i * 5)).block]?; rw [hbb]; exact hb)).trans ?_
  assumption

theorem TmAt.keep {P Q : Nat → Prop} {w w' : World} {x : Tm} {v : Value} (h : TmAt P w x v) (hb : ∀ b, P b → w'.heap[b]? = w.heap[b]?) (hQ : ∀ b, P b → Q b) : TmAt Q w' x v := by
 induction h with
 | mk vs hk hn hs ht hl hcap hc hx ih =>
  exact .mk vs hk hn hs ht hl hcap (fun j hj => by obtain ⟨ad, e, hp, he⟩ := hc j hj; exact ⟨ad, e, hQ _ hp, he.keep (hb _ hp)⟩) ih
theorem TmAt.mono {P Q : Nat → Prop} {w : World} {x : Tm} {v : Value} (h : TmAt P w x v) (hQ : ∀ b, P b → Q b) : TmAt Q w x v := h.keep (fun _ _ => rfl) hQ
theorem TmAt.mod {P F : Nat → Prop} {w w' : World} {x : Tm} {v : Value} (h : TmAt P w x v) (hm : Mod F w w') (hP : ∀ b, P b → b < w.heap.size ∧ ¬ F b) : TmAt P w' x v := h.keep (fun b hp => hm.block b (hP b hp).1 (hP b hp).2) (fun _ hp => hp)
theorem TmAt.under {B C : Nat} {w w' : World} {x : Tm} {v : Value} (h : TmAt (· < B) w x v) (hb : Below C w w') (hBC : B ≤ C) : TmAt (· < B) w' x v := h.keep (fun b hp => hb.block b (Nat.lt_of_lt_of_le hp hBC)) (fun _ hp => hp)

theorem TRow.keep {P Q : Nat → Prop} {w w' : World} {A : Option Addr} {n cap : Nat} {l : List Tm} (h : TRow P w A n cap l) (hb : ∀ b, P b → w'.heap[b]? = w.heap[b]?) (hQ : ∀ b, P b → Q b) : TRow Q w' A n cap l :=
 ⟨h.len, h.max, h.cap, fun j x hj => by obtain ⟨ad, v, e, hp, he, ht⟩ := h.at_ j x hj; exact ⟨ad, v, e, hQ _ hp, he.keep (hb _ hp), ht.keep hb hQ⟩⟩
theorem TRow.mono {P Q : Nat → Prop} {w : World} {A : Option Addr} {n cap : Nat} {l : List Tm} (h : TRow P w A n cap l) (hQ : ∀ b, P b → Q b) : TRow Q w A n cap l := h.keep (fun _ _ => rfl) hQ
theorem TRow.mod {P F : Nat → Prop} {w w' : World} {A : Option Addr} {n cap : Nat} {l : List Tm} (h : TRow P w A n cap l) (hm : Mod F w w') (hP : ∀ b, P b → b < w.heap.size ∧ ¬ F b) : TRow P w' A n cap l := h.keep (fun b hp => hm.block b (hP b hp).1 (hP b hp).2) (fun _ hp => hp)
theorem TRow.under {B C : Nat} {w w' : World} {A : Option Addr} {n cap : Nat} {l : List Tm} (h : TRow (· < B) w A n cap l) (hb : Below C w w') (hBC : B ≤ C) : TRow (· < B) w' A n cap l := h.keep (fun b hp => hb.block b (Nat.lt_of_lt_of_le hp hBC)) (fun _ hp => hp)

theorem TmAt.parts {P : Nat → Prop} {w : World} {k n : Int} {s t : ByteArray} {l : List Tm} {v : Value} (h : TmAt P w (.mk k n s t l) v) :
  ∃ A cap, v = .agg #[.int .i8 k, .int .i64 n, .string s, .string t, .slice A l.length cap] ∧ TRow P w A l.length cap l ∧ (-128 ≤ k ∧ k ≤ 127) ∧ (-9223372036854775808 ≤ n ∧ n ≤ 9223372036854775807) ∧ s.size ≤ maxLen ∧ t.size ≤ maxLen := by
 cases h with
 | mk vs hk hn hs ht hl hcap hc hx =>
  refine ⟨_, _, rfl, ⟨rfl, hl, hcap, fun j x hj => ?_⟩, hk, hn, hs, ht⟩
  obtain ⟨ad, e, hp, he⟩ := hc j (List.getElem?_eq_some_iff.1 hj).1
  exact ⟨ad, _, e, hp, he, hx j x hj⟩
theorem TmAt.of_row {P : Nat → Prop} {w : World} {k n : Int} {s t : ByteArray} {l : List Tm} {A : Option Addr} {cap : Nat} (h : TRow P w A l.length cap l) (hk : -128 ≤ k ∧ k ≤ 127) (hn : -9223372036854775808 ≤ n ∧ n ≤ 9223372036854775807) (hs : s.size ≤ maxLen) (ht : t.size ≤ maxLen) :
  TmAt P w (.mk k n s t l) (.agg #[.int .i8 k, .int .i64 n, .string s, .string t, .slice A l.length cap]) := by
 have key : ∀ j, ∃ v, ∀ x, l[j]? = some x → ∃ ad, A = some ad ∧ P ad.block ∧ ElemAt w ad j v ∧ TmAt P w x v := by
  intro j
  cases hj : l[j]? with
  | none => exact ⟨undef, fun x h => by cases h⟩
  | some x => obtain ⟨ad, v, h1⟩ := h.at_ j x hj; exact ⟨v, fun y hy => by cases hy; exact ⟨ad, h1⟩⟩
 exact .mk (fun j => Classical.choose (key j)) hk hn hs ht h.max h.cap
  (fun j hj => by obtain ⟨ad, e, hp, he, _⟩ := Classical.choose_spec (key j) _ (List.getElem?_eq_getElem hj); exact ⟨ad, e, hp, he⟩)
  (fun j x hj => by obtain ⟨ad, e, hp, he, ht⟩ := Classical.choose_spec (key j) x hj; exact ht)

theorem TRow.nil (P : Nat → Prop) (w : World) (A : Option Addr) (cap : Nat) : TRow P w A 0 cap [] := ⟨rfl, Nat.zero_le _, Nat.zero_le _, fun j x h => by simp at h⟩

theorem tcells_int : Tryz.prog.cellsOf 3 = 1 := by kernel_rfl
theorem tcells_i8 : Tryz.prog.cellsOf 22 = 1 := by kernel_rfl
theorem tcells_str : Tryz.prog.cellsOf 9 = 1 := by kernel_rfl

theorem add_next (ad : Addr) (i : Nat) : (ad.add i).add 0 = ad.add i := by simp [Addr.add]
theorem add_next' (ad : Addr) (i j : Nat) : (ad.add i).add (j + 1) = ⟨(ad.add i).block, (ad.add i).off + (j + 1), none⟩ := by simp [Addr.add]

theorem i8_wf {n : Int} (h : (Lit.int .i8 n).wf = true) : -128 ≤ n ∧ n ≤ 127 := by
 unfold Lit.wf at h; simp only [Bool.and_eq_true, decide_eq_true_eq] at h; exact h
theorem i64_wf {n : Int} (h : (Lit.int .i64 n).wf = true) : -9223372036854775808 ≤ n ∧ n ≤ 9223372036854775807 := by
 unfold Lit.wf at h; simp only [Bool.and_eq_true, decide_eq_true_eq] at h; exact h


theorem rows_choose {α : Type} {n : Nat} {p : Nat → α → Prop} (h : ∀ i, i < n → ∃ a, p i a) : ∃ l : List α, l.length = n ∧ ∀ i a, l[i]? = some a → p i a := by
 induction n with
 | zero => exact ⟨[], rfl, fun i a h => by simp at h⟩
 | succ n ih =>
  obtain ⟨l, hl, hp⟩ := ih (fun i hi => h i (by omega))
  obtain ⟨a, ha⟩ := h n (by omega)
  refine ⟨l ++ [a], by simp [hl], fun i b hb => ?_⟩
  rw [List.getElem?_append] at hb
  split at hb
  ·exact hp i b hb
  ·have hin : i = n := by
    have := (List.getElem?_eq_some_iff.1 hb).1
    simp at this; omega
   subst hin
   simp [hl] at hb
   subst hb
   exact ha

end Go.Proofs.YtmdcdhdjojimeaaGreatDoor
end
section
set_option linter.unusedVariables false
namespace Go.Proofs.YtmdcdhdjojimeaaGreatDoor
open Go.RowKit

def spansRow : Array Value := #[.int .u8 97, .int .u8 122, .int .u8 2, .int .u8 65, .int .u8 90, .int .u8 3, .int .u8 95, .int .u8 95, .int .u8 3, .int .u8 48, .int .u8 57, .int .u8 1]

def Spans (w : World) : Prop := ∃ t fr, w.heap[3]? = some (.cells spansRow t fr)
theorem Spans.lt {w : World} (h : Spans w) : 3 < w.heap.size := by obtain ⟨t, fr, h⟩ := h; exact (Array.getElem?_eq_some_iff.1 h).1
theorem Spans.below {w w' : World} (h : Spans w) {B : Nat} (hb : Below B w w') (hB : 3 < B) : Spans w' := by
 obtain ⟨t, fr, h⟩ := h
 exact ⟨t, fr, (hb.block 3 hB).trans h⟩

def kindN (b : Int) : Int := if 97 ≤ b ∧ b ≤ 122 then 2 else if 65 ≤ b ∧ b ≤ 90 then 3 else if b = 95 then 3 else if 48 ≤ b ∧ b ≤ 57 then 1 else 0

theorem kind_a {b : Int} (h : 97 ≤ b) (h' : b ≤ 122) : kindN b = 2 := by unfold kindN; rw [if_pos ⟨h, h'⟩]
theorem kind_A {b : Int} (h0 : b < 97 ∨ 122 < b) (h : 65 ≤ b) (h' : b ≤ 90) : kindN b = 3 := by unfold kindN; rw [if_neg (by omega), if_pos ⟨h, h'⟩]
theorem kind_u {b : Int} (h0 : b < 97 ∨ 122 < b) (h1 : b < 65 ∨ 90 < b) (h : 95 ≤ b) (h' : b ≤ 95) : kindN b = 3 := by unfold kindN; rw [if_neg (by omega), if_neg (by omega), if_pos (by omega)]
theorem kind_d {b : Int} (h0 : b < 97 ∨ 122 < b) (h1 : b < 65 ∨ 90 < b) (h2 : b < 95 ∨ 95 < b) (h : 48 ≤ b) (h' : b ≤ 57) : kindN b = 1 := by unfold kindN; rw [if_neg (by omega), if_neg (by omega), if_neg (by omega), if_pos ⟨h, h'⟩]
theorem kind_no {b : Int} (h0 : b < 97 ∨ 122 < b) (h1 : b < 65 ∨ 90 < b) (h2 : b < 95 ∨ 95 < b) (h3 : b < 48 ∨ 57 < b) : kindN b = 0 := by unfold kindN; rw [if_neg (by omega), if_neg (by omega), if_neg (by omega), if_neg (by omega)]

theorem spans_0 (w : World) : (Instr.index 167 (.agg spansRow) (.int .i64 0)).run Tryz.prog w = .ok (.agg #[.int .u8 97, .int .u8 122, .int .u8 2]) w := by kernel_rfl
theorem spans_1 (w : World) : (Instr.index 167 (.agg spansRow) (.int .i64 1)).run Tryz.prog w = .ok (.agg #[.int .u8 65, .int .u8 90, .int .u8 3]) w := by kernel_rfl
theorem spans_2 (w : World) : (Instr.index 167 (.agg spansRow) (.int .i64 2)).run Tryz.prog w = .ok (.agg #[.int .u8 95, .int .u8 95, .int .u8 3]) w := by kernel_rfl
theorem spans_3 (w : World) : (Instr.index 167 (.agg spansRow) (.int .i64 3)).run Tryz.prog w = .ok (.agg #[.int .u8 48, .int .u8 57, .int .u8 1]) w := by kernel_rfl

set_option maxRecDepth 100000 in
set_option maxHeartbeats 2000000 in
theorem kindOf_any (b : Int) (h0 : 0 ≤ b) (h1 : b ≤ 255) (w : World) (hs : Spans w) :
  Calls Tryz.prog 145 #[.int .u8 b] w fun e w' => e = .returned (.int .u8 (kindN b)) ∧ Below w.heap.size w w' := by
 obtain ⟨t, fr, hrow⟩ := hs
 go_enter Tryz.func145, Tryz.ntmps145
 go_wp2_with (refine wpList_load_row rfl _ _ rfl 3 rfl _ _ _ _ hrow Tryz.underlying167 rfl (by kernel_rfl) ?_)
 have s0 := spans_0
 have s1 := spans_1
 have s2 := spans_2
 have s3 := spans_3
 go_loopw [6] (fun i wr => ∃ k : Nat, k ≤ 4 ∧ i = .int .i64 k ∧ Below w.heap.size w wr ∧ Hid (1 ≤ k → b < 97 ∨ 122 < b) ∧ Hid (2 ≤ k → b < 65 ∨ 90 < b) ∧ Hid (3 ≤ k → b < 95 ∨ 95 < b) ∧ Hid (4 ≤ k → b < 48 ∨ 57 < b)) (fun i _ => 4 - (intOf i).toNat)
 case atStart => exact ⟨0, by omega, rfl, Below.refl _ _, fun h => by omega, fun h => by omega, fun h => by omega, fun h => by omega⟩
 case round =>
  obtain ⟨k, hk, rfl, hb, k1, k2, k3, k4⟩ := hrel
  have h4 : k = 0 ∨ k = 1 ∨ k = 2 ∨ k = 3 ∨ k = 4 := by omega
  have hsz := hb.size
  have h0 : (wr.heap)[3]? = some (.cells spansRow t fr) := (hb.block 3 (Array.getElem?_eq_some_iff.1 hrow).1).trans hrow
  clear h0
  have HB := Lib.hid hb
  clear hb
  rcases h4 with rfl | rfl | rfl | rfl | rfl
  ·go_wp2
   ·go_ret
    exact ⟨ret_int (kind_a (by assumption) (by assumption)).symm, HB.out.alloc hsz _⟩
   ·exact ⟨⟨1, by omega, rfl, HB.out.alloc hsz _, fun _ => by omega, fun h => by omega, fun h => by omega, fun h => by omega⟩, by simp [intOf]⟩
   ·exact ⟨⟨1, by omega, rfl, HB.out.alloc hsz _, fun _ => by omega, fun h => by omega, fun h => by omega, fun h => by omega⟩, by simp [intOf]⟩
  ·have c1 := k1.out (by omega)
   have C1 := Lib.hid c1
   clear c1
   go_wp2
   ·go_ret
    exact ⟨ret_int (kind_A C1.out (by assumption) (by assumption)).symm, HB.out.alloc hsz _⟩
   ·exact ⟨⟨2, by omega, rfl, HB.out.alloc hsz _, fun _ => C1.out, fun h => by omega, fun h => by omega, fun h => by omega⟩, by simp [intOf]⟩
   ·exact ⟨⟨2, by omega, rfl, HB.out.alloc hsz _, fun _ => C1.out, fun h => by omega, fun h => by omega, fun h => by omega⟩, by simp [intOf]⟩
  ·have C1 := Lib.hid (k1.out (by omega))
   have C2 := Lib.hid (k2.out (by omega))
   go_wp2
   ·go_ret
    exact ⟨ret_int (kind_u C1.out C2.out (by assumption) (by assumption)).symm, HB.out.alloc hsz _⟩
   ·exact ⟨⟨3, by omega, rfl, HB.out.alloc hsz _, fun _ => C1.out, fun _ => C2.out, fun h => by omega, fun h => by omega⟩, by simp [intOf]⟩
   ·exact ⟨⟨3, by omega, rfl, HB.out.alloc hsz _, fun _ => C1.out, fun _ => C2.out, fun h => by omega, fun h => by omega⟩, by simp [intOf]⟩
  ·have C1 := Lib.hid (k1.out (by omega))
   have C2 := Lib.hid (k2.out (by omega))
   have C3 := Lib.hid (k3.out (by omega))
   go_wp2
   ·go_ret
    exact ⟨ret_int (kind_d C1.out C2.out C3.out (by assumption) (by assumption)).symm, HB.out.alloc hsz _⟩
   ·exact ⟨⟨4, by omega, rfl, HB.out.alloc hsz _, fun _ => C1.out, fun _ => C2.out, fun _ => C3.out, fun h => by omega⟩, by simp [intOf]⟩
   ·exact ⟨⟨4, by omega, rfl, HB.out.alloc hsz _, fun _ => C1.out, fun _ => C2.out, fun _ => C3.out, fun h => by omega⟩, by simp [intOf]⟩
  ·have C1 := Lib.hid (k1.out (by omega))
   have C2 := Lib.hid (k2.out (by omega))
   have C3 := Lib.hid (k3.out (by omega))
   have C4 := Lib.hid (k4.out (by omega))
   go_wp2
   go_ret
   exact ⟨ret_int (kind_no C1.out C2.out C3.out C4.out).symm, HB.out⟩
end Go.Proofs.YtmdcdhdjojimeaaGreatDoor
set_option linter.unusedVariables false
namespace Go.Proofs.YtmdcdhdjojimeaaGreatDoor
open Go.RowKit Go.Shelf
attribute [local go_sem] Oper.semAt_some

def upto {α : Type} (f : Nat → α) (k : Nat) : List α := (List.range k).map f
theorem upto_succ {α : Type} (f : Nat → α) (k : Nat) : upto f (k + 1) = upto f k ++ [f k] := by simp [upto, List.range_succ]
theorem upto_length {α : Type} (f : Nat → α) (k : Nat) : (upto f k).length = k := by simp [upto]
theorem mem_upto {α : Type} {f : Nat → α} {k j : Nat} (h : j < k) : f j ∈ upto f k := by simp only [upto, List.mem_map, List.mem_range]; exact ⟨j, h, rfl⟩

def kd (s : ByteArray) (j : Nat) : Int := kindN ((s.data.toList[j]?.getD 0).toNat : Int)
theorem kd_at (s : ByteArray) (j : Nat) (h : j < s.size) : kindN ((s[j]).toNat : Int) = kd s j := by
 unfold kd
 have hl : j < s.data.toList.length := by simpa using h
 rw [List.getElem?_eq_getElem hl]
 rfl

theorem grown_of_below {W W' : World} (h : Below W.heap.size W W') : W.grownBy W' none := ⟨h.os, h.tape, h.output, h.size, fun k hk _ => h.block k hk⟩

set_option maxHeartbeats 1000000 in
theorem kinds_in (s : ByteArray) (n : Nat) (w : World) :
  CallsIn Fence.wide n Tryz.prog 149 #[.string s] w fun e w' => e = .returned (.func (.func 153) #[] #[.pointer (some ⟨w.heap.size, 0, none⟩)]) ∧ w' = w.alloc (.cells #[.string s] 9) := by
 refine callsIn_of_wp Tryz.func149 rfl trivial ?_ rfl
 simp only [Tryz.ntmps149, List.size_toArray, List.length_cons, List.length_nil, Nat.reduceAdd, Nat.reduceSub, Array.replicate_succ, Array.replicate_zero, List.push_toArray, List.append_toArray, List.nil_append, List.cons_append]
 gi_wp2
 go_ret
 exact ⟨rfl, rfl⟩

set_option maxRecDepth 100000 in
set_option maxHeartbeats 2000000 in
theorem kinds1_in (n : Nat) (hn : 1 ≤ n) (l Bs n₀ : Nat) (s : ByteArray) (hsz : s.size ≤ maxLen) (hb : Bs < n₀) (hg0 : 3 < n₀) (J Jx : List (Nat × Int) → World → Prop)
  (hJa : ∀ pre W W', J pre W → Below W.heap.size W W' → J pre W')
  (hY : ∀ pre x W, J pre W → pre.length < s.size → YieldAt Fence.wide (n - 1) Tryz.prog l #[.int .i64 (x.1 : Int), .int .u8 x.2] W fun e W' =>
   (e = .returned (.bool true) ∧ J (pre ++ [x]) W' ∧ Below n₀ W W') ∨ (e = .returned (.bool false) ∧ Jx (pre ++ [x]) W'))
  (W : World) (hS : Spans W) (hn0 : n₀ ≤ W.heap.size) (hBs : W.cell? ⟨Bs, 0, none⟩ = some (.string s)) (h0 : J [] W) :
  CallsIn Fence.wide n Tryz.prog 153 #[.func (.yield l) #[] #[], .pointer (some ⟨Bs, 0, none⟩)] W fun e W' => (∃ v, e = .returned v) ∧
   ((∃ ys, ys = upto (fun j => (j, kd s j)) s.size ∧ J ys W') ∨ (∃ pre, (∃ k, k ≤ s.size ∧ pre = upto (fun j => (j, kd s j)) k) ∧ Jx pre W')) := by
 unfold maxLen at hsz
 have H0 := Lib.hid hn0
 clear hn0
 refine callsIn_of_wp Tryz.func153 rfl trivial ?_ rfl
 simp only [Tryz.ntmps153, List.size_toArray, List.length_cons, List.length_nil, Nat.reduceAdd, Nat.reduceSub, Array.replicate_succ, Array.replicate_zero, List.push_toArray, List.append_toArray, List.nil_append, List.cons_append]
 gi_wp2
 gi_loopw [6] (fun i wr => ∃ k : Nat, k ≤ s.size ∧ i = .int .i64 k ∧ J (upto (fun j => (j, kd s j)) k) wr ∧ Below n₀ W wr)
  (fun i _ => s.size - (intOf i).toNat)
 case atStart => exact ⟨0, Nat.zero_le _, rfl, h0, Below.refl _ _⟩
 case round =>
  obtain ⟨k, hk, rfl, hJs, hnx⟩ := hrel
  have hcx : wr.cell? ⟨Bs, 0, none⟩ = some (.string s) := (hnx.cell (p := ⟨Bs, 0, none⟩) hb).trans hBs
  have hSr : Spans wr := hS.below hnx hg0
  have hszr : n₀ ≤ wr.heap.size := Nat.le_trans H0.out hnx.size
  by_cases hlt : k < s.size
  ·have hkd := Lib.hid (kd_at s k hlt)
   gi_wp2_with fail
   refine ⟨trivial, ?_⟩
   gi_at_call 145
   refine (callsIn_wide.2 (kindOf_any _ (Int.natCast_nonneg _) (by have := (s[k]'hlt).toNat_lt; omega) _ hSr)).mono ?_
   rintro e w1 ⟨rfl, hb1⟩
   obtain ⟨fn, tmps, assign, body, hy, hR⟩ := hY _ (k, kd s k) w1 (hJa _ _ _ hJs hb1) (by rw [upto_length]; exact hlt)
   dsimp only at hy
   rw [← hkd.out] at hy
   gi_wp2
   refine hR.mono ?_
   rintro e W3 (⟨rfl, hJ3, hk3⟩ | ⟨rfl, hJx3⟩)
   ·gi_wp2
    go_roundw
    case rel => exact ⟨k + 1, by omega, by simp, by rw [upto_succ]; exact hJ3, hnx.trans ((hb1.mono hszr).trans hk3)⟩
    case measure => simp [intOf]; omega
   ·gi_wp2
    refine bodyPost_ret (results_none rfl _ _ _) rfl ?_
    exact ⟨⟨_, rfl⟩, .inr ⟨_, ⟨k + 1, by omega, (upto_succ _ _).symm⟩, hJx3⟩⟩
  ·obtain rfl : k = s.size := by omega
   gi_wp2
   go_end0
   exact ⟨⟨_, rfl⟩, .inl ⟨_, rfl, hJs⟩⟩

theorem kinds_stops (n : Nat) (hn : 1 ≤ n) (Bs n₀ : Nat) (s : ByteArray) (hsz : s.size ≤ maxLen) (w : World) (hb : Bs < n₀) (hg0 : 3 < n₀) (hn₀ : n₀ ≤ w.heap.size) (hS : Spans w) (hc : w.cell? ⟨Bs, 0, none⟩ = some (.string s)) :
  SeqStopsK Fence.wide n Tryz.prog 153 #[.pointer (some ⟨Bs, 0, none⟩)] (fun x : Nat × Int => #[Value.int .i64 (x.1 : Int), Value.int .u8 x.2]) (Below n₀)
   (fun ys => ys = upto (fun j => (j, kd s j)) s.size) (fun pre => ∃ k, k ≤ s.size ∧ pre = upto (fun j => (j, kd s j)) k) s.size w := fun l J Jx W hW hJ _ hY h0 =>
 kinds1_in n hn l Bs n₀ s hsz hb hg0 J Jx (fun pre A B h hAB => hJ pre A B none h (grown_of_below hAB) (fun r e => by cases e)) hY W (hS.below hW (Nat.lt_of_lt_of_le hg0 hn₀)) (Nat.le_trans hn₀ hW.size) ((hW.cell (p := ⟨Bs, 0, none⟩) (show Bs < w.heap.size by omega)).trans hc) h0

def prefL : List UInt8 → Nat
 | [] => 0
 | c :: l => if kindN (c.toNat : Int) = 0 then 0 else prefL l + 1
def prefN (s : ByteArray) : Nat := prefL s.data.toList
theorem prefL_eq (l : List UInt8) (k : Nat) (hk : k ≤ l.length) (h : ∀ j, j < k → kindN ((l[j]?.getD 0).toNat : Int) ≠ 0) (he : k = l.length ∨ (k < l.length ∧ kindN ((l[k]?.getD 0).toNat : Int) = 0)) : prefL l = k := by
 induction l generalizing k with
 | nil => simp at hk; subst hk; rfl
 | cons c l ih =>
  cases k with
  | zero =>
   rcases he with he | ⟨_, he⟩
   ·simp at he
   ·simp at he; rw [prefL, if_pos he]
  | succ k =>
   have h0 := h 0 (by omega)
   simp at h0
   have hE : k = l.length ∨ (k < l.length ∧ kindN ((l[k]?.getD 0).toNat : Int) = 0) := by
    rcases he with he | ⟨h1, he⟩
    ·exact .inl (by simpa using he)
    ·exact .inr ⟨by simpa using h1, by simpa using he⟩
   rw [prefL, if_neg h0, ih k (by simpa using hk) (fun j hj => by have := h (j + 1) (by omega); simpa using this) hE]
theorem prefN_eq (s : ByteArray) (k : Nat) (hk : k ≤ s.size) (h : ∀ j, j < k → kd s j ≠ 0) (he : k = s.size ∨ (k < s.size ∧ kd s k = 0)) : prefN s = k := by
 have hl : s.data.toList.length = s.size := by rw [Array.length_toList]; rfl
 exact prefL_eq _ k (by rw [hl]; exact hk) h (by rw [hl]; exact he)

set_option maxRecDepth 100000 in
set_option maxHeartbeats 2000000 in
theorem Prefix_any (s : ByteArray) (hsz : s.size ≤ maxLen) (w : World) (hS : Spans w) :
  Calls Tryz.prog 146 #[.string s] w fun e w' => e = .returned (.int .i64 (prefN s)) ∧ Below w.heap.size w w' := by
 refine (callsIn_wide (n := 3)).1 ?_
 refine callsIn_of_wp_marks Tryz.func146 rfl trivial ?_ rfl
 simp only [Tryz.ntmps146, List.size_toArray, List.length_cons, List.length_nil, Nat.reduceAdd, Nat.reduceSub, Array.replicate_succ, Array.replicate_zero, List.push_toArray, List.append_toArray, List.nil_append, List.cons_append]
 gi_wp2_with (refine ⟨trivial, ?_⟩; gi_at_call 149; refine (kinds_in _ _ _).mono ?_; rintro e w' ⟨rfl, rfl⟩)
 have bR := Boxed.new w 3 (.int .i64 0)
 have bN := Boxed.new (w.alloc (.cells #[.int .i64 0] 3)) 9 (.string s)
 rw [World.size_alloc] at bN
 have hB0 : Below w.heap.size w ((w.alloc (.cells #[.int .i64 0] 3)).alloc (.cells #[.string s] 9)) := ((Below.refl _ w).alloc (Nat.le_refl _) _).alloc (by simp) _
 refine wpIn_rangeFunc_ownG rfl (by decide) (gf := 153) (lb := #[.pointer (some ⟨w.heap.size + 1, 0, none⟩)]) rfl trivial (enters_of Tryz.func153 (by kernel_rfl) rfl)
  (kinds_stops (3 - 1) (by decide) (w.heap.size + 1) (w.heap.size + 2) s hsz _ (by omega) (Nat.lt_of_lt_of_le hS.lt (by omega)) (by simp) (hS.below hB0 hS.lt) bN.cell) belowK_t (belowK_b (by simp)) (Below.refl _ _) (fun _ => rfl)
  (fun pre W => ((∀ p ∈ pre, p.2 ≠ 0) ∧ W.cell? ⟨w.heap.size, 0, none⟩ = some (.int .i64 0) ∧ W.frozen? ⟨w.heap.size, 0, none⟩ = false) ∧ Below w.heap.size w W)
  (fun c pre W => (c = .ret ∧ ∃ ini last, pre = ini ++ [last] ∧ (∀ p ∈ ini, p.2 ≠ 0) ∧ last.2 = 0 ∧ W.cell? ⟨w.heap.size, 0, none⟩ = some (.int .i64 (last.1 : Int))) ∧ Below w.heap.size w W)
  (OwnFrom.and (Own.from (fun s A B row hs hg hr => ⟨hs.1, cell_kept hs.2.1 hg hr, (frozen_kept hs.2.1 hg hr).trans hs.2.2⟩) _) (ownFrom_below (Nat.le_refl _) (by simp; omega)))
  (fun c => OwnFrom.and (Own.from (fun s A B row hs hg hr => by obtain ⟨hc, ini, last, e1, e2, e3, e4⟩ := hs; exact ⟨hc, ini, last, e1, e2, e3, cell_kept e4 hg hr⟩) _) (ownFrom_below (Nat.le_refl _) (by simp; omega)))
  ⟨⟨by simp, (bR.alloc _).cell, (bR.alloc _).frozen⟩, hB0⟩
  (fun x => { tmps := #[.string s, undef, .pointer (some ⟨w.heap.size, 0, none⟩), .int .i64 (x.1 : Int), .int .u8 x.2, .string s, .func (.func 153) #[] #[.pointer (some ⟨w.heap.size + 1, 0, none⟩)], .int .i64 (x.1 : Int), .int .u8 x.2, undef, undef, undef, undef, undef], defers := [] }) ?assign ?body ?done ?stop
 case assign =>
  intro l x W K hK
  gi_wp2
  exact hK
 case body =>
  rintro l pre x W ⟨⟨hp, hcr, hfr⟩, hB⟩ _
  cases hx : (x.2 == 0)
  ·have hx0 : x.2 ≠ 0 := by simpa using hx
   have HX := Lib.hid hx0
   clear hx0
   gi_wp2
   exact ⟨KeepsFrom.refl _ _, Below.refl _ _, ⟨fun p hp' => (List.mem_append.1 hp').elim (hp p) (fun e => by simp at e; subst e; exact HX.out), hcr, hfr⟩, hB⟩
  ·have hx0 : x.2 = 0 := by simpa using hx
   have HX := Lib.hid hx0
   clear hx0
   gi_wp2
   exact ⟨(KeepsOthers.setCell _ _ _).from _, ⟨rfl, pre, x, rfl, hp, HX.out, World.cell?_setCell_same' _ _ _ (by rw [hcr]; rfl)⟩, hB.setCell (p := ⟨w.heap.size, 0, none⟩) (Nat.le_refl _) _⟩
 case done =>
  rintro D ys W hD rfl ⟨⟨hne, hcr, hfr⟩, hB⟩ hK
  gi_wp2
  have hK' := (KeepsOthers.setCell W ⟨w.heap.size, 0, none⟩ (.int .i64 (s.size : Int))).same D _ hK rfl
  refine ⟨by simp, .inl ⟨_, _, rfl, run_takeDeferred hK', ?_⟩⟩
  have hc5 := cell_kept (World.cell?_setCell_same' W ⟨w.heap.size, 0, none⟩ (.int .i64 (s.size : Int)) (by rw [hcr]; rfl)) (grownBy_putObj' _ D (.deferred none)) (fun r e => by cases e; exact ⟨_, hK', rfl⟩)
  refine ⟨.int .i64 (s.size : Int), ?_, ?_, (hB.setCell (p := ⟨w.heap.size, 0, none⟩) (Nat.le_refl _) _).trans (belowK_b (w := w) (Nat.le_refl _) _ D _ _ (by simp at hD; omega) hK' rfl rfl)⟩
  ·simp [results, Tryz.f146, go_sem, hc5]
  ·exact ret_int (by rw [prefN_eq s s.size (Nat.le_refl _) (fun j hj => hne (j, kd s j) (mem_upto hj)) (.inl rfl)])
 case stop =>
  rintro D c pre W hD ⟨k, hk, rfl⟩ ⟨⟨rfl, ini, last, e1, e2, e3, hcr⟩, hB⟩ hK
  gi_wp2
  refine ⟨by simp, .inl ⟨_, _, rfl, run_takeDeferred hK, ?_⟩⟩
  have hc5 := cell_kept hcr (grownBy_putObj' _ D (.deferred none)) (fun r e => by cases e; exact ⟨_, hK, rfl⟩)
  obtain ⟨k', rfl⟩ : ∃ k', k = k' + 1 := by
   cases k with
   | zero => simp [upto] at e1
   | succ k' => exact ⟨k', rfl⟩
  rw [upto_succ] at e1
  obtain ⟨rfl, e5⟩ := List.append_inj' e1 rfl
  obtain rfl : (k', kd s k') = last := by simpa using e5
  refine ⟨.int .i64 (k' : Int), ?_, ?_, hB.trans (belowK_b (w := w) (Nat.le_refl _) W D _ _ (by simp at hD; omega) hK rfl rfl)⟩
  ·simp [results, Tryz.f146, go_sem, hc5]
  ·exact ret_int (by rw [prefN_eq s k' (by omega) (fun j hj => e2 (j, kd s j) (mem_upto hj)) (.inr ⟨by omega, e3⟩)])

theorem no_iff {p : Prop} (h : ¬ p) : (false = true ↔ p) := ⟨(fun e => by cases e), fun e => (h e).elim⟩

def nameB (s : ByteArray) (k : Int) : Bool := decide (1 ≤ s.size ∧ s.size ≤ 32 ∧ kd s 0 = k ∧ prefN s = s.size)

theorem prefL_le (l : List UInt8) : prefL l ≤ l.length := by
 induction l with
 | nil => simp [prefL]
 | cons c l ih => rw [prefL]; split <;> simp <;> omega
theorem prefN_le (s : ByteArray) : prefN s ≤ s.size := by
 have hl : s.data.toList.length = s.size := by rw [Array.length_toList]; rfl
 have := prefL_le s.data.toList
 rw [hl] at this
 exact this

set_option maxHeartbeats 1000000 in
theorem named_any (s : ByteArray) (hsz : s.size ≤ maxLen) (k : Int) (hk0 : 0 ≤ k) (hk : k ≤ 255) (w : World) (hS : Spans w) :
  Calls Tryz.prog 141 #[.string s, .int .u8 k] w fun e w' => e = .returned (.bool (nameB s k)) ∧ Below w.heap.size w w' := by
 have HB : ∀ b : Bool, (b = true ↔ (1 ≤ s.size ∧ s.size ≤ 32 ∧ kd s 0 = k ∧ prefN s = s.size)) → nameB s k = b := fun b h => by
  unfold nameB; rw [Bool.eq_iff_iff, decide_eq_true_eq]; exact h.symm
 have HH := Lib.hid HB
 clear HB
 have hl : s.toList.length = s.size := by rw [ByteArray.toList_eq]; rw [Array.length_toList]; rfl
 by_cases h0 : s.size = 0
 ·have he : s.toList = [] := List.eq_nil_of_length_eq_zero (by omega)
  have hf := HH.out false (no_iff (by omega))
  have HF := Lib.hid hf
  clear hf hl h0
  go_enter Tryz.func141, Tryz.ntmps141
  go_wp2
  go_ret
  exact ⟨ret_bool HF.out.symm, Below.refl _ _⟩
 ·have hpos : 0 < s.size := by omega
  have hne : ¬ s.toList = [] := fun e => by rw [e] at hl; simp at hl; omega
  have hne2 : s.toList.isEmpty = false := by cases hx : s.toList <;> simp_all
  clear hl h0
  by_cases h32 : s.size ≤ 32
  ·have hat := kd_at s 0 hpos
   have hsz0 : s.size ≤ maxLen := hsz
   have HZ := Lib.hid hsz0
   clear hsz hsz0
   cases hk1 : (kindN ((s[0]).toNat : Int) == k)
   ·have hf := HH.out false (by
     constructor
     ·intro h; cases h
     ·rintro ⟨_, _, h, _⟩; rw [hat, h] at hk1; simp at hk1)
    have HF := Lib.hid hf
    clear hf hat
    go_enter Tryz.func141, Tryz.ntmps141
    go_wp2_with fail
    refine (kindOf_any _ (Int.natCast_nonneg _) (by have := (s[0]'hpos).toNat_lt; omega) _ hS).mono ?_
    rintro e w1 ⟨rfl, hb1⟩
    go_wp2_with fail
    go_ret
    exact ⟨ret_bool HF.out.symm, hb1⟩
   ·have hK : kd s 0 = k := by rw [← hat]; simpa using hk1
    have HK := Lib.hid hK
    have hp := prefN_le s
    clear hat hK
    go_enter Tryz.func141, Tryz.ntmps141
    go_wp2_with fail
    refine (kindOf_any _ (Int.natCast_nonneg _) (by have := (s[0]'hpos).toNat_lt; omega) _ hS).mono ?_
    rintro e w1 ⟨rfl, hb1⟩
    go_wp2_with fail
    refine (Prefix_any s HZ.out _ (hS.below hb1 hS.lt)).mono ?_
    rintro e w2 ⟨rfl, hb2⟩
    go_wp2_with fail
    go_ret
    refine ⟨ret_bool ?_, hb1.trans (hb2.mono hb1.size)⟩
    refine (HH.out _ ?_).symm
    simp [h32, HK.out]
    omega
  ·have hf := HH.out false (no_iff (by omega))
   have HF := Lib.hid hf
   clear hf
   go_enter Tryz.func141, Tryz.ntmps141
   go_wp2
   go_ret
   exact ⟨ret_bool HF.out.symm, Below.refl _ _⟩

theorem May_any (s : ByteArray) (hsz : s.size ≤ maxLen) (w : World) (hS : Spans w) :
  Calls Tryz.prog 138 #[.string s] w fun e w' => e = .returned (.bool (nameB s 2)) ∧ Below w.heap.size w w' := by
 have HZ := Lib.hid hsz
 clear hsz
 go_enter Tryz.func138, Tryz.ntmps138
 go_wp2_with fail
 refine (named_any s HZ.out 2 (by decide) (by decide) _ hS).mono ?_
 rintro e w1 ⟨rfl, hb1⟩
 go_wp2_with fail
 go_ret
 exact ⟨rfl, hb1⟩

theorem Name_any (s : ByteArray) (hsz : s.size ≤ maxLen) (w : World) (hS : Spans w) :
  Calls Tryz.prog 111 #[.string s] w fun e w' => e = .returned (.bool (nameB s 3)) ∧ Below w.heap.size w w' := by
 have HZ := Lib.hid hsz
 clear hsz
 go_enter Tryz.func111, Tryz.ntmps111
 go_wp2_with fail
 refine (named_any s HZ.out 3 (by decide) (by decide) _ hS).mono ?_
 rintro e w1 ⟨rfl, hb1⟩
 go_wp2_with fail
 go_ret
 exact ⟨rfl, hb1⟩
end Go.Proofs.YtmdcdhdjojimeaaGreatDoor
end
section
namespace Go.Proofs.YtmdcdhdjojimeaaGreatDoor
open Go.RowKit

def mayB (n : Int) : Bool := decide (-576460752303423488 ≤ n ∧ n ≤ 576460752303423487)
def sPlus : ByteArray := ⟨#[43]⟩
def sMinus : ByteArray := ⟨#[45]⟩
def sTimes : ByteArray := ⟨#[42]⟩
def sDiv : ByteArray := ⟨#[100, 105, 118]⟩
def sRem : ByteArray := ⟨#[114, 101, 109]⟩

end Go.Proofs.YtmdcdhdjojimeaaGreatDoor
end
section
set_option linter.unusedVariables false
namespace Go.Proofs.YtmdcdhdjojimeaaGreatDoor
open Go.RowKit

theorem IMay_any (n : Int) (w : World) : Calls Tryz.prog 113 #[.int .i64 n] w fun e w' => e = .returned (.bool (mayB n)) ∧ w = w' := by
 have hd : mayB n = (decide (-576460752303423488 ≤ n) && decide (n ≤ 576460752303423487)) := by unfold mayB; rw [Bool.eq_iff_iff]; simp
 have H := Lib.hid hd
 clear hd
 by_cases h1 : -576460752303423488 ≤ n
 ·go_enter Tryz.func113, Tryz.ntmps113
  go_wp2
  go_ret
  exact ⟨ret_bool (by rw [H.out]; simp [h1]), rfl⟩
 ·go_enter Tryz.func113, Tryz.ntmps113
  go_wp2
  go_ret
  exact ⟨ret_bool (by rw [H.out]; simp; omega), rfl⟩

end Go.Proofs.YtmdcdhdjojimeaaGreatDoor
end
