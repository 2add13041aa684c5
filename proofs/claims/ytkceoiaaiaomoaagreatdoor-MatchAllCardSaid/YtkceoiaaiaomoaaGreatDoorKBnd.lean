/- Names with their terms (api.Bind) as the heap holds them: rows of them, an argument opened. -/
import Derived.Test.YtkceoiaaiaomoaaGreatDoorRows
import Derived.WalkKit
import Derived.RangeFuncWrites
import Derived.MapKept
import Derived.Below
import Derived.RangeFuncRecord
import Derived.ProofKit
import Derived.Deep.Slices
import Derived.Deep.Fields
import Derived.ChangeSame
import Derived.Lib.Hide
section
set_option linter.unusedVariables false
namespace Go.Proofs.YtkceoiaaiaomoaaGreatDoor
open Go.RowKit

structure Mod (F : Nat → Prop) (w w' : World) : Prop where
  os : w'.os = w.os
  tape : w'.tape = w.tape
  output : w'.output = w.output
  size : w.heap.size ≤ w'.heap.size
  block : ∀ k, k < w.heap.size → ¬ F k → w'.heap[k]? = w.heap[k]?

theorem Mod.refl (F : Nat → Prop) (w : World) : Mod F w w := ⟨rfl, rfl, rfl, Nat.le_refl _, fun _ _ _ => rfl⟩
theorem Mod.trans {F G : Nat → Prop} {a b c : World} (h : Mod F a b) (k : Mod G b c) (hG : ∀ i, i < a.heap.size → G i → F i) : Mod F a c :=
  ⟨k.os.trans h.os, k.tape.trans h.tape, k.output.trans h.output, Nat.le_trans h.size k.size, fun i hi hF => (k.block i (Nat.lt_of_lt_of_le hi h.size) (fun g => hF (hG i hi g))).trans (h.block i hi hF)⟩
theorem Mod.mono {F G : Nat → Prop} {w w' : World} (h : Mod F w w') (hF : ∀ i, i < w.heap.size → F i → G i) : Mod G w w' := ⟨h.os, h.tape, h.output, h.size, fun k hk hG => h.block k hk (fun f => hG (hF k hk f))⟩
theorem Mod.of_below {F : Nat → Prop} {w w' : World} (h : Below w.heap.size w w') : Mod F w w' := ⟨h.os, h.tape, h.output, h.size, fun k hk _ => h.block k hk⟩
theorem Mod.below {F : Nat → Prop} {B : Nat} {w w' : World} (h : Mod F w w') (hB : B ≤ w.heap.size) (hF : ∀ i, F i → B ≤ i) : Below B w w' :=
  ⟨h.os, h.tape, h.output, h.size, fun k hk => h.block k (Nat.lt_of_lt_of_le hk hB) (fun f => by have := hF k f; omega)⟩
theorem Mod.drew (F : Nat → Prop) (w : World) : Mod F w w.drew := ⟨rfl, rfl, rfl, Nat.le_refl _, fun _ _ _ => rfl⟩
theorem Mod.alloc (F : Nat → Prop) (w : World) (o : Obj) : Mod F w (w.alloc o) := ⟨rfl, rfl, rfl, by simp, fun k hk _ => Below.heap_alloc _ _ _ hk⟩
theorem Mod.setCell {F : Nat → Prop} (w : World) (p : Addr) (u : Value) (hp : F p.block ∨ w.heap.size ≤ p.block) : Mod F w (w.setCell p u) :=
  ⟨rfl, rfl, rfl, by simp [World.setCell], fun k hk hF => Below.heap_setCell _ _ _ _ (fun e => by subst e; rcases hp with hp | hp; exact hF hp; omega)⟩
theorem Mod.grown {F : Nat → Prop} {w w' : World} {row : Option Nat} (hg : w.grownBy w' row) (hr : ∀ k, k < w.heap.size → row = some k → F k) : Mod F w w' :=
  ⟨hg.os, hg.tape, hg.output, hg.size, fun k hk hF => hg.block k hk (fun e => hF (hr k hk e.symm))⟩
theorem Mod.putObj {F : Nat → Prop} (w : World) (l : Nat) (o : Obj) (hl : F l) : Mod F w (w.putObj l o) :=
  Mod.grown (grownBy_putObj' w l o) (fun k _ e => by cases e; exact hl)
theorem Mod.cell {F : Nat → Prop} {w w' : World} (h : Mod F w w') {p : Addr} (hp : p.block < w.heap.size) (hF : ¬ F p.block) : w'.cell? p = w.cell? p := World.cell?_of_block (w := w) (h.block p.block hp hF)
theorem Mod.row {F : Nat → Prop} {w w' : World} (h : Mod F w w') {base : Nat} {e : TypeId} {size : Nat} {v : Value} {n : Nat} {xs : List Value} (ho : w.ownsRow base e size v n xs) (hF : ∀ k, v.ownBlock = some k → ¬ F k) : w'.ownsRow base e size v n xs := by
  refine ⟨ho.1, ?_⟩
  rcases ho.2 with hn | ⟨g, cap, cur, rfl, hb, hgg, rest⟩
  · exact .inl hn
  · exact .inr ⟨g, cap, cur, rfl, hb, (h.block g (Array.getElem?_eq_some_iff.1 hgg).1 (hF g rfl)).trans hgg, rest⟩

theorem heap_lt {w : World} {k : Nat} {o : Obj} (h : w.heap[k]? = some o) : k < w.heap.size := (Array.getElem?_eq_some_iff.1 h).1

theorem cell_of_row {w : World} {b i : Nat} {cs : Array Value} {T : TypeId} {z : Nat × Nat} {v : Value} (h : w.heap[b]? = some (.cells cs T z)) (hi : cs[i]? = some v) : w.cell? ⟨b, i, none⟩ = some v := by
  simp [World.cell?, h, hi]
theorem free_of_row {w : World} {b i : Nat} {cs : Array Value} {T : TypeId} (h : w.heap[b]? = some (.cells cs T (0, 0))) : w.frozen? ⟨b, i, none⟩ = false := by
  simp [World.frozen?, h]

theorem five_of {w : World} {b : Nat} {T : TypeId} {z : Nat × Nat} {a0 a1 a2 a3 a4 : Value} (h : w.heap[b]? = some (.cells #[a0, a1, a2, a3, a4] T z)) : w.cell? ⟨b, 0, none⟩ = some a0 ∧ w.cell? ⟨b, 1, none⟩ = some a1 ∧ w.cell? ⟨b, 2, none⟩ = some a2 ∧ w.cell? ⟨b, 3, none⟩ = some a3 ∧ w.cell? ⟨b, 4, none⟩ = some a4 :=
  ⟨cell_of_row (i := 0) h rfl, cell_of_row (i := 1) h rfl, cell_of_row (i := 2) h rfl, cell_of_row (i := 3) h rfl, cell_of_row (i := 4) h rfl⟩
theorem five_fr {w : World} {b : Nat} {T : TypeId} {a0 a1 a2 a3 a4 : Value} (h : w.heap[b]? = some (.cells #[a0, a1, a2, a3, a4] T (0, 0))) : (w.cell? ⟨b, 0, none⟩ = some a0 ∧ w.cell? ⟨b, 1, none⟩ = some a1 ∧ w.cell? ⟨b, 2, none⟩ = some a2 ∧ w.cell? ⟨b, 3, none⟩ = some a3 ∧ w.cell? ⟨b, 4, none⟩ = some a4) ∧ w.frozen? ⟨b, 0, none⟩ = false ∧ w.frozen? ⟨b, 1, none⟩ = false ∧ w.frozen? ⟨b, 2, none⟩ = false ∧ w.frozen? ⟨b, 3, none⟩ = false ∧ w.frozen? ⟨b, 4, none⟩ = false :=
  ⟨five_of h, free_of_row h, free_of_row h, free_of_row h, free_of_row h, free_of_row h⟩
theorem sI {α : Type _} (l : List α) (i : Nat) (a : α) : l.toArray.setIfInBounds i a = (l.set i a).toArray := List.setIfInBounds_toArray l i a
theorem sZ {α : Type _} (x : α) (xs : List α) (a : α) : (x :: xs).set 0 a = a :: xs := List.set_cons_zero
theorem sS {α : Type _} (x : α) (xs : List α) (n : Nat) (a : α) : (x :: xs).set (n + 1) a = x :: xs.set n a := List.set_cons_succ

theorem set_row {w : World} {b i : Nat} {cs : Array Value} {T : TypeId} {z : Nat × Nat} (v : Value) (h : w.heap[b]? = some (.cells cs T z)) : (w.setCell ⟨b, i, none⟩ v).heap[b]? = some (.cells (cs.setIfInBounds i v) T z) := by
  obtain ⟨hlt, hk⟩ := Array.getElem?_eq_some_iff.1 h
  show (w.heap.modify b _)[b]? = _
  rw [Array.getElem?_eq_getElem (by rw [Array.size_modify]; exact hlt), Array.getElem_modify_self, hk]
  rfl

end Go.Proofs.YtkceoiaaiaomoaaGreatDoor
end
section
set_option linter.unusedVariables false
namespace Go.Proofs.YtkceoiaaiaomoaaGreatDoor
open Go.RowKit

theorem ret_bool {a b : Bool} (h : a = b) : Ending.returned (.bool a) = .returned (.bool b) := by rw [h]
theorem ret_int {k : IntKind} {a b : Int} (h : a = b) : Ending.returned (.int k a) = .returned (.int k b) := by rw [h]
theorem add_block (a : Addr) (n : Nat) : (a.add n).block = a.block := by unfold Addr.add; split <;> rfl
theorem block_alloc (w : World) (o : Obj) : (w.alloc o).heap[w.heap.size]? = some o := World.alloc_heap_new w o
end Go.Proofs.YtkceoiaaiaomoaaGreatDoor
end
section
set_option linter.unusedVariables false
namespace Go.Proofs.YtkceoiaaiaomoaaGreatDoor
open Go.RowKit Go.ChangeShapes Go.WideShapes Go.Deep

inductive Tm where
  | mk (k n : Int) (s t : ByteArray) (l : List Tm)

namespace Tm
def k : Tm → Int | .mk k _ _ _ _ => k
def n : Tm → Int | .mk _ n _ _ _ => n
def s : Tm → ByteArray | .mk _ _ s _ _ => s
def t : Tm → ByteArray | .mk _ _ _ t _ => t
def l : Tm → List Tm | .mk _ _ _ _ l => l

theorem ind {M : Tm → Prop} (h : ∀ k n s t l, (∀ x ∈ l, M x) → M (.mk k n s t l)) (x : Tm) : M x :=
  Tm.rec (motive_1 := M) (motive_2 := fun l => ∀ x ∈ l, M x) (fun k n s t l hl => h k n s t l hl) (fun _ hx => nomatch hx)
    (fun a l ha hl x hx => by rcases List.mem_cons.1 hx with rfl | hx; exact ha; exact hl x hx) x

mutual
def pre : Tm → List Tm
  | .mk k n s t l => .mk k n s t l :: pres l
def pres : List Tm → List Tm
  | [] => []
  | x :: l => x.pre ++ pres l
end
theorem pre_ne (x : Tm) : 1 ≤ x.pre.length := by cases x; simp [pre]
theorem pres_append (a b : List Tm) : pres (a ++ b) = pres a ++ pres b := by
  induction a with
  | nil => simp [pres]
  | cons x a ih => simp [pres, ih]
theorem pres_append_cons (a b : List Tm) (y : Tm) : pres (a ++ (y :: b)) = pres a ++ (y.pre ++ pres b) := by rw [pres_append]; simp [pres]
theorem pres_snoc (a : List Tm) (x : Tm) : pres (a ++ [x]) = pres a ++ x.pre := by rw [pres_append]; simp [pres]
theorem pres_take_succ {l : List Tm} {j : Nat} {x : Tm} (h : l[j]? = some x) : pres (l.take (j + 1)) = pres (l.take j) ++ x.pre := by
  rw [List.take_add_one, h]; exact pres_snoc _ _
def nodes (x : Tm) : Nat := x.pre.length
end Tm

def ElemAt (w : World) (ad : Addr) (i : Nat) (v : Value) : Prop :=
  ∃ c0 c1 c2 c3 c4, v = .agg #[c0, c1, c2, c3, c4] ∧ w.cell? (ad.add (i * 5)) = some c0 ∧ w.cell? ⟨(ad.add (i * 5)).block, (ad.add (i * 5)).off + 1, none⟩ = some c1 ∧
    w.cell? ⟨(ad.add (i * 5)).block, (ad.add (i * 5)).off + 2, none⟩ = some c2 ∧ w.cell? ⟨(ad.add (i * 5)).block, (ad.add (i * 5)).off + 3, none⟩ = some c3 ∧ w.cell? ⟨(ad.add (i * 5)).block, (ad.add (i * 5)).off + 4, none⟩ = some c4

inductive TmAt (P : Nat → Prop) (w : World) : Tm → Value → Prop
  | mk {k n : Int} {s t : ByteArray} {l : List Tm} {A : Option Addr} {cap : Nat} (vs : Nat → Value) (hk : -128 ≤ k ∧ k ≤ 127) (hn : -9223372036854775808 ≤ n ∧ n ≤ 9223372036854775807) (hs : s.size ≤ maxLen) (ht : t.size ≤ maxLen) (hl : l.length ≤ maxLen) (hcap : l.length ≤ cap)
      (hc : ∀ j, j < l.length → ∃ ad, A = some ad ∧ P ad.block ∧ ElemAt w ad j (vs j)) (hx : ∀ j x, l[j]? = some x → TmAt P w x (vs j)) :
      TmAt P w (.mk k n s t l) (.agg #[.int .i8 k, .int .i64 n, .string s, .string t, .slice A l.length cap])

structure TRow (P : Nat → Prop) (w : World) (A : Option Addr) (n cap : Nat) (l : List Tm) : Prop where
  len : l.length = n
  max : n ≤ maxLen
  cap : n ≤ cap
  at_ : ∀ j x, l[j]? = some x → ∃ ad v, A = some ad ∧ P ad.block ∧ ElemAt w ad j v ∧ TmAt P w x v


theorem ElemAt.keep {w w' : World} {ad : Addr} {i : Nat} {v : Value} (h : ElemAt w ad i v) (hb : w'.heap[ad.block]? = w.heap[ad.block]?) : ElemAt w' ad i v := by
  obtain ⟨c0, c1, c2, c3, c4, e, h0, h1, h2, h3, h4⟩ := h
  have hbb : (ad.add (i * 5)).block = ad.block := add_block _ _
  refine ⟨c0, c1, c2, c3, c4, e, ?_, ?_, ?_, ?_, ?_⟩
  · exact (World.cell?_of_block (w := w) (a := ad.add (i * 5)) (by rw [hbb]; exact hb)).trans h0
  all_goals
    refine (World.cell?_of_block (w := w) (by show w'.heap[(ad.add (i * 5)).block]? = w.heap[(ad.add (i * 5)).block]?; rw [hbb]; exact hb)).trans ?_
    assumption

theorem TmAt.keep {P Q : Nat → Prop} {w w' : World} {x : Tm} {v : Value} (h : TmAt P w x v) (hb : ∀ b, P b → w'.heap[b]? = w.heap[b]?) (hQ : ∀ b, P b → Q b) : TmAt Q w' x v := by
  induction h with
  | mk vs hk hn hs ht hl hcap hc hx ih =>
    exact .mk vs hk hn hs ht hl hcap (fun j hj => by obtain ⟨ad, e, hp, he⟩ := hc j hj; exact ⟨ad, e, hQ _ hp, he.keep (hb _ hp)⟩) ih
theorem TmAt.mono {P Q : Nat → Prop} {w : World} {x : Tm} {v : Value} (h : TmAt P w x v) (hQ : ∀ b, P b → Q b) : TmAt Q w x v := h.keep (fun _ _ => rfl) hQ
theorem TmAt.mod {P F : Nat → Prop} {w w' : World} {x : Tm} {v : Value} (h : TmAt P w x v) (hm : Mod F w w') (hP : ∀ b, P b → b < w.heap.size ∧ ¬ F b) : TmAt P w' x v := h.keep (fun b hp => hm.block b (hP b hp).1 (hP b hp).2) (fun _ hp => hp)
theorem TmAt.under {B C : Nat} {w w' : World} {x : Tm} {v : Value} (h : TmAt (· < B) w x v) (hb : Below C w w') (hBC : B ≤ C) : TmAt (· < B) w' x v := h.keep (fun b hp => hb.block b (Nat.lt_of_lt_of_le hp hBC)) (fun _ hp => hp)

theorem TRow.keep {P Q : Nat → Prop} {w w' : World} {A : Option Addr} {n cap : Nat} {l : List Tm} (h : TRow P w A n cap l) (hb : ∀ b, P b → w'.heap[b]? = w.heap[b]?) (hQ : ∀ b, P b → Q b) : TRow Q w' A n cap l :=
  ⟨h.len, h.max, h.cap, fun j x hj => by obtain ⟨ad, v, e, hp, he, ht⟩ := h.at_ j x hj; exact ⟨ad, v, e, hQ _ hp, he.keep (hb _ hp), ht.keep hb hQ⟩⟩
theorem TRow.mono {P Q : Nat → Prop} {w : World} {A : Option Addr} {n cap : Nat} {l : List Tm} (h : TRow P w A n cap l) (hQ : ∀ b, P b → Q b) : TRow Q w A n cap l := h.keep (fun _ _ => rfl) hQ
theorem TRow.mod {P F : Nat → Prop} {w w' : World} {A : Option Addr} {n cap : Nat} {l : List Tm} (h : TRow P w A n cap l) (hm : Mod F w w') (hP : ∀ b, P b → b < w.heap.size ∧ ¬ F b) : TRow P w' A n cap l := h.keep (fun b hp => hm.block b (hP b hp).1 (hP b hp).2) (fun _ hp => hp)
theorem TRow.under {B C : Nat} {w w' : World} {A : Option Addr} {n cap : Nat} {l : List Tm} (h : TRow (· < B) w A n cap l) (hb : Below C w w') (hBC : B ≤ C) : TRow (· < B) w' A n cap l := h.keep (fun b hp => hb.block b (Nat.lt_of_lt_of_le hp hBC)) (fun _ hp => hp)

theorem TmAt.parts {P : Nat → Prop} {w : World} {k n : Int} {s t : ByteArray} {l : List Tm} {v : Value} (h : TmAt P w (.mk k n s t l) v) :
    ∃ A cap, v = .agg #[.int .i8 k, .int .i64 n, .string s, .string t, .slice A l.length cap] ∧ TRow P w A l.length cap l ∧ (-128 ≤ k ∧ k ≤ 127) ∧ (-9223372036854775808 ≤ n ∧ n ≤ 9223372036854775807) ∧ s.size ≤ maxLen ∧ t.size ≤ maxLen := by
  cases h with
  | mk vs hk hn hs ht hl hcap hc hx =>
    refine ⟨_, _, rfl, ⟨rfl, hl, hcap, fun j x hj => ?_⟩, hk, hn, hs, ht⟩
    obtain ⟨ad, e, hp, he⟩ := hc j (List.getElem?_eq_some_iff.1 hj).1
    exact ⟨ad, _, e, hp, he, hx j x hj⟩
theorem TmAt.of_row {P : Nat → Prop} {w : World} {k n : Int} {s t : ByteArray} {l : List Tm} {A : Option Addr} {cap : Nat} (h : TRow P w A l.length cap l) (hk : -128 ≤ k ∧ k ≤ 127) (hn : -9223372036854775808 ≤ n ∧ n ≤ 9223372036854775807) (hs : s.size ≤ maxLen) (ht : t.size ≤ maxLen) :
    TmAt P w (.mk k n s t l) (.agg #[.int .i8 k, .int .i64 n, .string s, .string t, .slice A l.length cap]) := by
  have key : ∀ j, ∃ v, ∀ x, l[j]? = some x → ∃ ad, A = some ad ∧ P ad.block ∧ ElemAt w ad j v ∧ TmAt P w x v := by
    intro j
    cases hj : l[j]? with
    | none => exact ⟨undef, fun x h => by cases h⟩
    | some x => obtain ⟨ad, v, h1⟩ := h.at_ j x hj; exact ⟨v, fun y hy => by cases hy; exact ⟨ad, h1⟩⟩
  exact .mk (fun j => Classical.choose (key j)) hk hn hs ht h.max h.cap
    (fun j hj => by obtain ⟨ad, e, hp, he, _⟩ := Classical.choose_spec (key j) _ (List.getElem?_eq_getElem hj); exact ⟨ad, e, hp, he⟩)
    (fun j x hj => by obtain ⟨ad, e, hp, he, ht⟩ := Classical.choose_spec (key j) x hj; exact ht)

theorem TRow.nil (P : Nat → Prop) (w : World) (A : Option Addr) (cap : Nat) : TRow P w A 0 cap [] := ⟨rfl, Nat.zero_le _, Nat.zero_le _, fun j x h => by simp at h⟩

theorem tcells_term : Tryz.prog.cellsOf 44 = 5 := by kernel_rfl
theorem tcells_row : Tryz.prog.cellsOf 42 = 1 := by kernel_rfl
theorem tcells_int : Tryz.prog.cellsOf 3 = 1 := by kernel_rfl
theorem tcells_i8 : Tryz.prog.cellsOf 22 = 1 := by kernel_rfl
theorem tcells_str : Tryz.prog.cellsOf 9 = 1 := by kernel_rfl

theorem add_next (ad : Addr) (i : Nat) : (ad.add i).add 0 = ad.add i := by simp [Addr.add]
theorem add_next' (ad : Addr) (i j : Nat) : (ad.add i).add (j + 1) = ⟨(ad.add i).block, (ad.add i).off + (j + 1), none⟩ := by simp [Addr.add]

theorem i8_wf {n : Int} (h : (Lit.int .i8 n).wf = true) : -128 ≤ n ∧ n ≤ 127 := by
  unfold Lit.wf at h; simp only [Bool.and_eq_true, decide_eq_true_eq] at h; exact h
theorem i64_wf {n : Int} (h : (Lit.int .i64 n).wf = true) : -9223372036854775808 ≤ n ∧ n ≤ 9223372036854775807 := by
  unfold Lit.wf at h; simp only [Bool.and_eq_true, decide_eq_true_eq] at h; exact h


theorem rows_choose {α : Type} {n : Nat} {p : Nat → α → Prop} (h : ∀ i, i < n → ∃ a, p i a) : ∃ l : List α, l.length = n ∧ ∀ i a, l[i]? = some a → p i a := by
  induction n with
  | zero => exact ⟨[], rfl, fun i a h => by simp at h⟩
  | succ n ih =>
    obtain ⟨l, hl, hp⟩ := ih (fun i hi => h i (by omega))
    obtain ⟨a, ha⟩ := h n (by omega)
    refine ⟨l ++ [a], by simp [hl], fun i b hb => ?_⟩
    rw [List.getElem?_append] at hb
    split at hb
    · exact hp i b hb
    · have hin : i = n := by
        have := (List.getElem?_eq_some_iff.1 hb).1
        simp at this; omega
      subst hin
      simp [hl] at hb
      subst hb
      exact ha

set_option maxRecDepth 100000 in
theorem open_row {H : Type} {enc : TypeId × Value → H} {W : World} {fuel : Nat} {v : Value} {x : DataW H × List MemPlace}
    (ih : ∀ n, n < fuel → ∀ cs x, DataW.trod enc Tryz.prog W 0 (fun _ => true) true n 44 cs = some x → ∃ t, TmAt (· < W.heap.size) W t (.agg cs.toArray))
    (h : DataW.trod enc Tryz.prog W 0 (fun _ => true) true fuel 42 [v] = some x) : ∃ A n cap l, v = .slice A n cap ∧ TRow (· < W.heap.size) W A n cap l := by
  rcases DataW.trod_slice Tryz.underlying42 h with ⟨hcs, _⟩ | ⟨a, len, cap, elems, rest, n, hfu, hcs, _, hb, hl, hm, hlen, hel, _, _⟩
  · simp at hcs
    exact ⟨none, 0, 0, [], hcs, .nil _ _ _ _⟩
  · simp at hcs
    subst hcs
    rw [tcells_term] at hel
    have each : ∀ i, i < len → ∃ t v, a.block < W.heap.size ∧ ElemAt W a i v ∧ TmAt (· < W.heap.size) W t v := by
      intro i hi
      have h1 := hel i hi
      rw [List.getElem?_eq_getElem (by omega)] at h1
      obtain ⟨cs, hc, ht⟩ := Option.bind_eq_some_iff.1 h1
      obtain ⟨t, hT⟩ := ih n (by omega) cs _ ht
      obtain ⟨_, hcl, hat⟩ := World.cells?_some hc
      match cs, hcl with
      | [c0, c1, c2, c3, c4], _ =>
        have e0 := hat 0 (by decide)
        have e1 := hat 1 (by decide)
        have e2 := hat 2 (by decide)
        have e3 := hat 3 (by decide)
        have e4 := hat 4 (by decide)
        rw [add_next] at e0
        rw [add_next'] at e1 e2 e3 e4
        refine ⟨t, _, ?_, ⟨c0, c1, c2, c3, c4, rfl, e0, e1, e2, e3, e4⟩, hT⟩
        have := World.block_lt_of_cell? W _ (e0.trans rfl)
        rwa [add_block] at this
    obtain ⟨l, hll, hlp⟩ := rows_choose (p := fun j x => ∃ v, a.block < W.heap.size ∧ ElemAt W a j v ∧ TmAt (· < W.heap.size) W x v) each
    exact ⟨some a, len, cap, l, rfl, hll, Nat.le_trans hl hm, hl, fun j x hj => by obtain ⟨v, h1, h2, h3⟩ := hlp j x hj; exact ⟨a, v, rfl, h1, h2, h3⟩⟩

set_option maxRecDepth 100000 in
theorem open_term_fuel {H : Type} {enc : TypeId × Value → H} {W : World} (fuel : Nat) : ∀ cs x, DataW.trod enc Tryz.prog W 0 (fun _ => true) true fuel 44 cs = some x → ∃ t, TmAt (· < W.heap.size) W t (.agg cs.toArray) := by
  induction fuel using Nat.strongRecOn with
  | ind fuel ih =>
    intro cs x h
    obtain ⟨xs, n, hfu, _, hlen, hxl, hf⟩ := DataW.trod_struct Tryz.underlying44 h
    rw [tcells_term] at hlen
    match cs, hlen with
    | [c0, c1, c2, c3, c4], _ =>
      have f0 : DataW.trod enc Tryz.prog W 0 (fun _ => true) true n 22 (([c0, c1, c2, c3, c4].drop 0).take (Tryz.prog.cellsOf 22)) = xs[0]? := hf 0 _ rfl
      have f1 : DataW.trod enc Tryz.prog W 0 (fun _ => true) true n 3 (([c0, c1, c2, c3, c4].drop 1).take (Tryz.prog.cellsOf 3)) = xs[1]? := hf 1 _ rfl
      have f2 : DataW.trod enc Tryz.prog W 0 (fun _ => true) true n 9 (([c0, c1, c2, c3, c4].drop 2).take (Tryz.prog.cellsOf 9)) = xs[2]? := hf 2 _ rfl
      have f3 : DataW.trod enc Tryz.prog W 0 (fun _ => true) true n 9 (([c0, c1, c2, c3, c4].drop 3).take (Tryz.prog.cellsOf 9)) = xs[3]? := hf 3 _ rfl
      have f4 : DataW.trod enc Tryz.prog W 0 (fun _ => true) true n 42 (([c0, c1, c2, c3, c4].drop 4).take (Tryz.prog.cellsOf 42)) = xs[4]? := hf 4 _ rfl
      rw [tcells_i8] at f0
      rw [tcells_int] at f1
      rw [tcells_str] at f2 f3
      rw [tcells_row] at f4
      match xs, hxl with
      | [y0, y1, y2, y3, y4], _ =>
        simp at f0 f1 f2 f3 f4
        obtain ⟨k, e0, _, hk⟩ := DataW.trod_int Tryz.underlying22 f0
        obtain ⟨m, e1, _, hm⟩ := DataW.trod_int Tryz.underlying3 f1
        obtain ⟨s, e2, _, hs⟩ := DataW.trod_string Tryz.underlying9 f2
        obtain ⟨t, e3, _, ht⟩ := DataW.trod_string Tryz.underlying9 f3
        obtain ⟨A, len, cap, l, rfl, hr⟩ := open_row (fun n' hn' => ih n' (by omega)) f4
        simp at e0 e1 e2 e3
        subst e0 e1 e2 e3
        obtain rfl := hr.len
        exact ⟨.mk k m s t l, .of_row hr (i8_wf hk) (i64_wf hm) hs ht⟩

set_option maxRecDepth 100000 in
theorem open_terms {H : Type} {enc : TypeId × Value → H} {W : World} {base : Nat} {v : Value} {d : DataW H} {p : List MemPlace} (hv : Value.okWide Tryz.prog W .any base 42 v) (h : DataW.Trod enc Tryz.prog W 0 (fun _ => true) true 42 v d p) : ∃ A n cap l, v = .slice A n cap ∧ TRow (· < W.heap.size) W A n cap l := by
  obtain ⟨a0, len, cap, rfl⟩ := okWide_slice Tryz.underlying42 hv
  obtain ⟨fuel, hf⟩ := h
  simp [Value.cells] at hf
  exact open_row (fun n _ => open_term_fuel n) hf
end Go.Proofs.YtkceoiaaiaomoaaGreatDoor
end
section
set_option linter.unusedVariables false
namespace Go.Proofs.YtkceoiaaiaomoaaGreatDoor
open Go.RowKit Go.ChangeShapes Go.WideShapes Go.Deep

abbrev Bd := ByteArray × Tm

def BElem (w : World) (ad : Addr) (i : Nat) (s : ByteArray) (v : Value) : Prop :=
  ∃ c0 c1 c2 c3 c4, v = .agg #[c0, c1, c2, c3, c4] ∧ w.cell? (ad.add (i * 6)) = some (.string s) ∧ w.cell? ⟨(ad.add (i * 6)).block, (ad.add (i * 6)).off + 1, none⟩ = some c0 ∧
    w.cell? ⟨(ad.add (i * 6)).block, (ad.add (i * 6)).off + 2, none⟩ = some c1 ∧ w.cell? ⟨(ad.add (i * 6)).block, (ad.add (i * 6)).off + 3, none⟩ = some c2 ∧ w.cell? ⟨(ad.add (i * 6)).block, (ad.add (i * 6)).off + 4, none⟩ = some c3 ∧
    w.cell? ⟨(ad.add (i * 6)).block, (ad.add (i * 6)).off + 5, none⟩ = some c4
theorem BElem.keep {w w' : World} {ad : Addr} {i : Nat} {s : ByteArray} {v : Value} (h : BElem w ad i s v) (hb : w'.heap[ad.block]? = w.heap[ad.block]?) : BElem w' ad i s v := by
  obtain ⟨c0, c1, c2, c3, c4, e, hs, h0, h1, h2, h3, h4⟩ := h
  have hbb : (ad.add (i * 6)).block = ad.block := add_block _ _
  refine ⟨c0, c1, c2, c3, c4, e, ?_, ?_, ?_, ?_, ?_, ?_⟩
  · exact (World.cell?_of_block (w := w) (a := ad.add (i * 6)) (by rw [hbb]; exact hb)).trans hs
  all_goals
    refine (World.cell?_of_block (w := w) (by show w'.heap[(ad.add (i * 6)).block]? = w.heap[(ad.add (i * 6)).block]?; rw [hbb]; exact hb)).trans ?_
    assumption

structure BRow (P : Nat → Prop) (w : World) (A : Option Addr) (n cap : Nat) (l : List Bd) : Prop where
  len : l.length = n
  max : n ≤ maxLen
  cap : n ≤ cap
  at_ : ∀ j b, l[j]? = some b → ∃ ad v, A = some ad ∧ P ad.block ∧ b.1.size ≤ maxLen ∧ BElem w ad j b.1 v ∧ TmAt P w b.2 v
theorem BRow.keep {P Q : Nat → Prop} {w w' : World} {A : Option Addr} {n cap : Nat} {l : List Bd} (h : BRow P w A n cap l) (hb : ∀ b, P b → w'.heap[b]? = w.heap[b]?) (hQ : ∀ b, P b → Q b) : BRow Q w' A n cap l :=
  ⟨h.len, h.max, h.cap, fun j x hj => by obtain ⟨ad, v, e, hp, hs, he, ht⟩ := h.at_ j x hj; exact ⟨ad, v, e, hQ _ hp, hs, he.keep (hb _ hp), ht.keep hb hQ⟩⟩
theorem BRow.later {w V : World} {A : Option Addr} {n cap : Nat} {l : List Bd} (h : BRow (· < w.heap.size) w A n cap l) (hb : Below w.heap.size w V) : BRow (· < V.heap.size) V A n cap l :=
  h.keep (fun b hb' => hb.block b hb') (fun b hb' => Nat.lt_of_lt_of_le hb' hb.size)
theorem BRow.under {B C : Nat} {w w' : World} {A : Option Addr} {n cap : Nat} {l : List Bd} (h : BRow (· < B) w A n cap l) (hb : Below C w w') (hBC : B ≤ C) : BRow (· < B) w' A n cap l :=
  h.keep (fun b hp => hb.block b (Nat.lt_of_lt_of_le hp hBC)) (fun _ hp => hp)
theorem BRow.nil (P : Nat → Prop) (w : World) (A : Option Addr) (cap : Nat) : BRow P w A 0 cap [] := ⟨rfl, Nat.zero_le _, Nat.zero_le _, fun j x h => by simp at h⟩

def findB : List Bd → ByteArray → Option Tm
  | [], _ => none
  | b :: l, s => if b.1 = s then some b.2 else findB l s
theorem findB_mem : ∀ {l : List Bd} {s : ByteArray} {t : Tm}, findB l s = some t → (s, t) ∈ l
  | b :: l, s, t, h => by
    unfold findB at h
    by_cases e : b.1 = s
    · rw [if_pos e] at h; cases h; subst e; exact List.mem_cons_self
    · rw [if_neg e] at h; exact List.mem_cons_of_mem _ (findB_mem h)

theorem tcells_bind : Tryz.prog.cellsOf 61 = 6 := by kernel_rfl
set_option maxRecDepth 100000 in
theorem open_bind_fuel {H : Type} {enc : TypeId × Value → H} {W : World} (fuel : Nat) : ∀ cs x, DataW.trod enc Tryz.prog W 0 (fun _ => true) true fuel 61 cs = some x →
    ∃ s t c0 c1 c2 c3 c4, cs = [.string s, c0, c1, c2, c3, c4] ∧ s.size ≤ maxLen ∧ TmAt (· < W.heap.size) W t (.agg #[c0, c1, c2, c3, c4]) := by
  intro cs x h
  obtain ⟨xs, n, hfu, _, hlen, hxl, hf⟩ := DataW.trod_struct Tryz.underlying61 h
  rw [tcells_bind] at hlen
  match cs, hlen with
  | [cs0, c0, c1, c2, c3, c4], _ =>
    have f0 : DataW.trod enc Tryz.prog W 0 (fun _ => true) true n 9 (([cs0, c0, c1, c2, c3, c4].drop 0).take (Tryz.prog.cellsOf 9)) = xs[0]? := hf 0 _ rfl
    have f1 : DataW.trod enc Tryz.prog W 0 (fun _ => true) true n 44 (([cs0, c0, c1, c2, c3, c4].drop 1).take (Tryz.prog.cellsOf 44)) = xs[1]? := hf 1 _ rfl
    rw [tcells_str] at f0
    rw [tcells_term] at f1
    match xs, hxl with
    | [y0, y1], _ =>
      simp at f0 f1
      obtain ⟨s, e0, _, hs⟩ := DataW.trod_string Tryz.underlying9 f0
      obtain ⟨t, hT⟩ := open_term_fuel n _ _ f1
      simp at e0
      subst e0
      exact ⟨s, t, c0, c1, c2, c3, c4, rfl, hs, hT⟩
set_option maxRecDepth 100000 in
theorem open_brow {H : Type} {enc : TypeId × Value → H} {W : World} {fuel : Nat} {v : Value} {x : DataW H × List MemPlace}
    (h : DataW.trod enc Tryz.prog W 0 (fun _ => true) true fuel 45 [v] = some x) : ∃ A n cap l, v = .slice A n cap ∧ BRow (· < W.heap.size) W A n cap l := by
  rcases DataW.trod_slice Tryz.underlying45 h with ⟨hcs, _⟩ | ⟨a, len, cap, elems, rest, n, hfu, hcs, _, hb, hl, hm, hlen, hel, _, _⟩
  · simp at hcs
    exact ⟨none, 0, 0, [], hcs, .nil _ _ _ _⟩
  · simp at hcs
    subst hcs
    rw [tcells_bind] at hel
    have each : ∀ i, i < len → ∃ b : Bd, ∃ v, a.block < W.heap.size ∧ b.1.size ≤ maxLen ∧ BElem W a i b.1 v ∧ TmAt (· < W.heap.size) W b.2 v := by
      intro i hi
      have h1 := hel i hi
      rw [List.getElem?_eq_getElem (by omega)] at h1
      obtain ⟨cs, hc, ht⟩ := Option.bind_eq_some_iff.1 h1
      obtain ⟨s, t, c0, c1, c2, c3, c4, rfl, hs, hT⟩ := open_bind_fuel n cs _ ht
      obtain ⟨_, hcl, hat⟩ := World.cells?_some hc
      have e0 := hat 0 (by decide)
      have e1 := hat 1 (by decide)
      have e2 := hat 2 (by decide)
      have e3 := hat 3 (by decide)
      have e4 := hat 4 (by decide)
      have e5 := hat 5 (by decide)
      rw [add_next] at e0
      rw [add_next'] at e1 e2 e3 e4 e5
      refine ⟨(s, t), _, ?_, hs, ⟨c0, c1, c2, c3, c4, rfl, e0, e1, e2, e3, e4, e5⟩, hT⟩
      have := World.block_lt_of_cell? W _ (e0.trans rfl)
      rwa [add_block] at this
    obtain ⟨l, hll, hlp⟩ := rows_choose (p := fun j (x : Bd) => ∃ v, a.block < W.heap.size ∧ x.1.size ≤ maxLen ∧ BElem W a j x.1 v ∧ TmAt (· < W.heap.size) W x.2 v) each
    exact ⟨some a, len, cap, l, rfl, hll, Nat.le_trans hl hm, hl, fun j x hj => by obtain ⟨v, h1, h2, h3, h4⟩ := hlp j x hj; exact ⟨a, v, rfl, h1, h2, h3, h4⟩⟩
set_option maxRecDepth 100000 in
theorem open_binds {H : Type} {enc : TypeId × Value → H} {W : World} {base : Nat} {v : Value} {d : DataW H} {p : List MemPlace} (hv : Value.okWide Tryz.prog W .any base 45 v) (h : DataW.Trod enc Tryz.prog W 0 (fun _ => true) true 45 v d p) : ∃ A n cap l, v = .slice A n cap ∧ BRow (· < W.heap.size) W A n cap l := by
  obtain ⟨a0, len, cap, rfl⟩ := okWide_slice Tryz.underlying45 hv
  obtain ⟨fuel, hf⟩ := h
  simp [Value.cells] at hf
  exact open_brow hf
end Go.Proofs.YtkceoiaaiaomoaaGreatDoor
end
