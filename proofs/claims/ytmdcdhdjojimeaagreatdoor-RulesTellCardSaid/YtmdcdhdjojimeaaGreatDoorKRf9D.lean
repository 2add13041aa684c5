/- Layer 9: the document's own Names. -/
import Derived.Test.YtmdcdhdjojimeaaGreatDoorKSet9
import Derived.Test.YtmdcdhdjojimeaaGreatDoorKTmL
import Derived.Test.YtmdcdhdjojimeaaGreatDoorKFnsR9
import Derived.Test.YtmdcdhdjojimeaaGreatDoorKRf9B
import Derived.Test.YtmdcdhdjojimeaaGreatDoorKWr6
import Derived.Test.YtmdcdhdjojimeaaGreatDoorKFind9
import Derived.Test.YtmdcdhdjojimeaaGreatDoorKRf9A
section
set_option linter.unusedVariables false
set_option linter.unusedSimpArgs false
namespace Go.Proofs.YtmdcdhdjojimeaaGreatDoor
open Go.RowKit

def curW (m : ByteArray) : List Tm → ByteArray
 | [] => m
 | y :: l => curW (if y.k = 1 then y.s else m) l
theorem cur_none {m : ByteArray} : ∀ {l : List Tm}, (∀ y ∈ l, y.k ≠ 1) → curW m l = m
 | [], _ => rfl
 | y :: l, h => by rw [curW, if_neg (h y List.mem_cons_self), cur_none (fun z hz => h z (List.mem_cons_of_mem _ hz))]
end Go.Proofs.YtmdcdhdjojimeaaGreatDoor
end
section
set_option linter.unusedVariables false
set_option linter.unusedSimpArgs false
namespace Go.Proofs.YtmdcdhdjojimeaaGreatDoor
open Go.RowKit

theorem any_k {k n : Int} {s t : ByteArray} {l : List Tm} (h : anyB (.mk k n s t l)) : 3 ≤ k := by
 have hx : exprB (.mk k n s t l) = true → 3 ≤ k := fun h => by
  rw [exprB] at h
  simp only [Bool.or_eq_true, or_assoc] at h
  rcases h with h | h | h | h | h | h | h | h | h | h | h | h
  ·have := (leaf_kinds h).2; omega
  all_goals (simp only [Bool.and_eq_true, beq_iff_eq] at h; omega)
 rcases h with h | h | h | h | h | ⟨m, hm, h⟩ | h
 ·exact hx (pat_expr _ h)
 ·exact hx (gua_expr _ h)
 ·rw [testB] at h
  simp only [Bool.and_eq_true, Bool.or_eq_true, beq_iff_eq] at h
  rcases h.1.1.1 with h | h
  ·have := h.1.1; omega
  ·have := h.1.1; omega
 ·rw [guardB] at h
  simp only [Bool.and_eq_true, beq_iff_eq] at h
  omega
 ·exact hx h
 ·rw [clB] at h
  simp only [Bool.and_eq_true, beq_iff_eq] at h
  omega
 ·rw [afterB] at h
  simp only [Bool.and_eq_true, beq_iff_eq] at h
  omega
theorem any_pre3 (x : Tm) : anyB x → ∀ z ∈ x.pre, 3 ≤ z.k := by
 induction x using Tm.ind with
 | h k n s t l ih =>
  intro h z hz
  rw [Tm.pre] at hz
  rcases List.mem_cons.1 hz with rfl | hz
  ·exact any_k h
  ·obtain ⟨y, hy, hzy⟩ := mem_presX hz
   exact ih y hy ((step9 h).2.2 y hy) z hzy
structure Fun9 (f : Tm) : Prop where
 kind : f.k = 2
 arity : 0 ≤ f.n ∧ f.n ≤ 8
 cls : ∀ c ∈ f.l, c.n = f.n ∧ (∃ j, clB j c = true) ∧ ∀ z ∈ c.pre, 3 ≤ z.k
theorem funB_9 {f : Tm} (h : funB f = true) : Fun9 f := by
 obtain ⟨k, n, s, t, l⟩ := f
 have hF := funB_ok h
 rw [funB] at h
 simp only [Bool.and_eq_true, beq_iff_eq, decide_eq_true_eq] at h
 refine ⟨hF.kind, hF.arity, fun c hc => ⟨(hF.cls c hc).1, ?_⟩⟩
 have h8 : n.toNat ≤ 8 := by omega
 have h2 := clsB_mem h8 h.2 hc
 exact ⟨⟨_, h2⟩, any_pre3 c (cl_any h8 h2)⟩
structure Mod9 (m : Tm) : Prop where
 kind : m.k = 1
 n0 : m.n = 0
 funs : ∀ f ∈ m.l, Fun9 f
theorem modsB_9 {x : Tm} (h : modsB x = true) : x.k = 0 ∧ ∀ m ∈ x.l, Mod9 m := by
 obtain ⟨k, n, s, t, l⟩ := x
 rw [modsB] at h
 simp only [Bool.and_eq_true, beq_iff_eq, List.all_eq_true] at h
 refine ⟨h.1.1.1.1, fun m hm => ?_⟩
 have h2 := h.2 m hm
 obtain ⟨k, n, s, t, l⟩ := m
 rw [modB] at h2
 simp only [Bool.and_eq_true, beq_iff_eq, List.all_eq_true] at h2
 exact ⟨h2.1.1.1.1, h2.1.1.1.2, fun f hf => funB_9 (h2.2 f hf)⟩

structure CS where
 mods : Int
 funs : Int
 names : Int
 own : Int
 unk : Int
 slots : Int
 at_ : Nat
def stepC (ar : Int) (S : CS) (c : Tm) : CS := { S with names := leastI S.names (fst9 90 (clW (32 - ar) S.at_ c).fl), slots := leastI S.slots (fst9 11 (clW (32 - ar) S.at_ c).fl), at_ := S.at_ + c.nodes }
def headF (F : List Fn9) (ms : ByteArray) (pre : List Tm) (S : CS) (f : Tm) : CS :=
 { S with funs := if (f.s, f.n) ∈ pre.map (fun y => (y.s, y.n)) then leastI S.funs S.at_ else S.funs, own := if builtB f.s f.n = true then leastI S.own S.at_ else S.own, unk := leastI S.unk (oI (badW F ms S.at_ f.pre)), at_ := S.at_ + 1 }
def stepF (F : List Fn9) (ms : ByteArray) (pre : List Tm) (S : CS) (f : Tm) : CS := f.l.foldl (stepC f.n) (headF F ms pre S f)
def foldF (F : List Fn9) (ms : ByteArray) (pre : List Tm) (S : CS) : List Tm → CS
 | [] => S
 | f :: l => foldF F ms (pre ++ [f]) (stepF F ms pre S f) l
def headM (pre : List Tm) (S : CS) (m : Tm) : CS := { S with mods := if m.s ∈ pre.map (·.s) then leastI S.mods S.at_ else S.mods, at_ := S.at_ + 1 }
def stepM (F : List Fn9) (pre : List Tm) (S : CS) (m : Tm) : CS := foldF F m.s [] (headM pre S m) m.l
def foldM9 (F : List Fn9) (pre : List Tm) (S : CS) : List Tm → CS
 | [] => S
 | m :: l => foldM9 F (pre ++ [m]) (stepM F pre S m) l
def CS0 : CS := ⟨-1, -1, -1, -1, -1, -1, 1⟩
def ansC (S : CS) : Int × Int :=
 if 0 ≤ S.mods then (91, S.mods) else if 0 ≤ S.funs then (91, S.funs) else if 0 ≤ S.names then (90, S.names) else if 0 ≤ S.own ∧ (S.unk < 0 ∨ S.own < S.unk) then (91, S.own) else if 0 ≤ S.unk then (92, S.unk) else if 0 ≤ S.slots then (11, S.slots) else (0, 0)
theorem foldF_snoc (F : List Fn9) (ms : ByteArray) : ∀ (l : List Tm) (pre : List Tm) (S : CS) (j : Nat) (f : Tm), l[j]? = some f → foldF F ms pre S (l.take (j + 1)) = stepF F ms (pre ++ l.take j) (foldF F ms pre S (l.take j)) f
 | [], pre, S, j, f, h => by simp at h
 | y :: l, pre, S, 0, f, h => by
  simp at h; subst h
  simp [foldF]
 | y :: l, pre, S, j + 1, f, h => by
  rw [List.take_succ_cons, List.take_succ_cons, foldF, foldF, foldF_snoc F ms l _ _ j f (by simpa using h), List.append_assoc]
  rfl
theorem foldM_snoc (F : List Fn9) : ∀ (l : List Tm) (pre : List Tm) (S : CS) (j : Nat) (f : Tm), l[j]? = some f → foldM9 F pre S (l.take (j + 1)) = stepM F (pre ++ l.take j) (foldM9 F pre S (l.take j)) f
 | [], pre, S, j, f, h => by simp at h
 | y :: l, pre, S, 0, f, h => by
  simp at h; subst h
  simp [foldM9]
 | y :: l, pre, S, j + 1, f, h => by
  rw [List.take_succ_cons, List.take_succ_cons, foldM9, foldM9, foldM_snoc F l _ _ j f (by simpa using h), List.append_assoc]
  rfl
theorem foldC_snoc (ar : Int) (S : CS) (l : List Tm) (j : Nat) (c : Tm) (h : l[j]? = some c) : (l.take (j + 1)).foldl (stepC ar) S = stepC ar ((l.take j).foldl (stepC ar) S) c := by
 rw [List.take_add_one, h, Option.toList, List.foldl_append]
 rfl

/-! ### The first of each kind -/
structure OS where
 mo : Option Nat
 fo : Option Nat
 no : Option Nat
 oo : Option Nat
 uo : Option Nat
 so : Option Nat
def Lt9 (o : Option Nat) (p : Nat) : Prop := ∀ q, o = some q → q < p
structure Good9 (S : CS) (O : OS) (p r : Nat) : Prop where
 at_ : S.at_ = p
 mods : S.mods = oI O.mo
 funs : S.funs = oI O.fo
 names : S.names = oI O.no
 own : S.own = oI O.oo
 unk : S.unk = oI O.uo
 slots : S.slots = oI O.so
 lm : Lt9 O.mo p
 lf : Lt9 O.fo p
 ln : Lt9 O.no p
 lo : Lt9 O.oo p
 lu : Lt9 O.uo r
 ls : Lt9 O.so p
theorem Lt9.mono {o : Option Nat} {p r : Nat} (h : Lt9 o p) (hr : p ≤ r) : Lt9 o r := fun q hq => Nat.lt_of_lt_of_le (h q hq) hr
theorem least_or {o u : Option Nat} {p : Nat} (h : Lt9 o p) (g : ∀ q, u = some q → p ≤ q) : leastI (oI o) (oI u) = oI (o.or u) := by
 cases o with
 | none =>
  show leastI (-1) (oI u) = _
  unfold leastI
  rw [if_pos (.inl (by decide))]
  rfl
 | some a =>
  have h1 := h a rfl
  show leastI (a : Int) (oI u) = (a : Int)
  unfold leastI
  rw [if_neg]
  rintro (h2 | ⟨h2, h3⟩)
  ·omega
  ·cases u with
   | none => have : oI none = -1 := rfl; omega
   | some b => have := g b rfl; have h4 : oI (some b) = (b : Int) := rfl; omega
theorem lt_or {o u : Option Nat} {p r : Nat} (h : Lt9 o p) (g : Lt9 u r) (hr : p ≤ r) : Lt9 (o.or u) r := by
  cases o with
  | none => simpa using g
  | some a => intro q hq; have : a = q := by simpa using hq
              have := h a rfl; omega
def place9 (e : Int) (fl : List (Int × Nat)) : Option Nat := (findF e fl).map (·.2)
theorem fst_place (e : Int) (fl : List (Int × Nat)) : fst9 e fl = oI (place9 e fl) := by
 unfold fst9 place9
 cases findF e fl <;> rfl
theorem place_append (e : Int) (a b : List (Int × Nat)) : place9 e (a ++ b) = (place9 e a).or (place9 e b) := by
 unfold place9
 rw [findF_append]
 cases findF e a <;> rfl
theorem findF_in {e : Int} : ∀ {fl : List (Int × Nat)} {x : Int × Nat}, findF e fl = some x → x ∈ fl ∧ x.1 = e
 | y :: fl, x, h => by
  rw [findF] at h
  by_cases hy : y.1 = e
  ·rw [if_pos hy] at h; cases h; exact ⟨List.mem_cons_self, hy⟩
  ·rw [if_neg hy] at h
   exact ⟨List.mem_cons_of_mem _ (findF_in h).1, (findF_in h).2⟩
def Rg9 (st : Wk) (p r : Nat) (st' : Wk) : Prop := ∀ x ∈ st'.fl, x ∈ st.fl ∨ (p ≤ x.2 ∧ x.2 < r)
theorem Rg9.refl (st : Wk) (p r : Nat) : Rg9 st p r st := fun x h => .inl h
theorem Rg9.trans {a b c : Wk} {p q r s p0 r0 : Nat} (h : Rg9 a p q b) (g : Rg9 b r s c) (h1 : p0 ≤ p) (h2 : q ≤ r0) (h3 : p0 ≤ r) (h4 : s ≤ r0) : Rg9 a p0 r0 c := fun x hx => by
 rcases g x hx with h5 | h5
 ·rcases h x h5 with h6 | h6
  ·exact .inl h6
  ·exact .inr (by omega)
 ·exact .inr (by omega)
theorem rg_bind {most : Int} {st : Wk} {s : ByteArray} {p : Nat} : Rg9 st p (p + 1) (bindW most st s p) := by
 intro x hx
 unfold bindW at hx
 split at hx
 ·exact .inl hx
 ·dsimp only at hx
  split at hx
  ·rcases List.mem_append.1 hx with h | h
   ·exact .inl h
   ·simp only [List.mem_cons, List.not_mem_nil, or_false] at h; subst h; exact .inr (by dsimp only; omega)
  ·exact .inl hx
theorem rg_told {st : Wk} {s : ByteArray} {p : Nat} : Rg9 st p (p + 1) (toldW st s p) := by
 intro x hx
 unfold toldW at hx
 split at hx
 ·exact .inl hx
 ·dsimp only at hx
  rcases List.mem_append.1 hx with h | h
  ·exact .inl h
  ·simp only [List.mem_cons, List.not_mem_nil, or_false] at h; subst h; exact .inr (by dsimp only; omega)
theorem rg_pat {most : Int} : ∀ (L : List Tm) (st : Wk) (p : Nat), Rg9 st p (p + L.length) (patW most st p L)
 | [], st, p => by rw [patW]; exact .refl _ _ _
 | y :: L, st, p => by
  rw [patW, List.length_cons]
  have h := rg_pat (most := most) L (if y.k = 5 ∧ ¬ y.s.data.toList = [95] then bindW most st y.s p else st) (p + 1)
  split at h
  ·rw [if_pos (by assumption)]
   exact rg_bind.trans h (Nat.le_refl _) (by omega) (by omega) (by omega)
  ·rw [if_neg (by assumption)]
   exact (Rg9.refl st p p).trans h (Nat.le_refl _) (by omega) (by omega) (by omega)
theorem rg_all' {most : Int} : ∀ (l : List Tm), (∀ x ∈ l, ∀ (st : Wk) (p : Nat), Rg9 st p (p + x.nodes) (overW most st p x)) → ∀ (st : Wk) (p : Nat), Rg9 st p (p + (Tm.pres l).length) (allW most st p l)
 | [], _, st, p => by rw [allW]; exact .refl _ _ _
 | x :: l, hx, st, p => by
  rw [allW, nodes_pres_cons]
  exact (hx x (by simp) st p).trans (rg_all' l (fun y hy => hx y (by simp [hy])) _ _) (Nat.le_refl _) (by omega) (by omega) (by omega)
theorem rg_clause' {most : Int} : ∀ (l : List Tm) (i : Nat), (∀ x ∈ l, ∀ (st : Wk) (p : Nat), Rg9 st p (p + x.nodes) (overW most st p x)) → ∀ (st : Wk) (p : Nat), Rg9 st p (p + (Tm.pres l).length) (clauseW most st p i l)
 | [], 0, _, st, p => by rw [clauseW]; exact .refl _ _ _; all_goals simp
 | [], i + 1, _, st, p => by rw [clauseW]; exact .refl _ _ _; all_goals simp
 | x :: l, 0, hx, st, p => by rw [clauseW_0]; exact rg_all' (x :: l) hx st p
 | x :: l, i + 1, hx, st, p => by
  rw [clauseW, nodes_pres_cons]
  exact (rg_pat x.pre st p).trans (rg_clause' l i (fun y hy => hx y (by simp [hy])) _ _) (Nat.le_refl _) (by unfold Tm.nodes; omega) (by omega) (by omega)
theorem rg_back {a b c : Wk} {p r : Nat} (h : Rg9 a p r c) : Rg9 a p r (backW b c) := h
theorem rg_over (most : Int) (y : Tm) : ∀ (st : Wk) (p : Nat), Rg9 st p (p + y.nodes) (overW most st p y) := by
 induction y using Tm.ind with
 | h k n s t l ih =>
  intro st p
  have up : ∀ {st' : Wk}, Rg9 st (p + 1) (p + 1 + (Tm.pres l).length) st' → Rg9 st p (p + (Tm.mk k n s t l).nodes) st' := fun h => by
   rw [nodes_mk9]
   exact (Rg9.refl st p p).trans h (Nat.le_refl _) (by omega) (by omega) (by omega)
  rw [overW]
  split
  ·rw [nodes_mk9]
   exact (Rg9.refl st p p).trans rg_told (Nat.le_refl _) (by omega) (by omega) (by omega)
  split
  ·refine up ?_
   cases l with
   | nil => rw [matchW]; exact .refl _ _ _
   | cons a l =>
    rw [matchW, nodes_pres_cons]
    exact (rg_all' l (fun y hy => ih y (by simp [hy])) st (p + 1 + a.nodes)).trans (rg_pat a.pre _ (p + 1)) (by omega) (by omega) (by omega) (by unfold Tm.nodes; omega)
  split
  ·exact up (rg_back (rg_clause' l _ ih _ _))
  split
  ·exact up (rg_back (rg_all' l ih _ _))
  split
  ·refine up ?_
   cases l with
   | nil => rw [tryW]; exact .refl _ _ _
   | cons a l =>
    rw [tryW, nodes_pres_cons]
    exact (rg_back (ih a (by simp) st (p + 1))).trans (rg_all' l (fun y hy => ih y (by simp [hy])) _ _) (by omega) (by omega) (by omega) (by omega)
  ·exact up (rg_all' l ih _ _)
theorem cl_range {most : Int} {p : Nat} {c : Tm} {e : Int} {q : Nat} (h : place9 e (clW most p c).fl = some q) : p ≤ q ∧ q < p + c.nodes := by
 unfold place9 at h
 obtain ⟨x, hx, rfl⟩ := Option.map_eq_some_iff.1 h
 rcases rg_over most c ⟨[], [], []⟩ p x (findF_in hx).1 with h2 | h2
 ·cases h2
 ·exact h2
theorem bad_range {F : List Fn9} {m : ByteArray} : ∀ {L : List Tm} {p q : Nat}, badW F m p L = some q → p ≤ q ∧ q < p + L.length
 | y :: L, p, q, h => by
  rw [badW] at h
  by_cases hy : thereE F m y = 92
  ·rw [if_pos hy] at h; cases h; rw [List.length_cons]; omega
  ·rw [if_neg hy] at h
   have := bad_range h
   rw [List.length_cons]; omega
theorem good_cls (ar : Int) : ∀ (l : List Tm) (S : CS) (O : OS) (p r : Nat), (∀ c ∈ l, c.n = ar) → Good9 S O p r → Good9 (l.foldl (stepC ar) S) { O with no := O.no.or (place9 90 (clsF p l)), so := O.so.or (place9 11 (clsF p l)) } (p + (Tm.pres l).length) r
 | [], S, O, p, r, _, h => by simpa [clsF, place9, findF, Tm.pres] using h
 | c :: l, S, O, p, r, hc, h => by
  have hcn := hc c (by simp)
  have h1 : Good9 (stepC ar S c) { O with no := O.no.or (place9 90 (clW (32 - c.n) p c).fl), so := O.so.or (place9 11 (clW (32 - c.n) p c).fl) } (p + c.nodes) r := by
   unfold stepC
   rw [hcn, h.at_]
   exact ⟨rfl, h.mods, h.funs, by dsimp only; rw [h.names, fst_place]; exact least_or h.ln (fun q hq => (cl_range hq).1), h.own, h.unk, by dsimp only; rw [h.slots, fst_place]; exact least_or h.ls (fun q hq => (cl_range hq).1),
    h.lm.mono (by omega), h.lf.mono (by omega), lt_or h.ln (fun q hq => (cl_range hq).2) (by omega), h.lo.mono (by omega), h.lu, lt_or h.ls (fun q hq => (cl_range hq).2) (by omega)⟩
  have h2 := good_cls ar l _ _ _ _ (fun d hd => hc d (by simp [hd])) h1
  rw [List.foldl_cons, nodes_pres_cons, ← Nat.add_assoc]
  simpa only [clsF, place_append, Option.or_assoc] using h2
def ownF (p : Nat) : List Tm → Option Nat
 | [] => none
 | f :: l => if builtB f.s f.n = true then some p else ownF (p + f.nodes) l
def badF (F : List Fn9) (ms : ByteArray) (p : Nat) : List Tm → Option Nat
 | [] => none
 | f :: l => (badW F ms p f.pre).or (badF F ms (p + f.nodes) l)
theorem if_or {o : Option Nat} {p : Nat} {c : Prop} [Decidable c] {a : Int} (ha : a = oI o) (h : Lt9 o p) : (if c then leastI a (p : Int) else a) = oI (o.or (if c then some p else none)) := by
 by_cases hc : c
 ·rw [if_pos hc, if_pos hc, ha]
  exact least_or (u := some p) h (fun q hq => by cases hq; exact Nat.le_refl _)
 ·rw [if_neg hc, if_neg hc, ha, Option.or_none]
theorem lt_if {o : Option Nat} {p : Nat} {c : Prop} [Decidable c] (h : Lt9 o p) : Lt9 (o.or (if c then some p else none)) (p + 1) :=
 lt_or h (fun q hq => by split at hq <;> cases hq; omega) (by omega)
theorem once_or (seen : List (ByteArray × Int)) (p : Nat) (x : Tm) (l : List Tm) : onceW seen p (x :: l) = (if (x.s, x.n) ∈ seen then some p else none).or (onceW (seen ++ [(x.s, x.n)]) (p + x.nodes) l) := by
 rw [onceW]
 split <;> simp
theorem own_or (p : Nat) (x : Tm) (l : List Tm) : ownF p (x :: l) = (if builtB x.s x.n = true then some p else none).or (ownF (p + x.nodes) l) := by
 rw [ownF]
 split <;> simp
theorem good_funs (F : List Fn9) (ms : ByteArray) : ∀ (l : List Tm) (pre : List Tm) (S : CS) (O : OS) (p : Nat), (∀ f ∈ l, Fun9 f) → Good9 S O p p →
  Good9 (foldF F ms pre S l) { O with fo := O.fo.or (onceW (pre.map fun y => (y.s, y.n)) p l), no := O.no.or (place9 90 (funsF p l)), so := O.so.or (place9 11 (funsF p l)), oo := O.oo.or (ownF p l), uo := O.uo.or (badF F ms p l) } (p + (Tm.pres l).length) (p + (Tm.pres l).length)
 | [], pre, S, O, p, _, h => by simpa [foldF, onceW, ownF, badF, funsF, place9, findF, Tm.pres] using h
 | f :: l, pre, S, O, p, hf, h => by
  have hF := hf f (by simp)
  have hz : f.nodes = (Tm.pres f.l).length + 1 := by cases f; exact nodes_mk9 _ _ _ _ _
  have h0 : Good9 (headF F ms pre S f) { O with fo := O.fo.or (if (f.s, f.n) ∈ pre.map (fun y => (y.s, y.n)) then some p else none), oo := O.oo.or (if builtB f.s f.n = true then some p else none), uo := O.uo.or (badW F ms p f.pre) } (p + 1) (p + f.nodes) := by
   unfold headF
   rw [h.at_]
   exact ⟨rfl, h.mods, if_or h.funs h.lf, h.names, if_or h.own h.lo, by dsimp only; rw [h.unk]; exact least_or h.lu (fun q hq => (bad_range hq).1), h.slots,
    h.lm.mono (by omega), lt_if h.lf, h.ln.mono (by omega), lt_if h.lo, lt_or h.lu (fun q hq => (bad_range hq).2) (by omega), h.ls.mono (by omega)⟩
  have h1 := good_cls f.n f.l _ _ _ _ (fun c hc => (hF.cls c hc).1) h0
  rw [show p + 1 + (Tm.pres f.l).length = p + f.nodes by omega] at h1
  have h2 := good_funs F ms l (pre ++ [f]) _ _ _ (fun g hg => hf g (by simp [hg])) h1
  rw [foldF, nodes_pres_cons, ← Nat.add_assoc]
  unfold stepF
  simpa only [once_or, own_or, badF, funsF, place_append, Option.or_assoc, List.map_append, List.map_cons, List.map_nil] using h2
def ownM (p : Nat) : List Tm → Option Nat
 | [] => none
 | m :: l => (ownF (p + 1) m.l).or (ownM (p + m.nodes) l)
def badM (F : List Fn9) (p : Nat) : List Tm → Option Nat
 | [] => none
 | m :: l => (badF F m.s (p + 1) m.l).or (badM F (p + m.nodes) l)
theorem onceM_or (p : Nat) (m : Tm) (l : List Tm) : onceM p (m :: l) = (onceW [] (p + 1) m.l).or (onceM (p + m.nodes) l) := by
 rw [onceM]
 split <;> simp_all
theorem good_mods (F : List Fn9) : ∀ (l : List Tm) (pre : List Tm) (S : CS) (O : OS) (p : Nat), (∀ m ∈ l, Mod9 m) → (∀ m ∈ pre, m.n = 0) → Good9 S O p p →
  Good9 (foldM9 F pre S l) { mo := O.mo.or (onceW (pre.map fun y => (y.s, y.n)) p l), fo := O.fo.or (onceM p l), no := O.no.or (place9 90 (modsF p l)), so := O.so.or (place9 11 (modsF p l)), oo := O.oo.or (ownM p l), uo := O.uo.or (badM F p l) } (p + (Tm.pres l).length) (p + (Tm.pres l).length)
 | [], pre, S, O, p, _, _, h => by simpa [foldM9, onceW, onceM, ownM, badM, modsF, place9, findF, Tm.pres] using h
 | m :: l, pre, S, O, p, hm, hp, h => by
  have hM := hm m (by simp)
  have hz : m.nodes = (Tm.pres m.l).length + 1 := by cases m; exact nodes_mk9 _ _ _ _ _
  have hin : (m.s ∈ pre.map (·.s)) ↔ ((m.s, m.n) ∈ pre.map (fun y => (y.s, y.n))) := by
   rw [List.mem_map, List.mem_map]
   constructor
   ·rintro ⟨y, hy, e⟩; exact ⟨y, hy, by rw [e, hp y hy, hM.n0]⟩
   ·rintro ⟨y, hy, e⟩; exact ⟨y, hy, (Prod.mk.inj e).1⟩
  have h0 : Good9 (headM pre S m) { O with mo := O.mo.or (if (m.s, m.n) ∈ pre.map (fun y => (y.s, y.n)) then some p else none) } (p + 1) (p + 1) := by
   unfold headM
   rw [h.at_]
   have e9 : (if m.s ∈ pre.map (·.s) then leastI S.mods (p : Int) else S.mods) = (if (m.s, m.n) ∈ pre.map (fun y => (y.s, y.n)) then leastI S.mods (p : Int) else S.mods) := by
    by_cases h9 : m.s ∈ pre.map (·.s)
    ·rw [if_pos h9, if_pos (hin.1 h9)]
    ·rw [if_neg h9, if_neg (fun h8 => h9 (hin.2 h8))]
   rw [e9]
   exact ⟨rfl, if_or h.mods h.lm, h.funs, h.names, h.own, h.unk, h.slots,
    lt_if h.lm, h.lf.mono (by omega), h.ln.mono (by omega), h.lo.mono (by omega), h.lu.mono (by omega), h.ls.mono (by omega)⟩
  have h1 := good_funs F m.s m.l [] _ _ _ hM.funs h0
  rw [show p + 1 + (Tm.pres m.l).length = p + m.nodes by omega] at h1
  have h2 := good_mods F l (pre ++ [m]) _ _ _ (fun g hg => hm g (by simp [hg])) (fun g hg => by
   rcases List.mem_append.1 hg with hg | hg
   ·exact hp g hg
   ·simp at hg; subst hg; exact hM.n0) h1
  rw [foldM9, nodes_pres_cons, ← Nat.add_assoc]
  unfold stepM
  simpa only [once_or, onceM_or, ownM, badM, modsF, place_append, Option.or_assoc, List.map_append, List.map_cons, List.map_nil] using h2
def merge9 : Option Nat → Option Nat → Option (Int × Nat)
 | none, none => none
 | some a, none => some (91, a)
 | none, some b => some (92, b)
 | some a, some b => if a < b then some (91, a) else some (92, b)
theorem merge_or {o o' u u' : Option Nat} {r : Nat} (ho : Lt9 o r) (hu : Lt9 u r) (ho' : ∀ q, o' = some q → r ≤ q) (hu' : ∀ q, u' = some q → r ≤ q) : merge9 (o.or o') (u.or u') = (merge9 o u).or (merge9 o' u') := by
 cases o with
 | some a =>
  have h1 := ho a rfl
  cases u with
  | some b => simp [merge9]; split <;> simp
  | none =>
   cases u' with
   | none => simp [merge9]
   | some b => have := hu' b rfl; simp [merge9]; omega
 | none =>
  cases u with
  | none => simp [merge9]
  | some b =>
   have h1 := hu b rfl
   cases o' with
   | none => simp [merge9]
   | some a => have := ho' a rfl; simp [merge9]; omega
theorem there_or {F : List Fn9} : ∀ {a b : List Tm} {m : ByteArray} {p : Nat}, thereW F m p (a ++ b) = (thereW F m p a).or (thereW F (curW m a) (p + a.length) b)
 | [], b, m, p => by simp [thereW, curW]
 | y :: a, b, m, p => by
  rw [List.cons_append, thereW, thereW, curW]
  by_cases hE : thereE F (if y.k = 1 then y.s else m) y = 0
  ·rw [if_pos hE, if_pos hE, there_or, List.length_cons, show p + (a.length + 1) = p + 1 + a.length by omega]
  ·rw [if_neg hE, if_neg hE]; rfl
theorem there_bad {F : List Fn9} {m : ByteArray} : ∀ {L : List Tm} {p : Nat}, (∀ z ∈ L, 3 ≤ z.k) → thereW F m p L = merge9 none (badW F m p L)
 | [], p, _ => by simp [thereW, badW, merge9]
 | y :: L, p, h => by
  have hk := h y (by simp)
  have ih := there_bad (F := F) (m := m) (L := L) (p := p + 1) (fun z hz => h z (by simp [hz]))
  have hv : thereE F m y = 0 ∨ thereE F m y = 92 := by
   unfold thereE
   rw [if_neg (by omega)]
   repeat (first | (split; (first | (split; exact .inl rfl; exact .inr rfl) | exact .inl rfl)) | exact .inl rfl)
  rw [thereW, badW, if_neg (show ¬ y.k = 1 by omega), ih]
  rcases hv with h0 | h0
  ·rw [if_pos h0, if_neg (by rw [h0]; decide)]
  ·rw [if_neg (by rw [h0]; decide), if_pos h0, h0]; rfl
theorem cur_fun {m : ByteArray} {f : Tm} (h : Fun9 f) : curW m f.pre = m := by
 obtain ⟨k, n, s, t, l⟩ := f
 refine cur_none (fun y hy => ?_)
 rw [Tm.pre] at hy
 rcases List.mem_cons.1 hy with rfl | hy
 ·have : k = 2 := h.kind
  show k ≠ 1; omega
 ·obtain ⟨c, hc, hz⟩ := mem_presX hy
  have := (h.cls c hc).2.2 y hz
  omega
theorem there_fun {F : List Fn9} {m : ByteArray} {f : Tm} (h : Fun9 f) (p : Nat) : thereW F m p f.pre = merge9 (if builtB f.s f.n = true then some p else none) (badW F m p f.pre) := by
 obtain ⟨k, n, s, t, l⟩ := f
 have hk : k = 2 := h.kind
 subst hk
 have hq : ∀ z ∈ Tm.pres l, 3 ≤ z.k := fun z hz => by
  obtain ⟨c, hc, hz2⟩ := mem_presX hz
  exact (h.cls c hc).2.2 z hz2
 have he : thereE F m (.mk 2 n s t l) = if builtB s n = true then 91 else 0 := rfl
 rw [Tm.pre, thereW, badW, if_neg (show ¬ (Tm.mk 2 n s t l).k = 1 from by show ¬ (2 : Int) = 1; decide), there_bad hq, he]
 have hb : ¬ ((if builtB s n = true then (91 : Int) else 0) = 92) := by split <;> decide
 rw [if_neg hb]
 show _ = merge9 (if builtB s n = true then some p else none) _
 cases hbt : builtB s n with
 | true =>
  rw [if_pos rfl, if_pos rfl, if_neg (by decide)]
  cases hbw : badW F m (p + 1) (Tm.pres l) with
  | none => rfl
  | some b => have := (bad_range hbw).1; simp [merge9]; omega
 | false => rw [if_pos (show (if false = true then (91 : Int) else 0) = 0 by decide)]; rfl
theorem own_range : ∀ {l : List Tm} {p q : Nat}, ownF p l = some q → p ≤ q ∧ q < p + (Tm.pres l).length
 | f :: l, p, q, h => by
  rw [ownF] at h
  have h1 : 1 ≤ f.nodes := Tm.pre_ne f
  split at h
  ·cases h; rw [nodes_pres_cons]; omega
  ·have := own_range h; rw [nodes_pres_cons]; omega
theorem badF_range {F : List Fn9} {m : ByteArray} : ∀ {l : List Tm} {p q : Nat}, badF F m p l = some q → p ≤ q ∧ q < p + (Tm.pres l).length
 | f :: l, p, q, h => by
  rw [badF] at h
  rw [nodes_pres_cons]
  cases hb : badW F m p f.pre with
  | some b =>
   rw [hb] at h
   have h2 : b = q := by simpa using h
   have := bad_range hb
   unfold Tm.nodes; omega
  | none =>
   rw [hb] at h
   have := badF_range (by simpa using h : badF F m (p + f.nodes) l = some q)
   omega
theorem cur_append {m : ByteArray} : ∀ {a b : List Tm}, curW m (a ++ b) = curW (curW m a) b
 | [], b => rfl
 | y :: a, b => by rw [List.cons_append, curW, curW, cur_append]
theorem there_funs {F : List Fn9} {m : ByteArray} : ∀ (l : List Tm) (p : Nat), (∀ f ∈ l, Fun9 f) → thereW F m p (Tm.pres l) = merge9 (ownF p l) (badF F m p l) ∧ curW m (Tm.pres l) = m
 | [], p, _ => by simp [Tm.pres, thereW, ownF, badF, merge9, curW]
 | f :: l, p, h => by
  have hF := h f (by simp)
  obtain ⟨ih, ic⟩ := there_funs (F := F) (m := m) l (p + f.nodes) (fun g hg => h g (by simp [hg]))
  refine ⟨?_, ?_⟩
  ·rw [Tm.pres, there_or, cur_fun hF, there_fun hF, own_or, badF]
   rw [merge_or (r := p + f.nodes) (fun q hq => by split at hq <;> cases hq; have := Tm.pre_ne f; unfold Tm.nodes; omega) (fun q hq => (bad_range hq).2) (fun q hq => (own_range hq).1) (fun q hq => (badF_range hq).1), ← ih]
   rfl
  ·rw [Tm.pres, cur_append, cur_fun hF, ic]
theorem ownM_range : ∀ {l : List Tm} {p q : Nat}, ownM p l = some q → p ≤ q
  | m :: l, p, q, h => by
    rw [ownM] at h
    cases hb : ownF (p + 1) m.l with
    | some b => rw [hb] at h; have h2 : b = q := by simpa using h
                have := (own_range hb).1; omega
    | none => rw [hb] at h; have := ownM_range (by simpa using h : ownM (p + m.nodes) l = some q); omega
theorem badM_range {F : List Fn9} : ∀ {l : List Tm} {p q : Nat}, badM F p l = some q → p ≤ q
  | m :: l, p, q, h => by
    rw [badM] at h
    cases hb : badF F m.s (p + 1) m.l with
    | some b => rw [hb] at h; have h2 : b = q := by simpa using h
                have := (badF_range hb).1; omega
    | none => rw [hb] at h; have := badM_range (by simpa using h : badM F (p + m.nodes) l = some q); omega
theorem there_mods {F : List Fn9} : ∀ (l : List Tm) (m : ByteArray) (p : Nat), (∀ x ∈ l, Mod9 x) → thereW F m p (Tm.pres l) = merge9 (ownM p l) (badM F p l)
 | [], m, p, _ => by simp [Tm.pres, thereW, ownM, badM, merge9]
 | x :: l, m, p, h => by
  have hM := h x (by simp)
  obtain ⟨hf, hc⟩ := there_funs (F := F) (m := x.s) x.l (p + 1) hM.funs
  have hz : x.nodes = (Tm.pres x.l).length + 1 := by cases x; exact nodes_mk9 _ _ _ _ _
  have h1 : thereW F m p x.pre = merge9 (ownF (p + 1) x.l) (badF F x.s (p + 1) x.l) ∧ curW m x.pre = x.s := by
   have hk := hM.kind
   obtain ⟨k, n, s, t, q⟩ := x
   have hk1 : k = 1 := hk
   subst hk1
   refine ⟨?_, ?_⟩
   ·rw [Tm.pre, thereW, if_pos (show (Tm.mk 1 n s t q).k = 1 from rfl)]
    have he : thereE F (Tm.mk 1 n s t q).s (.mk 1 n s t q) = 0 := rfl
    rw [if_pos he]
    exact hf
   ·rw [Tm.pre, curW, if_pos (show (Tm.mk 1 n s t q).k = 1 from rfl)]
    exact hc
  rw [Tm.pres, there_or, h1.1, h1.2, there_mods l x.s _ (fun g hg => h g (by simp [hg])), ownM, badM]
  refine (merge_or (r := p + x.nodes) (fun q hq => ?_) (fun q hq => ?_) (fun q hq => ?_) (fun q hq => ?_)).symm
  ·have := (own_range hq).2; omega
  ·have := (badF_range hq).2; omega
  ·exact (ownM_range hq)
  ·exact (badM_range hq)
theorem ansC_chk {x : Tm} (hf : fitsB x = true) (hm : modsB x = true) : ansC (foldM9 (fnsW x.l) [] CS0 x.l) = ((chk9 x).1, (((chk9 x).2 : Nat) : Int)) := by
 obtain ⟨hk, hM⟩ := modsB_9 hm
 have hl9 : Lt9 none 1 := fun q hq => by cases hq
 have h := good_mods (fnsW x.l) x.l [] CS0 ⟨none, none, none, none, none, none⟩ 1 hM (fun m hm => by cases hm) ⟨rfl, rfl, rfl, rfl, rfl, rfl, rfl, hl9, hl9, hl9, hl9, hl9, hl9⟩
 simp only [Option.none_or, List.map_nil] at h
 obtain ⟨-, h1, h2, h3, h4, h5, h6, -⟩ := h
 have ht : thereW (fnsW x.l) ⟨#[]⟩ 0 x.pre = merge9 (ownM 1 x.l) (badM (fnsW x.l) 1 x.l) := by
  obtain ⟨k, n, s, t, l⟩ := x
  have hk0 : k = 0 := hk
  subst hk0
  rw [Tm.pre, thereW, if_neg (show ¬ (Tm.mk 0 n s t l).k = 1 from by show ¬ (0 : Int) = 1; decide)]
  rw [if_pos (show thereE (fnsW (Tm.mk 0 n s t l).l) ⟨#[]⟩ (.mk 0 n s t l) = 0 from rfl)]
  exact there_mods l _ _ hM
 have hn : ∀ (o : Option Nat), o = none → oI o = -1 := fun o e => by rw [e]; rfl
 have hs : ∀ (o : Option Nat) (q : Nat), o = some q → oI o = (q : Int) := fun o q e => by rw [e]; rfl
 unfold chk9
 rw [if_pos ⟨hf, hm⟩]
 unfold rules9 ansC
 rw [h1, h2, h3, h4, h5, h6, ht]
 cases e1 : onceW [] 1 x.l with
 | some q => simp [oI]
 | none =>
  cases e2 : onceM 1 x.l with
  | some q => simp [oI]
  | none =>
   cases e3 : findF 90 (modsF 1 x.l) with
   | some r =>
    have e9 := (findF_in e3).2
    obtain ⟨r1, r2⟩ := r
    have : r1 = 90 := e9
    subst this
    simp [oI, place9, e3]
   | none =>
    cases e4 : ownM 1 x.l with
    | some a =>
     cases e5 : badM (fnsW x.l) 1 x.l with
     | none => simp [oI, place9, e3, merge9]
     | some b =>
      by_cases hab : a < b
      ·simp [oI, place9, e3, merge9, hab]
      ·simp [oI, place9, e3, merge9, hab]
    | none =>
     cases e5 : badM (fnsW x.l) 1 x.l with
     | some b => simp [oI, place9, e3, merge9]
     | none =>
      cases e6 : findF 11 (modsF 1 x.l) with
      | some r =>
       have e9 := (findF_in e6).2
       obtain ⟨r1, r2⟩ := r
       have : r1 = 11 := e9
       subst this
       simp [oI, place9, e3, e6, merge9]
      | none => simp [oI, place9, e3, e6, merge9]
end Go.Proofs.YtmdcdhdjojimeaaGreatDoor
end
section
set_option linter.unusedVariables false
set_option linter.unusedSimpArgs false
namespace Go.Proofs.YtmdcdhdjojimeaaGreatDoor
open Go.RowKit

def SameN (a b : Wk) : Prop := a.bound = b.bound ∧ a.all = b.all
theorem same_bind {m m' : Int} {a b : Wk} (s : ByteArray) (p q : Nat) (h : SameN a b) : SameN (bindW m a s p) (bindW m' b s q) := by
 obtain ⟨h1, h2⟩ := h
 unfold bindW
 rw [h1]
 by_cases hs : s ∈ b.bound
 ·rw [if_pos hs, if_pos hs]; exact ⟨h1, h2⟩
 ·rw [if_neg hs, if_neg hs]; exact ⟨rfl, by dsimp only; rw [h2]⟩
theorem same_pat {m m' : Int} : ∀ (L : List Tm) {a b : Wk} (p q : Nat), SameN a b → SameN (patW m a p L) (patW m' b q L)
 | [], a, b, p, q, h => by simpa [patW] using h
 | y :: L, a, b, p, q, h => by
  rw [patW, patW]
  refine same_pat L _ _ ?_
  split
  ·exact same_bind _ _ _ h
  ·exact h
theorem same_told {a b : Wk} (s : ByteArray) (p q : Nat) (h : SameN a b) : SameN (toldW a s p) (toldW b s q) := by
 unfold toldW
 rw [h.1]
 split
 ·exact h
 ·exact ⟨rfl, h.2⟩
theorem same_back {a b c d : Wk} (h : SameN a b) (g : SameN c d) : SameN (backW a c) (backW b d) := by
 unfold backW
 exact ⟨by dsimp only; rw [h.1, g.1], g.2⟩
theorem same_all' {m m' : Int} : ∀ (l : List Tm), (∀ x ∈ l, ∀ (a b : Wk) (p q : Nat), SameN a b → SameN (overW m a p x) (overW m' b q x)) → ∀ (a b : Wk) (p q : Nat), SameN a b → SameN (allW m a p l) (allW m' b q l)
 | [], _, a, b, p, q, h => by rw [allW, allW]; exact h
 | x :: l, hx, a, b, p, q, h => by
  rw [allW, allW]
  exact same_all' l (fun y hy => hx y (by simp [hy])) _ _ _ _ (hx x (by simp) _ _ _ _ h)
theorem same_clause' {m m' : Int} : ∀ (l : List Tm) (i : Nat), (∀ x ∈ l, ∀ (a b : Wk) (p q : Nat), SameN a b → SameN (overW m a p x) (overW m' b q x)) → ∀ (a b : Wk) (p q : Nat), SameN a b → SameN (clauseW m a p i l) (clauseW m' b q i l)
 | [], 0, _, a, b, p, q, h => by rw [clauseW, clauseW]; exact h; all_goals simp
 | [], i + 1, _, a, b, p, q, h => by rw [clauseW, clauseW]; exact h; all_goals simp
 | x :: l, 0, hx, a, b, p, q, h => by rw [clauseW_0, clauseW_0]; exact same_all' (x :: l) hx _ _ _ _ h
 | x :: l, i + 1, hx, a, b, p, q, h => by
  rw [clauseW, clauseW]
  exact same_clause' l i (fun y hy => hx y (by simp [hy])) _ _ _ _ (same_pat _ _ _ h)
theorem same_over (m m' : Int) (y : Tm) : ∀ (a b : Wk) (p q : Nat), SameN a b → SameN (overW m a p y) (overW m' b q y) := by
 induction y using Tm.ind with
 | h k n s t l ih =>
  intro a b p q h
  rw [overW, overW]
  split
  ·exact same_told _ _ _ h
  split
  ·cases l with
   | nil => rw [matchW, matchW]; exact h
   | cons c l =>
    rw [matchW, matchW]
    exact same_pat _ _ _ (same_all' l (fun y hy => ih y (by simp [hy])) _ _ _ _ h)
  split
  ·exact same_back h (same_clause' l _ ih _ _ _ _ h)
  split
  ·exact same_back h (same_all' l ih _ _ _ _ h)
  split
  ·cases l with
   | nil => rw [tryW, tryW]; exact h
   | cons c l =>
    rw [tryW, tryW]
    exact same_all' l (fun y hy => ih y (by simp [hy])) _ _ _ _ (same_back h (ih c (by simp) _ _ _ _ h))
  ·exact same_all' l ih _ _ _ _ h
theorem RAt.new {w0 V : World} {ar : Nat} (p : Nat) (har : ar ≤ 8) (hV : V = w0.alloc (.cells #[.slice none 0 0, .int .i64 (p : Int), .int .i64 (ar : Int), .int .i64 (-1), .int .i64 (-1), .slice none 0 0] 57)) :
  RAt ⟨w0, w0.heap.size, w0.heap.size, ar⟩ ⟨[], [], []⟩ p V :=
 ⟨⟨Nat.le_refl _, Nat.le_refl _, har⟩, none, 0, none, 0, by rw [hV]; exact (Below.refl _ _).alloc (Nat.le_refl _) _, by rw [hV]; exact block_alloc _ _, World.ownsRow_nil _ _ _ _, World.ownsRow_nil _ _ _ _, fun k h => by cases h⟩
set_option maxHeartbeats 8000000 in
set_option maxRecDepth 100000 in
theorem rNames9_any (c : Tm) (nv : Value) (w : World) (hT : TmAt (· < w.heap.size) w c nv) (hN : c.nodes ≤ 8191) :
  Calls Tryz.prog 15 #[nv] w fun e w' => ∃ A cp, e = .returned (.slice A (names9 c).length cp) ∧ SRow w' A (names9 c) ∧ (names9 c).length ≤ 100000 ∧ Below w.heap.size w w' := by
 obtain ⟨k, n, s, t, L, A, cap, hx, rfl⟩ : ∃ k' n' s' t' L' A' cap', c = Tm.mk k' n' s' t' L' ∧ nv = .agg #[.int .i8 k', .int .i64 n', .string s', .string t', .slice A' L'.length cap'] := by
  cases hT; exact ⟨_, _, _, _, _, _, _, rfl, rfl⟩
 obtain ⟨w5, hw5⟩ : ∃ w5, w5 = ((((w.alloc (.cells #[.int .i8 k, .int .i64 n, .string s, .string t, .slice A L.length cap] 25)).alloc (.cells #[.int .i8 k, .int .i64 n, .string s, .string t, .slice A L.length cap] 25)).alloc (.cells #[.int .i8 2, .int .i64 n, .string ⟨#[102]⟩, .string ⟨#[]⟩, .slice (some ⟨w.heap.size + 1, 0, none⟩) 1 1] 25)).alloc (.cells #[.int .i8 1, .int .i64 0, .string ⟨#[109]⟩, .string ⟨#[]⟩, .slice (some ⟨w.heap.size + 2, 0, none⟩) 1 1] 25)).alloc (.cells #[.int .i8 0, .int .i64 0, .string ⟨#[]⟩, .string ⟨#[]⟩, .slice (some ⟨w.heap.size + 3, 0, none⟩) 1 1] 25) := ⟨_, rfl⟩
 obtain ⟨g0, g1, g2, g3, g4, b5, z5⟩ := five_at w _ _ _ _ _ w5 hw5
 have hc5 : TmAt (· < w5.heap.size) w5 c (.agg #[.int .i8 k, .int .i64 n, .string s, .string t, .slice A L.length cap]) := (hT.under b5 (Nat.le_refl _)).mono (fun b hb => by omega)
 have hbn : -9223372036854775808 ≤ n ∧ n ≤ 9223372036854775807 := by have h9 := hT; rw [hx] at h9; obtain ⟨_, _, _, _, _, h, _⟩ := h9.parts; exact h
 have hf5 := one_at9 (k := 2) (n := n) (s := ⟨#[102]⟩) (t := ⟨#[]⟩) hc5 g1 (by omega) (by omega) hbn (by decide) (by decide)
 have hm5 := one_at9 (k := 1) (n := 0) (s := ⟨#[109]⟩) (t := ⟨#[]⟩) hf5 g2 (by omega) (by omega) (by omega) (by decide) (by decide)
 have ht5 := one_at9 (k := 0) (n := 0) (s := ⟨#[]⟩) (t := ⟨#[]⟩) hm5 g3 (by omega) (by omega) (by omega) (by decide) (by decide)
 have hwr : Tm.mk 0 0 ⟨#[]⟩ ⟨#[]⟩ [.mk 1 0 ⟨#[109]⟩ ⟨#[]⟩ [.mk 2 n ⟨#[102]⟩ ⟨#[]⟩ [c]]] = wrap9 c := by rw [hx]; rfl
 rw [hwr] at ht5
 have HT5 := Lib.hid ht5
 have HC5 := Lib.hid hc5
 have HB5 := Lib.hid b5
 have HG0 := Lib.hid g0
 have HG4 := Lib.hid g4
 have HX := Lib.hid hx
 obtain ⟨x0, x1, x2, x3, x4⟩ := five_of g4
 clear hT hx g0 g1 g2 g3 g4 b5 z5 hc5 hbn hf5 hm5 ht5 hwr
 go_enter Tryz.func15, Tryz.ntmps15
 go_upto_region 2 with fail
 simp only [Nat.add_assoc, Nat.reduceAdd]
 rw [← hw5]
 clear hw5
 go_wp2_with fail
 refine (rcheck7_any (wrap9 c) _ w5 HT5.out).mono ?_
 rintro e w7 ⟨rfl, b7⟩
 have HB7 := Lib.hid (HB5.out.trans (b7.mono HB5.out.size))
 have hg7 := (b7.block _ (heap_lt HG0.out)).trans HG0.out
 have HC7 := Lib.hid (HC5.out.laterN b7)
 clear x0 x1 x2 x3 x4 b7
 rcases checkR_or (wrap9 c) with ⟨e0, hf, hm⟩ | ⟨e0, hno⟩
 ·rw [e0]
  have HNM : Hid (names9 c = (clW (32 - c.n) 3 c).all) := if_pos ⟨hf, hm⟩
  obtain ⟨hcl, -, -⟩ := mods_parts (c := c) hf hm (List.mem_cons_self) (List.mem_cons_self) (List.mem_cons_self)
  unfold clauseR at hcl
  have HCB := Lib.hid (Bool.and_eq_true_iff.1 hcl).2
  clear hf hm e0 hcl
  obtain ⟨y0, y1, y2, y3, y4⟩ := five_of hg7
  have HG7 := Lib.hid hg7
  obtain ⟨w8, hw8⟩ : ∃ w8, w8 = w7.alloc (.cells #[.slice none 0 0, .int .i64 ((0 : Nat) : Int), .int .i64 ((0 : Nat) : Int), .int .i64 (-1), .int .i64 (-1), .slice none 0 0] 57) := ⟨_, rfl⟩
  have HR8 := Lib.hid (RAt.new 0 (by decide) hw8)
  have hb8 : Below w7.heap.size w7 w8 := by rw [hw8]; exact (Below.refl _ _).alloc (Nat.le_refl _) _
  have HB8 := Lib.hid (HB7.out.trans (hb8.mono HB7.out.size))
  have hg8 := (hb8.block _ (heap_lt hg7)).trans hg7
  obtain ⟨z0, z1, z2, z3, z4⟩ := five_of hg8
  have HC := Lib.hid ((rwalk_all ⟨w7, w7.heap.size, w7.heap.size, 0⟩ c).2.1 _ HCB.out _ ⟨[], [], []⟩ w8 0 HC7.out HR8.out (by omega) 0 ⟨Nat.zero_le _, Nat.zero_le _, Nat.zero_le _⟩ (by omega) (by unfold Seen9; decide))
  clear hg7 hb8 hg8
  go_upto_region 5 with fail
  have hw8' := hw8
  simp only [Int.natCast_zero] at hw8'
  rw [← hw8']
  clear hw8 hw8' y0 y1 y2 y3 y4
  go_wp2_with fail
  refine HC.out.mono ?_
  rintro e w9 ⟨rfl, ⟨-, bA, bc, aA, ac, hR⟩, hK9⟩
  have HRR := Lib.hid hR
  have cB := cell_of_row (i := 5) hR.box rfl
  have HB9 := Lib.hid (HB7.out.trans (show Below w.heap.size w7 w9 from (show Below w7.heap.size w7 w9 from hR.below).mono HB7.out.size))
  have HSN := Lib.hid (same_over (32 - c.n) (32 - ((0 : Nat) : Int)) c ⟨[], [], []⟩ ⟨[], [], []⟩ 3 0 ⟨rfl, rfl⟩).2
  have HLE := Lib.hid (lee_over (32 - ((0 : Nat) : Int)) c ⟨[], [], []⟩ 0 0 ⟨Nat.zero_le _, Nat.zero_le _, Nat.zero_le _⟩).2.1
  have HNM2 : Hid ((overW (32 - ((0 : Nat) : Int)) ⟨[], [], []⟩ 0 c).all = names9 c) := Lib.hid (by rw [HNM.out, ← HSN.out]; rfl)
  obtain ⟨NL, hNL⟩ : ∃ NL, NL = (overW (32 - ((0 : Nat) : Int)) ⟨[], [], []⟩ 0 c).all := ⟨_, rfl⟩
  have HOR : Hid (w9.ownsRow w7.heap.size 9 1 (.slice aA NL.length ac) NL.length (NL.map .string)) := Lib.hid (by rw [hNL]; exact HRR.out.order)
  have HNL : Hid (NL = names9 c) := Lib.hid (by rw [hNL]; exact HNM2.out)
  have cB2 : w9.cell? ⟨w7.heap.size, 5, none⟩ = some (.slice aA NL.length ac) := by rw [hNL]; exact cB
  have hlen : NL.length ≤ 100000 := by rw [hNL]; have := HLE.out; omega
  clear hR cB hK9 z0 z1 z2 z3 z4 HC hNL HNM2
  go_wp2_with fail
  go_ret
  refine ⟨aA, ac, by rw [← HNL.out]; rfl, ?_, by rw [← HNL.out]; exact hlen, HB9.out⟩
  rw [← HNL.out]
  exact srow11 HOR.out
 ·rw [e0]
  have HNM : Hid (names9 c = []) := Lib.hid (by unfold names9; rw [if_neg hno])
  clear e0 hno hg7
  go_wp2_with fail
  go_ret
  exact ⟨none, 0, by rw [HNM.out]; rfl, by rw [HNM.out]; intro j b hj; simp at hj, by rw [HNM.out]; simp, HB7.out⟩
end Go.Proofs.YtmdcdhdjojimeaaGreatDoor
end
