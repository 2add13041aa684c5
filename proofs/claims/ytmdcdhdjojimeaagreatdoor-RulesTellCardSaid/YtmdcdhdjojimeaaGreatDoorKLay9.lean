/- Layer 9: the nodes of a tree laid out by places. -/
import Derived.Test.YtmdcdhdjojimeaaGreatDoorKSet9
import Derived.Test.YtmdcdhdjojimeaaGreatDoorKIMay
import Derived.Test.YtmdcdhdjojimeaaGreatDoorKHas7
import Derived.Deep.RegionHeld
import Derived.OrdersHeld
import Derived.Maps.AppendAt
import Derived.Maps.OwnIn
import Derived.OneCell
import Derived.WalkKit
import Derived.Tactics2
import Derived.LoopTactic
import Derived.LoopNIn
import Derived.OwnWalk
import Derived.Deep.DeepCutAuto
section
set_option linter.unusedVariables false
set_option linter.unusedSimpArgs false
namespace Go.Proofs.YtmdcdhdjojimeaaGreatDoor
open Go.RowKit

def one9 (e : Tm) : Tm := .mk 0 0 ⟨#[]⟩ ⟨#[]⟩ [.mk 1 0 ⟨#[109]⟩ ⟨#[]⟩ [.mk 2 1 ⟨#[102]⟩ ⟨#[]⟩ [.mk 3 1 ⟨#[]⟩ ⟨#[]⟩ [.mk 5 0 ⟨#[88]⟩ ⟨#[]⟩ [], .mk 4 0 ⟨#[]⟩ ⟨#[]⟩ [], e]]]]
def vr9 (s : ByteArray) : Tm := .mk 5 0 s ⟨#[]⟩ []
def set9T (s : ByteArray) : Tm := .mk 13 0 ⟨#[]⟩ ⟨#[]⟩ [vr9 s, vr9 ⟨#[88]⟩]
def two9 (x y : Tm) : Tm := .mk 10 0 ⟨#[]⟩ ⟨#[]⟩ [x, y]

theorem one9_fits (e : Tm) (h1 : e.nodes ≤ 4000) (h2 : e.deep ≤ 50) : fitsB (one9 e) = true := by
 unfold fitsB one9
 refine decide_eq_true ⟨?_, ?_⟩
 ·simp only [Tm.nodes_mk, Tm.pres, Tm.pre, List.length_append, List.length_cons, List.length_nil]
  have : e.pre.length = e.nodes := rfl
  omega
 ·simp only [Tm.deep, Tm.deeps]
  omega
theorem nameB_X : nameB ⟨#[88]⟩ 3 = true := by decide
theorem atomB_m : atomB ⟨#[109]⟩ = true := by decide
theorem atomB_f : atomB ⟨#[102]⟩ = true := by decide
theorem one9_mods (e : Tm) (h : exprB e = true) : modsB (one9 e) = true := by
 unfold modsB one9
 simp [modB, funB, clsB, clB, partsB, patB, leafB, emp, guardB, exprsB, nameB_X, atomB_m, atomB_f, h]
 rfl
theorem vr9_expr {s : ByteArray} (h : nameB s 3 = true) : exprB (vr9 s) = true := by
 unfold exprB vr9; simp [leafB, emp, h]; rfl
theorem chk9_free {s : ByteArray} (h : nameB s 3 = true) (hX : s ≠ ⟨#[88]⟩) : chk9 (one9 (vr9 s)) = (90, 6) := by
 unfold chk9
 rw [if_pos ⟨one9_fits _ (by simp [one9, vr9, two9, set9T, Tm.nodes, Tm.pre, Tm.pres]) (by simp [one9, vr9, two9, set9T, Tm.deep, Tm.deeps]), one9_mods _ (vr9_expr h)⟩]
 have hX' : ¬ s = ⟨#[88]⟩ := hX
 simp [rules9, one9, vr9, onceW, onceM, modsF, funsF, clsF, clW, overW, clauseW, patW, bindW, backW, allW, toldW, findF, Tm.nodes, Tm.pre, Tm.pres, Tm.l, Tm.k, Tm.n, Tm.s, Tm.t, hX']
theorem chk9_Y : chk9 (one9 (vr9 ⟨#[89]⟩)) = (90, 6) := chk9_free (by decide) (by decide)
theorem chk9_X : chk9 (one9 (vr9 ⟨#[88]⟩)) = (0, 0) := by
 unfold chk9
 rw [if_pos ⟨one9_fits _ (by simp [one9, vr9, two9, set9T, Tm.nodes, Tm.pre, Tm.pres]) (by simp [one9, vr9, two9, set9T, Tm.deep, Tm.deeps]), one9_mods _ (vr9_expr nameB_X)⟩]
 decide
theorem chk9_g : chk9 (one9 (.mk 14 0 ⟨#[103]⟩ ⟨#[]⟩ [])) = (92, 6) := by
 unfold chk9
 rw [if_pos ⟨one9_fits _ (by simp [one9, vr9, two9, set9T, Tm.nodes, Tm.pre, Tm.pres]) (by simp [one9, vr9, two9, set9T, Tm.deep, Tm.deeps]), one9_mods _ (by decide)⟩]
 decide
end Go.Proofs.YtmdcdhdjojimeaaGreatDoor
end
section
set_option linter.unusedVariables false
set_option linter.unusedSimpArgs false
namespace Go.Proofs.YtmdcdhdjojimeaaGreatDoor
open Go Go.RowKit
section
variable {P : Program} {ops : Array Oper} {Q : Exit → Act → World → Prop} {md : Region.Mode} {S : World → Prop} {L : Nat → Bool}
def wpAnyE (P : Program) (md : Region.Mode) (ops : Array Oper) (Q : Exit → Act → World → Prop) (S : World → Prop) (L : Nat → Bool) : Nat → Array Bool → Act → World → Prop
 | 0, listed, a, w => Region.ready md ops listed = [] ∧ Q .normal a w
 | fuel + 1, listed, a, w =>
  (Region.ready md ops listed = [] → Q .normal a w) ∧
  ∀ i ∈ Region.ready md ops listed, wpOp P ops Q i (fun a' w' => (S w' ∧ wpAnyE P md ops Q S L fuel (listed.setIfInBounds i true) a' w') ∨ (L i = true ∧ wpAny P md ops Q fuel (listed.setIfInBounds i true) a' w')) a w
theorem wpAny_of_E : ∀ (fuel : Nat) (listed : Array Bool) (a : Act) (w : World), wpAnyE P md ops Q S L fuel listed a w → wpAny P md ops Q fuel listed a w
 | 0, _, _, _, h => h
 | fuel + 1, _, _, _, h => ⟨h.1, fun i hi => wpOp_mono (fun a' w' h' => by
   rcases h' with h' | h'
   ·exact wpAny_of_E fuel _ a' w' h'.2
   ·exact h'.2) (h.2 i hi)⟩
theorem wpAnyE_first {i : Nat} {oi : Oper} {v : Value} (hi : ops[i]? = some oi) (hsel : ∀ (j : Nat) (o : Oper) cs b, ops[j]? = some o → o.op ≠ .select cs b)
  (hQ : ∀ c a w, Q (.panic c) (a.put oi.dst v) w → Q (.panic c) a w)
  (hL : ∀ (j : Nat) (oj : Oper), L j = true → ops[j]? = some oj → ∃ e ∈ oj.after, Region.binds md e = true ∧ e.on = i) :
  ∀ (fuel : Nat) (listed : Array Bool) (a : Act) (w : World),
   (∀ j oj, ops[j]? = some oj → j ≠ i → listed.getD j true = false → (∀ e ∈ oj.after, Region.binds md e = true → e.on ≠ i) → oi.apart ops oj = true) →
   i ∈ Region.ready md ops listed → YieldsIf P ops S oi v a → S w →
   wpAnyE P md ops Q S L fuel (listed.setIfInBounds i true) (a.put oi.dst v) w → wpAnyE P md ops Q S L (fuel + 1) listed a w := by
 intro fuel
 induction fuel with
 | zero =>
  intro listed a w _ hr hy hS H
  refine ⟨fun h => (by rw [h] at hr; cases hr), fun j hj => ?_⟩
  by_cases hji : j = i
  ·subst hji; exact hy.wpOp hi hS (.inl ⟨hS, H⟩)
  ·have := ready_mono hj hji
   rw [H.1] at this
   cases this
 | succ fuel ih =>
  intro listed a w hfree hr hy hS H
  refine ⟨fun h => (by rw [h] at hr; cases hr), fun j hj => ?_⟩
  by_cases hji : j = i
  ·subst hji; exact hy.wpOp hi hS (.inl ⟨hS, H⟩)
  ·have h1 := H.2 j (ready_mono hj hji)
   obtain ⟨hjun, oj, hoj, hall⟩ := mem_ready.1 hj
   have hnot : ∀ e ∈ oj.after, Region.binds md e = true → e.on ≠ i := fun e he hb heq => by
    have h1 := hall e he hb
    have h0 := (mem_ready.1 hr).1
    rw [heq] at h1
    rcases Nat.lt_or_ge i listed.size with h' | h'
    ·simp [h'] at h0 h1; rw [h0] at h1; cases h1
    ·simp [Array.getElem?_eq_none h'] at h1
   have hLj : ¬ L j = true := fun hl => by
    obtain ⟨e, he, hb, heq⟩ := hL j oj hl hoj
    exact hnot e he hb heq
   have h1' : wpOp P ops Q j (fun a' w' => S w' ∧ wpAnyE P md ops Q S L fuel ((listed.setIfInBounds i true).setIfInBounds j true) a' w') (a.put oi.dst v) w :=
    wpOp_mono (fun a' w' h' => by
     rcases h' with h' | h'
     ·exact h'
     ·exact (hLj h'.1).elim) h1
   have h2 := wpOp_putIf hoj (hfree j oj hoj hji hjun hnot) (fun cs b => hsel i oi cs b hi) (fun cs b => hsel j oj cs b hoj) hQ hy h1'
   have hfree' : ∀ k ok, ops[k]? = some ok → k ≠ i → (listed.setIfInBounds j true).getD k true = false →
     (∀ e ∈ ok.after, Region.binds md e = true → e.on ≠ i) → oi.apart ops ok = true := fun k ok hk hki hun hno => by
    refine hfree k ok hk hki ?_ hno
    by_cases hjk : j = k
    ·subst hjk; exact hjun
    ·rw [getD_set_ne true hjk] at hun; exact hun
   refine wpOp_mono (fun a' w' h3 => .inl ⟨h3.2.1, ih (listed.setIfInBounds j true) a' w' hfree' (ready_mono hr (Ne.symm hji)) h3.1 h3.2.1 ?_⟩) h2
   rw [Array.setIfInBounds_comm _ _ hji]
   exact h3.2.2
theorem wpAnyE_first0 {i : Nat} {oi : Oper} {v : Value} (hi : ops[i]? = some oi) (hsel : ∀ (j : Nat) (o : Oper) cs b, ops[j]? = some o → o.op ≠ .select cs b)
  (hQ : ∀ c a w, Q (.panic c) (a.put oi.dst v) w → Q (.panic c) a w) :
  ∀ (fuel : Nat) (listed : Array Bool) (a : Act) (w : World),
   (∀ j oj, ops[j]? = some oj → j ≠ i → listed.getD j true = false → (∀ e ∈ oj.after, Region.binds md e = true → e.on ≠ i) → oi.apart ops oj = true) →
   i ∈ Region.ready md ops listed → Yields P ops oi v a → S w →
   wpAnyE P md ops Q S L fuel (listed.setIfInBounds i true) (a.put oi.dst v) w → wpAnyE P md ops Q S L (fuel + 1) listed a w := by
 intro fuel
 induction fuel with
 | zero =>
  intro listed a w _ hr hy hS H
  refine ⟨fun h => (by rw [h] at hr; cases hr), fun j hj => ?_⟩
  by_cases hji : j = i
  ·subst hji; exact hy.wpOp hi (.inl ⟨hS, H⟩)
  ·have := ready_mono hj hji
   rw [H.1] at this
   cases this
 | succ fuel ih =>
  intro listed a w hfree hr hy hS H
  refine ⟨fun h => (by rw [h] at hr; cases hr), fun j hj => ?_⟩
  by_cases hji : j = i
  ·subst hji; exact hy.wpOp hi (.inl ⟨hS, H⟩)
  ·have h1 := H.2 j (ready_mono hj hji)
   obtain ⟨hjun, oj, hoj, hall⟩ := mem_ready.1 hj
   have hnot : ∀ e ∈ oj.after, Region.binds md e = true → e.on ≠ i := fun e he hb heq => by
    have h1 := hall e he hb
    have h0 := (mem_ready.1 hr).1
    rw [heq] at h1
    rcases Nat.lt_or_ge i listed.size with h' | h'
    ·simp [h'] at h0 h1; rw [h0] at h1; cases h1
    ·simp [Array.getElem?_eq_none h'] at h1
   have h2 := wpOp_put hoj (hfree j oj hoj hji hjun hnot) (fun cs b => hsel i oi cs b hi) (fun cs b => hsel j oj cs b hoj) hQ hy h1
   have hfree' : ∀ k ok, ops[k]? = some ok → k ≠ i → (listed.setIfInBounds j true).getD k true = false →
     (∀ e ∈ ok.after, Region.binds md e = true → e.on ≠ i) → oi.apart ops ok = true := fun k ok hk hki hun hno => by
    refine hfree k ok hk hki ?_ hno
    by_cases hjk : j = k
    ·subst hjk; exact hjun
    ·rw [getD_set_ne true hjk] at hun; exact hun
   refine wpOp_mono (fun a' w' h3 => ?_) h2
   obtain ⟨hy', h3 | h3⟩ := h3
   ·refine .inl ⟨h3.1, ih (listed.setIfInBounds j true) a' w' hfree' (ready_mono hr (Ne.symm hji)) hy' h3.1 ?_⟩
    rw [Array.setIfInBounds_comm _ _ hji]
    exact h3.2
   ·refine .inr ⟨h3.1, wpAny_first hi hsel hQ fuel (listed.setIfInBounds j true) a' w' hfree' (ready_mono hr (Ne.symm hji)) hy' ?_⟩
    rw [Array.setIfInBounds_comm _ _ hji]
    exact h3.2
theorem wpAnyE_take0 {i : Nat} {oi : Oper} {v : Value} {fuel : Nat} {listed : Array Bool} {a : Act} {w : World} (hi : ops[i]? = some oi)
  (hs : Region.noSelect ops = true) (hf : Region.free md ops listed i = true) (hr : (Region.ready md ops listed).contains i = true)
  (hQ : ∀ c a w, Q (.panic c) (a.put oi.dst v) w → Q (.panic c) a w) (hy : Yields P ops oi v a) (hS : S w)
  (h : wpAnyE P md ops Q S L fuel (listed.setIfInBounds i true) (a.put oi.dst v) w) : wpAnyE P md ops Q S L (fuel + 1) listed a w :=
 wpAnyE_first0 hi (Region.noSelect_spec hs) hQ fuel listed a w (Region.free_spec hi hf) (by simpa using hr) hy hS h
theorem te0 {P : Program} {md : Region.Mode} {ops : Array Oper} {Q : Exit → Act → World → Prop} {S : World → Prop} {L : Nat → Bool} (i : Nat) {op : Op} {ty : TypeId} {d : Option Tmp} {pos : String} {af : Array Edge} {g : Option (Nat × Bool)} {v : Value} {fuel : Nat} {listed : Array Bool} {a : Act} {w : World} (h : wpAnyE P md ops Q S L fuel (listed.setIfInBounds i true) (a.put d v) w)
  (hi : ops[i]? = some ⟨d, op, ty, pos, af, g⟩ := by rfl) (hs : Region.noSelect ops = true := by kernel_rfl) (hf : Region.free md ops listed i = true := by kernel_rfl) (hr : (Region.ready md ops listed).contains i = true := by kernel_rfl)
  (hQ : ∀ c a w, Q (.panic c) (a.put d v) w → Q (.panic c) a w := by exact fun _ _ _ h => h) (hS : S w := by assumption) (hw : Region.wanted ⟨d, op, ty, pos, af, g⟩ (yielded ops a.tmps) = true := by kernel_rfl)
  (hy : ∀ V, (execOp a.eval ⟨d, op, ty, pos, af, g⟩).run P V = .ok (.value v) V := by (intro w; go_simp; first | done | with_reducible rfl)) : wpAnyE P md ops Q S L (fuel + 1) listed a w :=
 wpAnyE_take0 hi hs hf hr hQ (Or.inl ⟨hw, hy⟩) hS h
def lateWait (md : Region.Mode) (ops : Array Oper) (L : List Nat) (i : Nat) : Bool := L.all fun j => match ops[j]? with
 | some oj => oj.after.toList.any fun e => Region.binds md e && e.on == i
 | none => true
theorem lateWait_spec {Ls : List Nat} {i : Nat} (h : lateWait md ops Ls i = true) : ∀ (j : Nat) (oj : Oper), Ls.contains j = true → ops[j]? = some oj → ∃ e ∈ oj.after, Region.binds md e = true ∧ e.on = i := by
 intro j oj hj ho
 have h1 := List.all_eq_true.1 h j (by simpa using hj)
 rw [ho] at h1
 obtain ⟨e, he, h2⟩ := List.any_eq_true.1 h1
 rw [Bool.and_eq_true] at h2
 exact ⟨e, Array.mem_toList_iff.1 he, h2.1, by simpa using h2.2⟩
theorem wpAnyE_take {Ls : List Nat} {i : Nat} {oi : Oper} {v : Value} {fuel : Nat} {listed : Array Bool} {a : Act} {w : World} (hi : ops[i]? = some oi)
  (hs : Region.noSelect ops = true) (hf : Region.free md ops listed i = true) (hr : (Region.ready md ops listed).contains i = true) (hl : lateWait md ops Ls i = true)
  (hQ : ∀ c a w, Q (.panic c) (a.put oi.dst v) w → Q (.panic c) a w) (hy : YieldsIf P ops S oi v a) (hS : S w)
  (h : wpAnyE P md ops Q S Ls.contains fuel (listed.setIfInBounds i true) (a.put oi.dst v) w) : wpAnyE P md ops Q S Ls.contains (fuel + 1) listed a w :=
 wpAnyE_first hi (Region.noSelect_spec hs) hQ (lateWait_spec hl) fuel listed a w (Region.free_spec hi hf) (by simpa using hr) hy hS h
theorem wpAnyE_one {i : Nat} {o : Oper} {fuel : Nat} {listed : Array Bool} {a : Act} {w : World} (hr : Region.ready md ops listed = [i]) (ho : ops[i]? = some o)
  (h : ∀ K' : Act → World → Prop, Shut (∀ a w, S w → (S w → wpAnyE P md ops Q S L fuel (listed.setIfInBounds i true) a w) → K' a w) → if Region.wanted o (yielded ops a.tmps) = true then Oper.wp P o a w K' Q else K' (a.put o.dst undef) w) :
  wpAnyE P md ops Q S L (fuel + 1) listed a w :=
 ⟨fun h0 => (by rw [hr] at h0; cases h0), by
  rw [hr]
  intro j hj
  rw [List.mem_singleton.1 hj]
  exact wpOp_step ho (fun K' hK => h K' (fun a w hS hW => hK a w (.inl ⟨hS, hW hS⟩)))⟩
theorem wpAnyE_late {i : Nat} {o : Oper} {fuel : Nat} {listed : Array Bool} {a : Act} {w : World} (hr : Region.ready md ops listed = [i]) (ho : ops[i]? = some o) (hl : L i = true)
  (h : ∀ K' : Act → World → Prop, Shut (∀ a w, wpAny P md ops Q fuel (listed.setIfInBounds i true) a w → K' a w) → if Region.wanted o (yielded ops a.tmps) = true then Oper.wp P o a w K' Q else K' (a.put o.dst undef) w) :
  wpAnyE P md ops Q S L (fuel + 1) listed a w :=
 ⟨fun h0 => (by rw [hr] at h0; cases h0), by
  rw [hr]
  intro j hj
  rw [List.mem_singleton.1 hj]
  exact wpOp_step ho (fun K' hK => h K' (fun a w hW => hK a w (.inr ⟨hl, hW⟩)))⟩
theorem wpAnyE_done {listed : Array Bool} {a : Act} {w : World} (hr : Region.ready md ops listed = []) (h : Q .normal a w) : ∀ fuel, wpAnyE P md ops Q S L fuel listed a w
 | 0 => ⟨hr, h⟩
 | _ + 1 => ⟨fun _ => h, by rw [hr]; simp⟩
theorem wp_region_E {id : Nat} {a : Act} {w : World} (Ls : List Nat) (hm : P.follows .mixedOrders = true) (hS : S w.drew)
  (h : S w.drew → wpAnyE P .any ops Q S Ls.contains ops.size (Array.replicate ops.size false) a w.drew) : (Code.region id ops true).wp P Q a w :=
 wp_region_any hm (wpAny_of_E _ _ _ _ (h hS))
end
end Go.Proofs.YtmdcdhdjojimeaaGreatDoor
end
section
set_option linter.unusedVariables false
set_option linter.unusedSimpArgs false
namespace Go.Proofs.YtmdcdhdjojimeaaGreatDoor
open Go.RowKit

structure ElT (T E : TypeId) (z : Value) (size : Nat) : Prop where
 sl : Tryz.prog.underlying T = some (.slice E)
 info : ∃ i, Tryz.prog.info? E = some i ∧ i.zero = some z ∧ i.size = size ∧ i.bytes ≤ 200
 zs : z.cells.size = size
 pos : 0 < size
set_option maxRecDepth 100000 in
theorem run_own1 {T E : TypeId} {z : Value} {size : Nat} (hT : ElT T E z size) (w : World) (ty : TypeId) {base : Nat} {v : Value} {n : Nat} {xs : List Value} (hown : w.ownsRow base E size v n xs) (hbase : base ≤ w.heap.size)
    (g : Nat) {news : Array Value} {fr : Nat × Nat} (hg : w.heap[g]? = some (.cells news E fr)) (hl : news.size = size) (h1 : ∀ u ∈ news.toList, u.oneCell' = true) (hlen : n + 1 ≤ 2000000) :
    ∃ v' w', (Builtin.append_ #[T, T] ty #[v, .slice (some ⟨g, 0, none⟩) 1 1]).run Tryz.prog w = .ok v' w' ∧ w'.ownsRow base E size v' (n + 1) (xs ++ news.toList) ∧ w.grownBy w' v.ownBlock ∧ (v'.ownBlock = v.ownBlock ∨ v'.ownBlock = some w.heap.size) := by
  obtain ⟨i, hi, hz, hsz, hby⟩ := hT.info
  have hnews : ∀ j u, news.toList[j]? = some u → w.cell? ((⟨g, 0, none⟩ : Addr).add j) = some u := by
    intro j u hj
    have e : (⟨g, 0, none⟩ : Addr).add j = ⟨g, j, none⟩ := by unfold Addr.add; split <;> simp_all
    rw [e]
    exact cell_of_row hg (by simpa using hj)
  obtain ⟨v', w', hr, h2, h3, _, h5⟩ := run_append_own_at (P := Tryz.prog) w base T ty E i z size i.bytes hT.sl hi hz hsz rfl hT.zs hT.pos v n xs hown ⟨g, 0, none⟩ 1 1 news.toList (by simpa using hl) hnews h1 (by unfold maxLen; omega)
    (by have h9 : (n + 1) * i.bytes ≤ 2000000 * 200 := Nat.mul_le_mul hlen hby
        omega) hbase
  exact ⟨v', w', hr, h2, h3, h5⟩
set_option maxRecDepth 100000 in
theorem wp_own1 {T E : TypeId} {z : Value} {size : Nat} (hT : ElT T E z size) {o : Oper} {a : Act} {w : World} {K : Act → World → Prop} {Q : Exit → Act → World → Prop} (sl x : Operand)
  (ho : o.op = .call { callee := .builtin .append, args := #[sl, x], argTypes := #[T, T] })
  {base : Nat} {v : Value} {n : Nat} {xs : List Value} (hown : w.ownsRow base E size v n xs) (hbase : base ≤ w.heap.size) (he : a.eval sl = v)
  (g : Nat) {news : Array Value} {fr : Nat × Nat} (hx : a.eval x = .slice (some ⟨g, 0, none⟩) 1 1) (hg : w.heap[g]? = some (.cells news E fr)) (hl : news.size = size) (h1 : ∀ u ∈ news.toList, u.oneCell' = true) (hlen : n + 1 ≤ 2000000)
  (h : ∀ v' w', w'.ownsRow base E size v' (n + 1) (xs ++ news.toList) → w.grownBy w' v.ownBlock → (v'.ownBlock = v.ownBlock ∨ v'.ownBlock = some w.heap.size) → K (a.put o.dst v') w') : o.wp Tryz.prog a w K Q := by
 obtain ⟨v', w', hr, h2, h3, h5⟩ := run_own1 hT w o.type hown hbase g hg hl h1 hlen
 unfold Oper.wp execOp
 simp only [ho, resolve, invoke, builtin, Sem.run_bind, Sem.run_pure, Result.andThen_ok, List.map_toArray, List.map_cons, List.map_nil, he, hx, hr]
 exact h _ _ h2 h3 h5
theorem wpList_own1 {T E : TypeId} {z : Value} {size : Nat} (hT : ElT T E z size) {ops : Array Oper} {rest : List Oper} {o : Oper} {a : Act} {w : World} {Q : Exit → Act → World → Prop} (hgd : o.guard = none) (sl x : Operand)
  (ho : o.op = .call { callee := .builtin .append, args := #[sl, x], argTypes := #[T, T] })
  {base : Nat} {v : Value} {n : Nat} {xs : List Value} (hown : w.ownsRow base E size v n xs) (hbase : base ≤ w.heap.size) (he : a.eval sl = v)
  (g : Nat) {news : Array Value} {fr : Nat × Nat} (hx : a.eval x = .slice (some ⟨g, 0, none⟩) 1 1) (hg : w.heap[g]? = some (.cells news E fr)) (hl : news.size = size) (h1 : ∀ u ∈ news.toList, u.oneCell' = true) (hlen : n + 1 ≤ 2000000)
  (h : ∀ v' w', w'.ownsRow base E size v' (n + 1) (xs ++ news.toList) → w.grownBy w' v.ownBlock → (v'.ownBlock = v.ownBlock ∨ v'.ownBlock = some w.heap.size) → wpList Tryz.prog ops Q rest (a.put o.dst v') w') : wpList Tryz.prog ops Q (o :: rest) a w :=
 wpList_plain hgd fun K hK => wp_own1 hT sl x ho hown hbase he g hx hg hl h1 hlen fun v' w' h1 h2 h3 => hK _ _ (h v' w' h1 h2 h3)

theorem elt_of {T E : TypeId} {z : Value} {size bytes : Nat} (h : Tryz.prog.underlying T = some (.slice E)) (hi : (Tryz.prog.info? E).map (fun i => (i.zero, i.size, i.bytes)) = some (some z, size, bytes)) (hb : bytes ≤ 200) (hz : z.cells.size = size) (hp : 0 < size) : ElT T E z size := by
 obtain ⟨i, h1, h2⟩ := Option.map_eq_some_iff.1 hi
 simp only [Prod.mk.injEq] at h2
 exact ⟨h, ⟨i, h1, h2.1, h2.2.1, by rw [h2.2.2]; exact hb⟩, hz, hp⟩
end Go.Proofs.YtmdcdhdjojimeaaGreatDoor
end
section
set_option linter.unusedVariables false
set_option linter.unusedSimpArgs false
namespace Go.Proofs.YtmdcdhdjojimeaaGreatDoor
open Go.RowKit

theorem info_str9 : (Tryz.prog.info? 9).map (fun i => (i.zero, i.size, i.bytes)) = some (some (.string ⟨#[]⟩), 1, 16) := by kernel_rfl
theorem info_err9 : (Tryz.prog.info? 47).map (fun i => (i.zero, i.size, i.bytes)) = some (some Value.nilIface, 1, 16) := by kernel_rfl
theorem elt_str : ElT 36 9 (.string ⟨#[]⟩) 1 := elt_of Tryz.underlying36 info_str9 (by decide) rfl (by decide)
theorem elt_err : ElT 68 47 Value.nilIface 1 := elt_of Tryz.underlying68 info_err9 (by decide) rfl (by decide)

set_option maxRecDepth 100000 in
theorem refused_any (e p : Int) (w : World) : Calls Tryz.prog 39 #[.int .i64 e, .int .i64 p] w fun r w' => r = .returned (.iface 44 (.pointer (some ⟨w.heap.size, 0, none⟩))) ∧ w' = w.alloc (.cells #[.int .i64 9, .int .i64 e, .int .i64 p] 51) := by
 go_enter Tryz.func39, Tryz.ntmps39
 go_wp2_with fail
 go_ret
 exact ⟨rfl, rfl⟩
end Go.Proofs.YtmdcdhdjojimeaaGreatDoor
end
section
set_option linter.unusedVariables false
set_option linter.unusedSimpArgs false
namespace Go.Proofs.YtmdcdhdjojimeaaGreatDoor
open Go.RowKit

structure Sp where
 y : Tm
 A : Option Addr
 c : Nat
 b : Nat
def Sp.cells (x : Sp) : List Value := [.int .i8 x.y.k, .int .i64 x.y.n, .string x.y.s, .string x.y.t, .slice x.A x.y.l.length x.c, .int .i64 (x.b : Int)]
def flatSp (S : List Sp) : List Value := S.flatMap Sp.cells
theorem flatSp_append (a b : List Sp) : flatSp (a ++ b) = flatSp a ++ flatSp b := by simp [flatSp]
theorem flatSp_len : ∀ (S : List Sp), (flatSp S).length = S.length * 6
 | [] => rfl
 | x :: S => by rw [flatSp, List.flatMap_cons, List.length_append, List.length_cons]; have := flatSp_len S; unfold flatSp at this; rw [this]; show 6 + _ = _; omega
theorem flatSp_at : ∀ {S : List Sp} {i : Nat} {x : Sp} (_ : S[i]? = some x) (j : Nat) (_ : j < 6), (flatSp S)[i * 6 + j]? = x.cells[j]?
 | y :: L, 0, z, h, j, hj => by
  simp at h; subst h
  rw [flatSp, List.flatMap_cons, List.getElem?_append_left (by show _ < 6; omega)]
  simp
 | y :: L, i + 1, z, h, j, hj => by
  have ih := flatSp_at (S := L) (i := i) (x := z) (by simpa using h) j hj
  rw [flatSp, List.flatMap_cons, List.getElem?_append_right (by show 6 ≤ _; omega), show (i + 1) * 6 + j - y.cells.length = i * 6 + j by show _ - 6 = _; omega]
  exact ih
theorem flatSp_set (P Q : List Sp) (x : Sp) (b : Nat) : (flatSp (P ++ x :: Q)).set (P.length * 6 + 5) (.int .i64 (b : Int)) = flatSp (P ++ { x with b := b } :: Q) := by
 rw [flatSp_append, flatSp_append, List.set_append_right _ _ (by rw [flatSp_len]; omega), flatSp_len, show P.length * 6 + 5 - P.length * 6 = 5 by omega]
 rfl
theorem info_spot9 : (Tryz.prog.info? 102).map (fun i => (i.zero, i.size, i.bytes)) = some (some (.agg #[.int .i8 0, .int .i64 0, .string ⟨#[]⟩, .string ⟨#[]⟩, .slice none 0 0, .int .i64 0]), 6, 80) := by kernel_rfl
theorem elt_spot : ElT 66 102 (.agg #[.int .i8 0, .int .i64 0, .string ⟨#[]⟩, .string ⟨#[]⟩, .slice none 0 0, .int .i64 0]) 6 := elt_of Tryz.underlying66 info_spot9 (by decide) rfl (by decide)

structure KeepL (V V' : World) : Prop where
 size : V.heap.size ≤ V'.heap.size
 cells : ∀ (k : Nat) (c : Array Value) (t : TypeId) (z : Nat × Nat), V.heap[k]? = some (.cells c t z) → t ≠ 102 → t ≠ 66 → V'.heap[k]? = some (.cells c t z)
theorem KeepL.refl (V : World) : KeepL V V := ⟨Nat.le_refl _, fun _ _ _ _ h _ _ => h⟩
theorem KeepL.trans {A B C : World} (h : KeepL A B) (g : KeepL B C) : KeepL A C := ⟨Nat.le_trans h.size g.size, fun k c t z hk h1 h2 => g.cells k c t z (h.cells k c t z hk h1 h2) h1 h2⟩
theorem KeepL.of_below {A B : World} (h : Below A.heap.size A B) : KeepL A B := ⟨h.size, fun k c t z hk _ _ => (h.block k (heap_lt hk)).trans hk⟩
structure LayS (w0 : World) (base bl bf : Nat) (S : List Sp) (v : Value) (V : World) : Prop where
 below : Below base w0 V
 lt : base ≤ w0.heap.size ∧ base ≤ bl
 box : V.heap[bl]? = some (.cells #[v] 66 (0, 0))
 own : V.ownsRow base 102 6 v S.length (flatSp S)
 fn : V.heap[bf]? = some (.cells #[.func (.func 52) #[] #[.pointer (some ⟨bl, 0, none⟩), .pointer (some ⟨bf, 0, none⟩)]] 58 (0, 0))
section
variable {w0 V V1 : World} {base bl bf : Nat} {S S' : List Sp} {v v' : Value}
theorem LayS.under (h : LayS w0 base bl bf S v V) (b : Below V.heap.size V V1) : LayS w0 base bl bf S v V1 :=
 ⟨h.below.trans (b.mono (Nat.le_trans h.lt.1 h.below.size)), h.lt, (b.block _ (heap_lt h.box)).trans h.box, own_keep h.own (fun k hk => b.block k (by obtain ⟨_, cur, h2⟩ := own_blk h.own hk; exact heap_lt h2)), (b.block _ (heap_lt h.fn)).trans h.fn⟩
theorem own_boxl (h : LayS w0 base bl bf S v V) (g : V.grownBy V1 v.ownBlock) : V1.heap[bl]? = some (.cells #[v] 66 (0, 0)) :=
 (g.block _ (heap_lt h.box) (fun e' => by obtain ⟨_, cur, h2⟩ := own_blk h.own e'.symm; rw [h.box] at h2; cases h2)).trans h.box
theorem LayS.step (h : LayS w0 base bl bf S v V) (g : V.grownBy V1 v.ownBlock) (h1 : V1.ownsRow base 102 6 v' S'.length (flatSp S')) :
  LayS w0 base bl bf S' v' (V1.setCell ⟨bl, 0, none⟩ v') ∧ KeepL V (V1.setCell ⟨bl, 0, none⟩ v') := by
 have hb1 : V1.heap[bl]? = _ := (g.block _ (heap_lt h.box) (fun e' => by obtain ⟨_, cur, h2⟩ := own_blk h.own e'.symm; rw [h.box] at h2; cases h2)).trans h.box
 have m1 : Mod (fun k => v.ownBlock = some k) V V1 := Mod.grown g (fun k _ e => e)
 have m2 : Mod (fun k => k = bl) V1 (V1.setCell ⟨bl, 0, none⟩ v') := Mod.setCell _ _ _ (.inl rfl)
 have mm : Mod (fun k => k = bl ∨ v.ownBlock = some k) V (V1.setCell ⟨bl, 0, none⟩ v') := (m1.mono (fun _ _ h => .inr h)).trans m2 (fun _ _ h => .inl h)
 have kt : KeepL V (V1.setCell ⟨bl, 0, none⟩ v') := ⟨mm.size, fun k c t z hk h2 h3 => (mm.block k (heap_lt hk) (by
  rintro (rfl | hv)
  ·rw [h.box] at hk; cases hk; exact h3 rfl
  ·obtain ⟨_, cur, h4⟩ := own_blk h.own hv; rw [hk] at h4; cases h4; exact h2 rfl)).trans hk⟩
 refine ⟨⟨h.below.trans (mm.below (Nat.le_trans h.lt.1 h.below.size) (fun k hk => ?_)), h.lt, set_row (i := 0) v' hb1, ?_, kt.cells _ _ _ _ h.fn (by decide) (by decide)⟩, kt⟩
 ·rcases hk with rfl | hk
  ·exact h.lt.2
  ·exact (own_blk h.own hk).1
 ·refine own_keep h1 (fun b hv => m2.block b ?_ ?_)
  ·obtain ⟨_, cur, h2⟩ := own_blk h1 hv; exact heap_lt h2
  ·rintro rfl
   obtain ⟨_, cur, h2⟩ := own_blk h1 hv
   rw [hb1] at h2; cases h2
theorem LayS.place {P Q : List Sp} {x : Sp} {g cap : Nat} (h : LayS w0 base bl bf (P ++ x :: Q) (.slice (some ⟨g, 0, none⟩) (P ++ x :: Q).length cap) V) (b : Nat) :
  LayS w0 base bl bf (P ++ { x with b := b } :: Q) (.slice (some ⟨g, 0, none⟩) (P ++ x :: Q).length cap) (V.setCell ⟨g, P.length * 6 + 5, none⟩ (.int .i64 (b : Int))) ∧ KeepL V (V.setCell ⟨g, P.length * 6 + 5, none⟩ (.int .i64 (b : Int))) := by
 obtain ⟨hb, cur, hc⟩ := own_blk h.own (b := g) rfl
 have m2 : Mod (fun k => k = g) V (V.setCell ⟨g, P.length * 6 + 5, none⟩ (.int .i64 (b : Int))) := Mod.setCell _ _ _ (.inl rfl)
 have kt : KeepL V (V.setCell ⟨g, P.length * 6 + 5, none⟩ (.int .i64 (b : Int))) := ⟨m2.size, fun k c t z hk h2 h3 => (m2.block k (heap_lt hk) (by rintro rfl; rw [hk] at hc; cases hc; exact h2 rfl)).trans hk⟩
 have hl : (P ++ { x with b := b } :: Q).length = (P ++ x :: Q).length := by simp
 refine ⟨⟨h.below.trans (m2.below (Nat.le_trans h.lt.1 h.below.size) (fun k e => by omega)), h.lt, (m2.block _ (heap_lt h.box) (by rintro rfl; rw [h.box] at hc; cases hc)).trans h.box, ?_, kt.cells _ _ _ _ h.fn (by decide) (by decide)⟩, kt⟩
 rw [hl, ← flatSp_set]
 exact (h.own.stored _ _).1
end
theorem add6L (b p : Nat) : (⟨b, 0, none⟩ : Addr).add (p * 6) = ⟨b, p * 6, none⟩ := by unfold Addr.add; split <;> simp_all
def LayTo (w0 : World) (base bl bf : Nat) (S : List Sp) (L : List Tm) (V V' : World) : Prop :=
 (∃ S' v', LayS w0 base bl bf (S ++ S') v' V' ∧ S'.map (·.y) = L ∧ ∀ i z, S'[i]? = some z → z.b = S.length + i + z.y.nodes) ∧ KeepL V V'
set_option maxHeartbeats 8000000 in
set_option maxRecDepth 100000 in
theorem lay1_any (w0 : World) (base bl bf n0 : Nat) (hn0 : n0 ≤ base) (x : Tm) : ∀ (S : List Sp) (v nv : Value) (V : World), LayS w0 base bl bf S v V → TmAt (· < n0) w0 x nv → S.length + x.nodes ≤ 5000 →
  Calls Tryz.prog 52 #[nv, .pointer (some ⟨bl, 0, none⟩), .pointer (some ⟨bf, 0, none⟩)] V fun e V' => e = .returned (.tuple #[]) ∧ LayTo w0 base bl bf S x.pre V V' := by
 induction x using Tm.ind with
 | h k n s t l ih =>
 intro S v nv V hS hT hb
 obtain ⟨A, cap, rfl, hR, hk, hn, hs, ht⟩ := hT.parts
 obtain ⟨A0, c0, rfl, hc0⟩ := own_slice hS.own
 have hlen := hR.max
 unfold maxLen at hlen
 have hxn : (Tm.mk k n s t l).nodes = (Tm.pres l).length + 1 := by unfold Tm.nodes; rw [Tm.pre, List.length_cons]
 rw [hxn] at hb
 have b1 : Below V.heap.size V (V.alloc (.cells #[.int .i8 k, .int .i64 n, .string s, .string t, .slice A l.length cap] 25)) := (Below.refl _ _).alloc (Nat.le_refl _) _
 have g1 := block_alloc V (.cells #[.int .i8 k, .int .i64 n, .string s, .string t, .slice A l.length cap] 25)
 have h1 := hS.under b1
 have d0 := cell_of_row (i := 0) g1 rfl
 have d1 := cell_of_row (i := 1) g1 rfl
 have d2 := cell_of_row (i := 2) g1 rfl
 have d3 := cell_of_row (i := 3) g1 rfl
 have d4 := cell_of_row (i := 4) g1 rfl
 have dl := cell_of_row (i := 0) h1.box rfl
 have HG1 := Lib.hid g1
 have H1 := Lib.hid h1
 have HB1 := Lib.hid b1
 have HR := Lib.hid hR
 have HIH := Lib.hid ih
 have HBD := Lib.hid hb
 clear hS hT hR ih b1 g1 h1 hxn hb
 go_enter Tryz.func52, Tryz.ntmps52
 go_upto_region 2 with fail
 generalize V.alloc (.cells #[.int .i8 k, .int .i64 n, .string s, .string t, .slice A l.length cap] 25) = V1 at HG1 H1 HB1 d0 d1 d2 d3 d4 dl ⊢
 have bb := block_alloc V1 (.cells #[.int .i8 k, .int .i64 n, .string s, .string t, .slice A l.length cap, .int .i64 0] 102)
 have h2 := H1.out.under ((Below.refl V1.heap.size V1).alloc (Nat.le_refl _) (.cells #[.int .i8 k, .int .i64 n, .string s, .string t, .slice A l.length cap, .int .i64 0] 102))
 have HBB := Lib.hid bb
 have H2 := Lib.hid h2
 have HBL : Hid (base ≤ (V1.alloc (.cells #[.int .i8 k, .int .i64 n, .string s, .string t, .slice A l.length cap, .int .i64 0] 102)).heap.size) := Nat.le_trans h2.lt.1 h2.below.size
 have HLE : Hid (S.length + 1 ≤ 2000000) := by show _ ≤ _; have := HBD.out; omega
 clear bb h2
 go_upto_region 3 with (at_builtin; refine wpList_own1 elt_spot rfl _ _ rfl H2.out.own HBL.out rfl V1.heap.size rfl HBB.out rfl (by simp [Value.oneCell']) HLE.out (fun v' V4 O4 G4 A4 => ?_); obtain ⟨A5, cp5, rfl, -⟩ := own_slice O4; have c3 := cell_of_row (i := 0) (own_boxl H2.out G4) rfl; have f3 := free_of_row (i := 0) (own_boxl H2.out G4); have H4 := Lib.hid (And.intro O4 G4); clear O4 G4 A4)
 obtain ⟨O4, G4⟩ := H4.out
 obtain ⟨X, hX⟩ : ∃ X : Tm, X = .mk k n s t l := ⟨_, rfl⟩
 have e6 : #[Value.int .i8 k, .int .i64 n, .string s, .string t, .slice A l.length cap, .int .i64 0].toList = Sp.cells ⟨X, A, cap, 0⟩ := by rw [hX]; rfl
 rw [e6, show flatSp S ++ Sp.cells ⟨X, A, cap, 0⟩ = flatSp (S ++ [⟨X, A, cap, 0⟩]) by rw [flatSp_append]; simp [flatSp]] at O4
 obtain ⟨h5, k5⟩ := H2.out.step (S' := S ++ [⟨X, A, cap, 0⟩]) G4 (by rw [List.length_append]; exact O4)
 clear H4 O4 G4 c3 f3 d0 d1 d2 d3 d4 dl HBB HBL HLE e6
 have hg5 := k5.cells _ _ _ _ ((Below.heap_alloc _ _ _ (heap_lt HG1.out)).trans HG1.out) (by decide) (by decide)
 have K5 : Hid (KeepL V (V4.setCell ⟨bl, 0, none⟩ (.slice A5 (S.length + 1) cp5))) := ((KeepL.of_below HB1.out).trans (KeepL.of_below ((Below.refl V1.heap.size V1).alloc (Nat.le_refl _) _))).trans k5
 generalize V4.setCell ⟨bl, 0, none⟩ (.slice A5 (S.length + 1) cp5) = V5 at h5 hg5 K5 ⊢
 have d4 := cell_of_row (i := 4) hg5 rfl
 have H5 := Lib.hid h5
 have HX := Lib.hid hX
 clear h5 k5 hg5 hX
 go_wp2_with fail
 clear d4
 go_loopw [17] (fun q wr => ∃ j : Nat, j ≤ l.length ∧ q = .int .i64 (j : Int) ∧ (∃ S' v', LayS w0 base bl bf (S ++ ⟨X, A, cap, 0⟩ :: S') v' wr ∧ S'.map (·.y) = Tm.pres (l.take j) ∧ ∀ i z, S'[i]? = some z → z.b = S.length + 1 + i + z.y.nodes) ∧ KeepL V5 wr) (fun q _ => l.length - (intOf q).toNat)
 case atStart => exact ⟨0, Nat.zero_le _, rfl, ⟨[], _, H5.out, rfl, fun i z h => by simp at h⟩, .refl _⟩
 case round =>
  obtain ⟨j, hj, rfl, ⟨S', v', hS, hy, hp⟩, hK⟩ := hrel
  have HS := Lib.hid hS
  have HY := Lib.hid hy
  have HP := Lib.hid hp
  have HK := Lib.hid hK
  have hsl : S'.length = (Tm.pres (l.take j)).length := by rw [← hy, List.length_map]
  have HSL := Lib.hid hsl
  clear hS hy hp hK hsl
  by_cases hlt : j < l.length
  ·obtain ⟨y, hy⟩ : ∃ y, l[j]? = some y := ⟨l[j], List.getElem?_eq_getElem hlt⟩
   obtain ⟨ad, u, rfl, had, hE, hTy⟩ := HR.out.at_ j y hy
   have hEr : ElemAt wr ad j u := hE.keep (HS.out.below.block ad.block (by omega))
   obtain ⟨k', n', s', t', L', A', cap', hy', rfl⟩ : ∃ k' n' s' t' L' A' cap', y = Tm.mk k' n' s' t' L' ∧ u = .agg #[.int .i8 k', .int .i64 n', .string s', .string t', .slice A' L'.length cap'] := by
    cases hTy; exact ⟨_, _, _, _, _, _, _, rfl, rfl⟩
   obtain ⟨q0, q1, q2, q3, q4, hc, e0, e1, e2, e3, e4⟩ := hEr
   simp only [Value.agg.injEq, Array.mk.injEq, List.cons.injEq, and_true] at hc
   obtain ⟨rfl, rfl, rfl, rfl, rfl⟩ := hc
   have hmem := List.mem_of_getElem? hy
   have hsx : (Tm.pres (l.take (j + 1))) = Tm.pres (l.take j) ++ y.pre := Tm.pres_take_succ hy
   have htl : (Tm.pres (l.take (j + 1))).length ≤ (Tm.pres l).length := by
    have : Tm.pres l = Tm.pres (l.take (j + 1)) ++ Tm.pres (l.drop (j + 1)) := by rw [← Tm.pres_append, List.take_append_drop]
    rw [this, List.length_append]; omega
   have hln : (Tm.pres (l.take (j + 1))).length = (Tm.pres (l.take j)).length + y.nodes := by rw [hsx, List.length_append]; rfl
   have b6 : Below wr.heap.size wr (wr.alloc (.cells #[.int .i8 k', .int .i64 n', .string s', .string t', .slice A' L'.length cap'] 25)) := (Below.refl _ _).alloc (Nat.le_refl _) _
   have g6 := block_alloc wr (.cells #[.int .i8 k', .int .i64 n', .string s', .string t', .slice A' L'.length cap'] 25)
   have h6 := HS.out.under b6
   have cf := cell_of_row (i := 0) h6.fn rfl
   have d0 := cell_of_row (i := 0) g6 rfl
   have d1 := cell_of_row (i := 1) g6 rfl
   have d2 := cell_of_row (i := 2) g6 rfl
   have d3 := cell_of_row (i := 3) g6 rfl
   have d4 := cell_of_row (i := 4) g6 rfl
   have HC := Lib.hid (HIH.out y hmem _ _ _ _ h6 hTy (by rw [List.length_append, List.length_cons]; have := HBD.out; have := HSL.out; omega))
   have HB6 := Lib.hid b6
   have HLT := Lib.hid hlt
   have HSX := Lib.hid hsx
   clear hE hTy hy hmem hsx htl hln b6 g6 h6 hy' hlt
   go_wp2_with fail
   refine HC.out.mono ?_
   clear cf d0 d1 d2 d3 d4 e0 e1 e2 e3 e4
   rintro e w7 ⟨rfl, ⟨S2, v2, hS2, hy2, hp2⟩, hK2⟩
   have HS2 := Lib.hid hS2
   have HY2 := Lib.hid hy2
   have HP2 := Lib.hid hp2
   have HK2 := Lib.hid hK2
   clear hS2 hy2 hp2 hK2
   go_wp2_with fail
   go_roundw
   case rel =>
    refine ⟨j + 1, HLT.out, by go_num, ⟨S' ++ S2, v2, ?_, by rw [List.map_append, HY.out, HY2.out, HSX.out], ?_⟩, (HK.out.trans (.of_below HB6.out)).trans HK2.out⟩
    ·have := HS2.out; rw [List.append_assoc] at this; exact this
    ·intro i z hz
     rw [List.getElem?_append] at hz
     by_cases hi : i < S'.length
     ·rw [if_pos hi] at hz; exact HP.out i z hz
     ·rw [if_neg hi] at hz
      rw [HP2.out _ z hz, List.length_append, List.length_cons]
      omega
   case measure => simp [intOf]; have := HLT.out; omega
  ·obtain rfl : j = l.length := by omega
   obtain ⟨A7, c7, rfl, hc7⟩ := own_slice HS.out.own
   have hll : (S ++ ⟨X, A, cap, 0⟩ :: S').length = S.length + 1 + S'.length := by rw [List.length_append, List.length_cons]; omega
   obtain ⟨M, hM⟩ : ∃ M : Nat, M = (S ++ ⟨X, A, cap, 0⟩ :: S').length := ⟨_, rfl⟩
   have h9 := HS.out
   have hown := h9.own
   rcases hown.2 with ⟨e1, e2⟩ | ⟨g, cp, cur, e1, e2⟩
   ·omega
   ·simp only [Value.slice.injEq] at e1
    obtain ⟨rfl, -, rfl⟩ := e1
    obtain ⟨h8, k8⟩ := h9.place (M)
    have cl := cell_of_row (i := 0) h9.box rfl
    have cc : wr.cell? ⟨g, S.length * 6 + 5, none⟩ = some (.int .i64 0) := by
     rw [hown.cellAt _ (by simp; omega), flatSp_at (x := ⟨X, A, cap, 0⟩) (by simp) 5 (by decide)]
     rfl
    have cz := hown.frozenAt (S.length * 6 + 5)
    have had := add6L g S.length
    rw [← hM] at cl h8
    have hM1 : (S.length : Int) < (M : Int) := by omega
    have hM0 : (0 : Int) ≤ (S.length : Int) := by omega
    have H8 := Lib.hid h8
    have K8 := Lib.hid k8
    have HM := Lib.hid hM
    have HLL := Lib.hid hll
    clear h8 k8 hM hll h9 hown e2 hc7
    go_wp2_with fail
    go_end0
    refine ⟨rfl, ⟨⟨X, A, cap, M⟩ :: S', _, H8.out, ?_, ?_⟩, ((K5.out.trans HK.out).trans K8.out)⟩
    ·have h1 := HY.out
     rw [List.take_length] at h1
     rw [List.map_cons, h1, Tm.pre, HX.out]
    ·have h2 := HSL.out
     rw [List.take_length] at h2
     intro i z hz
     cases i with
     | zero =>
      simp only [List.getElem?_cons_zero, Option.some.injEq] at hz
      subst hz
      show M = _
      rw [HX.out]
      unfold Tm.nodes
      rw [Tm.pre, List.length_cons, HM.out, HLL.out, h2]
      omega
     | succ i =>
      rw [List.getElem?_cons_succ] at hz
      rw [HP.out i z hz]
      omega
end Go.Proofs.YtmdcdhdjojimeaaGreatDoor
end
