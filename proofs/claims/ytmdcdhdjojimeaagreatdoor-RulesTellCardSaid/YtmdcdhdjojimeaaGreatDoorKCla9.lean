/- Layer 9: the program's walk: a clause. -/
import Derived.Test.YtmdcdhdjojimeaaGreatDoorKIMay
import Derived.Test.YtmdcdhdjojimeaaGreatDoorKRange
import Derived.Shelf.Abstract
import Derived.Shelf.RegionOpen
import Derived.OwnWalkIn
import Derived.TacticsInMore
import Derived.LoopIn
import Derived.RangeFuncBox
import Derived.RangeFuncNested
import Derived.RangeFuncCalls
import Derived.Laws.EntriesVeiled
import Derived.RangeFuncLeaves
import Derived.RangeFuncRecord
section
set_option linter.unusedVariables false
namespace Go.Proofs.YtmdcdhdjojimeaaGreatDoor
open Go.RowKit

def SeqE {α : Type} (n : Nat) (P : Program) (g : Nat) (lb : Array Value) (encs : α → Array Value) (Kp : World → World → Prop) (E : List α → α → Prop) (S Sp : List α → Prop) (w : World) : Prop :=
 ∀ (l : Nat) (J Jx : List α → World → Prop) (W : World), Below w.heap.size w W → (∀ s A C, J s A → Below A.heap.size A C → J s C) → (∀ s A C, Jx s A → Below A.heap.size A C → Jx s C) →
  (∀ pre x W1, J pre W1 → E pre x → YieldAt Fence.wide (n - 1) P l (encs x) W1 fun e W' =>
   (e = .returned (.bool true) ∧ J (pre ++ [x]) W' ∧ Kp W1 W') ∨ (e = .returned (.bool false) ∧ Jx (pre ++ [x]) W')) →
  J [] W →
  CallsIn Fence.wide n P g (#[.func (.yield l) #[] #[]] ++ lb) W fun e W' => (∃ v, e = .returned v) ∧ ((∃ xs, S xs ∧ J xs W') ∨ (∃ pre, Sp pre ∧ Jx pre W'))
def Own2 (B : Nat) (A C : World) : Prop := A.heap.size ≤ C.heap.size ∧ C.heap[B + 1]? = A.heap[B + 1]? ∧ C.heap[B]? = A.heap[B]?
structure Soft (B : Nat) (A C : World) : Prop where
 below : Below B A C
 same : ∀ (k : Nat) (o : Obj), A.heap[k]? = some o → (o.isCells = true ∨ (k ≠ B ∧ k ≠ B + 1)) → C.heap[k]? = some o
theorem Soft.of_below {B : Nat} {A C : World} (h : Below A.heap.size A C) (hB : B ≤ A.heap.size) : Soft B A C := ⟨h.mono hB, fun k o hk _ => (h.block k (heap_lt hk)).trans hk⟩
theorem Soft.put {B : Nat} {A : World} {o o' : Obj} (h : A.heap[B + 1]? = some o) (ho : o.isCells = false) : Soft B A (A.putObj (B + 1) o') := by
 have m : Mod (fun k => k = B + 1) A (A.putObj (B + 1) o') := Mod.putObj A _ o' rfl
 refine ⟨m.below (by have := heap_lt h; omega) (fun k e => by omega), fun k x hk hx => (m.block k (heap_lt hk) ?_).trans hk⟩
 rintro rfl
 rw [h] at hk; cases hk
 rcases hx with hx | hx
 ·rw [ho] at hx; cases hx
 ·exact hx.2 rfl
theorem Soft.put0 {B : Nat} {A : World} {o o' : Obj} (h : A.heap[B]? = some o) (ho : o.isCells = false) : Soft B A (A.putObj B o') := by
 have m : Mod (fun k => k = B) A (A.putObj B o') := Mod.putObj A _ o' rfl
 refine ⟨m.below (by have := heap_lt h; omega) (fun k e => by omega), fun k x hk hx => (m.block k (heap_lt hk) ?_).trans hk⟩
 rintro rfl
 rw [h] at hk; cases hk
 rcases hx with hx | hx
 ·rw [ho] at hx; cases hx
 ·exact hx.1 rfl
def roundE {α : Type} (B : Nat) (Kp : World → World → Prop) (I : List α → World → Prop) (Ix : Code → List α → World → Prop) (xs : List α) (W : World) : Exit → Act → World → Prop
 | .normal, _, W' => Own2 B W W' ∧ Kp W W' ∧ I xs W'
 | .ret, _, W' => Own2 B W W' ∧ Ix .ret xs W'
 | .exit id, _, W' => Own2 B W W' ∧ Ix (.exit id) xs W'
 | .goto t, _, W' => Own2 B W W' ∧ Ix (.goto t) xs W'
 | .panic _, _, _ => False
 | .outgrown, _, _ => False
theorem range_E {α : Type} {n : Nat} {P : Program} {w : World} {g : Operand} {ps : Array Tmp} {assign body : Code} {Q : Exit → Act → World → Prop} {a : Act}
  {gf : Nat} {lb : Array Value} (hg : a.eval g = .func (.func gf) #[] lb) (eg : ∀ args w, (callFunc gf args).run P w = .ok (.enter gf args) w)
  {encs : α → Array Value} (hps : ∀ x, (encs x).size = ps.size) {Kp : World → World → Prop} {E : List α → α → Prop} {S Sp : List α → Prop} (hseq : SeqE (n - 1) P gf lb encs Kp E S Sp w)
  (hKt : ∀ {A B C : World}, Kp A B → Kp B C → Kp A C) (hKb : ∀ (W : World) (l : Nat) (o o' : Obj), w.heap.size ≤ l → W.heap[l]? = some o → o.isCells = false → Kp W (W.putObj l o')) (hKo : ∀ A B, Below A.heap.size A B → Kp A B)
  (I : List α → World → Prop) (Ix : Code → List α → World → Prop)
  (hI : ∀ s A C, I s A → Soft w.heap.size A C → w.heap.size ≤ A.heap.size → I s C)
  (hIx : ∀ c s A C, Ix c s A → Soft w.heap.size A C → w.heap.size ≤ A.heap.size → Ix c s C) (h0 : I [] w)
  (Ax : α → Act → World → Prop) (hAx : ∀ x a' X Y, Ax x a' X → Soft w.heap.size X Y → Ax x a' Y)
  (hassign : ∀ (l : Nat) (pre : List α) (x : α) (W : World) (K : Act → World → Prop), I pre W → E pre x → w.heap.size + 2 ≤ W.heap.size → (∀ a' W', Below W.heap.size W W' → Ax x a' W' → K a' W') →
   assign.wpIn (Fence.wide.inRound l) (n - 1 - 1) P (Exit.then K (fun _ _ _ => False)) { tmps := (ps.zip (encs x)).foldl (fun t (p, v) => t.setIfInBounds p v) a.tmps, defers := [] } W)
  (hbody : ∀ (l : Nat) (pre : List α) (x : α) (a' : Act) (W : World), I pre W → E pre x → Ax x a' W → w.heap.size + 2 ≤ W.heap.size → (∃ r, W.heap[w.heap.size + 1]? = some (.loop r)) → (∃ d, W.heap[w.heap.size]? = some (.deferred d)) →
   body.wpIn (Fence.wide.inRound l) (n - 1 - 1) P (roundE w.heap.size Kp I Ix (pre ++ [x]) W) a' W)
  (hdone : ∀ (xs : List α) (W : World), S xs → I xs W → W.heap[w.heap.size]? = some (.deferred (some [])) → Q .normal { a with defers := { target := .collected w.heap.size, args := #[] } :: a.defers } W)
  (hstop : ∀ (c : Code) (pre : List α) (W : World), Sp pre → Ix c pre W → W.heap[w.heap.size]? = some (.deferred (some [])) → c.wpIn Fence.wide n P Q { a with defers := { target := .collected w.heap.size, args := #[] } :: a.defers } W)
  (h1 : 1 ≤ n) : (Code.rangeFunc g ps assign body).wpIn Fence.wide n P Q a w := by
 obtain ⟨B, hB⟩ : ∃ B, B = w.heap.size := ⟨_, rfl⟩
 refine wpIn_rangeFunc fun fn hfn => ?_
 let rec_ (st : LoopState) (pe : Option Code) : Loop := { state := st, pending := pe, fn, tmps := a.tmps, params := ps, assign, body, defers := w.heap.size }
 obtain ⟨W1, hW1⟩ : ∃ W1, W1 = (w.alloc (.deferred (some []))).alloc (.loop (rec_ .ready none)) := ⟨_, rfl⟩
 have hsz : W1.heap.size = B + 2 := by rw [hW1, hB]; simp
 have hrec : W1.heap[B + 1]? = some (.loop (rec_ .ready none)) := by
  have := World.alloc_heap_new (w.alloc (.deferred (some []))) (.loop (rec_ .ready none))
  rw [World.size_alloc] at this; rw [hW1, hB]; exact this
 have hdef : W1.heap[B]? = some (.deferred (some [])) := by
  rw [hW1, hB]; exact (Below.heap_alloc _ _ _ (by simp)).trans (World.alloc_heap_new w _)
 have hwW : Below w.heap.size w W1 := by rw [hW1]; exact ((Below.refl _ w).alloc (Nat.le_refl _) _).alloc (by simp) _
 have keep : ∀ {X Y : World} {F : Nat → Prop} {k : Nat} {o : Obj}, Mod F X Y → ¬ F k → X.heap[k]? = some o → Y.heap[k]? = some o := fun h hF hk => (h.block _ (heap_lt hk) hF).trans hk
 have putB : ∀ (X : World) (o : Obj), Mod (fun k => k = B + 1) X (X.putObj (B + 1) o) := fun X o => Mod.putObj X _ o rfl
 have getB : ∀ (X : World) (o : Obj), B + 1 < X.heap.size → (X.putObj (B + 1) o).heap[B + 1]? = some o := fun X o h => World.putObj_heap_same h
 have toF : ∀ {X : World} {l : Loop} (o : Obj), X.heap[B + 1]? = some (.loop l) → Soft w.heap.size X (X.putObj (B + 1) o) := fun o h => by rw [hB] at h ⊢; exact Soft.put h rfl
 refine ⟨B + 1, [{ target := .collected w.heap.size, args := #[] }], W1, { target := .fn (.func gf) lb, args := #[.func (.yield (B + 1)) #[] #[]] }, W1, gf, #[.func (.yield (B + 1)) #[] #[]] ++ lb, W1, ?_, ?_, fun _ _ => trivial, ?_, fun _ => h1, ?_⟩
 ·rw [hB, hW1]; exact run_enterLoop_outer _ _ _ _ _
 ·simp only [resolve, hg]; simp [go_sem]
 ·simp [invoke, go_sem, eg]
 have hmod1 : Mod (fun _ => False) w W1 := by rw [hW1]; exact (Mod.alloc _ _ _).trans (Mod.alloc _ _ _) (fun _ _ h => h)
 have hI1 : I [] W1 := hI _ _ _ h0 (Soft.of_below hwW (Nat.le_refl _)) (Nat.le_refl _)
 refine (hseq (B + 1) (fun pre W => I pre W ∧ W.heap[B + 1]? = some (.loop (rec_ .ready none)) ∧ W.heap[B]? = some (.deferred (some [])))
  (fun pre W => ∃ c, Ix c pre W ∧ W.heap[B + 1]? = some (.loop (rec_ .done (some c))) ∧ W.heap[B]? = some (.deferred (some []))) W1 hwW ?_ ?_ ?_ ⟨hI1, hrec, hdef⟩).mono ?_
 ·rintro s A C ⟨i, r, d⟩ hb
  have hA := heap_lt r
  exact ⟨hI _ _ _ i (Soft.of_below hb (by omega)) (by omega), (hb.block _ hA).trans r, (hb.block _ (by omega)).trans d⟩
 ·rintro s A C ⟨c, i, r, d⟩ hb
  have hA := heap_lt r
  exact ⟨c, hIx _ _ _ _ i (Soft.of_below hb (by omega)) (by omega), (hb.block _ hA).trans r, (hb.block _ (by omega)).trans d⟩
 ·rintro pre x W ⟨i, r, d⟩ hex
  have hlt := heap_lt r
  refine ⟨fn, _, assign, body, run_yield (P := P) (args := encs x) r (hps x), roundIn_of_wpIn hfn (hassign _ pre x W _ i hex (by omega) ?_)⟩
  intro a' Wa hba hax
  have ma : Mod (fun _ => False) W Wa := Mod.of_below hba
  have ia : I pre Wa := hI _ _ _ i (Soft.of_below hba (by omega)) (by omega)
  have ra : Wa.heap[B + 1]? = some (.loop (rec_ .ready none)) := (hba.block _ hlt).trans r
  have da : Wa.heap[B]? = some (.deferred (some [])) := (hba.block _ (by omega)).trans d
  have hla := heap_lt ra
  refine ⟨_, run_beginRound ra rfl, ?_⟩
  have m1 := putB Wa (.loop { rec_ .ready none with state := .busy })
  have rb := getB Wa (.loop { rec_ .ready none with state := .busy }) hla
  have db : (Wa.putObj (B + 1) (.loop { rec_ .ready none with state := .busy })).heap[B]? = some (.deferred (some [])) := keep m1 (by omega) da
  have ib := hI _ _ _ ia (toF (.loop { rec_ .ready none with state := .busy }) ra) (by omega)
  have kb : Kp W (Wa.putObj (B + 1) (.loop { rec_ .ready none with state := .busy })) := hKt (hKo _ _ hba) (hKb _ _ _ _ (by omega) ra rfl)
  have sb : (Wa.putObj (B + 1) (.loop { rec_ .ready none with state := .busy })).heap.size = Wa.heap.size := World.putObj_size
  refine wpIn_mono (hbody _ pre x a' _ ib hex (hAx _ _ _ _ hax (toF _ ra)) (by rw [sb]; omega) ⟨_, by rw [← hB]; exact rb⟩ ⟨_, by rw [← hB]; exact db⟩) ?_
  have fin : ∀ (jump : Option Code) (W3 : World), Own2 w.heap.size (Wa.putObj (B + 1) (.loop { rec_ .ready none with state := .busy })) W3 →
    (Instr.endRound (B + 1) jump).run P W3 = .ok (.bool jump.isNone) (W3.putObj (B + 1) (.loop (rec_ (if jump.isNone then .ready else .done) jump))) ∧
    (W3.putObj (B + 1) (.loop (rec_ (if jump.isNone then .ready else .done) jump))).heap[B + 1]? = some (.loop (rec_ (if jump.isNone then .ready else .done) jump)) ∧
    (W3.putObj (B + 1) (.loop (rec_ (if jump.isNone then .ready else .done) jump))).heap[B]? = some (.deferred (some [])) ∧
    Kp W3 (W3.putObj (B + 1) (.loop (rec_ (if jump.isNone then .ready else .done) jump))) ∧ w.heap.size ≤ W3.heap.size ∧ Soft w.heap.size W3 (W3.putObj (B + 1) (.loop (rec_ (if jump.isNone then .ready else .done) jump))) := fun jump W3 hm3 => by
   obtain ⟨hs3, h31, h30⟩ := hm3
   rw [← hB] at h31 h30
   have r3 : W3.heap[B + 1]? = _ := h31.trans rb
   have d3 : W3.heap[B]? = _ := h30.trans db
   have hl3 := heap_lt r3
   have m4 := putB W3 (.loop (rec_ (if jump.isNone then .ready else .done) jump))
   exact ⟨run_endRound (P := P) jump r3, getB _ _ hl3, keep m4 (by omega) d3, hKb _ _ _ _ (by omega) r3 rfl, by omega, toF _ r3⟩
  rintro e a3 W3 hp
  cases e with
  | normal =>
   obtain ⟨hm3, k3, i3⟩ := hp
   obtain ⟨hr, r4, d4, k4, s4, f4⟩ := fin none W3 hm3
   exact ⟨_, _, hr, .inl ⟨rfl, ⟨hI _ _ _ i3 f4 s4, r4, d4⟩, hKt kb (hKt k3 k4)⟩⟩
  | ret =>
   obtain ⟨hm3, i3⟩ := hp
   obtain ⟨hr, r4, d4, k4, s4, f4⟩ := fin (some .ret) W3 hm3
   exact ⟨_, _, hr, .inr ⟨rfl, .ret, hIx _ _ _ _ i3 f4 s4, r4, d4⟩⟩
  | exit id =>
   obtain ⟨hm3, i3⟩ := hp
   obtain ⟨hr, r4, d4, k4, s4, f4⟩ := fin (some (.exit id)) W3 hm3
   exact ⟨_, _, hr, .inr ⟨rfl, .exit id, hIx _ _ _ _ i3 f4 s4, r4, d4⟩⟩
  | goto t =>
   obtain ⟨hm3, i3⟩ := hp
   obtain ⟨hr, r4, d4, k4, s4, f4⟩ := fin (some (.goto t)) W3 hm3
   exact ⟨_, _, hr, .inr ⟨rfl, .goto t, hIx _ _ _ _ i3 f4 s4, r4, d4⟩⟩
  | panic ch => exact hp.elim
  | outgrown => exact hp.elim
 ·rintro e W2 ⟨⟨v, rfl⟩, (⟨xs, hS, i, r, d⟩ | ⟨pre, hSp, c, i, r, d⟩)⟩
  ·have h := run_endLoop (P := P) r (by simp [rec_])
   have hA := heap_lt d
   exact ⟨none, _, h, hdone xs _ hS (hI _ _ _ i (toF _ r) (by omega)) (by rw [← hB]; exact keep (putB _ _) (by omega) d)⟩
  ·have h := run_endLoop (P := P) r (by simp [rec_])
   have hA := heap_lt d
   exact ⟨some c, _, h, hstop c pre _ hSp (hIx _ _ _ _ i (toF _ r) (by omega)) (by rw [← hB]; exact keep (putB _ _) (by omega) d)⟩
end Go.Proofs.YtmdcdhdjojimeaaGreatDoor
end
section
set_option linter.unusedVariables false
set_option linter.unusedSimpArgs false
namespace Go.Proofs.YtmdcdhdjojimeaaGreatDoor
open Go.RowKit Go.Shelf
attribute [local go_sem] Oper.semAt_some

def placesL (p : Nat) : List Tm → List Nat
 | [] => []
 | x :: l => p :: placesL (p + x.nodes) l
theorem placesL_len : ∀ (l : List Tm) (p : Nat), (placesL p l).length = l.length
 | [], _ => rfl
 | x :: l, p => by rw [placesL, List.length_cons, placesL_len l, List.length_cons]
theorem placesL_get : ∀ (l : List Tm) (p j : Nat), j < l.length → (placesL p l)[j]? = some (p + (Tm.pres (l.take j)).length)
 | x :: l, p, 0, _ => by simp [placesL, Tm.pres]
 | x :: l, p, j + 1, h => by
  rw [placesL, List.getElem?_cons_succ, placesL_get l _ j (by simpa using h), List.take_succ_cons, nodes_pres_cons]
  congr 1; omega
theorem PlacesAt.at_ : ∀ {l : List Tm} {P : List Tm} {p : Nat}, PlacesAt P p l → ∀ {j : Nat} {x : Tm}, l[j]? = some x → PlaceAt P (p + (Tm.pres (l.take j)).length) x
 | y :: l, P, p, h, 0, x, hx => by
  simp at hx; subst hx
  simpa [Tm.pres] using h.head.1
 | y :: l, P, p, h, j + 1, x, hx => by
  have := PlacesAt.at_ h.head.2 (j := j) (by simpa using hx)
  rw [List.take_succ_cons, nodes_pres_cons, ← Nat.add_assoc]
  exact this
theorem PlacesAt.le {P : List Tm} {p : Nat} {l : List Tm} (h : PlacesAt P p l) (hp : p ≤ P.length) : p + (Tm.pres l).length ≤ P.length := by
 obtain ⟨r, h⟩ := h
 exact len_drop h (.inr hp)
theorem pres_take_le (l : List Tm) (j : Nat) : (Tm.pres (l.take j)).length ≤ (Tm.pres l).length := by
 have : Tm.pres l = Tm.pres (l.take j) ++ Tm.pres (l.drop j) := by rw [← Tm.pres_append, List.take_append_drop]
 rw [this, List.length_append]; omega

structure KeepC (V V' : World) : Prop where
 size : V.heap.size ≤ V'.heap.size
 cells : ∀ (k : Nat) (c : Array Value) (t : TypeId) (z : Nat × Nat), V.heap[k]? = some (.cells c t z) → t ≠ 70 → t ≠ 9 → t ≠ 47 → V'.heap[k]? = some (.cells c t z)
theorem KeepC.refl (V : World) : KeepC V V := ⟨Nat.le_refl _, fun _ _ _ _ h _ _ _ => h⟩
theorem KeepC.trans {A B C : World} (h : KeepC A B) (g : KeepC B C) : KeepC A C := ⟨Nat.le_trans h.size g.size, fun k c t z hk h1 h2 h3 => g.cells k c t z (h.cells k c t z hk h1 h2 h3) h1 h2 h3⟩
theorem KeepT.toC {mb me : Nat} {A B : World} (h : KeepT mb me A B) : KeepC A B := ⟨h.size, h.cells⟩
theorem KeepC.put {W : World} {l : Nat} {o o' : Obj} (h : W.heap[l]? = some o) (ho : o.isCells = false) : KeepC W (W.putObj l o') :=
 ⟨by rw [World.putObj_size]; exact Nat.le_refl _, fun k c t z hk _ _ _ => (World.putObj_heap_other (fun e => by subst e; rw [h] at hk; cases hk; cases ho)).trans hk⟩
structure Bet (LB lc bf bt bl : Nat) (P : List Tm) (p E : Nat) (W : World) : Prop where
 from_ : W.heap[bf]? = some (.cells #[.int .i64 (p : Int)] 3 (0, 0))
 to_ : W.heap[bt]? = some (.cells #[.int .i64 (E : Int)] 3 (0, 0))
 lay : W.heap[bl]? = some (.cells #[.slice (some ⟨LB, 0, none⟩) P.length lc] 66 (0, 0))
 row : LayAt W LB lc P
theorem Bet.keep {LB lc bf bt bl : Nat} {P : List Tm} {p E : Nat} {W W' : World} (h : Bet LB lc bf bt bl P p E W) (k : KeepC W W') : Bet LB lc bf bt bl P p E W' := by
 obtain ⟨cs, h1, h2⟩ := h.row.row
 have h3 := k.cells _ _ _ _ h1 (by decide) (by decide) (by decide)
 exact ⟨k.cells _ _ _ _ h.from_ (by decide) (by decide) (by decide), k.cells _ _ _ _ h.to_ (by decide) (by decide) (by decide), k.cells _ _ _ _ h.lay (by decide) (by decide) (by decide), h.row.len, h.row.cap, cs, h3, h2⟩
def encP (q : Nat) : Array Value := #[.int .i64 (q : Int)]

set_option maxHeartbeats 4000000 in
set_option maxRecDepth 100000 in
theorem between1_stops (LB lc bf bt bl : Nat) (P : List Tm) (p E : Nat) (L : List Tm) (n : Nat) (hn : 1 ≤ n) (w : World) (hB : Bet LB lc bf bt bl P p E w) (hP : PlacesAt P p L) (hp : p ≤ P.length) (hE : E = p + (Tm.pres L).length) :
  SeqE n Tryz.prog 91 #[.pointer (some ⟨bf, 0, none⟩), .pointer (some ⟨bt, 0, none⟩), .pointer (some ⟨bl, 0, none⟩)] encP KeepC (fun pre q => ∃ j, pre = (placesL p L).take j ∧ (placesL p L)[j]? = some q) (fun ys => ys = placesL p L) (fun pre => ∃ k, pre = (placesL p L).take k) w := by
 intro l J Jx W hW _ _ hY h0
 have hBW : Bet LB lc bf bt bl P p E W := hB.keep ⟨hW.size, fun k c t z hk _ _ _ => (hW.block k (heap_lt hk)).trans hk⟩
 have hlen := hB.row.len
 have hle := hP.le hp
 have c1 : W.cell? ⟨bf, 0, none⟩ = some (.int .i64 (p : Int)) := cell_of_row hBW.from_ rfl
 have HB := Lib.hid hBW
 have HE := Lib.hid hE
 have HP := Lib.hid hP
 have HY := Lib.hid hY
 have H0 := Lib.hid h0
 have HN := Lib.hid hn
 have HEP : Hid (E ≤ P.length) := by show _ ≤ _; omega
 have HPL := Lib.hid hlen
 clear hB hW hY h0 hBW hlen hle hE hP hp hn
 refine callsIn_of_wp Tryz.func91 rfl trivial ?_ rfl
 simp only [Tryz.ntmps91, List.size_toArray, List.length_cons, List.length_nil, Nat.reduceAdd, Nat.reduceSub, Array.replicate_succ, Array.replicate_zero, List.push_toArray, List.append_toArray, List.nil_append, List.cons_append]
 gi_wp2_with fail
 clear c1
 gi_loopw [5] (fun q wr => ∃ j : Nat, j ≤ L.length ∧ (∃ r : Nat, q = .int .i64 (r : Int) ∧ r = p + (Tm.pres (L.take j)).length) ∧ J ((placesL p L).take j) wr ∧ Bet LB lc bf bt bl P p E wr) (fun q _ => E - (intOf q).toNat)
 case atStart => exact ⟨0, Nat.zero_le _, ⟨p, rfl, by simp [Tm.pres]⟩, by rw [List.take_zero]; exact H0.out, HB.out⟩
 case round =>
  obtain ⟨j, hj, ⟨r, rfl, hr⟩, hJr, hBr⟩ := hrel
  have c2 : wr.cell? ⟨bt, 0, none⟩ = some (.int .i64 (E : Int)) := cell_of_row hBr.to_ rfl
  have HJ := Lib.hid hJr
  have HBr := Lib.hid hBr
  have HR := Lib.hid hr
  clear hJr hBr hr
  by_cases hlt : j < L.length
  ·obtain ⟨x, hx⟩ : ∃ x, L[j]? = some x := ⟨L[j], List.getElem?_eq_getElem hlt⟩
   have hpl := HP.out.at_ hx
   have hpn := Tm.pre_ne x
   have hsx : (Tm.pres (L.take (j + 1))).length = (Tm.pres (L.take j)).length + x.nodes := by rw [Tm.pres_take_succ hx, List.length_append]; rfl
   have htl := pres_take_le L (j + 1)
   have hr1 : (r : Int) < (E : Int) := by have := HR.out; have := HE.out; unfold Tm.nodes at hsx; omega
   have hrP : P[r]? = some x := by rw [HR.out]; exact hpl.get
   have hgl := placesL_get L p j hlt
   have htk : (placesL p L).take (j + 1) = (placesL p L).take j ++ [r] := by rw [List.take_add_one, hgl, ← HR.out]; rfl
   obtain ⟨fn, tmps, assign, body, hy, hRound⟩ := HY.out ((placesL p L).take j) r wr HJ.out ⟨j, rfl, by rw [hgl, HR.out]⟩
   unfold encP at hy
   have hr9 : r + x.nodes = p + (Tm.pres (L.take (j + 1))).length := by rw [HR.out, hsx]; omega
   have HX := Lib.hid hrP
   have HTK := Lib.hid htk
   have HR9 := Lib.hid hr9
   have HLT := Lib.hid hlt
   have HPN : Hid (1 ≤ x.nodes) := hpn
   clear hx hpl hpn hsx htl hrP hgl htk hr9 hlt
   gi_wp2_with fail
   refine ⟨fun h => (by cases h), ?_⟩
   refine hRound.mono ?_
   clear hRound hy c2
   rintro e W3 (⟨rfl, hJ3, hK3⟩ | ⟨rfl, hx3⟩)
   ·have hB3 := HBr.out.keep hK3
    have c3 : W3.cell? ⟨bl, 0, none⟩ = some (.slice (some ⟨LB, 0, none⟩) P.length lc) := cell_of_row hB3.lay rfl
    obtain ⟨A, cap, -, -, -, -, -, s5⟩ := hB3.row.spot HX.out
    have had := add6 LB r
    have hr2 : (r : Int) < (P.length : Int) := by have := HEP.out; omega
    have hr0 : (0 : Int) ≤ (r : Int) := by omega
    have HJ3 := Lib.hid hJ3
    have HB3 := Lib.hid hB3
    obtain ⟨r2, hr2e⟩ : ∃ r2 : Nat, r2 = r + x.nodes := ⟨_, rfl⟩
    rw [← hr2e] at s5
    have HR2 := Lib.hid hr2e
    clear hJ3 hB3 hK3 hr2e
    gi_wp2_with fail
    go_roundw
    case rel => exact ⟨j + 1, HLT.out, ⟨r2, rfl, by rw [HR2.out, HR9.out]⟩, by rw [HTK.out]; exact HJ3.out, HB3.out⟩
    case measure => simp [intOf]; have := HR2.out; have := HPN.out; omega
   ·gi_wp2_with fail
    go_end0
    exact ⟨⟨_, rfl⟩, .inr ⟨_, ⟨j + 1, HTK.out.symm⟩, hx3⟩⟩
  ·obtain rfl : j = L.length := by omega
   have hr1 : ¬ (r : Int) < (E : Int) := by have h1 := HR.out; rw [List.take_length] at h1; have := HE.out; omega
   gi_wp2_with fail
   refine ⟨fun f h => (by cases h), ?_⟩
   gi_wp2_with fail
   go_end0
   refine ⟨⟨_, rfl⟩, .inl ⟨_, rfl, ?_⟩⟩
   have h1 := HJ.out
   rw [List.take_of_length_le (by rw [placesL_len]; exact Nat.le_refl _)] at h1
   exact h1
theorem between_in (a b : Int) (LB n lc : Nat) (m : Nat) (w : World) :
  CallsIn Fence.wide m Tryz.prog 79 #[.slice (some ⟨LB, 0, none⟩) n lc, .int .i64 a, .int .i64 b] w fun e w' => e = .returned (.func (.func 91) #[] #[.pointer (some ⟨w.heap.size + 1, 0, none⟩), .pointer (some ⟨w.heap.size + 2, 0, none⟩), .pointer (some ⟨w.heap.size, 0, none⟩)]) ∧
   w' = ((w.alloc (.cells #[.slice (some ⟨LB, 0, none⟩) n lc] 66)).alloc (.cells #[.int .i64 a] 3)).alloc (.cells #[.int .i64 b] 3) := by
 refine callsIn_of_wp Tryz.func79 rfl trivial ?_ rfl
 simp only [Tryz.ntmps79, List.size_toArray, List.length_cons, List.length_nil, Nat.reduceAdd, Nat.reduceSub, Array.replicate_succ, Array.replicate_zero, List.push_toArray, List.append_toArray, List.nil_append, List.cons_append]
 gi_wp2
 go_ret
 exact ⟨rfl, rfl⟩
end Go.Proofs.YtmdcdhdjojimeaaGreatDoor
end
section
set_option linter.unusedVariables false
set_option linter.unusedSimpArgs false
namespace Go.Proofs.YtmdcdhdjojimeaaGreatDoor
open Go.RowKit Go.Shelf
attribute [local go_sem] Oper.semAt_some

def OverC (X : WCtx) (x : Tm) : Prop := ∀ (st : Wk) (V : World) (p m : Nat), WkAt X st V → PlaceAt X.P p x → st.lee m → m + x.nodes ≤ 50000 →
 Calls Tryz.prog 51 #[.pointer (some ⟨X.B, 0, none⟩), .int .i64 (p : Int)] V (WalkTo X (overW X.most st p x) V)
theorem WkAt.lt {X : WCtx} {st : Wk} {V : World} (h : WkAt X st V) : X.mb < V.heap.size ∧ X.me < V.heap.size := by
 obtain ⟨hX, hn, es, es', c, c', nv, ov, fv, fs, hR⟩ := h
 exact ⟨heap_lt hR.bm, heap_lt hR.am⟩
theorem WkAt.soft {X : WCtx} {st : Wk} {A C : World} {B : Nat} (h : WkAt X st A) (hB : X.mb < B ∧ X.me < B ∧ X.base ≤ B) (hs : Soft B A C) : WkAt X st C := by
 obtain ⟨hX, hn, es, es', c, c', nv, ov, fv, fs, hR⟩ := h
 refine ⟨hX, hn, es, es', c, c', nv, ov, fv, fs, hR.keep (hs.below.mono hB.2.2) (fun k o hk _ ho => hs.same k o hk ?_) hX⟩
 rcases ho with ho | rfl | rfl
 ·exact .inl ho
 ·exact .inr ⟨by omega, by omega⟩
 ·exact .inr ⟨by omega, by omega⟩
theorem KeepT.soft {mb me : Nat} {W A C : World} {B : Nat} (h : KeepT mb me W A) (hB : W.heap.size ≤ B) (hs : Soft B A C) : KeepT mb me W C := by
 refine ⟨Nat.le_trans h.size hs.below.size, fun k c t z hk h1 h2 h3 => hs.same k _ (h.cells k c t z hk h1 h2 h3) (.inl rfl), fun k o hk h1 h2 h3 => hs.same k _ (h.others k o hk h1 h2 h3) (.inr ?_)⟩
 have := heap_lt hk
 exact ⟨by omega, by omega⟩
theorem KeepT.own2 {mb me B : Nat} {A C : World} (h : KeepT mb me A C) (hB : mb < B ∧ me < B) {r : Loop} {d : Option (List Deferred)} (h1 : A.heap[B + 1]? = some (.loop r)) (h0 : A.heap[B]? = some (.deferred d)) : Own2 B A C :=
 ⟨h.size, (h.others _ _ h1 rfl (by omega) (by omega)).trans h1.symm, (h.others _ _ h0 rfl (by omega) (by omega)).trans h0.symm⟩
structure AllI (X : WCtx) (st : Wk) (p : Nat) (l : List Tm) (w : World) (xs : List Nat) (W : World) : Prop where
 is : xs = (placesL p l).take xs.length
 at_ : WkAt X (allW X.most st p (l.take xs.length)) W
 keep : KeepT X.mb X.me w W
theorem four_at (w : World) (o0 o1 o2 o3 : Obj) : ((((w.alloc o0).alloc o1).alloc o2).alloc o3).heap[w.heap.size]? = some o0 ∧ ((((w.alloc o0).alloc o1).alloc o2).alloc o3).heap[w.heap.size + 1]? = some o1 ∧
  ((((w.alloc o0).alloc o1).alloc o2).alloc o3).heap[w.heap.size + 2]? = some o2 ∧ ((((w.alloc o0).alloc o1).alloc o2).alloc o3).heap[w.heap.size + 3]? = some o3 ∧ Below w.heap.size w ((((w.alloc o0).alloc o1).alloc o2).alloc o3) ∧ ((((w.alloc o0).alloc o1).alloc o2).alloc o3).heap.size = w.heap.size + 4 := by
 have z1 : (w.alloc o0).heap.size = w.heap.size + 1 := World.size_alloc _ _
 have z2 : ((w.alloc o0).alloc o1).heap.size = w.heap.size + 2 := by rw [World.size_alloc, z1]
 have z3 : (((w.alloc o0).alloc o1).alloc o2).heap.size = w.heap.size + 3 := by rw [World.size_alloc, z2]
 have a0 := block_alloc w o0
 have a1 := block_alloc (w.alloc o0) o1
 have a2 := block_alloc ((w.alloc o0).alloc o1) o2
 have a3 := block_alloc (((w.alloc o0).alloc o1).alloc o2) o3
 rw [z1] at a1
 rw [z2] at a2
 rw [z3] at a3
 have b1 : ∀ k, k < w.heap.size + 1 → ((w.alloc o0).alloc o1).heap[k]? = (w.alloc o0).heap[k]? := fun k hk => Below.heap_alloc _ _ _ (by rw [z1]; exact hk)
 have b2 : ∀ k, k < w.heap.size + 2 → (((w.alloc o0).alloc o1).alloc o2).heap[k]? = ((w.alloc o0).alloc o1).heap[k]? := fun k hk => Below.heap_alloc _ _ _ (by rw [z2]; exact hk)
 have b3 : ∀ k, k < w.heap.size + 3 → ((((w.alloc o0).alloc o1).alloc o2).alloc o3).heap[k]? = (((w.alloc o0).alloc o1).alloc o2).heap[k]? := fun k hk => Below.heap_alloc _ _ _ (by rw [z3]; exact hk)
 refine ⟨by rw [b3 _ (by omega), b2 _ (by omega), b1 _ (by omega)]; exact a0, by rw [b3 _ (by omega), b2 _ (by omega)]; exact a1, by rw [b3 _ (by omega)]; exact a2, a3, ?_, by rw [World.size_alloc, z3]⟩
 exact ((((Below.refl _ w).alloc (Nat.le_refl _) _).alloc (by omega) _).alloc (by omega) _).alloc (by omega) _

set_option maxHeartbeats 8000000 in
set_option maxRecDepth 100000 in
theorem all_any9 (X : WCtx) (st : Wk) (V : World) (p E m : Nat) (l : List Tm) (h : WkAt X st V) (hP : PlacesAt X.P p l) (hp : p ≤ X.P.length) (hE : E = p + (Tm.pres l).length) (hm : st.lee m) (hml : m + (Tm.pres l).length ≤ 50000)
  (hO : ∀ x ∈ l, OverC X x) :
  Calls Tryz.prog 77 #[.pointer (some ⟨X.B, 0, none⟩), .int .i64 (p : Int), .int .i64 (E : Int)] V (WalkTo X (allW X.most st p l) V) := by
 obtain ⟨w4, hw4⟩ : ∃ w4, w4 = (((V.alloc (.cells #[.pointer (some ⟨X.B, 0, none⟩)] 71)).alloc (.cells #[.slice (some ⟨X.LB, 0, none⟩) X.P.length X.lc] 66)).alloc (.cells #[.int .i64 (p : Int)] 3)).alloc (.cells #[.int .i64 (E : Int)] 3) := ⟨_, rfl⟩
 obtain ⟨g0, g1, g2, g3, b4, hz4⟩ := four_at V (.cells #[.pointer (some ⟨X.B, 0, none⟩)] 71) (.cells #[.slice (some ⟨X.LB, 0, none⟩) X.P.length X.lc] 66) (.cells #[.int .i64 (p : Int)] 3) (.cells #[.int .i64 (E : Int)] 3)
 rw [← hw4] at g0 g1 g2 g3 b4 hz4
 have h4 := h.under b4
 have hlt := h.lt
 have hbase : X.base ≤ V.heap.size := by obtain ⟨hX, hn, es, es', c, c', nv, ov, fv, fs, hR⟩ := h; exact Nat.le_trans hX.base hR.below.size
 have hlay : LayAt w4 X.LB X.lc X.P := by
  obtain ⟨hX, hn, es, es', c, c', nv, ov, fv, fs, hR⟩ := h4
  exact hX.lay.keep (hR.below.block _ hX.LB)
 have hb0 : (V.alloc (.cells #[.pointer (some ⟨X.B, 0, none⟩)] 71)).cell? ⟨X.B, 0, none⟩ = some (.slice (some ⟨X.LB, 0, none⟩) X.P.length X.lc) := by
  obtain ⟨hX, hn, es, es', c, c', nv, ov, fv, fs, hR⟩ := h.under ((Below.refl _ V).alloc (Nat.le_refl _) (.cells #[.pointer (some ⟨X.B, 0, none⟩)] 71))
  have hb := hR.box
  unfold WCtx.nv at hb
  exact cell_of_row hb rfl
 have hst := between1_stops X.LB X.lc (V.heap.size + 2) (V.heap.size + 3) (V.heap.size + 1) X.P p E l (3 - 1) (by decide) w4 ⟨g2, g3, g1, hlay⟩ hP hp hE
 have HST := Lib.hid hst
 have HG0 := Lib.hid g0
 have HZ4 := Lib.hid hz4
 have H4 := Lib.hid h4
 have HLT : Hid (X.mb < w4.heap.size ∧ X.me < w4.heap.size ∧ X.base ≤ w4.heap.size) := by show _ ∧ _ ∧ _; omega
 have HO := Lib.hid hO
 have HP := Lib.hid hP
 have HM := Lib.hid hm
 have HML := Lib.hid hml
 have HB4 := Lib.hid b4
 clear hst g0 g1 g2 g3 b4 hz4 h4 hlt hbase hlay hO hP hm hml h hp hE
 refine (callsIn_wide (n := 3)).1 ?_
 refine callsIn_of_wp_marks Tryz.func77 rfl trivial ?_ rfl
 simp only [Tryz.ntmps77, List.size_toArray, List.length_cons, List.length_nil, Nat.reduceAdd, Nat.reduceSub, Array.replicate_succ, Array.replicate_zero, List.push_toArray, List.append_toArray, List.nil_append, List.cons_append]
 gi_wp2_with (refine ⟨trivial, ?_⟩; gi_at_call 79; refine (between_in _ _ _ _ _ _ _).mono ?_; rintro e w' ⟨rfl, rfl⟩)
 rw [← hw4]
 clear hw4 hb0
 have e2 : V.heap.size + 1 + 1 = V.heap.size + 2 := by omega
 have e3 : V.heap.size + 1 + 2 = V.heap.size + 3 := by omega
 rw [e2, e3]
 clear e2 e3
 refine range_E (α := Nat) (gf := 91) (lb := #[.pointer (some ⟨V.heap.size + 2, 0, none⟩), .pointer (some ⟨V.heap.size + 3, 0, none⟩), .pointer (some ⟨V.heap.size + 1, 0, none⟩)]) rfl (enters_of Tryz.func91 (by kernel_rfl) rfl) (fun _ => rfl) HST.out
  KeepC.trans (fun W l o o' _ h ho => KeepC.put h ho) (fun A C h => (KeepT.of_below (mb := 0) (me := 0) h).toC)
  (AllI X st p l w4) (fun _ _ _ => False) (fun s A C h hs _ => ⟨h.is, h.at_.soft HLT.out hs, h.keep.soft (Nat.le_refl _) hs⟩) (fun c s A C h _ _ => h) ⟨by simp, by rw [List.length_nil, List.take_zero]; exact H4.out, .refl _ _ _⟩
  (fun q a' W => a' = { tmps := #[.pointer (some ⟨X.B, 0, none⟩), .int .i64 (p : Int), .int .i64 (E : Int), .pointer (some ⟨V.heap.size, 0, none⟩), undef, undef, .int .i64 (q : Int), .pointer (some ⟨X.B, 0, none⟩), .pointer (some ⟨X.B, 0, none⟩), .pointer (some ⟨X.B, 0, none⟩), .slice (some ⟨X.LB, 0, none⟩) X.P.length X.lc, .int .i64 (p : Int), .int .i64 (E : Int),
   .func (.func 91) #[] #[.pointer (some ⟨V.heap.size + 2, 0, none⟩), .pointer (some ⟨V.heap.size + 3, 0, none⟩), .pointer (some ⟨V.heap.size + 1, 0, none⟩)], .int .i64 (q : Int), undef, undef, undef], defers := [] }) (fun _ _ _ _ h _ => h) ?assign ?body ?done ?stop (by decide)
 case assign =>
  rintro l' pre q W K hi hE hz hK
  have HK := Lib.hid hK
  simp only [encP]
  clear hK hi hE
  gi_wp2_with fail
  exact HK.out _ _ (Below.refl _ _) rfl
 case body =>
  rintro l' pre q a' W hi ⟨j, hpre, hq⟩ rfl hz ⟨r, hr⟩ ⟨d, hd⟩
  have hj : j < l.length := by have := (List.getElem?_eq_some_iff.1 hq).1; rw [placesL_len] at this; exact this
  have hpl : pre.length = j := by rw [hpre, List.length_take, placesL_len]; omega
  obtain ⟨x, hx⟩ : ∃ x, l[j]? = some x := ⟨l[j], List.getElem?_eq_getElem hj⟩
  have hq2 : q = p + (Tm.pres (l.take j)).length := by rw [placesL_get l p j hj] at hq; exact (Option.some.inj hq).symm
  have hat := hi.at_
  rw [hpl] at hat
  have hlee := lee_all X.most (l.take j) st p m HM.out
  have hsx : (Tm.pres (l.take (j + 1))).length = (Tm.pres (l.take j)).length + x.nodes := by rw [Tm.pres_take_succ hx, List.length_append]; rfl
  have htl := pres_take_le l (j + 1)
  have hC := HO.out x (List.mem_of_getElem? hx) _ W q _ hat (by rw [hq2]; exact HP.out.at_ hx) hlee (by have := HML.out; omega)
  have hsn := allW_snoc (most := X.most) hx st p
  rw [← hq2] at hsn
  rw [← hsn] at hC
  have hg := hi.keep.cells _ _ _ _ HG0.out (by decide) (by decide) (by decide)
  have c0 : W.cell? ⟨V.heap.size, 0, none⟩ = some (.pointer (some ⟨X.B, 0, none⟩)) := cell_of_row hg rfl
  have HC := Lib.hid hC
  have HI := Lib.hid hi
  have HR := Lib.hid hr
  have HD := Lib.hid hd
  have HQ := Lib.hid hq
  have HPRE := Lib.hid hpre
  have HPL := Lib.hid hpl
  clear hC hi hr hd hq hpre hpl hat hlee hsx htl hsn hg hx hj hq2
  gi_wp2_with fail
  refine ⟨trivial, ?_⟩
  refine (callsIn_wide.2 HC.out).mono ?_
  rintro e W2 ⟨rfl, hW2, hK2⟩
  have HW2 := Lib.hid hW2
  have HK2 := Lib.hid hK2
  clear hW2 hK2
  gi_wp2_with fail
  have hl1 : (pre ++ [q]).length = j + 1 := by rw [List.length_append, HPL.out]; rfl
  refine ⟨HK2.out.own2 ⟨HLT.out.1, HLT.out.2.1⟩ HR.out HD.out, HK2.out.toC, ?_, by rw [hl1]; exact HW2.out, HI.out.keep.trans HK2.out⟩
  rw [hl1, List.take_add_one, HQ.out, ← HPRE.out]
  rfl
 case done =>
  rintro xs W rfl hi hd
  have hat := hi.at_
  rw [placesL_len, List.take_length] at hat
  have HAT := Lib.hid hat
  have HI := Lib.hid hi
  have HD := Lib.hid hd
  clear hat hi hd
  gi_wp2
  refine ⟨by simp, .inl ⟨_, _, rfl, run_takeDeferred HD.out, ?_⟩⟩
  have hs := Soft.put0 (o' := .deferred none) HD.out rfl
  exact ⟨.tuple #[], by simp [results, Tryz.f77, go_sem], rfl, HAT.out.soft HLT.out hs, (KeepT.of_below HB4.out).trans (HI.out.keep.soft (Nat.le_refl _) hs)⟩
 case stop =>
  rintro c pre W _ h
  exact h.elim
end Go.Proofs.YtmdcdhdjojimeaaGreatDoor
end
section
set_option linter.unusedVariables false
set_option linter.unusedSimpArgs false
namespace Go.Proofs.YtmdcdhdjojimeaaGreatDoor
open Go.RowKit

def patsW (most : Int) (st : Wk) (p : Nat) : List Tm → Wk
 | [] => st
 | x :: l => patsW most (patW most st p x.pre) (p + x.nodes) l
theorem patsW_append (most : Int) : ∀ (A B : List Tm) (st : Wk) (p : Nat), patsW most st p (A ++ B) = patsW most (patsW most st p A) (p + (Tm.pres A).length) B
 | [], B, st, p => by simp [patsW, Tm.pres]
 | y :: A, B, st, p => by
  rw [List.cons_append, patsW, patsW_append most A B, patsW, nodes_pres_cons]
  congr 1; omega
theorem patsW_snoc {most : Int} {L : List Tm} {i : Nat} {z : Tm} (h : L[i]? = some z) (st : Wk) (p : Nat) :
  patsW most st p (L.take (i + 1)) = patW most (patsW most st p (L.take i)) (p + (Tm.pres (L.take i)).length) z.pre := by
 rw [List.take_add_one, h, patsW_append]
 simp only [Option.toList_some, patsW]
theorem clauseW_pats (most : Int) : ∀ (m : Nat) (l : List Tm) (st : Wk) (p : Nat), m ≤ l.length → clauseW most st p m l = allW most (patsW most st p (l.take m)) (p + (Tm.pres (l.take m)).length) (l.drop m)
 | 0, l, st, p, _ => by rw [clauseW_0]; simp [patsW, Tm.pres]
 | m + 1, [], st, p, h => by simp at h
 | m + 1, x :: l, st, p, h => by
  rw [clauseW, clauseW_pats most m l _ _ (by simpa using h), List.take_succ_cons, patsW, nodes_pres_cons, List.drop_succ_cons, Nat.add_assoc]
theorem lee_pats {most : Int} : ∀ (l : List Tm) {st : Wk} {m : Nat} (p : Nat), st.lee m → (patsW most st p l).lee (m + (Tm.pres l).length)
 | [], st, m, p, h => by rw [patsW]; exact lee_mono h (by omega)
 | x :: l, st, m, p, h => by
  rw [patsW, nodes_pres_cons]
  exact lee_mono (lee_pats l _ (lee_pat x.pre p h)) (by unfold Tm.nodes; omega)
theorem PlacesAt.drop : ∀ {l : List Tm} {P : List Tm} {p : Nat} (m : Nat), PlacesAt P p l → PlacesAt P (p + (Tm.pres (l.take m)).length) (l.drop m)
 | l, P, p, 0, h => by simpa [Tm.pres] using h
 | [], P, p, m + 1, h => by simpa [Tm.pres] using h
 | x :: l, P, p, m + 1, h => by
  rw [List.take_succ_cons, nodes_pres_cons, ← Nat.add_assoc, List.drop_succ_cons]
  exact PlacesAt.drop m h.head.2
theorem pres_split_len (l : List Tm) (m : Nat) : (Tm.pres l).length = (Tm.pres (l.take m)).length + (Tm.pres (l.drop m)).length := by
 rw [← List.length_append, ← Tm.pres_append, List.take_append_drop]

set_option maxHeartbeats 8000000 in
set_option maxRecDepth 100000 in
theorem clause_any9 (X : WCtx) (st : Wk) (V : World) (p m mN : Nat) (s t : ByteArray) (l : List Tm) (h : WkAt X st V) (hP : PlaceAt X.P p (.mk 3 (mN : Int) s t l)) (hN : mN ≤ l.length) (hN8 : mN ≤ 8) (hm : st.lee m) (hml : m + (Tm.pres l).length ≤ 50000)
  (hO : ∀ x ∈ l, OverC X x) :
  Calls Tryz.prog 75 #[.pointer (some ⟨X.B, 0, none⟩), .int .i64 (p : Int)] V (WalkTo X (clauseW X.most st (p + 1) mN l) V) := by
 have hle := hP.le
 have hy := hP.get
 have hpar := hP.parts
 have hlen := h.1.lay.len
 rw [nodes_mk9] at hle
 have hp1 : (p : Int) < (X.P.length : Int) := by omega
 have hp0 : (0 : Int) ≤ (p : Int) := by omega
 have hp2 : (p : Int) < 4096 := by omega
 have had := add6 X.LB p
 obtain ⟨nv, ov, fv, hL⟩ := h.open_ hy
 obtain ⟨b0, -, -, -, -, -, -, -, -, -, s0, s1, s2, s3, s4, s5⟩ := hL
 obtain ⟨A4, cap4, s4⟩ := s4
 obtain ⟨E, hE⟩ : ∃ E : Nat, E = p + 1 + (Tm.pres l).length := ⟨_, rfl⟩
 rw [show p + (Tm.mk 3 (mN : Int) s t l).nodes = E by rw [nodes_mk9]; omega] at s5
 simp only [Tm.k, Tm.n, Tm.s, Tm.t, Tm.l] at s0 s1 s2 s3 s4
 have hbx := block_alloc V (.cells #[.int .i8 3, .int .i64 (mN : Int), .string s, .string t, .slice A4 l.length cap4, .int .i64 (E : Int)] 102)
 have bV : Below V.heap.size V (V.alloc (.cells #[.int .i8 3, .int .i64 (mN : Int), .string s, .string t, .slice A4 l.length cap4, .int .i64 (E : Int)] 102)) := (Below.refl _ _).alloc (Nat.le_refl _) _
 have h1 := h.under bV
 have n1 : (V.alloc (.cells #[.int .i8 3, .int .i64 (mN : Int), .string s, .string t, .slice A4 l.length cap4, .int .i64 (E : Int)] 102)).cell? ⟨V.heap.size, 1, none⟩ = some (.int .i64 (mN : Int)) := cell_of_row hbx rfl
 have HBX := Lib.hid hbx
 have H1 := Lib.hid h1
 have HBV := Lib.hid bV
 have HE := Lib.hid hE
 have HPAR := Lib.hid hpar
 have HP := Lib.hid hP
 have HLE : Hid (p + 1 + (Tm.pres l).length ≤ X.P.length) := by show _ ≤ _; omega
 have HPN := Lib.hid hlen
 have HM := Lib.hid hm
 have HML := Lib.hid hml
 have HO := Lib.hid hO
 have HNl := Lib.hid hN
 clear hle hy hpar hlen h1 hbx bV hE hP hm hml hO hN h
 go_enter Tryz.func75, Tryz.ntmps75
 go_wp2_with fail
 generalize V.alloc (.cells #[.int .i8 3, .int .i64 (mN : Int), .string s, .string t, .slice A4 l.length cap4, .int .i64 (E : Int)] 102) = V1 at HBX H1 HBV n1 ⊢
 clear b0 s0 s1 s2 s3 s4 s5 n1
 go_loopw [5, 18] (fun q iv wr => ∃ i : Nat, i ≤ mN ∧ iv = .int .i64 (i : Int) ∧ (∃ r : Nat, q = .int .i64 (r : Int) ∧ r = p + 1 + (Tm.pres (l.take i)).length) ∧ WkAt X (patsW X.most st (p + 1) (l.take i)) wr ∧ KeepT X.mb X.me V1 wr) (fun _ iv _ => mN - (intOf iv).toNat)
 case atStart => exact ⟨0, Nat.zero_le _, rfl, ⟨p + 1, by have := HPN.out; go_num, by simp [Tm.pres]⟩, by rw [List.take_zero]; exact H1.out, .refl _ _ _⟩
 case round =>
  obtain ⟨i, hi, rfl, ⟨r, rfl, hr⟩, hW, hK⟩ := hrel
  have HW := Lib.hid hW
  have HK := Lib.hid hK
  have HR := Lib.hid hr
  clear hW hK hr
  by_cases hlt : i < mN
  ·obtain ⟨x, hx⟩ : ∃ x, l[i]? = some x := ⟨l[i]'(by have := HNl.out; omega), List.getElem?_eq_getElem _⟩
   have hpl := HPAR.out.at_ hx
   rw [← HR.out] at hpl
   have hlx := hpl.le
   have hsx : (Tm.pres (l.take (i + 1))).length = (Tm.pres (l.take i)).length + x.nodes := by rw [Tm.pres_take_succ hx, List.length_append]; rfl
   have htl := pres_take_le l (i + 1)
   have hlee := lee_pats (most := X.most) (l.take i) (p + 1) HM.out
   have hC := pattern_any X _ wr r x HW.out hpl (lee_mono hlee (by have := HML.out; omega))
   have hsn := patsW_snoc (most := X.most) hx st (p + 1)
   rw [← HR.out] at hsn
   rw [← hsn] at hC
   have HC := Lib.hid hC
   have HX := Lib.hid hpl.get
   have hr1 : (r : Int) < (X.P.length : Int) := by have := Tm.pre_ne x; unfold Tm.nodes at hlx; omega
   have hr0 : (0 : Int) ≤ (r : Int) := by omega
   have had2 := add6 X.LB r
   obtain ⟨r2, hr2⟩ : ∃ r2 : Nat, r2 = r + x.nodes := ⟨_, rfl⟩
   have HR2 := Lib.hid hr2
   have HSX := Lib.hid hsx
   have HLT := Lib.hid hlt
   clear hpl hlx hsx htl hlee hC hsn hx hr2
   go_wp2_with fail
   refine HC.out.mono ?_
   rintro e w2 ⟨rfl, hW2, hK2⟩
   obtain ⟨nv2, ov2, fv2, hL2⟩ := hW2.open_ HX.out
   obtain ⟨b0, -, -, -, -, -, -, -, -, -, -, -, -, -, -, s5⟩ := hL2
   rw [← HR2.out] at s5
   have HW2 := Lib.hid hW2
   have HK2 := Lib.hid hK2
   clear hW2 hK2
   go_wp2_with fail
   go_roundw
   case rel => exact ⟨i + 1, HLT.out, by go_num, ⟨r2, rfl, by have := HR2.out; have := HR.out; have := HSX.out; omega⟩, HW2.out, HK.out.trans HK2.out⟩
   case measure => simp [intOf]; have := HLT.out; omega
  ·obtain rfl : i = mN := by omega
   have hbx := HK.out.cells _ _ _ _ HBX.out (by decide) (by decide) (by decide)
   have n5 : wr.cell? ⟨V.heap.size, 5, none⟩ = some (.int .i64 (E : Int)) := cell_of_row hbx rfl
   have hlee := lee_pats (most := X.most) (l.take i) (p + 1) HM.out
   have hspl := pres_split_len l i
   have hC := all_any9 X _ wr r E _ (l.drop i) HW.out (by rw [HR.out]; exact HPAR.out.drop i) (by have := HR.out; have := HLE.out; omega) (by have := HR.out; have := HE.out; omega) hlee (by have := HML.out; omega) (fun x hx => HO.out x (List.mem_of_mem_drop hx))
   rw [HR.out, ← clauseW_pats X.most i l st (p + 1) HNl.out, ← HR.out] at hC
   have HC := Lib.hid hC
   clear hbx hlee hspl hC
   go_wp2_with fail
   refine HC.out.mono ?_
   rintro e w2 ⟨rfl, hW2, hK2⟩
   have HW2 := Lib.hid hW2
   have HK2 := Lib.hid hK2
   clear hW2 hK2
   go_wp2_with fail
   go_end0
   exact ⟨rfl, HW2.out, (KeepT.of_below HBV.out).trans (HK.out.trans HK2.out)⟩
end Go.Proofs.YtmdcdhdjojimeaaGreatDoor
end
