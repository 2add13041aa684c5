/- 'xs = append(xs, ..)' to a row of the call's own: where the longer row lies: in the row's own block, or in a new one. -/
import Derived.Test.YthbiaaeoajmlbaaGreatDoorKBnd
import Derived.Test.YthbiaaeoajmlbaaGreatDoorKNodes
import Derived.Test.YthbiaaeoajmlbaaGreatDoorKDigits
import Derived.Test.YthbiaaeoajmlbaaGreatDoorKWakes07
import Derived.RangeFuncCalls
import Derived.RangeFuncNested
import Derived.RangeFuncLeaves
import Derived.RangeFuncBox
import Derived.TacticsInMore
import Derived.LoopIn
import Derived.OwnWalkIn
import Derived.Deep.RegionHeld
import Derived.OrdersHeld
section
set_option linter.unusedVariables false
namespace Go.Proofs.YthbiaaeoajmlbaaGreatDoor
open Go.RowKit

def SeqE {α : Type} (n : Nat) (P : Program) (g : Nat) (lb : Array Value) (encs : α → Array Value) (Kp : World → World → Prop) (E : List α → α → Prop) (S Sp : List α → Prop) (w : World) : Prop :=
  ∀ (l : Nat) (J Jx : List α → World → Prop) (W : World), Below w.heap.size w W → (∀ s A C, J s A → Below A.heap.size A C → J s C) → (∀ s A C, Jx s A → Below A.heap.size A C → Jx s C) →
    (∀ pre x W1, J pre W1 → E pre x → YieldAt Fence.wide (n - 1) P l (encs x) W1 fun e W' =>
      (e = .returned (.bool true) ∧ J (pre ++ [x]) W' ∧ Kp W1 W') ∨ (e = .returned (.bool false) ∧ Jx (pre ++ [x]) W')) →
    J [] W →
    CallsIn Fence.wide n P g (#[.func (.yield l) #[] #[]] ++ lb) W fun e W' => (∃ v, e = .returned v) ∧ ((∃ xs, S xs ∧ J xs W') ∨ (∃ pre, Sp pre ∧ Jx pre W'))
def Own2 (B : Nat) (A C : World) : Prop := A.heap.size ≤ C.heap.size ∧ C.heap[B + 1]? = A.heap[B + 1]? ∧ C.heap[B]? = A.heap[B]?
structure Soft (B : Nat) (A C : World) : Prop where
  below : Below B A C
  same : ∀ (k : Nat) (o : Obj), A.heap[k]? = some o → (o.isCells = true ∨ (k ≠ B ∧ k ≠ B + 1)) → C.heap[k]? = some o
theorem Soft.of_below {B : Nat} {A C : World} (h : Below A.heap.size A C) (hB : B ≤ A.heap.size) : Soft B A C := ⟨h.mono hB, fun k o hk _ => (h.block k (heap_lt hk)).trans hk⟩
theorem Soft.put {B : Nat} {A : World} {o o' : Obj} (h : A.heap[B + 1]? = some o) (ho : o.isCells = false) : Soft B A (A.putObj (B + 1) o') := by
  have m : Mod (fun k => k = B + 1) A (A.putObj (B + 1) o') := Mod.putObj A _ o' rfl
  refine ⟨m.below (by have := heap_lt h; omega) (fun k e => by omega), fun k x hk hx => (m.block k (heap_lt hk) ?_).trans hk⟩
  rintro rfl
  rw [h] at hk; cases hk
  rcases hx with hx | hx
  · rw [ho] at hx; cases hx
  · exact hx.2 rfl
theorem Soft.put0 {B : Nat} {A : World} {o o' : Obj} (h : A.heap[B]? = some o) (ho : o.isCells = false) : Soft B A (A.putObj B o') := by
  have m : Mod (fun k => k = B) A (A.putObj B o') := Mod.putObj A _ o' rfl
  refine ⟨m.below (by have := heap_lt h; omega) (fun k e => by omega), fun k x hk hx => (m.block k (heap_lt hk) ?_).trans hk⟩
  rintro rfl
  rw [h] at hk; cases hk
  rcases hx with hx | hx
  · rw [ho] at hx; cases hx
  · exact hx.1 rfl
def roundE {α : Type} (B : Nat) (Kp : World → World → Prop) (I : List α → World → Prop) (Ix : Code → List α → World → Prop) (xs : List α) (W : World) : Exit → Act → World → Prop
  | .normal, _, W' => Own2 B W W' ∧ Kp W W' ∧ I xs W'
  | .ret, _, W' => Own2 B W W' ∧ Ix .ret xs W'
  | .exit id, _, W' => Own2 B W W' ∧ Ix (.exit id) xs W'
  | .goto t, _, W' => Own2 B W W' ∧ Ix (.goto t) xs W'
  | .panic _, _, _ => False
  | .outgrown, _, _ => False
theorem range_E {α : Type} {n : Nat} {P : Program} {w : World} {g : Operand} {ps : Array Tmp} {assign body : Code} {Q : Exit → Act → World → Prop} {a : Act}
    {gf : Nat} {lb : Array Value} (hg : a.eval g = .func (.func gf) #[] lb) (eg : ∀ args w, (callFunc gf args).run P w = .ok (.enter gf args) w)
    {encs : α → Array Value} (hps : ∀ x, (encs x).size = ps.size) {Kp : World → World → Prop} {E : List α → α → Prop} {S Sp : List α → Prop} (hseq : SeqE (n - 1) P gf lb encs Kp E S Sp w)
    (hKt : ∀ {A B C : World}, Kp A B → Kp B C → Kp A C) (hKb : ∀ (W : World) (l : Nat) (o o' : Obj), w.heap.size ≤ l → W.heap[l]? = some o → o.isCells = false → Kp W (W.putObj l o')) (hKo : ∀ A B, Below A.heap.size A B → Kp A B)
    (I : List α → World → Prop) (Ix : Code → List α → World → Prop)
    (hI : ∀ s A C, I s A → Soft w.heap.size A C → w.heap.size ≤ A.heap.size → I s C)
    (hIx : ∀ c s A C, Ix c s A → Soft w.heap.size A C → w.heap.size ≤ A.heap.size → Ix c s C) (h0 : I [] w)
    (Ax : α → Act → World → Prop) (hAx : ∀ x a' X Y, Ax x a' X → Soft w.heap.size X Y → Ax x a' Y)
    (hassign : ∀ (l : Nat) (pre : List α) (x : α) (W : World) (K : Act → World → Prop), I pre W → E pre x → w.heap.size + 2 ≤ W.heap.size → (∀ a' W', Below W.heap.size W W' → Ax x a' W' → K a' W') →
      assign.wpIn (Fence.wide.inRound l) (n - 1 - 1) P (Exit.then K (fun _ _ _ => False)) { tmps := (ps.zip (encs x)).foldl (fun t (p, v) => t.setIfInBounds p v) a.tmps, defers := [] } W)
    (hbody : ∀ (l : Nat) (pre : List α) (x : α) (a' : Act) (W : World), I pre W → E pre x → Ax x a' W → w.heap.size + 2 ≤ W.heap.size → (∃ r, W.heap[w.heap.size + 1]? = some (.loop r)) → (∃ d, W.heap[w.heap.size]? = some (.deferred d)) →
      body.wpIn (Fence.wide.inRound l) (n - 1 - 1) P (roundE w.heap.size Kp I Ix (pre ++ [x]) W) a' W)
    (hdone : ∀ (xs : List α) (W : World), S xs → I xs W → W.heap[w.heap.size]? = some (.deferred (some [])) → Q .normal { a with defers := { target := .collected w.heap.size, args := #[] } :: a.defers } W)
    (hstop : ∀ (c : Code) (pre : List α) (W : World), Sp pre → Ix c pre W → W.heap[w.heap.size]? = some (.deferred (some [])) → c.wpIn Fence.wide n P Q { a with defers := { target := .collected w.heap.size, args := #[] } :: a.defers } W)
    (h1 : 1 ≤ n) : (Code.rangeFunc g ps assign body).wpIn Fence.wide n P Q a w := by
  obtain ⟨B, hB⟩ : ∃ B, B = w.heap.size := ⟨_, rfl⟩
  refine wpIn_rangeFunc fun fn hfn => ?_
  let rec_ (st : LoopState) (pe : Option Code) : Loop := { state := st, pending := pe, fn, tmps := a.tmps, params := ps, assign, body, defers := w.heap.size }
  obtain ⟨W1, hW1⟩ : ∃ W1, W1 = (w.alloc (.deferred (some []))).alloc (.loop (rec_ .ready none)) := ⟨_, rfl⟩
  have hsz : W1.heap.size = B + 2 := by rw [hW1, hB]; simp
  have hrec : W1.heap[B + 1]? = some (.loop (rec_ .ready none)) := by
    have := World.alloc_heap_new (w.alloc (.deferred (some []))) (.loop (rec_ .ready none))
    rw [World.size_alloc] at this; rw [hW1, hB]; exact this
  have hdef : W1.heap[B]? = some (.deferred (some [])) := by
    rw [hW1, hB]; exact (Below.heap_alloc _ _ _ (by simp)).trans (World.alloc_heap_new w _)
  have hwW : Below w.heap.size w W1 := by rw [hW1]; exact ((Below.refl _ w).alloc (Nat.le_refl _) _).alloc (by simp) _
  have keep : ∀ {X Y : World} {F : Nat → Prop} {k : Nat} {o : Obj}, Mod F X Y → ¬ F k → X.heap[k]? = some o → Y.heap[k]? = some o := fun h hF hk => (h.block _ (heap_lt hk) hF).trans hk
  have putB : ∀ (X : World) (o : Obj), Mod (fun k => k = B + 1) X (X.putObj (B + 1) o) := fun X o => Mod.putObj X _ o rfl
  have getB : ∀ (X : World) (o : Obj), B + 1 < X.heap.size → (X.putObj (B + 1) o).heap[B + 1]? = some o := fun X o h => World.putObj_heap_same h
  have toF : ∀ {X : World} {l : Loop} (o : Obj), X.heap[B + 1]? = some (.loop l) → Soft w.heap.size X (X.putObj (B + 1) o) := fun o h => by rw [hB] at h ⊢; exact Soft.put h rfl
  refine ⟨B + 1, [{ target := .collected w.heap.size, args := #[] }], W1, { target := .fn (.func gf) lb, args := #[.func (.yield (B + 1)) #[] #[]] }, W1, gf, #[.func (.yield (B + 1)) #[] #[]] ++ lb, W1, ?_, ?_, fun _ _ => trivial, ?_, fun _ => h1, ?_⟩
  · rw [hB, hW1]; exact run_enterLoop_outer _ _ _ _ _
  · simp only [resolve, hg]; simp [go_sem]
  · simp [invoke, go_sem, eg]
  have hmod1 : Mod (fun _ => False) w W1 := by rw [hW1]; exact (Mod.alloc _ _ _).trans (Mod.alloc _ _ _) (fun _ _ h => h)
  have hI1 : I [] W1 := hI _ _ _ h0 (Soft.of_below hwW (Nat.le_refl _)) (Nat.le_refl _)
  refine (hseq (B + 1) (fun pre W => I pre W ∧ W.heap[B + 1]? = some (.loop (rec_ .ready none)) ∧ W.heap[B]? = some (.deferred (some [])))
    (fun pre W => ∃ c, Ix c pre W ∧ W.heap[B + 1]? = some (.loop (rec_ .done (some c))) ∧ W.heap[B]? = some (.deferred (some []))) W1 hwW ?_ ?_ ?_ ⟨hI1, hrec, hdef⟩).mono ?_
  · rintro s A C ⟨i, r, d⟩ hb
    have hA := heap_lt r
    exact ⟨hI _ _ _ i (Soft.of_below hb (by omega)) (by omega), (hb.block _ hA).trans r, (hb.block _ (by omega)).trans d⟩
  · rintro s A C ⟨c, i, r, d⟩ hb
    have hA := heap_lt r
    exact ⟨c, hIx _ _ _ _ i (Soft.of_below hb (by omega)) (by omega), (hb.block _ hA).trans r, (hb.block _ (by omega)).trans d⟩
  · rintro pre x W ⟨i, r, d⟩ hex
    have hlt := heap_lt r
    refine ⟨fn, _, assign, body, run_yield (P := P) (args := encs x) r (hps x), roundIn_of_wpIn hfn (hassign _ pre x W _ i hex (by omega) ?_)⟩
    intro a' Wa hba hax
    have ma : Mod (fun _ => False) W Wa := Mod.of_below hba
    have ia : I pre Wa := hI _ _ _ i (Soft.of_below hba (by omega)) (by omega)
    have ra : Wa.heap[B + 1]? = some (.loop (rec_ .ready none)) := (hba.block _ hlt).trans r
    have da : Wa.heap[B]? = some (.deferred (some [])) := (hba.block _ (by omega)).trans d
    have hla := heap_lt ra
    refine ⟨_, run_beginRound ra rfl, ?_⟩
    have m1 := putB Wa (.loop { rec_ .ready none with state := .busy })
    have rb := getB Wa (.loop { rec_ .ready none with state := .busy }) hla
    have db : (Wa.putObj (B + 1) (.loop { rec_ .ready none with state := .busy })).heap[B]? = some (.deferred (some [])) := keep m1 (by omega) da
    have ib := hI _ _ _ ia (toF (.loop { rec_ .ready none with state := .busy }) ra) (by omega)
    have kb : Kp W (Wa.putObj (B + 1) (.loop { rec_ .ready none with state := .busy })) := hKt (hKo _ _ hba) (hKb _ _ _ _ (by omega) ra rfl)
    have sb : (Wa.putObj (B + 1) (.loop { rec_ .ready none with state := .busy })).heap.size = Wa.heap.size := World.putObj_size
    refine wpIn_mono (hbody _ pre x a' _ ib hex (hAx _ _ _ _ hax (toF _ ra)) (by rw [sb]; omega) ⟨_, by rw [← hB]; exact rb⟩ ⟨_, by rw [← hB]; exact db⟩) ?_
    have fin : ∀ (jump : Option Code) (W3 : World), Own2 w.heap.size (Wa.putObj (B + 1) (.loop { rec_ .ready none with state := .busy })) W3 →
        (Instr.endRound (B + 1) jump).run P W3 = .ok (.bool jump.isNone) (W3.putObj (B + 1) (.loop (rec_ (if jump.isNone then .ready else .done) jump))) ∧
        (W3.putObj (B + 1) (.loop (rec_ (if jump.isNone then .ready else .done) jump))).heap[B + 1]? = some (.loop (rec_ (if jump.isNone then .ready else .done) jump)) ∧
        (W3.putObj (B + 1) (.loop (rec_ (if jump.isNone then .ready else .done) jump))).heap[B]? = some (.deferred (some [])) ∧
        Kp W3 (W3.putObj (B + 1) (.loop (rec_ (if jump.isNone then .ready else .done) jump))) ∧ w.heap.size ≤ W3.heap.size ∧ Soft w.heap.size W3 (W3.putObj (B + 1) (.loop (rec_ (if jump.isNone then .ready else .done) jump))) := fun jump W3 hm3 => by
      obtain ⟨hs3, h31, h30⟩ := hm3
      rw [← hB] at h31 h30
      have r3 : W3.heap[B + 1]? = _ := h31.trans rb
      have d3 : W3.heap[B]? = _ := h30.trans db
      have hl3 := heap_lt r3
      have m4 := putB W3 (.loop (rec_ (if jump.isNone then .ready else .done) jump))
      exact ⟨run_endRound (P := P) jump r3, getB _ _ hl3, keep m4 (by omega) d3, hKb _ _ _ _ (by omega) r3 rfl, by omega, toF _ r3⟩
    rintro e a3 W3 hp
    cases e with
    | normal =>
      obtain ⟨hm3, k3, i3⟩ := hp
      obtain ⟨hr, r4, d4, k4, s4, f4⟩ := fin none W3 hm3
      exact ⟨_, _, hr, .inl ⟨rfl, ⟨hI _ _ _ i3 f4 s4, r4, d4⟩, hKt kb (hKt k3 k4)⟩⟩
    | ret =>
      obtain ⟨hm3, i3⟩ := hp
      obtain ⟨hr, r4, d4, k4, s4, f4⟩ := fin (some .ret) W3 hm3
      exact ⟨_, _, hr, .inr ⟨rfl, .ret, hIx _ _ _ _ i3 f4 s4, r4, d4⟩⟩
    | exit id =>
      obtain ⟨hm3, i3⟩ := hp
      obtain ⟨hr, r4, d4, k4, s4, f4⟩ := fin (some (.exit id)) W3 hm3
      exact ⟨_, _, hr, .inr ⟨rfl, .exit id, hIx _ _ _ _ i3 f4 s4, r4, d4⟩⟩
    | goto t =>
      obtain ⟨hm3, i3⟩ := hp
      obtain ⟨hr, r4, d4, k4, s4, f4⟩ := fin (some (.goto t)) W3 hm3
      exact ⟨_, _, hr, .inr ⟨rfl, .goto t, hIx _ _ _ _ i3 f4 s4, r4, d4⟩⟩
    | panic ch => exact hp.elim
    | outgrown => exact hp.elim
  · rintro e W2 ⟨⟨v, rfl⟩, (⟨xs, hS, i, r, d⟩ | ⟨pre, hSp, c, i, r, d⟩)⟩
    · have h := run_endLoop (P := P) r (by simp [rec_])
      have hA := heap_lt d
      exact ⟨none, _, h, hdone xs _ hS (hI _ _ _ i (toF _ r) (by omega)) (by rw [← hB]; exact keep (putB _ _) (by omega) d)⟩
    · have h := run_endLoop (P := P) r (by simp [rec_])
      have hA := heap_lt d
      exact ⟨some c, _, h, hstop c pre _ hSp (hIx _ _ _ _ i (toF _ r) (by omega)) (by rw [← hB]; exact keep (putB _ _) (by omega) d)⟩
end Go.Proofs.YthbiaaeoajmlbaaGreatDoor
end
section
set_option linter.unusedVariables false
set_option linter.unusedSimpArgs false
namespace Go.Proofs.YthbiaaeoajmlbaaGreatDoor
open Go.RowKit Go.Shelf
attribute [local go_sem] Oper.semAt_some

structure KpF (n0 : Nat) (A C : World) : Prop where
  size : A.heap.size ≤ C.heap.size
  low : ∀ k, k < n0 → n0 ≤ A.heap.size → C.heap[k]? = A.heap[k]?
  cells : ∀ (k : Nat) (c : Array Value) (t : TypeId) (z : Nat × Nat), A.heap[k]? = some (.cells c t z) → C.heap[k]? = some (.cells c t z)
theorem KpF.trans {n0 : Nat} {A B C : World} (h : KpF n0 A B) (g : KpF n0 B C) : KpF n0 A C := ⟨Nat.le_trans h.size g.size, fun k hk hn => (g.low k hk (Nat.le_trans hn h.size)).trans (h.low k hk hn), fun k c t z hk => g.cells k c t z (h.cells k c t z hk)⟩
theorem KpF.refl (n0 : Nat) (A : World) : KpF n0 A A := ⟨Nat.le_refl _, fun _ _ _ => rfl, fun _ _ _ _ h => h⟩
theorem KpF.of_below {n0 : Nat} {A B : World} (h : Below A.heap.size A B) : KpF n0 A B := ⟨h.size, fun k hk hn => h.block k (by omega), fun k c t z hk => (h.block k (heap_lt hk)).trans hk⟩
theorem KpF.put {n0 : Nat} {W : World} {l : Nat} {o o' : Obj} (hl : n0 ≤ l) (h : W.heap[l]? = some o) (ho : o.isCells = false) : KpF n0 W (W.putObj l o') :=
  ⟨by rw [World.putObj_size]; exact Nat.le_refl _, fun k hk _ => World.putObj_heap_other (by omega), fun k c t z hk => (World.putObj_heap_other (fun e => by subst e; rw [h] at hk; cases hk; cases ho)).trans hk⟩
abbrev BdI := Int × Value
def encB (a : BdI) : Array Value := #[.int .i64 a.1, a.2]
def NextB (n0 : Nat) (w0 : World) (l : List Bd) (pre : List BdI) (a : BdI) : Prop :=
  ∃ (r : Nat) (b : Bd) (k n : Int) (ts tt : ByteArray) (A : Option Addr) (m c : Nat), pre.length + (r + 1) = l.length ∧ a.1 = (r : Int) ∧ l[r]? = some b ∧ a.2 = .agg #[.string b.1, .int .i8 k, .int .i64 n, .string ts, .string tt, .slice A m c] ∧ TmAt (· < n0) w0 b.2 (.agg #[.int .i8 k, .int .i64 n, .string ts, .string tt, .slice A m c])
theorem backward_in (A : Option Addr) (m c n : Nat) (w : World) :
    CallsIn Fence.wide n Tryz.prog 225 #[.slice A m c] w fun e w' => e = .returned (.func (.func 250) #[] #[.pointer (some ⟨w.heap.size, 0, none⟩)]) ∧ w' = w.alloc (.cells #[.slice A m c] 49) := by
  refine callsIn_of_wp Tryz.func225 rfl trivial ?_ rfl
  simp only [Tryz.ntmps225, List.size_toArray, List.length_cons, List.length_nil, Nat.reduceAdd, Nat.reduceSub, Array.replicate_succ, Array.replicate_zero, List.push_toArray, List.append_toArray, List.nil_append, List.cons_append]
  gi_wp2
  go_ret
  exact ⟨rfl, rfl⟩
structure BRT (n0 n1 : Nat) (w : World) (A : Option Addr) (n cap : Nat) (l : List Bd) : Prop where
  len : l.length = n
  max : n ≤ maxLen
  cap : n ≤ cap
  at_ : ∀ j b, l[j]? = some b → ∃ ad v, A = some ad ∧ ad.block < n1 ∧ b.1.size ≤ maxLen ∧ BElem w ad j b.1 v ∧ TmAt (· < n0) w b.2 v
  le : n0 ≤ n1
theorem BRT.under {n0 n1 C : Nat} {w w' : World} {A : Option Addr} {n cap : Nat} {l : List Bd} (h : BRT n0 n1 w A n cap l) (hb : Below C w w') (hC : n1 ≤ C) : BRT n0 n1 w' A n cap l :=
  ⟨h.len, h.max, h.cap, fun j b hj => by obtain ⟨ad, v, e, hp, hs, hE, hT⟩ := h.at_ j b hj; exact ⟨ad, v, e, hp, hs, hE.keep (hb.block _ (Nat.lt_of_lt_of_le hp hC)), hT.keep (fun k hk => hb.block k (Nat.lt_of_lt_of_le hk (Nat.le_trans h.le hC))) (fun _ h => h)⟩, h.le⟩
theorem BRow.brt {n0 : Nat} {w : World} {A : Option Addr} {n cap : Nat} {l : List Bd} (h : BRow (· < n0) w A n cap l) : BRT n0 n0 w A n cap l := ⟨h.len, h.max, h.cap, h.at_, Nat.le_refl _⟩
theorem BRT.brow {n0 n1 : Nat} {w : World} {A : Option Addr} {n cap : Nat} {l : List Bd} (h : BRT n0 n1 w A n cap l) : BRow (· < n1) w A n cap l :=
  ⟨h.len, h.max, h.cap, fun j b hj => by obtain ⟨ad, v, e, hp, hs, hE, hT⟩ := h.at_ j b hj; exact ⟨ad, v, e, hp, hs, hE, hT.mono (fun k hk => Nat.lt_of_lt_of_le hk h.le)⟩⟩
set_option maxHeartbeats 16000000 in
set_option maxRecDepth 100000 in
theorem back1_seq (n0 n1 bs : Nat) (l : List Bd) (A : Option Addr) (cap n : Nat) (w : World) (hR : BRT n0 n1 w A l.length cap l) (hn1 : n1 ≤ w.heap.size) (hb : w.heap[bs]? = some (.cells #[.slice A l.length cap] 49 (0, 0))) :
    SeqE n Tryz.prog 250 #[.pointer (some ⟨bs, 0, none⟩)] encB (KpF n1) (NextB n0 w l) (fun xs => xs.length = l.length) (fun _ => True) w := by
  intro lid J Jx W hW hJ hJx hY h0
  have hn0 : n0 ≤ w.heap.size := Nat.le_trans hR.le hn1
  have hRW : BRT n0 n1 W A l.length cap l := hR.under hW hn1
  have hbW : W.heap[bs]? = _ := (hW.block _ (heap_lt hb)).trans hb
  have hlen := hR.max
  unfold maxLen at hlen
  have c0 := cell_of_row (i := 0) hbW rfl
  have HB := Lib.hid hbW
  have HR := Lib.hid hRW
  have HJ := Lib.hid hJ
  have HJx := Lib.hid hJx
  have HY := Lib.hid hY
  have H0 := Lib.hid h0
  have HWL : Hid (∀ y v, TmAt (· < n0) W y v → TmAt (· < n0) w y v) := fun y v h => h.keep (fun b hb => (hW.block b (Nat.lt_of_lt_of_le hb hn0)).symm) (fun _ h => h)
  have HN0 : Hid (n1 ≤ W.heap.size) := Nat.le_trans hn1 hW.size
  clear hR hn0 hn1 hb hW hJ hJx hY h0 hRW hbW
  have hw1 : IntKind.i64.wrap ((l.length : Int) - 1) = (l.length : Int) - 1 := by rw [IntKind.wrap_i64]; omega
  refine callsIn_of_wp Tryz.func250 rfl trivial ?_ rfl
  simp only [Tryz.ntmps250, List.size_toArray, List.length_cons, List.length_nil, Nat.reduceAdd, Nat.reduceSub, Array.replicate_succ, Array.replicate_zero, List.push_toArray, List.append_toArray, List.nil_append, List.cons_append]
  gi_wp2_with fail
  gi_loopw [3] (fun q wr => ∃ (r : Nat) (z : Int), r ≤ l.length ∧ q = .int .i64 z ∧ z = (r : Int) - 1 ∧ (∃ pre : List BdI, J pre wr ∧ pre.length + r = l.length) ∧ KpF n1 W wr) (fun q _ => (intOf q + 1).toNat)
  case atStart => exact ⟨l.length, _, Nat.le_refl _, rfl, by go_num, ⟨[], H0.out, by simp⟩, .refl _ _⟩
  case round =>
    obtain ⟨r, z, hr, rfl, hz, ⟨pre, hJp, hpre⟩, hK⟩ := hrel
    have HJP := Lib.hid hJp
    have HPRE := Lib.hid hpre
    have HK := Lib.hid hK
    clear hJp hpre hK
    have cb : wr.cell? ⟨bs, 0, none⟩ = some (.slice A l.length cap) := cell_of_row (i := 0) (HK.out.cells _ _ _ _ HB.out) rfl
    cases r with
    | zero =>
      have hz0 : z < 0 := by omega
      have hz1 : ¬ 0 ≤ z := by omega
      clear hz
      gi_wp2_with fail
      go_end0
      exact ⟨⟨_, rfl⟩, .inl ⟨pre, by have := HPRE.out; omega, HJP.out⟩⟩
    | succ r =>
      obtain rfl : z = (r : Int) := by omega
      have hr0 : (0 : Int) ≤ (r : Int) := by omega
      have hr1 : ¬ (r : Int) < 0 := by omega
      clear hz
      have hlt : r < l.length := by omega
      obtain ⟨y, hy⟩ : ∃ y, l[r]? = some y := ⟨l[r], List.getElem?_eq_getElem hlt⟩
      obtain ⟨ad, u, hA, had, hsz, hE, hTy⟩ := HR.out.at_ r y hy
      subst hA
      have hEr : BElem wr ad r y.1 u := hE.keep (HK.out.low ad.block had HN0.out)
      obtain ⟨s, t⟩ := y
      obtain ⟨k, n', ts, tt, L, hte⟩ : ∃ k n ts tt L, t = Tm.mk k n ts tt L := by cases t; exact ⟨_, _, _, _, _, rfl⟩
      have hT2 := hTy
      rw [show (s, t).2 = Tm.mk k n' ts tt L from hte] at hT2
      obtain ⟨TA, tc, rfl, -⟩ := hT2.parts
      obtain ⟨q0, q1, q2, q3, q4, hcc, es, e0, e1, e2, e3, e4⟩ := hEr
      simp only [Value.agg.injEq, Array.mk.injEq, List.cons.injEq, and_true] at hcc
      obtain ⟨rfl, rfl, rfl, rfl, rfl⟩ := hcc
      obtain ⟨fn, tmps, assign, body, hyy, hRound⟩ := HY.out pre ((r : Int), .agg #[.string s, .int .i8 k, .int .i64 n', .string ts, .string tt, .slice TA L.length tc]) _ HJP.out ⟨r, (s, t), k, n', ts, tt, TA, L.length, tc, by have := HPRE.out; omega, rfl, hy, rfl, HWL.out _ _ hTy⟩
      unfold encB at hyy
      clear hy hE hTy hT2 had hsz hte
      gi_wp2_with fail
      refine ⟨fun h => (by cases h), ?_⟩
      refine hRound.mono ?_
      clear hRound hyy es e0 e1 e2 e3 e4 cb
      rintro e W5 (⟨rfl, hJ5, hK5⟩ | ⟨rfl, hx5⟩)
      · have HJ5 := Lib.hid hJ5
        have HK5 := Lib.hid hK5
        have hw2 : IntKind.i64.wrap ((r : Int) - 1) = (r : Int) - 1 := by rw [IntKind.wrap_i64]; omega
        clear hJ5 hK5
        gi_wp2_with fail
        go_roundw
        case rel => exact ⟨r, _, by omega, rfl, by first | rfl | go_num, ⟨pre ++ [_], HJ5.out, by rw [List.length_append, List.length_singleton]; have := HPRE.out; omega⟩, HK.out.trans HK5.out⟩
        case measure => (simp [intOf] <;> omega)
      · have HX5 := Lib.hid hx5
        clear hx5
        gi_wp2_with fail
        refine bodyPost_ret (v := .tuple #[]) (results_none rfl _ _ _) rfl ?_
        exact ⟨⟨_, rfl⟩, .inr ⟨_, trivial, HX5.out⟩⟩
def MapB (n0 : Nat) (w0 : World) (es : Array MapEntry) (l : List Bd) : Prop :=
  ∃ f, MapT es f ∧ ∀ s, (∀ y, findB l s = some y → ∃ k n ts tt A m c, f s = some (.agg #[.int .i8 k, .int .i64 n, .string ts, .string tt, .slice A m c]) ∧ TmAt (· < n0) w0 y (.agg #[.int .i8 k, .int .i64 n, .string ts, .string tt, .slice A m c])) ∧ (findB l s = none → f s = none)
structure FsI (n0 : Nat) (l : List Bd) (w w3 : World) (pre : List BdI) (W : World) : Prop where
  len : pre.length ≤ l.length
  map : ∃ es c, W.heap[w.heap.size]? = some (.map es c) ∧ MapB n0 w es (l.drop (l.length - pre.length))
  mod : Mod (fun k => k = w.heap.size) w3 W
theorem mod_soft11 {F : Nat → Prop} {B : Nat} {w A C : World} (h : Mod F w A) (hB : w.heap.size ≤ B) (hs : Soft B A C) : Mod F w C := by
  have hb := hs.below
  exact ⟨hb.os.trans h.os, hb.tape.trans h.tape, hb.output.trans h.output, Nat.le_trans h.size hb.size, fun j hj hn => (hb.block j (by omega)).trans (h.block j hj hn)⟩
theorem FsI.soft {n0 : Nat} {l : List Bd} {w w3 A C : World} {pre : List BdI} (h : FsI n0 l w w3 pre A) (hs : Soft w3.heap.size A C) (hw : w.heap.size < w3.heap.size) : FsI n0 l w w3 pre C := by
  obtain ⟨es, c, h1, h2⟩ := h.map
  exact ⟨h.len, ⟨es, c, hs.same _ _ h1 (.inr ⟨by omega, by omega⟩), h2⟩, mod_soft11 h.mod (Nat.le_refl _) hs⟩
theorem mkmap11 (w : World) : Sem.run Tryz.prog (Instr.makeMap 190 none) w = .ok (.map (some w.heap.size)) (w.alloc (.map #[] 0)) := by kernel_rfl
set_option maxHeartbeats 8000000 in
set_option maxRecDepth 100000 in
theorem firsts_in (n0 n1 : Nat) (l : List Bd) (A : Option Addr) (cap : Nat) (w : World) (hR : BRT n0 n1 w A l.length cap l) (hn1 : n1 ≤ w.heap.size) :
    Calls Tryz.prog 169 #[.slice A l.length cap] w fun e w' => e = .returned (.map (some w.heap.size)) ∧ Below w.heap.size w w' ∧ ∃ es c, w'.heap[w.heap.size]? = some (.map es c) ∧ MapB n0 w es l := by
  obtain ⟨h0, z0⟩ := here_of (.map #[] 0) (rfl : w.heap.size = w.heap.size)
  obtain ⟨h1, z1⟩ := here_of (.cells #[.map (some w.heap.size)] 190) z0
  obtain ⟨h2, z2⟩ := here_of (.cells #[.slice A l.length cap] 49) z1
  have g1 := there_of (.cells #[.slice A l.length cap] 49) h1
  have g0 := there_of (.cells #[.slice A l.length cap] 49) (there_of (.cells #[.map (some w.heap.size)] 190) h0)
  obtain ⟨w3, hw3⟩ : ∃ w3, w3 = ((w.alloc (.map #[] 0)).alloc (.cells #[.map (some w.heap.size)] 190)).alloc (.cells #[.slice A l.length cap] 49) := ⟨_, rfl⟩
  have b3 : Below w.heap.size w w3 := by rw [hw3]; exact (((Below.refl _ w).alloc (Nat.le_refl _) _).alloc (by omega) _).alloc (by omega) _
  rw [← hw3] at h2 z2 g1 g0
  have hst := back1_seq n0 n1 (w.heap.size + 2) l A cap (3 - 1) w3 (hR.under b3 hn1) (by omega) h2
  have HN1 : Hid (n1 ≤ w.heap.size) := hn1
  have HN0 : Hid (n0 ≤ w.heap.size) := Nat.le_trans hR.le hn1
  have hmk := mkmap11 w
  have HST := Lib.hid hst
  have HZ := Lib.hid z2
  have HB3 := Lib.hid b3
  have HG1 := Lib.hid g1
  have HG0 := Lib.hid g0
  have hlen := hR.max
  unfold maxLen at hlen
  clear hst z2 b3 g1 g0 h0 z0 h1 z1 h2 hR hn1
  refine (callsIn_wide (n := 3)).1 ?_
  refine callsIn_of_wp_marks Tryz.func169 rfl trivial ?_ rfl
  simp only [Tryz.ntmps169, List.size_toArray, List.length_cons, List.length_nil, Nat.reduceAdd, Nat.reduceSub, Array.replicate_succ, Array.replicate_zero, List.push_toArray, List.append_toArray, List.nil_append, List.cons_append]
  gi_wp2_with (refine ⟨trivial, ?_⟩; gi_at_call 225; refine (backward_in _ _ _ _ _).mono ?_; rintro e w' ⟨rfl, rfl⟩)
  simp only [Nat.add_assoc, Nat.reduceAdd]
  rw [← hw3]
  clear hw3 hmk
  refine range_E (α := BdI) (gf := 250) (lb := #[.pointer (some ⟨w.heap.size + 2, 0, none⟩)]) rfl (enters_of Tryz.func250 (by kernel_rfl) rfl) (fun _ => rfl) HST.out
    KpF.trans (fun W l o o' hl h ho => KpF.put (by have := HZ.out; have := HN1.out; omega) h ho) (fun A C h => KpF.of_below h)
    (FsI n0 l w w3) (fun _ _ _ => False) (fun s A C h hs _ => h.soft hs (by have := HZ.out; omega)) (fun c s A C h _ _ => h)
    ⟨Nat.zero_le _, ⟨#[], 0, HG0.out, fun _ => none, MapT.nil, fun s => ⟨fun y h => by simp [findB] at h, fun _ => rfl⟩⟩, .refl _ _⟩
    (fun q a' W => a'.defers = [] ∧ ∃ g s k n ts tt TA m c, q.2 = .agg #[.string s, .int .i8 k, .int .i64 n, .string ts, .string tt, .slice TA m c] ∧ a'.tmps = #[.slice A l.length cap, undef, .map none, .pointer (some ⟨w.heap.size + 1, 0, none⟩), undef, .pointer (some ⟨g, 0, none⟩), .map (some w.heap.size), .slice A l.length cap, .func (.func 250) #[] #[.pointer (some ⟨w.heap.size + 2, 0, none⟩)], .int .i64 q.1, q.2, undef, undef, undef, undef, undef, undef] ∧ W.heap[g]? = some (.cells #[.string s, .int .i8 k, .int .i64 n, .string ts, .string tt, .slice TA m c] 65 (0, 0)))
    (fun q a' X Y h hs => ⟨h.1, by obtain ⟨g, s, k, n, ts, tt, TA, m, c, e1, e2, hg⟩ := h.2; exact ⟨g, s, k, n, ts, tt, TA, m, c, e1, e2, hs.same _ _ hg (.inl rfl)⟩⟩) ?assign ?body ?done ?stop (by decide)
  case assign =>
    rintro l' pre ⟨qi, qv⟩ W K hi hE hz hK
    obtain ⟨r, b, k, n, ts, tt, TA, m, c, h1, h2, h3, h4, h5⟩ := hE
    dsimp only at h2 h4
    subst h2 h4
    have HK := Lib.hid hK
    simp only [encB]
    clear hK hi h1 h3 h5
    gi_wp2_with fail
    exact HK.out _ _ ((Below.refl _ _).alloc (Nat.le_refl _) _) ⟨rfl, _, _, _, _, _, _, _, _, _, rfl, rfl, block_alloc _ _⟩
  case body =>
    rintro l' pre ⟨qi, qv⟩ ⟨tm, df⟩ W hi ⟨r, b, k, n, ts, tt, TA, m, c, h1, h2, h3, h4, h5⟩ ⟨hdf, g, s, k', n', ts', tt', TA', m', c', h6, htm, hg⟩ hz ⟨rr, hrr⟩ ⟨dd, hdd⟩
    dsimp only at h2 h4 h6 hdf htm
    rw [h4] at h6
    simp only [Value.agg.injEq, Array.mk.injEq, List.cons.injEq, Value.string.injEq, Value.int.injEq, Value.slice.injEq, and_true, true_and] at h6
    obtain ⟨rfl, rfl, rfl, rfl, rfl, rfl, rfl, rfl⟩ := h6
    subst hdf htm h4 h2
    obtain ⟨es, cc, hm, f, hT, hF⟩ := hi.map
    have hbx := (hi.mod.block _ (heap_lt HG1.out) (by omega)).trans HG1.out
    have c1 : W.cell? ⟨w.heap.size + 1, 0, none⟩ = some (.map (some w.heap.size)) := cell_of_row (i := 0) hbx rfl
    have q0 : W.cell? ⟨g, 0, none⟩ = some (.string b.1) := cell_of_row (i := 0) hg rfl
    have q1 : W.cell? ⟨g, 1, none⟩ = some (.int .i8 k) := cell_of_row (i := 1) hg rfl
    have q2 : W.cell? ⟨g, 2, none⟩ = some (.int .i64 n) := cell_of_row (i := 2) hg rfl
    have q3 : W.cell? ⟨g, 3, none⟩ = some (.string ts) := cell_of_row (i := 3) hg rfl
    have q4 : W.cell? ⟨g, 4, none⟩ = some (.string tt) := cell_of_row (i := 4) hg rfl
    have q5 : W.cell? ⟨g, 5, none⟩ = some (.slice TA m c) := cell_of_row (i := 5) hg rfl
    obtain ⟨es2, c2, hput, hT2⟩ := hT.put (t := 190) Tryz.underlying190 Tryz.underlying9 W w.heap.size cc hm b.1 (.agg #[.int .i8 k, .int .i64 n, .string ts, .string tt, .slice TA m c])
    have hdrop : l.drop (l.length - (pre.length + 1)) = b :: l.drop (l.length - pre.length) := by
      have e1 : l.length - (pre.length + 1) = r := by omega
      have e2 : l.length - pre.length = r + 1 := by omega
      obtain ⟨g1, g2⟩ := List.getElem?_eq_some_iff.1 h3
      rw [e1, e2, ← g2]
      exact List.drop_eq_getElem_cons g1
    have HI := Lib.hid hi
    have HM := Lib.hid hm
    have HT2 := Lib.hid hT2
    have HF := Lib.hid hF
    have HD := Lib.hid hdrop
    have H5 := Lib.hid h5
    have H1 := Lib.hid h1
    have HRR := Lib.hid hrr
    have HDD := Lib.hid hdd
    clear hi hm hT hT2 hF hdrop h5 h1 h3 hrr hdd hbx hg
    gi_wp2_with fail
    have m5 : Mod (fun k => k = w.heap.size) W (W.putObj w.heap.size (.map es2 c2)) := Mod.putObj W _ _ rfl
    have hz3 := HZ.out
    have e2 : ∀ (k : Nat) (o : Obj), W.heap[k]? = some o → k ≠ w.heap.size → (W.putObj w.heap.size (.map es2 c2)).heap[k]? = some o := fun k o h hk => (m5.block k (heap_lt h) hk).trans h
    refine ⟨⟨m5.size, m5.block _ (by omega) (by omega), m5.block _ (by omega) (by omega)⟩, ⟨m5.size, fun k hk hn9 => m5.block k (by omega) (by have := HN1.out; omega), fun k c t z hk => e2 k _ hk (fun e => by rw [e, HM.out] at hk; cases hk)⟩, ⟨by rw [List.length_append, List.length_singleton]; have := H1.out; omega, ⟨es2, c2, World.putObj_heap_same (heap_lt HM.out), _, HT2.out, fun s => ?_⟩, HI.out.mod.trans m5 (fun _ _ h => h)⟩⟩
    rw [List.length_append, List.length_singleton, HD.out]
    simp only [findB]
    by_cases e9 : b.1 = s
    · rw [if_pos e9, if_pos e9.symm]
      exact ⟨fun y hy => by cases hy; exact ⟨_, _, _, _, _, _, _, rfl, H5.out.keep (fun q hq => (HB3.out.block q (Nat.lt_of_lt_of_le hq HN0.out)).symm) (fun _ h => h)⟩, fun h => by cases h⟩
    · rw [if_neg e9, if_neg (Ne.symm e9)]
      exact HF.out s
  case done =>
    rintro xs W hxs hi hd
    have hbx := (hi.mod.block _ (heap_lt HG1.out) (by omega)).trans HG1.out
    have c1 : W.cell? ⟨w.heap.size + 1, 0, none⟩ = some (.map (some w.heap.size)) := cell_of_row (i := 0) hbx rfl
    have HI := Lib.hid hi
    have HXS := Lib.hid hxs
    have HD := Lib.hid hd
    clear hi hxs hbx hd
    gi_wp2
    refine ⟨by simp, .inl ⟨_, _, rfl, run_takeDeferred HD.out, ?_⟩⟩
    have hs := Soft.put0 (o' := .deferred none) HD.out rfl
    have hi2 := HI.out.soft hs (by have := HZ.out; omega)
    obtain ⟨es, cc, hm, hM⟩ := hi2.map
    rw [HXS.out, Nat.sub_self, List.drop_zero] at hM
    refine ⟨.map (some w.heap.size), by simp [results, Tryz.f169, go_sem], rfl, HB3.out.trans (hi2.mod.below (by have := HZ.out; omega) (fun k e => by omega)), es, cc, hm, hM⟩
  case stop =>
    rintro c pre W - h
    exact h.elim
theorem firsts_any (n0 : Nat) (l : List Bd) (A : Option Addr) (cap : Nat) (w : World) (hR : BRow (· < n0) w A l.length cap l) (hn0 : n0 ≤ w.heap.size) :
    Calls Tryz.prog 169 #[.slice A l.length cap] w fun e w' => e = .returned (.map (some w.heap.size)) ∧ Below w.heap.size w w' ∧ ∃ es c, w'.heap[w.heap.size]? = some (.map es c) ∧ MapB n0 w es l :=
  firsts_in n0 n0 l A cap w hR.brt hn0
end Go.Proofs.YthbiaaeoajmlbaaGreatDoor
end
section
set_option linter.unusedVariables false
namespace Go.Proofs.YthbiaaeoajmlbaaGreatDoor
open Go.RowKit

theorem append_where {P : Program} (w : World) (base : Nat) (t ty e : TypeId) (i : TypeInfo) (z : Value) (size bytes : Nat) (ht : P.underlying t = some (.slice e)) (hi : P.info? e = some i) (hz : i.zero = some z)
    (hsize : i.size = size) (hby : i.bytes = bytes) (hsz : 0 < size)
    (v : Value) (n : Nat) (xs : List Value) (hown : w.ownsRow base e size v n xs)
    (a : Addr) (m c : Nat) (news : List Value) (hm : 0 < m) (hl : news.length = m * size) (hnews : ∀ j u, news[j]? = some u → w.cell? (a.add j) = some u) (h1 : ∀ u ∈ news, u.oneCell' = true)
    (h63 : n + m ≤ maxLen) (hbytes : (n + m) * bytes ≤ 140737488355328) {v' : Value} {w' : World} (hr : (Builtin.append_ #[t, t] ty #[v, .slice (some a) m c]).run P w = .ok v' w') :
    ∃ g' cap', v' = .slice (some ⟨g', 0, none⟩) (n + m) cap' ∧ (v.ownBlock = some g' ∨ g' = w.heap.size) := by
  subst hsize
  subst hby
  have h64 : n + m ≤ 9223372036854775807 := by simp only [maxLen] at h63; omega
  rcases hown.2 with ⟨rfl, rfl⟩ | ⟨g, cap, cur, rfl, hbg, hg, hnc, hcm, hcs, htake⟩
  · have h := run_append_nil (P := P) w t ty e i z ht hi hz a m c news hl hnews hm (by omega) (by simp only [Nat.zero_add] at hbytes; omega)
    rw [h] at hr
    cases hr
    exact ⟨_, _, by rw [Nat.zero_add], .inr rfl⟩
  · by_cases hroom : n + m ≤ cap
    · have hfit : n * i.size + news.length ≤ cur.size := by rw [hl, hcs, ← Nat.add_mul]; exact Nat.mul_le_mul_right _ hroom
      have h := run_append_room (P := P) w t ty e i ht hi g n cap cur hg a m c news hl hnews h1 hroom hfit
      rw [h] at hr
      cases hr
      exact ⟨_, _, rfl, .inl rfl⟩
    · have holds : ∀ j u, xs[j]? = some u → w.cell? ((⟨g, 0, none⟩ : Addr).add j) = some u := hown.cells (g := g) rfl
      have h := run_append_grow (P := P) w t ty e i z ht hi hz ⟨g, 0, none⟩ n cap xs hown.1 holds a m c news hl hnews (by omega) (by omega) (growslice_fits (by omega) hbytes)
      rw [h] at hr
      cases hr
      exact ⟨_, _, rfl, .inr rfl⟩

theorem wpList_append_at {P : Program} (w : World) {ops : Array Oper} {rest : List Oper} {o : Oper} {a : Act} {Q : Exit → Act → World → Prop} (hgd : o.guard = none) (s x : Operand) (t : TypeId)
    (ho : o.op = .call { callee := .builtin .append, args := #[s, x], argTypes := #[t, t] })
    (base : Nat) (e : TypeId) (i : TypeInfo) (z : Value) (size bytes : Nat) (ht : P.underlying t = some (.slice e)) (hi : P.info? e = some i) (hz : i.zero = some z)
    (hsize : i.size = size) (hby : i.bytes = bytes) (hzs : z.cells.size = size) (hsz : 0 < size)
    (v : Value) (n : Nat) (xs : List Value) (hs : a.eval s = v) (hown : w.ownsRow base e size v n xs)
    (ad : Addr) (m c : Nat) (news : List Value) (hx : a.eval x = .slice (some ad) m c) (hm : 0 < m) (hl : news.length = m * size) (hnews : ∀ j u, news[j]? = some u → w.cell? (ad.add j) = some u) (h1 : ∀ u ∈ news, u.oneCell' = true)
    (h63 : n + m ≤ maxLen) (hbytes : (n + m) * bytes ≤ 140737488355328) (hbase : base ≤ w.heap.size)
    (h : ∀ g' cap' w', w'.ownsRow base e size (.slice (some ⟨g', 0, none⟩) (n + m) cap') (n + m) (xs ++ news) → w.grownBy w' v.ownBlock → (v.ownBlock = some g' ∨ g' = w.heap.size) → wpList P ops Q rest (a.put o.dst (.slice (some ⟨g', 0, none⟩) (n + m) cap')) w') : wpList P ops Q (o :: rest) a w :=
  wpList_plain hgd fun _ hK => by
    obtain ⟨v', w', hr, h2, h3, h4⟩ := run_append_own (P := P) w base t o.type e i z size bytes ht hi hz hsize hby hzs hsz v n xs hown ad m c news hl hnews h1 h63 hbytes hbase
    obtain ⟨g', cap', rfl, hw⟩ := append_where (P := P) w base t o.type e i z size bytes ht hi hz hsize hby hsz v n xs hown ad m c news hm hl hnews h1 h63 hbytes hr
    unfold Oper.wp execOp
    simp only [ho, resolve, invoke, builtin, Sem.run_bind, Sem.run_pure, Result.andThen_ok, List.map_toArray, List.map_cons, List.map_nil, hs, hx, hr]
    exact hK _ _ (h g' cap' w' h2 h3 hw)
end Go.Proofs.YthbiaaeoajmlbaaGreatDoor
end
