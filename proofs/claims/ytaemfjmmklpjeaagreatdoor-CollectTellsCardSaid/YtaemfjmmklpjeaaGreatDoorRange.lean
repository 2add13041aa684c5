/- A range over a function whose iterator keeps a state of its own in cells: what it promises (SeqC), and the law of the statement. What the iterator may turn lies at or above the end of the heap at its call; what a round may turn lies below that end. -/
import Derived.Test.YtaemfjmmklpjeaaGreatDoorMod
import Derived.RangeFuncNested
import Derived.RangeFuncLeaves
import Derived.RangeFuncCalls
set_option linter.unusedVariables false
namespace Go.Proofs.YtaemfjmmklpjeaaGreatDoor
open Go.RowKit

theorem Mod.put {F : Nat → Prop} (w : World) (l : Nat) (o : Obj) (hl : F l) : Mod F w (w.putObj l o) := Mod.putObj w l o hl
def SeqC {α : Type} (n : Nat) (P : Program) (g : Nat) (lb : Array Value) (encs : α → Array Value) (n₀ : Nat) (E : α → Prop) (S Sp : List α → Prop) (N : Nat) (w : World) : Prop :=
  ∀ (l : Nat) (J Jx : List α → World → Prop) (W : World), Below w.heap.size w W →
    (∀ s A B, J s A → Mod (fun k => W.heap.size ≤ k) A B → J s B) → (∀ s A B, Jx s A → Mod (fun k => W.heap.size ≤ k) A B → Jx s B) →
    (∀ pre x W1, J pre W1 → E x → pre.length < N → YieldAt Fence.wide (n - 1) P l (encs x) W1 fun e W' =>
      (e = .returned (.bool true) ∧ J (pre ++ [x]) W' ∧ Mod (fun k => n₀ ≤ k ∧ k < W.heap.size) W1 W') ∨ (e = .returned (.bool false) ∧ Jx (pre ++ [x]) W')) →
    J [] W →
    CallsIn Fence.wide n P g (#[.func (.yield l) #[] #[]] ++ lb) W fun e W' => (∃ v, e = .returned v) ∧ ((∃ xs, S xs ∧ J xs W') ∨ (∃ pre, Sp pre ∧ Jx pre W'))

def roundEnd {α : Type} (n₀ B : Nat) (I : List α → World → Prop) (Ix : Code → List α → World → Prop) (xs : List α) (W : World) : Exit → Act → World → Prop
  | .normal, _, W' => Mod (fun k => n₀ ≤ k ∧ k < B) W W' ∧ I xs W'
  | .ret, _, W' => Mod (fun k => n₀ ≤ k ∧ k < B) W W' ∧ Ix .ret xs W'
  | .exit id, _, W' => Mod (fun k => n₀ ≤ k ∧ k < B) W W' ∧ Ix (.exit id) xs W'
  | .goto t, _, W' => Mod (fun k => n₀ ≤ k ∧ k < B) W W' ∧ Ix (.goto t) xs W'
  | .panic _, _, _ => False
  | .outgrown, _, _ => False

theorem range_cells {α : Type} {n : Nat} {P : Program} {w : World} {g : Operand} {ps : Array Tmp} {assign body : Code} {Q : Exit → Act → World → Prop} {a : Act}
    {gf : Nat} {lb : Array Value} (hg : a.eval g = .func (.func gf) #[] lb) (eg : ∀ args w, (callFunc gf args).run P w = .ok (.enter gf args) w)
    {encs : α → Array Value} (hps : ∀ x, (encs x).size = ps.size) {n₀ : Nat} {E : α → Prop} {S Sp : List α → Prop} {N : Nat} (hseq : SeqC (n - 1) P gf lb encs n₀ E S Sp N w) (hn₀ : n₀ ≤ w.heap.size)
    (I : List α → World → Prop) (Ix : Code → List α → World → Prop) (hI : ∀ s X Y, Below w.heap.size X Y → I s X → I s Y) (hIx : ∀ c s X Y, Below w.heap.size X Y → Ix c s X → Ix c s Y) (h0 : I [] w)
    (Ax : α → Act → World → Prop) (hAx : ∀ x a' X Y, Mod (fun k => k = w.heap.size + 1) X Y → Ax x a' X → Ax x a' Y)
    (hassign : ∀ (l : Nat) (pre : List α) (x : α) (W : World) (K : Act → World → Prop), I pre W → E x → w.heap.size + 2 ≤ W.heap.size → (∀ a' W', Below W.heap.size W W' → Ax x a' W' → K a' W') →
      assign.wpIn (Fence.wide.inRound l) (n - 1 - 1) P (Exit.then K (fun _ _ _ => False)) { tmps := (ps.zip (encs x)).foldl (fun t (p, v) => t.setIfInBounds p v) a.tmps, defers := [] } W)
    (hbody : ∀ (l : Nat) (pre : List α) (x : α) (a' : Act) (W : World), I pre W → E x → Ax x a' W → pre.length < N → w.heap.size + 2 ≤ W.heap.size → body.wpIn (Fence.wide.inRound l) (n - 1 - 1) P (roundEnd n₀ w.heap.size I Ix (pre ++ [x]) W) a' W)
    (hdone : ∀ (xs : List α) (W : World), S xs → I xs W → W.heap[w.heap.size]? = some (.deferred (some [])) → Q .normal { a with defers := { target := .collected w.heap.size, args := #[] } :: a.defers } W)
    (hstop : ∀ (c : Code) (pre : List α) (W : World), Sp pre → Ix c pre W → W.heap[w.heap.size]? = some (.deferred (some [])) → c.wpIn Fence.wide n P Q { a with defers := { target := .collected w.heap.size, args := #[] } :: a.defers } W)
    (h1 : 1 ≤ n) : (Code.rangeFunc g ps assign body).wpIn Fence.wide n P Q a w := by
  obtain ⟨B, hB⟩ : ∃ B, B = w.heap.size := ⟨_, rfl⟩
  refine wpIn_rangeFunc fun fn hfn => ?_
  -- the record, in each of its states
  let rec_ (st : LoopState) (pe : Option Code) : Loop := { state := st, pending := pe, fn, tmps := a.tmps, params := ps, assign, body, defers := w.heap.size }
  obtain ⟨W1, hW1⟩ : ∃ W1, W1 = (w.alloc (.deferred (some []))).alloc (.loop (rec_ .ready none)) := ⟨_, rfl⟩
  have hsz : W1.heap.size = B + 2 := by rw [hW1, hB]; simp
  have hrec : W1.heap[B + 1]? = some (.loop (rec_ .ready none)) := by
    have := World.alloc_heap_new (w.alloc (.deferred (some []))) (.loop (rec_ .ready none))
    rw [World.size_alloc] at this; rw [hW1, hB]; exact this
  have hdef : W1.heap[B]? = some (.deferred (some [])) := by
    rw [hW1, hB]; exact (Below.heap_alloc _ _ _ (by simp)).trans (World.alloc_heap_new w _)
  have hwW : Below w.heap.size w W1 := by rw [hW1]; exact ((Below.refl _ w).alloc (Nat.le_refl _) _).alloc (by simp) _
  -- what a step at or above B leaves of the invariant and of the two blocks
  have up : ∀ {X Y : World} {F : Nat → Prop}, Mod F X Y → (∀ k, F k → B ≤ k) → B ≤ X.heap.size → Below w.heap.size X Y := fun h hF hX => by rw [← hB]; exact h.below hX hF
  have keep : ∀ {X Y : World} {F : Nat → Prop} {k : Nat} {o : Obj}, Mod F X Y → ¬ F k → X.heap[k]? = some o → Y.heap[k]? = some o := fun h hF hk => (h.block _ (heap_lt hk) hF).trans hk
  have putB : ∀ (X : World) (o : Obj), Mod (fun k => k = B + 1) X (X.putObj (B + 1) o) := fun X o => Mod.put X _ o rfl
  have getB : ∀ (X : World) (o : Obj), B + 1 < X.heap.size → (X.putObj (B + 1) o).heap[B + 1]? = some o := fun X o h => World.putObj_heap_same h
  have in1 : ∀ k, k = B + 1 → n₀ ≤ k ∧ k < W1.heap.size := fun k e => by omega
  have in2 : ∀ k, n₀ ≤ k ∧ k < w.heap.size → n₀ ≤ k ∧ k < W1.heap.size := fun k e => by omega
  refine ⟨B + 1, [{ target := .collected w.heap.size, args := #[] }], W1, { target := .fn (.func gf) lb, args := #[.func (.yield (B + 1)) #[] #[]] }, W1, gf, #[.func (.yield (B + 1)) #[] #[]] ++ lb, W1, ?_, ?_, fun _ _ => trivial, ?_, fun _ => h1, ?_⟩
  · rw [hB, hW1]; exact run_enterLoop_outer _ _ _ _ _
  · simp only [resolve, hg]; simp [go_sem]
  · simp [invoke, go_sem, eg]
  refine (hseq (B + 1) (fun pre W => I pre W ∧ W.heap[B + 1]? = some (.loop (rec_ .ready none)) ∧ W.heap[B]? = some (.deferred (some [])))
    (fun pre W => ∃ c, Ix c pre W ∧ W.heap[B + 1]? = some (.loop (rec_ .done (some c))) ∧ W.heap[B]? = some (.deferred (some []))) W1 hwW ?_ ?_ ?_ ⟨hI _ _ _ hwW h0, hrec, hdef⟩).mono ?_
  · rintro s X Y ⟨i, r, d⟩ hm
    exact ⟨hI _ _ _ (up hm (fun k hk => by omega) (by have := heap_lt d; omega)) i, keep hm (by omega) r, keep hm (by omega) d⟩
  · rintro s X Y ⟨c, i, r, d⟩ hm
    exact ⟨c, hIx _ _ _ _ (up hm (fun k hk => by omega) (by have := heap_lt d; omega)) i, keep hm (by omega) r, keep hm (by omega) d⟩
  · rintro pre x W ⟨i, r, d⟩ hex hlen
    have hlt := heap_lt r
    refine ⟨fn, _, assign, body, run_yield (P := P) (args := encs x) r (hps x), roundIn_of_wpIn hfn (hassign _ pre x W _ i hex (by omega) ?_)⟩
    intro a' Wa hba hax
    have ia : I pre Wa := hI _ _ _ (hba.mono (by omega)) i
    have ra : Wa.heap[B + 1]? = some (.loop (rec_ .ready none)) := (hba.block _ hlt).trans r
    have da : Wa.heap[B]? = some (.deferred (some [])) := (hba.block _ (by omega)).trans d
    have hla := heap_lt ra
    refine ⟨_, run_beginRound ra rfl, ?_⟩
    have m1 := putB Wa (.loop { rec_ .ready none with state := .busy })
    have rb := getB Wa (.loop { rec_ .ready none with state := .busy }) hla
    have db : (Wa.putObj (B + 1) (.loop { rec_ .ready none with state := .busy })).heap[B]? = some (.deferred (some [])) := keep m1 (by omega) da
    refine wpIn_mono (hbody _ pre x a' _ (hI _ _ _ (up m1 (fun k (hk : k = B + 1) => by omega) (by omega)) ia) hex (hAx _ _ _ _ (by rw [← hB]; exact m1) hax) hlen (by rw [World.putObj_size]; omega)) ?_
    have m0 : Mod (fun k => n₀ ≤ k ∧ k < W1.heap.size) W (Wa.putObj (B + 1) (.loop { rec_ .ready none with state := .busy })) :=
      (Mod.of_below hba).trans (m1.mono (fun k _ e => in1 k e)) (fun _ _ h => h)
    have fin : ∀ (jump : Option Code) (W3 : World), Mod (fun k => n₀ ≤ k ∧ k < w.heap.size) (Wa.putObj (B + 1) (.loop { rec_ .ready none with state := .busy })) W3 →
        (Instr.endRound (B + 1) jump).run P W3 = .ok (.bool jump.isNone) (W3.putObj (B + 1) (.loop (rec_ (if jump.isNone then .ready else .done) jump))) ∧
        (W3.putObj (B + 1) (.loop (rec_ (if jump.isNone then .ready else .done) jump))).heap[B + 1]? = some (.loop (rec_ (if jump.isNone then .ready else .done) jump)) ∧
        (W3.putObj (B + 1) (.loop (rec_ (if jump.isNone then .ready else .done) jump))).heap[B]? = some (.deferred (some [])) ∧
        Below w.heap.size W3 (W3.putObj (B + 1) (.loop (rec_ (if jump.isNone then .ready else .done) jump))) ∧
        Mod (fun k => n₀ ≤ k ∧ k < W1.heap.size) W (W3.putObj (B + 1) (.loop (rec_ (if jump.isNone then .ready else .done) jump))) := fun jump W3 hm3 => by
      have r3 := keep hm3 (k := B + 1) (by omega) rb
      have d3 := keep hm3 (k := B) (by omega) db
      have hl3 := heap_lt r3
      exact ⟨run_endRound (P := P) jump r3, getB _ _ hl3, keep (putB _ _) (by omega) d3, up (putB _ _) (fun k hk => by omega) (by omega),
        m0.trans ((hm3.mono (fun k _ e => in2 k e)).trans ((putB W3 _).mono (fun k _ e => in1 k e)) (fun _ _ h => h)) (fun _ _ h => h)⟩
    rintro e a3 W3 hp
    cases e with
    | normal =>
      obtain ⟨hm3, i3⟩ := hp
      obtain ⟨hr, r4, d4, b4, m4⟩ := fin none W3 hm3
      exact ⟨_, _, hr, .inl ⟨rfl, ⟨hI _ _ _ b4 i3, r4, d4⟩, m4⟩⟩
    | ret =>
      obtain ⟨hm3, i3⟩ := hp
      obtain ⟨hr, r4, d4, b4, m4⟩ := fin (some .ret) W3 hm3
      exact ⟨_, _, hr, .inr ⟨rfl, .ret, hIx _ _ _ _ b4 i3, r4, d4⟩⟩
    | exit id =>
      obtain ⟨hm3, i3⟩ := hp
      obtain ⟨hr, r4, d4, b4, m4⟩ := fin (some (.exit id)) W3 hm3
      exact ⟨_, _, hr, .inr ⟨rfl, .exit id, hIx _ _ _ _ b4 i3, r4, d4⟩⟩
    | goto t =>
      obtain ⟨hm3, i3⟩ := hp
      obtain ⟨hr, r4, d4, b4, m4⟩ := fin (some (.goto t)) W3 hm3
      exact ⟨_, _, hr, .inr ⟨rfl, .goto t, hIx _ _ _ _ b4 i3, r4, d4⟩⟩
    | panic ch => exact hp.elim
    | outgrown => exact hp.elim
  · rintro e W2 ⟨⟨v, rfl⟩, (⟨xs, hS, i, r, d⟩ | ⟨pre, hSp, c, i, r, d⟩)⟩
    · have h := run_endLoop (P := P) r (by simp [rec_])
      exact ⟨none, _, h, hdone xs _ hS (hI _ _ _ (up (putB _ _) (fun k hk => by omega) (by have := heap_lt d; omega)) i) (by rw [← hB]; exact keep (putB _ _) (by omega) d)⟩
    · have h := run_endLoop (P := P) r (by simp [rec_])
      exact ⟨some c, _, h, hstop c pre _ hSp (hIx _ _ _ _ (up (putB _ _) (fun k hk => by omega) (by have := heap_lt d; omega)) i) (by rw [← hB]; exact keep (putB _ _) (by omega) d)⟩
end Go.Proofs.YtaemfjmmklpjeaaGreatDoor
