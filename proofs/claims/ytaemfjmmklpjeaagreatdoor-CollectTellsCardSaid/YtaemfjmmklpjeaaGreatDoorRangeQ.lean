/- (Out of XRangeO.) As there, but what is handed to a round is told of its world and of where the loop began, the invariant begins behind the loop's record, and what rounds leave be is any set Lo of blocks. A range over a function whose iterator keeps a state in cells of its own, and whose rounds turn blocks made behind the iterator's beginning (rows that grow): 'Own k A': block k is the iterator's at A; rounds leave those be, the iterator turns no other. -/
import Derived.Test.YtaemfjmmklpjeaaGreatDoorMod
import Derived.Test.YtaemfjmmklpjeaaGreatDoorRange
import Derived.Test.YtaemfjmmklpjeaaGreatDoorRangeO
set_option linter.unusedVariables false
namespace Go.Proofs.YtaemfjmmklpjeaaGreatDoor
open Go.RowKit

structure KQ (Own : Nat → World → Prop) (Lo : Nat → Prop) (A B : World) : Prop where
  size : A.heap.size ≤ B.heap.size
  low : ∀ k, Lo k → B.heap[k]? = A.heap[k]?
  own : ∀ k, Own k A → B.heap[k]? = A.heap[k]? ∧ Own k B
theorem KQ.trans {Own : Nat → World → Prop} {Lo : Nat → Prop} {A B C : World} (h : KQ Own Lo A B) (g : KQ Own Lo B C) : KQ Own Lo A C :=
  ⟨Nat.le_trans h.size g.size, fun k hk => (g.low k hk).trans (h.low k hk), fun k hk => ⟨(g.own k (h.own k hk).2).1.trans (h.own k hk).1, (g.own k (h.own k hk).2).2⟩⟩
structure KC (Own : Nat → World → Prop) (Lo : Nat → Prop) (B : Nat) (A C : World) : Prop where
  ko : KQ Own Lo A C
  loop_ : C.heap[B + 1]? = A.heap[B + 1]?
  dfr : C.heap[B]? = A.heap[B]?
theorem kc_at {Own : Nat → World → Prop} {Lo : Nat → Prop} {B C : Nat} {X Y : World} (e : B = C) (h : KC Own Lo C X Y) : KC Own Lo B X Y := by subst e; exact h

def SeqQ {α : Type} (n : Nat) (P : Program) (g : Nat) (lb : Array Value) (encs : α → Array Value) (Lo : Nat → Prop) (E : Nat → α → World → Prop) (S Sp : List α → Prop) (w : World) : Prop :=
  ∀ (Own : Nat → World → Prop) (l : Nat) (J Jx : List α → World → Prop) (W : World), Below w.heap.size w W →
    (∀ k A, Own k A → k < A.heap.size ∧ W.heap.size ≤ k) → (∀ k A B F, Own k A → Mod F A B → (∀ j, j < A.heap.size → F j → Own j A) → Own k B) →
    (∀ s A o, J s A → W.heap.size ≤ A.heap.size → Own A.heap.size (A.alloc o)) →
    (∀ s A B F, J s A → Mod F A B → (∀ j, j < A.heap.size → F j → Own j A) → J s B) →
    (∀ pre x W1, J pre W1 → E W.heap.size x W1 → Sp (pre ++ [x]) → YieldAt Fence.wide (n - 1) P l (encs x) W1 fun e W' =>
      (e = .returned (.bool true) ∧ J (pre ++ [x]) W' ∧ KQ Own Lo W1 W') ∨ (e = .returned (.bool false) ∧ Jx (pre ++ [x]) W' ∧ KQ Own Lo W1 W')) →
    (∀ s A B F, Jx s A → Mod F A B → (∀ j, j < A.heap.size → F j → Own j A) → Jx s B) →
    J [] W →
    CallsIn Fence.wide n P g (#[.func (.yield l) #[] #[]] ++ lb) W fun e W' => (∃ v, e = .returned v) ∧ ((∃ xs, S xs ∧ J xs W') ∨ (∃ pre, Sp pre ∧ Jx pre W'))

theorem range_q {α : Type} {n : Nat} {P : Program} {w : World} {g : Operand} {ps : Array Tmp} {assign body : Code} {Q : Exit → Act → World → Prop} {a : Act}
    {gf : Nat} {lb : Array Value} (hg : a.eval g = .func (.func gf) #[] lb) (eg : ∀ args w, (callFunc gf args).run P w = .ok (.enter gf args) w)
    {encs : α → Array Value} (hps : ∀ x, (encs x).size = ps.size) {Lo : Nat → Prop} {E : Nat → α → World → Prop} {S Sp : List α → Prop} (hseq : SeqQ (n - 1) P gf lb encs Lo E S Sp w) (hLo : ∀ k, Lo k → k < w.heap.size)
    (Own : Nat → World → Prop) (hO : ∀ k A, Own k A → k < A.heap.size ∧ w.heap.size + 2 ≤ k)
    (hOs : ∀ k A B F, w.heap.size ≤ A.heap.size → Own k A → Mod F A B → (∀ j, j < A.heap.size → F j → Own j A ∨ j = w.heap.size ∨ j = w.heap.size + 1) → Own k B)
    (I : List α → World → Prop) (Ix : Code → List α → World → Prop) (hOn : ∀ s A o, I s A → w.heap.size + 2 ≤ A.heap.size → Own A.heap.size (A.alloc o))
    (hI : ∀ s A B F, w.heap.size ≤ A.heap.size → I s A → Mod F A B → (∀ j, j < A.heap.size → F j → Own j A ∨ j = w.heap.size ∨ j = w.heap.size + 1) → I s B)
    (hIx : ∀ c s A B F, w.heap.size ≤ A.heap.size → Ix c s A → Mod F A B → (∀ j, j < A.heap.size → F j → Own j A ∨ j = w.heap.size ∨ j = w.heap.size + 1) → Ix c s B) (h0 : ∀ d r, I [] ((w.alloc d).alloc r)) (hE : ∀ x X Y, Mod (fun k => k = w.heap.size + 1) X Y → E (w.heap.size + 2) x X → E (w.heap.size + 2) x Y)
    (Ax : α → Act → World → Prop) (hAx : ∀ x a' X Y, Mod (fun k => k = w.heap.size + 1) X Y → Ax x a' X → Ax x a' Y)
    (hassign : ∀ (l : Nat) (pre : List α) (x : α) (W : World) (K : Act → World → Prop), I pre W → E (w.heap.size + 2) x W → w.heap.size + 2 ≤ W.heap.size → (∀ a' W', Below W.heap.size W W' → Ax x a' W' → K a' W') →
      assign.wpIn (Fence.wide.inRound l) (n - 1 - 1) P (Exit.then K (fun _ _ _ => False)) { tmps := (ps.zip (encs x)).foldl (fun t (p, v) => t.setIfInBounds p v) a.tmps, defers := [] } W)
    (hbody : ∀ (l : Nat) (pre : List α) (x : α) (a' : Act) (W : World), I pre W → E (w.heap.size + 2) x W → Ax x a' W → Sp (pre ++ [x]) → w.heap.size + 2 ≤ W.heap.size → (∀ k, Lo k → W.heap[k]? = w.heap[k]?) → body.wpIn (Fence.wide.inRound l) (n - 1 - 1) P (roundO (KC Own Lo w.heap.size) I Ix (pre ++ [x]) W) a' W)
    (hdone : ∀ (xs : List α) (W : World), S xs → I xs W → W.heap[w.heap.size]? = some (.deferred (some [])) → Q .normal { a with defers := { target := .collected w.heap.size, args := #[] } :: a.defers } W)
    (hstop : ∀ (c : Code) (pre : List α) (W : World), Sp pre → Ix c pre W → W.heap[w.heap.size]? = some (.deferred (some [])) → c.wpIn Fence.wide n P Q { a with defers := { target := .collected w.heap.size, args := #[] } :: a.defers } W)
    : (Code.rangeFunc g ps assign body).wpIn Fence.wide n P Q a w := by
  obtain ⟨B, hB⟩ : ∃ B, B = w.heap.size := ⟨_, rfl⟩
  refine wpIn_rangeFunc fun fn hfn => ?_
  -- the record, in each of its states
  let rec_ (st : LoopState) (pe : Option Code) : Loop := { state := st, pending := pe, fn, tmps := a.tmps, params := ps, assign, body, defers := w.heap.size }
  obtain ⟨W1, hW1⟩ : ∃ W1, W1 = (w.alloc (.deferred (some []))).alloc (.loop (rec_ .ready none)) := ⟨_, rfl⟩
  have hsz : W1.heap.size = B + 2 := by rw [hW1, hB]; simp
  have hrec : W1.heap[B + 1]? = some (.loop (rec_ .ready none)) := by
    have := World.alloc_heap_new (w.alloc (.deferred (some []))) (.loop (rec_ .ready none))
    rw [World.size_alloc] at this; rw [hW1, hB]; exact this
  have hdef : W1.heap[B]? = some (.deferred (some [])) := by
    rw [hW1, hB]; exact (Below.heap_alloc _ _ _ (by simp)).trans (World.alloc_heap_new w _)
  have hwW : Below w.heap.size w W1 := by rw [hW1]; exact ((Below.refl _ w).alloc (Nat.le_refl _) _).alloc (by simp) _
  have keep : ∀ {X Y : World} {F : Nat → Prop} {k : Nat} {o : Obj}, Mod F X Y → ¬ F k → X.heap[k]? = some o → Y.heap[k]? = some o := fun h hF hk => (h.block _ (heap_lt hk) hF).trans hk
  have putB : ∀ (X : World) (o : Obj), Mod (fun k => k = B + 1) X (X.putObj (B + 1) o) := fun X o => Mod.put X _ o rfl
  have getB : ∀ (X : World) (o : Obj), B + 1 < X.heap.size → (X.putObj (B + 1) o).heap[B + 1]? = some o := fun X o h => World.putObj_heap_same h
  have fB : ∀ {X : World} {j : Nat}, j = B + 1 → Own j X ∨ j = w.heap.size ∨ j = w.heap.size + 1 := fun e => .inr (.inr (by rw [e, hB]))
  have oB : ∀ {X : World}, ¬ Own (B + 1) X ∧ ¬ Own B X := ⟨fun h => by have := (hO _ _ h).2; omega, fun h => by have := (hO _ _ h).2; omega⟩
  refine ⟨B + 1, [{ target := .collected w.heap.size, args := #[] }], W1, { target := .fn (.func gf) lb, args := #[.func (.yield (B + 1)) #[] #[]] }, W1, gf, #[.func (.yield (B + 1)) #[] #[]] ++ lb, W1, ?_, ?_, fun _ _ => trivial, ?_, (fun h => by cases h), ?_⟩
  · rw [hB, hW1]; exact run_enterLoop_outer _ _ _ _ _
  · simp only [resolve, hg]; simp [go_sem]
  · simp [invoke, go_sem, eg]
  have hmod1 : Mod (fun _ => False) w W1 := by rw [hW1]; exact (Mod.alloc _ _ _).trans (Mod.alloc _ _ _) (fun _ _ h => h)
  have hI1 : I [] W1 := by rw [hW1]; exact h0 _ _
  refine (hseq Own (B + 1) (fun pre W => I pre W ∧ W.heap[B + 1]? = some (.loop (rec_ .ready none)) ∧ W.heap[B]? = some (.deferred (some [])) ∧ (∀ k, Lo k → W.heap[k]? = w.heap[k]?))
    (fun pre W => ∃ c, Ix c pre W ∧ W.heap[B + 1]? = some (.loop (rec_ .done (some c))) ∧ W.heap[B]? = some (.deferred (some []))) W1 hwW ?_ ?_ ?_ ?_ ?_ ?_ ⟨hI1, hrec, hdef, fun k hk => hwW.block k (hLo k hk)⟩).mono ?_
  · intro k A h; have := hO k A h; omega
  · intro k A C F h hm hF
    have hsA : w.heap.size ≤ A.heap.size := by have := hO k A h; omega
    exact hOs k A C F hsA h hm (fun j hj hf => .inl (hF j hj hf))
  · rintro s A o ⟨i, r, d, -⟩ hs
    exact hOn s A o i (by omega)
  · rintro s A C F ⟨i, r, d, lo⟩ hm hF
    have hA := heap_lt r
    exact ⟨hI _ _ _ _ (by omega) i hm (fun j hj hf => .inl (hF j hj hf)), keep hm (fun hf => oB.1 (hF _ hA hf)) r, keep hm (fun hf => oB.2 (hF _ (by omega) hf)) d,
      fun k hk => (hm.block k (by have := hLo k hk; omega) (fun hf => by have h1 := hLo k hk; have := (hO _ _ (hF k (by omega) hf)).2; omega)).trans (lo k hk)⟩
  · rintro pre x W ⟨i, r, d, lo⟩ hex hlen
    rw [hsz, hB] at hex
    have hlt := heap_lt r
    refine ⟨fn, _, assign, body, run_yield (P := P) (args := encs x) r (hps x), roundIn_of_wpIn hfn (hassign _ pre x W _ i hex (by omega) ?_)⟩
    intro a' Wa hba hax
    have ma : Mod (fun _ => False) W Wa := Mod.of_below hba
    have ia : I pre Wa := hI _ _ _ _ (by omega) i ma (fun _ _ h => h.elim)
    have ra : Wa.heap[B + 1]? = some (.loop (rec_ .ready none)) := (hba.block _ hlt).trans r
    have da : Wa.heap[B]? = some (.deferred (some [])) := (hba.block _ (by omega)).trans d
    have hla := heap_lt ra
    have oa : ∀ k, Own k W → Wa.heap[k]? = W.heap[k]? ∧ Own k Wa := fun k hk => ⟨hba.block k (hO _ _ hk).1, hOs _ _ _ _ (by omega) hk ma (fun _ _ h => h.elim)⟩
    refine ⟨_, run_beginRound ra rfl, ?_⟩
    have m1 := putB Wa (.loop { rec_ .ready none with state := .busy })
    have rb := getB Wa (.loop { rec_ .ready none with state := .busy }) hla
    have db : (Wa.putObj (B + 1) (.loop { rec_ .ready none with state := .busy })).heap[B]? = some (.deferred (some [])) := keep m1 (by omega) da
    have ib := hI _ _ _ _ (by omega) ia m1 (fun j _ e => fB e)
    have ob : ∀ k, Own k Wa → (Wa.putObj (B + 1) (.loop { rec_ .ready none with state := .busy })).heap[k]? = Wa.heap[k]? ∧ Own k (Wa.putObj (B + 1) (.loop { rec_ .ready none with state := .busy })) := fun k hk =>
      ⟨m1.block k (hO _ _ hk).1 (fun e => by have := (hO _ _ hk).2; omega), hOs _ _ _ _ (by omega) hk m1 (fun j _ e => fB e)⟩
    have lob : ∀ k, Lo k → (Wa.putObj (B + 1) (.loop { rec_ .ready none with state := .busy })).heap[k]? = W.heap[k]? := fun k hk => (m1.block k (by have := hLo k hk; omega) (by have := hLo k hk; omega)).trans (hba.block k (by have := hLo k hk; omega))
    have sb : (Wa.putObj (B + 1) (.loop { rec_ .ready none with state := .busy })).heap.size = Wa.heap.size := World.putObj_size
    refine wpIn_mono (hbody _ pre x a' _ ib (hE _ _ _ (by rw [← hB]; exact m1) (hE _ _ _ (ma.mono (fun _ _ h => h.elim)) hex)) (hAx _ _ _ _ (by rw [← hB]; exact m1) hax) hlen (by rw [sb]; omega) (fun k hk => (lob k hk).trans (lo k hk))) ?_
    have fin : ∀ (jump : Option Code) (W3 : World), KC Own Lo B (Wa.putObj (B + 1) (.loop { rec_ .ready none with state := .busy })) W3 →
        (Instr.endRound (B + 1) jump).run P W3 = .ok (.bool jump.isNone) (W3.putObj (B + 1) (.loop (rec_ (if jump.isNone then .ready else .done) jump))) ∧
        (W3.putObj (B + 1) (.loop (rec_ (if jump.isNone then .ready else .done) jump))).heap[B + 1]? = some (.loop (rec_ (if jump.isNone then .ready else .done) jump)) ∧
        (W3.putObj (B + 1) (.loop (rec_ (if jump.isNone then .ready else .done) jump))).heap[B]? = some (.deferred (some [])) ∧
        KQ Own Lo W (W3.putObj (B + 1) (.loop (rec_ (if jump.isNone then .ready else .done) jump))) ∧ w.heap.size ≤ W3.heap.size := fun jump W3 hm3 => by
      have r3 : W3.heap[B + 1]? = _ := hm3.loop_.trans rb
      have d3 : W3.heap[B]? = _ := hm3.dfr.trans db
      have hl3 := heap_lt r3
      have m4 := putB W3 (.loop (rec_ (if jump.isNone then .ready else .done) jump))
      refine ⟨run_endRound (P := P) jump r3, getB _ _ hl3, keep m4 (by omega) d3, ⟨?_, fun k hk => ?_, fun k hk => ?_⟩, by omega⟩
      · rw [World.putObj_size]; have := hm3.ko.size; have := hba.size; omega
      · have hlk := hLo k hk
        exact (m4.block k (by omega) (by omega)).trans ((hm3.ko.low k hk).trans (lob k hk))
      · obtain ⟨e1, o1⟩ := oa k hk
        obtain ⟨e2, o2⟩ := ob k o1
        obtain ⟨e3, o3⟩ := hm3.ko.own k o2
        exact ⟨(m4.block k (hO _ _ o3).1 (fun e => by have := (hO _ _ o3).2; omega)).trans (e3.trans (e2.trans e1)), hOs _ _ _ _ (by omega) o3 m4 (fun j _ e => fB e)⟩
    rintro e a3 W3 hp
    cases e with
    | normal =>
      obtain ⟨hm3', i3⟩ := hp
      have hm3 := kc_at hB hm3'
      obtain ⟨hr, r4, d4, k4, s4⟩ := fin none W3 hm3
      exact ⟨_, _, hr, .inl ⟨rfl, ⟨hI _ _ _ _ s4 i3 (putB _ _) (fun j _ e => fB e), r4, d4, fun k hk => (k4.low k hk).trans (lo k hk)⟩, k4⟩⟩
    | ret =>
      obtain ⟨hm3', i3⟩ := hp
      have hm3 := kc_at hB hm3'
      obtain ⟨hr, r4, d4, k4, s4⟩ := fin (some .ret) W3 hm3
      exact ⟨_, _, hr, .inr ⟨rfl, ⟨.ret, hIx _ _ _ _ _ s4 i3 (putB _ _) (fun j _ e => fB e), r4, d4⟩, k4⟩⟩
    | exit id =>
      obtain ⟨hm3', i3⟩ := hp
      have hm3 := kc_at hB hm3'
      obtain ⟨hr, r4, d4, k4, s4⟩ := fin (some (.exit id)) W3 hm3
      exact ⟨_, _, hr, .inr ⟨rfl, ⟨.exit id, hIx _ _ _ _ _ s4 i3 (putB _ _) (fun j _ e => fB e), r4, d4⟩, k4⟩⟩
    | goto t =>
      obtain ⟨hm3', i3⟩ := hp
      have hm3 := kc_at hB hm3'
      obtain ⟨hr, r4, d4, k4, s4⟩ := fin (some (.goto t)) W3 hm3
      exact ⟨_, _, hr, .inr ⟨rfl, ⟨.goto t, hIx _ _ _ _ _ s4 i3 (putB _ _) (fun j _ e => fB e), r4, d4⟩, k4⟩⟩
    | panic ch => exact hp.elim
    | outgrown => exact hp.elim
  · rintro s A C F ⟨c, i, r, d⟩ hm hF
    have hA := heap_lt r
    exact ⟨c, hIx _ _ _ _ _ (by omega) i hm (fun j hj hf => .inl (hF j hj hf)), keep hm (fun hf => oB.1 (hF _ hA hf)) r, keep hm (fun hf => oB.2 (hF _ (by omega) hf)) d⟩
  · rintro e W2 ⟨⟨v, rfl⟩, (⟨xs, hS, i, r, d, -⟩ | ⟨pre, hSp, c, i, r, d⟩)⟩
    · have h := run_endLoop (P := P) r (by simp [rec_])
      have hA := heap_lt d
      exact ⟨none, _, h, hdone xs _ hS (hI _ _ _ _ (by omega) i (putB _ _) (fun j _ e => fB e)) (by rw [← hB]; exact keep (putB _ _) (by omega) d)⟩
    · have h := run_endLoop (P := P) r (by simp [rec_])
      have hA := heap_lt d
      exact ⟨some c, _, h, hstop c pre _ hSp (hIx _ _ _ _ _ (by omega) i (putB _ _) (fun j _ e => fB e)) (by rw [← hB]; exact keep (putB _ _) (by omega) d)⟩
end Go.Proofs.YtaemfjmmklpjeaaGreatDoor
