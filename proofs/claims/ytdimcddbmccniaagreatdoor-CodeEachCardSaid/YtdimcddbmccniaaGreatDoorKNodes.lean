/- term.nodes: an iterator over the first 257 nodes of a term. -/
import Derived.Test.YtdimcddbmccniaaGreatDoorKCd1
import Derived.RangeFuncNested
import Derived.RangeFuncLeaves
import Derived.RangeFuncCalls
import Derived.WalkKit
import Derived.Lib.Hide
import Derived.Shelf.Abstract
import Derived.Shelf.RegionOpen
import Derived.OwnWalkIn
import Derived.TacticsInMore
import Derived.LoopNIn
import Derived.LoopIn
import Derived.RangeFuncBox
import Derived.Laws.EntriesVeiled
import Derived.Outline
section
set_option linter.unusedVariables false
namespace Go.Proofs.YtdimcddbmccniaaGreatDoor
open Go.RowKit

theorem Mod.put {F : Nat → Prop} (w : World) (l : Nat) (o : Obj) (hl : F l) : Mod F w (w.putObj l o) := Mod.putObj w l o hl
def SeqC {α : Type} (n : Nat) (P : Program) (g : Nat) (lb : Array Value) (encs : α → Array Value) (n₀ : Nat) (E : α → Prop) (S Sp : List α → Prop) (N : Nat) (w : World) : Prop :=
  ∀ (l : Nat) (J Jx : List α → World → Prop) (W : World), Below w.heap.size w W →
    (∀ s A B, J s A → Mod (fun k => W.heap.size ≤ k) A B → J s B) → (∀ s A B, Jx s A → Mod (fun k => W.heap.size ≤ k) A B → Jx s B) →
    (∀ pre x W1, J pre W1 → E x → pre.length < N → YieldAt Fence.wide (n - 1) P l (encs x) W1 fun e W' =>
      (e = .returned (.bool true) ∧ J (pre ++ [x]) W' ∧ Mod (fun k => n₀ ≤ k ∧ k < W.heap.size) W1 W') ∨ (e = .returned (.bool false) ∧ Jx (pre ++ [x]) W')) →
    J [] W →
    CallsIn Fence.wide n P g (#[.func (.yield l) #[] #[]] ++ lb) W fun e W' => (∃ v, e = .returned v) ∧ ((∃ xs, S xs ∧ J xs W') ∨ (∃ pre, Sp pre ∧ Jx pre W'))

def roundEnd {α : Type} (n₀ B : Nat) (I : List α → World → Prop) (Ix : Code → List α → World → Prop) (xs : List α) (W : World) : Exit → Act → World → Prop
  | .normal, _, W' => Mod (fun k => n₀ ≤ k ∧ k < B) W W' ∧ I xs W'
  | .ret, _, W' => Mod (fun k => n₀ ≤ k ∧ k < B) W W' ∧ Ix .ret xs W'
  | .exit id, _, W' => Mod (fun k => n₀ ≤ k ∧ k < B) W W' ∧ Ix (.exit id) xs W'
  | .goto t, _, W' => Mod (fun k => n₀ ≤ k ∧ k < B) W W' ∧ Ix (.goto t) xs W'
  | .panic _, _, _ => False
  | .outgrown, _, _ => False

theorem range_cells {α : Type} {n : Nat} {P : Program} {w : World} {g : Operand} {ps : Array Tmp} {assign body : Code} {Q : Exit → Act → World → Prop} {a : Act}
    {gf : Nat} {lb : Array Value} (hg : a.eval g = .func (.func gf) #[] lb) (eg : ∀ args w, (callFunc gf args).run P w = .ok (.enter gf args) w)
    {encs : α → Array Value} (hps : ∀ x, (encs x).size = ps.size) {n₀ : Nat} {E : α → Prop} {S Sp : List α → Prop} {N : Nat} (hseq : SeqC (n - 1) P gf lb encs n₀ E S Sp N w) (hn₀ : n₀ ≤ w.heap.size)
    (I : List α → World → Prop) (Ix : Code → List α → World → Prop) (hI : ∀ s X Y, Below w.heap.size X Y → I s X → I s Y) (hIx : ∀ c s X Y, Below w.heap.size X Y → Ix c s X → Ix c s Y) (h0 : I [] w)
    (Ax : α → Act → World → Prop) (hAx : ∀ x a' X Y, Mod (fun k => k = w.heap.size + 1) X Y → Ax x a' X → Ax x a' Y)
    (hassign : ∀ (l : Nat) (pre : List α) (x : α) (W : World) (K : Act → World → Prop), I pre W → E x → w.heap.size + 2 ≤ W.heap.size → (∀ a' W', Below W.heap.size W W' → Ax x a' W' → K a' W') →
      assign.wpIn (Fence.wide.inRound l) (n - 1 - 1) P (Exit.then K (fun _ _ _ => False)) { tmps := (ps.zip (encs x)).foldl (fun t (p, v) => t.setIfInBounds p v) a.tmps, defers := [] } W)
    (hbody : ∀ (l : Nat) (pre : List α) (x : α) (a' : Act) (W : World), I pre W → E x → Ax x a' W → pre.length < N → w.heap.size + 2 ≤ W.heap.size → body.wpIn (Fence.wide.inRound l) (n - 1 - 1) P (roundEnd n₀ w.heap.size I Ix (pre ++ [x]) W) a' W)
    (hdone : ∀ (xs : List α) (W : World), S xs → I xs W → W.heap[w.heap.size]? = some (.deferred (some [])) → Q .normal { a with defers := { target := .collected w.heap.size, args := #[] } :: a.defers } W)
    (hstop : ∀ (c : Code) (pre : List α) (W : World), Sp pre → Ix c pre W → W.heap[w.heap.size]? = some (.deferred (some [])) → c.wpIn Fence.wide n P Q { a with defers := { target := .collected w.heap.size, args := #[] } :: a.defers } W)
    (h1 : 1 ≤ n) : (Code.rangeFunc g ps assign body).wpIn Fence.wide n P Q a w := by
  obtain ⟨B, hB⟩ : ∃ B, B = w.heap.size := ⟨_, rfl⟩
  refine wpIn_rangeFunc fun fn hfn => ?_
  -- the record, in each of its states
  let rec_ (st : LoopState) (pe : Option Code) : Loop := { state := st, pending := pe, fn, tmps := a.tmps, params := ps, assign, body, defers := w.heap.size }
  obtain ⟨W1, hW1⟩ : ∃ W1, W1 = (w.alloc (.deferred (some []))).alloc (.loop (rec_ .ready none)) := ⟨_, rfl⟩
  have hsz : W1.heap.size = B + 2 := by rw [hW1, hB]; simp
  have hrec : W1.heap[B + 1]? = some (.loop (rec_ .ready none)) := by
    have := World.alloc_heap_new (w.alloc (.deferred (some []))) (.loop (rec_ .ready none))
    rw [World.size_alloc] at this; rw [hW1, hB]; exact this
  have hdef : W1.heap[B]? = some (.deferred (some [])) := by
    rw [hW1, hB]; exact (Below.heap_alloc _ _ _ (by simp)).trans (World.alloc_heap_new w _)
  have hwW : Below w.heap.size w W1 := by rw [hW1]; exact ((Below.refl _ w).alloc (Nat.le_refl _) _).alloc (by simp) _
  -- what a step at or above B leaves of the invariant and of the two blocks
  have up : ∀ {X Y : World} {F : Nat → Prop}, Mod F X Y → (∀ k, F k → B ≤ k) → B ≤ X.heap.size → Below w.heap.size X Y := fun h hF hX => by rw [← hB]; exact h.below hX hF
  have keep : ∀ {X Y : World} {F : Nat → Prop} {k : Nat} {o : Obj}, Mod F X Y → ¬ F k → X.heap[k]? = some o → Y.heap[k]? = some o := fun h hF hk => (h.block _ (heap_lt hk) hF).trans hk
  have putB : ∀ (X : World) (o : Obj), Mod (fun k => k = B + 1) X (X.putObj (B + 1) o) := fun X o => Mod.put X _ o rfl
  have getB : ∀ (X : World) (o : Obj), B + 1 < X.heap.size → (X.putObj (B + 1) o).heap[B + 1]? = some o := fun X o h => World.putObj_heap_same h
  have in1 : ∀ k, k = B + 1 → n₀ ≤ k ∧ k < W1.heap.size := fun k e => by omega
  have in2 : ∀ k, n₀ ≤ k ∧ k < w.heap.size → n₀ ≤ k ∧ k < W1.heap.size := fun k e => by omega
  refine ⟨B + 1, [{ target := .collected w.heap.size, args := #[] }], W1, { target := .fn (.func gf) lb, args := #[.func (.yield (B + 1)) #[] #[]] }, W1, gf, #[.func (.yield (B + 1)) #[] #[]] ++ lb, W1, ?_, ?_, fun _ _ => trivial, ?_, fun _ => h1, ?_⟩
  · rw [hB, hW1]; exact run_enterLoop_outer _ _ _ _ _
  · simp only [resolve, hg]; simp [go_sem]
  · simp [invoke, go_sem, eg]
  refine (hseq (B + 1) (fun pre W => I pre W ∧ W.heap[B + 1]? = some (.loop (rec_ .ready none)) ∧ W.heap[B]? = some (.deferred (some [])))
    (fun pre W => ∃ c, Ix c pre W ∧ W.heap[B + 1]? = some (.loop (rec_ .done (some c))) ∧ W.heap[B]? = some (.deferred (some []))) W1 hwW ?_ ?_ ?_ ⟨hI _ _ _ hwW h0, hrec, hdef⟩).mono ?_
  · rintro s X Y ⟨i, r, d⟩ hm
    exact ⟨hI _ _ _ (up hm (fun k hk => by omega) (by have := heap_lt d; omega)) i, keep hm (by omega) r, keep hm (by omega) d⟩
  · rintro s X Y ⟨c, i, r, d⟩ hm
    exact ⟨c, hIx _ _ _ _ (up hm (fun k hk => by omega) (by have := heap_lt d; omega)) i, keep hm (by omega) r, keep hm (by omega) d⟩
  · rintro pre x W ⟨i, r, d⟩ hex hlen
    have hlt := heap_lt r
    refine ⟨fn, _, assign, body, run_yield (P := P) (args := encs x) r (hps x), roundIn_of_wpIn hfn (hassign _ pre x W _ i hex (by omega) ?_)⟩
    intro a' Wa hba hax
    have ia : I pre Wa := hI _ _ _ (hba.mono (by omega)) i
    have ra : Wa.heap[B + 1]? = some (.loop (rec_ .ready none)) := (hba.block _ hlt).trans r
    have da : Wa.heap[B]? = some (.deferred (some [])) := (hba.block _ (by omega)).trans d
    have hla := heap_lt ra
    refine ⟨_, run_beginRound ra rfl, ?_⟩
    have m1 := putB Wa (.loop { rec_ .ready none with state := .busy })
    have rb := getB Wa (.loop { rec_ .ready none with state := .busy }) hla
    have db : (Wa.putObj (B + 1) (.loop { rec_ .ready none with state := .busy })).heap[B]? = some (.deferred (some [])) := keep m1 (by omega) da
    refine wpIn_mono (hbody _ pre x a' _ (hI _ _ _ (up m1 (fun k (hk : k = B + 1) => by omega) (by omega)) ia) hex (hAx _ _ _ _ (by rw [← hB]; exact m1) hax) hlen (by rw [World.putObj_size]; omega)) ?_
    have m0 : Mod (fun k => n₀ ≤ k ∧ k < W1.heap.size) W (Wa.putObj (B + 1) (.loop { rec_ .ready none with state := .busy })) :=
      (Mod.of_below hba).trans (m1.mono (fun k _ e => in1 k e)) (fun _ _ h => h)
    have fin : ∀ (jump : Option Code) (W3 : World), Mod (fun k => n₀ ≤ k ∧ k < w.heap.size) (Wa.putObj (B + 1) (.loop { rec_ .ready none with state := .busy })) W3 →
        (Instr.endRound (B + 1) jump).run P W3 = .ok (.bool jump.isNone) (W3.putObj (B + 1) (.loop (rec_ (if jump.isNone then .ready else .done) jump))) ∧
        (W3.putObj (B + 1) (.loop (rec_ (if jump.isNone then .ready else .done) jump))).heap[B + 1]? = some (.loop (rec_ (if jump.isNone then .ready else .done) jump)) ∧
        (W3.putObj (B + 1) (.loop (rec_ (if jump.isNone then .ready else .done) jump))).heap[B]? = some (.deferred (some [])) ∧
        Below w.heap.size W3 (W3.putObj (B + 1) (.loop (rec_ (if jump.isNone then .ready else .done) jump))) ∧
        Mod (fun k => n₀ ≤ k ∧ k < W1.heap.size) W (W3.putObj (B + 1) (.loop (rec_ (if jump.isNone then .ready else .done) jump))) := fun jump W3 hm3 => by
      have r3 := keep hm3 (k := B + 1) (by omega) rb
      have d3 := keep hm3 (k := B) (by omega) db
      have hl3 := heap_lt r3
      exact ⟨run_endRound (P := P) jump r3, getB _ _ hl3, keep (putB _ _) (by omega) d3, up (putB _ _) (fun k hk => by omega) (by omega),
        m0.trans ((hm3.mono (fun k _ e => in2 k e)).trans ((putB W3 _).mono (fun k _ e => in1 k e)) (fun _ _ h => h)) (fun _ _ h => h)⟩
    rintro e a3 W3 hp
    cases e with
    | normal =>
      obtain ⟨hm3, i3⟩ := hp
      obtain ⟨hr, r4, d4, b4, m4⟩ := fin none W3 hm3
      exact ⟨_, _, hr, .inl ⟨rfl, ⟨hI _ _ _ b4 i3, r4, d4⟩, m4⟩⟩
    | ret =>
      obtain ⟨hm3, i3⟩ := hp
      obtain ⟨hr, r4, d4, b4, m4⟩ := fin (some .ret) W3 hm3
      exact ⟨_, _, hr, .inr ⟨rfl, .ret, hIx _ _ _ _ b4 i3, r4, d4⟩⟩
    | exit id =>
      obtain ⟨hm3, i3⟩ := hp
      obtain ⟨hr, r4, d4, b4, m4⟩ := fin (some (.exit id)) W3 hm3
      exact ⟨_, _, hr, .inr ⟨rfl, .exit id, hIx _ _ _ _ b4 i3, r4, d4⟩⟩
    | goto t =>
      obtain ⟨hm3, i3⟩ := hp
      obtain ⟨hr, r4, d4, b4, m4⟩ := fin (some (.goto t)) W3 hm3
      exact ⟨_, _, hr, .inr ⟨rfl, .goto t, hIx _ _ _ _ b4 i3, r4, d4⟩⟩
    | panic ch => exact hp.elim
    | outgrown => exact hp.elim
  · rintro e W2 ⟨⟨v, rfl⟩, (⟨xs, hS, i, r, d⟩ | ⟨pre, hSp, c, i, r, d⟩)⟩
    · have h := run_endLoop (P := P) r (by simp [rec_])
      exact ⟨none, _, h, hdone xs _ hS (hI _ _ _ (up (putB _ _) (fun k hk => by omega) (by have := heap_lt d; omega)) i) (by rw [← hB]; exact keep (putB _ _) (by omega) d)⟩
    · have h := run_endLoop (P := P) r (by simp [rec_])
      exact ⟨some c, _, h, hstop c pre _ hSp (hIx _ _ _ _ (up (putB _ _) (fun k hk => by omega) (by have := heap_lt d; omega)) i) (by rw [← hB]; exact keep (putB _ _) (by omega) d)⟩
end Go.Proofs.YtdimcddbmccniaaGreatDoor
end
section
set_option linter.unusedVariables false
namespace Go.Proofs.YtdimcddbmccniaaGreatDoor
open Go.RowKit Go.Shelf
attribute [local go_sem] Oper.semAt_some

theorem YieldAt.deep {m : Nat} (m' : Nat) {P : Program} {l : Nat} {args : Array Value} {W : World} {R : Ending → World → Prop} (h : YieldAt Fence.wide m P l args W R) : YieldAt Fence.wide m' P l args W R := by
  obtain ⟨fn, tmps, assign, body, hy, hR⟩ := h
  exact ⟨fn, tmps, assign, body, hy, hR.1, fun c cs _ => hR.2 c cs (room_wide _)⟩

structure Gen (l Y : Nat) (M : Nat) (W : World) : Prop where
  yield : W.heap[Y]? = some (.cells #[.func (.yield l) #[] #[]] 88 (0, 0))
  left : W.heap[Y + 1]? = some (.cells #[.int .i64 M] 3 (0, 0))
  walk : W.heap[Y + 2]? = some (.cells #[.func (.func 242) #[] #[.pointer (some ⟨Y + 1, 0, none⟩), .pointer (some ⟨Y, 0, none⟩), .pointer (some ⟨Y + 2, 0, none⟩)]] 88 (0, 0))

theorem Gen.mod {l Y M : Nat} {F : Nat → Prop} {W W' : World} (h : Gen l Y M W) (hm : Mod F W W') (hF : ¬ F Y ∧ ¬ F (Y + 1) ∧ ¬ F (Y + 2)) : Gen l Y M W' :=
  ⟨(hm.block _ (heap_lt h.yield) hF.1).trans h.yield, (hm.block _ (heap_lt h.left) hF.2.1).trans h.left, (hm.block _ (heap_lt h.walk) hF.2.2).trans h.walk⟩

def WalkP (l n₀ Y M N : Nat) (J Jx : List (Tm × Value) → World → Prop) (pre : List (Tm × Value)) (x : Tm) (W : World) (e : Ending) (W' : World) : Prop :=
  (e = .returned (.bool true) ∧ x.nodes < M ∧ (∃ q : List (Tm × Value), q.map (·.1) = x.pre ∧ J (pre ++ q) W') ∧ Gen l Y (M - x.nodes) W' ∧ Mod (fun k => (n₀ ≤ k ∧ k < Y) ∨ k = Y + 1) W W') ∨
  (e = .returned (.bool false) ∧ ((M ≤ x.nodes ∧ ∃ q : List (Tm × Value), q.map (·.1) = x.pre.take M ∧ J (pre ++ q) W') ∨ (∃ (q : List (Tm × Value)) (k : Nat), q.map (·.1) = x.pre.take k ∧ pre.length + q.length ≤ N ∧ Jx (pre ++ q) W')))

theorem Tm.pres_split {L : List Tm} {j : Nat} {y : Tm} (h : L[j]? = some y) : Tm.pres L = Tm.pres (L.take j) ++ (y.pre ++ Tm.pres (L.drop (j + 1))) := by
  rw [← Tm.pres_append_cons]
  have : L = L.take j ++ (y :: L.drop (j + 1)) := by
    obtain ⟨hj, e⟩ := List.getElem?_eq_some_iff.1 h
    subst e
    rw [← List.drop_eq_getElem_cons hj, List.take_append_drop]
  rw [← this]
theorem Tm.pre_take {k n : Int} {s t : ByteArray} {L : List Tm} {j : Nat} {y : Tm} (h : L[j]? = some y) (i : Nat) (hi : i ≤ y.nodes) :
    (Tm.mk k n s t L).pre.take ((Tm.pres (L.take j)).length + i + 1) = Tm.mk k n s t L :: (Tm.pres (L.take j) ++ y.pre.take i) := by
  rw [Tm.pre, List.take_succ_cons, Tm.pres_split h, List.take_append, List.take_of_length_le (by omega), List.take_append]
  have e1 : (Tm.pres (L.take j)).length + i - (Tm.pres (L.take j)).length = i := by omega
  have e2 : i - y.pre.length = 0 := by unfold Tm.nodes at hi; omega
  rw [e1, e2]
  simp

set_option maxRecDepth 100000 in
set_option maxHeartbeats 4000000 in
theorem nodes_walked (l n₀ Y N : Nat) (w0 : World) (J Jx : List (Tm × Value) → World → Prop) (hn : n₀ ≤ Y)
    (hJ : ∀ s A B, J s A → Mod (fun k => Y ≤ k) A B → J s B)
    (hY : ∀ (m : Nat) pre x W, J pre W → TmAt (· < n₀) w0 x.1 x.2 → pre.length < N → YieldAt Fence.wide m Tryz.prog l #[x.2] W fun e W' =>
      (e = .returned (.bool true) ∧ J (pre ++ [x]) W' ∧ Mod (fun k => n₀ ≤ k ∧ k < Y) W W') ∨ (e = .returned (.bool false) ∧ Jx (pre ++ [x]) W')) (x : Tm) :
    ∀ (n : Nat) (v : Value) (pre : List (Tm × Value)) (M : Nat) (W : World), TmAt (· < n₀) w0 x v → Below n₀ w0 W → n₀ ≤ w0.heap.size → Gen l Y M W → 1 ≤ M → M ≤ 257 → J pre W → pre.length + M ≤ N →
      CallsIn Fence.wide n Tryz.prog 242 #[v, .pointer (some ⟨Y + 1, 0, none⟩), .pointer (some ⟨Y, 0, none⟩), .pointer (some ⟨Y + 2, 0, none⟩)] W (WalkP l n₀ Y M N J Jx pre x W) := by
  induction x using Tm.ind with
  | h kk nn s t L ih =>
    intro n v pre M W hT hB hn0 hG hM hM2 hj hN
    obtain ⟨m, rfl⟩ : ∃ m, M = m + 1 := ⟨M - 1, by omega⟩
    have HT := Lib.hid hT
    obtain ⟨A, cap, rfl, hR, hk, hnn, hs, ht⟩ := hT.parts
    have hlen := hR.max
    unfold maxLen at hlen
    have HR := Lib.hid hR
    have HIH := Lib.hid ih
    clear hR ih hT
    obtain ⟨X, hX⟩ : ∃ X, X = (Tm.mk kk nn s t L) := ⟨_, rfl⟩
    rw [← hX] at HT ⊢
    obtain ⟨W1, hW1⟩ : ∃ W1, W1 = W.alloc (.cells #[.int .i8 kk, .int .i64 nn, .string s, .string t, .slice A L.length cap] 48) := ⟨_, rfl⟩
    have hYlt := heap_lt hG.walk
    have m1 : Mod (fun _ => False) W W1 := by rw [hW1]; exact Mod.alloc _ _ _
    have hs1 : W1.heap.size = W.heap.size + 1 := by rw [hW1]; simp
    have hbox : W1.heap[W.heap.size]? = some (.cells #[.int .i8 kk, .int .i64 nn, .string s, .string t, .slice A L.length cap] 48) := by rw [hW1]; exact World.alloc_heap_new _ _
    have G1 := hG.mod m1 ⟨fun h => h, fun h => h, fun h => h⟩
    have cl : W1.cell? ⟨Y + 1, 0, none⟩ = some (.int .i64 ((m : Int) + 1)) := cell_of_row G1.left rfl
    have fl : W1.frozen? ⟨Y + 1, 0, none⟩ = false := free_of_row G1.left
    obtain ⟨W2, hW2⟩ : ∃ W2, W2 = W1.setCell ⟨Y + 1, 0, none⟩ (.int .i64 (m : Int)) := ⟨_, rfl⟩
    have m2 : Mod (fun k => k = Y + 1) W1 W2 := by rw [hW2]; exact Mod.setCell _ _ _ (.inl rfl)
    have m12 : Mod (fun k => k = Y + 1) W W2 := (m1.mono (fun _ _ h => h.elim)).trans m2 (fun k _ e => e)
    have G2 : Gen l Y m W2 := by
      refine ⟨(m2.block _ (heap_lt G1.yield) (by omega)).trans G1.yield, ?_, (m2.block _ (heap_lt G1.walk) (by omega)).trans G1.walk⟩
      rw [hW2]; exact set_row _ G1.left
    have hs2 : W2.heap.size = W.heap.size + 1 := by rw [hW2]; simp [World.setCell, hs1]
    have cy : W2.cell? ⟨Y, 0, none⟩ = some (.func (.yield l) #[] #[]) := cell_of_row G2.yield rfl
    have hb2 : W2.heap[W.heap.size]? = _ := (m2.block _ (by omega) (by omega)).trans hbox
    have b0 : W2.cell? ⟨W.heap.size, 0, none⟩ = some (.int .i8 kk) := cell_of_row hb2 rfl
    have b1 : W2.cell? ⟨W.heap.size, 1, none⟩ = some (.int .i64 nn) := cell_of_row hb2 rfl
    have b2 : W2.cell? ⟨W.heap.size, 2, none⟩ = some (.string s) := cell_of_row hb2 rfl
    have b3 : W2.cell? ⟨W.heap.size, 3, none⟩ = some (.string t) := cell_of_row hb2 rfl
    have b4 : W2.cell? ⟨W.heap.size, 4, none⟩ = some (.slice A L.length cap) := cell_of_row hb2 rfl
    have j2 : J pre W2 := hJ _ _ _ hj (m12.mono (fun k _ e => by omega))
    obtain ⟨fn, tmps, assign, body, hy, hRound⟩ := hY (n - 1) pre (X, _) W2 j2 HT.out (by omega)
    dsimp only at hy
    have HX := Lib.hid hX
    have HB := Lib.hid hB
    have HS2 := Lib.hid hs2
    have HB2 := Lib.hid hb2
    have HM12 := Lib.hid m12
    have HG2 := Lib.hid G2
    have HJ := Lib.hid hJ
    have HY := Lib.hid hY
    clear hX hG hB hs1 hs2 hbox hb2 G1 m1 m2 m12 G2 hJ hY hj j2
    -- where the walk goes on behind yield
    have back : ∀ (W3 : World) (K : Ending → World → Prop), True := fun _ _ => trivial
    subst hW2
    subst hW1
    refine callsIn_of_wp Tryz.func242 rfl trivial ?_ rfl
    simp only [Tryz.ntmps242, List.size_toArray, List.length_cons, List.length_nil, Nat.reduceAdd, Nat.reduceSub, Array.replicate_succ, Array.replicate_zero, List.push_toArray, List.append_toArray, List.nil_append, List.cons_append]
    gi_wp2
    refine ⟨fun h => (by cases h), ?_⟩
    refine hRound.mono ?_
    clear hRound hy cl fl cy b0 b1 b2 b3 b4
    have HPRE := Lib.hid (rfl : X.pre = X.pre)
    rintro e W3 (⟨rfl, hJ3, hm3⟩ | ⟨rfl, hx3⟩)
    · have hs3 : W.heap.size + 1 ≤ W3.heap.size := by have := hm3.size; rw [HS2.out] at this; exact this
      have G3 : Gen l Y m W3 := HG2.out.mod hm3 ⟨by omega, by omega, by omega⟩
      have hb3 : W3.heap[W.heap.size]? = _ := (hm3.block _ (by rw [HS2.out]; omega) (by omega)).trans HB2.out
      have b4 : W3.cell? ⟨W.heap.size, 4, none⟩ = some (.slice A L.length cap) := cell_of_row hb3 rfl
      have cl : W3.cell? ⟨Y + 1, 0, none⟩ = some (.int .i64 (m : Int)) := cell_of_row G3.left rfl
      have HM3 : Hid (Mod (fun k => (n₀ ≤ k ∧ k < Y) ∨ k = Y + 1) W W3) := (HM12.out.mono (fun k _ e => .inr e)).trans hm3 (fun k _ e => .inl e)
      have HG3 := Lib.hid G3
      have HJ3 := Lib.hid hJ3
      clear hb3 G3 hm3 hJ3
      by_cases hm0 : m = 0
      · subst hm0
        gi_wp2
        go_ret
        refine .inr ⟨rfl, .inl ⟨Tm.pre_ne _, [(X, _)], ?_, HJ3.out⟩⟩
        rw [HX.out]; rfl
      · have h0 : ((m : Int) == 0) = false := by rw [beq_eq_false_iff_ne]; omega
        gi_wp2
        gi_loopw [21] (fun i wr => ∃ j : Nat, j ≤ L.length ∧ i = .int .i64 j ∧ (Tm.pres (L.take j)).length < m ∧ (∃ q : List (Tm × Value), q.map (·.1) = Tm.pres (L.take j) ∧ J (pre ++ [(X, .agg #[.int .i8 kk, .int .i64 nn, .string s, .string t, .slice A L.length cap])] ++ q) wr) ∧ Gen l Y (m - (Tm.pres (L.take j)).length) wr ∧ Mod (fun k => (n₀ ≤ k ∧ k < Y) ∨ k = Y + 1) W wr)
          (fun i _ => L.length - (intOf i).toNat)
        case atStart => exact ⟨0, Nat.zero_le _, rfl, by simp [Tm.pres]; omega, ⟨[], by simp [Tm.pres], by simpa using HJ3.out⟩, by simpa [Tm.pres] using HG3.out, HM3.out⟩
        case round =>
          obtain ⟨j, hj, rfl, hlt, ⟨q, hq, hJr⟩, hG, hMr⟩ := hrel
          have hYr : Y + 2 < wr.heap.size := by have := hMr.size; omega
          have HQ := Lib.hid hq
          have HJr := Lib.hid hJr
          have HGr := Lib.hid hG
          have HMr := Lib.hid hMr
          clear hq hJr hG hMr
          by_cases hjl : j < L.length
          · obtain ⟨y, hy⟩ : ∃ y, L[j]? = some y := ⟨L[j], List.getElem?_eq_getElem hjl⟩
            obtain ⟨ad, u, rfl, had, hE, hTy⟩ := HR.out.at_ j y hy
            have hbw : Below n₀ w0 wr := HB.out.trans (HMr.out.below (B := n₀) (by omega) (fun k h => by omega))
            have hEr : ElemAt wr ad j u := hE.keep (hbw.block ad.block had)
            obtain ⟨k', n', s', t', L', A', cap', hy', rfl⟩ : ∃ k' n' s' t' L' A' cap', y = Tm.mk k' n' s' t' L' ∧ u = .agg #[.int .i8 k', .int .i64 n', .string s', .string t', .slice A' L'.length cap'] := by
              cases hTy; exact ⟨_, _, _, _, _, _, _, rfl, rfl⟩
            obtain ⟨c0, c1, c2, c3, c4, hc, e0, e1, e2, e3, e4⟩ := hEr
            simp only [Value.agg.injEq, Array.mk.injEq, List.cons.injEq, and_true] at hc
            obtain ⟨rfl, rfl, rfl, rfl, rfl⟩ := hc
            clear hy'
            have hmem := List.mem_of_getElem? hy
            have hpy := Tm.pre_ne y
            have HYY := Lib.hid hy
            have HTY := Lib.hid hTy
            have HBW := Lib.hid hbw
            clear hE hTy hy hbw
            obtain ⟨W4, hW4⟩ : ∃ W4, W4 = wr.alloc (.cells #[.int .i8 k', .int .i64 n', .string s', .string t', .slice A' L'.length cap'] 48) := ⟨_, rfl⟩
            have m4 : Mod (fun _ => False) wr W4 := by rw [hW4]; exact Mod.alloc _ _ _
            have G4 := HGr.out.mod m4 ⟨fun h => h, fun h => h, fun h => h⟩
            have cw : W4.cell? ⟨Y + 2, 0, none⟩ = some (.func (.func 242) #[] #[.pointer (some ⟨Y + 1, 0, none⟩), .pointer (some ⟨Y, 0, none⟩), .pointer (some ⟨Y + 2, 0, none⟩)]) := cell_of_row G4.walk rfl
            have hb5 : W4.heap[wr.heap.size]? = some (.cells #[.int .i8 k', .int .i64 n', .string s', .string t', .slice A' L'.length cap'] 48) := by rw [hW4]; exact World.alloc_heap_new _ _
            have d0 : W4.cell? ⟨wr.heap.size, 0, none⟩ = some (.int .i8 k') := cell_of_row hb5 rfl
            have d1 : W4.cell? ⟨wr.heap.size, 1, none⟩ = some (.int .i64 n') := cell_of_row hb5 rfl
            have d2 : W4.cell? ⟨wr.heap.size, 2, none⟩ = some (.string s') := cell_of_row hb5 rfl
            have d3 : W4.cell? ⟨wr.heap.size, 3, none⟩ = some (.string t') := cell_of_row hb5 rfl
            have d4 : W4.cell? ⟨wr.heap.size, 4, none⟩ = some (.slice A' L'.length cap') := cell_of_row hb5 rfl
            have hlq : q.length = (Tm.pres (L.take j)).length := by rw [← HQ.out, List.length_map]
            have HC := Lib.hid (HIH.out y hmem (n - 1) _ (pre ++ [(X, .agg #[.int .i8 kk, .int .i64 nn, .string s, .string t, .slice (some ad) L.length cap])] ++ q) (m - (Tm.pres (L.take j)).length) W4 HTY.out
              (HBW.out.trans (m4.below (B := n₀) (by omega) (fun k h => h.elim))) hn0 G4 (by omega) (by omega) (HJ.out _ _ _ HJr.out (m4.mono (fun _ _ h => h.elim))) (by simp; omega))
            have HM4 := Lib.hid m4
            clear hb5 m4 G4
            subst hW4
            gi_wp2_with fail
            refine ⟨trivial, fun h => (by cases h), ?_⟩
            refine HC.out.mono ?_
            clear cw d0 d1 d2 d3 d4 e0 e1 e2 e3 e4
            rintro e W5 (⟨rfl, hn5, ⟨q5, hq5, hJ5⟩, hG5, hM5⟩ | ⟨rfl, hw⟩)
            · have HQ5 := Lib.hid hq5
              have HJ5 := Lib.hid hJ5
              have HG5 := Lib.hid hG5
              have HM5 := Lib.hid hM5
              have HN5 := Lib.hid hn5
              clear hq5 hJ5 hG5 hM5 hn5
              gi_wp2
              go_roundw
              case rel =>
                have e5 : (Tm.pres (L.take (j + 1))) = Tm.pres (L.take j) ++ y.pre := Tm.pres_take_succ HYY.out
                have e6 : (Tm.pres (L.take (j + 1))).length = (Tm.pres (L.take j)).length + y.nodes := by rw [e5, List.length_append]; rfl
                have := HN5.out
                refine ⟨j + 1, by omega, by go_num, by omega, ⟨q ++ q5, by rw [List.map_append, HQ.out, HQ5.out, e5], by rw [← List.append_assoc]; exact HJ5.out⟩, ?_, ?_⟩
                · rw [e6, ← Nat.sub_sub]; exact HG5.out
                · exact (HMr.out.trans (HM4.out.mono (G := fun k => (n₀ ≤ k ∧ k < Y) ∨ k = Y + 1) (fun _ _ h => h.elim)) (fun _ _ h => h)).trans HM5.out (fun _ _ h => h)
              case measure => simp [intOf]; omega
            · have HW := Lib.hid hw
              clear hw
              gi_wp2
              go_ret
              rcases HW.out with ⟨h1, q5, hq5, hJ5⟩ | ⟨q5, k, hq5, hl5, hx5⟩
              · refine .inr ⟨rfl, .inl ⟨?_, [(X, _)] ++ q ++ q5, ?_, by simpa using hJ5⟩⟩
                · rw [HX.out]
                  unfold Tm.nodes Tm.pre
                  unfold Tm.nodes at h1
                  rw [List.length_cons, Tm.pres_split HYY.out, List.length_append, List.length_append]
                  omega
                · have h2 := Tm.pre_take (k := kk) (n := nn) (s := s) (t := t) HYY.out (m - (Tm.pres (L.take j)).length) h1
                  rw [show (Tm.pres (L.take j)).length + (m - (Tm.pres (L.take j)).length) + 1 = m + 1 by omega] at h2
                  rw [HX.out, h2, List.map_append, List.map_append, HQ.out, hq5]
                  rfl
              · refine .inr ⟨rfl, .inr ⟨[(X, _)] ++ q ++ q5, (Tm.pres (L.take j)).length + min k y.nodes + 1, ?_, by simp at hl5 ⊢; omega, by simpa using hx5⟩⟩
                rw [HX.out, Tm.pre_take HYY.out _ (Nat.min_le_right _ _), List.map_append, List.map_append, HQ.out, hq5]
                rw [show y.pre.take k = y.pre.take (min k y.nodes) from List.take_eq_take_min]
                rfl
          · obtain rfl : j = L.length := by omega
            gi_wp2
            go_ret
            have hq := HQ.out
            have hG := HGr.out
            rw [List.take_length] at hq hG hlt
            refine .inl ⟨rfl, ?_, ⟨[(X, _)] ++ q, ?_, by simpa using HJr.out⟩, ?_, HMr.out⟩
            · rw [HX.out]; unfold Tm.nodes Tm.pre; simp; omega
            · rw [List.map_append, hq, HX.out]; rfl
            · rw [HX.out]; unfold Tm.nodes Tm.pre
              rw [show m + 1 - (Tm.mk kk nn s t L :: Tm.pres L).length = m - (Tm.pres L).length by simp]
              exact hG
    · gi_wp2
      go_ret
      refine .inr ⟨rfl, .inr ⟨[(X, _)], 1, ?_, by simp; omega, hx3⟩⟩
      rw [HX.out]; rfl

set_option maxHeartbeats 1000000 in
theorem nodes_in (v : Array Value) (n : Nat) (w : World) :
    CallsIn Fence.wide n Tryz.prog 209 #[.agg v] w fun e w' => e = .returned (.func (.func 241) #[] #[.pointer (some ⟨w.heap.size, 0, none⟩)]) ∧ w' = w.alloc (.cells v 48) := by
  refine callsIn_of_wp Tryz.func209 rfl trivial ?_ rfl
  simp only [Tryz.ntmps209, List.size_toArray, List.length_cons, List.length_nil, Nat.reduceAdd, Nat.reduceSub, Array.replicate_succ, Array.replicate_zero, List.push_toArray, List.append_toArray, List.nil_append, List.cons_append]
  gi_wp2
  go_ret
  exact ⟨rfl, rfl⟩

set_option maxHeartbeats 2000000 in
set_option maxRecDepth 100000 in
theorem nodes1_in (n l n₀ Bt : Nat) (x : Tm) (v : Value) (w0 W : World) (J Jx : List (Tm × Value) → World → Prop) (hT : TmAt (· < n₀) w0 x v) (hB : Below n₀ w0 W) (hn0 : n₀ ≤ w0.heap.size)
    (hbt : ∃ cs, v = .agg cs ∧ W.heap[Bt]? = some (.cells cs 48))
    (hJ : ∀ s A B, J s A → Mod (fun k => W.heap.size ≤ k) A B → J s B)
    (hY : ∀ pre x W1, J pre W1 → TmAt (· < n₀) w0 x.1 x.2 → pre.length < 257 → YieldAt Fence.wide (n - 1) Tryz.prog l #[x.2] W1 fun e W' =>
      (e = .returned (.bool true) ∧ J (pre ++ [x]) W' ∧ Mod (fun k => n₀ ≤ k ∧ k < W.heap.size) W1 W') ∨ (e = .returned (.bool false) ∧ Jx (pre ++ [x]) W')) (h0 : J [] W) :
    CallsIn Fence.wide n Tryz.prog 241 #[.func (.yield l) #[] #[], .pointer (some ⟨Bt, 0, none⟩)] W fun e W' => (∃ v, e = .returned v) ∧
      ((∃ xs : List (Tm × Value), xs.map (·.1) = x.pre.take 257 ∧ J xs W') ∨ (∃ pre : List (Tm × Value), (∃ k, pre.map (·.1) = x.pre.take k ∧ pre.length ≤ 257) ∧ Jx pre W')) := by
  obtain ⟨cs, rfl, hbt⟩ := hbt
  obtain ⟨kk, nn, s, t, L, A, cap, hx, hcs⟩ : ∃ k' n' s' t' L' A' cap', x = Tm.mk k' n' s' t' L' ∧ Value.agg cs = .agg #[.int .i8 k', .int .i64 n', .string s', .string t', .slice A' L'.length cap'] := by
    cases hT; exact ⟨_, _, _, _, _, _, _, rfl, rfl⟩
  simp only [Value.agg.injEq] at hcs
  subst hcs
  have hs0 : n₀ ≤ W.heap.size := Nat.le_trans hn0 hB.size
  have hlt := heap_lt hbt
  obtain ⟨V, hV⟩ : ∃ V, V = ((W.alloc (.cells #[.func (.yield l) #[] #[]] 88)).alloc (.cells #[.int .i64 257] 3)).alloc (.cells #[.func (.func 242) #[] #[.pointer (some ⟨W.heap.size + 1, 0, none⟩), .pointer (some ⟨W.heap.size, 0, none⟩), .pointer (some ⟨W.heap.size + 2, 0, none⟩)]] 88) := ⟨_, rfl⟩
  have mV : Mod (fun _ => False) W V := by rw [hV]; exact ((Mod.alloc _ _ _).trans (Mod.alloc _ _ _) (fun _ _ h => h)).trans (Mod.alloc _ _ _) (fun _ _ h => h)
  have gV : Gen l W.heap.size 257 V := by
    rw [hV]
    refine ⟨?_, ?_, ?_⟩
    · exact ((Below.heap_alloc _ _ _ (by simp; omega)).trans (Below.heap_alloc _ _ _ (by simp))).trans (World.alloc_heap_new _ _)
    · refine (Below.heap_alloc _ _ _ (by simp)).trans ?_
      have := World.alloc_heap_new (W.alloc (.cells #[.func (.yield l) #[] #[]] 88)) (.cells #[.int .i64 257] 3)
      rw [World.size_alloc] at this
      exact this
    · have := World.alloc_heap_new ((W.alloc (.cells #[.func (.yield l) #[] #[]] 88)).alloc (.cells #[.int .i64 257] 3)) (.cells #[.func (.func 242) #[] #[.pointer (some ⟨W.heap.size + 1, 0, none⟩), .pointer (some ⟨W.heap.size, 0, none⟩), .pointer (some ⟨W.heap.size + 2, 0, none⟩)]] 88)
      simp only [World.size_alloc] at this
      exact this
  have cw : V.cell? ⟨W.heap.size + 2, 0, none⟩ = some (.func (.func 242) #[] #[.pointer (some ⟨W.heap.size + 1, 0, none⟩), .pointer (some ⟨W.heap.size, 0, none⟩), .pointer (some ⟨W.heap.size + 2, 0, none⟩)]) := cell_of_row gV.walk rfl
  have hbv : V.heap[Bt]? = _ := (mV.block _ hlt (fun h => h)).trans hbt
  have d0 : V.cell? ⟨Bt, 0, none⟩ = some (.int .i8 kk) := cell_of_row hbv rfl
  have d1 : V.cell? ⟨Bt, 1, none⟩ = some (.int .i64 nn) := cell_of_row hbv rfl
  have d2 : V.cell? ⟨Bt, 2, none⟩ = some (.string s) := cell_of_row hbv rfl
  have d3 : V.cell? ⟨Bt, 3, none⟩ = some (.string t) := cell_of_row hbv rfl
  have d4 : V.cell? ⟨Bt, 4, none⟩ = some (.slice A L.length cap) := cell_of_row hbv rfl
  have HC := Lib.hid (nodes_walked l n₀ W.heap.size 257 w0 J Jx hs0 hJ (fun m pre x W1 hj hx hl => YieldAt.deep m (hY pre x W1 hj hx hl)) x (n - 1) _ [] 257 V hT
    (hB.trans (mV.below (B := n₀) hs0 (fun k h => h.elim))) hn0 gV (by decide) (by decide) (hJ _ _ _ h0 (mV.mono (fun _ _ h => h.elim))) (by decide))
  have HX := Lib.hid hx
  clear hbv hbt gV mV hx hT hB hJ hY h0
  subst hV
  refine callsIn_of_wp Tryz.func241 rfl trivial ?_ rfl
  simp only [Tryz.ntmps241, List.size_toArray, List.length_cons, List.length_nil, Nat.reduceAdd, Nat.reduceSub, Array.replicate_succ, Array.replicate_zero, List.push_toArray, List.append_toArray, List.nil_append, List.cons_append]
  gi_wp2_with fail
  refine ⟨trivial, fun h => (by cases h), ?_⟩
  refine HC.out.mono ?_
  clear cw d0 d1 d2 d3 d4
  rintro e W5 (⟨rfl, hn5, ⟨q5, hq5, hJ5⟩, _, _⟩ | ⟨rfl, hw⟩)
  · have HQ5 := Lib.hid hq5
    have HJ5 := Lib.hid hJ5
    have HN5 := Lib.hid hn5
    clear hq5 hJ5 hn5
    gi_wp2
    go_end0
    refine ⟨⟨_, rfl⟩, .inl ⟨q5, ?_, by simpa using HJ5.out⟩⟩
    have h := HN5.out
    unfold Tm.nodes at h
    rw [HQ5.out, List.take_of_length_le (by omega)]
  · have HW := Lib.hid hw
    clear hw
    gi_wp2
    go_end0
    refine ⟨⟨_, rfl⟩, ?_⟩
    rcases HW.out with ⟨h1, q5, hq5, hJ5⟩ | ⟨q5, k, hq5, hl5, hx5⟩
    · exact .inl ⟨q5, hq5, by simpa using hJ5⟩
    · exact .inr ⟨q5, ⟨k, hq5, by simpa using hl5⟩, by simpa using hx5⟩

theorem nodes_seq (n n₀ Bt : Nat) (x : Tm) (v : Value) (w : World) (hT : TmAt (· < n₀) w x v) (hn0 : n₀ ≤ w.heap.size) (hbt : ∃ cs, v = .agg cs ∧ w.heap[Bt]? = some (.cells cs 48)) :
    SeqC n Tryz.prog 241 #[.pointer (some ⟨Bt, 0, none⟩)] (fun y : Tm × Value => #[y.2]) n₀ (fun y => TmAt (· < n₀) w y.1 y.2) (fun xs => xs.map (·.1) = x.pre.take 257) (fun pre => ∃ k, pre.map (·.1) = x.pre.take k ∧ pre.length ≤ 257) 257 w :=
  fun l J Jx W hW hJ hJx hY h0 => by
    obtain ⟨cs, e, hb⟩ := hbt
    exact nodes1_in n l n₀ Bt x v w W J Jx hT (hW.mono hn0) hn0 ⟨cs, e, (hW.block _ (heap_lt hb)).trans hb⟩ hJ hY h0
end Go.Proofs.YtdimcddbmccniaaGreatDoor
end
