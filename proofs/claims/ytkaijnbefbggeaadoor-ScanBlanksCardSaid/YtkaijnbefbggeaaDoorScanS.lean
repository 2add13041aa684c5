/- The program's own scan.Scan: its contract. -/
import Derived.Test.YtkaijnbefbggeaaDoorScanI
import Derived.Test.YtkaijnbefbggeaaDoorTokRow
set_option linter.unusedVariables false
namespace Go.Proofs.YtkaijnbefbggeaaDoor
open Go.RowKit
attribute [local go_sem] Oper.semAt_some

theorem tokens_in (s : ByteArray) (n : Nat) (w : World) :
    CallsIn Fence.wide n Tryd.prog 19 #[.string s] w fun e w' => e = .returned (.func (.func 26) #[] #[.pointer (some ⟨w.heap.size, 0, none⟩)]) ∧ w' = w.alloc (.cells #[.string s] 9) := by
  refine callsIn_of_wp Tryd.func19 rfl trivial ?_ rfl
  simp only [Tryd.ntmps19, List.size_toArray, List.length_cons, List.length_nil, Nat.reduceAdd, Nat.reduceSub, Array.replicate_succ, Array.replicate_zero, List.push_toArray, List.append_toArray, List.nil_append, List.cons_append]
  gi_wp2
  go_ret
  exact ⟨rfl, rfl⟩

theorem tokens_stops (s : ByteArray) (hs : s.size ≤ 1000000) (n : Nat) (hn : 1 ≤ n) (Lb Bs : Nat) (w : World) (hI : Itr Lb Bs s w w) :
    SeqStopsK Fence.wide n Tryd.prog 26 #[.pointer (some ⟨Bs, 0, none⟩)] encI (KpL Lb) (fun ys => ys = itemsV s) (fun pre => ∃ k, pre = (itemsV s).take k) (itemsV s).length w := fun l J Jx W hW hJ _ hY h0 => by
  have h1 := hI.under hW
  have hz := hW.size
  refine tokens1_in s hs n hn l Lb Bs J Jx (fun pre A B h hAB => hJ pre A B none h (grown_of_below hAB) (fun r e => by cases e)) hY W
    ⟨⟨Nat.lt_of_lt_of_le h1.lo.1 hz, h1.lo.2⟩, ⟨Nat.lt_of_lt_of_le h1.hi.1 hz, Nat.lt_of_lt_of_le h1.hi.2.1 hz, Nat.lt_of_lt_of_le h1.hi.2.2.1 hz, Nat.lt_of_lt_of_le h1.hi.2.2.2 hz⟩, Nat.le_refl _, h1.box, h1.env, fun k hk => ?_⟩ h0
  have h2 := hI.row k ((rowIn_eq (hW.block Lb h1.lo.1) k).1 hk)
  omega

theorem ownsRow_grown {w w' : World} {row : Option Nat} {base : Nat} {e : TypeId} {size : Nat} {v : Value} {n : Nat} {xs : List Value} (h : w.ownsRow base e size v n xs) (hg : w.grownBy w' row)
    (hr : ∀ r, row = some r → ∃ o : Obj, w.heap[r]? = some o ∧ o.isCells = false) : w'.ownsRow base e size v n xs := by
  obtain ⟨h1, h2⟩ := h
  refine ⟨h1, ?_⟩
  rcases h2 with h2 | ⟨g, cap, cur, hv, hb, hc, h3, h4, h5, h6⟩
  · exact .inl h2
  · exact .inr ⟨g, cap, cur, hv, hb, (grownBy_keeps_cells hg hr hc rfl).trans hc, h3, h4, h5, h6⟩

theorem four_blocks (w : World) (o0 o1 o2 o3 : Obj) : ((((w.alloc o0).alloc o1).alloc o2).alloc o3).heap[w.heap.size]? = some o0 ∧ ((((w.alloc o0).alloc o1).alloc o2).alloc o3).heap[w.heap.size + 1]? = some o1 ∧
    ((((w.alloc o0).alloc o1).alloc o2).alloc o3).heap[w.heap.size + 2]? = some o2 ∧ ((((w.alloc o0).alloc o1).alloc o2).alloc o3).heap[w.heap.size + 3]? = some o3 := by
  have z1 : (w.alloc o0).heap.size = w.heap.size + 1 := World.size_alloc _ _
  have z2 : ((w.alloc o0).alloc o1).heap.size = w.heap.size + 2 := by rw [World.size_alloc, z1]
  have z3 : (((w.alloc o0).alloc o1).alloc o2).heap.size = w.heap.size + 3 := by rw [World.size_alloc, z2]
  have a0 := block_alloc w o0
  have a1 := block_alloc (w.alloc o0) o1
  have a2 := block_alloc ((w.alloc o0).alloc o1) o2
  have a3 := block_alloc (((w.alloc o0).alloc o1).alloc o2) o3
  rw [z1] at a1
  rw [z2] at a2
  rw [z3] at a3
  have b1 : ∀ k, k < w.heap.size + 1 → ((w.alloc o0).alloc o1).heap[k]? = (w.alloc o0).heap[k]? := fun k hk => Below.heap_alloc _ _ _ (by rw [z1]; exact hk)
  have b2 : ∀ k, k < w.heap.size + 2 → (((w.alloc o0).alloc o1).alloc o2).heap[k]? = ((w.alloc o0).alloc o1).heap[k]? := fun k hk => Below.heap_alloc _ _ _ (by rw [z2]; exact hk)
  have b3 : ∀ k, k < w.heap.size + 3 → ((((w.alloc o0).alloc o1).alloc o2).alloc o3).heap[k]? = (((w.alloc o0).alloc o1).alloc o2).heap[k]? := fun k hk => Below.heap_alloc _ _ _ (by rw [z3]; exact hk)
  exact ⟨by rw [b3 _ (by omega), b2 _ (by omega), b1 _ (by omega)]; exact a0, by rw [b3 _ (by omega), b2 _ (by omega)]; exact a1, by rw [b3 _ (by omega)]; exact a2, a3⟩

/-- What stands between two rounds. -/
structure ScI (w : World) (pre : List Itm) (W : World) : Prop where
  ok : ∀ p ∈ pre, p.2.1 = 0
  below : Below w.heap.size w W
  room : w.heap.size + 4 ≤ W.heap.size
  r0 : W.heap[w.heap.size]? = some (.cells #[.slice none 0 0] 34 (0, 0))
  r1 : W.heap[w.heap.size + 1]? = some (.cells #[.int .i64 0, .int .i64 0] 28 (0, 0))
  row : ∃ v, W.heap[w.heap.size + 2]? = some (.cells #[v] 34 (0, 0)) ∧ W.ownsRow (w.heap.size + 4) 25 4 v pre.length (flatTk (pre.map (·.1)))
/-- What stands behind a flaw. -/
structure ScX (w : World) (c : Code) (pre : List Itm) (W : World) : Prop where
  is : c = .ret
  below : Below w.heap.size w W
  last : ∃ ini x, pre = ini ++ [x] ∧ (∀ p ∈ ini, p.2.1 = 0) ∧ x.2.1 ≠ 0 ∧ W.heap[w.heap.size]? = some (.cells #[.slice none 0 0] 34 (0, 0)) ∧ W.heap[w.heap.size + 1]? = some (.cells #[.int .i64 x.2.1, .int .i64 x.2.2] 28 (0, 0))
theorem ScI.own {w : World} {B : Nat} (hB : w.heap.size ≤ B) : OwnFrom B (fun pre W => ScI w pre W) := fun s A C row h hg hr => by
  have hk : ∀ {k : Nat} {o : Obj}, A.heap[k]? = some o → o.isCells = true → C.heap[k]? = some o := fun hk ho => (grownBy_keeps_cells hg (fun r e => (hr r e).2) hk ho).trans hk
  obtain ⟨v, hv, ho⟩ := h.row
  exact ⟨h.ok, h.below.grown hg h.below.size (fun k e => Nat.le_trans hB (hr k e).1), Nat.le_trans h.room hg.size, hk h.r0 rfl, hk h.r1 rfl, v, hk hv rfl, ownsRow_grown ho hg (fun r e => (hr r e).2)⟩
theorem ScX.own {w : World} {B : Nat} (hB : w.heap.size ≤ B) (c : Code) : OwnFrom B (fun pre W => ScX w c pre W) := fun s A C row h hg hr => by
  have hk : ∀ {k : Nat} {o : Obj}, A.heap[k]? = some o → o.isCells = true → C.heap[k]? = some o := fun hk ho => (grownBy_keeps_cells hg (fun r e => (hr r e).2) hk ho).trans hk
  obtain ⟨ini, x, e1, e2, e3, e4, e5⟩ := h.last
  exact ⟨h.is, h.below.grown hg h.below.size (fun k e => Nat.le_trans hB (hr k e).1), ini, x, e1, e2, e3, hk e4 rfl, hk e5 rfl⟩

/-- What the round's own code stands on: its variables' boxes. -/
def ScA (s : ByteArray) (w : World) (x : Itm) (a : Act) (W : World) : Prop :=
  ∃ B, w.heap.size + 4 ≤ B ∧ a = { tmps := #[.string s, undef, .pointer (some ⟨w.heap.size, 0, none⟩), .pointer (some ⟨w.heap.size + 1, 0, none⟩), .pointer (some ⟨w.heap.size + 2, 0, none⟩), .pointer (some ⟨B, 0, none⟩), .pointer (some ⟨B + 1, 0, none⟩), .string s, .func (.func 26) #[] #[.pointer (some ⟨w.heap.size + 3, 0, none⟩)], x.1.v, .agg #[.int .i64 x.2.1, .int .i64 x.2.2], undef, undef, undef, undef, undef, undef, undef, undef, undef, undef], defers := [] } ∧
    W.heap[B]? = some (.cells #[.int .i8 x.1.k, .int .i64 x.1.n, .string x.1.s, .int .i64 x.1.a] 25 (0, 0)) ∧ W.heap[B + 1]? = some (.cells #[.int .i64 x.2.1, .int .i64 x.2.2] 28 (0, 0))
theorem ScA.own {s : ByteArray} {w : World} {D : Nat} (x : Itm) (a : Act) : OwnFrom D (fun (_ : Unit) W => ScA s w x a W) := fun u A C row h hg hr => by
  have hk : ∀ {k : Nat} {o : Obj}, A.heap[k]? = some o → o.isCells = true → C.heap[k]? = some o := fun hk ho => (grownBy_keeps_cells hg (fun r e => (hr r e).2) hk ho).trans hk
  obtain ⟨B, hB, e, h4, h6⟩ := h
  exact ⟨B, hB, e, hk h4 rfl, hk h6 rfl⟩

theorem scanL_flaw : ∀ (f o : Nat) (l : List UInt8) (e : Int) (a : Nat), (scanL f o l).2 = some (e, a) → e = 11 ∨ e = 60
  | 0, _, _, _, _, h => by simp [scanL] at h
  | f + 1, o, l, e, a, h => by
    rw [scanL] at h
    split at h
    · cases h
    · rename_i c t _
      cases hk : tokL (c :: t) with
      | bad e' =>
        rw [hk] at h
        simp only [Option.some.injEq, Prod.mk.injEq] at h
        rw [← h.1]
        exact tok_bad hk
      | tok k n len sl => rw [hk] at h; exact scanL_flaw f _ _ e a h
theorem items_ok {s : ByteArray} (h : ∀ p ∈ itemsV s, p.2.1 = 0) : scanV s = ((itemsV s).map (·.1), 0, 0) := by
  unfold itemsV at h ⊢
  unfold scanV
  by_cases hb : 8192 < s.size
  · rw [if_pos hb] at h
    have := h _ (List.mem_singleton.2 rfl)
    cases this
  · rw [if_neg hb] at h ⊢
    rw [if_neg hb]
    cases hf : (scanL s.size 0 s.data.toList).2 with
    | none =>
      dsimp only
      rw [flI, List.append_nil, List.map_map]
      rfl
    | some q =>
      obtain ⟨e, a⟩ := q
      rw [hf] at h
      have h1 := h (tk0, e, (a : Int)) (by simp [flI])
      have h2 := scanL_flaw _ _ _ _ _ hf
      dsimp only at h1
      omega
theorem items_bad {s : ByteArray} {k : Nat} {ini : List Itm} {x : Itm} (h : (itemsV s).take k = ini ++ [x]) (hx : x.2.1 ≠ 0) : scanV s = ([], x.2.1, x.2.2) := by
  have hm : x ∈ itemsV s := List.mem_of_mem_take (by rw [h]; simp)
  unfold itemsV at hm
  unfold scanV
  by_cases hb : 8192 < s.size
  · rw [if_pos hb] at hm ⊢
    rw [List.mem_singleton.1 hm]
  · rw [if_neg hb] at hm ⊢
    rcases List.mem_append.1 hm with h1 | h1
    · obtain ⟨y, _, rfl⟩ := List.mem_map.1 h1
      exact (hx rfl).elim
    · cases hf : (scanL s.size 0 s.data.toList).2 with
      | none => rw [hf] at h1; simp [flI] at h1
      | some q =>
        obtain ⟨e, a⟩ := q
        rw [hf] at h1
        simp only [flI, List.mem_singleton] at h1
        rw [h1]
theorem ownsRow_keep {w w' : World} {base : Nat} {e : TypeId} {size : Nat} {v : Value} {n : Nat} {xs : List Value} (h : w.ownsRow base e size v n xs) (hk : ∀ g o, base ≤ g → w.heap[g]? = some o → o.isCells = true → w'.heap[g]? = some o) : w'.ownsRow base e size v n xs := by
  obtain ⟨h1, h2⟩ := h
  refine ⟨h1, ?_⟩
  rcases h2 with h2 | ⟨g, cap, cur, hv, hb, hc, h3⟩
  · exact .inl h2
  · exact .inr ⟨g, cap, cur, hv, hb, hk _ _ hb hc rfl, h3⟩
/-- Scan's last step: the deferred calls, of which there are none; the results. -/
theorem scan_out {s : ByteArray} {w V : World} {D : Nat} {tm : Array Value} {v : Value} {e p : Int} {L : List Tk} (h0 : V.heap[w.heap.size]? = some (.cells #[v] 34 (0, 0))) (h1 : V.heap[w.heap.size + 1]? = some (.cells #[.int .i64 e, .int .i64 p] 28 (0, 0)))
    (hK : V.heap[D]? = some (.deferred (some []))) (hD : w.heap.size + 4 ≤ D) (hb : Below w.heap.size w V) (hv : V.ownsRow (w.heap.size + 4) 25 4 v L.length (flatTk L)) (hs : scanV s = (L, e, p))
    (t2 : tm.getD 2 undef = .pointer (some ⟨w.heap.size, 0, none⟩)) (t3 : tm.getD 3 undef = .pointer (some ⟨w.heap.size + 1, 0, none⟩)) :
    bodyPostM Fence.wide 3 Tryd.prog Tryd.f11 (ScanP s w) Exit.ret { tmps := tm, defers := [{ target := .collected D, args := #[] }] } V := by
  have hput : ∀ b, b ≠ D → (V.putObj D (.deferred none)).heap[b]? = V.heap[b]? := fun b h => World.putObj_heap_other h
  have c0 : (V.putObj D (.deferred none)).cell? ⟨w.heap.size, 0, none⟩ = some v := cell_of_row ((hput _ (by omega)).trans h0) rfl
  have c1 : (V.putObj D (.deferred none)).cell? ⟨w.heap.size + 1, 0, none⟩ = some (.int .i64 e) := cell_of_row ((hput _ (by omega)).trans h1) rfl
  have c2 : (V.putObj D (.deferred none)).cell? ⟨w.heap.size + 1, 1, none⟩ = some (.int .i64 p) := cell_of_row ((hput _ (by omega)).trans h1) rfl
  have ho : (V.putObj D (.deferred none)).ownsRow (w.heap.size + 4) 25 4 v L.length (flatTk L) := ownsRow_keep hv (fun g o _ hg hc => (hput g (fun e => by subst e; rw [hK] at hg; cases hg; cases hc)).trans hg)
  obtain ⟨A, c, rfl, hr⟩ := own_tkRow ho
  refine ⟨by simp, .inl ⟨_, _, rfl, run_takeDeferred hK, ?_⟩⟩
  have t2' : tm[2]?.getD undef = .pointer (some ⟨w.heap.size, 0, none⟩) := by simpa using t2
  have t3' : tm[3]?.getD undef = .pointer (some ⟨w.heap.size + 1, 0, none⟩) := by simpa using t3
  refine ⟨.tuple #[.slice A L.length c, .agg #[.int .i64 e, .int .i64 p]], ?_, ?_⟩
  · simp [results, Tryd.f11, go_sem, c0, c1, c2, t2', t3']
  · refine ⟨A, c, ?_, ?_, hb.trans (belowK_b (w := w) (Nat.le_refl _) _ D _ _ (by omega) hK rfl rfl)⟩
    · rw [hs]
    · rw [hs]; exact hr

theorem itemsV_len (s : ByteArray) : (itemsV s).length ≤ s.size + 1 := by
  unfold itemsV
  split
  · simp
  · have h := scanL_len s.size 0 s.data.toList
    rw [List.length_append, List.length_map]
    have : (flI (scanL s.size 0 s.data.toList).2).length ≤ 1 := by
      cases (scanL s.size 0 s.data.toList).2 with
      | none => simp [flI]
      | some q => obtain ⟨e, a⟩ := q; simp [flI]
    omega

theorem ownsRow_slice {w : World} {base : Nat} {e : TypeId} {size : Nat} {v : Value} {n : Nat} {xs : List Value} (h : w.ownsRow base e size v n xs) : ∃ A c, v = .slice A n c := by
  rcases h.2 with ⟨rfl, rfl⟩ | ⟨g, cap, cur, rfl, _⟩
  · exact ⟨_, _, rfl⟩
  · exact ⟨_, _, rfl⟩
theorem own_not {w : World} {base : Nat} {e : TypeId} {size : Nat} {v : Value} {n : Nat} {xs : List Value} (h : w.ownsRow base e size v n xs) {b : Nat} (hb : b < base) : v.ownBlock ≠ some b := fun hv => by
  rcases h.2 with ⟨rfl, _⟩ | ⟨g', cap, cur, rfl, h2, _⟩
  · cases hv
  · simp only [Value.ownBlock, Option.some.injEq] at hv
    omega
theorem keepsFrom_below {B : Nat} {A C : World} (h : Below A.heap.size A C) : KeepsFrom B A C := ⟨h.size, fun k o _ hk _ => (h.block k (heap_lt hk)).trans hk⟩
theorem ScI.under {w : World} {pre : List Itm} {A C : World} (h : ScI w pre A) (b : Below A.heap.size A C) : ScI w pre C := by
  have hk : ∀ {k : Nat} {o : Obj}, A.heap[k]? = some o → C.heap[k]? = some o := fun hk => (b.block _ (heap_lt hk)).trans hk
  obtain ⟨v, hv, ho⟩ := h.row
  obtain ⟨h1, h2⟩ := ho
  refine ⟨h.ok, h.below.trans (b.mono h.below.size), Nat.le_trans h.room b.size, hk h.r0, hk h.r1, v, hk hv, h1, ?_⟩
  rcases h2 with h2 | ⟨g, cap, cur, hv, hb, hc, h3⟩
  · exact .inl h2
  · exact .inr ⟨g, cap, cur, hv, hb, hk hc, h3⟩

/-- A round that meets the flaw. -/
theorem round_bad {w W : World} {D : Nat} {I : List Itm → World → Prop} {Kp : World → World → Prop} {a' : Act} {pre : List Itm} {k m a e p : Int} {q : ByteArray} (hi : ScI w pre W) (he : e ≠ 0) :
    ownPostG D Kp I (ScX w) (pre ++ [(⟨k, m, q, a⟩, e, p)]) W Exit.ret a' (((W.setCell ⟨w.heap.size, 0, none⟩ (.slice none 0 0)).setCell ⟨w.heap.size + 1, 0, none⟩ (.int .i64 e)).setCell ⟨w.heap.size + 1, 1, none⟩ (.int .i64 p)).drew := by
  have m0 : Mod (fun b => b = w.heap.size) W (W.setCell ⟨w.heap.size, 0, none⟩ (.slice none 0 0)) := Mod.setCell _ _ _ (.inl rfl)
  have g0 : (W.setCell ⟨w.heap.size, 0, none⟩ (.slice none 0 0)).heap[w.heap.size]? = some (.cells #[.slice none 0 0] 34 (0, 0)) := set_row _ (i := 0) hi.r0
  have g1 := (m0.block _ (heap_lt hi.r1) (by omega)).trans hi.r1
  generalize W.setCell ⟨w.heap.size, 0, none⟩ (.slice none 0 0) = W1 at m0 g0 g1 ⊢
  have h1 : ∀ (V : World) (i : Nat) (c : Value), Mod (fun b => b = w.heap.size + 1) V (V.setCell ⟨w.heap.size + 1, i, none⟩ c) := fun V i c => Mod.setCell _ _ _ (.inl rfl)
  have m2 := (h1 W1 0 (.int .i64 e)).trans (h1 _ 1 (.int .i64 p)) (fun _ _ h => h)
  have g2 : ((W1.setCell ⟨w.heap.size + 1, 0, none⟩ (.int .i64 e)).setCell ⟨w.heap.size + 1, 1, none⟩ (.int .i64 p)).heap[w.heap.size + 1]? = some (.cells #[.int .i64 e, .int .i64 p] 28 (0, 0)) := set_row _ (i := 1) (set_row _ (i := 0) g1)
  generalize (W1.setCell ⟨w.heap.size + 1, 0, none⟩ (.int .i64 e)).setCell ⟨w.heap.size + 1, 1, none⟩ (.int .i64 p) = W2 at m2 g2 ⊢
  have mm : Mod (fun b => b = w.heap.size ∨ b = w.heap.size + 1) W W2 := (m0.mono (fun _ _ h => .inl h)).trans m2 (fun _ _ h => .inr h)
  have hb : Below w.heap.size w W2 := hi.below.trans (mm.below hi.below.size (fun k e => by omega))
  have kk : ∀ {b : Nat} {o : Obj}, W.heap[b]? = some o → o.isCells = false → W2.heap[b]? = some o := fun {b o} hk hc => by
    refine (mm.block b (heap_lt hk) (fun h => ?_)).trans hk
    rcases h with rfl | rfl
    · rw [hi.r0] at hk; cases hk; cases hc
    · rw [hi.r1] at hk; cases hk; cases hc
  refine ⟨⟨mm.size, fun b o _ hk hc => kk hk hc⟩, ⟨rfl, ?_, pre, _, rfl, hi.ok, he, (m2.block _ (heap_lt g0) (by omega)).trans g0, g2⟩⟩
  exact ⟨hb.os, hb.tape, hb.output, hb.size, hb.block⟩

/-- A round that appends its token. -/
theorem round_ok {w W w5 : World} {D : Nat} {pre : List Itm} {k m a p : Int} {q : ByteArray} {v v' : Value} (hi : ScI w pre W) (hD : D = w.heap.size + 4) (hW : D ≤ W.heap.size)
    (hv : W.heap[w.heap.size + 2]? = some (.cells #[v] 34 (0, 0))) (ho : W.ownsRow (w.heap.size + 4) 25 4 v pre.length (flatTk (pre.map (·.1))))
    (h5 : w5.ownsRow (w.heap.size + 4) 25 4 v' (pre.length + 1) (flatTk (pre.map (·.1)) ++ [.int .i8 k, .int .i64 m, .string q, .int .i64 a]))
    (g5 : (W.alloc (.cells #[.int .i8 k, .int .i64 m, .string q, .int .i64 a] 25)).grownBy w5 v.ownBlock)
    (a5 : v'.ownBlock = v.ownBlock ∨ v'.ownBlock = some (W.alloc (.cells #[.int .i8 k, .int .i64 m, .string q, .int .i64 a] 25)).heap.size) :
    KeepsFrom D W (w5.setCell ⟨w.heap.size + 2, 0, none⟩ v') ∧ KpL (w.heap.size + 2) W (w5.setCell ⟨w.heap.size + 2, 0, none⟩ v') ∧ ScI w (pre ++ [(⟨k, m, q, a⟩, 0, p)]) (w5.setCell ⟨w.heap.size + 2, 0, none⟩ v') := by
  obtain ⟨X, hX⟩ : ∃ X, X = W.alloc (.cells #[.int .i8 k, .int .i64 m, .string q, .int .i64 a] 25) := ⟨_, rfl⟩
  rw [← hX] at g5 a5
  have hXz : X.heap.size = W.heap.size + 1 := by rw [hX]; exact World.size_alloc _ _
  have hXb : ∀ b, b < W.heap.size → X.heap[b]? = W.heap[b]? := fun b hb => by rw [hX]; exact Below.heap_alloc _ _ _ hb
  have hown : ∀ g, v.ownBlock = some g → w.heap.size + 4 ≤ g ∧ ∃ cur, W.heap[g]? = some (.cells cur 25 (0, 0)) := fun g hg => by
    rcases ho.2 with ⟨rfl, _⟩ | ⟨g', cap, cur, rfl, hb, hc, _⟩
    · cases hg
    · simp only [Value.ownBlock, Option.some.injEq] at hg
      subst hg
      exact ⟨hb, cur, hc⟩
  have hown5 : ∀ g, v'.ownBlock = some g → g < w5.heap.size := fun g hg => by
    rcases h5.2 with ⟨rfl, _⟩ | ⟨g', cap, cur, rfl, hb, hc, _⟩
    · cases hg
    · simp only [Value.ownBlock, Option.some.injEq] at hg
      subst hg
      exact heap_lt hc
  have hz5 : X.heap.size ≤ w5.heap.size := g5.size
  have mm : Mod (fun b => b = w.heap.size + 2) w5 (w5.setCell ⟨w.heap.size + 2, 0, none⟩ v') := Mod.setCell _ _ _ (.inl rfl)
  have h5b : ∀ b, b < W.heap.size → v.ownBlock ≠ some b → w5.heap[b]? = W.heap[b]? := fun b hb hr => (g5.block b (by omega) (fun e => hr e.symm)).trans (hXb b hb)
  have hFb : ∀ b, b < W.heap.size → b ≠ w.heap.size + 2 → v.ownBlock ≠ some b → (w5.setCell ⟨w.heap.size + 2, 0, none⟩ v').heap[b]? = W.heap[b]? := fun b hb hL hr => (mm.block b (by omega) hL).trans (h5b b hb hr)
  have hz : (w5.setCell ⟨w.heap.size + 2, 0, none⟩ v').heap.size = w5.heap.size := by simp [World.setCell]
  have hL5 : w5.heap[w.heap.size + 2]? = some (.cells #[v] 34 (0, 0)) := (h5b _ (heap_lt hv) (fun e => by have := (hown _ e).1; omega)).trans hv
  have hLF : (w5.setCell ⟨w.heap.size + 2, 0, none⟩ v').heap[w.heap.size + 2]? = some (.cells #[v'] 34 (0, 0)) := set_row v' (i := 0) hL5
  have hcell : W.cell? ⟨w.heap.size + 2, 0, none⟩ = some v := cell_of_row hv rfl
  have hrow : ∀ b, rowIn (w.heap.size + 2) W b ↔ v.ownBlock = some b := fun b => by
    unfold rowIn
    rw [hcell]
    constructor
    · rintro ⟨u, hu, ho⟩; cases hu; exact ho
    · intro h; exact ⟨v, rfl, h⟩
  refine ⟨⟨by rw [hz]; omega, fun b o hb hk hc => ?_⟩, ⟨by rw [hz]; omega, fun b o hk hc hL hr => ?_, fun b hb => ?_⟩, ⟨?_, ?_, by rw [hz]; omega, ?_, ?_, v', hLF, ?_⟩⟩
  · refine (hFb b (heap_lt hk) (fun e => ?_) (fun e => ?_)).trans hk
    · omega
    · obtain ⟨_, cur, hcur⟩ := hown b e
      rw [hcur] at hk; cases hk; cases hc
  · exact (hFb b (heap_lt hk) hL (fun e => hr ((hrow b).2 e))).trans hk
  · obtain ⟨u, hu, hob⟩ := hb
    rw [cell_of_row hLF rfl] at hu
    cases hu
    have hlt := hown5 b hob
    have hob' : v'.ownBlock = some b := hob
    rcases a5 with e | e
    · exact .inl ((hrow b).2 (e.symm.trans hob'))
    · have e2 := hob'.symm.trans e
      simp only [Option.some.injEq] at e2
      exact .inr ⟨by omega, by rw [hz]; exact hlt⟩
  · intro x hx
    rcases List.mem_append.1 hx with h | h
    · exact hi.ok x h
    · simp at h; subst h; rfl
  · have hb1 : Below w.heap.size w X := by rw [hX]; exact hi.below.alloc (by omega) _
    exact (hb1.grown g5 (by omega) (fun g e => by have := (hown g e).1; omega)).setCell (by show _ ≤ w.heap.size + 2; omega) _
  · exact (hFb _ (by omega) (by omega) (fun e => by have := (hown _ e).1; omega)).trans hi.r0
  · exact (hFb _ (by omega) (by omega) (fun e => by have := (hown _ e).1; omega)).trans hi.r1
  · have hfl : flatTk ((pre ++ [((⟨k, m, q, a⟩, 0, p) : Itm)]).map (·.1)) = flatTk (pre.map (·.1)) ++ [.int .i8 k, .int .i64 m, .string q, .int .i64 a] := by
      rw [List.map_append, flatTk_append]
      congr 1
    rw [hfl, List.length_append]
    obtain ⟨h1, h2⟩ := h5
    refine ⟨h1, ?_⟩
    rcases h2 with h2 | ⟨g', cap, cur, hv', hb, hc, h3⟩
    · exact .inl h2
    · exact .inr ⟨g', cap, cur, hv', hb, (mm.block g' (heap_lt hc) (by omega)).trans hc, h3⟩

set_option maxRecDepth 100000 in
set_option maxHeartbeats 4000000 in
theorem sScan_any (s : ByteArray) (w : World) (hs : s.size ≤ 1000000) (hE : ScanE w) : Calls Tryd.prog 11 #[.string s] w (ScanP s w) := by
  obtain ⟨w4, hw4⟩ : ∃ w4, w4 = (((w.alloc (.cells #[.slice none 0 0] 34)).alloc (.cells #[.int .i64 0, .int .i64 0] 28)).alloc (.cells #[.slice none 0 0] 34)).alloc (.cells #[.string s] 9) := ⟨_, rfl⟩
  have hz4 : w4.heap.size = w.heap.size + 4 := by rw [hw4]; simp
  have b4 : Below w.heap.size w w4 := by rw [hw4]; exact ((((Below.refl _ w).alloc (Nat.le_refl _) _).alloc (by simp) _).alloc (by simp; omega) _).alloc (by simp; omega) _
  obtain ⟨g0, g1, g2, g3⟩ := four_blocks w (.cells #[.slice none 0 0] 34) (.cells #[.int .i64 0, .int .i64 0] 28) (.cells #[.slice none 0 0] 34) (.cells #[.string s] 9)
  rw [← hw4] at g0 g1 g2 g3
  have hE4 := hE.under b4
  have hglob : 2 < w.heap.size ∧ 1 < w.heap.size ∧ 0 < w.heap.size := by
    obtain ⟨⟨_, _, h1⟩, ⟨_, _, h2⟩, ⟨_, _, h3⟩⟩ := hE
    exact ⟨heap_lt h1, heap_lt h2, heap_lt h3⟩
  have hI : Itr (w.heap.size + 2) (w.heap.size + 3) s w4 w4 := ⟨⟨by omega, by omega, by omega, by omega, by omega⟩, ⟨by omega, by omega, by omega, by omega⟩, Nat.le_refl _, g3, hE4, fun k hk => by
    obtain ⟨v, hv, ho⟩ := hk
    rw [cell_of_row g2 rfl] at hv
    cases hv
    cases ho⟩
  have h0 : ScI w [] w4 := ⟨by simp, b4, by omega, g0, g1, _, g2, rfl, .inl ⟨rfl, rfl⟩⟩
  have HI := Lib.hid hI
  have HI0 := Lib.hid h0
  have HZ4 := Lib.hid hz4
  clear hI h0 g0 g1 g2 g3 b4 hE4 hglob hE hz4
  refine (callsIn_wide (n := 3)).1 ?_
  refine callsIn_of_wp_marks Tryd.func11 rfl trivial ?_ rfl
  simp only [Tryd.ntmps11, List.size_toArray, List.length_cons, List.length_nil, Nat.reduceAdd, Nat.reduceSub, Array.replicate_succ, Array.replicate_zero, List.push_toArray, List.append_toArray, List.nil_append, List.cons_append]
  gi_wp2_with (refine ⟨trivial, ?_⟩; gi_at_call 19; refine (tokens_in _ _ _).mono ?_; rintro e w' ⟨rfl, rfl⟩)
  rw [← hw4]
  have e2 : w.heap.size + 1 + 1 = w.heap.size + 2 := by omega
  have e3 : w.heap.size + 2 + 1 = w.heap.size + 3 := by omega
  rw [e2, e3]
  clear hw4
  refine wpIn_rangeFunc_ownH rfl (by decide) (gf := 26) (lb := #[.pointer (some ⟨w.heap.size + 3, 0, none⟩)]) rfl trivial (enters_of Tryd.func26 (by kernel_rfl) rfl)
    (tokens_stops s hs (3 - 1) (by decide) (w.heap.size + 2) (w.heap.size + 3) w4 HI.out) KpL.trans (fun W l o o' hl h ho _ => KpL.put (by have := HZ4.out; omega) h ho) (Below.refl _ _) (fun _ => rfl)
    (ScI w) (ScX w) (ScI.own (by have := HZ4.out; omega)) (ScX.own (by have := HZ4.out; omega)) HI0.out (ScA s w) (fun x a => ScA.own x a) ?assign ?body ?done ?stop
  case assign =>
    rintro l pre ⟨⟨k, m, q, a⟩, e, p⟩ W K hi hK
    have HSW := Lib.hid hi.room
    simp only [encI, Tk.v]
    have x0 : (W.alloc (.cells #[.int .i8 0, .int .i64 0, .string ⟨#[]⟩, .int .i64 0] 25)).cell? ⟨W.heap.size, 0, none⟩ = some (.int .i8 0) := cell_of_row (block_alloc _ _) rfl
    have xf0 : (W.alloc (.cells #[.int .i8 0, .int .i64 0, .string ⟨#[]⟩, .int .i64 0] 25)).frozen? ⟨W.heap.size, 0, none⟩ = false := free_of_row (block_alloc _ _)
    have x1 : (W.alloc (.cells #[.int .i8 0, .int .i64 0, .string ⟨#[]⟩, .int .i64 0] 25)).cell? ⟨W.heap.size, 1, none⟩ = some (.int .i64 0) := cell_of_row (block_alloc _ _) rfl
    have xf1 : (W.alloc (.cells #[.int .i8 0, .int .i64 0, .string ⟨#[]⟩, .int .i64 0] 25)).frozen? ⟨W.heap.size, 1, none⟩ = false := free_of_row (block_alloc _ _)
    have x2 : (W.alloc (.cells #[.int .i8 0, .int .i64 0, .string ⟨#[]⟩, .int .i64 0] 25)).cell? ⟨W.heap.size, 2, none⟩ = some (.string ⟨#[]⟩) := cell_of_row (block_alloc _ _) rfl
    have xf2 : (W.alloc (.cells #[.int .i8 0, .int .i64 0, .string ⟨#[]⟩, .int .i64 0] 25)).frozen? ⟨W.heap.size, 2, none⟩ = false := free_of_row (block_alloc _ _)
    have x3 : (W.alloc (.cells #[.int .i8 0, .int .i64 0, .string ⟨#[]⟩, .int .i64 0] 25)).cell? ⟨W.heap.size, 3, none⟩ = some (.int .i64 0) := cell_of_row (block_alloc _ _) rfl
    have xf3 : (W.alloc (.cells #[.int .i8 0, .int .i64 0, .string ⟨#[]⟩, .int .i64 0] 25)).frozen? ⟨W.heap.size, 3, none⟩ = false := free_of_row (block_alloc _ _)
    have z1 : (W.alloc (.cells #[.int .i8 k, .int .i64 m, .string q, .int .i64 a] 25)).heap.size = W.heap.size + 1 := World.size_alloc _ _
    have G2 : ((W.alloc (.cells #[.int .i8 k, .int .i64 m, .string q, .int .i64 a] 25)).alloc (.cells #[.int .i64 0, .int .i64 0] 28)).heap[W.heap.size + 1]? = some (.cells #[.int .i64 0, .int .i64 0] 28 (0, 0)) := by rw [← z1]; exact block_alloc _ _
    have y0 : ((W.alloc (.cells #[.int .i8 k, .int .i64 m, .string q, .int .i64 a] 25)).alloc (.cells #[.int .i64 0, .int .i64 0] 28)).cell? ⟨W.heap.size + 1, 0, none⟩ = some (.int .i64 0) := cell_of_row G2 rfl
    have yf0 : ((W.alloc (.cells #[.int .i8 k, .int .i64 m, .string q, .int .i64 a] 25)).alloc (.cells #[.int .i64 0, .int .i64 0] 28)).frozen? ⟨W.heap.size + 1, 0, none⟩ = false := free_of_row G2
    have y1 : ((W.alloc (.cells #[.int .i8 k, .int .i64 m, .string q, .int .i64 a] 25)).alloc (.cells #[.int .i64 0, .int .i64 0] 28)).cell? ⟨W.heap.size + 1, 1, none⟩ = some (.int .i64 0) := cell_of_row G2 rfl
    have yf1 : ((W.alloc (.cells #[.int .i8 k, .int .i64 m, .string q, .int .i64 a] 25)).alloc (.cells #[.int .i64 0, .int .i64 0] 28)).frozen? ⟨W.heap.size + 1, 1, none⟩ = false := free_of_row G2
    obtain ⟨g4, g6, bz⟩ := boxes_of W (.int .i8 k) (.int .i64 m) (.string q) (.int .i64 a) (.int .i64 e) (.int .i64 p)
    have HK := Lib.hid hK
    have HH := Lib.hid hi
    have HG := Lib.hid (And.intro g4 (And.intro g6 bz))
    clear hK hi g4 g6 bz G2 z1
    gi_wp2_with fail
    obtain ⟨g4, g6, bz⟩ := HG.out
    refine HK.out _ _ (keepsFrom_below bz) (KpL.of_below bz ?_) (HH.out.under bz) ⟨W.heap.size, ?_, rfl, g4, g6⟩
    · obtain ⟨v, hv, _⟩ := HH.out.row
      exact heap_lt hv
    · have := HZ4.out; have h2 := HSW.out; omega
  case body =>
    rintro l pre ⟨⟨k, m, q, a⟩, e, p⟩ a' W hl hrec hi ⟨B, hB, rfl, h4, h6⟩ _
    simp only [Tk.v]
    have y0 : W.cell? ⟨B + 1, 0, none⟩ = some (.int .i64 e) := cell_of_row h6 rfl
    have y1 : W.cell? ⟨B + 1, 1, none⟩ = some (.int .i64 p) := cell_of_row h6 rfl
    cases he : (e == 0)
    · have HH := Lib.hid hi
      have HNE : Hid (e ≠ 0) := beq_eq_false_iff_ne.1 he
      have hne : (e != 0) = true := by rw [bne, he]; rfl
      have d0 := hi.r0
      have d1 := hi.r1
      have u0 : W.cell? ⟨w.heap.size, 0, none⟩ = some (.slice none 0 0) := cell_of_row d0 rfl
      have uf0 : W.frozen? ⟨w.heap.size, 0, none⟩ = false := free_of_row d0
      have ur0 : W.cell? ⟨w.heap.size + 1, 0, none⟩ = some (.int .i64 0) := cell_of_row d1 rfl
      have urf0 : W.frozen? ⟨w.heap.size + 1, 0, none⟩ = false := free_of_row d1
      have ur1 : W.cell? ⟨w.heap.size + 1, 1, none⟩ = some (.int .i64 0) := cell_of_row d1 rfl
      have urf1 : W.frozen? ⟨w.heap.size + 1, 1, none⟩ = false := free_of_row d1
      clear hi d0 d1 he
      gi_wp2_with fail
      refine wpIn_region_any (by kernel_rfl) ?_
      change wpAnyIn _ _ _ _ _ _ _ _ _ (World.drew _)
      refine wpAnyIn_ready (rs := [0, 1]) (by kernel_rfl) (by simp) ?_
      refine AllReadyIn.cons rfl (fun K hK => ?_) (AllReadyIn.cons rfl (fun K hK => ?_) AllReadyIn.nil)
      · go_simp
        refine hK _ _ ?_
        clear hK K
        refine wpAnyIn_ready (rs := [1]) (by kernel_rfl) (by simp) ?_
        refine AllReadyIn.cons rfl (fun K hK => ?_) AllReadyIn.nil
        go_simp
        refine hK _ _ ?_
        clear hK K
        refine wpAnyIn_ready (rs := [2]) (by kernel_rfl) (by simp) ?_
        refine AllReadyIn.cons rfl (fun K hK => ?_) AllReadyIn.nil
        go_simp
        refine hK _ _ ?_
        clear hK K
        refine wpAnyIn_done (by kernel_rfl) ?_ _
        gi_wp2_with fail
        exact round_bad HH.out HNE.out
      · go_simp
        refine hK _ _ ?_
        clear hK K
        refine wpAnyIn_ready (rs := [0]) (by kernel_rfl) (by simp) ?_
        refine AllReadyIn.cons rfl (fun K hK => ?_) AllReadyIn.nil
        go_simp
        refine hK _ _ ?_
        clear hK K
        refine wpAnyIn_ready (rs := [2]) (by kernel_rfl) (by simp) ?_
        refine AllReadyIn.cons rfl (fun K hK => ?_) AllReadyIn.nil
        go_simp
        refine hK _ _ ?_
        clear hK K
        refine wpAnyIn_done (by kernel_rfl) ?_ _
        gi_wp2_with fail
        exact round_bad HH.out HNE.out
    · have HH := Lib.hid hi
      obtain ⟨v, hv, ho⟩ := hi.row
      have cv : W.cell? ⟨w.heap.size + 2, 0, none⟩ = some v := cell_of_row hv rfl
      have fv : W.frozen? ⟨w.heap.size + 2, 0, none⟩ = false := free_of_row hv
      have x0 : W.cell? ⟨B, 0, none⟩ = some (.int .i8 k) := cell_of_row h4 rfl
      have x1 : W.cell? ⟨B, 1, none⟩ = some (.int .i64 m) := cell_of_row h4 rfl
      have x2 : W.cell? ⟨B, 2, none⟩ = some (.string q) := cell_of_row h4 rfl
      have x3 : W.cell? ⟨B, 3, none⟩ = some (.int .i64 a) := cell_of_row h4 rfl
      have hWz : w4.heap.size ≤ W.heap.size := by
        have h1 := heap_lt h4
        have h2 := HZ4.out
        omega
      have h8 : e = 0 := by simpa using he
      subst h8
      obtain ⟨X, hX⟩ : ∃ X, X = W.alloc (.cells #[.int .i8 k, .int .i64 m, .string q, .int .i64 a] 25) := ⟨_, rfl⟩
      have hXo : X.ownsRow (w.heap.size + 4) 25 4 v pre.length (flatTk (pre.map (·.1))) := by rw [hX]; exact ownsRow_grown ho (World.grownBy_alloc _ _ none) (fun r e => by cases e)
      have hXg : X.heap[W.heap.size]? = some (.cells #[.int .i8 k, .int .i64 m, .string q, .int .i64 a] 25 (0, 0)) := by rw [hX]; exact block_alloc _ _
      have hXz : X.heap.size = W.heap.size + 1 := by rw [hX]; exact World.size_alloc _ _
      have hXv : X.heap[w.heap.size + 2]? = some (.cells #[v] 34 (0, 0)) := by rw [hX]; exact (Below.heap_alloc _ _ _ (heap_lt hv)).trans hv
      have hlen : pre.length + 1 ≤ 2000000 := by have := itemsV_len s; omega
      have hb5 : w.heap.size + 4 ≤ X.heap.size := by have := HZ4.out; omega
      have HXO := Lib.hid hXo
      have HXG := Lib.hid hXg
      have HXV := Lib.hid hXv
      have HO := Lib.hid ho
      have HV := Lib.hid hv
      have HLEN := Lib.hid hlen
      have HB5 := Lib.hid hb5
      have HWZ := Lib.hid hWz
      clear hi hXo hXg hXv ho hv hlen hb5 hWz
      gi_wp2_with (rw [← hX]; refine wpListIn_own_tok rfl _ _ rfl HXO.out HB5.out rfl _ rfl HXG.out HLEN.out ?_; intro v' w5 h5 g5 a5; obtain ⟨A5, c5, hv5⟩ := ownsRow_slice h5; subst hv5; have hL5 := (g5.block _ (heap_lt HXV.out) (fun e => own_not HO.out (by omega) e.symm)).trans HXV.out; have cv5 := cell_of_row (i := 0) hL5 rfl; have fv5 := free_of_row (i := 0) hL5; have HR5 := Lib.hid (And.intro h5 (And.intro g5 a5)); clear h5 g5 a5 hL5)
      obtain ⟨h5, g5, a5⟩ := HR5.out
      rw [hX] at g5 a5
      exact round_ok (p := p) HH.out HZ4.out HWZ.out HV.out HO.out h5 g5 a5
  case done =>
    rintro D ys W hD rfl hi hK
    obtain ⟨v, hv, ho⟩ := hi.row
    obtain ⟨A, c, rfl⟩ : ∃ A c, v = .slice A (itemsV s).length c := ownsRow_slice ho
    have cv : W.cell? ⟨w.heap.size + 2, 0, none⟩ = some (.slice A (itemsV s).length c) := cell_of_row hv rfl
    have u0 : W.cell? ⟨w.heap.size, 0, none⟩ = some (.slice none 0 0) := cell_of_row hi.r0 rfl
    have uf0 : W.frozen? ⟨w.heap.size, 0, none⟩ = false := free_of_row hi.r0
    have ur0 : W.cell? ⟨w.heap.size + 1, 0, none⟩ = some (.int .i64 0) := cell_of_row hi.r1 rfl
    have urf0 : W.frozen? ⟨w.heap.size + 1, 0, none⟩ = false := free_of_row hi.r1
    have ur1 : W.cell? ⟨w.heap.size + 1, 1, none⟩ = some (.int .i64 0) := cell_of_row hi.r1 rfl
    have urf1 : W.frozen? ⟨w.heap.size + 1, 1, none⟩ = false := free_of_row hi.r1
    have HH := Lib.hid hi
    have HK := Lib.hid hK
    have HO := Lib.hid ho
    clear hi hK hv ho
    gi_wp2_with fail
    have m0 : Mod (fun b => b = w.heap.size) W (W.setCell ⟨w.heap.size, 0, none⟩ (.slice A (itemsV s).length c)) := Mod.setCell _ _ _ (.inl rfl)
    have g0 : (W.setCell ⟨w.heap.size, 0, none⟩ (.slice A (itemsV s).length c)).heap[w.heap.size]? = some (.cells #[.slice A (itemsV s).length c] 34 (0, 0)) := set_row _ (i := 0) HH.out.r0
    have g1 := (m0.block _ (heap_lt HH.out.r1) (by omega)).trans HH.out.r1
    generalize W.setCell ⟨w.heap.size, 0, none⟩ (.slice A (itemsV s).length c) = W1 at m0 g0 g1 ⊢
    have h1 : ∀ (V : World) (i : Nat) (c : Value), Mod (fun b => b = w.heap.size + 1) V (V.setCell ⟨w.heap.size + 1, i, none⟩ c) := fun V i c => Mod.setCell _ _ _ (.inl rfl)
    have m2 := (h1 W1 0 (.int .i64 0)).trans (h1 _ 1 (.int .i64 0)) (fun _ _ h => h)
    have g2 : ((W1.setCell ⟨w.heap.size + 1, 0, none⟩ (.int .i64 0)).setCell ⟨w.heap.size + 1, 1, none⟩ (.int .i64 0)).heap[w.heap.size + 1]? = some (.cells #[.int .i64 0, .int .i64 0] 28 (0, 0)) := set_row _ (i := 1) (set_row _ (i := 0) g1)
    generalize (W1.setCell ⟨w.heap.size + 1, 0, none⟩ (.int .i64 0)).setCell ⟨w.heap.size + 1, 1, none⟩ (.int .i64 0) = W2 at m2 g2 ⊢
    have mm : Mod (fun b => b = w.heap.size ∨ b = w.heap.size + 1) W W2 := (m0.mono (fun _ _ h => .inl h)).trans m2 (fun _ _ h => .inr h)
    have hd : w.heap.size + 4 ≤ D := by have := HZ4.out; omega
    refine scan_out (L := (itemsV s).map (·.1)) ((m2.block _ (heap_lt g0) (by omega)).trans g0) g2 ((mm.block D (heap_lt HK.out) (by omega)).trans HK.out) hd (HH.out.below.trans (mm.below HH.out.below.size (fun k e => by omega))) ?_ (items_ok HH.out.ok) rfl rfl
    rw [List.length_map]
    exact ownsRow_keep HO.out (fun g o hg hk _ => (mm.block g (heap_lt hk) (by omega)).trans hk)
  case stop =>
    rintro D c pre W hD ⟨k, rfl⟩ hx hK
    obtain ⟨rfl, hb, ini, x, e1, e2, e3, e4, e5⟩ := hx
    have HX := Lib.hid (And.intro hb (And.intro e4 e5))
    have HE := Lib.hid (items_bad e1 e3)
    have HK := Lib.hid hK
    clear hb e4 e5 e1 e2 e3 hK
    gi_wp2_with fail
    have hd : w.heap.size + 4 ≤ D := by have := HZ4.out; omega
    exact scan_out (L := []) HX.out.2.1 HX.out.2.2 HK.out hd HX.out.1 ⟨rfl, .inl ⟨rfl, rfl⟩⟩ HE.out rfl rfl
end Go.Proofs.YtkaijnbefbggeaaDoor
