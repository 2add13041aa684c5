/- Layer 7: the program's Vars: its contract. -/
import Derived.Test.YtdimcddbmccniaaGreatDoorKPub7
import Derived.Test.YtdimcddbmccniaaGreatDoorKBoolMap
import Derived.Test.YtdimcddbmccniaaGreatDoorKAstT
import Derived.Laws.AppendOwn
set_option linter.unusedVariables false
namespace Go.Proofs.YtdimcddbmccniaaGreatDoor
open Go.RowKit Go.Shelf
attribute [local go_sem] Oper.semAt_some

def entsS (L : List ByteArray) : Array MapEntry := (L.mapIdx (fun i s => (⟨.string s, .agg #[], i⟩ : MapEntry))).toArray
theorem entsS_snoc (L : List ByteArray) (s : ByteArray) : entsS (L ++ [s]) = (entsS L).push ⟨.string s, .agg #[], L.length⟩ := by
  simp [entsS, List.mapIdx_append]
theorem entsS_miss {L : List ByteArray} {s : ByteArray} (h : s ∉ L) : Instr.findNow .string (.string s) (entsS L).toList 0 = some none := by
  have hkey : MapKept.IsKey .string (.string s) := by simp [MapKept.IsKey]
  rcases MapKept.findNow_spec hkey (entsS L).toList 0 (fun x hx => by
      simp only [entsS, List.mem_mapIdx] at hx
      obtain ⟨i, hi, rfl⟩ := hx
      simp [MapKept.IsKey]) with ⟨h1, h2⟩ | ⟨j, e, h1, h2, h3⟩
  · exact h1
  · exfalso
    simp only [entsS, List.getElem?_mapIdx] at h2
    cases hl : L[j]? with
    | none => simp [hl] at h2
    | some t =>
      simp [hl] at h2
      subst h2
      simp at h3
      subst h3
      exact h (List.mem_of_getElem? hl)
theorem entsS_hit {L : List ByteArray} {s : ByteArray} (h : s ∈ L) : ∃ j, Instr.findNow .string (.string s) (entsS L).toList 0 = some (some (j, .agg #[])) := by
  have hkey : MapKept.IsKey .string (.string s) := by simp [MapKept.IsKey]
  rcases MapKept.findNow_spec hkey (entsS L).toList 0 (fun x hx => by
      simp only [entsS, List.mem_mapIdx] at hx
      obtain ⟨i, hi, rfl⟩ := hx
      simp [MapKept.IsKey]) with ⟨h1, h2⟩ | ⟨j, e, h1, h2, h3⟩
  · exfalso
    obtain ⟨i, hi, e⟩ := List.mem_iff_getElem.1 h
    exact h2 ⟨.string s, .agg #[], i⟩ (by simp only [entsS, List.mem_mapIdx]; exact ⟨i, hi, by rw [e]⟩) rfl
  · simp only [entsS, List.getElem?_mapIdx] at h2
    cases hl : L[j]? with
    | none => simp [hl] at h2
    | some t =>
      simp [hl] at h2
      subst h2
      exact ⟨j, by simpa using h1⟩
theorem zero_unit (w : World) : (zeroValue 157).run Tryz.prog w = .ok (.agg #[]) w := by kernel_rfl
theorem mkmap7 (w : World) : Sem.run Tryz.prog (Instr.makeMap 80 none) w = .ok (.map (some w.heap.size)) (w.alloc (.map #[] 0)) := by kernel_rfl

def namesF (pre : List ND) : List ByteArray := (pre.map (fun p => p.1.1)).foldl addV []
theorem namesF_snoc (pre : List ND) (p : ND) : namesF (pre ++ [p]) = addV (namesF pre) p.1.1 := by unfold namesF; rw [List.map_append, List.foldl_append]; rfl
theorem addV_len (acc : List ByteArray) (y : Tm) : (addV acc y).length ≤ acc.length + 1 := by unfold addV; split <;> simp
theorem namesF_len (pre : List ND) : (namesF pre).length ≤ pre.length := by
  have key : ∀ (l : List ND) (acc : List ByteArray), ((l.map (fun p => p.1.1)).foldl addV acc).length ≤ acc.length + l.length := by
    intro l
    induction l with
    | nil => intro acc; simp
    | cons p l ih => intro acc; have h1 := ih (addV acc p.1.1); have h2 := addV_len acc p.1.1; simp only [List.map_cons, List.foldl_cons, List.length_cons]; omega
  have := key pre []
  unfold namesF
  simpa using this
theorem addV_not {acc : List ByteArray} {k n : Int} {s t : ByteArray} {l : List Tm} (h : ¬ k = 5 ∨ s.data.toList = [95] ∨ s ∈ acc) : addV acc (.mk k n s t l) = acc := by
  unfold addV
  rw [if_neg]
  show ¬ ((k == 5 && !(s.data.toList == [95]) && !(acc.any fun b => b.data.toList == s.data.toList)) = true)
  rcases h with h | h | h
  · rw [show (k == 5) = false by simpa using h]; simp
  · rw [h]; simp
  · have : (acc.any fun b => b.data.toList == s.data.toList) = true := by rw [List.any_eq_true]; exact ⟨s, h, by simp⟩
    rw [this]; simp
theorem addV_new {acc : List ByteArray} {n : Int} {s t : ByteArray} {l : List Tm} (h1 : ¬ s.data.toList = [95]) (h2 : s ∉ acc) : addV acc (.mk 5 n s t l) = acc ++ [s] := by
  unfold addV
  rw [if_pos]
  · rfl
  · show ((5 : Int) == 5 && !(s.data.toList == [95]) && !(acc.any fun b => b.data.toList == s.data.toList)) = true
    have : (acc.any fun b => b.data.toList == s.data.toList) = false := by
      rw [Bool.eq_false_iff]; intro h
      rw [List.any_eq_true] at h
      obtain ⟨b, hb, e⟩ := h
      have e2 : b = s := ByteArray.ext (Array.toList_inj.1 (by simpa using e))
      subst e2; exact h2 hb
    rw [this, show (s.data.toList == [95]) = false by simpa using h1]; rfl

def rowIn7 (S : Nat) (A : World) (k : Nat) : Prop := ∃ v, A.cell? ⟨S, 0, none⟩ = some v ∧ v.ownBlock = some k
theorem rowIn7_eq {S : Nat} {A B : World} (h : B.heap[S]? = A.heap[S]?) (k : Nat) : rowIn7 S B k ↔ rowIn7 S A k := by
  have : B.cell? ⟨S, 0, none⟩ = A.cell? ⟨S, 0, none⟩ := World.cell?_of_block h
  unfold rowIn7; rw [this]
theorem rowIn7_at {S : Nat} {A : World} {v : Value} {T : TypeId} (h : A.heap[S]? = some (.cells #[v] T (0, 0))) (k : Nat) : rowIn7 S A k ↔ v.ownBlock = some k := by
  unfold rowIn7
  rw [cell_of_row h rfl]
  constructor
  · rintro ⟨u, hu, ho⟩; cases hu; exact ho
  · intro h; exact ⟨v, rfl, h⟩
def OwnV (S : Nat) (k : Nat) (A : World) : Prop := k < A.heap.size ∧ S + 6 ≤ k ∧ ¬ rowIn7 S A k
structure VI (w : World) (S : Nat) (pre : List ND) (W : World) : Prop where
  below : Below w.heap.size w W
  base : w.heap.size ≤ S
  size : S + 4 ≤ W.heap.size
  xb : W.heap[S + 2]? = some (.cells #[.map (some (S + 1))] 80 (0, 0))
  mp : W.heap[S + 1]? = some (.map (entsS (namesF pre)) (namesF pre).length)
  row : ∃ v, W.heap[S]? = some (.cells #[v] 36 (0, 0)) ∧ W.ownsRow (S + 6) 9 1 v (namesF pre).length ((namesF pre).map .string)
theorem own_ge {w : World} {base : Nat} {e : TypeId} {size : Nat} {v : Value} {n : Nat} {xs : List Value} (h : w.ownsRow base e size v n xs) {b : Nat} (hv : v.ownBlock = some b) : base ≤ b ∧ b < w.heap.size := by
  rcases h.2 with ⟨rfl, _⟩ | ⟨g', cap, cur, rfl, h2, hc, _⟩
  · cases hv
  · simp only [Value.ownBlock, Option.some.injEq] at hv
    subst hv
    exact ⟨h2, heap_lt hc⟩
theorem VI.keep {w : World} {S : Nat} {pre : List ND} {A B : World} {F : Nat → Prop} (h : VI w S pre A) (hm : Mod F A B) (hF : ∀ j, j < A.heap.size → F j → OwnV S j A ∨ j = S + 4 ∨ j = S + 5) : VI w S pre B := by
  obtain ⟨v, hv, ho⟩ := h.row
  have hz := h.size
  have k : ∀ b, b < S + 4 → B.heap[b]? = A.heap[b]? := fun b hb => hm.block b (by omega) (fun hf => by rcases hF b (by omega) hf with h | h | h; have := h.2.1; omega; omega; omega)
  refine ⟨?_, h.base, Nat.le_trans hz hm.size, (k _ (by omega)).trans h.xb, (k _ (by omega)).trans h.mp, v, (k _ (by omega)).trans hv, hm.row ho (fun b hb hf => ?_)⟩
  · have h1 := h.below
    exact ⟨hm.os.trans h1.os, hm.tape.trans h1.tape, hm.output.trans h1.output, Nat.le_trans h1.size hm.size, fun b hb => (k b (by have := h.base; omega)).trans (h1.block b hb)⟩
  · obtain ⟨h1, h2⟩ := own_ge ho hb
    rcases hF b h2 hf with h3 | h3 | h3
    · exact h3.2.2 ((rowIn7_at hv b).2 hb)
    · omega
    · omega
theorem VI.under {w : World} {S : Nat} {pre : List ND} {A B : World} (h : VI w S pre A) (b : Below A.heap.size A B) : VI w S pre B := h.keep (Mod.of_below (F := fun _ => False) b) (fun _ _ h => h.elim)
theorem ownV_keep {w : World} {S : Nat} {A B : World} {F : Nat → Prop} (hS : S < A.heap.size) {k : Nat} (h : OwnV S k A) (hm : Mod F A B) (hF : ∀ j, j < A.heap.size → F j → OwnV S j A ∨ j = S + 4 ∨ j = S + 5) : OwnV S k B := by
  refine ⟨Nat.lt_of_lt_of_le h.1 hm.size, h.2.1, fun hr => h.2.2 ((rowIn7_eq (hm.block S hS (fun hf => ?_)) k).1 hr)⟩
  rcases hF S hS hf with h | h | h
  · have := h.2.1; omega
  · omega
  · omega
theorem VI.new {w : World} {S : Nat} {pre : List ND} {A : World} (h : VI w S pre A) (o : Obj) (hs : S + 6 ≤ A.heap.size) : OwnV S A.heap.size (A.alloc o) := by
  obtain ⟨v, hv, ho⟩ := h.row
  refine ⟨by rw [World.size_alloc]; omega, hs, fun hr => ?_⟩
  have h1 := (rowIn7_eq (Below.heap_alloc _ _ _ (heap_lt hv)) _).1 hr
  have h2 := own_ge ho ((rowIn7_at hv _).1 h1)
  omega

structure VM (S : Nat) (s : ByteArray) (pre : List ND) (A V : World) : Prop where
  mod : Mod (fun k => k = S + 1) A V
  mp : V.heap[S + 1]? = some (.map (entsS (namesF pre ++ [s])) ((namesF pre).length + 1))
theorem VM.under {S : Nat} {s : ByteArray} {pre : List ND} {A V V' : World} (h : VM S s pre A V) (b : Below V.heap.size V V') : VM S s pre A V' :=
  ⟨h.mod.trans (Mod.of_below b) (fun _ _ h => h), (b.block _ (heap_lt h.mp)).trans h.mp⟩
theorem kb_below {w : World} {S n₀ : Nat} {A B : World} (hn : n₀ ≤ A.heap.size) (hS : S + 6 ≤ A.heap.size) (b : Below A.heap.size A B) : KB (OwnV S) n₀ (S + 4) A B :=
  ⟨⟨b.size, fun k hk => b.block k (by omega), fun k hk => ⟨b.block k hk.1, ownV_keep (w := w) (by omega) hk (Mod.of_below (F := fun _ => False) b) (fun _ _ h => h.elim)⟩⟩, b.block _ (by omega), b.block _ (by omega)⟩
theorem round_put {w : World} {S n₀ : Nat} {pre : List ND} {p : ND} {W V V' : World} {v v' : Value} {s : ByteArray} (hi : VI w S pre W) (hn : n₀ ≤ w.heap.size) (hW : S + 6 ≤ W.heap.size) (hv : W.heap[S]? = some (.cells #[v] 36 (0, 0)))
    (ho : W.ownsRow (S + 6) 9 1 v (namesF pre).length ((namesF pre).map .string)) (hm : VM S s pre W V) (hp : namesF (pre ++ [p]) = namesF pre ++ [s])
    (h5 : V'.ownsRow (S + 6) 9 1 v' ((namesF pre).length + 1) ((namesF pre).map .string ++ [.string s])) (g5 : V.grownBy V' v.ownBlock) (a5 : v'.ownBlock = v.ownBlock ∨ v'.ownBlock = some V.heap.size) :
    KB (OwnV S) n₀ (S + 4) W (V'.setCell ⟨S, 0, none⟩ v') ∧ VI w S (pre ++ [p]) (V'.setCell ⟨S, 0, none⟩ v') := by
  have hbs := hi.base
  have hz : (V'.setCell ⟨S, 0, none⟩ v').heap.size = V'.heap.size := by simp [World.setCell]
  have mm : Mod (fun b => b = S) V' (V'.setCell ⟨S, 0, none⟩ v') := Mod.setCell _ _ _ (.inl rfl)
  have hown : ∀ g, v.ownBlock = some g → S + 6 ≤ g ∧ g < W.heap.size := fun g hg => own_ge ho hg
  have hown5 : ∀ g, v'.ownBlock = some g → S + 6 ≤ g ∧ g < V'.heap.size := fun g hg => own_ge h5 hg
  have k5 : ∀ b, b < W.heap.size → b ≠ S + 1 → v.ownBlock ≠ some b → V'.heap[b]? = W.heap[b]? := fun b hb h1 hr => (g5.block b (by have := hm.mod.size; omega) (fun e => hr e.symm)).trans (hm.mod.block b hb h1)
  have kF : ∀ b, b < W.heap.size → b ≠ S → b ≠ S + 1 → v.ownBlock ≠ some b → (V'.setCell ⟨S, 0, none⟩ v').heap[b]? = W.heap[b]? := fun b hb hS h1 hr => (mm.block b (by have := g5.size; have := hm.mod.size; omega) hS).trans (k5 b hb h1 hr)
  have hS5 : V'.heap[S]? = some (.cells #[v] 36 (0, 0)) := (k5 _ (heap_lt hv) (by omega) (fun e => by have := (hown _ e).1; omega)).trans hv
  have hSF : (V'.setCell ⟨S, 0, none⟩ v').heap[S]? = some (.cells #[v'] 36 (0, 0)) := set_row v' (i := 0) hS5
  have hmF : (V'.setCell ⟨S, 0, none⟩ v').heap[S + 1]? = some (.map (entsS (namesF pre ++ [s])) ((namesF pre).length + 1)) :=
    (mm.block _ (by have := g5.size; have := heap_lt hm.mp; omega) (by omega)).trans ((g5.block _ (heap_lt hm.mp) (fun e => by have := (hown _ e.symm).1; omega)).trans hm.mp)
  have s1 := hm.mod.size
  have s2 := g5.size
  have lowS : ∀ b, b < S → (V'.setCell ⟨S, 0, none⟩ v').heap[b]? = W.heap[b]? := fun b hb => kF b (by omega) (by omega) (by omega) (fun e => by have := (hown _ e).1; omega)
  refine ⟨⟨⟨by rw [hz]; omega, fun k hk => lowS k (by omega), fun k hk => ⟨?_, ?_⟩⟩, ?_, ?_⟩, ⟨?_, hbs, by rw [hz]; omega, ?_, ?_, v', hSF, ?_⟩⟩
  · exact kF k hk.1 (by have := hk.2.1; omega) (by have := hk.2.1; omega) (fun e => hk.2.2 ((rowIn7_at hv k).2 e))
  · refine ⟨by rw [hz]; have := hk.1; omega, hk.2.1, fun hr => ?_⟩
    have h1 := (rowIn7_at hSF k).1 hr
    rcases a5 with e | e
    · exact hk.2.2 ((rowIn7_at hv k).2 (e.symm.trans h1))
    · have e2 := h1.symm.trans e
      simp only [Option.some.injEq] at e2
      have := hk.1; omega
  · exact kF _ (by omega) (by omega) (by omega) (fun e => by have := (hown _ e).1; omega)
  · exact kF _ (by omega) (by omega) (by omega) (fun e => by have := (hown _ e).1; omega)
  · have hb := hi.below
    exact ⟨(mm.os.trans (g5.os.trans hm.mod.os)).trans hb.os, (mm.tape.trans (g5.tape.trans hm.mod.tape)).trans hb.tape, (mm.output.trans (g5.output.trans hm.mod.output)).trans hb.output, by rw [hz]; have := hb.size; omega, fun b hb2 => (lowS b (by omega)).trans (hb.block b hb2)⟩
  · exact (kF _ (by have := hi.size; omega) (by omega) (by omega) (fun e => by have := (hown _ e).1; omega)).trans hi.xb
  · rw [hp, List.length_append]; exact hmF
  · rw [hp, List.length_append, List.map_append]
    obtain ⟨h1, h2⟩ := h5
    refine ⟨h1, ?_⟩
    rcases h2 with h2 | ⟨g', cap, cur, hv', hb, hc, h3⟩
    · exact .inl h2
    · exact .inr ⟨g', cap, cur, hv', hb, (mm.block g' (heap_lt hc) (by omega)).trans hc, h3⟩

theorem VI.same {w : World} {S : Nat} {pre : List ND} {p : ND} {A : World} (h : VI w S pre A) (e : namesF (pre ++ [p]) = namesF pre) : VI w S (pre ++ [p]) A :=
  ⟨h.below, h.base, h.size, h.xb, by rw [e]; exact h.mp, by rw [e]; exact h.row⟩
theorem ownsRow_slice7 {w : World} {base : Nat} {e : TypeId} {size : Nat} {v : Value} {n : Nat} {xs : List Value} (h : w.ownsRow base e size v n xs) : ∃ A c, v = .slice A n c := by
  rcases h.2 with ⟨rfl, rfl⟩ | ⟨g, cap, cur, rfl, _⟩
  · exact ⟨_, _, rfl⟩
  · exact ⟨_, _, rfl⟩
theorem _root_.Go.World.ownsRow.kept7 {w w' : World} {base : Nat} {e : TypeId} {size : Nat} {v : Value} {n : Nat} {xs : List Value} (h : w.ownsRow base e size v n xs) (hk : ∀ (g : Nat) (o : Obj), w.heap[g]? = some o → o.isCells = true → w'.heap[g]? = some o) : w'.ownsRow base e size v n xs := by
  obtain ⟨h1, h2⟩ := h
  refine ⟨h1, ?_⟩
  rcases h2 with h2 | ⟨g, cap, cur, hv, hb, hc, h3⟩
  · exact .inl h2
  · exact .inr ⟨g, cap, cur, hv, hb, hk _ _ hc rfl, h3⟩
theorem srow_of_own {w : World} {base : Nat} {e : TypeId} {A : Option Addr} {c : Nat} {L : List ByteArray} (h : w.ownsRow base e 1 (.slice A L.length c) L.length (L.map .string)) : SRow w A L := by
  intro j b hj
  rcases h.2 with ⟨h1, h2⟩ | ⟨g, cap, cur, hv, hb, hc, hn, h4⟩
  · simp only [Value.slice.injEq] at h1
    have := (List.getElem?_eq_some_iff.1 hj).1
    omega
  · cases hv
    exact ⟨⟨g, 0, none⟩, rfl, heap_lt hc, h.cells (g := g) rfl j _ (by rw [List.getElem?_map, hj]; rfl)⟩
theorem info_str7 : (Tryz.prog.info? 9).map (fun i => (i.zero, i.size, i.bytes)) = some (some (.string ⟨#[]⟩), 1, 16) := by kernel_rfl
set_option maxRecDepth 100000 in
theorem wpIn_own_str {F : Fence} {nF : Nat} {o : Oper} {a : Act} {w : World} {K : Act → World → Prop} {Q : Exit → Act → World → Prop} (sl x : Operand)
    (ho : o.op = .call { callee := .builtin .append, args := #[sl, x], argTypes := #[36, 36] })
    {base : Nat} {v : Value} {n : Nat} {xs : List Value} (hown : w.ownsRow base 9 1 v n xs) (hbase : base ≤ w.heap.size) (he : a.eval sl = v)
    (g : Nat) {s : ByteArray} (hx : a.eval x = .slice (some ⟨g, 0, none⟩) 1 1) (hg : w.heap[g]? = some (.cells #[.string s] 9 (0, 0))) (hlen : n + 1 ≤ 2000000)
    (h : ∀ v' w', w'.ownsRow base 9 1 v' (n + 1) (xs ++ [.string s]) → w.grownBy w' v.ownBlock → (v'.ownBlock = v.ownBlock ∨ v'.ownBlock = some w.heap.size) → K (a.put o.dst v') w') : Oper.wpIn F nF Tryz.prog o a w K Q := by
  obtain ⟨i, hi, hz⟩ := Option.map_eq_some_iff.1 info_str7
  simp only [Prod.mk.injEq] at hz
  obtain ⟨hz, hsz, hby⟩ := hz
  have hnews : ∀ j u, [Value.string s][j]? = some u → w.cell? ((⟨g, 0, none⟩ : Addr).add j) = some u := by
    intro j u hj
    match j, hj with
    | 0, hj => simp at hj; subst hj; exact cell_of_row hg rfl
    | j + 1, hj => simp at hj
  have h1 : ∀ u ∈ [Value.string s], u.oneCell' = true := by
    intro u hu; simp at hu; subst hu; rfl
  obtain ⟨v', w', hr, h2, h3, _, h5⟩ := run_append_own_at (P := Tryz.prog) w base 36 o.type 9 i _ 1 16 Tryz.underlying36 hi hz hsz hby rfl (by decide) v n xs hown ⟨g, 0, none⟩ 1 1 _ rfl hnews h1 (by unfold maxLen; omega) (by omega) hbase
  unfold Oper.wpIn
  refine ⟨?_, ?_⟩
  · simp [Oper.about, ho, resolve, Target.leads, Sem.run_pure]
  · rw [Oper.semAt_plain F _ _ (by rw [ho]; intro c hc'; cases hc')]
    simp [execOp, ho, resolve, invoke, builtin, he, hx, hr, Result.andThen]
    exact h _ _ h2 h3 h5

set_option maxRecDepth 100000 in
set_option maxHeartbeats 16000000 in
theorem vars7_ok : VarsC Env7 := by
  intro x v w hT _ hsz hE
  obtain ⟨kk, nn, s, t, L, A, cap, hx, rfl⟩ : ∃ k' n' s' t' L' A' cap', x = Tm.mk k' n' s' t' L' ∧ v = .agg #[.int .i8 k', .int .i64 n', .string s', .string t', .slice A' L'.length cap'] := by
    cases hT; exact ⟨_, _, _, _, _, _, _, rfl, rfl⟩
  have HX := Lib.hid hx
  have HSZD := Lib.hid hsz
  clear hx hsz
  have HB := Lib.hid (nbx_of env7_E hE #[.int .i8 kk, .int .i64 nn, .string s, .string t, .slice A L.length cap])
  obtain ⟨a, ha⟩ : ∃ a : Int, a = ((min 4097 x.nodes : Nat) : Int) := ⟨_, rfl⟩
  obtain ⟨d, hd⟩ : ∃ d : Int, d = ((walkedD x : Nat) : Int) := ⟨_, rfl⟩
  have HT := Lib.hid hT
  have HWK : Hid (∀ V, NBx Env7 w V w.heap.size #[.int .i8 kk, .int .i64 nn, .string s, .string t, .slice A L.length cap] → Calls Tryz.prog 94 #[.agg #[.int .i8 kk, .int .i64 nn, .string s, .string t, .slice A L.length cap]] V fun e w' => e = .returned (.agg #[.int .i64 a, .int .i64 d]) ∧ Below V.heap.size V w') := fun V h => by
    rw [ha, hd]; exact walked_any x _ V (HT.out.laterN h.below)
  have HF : Hid (∀ V, Calls Tryz.prog 95 #[.agg #[.int .i64 a, .int .i64 d]] V fun e w' => e = .returned (.bool (fitsB x)) ∧ Below V.heap.size V w') := fun V => by
    rw [ha, hd, ← walked_fits x]; exact fits_any _ _ V
  clear hT hE ha hd
  refine (callsIn_wide (n := 3)).1 ?_
  refine callsIn_of_wp_marks Tryz.func215 rfl trivial ?_ rfl
  simp only [Tryz.ntmps215, List.size_toArray, List.length_cons, List.length_nil, Nat.reduceAdd, Nat.reduceSub, Array.replicate_succ, Array.replicate_zero, List.push_toArray, List.append_toArray, List.nil_append, List.cons_append]
  gi_wp2_with fail
  generalize w.alloc (.cells #[.int .i8 kk, .int .i64 nn, .string s, .string t, .slice A L.length cap] 25) = w1 at HB ⊢
  refine ⟨trivial, ?_⟩
  refine (callsIn_wide.2 (HWK.out w1 HB.out)).mono ?_
  rintro e w2 ⟨rfl, b2⟩
  have HB2 := Lib.hid (HB.out.under env7_E b2)
  clear b2
  gi_wp2_with fail
  refine ⟨trivial, ?_⟩
  refine (callsIn_wide.2 (HF.out w2)).mono ?_
  rintro e w3 ⟨rfl, b3⟩
  have HB3 := Lib.hid (HB2.out.under env7_E b3)
  clear b3
  cases h0 : fitsB x
  · have hv0 : varsL x = [] := by unfold varsL; rw [h0]; rfl
    have HV0 := Lib.hid hv0
    clear hv0
    gi_wp2
    refine ⟨.slice none 0 0, by simp [results, Tryz.f215, go_sem], ?_⟩
    exact ⟨none, 0, by rw [HV0.out]; rfl, fun j b hj => by rw [HV0.out] at hj; simp at hj, HB3.out.below⟩
  · have hfx : x.nodes ≤ 4096 := by unfold fitsB at h0; exact (of_decide_eq_true h0).1
    have HV0 : Hid (varsL x = x.pre.foldl addV []) := by show _ = _; unfold varsL; rw [h0]; rfl
    have HFX := Lib.hid hfx
    clear h0 hfx
    obtain ⟨S, hS⟩ : ∃ S, S = w3.heap.size := ⟨_, rfl⟩
    obtain ⟨v1, hv1⟩ : ∃ v1, v1 = w3.alloc (.cells #[.slice none 0 0] 36) := ⟨_, rfl⟩
    obtain ⟨v2, hv2⟩ : ∃ v2, v2 = v1.alloc (.map #[] 0) := ⟨_, rfl⟩
    obtain ⟨v3, hv3⟩ : ∃ v3, v3 = v2.alloc (.cells #[.map (some (S + 1))] 80) := ⟨_, rfl⟩
    obtain ⟨v4, hv4⟩ : ∃ v4, v4 = v3.alloc (.cells #[.int .i8 kk, .int .i64 nn, .string s, .string t, .slice A L.length cap] 25) := ⟨_, rfl⟩
    obtain ⟨a1, y1⟩ := here_of (.cells #[.slice none 0 0] 36) hS.symm
    rw [← hv1] at a1 y1
    obtain ⟨a2, y2⟩ := here_of (.map #[] 0) y1
    rw [← hv2] at a2 y2
    obtain ⟨a3, y3⟩ := here_of (.cells #[.map (some (S + 1))] 80) y2
    rw [← hv3] at a3 y3
    obtain ⟨a4, y4⟩ := here_of (.cells #[.int .i8 kk, .int .i64 nn, .string s, .string t, .slice A L.length cap] 25) y3
    rw [← hv4] at a4 y4
    have b1 : v4.heap[S]? = some (.cells #[.slice none 0 0] 36 (0, 0)) := by rw [hv4, hv3, hv2]; exact there_of _ (there_of _ (there_of _ a1))
    have b2 : v4.heap[S + 1]? = some (.map #[] 0) := by rw [hv4, hv3]; exact there_of _ (there_of _ a2)
    have b3 : v4.heap[S + 1 + 1]? = some (.cells #[.map (some (S + 1))] 80 (0, 0)) := by rw [hv4]; exact there_of _ a3
    have bb : Below w3.heap.size w3 v4 := by rw [hv4, hv3, hv2, hv1]; exact ((((Below.refl _ _).alloc (Nat.le_refl _) _).alloc (by simp) _).alloc (by simp; omega) _).alloc (by simp; omega) _
    have hBL : Below w.heap.size w v4 := HB3.out.below.trans (bb.mono HB3.out.below.size)
    have hwS : w.heap.size ≤ S := by rw [hS]; exact HB3.out.below.size
    have hTL : TmAt (· < w.heap.size) v4 x (.agg #[.int .i8 kk, .int .i64 nn, .string s, .string t, .slice A L.length cap]) := HT.out.under hBL (Nat.le_refl _)
    have HSeq := Lib.hid (nodes8_seq (fun y => y.s.size ≤ 281474976710656) (3 - 1) w.heap.size (S + 1 + 1 + 1) x _ v4 hTL HSZD.out (by omega) ⟨_, rfl, a4⟩)
    have h0 : VI w S [] v4 := ⟨hBL, hwS, by omega, b3, b2, _, b1, rfl, .inl ⟨rfl, rfl⟩⟩
    have HI0 := Lib.hid h0
    have HS4 : Hid (v4.heap.size = S + 4) := by show _ = _; omega
    have HWS := Lib.hid hwS
    have HENV := Lib.hid (HB3.out.env.under bb)
    have hm1 := mkmap7 (w3.alloc (.cells #[.slice none 0 0] 36))
    rw [World.size_alloc] at hm1
    have z0 : w3.cell? ⟨w.heap.size, 0, none⟩ = some (.int .i8 kk) := cell_of_row HB3.out.box rfl
    have z1 : w3.cell? ⟨w.heap.size, 1, none⟩ = some (.int .i64 nn) := cell_of_row HB3.out.box rfl
    have z2 : w3.cell? ⟨w.heap.size, 2, none⟩ = some (.string s) := cell_of_row HB3.out.box rfl
    have z3 : w3.cell? ⟨w.heap.size, 3, none⟩ = some (.string t) := cell_of_row HB3.out.box rfl
    have z4 : w3.cell? ⟨w.heap.size, 4, none⟩ = some (.slice A L.length cap) := cell_of_row HB3.out.box rfl
    have hv3z := hv3
    have y0 : ∀ i c, w3.cell? ⟨w.heap.size, i, none⟩ = some c → v3.cell? ⟨w.heap.size, i, none⟩ = some c := fun i c hc => by
      have : v3.heap[w.heap.size]? = w3.heap[w.heap.size]? := by
        rw [hv3, hv2, hv1]
        exact (Below.heap_alloc _ _ _ (by simp; have := heap_lt HB3.out.box; omega)).trans ((Below.heap_alloc _ _ _ (by simp; have := heap_lt HB3.out.box; omega)).trans (Below.heap_alloc _ _ _ (heap_lt HB3.out.box)))
      rw [World.cell?_of_block (w := w3) this]; exact hc
    have z0' := y0 0 _ z0
    rw [hv3, hv2, hv1, hS] at z0'
    have z1' := y0 1 _ z1
    rw [hv3, hv2, hv1, hS] at z1'
    have z2' := y0 2 _ z2
    rw [hv3, hv2, hv1, hS] at z2'
    have z3' := y0 3 _ z3
    rw [hv3, hv2, hv1, hS] at z3'
    have z4' := y0 4 _ z4
    rw [hv3, hv2, hv1, hS] at z4'
    have e1 : v2.heap.size = S + 2 := y2
    clear h0 a1 a2 a3 a4 b1 b2 b3 bb hBL hwS hTL y0 z0 z1 z2 z3 z4 y1 y2 hv3z
    clear e1
    gi_wp2_with (refine ⟨trivial, ?_⟩; gi_at_call 140; refine (nodes7_in _ _ _).mono ?_; rintro e w' ⟨rfl, rfl⟩)
    rw [← hS, ← hv1, ← hv2, ← hv3, ← hv4]
    clear hS hv1 hv2 hv3 hv4 hm1 z0' z1' z2' z3' z4'
    have OF : ∀ (A : World) (F : Nat → Prop) (H : ∀ j, j < A.heap.size → F j → OwnV S j A ∨ j = v4.heap.size ∨ j = v4.heap.size + 1), ∀ j, j < A.heap.size → F j → OwnV S j A ∨ j = S + 4 ∨ j = S + 5 := fun A F H j hj hf => by
      have e := HS4.out
      rcases H j hj hf with h | h | h
      · exact .inl h
      · exact .inr (.inl (by omega))
      · exact .inr (.inr (by omega))
    have HOF := Lib.hid OF
    clear OF
    refine range_own (α := ND) (gf := 168) (lb := #[.pointer (some ⟨S + 1 + 1 + 1, 0, none⟩)]) rfl (enters_of Tryz.func168 (by kernel_rfl) rfl) (fun _ => rfl) HSeq.out (by have := HS4.out; have := HWS.out; omega)
      (OwnV S) (fun k A h => ⟨h.1, by have := h.2.1; have := HS4.out; omega⟩) (fun k A B F hs h hm hF => ownV_keep (w := w) (by have := HS4.out; omega) h hm (HOF.out _ _ hF))
      (VI w S) (fun c pre W => False) (fun s A o h hs => h.new o (by have := HS4.out; omega)) (fun s A B F _ h hm hF => h.keep hm (HOF.out _ _ hF)) (fun c s A B F _ h _ _ => h) HI0.out
      (fun x a' W => ∃ b c, S + 6 ≤ b ∧ x.1.2 = .agg c ∧ W.heap[b]? = some (.cells c 25 (0, 0)) ∧ a' = { tmps := #[.agg #[.int .i8 kk, .int .i64 nn, .string s, .string t, .slice A L.length cap], .pointer (some ⟨w.heap.size, 0, none⟩), .slice none 0 0, .pointer (some ⟨S, 0, none⟩), .pointer (some ⟨S + 1 + 1, 0, none⟩), undef, .pointer (some ⟨b, 0, none⟩), undef, undef, .agg #[.int .i8 kk, .int .i64 nn, .string s, .string t, .slice A L.length cap], .agg #[.int .i64 a, .int .i64 d], .bool true, .bool false, .map (some (S + 1)), .agg #[.int .i8 kk, .int .i64 nn, .string s, .string t, .slice A L.length cap], .func (.func 168) #[] #[.pointer (some ⟨S + 1 + 1 + 1, 0, none⟩)], .int .i64 x.2, x.1.2, undef, undef, undef, undef, undef, undef, undef, undef, undef, undef, undef, undef, undef, undef, undef, undef, undef, undef, undef, undef, undef, undef, undef, undef, undef, undef, undef, undef], defers := [] })
      (fun x a' X Y hm h => by obtain ⟨b, c, h1, h2, h3, h4⟩ := h; exact ⟨b, c, h1, h2, (hm.block _ (heap_lt h3) (by have := HS4.out; omega)).trans h3, h4⟩) ?assign ?body ?done ?stop (by decide)
    case assign =>
      rintro l pre ⟨⟨y, u⟩, dd⟩ W K hi ⟨hE, -⟩ hsz hK
      dsimp only at hE
      obtain ⟨k', n', s', t', L', A', cap', hy', rfl⟩ : ∃ k' n' s' t' L' A' cap', y = Tm.mk k' n' s' t' L' ∧ u = .agg #[.int .i8 k', .int .i64 n', .string s', .string t', .slice A' L'.length cap'] := by
        cases hE; exact ⟨_, _, _, _, _, _, _, rfl, rfl⟩
      have HK := Lib.hid (hK _ _ ((Below.refl _ W).alloc (Nat.le_refl _) _) ⟨W.heap.size, _, by have := HS4.out; omega, rfl, World.alloc_heap_new W _, rfl⟩)
      clear hK hi hy' hE
      gi_wp2
      exact HK.out
    case body =>
      rintro l pre ⟨⟨y, u⟩, dd⟩ a' W hi ⟨hE, hGy⟩ ⟨b, c, hb, hu, hbx, rfl⟩ hlen hsz hlow
      dsimp only at hE hu hGy
      obtain ⟨k', n', s', t', L', A', cap', hy', rfl⟩ : ∃ k' n' s' t' L' A' cap', y = Tm.mk k' n' s' t' L' ∧ u = .agg #[.int .i8 k', .int .i64 n', .string s', .string t', .slice A' L'.length cap'] := by
        cases hE; exact ⟨_, _, _, _, _, _, _, rfl, rfl⟩
      have HSZ : Hid (s'.size ≤ 281474976710656) := by rw [hy'] at hGy; exact hGy
      simp only [Value.agg.injEq] at hu
      subst hu
      have hz6 : S + 6 ≤ W.heap.size := by have := HS4.out; omega
      have HNM : Hid (namesF (pre ++ [((y, .agg #[.int .i8 k', .int .i64 n', .string s', .string t', .slice A' L'.length cap']), dd)]) = addV (namesF pre) (.mk k' n' s' t' L')) := by show _ = _; rw [namesF_snoc, hy']
      have HBX := Lib.hid hbx
      have HI := Lib.hid hi
      have HZ6 := Lib.hid hz6
      have HBB := Lib.hid hb
      have HLN := Lib.hid hlen
      have d0 : W.cell? ⟨b, 0, none⟩ = some (.int .i8 k') := cell_of_row hbx rfl
      have d2 : W.cell? ⟨b, 2, none⟩ = some (.string s') := cell_of_row hbx rfl
      have x0 : W.cell? ⟨S + 1 + 1, 0, none⟩ = some (.map (some (S + 1))) := cell_of_row hi.xb rfl
      have hmp := hi.mp
      have HWN : Hid (w.heap.size ≤ W.heap.size) := by show _ ≤ _; have := HWS.out; omega
      clear hGy hy' hE hbx hi hlow hb hlen hsz
      by_cases hk : k' = 5
      rotate_left
      · have HN2 := Lib.hid (addV_not (acc := namesF pre) (n := n') (s := s') (t := t') (l := L') (.inl hk))
        gi_wp2
        exact ⟨kb_at HS4.out (kb_below (w := w) HWN.out HZ6.out (Below.refl _ _)), HI.out.same (HNM.out.trans HN2.out)⟩
      subst hk
      by_cases hu : s'.toList = [95]
      · have HN2 := Lib.hid (addV_not (acc := namesF pre) (k := 5) (n := n') (s := s') (t := t') (l := L') (.inr (.inl (by rw [← Go.Lib.toList_data]; exact hu))))
        gi_wp2
        exact ⟨kb_at HS4.out (kb_below (w := w) HWN.out HZ6.out (Below.refl _ _)), HI.out.same (HNM.out.trans HN2.out)⟩
      have hub : (s'.toList == [95]) = false := beq_eq_false_iff_ne.2 hu
      by_cases hm : s' ∈ namesF pre
      · have HN2 := Lib.hid (addV_not (acc := namesF pre) (k := 5) (n := n') (s := s') (t := t') (l := L') (.inr (.inr hm)))
        obtain ⟨j, hj⟩ := entsS_hit hm
        have hl := run_look_hit Tryz.underlying80 Tryz.underlying9 W (S + 1) _ _ s' j _ hmp hj
        clear hmp hj hm
        gi_wp2
        exact ⟨kb_at HS4.out (kb_below (w := w) HWN.out HZ6.out ((Below.refl _ _).alloc (Nat.le_refl _) _)), (HI.out.same (HNM.out.trans HN2.out)).under ((Below.refl _ _).alloc (Nat.le_refl _) _)⟩
      · have HN2 := Lib.hid (addV_new (acc := namesF pre) (n := n') (s := s') (t := t') (l := L') (fun h => hu (by rw [Go.Lib.toList_data]; exact h)) hm)
        have hms := entsS_miss hm
        have hl := run_look_miss Tryz.underlying80 Tryz.underlying9 W (S + 1) _ _ s' (.agg #[]) hmp zero_unit hms
        have bW : Below W.heap.size W (W.alloc (.cells #[] 157)) := (Below.refl _ _).alloc (Nat.le_refl _) _
        have hmp2 : (W.alloc (.cells #[] 157)).heap[S + 1]? = _ := (bW.block _ (heap_lt hmp)).trans hmp
        have hp := run_put_new Tryz.underlying80 Tryz.underlying9 (W.alloc (.cells #[] 157)) (S + 1) _ _ s' (.agg #[]) hmp2 hms
        obtain ⟨X, hX⟩ : ∃ X, X = (W.alloc (.cells #[] 157)).putObj (S + 1) (.map ((entsS (namesF pre)).push ⟨.string s', .agg #[], (namesF pre).length⟩) ((namesF pre).length + 1)) := ⟨_, rfl⟩
        rw [← hX] at hp
        have mX : Mod (fun k => k = S + 1) W X := by rw [hX]; exact (Mod.of_below bW).trans (Mod.putObj (F := fun k => k = S + 1) _ _ _ rfl) (fun _ _ h => h)
        have gX : X.heap[S + 1]? = some (.map (entsS (namesF pre ++ [s'])) ((namesF pre).length + 1)) := by rw [hX, entsS_snoc]; exact World.putObj_heap_same (heap_lt hmp2)
        have vX : VM S s' pre W X := ⟨mX, gX⟩
        obtain ⟨v, hv, ho⟩ := HI.out.row
        have HV := Lib.hid hv
        have HO := Lib.hid ho
        have hdr : Below X.heap.size X X.drew := ⟨rfl, rfl, rfl, Nat.le_refl _, fun _ _ => rfl⟩
        have HD := Lib.hid (vX.under hdr)
        have x0w : (W.alloc (.cells #[] 157)).cell? ⟨S + 1 + 1, 0, none⟩ = some (.map (some (S + 1))) := cell_of_row ((bW.block _ (heap_lt HI.out.xb)).trans HI.out.xb) rfl
        have d2w : (W.alloc (.cells #[] 157)).cell? ⟨b, 2, none⟩ = some (.string s') := cell_of_row ((bW.block _ (heap_lt HBX.out)).trans HBX.out) rfl
        have HUN : Hid (¬ s'.toList = [95]) := hu
        clear hmp hms hm bW hmp2 mX gX vX hv ho hdr hX
        gi_wp2_with fail
        refine wpIn_region_any (by kernel_rfl) ?_
        change wpAnyIn _ _ _ _ _ _ _ _ _ (World.drew _)
        generalize X.drew = D at HD ⊢
        clear hp hl x0w d2w x0 d0 d2
        have cV : D.cell? ⟨S, 0, none⟩ = some v := cell_of_row (((HD.out.mod.block _ (heap_lt HV.out) (by omega))).trans HV.out) rfl
        have dV : D.cell? ⟨b, 2, none⟩ = some (.string s') := cell_of_row ((HD.out.mod.block _ (heap_lt HBX.out) (by have := HBB.out; omega)).trans HBX.out) rfl
        refine wpAnyIn_ready (rs := [0, 1]) (by kernel_rfl) (by simp) ?_
        refine AllReadyIn.cons rfl (fun K hK => ?_) (AllReadyIn.cons rfl (fun K hK => ?_) AllReadyIn.nil)
        · skip
          go_simp
          refine hK _ _ ?_
          clear hK K
          refine wpAnyIn_ready (rs := [1]) (by kernel_rfl) (by simp) ?_
          refine AllReadyIn.cons rfl (fun K hK => ?_) AllReadyIn.nil
          go_simp
          refine hK _ _ ?_
          clear hK K
          refine wpAnyIn_ready (rs := [2]) (by kernel_rfl) (by simp) ?_
          refine AllReadyIn.cons rfl (fun K hK => ?_) AllReadyIn.nil
          go_simp
          refine hK _ _ ?_
          clear hK K
          refine wpAnyIn_ready (rs := [3]) (by kernel_rfl) (by simp) ?_
          refine AllReadyIn.cons rfl (fun K hK => ?_) AllReadyIn.nil
          go_simp
          refine ⟨trivial, (CallsIn.inRound l (callsIn_wide.2 (Clone_any s' D HSZ.out))).mono ?_⟩
          rintro e V4 ⟨rfl, bV⟩
          have HD4 := Lib.hid (HD.out.under bV)
          clear bV cV dV
          have cV : V4.cell? ⟨S, 0, none⟩ = some v := cell_of_row (((HD4.out.mod.block _ (heap_lt HV.out) (by omega))).trans HV.out) rfl
          have dV : V4.cell? ⟨b, 2, none⟩ = some (.string s') := cell_of_row ((HD4.out.mod.block _ (heap_lt HBX.out) (by have := HBB.out; omega)).trans HBX.out) rfl
          refine hK _ _ ?_
          clear hK K
          refine wpAnyIn_ready (rs := [4]) (by kernel_rfl) (by simp) ?_
          refine AllReadyIn.cons rfl (fun K hK => ?_) AllReadyIn.nil
          go_simp
          refine hK _ _ ?_
          clear hK K cV dV
          have bV : Below V4.heap.size V4 (V4.alloc (.cells #[.string s'] 9)) := (Below.refl _ _).alloc (Nat.le_refl _) _
          have HD5 := Lib.hid (HD4.out.under bV)
          have HG := Lib.hid (block_alloc V4 (.cells #[.string s'] 9))
          clear bV
          generalize V4.alloc (.cells #[.string s'] 9) = V5 at HD5 HG ⊢
          generalize V4.heap.size = g at HG ⊢
          have cV : V5.cell? ⟨S, 0, none⟩ = some v := cell_of_row (((HD5.out.mod.block _ (heap_lt HV.out) (by omega))).trans HV.out) rfl
          have dV : V5.cell? ⟨b, 2, none⟩ = some (.string s') := cell_of_row ((HD5.out.mod.block _ (heap_lt HBX.out) (by have := HBB.out; omega)).trans HBX.out) rfl
          refine wpAnyIn_ready (rs := [5]) (by kernel_rfl) (by simp) ?_
          refine AllReadyIn.cons rfl (fun K hK => ?_) AllReadyIn.nil
          rw [if_pos (by rfl)]
          have hVo : V5.ownsRow (S + 6) 9 1 v (namesF pre).length ((namesF pre).map .string) := HD5.out.mod.row HO.out (fun k hk e => by have := (own_ge HO.out hk).1; omega)
          have HVO := Lib.hid hVo
          clear hVo
          refine wpIn_own_str _ _ rfl HVO.out (by have := HD5.out.mod.size; have := HZ6.out; omega) rfl g rfl HG.out (by have := namesF_len pre; have := HLN.out; omega) ?_
          intro v' V9 h5 g5 a5
          refine hK _ _ ?_
          clear hK K
          have hS9 : V9.heap[S]? = some (.cells #[v] 36 (0, 0)) := (g5.block _ (by have := HD5.out.mod.size; have := heap_lt HV.out; omega) (fun e => by have := (own_ge HO.out e.symm).1; omega)).trans ((HD5.out.mod.block _ (heap_lt HV.out) (by omega)).trans HV.out)
          obtain ⟨A9, c9, rfl⟩ := ownsRow_slice7 h5
          have c9v : V9.cell? ⟨S, 0, none⟩ = some v := cell_of_row hS9 rfl
          have c9f : V9.frozen? ⟨S, 0, none⟩ = false := free_of_row hS9
          have H5 := Lib.hid (And.intro h5 (And.intro g5 a5))
          clear h5 g5 a5 hS9 cV dV
          refine wpAnyIn_ready (rs := [6]) (by kernel_rfl) (by simp) ?_
          refine AllReadyIn.cons rfl (fun K hK => ?_) AllReadyIn.nil
          go_simp
          refine hK _ _ ?_
          clear hK K
          refine wpAnyIn_done (by kernel_rfl) ?_ _
          gi_wp2_with fail
          have hrp := round_put HI.out (Nat.le_refl _) HZ6.out HV.out HO.out HD5.out (HNM.out.trans HN2.out) H5.out.1 H5.out.2.1 H5.out.2.2
          exact ⟨kb_at HS4.out hrp.1, hrp.2⟩
        · skip
          go_simp
          refine hK _ _ ?_
          clear hK K
          refine wpAnyIn_ready (rs := [0, 2]) (by kernel_rfl) (by simp) ?_
          refine AllReadyIn.cons rfl (fun K hK => ?_) (AllReadyIn.cons rfl (fun K hK => ?_) AllReadyIn.nil)
          · skip
            go_simp
            refine hK _ _ ?_
            clear hK K
            refine wpAnyIn_ready (rs := [2]) (by kernel_rfl) (by simp) ?_
            refine AllReadyIn.cons rfl (fun K hK => ?_) AllReadyIn.nil
            go_simp
            refine hK _ _ ?_
            clear hK K
            refine wpAnyIn_ready (rs := [3]) (by kernel_rfl) (by simp) ?_
            refine AllReadyIn.cons rfl (fun K hK => ?_) AllReadyIn.nil
            go_simp
            refine ⟨trivial, (CallsIn.inRound l (callsIn_wide.2 (Clone_any s' D HSZ.out))).mono ?_⟩
            rintro e V4 ⟨rfl, bV⟩
            have HD4 := Lib.hid (HD.out.under bV)
            clear bV cV dV
            have cV : V4.cell? ⟨S, 0, none⟩ = some v := cell_of_row (((HD4.out.mod.block _ (heap_lt HV.out) (by omega))).trans HV.out) rfl
            have dV : V4.cell? ⟨b, 2, none⟩ = some (.string s') := cell_of_row ((HD4.out.mod.block _ (heap_lt HBX.out) (by have := HBB.out; omega)).trans HBX.out) rfl
            refine hK _ _ ?_
            clear hK K
            refine wpAnyIn_ready (rs := [4]) (by kernel_rfl) (by simp) ?_
            refine AllReadyIn.cons rfl (fun K hK => ?_) AllReadyIn.nil
            go_simp
            refine hK _ _ ?_
            clear hK K cV dV
            have bV : Below V4.heap.size V4 (V4.alloc (.cells #[.string s'] 9)) := (Below.refl _ _).alloc (Nat.le_refl _) _
            have HD5 := Lib.hid (HD4.out.under bV)
            have HG := Lib.hid (block_alloc V4 (.cells #[.string s'] 9))
            clear bV
            generalize V4.alloc (.cells #[.string s'] 9) = V5 at HD5 HG ⊢
            generalize V4.heap.size = g at HG ⊢
            have cV : V5.cell? ⟨S, 0, none⟩ = some v := cell_of_row (((HD5.out.mod.block _ (heap_lt HV.out) (by omega))).trans HV.out) rfl
            have dV : V5.cell? ⟨b, 2, none⟩ = some (.string s') := cell_of_row ((HD5.out.mod.block _ (heap_lt HBX.out) (by have := HBB.out; omega)).trans HBX.out) rfl
            refine wpAnyIn_ready (rs := [5]) (by kernel_rfl) (by simp) ?_
            refine AllReadyIn.cons rfl (fun K hK => ?_) AllReadyIn.nil
            rw [if_pos (by rfl)]
            have hVo : V5.ownsRow (S + 6) 9 1 v (namesF pre).length ((namesF pre).map .string) := HD5.out.mod.row HO.out (fun k hk e => by have := (own_ge HO.out hk).1; omega)
            have HVO := Lib.hid hVo
            clear hVo
            refine wpIn_own_str _ _ rfl HVO.out (by have := HD5.out.mod.size; have := HZ6.out; omega) rfl g rfl HG.out (by have := namesF_len pre; have := HLN.out; omega) ?_
            intro v' V9 h5 g5 a5
            refine hK _ _ ?_
            clear hK K
            have hS9 : V9.heap[S]? = some (.cells #[v] 36 (0, 0)) := (g5.block _ (by have := HD5.out.mod.size; have := heap_lt HV.out; omega) (fun e => by have := (own_ge HO.out e.symm).1; omega)).trans ((HD5.out.mod.block _ (heap_lt HV.out) (by omega)).trans HV.out)
            obtain ⟨A9, c9, rfl⟩ := ownsRow_slice7 h5
            have c9v : V9.cell? ⟨S, 0, none⟩ = some v := cell_of_row hS9 rfl
            have c9f : V9.frozen? ⟨S, 0, none⟩ = false := free_of_row hS9
            have H5 := Lib.hid (And.intro h5 (And.intro g5 a5))
            clear h5 g5 a5 hS9 cV dV
            refine wpAnyIn_ready (rs := [6]) (by kernel_rfl) (by simp) ?_
            refine AllReadyIn.cons rfl (fun K hK => ?_) AllReadyIn.nil
            go_simp
            refine hK _ _ ?_
            clear hK K
            refine wpAnyIn_done (by kernel_rfl) ?_ _
            gi_wp2_with fail
            have hrp := round_put HI.out (Nat.le_refl _) HZ6.out HV.out HO.out HD5.out (HNM.out.trans HN2.out) H5.out.1 H5.out.2.1 H5.out.2.2
            exact ⟨kb_at HS4.out hrp.1, hrp.2⟩
          · skip
            go_simp
            refine hK _ _ ?_
            clear hK K
            refine wpAnyIn_ready (rs := [0, 3]) (by kernel_rfl) (by simp) ?_
            refine AllReadyIn.cons rfl (fun K hK => ?_) (AllReadyIn.cons rfl (fun K hK => ?_) AllReadyIn.nil)
            · skip
              go_simp
              refine hK _ _ ?_
              clear hK K
              refine wpAnyIn_ready (rs := [3]) (by kernel_rfl) (by simp) ?_
              refine AllReadyIn.cons rfl (fun K hK => ?_) AllReadyIn.nil
              go_simp
              refine ⟨trivial, (CallsIn.inRound l (callsIn_wide.2 (Clone_any s' D HSZ.out))).mono ?_⟩
              rintro e V4 ⟨rfl, bV⟩
              have HD4 := Lib.hid (HD.out.under bV)
              clear bV cV dV
              have cV : V4.cell? ⟨S, 0, none⟩ = some v := cell_of_row (((HD4.out.mod.block _ (heap_lt HV.out) (by omega))).trans HV.out) rfl
              have dV : V4.cell? ⟨b, 2, none⟩ = some (.string s') := cell_of_row ((HD4.out.mod.block _ (heap_lt HBX.out) (by have := HBB.out; omega)).trans HBX.out) rfl
              refine hK _ _ ?_
              clear hK K
              refine wpAnyIn_ready (rs := [4]) (by kernel_rfl) (by simp) ?_
              refine AllReadyIn.cons rfl (fun K hK => ?_) AllReadyIn.nil
              go_simp
              refine hK _ _ ?_
              clear hK K cV dV
              have bV : Below V4.heap.size V4 (V4.alloc (.cells #[.string s'] 9)) := (Below.refl _ _).alloc (Nat.le_refl _) _
              have HD5 := Lib.hid (HD4.out.under bV)
              have HG := Lib.hid (block_alloc V4 (.cells #[.string s'] 9))
              clear bV
              generalize V4.alloc (.cells #[.string s'] 9) = V5 at HD5 HG ⊢
              generalize V4.heap.size = g at HG ⊢
              have cV : V5.cell? ⟨S, 0, none⟩ = some v := cell_of_row (((HD5.out.mod.block _ (heap_lt HV.out) (by omega))).trans HV.out) rfl
              have dV : V5.cell? ⟨b, 2, none⟩ = some (.string s') := cell_of_row ((HD5.out.mod.block _ (heap_lt HBX.out) (by have := HBB.out; omega)).trans HBX.out) rfl
              refine wpAnyIn_ready (rs := [5]) (by kernel_rfl) (by simp) ?_
              refine AllReadyIn.cons rfl (fun K hK => ?_) AllReadyIn.nil
              rw [if_pos (by rfl)]
              have hVo : V5.ownsRow (S + 6) 9 1 v (namesF pre).length ((namesF pre).map .string) := HD5.out.mod.row HO.out (fun k hk e => by have := (own_ge HO.out hk).1; omega)
              have HVO := Lib.hid hVo
              clear hVo
              refine wpIn_own_str _ _ rfl HVO.out (by have := HD5.out.mod.size; have := HZ6.out; omega) rfl g rfl HG.out (by have := namesF_len pre; have := HLN.out; omega) ?_
              intro v' V9 h5 g5 a5
              refine hK _ _ ?_
              clear hK K
              have hS9 : V9.heap[S]? = some (.cells #[v] 36 (0, 0)) := (g5.block _ (by have := HD5.out.mod.size; have := heap_lt HV.out; omega) (fun e => by have := (own_ge HO.out e.symm).1; omega)).trans ((HD5.out.mod.block _ (heap_lt HV.out) (by omega)).trans HV.out)
              obtain ⟨A9, c9, rfl⟩ := ownsRow_slice7 h5
              have c9v : V9.cell? ⟨S, 0, none⟩ = some v := cell_of_row hS9 rfl
              have c9f : V9.frozen? ⟨S, 0, none⟩ = false := free_of_row hS9
              have H5 := Lib.hid (And.intro h5 (And.intro g5 a5))
              clear h5 g5 a5 hS9 cV dV
              refine wpAnyIn_ready (rs := [6]) (by kernel_rfl) (by simp) ?_
              refine AllReadyIn.cons rfl (fun K hK => ?_) AllReadyIn.nil
              go_simp
              refine hK _ _ ?_
              clear hK K
              refine wpAnyIn_done (by kernel_rfl) ?_ _
              gi_wp2_with fail
              have hrp := round_put HI.out (Nat.le_refl _) HZ6.out HV.out HO.out HD5.out (HNM.out.trans HN2.out) H5.out.1 H5.out.2.1 H5.out.2.2
              exact ⟨kb_at HS4.out hrp.1, hrp.2⟩
            · skip
              go_simp
              refine ⟨trivial, (CallsIn.inRound l (callsIn_wide.2 (Clone_any s' D HSZ.out))).mono ?_⟩
              rintro e V3 ⟨rfl, bV⟩
              have HD3 := Lib.hid (HD.out.under bV)
              clear bV cV dV
              have cV : V3.cell? ⟨S, 0, none⟩ = some v := cell_of_row (((HD3.out.mod.block _ (heap_lt HV.out) (by omega))).trans HV.out) rfl
              have dV : V3.cell? ⟨b, 2, none⟩ = some (.string s') := cell_of_row ((HD3.out.mod.block _ (heap_lt HBX.out) (by have := HBB.out; omega)).trans HBX.out) rfl
              refine hK _ _ ?_
              clear hK K
              refine wpAnyIn_ready (rs := [0, 4]) (by kernel_rfl) (by simp) ?_
              refine AllReadyIn.cons rfl (fun K hK => ?_) (AllReadyIn.cons rfl (fun K hK => ?_) AllReadyIn.nil)
              · skip
                go_simp
                refine hK _ _ ?_
                clear hK K
                refine wpAnyIn_ready (rs := [4]) (by kernel_rfl) (by simp) ?_
                refine AllReadyIn.cons rfl (fun K hK => ?_) AllReadyIn.nil
                go_simp
                refine hK _ _ ?_
                clear hK K cV dV
                have bV : Below V3.heap.size V3 (V3.alloc (.cells #[.string s'] 9)) := (Below.refl _ _).alloc (Nat.le_refl _) _
                have HD5 := Lib.hid (HD3.out.under bV)
                have HG := Lib.hid (block_alloc V3 (.cells #[.string s'] 9))
                clear bV
                generalize V3.alloc (.cells #[.string s'] 9) = V5 at HD5 HG ⊢
                generalize V3.heap.size = g at HG ⊢
                have cV : V5.cell? ⟨S, 0, none⟩ = some v := cell_of_row (((HD5.out.mod.block _ (heap_lt HV.out) (by omega))).trans HV.out) rfl
                have dV : V5.cell? ⟨b, 2, none⟩ = some (.string s') := cell_of_row ((HD5.out.mod.block _ (heap_lt HBX.out) (by have := HBB.out; omega)).trans HBX.out) rfl
                refine wpAnyIn_ready (rs := [5]) (by kernel_rfl) (by simp) ?_
                refine AllReadyIn.cons rfl (fun K hK => ?_) AllReadyIn.nil
                rw [if_pos (by rfl)]
                have hVo : V5.ownsRow (S + 6) 9 1 v (namesF pre).length ((namesF pre).map .string) := HD5.out.mod.row HO.out (fun k hk e => by have := (own_ge HO.out hk).1; omega)
                have HVO := Lib.hid hVo
                clear hVo
                refine wpIn_own_str _ _ rfl HVO.out (by have := HD5.out.mod.size; have := HZ6.out; omega) rfl g rfl HG.out (by have := namesF_len pre; have := HLN.out; omega) ?_
                intro v' V9 h5 g5 a5
                refine hK _ _ ?_
                clear hK K
                have hS9 : V9.heap[S]? = some (.cells #[v] 36 (0, 0)) := (g5.block _ (by have := HD5.out.mod.size; have := heap_lt HV.out; omega) (fun e => by have := (own_ge HO.out e.symm).1; omega)).trans ((HD5.out.mod.block _ (heap_lt HV.out) (by omega)).trans HV.out)
                obtain ⟨A9, c9, rfl⟩ := ownsRow_slice7 h5
                have c9v : V9.cell? ⟨S, 0, none⟩ = some v := cell_of_row hS9 rfl
                have c9f : V9.frozen? ⟨S, 0, none⟩ = false := free_of_row hS9
                have H5 := Lib.hid (And.intro h5 (And.intro g5 a5))
                clear h5 g5 a5 hS9 cV dV
                refine wpAnyIn_ready (rs := [6]) (by kernel_rfl) (by simp) ?_
                refine AllReadyIn.cons rfl (fun K hK => ?_) AllReadyIn.nil
                go_simp
                refine hK _ _ ?_
                clear hK K
                refine wpAnyIn_done (by kernel_rfl) ?_ _
                gi_wp2_with fail
                have hrp := round_put HI.out (Nat.le_refl _) HZ6.out HV.out HO.out HD5.out (HNM.out.trans HN2.out) H5.out.1 H5.out.2.1 H5.out.2.2
                exact ⟨kb_at HS4.out hrp.1, hrp.2⟩
              · skip
                go_simp
                refine hK _ _ ?_
                clear hK K cV dV
                have bV : Below V3.heap.size V3 (V3.alloc (.cells #[.string s'] 9)) := (Below.refl _ _).alloc (Nat.le_refl _) _
                have HD4 := Lib.hid (HD3.out.under bV)
                have HG := Lib.hid (block_alloc V3 (.cells #[.string s'] 9))
                clear bV
                generalize V3.alloc (.cells #[.string s'] 9) = V4 at HD4 HG ⊢
                generalize V3.heap.size = g at HG ⊢
                have cV : V4.cell? ⟨S, 0, none⟩ = some v := cell_of_row (((HD4.out.mod.block _ (heap_lt HV.out) (by omega))).trans HV.out) rfl
                have dV : V4.cell? ⟨b, 2, none⟩ = some (.string s') := cell_of_row ((HD4.out.mod.block _ (heap_lt HBX.out) (by have := HBB.out; omega)).trans HBX.out) rfl
                refine wpAnyIn_ready (rs := [0]) (by kernel_rfl) (by simp) ?_
                refine AllReadyIn.cons rfl (fun K hK => ?_) AllReadyIn.nil
                go_simp
                refine hK _ _ ?_
                clear hK K
                refine wpAnyIn_ready (rs := [5]) (by kernel_rfl) (by simp) ?_
                refine AllReadyIn.cons rfl (fun K hK => ?_) AllReadyIn.nil
                rw [if_pos (by rfl)]
                have hVo : V4.ownsRow (S + 6) 9 1 v (namesF pre).length ((namesF pre).map .string) := HD4.out.mod.row HO.out (fun k hk e => by have := (own_ge HO.out hk).1; omega)
                have HVO := Lib.hid hVo
                clear hVo
                refine wpIn_own_str _ _ rfl HVO.out (by have := HD4.out.mod.size; have := HZ6.out; omega) rfl g rfl HG.out (by have := namesF_len pre; have := HLN.out; omega) ?_
                intro v' V9 h5 g5 a5
                refine hK _ _ ?_
                clear hK K
                have hS9 : V9.heap[S]? = some (.cells #[v] 36 (0, 0)) := (g5.block _ (by have := HD4.out.mod.size; have := heap_lt HV.out; omega) (fun e => by have := (own_ge HO.out e.symm).1; omega)).trans ((HD4.out.mod.block _ (heap_lt HV.out) (by omega)).trans HV.out)
                obtain ⟨A9, c9, rfl⟩ := ownsRow_slice7 h5
                have c9v : V9.cell? ⟨S, 0, none⟩ = some v := cell_of_row hS9 rfl
                have c9f : V9.frozen? ⟨S, 0, none⟩ = false := free_of_row hS9
                have H5 := Lib.hid (And.intro h5 (And.intro g5 a5))
                clear h5 g5 a5 hS9 cV dV
                refine wpAnyIn_ready (rs := [6]) (by kernel_rfl) (by simp) ?_
                refine AllReadyIn.cons rfl (fun K hK => ?_) AllReadyIn.nil
                go_simp
                refine hK _ _ ?_
                clear hK K
                refine wpAnyIn_done (by kernel_rfl) ?_ _
                gi_wp2_with fail
                have hrp := round_put HI.out (Nat.le_refl _) HZ6.out HV.out HO.out HD4.out (HNM.out.trans HN2.out) H5.out.1 H5.out.2.1 H5.out.2.2
                exact ⟨kb_at HS4.out hrp.1, hrp.2⟩
    case done =>
      rintro xs W hxs hi hK
      have hnm : namesF xs = varsL x := by
        rw [HV0.out]
        unfold namesF
        have e1 : xs.map (fun p => p.1.1) = (xs.map ndK).map (·.1) := by rw [List.map_map]; rfl
        rw [e1, hxs, List.take_of_length_le (by rw [Tm.preD_len]; have := HFX.out; omega), Tm.preD_fst]
      obtain ⟨v, hv, ho⟩ := hi.row
      obtain ⟨A9, c9, rfl⟩ := ownsRow_slice7 ho
      rw [hnm] at ho hv
      have cv : W.cell? ⟨S, 0, none⟩ = some (.slice A9 (varsL x).length c9) := cell_of_row hv rfl
      have HI := Lib.hid hi
      have HK := Lib.hid hK
      have HO := Lib.hid ho
      clear hi hK hv ho hnm hxs
      gi_wp2
      refine ⟨by simp, .inl ⟨_, _, rfl, run_takeDeferred HK.out, ?_⟩⟩
      refine ⟨.slice A9 (varsL x).length c9, by simp [results, Tryz.f215, go_sem], A9, c9, rfl, ?_, ?_⟩
      · exact srow_of_own (HO.out.kept7 (fun g o hg hc => (World.putObj_heap_other (fun e => by subst e; rw [HK.out] at hg; cases hg; cases hc)).trans hg))
      · exact HI.out.below.trans ((Mod.putObj (F := fun k => k = v4.heap.size) _ _ _ rfl).below HI.out.below.size (fun k e => by have := HS4.out; have := HWS.out; omega))
    case stop =>
      rintro c pre W ⟨k, hk, hkl⟩ h
      exact h.elim
end Go.Proofs.YtdimcddbmccniaaGreatDoor
