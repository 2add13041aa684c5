/- Putting terms on heaps, plainly: what comes of it, and that it is taken off again. package heap: what Put's closure leans on: blocks apart from a heap. -/
import Derived.Test.YtgdkhmamjhdfdaaGreatDoorHeapU
import Derived.Test.YtgdkhmamjhdfdaaGreatDoorHeapK
set_option linter.unusedVariables false
namespace Go.Proofs.YtgdkhmamjhdfdaaGreatDoor
open Go.RowKit

mutual
/-- A term put on cells: the cells, and its word. -/
def put1 : List HC → Tm → List HC × HW
  | cs, .mk k n s t l => if k = 5 ∨ k = 7 then ((puts cs l).1 ++ [⟨k, wsum (puts cs l).1 (puts cs l).2, (puts cs l).2⟩], .ref (puts cs l).1.length) else (cs, .leaf (.mk k n s t l))
/-- Terms put one behind the other. -/
def puts : List HC → List Tm → List HC × List HW
  | cs, [] => (cs, [])
  | cs, x :: l => ((puts (put1 cs x).1 l).1, (put1 cs x).2 :: (puts (put1 cs x).1 l).2)
end
theorem puts_append (cs : List HC) (a b : List Tm) : puts cs (a ++ b) = ((puts (puts cs a).1 b).1, (puts cs a).2 ++ (puts (puts cs a).1 b).2) := by
  induction a generalizing cs with
  | nil => simp [puts]
  | cons x a ih => simp [puts, ih]
theorem puts_take_succ (cs : List HC) {l : List Tm} {j : Nat} {x : Tm} (h : l[j]? = some x) : puts cs (l.take (j + 1)) = ((put1 (puts cs (l.take j)).1 x).1, (puts cs (l.take j)).2 ++ [(put1 (puts cs (l.take j)).1 x).2]) := by
  rw [List.take_add_one, h, show (some x).toList = [x] from rfl, puts_append]
  simp [puts]
theorem puts_len (cs : List HC) (l : List Tm) : (puts cs l).2.length = l.length := by
  induction l generalizing cs with
  | nil => simp [puts]
  | cons x l ih => simp [puts, ih]

theorem wt_stable {cs : List HC} (hg : HGood cs) (more : List HC) : ∀ (n : Nat) (y : HW), wgood n y → n ≤ cs.length → ∀ f g, n ≤ f → n ≤ g → wt (cs ++ more) f y = wt cs g y := by
  intro n
  induction n using Nat.strongRecOn with
  | ind n ih =>
    intro y hy hn f g hf hgg
    cases y with
    | leaf x => cases f <;> cases g <;> rfl
    | ref a =>
      have ha : a < n := hy
      obtain ⟨f', rfl⟩ : ∃ f', f = f' + 1 := ⟨f - 1, by omega⟩
      obtain ⟨g', rfl⟩ : ∃ g', g = g' + 1 := ⟨g - 1, by omega⟩
      obtain ⟨c, hc⟩ : ∃ c, cs[a]? = some c := ⟨cs[a]'(by omega), List.getElem?_eq_getElem _⟩
      have hc2 : (cs ++ more)[a]? = some c := by rw [List.getElem?_append_left (by omega)]; exact hc
      rw [wt_ref hc, wt_ref hc2]
      congr 1
      refine List.map_congr_left (fun p hp => ?_)
      exact ih a ha p (hg.low a c hc p hp) (by omega) f' g' (by omega) (by omega)
theorem wsize_ext {cs more : List HC} {y : HW} (h : wgood cs.length y) : wsize (cs ++ more) y = wsize cs y := by
  cases y with
  | leaf x => rfl
  | ref a =>
    have e : (cs ++ more)[a]? = cs[a]? := List.getElem?_append_left h
    unfold wsize
    simp only [e]
theorem wsize_at {cs : List HC} {a : Nat} {c : HC} (h : cs[a]? = some c) : wsize cs (.ref a) = c.size := by
  unfold wsize; simp only [h]
theorem wsum_ext {cs more : List HC} : ∀ {L : List HW}, (∀ y ∈ L, wgood cs.length y) → wsum (cs ++ more) L = wsum cs L
  | [], _ => rfl
  | y :: L, h => by
    rw [wsum, wsum, wsize_ext (h y (by simp)), wsum_ext (fun z hz => h z (by simp [hz]))]
theorem wgood_mono {n m : Nat} (h : n ≤ m) {y : HW} (hy : wgood n y) : wgood m y := by
  cases y with
  | leaf x => exact hy
  | ref a => exact Nat.lt_of_lt_of_le hy h
/-- A cell more. -/
theorem HGood.snoc {cs : List HC} (hg : HGood cs) (k : Int) (L : List HW) (hk : k = 5 ∨ (k = 7 ∧ L.length = 2)) (hL : ∀ y ∈ L, wgood cs.length y) (h256 : wsum cs L ≤ 256) (hlen : cs.length + 1 ≤ 1048576) : HGood (cs ++ [⟨k, wsum cs L, L⟩]) := by
  have split : ∀ (n : Nat) (c : HC), (cs ++ [⟨k, wsum cs L, L⟩])[n]? = some c → cs[n]? = some c ∨ (n = cs.length ∧ c = ⟨k, wsum cs L, L⟩) := by
    intro n c h
    rw [List.getElem?_append] at h
    split at h
    · exact .inl h
    · have := (List.getElem?_eq_some_iff.1 h).1
      simp at this
      have hn : n = cs.length := by omega
      subst hn
      simp at h
      exact .inr ⟨rfl, h.symm⟩
  refine ⟨fun n c h => ?_, fun n c h y hy => ?_, fun n c h => ?_, fun n c h => ?_, by simp; omega⟩
  · rcases split n c h with h | ⟨rfl, rfl⟩
    · exact hg.kind n c h
    · exact hk
  · rcases split n c h with h | ⟨rfl, rfl⟩
    · exact hg.low n c h y hy
    · exact hL y hy
  · rcases split n c h with h | ⟨rfl, rfl⟩
    · rw [hg.size n c h]
      exact (wsum_ext (fun y hy => wgood_mono (Nat.le_of_lt (List.getElem?_eq_some_iff.1 h).1) (hg.low n c h y hy))).symm
    · exact (wsum_ext hL).symm
  · rcases split n c h with h | ⟨rfl, rfl⟩
    · exact hg.most n c h
    · exact h256

/-- What is said of a term put: it lies above what was there, may be, has the term's size, and reads as the term. -/
structure PutOk (cs cs' : List HC) (y : HW) (x : Tm) : Prop where
  good : HGood cs'
  above : ∃ more, cs' = cs ++ more ∧ more.length ≤ x.nodes
  word : wgood cs'.length y
  size : wsize cs' y = x.nodes
  back : ∀ f, cs'.length ≤ f → wt cs' f y = x
structure PutsOk (cs cs' : List HC) (L : List HW) (l : List Tm) : Prop where
  good : HGood cs'
  above : ∃ more, cs' = cs ++ more ∧ more.length ≤ (Tm.pres l).length
  word : ∀ y ∈ L, wgood cs'.length y
  size : wsum cs' L = 1 + (Tm.pres l).length
  back : ∀ f, cs'.length ≤ f → L.map (wt cs' f) = l

theorem puts_ok_of (l : List Tm) (hx : ∀ x ∈ l, Valid x → x.nodes ≤ 256 → ∀ cs, HGood cs → cs.length + x.nodes ≤ 1048576 → PutOk cs (put1 cs x).1 (put1 cs x).2 x) (hv : ∀ x ∈ l, Valid x) (hn : (Tm.pres l).length ≤ 256) : ∀ cs, HGood cs → cs.length + (Tm.pres l).length ≤ 1048576 → PutsOk cs (puts cs l).1 (puts cs l).2 l := by
  induction l with
  | nil =>
    intro cs hg hl
    exact ⟨by simpa [puts] using hg, ⟨[], by simp [puts], by simp⟩, by simp [puts], by simp [puts, wsum, Tm.pres], by simp [puts]⟩
  | cons x l ih =>
    intro cs hg hl
    rw [Tm.pres, List.length_append] at hn hl
    have hxn : x.pre.length = x.nodes := rfl
    have h1 := hx x (by simp) (hv x (by simp)) (by omega) cs hg (by omega)
    obtain ⟨m1, e1, l1⟩ := h1.above
    have h2 := ih (fun y hy => hx y (by simp [hy])) (fun y hy => hv y (by simp [hy])) (by omega) (put1 cs x).1 h1.good (by rw [e1, List.length_append]; omega)
    obtain ⟨m2, e2, l2⟩ := h2.above
    rw [puts]
    refine ⟨h2.good, ⟨m1 ++ m2, by rw [e2, e1, List.append_assoc], by rw [Tm.pres]; simp only [List.length_append]; omega⟩, fun y hy => ?_, ?_, fun f hf => ?_⟩
    · rcases List.mem_cons.1 hy with rfl | hy
      · exact wgood_mono (by rw [e2, List.length_append]; omega) h1.word
      · exact h2.word y hy
    · rw [wsum, h2.size, Tm.pres, List.length_append]
      have : wsize (puts (put1 cs x).1 l).1 (put1 cs x).2 = x.nodes := by rw [e2, wsize_ext h1.word]; exact h1.size
      rw [this]; omega
    · rw [List.map_cons, h2.back f hf]
      congr 1
      rw [e2]
      rw [wt_stable h1.good m2 (put1 cs x).1.length _ h1.word (Nat.le_refl _) f (put1 cs x).1.length (by rw [e2, List.length_append] at hf; omega) (Nat.le_refl _)]
      exact h1.back _ (Nat.le_refl _)

theorem put1_ok (x : Tm) : Valid x → x.nodes ≤ 256 → ∀ cs, HGood cs → cs.length + x.nodes ≤ 1048576 → PutOk cs (put1 cs x).1 (put1 cs x).2 x := by
  induction x using Tm.ind with
  | h k n s t l ih =>
    intro hv hn cs hg hl
    have hnod : (Tm.mk k n s t l).nodes = 1 + (Tm.pres l).length := by unfold Tm.nodes Tm.pre; simp; omega
    by_cases hk : k = 5 ∨ k = 7
    · have h := puts_ok_of l (fun x hx => ih x hx) (fun y hy => hv.part hy) (by omega) cs hg (by omega)
      obtain ⟨more, e, hm⟩ := h.above
      rw [put1, if_pos hk]
      have hsize : wsum (puts cs l).1 (puts cs l).2 = (Tm.mk k n s t l).nodes := by rw [h.size, hnod]
      have hk2 : k = 5 ∨ (k = 7 ∧ (puts cs l).2.length = 2) := by
        rcases hk with rfl | rfl
        · exact .inl rfl
        · obtain ⟨a, b, rfl⟩ := cons_two hv.own
          exact .inr ⟨rfl, by rw [puts_len]; rfl⟩
      have hlen : (puts cs l).1.length + 1 ≤ 1048576 := by rw [e, List.length_append]; omega
      have hg2 := h.good.snoc k (puts cs l).2 hk2 h.word (by omega) hlen
      have hat : ((puts cs l).1 ++ [(⟨k, wsum (puts cs l).1 (puts cs l).2, (puts cs l).2⟩ : HC)])[(puts cs l).1.length]? = some ⟨k, wsum (puts cs l).1 (puts cs l).2, (puts cs l).2⟩ := by
        rw [List.getElem?_append_right (Nat.le_refl _)]; simp
      refine ⟨hg2, ⟨more ++ [⟨k, wsum (puts cs l).1 (puts cs l).2, (puts cs l).2⟩], by rw [← List.append_assoc, ← e], by rw [List.length_append]; simp; omega⟩, ?_, ?_, fun f hf => ?_⟩
      · show _ < _
        rw [List.length_append]; simp
      · exact (wsize_at hat).trans hsize
      · rw [List.length_append] at hf
        simp at hf
        obtain ⟨f', rfl⟩ : ∃ f', f = f' + 1 := ⟨f - 1, by omega⟩
        rw [wt_ref hat]
        have hmap : (puts cs l).2.map (wt ((puts cs l).1 ++ [⟨k, wsum (puts cs l).1 (puts cs l).2, (puts cs l).2⟩]) f') = l := by
          refine Eq.trans (List.map_congr_left (fun p hp => ?_)) (h.back (puts cs l).1.length (Nat.le_refl _))
          exact wt_stable h.good _ _ p (h.word p hp) (Nat.le_refl _) _ _ (by omega) (Nat.le_refl _)
        have hmap' := hmap
        show Tm.mk k 0 ⟨#[]⟩ ⟨#[]⟩ _ = Tm.mk k n s t l
        rcases valid_cases hv.own with hc | hc | hc | hc | hc | hc | hc | hc
        · exfalso; obtain ⟨rfl, -⟩ := hc; omega
        · exfalso; obtain ⟨rfl, -⟩ := hc; omega
        · exfalso; obtain ⟨rfl, -⟩ := hc; omega
        · exfalso; obtain ⟨rfl, -⟩ := hc; omega
        · exfalso; obtain ⟨rfl, -⟩ := hc; omega
        · obtain ⟨-, rfl, rfl, rfl⟩ := hc; rw [hmap']
        · exfalso; obtain ⟨rfl, -⟩ := hc; omega
        · obtain ⟨-, rfl, rfl, rfl, -⟩ := hc; rw [hmap']
    · rw [put1, if_neg hk]
      have hle : leafE (.mk k n s t l) = 0 := by
        unfold leafE
        rw [if_neg (by rw [check_of hv hn]; decide), if_neg]
        intro e
        simp [Tm.k] at e
        exact hk e
      have hb := leaf_bounds hle
      have hlnil : l = [] := hb.1
      subst hlnil
      refine ⟨hg, ⟨[], by simp, by simp⟩, hle, ?_, fun f _ => ?_⟩
      · show 1 = _
        rw [hnod]; simp [Tm.pres]
      · cases f <;> rfl
end Go.Proofs.YtgdkhmamjhdfdaaGreatDoor
set_option linter.unusedVariables false
namespace Go.Proofs.YtgdkhmamjhdfdaaGreatDoor
open Go.RowKit

/-- A block that is apart from the heap, and what it holds. -/
structure Kept (base hb : Nat) (s : HSt) (b : Nat) (o : Obj) (w : World) : Prop where
  blk : w.heap[b]? = some o
  core : s.Core base w b
  ne : b ≠ hb
theorem Kept.under {base hb b : Nat} {s : HSt} {o : Obj} {w w' : World} (h : Kept base hb s b o w) (bb : Below w.heap.size w w') : Kept base hb s b o w' := ⟨(bb.block _ (heap_lt h.blk)).trans h.blk, h.core.under bb, h.ne⟩
theorem Kept.move {base hb b : Nat} {s s' : HSt} {o : Obj} {w w' : World} (h : Kept base hb s b o w) (m : HMove base hb s s' w w') : Kept base hb s' b o w' := ⟨(m.block (heap_lt h.blk) h.core h.ne).trans h.blk, m.apart b (heap_lt h.blk) h.core, h.ne⟩
theorem Kept.write {base hb b b0 : Nat} {s : HSt} {o : Obj} {w w' : World} (h : Kept base hb s b o w) (h0 : s.Core base w b0) (hne : b ≠ b0) (m : Mod (fun k => k = b0) w w') : Kept base hb s b o w' := ⟨(m.block _ (heap_lt h.blk) hne).trans h.blk, h.core.write h0 m, h.ne⟩
theorem Kept.new {base hb : Nat} {s : HSt} {o : Obj} {w w' : World} (h : s.At base w hb) (bb : Below w.heap.size w w') (hb' : w'.heap[w.heap.size]? = some o) : Kept base hb s w.heap.size o w' := ⟨hb', h.new bb, by have := h.lt; omega⟩

/-- The closure's surroundings: the heap, the box with its pointer, its own box. -/
structure PkE (base hb : Nat) (s : HSt) (B F : Nat) (w : World) : Prop where
  heap : s.At base w hb
  hbox : Kept base hb s B (.cells #[.pointer (some ⟨hb, 0, none⟩)] 33 (0, 0)) w
  fbox : Kept base hb s F (.cells #[.func (.func 73) #[] #[.pointer (some ⟨F, 0, none⟩), .pointer (some ⟨B, 0, none⟩)]] 117 (0, 0)) w
theorem PkE.under {base hb B F : Nat} {s : HSt} {w w' : World} (h : PkE base hb s B F w) (b : Below w.heap.size w w') : PkE base hb s B F w' := ⟨h.heap.under b, h.hbox.under b, h.fbox.under b⟩
theorem PkE.move {base hb B F : Nat} {s s' : HSt} {w w' : World} (h : PkE base hb s B F w) (m : HMove base hb s s' w w') : PkE base hb s' B F w' := ⟨m.at_, h.hbox.move m, h.fbox.move m⟩

/-- How many words cells are. -/
def wordsOf : List HC → Nat
  | [] => 0
  | c :: cs => 1 + c.L.length + wordsOf cs
theorem wordsOf_append (a b : List HC) : wordsOf (a ++ b) = wordsOf a + wordsOf b := by
  induction a with
  | nil => simp [wordsOf]
  | cons c a ih => simp [wordsOf, ih]; omega
theorem wsum_ge {cs : List HC} (hg : HGood cs) : ∀ L : List HW, L.length + 1 ≤ wsum cs L := by
  have h1 : ∀ L : List HW, 1 ≤ wsum cs L := by intro L; induction L with | nil => simp [wsum] | cons y L ih => simp [wsum]; omega
  intro L
  induction L with
  | nil => simp [wsum]
  | cons y L ih =>
    have : 1 ≤ wsize cs y := by
      cases y with
      | leaf x => exact Nat.le_refl 1
      | ref b =>
        cases hb : cs[b]? with
        | none => unfold wsize; simp only [hb]; omega
        | some d => rw [wsize_at hb, hg.size b d hb]; exact h1 d.L
    simp [wsum]; omega
theorem wordsOf_le {cs : List HC} (hg : HGood cs) : wordsOf cs ≤ 256 * cs.length := by
  have : ∀ ds : List HC, (∀ d ∈ ds, d.L.length + 1 ≤ 256) → wordsOf ds ≤ 256 * ds.length := by
    intro ds
    induction ds with
    | nil => intro _; simp [wordsOf]
    | cons d ds ih => intro h; have h1 := h d (by simp); have h2 := ih (fun x hx => h x (by simp [hx])); simp [wordsOf]; omega
  refine this cs (fun d hd => ?_)
  obtain ⟨n, hn, e⟩ := List.getElem_of_mem hd
  have hn2 : cs[n]? = some d := by rw [← e]; exact List.getElem?_eq_getElem hn
  have h1 := hg.size n d hn2
  have h2 := hg.most n d hn2
  have h3 := wsum_ge hg d.L
  omega
/-- A heap that is as it should be. -/
structure HOk (s : HSt) : Prop where
  good : HGood s.cs
  ws : s.ws = wordsOf s.cs
  rn : s.rn ≤ 1000000
theorem HOk.ws_le {s : HSt} (h : HOk s) : s.ws ≤ 1000000000000 := by
  have h1 := wordsOf_le h.good
  have h2 := h.good.len
  have h3 := h.ws
  omega

theorem mayW_mono {N M : Nat} (h : N ≤ M) {c : Bool} {a : Int} {x : Tm} (hm : mayW N c a x = true) : mayW M c a x = true := by
  unfold mayW at hm ⊢
  cases c
  · exact hm
  · simp only [if_true, Bool.and_eq_true, decide_eq_true_eq] at hm ⊢
    exact ⟨⟨hm.1.1, by omega⟩, hm.2⟩

theorem pres_take_le2 (l : List Tm) (j : Nat) : (Tm.pres (l.take j)).length ≤ (Tm.pres l).length := by
  rw [show Tm.pres l = Tm.pres (l.take j) ++ Tm.pres (l.drop j) by rw [← Tm.pres_append, List.take_append_drop]]
  simp
mutual
theorem put1_grow (cs : List HC) : ∀ x : Tm, cs.length ≤ (put1 cs x).1.length
  | .mk k n s t l => by
    rw [put1]
    split
    · have := puts_grow cs l
      rw [List.length_append]; omega
    · exact Nat.le_refl _
theorem puts_grow (cs : List HC) : ∀ l : List Tm, cs.length ≤ (puts cs l).1.length
  | [] => by rw [puts]; exact Nat.le_refl _
  | x :: l => by
    rw [puts]
    exact Nat.le_trans (put1_grow cs x) (puts_grow (put1 cs x).1 l)
end

/-- What Put's closure hands back: the word, and the heap with the term on it. -/
def Put1P (base hb : Nat) (s : HSt) (x : Tm) (w : World) (e : Ending) (w' : World) : Prop :=
  ∃ (q : AW) (k n : Int) (sx tx : ByteArray) (A : Option Addr) (cap : Nat), e = .returned (.agg #[.bool q.c, .int .i64 q.a, .int .i8 k, .int .i64 n, .string sx, .string tx, .slice A 0 cap]) ∧ q.x = .mk k n sx tx [] ∧ TmAt (fun _ => False) w' q.x (.agg #[.int .i8 k, .int .i64 n, .string sx, .string tx, .slice A 0 cap]) ∧
    q.hw = (put1 s.cs x).2 ∧ mayW (put1 s.cs x).1.length q.c q.a q.x = true ∧ ∃ s' : HSt, s'.cs = (put1 s.cs x).1 ∧ s'.ws = wordsOf s'.cs ∧ HMove base hb s s' w w'

/-- The i-th place of a row of words in the block g. -/
def RowW (w : World) (g i : Nat) (v : Value) : Prop :=
  ∃ c0 c1 c2 c3 c4 c5 c6, v = .agg #[c0, c1, c2, c3, c4, c5, c6] ∧ w.cell? ⟨g, i * 7, none⟩ = some c0 ∧ w.cell? ⟨g, i * 7 + 1, none⟩ = some c1 ∧ w.cell? ⟨g, i * 7 + 2, none⟩ = some c2 ∧ w.cell? ⟨g, i * 7 + 3, none⟩ = some c3 ∧ w.cell? ⟨g, i * 7 + 4, none⟩ = some c4 ∧ w.cell? ⟨g, i * 7 + 5, none⟩ = some c5 ∧ w.cell? ⟨g, i * 7 + 6, none⟩ = some c6
theorem RowW.elem {w : World} {g i : Nat} {v : Value} (h : RowW w g i v) : ElemW w ⟨g, 0, none⟩ i v := by
  obtain ⟨c0, c1, c2, c3, c4, c5, c6, e, h0, h1, h2, h3, h4, h5, h6⟩ := h
  have ea : (⟨g, 0, none⟩ : Addr).add (i * 7) = ⟨g, i * 7, none⟩ := by unfold Addr.add; split <;> simp_all
  exact ⟨c0, c1, c2, c3, c4, c5, c6, e, by rw [ea]; exact h0, by rw [ea]; exact h1, by rw [ea]; exact h2, by rw [ea]; exact h3, by rw [ea]; exact h4, by rw [ea]; exact h5, by rw [ea]; exact h6⟩
theorem RowW.keep {w w' : World} {g i : Nat} {v : Value} (h : RowW w g i v) (hb : w'.heap[g]? = w.heap[g]?) : RowW w' g i v := by
  obtain ⟨c0, c1, c2, c3, c4, c5, c6, e, h0, h1, h2, h3, h4, h5, h6⟩ := h
  have k : ∀ o, w'.cell? ⟨g, o, none⟩ = w.cell? ⟨g, o, none⟩ := fun o => World.cell?_of_block (w := w) (a := ⟨g, o, none⟩) hb
  exact ⟨c0, c1, c2, c3, c4, c5, c6, e, (k _).trans h0, (k _).trans h1, (k _).trans h2, (k _).trans h3, (k _).trans h4, (k _).trans h5, (k _).trans h6⟩
theorem setW_block {w : World} {g p : Nat} {cur : Array Value} {T : TypeId} (h : w.heap[g]? = some (.cells cur T (0, 0))) (c0 c1 c2 c3 c4 c5 c6 : Value) : ∃ cur', (setW w g p c0 c1 c2 c3 c4 c5 c6).heap[g]? = some (.cells cur' T (0, 0)) ∧ cur'.size = cur.size := by
  unfold setW
  exact ⟨_, set_row (i := p + 6) _ (set_row (i := p + 5) _ (set_row (i := p + 4) _ (set_row (i := p + 3) _ (set_row (i := p + 2) _ (set_row (i := p + 1) _ (set_row (i := p) _ h)))))), by simp⟩
theorem setW_other {w : World} {g p o : Nat} {cur : Array Value} {T : TypeId} (h : w.heap[g]? = some (.cells cur T (0, 0))) (ho : o < p ∨ p + 7 ≤ o) (c0 c1 c2 c3 c4 c5 c6 : Value) : (setW w g p c0 c1 c2 c3 c4 c5 c6).cell? ⟨g, o, none⟩ = w.cell? ⟨g, o, none⟩ := by
  have s0 := set_row (i := p) c0 h
  have s1 := set_row (i := p + 1) c1 s0
  have s2 := set_row (i := p + 2) c2 s1
  have s3 := set_row (i := p + 3) c3 s2
  have s4 := set_row (i := p + 4) c4 s3
  have s5 := set_row (i := p + 5) c5 s4
  have s6 := set_row (i := p + 6) c6 s5
  unfold setW
  simp only [World.cell?, s6, h]
  rw [Array.getElem?_setIfInBounds_ne (by omega), Array.getElem?_setIfInBounds_ne (by omega), Array.getElem?_setIfInBounds_ne (by omega), Array.getElem?_setIfInBounds_ne (by omega), Array.getElem?_setIfInBounds_ne (by omega), Array.getElem?_setIfInBounds_ne (by omega), Array.getElem?_setIfInBounds_ne (by omega)]
theorem RowW.set {w : World} {g i j : Nat} {v : Value} {cur : Array Value} {T : TypeId} (h : RowW w g i v) (hb : w.heap[g]? = some (.cells cur T (0, 0))) (hij : i ≠ j) (d0 d1 d2 d3 d4 d5 d6 : Value) : RowW (setW w g (j * 7) d0 d1 d2 d3 d4 d5 d6) g i v := by
  obtain ⟨c0, c1, c2, c3, c4, c5, c6, e, h0, h1, h2, h3, h4, h5, h6⟩ := h
  have k : ∀ o, (o < j * 7 ∨ j * 7 + 7 ≤ o) → (setW w g (j * 7) d0 d1 d2 d3 d4 d5 d6).cell? ⟨g, o, none⟩ = w.cell? ⟨g, o, none⟩ := fun o ho => setW_other hb ho _ _ _ _ _ _ _
  exact ⟨c0, c1, c2, c3, c4, c5, c6, e, (k _ (by omega)).trans h0, (k _ (by omega)).trans h1, (k _ (by omega)).trans h2, (k _ (by omega)).trans h3, (k _ (by omega)).trans h4, (k _ (by omega)).trans h5, (k _ (by omega)).trans h6⟩
theorem RowW.here {w : World} {g j : Nat} {cur : Array Value} {T : TypeId} (hb : w.heap[g]? = some (.cells cur T (0, 0))) (hs : j * 7 + 7 ≤ cur.size) (d0 d1 d2 d3 d4 d5 d6 : Value) : RowW (setW w g (j * 7) d0 d1 d2 d3 d4 d5 d6) g j (.agg #[d0, d1, d2, d3, d4, d5, d6]) := by
  have k := setW_cells hb hs d0 d1 d2 d3 d4 d5 d6
  exact ⟨d0, d1, d2, d3, d4, d5, d6, rfl, k 0 _ rfl, k 1 _ rfl, k 2 _ rfl, k 3 _ rfl, k 4 _ rfl, k 5 _ rfl, k 6 _ rfl⟩
end Go.Proofs.YtgdkhmamjhdfdaaGreatDoor
