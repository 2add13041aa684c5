/- What HeapBack's walk leans on. More that HeapBack's walk leans on: its second loop. -/
import Derived.Test.YtphfekcacaaabaaDoorHeapO
import Derived.Test.YtphfekcacaaabaaDoorHeapS
import Derived.Test.YtphfekcacaaabaaDoorHeapU
import Derived.Test.YtphfekcacaaabaaDoorRef03M
import Derived.Test.YtphfekcacaaabaaDoorSame
import Derived.Test.YtphfekcacaaabaaDoorWakes04
set_option linter.unusedVariables false
namespace Go.Proofs.YtphfekcacaaabaaDoor
open Go.RowKit

theorem puts_ok_many (l : List Tm) (hv : ∀ x ∈ l, Valid x) (hn : ∀ x ∈ l, x.nodes ≤ 256) : ∀ cs, HGood cs → cs.length + (Tm.pres l).length ≤ 1048576 → PutsOk cs (puts cs l).1 (puts cs l).2 l := by
  induction l with
  | nil =>
    intro cs hg hl
    exact ⟨by simpa [puts] using hg, ⟨[], by simp [puts], by simp⟩, by simp [puts], by simp [puts, wsum, Tm.pres], by simp [puts]⟩
  | cons x l ih =>
    intro cs hg hl
    rw [Tm.pres, List.length_append] at hl
    have hxn : x.pre.length = x.nodes := rfl
    have h1 := put1_ok x (hv x (by simp)) (hn x (by simp)) cs hg (by omega)
    obtain ⟨m1, e1, l1⟩ := h1.above
    have h2 := ih (fun y hy => hv y (by simp [hy])) (fun y hy => hn y (by simp [hy])) (put1 cs x).1 h1.good (by rw [e1, List.length_append]; omega)
    obtain ⟨m2, e2, l2⟩ := h2.above
    rw [puts]
    refine ⟨h2.good, ⟨m1 ++ m2, by rw [e2, e1, List.append_assoc], by rw [Tm.pres]; simp only [List.length_append]; omega⟩, fun y hy => ?_, ?_, fun f hf => ?_⟩
    · rcases List.mem_cons.1 hy with rfl | hy
      · exact wgood_mono (by rw [e2, List.length_append]; omega) h1.word
      · exact h2.word y hy
    · rw [wsum, h2.size, Tm.pres, List.length_append]
      have : wsize (puts (put1 cs x).1 l).1 (put1 cs x).2 = x.nodes := by rw [e2, wsize_ext h1.word]; exact h1.size
      rw [this]; omega
    · rw [List.map_cons, h2.back f hf]
      congr 1
      rw [e2]
      rw [wt_stable h1.good m2 (put1 cs x).1.length _ h1.word (Nat.le_refl _) f (put1 cs x).1.length (by rw [e2, List.length_append] at hf; omega) (Nat.le_refl _)]
      exact h1.back _ (Nat.le_refl _)
theorem pres_small : ∀ (l : List Tm), (∀ x ∈ l, x.nodes ≤ 256) → (Tm.pres l).length ≤ 256 * l.length
  | [], _ => by simp [Tm.pres]
  | x :: l, h => by
    have h1 := h x (by simp)
    have h2 := pres_small l (fun y hy => h y (by simp [hy]))
    have hxn : x.pre.length = x.nodes := rfl
    rw [Tm.pres, List.length_append, List.length_cons]; omega
theorem good_none : HGood [] := ⟨fun n c h => by simp at h, fun n c h => by simp at h, fun n c h => by simp at h, fun n c h => by simp at h, by decide⟩

/-- A word has as many nodes as its term. -/
theorem wsize_nodes {cs : List HC} (hg : HGood cs) : ∀ (n : Nat) (y : HW) (x : Tm), wgood n y → n ≤ cs.length → wt cs n y = x → wsize cs y = x.nodes := by
  intro n
  induction n using Nat.strongRecOn with
  | ind n ih =>
    intro y x hy hn hx
    cases y with
    | leaf z =>
      have : wt cs n (.leaf z) = .mk z.k z.n z.s z.t [] := by cases n <;> rfl
      rw [this] at hx
      subst hx
      rfl
    | ref a =>
      have ha : a < n := hy
      obtain ⟨c, hc⟩ : ∃ c, cs[a]? = some c := ⟨cs[a]'(by omega), List.getElem?_eq_getElem _⟩
      obtain ⟨m, rfl⟩ : ∃ m, n = m + 1 := ⟨n - 1, by omega⟩
      rw [wt_ref hc] at hx
      subst hx
      rw [wsize_at hc, hg.size a c hc]
      have hsum : ∀ L : List HW, (∀ p ∈ L, wgood a p) → wsum cs L = 1 + (Tm.pres (L.map (wt cs m))).length := by
        intro L
        induction L with
        | nil => intro _; simp [wsum, Tm.pres]
        | cons p L ihL =>
          intro hL
          rw [wsum, ihL (fun q hq => hL q (by simp [hq])), List.map_cons, Tm.pres, List.length_append]
          have hp := ih a (by omega) p (wt cs a p) (hL p (by simp)) (by omega) rfl
          have e : wt cs m p = wt cs a p := by
            have := wt_stable hg [] a p (hL p (by simp)) (by omega) m a (by omega) (Nat.le_refl _)
            simpa using this
          rw [hp, e]
          unfold Tm.nodes
          omega
      rw [hsum c.L (hg.low a c hc)]
      unfold Tm.nodes Tm.pre
      simp; omega

/-- Terms that may be, put on a new heap. -/
theorem put_all {l : List Tm} (h : ∀ y ∈ l, checkN y = 0) (h12 : l.length ≤ 12) : PutsOk [] (puts [] l).1 (puts [] l).2 l ∧ (puts [] l).1.length ≤ 3072 := by
  have hn : ∀ x ∈ l, x.nodes ≤ 256 := fun x hx => (check_valid (h x hx)).2
  have h1 := pres_small l hn
  have h2 := puts_ok_many l (fun x hx => (check_valid (h x hx)).1) hn [] good_none (by simp; omega)
  obtain ⟨more, e, hm⟩ := h2.above
  exact ⟨h2, by rw [e]; simp; omega⟩

/-- Make, both ways in one form. -/
def MakeU (base hb : Nat) (s : HSt) (k : Int) (L : List AW) (w : World) (e : Ending) (w' : World) : Prop :=
  ∃ (bb : Bool) (aa : Int) (s' : HSt), e = .returned (.tuple #[.agg #[.bool bb, .int .i64 aa, .int .i8 0, .int .i64 0, .string ⟨#[]⟩, .string ⟨#[]⟩, .slice none 0 0], .int .i64 (makeE s.cs L : Nat)]) ∧ HMove base hb s s' w w' ∧
    (makeE s.cs L = 0 → bb = true ∧ aa = s.cs.length ∧ s'.cs = s.more k (L.map AW.hw) ∧ s'.ws = s.ws + (1 + L.length)) ∧ (makeE s.cs L ≠ 0 → s' = s)
theorem make_u {base hb : Nat} {s : HSt} {k : Int} {L : List AW} {w w' : World} {e : Ending} (h : s.At base w hb) (hr : s.rn ≤ 1000000) (hm : MakeP base hb s k L w e w') : MakeU base hb s k L w e w' := by
  rcases hm with ⟨h0, he, hb'⟩ | ⟨h0, he, s', h1, h2, h3⟩
  · exact ⟨false, 0, s, he, HMove.below h hr hb', fun h => absurd h h0, fun _ => rfl⟩
  · exact ⟨true, s.cs.length, s', by rw [he, h0]; rfl, h3, fun _ => ⟨rfl, rfl, h1, h2⟩, fun h => absurd h0 h⟩

/-- Behind j terms put. -/
structure L1 (l : List Tm) (w : World) (s : HSt) (j : Nat) (wv : Value) (V : World) : Prop where
  hb : HB w.heap.size w.heap.size s wv (puts [] (l.take j)).2 w V
  ok : HOk s
  cs : s.cs = (puts [] (l.take j)).1
  chk : ∀ y ∈ l.take j, checkN y = 0
/-- Behind all of them, and j cells more. -/
structure L2 (l : List Tm) (w : World) (s : HSt) (j : Nat) (wv : Value) (V : World) : Prop where
  hb : HB w.heap.size w.heap.size s wv (puts [] l).2 w V
  ok : HOk s
  ext : ∃ more, s.cs = (puts [] l).1 ++ more
  len : s.cs.length ≤ 3072 + j
/-- The word of the i-th term of a heap that has all of them: it may be, has the term's size, reads as the term. -/
theorem L2.word {l : List Tm} {w V : World} {s : HSt} {j : Nat} {wv : Value} (h : L2 l w s j wv V) (hc : ∀ y ∈ l, checkN y = 0) (h12 : l.length ≤ 12) {i : Nat} {x : Tm} (hx : l[i]? = some x) :
    ∃ y, (puts [] l).2[i]? = some y ∧ wgood s.cs.length y ∧ wsize s.cs y = x.nodes ∧ wt s.cs s.cs.length y = x := by
  obtain ⟨ho, hl⟩ := put_all hc h12
  obtain ⟨more, e⟩ := h.ext
  have hi := (List.getElem?_eq_some_iff.1 hx).1
  obtain ⟨y, hy⟩ : ∃ y, (puts [] l).2[i]? = some y := ⟨(puts [] l).2[i]'(by rw [puts_len]; exact hi), List.getElem?_eq_getElem _⟩
  have hm := List.mem_of_getElem? hy
  have hw := ho.word y hm
  have hb := ho.back (puts [] l).1.length (Nat.le_refl _)
  have hbx : wt (puts [] l).1 (puts [] l).1.length y = x := by
    have h1 : ((puts [] l).2.map (wt (puts [] l).1 (puts [] l).1.length))[i]? = some (wt (puts [] l).1 (puts [] l).1.length y) := by rw [List.getElem?_map, hy]; rfl
    rw [hb, hx] at h1
    exact (Option.some.inj h1).symm
  refine ⟨y, hy, ?_, ?_, ?_⟩
  · rw [e, List.length_append]; exact wgood_mono (by omega) hw
  · rw [e, wsize_ext hw]
    exact wsize_nodes ho.good (puts [] l).1.length _ _ hw (Nat.le_refl _) hbx
  · rw [e, wt_stable ho.good more (puts [] l).1.length y hw (Nat.le_refl _) _ (puts [] l).1.length (by rw [List.length_append]; omega) (Nat.le_refl _)]
    exact hbx
end Go.Proofs.YtphfekcacaaabaaDoor
set_option linter.unusedVariables false
namespace Go.Proofs.YtphfekcacaaabaaDoor
open Go.RowKit

/-- A heap's word, as one that is handed in. -/
theorem word_aw {N : Nat} {y : HW} (h : wgood N y) {bb : Bool} {aa kk nn : Int} {ss tt : ByteArray} (hc : y.cells = [.bool bb, .int .i64 aa, .int .i8 kk, .int .i64 nn, .string ss, .string tt, .slice none 0 0]) :
    ∃ q : AW, q.hw = y ∧ mayW N q.c q.a q.x = true ∧ q.c = bb ∧ q.a = aa ∧ q.x = .mk kk nn ss tt [] ∧ ∀ (P : Nat → Prop) (w : World), TmAt P w (.mk kk nn ss tt []) (.agg #[.int .i8 kk, .int .i64 nn, .string ss, .string tt, .slice none 0 0]) := by
  cases y with
  | ref a =>
    simp only [HW.cells, List.cons.injEq, Value.bool.injEq, Value.int.injEq, Value.string.injEq, true_and, and_true] at hc
    obtain ⟨rfl, rfl, rfl, rfl, rfl, rfl⟩ := hc
    refine ⟨⟨true, a, .mk 0 0 ⟨#[]⟩ ⟨#[]⟩ []⟩, by unfold AW.hw; simp, ?_, rfl, rfl, rfl, fun P w => leaf_at P w (by decide) (by decide) (by show 0 ≤ maxLen; omega) (by show 0 ≤ maxLen; omega)⟩
    unfold mayW
    rw [if_pos rfl]
    simp only [Bool.and_eq_true, decide_eq_true_eq]
    have h' : a < N := h
    exact ⟨⟨by omega, by omega⟩, blank0⟩
  | leaf x =>
    simp only [HW.cells, List.cons.injEq, Value.bool.injEq, Value.int.injEq, Value.string.injEq, true_and, and_true] at hc
    obtain ⟨rfl, rfl, rfl, rfl, rfl, rfl⟩ := hc
    have h' : leafE x = 0 := h
    obtain ⟨hl, hk, hn, hs, ht⟩ := leaf_bounds h'
    obtain ⟨k, n, s, t, l⟩ := x
    have hl : l = [] := hl
    subst hl
    refine ⟨⟨false, 0, .mk k n s t []⟩, rfl, ?_, rfl, rfl, rfl, fun P w => leaf_at P w hk hn hs ht⟩
    show mayW N false 0 (.mk k n s t []) = true
    unfold mayW
    rw [if_neg (by decide), h']
    rfl
theorem trow_two {P : Nat → Prop} {w : World} {g : Nat} {x y : Tm} {c0 c1 c2 c3 c4 d0 d1 d2 d3 d4 : Value} {T : TypeId} (h : w.heap[g]? = some (.cells #[c0, c1, c2, c3, c4, d0, d1, d2, d3, d4] T (0, 0))) (hx : TmAt P w x (.agg #[c0, c1, c2, c3, c4])) (hy : TmAt P w y (.agg #[d0, d1, d2, d3, d4])) :
    TRow (fun b => P b ∨ b = g) w (some ⟨g, 0, none⟩) 2 2 [x, y] := by
  refine ⟨rfl, by decide, Nat.le_refl _, fun j z hj => ?_⟩
  match j, hj with
  | 0, hj =>
    cases hj
    exact ⟨_, _, rfl, .inr rfl, ⟨c0, c1, c2, c3, c4, rfl, cell_of_row (i := 0) h rfl, cell_of_row (i := 1) h rfl, cell_of_row (i := 2) h rfl, cell_of_row (i := 3) h rfl, cell_of_row (i := 4) h rfl⟩, hx.mono (fun b hb => .inl hb)⟩
  | 1, hj =>
    cases hj
    exact ⟨_, _, rfl, .inr rfl, ⟨d0, d1, d2, d3, d4, rfl, cell_of_row (i := 5) h rfl, cell_of_row (i := 6) h rfl, cell_of_row (i := 7) h rfl, cell_of_row (i := 8) h rfl, cell_of_row (i := 9) h rfl⟩, hy.mono (fun b hb => .inl hb)⟩
  | j + 2, hj => simp at hj

def tup2 (x : Tm) : Tm := .mk 5 0 ⟨#[]⟩ ⟨#[]⟩ [x, x]
theorem tup2_nodes (x : Tm) : (tup2 x).nodes = 1 + 2 * x.nodes ∧ (Tm.pres [x, x]).length = 2 * x.nodes := by
  have h : (Tm.pres [x, x]).length = 2 * x.nodes := by simp [Tm.pres]; unfold Tm.nodes; omega
  refine ⟨?_, h⟩
  have h2 : (tup2 x).nodes = 1 + (Tm.pres [x, x]).length := by unfold tup2 Tm.nodes; rw [Tm.pre, List.length_cons]; omega
  rw [h2, h]
/-- How it ends with two of a word. -/
def twoE (x : Tm) : Nat := if 256 < 1 + 2 * x.nodes then 11 else 0
theorem make_two {s : HSt} {q : AW} {x : Tm} (hm : mayW s.cs.length q.c q.a q.x = true) (hs : wsize s.cs q.hw = x.nodes) (hl : s.cs.length < 1048576) : makeE s.cs [q, q] = twoE x := by
  unfold makeE twoE
  rw [if_pos (by simp [hm])]
  have : wsum s.cs ([q, q].map AW.hw) = 1 + 2 * x.nodes := by simp [wsum, hs]; omega
  rw [this]
  split
  · rfl
  · rw [if_neg (by omega)]
theorem made_two (x : Tm) : madeE (Tm.pres [x, x]).length = (twoE x : Int) := by
  unfold madeE twoE
  rw [(tup2_nodes x).2]
  split <;> rfl

/-- The seven cells of a word, five of a term, where they lie. -/
def RowL (V : World) (g o : Nat) (c0 c1 c2 c3 c4 c5 c6 : Value) : Prop :=
  V.cell? ⟨g, o, none⟩ = some c0 ∧ V.cell? ⟨g, o + 1, none⟩ = some c1 ∧ V.cell? ⟨g, o + 2, none⟩ = some c2 ∧ V.cell? ⟨g, o + 3, none⟩ = some c3 ∧ V.cell? ⟨g, o + 4, none⟩ = some c4 ∧ V.cell? ⟨g, o + 5, none⟩ = some c5 ∧ V.cell? ⟨g, o + 6, none⟩ = some c6
theorem RowL.keep {V V' : World} {g o : Nat} {c0 c1 c2 c3 c4 c5 c6 : Value} (h : RowL V g o c0 c1 c2 c3 c4 c5 c6) (hb : V'.heap[g]? = V.heap[g]?) : RowL V' g o c0 c1 c2 c3 c4 c5 c6 := by
  have k : ∀ i, V'.cell? ⟨g, i, none⟩ = V.cell? ⟨g, i, none⟩ := fun i => World.cell?_of_block (w := V) (a := ⟨g, i, none⟩) hb
  obtain ⟨h0, h1, h2, h3, h4, h5, h6⟩ := h
  exact ⟨(k _).trans h0, (k _).trans h1, (k _).trans h2, (k _).trans h3, (k _).trans h4, (k _).trans h5, (k _).trans h6⟩
def RowF (V : World) (ad : Addr) (i : Nat) (c0 c1 c2 c3 c4 : Value) : Prop :=
  V.cell? (ad.add (i * 5)) = some c0 ∧ V.cell? ⟨(ad.add (i * 5)).block, (ad.add (i * 5)).off + 1, none⟩ = some c1 ∧ V.cell? ⟨(ad.add (i * 5)).block, (ad.add (i * 5)).off + 2, none⟩ = some c2 ∧ V.cell? ⟨(ad.add (i * 5)).block, (ad.add (i * 5)).off + 3, none⟩ = some c3 ∧ V.cell? ⟨(ad.add (i * 5)).block, (ad.add (i * 5)).off + 4, none⟩ = some c4
theorem RowF.keep {V V' : World} {ad : Addr} {i : Nat} {c0 c1 c2 c3 c4 : Value} (h : RowF V ad i c0 c1 c2 c3 c4) (hb : V'.heap[ad.block]? = V.heap[ad.block]?) : RowF V' ad i c0 c1 c2 c3 c4 := by
  have k : ∀ o, V'.cell? ⟨ad.block, o, none⟩ = V.cell? ⟨ad.block, o, none⟩ := fun o => World.cell?_of_block (w := V) (a := ⟨ad.block, o, none⟩) hb
  obtain ⟨h0, h1, h2, h3, h4⟩ := h
  have e : ElemAt V ad i (.agg #[c0, c1, c2, c3, c4]) := ⟨c0, c1, c2, c3, c4, rfl, h0, h1, h2, h3, h4⟩
  obtain ⟨d0, d1, d2, d3, d4, e', g0, g1, g2, g3, g4⟩ := e.keep hb
  simp only [Value.agg.injEq, Array.mk.injEq, List.cons.injEq, and_true] at e'
  obtain ⟨rfl, rfl, rfl, rfl, rfl⟩ := e'
  exact ⟨g0, g1, g2, g3, g4⟩

theorem HB.write {base hb b0 : Nat} {s : HSt} {wv : Value} {hs : List HW} {w V V' : World} (h : HB base hb s wv hs w V) (h0 : s.Core base V b0) (hne : b0 ≠ hb) (hbb : base ≤ b0) (hwv : wv.ownBlock ≠ some b0) (hle : base ≤ w.heap.size) (m : Mod (fun k => k = b0) V V') : HB base hb s wv hs w V' :=
  ⟨h.below.trans (m.below (h.ge hle) (fun k (e : k = b0) => by omega)), h.heap.write h0 hne m, m.row h.own (fun g hg e => hwv (by rw [hg]; exact congrArg some e)), fun g hg => ⟨(h.apart g hg).1.write h0 m, (h.apart g hg).2⟩⟩

/-- Behind the first statement of the second loop. -/
def R17 (N : Nat) (s : HSt) (wv : Value) (hs : List HW) (E : Nat) (y : HW) (w : World) (p e : Value) (wx : World) : Prop :=
  ∃ (bb : Bool) (aa : Int) (s' : HSt) (gB : Nat), p = .pointer (some ⟨gB, 0, none⟩) ∧ e = .int .i64 (E : Nat) ∧ HB N N s' wv hs w wx ∧ Kept N N s' gB (.cells #[.bool bb, .int .i64 aa, .int .i8 0, .int .i64 0, .string ⟨#[]⟩, .string ⟨#[]⟩, .slice none 0 0] 27 (0, 0)) wx ∧ s'.rn ≤ 1000000 ∧
    (E = 0 → bb = true ∧ aa = s.cs.length ∧ s'.cs = s.more 5 [y, y] ∧ s'.ws = s.ws + 3) ∧ (E ≠ 0 → s' = s)
/-- Behind the second one. -/
def R18 (E : Nat) (x : Tm) (wq : World) (p e : Value) (wx : World) : Prop :=
  ∃ (gT : Nat) (k' : Int) (A' : Option Addr) (n' cap' : Nat), p = .pointer (some ⟨gT, 0, none⟩) ∧ e = .int .i64 (E : Nat) ∧ Below wq.heap.size wq wx ∧ wx.heap[gT]? = some (.cells #[.int .i8 k', .int .i64 0, .string ⟨#[]⟩, .string ⟨#[]⟩, .slice A' n' cap'] 25 (0, 0)) ∧
    (E = 0 → TmAt (· < wx.heap.size) wx (tup2 x) (.agg #[.int .i8 k', .int .i64 0, .string ⟨#[]⟩, .string ⟨#[]⟩, .slice A' n' cap']))
end Go.Proofs.YtphfekcacaaabaaDoor
