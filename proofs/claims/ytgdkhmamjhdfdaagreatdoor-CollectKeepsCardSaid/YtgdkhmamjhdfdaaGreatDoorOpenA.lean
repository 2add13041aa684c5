/- An argument that is a word, opened. An argument that is a row of acts, opened. -/
import Derived.Test.YtgdkhmamjhdfdaaGreatDoorHeapN
set_option linter.unusedVariables false
namespace Go.Proofs.YtgdkhmamjhdfdaaGreatDoor
open Go.RowKit Go.ChangeShapes Go.WideShapes Go.Deep

theorem tcells_word : Tryz.prog.cellsOf 51 = 7 := by kernel_rfl
theorem tcells_bool : Tryz.prog.cellsOf 4 = 1 := by kernel_rfl

/-- The value is that word. -/
def WordIs (w : World) (q : AW) (v : Value) : Prop :=
  ∃ k n s t l A cap, q.x = .mk k n s t l ∧ v = .agg #[.bool q.c, .int .i64 q.a, .int .i8 k, .int .i64 n, .string s, .string t, .slice A l.length cap] ∧ TmAt (· < w.heap.size) w (.mk k n s t l) (.agg #[.int .i8 k, .int .i64 n, .string s, .string t, .slice A l.length cap]) ∧ (-9223372036854775808 ≤ q.a ∧ q.a ≤ 9223372036854775807)

set_option maxRecDepth 100000 in
theorem open_word_fuel {H : Type} {enc : TypeId × Value → H} {W : World} (fuel : Nat) (cs : List Value) (x : DataW H × List MemPlace) (h : DataW.trod enc Tryz.prog W 0 (fun _ => true) true fuel 51 cs = some x) : ∃ q, WordIs W q (.agg cs.toArray) := by
  obtain ⟨xs, n, hfu, _, hlen, hxl, hf⟩ := DataW.trod_struct Tryz.underlying51 h
  rw [tcells_word] at hlen
  match cs, hlen with
  | [c0, c1, c2, c3, c4, c5, c6], _ =>
    have f0 : DataW.trod enc Tryz.prog W 0 (fun _ => true) true n 4 (([c0, c1, c2, c3, c4, c5, c6].drop 0).take (Tryz.prog.cellsOf 4)) = xs[0]? := hf 0 _ rfl
    have f1 : DataW.trod enc Tryz.prog W 0 (fun _ => true) true n 3 (([c0, c1, c2, c3, c4, c5, c6].drop 1).take (Tryz.prog.cellsOf 3)) = xs[1]? := hf 1 _ rfl
    have f2 : DataW.trod enc Tryz.prog W 0 (fun _ => true) true n 27 (([c0, c1, c2, c3, c4, c5, c6].drop 2).take (Tryz.prog.cellsOf 27)) = xs[2]? := hf 2 _ rfl
    rw [tcells_bool] at f0
    rw [tcells_int] at f1
    rw [tcells_term] at f2
    match xs, hxl with
    | [y0, y1, y2], _ =>
      simp at f0 f1 f2
      obtain ⟨b, e0, _⟩ := DataW.trod_bool Tryz.underlying4 f0
      obtain ⟨m, e1, _, hm⟩ := DataW.trod_int Tryz.underlying3 f1
      obtain ⟨t, hT⟩ := open_term_fuel n _ _ f2
      simp at e0 e1
      subst e0 e1
      obtain ⟨k, n', s, t', l⟩ := t
      obtain ⟨A, cap, ev, -⟩ := hT.parts
      simp only [Value.agg.injEq, Array.mk.injEq, List.cons.injEq, and_true] at ev
      obtain ⟨rfl, rfl, rfl, rfl, rfl⟩ := ev
      exact ⟨⟨b, m, .mk k n' s t' l⟩, k, n', s, t', l, A, cap, rfl, rfl, hT, i64_wf hm⟩

set_option maxRecDepth 100000 in
theorem open_word {H : Type} {enc : TypeId × Value → H} {W : World} {base : Nat} {v : Value} {d : DataW H} {p : List MemPlace} (hv : Value.okWide Tryz.prog W .any base 51 v) (h : DataW.Trod enc Tryz.prog W 0 (fun _ => true) true 51 v d p) : ∃ q, WordIs W q v := by
  obtain ⟨cs, rfl, hsz⟩ := okWide_struct Tryz.underlying51 hv
  obtain ⟨fuel, hf⟩ := h
  obtain ⟨q, hq⟩ := open_word_fuel fuel _ _ hf
  simp [Value.cells] at hq
  exact ⟨q, hq⟩
end Go.Proofs.YtgdkhmamjhdfdaaGreatDoor
set_option linter.unusedVariables false
namespace Go.Proofs.YtgdkhmamjhdfdaaGreatDoor
open Go.RowKit Go.ChangeShapes Go.WideShapes Go.Deep

/-- An act: what, its term, kind, words, word, number. -/
structure PAct where
  d : Int
  x : Tm
  k : Int
  L : List AW
  q : AW
  n : Int

/-- The sixteen cells of the i-th place of a row of acts. -/
def Row16 (V : World) (ad : Addr) (i : Nat) (c0 c1 c2 c3 c4 c5 c6 c7 c8 c9 c10 c11 c12 c13 c14 c15 : Value) : Prop :=
  V.cell? (ad.add (i * 16)) = some c0 ∧ V.cell? ⟨(ad.add (i * 16)).block, (ad.add (i * 16)).off + 1, none⟩ = some c1 ∧ V.cell? ⟨(ad.add (i * 16)).block, (ad.add (i * 16)).off + 2, none⟩ = some c2 ∧ V.cell? ⟨(ad.add (i * 16)).block, (ad.add (i * 16)).off + 3, none⟩ = some c3 ∧ V.cell? ⟨(ad.add (i * 16)).block, (ad.add (i * 16)).off + 4, none⟩ = some c4 ∧ V.cell? ⟨(ad.add (i * 16)).block, (ad.add (i * 16)).off + 5, none⟩ = some c5 ∧ V.cell? ⟨(ad.add (i * 16)).block, (ad.add (i * 16)).off + 6, none⟩ = some c6 ∧ V.cell? ⟨(ad.add (i * 16)).block, (ad.add (i * 16)).off + 7, none⟩ = some c7 ∧
  V.cell? ⟨(ad.add (i * 16)).block, (ad.add (i * 16)).off + 8, none⟩ = some c8 ∧ V.cell? ⟨(ad.add (i * 16)).block, (ad.add (i * 16)).off + 9, none⟩ = some c9 ∧ V.cell? ⟨(ad.add (i * 16)).block, (ad.add (i * 16)).off + 10, none⟩ = some c10 ∧ V.cell? ⟨(ad.add (i * 16)).block, (ad.add (i * 16)).off + 11, none⟩ = some c11 ∧ V.cell? ⟨(ad.add (i * 16)).block, (ad.add (i * 16)).off + 12, none⟩ = some c12 ∧ V.cell? ⟨(ad.add (i * 16)).block, (ad.add (i * 16)).off + 13, none⟩ = some c13 ∧ V.cell? ⟨(ad.add (i * 16)).block, (ad.add (i * 16)).off + 14, none⟩ = some c14 ∧ V.cell? ⟨(ad.add (i * 16)).block, (ad.add (i * 16)).off + 15, none⟩ = some c15
theorem Row16.keep {V V' : World} {ad : Addr} {i : Nat} {c0 c1 c2 c3 c4 c5 c6 c7 c8 c9 c10 c11 c12 c13 c14 c15 : Value} (h : Row16 V ad i c0 c1 c2 c3 c4 c5 c6 c7 c8 c9 c10 c11 c12 c13 c14 c15) (hb : V'.heap[ad.block]? = V.heap[ad.block]?) : Row16 V' ad i c0 c1 c2 c3 c4 c5 c6 c7 c8 c9 c10 c11 c12 c13 c14 c15 := by
  have hbb : (ad.add (i * 16)).block = ad.block := add_block _ _
  have k0 : V'.cell? (ad.add (i * 16)) = V.cell? (ad.add (i * 16)) := World.cell?_of_block (w := V) (a := ad.add (i * 16)) (by rw [hbb]; exact hb)
  have k : ∀ o, V'.cell? ⟨(ad.add (i * 16)).block, o, none⟩ = V.cell? ⟨(ad.add (i * 16)).block, o, none⟩ := fun o => World.cell?_of_block (w := V) (by show V'.heap[(ad.add (i * 16)).block]? = V.heap[(ad.add (i * 16)).block]?; rw [hbb]; exact hb)
  obtain ⟨h0, h1, h2, h3, h4, h5, h6, h7, h8, h9, h10, h11, h12, h13, h14, h15⟩ := h
  exact ⟨k0.trans h0, (k _).trans h1, (k _).trans h2, (k _).trans h3, (k _).trans h4, (k _).trans h5, (k _).trans h6, (k _).trans h7, (k _).trans h8, (k _).trans h9, (k _).trans h10, (k _).trans h11, (k _).trans h12, (k _).trans h13, (k _).trans h14, (k _).trans h15⟩

/-- The i-th place of that row holds that act. -/
def ActAt (B : Nat) (V : World) (ad : Addr) (i : Nat) (a : PAct) : Prop :=
  ∃ k n s t l A cap LA Lc k2 n2 s2 t2 l2 A2 cap2, a.x = .mk k n s t l ∧ a.q.x = .mk k2 n2 s2 t2 l2 ∧
    Row16 V ad i (.int .i64 a.d) (.int .i8 k) (.int .i64 n) (.string s) (.string t) (.slice A l.length cap) (.int .i8 a.k) (.slice LA a.L.length Lc) (.bool a.q.c) (.int .i64 a.q.a) (.int .i8 k2) (.int .i64 n2) (.string s2) (.string t2) (.slice A2 l2.length cap2) (.int .i64 a.n) ∧
    TmAt (· < B) V (.mk k n s t l) (.agg #[.int .i8 k, .int .i64 n, .string s, .string t, .slice A l.length cap]) ∧ WRow (· < B) V LA a.L.length Lc a.L ∧ a.L.length ≤ maxLen ∧
    TmAt (· < B) V (.mk k2 n2 s2 t2 l2) (.agg #[.int .i8 k2, .int .i64 n2, .string s2, .string t2, .slice A2 l2.length cap2])
theorem ActAt.under {B C : Nat} {V V' : World} {ad : Addr} {i : Nat} {a : PAct} (h : ActAt B V ad i a) (hb : Below C V V') (hBC : B ≤ C) (hl : ad.block < B) : ActAt B V' ad i a := by
  obtain ⟨k, n, s, t, l, A, cap, LA, Lc, k2, n2, s2, t2, l2, A2, cap2, e1, e2, hr, h1, h2, h3, h4⟩ := h
  have hk : ∀ b, b < B → V'.heap[b]? = V.heap[b]? := fun b hb' => hb.block b (Nat.lt_of_lt_of_le hb' hBC)
  exact ⟨k, n, s, t, l, A, cap, LA, Lc, k2, n2, s2, t2, l2, A2, cap2, e1, e2, hr.keep (hk _ hl), h1.keep hk (fun _ h => h), h2.keep hk (fun _ h => h), h3, h4.keep hk (fun _ h => h)⟩
structure ARow (B : Nat) (V : World) (A : Option Addr) (n cap : Nat) (l : List PAct) : Prop where
  len : l.length = n
  max : n ≤ maxLen
  cap : n ≤ cap
  at_ : ∀ j a, l[j]? = some a → ∃ ad, A = some ad ∧ ad.block < B ∧ ActAt B V ad j a
theorem ARow.under {B C : Nat} {V V' : World} {A : Option Addr} {n cap : Nat} {l : List PAct} (h : ARow B V A n cap l) (hb : Below C V V') (hBC : B ≤ C) : ARow B V' A n cap l :=
  ⟨h.len, h.max, h.cap, fun j a hj => by obtain ⟨ad, e, hl, hat⟩ := h.at_ j a hj; exact ⟨ad, e, hl, hat.under hb hBC hl⟩⟩

theorem tcells_words : Tryz.prog.cellsOf 37 = 1 := by kernel_rfl

set_option maxRecDepth 100000 in
theorem open_wrow {H : Type} {enc : TypeId × Value → H} {W : World} {fuel : Nat} {v : Value} {x : DataW H × List MemPlace}
    (h : DataW.trod enc Tryz.prog W 0 (fun _ => true) true fuel 37 [v] = some x) : ∃ A n cap L, v = .slice A n cap ∧ WRow (· < W.heap.size) W A n cap L ∧ n ≤ maxLen := by
  rcases DataW.trod_slice Tryz.underlying37 h with ⟨hcs, _⟩ | ⟨a, len, cap, elems, rest, n, hfu, hcs, _, hb, hl, hm, hlen, hel, _, _⟩
  · simp at hcs
    exact ⟨none, 0, 0, [], hcs, ⟨rfl, Nat.le_refl _, fun j q hj => by simp at hj⟩, Nat.zero_le _⟩
  · simp at hcs
    subst hcs
    rw [tcells_word] at hel
    have each : ∀ i, i < len → ∃ q, ∃ v, a.block < W.heap.size ∧ ElemW W a i v ∧ AWAt (· < W.heap.size) W q v := by
      intro i hi
      have h1 := hel i hi
      rw [List.getElem?_eq_getElem (by omega)] at h1
      obtain ⟨cs, hc, ht⟩ := Option.bind_eq_some_iff.1 h1
      obtain ⟨q, k, nn, s, t, l, A, cap', ex, ev, hT, -⟩ := open_word_fuel n cs _ ht
      obtain ⟨_, hcl, hat⟩ := World.cells?_some hc
      match cs, hcl with
      | [c0, c1, c2, c3, c4, c5, c6], _ =>
        have e0 := hat 0 (by decide)
        have e1 := hat 1 (by decide)
        have e2 := hat 2 (by decide)
        have e3 := hat 3 (by decide)
        have e4 := hat 4 (by decide)
        have e5 := hat 5 (by decide)
        have e6 := hat 6 (by decide)
        rw [add_next] at e0
        rw [add_next'] at e1 e2 e3 e4 e5 e6
        refine ⟨q, _, ?_, ⟨c0, c1, c2, c3, c4, c5, c6, rfl, e0, e1, e2, e3, e4, e5, e6⟩, ⟨k, nn, s, t, A, l.length, cap', ev, by rw [ex]; exact hT⟩⟩
        have := World.block_lt_of_cell? W _ (e0.trans rfl)
        rwa [add_block] at this
    obtain ⟨L, hll, hlp⟩ := rows_choose (p := fun j x => ∃ v, a.block < W.heap.size ∧ ElemW W a j v ∧ AWAt (· < W.heap.size) W x v) each
    exact ⟨some a, len, cap, L, rfl, ⟨hll, hl, fun j q hj => by obtain ⟨v, h1, h2, h3⟩ := hlp j q hj; exact ⟨a, v, rfl, h1, h2, h3⟩⟩, Nat.le_trans hl hm⟩

end Go.Proofs.YtgdkhmamjhdfdaaGreatDoor
