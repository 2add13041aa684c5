/- Layer 11: the first bind of each name, in a map (guard.firstsOf); slices.Backward. -/
import Derived.Test.YtkceoiaaiaomoaaGreatDoorKBnd
import Derived.Test.YtkceoiaaiaomoaaGreatDoorKAstC
import Derived.Test.YtkceoiaaiaomoaaGreatDoorKNodes
import Derived.MapKept
import Derived.Lib.ItoaLen
import Derived.Deep.RegionHeld
import Derived.OrdersHeld
import Derived.RangeFuncCalls
import Derived.RangeFuncNested
import Derived.RangeFuncLeaves
import Derived.RangeFuncBox
import Derived.TacticsInMore
import Derived.LoopIn
import Derived.OwnWalkIn
section
set_option linter.unusedVariables false
set_option linter.unusedSimpArgs false
namespace Go.Proofs.YtkceoiaaiaomoaaGreatDoor
open Go.RowKit

structure MapT (es : Array MapEntry) (f : ByteArray → Option Value) : Prop where
  key : ∀ (i : Nat) x, es.toList[i]? = some x → ∃ s, x.key = .string s
  get : ∀ s v, f s = some v ↔ ∃ (i : Nat) (x : MapEntry), es.toList[i]? = some x ∧ x.key = .string s ∧ x.val = v
  once : ∀ (i j : Nat) x y, es.toList[i]? = some x → es.toList[j]? = some y → x.key = y.key → i = j
theorem MapT.nil : MapT #[] (fun _ => none) := ⟨by simp, by simp, by simp⟩
theorem MapT.ext {es : Array MapEntry} {f g : ByteArray → Option Value} (h : MapT es f) (e : ∀ s, g s = f s) : MapT es g := ⟨h.key, fun s v => by rw [e]; exact h.get s v, h.once⟩
theorem MapT.keys {es : Array MapEntry} {f : ByteArray → Option Value} (h : MapT es f) : ∀ x ∈ es.toList, MapKept.IsKey .string x.key := fun x hx => by
  obtain ⟨i, hi⟩ := List.mem_iff_getElem?.1 hx
  obtain ⟨s, e⟩ := h.key i x hi
  rw [e]; simp [MapKept.IsKey]
theorem MapT.find {es : Array MapEntry} {f : ByteArray → Option Value} (h : MapT es f) (s : ByteArray) :
    (Instr.findNow .string (.string s) es.toList 0 = some none ∧ f s = none) ∨ ∃ (j : Nat) (e : MapEntry), Instr.findNow .string (.string s) es.toList 0 = some (some (j, e.val)) ∧ es.toList[j]? = some e ∧ e.key = .string s ∧ f s = some e.val := by
  have hkey : MapKept.IsKey .string (.string s) := by simp [MapKept.IsKey]
  rcases MapKept.findNow_spec hkey es.toList 0 h.keys with ⟨h1, h2⟩ | ⟨j, e, h1, h2, h3⟩
  · refine .inl ⟨h1, ?_⟩
    cases hf : f s with
    | none => rfl
    | some v =>
      obtain ⟨i, x, hi, hk, _⟩ := (h.get s v).1 hf
      exact absurd hk (h2 x (List.mem_of_getElem? hi))
  · exact .inr ⟨j, e, by simpa using h1, h2, h3, (h.get s e.val).2 ⟨j, e, h2, h3, rfl⟩⟩
section
variable {P : Program} {t k e : TypeId}
theorem MapT.hit {es : Array MapEntry} {f : ByteArray → Option Value} (h : MapT es f) (ht : P.underlying t = some (.map k e)) (hk : P.underlying k = some .string) (w : World) (mb c : Nat) (hb : w.heap[mb]? = some (.map es c)) {s : ByteArray} {v : Value} (hf : f s = some v) :
    (Instr.lookup t (.map (some mb)) (.string s) true).run P w = .ok (.tuple #[v, .bool true]) w := by
  have hkey : MapKept.IsKey .string (.string s) := by simp [MapKept.IsKey]
  rcases h.find s with ⟨_, h2⟩ | ⟨j, x, h1, _, _, h2⟩
  · rw [hf] at h2; cases h2
  · rw [hf] at h2; cases h2
    simp [Instr.lookup, run_underlying ht, MapKept.run_getObj_map hb, MapKept.run_checkKey hk hkey, MapKept.run_findKey hk h1, Result.andThen]
theorem MapT.miss {es : Array MapEntry} {f : ByteArray → Option Value} (h : MapT es f) (ht : P.underlying t = some (.map k e)) (hk : P.underlying k = some .string) (w : World) (mb c : Nat) (hb : w.heap[mb]? = some (.map es c)) {z : Value} (hz : ∀ w, (zeroValue e).run P w = .ok z w) {s : ByteArray} (hf : f s = none) :
    (Instr.lookup t (.map (some mb)) (.string s) true).run P w = .ok (.tuple #[z, .bool false]) w := by
  have hkey : MapKept.IsKey .string (.string s) := by simp [MapKept.IsKey]
  rcases h.find s with ⟨h1, _⟩ | ⟨j, x, _, _, _, h2⟩
  · simp [Instr.lookup, run_underlying ht, MapKept.run_getObj_map hb, MapKept.run_checkKey hk hkey, MapKept.run_findKey hk h1, hz, Result.andThen]
  · rw [hf] at h2; cases h2
theorem MapT.put {es : Array MapEntry} {f : ByteArray → Option Value} (h : MapT es f) (ht : P.underlying t = some (.map k e)) (hk : P.underlying k = some .string) (w : World) (mb c : Nat) (hb : w.heap[mb]? = some (.map es c)) (s : ByteArray) (v : Value) :
    ∃ es2 c2, (Instr.mapUpdate t (.map (some mb)) (.string s) v).run P w = .ok () (w.putObj mb (.map es2 c2)) ∧ MapT es2 (fun t => if t = s then some v else f t) := by
  have hkey : MapKept.IsKey .string (.string s) := by simp [MapKept.IsKey]
  rcases h.find s with ⟨h1, h2⟩ | ⟨j, x, h1, hj, hxk, h2⟩
  · refine ⟨es.push ⟨.string s, v, c⟩, c + 1, ?_, ?_, ?_, ?_⟩
    · simp [Instr.mapUpdate, run_underlying ht, MapKept.run_getObj_map hb, MapKept.run_checkKey hk hkey, MapKept.run_findKey hk h1, MapKept.run_setObj_map _ hb, Result.andThen]
      rfl
    · intro i x hx
      rw [Array.toList_push, List.getElem?_append] at hx
      split at hx
      · exact h.key i x hx
      · have := List.mem_of_getElem? hx
        rw [List.mem_singleton] at this
        exact ⟨s, by rw [this]⟩
    · intro t' v'
      have hne : ∀ (i : Nat) y, es.toList[i]? = some y → y.key ≠ .string s := fun i y hy hk' => by
        have := (h.get s y.val).2 ⟨i, y, hy, hk', rfl⟩
        rw [h2] at this; cases this
      constructor
      · intro hg
        by_cases e1 : t' = s
        · rw [if_pos e1] at hg
          cases hg
          exact ⟨es.toList.length, ⟨.string s, v, c⟩, by rw [Array.toList_push, List.getElem?_append_right (Nat.le_refl _)]; simp, by rw [e1], rfl⟩
        · rw [if_neg e1] at hg
          obtain ⟨i, y, hi, q1, q2⟩ := (h.get t' v').1 hg
          exact ⟨i, y, by rw [Array.toList_push, List.getElem?_append_left (List.getElem?_eq_some_iff.1 hi).1]; exact hi, q1, q2⟩
      · rintro ⟨i, y, hi, q1, q2⟩
        rw [Array.toList_push, List.getElem?_append] at hi
        split at hi
        · have e1 : t' ≠ s := fun e1 => hne i y hi (by rw [q1, e1])
          rw [if_neg e1]
          exact (h.get t' v').2 ⟨i, y, hi, q1, q2⟩
        · have := List.mem_of_getElem? hi
          rw [List.mem_singleton] at this
          subst this
          simp only [Value.string.injEq] at q1
          rw [if_pos q1.symm, ← q2]
    · intro i1 i2 x y hx hy hxy
      have hne : ∀ (i : Nat) y, es.toList[i]? = some y → y.key ≠ .string s := fun i y hy hk' => by
        have := (h.get s y.val).2 ⟨i, y, hy, hk', rfl⟩
        rw [h2] at this; cases this
      have hcase : ∀ (i : Nat) (z : MapEntry), (es.push ⟨.string s, v, c⟩).toList[i]? = some z → es.toList[i]? = some z ∨ (i = es.toList.length ∧ z.key = .string s) := fun i z hz => by
        rw [Array.toList_push, List.getElem?_append] at hz
        split at hz
        · exact .inl hz
        · have h9 := (List.getElem?_eq_some_iff.1 hz).1
          have := List.mem_of_getElem? hz
          rw [List.mem_singleton] at this
          exact .inr ⟨by simp only [List.length_cons, List.length_nil] at h9; omega, by rw [this]⟩
      rcases hcase i1 x hx with hx | ⟨q1, q2⟩ <;> rcases hcase i2 y hy with hy | ⟨r1, r2⟩
      · exact h.once i1 i2 x y hx hy hxy
      · exact absurd (hxy.trans r2) (hne i1 x hx)
      · exact absurd (hxy.symm.trans q2) (hne i2 y hy)
      · rw [q1, r1]
  · have hja : es[j]? = some x := by simpa using hj
    have hmod : ∀ i : Nat, (es.modify j (fun e' => { e' with key := .string s, val := v })).toList[i]? = if j = i then (es.toList[i]?).map (fun e' => { e' with key := .string s, val := v }) else es.toList[i]? := fun i => by
      rw [Array.toList_modify, List.getElem?_modify]
      split
      · rfl
      · cases es.toList[i]? <;> rfl
    refine ⟨es.modify j (fun e' => { e' with key := .string s, val := v }), c, ?_, ?_, ?_, ?_⟩
    · simp [Instr.mapUpdate, run_underlying ht, MapKept.run_getObj_map hb, MapKept.run_checkKey hk hkey, MapKept.run_findKey hk h1, hja, hxk, MapKept.run_keyThatStays hkey, MapKept.run_setObj_map _ hb, Result.andThen]
      rfl
    · intro i y hy
      rw [hmod] at hy
      split at hy
      · cases hq : es.toList[i]? with
        | none => rw [hq] at hy; cases hy
        | some q => rw [hq] at hy; simp at hy; exact ⟨s, by rw [← hy]⟩
      · exact h.key i y hy
    · intro t' v'
      constructor
      · intro hg
        by_cases e1 : t' = s
        · rw [if_pos e1] at hg
          cases hg
          exact ⟨j, { x with key := .string s, val := v }, by rw [hmod, if_pos rfl, hj]; rfl, by rw [e1], rfl⟩
        · rw [if_neg e1] at hg
          obtain ⟨i, y, hi, q1, q2⟩ := (h.get t' v').1 hg
          have hij : j ≠ i := fun e2 => by
            subst e2
            rw [hj] at hi; cases hi
            rw [hxk] at q1; simp only [Value.string.injEq] at q1
            exact e1 q1.symm
          exact ⟨i, y, by rw [hmod, if_neg hij]; exact hi, q1, q2⟩
      · rintro ⟨i, y, hi, q1, q2⟩
        rw [hmod] at hi
        by_cases hij : j = i
        · subst hij
          rw [if_pos rfl, hj] at hi
          simp at hi
          subst hi
          simp only [Value.string.injEq] at q1
          rw [if_pos q1.symm, ← q2]
        · rw [if_neg hij] at hi
          have e1 : t' ≠ s := fun e1 => hij (h.once j i x y hj hi (by rw [hxk, q1, e1]))
          rw [if_neg e1]
          exact (h.get t' v').2 ⟨i, y, hi, q1, q2⟩
    · intro i1 i2 a b ha hb' hab
      have hcase : ∀ (i : Nat) (z : MapEntry), (es.modify j (fun e' => { e' with key := .string s, val := v })).toList[i]? = some z → ∃ z', es.toList[i]? = some z' ∧ z'.key = z.key := fun i z hz => by
        rw [hmod] at hz
        by_cases hij : j = i
        · subst hij
          rw [if_pos rfl, hj] at hz
          simp at hz
          exact ⟨x, hj, by rw [← hz]; exact hxk⟩
        · rw [if_neg hij] at hz
          exact ⟨z, hz, rfl⟩
      obtain ⟨a', ha1, ha2⟩ := hcase i1 a ha
      obtain ⟨b', hb1, hb2⟩ := hcase i2 b hb'
      exact h.once i1 i2 a' b' ha1 hb1 (by rw [ha2, hb2, hab])
end
end Go.Proofs.YtkceoiaaiaomoaaGreatDoor
end
section

end
section
set_option linter.unusedVariables false
namespace Go.Proofs.YtkceoiaaiaomoaaGreatDoor
open Go.RowKit

theorem row1_of {P : Nat → Prop} {w : World} {b : Nat} {T : TypeId} {c0 c1 c2 c3 c4 : Value} {x : Tm} (h : w.heap[b]? = some (.cells #[c0, c1, c2, c3, c4] T (0, 0))) (hP : P b) (hx : TmAt P w x (.agg #[c0, c1, c2, c3, c4])) : TRow P w (some ⟨b, 0, none⟩) 1 1 [x] :=
  ⟨rfl, by decide, by decide, fun j y hj => by
    match j, hj with
    | 0, hj =>
      simp at hj; subst hj
      exact ⟨_, _, rfl, hP, ⟨c0, c1, c2, c3, c4, rfl, cell_of_row (i := 0) h rfl, cell_of_row (i := 1) h rfl, cell_of_row (i := 2) h rfl, cell_of_row (i := 3) h rfl, cell_of_row (i := 4) h rfl⟩, hx⟩
    | j + 1, hj => simp at hj⟩
theorem row2_of {P : Nat → Prop} {w : World} {b : Nat} {T : TypeId} {c0 c1 c2 c3 c4 d0 d1 d2 d3 d4 : Value} {x y : Tm} (h : w.heap[b]? = some (.cells #[c0, c1, c2, c3, c4, d0, d1, d2, d3, d4] T (0, 0))) (hP : P b) (hx : TmAt P w x (.agg #[c0, c1, c2, c3, c4])) (hy : TmAt P w y (.agg #[d0, d1, d2, d3, d4])) : TRow P w (some ⟨b, 0, none⟩) 2 2 [x, y] :=
  ⟨rfl, by decide, by decide, fun j z hj => by
    match j, hj with
    | 0, hj =>
      simp at hj; subst hj
      exact ⟨_, _, rfl, hP, ⟨c0, c1, c2, c3, c4, rfl, cell_of_row (i := 0) h rfl, cell_of_row (i := 1) h rfl, cell_of_row (i := 2) h rfl, cell_of_row (i := 3) h rfl, cell_of_row (i := 4) h rfl⟩, hx⟩
    | 1, hj =>
      simp at hj; subst hj
      exact ⟨_, _, rfl, hP, ⟨d0, d1, d2, d3, d4, rfl, cell_of_row (i := 5) h rfl, cell_of_row (i := 6) h rfl, cell_of_row (i := 7) h rfl, cell_of_row (i := 8) h rfl, cell_of_row (i := 9) h rfl⟩, hy⟩
    | j + 2, hj => simp at hj⟩
theorem TmAt.leaf (P : Nat → Prop) (w : World) (k n : Int) (s : ByteArray) (hk : -128 ≤ k ∧ k ≤ 127) (hn : -9223372036854775808 ≤ n ∧ n ≤ 9223372036854775807) (hs : s.size ≤ maxLen) : TmAt P w (.mk k n s ⟨#[]⟩ []) (.agg #[.int .i8 k, .int .i64 n, .string s, .string ⟨#[]⟩, .slice none 0 0]) :=
  .of_row (.nil P w none 0) hk hn hs (by decide)

theorem here_of {W : World} {n : Nat} (o : Obj) (h : W.heap.size = n) : (W.alloc o).heap[n]? = some o ∧ (W.alloc o).heap.size = n + 1 := by subst h; exact ⟨block_alloc W o, World.size_alloc _ _⟩
theorem there_of {W : World} {n : Nat} {o' : Obj} (o : Obj) (h : W.heap[n]? = some o') : (W.alloc o).heap[n]? = some o' := (Below.heap_alloc _ _ _ (heap_lt h)).trans h
end Go.Proofs.YtkceoiaaiaomoaaGreatDoor
end
section

end
section
set_option linter.unusedVariables false
set_option linter.unusedSimpArgs false
namespace Go.Proofs.YtkceoiaaiaomoaaGreatDoor
open Go.RowKit Go.Shelf
attribute [local go_sem] Oper.semAt_some

structure BRT (n0 n1 : Nat) (w : World) (A : Option Addr) (n cap : Nat) (l : List Bd) : Prop where
  len : l.length = n
  max : n ≤ maxLen
  cap : n ≤ cap
  at_ : ∀ j b, l[j]? = some b → ∃ ad v, A = some ad ∧ ad.block < n1 ∧ b.1.size ≤ maxLen ∧ BElem w ad j b.1 v ∧ TmAt (· < n0) w b.2 v
  le : n0 ≤ n1
theorem BRT.under {n0 n1 C : Nat} {w w' : World} {A : Option Addr} {n cap : Nat} {l : List Bd} (h : BRT n0 n1 w A n cap l) (hb : Below C w w') (hC : n1 ≤ C) : BRT n0 n1 w' A n cap l :=
  ⟨h.len, h.max, h.cap, fun j b hj => by obtain ⟨ad, v, e, hp, hs, hE, hT⟩ := h.at_ j b hj; exact ⟨ad, v, e, hp, hs, hE.keep (hb.block _ (Nat.lt_of_lt_of_le hp hC)), hT.keep (fun k hk => hb.block k (Nat.lt_of_lt_of_le hk (Nat.le_trans h.le hC))) (fun _ h => h)⟩, h.le⟩
theorem BRow.brt {n0 : Nat} {w : World} {A : Option Addr} {n cap : Nat} {l : List Bd} (h : BRow (· < n0) w A n cap l) : BRT n0 n0 w A n cap l := ⟨h.len, h.max, h.cap, h.at_, Nat.le_refl _⟩
theorem BRT.brow {n0 n1 : Nat} {w : World} {A : Option Addr} {n cap : Nat} {l : List Bd} (h : BRT n0 n1 w A n cap l) : BRow (· < n1) w A n cap l :=
  ⟨h.len, h.max, h.cap, fun j b hj => by obtain ⟨ad, v, e, hp, hs, hE, hT⟩ := h.at_ j b hj; exact ⟨ad, v, e, hp, hs, hE, hT.mono (fun k hk => Nat.lt_of_lt_of_le hk h.le)⟩⟩
def MapB (n0 : Nat) (w0 : World) (es : Array MapEntry) (l : List Bd) : Prop :=
  ∃ f, MapT es f ∧ ∀ s, (∀ y, findB l s = some y → ∃ k n ts tt A m c, f s = some (.agg #[.int .i8 k, .int .i64 n, .string ts, .string tt, .slice A m c]) ∧ TmAt (· < n0) w0 y (.agg #[.int .i8 k, .int .i64 n, .string ts, .string tt, .slice A m c])) ∧ (findB l s = none → f s = none)
end Go.Proofs.YtkceoiaaiaomoaaGreatDoor
end
