/- package heap: one heap seen with two blocks apart: both may be written. -/
import Derived.Test.YtphfekcacaaabaaDoorHeapP
set_option linter.unusedVariables false
namespace Go.Proofs.YtphfekcacaaabaaDoor

theorem vs_eq {base n : Nat} {w : World} {cs : List HC} {vs vs' : List Value} {CS u u' : Value} {c : HC} (ho : w.ownsRow base 39 3 CS cs.length (rowC cs vs)) (ho' : w.ownsRow base 39 3 CS cs.length (rowC cs vs')) (hc : cs[n]? = some c) (hv : vs[n]? = some u) (hv' : vs'[n]? = some u') : u = u' := by
  obtain ⟨-, -, h2⟩ := rowC_at hc hv
  obtain ⟨-, -, h2'⟩ := rowC_at hc hv'
  have hown := ho
  rcases ho.2 with ⟨_, hz⟩ | ⟨g, cap, cur, rfl, _⟩
  · have := (List.getElem?_eq_some_iff.1 hc).1; omega
  · have a := hown.cells (g := g) rfl _ _ h2
    have b := ho'.cells (g := g) rfl _ _ h2'
    rw [a] at b
    exact Option.some.inj b

theorem HeapCore.both {base hb b rn' : Nat} {w : World} {cs : List HC} {CS RM : Value} {A' : Option Addr} (h : HeapCore base w hb cs CS (.slice A' rn' rn')) (k : HeapCore base w b cs CS RM) (hr : ∀ g o, A' = some ⟨g, o, none⟩ → 0 < rn' → g ≠ b) : HeapCore base w b cs CS (.slice A' rn' rn') := by
  obtain ⟨vs, hl, ho, hp⟩ := h.row
  obtain ⟨vs', hl', ho', hp'⟩ := k.row
  obtain ⟨A, rn, e, h2⟩ := h.room
  cases e
  refine ⟨⟨vs, hl, ho, fun n c hc => ?_⟩, ⟨_, _, rfl, fun hr' => ?_⟩, k.apart⟩
  · obtain ⟨A, hv, hw, hs⟩ := hp n c hc
    obtain ⟨A2, hv2, hw2, hs2⟩ := hp' n c hc
    have e := vs_eq ho ho' hc hv hv2
    cases e
    exact ⟨A, hv, hw, fun g o e hL => ⟨(hs g o e hL).1, (hs2 g o e hL).2.1, (hs g o e hL).2.2.1, (hs g o e hL).2.2.2⟩⟩
  · obtain ⟨g, o, cur, e1, e2, e3, e4, e5, e6⟩ := h2 hr'
    exact ⟨g, o, cur, e1, e2, hr g o e1 hr', e4, e5, e6⟩

theorem HeapCore.mod2 {base hb b : Nat} {w w' : World} {cs : List HC} {CS RM : Value} {F : Nat → Prop} (h : HeapCore base w hb cs CS RM) (k : HeapCore base w b cs CS RM) (m : Mod F w w') (hF : ∀ i, F i → i = hb ∨ i = b ∨ w.heap.size ≤ i) : HeapCore base w' hb cs CS RM := by
  obtain ⟨vs, hl, ho, hp⟩ := h.row
  obtain ⟨vs', hl', ho', hp'⟩ := k.row
  obtain ⟨A, rn, e, h2⟩ := h.room
  obtain ⟨A9, rn9, e9, h9⟩ := k.room
  subst e
  cases e9
  refine ⟨⟨vs, hl, m.row ho (fun i hk hf => ?_), fun n c hc => ?_⟩, ⟨A, rn, rfl, fun hr => ?_⟩, h.apart⟩
  · rcases hF i hf with e | e | e
    · subst e; exact h.apart hk
    · subst e; exact k.apart hk
    · have := (ho.lt i hk).2; omega
  · obtain ⟨A, hv, hw, hs⟩ := hp n c hc
    obtain ⟨A2, hv2, hw2, hs2⟩ := hp' n c hc
    have e := vs_eq ho ho' hc hv hv2
    cases e
    refine ⟨A, hv, hw.keep (fun g o e hL => ?_), hs⟩
    subst e
    have hlt := hw.lt hL
    refine m.block _ hlt (fun hf => ?_)
    rcases hF g hf with e | e | e
    · exact (hs g o rfl hL).2.1 e
    · exact (hs2 g o rfl hL).2.1 e
    · omega
  · obtain ⟨g, o, cur, e1, e2, e3, e4, e5, e6⟩ := h2 hr
    obtain ⟨g', o', cur', e1', _, e3', _⟩ := h9 hr
    subst e1
    cases e1'
    refine ⟨g, o, cur, rfl, e2, e3, e4, (m.block g (heap_lt e5) (fun hf => ?_)).trans e5, e6⟩
    rcases hF g hf with e | e | e
    · exact e3 e
    · exact e3' e
    · have := heap_lt e5; omega

theorem HeapCore.off {base hb : Nat} {w : World} {cs : List HC} {CS RM : Value} (h : HeapCore base w hb cs CS RM) : HeapCore base w w.heap.size cs CS RM := by
  obtain ⟨vs, hl, ho, hp⟩ := h.row
  obtain ⟨A, rn, e, h2⟩ := h.room
  subst e
  refine ⟨⟨vs, hl, ho, fun n c hc => ?_⟩, ⟨A, rn, rfl, fun hr => ?_⟩, fun e => ?_⟩
  · obtain ⟨A, hv, hw, hs⟩ := hp n c hc
    refine ⟨A, hv, hw, fun g o e hL => ?_⟩
    obtain ⟨a1, a2, a3, a4⟩ := hs g o e hL
    subst e
    have hlt := hw.lt hL
    exact ⟨a1, by omega, a3, a4⟩
  · obtain ⟨g, o, cur, e1, e2, e3, e4, e5, e6⟩ := h2 hr
    have := heap_lt e5
    exact ⟨g, o, cur, e1, e2, by omega, e4, e5, e6⟩
  · have := (ho.lt _ e).2; omega
end Go.Proofs.YtphfekcacaaabaaDoor
