/- Heaps from one world to the next: what a call may have done to one. -/
import Derived.Test.YtaemfjmmklpjeaaGreatDoorHeapAdd
set_option linter.unusedVariables false
namespace Go.Proofs.YtaemfjmmklpjeaaGreatDoor
open Go.RowKit

structure HSt where
  cs : List HC
  ws : Nat
  CS : Value
  RA : Option Addr
  rn : Nat
def HSt.At (s : HSt) (base : Nat) (w : World) (hb : Nat) : Prop := HeapAt base w hb s.cs s.ws s.CS (.slice s.RA s.rn s.rn)
def HSt.Core (s : HSt) (base : Nat) (w : World) (b : Nat) : Prop := HeapCore base w b s.cs s.CS (.slice s.RA s.rn s.rn)
def HSt.FP (s : HSt) (hb k : Nat) : Prop := Go.Proofs.YtaemfjmmklpjeaaGreatDoor.FP hb s.CS s.RA s.rn k
structure HMove (base hb : Nat) (s s' : HSt) (w w' : World) : Prop where
  at_ : s'.At base w' hb
  rn : s'.rn ≤ 1000000
  mod : Mod (s.FP hb) w w'
  fp : ∀ k, s'.FP hb k → s.FP hb k ∨ w.heap.size ≤ k
  apart : ∀ b, b < w.heap.size → s.Core base w b → s'.Core base w' b

theorem HSt.At.core {s : HSt} {base : Nat} {w : World} {hb : Nat} (h : s.At base w hb) : s.Core base w hb := HeapAt.core h
theorem HSt.At.bx {s : HSt} {base : Nat} {w : World} {hb : Nat} (h : s.At base w hb) : w.heap[hb]? = some (.cells #[s.CS, .int .i64 s.ws, .slice s.RA s.rn s.rn] 94 (0, 0)) := HeapAt.box h
theorem HSt.At.lt {s : HSt} {base : Nat} {w : World} {hb : Nat} (h : s.At base w hb) : hb < w.heap.size := heap_lt h.bx
theorem HSt.At.under {s : HSt} {base : Nat} {w w' : World} {hb : Nat} (h : s.At base w hb) (b : Below w.heap.size w w') : s.At base w' hb := HeapAt.under h b
theorem HSt.Core.under {s : HSt} {base : Nat} {w w' : World} {b : Nat} (h : s.Core base w b) (bb : Below w.heap.size w w') : s.Core base w' b := HeapCore.mod h (Mod.of_below (F := fun _ => False) bb) (fun _ f => f.elim)
theorem HSt.Core.off {s : HSt} {base : Nat} {w : World} {b : Nat} (h : s.Core base w b) : s.Core base w w.heap.size := HeapCore.off h
theorem HSt.At.new {s : HSt} {base : Nat} {w : World} {hb : Nat} (h : s.At base w hb) {w' : World} (bb : Below w.heap.size w w') : s.Core base w' w.heap.size := h.core.off.under bb
theorem HSt.Core.not_fp {s : HSt} {base : Nat} {w : World} {b hb : Nat} (h : s.Core base w b) (hne : b ≠ hb) : ¬ s.FP hb b := by
  rintro (e | e | ⟨h1, o, e⟩)
  · exact hne e
  · exact h.apart e
  · obtain ⟨A, rn, e1, h2⟩ := h.room
    cases e1
    obtain ⟨g, o', cur, e2, _, h3, _⟩ := h2 h1
    rw [e] at e2
    cases e2
    exact h3 rfl
theorem HSt.Core.write {s : HSt} {base : Nat} {w w' : World} {b b0 : Nat} (h : s.Core base w b) (h0 : s.Core base w b0) (m : Mod (fun k => k = b0) w w') : s.Core base w' b := HeapCore.mod2 h h0 m (fun i e => .inr (.inl e))
theorem HSt.At.write {s : HSt} {base : Nat} {w w' : World} {hb b0 : Nat} (h : s.At base w hb) (h0 : s.Core base w b0) (hne : b0 ≠ hb) (m : Mod (fun k => k = b0) w w') : s.At base w' hb :=
  ⟨HeapAt.low h, (m.block _ h.lt (fun e => hne e.symm)).trans h.bx, h.core.write h0 m⟩

theorem HMove.below {base hb : Nat} {s : HSt} {w w' : World} (h : s.At base w hb) (hr : s.rn ≤ 1000000) (b : Below w.heap.size w w') : HMove base hb s s w w' :=
  ⟨h.under b, hr, Mod.of_below b, fun k hk => .inl hk, fun c _ hc => hc.under b⟩
theorem HMove.trans {base hb : Nat} {s s1 s2 : HSt} {w w1 w2 : World} (h : HMove base hb s s1 w w1) (k : HMove base hb s1 s2 w1 w2) : HMove base hb s s2 w w2 :=
  ⟨k.at_, k.rn, h.mod.trans k.mod (fun i hi hf => (h.fp i hf).elim id (fun e => by omega)), fun i hf => (k.fp i hf).elim (h.fp i) (fun e => .inr (Nat.le_trans h.mod.size e)), fun b hb hc => k.apart b (Nat.lt_of_lt_of_le hb h.mod.size) (h.apart b hb hc)⟩
theorem HMove.on {base hb : Nat} {s s1 : HSt} {w w1 w2 : World} (h : HMove base hb s s1 w w1) (b : Below w1.heap.size w1 w2) : HMove base hb s s1 w w2 := h.trans (HMove.below h.at_ h.rn b)
theorem HMove.write {base hb b0 : Nat} {s s1 : HSt} {w w1 w2 : World} (h : HMove base hb s s1 w w1) (hlt : hb < w.heap.size) (h0 : w.heap.size ≤ b0) (hc : s1.Core base w1 b0) (m : Mod (fun k => k = b0) w1 w2) : HMove base hb s s1 w w2 :=
  ⟨h.at_.write hc (by omega) m, h.rn, h.mod.trans (m.mono (G := fun k => k = b0) (fun _ _ e => e)) (fun i hi e => by omega), h.fp, fun b hb hcb => (h.apart b hb hcb).write hc m⟩
theorem HMove.block {base hb b : Nat} {s s1 : HSt} {w w1 : World} (h : HMove base hb s s1 w w1) (hlt : b < w.heap.size) (hc : s.Core base w b) (hne : b ≠ hb) : w1.heap[b]? = w.heap[b]? := h.mod.block b hlt (hc.not_fp hne)
theorem HMove.of_below {base hb : Nat} {s s1 : HSt} {w w0 w1 : World} (h : HMove base hb s s1 w w1) (b : Below w0.heap.size w0 w) (h0 : s.At base w0 hb) (hr : s.rn ≤ 1000000) : HMove base hb s s1 w0 w1 := (HMove.below h0 hr b).trans h

theorem HSt.At.fp_ge {s : HSt} {base hb : Nat} {w : World} (h : s.At base w hb) {k : Nat} (hk : s.FP hb k) : base ≤ k := by
  rcases hk with e | e | ⟨h1, o, e⟩
  · rw [e]; exact HeapAt.low h
  · obtain ⟨vs, -, ho, -⟩ := (HeapAt.core h).row
    exact (ho.lt k e).1
  · obtain ⟨A, rn, e1, h2⟩ := (HeapAt.core h).room
    cases e1
    obtain ⟨g, o', cur, e2, h3, _⟩ := h2 h1
    rw [e] at e2
    cases e2
    exact h3
theorem HMove.above {base hb : Nat} {s s' : HSt} {w w' : World} (m : HMove base hb s s' w w') (h : s.At base w hb) (hb' : base ≤ w.heap.size) : Below base w w' := m.mod.below hb' (fun k hk => h.fp_ge hk)


def HSt.more (s : HSt) (kind : Int) (L : List HW) : List HC := s.cs ++ [⟨kind, wsum s.cs L, L⟩]
def refV (a : Nat) : Value := .agg #[.bool true, .int .i64 a, .int .i8 0, .int .i64 0, .string ⟨#[]⟩, .string ⟨#[]⟩, .slice none 0 0]
def HMoveTo (base hb : Nat) (s : HSt) (cs' : List HC) (ws' : Nat) (w w' : World) : Prop := ∃ s', s'.cs = cs' ∧ s'.ws = ws' ∧ HMove base hb s s' w w'

def HAddP (base hb : Nat) (s : HSt) (kind : Int) (L : List AW) (w : World) (e : Ending) (w' : World) : Prop :=
  e = .returned (refV s.cs.length) ∧ HMoveTo base hb s (s.more kind (L.map AW.hw)) (s.ws + (1 + L.length)) w w'

theorem hadd_any {base hb : Nat} {s : HSt} (kind : Int) (L : List AW) (A : Option Addr) (cap : Nat) (P : Nat → Prop) (w : World) (hbw : base ≤ w.heap.size) (h : s.At base w hb) (hrn : s.rn ≤ 1000000) (hg : ∀ (n : Nat) (c : HC), s.cs[n]? = some c → c.size ≤ 256) (hR : WRow P w A L.length cap L)
    (hP : ∀ b, P b → b < w.heap.size ∧ ¬ s.FP hb b) (hm : ∀ q ∈ L, mayW s.cs.length q.c q.a q.x = true) (hll : L.length ≤ 1000) (hws : s.ws ≤ 1000000000000) (hcl : s.cs.length < 1048576) :
    Calls Tryz.prog 46 #[.pointer (some ⟨hb, 0, none⟩), .int .i8 kind, .slice A L.length cap] w (HAddP base hb s kind L w) := by
  refine (add_any s.RA s.rn kind L A cap P w hbw h hrn hg hR hP hm hll hws hcl).mono ?_
  rintro e w' ⟨rfl, CS', RA', rn', h1, h2, h3, h4, h5⟩
  exact ⟨rfl, ⟨_, _, CS', RA', rn'⟩, rfl, rfl, h1, h2, h3, h4, h5⟩
end Go.Proofs.YtaemfjmmklpjeaaGreatDoor
