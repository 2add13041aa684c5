/- A heap and the document's own, side by side. Both: cells are made on a heap and on the document's own, and they answer alike. 'append(append([]Part{}, l...), m...)', and a set of ints. -/
import Derived.Test.YtaemfjmmklpjeaaGreatDoorRef04C
import Derived.Deep.RegionHeld
import Derived.OrdersHeld
import Derived.LoopTactic
import Derived.LoopNIn
import Derived.Deep.DeepCutAuto
import Derived.Tactics2
import Derived.Test.YtaemfjmmklpjeaaGreatDoorOpen5
import Derived.Test.YtaemfjmmklpjeaaGreatDoorCoD
import Derived.Maps.AppendAt
import Derived.Test.YtaemfjmmklpjeaaGreatDoorAppOwn
set_option linter.unusedVariables false
namespace Go.Proofs.YtaemfjmmklpjeaaGreatDoor
open Go.RowKit

set_option maxHeartbeats 4000000 in
set_option maxRecDepth 100000 in
theorem sameWord_self5 {bb : Bool} {aa kk nn : Int} {ss tt : ByteArray} (hT : ∀ (P : Nat → Prop) (w : World), TmAt P w (.mk kk nn ss tt []) (.agg #[.int .i8 kk, .int .i64 nn, .string ss, .string tt, .slice none 0 0])) (w : World) :
    Calls Tryz.prog 30 #[.agg #[(.bool bb), (.int .i64 aa), (.int .i8 kk), (.int .i64 nn), (.string ss), (.string tt), (.slice none 0 0)], .agg #[(.bool bb), (.int .i64 aa), (.int .i8 kk), (.int .i64 nn), (.string ss), (.string tt), (.slice none 0 0)]] w fun e w' => e = .returned (.bool true) ∧ Below w.heap.size w w' := by
  obtain ⟨w1, hw1⟩ : ∃ w1, w1 = (w.alloc (.cells #[(.bool bb), (.int .i64 aa), (.int .i8 kk), (.int .i64 nn), (.string ss), (.string tt), (.slice none 0 0)] 51)).alloc (.cells #[(.bool bb), (.int .i64 aa), (.int .i8 kk), (.int .i64 nn), (.string ss), (.string tt), (.slice none 0 0)] 51) := ⟨_, rfl⟩
  have B1 : Below w.heap.size w w1 := by rw [hw1]; exact ((Below.refl _ w).alloc (Nat.le_refl _) _).alloc (by simp) _
  have g0 : w1.heap[w.heap.size]? = some (.cells #[(.bool bb), (.int .i64 aa), (.int .i8 kk), (.int .i64 nn), (.string ss), (.string tt), (.slice none 0 0)] 51 (0, 0)) := by rw [hw1, Below.heap_alloc _ _ _ (by simp)]; exact block_alloc _ _
  have g1 : w1.heap[w.heap.size + 1]? = some (.cells #[(.bool bb), (.int .i64 aa), (.int .i8 kk), (.int .i64 nn), (.string ss), (.string tt), (.slice none 0 0)] 51 (0, 0)) := by
    have h := block_alloc (w.alloc (.cells #[(.bool bb), (.int .i64 aa), (.int .i8 kk), (.int .i64 nn), (.string ss), (.string tt), (.slice none 0 0)] 51)) (.cells #[(.bool bb), (.int .i64 aa), (.int .i8 kk), (.int .i64 nn), (.string ss), (.string tt), (.slice none 0 0)] 51)
    rw [World.size_alloc] at h
    rw [hw1]; exact h
  have HSM := Lib.hid (Same_any (.mk kk nn ss tt []) (.mk kk nn ss tt []) _ _ w1 (hT _ w1) (hT _ w1))
  have HB1 := Lib.hid B1
  have x0 : w1.cell? ⟨w.heap.size, 0, none⟩ = some (.bool bb) := cell_of_row g0 rfl
  have x1 : w1.cell? ⟨w.heap.size, 1, none⟩ = some (.int .i64 aa) := cell_of_row g0 rfl
  have x2 : w1.cell? ⟨w.heap.size, 2, none⟩ = some (.int .i8 kk) := cell_of_row g0 rfl
  have x3 : w1.cell? ⟨w.heap.size, 3, none⟩ = some (.int .i64 nn) := cell_of_row g0 rfl
  have x4 : w1.cell? ⟨w.heap.size, 4, none⟩ = some (.string ss) := cell_of_row g0 rfl
  have x5 : w1.cell? ⟨w.heap.size, 5, none⟩ = some (.string tt) := cell_of_row g0 rfl
  have x6 : w1.cell? ⟨w.heap.size, 6, none⟩ = some (.slice none 0 0) := cell_of_row g0 rfl
  have y0 : w1.cell? ⟨(w.heap.size + 1), 0, none⟩ = some (.bool bb) := cell_of_row g1 rfl
  have y1 : w1.cell? ⟨(w.heap.size + 1), 1, none⟩ = some (.int .i64 aa) := cell_of_row g1 rfl
  have y2 : w1.cell? ⟨(w.heap.size + 1), 2, none⟩ = some (.int .i8 kk) := cell_of_row g1 rfl
  have y3 : w1.cell? ⟨(w.heap.size + 1), 3, none⟩ = some (.int .i64 nn) := cell_of_row g1 rfl
  have y4 : w1.cell? ⟨(w.heap.size + 1), 4, none⟩ = some (.string ss) := cell_of_row g1 rfl
  have y5 : w1.cell? ⟨(w.heap.size + 1), 5, none⟩ = some (.string tt) := cell_of_row g1 rfl
  have y6 : w1.cell? ⟨(w.heap.size + 1), 6, none⟩ = some (.slice none 0 0) := cell_of_row g1 rfl
  clear g0 g1 B1 hT
  subst hw1
  go_enter Tryz.func30, Tryz.ntmps30
  go_wp2_with fail
  refine HSM.out.mono ?_
  rintro e V2 ⟨b, rfl, hb, b2⟩
  obtain rfl : b = true := hb.2 rfl
  have HB2 := Lib.hid (HB1.out.trans (b2.mono HB1.out.size))
  clear hb b2
  go_wp2_with fail
  go_ret
  exact ⟨rfl, HB2.out⟩


def csN (k : Int) (cs : List HC) (L : List AW) : List HC := if rE k cs L = 0 then cs ++ [⟨k, wsum cs (L.map AW.hw), L.map AW.hw⟩] else cs
def csB (cs : List HC) : List MkA → List HC
  | [] => cs
  | a :: l => csB (csN a.k cs (a.L.map wordOf)) l
theorem csB_snoc : ∀ (l : List MkA) (cs : List HC) (a : MkA), csB cs (l ++ [a]) = csN a.k (csB cs l) (a.L.map wordOf)
  | [], cs, a => rfl
  | b :: l, cs, a => csB_snoc l _ a
theorem csB_take {l : List MkA} {j : Nat} {a : MkA} (h : l[j]? = some a) (cs : List HC) : csB cs (l.take (j + 1)) = csN a.k (csB cs (l.take j)) (a.L.map wordOf) := by
  rw [List.take_add_one, h]
  exact csB_snoc _ _ _
structure TwoAt (base : Nat) (w : World) (hb rb : Nat) (s : HSt) (cs : List HC) (CS : Value) (G : Nat → Prop) : Prop where
  ok : HOk s
  hat : s.At base w hb
  rat : RAt base w rb cs CS G
  ap : ∀ k, RFP rb CS G k → k ≠ hb ∧ s.Core base w k
theorem RAt.fp_lt {base rb : Nat} {w : World} {cs : List HC} {CS : Value} {G : Nat → Prop} (h : RAt base w rb cs CS G) {k : Nat} (hk : RFP rb CS G k) : base ≤ k ∧ k < w.heap.size := by
  rcases hk with e | e | e
  · subst e; exact ⟨h.low, heap_lt h.box⟩
  · obtain ⟨vs, _, ho, _⟩ := h.row; exact ho.lt k e
  · exact ⟨(h.own _ e).2.1, (h.own _ e).1⟩
section
variable {base hb rb : Nat} {s s' : HSt} {cs cs' : List HC} {CS CS' : Value} {G G' : Nat → Prop} {X X' : World}
theorem TwoAt.under (t : TwoAt base X hb rb s cs CS G) (b : Below X.heap.size X X') : TwoAt base X' hb rb s cs CS G :=
  ⟨t.ok, t.hat.under b, t.rat.under b, fun k hk => ⟨(t.ap k hk).1, (t.ap k hk).2.under b⟩⟩
theorem TwoAt.hmove (t : TwoAt base X hb rb s cs CS G) (m : HMove base hb s s' X X') (ok : HOk s') : TwoAt base X' hb rb s' cs CS G :=
  ⟨ok, m.at_, t.rat.mods m.mod (fun k _ hf hr => (t.ap k hr).2.not_fp (t.ap k hr).1 hf), fun k hk => ⟨(t.ap k hk).1, m.apart k (t.rat.fp_lt hk).2 (t.ap k hk).2⟩⟩
theorem TwoAt.rmove (t : TwoAt base X hb rb s cs CS G) (r : RAt base X' rb cs' CS' G') (m : Mod (RFP rb CS G) X X') (hf : ∀ i, RFP rb CS' G' i → RFP rb CS G i ∨ X.heap.size ≤ i) : TwoAt base X' hb rb s cs' CS' G' :=
  ⟨t.ok, t.hat.mods m (fun i _ hi => t.ap i hi), r, fun k hk => by
    rcases hf k hk with h | h
    · exact ⟨(t.ap k h).1, (t.ap k h).2.mods m (fun i _ hi => (t.ap i hi).2)⟩
    · exact ⟨(t.hat.fresh h).2, (t.hat.fresh h).1.mods m (fun i _ hi => (t.ap i hi).2)⟩⟩
def OutB (base : Nat) (X : World) (hb rb : Nat) (s : HSt) (CS : Value) (G : Nat → Prop) (b : Nat) (o : Obj) : Prop := X.heap[b]? = some o ∧ base ≤ b ∧ b ≠ hb ∧ s.Core base X b ∧ ¬ RFP rb CS G b
theorem OutB.under {b : Nat} {o : Obj} (h : OutB base X hb rb s CS G b o) (bb : Below X.heap.size X X') : OutB base X' hb rb s CS G b o :=
  ⟨(bb.block _ (heap_lt h.1)).trans h.1, h.2.1, h.2.2.1, h.2.2.2.1.under bb, h.2.2.2.2⟩
theorem OutB.hmove {b : Nat} {o : Obj} (h : OutB base X hb rb s CS G b o) (m : HMove base hb s s' X X') : OutB base X' hb rb s' CS G b o :=
  ⟨(m.mod.block _ (heap_lt h.1) (h.2.2.2.1.not_fp h.2.2.1)).trans h.1, h.2.1, h.2.2.1, m.apart _ (heap_lt h.1) h.2.2.2.1, h.2.2.2.2⟩
theorem OutB.rmove {b : Nat} {o : Obj} (h : OutB base X hb rb s CS G b o) (t : TwoAt base X hb rb s cs CS G) (m : Mod (RFP rb CS G) X X') (hf : ∀ i, RFP rb CS' G' i → RFP rb CS G i ∨ X.heap.size ≤ i) : OutB base X' hb rb s CS' G' b o :=
  ⟨(m.block _ (heap_lt h.1) h.2.2.2.2).trans h.1, h.2.1, h.2.2.1, h.2.2.2.1.mods m (fun i _ hi => (t.ap i hi).2), fun hk => by
    rcases hf b hk with e | e
    · exact h.2.2.2.2 e
    · have := heap_lt h.1; omega⟩
theorem OutB.new (t : TwoAt base X hb rb s cs CS G) (hbx : base ≤ X.heap.size) (l : Array Value) (T : TypeId) : OutB base (X.alloc (.cells l T)) hb rb s CS G X.heap.size (.cells l T (0, 0)) :=
  ⟨block_alloc _ _, hbx, (t.hat.fresh (Nat.le_refl _)).2, (t.hat.fresh (Nat.le_refl _)).1.under ((Below.refl _ _).alloc (Nat.le_refl _) _), fun hk => by have := (t.rat.fp_lt hk).2; omega⟩
theorem OutB.other {b c : Nat} {o o' : Obj} (h : OutB base X hb rb s CS G b o) (hc : OutB base X hb rb s CS G c o') (hne : b ≠ c) (m : Mod (fun k => k = c) X X') : OutB base X' hb rb s CS G b o :=
  ⟨(m.block _ (heap_lt h.1) hne).trans h.1, h.2.1, h.2.2.1, h.2.2.2.1.write hc.2.2.2.1 m, h.2.2.2.2⟩
theorem OutB.self {c : Nat} {o o' : Obj} (hc : OutB base X hb rb s CS G c o') (m : Mod (fun k => k = c) X X') (e : X'.heap[c]? = some o) : OutB base X' hb rb s CS G c o :=
  ⟨e, hc.2.1, hc.2.2.1, hc.2.2.2.1.write hc.2.2.2.1 m, hc.2.2.2.2⟩
theorem TwoAt.write {c : Nat} {o : Obj} (t : TwoAt base X hb rb s cs CS G) (hc : OutB base X hb rb s CS G c o) (m : Mod (fun k => k = c) X X') : TwoAt base X' hb rb s cs CS G :=
  ⟨t.ok, t.hat.write hc.2.2.2.1 hc.2.2.1 m, t.rat.mods m (fun k _ (e : k = c) hk => hc.2.2.2.2 (by rw [← e]; exact hk)), fun k hk => ⟨(t.ap k hk).1, (t.ap k hk).2.write hc.2.2.2.1 m⟩⟩
end
def AnsW (k : Int) (cs : List HC) (L : List AW) (b : Bool) (n E : Int) : Prop := b = (rE k cs L == 0) ∧ n = (if rE k cs L = 0 then ((cs.length : Nat) : Int) else 0) ∧ E = ((rE k cs L : Nat) : Int)
theorem hMake_two {base hb rb : Nat} {s : HSt} {cs : List HC} {CS : Value} {G : Nat → Prop} (X : World) (t : TwoAt base X hb rb s cs CS G) (hbx : base ≤ X.heap.size) (k : Int) (L : List AW) (A : Option Addr) (n cap : Nat) (P : Nat → Prop) (hR : WRow P X A n cap L) (hP : ∀ b, P b → b < X.heap.size ∧ ¬ s.FP hb b) (hll : n ≤ 1000) (hS : Spans X) :
    Calls Tryz.prog 25 #[.pointer (some ⟨hb, 0, none⟩), .int .i8 k, .slice A n cap] X fun e X' => ∃ b m E s', e = .returned (.tuple #[.agg #[.bool b, .int .i64 m, .int .i8 0, .int .i64 0, .string ⟨#[]⟩, .string ⟨#[]⟩, .slice none 0 0], .int .i64 E]) ∧ AnsW k s.cs L b m E ∧ HMove base hb s s' X X' ∧ HOk s' ∧ s'.cs = csN k s.cs L := by
  obtain rfl := hR.len
  cases hk : kindB k L.length with
  | false =>
    have e2 : rE k s.cs L = 2 := by unfold rE; rw [if_neg (by rw [hk]; decide)]
    refine (Make_kind hb k A L.length cap X hk).mono ?_
    rintro e X' ⟨rfl, b⟩
    exact ⟨false, 0, 2, s, rfl, ⟨by rw [e2]; rfl, by rw [e2]; rfl, by rw [e2]; rfl⟩, HMove.below t.hat t.ok.rn b, t.ok, by unfold csN; rw [e2]; rfl⟩
  | true =>
    have e2 : rE k s.cs L = makeE s.cs L := by unfold rE; rw [if_pos hk]
    refine (Make_any k L A cap P X hbx t.hat t.ok.rn t.ok.good.most hR hP hll t.ok.ws_le t.ok.good.len hk hS).mono ?_
    rintro e X' (⟨h0, rfl, b⟩ | ⟨h0, rfl, s', h1, h2, h3⟩)
    · refine ⟨false, 0, _, s, rfl, ⟨?_, ?_, by rw [e2]⟩, HMove.below t.hat t.ok.rn b, t.ok, ?_⟩
      · rw [e2]; simp [h0]
      · rw [e2, if_neg h0]
      · unfold csN; rw [e2, if_neg h0]
    · have hs := t.ok
      have hall : ∀ q ∈ L, mayW s.cs.length q.c q.a q.x = true := by
        unfold makeE at h0
        split at h0
        · rename_i ha; exact fun q hq => List.all_eq_true.1 ha q hq
        · cases h0
      have hb' : wsum s.cs (L.map AW.hw) ≤ 256 ∧ s.cs.length < 1048576 := by
        unfold makeE at h0
        split at h0
        · split at h0
          · cases h0
          · split at h0
            · cases h0
            · omega
        · cases h0
      have hkk : k = 5 ∨ (k = 7 ∧ (L.map AW.hw).length = 2) := by
        unfold kindB at hk
        simp only [Bool.and_eq_true, Bool.or_eq_true, Bool.not_eq_true', beq_iff_eq, Bool.and_eq_false_iff, bne_eq_false_iff_eq, beq_eq_false_iff_ne] at hk
        rw [List.length_map]
        obtain ⟨h5, h7⟩ := hk
        rcases h5 with h5 | h5
        · exact .inl h5
        · rcases h7 with h7 | h7
          · exact absurd h5 h7
          · exact .inr ⟨h5, h7⟩
      have hg := hs.good.snoc k (L.map AW.hw) hkk (fun y hy => by
        obtain ⟨q, hq, rfl⟩ := List.mem_map.1 hy
        exact may_wgood (hall q hq)) hb'.1 (by omega)
      have hcsN : csN k s.cs L = s.cs ++ [⟨k, wsum s.cs (L.map AW.hw), L.map AW.hw⟩] := by unfold csN; rw [e2, if_pos h0]
      refine ⟨true, _, 0, s', rfl, ⟨by rw [e2, h0]; rfl, by rw [e2, if_pos h0], by rw [e2, h0]; rfl⟩, h3, ⟨by rw [h1]; exact hg, ?_, h3.rn⟩, by rw [h1, hcsN]; rfl⟩
      rw [h2, h1, hs.ws]
      unfold HSt.more
      rw [wordsOf_append]
      simp [wordsOf]
theorem rMake_two {base hb rb : Nat} {s : HSt} {cs : List HC} {CS : Value} {G : Nat → Prop} (X : World) (t : TwoAt base X hb rb s cs CS G) (hg : HGood cs) (k : Int) (L : List AW) (A : Option Addr) (n cap : Nat) (hR : WRow (· < X.heap.size) X A n cap L) (hll : n ≤ 1000) :
    Calls Tryz.prog 29 #[.pointer (some ⟨rb, 0, none⟩), .int .i8 k, .slice A n cap] X fun e X' => ∃ b m E CS' G', e = .returned (.tuple #[.agg #[.bool b, .int .i64 m, .int .i8 0, .int .i64 0, .string ⟨#[]⟩, .string ⟨#[]⟩, .slice none 0 0], .int .i64 E]) ∧ AnsW k cs L b m E ∧ TwoAt base X' hb rb s (csN k cs L) CS' G' ∧ Mod (RFP rb CS G) X X' ∧ (∀ i, RFP rb CS' G' i → RFP rb CS G i ∨ X.heap.size ≤ i) := by
  obtain rfl := hR.len
  refine (rMake_any hg k L A cap X t.rat hR hll).mono ?_
  rintro e X' (⟨h0, rfl, b⟩ | ⟨h0, rfl, CS', G', h1, h2, h3⟩)
  · exact ⟨false, 0, _, CS, G, rfl, ⟨by simp [h0], by rw [if_neg h0], rfl⟩, by unfold csN; rw [if_neg h0]; exact t.under b, Mod.of_below b, fun i hi => .inl hi⟩
  · have m : Mod (RFP rb CS G) X X' := h2.mono (fun i _ hi => hi.elim (fun e => .inl e) (fun e => .inr (.inl e)))
    have hcsN : csN k cs L = cs ++ [⟨k, wsum cs (L.map AW.hw), L.map AW.hw⟩] := by unfold csN; rw [if_pos h0]
    exact ⟨true, _, 0, CS', G', rfl, ⟨by rw [h0]; rfl, by rw [if_pos h0], by rw [h0]; rfl⟩, by rw [hcsN]; exact t.rmove h1 m h3, m, h3⟩
end Go.Proofs.YtaemfjmmklpjeaaGreatDoor
set_option linter.unusedVariables false
namespace Go.Proofs.YtaemfjmmklpjeaaGreatDoor
open Go.RowKit

theorem rNew_any (base : Nat) (w : World) (hb : base ≤ w.heap.size) : Calls Tryz.prog 28 #[] w fun e w' => e = .returned (.pointer (some ⟨w.heap.size, 0, none⟩)) ∧ RAt base w' w.heap.size [] (.slice none 0 0) (fun _ => False) ∧ Below w.heap.size w w' := by
  have b : Below w.heap.size w (w.alloc (.cells #[.slice none 0 0] 60)) := (Below.refl _ w).alloc (Nat.le_refl _) _
  have g := block_alloc w (.cells #[.slice none 0 0] 60)
  have HB := Lib.hid (And.intro b g)
  clear b g
  go_enter Tryz.func28, Tryz.ntmps28
  go_wp2_with fail
  go_ret
  refine ⟨rfl, ⟨hb, HB.out.2, ⟨[], rfl, ⟨rfl, .inl ⟨rfl, rfl⟩⟩, fun n c h => by simp at h⟩, by simp [Value.ownBlock], fun g h => h.elim⟩, HB.out.1⟩
def BothP (l : List MkA) (w : World) (e : Ending) (w' : World) : Prop := ∃ rb s CS G, e = .returned (.tuple #[.pointer (some ⟨w.heap.size, 0, none⟩), .pointer (some ⟨rb, 0, none⟩), .bool true]) ∧ TwoAt w.heap.size w' w.heap.size rb s s.cs CS G ∧ s.cs = csB [] l ∧ Below w.heap.size w w'

set_option maxRecDepth 100000 in
set_option maxHeartbeats 16000000 in
theorem both_any (A : Option Addr) (n cap : Nat) (l : List MkA) (w : World) (hl : MRow w.heap.size w A n cap l) (h4 : ∀ a ∈ l, a.L.length < 400) (hS : Spans w) :
    Calls Tryz.prog 9 #[.slice A n cap] w (BothP l w) := by
  have hlen := hl.max
  obtain rfl := hl.len
  have HL := Lib.hid hl
  have H4 := Lib.hid h4
  have HSP := Lib.hid hS
  clear hl h4 hS
  go_enter Tryz.func9, Tryz.ntmps9
  go_wp2_with fail
  refine (New_any w.heap.size w (Nat.le_refl _)).mono ?_
  rintro e W1 ⟨rfl, hh, b1⟩
  have HH := Lib.hid hh
  have HB1 := Lib.hid b1
  clear hh b1
  go_wp2_with fail
  refine (rNew_any w.heap.size W1 HB1.out.size).mono ?_
  rintro e W2 ⟨rfl, hr, b2⟩
  have hrb : W1.heap.size ≠ w.heap.size := fun e => by have := heap_lt (HeapAt.box HH.out); omega
  have t0 : TwoAt w.heap.size W2 w.heap.size W1.heap.size ⟨[], 0, .slice none 0 0, none, 0⟩ [] (.slice none 0 0) (fun _ => False) := by
    have hat1 : (⟨[], 0, .slice none 0 0, none, 0⟩ : HSt).At w.heap.size W1 w.heap.size := HH.out
    refine ⟨⟨⟨fun n c h => by simp at h, fun n c h => by simp at h, fun n c h => by simp at h, fun n c h => by simp at h, by decide⟩, rfl, Nat.zero_le _⟩, hat1.under b2, hr, fun k hk => ?_⟩
    rcases hk with e | e | e
    · subst e; exact ⟨hrb, (hat1.fresh (Nat.le_refl _)).1.under b2⟩
    · simp [Value.ownBlock] at e
    · exact e.elim
  have HT0 := Lib.hid t0
  have HB2 := Lib.hid (HB1.out.trans (b2.mono HB1.out.size))
  clear t0 hr b2 hrb HH HB1
  obtain ⟨rb, hrb⟩ : ∃ rb, rb = W1.heap.size := ⟨_, rfl⟩
  rw [← hrb] at HT0 ⊢
  clear hrb
  go_wp2_with fail
  go_loopw [18] (fun i wr => ∃ j : Nat, j ≤ l.length ∧ i = .int .i64 j ∧ Hid (∃ s CS G, TwoAt w.heap.size wr w.heap.size rb s s.cs CS G ∧ s.cs = csB [] (l.take j)) ∧ Hid (Below w.heap.size w wr)) (fun i _ => l.length - (intOf i).toNat)
  case atStart => exact ⟨0, Nat.zero_le _, rfl, ⟨_, _, _, HT0.out, rfl⟩, HB2⟩
  case round =>
    clear HT0 HB2
    obtain ⟨j, hj, rfl, HTT, HB⟩ := hrel
    by_cases hlt : j < l.length
    · obtain ⟨a, ha⟩ : ∃ a, l[j]? = some a := ⟨l[j], List.getElem?_eq_getElem hlt⟩
      obtain ⟨s, CS, G, ht, hcs⟩ := HTT.out
      obtain ⟨ad, rfl, hadl, LA, Lc, hRow2, hW, h3, h4⟩ := HL.out.at_ j a ha
      have HA : Hid (ad.block < w.heap.size ∧ Row2 w ad j (.int .i8 a.k) (.slice LA a.L.length Lc) ∧ WRow (· < w.heap.size) w LA a.L.length Lc a.L ∧ a.L.length < 400) := ⟨hadl, hRow2, hW, H4.out a (List.mem_of_getElem? ha)⟩
      have HT := Lib.hid ht
      have HCS := Lib.hid (And.intro hcs ha)
      have HG := Lib.hid ht.ok.good
      have i0 : (0 : Int) ≤ (j : Int) := by omega
      have i1 : (j : Int) < (l.length : Int) := by omega
      clear ht hcs hadl hRow2 hW h3 h4 ha HTT
      go_upto_region 7 with fail
      go_cut [8, 9] (fun c8 c9 X => ∃ g1 b1 m1 E1 s1, c8 = .pointer (some ⟨g1, 0, none⟩) ∧ c9 = .int .i64 E1 ∧ Hid (TwoAt w.heap.size X w.heap.size rb s1 s.cs CS G ∧ Below w.heap.size w X ∧ OutB w.heap.size X w.heap.size rb s1 CS G g1 (.cells #[.bool b1, .int .i64 m1, .int .i8 0, .int .i64 0, .string ⟨#[]⟩, .string ⟨#[]⟩, .slice none 0 0] 51 (0, 0)) ∧ AnsW a.k s.cs (a.L.map wordOf) b1 m1 E1 ∧ s1.cs = csN a.k s.cs (a.L.map wordOf)))
      case first =>
        refine wp_region_held (S := fun V => V.cell? (ad.add (j * 2)) = some (.int .i8 a.k) ∧ V.cell? ⟨(ad.add (j * 2)).block, (ad.add (j * 2)).off + 1, none⟩ = some (.slice LA a.L.length Lc)) (by kernel_rfl) ?_
        show wpAnyH _ _ _ _ _ _ _ _ wr.drew
        have hdr : Below wr.heap.size wr wr.drew := ⟨rfl, rfl, rfl, Nat.le_refl _, fun _ _ => rfl⟩
        have hbl := HB.out.trans (hdr.mono HB.out.size)
        have t := HT.out.under hdr
        have hS0 := HA.out.2.1.keep (hbl.block _ HA.out.1)
        generalize wr.drew = D at t hbl hS0 ⊢
        clear hdr
        replace hS0 : (fun V => V.cell? (ad.add (j * 2)) = some (.int .i8 a.k) ∧ V.cell? ⟨(ad.add (j * 2)).block, (ad.add (j * 2)).off + 1, none⟩ = some (.slice LA a.L.length Lc)) D := hS0
        refine wpAnyH_take (i := 0) (oi := ⟨some 22, _, _, _, _, _⟩) (v := ?_) rfl (by kernel_rfl) (by kernel_rfl) (by kernel_rfl) (fun _ _ _ h => h) (Or.inl ⟨by kernel_rfl, ?_⟩) (by assumption) ?_; rotate_left; (intro X hX; (try dsimp only at hX); obtain ⟨r0, r1⟩ := hX; go_simp; first | done | with_reducible rfl); (try simp only [Act.put, sI, sZ, sS])
        refine wpAnyH_take (i := 1) (oi := ⟨some 23, _, _, _, _, _⟩) (v := ?_) rfl (by kernel_rfl) (by kernel_rfl) (by kernel_rfl) (fun _ _ _ h => h) (Or.inl ⟨by kernel_rfl, ?_⟩) (by assumption) ?_; rotate_left; (intro X hX; (try dsimp only at hX); obtain ⟨r0, r1⟩ := hX; go_simp; first | done | with_reducible rfl); (try simp only [Act.put, sI, sZ, sS])
        refine wpAnyH_take (i := 2) (oi := ⟨some 24, _, _, _, _, _⟩) (v := ?_) rfl (by kernel_rfl) (by kernel_rfl) (by kernel_rfl) (fun _ _ _ h => h) (Or.inl ⟨by kernel_rfl, ?_⟩) (by assumption) ?_; rotate_left; (intro X hX; (try dsimp only at hX); obtain ⟨r0, r1⟩ := hX; go_simp; first | done | with_reducible rfl); (try simp only [Act.put, sI, sZ, sS])
        refine wpAnyH_take (i := 3) (oi := ⟨some 25, _, _, _, _, _⟩) (v := ?_) rfl (by kernel_rfl) (by kernel_rfl) (by kernel_rfl) (fun _ _ _ h => h) (Or.inl ⟨by kernel_rfl, ?_⟩) (by assumption) ?_; rotate_left; (intro X hX; (try dsimp only at hX); obtain ⟨r0, r1⟩ := hX; go_simp; first | done | with_reducible rfl); (try simp only [Act.put, sI, sZ, sS])
        refine wpAnyH_take (i := 4) (oi := ⟨some 26, _, _, _, _, _⟩) (v := ?_) rfl (by kernel_rfl) (by kernel_rfl) (by kernel_rfl) (fun _ _ _ h => h) (Or.inl ⟨by kernel_rfl, ?_⟩) (by assumption) ?_; rotate_left; (intro X hX; (try dsimp only at hX); obtain ⟨r0, r1⟩ := hX; go_simp; first | done | with_reducible rfl); (try simp only [Act.put, sI, sZ, sS])
        refine wpAnyH_take (i := 5) (oi := ⟨some 27, _, _, _, _, _⟩) (v := ?_) rfl (by kernel_rfl) (by kernel_rfl) (by kernel_rfl) (fun _ _ _ h => h) (Or.inl ⟨by kernel_rfl, ?_⟩) (by assumption) ?_; rotate_left; (intro X hX; (try dsimp only at hX); obtain ⟨r0, r1⟩ := hX; go_simp; first | done | with_reducible rfl); (try simp only [Act.put, sI, sZ, sS])
        refine wpAnyH_take (i := 6) (oi := ⟨some 28, _, _, _, _, _⟩) (v := ?_) rfl (by kernel_rfl) (by kernel_rfl) (by kernel_rfl) (fun _ _ _ h => h) (Or.inl ⟨by kernel_rfl, ?_⟩) (by assumption) ?_; rotate_left; (intro X hX; (try dsimp only at hX); obtain ⟨r0, r1⟩ := hX; go_simp; first | done | with_reducible rfl); (try simp only [Act.put, sI, sZ, sS])
        refine wpAnyH_take (i := 7) (oi := ⟨some 29, _, _, _, _, _⟩) (v := ?_) rfl (by kernel_rfl) (by kernel_rfl) (by kernel_rfl) (fun _ _ _ h => h) (Or.inl ⟨by kernel_rfl, ?_⟩) (by assumption) ?_; rotate_left; (intro X hX; (try dsimp only at hX); obtain ⟨r0, r1⟩ := hX; go_simp; first | done | with_reducible rfl); (try simp only [Act.put, sI, sZ, sS])
        refine wpAnyH_take (i := 8) (oi := ⟨some 30, _, _, _, _, _⟩) (v := ?_) rfl (by kernel_rfl) (by kernel_rfl) (by kernel_rfl) (fun _ _ _ h => h) (Or.inl ⟨by kernel_rfl, ?_⟩) (by assumption) ?_; rotate_left; (intro X hX; (try dsimp only at hX); obtain ⟨r0, r1⟩ := hX; go_simp; first | done | with_reducible rfl); (try simp only [Act.put, sI, sZ, sS])
        refine wpAnyH_take (i := 9) (oi := ⟨some 31, _, _, _, _, _⟩) (v := ?_) rfl (by kernel_rfl) (by kernel_rfl) (by kernel_rfl) (fun _ _ _ h => h) (Or.inl ⟨by kernel_rfl, ?_⟩) (by assumption) ?_; rotate_left; (intro X hX; (try dsimp only at hX); obtain ⟨r0, r1⟩ := hX; go_simp; first | done | with_reducible rfl); (try simp only [Act.put, sI, sZ, sS])
        refine wpAnyH_take (i := 10) (oi := ⟨some 32, _, _, _, _, _⟩) (v := ?_) rfl (by kernel_rfl) (by kernel_rfl) (by kernel_rfl) (fun _ _ _ h => h) (Or.inl ⟨by kernel_rfl, ?_⟩) (by assumption) ?_; rotate_left; (intro X hX; (try dsimp only at hX); obtain ⟨r0, r1⟩ := hX; go_simp; first | done | with_reducible rfl); (try simp only [Act.put, sI, sZ, sS])
        clear hS0
        refine wpAnyH_ready (rs := [11, 16]) (by kernel_rfl) (by simp) ?_
        refine AllReadyH.cons (o := ⟨some 33, _, _, _, _, _⟩) rfl (fun K hK => ?_) (AllReadyH.cons (o := ⟨some 8, _, _, _, _, _⟩) rfl (fun K hK => ?_) AllReadyH.nil)
        · rw [if_pos (by rfl)]
          go_simp
          refine (words5_any (fun b => b < w.heap.size) LA a.L.length Lc a.L D (HA.out.2.2.1.keep (fun b hb' => hbl.block b hb') (fun _ h => h)) (fun b hb' => Nat.lt_of_lt_of_le hb' hbl.size) (by have := HA.out.2.2.2; omega)).mono ?_
          rintro e X11 ⟨A11, cap11, rfl, hwr0, b11⟩
          have hwr : WRow (fun b => b < X11.heap.size ∧ ¬ s.FP w.heap.size b) X11 A11 a.L.length cap11 (a.L.map wordOf) := hwr0.keep (fun _ _ => rfl) (fun b hb => by
            rcases hb with hb | ⟨hb1, hb2⟩
            · exact ⟨Nat.lt_of_lt_of_le hb (Nat.le_trans hbl.size b11.size), fun hf => by have := t.hat.fp_ge hf; omega⟩
            · exact ⟨hb2, (t.hat.fresh hb1).1.not_fp (t.hat.fresh hb1).2⟩)
          clear hwr0
          replace t := t.under b11
          replace hbl := hbl.trans (b11.mono hbl.size)
          clear b11
          refine hK.out _ _ (HA.out.2.1.keep (hbl.block _ HA.out.1)) (fun _ => ?_)
          clear hK K; (try simp only [Act.put, sI, sZ, sS])
          refine wpAnyH_ready (rs := [12, 16]) (by kernel_rfl) (by simp) ?_
          refine AllReadyH.cons (o := ⟨some 34, _, _, _, _, _⟩) rfl (fun K hK => ?_) (AllReadyH.cons (o := ⟨some 8, _, _, _, _, _⟩) rfl (fun K hK => ?_) AllReadyH.nil)
          · rw [if_pos (by rfl)]
            go_simp
            refine (hMake_two X11 t hbl.size a.k (a.L.map wordOf) A11 a.L.length cap11 _ hwr (fun _ h => h) (by have := HA.out.2.2.2; omega) (HSP.out.below hbl HSP.out.lt)).mono ?_
            rintro e X12 ⟨b1, m1, E1, s1, rfl, hv1, hm, hok, hcs1⟩
            have hba := hm.above t.hat hbl.size
            replace t := t.hmove hm hok
            replace hbl := hbl.trans hba
            clear hba hwr hm hok
            refine hK.out _ _ (HA.out.2.1.keep (hbl.block _ HA.out.1)) (fun _ => ?_)
            clear hK K; (try simp only [Act.put, sI, sZ, sS])
            refine wpAnyH_take (i := 13) (oi := ⟨some 21, _, _, _, _, _⟩) (v := ?_) rfl (by kernel_rfl) (by kernel_rfl) (by kernel_rfl) (fun _ _ _ h => h) (Or.inl ⟨by kernel_rfl, ?_⟩) (by assumption) ?_; rotate_left; (intro X hX; (try dsimp only at hX); obtain ⟨r0, r1⟩ := hX; go_simp; first | done | with_reducible rfl); (try simp only [Act.put, sI, sZ, sS])
            refine wpAnyH_take (i := 14) (oi := ⟨some 35, _, _, _, _, _⟩) (v := ?_) rfl (by kernel_rfl) (by kernel_rfl) (by kernel_rfl) (fun _ _ _ h => h) (Or.inl ⟨by kernel_rfl, ?_⟩) (by assumption) ?_; rotate_left; (intro X hX; (try dsimp only at hX); obtain ⟨r0, r1⟩ := hX; go_simp; first | done | with_reducible rfl); (try simp only [Act.put, sI, sZ, sS])
            refine wpAnyH_take (i := 15) (oi := ⟨some 36, _, _, _, _, _⟩) (v := ?_) rfl (by kernel_rfl) (by kernel_rfl) (by kernel_rfl) (fun _ _ _ h => h) (Or.inl ⟨by kernel_rfl, ?_⟩) (by assumption) ?_; rotate_left; (intro X hX; (try dsimp only at hX); obtain ⟨r0, r1⟩ := hX; go_simp; first | done | with_reducible rfl); (try simp only [Act.put, sI, sZ, sS])
            refine wpAnyH_ready (rs := [16]) (by kernel_rfl) (by simp) ?_
            refine AllReadyH.cons (o := ⟨some 8, _, _, _, _, _⟩) rfl (fun K hK => ?_) AllReadyH.nil
            rw [if_pos (by rfl)]
            go_simp
            have bx : Below X12.heap.size X12 (X12.alloc (.cells #[(.bool false), (.int .i64 0), (.int .i8 0), (.int .i64 0), (.string ⟨#[]⟩), (.string ⟨#[]⟩), (.slice none 0 0)] 51)) := (Below.refl _ _).alloc (Nat.le_refl _) _
            have ho := OutB.new t hbl.size #[.bool false, .int .i64 0, .int .i8 0, .int .i64 0, .string ⟨#[]⟩, .string ⟨#[]⟩, .slice none 0 0] 51
            obtain ⟨g16, hg16⟩ : ∃ g, g = X12.heap.size := ⟨_, rfl⟩
            rw [← hg16] at ho ⊢
            clear hg16
            generalize X12.alloc (.cells #[(.bool false), (.int .i64 0), (.int .i8 0), (.int .i64 0), (.string ⟨#[]⟩), (.string ⟨#[]⟩), (.slice none 0 0)] 51) = X16 at bx ho ⊢
            replace t := t.under bx
            replace hbl := hbl.trans (bx.mono hbl.size)
            clear bx
            refine hK.out _ _ (HA.out.2.1.keep (hbl.block _ HA.out.1)) (fun _ => ?_)
            clear hK K; (try simp only [Act.put, sI, sZ, sS])
            refine wpAnyH_ready (rs := [17]) (by kernel_rfl) (by simp) ?_
            refine AllReadyH.cons (o := ⟨none, _, _, _, _, _⟩) rfl (fun K hK => ?_) AllReadyH.nil
            rw [if_pos (by rfl)]
            have q0 := cell_of_row (i := 0) ho.1 rfl
            have f0 := free_of_row (i := 0) ho.1
            have q1 := cell_of_row (i := 1) ho.1 rfl
            have f1 := free_of_row (i := 1) ho.1
            have q2 := cell_of_row (i := 2) ho.1 rfl
            have f2 := free_of_row (i := 2) ho.1
            have q3 := cell_of_row (i := 3) ho.1 rfl
            have f3 := free_of_row (i := 3) ho.1
            have q4 := cell_of_row (i := 4) ho.1 rfl
            have f4 := free_of_row (i := 4) ho.1
            have q5 := cell_of_row (i := 5) ho.1 rfl
            have f5 := free_of_row (i := 5) ho.1
            have q6 := cell_of_row (i := 6) ho.1 rfl
            have f6 := free_of_row (i := 6) ho.1
            go_simp
            clear q0 f0 q1 f1 q2 f2 q3 f3 q4 f4 q5 f5 q6 f6
            obtain ⟨s7, m7⟩ := set_seven (.bool b1) (.int .i64 m1) (.int .i8 0) (.int .i64 0) (.string ⟨#[]⟩) (.string ⟨#[]⟩) (.slice none 0 0) ho.1
            generalize ((((((X16.setCell ⟨g16, 0, none⟩ (.bool b1)).setCell ⟨g16, 1, none⟩ (.int .i64 m1)).setCell ⟨g16, 2, none⟩ (.int .i8 0)).setCell ⟨g16, 3, none⟩ (.int .i64 0)).setCell ⟨g16, 4, none⟩ (.string ⟨#[]⟩)).setCell ⟨g16, 5, none⟩ (.string ⟨#[]⟩)).setCell ⟨g16, 6, none⟩ (.slice none 0 0) = X17 at s7 m7 ⊢
            replace t := t.write ho m7
            have hbm := m7.below hbl.size (fun k e => by rw [e]; exact ho.2.1)
            replace hbl := hbl.trans hbm
            replace ho := ho.self m7 s7
            clear m7 s7 hbm
            refine hK.out _ _ (HA.out.2.1.keep (hbl.block _ HA.out.1)) (fun _ => ?_)
            clear hK K; (try simp only [Act.put, sI, sZ, sS])
            refine wpAnyH_take (i := 18) (oi := ⟨some 9, _, _, _, _, _⟩) (v := ?_) rfl (by kernel_rfl) (by kernel_rfl) (by kernel_rfl) (fun _ _ _ h => h) (Or.inl ⟨by kernel_rfl, ?_⟩) (by assumption) ?_; rotate_left; (intro X hX; (try dsimp only at hX); obtain ⟨r0, r1⟩ := hX; go_simp; first | done | with_reducible rfl); (try simp only [Act.put, sI, sZ, sS])
            refine wpAnyH_done (by kernel_rfl) ?_ _
            have HF := Lib.hid (And.intro t (And.intro hbl (And.intro ho (And.intro hv1 hcs1))))
            clear t hbl ho hv1 hcs1
            go_wp2_with fail
            go_meet
            exact ⟨g16, b1, m1, E1, s1, rfl, rfl, HF⟩

          · rw [if_pos (by rfl)]
            go_simp
            have bx : Below X11.heap.size X11 (X11.alloc (.cells #[(.bool false), (.int .i64 0), (.int .i8 0), (.int .i64 0), (.string ⟨#[]⟩), (.string ⟨#[]⟩), (.slice none 0 0)] 51)) := (Below.refl _ _).alloc (Nat.le_refl _) _
            have ho := OutB.new t hbl.size #[.bool false, .int .i64 0, .int .i8 0, .int .i64 0, .string ⟨#[]⟩, .string ⟨#[]⟩, .slice none 0 0] 51
            obtain ⟨g16, hg16⟩ : ∃ g, g = X11.heap.size := ⟨_, rfl⟩
            rw [← hg16] at ho ⊢
            clear hg16
            generalize X11.alloc (.cells #[(.bool false), (.int .i64 0), (.int .i8 0), (.int .i64 0), (.string ⟨#[]⟩), (.string ⟨#[]⟩), (.slice none 0 0)] 51) = X16 at bx ho ⊢
            replace t := t.under bx
            replace hbl := hbl.trans (bx.mono hbl.size)
            replace hwr : WRow (fun b => b < X16.heap.size ∧ ¬ s.FP w.heap.size b) X16 A11 a.L.length cap11 (a.L.map wordOf) := hwr.keep (fun b hb => bx.block b hb.1) (fun b hb => ⟨Nat.lt_of_lt_of_le hb.1 bx.size, hb.2⟩)
            clear bx
            refine hK.out _ _ (HA.out.2.1.keep (hbl.block _ HA.out.1)) (fun _ => ?_)
            clear hK K; (try simp only [Act.put, sI, sZ, sS])
            refine wpAnyH_ready (rs := [12]) (by kernel_rfl) (by simp) ?_
            refine AllReadyH.cons (o := ⟨some 34, _, _, _, _, _⟩) rfl (fun K hK => ?_) AllReadyH.nil
            rw [if_pos (by rfl)]
            go_simp
            refine (hMake_two X16 t hbl.size a.k (a.L.map wordOf) A11 a.L.length cap11 _ hwr (fun _ h => h) (by have := HA.out.2.2.2; omega) (HSP.out.below hbl HSP.out.lt)).mono ?_
            rintro e X12 ⟨b1, m1, E1, s1, rfl, hv1, hm, hok, hcs1⟩
            have hba := hm.above t.hat hbl.size
            replace ho := ho.hmove hm
            replace t := t.hmove hm hok
            replace hbl := hbl.trans hba
            clear hba hwr hm hok
            refine hK.out _ _ (HA.out.2.1.keep (hbl.block _ HA.out.1)) (fun _ => ?_)
            clear hK K; (try simp only [Act.put, sI, sZ, sS])
            refine wpAnyH_take (i := 13) (oi := ⟨some 21, _, _, _, _, _⟩) (v := ?_) rfl (by kernel_rfl) (by kernel_rfl) (by kernel_rfl) (fun _ _ _ h => h) (Or.inl ⟨by kernel_rfl, ?_⟩) (by assumption) ?_; rotate_left; (intro X hX; (try dsimp only at hX); obtain ⟨r0, r1⟩ := hX; go_simp; first | done | with_reducible rfl); (try simp only [Act.put, sI, sZ, sS])
            refine wpAnyH_take (i := 14) (oi := ⟨some 35, _, _, _, _, _⟩) (v := ?_) rfl (by kernel_rfl) (by kernel_rfl) (by kernel_rfl) (fun _ _ _ h => h) (Or.inl ⟨by kernel_rfl, ?_⟩) (by assumption) ?_; rotate_left; (intro X hX; (try dsimp only at hX); obtain ⟨r0, r1⟩ := hX; go_simp; first | done | with_reducible rfl); (try simp only [Act.put, sI, sZ, sS])
            refine wpAnyH_take (i := 15) (oi := ⟨some 36, _, _, _, _, _⟩) (v := ?_) rfl (by kernel_rfl) (by kernel_rfl) (by kernel_rfl) (fun _ _ _ h => h) (Or.inl ⟨by kernel_rfl, ?_⟩) (by assumption) ?_; rotate_left; (intro X hX; (try dsimp only at hX); obtain ⟨r0, r1⟩ := hX; go_simp; first | done | with_reducible rfl); (try simp only [Act.put, sI, sZ, sS])
            refine wpAnyH_ready (rs := [17]) (by kernel_rfl) (by simp) ?_
            refine AllReadyH.cons (o := ⟨none, _, _, _, _, _⟩) rfl (fun K hK => ?_) AllReadyH.nil
            rw [if_pos (by rfl)]
            have q0 := cell_of_row (i := 0) ho.1 rfl
            have f0 := free_of_row (i := 0) ho.1
            have q1 := cell_of_row (i := 1) ho.1 rfl
            have f1 := free_of_row (i := 1) ho.1
            have q2 := cell_of_row (i := 2) ho.1 rfl
            have f2 := free_of_row (i := 2) ho.1
            have q3 := cell_of_row (i := 3) ho.1 rfl
            have f3 := free_of_row (i := 3) ho.1
            have q4 := cell_of_row (i := 4) ho.1 rfl
            have f4 := free_of_row (i := 4) ho.1
            have q5 := cell_of_row (i := 5) ho.1 rfl
            have f5 := free_of_row (i := 5) ho.1
            have q6 := cell_of_row (i := 6) ho.1 rfl
            have f6 := free_of_row (i := 6) ho.1
            go_simp
            clear q0 f0 q1 f1 q2 f2 q3 f3 q4 f4 q5 f5 q6 f6
            obtain ⟨s7, m7⟩ := set_seven (.bool b1) (.int .i64 m1) (.int .i8 0) (.int .i64 0) (.string ⟨#[]⟩) (.string ⟨#[]⟩) (.slice none 0 0) ho.1
            generalize ((((((X12.setCell ⟨g16, 0, none⟩ (.bool b1)).setCell ⟨g16, 1, none⟩ (.int .i64 m1)).setCell ⟨g16, 2, none⟩ (.int .i8 0)).setCell ⟨g16, 3, none⟩ (.int .i64 0)).setCell ⟨g16, 4, none⟩ (.string ⟨#[]⟩)).setCell ⟨g16, 5, none⟩ (.string ⟨#[]⟩)).setCell ⟨g16, 6, none⟩ (.slice none 0 0) = X17 at s7 m7 ⊢
            replace t := t.write ho m7
            have hbm := m7.below hbl.size (fun k e => by rw [e]; exact ho.2.1)
            replace hbl := hbl.trans hbm
            replace ho := ho.self m7 s7
            clear m7 s7 hbm
            refine hK.out _ _ (HA.out.2.1.keep (hbl.block _ HA.out.1)) (fun _ => ?_)
            clear hK K; (try simp only [Act.put, sI, sZ, sS])
            refine wpAnyH_take (i := 18) (oi := ⟨some 9, _, _, _, _, _⟩) (v := ?_) rfl (by kernel_rfl) (by kernel_rfl) (by kernel_rfl) (fun _ _ _ h => h) (Or.inl ⟨by kernel_rfl, ?_⟩) (by assumption) ?_; rotate_left; (intro X hX; (try dsimp only at hX); obtain ⟨r0, r1⟩ := hX; go_simp; first | done | with_reducible rfl); (try simp only [Act.put, sI, sZ, sS])
            refine wpAnyH_done (by kernel_rfl) ?_ _
            have HF := Lib.hid (And.intro t (And.intro hbl (And.intro ho (And.intro hv1 hcs1))))
            clear t hbl ho hv1 hcs1
            go_wp2_with fail
            go_meet
            exact ⟨g16, b1, m1, E1, s1, rfl, rfl, HF⟩


        · rw [if_pos (by rfl)]
          go_simp
          have bx : Below D.heap.size D (D.alloc (.cells #[(.bool false), (.int .i64 0), (.int .i8 0), (.int .i64 0), (.string ⟨#[]⟩), (.string ⟨#[]⟩), (.slice none 0 0)] 51)) := (Below.refl _ _).alloc (Nat.le_refl _) _
          have ho := OutB.new t hbl.size #[.bool false, .int .i64 0, .int .i8 0, .int .i64 0, .string ⟨#[]⟩, .string ⟨#[]⟩, .slice none 0 0] 51
          obtain ⟨g16, hg16⟩ : ∃ g, g = D.heap.size := ⟨_, rfl⟩
          rw [← hg16] at ho ⊢
          clear hg16
          generalize D.alloc (.cells #[(.bool false), (.int .i64 0), (.int .i8 0), (.int .i64 0), (.string ⟨#[]⟩), (.string ⟨#[]⟩), (.slice none 0 0)] 51) = X16 at bx ho ⊢
          replace t := t.under bx
          replace hbl := hbl.trans (bx.mono hbl.size)
          clear bx
          refine hK.out _ _ (HA.out.2.1.keep (hbl.block _ HA.out.1)) (fun _ => ?_)
          clear hK K; (try simp only [Act.put, sI, sZ, sS])
          refine wpAnyH_ready (rs := [11]) (by kernel_rfl) (by simp) ?_
          refine AllReadyH.cons (o := ⟨some 33, _, _, _, _, _⟩) rfl (fun K hK => ?_) AllReadyH.nil
          rw [if_pos (by rfl)]
          go_simp
          refine (words5_any (fun b => b < w.heap.size) LA a.L.length Lc a.L X16 (HA.out.2.2.1.keep (fun b hb' => hbl.block b hb') (fun _ h => h)) (fun b hb' => Nat.lt_of_lt_of_le hb' hbl.size) (by have := HA.out.2.2.2; omega)).mono ?_
          rintro e X11 ⟨A11, cap11, rfl, hwr0, b11⟩
          have hwr : WRow (fun b => b < X11.heap.size ∧ ¬ s.FP w.heap.size b) X11 A11 a.L.length cap11 (a.L.map wordOf) := hwr0.keep (fun _ _ => rfl) (fun b hb => by
            rcases hb with hb | ⟨hb1, hb2⟩
            · exact ⟨Nat.lt_of_lt_of_le hb (Nat.le_trans hbl.size b11.size), fun hf => by have := t.hat.fp_ge hf; omega⟩
            · exact ⟨hb2, (t.hat.fresh hb1).1.not_fp (t.hat.fresh hb1).2⟩)
          clear hwr0
          replace t := t.under b11
          replace hbl := hbl.trans (b11.mono hbl.size)
          replace ho := ho.under b11
          clear b11
          refine hK.out _ _ (HA.out.2.1.keep (hbl.block _ HA.out.1)) (fun _ => ?_)
          clear hK K; (try simp only [Act.put, sI, sZ, sS])
          refine wpAnyH_ready (rs := [12]) (by kernel_rfl) (by simp) ?_
          refine AllReadyH.cons (o := ⟨some 34, _, _, _, _, _⟩) rfl (fun K hK => ?_) AllReadyH.nil
          rw [if_pos (by rfl)]
          go_simp
          refine (hMake_two X11 t hbl.size a.k (a.L.map wordOf) A11 a.L.length cap11 _ hwr (fun _ h => h) (by have := HA.out.2.2.2; omega) (HSP.out.below hbl HSP.out.lt)).mono ?_
          rintro e X12 ⟨b1, m1, E1, s1, rfl, hv1, hm, hok, hcs1⟩
          have hba := hm.above t.hat hbl.size
          replace ho := ho.hmove hm
          replace t := t.hmove hm hok
          replace hbl := hbl.trans hba
          clear hba hwr hm hok
          refine hK.out _ _ (HA.out.2.1.keep (hbl.block _ HA.out.1)) (fun _ => ?_)
          clear hK K; (try simp only [Act.put, sI, sZ, sS])
          refine wpAnyH_take (i := 13) (oi := ⟨some 21, _, _, _, _, _⟩) (v := ?_) rfl (by kernel_rfl) (by kernel_rfl) (by kernel_rfl) (fun _ _ _ h => h) (Or.inl ⟨by kernel_rfl, ?_⟩) (by assumption) ?_; rotate_left; (intro X hX; (try dsimp only at hX); obtain ⟨r0, r1⟩ := hX; go_simp; first | done | with_reducible rfl); (try simp only [Act.put, sI, sZ, sS])
          refine wpAnyH_take (i := 14) (oi := ⟨some 35, _, _, _, _, _⟩) (v := ?_) rfl (by kernel_rfl) (by kernel_rfl) (by kernel_rfl) (fun _ _ _ h => h) (Or.inl ⟨by kernel_rfl, ?_⟩) (by assumption) ?_; rotate_left; (intro X hX; (try dsimp only at hX); obtain ⟨r0, r1⟩ := hX; go_simp; first | done | with_reducible rfl); (try simp only [Act.put, sI, sZ, sS])
          refine wpAnyH_take (i := 15) (oi := ⟨some 36, _, _, _, _, _⟩) (v := ?_) rfl (by kernel_rfl) (by kernel_rfl) (by kernel_rfl) (fun _ _ _ h => h) (Or.inl ⟨by kernel_rfl, ?_⟩) (by assumption) ?_; rotate_left; (intro X hX; (try dsimp only at hX); obtain ⟨r0, r1⟩ := hX; go_simp; first | done | with_reducible rfl); (try simp only [Act.put, sI, sZ, sS])
          refine wpAnyH_ready (rs := [17]) (by kernel_rfl) (by simp) ?_
          refine AllReadyH.cons (o := ⟨none, _, _, _, _, _⟩) rfl (fun K hK => ?_) AllReadyH.nil
          rw [if_pos (by rfl)]
          have q0 := cell_of_row (i := 0) ho.1 rfl
          have f0 := free_of_row (i := 0) ho.1
          have q1 := cell_of_row (i := 1) ho.1 rfl
          have f1 := free_of_row (i := 1) ho.1
          have q2 := cell_of_row (i := 2) ho.1 rfl
          have f2 := free_of_row (i := 2) ho.1
          have q3 := cell_of_row (i := 3) ho.1 rfl
          have f3 := free_of_row (i := 3) ho.1
          have q4 := cell_of_row (i := 4) ho.1 rfl
          have f4 := free_of_row (i := 4) ho.1
          have q5 := cell_of_row (i := 5) ho.1 rfl
          have f5 := free_of_row (i := 5) ho.1
          have q6 := cell_of_row (i := 6) ho.1 rfl
          have f6 := free_of_row (i := 6) ho.1
          go_simp
          clear q0 f0 q1 f1 q2 f2 q3 f3 q4 f4 q5 f5 q6 f6
          obtain ⟨s7, m7⟩ := set_seven (.bool b1) (.int .i64 m1) (.int .i8 0) (.int .i64 0) (.string ⟨#[]⟩) (.string ⟨#[]⟩) (.slice none 0 0) ho.1
          generalize ((((((X12.setCell ⟨g16, 0, none⟩ (.bool b1)).setCell ⟨g16, 1, none⟩ (.int .i64 m1)).setCell ⟨g16, 2, none⟩ (.int .i8 0)).setCell ⟨g16, 3, none⟩ (.int .i64 0)).setCell ⟨g16, 4, none⟩ (.string ⟨#[]⟩)).setCell ⟨g16, 5, none⟩ (.string ⟨#[]⟩)).setCell ⟨g16, 6, none⟩ (.slice none 0 0) = X17 at s7 m7 ⊢
          replace t := t.write ho m7
          have hbm := m7.below hbl.size (fun k e => by rw [e]; exact ho.2.1)
          replace hbl := hbl.trans hbm
          replace ho := ho.self m7 s7
          clear m7 s7 hbm
          refine hK.out _ _ (HA.out.2.1.keep (hbl.block _ HA.out.1)) (fun _ => ?_)
          clear hK K; (try simp only [Act.put, sI, sZ, sS])
          refine wpAnyH_take (i := 18) (oi := ⟨some 9, _, _, _, _, _⟩) (v := ?_) rfl (by kernel_rfl) (by kernel_rfl) (by kernel_rfl) (fun _ _ _ h => h) (Or.inl ⟨by kernel_rfl, ?_⟩) (by assumption) ?_; rotate_left; (intro X hX; (try dsimp only at hX); obtain ⟨r0, r1⟩ := hX; go_simp; first | done | with_reducible rfl); (try simp only [Act.put, sI, sZ, sS])
          refine wpAnyH_done (by kernel_rfl) ?_ _
          have HF := Lib.hid (And.intro t (And.intro hbl (And.intro ho (And.intro hv1 hcs1))))
          clear t hbl ho hv1 hcs1
          go_wp2_with fail
          go_meet
          exact ⟨g16, b1, m1, E1, s1, rfl, rfl, HF⟩
      case rest =>
        clear HT HB
        obtain ⟨g1, b1, m1, E1, s1, rfl, rfl, HF1⟩ := hcut
        have HT := Lib.hid HF1.out.1
        have HB := Lib.hid HF1.out.2.1
        have HO1 := Lib.hid HF1.out.2.2.1
        have HV1 := Lib.hid HF1.out.2.2.2
        clear HF1
        go_upto_region 8 with fail
        go_cut [10, 11] (fun c10 c11 X => ∃ g2 b2 m2 E2 CS2 G2, c10 = .pointer (some ⟨g2, 0, none⟩) ∧ c11 = .int .i64 E2 ∧ Hid (TwoAt w.heap.size X w.heap.size rb s1 (csN a.k s.cs (a.L.map wordOf)) CS2 G2 ∧ Below w.heap.size w X ∧ OutB w.heap.size X w.heap.size rb s1 CS2 G2 g2 (.cells #[.bool b2, .int .i64 m2, .int .i8 0, .int .i64 0, .string ⟨#[]⟩, .string ⟨#[]⟩, .slice none 0 0] 51 (0, 0)) ∧ OutB w.heap.size X w.heap.size rb s1 CS2 G2 g1 (.cells #[.bool b1, .int .i64 m1, .int .i8 0, .int .i64 0, .string ⟨#[]⟩, .string ⟨#[]⟩, .slice none 0 0] 51 (0, 0)) ∧ AnsW a.k s.cs (a.L.map wordOf) b2 m2 E2))
        case first =>
          refine wp_region_held (S := fun V => V.cell? (ad.add (j * 2)) = some (.int .i8 a.k) ∧ V.cell? ⟨(ad.add (j * 2)).block, (ad.add (j * 2)).off + 1, none⟩ = some (.slice LA a.L.length Lc)) (by kernel_rfl) ?_
          show wpAnyH _ _ _ _ _ _ _ _ wc.drew
          have hdr : Below wc.heap.size wc wc.drew := ⟨rfl, rfl, rfl, Nat.le_refl _, fun _ _ => rfl⟩
          have hbl := HB.out.trans (hdr.mono HB.out.size)
          have t := HT.out.under hdr
          have ho1 := HO1.out.under hdr
          have hS0 := HA.out.2.1.keep (hbl.block _ HA.out.1)
          generalize wc.drew = D at t hbl hS0 ho1 ⊢
          clear hdr
          replace hS0 : (fun V => V.cell? (ad.add (j * 2)) = some (.int .i8 a.k) ∧ V.cell? ⟨(ad.add (j * 2)).block, (ad.add (j * 2)).off + 1, none⟩ = some (.slice LA a.L.length Lc)) D := hS0
          refine wpAnyH_take (i := 0) (oi := ⟨some 38, _, _, _, _, _⟩) (v := ?_) rfl (by kernel_rfl) (by kernel_rfl) (by kernel_rfl) (fun _ _ _ h => h) (Or.inl ⟨by kernel_rfl, ?_⟩) (by assumption) ?_; rotate_left; (intro X hX; (try dsimp only at hX); obtain ⟨r0, r1⟩ := hX; go_simp; first | done | with_reducible rfl); (try simp only [Act.put, sI, sZ, sS])
          refine wpAnyH_take (i := 1) (oi := ⟨some 39, _, _, _, _, _⟩) (v := ?_) rfl (by kernel_rfl) (by kernel_rfl) (by kernel_rfl) (fun _ _ _ h => h) (Or.inl ⟨by kernel_rfl, ?_⟩) (by assumption) ?_; rotate_left; (intro X hX; (try dsimp only at hX); obtain ⟨r0, r1⟩ := hX; go_simp; first | done | with_reducible rfl); (try simp only [Act.put, sI, sZ, sS])
          refine wpAnyH_take (i := 2) (oi := ⟨some 40, _, _, _, _, _⟩) (v := ?_) rfl (by kernel_rfl) (by kernel_rfl) (by kernel_rfl) (fun _ _ _ h => h) (Or.inl ⟨by kernel_rfl, ?_⟩) (by assumption) ?_; rotate_left; (intro X hX; (try dsimp only at hX); obtain ⟨r0, r1⟩ := hX; go_simp; first | done | with_reducible rfl); (try simp only [Act.put, sI, sZ, sS])
          refine wpAnyH_take (i := 3) (oi := ⟨some 41, _, _, _, _, _⟩) (v := ?_) rfl (by kernel_rfl) (by kernel_rfl) (by kernel_rfl) (fun _ _ _ h => h) (Or.inl ⟨by kernel_rfl, ?_⟩) (by assumption) ?_; rotate_left; (intro X hX; (try dsimp only at hX); obtain ⟨r0, r1⟩ := hX; go_simp; first | done | with_reducible rfl); (try simp only [Act.put, sI, sZ, sS])
          refine wpAnyH_take (i := 4) (oi := ⟨some 42, _, _, _, _, _⟩) (v := ?_) rfl (by kernel_rfl) (by kernel_rfl) (by kernel_rfl) (fun _ _ _ h => h) (Or.inl ⟨by kernel_rfl, ?_⟩) (by assumption) ?_; rotate_left; (intro X hX; (try dsimp only at hX); obtain ⟨r0, r1⟩ := hX; go_simp; first | done | with_reducible rfl); (try simp only [Act.put, sI, sZ, sS])
          refine wpAnyH_take (i := 5) (oi := ⟨some 43, _, _, _, _, _⟩) (v := ?_) rfl (by kernel_rfl) (by kernel_rfl) (by kernel_rfl) (fun _ _ _ h => h) (Or.inl ⟨by kernel_rfl, ?_⟩) (by assumption) ?_; rotate_left; (intro X hX; (try dsimp only at hX); obtain ⟨r0, r1⟩ := hX; go_simp; first | done | with_reducible rfl); (try simp only [Act.put, sI, sZ, sS])
          refine wpAnyH_take (i := 6) (oi := ⟨some 44, _, _, _, _, _⟩) (v := ?_) rfl (by kernel_rfl) (by kernel_rfl) (by kernel_rfl) (fun _ _ _ h => h) (Or.inl ⟨by kernel_rfl, ?_⟩) (by assumption) ?_; rotate_left; (intro X hX; (try dsimp only at hX); obtain ⟨r0, r1⟩ := hX; go_simp; first | done | with_reducible rfl); (try simp only [Act.put, sI, sZ, sS])
          refine wpAnyH_take (i := 7) (oi := ⟨some 45, _, _, _, _, _⟩) (v := ?_) rfl (by kernel_rfl) (by kernel_rfl) (by kernel_rfl) (fun _ _ _ h => h) (Or.inl ⟨by kernel_rfl, ?_⟩) (by assumption) ?_; rotate_left; (intro X hX; (try dsimp only at hX); obtain ⟨r0, r1⟩ := hX; go_simp; first | done | with_reducible rfl); (try simp only [Act.put, sI, sZ, sS])
          refine wpAnyH_take (i := 8) (oi := ⟨some 46, _, _, _, _, _⟩) (v := ?_) rfl (by kernel_rfl) (by kernel_rfl) (by kernel_rfl) (fun _ _ _ h => h) (Or.inl ⟨by kernel_rfl, ?_⟩) (by assumption) ?_; rotate_left; (intro X hX; (try dsimp only at hX); obtain ⟨r0, r1⟩ := hX; go_simp; first | done | with_reducible rfl); (try simp only [Act.put, sI, sZ, sS])
          refine wpAnyH_take (i := 9) (oi := ⟨some 47, _, _, _, _, _⟩) (v := ?_) rfl (by kernel_rfl) (by kernel_rfl) (by kernel_rfl) (fun _ _ _ h => h) (Or.inl ⟨by kernel_rfl, ?_⟩) (by assumption) ?_; rotate_left; (intro X hX; (try dsimp only at hX); obtain ⟨r0, r1⟩ := hX; go_simp; first | done | with_reducible rfl); (try simp only [Act.put, sI, sZ, sS])
          refine wpAnyH_take (i := 10) (oi := ⟨some 48, _, _, _, _, _⟩) (v := ?_) rfl (by kernel_rfl) (by kernel_rfl) (by kernel_rfl) (fun _ _ _ h => h) (Or.inl ⟨by kernel_rfl, ?_⟩) (by assumption) ?_; rotate_left; (intro X hX; (try dsimp only at hX); obtain ⟨r0, r1⟩ := hX; go_simp; first | done | with_reducible rfl); (try simp only [Act.put, sI, sZ, sS])
          clear hS0
          refine wpAnyH_ready (rs := [11, 16]) (by kernel_rfl) (by simp) ?_
          refine AllReadyH.cons (o := ⟨some 49, _, _, _, _, _⟩) rfl (fun K hK => ?_) (AllReadyH.cons (o := ⟨some 10, _, _, _, _, _⟩) rfl (fun K hK => ?_) AllReadyH.nil)
          · rw [if_pos (by rfl)]
            go_simp
            refine (words5_any (fun b => b < w.heap.size) LA a.L.length Lc a.L D (HA.out.2.2.1.keep (fun b hb' => hbl.block b hb') (fun _ h => h)) (fun b hb' => Nat.lt_of_lt_of_le hb' hbl.size) (by have := HA.out.2.2.2; omega)).mono ?_
            rintro e X11 ⟨A11, cap11, rfl, hwr0, b11⟩
            have hwr : WRow (fun b => b < X11.heap.size ∧ ¬ s1.FP w.heap.size b) X11 A11 a.L.length cap11 (a.L.map wordOf) := hwr0.keep (fun _ _ => rfl) (fun b hb => by
              rcases hb with hb | ⟨hb1, hb2⟩
              · exact ⟨Nat.lt_of_lt_of_le hb (Nat.le_trans hbl.size b11.size), fun hf => by have := t.hat.fp_ge hf; omega⟩
              · exact ⟨hb2, (t.hat.fresh hb1).1.not_fp (t.hat.fresh hb1).2⟩)
            clear hwr0
            replace t := t.under b11
            replace hbl := hbl.trans (b11.mono hbl.size)
            replace ho1 := ho1.under b11
            clear b11
            refine hK.out _ _ (HA.out.2.1.keep (hbl.block _ HA.out.1)) (fun _ => ?_)
            clear hK K; (try simp only [Act.put, sI, sZ, sS])
            refine wpAnyH_ready (rs := [12, 16]) (by kernel_rfl) (by simp) ?_
            refine AllReadyH.cons (o := ⟨some 50, _, _, _, _, _⟩) rfl (fun K hK => ?_) (AllReadyH.cons (o := ⟨some 10, _, _, _, _, _⟩) rfl (fun K hK => ?_) AllReadyH.nil)
            · rw [if_pos (by rfl)]
              go_simp
              refine (rMake_two X11 t HG.out a.k (a.L.map wordOf) A11 a.L.length cap11 (hwr.keep (fun _ _ => rfl) (fun _ h => h.1)) (by have := HA.out.2.2.2; omega)).mono ?_
              rintro e X12 ⟨b2, m2, E2, CS2, G2, rfl, hv2, t2, hm, hf⟩
              have hba := hm.below hbl.size (fun i hi => (t.rat.fp_lt hi).1)
              replace ho1 := ho1.rmove t hm hf
              replace t := t2
              replace hbl := hbl.trans hba
              clear hba hwr hm hf t2
              refine hK.out _ _ (HA.out.2.1.keep (hbl.block _ HA.out.1)) (fun _ => ?_)
              clear hK K; (try simp only [Act.put, sI, sZ, sS])
              refine wpAnyH_take (i := 13) (oi := ⟨some 37, _, _, _, _, _⟩) (v := ?_) rfl (by kernel_rfl) (by kernel_rfl) (by kernel_rfl) (fun _ _ _ h => h) (Or.inl ⟨by kernel_rfl, ?_⟩) (by assumption) ?_; rotate_left; (intro X hX; (try dsimp only at hX); obtain ⟨r0, r1⟩ := hX; go_simp; first | done | with_reducible rfl); (try simp only [Act.put, sI, sZ, sS])
              refine wpAnyH_take (i := 14) (oi := ⟨some 51, _, _, _, _, _⟩) (v := ?_) rfl (by kernel_rfl) (by kernel_rfl) (by kernel_rfl) (fun _ _ _ h => h) (Or.inl ⟨by kernel_rfl, ?_⟩) (by assumption) ?_; rotate_left; (intro X hX; (try dsimp only at hX); obtain ⟨r0, r1⟩ := hX; go_simp; first | done | with_reducible rfl); (try simp only [Act.put, sI, sZ, sS])
              refine wpAnyH_take (i := 15) (oi := ⟨some 52, _, _, _, _, _⟩) (v := ?_) rfl (by kernel_rfl) (by kernel_rfl) (by kernel_rfl) (fun _ _ _ h => h) (Or.inl ⟨by kernel_rfl, ?_⟩) (by assumption) ?_; rotate_left; (intro X hX; (try dsimp only at hX); obtain ⟨r0, r1⟩ := hX; go_simp; first | done | with_reducible rfl); (try simp only [Act.put, sI, sZ, sS])
              refine wpAnyH_ready (rs := [16]) (by kernel_rfl) (by simp) ?_
              refine AllReadyH.cons (o := ⟨some 10, _, _, _, _, _⟩) rfl (fun K hK => ?_) AllReadyH.nil
              rw [if_pos (by rfl)]
              go_simp
              have bx : Below X12.heap.size X12 (X12.alloc (.cells #[(.bool false), (.int .i64 0), (.int .i8 0), (.int .i64 0), (.string ⟨#[]⟩), (.string ⟨#[]⟩), (.slice none 0 0)] 51)) := (Below.refl _ _).alloc (Nat.le_refl _) _
              have ho := OutB.new t hbl.size #[.bool false, .int .i64 0, .int .i8 0, .int .i64 0, .string ⟨#[]⟩, .string ⟨#[]⟩, .slice none 0 0] 51
              obtain ⟨g16, hg16⟩ : ∃ g, g = X12.heap.size := ⟨_, rfl⟩
              rw [← hg16] at ho ⊢
              have hne16 : g1 ≠ g16 := fun e => by have := heap_lt ho1.1; omega
              replace ho1 := ho1.under bx
              clear hg16
              generalize X12.alloc (.cells #[(.bool false), (.int .i64 0), (.int .i8 0), (.int .i64 0), (.string ⟨#[]⟩), (.string ⟨#[]⟩), (.slice none 0 0)] 51) = X16 at bx ho ho1 ⊢
              replace t := t.under bx
              replace hbl := hbl.trans (bx.mono hbl.size)
              clear bx
              refine hK.out _ _ (HA.out.2.1.keep (hbl.block _ HA.out.1)) (fun _ => ?_)
              clear hK K; (try simp only [Act.put, sI, sZ, sS])
              refine wpAnyH_ready (rs := [17]) (by kernel_rfl) (by simp) ?_
              refine AllReadyH.cons (o := ⟨none, _, _, _, _, _⟩) rfl (fun K hK => ?_) AllReadyH.nil
              rw [if_pos (by rfl)]
              have q0 := cell_of_row (i := 0) ho.1 rfl
              have f0 := free_of_row (i := 0) ho.1
              have q1 := cell_of_row (i := 1) ho.1 rfl
              have f1 := free_of_row (i := 1) ho.1
              have q2 := cell_of_row (i := 2) ho.1 rfl
              have f2 := free_of_row (i := 2) ho.1
              have q3 := cell_of_row (i := 3) ho.1 rfl
              have f3 := free_of_row (i := 3) ho.1
              have q4 := cell_of_row (i := 4) ho.1 rfl
              have f4 := free_of_row (i := 4) ho.1
              have q5 := cell_of_row (i := 5) ho.1 rfl
              have f5 := free_of_row (i := 5) ho.1
              have q6 := cell_of_row (i := 6) ho.1 rfl
              have f6 := free_of_row (i := 6) ho.1
              go_simp
              clear q0 f0 q1 f1 q2 f2 q3 f3 q4 f4 q5 f5 q6 f6
              obtain ⟨s7, m7⟩ := set_seven (.bool b2) (.int .i64 m2) (.int .i8 0) (.int .i64 0) (.string ⟨#[]⟩) (.string ⟨#[]⟩) (.slice none 0 0) ho.1
              generalize ((((((X16.setCell ⟨g16, 0, none⟩ (.bool b2)).setCell ⟨g16, 1, none⟩ (.int .i64 m2)).setCell ⟨g16, 2, none⟩ (.int .i8 0)).setCell ⟨g16, 3, none⟩ (.int .i64 0)).setCell ⟨g16, 4, none⟩ (.string ⟨#[]⟩)).setCell ⟨g16, 5, none⟩ (.string ⟨#[]⟩)).setCell ⟨g16, 6, none⟩ (.slice none 0 0) = X17 at s7 m7 ⊢
              replace ho1 := ho1.other ho hne16 m7
              replace t := t.write ho m7
              have hbm := m7.below hbl.size (fun k e => by rw [e]; exact ho.2.1)
              replace hbl := hbl.trans hbm
              replace ho := ho.self m7 s7
              clear m7 s7 hbm
              refine hK.out _ _ (HA.out.2.1.keep (hbl.block _ HA.out.1)) (fun _ => ?_)
              clear hK K; (try simp only [Act.put, sI, sZ, sS])
              refine wpAnyH_take (i := 18) (oi := ⟨some 11, _, _, _, _, _⟩) (v := ?_) rfl (by kernel_rfl) (by kernel_rfl) (by kernel_rfl) (fun _ _ _ h => h) (Or.inl ⟨by kernel_rfl, ?_⟩) (by assumption) ?_; rotate_left; (intro X hX; (try dsimp only at hX); obtain ⟨r0, r1⟩ := hX; go_simp; first | done | with_reducible rfl); (try simp only [Act.put, sI, sZ, sS])
              refine wpAnyH_done (by kernel_rfl) ?_ _
              have HF := Lib.hid (And.intro t (And.intro hbl (And.intro ho (And.intro ho1 hv2))))
              clear t hbl ho ho1 hv2
              go_wp2_with fail
              go_meet
              exact ⟨g16, b2, m2, E2, CS2, G2, rfl, rfl, HF⟩

            · rw [if_pos (by rfl)]
              go_simp
              have bx : Below X11.heap.size X11 (X11.alloc (.cells #[(.bool false), (.int .i64 0), (.int .i8 0), (.int .i64 0), (.string ⟨#[]⟩), (.string ⟨#[]⟩), (.slice none 0 0)] 51)) := (Below.refl _ _).alloc (Nat.le_refl _) _
              have ho := OutB.new t hbl.size #[.bool false, .int .i64 0, .int .i8 0, .int .i64 0, .string ⟨#[]⟩, .string ⟨#[]⟩, .slice none 0 0] 51
              obtain ⟨g16, hg16⟩ : ∃ g, g = X11.heap.size := ⟨_, rfl⟩
              rw [← hg16] at ho ⊢
              have hne16 : g1 ≠ g16 := fun e => by have := heap_lt ho1.1; omega
              replace ho1 := ho1.under bx
              clear hg16
              generalize X11.alloc (.cells #[(.bool false), (.int .i64 0), (.int .i8 0), (.int .i64 0), (.string ⟨#[]⟩), (.string ⟨#[]⟩), (.slice none 0 0)] 51) = X16 at bx ho ho1 ⊢
              replace t := t.under bx
              replace hbl := hbl.trans (bx.mono hbl.size)
              replace hwr : WRow (fun b => b < X16.heap.size ∧ ¬ s1.FP w.heap.size b) X16 A11 a.L.length cap11 (a.L.map wordOf) := hwr.keep (fun b hb => bx.block b hb.1) (fun b hb => ⟨Nat.lt_of_lt_of_le hb.1 bx.size, hb.2⟩)
              clear bx
              refine hK.out _ _ (HA.out.2.1.keep (hbl.block _ HA.out.1)) (fun _ => ?_)
              clear hK K; (try simp only [Act.put, sI, sZ, sS])
              refine wpAnyH_ready (rs := [12]) (by kernel_rfl) (by simp) ?_
              refine AllReadyH.cons (o := ⟨some 50, _, _, _, _, _⟩) rfl (fun K hK => ?_) AllReadyH.nil
              rw [if_pos (by rfl)]
              go_simp
              refine (rMake_two X16 t HG.out a.k (a.L.map wordOf) A11 a.L.length cap11 (hwr.keep (fun _ _ => rfl) (fun _ h => h.1)) (by have := HA.out.2.2.2; omega)).mono ?_
              rintro e X12 ⟨b2, m2, E2, CS2, G2, rfl, hv2, t2, hm, hf⟩
              have hba := hm.below hbl.size (fun i hi => (t.rat.fp_lt hi).1)
              replace ho := ho.rmove t hm hf
              replace ho1 := ho1.rmove t hm hf
              replace t := t2
              replace hbl := hbl.trans hba
              clear hba hwr hm hf t2
              refine hK.out _ _ (HA.out.2.1.keep (hbl.block _ HA.out.1)) (fun _ => ?_)
              clear hK K; (try simp only [Act.put, sI, sZ, sS])
              refine wpAnyH_take (i := 13) (oi := ⟨some 37, _, _, _, _, _⟩) (v := ?_) rfl (by kernel_rfl) (by kernel_rfl) (by kernel_rfl) (fun _ _ _ h => h) (Or.inl ⟨by kernel_rfl, ?_⟩) (by assumption) ?_; rotate_left; (intro X hX; (try dsimp only at hX); obtain ⟨r0, r1⟩ := hX; go_simp; first | done | with_reducible rfl); (try simp only [Act.put, sI, sZ, sS])
              refine wpAnyH_take (i := 14) (oi := ⟨some 51, _, _, _, _, _⟩) (v := ?_) rfl (by kernel_rfl) (by kernel_rfl) (by kernel_rfl) (fun _ _ _ h => h) (Or.inl ⟨by kernel_rfl, ?_⟩) (by assumption) ?_; rotate_left; (intro X hX; (try dsimp only at hX); obtain ⟨r0, r1⟩ := hX; go_simp; first | done | with_reducible rfl); (try simp only [Act.put, sI, sZ, sS])
              refine wpAnyH_take (i := 15) (oi := ⟨some 52, _, _, _, _, _⟩) (v := ?_) rfl (by kernel_rfl) (by kernel_rfl) (by kernel_rfl) (fun _ _ _ h => h) (Or.inl ⟨by kernel_rfl, ?_⟩) (by assumption) ?_; rotate_left; (intro X hX; (try dsimp only at hX); obtain ⟨r0, r1⟩ := hX; go_simp; first | done | with_reducible rfl); (try simp only [Act.put, sI, sZ, sS])
              refine wpAnyH_ready (rs := [17]) (by kernel_rfl) (by simp) ?_
              refine AllReadyH.cons (o := ⟨none, _, _, _, _, _⟩) rfl (fun K hK => ?_) AllReadyH.nil
              rw [if_pos (by rfl)]
              have q0 := cell_of_row (i := 0) ho.1 rfl
              have f0 := free_of_row (i := 0) ho.1
              have q1 := cell_of_row (i := 1) ho.1 rfl
              have f1 := free_of_row (i := 1) ho.1
              have q2 := cell_of_row (i := 2) ho.1 rfl
              have f2 := free_of_row (i := 2) ho.1
              have q3 := cell_of_row (i := 3) ho.1 rfl
              have f3 := free_of_row (i := 3) ho.1
              have q4 := cell_of_row (i := 4) ho.1 rfl
              have f4 := free_of_row (i := 4) ho.1
              have q5 := cell_of_row (i := 5) ho.1 rfl
              have f5 := free_of_row (i := 5) ho.1
              have q6 := cell_of_row (i := 6) ho.1 rfl
              have f6 := free_of_row (i := 6) ho.1
              go_simp
              clear q0 f0 q1 f1 q2 f2 q3 f3 q4 f4 q5 f5 q6 f6
              obtain ⟨s7, m7⟩ := set_seven (.bool b2) (.int .i64 m2) (.int .i8 0) (.int .i64 0) (.string ⟨#[]⟩) (.string ⟨#[]⟩) (.slice none 0 0) ho.1
              generalize ((((((X12.setCell ⟨g16, 0, none⟩ (.bool b2)).setCell ⟨g16, 1, none⟩ (.int .i64 m2)).setCell ⟨g16, 2, none⟩ (.int .i8 0)).setCell ⟨g16, 3, none⟩ (.int .i64 0)).setCell ⟨g16, 4, none⟩ (.string ⟨#[]⟩)).setCell ⟨g16, 5, none⟩ (.string ⟨#[]⟩)).setCell ⟨g16, 6, none⟩ (.slice none 0 0) = X17 at s7 m7 ⊢
              replace ho1 := ho1.other ho hne16 m7
              replace t := t.write ho m7
              have hbm := m7.below hbl.size (fun k e => by rw [e]; exact ho.2.1)
              replace hbl := hbl.trans hbm
              replace ho := ho.self m7 s7
              clear m7 s7 hbm
              refine hK.out _ _ (HA.out.2.1.keep (hbl.block _ HA.out.1)) (fun _ => ?_)
              clear hK K; (try simp only [Act.put, sI, sZ, sS])
              refine wpAnyH_take (i := 18) (oi := ⟨some 11, _, _, _, _, _⟩) (v := ?_) rfl (by kernel_rfl) (by kernel_rfl) (by kernel_rfl) (fun _ _ _ h => h) (Or.inl ⟨by kernel_rfl, ?_⟩) (by assumption) ?_; rotate_left; (intro X hX; (try dsimp only at hX); obtain ⟨r0, r1⟩ := hX; go_simp; first | done | with_reducible rfl); (try simp only [Act.put, sI, sZ, sS])
              refine wpAnyH_done (by kernel_rfl) ?_ _
              have HF := Lib.hid (And.intro t (And.intro hbl (And.intro ho (And.intro ho1 hv2))))
              clear t hbl ho ho1 hv2
              go_wp2_with fail
              go_meet
              exact ⟨g16, b2, m2, E2, CS2, G2, rfl, rfl, HF⟩


          · rw [if_pos (by rfl)]
            go_simp
            have bx : Below D.heap.size D (D.alloc (.cells #[(.bool false), (.int .i64 0), (.int .i8 0), (.int .i64 0), (.string ⟨#[]⟩), (.string ⟨#[]⟩), (.slice none 0 0)] 51)) := (Below.refl _ _).alloc (Nat.le_refl _) _
            have ho := OutB.new t hbl.size #[.bool false, .int .i64 0, .int .i8 0, .int .i64 0, .string ⟨#[]⟩, .string ⟨#[]⟩, .slice none 0 0] 51
            obtain ⟨g16, hg16⟩ : ∃ g, g = D.heap.size := ⟨_, rfl⟩
            rw [← hg16] at ho ⊢
            have hne16 : g1 ≠ g16 := fun e => by have := heap_lt ho1.1; omega
            replace ho1 := ho1.under bx
            clear hg16
            generalize D.alloc (.cells #[(.bool false), (.int .i64 0), (.int .i8 0), (.int .i64 0), (.string ⟨#[]⟩), (.string ⟨#[]⟩), (.slice none 0 0)] 51) = X16 at bx ho ho1 ⊢
            replace t := t.under bx
            replace hbl := hbl.trans (bx.mono hbl.size)
            clear bx
            refine hK.out _ _ (HA.out.2.1.keep (hbl.block _ HA.out.1)) (fun _ => ?_)
            clear hK K; (try simp only [Act.put, sI, sZ, sS])
            refine wpAnyH_ready (rs := [11]) (by kernel_rfl) (by simp) ?_
            refine AllReadyH.cons (o := ⟨some 49, _, _, _, _, _⟩) rfl (fun K hK => ?_) AllReadyH.nil
            rw [if_pos (by rfl)]
            go_simp
            refine (words5_any (fun b => b < w.heap.size) LA a.L.length Lc a.L X16 (HA.out.2.2.1.keep (fun b hb' => hbl.block b hb') (fun _ h => h)) (fun b hb' => Nat.lt_of_lt_of_le hb' hbl.size) (by have := HA.out.2.2.2; omega)).mono ?_
            rintro e X11 ⟨A11, cap11, rfl, hwr0, b11⟩
            have hwr : WRow (fun b => b < X11.heap.size ∧ ¬ s1.FP w.heap.size b) X11 A11 a.L.length cap11 (a.L.map wordOf) := hwr0.keep (fun _ _ => rfl) (fun b hb => by
              rcases hb with hb | ⟨hb1, hb2⟩
              · exact ⟨Nat.lt_of_lt_of_le hb (Nat.le_trans hbl.size b11.size), fun hf => by have := t.hat.fp_ge hf; omega⟩
              · exact ⟨hb2, (t.hat.fresh hb1).1.not_fp (t.hat.fresh hb1).2⟩)
            clear hwr0
            replace t := t.under b11
            replace hbl := hbl.trans (b11.mono hbl.size)
            replace ho := ho.under b11
            replace ho1 := ho1.under b11
            clear b11
            refine hK.out _ _ (HA.out.2.1.keep (hbl.block _ HA.out.1)) (fun _ => ?_)
            clear hK K; (try simp only [Act.put, sI, sZ, sS])
            refine wpAnyH_ready (rs := [12]) (by kernel_rfl) (by simp) ?_
            refine AllReadyH.cons (o := ⟨some 50, _, _, _, _, _⟩) rfl (fun K hK => ?_) AllReadyH.nil
            rw [if_pos (by rfl)]
            go_simp
            refine (rMake_two X11 t HG.out a.k (a.L.map wordOf) A11 a.L.length cap11 (hwr.keep (fun _ _ => rfl) (fun _ h => h.1)) (by have := HA.out.2.2.2; omega)).mono ?_
            rintro e X12 ⟨b2, m2, E2, CS2, G2, rfl, hv2, t2, hm, hf⟩
            have hba := hm.below hbl.size (fun i hi => (t.rat.fp_lt hi).1)
            replace ho := ho.rmove t hm hf
            replace ho1 := ho1.rmove t hm hf
            replace t := t2
            replace hbl := hbl.trans hba
            clear hba hwr hm hf t2
            refine hK.out _ _ (HA.out.2.1.keep (hbl.block _ HA.out.1)) (fun _ => ?_)
            clear hK K; (try simp only [Act.put, sI, sZ, sS])
            refine wpAnyH_take (i := 13) (oi := ⟨some 37, _, _, _, _, _⟩) (v := ?_) rfl (by kernel_rfl) (by kernel_rfl) (by kernel_rfl) (fun _ _ _ h => h) (Or.inl ⟨by kernel_rfl, ?_⟩) (by assumption) ?_; rotate_left; (intro X hX; (try dsimp only at hX); obtain ⟨r0, r1⟩ := hX; go_simp; first | done | with_reducible rfl); (try simp only [Act.put, sI, sZ, sS])
            refine wpAnyH_take (i := 14) (oi := ⟨some 51, _, _, _, _, _⟩) (v := ?_) rfl (by kernel_rfl) (by kernel_rfl) (by kernel_rfl) (fun _ _ _ h => h) (Or.inl ⟨by kernel_rfl, ?_⟩) (by assumption) ?_; rotate_left; (intro X hX; (try dsimp only at hX); obtain ⟨r0, r1⟩ := hX; go_simp; first | done | with_reducible rfl); (try simp only [Act.put, sI, sZ, sS])
            refine wpAnyH_take (i := 15) (oi := ⟨some 52, _, _, _, _, _⟩) (v := ?_) rfl (by kernel_rfl) (by kernel_rfl) (by kernel_rfl) (fun _ _ _ h => h) (Or.inl ⟨by kernel_rfl, ?_⟩) (by assumption) ?_; rotate_left; (intro X hX; (try dsimp only at hX); obtain ⟨r0, r1⟩ := hX; go_simp; first | done | with_reducible rfl); (try simp only [Act.put, sI, sZ, sS])
            refine wpAnyH_ready (rs := [17]) (by kernel_rfl) (by simp) ?_
            refine AllReadyH.cons (o := ⟨none, _, _, _, _, _⟩) rfl (fun K hK => ?_) AllReadyH.nil
            rw [if_pos (by rfl)]
            have q0 := cell_of_row (i := 0) ho.1 rfl
            have f0 := free_of_row (i := 0) ho.1
            have q1 := cell_of_row (i := 1) ho.1 rfl
            have f1 := free_of_row (i := 1) ho.1
            have q2 := cell_of_row (i := 2) ho.1 rfl
            have f2 := free_of_row (i := 2) ho.1
            have q3 := cell_of_row (i := 3) ho.1 rfl
            have f3 := free_of_row (i := 3) ho.1
            have q4 := cell_of_row (i := 4) ho.1 rfl
            have f4 := free_of_row (i := 4) ho.1
            have q5 := cell_of_row (i := 5) ho.1 rfl
            have f5 := free_of_row (i := 5) ho.1
            have q6 := cell_of_row (i := 6) ho.1 rfl
            have f6 := free_of_row (i := 6) ho.1
            go_simp
            clear q0 f0 q1 f1 q2 f2 q3 f3 q4 f4 q5 f5 q6 f6
            obtain ⟨s7, m7⟩ := set_seven (.bool b2) (.int .i64 m2) (.int .i8 0) (.int .i64 0) (.string ⟨#[]⟩) (.string ⟨#[]⟩) (.slice none 0 0) ho.1
            generalize ((((((X12.setCell ⟨g16, 0, none⟩ (.bool b2)).setCell ⟨g16, 1, none⟩ (.int .i64 m2)).setCell ⟨g16, 2, none⟩ (.int .i8 0)).setCell ⟨g16, 3, none⟩ (.int .i64 0)).setCell ⟨g16, 4, none⟩ (.string ⟨#[]⟩)).setCell ⟨g16, 5, none⟩ (.string ⟨#[]⟩)).setCell ⟨g16, 6, none⟩ (.slice none 0 0) = X17 at s7 m7 ⊢
            replace ho1 := ho1.other ho hne16 m7
            replace t := t.write ho m7
            have hbm := m7.below hbl.size (fun k e => by rw [e]; exact ho.2.1)
            replace hbl := hbl.trans hbm
            replace ho := ho.self m7 s7
            clear m7 s7 hbm
            refine hK.out _ _ (HA.out.2.1.keep (hbl.block _ HA.out.1)) (fun _ => ?_)
            clear hK K; (try simp only [Act.put, sI, sZ, sS])
            refine wpAnyH_take (i := 18) (oi := ⟨some 11, _, _, _, _, _⟩) (v := ?_) rfl (by kernel_rfl) (by kernel_rfl) (by kernel_rfl) (fun _ _ _ h => h) (Or.inl ⟨by kernel_rfl, ?_⟩) (by assumption) ?_; rotate_left; (intro X hX; (try dsimp only at hX); obtain ⟨r0, r1⟩ := hX; go_simp; first | done | with_reducible rfl); (try simp only [Act.put, sI, sZ, sS])
            refine wpAnyH_done (by kernel_rfl) ?_ _
            have HF := Lib.hid (And.intro t (And.intro hbl (And.intro ho (And.intro ho1 hv2))))
            clear t hbl ho ho1 hv2
            go_wp2_with fail
            go_meet
            exact ⟨g16, b2, m2, E2, CS2, G2, rfl, rfl, HF⟩
        case rest =>
          clear HT HB HO1
          obtain ⟨g2, b2, m2, E2, CS2, G2, rfl, rfl, HF2⟩ := hcut
          obtain ⟨t, hbl, ho2, ho1, hv2⟩ := HF2.out
          obtain ⟨⟨v1, v2, v3⟩, hcs1⟩ := HV1.out
          obtain ⟨u1, u2, u3⟩ := hv2
          obtain rfl : b1 = b2 := v1.trans u1.symm
          obtain rfl : m1 = m2 := v2.trans u2.symm
          obtain rfl : E1 = E2 := v3.trans u3.symm
          rw [← hcs1] at t
          have HT := Lib.hid t
          have HB := Lib.hid hbl
          have HC1 := Lib.hid hcs1
          clear v1 v2 v3 u1 u2 u3 t hbl HF2 HV1
          have p0 := cell_of_row (i := 0) ho1.1 rfl
          have q0 := cell_of_row (i := 0) ho2.1 rfl
          have p1 := cell_of_row (i := 1) ho1.1 rfl
          have q1 := cell_of_row (i := 1) ho2.1 rfl
          have p2 := cell_of_row (i := 2) ho1.1 rfl
          have q2 := cell_of_row (i := 2) ho2.1 rfl
          have p3 := cell_of_row (i := 3) ho1.1 rfl
          have q3 := cell_of_row (i := 3) ho2.1 rfl
          have p4 := cell_of_row (i := 4) ho1.1 rfl
          have q4 := cell_of_row (i := 4) ho2.1 rfl
          have p5 := cell_of_row (i := 5) ho1.1 rfl
          have q5 := cell_of_row (i := 5) ho2.1 rfl
          have p6 := cell_of_row (i := 6) ho1.1 rfl
          have q6 := cell_of_row (i := 6) ho2.1 rfl
          clear ho1 ho2 hcs1
          go_wp2_with fail
          refine (sameWord_self5 (fun P W => iW_at P W) _).mono ?_
          rintro e w' ⟨rfl, bq⟩
          have HBQ := Lib.hid bq
          clear bq
          go_wp2_with fail
          go_roundw
          case rel => exact ⟨j + 1, by omega, by go_num, ⟨s1, CS2, G2, HT.out.under HBQ.out, by rw [HC1.out, csB_take HCS.out.2, HCS.out.1]⟩, HB.out.trans (HBQ.out.mono HB.out.size)⟩
          case measure => simp [intOf]; omega
    · obtain rfl : j = l.length := by omega
      obtain ⟨s, CS, G, ht, hcs⟩ := HTT.out
      rw [List.take_length] at hcs
      have HT := Lib.hid (And.intro ht hcs)
      clear ht hcs
      go_wp2_with fail
      refine bodyPost_ret (v := .tuple #[.pointer (some ⟨w.heap.size, 0, none⟩), .pointer (some ⟨rb, 0, none⟩), .bool true]) (by simp [results, Tryz.f9, go_sem]) rfl ?_
      exact ⟨rb, s, CS, G, rfl, HT.out.1, HT.out.2, HB.out⟩
end Go.Proofs.YtaemfjmmklpjeaaGreatDoor
set_option linter.unusedVariables false
namespace Go.Proofs.YtaemfjmmklpjeaaGreatDoor
open Go.RowKit

end Go.Proofs.YtaemfjmmklpjeaaGreatDoor
